/-
  visit of package frontcode, handed one of the two function literals; Decode and At. Nothing that was there is changed.
-/
import Derived.Test.YtcpdgkjelghlnaaFc2
import Derived.Test.YtcpdgkjelghlnaaFc5
namespace Go.Proofs.Ytcpdgkjelghlnaa
open Go.RowKit
set_option linter.unusedVariables false
set_option linter.unusedSimpArgs false

theorem row_keeps {wr w' : World} {b g n sz : Nat} {e E : TypeId} {v : Value} {xs ys : List Value} (hown : wr.ownsRow b e sz v n xs) (hg : wr.grownBy w' v.ownBlock) (hr : Row wr g E ys) (hne : E ≠ e) : Row w' g E ys := by
  refine (hg.block g hr.lt ?_).trans hr
  intro he
  rcases hown.2 with ⟨rfl, _⟩ | ⟨g', cap, cur, rfl, _, h1, _⟩
  · cases he
  · simp only [Value.ownBlock, Option.some.injEq] at he
    subst he
    unfold Row at hr
    rw [h1] at hr
    injection hr with hr
    injection hr with _ h2 _
    exact hne h2.symm
theorem own_set {w : World} {base B i n : Nat} {e E : TypeId} {v : Value} {xs ys : List Value} (h : w.ownsRow base e 1 v n xs) (hr : Row w B E ys) (hne : E ≠ e) (u : Value) : (w.setCell ⟨B, i, none⟩ u).ownsRow base e 1 v n xs := by
  refine ⟨h.1, ?_⟩
  rcases h.2 with h0 | ⟨g, cap, cur, h1, h2, h3, h4⟩
  · exact .inl h0
  · refine .inr ⟨g, cap, cur, h1, h2, ?_, h4⟩
    rw [Below.heap_setCell]
    · exact h3
    · intro hg
      have hg2 : g = B := hg
      subst hg2
      unfold Row at hr
      rw [h3] at hr
      injection hr with hr
      injection hr with _ h2 _
      exact hne h2.symm
theorem wpList_append_sk {wr : World} {ops : Array Oper} {rest : List Oper} {o : Oper} {a : Act} {Q : Exit → Act → World → Prop} (hgd : o.guard = none) (s x : Operand)
    (ho : o.op = .call { callee := .builtin .append, args := #[s, x], argTypes := #[22, 22] })
    (v : Value) (pre : List Str) (hs : a.eval s = v) (base : Nat) (hown : wr.ownsRow base 9 1 v pre.length (scells pre)) (w0 : World) (hb : Below base w0 wr) (hbase : base ≤ wr.heap.size)
    (z : Str) (b : ByteArray) (hz : b = strOf z) (hx : a.eval x = .slice (some ⟨wr.heap.size, 0, none⟩) 1 1) (hlen : pre.length + 1 ≤ 1000000000000)
    (h : ∀ v' w', w'.ownsRow base 9 1 v' (pre ++ [z]).length (scells (pre ++ [z])) → Below base w0 w' → (∀ g E ys, E ≠ 9 → Row wr g E ys → Row w' g E ys) → wpList Try.prog ops Q rest (a.put o.dst v') w') :
    wpList Try.prog ops Q (o :: rest) a (wr.alloc (.cells #[.string b] 9)) := by
  subst hz
  obtain ⟨i0, hi, hz0, hz1, hz2⟩ := info_parts info_str
  refine wpList_append_own _ hgd s x 22 ho base 9 i0 (.string ⟨#[]⟩) 1 16 Try.underlying22 hi hz0 hz1 hz2 rfl (by decide) v pre.length (scells pre) hs (hown.alloc _) ⟨wr.heap.size, 0, none⟩ 1 1 [.string (strOf z)] hx rfl ?_ ?_ ?_ ?_ ?_ ?_
  · intro j u hj
    match j, hj with
    | 0, hj => simp at hj; subst hj; simp [Addr.add]
  · intro u hu; simp at hu; subst hu; rfl
  · unfold maxLen; omega
  · omega
  · simp; omega
  · intro v' w' h1 h2 _
    rw [← scells_snoc, show pre.length + 1 = (pre ++ [z]).length by simp] at h1
    exact h v' w' h1 ((hb.alloc hbase _).grown h2 (by simp; omega) (fun k hk => (hown.lt k hk).1))
      (fun g E ys hne hr => row_keeps (hown.alloc _) h2 (hr.grow (growA _)) hne)
theorem own_shape {w : World} {base : Nat} {e : TypeId} {v : Value} {l : List Str} (h : w.ownsRow base e 1 v l.length (scells l)) : ∃ A c N, N = l.length ∧ v = .slice A N c := by
  obtain ⟨A, c, h⟩ := own_sliceS h
  exact ⟨A, c, _, rfl, h⟩
/-- what Decode's variable holds -/
structure DecSt (w0 : World) (B : Nat) (ws : List Str) (W : World) : Prop where
  gr : Grows w0 W
  hB : w0.heap.size ≤ B
  var : ∃ v, Row W B 22 [v] ∧ W.ownsRow w0.heap.size 9 1 v ws.length (scells ws)
theorem DecSt.keep {w0 W W' : World} {B : Nat} {ws : List Str} (h : DecSt w0 B ws W) (hg : Grows W W') : DecSt w0 B ws W' := by
  obtain ⟨v, h1, h2⟩ := h.var
  exact ⟨h.gr.of_below hg, h.hB, v, h1.grow hg, own_growS h2 hg⟩
set_option maxHeartbeats 2000000 in
theorem dec_lit_any (w0 : World) (B : Nat) (ws : List Str) (s : Str) (W : World) (h : DecSt w0 B ws W) (hl : ws.length ≤ 65536) :
    Calls Try.prog 26 #[.string (strOf s), .pointer (some ⟨B, 0, none⟩)] W fun e W' => (∃ x, e = .returned x) ∧ DecSt w0 B (ws ++ [s]) W' := by
  obtain ⟨v, hr, ho⟩ := h.var
  have hc := hr.cell 0
  simp only [List.getElem?_cons_zero] at hc
  have HR := hidden hr
  have HO := hidden ho
  have HG := hidden h.gr
  have hsz := h.gr.size
  have HHB := hidden h.hB
  have HL := hidden (show ws.length + 1 ≤ 1000000000000 by omega)
  clear h hr ho hl
  go_enter Try.func26, Try.ntmps26
  go_wp2_with ((at_builtin; go_loud (refine wpList_append_sk rfl _ _ rfl _ ws (by rfl) w0.heap.size HO.out w0 HG.out hsz s _ rfl (by rfl) HL.out ?_); intro v5 w5 hown5 hb5 hk5; obtain ⟨A5, d5, N5, hN5, rfl⟩ := own_shape hown5; rw [← hN5] at hown5; have HN5 := hidden hN5; clear hN5; have HO5 := hidden hown5; have HB5 := hidden hb5; have HR5 := hidden (hk5 B 22 [v] (by decide) HR.out); have f5 := HR5.out.frozen 0; have c5 := HR5.out.cell 0; simp only [List.getElem?_cons_zero] at c5; clear hown5 hb5 hk5))
  go_end0
  exact ⟨⟨_, rfl⟩, HB5.out.setCell (p := ⟨B, 0, none⟩) HHB.out _, HHB.out, .slice A5 N5 d5, HR5.out.set_ 0 _, by rw [← HN5.out]; exact own_set HO5.out HR5.out (by decide) _⟩
/-- what At's variable holds -/
structure AtSt (w0 : World) (B : Nat) (ws : List Str) (W : World) : Prop where
  gr : Grows w0 W
  hB : w0.heap.size ≤ B
  var : Row W B 9 [.string (strOf (ws.getD (ws.length - 1) []))]
theorem AtSt.keep {w0 W W' : World} {B : Nat} {ws : List Str} (h : AtSt w0 B ws W) (hg : Grows W W') : AtSt w0 B ws W' := ⟨h.gr.of_below hg, h.hB, h.var.grow hg⟩
theorem last_snoc (ws : List Str) (s : Str) : (ws ++ [s]).getD ((ws ++ [s]).length - 1) [] = s := by
  rw [List.length_append, List.length_singleton, Nat.add_sub_cancel]
  have h : (ws ++ [s]).getD (ws.length + 0) [] = [s].getD 0 [] := getD_append_r
  rw [Nat.add_zero] at h
  rw [h]
  rfl
set_option maxHeartbeats 2000000 in
theorem at_lit_any (w0 : World) (B : Nat) (ws : List Str) (s : Str) (W : World) (h : AtSt w0 B ws W) :
    Calls Try.prog 29 #[.string (strOf s), .pointer (some ⟨B, 0, none⟩)] W fun e W' => (∃ x, e = .returned x) ∧ AtSt w0 B (ws ++ [s]) W' := by
  have HR := hidden h.var
  have hc := h.var.cell 0
  have hf := h.var.frozen 0
  simp only [List.getElem?_cons_zero] at hc
  have HG := hidden h.gr
  have HHB := hidden h.hB
  clear h
  go_enter Try.func29, Try.ntmps29
  go_wp2_with fail
  go_end0
  refine ⟨⟨_, rfl⟩, HG.out.setCell (p := ⟨B, 0, none⟩) HHB.out _, HHB.out, ?_⟩
  rw [last_snoc]
  exact HR.out.set_ 0 _
theorem prvL_snoc {ws : List Str} {s : Str} {j : Nat} (hj : ws.length = j) (h : (j + 1) % 16 ≠ 0) : s = prvL (ws ++ [s]) := by
  unfold prvL prvAt
  rw [List.length_append, List.length_singleton, hj, if_neg h, Nat.add_sub_cancel, ← hj]
  have h : (ws ++ [s]).getD (ws.length + 0) [] = [s].getD 0 [] := getD_append_r
  rw [Nat.add_zero] at h
  rw [h]
  rfl
def VisR (w0 : World) (St : List Str → World → Prop) (R : List Str × Int × Int) (e : Ending) (w' : World) : Prop := e = .returned (.tuple #[.int .i64 R.2.1, .int .i64 R.2.2]) ∧ Grows w0 w' ∧ (R.2.2 = 0 → St R.1 w')
theorem VisR.err {w0 w' : World} {St : List Str → World → Prop} {R : List Str × Int × Int} {f : Int} (h : R = ([], 0, f)) (hf : f ≠ 0) (hg : Grows w0 w') : VisR w0 St R (.returned (.tuple #[.int .i64 0, .int .i64 f])) w' := by
  subst h
  exact ⟨rfl, hg, fun h => absurd h hf⟩
def VisRel (b : List UInt8) (n : Nat) (R : List Str × Int × Int) (St : List Str → World → Prop) (off prev i : Value) (wr : World) : Prop :=
  ∃ (j q : Nat) (ws : List Str) (pv : Str), j ≤ n ∧ i = .int .i64 (j : Int) ∧ off = .int .i64 (q : Int) ∧ prev = .string (strOf pv) ∧ q ≤ b.length ∧ ws.length = j ∧ pv.length ≤ q ∧ (j % 16 ≠ 0 → pv = prvL ws) ∧ rdFs b (n - j) ws q = R ∧ St ws wr
set_option maxRecDepth 8000 in
set_option maxHeartbeats 4000000 in
theorem visit_any (F : FuncId) (hF : ∀ args W, (callFunc F args).run Try.prog W = .ok (.enter F args) W) (c1 : Value) (St : List Str → World → Prop) (w0 w : World) (A : Option Addr) (c : Nat) (b : List UInt8) (o n : Nat) (hb : IsBytes w0 (.slice A b.length c) b) (hlc : b.length ≤ c) (hl : b.length ≤ 1000000000) (ho : o ≤ b.length) (hn : n ≤ 65536) (hst : St [] w)
    (hgr : ∀ ws W, St ws W → Grows w0 W) (hkeep : ∀ ws W W', St ws W → Grows W W' → St ws W')
    (hcall : ∀ ws s W, St ws W → ws.length ≤ 65536 → Calls Try.prog F #[.string (strOf s), c1] W fun e W' => (∃ x, e = .returned x) ∧ St (ws ++ [s]) W') :
    Calls Try.prog 27 #[.slice A b.length c, .int .i64 (o : Int), .int .i64 (n : Int), .func (.func F) #[] #[c1]] w (VisR w0 St (rdFs b n [] o)) := by
  have HV := hidden hb
  have HLC := hidden hlc
  have HGR := hidden hgr
  have HKEEP := hidden hkeep
  have HCALL := hidden hcall
  have HST := hidden hst
  obtain ⟨R, hR⟩ : ∃ R, R = rdFs b n [] o := ⟨_, rfl⟩
  rw [← hR]
  have HR := hidden hR
  have HO := hidden ho
  clear hb hlc hgr hkeep hcall hst hR ho
  go_enter Try.func27, Try.ntmps27
  go_wp2_with fail
  go_loopw [1, 10, 16] (fun off prev i wr => VisRel b n R St off prev i wr) (fun _ _ i _ => n - (intOf i).toNat)
  case atStart => exact ⟨0, o, [], [], by omega, rfl, rfl, rfl, HO.out, rfl, Nat.zero_le _, fun h => absurd rfl h, HR.out.symm, HST.out⟩
  case round =>
    obtain ⟨j, q, ws, pv, hj, rfl, rfl, rfl, hq, hwl, hpv, hpp, hres, hst⟩ := hrel
    have HWL := hidden hwl
    have HPP := hidden hpp
    have HRES := hidden hres
    have HS := hidden hst
    have HQ := hidden hq
    clear hwl hpp hres hst
    by_cases hlt : j < n
    · obtain ⟨f, hf⟩ : ∃ f, n - j = f + 1 := ⟨n - j - 1, by omega⟩
      have HF := hidden (show n - (j + 1) = f by omega)
      rw [hf] at HRES
      obtain ⟨rb, hrb⟩ : ∃ rb, rb = decide (j % 16 = 0) := ⟨_, rfl⟩
      have HRS := hidden (isRestart_any j wr (by omega))
      rw [← hrb] at HRS
      have hpq : (if rb then [] else pv) = prvL ws := by
        rw [hrb]
        by_cases h0 : j % 16 = 0
        · unfold prvL prvAt
          rw [HWL.out, if_pos h0, decide_eq_true h0]
          rfl
        · rw [decide_eq_false h0, ← HPP.out h0]
          rfl
      have hpl : (prvL ws).length ≤ q := by
        rw [← hpq]; cases rb <;> simp <;> omega
      have HRD := hidden (readString_any A c b q pv rb wr (HV.out.grow (HGR.out _ _ HS.out)) HLC.out hl hq (by omega))
      rw [hpq] at HRD
      by_cases he : (rdF b q (prvL ws)).2.2 = 0
      · obtain ⟨s, k, hrw, hk, _, hsl⟩ := rdF_acc hq he
        have HN2 := hidden (show rdFs b f (ws ++ [s]) ((q + k : Nat) : Int) = R by
          have h2 := HRES.out
          rw [rdFs_n hrw] at h2
          exact h2)
        rw [hrw] at HRD
        obtain ⟨q4, hq4⟩ : ∃ q4, q4 = q + k := ⟨_, rfl⟩
        rw [← hq4] at HRD HN2 hk
        have HQ4 := hidden (show s.length ≤ q4 by omega)
        clear he hf hrw hq4 hpq hpl hpv hrb hsl
        go_wp2_with fail
        refine HRS.out.mono ?_
        rintro e w2 ⟨rfl, rfl⟩
        go_wp2_with fail
        refine HRD.out.mono ?_
        rintro e w3 ⟨rfl, g3⟩
        have HCL := hidden (HCALL.out ws s w3 (HKEEP.out _ _ _ HS.out g3) (by rw [HWL.out]; omega))
        clear g3
        go_wp2_with fail
        refine HCL.out.mono ?_
        rintro e w4 ⟨⟨x, rfl⟩, hst4⟩
        have HS4 := hidden hst4
        clear hst4
        go_wp2_with fail
        first
          | exact ⟨⟨j + 1, q4, ws ++ [s], s, by omega, by go_num, rfl, rfl, hk, by rw [List.length_append, List.length_singleton, HWL.out], HQ4.out, prvL_snoc HWL.out, by rw [HF.out]; exact HN2.out, HS4.out⟩, by simp [intOf]; omega⟩
          | (go_roundw; (case rel => exact ⟨j + 1, q4, ws ++ [s], s, by omega, by go_num, rfl, rfl, hk, by rw [List.length_append, List.length_singleton, HWL.out], HQ4.out, prvL_snoc HWL.out, by rw [HF.out]; exact HN2.out, HS4.out⟩); (case measure => simp [intOf]; omega))
      · have HN2 := hidden (show R = ([], 0, (rdF b q (prvL ws)).2.2) by
          have h2 := HRES.out
          rw [rdFs_e he] at h2
          exact h2.symm)
        have hne : ((rdF b q (prvL ws)).2.2 != 0) = true := by simpa using he
        have HNE := hidden he
        generalize rdF b q (prvL ws) = r at *
        obtain ⟨r1, r2, r3⟩ := r
        simp only [] at hne HRD HN2 HNE
        clear he hf hpq hpl hpv hrb
        go_wp2_with fail
        refine HRS.out.mono ?_
        rintro e w2 ⟨rfl, rfl⟩
        go_wp2_with fail
        refine HRD.out.mono ?_
        rintro e w3 ⟨rfl, g3⟩
        have HG3 := hidden ((HGR.out _ _ HS.out).of_below g3)
        clear g3
        go_wp2_with fail
        go_ret2
        exact VisR.err HN2.out HNE.out HG3.out
    · have hje : n - j = 0 := by omega
      rw [hje] at HRES
      have HN2 := hidden (show R = (ws, (q : Int), 0) from HRES.out.symm)
      clear hje hpv
      go_wp2_with fail
      go_ret2
      exact ⟨by rw [HN2.out]; rfl, HGR.out _ _ HS.out, fun _ => by rw [HN2.out]; exact HS.out⟩
end Go.Proofs.Ytcpdgkjelghlnaa
