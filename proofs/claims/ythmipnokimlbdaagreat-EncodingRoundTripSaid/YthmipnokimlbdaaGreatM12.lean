/-
  Texts that the claims of this seat share, put together (Fc6, Fr1, Rl2, Fc7, Rl3, Rl4, Rl5, Rl6, Rl7). No condition.
-/
import Derived.Test.YthmipnokimlbdaaGreatFc2
import Derived.Test.YthmipnokimlbdaaGreatM11
import Derived.Test.YthmipnokimlbdaaGreatM1
import Derived.Test.YthmipnokimlbdaaGreatM5
import Derived.Test.YthmipnokimlbdaaGreatM2
import Derived.Test.YthmipnokimlbdaaGreatM6
import Derived.Lib.MinMax
import Derived.WalkKit
import Derived.Outline
import Derived.OwnWalk
import Derived.Deep.QuietTactic
import Derived.BigQuiet
import Derived.Test.YthmipnokimlbdaaGreatM10
import Derived.Maps.AppendAt
import Derived.Test.YthmipnokimlbdaaGreatCat
/-
  Shaken: what the claims of this seat need of this text. No condition.
-/
namespace Go.Proofs.YthmipnokimlbdaaGreat
open Go.RowKit
set_option linter.unusedVariables false
set_option linter.unusedSimpArgs false
theorem row_keeps {wr w' : World} {b g n sz : Nat} {e E : TypeId} {v : Value} {xs ys : List Value} (hown : wr.ownsRow b e sz v n xs) (hg : wr.grownBy w' v.ownBlock) (hr : Row wr g E ys) (hne : E ≠ e) : Row w' g E ys := by
  refine (hg.block g hr.lt ?_).trans hr
  intro he
  rcases hown.2 with ⟨rfl, _⟩ | ⟨g', cap, cur, rfl, _, h1, _⟩
  · cases he
  · simp only [Value.ownBlock, Option.some.injEq] at he
    subst he
    unfold Row at hr
    rw [h1] at hr
    injection hr with hr
    injection hr with _ h2 _
    exact hne h2.symm
theorem own_set {w : World} {base B i n : Nat} {e E : TypeId} {v : Value} {xs ys : List Value} (h : w.ownsRow base e 1 v n xs) (hr : Row w B E ys) (hne : E ≠ e) (u : Value) : (w.setCell ⟨B, i, none⟩ u).ownsRow base e 1 v n xs := by
  refine ⟨h.1, ?_⟩
  rcases h.2 with h0 | ⟨g, cap, cur, h1, h2, h3, h4⟩
  · exact .inl h0
  · refine .inr ⟨g, cap, cur, h1, h2, ?_, h4⟩
    rw [Below.heap_setCell]
    · exact h3
    · intro hg
      have hg2 : g = B := hg
      subst hg2
      unfold Row at hr
      rw [h3] at hr
      injection hr with hr
      injection hr with _ h2 _
      exact hne h2.symm
theorem wpList_append_sk {wr : World} {ops : Array Oper} {rest : List Oper} {o : Oper} {a : Act} {Q : Exit → Act → World → Prop} (hgd : o.guard = none) (s x : Operand)
    (ho : o.op = .call { callee := .builtin .append, args := #[s, x], argTypes := #[23, 23] })
    (v : Value) (pre : List Str) (hs : a.eval s = v) (base : Nat) (hown : wr.ownsRow base 9 1 v pre.length (scells pre)) (w0 : World) (hb : Below base w0 wr) (hbase : base ≤ wr.heap.size)
    (z : Str) (b : ByteArray) (hz : b = strOf z) (hx : a.eval x = .slice (some ⟨wr.heap.size, 0, none⟩) 1 1) (hlen : pre.length + 1 ≤ 1000000000000)
    (h : ∀ v' w', w'.ownsRow base 9 1 v' (pre ++ [z]).length (scells (pre ++ [z])) → Below base w0 w' → (∀ g E ys, E ≠ 9 → Row wr g E ys → Row w' g E ys) → wpList Tryz.prog ops Q rest (a.put o.dst v') w') :
    wpList Tryz.prog ops Q (o :: rest) a (wr.alloc (.cells #[.string b] 9)) := by
  subst hz
  obtain ⟨i0, hi, hz0, hz1, hz2⟩ := info_parts info_str
  refine wpList_append_own _ hgd s x 23 ho base 9 i0 (.string ⟨#[]⟩) 1 16 Tryz.underlying23 hi hz0 hz1 hz2 rfl (by decide) v pre.length (scells pre) hs (hown.alloc _) ⟨wr.heap.size, 0, none⟩ 1 1 [.string (strOf z)] hx rfl ?_ ?_ ?_ ?_ ?_ ?_
  · intro j u hj
    match j, hj with
    | 0, hj => simp at hj; subst hj; simp [Addr.add]
  · intro u hu; simp at hu; subst hu; rfl
  · unfold maxLen; omega
  · omega
  · simp; omega
  · intro v' w' h1 h2 _
    rw [← scells_snoc, show pre.length + 1 = (pre ++ [z]).length by simp] at h1
    exact h v' w' h1 ((hb.alloc hbase _).grown h2 (by simp; omega) (fun k hk => (hown.lt k hk).1))
      (fun g E ys hne hr => row_keeps (hown.alloc _) h2 (hr.grow (growA _)) hne)
theorem own_shape {w : World} {base : Nat} {e : TypeId} {v : Value} {l : List Str} (h : w.ownsRow base e 1 v l.length (scells l)) : ∃ A c N, N = l.length ∧ v = .slice A N c := by
  obtain ⟨A, c, h⟩ := own_sliceS h
  exact ⟨A, c, _, rfl, h⟩
structure DecSt (w0 : World) (B : Nat) (ws : List Str) (W : World) : Prop where
  gr : Grows w0 W
  hB : w0.heap.size ≤ B
  var : ∃ v, Row W B 23 [v] ∧ W.ownsRow w0.heap.size 9 1 v ws.length (scells ws)
theorem DecSt.keep {w0 W W' : World} {B : Nat} {ws : List Str} (h : DecSt w0 B ws W) (hg : Grows W W') : DecSt w0 B ws W' := by
  obtain ⟨v, h1, h2⟩ := h.var
  exact ⟨h.gr.of_below hg, h.hB, v, h1.grow hg, own_growS h2 hg⟩
set_option maxHeartbeats 2000000 in
theorem dec_lit_any (w0 : World) (B : Nat) (ws : List Str) (s : Str) (W : World) (h : DecSt w0 B ws W) (hl : ws.length ≤ 65536) :
    Calls Tryz.prog 175 #[.string (strOf s), .pointer (some ⟨B, 0, none⟩)] W fun e W' => (∃ x, e = .returned x) ∧ DecSt w0 B (ws ++ [s]) W' := by
  obtain ⟨v, hr, ho⟩ := h.var
  have hc := hr.cell 0
  simp only [List.getElem?_cons_zero] at hc
  have HR := hidden hr
  have HO := hidden ho
  have HG := hidden h.gr
  have hsz := h.gr.size
  have HHB := hidden h.hB
  have HL := hidden (show ws.length + 1 ≤ 1000000000000 by omega)
  clear h hr ho hl
  go_enter Tryz.func175, Tryz.ntmps175
  go_wp2_with ((at_builtin; go_loud (refine wpList_append_sk rfl _ _ rfl _ ws (by rfl) w0.heap.size HO.out w0 HG.out hsz s _ rfl (by rfl) HL.out ?_); intro v5 w5 hown5 hb5 hk5; obtain ⟨A5, d5, N5, hN5, rfl⟩ := own_shape hown5; rw [← hN5] at hown5; have HN5 := hidden hN5; clear hN5; have HO5 := hidden hown5; have HB5 := hidden hb5; have HR5 := hidden (hk5 B 23 [v] (by decide) HR.out); have f5 := HR5.out.frozen 0; have c5 := HR5.out.cell 0; simp only [List.getElem?_cons_zero] at c5; clear hown5 hb5 hk5))
  go_end0
  exact ⟨⟨_, rfl⟩, HB5.out.setCell (p := ⟨B, 0, none⟩) HHB.out _, HHB.out, .slice A5 N5 d5, HR5.out.set_ 0 _, by rw [← HN5.out]; exact own_set HO5.out HR5.out (by decide) _⟩
structure AtSt (w0 : World) (B : Nat) (ws : List Str) (W : World) : Prop where
  gr : Grows w0 W
  hB : w0.heap.size ≤ B
  var : Row W B 9 [.string (strOf (ws.getD (ws.length - 1) []))]
theorem AtSt.keep {w0 W W' : World} {B : Nat} {ws : List Str} (h : AtSt w0 B ws W) (hg : Grows W W') : AtSt w0 B ws W' := ⟨h.gr.of_below hg, h.hB, h.var.grow hg⟩
theorem prvL_snoc {ws : List Str} {s : Str} {j : Nat} (hj : ws.length = j) (h : (j + 1) % 16 ≠ 0) : s = prvL (ws ++ [s]) := by
  unfold prvL prvAt
  rw [List.length_append, List.length_singleton, hj, if_neg h, Nat.add_sub_cancel, ← hj]
  have h : (ws ++ [s]).getD (ws.length + 0) [] = [s].getD 0 [] := getD_append_r
  rw [Nat.add_zero] at h
  rw [h]
  rfl
def VisR (w0 : World) (St : List Str → World → Prop) (R : List Str × Int × Int) (e : Ending) (w' : World) : Prop := e = .returned (.tuple #[.int .i64 R.2.1, .int .i64 R.2.2]) ∧ Grows w0 w' ∧ (R.2.2 = 0 → St R.1 w')
theorem VisR.err {w0 w' : World} {St : List Str → World → Prop} {R : List Str × Int × Int} {f : Int} (h : R = ([], 0, f)) (hf : f ≠ 0) (hg : Grows w0 w') : VisR w0 St R (.returned (.tuple #[.int .i64 0, .int .i64 f])) w' := by
  subst h
  exact ⟨rfl, hg, fun h => absurd h hf⟩
def VisRel (b : List UInt8) (n : Nat) (R : List Str × Int × Int) (St : List Str → World → Prop) (off prev i : Value) (wr : World) : Prop :=
  ∃ (j q : Nat) (ws : List Str) (pv : Str), j ≤ n ∧ i = .int .i64 (j : Int) ∧ off = .int .i64 (q : Int) ∧ prev = .string (strOf pv) ∧ q ≤ b.length ∧ ws.length = j ∧ pv.length ≤ q ∧ (j % 16 ≠ 0 → pv = prvL ws) ∧ rdFs b (n - j) ws q = R ∧ St ws wr
set_option maxRecDepth 8000 in
set_option maxHeartbeats 4000000 in
theorem visit_any (F : FuncId) (hF : ∀ args W, (callFunc F args).run Tryz.prog W = .ok (.enter F args) W) (c1 : Value) (St : List Str → World → Prop) (w0 w : World) (A : Option Addr) (c : Nat) (b : List UInt8) (o n : Nat) (hb : IsBytes w0 (.slice A b.length c) b) (hlc : b.length ≤ c) (hl : b.length ≤ 1000000000) (ho : o ≤ b.length) (hn : n ≤ 65536) (hst : St [] w)
    (hgr : ∀ ws W, St ws W → Grows w0 W) (hkeep : ∀ ws W W', St ws W → Grows W W' → St ws W')
    (hcall : ∀ ws s W, St ws W → ws.length ≤ 65536 → Calls Tryz.prog F #[.string (strOf s), c1] W fun e W' => (∃ x, e = .returned x) ∧ St (ws ++ [s]) W') :
    Calls Tryz.prog 176 #[.slice A b.length c, .int .i64 (o : Int), .int .i64 (n : Int), .func (.func F) #[] #[c1]] w (VisR w0 St (rdFs b n [] o)) := by
  have HV := hidden hb
  have HLC := hidden hlc
  have HGR := hidden hgr
  have HKEEP := hidden hkeep
  have HCALL := hidden hcall
  have HST := hidden hst
  obtain ⟨R, hR⟩ : ∃ R, R = rdFs b n [] o := ⟨_, rfl⟩
  rw [← hR]
  have HR := hidden hR
  have HO := hidden ho
  clear hb hlc hgr hkeep hcall hst hR ho
  go_enter Tryz.func176, Tryz.ntmps176
  go_wp2_with fail
  go_loopw [1, 10, 16] (fun off prev i wr => VisRel b n R St off prev i wr) (fun _ _ i _ => n - (intOf i).toNat)
  case atStart => exact ⟨0, o, [], [], by omega, rfl, rfl, rfl, HO.out, rfl, Nat.zero_le _, fun h => absurd rfl h, HR.out.symm, HST.out⟩
  case round =>
    obtain ⟨j, q, ws, pv, hj, rfl, rfl, rfl, hq, hwl, hpv, hpp, hres, hst⟩ := hrel
    have HWL := hidden hwl
    have HPP := hidden hpp
    have HRES := hidden hres
    have HS := hidden hst
    have HQ := hidden hq
    clear hwl hpp hres hst
    by_cases hlt : j < n
    · obtain ⟨f, hf⟩ : ∃ f, n - j = f + 1 := ⟨n - j - 1, by omega⟩
      have HF := hidden (show n - (j + 1) = f by omega)
      rw [hf] at HRES
      obtain ⟨rb, hrb⟩ : ∃ rb, rb = decide (j % 16 = 0) := ⟨_, rfl⟩
      have HRS := hidden (isRestart_any j wr (by omega))
      rw [← hrb] at HRS
      have hpq : (if rb then [] else pv) = prvL ws := by
        rw [hrb]
        by_cases h0 : j % 16 = 0
        · unfold prvL prvAt
          rw [HWL.out, if_pos h0, decide_eq_true h0]
          rfl
        · rw [decide_eq_false h0, ← HPP.out h0]
          rfl
      have hpl : (prvL ws).length ≤ q := by
        rw [← hpq]; cases rb <;> simp <;> omega
      have HRD := hidden (readString_any A c b q pv rb wr (HV.out.grow (HGR.out _ _ HS.out)) HLC.out hl hq (by omega))
      rw [hpq] at HRD
      by_cases he : (rdF b q (prvL ws)).2.2 = 0
      · obtain ⟨s, k, hrw, hk, _, hsl⟩ := rdF_acc hq he
        have HN2 := hidden (show rdFs b f (ws ++ [s]) ((q + k : Nat) : Int) = R by
          have h2 := HRES.out
          rw [rdFs_n hrw] at h2
          exact h2)
        rw [hrw] at HRD
        obtain ⟨q4, hq4⟩ : ∃ q4, q4 = q + k := ⟨_, rfl⟩
        rw [← hq4] at HRD HN2 hk
        have HQ4 := hidden (show s.length ≤ q4 by omega)
        clear he hf hrw hq4 hpq hpl hpv hrb hsl
        go_wp2_with fail
        refine HRS.out.mono ?_
        rintro e w2 ⟨rfl, rfl⟩
        go_wp2_with fail
        refine HRD.out.mono ?_
        rintro e w3 ⟨rfl, g3⟩
        have HCL := hidden (HCALL.out ws s w3 (HKEEP.out _ _ _ HS.out g3) (by rw [HWL.out]; omega))
        clear g3
        go_wp2_with fail
        refine HCL.out.mono ?_
        rintro e w4 ⟨⟨x, rfl⟩, hst4⟩
        have HS4 := hidden hst4
        clear hst4
        go_wp2_with fail
        first
          | exact ⟨⟨j + 1, q4, ws ++ [s], s, by omega, by go_num, rfl, rfl, hk, by rw [List.length_append, List.length_singleton, HWL.out], HQ4.out, prvL_snoc HWL.out, by rw [HF.out]; exact HN2.out, HS4.out⟩, by simp [intOf]; omega⟩
          | (go_roundw; (case rel => exact ⟨j + 1, q4, ws ++ [s], s, by omega, by go_num, rfl, rfl, hk, by rw [List.length_append, List.length_singleton, HWL.out], HQ4.out, prvL_snoc HWL.out, by rw [HF.out]; exact HN2.out, HS4.out⟩); (case measure => simp [intOf]; omega))
      · have HN2 := hidden (show R = ([], 0, (rdF b q (prvL ws)).2.2) by
          have h2 := HRES.out
          rw [rdFs_e he] at h2
          exact h2.symm)
        have hne : ((rdF b q (prvL ws)).2.2 != 0) = true := by simpa using he
        have HNE := hidden he
        generalize rdF b q (prvL ws) = r at *
        obtain ⟨r1, r2, r3⟩ := r
        simp only [] at hne HRD HN2 HNE
        clear he hf hpq hpl hpv hrb
        go_wp2_with fail
        refine HRS.out.mono ?_
        rintro e w2 ⟨rfl, rfl⟩
        go_wp2_with fail
        refine HRD.out.mono ?_
        rintro e w3 ⟨rfl, g3⟩
        have HG3 := hidden ((HGR.out _ _ HS.out).of_below g3)
        clear g3
        go_wp2_with fail
        go_ret2
        exact VisR.err HN2.out HNE.out HG3.out
    · have hje : n - j = 0 := by omega
      rw [hje] at HRES
      have HN2 := hidden (show R = (ws, (q : Int), 0) from HRES.out.symm)
      clear hje hpv
      go_wp2_with fail
      go_ret2
      exact ⟨by rw [HN2.out]; rfl, HGR.out _ _ HS.out, fun _ => by rw [HN2.out]; exact HS.out⟩
end Go.Proofs.YthmipnokimlbdaaGreat
/-
  Shaken: what the claims of this seat need of this text. No condition.
-/
namespace Go.Proofs.YthmipnokimlbdaaGreat
set_option maxRecDepth 8000
open Go.RowKit
set_option linter.unusedVariables false
set_option linter.unusedSimpArgs false
def IsI (w : World) (v : Value) (l : List Int) : Prop := Reads w v (icells l)
theorem IsI.grow {w w' : World} {v : Value} {l : List Int} (h : IsI w v l) (hb : Grows w w') : IsI w' v l := Reads.grow h hb
theorem IsI.slice_ {w : World} {v : Value} {l : List Int} (h : IsI w v l) : ∃ A c, v = .slice A l.length c := by
  obtain ⟨A, c, h1, h2⟩ := Reads.slice_ h
  rw [icells_length] at h1
  exact ⟨A, c, h1⟩
theorem IsI.at_ {w : World} {A : Option Addr} {c n : Nat} {l : List Int} (h : IsI w (.slice A n c) l) {k : Nat} (hk : k < l.length) : ∃ b f, A = some ⟨b, f, none⟩ ∧ w.cell? ⟨b, f + k, none⟩ = some (.int .i64 l[k]) := by
  obtain ⟨A', c', he, _, hc⟩ := h
  injection he with e1 e2 e3
  subst e1
  obtain ⟨b, f, rfl, hcell⟩ := hc (by rw [icells_length]; omega)
  refine ⟨b, f, rfl, ?_⟩
  rw [hcell k (by rw [icells_length]; exact hk), icells_get hk]
theorem info_i64 : (Tryz.prog.info? 2).map (fun i => (i.zero, i.size, i.bytes)) = some (some (.int .i64 0), 1, 8) := by kernel_rfl
theorem info_u64 : (Tryz.prog.info? 85).map (fun i => (i.zero, i.size, i.bytes)) = some (some (.int .u64 0), 1, 8) := by kernel_rfl
theorem retI {k : IntKind} {a b : Int} (h : a = b) : Ending.returned (.int k a) = .returned (.int k b) := by rw [h]
theorem fr_draws {B : Nat} {a w : World} (h : Below B a w) (d : Nat) : Below B a { w with drawn := d } := ⟨h.os, h.tape, h.output, h.size, h.block⟩
def MinRel (l : List Int) (m i : Value) : Prop := ∃ k : Nat, 1 ≤ k ∧ k ≤ l.length ∧ i = .int .i64 (k : Int) ∧ m = .int .i64 (baseV (l.take k))
set_option maxHeartbeats 1000000 in
theorem slicesMin_any (v : Value) (l : List Int) (w : World) (hv : IsI w v l) (h0 : 0 < l.length) (hl : l.length ≤ 9223372036854775806) :
    Calls Tryz.prog 220 #[v] w fun e w' => e = .returned (.int .i64 (baseV l)) ∧ w = w' := by
  obtain ⟨A, c, rfl⟩ := hv.slice_
  have HV := hidden hv
  obtain ⟨b, f, rfl, hc⟩ := hv.at_ h0
  have hd : decide ((l.length : Int) < 1) = false := by simp; omega
  have HF := hidden (baseV_first h0)
  have H0 := hidden h0
  simp only [Nat.add_zero] at hc
  clear hv
  go_enter Tryz.func220, Tryz.ntmps220
  go_wp2_with fail
  go_loop [3, 4] (fun m i => MinRel l m i) (fun _ i => l.length - (intOf i).toNat)
  case atStart => exact ⟨1, by omega, H0.out, rfl, by rw [HF.out]⟩
  case round =>
    obtain ⟨k, hk1, hk, rfl, rfl⟩ := hrel
    by_cases hlt : k < l.length
    · obtain ⟨b', f', he, hck⟩ := HV.out.at_ hlt
      injection he with he
      injection he with e1 e2 e3
      subst e1 e2
      have HT := hidden (baseV_take hlt hk1)
      clear hc hd
      go_wp2_with fail
      go_round
      case rel => exact ⟨k + 1, by omega, by omega, by go_num, by rw [HT.out]⟩
      case measure => simp [intOf]; omega
    · have hke : k = l.length := by omega
      have HT := hidden (show baseV (l.take k) = baseV l by rw [hke, List.take_length])
      clear hc hd hk hke
      go_wp2_with fail
      go_ret
      exact ⟨retI HT.out, rfl⟩
set_option maxHeartbeats 1000000 in
theorem least_any (v : Value) (l : List Int) (w : World) (hv : IsI w v l) (hl : l.length ≤ 9223372036854775806) :
    Calls Tryz.prog 201 #[v] w fun e w' => e = .returned (.int .i64 (baseV l)) ∧ w = w' := by
  by_cases h0 : 0 < l.length
  · have HM := hidden (slicesMin_any v l w hv h0 hl)
    obtain ⟨A, c, rfl⟩ := hv.slice_
    have hd : ((l.length : Int) == 0) = false := by simp; intro h; subst h; simp at h0
    clear hv h0
    go_enter Tryz.func201, Tryz.ntmps201
    go_wp2_with fail
    refine HM.out.mono ?_
    rintro e w' ⟨rfl, rfl⟩
    go_wp2_with fail
    go_ret
    exact ⟨rfl, rfl⟩
  · have hl0 : l = [] := List.eq_nil_of_length_eq_zero (by omega)
    subst hl0
    obtain ⟨A, c, rfl⟩ := hv.slice_
    go_enter Tryz.func201, Tryz.ntmps201
    go_wp2_with fail
    go_ret
    exact ⟨rfl, rfl⟩
theorem dif_wrap (x b : Int) : IntKind.u64.wrap (IntKind.u64.wrap x - IntKind.u64.wrap b) = ((difN b x : Nat) : Int) := by
  rw [IntKind.wrap_u64, IntKind.wrap_u64, IntKind.wrap_u64]
  unfold difN
  omega
theorem difference_any (x b : Int) (w : World) : Calls Tryz.prog 148 #[.int .i64 x, .int .i64 b] w fun e w' => e = .returned (.int .u64 ((difN b x : Nat) : Int)) ∧ w = w' := by
  have HD := hidden (dif_wrap x b)
  go_enter Tryz.func148, Tryz.ntmps148
  go_wp2_with fail
  go_ret
  exact ⟨retI HD.out, rfl⟩
theorem sizeOfWidth_any (k : Nat) (w : World) (hk : k ≤ 1000) : Calls Tryz.prog 221 #[.int .i64 (k : Int)] w fun e w' => e = .returned (.int .i64 ((vsw k : Nat) : Int)) ∧ w = w' := by
  have HE := hidden (show max 1 (((k : Int) + 7 - 1) / 7) = ((vsw k : Nat) : Int) by unfold vsw; omega)
  go_enter Tryz.func221, Tryz.ntmps221
  go_wp2_with fail
  go_ret
  refine ⟨retI ?_, rfl⟩
  rw [← HE.out]
theorem varintSize_any (n : Nat) (w : World) (hn : n < 18446744073709551616) : Calls Tryz.prog 203 #[.int .u64 (n : Int)] w fun e w' => e = .returned (.int .i64 ((esz n : Nat) : Int)) ∧ w = w' := by
  have HB := hidden (bitWidth_any (n : Int) w (by omega) (by omega))
  have HS := hidden (sizeOfWidth_any (Lib.bitLen n) w (by have := bitLen_bd hn; omega))
  rw [Int.toNat_natCast] at HB
  have HE := hidden (esz_vsw n)
  go_enter Tryz.func203, Tryz.ntmps203
  go_wp2_with fail
  refine HB.out.mono ?_
  rintro e w' ⟨rfl, rfl⟩
  go_wp2_with fail
  refine HS.out.mono ?_
  rintro e w' ⟨rfl, rfl⟩
  go_wp2_with fail
  go_ret
  exact ⟨retI (by rw [HE.out]), rfl⟩
theorem KeepsRows.row {e : TypeId} {w w' : World} (h : KeepsRows e w w') {g : Nat} {E : TypeId} {ys : List Value} (hne : E ≠ e) (hl : ys.length ≤ maxLen) (hr : Row w g E ys) : Row w' g E ys := by
  have h1 := h 0 E 1 _ _ _ hne (hr.own (base := 0) (Nat.zero_le _) hl)
  rcases h1.2 with ⟨h2, _⟩ | ⟨g', cap, cur, he, _, h3, _, _, h4, h5⟩
  · cases h2
  · injection he with e1 e2 e3
    injection e1 with e1
    injection e1 with e1 _ _
    subst e1
    subst e3
    unfold Row
    rw [h3]
    have : cur = ys.toArray := by
      apply Array.ext'
      rw [← h5, List.take_of_length_le]
      rw [Array.length_toList, h4]
      omega
    rw [this]
theorem own_grow {w w' : World} {b : Nat} {e : TypeId} {sz : Nat} {v : Value} {n : Nat} {xs : List Value} (h : w.ownsRow b e sz v n xs) (hb : Grows w w') : w'.ownsRow b e sz v n xs := by
  refine ⟨h.1, ?_⟩
  rcases h.2 with h2 | ⟨g, cap, cur, h1, h2, h3, h4⟩
  · exact .inl h2
  · refine .inr ⟨g, cap, cur, h1, h2, ?_, h4⟩
    rw [← h3]
    refine hb.block g ?_
    rcases Nat.lt_or_ge g w.heap.size with hlt | hge
    · exact hlt
    · rw [Array.getElem?_eq_none hge] at h3; cases h3
theorem wpList_append_ik {wr : World} {ops : Array Oper} {rest : List Oper} {o : Oper} {a : Act} {Q : Exit → Act → World → Prop} (hgd : o.guard = none) (s x : Operand)
    (ho : o.op = .call { callee := .builtin .append, args := #[s, x], argTypes := #[22, 22] })
    (v : Value) (pre : List Int) (hs : a.eval s = v) (base : Nat) (hown : wr.ownsRow base 2 1 v pre.length (icells pre)) (w0 : World) (hb : Below base w0 wr) (hbase : base ≤ wr.heap.size)
    (z : Int) (hx : a.eval x = .slice (some ⟨wr.heap.size, 0, none⟩) 1 1) (hlen : pre.length + 1 ≤ 17592186044416)
    (h : ∀ v' w', w'.ownsRow base 2 1 v' (pre ++ [z]).length (icells (pre ++ [z])) → Below base w0 w' → KeepsRows 2 wr w' → wpList Tryz.prog ops Q rest (a.put o.dst v') w') :
    wpList Tryz.prog ops Q (o :: rest) a (wr.alloc (.cells #[.int .i64 z] 2)) := by
  obtain ⟨i0, hi, hz0, hz1, hz2⟩ := info_parts info_i64
  refine wpList_append_own _ hgd s x 22 ho base 2 i0 (.int .i64 0) 1 8 Tryz.underlying22 hi hz0 hz1 hz2 rfl (by decide) v pre.length (icells pre) hs (hown.alloc _) ⟨wr.heap.size, 0, none⟩ 1 1 [.int .i64 z] hx rfl ?_ ?_ ?_ ?_ ?_ ?_
  · intro j u hj
    match j, hj with
    | 0, hj => simp at hj; subst hj; simp [Addr.add]
  · intro u hu; simp at hu; subst hu; rfl
  · unfold maxLen; omega
  · omega
  · simp; omega
  · intro v' w' h1 h2 _
    rw [← icells_snoc, show pre.length + 1 = (pre ++ [z]).length by simp] at h1
    exact h v' w' h1 ((hb.alloc hbase _).grown h2 (by simp; omega) (fun k hk => (hown.lt k hk).1)) (fun b e' s y n xs he hy => (hy.alloc _).kept h2 (ownsRow_ne hy hown he))
end Go.Proofs.YthmipnokimlbdaaGreat
/-
  Shaken: what the claims of this seat need of this text. No condition.
-/
namespace Go.Proofs.YthmipnokimlbdaaGreat
set_option maxRecDepth 8000
open Go.RowKit
set_option linter.unusedVariables false
set_option linter.unusedSimpArgs false
end Go.Proofs.YthmipnokimlbdaaGreat
/-
  Shaken: what the claims of this seat need of this text. No condition.
-/
namespace Go.Proofs.YthmipnokimlbdaaGreat
open Go.RowKit
set_option linter.unusedVariables false
set_option linter.unusedSimpArgs false
def RsR (r : List Str × Int × Int) (w : World) (e : Ending) (w' : World) : Prop := ∃ v, e = .returned (.tuple #[v, .int .i64 r.2.1, .int .i64 r.2.2]) ∧ Grows w w' ∧ IsS w' v r.1
theorem RsR.err {r : List Str × Int × Int} {w w' : World} {f : Int} (h : r = ([], 0, f)) (hb : Grows w w') : RsR r w (.returned (.tuple #[.slice none 0 0, .int .i64 0, .int .i64 f])) w' := by
  subst h
  exact ⟨_, rfl, hb, Reads.nil_ _ 0⟩
theorem okF_true {b : List UInt8} {off n : Int} (h : okF b.length off n = true) : ∃ o N : Nat, off = (o : Int) ∧ n = (N : Int) ∧ o ≤ b.length ∧ N ≤ 65536 ∧ ¬ badF b off n := by
  unfold okF at h
  simp only [decide_eq_true_eq] at h
  refine ⟨off.toNat, n.toNat, by omega, by omega, by omega, by omega, ?_⟩
  unfold badF
  omega
theorem okF_false {b : List UInt8} {off n : Int} (h : okF b.length off n = false) : badF b off n := by
  unfold okF at h
  simp only [decide_eq_false_iff_not] at h
  unfold badF
  omega
theorem fcDec_bad {b : List UInt8} {off n : Int} (h : badF b off n) : fcDec b off n = ([], 0, 1) := by unfold fcDec; rw [if_pos h]
theorem fcDec_ok {b : List UInt8} {off : Int} {N : Nat} (h : ¬ badF b off (N : Int)) : fcDec b off (N : Int) = rdFs b N [] off := by unfold fcDec; rw [if_neg h, Int.toNat_natCast]
set_option maxRecDepth 8000 in
set_option maxHeartbeats 4000000 in
theorem fdecode_any (A : Option Addr) (c : Nat) (b : List UInt8) (off n : Int) (w : World) (hb : IsBytes w (.slice A b.length c) b) (hlc : b.length ≤ c) (hl : b.length ≤ 1000000000) :
    Calls Tryz.prog 103 #[.slice A b.length c, .int .i64 off, .int .i64 n] w (RsR (fcDec b off n) w) := by
  have hmf : ∀ (fn : Fn) (first cap : Array Value) (w : World), (Instr.makeFunc fn first cap).run Tryz.prog w = .ok (.func fn first cap) w := fun _ _ _ _ => rfl
  have HVA := hidden (validArguments_any A b.length c off n w (by omega))
  cases hok : okF b.length off n
  · have HE := hidden (fcDec_bad (okF_false hok))
    rw [hok] at HVA
    clear hb hok
    go_enter Tryz.func103, Tryz.ntmps103
    go_wp2_with fail
    refine HVA.out.mono ?_
    rintro e w1 ⟨rfl, rfl⟩
    go_wp2_with fail
    go_ret3
    exact RsR.err HE.out (Below.refl _ _)
  · rw [hok] at HVA
    obtain ⟨o, N, rfl, rfl, ho, hN, hbad⟩ := okF_true hok
    have HE := hidden (fcDec_ok hbad)
    have HV := hidden hb
    have HLC := hidden hlc
    have HB0 := hidden (show Grows w ((w.alloc (.cells #[] 9)).alloc (.cells #[.slice (some ⟨w.heap.size, 0, none⟩) 0 0] 23)) from ((Below.refl _ _).alloc (Nat.le_refl _) _).alloc (by simp) _)
    have HST := hidden (show DecSt w (w.heap.size + 1) [] ((w.alloc (.cells #[] 9)).alloc (.cells #[.slice (some ⟨w.heap.size, 0, none⟩) 0 0] 23)) from
      ⟨HB0.out, by omega, _, Row.at_ (w.alloc (.cells #[] 9)) 23 #[.slice (some ⟨w.heap.size, 0, none⟩) 0 0] [.slice (some ⟨w.heap.size, 0, none⟩) 0 0] rfl _ (by simp), own_growS (own_emptyS w (Nat.le_refl _)) (growA _)⟩)
    have HVI := hidden (fun W (h : DecSt w (w.heap.size + 1) [] W) => visit_any 175 (fun _ _ => rfl) (.pointer (some ⟨w.heap.size + 1, 0, none⟩)) (DecSt w (w.heap.size + 1)) w W A c b o N HV.out HLC.out hl ho hN h (fun _ _ h => h.gr) (fun _ _ _ h hg => h.keep hg) (fun ws s W h hw => dec_lit_any w _ ws s W h hw))
    obtain ⟨R, hR⟩ : ∃ R, R = rdFs b N [] o := ⟨_, rfl⟩
    rw [← hR] at HE HVI
    rw [HE.out]
    have HRE := hidden (show R.2.2 ≠ 0 → R.1 = [] ∧ R.2.1 = 0 by rw [hR]; exact rdFs_err N [] o)
    clear hb hok hbad hR HE
    go_enter Tryz.func103, Tryz.ntmps103
    go_wp2_with fail
    refine HVA.out.mono ?_
    rintro e w1 ⟨rfl, rfl⟩
    go_wp2_with fail
    refine (HVI.out _ HST.out).mono ?_
    rintro e w3 ⟨rfl, g3, hst3⟩
    have HG3 := hidden g3
    have HST3 := hidden hst3
    clear hmf g3 hst3
    obtain ⟨ws, q, f⟩ := R
    simp only [] at HST3
    by_cases hf : f = 0
    · obtain ⟨v, hr, hown⟩ := (HST3.out hf).var
      subst hf
      have hc := hr.cell 0
      simp only [List.getElem?_cons_zero] at hc
      have HS := hidden (Reads.of_own hown)
      clear hr hown
      go_wp2_with fail
      go_ret3
      exact ⟨_, rfl, HG3.out, HS.out⟩
    · have hne : (f != 0) = true := by simpa using hf
      obtain ⟨h1, h2⟩ := HRE.out hf
      simp only [] at h1 h2
      subst h1 h2
      go_wp2_with fail
      go_ret3
      exact RsR.err rfl HG3.out
end Go.Proofs.YthmipnokimlbdaaGreat
/-
  Shaken: what the claims of this seat need of this text. No condition.
-/
namespace Go.Proofs.YthmipnokimlbdaaGreat
set_option maxRecDepth 8000
open Go.RowKit
set_option linter.unusedVariables false
set_option linter.unusedSimpArgs false
end Go.Proofs.YthmipnokimlbdaaGreat
/-
  Shaken: what the claims of this seat need of this text. No condition.
-/
namespace Go.Proofs.YthmipnokimlbdaaGreat
set_option maxRecDepth 8000
open Go.RowKit
set_option linter.unusedVariables false
set_option linter.unusedSimpArgs false
def expI (l : List Rn) : List Int := if validR l then expR l else []
def expE (l : List Rn) : Int := if validR l then 0 else 4
def ExR (l : List Int) (x : Int) (w : World) (e : Ending) (w' : World) : Prop := ∃ v, e = .returned (.tuple #[v, .int .i64 x]) ∧ Grows w w' ∧ IsI w' v l
theorem rep_snoc (n : Nat) (x : Int) (l : List Int) : l ++ List.replicate (n + 1) x = (l ++ List.replicate n x) ++ [x] := by rw [List.replicate_succ', List.append_assoc]
theorem valid_pre {l : List Rn} (h : validR l = true) {j : Nat} (hj : j ≤ l.length) : (expR (l.take j)).length ≤ 65536 := by
  have h1 := expR_length (l := l.take j) fun x hx => valid_nonneg h x (List.mem_of_mem_take hx)
  have h2 := valid_sum h j hj
  omega
end Go.Proofs.YthmipnokimlbdaaGreat
/-
  Shaken: what the claims of this seat need of this text. No condition.
-/
namespace Go.Proofs.YthmipnokimlbdaaGreat
set_option maxRecDepth 8000
open Go.RowKit
set_option linter.unusedVariables false
set_option linter.unusedSimpArgs false
def rcells : List Rn → List Value
  | [] => []
  | x :: l => .int .i64 x.1 :: .int .i64 x.2 :: rcells l
theorem rcells_length : ∀ l : List Rn, (rcells l).length = l.length * 2
  | [] => rfl
  | x :: l => by rw [rcells, List.length_cons, List.length_cons, rcells_length l, List.length_cons]; omega
theorem rcells_append : ∀ l r : List Rn, rcells (l ++ r) = rcells l ++ rcells r
  | [], r => rfl
  | x :: l, r => by rw [List.cons_append, rcells, rcells, rcells_append l r]; rfl
theorem rcells_get : ∀ {l : List Rn} {j : Nat} {x : Rn}, l[j]? = some x → (rcells l)[j * 2]? = some (.int .i64 x.1) ∧ (rcells l)[j * 2 + 1]? = some (.int .i64 x.2)
  | [], j, x, h => by cases h
  | y :: l, 0, x, h => by
    simp only [List.getElem?_cons_zero, Option.some.injEq] at h
    subst h
    exact ⟨rfl, rfl⟩
  | y :: l, j + 1, x, h => by
    simp only [List.getElem?_cons_succ] at h
    have ih := rcells_get h
    rw [show (j + 1) * 2 = j * 2 + 1 + 1 by omega, rcells, List.getElem?_cons_succ, List.getElem?_cons_succ, List.getElem?_cons_succ, List.getElem?_cons_succ]
    exact ih
theorem set_append_mid (p q : List Value) (k : Nat) (u : Value) (h : k < q.length) : (p ++ q).set (p.length + k) u = p ++ q.set k u := by
  rw [List.set_append_right _ _ (by omega)]
  congr 2
  omega
theorem rcells_bump (o : List Rn) (x : Rn) (c : Int) : (rcells (o ++ [x])).set (o.length * 2 + 1) (.int .i64 c) = rcells (o ++ [(x.1, c)]) := by
  rw [rcells_append, rcells_append, ← rcells_length o, set_append_mid _ _ 1 _ (by simp [rcells])]
  rfl
theorem ReadsR.of_own {w : World} {base : Nat} {v : Value} {l : List Rn} (h : w.ownsRow base 125 2 v l.length (rcells l)) : ReadsR w v l := by
  rcases h.2 with ⟨rfl, h0⟩ | ⟨g, cap, cur, rfl, _, hg, hn, _, _, htake⟩
  · have : l = [] := List.eq_nil_of_length_eq_zero h0
    subst this
    exact ReadsR.nil_ w 0
  · refine ⟨_, cap, rfl, hn, fun _ => ⟨g, 0, rfl, fun j x hj => ?_⟩⟩
    obtain ⟨h1, h2⟩ := rcells_get hj
    have c1 := h.cells (g := g) rfl _ _ h1
    have c2 := h.cells (g := g) rfl _ _ h2
    rw [Addr.add_lit] at c1 c2
    rw [Nat.zero_add] at *
    exact ⟨c1, c2⟩
theorem own_shapeRl5 {w : World} {base : Nat} {e : TypeId} {size : Nat} {v : Value} {n : Nat} {xs : List Value} (h : w.ownsRow base e size v n xs) (hn : 0 < n) :
    ∃ g cap, v = .slice (some ⟨g, 0, none⟩) n cap ∧ base ≤ g ∧ g < w.heap.size ∧ ∀ k, k < n * size → w.frozen? ⟨g, k, none⟩ = false := by
  rcases h.2 with ⟨_, h0⟩ | ⟨g, cap, cur, rfl, hb, hg, _⟩
  · omega
  · refine ⟨g, cap, rfl, hb, (Array.getElem?_eq_some_iff.1 hg).1, fun k _ => ?_⟩
    simp [World.frozen?, hg]
theorem own_setRl5 {w : World} {base : Nat} {e : TypeId} {size : Nat} {g n cap : Nat} {xs : List Value} (h : w.ownsRow base e size (.slice (some ⟨g, 0, none⟩) n cap) n xs) (k : Nat) (hk : k < n * size) (u : Value) :
    (w.setCell ⟨g, k, none⟩ u).ownsRow base e size (.slice (some ⟨g, 0, none⟩) n cap) n (xs.set k u) := by
  refine ⟨by rw [List.length_set]; exact h.1, .inr ?_⟩
  rcases h.2 with ⟨h1, _⟩ | ⟨g2, cap2, cur, he, hb, hg, hnc, hm, hsz, htake⟩
  · cases h1
  · injection he with e1 e2 e3
    injection e1 with e1
    injection e1 with e1 e4
    subst e1 e3
    refine ⟨g, cap, cur.setIfInBounds k u, rfl, hb, ?_, hnc, hm, by simpa using hsz, ?_⟩
    · simp [World.setCell, Array.getElem?_modify, hg]
    · rw [Array.toList_setIfInBounds, ← htake]
      apply List.ext_getElem?
      intro j
      rw [List.getElem?_take, List.getElem?_set, List.getElem?_set, List.getElem?_take, List.length_take, Array.length_toList]
      by_cases hj : j < n * size
      · rw [if_pos hj]
        by_cases e : k = j
        · subst e
          rw [if_pos rfl, if_pos rfl]
          have h1 : n * size ≤ cap * size := Nat.mul_le_mul_right _ hnc
          rw [if_pos (by omega), if_pos (by omega)]
        · rw [if_neg e, if_neg e, if_pos hj]
      · rw [if_neg hj]
        by_cases e : k = j
        · omega
        · rw [if_neg e, if_neg hj]
theorem info_run : (Tryz.prog.info? 125).map (fun i => (i.zero, i.size, i.bytes)) = some (some (.agg #[.int .i64 0, .int .i64 0]), 2, 16) := by kernel_rfl
theorem wpList_append_r {wr : World} {ops : Array Oper} {rest : List Oper} {o : Oper} {a : Act} {Q : Exit → Act → World → Prop} (hgd : o.guard = none) (s x : Operand)
    (ho : o.op = .call { callee := .builtin .append, args := #[s, x], argTypes := #[93, 93] })
    (v : Value) (pre : List Rn) (hs : a.eval s = v) (base : Nat) (hown : wr.ownsRow base 125 2 v pre.length (rcells pre)) (w0 : World) (hb : Below base w0 wr) (hbase : base ≤ wr.heap.size)
    (z1 z2 : Int) (hx : a.eval x = .slice (some ⟨wr.heap.size, 0, none⟩) 1 1) (hlen : pre.length + 1 ≤ 8796093022208)
    (h : ∀ v' w', w'.ownsRow base 125 2 v' (pre ++ [(z1, z2)]).length (rcells (pre ++ [(z1, z2)])) → Below base w0 w' → wpList Tryz.prog ops Q rest (a.put o.dst v') w') :
    wpList Tryz.prog ops Q (o :: rest) a (wr.alloc (.cells #[.int .i64 z1, .int .i64 z2] 125)) := by
  obtain ⟨i0, hi, hz0, hz1, hz2⟩ := info_parts info_run
  refine wpList_append_own _ hgd s x 93 ho base 125 i0 (.agg #[.int .i64 0, .int .i64 0]) 2 16 Tryz.underlying93 hi hz0 hz1 hz2 rfl (by decide) v pre.length (rcells pre) hs (hown.alloc _) ⟨wr.heap.size, 0, none⟩ 1 1 [.int .i64 z1, .int .i64 z2] hx rfl ?_ ?_ ?_ ?_ ?_ ?_
  · intro j u hj
    match j, hj with
    | 0, hj => simp at hj; subst hj; simp [Addr.add]
    | 1, hj => simp at hj; subst hj; simp [Addr.add]
  · intro u hu
    simp at hu
    rcases hu with rfl | rfl <;> rfl
  · unfold maxLen; omega
  · omega
  · simp; omega
  · intro v' w' h1 h2 _
    have e : rcells pre ++ [.int .i64 z1, .int .i64 z2] = rcells (pre ++ [(z1, z2)]) := by rw [rcells_append]; rfl
    rw [e, show pre.length + 1 = (pre ++ [(z1, z2)]).length by simp] at h1
    exact h v' w' h1 ((hb.alloc hbase _).grown h2 (by simp; omega) (fun k hk => (hown.lt k hk).1))
theorem runsR_len (vs : List Int) {j : Nat} (hj : j ≤ vs.length) : (∀ x ∈ runsR (vs.take j), x.2 ≤ (j : Int)) ∧ (runsR (vs.take j)).length ≤ j := by
  have hp := runsR_pos vs j
  have hn : ∀ x ∈ runsR (vs.take j), 0 ≤ x.2 := fun x hx => by have := hp x hx; omega
  have hs := expR_length hn
  rw [expR_runs_take vs j hj, List.length_take] at hs
  refine ⟨fun x hx => ?_, ?_⟩
  · obtain ⟨k, hk, rfl⟩ := List.getElem_of_mem hx
    have h1 := sumC_le hn hk
    have h2 := sumC_nonneg (l := (runsR (vs.take j)).take k) fun x hx => hn x (List.mem_of_mem_take hx)
    omega
  · have key : ∀ l : List Rn, (∀ x ∈ l, 1 ≤ x.2) → (l.length : Int) ≤ sumC l := by
      intro l
      induction l with
      | nil => intro _; simp [sumC_nil]
      | cons x l ih =>
        intro h
        have h1 := h x (List.mem_cons_self ..)
        have h2 := ih fun y hy => h y (List.mem_cons_of_mem _ hy)
        rw [sumC_cons, List.length_cons]
        omega
    have := key _ hp
    omega
end Go.Proofs.YthmipnokimlbdaaGreat
/-
  Shaken: what the claims of this seat need of this text. No condition.
-/
namespace Go.Proofs.YthmipnokimlbdaaGreat
open Go.RowKit
set_option linter.unusedVariables false
set_option linter.unusedSimpArgs false
theorem dcd_rng (l : List UInt8) (p : Int) : (0 ≤ (dcd l p).1 ∧ (dcd l p).1 < 18446744073709551616) ∧ (0 ≤ (dcd l p).2.1 ∧ (dcd l p).2.1 ≤ (l.length : Int)) := by
  by_cases hp : p < 0 ∨ (l.length : Int) < p
  · rw [dcd_bad hp]
    simp only
    omega
  · obtain ⟨n, k, e, h⟩ : ∃ n k e, dec 0 0 (l.drop p.toNat) = (n, k, e) := ⟨_, _, _, rfl⟩
    rw [dcd_ok hp h]
    have h1 := dec_lt _ 0 0 n k e (by omega) (by decide) h
    have h2 := (dec_len _ 0 0 n k e h).1
    rw [List.length_drop] at h2
    simp only
    refine ⟨by omega, ?_⟩
    split
    · rename_i h3
      have := h2 h3
      omega
    · omega
def RDc (r : List Rn × Int × Int) (w : World) (e : Ending) (w' : World) : Prop := ∃ u, e = .returned (.tuple #[u, .int .i64 r.2.1, .int .i64 r.2.2]) ∧ Grows w w' ∧ ReadsR w' u r.1
end Go.Proofs.YthmipnokimlbdaaGreat
/-
  Shaken: what the claims of this seat need of this text. No condition.
-/
namespace Go.Proofs.YthmipnokimlbdaaGreat
open Go.RowKit
set_option linter.unusedVariables false
set_option linter.unusedSimpArgs false
def PP (w : World) (base : Nat) (u : Value) (ps : List (List UInt8)) : Prop :=
  ∃ xs, w.ownsRow base 29 1 u ps.length xs ∧ ∀ j, (h : j < ps.length) → ∃ v, xs[j]? = some v ∧ w.ownsRow base 5 1 v ps[j].length (bcells ps[j])
theorem PP.grow {w w' : World} {base : Nat} {u : Value} {ps : List (List UInt8)} (h : PP w base u ps) (hb : Grows w w') : PP w' base u ps := by
  obtain ⟨xs, h1, h2⟩ := h
  refine ⟨xs, own_grow h1 hb, fun j hj => ?_⟩
  obtain ⟨v, h3, h4⟩ := h2 j hj
  exact ⟨v, h3, own_grow h4 hb⟩
def lastV (last : Int) : List Rn → Int
  | [] => last
  | x :: l => lastV x.1 l
theorem lastV_snoc : ∀ (l : List Rn) (last : Int) (x : Rn), lastV last (l ++ [x]) = x.1
  | [], _, _ => rfl
  | y :: l, last, x => by rw [List.cons_append, lastV, lastV_snoc l y.1 x]
theorem lastV_in : ∀ (l : List Rn) (last : Int), in64 last → (∀ x ∈ l, in64 x.1) → in64 (lastV last l)
  | [], _, h, _ => h
  | y :: l, last, _, h => lastV_in l y.1 (h y (List.mem_cons_self ..)) fun x hx => h x (List.mem_cons_of_mem _ hx)
end Go.Proofs.YthmipnokimlbdaaGreat
