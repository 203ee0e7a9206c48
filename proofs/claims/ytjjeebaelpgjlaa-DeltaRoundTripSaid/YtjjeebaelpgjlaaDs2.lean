/-
  Package delta as it landed: choose and its function literal. Nothing that was there is changed.
-/
import Derived.Test.YtjjeebaelpgjlaaDs1
import Derived.Test.YtjjeebaelpgjlaaDr3
import Derived.Deep.RegionLaw
import Derived.Deep.RegionHeld3
namespace Go.Proofs.Ytjjeebaelpgjlaa
open Go.RowKit
set_option linter.unusedVariables false
set_option linter.unusedSimpArgs false

/-- a call of a Go function as one step of a region that draws -/
theorem step_call {P : Program} {ops : Array Oper} {o : Oper} {a : Act} {w : World} {K : Act → World → Prop} {Q : Exit → Act → World → Prop} {E : Prop} {f : FuncId} {args : Array Value} {xs : Array Operand} {ts : Array TypeId} {R : Ending → World → Prop} (hg : o.guard = none)
    (_hop : o.op = .call { callee := .value (.func f), args := xs, argTypes := ts }) (he : (execOp a.eval o).run P w = .ok (.enter f args) w) (hc : Calls P f args w R) (hK : ∀ e w', R e w' → ∃ v, e = .returned v ∧ K (a.put o.dst v) w') :
    if Region.wanted o (yielded ops a.tmps) = true then Oper.wp P o a w K Q else E := by
  have hw : Region.wanted o (yielded ops a.tmps) = true := by simp [Region.wanted, hg]
  rw [if_pos hw]
  unfold Oper.wp
  rw [he]
  simp only [Oper.upon]
  exact hc.mono fun e w' hR => by obtain ⟨v, hv, hk⟩ := hK e w' hR; subst hv; exact hk
/-- append of bytes onto an own row as one step of a region that draws -/
theorem step_append_bytes {w wr : World} {ops : Array Oper} {o : Oper} {a : Act} {K : Act → World → Prop} {Q : Exit → Act → World → Prop} {E : Prop} (hg : o.guard = none) (s x : Operand)
    (ho : o.op = .call { callee := .builtin .append, args := #[s, x], argTypes := #[27, 27] })
    (v : Value) (pre : List UInt8) (hs : a.eval s = v) (hown : wr.ownsRow w.heap.size 5 1 v pre.length (bcells pre)) (hb : Below w.heap.size w wr)
    (u : Value) (l : List UInt8) (hx : a.eval x = u) (hu : IsBytes wr u l) (hlen : pre.length + l.length ≤ 140737488355328)
    (hK : ∀ v' w', w'.ownsRow w.heap.size 5 1 v' (pre ++ l).length (bcells (pre ++ l)) → Below w.heap.size w w' → KeepsRows 5 wr w' → K (a.put o.dst v') w') :
    if Region.wanted o (yielded ops a.tmps) = true then Oper.wp Try.prog o a wr K Q else E := by
  have hw : Region.wanted o (yielded ops a.tmps) = true := by simp [Region.wanted, hg]
  rw [if_pos hw]
  obtain ⟨v', w', hrun, h2, h3, h4⟩ := run_append_bytes_k (P := Try.prog) (ty := o.type) Try.underlying27 info_u8 hown hb hu hlen
  unfold Oper.wp execOp
  simp only [ho, resolve, invoke, builtin, Sem.run_bind, Sem.run_pure, Result.andThen_ok, List.map_toArray, List.map_cons, List.map_nil, hs, hx, hrun]
  exact hK _ _ h2 h3 h4
theorem sizeFm : (Try.prog.info? 41).map (·.size) = some 3 := by kernel_rfl
theorem results_fm2 {fn : Func} {p q : Tmp} (h : fn.results = #[.cell p 41, .tmp q]) (tmps : Array Value) (w : World) (g : Nat) (a b c x : Value) (hp : tmps.getD p undef = .pointer (some ⟨g, 0, none⟩)) (hg : Row w g 41 [a, b, c])
    (hx : tmps.getD q undef = x) : (results fn tmps).run Try.prog w = .ok (.tuple #[.agg #[a, b, c], x]) w := by
  have hp' : tmps[p]?.getD undef = .pointer (some ⟨g, 0, none⟩) := by simpa using hp
  have hx' : tmps[q]?.getD undef = x := by simpa using hx
  simp [results, h, hp', hx', asAddr, run_loadVar_row w g 41 41 #[a, b, c] (0, 0) _ hg Try.underlying41 rfl sizeFm]
/-- what choose and its function literal hand back: the form of order k, and its length -/
def FormR (v : Value) (l : List Int) (k : Nat) (w : World) (e : Ending) (w' : World) : Prop :=
  ∃ A c D, e = .returned (.tuple #[.agg #[.int .i64 (k : Int), .slice A (hdB k l).length c, D], .int .i64 (((dlForm k l).length : Nat) : Int)]) ∧ w'.ownsRow w.heap.size 5 1 (.slice A (hdB k l).length c) (hdB k l).length (bcells (hdB k l)) ∧ RestI w w' v l k D ∧ Grows w w'
theorem own_set {w : World} {base g i : Nat} {e E : TypeId} {v : Value} {n : Nat} {xs ys : List Value} (h : w.ownsRow base e 1 v n xs) (hr : Row w g E ys) (hne : E ≠ e) (u : Value) : (w.setCell ⟨g, i, none⟩ u).ownsRow base e 1 v n xs := by
  refine ownsRow_setCell_other h ?_ _
  intro he
  rcases h.2 with ⟨h1, _⟩ | ⟨g', cap, cur, h1, _, h2, _⟩
  · rw [h1] at he; cases he
  · rw [h1] at he
    simp only [Value.ownBlock, Option.some.injEq] at he
    subst he
    unfold Row at hr
    rw [h2] at hr
    injection hr with hr
    injection hr with _ h2 _
    exact hne h2.symm
theorem RestI.set_ {w wr : World} {v u : Value} {l : List Int} {j g i : Nat} {E : TypeId} {ys : List Value} (h : RestI w wr v l j u) (hr : Row wr g E ys) (hne : E ≠ 2) (x : Value) : RestI w (wr.setCell ⟨g, i, none⟩ x) v l j u := h.imp id fun h => own_set h hr hne x
def Ch1Rel (w : World) (v : Value) (l : List Int) (k M : Nat) (i : Value) (wr : World) : Prop :=
  ∃ (j : Nat) (lv dv : Value), j ≤ M ∧ i = .int .i64 (j : Int) ∧ Row wr (w.heap.size + 1) 41 [.int .i64 (k : Int), lv, dv] ∧ Row wr w.heap.size 41 [.int .i64 0, .slice none 0 0, .slice none 0 0] ∧
    wr.ownsRow w.heap.size 5 1 lv (hdB j l).length (bcells (hdB j l)) ∧ RestI w wr v l j dv ∧ Below w.heap.size w wr
set_option maxRecDepth 20000 in
set_option maxHeartbeats 8000000 in
theorem choose1_any (bv : Nat) (A : Option Addr) (c : Nat) (l : List Int) (k : Nat) (w : World) (hrv : Row w bv 22 [.slice A l.length c]) (hv : IsI w (.slice A l.length c) l) (hl : l.length ≤ 65536) (hin : ∀ x ∈ l, frIn x) (hk : k ≤ 2) :
    Calls Try.prog 31 #[.int .i64 (k : Int), .pointer (some ⟨bv, 0, none⟩)] w (FormR (.slice A l.length c) l k w) := by
  have HV := hidden hv
  have HIN := hidden (rstL_in hin)
  have HRL := hidden (fun j => rstL_length j l)
  have HHL := hidden (fun j => hdB_len j l)
  have HMN := hidden (show hdB (min k l.length) l = hdB k l by unfold hdB; rw [hdsL_min])
  have HMR := hidden (rstL_min l k)
  have HFL := hidden (dlForm_len k l)
  have cbv := hrv.cell 0
  simp only [List.getElem?_cons_zero] at cbv
  have hbl := hrv.lt
  obtain ⟨M, hM⟩ : ∃ M, M = min k l.length := ⟨_, rfl⟩
  have HM := hidden hM
  have hMi : min (k : Int) (l.length : Int) = (M : Int) := by omega
  have HLC := hidden (fun w' => leadingCount_any (k : Int) (l.length : Int) w')
  rw [hMi] at HLC
  rw [← hM] at HMN HMR
  have hM2 : M ≤ 2 := by omega
  have hMl : M ≤ l.length := by omega
  have hs1 := World.size_alloc w (.cells #[.int .i64 0, .slice none 0 0, .slice none 0 0] 41)
  have HR1 := hidden (Row.grow (Row.new w 41 #[.int .i64 0, .slice none 0 0, .slice none 0 0] [.int .i64 0, .slice none 0 0, .slice none 0 0] rfl) (w' := (w.alloc (.cells #[.int .i64 0, .slice none 0 0, .slice none 0 0] 41)).alloc (.cells #[.int .i64 (k : Int), .slice none 0 0, .slice A l.length c] 41)) ((Below.refl _ _).alloc (Nat.le_refl _) _))
  have HF1 := hidden (Row.at_ (w.alloc (.cells #[.int .i64 0, .slice none 0 0, .slice none 0 0] 41)) 41 #[.int .i64 (k : Int), .slice none 0 0, .slice A l.length c] [.int .i64 (k : Int), .slice none 0 0, .slice A l.length c] rfl (w.heap.size + 1) hs1.symm)
  have HB1 := hidden (((Below.refl w.heap.size w).alloc (Nat.le_refl _) (.cells #[.int .i64 0, .slice none 0 0, .slice none 0 0] 41)).alloc (by rw [hs1]; omega) (.cells #[.int .i64 (k : Int), .slice none 0 0, .slice A l.length c] 41))
  clear hrv hv hM hs1 hMi
  go_enter Try.func31, Try.ntmps31
  go_wp2_with fail
  generalize (w.alloc (.cells #[.int .i64 0, .slice none 0 0, .slice none 0 0] 41)).alloc (.cells #[.int .i64 (k : Int), .slice none 0 0, .slice A l.length c] 41) = w2 at *
  refine (HLC.out w2).mono ?_
  rintro e w3 ⟨rfl, rfl⟩
  clear cbv hbl
  go_wp2_with fail
  go_loopw [13] (fun i wr => Ch1Rel w (.slice A l.length c) l k M i wr) (fun i _ => M - (intOf i).toNat)
  case atStart => exact ⟨0, _, _, by omega, rfl, HF1.out, HR1.out, ⟨rfl, .inl ⟨rfl, rfl⟩⟩, .inl ⟨rfl, rfl⟩, HB1.out⟩
  case round =>
    obtain ⟨j, lv, dv, hj, rfl, hfr, hrr, hown, hrest, hbw⟩ := hrel
    have HB := hidden hbw
    have HO := hidden hown
    have HR := hidden hrest
    have HF := hidden hfr
    have HRR := hidden hrr
    have HI := hidden (hrest.reads HV.out hbw)
    obtain ⟨A6, c6, rfl⟩ := HI.out.slice_
    have HLJ := hidden (HHL.out j)
    have HRLJ := hidden (HRL.out j)
    have c1 := hfr.cell 1
    have c2 := hfr.cell 2
    simp only [List.getElem?_cons_succ, List.getElem?_cons_zero] at c1 c2
    clear hown hrest hbw hfr hrr HF1 HR1 HB1
    by_cases hlt : j < M
    · have h0 : 0 < (rstL j l).length := by have := HRLJ.out; omega
      obtain ⟨b, f, rfl, hck⟩ := HI.out.at_ h0
      simp only [Nat.add_zero] at hck
      have HSTEP := hidden (hdB_step (take1 h0))
      have hx := HIN.out j _ (List.getElem_mem h0)
      have HDJ := hidden (fun u w' hu => diff_any u (rstL j l) w' hu (by have := HRLJ.out; omega))
      have HD2 := hidden (show dfL (rstL j l) = rstL (j + 1) l from rfl)
      generalize hxe : (rstL j l)[0] = x at *
      have hz := zz_bd x hx.1 (by have := hx.2; omega)
      have HZG := hidden (fun W' => zigzag_any x W' hx.1 (by have := hx.2; omega))
      have HE1 := hidden (fun W' => encode_any (zz x) W' hz.1 (by omega))
      generalize hdB j l = hd at *
      have HEX := hidden (enc_le10 (zz x).toNat)
      have h0' : (0 : Int) < ((rstL j l).length : Int) := by omega
      have HGD := hidden (show Grows wr wr.drew from fr_draws (Below.refl _ _) _)
      clear hx hz hxe
      go_wp2_with fail
      go_region_law (first
        | (refine step_call (f := 33) (args := #[.int .i64 x]) rfl rfl ?_ (HZG.out _) ?_; (focus go_simp); rintro e w2 ⟨rfl, rfl⟩; refine ⟨_, rfl, ?_⟩)
        | (refine step_call (f := 32) (args := #[.int .u64 (zz x)]) rfl rfl ?_ (HE1.out _) ?_; (focus go_simp); rintro e w1 ⟨v1, rfl, hown1, hb1⟩
           have HU1 := hidden (IsBytes.of_own hown1)
           have HG1 := hidden (Grows.of_below HGD.out hb1)
           have HB1 := hidden (HB.out.trans (HG1.out.mono HB.out.size))
           have HO1 := hidden (own_grow HO.out HG1.out)
           have HR1 := hidden (HR.out.grow HG1.out)
           have HF1 := hidden (Row.grow HF.out HG1.out)
           have HRR1 := hidden (Row.grow HRR.out HG1.out)
           have c1' := HF1.out.cell 1
           simp only [List.getElem?_cons_succ, List.getElem?_cons_zero] at c1'
           clear hown1 hb1
           refine ⟨_, rfl, ?_⟩)
        | (refine step_append_bytes (w := w) rfl _ _ rfl _ hd (by rfl) HO1.out HB1.out _ (enc (zz x).toNat) (by rfl) HU1.out (by have := HEX.out; have := HLJ.out; omega) ?_
           intro v2 w2 hown2 hb2 hk2
           obtain ⟨A7, c7, hv7, _⟩ := IsBytes.of_own hown2
           subst hv7
           have HO2 := hidden hown2
           have HB2 := hidden hb2
           have HR2 := hidden (HR1.out.keep hk2)
           have HF2 := hidden (hk2.row (by decide) (by unfold maxLen; simp) HF1.out)
           have HRR2 := hidden (hk2.row (by decide) (by unfold maxLen; simp) HRR1.out)
           have c1'' := HF2.out.cell 1
           have f1'' := HF2.out.frozen 1
           simp only [List.getElem?_cons_succ, List.getElem?_cons_zero] at c1''
           clear hown2 hb2 hk2))
      iterate 5
        focus
          clear f1'' c1'' c1' HGD hck
          have HFS := hidden (HF2.out.set_ 1 (.slice A7 (hd.length + (enc (zz x).toNat).length) c7))
          have HRRS := hidden (HRR2.out.other (a := ⟨w.heap.size + 1, 1, none⟩) (by show w.heap.size + 1 ≠ w.heap.size; omega) (.slice A7 (hd.length + (enc (zz x).toNat).length) c7))
          have HOS := hidden (own_set (i := 1) HO2.out HF2.out (by decide) (.slice A7 (hd.length + (enc (zz x).toNat).length) c7))
          have HRS := hidden (HR2.out.set_ (i := 1) HF2.out (by decide) (.slice A7 (hd.length + (enc (zz x).toNat).length) c7))
          have HBS := hidden (HB2.out.setCell (p := ⟨w.heap.size + 1, 1, none⟩) (by show w.heap.size ≤ w.heap.size + 1; omega) (.slice A7 (hd.length + (enc (zz x).toNat).length) c7))
          generalize w2.setCell ⟨w.heap.size + 1, 1, none⟩ (.slice A7 (hd.length + (enc (zz x).toNat).length) c7) = w3 at *
          simp only [List.set_cons_succ, List.set_cons_zero] at HFS
          have c2' := HFS.out.cell 2
          simp only [List.getElem?_cons_succ, List.getElem?_cons_zero] at c2'
          clear c1 c2
          go_wp2_with fail
          refine (HDJ.out _ w3 (HRS.out.reads HV.out HBS.out)).mono ?_
          rintro e w4 ⟨v4, rfl, hb4, hown4⟩
          rw [HD2.out] at hown4
          obtain ⟨A8, c8, rfl⟩ := own_ni9 hown4
          have HR4 := hidden (RestI.of_own (v := .slice A l.length c) hown4 HBS.out)
          have HO4 := hidden (own_grow HOS.out hb4)
          have HB4 := hidden (HBS.out.trans (hb4.mono HBS.out.size))
          have HF4 := hidden (Row.grow HFS.out hb4)
          have HRR4 := hidden (Row.grow HRRS.out hb4)
          have c4 := HF4.out.cell 2
          have f4 := HF4.out.frozen 2
          simp only [List.getElem?_cons_succ, List.getElem?_cons_zero] at c4
          have HF5 := hidden (HF4.out.set_ 2 (.slice A8 (rstL (j + 1) l).length c8))
          have HRR5 := hidden (HRR4.out.other (a := ⟨w.heap.size + 1, 2, none⟩) (by show w.heap.size + 1 ≠ w.heap.size; omega) (.slice A8 (rstL (j + 1) l).length c8))
          have HO5 := hidden (own_set (i := 2) HO4.out HF4.out (by decide) (.slice A8 (rstL (j + 1) l).length c8))
          have HR5 := hidden (HR4.out.set_ (i := 2) HF4.out (by decide) (.slice A8 (rstL (j + 1) l).length c8))
          have HB5 := hidden (HB4.out.setCell (p := ⟨w.heap.size + 1, 2, none⟩) (by show w.heap.size ≤ w.heap.size + 1; omega) (.slice A8 (rstL (j + 1) l).length c8))
          simp only [List.set_cons_succ, List.set_cons_zero] at HF5
          clear hown4 hb4 c2'
          go_wp2_with fail
          refine ⟨⟨j + 1, _, _, by omega, by go_num, HF5.out, HRR5.out, ?_, HR5.out, HB5.out⟩, by simp [intOf]; omega⟩
          rw [HSTEP.out]
          have h := HO5.out
          rw [show (hd ++ enc (zz x).toNat).length = hd.length + (enc (zz x).toNat).length from List.length_append] at h ⊢
          exact h
    · have hje : j = M := by omega
      subst hje
      have HEL := hidden (show (encV (rstL j l)).length ≤ 31 + 28 * 65536 by have := encV_len (rstL j l); have := HRLJ.out; omega)
      have HSZ := hidden (fun w' hu => size_anyF (.slice A6 (rstL j l).length c6) (rstL j l) w' hu (by have := HRLJ.out; omega) (HIN.out j))
      rw [sizeV_len] at HSZ
      have HGD := hidden (show Grows wr wr.drew from fr_draws (Below.refl _ _) _)
      have c0 := HF.out.cell 0
      simp only [List.getElem?_cons_zero] at c0
      obtain ⟨A9, c9, hv9, _⟩ := IsBytes.of_own HO.out
      subst hv9
      clear hlt
      go_wp2_with fail
      go_region_held3 (fun w' => w'.cell? ⟨w.heap.size + 1, 0, none⟩ = some (.int .i64 (k : Int)) ∧ w'.cell? ⟨w.heap.size + 1, 1, none⟩ = some (.slice A9 (hdB j l).length c9) ∧ w'.cell? ⟨w.heap.size + 1, 2, none⟩ = some (.slice A6 (rstL j l).length c6))
        (go_keep)
        (first
          | ((with_reducible refine (HSZ.out wr.drew (IsI.grow HI.out HGD.out)).mono ?_); rintro e w5 ⟨rfl, g5⟩
             have G5 := hidden (Grows.of_below HGD.out g5)
             have RF5 := hidden (Row.grow HF.out G5.out)
             have RR5 := hidden (Row.grow HRR.out G5.out)
             have q0 := RF5.out.cell 0
             have q1 := RF5.out.cell 1
             have q2 := RF5.out.cell 2
             have p0 := RR5.out.cell 0
             have p1 := RR5.out.cell 1
             have p2 := RR5.out.cell 2
             have r0 := RR5.out.frozen 0
             have r1 := RR5.out.frozen 1
             have r2 := RR5.out.frozen 2
             simp only [List.getElem?_cons_succ, List.getElem?_cons_zero] at q0 q1 q2 p0 p1 p2
             clear g5))
      clear q0 q1 q2 p0 p1 p2 r0 r1 r2 c0 c1 c2
      have s0 := (RR5.out.set_ 0 (.int .i64 (k : Int)))
      have s1 := s0.set_ 1 (.slice A9 (hdB j l).length c9)
      have s2 := s1.set_ 2 (.slice A6 (rstL j l).length c6)
      have HOE := hidden (own_set (i := 2) (own_set (i := 1) (own_set (i := 0) (own_grow HO.out G5.out) RR5.out (by decide) (.int .i64 (k : Int))) s0 (by decide) (.slice A9 (hdB j l).length c9)) s1 (by decide) (.slice A6 (rstL j l).length c6))
      have HRE := hidden ((((HR.out.grow G5.out).set_ (i := 0) RR5.out (by decide) (.int .i64 (k : Int))).set_ (i := 1) s0 (by decide) (.slice A9 (hdB j l).length c9)).set_ (i := 2) s1 (by decide) (.slice A6 (rstL j l).length c6))
      have HBE := hidden ((((Grows.of_below HB.out G5.out).setCell (p := ⟨w.heap.size, 0, none⟩) (Nat.le_refl _) (.int .i64 (k : Int))).setCell (p := ⟨w.heap.size, 1, none⟩) (Nat.le_refl _) (.slice A9 (hdB j l).length c9)).setCell (p := ⟨w.heap.size, 2, none⟩) (Nat.le_refl _) (.slice A6 (rstL j l).length c6))
      simp only [List.set_cons_succ, List.set_cons_zero] at s2
      generalize ((w5.setCell ⟨w.heap.size, 0, none⟩ (.int .i64 (k : Int))).setCell ⟨w.heap.size, 1, none⟩ (.slice A9 (hdB j l).length c9)).setCell ⟨w.heap.size, 2, none⟩ (.slice A6 (rstL j l).length c6) = w6 at *
      have hlen : IntKind.i64.wrap (IntKind.i64.wrap (1 + ((hdB j l).length : Int)) + ((encV (rstL j l)).length : Int)) = (((dlForm k l).length : Nat) : Int) := by
        have h1 := HFL.out
        rw [← HMN.out, ← HMR.out] at h1
        have := HLJ.out
        have := HEL.out
        rw [IntKind.wrap_i64, IntKind.wrap_i64]
        omega
      rw [hlen]
      clear hlen
      go_wp2_with fail
      refine bodyPost_ret (results_fm2 rfl _ _ _ _ _ _ (.int .i64 (((dlForm k l).length : Nat) : Int)) rfl s2 rfl) rfl ?_
      unfold FormR RestI
      rw [← HMN.out, ← HMR.out]
      exact ⟨_, _, _, rfl, HOE.out, HRE.out, HBE.out⟩
theorem validOrder2_t {n : Int} (h : 2 ≤ n) (w : World) : Calls Try.prog 24 #[.int .i64 2, .int .i64 n] w fun e w' => e = .returned (.bool true) ∧ w = w' :=
  (validOrder_any 2 n w).mono fun e w' ⟨h1, h2⟩ => ⟨by rw [h1]; exact retB (by simp; exact h), h2⟩
theorem validOrder2_f {n : Int} (h : n < 2) (w : World) : Calls Try.prog 24 #[.int .i64 2, .int .i64 n] w fun e w' => e = .returned (.bool false) ∧ w = w' :=
  (validOrder_any 2 n w).mono fun e w' ⟨h1, h2⟩ => ⟨by rw [h1]; exact retB (by simp; exact h), h2⟩
theorem RestI.base {w w1 wr : World} {v u : Value} {l : List Int} {j : Nat} (h : RestI w1 wr v l j u) (hb : w.heap.size ≤ w1.heap.size) : RestI w wr v l j u := h.imp id fun h => ownsRow_base h hb
set_option maxRecDepth 20000 in
set_option maxHeartbeats 8000000 in
theorem choose9_any (A : Option Addr) (c : Nat) (l : List Int) (w : World) (hv : IsI w (.slice A l.length c) l) (hl : l.length ≤ 65536) (hin : ∀ x ∈ l, frIn x) :
    Calls Try.prog 20 #[.slice A l.length c] w (FormR (.slice A l.length c) l (dlOrd l) w) := by
  have hmf : ∀ (fn : Fn) (first cap : Array Value) (w : World), (Instr.makeFunc fn first cap).run Try.prog w = .ok (.func fn first cap) w := fun _ _ _ _ => rfl
  have HV := hidden hv
  have HO := hidden (show dlOrd l = if l.length < 2 then 1 else if (dlForm 2 l).length < (dlForm 1 l).length then 2 else 1 from rfl)
  have HL1 := hidden (dlForm_le (k := 1) (by decide) l)
  have HL2 := hidden (dlForm_le (k := 2) (by decide) l)
  have hs1 := World.size_alloc w (.cells #[.slice A l.length c] 22)
  obtain ⟨wA, hwA⟩ : ∃ wA, wA = (w.alloc (.cells #[.slice A l.length c] 22)).alloc (.cells #[.int .i64 0, .slice none 0 0, .slice none 0 0] 41) := ⟨_, rfl⟩
  have HGA : Hid (Grows w wA) := by rw [hwA]; exact ((Below.refl _ _).alloc (Nat.le_refl _) _).alloc (by rw [hs1]; omega) _
  have HRV : Hid (Row wA w.heap.size 22 [.slice A l.length c]) := by rw [hwA]; exact Row.grow (Row.new w 22 #[.slice A l.length c] [.slice A l.length c] rfl) ((Below.refl _ _).alloc (Nat.le_refl _) _)
  have HRR : Hid (Row wA (w.heap.size + 1) 41 [.int .i64 0, .slice none 0 0, .slice none 0 0]) := by rw [hwA]; exact Row.at_ _ 41 #[.int .i64 0, .slice none 0 0, .slice none 0 0] [.int .i64 0, .slice none 0 0, .slice none 0 0] rfl _ hs1.symm
  have HC1 := hidden (choose1_any w.heap.size A c l 1 wA HRV.out (IsI.grow hv HGA.out) hl hin (by decide))
  have HC2 := hidden (fun w' (h : Grows wA w') => choose1_any w.heap.size A c l 2 w' (Row.grow HRV.out h) (IsI.grow (IsI.grow HV.out HGA.out) h) hl hin (by decide))
  clear hv hs1
  go_enter Try.func20, Try.ntmps20
  go_wp2_with fail
  rw [← hwA]
  clear hwA
  refine HC1.out.mono ?_
  rintro e w1 ⟨A1, c1, D1, rfl, hown1, hrest1, hg1⟩
  have HI1 := hidden (hrest1.reads (IsI.grow HV.out HGA.out) hg1)
  obtain ⟨A2, c2, rfl⟩ := HI1.out.slice_
  obtain ⟨g1, hg1e⟩ : ∃ g1, g1 = w1.heap.size := ⟨_, rfl⟩
  have HF1 := hidden (Row.at_ w1 41 #[.int .i64 1, .slice A1 (hdB 1 l).length c1, .slice A2 (rstL 1 l).length c2] [.int .i64 1, .slice A1 (hdB 1 l).length c1, .slice A2 (rstL 1 l).length c2] rfl g1 hg1e)
  have HG1 := hidden (show Grows wA (w1.alloc (.cells #[.int .i64 1, .slice A1 (hdB 1 l).length c1, .slice A2 (rstL 1 l).length c2] 41)) from Grows.of_below hg1 ((Below.refl _ _).alloc (Nat.le_refl _) _))
  have HO1 := hidden (own_grow hown1 (show Grows w1 (w1.alloc (.cells #[.int .i64 1, .slice A1 (hdB 1 l).length c1, .slice A2 (rstL 1 l).length c2] 41)) from (Below.refl _ _).alloc (Nat.le_refl _) _))
  have HR1 := hidden (hrest1.grow (show Grows w1 (w1.alloc (.cells #[.int .i64 1, .slice A1 (hdB 1 l).length c1, .slice A2 (rstL 1 l).length c2] 41)) from (Below.refl _ _).alloc (Nat.le_refl _) _))
  have cbv := (Row.grow HRV.out HG1.out).cell 0
  simp only [List.getElem?_cons_zero] at cbv
  have hg1' := hg1e.symm
  clear hown1 hrest1 hg1 hg1e HI1
  go_wp2_with fail
  generalize w1.alloc (.cells #[.int .i64 1, .slice A1 (hdB 1 l).length c1, .slice A2 (rstL 1 l).length c2] 41) = w2 at *
  have HB2 := hidden (Grows.of_below HGA.out HG1.out)
  have HOB := hidden (ownsRow_base HO1.out HGA.out.size)
  have HRB := hidden (RestI.base HR1.out HGA.out.size)
  have HZ2 := hidden (Row.grow HRR.out HG1.out)
  by_cases h2 : l.length < 2
  · rw [if_pos h2] at HO
    refine (validOrder2_f (by omega) w2).mono ?_
    rintro e w3 ⟨rfl, rfl⟩
    clear h2 cbv hg1'
    have q0 := HF1.out.cell 0
    have q1 := HF1.out.cell 1
    have q2 := HF1.out.cell 2
    have p0 := HZ2.out.cell 0
    have p1 := HZ2.out.cell 1
    have p2 := HZ2.out.cell 2
    have r0 := HZ2.out.frozen 0
    have r1 := HZ2.out.frozen 1
    have r2 := HZ2.out.frozen 2
    simp only [List.getElem?_cons_succ, List.getElem?_cons_zero] at q0 q1 q2 p0 p1 p2
    go_wp2_with fail
    clear q0 q1 q2 p0 p1 p2 r0 r1 r2
    have s0 := (HZ2.out.set_ 0 (.int .i64 1))
    have s1 := s0.set_ 1 (.slice A1 (hdB 1 l).length c1)
    have s2 := s1.set_ 2 (.slice A2 (rstL 1 l).length c2)
    have HOE := hidden (own_set (i := 2) (own_set (i := 1) (own_set (i := 0) HOB.out HZ2.out (by decide) (.int .i64 1)) s0 (by decide) (.slice A1 (hdB 1 l).length c1)) s1 (by decide) (.slice A2 (rstL 1 l).length c2))
    have HRE := hidden (((HRB.out.set_ (i := 0) HZ2.out (by decide) (.int .i64 1)).set_ (i := 1) s0 (by decide) (.slice A1 (hdB 1 l).length c1)).set_ (i := 2) s1 (by decide) (.slice A2 (rstL 1 l).length c2))
    have HBE := hidden (((HB2.out.setCell (p := ⟨w.heap.size + 1, 0, none⟩) (by show w.heap.size ≤ w.heap.size + 1; omega) (.int .i64 1)).setCell (p := ⟨w.heap.size + 1, 1, none⟩) (by show w.heap.size ≤ w.heap.size + 1; omega) (.slice A1 (hdB 1 l).length c1)).setCell (p := ⟨w.heap.size + 1, 2, none⟩) (by show w.heap.size ≤ w.heap.size + 1; omega) (.slice A2 (rstL 1 l).length c2))
    simp only [List.set_cons_succ, List.set_cons_zero] at s2
    generalize ((w2.setCell ⟨w.heap.size + 1, 0, none⟩ (.int .i64 1)).setCell ⟨w.heap.size + 1, 1, none⟩ (.slice A1 (hdB 1 l).length c1)).setCell ⟨w.heap.size + 1, 2, none⟩ (.slice A2 (rstL 1 l).length c2) = w6 at *
    refine bodyPost_ret (results_fm2 rfl _ _ _ _ _ _ (.int .i64 (((dlForm 1 l).length : Nat) : Int)) rfl s2 rfl) rfl ?_
    rw [HO.out]
    exact ⟨_, _, _, rfl, HOE.out, HRE.out, HBE.out⟩
  · rw [if_neg h2] at HO
    refine (validOrder2_t (by omega) w2).mono ?_
    rintro e w3 ⟨rfl, rfl⟩
    clear h2
    go_wp2_with fail
    refine (HC2.out w2 HG1.out).mono ?_
    rintro e w4 ⟨A3, c3, D3, rfl, hown4, hrest4, hg4⟩
    have HI4 := hidden (hrest4.reads (IsI.grow HV.out HB2.out) hg4)
    obtain ⟨A4, c4, rfl⟩ := HI4.out.slice_
    obtain ⟨g4, hg4e⟩ : ∃ g4, g4 = w4.heap.size := ⟨_, rfl⟩
    have hga : Grows w4 (w4.alloc (.cells #[.int .i64 2, .slice A3 (hdB 2 l).length c3, .slice A4 (rstL 2 l).length c4] 41)) := (Below.refl _ _).alloc (Nat.le_refl _) _
    have HF5 := hidden (Row.at_ w4 41 #[.int .i64 2, .slice A3 (hdB 2 l).length c3, .slice A4 (rstL 2 l).length c4] [.int .i64 2, .slice A3 (hdB 2 l).length c3, .slice A4 (rstL 2 l).length c4] rfl g4 hg4e)
    have HG5 := hidden (Grows.of_below hg4 hga)
    have HB5 := hidden (Grows.of_below HB2.out HG5.out)
    have HO5 := hidden (ownsRow_base (own_grow hown4 hga) HB2.out.size)
    have HR5 := hidden (RestI.base (hrest4.grow hga) HB2.out.size)
    have HF15 := hidden (Row.grow HF1.out HG5.out)
    have HO15 := hidden (own_grow HOB.out HG5.out)
    have HR15 := hidden (HRB.out.grow HG5.out)
    have HZ5 := hidden (Row.grow HZ2.out HG5.out)
    have hg4' := hg4e.symm
    have HL1' := HL1.out
    have HL2' := HL2.out
    by_cases hlt : (dlForm 2 l).length < (dlForm 1 l).length
    · rw [if_pos hlt] at HO
      have hd : decide ((dlForm 2 l).length < (dlForm 1 l).length) = true := by simpa using hlt
      clear hlt hown4 hrest4 hg4 hga hg4e HI4
      have q0 := HF5.out.cell 0
      have q1 := HF5.out.cell 1
      have q2 := HF5.out.cell 2
      have p0 := HZ5.out.cell 0
      have p1 := HZ5.out.cell 1
      have p2 := HZ5.out.cell 2
      have r0 := HZ5.out.frozen 0
      have r1 := HZ5.out.frozen 1
      have r2 := HZ5.out.frozen 2
      simp only [List.getElem?_cons_succ, List.getElem?_cons_zero] at q0 q1 q2 p0 p1 p2
      go_wp2_with fail
      clear q0 q1 q2 p0 p1 p2 r0 r1 r2
      have s0 := (HZ5.out.set_ 0 (.int .i64 2))
      have s1 := s0.set_ 1 (.slice A3 (hdB 2 l).length c3)
      have s2 := s1.set_ 2 (.slice A4 (rstL 2 l).length c4)
      have HOE := hidden (own_set (i := 2) (own_set (i := 1) (own_set (i := 0) HO5.out HZ5.out (by decide) (.int .i64 2)) s0 (by decide) (.slice A3 (hdB 2 l).length c3)) s1 (by decide) (.slice A4 (rstL 2 l).length c4))
      have HRE := hidden (((HR5.out.set_ (i := 0) HZ5.out (by decide) (.int .i64 2)).set_ (i := 1) s0 (by decide) (.slice A3 (hdB 2 l).length c3)).set_ (i := 2) s1 (by decide) (.slice A4 (rstL 2 l).length c4))
      have HBE := hidden (((HB5.out.setCell (p := ⟨w.heap.size + 1, 0, none⟩) (by show w.heap.size ≤ w.heap.size + 1; omega) (.int .i64 2)).setCell (p := ⟨w.heap.size + 1, 1, none⟩) (by show w.heap.size ≤ w.heap.size + 1; omega) (.slice A3 (hdB 2 l).length c3)).setCell (p := ⟨w.heap.size + 1, 2, none⟩) (by show w.heap.size ≤ w.heap.size + 1; omega) (.slice A4 (rstL 2 l).length c4))
      simp only [List.set_cons_succ, List.set_cons_zero] at s2
      generalize (((w4.alloc (.cells #[.int .i64 2, .slice A3 (hdB 2 l).length c3, .slice A4 (rstL 2 l).length c4] 41)).setCell ⟨w.heap.size + 1, 0, none⟩ (.int .i64 2)).setCell ⟨w.heap.size + 1, 1, none⟩ (.slice A3 (hdB 2 l).length c3)).setCell ⟨w.heap.size + 1, 2, none⟩ (.slice A4 (rstL 2 l).length c4) = w6 at *
      refine bodyPost_ret (results_fm2 rfl _ _ _ _ _ _ (.int .i64 (((dlForm 2 l).length : Nat) : Int)) rfl s2 rfl) rfl ?_
      rw [HO.out]
      exact ⟨_, _, _, rfl, HOE.out, HRE.out, HBE.out⟩
    · rw [if_neg hlt] at HO
      have hd : decide ((dlForm 2 l).length < (dlForm 1 l).length) = false := by simpa using hlt
      clear hlt hown4 hrest4 hg4 hga hg4e HI4
      have q0 := HF15.out.cell 0
      have q1 := HF15.out.cell 1
      have q2 := HF15.out.cell 2
      have p0 := HZ5.out.cell 0
      have p1 := HZ5.out.cell 1
      have p2 := HZ5.out.cell 2
      have r0 := HZ5.out.frozen 0
      have r1 := HZ5.out.frozen 1
      have r2 := HZ5.out.frozen 2
      simp only [List.getElem?_cons_succ, List.getElem?_cons_zero] at q0 q1 q2 p0 p1 p2
      go_wp2_with fail
      clear q0 q1 q2 p0 p1 p2 r0 r1 r2
      have s0 := (HZ5.out.set_ 0 (.int .i64 1))
      have s1 := s0.set_ 1 (.slice A1 (hdB 1 l).length c1)
      have s2 := s1.set_ 2 (.slice A2 (rstL 1 l).length c2)
      have HOE := hidden (own_set (i := 2) (own_set (i := 1) (own_set (i := 0) HO15.out HZ5.out (by decide) (.int .i64 1)) s0 (by decide) (.slice A1 (hdB 1 l).length c1)) s1 (by decide) (.slice A2 (rstL 1 l).length c2))
      have HRE := hidden (((HR15.out.set_ (i := 0) HZ5.out (by decide) (.int .i64 1)).set_ (i := 1) s0 (by decide) (.slice A1 (hdB 1 l).length c1)).set_ (i := 2) s1 (by decide) (.slice A2 (rstL 1 l).length c2))
      have HBE := hidden (((HB5.out.setCell (p := ⟨w.heap.size + 1, 0, none⟩) (by show w.heap.size ≤ w.heap.size + 1; omega) (.int .i64 1)).setCell (p := ⟨w.heap.size + 1, 1, none⟩) (by show w.heap.size ≤ w.heap.size + 1; omega) (.slice A1 (hdB 1 l).length c1)).setCell (p := ⟨w.heap.size + 1, 2, none⟩) (by show w.heap.size ≤ w.heap.size + 1; omega) (.slice A2 (rstL 1 l).length c2))
      simp only [List.set_cons_succ, List.set_cons_zero] at s2
      generalize (((w4.alloc (.cells #[.int .i64 2, .slice A3 (hdB 2 l).length c3, .slice A4 (rstL 2 l).length c4] 41)).setCell ⟨w.heap.size + 1, 0, none⟩ (.int .i64 1)).setCell ⟨w.heap.size + 1, 1, none⟩ (.slice A1 (hdB 1 l).length c1)).setCell ⟨w.heap.size + 1, 2, none⟩ (.slice A2 (rstL 1 l).length c2) = w6 at *
      refine bodyPost_ret (results_fm2 rfl _ _ _ _ _ _ (.int .i64 (((dlForm 1 l).length : Nat) : Int)) rfl s2 rfl) rfl ?_
      rw [HO.out]
      exact ⟨_, _, _, rfl, HOE.out, HRE.out, HBE.out⟩
end Go.Proofs.Ytjjeebaelpgjlaa
