/-
  Texts that the claims of this seat share, put together (Ds2, Ds3, Ds5). No condition.
-/
import Derived.Test.YthmipnokimlbdaaGreatM18
import Derived.Test.YthmipnokimlbdaaGreatM13
import Derived.Deep.RegionLaw
import Derived.Deep.RegionHeld3
import Derived.Test.YthmipnokimlbdaaGreatM10
import Derived.Test.YthmipnokimlbdaaGreatVCat
/-
  Shaken: what the claims of this seat need of this text. No condition.
-/
namespace Go.Proofs.YthmipnokimlbdaaGreat
set_option maxRecDepth 20000
open Go.RowKit
set_option linter.unusedVariables false
set_option linter.unusedSimpArgs false
theorem step_call {P : Program} {ops : Array Oper} {o : Oper} {a : Act} {w : World} {K : Act → World → Prop} {Q : Exit → Act → World → Prop} {E : Prop} {f : FuncId} {args : Array Value} {xs : Array Operand} {ts : Array TypeId} {R : Ending → World → Prop} (hg : o.guard = none)
    (_hop : o.op = .call { callee := .value (.func f), args := xs, argTypes := ts }) (he : (execOp a.eval o).run P w = .ok (.enter f args) w) (hc : Calls P f args w R) (hK : ∀ e w', R e w' → ∃ v, e = .returned v ∧ K (a.put o.dst v) w') :
    if Region.wanted o (yielded ops a.tmps) = true then Oper.wp P o a w K Q else E := by
  have hw : Region.wanted o (yielded ops a.tmps) = true := by simp [Region.wanted, hg]
  rw [if_pos hw]
  unfold Oper.wp
  rw [he]
  simp only [Oper.upon]
  exact hc.mono fun e w' hR => by obtain ⟨v, hv, hk⟩ := hK e w' hR; subst hv; exact hk
theorem step_append_bytes {w wr : World} {ops : Array Oper} {o : Oper} {a : Act} {K : Act → World → Prop} {Q : Exit → Act → World → Prop} {E : Prop} (hg : o.guard = none) (s x : Operand)
    (ho : o.op = .call { callee := .builtin .append, args := #[s, x], argTypes := #[29, 29] })
    (v : Value) (pre : List UInt8) (hs : a.eval s = v) (hown : wr.ownsRow w.heap.size 5 1 v pre.length (bcells pre)) (hb : Below w.heap.size w wr)
    (u : Value) (l : List UInt8) (hx : a.eval x = u) (hu : IsBytes wr u l) (hlen : pre.length + l.length ≤ 140737488355328)
    (hK : ∀ v' w', w'.ownsRow w.heap.size 5 1 v' (pre ++ l).length (bcells (pre ++ l)) → Below w.heap.size w w' → KeepsRows 5 wr w' → K (a.put o.dst v') w') :
    if Region.wanted o (yielded ops a.tmps) = true then Oper.wp Tryz.prog o a wr K Q else E := by
  have hw : Region.wanted o (yielded ops a.tmps) = true := by simp [Region.wanted, hg]
  rw [if_pos hw]
  obtain ⟨v', w', hrun, h2, h3, h4⟩ := run_append_bytes_k (P := Tryz.prog) (ty := o.type) Tryz.underlying29 info_u8 hown hb hu hlen
  unfold Oper.wp execOp
  simp only [ho, resolve, invoke, builtin, Sem.run_bind, Sem.run_pure, Result.andThen_ok, List.map_toArray, List.map_cons, List.map_nil, hs, hx, hrun]
  exact hK _ _ h2 h3 h4
theorem sizeFm : (Tryz.prog.info? 181).map (·.size) = some 3 := by kernel_rfl
theorem results_fm2 {fn : Func} {p q : Tmp} (h : fn.results = #[.cell p 181, .tmp q]) (tmps : Array Value) (w : World) (g : Nat) (a b c x : Value) (hp : tmps.getD p undef = .pointer (some ⟨g, 0, none⟩)) (hg : Row w g 181 [a, b, c])
    (hx : tmps.getD q undef = x) : (results fn tmps).run Tryz.prog w = .ok (.tuple #[.agg #[a, b, c], x]) w := by
  have hp' : tmps[p]?.getD undef = .pointer (some ⟨g, 0, none⟩) := by simpa using hp
  have hx' : tmps[q]?.getD undef = x := by simpa using hx
  simp [results, h, hp', hx', asAddr, run_loadVar_row w g 181 181 #[a, b, c] (0, 0) _ hg Tryz.underlying181 rfl sizeFm]
def FormR (v : Value) (l : List Int) (k : Nat) (w : World) (e : Ending) (w' : World) : Prop :=
  ∃ A c D, e = .returned (.tuple #[.agg #[.int .i64 (k : Int), .slice A (hdB k l).length c, D], .int .i64 (((dlForm k l).length : Nat) : Int)]) ∧ w'.ownsRow w.heap.size 5 1 (.slice A (hdB k l).length c) (hdB k l).length (bcells (hdB k l)) ∧ RestI w w' v l k D ∧ Grows w w'
theorem own_setDs2 {w : World} {base g i : Nat} {e E : TypeId} {v : Value} {n : Nat} {xs ys : List Value} (h : w.ownsRow base e 1 v n xs) (hr : Row w g E ys) (hne : E ≠ e) (u : Value) : (w.setCell ⟨g, i, none⟩ u).ownsRow base e 1 v n xs := by
  refine ownsRow_setCell_other h ?_ _
  intro he
  rcases h.2 with ⟨h1, _⟩ | ⟨g', cap, cur, h1, _, h2, _⟩
  · rw [h1] at he; cases he
  · rw [h1] at he
    simp only [Value.ownBlock, Option.some.injEq] at he
    subst he
    unfold Row at hr
    rw [h2] at hr
    injection hr with hr
    injection hr with _ h2 _
    exact hne h2.symm
theorem RestI.set_ {w wr : World} {v u : Value} {l : List Int} {j g i : Nat} {E : TypeId} {ys : List Value} (h : RestI w wr v l j u) (hr : Row wr g E ys) (hne : E ≠ 2) (x : Value) : RestI w (wr.setCell ⟨g, i, none⟩ x) v l j u := h.imp id fun h => own_setDs2 h hr hne x
def Ch1Rel (w : World) (v : Value) (l : List Int) (k M : Nat) (i : Value) (wr : World) : Prop :=
  ∃ (j : Nat) (lv dv : Value), j ≤ M ∧ i = .int .i64 (j : Int) ∧ Row wr (w.heap.size + 1) 181 [.int .i64 (k : Int), lv, dv] ∧ Row wr w.heap.size 181 [.int .i64 0, .slice none 0 0, .slice none 0 0] ∧
    wr.ownsRow w.heap.size 5 1 lv (hdB j l).length (bcells (hdB j l)) ∧ RestI w wr v l j dv ∧ Below w.heap.size w wr
set_option maxRecDepth 20000 in
set_option maxHeartbeats 8000000 in
theorem choose1_any (bv : Nat) (A : Option Addr) (c : Nat) (l : List Int) (k : Nat) (w : World) (hrv : Row w bv 22 [.slice A l.length c]) (hv : IsI w (.slice A l.length c) l) (hl : l.length ≤ 65536) (hin : ∀ x ∈ l, frIn x) (hk : k ≤ 2) :
    Calls Tryz.prog 206 #[.int .i64 (k : Int), .pointer (some ⟨bv, 0, none⟩)] w (FormR (.slice A l.length c) l k w) := by
  have HV := hidden hv
  have HIN := hidden (rstL_in hin)
  have HRL := hidden (fun j => rstL_length j l)
  have HHL := hidden (fun j => hdB_len j l)
  have HMN := hidden (show hdB (min k l.length) l = hdB k l by unfold hdB; rw [hdsL_min])
  have HMR := hidden (rstL_min l k)
  have HFL := hidden (dlForm_len k l)
  have cbv := hrv.cell 0
  simp only [List.getElem?_cons_zero] at cbv
  have hbl := hrv.lt
  obtain ⟨M, hM⟩ : ∃ M, M = min k l.length := ⟨_, rfl⟩
  have HM := hidden hM
  have hMi : min (k : Int) (l.length : Int) = (M : Int) := by omega
  have HLC := hidden (fun w' => leadingCount_any (k : Int) (l.length : Int) w')
  rw [hMi] at HLC
  rw [← hM] at HMN HMR
  have hM2 : M ≤ 2 := by omega
  have hMl : M ≤ l.length := by omega
  have hs1 := World.size_alloc w (.cells #[.int .i64 0, .slice none 0 0, .slice none 0 0] 181)
  have HR1 := hidden (Row.grow (Row.new w 181 #[.int .i64 0, .slice none 0 0, .slice none 0 0] [.int .i64 0, .slice none 0 0, .slice none 0 0] rfl) (w' := (w.alloc (.cells #[.int .i64 0, .slice none 0 0, .slice none 0 0] 181)).alloc (.cells #[.int .i64 (k : Int), .slice none 0 0, .slice A l.length c] 181)) ((Below.refl _ _).alloc (Nat.le_refl _) _))
  have HF1 := hidden (Row.at_ (w.alloc (.cells #[.int .i64 0, .slice none 0 0, .slice none 0 0] 181)) 181 #[.int .i64 (k : Int), .slice none 0 0, .slice A l.length c] [.int .i64 (k : Int), .slice none 0 0, .slice A l.length c] rfl (w.heap.size + 1) hs1.symm)
  have HB1 := hidden (((Below.refl w.heap.size w).alloc (Nat.le_refl _) (.cells #[.int .i64 0, .slice none 0 0, .slice none 0 0] 181)).alloc (by rw [hs1]; omega) (.cells #[.int .i64 (k : Int), .slice none 0 0, .slice A l.length c] 181))
  clear hrv hv hM hs1 hMi
  go_enter Tryz.func206, Tryz.ntmps206
  go_wp2_with fail
  generalize (w.alloc (.cells #[.int .i64 0, .slice none 0 0, .slice none 0 0] 181)).alloc (.cells #[.int .i64 (k : Int), .slice none 0 0, .slice A l.length c] 181) = w2 at *
  refine (HLC.out w2).mono ?_
  rintro e w3 ⟨rfl, rfl⟩
  clear cbv hbl
  go_wp2_with fail
  go_loopw [13] (fun i wr => Ch1Rel w (.slice A l.length c) l k M i wr) (fun i _ => M - (intOf i).toNat)
  case atStart => exact ⟨0, _, _, by omega, rfl, HF1.out, HR1.out, ⟨rfl, .inl ⟨rfl, rfl⟩⟩, .inl ⟨rfl, rfl⟩, HB1.out⟩
  case round =>
    obtain ⟨j, lv, dv, hj, rfl, hfr, hrr, hown, hrest, hbw⟩ := hrel
    have HB := hidden hbw
    have HO := hidden hown
    have HR := hidden hrest
    have HF := hidden hfr
    have HRR := hidden hrr
    have HI := hidden (hrest.reads HV.out hbw)
    obtain ⟨A6, c6, rfl⟩ := HI.out.slice_
    have HLJ := hidden (HHL.out j)
    have HRLJ := hidden (HRL.out j)
    have c1 := hfr.cell 1
    have c2 := hfr.cell 2
    simp only [List.getElem?_cons_succ, List.getElem?_cons_zero] at c1 c2
    clear hown hrest hbw hfr hrr HF1 HR1 HB1
    by_cases hlt : j < M
    · have h0 : 0 < (rstL j l).length := by have := HRLJ.out; omega
      obtain ⟨b, f, rfl, hck⟩ := HI.out.at_ h0
      simp only [Nat.add_zero] at hck
      have HSTEP := hidden (hdB_step (take1 h0))
      have hx := HIN.out j _ (List.getElem_mem h0)
      have HDJ := hidden (fun u w' hu => diff_any u (rstL j l) w' hu (by have := HRLJ.out; omega))
      have HD2 := hidden (show dfL (rstL j l) = rstL (j + 1) l from rfl)
      generalize hxe : (rstL j l)[0] = x at *
      have hz := zz_bd x hx.1 (by have := hx.2; omega)
      have HZG := hidden (fun W' => zigzag_any x W' hx.1 (by have := hx.2; omega))
      have HE1 := hidden (fun W' => encode_any (zz x) W' hz.1 (by omega))
      generalize hdB j l = hd at *
      have HEX := hidden (enc_le10 (zz x).toNat)
      have h0' : (0 : Int) < ((rstL j l).length : Int) := by omega
      have HGD := hidden (show Grows wr wr.drew from fr_draws (Below.refl _ _) _)
      clear hx hz hxe
      go_wp2_with fail
      go_region_law (first
        | (refine step_call (f := 150) (args := #[.int .i64 x]) rfl rfl ?_ (HZG.out _) ?_; (focus go_simp); rintro e w2 ⟨rfl, rfl⟩; refine ⟨_, rfl, ?_⟩)
        | (refine step_call (f := 149) (args := #[.int .u64 (zz x)]) rfl rfl ?_ (HE1.out _) ?_; (focus go_simp); rintro e w1 ⟨v1, rfl, hown1, hb1⟩
           have HU1 := hidden (IsBytes.of_own hown1)
           have HG1 := hidden (Grows.of_below HGD.out hb1)
           have HB1 := hidden (HB.out.trans (HG1.out.mono HB.out.size))
           have HO1 := hidden (own_grow HO.out HG1.out)
           have HR1 := hidden (HR.out.grow HG1.out)
           have HF1 := hidden (Row.grow HF.out HG1.out)
           have HRR1 := hidden (Row.grow HRR.out HG1.out)
           have c1' := HF1.out.cell 1
           simp only [List.getElem?_cons_succ, List.getElem?_cons_zero] at c1'
           clear hown1 hb1
           refine ⟨_, rfl, ?_⟩)
        | (refine step_append_bytes (w := w) rfl _ _ rfl _ hd (by rfl) HO1.out HB1.out _ (enc (zz x).toNat) (by rfl) HU1.out (by have := HEX.out; have := HLJ.out; omega) ?_
           intro v2 w2 hown2 hb2 hk2
           obtain ⟨A7, c7, hv7, _⟩ := IsBytes.of_own hown2
           subst hv7
           have HO2 := hidden hown2
           have HB2 := hidden hb2
           have HR2 := hidden (HR1.out.keep hk2)
           have HF2 := hidden (hk2.row (by decide) (by unfold maxLen; simp) HF1.out)
           have HRR2 := hidden (hk2.row (by decide) (by unfold maxLen; simp) HRR1.out)
           have c1'' := HF2.out.cell 1
           have f1'' := HF2.out.frozen 1
           simp only [List.getElem?_cons_succ, List.getElem?_cons_zero] at c1''
           clear hown2 hb2 hk2))
      iterate 5
        focus
          clear f1'' c1'' c1' HGD hck
          have HFS := hidden (HF2.out.set_ 1 (.slice A7 (hd.length + (enc (zz x).toNat).length) c7))
          have HRRS := hidden (HRR2.out.other (a := ⟨w.heap.size + 1, 1, none⟩) (by show w.heap.size + 1 ≠ w.heap.size; omega) (.slice A7 (hd.length + (enc (zz x).toNat).length) c7))
          have HOS := hidden (own_setDs2 (i := 1) HO2.out HF2.out (by decide) (.slice A7 (hd.length + (enc (zz x).toNat).length) c7))
          have HRS := hidden (HR2.out.set_ (i := 1) HF2.out (by decide) (.slice A7 (hd.length + (enc (zz x).toNat).length) c7))
          have HBS := hidden (HB2.out.setCell (p := ⟨w.heap.size + 1, 1, none⟩) (by show w.heap.size ≤ w.heap.size + 1; omega) (.slice A7 (hd.length + (enc (zz x).toNat).length) c7))
          generalize w2.setCell ⟨w.heap.size + 1, 1, none⟩ (.slice A7 (hd.length + (enc (zz x).toNat).length) c7) = w3 at *
          simp only [List.set_cons_succ, List.set_cons_zero] at HFS
          have c2' := HFS.out.cell 2
          simp only [List.getElem?_cons_succ, List.getElem?_cons_zero] at c2'
          clear c1 c2
          go_wp2_with fail
          refine (HDJ.out _ w3 (HRS.out.reads HV.out HBS.out)).mono ?_
          rintro e w4 ⟨v4, rfl, hb4, hown4⟩
          rw [HD2.out] at hown4
          obtain ⟨A8, c8, rfl⟩ := own_ni9 hown4
          have HR4 := hidden (RestI.of_own (v := .slice A l.length c) hown4 HBS.out)
          have HO4 := hidden (own_grow HOS.out hb4)
          have HB4 := hidden (HBS.out.trans (hb4.mono HBS.out.size))
          have HF4 := hidden (Row.grow HFS.out hb4)
          have HRR4 := hidden (Row.grow HRRS.out hb4)
          have c4 := HF4.out.cell 2
          have f4 := HF4.out.frozen 2
          simp only [List.getElem?_cons_succ, List.getElem?_cons_zero] at c4
          have HF5 := hidden (HF4.out.set_ 2 (.slice A8 (rstL (j + 1) l).length c8))
          have HRR5 := hidden (HRR4.out.other (a := ⟨w.heap.size + 1, 2, none⟩) (by show w.heap.size + 1 ≠ w.heap.size; omega) (.slice A8 (rstL (j + 1) l).length c8))
          have HO5 := hidden (own_setDs2 (i := 2) HO4.out HF4.out (by decide) (.slice A8 (rstL (j + 1) l).length c8))
          have HR5 := hidden (HR4.out.set_ (i := 2) HF4.out (by decide) (.slice A8 (rstL (j + 1) l).length c8))
          have HB5 := hidden (HB4.out.setCell (p := ⟨w.heap.size + 1, 2, none⟩) (by show w.heap.size ≤ w.heap.size + 1; omega) (.slice A8 (rstL (j + 1) l).length c8))
          simp only [List.set_cons_succ, List.set_cons_zero] at HF5
          clear hown4 hb4 c2'
          go_wp2_with fail
          refine ⟨⟨j + 1, _, _, by omega, by go_num, HF5.out, HRR5.out, ?_, HR5.out, HB5.out⟩, by simp [intOf]; omega⟩
          rw [HSTEP.out]
          have h := HO5.out
          rw [show (hd ++ enc (zz x).toNat).length = hd.length + (enc (zz x).toNat).length from List.length_append] at h ⊢
          exact h
    · have hje : j = M := by omega
      subst hje
      have HEL := hidden (show (encV (rstL j l)).length ≤ 31 + 28 * 65536 by have := encV_len (rstL j l); have := HRLJ.out; omega)
      have HSZ := hidden (fun w' hu => size_anyF (.slice A6 (rstL j l).length c6) (rstL j l) w' hu (by have := HRLJ.out; omega) (HIN.out j))
      rw [sizeV_len] at HSZ
      have HGD := hidden (show Grows wr wr.drew from fr_draws (Below.refl _ _) _)
      have c0 := HF.out.cell 0
      simp only [List.getElem?_cons_zero] at c0
      obtain ⟨A9, c9, hv9, _⟩ := IsBytes.of_own HO.out
      subst hv9
      clear hlt
      go_wp2_with fail
      go_region_held3 (fun w' => w'.cell? ⟨w.heap.size + 1, 0, none⟩ = some (.int .i64 (k : Int)) ∧ w'.cell? ⟨w.heap.size + 1, 1, none⟩ = some (.slice A9 (hdB j l).length c9) ∧ w'.cell? ⟨w.heap.size + 1, 2, none⟩ = some (.slice A6 (rstL j l).length c6))
        (go_keep)
        (first
          | ((with_reducible refine (HSZ.out wr.drew (IsI.grow HI.out HGD.out)).mono ?_); rintro e w5 ⟨rfl, g5⟩
             have G5 := hidden (Grows.of_below HGD.out g5)
             have RF5 := hidden (Row.grow HF.out G5.out)
             have RR5 := hidden (Row.grow HRR.out G5.out)
             have q0 := RF5.out.cell 0
             have q1 := RF5.out.cell 1
             have q2 := RF5.out.cell 2
             have p0 := RR5.out.cell 0
             have p1 := RR5.out.cell 1
             have p2 := RR5.out.cell 2
             have r0 := RR5.out.frozen 0
             have r1 := RR5.out.frozen 1
             have r2 := RR5.out.frozen 2
             simp only [List.getElem?_cons_succ, List.getElem?_cons_zero] at q0 q1 q2 p0 p1 p2
             clear g5))
      clear q0 q1 q2 p0 p1 p2 r0 r1 r2 c0 c1 c2
      have s0 := (RR5.out.set_ 0 (.int .i64 (k : Int)))
      have s1 := s0.set_ 1 (.slice A9 (hdB j l).length c9)
      have s2 := s1.set_ 2 (.slice A6 (rstL j l).length c6)
      have HOE := hidden (own_setDs2 (i := 2) (own_setDs2 (i := 1) (own_setDs2 (i := 0) (own_grow HO.out G5.out) RR5.out (by decide) (.int .i64 (k : Int))) s0 (by decide) (.slice A9 (hdB j l).length c9)) s1 (by decide) (.slice A6 (rstL j l).length c6))
      have HRE := hidden ((((HR.out.grow G5.out).set_ (i := 0) RR5.out (by decide) (.int .i64 (k : Int))).set_ (i := 1) s0 (by decide) (.slice A9 (hdB j l).length c9)).set_ (i := 2) s1 (by decide) (.slice A6 (rstL j l).length c6))
      have HBE := hidden ((((Grows.of_below HB.out G5.out).setCell (p := ⟨w.heap.size, 0, none⟩) (Nat.le_refl _) (.int .i64 (k : Int))).setCell (p := ⟨w.heap.size, 1, none⟩) (Nat.le_refl _) (.slice A9 (hdB j l).length c9)).setCell (p := ⟨w.heap.size, 2, none⟩) (Nat.le_refl _) (.slice A6 (rstL j l).length c6))
      simp only [List.set_cons_succ, List.set_cons_zero] at s2
      generalize ((w5.setCell ⟨w.heap.size, 0, none⟩ (.int .i64 (k : Int))).setCell ⟨w.heap.size, 1, none⟩ (.slice A9 (hdB j l).length c9)).setCell ⟨w.heap.size, 2, none⟩ (.slice A6 (rstL j l).length c6) = w6 at *
      have hlen : IntKind.i64.wrap (IntKind.i64.wrap (1 + ((hdB j l).length : Int)) + ((encV (rstL j l)).length : Int)) = (((dlForm k l).length : Nat) : Int) := by
        have h1 := HFL.out
        rw [← HMN.out, ← HMR.out] at h1
        have := HLJ.out
        have := HEL.out
        rw [IntKind.wrap_i64, IntKind.wrap_i64]
        omega
      rw [hlen]
      clear hlen
      go_wp2_with fail
      refine bodyPost_ret (results_fm2 rfl _ _ _ _ _ _ (.int .i64 (((dlForm k l).length : Nat) : Int)) rfl s2 rfl) rfl ?_
      unfold FormR RestI
      rw [← HMN.out, ← HMR.out]
      exact ⟨_, _, _, rfl, HOE.out, HRE.out, HBE.out⟩
theorem validOrder2_t {n : Int} (h : 2 ≤ n) (w : World) : Calls Tryz.prog 157 #[.int .i64 2, .int .i64 n] w fun e w' => e = .returned (.bool true) ∧ w = w' :=
  (validOrder_any 2 n w).mono fun e w' ⟨h1, h2⟩ => ⟨by rw [h1]; exact retB (by simp; exact h), h2⟩
theorem validOrder2_f {n : Int} (h : n < 2) (w : World) : Calls Tryz.prog 157 #[.int .i64 2, .int .i64 n] w fun e w' => e = .returned (.bool false) ∧ w = w' :=
  (validOrder_any 2 n w).mono fun e w' ⟨h1, h2⟩ => ⟨by rw [h1]; exact retB (by simp; exact h), h2⟩
theorem RestI.base {w w1 wr : World} {v u : Value} {l : List Int} {j : Nat} (h : RestI w1 wr v l j u) (hb : w.heap.size ≤ w1.heap.size) : RestI w wr v l j u := h.imp id fun h => ownsRow_base h hb
set_option maxRecDepth 20000 in
set_option maxHeartbeats 8000000 in
theorem choose9_any (A : Option Addr) (c : Nat) (l : List Int) (w : World) (hv : IsI w (.slice A l.length c) l) (hl : l.length ≤ 65536) (hin : ∀ x ∈ l, frIn x) :
    Calls Tryz.prog 156 #[.slice A l.length c] w (FormR (.slice A l.length c) l (dlOrd l) w) := by
  have hmf : ∀ (fn : Fn) (first cap : Array Value) (w : World), (Instr.makeFunc fn first cap).run Tryz.prog w = .ok (.func fn first cap) w := fun _ _ _ _ => rfl
  have HV := hidden hv
  have HO := hidden (show dlOrd l = if l.length < 2 then 1 else if (dlForm 2 l).length < (dlForm 1 l).length then 2 else 1 from rfl)
  have HL1 := hidden (dlForm_le (k := 1) (by decide) l)
  have HL2 := hidden (dlForm_le (k := 2) (by decide) l)
  have hs1 := World.size_alloc w (.cells #[.slice A l.length c] 22)
  obtain ⟨wA, hwA⟩ : ∃ wA, wA = (w.alloc (.cells #[.slice A l.length c] 22)).alloc (.cells #[.int .i64 0, .slice none 0 0, .slice none 0 0] 181) := ⟨_, rfl⟩
  have HGA : Hid (Grows w wA) := by rw [hwA]; exact ((Below.refl _ _).alloc (Nat.le_refl _) _).alloc (by rw [hs1]; omega) _
  have HRV : Hid (Row wA w.heap.size 22 [.slice A l.length c]) := by rw [hwA]; exact Row.grow (Row.new w 22 #[.slice A l.length c] [.slice A l.length c] rfl) ((Below.refl _ _).alloc (Nat.le_refl _) _)
  have HRR : Hid (Row wA (w.heap.size + 1) 181 [.int .i64 0, .slice none 0 0, .slice none 0 0]) := by rw [hwA]; exact Row.at_ _ 181 #[.int .i64 0, .slice none 0 0, .slice none 0 0] [.int .i64 0, .slice none 0 0, .slice none 0 0] rfl _ hs1.symm
  have HC1 := hidden (choose1_any w.heap.size A c l 1 wA HRV.out (IsI.grow hv HGA.out) hl hin (by decide))
  have HC2 := hidden (fun w' (h : Grows wA w') => choose1_any w.heap.size A c l 2 w' (Row.grow HRV.out h) (IsI.grow (IsI.grow HV.out HGA.out) h) hl hin (by decide))
  clear hv hs1
  go_enter Tryz.func156, Tryz.ntmps156
  go_wp2_with fail
  rw [← hwA]
  clear hwA
  refine HC1.out.mono ?_
  rintro e w1 ⟨A1, c1, D1, rfl, hown1, hrest1, hg1⟩
  have HI1 := hidden (hrest1.reads (IsI.grow HV.out HGA.out) hg1)
  obtain ⟨A2, c2, rfl⟩ := HI1.out.slice_
  obtain ⟨g1, hg1e⟩ : ∃ g1, g1 = w1.heap.size := ⟨_, rfl⟩
  have HF1 := hidden (Row.at_ w1 181 #[.int .i64 1, .slice A1 (hdB 1 l).length c1, .slice A2 (rstL 1 l).length c2] [.int .i64 1, .slice A1 (hdB 1 l).length c1, .slice A2 (rstL 1 l).length c2] rfl g1 hg1e)
  have HG1 := hidden (show Grows wA (w1.alloc (.cells #[.int .i64 1, .slice A1 (hdB 1 l).length c1, .slice A2 (rstL 1 l).length c2] 181)) from Grows.of_below hg1 ((Below.refl _ _).alloc (Nat.le_refl _) _))
  have HO1 := hidden (own_grow hown1 (show Grows w1 (w1.alloc (.cells #[.int .i64 1, .slice A1 (hdB 1 l).length c1, .slice A2 (rstL 1 l).length c2] 181)) from (Below.refl _ _).alloc (Nat.le_refl _) _))
  have HR1 := hidden (hrest1.grow (show Grows w1 (w1.alloc (.cells #[.int .i64 1, .slice A1 (hdB 1 l).length c1, .slice A2 (rstL 1 l).length c2] 181)) from (Below.refl _ _).alloc (Nat.le_refl _) _))
  have cbv := (Row.grow HRV.out HG1.out).cell 0
  simp only [List.getElem?_cons_zero] at cbv
  have hg1' := hg1e.symm
  clear hown1 hrest1 hg1 hg1e HI1
  go_wp2_with fail
  generalize w1.alloc (.cells #[.int .i64 1, .slice A1 (hdB 1 l).length c1, .slice A2 (rstL 1 l).length c2] 181) = w2 at *
  have HB2 := hidden (Grows.of_below HGA.out HG1.out)
  have HOB := hidden (ownsRow_base HO1.out HGA.out.size)
  have HRB := hidden (RestI.base HR1.out HGA.out.size)
  have HZ2 := hidden (Row.grow HRR.out HG1.out)
  by_cases h2 : l.length < 2
  · rw [if_pos h2] at HO
    refine (validOrder2_f (by omega) w2).mono ?_
    rintro e w3 ⟨rfl, rfl⟩
    clear h2 cbv hg1'
    have q0 := HF1.out.cell 0
    have q1 := HF1.out.cell 1
    have q2 := HF1.out.cell 2
    have p0 := HZ2.out.cell 0
    have p1 := HZ2.out.cell 1
    have p2 := HZ2.out.cell 2
    have r0 := HZ2.out.frozen 0
    have r1 := HZ2.out.frozen 1
    have r2 := HZ2.out.frozen 2
    simp only [List.getElem?_cons_succ, List.getElem?_cons_zero] at q0 q1 q2 p0 p1 p2
    go_wp2_with fail
    clear q0 q1 q2 p0 p1 p2 r0 r1 r2
    have s0 := (HZ2.out.set_ 0 (.int .i64 1))
    have s1 := s0.set_ 1 (.slice A1 (hdB 1 l).length c1)
    have s2 := s1.set_ 2 (.slice A2 (rstL 1 l).length c2)
    have HOE := hidden (own_setDs2 (i := 2) (own_setDs2 (i := 1) (own_setDs2 (i := 0) HOB.out HZ2.out (by decide) (.int .i64 1)) s0 (by decide) (.slice A1 (hdB 1 l).length c1)) s1 (by decide) (.slice A2 (rstL 1 l).length c2))
    have HRE := hidden (((HRB.out.set_ (i := 0) HZ2.out (by decide) (.int .i64 1)).set_ (i := 1) s0 (by decide) (.slice A1 (hdB 1 l).length c1)).set_ (i := 2) s1 (by decide) (.slice A2 (rstL 1 l).length c2))
    have HBE := hidden (((HB2.out.setCell (p := ⟨w.heap.size + 1, 0, none⟩) (by show w.heap.size ≤ w.heap.size + 1; omega) (.int .i64 1)).setCell (p := ⟨w.heap.size + 1, 1, none⟩) (by show w.heap.size ≤ w.heap.size + 1; omega) (.slice A1 (hdB 1 l).length c1)).setCell (p := ⟨w.heap.size + 1, 2, none⟩) (by show w.heap.size ≤ w.heap.size + 1; omega) (.slice A2 (rstL 1 l).length c2))
    simp only [List.set_cons_succ, List.set_cons_zero] at s2
    generalize ((w2.setCell ⟨w.heap.size + 1, 0, none⟩ (.int .i64 1)).setCell ⟨w.heap.size + 1, 1, none⟩ (.slice A1 (hdB 1 l).length c1)).setCell ⟨w.heap.size + 1, 2, none⟩ (.slice A2 (rstL 1 l).length c2) = w6 at *
    refine bodyPost_ret (results_fm2 rfl _ _ _ _ _ _ (.int .i64 (((dlForm 1 l).length : Nat) : Int)) rfl s2 rfl) rfl ?_
    rw [HO.out]
    exact ⟨_, _, _, rfl, HOE.out, HRE.out, HBE.out⟩
  · rw [if_neg h2] at HO
    refine (validOrder2_t (by omega) w2).mono ?_
    rintro e w3 ⟨rfl, rfl⟩
    clear h2
    go_wp2_with fail
    refine (HC2.out w2 HG1.out).mono ?_
    rintro e w4 ⟨A3, c3, D3, rfl, hown4, hrest4, hg4⟩
    have HI4 := hidden (hrest4.reads (IsI.grow HV.out HB2.out) hg4)
    obtain ⟨A4, c4, rfl⟩ := HI4.out.slice_
    obtain ⟨g4, hg4e⟩ : ∃ g4, g4 = w4.heap.size := ⟨_, rfl⟩
    have hga : Grows w4 (w4.alloc (.cells #[.int .i64 2, .slice A3 (hdB 2 l).length c3, .slice A4 (rstL 2 l).length c4] 181)) := (Below.refl _ _).alloc (Nat.le_refl _) _
    have HF5 := hidden (Row.at_ w4 181 #[.int .i64 2, .slice A3 (hdB 2 l).length c3, .slice A4 (rstL 2 l).length c4] [.int .i64 2, .slice A3 (hdB 2 l).length c3, .slice A4 (rstL 2 l).length c4] rfl g4 hg4e)
    have HG5 := hidden (Grows.of_below hg4 hga)
    have HB5 := hidden (Grows.of_below HB2.out HG5.out)
    have HO5 := hidden (ownsRow_base (own_grow hown4 hga) HB2.out.size)
    have HR5 := hidden (RestI.base (hrest4.grow hga) HB2.out.size)
    have HF15 := hidden (Row.grow HF1.out HG5.out)
    have HO15 := hidden (own_grow HOB.out HG5.out)
    have HR15 := hidden (HRB.out.grow HG5.out)
    have HZ5 := hidden (Row.grow HZ2.out HG5.out)
    have hg4' := hg4e.symm
    have HL1' := HL1.out
    have HL2' := HL2.out
    by_cases hlt : (dlForm 2 l).length < (dlForm 1 l).length
    · rw [if_pos hlt] at HO
      have hd : decide ((dlForm 2 l).length < (dlForm 1 l).length) = true := by simpa using hlt
      clear hlt hown4 hrest4 hg4 hga hg4e HI4
      have q0 := HF5.out.cell 0
      have q1 := HF5.out.cell 1
      have q2 := HF5.out.cell 2
      have p0 := HZ5.out.cell 0
      have p1 := HZ5.out.cell 1
      have p2 := HZ5.out.cell 2
      have r0 := HZ5.out.frozen 0
      have r1 := HZ5.out.frozen 1
      have r2 := HZ5.out.frozen 2
      simp only [List.getElem?_cons_succ, List.getElem?_cons_zero] at q0 q1 q2 p0 p1 p2
      go_wp2_with fail
      clear q0 q1 q2 p0 p1 p2 r0 r1 r2
      have s0 := (HZ5.out.set_ 0 (.int .i64 2))
      have s1 := s0.set_ 1 (.slice A3 (hdB 2 l).length c3)
      have s2 := s1.set_ 2 (.slice A4 (rstL 2 l).length c4)
      have HOE := hidden (own_setDs2 (i := 2) (own_setDs2 (i := 1) (own_setDs2 (i := 0) HO5.out HZ5.out (by decide) (.int .i64 2)) s0 (by decide) (.slice A3 (hdB 2 l).length c3)) s1 (by decide) (.slice A4 (rstL 2 l).length c4))
      have HRE := hidden (((HR5.out.set_ (i := 0) HZ5.out (by decide) (.int .i64 2)).set_ (i := 1) s0 (by decide) (.slice A3 (hdB 2 l).length c3)).set_ (i := 2) s1 (by decide) (.slice A4 (rstL 2 l).length c4))
      have HBE := hidden (((HB5.out.setCell (p := ⟨w.heap.size + 1, 0, none⟩) (by show w.heap.size ≤ w.heap.size + 1; omega) (.int .i64 2)).setCell (p := ⟨w.heap.size + 1, 1, none⟩) (by show w.heap.size ≤ w.heap.size + 1; omega) (.slice A3 (hdB 2 l).length c3)).setCell (p := ⟨w.heap.size + 1, 2, none⟩) (by show w.heap.size ≤ w.heap.size + 1; omega) (.slice A4 (rstL 2 l).length c4))
      simp only [List.set_cons_succ, List.set_cons_zero] at s2
      generalize (((w4.alloc (.cells #[.int .i64 2, .slice A3 (hdB 2 l).length c3, .slice A4 (rstL 2 l).length c4] 181)).setCell ⟨w.heap.size + 1, 0, none⟩ (.int .i64 2)).setCell ⟨w.heap.size + 1, 1, none⟩ (.slice A3 (hdB 2 l).length c3)).setCell ⟨w.heap.size + 1, 2, none⟩ (.slice A4 (rstL 2 l).length c4) = w6 at *
      refine bodyPost_ret (results_fm2 rfl _ _ _ _ _ _ (.int .i64 (((dlForm 2 l).length : Nat) : Int)) rfl s2 rfl) rfl ?_
      rw [HO.out]
      exact ⟨_, _, _, rfl, HOE.out, HRE.out, HBE.out⟩
    · rw [if_neg hlt] at HO
      have hd : decide ((dlForm 2 l).length < (dlForm 1 l).length) = false := by simpa using hlt
      clear hlt hown4 hrest4 hg4 hga hg4e HI4
      have q0 := HF15.out.cell 0
      have q1 := HF15.out.cell 1
      have q2 := HF15.out.cell 2
      have p0 := HZ5.out.cell 0
      have p1 := HZ5.out.cell 1
      have p2 := HZ5.out.cell 2
      have r0 := HZ5.out.frozen 0
      have r1 := HZ5.out.frozen 1
      have r2 := HZ5.out.frozen 2
      simp only [List.getElem?_cons_succ, List.getElem?_cons_zero] at q0 q1 q2 p0 p1 p2
      go_wp2_with fail
      clear q0 q1 q2 p0 p1 p2 r0 r1 r2
      have s0 := (HZ5.out.set_ 0 (.int .i64 1))
      have s1 := s0.set_ 1 (.slice A1 (hdB 1 l).length c1)
      have s2 := s1.set_ 2 (.slice A2 (rstL 1 l).length c2)
      have HOE := hidden (own_setDs2 (i := 2) (own_setDs2 (i := 1) (own_setDs2 (i := 0) HO15.out HZ5.out (by decide) (.int .i64 1)) s0 (by decide) (.slice A1 (hdB 1 l).length c1)) s1 (by decide) (.slice A2 (rstL 1 l).length c2))
      have HRE := hidden (((HR15.out.set_ (i := 0) HZ5.out (by decide) (.int .i64 1)).set_ (i := 1) s0 (by decide) (.slice A1 (hdB 1 l).length c1)).set_ (i := 2) s1 (by decide) (.slice A2 (rstL 1 l).length c2))
      have HBE := hidden (((HB5.out.setCell (p := ⟨w.heap.size + 1, 0, none⟩) (by show w.heap.size ≤ w.heap.size + 1; omega) (.int .i64 1)).setCell (p := ⟨w.heap.size + 1, 1, none⟩) (by show w.heap.size ≤ w.heap.size + 1; omega) (.slice A1 (hdB 1 l).length c1)).setCell (p := ⟨w.heap.size + 1, 2, none⟩) (by show w.heap.size ≤ w.heap.size + 1; omega) (.slice A2 (rstL 1 l).length c2))
      simp only [List.set_cons_succ, List.set_cons_zero] at s2
      generalize (((w4.alloc (.cells #[.int .i64 2, .slice A3 (hdB 2 l).length c3, .slice A4 (rstL 2 l).length c4] 181)).setCell ⟨w.heap.size + 1, 0, none⟩ (.int .i64 1)).setCell ⟨w.heap.size + 1, 1, none⟩ (.slice A1 (hdB 1 l).length c1)).setCell ⟨w.heap.size + 1, 2, none⟩ (.slice A2 (rstL 1 l).length c2) = w6 at *
      refine bodyPost_ret (results_fm2 rfl _ _ _ _ _ _ (.int .i64 (((dlForm 1 l).length : Nat) : Int)) rfl s2 rfl) rfl ?_
      rw [HO.out]
      exact ⟨_, _, _, rfl, HOE.out, HRE.out, HBE.out⟩
end Go.Proofs.YthmipnokimlbdaaGreat
/-
  Shaken: what the claims of this seat need of this text. No condition.
-/
namespace Go.Proofs.YthmipnokimlbdaaGreat
set_option maxRecDepth 20000
open Go.RowKit
set_option linter.unusedVariables false
set_option linter.unusedSimpArgs false
theorem IsParts.new3 {w : World} {A1 A2 A3 : Option Addr} {c1 c2 c3 : Nat} {l1 l2 l3 : List UInt8} (h1 : IsBytes w (.slice A1 l1.length c1) l1) (h2 : IsBytes w (.slice A2 l2.length c2) l2) (h3 : IsBytes w (.slice A3 l3.length c3) l3) (E : TypeId) :
    IsParts (w.alloc (.cells #[.slice A1 l1.length c1, .slice A2 l2.length c2, .slice A3 l3.length c3] E)) (.slice (some ⟨w.heap.size, 0, none⟩) 3 3) [l1, l2, l3] := by
  have hg : Grows w (w.alloc (.cells #[.slice A1 l1.length c1, .slice A2 l2.length c2, .slice A3 l3.length c3] E)) := (Below.refl _ _).alloc (Nat.le_refl _) _
  refine ⟨_, 3, rfl, fun _ => ⟨w.heap.size, 0, rfl, fun j hj => ?_⟩⟩
  match j, hj with
  | 0, _ => exact ⟨A1, c1, by rw [World.cell?_alloc_mark]; rfl, h1.grow hg⟩
  | 1, _ => exact ⟨A2, c2, by rw [World.cell?_alloc_mark]; rfl, h2.grow hg⟩
  | 2, _ => exact ⟨A3, c3, by rw [World.cell?_alloc_mark]; rfl, h3.grow hg⟩
def Laid9 (L : List UInt8) (w : World) (e : Ending) (w' : World) : Prop := ∃ A c, e = .returned (.slice A L.length c) ∧ L.length ≤ c ∧ IsBytes w' (.slice A L.length c) L ∧ Grows w w'
def PartsV (ls : List (List UInt8)) : Value → World → Prop := fun v w => IsParts w v ls
theorem PartsV.lasts {ls : List (List UInt8)} : ∀ v w w', PartsV ls v w → Grows w w' → PartsV ls v w' := fun _ _ _ h hg => IsParts.grow h hg
set_option maxRecDepth 20000 in
set_option maxHeartbeats 8000000 in
theorem enc9c_any (v : Value) (l : List Int) (w : World) (hv : IsI w v l) (hl : l.length ≤ 65536) (hin : ∀ x ∈ l, frIn x) :
    Calls Tryz.prog 90 #[v] w (Laid9 (dlEnc l) w) := by
  have HV := hidden hv
  obtain ⟨A, c, rfl⟩ := hv.slice_
  have HCH := hidden (choose9_any A c l w hv hl hin)
  have hd : decide ((65536 : Int) < (l.length : Int)) = false := by simp; omega
  have HE := hidden (dlEnc_in hl)
  have hk2 : dlOrd l ≤ 2 := by have := (dlOrd_bd l).1; omega
  generalize dlOrd l = k at *
  have hk8 := u8_kind hk2
  have HFM := hidden (show dlForm k l = UInt8.ofNat k :: (hdB k l ++ encV (rstL k l)) from rfl)
  generalize UInt8.ofNat k = K at *
  have HHL := hidden (hdB_len k l)
  have HRL := hidden (rstL_length k l)
  have HRI := hidden (rstL_in hin k)
  have HEL := hidden (encV_len (rstL k l))
  clear hv
  go_enter Tryz.func90, Tryz.ntmps90
  go_wp2_with fail
  refine HCH.out.mono ?_
  rintro e w1 ⟨A1, c1, D1, rfl, hown1, hrest1, hg1⟩
  have HI1 := hidden (hrest1.reads HV.out hg1)
  obtain ⟨A2, c2, rfl⟩ := HI1.out.slice_
  obtain ⟨g1, hg1e⟩ : ∃ g1, g1 = w1.heap.size := ⟨_, rfl⟩
  have hga : Grows w1 (w1.alloc (.cells #[.int .i64 (k : Int), .slice A1 (hdB k l).length c1, .slice A2 (rstL k l).length c2] 181)) := (Below.refl _ _).alloc (Nat.le_refl _) _
  have HF2 := hidden (Row.at_ w1 181 #[.int .i64 (k : Int), .slice A1 (hdB k l).length c1, .slice A2 (rstL k l).length c2] [.int .i64 (k : Int), .slice A1 (hdB k l).length c1, .slice A2 (rstL k l).length c2] rfl g1 hg1e)
  have HG2 := hidden (Grows.of_below hg1 hga)
  have HL2 := hidden ((IsBytes.of_own hown1).grow hga)
  have HI2 := hidden (IsI.grow HI1.out hga)
  have hg1' := hg1e.symm
  clear hown1 hrest1 hg1 hg1e HI1 hga
  go_wp2_with fail
  clear hg1'
  generalize w1.alloc (.cells #[.int .i64 (k : Int), .slice A1 (hdB k l).length c1, .slice A2 (rstL k l).length c2] 181) = w2 at *
  generalize hH : hdB k l = H at *
  generalize hR : rstL k l = R at *
  generalize hE : encV R = E at *
  have HX : Hid (∀ w', Grows w2 w' → w'.cell? ⟨g1, 0, none⟩ = some (.int .i64 (k : Int)) ∧ w'.cell? ⟨g1, 1, none⟩ = some (.slice A1 H.length c1) ∧ w'.cell? ⟨g1, 2, none⟩ = some (.slice A2 R.length c2)) := fun w' h =>
    ⟨(Row.grow HF2.out h).cell 0, (Row.grow HF2.out h).cell 1, (Row.grow HF2.out h).cell 2⟩
  have HEN : Hid (∀ w', Grows w2 w' → Calls Tryz.prog 87 #[.slice A2 R.length c2] w' (ByR E w')) := fun w' h => by
    rw [← hE]
    exact lencodeF_any _ R w' (IsI.grow HI2.out h) (by have := HRL.out; omega) HRI.out
  have HCC := hidden (fun w' v' hp => concat_any v' [[K], H, E] w' hp (by unfold maxLen; simp) (by
    have := HHL.out; have := HEL.out; have := HRL.out
    unfold total
    simp only [List.flatten_cons, List.flatten_nil, List.length_append, List.length_nil, List.length_singleton]
    omega))
  have HTT := hidden (show dlEnc l = [[K], H, E].flatten by rw [HE.out, HFM.out]; simp)
  clear hH hR hE
  refine wp_region_loose (tabRs [(3, BytesV [K]), (8, BytesV E), (9, PartsV [[K], H, E]), (10, CapV [[K], H, E].flatten)]) (by kernel_rfl) (by kernel_rfl) (tabRs_cons BytesV.lasts (tabRs_cons BytesV.lasts (tabRs_cons PartsV.lasts (tabRs_cons CapV.lasts tabRs_nil)))) ?_
  iterate 3 ((with_reducible refine loose_one (v := ?_) (a' := ?_) ?_ ?_ (fun w' hC' hG' => ?_) ?_ ?_); rotate_left 2; (focus rfl); (focus rfl); (focus (obtain ⟨x0, x1, x2⟩ := HX.out w' hC'; clear hC' hG'; go_simp; rfl)); (focus (go_simp; rfl)))
  refine loose_new (R := BytesV [K]) (by rfl) (by rfl) (fun w' hC' hG' => ?_) ?_
  · exact ⟨.slice (some ⟨w'.heap.size, 0, none⟩) 1 1, w'.alloc (.cells #[.int .u8 (K.toNat : Int)] 5), by first | rfl | go_simp, (Below.refl _ _).alloc (Nat.le_refl _) _, IsBytes.of_row (Row.new w' 5 _ (bcells [K]) rfl) 1 1 rfl⟩
  rintro v3 ⟨_, _, hu3⟩
  obtain ⟨A3, c3, rfl, _⟩ := hu3
  refine ⟨?_, ?_, ?_⟩
  rotate_left
  · go_simp
    rfl
  iterate 4 ((with_reducible refine loose_one (v := ?_) (a' := ?_) ?_ ?_ (fun w' hC' hG' => ?_) ?_ ?_); rotate_left 2; (focus rfl); (focus rfl); (focus (obtain ⟨x0, x1, x2⟩ := HX.out w' hC'; clear hC' hG'; go_simp; rfl)); (focus (go_simp; rfl)))
  refine loose_call (R := BytesV E) (f := 87) (args := #[.slice A2 R.length c2]) (by rfl) (by rfl) (fun _ => by go_simp) (fun w' hC' hG' => byr_loose (HEN.out w' hC')) ?_
  rintro v8 ⟨_, _, hu8⟩
  obtain ⟨A8, c8, rfl, _⟩ := hu8
  refine ⟨?_, ?_, ?_⟩
  rotate_left
  · go_simp
    rfl
  refine loose_new (R := PartsV [[K], H, E]) (by rfl) (by rfl) (fun w' hC' hG' => ?_) ?_
  · have h3 : IsBytes w' (.slice A3 ([K] : List UInt8).length c3) [K] := (hG' 3 (by kernel_rfl)).1.2 rfl
    have h8 : IsBytes w' (.slice A8 E.length c8) E := (hG' 8 (by kernel_rfl)).2 rfl
    exact ⟨.slice (some ⟨w'.heap.size, 0, none⟩) 3 3, w'.alloc (.cells #[.slice A3 1 c3, .slice A1 H.length c1, .slice A8 E.length c8] 29), by first | rfl | go_simp, (Below.refl _ _).alloc (Nat.le_refl _) _, IsParts.new3 h3 (HL2.out.grow hC') h8 29⟩
  rintro v9 ⟨_, _, hu9⟩
  refine ⟨?_, ?_, ?_⟩
  rotate_left
  · go_simp
    rfl
  refine loose_call (R := CapV [[K], H, E].flatten) (f := 35) (args := #[v9]) (by rfl) (by rfl) (fun _ => by go_simp) (fun w' hC' hG' => made_cap (HCC.out w' v9 ((hG' 9 (by kernel_rfl)).2 rfl))) ?_
  intro v10 _
  refine ⟨?_, ?_, ?_⟩
  rotate_left
  · go_simp
    rfl
  iterate 1 ((with_reducible refine loose_one (v := ?_) (a' := ?_) ?_ ?_ (fun w' hC' hG' => ?_) ?_ ?_); rotate_left 2; (focus rfl); (focus rfl); (focus (obtain ⟨x0, x1, x2⟩ := HX.out w' hC'; clear hC' hG'; go_simp; rfl)); (focus (go_simp; rfl)))
  refine loose_done (fun w5 hC' hG' => ?_)
  have HU5 := hidden (show CapV [[K], H, E].flatten v10 w5 from (hG' 10).2 rfl)
  have HG5 := hidden (HG2.out.of_below hC')
  clear hG' hC'
  go_wp2_with fail
  go_ret
  obtain ⟨A0, c0, hv0, hc0, hu0⟩ := HU5.out
  rw [HTT.out]
  exact ⟨A0, c0, by rw [← hv0]; rfl, hc0, by rw [← hv0]; exact hu0, HG5.out⟩
theorem enc9_any (v : Value) (l : List Int) (w : World) (hv : IsI w v l) (hl : l.length ≤ 65536) (hin : ∀ x ∈ l, frIn x) :
    Calls Tryz.prog 90 #[v] w (ByR (dlEnc l) w) :=
  (enc9c_any v l w hv hl hin).mono fun _ _ ⟨A, c, he, _, hu, hg⟩ => ⟨_, he, hg, hu⟩
set_option maxHeartbeats 2000000 in
theorem size9_any (v : Value) (l : List Int) (w : World) (hv : IsI w v l) (hl : l.length ≤ 65536) (hin : ∀ x ∈ l, frIn x) :
    Calls Tryz.prog 91 #[v] w fun e w' => e = .returned (.int .i64 (((dlEnc l).length : Nat) : Int)) ∧ Grows w w' := by
  have HV := hidden hv
  obtain ⟨A, c, rfl⟩ := hv.slice_
  have HCH := hidden (choose9_any A c l w hv hl hin)
  have hd : decide ((65536 : Int) < (l.length : Int)) = false := by simp; omega
  have HE := hidden (dlEnc_in hl)
  generalize dlOrd l = k at *
  clear hv
  go_enter Tryz.func91, Tryz.ntmps91
  go_wp2_with fail
  refine HCH.out.mono ?_
  rintro e w1 ⟨A1, c1, D1, rfl, hown1, hrest1, hg1⟩
  have HI1 := hidden (hrest1.reads HV.out hg1)
  obtain ⟨A2, c2, rfl⟩ := HI1.out.slice_
  have HG2 := hidden (Grows.of_below hg1 (show Grows w1 (w1.alloc (.cells #[.int .i64 (k : Int), .slice A1 (hdB k l).length c1, .slice A2 (rstL k l).length c2] 181)) from (Below.refl _ _).alloc (Nat.le_refl _) _))
  clear hown1 hrest1 hg1 HI1
  go_wp2_with fail
  go_ret
  exact ⟨by rw [HE.out]; rfl, HG2.out⟩
end Go.Proofs.YthmipnokimlbdaaGreat
/-
  Shaken: what the claims of this seat need of this text. No condition.
-/
namespace Go.Proofs.YthmipnokimlbdaaGreat
set_option maxRecDepth 20000
open Go.RowKit
set_option linter.unusedVariables false
set_option linter.unusedSimpArgs false
theorem validOrderN_t {k n : Int} (h : k = 1 ∨ (k = 2 ∧ 2 ≤ n)) (w : World) : Calls Tryz.prog 157 #[.int .i64 k, .int .i64 n] w fun e w' => e = .returned (.bool true) ∧ w = w' :=
  (validOrder_any k n w).mono fun e w' ⟨h1, h2⟩ => ⟨by rw [h1]; exact retB (by simpa using h), h2⟩
theorem validOrderN_f {k n : Int} (h : ¬ (k = 1 ∨ (k = 2 ∧ 2 ≤ n))) (w : World) : Calls Tryz.prog 157 #[.int .i64 k, .int .i64 n] w fun e w' => e = .returned (.bool false) ∧ w = w' :=
  (validOrder_any k n w).mono fun e w' ⟨h1, h2⟩ => ⟨by rw [h1]; exact retB (decide_eq_false h), h2⟩
def DlRel (w : World) (ld r : List Int) (v i : Value) (wr : World) : Prop :=
  ∃ (j : Nat) (m : Int), j ≤ ld.length ∧ i = .int .i64 m ∧ m = (j : Int) - 1 ∧ IsI wr v (psAll (ld.drop j) r) ∧ Below w.heap.size w wr
set_option maxRecDepth 20000 in
set_option maxHeartbeats 16000000 in
theorem dec9F_any (A : Option Addr) (c : Nat) (b : List UInt8) (o n : Int) (w : World) (hb : IsBytes w (.slice A b.length c) b) (hlc : b.length ≤ c) (hl : b.length ≤ 1048575) (h63 : -9223372036854775808 ≤ o) (h64 : o ≤ 9223372036854775807) :
    Calls Tryz.prog 92 #[.slice A b.length c, .int .i64 o, .int .i64 n] w (LDecF (dlDec b o n) w) := by
  by_cases h1 : n < 0
  · have HE := hidden (dlDec_a (b := b) (o := o) (n := n) (.inl (.inl h1)))
    have hd : decide (n < 0) = true := by simpa using h1
    clear h1
    go_enter Tryz.func92, Tryz.ntmps92
    go_wp2_with fail
    go_ret3
    exact LDecF.err HE.out (Below.refl _ _)
  have d1 : decide (n < 0) = false := by simpa using h1
  by_cases h2 : 65536 < n
  · have HE := hidden (dlDec_a (b := b) (o := o) (n := n) (.inl (.inr h2)))
    have hd : decide (65536 < n) = true := by simpa using h2
    clear h1 h2
    go_enter Tryz.func92, Tryz.ntmps92
    go_wp2_with fail
    go_ret3
    exact LDecF.err HE.out (Below.refl _ _)
  have d2 : decide (65536 < n) = false := by simpa using h2
  by_cases h3 : o < 0
  · have HE := hidden (dlDec_a (b := b) (o := o) (n := n) (.inr h3))
    have hd : decide (o < 0) = true := by simpa using h3
    clear h1 h2 h3
    go_enter Tryz.func92, Tryz.ntmps92
    go_wp2_with fail
    go_ret3
    exact LDecF.err HE.out (Below.refl _ _)
  have d3 : decide (o < 0) = false := by simpa using h3
  have HN := hidden (show ¬ ((n < 0 ∨ 65536 < n) ∨ o < 0) by omega)
  by_cases h4 : (b.length : Int) ≤ o
  · have HE := hidden (dlDec_b HN.out h4)
    have hd : decide ((b.length : Int) ≤ o) = true := by simpa using h4
    clear h1 h2 h3 h4
    go_enter Tryz.func92, Tryz.ntmps92
    go_wp2_with fail
    go_ret3
    exact LDecF.err HE.out (Below.refl _ _)
  have d4 : decide ((b.length : Int) ≤ o) = false := by simpa using h4
  have HL4 := hidden h4
  obtain ⟨O, rfl⟩ := Int.eq_ofNat_of_zero_le (a := o) (by omega)
  obtain ⟨N, rfl⟩ := Int.eq_ofNat_of_zero_le (a := n) (by omega)
  have hOl : O < b.length := by omega
  have hNl : N ≤ 65536 := by omega
  have HV := hidden hb
  obtain ⟨bb, ff, hA, hck⟩ := byte_at hb hOl
  subst hA
  have hkd : kindD b (O : Int) = (b.getD O 0).toNat := by unfold kindD; rw [Int.toNat_natCast]
  have hkb := (b.getD O 0).toNat_lt
  generalize (b.getD O 0).toNat = kk at *
  have HKD := hidden hkd
  clear h1 h2 h3 h4 h63 h64 hb hkd
  by_cases k1 : kk = 1 ∨ (kk = 2 ∧ 2 ≤ N)
  rotate_left
  · have HE := hidden (dlDec_c HN.out HL4.out (by rw [HKD.out]; omega))
    have HVO := hidden (validOrderN_f (k := (kk : Int)) (n := (N : Int)) (by omega) w)
    clear k1
    go_enter Tryz.func92, Tryz.ntmps92
    go_wp2_with fail
    refine HVO.out.mono ?_
    rintro e w2 ⟨rfl, rfl⟩
    go_wp2_with fail
    go_ret3
    exact LDecF.err HE.out (Below.refl _ _)
  have HK1 := hidden (show kindD b (O : Int) = 1 ∨ (kindD b (O : Int) = 2 ∧ 2 ≤ (N : Int)) by rw [HKD.out]; omega)
  obtain ⟨M, hM⟩ : ∃ M, M = min kk N := ⟨_, rfl⟩
  obtain ⟨R, hR⟩ : ∃ R, R = N - M := ⟨_, rfl⟩
  obtain ⟨ld, p, e1, hh⟩ : ∃ ld p e1, hdsD b M ((O : Int) + 1) [] = (ld, p, e1) := ⟨_, _, _, rfl⟩
  have HH : Hid (hdsD b (min (kindD b (O : Int)) (N : Int).toNat) ((O : Int) + 1) [] = (ld, p, e1)) := by rw [HKD.out, Int.toNat_natCast, ← hM]; exact hh
  have HHC := hidden (readLeading_any (some ⟨bb, ff, none⟩) c b ((O : Int) + 1) M w HV.out (by omega) (by omega) (by omega) (by omega))
  rw [hh] at HHC
  have hmn : min (kk : Int) (N : Int) = (M : Int) := by omega
  have hM2 : M ≤ 2 := by omega
  have HVO := hidden (validOrderN_t (k := (kk : Int)) (n := (N : Int)) (by omega) w)
  have HLC := hidden (leadingCount_any (kk : Int) (N : Int) w)
  rw [hmn] at HLC
  by_cases he1 : e1 = 0
  rotate_left
  · have HE := hidden (dlDec_d HN.out HL4.out HK1.out HH.out he1)
    have hd : (e1 != 0) = true := by simpa using he1
    clear he1 hh hM hR
    clear k1
    go_enter Tryz.func92, Tryz.ntmps92
    go_wp2_with fail
    refine HVO.out.mono ?_
    rintro e w2 ⟨rfl, rfl⟩
    go_wp2_with fail
    refine HLC.out.mono ?_
    rintro e w2 ⟨rfl, rfl⟩
    go_wp2_with fail
    refine HHC.out.mono ?_
    rintro e w1 ⟨v1, rfl, hi1, hg1⟩
    have HG1 := hidden hg1
    clear hi1 hg1
    go_wp2_with fail
    go_ret3
    exact LDecF.err HE.out HG1.out
  subst he1
  obtain ⟨b1, b2, b3, b4⟩ := hdsD_bd M ((O : Int) + 1) [] ld p (by omega) (by omega) (fun x hx => by cases hx) hh
  rw [List.length_nil, Nat.zero_add] at b3
  obtain ⟨r, q, e2, hr⟩ : ∃ r q e2, decV b p (R : Int) = (r, q, e2) := ⟨_, _, _, rfl⟩
  have HR : Hid (decV b p ((N : Int) - (min (kindD b (O : Int)) (N : Int).toNat : Nat)) = (r, q, e2)) := by
    rw [HKD.out, Int.toNat_natCast, ← hM, show (N : Int) - (M : Nat) = (R : Int) by omega]
    exact hr
  have HDC := hidden (fun w' hv' => ldecodeFF_any (some ⟨bb, ff, none⟩) c b p (R : Int) w' hv' hlc (by omega) (by omega) (by omega))
  rw [hr] at HDC
  have HLL := hidden b3
  have HLDI := hidden b4
  have hnl : (N : Int) - (ld.length : Int) = (R : Int) := by omega
  by_cases he2 : e2 = 0
  rotate_left
  · have HE := hidden (dlDec_e HN.out HL4.out HK1.out HH.out HR.out he2)
    have hd : (e2 != 0) = true := by simpa using he2
    clear he2 hh hM hR hr b1 b2 b3 b4
    clear k1
    go_enter Tryz.func92, Tryz.ntmps92
    go_wp2_with fail
    refine HVO.out.mono ?_
    rintro e w2 ⟨rfl, rfl⟩
    go_wp2_with fail
    refine HLC.out.mono ?_
    rintro e w2 ⟨rfl, rfl⟩
    go_wp2_with fail
    refine HHC.out.mono ?_
    rintro e w1 ⟨v1, rfl, hi1, hg1⟩
    have HI1 := hidden (show IsI w1 v1 ld from hi1)
    have HG1 := hidden hg1
    obtain ⟨A4, c4, rfl⟩ := HI1.out.slice_
    clear hi1 hg1
    go_wp2_with fail
    refine (HDC.out w1 (HV.out.grow HG1.out)).mono ?_
    rintro e w2 ⟨v2, rfl, hi2, hg2, hf2⟩
    have HG2 := hidden (Grows.of_below HG1.out hg2)
    clear hi2 hg2 hf2
    go_wp2_with fail
    go_ret3
    exact LDecF.err HE.out HG2.out
  subst he2
  obtain ⟨a1, a2, a3⟩ := decV_bd hr
  have HB2 := hidden a2
  have HRI := hidden a3
  obtain ⟨Q, rfl⟩ := Int.eq_ofNat_of_zero_le (a := q) (by omega)
  have hOQ : O ≤ Q := by omega
  have hQb : Q ≤ b.length := by omega
  have HVL := hidden (show (psAll ld r).length = N by rw [psAll_length]; omega)
  have HVI := hidden (psAll_in ld r HLDI.out HRI.out)
  have HLN : Hid (∀ j, (psAll (ld.drop j) r).length ≤ 100000) := fun j => by rw [psAll_length, List.length_drop]; have := HLL.out; omega
  have HPD : Hid (∀ k, (h : k < ld.length) → psAll (ld.drop k) r = psL ld[k] (psAll (ld.drop (k + 1)) r)) := fun k h => psAll_drop h r
  have HOK := hidden (fun h5 => dlDec_g HN.out HL4.out HK1.out HH.out HR.out h5)
  have HNO := hidden (fun h5 => dlDec_f HN.out HL4.out HK1.out HH.out HR.out h5)
  have hQO : ((Q : Int) - (O : Int)).toNat = Q - O := by omega
  rw [hQO, Int.toNat_natCast] at HOK HNO
  obtain ⟨vs, hvs⟩ : ∃ vs, vs = psAll ld r := ⟨_, rfl⟩
  obtain ⟨wt, hwt⟩ : ∃ wt, wt = dlEnc vs := ⟨_, rfl⟩
  obtain ⟨gt, hgt⟩ : ∃ gt, gt = (b.drop O).take (Q - O) := ⟨_, rfl⟩
  rw [← hvs] at HVL HVI HOK HNO
  rw [← hwt, ← hgt] at HOK HNO
  have HVS := hidden hvs
  have HWT := hidden hwt
  have HGT := hidden hgt
  obtain ⟨bq, hbq⟩ : ∃ bq, bq = decide (wt = gt) := ⟨_, rfl⟩
  have HBQ := hidden hbq
  have hQlb : Q ≤ 1048576 := by omega
  have hll0 : ld.length ≤ 65536 := by omega
  clear hh hM hR hr b1 b2 b3 b4 a1 a2 a3 hvs hwt hgt hbq hQO
  clear k1
  go_enter Tryz.func92, Tryz.ntmps92
  go_wp2_with fail
  refine HVO.out.mono ?_
  rintro e w2 ⟨rfl, rfl⟩
  go_wp2_with fail
  refine HLC.out.mono ?_
  rintro e w2 ⟨rfl, rfl⟩
  go_wp2_with fail
  refine HHC.out.mono ?_
  rintro e w1 ⟨v1, rfl, hi1, hg1⟩
  have HI1 := hidden (show IsI w1 v1 ld from hi1)
  have HG1 := hidden hg1
  obtain ⟨A4, c4, rfl⟩ := HI1.out.slice_
  clear hi1 hg1
  go_wp2_with fail
  refine (HDC.out w1 (HV.out.grow HG1.out)).mono ?_
  rintro e w2 ⟨v2, rfl, hi2, hg2, hf2⟩
  have HI2 := hidden (show IsI w2 v2 r from hi2)
  have HG2 := hidden (Grows.of_below HG1.out hg2)
  have HI12 := hidden (IsI.grow HI1.out hg2)
  have HFR := hidden (hf2.mono HG1.out.size)
  have HSZ2 := hidden HG2.out.size
  clear hi2 hg2 hnl hmn hf2
  go_wp2_with fail
  go_loopw [13, 14] (fun v i wr => DlRel w2 ld r v i wr ∧ FreshI w.heap.size wr v) (fun _ i _ => (intOf i + 1).toNat)
  case atStart => exact ⟨⟨ld.length, _, Nat.le_refl _, rfl, rfl, by rw [List.drop_length]; exact HI2.out, Below.refl _ _⟩, HFR.out⟩
  case round =>
    obtain ⟨⟨j, m, hj, rfl, hm, hvi, hbw⟩, hfv⟩ := hrel
    have HB := hidden hbw
    have HFV := hidden hfv
    clear hfv
    have HIV := hidden hvi
    obtain ⟨A5, c5, rfl⟩ := HIV.out.slice_
    clear hvi hbw
    by_cases hj0 : 0 < j
    · obtain ⟨k, rfl⟩ : ∃ k, j = k + 1 := ⟨j - 1, by omega⟩
      obtain rfl : m = (k : Int) := by omega
      have hkl : k < ld.length := by omega
      obtain ⟨b1, f1, rfl, hcl⟩ := (IsI.grow HI12.out HB.out).at_ hkl
      have HPK := hidden (HPD.out k hkl)
      have HPS := hidden (ps_any ld[k] _ _ wr HIV.out (by have := HLN.out (k + 1); omega))
      rw [← HPK.out] at HPS
      generalize ld[k] = x at *
      clear hm hj0
      go_wp2_with fail
      refine HPS.out.mono ?_
      rintro e w3 ⟨v3, rfl, hg3, hown3⟩
      have HI3 := hidden (show IsI w3 v3 (psAll (ld.drop k) r) from Reads.of_own hown3)
      have HB3 := hidden (Grows.of_below HB.out hg3)
      have HF3 := hidden ((FreshI.of_own hown3).mono (Nat.le_trans HSZ2.out HB.out.size))
      clear hown3 hg3
      go_wp2_with fail
      refine ⟨⟨⟨k, (k : Int) - 1, by omega, by go_num, rfl, HI3.out, HB3.out⟩, HF3.out⟩, by simp [intOf] <;> omega⟩
    · obtain rfl : j = 0 := by omega
      obtain rfl : m = -1 := by omega
      rw [List.drop_zero, ← HVS.out] at HIV
      have HLV := hidden (show (psAll (ld.drop 0) r).length = vs.length by rw [List.drop_zero, HVS.out])
      rw [HLV.out]
      have HEN := hidden (fun w' (h : Grows wr w') => enc9_any (.slice A5 vs.length c5) vs w' (IsI.grow HIV.out h) (by rw [HVL.out]; exact hNl) HVI.out)
      rw [← HWT.out] at HEN
      obtain ⟨AO, hAO, hsa⟩ : ∃ AO, (∀ w', IsBytes w' (.slice (some ⟨bb, ff, none⟩) b.length c) b → IsBytes w' (.slice AO (Q - O) (c - O)) gt) ∧
          ∀ w', (Instr.sliceAt 29 (.slice (some ⟨bb, ff, none⟩) b.length c) (some (.int .i64 (O : Int))) (some (.int .i64 (Q : Int))) none).run Tryz.prog w' = .ok (.slice AO (Q - O) (c - O)) w' := by
        refine ⟨if c = O then (some (⟨bb, ff, none⟩ : Addr)) else Option.map (fun x : Addr => x.add O) (some (⟨bb, ff, none⟩ : Addr)), fun w' hv => ?_, fun w' => ?_⟩
        · have h := slice_reads2 hv (o := O) (p := Q) hOQ hQb hlc
          rw [← HGT.out] at h
          exact h
        · have ht : Tryz.prog.underlying 29 = some (.slice (Tryz.prog.elem 29)) := by kernel_rfl
          have hs1 : (sizeOf (Tryz.prog.elem 29)).run Tryz.prog w' = .ok 1 w' := by
            have hi : (Tryz.prog.info? (Tryz.prog.elem 29)).map (·.size) = some 1 := by kernel_rfl
            cases h : Tryz.prog.info? (Tryz.prog.elem 29) with
            | none => rw [h] at hi; cases hi
            | some y =>
              rw [h] at hi
              have h1 : y.size = 1 := by simpa using hi
              simp [sizeOf, typeInfo, h, h1]
          rw [run_sliceAt_slice (P := Tryz.prog) (w := w') 29 (.slice (some ⟨bb, ff, none⟩) b.length c) (some (.int .i64 (O : Int))) (some (.int .i64 (Q : Int))) none ht]
          have h := run_slice_lh (P := Tryz.prog) (w := w') 29 (some ⟨bb, ff, none⟩) b.length c ht .i64 .i64 (O : Int) (Q : Int) (by omega) (by omega) (by omega)
          rw [h, hs1]
          simp only [Result.andThen_ok, sliced, Int.toNat_natCast, Nat.mul_one]
      have HAO := hidden (fun w' (h : Grows wr w') => hAO w' (HV.out.grow (Grows.of_below HG2.out (Grows.of_below HB.out h))))
      have HEQ := hidden (fun u1 w' hu (h : Grows wr w') => bytesEqual_any u1 (.slice AO (Q - O) (c - O)) wt gt w' hu (HAO.out w' h))
      rw [← HBQ.out] at HEQ
      clear hAO hm hj0 hOQ
      go_wp2_with fail
      refine wp_region_loose (tabRs [(1, BytesV wt), (6, ConstV (.bool bq))]) (by kernel_rfl) (by kernel_rfl) (tabRs_cons BytesV.lasts (tabRs_cons ConstV.lasts tabRs_nil)) ?_
      iterate 1 ((with_reducible refine loose_one (v := ?_) (a' := ?_) ?_ ?_ (fun w' hC' hG' => ?_) ?_ ?_); rotate_left 2; (focus rfl); (focus rfl); (focus (clear hC' hG'; go_simp; rfl)); (focus (go_simp; rfl)))
      refine loose_call (R := BytesV wt) (f := 90) (args := #[.slice A5 vs.length c5]) (by rfl) (by rfl) (fun _ => by go_simp) (fun w' hC' hG' => byr_loose (HEN.out w' hC')) ?_
      intro u1 hu1
      refine ⟨?_, ?_, ?_⟩
      rotate_left
      · go_simp
        rfl
      iterate 4 ((with_reducible refine loose_one (v := ?_) (a' := ?_) ?_ ?_ (fun w' hC' hG' => ?_) ?_ ?_); rotate_left 2; (focus rfl); (focus rfl); (focus (clear hC' hG'; go_simp; rfl)); (focus (go_simp; rfl)))
      refine loose_call (R := ConstV (.bool bq)) (f := 155) (args := #[u1, .slice AO (Q - O) (c - O)]) (by rfl) (by rfl) (fun _ => by go_simp) (fun w' hC' hG' => const_loose0 (HEQ.out u1 w' ((hG' 1 (by kernel_rfl)).2 rfl) hC')) ?_
      rintro _ ⟨_, _, rfl⟩
      refine ⟨?_, ?_, ?_⟩
      rotate_left
      · go_simp
        rfl
      iterate 1 ((with_reducible refine loose_one (v := ?_) (a' := ?_) ?_ ?_ (fun w' hC' hG' => ?_) ?_ ?_); rotate_left 2; (focus rfl); (focus rfl); (focus (clear hC' hG'; go_simp; rfl)); (focus (go_simp; rfl)))
      refine loose_done (fun w12 hC' hG' => ?_)
      clear hG'
      have HB12 := hidden (Grows.of_below HG2.out (Grows.of_below HB.out hC'))
      have HI12' := hidden (IsI.grow HIV.out hC')
      have HFV12 := hidden (HFV.out.grow hC')
      clear hC' hsa
      cases bq
      rotate_left
      · have HEE := hidden (HOK.out (by have h := HBQ.out; simpa using h.symm))
        go_wp2_with fail
        go_ret3
        exact ⟨.slice A5 vs.length c5, by rw [HEE.out]; rfl, by rw [HEE.out]; exact HI12'.out, HB12.out, by have h := HFV12.out; rw [HLV.out] at h; exact h⟩
      · have HEE := hidden (HNO.out (by have h := HBQ.out; simpa using h.symm))
        go_wp2_with fail
        go_ret3
        exact LDecF.err HEE.out HB12.out
end Go.Proofs.YthmipnokimlbdaaGreat
