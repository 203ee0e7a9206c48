/-
  Package value as it landed: slices.CompareFunc over Compare, CompareRows, at rows of valid values. Nothing that was there is changed.
-/
import Derived.Test.YtepnegbopnepfaaDoorLv4
namespace Go.Proofs.YtepnegbopnepfaaDoor
open Go.RowKit
set_option linter.unusedVariables false
set_option linter.unusedSimpArgs false

theorem validL_at {l : List Val} {j : Nat} {x : Val} (h : validL l = true) (hx : l[j]? = some x) : validV x.k x.n x.t = true := by
  unfold validL at h
  rw [List.all_eq_true] at h
  exact h x (List.mem_of_getElem? hx)
def CFRel (w : World) (l m : List Val) (i : Value) (wr : World) : Prop := ∃ j : Nat, j ≤ l.length ∧ j ≤ m.length ∧ i = .int .i64 (j : Int) ∧ cmpR (l.drop j) (m.drop j) = cmpR l m ∧ Grows w wr
set_option maxHeartbeats 2000000 in
theorem lcmpfunc_any (v u : Value) (l m : List Val) (w : World) (hr : ReadsV w v l) (hs : ReadsV w u m) (hl : l.length ≤ 9223372036854775806) (hm : m.length ≤ 9223372036854775806) (vl : validL l = true) (vm : validL m = true) :
    Calls Tryd.prog 31 #[v, u, .func (.func 16) #[] #[]] w fun e w' => e = .returned (.int .i64 (cmpR l m)) ∧ Grows w w' := by
  have HR := hidden hr
  have HQ := hidden hs
  have HVL := hidden vl
  have HVM := hidden vm
  obtain ⟨A, c, rfl, hle, hxx⟩ := hr
  clear hxx
  obtain ⟨A2, d, rfl, hle2, hxx⟩ := hs
  clear hxx vl vm
  go_enter Tryd.func31, Tryd.ntmps31
  go_wp2_with fail
  go_loopw [13] (fun i wr => CFRel w l m i wr) (fun i _ => l.length - (intOf i).toNat)
  case atStart => exact ⟨0, Nat.zero_le _, Nat.zero_le _, rfl, rfl, Below.refl _ _⟩
  case round =>
    obtain ⟨j, hj, hj2, rfl, hv, hb⟩ := hrel
    have HV := hidden hv
    have HB := hidden hb
    clear hv hb
    by_cases hl1 : j < l.length
    · obtain ⟨A', c', he, _, hcell⟩ := HR.out.grow HB.out
      injection he with e1 e2 e3
      subst e1 e3
      obtain ⟨b, off, rfl, hcell2⟩ := hcell (by omega)
      obtain ⟨x, hx⟩ : ∃ x, l[j]? = some x := ⟨_, List.getElem?_eq_getElem hl1⟩
      obtain ⟨c1, c2, c3⟩ := hcell2 j x hx
      have HX := hidden hx
      have hj0 : (0 : Int) ≤ (j : Int) := by omega
      have hj1 : (j : Int) < (l.length : Int) := by omega
      have hd : decide (j < l.length) = true := by simpa using hl1
      clear hcell hcell2 e2 hx
      by_cases hl2 : j < m.length
      · obtain ⟨A', d', he, _, hcell⟩ := HQ.out.grow HB.out
        injection he with e1 e2 e3
        subst e1 e3
        obtain ⟨b2, off2, rfl, hcell3⟩ := hcell (by omega)
        obtain ⟨y, hy⟩ : ∃ y, m[j]? = some y := ⟨_, List.getElem?_eq_getElem hl2⟩
        obtain ⟨d1, d2, d3⟩ := hcell3 j y hy
        have HY := hidden hy
        have HD := hidden (cmpR_drop HX.out hy)
        have HEQ := hidden (lcmpV_eq (validL_at HVL.out HX.out) (validL_at HVM.out hy))
        have HC := hidden (fun w => lcompare_any x.k x.n y.k y.n x.t y.t w)
        rw [HEQ.out] at HC
        generalize cmpV x.k x.n x.t y.k y.n y.t = q at *
        have hj3 : (j : Int) < (m.length : Int) := by omega
        have hd2 : decide (m.length ≤ j) = false := by simpa using hl2
        have HCD : Hid (∀ X, Grows wr X → X.cell? ⟨b2, off2 + j * 3, none⟩ = some (.int .i64 y.k) ∧ X.cell? ⟨b2, off2 + j * 3 + 1, none⟩ = some (.int .i64 y.n) ∧ X.cell? ⟨b2, off2 + j * 3 + 2, none⟩ = some (.string y.t)) := fun X g =>
          ⟨(g.cell (World.block_lt_of_cell? _ _ d1)).trans d1, (g.cell (World.block_lt_of_cell? _ _ d2)).trans d2, (g.cell (World.block_lt_of_cell? _ _ d3)).trans d3⟩
        clear hcell hcell3 e2 hy d1 d2 d3 HEQ
        go_wp2_with (first
          | (refine wpList_store_new rfl (.tmp 8) _ rfl _ rfl rfl _ _ _ rfl ?_; intro W1 hrW hgW hsW; have HR1 := hidden hrW; have d1 := (HCD.out W1 hgW).1; have d2 := (HCD.out W1 hgW).2.1; have d3 := (HCD.out W1 hgW).2.2; have HW1 := hidden hgW; clear hrW hgW hsW c1 c2 c3)
          | (refine wpList_store_new rfl (.tmp 9) _ rfl _ rfl rfl _ _ _ rfl ?_; intro W2 hrW hgW hsW; have k1 := (rowCells hrW).1; have k2 := (rowCells hrW).2.1; have k3 := (rowCells hrW).2.2; have q1 := (rowCells (HR1.out.grow hgW)).1; have q2 := (rowCells (HR1.out.grow hgW)).2.1; have q3 := (rowCells (HR1.out.grow hgW)).2.2; have HW2 := hidden (HW1.out.of_below hgW); clear hrW hgW hsW d1 d2 d3))
        refine (HC.out _).mono ?_
        rintro e w5 ⟨rfl, g5⟩
        have HB2 := hidden ((HB.out.of_below HW2.out).of_below g5)
        clear g5 k1 k2 k3 q1 q2 q3
        by_cases hq : q = 0
        · have HD2 := hidden (show cmpR (l.drop (j + 1)) (m.drop (j + 1)) = cmpR l m by have h := HD.out; rw [if_pos hq] at h; rw [← h]; exact HV.out)
          clear HD
          subst hq
          go_wp2_with fail
          go_roundw
          case rel => exact ⟨j + 1, by omega, by omega, by go_num, HD2.out, HB2.out⟩
          case measure => simp [intOf]; omega
        · have HE := hidden (show q = cmpR l m by have h := HD.out; rw [if_neg hq] at h; rw [← h]; exact HV.out)
          have hqn : (q == 0) = false := by simpa using hq
          clear hq
          go_wp2_with fail
          go_ret
          exact ⟨retU HE.out, HB2.out⟩
      · have HE := hidden (cmpR_end (l := l) (m := m) (j := j) (fun h => hl2 h.2) ⟨hj, hj2⟩)
        rw [HV.out] at HE
        have HE2 := hidden (show cmpR l m = 1 by
          rw [HE.out]
          have h1 : ¬ l.length < m.length := by omega
          have h2 : m.length < l.length := by omega
          simp [sgnV, h1, h2])
        have hd2 : decide (m.length ≤ j) = true := by simpa using Nat.le_of_not_lt hl2
        go_wp2_with (first
          | (refine wpList_store_new rfl (.tmp 8) _ rfl _ rfl rfl _ _ _ rfl ?_; intro W1 hrW hgW hsW; have HW1 := hidden hgW; clear hrW hgW hsW c1 c2 c3))
        go_ret
        exact ⟨retU HE2.out.symm, HB.out.of_below HW1.out⟩
    · have HE := hidden (cmpR_end (l := l) (m := m) (j := j) (fun h => hl1 h.1) ⟨hj, hj2⟩)
      rw [HV.out] at HE
      have hd : decide (j < l.length) = false := by simpa using hl1
      by_cases hlm : l.length < m.length
      · have HE2 := hidden (show cmpR l m = -1 by rw [HE.out]; simp [sgnV, hlm])
        have hd3 : decide (l.length < m.length) = true := by simpa using hlm
        go_wp2_with fail
        go_ret
        exact ⟨retU HE2.out.symm, HB.out⟩
      · have HE2 := hidden (show cmpR l m = 0 by
          rw [HE.out]
          have h2 : ¬ m.length < l.length := by omega
          simp [sgnV, hlm, h2])
        have hd3 : decide (l.length < m.length) = false := by simpa using hlm
        go_wp2_with fail
        go_ret
        exact ⟨retU HE2.out.symm, HB.out⟩
theorem lcmprows_any (v u : Value) (l m : List Val) (w : World) (hr : ReadsV w v l) (hs : ReadsV w u m) (hl : l.length ≤ 9223372036854775806) (hm : m.length ≤ 9223372036854775806) (vl : validL l = true) (vm : validL m = true) :
    Calls Tryd.prog 11 #[v, u] w fun e w' => e = .returned (.int .i64 (cmpR l m)) ∧ Grows w w' := by
  have HC := hidden (lcmpfunc_any v u l m w hr hs hl hm vl vm)
  generalize cmpR l m = q at *
  clear hr hs hl hm vl vm
  go_enter Tryd.func11, Tryd.ntmps11
  go_wp2_with fail
  refine HC.out.mono ?_
  rintro e w2 ⟨rfl, g2⟩
  go_wp2_with fail
  go_ret
  exact ⟨rfl, g2⟩
end Go.Proofs.YtepnegbopnepfaaDoor
