/-
  The law LiteralRows, walked: it returns true. Nothing that was there is changed.
-/
import Derived.Test.YtaiphocnfkkigaaDoorLa0
import Derived.Test.YtaiphocnfkkigaaDoorVArg
namespace Go.Proofs.YtaiphocnfkkigaaDoor
open Go.RowKit
set_option linter.unusedVariables false
set_option linter.unusedSimpArgs false

theorem bool_of_valid {x : Val} (h : validV x.k x.n x.t = true) : boolV1 x := fun hk => by
  unfold validV at h
  rw [if_neg (by rw [hk]; decide), if_pos hk, Bool.and_eq_true, Bool.or_eq_true, beq_iff_eq, beq_iff_eq] at h
  exact h.1
def shortV (x : Val) : Prop := validV x.k x.n x.t = true ∧ x.t.size ≤ 100
def LRRel (w : World) (l : List Val) (i : Value) (wr : World) : Prop := ∃ j : Nat, j ≤ l.length ∧ i = .int .i64 (j : Int) ∧ (∀ i x, i < j → l[i]? = some x → shortV x) ∧ Grows w wr
set_option maxRecDepth 8000 in
set_option maxHeartbeats 4000000 in
theorem law_rows (v : Value) (l : List Val) (w : World) (hf : Fit w) (hr : ReadsV w v l) (hi : ∀ x ∈ l, inV x) (hl : l.length ≤ 140737488351232) :
    Calls Tryd.prog 7 #[v] w fun e w' => e = .returned (.bool true) ∧ Grows w w' := by
  have HA := hidden (fun w2 (g : Grows w w2) => awake_any w2 (hf.grow g))
  have HG0 := hidden (show Grows w w from Below.refl _ _)
  have HR := hidden hr
  have HI := hidden hi
  have HF := hidden hf
  obtain ⟨A, c, rfl, hle, hxx⟩ := hr
  clear hxx hi hf
  by_cases h100 : 100 < l.length
  · have hd : decide ((100 : Int) < (l.length : Int)) = true := by simp; omega
    go_enter Tryd.func7, Tryd.ntmps7
    go_wp2_with ((go_at_call 12; refine (HA.out _ HG0.out).mono ?_; rintro e w4 ⟨rfl, g4⟩; have HG4 := hidden g4; clear g4))
    go_ret
    exact ⟨rfl, HG4.out⟩
  · have hd : decide ((100 : Int) < (l.length : Int)) = false := by simp; omega
    go_enter Tryd.func7, Tryd.ntmps7
    go_wp2_with fail
    go_loopw [11] (fun i wr => LRRel w l i wr) (fun i _ => l.length - (intOf i).toNat)
    case atStart => exact ⟨0, Nat.zero_le _, rfl, fun i x h _ => absurd h (by omega), HG0.out⟩
    case round =>
      obtain ⟨j, hj, rfl, hok, hb⟩ := hrel
      have HOK := hidden hok
      have HB := hidden hb
      clear hok hb
      by_cases hlt : j < l.length
      · obtain ⟨A', c', he, _, hcell⟩ := HR.out.grow HB.out
        injection he with e1 e2 e3
        subst e1 e3
        obtain ⟨b, off, rfl, hcell2⟩ := hcell (by omega)
        obtain ⟨x, hx⟩ : ∃ x, l[j]? = some x := ⟨_, List.getElem?_eq_getElem hlt⟩
        obtain ⟨c1, c2, c3⟩ := hcell2 j x hx
        have HX := hidden hx
        have hj0 : (0 : Int) ≤ (j : Int) := by omega
        have hj1 : (j : Int) < (l.length : Int) := by omega
        have hdl : decide (j < l.length) = true := by simpa using hlt
        have HV := hidden (fun w => rvvalid_any x.k x.n x.t w)
        clear hcell hcell2 e2 hx
        cases hvx : validV x.k x.n x.t
        · rw [hvx] at HV
          clear hvx
          go_wp2_with (first
            | (refine wpList_store_new rfl (.tmp 4) _ rfl _ rfl rfl _ _ _ rfl ?_; intro W1 hrW hgW hsW; have k1 := (rowCells hrW).1; have k2 := (rowCells hrW).2.1; have k3 := (rowCells hrW).2.2; have HB1 := hidden (HB.out.of_below hgW); clear hrW hgW hsW c1 c2 c3)
            | (go_at_call 21; refine (HV.out _).mono ?_; rintro e w2 ⟨rfl, g2⟩; have HB2 := hidden (HB1.out.of_below g2); clear g2 k1 k2 k3)
            | (go_at_call 12; refine (HA.out _ HB2.out).mono ?_; rintro e w4 ⟨rfl, g4⟩; have HG4 := hidden (HB2.out.of_below g4); clear g4))
          go_ret
          exact ⟨rfl, HG4.out⟩
        · rw [hvx] at HV
          by_cases ht : 100 < x.t.size
          · have hdt : decide ((100 : Int) < (x.t.size : Int)) = true := by simp; omega
            clear hvx
            go_wp2_with (first
              | (refine wpList_store_new rfl (.tmp 4) _ rfl _ rfl rfl _ _ _ rfl ?_; intro W1 hrW hgW hsW; have k1 := (rowCells hrW).1; have k2 := (rowCells hrW).2.1; have k3 := (rowCells hrW).2.2; have HB1 := hidden (HB.out.of_below hgW); have HRW := hidden hrW; clear hrW hgW hsW c1 c2 c3)
              | (go_at_call 21; refine (HV.out _).mono ?_; rintro e w2 ⟨rfl, g2⟩; have HB2 := hidden (HB1.out.of_below g2); clear k1 k2 k3; have k3 := (rowCells (HRW.out.grow g2)).2.2; clear g2)
              | (go_at_call 12; refine (HA.out _ HB2.out).mono ?_; rintro e w4 ⟨rfl, g4⟩; have HG4 := hidden (HB2.out.of_below g4); clear g4))
            go_ret
            exact ⟨rfl, HG4.out⟩
          · have hdt : decide ((100 : Int) < (x.t.size : Int)) = false := by simp; omega
            have HSH := hidden (show shortV x from ⟨hvx, by omega⟩)
            clear hvx
            go_wp2_with (first
              | (refine wpList_store_new rfl (.tmp 4) _ rfl _ rfl rfl _ _ _ rfl ?_; intro W1 hrW hgW hsW; have k1 := (rowCells hrW).1; have k2 := (rowCells hrW).2.1; have k3 := (rowCells hrW).2.2; have HB1 := hidden (HB.out.of_below hgW); have HRW := hidden hrW; clear hrW hgW hsW c1 c2 c3)
              | (go_at_call 21; refine (HV.out _).mono ?_; rintro e w2 ⟨rfl, g2⟩; have HB2 := hidden (HB1.out.of_below g2); clear k1 k2 k3; have k3 := (rowCells (HRW.out.grow g2)).2.2; clear g2))
            go_roundw
            case rel =>
              refine ⟨j + 1, by omega, by go_num, fun i y hiy hy => ?_, HB2.out⟩
              rcases Nat.lt_or_ge i j with h1 | h1
              · exact HOK.out i y h1 hy
              · have : i = j := by omega
                subst this
                have e1 : x = y := by have h := HX.out.symm.trans hy; injection h
                exact e1 ▸ HSH.out
            case measure => simp [intOf]; omega
      · have hdl : decide (j < l.length) = false := by simpa using hlt
        have HS := hidden (show ∀ x ∈ l, smallV x ∧ boolV1 x from fun x hx => by
          obtain ⟨i, hil, hxi⟩ := List.mem_iff_getElem.1 hx
          have hsv := HOK.out i x (by omega) (by rw [List.getElem?_eq_getElem hil, hxi])
          have hin := HI.out x hx
          exact ⟨⟨⟨hin.2.1, by have := hin.2.2; omega⟩, by have := hsv.2; omega⟩, bool_of_valid hsv.1⟩)
        have H1 := hidden (lformatrow_any _ l wr (HF.out.grow HB.out) (HR.out.grow HB.out) HS.out (by omega))
        have H2 := hidden (fun w2 (g : Grows wr w2) => rformatrow_any _ l w2 ((HR.out.grow HB.out).grow g) (fun x hx => (HS.out x hx).1) (by omega))
        generalize rowL l = rl at *
        go_wp2_with (first
          | (go_at_call 26; refine H1.out.mono ?_; rintro e w2 ⟨rfl, g2⟩; have HB2 := hidden g2; clear g2)
          | (go_at_call 27; refine (H2.out _ HB2.out).mono ?_; rintro e w3 ⟨rfl, g3⟩; have HB3 := hidden (Grows.of_below HB.out (Grows.of_below HB2.out g3)); clear g3)
          | (go_at_call 12; refine (HA.out _ HB3.out).mono ?_; rintro e w4 ⟨rfl, g4⟩; have HG4 := hidden (Grows.of_below HB3.out g4); clear g4))
        go_ret
        exact ⟨rfl, HG4.out⟩
end Go.Proofs.YtaiphocnfkkigaaDoor
