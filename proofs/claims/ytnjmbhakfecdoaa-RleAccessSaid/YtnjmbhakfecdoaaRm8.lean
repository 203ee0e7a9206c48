/-
  The laws' examples: awake returns true. Nothing that was there is changed.
-/
import Derived.Test.YtnjmbhakfecdoaaRm2
import Derived.Test.YtnjmbhakfecdoaaRm3
import Derived.Test.YtnjmbhakfecdoaaRm6
namespace Go.Proofs.Ytnjmbhakfecdoaa
open Go.RowKit
set_option linter.unusedVariables false
set_option linter.unusedSimpArgs false

theorem ReadsR.of_row {w : World} {g : Nat} {l : List Rn} (h : Row w g 59 (rcells l)) (n c : Nat) (hn : n = l.length) (hc : n ≤ c) : ReadsR w (.slice (some ⟨g, 0, none⟩) n c) l := by
  subst hn
  refine ⟨_, c, rfl, hc, fun _ => ⟨g, 0, rfl, fun j x hj => ?_⟩⟩
  obtain ⟨h1, h2⟩ := rcells_get hj
  rw [Nat.zero_add, h.cell, h.cell]
  exact ⟨h1, h2⟩
theorem aw_runs : runsR [5, 5, 7] = [(5, 2), (7, 1)] := by decide
theorem aw_at : atV [(5, 2), (7, 1)] 2 = (7, true) := by decide
theorem aw_exp : expI [(5, 0)] = [] ∧ expE [(5, 0)] = 4 := by decide
theorem aw_enc : encR [(5, 2), (7, 1)] = [2, 10, 2, 4, 1] := by unfold encR; rw [encRs, encRs, encRs]; decide +kernel
set_option maxHeartbeats 1000000 in
theorem rlawake_any (w : World) : Calls Try.prog 10 #[] w fun e w' => e = .returned (.bool true) ∧ Grows w w' := by
  go_enter Try.func10, Try.ntmps10
  go_wp2_with fail
  refine (lruns_any _ [5, 5, 7] _ (Reads.of_row (Row.at_ w 2 _ (icells [5, 5, 7]) rfl _ rfl) 3 3 rfl (Nat.le_refl _)) (by decide)).mono ?_
  rintro e w1 ⟨u, rfl, g1, hu⟩
  rw [aw_runs] at hu
  have HU := hidden hu
  have HG1 := hidden (show Grows w w1 from (runGrow1 _).of_below g1)
  obtain ⟨A, c, rfl⟩ := hu.slice_
  clear hu g1
  go_wp2_with fail
  refine (lat_any _ [(5, 2), (7, 1)] 2 w1 HU.out (by decide) (by decide) (by decide)).mono ?_
  rintro e w2 ⟨rfl, g2⟩
  rw [aw_at]
  have HG2 := hidden (HG1.out.of_below g2)
  have HU2 := hidden (HU.out.grow g2)
  clear g2
  go_wp2_with fail
  refine (lexpand_any _ [(5, 0)] _ (ReadsR.of_row (l := [(5, 0)]) (Row.at_ w2 59 _ (rcells [(5, 0)]) rfl _ rfl) 1 1 rfl (Nat.le_refl _)) (by decide)).mono ?_
  rintro e w3 ⟨u3, rfl, g3, hu3⟩
  rw [aw_exp.2]
  have HG3 := hidden ((HG2.out.of_below (runGrow1 _)).of_below g3)
  have hu4 := HU2.out.grow ((runGrow1 _).of_below g3)
  have HU4 := hidden hu4
  obtain ⟨b, off, hA, hc⟩ := hu4.at_
  obtain rfl := hA (by decide)
  obtain ⟨c1, c2⟩ := hc 0 (by decide)
  simp only [Nat.zero_mul, Nat.add_zero, List.getElem_cons_zero] at c1 c2
  have HEN := hidden (lencode_any _ [(5, 2), (7, 1)] w3 HU4.out (by unfold in64; decide) (by decide) (by decide))
  rw [aw_enc] at HEN
  clear g3 hu3 hu4 hA hc
  go_wp2_with fail
  refine HEN.out.mono ?_
  rintro e w4 ⟨v4, rfl, hown4, hb4⟩
  have hby := IsBytes.of_own hown4
  have hr := run_string_bytes (P := Try.prog) hby 45 5 Try.underlying45 Try.underlying5 9 Try.underlying9
  have HG4 := hidden (HG3.out.of_below hb4)
  clear c1 c2 hby hown4 hb4
  go_wp2_with fail
  go_ret
  exact ⟨retB (by rw [ByteArray.toList_eq]; rfl), HG4.out⟩
end Go.Proofs.Ytnjmbhakfecdoaa
