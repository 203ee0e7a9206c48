/-
  The laws' examples: awake returns true. Nothing that was there is changed.
-/
import Derived.Test.YtolpcoajkjlfeaaFs7
namespace Go.Proofs.Ytolpcoajkjlfeaa
open Go.RowKit
set_option linter.unusedVariables false
set_option linter.unusedSimpArgs false

theorem aw_base : baseV [0, 1, 2, 3] = 0 := by decide
theorem aw_best : bestW [0, 1, 2, 3] = 2 := by decide +kernel
theorem aw_nil : encV [] = [0, 0, 0] := by decide +kernel
theorem aw_555 : encV [5, 5, 5] = [10, 0, 0] := by decide +kernel
theorem aw_nine : encV [0, 0, 0, 0, 0, 0, 0, 0, 1000] = [0, 0, 1, 8, 232, 7] := by decide +kernel
theorem aw_dec : decV [10, 0, 0] 0 3 = ([5, 5, 5], 3, 0) := by
  have h := decV_enc [] [] (l := [5, 5, 5]) (by unfold frIn; decide) (by decide)
  rw [aw_555] at h
  exact h
theorem str_list (s : List UInt8) : (strOf s).toList = s := by rw [ByteArray.toList_eq]; rfl
set_option maxRecDepth 20000 in
set_option maxHeartbeats 4000000 in
theorem awakeF_any (w : World) : Calls Try.prog 8 #[] w fun e w' => e = .returned (.bool true) ∧ Grows w w' := by
  go_enter Try.func8, Try.ntmps8
  go_wp2_with fail
  refine (best_any _ [0, 1, 2, 3] _ (Reads.of_row (Row.at_ w 2 _ (icells [0, 1, 2, 3]) rfl _ rfl) 4 4 rfl (Nat.le_refl _)) (by decide) (by unfold frIn; decide)).mono ?_
  rintro e w1 ⟨rfl, g1⟩
  rw [aw_base, aw_best]
  have HG1 := hidden (show Grows w w1 from Grows.of_below ((Below.refl w.heap.size w).alloc (Nat.le_refl _) _) g1)
  clear g1
  go_wp2_with fail
  refine (lencodeF_any _ [0, 0, 0, 0, 0, 0, 0, 0, 1000] _ (Reads.of_row (Row.at_ w1 2 _ (icells [0, 0, 0, 0, 0, 0, 0, 0, 1000]) rfl _ rfl) 9 9 rfl (Nat.le_refl _)) (by decide) (by unfold frIn; decide)).mono ?_
  rintro e w2 ⟨u2, rfl, g2, hu2⟩
  rw [aw_nine] at hu2
  have HU2 := hidden hu2
  have HG2 := hidden (Grows.of_below HG1.out (Grows.of_below ((Below.refl w1.heap.size w1).alloc (Nat.le_refl _) _) g2))
  clear g2 hu2
  go_wp2_with fail
  refine (ldecodeF_any _ 3 [10, 0, 0] 0 3 _ (IsBytes.of_row (Row.at_ w2 5 _ (bcells [10, 0, 0]) rfl _ rfl) 3 3 rfl) (by decide) (by decide) (by decide) (by decide)).mono ?_
  rintro e w3 ⟨u3, rfl, hu3, g3⟩
  rw [aw_dec] at hu3 ⊢
  have HG23 := hidden (Grows.of_below ((Below.refl w2.heap.size w2).alloc (Nat.le_refl _) _) g3)
  have HG3 := hidden (Grows.of_below HG2.out HG23.out)
  have HU3 := hidden hu3
  have HU23 := hidden (HU2.out.grow HG23.out)
  clear g3 hu3
  go_wp2_with fail
  refine (lencodeF_any _ [] w3 (Reads.nil_ _ 0) (by decide) (by unfold frIn; decide)).mono ?_
  rintro e w4 ⟨u4, rfl, g4, hu4⟩
  rw [aw_nil] at hu4
  have hr4 := run_string_bytes (P := Try.prog) hu4 26 5 Try.underlying26 Try.underlying5 9 Try.underlying9
  have HG4 := hidden (Grows.of_below HG3.out g4)
  have HU24 := hidden (HU23.out.grow g4)
  have HU34 := hidden (IsI.grow HU3.out g4)
  have hs4 := str_list [0, 0, 0]
  clear g4 hu4
  go_wp2_with fail
  clear hs4 hr4
  refine (lencodeF_any _ [5, 5, 5] _ (Reads.of_row (Row.at_ w4 2 _ (icells [5, 5, 5]) rfl _ rfl) 3 3 rfl (Nat.le_refl _)) (by decide) (by unfold frIn; decide)).mono ?_
  rintro e w5 ⟨u5, rfl, g5, hu5⟩
  rw [aw_555] at hu5
  have hr5 := run_string_bytes (P := Try.prog) hu5 26 5 Try.underlying26 Try.underlying5 9 Try.underlying9
  have HG45 := hidden (Grows.of_below ((Below.refl w4.heap.size w4).alloc (Nat.le_refl _) _) g5)
  have HG5 := hidden (Grows.of_below HG4.out HG45.out)
  have hr25 := run_string_bytes (P := Try.prog) (HU24.out.grow HG45.out) 26 5 Try.underlying26 Try.underlying5 9 Try.underlying9
  have HU35 := hidden (IsI.grow HU34.out HG45.out)
  have hs5 := str_list [10, 0, 0]
  have hs6 := str_list [0, 0, 1, 8, 232, 7]
  clear g5 hu5
  go_wp2_with fail
  clear hs5 hs6 hr5 hr25
  have HG6 := hidden (Grows.of_below HG5.out ((Below.refl w5.heap.size w5).alloc (Nat.le_refl _) (.cells #[.int .i64 5, .int .i64 5, .int .i64 5] 2)))
  refine (same_any u3 _ [5, 5, 5] [5, 5, 5] _ (IsI.grow HU35.out ((Below.refl w5.heap.size w5).alloc (Nat.le_refl _) _)) (Reads.of_row (Row.at_ w5 2 _ (icells [5, 5, 5]) rfl _ rfl) 3 3 rfl (Nat.le_refl _)) (by decide) (by decide)).mono ?_
  rintro e w6 ⟨rfl, g6⟩
  rw [sameI_self]
  have HG7 := hidden (Grows.of_below HG6.out g6)
  clear g6
  go_wp2_with fail
  go_ret
  exact ⟨rfl, HG7.out⟩
end Go.Proofs.Ytolpcoajkjlfeaa
