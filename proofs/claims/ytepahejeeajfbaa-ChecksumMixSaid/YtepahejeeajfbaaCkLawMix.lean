/-
  The walk of the law ChecksumMix: it returns true for every n; nothing that was there is changed.
-/
import Derived.Test.YtepahejeeajfbaaCkAwake
namespace Go.Proofs.Ytepahejeeajfbaa
open Go.RowKit

theorem ck_unmix_mix (n : Nat) (w : World) (h : n < 18446744073709551616) : Calls Try.prog 21 #[.int .u64 (mix n : Int)] w fun e w' => e = .returned (.int .u64 (n : Int)) ∧ Grows w w' := by
  have h1 := ck_unmix (mix n) w mix_lt
  rwa [unmix_mix h] at h1
theorem ck_mix_unmix (n : Nat) (w : World) (h : n < 18446744073709551616) : Calls Try.prog 19 #[.int .u64 (unmix n : Int)] w fun e w' => e = .returned (.int .u64 (n : Int)) ∧ Grows w w' := by
  have h1 := ck_mix (unmix n) w unmix_lt
  rwa [mix_unmix h] at h1

set_option maxHeartbeats 400000 in
theorem law_mix (n : Nat) (w : World) (h : n < 18446744073709551616) :
    Calls Try.prog 5 #[.int .u64 (n : Int)] w fun e w' => e = .returned (.bool true) ∧ Below w.heap.size w w' := by
  go_enter Try.func5, Try.ntmps5
  go_wp2_with fail
  refine (ck_mix n _ h).mono ?_
  rintro e w1 ⟨rfl, hg1⟩
  have HG1 := hidden hg1
  clear hg1
  go_wp2_with fail
  refine (rmix_any n _ h).mono ?_
  rintro e w' ⟨rfl, rfl⟩
  go_wp2_with fail
  refine (ck_unmix n _ h).mono ?_
  rintro e w2 ⟨rfl, hg2⟩
  have HG2 := hidden (Grows.of_below HG1.out hg2)
  clear hg2
  go_wp2_with fail
  refine (runmix_any n _ h).mono ?_
  rintro e w' ⟨rfl, rfl⟩
  go_wp2_with fail
  refine (ck_mix n _ h).mono ?_
  rintro e w3 ⟨rfl, hg3⟩
  have HG3 := hidden (Grows.of_below HG2.out hg3)
  clear hg3
  go_wp2_with fail
  refine (ck_unmix_mix n _ h).mono ?_
  rintro e w4 ⟨rfl, hg4⟩
  have HG4 := hidden (Grows.of_below HG3.out hg4)
  clear hg4
  go_wp2_with fail
  refine (ck_unmix n _ h).mono ?_
  rintro e w5 ⟨rfl, hg5⟩
  have HG5 := hidden (Grows.of_below HG4.out hg5)
  clear hg5
  go_wp2_with fail
  refine (ck_mix_unmix n _ h).mono ?_
  rintro e w6 ⟨rfl, hg6⟩
  have HG6 := hidden (Grows.of_below HG5.out hg6)
  clear hg6
  go_wp2_with fail
  refine (awake_any _).mono ?_
  rintro e w7 ⟨rfl, hg7⟩
  have HG7 := hidden (Grows.of_below HG6.out hg7)
  clear hg7
  go_wp2_with fail
  go_ret
  exact ⟨rfl, HG7.out⟩

end Go.Proofs.Ytepahejeeajfbaa
