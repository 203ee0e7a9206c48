/-
  The walk of the law VarintZigZag: it returns true for every n, m, u; nothing that was there is changed.
-/
import Derived.Test.YtkcgjhmllmkmlaaAwake
namespace Go.Proofs.Ytkcgjhmllmkmlaa
open Go.RowKit

theorem unzz (n : Int) (w : World) (h0 : -9223372036854775808 ≤ n) (h1 : n < 9223372036854775808) :
    Calls Try.prog 23 #[.int .u64 (zz n)] w fun e w' => e = .returned (.int .i64 n) ∧ w = w' := by
  have h := unzigzag_any (zz n) w (zz_bd n h0 h1).1 (zz_bd n h0 h1).2
  rw [uz_zz] at h
  exact h
theorem zzun (u : Int) (w : World) (h0 : 0 ≤ u) (h1 : u < 18446744073709551616) :
    Calls Try.prog 21 #[.int .i64 (uz u)] w fun e w' => e = .returned (.int .u64 u) ∧ w = w' := by
  have h := zigzag_any (uz u) w (uz_bd u h0 h1).1 (uz_bd u h0 h1).2
  rw [zz_uz u h0] at h
  exact h

set_option maxHeartbeats 400000 in
theorem law_zigzag (n m u : Int) (w : World) (hn0 : -9223372036854775808 ≤ n) (hn1 : n < 9223372036854775808) (hm0 : -9223372036854775808 ≤ m) (hm1 : m < 9223372036854775808)
    (hu0 : 0 ≤ u) (hu1 : u < 18446744073709551616) :
    Calls Try.prog 6 #[.int .i64 n, .int .i64 m, .int .u64 u] w fun e w' => e = .returned (.bool true) ∧ Below w.heap.size w w' := by
  have hlt := fun h => zz_lt n m h
  have HL := hidden hlt
  clear hlt
  go_enter Try.func6, Try.ntmps6
  go_wp2_with fail
  refine (zigzag_any n _ hn0 hn1).mono ?_
  rintro e w' ⟨rfl, rfl⟩
  go_wp2_with fail
  refine (rzigzag_any n _ hn0 hn1).mono ?_
  rintro e w' ⟨rfl, rfl⟩
  go_wp2_with fail
  refine (unzigzag_any u _ hu0 hu1).mono ?_
  rintro e w' ⟨rfl, rfl⟩
  go_wp2_with fail
  refine (runzigzag_any u _ hu0 hu1).mono ?_
  rintro e w' ⟨rfl, rfl⟩
  go_wp2_with fail
  refine (zigzag_any n _ hn0 hn1).mono ?_
  rintro e w' ⟨rfl, rfl⟩
  go_wp2_with fail
  refine (unzz n _ hn0 hn1).mono ?_
  rintro e w' ⟨rfl, rfl⟩
  go_wp2_with fail
  refine (unzigzag_any u _ hu0 hu1).mono ?_
  rintro e w' ⟨rfl, rfl⟩
  go_wp2_with fail
  refine (zzun u _ hu0 hu1).mono ?_
  rintro e w' ⟨rfl, rfl⟩
  go_wp2_with (first
    | (go_at_call 12; refine (awake_any _).mono ?_; rintro e w1 ⟨rfl, hb⟩)
    | (go_at_call 21; refine (zigzag_any _ _ (by assumption) (by assumption)).mono ?_; rintro e w' ⟨rfl, rfl⟩))
  all_goals first
    | (go_ret; exact ⟨rfl, by assumption⟩)
    | (exfalso; have h1 := HL.out (by omega); omega)

end Go.Proofs.Ytkcgjhmllmkmlaa
