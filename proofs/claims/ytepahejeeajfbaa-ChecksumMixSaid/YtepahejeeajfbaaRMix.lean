/-
  The reference's Mix and Unmix return 'mix' and 'unmix': for every uint64; the world is as it was.
-/
import Derived.Test.YtepahejeeajfbaaProg
import Derived.Test.YtepahejeeajfbaaMixNum
import Derived.WalkKit
namespace Go.Proofs.Ytepahejeeajfbaa
open Go.RowKit

theorem retN {k : IntKind} {a b : Int} (h : a = b) : Ending.returned (.int k a) = .returned (.int k b) := by rw [h]

set_option maxHeartbeats 400000 in
theorem rmix_any (n : Nat) (w : World) (h : n < 18446744073709551616) :
    Calls Try.prog 20 #[.int .u64 (n : Int)] w fun e w' => e = .returned (.int .u64 (mix n : Int)) ∧ w = w' := by
  go_enter Try.func20, Try.ntmps20
  go_wp2
  go_ret
  refine ⟨retN ?_, rfl⟩
  exact mix_go h

/-- 'x = n ^ x>>by', so often -/
def unsh (k n : Nat) : Nat → Nat
  | 0 => n
  | r + 1 => n ^^^ unsh k n r / 2 ^ k
theorem unsh_lt {k n : Nat} (h : n < 18446744073709551616) : ∀ r, unsh k n r < 18446744073709551616
  | 0 => h
  | r + 1 => by
    have h1 : unsh k n r / 2 ^ k < 2 ^ 64 := Nat.lt_of_le_of_lt (Nat.div_le_self _ _) (unsh_lt h r)
    exact Nat.xor_lt_two_pow (n := 64) h h1
theorem unsh_three {k n : Nat} (hk : 22 ≤ k) (h : n < 18446744073709551616) : unsh k n 3 = ux k n := by
  simp only [unsh, ux, div_xor, third_zero hk h, Nat.xor_zero]

def UnshRel (k n : Nat) (x i : Value) : Prop := ∃ r : Nat, r ≤ 3 ∧ i = .int .u64 ((r * k : Nat) : Int) ∧ x = .int .u64 (unsh k n r : Int)

set_option maxHeartbeats 400000 in
theorem unshift_any (n k : Nat) (w : World) (h : n < 18446744073709551616) (hk1 : 22 ≤ k) (hk2 : k < 32) :
    Calls Try.prog 33 #[.int .u64 (n : Int), .int .u64 (k : Int)] w fun e w' => e = .returned (.int .u64 (ux k n : Int)) ∧ w = w' := by
  go_enter Try.func33, Try.ntmps33
  go_wp2
  go_loop [5, 6] (UnshRel k n) (fun _ i => 96 - (intOf i).toNat)
  case atStart => exact ⟨0, by omega, by simp, rfl⟩
  case round =>
    obtain ⟨r, hr, rfl, rfl⟩ := hrel
    have hx : Hid (bits .xor .u64 (n : Int) ((unsh k n r : Int) / 2 ^ k) = (unsh k n (r + 1) : Int)) := by
      show bits .xor .u64 (n : Int) ((unsh k n r : Int) / 2 ^ k) = _
      have e : ((unsh k n r : Int) / 2 ^ k) = ((unsh k n r / 2 ^ k : Nat) : Int) := div_cast _ k _ (by simp)
      rw [e]
      exact bits_xor_u64_nat _ _ h (Nat.lt_of_le_of_lt (Nat.div_le_self _ _) (unsh_lt h r))
    by_cases hr3 : r = 3
    · subst hr3
      have h64 : (64 : Int) ≤ ((3 * k : Nat) : Int) := by omega
      have HU := hidden (unsh_three hk1 h)
      generalize hq : 3 * k = q at *
      clear hq
      go_wp2
      go_ret
      exact ⟨retN (by rw [HU.out]), rfl⟩
    · have h64 : ((r * k : Nat) : Int) < 64 := by
        have h2 : r * k ≤ 2 * k := Nat.mul_le_mul_right _ (by omega)
        omega
      have hs : Hid ((r + 1) * k = r * k + k) := Nat.succ_mul r k
      have hr2 : r + 1 ≤ 3 := by omega
      clear hr3
      generalize hq : r * k = q at *
      clear hq
      go_wp2
      go_round
      case rel => exact ⟨r + 1, hr2, by rw [hs.out]; go_num, by rw [hx.out]⟩
      case measure => simp [intOf]; omega

theorem runshift_at (n k : Nat) (w : World) (h : n < 18446744073709551616) (hk1 : 22 ≤ k) (hk2 : k < 32) (K : Int) (hK : K = (k : Int)) :
    Calls Try.prog 33 #[.int .u64 (n : Int), .int .u64 K] w fun e w' => e = .returned (.int .u64 (ux k n : Int)) ∧ w = w' := by
  subst hK; exact unshift_any n k w h hk1 hk2

set_option maxHeartbeats 400000 in
theorem runmix_any (n : Nat) (w : World) (h : n < 18446744073709551616) :
    Calls Try.prog 22 #[.int .u64 (n : Int)] w fun e w' => e = .returned (.int .u64 (unmix n : Int)) ∧ w = w' := by
  have h1 : ux 31 n < 18446744073709551616 := ux_lt h
  have e1 := hidden (go_mul (ux 31 n) 0x319642B2D24D8EC3 3573116690164977347 (by decide))
  have l1 := mul64_lt (ux 31 n) 0x319642B2D24D8EC3
  generalize hm1 : mul64 (ux 31 n) 0x319642B2D24D8EC3 = m1 at *
  have e2 := hidden (go_mul (ux 27 m1) 0x96DE1B173F119089 10871156337175269513 (by decide))
  have l2 := mul64_lt (ux 27 m1) 0x96DE1B173F119089
  generalize hm2 : mul64 (ux 27 m1) 0x96DE1B173F119089 = m2 at *
  have HU : Hid (unmix n = ux 30 m2) := by
    show unmix n = ux 30 m2
    unfold unmix; rw [hm1, hm2]
  clear hm1 hm2
  go_enter Try.func22, Try.ntmps22
  go_wp2_with fail
  refine (runshift_at n 31 _ h (by omega) (by omega) 31 rfl).mono ?_
  rintro e w' ⟨rfl, rfl⟩
  go_wp2_with fail
  rw [e1.out]
  refine (runshift_at m1 27 _ l1 (by omega) (by omega) 27 rfl).mono ?_
  rintro e w' ⟨rfl, rfl⟩
  go_wp2_with fail
  rw [e2.out]
  refine (runshift_at m2 30 _ l2 (by omega) (by omega) 30 rfl).mono ?_
  rintro e w' ⟨rfl, rfl⟩
  go_wp2
  go_ret
  exact ⟨retN (by rw [HU.out]), rfl⟩

end Go.Proofs.Ytepahejeeajfbaa
