/-
  checksum.Mix and Unmix return 'mix' and 'unmix': for every uint64; the world is as it was. One byte of the table: 'halfN 8'.
-/
import Derived.Test.YtepahejeeajfbaaRMix
import Derived.Test.YtepahejeeajfbaaRCrc
namespace Go.Proofs.Ytepahejeeajfbaa
open Go.RowKit

set_option maxHeartbeats 400000 in
theorem mix_any (n : Nat) (w : World) (h : n < 18446744073709551616) :
    Calls Try.prog 19 #[.int .u64 (n : Int)] w fun e w' => e = .returned (.int .u64 (mix n : Int)) ∧ w = w' := by
  go_enter Try.func19, Try.ntmps19
  go_wp2
  go_ret
  refine ⟨retN ?_, rfl⟩
  exact mix_go h

theorem ux_go {n k : Nat} (h : n < 18446744073709551616) (hk : 22 ≤ k) (a b : Int) (ha : a = ((n / 2 ^ k : Nat) : Int)) (hb : b = ((n / 2 ^ k / 2 ^ k : Nat) : Int)) :
    bits .xor .u64 (bits .xor .u64 (n : Int) a) b = (ux k n : Int) := by
  subst ha hb
  have _ := hk
  have h1 : n / 2 ^ k < 18446744073709551616 := Nat.lt_of_le_of_lt (Nat.div_le_self _ _) h
  have h2 : n / 2 ^ k / 2 ^ k < 18446744073709551616 := Nat.lt_of_le_of_lt (Nat.div_le_self _ _) h1
  rw [bits_xor_u64_nat n _ h h1, bits_xor_u64_nat _ _ (Nat.xor_lt_two_pow (n := 64) h h1) h2]
  unfold ux
  rw [Nat.xor_assoc]

set_option maxHeartbeats 400000 in
theorem cunshift_any (n k : Nat) (w : World) (h : n < 18446744073709551616) (hk1 : 22 ≤ k) (hk2 : k < 32) :
    Calls Try.prog 32 #[.int .u64 (n : Int), .int .i64 (k : Int)] w fun e w' => e = .returned (.int .u64 (ux k n : Int)) ∧ Grows w w' := by
  have HU := hidden (ux_go h hk1 ((n : Int) / 2 ^ k) ((n : Int) / 2 ^ (2 * k)) (div_cast n k _ (by simp)) (by rw [Nat.div_div_eq_div_mul, ← Nat.pow_add, ← Nat.two_mul]; exact div_cast n (2 * k) _ (by simp)))
  go_enter Try.func32, Try.ntmps32
  go_wp2
  go_region
  go_wp2
  go_ret
  exact ⟨retN HU.out, (Below.refl _ _).drew⟩
theorem cunshift_at (n k : Nat) (w : World) (h : n < 18446744073709551616) (hk1 : 22 ≤ k) (hk2 : k < 32) (K : Int) (hK : K = (k : Int)) :
    Calls Try.prog 32 #[.int .u64 (n : Int), .int .i64 K] w fun e w' => e = .returned (.int .u64 (ux k n : Int)) ∧ Grows w w' := by
  subst hK; exact cunshift_any n k w h hk1 hk2

set_option maxHeartbeats 400000 in
theorem unmix_any (n : Nat) (w : World) (h : n < 18446744073709551616) :
    Calls Try.prog 21 #[.int .u64 (n : Int)] w fun e w' => e = .returned (.int .u64 (unmix n : Int)) ∧ Grows w w' := by
  have e1 := hidden (go_mul (ux 31 n) 0x319642B2D24D8EC3 3573116690164977347 (by decide))
  have l1 := mul64_lt (ux 31 n) 0x319642B2D24D8EC3
  generalize hm1 : mul64 (ux 31 n) 0x319642B2D24D8EC3 = m1 at *
  have e2 := hidden (go_mul (ux 27 m1) 0x96DE1B173F119089 10871156337175269513 (by decide))
  have l2 := mul64_lt (ux 27 m1) 0x96DE1B173F119089
  generalize hm2 : mul64 (ux 27 m1) 0x96DE1B173F119089 = m2 at *
  have HU : Hid (unmix n = ux 30 m2) := by
    show unmix n = ux 30 m2
    unfold unmix; rw [hm1, hm2]
  clear hm1 hm2
  go_enter Try.func21, Try.ntmps21
  go_wp2_with fail
  refine (cunshift_at n 31 _ h (by decide) (by decide) 31 rfl).mono ?_
  rintro e w1 ⟨rfl, g1⟩
  have G1 := hidden g1
  clear g1
  go_wp2_with fail
  rw [e1.out]
  refine (cunshift_at m1 27 _ l1 (by decide) (by decide) 27 rfl).mono ?_
  rintro e w2 ⟨rfl, g2⟩
  have G2 := hidden (G1.out.of_below g2)
  clear g2
  go_wp2_with fail
  rw [e2.out]
  refine (cunshift_at m2 30 _ l2 (by decide) (by decide) 30 rfl).mono ?_
  rintro e w3 ⟨rfl, g3⟩
  have G3 := hidden (G2.out.of_below g3)
  clear g3
  go_wp2
  go_ret
  exact ⟨retN (by rw [HU.out]), G3.out⟩

set_option maxHeartbeats 400000 in
theorem shiftByte_any (c : Nat) (w : World) (hc : c < 4294967296) :
    Calls Try.prog 36 #[.int .u32 (c : Int)] w fun e w' => e = .returned (.int .u32 (halfN 8 c : Int)) ∧ w = w' := by
  go_enter Try.func36, Try.ntmps36
  go_wp2
  go_loop [0, 4] (StepRel (halfN 8 c)) (fun _ i => 8 - (intOf i).toNat)
  case atStart => exact ⟨0, c, by omega, hc, rfl, rfl, rfl⟩
  case round =>
    obtain ⟨k, x, hk, hx1, rfl, rfl, hh⟩ := hrel
    have HH := hidden hh
    clear hh
    by_cases hlt8 : k < 8
    · have ha := hidden (and1_u32 x hx1)
      have hhl : half x < 4294967296 := half_lt hx1
      have hn : Hid (halfN (8 - (k + 1)) (half x) = halfN 8 c) := by
        show halfN (8 - (k + 1)) (half x) = _
        rw [← HH.out, show 8 - k = (8 - (k + 1)) + 1 by omega]; rfl
      by_cases ho : x % 2 = 1
      · have ht : (bits .and .u32 (x : Int) 1 == 1) = true := by rw [ha.out, ho]; rfl
        have hv := hidden (half_odd hx1 ho)
        clear ho
        go_wp2
        go_round
        case rel => exact ⟨k + 1, half x, by omega, hhl, by go_num, by rw [hv.out], hn.out⟩
        case measure => simp [intOf]; omega
      · have ht : (bits .and .u32 (x : Int) 1 == 1) = false := by rw [ha.out]; simp; omega
        have hv := hidden (half_even ho)
        clear ho
        go_wp2
        go_round
        case rel => exact ⟨k + 1, half x, by omega, hhl, by go_num, by rw [hv.out], hn.out⟩
        case measure => simp [intOf]; omega
    · have hke : k = 8 := by omega
      subst hke
      go_wp2
      go_ret
      have h9 : x = halfN 8 c := HH.out
      exact ⟨retU (by rw [h9]), rfl⟩

end Go.Proofs.Ytepahejeeajfbaa
