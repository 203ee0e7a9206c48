/-
  Package bitpack: validCount, validWidth, bytesFor, lowBits, Size. The world is as it was.
-/
import Derived.Test.YtjjeebaelpgjlaaBp1
import Derived.Test.YtjjeebaelpgjlaaBpNum3
namespace Go.Proofs.Ytjjeebaelpgjlaa
open Go.RowKit
set_option linter.unusedVariables false
set_option linter.unusedSimpArgs false

def okN (n : Int) : Bool := decide (0 ≤ n) && decide (n ≤ 1048576)
def okM (m : Int) : Bool := decide (0 ≤ m) && decide (m ≤ 64)
theorem okB_eq (n m : Int) : okB n m = (okN n && okM m) := by unfold okB okN okM; simp only [Bool.and_assoc]
theorem okN_t {n : Nat} (h : n ≤ 1048576) : okN (n : Int) = true := by unfold okN; simp; omega
theorem okM_t {n : Nat} (h : n ≤ 64) : okM (n : Int) = true := by unfold okM; simp; omega
theorem okB_t {n m : Nat} (h : n ≤ 1048576) (h2 : m ≤ 64) : okB (n : Int) (m : Int) = true := by rw [okB_eq, okN_t h, okM_t h2]; rfl
theorem validN_any (n : Int) (w : World) : Calls Try.prog 53 #[.int .i64 n] w fun e w' => e = .returned (.bool (okN n)) ∧ w = w' := by
  by_cases h1 : 0 ≤ n
  · go_enter Try.func53, Try.ntmps53
    go_wp2
    go_ret
    exact ⟨retB (by simp [okN, h1]), rfl⟩
  · have hd : decide (0 ≤ n) = false := by simpa using h1
    go_enter Try.func53, Try.ntmps53
    go_wp2
    go_ret
    exact ⟨retB (by unfold okN; rw [hd]; simp), rfl⟩
theorem validM_any (n : Int) (w : World) : Calls Try.prog 54 #[.int .i64 n] w fun e w' => e = .returned (.bool (okM n)) ∧ w = w' := by
  by_cases h1 : 0 ≤ n
  · go_enter Try.func54, Try.ntmps54
    go_wp2
    go_ret
    exact ⟨retB (by simp [okM, h1]), rfl⟩
  · have hd : decide (0 ≤ n) = false := by simpa using h1
    go_enter Try.func54, Try.ntmps54
    go_wp2
    go_ret
    exact ⟨retB (by unfold okM; rw [hd]; simp), rfl⟩
theorem bytesFor_any (k : Nat) (w : World) (hk : k ≤ 1000000000000) : Calls Try.prog 63 #[.int .i64 (k : Int)] w fun e w' => e = .returned (.int .i64 (((k + 7) / 8 : Nat) : Int)) ∧ w = w' := by
  have HE := hidden (show ((k : Int) + 8 - 1) / 8 = (((k + 7) / 8 : Nat) : Int) by omega)
  go_enter Try.func63, Try.ntmps63
  go_wp2
  go_ret
  exact ⟨retU HE.out, rfl⟩
theorem pow_le64 {c : Nat} (h : c ≤ 64) : (2 : Nat) ^ c ≤ 18446744073709551616 := Nat.le_trans (Nat.pow_le_pow_right (by decide) h) (by decide)
theorem low_wrap {c : Nat} (h : c ≤ 64) : IntKind.u64.wrap (IntKind.u64.wrap (1 * 2 ^ c) - 1) = ((2 ^ c - 1 : Nat) : Int) := by
  have e : ((2 : Int) ^ c) = ((2 ^ c : Nat) : Int) := by simp
  have h1 := pow_le64 h
  have h2 := Nat.two_pow_pos c
  rw [Int.one_mul, e, IntKind.wrap_u64, IntKind.wrap_u64]
  generalize 2 ^ c = y at *
  omega
theorem lowBits_any (c : Nat) (w : World) (hc : c ≤ 64) : Calls Try.prog 57 #[.int .i64 (c : Int)] w fun e w' => e = .returned (.int .u64 ((2 ^ c - 1 : Nat) : Int)) ∧ w' = w := by
  have HE := hidden (low_wrap hc)
  go_enter Try.func57, Try.ntmps57
  go_wp2
  go_ret
  exact ⟨retU (by first | exact HE.out | (have h := HE.out; rw [Int.one_mul] at h; exact h)), rfl⟩
theorem and_low {x c : Nat} (hx : x < 18446744073709551616) (hc : c ≤ 64) : bits .and .u64 (x : Int) ((2 ^ c - 1 : Nat) : Int) = ((x % 2 ^ c : Nat) : Int) := by
  have h1 := pow_le64 hc
  have h2 := Nat.two_pow_pos c
  rw [u64_and _ _ (by omega) (by omega) (by omega) (by omega), Int.toNat_natCast, Int.toNat_natCast, Nat.and_two_pow_sub_one_eq_mod]
theorem sizeI_nat {n m : Nat} (h : n ≤ 1048576) (h2 : m ≤ 64) : sizeI (n : Int) (m : Int) = ((szB n m : Nat) : Int) := by
  unfold sizeI
  rw [okB_t h h2, Int.toNat_natCast, Int.toNat_natCast]
  rfl
theorem size_any (n m : Int) (w : World) : Calls Try.prog 55 #[.int .i64 n, .int .i64 m] w fun e w' => e = .returned (.int .i64 (sizeI n m)) ∧ w = w' := by
  have HN := hidden (fun w => validN_any n w)
  have HM := hidden (fun w => validM_any m w)
  cases h1 : okN n
  · have HE := hidden (show sizeI n m = 0 by unfold sizeI; rw [okB_eq, h1]; rfl)
    rw [h1] at HN
    clear h1
    go_enter Try.func55, Try.ntmps55
    go_wp2_with ((go_at_call 53; refine (HN.out _).mono ?_; rintro e w2 ⟨rfl, rfl⟩))
    go_ret
    exact ⟨retU HE.out.symm, rfl⟩
  · rw [h1] at HN
    cases h2 : okM m
    · have HE := hidden (show sizeI n m = 0 by unfold sizeI; rw [okB_eq, h1, h2]; rfl)
      rw [h2] at HM
      clear h1 h2
      go_enter Try.func55, Try.ntmps55
      go_wp2_with (first | (go_at_call 53; refine (HN.out _).mono ?_; rintro e w2 ⟨rfl, rfl⟩) | (go_at_call 54; refine (HM.out _).mono ?_; rintro e w2 ⟨rfl, rfl⟩))
      go_ret
      exact ⟨retU HE.out.symm, rfl⟩
    · rw [h2] at HM
      obtain ⟨⟨a1, a2⟩, a3, a4⟩ := okB_true (show okB n m = true by rw [okB_eq, h1, h2]; rfl)
      clear h1 h2
      obtain ⟨N, rfl⟩ := Int.eq_ofNat_of_zero_le a1
      obtain ⟨M, rfl⟩ := Int.eq_ofNat_of_zero_le a3
      have hb : N * M ≤ 1048576 * 64 := Nat.mul_le_mul (by omega) (by omega)
      have hc : (N : Int) * (M : Int) = ((N * M : Nat) : Int) := (Int.natCast_mul N M).symm
      have h0 : 0 ≤ (N : Int) * (M : Int) := by omega
      have h9 : (N : Int) * (M : Int) ≤ 67108864 := by omega
      have HE := hidden (sizeI_nat (n := N) (m := M) (by omega) (by omega))
      have HB := hidden (fun w => bytesFor_any (N * M) w (by omega))
      have HC := hidden hc
      rw [← hc] at HB
      clear hc
      go_enter Try.func55, Try.ntmps55
      go_wp2_with (first | (go_at_call 53; refine (HN.out _).mono ?_; rintro e w2 ⟨rfl, rfl⟩) | (go_at_call 54; refine (HM.out _).mono ?_; rintro e w2 ⟨rfl, rfl⟩) | (go_at_call 63; refine (HB.out _).mono ?_; rintro e w2 ⟨rfl, rfl⟩))
      go_ret
      exact ⟨retU (by rw [HE.out]; rfl), rfl⟩
end Go.Proofs.Ytjjeebaelpgjlaa
