/-
  The reference of package bitpack: ok, Size, Width, Equal. Nothing that was there is changed.
-/
import Derived.Test.YtjjeebaelpgjlaaProg
import Derived.Test.YtjjeebaelpgjlaaNum
import Derived.Test.YtjjeebaelpgjlaaWords
import Derived.Test.YtjjeebaelpgjlaaRow
import Derived.Test.YtjjeebaelpgjlaaBpNum
import Derived.OwnWalk
namespace Go.Proofs.Ytjjeebaelpgjlaa
open Go.RowKit
set_option linter.unusedVariables false
set_option linter.unusedSimpArgs false

def okB (n w : Int) : Bool := decide (0 ≤ n) && decide (n ≤ 1048576) && decide (0 ≤ w) && decide (w ≤ 64)
theorem rok_any (n m : Int) (w : World) : Calls Try.prog 64 #[.int .i64 n, .int .i64 m] w fun e w' => e = .returned (.bool (okB n m)) ∧ w = w' := by
  by_cases h1 : 0 ≤ n
  · by_cases h2 : n ≤ 1048576
    · by_cases h3 : 0 ≤ m
      · by_cases h4 : m ≤ 64
        · go_enter Try.func64, Try.ntmps64
          go_wp2
          go_ret
          exact ⟨retB (by simp [okB, h1, h2, h3, h4]), rfl⟩
        · have hd : decide (m ≤ 64) = false := by simpa using h4
          go_enter Try.func64, Try.ntmps64
          go_wp2
          go_ret
          exact ⟨retB (by simp [okB, h1, h2, h3, h4]), rfl⟩
      · have hd : decide (0 ≤ m) = false := by simpa using h3
        go_enter Try.func64, Try.ntmps64
        go_wp2
        go_ret
        exact ⟨retB (by unfold okB; rw [hd]; simp), rfl⟩
    · have hd : decide (n ≤ 1048576) = false := by simpa using h2
      go_enter Try.func64, Try.ntmps64
      go_wp2
      go_ret
      exact ⟨retB (by unfold okB; rw [hd]; simp), rfl⟩
  · have hd : decide (0 ≤ n) = false := by simpa using h1
    go_enter Try.func64, Try.ntmps64
    go_wp2
    go_ret
    exact ⟨retB (by unfold okB; rw [hd]; simp), rfl⟩
theorem okB_true {n m : Int} (h : okB n m = true) : (0 ≤ n ∧ n ≤ 1048576) ∧ 0 ≤ m ∧ m ≤ 64 := by
  unfold okB at h
  simp at h
  omega
def sizeI (n m : Int) : Int := if okB n m then ((szB n.toNat m.toNat : Nat) : Int) else 0
theorem rsize_any (n m : Int) (w : World) : Calls Try.prog 48 #[.int .i64 n, .int .i64 m] w fun e w' => e = .returned (.int .i64 (sizeI n m)) ∧ w = w' := by
  have HO := hidden (fun w => rok_any n m w)
  cases hok : okB n m
  · have HE := hidden (show sizeI n m = 0 by unfold sizeI; rw [hok]; rfl)
    rw [hok] at HO
    clear hok
    go_enter Try.func48, Try.ntmps48
    go_wp2_with ((go_at_call 64; refine (HO.out _).mono ?_; rintro e w2 ⟨rfl, rfl⟩))
    go_ret
    exact ⟨retU HE.out.symm, rfl⟩
  · obtain ⟨⟨a1, a2⟩, a3, a4⟩ := okB_true hok
    have HE0 := hidden (show sizeI n m = ((szB n.toNat m.toNat : Nat) : Int) by unfold sizeI; rw [hok]; rfl)
    rw [hok] at HO
    clear hok
    obtain ⟨N, rfl⟩ := Int.eq_ofNat_of_zero_le a1
    obtain ⟨M, rfl⟩ := Int.eq_ofNat_of_zero_le a3
    rw [Int.toNat_natCast, Int.toNat_natCast] at HE0
    have hb : N * M ≤ 1048576 * 64 := Nat.mul_le_mul (by omega) (by omega)
    have hc : ((N * M : Nat) : Int) = (N : Int) * (M : Int) := Int.natCast_mul N M
    have h0 : 0 ≤ (N : Int) * (M : Int) := by omega
    have h9 : (N : Int) * (M : Int) ≤ 67108864 := by omega
    have HE := hidden (show sizeI (N : Int) (M : Int) = ((N : Int) * (M : Int) + 7) / 8 by rw [HE0.out]; unfold szB; omega)
    clear hc HE0
    go_enter Try.func48, Try.ntmps48
    go_wp2_with ((go_at_call 64; refine (HO.out _).mono ?_; rintro e w2 ⟨rfl, rfl⟩))
    go_ret
    exact ⟨retU (by rw [HE.out]), rfl⟩
end Go.Proofs.Ytjjeebaelpgjlaa
