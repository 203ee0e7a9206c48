/-
  varint.ZigZag, varint.UnZigZag and the reference's ZigZag, UnZigZag return zz and uz: for every argument, and the world is as it was.
-/
import Derived.Test.YtjjeebaelpgjlaaProg
import Derived.Test.YtjjeebaelpgjlaaNum
import Derived.WalkKit
namespace Go.Proofs.Ytjjeebaelpgjlaa
open Go.RowKit

def zz (n : Int) : Int := if n < 0 then -2 * n - 1 else 2 * n
def uz (u : Int) : Int := if u % 2 = 1 then -1 - u / 2 else u / 2

theorem zz_bd (n : Int) (h0 : -9223372036854775808 ≤ n) (h1 : n < 9223372036854775808) : 0 ≤ zz n ∧ zz n < 18446744073709551616 := by unfold zz; split <;> omega
theorem uz_bd (u : Int) (h0 : 0 ≤ u) (h1 : u < 18446744073709551616) : -9223372036854775808 ≤ uz u ∧ uz u < 9223372036854775808 := by unfold uz; split <;> omega
theorem uz_zz (n : Int) : uz (zz n) = n := by unfold uz zz; split <;> split <;> omega
theorem zz_uz (u : Int) (h0 : 0 ≤ u) : zz (uz u) = u := by unfold uz zz; split <;> split <;> omega
theorem zz_lt (n m : Int) (h : (m < n ∧ 0 ≤ m) ∨ (n < m ∧ m < 0)) : zz m < zz n := by unfold zz; split <;> split <;> omega

theorem ret_eq {k : IntKind} {a b : Int} (h : a = b) : Ending.returned (.int k a) = .returned (.int k b) := by rw [h]

theorem shl1_neg (n : Int) (h0 : -9223372036854775808 ≤ n) (h1 : n < 0) : IntKind.u64.wrap (IntKind.u64.wrap n * 2) = 18446744073709551616 + 2 * n := by
  rw [IntKind.wrap_u64, IntKind.wrap_u64]; omega

theorem zigzag_any (n : Int) (w : World) (h0 : -9223372036854775808 ≤ n) (h1 : n < 9223372036854775808) :
    Calls Try.prog 33 #[.int .i64 n] w fun e w' => e = .returned (.int .u64 (zz n)) ∧ w = w' := by
  by_cases hn : n < 0
  · have e1 := hidden (shl1_neg n h0 hn)
    have ez : Hid (zz n = -2 * n - 1) := by unfold zz; rw [if_pos hn]; exact rfl
    go_enter Try.func33, Try.ntmps33
    go_wp2
    go_ret
    refine ⟨ret_eq ?_, rfl⟩
    have e2 := e1.out
    rw [ez.out, e2, not_u64 _ (by omega) (by omega)]
    omega
  · have hn' : 0 ≤ n := by omega
    have ez : Hid (zz n = 2 * n) := by unfold zz; rw [if_neg hn]; exact rfl
    go_enter Try.func33, Try.ntmps33
    go_wp2
    go_ret
    refine ⟨ret_eq ?_, rfl⟩
    rw [ez.out]
    omega

theorem rzigzag_any (n : Int) (w : World) (h0 : -9223372036854775808 ≤ n) (h1 : n < 9223372036854775808) :
    Calls Try.prog 39 #[.int .i64 n] w fun e w' => e = .returned (.int .u64 (zz n)) ∧ w = w' := by
  by_cases hn : n < 0
  · have ez : Hid (zz n = -2 * n - 1) := by unfold zz; rw [if_pos hn]; exact rfl
    go_enter Try.func39, Try.ntmps39
    go_wp2
    go_ret
    refine ⟨ret_eq ?_, rfl⟩
    rw [ez.out]
    omega
  · have hn' : 0 ≤ n := by omega
    have ez : Hid (zz n = 2 * n) := by unfold zz; rw [if_neg hn]; exact rfl
    go_enter Try.func39, Try.ntmps39
    go_wp2
    go_ret
    refine ⟨ret_eq ?_, rfl⟩
    rw [ez.out]

theorem unzigzag_any (u : Int) (w : World) (h0 : 0 ≤ u) (h1 : u < 18446744073709551616) :
    Calls Try.prog 42 #[.int .u64 u] w fun e w' => e = .returned (.int .i64 (uz u)) ∧ w = w' := by
  have ea := and1_u64 u h0 h1
  have en := not_i64 (u / 2) (by omega) (by omega)
  by_cases hn : u % 2 = 1
  · have ez : Hid (uz u = -1 - u / 2) := by unfold uz; rw [if_pos hn]; exact rfl
    have ht : (bits .and .u64 u 1 == 1) = true := by rw [ea, hn]; rfl
    have eh := hidden en
    clear ea en hn
    go_enter Try.func42, Try.ntmps42
    go_wp2
    go_ret
    refine ⟨ret_eq ?_, rfl⟩
    rw [ez.out, eh.out]
  · have ez : Hid (uz u = u / 2) := by unfold uz; rw [if_neg hn]; exact rfl
    have ht : (bits .and .u64 u 1 == 1) = false := by rw [ea]; simpa using hn
    clear ea en hn
    go_enter Try.func42, Try.ntmps42
    go_wp2
    go_ret
    refine ⟨ret_eq ?_, rfl⟩
    rw [ez.out]

theorem runzigzag_any (u : Int) (w : World) (h0 : 0 ≤ u) (h1 : u < 18446744073709551616) :
    Calls Try.prog 47 #[.int .u64 u] w fun e w' => e = .returned (.int .i64 (uz u)) ∧ w = w' := by
  by_cases hn : u % 2 = 1
  · have ez : Hid (uz u = -1 - u / 2) := by unfold uz; rw [if_pos hn]; exact rfl
    have ht : (u % 2 == 0) = false := by rw [hn]; rfl
    clear hn
    go_enter Try.func47, Try.ntmps47
    go_wp2
    go_ret
    refine ⟨ret_eq ?_, rfl⟩
    rw [ez.out]
    omega
  · have ez : Hid (uz u = u / 2) := by unfold uz; rw [if_neg hn]; exact rfl
    have ht : (u % 2 == 0) = true := by have : u % 2 = 0 := by omega
                                        rw [this]; rfl
    clear hn
    go_enter Try.func47, Try.ntmps47
    go_wp2
    go_ret
    refine ⟨ret_eq ?_, rfl⟩
    rw [ez.out]

end Go.Proofs.Ytjjeebaelpgjlaa
