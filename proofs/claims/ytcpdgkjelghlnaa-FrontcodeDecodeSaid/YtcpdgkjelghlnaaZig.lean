/-
  varint.ZigZag, varint.UnZigZag and the reference's ZigZag, UnZigZag return zz and uz: for every argument, and the world is as it was.
-/
import Derived.Test.YtcpdgkjelghlnaaProg
import Derived.Test.YtcpdgkjelghlnaaNum
import Derived.WalkKit
namespace Go.Proofs.Ytcpdgkjelghlnaa
open Go.RowKit

def zz (n : Int) : Int := if n < 0 then -2 * n - 1 else 2 * n
def uz (u : Int) : Int := if u % 2 = 1 then -1 - u / 2 else u / 2

theorem zz_bd (n : Int) (h0 : -9223372036854775808 ≤ n) (h1 : n < 9223372036854775808) : 0 ≤ zz n ∧ zz n < 18446744073709551616 := by unfold zz; split <;> omega
theorem uz_bd (u : Int) (h0 : 0 ≤ u) (h1 : u < 18446744073709551616) : -9223372036854775808 ≤ uz u ∧ uz u < 9223372036854775808 := by unfold uz; split <;> omega
theorem uz_zz (n : Int) : uz (zz n) = n := by unfold uz zz; split <;> split <;> omega
theorem zz_uz (u : Int) (h0 : 0 ≤ u) : zz (uz u) = u := by unfold uz zz; split <;> split <;> omega
theorem zz_lt (n m : Int) (h : (m < n ∧ 0 ≤ m) ∨ (n < m ∧ m < 0)) : zz m < zz n := by unfold zz; split <;> split <;> omega

theorem ret_eq {k : IntKind} {a b : Int} (h : a = b) : Ending.returned (.int k a) = .returned (.int k b) := by rw [h]

theorem shl1_neg (n : Int) (h0 : -9223372036854775808 ≤ n) (h1 : n < 0) : IntKind.u64.wrap (IntKind.u64.wrap n * 2) = 18446744073709551616 + 2 * n := by
  rw [IntKind.wrap_u64, IntKind.wrap_u64]; omega

end Go.Proofs.Ytcpdgkjelghlnaa
