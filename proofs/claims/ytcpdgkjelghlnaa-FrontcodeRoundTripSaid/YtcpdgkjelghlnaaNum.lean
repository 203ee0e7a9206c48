/-
  Plain facts on integers: what Go's bit operations on uint64, uint8 and int64 give, in sums and quotients. No condition beyond the bounds in each statement.
-/
import Derived.WalkKit
import Derived.Laws.BitsAll
namespace Go.Proofs.Ytcpdgkjelghlnaa
open Go.RowKit

/-- a fact put away from the walk's rules -/
theorem hidden {p : Prop} (h : p) : Hid p := h

theorem retU {k : IntKind} {a b : Int} (h : a = b) : Ending.returned (.int k a) = .returned (.int k b) := by rw [h]
theorem retB {a b : Bool} (h : a = b) : Ending.returned (.bool a) = .returned (.bool b) := by rw [h]

theorem pow64 : (2:Int)^64 = 18446744073709551616 := by decide

/-- '^x' on a uint64 -/
theorem not_u64 (x : Int) (h0 : 0 ≤ x) (h1 : x < 18446744073709551616) : bits .xor .u64 IntKind.u64.max x = 18446744073709551615 - x := by
  obtain ⟨X, rfl⟩ := Int.eq_ofNat_of_zero_le h0
  have hX : X < 18446744073709551616 := by omega
  have e : IntKind.u64.max = ((18446744073709551615 : Nat) : Int) := by decide
  have hx : (BitVec.ofInt 64 (X : Int)) = BitVec.ofNat 64 X := BitVec.ofInt_natCast ..
  rw [e]
  show IntKind.u64.wrap ((BitVec.ofInt 64 ((18446744073709551615 : Nat) : Int) ^^^ BitVec.ofInt 64 (X : Int)).toNat : Int) = _
  have ha : BitVec.ofInt 64 ((18446744073709551615 : Nat) : Int) = BitVec.allOnes 64 := by decide
  rw [ha, BitVec.allOnes_xor, BitVec.toNat_not, ofInt_u64 X hX, IntKind.wrap_u64]
  have : (2:Nat)^64 = 18446744073709551616 := by decide
  omega

/-- '^x' on an int64 that is not negative -/
theorem not_i64 (x : Int) (h0 : 0 ≤ x) (h1 : x < 9223372036854775808) : bits .xor .i64 (-1) x = -1 - x := by
  obtain ⟨X, rfl⟩ := Int.eq_ofNat_of_zero_le h0
  have hX : X < 18446744073709551616 := by omega
  show IntKind.i64.wrap ((BitVec.ofInt 64 (-1) ^^^ BitVec.ofInt 64 (X : Int)).toNat : Int) = _
  have ha : BitVec.ofInt 64 (-1) = BitVec.allOnes 64 := by decide
  rw [ha, BitVec.allOnes_xor, BitVec.toNat_not, ofInt_u64 X hX]
  have : (2:Nat)^64 = 18446744073709551616 := by decide
  rw [IntKind.wrap_i64]
  omega

theorem and1_u64 (x : Int) (h0 : 0 ≤ x) (h1 : x < 18446744073709551616) : bits .and .u64 x 1 = x % 2 := by
  rw [u64_and x 1 h0 h1 (by decide) (by decide)]
  obtain ⟨X, rfl⟩ := Int.eq_ofNat_of_zero_le h0
  have : (1 : Int).toNat = 1 := rfl
  rw [this, Int.toNat_natCast, nat_mask1]
  omega

end Go.Proofs.Ytcpdgkjelghlnaa
