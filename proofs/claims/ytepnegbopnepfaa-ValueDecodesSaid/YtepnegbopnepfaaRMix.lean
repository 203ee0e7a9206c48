/-
  The reference's Mix and Unmix return 'mix' and 'unmix': for every uint64; the world is as it was.
-/
import Derived.Test.YtepnegbopnepfaaProg
import Derived.Test.YtepnegbopnepfaaMixNum
import Derived.WalkKit
namespace Go.Proofs.Ytepnegbopnepfaa
open Go.RowKit

theorem retN {k : IntKind} {a b : Int} (h : a = b) : Ending.returned (.int k a) = .returned (.int k b) := by rw [h]

set_option maxHeartbeats 400000 in
theorem rmix_any (n : Nat) (w : World) (h : n < 18446744073709551616) :
    Calls Try.prog 67 #[.int .u64 (n : Int)] w fun e w' => e = .returned (.int .u64 (mix n : Int)) ∧ w = w' := by
  go_enter Try.func67, Try.ntmps67
  go_wp2
  go_ret
  refine ⟨retN ?_, rfl⟩
  exact mix_go h

/-- 'x = n ^ x>>by', so often -/
def unsh (k n : Nat) : Nat → Nat
  | 0 => n
  | r + 1 => n ^^^ unsh k n r / 2 ^ k
theorem unsh_lt {k n : Nat} (h : n < 18446744073709551616) : ∀ r, unsh k n r < 18446744073709551616
  | 0 => h
  | r + 1 => by
    have h1 : unsh k n r / 2 ^ k < 2 ^ 64 := Nat.lt_of_le_of_lt (Nat.div_le_self _ _) (unsh_lt h r)
    exact Nat.xor_lt_two_pow (n := 64) h h1
theorem unsh_three {k n : Nat} (hk : 22 ≤ k) (h : n < 18446744073709551616) : unsh k n 3 = ux k n := by
  simp only [unsh, ux, div_xor, third_zero hk h, Nat.xor_zero]

def UnshRel (k n : Nat) (x i : Value) : Prop := ∃ r : Nat, r ≤ 3 ∧ i = .int .u64 ((r * k : Nat) : Int) ∧ x = .int .u64 (unsh k n r : Int)

end Go.Proofs.Ytepnegbopnepfaa
