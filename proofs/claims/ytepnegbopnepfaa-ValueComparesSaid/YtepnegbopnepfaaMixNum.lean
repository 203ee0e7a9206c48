/-
  The mixing function on 64-bit numbers and its inverse, as plain functions; Go's xor with a shifted self in their words. No condition beyond x < 2^64.
-/
import Derived.Test.YtepnegbopnepfaaNum
namespace Go.Proofs.Ytepnegbopnepfaa
open Go.RowKit

def xs (k x : Nat) : Nat := x ^^^ x / 2 ^ k
def M64 : Nat := 18446744073709551616
def mul64 (x c : Nat) : Nat := x * c % 18446744073709551616
def mix (n : Nat) : Nat := xs 31 (mul64 (xs 27 (mul64 (xs 30 n) 0xBF58476D1CE4E5B9)) 0x94D049BB133111EB)
/-- the inverse of xs k where 3 * k is at least 64 -/
def ux (k x : Nat) : Nat := x ^^^ (x / 2 ^ k ^^^ x / 2 ^ k / 2 ^ k)
def unmix (n : Nat) : Nat := ux 30 (mul64 (ux 27 (mul64 (ux 31 n) 0x319642B2D24D8EC3)) 0x96DE1B173F119089)

theorem div_xor (k a b : Nat) : (a ^^^ b) / 2 ^ k = a / 2 ^ k ^^^ b / 2 ^ k := by
  have h := Nat.shiftRight_xor_distrib (a := a) (b := b) (i := k)
  simpa only [Nat.shiftRight_eq_div_pow] using h
theorem xs_lt {k x : Nat} (h : x < 18446744073709551616) : xs k x < 18446744073709551616 := by
  have h1 : x / 2 ^ k < 2 ^ 64 := Nat.lt_of_le_of_lt (Nat.div_le_self _ _) h
  exact Nat.xor_lt_two_pow (n := 64) h h1
theorem ux_lt {k x : Nat} (h : x < 18446744073709551616) : ux k x < 18446744073709551616 := by
  have h1 : x / 2 ^ k < 2 ^ 64 := Nat.lt_of_le_of_lt (Nat.div_le_self _ _) h
  have h2 : x / 2 ^ k / 2 ^ k < 2 ^ 64 := Nat.lt_of_le_of_lt (Nat.div_le_self _ _) h1
  exact Nat.xor_lt_two_pow (n := 64) h (Nat.xor_lt_two_pow h1 h2)
theorem mul64_lt (x c : Nat) : mul64 x c < 18446744073709551616 := Nat.mod_lt _ (by decide)
theorem mix_lt {n : Nat} : mix n < 18446744073709551616 := xs_lt (mul64_lt _ _)
theorem unmix_lt {n : Nat} : unmix n < 18446744073709551616 := ux_lt (mul64_lt _ _)

theorem third_zero {k x : Nat} (hk : 22 ≤ k) (h : x < 18446744073709551616) : x / 2 ^ k / 2 ^ k / 2 ^ k = 0 := by
  rw [Nat.div_div_eq_div_mul, Nat.div_div_eq_div_mul, ← Nat.pow_add, ← Nat.pow_add]
  apply Nat.div_eq_of_lt
  have : 2 ^ 64 ≤ 2 ^ (k + (k + k)) := Nat.pow_le_pow_right (by decide) (by omega)
  omega
theorem ux_xs {k x : Nat} (hk : 22 ≤ k) (h : x < 18446744073709551616) : ux k (xs k x) = x := by
  unfold ux xs
  rw [div_xor, div_xor, third_zero hk h, Nat.xor_zero]
  generalize x / 2 ^ k = y
  generalize y / 2 ^ k = z
  rw [Nat.xor_assoc y z z, Nat.xor_self, Nat.xor_zero, Nat.xor_assoc, Nat.xor_self, Nat.xor_zero]
theorem xs_ux {k x : Nat} (hk : 22 ≤ k) (h : x < 18446744073709551616) : xs k (ux k x) = x := by
  unfold ux xs
  rw [div_xor, div_xor, third_zero hk h, Nat.xor_zero]
  generalize x / 2 ^ k = y
  generalize y / 2 ^ k = z
  rw [Nat.xor_assoc x, Nat.xor_self, Nat.xor_zero]
theorem mul_inv {x a b : Nat} (h : x < 18446744073709551616) (hab : a * b % 18446744073709551616 = 1) : mul64 (mul64 x a) b = x := by
  unfold mul64
  rw [Nat.mod_mul_mod, Nat.mul_assoc, Nat.mul_mod, hab, Nat.mul_one, Nat.mod_mod]
  exact Nat.mod_eq_of_lt h

theorem unmix_mix {n : Nat} (h : n < 18446744073709551616) : unmix (mix n) = n := by
  unfold unmix mix
  rw [ux_xs (by decide) (mul64_lt _ _), mul_inv (xs_lt (mul64_lt _ _)) (by decide), ux_xs (by decide) (mul64_lt _ _), mul_inv (xs_lt h) (by decide), ux_xs (by decide) h]
theorem mix_unmix {n : Nat} (h : n < 18446744073709551616) : mix (unmix n) = n := by
  unfold unmix mix
  rw [xs_ux (by decide) (mul64_lt _ _), mul_inv (ux_lt (mul64_lt _ _)) (by decide), xs_ux (by decide) (mul64_lt _ _), mul_inv (ux_lt h) (by decide), xs_ux (by decide) h]

/-- Go's 'n ^ n>>k' -/
theorem go_xs (k : Nat) {x : Nat} (h : x < 18446744073709551616) (y : Int) (hy : y = ((x / 2 ^ k : Nat) : Int)) : bits .xor .u64 (x : Int) y = (xs k x : Int) := by
  subst hy
  exact bits_xor_u64_nat _ _ h (Nat.lt_of_le_of_lt (Nat.div_le_self _ _) h)

/-- Go's product of two uint64 -/
theorem go_mul (x c : Nat) (C : Int) (hC : C = (c : Int)) : IntKind.u64.wrap ((x : Int) * C) = (mul64 x c : Int) := by
  subst hC
  rw [IntKind.wrap_u64]
  unfold mul64
  rw [Int.natCast_emod, Int.natCast_mul]
  rfl
theorem div_cast (x k : Nat) (K : Int) (hK : K = ((2 ^ k : Nat) : Int)) : (x : Int) / K = ((x / 2 ^ k : Nat) : Int) := by
  subst hK; exact (Int.natCast_ediv x (2 ^ k)).symm

theorem mix_go {n : Nat} (h : n < 18446744073709551616) :
    bits .xor .u64 (IntKind.u64.wrap (bits .xor .u64 (IntKind.u64.wrap (bits .xor .u64 (n : Int) ((n : Int) / 1073741824) * 13787848793156543929)) (IntKind.u64.wrap (bits .xor .u64 (n : Int) ((n : Int) / 1073741824) * 13787848793156543929) / 134217728) * 10723151780598845931))
      (IntKind.u64.wrap (bits .xor .u64 (IntKind.u64.wrap (bits .xor .u64 (n : Int) ((n : Int) / 1073741824) * 13787848793156543929)) (IntKind.u64.wrap (bits .xor .u64 (n : Int) ((n : Int) / 1073741824) * 13787848793156543929) / 134217728) * 10723151780598845931) / 2147483648) = (mix n : Int) := by
  rw [go_xs 30 h _ (div_cast n 30 _ (by decide)), go_mul (xs 30 n) 0xBF58476D1CE4E5B9 _ (by decide), go_xs 27 (mul64_lt _ _) _ (div_cast _ 27 _ (by decide)), go_mul _ 0x94D049BB133111EB _ (by decide), go_xs 31 (mul64_lt _ _) _ (div_cast _ 31 _ (by decide))]
  rfl

end Go.Proofs.Ytepnegbopnepfaa
