/-
  The decoding of a varint as a plain function on lists of bytes ('dec'), and what the program's and the reference's arithmetic do in one round. No condition.
-/
import Derived.Test.YtcpdgkjelghlnaaWords
namespace Go.Proofs.Ytcpdgkjelghlnaa
open Go.RowKit

/-- (number, bytes taken, error): byte i is the next one, n is what the bytes before it say -/
def dec : Nat → Nat → List UInt8 → Nat × Nat × Nat
  | _, _, [] => (0, 0, 2)
  | i, n, c :: r =>
    if (i = 9 ∧ 1 < c.toNat) ∨ (0 < i ∧ c.toNat = 0) then (0, 0, 4)
    else if c.toNat < 128 then (n + c.toNat % 128 * 128 ^ i, i + 1, 0)
    else dec (i + 1) (n + c.toNat % 128 * 128 ^ i) r

def dcd (l : List UInt8) (off : Int) : Int × Int × Int :=
  if off < 0 ∨ (l.length : Int) < off then (0, 0, 1)
  else match dec 0 0 (l.drop off.toNat) with
    | (n, k, e) => ((n : Int), if e = 0 then off + k else 0, (e : Int))

theorem dcd_bad {l : List UInt8} {off : Int} (h : off < 0 ∨ (l.length : Int) < off) : dcd l off = (0, 0, 1) := by unfold dcd; rw [if_pos h]
theorem dcd_ok {l : List UInt8} {off : Int} (h : ¬ (off < 0 ∨ (l.length : Int) < off)) {n k e : Nat} (hd : dec 0 0 (l.drop off.toNat) = (n, k, e)) :
    dcd l off = ((n : Int), if e = 0 then off + k else 0, (e : Int)) := by unfold dcd; rw [if_neg h, hd]

theorem dec_end (i n : Nat) : dec i n [] = (0, 0, 2) := rfl
theorem dec_bad {i n : Nat} {c : UInt8} {r : List UInt8} (h : (i = 9 ∧ 1 < c.toNat) ∨ (0 < i ∧ c.toNat = 0)) : dec i n (c :: r) = (0, 0, 4) := by
  rw [dec, if_pos h]
theorem dec_last {i n : Nat} {c : UInt8} {r : List UInt8} (h : ¬ ((i = 9 ∧ 1 < c.toNat) ∨ (0 < i ∧ c.toNat = 0))) (hc : c.toNat < 128) :
    dec i n (c :: r) = (n + c.toNat % 128 * 128 ^ i, i + 1, 0) := by rw [dec, if_neg h, if_pos hc]
theorem dec_more {i n : Nat} {c : UInt8} {r : List UInt8} (h : ¬ ((i = 9 ∧ 1 < c.toNat) ∨ (0 < i ∧ c.toNat = 0))) (hc : ¬ c.toNat < 128) :
    dec i n (c :: r) = dec (i + 1) (n + c.toNat % 128 * 128 ^ i) r := by rw [dec, if_neg h, if_neg hc]

theorem pow_step (i : Nat) : 128 ^ (i + 1) = 128 ^ i * 128 := Nat.pow_succ ..
theorem pow_le {i : Nat} (h : i ≤ 8) : 128 ^ i ≤ 128 ^ 8 := Nat.pow_le_pow_right (by decide) h

/-- what has been read so far fits -/
theorem sum_lt {i n c : Nat} (hn : n < 128 ^ i) : n + c % 128 * 128 ^ i < 128 ^ (i + 1) := by
  rw [pow_step]
  have h1 : c % 128 ≤ 127 := by omega
  have h2 : c % 128 * 128 ^ i ≤ 127 * 128 ^ i := Nat.mul_le_mul_right _ h1
  omega

theorem sum_lt64 {i n c : Nat} (hi : i ≤ 9) (hn : n < 128 ^ i) (hc : i = 9 → c ≤ 1) : n + c % 128 * 128 ^ i < 18446744073709551616 := by
  by_cases h9 : i = 9
  · subst h9
    have := hc rfl
    have e : (128 : Nat) ^ 9 = 9223372036854775808 := by decide
    rw [e] at hn ⊢
    have h1 : c % 128 ≤ 1 := by omega
    have h2 : c % 128 * 9223372036854775808 ≤ 1 * 9223372036854775808 := Nat.mul_le_mul_right _ h1
    omega
  · have h1 := sum_lt (c := c) hn
    have h2 : 128 ^ (i + 1) ≤ 128 ^ 9 := Nat.pow_le_pow_right (by decide) (by omega)
    have e : (128 : Nat) ^ 9 = 9223372036854775808 := by decide
    omega

/-- the program's round: 'n | uint64(c &^ 0x80) << (7 * i)' -/
theorem round_or {i n : Nat} {c : UInt8} (hi : i ≤ 9) (hn : n < 128 ^ i) (hc : i = 9 → c.toNat ≤ 1) :
    bits .or .u64 (n : Int) (IntKind.u64.wrap (IntKind.u64.wrap (bits .andNot .u8 (c.toNat : Int) 128) * 2 ^ (7 * i))) = ((n + c.toNat % 128 * 128 ^ i : Nat) : Int) := by
  have hcl : c.toNat < 256 := c.toNat_lt
  have h1 : bits .andNot .u8 (c.toNat : Int) 128 = ((c.toNat % 128 : Nat) : Int) := by
    have := u8_andNot_nat c.toNat 128 (by omega) (by omega)
    rw [show ((128 : Nat) : Int) = 128 from rfl] at this
    rw [this, nat_mask7]
  have hs := sum_lt64 hi hn hc
  have hp : (2 : Nat) ^ (7 * i) = 128 ^ i := by rw [Nat.pow_mul]
  have h2 : IntKind.u64.wrap (IntKind.u64.wrap (bits .andNot .u8 (c.toNat : Int) 128) * 2 ^ (7 * i)) = ((c.toNat % 128 * 128 ^ i : Nat) : Int) := by
    have hw : IntKind.u64.wrap ((c.toNat % 128 : Nat) : Int) = ((c.toNat % 128 : Nat) : Int) := by rw [IntKind.wrap_u64]; omega
    rw [h1, hw, IntKind.wrap_u64]
    have e : (((c.toNat % 128 : Nat) : Int) * 2 ^ (7 * i)) = ((c.toNat % 128 * 128 ^ i : Nat) : Int) := by
      rw [← hp]; simp
    rw [e]
    omega
  rw [h2]
  have hn64 : n < 18446744073709551616 := by omega
  rw [u64_or_nat n _ hn64 (by omega)]
  have hj := nat_join (7 * i) (c.toNat % 128 * 128 ^ i) n (by rw [hp]; exact Nat.mul_mod_left _ _) (by rw [hp]; exact hn)
  rw [Nat.or_comm, hj, Nat.add_comm]

/-- the reference's round: 'n + uint64(c % 128) * unit' -/
theorem round_add {i n p : Nat} {c : UInt8} (hi : i ≤ 9) (hn : n < 128 ^ i) (hc : i = 9 → c.toNat ≤ 1) (hp : p = 128 ^ i) :
    IntKind.u64.wrap ((n : Int) + IntKind.u64.wrap ((c.toNat : Int) % 128 * (p : Int))) = ((n + c.toNat % 128 * 128 ^ i : Nat) : Int) := by
  have hs := sum_lt64 hi hn hc
  rw [hp, IntKind.wrap_u64, IntKind.wrap_u64]
  have e : ((c.toNat : Int) % 128 * ((128 ^ i : Nat) : Int)) = ((c.toNat % 128 * 128 ^ i : Nat) : Int) := by
    rw [Int.natCast_mul, Int.natCast_emod]; rfl
  rw [e]
  omega

theorem unit_step {p : Nat} (hp : p ≤ 72057594037927936) : IntKind.u64.wrap ((p : Int) * 128) = ((p * 128 : Nat) : Int) := by
  rw [IntKind.wrap_u64]; omega

end Go.Proofs.Ytcpdgkjelghlnaa
