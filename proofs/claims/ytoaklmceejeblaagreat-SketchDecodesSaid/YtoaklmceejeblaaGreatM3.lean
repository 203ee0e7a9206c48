/-
  Texts that the claims of this seat share, put together (EncNum, BpNum3, FixNum, CrcNum, HashNum). No condition.
-/
import Derived.Test.YtoaklmceejeblaaGreatM1
import Derived.Lib.BitFns
/-
  Shaken: what the claims of this seat need of this text. No condition.
-/
namespace Go.Proofs.YtoaklmceejeblaaGreat
set_option maxRecDepth 8000
open Go.RowKit
def encF : Nat → Nat → List UInt8
  | 0, _ => []
  | f + 1, n => if n < 128 then [UInt8.ofNat n] else UInt8.ofNat (128 + n % 128) :: encF f (n / 128)
def enc (n : Nat) : List UInt8 := encF 10 n
theorem bitLen_bd {n : Nat} (h : n < 18446744073709551616) : Lib.bitLen n ≤ 64 := Lib.bitLen_le n 64 (by omega) (by omega)
end Go.Proofs.YtoaklmceejeblaaGreat
/-
  Shaken: what the claims of this seat need of this text. No condition.
-/
namespace Go.Proofs.YtoaklmceejeblaaGreat
set_option maxRecDepth 8000
set_option linter.unusedVariables false
set_option linter.unusedSimpArgs false
def U64 (l : List Nat) : Prop := ∀ x ∈ l, x < 18446744073709551616
theorem U64.take {l : List Nat} (h : U64 l) (k : Nat) : U64 (l.take k) := fun x hx => h x (List.mem_of_mem_take hx)
theorem U64.get {l : List Nat} (h : U64 l) {k : Nat} (hk : k < l.length) : l[k] < 18446744073709551616 := h _ (List.getElem_mem hk)
end Go.Proofs.YtoaklmceejeblaaGreat
/-
  Shaken: what the claims of this seat need of this text. No condition.
-/
namespace Go.Proofs.YtoaklmceejeblaaGreat
set_option maxRecDepth 8000
open Go.RowKit
def le : List UInt8 → Nat
  | [] => 0
  | c :: r => c.toNat + 256 * le r
theorem le_snoc : ∀ (l : List UInt8) (c : UInt8), le (l ++ [c]) = le l + c.toNat * 256 ^ l.length
  | [], c => by simp [le]
  | d :: l, c => by
    rw [List.cons_append, le, le, le_snoc l c, List.length_cons, Nat.pow_succ, Nat.mul_add, ← Nat.add_assoc]
    congr 1
    rw [Nat.mul_comm 256, Nat.mul_assoc]
theorem le_lt : ∀ (l : List UInt8), le l < 256 ^ l.length
  | [] => by simp [le]
  | c :: l => by
    have h := le_lt l
    have hc : c.toNat < 256 := c.toNat_lt
    rw [le, List.length_cons, Nat.pow_succ]
    omega
theorem le_lt64 {l : List UInt8} (h : l.length ≤ 8) : le l < 18446744073709551616 := by
  have h1 := le_lt l
  have h2 : 256 ^ l.length ≤ 256 ^ 8 := Nat.pow_le_pow_right (by decide) h
  have e : (256 : Nat) ^ 8 = 18446744073709551616 := by decide
  omega
theorem read_or {x k : Nat} {c : UInt8} (hk : k < 8) (hx : x < 256 ^ k) :
    bits .or .u64 (x : Int) (IntKind.u64.wrap ((c.toNat : Int) * 2 ^ (8 * k))) = ((x + c.toNat * 256 ^ k : Nat) : Int) := by
  have hp : (2 : Nat) ^ (8 * k) = 256 ^ k := by rw [Nat.pow_mul]
  have hc : c.toNat < 256 := c.toNat_lt
  have h8 : 256 ^ k ≤ 256 ^ 7 := Nat.pow_le_pow_right (by decide) (by omega)
  have e7 : (256 : Nat) ^ 7 = 72057594037927936 := by decide
  have hm : c.toNat * 256 ^ k ≤ 255 * 256 ^ k := Nat.mul_le_mul_right _ (by omega)
  have e : ((c.toNat : Int) * 2 ^ (8 * k)) = ((c.toNat * 256 ^ k : Nat) : Int) := by rw [← hp]; simp
  have h2 : IntKind.u64.wrap ((c.toNat : Int) * 2 ^ (8 * k)) = ((c.toNat * 256 ^ k : Nat) : Int) := by
    rw [e, IntKind.wrap_u64]; omega
  rw [h2, u64_or_nat x _ (by omega) (by omega)]
  have hj := nat_join (8 * k) (c.toNat * 256 ^ k) x (by rw [hp]; exact Nat.mul_mod_left _ _) (by rw [hp]; exact hx)
  rw [Nat.or_comm, hj, Nat.add_comm]
end Go.Proofs.YtoaklmceejeblaaGreat
/-
  Shaken: what the claims of this seat need of this text. No condition.
-/
namespace Go.Proofs.YtoaklmceejeblaaGreat
set_option maxRecDepth 8000
open Go.RowKit
end Go.Proofs.YtoaklmceejeblaaGreat
/-
  Shaken: what the claims of this seat need of this text. No condition.
-/
namespace Go.Proofs.YtoaklmceejeblaaGreat
set_option maxRecDepth 8000
open Go.RowKit
def hashL : Nat → Nat → List UInt8 → Nat
  | 0, h, _ => h
  | f + 1, h, l => if l = [] then h else hashL f (mix (h ^^^ le (l.take 8))) (l.drop 8)
def hashOf (seed : Nat) (l : List UInt8) : Nat := hashL l.length (mix (seed ^^^ l.length)) l
theorem hashL_nil : ∀ (f h : Nat), hashL f h [] = h
  | 0, _ => rfl
  | f + 1, h => by rw [hashL, if_pos rfl]
theorem hashL_cons {f h : Nat} {l : List UInt8} (hl : l ≠ []) : hashL (f + 1) h l = hashL f (mix (h ^^^ le (l.take 8))) (l.drop 8) := by rw [hashL, if_neg hl]
theorem hashL_lt : ∀ (f h : Nat) (l : List UInt8), h < 18446744073709551616 → hashL f h l < 18446744073709551616
  | 0, _, _, hh => hh
  | f + 1, h, l, hh => by
    rw [hashL]
    split
    · exact hh
    · exact hashL_lt f _ _ mix_lt
theorem le8_lt (l : List UInt8) : le (l.take 8) < 18446744073709551616 := le_lt64 (by rw [List.length_take]; omega)
end Go.Proofs.YtoaklmceejeblaaGreat
