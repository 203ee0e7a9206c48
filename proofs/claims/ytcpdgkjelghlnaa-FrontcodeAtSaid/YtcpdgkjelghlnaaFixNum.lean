/-
  Numbers of fixed size as plain functions on lists of bytes: 'fixb' writes, 'le' reads; what one round of each loop does. No condition.
-/
import Derived.Test.YtcpdgkjelghlnaaEncNum
namespace Go.Proofs.Ytcpdgkjelghlnaa
open Go.RowKit

def fixb (n s : Nat) : List UInt8 := (List.range s).map fun j => UInt8.ofNat (n / 256 ^ j % 256)
theorem fixb_length (n s : Nat) : (fixb n s).length = s := by simp [fixb]
theorem fixb_succ (n s : Nat) : fixb n (s + 1) = fixb n s ++ [UInt8.ofNat (n / 256 ^ s % 256)] := by simp [fixb, List.range_succ]

def fixs (n : Nat) (size : Int) : List UInt8 := if 1 ≤ size ∧ size ≤ 8 then fixb n size.toNat else []
theorem fixs_ok {n : Nat} {s : Nat} (h0 : 1 ≤ s) (h1 : s ≤ 8) : fixs n (s : Int) = fixb n s := by unfold fixs; rw [if_pos (by omega)]; simp
theorem fixs_bad {n : Nat} {size : Int} (h : size < 1 ∨ 8 < size) : fixs n size = [] := by unfold fixs; rw [if_neg (by omega)]

/-- the cells after k rounds -/
def fixRow (n s k : Nat) : List Value := (List.range s).map fun j => if j < k then .int .u8 ((n / 256 ^ j % 256 : Nat) : Int) else .int .u8 0
theorem fixRow_length (n s k : Nat) : (fixRow n s k).length = s := by simp [fixRow]
theorem fixRow_zero (n s : Nat) : (madeCells #[Value.int .u8 0] s) = (fixRow n s 0).toArray := by
  apply Array.toList_inj.1
  rw [toList_madeCells_one]
  simp [fixRow, List.map_const']
theorem fixRow_get {n s k j : Nat} (h : j < s) : (fixRow n s k)[j]? = some (if j < k then .int .u8 ((n / 256 ^ j % 256 : Nat) : Int) else .int .u8 0) := by simp [fixRow, h]
theorem fixRow_set {n s k : Nat} (h : k < s) : (fixRow n s k).set k (.int .u8 ((n / 256 ^ k % 256 : Nat) : Int)) = fixRow n s (k + 1) := by
  apply List.ext_getElem?
  intro j
  rw [List.getElem?_set]
  by_cases hj : j < s
  · rw [fixRow_get hj, fixRow_get hj, fixRow_length]
    by_cases hjk : k = j
    · subst hjk; simp [h]
    · rw [if_neg hjk]
      by_cases h2 : j < k
      · rw [if_pos h2, if_pos (by omega)]
      · rw [if_neg h2, if_neg (by omega)]
  · have h1 : (fixRow n s k)[j]? = none := List.getElem?_eq_none (by rw [fixRow_length]; omega)
    have h2 : (fixRow n s (k + 1))[j]? = none := List.getElem?_eq_none (by rw [fixRow_length]; omega)
    rw [h1, h2, if_neg (by omega)]
theorem fixRow_done (n s : Nat) : fixRow n s s = bcells (fixb n s) := by
  unfold fixRow bcells fixb
  rw [List.map_map]
  apply List.map_congr_left
  intro j hj
  rw [List.mem_range] at hj
  rw [if_pos hj]
  simp only [Function.comp]
  rw [ofNat_toNat (by omega)]

/-- the program's round: 'byte(n >> (8 * i))' -/
theorem fix_byte (n k : Nat) : IntKind.u8.wrap ((n : Int) / 2 ^ (8 * k)) = ((n / 256 ^ k % 256 : Nat) : Int) := by
  have hp : (2 : Nat) ^ (8 * k) = 256 ^ k := by rw [Nat.pow_mul]
  have e : ((n : Int) / 2 ^ (8 * k)) = ((n / 256 ^ k : Nat) : Int) := by rw [← hp]; simp
  rw [e, IntKind.wrap_u8']
  omega

def le : List UInt8 → Nat
  | [] => 0
  | c :: r => c.toNat + 256 * le r

theorem le_snoc : ∀ (l : List UInt8) (c : UInt8), le (l ++ [c]) = le l + c.toNat * 256 ^ l.length
  | [], c => by simp [le]
  | d :: l, c => by
    rw [List.cons_append, le, le, le_snoc l c, List.length_cons, Nat.pow_succ, Nat.mul_add, ← Nat.add_assoc]
    congr 1
    rw [Nat.mul_comm 256, Nat.mul_assoc]
theorem le_lt : ∀ (l : List UInt8), le l < 256 ^ l.length
  | [] => by simp [le]
  | c :: l => by
    have h := le_lt l
    have hc : c.toNat < 256 := c.toNat_lt
    rw [le, List.length_cons, Nat.pow_succ]
    omega
theorem le_lt64 {l : List UInt8} (h : l.length ≤ 8) : le l < 18446744073709551616 := by
  have h1 := le_lt l
  have h2 : 256 ^ l.length ≤ 256 ^ 8 := Nat.pow_le_pow_right (by decide) h
  have e : (256 : Nat) ^ 8 = 18446744073709551616 := by decide
  omega

theorem take_snoc' {l : List UInt8} {o k : Nat} (h : o + k < l.length) : (l.drop o).take (k + 1) = (l.drop o).take k ++ [l[o + k]] := by
  rw [List.take_succ_eq_append_getElem (by rw [List.length_drop]; omega)]
  simp

theorem le_fixb : ∀ (s n : Nat), le (fixb n s) = n % 256 ^ s
  | 0, n => by simp [fixb, le]; omega
  | s + 1, n => by
    rw [fixb_succ, le_snoc, le_fixb s n, fixb_length, ofNat_toNat (by omega)]
    rw [Nat.pow_succ, Nat.mod_mul, Nat.mul_comm (256 ^ s)]

/-- the program's round: 'n | uint64(c) << (8 * i)' -/
theorem read_or {x k : Nat} {c : UInt8} (hk : k < 8) (hx : x < 256 ^ k) :
    bits .or .u64 (x : Int) (IntKind.u64.wrap ((c.toNat : Int) * 2 ^ (8 * k))) = ((x + c.toNat * 256 ^ k : Nat) : Int) := by
  have hp : (2 : Nat) ^ (8 * k) = 256 ^ k := by rw [Nat.pow_mul]
  have hc : c.toNat < 256 := c.toNat_lt
  have h8 : 256 ^ k ≤ 256 ^ 7 := Nat.pow_le_pow_right (by decide) (by omega)
  have e7 : (256 : Nat) ^ 7 = 72057594037927936 := by decide
  have hm : c.toNat * 256 ^ k ≤ 255 * 256 ^ k := Nat.mul_le_mul_right _ (by omega)
  have e : ((c.toNat : Int) * 2 ^ (8 * k)) = ((c.toNat * 256 ^ k : Nat) : Int) := by rw [← hp]; simp
  have h2 : IntKind.u64.wrap ((c.toNat : Int) * 2 ^ (8 * k)) = ((c.toNat * 256 ^ k : Nat) : Int) := by
    rw [e, IntKind.wrap_u64]; omega
  rw [h2, u64_or_nat x _ (by omega) (by omega)]
  have hj := nat_join (8 * k) (c.toNat * 256 ^ k) x (by rw [hp]; exact Nat.mul_mod_left _ _) (by rw [hp]; exact hx)
  rw [Nat.or_comm, hj, Nat.add_comm]

def rdf (l : List UInt8) (off size : Int) : Int × Int :=
  if (size < 1 ∨ 8 < size) ∨ (off < 0 ∨ (l.length : Int) < off) then (0, 1)
  else if (l.length : Int) - off < size then (0, 2)
  else ((le ((l.drop off.toNat).take size.toNat) : Int), 0)
theorem rdf_arg {l : List UInt8} {off size : Int} (h : (size < 1 ∨ 8 < size) ∨ (off < 0 ∨ (l.length : Int) < off)) : rdf l off size = (0, 1) := by unfold rdf; rw [if_pos h]
theorem rdf_short {l : List UInt8} {off size : Int} (h : ¬ ((size < 1 ∨ 8 < size) ∨ (off < 0 ∨ (l.length : Int) < off))) (h2 : (l.length : Int) - off < size) : rdf l off size = (0, 2) := by
  unfold rdf; rw [if_neg h, if_pos h2]
theorem rdf_ok {l : List UInt8} {o s : Nat} (h0 : 1 ≤ s) (h1 : s ≤ 8) (h2 : o + s ≤ l.length) : rdf l (o : Int) (s : Int) = ((le ((l.drop o).take s) : Int), 0) := by
  unfold rdf; rw [if_neg (by omega), if_neg (by omega)]; simp

end Go.Proofs.Ytcpdgkjelghlnaa
