/-
  CRC-32C as plain functions on numbers and lists of bytes: linear, injective, by table or bit by bit; a burst of up to 32 flipped bits changes it. No condition.
-/
import Derived.Test.YtepnegbopnepfaaFixNum
namespace Go.Proofs.Ytepnegbopnepfaa
open Go.RowKit

def poly : Nat := 0x82F63B78
/-- one bit of the register -/
def half (c : Nat) : Nat := if c % 2 = 1 then c / 2 ^^^ poly else c / 2
def halfN : Nat → Nat → Nat
  | 0, c => c
  | k + 1, c => halfN k (half c)

theorem poly_lt : poly < 2 ^ 32 := by decide
theorem xor_mod2 (a b : Nat) : (a ^^^ b) % 2 = (a % 2 + b % 2) % 2 := by
  have h := Nat.testBit_xor a b 0
  simp only [Nat.testBit_zero] at h
  have ha : a % 2 = 0 ∨ a % 2 = 1 := by omega
  have hb : b % 2 = 0 ∨ b % 2 = 1 := by omega
  have hc : (a ^^^ b) % 2 = 0 ∨ (a ^^^ b) % 2 = 1 := by omega
  rcases ha with ha | ha <;> rcases hb with hb | hb <;> rcases hc with hc | hc <;> simp [ha, hb, hc] at h ⊢
theorem xor_div2 (a b : Nat) : (a ^^^ b) / 2 = a / 2 ^^^ b / 2 := by
  have := Nat.shiftRight_xor_distrib (a := a) (b := b) (i := 1)
  simpa [Nat.shiftRight_eq_div_pow] using this

theorem half_xor (a b : Nat) : half (a ^^^ b) = half a ^^^ half b := by
  unfold half
  rw [xor_div2]
  have hm := xor_mod2 a b
  have ha : a % 2 = 0 ∨ a % 2 = 1 := by omega
  have hb : b % 2 = 0 ∨ b % 2 = 1 := by omega
  generalize a / 2 = x
  generalize b / 2 = y
  rcases ha with ha | ha <;> rcases hb with hb | hb <;> simp [ha, hb] at hm <;> simp [ha, hb, hm]
  · rw [Nat.xor_assoc]
  · rw [Nat.xor_assoc, Nat.xor_assoc, Nat.xor_comm y poly]
  · rw [Nat.xor_assoc, ← Nat.xor_assoc poly y poly, Nat.xor_comm poly y, Nat.xor_assoc y, Nat.xor_self, Nat.xor_zero]
theorem half_zero : half 0 = 0 := by decide
theorem half_double (x : Nat) : half (2 * x) = x := by
  unfold half
  rw [if_neg (by omega)]; omega
theorem half_lt {c : Nat} (h : c < 2 ^ 32) : half c < 2 ^ 32 := by
  unfold half
  split
  · exact Nat.xor_lt_two_pow (by omega) poly_lt
  · omega
theorem half_ne {c : Nat} (h : c < 2 ^ 32) (h0 : c ≠ 0) : half c ≠ 0 := by
  unfold half
  split
  · intro hx
    have h1 : c / 2 = poly := by
      have := congrArg (· ^^^ poly) hx
      simpa [Nat.xor_assoc] using this
    have h2 : poly = 2197175160 := by decide
    omega
  · omega

theorem halfN_xor : ∀ (k a b : Nat), halfN k (a ^^^ b) = halfN k a ^^^ halfN k b
  | 0, _, _ => rfl
  | k + 1, a, b => by rw [halfN, halfN, halfN, half_xor, halfN_xor k]
theorem halfN_zero : ∀ k, halfN k 0 = 0
  | 0 => rfl
  | k + 1 => by rw [halfN, half_zero, halfN_zero k]
theorem halfN_lt : ∀ (k : Nat) {c : Nat}, c < 2 ^ 32 → halfN k c < 2 ^ 32
  | 0, _, h => h
  | k + 1, _, h => halfN_lt k (half_lt h)
theorem halfN_ne : ∀ (k : Nat) {c : Nat}, c < 2 ^ 32 → c ≠ 0 → halfN k c ≠ 0
  | 0, _, _, h => h
  | k + 1, _, hc, h => halfN_ne k (half_lt hc) (half_ne hc h)
theorem halfN_shift : ∀ (k x : Nat), halfN k (2 ^ k * x) = x
  | 0, x => by simp [halfN]
  | k + 1, x => by rw [halfN, Nat.pow_succ, Nat.mul_comm (2 ^ k) 2, Nat.mul_assoc, half_double, halfN_shift k]

/-- one byte -/
def step8 (c b : Nat) : Nat := halfN 8 (c ^^^ b)
def upd (c : Nat) (l : List UInt8) : Nat := l.foldl (fun c b => step8 c b.toNat) c
def not32 (x : Nat) : Nat := 4294967295 - x
/-- P2.1 -/
def crcOf (c : Nat) (l : List UInt8) : Nat := not32 (upd (not32 c) l)

theorem step8_lt {c b : Nat} (hc : c < 2 ^ 32) (hb : b < 256) : step8 c b < 2 ^ 32 := halfN_lt 8 (Nat.xor_lt_two_pow hc (by omega))
theorem upd_lt : ∀ (l : List UInt8) {c : Nat}, c < 2 ^ 32 → upd c l < 2 ^ 32
  | [], _, h => h
  | b :: l, _, h => upd_lt l (step8_lt h b.toNat_lt)
theorem upd_append (c : Nat) (l r : List UInt8) : upd c (l ++ r) = upd (upd c l) r := List.foldl_append
theorem upd_snoc (c : Nat) (l : List UInt8) (b : UInt8) : upd c (l ++ [b]) = step8 (upd c l) b.toNat := by rw [upd_append]; rfl
theorem not32_lt (x : Nat) : not32 x < 2 ^ 32 := by unfold not32; omega
theorem not32_not32 {x : Nat} (h : x < 2 ^ 32) : not32 (not32 x) = x := by unfold not32; omega
theorem crcOf_lt (c : Nat) (l : List UInt8) : crcOf c l < 4294967296 := by unfold crcOf not32; omega
theorem not32_lt' (x : Nat) : not32 x < 4294967296 := by unfold not32; omega
theorem upd_lt' (l : List UInt8) {c : Nat} (h : c < 4294967296) : upd c l < 4294967296 := upd_lt l h
theorem crcOf_append (c : Nat) (l r : List UInt8) : crcOf c (l ++ r) = crcOf (crcOf c l) r := by
  unfold crcOf
  rw [upd_append, not32_not32 (upd_lt l (not32_lt c))]
theorem crcOf_nil {c : Nat} (hc : c < 2 ^ 32) : crcOf c [] = c := not32_not32 hc

/-- a number is its low bits and its high bits -/
theorem low_high (k x : Nat) : x = x % 2 ^ k ^^^ 2 ^ k * (x / 2 ^ k) := by
  apply Nat.eq_of_testBit_eq
  intro j
  rw [Nat.testBit_xor, Nat.testBit_mod_two_pow, Nat.testBit_two_pow_mul, Nat.testBit_div_two_pow]
  by_cases h : j < k
  · have : ¬ k ≤ j := by omega
    simp [h, this]
  · have h2 : k ≤ j := by omega
    have e : j - k + k = j := by omega
    simp [h, h2, e]

/-- by table -/
theorem step8_table {c b : Nat} (hb : b < 256) : step8 c b = halfN 8 ((c ^^^ b) % 256) ^^^ c / 256 := by
  have h := low_high 8 (c ^^^ b)
  have e : (c ^^^ b) / 2 ^ 8 = c / 256 := by
    have h1 := Nat.shiftRight_xor_distrib (a := c) (b := b) (i := 8)
    simp only [Nat.shiftRight_eq_div_pow] at h1
    rw [h1, show b / 2 ^ 8 = 0 by omega, Nat.xor_zero]
  unfold step8
  rw [e] at h
  conv => lhs; rw [h]
  rw [halfN_xor, halfN_shift]

/-! ### bit by bit -/
def ser : Nat → List Bool → Nat
  | c, [] => c
  | c, b :: l => ser (half (c ^^^ b.toNat)) l
theorem ser_append : ∀ (l r : List Bool) (c : Nat), ser c (l ++ r) = ser (ser c l) r
  | [], _, _ => rfl
  | b :: l, r, c => by rw [List.cons_append, ser, ser, ser_append l r]
def bitsN (k x : Nat) : List Bool := (List.range k).map x.testBit
theorem bitsN_length (k x : Nat) : (bitsN k x).length = k := by simp [bitsN]
theorem bitsN_succ (k x : Nat) : bitsN (k + 1) x = x.testBit 0 :: bitsN k (x / 2) := by
  unfold bitsN
  rw [List.range_succ_eq_map, List.map_cons, List.map_map]
  congr 1
  apply List.map_congr_left
  intro j _
  simp [Function.comp, Nat.testBit_succ]
theorem bit0_toNat (x : Nat) : (x.testBit 0).toNat = x % 2 := by
  rw [Nat.testBit_zero]
  have h : x % 2 = 0 ∨ x % 2 = 1 := by omega
  rcases h with h | h <;> simp [h]
theorem halfN_bits : ∀ (k c x : Nat), x < 2 ^ k → halfN k (c ^^^ x) = ser c (bitsN k x)
  | 0, c, x, h => by
    have : x = 0 := by simpa using h
    subst this; simp [halfN, bitsN, ser]
  | k + 1, c, x, h => by
    have hl := low_high 1 x
    rw [bitsN_succ, ser, bit0_toNat, halfN, ← halfN_bits k _ (x / 2) (by rw [Nat.pow_succ] at h; omega)]
    conv => lhs; rw [hl]
    simp only [Nat.pow_one]
    rw [← Nat.xor_assoc, half_xor, half_double]

theorem upd_ser : ∀ (l : List UInt8) (c : Nat), upd c l = ser c (l.flatMap fun b => bitsN 8 b.toNat)
  | [], _ => rfl
  | b :: l, c => by
    rw [List.flatMap_cons, ser_append, ← halfN_bits 8 c b.toNat b.toNat_lt]
    exact upd_ser l _

theorem ser_zeros : ∀ (k c : Nat), ser c (List.replicate k false) = halfN k c
  | 0, _ => rfl
  | k + 1, c => by
    rw [List.replicate_succ, ser, halfN, ← ser_zeros k]
    show ser (half (c ^^^ 0)) _ = _
    rw [Nat.xor_zero]
theorem bool_xor_toNat (a b : Bool) : (a ^^ b).toNat = a.toNat ^^^ b.toNat := by cases a <;> cases b <;> rfl
theorem ser_xor : ∀ (p q : List Bool) (a b : Nat), p.length = q.length → ser (a ^^^ b) (List.zipWith (· ^^ ·) p q) = ser a p ^^^ ser b q
  | [], [], _, _, _ => rfl
  | x :: p, y :: q, a, b, h => by
    rw [List.zipWith_cons_cons, ser, ser, ser, bool_xor_toNat, ← ser_xor p q _ _ (by simpa using h), ← half_xor]
    congr 2
    rw [Nat.xor_assoc, Nat.xor_assoc]
    congr 1
    rw [← Nat.xor_assoc, ← Nat.xor_assoc, Nat.xor_comm b]

/-- a burst leaves no register at 0 -/
theorem ser_burst (f m r w : Nat) (hm : m ≤ 32) (hw : w < 2 ^ m) (h0 : w ≠ 0) : ser 0 (List.replicate f false ++ bitsN m w ++ List.replicate r false) ≠ 0 := by
  have hw32 : w < 2 ^ 32 := Nat.lt_of_lt_of_le hw (Nat.pow_le_pow_right (by decide) hm)
  rw [ser_append, ser_append, ser_zeros r, ser_zeros f, halfN_zero, ← halfN_bits m 0 w hw, Nat.zero_xor]
  exact halfN_ne r (halfN_lt m hw32) (halfN_ne m hw32 h0)

/-- four bytes at once -/
theorem upd_four {c v : Nat} (hv : v < 2 ^ 32) : upd c (fixb v 4) = halfN 32 (c ^^^ v) := by
  rw [upd_ser, halfN_bits 32 c v hv]
  congr 1
  have h : ∀ j, j < 4 → bitsN 8 (UInt8.ofNat (v / 256 ^ j % 256)).toNat = (List.range 8).map fun i => v.testBit (8 * j + i) := by
    intro j _
    rw [ofNat_toNat (by omega)]
    unfold bitsN
    apply List.map_congr_left
    intro i hi
    rw [List.mem_range] at hi
    have e : (256 : Nat) ^ j = 2 ^ (8 * j) := by rw [show (256 : Nat) = 2 ^ 8 from rfl, ← Nat.pow_mul]
    rw [e, show (256 : Nat) = 2 ^ 8 from rfl, Nat.testBit_mod_two_pow, Nat.testBit_div_two_pow]
    simp [hi, Nat.add_comm]
  have e4 : fixb v 4 = [UInt8.ofNat (v / 256 ^ 0 % 256), UInt8.ofNat (v / 256 ^ 1 % 256), UInt8.ofNat (v / 256 ^ 2 % 256), UInt8.ofNat (v / 256 ^ 3 % 256)] := rfl
  rw [e4]
  simp only [List.flatMap_cons, List.flatMap_nil, List.append_nil]
  rw [h 0 (by omega), h 1 (by omega), h 2 (by omega), h 3 (by omega)]
  rfl

end Go.Proofs.Ytepnegbopnepfaa
