/-
  Bit packing over lists: a number out of its bits, the packed bytes, the numbers unpacked, inverses. Arithmetic and lists; no walk.
-/
import Derived.Test.YtjjeebaelpgjlaaNum
namespace Go.Proofs.Ytjjeebaelpgjlaa
set_option linter.unusedVariables false
set_option linter.unusedSimpArgs false

/-- the number whose bit k is f k, for k below n -/
def natOf (f : Nat → Bool) : Nat → Nat
  | 0 => 0
  | n + 1 => natOf f n + (if f n then 2 ^ n else 0)
theorem natOf_lt (f : Nat → Bool) : ∀ n, natOf f n < 2 ^ n
  | 0 => by simp [natOf]
  | n + 1 => by
    have ih := natOf_lt f n
    rw [natOf, Nat.pow_succ]
    split <;> omega
theorem natOf_testBit (f : Nat → Bool) : ∀ n k, (natOf f n).testBit k = (decide (k < n) && f k)
  | 0, k => by simp [natOf]
  | n + 1, k => by
    have ih := natOf_testBit f n
    have hlt := natOf_lt f n
    rw [natOf]
    by_cases hf : f n = true
    · rw [if_pos hf, Nat.add_comm]
      rcases Nat.lt_trichotomy k n with h | h | h
      · rw [Nat.testBit_two_pow_add_gt h, ih k]
        have e1 : decide (k < n) = true := by simpa using h
        have e2 : decide (k < n + 1) = true := by simp; omega
        rw [e1, e2]
      · subst h
        rw [Nat.testBit_two_pow_add_eq, Nat.testBit_lt_two_pow hlt, hf]
        simp
      · have h2 : 2 ^ n + natOf f n < 2 ^ k := by
          have h3 : 2 ^ n + natOf f n < 2 ^ (n + 1) := by rw [Nat.pow_succ]; omega
          exact Nat.lt_of_lt_of_le h3 (Nat.pow_le_pow_right (by decide) h)
        rw [Nat.testBit_lt_two_pow h2]
        have e2 : decide (k < n + 1) = false := by simp; omega
        rw [e2, Bool.false_and]
    · rw [if_neg hf, Nat.add_zero, ih k]
      rcases Nat.lt_trichotomy k n with h | h | h
      · have e1 : decide (k < n) = true := by simpa using h
        have e2 : decide (k < n + 1) = true := by simp; omega
        rw [e1, e2]
      · subst h
        simp [hf]
      · have e1 : decide (k < n) = false := by simp; omega
        have e2 : decide (k < n + 1) = false := by simp; omega
        rw [e1, e2]
theorem natOf_congr {f g : Nat → Bool} : ∀ n, (∀ k, k < n → f k = g k) → natOf f n = natOf g n
  | 0, _ => rfl
  | n + 1, h => by rw [natOf, natOf, natOf_congr n (fun k hk => h k (by omega)), h n (by omega)]
theorem natOf_bits (x : Nat) (n : Nat) : natOf x.testBit n = x % 2 ^ n := by
  apply Nat.eq_of_testBit_eq
  intro k
  rw [natOf_testBit, Nat.testBit_mod_two_pow]
theorem natOf_self {x n : Nat} (h : x < 2 ^ n) : natOf x.testBit n = x := by rw [natOf_bits, Nat.mod_eq_of_lt h]
/-- Size for arguments in range -/
def szB (n w : Nat) : Nat := (n * w + 7) / 8
theorem szB_le {n w : Nat} (hn : n ≤ 1048576) (hw : w ≤ 64) : szB n w ≤ 8388608 := by
  unfold szB
  have : n * w ≤ 1048576 * 64 := Nat.mul_le_mul hn hw
  omega
/-- bit i of the stream of the values -/
def vbit (l : List Nat) (w i : Nat) : Bool := decide (i < l.length * w) && (l.getD (i / w) 0).testBit (i % w)
def packL (l : List Nat) (w : Nat) : List UInt8 := (List.range (szB l.length w)).map fun j => UInt8.ofNat (natOf (fun k => vbit l w (8 * j + k)) 8)
/-- bit i of the bytes -/
def bbit (b : List UInt8) (i : Nat) : Bool := (b.getD (i / 8) 0).toNat.testBit (i % 8)
/-- the number with index i -/
def numB (b : List UInt8) (w i : Nat) : Nat := natOf (fun k => bbit b (i * w + k)) w
def unpL (b : List UInt8) (n w : Nat) : List Nat := (List.range n).map (numB b w)
theorem packL_length (l : List Nat) (w : Nat) : (packL l w).length = szB l.length w := by simp [packL]
theorem unpL_length (b : List UInt8) (n w : Nat) : (unpL b n w).length = n := by simp [unpL]
theorem unpL_get {b : List UInt8} {n w i : Nat} (h : i < n) : (unpL b n w)[i]? = some (numB b w i) := by
  unfold unpL
  rw [List.getElem?_map, List.getElem?_range h]
  rfl
theorem packL_get {l : List Nat} {w j : Nat} (h : j < szB l.length w) : (packL l w)[j]? = some (UInt8.ofNat (natOf (fun k => vbit l w (8 * j + k)) 8)) := by
  unfold packL
  rw [List.getElem?_map, List.getElem?_range h]
  rfl
theorem byte_natOf (f : Nat → Bool) : (UInt8.ofNat (natOf f 8)).toNat = natOf f 8 := by
  rw [UInt8.toNat_ofNat']
  exact Nat.mod_eq_of_lt (natOf_lt f 8)
theorem bbit_pack {l : List Nat} {w i : Nat} (h : i < l.length * w) : bbit (packL l w) i = vbit l w i := by
  have hj : i / 8 < szB l.length w := by unfold szB; omega
  unfold bbit
  rw [List.getD_eq_getElem?_getD, packL_get hj, Option.getD_some, byte_natOf, natOf_testBit]
  have e1 : decide (i % 8 < 8) = true := by simp; omega
  rw [e1, Bool.true_and, show 8 * (i / 8) + i % 8 = i by omega]
theorem bbit_pack_out {l : List Nat} {w i : Nat} (h : l.length * w ≤ i) : bbit (packL l w) i = false := by
  unfold bbit
  by_cases hj : i / 8 < szB l.length w
  · rw [List.getD_eq_getElem?_getD, packL_get hj, Option.getD_some, byte_natOf, natOf_testBit, show 8 * (i / 8) + i % 8 = i by omega]
    unfold vbit
    have e1 : decide (i < l.length * w) = false := by simp; omega
    rw [e1, Bool.false_and, Bool.and_false]
  · rw [List.getD_eq_getElem?_getD, List.getElem?_eq_none (by rw [packL_length]; omega)]
    simp
theorem stream_div {w i k : Nat} (h : k < w) : (i * w + k) / w = i ∧ (i * w + k) % w = k := by
  have hw : 0 < w := by omega
  rw [Nat.mul_comm i w]
  exact ⟨by rw [Nat.mul_add_div hw, Nat.div_eq_of_lt h, Nat.add_zero], by rw [Nat.mul_add_mod, Nat.mod_eq_of_lt h]⟩
theorem stream_lt {n w i k : Nat} (hi : i < n) (h : k < w) : i * w + k < n * w := by
  have : (i + 1) * w ≤ n * w := Nat.mul_le_mul_right w hi
  rw [Nat.succ_mul] at this
  omega
/-- unpacking what was packed gives each value modulo 2^w -/
theorem numB_pack {l : List Nat} {w i : Nat} (hi : i < l.length) : numB (packL l w) w i = l.getD i 0 % 2 ^ w := by
  unfold numB
  rw [← natOf_bits]
  refine natOf_congr w fun k hk => ?_
  obtain ⟨d1, d2⟩ := stream_div (i := i) hk
  rw [bbit_pack (stream_lt hi hk)]
  unfold vbit
  have e1 : decide (i * w + k < l.length * w) = true := by simpa using stream_lt hi hk
  rw [e1, Bool.true_and, d1, d2]
/-- bytes whose unused bits are 0 are packed to themselves -/
theorem packL_unpL {b : List UInt8} {n w : Nat} (hb : b.length = szB n w) (hz : ∀ i, n * w ≤ i → i < 8 * b.length → bbit b i = false) : packL (unpL b n w) w = b := by
  apply List.ext_getElem?
  intro j
  by_cases hj : j < b.length
  · rw [packL_get (by rw [unpL_length, ← hb]; exact hj), List.getElem?_eq_getElem hj]
    congr 1
    have e : natOf (fun k => vbit (unpL b n w) w (8 * j + k)) 8 = (b[j]).toNat := by
      rw [← natOf_self (x := (b[j]).toNat) (n := 8) (UInt8.toNat_lt _)]
      refine natOf_congr 8 fun k hk => ?_
      have hbb : bbit b (8 * j + k) = (b[j]).toNat.testBit k := by
        unfold bbit
        rw [show (8 * j + k) / 8 = j by omega, show (8 * j + k) % 8 = k by omega, List.getD_eq_getElem?_getD, List.getElem?_eq_getElem hj, Option.getD_some]
      rw [← hbb]
      unfold vbit
      rw [unpL_length]
      by_cases hi : 8 * j + k < n * w
      · have hw : 0 < w := by
          rcases Nat.eq_zero_or_pos w with h0 | h0
          · rw [h0] at hi; omega
          · exact h0
        have hq : (8 * j + k) / w < n := by rw [Nat.div_lt_iff_lt_mul hw]; exact hi
        have e1 : decide (8 * j + k < n * w) = true := by simpa using hi
        rw [e1, Bool.true_and, List.getD_eq_getElem?_getD, unpL_get hq, Option.getD_some]
        unfold numB
        rw [natOf_testBit]
        have e2 : decide ((8 * j + k) % w < w) = true := by simpa using Nat.mod_lt _ hw
        rw [e2, Bool.true_and]
        congr 1
        rw [Nat.mul_comm]
        exact Nat.div_add_mod _ w
      · have e1 : decide (8 * j + k < n * w) = false := by simpa using hi
        rw [e1, Bool.false_and]
        exact (hz _ (by omega) (by omega)).symm
    rw [e]
    exact UInt8.ofNat_toNat
  · rw [List.getElem?_eq_none (by rw [packL_length, unpL_length, ← hb]; omega), List.getElem?_eq_none (by omega)]
theorem numB_lt (b : List UInt8) (w i : Nat) : numB b w i < 2 ^ w := natOf_lt _ w
end Go.Proofs.Ytjjeebaelpgjlaa
