/-
  Flipped bits as numbers: a row of bytes whose bits are those of one number; one more flipped bit; a burst of at most 32 bits in a sealed row is always seen. No condition.
-/
import Derived.Test.YtepahejeeajfbaaHashNum
namespace Go.Proofs.Ytepahejeeajfbaa

theorem bitsN_add : ∀ (a b x : Nat), bitsN (a + b) x = bitsN a x ++ bitsN b (x / 2 ^ a)
  | 0, b, x => by simp [bitsN]
  | a + 1, b, x => by
    rw [show a + 1 + b = (a + b) + 1 by omega, bitsN_succ, bitsN_succ, bitsN_add a b, List.cons_append, Nat.div_div_eq_div_mul, Nat.pow_succ, Nat.mul_comm 2]
theorem bitsN_mod (k x : Nat) : bitsN k (x % 2 ^ k) = bitsN k x := by
  unfold bitsN
  apply List.map_congr_left
  intro i hi
  rw [List.mem_range] at hi
  rw [Nat.testBit_mod_two_pow]
  simp [hi]
theorem pow256 (q : Nat) : (256 : Nat) ^ q = 2 ^ (8 * q) := by rw [show (256 : Nat) = 2 ^ 8 from rfl, ← Nat.pow_mul]
/-- the bits of a number's bytes are the number's bits -/
theorem fixb_bits : ∀ (n x : Nat), (fixb x n).flatMap (fun b => bitsN 8 b.toNat) = bitsN (8 * n) x
  | 0, x => by simp [fixb, bitsN]
  | n + 1, x => by
    rw [fixb_succ, List.flatMap_append, fixb_bits n x, Nat.mul_succ, bitsN_add]
    congr 1
    rw [List.flatMap_cons, List.flatMap_nil, List.append_nil, ofNat_toNat (by omega), pow256, show (256 : Nat) = 2 ^ 8 from rfl, bitsN_mod]

theorem halfN_add : ∀ (a b x : Nat), halfN (a + b) x = halfN b (halfN a x)
  | 0, b, x => by simp [halfN]
  | a + 1, b, x => by rw [show a + 1 + b = (a + b) + 1 by omega, halfN, halfN, halfN_add a b]

/-- a burst is no codeword -/
theorem burst_ne {N first w : Nat} (hw : w < 4294967296) (h0 : w ≠ 0) (hx : 2 ^ first * w < 2 ^ (8 * N)) : ser 0 ((fixb (2 ^ first * w) N).flatMap fun b => bitsN 8 b.toNat) ≠ 0 := by
  rw [fixb_bits, ← halfN_bits (8 * N) 0 _ hx, Nat.zero_xor]
  have hf : first ≤ 8 * N := by
    rcases Nat.le_total first (8 * N) with h | h
    · exact h
    · have h1 : 2 ^ (8 * N) ≤ 2 ^ first := Nat.pow_le_pow_right (by decide) h
      have h2 : 2 ^ first * 1 ≤ 2 ^ first * w := Nat.mul_le_mul_left _ (by omega)
      omega
  rw [show 8 * N = first + (8 * N - first) by omega, halfN_add, halfN_shift]
  exact halfN_ne _ hw h0

/-- one more flipped bit -/
def bflip (x N : Nat) (S : List UInt8) : List UInt8 := flip S (fixb x N)
theorem bflip_length {x : Nat} {S : List UInt8} : (bflip x S.length S).length = S.length := by simp [bflip, flip, fixb_length]
theorem bflip_zero (S : List UInt8) : bflip 0 S.length S = S := by
  apply List.ext_getElem
  · simp [bflip, flip, fixb_length]
  · intro i h1 h2
    simp [bflip, flip, fixb]
theorem byte_bit (k q : Nat) : 2 ^ k / 256 ^ q % 256 = if q = k / 8 then 2 ^ (k % 8) else 0 := by
  rw [pow256]
  split
  · rename_i h
    subst h
    rw [Nat.pow_div (by omega) (by decide), show k - 8 * (k / 8) = k % 8 by omega]
    apply Nat.mod_eq_of_lt
    exact Nat.lt_of_le_of_lt (Nat.pow_le_pow_right (by decide) (show k % 8 ≤ 7 by omega)) (by decide)
  · rename_i h
    rcases Nat.lt_or_ge k (8 * q) with hlt | hge
    · rw [Nat.div_eq_of_lt (Nat.pow_lt_pow_right (by decide) hlt)]
    · rw [Nat.pow_div hge (by decide), show k - 8 * q = 8 + (k - 8 * q - 8) by omega, Nat.pow_add, show (2 : Nat) ^ 8 = 256 from rfl, Nat.mul_mod_right]
theorem byte_xor (x y q : Nat) : (x ^^^ y) / 256 ^ q % 256 = x / 256 ^ q % 256 ^^^ y / 256 ^ q % 256 := by
  apply Nat.eq_of_testBit_eq
  intro j
  rw [pow256, show (256 : Nat) = 2 ^ 8 from rfl]
  simp only [Nat.testBit_mod_two_pow, Nat.testBit_div_two_pow, Nat.testBit_xor]
  by_cases h : j < 8 <;> simp [h]

theorem fixb_getElem (x N q : Nat) (h : q < (fixb x N).length) : (fixb x N)[q] = UInt8.ofNat (x / 256 ^ q % 256) := by simp [fixb]
theorem bflip_getElem (x : Nat) (S : List UInt8) (q : Nat) (h : q < (bflip x S.length S).length) (h' : q < S.length) : (bflip x S.length S)[q] = S[q] ^^^ UInt8.ofNat (x / 256 ^ q % 256) := by
  simp [bflip, flip, fixb]
theorem u8_xor (a b : Nat) (ha : a < 256) (hb : b < 256) : UInt8.ofNat (a ^^^ b) = UInt8.ofNat a ^^^ UInt8.ofNat b := by
  apply UInt8.toNat_inj.mp
  rw [UInt8.toNat_xor, ofNat_toNat ha, ofNat_toNat hb, ofNat_toNat (Nat.xor_lt_two_pow (n := 8) ha hb)]
theorem bflip_set (x k : Nat) (S : List UInt8) (hk : k / 8 < S.length) (c : UInt8) (hc : c = (bflip x S.length S)[k / 8]'(by rw [bflip_length]; exact hk) ^^^ UInt8.ofNat (2 ^ (k % 8))) :
    (bflip x S.length S).set (k / 8) c = bflip (x ^^^ 2 ^ k) S.length S := by
  subst hc
  apply List.ext_getElem
  · rw [List.length_set, bflip_length, bflip_length]
  · intro q h1 h2
    rw [bflip_length] at h2
    rw [bflip_getElem _ _ _ _ h2, List.getElem_set, byte_xor, byte_bit]
    split
    · rename_i h
      subst h
      rw [bflip_getElem _ _ _ _ h2, if_pos rfl, u8_xor _ _ (by omega) (Nat.lt_of_le_of_lt (Nat.pow_le_pow_right (by decide) (show k % 8 ≤ 7 by omega)) (by decide)), UInt8.xor_assoc]
    · rename_i h
      rw [bflip_getElem _ _ _ _ h2, if_neg (Ne.symm h), Nat.xor_zero]

/-- the burst's number, bit by bit -/
def bnum (b first i : Nat) : Nat := 2 ^ first * (b % 2 ^ i)
theorem bnum_bit (b first i : Nat) (j : Nat) : (bnum b first i).testBit j = (decide (first ≤ j) && (decide (j - first < i) && b.testBit (j - first))) := by
  unfold bnum
  rw [Nat.testBit_two_pow_mul, Nat.testBit_mod_two_pow]
theorem bnum_one {b first i : Nat} (h : b / 2 ^ i % 2 = 1) : bnum b first (i + 1) = bnum b first i ^^^ 2 ^ (first + i) := by
  have hb : b.testBit i = true := by rw [Nat.testBit_eq_decide_div_mod_eq]; simpa using h
  apply Nat.eq_of_testBit_eq
  intro j
  rw [Nat.testBit_xor, bnum_bit, bnum_bit, Nat.testBit_two_pow]
  by_cases h1 : first ≤ j
  · by_cases h2 : j - first < i
    · have h3 : j - first < i + 1 := by omega
      have h4 : ¬ first + i = j := by omega
      simp [h1, h2, h3, h4]
    · by_cases h3 : first + i = j
      · subst h3
        have e : first + i - first = i := by omega
        simp [e, hb]
      · have h4 : ¬ j - first < i + 1 := by omega
        simp [h2, h3, h4]
  · have h4 : ¬ first + i = j := by omega
    simp [h1, h4]
theorem bnum_no {b first i : Nat} (h : ¬ b / 2 ^ i % 2 = 1) : bnum b first (i + 1) = bnum b first i := by
  unfold bnum
  rw [Nat.mod_pow_succ, show b / 2 ^ i % 2 = 0 by omega, Nat.mul_zero, Nat.add_zero]
theorem bmod_one {b i : Nat} (h : b / 2 ^ i % 2 = 1) : b % 2 ^ (i + 1) ≠ 0 := by
  have h0 : 0 < 2 ^ i := Nat.pow_pos (by decide)
  rw [Nat.mod_pow_succ, h]; omega
theorem bmod_no {b i : Nat} (h : ¬ b / 2 ^ i % 2 = 1) : b % 2 ^ (i + 1) = b % 2 ^ i := by
  rw [Nat.mod_pow_succ, show b / 2 ^ i % 2 = 0 by omega, Nat.mul_zero, Nat.add_zero]

/-- P2.6 -/
theorem open_burst {l : List UInt8} {b first i : Nat} (hb : b < 4294967296) (h0 : b % 2 ^ i ≠ 0) (hi : first + i ≤ 8 * (sealOf l).length) : openOf (bflip (bnum b first i) (sealOf l).length (sealOf l)) = ([], 5) := by
  refine open_flip (fixb_length _ _) (burst_ne (Nat.lt_of_le_of_lt (Nat.mod_le _ _) hb) h0 ?_)
  have h1 : b % 2 ^ i < 2 ^ i := Nat.mod_lt _ (Nat.pow_pos (by decide))
  have h2 : 2 ^ first * (b % 2 ^ i) < 2 ^ first * 2 ^ i := Nat.mul_lt_mul_of_pos_left h1 (Nat.pow_pos (by decide))
  rw [← Nat.pow_add] at h2
  exact Nat.lt_of_lt_of_le h2 (Nat.pow_le_pow_right (by decide) hi)
theorem open_noburst {l : List UInt8} {b first i : Nat} (h0 : b % 2 ^ i = 0) : openOf (bflip (bnum b first i) (sealOf l).length (sealOf l)) = (l, 0) := by
  unfold bnum
  rw [h0, Nat.mul_zero, bflip_zero, open_seal]

end Go.Proofs.Ytepahejeeajfbaa
