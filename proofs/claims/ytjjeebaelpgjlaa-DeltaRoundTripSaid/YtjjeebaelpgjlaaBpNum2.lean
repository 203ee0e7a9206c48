/-
  Bit packing step by step: one bit more of a number, one bit more of the packed bytes. Arithmetic and lists; no walk.
-/
import Derived.Test.YtjjeebaelpgjlaaBpNum
namespace Go.Proofs.Ytjjeebaelpgjlaa
set_option linter.unusedVariables false
set_option linter.unusedSimpArgs false

/-- one bit more, by 'or' -/
theorem or_natOf (f : Nat → Bool) (k : Nat) : natOf f k ||| (if f k then 2 ^ k else 0) = natOf f (k + 1) := by
  apply Nat.eq_of_testBit_eq
  intro j
  rw [Nat.testBit_or, natOf_testBit, natOf_testBit]
  by_cases hf : f k = true
  · rw [if_pos hf, Nat.testBit_two_pow]
    rcases Nat.lt_trichotomy j k with h | h | h
    · have e1 : decide (j < k) = true := by simpa using h
      have e2 : decide (j < k + 1) = true := by simp; omega
      have e3 : decide (k = j) = false := by simp; omega
      rw [e1, e2, e3, Bool.or_false]
    · subst h
      simp [hf]
    · have e1 : decide (j < k) = false := by simp; omega
      have e2 : decide (j < k + 1) = false := by simp; omega
      have e3 : decide (k = j) = false := by simp; omega
      rw [e1, e2, e3]
      simp
  · rw [if_neg hf, Nat.zero_testBit, Bool.or_false]
    rcases Nat.lt_trichotomy j k with h | h | h
    · have e1 : decide (j < k) = true := by simpa using h
      have e2 : decide (j < k + 1) = true := by simp; omega
      rw [e1, e2]
    · subst h
      simp [hf]
    · have e1 : decide (j < k) = false := by simp; omega
      have e2 : decide (j < k + 1) = false := by simp; omega
      rw [e1, e2]
/-- a bit set in a number whose bit it was not -/
theorem or_put {f g : Nat → Bool} {n r : Nat} (hr : r < n) (hg : ∀ t, t < n → t ≠ r → g t = f t) (hf : f r = false) : natOf f n ||| (if g r then 2 ^ r else 0) = natOf g n := by
  apply Nat.eq_of_testBit_eq
  intro j
  rw [Nat.testBit_or, natOf_testBit, natOf_testBit]
  by_cases hj : j < n
  · have e1 : decide (j < n) = true := by simpa using hj
    rw [e1, Bool.true_and, Bool.true_and]
    by_cases hjr : j = r
    · subst hjr
      rw [hf, Bool.false_or]
      by_cases hgr : g j = true
      · rw [if_pos hgr, Nat.testBit_two_pow, hgr]; simp
      · rw [if_neg hgr, Nat.zero_testBit]; simpa using hgr
    · rw [hg j hj hjr]
      by_cases hgr : g r = true
      · have e3 : decide (r = j) = false := by simp; omega
        rw [if_pos hgr, Nat.testBit_two_pow, e3, Bool.or_false]
      · rw [if_neg hgr, Nat.zero_testBit, Bool.or_false]
  · have e1 : decide (j < n) = false := by simpa using hj
    rw [e1, Bool.false_and, Bool.false_and, Bool.false_or]
    by_cases hgr : g r = true
    · have e3 : decide (r = j) = false := by simp; omega
      rw [if_pos hgr, Nat.testBit_two_pow, e3]
    · rw [if_neg hgr, Nat.zero_testBit]
/-- the packed bytes while the first m bits are in -/
def partB (l : List Nat) (w m : Nat) : List UInt8 := (List.range (szB l.length w)).map fun j => UInt8.ofNat (natOf (fun k => decide (8 * j + k < m) && vbit l w (8 * j + k)) 8)
theorem partB_length (l : List Nat) (w m : Nat) : (partB l w m).length = szB l.length w := by simp [partB]
theorem partB_get {l : List Nat} {w m j : Nat} (h : j < szB l.length w) : (partB l w m)[j]? = some (UInt8.ofNat (natOf (fun k => decide (8 * j + k < m) && vbit l w (8 * j + k)) 8)) := by
  unfold partB
  rw [List.getElem?_map, List.getElem?_range h]
  rfl
theorem natOf_none : ∀ n, natOf (fun _ => false) n = 0
  | 0 => rfl
  | n + 1 => by rw [natOf, natOf_none n]; simp
theorem partB_zero (l : List Nat) (w : Nat) : partB l w 0 = List.replicate (szB l.length w) 0 := by
  apply List.ext_getElem?
  intro j
  by_cases hj : j < szB l.length w
  · rw [partB_get hj, List.getElem?_replicate, if_pos hj, natOf_congr (g := fun _ => false) 8 (fun k _ => by simp), natOf_none]
    rfl
  · rw [List.getElem?_eq_none (by rw [partB_length]; omega), List.getElem?_eq_none (by simp; omega)]
theorem partB_all (l : List Nat) (w : Nat) : partB l w (l.length * w) = packL l w := by
  apply List.ext_getElem?
  intro j
  by_cases hj : j < szB l.length w
  · rw [partB_get hj, packL_get hj, natOf_congr (g := fun k => vbit l w (8 * j + k)) 8 (fun k _ => by
      unfold vbit
      by_cases h : 8 * j + k < l.length * w
      · have e1 : decide (8 * j + k < l.length * w) = true := by simpa using h
        rw [e1, Bool.true_and]
      · have e1 : decide (8 * j + k < l.length * w) = false := by simpa using h
        rw [e1, Bool.false_and, Bool.false_and])]
  · rw [List.getElem?_eq_none (by rw [partB_length]; omega), List.getElem?_eq_none (by rw [packL_length]; omega)]
/-- the byte that bit m stands in, with it -/
theorem partB_byte (l : List Nat) (w m : Nat) :
    natOf (fun k => decide (8 * (m / 8) + k < m) && vbit l w (8 * (m / 8) + k)) 8 ||| (if vbit l w m then 2 ^ (m % 8) else 0) = natOf (fun k => decide (8 * (m / 8) + k < m + 1) && vbit l w (8 * (m / 8) + k)) 8 := by
  have h := or_put (f := fun k => decide (8 * (m / 8) + k < m) && vbit l w (8 * (m / 8) + k)) (g := fun k => decide (8 * (m / 8) + k < m + 1) && vbit l w (8 * (m / 8) + k)) (n := 8) (r := m % 8) (by omega) (fun t ht hne => by
    have e : decide (8 * (m / 8) + t < m + 1) = decide (8 * (m / 8) + t < m) := by rw [decide_eq_decide]; omega
    simp only [e]) (by
    have e : decide (8 * (m / 8) + m % 8 < m) = false := by simp; omega
    simp only [e, Bool.false_and])
  have e2 : (decide (8 * (m / 8) + m % 8 < m + 1) && vbit l w (8 * (m / 8) + m % 8)) = vbit l w m := by
    have e : decide (8 * (m / 8) + m % 8 < m + 1) = true := by simp; omega
    rw [e, Bool.true_and, show 8 * (m / 8) + m % 8 = m by omega]
  simp only [e2] at h
  exact h
theorem partB_set {l : List Nat} {w m : Nat} (h : m / 8 < szB l.length w) : (partB l w m).set (m / 8) (UInt8.ofNat (natOf (fun k => decide (8 * (m / 8) + k < m + 1) && vbit l w (8 * (m / 8) + k)) 8)) = partB l w (m + 1) := by
  apply List.ext_getElem?
  intro j
  by_cases hj : j < szB l.length w
  · rw [List.getElem?_set, partB_get hj, partB_get hj, partB_length]
    by_cases e : m / 8 = j
    · subst e
      rw [if_pos rfl, if_pos h]
    · rw [if_neg e]
      congr 2
      refine natOf_congr 8 fun k hk => ?_
      have e1 : decide (8 * j + k < m + 1) = decide (8 * j + k < m) := by rw [decide_eq_decide]; omega
      rw [e1]
  · rw [List.getElem?_eq_none (by rw [List.length_set, partB_length]; omega), List.getElem?_eq_none (by rw [partB_length]; omega)]
end Go.Proofs.Ytjjeebaelpgjlaa
