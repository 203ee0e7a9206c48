/-
  Sets of small integers as plain functions: a word list packs the bits of a function; membership, rank, elements. No condition.
-/
import Derived.Test.YtnjmbhakfecdoaaEncNum
namespace Go.Proofs.Ytnjmbhakfecdoaa
open Go.RowKit

/-- the number whose bits below m are f's -/
def ofBits (f : Nat → Bool) : Nat → Nat
  | 0 => 0
  | m + 1 => ofBits f m ||| (if f m then 2 ^ m else 0)
theorem testBit_ofBits (f : Nat → Bool) : ∀ m j, (ofBits f m).testBit j = (decide (j < m) && f j)
  | 0, j => by simp [ofBits]
  | m + 1, j => by
    rw [ofBits, Nat.testBit_or, testBit_ofBits f m j]
    by_cases hj : j = m
    · subst hj
      cases h : f j <;> simp
    · have h1 : (if f m then 2 ^ m else 0).testBit j = false := by
        split
        · rw [Nat.testBit_two_pow]; simp; omega
        · simp
      rw [h1, Bool.or_false]
      have : decide (j < m + 1) = decide (j < m) := by simp; omega
      rw [this]
theorem ofBits_lt (f : Nat → Bool) : ∀ m, ofBits f m < 2 ^ m
  | 0 => by simp [ofBits]
  | m + 1 => by
    rw [ofBits]
    have h := ofBits_lt f m
    have h2 : 2 ^ m < 2 ^ (m + 1) := Nat.pow_lt_pow_right (by decide) (by omega)
    refine Nat.or_lt_two_pow (by omega) ?_
    split
    · exact h2
    · exact Nat.two_pow_pos _

def wordOf (f : Nat → Bool) : UInt64 := UInt64.ofNat (ofBits f 64)
theorem wordOf_toNat (f : Nat → Bool) : (wordOf f).toNat = ofBits f 64 := by
  unfold wordOf
  rw [UInt64.toNat_ofNat']
  exact Nat.mod_eq_of_lt (ofBits_lt f 64)
def wbit (w : UInt64) (j : Nat) : Bool := w.toNat.testBit j
theorem wbit_ge {w : UInt64} {j : Nat} (h : 64 ≤ j) : wbit w j = false :=
  Nat.testBit_lt_two_pow (Nat.lt_of_lt_of_le w.toNat_lt (Nat.pow_le_pow_right (by decide) h))
theorem wbit_wordOf (f : Nat → Bool) (j : Nat) : wbit (wordOf f) j = (decide (j < 64) && f j) := by rw [wbit, wordOf_toNat, testBit_ofBits]
theorem word_ext {a b : UInt64} (h : ∀ j, j < 64 → wbit a j = wbit b j) : a = b := by
  apply UInt64.toNat_inj.1
  apply Nat.eq_of_testBit_eq
  intro j
  by_cases hj : j < 64
  · exact h j hj
  · exact (wbit_ge (w := a) (by omega)).trans (wbit_ge (w := b) (by omega)).symm

/-- how many words -/
def nw (n : Nat) : Nat := (n + 63) / 64
def pack (n : Nat) (f : Nat → Bool) : List UInt64 := (List.range (nw n)).map fun k => wordOf fun j => decide (64 * k + j < n) && f (64 * k + j)
theorem pack_length (n : Nat) (f : Nat → Bool) : (pack n f).length = nw n := by simp [pack]
theorem pack_get {n : Nat} {f : Nat → Bool} {k : Nat} (h : k < nw n) : (pack n f)[k]? = some (wordOf fun j => decide (64 * k + j < n) && f (64 * k + j)) := by simp [pack, h]

/-- is i in the set of the words ws -/
def wmem (ws : List UInt64) (i : Nat) : Bool := match ws[i / 64]? with | some w => wbit w (i % 64) | none => false
def mem (n : Nat) (ws : List UInt64) (i : Nat) : Bool := decide (i < n) && wmem ws i
theorem mem_pack (n : Nat) (f : Nat → Bool) (i : Nat) : mem n (pack n f) i = (decide (i < n) && f i) := by
  unfold mem wmem
  by_cases h : i < n
  · have hk : i / 64 < nw n := by unfold nw; omega
    rw [pack_get hk]
    simp only [wbit_wordOf]
    rw [show 64 * (i / 64) + i % 64 = i by omega]
    have : i % 64 < 64 := by omega
    simp [h, this]
  · simp [h]
theorem pack_congr {n : Nat} {f g : Nat → Bool} (h : ∀ i, i < n → f i = g i) : pack n f = pack n g := by
  unfold pack
  apply List.map_congr_left
  intro k _
  apply word_ext
  intro j _
  rw [wbit_wordOf, wbit_wordOf]
  by_cases hi : 64 * k + j < n
  · simp [hi, h _ hi]
  · simp [hi]

/-- a valid pair of N and words, up to the greatest N -/
def okW (n : Nat) (ws : List UInt64) : Prop := ws.length = nw n ∧ ∀ i, n ≤ i → wmem ws i = false
theorem okW_pack (n : Nat) (f : Nat → Bool) : okW n (pack n f) := by
  refine ⟨pack_length n f, fun i hi => ?_⟩
  unfold wmem
  by_cases hk : i / 64 < nw n
  · rw [pack_get hk]
    simp only [wbit_wordOf]
    rw [show 64 * (i / 64) + i % 64 = i by omega]
    have : ¬ i < n := by omega
    simp [this]
  · rw [List.getElem?_eq_none (by rw [pack_length]; omega)]
theorem pack_mem {n : Nat} {ws : List UInt64} (h : okW n ws) : pack n (mem n ws) = ws := by
  apply List.ext_getElem?
  intro k
  by_cases hk : k < nw n
  · have hk2 : k < ws.length := by rw [h.1]; exact hk
    rw [pack_get hk, List.getElem?_eq_getElem hk2]
    congr 1
    apply word_ext
    intro j hj
    rw [wbit_wordOf]
    have e1 : (64 * k + j) / 64 = k := by omega
    have e2 : (64 * k + j) % 64 = j := by omega
    have hm : wmem ws (64 * k + j) = wbit ws[k] j := by
      unfold wmem
      rw [e1, List.getElem?_eq_getElem hk2, e2]
    by_cases hi : 64 * k + j < n
    · simp [hj, hi, mem, hm]
    · have := h.2 _ (Nat.le_of_not_lt hi)
      rw [hm] at this
      simp [hj, hi, this]
  · rw [List.getElem?_eq_none (by rw [pack_length]; omega), List.getElem?_eq_none (by rw [h.1]; omega)]
theorem okW_ext {n : Nat} {a b : List UInt64} (ha : okW n a) (hb : okW n b) (h : ∀ i, i < n → mem n a i = mem n b i) : a = b := by
  rw [← pack_mem ha, ← pack_mem hb]
  exact pack_congr h

/-- one bit more -/
theorem or_bit {w : UInt64} {j : Nat} (hj : j < 64) : ∀ i, wbit (UInt64.ofNat (w.toNat ||| 2 ^ j)) i = (wbit w i || decide (i = j)) := by
  intro i
  have hl : w.toNat ||| 2 ^ j < 2 ^ 64 := Nat.or_lt_two_pow w.toNat_lt (Nat.pow_lt_pow_right (by decide) hj)
  unfold wbit
  rw [UInt64.toNat_ofNat', Nat.mod_eq_of_lt hl, Nat.testBit_or, Nat.testBit_two_pow]
  congr 1
  rw [decide_eq_decide]
  exact ⟨Eq.symm, Eq.symm⟩
theorem pack_set {n : Nat} {f : Nat → Bool} {i : Nat} (hi : i < n) (w : UInt64) (hw : (pack n f)[i / 64]? = some w) :
    (pack n f).set (i / 64) (UInt64.ofNat (w.toNat ||| 2 ^ (i % 64))) = pack n fun j => f j || decide (j = i) := by
  have hk : i / 64 < nw n := by unfold nw; omega
  rw [pack_get hk] at hw
  injection hw with hw
  apply List.ext_getElem?
  intro k
  rw [List.getElem?_set]
  by_cases hkn : k < nw n
  · rw [pack_get hkn, pack_get hkn, pack_length]
    by_cases hki : i / 64 = k
    · rw [if_pos hki, if_pos hk]
      congr 1
      apply word_ext
      intro j hj
      rw [or_bit (by omega), ← hw, wbit_wordOf, wbit_wordOf]
      subst hki
      by_cases hlt : 64 * (i / 64) + j < n
      · have e : decide (64 * (i / 64) + j = i) = decide (j = i % 64) := by rw [decide_eq_decide]; omega
        simp [hj, hlt, e]
      · have e : decide (j = i % 64) = false := by simp; omega
        simp [hj, hlt, e]
    · rw [if_neg hki]
      congr 1
      apply word_ext
      intro j hj
      rw [wbit_wordOf, wbit_wordOf]
      have e : decide (64 * k + j = i) = false := by simp; omega
      simp [e]
  · rw [List.getElem?_eq_none (by rw [pack_length]; omega), List.getElem?_eq_none (by rw [pack_length]; omega), if_neg]
    intro h
    omega

/-! ### counting -/
def cnt (f : Nat → Bool) : Nat → Nat
  | 0 => 0
  | n + 1 => cnt f n + (if f n then 1 else 0)
def elems (f : Nat → Bool) : Nat → List Nat
  | 0 => []
  | n + 1 => elems f n ++ (if f n then [n] else [])
theorem elems_length (f : Nat → Bool) : ∀ n, (elems f n).length = cnt f n
  | 0 => rfl
  | n + 1 => by rw [elems, cnt, List.length_append, elems_length f n]; split <;> simp
theorem cnt_le (f : Nat → Bool) : ∀ n, cnt f n ≤ n
  | 0 => Nat.le_refl _
  | n + 1 => by have := cnt_le f n; rw [cnt]; split <;> omega
theorem cnt_congr {f g : Nat → Bool} : ∀ {n}, (∀ i, i < n → f i = g i) → cnt f n = cnt g n
  | 0, _ => rfl
  | n + 1, h => by rw [cnt, cnt, cnt_congr (n := n) (fun i hi => h i (by omega)), h n (by omega)]
theorem elems_congr {f g : Nat → Bool} : ∀ {n}, (∀ i, i < n → f i = g i) → elems f n = elems g n
  | 0, _ => rfl
  | n + 1, h => by rw [elems, elems, elems_congr (n := n) (fun i hi => h i (by omega)), h n (by omega)]
theorem elems_mono (f : Nat → Bool) {a b : Nat} (h : a ≤ b) : elems f a <+: elems f b := by
  induction b with
  | zero => rw [show a = 0 by omega]; exact List.prefix_refl _
  | succ b ih =>
    rcases Nat.lt_or_ge b a with h1 | h1
    · rw [show a = b + 1 by omega]; exact List.prefix_refl _
    · rw [elems]; exact (ih h1).trans (List.prefix_append _ _)
/-- the element at place cnt f i, if i is one -/
theorem elems_at {f : Nat → Bool} {n i : Nat} (hi : i < n) (hf : f i = true) : (elems f n)[cnt f i]? = some i := by
  have h1 : elems f (i + 1) <+: elems f n := elems_mono f hi
  obtain ⟨r, hr⟩ := h1
  rw [← hr, elems, hf, if_pos rfl]
  rw [List.append_assoc, List.getElem?_append_right (by rw [elems_length]; exact Nat.le_refl _), elems_length]
  simp
theorem elems_get {f : Nat → Bool} : ∀ {n k i : Nat}, (elems f n)[k]? = some i → i < n ∧ f i = true ∧ cnt f i = k
  | 0, k, i, h => by simp [elems] at h
  | n + 1, k, i, h => by
    rw [elems] at h
    by_cases hk : k < (elems f n).length
    · rw [List.getElem?_append_left hk] at h
      obtain ⟨h1, h2, h3⟩ := elems_get h
      exact ⟨by omega, h2, h3⟩
    · rw [List.getElem?_append_right (by omega)] at h
      rw [elems_length] at hk h
      by_cases hf : f n = true
      · rw [if_pos hf] at h
        have hk0 : k - cnt f n = 0 := by
          rcases Nat.eq_zero_or_pos (k - cnt f n) with h0 | h0
          · exact h0
          · rw [List.getElem?_eq_none (by simp; omega)] at h; cases h
        rw [hk0] at h
        simp at h
        subst h
        exact ⟨by omega, hf, by omega⟩
      · rw [if_neg hf] at h
        simp at h
theorem cnt_mono (f : Nat → Bool) {a b : Nat} (h : a ≤ b) : cnt f a ≤ cnt f b := by
  have := (elems_mono f h).length_le
  rwa [elems_length, elems_length] at this
/-- sizes add up -/
theorem cnt_and_or (f g : Nat → Bool) : ∀ n, cnt f n + cnt g n = cnt (fun i => f i && g i) n + cnt (fun i => f i || g i) n
  | 0 => rfl
  | n + 1 => by
    have := cnt_and_or f g n
    simp only [cnt]
    by_cases hf : f n = true <;> by_cases hg : g n = true <;> simp [hf, hg] <;> omega

end Go.Proofs.Ytnjmbhakfecdoaa
