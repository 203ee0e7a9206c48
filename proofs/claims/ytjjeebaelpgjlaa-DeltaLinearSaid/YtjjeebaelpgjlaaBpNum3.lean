/-
  Bit packing: the widest value, several bits put into a byte at once, a number read byte by byte, the unused bits. Arithmetic and lists; no walk.
-/
import Derived.Test.YtjjeebaelpgjlaaBpNum2
import Derived.Test.YtjjeebaelpgjlaaEncNum
namespace Go.Proofs.Ytjjeebaelpgjlaa
set_option linter.unusedVariables false
set_option linter.unusedSimpArgs false

theorem bitLen_hi {x : Nat} (h : x < 2 ^ 64) : x < 2 ^ Lib.bitLen x := by
  by_cases h0 : x = 0
  · subst h0; decide
  · exact (bitLen_lo 64 x h h0).2.2
theorem bitLen_iff {x k : Nat} (h : x < 2 ^ 64) (hk : k ≤ 64) : Lib.bitLen x ≤ k ↔ x < 2 ^ k :=
  ⟨fun hl => Nat.lt_of_lt_of_le (bitLen_hi h) (Nat.pow_le_pow_right (by decide) hl), fun hl => Lib.bitLen_le x k hk hl⟩
theorem bitLen_64 {x : Nat} (h : x < 2 ^ 64) : Lib.bitLen x ≤ 64 := Lib.bitLen_le x 64 (Nat.le_refl _) h
theorem bitLen_or {x y : Nat} (hx : x < 2 ^ 64) (hy : y < 2 ^ 64) : Lib.bitLen (x ||| y) = max (Lib.bitLen x) (Lib.bitLen y) := by
  have ho : x ||| y < 2 ^ 64 := Nat.or_lt_two_pow hx hy
  have h1 := bitLen_64 hx
  have h2 := bitLen_64 hy
  apply Nat.le_antisymm
  · rw [bitLen_iff ho (by omega)]
    exact Nat.or_lt_two_pow (Nat.lt_of_lt_of_le (bitLen_hi hx) (Nat.pow_le_pow_right (by decide) (by omega))) (Nat.lt_of_lt_of_le (bitLen_hi hy) (Nat.pow_le_pow_right (by decide) (by omega)))
  · have h3 := bitLen_hi ho
    have h4 : Lib.bitLen x ≤ Lib.bitLen (x ||| y) := (bitLen_iff hx (bitLen_64 ho)).2 (Nat.lt_of_le_of_lt Nat.left_le_or h3)
    have h5 : Lib.bitLen y ≤ Lib.bitLen (x ||| y) := (bitLen_iff hy (bitLen_64 ho)).2 (Nat.lt_of_le_of_lt Nat.right_le_or h3)
    omega
def orL (l : List Nat) : Nat := l.foldl (· ||| ·) 0
theorem orL_snoc (l : List Nat) (x : Nat) : orL (l ++ [x]) = orL l ||| x := by simp [orL]
theorem orL_take {l : List Nat} {k : Nat} (h : k < l.length) : orL (l.take (k + 1)) = orL (l.take k) ||| l[k] := by rw [List.take_succ_eq_append_getElem h, orL_snoc]
theorem fold_lt {n : Nat} : ∀ (l : List Nat) (a : Nat), a < 2 ^ n → (∀ x ∈ l, x < 2 ^ n) → l.foldl (· ||| ·) a < 2 ^ n
  | [], a, ha, _ => ha
  | x :: l, a, ha, h => fold_lt l (a ||| x) (Nat.or_lt_two_pow ha (h x (List.mem_cons_self ..))) fun y hy => h y (List.mem_cons_of_mem _ hy)
theorem orL_lt {n : Nat} {l : List Nat} (h : ∀ x ∈ l, x < 2 ^ n) : orL l < 2 ^ n := fold_lt l 0 (Nat.two_pow_pos n) h
theorem fold_ge : ∀ (l : List Nat) (a : Nat), a ≤ l.foldl (· ||| ·) a ∧ ∀ x ∈ l, x ≤ l.foldl (· ||| ·) a
  | [], a => ⟨Nat.le_refl _, fun x hx => by cases hx⟩
  | y :: l, a => by
    have h := fold_ge l (a ||| y)
    have h1 : a ≤ a ||| y := Nat.left_le_or
    have h2 : y ≤ a ||| y := Nat.right_le_or
    refine ⟨Nat.le_trans h1 h.1, fun x hx => ?_⟩
    rcases List.mem_cons.1 hx with rfl | hx
    · exact Nat.le_trans h2 h.1
    · exact h.2 x hx
theorem le_orL {l : List Nat} {x : Nat} (h : x ∈ l) : x ≤ orL l := (fold_ge l 0).2 x h
def widL (l : List Nat) : Nat := Lib.bitLen (orL l)
def U64 (l : List Nat) : Prop := ∀ x ∈ l, x < 18446744073709551616
theorem U64.pow {l : List Nat} (h : U64 l) : ∀ x ∈ l, x < 2 ^ 64 := h
theorem U64.take {l : List Nat} (h : U64 l) (k : Nat) : U64 (l.take k) := fun x hx => h x (List.mem_of_mem_take hx)
theorem U64.get {l : List Nat} (h : U64 l) {k : Nat} (hk : k < l.length) : l[k] < 18446744073709551616 := h _ (List.getElem_mem hk)
theorem orL_64 {l : List Nat} (h : U64 l) : orL l < 2 ^ 64 := orL_lt h.pow
theorem widL_le {l : List Nat} (h : U64 l) : widL l ≤ 64 := bitLen_64 (orL_64 h)
theorem widL_fits {l : List Nat} (h : U64 l) {x : Nat} (hx : x ∈ l) : x < 2 ^ widL l := Nat.lt_of_le_of_lt (le_orL hx) (bitLen_hi (orL_64 h))
theorem widL_take {l : List Nat} (h : U64 l) {k : Nat} (hk : k < l.length) : widL (l.take (k + 1)) = max (widL (l.take k)) (Lib.bitLen l[k]) := by
  unfold widL
  rw [orL_take hk]
  exact bitLen_or (orL_64 (h.take k)) (h.get hk)

/-- bits u .. u + c of a byte put in at once -/
theorem or_span {f g : Nat → Bool} {u c x : Nat} (hx : x < 2 ^ c) (h8 : u + c ≤ 8) (hf : ∀ t, u ≤ t → t < u + c → f t = false) (hg : ∀ t, t < 8 → (t < u ∨ u + c ≤ t) → g t = f t) (hgx : ∀ t, t < c → g (u + t) = x.testBit t) :
    natOf f 8 ||| (x * 2 ^ u) = natOf g 8 := by
  apply Nat.eq_of_testBit_eq
  intro j
  rw [Nat.testBit_or, natOf_testBit, natOf_testBit, Nat.testBit_mul_two_pow]
  by_cases h1 : u ≤ j
  · by_cases h2 : j < u + c
    · have e1 : decide (j < 8) = true := by simp; omega
      have e2 : decide (u ≤ j) = true := by simpa using h1
      have e3 := hgx (j - u) (by omega)
      rw [show u + (j - u) = j by omega] at e3
      rw [e1, e2, hf j h1 h2, e3]
      simp
    · have e3 : x.testBit (j - u) = false := Nat.testBit_lt_two_pow (Nat.lt_of_lt_of_le hx (Nat.pow_le_pow_right (by decide) (by omega)))
      rw [e3, Bool.and_false, Bool.or_false]
      by_cases h3 : j < 8
      · rw [hg j h3 (.inr (by omega))]
      · have e1 : decide (j < 8) = false := by simpa using h3
        rw [e1, Bool.false_and, Bool.false_and]
  · have e2 : decide (u ≤ j) = false := by simpa using h1
    rw [e2, Bool.false_and, Bool.or_false]
    by_cases h3 : j < 8
    · rw [hg j h3 (.inl (by omega))]
    · have e1 : decide (j < 8) = false := by simpa using h3
      rw [e1, Bool.false_and, Bool.false_and]
/-- byte m / 8 of the packed bytes while the first m bits are in, as a number -/
def curB (l : List Nat) (w m : Nat) : Nat := natOf (fun k => decide (8 * (m / 8) + k < m) && vbit l w (8 * (m / 8) + k)) 8
theorem curB_lt (l : List Nat) (w m : Nat) : curB l w m < 256 := natOf_lt _ 8
theorem partB_cur {l : List Nat} {w m : Nat} (h : m / 8 < szB l.length w) : (partB l w m)[m / 8]? = some (UInt8.ofNat (curB l w m)) := partB_get h
theorem cur_byte (l : List Nat) (w m : Nat) : (UInt8.ofNat (curB l w m)).toNat = curB l w m := byte_natOf _
theorem partB_span {l : List Nat} {w m c x : Nat} (h : m / 8 < szB l.length w) (h8 : m % 8 + c ≤ 8) (hx : x < 2 ^ c) (hv : ∀ t, t < c → vbit l w (m + t) = x.testBit t) :
    (partB l w m).set (m / 8) (UInt8.ofNat (curB l w m ||| (x * 2 ^ (m % 8)))) = partB l w (m + c) := by
  have hcur : curB l w m ||| (x * 2 ^ (m % 8)) = natOf (fun k => decide (8 * (m / 8) + k < m + c) && vbit l w (8 * (m / 8) + k)) 8 := by
    refine or_span hx h8 (fun t h1 h2 => ?_) (fun t h1 h2 => ?_) (fun t ht => ?_)
    · have e : decide (8 * (m / 8) + t < m) = false := by simp; omega
      simp only [e, Bool.false_and]
    · have e : decide (8 * (m / 8) + t < m + c) = decide (8 * (m / 8) + t < m) := by rw [decide_eq_decide]; omega
      simp only [e]
    · have e : decide (8 * (m / 8) + (m % 8 + t) < m + c) = true := by simp; omega
      simp only [e, Bool.true_and]
      rw [← hv t ht]
      congr 1
      omega
  rw [hcur]
  apply List.ext_getElem?
  intro j
  by_cases hj : j < szB l.length w
  · rw [List.getElem?_set, partB_get hj, partB_get hj, partB_length]
    by_cases e : m / 8 = j
    · subst e
      rw [if_pos rfl, if_pos h]
    · rw [if_neg e]
      congr 2
      refine natOf_congr 8 fun k hk => ?_
      have e1 : decide (8 * j + k < m + c) = decide (8 * j + k < m) := by rw [decide_eq_decide]; omega
      rw [e1]
  · rw [List.getElem?_eq_none (by rw [List.length_set, partB_length]; omega), List.getElem?_eq_none (by rw [partB_length]; omega)]
/-- the bits of the value with index i, from its bit d on -/
theorem vbit_at {l : List Nat} {w i d c : Nat} (hi : i < l.length) (hd : d + c ≤ w) (t : Nat) (ht : t < c) : vbit l w (i * w + d + t) = (l[i] / 2 ^ d % 2 ^ c).testBit t := by
  have hk : d + t < w := by omega
  obtain ⟨d1, d2⟩ := stream_div (i := i) hk
  unfold vbit
  rw [Nat.add_assoc, d1, d2]
  have e1 : decide (i * w + (d + t) < l.length * w) = true := by simpa using stream_lt hi hk
  have e2 : decide (t < c) = true := by simpa using ht
  rw [e1, Bool.true_and, Nat.testBit_mod_two_pow, e2, Bool.true_and, List.getD_eq_getElem?_getD, List.getElem?_eq_getElem hi, Option.getD_some, Nat.testBit_div_two_pow]
  congr 1
  omega

/-- eight bits more of a number -/
theorem or_byte {f : Nat → Bool} {e x : Nat} (he : e < 64) (hx : x < 256) (h : ∀ t, t < 8 → x.testBit t = f (e + t)) : natOf f e ||| (x * 2 ^ e) % 2 ^ 64 = natOf f (min (e + 8) 64) := by
  apply Nat.eq_of_testBit_eq
  intro j
  rw [Nat.testBit_or, natOf_testBit, natOf_testBit, Nat.testBit_mod_two_pow, Nat.testBit_mul_two_pow]
  by_cases h1 : e ≤ j
  · have e0 : decide (j < e) = false := by simp; omega
    have e2 : decide (e ≤ j) = true := by simpa using h1
    rw [e0, e2, Bool.false_and, Bool.false_or, Bool.true_and]
    by_cases h2 : j < e + 8
    · have e3 := h (j - e) (by omega)
      rw [show e + (j - e) = j by omega] at e3
      rw [e3]
      have e4 : decide (j < min (e + 8) 64) = decide (j < 64) := by rw [decide_eq_decide]; omega
      rw [e4]
    · have e3 : x.testBit (j - e) = false := Nat.testBit_lt_two_pow (Nat.lt_of_lt_of_le hx (Nat.pow_le_pow_right (n := 2) (i := 8) (by decide) (by omega)))
      have e4 : decide (j < min (e + 8) 64) = false := by simp; omega
      rw [e3, e4, Bool.and_false, Bool.false_and]
  · have e0 : decide (j < e) = true := by simp; omega
    have e2 : decide (e ≤ j) = false := by simpa using h1
    have e4 : decide (j < min (e + 8) 64) = true := by simp; omega
    rw [e0, e2, e4]
    simp
theorem natOf_mod (f : Nat → Bool) {n w : Nat} (h : w ≤ n) : natOf f n % 2 ^ w = natOf f w := by
  apply Nat.eq_of_testBit_eq
  intro j
  rw [Nat.testBit_mod_two_pow, natOf_testBit, natOf_testBit]
  by_cases hj : j < w
  · have e : decide (j < n) = true := by simp; omega
    rw [e]; simp
  · have e : decide (j < w) = false := by simpa using hj
    rw [e]; simp
theorem natOf_div {f : Nat → Bool} {x u : Nat} (hx : x < 256) (hu : u ≤ 8) (h : ∀ t, t < 8 - u → x.testBit (u + t) = f t) : x / 2 ^ u = natOf f (8 - u) := by
  apply Nat.eq_of_testBit_eq
  intro j
  rw [Nat.testBit_div_two_pow, natOf_testBit]
  by_cases hj : j < 8 - u
  · have e : decide (j < 8 - u) = true := by simpa using hj
    have e2 := h j hj
    rw [Nat.add_comm u j] at e2
    rw [e, e2, Bool.true_and]
  · have e : decide (j < 8 - u) = false := by simpa using hj
    rw [e, Bool.false_and]
    exact Nat.testBit_lt_two_pow (Nat.lt_of_lt_of_le hx (Nat.pow_le_pow_right (n := 2) (i := 8) (by decide) (by omega)))
/-- the bits of byte s + k, as bits of the number that begins at bit 8 s + u -/
theorem bbit_byte {b : List UInt8} {s u k p : Nat} (hp : p = 8 * s + u) (t : Nat) (ht : t < 8) (hu : u ≤ 8 * k + t) : (b.getD (s + k) 0).toNat.testBit t = bbit b (p + (8 * k - u + t)) ∨ 8 * k < u := by
  subst hp
  by_cases h : 8 * k < u
  · exact .inr h
  · refine .inl ?_
    unfold bbit
    rw [show (8 * s + u + (8 * k - u + t)) / 8 = s + k by omega, show (8 * s + u + (8 * k - u + t)) % 8 = t by omega]
/-- an unused bit of the last byte is set -/
def badB (b : List UInt8) (n w : Nat) : Bool := (b.getD (n * w / 8) 0).toNat / 2 ^ (n * w % 8) != 0
theorem badB_false {b : List UInt8} {n w : Nat} (hb : b.length = szB n w) : badB b n w = false ↔ ∀ i, n * w ≤ i → i < 8 * b.length → bbit b i = false := by
  unfold badB szB at *
  generalize n * w = p at *
  rw [bne_eq_false_iff_eq]
  constructor
  · intro h i h1 h2
    unfold bbit
    have e : i / 8 = p / 8 := by omega
    have e2 : i % 8 = (i % 8 - p % 8) + p % 8 := by omega
    rw [e, e2, ← Nat.testBit_div_two_pow, h, Nat.zero_testBit]
  · intro h
    apply Nat.eq_of_testBit_eq
    intro j
    rw [Nat.testBit_div_two_pow, Nat.zero_testBit]
    by_cases hj : j + p % 8 < 8
    · by_cases hl : p / 8 < b.length
      · have h3 := h (p + j) (by omega) (by omega)
        unfold bbit at h3
        rw [show (p + j) / 8 = p / 8 by omega, show (p + j) % 8 = j + p % 8 by omega] at h3
        exact h3
      · rw [List.getD_eq_getElem?_getD, List.getElem?_eq_none (by omega)]
        simp
    · exact Nat.testBit_lt_two_pow (Nat.lt_of_lt_of_le (UInt8.toNat_lt _) (Nat.pow_le_pow_right (n := 2) (i := 8) (by decide) (by omega)))
theorem badB_zero {b : List UInt8} {n w : Nat} (hb : b.length = szB n w) (h0 : n * w % 8 = 0) : badB b n w = false := by
  rw [badB_false hb]
  intro i h1 h2
  unfold szB at hb
  omega
end Go.Proofs.Ytjjeebaelpgjlaa
