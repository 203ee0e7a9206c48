/-
  Texts that the claims of this seat share, put together (EncNum, BsNum, RunNum, FixNum, CrcNum, HashNum). No condition.
-/
import Derived.Test.YtgegjoggiadgbaaM1
import Derived.Lib.BitFns
/-
  Shaken: what the claims of this seat need of this text. No condition.
-/
namespace Go.Proofs.Ytgegjoggiadgbaa
set_option maxRecDepth 8000
open Go.RowKit
def encF : Nat → Nat → List UInt8
  | 0, _ => []
  | f + 1, n => if n < 128 then [UInt8.ofNat n] else UInt8.ofNat (128 + n % 128) :: encF f (n / 128)
def enc (n : Nat) : List UInt8 := encF 10 n
theorem encF_last {f n : Nat} (h : n < 128) : encF (f + 1) n = [UInt8.ofNat n] := by rw [encF, if_pos h]
theorem encF_more {f n : Nat} (h : ¬ n < 128) : encF (f + 1) n = UInt8.ofNat (128 + n % 128) :: encF f (n / 128) := by rw [encF, if_neg h]
theorem ofNat_toNat {n : Nat} (h : n < 256) : (UInt8.ofNat n).toNat = n := by rw [UInt8.toNat_ofNat']; exact Nat.mod_eq_of_lt (by omega)
def esz (n : Nat) : Nat := max 1 ((Lib.bitLen n + 6) / 7)
theorem bitLen_lo : ∀ (f x : Nat), x < 2 ^ f → x ≠ 0 → 2 ^ (Lib.bitLenAux f x - 1) ≤ x ∧ 1 ≤ Lib.bitLenAux f x ∧ x < 2 ^ Lib.bitLenAux f x
  | 0, x, h, h0 => by simp at h; omega
  | f + 1, x, h, h0 => by
    simp only [Lib.bitLenAux, if_neg h0]
    by_cases h1 : x / 2 = 0
    · have hx : x = 1 := by omega
      subst hx
      have : Lib.bitLenAux f (1 / 2) = 0 := by cases f <;> simp [Lib.bitLenAux]
      rw [this]
      exact ⟨by decide, by omega, by decide⟩
    · obtain ⟨a, b, c⟩ := bitLen_lo f (x / 2) (by rw [Nat.pow_succ] at h; omega) h1
      refine ⟨?_, by omega, ?_⟩
      · have e : 1 + Lib.bitLenAux f (x / 2) - 1 = (Lib.bitLenAux f (x / 2) - 1) + 1 := by omega
        rw [e, Nat.pow_succ]; omega
      · rw [Nat.add_comm 1, Nat.pow_succ]; omega
theorem bitLen_bd {n : Nat} (h : n < 18446744073709551616) : Lib.bitLen n ≤ 64 := Lib.bitLen_le n 64 (by omega) (by omega)
theorem esz_bd {n : Nat} (h : n < 18446744073709551616) : 1 ≤ esz n ∧ esz n ≤ 10 := by
  have := bitLen_bd h
  unfold esz; omega
theorem esz_small {n : Nat} (h : n < 128) : esz n = 1 := by
  have h1 := Lib.bitLen_le n 7 (by omega) (by omega)
  unfold esz; omega
theorem esz_step {n : Nat} (h : ¬ n < 128) (hn : n < 18446744073709551616) : esz n = esz (n / 128) + 1 := by
  have h1 := Lib.bitLen_shift 7 n (by omega) (by omega)
  have e : (2 : Nat) ^ 7 = 128 := by decide
  rw [e] at h1
  have h2 : 1 ≤ Lib.bitLen (n / 128) := (bitLen_lo 64 (n / 128) (by omega) (by omega)).2.1
  unfold esz; omega
theorem encF_length : ∀ (f n : Nat), n < 18446744073709551616 → esz n ≤ f → (encF f n).length = esz n
  | 0, n, hn, h => by have := esz_bd hn; omega
  | f + 1, n, hn, h => by
    by_cases h1 : n < 128
    · rw [encF_last h1, esz_small h1]; rfl
    · rw [encF_more h1, List.length_cons, encF_length f (n / 128) (by omega) (by have := esz_step h1 hn; omega), esz_step h1 hn]
theorem enc_length {n : Nat} (hn : n < 18446744073709551616) : (enc n).length = esz n := encF_length 10 n hn (esz_bd hn).2
def ebyte (n s j : Nat) : Nat := if j + 1 < s then 128 + n / 128 ^ j % 128 else n / 128 ^ j % 128
theorem ebyte_lt (n s j : Nat) : ebyte n s j < 256 := by unfold ebyte; split <;> omega
theorem encF_get : ∀ (f n : Nat), n < 18446744073709551616 → esz n ≤ f → encF f n = (List.range (esz n)).map fun j => UInt8.ofNat (ebyte n (esz n) j)
  | 0, n, hn, h => by have := esz_bd hn; omega
  | f + 1, n, hn, h => by
    by_cases h1 : n < 128
    · rw [encF_last h1, esz_small h1]
      have : n % 128 = n := by omega
      simp [List.range_succ, ebyte, this]
    · rw [encF_more h1, encF_get f (n / 128) (by omega) (by have := esz_step h1 hn; omega), esz_step h1 hn, List.range_succ_eq_map, List.map_cons, List.map_map]
      have hp := (esz_bd (n := n / 128) (by omega)).1
      congr 1
      · show UInt8.ofNat _ = UInt8.ofNat (ebyte n _ 0)
        unfold ebyte
        rw [if_pos (by omega)]
        simp
      · apply List.map_congr_left
        intro j _
        have e : n / 128 / 128 ^ j = n / 128 ^ (j + 1) := by rw [Nat.div_div_eq_div_mul, Nat.pow_succ, Nat.mul_comm]
        simp only [Function.comp, ebyte, e, Nat.succ_eq_add_one]
        congr 1
        by_cases hj : j + 1 < esz (n / 128)
        · rw [if_pos hj, if_pos (by omega)]
        · rw [if_neg hj, if_neg (by omega)]
theorem enc_get {n : Nat} (hn : n < 18446744073709551616) : enc n = (List.range (esz n)).map fun j => UInt8.ofNat (ebyte n (esz n) j) := encF_get 10 n hn (esz_bd hn).2
theorem split_sum (m i : Nat) : m % 128 * 128 ^ i + m / 128 * 128 ^ (i + 1) = m * 128 ^ i := by
  have e : m / 128 * 128 ^ (i + 1) = m / 128 * 128 * 128 ^ i := by rw [pow_step, Nat.mul_comm (128 ^ i) 128, Nat.mul_assoc]
  rw [e, ← Nat.add_mul]
  congr 1
  omega
theorem dec_encF : ∀ (f m i x : Nat) (r : List UInt8), m < 128 ^ (f + 1) → i + f ≤ 9 → (0 < i → 0 < m) → m * 128 ^ i < 18446744073709551616 →
    dec i x (encF (f + 1) m ++ r) = (x + m * 128 ^ i, i + (encF (f + 1) m).length, 0) := by
  have last : ∀ (f m i x : Nat) (r : List UInt8), m < 128 → i ≤ 9 → (0 < i → 0 < m) → m * 128 ^ i < 18446744073709551616 →
      dec i x (encF (f + 1) m ++ r) = (x + m * 128 ^ i, i + (encF (f + 1) m).length, 0) := by
    intro f m i x r hm hi h0 hb
    have hc : (UInt8.ofNat m).toNat = m := ofNat_toNat (by omega)
    rw [encF_last hm, List.singleton_append, dec_last, hc]
    · have : m % 128 = m := by omega
      rw [this]; rfl
    · rw [hc]
      intro hbad
      rcases hbad with ⟨rfl, h1⟩ | ⟨h1, h2⟩
      · have e : (128 : Nat) ^ 9 = 9223372036854775808 := by decide
        rw [e] at hb
        omega
      · have := h0 h1; omega
    · rw [hc]; exact hm
  intro f
  induction f with
  | zero => intro m i x r hm hi h0 hb; exact last 0 m i x r (by omega) (by omega) h0 hb
  | succ f ih =>
    intro m i x r hm hi h0 hb
    by_cases h1 : m < 128
    · exact last (f + 1) m i x r h1 (by omega) h0 hb
    · have hc : (UInt8.ofNat (128 + m % 128)).toNat = 128 + m % 128 := ofNat_toNat (by omega)
      have hs := split_sum m i
      have e2 : (128 + m % 128) % 128 = m % 128 := by omega
      rw [encF_more h1, List.cons_append, dec_more, hc, e2, ih (m / 128) (i + 1) _ r (by rw [Nat.pow_succ] at hm; omega) (by omega) (fun _ => by omega) (by omega), List.length_cons]
      · congr 1
        · omega
        · congr 1; omega
      · rw [hc]; omega
      · rw [hc]; omega
theorem dec_enc {n : Nat} (hn : n < 18446744073709551616) (r : List UInt8) : dec 0 0 (enc n ++ r) = (n, esz n, 0) := by
  have h := dec_encF 9 n 0 0 r (by omega) (by omega) (fun h => absurd h (by omega)) (by simpa using hn)
  have e : encF (9 + 1) n = enc n := rfl
  rw [e, enc_length hn] at h
  simpa using h
theorem encF_dec : ∀ (f i x : Nat) (l : List UInt8) (n k : Nat), i + f = 9 → dec i x l = (n, k, 0) →
    ∃ m, n = x + m * 128 ^ i ∧ k = i + (encF (f + 1) m).length ∧ m < 128 ^ (f + 1) ∧ encF (f + 1) m = l.take (k - i) ∧ i < k ∧ k ≤ i + l.length ∧ (0 < i → 0 < m)
  | f, i, x, [], n, k, _, h => by rw [dec_end] at h; simp at h
  | f, i, x, c :: r, n, k, hi, h => by
    by_cases hb : (i = 9 ∧ 1 < c.toNat) ∨ (0 < i ∧ c.toNat = 0)
    · rw [dec_bad hb] at h; simp at h
    · have hcl : c.toNat < 256 := c.toNat_lt
      by_cases hc : c.toNat < 128
      · rw [dec_last hb hc] at h
        simp only [Prod.mk.injEq] at h
        obtain ⟨rfl, rfl, _⟩ := h
        have hm : c.toNat % 128 = c.toNat := by omega
        refine ⟨c.toNat, by rw [hm], by rw [encF_last hc]; rfl, Nat.lt_of_lt_of_le hc (Nat.le_self_pow (by omega) 128), ?_, by omega, by simp, fun h0 => by omega⟩
        rw [encF_last hc]
        have e : i + 1 - i = 1 := by omega
        rw [e]
        simp
      · rw [dec_more hb hc] at h
        cases f with
        | zero => omega
        | succ f =>
          obtain ⟨m, rfl, rfl, hm, ht, hk1, hk2, h0⟩ := encF_dec f (i + 1) _ r n k (by omega) h
          have hmp := h0 (by omega)
          have hbig : ¬ (c.toNat % 128 + 128 * m < 128) := by omega
          have hd : (c.toNat % 128 + 128 * m) / 128 = m := by omega
          have hr : (c.toNat % 128 + 128 * m) % 128 = c.toNat % 128 := by omega
          have hlen : (encF (f + 1 + 1) (c.toNat % 128 + 128 * m)).length = (encF (f + 1) m).length + 1 := by rw [encF_more hbig, hd, List.length_cons]
          refine ⟨c.toNat % 128 + 128 * m, ?_, by rw [hlen]; omega, by rw [Nat.pow_succ]; omega, ?_, by omega, by simp only [List.length_cons]; omega, fun _ => by omega⟩
          · rw [pow_step, Nat.add_mul, Nat.add_assoc]
            congr 2
            rw [Nat.mul_comm (128 ^ i) 128, ← Nat.mul_assoc, Nat.mul_comm m 128]
          · have e1 : i + 1 + (encF (f + 1) m).length - i = (i + 1 + (encF (f + 1) m).length - (i + 1)) + 1 := by omega
            rw [encF_more hbig, hd, hr, e1, List.take_succ_cons, ← ht]
            congr 1
            have e3 : 128 + c.toNat % 128 = c.toNat := by omega
            rw [e3]
            exact UInt8.ofNat_toNat
theorem enc_dec {l : List UInt8} {n k : Nat} (h : dec 0 0 l = (n, k, 0)) : enc n = l.take k ∧ 1 ≤ k ∧ k ≤ l.length := by
  obtain ⟨m, hn, hk, hm, ht, h1, h2, _⟩ := encF_dec 9 0 0 l n k (by omega) h
  have e : n = m := by rw [hn]; simp
  subst e
  have ht' : encF 10 n = l.take k := by simpa using ht
  exact ⟨ht', by omega, by omega⟩
theorem enc_or {n k : Nat} : bits .or .u8 (IntKind.u8.wrap ((n : Int) / 2 ^ (7 * k))) 128 = ((128 + n / 128 ^ k % 128 : Nat) : Int) := by
  have hp : (2 : Nat) ^ (7 * k) = 128 ^ k := by rw [Nat.pow_mul]
  have e : ((n : Int) / 2 ^ (7 * k)) = ((n / 128 ^ k : Nat) : Int) := by rw [← hp]; simp
  rw [e, IntKind.wrap_u8']
  generalize n / 128 ^ k = q
  have e2 : ((q : Int) % 256) = ((q % 256 : Nat) : Int) := by omega
  rw [e2]
  have h1 := u8_or_nat (q % 256) 128 (by omega) (by omega)
  rw [show ((128 : Nat) : Int) = 128 from rfl] at h1
  rw [h1]
  have h2 : q % 256 ||| 128 = 128 + q % 128 := by
    have := nat_bit 7 (q % 256)
    have hfin : ∀ r : Fin 256, r.val ||| 128 = 128 + r.val % 128 := by decide +kernel
    have h3 := hfin ⟨q % 256, by omega⟩
    simp only at h3
    rw [h3]; omega
  rw [h2]
theorem enc_andNot (r : Nat) (h : r < 128) : bits .andNot .u8 ((128 + r : Nat) : Int) 128 = (r : Int) := by
  have h1 := u8_andNot_nat (128 + r) 128 (by omega) (by omega)
  rw [show ((128 : Nat) : Int) = 128 from rfl] at h1
  rw [h1, nat_mask7]
  omega
def encRow (n s k : Nat) : List Value := (List.range s).map fun j => if j < k then .int .u8 ((128 + n / 128 ^ j % 128 : Nat) : Int) else .int .u8 0
theorem encRow_length (n s k : Nat) : (encRow n s k).length = s := by simp [encRow]
theorem encRow_zero (n s : Nat) : (madeCells #[Value.int .u8 0] s) = (encRow n s 0).toArray := by
  apply Array.toList_inj.1
  rw [toList_madeCells_one]
  simp [encRow, List.map_const']
theorem encRow_get {n s k j : Nat} (h : j < s) : (encRow n s k)[j]? = some (if j < k then .int .u8 ((128 + n / 128 ^ j % 128 : Nat) : Int) else .int .u8 0) := by simp [encRow, h]
theorem encRow_set {n s k : Nat} (h : k < s) : (encRow n s k).set k (.int .u8 ((128 + n / 128 ^ k % 128 : Nat) : Int)) = encRow n s (k + 1) := by
  apply List.ext_getElem?
  intro j
  rw [List.getElem?_set]
  by_cases hj : j < s
  · rw [encRow_get hj, encRow_get hj, encRow_length]
    by_cases hjk : k = j
    · subst hjk; simp [h]
    · rw [if_neg hjk]
      by_cases h2 : j < k
      · rw [if_pos h2, if_pos (by omega)]
      · rw [if_neg h2, if_neg (by omega)]
  · have h1 : (encRow n s k)[j]? = none := List.getElem?_eq_none (by rw [encRow_length]; omega)
    have h2 : (encRow n s (k + 1))[j]? = none := List.getElem?_eq_none (by rw [encRow_length]; omega)
    rw [h1, h2, if_neg (by omega)]
theorem encRow_done {n : Nat} (hn : n < 18446744073709551616) : (encRow n (esz n) (esz n)).set (esz n - 1) (.int .u8 ((n / 128 ^ (esz n - 1) % 128 : Nat) : Int)) = bcells (enc n) := by
  have hb := esz_bd hn
  rw [enc_get hn]
  apply List.ext_getElem?
  intro j
  rw [List.getElem?_set]
  by_cases hj : j < esz n
  · rw [encRow_get hj, encRow_length, if_pos hj]
    have hr : (bcells ((List.range (esz n)).map fun j => UInt8.ofNat (ebyte n (esz n) j)))[j]? = some (.int .u8 (ebyte n (esz n) j : Int)) := by
      simp only [bcells, List.getElem?_map, List.getElem?_range hj, Option.map_some]
      rw [ofNat_toNat (ebyte_lt _ _ _)]
    rw [hr]
    by_cases he : esz n - 1 = j
    · rw [if_pos he, if_pos (by omega)]
      subst he
      unfold ebyte
      rw [if_neg (by omega)]
    · rw [if_neg he]
      unfold ebyte
      rw [if_pos (by omega)]
  · have h1 : (encRow n (esz n) (esz n))[j]? = none := List.getElem?_eq_none (by rw [encRow_length]; omega)
    rw [if_neg (by omega), h1, List.getElem?_eq_none]
    simp [bcells]; omega
end Go.Proofs.Ytgegjoggiadgbaa
/-
  Shaken: what the claims of this seat need of this text. No condition.
-/
namespace Go.Proofs.Ytgegjoggiadgbaa
set_option maxRecDepth 8000
open Go.RowKit
def ofBits (f : Nat → Bool) : Nat → Nat
  | 0 => 0
  | m + 1 => ofBits f m ||| (if f m then 2 ^ m else 0)
theorem testBit_ofBits (f : Nat → Bool) : ∀ m j, (ofBits f m).testBit j = (decide (j < m) && f j)
  | 0, j => by simp [ofBits]
  | m + 1, j => by
    rw [ofBits, Nat.testBit_or, testBit_ofBits f m j]
    by_cases hj : j = m
    · subst hj
      cases h : f j <;> simp
    · have h1 : (if f m then 2 ^ m else 0).testBit j = false := by
        split
        · rw [Nat.testBit_two_pow]; simp; omega
        · simp
      rw [h1, Bool.or_false]
      have : decide (j < m + 1) = decide (j < m) := by simp; omega
      rw [this]
theorem ofBits_lt (f : Nat → Bool) : ∀ m, ofBits f m < 2 ^ m
  | 0 => by simp [ofBits]
  | m + 1 => by
    rw [ofBits]
    have h := ofBits_lt f m
    have h2 : 2 ^ m < 2 ^ (m + 1) := Nat.pow_lt_pow_right (by decide) (by omega)
    refine Nat.or_lt_two_pow (by omega) ?_
    split
    · exact h2
    · exact Nat.two_pow_pos _
def wordOf (f : Nat → Bool) : UInt64 := UInt64.ofNat (ofBits f 64)
theorem wordOf_toNat (f : Nat → Bool) : (wordOf f).toNat = ofBits f 64 := by
  unfold wordOf
  rw [UInt64.toNat_ofNat']
  exact Nat.mod_eq_of_lt (ofBits_lt f 64)
def wbit (w : UInt64) (j : Nat) : Bool := w.toNat.testBit j
theorem wbit_ge {w : UInt64} {j : Nat} (h : 64 ≤ j) : wbit w j = false :=
  Nat.testBit_lt_two_pow (Nat.lt_of_lt_of_le w.toNat_lt (Nat.pow_le_pow_right (by decide) h))
theorem wbit_wordOf (f : Nat → Bool) (j : Nat) : wbit (wordOf f) j = (decide (j < 64) && f j) := by rw [wbit, wordOf_toNat, testBit_ofBits]
theorem word_ext {a b : UInt64} (h : ∀ j, j < 64 → wbit a j = wbit b j) : a = b := by
  apply UInt64.toNat_inj.1
  apply Nat.eq_of_testBit_eq
  intro j
  by_cases hj : j < 64
  · exact h j hj
  · exact (wbit_ge (w := a) (by omega)).trans (wbit_ge (w := b) (by omega)).symm
def nw (n : Nat) : Nat := (n + 63) / 64
def pack (n : Nat) (f : Nat → Bool) : List UInt64 := (List.range (nw n)).map fun k => wordOf fun j => decide (64 * k + j < n) && f (64 * k + j)
theorem pack_length (n : Nat) (f : Nat → Bool) : (pack n f).length = nw n := by simp [pack]
theorem pack_get {n : Nat} {f : Nat → Bool} {k : Nat} (h : k < nw n) : (pack n f)[k]? = some (wordOf fun j => decide (64 * k + j < n) && f (64 * k + j)) := by simp [pack, h]
def wmem (ws : List UInt64) (i : Nat) : Bool := match ws[i / 64]? with | some w => wbit w (i % 64) | none => false
def mem (n : Nat) (ws : List UInt64) (i : Nat) : Bool := decide (i < n) && wmem ws i
theorem mem_pack (n : Nat) (f : Nat → Bool) (i : Nat) : mem n (pack n f) i = (decide (i < n) && f i) := by
  unfold mem wmem
  by_cases h : i < n
  · have hk : i / 64 < nw n := by unfold nw; omega
    rw [pack_get hk]
    simp only [wbit_wordOf]
    rw [show 64 * (i / 64) + i % 64 = i by omega]
    have : i % 64 < 64 := by omega
    simp [h, this]
  · simp [h]
theorem pack_congr {n : Nat} {f g : Nat → Bool} (h : ∀ i, i < n → f i = g i) : pack n f = pack n g := by
  unfold pack
  apply List.map_congr_left
  intro k _
  apply word_ext
  intro j _
  rw [wbit_wordOf, wbit_wordOf]
  by_cases hi : 64 * k + j < n
  · simp [hi, h _ hi]
  · simp [hi]
def okW (n : Nat) (ws : List UInt64) : Prop := ws.length = nw n ∧ ∀ i, n ≤ i → wmem ws i = false
theorem okW_pack (n : Nat) (f : Nat → Bool) : okW n (pack n f) := by
  refine ⟨pack_length n f, fun i hi => ?_⟩
  unfold wmem
  by_cases hk : i / 64 < nw n
  · rw [pack_get hk]
    simp only [wbit_wordOf]
    rw [show 64 * (i / 64) + i % 64 = i by omega]
    have : ¬ i < n := by omega
    simp [this]
  · rw [List.getElem?_eq_none (by rw [pack_length]; omega)]
theorem pack_mem {n : Nat} {ws : List UInt64} (h : okW n ws) : pack n (mem n ws) = ws := by
  apply List.ext_getElem?
  intro k
  by_cases hk : k < nw n
  · have hk2 : k < ws.length := by rw [h.1]; exact hk
    rw [pack_get hk, List.getElem?_eq_getElem hk2]
    congr 1
    apply word_ext
    intro j hj
    rw [wbit_wordOf]
    have e1 : (64 * k + j) / 64 = k := by omega
    have e2 : (64 * k + j) % 64 = j := by omega
    have hm : wmem ws (64 * k + j) = wbit ws[k] j := by
      unfold wmem
      rw [e1, List.getElem?_eq_getElem hk2, e2]
    by_cases hi : 64 * k + j < n
    · simp [hj, hi, mem, hm]
    · have := h.2 _ (Nat.le_of_not_lt hi)
      rw [hm] at this
      simp [hj, hi, this]
  · rw [List.getElem?_eq_none (by rw [pack_length]; omega), List.getElem?_eq_none (by rw [h.1]; omega)]
theorem or_bit {w : UInt64} {j : Nat} (hj : j < 64) : ∀ i, wbit (UInt64.ofNat (w.toNat ||| 2 ^ j)) i = (wbit w i || decide (i = j)) := by
  intro i
  have hl : w.toNat ||| 2 ^ j < 2 ^ 64 := Nat.or_lt_two_pow w.toNat_lt (Nat.pow_lt_pow_right (by decide) hj)
  unfold wbit
  rw [UInt64.toNat_ofNat', Nat.mod_eq_of_lt hl, Nat.testBit_or, Nat.testBit_two_pow]
  congr 1
  rw [decide_eq_decide]
  exact ⟨Eq.symm, Eq.symm⟩
theorem pack_set {n : Nat} {f : Nat → Bool} {i : Nat} (hi : i < n) (w : UInt64) (hw : (pack n f)[i / 64]? = some w) :
    (pack n f).set (i / 64) (UInt64.ofNat (w.toNat ||| 2 ^ (i % 64))) = pack n fun j => f j || decide (j = i) := by
  have hk : i / 64 < nw n := by unfold nw; omega
  rw [pack_get hk] at hw
  injection hw with hw
  apply List.ext_getElem?
  intro k
  rw [List.getElem?_set]
  by_cases hkn : k < nw n
  · rw [pack_get hkn, pack_get hkn, pack_length]
    by_cases hki : i / 64 = k
    · rw [if_pos hki, if_pos hk]
      congr 1
      apply word_ext
      intro j hj
      rw [or_bit (by omega), ← hw, wbit_wordOf, wbit_wordOf]
      subst hki
      by_cases hlt : 64 * (i / 64) + j < n
      · have e : decide (64 * (i / 64) + j = i) = decide (j = i % 64) := by rw [decide_eq_decide]; omega
        simp [hj, hlt, e]
      · have e : decide (j = i % 64) = false := by simp; omega
        simp [hj, hlt, e]
    · rw [if_neg hki]
      congr 1
      apply word_ext
      intro j hj
      rw [wbit_wordOf, wbit_wordOf]
      have e : decide (64 * k + j = i) = false := by simp; omega
      simp [e]
  · rw [List.getElem?_eq_none (by rw [pack_length]; omega), List.getElem?_eq_none (by rw [pack_length]; omega), if_neg]
    intro h
    omega
def elems (f : Nat → Bool) : Nat → List Nat
  | 0 => []
  | n + 1 => elems f n ++ (if f n then [n] else [])
end Go.Proofs.Ytgegjoggiadgbaa
/-
  Shaken: what the claims of this seat need of this text. No condition.
-/
namespace Go.Proofs.Ytgegjoggiadgbaa
set_option maxRecDepth 8000
open Go.RowKit
def bitsOf (f : Nat → Bool) (n : Nat) : List Bool := (List.range n).map f
theorem bitsOf_length (f : Nat → Bool) (n : Nat) : (bitsOf f n).length = n := by simp [bitsOf]
def decR (l : List UInt8) (n : Nat) : Nat → List Bool → Bool → Bool → Int → List Bool × Int × Int
  | 0, _, _, _, _ => ([], 0, 0)
  | k + 1, out, on, first, p =>
    if n ≤ out.length then (out, p, 0)
    else if (dcd l p).2.2 ≠ 0 then ([], 0, (dcd l p).2.2)
    else if ((dcd l p).1 = 0 ∧ first = false) ∨ ((n : Int) - out.length < (dcd l p).1) then ([], 0, 4)
    else decR l n k (out ++ List.replicate (dcd l p).1.toNat on) (!on) false (dcd l p).2.1
def decS (l : List UInt8) (off : Int) : Nat × List Bool × Int × Int :=
  if (dcd l off).2.2 ≠ 0 then (0, [], 0, (dcd l off).2.2)
  else if 1048576 < (dcd l off).1 then (0, [], 0, 6)
  else
    let r := decR l (dcd l off).1.toNat ((dcd l off).1.toNat + 2) [] false true (dcd l off).2.1
    if r.2.2 ≠ 0 then (0, [], 0, r.2.2) else ((dcd l off).1.toNat, r.1, r.2.1, 0)
end Go.Proofs.Ytgegjoggiadgbaa
/-
  Shaken: what the claims of this seat need of this text. No condition.
-/
namespace Go.Proofs.Ytgegjoggiadgbaa
set_option maxRecDepth 8000
open Go.RowKit
def fixb (n s : Nat) : List UInt8 := (List.range s).map fun j => UInt8.ofNat (n / 256 ^ j % 256)
theorem fixb_length (n s : Nat) : (fixb n s).length = s := by simp [fixb]
theorem fixb_succ (n s : Nat) : fixb n (s + 1) = fixb n s ++ [UInt8.ofNat (n / 256 ^ s % 256)] := by simp [fixb, List.range_succ]
def fixs (n : Nat) (size : Int) : List UInt8 := if 1 ≤ size ∧ size ≤ 8 then fixb n size.toNat else []
theorem fixs_ok {n : Nat} {s : Nat} (h0 : 1 ≤ s) (h1 : s ≤ 8) : fixs n (s : Int) = fixb n s := by unfold fixs; rw [if_pos (by omega)]; simp
theorem fixs_bad {n : Nat} {size : Int} (h : size < 1 ∨ 8 < size) : fixs n size = [] := by unfold fixs; rw [if_neg (by omega)]
def fixRow (n s k : Nat) : List Value := (List.range s).map fun j => if j < k then .int .u8 ((n / 256 ^ j % 256 : Nat) : Int) else .int .u8 0
theorem fixRow_length (n s k : Nat) : (fixRow n s k).length = s := by simp [fixRow]
theorem fixRow_zero (n s : Nat) : (madeCells #[Value.int .u8 0] s) = (fixRow n s 0).toArray := by
  apply Array.toList_inj.1
  rw [toList_madeCells_one]
  simp [fixRow, List.map_const']
theorem fixRow_get {n s k j : Nat} (h : j < s) : (fixRow n s k)[j]? = some (if j < k then .int .u8 ((n / 256 ^ j % 256 : Nat) : Int) else .int .u8 0) := by simp [fixRow, h]
theorem fixRow_set {n s k : Nat} (h : k < s) : (fixRow n s k).set k (.int .u8 ((n / 256 ^ k % 256 : Nat) : Int)) = fixRow n s (k + 1) := by
  apply List.ext_getElem?
  intro j
  rw [List.getElem?_set]
  by_cases hj : j < s
  · rw [fixRow_get hj, fixRow_get hj, fixRow_length]
    by_cases hjk : k = j
    · subst hjk; simp [h]
    · rw [if_neg hjk]
      by_cases h2 : j < k
      · rw [if_pos h2, if_pos (by omega)]
      · rw [if_neg h2, if_neg (by omega)]
  · have h1 : (fixRow n s k)[j]? = none := List.getElem?_eq_none (by rw [fixRow_length]; omega)
    have h2 : (fixRow n s (k + 1))[j]? = none := List.getElem?_eq_none (by rw [fixRow_length]; omega)
    rw [h1, h2, if_neg (by omega)]
theorem fixRow_done (n s : Nat) : fixRow n s s = bcells (fixb n s) := by
  unfold fixRow bcells fixb
  rw [List.map_map]
  apply List.map_congr_left
  intro j hj
  rw [List.mem_range] at hj
  rw [if_pos hj]
  simp only [Function.comp]
  rw [ofNat_toNat (by omega)]
theorem fix_byte (n k : Nat) : IntKind.u8.wrap ((n : Int) / 2 ^ (8 * k)) = ((n / 256 ^ k % 256 : Nat) : Int) := by
  have hp : (2 : Nat) ^ (8 * k) = 256 ^ k := by rw [Nat.pow_mul]
  have e : ((n : Int) / 2 ^ (8 * k)) = ((n / 256 ^ k : Nat) : Int) := by rw [← hp]; simp
  rw [e, IntKind.wrap_u8']
  omega
def le : List UInt8 → Nat
  | [] => 0
  | c :: r => c.toNat + 256 * le r
theorem le_snoc : ∀ (l : List UInt8) (c : UInt8), le (l ++ [c]) = le l + c.toNat * 256 ^ l.length
  | [], c => by simp [le]
  | d :: l, c => by
    rw [List.cons_append, le, le, le_snoc l c, List.length_cons, Nat.pow_succ, Nat.mul_add, ← Nat.add_assoc]
    congr 1
    rw [Nat.mul_comm 256, Nat.mul_assoc]
theorem le_lt : ∀ (l : List UInt8), le l < 256 ^ l.length
  | [] => by simp [le]
  | c :: l => by
    have h := le_lt l
    have hc : c.toNat < 256 := c.toNat_lt
    rw [le, List.length_cons, Nat.pow_succ]
    omega
theorem le_lt64 {l : List UInt8} (h : l.length ≤ 8) : le l < 18446744073709551616 := by
  have h1 := le_lt l
  have h2 : 256 ^ l.length ≤ 256 ^ 8 := Nat.pow_le_pow_right (by decide) h
  have e : (256 : Nat) ^ 8 = 18446744073709551616 := by decide
  omega
theorem take_snoc' {l : List UInt8} {o k : Nat} (h : o + k < l.length) : (l.drop o).take (k + 1) = (l.drop o).take k ++ [l[o + k]] := by
  rw [List.take_succ_eq_append_getElem (by rw [List.length_drop]; omega)]
  simp
theorem le_fixb : ∀ (s n : Nat), le (fixb n s) = n % 256 ^ s
  | 0, n => by simp [fixb, le]; omega
  | s + 1, n => by
    rw [fixb_succ, le_snoc, le_fixb s n, fixb_length, ofNat_toNat (by omega)]
    rw [Nat.pow_succ, Nat.mod_mul, Nat.mul_comm (256 ^ s)]
theorem read_or {x k : Nat} {c : UInt8} (hk : k < 8) (hx : x < 256 ^ k) :
    bits .or .u64 (x : Int) (IntKind.u64.wrap ((c.toNat : Int) * 2 ^ (8 * k))) = ((x + c.toNat * 256 ^ k : Nat) : Int) := by
  have hp : (2 : Nat) ^ (8 * k) = 256 ^ k := by rw [Nat.pow_mul]
  have hc : c.toNat < 256 := c.toNat_lt
  have h8 : 256 ^ k ≤ 256 ^ 7 := Nat.pow_le_pow_right (by decide) (by omega)
  have e7 : (256 : Nat) ^ 7 = 72057594037927936 := by decide
  have hm : c.toNat * 256 ^ k ≤ 255 * 256 ^ k := Nat.mul_le_mul_right _ (by omega)
  have e : ((c.toNat : Int) * 2 ^ (8 * k)) = ((c.toNat * 256 ^ k : Nat) : Int) := by rw [← hp]; simp
  have h2 : IntKind.u64.wrap ((c.toNat : Int) * 2 ^ (8 * k)) = ((c.toNat * 256 ^ k : Nat) : Int) := by
    rw [e, IntKind.wrap_u64]; omega
  rw [h2, u64_or_nat x _ (by omega) (by omega)]
  have hj := nat_join (8 * k) (c.toNat * 256 ^ k) x (by rw [hp]; exact Nat.mul_mod_left _ _) (by rw [hp]; exact hx)
  rw [Nat.or_comm, hj, Nat.add_comm]
def rdf (l : List UInt8) (off size : Int) : Int × Int :=
  if (size < 1 ∨ 8 < size) ∨ (off < 0 ∨ (l.length : Int) < off) then (0, 1)
  else if (l.length : Int) - off < size then (0, 2)
  else ((le ((l.drop off.toNat).take size.toNat) : Int), 0)
theorem rdf_arg {l : List UInt8} {off size : Int} (h : (size < 1 ∨ 8 < size) ∨ (off < 0 ∨ (l.length : Int) < off)) : rdf l off size = (0, 1) := by unfold rdf; rw [if_pos h]
theorem rdf_short {l : List UInt8} {off size : Int} (h : ¬ ((size < 1 ∨ 8 < size) ∨ (off < 0 ∨ (l.length : Int) < off))) (h2 : (l.length : Int) - off < size) : rdf l off size = (0, 2) := by
  unfold rdf; rw [if_neg h, if_pos h2]
theorem rdf_ok {l : List UInt8} {o s : Nat} (h0 : 1 ≤ s) (h1 : s ≤ 8) (h2 : o + s ≤ l.length) : rdf l (o : Int) (s : Int) = ((le ((l.drop o).take s) : Int), 0) := by
  unfold rdf; rw [if_neg (by omega), if_neg (by omega)]; simp
end Go.Proofs.Ytgegjoggiadgbaa
/-
  Shaken: what the claims of this seat need of this text. No condition.
-/
namespace Go.Proofs.Ytgegjoggiadgbaa
set_option maxRecDepth 8000
open Go.RowKit
end Go.Proofs.Ytgegjoggiadgbaa
/-
  Shaken: what the claims of this seat need of this text. No condition.
-/
namespace Go.Proofs.Ytgegjoggiadgbaa
set_option maxRecDepth 8000
open Go.RowKit
def hashL : Nat → Nat → List UInt8 → Nat
  | 0, h, _ => h
  | f + 1, h, l => if l = [] then h else hashL f (mix (h ^^^ le (l.take 8))) (l.drop 8)
def hashOf (seed : Nat) (l : List UInt8) : Nat := hashL l.length (mix (seed ^^^ l.length)) l
theorem hashL_nil : ∀ (f h : Nat), hashL f h [] = h
  | 0, _ => rfl
  | f + 1, h => by rw [hashL, if_pos rfl]
theorem hashL_cons {f h : Nat} {l : List UInt8} (hl : l ≠ []) : hashL (f + 1) h l = hashL f (mix (h ^^^ le (l.take 8))) (l.drop 8) := by rw [hashL, if_neg hl]
theorem hashL_lt : ∀ (f h : Nat) (l : List UInt8), h < 18446744073709551616 → hashL f h l < 18446744073709551616
  | 0, _, _, hh => hh
  | f + 1, h, l, hh => by
    rw [hashL]
    split
    · exact hh
    · exact hashL_lt f _ _ mix_lt
theorem le8_lt (l : List UInt8) : le (l.take 8) < 18446744073709551616 := le_lt64 (by rw [List.length_take]; omega)
end Go.Proofs.Ytgegjoggiadgbaa
