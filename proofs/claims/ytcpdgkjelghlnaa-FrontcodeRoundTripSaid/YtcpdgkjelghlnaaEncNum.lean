/-
  The encoding of a number as a varint, as a plain function ('enc'), its length, its bytes one by one, and that 'dec' inverts it. No condition beyond n < 2^64.
-/
import Derived.Test.YtcpdgkjelghlnaaDecNum
import Derived.Lib.BitFns
namespace Go.Proofs.Ytcpdgkjelghlnaa
open Go.RowKit

def encF : Nat → Nat → List UInt8
  | 0, _ => []
  | f + 1, n => if n < 128 then [UInt8.ofNat n] else UInt8.ofNat (128 + n % 128) :: encF f (n / 128)
def enc (n : Nat) : List UInt8 := encF 10 n

theorem encF_last {f n : Nat} (h : n < 128) : encF (f + 1) n = [UInt8.ofNat n] := by rw [encF, if_pos h]
theorem encF_more {f n : Nat} (h : ¬ n < 128) : encF (f + 1) n = UInt8.ofNat (128 + n % 128) :: encF f (n / 128) := by rw [encF, if_neg h]

theorem ofNat_toNat {n : Nat} (h : n < 256) : (UInt8.ofNat n).toNat = n := by rw [UInt8.toNat_ofNat']; exact Nat.mod_eq_of_lt (by omega)

/-- the number of bytes -/
def esz (n : Nat) : Nat := max 1 ((Lib.bitLen n + 6) / 7)

theorem bitLen_lo : ∀ (f x : Nat), x < 2 ^ f → x ≠ 0 → 2 ^ (Lib.bitLenAux f x - 1) ≤ x ∧ 1 ≤ Lib.bitLenAux f x ∧ x < 2 ^ Lib.bitLenAux f x
  | 0, x, h, h0 => by simp at h; omega
  | f + 1, x, h, h0 => by
    simp only [Lib.bitLenAux, if_neg h0]
    by_cases h1 : x / 2 = 0
    · have hx : x = 1 := by omega
      subst hx
      have : Lib.bitLenAux f (1 / 2) = 0 := by cases f <;> simp [Lib.bitLenAux]
      rw [this]
      exact ⟨by decide, by omega, by decide⟩
    · obtain ⟨a, b, c⟩ := bitLen_lo f (x / 2) (by rw [Nat.pow_succ] at h; omega) h1
      refine ⟨?_, by omega, ?_⟩
      · have e : 1 + Lib.bitLenAux f (x / 2) - 1 = (Lib.bitLenAux f (x / 2) - 1) + 1 := by omega
        rw [e, Nat.pow_succ]; omega
      · rw [Nat.add_comm 1, Nat.pow_succ]; omega

theorem bitLen_zero : Lib.bitLen 0 = 0 := by decide
theorem bitLen_bd {n : Nat} (h : n < 18446744073709551616) : Lib.bitLen n ≤ 64 := Lib.bitLen_le n 64 (by omega) (by omega)

theorem esz_bd {n : Nat} (h : n < 18446744073709551616) : 1 ≤ esz n ∧ esz n ≤ 10 := by
  have := bitLen_bd h
  unfold esz; omega

theorem esz_small {n : Nat} (h : n < 128) : esz n = 1 := by
  have h1 := Lib.bitLen_le n 7 (by omega) (by omega)
  unfold esz; omega

theorem esz_step {n : Nat} (h : ¬ n < 128) (hn : n < 18446744073709551616) : esz n = esz (n / 128) + 1 := by
  have h1 := Lib.bitLen_shift 7 n (by omega) (by omega)
  have e : (2 : Nat) ^ 7 = 128 := by decide
  rw [e] at h1
  have h2 : 1 ≤ Lib.bitLen (n / 128) := (bitLen_lo 64 (n / 128) (by omega) (by omega)).2.1
  unfold esz; omega

theorem esz_fuel : ∀ (f n : Nat), n < 128 ^ (f + 1) → n < 18446744073709551616 → esz n ≤ f + 1
  | 0, n, h, _ => by rw [esz_small (by omega)]; omega
  | f + 1, n, h, hn => by
    by_cases h1 : n < 128
    · rw [esz_small h1]; omega
    · rw [esz_step h1 hn]
      have := esz_fuel f (n / 128) (by rw [Nat.pow_succ] at h; omega) (by omega)
      omega

theorem encF_length : ∀ (f n : Nat), n < 18446744073709551616 → esz n ≤ f → (encF f n).length = esz n
  | 0, n, hn, h => by have := esz_bd hn; omega
  | f + 1, n, hn, h => by
    by_cases h1 : n < 128
    · rw [encF_last h1, esz_small h1]; rfl
    · rw [encF_more h1, List.length_cons, encF_length f (n / 128) (by omega) (by have := esz_step h1 hn; omega), esz_step h1 hn]

theorem enc_length {n : Nat} (hn : n < 18446744073709551616) : (enc n).length = esz n := encF_length 10 n hn (esz_bd hn).2

/-- byte j of the encoding -/
def ebyte (n s j : Nat) : Nat := if j + 1 < s then 128 + n / 128 ^ j % 128 else n / 128 ^ j % 128

theorem ebyte_lt (n s j : Nat) : ebyte n s j < 256 := by unfold ebyte; split <;> omega

theorem encF_get : ∀ (f n : Nat), n < 18446744073709551616 → esz n ≤ f → encF f n = (List.range (esz n)).map fun j => UInt8.ofNat (ebyte n (esz n) j)
  | 0, n, hn, h => by have := esz_bd hn; omega
  | f + 1, n, hn, h => by
    by_cases h1 : n < 128
    · rw [encF_last h1, esz_small h1]
      have : n % 128 = n := by omega
      simp [List.range_succ, ebyte, this]
    · rw [encF_more h1, encF_get f (n / 128) (by omega) (by have := esz_step h1 hn; omega), esz_step h1 hn, List.range_succ_eq_map, List.map_cons, List.map_map]
      have hp := (esz_bd (n := n / 128) (by omega)).1
      congr 1
      · show UInt8.ofNat _ = UInt8.ofNat (ebyte n _ 0)
        unfold ebyte
        rw [if_pos (by omega)]
        simp
      · apply List.map_congr_left
        intro j _
        have e : n / 128 / 128 ^ j = n / 128 ^ (j + 1) := by rw [Nat.div_div_eq_div_mul, Nat.pow_succ, Nat.mul_comm]
        simp only [Function.comp, ebyte, e, Nat.succ_eq_add_one]
        congr 1
        by_cases hj : j + 1 < esz (n / 128)
        · rw [if_pos hj, if_pos (by omega)]
        · rw [if_neg hj, if_neg (by omega)]

theorem enc_get {n : Nat} (hn : n < 18446744073709551616) : enc n = (List.range (esz n)).map fun j => UInt8.ofNat (ebyte n (esz n) j) := encF_get 10 n hn (esz_bd hn).2

/-- the last byte's group is the whole rest -/
theorem top_lt : ∀ (k n : Nat), n < 18446744073709551616 → esz n = k + 1 → n / 128 ^ k < 128
  | 0, n, hn, h => by
    by_cases h1 : n < 128
    · simpa using h1
    · have := esz_step h1 hn
      have := esz_bd (n := n / 128) (by omega)
      omega
  | k + 1, n, hn, h => by
    by_cases h1 : n < 128
    · rw [esz_small h1] at h; omega
    · have h2 := top_lt k (n / 128) (by omega) (by have := esz_step h1 hn; omega)
      rw [Nat.div_div_eq_div_mul] at h2
      rw [Nat.pow_succ, Nat.mul_comm]; exact h2

theorem split_sum (m i : Nat) : m % 128 * 128 ^ i + m / 128 * 128 ^ (i + 1) = m * 128 ^ i := by
  have e : m / 128 * 128 ^ (i + 1) = m / 128 * 128 * 128 ^ i := by rw [pow_step, Nat.mul_comm (128 ^ i) 128, Nat.mul_assoc]
  rw [e, ← Nat.add_mul]
  congr 1
  omega

/-- 'dec' inverts 'encF', whatever follows -/
theorem dec_encF : ∀ (f m i x : Nat) (r : List UInt8), m < 128 ^ (f + 1) → i + f ≤ 9 → (0 < i → 0 < m) → m * 128 ^ i < 18446744073709551616 →
    dec i x (encF (f + 1) m ++ r) = (x + m * 128 ^ i, i + (encF (f + 1) m).length, 0) := by
  have last : ∀ (f m i x : Nat) (r : List UInt8), m < 128 → i ≤ 9 → (0 < i → 0 < m) → m * 128 ^ i < 18446744073709551616 →
      dec i x (encF (f + 1) m ++ r) = (x + m * 128 ^ i, i + (encF (f + 1) m).length, 0) := by
    intro f m i x r hm hi h0 hb
    have hc : (UInt8.ofNat m).toNat = m := ofNat_toNat (by omega)
    rw [encF_last hm, List.singleton_append, dec_last, hc]
    · have : m % 128 = m := by omega
      rw [this]; rfl
    · rw [hc]
      intro hbad
      rcases hbad with ⟨rfl, h1⟩ | ⟨h1, h2⟩
      · have e : (128 : Nat) ^ 9 = 9223372036854775808 := by decide
        rw [e] at hb
        omega
      · have := h0 h1; omega
    · rw [hc]; exact hm
  intro f
  induction f with
  | zero => intro m i x r hm hi h0 hb; exact last 0 m i x r (by omega) (by omega) h0 hb
  | succ f ih =>
    intro m i x r hm hi h0 hb
    by_cases h1 : m < 128
    · exact last (f + 1) m i x r h1 (by omega) h0 hb
    · have hc : (UInt8.ofNat (128 + m % 128)).toNat = 128 + m % 128 := ofNat_toNat (by omega)
      have hs := split_sum m i
      have e2 : (128 + m % 128) % 128 = m % 128 := by omega
      rw [encF_more h1, List.cons_append, dec_more, hc, e2, ih (m / 128) (i + 1) _ r (by rw [Nat.pow_succ] at hm; omega) (by omega) (fun _ => by omega) (by omega), List.length_cons]
      · congr 1
        · omega
        · congr 1; omega
      · rw [hc]; omega
      · rw [hc]; omega

theorem dec_enc {n : Nat} (hn : n < 18446744073709551616) (r : List UInt8) : dec 0 0 (enc n ++ r) = (n, esz n, 0) := by
  have h := dec_encF 9 n 0 0 r (by omega) (by omega) (fun h => absurd h (by omega)) (by simpa using hn)
  have e : encF (9 + 1) n = enc n := rfl
  rw [e, enc_length hn] at h
  simpa using h

/-- what 'dec' accepts is the encoding of its number -/
theorem encF_dec : ∀ (f i x : Nat) (l : List UInt8) (n k : Nat), i + f = 9 → dec i x l = (n, k, 0) →
    ∃ m, n = x + m * 128 ^ i ∧ k = i + (encF (f + 1) m).length ∧ m < 128 ^ (f + 1) ∧ encF (f + 1) m = l.take (k - i) ∧ i < k ∧ k ≤ i + l.length ∧ (0 < i → 0 < m)
  | f, i, x, [], n, k, _, h => by rw [dec_end] at h; simp at h
  | f, i, x, c :: r, n, k, hi, h => by
    by_cases hb : (i = 9 ∧ 1 < c.toNat) ∨ (0 < i ∧ c.toNat = 0)
    · rw [dec_bad hb] at h; simp at h
    · have hcl : c.toNat < 256 := c.toNat_lt
      by_cases hc : c.toNat < 128
      · rw [dec_last hb hc] at h
        simp only [Prod.mk.injEq] at h
        obtain ⟨rfl, rfl, _⟩ := h
        have hm : c.toNat % 128 = c.toNat := by omega
        refine ⟨c.toNat, by rw [hm], by rw [encF_last hc]; rfl, Nat.lt_of_lt_of_le hc (Nat.le_self_pow (by omega) 128), ?_, by omega, by simp, fun h0 => by omega⟩
        rw [encF_last hc]
        have e : i + 1 - i = 1 := by omega
        rw [e]
        simp
      · rw [dec_more hb hc] at h
        cases f with
        | zero => omega
        | succ f =>
          obtain ⟨m, rfl, rfl, hm, ht, hk1, hk2, h0⟩ := encF_dec f (i + 1) _ r n k (by omega) h
          have hmp := h0 (by omega)
          have hbig : ¬ (c.toNat % 128 + 128 * m < 128) := by omega
          have hd : (c.toNat % 128 + 128 * m) / 128 = m := by omega
          have hr : (c.toNat % 128 + 128 * m) % 128 = c.toNat % 128 := by omega
          have hlen : (encF (f + 1 + 1) (c.toNat % 128 + 128 * m)).length = (encF (f + 1) m).length + 1 := by rw [encF_more hbig, hd, List.length_cons]
          refine ⟨c.toNat % 128 + 128 * m, ?_, by rw [hlen]; omega, by rw [Nat.pow_succ]; omega, ?_, by omega, by simp only [List.length_cons]; omega, fun _ => by omega⟩
          · rw [pow_step, Nat.add_mul, Nat.add_assoc]
            congr 2
            rw [Nat.mul_comm (128 ^ i) 128, ← Nat.mul_assoc, Nat.mul_comm m 128]
          · have e1 : i + 1 + (encF (f + 1) m).length - i = (i + 1 + (encF (f + 1) m).length - (i + 1)) + 1 := by omega
            rw [encF_more hbig, hd, hr, e1, List.take_succ_cons, ← ht]
            congr 1
            have e3 : 128 + c.toNat % 128 = c.toNat := by omega
            rw [e3]
            exact UInt8.ofNat_toNat

theorem enc_dec {l : List UInt8} {n k : Nat} (h : dec 0 0 l = (n, k, 0)) : enc n = l.take k ∧ 1 ≤ k ∧ k ≤ l.length := by
  obtain ⟨m, hn, hk, hm, ht, h1, h2, _⟩ := encF_dec 9 0 0 l n k (by omega) h
  have e : n = m := by rw [hn]; simp
  subst e
  have ht' : encF 10 n = l.take k := by simpa using ht
  exact ⟨ht', by omega, by omega⟩

/-- the program's round: 'byte(n>>(7*i)) | 0x80' -/
theorem enc_or {n k : Nat} : bits .or .u8 (IntKind.u8.wrap ((n : Int) / 2 ^ (7 * k))) 128 = ((128 + n / 128 ^ k % 128 : Nat) : Int) := by
  have hp : (2 : Nat) ^ (7 * k) = 128 ^ k := by rw [Nat.pow_mul]
  have e : ((n : Int) / 2 ^ (7 * k)) = ((n / 128 ^ k : Nat) : Int) := by rw [← hp]; simp
  rw [e, IntKind.wrap_u8']
  generalize n / 128 ^ k = q
  have e2 : ((q : Int) % 256) = ((q % 256 : Nat) : Int) := by omega
  rw [e2]
  have h1 := u8_or_nat (q % 256) 128 (by omega) (by omega)
  rw [show ((128 : Nat) : Int) = 128 from rfl] at h1
  rw [h1]
  have h2 : q % 256 ||| 128 = 128 + q % 128 := by
    have := nat_bit 7 (q % 256)
    have hfin : ∀ r : Fin 256, r.val ||| 128 = 128 + r.val % 128 := by decide +kernel
    have h3 := hfin ⟨q % 256, by omega⟩
    simp only at h3
    rw [h3]; omega
  rw [h2]

/-- the program's last step: 'b &^= 0x80' -/
theorem enc_andNot (r : Nat) (h : r < 128) : bits .andNot .u8 ((128 + r : Nat) : Int) 128 = (r : Int) := by
  have h1 := u8_andNot_nat (128 + r) 128 (by omega) (by omega)
  rw [show ((128 : Nat) : Int) = 128 from rfl] at h1
  rw [h1, nat_mask7]
  omega

/-- the cells after k rounds -/
def encRow (n s k : Nat) : List Value := (List.range s).map fun j => if j < k then .int .u8 ((128 + n / 128 ^ j % 128 : Nat) : Int) else .int .u8 0

theorem encRow_length (n s k : Nat) : (encRow n s k).length = s := by simp [encRow]
theorem encRow_zero (n s : Nat) : (madeCells #[Value.int .u8 0] s) = (encRow n s 0).toArray := by
  apply Array.toList_inj.1
  rw [toList_madeCells_one]
  simp [encRow, List.map_const']
theorem encRow_get {n s k j : Nat} (h : j < s) : (encRow n s k)[j]? = some (if j < k then .int .u8 ((128 + n / 128 ^ j % 128 : Nat) : Int) else .int .u8 0) := by simp [encRow, h]
theorem encRow_set {n s k : Nat} (h : k < s) : (encRow n s k).set k (.int .u8 ((128 + n / 128 ^ k % 128 : Nat) : Int)) = encRow n s (k + 1) := by
  apply List.ext_getElem?
  intro j
  rw [List.getElem?_set]
  by_cases hj : j < s
  · rw [encRow_get hj, encRow_get hj, encRow_length]
    by_cases hjk : k = j
    · subst hjk; simp [h]
    · rw [if_neg hjk]
      by_cases h2 : j < k
      · rw [if_pos h2, if_pos (by omega)]
      · rw [if_neg h2, if_neg (by omega)]
  · have h1 : (encRow n s k)[j]? = none := List.getElem?_eq_none (by rw [encRow_length]; omega)
    have h2 : (encRow n s (k + 1))[j]? = none := List.getElem?_eq_none (by rw [encRow_length]; omega)
    rw [h1, h2, if_neg (by omega)]
theorem encRow_done {n : Nat} (hn : n < 18446744073709551616) : (encRow n (esz n) (esz n)).set (esz n - 1) (.int .u8 ((n / 128 ^ (esz n - 1) % 128 : Nat) : Int)) = bcells (enc n) := by
  have hb := esz_bd hn
  rw [enc_get hn]
  apply List.ext_getElem?
  intro j
  rw [List.getElem?_set]
  by_cases hj : j < esz n
  · rw [encRow_get hj, encRow_length, if_pos hj]
    have hr : (bcells ((List.range (esz n)).map fun j => UInt8.ofNat (ebyte n (esz n) j)))[j]? = some (.int .u8 (ebyte n (esz n) j : Int)) := by
      simp only [bcells, List.getElem?_map, List.getElem?_range hj, Option.map_some]
      rw [ofNat_toNat (ebyte_lt _ _ _)]
    rw [hr]
    by_cases he : esz n - 1 = j
    · rw [if_pos he, if_pos (by omega)]
      subst he
      unfold ebyte
      rw [if_neg (by omega)]
    · rw [if_neg he]
      unfold ebyte
      rw [if_pos (by omega)]
  · have h1 : (encRow n (esz n) (esz n))[j]? = none := List.getElem?_eq_none (by rw [encRow_length]; omega)
    rw [if_neg (by omega), h1, List.getElem?_eq_none]
    simp [bcells]; omega

end Go.Proofs.Ytcpdgkjelghlnaa
