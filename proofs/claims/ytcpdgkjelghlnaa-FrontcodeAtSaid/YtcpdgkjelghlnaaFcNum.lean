/-
  Pure: the front coding of a list of strings, its decoding case by case; each inverts the other. No program.
-/
import Derived.Test.YtcpdgkjelghlnaaWords
import Derived.Test.YtcpdgkjelghlnaaEncNum
import Derived.Test.YtcpdgkjelghlnaaLdNum
namespace Go.Proofs.Ytcpdgkjelghlnaa
open Go.RowKit
set_option linter.unusedVariables false
set_option linter.unusedSimpArgs false

abbrev Str := List UInt8
def cp : Str → Str → Nat
  | x :: a, y :: b => if x = y then cp a b + 1 else 0
  | _, _ => 0
theorem cp_nil (b : Str) : cp [] b = 0 := by cases b <;> rfl
theorem cp_nil_r (a : Str) : cp a [] = 0 := by cases a <;> rfl
theorem cp_le : ∀ (a b : Str), cp a b ≤ a.length ∧ cp a b ≤ b.length
  | [], b => by rw [cp_nil]; omega
  | _ :: _, [] => by rw [cp_nil_r]; omega
  | x :: a, y :: b => by
    unfold cp
    have := cp_le a b
    split <;> simp <;> omega
theorem cp_take : ∀ (a b : Str), a.take (cp a b) = b.take (cp a b)
  | [], b => by rw [cp_nil]; simp
  | _ :: _, [] => by rw [cp_nil_r]; simp
  | x :: a, y :: b => by
    unfold cp
    by_cases h : x = y
    · rw [if_pos h, List.take_succ_cons, List.take_succ_cons, cp_take a b, h]
    · rw [if_neg h]; simp
/-- a place where both still agree, so far -/
theorem cp_ge : ∀ (k : Nat) (a b : Str), k ≤ a.length → k ≤ b.length → a.take k = b.take k → k ≤ cp a b
  | 0, a, b, _, _, _ => by omega
  | k + 1, [], _, h, _, _ => by simp at h
  | k + 1, _ :: _, [], _, h, _ => by simp at h
  | k + 1, x :: a, y :: b, h1, h2, h => by
    rw [List.take_succ_cons, List.take_succ_cons] at h
    injection h with h3 h4
    unfold cp
    rw [if_pos h3]
    have := cp_ge k a b (by simpa using h1) (by simpa using h2) h4
    omega
theorem cp_stop {a b : Str} {k : Nat} (h1 : k < a.length) (h2 : k < b.length) (h : a.take k = b.take k) (hne : a[k] ≠ b[k]) : cp a b = k := by
  have h3 := cp_ge k a b (by omega) (by omega) h
  rcases Nat.lt_or_ge k (cp a b) with h4 | h4
  · have h5 := cp_take a b
    have h6 : (a.take (cp a b))[k]? = (b.take (cp a b))[k]? := by rw [h5]
    rw [List.getElem?_take_of_lt h4, List.getElem?_take_of_lt h4, List.getElem?_eq_getElem h1, List.getElem?_eq_getElem h2] at h6
    injection h6 with h6
    exact absurd h6 hne
  · omega
theorem cp_end {a b : Str} {k : Nat} (hk : k = min a.length b.length) (h : a.take k = b.take k) : cp a b = k := by
  have h3 := cp_ge k a b (by omega) (by omega) h
  have := cp_le a b
  omega
theorem take_next {a b : Str} {k : Nat} (h1 : k < a.length) (h2 : k < b.length) (h : a.take k = b.take k) (he : a[k] = b[k]) : a.take (k + 1) = b.take (k + 1) := by
  rw [List.take_succ_eq_append_getElem h1, List.take_succ_eq_append_getElem h2, h, he]
theorem cp_comm : ∀ (a b : Str), cp a b = cp b a
  | [], b => by rw [cp_nil, cp_nil_r]
  | _ :: _, [] => by rw [cp_nil, cp_nil_r]
  | x :: a, y :: b => by
    unfold cp
    by_cases h : x = y
    · rw [if_pos h, if_pos h.symm, cp_comm a b]
    · rw [if_neg h, if_neg (fun e => h e.symm)]

/-! Encoding -/
def itm (prev s : Str) : List UInt8 := enc (cp prev s) ++ (enc (s.length - cp prev s) ++ s.drop (cp prev s))
def prvAt (l : List Str) (k : Nat) : Str := if k % 16 = 0 then [] else l.getD (k - 1) []
def encK (l : List Str) : Nat → List UInt8
  | 0 => []
  | k + 1 => encK l k ++ itm (prvAt l k) (l.getD k [])
def fcEnc (l : List Str) : List UInt8 := encK l l.length
theorem encK_succ (l : List Str) (k : Nat) : encK l (k + 1) = encK l k ++ itm (prvAt l k) (l.getD k []) := rfl
theorem enc_len11 {n : Nat} (h : n < 18446744073709551616) : (enc n).length ≤ 10 := by rw [enc_length h]; exact (esz_bd h).2
theorem itm_len {prev s : Str} {M : Nat} (h : s.length ≤ M) (hM : M ≤ 18446744073709551615) : (itm prev s).length ≤ M + 20 := by
  have h1 := cp_le prev s
  have h2 := enc_len11 (n := cp prev s) (by omega)
  have h3 := enc_len11 (n := s.length - cp prev s) (by omega)
  unfold itm
  simp only [List.length_append, List.length_drop]
  omega
theorem getD_len {l : List Str} {M : Nat} (h : ∀ s ∈ l, s.length ≤ M) (k : Nat) : (l.getD k []).length ≤ M := by
  rw [List.getD_eq_getElem?_getD]
  rcases Nat.lt_or_ge k l.length with h1 | h1
  · rw [List.getElem?_eq_getElem h1]; exact h _ (List.getElem_mem h1)
  · rw [List.getElem?_eq_none h1]; simp
theorem encK_len {l : List Str} {M : Nat} (h : ∀ s ∈ l, s.length ≤ M) (hM : M ≤ 18446744073709551615) : ∀ k, (encK l k).length ≤ (M + 20) * k
  | 0 => by simp [encK]
  | k + 1 => by
    rw [encK_succ, List.length_append, Nat.mul_succ]
    have h1 := encK_len h hM k
    have h2 := itm_len (prev := prvAt l k) (getD_len h k) hM
    omega
theorem getD_append_l {l r : List Str} {k : Nat} (h : k < l.length) : (l ++ r).getD k [] = l.getD k [] := by
  rw [List.getD_eq_getElem?_getD, List.getD_eq_getElem?_getD, List.getElem?_append_left h]
theorem getD_append_r {l r : List Str} {k : Nat} : (l ++ r).getD (l.length + k) [] = r.getD k [] := by
  rw [List.getD_eq_getElem?_getD, List.getD_eq_getElem?_getD, List.getElem?_append_right (by omega), Nat.add_sub_cancel_left]
theorem prvAt_append_l {l r : List Str} {k : Nat} (h : k ≤ l.length) : prvAt (l ++ r) k = prvAt l k := by
  unfold prvAt
  split
  · rfl
  · rename_i h1
    exact getD_append_l (by omega)
theorem encK_append_l {l r : List Str} : ∀ {k : Nat}, k ≤ l.length → encK (l ++ r) k = encK l k
  | 0, _ => rfl
  | k + 1, h => by
    rw [encK_succ, encK_succ, encK_append_l (by omega), prvAt_append_l (by omega), getD_append_l (by omega)]
theorem encK_append_r {l r : List Str} (h16 : l.length % 16 = 0) : ∀ k, encK (l ++ r) (l.length + k) = fcEnc l ++ encK r k
  | 0 => by rw [Nat.add_zero, encK_append_l (Nat.le_refl _)]; simp [fcEnc, encK]
  | k + 1 => by
    rw [← Nat.add_assoc, encK_succ, encK_succ, encK_append_r h16 k, getD_append_r, List.append_assoc]
    congr 3
    unfold prvAt
    by_cases h : k % 16 = 0
    · rw [if_pos (by omega), if_pos h]
    · rw [if_neg (by omega), if_neg h, show l.length + k - 1 = l.length + (k - 1) by omega, getD_append_r]
/-- the encoding of two parts -/
theorem fcEnc_append {l r : List Str} (h : l.length % 16 = 0) : fcEnc (l ++ r) = fcEnc l ++ fcEnc r := by
  show encK (l ++ r) (l ++ r).length = _
  rw [List.length_append, encK_append_r h]
  rfl
def prvL (ws : List Str) : Str := prvAt ws ws.length
theorem fcEnc_snoc (ws : List Str) (s : Str) : fcEnc (ws ++ [s]) = fcEnc ws ++ itm (prvL ws) s := by
  show encK (ws ++ [s]) (ws ++ [s]).length = _
  rw [List.length_append, List.length_singleton, encK_succ, encK_append_l (Nat.le_refl _), prvAt_append_l (Nat.le_refl _)]
  have h : (ws ++ [s]).getD (ws.length + 0) [] = [s].getD 0 [] := getD_append_r
  rw [Nat.add_zero] at h
  rw [h]
  rfl
theorem prvL_take {l : List Str} {k : Nat} (h : k ≤ l.length) : prvL (l.take k) = prvAt l k := by
  unfold prvL
  rw [List.length_take, Nat.min_eq_left h]
  conv => rhs; rw [← List.take_append_drop k l]
  rw [prvAt_append_l (by rw [List.length_take]; omega)]
theorem fcEnc_take {l : List Str} {k : Nat} (h : k ≤ l.length) : fcEnc (l.take k) = encK l k := by
  unfold fcEnc
  rw [List.length_take, Nat.min_eq_left h]
  conv => rhs; rw [← List.take_append_drop k l]
  rw [encK_append_l (by rw [List.length_take]; omega)]

/-! Decoding -/
def cutF (b : List UInt8) (p s : Nat) : List UInt8 := (b.drop p).take s
theorem cutF_length {b : List UInt8} {p s : Nat} (h : p + s ≤ b.length) : (cutF b p s).length = s := by simp [cutF]; omega
theorem cutF_glue {b : List UInt8} {o k m : Nat} : cutF b o k ++ cutF b (o + k) m = cutF b o (k + m) := by
  unfold cutF
  rw [List.take_add, List.drop_drop]
def rdH (b : List UInt8) (prev : Str) (n m q : Nat) : Str × Int × Int :=
  if n < cp prev (prev.take n ++ cutF b q m) then ([], 0, 4) else (prev.take n ++ cutF b q m, ((q + m : Nat) : Int), 0)
def rdG (b : List UInt8) (prev : Str) (n : Nat) (p : Int) : Str × Int × Int :=
  if (dcd b p).2.2 ≠ 0 then ([], 0, (dcd b p).2.2)
  else if (b.length : Int) - (dcd b p).2.1 < (dcd b p).1 then ([], 0, 2)
  else rdH b prev n (dcd b p).1.toNat (dcd b p).2.1.toNat
def rdF (b : List UInt8) (p : Int) (prev : Str) : Str × Int × Int :=
  if (dcd b p).2.2 ≠ 0 then ([], 0, (dcd b p).2.2)
  else if (prev.length : Int) < (dcd b p).1 then ([], 0, 4)
  else rdG b prev (dcd b p).1.toNat (dcd b p).2.1
def rdFs (b : List UInt8) : Nat → List Str → Int → List Str × Int × Int
  | 0, ws, p => (ws, p, 0)
  | n + 1, ws, p => if (rdF b p (prvL ws)).2.2 ≠ 0 then ([], 0, (rdF b p (prvL ws)).2.2) else rdFs b n (ws ++ [(rdF b p (prvL ws)).1]) (rdF b p (prvL ws)).2.1
def badF (b : List UInt8) (off n : Int) : Prop := off < 0 ∨ (b.length : Int) < off ∨ n < 0 ∨ 65536 < n
instance (b : List UInt8) (off n : Int) : Decidable (badF b off n) := by unfold badF; infer_instance
def fcDec (b : List UInt8) (off n : Int) : List Str × Int × Int := if badF b off n then ([], 0, 1) else rdFs b n.toNat [] off
def fcAt (b : List UInt8) (off n i : Int) : Str × Int :=
  if badF b off n ∨ i < 0 ∨ n ≤ i then ([], 1) else if (rdFs b (i.toNat + 1) [] off).2.2 ≠ 0 then ([], (rdFs b (i.toNat + 1) [] off).2.2) else ((rdFs b (i.toNat + 1) [] off).1.getD i.toNat [], 0)

theorem dcd_acc11 {b : List UInt8} {o : Nat} (ho : o ≤ b.length) (he : (dcd b (o : Int)).2.2 = 0) :
    ∃ n k : Nat, dcd b (o : Int) = ((n : Int), ((o + k : Nat) : Int), 0) ∧ o + k ≤ b.length ∧ 1 ≤ k ∧ enc n = cutF b o k ∧ n < 18446744073709551616 := by
  obtain ⟨n, k, e, h⟩ : ∃ n k e, dec 0 0 (b.drop (o : Int).toNat) = (n, k, e) := ⟨_, _, _, rfl⟩
  have h1 := dcd_ok (l := b) (off := (o : Int)) (by omega) h
  have h7 := dec_lt _ 0 0 n k e (by omega) (by decide) h
  rw [h1] at he
  have he0 : e = 0 := by have : (e : Int) = 0 := he; omega
  subst he0
  have h3 := enc_dec h
  rw [Int.toNat_natCast] at h3
  have hl : (b.drop o).length = b.length - o := List.length_drop
  refine ⟨n, k, ?_, by omega, h3.2.1, h3.1, h7⟩
  rw [h1]
  rfl
theorem dcd_at11 {a r : List UInt8} {n : Nat} (hn : n < 18446744073709551616) : dcd (a ++ (enc n ++ r)) (a.length : Int) = ((n : Int), ((a ++ enc n).length : Int), 0) := by
  have hd : dec 0 0 ((a ++ (enc n ++ r)).drop ((a.length : Int)).toNat) = (n, esz n, 0) := by
    rw [Int.toNat_natCast, List.drop_left]
    exact dec_enc hn r
  rw [dcd_ok (by simp; omega) hd, if_pos rfl, List.length_append, enc_length hn]
  simp

theorem rdF_e {b : List UInt8} {p : Int} {prev : Str} (h : (dcd b p).2.2 ≠ 0) : rdF b p prev = ([], 0, (dcd b p).2.2) := by unfold rdF; rw [if_pos h]
theorem rdF_p {b : List UInt8} {p : Int} {prev : Str} (h : (dcd b p).2.2 = 0) (h2 : (prev.length : Int) < (dcd b p).1) : rdF b p prev = ([], 0, 4) := by unfold rdF; rw [if_neg (by simpa using h), if_pos h2]
theorem rdF_g {b : List UInt8} {p q : Int} {prev : Str} {n : Nat} (h : dcd b p = ((n : Int), q, 0)) (h2 : n ≤ prev.length) : rdF b p prev = rdG b prev n q := by
  unfold rdF; rw [h, if_neg (by simp), if_neg (by simp; omega)]; simp
theorem rdG_e {b : List UInt8} {p : Int} {prev : Str} {n : Nat} (h : (dcd b p).2.2 ≠ 0) : rdG b prev n p = ([], 0, (dcd b p).2.2) := by unfold rdG; rw [if_pos h]
theorem rdG_s {b : List UInt8} {p : Int} {prev : Str} {n : Nat} (h : (dcd b p).2.2 = 0) (h2 : (b.length : Int) - (dcd b p).2.1 < (dcd b p).1) : rdG b prev n p = ([], 0, 2) := by unfold rdG; rw [if_neg (by simpa using h), if_pos h2]
theorem rdG_h {b : List UInt8} {p : Int} {prev : Str} {n m q : Nat} (h : dcd b p = ((m : Int), (q : Int), 0)) (h2 : q + m ≤ b.length) : rdG b prev n p = rdH b prev n m q := by
  unfold rdG; rw [h, if_neg (by simp), if_neg (by simp; omega)]; simp
theorem rdH_f {b : List UInt8} {prev : Str} {n m q : Nat} (h : n < cp prev (prev.take n ++ cutF b q m)) : rdH b prev n m q = ([], 0, 4) := by unfold rdH; rw [if_pos h]
theorem rdH_t {b : List UInt8} {prev : Str} {n m q : Nat} (h : ¬ n < cp prev (prev.take n ++ cutF b q m)) : rdH b prev n m q = (prev.take n ++ cutF b q m, ((q + m : Nat) : Int), 0) := by unfold rdH; rw [if_neg h]
theorem cp_glued {prev : Str} {n : Nat} (r : List UInt8) (h : n ≤ prev.length) : n ≤ cp prev (prev.take n ++ r) := by
  have hl : (prev.take n).length = n := by rw [List.length_take]; omega
  refine cp_ge n _ _ h (by rw [List.length_append]; omega) ?_
  rw [List.take_append_of_le_length (by omega), List.take_take, Nat.min_self]
/-- what a string that was read is like -/
theorem rdF_acc {b : List UInt8} {o : Nat} {prev : Str} (ho : o ≤ b.length) (h : (rdF b o prev).2.2 = 0) :
    ∃ (s : Str) (k : Nat), rdF b o prev = (s, ((o + k : Nat) : Int), 0) ∧ o + k ≤ b.length ∧ itm prev s = cutF b o k ∧ s.length ≤ prev.length + k := by
  by_cases h1 : (dcd b o).2.2 = 0
  · obtain ⟨n, k1, e1, hk1, hk11, he1, hn⟩ := dcd_acc11 ho h1
    by_cases h2 : n ≤ prev.length
    · rw [rdF_g e1 h2] at h ⊢
      by_cases h3 : (dcd b ((o + k1 : Nat) : Int)).2.2 = 0
      · obtain ⟨m, k2, e2, hk2, hk21, he2, hm⟩ := dcd_acc11 hk1 h3
        by_cases h4 : o + k1 + k2 + m ≤ b.length
        · rw [rdG_h e2 h4] at h ⊢
          by_cases h5 : n < cp prev (prev.take n ++ cutF b (o + k1 + k2) m)
          · rw [rdH_f h5] at h; cases h
          · rw [rdH_t h5]
            have h6 := cp_glued (cutF b (o + k1 + k2) m) h2
            have h7 : cp prev (prev.take n ++ cutF b (o + k1 + k2) m) = n := by omega
            have hl : (prev.take n).length = n := by rw [List.length_take]; omega
            have hc := cutF_length h4
            refine ⟨_, k1 + k2 + m, by rw [show o + k1 + k2 + m = o + (k1 + k2 + m) by omega], by omega, ?_, by rw [List.length_append, hl, hc]; omega⟩
            unfold itm
            rw [h7, List.length_append, hl, hc, Nat.add_sub_cancel_left, List.drop_append_of_le_length (by omega), List.drop_of_length_le (by omega), List.nil_append, he1, he2, cutF_glue, cutF_glue, Nat.add_assoc]
        · rw [rdG_s h3 (by rw [e2]; simp only []; omega)] at h; cases h
      · rw [rdG_e h3] at h; exact absurd h h3
    · rw [rdF_p h1 (by rw [e1]; simp only []; omega)] at h; cases h
  · rw [rdF_e h1] at h; exact absurd h h1
theorem rdF_err {b : List UInt8} {p : Int} {prev : Str} (h : (rdF b p prev).2.2 ≠ 0) : (rdF b p prev).1 = [] ∧ (rdF b p prev).2.1 = 0 := by
  unfold rdF at h ⊢
  split
  · exact ⟨rfl, rfl⟩
  · split
    · exact ⟨rfl, rfl⟩
    · rename_i h1 h2
      rw [if_neg h1, if_neg h2] at h
      unfold rdG at h ⊢
      split
      · exact ⟨rfl, rfl⟩
      · split
        · exact ⟨rfl, rfl⟩
        · rename_i h3 h4
          rw [if_neg h3, if_neg h4] at h
          unfold rdH at h ⊢
          split
          · exact ⟨rfl, rfl⟩
          · rename_i h5
            rw [if_neg h5] at h
            exact absurd rfl h
theorem rdFs_e {b : List UInt8} {n : Nat} {ws : List Str} {p : Int} (h : (rdF b p (prvL ws)).2.2 ≠ 0) : rdFs b (n + 1) ws p = ([], 0, (rdF b p (prvL ws)).2.2) := by rw [rdFs, if_pos h]
theorem rdFs_n {b : List UInt8} {n : Nat} {ws : List Str} {p q : Int} {s : Str} (h : rdF b p (prvL ws) = (s, q, 0)) : rdFs b (n + 1) ws p = rdFs b n (ws ++ [s]) q := by rw [rdFs, h, if_neg (by simp)]
theorem rdFs_err {b : List UInt8} : ∀ (n : Nat) (ws : List Str) (p : Int), (rdFs b n ws p).2.2 ≠ 0 → (rdFs b n ws p).1 = [] ∧ (rdFs b n ws p).2.1 = 0
  | 0, _, _, h => absurd rfl h
  | n + 1, ws, p, h => by
    by_cases h1 : (rdF b p (prvL ws)).2.2 = 0
    · rw [rdFs, if_neg (by simpa using h1)] at h ⊢
      exact rdFs_err n _ _ h
    · rw [rdFs_e h1]; exact ⟨rfl, rfl⟩
theorem prvL_len {ws : List Str} {M : Nat} (h : ∀ s ∈ ws, s.length ≤ M) : (prvL ws).length ≤ M := by
  unfold prvL prvAt
  split
  · simp
  · exact getD_len h _
/-- what is accepted is the encoding of what was decoded -/
theorem rdFs_acc {b : List UInt8} : ∀ (n : Nat) (ws : List Str) (o : Nat), o ≤ b.length → (∀ s ∈ ws, s.length ≤ o) → (rdFs b n ws o).2.2 = 0 →
    ∃ k : Nat, (rdFs b n ws o).2.1 = ((o + k : Nat) : Int) ∧ o + k ≤ b.length ∧ (rdFs b n ws o).1.length = ws.length + n ∧ (∀ s ∈ (rdFs b n ws o).1, s.length ≤ o + k) ∧ fcEnc (rdFs b n ws o).1 = fcEnc ws ++ cutF b o k
  | 0, ws, o, ho, hs, _ => ⟨0, rfl, by omega, rfl, hs, by simp [rdFs, cutF]⟩
  | n + 1, ws, o, ho, hs, h => by
    by_cases h1 : (rdF b o (prvL ws)).2.2 = 0
    · obtain ⟨s, k, e, hk, hi, hl⟩ := rdF_acc ho h1
      rw [rdFs_n e] at h ⊢
      have hp := prvL_len hs
      obtain ⟨k2, r1, r2, r3, r4, r5⟩ := rdFs_acc n (ws ++ [s]) (o + k) hk (fun x hx => by
        rcases List.mem_append.1 hx with h | h
        · have := hs x h; omega
        · rw [List.mem_singleton.1 h]; omega) h
      refine ⟨k + k2, by rw [r1, Nat.add_assoc], by omega, by rw [r3, List.length_append, List.length_singleton]; omega, fun x hx => by have := r4 x hx; omega, ?_⟩
      rw [r5, fcEnc_snoc, hi, List.append_assoc, cutF_glue]
    · rw [rdFs_e h1] at h; exact absurd h h1
/-- an encoding is read back -/
theorem rdF_enc {p r : List UInt8} {prev s : Str} (hs : s.length < 18446744073709551616) : rdF (p ++ (itm prev s ++ r)) p.length prev = (s, (((p ++ itm prev s).length : Nat) : Int), 0) := by
  have hc := cp_le prev s
  have hct := cp_take prev s
  obtain ⟨n, hn⟩ : ∃ n, n = cp prev s := ⟨_, rfl⟩
  rw [← hn] at hc hct
  have e0 : p ++ (itm prev s ++ r) = p ++ (enc n ++ (enc (s.length - n) ++ (s.drop n ++ r))) := by unfold itm; rw [← hn]; simp
  have e1 := dcd_at11 (a := p) (r := enc (s.length - n) ++ (s.drop n ++ r)) (n := n) (by omega)
  have e2 := dcd_at11 (a := p ++ enc n) (r := s.drop n ++ r) (n := s.length - n) (by omega)
  rw [List.append_assoc p] at e2
  have hq : (p ++ enc n ++ enc (s.length - n)).length + (s.length - n) ≤ (p ++ (enc n ++ (enc (s.length - n) ++ (s.drop n ++ r)))).length := by
    simp only [List.length_append, List.length_drop]; omega
  have hcut : cutF (p ++ (enc n ++ (enc (s.length - n) ++ (s.drop n ++ r)))) (p ++ enc n ++ enc (s.length - n)).length (s.length - n) = s.drop n := by
    unfold cutF
    rw [show p ++ (enc n ++ (enc (s.length - n) ++ (s.drop n ++ r))) = (p ++ enc n ++ enc (s.length - n)) ++ (s.drop n ++ r) by simp, List.drop_left, List.take_append_of_le_length (by rw [List.length_drop]; omega), List.take_of_length_le (by rw [List.length_drop]; omega)]
  have hgl : prev.take n ++ s.drop n = s := by rw [hct, List.take_append_drop]
  rw [e0, rdF_g e1 hc.1, rdG_h e2 hq, rdH_t (by rw [hcut, hgl, ← hn]; omega), hcut, hgl]
  congr 3
  unfold itm
  rw [← hn]
  simp only [List.length_append, List.length_drop]
  omega
theorem rdFs_enc {p r : List UInt8} {l : List Str} (hs : ∀ s ∈ l, s.length < 18446744073709551616) : ∀ (j k : Nat), k + j ≤ l.length →
    rdFs (p ++ (fcEnc l ++ r)) j (l.take k) ((p ++ encK l k).length : Nat) = (l.take (k + j), (((p ++ encK l (k + j)).length : Nat) : Int), 0)
  | 0, k, _ => by rw [rdFs, Nat.add_zero]
  | j + 1, k, h => by
    have hk : k < l.length := by omega
    have hg : l.getD k [] = l[k] := by rw [List.getD_eq_getElem?_getD, List.getElem?_eq_getElem hk]; rfl
    obtain ⟨t, ht⟩ : ∃ t, fcEnc l = encK l (k + 1) ++ t := by
      suffices h : ∀ d m, m + d = l.length → ∃ t, fcEnc l = encK l m ++ t from h (l.length - (k + 1)) (k + 1) (by omega)
      intro d
      induction d with
      | zero => intro m hm; exact ⟨[], by rw [show m = l.length by omega]; simp [fcEnc]⟩
      | succ d ih =>
        intro m hm
        obtain ⟨t, ht⟩ := ih (m + 1) (by omega)
        exact ⟨itm (prvAt l m) (l.getD m []) ++ t, by rw [ht, encK_succ, List.append_assoc]⟩
    have e := rdF_enc (p := p ++ encK l k) (r := t ++ r) (prev := prvAt l k) (s := l[k]) (hs _ (List.getElem_mem hk))
    have e0 : p ++ encK l k ++ (itm (prvAt l k) l[k] ++ (t ++ r)) = p ++ (fcEnc l ++ r) := by rw [ht, encK_succ, hg]; simp
    have e1 : p ++ encK l k ++ itm (prvAt l k) l[k] = p ++ encK l (k + 1) := by rw [encK_succ, hg]; simp
    rw [e0, e1] at e
    rw [← prvL_take (by omega)] at e
    rw [rdFs_n e, ← List.take_succ_eq_append_getElem hk, rdFs_enc hs j (k + 1) (by omega), show k + 1 + j = k + (j + 1) by omega]
theorem fcDec_enc {p r : List UInt8} {l : List Str} (hs : ∀ s ∈ l, s.length < 18446744073709551616) (hl : l.length ≤ 65536) :
    fcDec (p ++ (fcEnc l ++ r)) p.length l.length = (l, (((p ++ fcEnc l).length : Nat) : Int), 0) := by
  have h := rdFs_enc (p := p) (r := r) hs l.length 0 (by omega)
  unfold fcDec
  rw [if_neg (by unfold badF; simp only [List.length_append]; omega), Int.toNat_natCast]
  have e : p ++ encK l 0 = p := by simp [encK]
  rw [e, List.take_zero, Nat.zero_add, List.take_length] at h
  exact h
theorem fcAt_enc {p r : List UInt8} {l : List Str} (hs : ∀ s ∈ l, s.length < 18446744073709551616) (hl : l.length ≤ 65536) {i : Nat} (hi : i < l.length) :
    fcAt (p ++ (fcEnc l ++ r)) p.length l.length i = (l[i], 0) := by
  have h := rdFs_enc (p := p) (r := r) hs (i + 1) 0 (by omega)
  have e : p ++ encK l 0 = p := by simp [encK]
  rw [e, List.take_zero, Nat.zero_add] at h
  unfold fcAt
  rw [if_neg (by unfold badF; simp only [List.length_append]; omega), Int.toNat_natCast, h, if_neg (by simp)]
  congr 1
  simp only [List.getD_eq_getElem?_getD]
  rw [List.getElem?_take_of_lt (by omega), List.getElem?_eq_getElem hi]
  rfl
theorem fcDec_acc {b : List UInt8} {n : Nat} (h : (fcDec b 0 n).2.2 = 0) : ∃ k : Nat, (fcDec b 0 n).2.1 = (k : Int) ∧ k ≤ b.length ∧ (fcDec b 0 n).1.length = n ∧ (∀ s ∈ (fcDec b 0 n).1, s.length ≤ k) ∧ fcEnc (fcDec b 0 n).1 = b.take k := by
  unfold fcDec at h ⊢
  split
  · rename_i h1
    rw [if_pos h1] at h; cases h
  · rename_i h1
    rw [if_neg h1, Int.toNat_natCast] at h
    rw [Int.toNat_natCast]
    obtain ⟨k, r1, r2, r3, r4, r5⟩ := rdFs_acc n [] 0 (by omega) (by simp) h
    refine ⟨0 + k, r1, r2, by rw [show ((0 : Nat) : Int) = 0 from rfl] at r3; rw [r3]; simp, r4, ?_⟩
    rw [show ((0 : Nat) : Int) = 0 from rfl] at r5
    rw [r5]
    simp [fcEnc, encK, cutF]
end Go.Proofs.Ytcpdgkjelghlnaa
