/-
  Sort keys are ordered like the rows: bytes compared in lexicographic order. Arithmetic and lists; no walk.
-/
import Derived.Test.YtepnegbopnepfaaDoorLs2
namespace Go.Proofs.YtepnegbopnepfaaDoor
open Go.RowKit
set_option linter.unusedVariables false
set_option linter.unusedSimpArgs false

theorem cb_cons (c d : UInt8) (l m : List UInt8) : Lib.compareBytes (c :: l) (d :: m) = if c.toNat < d.toNat then -1 else if d.toNat < c.toNat then 1 else Lib.compareBytes l m := by
  rw [Lib.compareBytes]
  simp only [UInt8.lt_iff_toNat_lt]
theorem cb_same (c : UInt8) (l m : List UInt8) : Lib.compareBytes (c :: l) (c :: m) = Lib.compareBytes l m := by
  rw [cb_cons, if_neg (Nat.lt_irrefl _), if_neg (Nat.lt_irrefl _)]
theorem cb_lt {c d : UInt8} (h : c.toNat < d.toNat) (l m : List UInt8) : Lib.compareBytes (c :: l) (d :: m) = -1 := by rw [cb_cons, if_pos h]
theorem cb_gt {c d : UInt8} (h : d.toNat < c.toNat) (l m : List UInt8) : Lib.compareBytes (c :: l) (d :: m) = 1 := by rw [cb_cons, if_neg (by omega), if_pos h]
theorem cb_anti : ∀ l m : List UInt8, Lib.compareBytes m l = - Lib.compareBytes l m
  | [], [] => rfl
  | [], _ :: _ => rfl
  | _ :: _, [] => rfl
  | c :: l, d :: m => by
    have ih := cb_anti l m
    rw [cb_cons, cb_cons]
    by_cases h1 : c.toNat < d.toNat
    · rw [if_pos h1, if_neg (by omega), if_pos h1]
      rfl
    · by_cases h2 : d.toNat < c.toNat
      · rw [if_pos h2, if_neg h1, if_pos h2]
      · rw [if_neg h1, if_neg h2, if_neg h2, if_neg h1]
        exact ih
theorem cb_refl (l : List UInt8) : Lib.compareBytes l l = 0 := by have := cb_anti l l; omega
theorem cb_trans : ∀ a b c : List UInt8, Lib.compareBytes a b ≤ 0 → Lib.compareBytes b c ≤ 0 → Lib.compareBytes a c ≤ 0
  | [], _, [], _, _ => by simp [Lib.compareBytes]
  | [], _, _ :: _, _, _ => by simp [Lib.compareBytes]
  | _ :: _, [], _, h, _ => by simp [Lib.compareBytes] at h
  | _ :: _, _ :: _, [], _, h => by simp [Lib.compareBytes] at h
  | x :: a, y :: b, z :: c, h1, h2 => by
    have ih := cb_trans a b c
    rw [cb_cons] at h1 h2 ⊢
    by_cases p : x.toNat < z.toNat
    · rw [if_pos p]; decide
    by_cases q : z.toNat < x.toNat
    · exfalso
      by_cases p1 : x.toNat < y.toNat
      · rw [if_neg (by omega), if_pos (by omega)] at h2
        omega
      · by_cases p2 : y.toNat < x.toNat
        · rw [if_neg p1, if_pos p2] at h1
          omega
        · rw [if_neg (by omega), if_pos (by omega)] at h2
          omega
    · rw [if_neg p, if_neg q]
      by_cases p1 : x.toNat < y.toNat
      · rw [if_neg (by omega), if_pos (by omega)] at h2
        omega
      · by_cases p2 : y.toNat < x.toNat
        · rw [if_neg p1, if_pos p2] at h1
          omega
        · rw [if_neg p1, if_neg p2] at h1
          rw [if_neg (by omega), if_neg (by omega)] at h2
          exact ih h1 h2
/-- a text's key, and what follows it -/
theorem cb_text : ∀ (t u r s : List UInt8), Lib.compareBytes (esc t ++ 0 :: 0 :: r) (esc u ++ 0 :: 0 :: s) = if Lib.compareBytes t u = 0 then Lib.compareBytes r s else Lib.compareBytes t u
  | [], [], r, s => by
    rw [esc_nil, List.nil_append, List.nil_append, cb_same, cb_same, cb_refl, if_pos rfl]
  | [], d :: u, r, s => by
    have h0 : Lib.compareBytes [] (d :: u) = -1 := rfl
    rw [h0, if_neg (by decide), esc_nil, List.nil_append]
    by_cases hd : d = 0
    · subst hd
      rw [esc_zero, List.cons_append, cb_same, List.cons_append]
      exact cb_lt (by decide) _ _
    · rw [esc_ne hd, List.cons_append]
      refine cb_lt ?_ _ _
      have : d.toNat ≠ 0 := fun e => hd (UInt8.toNat_inj.1 (by rw [e]; rfl))
      show 0 < d.toNat
      omega
  | c :: t, [], r, s => by
    have h0 : Lib.compareBytes (c :: t) [] = 1 := rfl
    rw [h0, if_neg (by decide), esc_nil, List.nil_append]
    by_cases hc : c = 0
    · subst hc
      rw [esc_zero, List.cons_append, cb_same, List.cons_append]
      exact cb_gt (by decide) _ _
    · rw [esc_ne hc, List.cons_append]
      refine cb_gt ?_ _ _
      have : c.toNat ≠ 0 := fun e => hc (UInt8.toNat_inj.1 (by rw [e]; rfl))
      show 0 < c.toNat
      omega
  | c :: t, d :: u, r, s => by
    have ih := cb_text t u r s
    have hz : ∀ x : UInt8, x ≠ 0 → 0 < x.toNat := fun x hx => by
      have : x.toNat ≠ 0 := fun e => hx (UInt8.toNat_inj.1 (by rw [e]; rfl))
      omega
    by_cases hc : c = 0
    · by_cases hd : d = 0
      · subst hc hd
        rw [esc_zero, esc_zero, List.cons_append, List.cons_append, cb_same, List.cons_append, List.cons_append, cb_same, cb_same]
        exact ih
      · subst hc
        have h1 := hz d hd
        have h2 : (0 : UInt8).toNat < d.toNat := h1
        rw [esc_zero, esc_ne hd]
        simp only [List.cons_append]
        rw [cb_lt h2, cb_lt h2, if_neg (by decide)]
    · by_cases hd : d = 0
      · subst hd
        have h1 := hz c hc
        have h2 : (0 : UInt8).toNat < c.toNat := h1
        rw [esc_zero, esc_ne hc]
        simp only [List.cons_append]
        rw [cb_gt h2, cb_gt h2, if_neg (by decide)]
      · rw [esc_ne hc, esc_ne hd, List.cons_append, List.cons_append, cb_cons, cb_cons]
        by_cases p : c.toNat < d.toNat
        · rw [if_pos p, if_pos p, if_neg (by decide)]
        · by_cases q : d.toNat < c.toNat
          · rw [if_neg p, if_pos q, if_neg p, if_pos q, if_neg (by decide)]
          · rw [if_neg p, if_neg q, if_neg p, if_neg q]
            exact ih
/-- bytes of a number, the most significant one first, and what follows them -/
theorem cb_be (N M : Nat) (r s : List UInt8) : ∀ k : Nat, Lib.compareBytes ((fixb N k).reverse ++ r) ((fixb M k).reverse ++ s) = if N % 256 ^ k < M % 256 ^ k then -1 else if M % 256 ^ k < N % 256 ^ k then 1 else Lib.compareBytes r s
  | 0 => by
    rw [Nat.pow_zero, Nat.mod_one, Nat.mod_one, if_neg (by decide), if_neg (by decide)]
    rfl
  | k + 1 => by
    have ih := cb_be N M r s k
    rw [fixb_succ, fixb_succ, List.reverse_append, List.reverse_append, List.reverse_singleton, List.reverse_singleton, List.append_assoc, List.append_assoc, List.singleton_append, List.singleton_append, cb_cons, ih]
    have e1 : N % 256 ^ (k + 1) = N % 256 ^ k + 256 ^ k * (N / 256 ^ k % 256) := Nat.mod_pow_succ
    have e2 : M % 256 ^ (k + 1) = M % 256 ^ k + 256 ^ k * (M / 256 ^ k % 256) := Nat.mod_pow_succ
    have hB : 0 < 256 ^ k := Nat.pow_pos (by decide)
    have hl1 := Nat.mod_lt N hB
    have hl2 := Nat.mod_lt M hB
    have ha : N / 256 ^ k % 256 < 256 := Nat.mod_lt _ (by decide)
    have hb : M / 256 ^ k % 256 < 256 := Nat.mod_lt _ (by decide)
    have u1 : (UInt8.ofNat (N / 256 ^ k % 256)).toNat = N / 256 ^ k % 256 := by rw [UInt8.toNat_ofNat']; exact Nat.mod_eq_of_lt ha
    have u2 : (UInt8.ofNat (M / 256 ^ k % 256)).toNat = M / 256 ^ k % 256 := by rw [UInt8.toNat_ofNat']; exact Nat.mod_eq_of_lt hb
    rw [e1, e2, u1, u2]
    generalize N / 256 ^ k % 256 = a at *
    generalize M / 256 ^ k % 256 = b at *
    generalize N % 256 ^ k = x at *
    generalize M % 256 ^ k = y at *
    generalize 256 ^ k = B at *
    by_cases p : a < b
    · have : B * (a + 1) ≤ B * b := Nat.mul_le_mul (Nat.le_refl _) p
      rw [Nat.mul_add, Nat.mul_one] at this
      rw [if_pos p, if_pos (by omega)]
    · by_cases q : b < a
      · have : B * (b + 1) ≤ B * a := Nat.mul_le_mul (Nat.le_refl _) q
        rw [Nat.mul_add, Nat.mul_one] at this
        rw [if_neg p, if_pos q, if_neg (by omega), if_pos (by omega)]
      · have hab : a = b := by omega
        subst hab
        rw [if_neg p, if_neg p]
        by_cases h1 : x < y
        · rw [if_pos h1, if_pos (by omega)]
        · by_cases h2 : y < x
          · rw [if_neg h1, if_pos h2, if_neg (by omega), if_pos (by omega)]
          · rw [if_neg h1, if_neg h2, if_neg (by omega), if_neg (by omega)]
theorem cb_be8 (N M : Nat) (hN : N < 18446744073709551616) (hM : M < 18446744073709551616) (r s : List UInt8) : Lib.compareBytes (be8 N ++ r) (be8 M ++ s) = if N < M then -1 else if M < N then 1 else Lib.compareBytes r s := by
  have h := cb_be N M r s 8
  have e : 256 ^ 8 = 18446744073709551616 := by decide
  rw [e, Nat.mod_eq_of_lt hN, Nat.mod_eq_of_lt hM] at h
  exact h
theorem sgnV_if (a b : Int) : sgnV (decide (a < b)) (decide (b < a)) = if a < b then -1 else if b < a then 1 else 0 := by
  unfold sgnV
  by_cases h1 : a < b <;> by_cases h2 : b < a <;> simp [h1, h2]
/-- a value's key, and what follows it -/
theorem cb_key {k n k' n' : Int} {t t' : ByteArray} (h : validV k n t = true) (h' : validV k' n' t' = true) (hn : -9223372036854775808 ≤ n ∧ n < 9223372036854775808) (hn' : -9223372036854775808 ≤ n' ∧ n' < 9223372036854775808) (r s : List UInt8) :
    Lib.compareBytes (keyV k n t ++ r) (keyV k' n' t' ++ s) = if cmpV k n t k' n' t' = 0 then Lib.compareBytes r s else cmpV k n t k' n' t' := by
  by_cases hk : k = k'
  · subst hk
    rcases valid_kinds h with rfl | rfl | rfl | rfl
    · have e : n = 0 := by unfold validV at h; rw [if_pos rfl] at h; simp at h; exact h.1
      have e' : n' = 0 := by unfold validV at h'; rw [if_pos rfl] at h'; simp at h'; exact h'.1
      subst e e'
      rw [keyV_0, keyV_0, List.singleton_append, List.singleton_append, cb_same]
      have hc : cmpV 0 0 t 0 0 t' = 0 := by unfold cmpV; rw [if_pos rfl, if_neg (by decide)]; rfl
      rw [hc, if_pos rfl]
    · have hc : cmpV 1 n t 1 n' t' = sgnV (decide (n < n')) (decide (n' < n)) := by unfold cmpV; rw [if_pos rfl, if_neg (by decide)]
      rw [hc, keyV_1, keyV_1]
      simp only [List.cons_append, List.nil_append]
      rw [cb_same]
      rcases valid_1 h with rfl | rfl <;> rcases valid_1 h' with rfl | rfl
      · rw [cb_same]; rfl
      · rw [cb_lt (by decide)]; rfl
      · rw [cb_gt (by decide)]; rfl
      · rw [cb_same]; rfl
    · have hc : cmpV 2 n t 2 n' t' = sgnV (decide (n < n')) (decide (n' < n)) := by unfold cmpV; rw [if_pos rfl, if_neg (by decide)]
      rw [hc, sgnV_if, keyV_2, keyV_2, List.cons_append, List.cons_append, cb_same, cb_be8 _ _ (by omega) (by omega)]
      by_cases p : n < n'
      · rw [if_pos p, if_pos (by omega), if_neg (by decide)]
      · by_cases q : n' < n
        · rw [if_neg p, if_pos q, if_neg (by omega), if_pos (by omega), if_neg (by decide)]
        · rw [if_neg p, if_neg q, if_neg (by omega), if_neg (by omega), if_pos rfl]
    · have hc : cmpV 3 n t 3 n' t' = Lib.compareBytes t.data.toList t'.data.toList := by unfold cmpV; rw [if_pos rfl, if_pos rfl, compare_strS]; rfl
      rw [hc, keyV_3, keyV_3, List.cons_append, List.cons_append, cb_same, List.append_assoc, List.append_assoc]
      exact cb_text _ _ r s
  · have hc : cmpV k n t k' n' t' = if k < k' then -1 else 1 := by
      unfold cmpV
      rw [if_neg hk]
      by_cases p : k < k' <;> simp [sgnV, p]
    have hk1 := valid_kinds h
    have hk2 := valid_kinds h'
    have u1 : (UInt8.ofNat (k + 1).toNat).toNat = (k + 1).toNat := by rcases hk1 with rfl | rfl | rfl | rfl <;> rfl
    have u2 : (UInt8.ofNat (k' + 1).toNat).toNat = (k' + 1).toNat := by rcases hk2 with rfl | rfl | rfl | rfl <;> rfl
    rw [hc]
    unfold keyV
    rw [List.cons_append, List.cons_append]
    by_cases p : k < k'
    · rw [if_pos p, if_neg (show ¬ (-1 : Int) = 0 by decide)]
      exact cb_lt (by rw [u1, u2]; omega) _ _
    · rw [if_neg p, if_neg (show ¬ (1 : Int) = 0 by decide)]
      exact cb_gt (by rw [u1, u2]; omega) _ _
def bdL (l : List Val) : Prop := ∀ x ∈ l, -9223372036854775808 ≤ x.n ∧ x.n < 9223372036854775808
/-- rows are ordered like their sort keys -/
theorem cmpR_key : ∀ l m : List Val, validL l = true → validL m = true → bdL l → bdL m → cmpR l m = Lib.compareBytes (keyL l) (keyL m)
  | [], [], _, _, _, _ => rfl
  | [], _ :: _, _, _, _, _ => rfl
  | _ :: _, [], _, _, _, _ => rfl
  | x :: l, y :: m, hl, hm, bl, bm => by
    have h1 : validV x.k x.n x.t = true := validL_at (j := 0) hl rfl
    have h2 : validV y.k y.n y.t = true := validL_at (j := 0) hm rfl
    have hl' : validL l = true := by unfold validL at hl ⊢; rw [List.all_cons, Bool.and_eq_true] at hl; exact hl.2
    have hm' : validL m = true := by unfold validL at hm ⊢; rw [List.all_cons, Bool.and_eq_true] at hm; exact hm.2
    have ih := cmpR_key l m hl' hm' (fun z hz => bl z (List.mem_cons_of_mem _ hz)) (fun z hz => bm z (List.mem_cons_of_mem _ hz))
    have e1 : keyL (x :: l) = keyV x.k x.n x.t ++ keyL l := by unfold keyL; rw [List.flatMap_cons]
    have e2 : keyL (y :: m) = keyV y.k y.n y.t ++ keyL m := by unfold keyL; rw [List.flatMap_cons]
    rw [e1, e2, cb_key h1 h2 (bl x (List.mem_cons_self ..)) (bm y (List.mem_cons_self ..)), cmpR, ih]
/-- what the law asks of three rows -/
theorem orders {a b c : List Val} (ha : validL a = true) (hb : validL b = true) (hc : validL c = true) (ba : bdL a) (bb : bdL b) (bc : bdL c) :
    cmpR b a = - cmpR a b ∧ (-1 ≤ cmpR a b ∧ cmpR a b ≤ 1) ∧ ¬ (cmpR a b ≤ 0 ∧ cmpR b c ≤ 0 ∧ 0 < cmpR a c) ∧ ¬ (0 ≤ cmpR a b ∧ 0 ≤ cmpR b c ∧ cmpR a c < 0) ∧
    Op.bytesLess (keyL a) (keyL b) = decide (cmpR a b < 0) ∧ (!Op.bytesLess (keyL a) (keyL b) && !keyL a == keyL b) = decide (0 < cmpR a b) := by
  rw [cmpR_key b a hb ha bb ba, cmpR_key a b ha hb ba bb, cmpR_key b c hb hc bb bc, cmpR_key a c ha hc ba bc]
  have h1 := cb_anti (keyL a) (keyL b)
  have h2 := cb_anti (keyL b) (keyL c)
  have h3 := cb_anti (keyL a) (keyL c)
  have t1 := cb_trans (keyL a) (keyL b) (keyL c)
  have t2 := cb_trans (keyL c) (keyL b) (keyL a)
  have ht := byteLess_trichotomy (keyL a) (keyL b)
  refine ⟨h1, ?_, fun h => by have := t1 h.1 h.2.1; omega, fun h => by have := t2 (by omega) (by omega); omega, ?_, ?_⟩
  · rw [ht]
    cases Op.bytesLess (keyL a) (keyL b) <;> cases (keyL a == keyL b) <;> decide
  · rw [ht]
    cases Op.bytesLess (keyL a) (keyL b) <;> cases (keyL a == keyL b) <;> decide
  · rw [ht]
    cases Op.bytesLess (keyL a) (keyL b) <;> cases (keyL a == keyL b) <;> decide
end Go.Proofs.YtepnegbopnepfaaDoor
