/-
  The reference of package literal: Like: a row of bools, a cell a prefix of the string. Nothing that was there is changed.
-/
import Derived.Test.YtaiphocnfkkigaaDoorProg
import Derived.Test.YtaiphocnfkkigaaDoorStr
import Derived.Test.YtaiphocnfkkigaaDoorLkNum
import Derived.Outline
import Derived.OwnWalk
namespace Go.Proofs.YtaiphocnfkkigaaDoor
open Go.RowKit
set_option linter.unusedVariables false
set_option linter.unusedSimpArgs false

/-- does the pattern match the first k bytes -/
noncomputable def mk (p s : List UInt8) (k : Nat) : Bool := @decide (LM p (s.take k)) (Classical.propDecidable _)
theorem mk_true {p s : List UInt8} {k : Nat} : mk p s k = true ↔ LM p (s.take k) := by unfold mk; exact @decide_eq_true_iff _ (Classical.propDecidable _)
theorem mk_congr {p q s t : List UInt8} {j k : Nat} (h : LM p (s.take j) ↔ LM q (t.take k)) : mk p s j = mk q t k := by
  rw [Bool.eq_iff_iff, mk_true, mk_true]; exact h
/-- the row: cells under m of the pattern q, the others of p -/
noncomputable def mrow (q p s : List UInt8) (m : Nat) : List Value := (List.range (s.length + 1)).map fun k => .bool (if k < m then mk q s k else mk p s k)
theorem mrow_length (q p s : List UInt8) (m : Nat) : (mrow q p s m).length = s.length + 1 := by simp [mrow]
theorem mrow_get {q p s : List UInt8} {m k : Nat} (h : k ≤ s.length) : (mrow q p s m)[k]? = some (.bool (if k < m then mk q s k else mk p s k)) := by
  unfold mrow
  rw [List.getElem?_map, List.getElem?_range (by omega)]
  rfl
theorem mrow_set {q p s : List UInt8} {m : Nat} (h : m ≤ s.length) : (mrow q p s m).set m (.bool (mk q s m)) = mrow q p s (m + 1) := by
  apply List.ext_getElem?
  intro k
  by_cases hk : k ≤ s.length
  · rw [List.getElem?_set, mrow_get hk, mrow_get hk, mrow_length]
    by_cases e : m = k
    · subst e
      rw [if_pos rfl, if_pos (by omega), if_pos (by omega)]
    · rw [if_neg e]
      by_cases hl : k < m
      · rw [if_pos hl, if_pos (by omega)]
      · rw [if_neg hl, if_neg (by omega)]
  · rw [List.getElem?_eq_none (by rw [List.length_set, mrow_length]; omega), List.getElem?_eq_none (by rw [mrow_length]; omega)]
theorem mrow_set_same {q p s : List UInt8} {m : Nat} (h : m ≤ s.length) (e : mk q s m = mk p s m) : mrow q p s (m + 1) = mrow q p s m := by
  apply List.ext_getElem?
  intro k
  by_cases hk : k ≤ s.length
  · rw [mrow_get hk, mrow_get hk]
    by_cases e1 : m = k
    · subst e1
      rw [if_pos (by omega), if_neg (by omega), e]
    · by_cases hl : k < m
      · rw [if_pos hl, if_pos (by omega)]
      · rw [if_neg hl, if_neg (by omega)]
  · rw [List.getElem?_eq_none (by rw [mrow_length]; omega), List.getElem?_eq_none (by rw [mrow_length]; omega)]
/-- downwards: the cells from m on of the pattern q -/
theorem mrow_down {q p s : List UInt8} {m : Nat} (h : m ≤ s.length) : (mrow p q s (m + 1)).set m (.bool (mk q s m)) = mrow p q s m := by
  apply List.ext_getElem?
  intro k
  by_cases hk : k ≤ s.length
  · rw [List.getElem?_set, mrow_get hk, mrow_get hk, mrow_length]
    by_cases e : m = k
    · subst e
      rw [if_pos rfl, if_pos (by omega), if_neg (by omega)]
    · rw [if_neg e]
      by_cases hl : k < m
      · rw [if_pos hl, if_pos (by omega)]
      · rw [if_neg hl, if_neg (by omega)]
  · rw [List.getElem?_eq_none (by rw [List.length_set, mrow_length]; omega), List.getElem?_eq_none (by rw [mrow_length]; omega)]
theorem mrow_all {q p s : List UInt8} {m : Nat} (h : s.length < m) : mrow q p s m = mrow q q s 0 := by
  apply List.ext_getElem?
  intro k
  by_cases hk : k ≤ s.length
  · rw [mrow_get hk, mrow_get hk, if_pos (by omega), if_neg (by omega)]
  · rw [List.getElem?_eq_none (by rw [mrow_length]; omega), List.getElem?_eq_none (by rw [mrow_length]; omega)]
theorem mrow_none (q p s : List UInt8) : mrow q p s 0 = mrow p p s 0 := by
  apply List.ext_getElem?
  intro k
  by_cases hk : k ≤ s.length
  · rw [mrow_get hk, mrow_get hk, if_neg (by omega), if_neg (by omega)]
  · rw [List.getElem?_eq_none (by rw [mrow_length]; omega), List.getElem?_eq_none (by rw [mrow_length]; omega)]
theorem take_snoc {s : List UInt8} {k : Nat} {b : UInt8} (h : s[k]? = some b) : s.take (k + 1) = s.take k ++ [b] := by rw [List.take_add_one, h]; rfl
/-- the rules of the rows -/
theorem mk_nil_zero (s : List UInt8) : mk [] s 0 = true := mk_true.2 rfl
theorem mk_nil_succ {s : List UInt8} {k : Nat} (h : k < s.length) : mk [] s (k + 1) = false := by
  rw [Bool.eq_false_iff]
  intro hm
  have h1 : s.take (k + 1) = [] := mk_true.1 hm
  have h2 := congrArg List.length h1
  rw [List.length_take, List.length_nil] at h2
  omega
theorem mk_pct_zero (p s : List UInt8) : mk (p ++ [37]) s 0 = mk p s 0 := mk_congr (by rw [List.take_zero]; exact LM_snoc_pct_nil p)
theorem mk_pct_succ {p s : List UInt8} {k : Nat} (h : k < s.length) : mk (p ++ [37]) s (k + 1) = (mk p s (k + 1) || mk (p ++ [37]) s k) := by
  obtain ⟨b, hb⟩ : ∃ b, s[k]? = some b := ⟨_, List.getElem?_eq_getElem h⟩
  rw [Bool.eq_iff_iff, Bool.or_eq_true, mk_true, mk_true, mk_true, take_snoc hb]
  exact LM_snoc_pct p _ b
theorem mk_chr_zero {c : UInt8} (h : c ≠ 37) (p s : List UInt8) : mk (p ++ [c]) s 0 = false := by
  rw [Bool.eq_false_iff]
  intro hm
  exact LM_snoc_nil h p (mk_true.1 hm)
theorem mk_chr_succ {c : UInt8} (h : c ≠ 37) {p s : List UInt8} {k : Nat} {b : UInt8} (hb : s[k]? = some b) : mk (p ++ [c]) s (k + 1) = (mk p s k && (c == 95 || c == b)) := by
  rw [Bool.eq_iff_iff, Bool.and_eq_true, mk_true, mk_true, take_snoc hb, LM_snoc h, Bool.or_eq_true, beq_iff_eq, beq_iff_eq]
theorem mrow_start (s : List UInt8) : (List.replicate (s.length + 1) (Value.bool false)).set 0 (.bool true) = mrow [] [] s 0 := by
  apply List.ext_getElem?
  intro k
  by_cases hk : k ≤ s.length
  · rw [mrow_get hk, if_neg (by omega), List.getElem?_set]
    cases k with
    | zero => rw [if_pos rfl, if_pos (by simp), mk_nil_zero]
    | succ k => rw [if_neg (by omega), mk_nil_succ (by omega), List.getElem?_replicate, if_pos (by omega)]
  · rw [List.getElem?_eq_none (by rw [List.length_set, List.length_replicate]; omega), List.getElem?_eq_none (by rw [mrow_length]; omega)]
end Go.Proofs.YtaiphocnfkkigaaDoor
