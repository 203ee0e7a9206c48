/-
  String literals as lists: quotes doubled, the middle of a literal read. No walk.
-/
import Derived.Test.YtaiphocnfkkigaaDoorLitNum
namespace Go.Proofs.YtaiphocnfkkigaaDoor
set_option linter.unusedVariables false
set_option linter.unusedSimpArgs false

/-- a string with each single quote doubled -/
def dblQ (l : List UInt8) : List UInt8 := l.flatMap fun c => if c = 39 then [39, 39] else [c]
theorem dblQ_snoc (l : List UInt8) (c : UInt8) : dblQ (l ++ [c]) = dblQ l ++ (if c = 39 then [39, 39] else [c]) := by unfold dblQ; rw [List.flatMap_append]; simp
theorem dblQ_length (l : List UInt8) : (dblQ l).length ≤ 2 * l.length := by
  induction l with
  | nil => simp [dblQ]
  | cons c l ih =>
    have e : dblQ (c :: l) = (if c = 39 then [39, 39] else [c]) ++ dblQ l := by unfold dblQ; rw [List.flatMap_cons]
    rw [e, List.length_append, List.length_cons]
    by_cases h : c = 39
    · rw [if_pos h]; simp; omega
    · rw [if_neg h]; simp; omega
def quoteL (l : List UInt8) : List UInt8 := 39 :: dblQ l ++ [39]
/-- the bytes that the middle of a string literal denotes -/
def unqM : List UInt8 → Option (List UInt8)
  | [] => some []
  | [c] => if c = 39 then none else some [c]
  | c :: d :: r => if c = 39 then (if d = 39 then (unqM r).map (39 :: ·) else none) else (unqM (d :: r)).map (c :: ·)
theorem unqM_ne {c : UInt8} (h : c ≠ 39) (r : List UInt8) : unqM (c :: r) = (unqM r).map (c :: ·) := by
  cases r with
  | nil => show (if c = 39 then none else some [c]) = _; rw [if_neg h]; rfl
  | cons d r => show (if c = 39 then _ else _) = _; rw [if_neg h]
theorem unqM_qq (r : List UInt8) : unqM (39 :: 39 :: r) = (unqM r).map (39 :: ·) := by show (if (39 : UInt8) = 39 then (if (39 : UInt8) = 39 then _ else _) else _) = _; rw [if_pos rfl, if_pos rfl]
theorem unqM_q : unqM [39] = none := by decide
theorem unqM_qn {d : UInt8} (h : d ≠ 39) (r : List UInt8) : unqM (39 :: d :: r) = none := by show (if (39 : UInt8) = 39 then (if d = 39 then _ else none) else _) = _; rw [if_pos rfl, if_neg h]
def unqR (o : Option (List UInt8)) : List UInt8 × Int := match o with | some t => (t, 0) | none => ([], 4)
def unqL (l : List UInt8) : List UInt8 × Int :=
  if 2 ≤ l.length ∧ l[0]? = some 39 ∧ l[l.length - 1]? = some 39 then unqR (unqM ((l.drop 1).take (l.length - 2))) else ([], 4)
theorem unqM_length : ∀ (k : Nat) (m t : List UInt8), m.length ≤ k → unqM m = some t → t.length ≤ m.length
  | _, [], t, _, h => by
    have e : [] = t := by injection h
    subst e
    exact Nat.le_refl _
  | 0, _ :: _, _, h, _ => by simp at h
  | k + 1, c :: r, t, hk, h => by
    by_cases hc : c = 39
    · subst hc
      cases r with
      | nil => rw [unqM_q] at h; cases h
      | cons d r =>
        by_cases hd : d = 39
        · subst hd
          rw [unqM_qq] at h
          cases hr : unqM r with
          | none => rw [hr] at h; cases h
          | some u =>
            rw [hr] at h
            have e : 39 :: u = t := by injection h
            subst e
            have := unqM_length k r u (by simp at hk; omega) hr
            simp
            omega
        · rw [unqM_qn hd] at h; cases h
    · rw [unqM_ne hc] at h
      cases hr : unqM r with
      | none => rw [hr] at h; cases h
      | some u =>
        rw [hr] at h
        have e : c :: u = t := by injection h
        subst e
        have := unqM_length k r u (by simp at hk; omega) hr
        simp
        omega
theorem unqL_length (l : List UInt8) : (unqL l).1.length ≤ l.length := by
  unfold unqL
  split
  · cases hu : unqM ((l.drop 1).take (l.length - 2)) with
    | none => simp [unqR]
    | some t =>
      have h9 := unqM_length _ _ t (Nat.le_refl _) hu
      rw [List.length_take, List.length_drop] at h9
      simp [unqR]
      omega
  · simp
end Go.Proofs.YtaiphocnfkkigaaDoor
