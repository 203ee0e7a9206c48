/-
  Literals: what is formatted is parsed back. Lists and arithmetic; no walk.
-/
import Derived.Test.YtaiphocnfkkigaaDoorLit5
import Derived.Test.YtaiphocnfkkigaaDoorLit4
namespace Go.Proofs.YtaiphocnfkkigaaDoor
set_option linter.unusedVariables false
set_option linter.unusedSimpArgs false

theorem dblQ_cons (c : UInt8) (l : List UInt8) : dblQ (c :: l) = (if c = 39 then [39, 39] else [c]) ++ dblQ l := by unfold dblQ; rw [List.flatMap_cons]
theorem unqM_dblQ : ∀ l : List UInt8, unqM (dblQ l) = some l
  | [] => rfl
  | c :: l => by
    have ih := unqM_dblQ l
    rw [dblQ_cons]
    by_cases h : c = 39
    · rw [if_pos h, List.cons_append, List.cons_append, List.nil_append, unqM_qq, ih, h]
      rfl
    · rw [if_neg h, List.cons_append, List.nil_append, unqM_ne h, ih]
      rfl
theorem unqL_quoteL (l : List UInt8) : unqL (quoteL l) = (l, 0) := by
  unfold quoteL
  rw [List.cons_append, unqL_ok, unqM_dblQ]
  rfl
theorem dblQ_unqM : ∀ (k : Nat) (m t : List UInt8), m.length ≤ k → unqM m = some t → dblQ t = m
  | _, [], t, _, h => by
    have e : t = [] := by injection h with h; exact h.symm
    subst e
    rfl
  | 0, _ :: _, _, h, _ => by simp at h
  | k + 1, c :: r, t, hk, h => by
    by_cases hc : c = 39
    · subst hc
      cases r with
      | nil => rw [unqM_q] at h; cases h
      | cons d r =>
        by_cases hd : d = 39
        · subst hd
          rw [unqM_qq] at h
          cases hr : unqM r with
          | none => rw [hr] at h; cases h
          | some u =>
            rw [hr] at h
            have e : 39 :: u = t := by injection h
            subst e
            rw [dblQ_cons, if_pos rfl, dblQ_unqM k r u (by simp at hk; omega) hr]
            rfl
        · rw [unqM_qn hd] at h; cases h
    · rw [unqM_ne hc] at h
      cases hr : unqM r with
      | none => rw [hr] at h; cases h
      | some u =>
        rw [hr] at h
        have e : c :: u = t := by injection h
        subst e
        rw [dblQ_cons, if_neg hc, dblQ_unqM k r u (by simp at hk; omega) hr]
        rfl
theorem decP_props : ∀ (k n : Nat), n < 10 ^ k → decV (decP n) = n ∧ (decP n).all isDig = true ∧ (0 < n → ∃ c r, decP n = c :: r ∧ c ≠ 48)
  | 0, n, h => by
    have e : n = 0 := by simpa using h
    subst e
    rw [decP_zero]
    exact ⟨rfl, rfl, fun h => absurd h (by decide)⟩
  | k + 1, n, h => by
    by_cases h0 : n = 0
    · subst h0
      rw [decP_zero]
      exact ⟨rfl, rfl, fun h => absurd h (by decide)⟩
    · obtain ⟨i1, i2, i3⟩ := decP_props k (n / 10) (by rw [Nat.pow_succ] at h; omega)
      have hd : n % 10 < 10 := Nat.mod_lt _ (by decide)
      have hu : (UInt8.ofNat (48 + n % 10)).toNat = 48 + n % 10 := by rw [UInt8.toNat_ofNat']; exact Nat.mod_eq_of_lt (by omega)
      rw [decP_pos (by omega)]
      refine ⟨by rw [decV_snoc, i1, hu]; omega, ?_, fun _ => ?_⟩
      · rw [List.all_append, i2]
        unfold isDig
        simp only [List.all_cons, List.all_nil, Bool.and_true, Bool.true_and, Bool.and_eq_true, decide_eq_true_eq, hu]
        omega
      · by_cases h1 : n / 10 = 0
        · rw [h1, decP_zero]
          refine ⟨_, [], rfl, fun he => ?_⟩
          have := congrArg UInt8.toNat he
          rw [hu] at this
          have e48 : (48 : UInt8).toNat = 48 := rfl
          omega
        · obtain ⟨c, r, e, hc⟩ := i3 (by omega)
          exact ⟨c, r ++ [UInt8.ofNat (48 + n % 10)], by rw [e]; rfl, hc⟩
theorem prsI_neg (r : List UInt8) : prsI (45 :: r) = prsD true (45 :: r) r := by
  show (if (45 : UInt8) = 45 then prsD true (45 :: r) r else prsD false (45 :: r) (45 :: r)) = _
  rw [if_pos rfl]
theorem prsI_pos {c : UInt8} (h : c ≠ 45) (r : List UInt8) : prsI (c :: r) = prsD false (c :: r) (c :: r) := if_neg h
/-- ParseInt inverts FormatInt -/
theorem prsI_fmtI (n : Int) (h0 : -9223372036854775808 ≤ n) (h1 : n < 9223372036854775808) : prsI (fmtI n) = (n, 0) := by
  by_cases hz : n = 0
  · subst hz
    decide
  · obtain ⟨N, hN⟩ : ∃ N, N = n.natAbs := ⟨_, rfl⟩
    have hNl : N < 10 ^ 20 := by omega
    obtain ⟨p1, p2, p3⟩ := decP_props 20 N hNl
    obtain ⟨c, r, hcr, hc⟩ := p3 (by omega)
    have hbad : ∀ l : List UInt8, ¬ (decP N = [] ∨ ((decP N).head? = some 48 ∧ l ≠ [48])) := fun l h => by
      rw [hcr] at h
      rcases h with h | h
      · cases h
      · have e := h.1
        injection e with e
        exact hc e
    by_cases hn : n < 0
    · have e : fmtI n = 45 :: decP N := by unfold fmtI; rw [if_neg hz, if_pos hn, hN]
      rw [e, prsI_neg, prsD_okN (hbad _) p2, p1, if_pos (by omega)]
      congr 1
      omega
    · have e : fmtI n = decP N := by unfold fmtI; rw [if_neg hz, if_neg hn, hN]
      have h45 : c ≠ 45 := fun he => by
        rw [hcr, List.all_cons, Bool.and_eq_true] at p2
        have := p2.1
        rw [he] at this
        exact absurd this (by decide)
      rw [e, hcr, prsI_pos h45, ← hcr, prsD_okP (hbad _) p2, p1, if_pos (by omega)]
      congr 1
      omega
end Go.Proofs.YtaiphocnfkkigaaDoor
