/-
  Shaken: what the claims of this seat need of this text. No condition.
-/
import Derived.Test.YtoaklmceejeblaaGreatSkJ
import Derived.Test.YtoaklmceejeblaaGreatSkC
import Derived.Test.YtoaklmceejeblaaGreatSkB
namespace Go.Proofs.YtoaklmceejeblaaGreat
set_option maxRecDepth 8000
open Go.RowKit
set_option linter.unusedVariables false
set_option linter.unusedSimpArgs false
theorem rvalB_parts {s : Sk} (h : rvalB s = true) : 0 ≤ s.nulls ∧ s.nulls ≤ s.rows ∧ validHP (s.rows - s.nulls) s.hs s.ok ∧ validCP (s.rows - s.nulls) s.cm ∧ rvfP (s.rows - s.nulls) s.fs s.rk := by
  unfold rvalB at h
  simp only [Bool.and_eq_true, decide_eq_true_eq] at h
  obtain ⟨⟨⟨⟨h1, h2⟩, h3⟩, h4⟩, h5⟩ := h
  refine ⟨h1, h2, validHB_iff.1 h3, validCB_iff.1 h4, ?_⟩
  apply Classical.byContradiction
  intro hn
  rw [rvfB_f hn] at h5
  exact absurd h5 (by decide)
theorem ctr_nonneg {n : Int} {cm : List Int} (h : validCP n cm) (r : Nat) (x : Val) : 0 ≤ ctrC cm r x := by
  unfold ctrC
  have hp := posN_lt r x
  rcases Nat.lt_or_ge r 4 with h4 | h4
  · exact (h.2 r h4).1 (posN r x) hp
  · rw [List.getD_eq_getElem?_getD, List.getElem?_eq_none (by rw [h.1]; omega)]
    exact Int.le_refl _
theorem gap_nonneg {s : Sk} (h : rvfP (s.rows - s.nulls) s.fs s.rk) (hn : OkRk s) {r : Nat} (hr : r < s.fs.length) : bfLo s r ≤ bfHi s (r + 1) := by
  have hlo := hn.lo r
  unfold bfHi
  by_cases h1 : r + 1 < s.fs.length
  · rw [if_pos h1]
    have a := ((h.2.2.2 (r + 1) h1).2.2.2.2.2.2.2 (Nat.succ_pos r)).2.2
    have b := (h.2.2.2 r hr).2
    rw [show 2 * (r + 1) - 1 = 2 * r + 1 by omega] at a
    unfold bfLo
    by_cases h0 : 0 < r
    · rw [if_pos h0]
      have c := (b.2.2.2.2.2.2 h0).2.1
      exact Int.le_trans c a
    · rw [if_neg h0]
      exact Int.le_trans b.2.2.1 a
  · rw [if_neg h1]; exact hlo.2
structure Counts (s : Sk) (x : Val) (r1 r2 : Nat) : Prop where
  hr1 : r1 ≤ s.fs.length
  hlo1 : ∀ (k : Nat) (y : Val), k < r1 → s.fs[k]? = some y → ¬ 0 < lcX y x
  hhi1 : ∀ (k : Nat) (y : Val), r1 ≤ k → s.fs[k]? = some y → 0 < lcX y x
  hr2 : r2 ≤ s.fs.length
  hlo2 : ∀ (k : Nat) (y : Val), k < r2 → s.fs[k]? = some y → ¬ 0 ≤ lcX y x
  hhi2 : ∀ (k : Nat) (y : Val), r2 ≤ k → s.fs[k]? = some y → 0 ≤ lcX y x
  ok : OkM s x
  eLo : rceqLo s x = ceqLo s x r1 r2
  eHi : rceqHi s x = ceqHi s x r1 r2
  lLo : lessLo s x = bfLo s r2
  lHi : lessHi s x = bfHi s r2
  m0 : lessMinF x false 0 s.fs s.rk = bfLo s r2
  M0 : lessMaxF (s.rows - s.nulls) x false s.fs s.rk = bfHi s r2
  m1 : lessMinF x true 0 s.fs s.rk = bfLo s r1
  M1 : lessMaxF (s.rows - s.nulls) x true s.fs s.rk = bfHi s r1
theorem counts_of {s : Sk} {x : Val} (h : rvalB s = true) (hrow : s.rows ≤ 9223372036854775807) (hx : okX x) : ∃ r1 r2, Counts s x r1 r2 := by
  obtain ⟨n0, n1, hh, hc, hf⟩ := rvalB_parts h
  obtain ⟨ha, ho⟩ := asc_of hf
  have hn : OkRk s := okrk_of hf (by omega) (by omega)
  obtain ⟨r2, hr2, hlo2, hhi2, m0, M0⟩ := less_cut (s := s) ha ho hx
  obtain ⟨r1, hr1, hlo1, hhi1, m1, M1⟩ := most_cut (s := s) ha ho hx
  obtain ⟨eLo, eHi⟩ := ceq_same hf (fun r => ctr_nonneg hc r x) hx hr1 hlo1 hhi1 hr2 hlo2 hhi2 M1 m0
  obtain ⟨lLo, lHi⟩ := less_same hf hx hr2 hlo2 m0 M0
  have b1 := hn.lo r1
  have b2 := hn.hi r1
  have b3 := hn.lo r2
  have b4 := hn.hi r2
  have hN : s.rows - s.nulls ≤ 9223372036854775807 := by omega
  have hgap : bfLo s r2 ≤ bfHi s r1 := by
    rcases cut_both ha ho hx hr1 hlo1 hhi1 hr2 hlo2 hhi2 with ⟨e, -⟩ | ⟨e, y, hy, -⟩
    · subst e
      rcases Nat.eq_zero_or_pos r1 with h0 | h0
      · rw [h0, (rank_first hf).1, (rank_first hf).2]; exact Int.le_refl _
      · rcases Nat.eq_or_lt_of_le hr1 with h1 | h1
        · rw [h1, (rank_last hf).1, (rank_last hf).2]; exact Int.le_refl _
        · exact rank_mid hf h0 h1
    · rw [e]
      exact gap_nonneg hf hn (List.getElem?_eq_some_iff.1 hy).1
  have hmn : 0 ≤ minL [ctrC s.cm 0 x, ctrC s.cm 1 x, ctrC s.cm 2 x, ctrC s.cm 3 x] := by
    have h0 := ctr_nonneg hc 0 x; have h1 := ctr_nonneg hc 1 x; have h2 := ctr_nonneg hc 2 x; have h3 := ctr_nonneg hc 3 x
    show 0 ≤ min (min (min (ctrC s.cm 0 x) (ctrC s.cm 1 x)) (ctrC s.cm 2 x)) (ctrC s.cm 3 x)
    omega
  refine ⟨r1, r2, hr1, hlo1, hhi1, hr2, hlo2, hhi2, ⟨by have := hh.1; omega, by have := hf.1; omega, hc.1, hf.2.2.1, hn, hx, fun b => ?_, fun b => ?_, ?_, ?_⟩, eLo, eHi, lLo, lHi, m0, M0, m1, M1⟩
  · cases b
    · rw [M0]; omega
    · rw [M1]; omega
  · cases b
    · rw [m0]; omega
    · rw [m1]; omega
  · rw [eLo]; unfold ceqLo
    split <;> omega
  · rw [eHi]; unfold ceqHi
    split <;> omega
theorem kind_of_valid {s : Sk} (h : rvalB s = true) : s.fs.length = 0 ∨ kindK s.fs = 1 ∨ kindK s.fs = 2 ∨ kindK s.fs = 3 := by
  obtain ⟨-, -, -, -, hf⟩ := rvalB_parts h
  rcases Nat.eq_zero_or_pos s.fs.length with h0 | h0
  · exact .inl h0
  · have h1 := (hf.2.2.2 0 h0).1
    have h2 := valid_k h1.1
    have h3 := h1.2.1
    rw [h1.2.2.1] at h2 h3
    omega
end Go.Proofs.YtoaklmceejeblaaGreat
