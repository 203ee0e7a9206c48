/-
  Shaken: what the claims of this seat need of this text. No condition.
-/
import Derived.Test.YtoaklmceejeblaaGreatSkA
import Derived.Test.YtoaklmceejeblaaGreatSkE
import Derived.Test.YtoaklmceejeblaaGreatM16
namespace Go.Proofs.YtoaklmceejeblaaGreat
set_option maxRecDepth 8000
open Go.RowKit
set_option linter.unusedVariables false
theorem getD_of_some {fs : List Val} {i : Nat} {y : Val} (h : fs[i]? = some y) : fs.getD i nulX = y := by rw [List.getD_eq_getElem?_getD, h]; rfl
theorem fen_step {fs : List Val} (h : ∀ i, i < fs.length → fenR fs i) : ∀ d i : Nat, i + d + 1 < fs.length → cmpX (fs.getD i nulX) (fs.getD (i + d + 1) nulX) < 0
  | 0, i, hi => (h (i + 1) hi).2.2.2 (Nat.succ_pos i)
  | d + 1, i, hi => by
    have a := fen_step h d i (by omega)
    have b := (h (i + d + 1 + 1) hi).2.2.2 (Nat.succ_pos _)
    rw [Nat.add_sub_cancel] at b
    have k1 := (h i (by omega)).2.2.1
    have k2 := (h (i + d + 1) (by omega)).2.2.1
    have k3 := (h (i + d + 1 + 1) hi).2.2.1
    exact cmpX_lt_trans (k1.trans k2.symm) (k2.trans k3.symm) (h i (by omega)).1 (h (i + d + 1) (by omega)).1 (h _ hi).1 a (Int.le_of_lt b)
theorem asc_of {n : Int} {fs : List Val} {rk : List Int} (h : rvfP n fs rk) : Asc fs ∧ ∀ y ∈ fs, okX y := by
  have hf : ∀ i, i < fs.length → fenR fs i := fun i hi => (h.2.2.2 i hi).1
  have ho : ∀ (i : Nat) (y : Val), fs[i]? = some y → okX y ∧ y.k = kindK fs := fun i y hy => by
    obtain ⟨hi, -⟩ := List.getElem?_eq_some_iff.1 hy
    have := hf i hi
    rw [fenR, getD_of_some hy] at this
    exact ⟨this.1, this.2.2.1⟩
  refine ⟨fun i j y z hij hy hz => ⟨(ho i y hy).2.trans (ho j z hz).2.symm, (ho i y hy).1, (ho j z hz).1, ?_⟩, fun y hy => ?_⟩
  · obtain ⟨hj, -⟩ := List.getElem?_eq_some_iff.1 hz
    have := fen_step hf (j - i - 1) i (by omega)
    rwa [show i + (j - i - 1) + 1 = j by omega, getD_of_some hy, getD_of_some hz] at this
  · obtain ⟨i, hi⟩ := List.getElem?_of_mem hy
    exact (ho i y hi).1
theorem okrk_of {s : Sk} (h : rvfP (s.rows - s.nulls) s.fs s.rk) (h0 : 0 ≤ s.rows - s.nulls) (h1 : s.rows - s.nulls ≤ 9223372036854775807) : OkRk s := by
  refine ⟨h0, h1, fun r hr => ?_⟩
  obtain ⟨i, hi⟩ := List.getElem?_of_mem hr
  obtain ⟨hlt, -⟩ := List.getElem?_eq_some_iff.1 hi
  have hl := h.2.2.1
  have hk := (h.2.2.2 (i / 2) (by omega)).2
  have hg : s.rk.getD i 0 = r := by rw [List.getD_eq_getElem?_getD, hi]; rfl
  rcases Nat.mod_two_eq_zero_or_one i with e | e
  · rw [← hg, show i = 2 * (i / 2) by omega]
    exact ⟨hk.1, hk.2.1⟩
  · rw [← hg, show i = 2 * (i / 2) + 1 by omega]
    exact ⟨hk.2.2.1, hk.2.2.2.1⟩
theorem rank_first {s : Sk} (h : rvfP (s.rows - s.nulls) s.fs s.rk) : bfLo s 0 = 0 ∧ bfHi s 0 = 0 := by
  refine ⟨if_neg (Nat.lt_irrefl 0), ?_⟩
  unfold bfHi
  by_cases h0 : 0 < s.fs.length
  · rw [if_pos h0]; exact (h.2.2.2 0 h0).2.2.2.2.2.1 rfl
  · rw [if_neg h0]; exact h.2.1.1 (by omega)
theorem rank_last {s : Sk} (h : rvfP (s.rows - s.nulls) s.fs s.rk) : bfLo s s.fs.length = s.rows - s.nulls ∧ bfHi s s.fs.length = s.rows - s.nulls := by
  refine ⟨?_, if_neg (Nat.lt_irrefl _)⟩
  unfold bfLo
  by_cases h0 : 0 < s.fs.length
  · rw [if_pos h0, show 2 * s.fs.length - 1 = 2 * (s.fs.length - 1) + 1 by omega]
    exact (h.2.2.2 (s.fs.length - 1) (by omega)).2.2.2.2.2.2.1 (by omega)
  · rw [if_neg h0, h.2.1.1 (by omega)]
theorem rank_mid {s : Sk} (h : rvfP (s.rows - s.nulls) s.fs s.rk) {r : Nat} (h0 : 0 < r) (h1 : r < s.fs.length) : bfLo s r ≤ bfHi s r := by
  unfold bfLo bfHi
  rw [if_pos h0, if_pos h1]
  exact ((h.2.2.2 r h1).2.2.2.2.2.2.2 h0).2.2
theorem cut_both {s : Sk} {x : Val} {r1 r2 : Nat} (ha : Asc s.fs) (ho : ∀ y ∈ s.fs, okX y) (hx : okX x)
    (hr1 : r1 ≤ s.fs.length) (hlo1 : ∀ (k : Nat) (y : Val), k < r1 → s.fs[k]? = some y → ¬ 0 < lcX y x) (hhi1 : ∀ (k : Nat) (y : Val), r1 ≤ k → s.fs[k]? = some y → 0 < lcX y x)
    (hr2 : r2 ≤ s.fs.length) (hlo2 : ∀ (k : Nat) (y : Val), k < r2 → s.fs[k]? = some y → ¬ 0 ≤ lcX y x) (hhi2 : ∀ (k : Nat) (y : Val), r2 ≤ k → s.fs[k]? = some y → 0 ≤ lcX y x) :
    (r1 = r2 ∧ ∀ (k : Nat) (y : Val), s.fs[k]? = some y → cmpX y x ≠ 0) ∨ (r1 = r2 + 1 ∧ ∃ y, s.fs[r2]? = some y ∧ cmpX y x = 0) := by
  have c : ∀ (k : Nat) (y : Val), s.fs[k]? = some y → lcX y x = cmpX y x := fun k y hy => lcX_cmpX (okAll ho hy) hx
  have hle : r2 ≤ r1 := by
    apply Nat.le_of_not_lt
    intro hlt
    obtain ⟨y, hy⟩ : ∃ y, s.fs[r1]? = some y := ⟨_, List.getElem?_eq_getElem (by omega)⟩
    exact hlo2 r1 y hlt hy (Int.le_of_lt (hhi1 r1 y (Nat.le_refl _) hy))
  rcases Nat.eq_or_lt_of_le hle with e | hlt
  · refine .inl ⟨e.symm, fun k y hy h0 => ?_⟩
    have hc := c k y hy
    rcases Nat.lt_or_ge k r1 with hk | hk
    · have := hlo2 k y (by omega) hy; omega
    · have := hhi1 k y hk hy; omega
  · obtain ⟨y, hy⟩ : ∃ y, s.fs[r2]? = some y := ⟨_, List.getElem?_eq_getElem (by omega)⟩
    have h1 := hhi2 r2 y (Nat.le_refl _) hy
    have h2 := hlo1 r2 y hlt hy
    have hc := c r2 y hy
    have h0 : cmpX y x = 0 := by omega
    refine .inr ⟨Classical.byContradiction fun hn => ?_, y, hy, h0⟩
    obtain ⟨z, hz⟩ : ∃ z, s.fs[r2 + 1]? = some z := ⟨_, List.getElem?_eq_getElem (by omega)⟩
    have g2 := hlo1 (r2 + 1) z (by omega) hz
    have hcz := c (r2 + 1) z hz
    have up := asc_up ha hx (Nat.lt_succ_self r2) hy hz (by omega)
    by_cases hk : y.k = x.k
    · have := up.1 hk; omega
    · have hb : cmpX y x ≠ 0 := by
        unfold cmpX cmpV
        rw [if_neg hk]
        by_cases hl : y.k < x.k <;> simp [hl, sgnV]
      exact hb h0
end Go.Proofs.YtoaklmceejeblaaGreat
