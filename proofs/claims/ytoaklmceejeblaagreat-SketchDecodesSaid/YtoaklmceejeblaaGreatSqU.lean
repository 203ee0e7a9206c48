/-
  Shaken: what the claims of this seat need of this text. No condition.
-/
import Derived.Test.YtoaklmceejeblaaGreatM19
import Derived.Test.YtoaklmceejeblaaGreatSkB
namespace Go.Proofs.YtoaklmceejeblaaGreat
set_option maxRecDepth 8000
open Go.RowKit
set_option linter.unusedVariables false
set_option linter.unusedSimpArgs false
theorem adjB_iff {c : Nat → Int} {n : Nat} : adjB c n = true ↔ ∀ i, i + 1 < n → c i < 0 := by
  unfold adjB
  rw [List.all_eq_true]
  constructor
  · intro h i hi
    exact of_decide_eq_true (h i (List.mem_range.2 (by omega)))
  · intro h i hi
    exact decide_eq_true (h i (by have := List.mem_range.1 hi; omega))
theorem getD_def {fs : List Val} {i : Nat} (h : i < fs.length) (a b : Val) : fs.getD i a = fs.getD i b := by
  rw [List.getD_eq_getElem?_getD, List.getD_eq_getElem?_getD, List.getElem?_eq_getElem h]
  rfl
theorem rvfP_iff {n : Int} {fs : List Val} {rk : List Int} (hn : 0 ≤ n) : rvfP n fs rk ↔ vfnP n fs ∧ vrkP n rk fs.length := by
  constructor
  · rintro ⟨h1, h2, h3, h4⟩
    refine ⟨⟨h1, h2, fun i f hf => ?_, adjB_iff.2 fun i hi => ?_⟩, h3, fun i hi => ?_, ?_⟩
    · have hl := (List.getElem?_eq_some_iff.1 hf).1
      have h := (h4 i hl).1
      have e : fs.getD i nulX = f := by rw [List.getD_eq_getElem?_getD, hf]; rfl
      unfold fenR at h
      rw [e] at h
      exact ⟨h.2.1, h.2.2.1, h.1⟩
    · have a := (h4 i (by omega)).1
      have b := (h4 (i + 1) (by omega)).1
      rw [getD_def (by omega) _ nulX, getD_def hi _ nulX, lcX_cmpX a.1 b.1]
      have := b.2.2.2 (by omega)
      rwa [Nat.add_sub_cancel] at this
    · have h := (h4 i hi).2
      unfold rnkR at h
      unfold rkOk prvP prvQ
      by_cases h0 : i = 0
      · rw [if_pos h0, if_pos h0]
        have := h.2.2.2.2.1 h0
        omega
      · rw [if_neg h0, if_neg h0]
        have := h.2.2.2.2.2.2 (by omega)
        omega
    · unfold prvQ
      by_cases h0 : fs.length = 0
      · rw [if_pos h0]; exact (h2.1 h0).symm
      · rw [if_neg h0]
        have h := (h4 (fs.length - 1) (by omega)).2
        unfold rnkR at h
        have e := h.2.2.2.2.2.1 (by omega)
        rw [show 2 * fs.length - 1 = 2 * (fs.length - 1) + 1 by omega]
        exact e
  · rintro ⟨⟨h1, h2, h3, h4⟩, h5, h6, h7⟩
    have hadj := adjB_iff.1 h4
    have hle : ∀ i, i ≤ fs.length → prvQ rk i ≤ n ∧ (i < fs.length → 0 ≤ prvQ rk i) := by
      intro i hi
      refine ⟨?_, fun h => ?_⟩
      · have key : ∀ d, d ≤ fs.length → prvQ rk (fs.length - d) ≤ n := by
          intro d
          induction d with
          | zero => intro _; rw [Nat.sub_zero, h7]; exact Int.le_refl _
          | succ d ih =>
            intro hd
            have a := ih (by omega)
            have b := h6 (fs.length - (d + 1)) (by omega)
            have e : prvQ rk (fs.length - d) = rk.getD (2 * (fs.length - (d + 1)) + 1) 0 := by
              unfold prvQ
              rw [if_neg (by omega)]
              congr 1
              omega
            rw [e] at a
            unfold rkOk at b
            omega
        have := key (fs.length - i) (by omega)
        rwa [show fs.length - (fs.length - i) = i by omega] at this
      · have key : ∀ j, j < fs.length → 0 ≤ prvQ rk j := by
          intro j
          induction j with
          | zero => intro _; unfold prvQ; rw [if_pos rfl]; exact Int.le_refl _
          | succ j ih =>
            intro hj
            have a := ih (by omega)
            have b := h6 j (by omega)
            have e : prvQ rk (j + 1) = rk.getD (2 * j + 1) 0 := by
              unfold prvQ
              rw [if_neg (by omega)]
              congr 1
            rw [e]
            unfold rkOk at b
            omega
        exact key i h
    refine ⟨h1, h2, h5, fun i hi => ⟨?_, ?_⟩⟩
    · have e : fs[i]? = some (fs.getD i nulX) := by
        rw [List.getD_eq_getElem?_getD, List.getElem?_eq_getElem hi]; rfl
      have h := h3 i _ e
      refine ⟨h.2.2, h.1, h.2.1, fun h0 => ?_⟩
      have e' : fs[i - 1]? = some (fs.getD (i - 1) nulX) := by
        rw [List.getD_eq_getElem?_getD, List.getElem?_eq_getElem (by omega)]; rfl
      have h' := h3 (i - 1) _ e'
      have hc := hadj (i - 1) (by omega)
      rw [getD_def (by omega) _ nulX, show i - 1 + 1 = i by omega, getD_def hi _ nulX, lcX_cmpX h'.2.2 h.2.2] at hc
      exact hc
    · have a := h6 i hi
      have q0 := (hle i (by omega)).2 hi
      have q1 := (hle (i + 1) (by omega)).1
      have e1 : prvQ rk (i + 1) = rk.getD (2 * i + 1) 0 := by
        unfold prvQ
        rw [if_neg (by omega)]
        congr 1
      rw [e1] at q1
      unfold rkOk at a
      unfold rnkR
      by_cases h0 : i = 0
      · refine ⟨by omega, by omega, by omega, by omega, fun _ => ?_, fun h => ?_, fun h => by omega⟩
        · have := a.2.2.2 h0; omega
        · rw [← h, e1] at h7; exact h7
      · have ep : prvP rk i = rk.getD (2 * i - 2) 0 := by unfold prvP; rw [if_neg h0]
        have eq : prvQ rk i = rk.getD (2 * i - 1) 0 := by unfold prvQ; rw [if_neg h0]
        rw [ep, eq] at a
        rw [eq] at q0
        refine ⟨by omega, by omega, by omega, by omega, fun h => absurd h h0, fun h => ?_, fun _ => ⟨by omega, by omega, by omega⟩⟩
        rw [← h, e1] at h7; exact h7
theorem valid_same (s : Sk) : rvalB s = validKB s := by
  unfold rvalB validKB
  by_cases h0 : 0 ≤ s.nulls ∧ s.nulls ≤ s.rows
  · have hn : 0 ≤ s.rows - s.nulls := by omega
    have e : rvfB (s.rows - s.nulls) s.fs s.rk = (vfnB (s.rows - s.nulls) s.fs && vrkB (s.rows - s.nulls) s.rk s.fs.length) := by
      by_cases h : rvfP (s.rows - s.nulls) s.fs s.rk
      · have h' := (rvfP_iff hn).1 h
        rw [rvfB_t h, vfnB_t h'.1, vrkB_t h'.2]
        rfl
      · rw [rvfB_f h]
        by_cases h1 : vfnP (s.rows - s.nulls) s.fs
        · rw [vrkB_f (fun h2 => h ((rvfP_iff hn).2 ⟨h1, h2⟩)), Bool.and_false]
        · rw [vfnB_f h1, Bool.false_and]
    rw [e, Bool.and_assoc _ (vfnB _ _)]
  · by_cases h1 : 0 ≤ s.nulls
    · rw [decide_eq_false (show ¬ s.nulls ≤ s.rows by omega)]
      simp
    · rw [decide_eq_false h1]
      simp
end Go.Proofs.YtoaklmceejeblaaGreat
