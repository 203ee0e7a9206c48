/-
  Shaken: what the claims of this seat need of this text. No condition.
-/
import Derived.Test.YtoaklmceejeblaaGreatM11
import Derived.Test.YtoaklmceejeblaaGreatM14
namespace Go.Proofs.YtoaklmceejeblaaGreat
set_option maxRecDepth 8000
open Go.RowKit
set_option linter.unusedVariables false
theorem cut_of (P : Val → Prop) : ∀ fs : List Val, (∀ (i j : Nat) (y z : Val), i < j → fs[i]? = some y → fs[j]? = some z → P y → P z) → ∃ r, r ≤ fs.length ∧ (∀ (k : Nat) (y : Val), k < r → fs[k]? = some y → ¬ P y) ∧ (∀ (k : Nat) (y : Val), r ≤ k → fs[k]? = some y → P y)
  | [], _ => ⟨0, Nat.le_refl _, fun k y h => absurd h (Nat.not_lt_zero _), fun k y _ h => by simp at h⟩
  | f :: fs, hm => by
    by_cases hf : P f
    · refine ⟨0, Nat.zero_le _, fun k y h => absurd h (Nat.not_lt_zero _), fun k y _ h => ?_⟩
      cases k with
      | zero => simp at h; rwa [← h]
      | succ k => exact hm 0 (k + 1) f y (by omega) rfl h hf
    · obtain ⟨r, hr, h1, h2⟩ := cut_of P fs (fun i j y z hij hy hz => hm (i + 1) (j + 1) y z (by omega) (by simpa using hy) (by simpa using hz))
      refine ⟨r + 1, by simpa using hr, fun k y hk h => ?_, fun k y hk h => ?_⟩
      · cases k with
        | zero => simp at h; rwa [← h]
        | succ k => exact h1 k y (by omega) (by simpa using h)
      · cases k with
        | zero => omega
        | succ k => exact h2 k y (by omega) (by simpa using h)
theorem maxF_cut (n : Int) (x : Val) (st : Bool) : ∀ (fs : List Val) (rk : List Int) (r : Nat), r ≤ fs.length → (∀ (k : Nat) (y : Val), k < r → fs[k]? = some y → ¬ (0 < cmpX y x ∨ (cmpX y x = 0 ∧ st = false))) → (∀ (k : Nat) (y : Val), r ≤ k → fs[k]? = some y → (0 < cmpX y x ∨ (cmpX y x = 0 ∧ st = false))) →
    lessMaxF n x st fs rk = if r < fs.length then rk.getD (2 * r) 0 else n
  | [], rk, r, hr, _, _ => by simp at hr; subst hr; simp [lessMaxF]
  | f :: fs, rk, 0, _, _, hhi => by
    rw [lessMaxF, if_pos (hhi 0 f (Nat.le_refl _) rfl), if_pos (by simp)]
    cases rk <;> simp
  | f :: fs, rk, r + 1, hr, hlo, hhi => by
    rw [lessMaxF, if_neg (hlo 0 f (by omega) rfl), maxF_cut n x st fs (rk.drop 2) r (by simpa using hr) (fun k y hk hy => hlo (k + 1) y (by omega) (by simpa using hy)) (fun k y hk hy => hhi (k + 1) y (by omega) (by simpa using hy))]
    have e : (rk.drop 2).getD (2 * r) 0 = rk.getD (2 * (r + 1)) 0 := by
      rw [List.getD_eq_getElem?_getD, List.getD_eq_getElem?_getD, List.getElem?_drop, show 2 + 2 * r = 2 * (r + 1) by omega]
    rw [e]
    by_cases h : r < fs.length
    · rw [if_pos h, if_pos (by simpa using h)]
    · rw [if_neg h, if_neg (by simpa using h)]
theorem minF_cut (x : Val) (eq : Bool) : ∀ (fs : List Val) (acc : Int) (rk : List Int) (r : Nat), r ≤ fs.length → (∀ (k : Nat) (y : Val), k < r → fs[k]? = some y → (cmpX y x < 0 ∨ (cmpX y x = 0 ∧ eq = true))) → (∀ (k : Nat) (y : Val), r ≤ k → fs[k]? = some y → ¬ (cmpX y x < 0 ∨ (cmpX y x = 0 ∧ eq = true))) →
    lessMinF x eq acc fs rk = if 0 < r then rk.getD (2 * r - 1) 0 else acc
  | [], acc, rk, r, hr, _, _ => by simp at hr; subst hr; simp [lessMinF]
  | f :: fs, acc, rk, 0, _, hlo, hhi => by
    rw [lessMinF, if_neg (hhi 0 f (Nat.le_refl _) rfl), minF_cut x eq fs acc (rk.drop 2) 0 (Nat.zero_le _) (fun k y hk => absurd hk (Nat.not_lt_zero _)) (fun k y hk hy => hhi (k + 1) y (by omega) (by simpa using hy))]
    simp
  | f :: fs, acc, rk, r + 1, hr, hlo, hhi => by
    rw [lessMinF, if_pos (hlo 0 f (by omega) rfl), minF_cut x eq fs _ (rk.drop 2) r (by simpa using hr) (fun k y hk hy => hlo (k + 1) y (by omega) (by simpa using hy)) (fun k y hk hy => hhi (k + 1) y (by omega) (by simpa using hy)), if_pos (Nat.succ_pos r)]
    by_cases h : 0 < r
    · rw [if_pos h, List.getD_eq_getElem?_getD, List.getD_eq_getElem?_getD, List.getElem?_drop, show 2 + (2 * r - 1) = 2 * (r + 1) - 1 by omega]
    · have e : r = 0 := by omega
      subst e
      rw [if_neg h]
      cases rk with
      | nil => rfl
      | cons a l => cases l <;> simp
def Asc (fs : List Val) : Prop := ∀ (i j : Nat) (y z : Val), i < j → fs[i]? = some y → fs[j]? = some z → y.k = z.k ∧ okX y ∧ okX z ∧ cmpX y z < 0
theorem asc_up {fs : List Val} (h : Asc fs) {x : Val} (hx : okX x) {i j : Nat} {y z : Val} (hij : i < j) (hy : fs[i]? = some y) (hz : fs[j]? = some z) (a : 0 ≤ cmpX y x) : (y.k = x.k → 0 < cmpX z x) ∧ (y.k ≠ x.k → cmpX z x = cmpX y x) := by
  obtain ⟨h1, h2, h3, h4⟩ := h i j y z hij hy hz
  refine ⟨fun hk => ?_, fun hk => ?_⟩
  · have e := cmpX_anti (x := y) (y := x) hk
    have h5 := cmpX_le_lt hk.symm h1 hx h2 h3 (by omega) h4
    have e2 := cmpX_anti (x := x) (y := z) (hk.symm.trans h1)
    omega
  · unfold cmpX cmpV
    rw [if_neg (fun e => hk (h1.trans e)), if_neg hk, h1]
theorem okAll {fs : List Val} (h : ∀ y ∈ fs, okX y) {k : Nat} {y : Val} (hy : fs[k]? = some y) : okX y := h y (List.mem_of_getElem? hy)
theorem less_cut {s : Sk} {x : Val} (ha : Asc s.fs) (ho : ∀ y ∈ s.fs, okX y) (hx : okX x) : ∃ r, r ≤ s.fs.length ∧ (∀ (k : Nat) (y : Val), k < r → s.fs[k]? = some y → ¬ 0 ≤ lcX y x) ∧ (∀ (k : Nat) (y : Val), r ≤ k → s.fs[k]? = some y → 0 ≤ lcX y x) ∧
    lessMinF x false 0 s.fs s.rk = bfLo s r ∧ lessMaxF (s.rows - s.nulls) x false s.fs s.rk = bfHi s r := by
  obtain ⟨r, hr, h1, h2⟩ := cut_of (fun y => 0 ≤ cmpX y x) s.fs (fun i j y z hij hy hz a => by
    have h := asc_up ha hx hij hy hz a
    by_cases hk : y.k = x.k
    · have := h.1 hk; omega
    · rw [h.2 hk]; exact a)
  refine ⟨r, hr, fun k y hk hy => by rw [lcX_cmpX (okAll ho hy) hx]; exact h1 k y hk hy, fun k y hk hy => by rw [lcX_cmpX (okAll ho hy) hx]; exact h2 k y hk hy, ?_, ?_⟩
  · rw [minF_cut x false s.fs 0 s.rk r hr (fun k y hk hy => .inl (by have := h1 k y hk hy; omega)) (fun k y hk hy => by have := h2 k y hk hy; simp; omega)]
    rfl
  · rw [maxF_cut _ x false s.fs s.rk r hr (fun k y hk hy => by have := h1 k y hk hy; simp; omega) (fun k y hk hy => by have := h2 k y hk hy; simp; omega)]
    rfl
theorem most_cut {s : Sk} {x : Val} (ha : Asc s.fs) (ho : ∀ y ∈ s.fs, okX y) (hx : okX x) : ∃ r, r ≤ s.fs.length ∧ (∀ (k : Nat) (y : Val), k < r → s.fs[k]? = some y → ¬ 0 < lcX y x) ∧ (∀ (k : Nat) (y : Val), r ≤ k → s.fs[k]? = some y → 0 < lcX y x) ∧
    lessMinF x true 0 s.fs s.rk = bfLo s r ∧ lessMaxF (s.rows - s.nulls) x true s.fs s.rk = bfHi s r := by
  obtain ⟨r, hr, h1, h2⟩ := cut_of (fun y => 0 < cmpX y x) s.fs (fun i j y z hij hy hz a => by
    have h := asc_up ha hx hij hy hz (Int.le_of_lt a)
    by_cases hk : y.k = x.k
    · exact h.1 hk
    · show 0 < cmpX z x; rw [h.2 hk]; exact a)
  refine ⟨r, hr, fun k y hk hy => by rw [lcX_cmpX (okAll ho hy) hx]; exact h1 k y hk hy, fun k y hk hy => by rw [lcX_cmpX (okAll ho hy) hx]; exact h2 k y hk hy, ?_, ?_⟩
  · rw [minF_cut x true s.fs 0 s.rk r hr (fun k y hk hy => by have := h1 k y hk hy; simp; omega) (fun k y hk hy => by have := h2 k y hk hy; simp; omega)]
    rfl
  · rw [maxF_cut _ x true s.fs s.rk r hr (fun k y hk hy => by have := h1 k y hk hy; simp; omega) (fun k y hk hy => .inl (h2 k y hk hy))]
    rfl
end Go.Proofs.YtoaklmceejeblaaGreat
