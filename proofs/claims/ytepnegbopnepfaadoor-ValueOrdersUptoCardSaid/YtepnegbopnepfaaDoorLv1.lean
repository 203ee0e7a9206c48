/-
  Package value as it landed: Valid, boolean, integer, text, tag, Not; cmp.Compare, strings.Compare; Compare, Equal. Nothing that was there is changed.
-/
import Derived.Test.YtepnegbopnepfaaDoorVRow
import Derived.Lib.Bytealg
import Derived.Lib.Small
namespace Go.Proofs.YtepnegbopnepfaaDoor
open Go.RowKit
set_option linter.unusedVariables false
set_option linter.unusedSimpArgs false

theorem lvalid_any (k n : Int) (t : ByteArray) (w : World) : Calls Tryd.prog 14 #[.agg #[.int .i64 k, .int .i64 n, .string t]] w fun e w' => e = .returned (.bool (validV k n t)) ∧ Grows w w' := by
  by_cases h0 : k = 0
  · subst h0
    go_enter Tryd.func14, Tryd.ntmps14
    go_wp2_with fail
    all_goals (go_ret; exact ⟨retB (by simp [validV, *]), grow1 _⟩)
  by_cases h1 : k = 1
  · subst h1
    clear h0
    go_enter Tryd.func14, Tryd.ntmps14
    go_wp2_with fail
    all_goals (go_ret; exact ⟨retB (by simp [validV, *]), grow1 _⟩)
  by_cases h2 : k = 2
  · subst h2
    clear h0 h1
    go_enter Tryd.func14, Tryd.ntmps14
    go_wp2_with fail
    all_goals (go_ret; exact ⟨retB (by simp [validV, *]), grow1 _⟩)
  by_cases h3 : k = 3
  · subst h3
    clear h0 h1 h2
    go_enter Tryd.func14, Tryd.ntmps14
    go_wp2_with fail
    all_goals (go_ret; exact ⟨retB (by simp [validV, *]; try omega), grow1 _⟩)
  · go_enter Tryd.func14, Tryd.ntmps14
    go_wp2_with fail
    all_goals (go_ret; exact ⟨retB (by simp [validV, *]), grow1 _⟩)
theorem lboolean_any (b : Bool) (w : World) : Calls Tryd.prog 44 #[.bool b] w fun e w' => e = .returned (boolV b) ∧ Grows w w' := by
  cases b <;>
  · go_enter Tryd.func44, Tryd.ntmps44
    go_wp2_with fail
    exact bodyPost_ret (results_val rfl _ _ _ _ _ _ rfl (valRow w _ _ _)) rfl ⟨rfl, grow1 _⟩
theorem linteger_any (n : Int) (w : World) : Calls Tryd.prog 50 #[.int .i64 n] w fun e w' => e = .returned (intV n) ∧ Grows w w' := by
  go_enter Tryd.func50, Tryd.ntmps50
  go_wp2_with fail
  exact bodyPost_ret (results_val rfl _ _ _ _ _ _ rfl (valRow w _ _ _)) rfl ⟨rfl, grow1 _⟩
def textV (t : ByteArray) : Value := .agg #[.int .i64 3, .int .i64 0, .string t]
theorem ltext_any (t : ByteArray) (w : World) : Calls Tryd.prog 52 #[.string t] w fun e w' => e = .returned (textV t) ∧ Grows w w' := by
  go_enter Tryd.func52, Tryd.ntmps52
  go_wp2_with fail
  exact bodyPost_ret (results_val rfl _ _ _ _ _ _ rfl (valRow w _ _ _)) rfl ⟨rfl, grow1 _⟩
theorem linteger2_any (n : Int) (w : World) : Calls Tryd.prog 15 #[.int .i64 n] w fun e w' => e = .returned (intV n) ∧ Grows w w' := by
  go_enter Tryd.func15, Tryd.ntmps15
  go_wp2_with fail
  exact bodyPost_ret (results_val rfl _ _ _ _ _ _ rfl (valRow w _ _ _)) rfl ⟨rfl, grow1 _⟩
theorem ltext2_any (t : ByteArray) (w : World) : Calls Tryd.prog 17 #[.string t] w fun e w' => e = .returned (textV t) ∧ Grows w w' := by
  go_enter Tryd.func17, Tryd.ntmps17
  go_wp2_with fail
  exact bodyPost_ret (results_val rfl _ _ _ _ _ _ rfl (valRow w _ _ _)) rfl ⟨rfl, grow1 _⟩
theorem cmpint_any (x y : Int) (w : World) :
    Calls Tryd.prog 36 #[.int .i64 x, .int .i64 y] w fun e w' => e = .returned (.int .i64 (sgnV (decide (x < y)) (decide (y < x)))) ∧ w = w' := by
  go_enter Tryd.func36, Tryd.ntmps36
  go_wp2
  all_goals (go_ret; refine ⟨?_, rfl⟩; simp only [sgnV, decide_eq_true_eq]; (repeat' split) <;> first | rfl | (exfalso; omega))
theorem cmpi64_any (x y : Int) (w : World) :
    Calls Tryd.prog 37 #[.int .i64 x, .int .i64 y] w fun e w' => e = .returned (.int .i64 (sgnV (decide (x < y)) (decide (y < x)))) ∧ w = w' := by
  go_enter Tryd.func37, Tryd.ntmps37
  go_wp2
  all_goals (go_ret; refine ⟨?_, rfl⟩; simp only [sgnV, decide_eq_true_eq]; (repeat' split) <;> first | rfl | (exfalso; omega))
theorem byteLess_trichotomy : ∀ (a b : List UInt8), Lib.compareBytes a b = sgnV (Op.bytesLess a b) (!Op.bytesLess a b && !a == b)
  | [], [] => rfl
  | [], _ :: _ => rfl
  | _ :: _, [] => rfl
  | x :: a, y :: b => by
    have ih := byteLess_trichotomy a b
    rw [Lib.compareBytes, Op.bytesLess]
    by_cases h1 : x < y
    · simp [h1, sgnV]
    · by_cases h2 : y < x
      · have hne : (x == y) = false := by
          rw [beq_eq_false_iff_ne]
          rintro rfl
          exact h1 h2
        have hne' : ¬ (x :: a = y :: b) := by
          intro h
          injection h with h _
          subst h
          exact h1 h2
        simp [h1, h2, hne, sgnV, hne']
      · have he : x = y := UInt8.le_antisymm (UInt8.not_lt.1 h2) (UInt8.not_lt.1 h1)
        subst he
        simp only [h1, if_false, ih, decide_false, Bool.false_or, beq_self_eq_true, Bool.true_and]
        congr 2
        rw [Bool.eq_iff_iff]
        simp
def strS (a b : ByteArray) : Int := sgnV (Op.bytesLess a.toList b.toList) (gtS a b)
theorem compare_strS (a b : ByteArray) : Lib.compareBytes a.data.toList b.data.toList = strS a b := by
  unfold strS gtS
  rw [ByteArray.toList_eq, ByteArray.toList_eq]
  exact byteLess_trichotomy _ _
set_option maxRecDepth 100000 in
theorem bcmp0_any (a b : ByteArray) (w : World) : Calls Tryd.prog 55 #[.string a, .string b] w fun e w' => e = .returned (.int .i64 (Lib.compareBytes a.data.toList b.data.toList)) ∧ w = w' := by
  go_enter Tryd.func55, Tryd.ntmps55
  go_wp2
  rw [run_callFunc_extern Tryd.func67 (by kernel_rfl) (by kernel_rfl) (by kernel_rfl) (e := Extern.BytealgCompare.compare) (by kernel_rfl), Lib.run_compareString]
  simp only [Result.andThen]
  rw [Oper.upon_value]
  go_wp2
  go_ret
  exact ⟨rfl, rfl⟩
theorem bcmp_any (a b : ByteArray) (w : World) : Calls Tryd.prog 55 #[.string a, .string b] w fun e w' => e = .returned (.int .i64 (strS a b)) ∧ w = w' := by
  rw [← compare_strS]
  exact bcmp0_any a b w
theorem scmp_any (a b : ByteArray) (w : World) : Calls Tryd.prog 38 #[.string a, .string b] w fun e w' => e = .returned (.int .i64 (strS a b)) ∧ w = w' := by
  have HC := hidden (fun w => bcmp_any a b w)
  generalize strS a b = s at *
  go_enter Tryd.func38, Tryd.ntmps38
  go_wp2_with fail
  refine (HC.out _).mono ?_
  rintro e w2 ⟨rfl, rfl⟩
  go_wp2_with fail
  go_ret
  exact ⟨rfl, rfl⟩
/-- what the landed Compare returns -/
def lcmpV (k n : Int) (t : ByteArray) (k' n' : Int) (t' : ByteArray) : Int :=
  if k = k' then (if k = 1 then sgnV (decide (n < n')) (decide (n' < n)) else if k = 2 then sgnV (decide (n < n')) (decide (n' < n)) else if k = 3 then strS t t' else 0) else sgnV (decide (k < k')) (decide (k' < k))
theorem lcompare_any (k n k' n' : Int) (t t' : ByteArray) (w : World) : Calls Tryd.prog 16 #[.agg #[.int .i64 k, .int .i64 n, .string t], .agg #[.int .i64 k', .int .i64 n', .string t']] w fun e w' => e = .returned (.int .i64 (lcmpV k n t k' n' t')) ∧ Grows w w' := by
  have HI := hidden (fun w => cmpint_any k k' w)
  have HJ := hidden (fun w => cmpi64_any n n' w)
  have HS := hidden (fun w => scmp_any t t' w)
  by_cases hk : k = k'
  · subst hk
    by_cases h1 : k = 1
    · have HE := hidden (show lcmpV k n t k n' t' = sgnV (decide (n < n')) (decide (n' < n)) by unfold lcmpV; rw [if_pos rfl, if_pos h1])
      generalize sgnV (decide (n < n')) (decide (n' < n)) = s at *
      subst h1
      go_enter Tryd.func16, Tryd.ntmps16
      go_wp2_with fail
      refine (HJ.out _).mono ?_
      rintro e w2 ⟨rfl, rfl⟩
      go_wp2_with fail
      go_ret
      exact ⟨by rw [HE.out]; rfl, grow2 _ _⟩
    by_cases h2 : k = 2
    · have HE := hidden (show lcmpV k n t k n' t' = sgnV (decide (n < n')) (decide (n' < n)) by unfold lcmpV; rw [if_pos rfl, if_neg h1, if_pos h2])
      generalize sgnV (decide (n < n')) (decide (n' < n)) = s at *
      subst h2
      clear h1
      go_enter Tryd.func16, Tryd.ntmps16
      go_wp2_with fail
      refine (HJ.out _).mono ?_
      rintro e w2 ⟨rfl, rfl⟩
      go_wp2_with fail
      go_ret
      exact ⟨by rw [HE.out]; rfl, grow2 _ _⟩
    by_cases h3 : k = 3
    · have HE := hidden (show lcmpV k n t k n' t' = strS t t' by unfold lcmpV; rw [if_pos rfl, if_neg h1, if_neg h2, if_pos h3])
      generalize strS t t' = s at *
      subst h3
      clear h1 h2
      go_enter Tryd.func16, Tryd.ntmps16
      go_wp2_with fail
      refine (HS.out _).mono ?_
      rintro e w2 ⟨rfl, rfl⟩
      go_wp2_with fail
      go_ret
      exact ⟨by rw [HE.out]; rfl, grow2 _ _⟩
    · have HE := hidden (show lcmpV k n t k n' t' = 0 by unfold lcmpV; rw [if_pos rfl, if_neg h1, if_neg h2, if_neg h3])
      go_enter Tryd.func16, Tryd.ntmps16
      go_wp2_with fail
      go_ret
      exact ⟨by rw [HE.out]; rfl, grow2 _ _⟩
  · have HE := hidden (show lcmpV k n t k' n' t' = sgnV (decide (k < k')) (decide (k' < k)) by unfold lcmpV; rw [if_neg hk])
    generalize sgnV (decide (k < k')) (decide (k' < k)) = s at *
    go_enter Tryd.func16, Tryd.ntmps16
    go_wp2_with fail
    refine (HI.out _).mono ?_
    rintro e w2 ⟨rfl, rfl⟩
    go_wp2_with fail
    go_ret
    exact ⟨by rw [HE.out]; rfl, grow2 _ _⟩
/-- at valid values it is the reference's -/
theorem lcmpV_eq {k n k' n' : Int} {t t' : ByteArray} (h : validV k n t = true) (h' : validV k' n' t' = true) : lcmpV k n t k' n' t' = cmpV k n t k' n' t' := by
  unfold lcmpV cmpV
  by_cases hk : k = k'
  · subst hk
    rw [if_pos rfl, if_pos rfl]
    by_cases h1 : k = 1
    · subst h1; rfl
    by_cases h2 : k = 2
    · subst h2; rfl
    by_cases h3 : k = 3
    · subst h3; rfl
    rw [if_neg h1, if_neg h2, if_neg h3, if_neg h3]
    have h0 : k = 0 := by
      by_cases h0 : k = 0
      · exact h0
      · unfold validV at h
        rw [if_neg h0, if_neg h1, if_neg h2, if_neg h3] at h
        cases h
    subst h0
    have e1 : n = 0 := by
      unfold validV at h
      rw [if_pos rfl] at h
      simp at h
      exact h.1
    have e2 : n' = 0 := by
      unfold validV at h'
      rw [if_pos rfl] at h'
      simp at h'
      exact h'.1
    subst e1 e2
    rfl
  · rw [if_neg hk, if_neg hk]
    unfold sgnV
    by_cases hl : k < k'
    · simp [hl]
    · have : k' < k := by omega
      simp [hl, this]
end Go.Proofs.YtepnegbopnepfaaDoor
