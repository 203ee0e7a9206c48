/-
  Package value as it landed: Test, Assignable, Concat. Nothing that was there is changed.
-/
import Derived.Test.YtepnegbopnepfaaDoorLv1
import Derived.Test.YtepnegbopnepfaaDoorVal3
namespace Go.Proofs.YtepnegbopnepfaaDoor
open Go.RowKit
set_option linter.unusedVariables false
set_option linter.unusedSimpArgs false

def ltestV (op k n : Int) (t : ByteArray) (k' n' : Int) (t' : ByteArray) : Value :=
  if k = 0 ∨ k ≠ k' ∨ op < 1 ∨ 6 < op then nullV else boolV (holdsV op (lcmpV k n t k' n' t'))
set_option maxHeartbeats 2000000 in
theorem ltest_any (op k n k' n' : Int) (t t' : ByteArray) (w : World) : Calls Tryd.prog 19 #[.int .i64 op, .agg #[.int .i64 k, .int .i64 n, .string t], .agg #[.int .i64 k', .int .i64 n', .string t']] w fun e w' => e = .returned (ltestV op k n t k' n' t') ∧ Grows w w' := by
  by_cases h1 : k = 0
  · have HE := hidden (show ltestV op k n t k' n' t' = nullV from if_pos (.inl h1))
    subst h1
    go_enter Tryd.func19, Tryd.ntmps19
    go_wp2_with fail
    exact bodyPost_ret (results_val rfl _ _ _ _ _ _ rfl (valRow3 w _ _ _ _ _ _ (Below.refl _ _))) rfl ⟨by rw [HE.out]; rfl, grow3 _ _ _⟩
  by_cases h2 : k = k'
  case neg =>
    have HE := hidden (show ltestV op k n t k' n' t' = nullV from if_pos (.inr (.inl h2)))
    have e1 : (k == 0) = false := by simpa using h1
    have e2 : (k != k') = true := by simpa using h2
    go_enter Tryd.func19, Tryd.ntmps19
    go_wp2_with fail
    exact bodyPost_ret (results_val rfl _ _ _ _ _ _ rfl (valRow3 w _ _ _ _ _ _ (Below.refl _ _))) rfl ⟨by rw [HE.out]; rfl, grow3 _ _ _⟩
  subst h2
  have HC := hidden (fun w => lcompare_any k n k n' t t' w)
  have HB := hidden (fun b w => lboolean_any b w)
  unfold boolV at HB
  by_cases o1 : op = 1
  · subst o1
    have HE := hidden (show ltestV 1 k n t k n' t' = boolV (holdsV 1 (lcmpV k n t k n' t')) from if_neg (by omega))
    generalize lcmpV k n t k n' t' = c at *
    go_enter Tryd.func19, Tryd.ntmps19
    go_wp2_with fail
    refine (HC.out _).mono ?_
    rintro e w2 ⟨rfl, g2⟩
    go_wp2_with fail
    refine (HB.out (c == 0) _).mono ?_
    rintro e w4 ⟨rfl, g4⟩
    have HR := hidden (valRow3 w w4 _ _ _ _ _ (g2.of_below g4))
    have HG := hidden (((grow3 _ _ _).of_below g2).of_below g4)
    clear g2 g4
    have HX : Hid (ltestV 1 k n t k n' t' = .agg #[.int .i64 1, .int .i64 (if (c == 0) = true then 1 else 0), .string ⟨#[]⟩]) := by rw [show Hid _ = _ from rfl]; rw [HE.out]; rfl
    generalize (if (c == 0) = true then (1 : Int) else 0) = x at *
    go_wp2_with (refine wpList_store_val rfl _ _ rfl (w.heap.size + 2) rfl _ _ _ rfl HR.out ?_)
    exact bodyPost_ret (results_val rfl _ _ _ _ _ _ rfl (valSet_row HR.out [.int .i64 1, .int .i64 x, .string ⟨#[]⟩])) rfl ⟨by rw [HX.out], valSet_below HG.out (by omega) _⟩
  by_cases o2 : op = 2
  · subst o2
    clear o1
    have HE := hidden (show ltestV 2 k n t k n' t' = boolV (holdsV 2 (lcmpV k n t k n' t')) from if_neg (by omega))
    generalize lcmpV k n t k n' t' = c at *
    go_enter Tryd.func19, Tryd.ntmps19
    go_wp2_with fail
    refine (HC.out _).mono ?_
    rintro e w2 ⟨rfl, g2⟩
    go_wp2_with fail
    refine (HB.out (c != 0) _).mono ?_
    rintro e w4 ⟨rfl, g4⟩
    have HR := hidden (valRow3 w w4 _ _ _ _ _ (g2.of_below g4))
    have HG := hidden (((grow3 _ _ _).of_below g2).of_below g4)
    clear g2 g4
    have HX : Hid (ltestV 2 k n t k n' t' = .agg #[.int .i64 1, .int .i64 (if (c != 0) = true then 1 else 0), .string ⟨#[]⟩]) := by rw [show Hid _ = _ from rfl]; rw [HE.out]; rfl
    generalize (if (c != 0) = true then (1 : Int) else 0) = x at *
    go_wp2_with (refine wpList_store_val rfl _ _ rfl (w.heap.size + 2) rfl _ _ _ rfl HR.out ?_)
    exact bodyPost_ret (results_val rfl _ _ _ _ _ _ rfl (valSet_row HR.out [.int .i64 1, .int .i64 x, .string ⟨#[]⟩])) rfl ⟨by rw [HX.out], valSet_below HG.out (by omega) _⟩
  by_cases o3 : op = 3
  · subst o3
    clear o1 o2
    have HE := hidden (show ltestV 3 k n t k n' t' = boolV (holdsV 3 (lcmpV k n t k n' t')) from if_neg (by omega))
    generalize lcmpV k n t k n' t' = c at *
    go_enter Tryd.func19, Tryd.ntmps19
    go_wp2_with fail
    refine (HC.out _).mono ?_
    rintro e w2 ⟨rfl, g2⟩
    go_wp2_with fail
    refine (HB.out (decide (c < 0)) _).mono ?_
    rintro e w4 ⟨rfl, g4⟩
    have HR := hidden (valRow3 w w4 _ _ _ _ _ (g2.of_below g4))
    have HG := hidden (((grow3 _ _ _).of_below g2).of_below g4)
    clear g2 g4
    have HX : Hid (ltestV 3 k n t k n' t' = .agg #[.int .i64 1, .int .i64 (if (decide (c < 0)) = true then 1 else 0), .string ⟨#[]⟩]) := by rw [show Hid _ = _ from rfl]; rw [HE.out]; rfl
    generalize (if (decide (c < 0)) = true then (1 : Int) else 0) = x at *
    go_wp2_with (refine wpList_store_val rfl _ _ rfl (w.heap.size + 2) rfl _ _ _ rfl HR.out ?_)
    exact bodyPost_ret (results_val rfl _ _ _ _ _ _ rfl (valSet_row HR.out [.int .i64 1, .int .i64 x, .string ⟨#[]⟩])) rfl ⟨by rw [HX.out], valSet_below HG.out (by omega) _⟩
  by_cases o4 : op = 4
  · subst o4
    clear o1 o2 o3
    have HE := hidden (show ltestV 4 k n t k n' t' = boolV (holdsV 4 (lcmpV k n t k n' t')) from if_neg (by omega))
    generalize lcmpV k n t k n' t' = c at *
    by_cases hc : c = 0
    · subst hc
      go_enter Tryd.func19, Tryd.ntmps19
      go_wp2_with fail
      refine (HC.out _).mono ?_
      rintro e w2 ⟨rfl, g2⟩
      go_wp2_with fail
      refine (HB.out (true) _).mono ?_
      rintro e w4 ⟨rfl, g4⟩
      have HR := hidden (valRow3 w w4 _ _ _ _ _ (g2.of_below g4))
      have HG := hidden (((grow3 _ _ _).of_below g2).of_below g4)
      clear g2 g4
      have HX : Hid (ltestV 4 k n t k n' t' = .agg #[.int .i64 1, .int .i64 (if (true) = true then 1 else 0), .string ⟨#[]⟩]) := by rw [show Hid _ = _ from rfl]; rw [HE.out]; rfl
      generalize (if (true) = true then (1 : Int) else 0) = x at *
      go_wp2_with (refine wpList_store_val rfl _ _ rfl (w.heap.size + 2) rfl _ _ _ rfl HR.out ?_)
      exact bodyPost_ret (results_val rfl _ _ _ _ _ _ rfl (valSet_row HR.out [.int .i64 1, .int .i64 x, .string ⟨#[]⟩])) rfl ⟨by rw [HX.out], valSet_below HG.out (by omega) _⟩
    · have hcn : (c == 0) = false := by simpa using hc
      have HH := hidden (show holdsV 4 c = decide (c < 0) by show decide (c ≤ 0) = _; rw [decide_eq_decide]; omega)
      rw [HH.out] at HE
      clear hc
      go_enter Tryd.func19, Tryd.ntmps19
      go_wp2_with fail
      refine (HC.out _).mono ?_
      rintro e w2 ⟨rfl, g2⟩
      go_wp2_with fail
      refine (HB.out (decide (c < 0)) _).mono ?_
      rintro e w4 ⟨rfl, g4⟩
      have HR := hidden (valRow3 w w4 _ _ _ _ _ (g2.of_below g4))
      have HG := hidden (((grow3 _ _ _).of_below g2).of_below g4)
      clear g2 g4
      have HX : Hid (ltestV 4 k n t k n' t' = .agg #[.int .i64 1, .int .i64 (if (decide (c < 0)) = true then 1 else 0), .string ⟨#[]⟩]) := by rw [show Hid _ = _ from rfl]; rw [HE.out]; rfl
      generalize (if (decide (c < 0)) = true then (1 : Int) else 0) = x at *
      go_wp2_with (refine wpList_store_val rfl _ _ rfl (w.heap.size + 2) rfl _ _ _ rfl HR.out ?_)
      exact bodyPost_ret (results_val rfl _ _ _ _ _ _ rfl (valSet_row HR.out [.int .i64 1, .int .i64 x, .string ⟨#[]⟩])) rfl ⟨by rw [HX.out], valSet_below HG.out (by omega) _⟩
  by_cases o5 : op = 5
  · subst o5
    clear o1 o2 o3 o4
    have HE := hidden (show ltestV 5 k n t k n' t' = boolV (holdsV 5 (lcmpV k n t k n' t')) from if_neg (by omega))
    generalize lcmpV k n t k n' t' = c at *
    go_enter Tryd.func19, Tryd.ntmps19
    go_wp2_with fail
    refine (HC.out _).mono ?_
    rintro e w2 ⟨rfl, g2⟩
    go_wp2_with fail
    refine (HB.out (decide (0 < c)) _).mono ?_
    rintro e w4 ⟨rfl, g4⟩
    have HR := hidden (valRow3 w w4 _ _ _ _ _ (g2.of_below g4))
    have HG := hidden (((grow3 _ _ _).of_below g2).of_below g4)
    clear g2 g4
    have HX : Hid (ltestV 5 k n t k n' t' = .agg #[.int .i64 1, .int .i64 (if (decide (0 < c)) = true then 1 else 0), .string ⟨#[]⟩]) := by rw [show Hid _ = _ from rfl]; rw [HE.out]; rfl
    generalize (if (decide (0 < c)) = true then (1 : Int) else 0) = x at *
    go_wp2_with (refine wpList_store_val rfl _ _ rfl (w.heap.size + 2) rfl _ _ _ rfl HR.out ?_)
    exact bodyPost_ret (results_val rfl _ _ _ _ _ _ rfl (valSet_row HR.out [.int .i64 1, .int .i64 x, .string ⟨#[]⟩])) rfl ⟨by rw [HX.out], valSet_below HG.out (by omega) _⟩
  by_cases o6 : op = 6
  · subst o6
    clear o1 o2 o3 o4 o5
    have HE := hidden (show ltestV 6 k n t k n' t' = boolV (holdsV 6 (lcmpV k n t k n' t')) from if_neg (by omega))
    generalize lcmpV k n t k n' t' = c at *
    by_cases hc : c = 0
    · subst hc
      go_enter Tryd.func19, Tryd.ntmps19
      go_wp2_with fail
      refine (HC.out _).mono ?_
      rintro e w2 ⟨rfl, g2⟩
      go_wp2_with fail
      refine (HB.out (true) _).mono ?_
      rintro e w4 ⟨rfl, g4⟩
      have HR := hidden (valRow3 w w4 _ _ _ _ _ (g2.of_below g4))
      have HG := hidden (((grow3 _ _ _).of_below g2).of_below g4)
      clear g2 g4
      have HX : Hid (ltestV 6 k n t k n' t' = .agg #[.int .i64 1, .int .i64 (if (true) = true then 1 else 0), .string ⟨#[]⟩]) := by rw [show Hid _ = _ from rfl]; rw [HE.out]; rfl
      generalize (if (true) = true then (1 : Int) else 0) = x at *
      go_wp2_with (refine wpList_store_val rfl _ _ rfl (w.heap.size + 2) rfl _ _ _ rfl HR.out ?_)
      exact bodyPost_ret (results_val rfl _ _ _ _ _ _ rfl (valSet_row HR.out [.int .i64 1, .int .i64 x, .string ⟨#[]⟩])) rfl ⟨by rw [HX.out], valSet_below HG.out (by omega) _⟩
    · have hcn : (c == 0) = false := by simpa using hc
      have HH := hidden (show holdsV 6 c = decide (0 < c) by show decide (0 ≤ c) = _; rw [decide_eq_decide]; omega)
      rw [HH.out] at HE
      clear hc
      go_enter Tryd.func19, Tryd.ntmps19
      go_wp2_with fail
      refine (HC.out _).mono ?_
      rintro e w2 ⟨rfl, g2⟩
      go_wp2_with fail
      refine (HB.out (decide (0 < c)) _).mono ?_
      rintro e w4 ⟨rfl, g4⟩
      have HR := hidden (valRow3 w w4 _ _ _ _ _ (g2.of_below g4))
      have HG := hidden (((grow3 _ _ _).of_below g2).of_below g4)
      clear g2 g4
      have HX : Hid (ltestV 6 k n t k n' t' = .agg #[.int .i64 1, .int .i64 (if (decide (0 < c)) = true then 1 else 0), .string ⟨#[]⟩]) := by rw [show Hid _ = _ from rfl]; rw [HE.out]; rfl
      generalize (if (decide (0 < c)) = true then (1 : Int) else 0) = x at *
      go_wp2_with (refine wpList_store_val rfl _ _ rfl (w.heap.size + 2) rfl _ _ _ rfl HR.out ?_)
      exact bodyPost_ret (results_val rfl _ _ _ _ _ _ rfl (valSet_row HR.out [.int .i64 1, .int .i64 x, .string ⟨#[]⟩])) rfl ⟨by rw [HX.out], valSet_below HG.out (by omega) _⟩
  · have HE := hidden (show ltestV op k n t k n' t' = nullV from if_pos (by omega))
    generalize lcmpV k n t k n' t' = c at *
    go_enter Tryd.func19, Tryd.ntmps19
    go_wp2_with fail
    refine (HC.out _).mono ?_
    rintro e w2 ⟨rfl, g2⟩
    have HR := hidden (valRow3 w w2 _ _ _ _ _ g2)
    have HG := hidden ((grow3 _ _ _).of_below g2)
    clear g2
    go_wp2_with (refine wpList_store_val rfl _ _ rfl (w.heap.size + 2) rfl _ _ _ rfl HR.out ?_)
    exact bodyPost_ret (results_val rfl _ _ _ _ _ _ rfl (valSet_row HR.out [.int .i64 0, .int .i64 0, .string ⟨#[]⟩])) rfl ⟨by rw [HE.out]; rfl, valSet_below HG.out (by omega) _⟩
theorem ltestV_eq {op k n k' n' : Int} {t t' : ByteArray} (h : validV k n t = true) (h' : validV k' n' t' = true) : ltestV op k n t k' n' t' = testV op k n t k' n' t' := by
  unfold ltestV testV
  rw [lcmpV_eq h h']
end Go.Proofs.YtepnegbopnepfaaDoor
