/-
  Texts that the claims of this seat share, put together (Lv1, Lv3). No condition.
-/
import Derived.Test.YthmipnokimlbdaaGreatM22
import Derived.Lib.Bytealg
import Derived.Lib.Small
/-
  Shaken: what the claims of this seat need of this text. No condition.
-/
namespace Go.Proofs.YthmipnokimlbdaaGreat
open Go.RowKit
set_option linter.unusedVariables false
set_option linter.unusedSimpArgs false
theorem lboolean_any (b : Bool) (w : World) : Calls Tryz.prog 133 #[.bool b] w fun e w' => e = .returned (boolV b) ∧ Grows w w' := by
  cases b <;>
  · go_enter Tryz.func133, Tryz.ntmps133
    go_wp2_with fail
    exact bodyPost_ret (results_val rfl _ _ _ _ _ _ rfl (valRow w _ _ _)) rfl ⟨rfl, grow1 _⟩
theorem cmpint_any (x y : Int) (w : World) :
    Calls Tryz.prog 187 #[.int .i64 x, .int .i64 y] w fun e w' => e = .returned (.int .i64 (sgnV (decide (x < y)) (decide (y < x)))) ∧ w = w' := by
  go_enter Tryz.func187, Tryz.ntmps187
  go_wp2
  all_goals (go_ret; refine ⟨?_, rfl⟩; simp only [sgnV, decide_eq_true_eq]; (repeat' split) <;> first | rfl | (exfalso; omega))
theorem cmpi64_any (x y : Int) (w : World) :
    Calls Tryz.prog 188 #[.int .i64 x, .int .i64 y] w fun e w' => e = .returned (.int .i64 (sgnV (decide (x < y)) (decide (y < x)))) ∧ w = w' := by
  go_enter Tryz.func188, Tryz.ntmps188
  go_wp2
  all_goals (go_ret; refine ⟨?_, rfl⟩; simp only [sgnV, decide_eq_true_eq]; (repeat' split) <;> first | rfl | (exfalso; omega))
theorem byteLess_trichotomy : ∀ (a b : List UInt8), Lib.compareBytes a b = sgnV (Op.bytesLess a b) (!Op.bytesLess a b && !a == b)
  | [], [] => rfl
  | [], _ :: _ => rfl
  | _ :: _, [] => rfl
  | x :: a, y :: b => by
    have ih := byteLess_trichotomy a b
    rw [Lib.compareBytes, Op.bytesLess]
    by_cases h1 : x < y
    · simp [h1, sgnV]
    · by_cases h2 : y < x
      · have hne : (x == y) = false := by
          rw [beq_eq_false_iff_ne]
          rintro rfl
          exact h1 h2
        have hne' : ¬ (x :: a = y :: b) := by
          intro h
          injection h with h _
          subst h
          exact h1 h2
        simp [h1, h2, hne, sgnV, hne']
      · have he : x = y := UInt8.le_antisymm (UInt8.not_lt.1 h2) (UInt8.not_lt.1 h1)
        subst he
        simp only [h1, if_false, ih, decide_false, Bool.false_or, beq_self_eq_true, Bool.true_and]
        congr 2
        rw [Bool.eq_iff_iff]
        simp
def strS (a b : ByteArray) : Int := sgnV (Op.bytesLess a.toList b.toList) (gtS a b)
theorem compare_strS (a b : ByteArray) : Lib.compareBytes a.data.toList b.data.toList = strS a b := by
  unfold strS gtS
  rw [ByteArray.toList_eq, ByteArray.toList_eq]
  exact byteLess_trichotomy _ _
set_option maxRecDepth 100000 in
theorem bcmp0_any (a b : ByteArray) (w : World) : Calls Tryz.prog 218 #[.string a, .string b] w fun e w' => e = .returned (.int .i64 (Lib.compareBytes a.data.toList b.data.toList)) ∧ w = w' := by
  go_enter Tryz.func218, Tryz.ntmps218
  go_wp2
  rw [run_callFunc_extern Tryz.func226 (by kernel_rfl) (by kernel_rfl) (by kernel_rfl) (e := Extern.BytealgCompare.compare) (by kernel_rfl), Lib.run_compareString]
  simp only [Result.andThen]
  rw [Oper.upon_value]
  go_wp2
  go_ret
  exact ⟨rfl, rfl⟩
theorem bcmp_any (a b : ByteArray) (w : World) : Calls Tryz.prog 218 #[.string a, .string b] w fun e w' => e = .returned (.int .i64 (strS a b)) ∧ w = w' := by
  rw [← compare_strS]
  exact bcmp0_any a b w
theorem scmp_any (a b : ByteArray) (w : World) : Calls Tryz.prog 189 #[.string a, .string b] w fun e w' => e = .returned (.int .i64 (strS a b)) ∧ w = w' := by
  have HC := hidden (fun w => bcmp_any a b w)
  generalize strS a b = s at *
  go_enter Tryz.func189, Tryz.ntmps189
  go_wp2_with fail
  refine (HC.out _).mono ?_
  rintro e w2 ⟨rfl, rfl⟩
  go_wp2_with fail
  go_ret
  exact ⟨rfl, rfl⟩
def lcmpV (k n : Int) (t : ByteArray) (k' n' : Int) (t' : ByteArray) : Int :=
  if k = k' then (if k = 1 then sgnV (decide (n < n')) (decide (n' < n)) else if k = 2 then sgnV (decide (n < n')) (decide (n' < n)) else if k = 3 then strS t t' else 0) else sgnV (decide (k < k')) (decide (k' < k))
theorem lcompare_any (k n k' n' : Int) (t t' : ByteArray) (w : World) : Calls Tryz.prog 132 #[.agg #[.int .i64 k, .int .i64 n, .string t], .agg #[.int .i64 k', .int .i64 n', .string t']] w fun e w' => e = .returned (.int .i64 (lcmpV k n t k' n' t')) ∧ Grows w w' := by
  have HI := hidden (fun w => cmpint_any k k' w)
  have HJ := hidden (fun w => cmpi64_any n n' w)
  have HS := hidden (fun w => scmp_any t t' w)
  by_cases hk : k = k'
  · subst hk
    by_cases h1 : k = 1
    · have HE := hidden (show lcmpV k n t k n' t' = sgnV (decide (n < n')) (decide (n' < n)) by unfold lcmpV; rw [if_pos rfl, if_pos h1])
      generalize sgnV (decide (n < n')) (decide (n' < n)) = s at *
      subst h1
      go_enter Tryz.func132, Tryz.ntmps132
      go_wp2_with fail
      refine (HJ.out _).mono ?_
      rintro e w2 ⟨rfl, rfl⟩
      go_wp2_with fail
      go_ret
      exact ⟨by rw [HE.out]; rfl, grow2 _ _⟩
    by_cases h2 : k = 2
    · have HE := hidden (show lcmpV k n t k n' t' = sgnV (decide (n < n')) (decide (n' < n)) by unfold lcmpV; rw [if_pos rfl, if_neg h1, if_pos h2])
      generalize sgnV (decide (n < n')) (decide (n' < n)) = s at *
      subst h2
      clear h1
      go_enter Tryz.func132, Tryz.ntmps132
      go_wp2_with fail
      refine (HJ.out _).mono ?_
      rintro e w2 ⟨rfl, rfl⟩
      go_wp2_with fail
      go_ret
      exact ⟨by rw [HE.out]; rfl, grow2 _ _⟩
    by_cases h3 : k = 3
    · have HE := hidden (show lcmpV k n t k n' t' = strS t t' by unfold lcmpV; rw [if_pos rfl, if_neg h1, if_neg h2, if_pos h3])
      generalize strS t t' = s at *
      subst h3
      clear h1 h2
      go_enter Tryz.func132, Tryz.ntmps132
      go_wp2_with fail
      refine (HS.out _).mono ?_
      rintro e w2 ⟨rfl, rfl⟩
      go_wp2_with fail
      go_ret
      exact ⟨by rw [HE.out]; rfl, grow2 _ _⟩
    · have HE := hidden (show lcmpV k n t k n' t' = 0 by unfold lcmpV; rw [if_pos rfl, if_neg h1, if_neg h2, if_neg h3])
      go_enter Tryz.func132, Tryz.ntmps132
      go_wp2_with fail
      go_ret
      exact ⟨by rw [HE.out]; rfl, grow2 _ _⟩
  · have HE := hidden (show lcmpV k n t k' n' t' = sgnV (decide (k < k')) (decide (k' < k)) by unfold lcmpV; rw [if_neg hk])
    generalize sgnV (decide (k < k')) (decide (k' < k)) = s at *
    go_enter Tryz.func132, Tryz.ntmps132
    go_wp2_with fail
    refine (HI.out _).mono ?_
    rintro e w2 ⟨rfl, rfl⟩
    go_wp2_with fail
    go_ret
    exact ⟨by rw [HE.out]; rfl, grow2 _ _⟩
end Go.Proofs.YthmipnokimlbdaaGreat
/-
  Shaken: what the claims of this seat need of this text. No condition.
-/
namespace Go.Proofs.YthmipnokimlbdaaGreat
set_option maxRecDepth 8000
open Go.RowKit
set_option linter.unusedVariables false
set_option linter.unusedSimpArgs false
def ltestV (op k n : Int) (t : ByteArray) (k' n' : Int) (t' : ByteArray) : Value :=
  if k = 0 ∨ k ≠ k' ∨ op < 1 ∨ 6 < op then nullV else boolV (holdsV op (lcmpV k n t k' n' t'))
set_option maxHeartbeats 2000000 in
theorem ltest_any (op k n k' n' : Int) (t t' : ByteArray) (w : World) : Calls Tryz.prog 71 #[.int .i64 op, .agg #[.int .i64 k, .int .i64 n, .string t], .agg #[.int .i64 k', .int .i64 n', .string t']] w fun e w' => e = .returned (ltestV op k n t k' n' t') ∧ Grows w w' := by
  by_cases h1 : k = 0
  · have HE := hidden (show ltestV op k n t k' n' t' = nullV from if_pos (.inl h1))
    subst h1
    go_enter Tryz.func71, Tryz.ntmps71
    go_wp2_with fail
    exact bodyPost_ret (results_val rfl _ _ _ _ _ _ rfl (valRow3 w _ _ _ _ _ _ (Below.refl _ _))) rfl ⟨by rw [HE.out]; rfl, grow3 _ _ _⟩
  by_cases h2 : k = k'
  case neg =>
    have HE := hidden (show ltestV op k n t k' n' t' = nullV from if_pos (.inr (.inl h2)))
    have e1 : (k == 0) = false := by simpa using h1
    have e2 : (k != k') = true := by simpa using h2
    go_enter Tryz.func71, Tryz.ntmps71
    go_wp2_with fail
    exact bodyPost_ret (results_val rfl _ _ _ _ _ _ rfl (valRow3 w _ _ _ _ _ _ (Below.refl _ _))) rfl ⟨by rw [HE.out]; rfl, grow3 _ _ _⟩
  subst h2
  have HC := hidden (fun w => lcompare_any k n k n' t t' w)
  have HB := hidden (fun b w => lboolean_any b w)
  unfold boolV at HB
  by_cases o1 : op = 1
  · subst o1
    have HE := hidden (show ltestV 1 k n t k n' t' = boolV (holdsV 1 (lcmpV k n t k n' t')) from if_neg (by omega))
    generalize lcmpV k n t k n' t' = c at *
    go_enter Tryz.func71, Tryz.ntmps71
    go_wp2_with fail
    refine (HC.out _).mono ?_
    rintro e w2 ⟨rfl, g2⟩
    go_wp2_with fail
    refine (HB.out (c == 0) _).mono ?_
    rintro e w4 ⟨rfl, g4⟩
    have HR := hidden (valRow3 w w4 _ _ _ _ _ (g2.of_below g4))
    have HG := hidden (((grow3 _ _ _).of_below g2).of_below g4)
    clear g2 g4
    have HX : Hid (ltestV 1 k n t k n' t' = .agg #[.int .i64 1, .int .i64 (if (c == 0) = true then 1 else 0), .string ⟨#[]⟩]) := by rw [show Hid _ = _ from rfl]; rw [HE.out]; rfl
    generalize (if (c == 0) = true then (1 : Int) else 0) = x at *
    go_wp2_with (refine wpList_store_val rfl _ _ rfl (w.heap.size + 2) rfl _ _ _ rfl HR.out ?_)
    exact bodyPost_ret (results_val rfl _ _ _ _ _ _ rfl (valSet_row HR.out [.int .i64 1, .int .i64 x, .string ⟨#[]⟩])) rfl ⟨by rw [HX.out], valSet_below HG.out (by omega) _⟩
  by_cases o2 : op = 2
  · subst o2
    clear o1
    have HE := hidden (show ltestV 2 k n t k n' t' = boolV (holdsV 2 (lcmpV k n t k n' t')) from if_neg (by omega))
    generalize lcmpV k n t k n' t' = c at *
    go_enter Tryz.func71, Tryz.ntmps71
    go_wp2_with fail
    refine (HC.out _).mono ?_
    rintro e w2 ⟨rfl, g2⟩
    go_wp2_with fail
    refine (HB.out (c != 0) _).mono ?_
    rintro e w4 ⟨rfl, g4⟩
    have HR := hidden (valRow3 w w4 _ _ _ _ _ (g2.of_below g4))
    have HG := hidden (((grow3 _ _ _).of_below g2).of_below g4)
    clear g2 g4
    have HX : Hid (ltestV 2 k n t k n' t' = .agg #[.int .i64 1, .int .i64 (if (c != 0) = true then 1 else 0), .string ⟨#[]⟩]) := by rw [show Hid _ = _ from rfl]; rw [HE.out]; rfl
    generalize (if (c != 0) = true then (1 : Int) else 0) = x at *
    go_wp2_with (refine wpList_store_val rfl _ _ rfl (w.heap.size + 2) rfl _ _ _ rfl HR.out ?_)
    exact bodyPost_ret (results_val rfl _ _ _ _ _ _ rfl (valSet_row HR.out [.int .i64 1, .int .i64 x, .string ⟨#[]⟩])) rfl ⟨by rw [HX.out], valSet_below HG.out (by omega) _⟩
  by_cases o3 : op = 3
  · subst o3
    clear o1 o2
    have HE := hidden (show ltestV 3 k n t k n' t' = boolV (holdsV 3 (lcmpV k n t k n' t')) from if_neg (by omega))
    generalize lcmpV k n t k n' t' = c at *
    go_enter Tryz.func71, Tryz.ntmps71
    go_wp2_with fail
    refine (HC.out _).mono ?_
    rintro e w2 ⟨rfl, g2⟩
    go_wp2_with fail
    refine (HB.out (decide (c < 0)) _).mono ?_
    rintro e w4 ⟨rfl, g4⟩
    have HR := hidden (valRow3 w w4 _ _ _ _ _ (g2.of_below g4))
    have HG := hidden (((grow3 _ _ _).of_below g2).of_below g4)
    clear g2 g4
    have HX : Hid (ltestV 3 k n t k n' t' = .agg #[.int .i64 1, .int .i64 (if (decide (c < 0)) = true then 1 else 0), .string ⟨#[]⟩]) := by rw [show Hid _ = _ from rfl]; rw [HE.out]; rfl
    generalize (if (decide (c < 0)) = true then (1 : Int) else 0) = x at *
    go_wp2_with (refine wpList_store_val rfl _ _ rfl (w.heap.size + 2) rfl _ _ _ rfl HR.out ?_)
    exact bodyPost_ret (results_val rfl _ _ _ _ _ _ rfl (valSet_row HR.out [.int .i64 1, .int .i64 x, .string ⟨#[]⟩])) rfl ⟨by rw [HX.out], valSet_below HG.out (by omega) _⟩
  by_cases o4 : op = 4
  · subst o4
    clear o1 o2 o3
    have HE := hidden (show ltestV 4 k n t k n' t' = boolV (holdsV 4 (lcmpV k n t k n' t')) from if_neg (by omega))
    generalize lcmpV k n t k n' t' = c at *
    by_cases hc : c = 0
    · subst hc
      go_enter Tryz.func71, Tryz.ntmps71
      go_wp2_with fail
      refine (HC.out _).mono ?_
      rintro e w2 ⟨rfl, g2⟩
      go_wp2_with fail
      refine (HB.out (true) _).mono ?_
      rintro e w4 ⟨rfl, g4⟩
      have HR := hidden (valRow3 w w4 _ _ _ _ _ (g2.of_below g4))
      have HG := hidden (((grow3 _ _ _).of_below g2).of_below g4)
      clear g2 g4
      have HX : Hid (ltestV 4 k n t k n' t' = .agg #[.int .i64 1, .int .i64 (if (true) = true then 1 else 0), .string ⟨#[]⟩]) := by rw [show Hid _ = _ from rfl]; rw [HE.out]; rfl
      generalize (if (true) = true then (1 : Int) else 0) = x at *
      go_wp2_with (refine wpList_store_val rfl _ _ rfl (w.heap.size + 2) rfl _ _ _ rfl HR.out ?_)
      exact bodyPost_ret (results_val rfl _ _ _ _ _ _ rfl (valSet_row HR.out [.int .i64 1, .int .i64 x, .string ⟨#[]⟩])) rfl ⟨by rw [HX.out], valSet_below HG.out (by omega) _⟩
    · have hcn : (c == 0) = false := by simpa using hc
      have HH := hidden (show holdsV 4 c = decide (c < 0) by show decide (c ≤ 0) = _; rw [decide_eq_decide]; omega)
      rw [HH.out] at HE
      clear hc
      go_enter Tryz.func71, Tryz.ntmps71
      go_wp2_with fail
      refine (HC.out _).mono ?_
      rintro e w2 ⟨rfl, g2⟩
      go_wp2_with fail
      refine (HB.out (decide (c < 0)) _).mono ?_
      rintro e w4 ⟨rfl, g4⟩
      have HR := hidden (valRow3 w w4 _ _ _ _ _ (g2.of_below g4))
      have HG := hidden (((grow3 _ _ _).of_below g2).of_below g4)
      clear g2 g4
      have HX : Hid (ltestV 4 k n t k n' t' = .agg #[.int .i64 1, .int .i64 (if (decide (c < 0)) = true then 1 else 0), .string ⟨#[]⟩]) := by rw [show Hid _ = _ from rfl]; rw [HE.out]; rfl
      generalize (if (decide (c < 0)) = true then (1 : Int) else 0) = x at *
      go_wp2_with (refine wpList_store_val rfl _ _ rfl (w.heap.size + 2) rfl _ _ _ rfl HR.out ?_)
      exact bodyPost_ret (results_val rfl _ _ _ _ _ _ rfl (valSet_row HR.out [.int .i64 1, .int .i64 x, .string ⟨#[]⟩])) rfl ⟨by rw [HX.out], valSet_below HG.out (by omega) _⟩
  by_cases o5 : op = 5
  · subst o5
    clear o1 o2 o3 o4
    have HE := hidden (show ltestV 5 k n t k n' t' = boolV (holdsV 5 (lcmpV k n t k n' t')) from if_neg (by omega))
    generalize lcmpV k n t k n' t' = c at *
    go_enter Tryz.func71, Tryz.ntmps71
    go_wp2_with fail
    refine (HC.out _).mono ?_
    rintro e w2 ⟨rfl, g2⟩
    go_wp2_with fail
    refine (HB.out (decide (0 < c)) _).mono ?_
    rintro e w4 ⟨rfl, g4⟩
    have HR := hidden (valRow3 w w4 _ _ _ _ _ (g2.of_below g4))
    have HG := hidden (((grow3 _ _ _).of_below g2).of_below g4)
    clear g2 g4
    have HX : Hid (ltestV 5 k n t k n' t' = .agg #[.int .i64 1, .int .i64 (if (decide (0 < c)) = true then 1 else 0), .string ⟨#[]⟩]) := by rw [show Hid _ = _ from rfl]; rw [HE.out]; rfl
    generalize (if (decide (0 < c)) = true then (1 : Int) else 0) = x at *
    go_wp2_with (refine wpList_store_val rfl _ _ rfl (w.heap.size + 2) rfl _ _ _ rfl HR.out ?_)
    exact bodyPost_ret (results_val rfl _ _ _ _ _ _ rfl (valSet_row HR.out [.int .i64 1, .int .i64 x, .string ⟨#[]⟩])) rfl ⟨by rw [HX.out], valSet_below HG.out (by omega) _⟩
  by_cases o6 : op = 6
  · subst o6
    clear o1 o2 o3 o4 o5
    have HE := hidden (show ltestV 6 k n t k n' t' = boolV (holdsV 6 (lcmpV k n t k n' t')) from if_neg (by omega))
    generalize lcmpV k n t k n' t' = c at *
    by_cases hc : c = 0
    · subst hc
      go_enter Tryz.func71, Tryz.ntmps71
      go_wp2_with fail
      refine (HC.out _).mono ?_
      rintro e w2 ⟨rfl, g2⟩
      go_wp2_with fail
      refine (HB.out (true) _).mono ?_
      rintro e w4 ⟨rfl, g4⟩
      have HR := hidden (valRow3 w w4 _ _ _ _ _ (g2.of_below g4))
      have HG := hidden (((grow3 _ _ _).of_below g2).of_below g4)
      clear g2 g4
      have HX : Hid (ltestV 6 k n t k n' t' = .agg #[.int .i64 1, .int .i64 (if (true) = true then 1 else 0), .string ⟨#[]⟩]) := by rw [show Hid _ = _ from rfl]; rw [HE.out]; rfl
      generalize (if (true) = true then (1 : Int) else 0) = x at *
      go_wp2_with (refine wpList_store_val rfl _ _ rfl (w.heap.size + 2) rfl _ _ _ rfl HR.out ?_)
      exact bodyPost_ret (results_val rfl _ _ _ _ _ _ rfl (valSet_row HR.out [.int .i64 1, .int .i64 x, .string ⟨#[]⟩])) rfl ⟨by rw [HX.out], valSet_below HG.out (by omega) _⟩
    · have hcn : (c == 0) = false := by simpa using hc
      have HH := hidden (show holdsV 6 c = decide (0 < c) by show decide (0 ≤ c) = _; rw [decide_eq_decide]; omega)
      rw [HH.out] at HE
      clear hc
      go_enter Tryz.func71, Tryz.ntmps71
      go_wp2_with fail
      refine (HC.out _).mono ?_
      rintro e w2 ⟨rfl, g2⟩
      go_wp2_with fail
      refine (HB.out (decide (0 < c)) _).mono ?_
      rintro e w4 ⟨rfl, g4⟩
      have HR := hidden (valRow3 w w4 _ _ _ _ _ (g2.of_below g4))
      have HG := hidden (((grow3 _ _ _).of_below g2).of_below g4)
      clear g2 g4
      have HX : Hid (ltestV 6 k n t k n' t' = .agg #[.int .i64 1, .int .i64 (if (decide (0 < c)) = true then 1 else 0), .string ⟨#[]⟩]) := by rw [show Hid _ = _ from rfl]; rw [HE.out]; rfl
      generalize (if (decide (0 < c)) = true then (1 : Int) else 0) = x at *
      go_wp2_with (refine wpList_store_val rfl _ _ rfl (w.heap.size + 2) rfl _ _ _ rfl HR.out ?_)
      exact bodyPost_ret (results_val rfl _ _ _ _ _ _ rfl (valSet_row HR.out [.int .i64 1, .int .i64 x, .string ⟨#[]⟩])) rfl ⟨by rw [HX.out], valSet_below HG.out (by omega) _⟩
  · have HE := hidden (show ltestV op k n t k n' t' = nullV from if_pos (by omega))
    generalize lcmpV k n t k n' t' = c at *
    go_enter Tryz.func71, Tryz.ntmps71
    go_wp2_with fail
    refine (HC.out _).mono ?_
    rintro e w2 ⟨rfl, g2⟩
    have HR := hidden (valRow3 w w2 _ _ _ _ _ g2)
    have HG := hidden ((grow3 _ _ _).of_below g2)
    clear g2
    go_wp2_with (refine wpList_store_val rfl _ _ rfl (w.heap.size + 2) rfl _ _ _ rfl HR.out ?_)
    exact bodyPost_ret (results_val rfl _ _ _ _ _ _ rfl (valSet_row HR.out [.int .i64 0, .int .i64 0, .string ⟨#[]⟩])) rfl ⟨by rw [HE.out]; rfl, valSet_below HG.out (by omega) _⟩
end Go.Proofs.YthmipnokimlbdaaGreat
