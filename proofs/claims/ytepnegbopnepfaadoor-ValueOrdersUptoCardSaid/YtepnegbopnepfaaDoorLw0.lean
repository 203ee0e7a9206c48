/-
  Layer 4's laws check the chapter's examples ('awake'): it returns true; nothing that was there is changed. No condition.
-/
import Derived.Test.YtepnegbopnepfaaDoorLv2
import Derived.Test.YtepnegbopnepfaaDoorLv3
import Derived.Test.YtepnegbopnepfaaDoorLv5
import Derived.Test.YtepnegbopnepfaaDoorLd3
import Derived.Test.YtepnegbopnepfaaDoorLe1
namespace Go.Proofs.YtepnegbopnepfaaDoor
open Go.RowKit
set_option linter.unusedVariables false
set_option linter.unusedSimpArgs false

theorem const_to {f : FuncId} {args : Array Value} {w : World} {u u' : Value} (h : Calls Tryd.prog f args w fun e w' => e = .returned u' ∧ Grows w w') (hu : u' = u) : Calls Tryd.prog f args w fun e w' => ∃ v, e = .returned v ∧ Grows w w' ∧ ConstV u v w' := by
  subst hu
  exact const_loose h
theorem enc_m1 : encV 2 (-1) ⟨#[]⟩ = [2, 1] := by decide
theorem dec_ab : decO [3, 2, 97, 98] 0 = ⟨3, 0, ⟨#[97, 98]⟩, 4, 0⟩ := by
  have h : dcd [3, 2, 97, 98] ((1 : Nat) : Int) = (2, 2, 0) := by decide
  have h1 : dTextO [3, 2, 97, 98] 1 = ⟨3, 0, ⟨#[97, 98]⟩, 4, 0⟩ := by
    unfold dTextO
    rw [h]
    rfl
  have h2 : decO [3, 2, 97, 98] 0 = dTextO [3, 2, 97, 98] 1 := rfl
  rw [h2, h1]
set_option maxHeartbeats 4000000 in
theorem awake_any (w : World) : Calls Tryd.prog 6 #[] w fun e w' => e = .returned (.bool true) ∧ Grows w w' := by
  have HD := hidden (fun h => ldecode_any (some ⟨w.heap.size, 0, none⟩) 4 [3, 2, 97, 98] 0 (w.alloc (.cells #[.int .u8 3, .int .u8 2, .int .u8 97, .int .u8 98] 5)) h (by simp) (by simp))
  rw [dec_ab] at HD
  unfold DecO.v at HD
  go_enter Tryd.func6, Tryd.ntmps6
  go_wp2_with fail
  refine (HD.out (IsBytes.of_row (Row.at_ w 5 _ (bcells [3, 2, 97, 98]) rfl _ rfl) 4 4 rfl)).mono ?_
  rintro e w1 ⟨rfl, g1⟩
  have HG1 := hidden ((grow1 _).of_below g1)
  clear g1
  go_wp2_with (refine wpList_store_new rfl _ _ rfl _ rfl rfl _ _ _ rfl ?_; intro W1 hrW hgW hsW; have HR1 := hidden hrW; have HW1 := hidden (HG1.out.of_below hgW); clear hrW hgW hsW)
  refine wp_region_loose (tabRs [(0, ConstV (.agg #[.int .i64 2, .int .i64 3, .string ⟨#[]⟩])), (1, ConstV (.bool true)), (3, ConstV (.agg #[.int .i64 2, .int .i64 3, .string ⟨#[]⟩])), (4, ConstV (.agg #[.int .i64 3, .int .i64 0, .string ⟨#[]⟩])), (5, ConstV (.int .i64 (-1))), (9, ConstV (.agg #[.int .i64 2, .int .i64 (-7), .string ⟨#[]⟩])), (10, ConstV (.agg #[.int .i64 2, .int .i64 2, .string ⟨#[]⟩])), (11, ConstV (.agg #[.int .i64 2, .int .i64 (-3), .string ⟨#[]⟩])), (12, ConstV (.agg #[.int .i64 2, .int .i64 (-3), .string ⟨#[]⟩])), (16, ConstV (.agg #[.int .i64 2, .int .i64 1, .string ⟨#[]⟩])), (17, ConstV (.agg #[.int .i64 2, .int .i64 2, .string ⟨#[]⟩])), (18, ConstV (.agg #[.int .i64 1, .int .i64 1, .string ⟨#[]⟩])), (24, ConstV (.agg #[.int .i64 3, .int .i64 0, .string ⟨#[97, 98]⟩])), (36, ConstV (.agg #[.int .i64 2, .int .i64 (-1), .string ⟨#[]⟩])), (37, BytesL [2, 1])]) (by kernel_rfl) (by kernel_rfl) (tabRs_cons ConstV.lasts (tabRs_cons ConstV.lasts (tabRs_cons ConstV.lasts (tabRs_cons ConstV.lasts (tabRs_cons ConstV.lasts (tabRs_cons ConstV.lasts (tabRs_cons ConstV.lasts (tabRs_cons ConstV.lasts (tabRs_cons ConstV.lasts (tabRs_cons ConstV.lasts (tabRs_cons ConstV.lasts (tabRs_cons ConstV.lasts (tabRs_cons ConstV.lasts (tabRs_cons ConstV.lasts (tabRs_cons BytesL.lasts tabRs_nil))))))))))))))) ?_
  refine loose_call (R := ConstV (.agg #[.int .i64 2, .int .i64 3, .string ⟨#[]⟩])) (f := 15) (args := #[.int .i64 3]) (by rfl) (by rfl) (fun _ => by go_simp) (fun w' hC' hG' => const_to (linteger2_any 3 w') rfl) ?_
  rintro _ ⟨_, _, rfl⟩
  refine ⟨?_, ?_, ?_⟩
  rotate_left
  · go_simp
    rfl
  refine loose_call (R := ConstV (.bool true)) (f := 14) (args := #[.agg #[.int .i64 2, .int .i64 3, .string ⟨#[]⟩]]) (by rfl) (by rfl) (fun _ => by go_simp) (fun w' hC' hG' => const_to (lvalid_any 2 3 ⟨#[]⟩ w') (by simp [validV])) ?_
  rintro _ ⟨_, _, rfl⟩
  refine ⟨?_, ?_, ?_⟩
  rotate_left
  · go_simp
    rfl
  iterate 1 ((with_reducible refine loose_one (v := ?_) (a' := ?_) ?_ ?_ (fun w' hC' hG' => ?_) ?_ ?_); rotate_left 2; (focus rfl); (focus rfl); (focus (obtain ⟨q1, q2, q3⟩ := rowCells (HR1.out.grow hC'); clear hC' hG'; go_simp; rfl)); (focus (go_simp; rfl)))
  refine loose_call (R := ConstV (.agg #[.int .i64 2, .int .i64 3, .string ⟨#[]⟩])) (f := 15) (args := #[.int .i64 3]) (by rfl) (by rfl) (fun _ => by go_simp) (fun w' hC' hG' => const_to (linteger2_any 3 w') rfl) ?_
  rintro _ ⟨_, _, rfl⟩
  refine ⟨?_, ?_, ?_⟩
  rotate_left
  · go_simp
    rfl
  refine loose_call (R := ConstV (.agg #[.int .i64 3, .int .i64 0, .string ⟨#[]⟩])) (f := 17) (args := #[.string ⟨#[]⟩]) (by rfl) (by rfl) (fun _ => by go_simp) (fun w' hC' hG' => const_to (ltext2_any ⟨#[]⟩ w') rfl) ?_
  rintro _ ⟨_, _, rfl⟩
  refine ⟨?_, ?_, ?_⟩
  rotate_left
  · go_simp
    rfl
  refine loose_call (R := ConstV (.int .i64 (-1))) (f := 16) (args := #[.agg #[.int .i64 2, .int .i64 3, .string ⟨#[]⟩], .agg #[.int .i64 3, .int .i64 0, .string ⟨#[]⟩]]) (by rfl) (by rfl) (fun _ => by go_simp) (fun w' hC' hG' => const_to (lcompare_any 2 3 3 0 ⟨#[]⟩ ⟨#[]⟩ w') rfl) ?_
  rintro _ ⟨_, _, rfl⟩
  refine ⟨?_, ?_, ?_⟩
  rotate_left
  · go_simp
    rfl
  iterate 3 ((with_reducible refine loose_one (v := ?_) (a' := ?_) ?_ ?_ (fun w' hC' hG' => ?_) ?_ ?_); rotate_left 2; (focus rfl); (focus rfl); (focus (obtain ⟨q1, q2, q3⟩ := rowCells (HR1.out.grow hC'); clear hC' hG'; go_simp; rfl)); (focus (go_simp; rfl)))
  refine loose_call (R := ConstV (.agg #[.int .i64 2, .int .i64 (-7), .string ⟨#[]⟩])) (f := 15) (args := #[.int .i64 (-7)]) (by rfl) (by rfl) (fun _ => by go_simp) (fun w' hC' hG' => const_to (linteger2_any (-7) w') rfl) ?_
  rintro _ ⟨_, _, rfl⟩
  refine ⟨?_, ?_, ?_⟩
  rotate_left
  · go_simp
    rfl
  refine loose_call (R := ConstV (.agg #[.int .i64 2, .int .i64 2, .string ⟨#[]⟩])) (f := 15) (args := #[.int .i64 2]) (by rfl) (by rfl) (fun _ => by go_simp) (fun w' hC' hG' => const_to (linteger2_any 2 w') rfl) ?_
  rintro _ ⟨_, _, rfl⟩
  refine ⟨?_, ?_, ?_⟩
  rotate_left
  · go_simp
    rfl
  refine loose_call (R := ConstV (.agg #[.int .i64 2, .int .i64 (-3), .string ⟨#[]⟩])) (f := 18) (args := #[.int .i64 12, .agg #[.int .i64 2, .int .i64 (-7), .string ⟨#[]⟩], .agg #[.int .i64 2, .int .i64 2, .string ⟨#[]⟩]]) (by rfl) (by rfl) (fun _ => by go_simp) (fun w' hC' hG' => const_to (larith_any 12 2 (-7) 2 2 ⟨#[]⟩ ⟨#[]⟩ w' (by simp [inI]) (by simp [inI])) rfl) ?_
  rintro _ ⟨_, _, rfl⟩
  refine ⟨?_, ?_, ?_⟩
  rotate_left
  · go_simp
    rfl
  refine loose_call (R := ConstV (.agg #[.int .i64 2, .int .i64 (-3), .string ⟨#[]⟩])) (f := 15) (args := #[.int .i64 (-3)]) (by rfl) (by rfl) (fun _ => by go_simp) (fun w' hC' hG' => const_to (linteger2_any (-3) w') rfl) ?_
  rintro _ ⟨_, _, rfl⟩
  refine ⟨?_, ?_, ?_⟩
  rotate_left
  · go_simp
    rfl
  iterate 3 ((with_reducible refine loose_one (v := ?_) (a' := ?_) ?_ ?_ (fun w' hC' hG' => ?_) ?_ ?_); rotate_left 2; (focus rfl); (focus rfl); (focus (obtain ⟨q1, q2, q3⟩ := rowCells (HR1.out.grow hC'); clear hC' hG'; go_simp; rfl)); (focus (go_simp; rfl)))
  refine loose_call (R := ConstV (.agg #[.int .i64 2, .int .i64 1, .string ⟨#[]⟩])) (f := 15) (args := #[.int .i64 1]) (by rfl) (by rfl) (fun _ => by go_simp) (fun w' hC' hG' => const_to (linteger2_any 1 w') rfl) ?_
  rintro _ ⟨_, _, rfl⟩
  refine ⟨?_, ?_, ?_⟩
  rotate_left
  · go_simp
    rfl
  refine loose_call (R := ConstV (.agg #[.int .i64 2, .int .i64 2, .string ⟨#[]⟩])) (f := 15) (args := #[.int .i64 2]) (by rfl) (by rfl) (fun _ => by go_simp) (fun w' hC' hG' => const_to (linteger2_any 2 w') rfl) ?_
  rintro _ ⟨_, _, rfl⟩
  refine ⟨?_, ?_, ?_⟩
  rotate_left
  · go_simp
    rfl
  refine loose_call (R := ConstV (.agg #[.int .i64 1, .int .i64 1, .string ⟨#[]⟩])) (f := 19) (args := #[.int .i64 3, .agg #[.int .i64 2, .int .i64 1, .string ⟨#[]⟩], .agg #[.int .i64 2, .int .i64 2, .string ⟨#[]⟩]]) (by rfl) (by rfl) (fun _ => by go_simp) (fun w' hC' hG' => const_to (ltest_any 3 2 1 2 2 ⟨#[]⟩ ⟨#[]⟩ w') rfl) ?_
  rintro _ ⟨_, _, rfl⟩
  refine ⟨?_, ?_, ?_⟩
  rotate_left
  · go_simp
    rfl
  iterate 5 ((with_reducible refine loose_one (v := ?_) (a' := ?_) ?_ ?_ (fun w' hC' hG' => ?_) ?_ ?_); rotate_left 2; (focus rfl); (focus rfl); (focus (obtain ⟨q1, q2, q3⟩ := rowCells (HR1.out.grow hC'); clear hC' hG'; go_simp; rfl)); (focus (go_simp; rfl)))
  refine loose_call (R := ConstV (.agg #[.int .i64 3, .int .i64 0, .string ⟨#[97, 98]⟩])) (f := 17) (args := #[.string ⟨#[97, 98]⟩]) (by rfl) (by rfl) (fun _ => by go_simp) (fun w' hC' hG' => const_to (ltext2_any ⟨#[97, 98]⟩ w') rfl) ?_
  rintro _ ⟨_, _, rfl⟩
  refine ⟨?_, ?_, ?_⟩
  rotate_left
  · go_simp
    rfl
  iterate 11 ((with_reducible refine loose_one (v := ?_) (a' := ?_) ?_ ?_ (fun w' hC' hG' => ?_) ?_ ?_); rotate_left 2; (focus rfl); (focus rfl); (focus (obtain ⟨q1, q2, q3⟩ := rowCells (HR1.out.grow hC'); clear hC' hG'; go_simp; rfl)); (focus (go_simp; rfl)))
  refine loose_call (R := ConstV (.agg #[.int .i64 2, .int .i64 (-1), .string ⟨#[]⟩])) (f := 15) (args := #[.int .i64 (-1)]) (by rfl) (by rfl) (fun _ => by go_simp) (fun w' hC' hG' => const_to (linteger2_any (-1) w') rfl) ?_
  rintro _ ⟨_, _, rfl⟩
  refine ⟨?_, ?_, ?_⟩
  rotate_left
  · go_simp
    rfl
  refine loose_call (f := 7) (args := #[.agg #[.int .i64 2, .int .i64 (-1), .string ⟨#[]⟩]]) (by rfl) (by rfl) (fun _ => by go_simp) (fun w' hC' hG' => (lencode_any 2 (-1) ⟨#[]⟩ w' (by simp [validV]) (by decide) (by decide)).mono fun _ _ h => by rw [enc_m1] at h; exact h) ?_
  intro v37 _
  refine ⟨?_, ?_, ?_⟩
  rotate_left
  · go_simp
    rfl
  refine loose_one (v := ?_) (a' := ?_) (by rfl) (by rfl) (fun w' hC' hG' => ?_) ?_ ?_
  rotate_left 2
  · have hr := run_string_bytes (P := Tryd.prog) (BytesL.is ((hG' 37 (by kernel_rfl)).2 rfl)) 25 5 Tryd.underlying25 Tryd.underlying5 9 Tryd.underlying9
    clear hC' hG'
    go_simp
    rfl
  · go_simp
    rfl
  iterate 3 ((with_reducible refine loose_one (v := ?_) (a' := ?_) ?_ ?_ (fun w' hC' hG' => ?_) ?_ ?_); rotate_left 2; (focus rfl); (focus rfl); (focus (obtain ⟨q1, q2, q3⟩ := rowCells (HR1.out.grow hC'); clear hC' hG'; go_simp; rfl)); (focus (go_simp; rfl)))
  refine loose_done (fun w5 hC' hG' => ?_)
  clear hG'
  go_wp2_with fail
  go_ret
  exact ⟨retB (by rw [ByteArray.toList_eq]; rfl), HW1.out.of_below hC'⟩
end Go.Proofs.YtepnegbopnepfaaDoor
