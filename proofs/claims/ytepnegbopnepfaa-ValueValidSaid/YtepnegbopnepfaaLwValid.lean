/-
  The walk of the law ValueValid: it returns true for every value; nothing that was there is changed.
-/
import Derived.Test.YtepnegbopnepfaaLw0
namespace Go.Proofs.Ytepnegbopnepfaa
open Go.RowKit
set_option linter.unusedVariables false
set_option linter.unusedSimpArgs false

theorem law_valid (x : Val) (w : World) : Calls Try.prog 3 #[.agg #[.int .i64 x.k, .int .i64 x.n, .string x.t]] w fun e w' => e = .returned (.bool true) ∧ Grows w w' := by
  have HV := hidden (fun w => lvalid_any x.k x.n x.t w)
  have HR := hidden (fun w => rvvalid_any x.k x.n x.t w)
  generalize validV x.k x.n x.t = b at *
  go_enter Try.func3, Try.ntmps3
  go_wp2_with fail
  have HC := hidden (fun w' (h : Grows (w.alloc (.cells #[.int .i64 x.k, .int .i64 x.n, .string x.t] 23)) w') => rowCells ((valRow w (.int .i64 x.k) (.int .i64 x.n) (.string x.t)).grow h))
  refine wp_region_loose (constRs [(1, .bool b), (3, .bool b), (6, .bool true)]) (by kernel_rfl) (by kernel_rfl) (constRs_lasts _) ?_
  iterate 1 ((with_reducible refine loose_one (v := ?_) (a' := ?_) ?_ ?_ (fun w' hC' hG' => ?_) ?_ ?_); rotate_left 2; (focus rfl); (focus rfl); (focus (obtain ⟨q1, q2, q3⟩ := HC.out w' hC'; clear hC' hG'; go_simp; rfl)); (focus (go_simp; rfl)))
  refine loose_call (R := ConstV (.bool b)) (f := 11) (args := #[.agg #[.int .i64 x.k, .int .i64 x.n, .string x.t]]) (by rfl) (by rfl) (fun _ => by go_simp) (fun w' hC' hG' => const_loose (HV.out w')) ?_
  rintro _ ⟨_, _, rfl⟩
  refine ⟨?_, ?_, ?_⟩
  rotate_left
  · go_simp
    rfl
  iterate 1 ((with_reducible refine loose_one (v := ?_) (a' := ?_) ?_ ?_ (fun w' hC' hG' => ?_) ?_ ?_); rotate_left 2; (focus rfl); (focus rfl); (focus (obtain ⟨q1, q2, q3⟩ := HC.out w' hC'; clear hC' hG'; go_simp; rfl)); (focus (go_simp; rfl)))
  refine loose_call (R := ConstV (.bool b)) (f := 12) (args := #[.agg #[.int .i64 x.k, .int .i64 x.n, .string x.t]]) (by rfl) (by rfl) (fun _ => by go_simp) (fun w' hC' hG' => const_loose (HR.out w')) ?_
  rintro _ ⟨_, _, rfl⟩
  refine ⟨?_, ?_, ?_⟩
  rotate_left
  · go_simp
    rfl
  iterate 2 ((with_reducible refine loose_one (v := ?_) (a' := ?_) ?_ ?_ (fun w' hC' hG' => ?_) ?_ ?_); rotate_left 2; (focus rfl); (focus rfl); (focus (obtain ⟨q1, q2, q3⟩ := HC.out w' hC'; clear hC' hG'; go_simp; rfl)); (focus (go_simp; rfl)))
  refine loose_call (R := ConstV (.bool true)) (f := 13) (args := #[]) (by rfl) (by rfl) (fun _ => by go_simp) (fun w' hC' hG' => const_loose (awake_any w')) ?_
  rintro _ ⟨_, _, rfl⟩
  refine ⟨?_, ?_, ?_⟩
  rotate_left
  · go_simp
    rfl
  iterate 2 ((with_reducible refine loose_one (v := ?_) (a' := ?_) ?_ ?_ (fun w' hC' hG' => ?_) ?_ ?_); rotate_left 2; (focus rfl); (focus rfl); (focus (obtain ⟨q1, q2, q3⟩ := HC.out w' hC'; clear hC' hG'; go_simp; rfl)); (focus (go_simp; rfl)))
  refine loose_done (fun w5 hC' hG' => ?_)
  clear hG'
  go_wp2_with fail
  go_ret
  exact ⟨rfl, (grow1 _).of_below hC'⟩
end Go.Proofs.Ytepnegbopnepfaa
