/-
  The walk of the law ValueTests: it returns true for every operator and two values; nothing that was there is changed.
-/
import Derived.Test.YtepnegbopnepfaaLw0
import Derived.Test.YtepnegbopnepfaaLv3
import Derived.Test.YtepnegbopnepfaaLv5
namespace Go.Proofs.Ytepnegbopnepfaa
open Go.RowKit
set_option linter.unusedVariables false
set_option linter.unusedSimpArgs false

theorem test_form (op k n : Int) (t : ByteArray) (k' n' : Int) (t' : ByteArray) : ∃ kk nn, testV op k n t k' n' t' = .agg #[.int .i64 kk, .int .i64 nn, .string ⟨#[]⟩] := by
  unfold testV
  split
  · exact ⟨_, _, rfl⟩
  · exact ⟨_, _, rfl⟩
theorem neg_form (k n : Int) : ∃ kk nn, negV k n = .agg #[.int .i64 kk, .int .i64 nn, .string ⟨#[]⟩] := by
  unfold negV
  split
  · exact ⟨_, _, rfl⟩
  · exact ⟨_, _, rfl⟩
theorem concat_form (k : Int) (t : ByteArray) (k' : Int) (t' : ByteArray) : ∃ kk nn tt, concatV k t k' t' = .agg #[.int .i64 kk, .int .i64 nn, .string tt] := by
  unfold concatV
  split
  · exact ⟨_, _, _, rfl⟩
  · exact ⟨_, _, _, rfl⟩
theorem valid_size {x : Val} (h : validV x.k x.n x.t = true) : x.t.size ≤ 4096 := by
  obtain ⟨k, n, t⟩ := x
  simp only at h ⊢
  have e : t.toList.isEmpty = true → t.size ≤ 4096 := by
    intro h
    rw [ByteArray.toList_eq] at h
    have : t.data.toList.length = t.size := by simp
    rw [List.isEmpty_iff] at h
    rw [h] at this
    simp at this
    omega
  rcases valid_kinds h with rfl | rfl | rfl | rfl
  · unfold validV at h; rw [if_pos rfl, Bool.and_eq_true] at h; exact e h.2
  · unfold validV at h; rw [if_neg (by decide), if_pos rfl, Bool.and_eq_true] at h; exact e h.2
  · unfold validV at h; rw [if_neg (by decide), if_neg (by decide), if_pos rfl] at h; exact e h
  · have := (valid_3 h).2
    have e2 : t.data.toList.length = t.size := by simp
    omega
set_option maxHeartbeats 4000000 in
theorem law_tests (op : Int) (x y : Val) (w : World) (hx : inI x.n) (hy : inI y.n) : Calls Try.prog 5 #[.int .i64 op, .agg #[.int .i64 x.k, .int .i64 x.n, .string x.t], .agg #[.int .i64 y.k, .int .i64 y.n, .string y.t]] w fun e w' => e = .returned (.bool true) ∧ Grows w w' := by
  have HR := hidden (fun w => rvvalid_any x.k x.n x.t w)
  have HQ := hidden (fun w => rvvalid_any y.k y.n y.t w)
  cases hb : validV x.k x.n x.t
  · rw [hb] at HR
    clear hb
    go_enter Try.func5, Try.ntmps5
    go_wp2_with fail
    refine (HR.out _).mono ?_
    rintro e w2 ⟨rfl, g2⟩
    have HG2 := hidden ((grow2 _ _).of_below g2)
    clear g2
    go_wp2_with fail
    refine (awake_any _).mono ?_
    rintro e w3 ⟨rfl, g3⟩
    have HG3 := hidden (HG2.out.of_below g3)
    clear g3
    go_wp2_with fail
    go_ret
    exact ⟨rfl, HG3.out⟩
  have hvx := hb
  rw [hb] at HR
  clear hb
  cases hb : validV y.k y.n y.t
  · rw [hb] at HQ
    clear hb hvx
    go_enter Try.func5, Try.ntmps5
    go_wp2_with fail
    refine (HR.out _).mono ?_
    rintro e w2 ⟨rfl, g2⟩
    have HG2 := hidden ((grow2 _ _).of_below g2)
    have HD := hidden (rowCells ((valRow2 w w2 (.cells #[.int .i64 x.k, .int .i64 x.n, .string x.t] 23) (.int .i64 y.k) (.int .i64 y.n) (.string y.t) g2)))
    obtain ⟨r1, r2, r3⟩ := HD.out
    clear g2
    go_wp2_with fail
    refine (HQ.out _).mono ?_
    rintro e w3 ⟨rfl, g3⟩
    have HG3 := hidden (HG2.out.of_below g3)
    clear g3 r1 r2 r3
    go_wp2_with fail
    refine (awake_any _).mono ?_
    rintro e w4 ⟨rfl, g4⟩
    have HG4 := hidden (HG3.out.of_below g4)
    clear g4
    go_wp2_with fail
    go_ret
    exact ⟨rfl, HG4.out⟩
  have hvy := hb
  rw [hb] at HQ
  clear hb
  have H1 := hidden (fun w => ltest_any op x.k x.n y.k y.n x.t y.t w)
  rw [ltestV_eq hvx hvy] at H1
  have H2 := hidden (fun w => rtest_any op x.k x.n y.k y.n x.t y.t w)
  have H3 := hidden (fun w => larith_any op x.k x.n y.k y.n x.t y.t w hx hy)
  have H4 := hidden (fun w => rarith_any op x.k x.n y.k y.n x.t y.t w hx hy)
  have H5 := hidden (fun w => lnegate_any x.k x.n x.t w hx)
  have H6 := hidden (fun w => rnegate_any x.k x.n x.t w hx.1 hx.2)
  have H7 := hidden (fun w => lconcat_any x.k x.n y.k y.n x.t y.t w (valid_size hvx) (valid_size hvy))
  have H8 := hidden (fun w => rconcat_any x.k x.n y.k y.n x.t y.t w (valid_size hvx) (valid_size hvy))
  obtain ⟨k1, n1, e1⟩ := test_form op x.k x.n x.t y.k y.n y.t
  obtain ⟨k3, n3, e3⟩ := arith_form op x.k x.n y.k y.n
  obtain ⟨k5, n5, e5⟩ := neg_form x.k x.n
  obtain ⟨k7, n7, t7, e7⟩ := concat_form x.k x.t y.k y.t
  rw [e1] at H1 H2
  rw [e3] at H3 H4
  rw [e5] at H5 H6
  rw [e7] at H7 H8
  clear e1 e3 e5 e7 hvx hvy hx hy
  go_enter Try.func5, Try.ntmps5
  go_wp2_with fail
  refine (HR.out _).mono ?_
  rintro e w2 ⟨rfl, g2⟩
  have HG2 := hidden ((grow2 _ _).of_below g2)
  have HC0 := hidden (((valRow w (.int .i64 x.k) (.int .i64 x.n) (.string x.t)).grow (grow1 (.cells #[.int .i64 y.k, .int .i64 y.n, .string y.t] 23))).grow g2)
  have HD0 := hidden (valRow2 w w2 (.cells #[.int .i64 x.k, .int .i64 x.n, .string x.t] 23) (.int .i64 y.k) (.int .i64 y.n) (.string y.t) g2)
  obtain ⟨r1, r2, r3⟩ := rowCells HD0.out
  clear g2
  go_wp2_with fail
  refine (HQ.out _).mono ?_
  rintro e w3 ⟨rfl, g3⟩
  have HG3 := hidden (HG2.out.of_below g3)
  have HC := hidden (fun w' (h : Grows w3 w') => rowCells ((HC0.out.grow g3).grow h))
  have HD := hidden (fun w' (h : Grows w3 w') => rowCells ((HD0.out.grow g3).grow h))
  clear g3 r1 r2 r3 HC0 HD0
  go_wp2_with fail
  refine wp_region_loose (constRs [(3, .agg #[.int .i64 k1, .int .i64 n1, .string ⟨#[]⟩]), (7, .agg #[.int .i64 k1, .int .i64 n1, .string ⟨#[]⟩]), (13, .agg #[.int .i64 k3, .int .i64 n3, .string ⟨#[]⟩]), (17, .agg #[.int .i64 k3, .int .i64 n3, .string ⟨#[]⟩]), (22, .agg #[.int .i64 k5, .int .i64 n5, .string ⟨#[]⟩]), (24, .agg #[.int .i64 k5, .int .i64 n5, .string ⟨#[]⟩]), (30, .agg #[.int .i64 k7, .int .i64 n7, .string t7]), (33, .agg #[.int .i64 k7, .int .i64 n7, .string t7]), (37, .bool true)]) (by kernel_rfl) (by kernel_rfl) (constRs_lasts _) ?_
  iterate 3 ((with_reducible refine loose_one (v := ?_) (a' := ?_) ?_ ?_ (fun w' hC' hG' => ?_) ?_ ?_); rotate_left 2; (focus rfl); (focus rfl); (focus (obtain ⟨q1, q2, q3⟩ := HC.out w' hC'; obtain ⟨r1, r2, r3⟩ := HD.out w' hC'; clear hC' hG'; go_simp; rfl)); (focus (go_simp; rfl)))
  refine loose_call (R := ConstV (.agg #[.int .i64 k1, .int .i64 n1, .string ⟨#[]⟩])) (f := 21) (args := #[.int .i64 op, .agg #[.int .i64 x.k, .int .i64 x.n, .string x.t], .agg #[.int .i64 y.k, .int .i64 y.n, .string y.t]]) (by rfl) (by rfl) (fun _ => by go_simp) (fun w' hC' hG' => const_loose (H1.out w')) ?_
  rintro _ ⟨_, _, rfl⟩
  refine ⟨?_, ?_, ?_⟩
  rotate_left
  · go_simp
    rfl
  iterate 3 ((with_reducible refine loose_one (v := ?_) (a' := ?_) ?_ ?_ (fun w' hC' hG' => ?_) ?_ ?_); rotate_left 2; (focus rfl); (focus rfl); (focus (obtain ⟨q1, q2, q3⟩ := HC.out w' hC'; obtain ⟨r1, r2, r3⟩ := HD.out w' hC'; clear hC' hG'; go_simp; rfl)); (focus (go_simp; rfl)))
  refine loose_call (R := ConstV (.agg #[.int .i64 k1, .int .i64 n1, .string ⟨#[]⟩])) (f := 22) (args := #[.int .i64 op, .agg #[.int .i64 x.k, .int .i64 x.n, .string x.t], .agg #[.int .i64 y.k, .int .i64 y.n, .string y.t]]) (by rfl) (by rfl) (fun _ => by go_simp) (fun w' hC' hG' => const_loose (H2.out w')) ?_
  rintro _ ⟨_, _, rfl⟩
  refine ⟨?_, ?_, ?_⟩
  rotate_left
  · go_simp
    rfl
  iterate 5 ((with_reducible refine loose_one (v := ?_) (a' := ?_) ?_ ?_ (fun w' hC' hG' => ?_) ?_ ?_); rotate_left 2; (focus rfl); (focus rfl); (focus (obtain ⟨q1, q2, q3⟩ := HC.out w' hC'; obtain ⟨r1, r2, r3⟩ := HD.out w' hC'; clear hC' hG'; go_simp; rfl)); (focus (go_simp; rfl)))
  refine loose_call (R := ConstV (.agg #[.int .i64 k3, .int .i64 n3, .string ⟨#[]⟩])) (f := 23) (args := #[.int .i64 op, .agg #[.int .i64 x.k, .int .i64 x.n, .string x.t], .agg #[.int .i64 y.k, .int .i64 y.n, .string y.t]]) (by rfl) (by rfl) (fun _ => by go_simp) (fun w' hC' hG' => const_loose (H3.out w')) ?_
  rintro _ ⟨_, _, rfl⟩
  refine ⟨?_, ?_, ?_⟩
  rotate_left
  · go_simp
    rfl
  iterate 3 ((with_reducible refine loose_one (v := ?_) (a' := ?_) ?_ ?_ (fun w' hC' hG' => ?_) ?_ ?_); rotate_left 2; (focus rfl); (focus rfl); (focus (obtain ⟨q1, q2, q3⟩ := HC.out w' hC'; obtain ⟨r1, r2, r3⟩ := HD.out w' hC'; clear hC' hG'; go_simp; rfl)); (focus (go_simp; rfl)))
  refine loose_call (R := ConstV (.agg #[.int .i64 k3, .int .i64 n3, .string ⟨#[]⟩])) (f := 24) (args := #[.int .i64 op, .agg #[.int .i64 x.k, .int .i64 x.n, .string x.t], .agg #[.int .i64 y.k, .int .i64 y.n, .string y.t]]) (by rfl) (by rfl) (fun _ => by go_simp) (fun w' hC' hG' => const_loose (H4.out w')) ?_
  rintro _ ⟨_, _, rfl⟩
  refine ⟨?_, ?_, ?_⟩
  rotate_left
  · go_simp
    rfl
  iterate 4 ((with_reducible refine loose_one (v := ?_) (a' := ?_) ?_ ?_ (fun w' hC' hG' => ?_) ?_ ?_); rotate_left 2; (focus rfl); (focus rfl); (focus (obtain ⟨q1, q2, q3⟩ := HC.out w' hC'; obtain ⟨r1, r2, r3⟩ := HD.out w' hC'; clear hC' hG'; go_simp; rfl)); (focus (go_simp; rfl)))
  refine loose_call (R := ConstV (.agg #[.int .i64 k5, .int .i64 n5, .string ⟨#[]⟩])) (f := 25) (args := #[.agg #[.int .i64 x.k, .int .i64 x.n, .string x.t]]) (by rfl) (by rfl) (fun _ => by go_simp) (fun w' hC' hG' => const_loose (H5.out w')) ?_
  rintro _ ⟨_, _, rfl⟩
  refine ⟨?_, ?_, ?_⟩
  rotate_left
  · go_simp
    rfl
  iterate 1 ((with_reducible refine loose_one (v := ?_) (a' := ?_) ?_ ?_ (fun w' hC' hG' => ?_) ?_ ?_); rotate_left 2; (focus rfl); (focus rfl); (focus (obtain ⟨q1, q2, q3⟩ := HC.out w' hC'; obtain ⟨r1, r2, r3⟩ := HD.out w' hC'; clear hC' hG'; go_simp; rfl)); (focus (go_simp; rfl)))
  refine loose_call (R := ConstV (.agg #[.int .i64 k5, .int .i64 n5, .string ⟨#[]⟩])) (f := 26) (args := #[.agg #[.int .i64 x.k, .int .i64 x.n, .string x.t]]) (by rfl) (by rfl) (fun _ => by go_simp) (fun w' hC' hG' => const_loose (H6.out w')) ?_
  rintro _ ⟨_, _, rfl⟩
  refine ⟨?_, ?_, ?_⟩
  rotate_left
  · go_simp
    rfl
  iterate 5 ((with_reducible refine loose_one (v := ?_) (a' := ?_) ?_ ?_ (fun w' hC' hG' => ?_) ?_ ?_); rotate_left 2; (focus rfl); (focus rfl); (focus (obtain ⟨q1, q2, q3⟩ := HC.out w' hC'; obtain ⟨r1, r2, r3⟩ := HD.out w' hC'; clear hC' hG'; go_simp; rfl)); (focus (go_simp; rfl)))
  refine loose_call (R := ConstV (.agg #[.int .i64 k7, .int .i64 n7, .string t7])) (f := 27) (args := #[.agg #[.int .i64 x.k, .int .i64 x.n, .string x.t], .agg #[.int .i64 y.k, .int .i64 y.n, .string y.t]]) (by rfl) (by rfl) (fun _ => by go_simp) (fun w' hC' hG' => const_loose (H7.out w')) ?_
  rintro _ ⟨_, _, rfl⟩
  refine ⟨?_, ?_, ?_⟩
  rotate_left
  · go_simp
    rfl
  iterate 2 ((with_reducible refine loose_one (v := ?_) (a' := ?_) ?_ ?_ (fun w' hC' hG' => ?_) ?_ ?_); rotate_left 2; (focus rfl); (focus rfl); (focus (obtain ⟨q1, q2, q3⟩ := HC.out w' hC'; obtain ⟨r1, r2, r3⟩ := HD.out w' hC'; clear hC' hG'; go_simp; rfl)); (focus (go_simp; rfl)))
  refine loose_call (R := ConstV (.agg #[.int .i64 k7, .int .i64 n7, .string t7])) (f := 28) (args := #[.agg #[.int .i64 x.k, .int .i64 x.n, .string x.t], .agg #[.int .i64 y.k, .int .i64 y.n, .string y.t]]) (by rfl) (by rfl) (fun _ => by go_simp) (fun w' hC' hG' => const_loose (H8.out w')) ?_
  rintro _ ⟨_, _, rfl⟩
  refine ⟨?_, ?_, ?_⟩
  rotate_left
  · go_simp
    rfl
  iterate 3 ((with_reducible refine loose_one (v := ?_) (a' := ?_) ?_ ?_ (fun w' hC' hG' => ?_) ?_ ?_); rotate_left 2; (focus rfl); (focus rfl); (focus (obtain ⟨q1, q2, q3⟩ := HC.out w' hC'; obtain ⟨r1, r2, r3⟩ := HD.out w' hC'; clear hC' hG'; go_simp; rfl)); (focus (go_simp; rfl)))
  refine loose_call (R := ConstV (.bool true)) (f := 13) (args := #[]) (by rfl) (by rfl) (fun _ => by go_simp) (fun w' hC' hG' => const_loose (awake_any w')) ?_
  rintro _ ⟨_, _, rfl⟩
  refine ⟨?_, ?_, ?_⟩
  rotate_left
  · go_simp
    rfl
  iterate 2 ((with_reducible refine loose_one (v := ?_) (a' := ?_) ?_ ?_ (fun w' hC' hG' => ?_) ?_ ?_); rotate_left 2; (focus rfl); (focus rfl); (focus (obtain ⟨q1, q2, q3⟩ := HC.out w' hC'; obtain ⟨r1, r2, r3⟩ := HD.out w' hC'; clear hC' hG'; go_simp; rfl)); (focus (go_simp; rfl)))
  refine loose_done (fun w5 hC' hG' => ?_)
  clear hG'
  go_wp2_with fail
  go_ret
  exact ⟨rfl, HG3.out.of_below hC'⟩
end Go.Proofs.Ytepnegbopnepfaa
