/-
  The walk of the law ValueAssigns: it returns true for every value and column; nothing that was there is changed.
-/
import Derived.Test.YtepnegbopnepfaaLw0
import Derived.Test.YtepnegbopnepfaaLv3
namespace Go.Proofs.Ytepnegbopnepfaa
open Go.RowKit
set_option linter.unusedVariables false
set_option linter.unusedSimpArgs false

theorem colCells {w : World} {g : Nat} {k n t : Value} (h : Row w g 41 [k, n, t]) : w.cell? ⟨g, 0, none⟩ = some k ∧ w.cell? ⟨g, 1, none⟩ = some n ∧ w.cell? ⟨g, 2, none⟩ = some t := ⟨h.cell 0, h.cell 1, h.cell 2⟩
theorem law_assigns (x : Val) (nm : ByteArray) (ty : Int) (nn : Bool) (w : World) : Calls Try.prog 7 #[.agg #[.int .i64 x.k, .int .i64 x.n, .string x.t], .agg #[.string nm, .int .i64 ty, .bool nn]] w fun e w' => e = .returned (.bool true) ∧ Grows w w' := by
  have HR := hidden (fun w => rvvalid_any x.k x.n x.t w)
  have HA := hidden (fun w => lassign_any x.k x.n ty x.t nm nn w)
  have HB := hidden (fun w => rassign_any x.k x.n ty x.t nm nn w)
  generalize assignV x.k ty nn = z at *
  cases hb : validV x.k x.n x.t
  · rw [hb] at HR
    clear hb
    go_enter Try.func7, Try.ntmps7
    go_wp2_with fail
    refine (HR.out _).mono ?_
    rintro e w2 ⟨rfl, g2⟩
    have HG2 := hidden ((grow2 _ _).of_below g2)
    clear g2
    go_wp2_with fail
    refine (awake_any _).mono ?_
    rintro e w3 ⟨rfl, g3⟩
    have HG3 := hidden (HG2.out.of_below g3)
    clear g3
    go_wp2_with fail
    go_ret
    exact ⟨rfl, HG3.out⟩
  · rw [hb] at HR
    clear hb
    go_enter Try.func7, Try.ntmps7
    go_wp2_with fail
    refine (HR.out _).mono ?_
    rintro e w2 ⟨rfl, g2⟩
    have HG2 := hidden ((grow2 _ _).of_below g2)
    have HC := hidden (fun w' (h : Grows w2 w') => rowCells ((((valRow w (.int .i64 x.k) (.int .i64 x.n) (.string x.t)).grow (grow1 _)).grow g2).grow h))
    have HD := hidden (fun w' (h : Grows w2 w') => colCells (((Row.at_ (w.alloc (.cells #[.int .i64 x.k, .int .i64 x.n, .string x.t] 23)) 41 #[.string nm, .int .i64 ty, .bool nn] [.string nm, .int .i64 ty, .bool nn] rfl (w.heap.size + 1) (by simp)).grow g2).grow h))
    clear g2
    go_wp2_with fail
    refine wp_region_loose (constRs [(2, .int .i64 z), (5, .int .i64 z), (8, .bool true)]) (by kernel_rfl) (by kernel_rfl) (constRs_lasts _) ?_
    iterate 2 ((with_reducible refine loose_one (v := ?_) (a' := ?_) ?_ ?_ (fun w' hC' hG' => ?_) ?_ ?_); rotate_left 2; (focus rfl); (focus rfl); (focus (obtain ⟨q1, q2, q3⟩ := HC.out w' hC'; obtain ⟨r1, r2, r3⟩ := HD.out w' hC'; clear hC' hG'; go_simp; rfl)); (focus (go_simp; rfl)))
    refine loose_call (R := ConstV (.int .i64 z)) (f := 35) (args := #[.agg #[.int .i64 x.k, .int .i64 x.n, .string x.t], .agg #[.string nm, .int .i64 ty, .bool nn]]) (by rfl) (by rfl) (fun _ => by go_simp) (fun w' hC' hG' => const_loose (HA.out w')) ?_
    rintro _ ⟨_, _, rfl⟩
    refine ⟨?_, ?_, ?_⟩
    rotate_left
    · go_simp
      rfl
    iterate 2 ((with_reducible refine loose_one (v := ?_) (a' := ?_) ?_ ?_ (fun w' hC' hG' => ?_) ?_ ?_); rotate_left 2; (focus rfl); (focus rfl); (focus (obtain ⟨q1, q2, q3⟩ := HC.out w' hC'; obtain ⟨r1, r2, r3⟩ := HD.out w' hC'; clear hC' hG'; go_simp; rfl)); (focus (go_simp; rfl)))
    refine loose_call (R := ConstV (.int .i64 z)) (f := 36) (args := #[.agg #[.int .i64 x.k, .int .i64 x.n, .string x.t], .agg #[.string nm, .int .i64 ty, .bool nn]]) (by rfl) (by rfl) (fun _ => by go_simp) (fun w' hC' hG' => const_loose (HB.out w')) ?_
    rintro _ ⟨_, _, rfl⟩
    refine ⟨?_, ?_, ?_⟩
    rotate_left
    · go_simp
      rfl
    iterate 2 ((with_reducible refine loose_one (v := ?_) (a' := ?_) ?_ ?_ (fun w' hC' hG' => ?_) ?_ ?_); rotate_left 2; (focus rfl); (focus rfl); (focus (obtain ⟨q1, q2, q3⟩ := HC.out w' hC'; obtain ⟨r1, r2, r3⟩ := HD.out w' hC'; clear hC' hG'; go_simp; rfl)); (focus (go_simp; rfl)))
    refine loose_call (R := ConstV (.bool true)) (f := 13) (args := #[]) (by rfl) (by rfl) (fun _ => by go_simp) (fun w' hC' hG' => const_loose (awake_any w')) ?_
    rintro _ ⟨_, _, rfl⟩
    refine ⟨?_, ?_, ?_⟩
    rotate_left
    · go_simp
      rfl
    iterate 2 ((with_reducible refine loose_one (v := ?_) (a' := ?_) ?_ ?_ (fun w' hC' hG' => ?_) ?_ ?_); rotate_left 2; (focus rfl); (focus rfl); (focus (obtain ⟨q1, q2, q3⟩ := HC.out w' hC'; obtain ⟨r1, r2, r3⟩ := HD.out w' hC'; clear hC' hG'; go_simp; rfl)); (focus (go_simp; rfl)))
    refine loose_done (fun w5 hC' hG' => ?_)
    clear hG'
    go_wp2_with fail
    go_ret
    exact ⟨rfl, HG2.out.of_below hC'⟩
end Go.Proofs.Ytepnegbopnepfaa
