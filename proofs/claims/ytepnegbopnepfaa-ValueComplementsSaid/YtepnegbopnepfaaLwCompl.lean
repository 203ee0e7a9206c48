/-
  The walk of the law ValueComplements: it returns true for every two values; nothing that was there is changed.
-/
import Derived.Test.YtepnegbopnepfaaLw0
import Derived.Test.YtepnegbopnepfaaLv3
import Derived.Test.YtepnegbopnepfaaLooseD
namespace Go.Proofs.Ytepnegbopnepfaa
open Go.RowKit
set_option linter.unusedVariables false
set_option linter.unusedSimpArgs false

def allocVal (op : Op) : Bool := match op with
  | .alloc t => t == 23
  | _ => false
def makesB (ops : Array Oper) (D : List Tmp) : Bool := ops.all fun o => match o.dst with
  | some t => !D.contains t || allocVal o.op
  | none => true
theorem exec_alloc_val {o : Oper} (ho : o.op = .alloc 23) (a : Act) (w : World) :
    (execOp a.eval o).run Try.prog w = .ok (.value (.pointer (some ⟨w.heap.size, 0, none⟩))) (w.alloc (.cells #[.int .i64 0, .int .i64 0, .string ⟨#[]⟩] 23)) := by
  unfold execOp
  simp only [ho]
  first | rfl | go_simp
theorem makes_of {ops : Array Oper} {D : List Tmp} (h : makesB ops D = true) : Makes Try.prog ops D := by
  intro i o hi t ht hd a w
  unfold makesB at h
  rw [Array.all_eq_true] at h
  obtain ⟨hlt, he⟩ := Array.getElem?_eq_some_iff.1 hi
  have h1 := h i hlt
  rw [he, hd] at h1
  simp only [Bool.or_eq_true, Bool.not_eq_true'] at h1
  rcases h1 with h1 | h1
  · rw [List.contains_eq_mem] at h1
    simp [ht] at h1
  · unfold allocVal at h1
    split at h1
    · rename_i t' hop
      have ht' : t' = 23 := by simpa using h1
      rw [ht'] at hop
      exact ⟨_, _, exec_alloc_val hop a w, Nat.le_refl _, by simp⟩
    · cases h1
def NewV (base : Nat) (v : Value) (w : World) : Prop := ∃ b, v = .pointer (some ⟨b, 0, none⟩) ∧ base ≤ b ∧ Row w b 23 [.int .i64 0, .int .i64 0, .string ⟨#[]⟩]
theorem NewV.lasts {base : Nat} : ∀ v w w', NewV base v w → Grows w w' → NewV base v w' := fun _ _ _ ⟨b, h1, h2, h3⟩ hb => ⟨b, h1, h2, h3.grow hb⟩
theorem new_val (base : Nat) (w : World) (h : base ≤ w.heap.size) : NewV base (.pointer (some ⟨w.heap.size, 0, none⟩)) (w.alloc (.cells #[.int .i64 0, .int .i64 0, .string ⟨#[]⟩] 23)) := ⟨_, rfl, h, valRow w _ _ _⟩
set_option maxHeartbeats 8000000 in
theorem compl_core (x y : Val) (w : World) (hvx : validV x.k x.n x.t = true) (hvy : validV y.k y.n y.t = true) (T lt eq gt ge ne le : Int)
    (e3 : testV 3 x.k x.n x.t y.k y.n y.t = .agg #[.int .i64 T, .int .i64 lt, .string ⟨#[]⟩]) (e1 : testV 1 x.k x.n x.t y.k y.n y.t = .agg #[.int .i64 T, .int .i64 eq, .string ⟨#[]⟩])
    (e5 : testV 5 x.k x.n x.t y.k y.n y.t = .agg #[.int .i64 T, .int .i64 gt, .string ⟨#[]⟩]) (e6 : testV 6 x.k x.n x.t y.k y.n y.t = .agg #[.int .i64 T, .int .i64 ge, .string ⟨#[]⟩])
    (e2 : testV 2 x.k x.n x.t y.k y.n y.t = .agg #[.int .i64 T, .int .i64 ne, .string ⟨#[]⟩]) (e4 : testV 4 x.k x.n x.t y.k y.n y.t = .agg #[.int .i64 T, .int .i64 le, .string ⟨#[]⟩])
    (n3 : notV T lt = .agg #[.int .i64 T, .int .i64 ge, .string ⟨#[]⟩]) (n1 : notV T eq = .agg #[.int .i64 T, .int .i64 ne, .string ⟨#[]⟩]) (n5 : notV T gt = .agg #[.int .i64 T, .int .i64 le, .string ⟨#[]⟩])
    (hfin : (T = 0 ∧ (x.k = 0 ∨ x.k ≠ y.k)) ∨ (T = 1 ∧ x.k ≠ 0 ∧ x.k = y.k ∧ 0 ≤ lt ∧ lt ≤ 1 ∧ 0 ≤ eq ∧ eq ≤ 1 ∧ 0 ≤ gt ∧ gt ≤ 1 ∧ lt + eq + gt = 1)) :
    Calls Try.prog 10 #[.agg #[.int .i64 x.k, .int .i64 x.n, .string x.t], .agg #[.int .i64 y.k, .int .i64 y.n, .string y.t]] w fun e w' => e = .returned (.bool true) ∧ Grows w w' := by
  have HX := hidden (fun w => rvvalid_any x.k x.n x.t w)
  have HY := hidden (fun w => rvvalid_any y.k y.n y.t w)
  rw [hvx] at HX
  rw [hvy] at HY
  have H := hidden (fun op w => ltest_any op x.k x.n y.k y.n x.t y.t w)
  have HEQ := hidden (fun op => ltestV_eq (op := op) hvx hvy)
  have H3 := hidden (fun w => H.out 3 w)
  have H1 := hidden (fun w => H.out 1 w)
  have H5 := hidden (fun w => H.out 5 w)
  have H6 := hidden (fun w => H.out 6 w)
  have H2 := hidden (fun w => H.out 2 w)
  have H4 := hidden (fun w => H.out 4 w)
  rw [HEQ.out, e3] at H3
  rw [HEQ.out, e1] at H1
  rw [HEQ.out, e5] at H5
  rw [HEQ.out, e6] at H6
  rw [HEQ.out, e2] at H2
  rw [HEQ.out, e4] at H4
  have N3 := hidden (fun w => lnot_any T lt ⟨#[]⟩ w)
  have N1 := hidden (fun w => lnot_any T eq ⟨#[]⟩ w)
  have N5 := hidden (fun w => lnot_any T gt ⟨#[]⟩ w)
  rw [n3] at N3
  rw [n1] at N1
  rw [n5] at N5
  have HFIN := hidden hfin
  have HG0 := hidden (grow2 (w := w) (.cells #[.int .i64 x.k, .int .i64 x.n, .string x.t] 23) (.cells #[.int .i64 y.k, .int .i64 y.n, .string y.t] 23))
  have HC0 := hidden ((valRow w (.int .i64 x.k) (.int .i64 x.n) (.string x.t)).grow (grow1 (.cells #[.int .i64 y.k, .int .i64 y.n, .string y.t] 23)))
  have HD0 := hidden (valRow2 w _ (.cells #[.int .i64 x.k, .int .i64 x.n, .string x.t] 23) (.int .i64 y.k) (.int .i64 y.n) (.string y.t) (Below.refl _ _))
  clear e1 e2 e3 e4 e5 e6 n1 n3 n5 hfin hvx hvy H HEQ
  go_enter Try.func10, Try.ntmps10
  go_wp2_with fail
  refine (HX.out _).mono ?_
  rintro e w2 ⟨rfl, g2⟩
  have HG2 := hidden (HG0.out.of_below g2)
  have HC2 := hidden (HC0.out.grow g2)
  have HD2 := hidden (HD0.out.grow g2)
  obtain ⟨q1, q2, q3⟩ := rowCells HD2.out
  clear g2
  go_wp2_with fail
  refine (HY.out _).mono ?_
  rintro e w4 ⟨rfl, g4⟩
  have HG4 := hidden (HG2.out.of_below g4)
  have HC4 := hidden (HC2.out.grow g4)
  have HD4 := hidden (HD2.out.grow g4)
  clear g4 q1 q2 q3
  go_wp2_with fail
  refine wp_region_loose_tailD 12 [5, 6, 7] (tabRs [(2, ConstV (.agg #[.int .i64 T, .int .i64 lt, .string ⟨#[]⟩])), (5, ConstV (.agg #[.int .i64 T, .int .i64 eq, .string ⟨#[]⟩])), (8, ConstV (.agg #[.int .i64 T, .int .i64 gt, .string ⟨#[]⟩])), (9, NewV w4.heap.size), (10, NewV w4.heap.size), (11, NewV w4.heap.size)]) (by kernel_rfl) (by kernel_rfl)
    (tabRs_cons ConstV.lasts (tabRs_cons ConstV.lasts (tabRs_cons ConstV.lasts (tabRs_cons NewV.lasts (tabRs_cons NewV.lasts (tabRs_cons NewV.lasts tabRs_nil)))))) (makes_of (by kernel_rfl)) ?_ ?_
  · intro t ht A hA
    simp only [List.mem_cons, List.not_mem_nil, or_false] at ht
    rcases ht with rfl | rfl | rfl <;> exact absurd hA (by simp [undef])
  simp only [List.take_succ_cons, List.take_zero, List.drop_succ_cons, List.drop_zero]
  iterate 2 ((with_reducible refine loose_one (v := ?_) (a' := ?_) ?_ ?_ (fun w' hC' hG' => ?_) ?_ ?_); rotate_left 2; (focus rfl); (focus rfl); (focus (obtain ⟨q1, q2, q3⟩ := rowCells (HC4.out.grow hC'); obtain ⟨r1, r2, r3⟩ := rowCells (HD4.out.grow hC'); clear hC' hG'; go_simp; rfl)); (focus (go_simp; rfl)))
  refine loose_call (R := ConstV (.agg #[.int .i64 T, .int .i64 lt, .string ⟨#[]⟩])) (f := 21) (args := #[.int .i64 3, .agg #[.int .i64 x.k, .int .i64 x.n, .string x.t], .agg #[.int .i64 y.k, .int .i64 y.n, .string y.t]]) (by rfl) (by rfl) (fun _ => by go_simp) (fun w' hC' hG' => const_loose (H3.out w')) ?_
  rintro _ ⟨_, _, rfl⟩
  refine ⟨?_, ?_, ?_⟩
  rotate_left
  · go_simp
    rfl
  iterate 2 ((with_reducible refine loose_one (v := ?_) (a' := ?_) ?_ ?_ (fun w' hC' hG' => ?_) ?_ ?_); rotate_left 2; (focus rfl); (focus rfl); (focus (obtain ⟨q1, q2, q3⟩ := rowCells (HC4.out.grow hC'); obtain ⟨r1, r2, r3⟩ := rowCells (HD4.out.grow hC'); clear hC' hG'; go_simp; rfl)); (focus (go_simp; rfl)))
  refine loose_call (R := ConstV (.agg #[.int .i64 T, .int .i64 eq, .string ⟨#[]⟩])) (f := 21) (args := #[.int .i64 1, .agg #[.int .i64 x.k, .int .i64 x.n, .string x.t], .agg #[.int .i64 y.k, .int .i64 y.n, .string y.t]]) (by rfl) (by rfl) (fun _ => by go_simp) (fun w' hC' hG' => const_loose (H1.out w')) ?_
  rintro _ ⟨_, _, rfl⟩
  refine ⟨?_, ?_, ?_⟩
  rotate_left
  · go_simp
    rfl
  iterate 2 ((with_reducible refine loose_one (v := ?_) (a' := ?_) ?_ ?_ (fun w' hC' hG' => ?_) ?_ ?_); rotate_left 2; (focus rfl); (focus rfl); (focus (obtain ⟨q1, q2, q3⟩ := rowCells (HC4.out.grow hC'); obtain ⟨r1, r2, r3⟩ := rowCells (HD4.out.grow hC'); clear hC' hG'; go_simp; rfl)); (focus (go_simp; rfl)))
  refine loose_call (R := ConstV (.agg #[.int .i64 T, .int .i64 gt, .string ⟨#[]⟩])) (f := 21) (args := #[.int .i64 5, .agg #[.int .i64 x.k, .int .i64 x.n, .string x.t], .agg #[.int .i64 y.k, .int .i64 y.n, .string y.t]]) (by rfl) (by rfl) (fun _ => by go_simp) (fun w' hC' hG' => const_loose (H5.out w')) ?_
  rintro _ ⟨_, _, rfl⟩
  refine ⟨?_, ?_, ?_⟩
  rotate_left
  · go_simp
    rfl
  refine loose_new (R := NewV w4.heap.size) (by rfl) (by rfl) (fun w' hC' hG' => ?_) ?_
  · refine ⟨.pointer (some ⟨w'.heap.size, 0, none⟩), w'.alloc (.cells #[.int .i64 0, .int .i64 0, .string ⟨#[]⟩] 23), ?_, (Below.refl _ _).alloc (Nat.le_refl _) _, new_val _ _ hC'.size⟩
    first | rfl | go_simp
  rintro _ ⟨_, _, b9, rfl, hb9, _⟩
  refine ⟨?_, ?_, ?_⟩
  rotate_left
  · go_simp
    rfl
  refine loose_new (R := NewV w4.heap.size) (by rfl) (by rfl) (fun w' hC' hG' => ?_) ?_
  · refine ⟨.pointer (some ⟨w'.heap.size, 0, none⟩), w'.alloc (.cells #[.int .i64 0, .int .i64 0, .string ⟨#[]⟩] 23), ?_, (Below.refl _ _).alloc (Nat.le_refl _) _, new_val _ _ hC'.size⟩
    first | rfl | go_simp
  rintro _ ⟨_, _, b10, rfl, hb10, _⟩
  refine ⟨?_, ?_, ?_⟩
  rotate_left
  · go_simp
    rfl
  refine loose_new (R := NewV w4.heap.size) (by rfl) (by rfl) (fun w' hC' hG' => ?_) ?_
  · refine ⟨.pointer (some ⟨w'.heap.size, 0, none⟩), w'.alloc (.cells #[.int .i64 0, .int .i64 0, .string ⟨#[]⟩] 23), ?_, (Below.refl _ _).alloc (Nat.le_refl _) _, new_val _ _ hC'.size⟩
    first | rfl | go_simp
  rintro _ ⟨_, _, b11, rfl, hb11, _⟩
  refine ⟨?_, ?_, ?_⟩
  rotate_left
  · go_simp
    rfl
  refine loose_done (fun w5 hC' hG' hdist => ?_)
  have f9 := (hG' 9).1.1.2 rfl
  have f10 := (hG' 10).1.2 rfl
  have f11 := (hG' 11).2 rfl
  clear hG'
  obtain ⟨c9, he9, _, hr9⟩ := f9
  obtain ⟨c10, he10, _, hr10⟩ := f10
  obtain ⟨c11, he11, _, hr11⟩ := f11
  injection he9 with he9
  injection he9 with he9
  injection he9 with he9
  injection he10 with he10
  injection he10 with he10
  injection he10 with he10
  injection he11 with he11
  injection he11 with he11
  injection he11 with he11
  subst he9 he10 he11
  have d1 : b10 ≠ b9 := (hdist 5 (by simp) ⟨b9, 0, none⟩ rfl).2 6 (by simp) (by decide) ⟨b10, 0, none⟩ rfl
  have d2 : b11 ≠ b9 := (hdist 5 (by simp) ⟨b9, 0, none⟩ rfl).2 7 (by simp) (by decide) ⟨b11, 0, none⟩ rfl
  have d3 : b11 ≠ b10 := (hdist 6 (by simp) ⟨b10, 0, none⟩ rfl).2 7 (by simp) (by decide) ⟨b11, 0, none⟩ rfl
  clear hdist
  have hlt1 : w.heap.size < w4.heap.size := HC4.out.lt
  have hlt2 : w.heap.size + 1 < w4.heap.size := HD4.out.lt
  have HR9 := hidden hr9
  have HR10 := hidden hr10
  have HR11 := hidden hr11
  have HX5 := hidden (HC4.out.grow hC')
  have HY5 := hidden (HD4.out.grow hC')
  have HG5 := hidden (HG4.out.of_below hC')
  clear hC' hr9 hr10 hr11
  refine wpList_store_val rfl _ _ rfl b9 rfl T lt ⟨#[]⟩ rfl HR9.out ?_
  refine wpList_store_val rfl _ _ rfl b10 rfl T eq ⟨#[]⟩ rfl (rowSet_other HR10.out d1) ?_
  refine wpList_store_val rfl _ _ rfl b11 rfl T gt ⟨#[]⟩ rfl (rowSet_other (rowSet_other HR11.out d2) d3) ?_
  have S9 := hidden (rowSet_other (g' := b11) (cs := #[.int .i64 T, .int .i64 gt, .string ⟨#[]⟩]) (rowSet_other (g' := b10) (cs := #[.int .i64 T, .int .i64 eq, .string ⟨#[]⟩]) (valSet_row HR9.out [.int .i64 T, .int .i64 lt, .string ⟨#[]⟩]) (Ne.symm d1)) (Ne.symm d2))
  have S10 := hidden (rowSet_other (g' := b11) (cs := #[.int .i64 T, .int .i64 gt, .string ⟨#[]⟩]) (valSet_row (rowSet_other (g' := b9) (cs := #[.int .i64 T, .int .i64 lt, .string ⟨#[]⟩]) HR10.out d1) [.int .i64 T, .int .i64 eq, .string ⟨#[]⟩]) (Ne.symm d3))
  have S11 := hidden (valSet_row (rowSet_other (g' := b10) (cs := #[.int .i64 T, .int .i64 eq, .string ⟨#[]⟩]) (rowSet_other (g' := b9) (cs := #[.int .i64 T, .int .i64 lt, .string ⟨#[]⟩]) HR11.out d2) d3) [.int .i64 T, .int .i64 gt, .string ⟨#[]⟩])
  have SX := hidden (rowSet_other (g' := b11) (cs := #[.int .i64 T, .int .i64 gt, .string ⟨#[]⟩]) (rowSet_other (g' := b10) (cs := #[.int .i64 T, .int .i64 eq, .string ⟨#[]⟩]) (rowSet_other (g' := b9) (cs := #[.int .i64 T, .int .i64 lt, .string ⟨#[]⟩]) HX5.out (by omega)) (by omega)) (by omega))
  have SY := hidden (rowSet_other (g' := b11) (cs := #[.int .i64 T, .int .i64 gt, .string ⟨#[]⟩]) (rowSet_other (g' := b10) (cs := #[.int .i64 T, .int .i64 eq, .string ⟨#[]⟩]) (rowSet_other (g' := b9) (cs := #[.int .i64 T, .int .i64 lt, .string ⟨#[]⟩]) HY5.out (by omega)) (by omega)) (by omega))
  have HG6 := hidden (valSet_below (valSet_below (valSet_below HG5.out (g := b9) (by omega) #[.int .i64 T, .int .i64 lt, .string ⟨#[]⟩]) (g := b10) (by omega) #[.int .i64 T, .int .i64 eq, .string ⟨#[]⟩]) (g := b11) (by omega) #[.int .i64 T, .int .i64 gt, .string ⟨#[]⟩])
  clear HR9 HR10 HR11 HX5 HY5 HG5 hb9 hb10 hb11 d1 d2 d3 hlt1 hlt2
  have e9 : ([.int .i64 T, .int .i64 lt, .string ⟨#[]⟩] : List Value).toArray = #[.int .i64 T, .int .i64 lt, .string ⟨#[]⟩] := rfl
  have e10 : ([.int .i64 T, .int .i64 eq, .string ⟨#[]⟩] : List Value).toArray = #[.int .i64 T, .int .i64 eq, .string ⟨#[]⟩] := rfl
  have e11 : ([.int .i64 T, .int .i64 gt, .string ⟨#[]⟩] : List Value).toArray = #[.int .i64 T, .int .i64 gt, .string ⟨#[]⟩] := rfl
  rw [e9] at S9
  rw [e10] at S10
  rw [e11] at S11
  clear e9 e10 e11
  generalize (((w5.setRow b9 #[.int .i64 T, .int .i64 lt, .string ⟨#[]⟩]).setRow b10 #[.int .i64 T, .int .i64 eq, .string ⟨#[]⟩]).setRow b11 #[.int .i64 T, .int .i64 gt, .string ⟨#[]⟩]) = w6 at *
  go_wp2_with fail
  refine wp_region_loose (constRs [(2, .agg #[.int .i64 T, .int .i64 ge, .string ⟨#[]⟩]), (4, .agg #[.int .i64 T, .int .i64 ge, .string ⟨#[]⟩]), (9, .agg #[.int .i64 T, .int .i64 ne, .string ⟨#[]⟩]), (11, .agg #[.int .i64 T, .int .i64 ne, .string ⟨#[]⟩]), (17, .agg #[.int .i64 T, .int .i64 le, .string ⟨#[]⟩]), (19, .agg #[.int .i64 T, .int .i64 le, .string ⟨#[]⟩])]) (by kernel_rfl) (by kernel_rfl) (constRs_lasts _) ?_
  iterate 2 ((with_reducible refine loose_one (v := ?_) (a' := ?_) ?_ ?_ (fun w' hC' hG' => ?_) ?_ ?_); rotate_left 2; (focus rfl); (focus rfl); (focus (obtain ⟨q1, q2, q3⟩ := rowCells (SX.out.grow hC'); obtain ⟨r1, r2, r3⟩ := rowCells (SY.out.grow hC'); obtain ⟨s1, s2, s3⟩ := rowCells (S9.out.grow hC'); obtain ⟨t1, t2, t3⟩ := rowCells (S10.out.grow hC'); obtain ⟨u1, u2, u3⟩ := rowCells (S11.out.grow hC'); clear hC' hG'; go_simp; rfl)); (focus (go_simp; rfl)))
  refine loose_call (R := ConstV (.agg #[.int .i64 T, .int .i64 ge, .string ⟨#[]⟩])) (f := 21) (args := #[.int .i64 6, .agg #[.int .i64 x.k, .int .i64 x.n, .string x.t], .agg #[.int .i64 y.k, .int .i64 y.n, .string y.t]]) (by rfl) (by rfl) (fun _ => by go_simp) (fun w' hC' hG' => const_loose (H6.out w')) ?_
  rintro _ ⟨_, _, rfl⟩
  refine ⟨?_, ?_, ?_⟩
  rotate_left
  · go_simp
    rfl
  iterate 1 ((with_reducible refine loose_one (v := ?_) (a' := ?_) ?_ ?_ (fun w' hC' hG' => ?_) ?_ ?_); rotate_left 2; (focus rfl); (focus rfl); (focus (obtain ⟨q1, q2, q3⟩ := rowCells (SX.out.grow hC'); obtain ⟨r1, r2, r3⟩ := rowCells (SY.out.grow hC'); obtain ⟨s1, s2, s3⟩ := rowCells (S9.out.grow hC'); obtain ⟨t1, t2, t3⟩ := rowCells (S10.out.grow hC'); obtain ⟨u1, u2, u3⟩ := rowCells (S11.out.grow hC'); clear hC' hG'; go_simp; rfl)); (focus (go_simp; rfl)))
  refine loose_call (R := ConstV (.agg #[.int .i64 T, .int .i64 ge, .string ⟨#[]⟩])) (f := 33) (args := #[.agg #[.int .i64 T, .int .i64 lt, .string ⟨#[]⟩]]) (by rfl) (by rfl) (fun _ => by go_simp) (fun w' hC' hG' => const_loose (N3.out w')) ?_
  rintro _ ⟨_, _, rfl⟩
  refine ⟨?_, ?_, ?_⟩
  rotate_left
  · go_simp
    rfl
  iterate 4 ((with_reducible refine loose_one (v := ?_) (a' := ?_) ?_ ?_ (fun w' hC' hG' => ?_) ?_ ?_); rotate_left 2; (focus rfl); (focus rfl); (focus (obtain ⟨q1, q2, q3⟩ := rowCells (SX.out.grow hC'); obtain ⟨r1, r2, r3⟩ := rowCells (SY.out.grow hC'); obtain ⟨s1, s2, s3⟩ := rowCells (S9.out.grow hC'); obtain ⟨t1, t2, t3⟩ := rowCells (S10.out.grow hC'); obtain ⟨u1, u2, u3⟩ := rowCells (S11.out.grow hC'); clear hC' hG'; go_simp; rfl)); (focus (go_simp; rfl)))
  refine loose_call (R := ConstV (.agg #[.int .i64 T, .int .i64 ne, .string ⟨#[]⟩])) (f := 21) (args := #[.int .i64 2, .agg #[.int .i64 x.k, .int .i64 x.n, .string x.t], .agg #[.int .i64 y.k, .int .i64 y.n, .string y.t]]) (by rfl) (by rfl) (fun _ => by go_simp) (fun w' hC' hG' => const_loose (H2.out w')) ?_
  rintro _ ⟨_, _, rfl⟩
  refine ⟨?_, ?_, ?_⟩
  rotate_left
  · go_simp
    rfl
  iterate 1 ((with_reducible refine loose_one (v := ?_) (a' := ?_) ?_ ?_ (fun w' hC' hG' => ?_) ?_ ?_); rotate_left 2; (focus rfl); (focus rfl); (focus (obtain ⟨q1, q2, q3⟩ := rowCells (SX.out.grow hC'); obtain ⟨r1, r2, r3⟩ := rowCells (SY.out.grow hC'); obtain ⟨s1, s2, s3⟩ := rowCells (S9.out.grow hC'); obtain ⟨t1, t2, t3⟩ := rowCells (S10.out.grow hC'); obtain ⟨u1, u2, u3⟩ := rowCells (S11.out.grow hC'); clear hC' hG'; go_simp; rfl)); (focus (go_simp; rfl)))
  refine loose_call (R := ConstV (.agg #[.int .i64 T, .int .i64 ne, .string ⟨#[]⟩])) (f := 33) (args := #[.agg #[.int .i64 T, .int .i64 eq, .string ⟨#[]⟩]]) (by rfl) (by rfl) (fun _ => by go_simp) (fun w' hC' hG' => const_loose (N1.out w')) ?_
  rintro _ ⟨_, _, rfl⟩
  refine ⟨?_, ?_, ?_⟩
  rotate_left
  · go_simp
    rfl
  iterate 5 ((with_reducible refine loose_one (v := ?_) (a' := ?_) ?_ ?_ (fun w' hC' hG' => ?_) ?_ ?_); rotate_left 2; (focus rfl); (focus rfl); (focus (obtain ⟨q1, q2, q3⟩ := rowCells (SX.out.grow hC'); obtain ⟨r1, r2, r3⟩ := rowCells (SY.out.grow hC'); obtain ⟨s1, s2, s3⟩ := rowCells (S9.out.grow hC'); obtain ⟨t1, t2, t3⟩ := rowCells (S10.out.grow hC'); obtain ⟨u1, u2, u3⟩ := rowCells (S11.out.grow hC'); clear hC' hG'; go_simp; rfl)); (focus (go_simp; rfl)))
  refine loose_call (R := ConstV (.agg #[.int .i64 T, .int .i64 le, .string ⟨#[]⟩])) (f := 21) (args := #[.int .i64 4, .agg #[.int .i64 x.k, .int .i64 x.n, .string x.t], .agg #[.int .i64 y.k, .int .i64 y.n, .string y.t]]) (by rfl) (by rfl) (fun _ => by go_simp) (fun w' hC' hG' => const_loose (H4.out w')) ?_
  rintro _ ⟨_, _, rfl⟩
  refine ⟨?_, ?_, ?_⟩
  rotate_left
  · go_simp
    rfl
  iterate 1 ((with_reducible refine loose_one (v := ?_) (a' := ?_) ?_ ?_ (fun w' hC' hG' => ?_) ?_ ?_); rotate_left 2; (focus rfl); (focus rfl); (focus (obtain ⟨q1, q2, q3⟩ := rowCells (SX.out.grow hC'); obtain ⟨r1, r2, r3⟩ := rowCells (SY.out.grow hC'); obtain ⟨s1, s2, s3⟩ := rowCells (S9.out.grow hC'); obtain ⟨t1, t2, t3⟩ := rowCells (S10.out.grow hC'); obtain ⟨u1, u2, u3⟩ := rowCells (S11.out.grow hC'); clear hC' hG'; go_simp; rfl)); (focus (go_simp; rfl)))
  refine loose_call (R := ConstV (.agg #[.int .i64 T, .int .i64 le, .string ⟨#[]⟩])) (f := 33) (args := #[.agg #[.int .i64 T, .int .i64 gt, .string ⟨#[]⟩]]) (by rfl) (by rfl) (fun _ => by go_simp) (fun w' hC' hG' => const_loose (N5.out w')) ?_
  rintro _ ⟨_, _, rfl⟩
  refine ⟨?_, ?_, ?_⟩
  rotate_left
  · go_simp
    rfl
  iterate 2 ((with_reducible refine loose_one (v := ?_) (a' := ?_) ?_ ?_ (fun w' hC' hG' => ?_) ?_ ?_); rotate_left 2; (focus rfl); (focus rfl); (focus (obtain ⟨q1, q2, q3⟩ := rowCells (SX.out.grow hC'); obtain ⟨r1, r2, r3⟩ := rowCells (SY.out.grow hC'); obtain ⟨s1, s2, s3⟩ := rowCells (S9.out.grow hC'); obtain ⟨t1, t2, t3⟩ := rowCells (S10.out.grow hC'); obtain ⟨u1, u2, u3⟩ := rowCells (S11.out.grow hC'); clear hC' hG'; go_simp; rfl)); (focus (go_simp; rfl)))
  refine loose_done (fun w7 hC' hG' => ?_)
  clear hG'
  obtain ⟨q1, q2, q3⟩ := rowCells (SX.out.grow hC')
  obtain ⟨r1, r2, r3⟩ := rowCells (SY.out.grow hC')
  obtain ⟨s1, s2, s3⟩ := rowCells (S9.out.grow hC')
  obtain ⟨t1, t2, t3⟩ := rowCells (S10.out.grow hC')
  obtain ⟨u1, u2, u3⟩ := rowCells (S11.out.grow hC')
  have HG7 := hidden (Grows.of_below HG6.out hC')
  clear hC'
  rcases HFIN.out with ⟨hT, hk⟩ | ⟨hT, hk0, hkk, l0, l1, m0, m1, k0, k1, hsum⟩
  · subst hT
    rcases hk with hk | hk
    · have hk1 : (x.k == 0) = true := by simpa using hk
      clear hk
      go_wp2_with fail
      refine (awake_any _).mono ?_
      rintro e w8 ⟨rfl, g8⟩
      have HG8 := hidden (HG7.out.of_below g8)
      clear g8
      go_wp2_with fail
      go_ret
      exact ⟨rfl, HG8.out⟩
    · by_cases hk0 : x.k = 0
      · have hk1 : (x.k == 0) = true := by simpa using hk0
        clear hk hk0
        go_wp2_with fail
        refine (awake_any _).mono ?_
        rintro e w8 ⟨rfl, g8⟩
        have HG8 := hidden (HG7.out.of_below g8)
        clear g8
        go_wp2_with fail
        go_ret
        exact ⟨rfl, HG8.out⟩
      · have hk1 : (x.k == 0) = false := by simpa using hk0
        have hk2 : (x.k != y.k) = true := by simpa using hk
        clear hk hk0
        go_wp2_with fail
        refine (awake_any _).mono ?_
        rintro e w8 ⟨rfl, g8⟩
        have HG8 := hidden (HG7.out.of_below g8)
        clear g8
        go_wp2_with fail
        go_ret
        exact ⟨rfl, HG8.out⟩
  · subst hT
    have hk1 : (x.k == 0) = false := by simpa using hk0
    have hk2 : (x.k != y.k) = false := by simpa using hkk
    have hs : (lt + eq + gt == 1) = true := by simpa using hsum
    clear hk0 hkk hsum
    go_wp2_with fail
    refine (awake_any _).mono ?_
    rintro e w8 ⟨rfl, g8⟩
    have HG8 := hidden (HG7.out.of_below g8)
    clear g8
    go_wp2_with fail
    go_ret
    exact ⟨rfl, HG8.out⟩
theorem law_complements (x y : Val) (w : World) : Calls Try.prog 10 #[.agg #[.int .i64 x.k, .int .i64 x.n, .string x.t], .agg #[.int .i64 y.k, .int .i64 y.n, .string y.t]] w fun e w' => e = .returned (.bool true) ∧ Grows w w' := by
  have HX := hidden (fun w => rvvalid_any x.k x.n x.t w)
  have HY := hidden (fun w => rvvalid_any y.k y.n y.t w)
  have HG0 := hidden (grow2 (w := w) (.cells #[.int .i64 x.k, .int .i64 x.n, .string x.t] 23) (.cells #[.int .i64 y.k, .int .i64 y.n, .string y.t] 23))
  have HD0 := hidden (valRow2 w _ (.cells #[.int .i64 x.k, .int .i64 x.n, .string x.t] 23) (.int .i64 y.k) (.int .i64 y.n) (.string y.t) (Below.refl _ _))
  cases hbx : validV x.k x.n x.t
  · rw [hbx] at HX
    clear hbx
    go_enter Try.func10, Try.ntmps10
    go_wp2_with fail
    refine (HX.out _).mono ?_
    rintro e w2 ⟨rfl, g2⟩
    have HG2 := hidden (HG0.out.of_below g2)
    clear g2
    go_wp2_with fail
    refine (awake_any _).mono ?_
    rintro e w8 ⟨rfl, g8⟩
    have HG8 := hidden (HG2.out.of_below g8)
    clear g8
    go_wp2_with fail
    go_ret
    exact ⟨rfl, HG8.out⟩
  cases hby : validV y.k y.n y.t
  · rw [hbx] at HX
    rw [hby] at HY
    clear hbx hby
    go_enter Try.func10, Try.ntmps10
    go_wp2_with fail
    refine (HX.out _).mono ?_
    rintro e w2 ⟨rfl, g2⟩
    have HG2 := hidden (HG0.out.of_below g2)
    have HD2 := hidden (HD0.out.grow g2)
    obtain ⟨q1, q2, q3⟩ := rowCells HD2.out
    clear g2
    go_wp2_with fail
    refine (HY.out _).mono ?_
    rintro e w4 ⟨rfl, g4⟩
    have HG4 := hidden (HG2.out.of_below g4)
    clear g4 q1 q2 q3
    go_wp2_with fail
    refine (awake_any _).mono ?_
    rintro e w8 ⟨rfl, g8⟩
    have HG8 := hidden (HG4.out.of_below g8)
    clear g8
    go_wp2_with fail
    go_ret
    exact ⟨rfl, HG8.out⟩
  clear HX HY HG0 HD0
  by_cases hc : x.k = 0 ∨ x.k ≠ y.k
  · have e : ∀ op, testV op x.k x.n x.t y.k y.n y.t = nullV := fun op => if_pos (by rcases hc with h | h; exact .inl h; exact .inr (.inl h))
    exact compl_core x y w hbx hby 0 0 0 0 0 0 0 (e 3) (e 1) (e 5) (e 6) (e 2) (e 4) rfl rfl rfl (.inl ⟨rfl, hc⟩)
  · have hk0 : x.k ≠ 0 := fun h => hc (.inl h)
    have hkk : x.k = y.k := by rcases Int.decEq x.k y.k with h | h; exact absurd (.inr h) hc; exact h
    have e : ∀ op, 1 ≤ op → op ≤ 6 → testV op x.k x.n x.t y.k y.n y.t = boolV (holdsV op (cmpV x.k x.n x.t y.k y.n y.t)) := fun op h1 h2 => if_neg (by rintro (h | h | h | h); exact hk0 h; exact h hkk; omega; omega)
    have e1 := e 1 (by omega) (by omega)
    have e2 := e 2 (by omega) (by omega)
    have e3 := e 3 (by omega) (by omega)
    have e4 := e 4 (by omega) (by omega)
    have e5 := e 5 (by omega) (by omega)
    have e6 := e 6 (by omega) (by omega)
    clear e
    generalize cmpV x.k x.n x.t y.k y.n y.t = c at *
    rcases (show c < 0 ∨ c = 0 ∨ 0 < c by omega) with h | h | h
    · rw [show holdsV 1 c = false by show (c == 0) = false; simp; omega] at e1
      rw [show holdsV 2 c = true by show (c != 0) = true; simp; omega] at e2
      rw [show holdsV 3 c = true by show decide (c < 0) = true; simp; omega] at e3
      rw [show holdsV 4 c = true by show decide (c ≤ 0) = true; simp; omega] at e4
      rw [show holdsV 5 c = false by show decide (0 < c) = false; simp; omega] at e5
      rw [show holdsV 6 c = false by show decide (0 ≤ c) = false; simp; omega] at e6
      exact compl_core x y w hbx hby 1 1 0 0 0 1 1 e3 e1 e5 e6 e2 e4 rfl rfl rfl (.inr ⟨rfl, hk0, hkk, by omega, by omega, by omega, by omega, by omega, by omega, by omega⟩)
    · subst h
      exact compl_core x y w hbx hby 1 0 1 0 1 0 1 e3 e1 e5 e6 e2 e4 rfl rfl rfl (.inr ⟨rfl, hk0, hkk, by omega, by omega, by omega, by omega, by omega, by omega, by omega⟩)
    · rw [show holdsV 1 c = false by show (c == 0) = false; simp; omega] at e1
      rw [show holdsV 2 c = true by show (c != 0) = true; simp; omega] at e2
      rw [show holdsV 3 c = false by show decide (c < 0) = false; simp; omega] at e3
      rw [show holdsV 4 c = false by show decide (c ≤ 0) = false; simp; omega] at e4
      rw [show holdsV 5 c = true by show decide (0 < c) = true; simp; omega] at e5
      rw [show holdsV 6 c = true by show decide (0 ≤ c) = true; simp; omega] at e6
      exact compl_core x y w hbx hby 1 0 0 1 1 1 0 e3 e1 e5 e6 e2 e4 rfl rfl rfl (.inr ⟨rfl, hk0, hkk, by omega, by omega, by omega, by omega, by omega, by omega, by omega⟩)
end Go.Proofs.Ytepnegbopnepfaa
