/-
  The walk of the law ValueLogic: it returns true for every row and two values; nothing that was there is changed.
-/
import Derived.Test.YtepnegbopnepfaaLwHashes
import Derived.Test.YtepnegbopnepfaaLv5
namespace Go.Proofs.Ytepnegbopnepfaa
open Go.RowKit
set_option linter.unusedVariables false
set_option linter.unusedSimpArgs false

def notVal (x : Val) : Val := if x.k = 1 then ⟨1, if x.n == 0 then 1 else 0, ⟨#[]⟩⟩ else ⟨0, 0, ⟨#[]⟩⟩
def decVal (d : Int) (l : List Val) : Val := if l.any (decHit d) then ⟨1, d, ⟨#[]⟩⟩ else ⟨resK (l.any nonB), resN d (l.any nonB), ⟨#[]⟩⟩
theorem notV_eq (x : Val) : notV x.k x.n = .agg #[.int .i64 (notVal x).k, .int .i64 (notVal x).n, .string ⟨#[]⟩] := by
  unfold notV notVal
  split
  · rfl
  · rfl
theorem decL_eq (d : Int) (l : List Val) : decL d l = .agg #[.int .i64 (decVal d l).k, .int .i64 (decVal d l).n, .string ⟨#[]⟩] := by
  unfold decL decVal
  split
  · rfl
  · rfl
theorem notVal_t (x : Val) : (notVal x).t = ⟨#[]⟩ := by unfold notVal; split <;> rfl
/-- a value is false, true or neither -/
theorem three {x : Val} (h : validV x.k x.n x.t = true) : (x.k = 1 ∧ x.n = 0) ∨ (x.k = 1 ∧ x.n = 1) ∨ x.k ≠ 1 := by
  by_cases hk : x.k = 1
  · rcases valid_bool h hk with hn | hn
    · exact .inl ⟨hk, hn⟩
    · exact .inr (.inl ⟨hk, hn⟩)
  · exact .inr (.inr hk)
theorem morgan {x y : Val} (hx : validV x.k x.n x.t = true) (hy : validV y.k y.n y.t = true) :
    notVal (decVal 0 [x, y]) = decVal 1 [notVal x, notVal y] ∧ notVal (decVal 1 [x, y]) = decVal 0 [notVal x, notVal y] := by
  rcases three hx with ⟨a1, a2⟩ | ⟨a1, a2⟩ | a1 <;> rcases three hy with ⟨b1, b2⟩ | ⟨b1, b2⟩ | b1 <;>
    simp [notVal, decVal, decHit, nonB, resK, resN, a1, b1, *]
theorem ReadsV.two {w : World} {x y : Val} : ReadsV (w.alloc (.cells #[.int .i64 x.k, .int .i64 x.n, .string x.t, .int .i64 y.k, .int .i64 y.n, .string y.t] 23)) (.slice (some ⟨w.heap.size, 0, none⟩) 2 2) [x, y] := by
  have hr : Row (w.alloc (.cells #[.int .i64 x.k, .int .i64 x.n, .string x.t, .int .i64 y.k, .int .i64 y.n, .string y.t] 23)) w.heap.size 23 [.int .i64 x.k, .int .i64 x.n, .string x.t, .int .i64 y.k, .int .i64 y.n, .string y.t] := Row.new w _ _ _ rfl
  refine ⟨_, 2, rfl, Nat.le_refl _, fun _ => ⟨w.heap.size, 0, rfl, fun j z hj => ?_⟩⟩
  match j, hj with
  | 0, hj => obtain rfl : x = z := by simpa using hj
             exact ⟨hr.cell 0, hr.cell 1, hr.cell 2⟩
  | 1, hj => obtain rfl : y = z := by simpa using hj
             exact ⟨hr.cell 3, hr.cell 4, hr.cell 5⟩
  | j + 2, hj => simp at hj
def ValsR (l : List Val) (v : Value) (w : World) : Prop := ReadsV w v l
theorem ValsR.lasts {l : List Val} : ∀ v w w', ValsR l v w → Grows w w' → ValsR l v w' := fun _ _ _ h hb => ReadsV.grow h hb
set_option maxHeartbeats 4000000 in
theorem law_logic (v : Value) (l : List Val) (x y : Val) (w : World) (hr : ReadsV w v l) (hl : l.length ≤ 9223372036854775806) : Calls Try.prog 6 #[v, .agg #[.int .i64 x.k, .int .i64 x.n, .string x.t], .agg #[.int .i64 y.k, .int .i64 y.n, .string y.t]] w fun e w' => e = .returned (.bool true) ∧ Grows w w' := by
  have HR := hidden hr
  have HV := hidden (fun w h => lawvalid_any v l w h hl)
  have HX := hidden (fun w => rvvalid_any x.k x.n x.t w)
  have HY := hidden (fun w => rvvalid_any y.k y.n y.t w)
  have HG0 := hidden (grow2 (w := w) (.cells #[.int .i64 x.k, .int .i64 x.n, .string x.t] 23) (.cells #[.int .i64 y.k, .int .i64 y.n, .string y.t] 23))
  have HC0 := hidden ((valRow w (.int .i64 x.k) (.int .i64 x.n) (.string x.t)).grow (grow1 (.cells #[.int .i64 y.k, .int .i64 y.n, .string y.t] 23)))
  have HD0 := hidden (valRow2 w _ (.cells #[.int .i64 x.k, .int .i64 x.n, .string x.t] 23) (.int .i64 y.k) (.int .i64 y.n) (.string y.t) (Below.refl _ _))
  obtain ⟨A, c, rfl, hle, hxx⟩ := hr
  clear hxx
  cases hb : validL l
  · rw [hb] at HV
    clear hb
    go_enter Try.func6, Try.ntmps6
    go_wp2_with fail
    refine (HV.out _ (HR.out.grow HG0.out)).mono ?_
    rintro e w2 ⟨rfl, g2⟩
    have HG2 := hidden (HG0.out.of_below g2)
    have HC2 := hidden (HC0.out.grow g2)
    have HD2 := hidden (HD0.out.grow g2)
    clear g2
    go_wp2_with fail
    refine (awake_any _).mono ?_
    rintro e w8 ⟨rfl, g8⟩
    have HG8 := hidden (HG2.out.of_below g8)
    clear g8
    go_wp2_with fail
    go_ret
    exact ⟨rfl, HG8.out⟩
  have hvl := hb
  rw [hb] at HV
  clear hb
  cases hb : validV x.k x.n x.t
  · rw [hb] at HX
    clear hb hvl
    go_enter Try.func6, Try.ntmps6
    go_wp2_with fail
    refine (HV.out _ (HR.out.grow HG0.out)).mono ?_
    rintro e w2 ⟨rfl, g2⟩
    have HG2 := hidden (HG0.out.of_below g2)
    have HC2 := hidden (HC0.out.grow g2)
    have HD2 := hidden (HD0.out.grow g2)
    clear g2
    obtain ⟨q1, q2, q3⟩ := rowCells HC2.out
    go_wp2_with fail
    refine (HX.out _).mono ?_
    rintro e w3 ⟨rfl, g3⟩
    have HG3 := hidden (HG2.out.of_below g3)
    have HC3 := hidden (HC2.out.grow g3)
    have HD3 := hidden (HD2.out.grow g3)
    clear g3 q1 q2 q3
    go_wp2_with fail
    refine (awake_any _).mono ?_
    rintro e w8 ⟨rfl, g8⟩
    have HG8 := hidden (HG3.out.of_below g8)
    clear g8
    go_wp2_with fail
    go_ret
    exact ⟨rfl, HG8.out⟩
  have hvx := hb
  rw [hb] at HX
  clear hb
  cases hb : validV y.k y.n y.t
  · rw [hb] at HY
    clear hb hvl hvx
    go_enter Try.func6, Try.ntmps6
    go_wp2_with fail
    refine (HV.out _ (HR.out.grow HG0.out)).mono ?_
    rintro e w2 ⟨rfl, g2⟩
    have HG2 := hidden (HG0.out.of_below g2)
    have HC2 := hidden (HC0.out.grow g2)
    have HD2 := hidden (HD0.out.grow g2)
    clear g2
    obtain ⟨q1, q2, q3⟩ := rowCells HC2.out
    go_wp2_with fail
    refine (HX.out _).mono ?_
    rintro e w3 ⟨rfl, g3⟩
    have HG3 := hidden (HG2.out.of_below g3)
    have HC3 := hidden (HC2.out.grow g3)
    have HD3 := hidden (HD2.out.grow g3)
    clear g3 q1 q2 q3
    obtain ⟨q1, q2, q3⟩ := rowCells HD3.out
    go_wp2_with fail
    refine (HY.out _).mono ?_
    rintro e w4 ⟨rfl, g4⟩
    have HG4 := hidden (HG3.out.of_below g4)
    have HC4 := hidden (fun w' (h : Grows w4 w') => rowCells ((HC3.out.grow g4).grow h))
    have HD4 := hidden (fun w' (h : Grows w4 w') => rowCells ((HD3.out.grow g4).grow h))
    clear g4 q1 q2 q3
    go_wp2_with fail
    refine (awake_any _).mono ?_
    rintro e w8 ⟨rfl, g8⟩
    have HG8 := hidden (HG4.out.of_below g8)
    clear g8
    go_wp2_with fail
    go_ret
    exact ⟨rfl, HG8.out⟩
  have hvy := hb
  rw [hb] at HY
  clear hb
  obtain ⟨hm1, hm2⟩ := morgan hvx hvy
  have H1 := hidden (fun w h => land_any (.slice A l.length c) l w h hl)
  have H2 := hidden (fun w h => rand4_any (.slice A l.length c) l w h hl)
  have H3 := hidden (fun w h => lor_any (.slice A l.length c) l w h hl)
  have H4 := hidden (fun w h => ror4_any (.slice A l.length c) l w h hl)
  rw [← decL_and hvl] at H2
  rw [← decL_or hvl] at H4
  rw [decL_eq] at H1 H2 H3 H4
  have H5 := hidden (fun w => lnot_any x.k x.n x.t w)
  have H6 := hidden (fun w => rnot4_any x.k x.n x.t w)
  have H7 := hidden (fun w => lnot_any y.k y.n y.t w)
  rw [notV_eq] at H5 H6 H7
  have H8 := hidden (fun v w h => land_any v [x, y] w h (by simp))
  have H9 := hidden (fun v w h => lor_any v [x, y] w h (by simp))
  have HA := hidden (fun v w h => land_any v [notVal x, notVal y] w h (by simp))
  have HB := hidden (fun v w h => lor_any v [notVal x, notVal y] w h (by simp))
  have HN8 := hidden (fun w => lnot_any (decVal 0 [x, y]).k (decVal 0 [x, y]).n ⟨#[]⟩ w)
  have HN9 := hidden (fun w => lnot_any (decVal 1 [x, y]).k (decVal 1 [x, y]).n ⟨#[]⟩ w)
  rw [decL_eq] at H8 H9 HA HB
  rw [notV_eq, hm1] at HN8
  rw [notV_eq, hm2] at HN9
  have HTX := hidden (notVal_t x)
  have HTY := hidden (notVal_t y)
  generalize decVal 0 [x, y] = z8 at *
  generalize decVal 1 [x, y] = z9 at *
  generalize decVal 0 [notVal x, notVal y] = za at *
  generalize decVal 1 [notVal x, notVal y] = zb at *
  generalize decVal 0 l = z1 at *
  generalize decVal 1 l = z3 at *
  generalize hnx : notVal x = nx at *
  generalize hny : notVal y = ny at *
  clear hm1 hm2 hnx hny hvl hvx hvy
  go_enter Try.func6, Try.ntmps6
  go_wp2_with fail
  refine (HV.out _ (HR.out.grow HG0.out)).mono ?_
  rintro e w2 ⟨rfl, g2⟩
  have HG2 := hidden (HG0.out.of_below g2)
  have HC2 := hidden (HC0.out.grow g2)
  have HD2 := hidden (HD0.out.grow g2)
  clear g2
  obtain ⟨q1, q2, q3⟩ := rowCells HC2.out
  go_wp2_with fail
  refine (HX.out _).mono ?_
  rintro e w3 ⟨rfl, g3⟩
  have HG3 := hidden (HG2.out.of_below g3)
  have HC3 := hidden (HC2.out.grow g3)
  have HD3 := hidden (HD2.out.grow g3)
  clear g3 q1 q2 q3
  obtain ⟨q1, q2, q3⟩ := rowCells HD3.out
  go_wp2_with fail
  refine (HY.out _).mono ?_
  rintro e w4 ⟨rfl, g4⟩
  have HG4 := hidden (HG3.out.of_below g4)
  have HC4 := hidden (fun w' (h : Grows w4 w') => rowCells ((HC3.out.grow g4).grow h))
  have HD4 := hidden (fun w' (h : Grows w4 w') => rowCells ((HD3.out.grow g4).grow h))
  clear g4 q1 q2 q3
  go_wp2_with fail
  refine wp_region_loose (tabRs [(1, ConstV (.agg #[.int .i64 z1.k, .int .i64 z1.n, .string ⟨#[]⟩])), (3, ConstV (.agg #[.int .i64 z1.k, .int .i64 z1.n, .string ⟨#[]⟩])), (7, ConstV (.agg #[.int .i64 z3.k, .int .i64 z3.n, .string ⟨#[]⟩])), (9, ConstV (.agg #[.int .i64 z3.k, .int .i64 z3.n, .string ⟨#[]⟩])), (14, ConstV (.agg #[.int .i64 nx.k, .int .i64 nx.n, .string ⟨#[]⟩])), (16, ConstV (.agg #[.int .i64 nx.k, .int .i64 nx.n, .string ⟨#[]⟩]))]) (by kernel_rfl) (by kernel_rfl) (tabRs_cons ConstV.lasts (tabRs_cons ConstV.lasts (tabRs_cons ConstV.lasts (tabRs_cons ConstV.lasts (tabRs_cons ConstV.lasts (tabRs_cons ConstV.lasts tabRs_nil)))))) ?_
  iterate 1 ((with_reducible refine loose_one (v := ?_) (a' := ?_) ?_ ?_ (fun w' hC' hG' => ?_) ?_ ?_); rotate_left 2; (focus rfl); (focus rfl); (focus (obtain ⟨q1, q2, q3⟩ := HC4.out w' hC'; obtain ⟨r1, r2, r3⟩ := HD4.out w' hC'; clear hC' hG'; go_simp; rfl)); (focus (go_simp; rfl)))
  refine loose_call (R := ConstV (.agg #[.int .i64 z1.k, .int .i64 z1.n, .string ⟨#[]⟩])) (f := 29) (args := #[.slice A l.length c]) (by rfl) (by rfl) (fun _ => by go_simp) (fun w' hC' hG' => const_loose (H1.out w' (HR.out.grow (HG4.out.of_below hC')))) ?_
  rintro _ ⟨_, _, rfl⟩
  refine ⟨?_, ?_, ?_⟩
  rotate_left
  · go_simp
    rfl
  iterate 1 ((with_reducible refine loose_one (v := ?_) (a' := ?_) ?_ ?_ (fun w' hC' hG' => ?_) ?_ ?_); rotate_left 2; (focus rfl); (focus rfl); (focus (obtain ⟨q1, q2, q3⟩ := HC4.out w' hC'; obtain ⟨r1, r2, r3⟩ := HD4.out w' hC'; clear hC' hG'; go_simp; rfl)); (focus (go_simp; rfl)))
  refine loose_call (R := ConstV (.agg #[.int .i64 z1.k, .int .i64 z1.n, .string ⟨#[]⟩])) (f := 30) (args := #[.slice A l.length c]) (by rfl) (by rfl) (fun _ => by go_simp) (fun w' hC' hG' => const_loose (H2.out w' (HR.out.grow (HG4.out.of_below hC')))) ?_
  rintro _ ⟨_, _, rfl⟩
  refine ⟨?_, ?_, ?_⟩
  rotate_left
  · go_simp
    rfl
  iterate 3 ((with_reducible refine loose_one (v := ?_) (a' := ?_) ?_ ?_ (fun w' hC' hG' => ?_) ?_ ?_); rotate_left 2; (focus rfl); (focus rfl); (focus (obtain ⟨q1, q2, q3⟩ := HC4.out w' hC'; obtain ⟨r1, r2, r3⟩ := HD4.out w' hC'; clear hC' hG'; go_simp; rfl)); (focus (go_simp; rfl)))
  refine loose_call (R := ConstV (.agg #[.int .i64 z3.k, .int .i64 z3.n, .string ⟨#[]⟩])) (f := 31) (args := #[.slice A l.length c]) (by rfl) (by rfl) (fun _ => by go_simp) (fun w' hC' hG' => const_loose (H3.out w' (HR.out.grow (HG4.out.of_below hC')))) ?_
  rintro _ ⟨_, _, rfl⟩
  refine ⟨?_, ?_, ?_⟩
  rotate_left
  · go_simp
    rfl
  iterate 1 ((with_reducible refine loose_one (v := ?_) (a' := ?_) ?_ ?_ (fun w' hC' hG' => ?_) ?_ ?_); rotate_left 2; (focus rfl); (focus rfl); (focus (obtain ⟨q1, q2, q3⟩ := HC4.out w' hC'; obtain ⟨r1, r2, r3⟩ := HD4.out w' hC'; clear hC' hG'; go_simp; rfl)); (focus (go_simp; rfl)))
  refine loose_call (R := ConstV (.agg #[.int .i64 z3.k, .int .i64 z3.n, .string ⟨#[]⟩])) (f := 32) (args := #[.slice A l.length c]) (by rfl) (by rfl) (fun _ => by go_simp) (fun w' hC' hG' => const_loose (H4.out w' (HR.out.grow (HG4.out.of_below hC')))) ?_
  rintro _ ⟨_, _, rfl⟩
  refine ⟨?_, ?_, ?_⟩
  rotate_left
  · go_simp
    rfl
  iterate 4 ((with_reducible refine loose_one (v := ?_) (a' := ?_) ?_ ?_ (fun w' hC' hG' => ?_) ?_ ?_); rotate_left 2; (focus rfl); (focus rfl); (focus (obtain ⟨q1, q2, q3⟩ := HC4.out w' hC'; obtain ⟨r1, r2, r3⟩ := HD4.out w' hC'; clear hC' hG'; go_simp; rfl)); (focus (go_simp; rfl)))
  refine loose_call (R := ConstV (.agg #[.int .i64 nx.k, .int .i64 nx.n, .string ⟨#[]⟩])) (f := 33) (args := #[.agg #[.int .i64 x.k, .int .i64 x.n, .string x.t]]) (by rfl) (by rfl) (fun _ => by go_simp) (fun w' hC' hG' => const_loose (H5.out w')) ?_
  rintro _ ⟨_, _, rfl⟩
  refine ⟨?_, ?_, ?_⟩
  rotate_left
  · go_simp
    rfl
  iterate 1 ((with_reducible refine loose_one (v := ?_) (a' := ?_) ?_ ?_ (fun w' hC' hG' => ?_) ?_ ?_); rotate_left 2; (focus rfl); (focus rfl); (focus (obtain ⟨q1, q2, q3⟩ := HC4.out w' hC'; obtain ⟨r1, r2, r3⟩ := HD4.out w' hC'; clear hC' hG'; go_simp; rfl)); (focus (go_simp; rfl)))
  refine loose_call (R := ConstV (.agg #[.int .i64 nx.k, .int .i64 nx.n, .string ⟨#[]⟩])) (f := 34) (args := #[.agg #[.int .i64 x.k, .int .i64 x.n, .string x.t]]) (by rfl) (by rfl) (fun _ => by go_simp) (fun w' hC' hG' => const_loose (H6.out w')) ?_
  rintro _ ⟨_, _, rfl⟩
  refine ⟨?_, ?_, ?_⟩
  rotate_left
  · go_simp
    rfl
  iterate 2 ((with_reducible refine loose_one (v := ?_) (a' := ?_) ?_ ?_ (fun w' hC' hG' => ?_) ?_ ?_); rotate_left 2; (focus rfl); (focus rfl); (focus (obtain ⟨q1, q2, q3⟩ := HC4.out w' hC'; obtain ⟨r1, r2, r3⟩ := HD4.out w' hC'; clear hC' hG'; go_simp; rfl)); (focus (go_simp; rfl)))
  refine loose_done (fun w5 hC' hG' => ?_)
  clear hG'
  have HG5 := hidden (HG4.out.of_below hC')
  have HC5 := hidden (fun w' (h : Grows w5 w') => HC4.out w' (hC'.of_below h))
  have HD5 := hidden (fun w' (h : Grows w5 w') => HD4.out w' (hC'.of_below h))
  clear hC'
  go_wp2_with fail
  refine wp_region_loose (tabRs [(2, ValsR [x, y]), (3, ConstV (.agg #[.int .i64 z8.k, .int .i64 z8.n, .string ⟨#[]⟩])), (4, ConstV (.agg #[.int .i64 zb.k, .int .i64 zb.n, .string ⟨#[]⟩])), (6, ConstV (.agg #[.int .i64 nx.k, .int .i64 nx.n, .string ⟨#[]⟩])), (8, ConstV (.agg #[.int .i64 ny.k, .int .i64 ny.n, .string ⟨#[]⟩])), (9, ValsR [nx, ny]), (10, ConstV (.agg #[.int .i64 zb.k, .int .i64 zb.n, .string ⟨#[]⟩])), (15, ValsR [x, y]), (16, ConstV (.agg #[.int .i64 z9.k, .int .i64 z9.n, .string ⟨#[]⟩])), (17, ConstV (.agg #[.int .i64 za.k, .int .i64 za.n, .string ⟨#[]⟩])), (19, ConstV (.agg #[.int .i64 nx.k, .int .i64 nx.n, .string ⟨#[]⟩])), (21, ConstV (.agg #[.int .i64 ny.k, .int .i64 ny.n, .string ⟨#[]⟩])), (22, ValsR [nx, ny]), (23, ConstV (.agg #[.int .i64 za.k, .int .i64 za.n, .string ⟨#[]⟩])), (27, ConstV (.bool true))]) (by kernel_rfl) (by kernel_rfl) (tabRs_cons ValsR.lasts (tabRs_cons ConstV.lasts (tabRs_cons ConstV.lasts (tabRs_cons ConstV.lasts (tabRs_cons ConstV.lasts (tabRs_cons ValsR.lasts (tabRs_cons ConstV.lasts (tabRs_cons ValsR.lasts (tabRs_cons ConstV.lasts (tabRs_cons ConstV.lasts (tabRs_cons ConstV.lasts (tabRs_cons ConstV.lasts (tabRs_cons ValsR.lasts (tabRs_cons ConstV.lasts (tabRs_cons ConstV.lasts tabRs_nil))))))))))))))) ?_
  iterate 2 ((with_reducible refine loose_one (v := ?_) (a' := ?_) ?_ ?_ (fun w' hC' hG' => ?_) ?_ ?_); rotate_left 2; (focus rfl); (focus rfl); (focus (obtain ⟨q1, q2, q3⟩ := HC5.out w' hC'; obtain ⟨r1, r2, r3⟩ := HD5.out w' hC'; clear hC' hG'; go_simp; rfl)); (focus (go_simp; rfl)))
  refine loose_new (R := ValsR [x, y]) (by rfl) (by rfl) (fun w' hC' hG' => ?_) ?_
  · refine ⟨.slice (some ⟨w'.heap.size, 0, none⟩) 2 2, w'.alloc (.cells #[.int .i64 x.k, .int .i64 x.n, .string x.t, .int .i64 y.k, .int .i64 y.n, .string y.t] 23), ?_, (Below.refl _ _).alloc (Nat.le_refl _) _, ReadsV.two⟩
    clear hC' hG'
    go_simp
  intro v2 _
  refine ⟨?_, ?_, ?_⟩
  rotate_left
  · go_simp
    rfl
  refine loose_call (R := ConstV (.agg #[.int .i64 z8.k, .int .i64 z8.n, .string ⟨#[]⟩])) (f := 29) (args := #[v2]) (by rfl) (by rfl) (fun _ => by go_simp) (fun w' hC' hG' => const_loose (H8.out v2 w' ((hG' 2 (by kernel_rfl)).2 rfl))) ?_
  rintro _ ⟨_, _, rfl⟩
  refine ⟨?_, ?_, ?_⟩
  rotate_left
  · go_simp
    rfl
  refine loose_call (R := ConstV (.agg #[.int .i64 zb.k, .int .i64 zb.n, .string ⟨#[]⟩])) (f := 33) (args := #[.agg #[.int .i64 z8.k, .int .i64 z8.n, .string ⟨#[]⟩]]) (by rfl) (by rfl) (fun _ => by go_simp) (fun w' hC' hG' => const_loose (HN8.out w')) ?_
  rintro _ ⟨_, _, rfl⟩
  refine ⟨?_, ?_, ?_⟩
  rotate_left
  · go_simp
    rfl
  iterate 1 ((with_reducible refine loose_one (v := ?_) (a' := ?_) ?_ ?_ (fun w' hC' hG' => ?_) ?_ ?_); rotate_left 2; (focus rfl); (focus rfl); (focus (obtain ⟨q1, q2, q3⟩ := HC5.out w' hC'; obtain ⟨r1, r2, r3⟩ := HD5.out w' hC'; clear hC' hG'; go_simp; rfl)); (focus (go_simp; rfl)))
  refine loose_call (R := ConstV (.agg #[.int .i64 nx.k, .int .i64 nx.n, .string ⟨#[]⟩])) (f := 33) (args := #[.agg #[.int .i64 x.k, .int .i64 x.n, .string x.t]]) (by rfl) (by rfl) (fun _ => by go_simp) (fun w' hC' hG' => const_loose (H5.out w')) ?_
  rintro _ ⟨_, _, rfl⟩
  refine ⟨?_, ?_, ?_⟩
  rotate_left
  · go_simp
    rfl
  iterate 1 ((with_reducible refine loose_one (v := ?_) (a' := ?_) ?_ ?_ (fun w' hC' hG' => ?_) ?_ ?_); rotate_left 2; (focus rfl); (focus rfl); (focus (obtain ⟨q1, q2, q3⟩ := HC5.out w' hC'; obtain ⟨r1, r2, r3⟩ := HD5.out w' hC'; clear hC' hG'; go_simp; rfl)); (focus (go_simp; rfl)))
  refine loose_call (R := ConstV (.agg #[.int .i64 ny.k, .int .i64 ny.n, .string ⟨#[]⟩])) (f := 33) (args := #[.agg #[.int .i64 y.k, .int .i64 y.n, .string y.t]]) (by rfl) (by rfl) (fun _ => by go_simp) (fun w' hC' hG' => const_loose (H7.out w')) ?_
  rintro _ ⟨_, _, rfl⟩
  refine ⟨?_, ?_, ?_⟩
  rotate_left
  · go_simp
    rfl
  refine loose_new (R := ValsR [nx, ny]) (by rfl) (by rfl) (fun w' hC' hG' => ?_) ?_
  · refine ⟨.slice (some ⟨w'.heap.size, 0, none⟩) 2 2, w'.alloc (.cells #[.int .i64 nx.k, .int .i64 nx.n, .string nx.t, .int .i64 ny.k, .int .i64 ny.n, .string ny.t] 23), ?_, (Below.refl _ _).alloc (Nat.le_refl _) _, ReadsV.two⟩
    rw [HTX.out, HTY.out]
    clear hC' hG'
    go_simp
  intro v9 _
  refine ⟨?_, ?_, ?_⟩
  rotate_left
  · go_simp
    rfl
  refine loose_call (R := ConstV (.agg #[.int .i64 zb.k, .int .i64 zb.n, .string ⟨#[]⟩])) (f := 31) (args := #[v9]) (by rfl) (by rfl) (fun _ => by go_simp) (fun w' hC' hG' => const_loose (HB.out v9 w' ((hG' 9 (by kernel_rfl)).2 rfl))) ?_
  rintro _ ⟨_, _, rfl⟩
  refine ⟨?_, ?_, ?_⟩
  rotate_left
  · go_simp
    rfl
  iterate 4 ((with_reducible refine loose_one (v := ?_) (a' := ?_) ?_ ?_ (fun w' hC' hG' => ?_) ?_ ?_); rotate_left 2; (focus rfl); (focus rfl); (focus (obtain ⟨q1, q2, q3⟩ := HC5.out w' hC'; obtain ⟨r1, r2, r3⟩ := HD5.out w' hC'; clear hC' hG'; go_simp; rfl)); (focus (go_simp; rfl)))
  refine loose_new (R := ValsR [x, y]) (by rfl) (by rfl) (fun w' hC' hG' => ?_) ?_
  · refine ⟨.slice (some ⟨w'.heap.size, 0, none⟩) 2 2, w'.alloc (.cells #[.int .i64 x.k, .int .i64 x.n, .string x.t, .int .i64 y.k, .int .i64 y.n, .string y.t] 23), ?_, (Below.refl _ _).alloc (Nat.le_refl _) _, ReadsV.two⟩
    clear hC' hG'
    go_simp
  intro v15 _
  refine ⟨?_, ?_, ?_⟩
  rotate_left
  · go_simp
    rfl
  refine loose_call (R := ConstV (.agg #[.int .i64 z9.k, .int .i64 z9.n, .string ⟨#[]⟩])) (f := 31) (args := #[v15]) (by rfl) (by rfl) (fun _ => by go_simp) (fun w' hC' hG' => const_loose (H9.out v15 w' ((hG' 15 (by kernel_rfl)).2 rfl))) ?_
  rintro _ ⟨_, _, rfl⟩
  refine ⟨?_, ?_, ?_⟩
  rotate_left
  · go_simp
    rfl
  refine loose_call (R := ConstV (.agg #[.int .i64 za.k, .int .i64 za.n, .string ⟨#[]⟩])) (f := 33) (args := #[.agg #[.int .i64 z9.k, .int .i64 z9.n, .string ⟨#[]⟩]]) (by rfl) (by rfl) (fun _ => by go_simp) (fun w' hC' hG' => const_loose (HN9.out w')) ?_
  rintro _ ⟨_, _, rfl⟩
  refine ⟨?_, ?_, ?_⟩
  rotate_left
  · go_simp
    rfl
  iterate 1 ((with_reducible refine loose_one (v := ?_) (a' := ?_) ?_ ?_ (fun w' hC' hG' => ?_) ?_ ?_); rotate_left 2; (focus rfl); (focus rfl); (focus (obtain ⟨q1, q2, q3⟩ := HC5.out w' hC'; obtain ⟨r1, r2, r3⟩ := HD5.out w' hC'; clear hC' hG'; go_simp; rfl)); (focus (go_simp; rfl)))
  refine loose_call (R := ConstV (.agg #[.int .i64 nx.k, .int .i64 nx.n, .string ⟨#[]⟩])) (f := 33) (args := #[.agg #[.int .i64 x.k, .int .i64 x.n, .string x.t]]) (by rfl) (by rfl) (fun _ => by go_simp) (fun w' hC' hG' => const_loose (H5.out w')) ?_
  rintro _ ⟨_, _, rfl⟩
  refine ⟨?_, ?_, ?_⟩
  rotate_left
  · go_simp
    rfl
  iterate 1 ((with_reducible refine loose_one (v := ?_) (a' := ?_) ?_ ?_ (fun w' hC' hG' => ?_) ?_ ?_); rotate_left 2; (focus rfl); (focus rfl); (focus (obtain ⟨q1, q2, q3⟩ := HC5.out w' hC'; obtain ⟨r1, r2, r3⟩ := HD5.out w' hC'; clear hC' hG'; go_simp; rfl)); (focus (go_simp; rfl)))
  refine loose_call (R := ConstV (.agg #[.int .i64 ny.k, .int .i64 ny.n, .string ⟨#[]⟩])) (f := 33) (args := #[.agg #[.int .i64 y.k, .int .i64 y.n, .string y.t]]) (by rfl) (by rfl) (fun _ => by go_simp) (fun w' hC' hG' => const_loose (H7.out w')) ?_
  rintro _ ⟨_, _, rfl⟩
  refine ⟨?_, ?_, ?_⟩
  rotate_left
  · go_simp
    rfl
  refine loose_new (R := ValsR [nx, ny]) (by rfl) (by rfl) (fun w' hC' hG' => ?_) ?_
  · refine ⟨.slice (some ⟨w'.heap.size, 0, none⟩) 2 2, w'.alloc (.cells #[.int .i64 nx.k, .int .i64 nx.n, .string nx.t, .int .i64 ny.k, .int .i64 ny.n, .string ny.t] 23), ?_, (Below.refl _ _).alloc (Nat.le_refl _) _, ReadsV.two⟩
    rw [HTX.out, HTY.out]
    clear hC' hG'
    go_simp
  intro v22 _
  refine ⟨?_, ?_, ?_⟩
  rotate_left
  · go_simp
    rfl
  refine loose_call (R := ConstV (.agg #[.int .i64 za.k, .int .i64 za.n, .string ⟨#[]⟩])) (f := 29) (args := #[v22]) (by rfl) (by rfl) (fun _ => by go_simp) (fun w' hC' hG' => const_loose (HA.out v22 w' ((hG' 22 (by kernel_rfl)).2 rfl))) ?_
  rintro _ ⟨_, _, rfl⟩
  refine ⟨?_, ?_, ?_⟩
  rotate_left
  · go_simp
    rfl
  iterate 3 ((with_reducible refine loose_one (v := ?_) (a' := ?_) ?_ ?_ (fun w' hC' hG' => ?_) ?_ ?_); rotate_left 2; (focus rfl); (focus rfl); (focus (obtain ⟨q1, q2, q3⟩ := HC5.out w' hC'; obtain ⟨r1, r2, r3⟩ := HD5.out w' hC'; clear hC' hG'; go_simp; rfl)); (focus (go_simp; rfl)))
  refine loose_call (R := ConstV (.bool true)) (f := 13) (args := #[]) (by rfl) (by rfl) (fun _ => by go_simp) (fun w' hC' hG' => const_loose (awake_any w')) ?_
  rintro _ ⟨_, _, rfl⟩
  refine ⟨?_, ?_, ?_⟩
  rotate_left
  · go_simp
    rfl
  iterate 2 ((with_reducible refine loose_one (v := ?_) (a' := ?_) ?_ ?_ (fun w' hC' hG' => ?_) ?_ ?_); rotate_left 2; (focus rfl); (focus rfl); (focus (obtain ⟨q1, q2, q3⟩ := HC5.out w' hC'; obtain ⟨r1, r2, r3⟩ := HD5.out w' hC'; clear hC' hG'; go_simp; rfl)); (focus (go_simp; rfl)))
  refine loose_done (fun w6 hC' hG' => ?_)
  clear hG'
  go_wp2_with fail
  go_ret
  exact ⟨rfl, HG5.out.of_below hC'⟩
end Go.Proofs.Ytepnegbopnepfaa
