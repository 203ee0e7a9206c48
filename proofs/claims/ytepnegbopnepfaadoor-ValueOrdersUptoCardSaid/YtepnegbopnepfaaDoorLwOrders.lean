/-
  The walk of the law ValueOrders: it returns true for every three rows of at most 2^20 values; nothing that was there is changed.
-/
import Derived.Test.YtepnegbopnepfaaDoorLwEncodes
import Derived.Test.YtepnegbopnepfaaDoorLoNum
namespace Go.Proofs.YtepnegbopnepfaaDoor
open Go.RowKit
set_option linter.unusedVariables false
set_option linter.unusedSimpArgs false

theorem tri {x : Int} (h1 : -1 ≤ x) (h2 : x ≤ 1) : x = -1 ∨ x = 0 ∨ x = 1 := by omega
theorem cmp_bd {a b : List Val} (ha : validL a = true) (hb : validL b = true) (ba : bdL a) (bb : bdL b) : -1 ≤ cmpR a b ∧ cmpR a b ≤ 1 := (orders ha hb hb ba bb bb).2.1
/-- the two keys as strings -/
theorem key_facts {a b : List Val} (ha : validL a = true) (hb : validL b = true) (ba : bdL a) (bb : bdL b) :
    Op.bytesLess (strOf (keyL a)).toList (strOf (keyL b)).toList = decide (cmpR a b < 0) ∧ (cmpR a b = 0 → ((strOf (keyL a)).toList == (strOf (keyL b)).toList) = true) ∧ (0 < cmpR a b → ((strOf (keyL a)).toList == (strOf (keyL b)).toList) = false) := by
  have e : ∀ l : List UInt8, (strOf l).toList = l := fun l => by rw [ByteArray.toList_eq]; rfl
  rw [e, e]
  obtain ⟨_, _, _, _, h1, h2⟩ := orders ha hb hb ba bb bb
  refine ⟨h1, fun h => ?_, fun h => ?_⟩
  · rw [h1, h] at h2
    simpa using h2
  · have h3 : decide (cmpR a b < 0) = false := by simp; omega
    have h4 : decide (0 < cmpR a b) = true := by simpa using h
    rw [h1, h3, h4] at h2
    simpa using h2
set_option maxRecDepth 4000 in
set_option maxHeartbeats 4000000 in
theorem law_orders (v1 v2 v3 : Value) (la lb lc : List Val) (w : World) (m : Int) (r1 : ReadsV w v1 la) (r2 : ReadsV w v2 lb) (r3 : ReadsV w v3 lc) (n1 : la.length ≤ 1048576) (n2 : lb.length ≤ 1048576) (n3 : lc.length ≤ 1048576)
    (b1 : bdL la) (b2 : bdL lb) (b3 : bdL lc) (hm : w.cell? ⟨0, 0, none⟩ = some (.int .i64 m)) :
    Calls Tryd.prog 4 #[v1, v2, v3] w fun e w' => e = .returned (.bool true) ∧ Grows w w' := by
  have HR1 := hidden r1
  have HR2 := hidden r2
  have HR3 := hidden r3
  have HV1 := hidden (fun w h => lawvalid_any v1 la w h (by omega))
  have HV2 := hidden (fun w h => lawvalid_any v2 lb w h (by omega))
  have HV3 := hidden (fun w h => lawvalid_any v3 lc w h (by omega))
  have HM := hidden hm
  have HK1 := hidden (fun w h vl hm => lsortkey_any v1 la w m h n1 vl b1 hm)
  have HK2 := hidden (fun w h vl hm => lsortkey_any v2 lb w m h n2 vl b2 hm)
  have HC12 := hidden (fun w h h' vl vl' => lcmprows_any v1 v2 la lb w h h' (by omega) (by omega) vl vl')
  have HC23 := hidden (fun w h h' vl vl' => lcmprows_any v2 v3 lb lc w h h' (by omega) (by omega) vl vl')
  have HC13 := hidden (fun w h h' vl vl' => lcmprows_any v1 v3 la lc w h h' (by omega) (by omega) vl vl')
  have HC21 := hidden (fun w h h' vl vl' => lcmprows_any v2 v1 lb la w h h' (by omega) (by omega) vl vl')
  have HORD := hidden (fun x y z => orders (a := la) (b := lb) (c := lc) x y z b1 b2 b3)
  have HBD2 := hidden (fun x y => cmp_bd (a := lb) (b := lc) x y b2 b3)
  have HBD3 := hidden (fun x y => cmp_bd (a := la) (b := lc) x y b1 b3)
  have HKF := hidden (fun x y => key_facts (a := la) (b := lb) x y b1 b2)
  obtain ⟨A, c1, rfl, hle, hxx⟩ := r1
  clear hxx hle
  obtain ⟨B, c2, rfl, hle, hxx⟩ := r2
  clear hxx hle
  obtain ⟨C, c3, rfl, hle, hxx⟩ := r3
  clear hxx hle b1 b2 b3 hm
  cases hb : validL la
  · rw [hb] at HV1
    clear hb
    go_enter Tryd.func4, Tryd.ntmps4
    go_wp2_with fail
    refine (HV1.out _ HR1.out).mono ?_
    rintro e w2 ⟨rfl, g2⟩
    have HG2 := hidden g2
    clear g2
    go_wp2_with fail
    refine (awake_any _).mono ?_
    rintro e w8 ⟨rfl, g8⟩
    have HG8 := hidden (HG2.out.of_below g8)
    clear g8
    go_wp2_with fail
    go_ret
    exact ⟨rfl, HG8.out⟩
  have hv1 := hb
  rw [hb] at HV1
  clear hb
  cases hb : validL lb
  · rw [hb] at HV2
    clear hb
    go_enter Tryd.func4, Tryd.ntmps4
    go_wp2_with fail
    refine (HV1.out _ HR1.out).mono ?_
    rintro e w2 ⟨rfl, g2⟩
    have HG2 := hidden g2
    clear g2
    go_wp2_with fail
    refine (HV2.out _ (HR2.out.grow HG2.out)).mono ?_
    rintro e w3 ⟨rfl, g3⟩
    have HG3 := hidden (HG2.out.of_below g3)
    clear g3
    go_wp2_with fail
    refine (awake_any _).mono ?_
    rintro e w8 ⟨rfl, g8⟩
    have HG8 := hidden (HG3.out.of_below g8)
    clear g8
    go_wp2_with fail
    go_ret
    exact ⟨rfl, HG8.out⟩
  have hv2 := hb
  rw [hb] at HV2
  clear hb
  cases hb : validL lc
  · rw [hb] at HV3
    clear hb
    go_enter Tryd.func4, Tryd.ntmps4
    go_wp2_with fail
    refine (HV1.out _ HR1.out).mono ?_
    rintro e w2 ⟨rfl, g2⟩
    have HG2 := hidden g2
    clear g2
    go_wp2_with fail
    refine (HV2.out _ (HR2.out.grow HG2.out)).mono ?_
    rintro e w3 ⟨rfl, g3⟩
    have HG3 := hidden (HG2.out.of_below g3)
    clear g3
    go_wp2_with fail
    refine (HV3.out _ (HR3.out.grow HG3.out)).mono ?_
    rintro e w4 ⟨rfl, g4⟩
    have HG4 := hidden (HG3.out.of_below g4)
    clear g4
    go_wp2_with fail
    refine (awake_any _).mono ?_
    rintro e w8 ⟨rfl, g8⟩
    have HG8 := hidden (HG4.out.of_below g8)
    clear g8
    go_wp2_with fail
    go_ret
    exact ⟨rfl, HG8.out⟩
  have hv3 := hb
  rw [hb] at HV3
  clear hb
  have HQ1 := hidden (fun w h hm => HK1.out w h hv1 hm)
  have HQ2 := hidden (fun w h hm => HK2.out w h hv2 hm)
  have HD12 := hidden (fun w h h' => HC12.out w h h' hv1 hv2)
  have HD23 := hidden (fun w h h' => HC23.out w h h' hv2 hv3)
  have HD13 := hidden (fun w h h' => HC13.out w h h' hv1 hv3)
  have HD21 := hidden (fun w h h' => HC21.out w h h' hv2 hv1)
  have ho := HORD.out hv1 hv2 hv3
  have hb2 := HBD2.out hv2 hv3
  have hb3 := HBD3.out hv1 hv3
  have hkf := HKF.out hv1 hv2
  obtain ⟨ho1, ho2, ho3, ho4, _, _⟩ := ho
  rw [ho1] at HD21
  clear HK1 HK2 HC12 HC23 HC13 HC21 HORD HBD2 HBD3 HKF hv1 hv2 hv3 ho1
  generalize cmpR la lb = x at *
  generalize cmpR lb lc = y at *
  generalize cmpR la lc = z at *
  generalize keyL la = Ka at *
  generalize keyL lb = Kb at *
  have HO2 := hidden ho2
  have HO3 := hidden ho3
  have HO4 := hidden ho4
  have HB2 := hidden hb2
  have HB3 := hidden hb3
  have HKF := hidden hkf
  clear ho2 ho3 ho4 hb2 hb3 hkf
  go_enter Tryd.func4, Tryd.ntmps4
  go_wp2_with fail
  refine (HV1.out _ HR1.out).mono ?_
  rintro e w2 ⟨rfl, g2⟩
  have HG2 := hidden g2
  clear g2
  go_wp2_with fail
  refine (HV2.out _ (HR2.out.grow HG2.out)).mono ?_
  rintro e w3 ⟨rfl, g3⟩
  have HG3 := hidden (HG2.out.of_below g3)
  clear g3
  go_wp2_with fail
  refine (HV3.out _ (HR3.out.grow HG3.out)).mono ?_
  rintro e w4 ⟨rfl, g4⟩
  have HG4 := hidden (HG3.out.of_below g4)
  clear g4
  go_wp2_with fail
  refine (HD12.out _ (HR1.out.grow HG4.out) (HR2.out.grow HG4.out)).mono ?_
  rintro e w5 ⟨rfl, g5⟩
  have HG5 := hidden (HG4.out.of_below g5)
  clear g5
  go_wp2_with fail
  refine (HD23.out _ (HR2.out.grow HG5.out) (HR3.out.grow HG5.out)).mono ?_
  rintro e w6 ⟨rfl, g6⟩
  have HG6 := hidden (HG5.out.of_below g6)
  clear g6
  go_wp2_with fail
  refine (HD13.out _ (HR1.out.grow HG6.out) (HR3.out.grow HG6.out)).mono ?_
  rintro e w7 ⟨rfl, g7⟩
  have HG7 := hidden (HG6.out.of_below g7)
  clear g7
  go_wp2_with fail
  refine (HD21.out _ (HR2.out.grow HG7.out) (HR1.out.grow HG7.out)).mono ?_
  rintro e w9 ⟨rfl, g9⟩
  have HG9 := hidden (HG7.out.of_below g9)
  clear g9
  have tail : ∀ (P : ByteArray), True := fun _ => trivial
  rcases tri HO2.out.1 HO2.out.2 with rfl | rfl | rfl <;> rcases tri HB2.out.1 HB2.out.2 with rfl | rfl | rfl <;> rcases tri HB3.out.1 HB3.out.2 with rfl | rfl | rfl
  all_goals first
    | (exfalso; have a3 := HO3.out; have a4 := HO4.out; revert a3 a4; decide)
    | skip
  all_goals clear HO2 HO3 HO4 HB2 HB3 tail
  all_goals obtain ⟨k1, k2, k3⟩ := HKF.out
  all_goals clear HKF
  all_goals simp only [Int.reduceLT, Int.reduceNeg, decide_true, decide_false, forall_const, true_implies, false_implies, reduceCtorEq, Int.reduceEq, Int.lt_irrefl, Int.zero_lt_one] at k1 k2 k3
  all_goals have HKK1 := hidden k1
  all_goals have HKK2 := hidden k2
  all_goals have HKK3 := hidden k3
  all_goals clear k1 k2 k3
  all_goals go_wp2_with fail
  all_goals
    refine wp_region_loose (tabRs [(1, BytesL Ka), (4, BytesL Kb)]) (by kernel_rfl) (by kernel_rfl) (tabRs_cons BytesL.lasts (tabRs_cons BytesL.lasts tabRs_nil)) ?_
    iterate 1 ((with_reducible refine loose_one (v := ?_) (a' := ?_) ?_ ?_ (fun w' hC' hG' => ?_) ?_ ?_); rotate_left 2; (focus rfl); (focus rfl); (focus (clear hC' hG'; go_simp; rfl)); (focus (go_simp; rfl)))
    refine loose_call (R := BytesL Ka) (f := 9) (args := #[.slice A la.length c1]) (by rfl) (by rfl) (fun _ => by go_simp) (fun w' hC' hG' => (HQ1.out w' (HR1.out.grow (HG9.out.of_below hC')) (cell0_grow HM.out (HG9.out.of_below hC'))).mono fun _ _ h => made_give h) ?_
    intro v1 _
    refine ⟨?_, ?_, ?_⟩
    rotate_left
    · go_simp
      rfl
    refine loose_one (v := ?_) (a' := ?_) (by rfl) (by rfl) (fun w' hC' hG' => ?_) ?_ ?_
    rotate_left 2
    · have hr := run_string_bytes (P := Tryd.prog) (BytesL.is ((hG' 1 (by kernel_rfl)).2 rfl)) 25 5 Tryd.underlying25 Tryd.underlying5 9 Tryd.underlying9
      clear hC' hG'
      go_simp
      rfl
    · go_simp
      rfl
    iterate 1 ((with_reducible refine loose_one (v := ?_) (a' := ?_) ?_ ?_ (fun w' hC' hG' => ?_) ?_ ?_); rotate_left 2; (focus rfl); (focus rfl); (focus (clear hC' hG'; go_simp; rfl)); (focus (go_simp; rfl)))
    refine loose_call (R := BytesL Kb) (f := 9) (args := #[.slice B lb.length c2]) (by rfl) (by rfl) (fun _ => by go_simp) (fun w' hC' hG' => (HQ2.out w' (HR2.out.grow (HG9.out.of_below hC')) (cell0_grow HM.out (HG9.out.of_below hC'))).mono fun _ _ h => made_give h) ?_
    intro v4 _
    refine ⟨?_, ?_, ?_⟩
    rotate_left
    · go_simp
      rfl
    refine loose_one (v := ?_) (a' := ?_) (by rfl) (by rfl) (fun w' hC' hG' => ?_) ?_ ?_
    rotate_left 2
    · have hr := run_string_bytes (P := Tryd.prog) (BytesL.is ((hG' 4 (by kernel_rfl)).2 rfl)) 25 5 Tryd.underlying25 Tryd.underlying5 9 Tryd.underlying9
      clear hC' hG'
      go_simp
      rfl
    · go_simp
      rfl
    iterate 2 ((with_reducible refine loose_one (v := ?_) (a' := ?_) ?_ ?_ (fun w' hC' hG' => ?_) ?_ ?_); rotate_left 2; (focus rfl); (focus rfl); (focus (clear hC' hG'; go_simp; rfl)); (focus (go_simp; rfl)))
    refine loose_done (fun w10 hC' hG' => ?_)
    clear hG'
    have HG10 := hidden (HG9.out.of_below hC')
    clear hC'
    generalize strOf Ka = P at *
    generalize strOf Kb = Q at *
    have k1 := HKK1.out
    have k2 := HKK2.out
    have k3 := HKK3.out
    go_wp2_with fail
    refine (awake_any _).mono ?_
    rintro e w11 ⟨rfl, g11⟩
    have HG11 := hidden (HG10.out.of_below g11)
    clear g11
    go_wp2_with fail
    go_ret
    exact ⟨rfl, HG11.out⟩
end Go.Proofs.YtepnegbopnepfaaDoor
