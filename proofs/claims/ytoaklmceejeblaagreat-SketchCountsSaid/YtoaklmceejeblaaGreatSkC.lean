/-
  Shaken: what the claims of this seat need of this text. No condition.
-/
import Derived.Test.YtoaklmceejeblaaGreatM13
import Derived.Test.YtoaklmceejeblaaGreatM16
namespace Go.Proofs.YtoaklmceejeblaaGreat
open Go.RowKit
set_option linter.unusedVariables false
set_option linter.unusedSimpArgs false
set_option maxRecDepth 8000 in
set_option maxHeartbeats 8000000 in
theorem rCountDistinct_any (v : Value) (s : Sk) (w : World) (hk : IsK w v s) (hh : s.hs.length ≤ 1000000) (hl : s.fs.length ≤ 100000) (hn0 : 0 ≤ s.rows - s.nulls) (hn1 : s.rows - s.nulls ≤ 9223372036854775807) (hkd : s.fs.length = 0 ∨ kindK s.fs = 1 ∨ kindK s.fs = 2 ∨ kindK s.fs = 3) :
    Calls Tryz.prog 28 #[v] w fun e w' => e = .returned (.agg #[.int .i64 (cdLo s), .int .i64 (cdHi s)]) ∧ Grows w w' := by
  have HIK := hidden hk
  obtain ⟨A1, A2, A3, A4, c1, c2, c3, c4, rfl, -, -, h3, -⟩ := hk
  obtain ⟨W0, hW0⟩ : ∃ W, W = ((w.alloc (.cells #[.int .i64 s.rows, .int .i64 s.nulls, .slice A1 s.hs.length c1, .bool s.ok, .slice A2 s.cm.length c2, .slice A3 s.fs.length c3, .slice A4 s.rk.length c4] 29)).alloc (.cells #[.int .i64 0, .int .i64 0] 40)) := ⟨_, rfl⟩
  have HW := hidden hW0
  have HG0 := hidden (show Grows w W0 by rw [hW0]; exact (growK _ _).of_below (growK _ _))
  have HS0 := hidden (show Row W0 w.heap.size 29 [.int .i64 s.rows, .int .i64 s.nulls, .slice A1 s.hs.length c1, .bool s.ok, .slice A2 s.cm.length c2, .slice A3 s.fs.length c3, .slice A4 s.rk.length c4] by rw [hW0]; exact skrow_at _ _ _ _ _ _ _)
  have HB0 := hidden (show Row W0 (w.heap.size + 1) 40 [.int .i64 0, .int .i64 0] by rw [hW0]; exact bdrow_at w _ _ _)
  have HX : Hid (∀ X, Grows W0 X → X.cell? ⟨w.heap.size, 0, none⟩ = some (.int .i64 s.rows) ∧ X.cell? ⟨w.heap.size, 1, none⟩ = some (.int .i64 s.nulls) ∧ X.cell? ⟨w.heap.size, 2, none⟩ = some (.slice A1 s.hs.length c1) ∧ X.cell? ⟨w.heap.size, 3, none⟩ = some (.bool s.ok) ∧ X.cell? ⟨w.heap.size, 4, none⟩ = some (.slice A2 s.cm.length c2) ∧ X.cell? ⟨w.heap.size, 5, none⟩ = some (.slice A3 s.fs.length c3) ∧ X.cell? ⟨w.heap.size, 6, none⟩ = some (.slice A4 s.rk.length c4)) := hidden fun X h => ⟨(HS0.out.grow h).cell 0, (HS0.out.grow h).cell 1, (HS0.out.grow h).cell 2, (HS0.out.grow h).cell 3, (HS0.out.grow h).cell 4, (HS0.out.grow h).cell 5, (HS0.out.grow h).cell 6⟩
  have H3 := hidden (fun X (h : Grows W0 X) => h3.grow (HG0.out.of_below h))
  have HP := hidden (fun X => const_loose16 (rvalues_any s.rows s.nulls A1 A2 A3 A4 s.hs.length c1 s.cm.length c2 s.fs.length c3 s.rk.length c4 s.ok X ⟨by omega, by omega⟩))
  have HSP := hidden (fun a b W => rspan_any a b W)
  have HLO := hidden (show cdLo s = if s.ok = true then (s.hs.length : Int) else (s.hs.length : Int) + 1 from rfl)
  have HHI := hidden (show cdHi s = if (kindK s.fs = 2 ∨ kindK s.fs = 1) ∧ widK s < s.rows - s.nulls then widK s + 1 else s.rows - s.nulls from rfl)
  obtain ⟨n, hne⟩ : ∃ n, n = s.rows - s.nulls := ⟨_, rfl⟩
  rw [← hne] at HP HHI hn0 hn1
  generalize cdLo s = LO at *
  generalize cdHi s = HI at *
  have HKD := hidden hkd
  have HK0 := hidden (show s.fs.length = 0 → kindK s.fs = 0 from fun h => by
    cases hf : s.fs with
    | nil => rfl
    | cons a b => rw [hf] at h; simp at h)
  have HKF := hidden (show ∀ f, s.fs[0]? = some f → kindK s.fs = f.k from fun f h => by
    cases hf : s.fs with
    | nil => rw [hf] at h; cases h
    | cons a b => rw [hf] at h; simp at h; rw [← h]; rfl)
  have hwl : wrap64 ((s.hs.length : Int) + 1) = (s.hs.length : Int) + 1 := by unfold wrap64; omega
  have hwl2 : IntKind.i64.wrap ((s.hs.length : Int) + 1) = (s.hs.length : Int) + 1 := by rw [IntKind.wrap_i64]; omega
  clear h3 HIK hne hkd hW0
  go_enter Tryz.func28, Tryz.ntmps28
  go_wp2_with fail
  rw [← HW.out]
  refine wp_region_loose (tabRs [(4, ConstV (.int .i64 n))]) (by kernel_rfl) (by kernel_rfl) (tabRs_cons ConstV.lasts tabRs_nil) ?_
  iterate 4 ((with_reducible refine loose_one (v := ?_) (a' := ?_) ?_ ?_ (fun w' hC' hG' => ?_) ?_ ?_); rotate_left 2; (focus rfl); (focus rfl); (focus (obtain ⟨s0, s1, s2, s3, s4, s5, s6⟩ := HX.out w' hC'; clear hC' hG'; go_simp; rfl)); (focus (go_simp; rfl)))
  refine loose_call (R := ConstV (.int .i64 n)) (f := 85) (args := #[.agg #[.int .i64 s.rows, .int .i64 s.nulls, .slice A1 s.hs.length c1, .bool s.ok, .slice A2 s.cm.length c2, .slice A3 s.fs.length c3, .slice A4 s.rk.length c4]]) (by rfl) (by rfl) (fun _ => by go_simp) (fun w' hC' hG' => HP.out w') ?_
  rintro _ ⟨_, _, rfl⟩
  refine ⟨?_, ?_, ?_⟩
  rotate_left
  · go_simp
    rfl
  iterate 2 ((with_reducible refine loose_one (v := ?_) (a' := ?_) ?_ ?_ (fun w' hC' hG' => ?_) ?_ ?_); rotate_left 2; (focus rfl); (focus rfl); (focus (obtain ⟨s0, s1, s2, s3, s4, s5, s6⟩ := HX.out w' hC'; clear hC' hG'; go_simp; rfl)); (focus (go_simp; rfl)))
  refine loose_done (fun w1 hC' hG' => ?_)
  have HC1 := hidden hC'
  obtain ⟨s0, s1, s2, s3, s4, s5, s6⟩ := HX.out w1 hC'
  clear hC' hG'
  generalize hok : s.ok = okb at *
  cases okb with
  | true =>
    have HLO := hidden (show LO = (s.hs.length : Int) from HLO.out)
    rcases Nat.eq_zero_or_pos s.fs.length with hz | hpos
    · have z1 : decide ((0 : Int) < (s.fs.length : Int)) = false := decide_eq_false (by omega)
      have z2 : decide (0 < s.fs.length) = false := decide_eq_false (by omega)
      have HH := hidden (show HI = n by rw [HHI.out, if_neg (fun h => by have := HK0.out hz; omega)])
      clear hz
      go_wp2_with (first | (go_at_call 80; refine (HSP.out (s.hs.length : Int) n _).mono ?_; rintro e wy ⟨rfl, g1⟩; have HGy := hidden (HC1.out.of_below g1); clear g1) | ((with_reducible refine at_bd rfl _ _ rfl ?_); refine wpList_store_bd rfl _ _ rfl _ rfl (w.heap.size + 1) rfl (s.hs.length : Int) n rfl _ _ (HB0.out.grow HGy.out) ?_; intro W hr hg; have HRR := hidden hr; have HGG := hidden (hg w (HG0.out.of_below HGy.out) (by omega)); clear hr hg))
      refine bodyPost_ret (results_bd rfl _ _ _ _ _ rfl HRR.out) rfl ⟨?_, HGG.out⟩
      rw [HH.out, HLO.out]
      first | done | rfl
    · have z1 : decide ((0 : Int) < (s.fs.length : Int)) = true := decide_eq_true (by omega)
      have z2 : decide (0 < s.fs.length) = true := decide_eq_true hpos
      obtain ⟨m, hm⟩ : ∃ m, s.fs.length = m + 1 := ⟨s.fs.length - 1, by omega⟩
      obtain ⟨f, hf⟩ : ∃ f, s.fs[0]? = some f := ⟨_, List.getElem?_eq_getElem hpos⟩
      obtain ⟨l, hlst⟩ : ∃ l, s.fs[m]? = some l := ⟨_, List.getElem?_eq_getElem (by omega)⟩
      have HWD := hidden (show widK s = (l.n - f.n) % 18446744073709551616 by
        unfold widK
        rw [List.head?_eq_getElem?, hf, List.getLast?_eq_getElem?, hm, Nat.add_sub_cancel, hlst])
      have HKE := hidden (HKF.out f hf)
      have HPOS := hidden hpos
      obtain ⟨A', c', he, _, hcell⟩ := H3.out w1 HC1.out
      injection he with e1 e2 e3
      subst e1 e3
      obtain ⟨bb, off, rfl, hcell2⟩ := hcell hpos
      have kk := (hcell2 0 f hf).1
      have kf := (hcell2 0 f hf).2.1
      have kl := (hcell2 m l hlst).2.1
      rw [Nat.zero_mul, Nat.add_zero] at kf kk
      have HY := hidden (fun X (h : Grows w1 X) => show X.cell? ⟨w.heap.size, 5, none⟩ = some (.slice (some ⟨bb, off, none⟩) (m + 1) c3) ∧ X.cell? ⟨bb, off + 1, none⟩ = some (.int .i64 f.n) ∧ X.cell? ⟨bb, off + m * 3 + 1, none⟩ = some (.int .i64 l.n) from ⟨by rw [← hm]; exact (HS0.out.grow (HC1.out.of_below h)).cell 5, (h.cell (World.block_lt_of_cell? _ _ kf)).trans kf, (h.cell (World.block_lt_of_cell? _ _ kl)).trans kl⟩)
      have hm0 : m ≤ 100000 := by omega
      rw [hm] at s5 z1 z2
      have i0 : (0 : Int) < ((m + 1 : Nat) : Int) := by omega
      have i8 : 0 < m + 1 := by omega
      clear hcell hcell2 e2 kf kl hf hlst hpos hm
      by_cases h3 : f.k = 3
      · have t1 : (f.k != 3) = false := by simp [h3]
        have t2 : (f.k == 3) = true := by simp [h3]
        have HH := hidden (show HI = n by rw [HHI.out, if_neg (fun h => by have := HKE.out; omega)])
        clear h3
        go_wp2_with (first | (go_at_call 80; refine (HSP.out (s.hs.length : Int) n _).mono ?_; rintro e wy ⟨rfl, g1⟩; have HGy := hidden (HC1.out.of_below g1); clear g1) | ((with_reducible refine at_bd rfl _ _ rfl ?_); refine wpList_store_bd rfl _ _ rfl _ rfl (w.heap.size + 1) rfl (s.hs.length : Int) n rfl _ _ (HB0.out.grow HGy.out) ?_; intro W hr hg; have HRR := hidden hr; have HGG := hidden (hg w (HG0.out.of_below HGy.out) (by omega)); clear hr hg))
        refine bodyPost_ret (results_bd rfl _ _ _ _ _ rfl HRR.out) rfl ⟨?_, HGG.out⟩
        rw [HH.out, HLO.out]
        first | done | rfl
      · have t1 : (f.k != 3) = true := by simpa using h3
        have t2 : (f.k == 3) = false := by simpa using h3
        have HKQ := hidden (show kindK s.fs = 2 ∨ kindK s.fs = 1 by have := HKD.out; have := HKE.out; have := HPOS.out; omega)
        generalize widK s = wd at *
        generalize f.n = fn at *
        generalize l.n = ln at *
        clear h3
        go_wp2_with fail
        have i1 : wrap64 ((m : Int) + 1 - 1) = (m : Int) := by unfold wrap64; omega
        have i2 : IntKind.i64.wrap ((m : Int) + 1 - 1) = (m : Int) := by rw [IntKind.wrap_i64]; omega
        have i3 : ((m : Int) + 1 - 1) = (m : Int) := by omega
        have i5 : IntKind.i64.wrap (m : Int) = (m : Int) := by rw [IntKind.wrap_i64]; omega
        have i6 : (m : Int) < (m : Int) + 1 := by omega
        have i7 : (0 : Int) < (m : Int) + 1 := by omega
        have i4 : (((m + 1 : Nat)) : Int) = (m : Int) + 1 := by omega
        refine wp_region_loose (tabRs []) (by kernel_rfl) (by kernel_rfl) tabRs_nil ?_
        iterate 18 ((with_reducible refine loose_one (v := ?_) (a' := ?_) ?_ ?_ (fun w' hC' hG' => ?_) ?_ ?_); rotate_left 2; (focus rfl); (focus rfl); (focus (obtain ⟨p5, kf, kl⟩ := HY.out w' hC'; clear hC' hG'; go_simp; rfl)); (focus (go_simp; rfl)))
        refine loose_done (fun wz hC' hG' => ?_)
        have HCz := hidden (HC1.out.of_below hC')
        clear hC' hG' s0 s1 s2 s3 s4 s5 s6
        have hwd : IntKind.u64.wrap (IntKind.u64.wrap ln - IntKind.u64.wrap fn) = wd := by rw [HWD.out, IntKind.wrap_u64, IntKind.wrap_u64, IntKind.wrap_u64]; omega
        have hwb : 0 ≤ wd := by rw [HWD.out]; omega
        rw [hwd]
        clear hwd i1 i2 i3 i4 i5 i6 i7 z1 z2 t1 t2
        have j1 : IntKind.u64.wrap n = n := by rw [IntKind.wrap_u64]; omega
        by_cases hlt : wd < n
        · have d1 : decide (wd < n) = true := by simpa using hlt
          have j2 : IntKind.i64.wrap wd = wd := by rw [IntKind.wrap_i64]; omega
          have j3 : IntKind.i64.wrap (wd + 1) = wd + 1 := by rw [IntKind.wrap_i64]; omega
          have HH := hidden (show HI = wd + 1 by rw [HHI.out, if_pos ⟨HKQ.out, hlt⟩])
          clear hlt
          go_wp2_with (first | (go_at_call 80; refine (HSP.out (s.hs.length : Int) (wd + 1) _).mono ?_; rintro e wy ⟨rfl, g1⟩; have HGy := hidden (HCz.out.of_below g1); clear g1) | ((with_reducible refine at_bd rfl _ _ rfl ?_); refine wpList_store_bd rfl _ _ rfl _ rfl (w.heap.size + 1) rfl (s.hs.length : Int) (wd + 1) rfl _ _ (HB0.out.grow HGy.out) ?_; intro W hr hg; have HRR := hidden hr; have HGG := hidden (hg w (HG0.out.of_below HGy.out) (by omega)); clear hr hg))
          refine bodyPost_ret (results_bd rfl _ _ _ _ _ rfl HRR.out) rfl ⟨?_, HGG.out⟩
          rw [HH.out, HLO.out]
          first | done | rfl
        · have d1 : decide (wd < n) = false := by simpa using hlt
          have HH := hidden (show HI = n by rw [HHI.out, if_neg (fun h => hlt h.2)])
          clear hlt
          go_wp2_with (first | (go_at_call 80; refine (HSP.out (s.hs.length : Int) n _).mono ?_; rintro e wy ⟨rfl, g1⟩; have HGy := hidden (HCz.out.of_below g1); clear g1) | ((with_reducible refine at_bd rfl _ _ rfl ?_); refine wpList_store_bd rfl _ _ rfl _ rfl (w.heap.size + 1) rfl (s.hs.length : Int) n rfl _ _ (HB0.out.grow HGy.out) ?_; intro W hr hg; have HRR := hidden hr; have HGG := hidden (hg w (HG0.out.of_below HGy.out) (by omega)); clear hr hg))
          refine bodyPost_ret (results_bd rfl _ _ _ _ _ rfl HRR.out) rfl ⟨?_, HGG.out⟩
          rw [HH.out, HLO.out]
          first | done | rfl
  | false =>
    have HLO := hidden (show LO = (s.hs.length : Int) + 1 from HLO.out)
    rcases Nat.eq_zero_or_pos s.fs.length with hz | hpos
    · have z1 : decide ((0 : Int) < (s.fs.length : Int)) = false := decide_eq_false (by omega)
      have z2 : decide (0 < s.fs.length) = false := decide_eq_false (by omega)
      have HH := hidden (show HI = n by rw [HHI.out, if_neg (fun h => by have := HK0.out hz; omega)])
      clear hz
      go_wp2_with (first | (go_at_call 80; refine (HSP.out ((s.hs.length : Int) + 1) n _).mono ?_; rintro e wy ⟨rfl, g1⟩; have HGy := hidden (HC1.out.of_below g1); clear g1) | ((with_reducible refine at_bd rfl _ _ rfl ?_); refine wpList_store_bd rfl _ _ rfl _ rfl (w.heap.size + 1) rfl ((s.hs.length : Int) + 1) n rfl _ _ (HB0.out.grow HGy.out) ?_; intro W hr hg; have HRR := hidden hr; have HGG := hidden (hg w (HG0.out.of_below HGy.out) (by omega)); clear hr hg))
      refine bodyPost_ret (results_bd rfl _ _ _ _ _ rfl HRR.out) rfl ⟨?_, HGG.out⟩
      rw [HH.out, HLO.out]
      first | done | rfl
    · have z1 : decide ((0 : Int) < (s.fs.length : Int)) = true := decide_eq_true (by omega)
      have z2 : decide (0 < s.fs.length) = true := decide_eq_true hpos
      obtain ⟨m, hm⟩ : ∃ m, s.fs.length = m + 1 := ⟨s.fs.length - 1, by omega⟩
      obtain ⟨f, hf⟩ : ∃ f, s.fs[0]? = some f := ⟨_, List.getElem?_eq_getElem hpos⟩
      obtain ⟨l, hlst⟩ : ∃ l, s.fs[m]? = some l := ⟨_, List.getElem?_eq_getElem (by omega)⟩
      have HWD := hidden (show widK s = (l.n - f.n) % 18446744073709551616 by
        unfold widK
        rw [List.head?_eq_getElem?, hf, List.getLast?_eq_getElem?, hm, Nat.add_sub_cancel, hlst])
      have HKE := hidden (HKF.out f hf)
      have HPOS := hidden hpos
      obtain ⟨A', c', he, _, hcell⟩ := H3.out w1 HC1.out
      injection he with e1 e2 e3
      subst e1 e3
      obtain ⟨bb, off, rfl, hcell2⟩ := hcell hpos
      have kk := (hcell2 0 f hf).1
      have kf := (hcell2 0 f hf).2.1
      have kl := (hcell2 m l hlst).2.1
      rw [Nat.zero_mul, Nat.add_zero] at kf kk
      have HY := hidden (fun X (h : Grows w1 X) => show X.cell? ⟨w.heap.size, 5, none⟩ = some (.slice (some ⟨bb, off, none⟩) (m + 1) c3) ∧ X.cell? ⟨bb, off + 1, none⟩ = some (.int .i64 f.n) ∧ X.cell? ⟨bb, off + m * 3 + 1, none⟩ = some (.int .i64 l.n) from ⟨by rw [← hm]; exact (HS0.out.grow (HC1.out.of_below h)).cell 5, (h.cell (World.block_lt_of_cell? _ _ kf)).trans kf, (h.cell (World.block_lt_of_cell? _ _ kl)).trans kl⟩)
      have hm0 : m ≤ 100000 := by omega
      rw [hm] at s5 z1 z2
      have i0 : (0 : Int) < ((m + 1 : Nat) : Int) := by omega
      have i8 : 0 < m + 1 := by omega
      clear hcell hcell2 e2 kf kl hf hlst hpos hm
      by_cases h3 : f.k = 3
      · have t1 : (f.k != 3) = false := by simp [h3]
        have t2 : (f.k == 3) = true := by simp [h3]
        have HH := hidden (show HI = n by rw [HHI.out, if_neg (fun h => by have := HKE.out; omega)])
        clear h3
        go_wp2_with (first | (go_at_call 80; refine (HSP.out ((s.hs.length : Int) + 1) n _).mono ?_; rintro e wy ⟨rfl, g1⟩; have HGy := hidden (HC1.out.of_below g1); clear g1) | ((with_reducible refine at_bd rfl _ _ rfl ?_); refine wpList_store_bd rfl _ _ rfl _ rfl (w.heap.size + 1) rfl ((s.hs.length : Int) + 1) n rfl _ _ (HB0.out.grow HGy.out) ?_; intro W hr hg; have HRR := hidden hr; have HGG := hidden (hg w (HG0.out.of_below HGy.out) (by omega)); clear hr hg))
        refine bodyPost_ret (results_bd rfl _ _ _ _ _ rfl HRR.out) rfl ⟨?_, HGG.out⟩
        rw [HH.out, HLO.out]
        first | done | rfl
      · have t1 : (f.k != 3) = true := by simpa using h3
        have t2 : (f.k == 3) = false := by simpa using h3
        have HKQ := hidden (show kindK s.fs = 2 ∨ kindK s.fs = 1 by have := HKD.out; have := HKE.out; have := HPOS.out; omega)
        generalize widK s = wd at *
        generalize f.n = fn at *
        generalize l.n = ln at *
        clear h3
        go_wp2_with fail
        have i1 : wrap64 ((m : Int) + 1 - 1) = (m : Int) := by unfold wrap64; omega
        have i2 : IntKind.i64.wrap ((m : Int) + 1 - 1) = (m : Int) := by rw [IntKind.wrap_i64]; omega
        have i3 : ((m : Int) + 1 - 1) = (m : Int) := by omega
        have i5 : IntKind.i64.wrap (m : Int) = (m : Int) := by rw [IntKind.wrap_i64]; omega
        have i6 : (m : Int) < (m : Int) + 1 := by omega
        have i7 : (0 : Int) < (m : Int) + 1 := by omega
        have i4 : (((m + 1 : Nat)) : Int) = (m : Int) + 1 := by omega
        refine wp_region_loose (tabRs []) (by kernel_rfl) (by kernel_rfl) tabRs_nil ?_
        iterate 18 ((with_reducible refine loose_one (v := ?_) (a' := ?_) ?_ ?_ (fun w' hC' hG' => ?_) ?_ ?_); rotate_left 2; (focus rfl); (focus rfl); (focus (obtain ⟨p5, kf, kl⟩ := HY.out w' hC'; clear hC' hG'; go_simp; rfl)); (focus (go_simp; rfl)))
        refine loose_done (fun wz hC' hG' => ?_)
        have HCz := hidden (HC1.out.of_below hC')
        clear hC' hG' s0 s1 s2 s3 s4 s5 s6
        have hwd : IntKind.u64.wrap (IntKind.u64.wrap ln - IntKind.u64.wrap fn) = wd := by rw [HWD.out, IntKind.wrap_u64, IntKind.wrap_u64, IntKind.wrap_u64]; omega
        have hwb : 0 ≤ wd := by rw [HWD.out]; omega
        rw [hwd]
        clear hwd i1 i2 i3 i4 i5 i6 i7 z1 z2 t1 t2
        have j1 : IntKind.u64.wrap n = n := by rw [IntKind.wrap_u64]; omega
        by_cases hlt : wd < n
        · have d1 : decide (wd < n) = true := by simpa using hlt
          have j2 : IntKind.i64.wrap wd = wd := by rw [IntKind.wrap_i64]; omega
          have j3 : IntKind.i64.wrap (wd + 1) = wd + 1 := by rw [IntKind.wrap_i64]; omega
          have HH := hidden (show HI = wd + 1 by rw [HHI.out, if_pos ⟨HKQ.out, hlt⟩])
          clear hlt
          go_wp2_with (first | (go_at_call 80; refine (HSP.out ((s.hs.length : Int) + 1) (wd + 1) _).mono ?_; rintro e wy ⟨rfl, g1⟩; have HGy := hidden (HCz.out.of_below g1); clear g1) | ((with_reducible refine at_bd rfl _ _ rfl ?_); refine wpList_store_bd rfl _ _ rfl _ rfl (w.heap.size + 1) rfl ((s.hs.length : Int) + 1) (wd + 1) rfl _ _ (HB0.out.grow HGy.out) ?_; intro W hr hg; have HRR := hidden hr; have HGG := hidden (hg w (HG0.out.of_below HGy.out) (by omega)); clear hr hg))
          refine bodyPost_ret (results_bd rfl _ _ _ _ _ rfl HRR.out) rfl ⟨?_, HGG.out⟩
          rw [HH.out, HLO.out]
          first | done | rfl
        · have d1 : decide (wd < n) = false := by simpa using hlt
          have HH := hidden (show HI = n by rw [HHI.out, if_neg (fun h => hlt h.2)])
          clear hlt
          go_wp2_with (first | (go_at_call 80; refine (HSP.out ((s.hs.length : Int) + 1) n _).mono ?_; rintro e wy ⟨rfl, g1⟩; have HGy := hidden (HCz.out.of_below g1); clear g1) | ((with_reducible refine at_bd rfl _ _ rfl ?_); refine wpList_store_bd rfl _ _ rfl _ rfl (w.heap.size + 1) rfl ((s.hs.length : Int) + 1) n rfl _ _ (HB0.out.grow HGy.out) ?_; intro W hr hg; have HRR := hidden hr; have HGG := hidden (hg w (HG0.out.of_below HGy.out) (by omega)); clear hr hg))
          refine bodyPost_ret (results_bd rfl _ _ _ _ _ rfl HRR.out) rfl ⟨?_, HGG.out⟩
          rw [HH.out, HLO.out]
          first | done | rfl
end Go.Proofs.YtoaklmceejeblaaGreat
