/-
  Shaken: what the claims of this seat need of this text. No condition.
-/
import Derived.Test.YtoaklmceejeblaaGreatSkK
import Derived.Test.YtoaklmceejeblaaGreatM21
namespace Go.Proofs.YtoaklmceejeblaaGreat
open Go.RowKit
set_option linter.unusedVariables false
set_option linter.unusedSimpArgs false
set_option maxRecDepth 8000 in
set_option maxHeartbeats 16000000 in
theorem law_counts16 (v : Value) (s : Sk) (col op : Int) (x : Val) (w : World) (hk : IsK w v s) (hrow : s.rows ≤ 9223372036854775807) (hl1 : s.hs.length ≤ 140737488351232) (hl2 : s.cm.length ≤ 140737488351232) (hl3 : s.fs.length ≤ 140737488351232) (hl4 : s.rk.length ≤ 140737488351232) :
    Calls Tryz.prog 6 #[v, .agg #[.int .i64 col, .int .i64 op, .int .i64 x.k, .int .i64 x.n, .string x.t]] w fun e w' => e = .returned (.bool true) ∧ Grows w w' := by
  have HAW := hidden (fun W => qawake_any W)
  have HIK := hidden hk
  have HRV := hidden (fun X (h : Grows w X) => rValid_any _ s X (hk.grow h) (by omega) (by omega) (by omega) (by omega) hrow)
  have HVV := hidden (fun X => rvvalid_any x.k x.n x.t X)
  obtain ⟨A1, A2, A3, A4, c1, c2, c3, c4, rfl, -⟩ := hk
  obtain ⟨n1, hn1⟩ : ∃ n, n = s.hs.length := ⟨_, rfl⟩
  obtain ⟨n2, hn2⟩ : ∃ n, n = s.cm.length := ⟨_, rfl⟩
  obtain ⟨n3, hn3⟩ : ∃ n, n = s.fs.length := ⟨_, rfl⟩
  obtain ⟨n4, hn4⟩ : ∃ n, n = s.rk.length := ⟨_, rfl⟩
  rw [← hn1, ← hn2, ← hn3, ← hn4] at HIK HRV ⊢
  clear hn1 hn2 hn3 hn4 hl1 hl2 hl3 hl4
  have HRW := hidden hrow
  obtain ⟨W0, hW0⟩ : ∃ W, W = ((w.alloc (.cells #[.int .i64 s.rows, .int .i64 s.nulls, .slice A1 n1 c1, .bool s.ok, .slice A2 n2 c2, .slice A3 n3 c3, .slice A4 n4 c4] 29)).alloc (.cells #[.int .i64 col, .int .i64 op, .int .i64 x.k, .int .i64 x.n, .string x.t] 37)) := ⟨_, rfl⟩
  have HW := hidden hW0
  have HG0 := hidden (show Grows w W0 by rw [hW0]; exact (growK _ _).of_below (growK _ _))
  have hS0 : Row W0 w.heap.size 29 [.int .i64 s.rows, .int .i64 s.nulls, .slice A1 n1 c1, .bool s.ok, .slice A2 n2 c2, .slice A3 n3 c3, .slice A4 n4 c4] := by rw [hW0]; exact (skrow_new _ _ _ _ _ _ _ _).grow (growK _ _)
  have HS0 := hidden hS0
  have HP0 := hidden (show Row W0 (w.heap.size + 1) 37 [.int .i64 col, .int .i64 op, .int .i64 x.k, .int .i64 x.n, .string x.t] by
    rw [hW0]
    have h := Row.new (w.alloc (.cells #[.int .i64 s.rows, .int .i64 s.nulls, .slice A1 n1 c1, .bool s.ok, .slice A2 n2 c2, .slice A3 n3 c3, .slice A4 n4 c4] 29)) 37 #[.int .i64 col, .int .i64 op, .int .i64 x.k, .int .i64 x.n, .string x.t] [.int .i64 col, .int .i64 op, .int .i64 x.k, .int .i64 x.n, .string x.t] rfl
    have e : (w.alloc (.cells #[.int .i64 s.rows, .int .i64 s.nulls, .slice A1 n1 c1, .bool s.ok, .slice A2 n2 c2, .slice A3 n3 c3, .slice A4 n4 c4] 29)).heap.size = w.heap.size + 1 := by simp
    rwa [e] at h)
  have HX : Hid (∀ X, Grows W0 X → X.cell? ⟨w.heap.size, 0, none⟩ = some (.int .i64 s.rows) ∧ X.cell? ⟨w.heap.size, 1, none⟩ = some (.int .i64 s.nulls) ∧ X.cell? ⟨w.heap.size, 2, none⟩ = some (.slice A1 n1 c1) ∧ X.cell? ⟨w.heap.size, 3, none⟩ = some (.bool s.ok) ∧ X.cell? ⟨w.heap.size, 4, none⟩ = some (.slice A2 n2 c2) ∧ X.cell? ⟨w.heap.size, 5, none⟩ = some (.slice A3 n3 c3) ∧ X.cell? ⟨w.heap.size, 6, none⟩ = some (.slice A4 n4 c4) ∧ X.cell? ⟨w.heap.size + 1, 0, none⟩ = some (.int .i64 col) ∧ X.cell? ⟨w.heap.size + 1, 1, none⟩ = some (.int .i64 op) ∧ X.cell? ⟨w.heap.size + 1, 2, none⟩ = some (.int .i64 x.k) ∧ X.cell? ⟨w.heap.size + 1, 3, none⟩ = some (.int .i64 x.n) ∧ X.cell? ⟨w.heap.size + 1, 4, none⟩ = some (.string x.t)) := hidden fun X h => ⟨(HS0.out.grow h).cell 0, (HS0.out.grow h).cell 1, (HS0.out.grow h).cell 2, (HS0.out.grow h).cell 3, (HS0.out.grow h).cell 4, (HS0.out.grow h).cell 5, (HS0.out.grow h).cell 6, (HP0.out.grow h).cell 0, (HP0.out.grow h).cell 1, (HP0.out.grow h).cell 2, (HP0.out.grow h).cell 3, (HP0.out.grow h).cell 4⟩
  clear hS0 hrow hW0
  cases hrv : rvalB s with
  | false =>
    rw [hrv] at HRV
    clear hrv
    go_enter Tryz.func6, Tryz.ntmps6
    go_wp2_with (first | (go_at_call 19; rw [← HW.out]; refine (HRV.out _ HG0.out).mono ?_; rintro e w1 ⟨rfl, g1⟩; have HC := hidden g1; obtain ⟨s0, s1, s2, s3, s4, s5, s6, p0, p1, p2, p3, p4⟩ := HX.out w1 g1; clear g1) | (go_at_call 12; refine (HAW.out _).mono ?_; rintro e w9 ⟨rfl, g9⟩; have HC := hidden (HC.out.of_below g9); clear g9))
    go_ret
    exact ⟨rfl, HG0.out.of_below HC.out⟩
  | true =>
    rw [hrv] at HRV
    have HRVT := hidden hrv
    clear hrv
    cases hvv : validV x.k x.n x.t with
    | false =>
      rw [hvv] at HVV
      clear hvv
      go_enter Tryz.func6, Tryz.ntmps6
      go_wp2_with (first | (go_at_call 19; rw [← HW.out]; refine (HRV.out _ HG0.out).mono ?_; rintro e w1 ⟨rfl, g1⟩; have HC := hidden g1; obtain ⟨s0, s1, s2, s3, s4, s5, s6, p0, p1, p2, p3, p4⟩ := HX.out w1 g1; clear g1) | (go_at_call 20; refine (HVV.out _).mono ?_; rintro e w2 ⟨rfl, g2⟩; have HC := hidden (HC.out.of_below g2); obtain ⟨s0, s1, s2, s3, s4, s5, s6, p0, p1, p2, p3, p4⟩ := HX.out w2 HC.out; clear g2) | (go_at_call 12; refine (HAW.out _).mono ?_; rintro e w9 ⟨rfl, g9⟩; have HC := hidden (HC.out.of_below g9); clear g9))
      go_ret
      exact ⟨rfl, HG0.out.of_below HC.out⟩
    | true =>
      rw [hvv] at HVV
      obtain ⟨r1, r2, hc⟩ := counts_of HRVT.out HRW.out (show okX x from hvv)
      have hkd := kind_of_valid HRVT.out
      have hq : s.hs.length ≤ 1000000 := by have := hc.ok.hh; omega
      have hq4 : s.rk.length ≤ 1000000 := by have := hc.ok.hr; have := (rvalB_parts HRVT.out).2.2.2.2.1; omega
      have hq3 := hc.ok.hl
      have hn0 := hc.ok.hn.n0
      have hn1 := hc.ok.hn.n1
      have HQE := hidden (fun X (h : Grows w X) => qCountEqual_any _ s x r1 r2 X (HIK.out.grow h) hq hq3 hq4 hc.ok.hcl hc.ok.hn hvv hc.hr1 hc.hlo1 hc.hhi1 hc.hr2 hc.hlo2 hc.hhi2)
      have HRE := hidden (fun X (h : Grows w X) => rCountEqual_any _ s x X (HIK.out.grow h) hc.ok.hh hq3 hc.ok.hcl hc.ok.hr hc.ok.hn hvv (hc.ok.hM true) (hc.ok.hm false))
      have HQL := hidden (fun X (h : Grows w X) => qCountLess_any _ s x r2 X (HIK.out.grow h) hq3 hq4 ⟨by omega, hn1⟩ hc.hr2 hc.hlo2 hc.hhi2)
      have HRL := hidden (fun X (h : Grows w X) => rCountLess_any _ s x X (HIK.out.grow h) hq3 hc.ok.hr ⟨by omega, hn1⟩)
      have HQA := hidden (fun X (h : Grows w X) => qcountAtMost_any _ s x r1 X (HIK.out.grow h) hq3 hq4 ⟨by omega, hn1⟩ hc.hr1 hc.hlo1 hc.hhi1)
      have b1 := hc.ok.hn.lo r1
      have b2 := hc.ok.hn.hi r1
      have b3 := hc.ok.hn.lo r2
      have b4 := hc.ok.hn.hi r2
      have HQM := hidden (fun X (h : Grows w X) => qCountMatching_any _ s x col op (ceqLo s x r1 r2) (ceqHi s x r1 r2) (bfLo s r2) (bfHi s r2) (bfLo s r1) (bfHi s r1) X (HIK.out.grow h) ⟨hn0, hn1⟩ (fun W g => HQE.out W (h.of_below g)) (fun W g => HQL.out W (h.of_below g)) (fun W g => HQA.out W (h.of_below g))
        (by have := hc.ok.el; rwa [hc.eLo] at this) (by have := hc.ok.eh; rwa [hc.eHi] at this) (by omega) (by omega) (by omega) (by omega))
      have HRM := hidden (fun X (h : Grows w X) => rCountMatching_any _ s x col op X (HIK.out.grow h) hc.ok)
      have HMS := hidden (show rcmP s x op = cmP op s.nulls (s.rows - s.nulls) (foreignB s.fs x) (ceqLo s x r1 r2) (ceqHi s x r1 r2) (bfLo s r2) (bfHi s r2) (bfLo s r1) (bfHi s r1) by unfold rcmP; rw [hc.eLo, hc.eHi, hc.m0, hc.M0, hc.m1, hc.M1])
      have HQD := hidden (fun X (h : Grows w X) => const_loose16 (qCountDistinct_any _ s X (HIK.out.grow h) hq hq3 hn0 hn1))
      have HRD := hidden (fun X (h : Grows w X) => const_loose16 (rCountDistinct_any _ s X (HIK.out.grow h) hq hq3 hn0 hn1 hkd))
      rw [hc.eLo, hc.eHi] at HRE
      rw [hc.lLo, hc.lHi] at HRL
      rw [HMS.out] at HRM
      have HQE2 := hidden (fun X (h : Grows w X) => const_loose16 (HQE.out X h))
      have HRE2 := hidden (fun X (h : Grows w X) => const_loose16 (HRE.out X h))
      have HQL2 := hidden (fun X (h : Grows w X) => const_loose16 (HQL.out X h))
      have HRL2 := hidden (fun X (h : Grows w X) => const_loose16 (HRL.out X h))
      have HQM2 := hidden (fun X (h : Grows w X) => const_loose16 (HQM.out X h))
      have HRM2 := hidden (fun X (h : Grows w X) => const_loose16 (HRM.out X h))
      have HA2 := hidden (fun X => const_loose16 (HAW.out X))
      clear hvv hc hkd hq hq3 hq4 hn0 hn1 b1 b2 b3 b4 HQE HRE HQL HRL HQA HQM HRM HMS HIK
      generalize ceqLo s x r1 r2 = e0 at *
      generalize ceqHi s x r1 r2 = e1 at *
      generalize cmP op s.nulls (s.rows - s.nulls) (foreignB s.fs x) e0 e1 (bfLo s r2) (bfHi s r2) (bfLo s r1) (bfHi s r1) = m at *
      generalize bfLo s r2 = l0 at *
      generalize bfHi s r2 = l1 at *
      generalize cdLo s = d0 at *
      generalize cdHi s = d1 at *
      obtain ⟨m0, m1⟩ := m
      simp only [] at HQM2 HRM2
      go_enter Tryz.func6, Tryz.ntmps6
      go_wp2_with (first | (go_at_call 19; rw [← HW.out]; refine (HRV.out _ HG0.out).mono ?_; rintro e w1 ⟨rfl, g1⟩; have HC := hidden g1; obtain ⟨s0, s1, s2, s3, s4, s5, s6, p0, p1, p2, p3, p4⟩ := HX.out w1 g1; clear g1) | (go_at_call 20; refine (HVV.out _).mono ?_; rintro e w2 ⟨rfl, g2⟩; have HC := hidden (HC.out.of_below g2); obtain ⟨s0, s1, s2, s3, s4, s5, s6, p0, p1, p2, p3, p4⟩ := HX.out w2 HC.out; obtain ⟨s0a, s1a, s2a, s3a, s4a, s5a, s6a, p0a, p1a, p2a, p3a, p4a⟩ := HX.out (w2.alloc (.cells #[.int .i64 x.k, .int .i64 x.n, .string x.t] 35)) (HC.out.of_below (growK _ _)); clear g2))
      have HY := hidden (fun X (h : Grows (w2.alloc (.cells #[.int .i64 x.k, .int .i64 x.n, .string x.t] 35)) X) => And.intro (HX.out X (HC.out.of_below ((growK _ _).of_below h))) (show X.cell? ⟨w2.heap.size, 0, none⟩ = some (.int .i64 x.k) ∧ X.cell? ⟨w2.heap.size, 1, none⟩ = some (.int .i64 x.n) ∧ X.cell? ⟨w2.heap.size, 2, none⟩ = some (.string x.t) from ⟨((Row.new w2 35 #[.int .i64 x.k, .int .i64 x.n, .string x.t] [.int .i64 x.k, .int .i64 x.n, .string x.t] rfl).grow h).cell 0, ((Row.new w2 35 #[.int .i64 x.k, .int .i64 x.n, .string x.t] [.int .i64 x.k, .int .i64 x.n, .string x.t] rfl).grow h).cell 1, ((Row.new w2 35 #[.int .i64 x.k, .int .i64 x.n, .string x.t] [.int .i64 x.k, .int .i64 x.n, .string x.t] rfl).grow h).cell 2⟩))
      obtain ⟨W3, hW3⟩ : ∃ W, W = w2.alloc (.cells #[.int .i64 x.k, .int .i64 x.n, .string x.t] 35) := ⟨_, rfl⟩
      have HG3 := hidden (show Grows w W3 by rw [hW3]; exact HG0.out.of_below (HC.out.of_below (growK _ _)))
      rw [← hW3] at HY
      rw [← hW3]
      clear hW3 s0 s1 s2 s3 s4 s5 s6 p0 p1 p2 p3 p4 s0a s1a s2a s3a s4a s5a s6a p0a p1a p2a p3a p4a
      refine wp_region_loose (tabRs [(2, ConstV (.agg #[.int .i64 e0, .int .i64 e1])), (5, ConstV (.agg #[.int .i64 e0, .int .i64 e1])), (10, ConstV (.agg #[.int .i64 l0, .int .i64 l1])), (13, ConstV (.agg #[.int .i64 l0, .int .i64 l1])), (19, ConstV (.agg #[.int .i64 m0, .int .i64 m1])), (22, ConstV (.agg #[.int .i64 m0, .int .i64 m1])), (27, ConstV (.agg #[.int .i64 d0, .int .i64 d1])), (29, ConstV (.agg #[.int .i64 d0, .int .i64 d1])), (33, ConstV (.bool true))]) (by kernel_rfl) (by kernel_rfl) (tabRs_cons ConstV.lasts (tabRs_cons ConstV.lasts (tabRs_cons ConstV.lasts (tabRs_cons ConstV.lasts (tabRs_cons ConstV.lasts (tabRs_cons ConstV.lasts (tabRs_cons ConstV.lasts (tabRs_cons ConstV.lasts (tabRs_cons ConstV.lasts tabRs_nil))))))))) ?_
      iterate 2 ((with_reducible refine loose_one (v := ?_) (a' := ?_) ?_ ?_ (fun w' hC' hG' => ?_) ?_ ?_); rotate_left 2; (focus rfl); (focus rfl); (focus (obtain ⟨⟨s0, s1, s2, s3, s4, s5, s6, p0, p1, p2, p3, p4⟩, v0, v1, v2⟩ := HY.out w' hC'; clear hC' hG'; go_simp; rfl)); (focus (go_simp; rfl)))
      refine loose_call (R := ConstV (.agg #[.int .i64 e0, .int .i64 e1])) (f := 21) (args := #[.agg #[.int .i64 s.rows, .int .i64 s.nulls, .slice A1 n1 c1, .bool s.ok, .slice A2 n2 c2, .slice A3 n3 c3, .slice A4 n4 c4], .agg #[.int .i64 x.k, .int .i64 x.n, .string x.t]]) (by rfl) (by rfl) (fun _ => by go_simp) (fun w' hC' hG' => HQE2.out w' (HG3.out.of_below hC')) ?_
      rintro _ ⟨_, _, rfl⟩
      refine ⟨?_, ?_, ?_⟩
      rotate_left
      · go_simp
        rfl
      iterate 2 ((with_reducible refine loose_one (v := ?_) (a' := ?_) ?_ ?_ (fun w' hC' hG' => ?_) ?_ ?_); rotate_left 2; (focus rfl); (focus rfl); (focus (obtain ⟨⟨s0, s1, s2, s3, s4, s5, s6, p0, p1, p2, p3, p4⟩, v0, v1, v2⟩ := HY.out w' hC'; clear hC' hG'; go_simp; rfl)); (focus (go_simp; rfl)))
      refine loose_call (R := ConstV (.agg #[.int .i64 e0, .int .i64 e1])) (f := 22) (args := #[.agg #[.int .i64 s.rows, .int .i64 s.nulls, .slice A1 n1 c1, .bool s.ok, .slice A2 n2 c2, .slice A3 n3 c3, .slice A4 n4 c4], .agg #[.int .i64 x.k, .int .i64 x.n, .string x.t]]) (by rfl) (by rfl) (fun _ => by go_simp) (fun w' hC' hG' => HRE2.out w' (HG3.out.of_below hC')) ?_
      rintro _ ⟨_, _, rfl⟩
      refine ⟨?_, ?_, ?_⟩
      rotate_left
      · go_simp
        rfl
      iterate 4 ((with_reducible refine loose_one (v := ?_) (a' := ?_) ?_ ?_ (fun w' hC' hG' => ?_) ?_ ?_); rotate_left 2; (focus rfl); (focus rfl); (focus (obtain ⟨⟨s0, s1, s2, s3, s4, s5, s6, p0, p1, p2, p3, p4⟩, v0, v1, v2⟩ := HY.out w' hC'; clear hC' hG'; go_simp; rfl)); (focus (go_simp; rfl)))
      refine loose_call (R := ConstV (.agg #[.int .i64 l0, .int .i64 l1])) (f := 23) (args := #[.agg #[.int .i64 s.rows, .int .i64 s.nulls, .slice A1 n1 c1, .bool s.ok, .slice A2 n2 c2, .slice A3 n3 c3, .slice A4 n4 c4], .agg #[.int .i64 x.k, .int .i64 x.n, .string x.t]]) (by rfl) (by rfl) (fun _ => by go_simp) (fun w' hC' hG' => HQL2.out w' (HG3.out.of_below hC')) ?_
      rintro _ ⟨_, _, rfl⟩
      refine ⟨?_, ?_, ?_⟩
      rotate_left
      · go_simp
        rfl
      iterate 2 ((with_reducible refine loose_one (v := ?_) (a' := ?_) ?_ ?_ (fun w' hC' hG' => ?_) ?_ ?_); rotate_left 2; (focus rfl); (focus rfl); (focus (obtain ⟨⟨s0, s1, s2, s3, s4, s5, s6, p0, p1, p2, p3, p4⟩, v0, v1, v2⟩ := HY.out w' hC'; clear hC' hG'; go_simp; rfl)); (focus (go_simp; rfl)))
      refine loose_call (R := ConstV (.agg #[.int .i64 l0, .int .i64 l1])) (f := 24) (args := #[.agg #[.int .i64 s.rows, .int .i64 s.nulls, .slice A1 n1 c1, .bool s.ok, .slice A2 n2 c2, .slice A3 n3 c3, .slice A4 n4 c4], .agg #[.int .i64 x.k, .int .i64 x.n, .string x.t]]) (by rfl) (by rfl) (fun _ => by go_simp) (fun w' hC' hG' => HRL2.out w' (HG3.out.of_below hC')) ?_
      rintro _ ⟨_, _, rfl⟩
      refine ⟨?_, ?_, ?_⟩
      rotate_left
      · go_simp
        rfl
      iterate 5 ((with_reducible refine loose_one (v := ?_) (a' := ?_) ?_ ?_ (fun w' hC' hG' => ?_) ?_ ?_); rotate_left 2; (focus rfl); (focus rfl); (focus (obtain ⟨⟨s0, s1, s2, s3, s4, s5, s6, p0, p1, p2, p3, p4⟩, v0, v1, v2⟩ := HY.out w' hC'; clear hC' hG'; go_simp; rfl)); (focus (go_simp; rfl)))
      refine loose_call (R := ConstV (.agg #[.int .i64 m0, .int .i64 m1])) (f := 25) (args := #[.agg #[.int .i64 s.rows, .int .i64 s.nulls, .slice A1 n1 c1, .bool s.ok, .slice A2 n2 c2, .slice A3 n3 c3, .slice A4 n4 c4], .agg #[.int .i64 col, .int .i64 op, .int .i64 x.k, .int .i64 x.n, .string x.t]]) (by rfl) (by rfl) (fun _ => by go_simp) (fun w' hC' hG' => HQM2.out w' (HG3.out.of_below hC')) ?_
      rintro _ ⟨_, _, rfl⟩
      refine ⟨?_, ?_, ?_⟩
      rotate_left
      · go_simp
        rfl
      iterate 2 ((with_reducible refine loose_one (v := ?_) (a' := ?_) ?_ ?_ (fun w' hC' hG' => ?_) ?_ ?_); rotate_left 2; (focus rfl); (focus rfl); (focus (obtain ⟨⟨s0, s1, s2, s3, s4, s5, s6, p0, p1, p2, p3, p4⟩, v0, v1, v2⟩ := HY.out w' hC'; clear hC' hG'; go_simp; rfl)); (focus (go_simp; rfl)))
      refine loose_call (R := ConstV (.agg #[.int .i64 m0, .int .i64 m1])) (f := 26) (args := #[.agg #[.int .i64 s.rows, .int .i64 s.nulls, .slice A1 n1 c1, .bool s.ok, .slice A2 n2 c2, .slice A3 n3 c3, .slice A4 n4 c4], .agg #[.int .i64 col, .int .i64 op, .int .i64 x.k, .int .i64 x.n, .string x.t]]) (by rfl) (by rfl) (fun _ => by go_simp) (fun w' hC' hG' => HRM2.out w' (HG3.out.of_below hC')) ?_
      rintro _ ⟨_, _, rfl⟩
      refine ⟨?_, ?_, ?_⟩
      rotate_left
      · go_simp
        rfl
      iterate 4 ((with_reducible refine loose_one (v := ?_) (a' := ?_) ?_ ?_ (fun w' hC' hG' => ?_) ?_ ?_); rotate_left 2; (focus rfl); (focus rfl); (focus (obtain ⟨⟨s0, s1, s2, s3, s4, s5, s6, p0, p1, p2, p3, p4⟩, v0, v1, v2⟩ := HY.out w' hC'; clear hC' hG'; go_simp; rfl)); (focus (go_simp; rfl)))
      refine loose_call (R := ConstV (.agg #[.int .i64 d0, .int .i64 d1])) (f := 27) (args := #[.agg #[.int .i64 s.rows, .int .i64 s.nulls, .slice A1 n1 c1, .bool s.ok, .slice A2 n2 c2, .slice A3 n3 c3, .slice A4 n4 c4]]) (by rfl) (by rfl) (fun _ => by go_simp) (fun w' hC' hG' => HQD.out w' (HG3.out.of_below hC')) ?_
      rintro _ ⟨_, _, rfl⟩
      refine ⟨?_, ?_, ?_⟩
      rotate_left
      · go_simp
        rfl
      iterate 1 ((with_reducible refine loose_one (v := ?_) (a' := ?_) ?_ ?_ (fun w' hC' hG' => ?_) ?_ ?_); rotate_left 2; (focus rfl); (focus rfl); (focus (obtain ⟨⟨s0, s1, s2, s3, s4, s5, s6, p0, p1, p2, p3, p4⟩, v0, v1, v2⟩ := HY.out w' hC'; clear hC' hG'; go_simp; rfl)); (focus (go_simp; rfl)))
      refine loose_call (R := ConstV (.agg #[.int .i64 d0, .int .i64 d1])) (f := 28) (args := #[.agg #[.int .i64 s.rows, .int .i64 s.nulls, .slice A1 n1 c1, .bool s.ok, .slice A2 n2 c2, .slice A3 n3 c3, .slice A4 n4 c4]]) (by rfl) (by rfl) (fun _ => by go_simp) (fun w' hC' hG' => HRD.out w' (HG3.out.of_below hC')) ?_
      rintro _ ⟨_, _, rfl⟩
      refine ⟨?_, ?_, ?_⟩
      rotate_left
      · go_simp
        rfl
      iterate 3 ((with_reducible refine loose_one (v := ?_) (a' := ?_) ?_ ?_ (fun w' hC' hG' => ?_) ?_ ?_); rotate_left 2; (focus rfl); (focus rfl); (focus (obtain ⟨⟨s0, s1, s2, s3, s4, s5, s6, p0, p1, p2, p3, p4⟩, v0, v1, v2⟩ := HY.out w' hC'; clear hC' hG'; go_simp; rfl)); (focus (go_simp; rfl)))
      refine loose_call (R := ConstV (.bool true)) (f := 12) (args := #[]) (by rfl) (by rfl) (fun _ => by go_simp) (fun w' hC' hG' => HA2.out w') ?_
      rintro _ ⟨_, _, rfl⟩
      refine ⟨?_, ?_, ?_⟩
      rotate_left
      · go_simp
        rfl
      iterate 2 ((with_reducible refine loose_one (v := ?_) (a' := ?_) ?_ ?_ (fun w' hC' hG' => ?_) ?_ ?_); rotate_left 2; (focus rfl); (focus rfl); (focus (obtain ⟨⟨s0, s1, s2, s3, s4, s5, s6, p0, p1, p2, p3, p4⟩, v0, v1, v2⟩ := HY.out w' hC'; clear hC' hG'; go_simp; rfl)); (focus (go_simp; rfl)))
      refine loose_done (fun w9 hC9 hG9 => ?_)
      have HB9 := hidden (HG3.out.of_below hC9)
      clear hC9 hG9
      go_wp2_with fail
      go_ret
      exact ⟨rfl, HB9.out⟩
end Go.Proofs.YtoaklmceejeblaaGreat
