/-
  Shaken: what the claims of this seat need of this text. No condition.
-/
import Derived.Test.YtoaklmceejeblaaGreatSkG
namespace Go.Proofs.YtoaklmceejeblaaGreat
open Go.RowKit
set_option linter.unusedVariables false
set_option linter.unusedSimpArgs false
def CeqRel (W : World) (fs : List Val) (rk : List Int) (x : Val) (l i : Value) (wr : World) : Prop := ∃ k : Nat, k ≤ fs.length ∧ i = .int .i64 (k : Int) ∧ l = .int .i64 (leastK fs rk x k) ∧ Grows W wr
def MostRel (W : World) (cm : List Int) (x : Val) (m : Int) (a i : Value) (wr : World) : Prop := ∃ k : Nat, k ≤ 4 ∧ i = .int .i64 (k : Int) ∧ a = .int .i64 (mostK cm x m k) ∧ Grows W wr
theorem cellN_lt (r : Nat) (x : Val) (hr : r ≤ 3) : cellN r x < 256 := by
  unfold cellN
  have := Nat.mod_lt (hashR (mix (4 + r)) [x]) (show 0 < 64 by decide)
  omega
set_option maxRecDepth 8000 in
set_option maxHeartbeats 64000000 in
theorem rCountEqual_any (v : Value) (s : Sk) (x : Val) (w : World) (hk : IsK w v s) (hh : s.hs.length ≤ 100000) (hl : s.fs.length ≤ 100000) (hcl : s.cm.length = 256) (hr : s.rk.length = 2 * s.fs.length) (hn : OkRk s) (hv : validV x.k x.n x.t = true)
    (hM : 0 ≤ lessMaxF (s.rows - s.nulls) x true s.fs s.rk ∧ lessMaxF (s.rows - s.nulls) x true s.fs s.rk ≤ 9223372036854775807) (hm : 0 ≤ lessMinF x false 0 s.fs s.rk ∧ lessMinF x false 0 s.fs s.rk ≤ 9223372036854775807) :
    Calls Tryz.prog 22 #[v, .agg #[.int .i64 x.k, .int .i64 x.n, .string x.t]] w fun e w' => e = .returned (.agg #[.int .i64 (rceqLo s x), .int .i64 (rceqHi s x)]) ∧ Grows w w' := by
  have HIK := hidden hk
  obtain ⟨A1, A2, A3, A4, c1, c2, c3, c4, rfl, -, h2, h3, h4⟩ := hk
  have HFO := hidden (fun W (h : Grows w W) => const_loose16 (rforeign_any _ s x W (HIK.out.grow h)))
  have HHS := hidden (fun W (h : Grows w W) => const_loose16 (rhashed_any _ s x W (HIK.out.grow h) hh hv))
  have HMX := hidden (fun W (h : Grows w W) => const_loose16 (rLessMax_any _ s x true W (HIK.out.grow h) hl hr ⟨by have := hn.n0; omega, hn.n1⟩))
  have HMN := hidden (fun W (h : Grows w W) => const_loose16 (rLessMin_any _ s x false W (HIK.out.grow h) hl hr))
  have HCE := hidden (fun (r : Nat) W (hr : r ≤ 3) => const_loose16 (rCell_any r x W hr hv))
  have HCX := hidden (fun (f : Val) W => const_loose16 (show Calls Tryz.prog 33 #[.agg #[.int .i64 x.k, .int .i64 x.n, .string x.t], .agg #[.int .i64 f.k, .int .i64 f.n, .string f.t]] W fun e w' => e = .returned (.int .i64 (cmpX x f)) ∧ Grows W w' from rcompare_any x.k x.n f.k f.n x.t f.t W))
  have HEQ := hidden (fun (f : Val) W => const_loose16 (show Calls Tryz.prog 56 #[.agg #[.int .i64 f.k, .int .i64 f.n, .string f.t], .agg #[.int .i64 x.k, .int .i64 x.n, .string x.t]] W fun e w' => e = .returned (.bool (cmpX f x == 0)) ∧ Grows W w' from requal4_any f.k f.n x.k x.n f.t x.t W))
  have HSP := hidden (fun a b W => rspan_any a b W)
  have HSQ := hidden (fun a b W => const_loose16 (rspan_any a b W))
  have HF : Hid (rceqOut s x = (foreignB s.fs x || outsB s.fs x || (s.ok && !decide (hashR (mix 3) [x] ∈ s.hs)))) := hidden rfl
  have HOU : Hid (outsB s.fs x = (decide (cmpX x (s.fs.getD 0 nulX) < 0) || decide (0 < cmpX x (s.fs.getD (s.fs.length - 1) nulX)))) := hidden rfl
  have HLO : Hid (rceqLo s x = if rceqOut s x = true then 0 else leastK s.fs s.rk x s.fs.length) := hidden rfl
  have HHI : Hid (rceqHi s x = if rceqOut s x = true then 0 else mostK s.cm x (lessMaxF (s.rows - s.nulls) x true s.fs s.rk - lessMinF x false 0 s.fs s.rk) 4) := hidden rfl
  have HRG := hidden (fun i => (⟨(hn.get i).1, Int.le_trans (hn.get i).2 hn.n1⟩ : 0 ≤ s.rk.getD i 0 ∧ s.rk.getD i 0 ≤ 9223372036854775807))
  have HFE := hidden (show s.fs.length = 0 → foreignB s.fs x = true from fun h => by rw [List.length_eq_zero_iff.1 h]; unfold foreignB; simp)
  have HMM := hidden hM
  have HMI := hidden hm
  have HRL2 := hidden hr
  have HCM := hidden hcl
  rw [hcl] at HFO HHS HMX HMN h2 ⊢
  clear hM hm hr hn HIK hh hcl
  obtain ⟨L1, hL1⟩ : ∃ L, L = s.hs.length := ⟨_, rfl⟩
  obtain ⟨M, hME⟩ : ∃ L, L = s.fs.length := ⟨_, rfl⟩
  obtain ⟨RL, hRL⟩ : ∃ L, L = s.rk.length := ⟨_, rfl⟩
  rw [← hL1, ← hME, ← hRL] at HFO HHS HMX HMN ⊢
  rw [← hME] at h3 HRL2 hl HLO HOU HFE
  rw [← hRL] at h4 HRL2
  have HRE := hidden hRL
  have HME := hidden hME
  clear hL1 hRL
  generalize rceqOut s x = out at *
  generalize hmx : lessMaxF (s.rows - s.nulls) x true s.fs s.rk = mx at *
  generalize hmn : lessMinF x false 0 s.fs s.rk = mn at *
  generalize rceqLo s x = LO at *
  generalize rceqHi s x = HI at *
  clear hmx hmn
  obtain ⟨W0, hW0⟩ : ∃ W, W = (((w.alloc (.cells #[.int .i64 s.rows, .int .i64 s.nulls, .slice A1 L1 c1, .bool s.ok, .slice A2 256 c2, .slice A3 M c3, .slice A4 RL c4] 29)).alloc (.cells #[.int .i64 x.k, .int .i64 x.n, .string x.t] 35)).alloc (.cells #[.int .i64 0, .int .i64 0] 40)) := ⟨_, rfl⟩
  have HG0 := hidden (show Grows w W0 by rw [hW0]; exact ((growK _ _).of_below (growK _ _)).of_below (growK _ _))
  have HS0 := hidden (show Row W0 w.heap.size 29 [.int .i64 s.rows, .int .i64 s.nulls, .slice A1 L1 c1, .bool s.ok, .slice A2 256 c2, .slice A3 M c3, .slice A4 RL c4] by rw [hW0]; exact (skx_rows _ _ _ _ _ _ _ _ _ _ _ _).1)
  have HX0 := hidden (show Row W0 (w.heap.size + 1) 35 [.int .i64 x.k, .int .i64 x.n, .string x.t] by rw [hW0]; exact (skx_rows _ _ _ _ _ _ _ _ _ _ _ _).2)
  have HB0 := hidden (show Row W0 (w.heap.size + 1 + 1) 40 [.int .i64 0, .int .i64 0] by rw [hW0]; exact bdrow_at2 _ _ _ _ _)
  by_cases hfo : foreignB s.fs x = true
  · rw [hfo] at HFO HF
    have HO := hidden (show out = true by rw [HF.out]; rfl)
    clear hfo h2 h3 h4 hME
    have HX : Hid (∀ X, Grows W0 X → X.cell? ⟨w.heap.size, 0, none⟩ = some (.int .i64 s.rows) ∧ X.cell? ⟨w.heap.size, 1, none⟩ = some (.int .i64 s.nulls) ∧ X.cell? ⟨w.heap.size, 2, none⟩ = some (.slice A1 L1 c1) ∧ X.cell? ⟨w.heap.size, 3, none⟩ = some (.bool s.ok) ∧ X.cell? ⟨w.heap.size, 4, none⟩ = some (.slice A2 256 c2) ∧ X.cell? ⟨w.heap.size, 5, none⟩ = some (.slice A3 M c3) ∧ X.cell? ⟨w.heap.size, 6, none⟩ = some (.slice A4 RL c4) ∧ X.cell? ⟨w.heap.size + 1, 0, none⟩ = some (.int .i64 x.k) ∧ X.cell? ⟨w.heap.size + 1, 1, none⟩ = some (.int .i64 x.n) ∧ X.cell? ⟨w.heap.size + 1, 2, none⟩ = some (.string x.t)) := hidden fun X h => ⟨(HS0.out.grow h).cell 0, (HS0.out.grow h).cell 1, (HS0.out.grow h).cell 2, (HS0.out.grow h).cell 3, (HS0.out.grow h).cell 4, (HS0.out.grow h).cell 5, (HS0.out.grow h).cell 6, (HX0.out.grow h).cell 0, (HX0.out.grow h).cell 1, (HX0.out.grow h).cell 2⟩
    go_enter Tryz.func22, Tryz.ntmps22
    go_wp2_with fail
    rw [← hW0]
    clear hW0
    refine wp_region_loose (tabRs [(2, ConstV (.bool true))]) (by kernel_rfl) (by kernel_rfl) (tabRs_cons ConstV.lasts tabRs_nil) ?_
    iterate 2 ((with_reducible refine loose_one (v := ?_) (a' := ?_) ?_ ?_ (fun w' hC' hG' => ?_) ?_ ?_); rotate_left 2; (focus rfl); (focus rfl); (focus (obtain ⟨s0, s1, s2, s3, s4, s5, s6, x0, x1, x2⟩ := HX.out w' hC'; clear hC' hG'; go_simp; rfl)); (focus (go_simp; rfl)))
    refine loose_call (R := ConstV (.bool true)) (f := 78) (args := #[.agg #[.int .i64 s.rows, .int .i64 s.nulls, .slice A1 L1 c1, .bool s.ok, .slice A2 256 c2, .slice A3 M c3, .slice A4 RL c4], .agg #[.int .i64 x.k, .int .i64 x.n, .string x.t]]) (by rfl) (by rfl) (fun _ => by go_simp) (fun w' hC' hG' => HFO.out w' (HG0.out.of_below hC')) ?_
    rintro _ ⟨_, _, rfl⟩
    refine ⟨?_, ?_, ?_⟩
    rotate_left
    · go_simp
      rfl
    iterate 1 ((with_reducible refine loose_one (v := ?_) (a' := ?_) ?_ ?_ (fun w' hC' hG' => ?_) ?_ ?_); rotate_left 2; (focus rfl); (focus rfl); (focus (obtain ⟨s0, s1, s2, s3, s4, s5, s6, x0, x1, x2⟩ := HX.out w' hC'; clear hC' hG'; go_simp; rfl)); (focus (go_simp; rfl)))
    iterate 7 ((with_reducible refine loose_skip (a' := ?_) ?_ ?_ ?_); rotate_left 1; (focus rfl); (focus (go_simp; rfl)))
    iterate 2 ((with_reducible refine loose_one (v := ?_) (a' := ?_) ?_ ?_ (fun w' hC' hG' => ?_) ?_ ?_); rotate_left 2; (focus rfl); (focus rfl); (focus (obtain ⟨s0, s1, s2, s3, s4, s5, s6, x0, x1, x2⟩ := HX.out w' hC'; clear hC' hG'; go_simp; rfl)); (focus (go_simp; rfl)))
    iterate 11 ((with_reducible refine loose_skip (a' := ?_) ?_ ?_ ?_); rotate_left 1; (focus rfl); (focus (go_simp; rfl)))
    iterate 2 ((with_reducible refine loose_one (v := ?_) (a' := ?_) ?_ ?_ (fun w' hC' hG' => ?_) ?_ ?_); rotate_left 2; (focus rfl); (focus rfl); (focus (obtain ⟨s0, s1, s2, s3, s4, s5, s6, x0, x1, x2⟩ := HX.out w' hC'; clear hC' hG'; go_simp; rfl)); (focus (go_simp; rfl)))
    iterate 8 ((with_reducible refine loose_skip (a' := ?_) ?_ ?_ ?_); rotate_left 1; (focus rfl); (focus (go_simp; rfl)))
    iterate 1 ((with_reducible refine loose_one (v := ?_) (a' := ?_) ?_ ?_ (fun w' hC' hG' => ?_) ?_ ?_); rotate_left 2; (focus rfl); (focus rfl); (focus (obtain ⟨s0, s1, s2, s3, s4, s5, s6, x0, x1, x2⟩ := HX.out w' hC'; clear hC' hG'; go_simp; rfl)); (focus (go_simp; rfl)))
    refine loose_done (fun w5 hC5 hG5 => ?_)
    have HC5 := hidden hC5
    clear hC5 hG5
    go_wp2_with (first | (go_at_call 80; refine (HSP.out 0 0 _).mono ?_; rintro e wy ⟨rfl, g1⟩; have HGy := hidden (HC5.out.of_below g1); clear g1) | ((with_reducible refine at_bd rfl _ _ rfl ?_); refine wpList_store_bd rfl _ _ rfl _ rfl (w.heap.size + 1 + 1) rfl 0 0 rfl _ _ (HB0.out.grow HGy.out) ?_; intro W hr hg; have HRR := hidden hr; have HGG := hidden (hg w (HG0.out.of_below HGy.out) (by omega)); clear hr hg))
    refine bodyPost_ret (results_bd rfl _ _ _ _ _ rfl HRR.out) rfl ⟨?_, HGG.out⟩
    rw [HLO.out, HHI.out, HO.out]
    first | done | rfl
  have hfo2 : foreignB s.fs x = false := by simpa using hfo
  have HMP := hidden (show M ≠ 0 from fun h => hfo (HFE.out h))
  rw [hfo2] at HFO HF
  clear hfo hfo2 HFE
  obtain ⟨m, rfl⟩ : ∃ m, M = m + 1 := ⟨M - 1, by have := HMP.out; omega⟩
  obtain ⟨f, hf⟩ : ∃ f, s.fs[0]? = some f := ⟨_, List.getElem?_eq_getElem (by rw [← hME]; omega)⟩
  obtain ⟨l, hlst⟩ : ∃ l, s.fs[m]? = some l := ⟨_, List.getElem?_eq_getElem (by rw [← hME]; omega)⟩
  have hg0 : s.fs.getD 0 nulX = f := getD_of_some hf
  have hgl : s.fs.getD m nulX = l := getD_of_some hlst
  rw [Nat.add_sub_cancel, hg0, hgl] at HOU
  have HR3 := hidden (fun X (h : Grows W0 X) => h3.grow (HG0.out.of_below h))
  obtain ⟨A', c', he, _, hcell⟩ := HR3.out W0 (Below.refl _ _)
  rw [← hME] at he
  injection he with e1 e2 e3
  subst e1 e3
  obtain ⟨bb, off, rfl, hcell2⟩ := hcell (by rw [← hME]; omega)
  have HCL := hidden hcell2
  obtain ⟨kf0, kf1, kf2⟩ := hcell2 0 f hf
  obtain ⟨kl0, kl1, kl2⟩ := hcell2 m l hlst
  rw [Nat.zero_mul, Nat.add_zero] at kf0 kf1 kf2
  clear hcell hcell2 e2 hf hlst hg0 hgl h3 HR3 HMP
  have HX : Hid (∀ X, Grows W0 X → X.cell? ⟨w.heap.size, 0, none⟩ = some (.int .i64 s.rows) ∧ X.cell? ⟨w.heap.size, 1, none⟩ = some (.int .i64 s.nulls) ∧ X.cell? ⟨w.heap.size, 2, none⟩ = some (.slice A1 L1 c1) ∧ X.cell? ⟨w.heap.size, 3, none⟩ = some (.bool s.ok) ∧ X.cell? ⟨w.heap.size, 4, none⟩ = some (.slice A2 256 c2) ∧ X.cell? ⟨w.heap.size, 5, none⟩ = some (.slice (some ⟨bb, off, none⟩) (m + 1) c3) ∧ X.cell? ⟨w.heap.size, 6, none⟩ = some (.slice A4 RL c4) ∧ X.cell? ⟨w.heap.size + 1, 0, none⟩ = some (.int .i64 x.k) ∧ X.cell? ⟨w.heap.size + 1, 1, none⟩ = some (.int .i64 x.n) ∧ X.cell? ⟨w.heap.size + 1, 2, none⟩ = some (.string x.t)) := hidden fun X h => ⟨(HS0.out.grow h).cell 0, (HS0.out.grow h).cell 1, (HS0.out.grow h).cell 2, (HS0.out.grow h).cell 3, (HS0.out.grow h).cell 4, (HS0.out.grow h).cell 5, (HS0.out.grow h).cell 6, (HX0.out.grow h).cell 0, (HX0.out.grow h).cell 1, (HX0.out.grow h).cell 2⟩
  have HY := hidden (fun X (h : Grows W0 X) => show (X.cell? ⟨bb, off, none⟩ = some (.int .i64 f.k) ∧ X.cell? ⟨bb, off + 1, none⟩ = some (.int .i64 f.n) ∧ X.cell? ⟨bb, off + 2, none⟩ = some (.string f.t)) ∧ X.cell? ⟨bb, off + m * 3, none⟩ = some (.int .i64 l.k) ∧ X.cell? ⟨bb, off + m * 3 + 1, none⟩ = some (.int .i64 l.n) ∧ X.cell? ⟨bb, off + m * 3 + 2, none⟩ = some (.string l.t) from
    ⟨⟨(h.cell (World.block_lt_of_cell? _ _ kf0)).trans kf0, (h.cell (World.block_lt_of_cell? _ _ kf1)).trans kf1, (h.cell (World.block_lt_of_cell? _ _ kf2)).trans kf2⟩, (h.cell (World.block_lt_of_cell? _ _ kl0)).trans kl0, (h.cell (World.block_lt_of_cell? _ _ kl1)).trans kl1, (h.cell (World.block_lt_of_cell? _ _ kl2)).trans kl2⟩)
  clear kf0 kf1 kf2 kl0 kl1 kl2
  have hm0 : m < 100000 := by omega
  have HM0 := hidden hm0
  have i0 : (0 : Int) < ((m + 1 : Nat) : Int) := by omega
  have i8 : 0 < m + 1 := by omega
  have i1 : wrap64 ((m : Int) + 1 - 1) = (m : Int) := by unfold wrap64; omega
  have i2 : IntKind.i64.wrap ((m : Int) + 1 - 1) = (m : Int) := by rw [IntKind.wrap_i64]; omega
  have i3 : ((m : Int) + 1 - 1) = (m : Int) := by omega
  have i5 : IntKind.i64.wrap (m : Int) = (m : Int) := by rw [IntKind.wrap_i64]; omega
  have i6 : (m : Int) < (m : Int) + 1 := by omega
  have i7 : (0 : Int) < (m : Int) + 1 := by omega
  have i4 : (((m + 1 : Nat)) : Int) = (m : Int) + 1 := by omega
  obtain ⟨ca, hca⟩ : ∃ c, cmpX x f = c := ⟨_, rfl⟩
  obtain ⟨cb, hcb⟩ : ∃ c, cmpX x l = c := ⟨_, rfl⟩
  have HCA := hidden (HCX.out f)
  have HCB := hidden (HCX.out l)
  rw [hca] at HOU HCA
  rw [hcb] at HOU HCB
  have HM3 := hidden hME
  clear hca hcb HCX hl hm0 hME
  by_cases hqa : ca < 0
  · have d1 : decide (ca < 0) = true := decide_eq_true hqa
    have HO := hidden (show out = true by rw [HF.out, HOU.out, d1]; simp)
    clear hqa
    go_enter Tryz.func22, Tryz.ntmps22
    go_wp2_with fail
    rw [← hW0]
    clear hW0
    refine wp_region_loose (tabRs [(2, ConstV (.bool false)), (9, ConstV (.int .i64 ca))]) (by kernel_rfl) (by kernel_rfl) (tabRs_cons ConstV.lasts (tabRs_cons ConstV.lasts tabRs_nil)) ?_
    iterate 2 ((with_reducible refine loose_one (v := ?_) (a' := ?_) ?_ ?_ (fun w' hC' hG' => ?_) ?_ ?_); rotate_left 2; (focus rfl); (focus rfl); (focus (obtain ⟨s0, s1, s2, s3, s4, s5, s6, x0, x1, x2⟩ := HX.out w' hC'; obtain ⟨⟨f0, f1, f2⟩, l0, l1, l2⟩ := HY.out w' hC'; clear hC' hG'; go_simp; rfl)); (focus (go_simp; rfl)))
    refine loose_call (R := ConstV (.bool false)) (f := 78) (args := #[.agg #[.int .i64 s.rows, .int .i64 s.nulls, .slice A1 L1 c1, .bool s.ok, .slice A2 256 c2, .slice (some ⟨bb, off, none⟩) (m + 1) c3, .slice A4 RL c4], .agg #[.int .i64 x.k, .int .i64 x.n, .string x.t]]) (by rfl) (by rfl) (fun _ => by go_simp) (fun w' hC' hG' => HFO.out w' (HG0.out.of_below hC')) ?_
    rintro _ ⟨_, _, rfl⟩
    refine ⟨?_, ?_, ?_⟩
    rotate_left
    · go_simp
      rfl
    iterate 1 ((with_reducible refine loose_one (v := ?_) (a' := ?_) ?_ ?_ (fun w' hC' hG' => ?_) ?_ ?_); rotate_left 2; (focus rfl); (focus rfl); (focus (obtain ⟨s0, s1, s2, s3, s4, s5, s6, x0, x1, x2⟩ := HX.out w' hC'; obtain ⟨⟨f0, f1, f2⟩, l0, l1, l2⟩ := HY.out w' hC'; clear hC' hG'; go_simp; rfl)); (focus (go_simp; rfl)))
    iterate 5 ((with_reducible refine loose_one (v := ?_) (a' := ?_) ?_ ?_ (fun w' hC' hG' => ?_) ?_ ?_); rotate_left 2; (focus rfl); (focus rfl); (focus (obtain ⟨s0, s1, s2, s3, s4, s5, s6, x0, x1, x2⟩ := HX.out w' hC'; obtain ⟨⟨f0, f1, f2⟩, l0, l1, l2⟩ := HY.out w' hC'; clear hC' hG'; go_simp; rfl)); (focus (go_simp; rfl)))
    refine loose_call (R := ConstV (.int .i64 ca)) (f := 33) (args := #[.agg #[.int .i64 x.k, .int .i64 x.n, .string x.t], .agg #[.int .i64 f.k, .int .i64 f.n, .string f.t]]) (by rfl) (by rfl) (fun _ => by go_simp) (fun w' hC' hG' => HCA.out w') ?_
    rintro _ ⟨_, _, rfl⟩
    refine ⟨?_, ?_, ?_⟩
    rotate_left
    · go_simp
      rfl
    iterate 3 ((with_reducible refine loose_one (v := ?_) (a' := ?_) ?_ ?_ (fun w' hC' hG' => ?_) ?_ ?_); rotate_left 2; (focus rfl); (focus rfl); (focus (obtain ⟨s0, s1, s2, s3, s4, s5, s6, x0, x1, x2⟩ := HX.out w' hC'; obtain ⟨⟨f0, f1, f2⟩, l0, l1, l2⟩ := HY.out w' hC'; clear hC' hG'; go_simp; rfl)); (focus (go_simp; rfl)))
    iterate 11 ((with_reducible refine loose_skip (a' := ?_) ?_ ?_ ?_); rotate_left 1; (focus rfl); (focus (go_simp; rfl)))
    iterate 2 ((with_reducible refine loose_one (v := ?_) (a' := ?_) ?_ ?_ (fun w' hC' hG' => ?_) ?_ ?_); rotate_left 2; (focus rfl); (focus rfl); (focus (obtain ⟨s0, s1, s2, s3, s4, s5, s6, x0, x1, x2⟩ := HX.out w' hC'; obtain ⟨⟨f0, f1, f2⟩, l0, l1, l2⟩ := HY.out w' hC'; clear hC' hG'; go_simp; rfl)); (focus (go_simp; rfl)))
    iterate 8 ((with_reducible refine loose_skip (a' := ?_) ?_ ?_ ?_); rotate_left 1; (focus rfl); (focus (go_simp; rfl)))
    iterate 1 ((with_reducible refine loose_one (v := ?_) (a' := ?_) ?_ ?_ (fun w' hC' hG' => ?_) ?_ ?_); rotate_left 2; (focus rfl); (focus rfl); (focus (obtain ⟨s0, s1, s2, s3, s4, s5, s6, x0, x1, x2⟩ := HX.out w' hC'; obtain ⟨⟨f0, f1, f2⟩, l0, l1, l2⟩ := HY.out w' hC'; clear hC' hG'; go_simp; rfl)); (focus (go_simp; rfl)))
    refine loose_done (fun w5 hC5 hG5 => ?_)
    have HC5 := hidden hC5
    clear hC5 hG5
    go_wp2_with (first | (go_at_call 80; refine (HSP.out 0 0 _).mono ?_; rintro e wy ⟨rfl, g1⟩; have HGy := hidden (HC5.out.of_below g1); clear g1) | ((with_reducible refine at_bd rfl _ _ rfl ?_); refine wpList_store_bd rfl _ _ rfl _ rfl (w.heap.size + 1 + 1) rfl 0 0 rfl _ _ (HB0.out.grow HGy.out) ?_; intro W hr hg; have HRR := hidden hr; have HGG := hidden (hg w (HG0.out.of_below HGy.out) (by omega)); clear hr hg))
    refine bodyPost_ret (results_bd rfl _ _ _ _ _ rfl HRR.out) rfl ⟨?_, HGG.out⟩
    rw [HLO.out, HHI.out, HO.out]
    first | done | rfl
  have d1 : decide (ca < 0) = false := decide_eq_false hqa
  clear hqa
  by_cases hqb : 0 < cb
  · have d2 : decide (0 < cb) = true := decide_eq_true hqb
    have HO := hidden (show out = true by rw [HF.out, HOU.out, d2]; simp)
    clear hqb
    go_enter Tryz.func22, Tryz.ntmps22
    go_wp2_with fail
    rw [← hW0]
    clear hW0
    refine wp_region_loose (tabRs [(2, ConstV (.bool false)), (9, ConstV (.int .i64 ca)), (22, ConstV (.int .i64 cb))]) (by kernel_rfl) (by kernel_rfl) (tabRs_cons ConstV.lasts (tabRs_cons ConstV.lasts (tabRs_cons ConstV.lasts tabRs_nil))) ?_
    iterate 2 ((with_reducible refine loose_one (v := ?_) (a' := ?_) ?_ ?_ (fun w' hC' hG' => ?_) ?_ ?_); rotate_left 2; (focus rfl); (focus rfl); (focus (obtain ⟨s0, s1, s2, s3, s4, s5, s6, x0, x1, x2⟩ := HX.out w' hC'; obtain ⟨⟨f0, f1, f2⟩, l0, l1, l2⟩ := HY.out w' hC'; clear hC' hG'; go_simp; rfl)); (focus (go_simp; rfl)))
    refine loose_call (R := ConstV (.bool false)) (f := 78) (args := #[.agg #[.int .i64 s.rows, .int .i64 s.nulls, .slice A1 L1 c1, .bool s.ok, .slice A2 256 c2, .slice (some ⟨bb, off, none⟩) (m + 1) c3, .slice A4 RL c4], .agg #[.int .i64 x.k, .int .i64 x.n, .string x.t]]) (by rfl) (by rfl) (fun _ => by go_simp) (fun w' hC' hG' => HFO.out w' (HG0.out.of_below hC')) ?_
    rintro _ ⟨_, _, rfl⟩
    refine ⟨?_, ?_, ?_⟩
    rotate_left
    · go_simp
      rfl
    iterate 1 ((with_reducible refine loose_one (v := ?_) (a' := ?_) ?_ ?_ (fun w' hC' hG' => ?_) ?_ ?_); rotate_left 2; (focus rfl); (focus rfl); (focus (obtain ⟨s0, s1, s2, s3, s4, s5, s6, x0, x1, x2⟩ := HX.out w' hC'; obtain ⟨⟨f0, f1, f2⟩, l0, l1, l2⟩ := HY.out w' hC'; clear hC' hG'; go_simp; rfl)); (focus (go_simp; rfl)))
    iterate 5 ((with_reducible refine loose_one (v := ?_) (a' := ?_) ?_ ?_ (fun w' hC' hG' => ?_) ?_ ?_); rotate_left 2; (focus rfl); (focus rfl); (focus (obtain ⟨s0, s1, s2, s3, s4, s5, s6, x0, x1, x2⟩ := HX.out w' hC'; obtain ⟨⟨f0, f1, f2⟩, l0, l1, l2⟩ := HY.out w' hC'; clear hC' hG'; go_simp; rfl)); (focus (go_simp; rfl)))
    refine loose_call (R := ConstV (.int .i64 ca)) (f := 33) (args := #[.agg #[.int .i64 x.k, .int .i64 x.n, .string x.t], .agg #[.int .i64 f.k, .int .i64 f.n, .string f.t]]) (by rfl) (by rfl) (fun _ => by go_simp) (fun w' hC' hG' => HCA.out w') ?_
    rintro _ ⟨_, _, rfl⟩
    refine ⟨?_, ?_, ?_⟩
    rotate_left
    · go_simp
      rfl
    iterate 3 ((with_reducible refine loose_one (v := ?_) (a' := ?_) ?_ ?_ (fun w' hC' hG' => ?_) ?_ ?_); rotate_left 2; (focus rfl); (focus rfl); (focus (obtain ⟨s0, s1, s2, s3, s4, s5, s6, x0, x1, x2⟩ := HX.out w' hC'; obtain ⟨⟨f0, f1, f2⟩, l0, l1, l2⟩ := HY.out w' hC'; clear hC' hG'; go_simp; rfl)); (focus (go_simp; rfl)))
    iterate 9 ((with_reducible refine loose_one (v := ?_) (a' := ?_) ?_ ?_ (fun w' hC' hG' => ?_) ?_ ?_); rotate_left 2; (focus rfl); (focus rfl); (focus (obtain ⟨s0, s1, s2, s3, s4, s5, s6, x0, x1, x2⟩ := HX.out w' hC'; obtain ⟨⟨f0, f1, f2⟩, l0, l1, l2⟩ := HY.out w' hC'; clear hC' hG'; go_simp; rfl)); (focus (go_simp; rfl)))
    refine loose_call (R := ConstV (.int .i64 cb)) (f := 33) (args := #[.agg #[.int .i64 x.k, .int .i64 x.n, .string x.t], .agg #[.int .i64 l.k, .int .i64 l.n, .string l.t]]) (by rfl) (by rfl) (fun _ => by go_simp) (fun w' hC' hG' => HCB.out w') ?_
    rintro _ ⟨_, _, rfl⟩
    refine ⟨?_, ?_, ?_⟩
    rotate_left
    · go_simp
      rfl
    iterate 3 ((with_reducible refine loose_one (v := ?_) (a' := ?_) ?_ ?_ (fun w' hC' hG' => ?_) ?_ ?_); rotate_left 2; (focus rfl); (focus rfl); (focus (obtain ⟨s0, s1, s2, s3, s4, s5, s6, x0, x1, x2⟩ := HX.out w' hC'; obtain ⟨⟨f0, f1, f2⟩, l0, l1, l2⟩ := HY.out w' hC'; clear hC' hG'; go_simp; rfl)); (focus (go_simp; rfl)))
    iterate 8 ((with_reducible refine loose_skip (a' := ?_) ?_ ?_ ?_); rotate_left 1; (focus rfl); (focus (go_simp; rfl)))
    iterate 1 ((with_reducible refine loose_one (v := ?_) (a' := ?_) ?_ ?_ (fun w' hC' hG' => ?_) ?_ ?_); rotate_left 2; (focus rfl); (focus rfl); (focus (obtain ⟨s0, s1, s2, s3, s4, s5, s6, x0, x1, x2⟩ := HX.out w' hC'; obtain ⟨⟨f0, f1, f2⟩, l0, l1, l2⟩ := HY.out w' hC'; clear hC' hG'; go_simp; rfl)); (focus (go_simp; rfl)))
    refine loose_done (fun w5 hC5 hG5 => ?_)
    have HC5 := hidden hC5
    clear hC5 hG5
    go_wp2_with (first | (go_at_call 80; refine (HSP.out 0 0 _).mono ?_; rintro e wy ⟨rfl, g1⟩; have HGy := hidden (HC5.out.of_below g1); clear g1) | ((with_reducible refine at_bd rfl _ _ rfl ?_); refine wpList_store_bd rfl _ _ rfl _ rfl (w.heap.size + 1 + 1) rfl 0 0 rfl _ _ (HB0.out.grow HGy.out) ?_; intro W hr hg; have HRR := hidden hr; have HGG := hidden (hg w (HG0.out.of_below HGy.out) (by omega)); clear hr hg))
    refine bodyPost_ret (results_bd rfl _ _ _ _ _ rfl HRR.out) rfl ⟨?_, HGG.out⟩
    rw [HLO.out, HHI.out, HO.out]
    first | done | rfl
  have d2 : decide (0 < cb) = false := decide_eq_false hqb
  clear hqb
  generalize s.ok = okb at *
  cases okb with
  | false =>
    have HO := hidden (show out = false by rw [HF.out, HOU.out, d1, d2]; rfl)
    go_enter Tryz.func22, Tryz.ntmps22
    go_wp2_with fail
    rw [← hW0]
    clear hW0
    refine wp_region_loose (tabRs [(2, ConstV (.bool false)), (9, ConstV (.int .i64 ca)), (22, ConstV (.int .i64 cb))]) (by kernel_rfl) (by kernel_rfl) (tabRs_cons ConstV.lasts (tabRs_cons ConstV.lasts (tabRs_cons ConstV.lasts tabRs_nil))) ?_
    iterate 2 ((with_reducible refine loose_one (v := ?_) (a' := ?_) ?_ ?_ (fun w' hC' hG' => ?_) ?_ ?_); rotate_left 2; (focus rfl); (focus rfl); (focus (obtain ⟨s0, s1, s2, s3, s4, s5, s6, x0, x1, x2⟩ := HX.out w' hC'; obtain ⟨⟨f0, f1, f2⟩, l0, l1, l2⟩ := HY.out w' hC'; clear hC' hG'; go_simp; rfl)); (focus (go_simp; rfl)))
    refine loose_call (R := ConstV (.bool false)) (f := 78) (args := #[.agg #[.int .i64 s.rows, .int .i64 s.nulls, .slice A1 L1 c1, .bool false, .slice A2 256 c2, .slice (some ⟨bb, off, none⟩) (m + 1) c3, .slice A4 RL c4], .agg #[.int .i64 x.k, .int .i64 x.n, .string x.t]]) (by rfl) (by rfl) (fun _ => by go_simp) (fun w' hC' hG' => HFO.out w' (HG0.out.of_below hC')) ?_
    rintro _ ⟨_, _, rfl⟩
    refine ⟨?_, ?_, ?_⟩
    rotate_left
    · go_simp
      rfl
    iterate 1 ((with_reducible refine loose_one (v := ?_) (a' := ?_) ?_ ?_ (fun w' hC' hG' => ?_) ?_ ?_); rotate_left 2; (focus rfl); (focus rfl); (focus (obtain ⟨s0, s1, s2, s3, s4, s5, s6, x0, x1, x2⟩ := HX.out w' hC'; obtain ⟨⟨f0, f1, f2⟩, l0, l1, l2⟩ := HY.out w' hC'; clear hC' hG'; go_simp; rfl)); (focus (go_simp; rfl)))
    iterate 5 ((with_reducible refine loose_one (v := ?_) (a' := ?_) ?_ ?_ (fun w' hC' hG' => ?_) ?_ ?_); rotate_left 2; (focus rfl); (focus rfl); (focus (obtain ⟨s0, s1, s2, s3, s4, s5, s6, x0, x1, x2⟩ := HX.out w' hC'; obtain ⟨⟨f0, f1, f2⟩, l0, l1, l2⟩ := HY.out w' hC'; clear hC' hG'; go_simp; rfl)); (focus (go_simp; rfl)))
    refine loose_call (R := ConstV (.int .i64 ca)) (f := 33) (args := #[.agg #[.int .i64 x.k, .int .i64 x.n, .string x.t], .agg #[.int .i64 f.k, .int .i64 f.n, .string f.t]]) (by rfl) (by rfl) (fun _ => by go_simp) (fun w' hC' hG' => HCA.out w') ?_
    rintro _ ⟨_, _, rfl⟩
    refine ⟨?_, ?_, ?_⟩
    rotate_left
    · go_simp
      rfl
    iterate 3 ((with_reducible refine loose_one (v := ?_) (a' := ?_) ?_ ?_ (fun w' hC' hG' => ?_) ?_ ?_); rotate_left 2; (focus rfl); (focus rfl); (focus (obtain ⟨s0, s1, s2, s3, s4, s5, s6, x0, x1, x2⟩ := HX.out w' hC'; obtain ⟨⟨f0, f1, f2⟩, l0, l1, l2⟩ := HY.out w' hC'; clear hC' hG'; go_simp; rfl)); (focus (go_simp; rfl)))
    iterate 9 ((with_reducible refine loose_one (v := ?_) (a' := ?_) ?_ ?_ (fun w' hC' hG' => ?_) ?_ ?_); rotate_left 2; (focus rfl); (focus rfl); (focus (obtain ⟨s0, s1, s2, s3, s4, s5, s6, x0, x1, x2⟩ := HX.out w' hC'; obtain ⟨⟨f0, f1, f2⟩, l0, l1, l2⟩ := HY.out w' hC'; clear hC' hG'; go_simp; rfl)); (focus (go_simp; rfl)))
    refine loose_call (R := ConstV (.int .i64 cb)) (f := 33) (args := #[.agg #[.int .i64 x.k, .int .i64 x.n, .string x.t], .agg #[.int .i64 l.k, .int .i64 l.n, .string l.t]]) (by rfl) (by rfl) (fun _ => by go_simp) (fun w' hC' hG' => HCB.out w') ?_
    rintro _ ⟨_, _, rfl⟩
    refine ⟨?_, ?_, ?_⟩
    rotate_left
    · go_simp
      rfl
    iterate 3 ((with_reducible refine loose_one (v := ?_) (a' := ?_) ?_ ?_ (fun w' hC' hG' => ?_) ?_ ?_); rotate_left 2; (focus rfl); (focus rfl); (focus (obtain ⟨s0, s1, s2, s3, s4, s5, s6, x0, x1, x2⟩ := HX.out w' hC'; obtain ⟨⟨f0, f1, f2⟩, l0, l1, l2⟩ := HY.out w' hC'; clear hC' hG'; go_simp; rfl)); (focus (go_simp; rfl)))
    iterate 3 ((with_reducible refine loose_one (v := ?_) (a' := ?_) ?_ ?_ (fun w' hC' hG' => ?_) ?_ ?_); rotate_left 2; (focus rfl); (focus rfl); (focus (obtain ⟨s0, s1, s2, s3, s4, s5, s6, x0, x1, x2⟩ := HX.out w' hC'; obtain ⟨⟨f0, f1, f2⟩, l0, l1, l2⟩ := HY.out w' hC'; clear hC' hG'; go_simp; rfl)); (focus (go_simp; rfl)))
    iterate 4 ((with_reducible refine loose_skip (a' := ?_) ?_ ?_ ?_); rotate_left 1; (focus rfl); (focus (go_simp; rfl)))
    iterate 2 ((with_reducible refine loose_one (v := ?_) (a' := ?_) ?_ ?_ (fun w' hC' hG' => ?_) ?_ ?_); rotate_left 2; (focus rfl); (focus rfl); (focus (obtain ⟨s0, s1, s2, s3, s4, s5, s6, x0, x1, x2⟩ := HX.out w' hC'; obtain ⟨⟨f0, f1, f2⟩, l0, l1, l2⟩ := HY.out w' hC'; clear hC' hG'; go_simp; rfl)); (focus (go_simp; rfl)))
    refine loose_done (fun w5 hC5 hG5 => ?_)
    have HC5 := hidden hC5
    clear hC5 hG5
    clear i0 i1 i2 i3 i4 i5 i6 i7 i8 d1 d2 HFO HCA HCB HHS HOU HF
    obtain ⟨s0, s1, s2, s3, s4, s5, s6, x0, x1, x2⟩ := HX.out w5 HC5.out
    obtain ⟨A', c', he, _, hcell⟩ := h4.grow (HG0.out.of_below HC5.out)
    rw [icells_length, ← HRE.out] at he hcell
    injection he with e1 e2 e3
    subst e1 e3
    obtain ⟨b4, o4, rfl, hrkc⟩ := hcell (by rw [HRL2.out]; omega)
    have HRK := hidden (show ∀ j, j < RL → ∀ X, Grows w5 X → X.cell? ⟨b4, o4 + j, none⟩ = some (.int .i64 (s.rk.getD j 0)) from fun j hj X h => by
      have h1 := hrkc j hj
      rw [icells_get (by rw [← HRE.out]; exact hj)] at h1
      rw [h.cell (World.block_lt_of_cell? _ _ h1), h1]
      congr 2
      rw [List.getD_eq_getElem?_getD, List.getElem?_eq_getElem (by rw [← HRE.out]; exact hj)]
      rfl)
    have HFC := hidden (show ∀ (k : Nat) (y : Val), s.fs[k]? = some y → ∀ X, Grows w5 X → X.cell? ⟨bb, off + k * 3, none⟩ = some (.int .i64 y.k) ∧ X.cell? ⟨bb, off + k * 3 + 1, none⟩ = some (.int .i64 y.n) ∧ X.cell? ⟨bb, off + k * 3 + 2, none⟩ = some (.string y.t) from fun k y hy X h => by
      obtain ⟨q1, q2, q3⟩ := HCL.out k y hy
      have g := HC5.out.of_below h
      exact ⟨(g.cell (World.block_lt_of_cell? _ _ q1)).trans q1, (g.cell (World.block_lt_of_cell? _ _ q2)).trans q2, (g.cell (World.block_lt_of_cell? _ _ q3)).trans q3⟩)
    clear hcell hrkc e2 h4
    go_wp2_with fail
    clear s0 s1 s2 s3 s4 s5 s6 x0 x1 x2
    go_loopw [5, 6] (fun l i wr => CeqRel w5 s.fs s.rk x l i wr) (fun _ i _ => m + 1 - (intOf i).toNat)
    case atStart => exact ⟨0, Nat.zero_le _, rfl, rfl, Below.refl _ _⟩
    case round =>
      obtain ⟨k, hk, rfl, rfl, hb⟩ := hrel
      have HB := hidden hb
      clear hb
      obtain ⟨s0, s1, s2, s3, s4, s5, s6, x0, x1, x2⟩ := HX.out wr (HC5.out.of_below HB.out)
      by_cases hlt : k < m + 1
      · obtain ⟨g, hg⟩ : ∃ f, s.fs[k]? = some f := ⟨_, List.getElem?_eq_getElem (by rw [← HM3.out]; exact hlt)⟩
        have hgg : s.fs.getD k nulX = g := getD_of_some hg
        have HZ := hidden (fun X (h : Grows wr X) => HFC.out k g hg X (HB.out.of_below h))
        have HLT := hidden hlt
        have hd : decide (k < m + 1) = true := decide_eq_true hlt
        have hd2 : decide ((k : Int) < ((m + 1 : Nat) : Int)) = true := decide_eq_true (by omega)
        have hd3 : decide ((k : Int) < (m : Int) + 1) = true := decide_eq_true (by omega)
        have hi0 : (0 : Int) ≤ (k : Int) := by omega
        have hi1 : (k : Int) < ((m + 1 : Nat) : Int) := by omega
        have hi2 : (k : Int) < (m : Int) + 1 := by omega
        have HLK := hidden (show leastK s.fs s.rk x (k + 1) = if cmpX (s.fs.getD k nulX) x = 0 then max 0 (s.rk.getD (2 * k + 1) 0 - s.rk.getD (2 * k) 0) else leastK s.fs s.rk x k from rfl)
        rw [hgg] at HLK
        have HEE := hidden (HEQ.out g)
        have HR0 := hidden (fun X (h : Grows wr X) => HRK.out (2 * k) (by have := HRL2.out; have := HLT.out; omega) X (HB.out.of_below h))
        have HR1 := hidden (fun X (h : Grows wr X) => HRK.out (2 * k + 1) (by have := HRL2.out; have := HLT.out; omega) X (HB.out.of_below h))
        have HBa := hidden (HRG.out (2 * k))
        have HBb := hidden (HRG.out (2 * k + 1))
        obtain ⟨ya, hya⟩ : ∃ y, y = s.rk.getD (2 * k) 0 := ⟨_, rfl⟩
        obtain ⟨yb, hyb⟩ : ∃ y, y = s.rk.getD (2 * k + 1) 0 := ⟨_, rfl⟩
        rw [← hya] at HLK HR0 HBa
        rw [← hyb] at HLK HR1 HBb
        obtain ⟨lo0, hlo0⟩ : ∃ y, y = leastK s.fs s.rk x k := ⟨_, rfl⟩
        rw [← hlo0] at HLK ⊢
        clear hya hyb hlo0 hg hgg hlt hk
        go_wp2_with fail
        by_cases he : cmpX g x = 0
        · have he2 : (cmpX g x == 0) = true := beq_iff_eq.2 he
          rw [he2] at HEE
          rw [if_pos he] at HLK
          clear he he2
          refine wp_region_loose (tabRs [(6, ConstV (.bool true))]) (by kernel_rfl) (by kernel_rfl) (tabRs_cons ConstV.lasts tabRs_nil) ?_
          iterate 6 ((with_reducible refine loose_one (v := ?_) (a' := ?_) ?_ ?_ (fun w' hC' hG' => ?_) ?_ ?_); rotate_left 2; (focus rfl); (focus rfl); (focus (obtain ⟨s0, s1, s2, s3, s4, s5, s6, x0, x1, x2⟩ := HX.out w' (HC5.out.of_below (HB.out.of_below hC')); obtain ⟨z0, z1, z2⟩ := HZ.out w' hC'; clear hC' hG'; go_simp; rfl)); (focus (go_simp; rfl)))
          refine loose_call (R := ConstV (.bool true)) (f := 56) (args := #[.agg #[.int .i64 g.k, .int .i64 g.n, .string g.t], .agg #[.int .i64 x.k, .int .i64 x.n, .string x.t]]) (by rfl) (by rfl) (fun _ => by go_simp) (fun w' hC' hG' => HEE.out w') ?_
          rintro _ ⟨_, _, rfl⟩
          refine ⟨?_, ?_, ?_⟩
          rotate_left
          · go_simp
            rfl
          refine loose_done (fun w6 hC6 hG6 => ?_)
          have HC6 := hidden hC6
          clear hC6 hG6 s0 s1 s2 s3 s4 s5 s6 x0 x1 x2
          have hkb : k ≤ 100000 := by have := HLT.out; have := HM0.out; omega
          have hwa : IntKind.i64.wrap (2 * (k : Int)) = 2 * (k : Int) := by rw [IntKind.wrap_i64]; omega
          have hwb : IntKind.i64.wrap (2 * (k : Int) + 1) = 2 * (k : Int) + 1 := by rw [IntKind.wrap_i64]; omega
          have hwc : IntKind.i64.wrap (yb - ya) = yb - ya := by have := HBa.out; have := HBb.out; rw [IntKind.wrap_i64]; omega
          have hta : (2 * (k : Int)).toNat = 2 * k := by omega
          have htb : (2 * (k : Int) + 1).toNat = 2 * k + 1 := by omega
          have hja : (0 : Int) ≤ 2 * (k : Int) := by omega
          have hjb : (0 : Int) ≤ 2 * (k : Int) + 1 := by omega
          have hjc : 2 * (k : Int) < (RL : Int) := by have := HRL2.out; have := HLT.out; omega
          have hjd : 2 * (k : Int) + 1 < (RL : Int) := by have := HRL2.out; have := HLT.out; omega
          go_wp2_with fail
          refine wp_region_loose (tabRs []) (by kernel_rfl) (by kernel_rfl) tabRs_nil ?_
          iterate 16 ((with_reducible refine loose_one (v := ?_) (a' := ?_) ?_ ?_ (fun w' hC' hG' => ?_) ?_ ?_); rotate_left 2; (focus rfl); (focus rfl); (focus (obtain ⟨s0, s1, s2, s3, s4, s5, s6, x0, x1, x2⟩ := HX.out w' (HC5.out.of_below (HB.out.of_below (HC6.out.of_below hC'))); have r0 := HR0.out w' (HC6.out.of_below hC'); have r1 := HR1.out w' (HC6.out.of_below hC'); clear hC' hG'; go_simp; rfl)); (focus (go_simp; rfl)))
          refine loose_done (fun w7 hC7 hG7 => ?_)
          have HC7 := hidden (HB.out.of_below (HC6.out.of_below hC7))
          clear hC7 hG7 hwa hwb hwc hta htb hja hjb hjc hjd
          go_wp2_with fail
          go_roundw
          case rel => exact ⟨k + 1, by rw [← HM3.out]; exact HLT.out, by have := HLT.out; have := HM0.out; go_num, by rw [HLK.out], HC7.out⟩
          case measure => have := HLT.out; simp [intOf]; omega
        · have he2 : (cmpX g x == 0) = false := beq_eq_false_iff_ne.2 he
          rw [he2] at HEE
          rw [if_neg he] at HLK
          clear he he2
          refine wp_region_loose (tabRs [(6, ConstV (.bool false))]) (by kernel_rfl) (by kernel_rfl) (tabRs_cons ConstV.lasts tabRs_nil) ?_
          iterate 6 ((with_reducible refine loose_one (v := ?_) (a' := ?_) ?_ ?_ (fun w' hC' hG' => ?_) ?_ ?_); rotate_left 2; (focus rfl); (focus rfl); (focus (obtain ⟨s0, s1, s2, s3, s4, s5, s6, x0, x1, x2⟩ := HX.out w' (HC5.out.of_below (HB.out.of_below hC')); obtain ⟨z0, z1, z2⟩ := HZ.out w' hC'; clear hC' hG'; go_simp; rfl)); (focus (go_simp; rfl)))
          refine loose_call (R := ConstV (.bool false)) (f := 56) (args := #[.agg #[.int .i64 g.k, .int .i64 g.n, .string g.t], .agg #[.int .i64 x.k, .int .i64 x.n, .string x.t]]) (by rfl) (by rfl) (fun _ => by go_simp) (fun w' hC' hG' => HEE.out w') ?_
          rintro _ ⟨_, _, rfl⟩
          refine ⟨?_, ?_, ?_⟩
          rotate_left
          · go_simp
            rfl
          refine loose_done (fun w6 hC6 hG6 => ?_)
          have HC7 := hidden (HB.out.of_below hC6)
          have hkb : k ≤ 100000 := by have := HLT.out; have := HM0.out; omega
          clear hC6 hG6 s0 s1 s2 s3 s4 s5 s6 x0 x1 x2
          go_wp2_with fail
          go_roundw
          case rel => exact ⟨k + 1, by rw [← HM3.out]; exact HLT.out, by have := HLT.out; have := HM0.out; go_num, by rw [HLK.out], HC7.out⟩
          case measure => have := HLT.out; simp [intOf]; omega
      · have hke : k = m + 1 := by have := HM3.out; omega
        subst hke
        have hd : decide (m + 1 < m + 1) = false := decide_eq_false (by omega)
        have hd2 : decide (((m + 1 : Nat) : Int) < ((m + 1 : Nat) : Int)) = false := decide_eq_false (by omega)
        have hd3 : decide ((m : Int) + 1 < (m : Int) + 1) = false := decide_eq_false (by omega)
        have HLE := hidden (show LO = leastK s.fs s.rk x (m + 1) by rw [HLO.out, HO.out]; rfl)
        have HHE := hidden (show HI = mostK s.cm x (mx - mn) 4 by rw [HHI.out, HO.out]; rfl)
        rw [← HLE.out]
        clear hlt hk HRK HFC HCL HEQ HRG HLE
        go_wp2_with fail
        have hwc : IntKind.i64.wrap (mx - mn) = mx - mn := by have := HMM.out; have := HMI.out; rw [IntKind.wrap_i64]; omega
        refine wp_region_loose (tabRs [(2, ConstV (.int .i64 mx)), (5, ConstV (.int .i64 mn))]) (by kernel_rfl) (by kernel_rfl) (tabRs_cons ConstV.lasts (tabRs_cons ConstV.lasts tabRs_nil)) ?_
        iterate 2 ((with_reducible refine loose_one (v := ?_) (a' := ?_) ?_ ?_ (fun w' hC' hG' => ?_) ?_ ?_); rotate_left 2; (focus rfl); (focus rfl); (focus (obtain ⟨s0, s1, s2, s3, s4, s5, s6, x0, x1, x2⟩ := HX.out w' (HC5.out.of_below (HB.out.of_below hC')); clear hC' hG'; go_simp; rfl)); (focus (go_simp; rfl)))
        refine loose_call (R := ConstV (.int .i64 mx)) (f := 57) (args := #[.agg #[.int .i64 s.rows, .int .i64 s.nulls, .slice A1 L1 c1, .bool false, .slice A2 256 c2, .slice (some ⟨bb, off, none⟩) (m + 1) c3, .slice (some ⟨b4, o4, none⟩) RL c4], .agg #[.int .i64 x.k, .int .i64 x.n, .string x.t], .bool true]) (by rfl) (by rfl) (fun _ => by go_simp) (fun w' hC' hG' => HMX.out w' (HG0.out.of_below (HC5.out.of_below (HB.out.of_below hC')))) ?_
        rintro _ ⟨_, _, rfl⟩
        refine ⟨?_, ?_, ?_⟩
        rotate_left
        · go_simp
          rfl
        iterate 2 ((with_reducible refine loose_one (v := ?_) (a' := ?_) ?_ ?_ (fun w' hC' hG' => ?_) ?_ ?_); rotate_left 2; (focus rfl); (focus rfl); (focus (obtain ⟨s0, s1, s2, s3, s4, s5, s6, x0, x1, x2⟩ := HX.out w' (HC5.out.of_below (HB.out.of_below hC')); clear hC' hG'; go_simp; rfl)); (focus (go_simp; rfl)))
        refine loose_call (R := ConstV (.int .i64 mn)) (f := 58) (args := #[.agg #[.int .i64 s.rows, .int .i64 s.nulls, .slice A1 L1 c1, .bool false, .slice A2 256 c2, .slice (some ⟨bb, off, none⟩) (m + 1) c3, .slice (some ⟨b4, o4, none⟩) RL c4], .agg #[.int .i64 x.k, .int .i64 x.n, .string x.t], .bool false]) (by rfl) (by rfl) (fun _ => by go_simp) (fun w' hC' hG' => HMN.out w' (HG0.out.of_below (HC5.out.of_below (HB.out.of_below hC')))) ?_
        rintro _ ⟨_, _, rfl⟩
        refine ⟨?_, ?_, ?_⟩
        rotate_left
        · go_simp
          rfl
        iterate 2 ((with_reducible refine loose_one (v := ?_) (a' := ?_) ?_ ?_ (fun w' hC' hG' => ?_) ?_ ?_); rotate_left 2; (focus rfl); (focus rfl); (focus (obtain ⟨s0, s1, s2, s3, s4, s5, s6, x0, x1, x2⟩ := HX.out w' (HC5.out.of_below (HB.out.of_below hC')); clear hC' hG'; go_simp; rfl)); (focus (go_simp; rfl)))
        refine loose_done (fun w6 hC6 hG6 => ?_)
        have HC6 := hidden (HC5.out.of_below (HB.out.of_below hC6))
        clear hC6 hG6 s0 s1 s2 s3 s4 s5 s6 x0 x1 x2 hwc hd hd2 hd3 HMX HMN
        obtain ⟨md, hmd⟩ : ∃ d, d = mx - mn := ⟨_, rfl⟩
        rw [← hmd] at HHE ⊢
        clear hmd HMM HMI
        obtain ⟨s0, s1, s2, s3, s4, s5, s6, x0, x1, x2⟩ := HX.out w6 HC6.out
        obtain ⟨A', c', he, _, hcell⟩ := h2.grow (HG0.out.of_below HC6.out)
        injection he with e1 e2 e3
        subst e1
        obtain ⟨b2, o2, rfl, hcmc⟩ := hcell (by rw [icells_length, HCM.out]; omega)
        have HCC := hidden (show ∀ j, j < 256 → ∀ X, Grows w6 X → X.cell? ⟨b2, o2 + j, none⟩ = some (.int .i64 (s.cm.getD j 0)) from fun j hj X h => by
          have h1 := hcmc j (by rw [icells_length, HCM.out]; exact hj)
          rw [icells_get (by rw [HCM.out]; exact hj)] at h1
          rw [h.cell (World.block_lt_of_cell? _ _ h1), h1]
          congr 2
          rw [List.getD_eq_getElem?_getD, List.getElem?_eq_getElem (by rw [HCM.out]; exact hj)]
          rfl)
        clear hcell hcmc e2 e3 h2 s0 s1 s2 s3 s4 s5 s6 x0 x1 x2
        go_wp2_with fail
        go_loopw [7, 8] (fun a i wr => MostRel w6 s.cm x md a i wr) (fun _ i _ => 4 - (intOf i).toNat)
        case atStart => exact ⟨0, Nat.zero_le _, rfl, rfl, Below.refl _ _⟩
        case round =>
          obtain ⟨k, hk, rfl, rfl, hb⟩ := hrel
          have HD := hidden hb
          clear hb
          obtain ⟨s0, s1, s2, s3, s4, s5, s6, x0, x1, x2⟩ := HX.out wr (HC6.out.of_below HD.out)
          by_cases hlt : k < 4
          · have HLT := hidden hlt
            have hd : decide ((k : Int) < 4) = true := decide_eq_true (by omega)
            have hd2 : decide (k < 4) = true := decide_eq_true hlt
            have hcl := cellN_lt k x (by omega)
            have HCE2 := hidden (fun W => HCE.out k W (by have := HLT.out; omega))
            have HMK := hidden (show mostK s.cm x md (k + 1) = min (mostK s.cm x md k) (s.cm.getD (cellN k x) 0) from rfl)
            have HCV := hidden (fun X (h : Grows wr X) => HCC.out (cellN k x) hcl X (HD.out.of_below h))
            generalize cellN k x = cn at *
            obtain ⟨yc, hyc⟩ : ∃ y, y = s.cm.getD cn 0 := ⟨_, rfl⟩
            rw [← hyc] at HMK HCV
            obtain ⟨mk, hmk⟩ : ∃ y, y = mostK s.cm x md k := ⟨_, rfl⟩
            rw [← hmk] at HMK ⊢
            have hj0 : (0 : Int) ≤ (cn : Int) := by omega
            have hj1 : (cn : Int) < 256 := by omega
            clear hyc hmk hcl
            go_wp2_with fail
            refine wp_region_loose (tabRs [(5, ConstV (.int .i64 (cn : Int)))]) (by kernel_rfl) (by kernel_rfl) (tabRs_cons ConstV.lasts tabRs_nil) ?_
            iterate 5 ((with_reducible refine loose_one (v := ?_) (a' := ?_) ?_ ?_ (fun w' hC' hG' => ?_) ?_ ?_); rotate_left 2; (focus rfl); (focus rfl); (focus (obtain ⟨s0, s1, s2, s3, s4, s5, s6, x0, x1, x2⟩ := HX.out w' (HC6.out.of_below (HD.out.of_below hC')); clear hC' hG'; go_simp; rfl)); (focus (go_simp; rfl)))
            refine loose_call (R := ConstV (.int .i64 (cn : Int))) (f := 54) (args := #[.int .i64 (k : Int), .agg #[.int .i64 x.k, .int .i64 x.n, .string x.t]]) (by rfl) (by rfl) (fun _ => by go_simp) (fun w' hC' hG' => HCE2.out w') ?_
            rintro _ ⟨_, _, rfl⟩
            refine ⟨?_, ?_, ?_⟩
            rotate_left
            · go_simp
              rfl
            iterate 4 ((with_reducible refine loose_one (v := ?_) (a' := ?_) ?_ ?_ (fun w' hC' hG' => ?_) ?_ ?_); rotate_left 2; (focus rfl); (focus rfl); (focus (obtain ⟨s0, s1, s2, s3, s4, s5, s6, x0, x1, x2⟩ := HX.out w' (HC6.out.of_below (HD.out.of_below hC')); have c0 := HCV.out w' hC'; clear hC' hG'; go_simp; rfl)); (focus (go_simp; rfl)))
            refine loose_done (fun w7 hC7 hG7 => ?_)
            have HC7 := hidden (HD.out.of_below hC7)
            clear hC7 hG7 s0 s1 s2 s3 s4 s5 s6 x0 x1 x2
            go_wp2_with fail
            go_roundw
            case rel => exact ⟨k + 1, HLT.out, by have := HLT.out; go_num, by rw [HMK.out], HC7.out⟩
            case measure => have := HLT.out; simp [intOf]; omega
          · have hke : k = 4 := by omega
            subst hke
            have hd : decide ((4 : Int) < 4) = false := by decide
            rw [← HHE.out]
            clear hlt hk s0 s1 s2 s3 s4 s5 s6 x0 x1 x2
            have HC7 := hidden (HC6.out.of_below HD.out)
            go_wp2_with (first | (go_at_call 80; refine (HSP.out LO HI _).mono ?_; rintro e wz ⟨rfl, g1⟩; have HGy := hidden (HC7.out.of_below g1); clear g1) | ((with_reducible refine at_bd rfl _ _ rfl ?_); refine wpList_store_bd rfl _ _ rfl _ rfl (w.heap.size + 1 + 1) rfl LO HI rfl _ _ (HB0.out.grow HGy.out) ?_; intro W hr hg; have HRR := hidden hr; have HGG := hidden (hg w (HG0.out.of_below HGy.out) (by omega)); clear hr hg))
            refine bodyPost_ret (results_bd rfl _ _ _ _ _ rfl HRR.out) rfl ⟨rfl, HGG.out⟩
  | true =>
    by_cases hin : hashR (mix 3) [x] ∈ s.hs
    · have hin2 : decide (hashR (mix 3) [x] ∈ s.hs) = true := decide_eq_true hin
      rw [hin2] at HF HHS
      have HO := hidden (show out = false by rw [HF.out, HOU.out, d1, d2]; rfl)
      clear hin hin2
      go_enter Tryz.func22, Tryz.ntmps22
      go_wp2_with fail
      rw [← hW0]
      clear hW0
      refine wp_region_loose (tabRs [(2, ConstV (.bool false)), (9, ConstV (.int .i64 ca)), (22, ConstV (.int .i64 cb)), (31, ConstV (.bool true))]) (by kernel_rfl) (by kernel_rfl) (tabRs_cons ConstV.lasts (tabRs_cons ConstV.lasts (tabRs_cons ConstV.lasts (tabRs_cons ConstV.lasts tabRs_nil)))) ?_
      iterate 2 ((with_reducible refine loose_one (v := ?_) (a' := ?_) ?_ ?_ (fun w' hC' hG' => ?_) ?_ ?_); rotate_left 2; (focus rfl); (focus rfl); (focus (obtain ⟨s0, s1, s2, s3, s4, s5, s6, x0, x1, x2⟩ := HX.out w' hC'; obtain ⟨⟨f0, f1, f2⟩, l0, l1, l2⟩ := HY.out w' hC'; clear hC' hG'; go_simp; rfl)); (focus (go_simp; rfl)))
      refine loose_call (R := ConstV (.bool false)) (f := 78) (args := #[.agg #[.int .i64 s.rows, .int .i64 s.nulls, .slice A1 L1 c1, .bool true, .slice A2 256 c2, .slice (some ⟨bb, off, none⟩) (m + 1) c3, .slice A4 RL c4], .agg #[.int .i64 x.k, .int .i64 x.n, .string x.t]]) (by rfl) (by rfl) (fun _ => by go_simp) (fun w' hC' hG' => HFO.out w' (HG0.out.of_below hC')) ?_
      rintro _ ⟨_, _, rfl⟩
      refine ⟨?_, ?_, ?_⟩
      rotate_left
      · go_simp
        rfl
      iterate 1 ((with_reducible refine loose_one (v := ?_) (a' := ?_) ?_ ?_ (fun w' hC' hG' => ?_) ?_ ?_); rotate_left 2; (focus rfl); (focus rfl); (focus (obtain ⟨s0, s1, s2, s3, s4, s5, s6, x0, x1, x2⟩ := HX.out w' hC'; obtain ⟨⟨f0, f1, f2⟩, l0, l1, l2⟩ := HY.out w' hC'; clear hC' hG'; go_simp; rfl)); (focus (go_simp; rfl)))
      iterate 5 ((with_reducible refine loose_one (v := ?_) (a' := ?_) ?_ ?_ (fun w' hC' hG' => ?_) ?_ ?_); rotate_left 2; (focus rfl); (focus rfl); (focus (obtain ⟨s0, s1, s2, s3, s4, s5, s6, x0, x1, x2⟩ := HX.out w' hC'; obtain ⟨⟨f0, f1, f2⟩, l0, l1, l2⟩ := HY.out w' hC'; clear hC' hG'; go_simp; rfl)); (focus (go_simp; rfl)))
      refine loose_call (R := ConstV (.int .i64 ca)) (f := 33) (args := #[.agg #[.int .i64 x.k, .int .i64 x.n, .string x.t], .agg #[.int .i64 f.k, .int .i64 f.n, .string f.t]]) (by rfl) (by rfl) (fun _ => by go_simp) (fun w' hC' hG' => HCA.out w') ?_
      rintro _ ⟨_, _, rfl⟩
      refine ⟨?_, ?_, ?_⟩
      rotate_left
      · go_simp
        rfl
      iterate 3 ((with_reducible refine loose_one (v := ?_) (a' := ?_) ?_ ?_ (fun w' hC' hG' => ?_) ?_ ?_); rotate_left 2; (focus rfl); (focus rfl); (focus (obtain ⟨s0, s1, s2, s3, s4, s5, s6, x0, x1, x2⟩ := HX.out w' hC'; obtain ⟨⟨f0, f1, f2⟩, l0, l1, l2⟩ := HY.out w' hC'; clear hC' hG'; go_simp; rfl)); (focus (go_simp; rfl)))
      iterate 9 ((with_reducible refine loose_one (v := ?_) (a' := ?_) ?_ ?_ (fun w' hC' hG' => ?_) ?_ ?_); rotate_left 2; (focus rfl); (focus rfl); (focus (obtain ⟨s0, s1, s2, s3, s4, s5, s6, x0, x1, x2⟩ := HX.out w' hC'; obtain ⟨⟨f0, f1, f2⟩, l0, l1, l2⟩ := HY.out w' hC'; clear hC' hG'; go_simp; rfl)); (focus (go_simp; rfl)))
      refine loose_call (R := ConstV (.int .i64 cb)) (f := 33) (args := #[.agg #[.int .i64 x.k, .int .i64 x.n, .string x.t], .agg #[.int .i64 l.k, .int .i64 l.n, .string l.t]]) (by rfl) (by rfl) (fun _ => by go_simp) (fun w' hC' hG' => HCB.out w') ?_
      rintro _ ⟨_, _, rfl⟩
      refine ⟨?_, ?_, ?_⟩
      rotate_left
      · go_simp
        rfl
      iterate 3 ((with_reducible refine loose_one (v := ?_) (a' := ?_) ?_ ?_ (fun w' hC' hG' => ?_) ?_ ?_); rotate_left 2; (focus rfl); (focus rfl); (focus (obtain ⟨s0, s1, s2, s3, s4, s5, s6, x0, x1, x2⟩ := HX.out w' hC'; obtain ⟨⟨f0, f1, f2⟩, l0, l1, l2⟩ := HY.out w' hC'; clear hC' hG'; go_simp; rfl)); (focus (go_simp; rfl)))
      iterate 5 ((with_reducible refine loose_one (v := ?_) (a' := ?_) ?_ ?_ (fun w' hC' hG' => ?_) ?_ ?_); rotate_left 2; (focus rfl); (focus rfl); (focus (obtain ⟨s0, s1, s2, s3, s4, s5, s6, x0, x1, x2⟩ := HX.out w' hC'; obtain ⟨⟨f0, f1, f2⟩, l0, l1, l2⟩ := HY.out w' hC'; clear hC' hG'; go_simp; rfl)); (focus (go_simp; rfl)))
      refine loose_call (R := ConstV (.bool true)) (f := 79) (args := #[.agg #[.int .i64 s.rows, .int .i64 s.nulls, .slice A1 L1 c1, .bool true, .slice A2 256 c2, .slice (some ⟨bb, off, none⟩) (m + 1) c3, .slice A4 RL c4], .agg #[.int .i64 x.k, .int .i64 x.n, .string x.t]]) (by rfl) (by rfl) (fun _ => by go_simp) (fun w' hC' hG' => HHS.out w' (HG0.out.of_below hC')) ?_
      rintro _ ⟨_, _, rfl⟩
      refine ⟨?_, ?_, ?_⟩
      rotate_left
      · go_simp
        rfl
      iterate 3 ((with_reducible refine loose_one (v := ?_) (a' := ?_) ?_ ?_ (fun w' hC' hG' => ?_) ?_ ?_); rotate_left 2; (focus rfl); (focus rfl); (focus (obtain ⟨s0, s1, s2, s3, s4, s5, s6, x0, x1, x2⟩ := HX.out w' hC'; obtain ⟨⟨f0, f1, f2⟩, l0, l1, l2⟩ := HY.out w' hC'; clear hC' hG'; go_simp; rfl)); (focus (go_simp; rfl)))
      refine loose_done (fun w5 hC5 hG5 => ?_)
      have HC5 := hidden hC5
      clear hC5 hG5
      clear i0 i1 i2 i3 i4 i5 i6 i7 i8 d1 d2 HFO HCA HCB HHS HOU HF
      obtain ⟨s0, s1, s2, s3, s4, s5, s6, x0, x1, x2⟩ := HX.out w5 HC5.out
      obtain ⟨A', c', he, _, hcell⟩ := h4.grow (HG0.out.of_below HC5.out)
      rw [icells_length, ← HRE.out] at he hcell
      injection he with e1 e2 e3
      subst e1 e3
      obtain ⟨b4, o4, rfl, hrkc⟩ := hcell (by rw [HRL2.out]; omega)
      have HRK := hidden (show ∀ j, j < RL → ∀ X, Grows w5 X → X.cell? ⟨b4, o4 + j, none⟩ = some (.int .i64 (s.rk.getD j 0)) from fun j hj X h => by
        have h1 := hrkc j hj
        rw [icells_get (by rw [← HRE.out]; exact hj)] at h1
        rw [h.cell (World.block_lt_of_cell? _ _ h1), h1]
        congr 2
        rw [List.getD_eq_getElem?_getD, List.getElem?_eq_getElem (by rw [← HRE.out]; exact hj)]
        rfl)
      have HFC := hidden (show ∀ (k : Nat) (y : Val), s.fs[k]? = some y → ∀ X, Grows w5 X → X.cell? ⟨bb, off + k * 3, none⟩ = some (.int .i64 y.k) ∧ X.cell? ⟨bb, off + k * 3 + 1, none⟩ = some (.int .i64 y.n) ∧ X.cell? ⟨bb, off + k * 3 + 2, none⟩ = some (.string y.t) from fun k y hy X h => by
        obtain ⟨q1, q2, q3⟩ := HCL.out k y hy
        have g := HC5.out.of_below h
        exact ⟨(g.cell (World.block_lt_of_cell? _ _ q1)).trans q1, (g.cell (World.block_lt_of_cell? _ _ q2)).trans q2, (g.cell (World.block_lt_of_cell? _ _ q3)).trans q3⟩)
      clear hcell hrkc e2 h4
      go_wp2_with fail
      clear s0 s1 s2 s3 s4 s5 s6 x0 x1 x2
      go_loopw [5, 6] (fun l i wr => CeqRel w5 s.fs s.rk x l i wr) (fun _ i _ => m + 1 - (intOf i).toNat)
      case atStart => exact ⟨0, Nat.zero_le _, rfl, rfl, Below.refl _ _⟩
      case round =>
        obtain ⟨k, hk, rfl, rfl, hb⟩ := hrel
        have HB := hidden hb
        clear hb
        obtain ⟨s0, s1, s2, s3, s4, s5, s6, x0, x1, x2⟩ := HX.out wr (HC5.out.of_below HB.out)
        by_cases hlt : k < m + 1
        · obtain ⟨g, hg⟩ : ∃ f, s.fs[k]? = some f := ⟨_, List.getElem?_eq_getElem (by rw [← HM3.out]; exact hlt)⟩
          have hgg : s.fs.getD k nulX = g := getD_of_some hg
          have HZ := hidden (fun X (h : Grows wr X) => HFC.out k g hg X (HB.out.of_below h))
          have HLT := hidden hlt
          have hd : decide (k < m + 1) = true := decide_eq_true hlt
          have hd2 : decide ((k : Int) < ((m + 1 : Nat) : Int)) = true := decide_eq_true (by omega)
          have hd3 : decide ((k : Int) < (m : Int) + 1) = true := decide_eq_true (by omega)
          have hi0 : (0 : Int) ≤ (k : Int) := by omega
          have hi1 : (k : Int) < ((m + 1 : Nat) : Int) := by omega
          have hi2 : (k : Int) < (m : Int) + 1 := by omega
          have HLK := hidden (show leastK s.fs s.rk x (k + 1) = if cmpX (s.fs.getD k nulX) x = 0 then max 0 (s.rk.getD (2 * k + 1) 0 - s.rk.getD (2 * k) 0) else leastK s.fs s.rk x k from rfl)
          rw [hgg] at HLK
          have HEE := hidden (HEQ.out g)
          have HR0 := hidden (fun X (h : Grows wr X) => HRK.out (2 * k) (by have := HRL2.out; have := HLT.out; omega) X (HB.out.of_below h))
          have HR1 := hidden (fun X (h : Grows wr X) => HRK.out (2 * k + 1) (by have := HRL2.out; have := HLT.out; omega) X (HB.out.of_below h))
          have HBa := hidden (HRG.out (2 * k))
          have HBb := hidden (HRG.out (2 * k + 1))
          obtain ⟨ya, hya⟩ : ∃ y, y = s.rk.getD (2 * k) 0 := ⟨_, rfl⟩
          obtain ⟨yb, hyb⟩ : ∃ y, y = s.rk.getD (2 * k + 1) 0 := ⟨_, rfl⟩
          rw [← hya] at HLK HR0 HBa
          rw [← hyb] at HLK HR1 HBb
          obtain ⟨lo0, hlo0⟩ : ∃ y, y = leastK s.fs s.rk x k := ⟨_, rfl⟩
          rw [← hlo0] at HLK ⊢
          clear hya hyb hlo0 hg hgg hlt hk
          go_wp2_with fail
          by_cases he : cmpX g x = 0
          · have he2 : (cmpX g x == 0) = true := beq_iff_eq.2 he
            rw [he2] at HEE
            rw [if_pos he] at HLK
            clear he he2
            refine wp_region_loose (tabRs [(6, ConstV (.bool true))]) (by kernel_rfl) (by kernel_rfl) (tabRs_cons ConstV.lasts tabRs_nil) ?_
            iterate 6 ((with_reducible refine loose_one (v := ?_) (a' := ?_) ?_ ?_ (fun w' hC' hG' => ?_) ?_ ?_); rotate_left 2; (focus rfl); (focus rfl); (focus (obtain ⟨s0, s1, s2, s3, s4, s5, s6, x0, x1, x2⟩ := HX.out w' (HC5.out.of_below (HB.out.of_below hC')); obtain ⟨z0, z1, z2⟩ := HZ.out w' hC'; clear hC' hG'; go_simp; rfl)); (focus (go_simp; rfl)))
            refine loose_call (R := ConstV (.bool true)) (f := 56) (args := #[.agg #[.int .i64 g.k, .int .i64 g.n, .string g.t], .agg #[.int .i64 x.k, .int .i64 x.n, .string x.t]]) (by rfl) (by rfl) (fun _ => by go_simp) (fun w' hC' hG' => HEE.out w') ?_
            rintro _ ⟨_, _, rfl⟩
            refine ⟨?_, ?_, ?_⟩
            rotate_left
            · go_simp
              rfl
            refine loose_done (fun w6 hC6 hG6 => ?_)
            have HC6 := hidden hC6
            clear hC6 hG6 s0 s1 s2 s3 s4 s5 s6 x0 x1 x2
            have hkb : k ≤ 100000 := by have := HLT.out; have := HM0.out; omega
            have hwa : IntKind.i64.wrap (2 * (k : Int)) = 2 * (k : Int) := by rw [IntKind.wrap_i64]; omega
            have hwb : IntKind.i64.wrap (2 * (k : Int) + 1) = 2 * (k : Int) + 1 := by rw [IntKind.wrap_i64]; omega
            have hwc : IntKind.i64.wrap (yb - ya) = yb - ya := by have := HBa.out; have := HBb.out; rw [IntKind.wrap_i64]; omega
            have hta : (2 * (k : Int)).toNat = 2 * k := by omega
            have htb : (2 * (k : Int) + 1).toNat = 2 * k + 1 := by omega
            have hja : (0 : Int) ≤ 2 * (k : Int) := by omega
            have hjb : (0 : Int) ≤ 2 * (k : Int) + 1 := by omega
            have hjc : 2 * (k : Int) < (RL : Int) := by have := HRL2.out; have := HLT.out; omega
            have hjd : 2 * (k : Int) + 1 < (RL : Int) := by have := HRL2.out; have := HLT.out; omega
            go_wp2_with fail
            refine wp_region_loose (tabRs []) (by kernel_rfl) (by kernel_rfl) tabRs_nil ?_
            iterate 16 ((with_reducible refine loose_one (v := ?_) (a' := ?_) ?_ ?_ (fun w' hC' hG' => ?_) ?_ ?_); rotate_left 2; (focus rfl); (focus rfl); (focus (obtain ⟨s0, s1, s2, s3, s4, s5, s6, x0, x1, x2⟩ := HX.out w' (HC5.out.of_below (HB.out.of_below (HC6.out.of_below hC'))); have r0 := HR0.out w' (HC6.out.of_below hC'); have r1 := HR1.out w' (HC6.out.of_below hC'); clear hC' hG'; go_simp; rfl)); (focus (go_simp; rfl)))
            refine loose_done (fun w7 hC7 hG7 => ?_)
            have HC7 := hidden (HB.out.of_below (HC6.out.of_below hC7))
            clear hC7 hG7 hwa hwb hwc hta htb hja hjb hjc hjd
            go_wp2_with fail
            go_roundw
            case rel => exact ⟨k + 1, by rw [← HM3.out]; exact HLT.out, by have := HLT.out; have := HM0.out; go_num, by rw [HLK.out], HC7.out⟩
            case measure => have := HLT.out; simp [intOf]; omega
          · have he2 : (cmpX g x == 0) = false := beq_eq_false_iff_ne.2 he
            rw [he2] at HEE
            rw [if_neg he] at HLK
            clear he he2
            refine wp_region_loose (tabRs [(6, ConstV (.bool false))]) (by kernel_rfl) (by kernel_rfl) (tabRs_cons ConstV.lasts tabRs_nil) ?_
            iterate 6 ((with_reducible refine loose_one (v := ?_) (a' := ?_) ?_ ?_ (fun w' hC' hG' => ?_) ?_ ?_); rotate_left 2; (focus rfl); (focus rfl); (focus (obtain ⟨s0, s1, s2, s3, s4, s5, s6, x0, x1, x2⟩ := HX.out w' (HC5.out.of_below (HB.out.of_below hC')); obtain ⟨z0, z1, z2⟩ := HZ.out w' hC'; clear hC' hG'; go_simp; rfl)); (focus (go_simp; rfl)))
            refine loose_call (R := ConstV (.bool false)) (f := 56) (args := #[.agg #[.int .i64 g.k, .int .i64 g.n, .string g.t], .agg #[.int .i64 x.k, .int .i64 x.n, .string x.t]]) (by rfl) (by rfl) (fun _ => by go_simp) (fun w' hC' hG' => HEE.out w') ?_
            rintro _ ⟨_, _, rfl⟩
            refine ⟨?_, ?_, ?_⟩
            rotate_left
            · go_simp
              rfl
            refine loose_done (fun w6 hC6 hG6 => ?_)
            have HC7 := hidden (HB.out.of_below hC6)
            have hkb : k ≤ 100000 := by have := HLT.out; have := HM0.out; omega
            clear hC6 hG6 s0 s1 s2 s3 s4 s5 s6 x0 x1 x2
            go_wp2_with fail
            go_roundw
            case rel => exact ⟨k + 1, by rw [← HM3.out]; exact HLT.out, by have := HLT.out; have := HM0.out; go_num, by rw [HLK.out], HC7.out⟩
            case measure => have := HLT.out; simp [intOf]; omega
        · have hke : k = m + 1 := by have := HM3.out; omega
          subst hke
          have hd : decide (m + 1 < m + 1) = false := decide_eq_false (by omega)
          have hd2 : decide (((m + 1 : Nat) : Int) < ((m + 1 : Nat) : Int)) = false := decide_eq_false (by omega)
          have hd3 : decide ((m : Int) + 1 < (m : Int) + 1) = false := decide_eq_false (by omega)
          have HLE := hidden (show LO = leastK s.fs s.rk x (m + 1) by rw [HLO.out, HO.out]; rfl)
          have HHE := hidden (show HI = mostK s.cm x (mx - mn) 4 by rw [HHI.out, HO.out]; rfl)
          rw [← HLE.out]
          clear hlt hk HRK HFC HCL HEQ HRG HLE
          go_wp2_with fail
          have hwc : IntKind.i64.wrap (mx - mn) = mx - mn := by have := HMM.out; have := HMI.out; rw [IntKind.wrap_i64]; omega
          refine wp_region_loose (tabRs [(2, ConstV (.int .i64 mx)), (5, ConstV (.int .i64 mn))]) (by kernel_rfl) (by kernel_rfl) (tabRs_cons ConstV.lasts (tabRs_cons ConstV.lasts tabRs_nil)) ?_
          iterate 2 ((with_reducible refine loose_one (v := ?_) (a' := ?_) ?_ ?_ (fun w' hC' hG' => ?_) ?_ ?_); rotate_left 2; (focus rfl); (focus rfl); (focus (obtain ⟨s0, s1, s2, s3, s4, s5, s6, x0, x1, x2⟩ := HX.out w' (HC5.out.of_below (HB.out.of_below hC')); clear hC' hG'; go_simp; rfl)); (focus (go_simp; rfl)))
          refine loose_call (R := ConstV (.int .i64 mx)) (f := 57) (args := #[.agg #[.int .i64 s.rows, .int .i64 s.nulls, .slice A1 L1 c1, .bool true, .slice A2 256 c2, .slice (some ⟨bb, off, none⟩) (m + 1) c3, .slice (some ⟨b4, o4, none⟩) RL c4], .agg #[.int .i64 x.k, .int .i64 x.n, .string x.t], .bool true]) (by rfl) (by rfl) (fun _ => by go_simp) (fun w' hC' hG' => HMX.out w' (HG0.out.of_below (HC5.out.of_below (HB.out.of_below hC')))) ?_
          rintro _ ⟨_, _, rfl⟩
          refine ⟨?_, ?_, ?_⟩
          rotate_left
          · go_simp
            rfl
          iterate 2 ((with_reducible refine loose_one (v := ?_) (a' := ?_) ?_ ?_ (fun w' hC' hG' => ?_) ?_ ?_); rotate_left 2; (focus rfl); (focus rfl); (focus (obtain ⟨s0, s1, s2, s3, s4, s5, s6, x0, x1, x2⟩ := HX.out w' (HC5.out.of_below (HB.out.of_below hC')); clear hC' hG'; go_simp; rfl)); (focus (go_simp; rfl)))
          refine loose_call (R := ConstV (.int .i64 mn)) (f := 58) (args := #[.agg #[.int .i64 s.rows, .int .i64 s.nulls, .slice A1 L1 c1, .bool true, .slice A2 256 c2, .slice (some ⟨bb, off, none⟩) (m + 1) c3, .slice (some ⟨b4, o4, none⟩) RL c4], .agg #[.int .i64 x.k, .int .i64 x.n, .string x.t], .bool false]) (by rfl) (by rfl) (fun _ => by go_simp) (fun w' hC' hG' => HMN.out w' (HG0.out.of_below (HC5.out.of_below (HB.out.of_below hC')))) ?_
          rintro _ ⟨_, _, rfl⟩
          refine ⟨?_, ?_, ?_⟩
          rotate_left
          · go_simp
            rfl
          iterate 2 ((with_reducible refine loose_one (v := ?_) (a' := ?_) ?_ ?_ (fun w' hC' hG' => ?_) ?_ ?_); rotate_left 2; (focus rfl); (focus rfl); (focus (obtain ⟨s0, s1, s2, s3, s4, s5, s6, x0, x1, x2⟩ := HX.out w' (HC5.out.of_below (HB.out.of_below hC')); clear hC' hG'; go_simp; rfl)); (focus (go_simp; rfl)))
          refine loose_done (fun w6 hC6 hG6 => ?_)
          have HC6 := hidden (HC5.out.of_below (HB.out.of_below hC6))
          clear hC6 hG6 s0 s1 s2 s3 s4 s5 s6 x0 x1 x2 hwc hd hd2 hd3 HMX HMN
          obtain ⟨md, hmd⟩ : ∃ d, d = mx - mn := ⟨_, rfl⟩
          rw [← hmd] at HHE ⊢
          clear hmd HMM HMI
          obtain ⟨s0, s1, s2, s3, s4, s5, s6, x0, x1, x2⟩ := HX.out w6 HC6.out
          obtain ⟨A', c', he, _, hcell⟩ := h2.grow (HG0.out.of_below HC6.out)
          injection he with e1 e2 e3
          subst e1
          obtain ⟨b2, o2, rfl, hcmc⟩ := hcell (by rw [icells_length, HCM.out]; omega)
          have HCC := hidden (show ∀ j, j < 256 → ∀ X, Grows w6 X → X.cell? ⟨b2, o2 + j, none⟩ = some (.int .i64 (s.cm.getD j 0)) from fun j hj X h => by
            have h1 := hcmc j (by rw [icells_length, HCM.out]; exact hj)
            rw [icells_get (by rw [HCM.out]; exact hj)] at h1
            rw [h.cell (World.block_lt_of_cell? _ _ h1), h1]
            congr 2
            rw [List.getD_eq_getElem?_getD, List.getElem?_eq_getElem (by rw [HCM.out]; exact hj)]
            rfl)
          clear hcell hcmc e2 e3 h2 s0 s1 s2 s3 s4 s5 s6 x0 x1 x2
          go_wp2_with fail
          go_loopw [7, 8] (fun a i wr => MostRel w6 s.cm x md a i wr) (fun _ i _ => 4 - (intOf i).toNat)
          case atStart => exact ⟨0, Nat.zero_le _, rfl, rfl, Below.refl _ _⟩
          case round =>
            obtain ⟨k, hk, rfl, rfl, hb⟩ := hrel
            have HD := hidden hb
            clear hb
            obtain ⟨s0, s1, s2, s3, s4, s5, s6, x0, x1, x2⟩ := HX.out wr (HC6.out.of_below HD.out)
            by_cases hlt : k < 4
            · have HLT := hidden hlt
              have hd : decide ((k : Int) < 4) = true := decide_eq_true (by omega)
              have hd2 : decide (k < 4) = true := decide_eq_true hlt
              have hcl := cellN_lt k x (by omega)
              have HCE2 := hidden (fun W => HCE.out k W (by have := HLT.out; omega))
              have HMK := hidden (show mostK s.cm x md (k + 1) = min (mostK s.cm x md k) (s.cm.getD (cellN k x) 0) from rfl)
              have HCV := hidden (fun X (h : Grows wr X) => HCC.out (cellN k x) hcl X (HD.out.of_below h))
              generalize cellN k x = cn at *
              obtain ⟨yc, hyc⟩ : ∃ y, y = s.cm.getD cn 0 := ⟨_, rfl⟩
              rw [← hyc] at HMK HCV
              obtain ⟨mk, hmk⟩ : ∃ y, y = mostK s.cm x md k := ⟨_, rfl⟩
              rw [← hmk] at HMK ⊢
              have hj0 : (0 : Int) ≤ (cn : Int) := by omega
              have hj1 : (cn : Int) < 256 := by omega
              clear hyc hmk hcl
              go_wp2_with fail
              refine wp_region_loose (tabRs [(5, ConstV (.int .i64 (cn : Int)))]) (by kernel_rfl) (by kernel_rfl) (tabRs_cons ConstV.lasts tabRs_nil) ?_
              iterate 5 ((with_reducible refine loose_one (v := ?_) (a' := ?_) ?_ ?_ (fun w' hC' hG' => ?_) ?_ ?_); rotate_left 2; (focus rfl); (focus rfl); (focus (obtain ⟨s0, s1, s2, s3, s4, s5, s6, x0, x1, x2⟩ := HX.out w' (HC6.out.of_below (HD.out.of_below hC')); clear hC' hG'; go_simp; rfl)); (focus (go_simp; rfl)))
              refine loose_call (R := ConstV (.int .i64 (cn : Int))) (f := 54) (args := #[.int .i64 (k : Int), .agg #[.int .i64 x.k, .int .i64 x.n, .string x.t]]) (by rfl) (by rfl) (fun _ => by go_simp) (fun w' hC' hG' => HCE2.out w') ?_
              rintro _ ⟨_, _, rfl⟩
              refine ⟨?_, ?_, ?_⟩
              rotate_left
              · go_simp
                rfl
              iterate 4 ((with_reducible refine loose_one (v := ?_) (a' := ?_) ?_ ?_ (fun w' hC' hG' => ?_) ?_ ?_); rotate_left 2; (focus rfl); (focus rfl); (focus (obtain ⟨s0, s1, s2, s3, s4, s5, s6, x0, x1, x2⟩ := HX.out w' (HC6.out.of_below (HD.out.of_below hC')); have c0 := HCV.out w' hC'; clear hC' hG'; go_simp; rfl)); (focus (go_simp; rfl)))
              refine loose_done (fun w7 hC7 hG7 => ?_)
              have HC7 := hidden (HD.out.of_below hC7)
              clear hC7 hG7 s0 s1 s2 s3 s4 s5 s6 x0 x1 x2
              go_wp2_with fail
              go_roundw
              case rel => exact ⟨k + 1, HLT.out, by have := HLT.out; go_num, by rw [HMK.out], HC7.out⟩
              case measure => have := HLT.out; simp [intOf]; omega
            · have hke : k = 4 := by omega
              subst hke
              have hd : decide ((4 : Int) < 4) = false := by decide
              rw [← HHE.out]
              clear hlt hk s0 s1 s2 s3 s4 s5 s6 x0 x1 x2
              have HC7 := hidden (HC6.out.of_below HD.out)
              go_wp2_with (first | (go_at_call 80; refine (HSP.out LO HI _).mono ?_; rintro e wz ⟨rfl, g1⟩; have HGy := hidden (HC7.out.of_below g1); clear g1) | ((with_reducible refine at_bd rfl _ _ rfl ?_); refine wpList_store_bd rfl _ _ rfl _ rfl (w.heap.size + 1 + 1) rfl LO HI rfl _ _ (HB0.out.grow HGy.out) ?_; intro W hr hg; have HRR := hidden hr; have HGG := hidden (hg w (HG0.out.of_below HGy.out) (by omega)); clear hr hg))
              refine bodyPost_ret (results_bd rfl _ _ _ _ _ rfl HRR.out) rfl ⟨rfl, HGG.out⟩
    · have hin2 : decide (hashR (mix 3) [x] ∈ s.hs) = false := decide_eq_false hin
      rw [hin2] at HF HHS
      have HO := hidden (show out = true by rw [HF.out, HOU.out, d1, d2]; rfl)
      clear hin hin2
      go_enter Tryz.func22, Tryz.ntmps22
      go_wp2_with fail
      rw [← hW0]
      clear hW0
      refine wp_region_loose (tabRs [(2, ConstV (.bool false)), (9, ConstV (.int .i64 ca)), (22, ConstV (.int .i64 cb)), (31, ConstV (.bool false))]) (by kernel_rfl) (by kernel_rfl) (tabRs_cons ConstV.lasts (tabRs_cons ConstV.lasts (tabRs_cons ConstV.lasts (tabRs_cons ConstV.lasts tabRs_nil)))) ?_
      iterate 2 ((with_reducible refine loose_one (v := ?_) (a' := ?_) ?_ ?_ (fun w' hC' hG' => ?_) ?_ ?_); rotate_left 2; (focus rfl); (focus rfl); (focus (obtain ⟨s0, s1, s2, s3, s4, s5, s6, x0, x1, x2⟩ := HX.out w' hC'; obtain ⟨⟨f0, f1, f2⟩, l0, l1, l2⟩ := HY.out w' hC'; clear hC' hG'; go_simp; rfl)); (focus (go_simp; rfl)))
      refine loose_call (R := ConstV (.bool false)) (f := 78) (args := #[.agg #[.int .i64 s.rows, .int .i64 s.nulls, .slice A1 L1 c1, .bool true, .slice A2 256 c2, .slice (some ⟨bb, off, none⟩) (m + 1) c3, .slice A4 RL c4], .agg #[.int .i64 x.k, .int .i64 x.n, .string x.t]]) (by rfl) (by rfl) (fun _ => by go_simp) (fun w' hC' hG' => HFO.out w' (HG0.out.of_below hC')) ?_
      rintro _ ⟨_, _, rfl⟩
      refine ⟨?_, ?_, ?_⟩
      rotate_left
      · go_simp
        rfl
      iterate 1 ((with_reducible refine loose_one (v := ?_) (a' := ?_) ?_ ?_ (fun w' hC' hG' => ?_) ?_ ?_); rotate_left 2; (focus rfl); (focus rfl); (focus (obtain ⟨s0, s1, s2, s3, s4, s5, s6, x0, x1, x2⟩ := HX.out w' hC'; obtain ⟨⟨f0, f1, f2⟩, l0, l1, l2⟩ := HY.out w' hC'; clear hC' hG'; go_simp; rfl)); (focus (go_simp; rfl)))
      iterate 5 ((with_reducible refine loose_one (v := ?_) (a' := ?_) ?_ ?_ (fun w' hC' hG' => ?_) ?_ ?_); rotate_left 2; (focus rfl); (focus rfl); (focus (obtain ⟨s0, s1, s2, s3, s4, s5, s6, x0, x1, x2⟩ := HX.out w' hC'; obtain ⟨⟨f0, f1, f2⟩, l0, l1, l2⟩ := HY.out w' hC'; clear hC' hG'; go_simp; rfl)); (focus (go_simp; rfl)))
      refine loose_call (R := ConstV (.int .i64 ca)) (f := 33) (args := #[.agg #[.int .i64 x.k, .int .i64 x.n, .string x.t], .agg #[.int .i64 f.k, .int .i64 f.n, .string f.t]]) (by rfl) (by rfl) (fun _ => by go_simp) (fun w' hC' hG' => HCA.out w') ?_
      rintro _ ⟨_, _, rfl⟩
      refine ⟨?_, ?_, ?_⟩
      rotate_left
      · go_simp
        rfl
      iterate 3 ((with_reducible refine loose_one (v := ?_) (a' := ?_) ?_ ?_ (fun w' hC' hG' => ?_) ?_ ?_); rotate_left 2; (focus rfl); (focus rfl); (focus (obtain ⟨s0, s1, s2, s3, s4, s5, s6, x0, x1, x2⟩ := HX.out w' hC'; obtain ⟨⟨f0, f1, f2⟩, l0, l1, l2⟩ := HY.out w' hC'; clear hC' hG'; go_simp; rfl)); (focus (go_simp; rfl)))
      iterate 9 ((with_reducible refine loose_one (v := ?_) (a' := ?_) ?_ ?_ (fun w' hC' hG' => ?_) ?_ ?_); rotate_left 2; (focus rfl); (focus rfl); (focus (obtain ⟨s0, s1, s2, s3, s4, s5, s6, x0, x1, x2⟩ := HX.out w' hC'; obtain ⟨⟨f0, f1, f2⟩, l0, l1, l2⟩ := HY.out w' hC'; clear hC' hG'; go_simp; rfl)); (focus (go_simp; rfl)))
      refine loose_call (R := ConstV (.int .i64 cb)) (f := 33) (args := #[.agg #[.int .i64 x.k, .int .i64 x.n, .string x.t], .agg #[.int .i64 l.k, .int .i64 l.n, .string l.t]]) (by rfl) (by rfl) (fun _ => by go_simp) (fun w' hC' hG' => HCB.out w') ?_
      rintro _ ⟨_, _, rfl⟩
      refine ⟨?_, ?_, ?_⟩
      rotate_left
      · go_simp
        rfl
      iterate 3 ((with_reducible refine loose_one (v := ?_) (a' := ?_) ?_ ?_ (fun w' hC' hG' => ?_) ?_ ?_); rotate_left 2; (focus rfl); (focus rfl); (focus (obtain ⟨s0, s1, s2, s3, s4, s5, s6, x0, x1, x2⟩ := HX.out w' hC'; obtain ⟨⟨f0, f1, f2⟩, l0, l1, l2⟩ := HY.out w' hC'; clear hC' hG'; go_simp; rfl)); (focus (go_simp; rfl)))
      iterate 5 ((with_reducible refine loose_one (v := ?_) (a' := ?_) ?_ ?_ (fun w' hC' hG' => ?_) ?_ ?_); rotate_left 2; (focus rfl); (focus rfl); (focus (obtain ⟨s0, s1, s2, s3, s4, s5, s6, x0, x1, x2⟩ := HX.out w' hC'; obtain ⟨⟨f0, f1, f2⟩, l0, l1, l2⟩ := HY.out w' hC'; clear hC' hG'; go_simp; rfl)); (focus (go_simp; rfl)))
      refine loose_call (R := ConstV (.bool false)) (f := 79) (args := #[.agg #[.int .i64 s.rows, .int .i64 s.nulls, .slice A1 L1 c1, .bool true, .slice A2 256 c2, .slice (some ⟨bb, off, none⟩) (m + 1) c3, .slice A4 RL c4], .agg #[.int .i64 x.k, .int .i64 x.n, .string x.t]]) (by rfl) (by rfl) (fun _ => by go_simp) (fun w' hC' hG' => HHS.out w' (HG0.out.of_below hC')) ?_
      rintro _ ⟨_, _, rfl⟩
      refine ⟨?_, ?_, ?_⟩
      rotate_left
      · go_simp
        rfl
      iterate 3 ((with_reducible refine loose_one (v := ?_) (a' := ?_) ?_ ?_ (fun w' hC' hG' => ?_) ?_ ?_); rotate_left 2; (focus rfl); (focus rfl); (focus (obtain ⟨s0, s1, s2, s3, s4, s5, s6, x0, x1, x2⟩ := HX.out w' hC'; obtain ⟨⟨f0, f1, f2⟩, l0, l1, l2⟩ := HY.out w' hC'; clear hC' hG'; go_simp; rfl)); (focus (go_simp; rfl)))
      refine loose_done (fun w5 hC5 hG5 => ?_)
      have HC5 := hidden hC5
      clear hC5 hG5
      go_wp2_with (first | (go_at_call 80; refine (HSP.out 0 0 _).mono ?_; rintro e wy ⟨rfl, g1⟩; have HGy := hidden (HC5.out.of_below g1); clear g1) | ((with_reducible refine at_bd rfl _ _ rfl ?_); refine wpList_store_bd rfl _ _ rfl _ rfl (w.heap.size + 1 + 1) rfl 0 0 rfl _ _ (HB0.out.grow HGy.out) ?_; intro W hr hg; have HRR := hidden hr; have HGG := hidden (hg w (HG0.out.of_below HGy.out) (by omega)); clear hr hg))
      refine bodyPost_ret (results_bd rfl _ _ _ _ _ rfl HRR.out) rfl ⟨?_, HGG.out⟩
      rw [HLO.out, HHI.out, HO.out]
      first | done | rfl
end Go.Proofs.YtoaklmceejeblaaGreat
