/-
  Shaken: what the claims of this seat need of this text. No condition.
-/
import Derived.Test.YtoaklmceejeblaaGreatSkH
namespace Go.Proofs.YtoaklmceejeblaaGreat
open Go.RowKit
set_option linter.unusedVariables false
set_option linter.unusedSimpArgs false
theorem skp_rows (w : World) (a b c d e f g p q k n t : Value) (o : Obj) : Row (((w.alloc (.cells #[a, b, c, d, e, f, g] 29)).alloc (.cells #[p, q, k, n, t] 37)).alloc o) w.heap.size 29 [a, b, c, d, e, f, g] ∧ Row (((w.alloc (.cells #[a, b, c, d, e, f, g] 29)).alloc (.cells #[p, q, k, n, t] 37)).alloc o) (w.heap.size + 1) 37 [p, q, k, n, t] := by
  refine ⟨((skrow_new _ _ _ _ _ _ _ _).grow (growK _ _)).grow (growK _ _), ?_⟩
  have h := (Row.new (w.alloc (.cells #[a, b, c, d, e, f, g] 29)) 37 #[p, q, k, n, t] [p, q, k, n, t] rfl).grow (growK _ o)
  have e : (w.alloc (.cells #[a, b, c, d, e, f, g] 29)).heap.size = w.heap.size + 1 := by simp
  rwa [e] at h
structure OkM (s : Sk) (x : Val) : Prop where
  hh : s.hs.length ≤ 100000
  hl : s.fs.length ≤ 100000
  hcl : s.cm.length = 256
  hr : s.rk.length = 2 * s.fs.length
  hn : OkRk s
  hv : validV x.k x.n x.t = true
  hM : ∀ b, 0 ≤ lessMaxF (s.rows - s.nulls) x b s.fs s.rk ∧ lessMaxF (s.rows - s.nulls) x b s.fs s.rk ≤ 9223372036854775807
  hm : ∀ b, 0 ≤ lessMinF x b 0 s.fs s.rk ∧ lessMinF x b 0 s.fs s.rk ≤ 9223372036854775807
  el : 0 ≤ rceqLo s x ∧ rceqLo s x ≤ 9223372036854775807
  eh : 0 ≤ rceqHi s x ∧ rceqHi s x ≤ 9223372036854775807
def rcmP (s : Sk) (x : Val) (o : Int) : Int × Int := cmP o s.nulls (s.rows - s.nulls) (foreignB s.fs x) (rceqLo s x) (rceqHi s x) (lessMinF x false 0 s.fs s.rk) (lessMaxF (s.rows - s.nulls) x false s.fs s.rk) (lessMinF x true 0 s.fs s.rk) (lessMaxF (s.rows - s.nulls) x true s.fs s.rk)
set_option maxRecDepth 8000 in
set_option maxHeartbeats 64000000 in
theorem rCountMatching_any (v : Value) (s : Sk) (x : Val) (col op : Int) (w : World) (hk : IsK w v s) (ho : OkM s x) :
    Calls Tryz.prog 26 #[v, .agg #[.int .i64 col, .int .i64 op, .int .i64 x.k, .int .i64 x.n, .string x.t]] w fun e w' => e = .returned (.agg #[.int .i64 (rcmP s x op).1, .int .i64 (rcmP s x op).2]) ∧ Grows w w' := by
  have HIK := hidden hk
  obtain ⟨A1, A2, A3, A4, c1, c2, c3, c4, rfl, -⟩ := hk
  have HV := hidden (fun X => rvalues_any s.rows s.nulls A1 A2 A3 A4 s.hs.length c1 s.cm.length c2 s.fs.length c3 s.rk.length c4 s.ok X ⟨by have := ho.hn.n0; omega, ho.hn.n1⟩)
  have HFO := hidden (fun W (h : Grows w W) => rforeign_any _ s x W (HIK.out.grow h))
  have HCQ := hidden (fun W (h : Grows w W) => rCountEqual_any _ s x W (HIK.out.grow h) ho.hh ho.hl ho.hcl ho.hr ho.hn ho.hv (ho.hM true) (ho.hm false))
  have HMX := hidden (fun b W (h : Grows w W) => const_loose16 (rLessMax_any _ s x b W (HIK.out.grow h) ho.hl ho.hr ⟨by have := ho.hn.n0; omega, ho.hn.n1⟩))
  have HMN := hidden (fun b W (h : Grows w W) => const_loose16 (rLessMin_any _ s x b W (HIK.out.grow h) ho.hl ho.hr))
  have HSP := hidden (fun a b W => rspan_any a b W)
  have HSQ := hidden (fun a b W => const_loose16 (rspan_any a b W))
  have HBM := hidden ho.hM
  have HBN := hidden ho.hm
  have HBE := hidden (And.intro ho.el ho.eh)
  have HN0 := hidden (And.intro ho.hn.n0 ho.hn.n1)
  have HCP := hidden (show rcmP s x op = cmP op s.nulls (s.rows - s.nulls) (foreignB s.fs x) (rceqLo s x) (rceqHi s x) (lessMinF x false 0 s.fs s.rk) (lessMaxF (s.rows - s.nulls) x false s.fs s.rk) (lessMinF x true 0 s.fs s.rk) (lessMaxF (s.rows - s.nulls) x true s.fs s.rk) from rfl)
  obtain ⟨L1, hL1⟩ : ∃ L, L = s.hs.length := ⟨_, rfl⟩
  obtain ⟨L2, hL2⟩ : ∃ L, L = s.cm.length := ⟨_, rfl⟩
  obtain ⟨M, hME⟩ : ∃ L, L = s.fs.length := ⟨_, rfl⟩
  obtain ⟨RL, hRL⟩ : ∃ L, L = s.rk.length := ⟨_, rfl⟩
  rw [← hL1, ← hL2, ← hME, ← hRL] at HV HFO HCQ HMX HMN ⊢
  clear hL1 hL2 hME hRL HIK ho
  generalize rceqLo s x = el at *
  generalize rceqHi s x = eh at *
  generalize foreignB s.fs x = fo at *
  generalize rcmP s x op = out at *
  generalize hn : s.rows - s.nulls = n at *
  have HMXF := hidden (fun W (h : Grows w W) => HMX.out false W h)
  have HMXT := hidden (fun W (h : Grows w W) => HMX.out true W h)
  have HMNF := hidden (fun W (h : Grows w W) => HMN.out false W h)
  have HMNT := hidden (fun W (h : Grows w W) => HMN.out true W h)
  have HB1 := hidden (HBM.out false)
  have HB2 := hidden (HBM.out true)
  have HB3 := hidden (HBN.out false)
  have HB4 := hidden (HBN.out true)
  generalize lessMaxF n x false s.fs s.rk = mxf at *
  generalize lessMaxF n x true s.fs s.rk = mxt at *
  generalize lessMinF x false 0 s.fs s.rk = mnf at *
  generalize lessMinF x true 0 s.fs s.rk = mnt at *
  clear HMX HMN HBM HBN hn
  by_cases h20 : op = 20
  · subst h20
    have HO := hidden (show out = (s.nulls, s.nulls) from HCP.out)
    obtain ⟨W0, hW0⟩ : ∃ W, W = (((w.alloc (.cells #[.int .i64 s.rows, .int .i64 s.nulls, .slice A1 L1 c1, .bool s.ok, .slice A2 L2 c2, .slice A3 M c3, .slice A4 RL c4] 29)).alloc (.cells #[.int .i64 col, .int .i64 20, .int .i64 x.k, .int .i64 x.n, .string x.t] 37)).alloc (.cells #[.int .i64 0, .int .i64 0] 40)) := ⟨_, rfl⟩
    have HG0 := hidden (show Grows w W0 by rw [hW0]; exact ((growK _ _).of_below (growK _ _)).of_below (growK _ _))
    have HS0 := hidden (show Row W0 w.heap.size 29 [.int .i64 s.rows, .int .i64 s.nulls, .slice A1 L1 c1, .bool s.ok, .slice A2 L2 c2, .slice A3 M c3, .slice A4 RL c4] by rw [hW0]; exact (skp_rows _ _ _ _ _ _ _ _ _ _ _ _ _ _).1)
    have HP0 := hidden (show Row W0 (w.heap.size + 1) 37 [.int .i64 col, .int .i64 20, .int .i64 x.k, .int .i64 x.n, .string x.t] by rw [hW0]; exact (skp_rows _ _ _ _ _ _ _ _ _ _ _ _ _ _).2)
    have HB0 := hidden (show Row W0 (w.heap.size + 1 + 1) 40 [.int .i64 0, .int .i64 0] by rw [hW0]; exact bdrow_at2 _ _ _ _ _)
    have HX : Hid (∀ X, Grows W0 X → X.cell? ⟨w.heap.size, 0, none⟩ = some (.int .i64 s.rows) ∧ X.cell? ⟨w.heap.size, 1, none⟩ = some (.int .i64 s.nulls) ∧ X.cell? ⟨w.heap.size, 2, none⟩ = some (.slice A1 L1 c1) ∧ X.cell? ⟨w.heap.size, 3, none⟩ = some (.bool s.ok) ∧ X.cell? ⟨w.heap.size, 4, none⟩ = some (.slice A2 L2 c2) ∧ X.cell? ⟨w.heap.size, 5, none⟩ = some (.slice A3 M c3) ∧ X.cell? ⟨w.heap.size, 6, none⟩ = some (.slice A4 RL c4) ∧ X.cell? ⟨w.heap.size + 1, 0, none⟩ = some (.int .i64 col) ∧ X.cell? ⟨w.heap.size + 1, 1, none⟩ = some (.int .i64 20) ∧ X.cell? ⟨w.heap.size + 1, 2, none⟩ = some (.int .i64 x.k) ∧ X.cell? ⟨w.heap.size + 1, 3, none⟩ = some (.int .i64 x.n) ∧ X.cell? ⟨w.heap.size + 1, 4, none⟩ = some (.string x.t)) := hidden fun X h => ⟨(HS0.out.grow h).cell 0, (HS0.out.grow h).cell 1, (HS0.out.grow h).cell 2, (HS0.out.grow h).cell 3, (HS0.out.grow h).cell 4, (HS0.out.grow h).cell 5, (HS0.out.grow h).cell 6, (HP0.out.grow h).cell 0, (HP0.out.grow h).cell 1, (HP0.out.grow h).cell 2, (HP0.out.grow h).cell 3, (HP0.out.grow h).cell 4⟩
    go_enter Tryz.func26, Tryz.ntmps26
    go_wp2_with fail
    rw [← hW0]
    clear hW0
    refine (HV.out _).mono ?_
    rintro e w1 ⟨rfl, g1⟩
    have HC := hidden g1
    obtain ⟨s0, s1, s2, s3, s4, s5, s6, p0, p1, p2, p3, p4⟩ := HX.out w1 g1
    clear g1
    go_wp2_with (first | (go_at_call 80; refine (HSP.out s.nulls s.nulls _).mono ?_; rintro e wy ⟨rfl, g1⟩; have HC := hidden (HC.out.of_below g1); clear g1) | ((with_reducible refine at_bd rfl _ _ rfl ?_); refine wpList_store_bd rfl _ _ rfl _ rfl (w.heap.size + 1 + 1) rfl s.nulls s.nulls rfl _ _ (HB0.out.grow HC.out) ?_; intro W hr hg; have HRR := hidden hr; have HGG := hidden (hg w (HG0.out.of_below HC.out) (by omega)); clear hr hg))
    refine bodyPost_ret (results_bd rfl _ _ _ _ _ rfl HRR.out) rfl ⟨?_, HGG.out⟩
    rw [HO.out]
  by_cases h21 : op = 21
  · subst h21
    have HO := hidden (show out = (n, n) from HCP.out)
    obtain ⟨W0, hW0⟩ : ∃ W, W = (((w.alloc (.cells #[.int .i64 s.rows, .int .i64 s.nulls, .slice A1 L1 c1, .bool s.ok, .slice A2 L2 c2, .slice A3 M c3, .slice A4 RL c4] 29)).alloc (.cells #[.int .i64 col, .int .i64 21, .int .i64 x.k, .int .i64 x.n, .string x.t] 37)).alloc (.cells #[.int .i64 0, .int .i64 0] 40)) := ⟨_, rfl⟩
    have HG0 := hidden (show Grows w W0 by rw [hW0]; exact ((growK _ _).of_below (growK _ _)).of_below (growK _ _))
    have HS0 := hidden (show Row W0 w.heap.size 29 [.int .i64 s.rows, .int .i64 s.nulls, .slice A1 L1 c1, .bool s.ok, .slice A2 L2 c2, .slice A3 M c3, .slice A4 RL c4] by rw [hW0]; exact (skp_rows _ _ _ _ _ _ _ _ _ _ _ _ _ _).1)
    have HP0 := hidden (show Row W0 (w.heap.size + 1) 37 [.int .i64 col, .int .i64 21, .int .i64 x.k, .int .i64 x.n, .string x.t] by rw [hW0]; exact (skp_rows _ _ _ _ _ _ _ _ _ _ _ _ _ _).2)
    have HB0 := hidden (show Row W0 (w.heap.size + 1 + 1) 40 [.int .i64 0, .int .i64 0] by rw [hW0]; exact bdrow_at2 _ _ _ _ _)
    have HX : Hid (∀ X, Grows W0 X → X.cell? ⟨w.heap.size, 0, none⟩ = some (.int .i64 s.rows) ∧ X.cell? ⟨w.heap.size, 1, none⟩ = some (.int .i64 s.nulls) ∧ X.cell? ⟨w.heap.size, 2, none⟩ = some (.slice A1 L1 c1) ∧ X.cell? ⟨w.heap.size, 3, none⟩ = some (.bool s.ok) ∧ X.cell? ⟨w.heap.size, 4, none⟩ = some (.slice A2 L2 c2) ∧ X.cell? ⟨w.heap.size, 5, none⟩ = some (.slice A3 M c3) ∧ X.cell? ⟨w.heap.size, 6, none⟩ = some (.slice A4 RL c4) ∧ X.cell? ⟨w.heap.size + 1, 0, none⟩ = some (.int .i64 col) ∧ X.cell? ⟨w.heap.size + 1, 1, none⟩ = some (.int .i64 21) ∧ X.cell? ⟨w.heap.size + 1, 2, none⟩ = some (.int .i64 x.k) ∧ X.cell? ⟨w.heap.size + 1, 3, none⟩ = some (.int .i64 x.n) ∧ X.cell? ⟨w.heap.size + 1, 4, none⟩ = some (.string x.t)) := hidden fun X h => ⟨(HS0.out.grow h).cell 0, (HS0.out.grow h).cell 1, (HS0.out.grow h).cell 2, (HS0.out.grow h).cell 3, (HS0.out.grow h).cell 4, (HS0.out.grow h).cell 5, (HS0.out.grow h).cell 6, (HP0.out.grow h).cell 0, (HP0.out.grow h).cell 1, (HP0.out.grow h).cell 2, (HP0.out.grow h).cell 3, (HP0.out.grow h).cell 4⟩
    go_enter Tryz.func26, Tryz.ntmps26
    go_wp2_with fail
    rw [← hW0]
    clear hW0
    refine (HV.out _).mono ?_
    rintro e w1 ⟨rfl, g1⟩
    have HC := hidden g1
    obtain ⟨s0, s1, s2, s3, s4, s5, s6, p0, p1, p2, p3, p4⟩ := HX.out w1 g1
    clear g1
    go_wp2_with (first | (go_at_call 80; refine (HSP.out n n _).mono ?_; rintro e wy ⟨rfl, g1⟩; have HC := hidden (HC.out.of_below g1); clear g1) | ((with_reducible refine at_bd rfl _ _ rfl ?_); refine wpList_store_bd rfl _ _ rfl _ rfl (w.heap.size + 1 + 1) rfl n n rfl _ _ (HB0.out.grow HC.out) ?_; intro W hr hg; have HRR := hidden hr; have HGG := hidden (hg w (HG0.out.of_below HC.out) (by omega)); clear hr hg))
    refine bodyPost_ret (results_bd rfl _ _ _ _ _ rfl HRR.out) rfl ⟨?_, HGG.out⟩
    rw [HO.out]
  have d20 : (op == 20) = false := beq_eq_false_iff_ne.2 h20
  have d21 : (op == 21) = false := beq_eq_false_iff_ne.2 h21
  cases fo with
  | true =>
    have HO := hidden (show out = (0, 0) by rw [HCP.out]; unfold cmP; rw [if_neg h20, if_neg h21, if_pos rfl])
    clear h20 h21
    obtain ⟨W0, hW0⟩ : ∃ W, W = (((w.alloc (.cells #[.int .i64 s.rows, .int .i64 s.nulls, .slice A1 L1 c1, .bool s.ok, .slice A2 L2 c2, .slice A3 M c3, .slice A4 RL c4] 29)).alloc (.cells #[.int .i64 col, .int .i64 op, .int .i64 x.k, .int .i64 x.n, .string x.t] 37)).alloc (.cells #[.int .i64 0, .int .i64 0] 40)) := ⟨_, rfl⟩
    have HG0 := hidden (show Grows w W0 by rw [hW0]; exact ((growK _ _).of_below (growK _ _)).of_below (growK _ _))
    have HS0 := hidden (show Row W0 w.heap.size 29 [.int .i64 s.rows, .int .i64 s.nulls, .slice A1 L1 c1, .bool s.ok, .slice A2 L2 c2, .slice A3 M c3, .slice A4 RL c4] by rw [hW0]; exact (skp_rows _ _ _ _ _ _ _ _ _ _ _ _ _ _).1)
    have HP0 := hidden (show Row W0 (w.heap.size + 1) 37 [.int .i64 col, .int .i64 op, .int .i64 x.k, .int .i64 x.n, .string x.t] by rw [hW0]; exact (skp_rows _ _ _ _ _ _ _ _ _ _ _ _ _ _).2)
    have HB0 := hidden (show Row W0 (w.heap.size + 1 + 1) 40 [.int .i64 0, .int .i64 0] by rw [hW0]; exact bdrow_at2 _ _ _ _ _)
    have HX : Hid (∀ X, Grows W0 X → X.cell? ⟨w.heap.size, 0, none⟩ = some (.int .i64 s.rows) ∧ X.cell? ⟨w.heap.size, 1, none⟩ = some (.int .i64 s.nulls) ∧ X.cell? ⟨w.heap.size, 2, none⟩ = some (.slice A1 L1 c1) ∧ X.cell? ⟨w.heap.size, 3, none⟩ = some (.bool s.ok) ∧ X.cell? ⟨w.heap.size, 4, none⟩ = some (.slice A2 L2 c2) ∧ X.cell? ⟨w.heap.size, 5, none⟩ = some (.slice A3 M c3) ∧ X.cell? ⟨w.heap.size, 6, none⟩ = some (.slice A4 RL c4) ∧ X.cell? ⟨w.heap.size + 1, 0, none⟩ = some (.int .i64 col) ∧ X.cell? ⟨w.heap.size + 1, 1, none⟩ = some (.int .i64 op) ∧ X.cell? ⟨w.heap.size + 1, 2, none⟩ = some (.int .i64 x.k) ∧ X.cell? ⟨w.heap.size + 1, 3, none⟩ = some (.int .i64 x.n) ∧ X.cell? ⟨w.heap.size + 1, 4, none⟩ = some (.string x.t)) := hidden fun X h => ⟨(HS0.out.grow h).cell 0, (HS0.out.grow h).cell 1, (HS0.out.grow h).cell 2, (HS0.out.grow h).cell 3, (HS0.out.grow h).cell 4, (HS0.out.grow h).cell 5, (HS0.out.grow h).cell 6, (HP0.out.grow h).cell 0, (HP0.out.grow h).cell 1, (HP0.out.grow h).cell 2, (HP0.out.grow h).cell 3, (HP0.out.grow h).cell 4⟩
    go_enter Tryz.func26, Tryz.ntmps26
    go_wp2_with fail
    rw [← hW0]
    clear hW0
    refine (HV.out _).mono ?_
    rintro e w1 ⟨rfl, g1⟩
    have HC := hidden g1
    obtain ⟨s0, s1, s2, s3, s4, s5, s6, p0, p1, p2, p3, p4⟩ := HX.out w1 g1
    clear g1
    go_wp2_with (first | (go_at_call 78; refine (HFO.out w1 (HG0.out.of_below HC.out)).mono ?_; rintro e w3 ⟨rfl, g1⟩; have HC := hidden (HC.out.of_below g1); obtain ⟨s0, s1, s2, s3, s4, s5, s6, p0, p1, p2, p3, p4⟩ := HX.out w3 HC.out; clear g1) | (go_at_call 80; refine (HSP.out 0 0 _).mono ?_; rintro e wy ⟨rfl, g1⟩; have HC := hidden (HC.out.of_below g1); clear g1) | ((with_reducible refine at_bd rfl _ _ rfl ?_); refine wpList_store_bd rfl _ _ rfl _ rfl (w.heap.size + 1 + 1) rfl 0 0 rfl _ _ (HB0.out.grow HC.out) ?_; intro W hr hg; have HRR := hidden hr; have HGG := hidden (hg w (HG0.out.of_below HC.out) (by omega)); clear hr hg))
    refine bodyPost_ret (results_bd rfl _ _ _ _ _ rfl HRR.out) rfl ⟨?_, HGG.out⟩
    rw [HO.out]
  | false =>
    by_cases h1 : op = 1
    · subst h1
      clear d20 d21 h20 h21
      have HO := hidden (show out = (el, eh) from HCP.out)
      obtain ⟨W0, hW0⟩ : ∃ W, W = (((w.alloc (.cells #[.int .i64 s.rows, .int .i64 s.nulls, .slice A1 L1 c1, .bool s.ok, .slice A2 L2 c2, .slice A3 M c3, .slice A4 RL c4] 29)).alloc (.cells #[.int .i64 col, .int .i64 1, .int .i64 x.k, .int .i64 x.n, .string x.t] 37)).alloc (.cells #[.int .i64 0, .int .i64 0] 40)) := ⟨_, rfl⟩
      have HG0 := hidden (show Grows w W0 by rw [hW0]; exact ((growK _ _).of_below (growK _ _)).of_below (growK _ _))
      have HS0 := hidden (show Row W0 w.heap.size 29 [.int .i64 s.rows, .int .i64 s.nulls, .slice A1 L1 c1, .bool s.ok, .slice A2 L2 c2, .slice A3 M c3, .slice A4 RL c4] by rw [hW0]; exact (skp_rows _ _ _ _ _ _ _ _ _ _ _ _ _ _).1)
      have HP0 := hidden (show Row W0 (w.heap.size + 1) 37 [.int .i64 col, .int .i64 1, .int .i64 x.k, .int .i64 x.n, .string x.t] by rw [hW0]; exact (skp_rows _ _ _ _ _ _ _ _ _ _ _ _ _ _).2)
      have HB0 := hidden (show Row W0 (w.heap.size + 1 + 1) 40 [.int .i64 0, .int .i64 0] by rw [hW0]; exact bdrow_at2 _ _ _ _ _)
      have HX : Hid (∀ X, Grows W0 X → X.cell? ⟨w.heap.size, 0, none⟩ = some (.int .i64 s.rows) ∧ X.cell? ⟨w.heap.size, 1, none⟩ = some (.int .i64 s.nulls) ∧ X.cell? ⟨w.heap.size, 2, none⟩ = some (.slice A1 L1 c1) ∧ X.cell? ⟨w.heap.size, 3, none⟩ = some (.bool s.ok) ∧ X.cell? ⟨w.heap.size, 4, none⟩ = some (.slice A2 L2 c2) ∧ X.cell? ⟨w.heap.size, 5, none⟩ = some (.slice A3 M c3) ∧ X.cell? ⟨w.heap.size, 6, none⟩ = some (.slice A4 RL c4) ∧ X.cell? ⟨w.heap.size + 1, 0, none⟩ = some (.int .i64 col) ∧ X.cell? ⟨w.heap.size + 1, 1, none⟩ = some (.int .i64 1) ∧ X.cell? ⟨w.heap.size + 1, 2, none⟩ = some (.int .i64 x.k) ∧ X.cell? ⟨w.heap.size + 1, 3, none⟩ = some (.int .i64 x.n) ∧ X.cell? ⟨w.heap.size + 1, 4, none⟩ = some (.string x.t)) := hidden fun X h => ⟨(HS0.out.grow h).cell 0, (HS0.out.grow h).cell 1, (HS0.out.grow h).cell 2, (HS0.out.grow h).cell 3, (HS0.out.grow h).cell 4, (HS0.out.grow h).cell 5, (HS0.out.grow h).cell 6, (HP0.out.grow h).cell 0, (HP0.out.grow h).cell 1, (HP0.out.grow h).cell 2, (HP0.out.grow h).cell 3, (HP0.out.grow h).cell 4⟩
      go_enter Tryz.func26, Tryz.ntmps26
      go_wp2_with fail
      rw [← hW0]
      clear hW0
      refine (HV.out _).mono ?_
      rintro e w1 ⟨rfl, g1⟩
      have HC := hidden g1
      obtain ⟨s0, s1, s2, s3, s4, s5, s6, p0, p1, p2, p3, p4⟩ := HX.out w1 g1
      clear g1
      go_wp2_with (go_at_call 78; refine (HFO.out w1 (HG0.out.of_below HC.out)).mono ?_; rintro e w3 ⟨rfl, g1⟩; have HC := hidden (HC.out.of_below g1); obtain ⟨s0, s1, s2, s3, s4, s5, s6, p0, p1, p2, p3, p4⟩ := HX.out w3 HC.out; clear g1; obtain ⟨s0a, s1a, s2a, s3a, s4a, s5a, s6a, p0a, p1a, p2a, p3a, p4a⟩ := HX.out (w3.alloc (.cells #[.int .i64 x.k, .int .i64 x.n, .string x.t] 35)) (HC.out.of_below (growK _ _)))
      have HX2 := hidden (fun X (h : Grows (w3.alloc (.cells #[.int .i64 x.k, .int .i64 x.n, .string x.t] 35)) X) => HX.out X (HC.out.of_below ((growK _ _).of_below h)))
      have HVR := hidden (fun X (h : Grows (w3.alloc (.cells #[.int .i64 x.k, .int .i64 x.n, .string x.t] 35)) X) => (Row.new w3 35 #[.int .i64 x.k, .int .i64 x.n, .string x.t] [.int .i64 x.k, .int .i64 x.n, .string x.t] rfl).grow h)
      have HA := hidden (HC.out.of_below (growK w3 (.cells #[.int .i64 x.k, .int .i64 x.n, .string x.t] 35)))
      refine (HCQ.out _ (HG0.out.of_below HA.out)).mono ?_
      rintro e w4 ⟨rfl, g4⟩
      have HC4 := hidden (HA.out.of_below g4)
      have HX4 := hidden (fun X (h : Grows (w4.alloc (.cells #[.int .i64 el, .int .i64 eh] 40)) X) => HX2.out X (g4.of_below ((growK _ _).of_below h)))
      have HV4 := hidden (fun X (h : Grows (w4.alloc (.cells #[.int .i64 el, .int .i64 eh] 40)) X) => HVR.out X (g4.of_below ((growK _ _).of_below h)))
      have HC := hidden (HC4.out.of_below (growK w4 (.cells #[.int .i64 el, .int .i64 eh] 40)))
      clear g4 s0 s1 s2 s3 s4 s5 s6 p0 p1 p2 p3 p4 s0a s1a s2a s3a s4a s5a s6a p0a p1a p2a p3a p4a
      obtain ⟨s0, s1, s2, s3, s4, s5, s6, p0, p1, p2, p3, p4⟩ := HX4.out _ (Below.refl _ _)
      go_wp2_with ((with_reducible refine at_bd rfl _ _ rfl ?_); refine wpList_store_bd rfl _ _ rfl _ rfl (w.heap.size + 1 + 1) rfl el eh rfl _ _ (HB0.out.grow HC.out) ?_; intro W hr hg; have HRR := hidden hr; have HGG := hidden (hg w (HG0.out.of_below HC.out) (by omega)); clear hr hg)
      refine bodyPost_ret (results_bd rfl _ _ _ _ _ rfl HRR.out) rfl ⟨?_, HGG.out⟩
      rw [HO.out]
    by_cases h2 : op = 2
    · subst h2
      clear d20 d21 h20 h21
      have HO := hidden (show out = (n - eh, n - el) from HCP.out)
      have hwa : IntKind.i64.wrap (n - eh) = n - eh := by have := HN0.out; have := HBE.out; rw [IntKind.wrap_i64]; omega
      have hwb : IntKind.i64.wrap (n - el) = n - el := by have := HN0.out; have := HBE.out; rw [IntKind.wrap_i64]; omega
      have hwc : wrap64 (n - eh) = n - eh := by have := HN0.out; have := HBE.out; unfold wrap64; omega
      have hwd : wrap64 (n - el) = n - el := by have := HN0.out; have := HBE.out; unfold wrap64; omega
      have hwe : wrap64 n = n := by have := HN0.out; unfold wrap64; omega
      have hwf : IntKind.i64.wrap n = n := by have := HN0.out; rw [IntKind.wrap_i64]; omega
      obtain ⟨W0, hW0⟩ : ∃ W, W = (((w.alloc (.cells #[.int .i64 s.rows, .int .i64 s.nulls, .slice A1 L1 c1, .bool s.ok, .slice A2 L2 c2, .slice A3 M c3, .slice A4 RL c4] 29)).alloc (.cells #[.int .i64 col, .int .i64 2, .int .i64 x.k, .int .i64 x.n, .string x.t] 37)).alloc (.cells #[.int .i64 0, .int .i64 0] 40)) := ⟨_, rfl⟩
      have HG0 := hidden (show Grows w W0 by rw [hW0]; exact ((growK _ _).of_below (growK _ _)).of_below (growK _ _))
      have HS0 := hidden (show Row W0 w.heap.size 29 [.int .i64 s.rows, .int .i64 s.nulls, .slice A1 L1 c1, .bool s.ok, .slice A2 L2 c2, .slice A3 M c3, .slice A4 RL c4] by rw [hW0]; exact (skp_rows _ _ _ _ _ _ _ _ _ _ _ _ _ _).1)
      have HP0 := hidden (show Row W0 (w.heap.size + 1) 37 [.int .i64 col, .int .i64 2, .int .i64 x.k, .int .i64 x.n, .string x.t] by rw [hW0]; exact (skp_rows _ _ _ _ _ _ _ _ _ _ _ _ _ _).2)
      have HB0 := hidden (show Row W0 (w.heap.size + 1 + 1) 40 [.int .i64 0, .int .i64 0] by rw [hW0]; exact bdrow_at2 _ _ _ _ _)
      have HX : Hid (∀ X, Grows W0 X → X.cell? ⟨w.heap.size, 0, none⟩ = some (.int .i64 s.rows) ∧ X.cell? ⟨w.heap.size, 1, none⟩ = some (.int .i64 s.nulls) ∧ X.cell? ⟨w.heap.size, 2, none⟩ = some (.slice A1 L1 c1) ∧ X.cell? ⟨w.heap.size, 3, none⟩ = some (.bool s.ok) ∧ X.cell? ⟨w.heap.size, 4, none⟩ = some (.slice A2 L2 c2) ∧ X.cell? ⟨w.heap.size, 5, none⟩ = some (.slice A3 M c3) ∧ X.cell? ⟨w.heap.size, 6, none⟩ = some (.slice A4 RL c4) ∧ X.cell? ⟨w.heap.size + 1, 0, none⟩ = some (.int .i64 col) ∧ X.cell? ⟨w.heap.size + 1, 1, none⟩ = some (.int .i64 2) ∧ X.cell? ⟨w.heap.size + 1, 2, none⟩ = some (.int .i64 x.k) ∧ X.cell? ⟨w.heap.size + 1, 3, none⟩ = some (.int .i64 x.n) ∧ X.cell? ⟨w.heap.size + 1, 4, none⟩ = some (.string x.t)) := hidden fun X h => ⟨(HS0.out.grow h).cell 0, (HS0.out.grow h).cell 1, (HS0.out.grow h).cell 2, (HS0.out.grow h).cell 3, (HS0.out.grow h).cell 4, (HS0.out.grow h).cell 5, (HS0.out.grow h).cell 6, (HP0.out.grow h).cell 0, (HP0.out.grow h).cell 1, (HP0.out.grow h).cell 2, (HP0.out.grow h).cell 3, (HP0.out.grow h).cell 4⟩
      go_enter Tryz.func26, Tryz.ntmps26
      go_wp2_with fail
      rw [← hW0]
      clear hW0
      refine (HV.out _).mono ?_
      rintro e w1 ⟨rfl, g1⟩
      have HC := hidden g1
      obtain ⟨s0, s1, s2, s3, s4, s5, s6, p0, p1, p2, p3, p4⟩ := HX.out w1 g1
      clear g1
      go_wp2_with (go_at_call 78; refine (HFO.out w1 (HG0.out.of_below HC.out)).mono ?_; rintro e w3 ⟨rfl, g1⟩; have HC := hidden (HC.out.of_below g1); obtain ⟨s0, s1, s2, s3, s4, s5, s6, p0, p1, p2, p3, p4⟩ := HX.out w3 HC.out; clear g1; obtain ⟨s0a, s1a, s2a, s3a, s4a, s5a, s6a, p0a, p1a, p2a, p3a, p4a⟩ := HX.out (w3.alloc (.cells #[.int .i64 x.k, .int .i64 x.n, .string x.t] 35)) (HC.out.of_below (growK _ _)))
      have HX2 := hidden (fun X (h : Grows (w3.alloc (.cells #[.int .i64 x.k, .int .i64 x.n, .string x.t] 35)) X) => HX.out X (HC.out.of_below ((growK _ _).of_below h)))
      have HVR := hidden (fun X (h : Grows (w3.alloc (.cells #[.int .i64 x.k, .int .i64 x.n, .string x.t] 35)) X) => (Row.new w3 35 #[.int .i64 x.k, .int .i64 x.n, .string x.t] [.int .i64 x.k, .int .i64 x.n, .string x.t] rfl).grow h)
      have HA := hidden (HC.out.of_below (growK w3 (.cells #[.int .i64 x.k, .int .i64 x.n, .string x.t] 35)))
      refine (HCQ.out _ (HG0.out.of_below HA.out)).mono ?_
      rintro e w4 ⟨rfl, g4⟩
      have HC4 := hidden (HA.out.of_below g4)
      have HX4 := hidden (fun X (h : Grows (w4.alloc (.cells #[.int .i64 el, .int .i64 eh] 40)) X) => HX2.out X (g4.of_below ((growK _ _).of_below h)))
      have HV4 := hidden (fun X (h : Grows (w4.alloc (.cells #[.int .i64 el, .int .i64 eh] 40)) X) => HVR.out X (g4.of_below ((growK _ _).of_below h)))
      have HC := hidden (HC4.out.of_below (growK w4 (.cells #[.int .i64 el, .int .i64 eh] 40)))
      clear g4 s0 s1 s2 s3 s4 s5 s6 p0 p1 p2 p3 p4 s0a s1a s2a s3a s4a s5a s6a p0a p1a p2a p3a p4a
      obtain ⟨s0, s1, s2, s3, s4, s5, s6, p0, p1, p2, p3, p4⟩ := HX4.out _ (Below.refl _ _)
      go_wp2_with ((with_reducible refine at_bd rfl _ _ rfl ?_); refine wpList_store_bd rfl _ _ rfl _ rfl (w.heap.size + 1 + 1) rfl (n - eh) (n - el) rfl _ _ (HB0.out.grow HC.out) ?_; intro W hr hg; have HRR := hidden hr; have HGG := hidden (hg w (HG0.out.of_below HC.out) (by omega)); clear hr hg)
      refine bodyPost_ret (results_bd rfl _ _ _ _ _ rfl HRR.out) rfl ⟨?_, HGG.out⟩
      rw [HO.out]
    by_cases h3 : op = 3
    · subst h3
      clear d20 d21 h20 h21
      have HO := hidden (show out = (mnf, mxf) from HCP.out)
      obtain ⟨W0, hW0⟩ : ∃ W, W = (((w.alloc (.cells #[.int .i64 s.rows, .int .i64 s.nulls, .slice A1 L1 c1, .bool s.ok, .slice A2 L2 c2, .slice A3 M c3, .slice A4 RL c4] 29)).alloc (.cells #[.int .i64 col, .int .i64 3, .int .i64 x.k, .int .i64 x.n, .string x.t] 37)).alloc (.cells #[.int .i64 0, .int .i64 0] 40)) := ⟨_, rfl⟩
      have HG0 := hidden (show Grows w W0 by rw [hW0]; exact ((growK _ _).of_below (growK _ _)).of_below (growK _ _))
      have HS0 := hidden (show Row W0 w.heap.size 29 [.int .i64 s.rows, .int .i64 s.nulls, .slice A1 L1 c1, .bool s.ok, .slice A2 L2 c2, .slice A3 M c3, .slice A4 RL c4] by rw [hW0]; exact (skp_rows _ _ _ _ _ _ _ _ _ _ _ _ _ _).1)
      have HP0 := hidden (show Row W0 (w.heap.size + 1) 37 [.int .i64 col, .int .i64 3, .int .i64 x.k, .int .i64 x.n, .string x.t] by rw [hW0]; exact (skp_rows _ _ _ _ _ _ _ _ _ _ _ _ _ _).2)
      have HB0 := hidden (show Row W0 (w.heap.size + 1 + 1) 40 [.int .i64 0, .int .i64 0] by rw [hW0]; exact bdrow_at2 _ _ _ _ _)
      have HX : Hid (∀ X, Grows W0 X → X.cell? ⟨w.heap.size, 0, none⟩ = some (.int .i64 s.rows) ∧ X.cell? ⟨w.heap.size, 1, none⟩ = some (.int .i64 s.nulls) ∧ X.cell? ⟨w.heap.size, 2, none⟩ = some (.slice A1 L1 c1) ∧ X.cell? ⟨w.heap.size, 3, none⟩ = some (.bool s.ok) ∧ X.cell? ⟨w.heap.size, 4, none⟩ = some (.slice A2 L2 c2) ∧ X.cell? ⟨w.heap.size, 5, none⟩ = some (.slice A3 M c3) ∧ X.cell? ⟨w.heap.size, 6, none⟩ = some (.slice A4 RL c4) ∧ X.cell? ⟨w.heap.size + 1, 0, none⟩ = some (.int .i64 col) ∧ X.cell? ⟨w.heap.size + 1, 1, none⟩ = some (.int .i64 3) ∧ X.cell? ⟨w.heap.size + 1, 2, none⟩ = some (.int .i64 x.k) ∧ X.cell? ⟨w.heap.size + 1, 3, none⟩ = some (.int .i64 x.n) ∧ X.cell? ⟨w.heap.size + 1, 4, none⟩ = some (.string x.t)) := hidden fun X h => ⟨(HS0.out.grow h).cell 0, (HS0.out.grow h).cell 1, (HS0.out.grow h).cell 2, (HS0.out.grow h).cell 3, (HS0.out.grow h).cell 4, (HS0.out.grow h).cell 5, (HS0.out.grow h).cell 6, (HP0.out.grow h).cell 0, (HP0.out.grow h).cell 1, (HP0.out.grow h).cell 2, (HP0.out.grow h).cell 3, (HP0.out.grow h).cell 4⟩
      go_enter Tryz.func26, Tryz.ntmps26
      go_wp2_with fail
      rw [← hW0]
      clear hW0
      refine (HV.out _).mono ?_
      rintro e w1 ⟨rfl, g1⟩
      have HC := hidden g1
      obtain ⟨s0, s1, s2, s3, s4, s5, s6, p0, p1, p2, p3, p4⟩ := HX.out w1 g1
      clear g1
      go_wp2_with (go_at_call 78; refine (HFO.out w1 (HG0.out.of_below HC.out)).mono ?_; rintro e w3 ⟨rfl, g1⟩; have HC := hidden (HC.out.of_below g1); obtain ⟨s0, s1, s2, s3, s4, s5, s6, p0, p1, p2, p3, p4⟩ := HX.out w3 HC.out; clear g1; obtain ⟨s0a, s1a, s2a, s3a, s4a, s5a, s6a, p0a, p1a, p2a, p3a, p4a⟩ := HX.out (w3.alloc (.cells #[.int .i64 x.k, .int .i64 x.n, .string x.t] 35)) (HC.out.of_below (growK _ _)))
      have HX2 := hidden (fun X (h : Grows (w3.alloc (.cells #[.int .i64 x.k, .int .i64 x.n, .string x.t] 35)) X) => HX.out X (HC.out.of_below ((growK _ _).of_below h)))
      have HVR := hidden (fun X (h : Grows (w3.alloc (.cells #[.int .i64 x.k, .int .i64 x.n, .string x.t] 35)) X) => (Row.new w3 35 #[.int .i64 x.k, .int .i64 x.n, .string x.t] [.int .i64 x.k, .int .i64 x.n, .string x.t] rfl).grow h)
      have HA := hidden (HC.out.of_below (growK w3 (.cells #[.int .i64 x.k, .int .i64 x.n, .string x.t] 35)))
      refine (HCQ.out _ (HG0.out.of_below HA.out)).mono ?_
      rintro e w4 ⟨rfl, g4⟩
      have HC4 := hidden (HA.out.of_below g4)
      have HX4 := hidden (fun X (h : Grows (w4.alloc (.cells #[.int .i64 el, .int .i64 eh] 40)) X) => HX2.out X (g4.of_below ((growK _ _).of_below h)))
      have HV4 := hidden (fun X (h : Grows (w4.alloc (.cells #[.int .i64 el, .int .i64 eh] 40)) X) => HVR.out X (g4.of_below ((growK _ _).of_below h)))
      have HC := hidden (HC4.out.of_below (growK w4 (.cells #[.int .i64 el, .int .i64 eh] 40)))
      clear g4 s0 s1 s2 s3 s4 s5 s6 p0 p1 p2 p3 p4 s0a s1a s2a s3a s4a s5a s6a p0a p1a p2a p3a p4a
      obtain ⟨s0, s1, s2, s3, s4, s5, s6, p0, p1, p2, p3, p4⟩ := HX4.out _ (Below.refl _ _)
      go_wp2_with fail
      obtain ⟨W5, hW5⟩ : ∃ W, W = w4.alloc (.cells #[.int .i64 el, .int .i64 eh] 40) := ⟨_, rfl⟩
      rw [← hW5] at HX4 HV4 HC
      rw [← hW5]
      clear hW5 s0 s1 s2 s3 s4 s5 s6 p0 p1 p2 p3 p4
      refine wp_region_loose_tail 7 (tabRs [(2, ConstV (.int .i64 mnf)), (5, ConstV (.int .i64 mxf)), (6, ConstV (.agg #[.int .i64 mnf, .int .i64 mxf]))]) (by kernel_rfl) (by kernel_rfl) (tabRs_cons ConstV.lasts (tabRs_cons ConstV.lasts (tabRs_cons ConstV.lasts tabRs_nil))) ?_
      simp only [List.take_succ_cons, List.take_zero, List.drop_succ_cons, List.drop_zero]
      iterate 2 ((with_reducible refine loose_one (v := ?_) (a' := ?_) ?_ ?_ (fun w' hC' hG' => ?_) ?_ ?_); rotate_left 2; (focus rfl); (focus rfl); (focus (obtain ⟨s0, s1, s2, s3, s4, s5, s6, p0, p1, p2, p3, p4⟩ := HX4.out w' hC'; have v0 := (HV4.out w' hC').cell 0; have v1 := (HV4.out w' hC').cell 1; have v2 := (HV4.out w' hC').cell 2; simp only [List.getElem?_cons_succ, List.getElem?_cons_zero] at v0 v1 v2; clear hC' hG'; go_simp; rfl)); (focus (go_simp; rfl)))
      refine loose_call (R := ConstV (.int .i64 mnf)) (f := 58) (args := #[.agg #[.int .i64 s.rows, .int .i64 s.nulls, .slice A1 L1 c1, .bool s.ok, .slice A2 L2 c2, .slice A3 M c3, .slice A4 RL c4], .agg #[.int .i64 x.k, .int .i64 x.n, .string x.t], .bool false]) (by rfl) (by rfl) (fun _ => by go_simp) (fun w' hC' hG' => HMNF.out w' (HG0.out.of_below (HC.out.of_below hC'))) ?_
      rintro _ ⟨_, _, rfl⟩
      refine ⟨?_, ?_, ?_⟩
      rotate_left
      · go_simp
        rfl
      iterate 2 ((with_reducible refine loose_one (v := ?_) (a' := ?_) ?_ ?_ (fun w' hC' hG' => ?_) ?_ ?_); rotate_left 2; (focus rfl); (focus rfl); (focus (obtain ⟨s0, s1, s2, s3, s4, s5, s6, p0, p1, p2, p3, p4⟩ := HX4.out w' hC'; have v0 := (HV4.out w' hC').cell 0; have v1 := (HV4.out w' hC').cell 1; have v2 := (HV4.out w' hC').cell 2; simp only [List.getElem?_cons_succ, List.getElem?_cons_zero] at v0 v1 v2; clear hC' hG'; go_simp; rfl)); (focus (go_simp; rfl)))
      refine loose_call (R := ConstV (.int .i64 mxf)) (f := 57) (args := #[.agg #[.int .i64 s.rows, .int .i64 s.nulls, .slice A1 L1 c1, .bool s.ok, .slice A2 L2 c2, .slice A3 M c3, .slice A4 RL c4], .agg #[.int .i64 x.k, .int .i64 x.n, .string x.t], .bool false]) (by rfl) (by rfl) (fun _ => by go_simp) (fun w' hC' hG' => HMXF.out w' (HG0.out.of_below (HC.out.of_below hC'))) ?_
      rintro _ ⟨_, _, rfl⟩
      refine ⟨?_, ?_, ?_⟩
      rotate_left
      · go_simp
        rfl
      refine loose_call (R := ConstV (.agg #[.int .i64 mnf, .int .i64 mxf])) (f := 80) (args := #[.int .i64 mnf, .int .i64 mxf]) (by rfl) (by rfl) (fun _ => by go_simp) (fun w' hC' hG' => HSQ.out mnf mxf w') ?_
      rintro _ ⟨_, _, rfl⟩
      refine ⟨?_, ?_, ?_⟩
      rotate_left
      · go_simp
        rfl
      refine loose_done (fun w9 hC' hG' => ?_)
      have HC := hidden (HC.out.of_below hC')
      clear hC' hG'
      refine wpList_store_bd rfl _ _ rfl w9 rfl (w.heap.size + 1 + 1) rfl mnf mxf rfl _ _ (HB0.out.grow HC.out) ?_
      intro W hr hg
      have HRR := hidden hr
      have HGG := hidden (hg w (HG0.out.of_below HC.out) (by omega))
      clear hr hg
      go_wp2_with fail
      refine bodyPost_ret (results_bd rfl _ _ _ _ _ rfl HRR.out) rfl ⟨?_, HGG.out⟩
      rw [HO.out]
    by_cases h4 : op = 4
    · subst h4
      clear d20 d21 h20 h21
      have HO := hidden (show out = (mnt, mxt) from HCP.out)
      obtain ⟨W0, hW0⟩ : ∃ W, W = (((w.alloc (.cells #[.int .i64 s.rows, .int .i64 s.nulls, .slice A1 L1 c1, .bool s.ok, .slice A2 L2 c2, .slice A3 M c3, .slice A4 RL c4] 29)).alloc (.cells #[.int .i64 col, .int .i64 4, .int .i64 x.k, .int .i64 x.n, .string x.t] 37)).alloc (.cells #[.int .i64 0, .int .i64 0] 40)) := ⟨_, rfl⟩
      have HG0 := hidden (show Grows w W0 by rw [hW0]; exact ((growK _ _).of_below (growK _ _)).of_below (growK _ _))
      have HS0 := hidden (show Row W0 w.heap.size 29 [.int .i64 s.rows, .int .i64 s.nulls, .slice A1 L1 c1, .bool s.ok, .slice A2 L2 c2, .slice A3 M c3, .slice A4 RL c4] by rw [hW0]; exact (skp_rows _ _ _ _ _ _ _ _ _ _ _ _ _ _).1)
      have HP0 := hidden (show Row W0 (w.heap.size + 1) 37 [.int .i64 col, .int .i64 4, .int .i64 x.k, .int .i64 x.n, .string x.t] by rw [hW0]; exact (skp_rows _ _ _ _ _ _ _ _ _ _ _ _ _ _).2)
      have HB0 := hidden (show Row W0 (w.heap.size + 1 + 1) 40 [.int .i64 0, .int .i64 0] by rw [hW0]; exact bdrow_at2 _ _ _ _ _)
      have HX : Hid (∀ X, Grows W0 X → X.cell? ⟨w.heap.size, 0, none⟩ = some (.int .i64 s.rows) ∧ X.cell? ⟨w.heap.size, 1, none⟩ = some (.int .i64 s.nulls) ∧ X.cell? ⟨w.heap.size, 2, none⟩ = some (.slice A1 L1 c1) ∧ X.cell? ⟨w.heap.size, 3, none⟩ = some (.bool s.ok) ∧ X.cell? ⟨w.heap.size, 4, none⟩ = some (.slice A2 L2 c2) ∧ X.cell? ⟨w.heap.size, 5, none⟩ = some (.slice A3 M c3) ∧ X.cell? ⟨w.heap.size, 6, none⟩ = some (.slice A4 RL c4) ∧ X.cell? ⟨w.heap.size + 1, 0, none⟩ = some (.int .i64 col) ∧ X.cell? ⟨w.heap.size + 1, 1, none⟩ = some (.int .i64 4) ∧ X.cell? ⟨w.heap.size + 1, 2, none⟩ = some (.int .i64 x.k) ∧ X.cell? ⟨w.heap.size + 1, 3, none⟩ = some (.int .i64 x.n) ∧ X.cell? ⟨w.heap.size + 1, 4, none⟩ = some (.string x.t)) := hidden fun X h => ⟨(HS0.out.grow h).cell 0, (HS0.out.grow h).cell 1, (HS0.out.grow h).cell 2, (HS0.out.grow h).cell 3, (HS0.out.grow h).cell 4, (HS0.out.grow h).cell 5, (HS0.out.grow h).cell 6, (HP0.out.grow h).cell 0, (HP0.out.grow h).cell 1, (HP0.out.grow h).cell 2, (HP0.out.grow h).cell 3, (HP0.out.grow h).cell 4⟩
      go_enter Tryz.func26, Tryz.ntmps26
      go_wp2_with fail
      rw [← hW0]
      clear hW0
      refine (HV.out _).mono ?_
      rintro e w1 ⟨rfl, g1⟩
      have HC := hidden g1
      obtain ⟨s0, s1, s2, s3, s4, s5, s6, p0, p1, p2, p3, p4⟩ := HX.out w1 g1
      clear g1
      go_wp2_with (go_at_call 78; refine (HFO.out w1 (HG0.out.of_below HC.out)).mono ?_; rintro e w3 ⟨rfl, g1⟩; have HC := hidden (HC.out.of_below g1); obtain ⟨s0, s1, s2, s3, s4, s5, s6, p0, p1, p2, p3, p4⟩ := HX.out w3 HC.out; clear g1; obtain ⟨s0a, s1a, s2a, s3a, s4a, s5a, s6a, p0a, p1a, p2a, p3a, p4a⟩ := HX.out (w3.alloc (.cells #[.int .i64 x.k, .int .i64 x.n, .string x.t] 35)) (HC.out.of_below (growK _ _)))
      have HX2 := hidden (fun X (h : Grows (w3.alloc (.cells #[.int .i64 x.k, .int .i64 x.n, .string x.t] 35)) X) => HX.out X (HC.out.of_below ((growK _ _).of_below h)))
      have HVR := hidden (fun X (h : Grows (w3.alloc (.cells #[.int .i64 x.k, .int .i64 x.n, .string x.t] 35)) X) => (Row.new w3 35 #[.int .i64 x.k, .int .i64 x.n, .string x.t] [.int .i64 x.k, .int .i64 x.n, .string x.t] rfl).grow h)
      have HA := hidden (HC.out.of_below (growK w3 (.cells #[.int .i64 x.k, .int .i64 x.n, .string x.t] 35)))
      refine (HCQ.out _ (HG0.out.of_below HA.out)).mono ?_
      rintro e w4 ⟨rfl, g4⟩
      have HC4 := hidden (HA.out.of_below g4)
      have HX4 := hidden (fun X (h : Grows (w4.alloc (.cells #[.int .i64 el, .int .i64 eh] 40)) X) => HX2.out X (g4.of_below ((growK _ _).of_below h)))
      have HV4 := hidden (fun X (h : Grows (w4.alloc (.cells #[.int .i64 el, .int .i64 eh] 40)) X) => HVR.out X (g4.of_below ((growK _ _).of_below h)))
      have HC := hidden (HC4.out.of_below (growK w4 (.cells #[.int .i64 el, .int .i64 eh] 40)))
      clear g4 s0 s1 s2 s3 s4 s5 s6 p0 p1 p2 p3 p4 s0a s1a s2a s3a s4a s5a s6a p0a p1a p2a p3a p4a
      obtain ⟨s0, s1, s2, s3, s4, s5, s6, p0, p1, p2, p3, p4⟩ := HX4.out _ (Below.refl _ _)
      go_wp2_with fail
      obtain ⟨W5, hW5⟩ : ∃ W, W = w4.alloc (.cells #[.int .i64 el, .int .i64 eh] 40) := ⟨_, rfl⟩
      rw [← hW5] at HX4 HV4 HC
      rw [← hW5]
      clear hW5 s0 s1 s2 s3 s4 s5 s6 p0 p1 p2 p3 p4
      refine wp_region_loose_tail 7 (tabRs [(2, ConstV (.int .i64 mnt)), (5, ConstV (.int .i64 mxt)), (6, ConstV (.agg #[.int .i64 mnt, .int .i64 mxt]))]) (by kernel_rfl) (by kernel_rfl) (tabRs_cons ConstV.lasts (tabRs_cons ConstV.lasts (tabRs_cons ConstV.lasts tabRs_nil))) ?_
      simp only [List.take_succ_cons, List.take_zero, List.drop_succ_cons, List.drop_zero]
      iterate 2 ((with_reducible refine loose_one (v := ?_) (a' := ?_) ?_ ?_ (fun w' hC' hG' => ?_) ?_ ?_); rotate_left 2; (focus rfl); (focus rfl); (focus (obtain ⟨s0, s1, s2, s3, s4, s5, s6, p0, p1, p2, p3, p4⟩ := HX4.out w' hC'; have v0 := (HV4.out w' hC').cell 0; have v1 := (HV4.out w' hC').cell 1; have v2 := (HV4.out w' hC').cell 2; simp only [List.getElem?_cons_succ, List.getElem?_cons_zero] at v0 v1 v2; clear hC' hG'; go_simp; rfl)); (focus (go_simp; rfl)))
      refine loose_call (R := ConstV (.int .i64 mnt)) (f := 58) (args := #[.agg #[.int .i64 s.rows, .int .i64 s.nulls, .slice A1 L1 c1, .bool s.ok, .slice A2 L2 c2, .slice A3 M c3, .slice A4 RL c4], .agg #[.int .i64 x.k, .int .i64 x.n, .string x.t], .bool true]) (by rfl) (by rfl) (fun _ => by go_simp) (fun w' hC' hG' => HMNT.out w' (HG0.out.of_below (HC.out.of_below hC'))) ?_
      rintro _ ⟨_, _, rfl⟩
      refine ⟨?_, ?_, ?_⟩
      rotate_left
      · go_simp
        rfl
      iterate 2 ((with_reducible refine loose_one (v := ?_) (a' := ?_) ?_ ?_ (fun w' hC' hG' => ?_) ?_ ?_); rotate_left 2; (focus rfl); (focus rfl); (focus (obtain ⟨s0, s1, s2, s3, s4, s5, s6, p0, p1, p2, p3, p4⟩ := HX4.out w' hC'; have v0 := (HV4.out w' hC').cell 0; have v1 := (HV4.out w' hC').cell 1; have v2 := (HV4.out w' hC').cell 2; simp only [List.getElem?_cons_succ, List.getElem?_cons_zero] at v0 v1 v2; clear hC' hG'; go_simp; rfl)); (focus (go_simp; rfl)))
      refine loose_call (R := ConstV (.int .i64 mxt)) (f := 57) (args := #[.agg #[.int .i64 s.rows, .int .i64 s.nulls, .slice A1 L1 c1, .bool s.ok, .slice A2 L2 c2, .slice A3 M c3, .slice A4 RL c4], .agg #[.int .i64 x.k, .int .i64 x.n, .string x.t], .bool true]) (by rfl) (by rfl) (fun _ => by go_simp) (fun w' hC' hG' => HMXT.out w' (HG0.out.of_below (HC.out.of_below hC'))) ?_
      rintro _ ⟨_, _, rfl⟩
      refine ⟨?_, ?_, ?_⟩
      rotate_left
      · go_simp
        rfl
      refine loose_call (R := ConstV (.agg #[.int .i64 mnt, .int .i64 mxt])) (f := 80) (args := #[.int .i64 mnt, .int .i64 mxt]) (by rfl) (by rfl) (fun _ => by go_simp) (fun w' hC' hG' => HSQ.out mnt mxt w') ?_
      rintro _ ⟨_, _, rfl⟩
      refine ⟨?_, ?_, ?_⟩
      rotate_left
      · go_simp
        rfl
      refine loose_done (fun w9 hC' hG' => ?_)
      have HC := hidden (HC.out.of_below hC')
      clear hC' hG'
      refine wpList_store_bd rfl _ _ rfl w9 rfl (w.heap.size + 1 + 1) rfl mnt mxt rfl _ _ (HB0.out.grow HC.out) ?_
      intro W hr hg
      have HRR := hidden hr
      have HGG := hidden (hg w (HG0.out.of_below HC.out) (by omega))
      clear hr hg
      go_wp2_with fail
      refine bodyPost_ret (results_bd rfl _ _ _ _ _ rfl HRR.out) rfl ⟨?_, HGG.out⟩
      rw [HO.out]
    by_cases h5 : op = 5
    · subst h5
      clear d20 d21 h20 h21
      have HO := hidden (show out = (n - mxt, n - mnt) from HCP.out)
      have hwa : IntKind.i64.wrap (n - mxt) = n - mxt := by have := HN0.out; have := HB2.out; rw [IntKind.wrap_i64]; omega
      have hwb : IntKind.i64.wrap (n - mnt) = n - mnt := by have := HN0.out; have := HB4.out; rw [IntKind.wrap_i64]; omega
      obtain ⟨W0, hW0⟩ : ∃ W, W = (((w.alloc (.cells #[.int .i64 s.rows, .int .i64 s.nulls, .slice A1 L1 c1, .bool s.ok, .slice A2 L2 c2, .slice A3 M c3, .slice A4 RL c4] 29)).alloc (.cells #[.int .i64 col, .int .i64 5, .int .i64 x.k, .int .i64 x.n, .string x.t] 37)).alloc (.cells #[.int .i64 0, .int .i64 0] 40)) := ⟨_, rfl⟩
      have HG0 := hidden (show Grows w W0 by rw [hW0]; exact ((growK _ _).of_below (growK _ _)).of_below (growK _ _))
      have HS0 := hidden (show Row W0 w.heap.size 29 [.int .i64 s.rows, .int .i64 s.nulls, .slice A1 L1 c1, .bool s.ok, .slice A2 L2 c2, .slice A3 M c3, .slice A4 RL c4] by rw [hW0]; exact (skp_rows _ _ _ _ _ _ _ _ _ _ _ _ _ _).1)
      have HP0 := hidden (show Row W0 (w.heap.size + 1) 37 [.int .i64 col, .int .i64 5, .int .i64 x.k, .int .i64 x.n, .string x.t] by rw [hW0]; exact (skp_rows _ _ _ _ _ _ _ _ _ _ _ _ _ _).2)
      have HB0 := hidden (show Row W0 (w.heap.size + 1 + 1) 40 [.int .i64 0, .int .i64 0] by rw [hW0]; exact bdrow_at2 _ _ _ _ _)
      have HX : Hid (∀ X, Grows W0 X → X.cell? ⟨w.heap.size, 0, none⟩ = some (.int .i64 s.rows) ∧ X.cell? ⟨w.heap.size, 1, none⟩ = some (.int .i64 s.nulls) ∧ X.cell? ⟨w.heap.size, 2, none⟩ = some (.slice A1 L1 c1) ∧ X.cell? ⟨w.heap.size, 3, none⟩ = some (.bool s.ok) ∧ X.cell? ⟨w.heap.size, 4, none⟩ = some (.slice A2 L2 c2) ∧ X.cell? ⟨w.heap.size, 5, none⟩ = some (.slice A3 M c3) ∧ X.cell? ⟨w.heap.size, 6, none⟩ = some (.slice A4 RL c4) ∧ X.cell? ⟨w.heap.size + 1, 0, none⟩ = some (.int .i64 col) ∧ X.cell? ⟨w.heap.size + 1, 1, none⟩ = some (.int .i64 5) ∧ X.cell? ⟨w.heap.size + 1, 2, none⟩ = some (.int .i64 x.k) ∧ X.cell? ⟨w.heap.size + 1, 3, none⟩ = some (.int .i64 x.n) ∧ X.cell? ⟨w.heap.size + 1, 4, none⟩ = some (.string x.t)) := hidden fun X h => ⟨(HS0.out.grow h).cell 0, (HS0.out.grow h).cell 1, (HS0.out.grow h).cell 2, (HS0.out.grow h).cell 3, (HS0.out.grow h).cell 4, (HS0.out.grow h).cell 5, (HS0.out.grow h).cell 6, (HP0.out.grow h).cell 0, (HP0.out.grow h).cell 1, (HP0.out.grow h).cell 2, (HP0.out.grow h).cell 3, (HP0.out.grow h).cell 4⟩
      go_enter Tryz.func26, Tryz.ntmps26
      go_wp2_with fail
      rw [← hW0]
      clear hW0
      refine (HV.out _).mono ?_
      rintro e w1 ⟨rfl, g1⟩
      have HC := hidden g1
      obtain ⟨s0, s1, s2, s3, s4, s5, s6, p0, p1, p2, p3, p4⟩ := HX.out w1 g1
      clear g1
      go_wp2_with (go_at_call 78; refine (HFO.out w1 (HG0.out.of_below HC.out)).mono ?_; rintro e w3 ⟨rfl, g1⟩; have HC := hidden (HC.out.of_below g1); obtain ⟨s0, s1, s2, s3, s4, s5, s6, p0, p1, p2, p3, p4⟩ := HX.out w3 HC.out; clear g1; obtain ⟨s0a, s1a, s2a, s3a, s4a, s5a, s6a, p0a, p1a, p2a, p3a, p4a⟩ := HX.out (w3.alloc (.cells #[.int .i64 x.k, .int .i64 x.n, .string x.t] 35)) (HC.out.of_below (growK _ _)))
      have HX2 := hidden (fun X (h : Grows (w3.alloc (.cells #[.int .i64 x.k, .int .i64 x.n, .string x.t] 35)) X) => HX.out X (HC.out.of_below ((growK _ _).of_below h)))
      have HVR := hidden (fun X (h : Grows (w3.alloc (.cells #[.int .i64 x.k, .int .i64 x.n, .string x.t] 35)) X) => (Row.new w3 35 #[.int .i64 x.k, .int .i64 x.n, .string x.t] [.int .i64 x.k, .int .i64 x.n, .string x.t] rfl).grow h)
      have HA := hidden (HC.out.of_below (growK w3 (.cells #[.int .i64 x.k, .int .i64 x.n, .string x.t] 35)))
      refine (HCQ.out _ (HG0.out.of_below HA.out)).mono ?_
      rintro e w4 ⟨rfl, g4⟩
      have HC4 := hidden (HA.out.of_below g4)
      have HX4 := hidden (fun X (h : Grows (w4.alloc (.cells #[.int .i64 el, .int .i64 eh] 40)) X) => HX2.out X (g4.of_below ((growK _ _).of_below h)))
      have HV4 := hidden (fun X (h : Grows (w4.alloc (.cells #[.int .i64 el, .int .i64 eh] 40)) X) => HVR.out X (g4.of_below ((growK _ _).of_below h)))
      have HC := hidden (HC4.out.of_below (growK w4 (.cells #[.int .i64 el, .int .i64 eh] 40)))
      clear g4 s0 s1 s2 s3 s4 s5 s6 p0 p1 p2 p3 p4 s0a s1a s2a s3a s4a s5a s6a p0a p1a p2a p3a p4a
      obtain ⟨s0, s1, s2, s3, s4, s5, s6, p0, p1, p2, p3, p4⟩ := HX4.out _ (Below.refl _ _)
      go_wp2_with fail
      obtain ⟨W5, hW5⟩ : ∃ W, W = w4.alloc (.cells #[.int .i64 el, .int .i64 eh] 40) := ⟨_, rfl⟩
      rw [← hW5] at HX4 HV4 HC
      rw [← hW5]
      clear hW5 s0 s1 s2 s3 s4 s5 s6 p0 p1 p2 p3 p4
      refine wp_region_loose_tail 11 (tabRs [(3, ConstV (.int .i64 mxt)), (8, ConstV (.int .i64 mnt)), (10, ConstV (.agg #[.int .i64 (n - mxt), .int .i64 (n - mnt)]))]) (by kernel_rfl) (by kernel_rfl) (tabRs_cons ConstV.lasts (tabRs_cons ConstV.lasts (tabRs_cons ConstV.lasts tabRs_nil))) ?_
      simp only [List.take_succ_cons, List.take_zero, List.drop_succ_cons, List.drop_zero]
      iterate 3 ((with_reducible refine loose_one (v := ?_) (a' := ?_) ?_ ?_ (fun w' hC' hG' => ?_) ?_ ?_); rotate_left 2; (focus rfl); (focus rfl); (focus (obtain ⟨s0, s1, s2, s3, s4, s5, s6, p0, p1, p2, p3, p4⟩ := HX4.out w' hC'; have v0 := (HV4.out w' hC').cell 0; have v1 := (HV4.out w' hC').cell 1; have v2 := (HV4.out w' hC').cell 2; simp only [List.getElem?_cons_succ, List.getElem?_cons_zero] at v0 v1 v2; clear hC' hG'; go_simp; rfl)); (focus (go_simp; rfl)))
      refine loose_call (R := ConstV (.int .i64 mxt)) (f := 57) (args := #[.agg #[.int .i64 s.rows, .int .i64 s.nulls, .slice A1 L1 c1, .bool s.ok, .slice A2 L2 c2, .slice A3 M c3, .slice A4 RL c4], .agg #[.int .i64 x.k, .int .i64 x.n, .string x.t], .bool true]) (by rfl) (by rfl) (fun _ => by go_simp) (fun w' hC' hG' => HMXT.out w' (HG0.out.of_below (HC.out.of_below hC'))) ?_
      rintro _ ⟨_, _, rfl⟩
      refine ⟨?_, ?_, ?_⟩
      rotate_left
      · go_simp
        rfl
      iterate 4 ((with_reducible refine loose_one (v := ?_) (a' := ?_) ?_ ?_ (fun w' hC' hG' => ?_) ?_ ?_); rotate_left 2; (focus rfl); (focus rfl); (focus (obtain ⟨s0, s1, s2, s3, s4, s5, s6, p0, p1, p2, p3, p4⟩ := HX4.out w' hC'; have v0 := (HV4.out w' hC').cell 0; have v1 := (HV4.out w' hC').cell 1; have v2 := (HV4.out w' hC').cell 2; simp only [List.getElem?_cons_succ, List.getElem?_cons_zero] at v0 v1 v2; clear hC' hG'; go_simp; rfl)); (focus (go_simp; rfl)))
      refine loose_call (R := ConstV (.int .i64 mnt)) (f := 58) (args := #[.agg #[.int .i64 s.rows, .int .i64 s.nulls, .slice A1 L1 c1, .bool s.ok, .slice A2 L2 c2, .slice A3 M c3, .slice A4 RL c4], .agg #[.int .i64 x.k, .int .i64 x.n, .string x.t], .bool true]) (by rfl) (by rfl) (fun _ => by go_simp) (fun w' hC' hG' => HMNT.out w' (HG0.out.of_below (HC.out.of_below hC'))) ?_
      rintro _ ⟨_, _, rfl⟩
      refine ⟨?_, ?_, ?_⟩
      rotate_left
      · go_simp
        rfl
      iterate 1 ((with_reducible refine loose_one (v := ?_) (a' := ?_) ?_ ?_ (fun w' hC' hG' => ?_) ?_ ?_); rotate_left 2; (focus rfl); (focus rfl); (focus (obtain ⟨s0, s1, s2, s3, s4, s5, s6, p0, p1, p2, p3, p4⟩ := HX4.out w' hC'; have v0 := (HV4.out w' hC').cell 0; have v1 := (HV4.out w' hC').cell 1; have v2 := (HV4.out w' hC').cell 2; simp only [List.getElem?_cons_succ, List.getElem?_cons_zero] at v0 v1 v2; clear hC' hG'; go_simp; rfl)); (focus (go_simp; rfl)))
      refine loose_call (R := ConstV (.agg #[.int .i64 (n - mxt), .int .i64 (n - mnt)])) (f := 80) (args := #[.int .i64 (n - mxt), .int .i64 (n - mnt)]) (by rfl) (by rfl) (fun _ => by go_simp) (fun w' hC' hG' => HSQ.out (n - mxt) (n - mnt) w') ?_
      rintro _ ⟨_, _, rfl⟩
      refine ⟨?_, ?_, ?_⟩
      rotate_left
      · go_simp
        rfl
      refine loose_done (fun w9 hC' hG' => ?_)
      have HC := hidden (HC.out.of_below hC')
      clear hC' hG'
      refine wpList_store_bd rfl _ _ rfl w9 rfl (w.heap.size + 1 + 1) rfl (n - mxt) (n - mnt) rfl _ _ (HB0.out.grow HC.out) ?_
      intro W hr hg
      have HRR := hidden hr
      have HGG := hidden (hg w (HG0.out.of_below HC.out) (by omega))
      clear hr hg
      go_wp2_with fail
      refine bodyPost_ret (results_bd rfl _ _ _ _ _ rfl HRR.out) rfl ⟨?_, HGG.out⟩
      rw [HO.out]
    by_cases h6 : op = 6
    · subst h6
      clear d20 d21 h20 h21
      have HO := hidden (show out = (n - mxf, n - mnf) from HCP.out)
      have hwa : IntKind.i64.wrap (n - mxf) = n - mxf := by have := HN0.out; have := HB1.out; rw [IntKind.wrap_i64]; omega
      have hwb : IntKind.i64.wrap (n - mnf) = n - mnf := by have := HN0.out; have := HB3.out; rw [IntKind.wrap_i64]; omega
      obtain ⟨W0, hW0⟩ : ∃ W, W = (((w.alloc (.cells #[.int .i64 s.rows, .int .i64 s.nulls, .slice A1 L1 c1, .bool s.ok, .slice A2 L2 c2, .slice A3 M c3, .slice A4 RL c4] 29)).alloc (.cells #[.int .i64 col, .int .i64 6, .int .i64 x.k, .int .i64 x.n, .string x.t] 37)).alloc (.cells #[.int .i64 0, .int .i64 0] 40)) := ⟨_, rfl⟩
      have HG0 := hidden (show Grows w W0 by rw [hW0]; exact ((growK _ _).of_below (growK _ _)).of_below (growK _ _))
      have HS0 := hidden (show Row W0 w.heap.size 29 [.int .i64 s.rows, .int .i64 s.nulls, .slice A1 L1 c1, .bool s.ok, .slice A2 L2 c2, .slice A3 M c3, .slice A4 RL c4] by rw [hW0]; exact (skp_rows _ _ _ _ _ _ _ _ _ _ _ _ _ _).1)
      have HP0 := hidden (show Row W0 (w.heap.size + 1) 37 [.int .i64 col, .int .i64 6, .int .i64 x.k, .int .i64 x.n, .string x.t] by rw [hW0]; exact (skp_rows _ _ _ _ _ _ _ _ _ _ _ _ _ _).2)
      have HB0 := hidden (show Row W0 (w.heap.size + 1 + 1) 40 [.int .i64 0, .int .i64 0] by rw [hW0]; exact bdrow_at2 _ _ _ _ _)
      have HX : Hid (∀ X, Grows W0 X → X.cell? ⟨w.heap.size, 0, none⟩ = some (.int .i64 s.rows) ∧ X.cell? ⟨w.heap.size, 1, none⟩ = some (.int .i64 s.nulls) ∧ X.cell? ⟨w.heap.size, 2, none⟩ = some (.slice A1 L1 c1) ∧ X.cell? ⟨w.heap.size, 3, none⟩ = some (.bool s.ok) ∧ X.cell? ⟨w.heap.size, 4, none⟩ = some (.slice A2 L2 c2) ∧ X.cell? ⟨w.heap.size, 5, none⟩ = some (.slice A3 M c3) ∧ X.cell? ⟨w.heap.size, 6, none⟩ = some (.slice A4 RL c4) ∧ X.cell? ⟨w.heap.size + 1, 0, none⟩ = some (.int .i64 col) ∧ X.cell? ⟨w.heap.size + 1, 1, none⟩ = some (.int .i64 6) ∧ X.cell? ⟨w.heap.size + 1, 2, none⟩ = some (.int .i64 x.k) ∧ X.cell? ⟨w.heap.size + 1, 3, none⟩ = some (.int .i64 x.n) ∧ X.cell? ⟨w.heap.size + 1, 4, none⟩ = some (.string x.t)) := hidden fun X h => ⟨(HS0.out.grow h).cell 0, (HS0.out.grow h).cell 1, (HS0.out.grow h).cell 2, (HS0.out.grow h).cell 3, (HS0.out.grow h).cell 4, (HS0.out.grow h).cell 5, (HS0.out.grow h).cell 6, (HP0.out.grow h).cell 0, (HP0.out.grow h).cell 1, (HP0.out.grow h).cell 2, (HP0.out.grow h).cell 3, (HP0.out.grow h).cell 4⟩
      go_enter Tryz.func26, Tryz.ntmps26
      go_wp2_with fail
      rw [← hW0]
      clear hW0
      refine (HV.out _).mono ?_
      rintro e w1 ⟨rfl, g1⟩
      have HC := hidden g1
      obtain ⟨s0, s1, s2, s3, s4, s5, s6, p0, p1, p2, p3, p4⟩ := HX.out w1 g1
      clear g1
      go_wp2_with (go_at_call 78; refine (HFO.out w1 (HG0.out.of_below HC.out)).mono ?_; rintro e w3 ⟨rfl, g1⟩; have HC := hidden (HC.out.of_below g1); obtain ⟨s0, s1, s2, s3, s4, s5, s6, p0, p1, p2, p3, p4⟩ := HX.out w3 HC.out; clear g1; obtain ⟨s0a, s1a, s2a, s3a, s4a, s5a, s6a, p0a, p1a, p2a, p3a, p4a⟩ := HX.out (w3.alloc (.cells #[.int .i64 x.k, .int .i64 x.n, .string x.t] 35)) (HC.out.of_below (growK _ _)))
      have HX2 := hidden (fun X (h : Grows (w3.alloc (.cells #[.int .i64 x.k, .int .i64 x.n, .string x.t] 35)) X) => HX.out X (HC.out.of_below ((growK _ _).of_below h)))
      have HVR := hidden (fun X (h : Grows (w3.alloc (.cells #[.int .i64 x.k, .int .i64 x.n, .string x.t] 35)) X) => (Row.new w3 35 #[.int .i64 x.k, .int .i64 x.n, .string x.t] [.int .i64 x.k, .int .i64 x.n, .string x.t] rfl).grow h)
      have HA := hidden (HC.out.of_below (growK w3 (.cells #[.int .i64 x.k, .int .i64 x.n, .string x.t] 35)))
      refine (HCQ.out _ (HG0.out.of_below HA.out)).mono ?_
      rintro e w4 ⟨rfl, g4⟩
      have HC4 := hidden (HA.out.of_below g4)
      have HX4 := hidden (fun X (h : Grows (w4.alloc (.cells #[.int .i64 el, .int .i64 eh] 40)) X) => HX2.out X (g4.of_below ((growK _ _).of_below h)))
      have HV4 := hidden (fun X (h : Grows (w4.alloc (.cells #[.int .i64 el, .int .i64 eh] 40)) X) => HVR.out X (g4.of_below ((growK _ _).of_below h)))
      have HC := hidden (HC4.out.of_below (growK w4 (.cells #[.int .i64 el, .int .i64 eh] 40)))
      clear g4 s0 s1 s2 s3 s4 s5 s6 p0 p1 p2 p3 p4 s0a s1a s2a s3a s4a s5a s6a p0a p1a p2a p3a p4a
      obtain ⟨s0, s1, s2, s3, s4, s5, s6, p0, p1, p2, p3, p4⟩ := HX4.out _ (Below.refl _ _)
      go_wp2_with fail
      obtain ⟨W5, hW5⟩ : ∃ W, W = w4.alloc (.cells #[.int .i64 el, .int .i64 eh] 40) := ⟨_, rfl⟩
      rw [← hW5] at HX4 HV4 HC
      rw [← hW5]
      clear hW5 s0 s1 s2 s3 s4 s5 s6 p0 p1 p2 p3 p4
      refine wp_region_loose_tail 11 (tabRs [(3, ConstV (.int .i64 mxf)), (8, ConstV (.int .i64 mnf)), (10, ConstV (.agg #[.int .i64 (n - mxf), .int .i64 (n - mnf)]))]) (by kernel_rfl) (by kernel_rfl) (tabRs_cons ConstV.lasts (tabRs_cons ConstV.lasts (tabRs_cons ConstV.lasts tabRs_nil))) ?_
      simp only [List.take_succ_cons, List.take_zero, List.drop_succ_cons, List.drop_zero]
      iterate 3 ((with_reducible refine loose_one (v := ?_) (a' := ?_) ?_ ?_ (fun w' hC' hG' => ?_) ?_ ?_); rotate_left 2; (focus rfl); (focus rfl); (focus (obtain ⟨s0, s1, s2, s3, s4, s5, s6, p0, p1, p2, p3, p4⟩ := HX4.out w' hC'; have v0 := (HV4.out w' hC').cell 0; have v1 := (HV4.out w' hC').cell 1; have v2 := (HV4.out w' hC').cell 2; simp only [List.getElem?_cons_succ, List.getElem?_cons_zero] at v0 v1 v2; clear hC' hG'; go_simp; rfl)); (focus (go_simp; rfl)))
      refine loose_call (R := ConstV (.int .i64 mxf)) (f := 57) (args := #[.agg #[.int .i64 s.rows, .int .i64 s.nulls, .slice A1 L1 c1, .bool s.ok, .slice A2 L2 c2, .slice A3 M c3, .slice A4 RL c4], .agg #[.int .i64 x.k, .int .i64 x.n, .string x.t], .bool false]) (by rfl) (by rfl) (fun _ => by go_simp) (fun w' hC' hG' => HMXF.out w' (HG0.out.of_below (HC.out.of_below hC'))) ?_
      rintro _ ⟨_, _, rfl⟩
      refine ⟨?_, ?_, ?_⟩
      rotate_left
      · go_simp
        rfl
      iterate 4 ((with_reducible refine loose_one (v := ?_) (a' := ?_) ?_ ?_ (fun w' hC' hG' => ?_) ?_ ?_); rotate_left 2; (focus rfl); (focus rfl); (focus (obtain ⟨s0, s1, s2, s3, s4, s5, s6, p0, p1, p2, p3, p4⟩ := HX4.out w' hC'; have v0 := (HV4.out w' hC').cell 0; have v1 := (HV4.out w' hC').cell 1; have v2 := (HV4.out w' hC').cell 2; simp only [List.getElem?_cons_succ, List.getElem?_cons_zero] at v0 v1 v2; clear hC' hG'; go_simp; rfl)); (focus (go_simp; rfl)))
      refine loose_call (R := ConstV (.int .i64 mnf)) (f := 58) (args := #[.agg #[.int .i64 s.rows, .int .i64 s.nulls, .slice A1 L1 c1, .bool s.ok, .slice A2 L2 c2, .slice A3 M c3, .slice A4 RL c4], .agg #[.int .i64 x.k, .int .i64 x.n, .string x.t], .bool false]) (by rfl) (by rfl) (fun _ => by go_simp) (fun w' hC' hG' => HMNF.out w' (HG0.out.of_below (HC.out.of_below hC'))) ?_
      rintro _ ⟨_, _, rfl⟩
      refine ⟨?_, ?_, ?_⟩
      rotate_left
      · go_simp
        rfl
      iterate 1 ((with_reducible refine loose_one (v := ?_) (a' := ?_) ?_ ?_ (fun w' hC' hG' => ?_) ?_ ?_); rotate_left 2; (focus rfl); (focus rfl); (focus (obtain ⟨s0, s1, s2, s3, s4, s5, s6, p0, p1, p2, p3, p4⟩ := HX4.out w' hC'; have v0 := (HV4.out w' hC').cell 0; have v1 := (HV4.out w' hC').cell 1; have v2 := (HV4.out w' hC').cell 2; simp only [List.getElem?_cons_succ, List.getElem?_cons_zero] at v0 v1 v2; clear hC' hG'; go_simp; rfl)); (focus (go_simp; rfl)))
      refine loose_call (R := ConstV (.agg #[.int .i64 (n - mxf), .int .i64 (n - mnf)])) (f := 80) (args := #[.int .i64 (n - mxf), .int .i64 (n - mnf)]) (by rfl) (by rfl) (fun _ => by go_simp) (fun w' hC' hG' => HSQ.out (n - mxf) (n - mnf) w') ?_
      rintro _ ⟨_, _, rfl⟩
      refine ⟨?_, ?_, ?_⟩
      rotate_left
      · go_simp
        rfl
      refine loose_done (fun w9 hC' hG' => ?_)
      have HC := hidden (HC.out.of_below hC')
      clear hC' hG'
      refine wpList_store_bd rfl _ _ rfl w9 rfl (w.heap.size + 1 + 1) rfl (n - mxf) (n - mnf) rfl _ _ (HB0.out.grow HC.out) ?_
      intro W hr hg
      have HRR := hidden hr
      have HGG := hidden (hg w (HG0.out.of_below HC.out) (by omega))
      clear hr hg
      go_wp2_with fail
      refine bodyPost_ret (results_bd rfl _ _ _ _ _ rfl HRR.out) rfl ⟨?_, HGG.out⟩
      rw [HO.out]
    have HO := hidden (show out = (0, 0) by rw [HCP.out]; unfold cmP; rw [if_neg h20, if_neg h21, if_neg (by decide), if_neg h1, if_neg h2, if_neg h3, if_neg h4, if_neg h5, if_neg h6])
    have d1 : (op == 1) = false := beq_eq_false_iff_ne.2 h1
    have d2 : (op == 2) = false := beq_eq_false_iff_ne.2 h2
    have d3 : (op == 3) = false := beq_eq_false_iff_ne.2 h3
    have d4 : (op == 4) = false := beq_eq_false_iff_ne.2 h4
    have d5 : (op == 5) = false := beq_eq_false_iff_ne.2 h5
    have d6 : (op == 6) = false := beq_eq_false_iff_ne.2 h6
    clear h20 h21 h1 h2 h3 h4 h5 h6
    obtain ⟨W0, hW0⟩ : ∃ W, W = (((w.alloc (.cells #[.int .i64 s.rows, .int .i64 s.nulls, .slice A1 L1 c1, .bool s.ok, .slice A2 L2 c2, .slice A3 M c3, .slice A4 RL c4] 29)).alloc (.cells #[.int .i64 col, .int .i64 op, .int .i64 x.k, .int .i64 x.n, .string x.t] 37)).alloc (.cells #[.int .i64 0, .int .i64 0] 40)) := ⟨_, rfl⟩
    have HG0 := hidden (show Grows w W0 by rw [hW0]; exact ((growK _ _).of_below (growK _ _)).of_below (growK _ _))
    have HS0 := hidden (show Row W0 w.heap.size 29 [.int .i64 s.rows, .int .i64 s.nulls, .slice A1 L1 c1, .bool s.ok, .slice A2 L2 c2, .slice A3 M c3, .slice A4 RL c4] by rw [hW0]; exact (skp_rows _ _ _ _ _ _ _ _ _ _ _ _ _ _).1)
    have HP0 := hidden (show Row W0 (w.heap.size + 1) 37 [.int .i64 col, .int .i64 op, .int .i64 x.k, .int .i64 x.n, .string x.t] by rw [hW0]; exact (skp_rows _ _ _ _ _ _ _ _ _ _ _ _ _ _).2)
    have HB0 := hidden (show Row W0 (w.heap.size + 1 + 1) 40 [.int .i64 0, .int .i64 0] by rw [hW0]; exact bdrow_at2 _ _ _ _ _)
    have HX : Hid (∀ X, Grows W0 X → X.cell? ⟨w.heap.size, 0, none⟩ = some (.int .i64 s.rows) ∧ X.cell? ⟨w.heap.size, 1, none⟩ = some (.int .i64 s.nulls) ∧ X.cell? ⟨w.heap.size, 2, none⟩ = some (.slice A1 L1 c1) ∧ X.cell? ⟨w.heap.size, 3, none⟩ = some (.bool s.ok) ∧ X.cell? ⟨w.heap.size, 4, none⟩ = some (.slice A2 L2 c2) ∧ X.cell? ⟨w.heap.size, 5, none⟩ = some (.slice A3 M c3) ∧ X.cell? ⟨w.heap.size, 6, none⟩ = some (.slice A4 RL c4) ∧ X.cell? ⟨w.heap.size + 1, 0, none⟩ = some (.int .i64 col) ∧ X.cell? ⟨w.heap.size + 1, 1, none⟩ = some (.int .i64 op) ∧ X.cell? ⟨w.heap.size + 1, 2, none⟩ = some (.int .i64 x.k) ∧ X.cell? ⟨w.heap.size + 1, 3, none⟩ = some (.int .i64 x.n) ∧ X.cell? ⟨w.heap.size + 1, 4, none⟩ = some (.string x.t)) := hidden fun X h => ⟨(HS0.out.grow h).cell 0, (HS0.out.grow h).cell 1, (HS0.out.grow h).cell 2, (HS0.out.grow h).cell 3, (HS0.out.grow h).cell 4, (HS0.out.grow h).cell 5, (HS0.out.grow h).cell 6, (HP0.out.grow h).cell 0, (HP0.out.grow h).cell 1, (HP0.out.grow h).cell 2, (HP0.out.grow h).cell 3, (HP0.out.grow h).cell 4⟩
    go_enter Tryz.func26, Tryz.ntmps26
    go_wp2_with fail
    rw [← hW0]
    clear hW0
    refine (HV.out _).mono ?_
    rintro e w1 ⟨rfl, g1⟩
    have HC := hidden g1
    obtain ⟨s0, s1, s2, s3, s4, s5, s6, p0, p1, p2, p3, p4⟩ := HX.out w1 g1
    clear g1
    go_wp2_with (go_at_call 78; refine (HFO.out w1 (HG0.out.of_below HC.out)).mono ?_; rintro e w3 ⟨rfl, g1⟩; have HC := hidden (HC.out.of_below g1); obtain ⟨s0, s1, s2, s3, s4, s5, s6, p0, p1, p2, p3, p4⟩ := HX.out w3 HC.out; clear g1; obtain ⟨s0a, s1a, s2a, s3a, s4a, s5a, s6a, p0a, p1a, p2a, p3a, p4a⟩ := HX.out (w3.alloc (.cells #[.int .i64 x.k, .int .i64 x.n, .string x.t] 35)) (HC.out.of_below (growK _ _)))
    have HX2 := hidden (fun X (h : Grows (w3.alloc (.cells #[.int .i64 x.k, .int .i64 x.n, .string x.t] 35)) X) => HX.out X (HC.out.of_below ((growK _ _).of_below h)))
    have HVR := hidden (fun X (h : Grows (w3.alloc (.cells #[.int .i64 x.k, .int .i64 x.n, .string x.t] 35)) X) => (Row.new w3 35 #[.int .i64 x.k, .int .i64 x.n, .string x.t] [.int .i64 x.k, .int .i64 x.n, .string x.t] rfl).grow h)
    have HA := hidden (HC.out.of_below (growK w3 (.cells #[.int .i64 x.k, .int .i64 x.n, .string x.t] 35)))
    refine (HCQ.out _ (HG0.out.of_below HA.out)).mono ?_
    rintro e w4 ⟨rfl, g4⟩
    have HC4 := hidden (HA.out.of_below g4)
    have HX4 := hidden (fun X (h : Grows (w4.alloc (.cells #[.int .i64 el, .int .i64 eh] 40)) X) => HX2.out X (g4.of_below ((growK _ _).of_below h)))
    have HV4 := hidden (fun X (h : Grows (w4.alloc (.cells #[.int .i64 el, .int .i64 eh] 40)) X) => HVR.out X (g4.of_below ((growK _ _).of_below h)))
    have HC := hidden (HC4.out.of_below (growK w4 (.cells #[.int .i64 el, .int .i64 eh] 40)))
    clear g4 s0 s1 s2 s3 s4 s5 s6 p0 p1 p2 p3 p4 s0a s1a s2a s3a s4a s5a s6a p0a p1a p2a p3a p4a
    obtain ⟨s0, s1, s2, s3, s4, s5, s6, p0, p1, p2, p3, p4⟩ := HX4.out _ (Below.refl _ _)
    go_wp2_with (first | (go_at_call 80; refine (HSP.out 0 0 _).mono ?_; rintro e wy ⟨rfl, g1⟩; have HC := hidden (HC.out.of_below g1); clear g1) | ((with_reducible refine at_bd rfl _ _ rfl ?_); refine wpList_store_bd rfl _ _ rfl _ rfl (w.heap.size + 1 + 1) rfl 0 0 rfl _ _ (HB0.out.grow HC.out) ?_; intro W hr hg; have HRR := hidden hr; have HGG := hidden (hg w (HG0.out.of_below HC.out) (by omega)); clear hr hg))
    refine bodyPost_ret (results_bd rfl _ _ _ _ _ rfl HRR.out) rfl ⟨?_, HGG.out⟩
    rw [HO.out]
end Go.Proofs.YtoaklmceejeblaaGreat
