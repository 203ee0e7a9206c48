/-
  Shaken: what the claims of this seat need of this text. No condition.
-/
import Derived.Test.YtoaklmceejeblaaGreatSkI
namespace Go.Proofs.YtoaklmceejeblaaGreat
open Go.RowKit
set_option linter.unusedVariables false
set_option linter.unusedSimpArgs false
theorem row_setRow_other {w : World} {g g' : Nat} {e : TypeId} {ys : List Value} (cs : Array Value) (h : g' ≠ g) (hr : Row w g' e ys) : Row (w.setRow g cs) g' e ys := by
  unfold Row at hr ⊢
  rw [setRow_other w g g' cs h]
  exact hr
theorem wpList_store_vlK {wr : World} {ops : Array Oper} {rest : List Oper} {o : Oper} {a : Act} {Q : Exit → Act → World → Prop} (hgd : o.guard = none) (x y : Operand) (ho : o.op = .store 35 x y)
    (g : Nat) (hx : a.eval x = .pointer (some ⟨g, 0, none⟩)) (k n : Int) (t : ByteArray) (hy : a.eval y = .agg #[.int .i64 k, .int .i64 n, .string t]) (z1 z2 z3 : Value) (hr : Row wr g 35 [z1, z2, z3])
    (hk : ∀ W, Row W g 35 [.int .i64 k, .int .i64 n, .string t] → (∀ w0, Grows w0 wr → w0.heap.size ≤ g → Grows w0 W) → (∀ g' e ys, g' ≠ g → Row wr g' e ys → Row W g' e ys) → wpList Tryz.prog ops Q rest (a.put o.dst undef) W) : wpList Tryz.prog ops Q (o :: rest) a wr :=
  wpList_store_row hgd _ x y ho g #[.int .i64 k, .int .i64 n, .string t] hx hy 35 #[z1, z2, z3] hr size_val rfl (by simp [Value.oneCell']) (hk _ (hr.setRowK [.int .i64 k, .int .i64 n, .string t]) (fun w0 h0 hg => below_setRowK h0 hg _) (fun g' e ys h h' => row_setRow_other _ h h'))
theorem wpList_store_bdK {wr : World} {ops : Array Oper} {rest : List Oper} {o : Oper} {a : Act} {Q : Exit → Act → World → Prop} (hgd : o.guard = none) (x y : Operand) (ho : o.op = .store 40 x y)
    (g : Nat) (hx : a.eval x = .pointer (some ⟨g, 0, none⟩)) (m n : Int) (hy : a.eval y = .agg #[.int .i64 m, .int .i64 n]) (z1 z2 : Value) (hr : Row wr g 40 [z1, z2])
    (hk : ∀ W, Row W g 40 [.int .i64 m, .int .i64 n] → (∀ w0, Grows w0 wr → w0.heap.size ≤ g → Grows w0 W) → (∀ g' e ys, g' ≠ g → Row wr g' e ys → Row W g' e ys) → wpList Tryz.prog ops Q rest (a.put o.dst undef) W) : wpList Tryz.prog ops Q (o :: rest) a wr :=
  wpList_store_row hgd _ x y ho g #[.int .i64 m, .int .i64 n] hx hy 40 #[z1, z2] hr size_bounds rfl (by simp [Value.oneCell']) (hk _ (hr.setRowK [.int .i64 m, .int .i64 n]) (fun w0 h0 hg => below_setRowK h0 hg _) (fun g' e ys h h' => row_setRow_other _ h h'))
theorem row_types {w : World} {g g' : Nat} {e e' : TypeId} {xs ys : List Value} (h : Row w g e xs) (h' : Row w g' e' ys) (hne : e ≠ e') : g ≠ g' := by
  rintro rfl
  unfold Row at h h'
  rw [h] at h'
  injection h' with h'
  injection h' with _ h2
  exact hne h2
def NewVl (H : Nat) : Value → World → Prop := fun v w => ∃ b, v = .pointer (some ⟨b, 0, none⟩) ∧ H ≤ b ∧ Row w b 35 [.int .i64 0, .int .i64 0, .string ⟨#[]⟩]
theorem NewVl.lasts {H : Nat} : ∀ v w w', NewVl H v w → Grows w w' → NewVl H v w' := fun _ _ _ ⟨b, h1, h2, h3⟩ hg => ⟨b, h1, h2, h3.grow hg⟩
theorem qothers_any (bA : Nat) (n lo hi : Int) (w : World) (hb : Row w bA 40 [.int .i64 n, .int .i64 n]) (h1 : -9223372036854775808 ≤ n - hi ∧ n - hi ≤ 9223372036854775807) (h2 : -9223372036854775808 ≤ n - lo ∧ n - lo ≤ 9223372036854775807) :
    Calls Tryz.prog 83 #[.agg #[.int .i64 lo, .int .i64 hi], .pointer (some ⟨bA, 0, none⟩)] w fun e w' => e = .returned (.agg #[.int .i64 (n - hi), .int .i64 (n - lo)]) ∧ Grows w w' := by
  have HD := hidden (fun W => qdifference_any n n lo hi W h1 h2)
  have HG0 := hidden (show Grows w ((w.alloc (.cells #[.int .i64 lo, .int .i64 hi] 40)).alloc (.cells #[.int .i64 0, .int .i64 0] 40)) from (growK _ _).of_below (growK _ _))
  have HB0 := hidden (show Row ((w.alloc (.cells #[.int .i64 lo, .int .i64 hi] 40)).alloc (.cells #[.int .i64 0, .int .i64 0] 40)) (w.heap.size + 1) 40 [.int .i64 0, .int .i64 0] from bdrow_at w _ _ _)
  have c0 := (hb.grow HG0.out).cell 0
  have c1 := (hb.grow HG0.out).cell 1
  simp only [List.getElem?_cons_succ, List.getElem?_cons_zero] at c0 c1
  clear h1 h2 hb
  go_enter Tryz.func83, Tryz.ntmps83
  go_wp2_with (first | (go_at_call 76; refine (HD.out _).mono ?_; rintro e w1 ⟨rfl, g1⟩; have HC := hidden g1; clear g1) | ((with_reducible refine at_bd rfl _ _ rfl ?_); refine wpList_store_bd rfl _ _ rfl _ rfl (w.heap.size + 1) rfl (n - hi) (n - lo) rfl _ _ (HB0.out.grow HC.out) ?_; intro W hr hg; have HRR := hidden hr; have HGG := hidden (hg w (HG0.out.of_below HC.out) (by omega)); clear hr hg))
  refine bodyPost_ret (results_bd rfl _ _ _ _ _ rfl HRR.out) rfl ⟨rfl, HGG.out⟩
set_option maxRecDepth 8000 in
set_option maxHeartbeats 64000000 in
theorem qCountMatching_any (v : Value) (s : Sk) (x : Val) (col op el eh ll lh al ah : Int) (w : World) (hk : IsK w v s) (hn0 : 0 ≤ s.rows - s.nulls ∧ s.rows - s.nulls ≤ 9223372036854775807)
    (hE : ∀ W, Grows w W → Calls Tryz.prog 21 #[v, .agg #[.int .i64 x.k, .int .i64 x.n, .string x.t]] W fun e w' => e = .returned (.agg #[.int .i64 el, .int .i64 eh]) ∧ Grows W w')
    (hL : ∀ W, Grows w W → Calls Tryz.prog 23 #[v, .agg #[.int .i64 x.k, .int .i64 x.n, .string x.t]] W fun e w' => e = .returned (.agg #[.int .i64 ll, .int .i64 lh]) ∧ Grows W w')
    (hA : ∀ W, Grows w W → Calls Tryz.prog 66 #[v, .agg #[.int .i64 x.k, .int .i64 x.n, .string x.t]] W fun e w' => e = .returned (.agg #[.int .i64 al, .int .i64 ah]) ∧ Grows W w')
    (b1 : 0 ≤ el ∧ el ≤ 9223372036854775807) (b2 : 0 ≤ eh ∧ eh ≤ 9223372036854775807) (b3 : 0 ≤ ll ∧ ll ≤ 9223372036854775807) (b4 : 0 ≤ lh ∧ lh ≤ 9223372036854775807) (b5 : 0 ≤ al ∧ al ≤ 9223372036854775807) (b6 : 0 ≤ ah ∧ ah ≤ 9223372036854775807) :
    Calls Tryz.prog 25 #[v, .agg #[.int .i64 col, .int .i64 op, .int .i64 x.k, .int .i64 x.n, .string x.t]] w fun e w' => e = .returned (.agg #[.int .i64 (cmP op s.nulls (s.rows - s.nulls) (foreignB s.fs x) el eh ll lh al ah).1, .int .i64 (cmP op s.nulls (s.rows - s.nulls) (foreignB s.fs x) el eh ll lh al ah).2]) ∧ Grows w w' := by
  have HIK := hidden hk
  have HE := hidden hE
  have HL := hidden hL
  have HA := hidden hA
  have HN0 := hidden hn0
  have HB1 := hidden b1
  have HB2 := hidden b2
  have HB3 := hidden b3
  have HB4 := hidden b4
  have HB5 := hidden b5
  have HB6 := hidden b6
  clear hE hL hA b1 b2 b3 b4 b5 b6
  obtain ⟨A1, A2, A3, A4, c1, c2, c3, c4, rfl, -⟩ := hk
  have HP := hidden (fun X => const_loose16 (qpresent_any s.rows s.nulls A1 A2 A3 A4 s.hs.length c1 s.cm.length c2 s.fs.length c3 s.rk.length c4 s.ok X ⟨by omega, by omega⟩))
  have HEX := hidden (fun a X => qexactly_any a X)
  have HKD := hidden (fun W (h : Grows w W) => const_loose16 (qkind_any _ s W (HIK.out.grow h)))
  have HIN := hidden (fun W => const_loose16 (qisNull_any x.k x.n x.t W))
  have HOT := hidden (fun bA n lo hi W hb h1 h2 => qothers_any bA n lo hi W hb h1 h2)
  have HCP := hidden (show cmP op s.nulls (s.rows - s.nulls) (foreignB s.fs x) el eh ll lh al ah = cmP op s.nulls (s.rows - s.nulls) (foreignB s.fs x) el eh ll lh al ah from rfl)
  have HFK := hidden (kindK_foreign (fs := s.fs) (x := x))
  obtain ⟨L1, hL1⟩ : ∃ L, L = s.hs.length := ⟨_, rfl⟩
  obtain ⟨L2, hL2⟩ : ∃ L, L = s.cm.length := ⟨_, rfl⟩
  obtain ⟨M, hME⟩ : ∃ L, L = s.fs.length := ⟨_, rfl⟩
  obtain ⟨RL, hRL⟩ : ∃ L, L = s.rk.length := ⟨_, rfl⟩
  rw [← hL1, ← hL2, ← hME, ← hRL] at HP HKD HE HL HA ⊢
  clear hL1 hL2 hME hRL HIK hn0
  generalize foreignB s.fs x = fo at *
  generalize kindK s.fs = kk at *
  generalize hn : s.rows - s.nulls = n at *
  obtain ⟨out, hout⟩ : ∃ o, o = cmP op s.nulls n fo el eh ll lh al ah := ⟨_, rfl⟩
  rw [← hout]
  replace HCP := hidden hout
  clear hn hout
  by_cases h20 : op = 20
  · subst h20
    have HO := hidden (show out = (s.nulls, s.nulls) from HCP.out)
    obtain ⟨W0, hW0⟩ : ∃ W, W = (((w.alloc (.cells #[.int .i64 s.rows, .int .i64 s.nulls, .slice A1 L1 c1, .bool s.ok, .slice A2 L2 c2, .slice A3 M c3, .slice A4 RL c4] 29)).alloc (.cells #[.int .i64 col, .int .i64 20, .int .i64 x.k, .int .i64 x.n, .string x.t] 37)).alloc (.cells #[.int .i64 0, .int .i64 0] 40)) := ⟨_, rfl⟩
    have HG0 := hidden (show Grows w W0 by rw [hW0]; exact ((growK _ _).of_below (growK _ _)).of_below (growK _ _))
    have HS0 := hidden (show Row W0 w.heap.size 29 [.int .i64 s.rows, .int .i64 s.nulls, .slice A1 L1 c1, .bool s.ok, .slice A2 L2 c2, .slice A3 M c3, .slice A4 RL c4] by rw [hW0]; exact (skp_rows _ _ _ _ _ _ _ _ _ _ _ _ _ _).1)
    have HP0 := hidden (show Row W0 (w.heap.size + 1) 37 [.int .i64 col, .int .i64 20, .int .i64 x.k, .int .i64 x.n, .string x.t] by rw [hW0]; exact (skp_rows _ _ _ _ _ _ _ _ _ _ _ _ _ _).2)
    have HB0 := hidden (show Row W0 (w.heap.size + 1 + 1) 40 [.int .i64 0, .int .i64 0] by rw [hW0]; exact bdrow_at2 _ _ _ _ _)
    have HX0 : Hid (∀ X, Grows W0 X → X.cell? ⟨w.heap.size, 0, none⟩ = some (.int .i64 s.rows) ∧ X.cell? ⟨w.heap.size, 1, none⟩ = some (.int .i64 s.nulls) ∧ X.cell? ⟨w.heap.size, 2, none⟩ = some (.slice A1 L1 c1) ∧ X.cell? ⟨w.heap.size, 3, none⟩ = some (.bool s.ok) ∧ X.cell? ⟨w.heap.size, 4, none⟩ = some (.slice A2 L2 c2) ∧ X.cell? ⟨w.heap.size, 5, none⟩ = some (.slice A3 M c3) ∧ X.cell? ⟨w.heap.size, 6, none⟩ = some (.slice A4 RL c4) ∧ X.cell? ⟨w.heap.size + 1, 0, none⟩ = some (.int .i64 col) ∧ X.cell? ⟨w.heap.size + 1, 1, none⟩ = some (.int .i64 20) ∧ X.cell? ⟨w.heap.size + 1, 2, none⟩ = some (.int .i64 x.k) ∧ X.cell? ⟨w.heap.size + 1, 3, none⟩ = some (.int .i64 x.n) ∧ X.cell? ⟨w.heap.size + 1, 4, none⟩ = some (.string x.t)) := hidden fun X h => ⟨(HS0.out.grow h).cell 0, (HS0.out.grow h).cell 1, (HS0.out.grow h).cell 2, (HS0.out.grow h).cell 3, (HS0.out.grow h).cell 4, (HS0.out.grow h).cell 5, (HS0.out.grow h).cell 6, (HP0.out.grow h).cell 0, (HP0.out.grow h).cell 1, (HP0.out.grow h).cell 2, (HP0.out.grow h).cell 3, (HP0.out.grow h).cell 4⟩
    have HEN := hidden (fun X => const_loose16 (HEX.out n X))
    go_enter Tryz.func25, Tryz.ntmps25
    go_wp2_with fail
    rw [← hW0]
    clear hW0
    refine wp_region_loose_tail 7 (tabRs [(3, ConstV (.int .i64 n)), (4, ConstV (.agg #[.int .i64 n, .int .i64 n])), (5, NewVl W0.heap.size), (6, NewBd W0.heap.size)]) (by kernel_rfl) (by kernel_rfl) (tabRs_cons ConstV.lasts (tabRs_cons ConstV.lasts (tabRs_cons NewVl.lasts (tabRs_cons NewBd.lasts tabRs_nil)))) ?_
    simp only [List.take_succ_cons, List.take_zero, List.drop_succ_cons, List.drop_zero]
    iterate 3 ((with_reducible refine loose_one (v := ?_) (a' := ?_) ?_ ?_ (fun w' hC' hG' => ?_) ?_ ?_); rotate_left 2; (focus rfl); (focus rfl); (focus (obtain ⟨s0, s1, s2, s3, s4, s5, s6, p0, p1, p2, p3, p4⟩ := HX0.out w' hC'; clear hC' hG'; go_simp; rfl)); (focus (go_simp; rfl)))
    refine loose_call (R := ConstV (.int .i64 n)) (f := 67) (args := #[.agg #[.int .i64 s.rows, .int .i64 s.nulls, .slice A1 L1 c1, .bool s.ok, .slice A2 L2 c2, .slice A3 M c3, .slice A4 RL c4]]) (by rfl) (by rfl) (fun _ => by go_simp) (fun w' hC' hG' => HP.out w') ?_
    rintro _ ⟨_, _, rfl⟩
    refine ⟨?_, ?_, ?_⟩
    rotate_left
    · go_simp
      rfl
    refine loose_call (R := ConstV (.agg #[.int .i64 n, .int .i64 n])) (f := 82) (args := #[.int .i64 n]) (by rfl) (by rfl) (fun _ => by go_simp) (fun w' hC' hG' => HEN.out w') ?_
    rintro _ ⟨_, _, rfl⟩
    refine ⟨?_, ?_, ?_⟩
    rotate_left
    · go_simp
      rfl
    refine loose_new (R := NewVl W0.heap.size) (by rfl) (by rfl) (fun w' hC' hG' => ?_) ?_
    · exact ⟨.pointer (some ⟨w'.heap.size, 0, none⟩), w'.alloc (.cells #[.int .i64 0, .int .i64 0, .string ⟨#[]⟩] 35), by first | rfl | go_simp, (Below.refl _ _).alloc (Nat.le_refl _) _, w'.heap.size, rfl, hC'.size, Row.new w' 35 #[.int .i64 0, .int .i64 0, .string ⟨#[]⟩] [.int .i64 0, .int .i64 0, .string ⟨#[]⟩] rfl⟩
    rintro _ ⟨_, _, c5, rfl, -, -⟩
    refine ⟨?_, ?_, ?_⟩
    rotate_left
    · go_simp
      rfl
    refine loose_new (R := NewBd W0.heap.size) (by rfl) (by rfl) (fun w' hC' hG' => ?_) ?_
    · exact ⟨.pointer (some ⟨w'.heap.size, 0, none⟩), w'.alloc (.cells #[.int .i64 0, .int .i64 0] 40), by first | rfl | go_simp, (Below.refl _ _).alloc (Nat.le_refl _) _, w'.heap.size, rfl, hC'.size, Row.new w' 40 #[.int .i64 0, .int .i64 0] [.int .i64 0, .int .i64 0] rfl⟩
    rintro _ ⟨_, _, c6, rfl, -, -⟩
    refine ⟨?_, ?_, ?_⟩
    rotate_left
    · go_simp
      rfl
    refine loose_done (fun w1 hC' hG' => ?_)
    obtain ⟨d5, he5, hd5, hr5⟩ : NewVl W0.heap.size (.pointer (some ⟨c5, 0, none⟩)) w1 := (hG' 5).1.2 rfl
    obtain ⟨d6, he6, hd6, hr6⟩ : NewBd W0.heap.size (.pointer (some ⟨c6, 0, none⟩)) w1 := (hG' 6).2 rfl
    have e5 : c5 = d5 := by simpa using he5
    have e6 : c6 = d6 := by simpa using he6
    subst e5 e6
    have hne := row_types hr5 hr6 (by decide)
    have HC1 := hidden hC'
    clear hG' hC' he5 he6
    refine wpList_store_vlK rfl _ _ rfl c5 rfl x.k x.n x.t rfl _ _ _ hr5 ?_
    intro w2 hv2 hg2 hk2
    have hr62 := hk2 c6 _ _ (Ne.symm hne) hr6
    have HC2 := hidden (hg2 W0 HC1.out hd5)
    refine wpList_store_bdK rfl _ _ rfl c6 rfl n n rfl _ _ hr62 ?_
    intro w3 hv3 hg3 hk3
    have H5 := hidden (hk3 c5 _ _ hne hv2)
    have H6 := hidden hv3
    have HC3 := hidden (hg3 W0 HC2.out hd6)
    have HG3 := hidden (HG0.out.of_below HC3.out)
    have HB3' := hidden (HB0.out.grow HC3.out)
    have HX : Hid (∀ X, Grows w3 X → X.cell? ⟨w.heap.size, 0, none⟩ = some (.int .i64 s.rows) ∧ X.cell? ⟨w.heap.size, 1, none⟩ = some (.int .i64 s.nulls) ∧ X.cell? ⟨w.heap.size, 2, none⟩ = some (.slice A1 L1 c1) ∧ X.cell? ⟨w.heap.size, 3, none⟩ = some (.bool s.ok) ∧ X.cell? ⟨w.heap.size, 4, none⟩ = some (.slice A2 L2 c2) ∧ X.cell? ⟨w.heap.size, 5, none⟩ = some (.slice A3 M c3) ∧ X.cell? ⟨w.heap.size, 6, none⟩ = some (.slice A4 RL c4) ∧ X.cell? ⟨w.heap.size + 1, 0, none⟩ = some (.int .i64 col) ∧ X.cell? ⟨w.heap.size + 1, 1, none⟩ = some (.int .i64 20) ∧ X.cell? ⟨w.heap.size + 1, 2, none⟩ = some (.int .i64 x.k) ∧ X.cell? ⟨w.heap.size + 1, 3, none⟩ = some (.int .i64 x.n) ∧ X.cell? ⟨w.heap.size + 1, 4, none⟩ = some (.string x.t) ∧ X.cell? ⟨c5, 0, none⟩ = some (.int .i64 x.k) ∧ X.cell? ⟨c5, 1, none⟩ = some (.int .i64 x.n) ∧ X.cell? ⟨c5, 2, none⟩ = some (.string x.t) ∧ X.cell? ⟨c6, 0, none⟩ = some (.int .i64 n) ∧ X.cell? ⟨c6, 1, none⟩ = some (.int .i64 n)) := hidden fun X h => ⟨(HS0.out.grow (HC3.out.of_below h)).cell 0, (HS0.out.grow (HC3.out.of_below h)).cell 1, (HS0.out.grow (HC3.out.of_below h)).cell 2, (HS0.out.grow (HC3.out.of_below h)).cell 3, (HS0.out.grow (HC3.out.of_below h)).cell 4, (HS0.out.grow (HC3.out.of_below h)).cell 5, (HS0.out.grow (HC3.out.of_below h)).cell 6, (HP0.out.grow (HC3.out.of_below h)).cell 0, (HP0.out.grow (HC3.out.of_below h)).cell 1, (HP0.out.grow (HC3.out.of_below h)).cell 2, (HP0.out.grow (HC3.out.of_below h)).cell 3, (HP0.out.grow (HC3.out.of_below h)).cell 4, (H5.out.grow h).cell 0, (H5.out.grow h).cell 1, (H5.out.grow h).cell 2, (H6.out.grow h).cell 0, (H6.out.grow h).cell 1⟩
    have HC : Hid (Grows w3 w3) := hidden (Below.refl _ w3)
    clear hr5 hr6 hd5 hd6 hne hv2 hg2 hk2 hr62 hv3 hg3 hk3 HC1 HC2 HX0 HS0 HP0 HB0
    obtain ⟨s0, s1, s2, s3, s4, s5, s6, p0, p1, p2, p3, p4, v0, v1, v2, n0, n1⟩ := HX.out w3 HC.out
    go_wp2_with (first | (go_at_call 82; refine (HEX.out s.nulls _).mono ?_; rintro e wy ⟨rfl, g1⟩; have HC := hidden (HC.out.of_below g1); clear g1) | ((with_reducible refine at_bd rfl _ _ rfl ?_); refine wpList_store_bd rfl _ _ rfl _ rfl (w.heap.size + 1 + 1) rfl s.nulls s.nulls rfl _ _ (HB3'.out.grow HC.out) ?_; intro W hr hg; have HRR := hidden hr; have HGG := hidden (hg w (HG3.out.of_below HC.out) (by omega)); clear hr hg))
    refine bodyPost_ret (results_bd rfl _ _ _ _ _ rfl HRR.out) rfl ⟨?_, HGG.out⟩
    rw [HO.out]
  by_cases h21 : op = 21
  · subst h21
    have HO := hidden (show out = (n, n) from HCP.out)
    obtain ⟨W0, hW0⟩ : ∃ W, W = (((w.alloc (.cells #[.int .i64 s.rows, .int .i64 s.nulls, .slice A1 L1 c1, .bool s.ok, .slice A2 L2 c2, .slice A3 M c3, .slice A4 RL c4] 29)).alloc (.cells #[.int .i64 col, .int .i64 21, .int .i64 x.k, .int .i64 x.n, .string x.t] 37)).alloc (.cells #[.int .i64 0, .int .i64 0] 40)) := ⟨_, rfl⟩
    have HG0 := hidden (show Grows w W0 by rw [hW0]; exact ((growK _ _).of_below (growK _ _)).of_below (growK _ _))
    have HS0 := hidden (show Row W0 w.heap.size 29 [.int .i64 s.rows, .int .i64 s.nulls, .slice A1 L1 c1, .bool s.ok, .slice A2 L2 c2, .slice A3 M c3, .slice A4 RL c4] by rw [hW0]; exact (skp_rows _ _ _ _ _ _ _ _ _ _ _ _ _ _).1)
    have HP0 := hidden (show Row W0 (w.heap.size + 1) 37 [.int .i64 col, .int .i64 21, .int .i64 x.k, .int .i64 x.n, .string x.t] by rw [hW0]; exact (skp_rows _ _ _ _ _ _ _ _ _ _ _ _ _ _).2)
    have HB0 := hidden (show Row W0 (w.heap.size + 1 + 1) 40 [.int .i64 0, .int .i64 0] by rw [hW0]; exact bdrow_at2 _ _ _ _ _)
    have HX0 : Hid (∀ X, Grows W0 X → X.cell? ⟨w.heap.size, 0, none⟩ = some (.int .i64 s.rows) ∧ X.cell? ⟨w.heap.size, 1, none⟩ = some (.int .i64 s.nulls) ∧ X.cell? ⟨w.heap.size, 2, none⟩ = some (.slice A1 L1 c1) ∧ X.cell? ⟨w.heap.size, 3, none⟩ = some (.bool s.ok) ∧ X.cell? ⟨w.heap.size, 4, none⟩ = some (.slice A2 L2 c2) ∧ X.cell? ⟨w.heap.size, 5, none⟩ = some (.slice A3 M c3) ∧ X.cell? ⟨w.heap.size, 6, none⟩ = some (.slice A4 RL c4) ∧ X.cell? ⟨w.heap.size + 1, 0, none⟩ = some (.int .i64 col) ∧ X.cell? ⟨w.heap.size + 1, 1, none⟩ = some (.int .i64 21) ∧ X.cell? ⟨w.heap.size + 1, 2, none⟩ = some (.int .i64 x.k) ∧ X.cell? ⟨w.heap.size + 1, 3, none⟩ = some (.int .i64 x.n) ∧ X.cell? ⟨w.heap.size + 1, 4, none⟩ = some (.string x.t)) := hidden fun X h => ⟨(HS0.out.grow h).cell 0, (HS0.out.grow h).cell 1, (HS0.out.grow h).cell 2, (HS0.out.grow h).cell 3, (HS0.out.grow h).cell 4, (HS0.out.grow h).cell 5, (HS0.out.grow h).cell 6, (HP0.out.grow h).cell 0, (HP0.out.grow h).cell 1, (HP0.out.grow h).cell 2, (HP0.out.grow h).cell 3, (HP0.out.grow h).cell 4⟩
    have HEN := hidden (fun X => const_loose16 (HEX.out n X))
    go_enter Tryz.func25, Tryz.ntmps25
    go_wp2_with fail
    rw [← hW0]
    clear hW0
    refine wp_region_loose_tail 7 (tabRs [(3, ConstV (.int .i64 n)), (4, ConstV (.agg #[.int .i64 n, .int .i64 n])), (5, NewVl W0.heap.size), (6, NewBd W0.heap.size)]) (by kernel_rfl) (by kernel_rfl) (tabRs_cons ConstV.lasts (tabRs_cons ConstV.lasts (tabRs_cons NewVl.lasts (tabRs_cons NewBd.lasts tabRs_nil)))) ?_
    simp only [List.take_succ_cons, List.take_zero, List.drop_succ_cons, List.drop_zero]
    iterate 3 ((with_reducible refine loose_one (v := ?_) (a' := ?_) ?_ ?_ (fun w' hC' hG' => ?_) ?_ ?_); rotate_left 2; (focus rfl); (focus rfl); (focus (obtain ⟨s0, s1, s2, s3, s4, s5, s6, p0, p1, p2, p3, p4⟩ := HX0.out w' hC'; clear hC' hG'; go_simp; rfl)); (focus (go_simp; rfl)))
    refine loose_call (R := ConstV (.int .i64 n)) (f := 67) (args := #[.agg #[.int .i64 s.rows, .int .i64 s.nulls, .slice A1 L1 c1, .bool s.ok, .slice A2 L2 c2, .slice A3 M c3, .slice A4 RL c4]]) (by rfl) (by rfl) (fun _ => by go_simp) (fun w' hC' hG' => HP.out w') ?_
    rintro _ ⟨_, _, rfl⟩
    refine ⟨?_, ?_, ?_⟩
    rotate_left
    · go_simp
      rfl
    refine loose_call (R := ConstV (.agg #[.int .i64 n, .int .i64 n])) (f := 82) (args := #[.int .i64 n]) (by rfl) (by rfl) (fun _ => by go_simp) (fun w' hC' hG' => HEN.out w') ?_
    rintro _ ⟨_, _, rfl⟩
    refine ⟨?_, ?_, ?_⟩
    rotate_left
    · go_simp
      rfl
    refine loose_new (R := NewVl W0.heap.size) (by rfl) (by rfl) (fun w' hC' hG' => ?_) ?_
    · exact ⟨.pointer (some ⟨w'.heap.size, 0, none⟩), w'.alloc (.cells #[.int .i64 0, .int .i64 0, .string ⟨#[]⟩] 35), by first | rfl | go_simp, (Below.refl _ _).alloc (Nat.le_refl _) _, w'.heap.size, rfl, hC'.size, Row.new w' 35 #[.int .i64 0, .int .i64 0, .string ⟨#[]⟩] [.int .i64 0, .int .i64 0, .string ⟨#[]⟩] rfl⟩
    rintro _ ⟨_, _, c5, rfl, -, -⟩
    refine ⟨?_, ?_, ?_⟩
    rotate_left
    · go_simp
      rfl
    refine loose_new (R := NewBd W0.heap.size) (by rfl) (by rfl) (fun w' hC' hG' => ?_) ?_
    · exact ⟨.pointer (some ⟨w'.heap.size, 0, none⟩), w'.alloc (.cells #[.int .i64 0, .int .i64 0] 40), by first | rfl | go_simp, (Below.refl _ _).alloc (Nat.le_refl _) _, w'.heap.size, rfl, hC'.size, Row.new w' 40 #[.int .i64 0, .int .i64 0] [.int .i64 0, .int .i64 0] rfl⟩
    rintro _ ⟨_, _, c6, rfl, -, -⟩
    refine ⟨?_, ?_, ?_⟩
    rotate_left
    · go_simp
      rfl
    refine loose_done (fun w1 hC' hG' => ?_)
    obtain ⟨d5, he5, hd5, hr5⟩ : NewVl W0.heap.size (.pointer (some ⟨c5, 0, none⟩)) w1 := (hG' 5).1.2 rfl
    obtain ⟨d6, he6, hd6, hr6⟩ : NewBd W0.heap.size (.pointer (some ⟨c6, 0, none⟩)) w1 := (hG' 6).2 rfl
    have e5 : c5 = d5 := by simpa using he5
    have e6 : c6 = d6 := by simpa using he6
    subst e5 e6
    have hne := row_types hr5 hr6 (by decide)
    have HC1 := hidden hC'
    clear hG' hC' he5 he6
    refine wpList_store_vlK rfl _ _ rfl c5 rfl x.k x.n x.t rfl _ _ _ hr5 ?_
    intro w2 hv2 hg2 hk2
    have hr62 := hk2 c6 _ _ (Ne.symm hne) hr6
    have HC2 := hidden (hg2 W0 HC1.out hd5)
    refine wpList_store_bdK rfl _ _ rfl c6 rfl n n rfl _ _ hr62 ?_
    intro w3 hv3 hg3 hk3
    have H5 := hidden (hk3 c5 _ _ hne hv2)
    have H6 := hidden hv3
    have HC3 := hidden (hg3 W0 HC2.out hd6)
    have HG3 := hidden (HG0.out.of_below HC3.out)
    have HB3' := hidden (HB0.out.grow HC3.out)
    have HX : Hid (∀ X, Grows w3 X → X.cell? ⟨w.heap.size, 0, none⟩ = some (.int .i64 s.rows) ∧ X.cell? ⟨w.heap.size, 1, none⟩ = some (.int .i64 s.nulls) ∧ X.cell? ⟨w.heap.size, 2, none⟩ = some (.slice A1 L1 c1) ∧ X.cell? ⟨w.heap.size, 3, none⟩ = some (.bool s.ok) ∧ X.cell? ⟨w.heap.size, 4, none⟩ = some (.slice A2 L2 c2) ∧ X.cell? ⟨w.heap.size, 5, none⟩ = some (.slice A3 M c3) ∧ X.cell? ⟨w.heap.size, 6, none⟩ = some (.slice A4 RL c4) ∧ X.cell? ⟨w.heap.size + 1, 0, none⟩ = some (.int .i64 col) ∧ X.cell? ⟨w.heap.size + 1, 1, none⟩ = some (.int .i64 21) ∧ X.cell? ⟨w.heap.size + 1, 2, none⟩ = some (.int .i64 x.k) ∧ X.cell? ⟨w.heap.size + 1, 3, none⟩ = some (.int .i64 x.n) ∧ X.cell? ⟨w.heap.size + 1, 4, none⟩ = some (.string x.t) ∧ X.cell? ⟨c5, 0, none⟩ = some (.int .i64 x.k) ∧ X.cell? ⟨c5, 1, none⟩ = some (.int .i64 x.n) ∧ X.cell? ⟨c5, 2, none⟩ = some (.string x.t) ∧ X.cell? ⟨c6, 0, none⟩ = some (.int .i64 n) ∧ X.cell? ⟨c6, 1, none⟩ = some (.int .i64 n)) := hidden fun X h => ⟨(HS0.out.grow (HC3.out.of_below h)).cell 0, (HS0.out.grow (HC3.out.of_below h)).cell 1, (HS0.out.grow (HC3.out.of_below h)).cell 2, (HS0.out.grow (HC3.out.of_below h)).cell 3, (HS0.out.grow (HC3.out.of_below h)).cell 4, (HS0.out.grow (HC3.out.of_below h)).cell 5, (HS0.out.grow (HC3.out.of_below h)).cell 6, (HP0.out.grow (HC3.out.of_below h)).cell 0, (HP0.out.grow (HC3.out.of_below h)).cell 1, (HP0.out.grow (HC3.out.of_below h)).cell 2, (HP0.out.grow (HC3.out.of_below h)).cell 3, (HP0.out.grow (HC3.out.of_below h)).cell 4, (H5.out.grow h).cell 0, (H5.out.grow h).cell 1, (H5.out.grow h).cell 2, (H6.out.grow h).cell 0, (H6.out.grow h).cell 1⟩
    have HC : Hid (Grows w3 w3) := hidden (Below.refl _ w3)
    clear hr5 hr6 hd5 hd6 hne hv2 hg2 hk2 hr62 hv3 hg3 hk3 HC1 HC2 HX0 HS0 HP0 HB0
    obtain ⟨s0, s1, s2, s3, s4, s5, s6, p0, p1, p2, p3, p4, v0, v1, v2, n0, n1⟩ := HX.out w3 HC.out
    go_wp2_with ((with_reducible refine at_bd rfl _ _ rfl ?_); refine wpList_store_bd rfl _ _ rfl _ rfl (w.heap.size + 1 + 1) rfl n n rfl _ _ (HB3'.out.grow HC.out) ?_; intro W hr hg; have HRR := hidden hr; have HGG := hidden (hg w (HG3.out.of_below HC.out) (by omega)); clear hr hg)
    refine bodyPost_ret (results_bd rfl _ _ _ _ _ rfl HRR.out) rfl ⟨?_, HGG.out⟩
    rw [HO.out]
  have d20 : (op == 20) = false := beq_eq_false_iff_ne.2 h20
  have d21 : (op == 21) = false := beq_eq_false_iff_ne.2 h21
  obtain ⟨nb, hnb⟩ : ∃ b, (x.k == 0) = b := ⟨_, rfl⟩
  rw [hnb] at HIN HFK
  cases nb with
  | true =>
    have HO := hidden (show out = (0, 0) by rw [HCP.out, ← HFK.out]; unfold cmP; rw [if_neg h20, if_neg h21, if_pos (by simp)])
    clear h20 h21 hnb
    obtain ⟨W0, hW0⟩ : ∃ W, W = (((w.alloc (.cells #[.int .i64 s.rows, .int .i64 s.nulls, .slice A1 L1 c1, .bool s.ok, .slice A2 L2 c2, .slice A3 M c3, .slice A4 RL c4] 29)).alloc (.cells #[.int .i64 col, .int .i64 op, .int .i64 x.k, .int .i64 x.n, .string x.t] 37)).alloc (.cells #[.int .i64 0, .int .i64 0] 40)) := ⟨_, rfl⟩
    have HG0 := hidden (show Grows w W0 by rw [hW0]; exact ((growK _ _).of_below (growK _ _)).of_below (growK _ _))
    have HS0 := hidden (show Row W0 w.heap.size 29 [.int .i64 s.rows, .int .i64 s.nulls, .slice A1 L1 c1, .bool s.ok, .slice A2 L2 c2, .slice A3 M c3, .slice A4 RL c4] by rw [hW0]; exact (skp_rows _ _ _ _ _ _ _ _ _ _ _ _ _ _).1)
    have HP0 := hidden (show Row W0 (w.heap.size + 1) 37 [.int .i64 col, .int .i64 op, .int .i64 x.k, .int .i64 x.n, .string x.t] by rw [hW0]; exact (skp_rows _ _ _ _ _ _ _ _ _ _ _ _ _ _).2)
    have HB0 := hidden (show Row W0 (w.heap.size + 1 + 1) 40 [.int .i64 0, .int .i64 0] by rw [hW0]; exact bdrow_at2 _ _ _ _ _)
    have HX0 : Hid (∀ X, Grows W0 X → X.cell? ⟨w.heap.size, 0, none⟩ = some (.int .i64 s.rows) ∧ X.cell? ⟨w.heap.size, 1, none⟩ = some (.int .i64 s.nulls) ∧ X.cell? ⟨w.heap.size, 2, none⟩ = some (.slice A1 L1 c1) ∧ X.cell? ⟨w.heap.size, 3, none⟩ = some (.bool s.ok) ∧ X.cell? ⟨w.heap.size, 4, none⟩ = some (.slice A2 L2 c2) ∧ X.cell? ⟨w.heap.size, 5, none⟩ = some (.slice A3 M c3) ∧ X.cell? ⟨w.heap.size, 6, none⟩ = some (.slice A4 RL c4) ∧ X.cell? ⟨w.heap.size + 1, 0, none⟩ = some (.int .i64 col) ∧ X.cell? ⟨w.heap.size + 1, 1, none⟩ = some (.int .i64 op) ∧ X.cell? ⟨w.heap.size + 1, 2, none⟩ = some (.int .i64 x.k) ∧ X.cell? ⟨w.heap.size + 1, 3, none⟩ = some (.int .i64 x.n) ∧ X.cell? ⟨w.heap.size + 1, 4, none⟩ = some (.string x.t)) := hidden fun X h => ⟨(HS0.out.grow h).cell 0, (HS0.out.grow h).cell 1, (HS0.out.grow h).cell 2, (HS0.out.grow h).cell 3, (HS0.out.grow h).cell 4, (HS0.out.grow h).cell 5, (HS0.out.grow h).cell 6, (HP0.out.grow h).cell 0, (HP0.out.grow h).cell 1, (HP0.out.grow h).cell 2, (HP0.out.grow h).cell 3, (HP0.out.grow h).cell 4⟩
    have HEN := hidden (fun X => const_loose16 (HEX.out n X))
    go_enter Tryz.func25, Tryz.ntmps25
    go_wp2_with fail
    rw [← hW0]
    clear hW0
    refine wp_region_loose_tail 7 (tabRs [(3, ConstV (.int .i64 n)), (4, ConstV (.agg #[.int .i64 n, .int .i64 n])), (5, NewVl W0.heap.size), (6, NewBd W0.heap.size)]) (by kernel_rfl) (by kernel_rfl) (tabRs_cons ConstV.lasts (tabRs_cons ConstV.lasts (tabRs_cons NewVl.lasts (tabRs_cons NewBd.lasts tabRs_nil)))) ?_
    simp only [List.take_succ_cons, List.take_zero, List.drop_succ_cons, List.drop_zero]
    iterate 3 ((with_reducible refine loose_one (v := ?_) (a' := ?_) ?_ ?_ (fun w' hC' hG' => ?_) ?_ ?_); rotate_left 2; (focus rfl); (focus rfl); (focus (obtain ⟨s0, s1, s2, s3, s4, s5, s6, p0, p1, p2, p3, p4⟩ := HX0.out w' hC'; clear hC' hG'; go_simp; rfl)); (focus (go_simp; rfl)))
    refine loose_call (R := ConstV (.int .i64 n)) (f := 67) (args := #[.agg #[.int .i64 s.rows, .int .i64 s.nulls, .slice A1 L1 c1, .bool s.ok, .slice A2 L2 c2, .slice A3 M c3, .slice A4 RL c4]]) (by rfl) (by rfl) (fun _ => by go_simp) (fun w' hC' hG' => HP.out w') ?_
    rintro _ ⟨_, _, rfl⟩
    refine ⟨?_, ?_, ?_⟩
    rotate_left
    · go_simp
      rfl
    refine loose_call (R := ConstV (.agg #[.int .i64 n, .int .i64 n])) (f := 82) (args := #[.int .i64 n]) (by rfl) (by rfl) (fun _ => by go_simp) (fun w' hC' hG' => HEN.out w') ?_
    rintro _ ⟨_, _, rfl⟩
    refine ⟨?_, ?_, ?_⟩
    rotate_left
    · go_simp
      rfl
    refine loose_new (R := NewVl W0.heap.size) (by rfl) (by rfl) (fun w' hC' hG' => ?_) ?_
    · exact ⟨.pointer (some ⟨w'.heap.size, 0, none⟩), w'.alloc (.cells #[.int .i64 0, .int .i64 0, .string ⟨#[]⟩] 35), by first | rfl | go_simp, (Below.refl _ _).alloc (Nat.le_refl _) _, w'.heap.size, rfl, hC'.size, Row.new w' 35 #[.int .i64 0, .int .i64 0, .string ⟨#[]⟩] [.int .i64 0, .int .i64 0, .string ⟨#[]⟩] rfl⟩
    rintro _ ⟨_, _, c5, rfl, -, -⟩
    refine ⟨?_, ?_, ?_⟩
    rotate_left
    · go_simp
      rfl
    refine loose_new (R := NewBd W0.heap.size) (by rfl) (by rfl) (fun w' hC' hG' => ?_) ?_
    · exact ⟨.pointer (some ⟨w'.heap.size, 0, none⟩), w'.alloc (.cells #[.int .i64 0, .int .i64 0] 40), by first | rfl | go_simp, (Below.refl _ _).alloc (Nat.le_refl _) _, w'.heap.size, rfl, hC'.size, Row.new w' 40 #[.int .i64 0, .int .i64 0] [.int .i64 0, .int .i64 0] rfl⟩
    rintro _ ⟨_, _, c6, rfl, -, -⟩
    refine ⟨?_, ?_, ?_⟩
    rotate_left
    · go_simp
      rfl
    refine loose_done (fun w1 hC' hG' => ?_)
    obtain ⟨d5, he5, hd5, hr5⟩ : NewVl W0.heap.size (.pointer (some ⟨c5, 0, none⟩)) w1 := (hG' 5).1.2 rfl
    obtain ⟨d6, he6, hd6, hr6⟩ : NewBd W0.heap.size (.pointer (some ⟨c6, 0, none⟩)) w1 := (hG' 6).2 rfl
    have e5 : c5 = d5 := by simpa using he5
    have e6 : c6 = d6 := by simpa using he6
    subst e5 e6
    have hne := row_types hr5 hr6 (by decide)
    have HC1 := hidden hC'
    clear hG' hC' he5 he6
    refine wpList_store_vlK rfl _ _ rfl c5 rfl x.k x.n x.t rfl _ _ _ hr5 ?_
    intro w2 hv2 hg2 hk2
    have hr62 := hk2 c6 _ _ (Ne.symm hne) hr6
    have HC2 := hidden (hg2 W0 HC1.out hd5)
    refine wpList_store_bdK rfl _ _ rfl c6 rfl n n rfl _ _ hr62 ?_
    intro w3 hv3 hg3 hk3
    have H5 := hidden (hk3 c5 _ _ hne hv2)
    have H6 := hidden hv3
    have HC3 := hidden (hg3 W0 HC2.out hd6)
    have HG3 := hidden (HG0.out.of_below HC3.out)
    have HB3' := hidden (HB0.out.grow HC3.out)
    have HX : Hid (∀ X, Grows w3 X → X.cell? ⟨w.heap.size, 0, none⟩ = some (.int .i64 s.rows) ∧ X.cell? ⟨w.heap.size, 1, none⟩ = some (.int .i64 s.nulls) ∧ X.cell? ⟨w.heap.size, 2, none⟩ = some (.slice A1 L1 c1) ∧ X.cell? ⟨w.heap.size, 3, none⟩ = some (.bool s.ok) ∧ X.cell? ⟨w.heap.size, 4, none⟩ = some (.slice A2 L2 c2) ∧ X.cell? ⟨w.heap.size, 5, none⟩ = some (.slice A3 M c3) ∧ X.cell? ⟨w.heap.size, 6, none⟩ = some (.slice A4 RL c4) ∧ X.cell? ⟨w.heap.size + 1, 0, none⟩ = some (.int .i64 col) ∧ X.cell? ⟨w.heap.size + 1, 1, none⟩ = some (.int .i64 op) ∧ X.cell? ⟨w.heap.size + 1, 2, none⟩ = some (.int .i64 x.k) ∧ X.cell? ⟨w.heap.size + 1, 3, none⟩ = some (.int .i64 x.n) ∧ X.cell? ⟨w.heap.size + 1, 4, none⟩ = some (.string x.t) ∧ X.cell? ⟨c5, 0, none⟩ = some (.int .i64 x.k) ∧ X.cell? ⟨c5, 1, none⟩ = some (.int .i64 x.n) ∧ X.cell? ⟨c5, 2, none⟩ = some (.string x.t) ∧ X.cell? ⟨c6, 0, none⟩ = some (.int .i64 n) ∧ X.cell? ⟨c6, 1, none⟩ = some (.int .i64 n)) := hidden fun X h => ⟨(HS0.out.grow (HC3.out.of_below h)).cell 0, (HS0.out.grow (HC3.out.of_below h)).cell 1, (HS0.out.grow (HC3.out.of_below h)).cell 2, (HS0.out.grow (HC3.out.of_below h)).cell 3, (HS0.out.grow (HC3.out.of_below h)).cell 4, (HS0.out.grow (HC3.out.of_below h)).cell 5, (HS0.out.grow (HC3.out.of_below h)).cell 6, (HP0.out.grow (HC3.out.of_below h)).cell 0, (HP0.out.grow (HC3.out.of_below h)).cell 1, (HP0.out.grow (HC3.out.of_below h)).cell 2, (HP0.out.grow (HC3.out.of_below h)).cell 3, (HP0.out.grow (HC3.out.of_below h)).cell 4, (H5.out.grow h).cell 0, (H5.out.grow h).cell 1, (H5.out.grow h).cell 2, (H6.out.grow h).cell 0, (H6.out.grow h).cell 1⟩
    have HC : Hid (Grows w3 w3) := hidden (Below.refl _ w3)
    clear hr5 hr6 hd5 hd6 hne hv2 hg2 hk2 hr62 hv3 hg3 hk3 HC1 HC2 HX0 HS0 HP0 HB0
    obtain ⟨s0, s1, s2, s3, s4, s5, s6, p0, p1, p2, p3, p4, v0, v1, v2, n0, n1⟩ := HX.out w3 HC.out
    go_wp2_with fail
    clear s0 s1 s2 s3 s4 s5 s6 p0 p1 p2 p3 p4 v0 v1 v2 n0 n1
    refine wp_region_loose (tabRs [(1, ConstV (.bool true))]) (by kernel_rfl) (by kernel_rfl) (tabRs_cons ConstV.lasts tabRs_nil) ?_
    iterate 1 ((with_reducible refine loose_one (v := ?_) (a' := ?_) ?_ ?_ (fun w' hC' hG' => ?_) ?_ ?_); rotate_left 2; (focus rfl); (focus rfl); (focus (obtain ⟨s0, s1, s2, s3, s4, s5, s6, p0, p1, p2, p3, p4, v0, v1, v2, n0, n1⟩ := HX.out w' hC'; clear hC' hG'; go_simp; rfl)); (focus (go_simp; rfl)))
    refine loose_call (R := ConstV (.bool true)) (f := 40) (args := #[.agg #[.int .i64 x.k, .int .i64 x.n, .string x.t]]) (by rfl) (by rfl) (fun _ => by go_simp) (fun w' hC' hG' => HIN.out w') ?_
    rintro _ ⟨_, _, rfl⟩
    refine ⟨?_, ?_, ?_⟩
    rotate_left
    · go_simp
      rfl
    iterate 1 ((with_reducible refine loose_one (v := ?_) (a' := ?_) ?_ ?_ (fun w' hC' hG' => ?_) ?_ ?_); rotate_left 2; (focus rfl); (focus rfl); (focus (obtain ⟨s0, s1, s2, s3, s4, s5, s6, p0, p1, p2, p3, p4, v0, v1, v2, n0, n1⟩ := HX.out w' hC'; clear hC' hG'; go_simp; rfl)); (focus (go_simp; rfl)))
    iterate 5 ((with_reducible refine loose_skip (a' := ?_) ?_ ?_ ?_); rotate_left 1; (focus rfl); (focus (go_simp; rfl)))
    iterate 2 ((with_reducible refine loose_one (v := ?_) (a' := ?_) ?_ ?_ (fun w' hC' hG' => ?_) ?_ ?_); rotate_left 2; (focus rfl); (focus rfl); (focus (obtain ⟨s0, s1, s2, s3, s4, s5, s6, p0, p1, p2, p3, p4, v0, v1, v2, n0, n1⟩ := HX.out w' hC'; clear hC' hG'; go_simp; rfl)); (focus (go_simp; rfl)))
    refine loose_done (fun w4 hC' hG' => ?_)
    have HC := hidden hC'
    clear hC' hG'
    obtain ⟨s0, s1, s2, s3, s4, s5, s6, p0, p1, p2, p3, p4, v0, v1, v2, n0, n1⟩ := HX.out w4 HC.out
    go_wp2_with ((with_reducible refine at_bd rfl _ _ rfl ?_); refine wpList_store_bd rfl _ _ rfl _ rfl (w.heap.size + 1 + 1) rfl 0 0 rfl _ _ (HB3'.out.grow HC.out) ?_; intro W hr hg; have HRR := hidden hr; have HGG := hidden (hg w (HG3.out.of_below HC.out) (by omega)); clear hr hg)
    refine bodyPost_ret (results_bd rfl _ _ _ _ _ rfl HRR.out) rfl ⟨?_, HGG.out⟩
    rw [HO.out]
  | false =>
    obtain ⟨fb, hfb⟩ : ∃ b, (x.k != kk) = b := ⟨_, rfl⟩
    rw [hfb] at HFK
    clear hnb
    cases fb with
    | true =>
      have HO := hidden (show out = (0, 0) by rw [HCP.out, ← HFK.out]; unfold cmP; rw [if_neg h20, if_neg h21, if_pos (by simp)])
      clear h20 h21
      obtain ⟨W0, hW0⟩ : ∃ W, W = (((w.alloc (.cells #[.int .i64 s.rows, .int .i64 s.nulls, .slice A1 L1 c1, .bool s.ok, .slice A2 L2 c2, .slice A3 M c3, .slice A4 RL c4] 29)).alloc (.cells #[.int .i64 col, .int .i64 op, .int .i64 x.k, .int .i64 x.n, .string x.t] 37)).alloc (.cells #[.int .i64 0, .int .i64 0] 40)) := ⟨_, rfl⟩
      have HG0 := hidden (show Grows w W0 by rw [hW0]; exact ((growK _ _).of_below (growK _ _)).of_below (growK _ _))
      have HS0 := hidden (show Row W0 w.heap.size 29 [.int .i64 s.rows, .int .i64 s.nulls, .slice A1 L1 c1, .bool s.ok, .slice A2 L2 c2, .slice A3 M c3, .slice A4 RL c4] by rw [hW0]; exact (skp_rows _ _ _ _ _ _ _ _ _ _ _ _ _ _).1)
      have HP0 := hidden (show Row W0 (w.heap.size + 1) 37 [.int .i64 col, .int .i64 op, .int .i64 x.k, .int .i64 x.n, .string x.t] by rw [hW0]; exact (skp_rows _ _ _ _ _ _ _ _ _ _ _ _ _ _).2)
      have HB0 := hidden (show Row W0 (w.heap.size + 1 + 1) 40 [.int .i64 0, .int .i64 0] by rw [hW0]; exact bdrow_at2 _ _ _ _ _)
      have HX0 : Hid (∀ X, Grows W0 X → X.cell? ⟨w.heap.size, 0, none⟩ = some (.int .i64 s.rows) ∧ X.cell? ⟨w.heap.size, 1, none⟩ = some (.int .i64 s.nulls) ∧ X.cell? ⟨w.heap.size, 2, none⟩ = some (.slice A1 L1 c1) ∧ X.cell? ⟨w.heap.size, 3, none⟩ = some (.bool s.ok) ∧ X.cell? ⟨w.heap.size, 4, none⟩ = some (.slice A2 L2 c2) ∧ X.cell? ⟨w.heap.size, 5, none⟩ = some (.slice A3 M c3) ∧ X.cell? ⟨w.heap.size, 6, none⟩ = some (.slice A4 RL c4) ∧ X.cell? ⟨w.heap.size + 1, 0, none⟩ = some (.int .i64 col) ∧ X.cell? ⟨w.heap.size + 1, 1, none⟩ = some (.int .i64 op) ∧ X.cell? ⟨w.heap.size + 1, 2, none⟩ = some (.int .i64 x.k) ∧ X.cell? ⟨w.heap.size + 1, 3, none⟩ = some (.int .i64 x.n) ∧ X.cell? ⟨w.heap.size + 1, 4, none⟩ = some (.string x.t)) := hidden fun X h => ⟨(HS0.out.grow h).cell 0, (HS0.out.grow h).cell 1, (HS0.out.grow h).cell 2, (HS0.out.grow h).cell 3, (HS0.out.grow h).cell 4, (HS0.out.grow h).cell 5, (HS0.out.grow h).cell 6, (HP0.out.grow h).cell 0, (HP0.out.grow h).cell 1, (HP0.out.grow h).cell 2, (HP0.out.grow h).cell 3, (HP0.out.grow h).cell 4⟩
      have HEN := hidden (fun X => const_loose16 (HEX.out n X))
      go_enter Tryz.func25, Tryz.ntmps25
      go_wp2_with fail
      rw [← hW0]
      clear hW0
      refine wp_region_loose_tail 7 (tabRs [(3, ConstV (.int .i64 n)), (4, ConstV (.agg #[.int .i64 n, .int .i64 n])), (5, NewVl W0.heap.size), (6, NewBd W0.heap.size)]) (by kernel_rfl) (by kernel_rfl) (tabRs_cons ConstV.lasts (tabRs_cons ConstV.lasts (tabRs_cons NewVl.lasts (tabRs_cons NewBd.lasts tabRs_nil)))) ?_
      simp only [List.take_succ_cons, List.take_zero, List.drop_succ_cons, List.drop_zero]
      iterate 3 ((with_reducible refine loose_one (v := ?_) (a' := ?_) ?_ ?_ (fun w' hC' hG' => ?_) ?_ ?_); rotate_left 2; (focus rfl); (focus rfl); (focus (obtain ⟨s0, s1, s2, s3, s4, s5, s6, p0, p1, p2, p3, p4⟩ := HX0.out w' hC'; clear hC' hG'; go_simp; rfl)); (focus (go_simp; rfl)))
      refine loose_call (R := ConstV (.int .i64 n)) (f := 67) (args := #[.agg #[.int .i64 s.rows, .int .i64 s.nulls, .slice A1 L1 c1, .bool s.ok, .slice A2 L2 c2, .slice A3 M c3, .slice A4 RL c4]]) (by rfl) (by rfl) (fun _ => by go_simp) (fun w' hC' hG' => HP.out w') ?_
      rintro _ ⟨_, _, rfl⟩
      refine ⟨?_, ?_, ?_⟩
      rotate_left
      · go_simp
        rfl
      refine loose_call (R := ConstV (.agg #[.int .i64 n, .int .i64 n])) (f := 82) (args := #[.int .i64 n]) (by rfl) (by rfl) (fun _ => by go_simp) (fun w' hC' hG' => HEN.out w') ?_
      rintro _ ⟨_, _, rfl⟩
      refine ⟨?_, ?_, ?_⟩
      rotate_left
      · go_simp
        rfl
      refine loose_new (R := NewVl W0.heap.size) (by rfl) (by rfl) (fun w' hC' hG' => ?_) ?_
      · exact ⟨.pointer (some ⟨w'.heap.size, 0, none⟩), w'.alloc (.cells #[.int .i64 0, .int .i64 0, .string ⟨#[]⟩] 35), by first | rfl | go_simp, (Below.refl _ _).alloc (Nat.le_refl _) _, w'.heap.size, rfl, hC'.size, Row.new w' 35 #[.int .i64 0, .int .i64 0, .string ⟨#[]⟩] [.int .i64 0, .int .i64 0, .string ⟨#[]⟩] rfl⟩
      rintro _ ⟨_, _, c5, rfl, -, -⟩
      refine ⟨?_, ?_, ?_⟩
      rotate_left
      · go_simp
        rfl
      refine loose_new (R := NewBd W0.heap.size) (by rfl) (by rfl) (fun w' hC' hG' => ?_) ?_
      · exact ⟨.pointer (some ⟨w'.heap.size, 0, none⟩), w'.alloc (.cells #[.int .i64 0, .int .i64 0] 40), by first | rfl | go_simp, (Below.refl _ _).alloc (Nat.le_refl _) _, w'.heap.size, rfl, hC'.size, Row.new w' 40 #[.int .i64 0, .int .i64 0] [.int .i64 0, .int .i64 0] rfl⟩
      rintro _ ⟨_, _, c6, rfl, -, -⟩
      refine ⟨?_, ?_, ?_⟩
      rotate_left
      · go_simp
        rfl
      refine loose_done (fun w1 hC' hG' => ?_)
      obtain ⟨d5, he5, hd5, hr5⟩ : NewVl W0.heap.size (.pointer (some ⟨c5, 0, none⟩)) w1 := (hG' 5).1.2 rfl
      obtain ⟨d6, he6, hd6, hr6⟩ : NewBd W0.heap.size (.pointer (some ⟨c6, 0, none⟩)) w1 := (hG' 6).2 rfl
      have e5 : c5 = d5 := by simpa using he5
      have e6 : c6 = d6 := by simpa using he6
      subst e5 e6
      have hne := row_types hr5 hr6 (by decide)
      have HC1 := hidden hC'
      clear hG' hC' he5 he6
      refine wpList_store_vlK rfl _ _ rfl c5 rfl x.k x.n x.t rfl _ _ _ hr5 ?_
      intro w2 hv2 hg2 hk2
      have hr62 := hk2 c6 _ _ (Ne.symm hne) hr6
      have HC2 := hidden (hg2 W0 HC1.out hd5)
      refine wpList_store_bdK rfl _ _ rfl c6 rfl n n rfl _ _ hr62 ?_
      intro w3 hv3 hg3 hk3
      have H5 := hidden (hk3 c5 _ _ hne hv2)
      have H6 := hidden hv3
      have HC3 := hidden (hg3 W0 HC2.out hd6)
      have HG3 := hidden (HG0.out.of_below HC3.out)
      have HB3' := hidden (HB0.out.grow HC3.out)
      have HX : Hid (∀ X, Grows w3 X → X.cell? ⟨w.heap.size, 0, none⟩ = some (.int .i64 s.rows) ∧ X.cell? ⟨w.heap.size, 1, none⟩ = some (.int .i64 s.nulls) ∧ X.cell? ⟨w.heap.size, 2, none⟩ = some (.slice A1 L1 c1) ∧ X.cell? ⟨w.heap.size, 3, none⟩ = some (.bool s.ok) ∧ X.cell? ⟨w.heap.size, 4, none⟩ = some (.slice A2 L2 c2) ∧ X.cell? ⟨w.heap.size, 5, none⟩ = some (.slice A3 M c3) ∧ X.cell? ⟨w.heap.size, 6, none⟩ = some (.slice A4 RL c4) ∧ X.cell? ⟨w.heap.size + 1, 0, none⟩ = some (.int .i64 col) ∧ X.cell? ⟨w.heap.size + 1, 1, none⟩ = some (.int .i64 op) ∧ X.cell? ⟨w.heap.size + 1, 2, none⟩ = some (.int .i64 x.k) ∧ X.cell? ⟨w.heap.size + 1, 3, none⟩ = some (.int .i64 x.n) ∧ X.cell? ⟨w.heap.size + 1, 4, none⟩ = some (.string x.t) ∧ X.cell? ⟨c5, 0, none⟩ = some (.int .i64 x.k) ∧ X.cell? ⟨c5, 1, none⟩ = some (.int .i64 x.n) ∧ X.cell? ⟨c5, 2, none⟩ = some (.string x.t) ∧ X.cell? ⟨c6, 0, none⟩ = some (.int .i64 n) ∧ X.cell? ⟨c6, 1, none⟩ = some (.int .i64 n)) := hidden fun X h => ⟨(HS0.out.grow (HC3.out.of_below h)).cell 0, (HS0.out.grow (HC3.out.of_below h)).cell 1, (HS0.out.grow (HC3.out.of_below h)).cell 2, (HS0.out.grow (HC3.out.of_below h)).cell 3, (HS0.out.grow (HC3.out.of_below h)).cell 4, (HS0.out.grow (HC3.out.of_below h)).cell 5, (HS0.out.grow (HC3.out.of_below h)).cell 6, (HP0.out.grow (HC3.out.of_below h)).cell 0, (HP0.out.grow (HC3.out.of_below h)).cell 1, (HP0.out.grow (HC3.out.of_below h)).cell 2, (HP0.out.grow (HC3.out.of_below h)).cell 3, (HP0.out.grow (HC3.out.of_below h)).cell 4, (H5.out.grow h).cell 0, (H5.out.grow h).cell 1, (H5.out.grow h).cell 2, (H6.out.grow h).cell 0, (H6.out.grow h).cell 1⟩
      have HC : Hid (Grows w3 w3) := hidden (Below.refl _ w3)
      clear hr5 hr6 hd5 hd6 hne hv2 hg2 hk2 hr62 hv3 hg3 hk3 HC1 HC2 HX0 HS0 HP0 HB0
      obtain ⟨s0, s1, s2, s3, s4, s5, s6, p0, p1, p2, p3, p4, v0, v1, v2, n0, n1⟩ := HX.out w3 HC.out
      go_wp2_with fail
      clear s0 s1 s2 s3 s4 s5 s6 p0 p1 p2 p3 p4 v0 v1 v2 n0 n1
      refine wp_region_loose (tabRs [(1, ConstV (.bool false)), (6, ConstV (.int .i64 kk))]) (by kernel_rfl) (by kernel_rfl) (tabRs_cons ConstV.lasts (tabRs_cons ConstV.lasts tabRs_nil)) ?_
      iterate 1 ((with_reducible refine loose_one (v := ?_) (a' := ?_) ?_ ?_ (fun w' hC' hG' => ?_) ?_ ?_); rotate_left 2; (focus rfl); (focus rfl); (focus (obtain ⟨s0, s1, s2, s3, s4, s5, s6, p0, p1, p2, p3, p4, v0, v1, v2, n0, n1⟩ := HX.out w' hC'; clear hC' hG'; go_simp; rfl)); (focus (go_simp; rfl)))
      refine loose_call (R := ConstV (.bool false)) (f := 40) (args := #[.agg #[.int .i64 x.k, .int .i64 x.n, .string x.t]]) (by rfl) (by rfl) (fun _ => by go_simp) (fun w' hC' hG' => HIN.out w') ?_
      rintro _ ⟨_, _, rfl⟩
      refine ⟨?_, ?_, ?_⟩
      rotate_left
      · go_simp
        rfl
      iterate 1 ((with_reducible refine loose_one (v := ?_) (a' := ?_) ?_ ?_ (fun w' hC' hG' => ?_) ?_ ?_); rotate_left 2; (focus rfl); (focus rfl); (focus (obtain ⟨s0, s1, s2, s3, s4, s5, s6, p0, p1, p2, p3, p4, v0, v1, v2, n0, n1⟩ := HX.out w' hC'; clear hC' hG'; go_simp; rfl)); (focus (go_simp; rfl)))
      iterate 3 ((with_reducible refine loose_one (v := ?_) (a' := ?_) ?_ ?_ (fun w' hC' hG' => ?_) ?_ ?_); rotate_left 2; (focus rfl); (focus rfl); (focus (obtain ⟨s0, s1, s2, s3, s4, s5, s6, p0, p1, p2, p3, p4, v0, v1, v2, n0, n1⟩ := HX.out w' hC'; clear hC' hG'; go_simp; rfl)); (focus (go_simp; rfl)))
      refine loose_call (R := ConstV (.int .i64 kk)) (f := 84) (args := #[.agg #[.int .i64 s.rows, .int .i64 s.nulls, .slice A1 L1 c1, .bool s.ok, .slice A2 L2 c2, .slice A3 M c3, .slice A4 RL c4]]) (by rfl) (by rfl) (fun _ => by go_simp) (fun w' hC' hG' => HKD.out w' (HG3.out.of_below hC')) ?_
      rintro _ ⟨_, _, rfl⟩
      refine ⟨?_, ?_, ?_⟩
      rotate_left
      · go_simp
        rfl
      iterate 3 ((with_reducible refine loose_one (v := ?_) (a' := ?_) ?_ ?_ (fun w' hC' hG' => ?_) ?_ ?_); rotate_left 2; (focus rfl); (focus rfl); (focus (obtain ⟨s0, s1, s2, s3, s4, s5, s6, p0, p1, p2, p3, p4, v0, v1, v2, n0, n1⟩ := HX.out w' hC'; clear hC' hG'; go_simp; rfl)); (focus (go_simp; rfl)))
      refine loose_done (fun w4 hC' hG' => ?_)
      have HC := hidden hC'
      clear hC' hG'
      obtain ⟨s0, s1, s2, s3, s4, s5, s6, p0, p1, p2, p3, p4, v0, v1, v2, n0, n1⟩ := HX.out w4 HC.out
      go_wp2_with ((with_reducible refine at_bd rfl _ _ rfl ?_); refine wpList_store_bd rfl _ _ rfl _ rfl (w.heap.size + 1 + 1) rfl 0 0 rfl _ _ (HB3'.out.grow HC.out) ?_; intro W hr hg; have HRR := hidden hr; have HGG := hidden (hg w (HG3.out.of_below HC.out) (by omega)); clear hr hg)
      refine bodyPost_ret (results_bd rfl _ _ _ _ _ rfl HRR.out) rfl ⟨?_, HGG.out⟩
      rw [HO.out]
    | false =>
      have hff : fo = false := HFK.out.symm
      subst hff
      by_cases h1 : op = 1
      · subst h1
        clear d20 d21 h20 h21
        have HO := hidden (show out = (el, eh) from HCP.out)
        obtain ⟨W0, hW0⟩ : ∃ W, W = (((w.alloc (.cells #[.int .i64 s.rows, .int .i64 s.nulls, .slice A1 L1 c1, .bool s.ok, .slice A2 L2 c2, .slice A3 M c3, .slice A4 RL c4] 29)).alloc (.cells #[.int .i64 col, .int .i64 1, .int .i64 x.k, .int .i64 x.n, .string x.t] 37)).alloc (.cells #[.int .i64 0, .int .i64 0] 40)) := ⟨_, rfl⟩
        have HG0 := hidden (show Grows w W0 by rw [hW0]; exact ((growK _ _).of_below (growK _ _)).of_below (growK _ _))
        have HS0 := hidden (show Row W0 w.heap.size 29 [.int .i64 s.rows, .int .i64 s.nulls, .slice A1 L1 c1, .bool s.ok, .slice A2 L2 c2, .slice A3 M c3, .slice A4 RL c4] by rw [hW0]; exact (skp_rows _ _ _ _ _ _ _ _ _ _ _ _ _ _).1)
        have HP0 := hidden (show Row W0 (w.heap.size + 1) 37 [.int .i64 col, .int .i64 1, .int .i64 x.k, .int .i64 x.n, .string x.t] by rw [hW0]; exact (skp_rows _ _ _ _ _ _ _ _ _ _ _ _ _ _).2)
        have HB0 := hidden (show Row W0 (w.heap.size + 1 + 1) 40 [.int .i64 0, .int .i64 0] by rw [hW0]; exact bdrow_at2 _ _ _ _ _)
        have HX0 : Hid (∀ X, Grows W0 X → X.cell? ⟨w.heap.size, 0, none⟩ = some (.int .i64 s.rows) ∧ X.cell? ⟨w.heap.size, 1, none⟩ = some (.int .i64 s.nulls) ∧ X.cell? ⟨w.heap.size, 2, none⟩ = some (.slice A1 L1 c1) ∧ X.cell? ⟨w.heap.size, 3, none⟩ = some (.bool s.ok) ∧ X.cell? ⟨w.heap.size, 4, none⟩ = some (.slice A2 L2 c2) ∧ X.cell? ⟨w.heap.size, 5, none⟩ = some (.slice A3 M c3) ∧ X.cell? ⟨w.heap.size, 6, none⟩ = some (.slice A4 RL c4) ∧ X.cell? ⟨w.heap.size + 1, 0, none⟩ = some (.int .i64 col) ∧ X.cell? ⟨w.heap.size + 1, 1, none⟩ = some (.int .i64 1) ∧ X.cell? ⟨w.heap.size + 1, 2, none⟩ = some (.int .i64 x.k) ∧ X.cell? ⟨w.heap.size + 1, 3, none⟩ = some (.int .i64 x.n) ∧ X.cell? ⟨w.heap.size + 1, 4, none⟩ = some (.string x.t)) := hidden fun X h => ⟨(HS0.out.grow h).cell 0, (HS0.out.grow h).cell 1, (HS0.out.grow h).cell 2, (HS0.out.grow h).cell 3, (HS0.out.grow h).cell 4, (HS0.out.grow h).cell 5, (HS0.out.grow h).cell 6, (HP0.out.grow h).cell 0, (HP0.out.grow h).cell 1, (HP0.out.grow h).cell 2, (HP0.out.grow h).cell 3, (HP0.out.grow h).cell 4⟩
        have HEN := hidden (fun X => const_loose16 (HEX.out n X))
        go_enter Tryz.func25, Tryz.ntmps25
        go_wp2_with fail
        rw [← hW0]
        clear hW0
        refine wp_region_loose_tail 7 (tabRs [(3, ConstV (.int .i64 n)), (4, ConstV (.agg #[.int .i64 n, .int .i64 n])), (5, NewVl W0.heap.size), (6, NewBd W0.heap.size)]) (by kernel_rfl) (by kernel_rfl) (tabRs_cons ConstV.lasts (tabRs_cons ConstV.lasts (tabRs_cons NewVl.lasts (tabRs_cons NewBd.lasts tabRs_nil)))) ?_
        simp only [List.take_succ_cons, List.take_zero, List.drop_succ_cons, List.drop_zero]
        iterate 3 ((with_reducible refine loose_one (v := ?_) (a' := ?_) ?_ ?_ (fun w' hC' hG' => ?_) ?_ ?_); rotate_left 2; (focus rfl); (focus rfl); (focus (obtain ⟨s0, s1, s2, s3, s4, s5, s6, p0, p1, p2, p3, p4⟩ := HX0.out w' hC'; clear hC' hG'; go_simp; rfl)); (focus (go_simp; rfl)))
        refine loose_call (R := ConstV (.int .i64 n)) (f := 67) (args := #[.agg #[.int .i64 s.rows, .int .i64 s.nulls, .slice A1 L1 c1, .bool s.ok, .slice A2 L2 c2, .slice A3 M c3, .slice A4 RL c4]]) (by rfl) (by rfl) (fun _ => by go_simp) (fun w' hC' hG' => HP.out w') ?_
        rintro _ ⟨_, _, rfl⟩
        refine ⟨?_, ?_, ?_⟩
        rotate_left
        · go_simp
          rfl
        refine loose_call (R := ConstV (.agg #[.int .i64 n, .int .i64 n])) (f := 82) (args := #[.int .i64 n]) (by rfl) (by rfl) (fun _ => by go_simp) (fun w' hC' hG' => HEN.out w') ?_
        rintro _ ⟨_, _, rfl⟩
        refine ⟨?_, ?_, ?_⟩
        rotate_left
        · go_simp
          rfl
        refine loose_new (R := NewVl W0.heap.size) (by rfl) (by rfl) (fun w' hC' hG' => ?_) ?_
        · exact ⟨.pointer (some ⟨w'.heap.size, 0, none⟩), w'.alloc (.cells #[.int .i64 0, .int .i64 0, .string ⟨#[]⟩] 35), by first | rfl | go_simp, (Below.refl _ _).alloc (Nat.le_refl _) _, w'.heap.size, rfl, hC'.size, Row.new w' 35 #[.int .i64 0, .int .i64 0, .string ⟨#[]⟩] [.int .i64 0, .int .i64 0, .string ⟨#[]⟩] rfl⟩
        rintro _ ⟨_, _, c5, rfl, -, -⟩
        refine ⟨?_, ?_, ?_⟩
        rotate_left
        · go_simp
          rfl
        refine loose_new (R := NewBd W0.heap.size) (by rfl) (by rfl) (fun w' hC' hG' => ?_) ?_
        · exact ⟨.pointer (some ⟨w'.heap.size, 0, none⟩), w'.alloc (.cells #[.int .i64 0, .int .i64 0] 40), by first | rfl | go_simp, (Below.refl _ _).alloc (Nat.le_refl _) _, w'.heap.size, rfl, hC'.size, Row.new w' 40 #[.int .i64 0, .int .i64 0] [.int .i64 0, .int .i64 0] rfl⟩
        rintro _ ⟨_, _, c6, rfl, -, -⟩
        refine ⟨?_, ?_, ?_⟩
        rotate_left
        · go_simp
          rfl
        refine loose_done (fun w1 hC' hG' => ?_)
        obtain ⟨d5, he5, hd5, hr5⟩ : NewVl W0.heap.size (.pointer (some ⟨c5, 0, none⟩)) w1 := (hG' 5).1.2 rfl
        obtain ⟨d6, he6, hd6, hr6⟩ : NewBd W0.heap.size (.pointer (some ⟨c6, 0, none⟩)) w1 := (hG' 6).2 rfl
        have e5 : c5 = d5 := by simpa using he5
        have e6 : c6 = d6 := by simpa using he6
        subst e5 e6
        have hne := row_types hr5 hr6 (by decide)
        have HC1 := hidden hC'
        clear hG' hC' he5 he6
        refine wpList_store_vlK rfl _ _ rfl c5 rfl x.k x.n x.t rfl _ _ _ hr5 ?_
        intro w2 hv2 hg2 hk2
        have hr62 := hk2 c6 _ _ (Ne.symm hne) hr6
        have HC2 := hidden (hg2 W0 HC1.out hd5)
        refine wpList_store_bdK rfl _ _ rfl c6 rfl n n rfl _ _ hr62 ?_
        intro w3 hv3 hg3 hk3
        have H5 := hidden (hk3 c5 _ _ hne hv2)
        have H6 := hidden hv3
        have HC3 := hidden (hg3 W0 HC2.out hd6)
        have HG3 := hidden (HG0.out.of_below HC3.out)
        have HB3' := hidden (HB0.out.grow HC3.out)
        have HX : Hid (∀ X, Grows w3 X → X.cell? ⟨w.heap.size, 0, none⟩ = some (.int .i64 s.rows) ∧ X.cell? ⟨w.heap.size, 1, none⟩ = some (.int .i64 s.nulls) ∧ X.cell? ⟨w.heap.size, 2, none⟩ = some (.slice A1 L1 c1) ∧ X.cell? ⟨w.heap.size, 3, none⟩ = some (.bool s.ok) ∧ X.cell? ⟨w.heap.size, 4, none⟩ = some (.slice A2 L2 c2) ∧ X.cell? ⟨w.heap.size, 5, none⟩ = some (.slice A3 M c3) ∧ X.cell? ⟨w.heap.size, 6, none⟩ = some (.slice A4 RL c4) ∧ X.cell? ⟨w.heap.size + 1, 0, none⟩ = some (.int .i64 col) ∧ X.cell? ⟨w.heap.size + 1, 1, none⟩ = some (.int .i64 1) ∧ X.cell? ⟨w.heap.size + 1, 2, none⟩ = some (.int .i64 x.k) ∧ X.cell? ⟨w.heap.size + 1, 3, none⟩ = some (.int .i64 x.n) ∧ X.cell? ⟨w.heap.size + 1, 4, none⟩ = some (.string x.t) ∧ X.cell? ⟨c5, 0, none⟩ = some (.int .i64 x.k) ∧ X.cell? ⟨c5, 1, none⟩ = some (.int .i64 x.n) ∧ X.cell? ⟨c5, 2, none⟩ = some (.string x.t) ∧ X.cell? ⟨c6, 0, none⟩ = some (.int .i64 n) ∧ X.cell? ⟨c6, 1, none⟩ = some (.int .i64 n)) := hidden fun X h => ⟨(HS0.out.grow (HC3.out.of_below h)).cell 0, (HS0.out.grow (HC3.out.of_below h)).cell 1, (HS0.out.grow (HC3.out.of_below h)).cell 2, (HS0.out.grow (HC3.out.of_below h)).cell 3, (HS0.out.grow (HC3.out.of_below h)).cell 4, (HS0.out.grow (HC3.out.of_below h)).cell 5, (HS0.out.grow (HC3.out.of_below h)).cell 6, (HP0.out.grow (HC3.out.of_below h)).cell 0, (HP0.out.grow (HC3.out.of_below h)).cell 1, (HP0.out.grow (HC3.out.of_below h)).cell 2, (HP0.out.grow (HC3.out.of_below h)).cell 3, (HP0.out.grow (HC3.out.of_below h)).cell 4, (H5.out.grow h).cell 0, (H5.out.grow h).cell 1, (H5.out.grow h).cell 2, (H6.out.grow h).cell 0, (H6.out.grow h).cell 1⟩
        have HC : Hid (Grows w3 w3) := hidden (Below.refl _ w3)
        clear hr5 hr6 hd5 hd6 hne hv2 hg2 hk2 hr62 hv3 hg3 hk3 HC1 HC2 HX0 HS0 HP0 HB0
        obtain ⟨s0, s1, s2, s3, s4, s5, s6, p0, p1, p2, p3, p4, v0, v1, v2, n0, n1⟩ := HX.out w3 HC.out
        go_wp2_with fail
        clear s0 s1 s2 s3 s4 s5 s6 p0 p1 p2 p3 p4 v0 v1 v2 n0 n1
        refine wp_region_loose (tabRs [(1, ConstV (.bool false)), (6, ConstV (.int .i64 kk))]) (by kernel_rfl) (by kernel_rfl) (tabRs_cons ConstV.lasts (tabRs_cons ConstV.lasts tabRs_nil)) ?_
        iterate 1 ((with_reducible refine loose_one (v := ?_) (a' := ?_) ?_ ?_ (fun w' hC' hG' => ?_) ?_ ?_); rotate_left 2; (focus rfl); (focus rfl); (focus (obtain ⟨s0, s1, s2, s3, s4, s5, s6, p0, p1, p2, p3, p4, v0, v1, v2, n0, n1⟩ := HX.out w' hC'; clear hC' hG'; go_simp; rfl)); (focus (go_simp; rfl)))
        refine loose_call (R := ConstV (.bool false)) (f := 40) (args := #[.agg #[.int .i64 x.k, .int .i64 x.n, .string x.t]]) (by rfl) (by rfl) (fun _ => by go_simp) (fun w' hC' hG' => HIN.out w') ?_
        rintro _ ⟨_, _, rfl⟩
        refine ⟨?_, ?_, ?_⟩
        rotate_left
        · go_simp
          rfl
        iterate 1 ((with_reducible refine loose_one (v := ?_) (a' := ?_) ?_ ?_ (fun w' hC' hG' => ?_) ?_ ?_); rotate_left 2; (focus rfl); (focus rfl); (focus (obtain ⟨s0, s1, s2, s3, s4, s5, s6, p0, p1, p2, p3, p4, v0, v1, v2, n0, n1⟩ := HX.out w' hC'; clear hC' hG'; go_simp; rfl)); (focus (go_simp; rfl)))
        iterate 3 ((with_reducible refine loose_one (v := ?_) (a' := ?_) ?_ ?_ (fun w' hC' hG' => ?_) ?_ ?_); rotate_left 2; (focus rfl); (focus rfl); (focus (obtain ⟨s0, s1, s2, s3, s4, s5, s6, p0, p1, p2, p3, p4, v0, v1, v2, n0, n1⟩ := HX.out w' hC'; clear hC' hG'; go_simp; rfl)); (focus (go_simp; rfl)))
        refine loose_call (R := ConstV (.int .i64 kk)) (f := 84) (args := #[.agg #[.int .i64 s.rows, .int .i64 s.nulls, .slice A1 L1 c1, .bool s.ok, .slice A2 L2 c2, .slice A3 M c3, .slice A4 RL c4]]) (by rfl) (by rfl) (fun _ => by go_simp) (fun w' hC' hG' => HKD.out w' (HG3.out.of_below hC')) ?_
        rintro _ ⟨_, _, rfl⟩
        refine ⟨?_, ?_, ?_⟩
        rotate_left
        · go_simp
          rfl
        iterate 3 ((with_reducible refine loose_one (v := ?_) (a' := ?_) ?_ ?_ (fun w' hC' hG' => ?_) ?_ ?_); rotate_left 2; (focus rfl); (focus rfl); (focus (obtain ⟨s0, s1, s2, s3, s4, s5, s6, p0, p1, p2, p3, p4, v0, v1, v2, n0, n1⟩ := HX.out w' hC'; clear hC' hG'; go_simp; rfl)); (focus (go_simp; rfl)))
        refine loose_done (fun w4 hC' hG' => ?_)
        have HC := hidden hC'
        clear hC' hG'
        obtain ⟨s0, s1, s2, s3, s4, s5, s6, p0, p1, p2, p3, p4, v0, v1, v2, n0, n1⟩ := HX.out w4 HC.out
        go_wp2_with (first | (go_at_call 21; refine (HE.out _ (HG3.out.of_below HC.out)).mono ?_; rintro e w5 ⟨rfl, g1⟩; have HC := hidden (HC.out.of_below g1); clear g1) | ((with_reducible refine at_bd rfl _ _ rfl ?_); refine wpList_store_bd rfl _ _ rfl _ rfl (w.heap.size + 1 + 1) rfl el eh rfl _ _ (HB3'.out.grow HC.out) ?_; intro W hr hg; have HRR := hidden hr; have HGG := hidden (hg w (HG3.out.of_below HC.out) (by omega)); clear hr hg))
        refine bodyPost_ret (results_bd rfl _ _ _ _ _ rfl HRR.out) rfl ⟨?_, HGG.out⟩
        rw [HO.out]
      by_cases h2 : op = 2
      · subst h2
        clear d20 d21 h20 h21
        have HO := hidden (show out = (n - eh, n - el) from HCP.out)
        obtain ⟨W0, hW0⟩ : ∃ W, W = (((w.alloc (.cells #[.int .i64 s.rows, .int .i64 s.nulls, .slice A1 L1 c1, .bool s.ok, .slice A2 L2 c2, .slice A3 M c3, .slice A4 RL c4] 29)).alloc (.cells #[.int .i64 col, .int .i64 2, .int .i64 x.k, .int .i64 x.n, .string x.t] 37)).alloc (.cells #[.int .i64 0, .int .i64 0] 40)) := ⟨_, rfl⟩
        have HG0 := hidden (show Grows w W0 by rw [hW0]; exact ((growK _ _).of_below (growK _ _)).of_below (growK _ _))
        have HS0 := hidden (show Row W0 w.heap.size 29 [.int .i64 s.rows, .int .i64 s.nulls, .slice A1 L1 c1, .bool s.ok, .slice A2 L2 c2, .slice A3 M c3, .slice A4 RL c4] by rw [hW0]; exact (skp_rows _ _ _ _ _ _ _ _ _ _ _ _ _ _).1)
        have HP0 := hidden (show Row W0 (w.heap.size + 1) 37 [.int .i64 col, .int .i64 2, .int .i64 x.k, .int .i64 x.n, .string x.t] by rw [hW0]; exact (skp_rows _ _ _ _ _ _ _ _ _ _ _ _ _ _).2)
        have HB0 := hidden (show Row W0 (w.heap.size + 1 + 1) 40 [.int .i64 0, .int .i64 0] by rw [hW0]; exact bdrow_at2 _ _ _ _ _)
        have HX0 : Hid (∀ X, Grows W0 X → X.cell? ⟨w.heap.size, 0, none⟩ = some (.int .i64 s.rows) ∧ X.cell? ⟨w.heap.size, 1, none⟩ = some (.int .i64 s.nulls) ∧ X.cell? ⟨w.heap.size, 2, none⟩ = some (.slice A1 L1 c1) ∧ X.cell? ⟨w.heap.size, 3, none⟩ = some (.bool s.ok) ∧ X.cell? ⟨w.heap.size, 4, none⟩ = some (.slice A2 L2 c2) ∧ X.cell? ⟨w.heap.size, 5, none⟩ = some (.slice A3 M c3) ∧ X.cell? ⟨w.heap.size, 6, none⟩ = some (.slice A4 RL c4) ∧ X.cell? ⟨w.heap.size + 1, 0, none⟩ = some (.int .i64 col) ∧ X.cell? ⟨w.heap.size + 1, 1, none⟩ = some (.int .i64 2) ∧ X.cell? ⟨w.heap.size + 1, 2, none⟩ = some (.int .i64 x.k) ∧ X.cell? ⟨w.heap.size + 1, 3, none⟩ = some (.int .i64 x.n) ∧ X.cell? ⟨w.heap.size + 1, 4, none⟩ = some (.string x.t)) := hidden fun X h => ⟨(HS0.out.grow h).cell 0, (HS0.out.grow h).cell 1, (HS0.out.grow h).cell 2, (HS0.out.grow h).cell 3, (HS0.out.grow h).cell 4, (HS0.out.grow h).cell 5, (HS0.out.grow h).cell 6, (HP0.out.grow h).cell 0, (HP0.out.grow h).cell 1, (HP0.out.grow h).cell 2, (HP0.out.grow h).cell 3, (HP0.out.grow h).cell 4⟩
        have HEN := hidden (fun X => const_loose16 (HEX.out n X))
        go_enter Tryz.func25, Tryz.ntmps25
        go_wp2_with fail
        rw [← hW0]
        clear hW0
        refine wp_region_loose_tail 7 (tabRs [(3, ConstV (.int .i64 n)), (4, ConstV (.agg #[.int .i64 n, .int .i64 n])), (5, NewVl W0.heap.size), (6, NewBd W0.heap.size)]) (by kernel_rfl) (by kernel_rfl) (tabRs_cons ConstV.lasts (tabRs_cons ConstV.lasts (tabRs_cons NewVl.lasts (tabRs_cons NewBd.lasts tabRs_nil)))) ?_
        simp only [List.take_succ_cons, List.take_zero, List.drop_succ_cons, List.drop_zero]
        iterate 3 ((with_reducible refine loose_one (v := ?_) (a' := ?_) ?_ ?_ (fun w' hC' hG' => ?_) ?_ ?_); rotate_left 2; (focus rfl); (focus rfl); (focus (obtain ⟨s0, s1, s2, s3, s4, s5, s6, p0, p1, p2, p3, p4⟩ := HX0.out w' hC'; clear hC' hG'; go_simp; rfl)); (focus (go_simp; rfl)))
        refine loose_call (R := ConstV (.int .i64 n)) (f := 67) (args := #[.agg #[.int .i64 s.rows, .int .i64 s.nulls, .slice A1 L1 c1, .bool s.ok, .slice A2 L2 c2, .slice A3 M c3, .slice A4 RL c4]]) (by rfl) (by rfl) (fun _ => by go_simp) (fun w' hC' hG' => HP.out w') ?_
        rintro _ ⟨_, _, rfl⟩
        refine ⟨?_, ?_, ?_⟩
        rotate_left
        · go_simp
          rfl
        refine loose_call (R := ConstV (.agg #[.int .i64 n, .int .i64 n])) (f := 82) (args := #[.int .i64 n]) (by rfl) (by rfl) (fun _ => by go_simp) (fun w' hC' hG' => HEN.out w') ?_
        rintro _ ⟨_, _, rfl⟩
        refine ⟨?_, ?_, ?_⟩
        rotate_left
        · go_simp
          rfl
        refine loose_new (R := NewVl W0.heap.size) (by rfl) (by rfl) (fun w' hC' hG' => ?_) ?_
        · exact ⟨.pointer (some ⟨w'.heap.size, 0, none⟩), w'.alloc (.cells #[.int .i64 0, .int .i64 0, .string ⟨#[]⟩] 35), by first | rfl | go_simp, (Below.refl _ _).alloc (Nat.le_refl _) _, w'.heap.size, rfl, hC'.size, Row.new w' 35 #[.int .i64 0, .int .i64 0, .string ⟨#[]⟩] [.int .i64 0, .int .i64 0, .string ⟨#[]⟩] rfl⟩
        rintro _ ⟨_, _, c5, rfl, -, -⟩
        refine ⟨?_, ?_, ?_⟩
        rotate_left
        · go_simp
          rfl
        refine loose_new (R := NewBd W0.heap.size) (by rfl) (by rfl) (fun w' hC' hG' => ?_) ?_
        · exact ⟨.pointer (some ⟨w'.heap.size, 0, none⟩), w'.alloc (.cells #[.int .i64 0, .int .i64 0] 40), by first | rfl | go_simp, (Below.refl _ _).alloc (Nat.le_refl _) _, w'.heap.size, rfl, hC'.size, Row.new w' 40 #[.int .i64 0, .int .i64 0] [.int .i64 0, .int .i64 0] rfl⟩
        rintro _ ⟨_, _, c6, rfl, -, -⟩
        refine ⟨?_, ?_, ?_⟩
        rotate_left
        · go_simp
          rfl
        refine loose_done (fun w1 hC' hG' => ?_)
        obtain ⟨d5, he5, hd5, hr5⟩ : NewVl W0.heap.size (.pointer (some ⟨c5, 0, none⟩)) w1 := (hG' 5).1.2 rfl
        obtain ⟨d6, he6, hd6, hr6⟩ : NewBd W0.heap.size (.pointer (some ⟨c6, 0, none⟩)) w1 := (hG' 6).2 rfl
        have e5 : c5 = d5 := by simpa using he5
        have e6 : c6 = d6 := by simpa using he6
        subst e5 e6
        have hne := row_types hr5 hr6 (by decide)
        have HC1 := hidden hC'
        clear hG' hC' he5 he6
        refine wpList_store_vlK rfl _ _ rfl c5 rfl x.k x.n x.t rfl _ _ _ hr5 ?_
        intro w2 hv2 hg2 hk2
        have hr62 := hk2 c6 _ _ (Ne.symm hne) hr6
        have HC2 := hidden (hg2 W0 HC1.out hd5)
        refine wpList_store_bdK rfl _ _ rfl c6 rfl n n rfl _ _ hr62 ?_
        intro w3 hv3 hg3 hk3
        have H5 := hidden (hk3 c5 _ _ hne hv2)
        have H6 := hidden hv3
        have HC3 := hidden (hg3 W0 HC2.out hd6)
        have HG3 := hidden (HG0.out.of_below HC3.out)
        have HB3' := hidden (HB0.out.grow HC3.out)
        have HX : Hid (∀ X, Grows w3 X → X.cell? ⟨w.heap.size, 0, none⟩ = some (.int .i64 s.rows) ∧ X.cell? ⟨w.heap.size, 1, none⟩ = some (.int .i64 s.nulls) ∧ X.cell? ⟨w.heap.size, 2, none⟩ = some (.slice A1 L1 c1) ∧ X.cell? ⟨w.heap.size, 3, none⟩ = some (.bool s.ok) ∧ X.cell? ⟨w.heap.size, 4, none⟩ = some (.slice A2 L2 c2) ∧ X.cell? ⟨w.heap.size, 5, none⟩ = some (.slice A3 M c3) ∧ X.cell? ⟨w.heap.size, 6, none⟩ = some (.slice A4 RL c4) ∧ X.cell? ⟨w.heap.size + 1, 0, none⟩ = some (.int .i64 col) ∧ X.cell? ⟨w.heap.size + 1, 1, none⟩ = some (.int .i64 2) ∧ X.cell? ⟨w.heap.size + 1, 2, none⟩ = some (.int .i64 x.k) ∧ X.cell? ⟨w.heap.size + 1, 3, none⟩ = some (.int .i64 x.n) ∧ X.cell? ⟨w.heap.size + 1, 4, none⟩ = some (.string x.t) ∧ X.cell? ⟨c5, 0, none⟩ = some (.int .i64 x.k) ∧ X.cell? ⟨c5, 1, none⟩ = some (.int .i64 x.n) ∧ X.cell? ⟨c5, 2, none⟩ = some (.string x.t) ∧ X.cell? ⟨c6, 0, none⟩ = some (.int .i64 n) ∧ X.cell? ⟨c6, 1, none⟩ = some (.int .i64 n)) := hidden fun X h => ⟨(HS0.out.grow (HC3.out.of_below h)).cell 0, (HS0.out.grow (HC3.out.of_below h)).cell 1, (HS0.out.grow (HC3.out.of_below h)).cell 2, (HS0.out.grow (HC3.out.of_below h)).cell 3, (HS0.out.grow (HC3.out.of_below h)).cell 4, (HS0.out.grow (HC3.out.of_below h)).cell 5, (HS0.out.grow (HC3.out.of_below h)).cell 6, (HP0.out.grow (HC3.out.of_below h)).cell 0, (HP0.out.grow (HC3.out.of_below h)).cell 1, (HP0.out.grow (HC3.out.of_below h)).cell 2, (HP0.out.grow (HC3.out.of_below h)).cell 3, (HP0.out.grow (HC3.out.of_below h)).cell 4, (H5.out.grow h).cell 0, (H5.out.grow h).cell 1, (H5.out.grow h).cell 2, (H6.out.grow h).cell 0, (H6.out.grow h).cell 1⟩
        have HC : Hid (Grows w3 w3) := hidden (Below.refl _ w3)
        clear hr5 hr6 hd5 hd6 hne hv2 hg2 hk2 hr62 hv3 hg3 hk3 HC1 HC2 HX0 HS0 HP0 HB0
        obtain ⟨s0, s1, s2, s3, s4, s5, s6, p0, p1, p2, p3, p4, v0, v1, v2, n0, n1⟩ := HX.out w3 HC.out
        go_wp2_with fail
        clear s0 s1 s2 s3 s4 s5 s6 p0 p1 p2 p3 p4 v0 v1 v2 n0 n1
        refine wp_region_loose (tabRs [(1, ConstV (.bool false)), (6, ConstV (.int .i64 kk))]) (by kernel_rfl) (by kernel_rfl) (tabRs_cons ConstV.lasts (tabRs_cons ConstV.lasts tabRs_nil)) ?_
        iterate 1 ((with_reducible refine loose_one (v := ?_) (a' := ?_) ?_ ?_ (fun w' hC' hG' => ?_) ?_ ?_); rotate_left 2; (focus rfl); (focus rfl); (focus (obtain ⟨s0, s1, s2, s3, s4, s5, s6, p0, p1, p2, p3, p4, v0, v1, v2, n0, n1⟩ := HX.out w' hC'; clear hC' hG'; go_simp; rfl)); (focus (go_simp; rfl)))
        refine loose_call (R := ConstV (.bool false)) (f := 40) (args := #[.agg #[.int .i64 x.k, .int .i64 x.n, .string x.t]]) (by rfl) (by rfl) (fun _ => by go_simp) (fun w' hC' hG' => HIN.out w') ?_
        rintro _ ⟨_, _, rfl⟩
        refine ⟨?_, ?_, ?_⟩
        rotate_left
        · go_simp
          rfl
        iterate 1 ((with_reducible refine loose_one (v := ?_) (a' := ?_) ?_ ?_ (fun w' hC' hG' => ?_) ?_ ?_); rotate_left 2; (focus rfl); (focus rfl); (focus (obtain ⟨s0, s1, s2, s3, s4, s5, s6, p0, p1, p2, p3, p4, v0, v1, v2, n0, n1⟩ := HX.out w' hC'; clear hC' hG'; go_simp; rfl)); (focus (go_simp; rfl)))
        iterate 3 ((with_reducible refine loose_one (v := ?_) (a' := ?_) ?_ ?_ (fun w' hC' hG' => ?_) ?_ ?_); rotate_left 2; (focus rfl); (focus rfl); (focus (obtain ⟨s0, s1, s2, s3, s4, s5, s6, p0, p1, p2, p3, p4, v0, v1, v2, n0, n1⟩ := HX.out w' hC'; clear hC' hG'; go_simp; rfl)); (focus (go_simp; rfl)))
        refine loose_call (R := ConstV (.int .i64 kk)) (f := 84) (args := #[.agg #[.int .i64 s.rows, .int .i64 s.nulls, .slice A1 L1 c1, .bool s.ok, .slice A2 L2 c2, .slice A3 M c3, .slice A4 RL c4]]) (by rfl) (by rfl) (fun _ => by go_simp) (fun w' hC' hG' => HKD.out w' (HG3.out.of_below hC')) ?_
        rintro _ ⟨_, _, rfl⟩
        refine ⟨?_, ?_, ?_⟩
        rotate_left
        · go_simp
          rfl
        iterate 3 ((with_reducible refine loose_one (v := ?_) (a' := ?_) ?_ ?_ (fun w' hC' hG' => ?_) ?_ ?_); rotate_left 2; (focus rfl); (focus rfl); (focus (obtain ⟨s0, s1, s2, s3, s4, s5, s6, p0, p1, p2, p3, p4, v0, v1, v2, n0, n1⟩ := HX.out w' hC'; clear hC' hG'; go_simp; rfl)); (focus (go_simp; rfl)))
        refine loose_done (fun w4 hC' hG' => ?_)
        have HC := hidden hC'
        clear hC' hG'
        obtain ⟨s0, s1, s2, s3, s4, s5, s6, p0, p1, p2, p3, p4, v0, v1, v2, n0, n1⟩ := HX.out w4 HC.out
        go_wp2_with (first | (go_at_call 21; refine (HE.out _ (HG3.out.of_below HC.out)).mono ?_; rintro e w5 ⟨rfl, g1⟩; have HC := hidden (HC.out.of_below g1); clear g1) | (go_at_call 83; refine (HOT.out c6 n el eh _ (H6.out.grow HC.out) (by have := HN0.out; have := HB2.out; omega) (by have := HN0.out; have := HB1.out; omega)).mono ?_; rintro e w6 ⟨rfl, g1⟩; have HC := hidden (HC.out.of_below g1); clear g1) | ((with_reducible refine at_bd rfl _ _ rfl ?_); refine wpList_store_bd rfl _ _ rfl _ rfl (w.heap.size + 1 + 1) rfl (n - eh) (n - el) rfl _ _ (HB3'.out.grow HC.out) ?_; intro W hr hg; have HRR := hidden hr; have HGG := hidden (hg w (HG3.out.of_below HC.out) (by omega)); clear hr hg))
        refine bodyPost_ret (results_bd rfl _ _ _ _ _ rfl HRR.out) rfl ⟨?_, HGG.out⟩
        rw [HO.out]
      by_cases h3 : op = 3
      · subst h3
        clear d20 d21 h20 h21
        have HO := hidden (show out = (ll, lh) from HCP.out)
        obtain ⟨W0, hW0⟩ : ∃ W, W = (((w.alloc (.cells #[.int .i64 s.rows, .int .i64 s.nulls, .slice A1 L1 c1, .bool s.ok, .slice A2 L2 c2, .slice A3 M c3, .slice A4 RL c4] 29)).alloc (.cells #[.int .i64 col, .int .i64 3, .int .i64 x.k, .int .i64 x.n, .string x.t] 37)).alloc (.cells #[.int .i64 0, .int .i64 0] 40)) := ⟨_, rfl⟩
        have HG0 := hidden (show Grows w W0 by rw [hW0]; exact ((growK _ _).of_below (growK _ _)).of_below (growK _ _))
        have HS0 := hidden (show Row W0 w.heap.size 29 [.int .i64 s.rows, .int .i64 s.nulls, .slice A1 L1 c1, .bool s.ok, .slice A2 L2 c2, .slice A3 M c3, .slice A4 RL c4] by rw [hW0]; exact (skp_rows _ _ _ _ _ _ _ _ _ _ _ _ _ _).1)
        have HP0 := hidden (show Row W0 (w.heap.size + 1) 37 [.int .i64 col, .int .i64 3, .int .i64 x.k, .int .i64 x.n, .string x.t] by rw [hW0]; exact (skp_rows _ _ _ _ _ _ _ _ _ _ _ _ _ _).2)
        have HB0 := hidden (show Row W0 (w.heap.size + 1 + 1) 40 [.int .i64 0, .int .i64 0] by rw [hW0]; exact bdrow_at2 _ _ _ _ _)
        have HX0 : Hid (∀ X, Grows W0 X → X.cell? ⟨w.heap.size, 0, none⟩ = some (.int .i64 s.rows) ∧ X.cell? ⟨w.heap.size, 1, none⟩ = some (.int .i64 s.nulls) ∧ X.cell? ⟨w.heap.size, 2, none⟩ = some (.slice A1 L1 c1) ∧ X.cell? ⟨w.heap.size, 3, none⟩ = some (.bool s.ok) ∧ X.cell? ⟨w.heap.size, 4, none⟩ = some (.slice A2 L2 c2) ∧ X.cell? ⟨w.heap.size, 5, none⟩ = some (.slice A3 M c3) ∧ X.cell? ⟨w.heap.size, 6, none⟩ = some (.slice A4 RL c4) ∧ X.cell? ⟨w.heap.size + 1, 0, none⟩ = some (.int .i64 col) ∧ X.cell? ⟨w.heap.size + 1, 1, none⟩ = some (.int .i64 3) ∧ X.cell? ⟨w.heap.size + 1, 2, none⟩ = some (.int .i64 x.k) ∧ X.cell? ⟨w.heap.size + 1, 3, none⟩ = some (.int .i64 x.n) ∧ X.cell? ⟨w.heap.size + 1, 4, none⟩ = some (.string x.t)) := hidden fun X h => ⟨(HS0.out.grow h).cell 0, (HS0.out.grow h).cell 1, (HS0.out.grow h).cell 2, (HS0.out.grow h).cell 3, (HS0.out.grow h).cell 4, (HS0.out.grow h).cell 5, (HS0.out.grow h).cell 6, (HP0.out.grow h).cell 0, (HP0.out.grow h).cell 1, (HP0.out.grow h).cell 2, (HP0.out.grow h).cell 3, (HP0.out.grow h).cell 4⟩
        have HEN := hidden (fun X => const_loose16 (HEX.out n X))
        go_enter Tryz.func25, Tryz.ntmps25
        go_wp2_with fail
        rw [← hW0]
        clear hW0
        refine wp_region_loose_tail 7 (tabRs [(3, ConstV (.int .i64 n)), (4, ConstV (.agg #[.int .i64 n, .int .i64 n])), (5, NewVl W0.heap.size), (6, NewBd W0.heap.size)]) (by kernel_rfl) (by kernel_rfl) (tabRs_cons ConstV.lasts (tabRs_cons ConstV.lasts (tabRs_cons NewVl.lasts (tabRs_cons NewBd.lasts tabRs_nil)))) ?_
        simp only [List.take_succ_cons, List.take_zero, List.drop_succ_cons, List.drop_zero]
        iterate 3 ((with_reducible refine loose_one (v := ?_) (a' := ?_) ?_ ?_ (fun w' hC' hG' => ?_) ?_ ?_); rotate_left 2; (focus rfl); (focus rfl); (focus (obtain ⟨s0, s1, s2, s3, s4, s5, s6, p0, p1, p2, p3, p4⟩ := HX0.out w' hC'; clear hC' hG'; go_simp; rfl)); (focus (go_simp; rfl)))
        refine loose_call (R := ConstV (.int .i64 n)) (f := 67) (args := #[.agg #[.int .i64 s.rows, .int .i64 s.nulls, .slice A1 L1 c1, .bool s.ok, .slice A2 L2 c2, .slice A3 M c3, .slice A4 RL c4]]) (by rfl) (by rfl) (fun _ => by go_simp) (fun w' hC' hG' => HP.out w') ?_
        rintro _ ⟨_, _, rfl⟩
        refine ⟨?_, ?_, ?_⟩
        rotate_left
        · go_simp
          rfl
        refine loose_call (R := ConstV (.agg #[.int .i64 n, .int .i64 n])) (f := 82) (args := #[.int .i64 n]) (by rfl) (by rfl) (fun _ => by go_simp) (fun w' hC' hG' => HEN.out w') ?_
        rintro _ ⟨_, _, rfl⟩
        refine ⟨?_, ?_, ?_⟩
        rotate_left
        · go_simp
          rfl
        refine loose_new (R := NewVl W0.heap.size) (by rfl) (by rfl) (fun w' hC' hG' => ?_) ?_
        · exact ⟨.pointer (some ⟨w'.heap.size, 0, none⟩), w'.alloc (.cells #[.int .i64 0, .int .i64 0, .string ⟨#[]⟩] 35), by first | rfl | go_simp, (Below.refl _ _).alloc (Nat.le_refl _) _, w'.heap.size, rfl, hC'.size, Row.new w' 35 #[.int .i64 0, .int .i64 0, .string ⟨#[]⟩] [.int .i64 0, .int .i64 0, .string ⟨#[]⟩] rfl⟩
        rintro _ ⟨_, _, c5, rfl, -, -⟩
        refine ⟨?_, ?_, ?_⟩
        rotate_left
        · go_simp
          rfl
        refine loose_new (R := NewBd W0.heap.size) (by rfl) (by rfl) (fun w' hC' hG' => ?_) ?_
        · exact ⟨.pointer (some ⟨w'.heap.size, 0, none⟩), w'.alloc (.cells #[.int .i64 0, .int .i64 0] 40), by first | rfl | go_simp, (Below.refl _ _).alloc (Nat.le_refl _) _, w'.heap.size, rfl, hC'.size, Row.new w' 40 #[.int .i64 0, .int .i64 0] [.int .i64 0, .int .i64 0] rfl⟩
        rintro _ ⟨_, _, c6, rfl, -, -⟩
        refine ⟨?_, ?_, ?_⟩
        rotate_left
        · go_simp
          rfl
        refine loose_done (fun w1 hC' hG' => ?_)
        obtain ⟨d5, he5, hd5, hr5⟩ : NewVl W0.heap.size (.pointer (some ⟨c5, 0, none⟩)) w1 := (hG' 5).1.2 rfl
        obtain ⟨d6, he6, hd6, hr6⟩ : NewBd W0.heap.size (.pointer (some ⟨c6, 0, none⟩)) w1 := (hG' 6).2 rfl
        have e5 : c5 = d5 := by simpa using he5
        have e6 : c6 = d6 := by simpa using he6
        subst e5 e6
        have hne := row_types hr5 hr6 (by decide)
        have HC1 := hidden hC'
        clear hG' hC' he5 he6
        refine wpList_store_vlK rfl _ _ rfl c5 rfl x.k x.n x.t rfl _ _ _ hr5 ?_
        intro w2 hv2 hg2 hk2
        have hr62 := hk2 c6 _ _ (Ne.symm hne) hr6
        have HC2 := hidden (hg2 W0 HC1.out hd5)
        refine wpList_store_bdK rfl _ _ rfl c6 rfl n n rfl _ _ hr62 ?_
        intro w3 hv3 hg3 hk3
        have H5 := hidden (hk3 c5 _ _ hne hv2)
        have H6 := hidden hv3
        have HC3 := hidden (hg3 W0 HC2.out hd6)
        have HG3 := hidden (HG0.out.of_below HC3.out)
        have HB3' := hidden (HB0.out.grow HC3.out)
        have HX : Hid (∀ X, Grows w3 X → X.cell? ⟨w.heap.size, 0, none⟩ = some (.int .i64 s.rows) ∧ X.cell? ⟨w.heap.size, 1, none⟩ = some (.int .i64 s.nulls) ∧ X.cell? ⟨w.heap.size, 2, none⟩ = some (.slice A1 L1 c1) ∧ X.cell? ⟨w.heap.size, 3, none⟩ = some (.bool s.ok) ∧ X.cell? ⟨w.heap.size, 4, none⟩ = some (.slice A2 L2 c2) ∧ X.cell? ⟨w.heap.size, 5, none⟩ = some (.slice A3 M c3) ∧ X.cell? ⟨w.heap.size, 6, none⟩ = some (.slice A4 RL c4) ∧ X.cell? ⟨w.heap.size + 1, 0, none⟩ = some (.int .i64 col) ∧ X.cell? ⟨w.heap.size + 1, 1, none⟩ = some (.int .i64 3) ∧ X.cell? ⟨w.heap.size + 1, 2, none⟩ = some (.int .i64 x.k) ∧ X.cell? ⟨w.heap.size + 1, 3, none⟩ = some (.int .i64 x.n) ∧ X.cell? ⟨w.heap.size + 1, 4, none⟩ = some (.string x.t) ∧ X.cell? ⟨c5, 0, none⟩ = some (.int .i64 x.k) ∧ X.cell? ⟨c5, 1, none⟩ = some (.int .i64 x.n) ∧ X.cell? ⟨c5, 2, none⟩ = some (.string x.t) ∧ X.cell? ⟨c6, 0, none⟩ = some (.int .i64 n) ∧ X.cell? ⟨c6, 1, none⟩ = some (.int .i64 n)) := hidden fun X h => ⟨(HS0.out.grow (HC3.out.of_below h)).cell 0, (HS0.out.grow (HC3.out.of_below h)).cell 1, (HS0.out.grow (HC3.out.of_below h)).cell 2, (HS0.out.grow (HC3.out.of_below h)).cell 3, (HS0.out.grow (HC3.out.of_below h)).cell 4, (HS0.out.grow (HC3.out.of_below h)).cell 5, (HS0.out.grow (HC3.out.of_below h)).cell 6, (HP0.out.grow (HC3.out.of_below h)).cell 0, (HP0.out.grow (HC3.out.of_below h)).cell 1, (HP0.out.grow (HC3.out.of_below h)).cell 2, (HP0.out.grow (HC3.out.of_below h)).cell 3, (HP0.out.grow (HC3.out.of_below h)).cell 4, (H5.out.grow h).cell 0, (H5.out.grow h).cell 1, (H5.out.grow h).cell 2, (H6.out.grow h).cell 0, (H6.out.grow h).cell 1⟩
        have HC : Hid (Grows w3 w3) := hidden (Below.refl _ w3)
        clear hr5 hr6 hd5 hd6 hne hv2 hg2 hk2 hr62 hv3 hg3 hk3 HC1 HC2 HX0 HS0 HP0 HB0
        obtain ⟨s0, s1, s2, s3, s4, s5, s6, p0, p1, p2, p3, p4, v0, v1, v2, n0, n1⟩ := HX.out w3 HC.out
        go_wp2_with fail
        clear s0 s1 s2 s3 s4 s5 s6 p0 p1 p2 p3 p4 v0 v1 v2 n0 n1
        refine wp_region_loose (tabRs [(1, ConstV (.bool false)), (6, ConstV (.int .i64 kk))]) (by kernel_rfl) (by kernel_rfl) (tabRs_cons ConstV.lasts (tabRs_cons ConstV.lasts tabRs_nil)) ?_
        iterate 1 ((with_reducible refine loose_one (v := ?_) (a' := ?_) ?_ ?_ (fun w' hC' hG' => ?_) ?_ ?_); rotate_left 2; (focus rfl); (focus rfl); (focus (obtain ⟨s0, s1, s2, s3, s4, s5, s6, p0, p1, p2, p3, p4, v0, v1, v2, n0, n1⟩ := HX.out w' hC'; clear hC' hG'; go_simp; rfl)); (focus (go_simp; rfl)))
        refine loose_call (R := ConstV (.bool false)) (f := 40) (args := #[.agg #[.int .i64 x.k, .int .i64 x.n, .string x.t]]) (by rfl) (by rfl) (fun _ => by go_simp) (fun w' hC' hG' => HIN.out w') ?_
        rintro _ ⟨_, _, rfl⟩
        refine ⟨?_, ?_, ?_⟩
        rotate_left
        · go_simp
          rfl
        iterate 1 ((with_reducible refine loose_one (v := ?_) (a' := ?_) ?_ ?_ (fun w' hC' hG' => ?_) ?_ ?_); rotate_left 2; (focus rfl); (focus rfl); (focus (obtain ⟨s0, s1, s2, s3, s4, s5, s6, p0, p1, p2, p3, p4, v0, v1, v2, n0, n1⟩ := HX.out w' hC'; clear hC' hG'; go_simp; rfl)); (focus (go_simp; rfl)))
        iterate 3 ((with_reducible refine loose_one (v := ?_) (a' := ?_) ?_ ?_ (fun w' hC' hG' => ?_) ?_ ?_); rotate_left 2; (focus rfl); (focus rfl); (focus (obtain ⟨s0, s1, s2, s3, s4, s5, s6, p0, p1, p2, p3, p4, v0, v1, v2, n0, n1⟩ := HX.out w' hC'; clear hC' hG'; go_simp; rfl)); (focus (go_simp; rfl)))
        refine loose_call (R := ConstV (.int .i64 kk)) (f := 84) (args := #[.agg #[.int .i64 s.rows, .int .i64 s.nulls, .slice A1 L1 c1, .bool s.ok, .slice A2 L2 c2, .slice A3 M c3, .slice A4 RL c4]]) (by rfl) (by rfl) (fun _ => by go_simp) (fun w' hC' hG' => HKD.out w' (HG3.out.of_below hC')) ?_
        rintro _ ⟨_, _, rfl⟩
        refine ⟨?_, ?_, ?_⟩
        rotate_left
        · go_simp
          rfl
        iterate 3 ((with_reducible refine loose_one (v := ?_) (a' := ?_) ?_ ?_ (fun w' hC' hG' => ?_) ?_ ?_); rotate_left 2; (focus rfl); (focus rfl); (focus (obtain ⟨s0, s1, s2, s3, s4, s5, s6, p0, p1, p2, p3, p4, v0, v1, v2, n0, n1⟩ := HX.out w' hC'; clear hC' hG'; go_simp; rfl)); (focus (go_simp; rfl)))
        refine loose_done (fun w4 hC' hG' => ?_)
        have HC := hidden hC'
        clear hC' hG'
        obtain ⟨s0, s1, s2, s3, s4, s5, s6, p0, p1, p2, p3, p4, v0, v1, v2, n0, n1⟩ := HX.out w4 HC.out
        go_wp2_with (first | (go_at_call 23; refine (HL.out _ (HG3.out.of_below HC.out)).mono ?_; rintro e w5 ⟨rfl, g1⟩; have HC := hidden (HC.out.of_below g1); clear g1) | ((with_reducible refine at_bd rfl _ _ rfl ?_); refine wpList_store_bd rfl _ _ rfl _ rfl (w.heap.size + 1 + 1) rfl ll lh rfl _ _ (HB3'.out.grow HC.out) ?_; intro W hr hg; have HRR := hidden hr; have HGG := hidden (hg w (HG3.out.of_below HC.out) (by omega)); clear hr hg))
        refine bodyPost_ret (results_bd rfl _ _ _ _ _ rfl HRR.out) rfl ⟨?_, HGG.out⟩
        rw [HO.out]
      by_cases h4 : op = 4
      · subst h4
        clear d20 d21 h20 h21
        have HO := hidden (show out = (al, ah) from HCP.out)
        obtain ⟨W0, hW0⟩ : ∃ W, W = (((w.alloc (.cells #[.int .i64 s.rows, .int .i64 s.nulls, .slice A1 L1 c1, .bool s.ok, .slice A2 L2 c2, .slice A3 M c3, .slice A4 RL c4] 29)).alloc (.cells #[.int .i64 col, .int .i64 4, .int .i64 x.k, .int .i64 x.n, .string x.t] 37)).alloc (.cells #[.int .i64 0, .int .i64 0] 40)) := ⟨_, rfl⟩
        have HG0 := hidden (show Grows w W0 by rw [hW0]; exact ((growK _ _).of_below (growK _ _)).of_below (growK _ _))
        have HS0 := hidden (show Row W0 w.heap.size 29 [.int .i64 s.rows, .int .i64 s.nulls, .slice A1 L1 c1, .bool s.ok, .slice A2 L2 c2, .slice A3 M c3, .slice A4 RL c4] by rw [hW0]; exact (skp_rows _ _ _ _ _ _ _ _ _ _ _ _ _ _).1)
        have HP0 := hidden (show Row W0 (w.heap.size + 1) 37 [.int .i64 col, .int .i64 4, .int .i64 x.k, .int .i64 x.n, .string x.t] by rw [hW0]; exact (skp_rows _ _ _ _ _ _ _ _ _ _ _ _ _ _).2)
        have HB0 := hidden (show Row W0 (w.heap.size + 1 + 1) 40 [.int .i64 0, .int .i64 0] by rw [hW0]; exact bdrow_at2 _ _ _ _ _)
        have HX0 : Hid (∀ X, Grows W0 X → X.cell? ⟨w.heap.size, 0, none⟩ = some (.int .i64 s.rows) ∧ X.cell? ⟨w.heap.size, 1, none⟩ = some (.int .i64 s.nulls) ∧ X.cell? ⟨w.heap.size, 2, none⟩ = some (.slice A1 L1 c1) ∧ X.cell? ⟨w.heap.size, 3, none⟩ = some (.bool s.ok) ∧ X.cell? ⟨w.heap.size, 4, none⟩ = some (.slice A2 L2 c2) ∧ X.cell? ⟨w.heap.size, 5, none⟩ = some (.slice A3 M c3) ∧ X.cell? ⟨w.heap.size, 6, none⟩ = some (.slice A4 RL c4) ∧ X.cell? ⟨w.heap.size + 1, 0, none⟩ = some (.int .i64 col) ∧ X.cell? ⟨w.heap.size + 1, 1, none⟩ = some (.int .i64 4) ∧ X.cell? ⟨w.heap.size + 1, 2, none⟩ = some (.int .i64 x.k) ∧ X.cell? ⟨w.heap.size + 1, 3, none⟩ = some (.int .i64 x.n) ∧ X.cell? ⟨w.heap.size + 1, 4, none⟩ = some (.string x.t)) := hidden fun X h => ⟨(HS0.out.grow h).cell 0, (HS0.out.grow h).cell 1, (HS0.out.grow h).cell 2, (HS0.out.grow h).cell 3, (HS0.out.grow h).cell 4, (HS0.out.grow h).cell 5, (HS0.out.grow h).cell 6, (HP0.out.grow h).cell 0, (HP0.out.grow h).cell 1, (HP0.out.grow h).cell 2, (HP0.out.grow h).cell 3, (HP0.out.grow h).cell 4⟩
        have HEN := hidden (fun X => const_loose16 (HEX.out n X))
        go_enter Tryz.func25, Tryz.ntmps25
        go_wp2_with fail
        rw [← hW0]
        clear hW0
        refine wp_region_loose_tail 7 (tabRs [(3, ConstV (.int .i64 n)), (4, ConstV (.agg #[.int .i64 n, .int .i64 n])), (5, NewVl W0.heap.size), (6, NewBd W0.heap.size)]) (by kernel_rfl) (by kernel_rfl) (tabRs_cons ConstV.lasts (tabRs_cons ConstV.lasts (tabRs_cons NewVl.lasts (tabRs_cons NewBd.lasts tabRs_nil)))) ?_
        simp only [List.take_succ_cons, List.take_zero, List.drop_succ_cons, List.drop_zero]
        iterate 3 ((with_reducible refine loose_one (v := ?_) (a' := ?_) ?_ ?_ (fun w' hC' hG' => ?_) ?_ ?_); rotate_left 2; (focus rfl); (focus rfl); (focus (obtain ⟨s0, s1, s2, s3, s4, s5, s6, p0, p1, p2, p3, p4⟩ := HX0.out w' hC'; clear hC' hG'; go_simp; rfl)); (focus (go_simp; rfl)))
        refine loose_call (R := ConstV (.int .i64 n)) (f := 67) (args := #[.agg #[.int .i64 s.rows, .int .i64 s.nulls, .slice A1 L1 c1, .bool s.ok, .slice A2 L2 c2, .slice A3 M c3, .slice A4 RL c4]]) (by rfl) (by rfl) (fun _ => by go_simp) (fun w' hC' hG' => HP.out w') ?_
        rintro _ ⟨_, _, rfl⟩
        refine ⟨?_, ?_, ?_⟩
        rotate_left
        · go_simp
          rfl
        refine loose_call (R := ConstV (.agg #[.int .i64 n, .int .i64 n])) (f := 82) (args := #[.int .i64 n]) (by rfl) (by rfl) (fun _ => by go_simp) (fun w' hC' hG' => HEN.out w') ?_
        rintro _ ⟨_, _, rfl⟩
        refine ⟨?_, ?_, ?_⟩
        rotate_left
        · go_simp
          rfl
        refine loose_new (R := NewVl W0.heap.size) (by rfl) (by rfl) (fun w' hC' hG' => ?_) ?_
        · exact ⟨.pointer (some ⟨w'.heap.size, 0, none⟩), w'.alloc (.cells #[.int .i64 0, .int .i64 0, .string ⟨#[]⟩] 35), by first | rfl | go_simp, (Below.refl _ _).alloc (Nat.le_refl _) _, w'.heap.size, rfl, hC'.size, Row.new w' 35 #[.int .i64 0, .int .i64 0, .string ⟨#[]⟩] [.int .i64 0, .int .i64 0, .string ⟨#[]⟩] rfl⟩
        rintro _ ⟨_, _, c5, rfl, -, -⟩
        refine ⟨?_, ?_, ?_⟩
        rotate_left
        · go_simp
          rfl
        refine loose_new (R := NewBd W0.heap.size) (by rfl) (by rfl) (fun w' hC' hG' => ?_) ?_
        · exact ⟨.pointer (some ⟨w'.heap.size, 0, none⟩), w'.alloc (.cells #[.int .i64 0, .int .i64 0] 40), by first | rfl | go_simp, (Below.refl _ _).alloc (Nat.le_refl _) _, w'.heap.size, rfl, hC'.size, Row.new w' 40 #[.int .i64 0, .int .i64 0] [.int .i64 0, .int .i64 0] rfl⟩
        rintro _ ⟨_, _, c6, rfl, -, -⟩
        refine ⟨?_, ?_, ?_⟩
        rotate_left
        · go_simp
          rfl
        refine loose_done (fun w1 hC' hG' => ?_)
        obtain ⟨d5, he5, hd5, hr5⟩ : NewVl W0.heap.size (.pointer (some ⟨c5, 0, none⟩)) w1 := (hG' 5).1.2 rfl
        obtain ⟨d6, he6, hd6, hr6⟩ : NewBd W0.heap.size (.pointer (some ⟨c6, 0, none⟩)) w1 := (hG' 6).2 rfl
        have e5 : c5 = d5 := by simpa using he5
        have e6 : c6 = d6 := by simpa using he6
        subst e5 e6
        have hne := row_types hr5 hr6 (by decide)
        have HC1 := hidden hC'
        clear hG' hC' he5 he6
        refine wpList_store_vlK rfl _ _ rfl c5 rfl x.k x.n x.t rfl _ _ _ hr5 ?_
        intro w2 hv2 hg2 hk2
        have hr62 := hk2 c6 _ _ (Ne.symm hne) hr6
        have HC2 := hidden (hg2 W0 HC1.out hd5)
        refine wpList_store_bdK rfl _ _ rfl c6 rfl n n rfl _ _ hr62 ?_
        intro w3 hv3 hg3 hk3
        have H5 := hidden (hk3 c5 _ _ hne hv2)
        have H6 := hidden hv3
        have HC3 := hidden (hg3 W0 HC2.out hd6)
        have HG3 := hidden (HG0.out.of_below HC3.out)
        have HB3' := hidden (HB0.out.grow HC3.out)
        have HX : Hid (∀ X, Grows w3 X → X.cell? ⟨w.heap.size, 0, none⟩ = some (.int .i64 s.rows) ∧ X.cell? ⟨w.heap.size, 1, none⟩ = some (.int .i64 s.nulls) ∧ X.cell? ⟨w.heap.size, 2, none⟩ = some (.slice A1 L1 c1) ∧ X.cell? ⟨w.heap.size, 3, none⟩ = some (.bool s.ok) ∧ X.cell? ⟨w.heap.size, 4, none⟩ = some (.slice A2 L2 c2) ∧ X.cell? ⟨w.heap.size, 5, none⟩ = some (.slice A3 M c3) ∧ X.cell? ⟨w.heap.size, 6, none⟩ = some (.slice A4 RL c4) ∧ X.cell? ⟨w.heap.size + 1, 0, none⟩ = some (.int .i64 col) ∧ X.cell? ⟨w.heap.size + 1, 1, none⟩ = some (.int .i64 4) ∧ X.cell? ⟨w.heap.size + 1, 2, none⟩ = some (.int .i64 x.k) ∧ X.cell? ⟨w.heap.size + 1, 3, none⟩ = some (.int .i64 x.n) ∧ X.cell? ⟨w.heap.size + 1, 4, none⟩ = some (.string x.t) ∧ X.cell? ⟨c5, 0, none⟩ = some (.int .i64 x.k) ∧ X.cell? ⟨c5, 1, none⟩ = some (.int .i64 x.n) ∧ X.cell? ⟨c5, 2, none⟩ = some (.string x.t) ∧ X.cell? ⟨c6, 0, none⟩ = some (.int .i64 n) ∧ X.cell? ⟨c6, 1, none⟩ = some (.int .i64 n)) := hidden fun X h => ⟨(HS0.out.grow (HC3.out.of_below h)).cell 0, (HS0.out.grow (HC3.out.of_below h)).cell 1, (HS0.out.grow (HC3.out.of_below h)).cell 2, (HS0.out.grow (HC3.out.of_below h)).cell 3, (HS0.out.grow (HC3.out.of_below h)).cell 4, (HS0.out.grow (HC3.out.of_below h)).cell 5, (HS0.out.grow (HC3.out.of_below h)).cell 6, (HP0.out.grow (HC3.out.of_below h)).cell 0, (HP0.out.grow (HC3.out.of_below h)).cell 1, (HP0.out.grow (HC3.out.of_below h)).cell 2, (HP0.out.grow (HC3.out.of_below h)).cell 3, (HP0.out.grow (HC3.out.of_below h)).cell 4, (H5.out.grow h).cell 0, (H5.out.grow h).cell 1, (H5.out.grow h).cell 2, (H6.out.grow h).cell 0, (H6.out.grow h).cell 1⟩
        have HC : Hid (Grows w3 w3) := hidden (Below.refl _ w3)
        clear hr5 hr6 hd5 hd6 hne hv2 hg2 hk2 hr62 hv3 hg3 hk3 HC1 HC2 HX0 HS0 HP0 HB0
        obtain ⟨s0, s1, s2, s3, s4, s5, s6, p0, p1, p2, p3, p4, v0, v1, v2, n0, n1⟩ := HX.out w3 HC.out
        go_wp2_with fail
        clear s0 s1 s2 s3 s4 s5 s6 p0 p1 p2 p3 p4 v0 v1 v2 n0 n1
        refine wp_region_loose (tabRs [(1, ConstV (.bool false)), (6, ConstV (.int .i64 kk))]) (by kernel_rfl) (by kernel_rfl) (tabRs_cons ConstV.lasts (tabRs_cons ConstV.lasts tabRs_nil)) ?_
        iterate 1 ((with_reducible refine loose_one (v := ?_) (a' := ?_) ?_ ?_ (fun w' hC' hG' => ?_) ?_ ?_); rotate_left 2; (focus rfl); (focus rfl); (focus (obtain ⟨s0, s1, s2, s3, s4, s5, s6, p0, p1, p2, p3, p4, v0, v1, v2, n0, n1⟩ := HX.out w' hC'; clear hC' hG'; go_simp; rfl)); (focus (go_simp; rfl)))
        refine loose_call (R := ConstV (.bool false)) (f := 40) (args := #[.agg #[.int .i64 x.k, .int .i64 x.n, .string x.t]]) (by rfl) (by rfl) (fun _ => by go_simp) (fun w' hC' hG' => HIN.out w') ?_
        rintro _ ⟨_, _, rfl⟩
        refine ⟨?_, ?_, ?_⟩
        rotate_left
        · go_simp
          rfl
        iterate 1 ((with_reducible refine loose_one (v := ?_) (a' := ?_) ?_ ?_ (fun w' hC' hG' => ?_) ?_ ?_); rotate_left 2; (focus rfl); (focus rfl); (focus (obtain ⟨s0, s1, s2, s3, s4, s5, s6, p0, p1, p2, p3, p4, v0, v1, v2, n0, n1⟩ := HX.out w' hC'; clear hC' hG'; go_simp; rfl)); (focus (go_simp; rfl)))
        iterate 3 ((with_reducible refine loose_one (v := ?_) (a' := ?_) ?_ ?_ (fun w' hC' hG' => ?_) ?_ ?_); rotate_left 2; (focus rfl); (focus rfl); (focus (obtain ⟨s0, s1, s2, s3, s4, s5, s6, p0, p1, p2, p3, p4, v0, v1, v2, n0, n1⟩ := HX.out w' hC'; clear hC' hG'; go_simp; rfl)); (focus (go_simp; rfl)))
        refine loose_call (R := ConstV (.int .i64 kk)) (f := 84) (args := #[.agg #[.int .i64 s.rows, .int .i64 s.nulls, .slice A1 L1 c1, .bool s.ok, .slice A2 L2 c2, .slice A3 M c3, .slice A4 RL c4]]) (by rfl) (by rfl) (fun _ => by go_simp) (fun w' hC' hG' => HKD.out w' (HG3.out.of_below hC')) ?_
        rintro _ ⟨_, _, rfl⟩
        refine ⟨?_, ?_, ?_⟩
        rotate_left
        · go_simp
          rfl
        iterate 3 ((with_reducible refine loose_one (v := ?_) (a' := ?_) ?_ ?_ (fun w' hC' hG' => ?_) ?_ ?_); rotate_left 2; (focus rfl); (focus rfl); (focus (obtain ⟨s0, s1, s2, s3, s4, s5, s6, p0, p1, p2, p3, p4, v0, v1, v2, n0, n1⟩ := HX.out w' hC'; clear hC' hG'; go_simp; rfl)); (focus (go_simp; rfl)))
        refine loose_done (fun w4 hC' hG' => ?_)
        have HC := hidden hC'
        clear hC' hG'
        obtain ⟨s0, s1, s2, s3, s4, s5, s6, p0, p1, p2, p3, p4, v0, v1, v2, n0, n1⟩ := HX.out w4 HC.out
        go_wp2_with (first | (go_at_call 66; refine (HA.out _ (HG3.out.of_below HC.out)).mono ?_; rintro e w5 ⟨rfl, g1⟩; have HC := hidden (HC.out.of_below g1); clear g1) | ((with_reducible refine at_bd rfl _ _ rfl ?_); refine wpList_store_bd rfl _ _ rfl _ rfl (w.heap.size + 1 + 1) rfl al ah rfl _ _ (HB3'.out.grow HC.out) ?_; intro W hr hg; have HRR := hidden hr; have HGG := hidden (hg w (HG3.out.of_below HC.out) (by omega)); clear hr hg))
        refine bodyPost_ret (results_bd rfl _ _ _ _ _ rfl HRR.out) rfl ⟨?_, HGG.out⟩
        rw [HO.out]
      by_cases h5 : op = 5
      · subst h5
        clear d20 d21 h20 h21
        have HO := hidden (show out = (n - ah, n - al) from HCP.out)
        obtain ⟨W0, hW0⟩ : ∃ W, W = (((w.alloc (.cells #[.int .i64 s.rows, .int .i64 s.nulls, .slice A1 L1 c1, .bool s.ok, .slice A2 L2 c2, .slice A3 M c3, .slice A4 RL c4] 29)).alloc (.cells #[.int .i64 col, .int .i64 5, .int .i64 x.k, .int .i64 x.n, .string x.t] 37)).alloc (.cells #[.int .i64 0, .int .i64 0] 40)) := ⟨_, rfl⟩
        have HG0 := hidden (show Grows w W0 by rw [hW0]; exact ((growK _ _).of_below (growK _ _)).of_below (growK _ _))
        have HS0 := hidden (show Row W0 w.heap.size 29 [.int .i64 s.rows, .int .i64 s.nulls, .slice A1 L1 c1, .bool s.ok, .slice A2 L2 c2, .slice A3 M c3, .slice A4 RL c4] by rw [hW0]; exact (skp_rows _ _ _ _ _ _ _ _ _ _ _ _ _ _).1)
        have HP0 := hidden (show Row W0 (w.heap.size + 1) 37 [.int .i64 col, .int .i64 5, .int .i64 x.k, .int .i64 x.n, .string x.t] by rw [hW0]; exact (skp_rows _ _ _ _ _ _ _ _ _ _ _ _ _ _).2)
        have HB0 := hidden (show Row W0 (w.heap.size + 1 + 1) 40 [.int .i64 0, .int .i64 0] by rw [hW0]; exact bdrow_at2 _ _ _ _ _)
        have HX0 : Hid (∀ X, Grows W0 X → X.cell? ⟨w.heap.size, 0, none⟩ = some (.int .i64 s.rows) ∧ X.cell? ⟨w.heap.size, 1, none⟩ = some (.int .i64 s.nulls) ∧ X.cell? ⟨w.heap.size, 2, none⟩ = some (.slice A1 L1 c1) ∧ X.cell? ⟨w.heap.size, 3, none⟩ = some (.bool s.ok) ∧ X.cell? ⟨w.heap.size, 4, none⟩ = some (.slice A2 L2 c2) ∧ X.cell? ⟨w.heap.size, 5, none⟩ = some (.slice A3 M c3) ∧ X.cell? ⟨w.heap.size, 6, none⟩ = some (.slice A4 RL c4) ∧ X.cell? ⟨w.heap.size + 1, 0, none⟩ = some (.int .i64 col) ∧ X.cell? ⟨w.heap.size + 1, 1, none⟩ = some (.int .i64 5) ∧ X.cell? ⟨w.heap.size + 1, 2, none⟩ = some (.int .i64 x.k) ∧ X.cell? ⟨w.heap.size + 1, 3, none⟩ = some (.int .i64 x.n) ∧ X.cell? ⟨w.heap.size + 1, 4, none⟩ = some (.string x.t)) := hidden fun X h => ⟨(HS0.out.grow h).cell 0, (HS0.out.grow h).cell 1, (HS0.out.grow h).cell 2, (HS0.out.grow h).cell 3, (HS0.out.grow h).cell 4, (HS0.out.grow h).cell 5, (HS0.out.grow h).cell 6, (HP0.out.grow h).cell 0, (HP0.out.grow h).cell 1, (HP0.out.grow h).cell 2, (HP0.out.grow h).cell 3, (HP0.out.grow h).cell 4⟩
        have HEN := hidden (fun X => const_loose16 (HEX.out n X))
        go_enter Tryz.func25, Tryz.ntmps25
        go_wp2_with fail
        rw [← hW0]
        clear hW0
        refine wp_region_loose_tail 7 (tabRs [(3, ConstV (.int .i64 n)), (4, ConstV (.agg #[.int .i64 n, .int .i64 n])), (5, NewVl W0.heap.size), (6, NewBd W0.heap.size)]) (by kernel_rfl) (by kernel_rfl) (tabRs_cons ConstV.lasts (tabRs_cons ConstV.lasts (tabRs_cons NewVl.lasts (tabRs_cons NewBd.lasts tabRs_nil)))) ?_
        simp only [List.take_succ_cons, List.take_zero, List.drop_succ_cons, List.drop_zero]
        iterate 3 ((with_reducible refine loose_one (v := ?_) (a' := ?_) ?_ ?_ (fun w' hC' hG' => ?_) ?_ ?_); rotate_left 2; (focus rfl); (focus rfl); (focus (obtain ⟨s0, s1, s2, s3, s4, s5, s6, p0, p1, p2, p3, p4⟩ := HX0.out w' hC'; clear hC' hG'; go_simp; rfl)); (focus (go_simp; rfl)))
        refine loose_call (R := ConstV (.int .i64 n)) (f := 67) (args := #[.agg #[.int .i64 s.rows, .int .i64 s.nulls, .slice A1 L1 c1, .bool s.ok, .slice A2 L2 c2, .slice A3 M c3, .slice A4 RL c4]]) (by rfl) (by rfl) (fun _ => by go_simp) (fun w' hC' hG' => HP.out w') ?_
        rintro _ ⟨_, _, rfl⟩
        refine ⟨?_, ?_, ?_⟩
        rotate_left
        · go_simp
          rfl
        refine loose_call (R := ConstV (.agg #[.int .i64 n, .int .i64 n])) (f := 82) (args := #[.int .i64 n]) (by rfl) (by rfl) (fun _ => by go_simp) (fun w' hC' hG' => HEN.out w') ?_
        rintro _ ⟨_, _, rfl⟩
        refine ⟨?_, ?_, ?_⟩
        rotate_left
        · go_simp
          rfl
        refine loose_new (R := NewVl W0.heap.size) (by rfl) (by rfl) (fun w' hC' hG' => ?_) ?_
        · exact ⟨.pointer (some ⟨w'.heap.size, 0, none⟩), w'.alloc (.cells #[.int .i64 0, .int .i64 0, .string ⟨#[]⟩] 35), by first | rfl | go_simp, (Below.refl _ _).alloc (Nat.le_refl _) _, w'.heap.size, rfl, hC'.size, Row.new w' 35 #[.int .i64 0, .int .i64 0, .string ⟨#[]⟩] [.int .i64 0, .int .i64 0, .string ⟨#[]⟩] rfl⟩
        rintro _ ⟨_, _, c5, rfl, -, -⟩
        refine ⟨?_, ?_, ?_⟩
        rotate_left
        · go_simp
          rfl
        refine loose_new (R := NewBd W0.heap.size) (by rfl) (by rfl) (fun w' hC' hG' => ?_) ?_
        · exact ⟨.pointer (some ⟨w'.heap.size, 0, none⟩), w'.alloc (.cells #[.int .i64 0, .int .i64 0] 40), by first | rfl | go_simp, (Below.refl _ _).alloc (Nat.le_refl _) _, w'.heap.size, rfl, hC'.size, Row.new w' 40 #[.int .i64 0, .int .i64 0] [.int .i64 0, .int .i64 0] rfl⟩
        rintro _ ⟨_, _, c6, rfl, -, -⟩
        refine ⟨?_, ?_, ?_⟩
        rotate_left
        · go_simp
          rfl
        refine loose_done (fun w1 hC' hG' => ?_)
        obtain ⟨d5, he5, hd5, hr5⟩ : NewVl W0.heap.size (.pointer (some ⟨c5, 0, none⟩)) w1 := (hG' 5).1.2 rfl
        obtain ⟨d6, he6, hd6, hr6⟩ : NewBd W0.heap.size (.pointer (some ⟨c6, 0, none⟩)) w1 := (hG' 6).2 rfl
        have e5 : c5 = d5 := by simpa using he5
        have e6 : c6 = d6 := by simpa using he6
        subst e5 e6
        have hne := row_types hr5 hr6 (by decide)
        have HC1 := hidden hC'
        clear hG' hC' he5 he6
        refine wpList_store_vlK rfl _ _ rfl c5 rfl x.k x.n x.t rfl _ _ _ hr5 ?_
        intro w2 hv2 hg2 hk2
        have hr62 := hk2 c6 _ _ (Ne.symm hne) hr6
        have HC2 := hidden (hg2 W0 HC1.out hd5)
        refine wpList_store_bdK rfl _ _ rfl c6 rfl n n rfl _ _ hr62 ?_
        intro w3 hv3 hg3 hk3
        have H5 := hidden (hk3 c5 _ _ hne hv2)
        have H6 := hidden hv3
        have HC3 := hidden (hg3 W0 HC2.out hd6)
        have HG3 := hidden (HG0.out.of_below HC3.out)
        have HB3' := hidden (HB0.out.grow HC3.out)
        have HX : Hid (∀ X, Grows w3 X → X.cell? ⟨w.heap.size, 0, none⟩ = some (.int .i64 s.rows) ∧ X.cell? ⟨w.heap.size, 1, none⟩ = some (.int .i64 s.nulls) ∧ X.cell? ⟨w.heap.size, 2, none⟩ = some (.slice A1 L1 c1) ∧ X.cell? ⟨w.heap.size, 3, none⟩ = some (.bool s.ok) ∧ X.cell? ⟨w.heap.size, 4, none⟩ = some (.slice A2 L2 c2) ∧ X.cell? ⟨w.heap.size, 5, none⟩ = some (.slice A3 M c3) ∧ X.cell? ⟨w.heap.size, 6, none⟩ = some (.slice A4 RL c4) ∧ X.cell? ⟨w.heap.size + 1, 0, none⟩ = some (.int .i64 col) ∧ X.cell? ⟨w.heap.size + 1, 1, none⟩ = some (.int .i64 5) ∧ X.cell? ⟨w.heap.size + 1, 2, none⟩ = some (.int .i64 x.k) ∧ X.cell? ⟨w.heap.size + 1, 3, none⟩ = some (.int .i64 x.n) ∧ X.cell? ⟨w.heap.size + 1, 4, none⟩ = some (.string x.t) ∧ X.cell? ⟨c5, 0, none⟩ = some (.int .i64 x.k) ∧ X.cell? ⟨c5, 1, none⟩ = some (.int .i64 x.n) ∧ X.cell? ⟨c5, 2, none⟩ = some (.string x.t) ∧ X.cell? ⟨c6, 0, none⟩ = some (.int .i64 n) ∧ X.cell? ⟨c6, 1, none⟩ = some (.int .i64 n)) := hidden fun X h => ⟨(HS0.out.grow (HC3.out.of_below h)).cell 0, (HS0.out.grow (HC3.out.of_below h)).cell 1, (HS0.out.grow (HC3.out.of_below h)).cell 2, (HS0.out.grow (HC3.out.of_below h)).cell 3, (HS0.out.grow (HC3.out.of_below h)).cell 4, (HS0.out.grow (HC3.out.of_below h)).cell 5, (HS0.out.grow (HC3.out.of_below h)).cell 6, (HP0.out.grow (HC3.out.of_below h)).cell 0, (HP0.out.grow (HC3.out.of_below h)).cell 1, (HP0.out.grow (HC3.out.of_below h)).cell 2, (HP0.out.grow (HC3.out.of_below h)).cell 3, (HP0.out.grow (HC3.out.of_below h)).cell 4, (H5.out.grow h).cell 0, (H5.out.grow h).cell 1, (H5.out.grow h).cell 2, (H6.out.grow h).cell 0, (H6.out.grow h).cell 1⟩
        have HC : Hid (Grows w3 w3) := hidden (Below.refl _ w3)
        clear hr5 hr6 hd5 hd6 hne hv2 hg2 hk2 hr62 hv3 hg3 hk3 HC1 HC2 HX0 HS0 HP0 HB0
        obtain ⟨s0, s1, s2, s3, s4, s5, s6, p0, p1, p2, p3, p4, v0, v1, v2, n0, n1⟩ := HX.out w3 HC.out
        go_wp2_with fail
        clear s0 s1 s2 s3 s4 s5 s6 p0 p1 p2 p3 p4 v0 v1 v2 n0 n1
        refine wp_region_loose (tabRs [(1, ConstV (.bool false)), (6, ConstV (.int .i64 kk))]) (by kernel_rfl) (by kernel_rfl) (tabRs_cons ConstV.lasts (tabRs_cons ConstV.lasts tabRs_nil)) ?_
        iterate 1 ((with_reducible refine loose_one (v := ?_) (a' := ?_) ?_ ?_ (fun w' hC' hG' => ?_) ?_ ?_); rotate_left 2; (focus rfl); (focus rfl); (focus (obtain ⟨s0, s1, s2, s3, s4, s5, s6, p0, p1, p2, p3, p4, v0, v1, v2, n0, n1⟩ := HX.out w' hC'; clear hC' hG'; go_simp; rfl)); (focus (go_simp; rfl)))
        refine loose_call (R := ConstV (.bool false)) (f := 40) (args := #[.agg #[.int .i64 x.k, .int .i64 x.n, .string x.t]]) (by rfl) (by rfl) (fun _ => by go_simp) (fun w' hC' hG' => HIN.out w') ?_
        rintro _ ⟨_, _, rfl⟩
        refine ⟨?_, ?_, ?_⟩
        rotate_left
        · go_simp
          rfl
        iterate 1 ((with_reducible refine loose_one (v := ?_) (a' := ?_) ?_ ?_ (fun w' hC' hG' => ?_) ?_ ?_); rotate_left 2; (focus rfl); (focus rfl); (focus (obtain ⟨s0, s1, s2, s3, s4, s5, s6, p0, p1, p2, p3, p4, v0, v1, v2, n0, n1⟩ := HX.out w' hC'; clear hC' hG'; go_simp; rfl)); (focus (go_simp; rfl)))
        iterate 3 ((with_reducible refine loose_one (v := ?_) (a' := ?_) ?_ ?_ (fun w' hC' hG' => ?_) ?_ ?_); rotate_left 2; (focus rfl); (focus rfl); (focus (obtain ⟨s0, s1, s2, s3, s4, s5, s6, p0, p1, p2, p3, p4, v0, v1, v2, n0, n1⟩ := HX.out w' hC'; clear hC' hG'; go_simp; rfl)); (focus (go_simp; rfl)))
        refine loose_call (R := ConstV (.int .i64 kk)) (f := 84) (args := #[.agg #[.int .i64 s.rows, .int .i64 s.nulls, .slice A1 L1 c1, .bool s.ok, .slice A2 L2 c2, .slice A3 M c3, .slice A4 RL c4]]) (by rfl) (by rfl) (fun _ => by go_simp) (fun w' hC' hG' => HKD.out w' (HG3.out.of_below hC')) ?_
        rintro _ ⟨_, _, rfl⟩
        refine ⟨?_, ?_, ?_⟩
        rotate_left
        · go_simp
          rfl
        iterate 3 ((with_reducible refine loose_one (v := ?_) (a' := ?_) ?_ ?_ (fun w' hC' hG' => ?_) ?_ ?_); rotate_left 2; (focus rfl); (focus rfl); (focus (obtain ⟨s0, s1, s2, s3, s4, s5, s6, p0, p1, p2, p3, p4, v0, v1, v2, n0, n1⟩ := HX.out w' hC'; clear hC' hG'; go_simp; rfl)); (focus (go_simp; rfl)))
        refine loose_done (fun w4 hC' hG' => ?_)
        have HC := hidden hC'
        clear hC' hG'
        obtain ⟨s0, s1, s2, s3, s4, s5, s6, p0, p1, p2, p3, p4, v0, v1, v2, n0, n1⟩ := HX.out w4 HC.out
        go_wp2_with (first | (go_at_call 66; refine (HA.out _ (HG3.out.of_below HC.out)).mono ?_; rintro e w5 ⟨rfl, g1⟩; have HC := hidden (HC.out.of_below g1); clear g1) | (go_at_call 83; refine (HOT.out c6 n al ah _ (H6.out.grow HC.out) (by have := HN0.out; have := HB6.out; omega) (by have := HN0.out; have := HB5.out; omega)).mono ?_; rintro e w6 ⟨rfl, g1⟩; have HC := hidden (HC.out.of_below g1); clear g1) | ((with_reducible refine at_bd rfl _ _ rfl ?_); refine wpList_store_bd rfl _ _ rfl _ rfl (w.heap.size + 1 + 1) rfl (n - ah) (n - al) rfl _ _ (HB3'.out.grow HC.out) ?_; intro W hr hg; have HRR := hidden hr; have HGG := hidden (hg w (HG3.out.of_below HC.out) (by omega)); clear hr hg))
        refine bodyPost_ret (results_bd rfl _ _ _ _ _ rfl HRR.out) rfl ⟨?_, HGG.out⟩
        rw [HO.out]
      by_cases h6 : op = 6
      · subst h6
        clear d20 d21 h20 h21
        have HO := hidden (show out = (n - lh, n - ll) from HCP.out)
        obtain ⟨W0, hW0⟩ : ∃ W, W = (((w.alloc (.cells #[.int .i64 s.rows, .int .i64 s.nulls, .slice A1 L1 c1, .bool s.ok, .slice A2 L2 c2, .slice A3 M c3, .slice A4 RL c4] 29)).alloc (.cells #[.int .i64 col, .int .i64 6, .int .i64 x.k, .int .i64 x.n, .string x.t] 37)).alloc (.cells #[.int .i64 0, .int .i64 0] 40)) := ⟨_, rfl⟩
        have HG0 := hidden (show Grows w W0 by rw [hW0]; exact ((growK _ _).of_below (growK _ _)).of_below (growK _ _))
        have HS0 := hidden (show Row W0 w.heap.size 29 [.int .i64 s.rows, .int .i64 s.nulls, .slice A1 L1 c1, .bool s.ok, .slice A2 L2 c2, .slice A3 M c3, .slice A4 RL c4] by rw [hW0]; exact (skp_rows _ _ _ _ _ _ _ _ _ _ _ _ _ _).1)
        have HP0 := hidden (show Row W0 (w.heap.size + 1) 37 [.int .i64 col, .int .i64 6, .int .i64 x.k, .int .i64 x.n, .string x.t] by rw [hW0]; exact (skp_rows _ _ _ _ _ _ _ _ _ _ _ _ _ _).2)
        have HB0 := hidden (show Row W0 (w.heap.size + 1 + 1) 40 [.int .i64 0, .int .i64 0] by rw [hW0]; exact bdrow_at2 _ _ _ _ _)
        have HX0 : Hid (∀ X, Grows W0 X → X.cell? ⟨w.heap.size, 0, none⟩ = some (.int .i64 s.rows) ∧ X.cell? ⟨w.heap.size, 1, none⟩ = some (.int .i64 s.nulls) ∧ X.cell? ⟨w.heap.size, 2, none⟩ = some (.slice A1 L1 c1) ∧ X.cell? ⟨w.heap.size, 3, none⟩ = some (.bool s.ok) ∧ X.cell? ⟨w.heap.size, 4, none⟩ = some (.slice A2 L2 c2) ∧ X.cell? ⟨w.heap.size, 5, none⟩ = some (.slice A3 M c3) ∧ X.cell? ⟨w.heap.size, 6, none⟩ = some (.slice A4 RL c4) ∧ X.cell? ⟨w.heap.size + 1, 0, none⟩ = some (.int .i64 col) ∧ X.cell? ⟨w.heap.size + 1, 1, none⟩ = some (.int .i64 6) ∧ X.cell? ⟨w.heap.size + 1, 2, none⟩ = some (.int .i64 x.k) ∧ X.cell? ⟨w.heap.size + 1, 3, none⟩ = some (.int .i64 x.n) ∧ X.cell? ⟨w.heap.size + 1, 4, none⟩ = some (.string x.t)) := hidden fun X h => ⟨(HS0.out.grow h).cell 0, (HS0.out.grow h).cell 1, (HS0.out.grow h).cell 2, (HS0.out.grow h).cell 3, (HS0.out.grow h).cell 4, (HS0.out.grow h).cell 5, (HS0.out.grow h).cell 6, (HP0.out.grow h).cell 0, (HP0.out.grow h).cell 1, (HP0.out.grow h).cell 2, (HP0.out.grow h).cell 3, (HP0.out.grow h).cell 4⟩
        have HEN := hidden (fun X => const_loose16 (HEX.out n X))
        go_enter Tryz.func25, Tryz.ntmps25
        go_wp2_with fail
        rw [← hW0]
        clear hW0
        refine wp_region_loose_tail 7 (tabRs [(3, ConstV (.int .i64 n)), (4, ConstV (.agg #[.int .i64 n, .int .i64 n])), (5, NewVl W0.heap.size), (6, NewBd W0.heap.size)]) (by kernel_rfl) (by kernel_rfl) (tabRs_cons ConstV.lasts (tabRs_cons ConstV.lasts (tabRs_cons NewVl.lasts (tabRs_cons NewBd.lasts tabRs_nil)))) ?_
        simp only [List.take_succ_cons, List.take_zero, List.drop_succ_cons, List.drop_zero]
        iterate 3 ((with_reducible refine loose_one (v := ?_) (a' := ?_) ?_ ?_ (fun w' hC' hG' => ?_) ?_ ?_); rotate_left 2; (focus rfl); (focus rfl); (focus (obtain ⟨s0, s1, s2, s3, s4, s5, s6, p0, p1, p2, p3, p4⟩ := HX0.out w' hC'; clear hC' hG'; go_simp; rfl)); (focus (go_simp; rfl)))
        refine loose_call (R := ConstV (.int .i64 n)) (f := 67) (args := #[.agg #[.int .i64 s.rows, .int .i64 s.nulls, .slice A1 L1 c1, .bool s.ok, .slice A2 L2 c2, .slice A3 M c3, .slice A4 RL c4]]) (by rfl) (by rfl) (fun _ => by go_simp) (fun w' hC' hG' => HP.out w') ?_
        rintro _ ⟨_, _, rfl⟩
        refine ⟨?_, ?_, ?_⟩
        rotate_left
        · go_simp
          rfl
        refine loose_call (R := ConstV (.agg #[.int .i64 n, .int .i64 n])) (f := 82) (args := #[.int .i64 n]) (by rfl) (by rfl) (fun _ => by go_simp) (fun w' hC' hG' => HEN.out w') ?_
        rintro _ ⟨_, _, rfl⟩
        refine ⟨?_, ?_, ?_⟩
        rotate_left
        · go_simp
          rfl
        refine loose_new (R := NewVl W0.heap.size) (by rfl) (by rfl) (fun w' hC' hG' => ?_) ?_
        · exact ⟨.pointer (some ⟨w'.heap.size, 0, none⟩), w'.alloc (.cells #[.int .i64 0, .int .i64 0, .string ⟨#[]⟩] 35), by first | rfl | go_simp, (Below.refl _ _).alloc (Nat.le_refl _) _, w'.heap.size, rfl, hC'.size, Row.new w' 35 #[.int .i64 0, .int .i64 0, .string ⟨#[]⟩] [.int .i64 0, .int .i64 0, .string ⟨#[]⟩] rfl⟩
        rintro _ ⟨_, _, c5, rfl, -, -⟩
        refine ⟨?_, ?_, ?_⟩
        rotate_left
        · go_simp
          rfl
        refine loose_new (R := NewBd W0.heap.size) (by rfl) (by rfl) (fun w' hC' hG' => ?_) ?_
        · exact ⟨.pointer (some ⟨w'.heap.size, 0, none⟩), w'.alloc (.cells #[.int .i64 0, .int .i64 0] 40), by first | rfl | go_simp, (Below.refl _ _).alloc (Nat.le_refl _) _, w'.heap.size, rfl, hC'.size, Row.new w' 40 #[.int .i64 0, .int .i64 0] [.int .i64 0, .int .i64 0] rfl⟩
        rintro _ ⟨_, _, c6, rfl, -, -⟩
        refine ⟨?_, ?_, ?_⟩
        rotate_left
        · go_simp
          rfl
        refine loose_done (fun w1 hC' hG' => ?_)
        obtain ⟨d5, he5, hd5, hr5⟩ : NewVl W0.heap.size (.pointer (some ⟨c5, 0, none⟩)) w1 := (hG' 5).1.2 rfl
        obtain ⟨d6, he6, hd6, hr6⟩ : NewBd W0.heap.size (.pointer (some ⟨c6, 0, none⟩)) w1 := (hG' 6).2 rfl
        have e5 : c5 = d5 := by simpa using he5
        have e6 : c6 = d6 := by simpa using he6
        subst e5 e6
        have hne := row_types hr5 hr6 (by decide)
        have HC1 := hidden hC'
        clear hG' hC' he5 he6
        refine wpList_store_vlK rfl _ _ rfl c5 rfl x.k x.n x.t rfl _ _ _ hr5 ?_
        intro w2 hv2 hg2 hk2
        have hr62 := hk2 c6 _ _ (Ne.symm hne) hr6
        have HC2 := hidden (hg2 W0 HC1.out hd5)
        refine wpList_store_bdK rfl _ _ rfl c6 rfl n n rfl _ _ hr62 ?_
        intro w3 hv3 hg3 hk3
        have H5 := hidden (hk3 c5 _ _ hne hv2)
        have H6 := hidden hv3
        have HC3 := hidden (hg3 W0 HC2.out hd6)
        have HG3 := hidden (HG0.out.of_below HC3.out)
        have HB3' := hidden (HB0.out.grow HC3.out)
        have HX : Hid (∀ X, Grows w3 X → X.cell? ⟨w.heap.size, 0, none⟩ = some (.int .i64 s.rows) ∧ X.cell? ⟨w.heap.size, 1, none⟩ = some (.int .i64 s.nulls) ∧ X.cell? ⟨w.heap.size, 2, none⟩ = some (.slice A1 L1 c1) ∧ X.cell? ⟨w.heap.size, 3, none⟩ = some (.bool s.ok) ∧ X.cell? ⟨w.heap.size, 4, none⟩ = some (.slice A2 L2 c2) ∧ X.cell? ⟨w.heap.size, 5, none⟩ = some (.slice A3 M c3) ∧ X.cell? ⟨w.heap.size, 6, none⟩ = some (.slice A4 RL c4) ∧ X.cell? ⟨w.heap.size + 1, 0, none⟩ = some (.int .i64 col) ∧ X.cell? ⟨w.heap.size + 1, 1, none⟩ = some (.int .i64 6) ∧ X.cell? ⟨w.heap.size + 1, 2, none⟩ = some (.int .i64 x.k) ∧ X.cell? ⟨w.heap.size + 1, 3, none⟩ = some (.int .i64 x.n) ∧ X.cell? ⟨w.heap.size + 1, 4, none⟩ = some (.string x.t) ∧ X.cell? ⟨c5, 0, none⟩ = some (.int .i64 x.k) ∧ X.cell? ⟨c5, 1, none⟩ = some (.int .i64 x.n) ∧ X.cell? ⟨c5, 2, none⟩ = some (.string x.t) ∧ X.cell? ⟨c6, 0, none⟩ = some (.int .i64 n) ∧ X.cell? ⟨c6, 1, none⟩ = some (.int .i64 n)) := hidden fun X h => ⟨(HS0.out.grow (HC3.out.of_below h)).cell 0, (HS0.out.grow (HC3.out.of_below h)).cell 1, (HS0.out.grow (HC3.out.of_below h)).cell 2, (HS0.out.grow (HC3.out.of_below h)).cell 3, (HS0.out.grow (HC3.out.of_below h)).cell 4, (HS0.out.grow (HC3.out.of_below h)).cell 5, (HS0.out.grow (HC3.out.of_below h)).cell 6, (HP0.out.grow (HC3.out.of_below h)).cell 0, (HP0.out.grow (HC3.out.of_below h)).cell 1, (HP0.out.grow (HC3.out.of_below h)).cell 2, (HP0.out.grow (HC3.out.of_below h)).cell 3, (HP0.out.grow (HC3.out.of_below h)).cell 4, (H5.out.grow h).cell 0, (H5.out.grow h).cell 1, (H5.out.grow h).cell 2, (H6.out.grow h).cell 0, (H6.out.grow h).cell 1⟩
        have HC : Hid (Grows w3 w3) := hidden (Below.refl _ w3)
        clear hr5 hr6 hd5 hd6 hne hv2 hg2 hk2 hr62 hv3 hg3 hk3 HC1 HC2 HX0 HS0 HP0 HB0
        obtain ⟨s0, s1, s2, s3, s4, s5, s6, p0, p1, p2, p3, p4, v0, v1, v2, n0, n1⟩ := HX.out w3 HC.out
        go_wp2_with fail
        clear s0 s1 s2 s3 s4 s5 s6 p0 p1 p2 p3 p4 v0 v1 v2 n0 n1
        refine wp_region_loose (tabRs [(1, ConstV (.bool false)), (6, ConstV (.int .i64 kk))]) (by kernel_rfl) (by kernel_rfl) (tabRs_cons ConstV.lasts (tabRs_cons ConstV.lasts tabRs_nil)) ?_
        iterate 1 ((with_reducible refine loose_one (v := ?_) (a' := ?_) ?_ ?_ (fun w' hC' hG' => ?_) ?_ ?_); rotate_left 2; (focus rfl); (focus rfl); (focus (obtain ⟨s0, s1, s2, s3, s4, s5, s6, p0, p1, p2, p3, p4, v0, v1, v2, n0, n1⟩ := HX.out w' hC'; clear hC' hG'; go_simp; rfl)); (focus (go_simp; rfl)))
        refine loose_call (R := ConstV (.bool false)) (f := 40) (args := #[.agg #[.int .i64 x.k, .int .i64 x.n, .string x.t]]) (by rfl) (by rfl) (fun _ => by go_simp) (fun w' hC' hG' => HIN.out w') ?_
        rintro _ ⟨_, _, rfl⟩
        refine ⟨?_, ?_, ?_⟩
        rotate_left
        · go_simp
          rfl
        iterate 1 ((with_reducible refine loose_one (v := ?_) (a' := ?_) ?_ ?_ (fun w' hC' hG' => ?_) ?_ ?_); rotate_left 2; (focus rfl); (focus rfl); (focus (obtain ⟨s0, s1, s2, s3, s4, s5, s6, p0, p1, p2, p3, p4, v0, v1, v2, n0, n1⟩ := HX.out w' hC'; clear hC' hG'; go_simp; rfl)); (focus (go_simp; rfl)))
        iterate 3 ((with_reducible refine loose_one (v := ?_) (a' := ?_) ?_ ?_ (fun w' hC' hG' => ?_) ?_ ?_); rotate_left 2; (focus rfl); (focus rfl); (focus (obtain ⟨s0, s1, s2, s3, s4, s5, s6, p0, p1, p2, p3, p4, v0, v1, v2, n0, n1⟩ := HX.out w' hC'; clear hC' hG'; go_simp; rfl)); (focus (go_simp; rfl)))
        refine loose_call (R := ConstV (.int .i64 kk)) (f := 84) (args := #[.agg #[.int .i64 s.rows, .int .i64 s.nulls, .slice A1 L1 c1, .bool s.ok, .slice A2 L2 c2, .slice A3 M c3, .slice A4 RL c4]]) (by rfl) (by rfl) (fun _ => by go_simp) (fun w' hC' hG' => HKD.out w' (HG3.out.of_below hC')) ?_
        rintro _ ⟨_, _, rfl⟩
        refine ⟨?_, ?_, ?_⟩
        rotate_left
        · go_simp
          rfl
        iterate 3 ((with_reducible refine loose_one (v := ?_) (a' := ?_) ?_ ?_ (fun w' hC' hG' => ?_) ?_ ?_); rotate_left 2; (focus rfl); (focus rfl); (focus (obtain ⟨s0, s1, s2, s3, s4, s5, s6, p0, p1, p2, p3, p4, v0, v1, v2, n0, n1⟩ := HX.out w' hC'; clear hC' hG'; go_simp; rfl)); (focus (go_simp; rfl)))
        refine loose_done (fun w4 hC' hG' => ?_)
        have HC := hidden hC'
        clear hC' hG'
        obtain ⟨s0, s1, s2, s3, s4, s5, s6, p0, p1, p2, p3, p4, v0, v1, v2, n0, n1⟩ := HX.out w4 HC.out
        go_wp2_with (first | (go_at_call 23; refine (HL.out _ (HG3.out.of_below HC.out)).mono ?_; rintro e w5 ⟨rfl, g1⟩; have HC := hidden (HC.out.of_below g1); clear g1) | (go_at_call 83; refine (HOT.out c6 n ll lh _ (H6.out.grow HC.out) (by have := HN0.out; have := HB4.out; omega) (by have := HN0.out; have := HB3.out; omega)).mono ?_; rintro e w6 ⟨rfl, g1⟩; have HC := hidden (HC.out.of_below g1); clear g1) | ((with_reducible refine at_bd rfl _ _ rfl ?_); refine wpList_store_bd rfl _ _ rfl _ rfl (w.heap.size + 1 + 1) rfl (n - lh) (n - ll) rfl _ _ (HB3'.out.grow HC.out) ?_; intro W hr hg; have HRR := hidden hr; have HGG := hidden (hg w (HG3.out.of_below HC.out) (by omega)); clear hr hg))
        refine bodyPost_ret (results_bd rfl _ _ _ _ _ rfl HRR.out) rfl ⟨?_, HGG.out⟩
        rw [HO.out]
      have HO := hidden (show out = (0, 0) by rw [HCP.out]; unfold cmP; rw [if_neg h20, if_neg h21, if_neg (by decide), if_neg h1, if_neg h2, if_neg h3, if_neg h4, if_neg h5, if_neg h6])
      have d1 : (op == 1) = false := beq_eq_false_iff_ne.2 h1
      have d2 : (op == 2) = false := beq_eq_false_iff_ne.2 h2
      have d3 : (op == 3) = false := beq_eq_false_iff_ne.2 h3
      have d4 : (op == 4) = false := beq_eq_false_iff_ne.2 h4
      have d5 : (op == 5) = false := beq_eq_false_iff_ne.2 h5
      have d6 : (op == 6) = false := beq_eq_false_iff_ne.2 h6
      clear h20 h21 h1 h2 h3 h4 h5 h6
      obtain ⟨W0, hW0⟩ : ∃ W, W = (((w.alloc (.cells #[.int .i64 s.rows, .int .i64 s.nulls, .slice A1 L1 c1, .bool s.ok, .slice A2 L2 c2, .slice A3 M c3, .slice A4 RL c4] 29)).alloc (.cells #[.int .i64 col, .int .i64 op, .int .i64 x.k, .int .i64 x.n, .string x.t] 37)).alloc (.cells #[.int .i64 0, .int .i64 0] 40)) := ⟨_, rfl⟩
      have HG0 := hidden (show Grows w W0 by rw [hW0]; exact ((growK _ _).of_below (growK _ _)).of_below (growK _ _))
      have HS0 := hidden (show Row W0 w.heap.size 29 [.int .i64 s.rows, .int .i64 s.nulls, .slice A1 L1 c1, .bool s.ok, .slice A2 L2 c2, .slice A3 M c3, .slice A4 RL c4] by rw [hW0]; exact (skp_rows _ _ _ _ _ _ _ _ _ _ _ _ _ _).1)
      have HP0 := hidden (show Row W0 (w.heap.size + 1) 37 [.int .i64 col, .int .i64 op, .int .i64 x.k, .int .i64 x.n, .string x.t] by rw [hW0]; exact (skp_rows _ _ _ _ _ _ _ _ _ _ _ _ _ _).2)
      have HB0 := hidden (show Row W0 (w.heap.size + 1 + 1) 40 [.int .i64 0, .int .i64 0] by rw [hW0]; exact bdrow_at2 _ _ _ _ _)
      have HX0 : Hid (∀ X, Grows W0 X → X.cell? ⟨w.heap.size, 0, none⟩ = some (.int .i64 s.rows) ∧ X.cell? ⟨w.heap.size, 1, none⟩ = some (.int .i64 s.nulls) ∧ X.cell? ⟨w.heap.size, 2, none⟩ = some (.slice A1 L1 c1) ∧ X.cell? ⟨w.heap.size, 3, none⟩ = some (.bool s.ok) ∧ X.cell? ⟨w.heap.size, 4, none⟩ = some (.slice A2 L2 c2) ∧ X.cell? ⟨w.heap.size, 5, none⟩ = some (.slice A3 M c3) ∧ X.cell? ⟨w.heap.size, 6, none⟩ = some (.slice A4 RL c4) ∧ X.cell? ⟨w.heap.size + 1, 0, none⟩ = some (.int .i64 col) ∧ X.cell? ⟨w.heap.size + 1, 1, none⟩ = some (.int .i64 op) ∧ X.cell? ⟨w.heap.size + 1, 2, none⟩ = some (.int .i64 x.k) ∧ X.cell? ⟨w.heap.size + 1, 3, none⟩ = some (.int .i64 x.n) ∧ X.cell? ⟨w.heap.size + 1, 4, none⟩ = some (.string x.t)) := hidden fun X h => ⟨(HS0.out.grow h).cell 0, (HS0.out.grow h).cell 1, (HS0.out.grow h).cell 2, (HS0.out.grow h).cell 3, (HS0.out.grow h).cell 4, (HS0.out.grow h).cell 5, (HS0.out.grow h).cell 6, (HP0.out.grow h).cell 0, (HP0.out.grow h).cell 1, (HP0.out.grow h).cell 2, (HP0.out.grow h).cell 3, (HP0.out.grow h).cell 4⟩
      have HEN := hidden (fun X => const_loose16 (HEX.out n X))
      go_enter Tryz.func25, Tryz.ntmps25
      go_wp2_with fail
      rw [← hW0]
      clear hW0
      refine wp_region_loose_tail 7 (tabRs [(3, ConstV (.int .i64 n)), (4, ConstV (.agg #[.int .i64 n, .int .i64 n])), (5, NewVl W0.heap.size), (6, NewBd W0.heap.size)]) (by kernel_rfl) (by kernel_rfl) (tabRs_cons ConstV.lasts (tabRs_cons ConstV.lasts (tabRs_cons NewVl.lasts (tabRs_cons NewBd.lasts tabRs_nil)))) ?_
      simp only [List.take_succ_cons, List.take_zero, List.drop_succ_cons, List.drop_zero]
      iterate 3 ((with_reducible refine loose_one (v := ?_) (a' := ?_) ?_ ?_ (fun w' hC' hG' => ?_) ?_ ?_); rotate_left 2; (focus rfl); (focus rfl); (focus (obtain ⟨s0, s1, s2, s3, s4, s5, s6, p0, p1, p2, p3, p4⟩ := HX0.out w' hC'; clear hC' hG'; go_simp; rfl)); (focus (go_simp; rfl)))
      refine loose_call (R := ConstV (.int .i64 n)) (f := 67) (args := #[.agg #[.int .i64 s.rows, .int .i64 s.nulls, .slice A1 L1 c1, .bool s.ok, .slice A2 L2 c2, .slice A3 M c3, .slice A4 RL c4]]) (by rfl) (by rfl) (fun _ => by go_simp) (fun w' hC' hG' => HP.out w') ?_
      rintro _ ⟨_, _, rfl⟩
      refine ⟨?_, ?_, ?_⟩
      rotate_left
      · go_simp
        rfl
      refine loose_call (R := ConstV (.agg #[.int .i64 n, .int .i64 n])) (f := 82) (args := #[.int .i64 n]) (by rfl) (by rfl) (fun _ => by go_simp) (fun w' hC' hG' => HEN.out w') ?_
      rintro _ ⟨_, _, rfl⟩
      refine ⟨?_, ?_, ?_⟩
      rotate_left
      · go_simp
        rfl
      refine loose_new (R := NewVl W0.heap.size) (by rfl) (by rfl) (fun w' hC' hG' => ?_) ?_
      · exact ⟨.pointer (some ⟨w'.heap.size, 0, none⟩), w'.alloc (.cells #[.int .i64 0, .int .i64 0, .string ⟨#[]⟩] 35), by first | rfl | go_simp, (Below.refl _ _).alloc (Nat.le_refl _) _, w'.heap.size, rfl, hC'.size, Row.new w' 35 #[.int .i64 0, .int .i64 0, .string ⟨#[]⟩] [.int .i64 0, .int .i64 0, .string ⟨#[]⟩] rfl⟩
      rintro _ ⟨_, _, c5, rfl, -, -⟩
      refine ⟨?_, ?_, ?_⟩
      rotate_left
      · go_simp
        rfl
      refine loose_new (R := NewBd W0.heap.size) (by rfl) (by rfl) (fun w' hC' hG' => ?_) ?_
      · exact ⟨.pointer (some ⟨w'.heap.size, 0, none⟩), w'.alloc (.cells #[.int .i64 0, .int .i64 0] 40), by first | rfl | go_simp, (Below.refl _ _).alloc (Nat.le_refl _) _, w'.heap.size, rfl, hC'.size, Row.new w' 40 #[.int .i64 0, .int .i64 0] [.int .i64 0, .int .i64 0] rfl⟩
      rintro _ ⟨_, _, c6, rfl, -, -⟩
      refine ⟨?_, ?_, ?_⟩
      rotate_left
      · go_simp
        rfl
      refine loose_done (fun w1 hC' hG' => ?_)
      obtain ⟨d5, he5, hd5, hr5⟩ : NewVl W0.heap.size (.pointer (some ⟨c5, 0, none⟩)) w1 := (hG' 5).1.2 rfl
      obtain ⟨d6, he6, hd6, hr6⟩ : NewBd W0.heap.size (.pointer (some ⟨c6, 0, none⟩)) w1 := (hG' 6).2 rfl
      have e5 : c5 = d5 := by simpa using he5
      have e6 : c6 = d6 := by simpa using he6
      subst e5 e6
      have hne := row_types hr5 hr6 (by decide)
      have HC1 := hidden hC'
      clear hG' hC' he5 he6
      refine wpList_store_vlK rfl _ _ rfl c5 rfl x.k x.n x.t rfl _ _ _ hr5 ?_
      intro w2 hv2 hg2 hk2
      have hr62 := hk2 c6 _ _ (Ne.symm hne) hr6
      have HC2 := hidden (hg2 W0 HC1.out hd5)
      refine wpList_store_bdK rfl _ _ rfl c6 rfl n n rfl _ _ hr62 ?_
      intro w3 hv3 hg3 hk3
      have H5 := hidden (hk3 c5 _ _ hne hv2)
      have H6 := hidden hv3
      have HC3 := hidden (hg3 W0 HC2.out hd6)
      have HG3 := hidden (HG0.out.of_below HC3.out)
      have HB3' := hidden (HB0.out.grow HC3.out)
      have HX : Hid (∀ X, Grows w3 X → X.cell? ⟨w.heap.size, 0, none⟩ = some (.int .i64 s.rows) ∧ X.cell? ⟨w.heap.size, 1, none⟩ = some (.int .i64 s.nulls) ∧ X.cell? ⟨w.heap.size, 2, none⟩ = some (.slice A1 L1 c1) ∧ X.cell? ⟨w.heap.size, 3, none⟩ = some (.bool s.ok) ∧ X.cell? ⟨w.heap.size, 4, none⟩ = some (.slice A2 L2 c2) ∧ X.cell? ⟨w.heap.size, 5, none⟩ = some (.slice A3 M c3) ∧ X.cell? ⟨w.heap.size, 6, none⟩ = some (.slice A4 RL c4) ∧ X.cell? ⟨w.heap.size + 1, 0, none⟩ = some (.int .i64 col) ∧ X.cell? ⟨w.heap.size + 1, 1, none⟩ = some (.int .i64 op) ∧ X.cell? ⟨w.heap.size + 1, 2, none⟩ = some (.int .i64 x.k) ∧ X.cell? ⟨w.heap.size + 1, 3, none⟩ = some (.int .i64 x.n) ∧ X.cell? ⟨w.heap.size + 1, 4, none⟩ = some (.string x.t) ∧ X.cell? ⟨c5, 0, none⟩ = some (.int .i64 x.k) ∧ X.cell? ⟨c5, 1, none⟩ = some (.int .i64 x.n) ∧ X.cell? ⟨c5, 2, none⟩ = some (.string x.t) ∧ X.cell? ⟨c6, 0, none⟩ = some (.int .i64 n) ∧ X.cell? ⟨c6, 1, none⟩ = some (.int .i64 n)) := hidden fun X h => ⟨(HS0.out.grow (HC3.out.of_below h)).cell 0, (HS0.out.grow (HC3.out.of_below h)).cell 1, (HS0.out.grow (HC3.out.of_below h)).cell 2, (HS0.out.grow (HC3.out.of_below h)).cell 3, (HS0.out.grow (HC3.out.of_below h)).cell 4, (HS0.out.grow (HC3.out.of_below h)).cell 5, (HS0.out.grow (HC3.out.of_below h)).cell 6, (HP0.out.grow (HC3.out.of_below h)).cell 0, (HP0.out.grow (HC3.out.of_below h)).cell 1, (HP0.out.grow (HC3.out.of_below h)).cell 2, (HP0.out.grow (HC3.out.of_below h)).cell 3, (HP0.out.grow (HC3.out.of_below h)).cell 4, (H5.out.grow h).cell 0, (H5.out.grow h).cell 1, (H5.out.grow h).cell 2, (H6.out.grow h).cell 0, (H6.out.grow h).cell 1⟩
      have HC : Hid (Grows w3 w3) := hidden (Below.refl _ w3)
      clear hr5 hr6 hd5 hd6 hne hv2 hg2 hk2 hr62 hv3 hg3 hk3 HC1 HC2 HX0 HS0 HP0 HB0
      obtain ⟨s0, s1, s2, s3, s4, s5, s6, p0, p1, p2, p3, p4, v0, v1, v2, n0, n1⟩ := HX.out w3 HC.out
      go_wp2_with fail
      clear s0 s1 s2 s3 s4 s5 s6 p0 p1 p2 p3 p4 v0 v1 v2 n0 n1
      refine wp_region_loose (tabRs [(1, ConstV (.bool false)), (6, ConstV (.int .i64 kk))]) (by kernel_rfl) (by kernel_rfl) (tabRs_cons ConstV.lasts (tabRs_cons ConstV.lasts tabRs_nil)) ?_
      iterate 1 ((with_reducible refine loose_one (v := ?_) (a' := ?_) ?_ ?_ (fun w' hC' hG' => ?_) ?_ ?_); rotate_left 2; (focus rfl); (focus rfl); (focus (obtain ⟨s0, s1, s2, s3, s4, s5, s6, p0, p1, p2, p3, p4, v0, v1, v2, n0, n1⟩ := HX.out w' hC'; clear hC' hG'; go_simp; rfl)); (focus (go_simp; rfl)))
      refine loose_call (R := ConstV (.bool false)) (f := 40) (args := #[.agg #[.int .i64 x.k, .int .i64 x.n, .string x.t]]) (by rfl) (by rfl) (fun _ => by go_simp) (fun w' hC' hG' => HIN.out w') ?_
      rintro _ ⟨_, _, rfl⟩
      refine ⟨?_, ?_, ?_⟩
      rotate_left
      · go_simp
        rfl
      iterate 1 ((with_reducible refine loose_one (v := ?_) (a' := ?_) ?_ ?_ (fun w' hC' hG' => ?_) ?_ ?_); rotate_left 2; (focus rfl); (focus rfl); (focus (obtain ⟨s0, s1, s2, s3, s4, s5, s6, p0, p1, p2, p3, p4, v0, v1, v2, n0, n1⟩ := HX.out w' hC'; clear hC' hG'; go_simp; rfl)); (focus (go_simp; rfl)))
      iterate 3 ((with_reducible refine loose_one (v := ?_) (a' := ?_) ?_ ?_ (fun w' hC' hG' => ?_) ?_ ?_); rotate_left 2; (focus rfl); (focus rfl); (focus (obtain ⟨s0, s1, s2, s3, s4, s5, s6, p0, p1, p2, p3, p4, v0, v1, v2, n0, n1⟩ := HX.out w' hC'; clear hC' hG'; go_simp; rfl)); (focus (go_simp; rfl)))
      refine loose_call (R := ConstV (.int .i64 kk)) (f := 84) (args := #[.agg #[.int .i64 s.rows, .int .i64 s.nulls, .slice A1 L1 c1, .bool s.ok, .slice A2 L2 c2, .slice A3 M c3, .slice A4 RL c4]]) (by rfl) (by rfl) (fun _ => by go_simp) (fun w' hC' hG' => HKD.out w' (HG3.out.of_below hC')) ?_
      rintro _ ⟨_, _, rfl⟩
      refine ⟨?_, ?_, ?_⟩
      rotate_left
      · go_simp
        rfl
      iterate 3 ((with_reducible refine loose_one (v := ?_) (a' := ?_) ?_ ?_ (fun w' hC' hG' => ?_) ?_ ?_); rotate_left 2; (focus rfl); (focus rfl); (focus (obtain ⟨s0, s1, s2, s3, s4, s5, s6, p0, p1, p2, p3, p4, v0, v1, v2, n0, n1⟩ := HX.out w' hC'; clear hC' hG'; go_simp; rfl)); (focus (go_simp; rfl)))
      refine loose_done (fun w4 hC' hG' => ?_)
      have HC := hidden hC'
      clear hC' hG'
      obtain ⟨s0, s1, s2, s3, s4, s5, s6, p0, p1, p2, p3, p4, v0, v1, v2, n0, n1⟩ := HX.out w4 HC.out
      go_wp2_with ((with_reducible refine at_bd rfl _ _ rfl ?_); refine wpList_store_bd rfl _ _ rfl _ rfl (w.heap.size + 1 + 1) rfl 0 0 rfl _ _ (HB3'.out.grow HC.out) ?_; intro W hr hg; have HRR := hidden hr; have HGG := hidden (hg w (HG3.out.of_below HC.out) (by omega)); clear hr hg)
      refine bodyPost_ret (results_bd rfl _ _ _ _ _ rfl HRR.out) rfl ⟨?_, HGG.out⟩
      rw [HO.out]
end Go.Proofs.YtoaklmceejeblaaGreat
