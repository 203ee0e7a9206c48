/-
  Texts that the claims of this seat share, put together (Sq9, SqA, SqB, SqC). No condition.
-/
import Derived.Test.YtoaklmceejeblaaGreatM17
/-
  Shaken: what the claims of this seat need of this text. No condition.
-/
namespace Go.Proofs.YtoaklmceejeblaaGreat
open Go.RowKit
set_option linter.unusedVariables false
set_option linter.unusedSimpArgs false
theorem wpList_store_ctr {wr : World} {ops : Array Oper} {rest : List Oper} {o : Oper} {a : Act} {Q : Exit → Act → World → Prop} (hgd : o.guard = none) (x y : Operand) (ho : o.op = .store 67 x y)
    (g : Nat) (hx : a.eval x = .pointer (some ⟨g, 0, none⟩)) (T : List Value) (hy : a.eval y = .agg T.toArray) (hl : T.length = 256) (h1 : ∀ v ∈ T, v.oneCell' = true) (zs : List Value) (hr : Row wr g 67 zs) (hz : zs.length = 256)
    (hk : ∀ W, Row W g 67 T → (∀ w0, Grows w0 wr → w0.heap.size ≤ g → Grows w0 W) → wpList Tryz.prog ops Q rest (a.put o.dst undef) W) : wpList Tryz.prog ops Q (o :: rest) a wr := by
  have hi := (zero_of_info (P := Tryz.prog) zero256).2
  refine wpList_store_row hgd _ x y ho g T.toArray hx hy 67 zs.toArray hr (by rw [hi, List.size_toArray, hl]) (by rw [List.size_toArray, List.size_toArray, hl, hz]) ?_ (hk _ (hr.setRowK T) (fun w0 h0 hg => below_setRowK h0 hg _))
  rw [Array.all_eq_true_iff_forall_mem]
  intro v hv
  exact h1 v (by simpa using hv)
theorem at_ctr {wr : World} {ops : Array Oper} {rest : List Oper} {op : Oper} {a : Act} {Q : Exit → Act → World → Prop} (hgd : op.guard = none) (x y : Operand) (ho : op.op = .store 67 x y) (h : wpList Tryz.prog ops Q (op :: rest) a wr) : wpList Tryz.prog ops Q (op :: rest) a wr := h
theorem row_ctr0 (w : World) : Row (w.alloc (.cells (Array.replicate 256 (.int .i64 0)) 67)) w.heap.size 67 (List.replicate 256 (.int .i64 0)) := by
  rw [show Array.replicate 256 (Value.int .i64 0) = (List.replicate 256 (Value.int .i64 0)).toArray by rw [List.toArray_replicate]]
  exact Row.new w 67 (List.replicate 256 (Value.int .i64 0)).toArray (List.replicate 256 (Value.int .i64 0)) rfl
def NewBd (H : Nat) : Value → World → Prop := fun v w => ∃ b, v = .pointer (some ⟨b, 0, none⟩) ∧ H ≤ b ∧ Row w b 40 [.int .i64 0, .int .i64 0]
theorem NewBd.lasts {H : Nat} : ∀ v w w', NewBd H v w → Grows w w' → NewBd H v w' := fun _ _ _ ⟨b, h1, h2, h3⟩ hg => ⟨b, h1, h2, h3.grow hg⟩
def Sl1 (x : Val) : Value → World → Prop := fun v w => ReadsV w v [x]
theorem Sl1.lasts {x : Val} : ∀ v w w', Sl1 x v w → Grows w w' → Sl1 x v w' := fun _ _ _ h hg => ReadsV.grow h hg
structure OkRk (s : Sk) : Prop where
  n0 : 0 ≤ s.rows - s.nulls
  n1 : s.rows - s.nulls ≤ 9223372036854775807
  rk : ∀ r ∈ s.rk, 0 ≤ r ∧ r ≤ s.rows - s.nulls
theorem OkRk.get {s : Sk} (h : OkRk s) (i : Nat) : 0 ≤ s.rk.getD i 0 ∧ s.rk.getD i 0 ≤ s.rows - s.nulls := by
  rw [List.getD_eq_getElem?_getD]
  rcases Nat.lt_or_ge i s.rk.length with h2 | h2
  · rw [List.getElem?_eq_getElem h2]
    exact h.rk _ (List.getElem_mem h2)
  · rw [List.getElem?_eq_none h2]
    exact ⟨Int.le_refl _, h.n0⟩
theorem OkRk.lo {s : Sk} (h : OkRk s) (k : Nat) : 0 ≤ bfLo s k ∧ bfLo s k ≤ s.rows - s.nulls := by
  unfold bfLo
  split
  · exact h.get _
  · exact ⟨Int.le_refl _, h.n0⟩
theorem OkRk.hi {s : Sk} (h : OkRk s) (k : Nat) : 0 ≤ bfHi s k ∧ bfHi s k ≤ s.rows - s.nulls := by
  unfold bfHi
  split
  · exact h.get _
  · exact ⟨h.n0, Int.le_refl _⟩
def ceqOut (s : Sk) (x : Val) : Bool := s.ok && !decide (hashR (mix 3) [x] ∈ s.hs)
def ceqLo (s : Sk) (x : Val) (r1 r2 : Nat) : Int := if ceqOut s x = true then 0 else max 0 (bfLo s r1 - bfHi s r2)
def ceqHi (s : Sk) (x : Val) (r1 r2 : Nat) : Int := if ceqOut s x = true then 0 else min (bfHi s r1 - bfLo s r2) (minL [ctrC s.cm 0 x, ctrC s.cm 1 x, ctrC s.cm 2 x, ctrC s.cm 3 x])
set_option maxRecDepth 8000 in
set_option maxHeartbeats 8000000 in
theorem qCountEqual_any (v : Value) (s : Sk) (x : Val) (r1 r2 : Nat) (w : World) (hk : IsK w v s) (hh : s.hs.length ≤ 1000000) (hl : s.fs.length ≤ 100000) (hrl : s.rk.length ≤ 1000000) (hcl : s.cm.length = 256) (hn : OkRk s) (hv : validV x.k x.n x.t = true)
    (hr1 : r1 ≤ s.fs.length) (hlo1 : ∀ k y, k < r1 → s.fs[k]? = some y → ¬ 0 < lcX y x) (hhi1 : ∀ k y, r1 ≤ k → s.fs[k]? = some y → 0 < lcX y x)
    (hr2 : r2 ≤ s.fs.length) (hlo2 : ∀ k y, k < r2 → s.fs[k]? = some y → ¬ 0 ≤ lcX y x) (hhi2 : ∀ k y, r2 ≤ k → s.fs[k]? = some y → 0 ≤ lcX y x) :
    Calls Tryz.prog 21 #[v, .agg #[.int .i64 x.k, .int .i64 x.n, .string x.t]] w fun e w' => e = .returned (.agg #[.int .i64 (ceqLo s x r1 r2), .int .i64 (ceqHi s x r1 r2)]) ∧ Grows w w' := by
  obtain ⟨hz, hi⟩ := zero_of_info (P := Tryz.prog) zero256
  have HIK := hidden hk
  obtain ⟨A1, A2, A3, A4, c1, c2, c3, c4, rfl, h1, h2, -, -⟩ := hk
  obtain ⟨W0, hW0⟩ : ∃ W, W = (((w.alloc (.cells #[.int .i64 s.rows, .int .i64 s.nulls, .slice A1 s.hs.length c1, .bool s.ok, .slice A2 s.cm.length c2, .slice A3 s.fs.length c3, .slice A4 s.rk.length c4] 29)).alloc (.cells #[.int .i64 x.k, .int .i64 x.n, .string x.t] 35)).alloc (.cells #[.int .i64 0, .int .i64 0] 40)) := ⟨_, rfl⟩
  have HG0 := hidden (show Grows w W0 by rw [hW0]; exact ((growK _ _).of_below (growK _ _)).of_below (growK _ _))
  have HS0 := hidden (show Row W0 w.heap.size 29 [.int .i64 s.rows, .int .i64 s.nulls, .slice A1 s.hs.length c1, .bool s.ok, .slice A2 s.cm.length c2, .slice A3 s.fs.length c3, .slice A4 s.rk.length c4] by rw [hW0]; exact (skx_rows _ _ _ _ _ _ _ _ _ _ _ _).1)
  have HX0 := hidden (show Row W0 (w.heap.size + 1) 35 [.int .i64 x.k, .int .i64 x.n, .string x.t] by rw [hW0]; exact (skx_rows _ _ _ _ _ _ _ _ _ _ _ _).2)
  have HB0 := hidden (show Row W0 (w.heap.size + 1 + 1) 40 [.int .i64 0, .int .i64 0] by rw [hW0]; exact bdrow_at2 _ _ _ _ _)
  have HX : Hid (∀ X, Grows W0 X → X.cell? ⟨w.heap.size, 0, none⟩ = some (.int .i64 s.rows) ∧ X.cell? ⟨w.heap.size, 1, none⟩ = some (.int .i64 s.nulls) ∧ X.cell? ⟨w.heap.size, 2, none⟩ = some (.slice A1 s.hs.length c1) ∧ X.cell? ⟨w.heap.size, 3, none⟩ = some (.bool s.ok) ∧ X.cell? ⟨w.heap.size, 4, none⟩ = some (.slice A2 s.cm.length c2) ∧ X.cell? ⟨w.heap.size, 5, none⟩ = some (.slice A3 s.fs.length c3) ∧ X.cell? ⟨w.heap.size, 6, none⟩ = some (.slice A4 s.rk.length c4) ∧ X.cell? ⟨w.heap.size + 1, 0, none⟩ = some (.int .i64 x.k) ∧ X.cell? ⟨w.heap.size + 1, 1, none⟩ = some (.int .i64 x.n) ∧ X.cell? ⟨w.heap.size + 1, 2, none⟩ = some (.string x.t)) := hidden fun X h => ⟨(HS0.out.grow h).cell 0, (HS0.out.grow h).cell 1, (HS0.out.grow h).cell 2, (HS0.out.grow h).cell 3, (HS0.out.grow h).cell 4, (HS0.out.grow h).cell 5, (HS0.out.grow h).cell 6, (HX0.out.grow h).cell 0, (HX0.out.grow h).cell 1, (HX0.out.grow h).cell 2⟩
  have H1 := hidden (fun X (h : Grows W0 X) => h1.grow (HG0.out.of_below h))
  have H2 := hidden (fun X (h : Grows W0 X) => h2.grow (HG0.out.of_below h))
  have hb1 := hn.lo r1
  have hb2 := hn.hi r1
  have hb3 := hn.lo r2
  have hb4 := hn.hi r2
  have hb5 := hn.n1
  have HC1 := hidden (fun W (h : Grows W0 W) => const_loose16 (qcountAtMost_any (.agg #[.int .i64 s.rows, .int .i64 s.nulls, .slice A1 s.hs.length c1, .bool s.ok, .slice A2 s.cm.length c2, .slice A3 s.fs.length c3, .slice A4 s.rk.length c4]) s x r1 W (HIK.out.grow (HG0.out.of_below h)) hl hrl ⟨by omega, by omega⟩ hr1 hlo1 hhi1))
  have HC2 := hidden (fun W (h : Grows W0 W) => const_loose16 (qCountLess_any (.agg #[.int .i64 s.rows, .int .i64 s.nulls, .slice A1 s.hs.length c1, .bool s.ok, .slice A2 s.cm.length c2, .slice A3 s.fs.length c3, .slice A4 s.rk.length c4]) s x r2 W (HIK.out.grow (HG0.out.of_below h)) hl hrl ⟨by omega, by omega⟩ hr2 hlo2 hhi2))
  have HC3 := hidden (fun W => const_loose16 (qdifference_any (bfLo s r1) (bfHi s r1) (bfLo s r2) (bfHi s r2) W ⟨by omega, by omega⟩ ⟨by omega, by omega⟩))
  have HH := hidden (fun W u (hr : ReadsV W u [x]) => const_loose16 (lhash_any 3 u [x] W (by decide) hr (by simp) (by simp [validL, hv])))
  have HCN := hidden (fun W (h : Grows W0 W) => (qcontains_any (.slice A1 s.hs.length c1) s.hs (hashR (mix 3) [x]) W (H1.out W h) hh))
  have HCO := hidden (fun W (h : Grows W0 W) => qcountersOf_any (.slice A2 s.cm.length c2) s.cm W (H2.out W h) hcl)
  have HAM := hidden (fun g W (hg : Row W g 67 (icells s.cm)) => const_loose16 (qatMost_any g s.cm x W hg hcl hv))
  have HOC := hidden (icells_oneCell_mem s.cm)
  have HCL := hidden (show (icells s.cm).length = 256 by rw [icells_length, hcl])
  have HF : Hid (ceqOut s x = (s.ok && !decide (hashR (mix 3) [x] ∈ s.hs))) := hidden rfl
  unfold ceqLo ceqHi
  generalize ceqOut s x = out at *
  generalize hashR (mix 3) [x] = hsh at *
  generalize minL [ctrC s.cm 0 x, ctrC s.cm 1 x, ctrC s.cm 2 x, ctrC s.cm 3 x] = mn at *
  generalize bfLo s r1 = lo1 at *
  generalize bfHi s r1 = hi1 at *
  generalize bfLo s r2 = lo2 at *
  generalize bfHi s r2 = hi2 at *
  generalize icells s.cm = T at *
  generalize hLO : (if out = true then (0 : Int) else max 0 (lo1 - hi2)) = LO
  generalize hHI : (if out = true then (0 : Int) else min (hi1 - lo2) mn) = HI
  have HLO := hidden hLO
  have HHI := hidden hHI
  clear hLO hHI
  clear h1 h2 hh hl hrl hcl hn hv hr1 hlo1 hhi1 hr2 hlo2 hhi2 hb1 hb2 hb3 hb4 hb5 HIK
  generalize s.ok = okb at *
  cases okb with
  | false =>
    have HO := hidden (show out = false from HF.out)
    clear HF
    go_enter Tryz.func21, Tryz.ntmps21
    go_wp2_with fail
    rw [← hW0]
    clear hW0
    refine wp_region_loose (tabRs []) (by kernel_rfl) (by kernel_rfl) tabRs_nil ?_
    iterate 3 ((with_reducible refine loose_one (v := ?_) (a' := ?_) ?_ ?_ (fun w' hC' hG' => ?_) ?_ ?_); rotate_left 2; (focus rfl); (focus rfl); (focus (obtain ⟨s0, s1, s2, s3, s4, s5, s6, x0, x1, x2⟩ := HX.out w' hC'; clear hC' hG'; go_simp; rfl)); (focus (go_simp; rfl)))
    iterate 7 ((with_reducible refine loose_skip (a' := ?_) ?_ ?_ ?_); rotate_left 1; (focus rfl); (focus (go_simp; rfl)))
    iterate 1 ((with_reducible refine loose_one (v := ?_) (a' := ?_) ?_ ?_ (fun w' hC' hG' => ?_) ?_ ?_); rotate_left 2; (focus rfl); (focus rfl); (focus (obtain ⟨s0, s1, s2, s3, s4, s5, s6, x0, x1, x2⟩ := HX.out w' hC'; clear hC' hG'; go_simp; rfl)); (focus (go_simp; rfl)))
    refine loose_done (fun w5 hC5 hG5 => ?_)
    have HCw5 := hidden hC5
    clear hC5 hG5
    go_wp2_with fail
    refine wp_region_loose_tail 8 (tabRs [(2, ConstV (.agg #[.int .i64 lo1, .int .i64 hi1])), (5, ConstV (.agg #[.int .i64 lo2, .int .i64 hi2])), (6, ConstV (.agg #[.int .i64 (lo1 - hi2), .int .i64 (hi1 - lo2)])), (7, NewBd w5.heap.size)]) (by kernel_rfl) (by kernel_rfl) (tabRs_cons ConstV.lasts (tabRs_cons ConstV.lasts (tabRs_cons ConstV.lasts (tabRs_cons NewBd.lasts tabRs_nil)))) ?_
    simp only [List.take_succ_cons, List.take_zero, List.drop_succ_cons, List.drop_zero]
    iterate 2 ((with_reducible refine loose_one (v := ?_) (a' := ?_) ?_ ?_ (fun w' hC' hG' => ?_) ?_ ?_); rotate_left 2; (focus rfl); (focus rfl); (focus (obtain ⟨s0, s1, s2, s3, s4, s5, s6, x0, x1, x2⟩ := HX.out w' (HCw5.out.of_below hC'); clear hC' hG'; go_simp; rfl)); (focus (go_simp; rfl)))
    refine loose_call (R := ConstV (.agg #[.int .i64 lo1, .int .i64 hi1])) (f := 66) (args := #[.agg #[.int .i64 s.rows, .int .i64 s.nulls, .slice A1 s.hs.length c1, .bool false, .slice A2 s.cm.length c2, .slice A3 s.fs.length c3, .slice A4 s.rk.length c4], .agg #[.int .i64 x.k, .int .i64 x.n, .string x.t]]) (by rfl) (by rfl) (fun _ => by go_simp) (fun w' hC' hG' => HC1.out w' (HCw5.out.of_below hC')) ?_
    rintro _ ⟨_, _, rfl⟩
    refine ⟨?_, ?_, ?_⟩
    rotate_left
    · go_simp
      rfl
    iterate 2 ((with_reducible refine loose_one (v := ?_) (a' := ?_) ?_ ?_ (fun w' hC' hG' => ?_) ?_ ?_); rotate_left 2; (focus rfl); (focus rfl); (focus (obtain ⟨s0, s1, s2, s3, s4, s5, s6, x0, x1, x2⟩ := HX.out w' (HCw5.out.of_below hC'); clear hC' hG'; go_simp; rfl)); (focus (go_simp; rfl)))
    refine loose_call (R := ConstV (.agg #[.int .i64 lo2, .int .i64 hi2])) (f := 23) (args := #[.agg #[.int .i64 s.rows, .int .i64 s.nulls, .slice A1 s.hs.length c1, .bool false, .slice A2 s.cm.length c2, .slice A3 s.fs.length c3, .slice A4 s.rk.length c4], .agg #[.int .i64 x.k, .int .i64 x.n, .string x.t]]) (by rfl) (by rfl) (fun _ => by go_simp) (fun w' hC' hG' => HC2.out w' (HCw5.out.of_below hC')) ?_
    rintro _ ⟨_, _, rfl⟩
    refine ⟨?_, ?_, ?_⟩
    rotate_left
    · go_simp
      rfl
    refine loose_call (R := ConstV (.agg #[.int .i64 (lo1 - hi2), .int .i64 (hi1 - lo2)])) (f := 76) (args := #[.agg #[.int .i64 lo1, .int .i64 hi1], .agg #[.int .i64 lo2, .int .i64 hi2]]) (by rfl) (by rfl) (fun _ => by go_simp) (fun w' hC' hG' => HC3.out w') ?_
    rintro _ ⟨_, _, rfl⟩
    refine ⟨?_, ?_, ?_⟩
    rotate_left
    · go_simp
      rfl
    refine loose_new (R := NewBd w5.heap.size) (by rfl) (by rfl) (fun w' hC' hG' => ?_) ?_
    · exact ⟨.pointer (some ⟨w'.heap.size, 0, none⟩), w'.alloc (.cells #[.int .i64 0, .int .i64 0] 40), by first | rfl | go_simp, (Below.refl _ _).alloc (Nat.le_refl _) _, w'.heap.size, rfl, hC'.size, Row.new w' 40 #[.int .i64 0, .int .i64 0] [.int .i64 0, .int .i64 0] rfl⟩
    rintro _ ⟨_, _, b11, rfl, hb11, _⟩
    refine ⟨?_, ?_, ?_⟩
    rotate_left
    · go_simp
      rfl
    refine loose_done (fun w7 hC' hG' => ?_)
    obtain ⟨b12, hbe, hb12, hrow⟩ := (hG' 7).2 rfl
    clear hG'
    have hbb : b12 = b11 := by injection hbe with hbe; injection hbe with hbe; injection hbe with hbe; exact hbe.symm
    rw [hbb] at hrow hb12
    have HB7 := hidden (HCw5.out.of_below hC')
    have HL7 := hidden (Nat.le_trans HCw5.out.size hb12)
    clear hbb hbe hC' hb12
    refine wpList_store_bd rfl _ _ rfl w7 rfl b11 rfl (lo1 - hi2) (hi1 - lo2) rfl _ _ hrow ?_
    intro w8 hr8 hg8
    have HR8 := hidden hr8
    have HC8 := hidden (hg8 W0 HB7.out HL7.out)
    clear hr8 hg8 hrow hb11
    obtain ⟨s0, s1, s2, s3, s4, s5, s6, x0, x1, x2⟩ := HX.out w8 HC8.out
    go_wp2_with fail
    refine (HCO.out w8 HC8.out).mono ?_
    rintro e w9 ⟨rfl, g9⟩
    have HR9 := hidden (HR8.out.grow g9)
    have HC9 := hidden (HC8.out.of_below g9)
    clear g9 s0 s1 s2 s3 s4 s5 s6 x0 x1 x2
    go_wp2_with ((with_reducible refine at_ctr rfl _ _ rfl ?_); refine wpList_store_ctr rfl _ _ rfl w9.heap.size rfl T rfl HCL.out HOC.out (List.replicate 256 (.int .i64 0)) (row_ctr0 w9) (List.length_replicate ..) ?_; intro w10 hr hg; have HR10 := hidden hr; have HG10 := hidden (hg w9 (growK _ _) (Nat.le_refl _)); clear hr hg)
    have HC10 := hidden (HC9.out.of_below HG10.out)
    have HQ := hidden (HR9.out.grow HG10.out)
    have HY := hidden (fun X (h : Grows w10 X) => show X.cell? ⟨b11, 0, none⟩ = some (.int .i64 (lo1 - hi2)) ∧ X.cell? ⟨b11, 1, none⟩ = some (.int .i64 (hi1 - lo2)) from ⟨(HQ.out.grow h).cell 0, (HQ.out.grow h).cell 1⟩)
    refine wp_region_loose_tail 9 (tabRs [(6, ConstV (.int .i64 mn))]) (by kernel_rfl) (by kernel_rfl) (tabRs_cons ConstV.lasts tabRs_nil) ?_
    simp only [List.take_succ_cons, List.take_zero, List.drop_succ_cons, List.drop_zero]
    iterate 6 ((with_reducible refine loose_one (v := ?_) (a' := ?_) ?_ ?_ (fun w' hC' hG' => ?_) ?_ ?_); rotate_left 2; (focus rfl); (focus rfl); (focus (obtain ⟨s0, s1, s2, s3, s4, s5, s6, x0, x1, x2⟩ := HX.out w' (HC10.out.of_below hC'); obtain ⟨y0, y1⟩ := HY.out w' hC'; clear hC' hG'; go_simp; rfl)); (focus (go_simp; rfl)))
    refine loose_call (R := ConstV (.int .i64 mn)) (f := 77) (args := #[.pointer (some ⟨w9.heap.size, 0, none⟩), .agg #[.int .i64 x.k, .int .i64 x.n, .string x.t]]) (by rfl) (by rfl) (fun _ => by go_simp) (fun w' hC' hG' => HAM.out w9.heap.size w' (HR10.out.grow hC')) ?_
    rintro _ ⟨_, _, rfl⟩
    refine ⟨?_, ?_, ?_⟩
    rotate_left
    · go_simp
      rfl
    iterate 2 ((with_reducible refine loose_one (v := ?_) (a' := ?_) ?_ ?_ (fun w' hC' hG' => ?_) ?_ ?_); rotate_left 2; (focus rfl); (focus rfl); (focus (obtain ⟨s0, s1, s2, s3, s4, s5, s6, x0, x1, x2⟩ := HX.out w' (HC10.out.of_below hC'); obtain ⟨y0, y1⟩ := HY.out w' hC'; clear hC' hG'; go_simp; rfl)); (focus (go_simp; rfl)))
    refine loose_done (fun w11 hC' hG' => ?_)
    have HC11 := hidden (HC10.out.of_below hC')
    have HB11 := hidden (HB0.out.grow HC11.out)
    clear hC' hG'
    refine wpList_store_bd rfl _ _ rfl w11 rfl (w.heap.size + 1 + 1) rfl (max 0 (lo1 - hi2)) (min (hi1 - lo2) mn) rfl _ _ HB11.out ?_
    intro W hr hg
    have HRR := hidden hr
    have HGG := hidden (hg w (HG0.out.of_below HC11.out) (by omega))
    clear hr hg
    go_wp2_with fail
    refine bodyPost_ret (results_bd rfl _ _ _ _ _ rfl HRR.out) rfl ⟨?_, HGG.out⟩
    rw [← HLO.out, ← HHI.out, HO.out]
    first | done | rfl
  | true =>
    have HF := hidden (show out = !decide (hsh ∈ s.hs) from HF.out)
    obtain ⟨m, hm⟩ : ∃ m, decide (hsh ∈ s.hs) = m := ⟨_, rfl⟩
    rw [hm] at HF HCN
    have HCM := hidden (fun W (h : Grows W0 W) => const_loose16 ((HCN.out W h).mono fun e w' ⟨h1, h2⟩ => ⟨h1, by rw [h2]; exact Below.refl _ _⟩))
    clear hm HCN
    go_enter Tryz.func21, Tryz.ntmps21
    go_wp2_with fail
    rw [← hW0]
    clear hW0
    refine wp_region_loose (tabRs [(6, Sl1 x), (7, ConstV (.int .u64 (hsh : Int))), (8, ConstV (.bool m))]) (by kernel_rfl) (by kernel_rfl) (tabRs_cons Sl1.lasts (tabRs_cons ConstV.lasts (tabRs_cons ConstV.lasts tabRs_nil))) ?_
    iterate 6 ((with_reducible refine loose_one (v := ?_) (a' := ?_) ?_ ?_ (fun w' hC' hG' => ?_) ?_ ?_); rotate_left 2; (focus rfl); (focus rfl); (focus (obtain ⟨s0, s1, s2, s3, s4, s5, s6, x0, x1, x2⟩ := HX.out w' hC'; clear hC' hG'; go_simp; rfl)); (focus (go_simp; rfl)))
    refine loose_new (R := Sl1 x) (by rfl) (by rfl) (fun w' hC' hG' => ?_) ?_
    · exact ⟨.slice (some ⟨w'.heap.size, 0, none⟩) 1 1, w'.alloc (.cells #[.int .i64 x.k, .int .i64 x.n, .string x.t] 35), by first | rfl | go_simp, (Below.refl _ _).alloc (Nat.le_refl _) _, readsV_one w' x⟩
    intro v6 hv6
    refine ⟨?_, ?_, ?_⟩
    rotate_left
    · go_simp
      rfl
    refine loose_call (R := ConstV (.int .u64 (hsh : Int))) (f := 43) (args := #[.int .u64 3, v6]) (by rfl) (by rfl) (fun _ => by go_simp) (fun w' hC' hG' => HH.out w' v6 ((hG' 6 (by kernel_rfl)).2 rfl)) ?_
    rintro _ ⟨_, _, rfl⟩
    refine ⟨?_, ?_, ?_⟩
    rotate_left
    · go_simp
      rfl
    refine loose_call (R := ConstV (.bool m)) (f := 75) (args := #[.slice A1 s.hs.length c1, .int .u64 (hsh : Int)]) (by rfl) (by rfl) (fun _ => by go_simp) (fun w' hC' hG' => HCM.out w' hC') ?_
    rintro _ ⟨_, _, rfl⟩
    refine ⟨?_, ?_, ?_⟩
    rotate_left
    · go_simp
      rfl
    iterate 2 ((with_reducible refine loose_one (v := ?_) (a' := ?_) ?_ ?_ (fun w' hC' hG' => ?_) ?_ ?_); rotate_left 2; (focus rfl); (focus rfl); (focus (obtain ⟨s0, s1, s2, s3, s4, s5, s6, x0, x1, x2⟩ := HX.out w' hC'; clear hC' hG'; go_simp; rfl)); (focus (go_simp; rfl)))
    refine loose_done (fun w5 hC5 hG5 => ?_)
    have HCw5 := hidden hC5
    clear hC5 hG5 hv6
    cases m with
    | false =>
      have HO := hidden (show out = true from HF.out)
      go_wp2_with ((with_reducible refine at_bd rfl _ _ rfl ?_); refine wpList_store_bd rfl _ _ rfl w5 rfl (w.heap.size + 1 + 1) rfl 0 0 rfl _ _ (HB0.out.grow HCw5.out) ?_; intro W hr hg; have HRR := hidden hr; have HGG := hidden (hg w (HG0.out.of_below HCw5.out) (by omega)); clear hr hg)
      refine bodyPost_ret (results_bd rfl _ _ _ _ _ rfl HRR.out) rfl ⟨?_, HGG.out⟩
      rw [← HLO.out, ← HHI.out, HO.out]
      first | done | rfl
    | true =>
      have HO := hidden (show out = false from HF.out)
      go_wp2_with fail
      refine wp_region_loose_tail 8 (tabRs [(2, ConstV (.agg #[.int .i64 lo1, .int .i64 hi1])), (5, ConstV (.agg #[.int .i64 lo2, .int .i64 hi2])), (6, ConstV (.agg #[.int .i64 (lo1 - hi2), .int .i64 (hi1 - lo2)])), (7, NewBd w5.heap.size)]) (by kernel_rfl) (by kernel_rfl) (tabRs_cons ConstV.lasts (tabRs_cons ConstV.lasts (tabRs_cons ConstV.lasts (tabRs_cons NewBd.lasts tabRs_nil)))) ?_
      simp only [List.take_succ_cons, List.take_zero, List.drop_succ_cons, List.drop_zero]
      iterate 2 ((with_reducible refine loose_one (v := ?_) (a' := ?_) ?_ ?_ (fun w' hC' hG' => ?_) ?_ ?_); rotate_left 2; (focus rfl); (focus rfl); (focus (obtain ⟨s0, s1, s2, s3, s4, s5, s6, x0, x1, x2⟩ := HX.out w' (HCw5.out.of_below hC'); clear hC' hG'; go_simp; rfl)); (focus (go_simp; rfl)))
      refine loose_call (R := ConstV (.agg #[.int .i64 lo1, .int .i64 hi1])) (f := 66) (args := #[.agg #[.int .i64 s.rows, .int .i64 s.nulls, .slice A1 s.hs.length c1, .bool true, .slice A2 s.cm.length c2, .slice A3 s.fs.length c3, .slice A4 s.rk.length c4], .agg #[.int .i64 x.k, .int .i64 x.n, .string x.t]]) (by rfl) (by rfl) (fun _ => by go_simp) (fun w' hC' hG' => HC1.out w' (HCw5.out.of_below hC')) ?_
      rintro _ ⟨_, _, rfl⟩
      refine ⟨?_, ?_, ?_⟩
      rotate_left
      · go_simp
        rfl
      iterate 2 ((with_reducible refine loose_one (v := ?_) (a' := ?_) ?_ ?_ (fun w' hC' hG' => ?_) ?_ ?_); rotate_left 2; (focus rfl); (focus rfl); (focus (obtain ⟨s0, s1, s2, s3, s4, s5, s6, x0, x1, x2⟩ := HX.out w' (HCw5.out.of_below hC'); clear hC' hG'; go_simp; rfl)); (focus (go_simp; rfl)))
      refine loose_call (R := ConstV (.agg #[.int .i64 lo2, .int .i64 hi2])) (f := 23) (args := #[.agg #[.int .i64 s.rows, .int .i64 s.nulls, .slice A1 s.hs.length c1, .bool true, .slice A2 s.cm.length c2, .slice A3 s.fs.length c3, .slice A4 s.rk.length c4], .agg #[.int .i64 x.k, .int .i64 x.n, .string x.t]]) (by rfl) (by rfl) (fun _ => by go_simp) (fun w' hC' hG' => HC2.out w' (HCw5.out.of_below hC')) ?_
      rintro _ ⟨_, _, rfl⟩
      refine ⟨?_, ?_, ?_⟩
      rotate_left
      · go_simp
        rfl
      refine loose_call (R := ConstV (.agg #[.int .i64 (lo1 - hi2), .int .i64 (hi1 - lo2)])) (f := 76) (args := #[.agg #[.int .i64 lo1, .int .i64 hi1], .agg #[.int .i64 lo2, .int .i64 hi2]]) (by rfl) (by rfl) (fun _ => by go_simp) (fun w' hC' hG' => HC3.out w') ?_
      rintro _ ⟨_, _, rfl⟩
      refine ⟨?_, ?_, ?_⟩
      rotate_left
      · go_simp
        rfl
      refine loose_new (R := NewBd w5.heap.size) (by rfl) (by rfl) (fun w' hC' hG' => ?_) ?_
      · exact ⟨.pointer (some ⟨w'.heap.size, 0, none⟩), w'.alloc (.cells #[.int .i64 0, .int .i64 0] 40), by first | rfl | go_simp, (Below.refl _ _).alloc (Nat.le_refl _) _, w'.heap.size, rfl, hC'.size, Row.new w' 40 #[.int .i64 0, .int .i64 0] [.int .i64 0, .int .i64 0] rfl⟩
      rintro _ ⟨_, _, b11, rfl, hb11, _⟩
      refine ⟨?_, ?_, ?_⟩
      rotate_left
      · go_simp
        rfl
      refine loose_done (fun w7 hC' hG' => ?_)
      obtain ⟨b12, hbe, hb12, hrow⟩ := (hG' 7).2 rfl
      clear hG'
      have hbb : b12 = b11 := by injection hbe with hbe; injection hbe with hbe; injection hbe with hbe; exact hbe.symm
      rw [hbb] at hrow hb12
      have HB7 := hidden (HCw5.out.of_below hC')
      have HL7 := hidden (Nat.le_trans HCw5.out.size hb12)
      clear hbb hbe hC' hb12
      refine wpList_store_bd rfl _ _ rfl w7 rfl b11 rfl (lo1 - hi2) (hi1 - lo2) rfl _ _ hrow ?_
      intro w8 hr8 hg8
      have HR8 := hidden hr8
      have HC8 := hidden (hg8 W0 HB7.out HL7.out)
      clear hr8 hg8 hrow hb11
      obtain ⟨s0, s1, s2, s3, s4, s5, s6, x0, x1, x2⟩ := HX.out w8 HC8.out
      go_wp2_with fail
      refine (HCO.out w8 HC8.out).mono ?_
      rintro e w9 ⟨rfl, g9⟩
      have HR9 := hidden (HR8.out.grow g9)
      have HC9 := hidden (HC8.out.of_below g9)
      clear g9 s0 s1 s2 s3 s4 s5 s6 x0 x1 x2
      go_wp2_with ((with_reducible refine at_ctr rfl _ _ rfl ?_); refine wpList_store_ctr rfl _ _ rfl w9.heap.size rfl T rfl HCL.out HOC.out (List.replicate 256 (.int .i64 0)) (row_ctr0 w9) (List.length_replicate ..) ?_; intro w10 hr hg; have HR10 := hidden hr; have HG10 := hidden (hg w9 (growK _ _) (Nat.le_refl _)); clear hr hg)
      have HC10 := hidden (HC9.out.of_below HG10.out)
      have HQ := hidden (HR9.out.grow HG10.out)
      have HY := hidden (fun X (h : Grows w10 X) => show X.cell? ⟨b11, 0, none⟩ = some (.int .i64 (lo1 - hi2)) ∧ X.cell? ⟨b11, 1, none⟩ = some (.int .i64 (hi1 - lo2)) from ⟨(HQ.out.grow h).cell 0, (HQ.out.grow h).cell 1⟩)
      refine wp_region_loose_tail 9 (tabRs [(6, ConstV (.int .i64 mn))]) (by kernel_rfl) (by kernel_rfl) (tabRs_cons ConstV.lasts tabRs_nil) ?_
      simp only [List.take_succ_cons, List.take_zero, List.drop_succ_cons, List.drop_zero]
      iterate 6 ((with_reducible refine loose_one (v := ?_) (a' := ?_) ?_ ?_ (fun w' hC' hG' => ?_) ?_ ?_); rotate_left 2; (focus rfl); (focus rfl); (focus (obtain ⟨s0, s1, s2, s3, s4, s5, s6, x0, x1, x2⟩ := HX.out w' (HC10.out.of_below hC'); obtain ⟨y0, y1⟩ := HY.out w' hC'; clear hC' hG'; go_simp; rfl)); (focus (go_simp; rfl)))
      refine loose_call (R := ConstV (.int .i64 mn)) (f := 77) (args := #[.pointer (some ⟨w9.heap.size, 0, none⟩), .agg #[.int .i64 x.k, .int .i64 x.n, .string x.t]]) (by rfl) (by rfl) (fun _ => by go_simp) (fun w' hC' hG' => HAM.out w9.heap.size w' (HR10.out.grow hC')) ?_
      rintro _ ⟨_, _, rfl⟩
      refine ⟨?_, ?_, ?_⟩
      rotate_left
      · go_simp
        rfl
      iterate 2 ((with_reducible refine loose_one (v := ?_) (a' := ?_) ?_ ?_ (fun w' hC' hG' => ?_) ?_ ?_); rotate_left 2; (focus rfl); (focus rfl); (focus (obtain ⟨s0, s1, s2, s3, s4, s5, s6, x0, x1, x2⟩ := HX.out w' (HC10.out.of_below hC'); obtain ⟨y0, y1⟩ := HY.out w' hC'; clear hC' hG'; go_simp; rfl)); (focus (go_simp; rfl)))
      refine loose_done (fun w11 hC' hG' => ?_)
      have HC11 := hidden (HC10.out.of_below hC')
      have HB11 := hidden (HB0.out.grow HC11.out)
      clear hC' hG'
      refine wpList_store_bd rfl _ _ rfl w11 rfl (w.heap.size + 1 + 1) rfl (max 0 (lo1 - hi2)) (min (hi1 - lo2) mn) rfl _ _ HB11.out ?_
      intro W hr hg
      have HRR := hidden hr
      have HGG := hidden (hg w (HG0.out.of_below HC11.out) (by omega))
      clear hr hg
      go_wp2_with fail
      refine bodyPost_ret (results_bd rfl _ _ _ _ _ rfl HRR.out) rfl ⟨?_, HGG.out⟩
      rw [← HLO.out, ← HHI.out, HO.out]
      first | done | rfl
end Go.Proofs.YtoaklmceejeblaaGreat
/-
  Shaken: what the claims of this seat need of this text. No condition.
-/
namespace Go.Proofs.YtoaklmceejeblaaGreat
open Go.RowKit
set_option linter.unusedVariables false
set_option linter.unusedSimpArgs false
def widK (s : Sk) : Int := match s.fs.head?, s.fs.getLast? with
  | some f, some l => (l.n - f.n) % 18446744073709551616
  | _, _ => 0
def cdLo (s : Sk) : Int := if s.ok = true then (s.hs.length : Int) else (s.hs.length : Int) + 1
def cdHi (s : Sk) : Int := if (kindK s.fs = 2 ∨ kindK s.fs = 1) ∧ widK s < s.rows - s.nulls then widK s + 1 else s.rows - s.nulls
set_option maxRecDepth 8000 in
set_option maxHeartbeats 8000000 in
theorem qCountDistinct_any (v : Value) (s : Sk) (w : World) (hk : IsK w v s) (hh : s.hs.length ≤ 1000000) (hl : s.fs.length ≤ 100000) (hn0 : 0 ≤ s.rows - s.nulls) (hn1 : s.rows - s.nulls ≤ 9223372036854775807) :
    Calls Tryz.prog 27 #[v] w fun e w' => e = .returned (.agg #[.int .i64 (cdLo s), .int .i64 (cdHi s)]) ∧ Grows w w' := by
  have HIK := hidden hk
  obtain ⟨A1, A2, A3, A4, c1, c2, c3, c4, rfl, -, -, h3, -⟩ := hk
  obtain ⟨W0, hW0⟩ : ∃ W, W = ((w.alloc (.cells #[.int .i64 s.rows, .int .i64 s.nulls, .slice A1 s.hs.length c1, .bool s.ok, .slice A2 s.cm.length c2, .slice A3 s.fs.length c3, .slice A4 s.rk.length c4] 29)).alloc (.cells #[.int .i64 0, .int .i64 0] 40)) := ⟨_, rfl⟩
  have HW := hidden hW0
  have HG0 := hidden (show Grows w W0 by rw [hW0]; exact (growK _ _).of_below (growK _ _))
  have HS0 := hidden (show Row W0 w.heap.size 29 [.int .i64 s.rows, .int .i64 s.nulls, .slice A1 s.hs.length c1, .bool s.ok, .slice A2 s.cm.length c2, .slice A3 s.fs.length c3, .slice A4 s.rk.length c4] by rw [hW0]; exact skrow_at _ _ _ _ _ _ _)
  have HB0 := hidden (show Row W0 (w.heap.size + 1) 40 [.int .i64 0, .int .i64 0] by rw [hW0]; exact bdrow_at w _ _ _)
  have HX : Hid (∀ X, Grows W0 X → X.cell? ⟨w.heap.size, 0, none⟩ = some (.int .i64 s.rows) ∧ X.cell? ⟨w.heap.size, 1, none⟩ = some (.int .i64 s.nulls) ∧ X.cell? ⟨w.heap.size, 2, none⟩ = some (.slice A1 s.hs.length c1) ∧ X.cell? ⟨w.heap.size, 3, none⟩ = some (.bool s.ok) ∧ X.cell? ⟨w.heap.size, 4, none⟩ = some (.slice A2 s.cm.length c2) ∧ X.cell? ⟨w.heap.size, 5, none⟩ = some (.slice A3 s.fs.length c3) ∧ X.cell? ⟨w.heap.size, 6, none⟩ = some (.slice A4 s.rk.length c4)) := hidden fun X h => ⟨(HS0.out.grow h).cell 0, (HS0.out.grow h).cell 1, (HS0.out.grow h).cell 2, (HS0.out.grow h).cell 3, (HS0.out.grow h).cell 4, (HS0.out.grow h).cell 5, (HS0.out.grow h).cell 6⟩
  have H3 := hidden (fun X (h : Grows W0 X) => h3.grow (HG0.out.of_below h))
  have HP := hidden (fun X => const_loose16 (qpresent_any s.rows s.nulls A1 A2 A3 A4 s.hs.length c1 s.cm.length c2 s.fs.length c3 s.rk.length c4 s.ok X ⟨by omega, by omega⟩))
  have HKD := hidden (fun X (h : Grows W0 X) => qkind_any (.agg #[.int .i64 s.rows, .int .i64 s.nulls, .slice A1 s.hs.length c1, .bool s.ok, .slice A2 s.cm.length c2, .slice A3 s.fs.length c3, .slice A4 s.rk.length c4]) s X (HIK.out.grow (HG0.out.of_below h)))
  have HLO := hidden (show cdLo s = if s.ok = true then (s.hs.length : Int) else (s.hs.length : Int) + 1 from rfl)
  have HHI := hidden (show cdHi s = if (kindK s.fs = 2 ∨ kindK s.fs = 1) ∧ widK s < s.rows - s.nulls then widK s + 1 else s.rows - s.nulls from rfl)
  obtain ⟨n, hne⟩ : ∃ n, n = s.rows - s.nulls := ⟨_, rfl⟩
  rw [← hne] at HP HHI hn0 hn1
  generalize cdLo s = LO at *
  generalize cdHi s = HI at *
  have HFS := hidden (show kindK s.fs = 2 ∨ kindK s.fs = 1 → 0 < s.fs.length from fun h => by
    cases hf : s.fs with
    | nil => rw [hf] at h; simp [kindK] at h
    | cons a b => simp)
  generalize hkd : kindK s.fs = kd at *
  have HSF := hidden hkd
  have hwl : wrap64 ((s.hs.length : Int) + 1) = (s.hs.length : Int) + 1 := by unfold wrap64; omega
  have hwl2 : IntKind.i64.wrap ((s.hs.length : Int) + 1) = (s.hs.length : Int) + 1 := by rw [IntKind.wrap_i64]; omega
  clear h3 HIK hne hkd hW0
  go_enter Tryz.func27, Tryz.ntmps27
  go_wp2_with fail
  rw [← HW.out]
  refine wp_region_loose_tail 7 (tabRs [(4, ConstV (.int .i64 n)), (6, NewBd W0.heap.size)]) (by kernel_rfl) (by kernel_rfl) (tabRs_cons ConstV.lasts (tabRs_cons NewBd.lasts tabRs_nil)) ?_
  simp only [List.take_succ_cons, List.take_zero, List.drop_succ_cons, List.drop_zero]
  iterate 4 ((with_reducible refine loose_one (v := ?_) (a' := ?_) ?_ ?_ (fun w' hC' hG' => ?_) ?_ ?_); rotate_left 2; (focus rfl); (focus rfl); (focus (obtain ⟨s0, s1, s2, s3, s4, s5, s6⟩ := HX.out w' (hC'); clear hC' hG'; go_simp; rfl)); (focus (go_simp; rfl)))
  refine loose_call (R := ConstV (.int .i64 n)) (f := 67) (args := #[.agg #[.int .i64 s.rows, .int .i64 s.nulls, .slice A1 s.hs.length c1, .bool s.ok, .slice A2 s.cm.length c2, .slice A3 s.fs.length c3, .slice A4 s.rk.length c4]]) (by rfl) (by rfl) (fun _ => by go_simp) (fun w' hC' hG' => HP.out w') ?_
  rintro _ ⟨_, _, rfl⟩
  refine ⟨?_, ?_, ?_⟩
  rotate_left
  · go_simp
    rfl
  iterate 1 ((with_reducible refine loose_one (v := ?_) (a' := ?_) ?_ ?_ (fun w' hC' hG' => ?_) ?_ ?_); rotate_left 2; (focus rfl); (focus rfl); (focus (obtain ⟨s0, s1, s2, s3, s4, s5, s6⟩ := HX.out w' (hC'); clear hC' hG'; go_simp; rfl)); (focus (go_simp; rfl)))
  refine loose_new (R := NewBd W0.heap.size) (by rfl) (by rfl) (fun w' hC' hG' => ?_) ?_
  · exact ⟨.pointer (some ⟨w'.heap.size, 0, none⟩), w'.alloc (.cells #[.int .i64 0, .int .i64 0] 40), by first | rfl | go_simp, (Below.refl _ _).alloc (Nat.le_refl _) _, w'.heap.size, rfl, hC'.size, Row.new w' 40 #[.int .i64 0, .int .i64 0] [.int .i64 0, .int .i64 0] rfl⟩
  rintro _ ⟨_, _, b11, rfl, hb11, _⟩
  refine ⟨?_, ?_, ?_⟩
  rotate_left
  · go_simp
    rfl
  refine loose_done (fun w7 hC' hG' => ?_)
  obtain ⟨b12, hbe, hb12, hrow⟩ := (hG' 6).2 rfl
  clear hG'
  have hbb : b12 = b11 := by injection hbe with hbe; injection hbe with hbe; injection hbe with hbe; exact hbe.symm
  rw [hbb] at hrow hb12
  have HB7 := hidden hC'
  have HL7 := hidden hb12
  clear hbb hbe hC' hb12
  refine wpList_store_bd rfl _ _ rfl w7 rfl b11 rfl (s.hs.length : Int) n rfl _ _ hrow ?_
  intro w8 hr8 hg8
  have HR8 := hidden hr8
  have HC8 := hidden (hg8 W0 HB7.out HL7.out)
  clear hr8 hg8 hrow hb11
  obtain ⟨s0, s1, s2, s3, s4, s5, s6⟩ := HX.out w8 HC8.out
  generalize hok : s.ok = okb at *
  cases okb with
  | true =>
    have HLO := hidden (show LO = (s.hs.length : Int) from HLO.out)
    have HCw8 := hidden HC8.out
    have HRw8 := hidden HR8.out
    clear s0 s1 s2 s3 s4 s5 s6
    obtain ⟨s0, s1, s2, s3, s4, s5, s6⟩ := HX.out w8 HCw8.out
    go_wp2_with fail
    refine (HKD.out w8 HCw8.out).mono ?_
    rintro e wk ⟨rfl, g9⟩
    have HRk := hidden (HRw8.out.grow g9)
    have HCk := hidden (HCw8.out.of_below g9)
    clear g9 s0 s1 s2 s3 s4 s5 s6
    have q0 := HRk.out.cell 0
    have q1 := HRk.out.cell 1
    simp only [List.getElem?_cons_succ, List.getElem?_cons_zero, List.set_cons_zero, List.set_cons_succ] at q0 q1
    by_cases hk : kd = 2 ∨ kd = 1
    · have hpos := HFS.out hk
      obtain ⟨m, hm⟩ : ∃ m, s.fs.length = m + 1 := ⟨s.fs.length - 1, by omega⟩
      obtain ⟨f, hf⟩ : ∃ f, s.fs[0]? = some f := ⟨_, List.getElem?_eq_getElem hpos⟩
      obtain ⟨l, hlst⟩ : ∃ l, s.fs[m]? = some l := ⟨_, List.getElem?_eq_getElem (by omega)⟩
      have HWD := hidden (show widK s = (l.n - f.n) % 18446744073709551616 by
        unfold widK
        rw [List.head?_eq_getElem?, hf, List.getLast?_eq_getElem?, hm, Nat.add_sub_cancel, hlst])
      obtain ⟨A', c', he, _, hcell⟩ := H3.out wk HCk.out
      injection he with e1 e2 e3
      subst e1 e3
      obtain ⟨bb, off, rfl, hcell2⟩ := hcell hpos
      have kf := (hcell2 0 f hf).2.1
      have kl := (hcell2 m l hlst).2.1
      rw [Nat.zero_mul, Nat.add_zero] at kf
      have HY := hidden (fun X (h : Grows wk X) => show X.cell? ⟨w.heap.size, 5, none⟩ = some (.slice (some ⟨bb, off, none⟩) (m + 1) c3) ∧ X.cell? ⟨bb, off + 1, none⟩ = some (.int .i64 f.n) ∧ X.cell? ⟨bb, off + m * 3 + 1, none⟩ = some (.int .i64 l.n) from ⟨by rw [← hm]; exact (HS0.out.grow (HCk.out.of_below h)).cell 5, (h.cell (World.block_lt_of_cell? _ _ kf)).trans kf, (h.cell (World.block_lt_of_cell? _ _ kl)).trans kl⟩)
      generalize widK s = wd at *
      generalize f.n = fn at *
      generalize l.n = ln at *
      have hm0 : m ≤ 100000 := by omega
      have i1 : wrap64 ((m : Int) + 1 - 1) = (m : Int) := by unfold wrap64; omega
      have i2 : IntKind.i64.wrap ((m : Int) + 1 - 1) = (m : Int) := by rw [IntKind.wrap_i64]; omega
      have i3 : ((m : Int) + 1 - 1) = (m : Int) := by omega
      have i5 : IntKind.i64.wrap (m : Int) = (m : Int) := by rw [IntKind.wrap_i64]; omega
      have i6 : (m : Int) < (m : Int) + 1 := by omega
      have i7 : (0 : Int) < (m : Int) + 1 := by omega
      have i4 : (((m + 1 : Nat)) : Int) = (m : Int) + 1 := by omega
      clear hcell hcell2 e2 kf kl hf hlst hpos hm
      rcases hk with rfl | rfl
      · go_wp2_with fail
        refine wp_region_loose (tabRs []) (by kernel_rfl) (by kernel_rfl) tabRs_nil ?_
        iterate 18 ((with_reducible refine loose_one (v := ?_) (a' := ?_) ?_ ?_ (fun w' hC' hG' => ?_) ?_ ?_); rotate_left 2; (focus rfl); (focus rfl); (focus (obtain ⟨p5, kf, kl⟩ := HY.out w' hC'; clear hC' hG'; go_simp; rfl)); (focus (go_simp; rfl)))
        refine loose_done (fun wz hC' hG' => ?_)
        have HRz := hidden (HRk.out.grow hC')
        have HCz := hidden (HCk.out.of_below hC')
        clear hC' hG' q0 q1
        have hwd : IntKind.u64.wrap (IntKind.u64.wrap ln - IntKind.u64.wrap fn) = wd := by rw [HWD.out, IntKind.wrap_u64, IntKind.wrap_u64, IntKind.wrap_u64]; omega
        have hwb : 0 ≤ wd := by rw [HWD.out]; omega
        rw [hwd]
        clear hwd i1 i2 i3 i4 i5 i6 i7
        have q0 := HRz.out.cell 0
        have q1 := HRz.out.cell 1
        simp only [List.getElem?_cons_succ, List.getElem?_cons_zero, List.set_cons_zero, List.set_cons_succ] at q0 q1
        have j1 : IntKind.u64.wrap n = n := by rw [IntKind.wrap_u64]; omega
        by_cases hlt : wd < n
        · have d1 : decide (wd < n) = true := by simpa using hlt
          have j2 : IntKind.i64.wrap wd = wd := by rw [IntKind.wrap_i64]; omega
          have j3 : IntKind.i64.wrap (wd + 1) = wd + 1 := by rw [IntKind.wrap_i64]; omega
          have HH := hidden (show HI = wd + 1 by rw [HHI.out, if_pos ⟨by simp, hlt⟩])
          clear hlt
          go_wp2_with (first | ((with_reducible refine at_i64q rfl _ _ rfl ?_); refine wpList_store_c rfl _ _ _ rfl size_i64q b11 1 rfl (.int .i64 (wd + 1)) rfl rfl _ _ HRz.out (Nat.lt_of_lt_of_eq (show 1 < 2 by decide) rfl) ?_; intro wy hr ho; have HRy := hidden hr; have HCy := hidden (ho.below HCz.out (fun i hi => by subst hi; exact HL7.out)); clear hr ho q0 q1; have q0 := HRy.out.cell 0; have q1 := HRy.out.cell 1; simp only [List.getElem?_cons_succ, List.getElem?_cons_zero, List.set_cons_zero, List.set_cons_succ] at q0 q1) | ((with_reducible refine at_bd rfl _ _ rfl ?_); refine wpList_store_bd rfl _ _ rfl _ rfl (w.heap.size + 1) rfl (s.hs.length : Int) (wd + 1) rfl _ _ (HB0.out.grow HCy.out) ?_; intro W hr hg; have HRR := hidden hr; have HGG := hidden (hg w (HG0.out.of_below HCy.out) (by omega)); clear hr hg))
          refine bodyPost_ret (results_bd rfl _ _ _ _ _ rfl HRR.out) rfl ⟨?_, HGG.out⟩
          rw [HH.out, HLO.out]
          first | done | rfl
        · have d1 : decide (wd < n) = false := by simpa using hlt
          have HH := hidden (show HI = n by rw [HHI.out, if_neg (fun h => hlt h.2)])
          clear hlt
          go_wp2_with ((with_reducible refine at_bd rfl _ _ rfl ?_); refine wpList_store_bd rfl _ _ rfl _ rfl (w.heap.size + 1) rfl (s.hs.length : Int) n rfl _ _ (HB0.out.grow HCz.out) ?_; intro W hr hg; have HRR := hidden hr; have HGG := hidden (hg w (HG0.out.of_below HCz.out) (by omega)); clear hr hg)
          refine bodyPost_ret (results_bd rfl _ _ _ _ _ rfl HRR.out) rfl ⟨?_, HGG.out⟩
          rw [HH.out, HLO.out]
          first | done | rfl
      · go_wp2_with fail
        refine wp_region_loose (tabRs []) (by kernel_rfl) (by kernel_rfl) tabRs_nil ?_
        iterate 18 ((with_reducible refine loose_one (v := ?_) (a' := ?_) ?_ ?_ (fun w' hC' hG' => ?_) ?_ ?_); rotate_left 2; (focus rfl); (focus rfl); (focus (obtain ⟨p5, kf, kl⟩ := HY.out w' hC'; clear hC' hG'; go_simp; rfl)); (focus (go_simp; rfl)))
        refine loose_done (fun wz hC' hG' => ?_)
        have HRz := hidden (HRk.out.grow hC')
        have HCz := hidden (HCk.out.of_below hC')
        clear hC' hG' q0 q1
        have hwd : IntKind.u64.wrap (IntKind.u64.wrap ln - IntKind.u64.wrap fn) = wd := by rw [HWD.out, IntKind.wrap_u64, IntKind.wrap_u64, IntKind.wrap_u64]; omega
        have hwb : 0 ≤ wd := by rw [HWD.out]; omega
        rw [hwd]
        clear hwd i1 i2 i3 i4 i5 i6 i7
        have q0 := HRz.out.cell 0
        have q1 := HRz.out.cell 1
        simp only [List.getElem?_cons_succ, List.getElem?_cons_zero, List.set_cons_zero, List.set_cons_succ] at q0 q1
        have j1 : IntKind.u64.wrap n = n := by rw [IntKind.wrap_u64]; omega
        by_cases hlt : wd < n
        · have d1 : decide (wd < n) = true := by simpa using hlt
          have j2 : IntKind.i64.wrap wd = wd := by rw [IntKind.wrap_i64]; omega
          have j3 : IntKind.i64.wrap (wd + 1) = wd + 1 := by rw [IntKind.wrap_i64]; omega
          have HH := hidden (show HI = wd + 1 by rw [HHI.out, if_pos ⟨by simp, hlt⟩])
          clear hlt
          go_wp2_with (first | ((with_reducible refine at_i64q rfl _ _ rfl ?_); refine wpList_store_c rfl _ _ _ rfl size_i64q b11 1 rfl (.int .i64 (wd + 1)) rfl rfl _ _ HRz.out (Nat.lt_of_lt_of_eq (show 1 < 2 by decide) rfl) ?_; intro wy hr ho; have HRy := hidden hr; have HCy := hidden (ho.below HCz.out (fun i hi => by subst hi; exact HL7.out)); clear hr ho q0 q1; have q0 := HRy.out.cell 0; have q1 := HRy.out.cell 1; simp only [List.getElem?_cons_succ, List.getElem?_cons_zero, List.set_cons_zero, List.set_cons_succ] at q0 q1) | ((with_reducible refine at_bd rfl _ _ rfl ?_); refine wpList_store_bd rfl _ _ rfl _ rfl (w.heap.size + 1) rfl (s.hs.length : Int) (wd + 1) rfl _ _ (HB0.out.grow HCy.out) ?_; intro W hr hg; have HRR := hidden hr; have HGG := hidden (hg w (HG0.out.of_below HCy.out) (by omega)); clear hr hg))
          refine bodyPost_ret (results_bd rfl _ _ _ _ _ rfl HRR.out) rfl ⟨?_, HGG.out⟩
          rw [HH.out, HLO.out]
          first | done | rfl
        · have d1 : decide (wd < n) = false := by simpa using hlt
          have HH := hidden (show HI = n by rw [HHI.out, if_neg (fun h => hlt h.2)])
          clear hlt
          go_wp2_with ((with_reducible refine at_bd rfl _ _ rfl ?_); refine wpList_store_bd rfl _ _ rfl _ rfl (w.heap.size + 1) rfl (s.hs.length : Int) n rfl _ _ (HB0.out.grow HCz.out) ?_; intro W hr hg; have HRR := hidden hr; have HGG := hidden (hg w (HG0.out.of_below HCz.out) (by omega)); clear hr hg)
          refine bodyPost_ret (results_bd rfl _ _ _ _ _ rfl HRR.out) rfl ⟨?_, HGG.out⟩
          rw [HH.out, HLO.out]
          first | done | rfl
    · have d1 : (kd == 2) = false := by simp; omega
      have d2 : (kd == 1) = false := by simp; omega
      have HH := hidden (show HI = n by rw [HHI.out, if_neg (fun h => hk h.1)])
      clear hk
      go_wp2_with ((with_reducible refine at_bd rfl _ _ rfl ?_); refine wpList_store_bd rfl _ _ rfl wk rfl (w.heap.size + 1) rfl (s.hs.length : Int) n rfl _ _ (HB0.out.grow HCk.out) ?_; intro W hr hg; have HRR := hidden hr; have HGG := hidden (hg w (HG0.out.of_below HCk.out) (by omega)); clear hr hg)
      refine bodyPost_ret (results_bd rfl _ _ _ _ _ rfl HRR.out) rfl ⟨?_, HGG.out⟩
      rw [HH.out, HLO.out]
      first | done | rfl
  | false =>
    have HLO := hidden (show LO = (s.hs.length : Int) + 1 from HLO.out)
    have q0 := HR8.out.cell 0
    simp only [List.getElem?_cons_zero] at q0
    go_wp2_with ((with_reducible refine at_i64q rfl _ _ rfl ?_); refine wpList_store_c rfl _ _ _ rfl size_i64q b11 0 rfl (.int .i64 ((s.hs.length : Int) + 1)) rfl rfl _ _ HR8.out (Nat.lt_of_lt_of_eq (show 0 < 2 by decide) rfl) ?_; intro w9 hr ho; have HRw9 := hidden hr; have HCw9 := hidden (ho.below HC8.out (fun i hi => by subst hi; exact Nat.le_trans HL7.out (Nat.le_refl _))); clear hr ho q0 s0 s1 s2 s3 s4 s5 s6; obtain ⟨s0, s1, s2, s3, s4, s5, s6⟩ := HX.out w9 HCw9.out)
    refine (HKD.out w9 HCw9.out).mono ?_
    rintro e wk ⟨rfl, g9⟩
    have HRk := hidden (HRw9.out.grow g9)
    have HCk := hidden (HCw9.out.of_below g9)
    clear g9 s0 s1 s2 s3 s4 s5 s6
    have q0 := HRk.out.cell 0
    have q1 := HRk.out.cell 1
    simp only [List.getElem?_cons_succ, List.getElem?_cons_zero, List.set_cons_zero, List.set_cons_succ] at q0 q1
    by_cases hk : kd = 2 ∨ kd = 1
    · have hpos := HFS.out hk
      obtain ⟨m, hm⟩ : ∃ m, s.fs.length = m + 1 := ⟨s.fs.length - 1, by omega⟩
      obtain ⟨f, hf⟩ : ∃ f, s.fs[0]? = some f := ⟨_, List.getElem?_eq_getElem hpos⟩
      obtain ⟨l, hlst⟩ : ∃ l, s.fs[m]? = some l := ⟨_, List.getElem?_eq_getElem (by omega)⟩
      have HWD := hidden (show widK s = (l.n - f.n) % 18446744073709551616 by
        unfold widK
        rw [List.head?_eq_getElem?, hf, List.getLast?_eq_getElem?, hm, Nat.add_sub_cancel, hlst])
      obtain ⟨A', c', he, _, hcell⟩ := H3.out wk HCk.out
      injection he with e1 e2 e3
      subst e1 e3
      obtain ⟨bb, off, rfl, hcell2⟩ := hcell hpos
      have kf := (hcell2 0 f hf).2.1
      have kl := (hcell2 m l hlst).2.1
      rw [Nat.zero_mul, Nat.add_zero] at kf
      have HY := hidden (fun X (h : Grows wk X) => show X.cell? ⟨w.heap.size, 5, none⟩ = some (.slice (some ⟨bb, off, none⟩) (m + 1) c3) ∧ X.cell? ⟨bb, off + 1, none⟩ = some (.int .i64 f.n) ∧ X.cell? ⟨bb, off + m * 3 + 1, none⟩ = some (.int .i64 l.n) from ⟨by rw [← hm]; exact (HS0.out.grow (HCk.out.of_below h)).cell 5, (h.cell (World.block_lt_of_cell? _ _ kf)).trans kf, (h.cell (World.block_lt_of_cell? _ _ kl)).trans kl⟩)
      generalize widK s = wd at *
      generalize f.n = fn at *
      generalize l.n = ln at *
      have hm0 : m ≤ 100000 := by omega
      have i1 : wrap64 ((m : Int) + 1 - 1) = (m : Int) := by unfold wrap64; omega
      have i2 : IntKind.i64.wrap ((m : Int) + 1 - 1) = (m : Int) := by rw [IntKind.wrap_i64]; omega
      have i3 : ((m : Int) + 1 - 1) = (m : Int) := by omega
      have i5 : IntKind.i64.wrap (m : Int) = (m : Int) := by rw [IntKind.wrap_i64]; omega
      have i6 : (m : Int) < (m : Int) + 1 := by omega
      have i7 : (0 : Int) < (m : Int) + 1 := by omega
      have i4 : (((m + 1 : Nat)) : Int) = (m : Int) + 1 := by omega
      clear hcell hcell2 e2 kf kl hf hlst hpos hm
      rcases hk with rfl | rfl
      · go_wp2_with fail
        refine wp_region_loose (tabRs []) (by kernel_rfl) (by kernel_rfl) tabRs_nil ?_
        iterate 18 ((with_reducible refine loose_one (v := ?_) (a' := ?_) ?_ ?_ (fun w' hC' hG' => ?_) ?_ ?_); rotate_left 2; (focus rfl); (focus rfl); (focus (obtain ⟨p5, kf, kl⟩ := HY.out w' hC'; clear hC' hG'; go_simp; rfl)); (focus (go_simp; rfl)))
        refine loose_done (fun wz hC' hG' => ?_)
        have HRz := hidden (HRk.out.grow hC')
        have HCz := hidden (HCk.out.of_below hC')
        clear hC' hG' q0 q1
        have hwd : IntKind.u64.wrap (IntKind.u64.wrap ln - IntKind.u64.wrap fn) = wd := by rw [HWD.out, IntKind.wrap_u64, IntKind.wrap_u64, IntKind.wrap_u64]; omega
        have hwb : 0 ≤ wd := by rw [HWD.out]; omega
        rw [hwd]
        clear hwd i1 i2 i3 i4 i5 i6 i7
        have q0 := HRz.out.cell 0
        have q1 := HRz.out.cell 1
        simp only [List.getElem?_cons_succ, List.getElem?_cons_zero, List.set_cons_zero, List.set_cons_succ] at q0 q1
        have j1 : IntKind.u64.wrap n = n := by rw [IntKind.wrap_u64]; omega
        by_cases hlt : wd < n
        · have d1 : decide (wd < n) = true := by simpa using hlt
          have j2 : IntKind.i64.wrap wd = wd := by rw [IntKind.wrap_i64]; omega
          have j3 : IntKind.i64.wrap (wd + 1) = wd + 1 := by rw [IntKind.wrap_i64]; omega
          have HH := hidden (show HI = wd + 1 by rw [HHI.out, if_pos ⟨by simp, hlt⟩])
          clear hlt
          go_wp2_with (first | ((with_reducible refine at_i64q rfl _ _ rfl ?_); refine wpList_store_c rfl _ _ _ rfl size_i64q b11 1 rfl (.int .i64 (wd + 1)) rfl rfl _ _ HRz.out (Nat.lt_of_lt_of_eq (show 1 < 2 by decide) rfl) ?_; intro wy hr ho; have HRy := hidden hr; have HCy := hidden (ho.below HCz.out (fun i hi => by subst hi; exact HL7.out)); clear hr ho q0 q1; have q0 := HRy.out.cell 0; have q1 := HRy.out.cell 1; simp only [List.getElem?_cons_succ, List.getElem?_cons_zero, List.set_cons_zero, List.set_cons_succ] at q0 q1) | ((with_reducible refine at_bd rfl _ _ rfl ?_); refine wpList_store_bd rfl _ _ rfl _ rfl (w.heap.size + 1) rfl ((s.hs.length : Int) + 1) (wd + 1) rfl _ _ (HB0.out.grow HCy.out) ?_; intro W hr hg; have HRR := hidden hr; have HGG := hidden (hg w (HG0.out.of_below HCy.out) (by omega)); clear hr hg))
          refine bodyPost_ret (results_bd rfl _ _ _ _ _ rfl HRR.out) rfl ⟨?_, HGG.out⟩
          rw [HH.out, HLO.out]
          first | done | rfl
        · have d1 : decide (wd < n) = false := by simpa using hlt
          have HH := hidden (show HI = n by rw [HHI.out, if_neg (fun h => hlt h.2)])
          clear hlt
          go_wp2_with ((with_reducible refine at_bd rfl _ _ rfl ?_); refine wpList_store_bd rfl _ _ rfl _ rfl (w.heap.size + 1) rfl ((s.hs.length : Int) + 1) n rfl _ _ (HB0.out.grow HCz.out) ?_; intro W hr hg; have HRR := hidden hr; have HGG := hidden (hg w (HG0.out.of_below HCz.out) (by omega)); clear hr hg)
          refine bodyPost_ret (results_bd rfl _ _ _ _ _ rfl HRR.out) rfl ⟨?_, HGG.out⟩
          rw [HH.out, HLO.out]
          first | done | rfl
      · go_wp2_with fail
        refine wp_region_loose (tabRs []) (by kernel_rfl) (by kernel_rfl) tabRs_nil ?_
        iterate 18 ((with_reducible refine loose_one (v := ?_) (a' := ?_) ?_ ?_ (fun w' hC' hG' => ?_) ?_ ?_); rotate_left 2; (focus rfl); (focus rfl); (focus (obtain ⟨p5, kf, kl⟩ := HY.out w' hC'; clear hC' hG'; go_simp; rfl)); (focus (go_simp; rfl)))
        refine loose_done (fun wz hC' hG' => ?_)
        have HRz := hidden (HRk.out.grow hC')
        have HCz := hidden (HCk.out.of_below hC')
        clear hC' hG' q0 q1
        have hwd : IntKind.u64.wrap (IntKind.u64.wrap ln - IntKind.u64.wrap fn) = wd := by rw [HWD.out, IntKind.wrap_u64, IntKind.wrap_u64, IntKind.wrap_u64]; omega
        have hwb : 0 ≤ wd := by rw [HWD.out]; omega
        rw [hwd]
        clear hwd i1 i2 i3 i4 i5 i6 i7
        have q0 := HRz.out.cell 0
        have q1 := HRz.out.cell 1
        simp only [List.getElem?_cons_succ, List.getElem?_cons_zero, List.set_cons_zero, List.set_cons_succ] at q0 q1
        have j1 : IntKind.u64.wrap n = n := by rw [IntKind.wrap_u64]; omega
        by_cases hlt : wd < n
        · have d1 : decide (wd < n) = true := by simpa using hlt
          have j2 : IntKind.i64.wrap wd = wd := by rw [IntKind.wrap_i64]; omega
          have j3 : IntKind.i64.wrap (wd + 1) = wd + 1 := by rw [IntKind.wrap_i64]; omega
          have HH := hidden (show HI = wd + 1 by rw [HHI.out, if_pos ⟨by simp, hlt⟩])
          clear hlt
          go_wp2_with (first | ((with_reducible refine at_i64q rfl _ _ rfl ?_); refine wpList_store_c rfl _ _ _ rfl size_i64q b11 1 rfl (.int .i64 (wd + 1)) rfl rfl _ _ HRz.out (Nat.lt_of_lt_of_eq (show 1 < 2 by decide) rfl) ?_; intro wy hr ho; have HRy := hidden hr; have HCy := hidden (ho.below HCz.out (fun i hi => by subst hi; exact HL7.out)); clear hr ho q0 q1; have q0 := HRy.out.cell 0; have q1 := HRy.out.cell 1; simp only [List.getElem?_cons_succ, List.getElem?_cons_zero, List.set_cons_zero, List.set_cons_succ] at q0 q1) | ((with_reducible refine at_bd rfl _ _ rfl ?_); refine wpList_store_bd rfl _ _ rfl _ rfl (w.heap.size + 1) rfl ((s.hs.length : Int) + 1) (wd + 1) rfl _ _ (HB0.out.grow HCy.out) ?_; intro W hr hg; have HRR := hidden hr; have HGG := hidden (hg w (HG0.out.of_below HCy.out) (by omega)); clear hr hg))
          refine bodyPost_ret (results_bd rfl _ _ _ _ _ rfl HRR.out) rfl ⟨?_, HGG.out⟩
          rw [HH.out, HLO.out]
          first | done | rfl
        · have d1 : decide (wd < n) = false := by simpa using hlt
          have HH := hidden (show HI = n by rw [HHI.out, if_neg (fun h => hlt h.2)])
          clear hlt
          go_wp2_with ((with_reducible refine at_bd rfl _ _ rfl ?_); refine wpList_store_bd rfl _ _ rfl _ rfl (w.heap.size + 1) rfl ((s.hs.length : Int) + 1) n rfl _ _ (HB0.out.grow HCz.out) ?_; intro W hr hg; have HRR := hidden hr; have HGG := hidden (hg w (HG0.out.of_below HCz.out) (by omega)); clear hr hg)
          refine bodyPost_ret (results_bd rfl _ _ _ _ _ rfl HRR.out) rfl ⟨?_, HGG.out⟩
          rw [HH.out, HLO.out]
          first | done | rfl
    · have d1 : (kd == 2) = false := by simp; omega
      have d2 : (kd == 1) = false := by simp; omega
      have HH := hidden (show HI = n by rw [HHI.out, if_neg (fun h => hk h.1)])
      clear hk
      go_wp2_with ((with_reducible refine at_bd rfl _ _ rfl ?_); refine wpList_store_bd rfl _ _ rfl wk rfl (w.heap.size + 1) rfl ((s.hs.length : Int) + 1) n rfl _ _ (HB0.out.grow HCk.out) ?_; intro W hr hg; have HRR := hidden hr; have HGG := hidden (hg w (HG0.out.of_below HCk.out) (by omega)); clear hr hg)
      refine bodyPost_ret (results_bd rfl _ _ _ _ _ rfl HRR.out) rfl ⟨?_, HGG.out⟩
      rw [HH.out, HLO.out]
      first | done | rfl
end Go.Proofs.YtoaklmceejeblaaGreat
/-
  Shaken: what the claims of this seat need of this text. No condition.
-/
namespace Go.Proofs.YtoaklmceejeblaaGreat
set_option maxRecDepth 8000
open Go.RowKit
set_option linter.unusedVariables false
set_option linter.unusedSimpArgs false
theorem qisNaN_any (a : Int) (w : World) : Calls Tryz.prog 158 #[.int .u64 a] w fun e w' => e = .returned (.bool false) ∧ w' = w := by
  go_enter Tryz.func158, Tryz.ntmps158
  go_wp2_with fail
  go_ret
  exact ⟨by simp, rfl⟩
def ucmp (a b : Nat) : Int := if a < b then -1 else if b < a then 1 else 0
theorem qucmp_any (a b : Nat) (w : World) : Calls Tryz.prog 123 #[.int .u64 (a : Int), .int .u64 (b : Int)] w fun e w' => e = .returned (.int .i64 (ucmp a b)) ∧ w' = w := by
  have HI := hidden (fun c W => qisNaN_any c W)
  by_cases h1 : a < b
  · have d1 : decide ((a : Int) < (b : Int)) = true := by simpa using h1
    have d2 : decide (a < b) = true := by simpa using h1
    have HU := hidden (show ucmp a b = -1 from if_pos h1)
    clear h1
    go_enter Tryz.func123, Tryz.ntmps123
    go_wp2_with (go_at_call 158; refine (HI.out _ _).mono ?_; rintro e w2 ⟨rfl, rfl⟩)
    go_ret
    exact ⟨by rw [HU.out]; first | done | rfl, rfl⟩
  · have d1 : decide ((a : Int) < (b : Int)) = false := by simpa using h1
    have d2 : decide (a < b) = false := by simpa using h1
    by_cases h2 : b < a
    · have d3 : decide ((b : Int) < (a : Int)) = true := by simpa using h2
      have d4 : decide (b < a) = true := by simpa using h2
      have HU := hidden (show ucmp a b = 1 by unfold ucmp; rw [if_neg h1, if_pos h2])
      clear h1 h2
      go_enter Tryz.func123, Tryz.ntmps123
      go_wp2_with (go_at_call 158; refine (HI.out _ _).mono ?_; rintro e w2 ⟨rfl, rfl⟩)
      go_ret
      exact ⟨by rw [HU.out]; first | done | rfl, rfl⟩
    · have d3 : decide ((b : Int) < (a : Int)) = false := by simpa using h2
      have d4 : decide (b < a) = false := by simpa using h2
      have HU := hidden (show ucmp a b = 0 by unfold ucmp; rw [if_neg h1, if_neg h2])
      clear h1 h2
      go_enter Tryz.func123, Tryz.ntmps123
      go_wp2_with (go_at_call 158; refine (HI.out _ _).mono ?_; rintro e w2 ⟨rfl, rfl⟩)
      go_ret
      exact ⟨by rw [HU.out]; first | done | rfl, rfl⟩
def adjB (c : Nat → Int) (n : Nat) : Bool := (List.range (n - 1)).all fun i => decide (c i < 0)
theorem adjB_false {c : Nat → Int} {n i : Nat} (h : i + 1 < n) (hc : ¬ c i < 0) : adjB c n = false := by
  unfold adjB
  rw [List.all_eq_false]
  exact ⟨i, List.mem_range.2 (by omega), by simpa using hc⟩
theorem adjB_succ {c : Nat → Int} {k : Nat} (h : 1 ≤ k) (hk : adjB c k = true) (hc : c (k - 1) < 0) : adjB c (k + 1) = true := by
  unfold adjB at *
  rw [show k + 1 - 1 = (k - 1) + 1 by omega, List.range_succ, List.all_append, hk]
  simpa using hc
def IncRelU (w : World) (c : Nat → Int) (n : Nat) (i : Value) (wr : World) : Prop := ∃ k : Nat, 1 ≤ k ∧ (k ≤ n ∨ k = 1) ∧ i = .int .i64 (k : Int) ∧ adjB c k = true ∧ Grows w wr
set_option maxHeartbeats 4000000 in
theorem qincU_any (v : Value) (l : List Nat) (c : Nat → Int) (w : World) (hv : IsW w v l) (hl : l.length ≤ 1000000) (hc : ∀ i, c i = ucmp (l.getD i 0) (l.getD (i + 1) 0)) :
    Calls Tryz.prog 122 #[v, .func (.func 123) #[] #[]] w fun e w' => e = .returned (.bool (adjB c l.length)) ∧ Grows w w' := by
  have HV := hidden (fun X (h : Grows w X) => hv.grow h)
  obtain ⟨A, ca, rfl⟩ : ∃ A c, v = .slice A l.length c := by
    obtain ⟨A, c, h1, -⟩ := hv
    exact ⟨A, c, by rw [h1, wcells_length]⟩
  clear hv
  go_enter Tryz.func122, Tryz.ntmps122
  go_wp2_with fail
  go_loopw [5] (fun i wr => IncRelU w c l.length i wr) (fun i _ => l.length + 1 - (intOf i).toNat)
  case atStart => exact ⟨1, Nat.le_refl _, .inr rfl, rfl, rfl, Below.refl _ _⟩
  case round =>
    obtain ⟨k, hk1, hkn, rfl, had, hb⟩ := hrel
    by_cases hlt : k < l.length
    · have hd : decide (k < l.length) = true := by simpa using hlt
      have hd2 : decide ((k : Int) < (l.length : Int)) = true := by simpa using hlt
      obtain ⟨b, off, rfl, hck⟩ := IsW.at_ (HV.out wr hb) hlt
      obtain ⟨b', off', he', hck'⟩ := IsW.at_ (HV.out wr hb) (show k - 1 < l.length by omega)
      injection he' with he'
      injection he' with e1 e2
      subst e1 e2
      have hcc : c (k - 1) = ucmp l[k - 1] l[k] := by
        rw [hc, List.getD_eq_getElem?_getD, List.getD_eq_getElem?_getD, show k - 1 + 1 = k by omega, List.getElem?_eq_getElem (show k - 1 < l.length by omega), List.getElem?_eq_getElem hlt]; rfl
      generalize l[k - 1] = y at *
      generalize l[k] = z at *
      have HX := hidden (fun X (h : Grows wr X) => show X.cell? ⟨b, off + (k - 1), none⟩ = some (.int .u64 (y : Int)) ∧ X.cell? ⟨b, off + k, none⟩ = some (.int .u64 (z : Int)) from ⟨(h.cell (World.block_lt_of_cell? _ _ hck')).trans hck', (h.cell (World.block_lt_of_cell? _ _ hck)).trans hck⟩)
      have HCM := hidden (fun W => const_loose16 ((qucmp_any y z W).mono fun e w' ⟨h1, h2⟩ => (⟨h1, by rw [h2]; exact Below.refl _ _⟩ : e = .returned (.int .i64 (ucmp y z)) ∧ Grows W w')))
      rw [← hcc] at HCM
      have HAD := hidden had
      have HB := hidden hb
      have HLT := hidden hlt
      have HK1 := hidden hk1
      obtain ⟨m, hm⟩ : ∃ m, k = m + 1 := ⟨k - 1, by omega⟩
      subst hm
      rw [Nat.add_sub_cancel] at HX HCM hcc
      have hk0 : (0 : Int) ≤ ((m + 1 : Nat) : Int) := by omega
      have hk2 : ((m + 1 : Nat) : Int) < (l.length : Int) := by omega
      have g1 : ((m : Int) + 1) < (l.length : Int) := by omega
      have g2 : (m : Int) < (l.length : Int) := by omega
      have g3 : ((m + 1 : Nat) : Int) = (m : Int) + 1 := by omega
      have g4 : (m : Int) + 1 - 1 = (m : Int) := by omega
      have g5 : IntKind.i64.wrap (m : Int) = (m : Int) := by rw [IntKind.wrap_i64]; omega
      have g6 : ((m : Int) + 1).toNat = m + 1 := by omega
      have g7 : (0 : Int) ≤ (m : Int) + 1 := by omega
      clear had hb hlt hk1 hkn
      obtain ⟨cc, hcce⟩ : ∃ cc, cc = c m := ⟨_, rfl⟩
      rw [← hcce] at HCM
      have HCE := hidden hcce
      clear hcce hcc
      go_wp2_with fail
      refine wp_region_loose (tabRs [(10, ConstV (.int .i64 cc))]) (by kernel_rfl) (by kernel_rfl) (tabRs_cons ConstV.lasts tabRs_nil) ?_
      iterate 10 ((with_reducible refine loose_one (v := ?_) (a' := ?_) ?_ ?_ (fun w' hC' hG' => ?_) ?_ ?_); rotate_left 2; (focus rfl); (focus rfl); (focus (obtain ⟨k1, k2⟩ := HX.out w' hC'; clear hC' hG'; go_simp; rfl)); (focus (go_simp; rfl)))
      refine loose_call (R := ConstV (.int .i64 cc)) (f := 123) (args := #[.int .u64 (y : Int), .int .u64 (z : Int)]) (by rfl) (by rfl) (fun _ => by go_simp) (fun w' hC' hG' => HCM.out w') ?_
      rintro _ ⟨_, _, rfl⟩
      refine ⟨?_, ?_, ?_⟩
      rotate_left
      · go_simp
        rfl
      iterate 1 ((with_reducible refine loose_one (v := ?_) (a' := ?_) ?_ ?_ (fun w' hC' hG' => ?_) ?_ ?_); rotate_left 2; (focus rfl); (focus rfl); (focus (obtain ⟨k1, k2⟩ := HX.out w' hC'; clear hC' hG'; go_simp; rfl)); (focus (go_simp; rfl)))
      refine loose_done (fun w5 hC5 hG5 => ?_)
      have HB5 := hidden (HB.out.of_below hC5)
      clear hC5 hG5
      by_cases h0 : cc < 0
      · have d1 : decide (0 ≤ cc) = false := by simp; omega
        have d2 : ¬ 0 ≤ cc := by omega
        have HN := hidden (adjB_succ HK1.out HAD.out (by rw [Nat.add_sub_cancel, ← HCE.out]; exact h0))
        clear h0
        go_wp2_with fail
        exact ⟨⟨m + 2, by omega, .inl HLT.out, by congr 1, HN.out, HB5.out⟩, by have := HLT.out; simp only [intOf]; omega⟩
      · have d1 : decide (0 ≤ cc) = true := by simp; omega
        have d2 : 0 ≤ cc := by omega
        have HN := hidden (adjB_false (c := c) HLT.out (by rw [← HCE.out]; exact h0))
        clear h0
        go_wp2_with fail
        go_ret
        exact ⟨by rw [HN.out]; first | done | rfl, HB5.out⟩
    · have hd : decide (k < l.length) = false := by simpa using hlt
      have hd2 : decide ((k : Int) < (l.length : Int)) = false := by simpa using hlt
      have HE := hidden (show adjB c l.length = true by
        rcases hkn with h | h
        · rw [show l.length = k by omega]; exact had
        · subst h
          unfold adjB
          rw [show l.length - 1 = 0 by omega]
          rfl)
      have HB := hidden hb
      clear had hb hkn hk1 hlt
      go_wp2_with fail
      go_ret
      exact ⟨by rw [HE.out]; first | done | rfl, HB.out⟩
def IncRelV (w : World) (c : Nat → Int) (n : Nat) (i : Value) (wr : World) : Prop := ∃ k : Nat, 1 ≤ k ∧ (k ≤ n ∨ k = 1) ∧ i = .int .i64 (k : Int) ∧ adjB c k = true ∧ Grows w wr
set_option maxHeartbeats 4000000 in
theorem qincV_any (v : Value) (l : List Val) (c : Nat → Int) (w : World) (hv : ReadsV w v l) (hl : l.length ≤ 1000000) (hc : ∀ i, c i = lcX (l.getD i ⟨0, 0, .empty⟩) (l.getD (i + 1) ⟨0, 0, .empty⟩)) :
    Calls Tryz.prog 125 #[v, .func (.func 42) #[] #[]] w fun e w' => e = .returned (.bool (adjB c l.length)) ∧ Grows w w' := by
  have HV := hidden (fun X (h : Grows w X) => hv.grow h)
  obtain ⟨A, ca, rfl, -⟩ := id hv
  clear hv
  go_enter Tryz.func125, Tryz.ntmps125
  go_wp2_with fail
  go_loopw [5] (fun i wr => IncRelV w c l.length i wr) (fun i _ => l.length + 1 - (intOf i).toNat)
  case atStart => exact ⟨1, Nat.le_refl _, .inr rfl, rfl, rfl, Below.refl _ _⟩
  case round =>
    obtain ⟨k, hk1, hkn, rfl, had, hb⟩ := hrel
    by_cases hlt : k < l.length
    · have hd : decide (k < l.length) = true := by simpa using hlt
      have hd2 : decide ((k : Int) < (l.length : Int)) = true := by simpa using hlt
      obtain ⟨A', c', he, _, hcell⟩ := HV.out wr hb
      injection he with e1 e2 e3
      subst e1 e3
      obtain ⟨b, off, rfl, hcell2⟩ := hcell (by omega)
      obtain ⟨y, hy⟩ : ∃ y, l[k - 1]? = some y := ⟨_, List.getElem?_eq_getElem (by omega)⟩
      obtain ⟨z, hz⟩ : ∃ z, l[k]? = some z := ⟨_, List.getElem?_eq_getElem hlt⟩
      have hcc : c (k - 1) = lcX y z := by
        rw [hc, List.getD_eq_getElem?_getD, List.getD_eq_getElem?_getD, show k - 1 + 1 = k by omega, hy, hz]; rfl
      obtain ⟨a1, a2, a3⟩ := hcell2 (k - 1) y hy
      obtain ⟨b1, b2, b3⟩ := hcell2 k z hz
      have HX := hidden (fun X (h : Grows wr X) => show X.cell? ⟨b, off + (k - 1) * 3, none⟩ = some (.int .i64 y.k) ∧ X.cell? ⟨b, off + (k - 1) * 3 + 1, none⟩ = some (.int .i64 y.n) ∧ X.cell? ⟨b, off + (k - 1) * 3 + 2, none⟩ = some (.string y.t) ∧ X.cell? ⟨b, off + k * 3, none⟩ = some (.int .i64 z.k) ∧ X.cell? ⟨b, off + k * 3 + 1, none⟩ = some (.int .i64 z.n) ∧ X.cell? ⟨b, off + k * 3 + 2, none⟩ = some (.string z.t) from ⟨(h.cell (World.block_lt_of_cell? _ _ a1)).trans a1, (h.cell (World.block_lt_of_cell? _ _ a2)).trans a2, (h.cell (World.block_lt_of_cell? _ _ a3)).trans a3, (h.cell (World.block_lt_of_cell? _ _ b1)).trans b1, (h.cell (World.block_lt_of_cell? _ _ b2)).trans b2, (h.cell (World.block_lt_of_cell? _ _ b3)).trans b3⟩)
      have HCM := hidden (fun W => const_loose16 (show Calls Tryz.prog 42 #[.agg #[.int .i64 y.k, .int .i64 y.n, .string y.t], .agg #[.int .i64 z.k, .int .i64 z.n, .string z.t]] W fun e w' => e = .returned (.int .i64 (c (k - 1))) ∧ Grows W w' by rw [hcc]; exact lcompare_any y.k y.n z.k z.n y.t z.t W))
      clear hcell hcell2 e2 hy hz a1 a2 a3 b1 b2 b3
      have HAD := hidden had
      have HB := hidden hb
      have HLT := hidden hlt
      have HK1 := hidden hk1
      obtain ⟨m, hm⟩ : ∃ m, k = m + 1 := ⟨k - 1, by omega⟩
      subst hm
      rw [Nat.add_sub_cancel] at HX HCM hcc
      have hk0 : (0 : Int) ≤ ((m + 1 : Nat) : Int) := by omega
      have hk2 : ((m + 1 : Nat) : Int) < (l.length : Int) := by omega
      have g1 : ((m : Int) + 1) < (l.length : Int) := by omega
      have g2 : (m : Int) < (l.length : Int) := by omega
      have g3 : ((m + 1 : Nat) : Int) = (m : Int) + 1 := by omega
      have g4 : (m : Int) + 1 - 1 = (m : Int) := by omega
      have g5 : IntKind.i64.wrap (m : Int) = (m : Int) := by rw [IntKind.wrap_i64]; omega
      have g6 : ((m : Int) + 1).toNat = m + 1 := by omega
      have g7 : (0 : Int) ≤ (m : Int) + 1 := by omega
      clear had hb hlt hk1 hkn
      obtain ⟨cc, hcce⟩ : ∃ cc, cc = c m := ⟨_, rfl⟩
      rw [← hcce] at HCM
      have HCE := hidden hcce
      clear hcce hcc
      go_wp2_with fail
      refine wp_region_loose (tabRs [(10, ConstV (.int .i64 cc))]) (by kernel_rfl) (by kernel_rfl) (tabRs_cons ConstV.lasts tabRs_nil) ?_
      iterate 10 ((with_reducible refine loose_one (v := ?_) (a' := ?_) ?_ ?_ (fun w' hC' hG' => ?_) ?_ ?_); rotate_left 2; (focus rfl); (focus rfl); (focus (obtain ⟨k1, k2, k3, k4, k5, k6⟩ := HX.out w' hC'; clear hC' hG'; go_simp; rfl)); (focus (go_simp; rfl)))
      refine loose_call (R := ConstV (.int .i64 cc)) (f := 42) (args := #[.agg #[.int .i64 y.k, .int .i64 y.n, .string y.t], .agg #[.int .i64 z.k, .int .i64 z.n, .string z.t]]) (by rfl) (by rfl) (fun _ => by go_simp) (fun w' hC' hG' => HCM.out w') ?_
      rintro _ ⟨_, _, rfl⟩
      refine ⟨?_, ?_, ?_⟩
      rotate_left
      · go_simp
        rfl
      iterate 1 ((with_reducible refine loose_one (v := ?_) (a' := ?_) ?_ ?_ (fun w' hC' hG' => ?_) ?_ ?_); rotate_left 2; (focus rfl); (focus rfl); (focus (obtain ⟨k1, k2, k3, k4, k5, k6⟩ := HX.out w' hC'; clear hC' hG'; go_simp; rfl)); (focus (go_simp; rfl)))
      refine loose_done (fun w5 hC5 hG5 => ?_)
      have HB5 := hidden (HB.out.of_below hC5)
      clear hC5 hG5
      by_cases h0 : cc < 0
      · have d1 : decide (0 ≤ cc) = false := by simp; omega
        have d2 : ¬ 0 ≤ cc := by omega
        have HN := hidden (adjB_succ HK1.out HAD.out (by rw [Nat.add_sub_cancel, ← HCE.out]; exact h0))
        clear h0
        go_wp2_with fail
        exact ⟨⟨m + 2, by omega, .inl HLT.out, by congr 1, HN.out, HB5.out⟩, by have := HLT.out; simp only [intOf]; omega⟩
      · have d1 : decide (0 ≤ cc) = true := by simp; omega
        have d2 : 0 ≤ cc := by omega
        have HN := hidden (adjB_false (c := c) HLT.out (by rw [← HCE.out]; exact h0))
        clear h0
        go_wp2_with fail
        go_ret
        exact ⟨by rw [HN.out]; first | done | rfl, HB5.out⟩
    · have hd : decide (k < l.length) = false := by simpa using hlt
      have hd2 : decide ((k : Int) < (l.length : Int)) = false := by simpa using hlt
      have HE := hidden (show adjB c l.length = true by
        rcases hkn with h | h
        · rw [show l.length = k by omega]; exact had
        · subst h
          unfold adjB
          rw [show l.length - 1 = 0 by omega]
          rfl)
      have HB := hidden hb
      clear had hb hkn hk1 hlt
      go_wp2_with fail
      go_ret
      exact ⟨by rw [HE.out]; first | done | rfl, HB.out⟩
end Go.Proofs.YtoaklmceejeblaaGreat
/-
  Shaken: what the claims of this seat need of this text. No condition.
-/
namespace Go.Proofs.YtoaklmceejeblaaGreat
set_option maxRecDepth 8000
open Go.RowKit
set_option linter.unusedVariables false
set_option linter.unusedSimpArgs false
theorem adjU_iff (hs : List Nat) : adjB (fun i => ucmp (hs.getD i 0) (hs.getD (i + 1) 0)) hs.length = true ↔ ∀ j, j + 1 < hs.length → hs.getD j 0 < hs.getD (j + 1) 0 := by
  unfold adjB
  rw [List.all_eq_true]
  have e : ∀ a b : Nat, ucmp a b < 0 ↔ a < b := fun a b => by
    unfold ucmp
    split
    · omega
    · split <;> omega
  constructor
  · intro h j hj
    have := h j (List.mem_range.2 (by omega))
    simpa [e] using this
  · intro h j hj
    have := h j (by have := List.mem_range.1 hj; omega)
    simpa [e] using this
set_option maxHeartbeats 4000000 in
theorem qvalidHashes_any (v : Value) (s : Sk) (n : Int) (w : World) (hk : IsK w v s) (hh : s.hs.length ≤ 1000000) :
    Calls Tryz.prog 68 #[v, .int .i64 n] w fun e w' => e = .returned (.bool (validHB n s.hs s.ok)) ∧ Grows w w' := by
  obtain ⟨A1, A2, A3, A4, c1, c2, c3, c4, rfl, h1, -, -, -⟩ := hk
  have HG0 := hidden (show Grows w (w.alloc (.cells #[.int .i64 s.rows, .int .i64 s.nulls, .slice A1 s.hs.length c1, .bool s.ok, .slice A2 s.cm.length c2, .slice A3 s.fs.length c3, .slice A4 s.rk.length c4] 29)) from growK _ _)
  have HI := hidden (qincU_any (.slice A1 s.hs.length c1) s.hs (fun i => ucmp (s.hs.getD i 0) (s.hs.getD (i + 1) 0)) (w.alloc (.cells #[.int .i64 s.rows, .int .i64 s.nulls, .slice A1 s.hs.length c1, .bool s.ok, .slice A2 s.cm.length c2, .slice A3 s.fs.length c3, .slice A4 s.rk.length c4] 29)) (h1.grow HG0.out) hh (fun _ => rfl))
  have HA := hidden (adjU_iff s.hs)
  generalize adjB (fun i => ucmp (s.hs.getD i 0) (s.hs.getD (i + 1) 0)) s.hs.length = adj at *
  have HVB := hidden (show ∀ p : Bool, (p = true ↔ validHP n s.hs s.ok) → validHB n s.hs s.ok = p from fun p hp => by
    cases p with
    | true => exact validHB_t (hp.1 rfl)
    | false => exact validHB_f (fun h => by have := hp.2 h; simp at this))
  generalize validHB n s.hs s.ok = out at *
  clear h1
  obtain ⟨L, hL⟩ : ∃ L, L = s.hs.length := ⟨_, rfl⟩
  rw [← hL] at HI HA HG0 ⊢
  generalize s.ok = ok at *
  unfold validHP incP at HVB
  rw [← hL] at HVB
  have HVB2 := hidden (show (out = (decide (L ≤ 32) && decide ((L : Int) ≤ n) && (!decide (0 < n) || decide (L ≠ 0)) && (ok || decide (L = 32)) && adj)) from HVB.out _ (by
    have h := HA.out
    simp only [Bool.and_eq_true, decide_eq_true_eq, Bool.or_eq_true, Bool.not_eq_true', decide_eq_false_iff_not]
    rw [h]
    constructor
    · rintro ⟨⟨⟨⟨h1, h2⟩, h3⟩, h4⟩, h5⟩
      exact ⟨h1, h2, fun hn => h3.resolve_left (fun h => h hn), h4, h5⟩
    · rintro ⟨h1, h2, h3, h4, h5⟩
      refine ⟨⟨⟨⟨h1, h2⟩, ?_⟩, h4⟩, h5⟩
      by_cases hn : 0 < n
      · exact .inr (h3 hn)
      · exact .inl hn))
  clear HVB HA hL
  by_cases hm : min n 32 < (L : Int)
  · have d1 : decide (min n 32 < (L : Int)) = true := by simpa using hm
    have HO := hidden (show out = false by
      rw [HVB2.out]
      rcases Nat.lt_or_ge 32 L with h | h
      · rw [decide_eq_false (show ¬ L ≤ 32 by omega)]; simp
      · rw [decide_eq_false (show ¬ (L : Int) ≤ n by omega)]; simp)
    clear HVB2
    go_enter Tryz.func68, Tryz.ntmps68
    go_wp2_with (go_at_call 122; refine (HI.out).mono ?_; rintro e w2 ⟨rfl, g2⟩; have HG2 := hidden (HG0.out.of_below g2); clear g2)
    go_ret
    exact ⟨by rw [HO.out]; first | done | rfl, by first | exact HG0.out | exact HG2.out⟩
  have d1 : decide (min n 32 < (L : Int)) = false := by simpa using hm
  have h32 : L ≤ 32 := by omega
  have hLn : (L : Int) ≤ n := by omega
  by_cases h0 : L = 0
  · subst h0
    by_cases hn : 0 < n
    · have d2 : decide (0 < n) = true := by simpa using hn
      have HO := hidden (show out = false by rw [HVB2.out, d2]; simp)
      clear HVB2
      go_enter Tryz.func68, Tryz.ntmps68
      go_wp2_with (go_at_call 122; refine (HI.out).mono ?_; rintro e w2 ⟨rfl, g2⟩; have HG2 := hidden (HG0.out.of_below g2); clear g2)
      go_ret
      exact ⟨by rw [HO.out]; first | done | rfl, by first | exact HG0.out | exact HG2.out⟩
    · have d2 : decide (0 < n) = false := by simpa using hn
      cases ok with
      | true =>
        have HO := hidden (show out = adj by rw [HVB2.out, d2, decide_eq_true hLn]; simp)
        clear HVB2
        go_enter Tryz.func68, Tryz.ntmps68
        go_wp2_with (go_at_call 122; refine (HI.out).mono ?_; rintro e w2 ⟨rfl, g2⟩; have HG2 := hidden (HG0.out.of_below g2); clear g2)
        go_ret
        exact ⟨by rw [HO.out]; first | done | rfl, by first | exact HG2.out | exact HG0.out⟩
      | false =>
        have HO := hidden (show out = false by rw [HVB2.out]; simp)
        clear HVB2
        go_enter Tryz.func68, Tryz.ntmps68
        go_wp2_with (go_at_call 122; refine (HI.out).mono ?_; rintro e w2 ⟨rfl, g2⟩; have HG2 := hidden (HG0.out.of_below g2); clear g2)
        go_ret
        exact ⟨by rw [HO.out]; first | done | rfl, by first | exact HG0.out | exact HG2.out⟩
  · have d2 : (L == 0) = false := by simpa using h0
    have d3 : ((L : Int) == 0) = false := by simp; omega
    cases ok with
    | true =>
      have HO := hidden (show out = adj by rw [HVB2.out, decide_eq_true hLn, decide_eq_true h32, decide_eq_true (show L ≠ 0 from h0)]; simp)
      clear HVB2
      go_enter Tryz.func68, Tryz.ntmps68
      go_wp2_with (go_at_call 122; refine (HI.out).mono ?_; rintro e w2 ⟨rfl, g2⟩; have HG2 := hidden (HG0.out.of_below g2); clear g2)
      go_ret
      exact ⟨by rw [HO.out]; first | done | rfl, by first | exact HG2.out | exact HG0.out⟩
    | false =>
      by_cases he : L = 32
      · subst he
        have HO := hidden (show out = adj by rw [HVB2.out, decide_eq_true hLn]; simp)
        clear HVB2
        go_enter Tryz.func68, Tryz.ntmps68
        go_wp2_with (go_at_call 122; refine (HI.out).mono ?_; rintro e w2 ⟨rfl, g2⟩; have HG2 := hidden (HG0.out.of_below g2); clear g2)
        go_ret
        exact ⟨by rw [HO.out]; first | done | rfl, by first | exact HG2.out | exact HG0.out⟩
      · have d4 : (L == 32) = false := by simpa using he
        have d5 : ((L : Int) == 32) = false := by simp; omega
        have HO := hidden (show out = false by rw [HVB2.out, decide_eq_false he]; simp)
        clear HVB2
        go_enter Tryz.func68, Tryz.ntmps68
        go_wp2_with (go_at_call 122; refine (HI.out).mono ?_; rintro e w2 ⟨rfl, g2⟩; have HG2 := hidden (HG0.out.of_below g2); clear g2)
        go_ret
        exact ⟨by rw [HO.out]; first | done | rfl, by first | exact HG0.out | exact HG2.out⟩
end Go.Proofs.YtoaklmceejeblaaGreat
