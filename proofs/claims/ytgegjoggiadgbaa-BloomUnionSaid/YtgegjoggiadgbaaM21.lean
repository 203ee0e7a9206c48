/-
  Texts that the claims of this seat share, put together (Bm3, BmD1, BmD2, BmD3, BmE1, BmE2, BmR2, BmR3). No condition.
-/
import Derived.Test.YtgegjoggiadgbaaM20
import Derived.Test.YtgegjoggiadgbaaM11
import Derived.Test.YtgegjoggiadgbaaM4
import Derived.Test.YtgegjoggiadgbaaM13
import Derived.Test.YtgegjoggiadgbaaM19
import Derived.Test.YtgegjoggiadgbaaM6
import Derived.Test.YtgegjoggiadgbaaM5
import Derived.Test.YtgegjoggiadgbaaVCat
import Derived.Test.YtgegjoggiadgbaaM2
import Derived.Test.YtgegjoggiadgbaaBsRef1
import Derived.Test.YtgegjoggiadgbaaM15
/-
  Shaken: what the claims of this seat need of this text. No condition.
-/
namespace Go.Proofs.Ytgegjoggiadgbaa
set_option maxRecDepth 8000
open Go.RowKit
set_option linter.unusedVariables false
set_option linter.unusedSimpArgs false
theorem size_bf : (Try.prog.info? 32).map (·.size) = some 3 := by kernel_rfl
theorem results_bf1 {fn : Func} {p : Tmp} (h : fn.results = #[.cell p 32]) (tmps : Array Value) (w : World) (g : Nat) (a b c : Value) (hp : tmps.getD p undef = .pointer (some ⟨g, 0, none⟩)) (hg : Row w g 32 [a, b, c]) :
    (results fn tmps).run Try.prog w = .ok (.agg #[a, b, c]) w := results_cell_row h _ _ _ _ _ _ _ hp hg Try.underlying32 rfl size_bf
theorem results_bf2 {fn : Func} {p q : Tmp} (h : fn.results = #[.cell p 32, .tmp q]) (tmps : Array Value) (w : World) (g : Nat) (a b c x : Value) (hp : tmps.getD p undef = .pointer (some ⟨g, 0, none⟩)) (hg : Row w g 32 [a, b, c])
    (hx : tmps.getD q undef = x) : (results fn tmps).run Try.prog w = .ok (.tuple #[.agg #[a, b, c], x]) w := by
  have hp' : tmps[p]?.getD undef = .pointer (some ⟨g, 0, none⟩) := by simpa using hp
  have hx' : tmps[q]?.getD undef = x := by simpa using hx
  simp [results, h, hp', hx', asAddr, run_loadVar_row w g 32 32 #[a, b, c] (0, 0) _ hg Try.underlying32 rfl size_bf]
theorem results_bf3 {fn : Func} {p q r : Tmp} (h : fn.results = #[.cell p 32, .tmp q, .tmp r]) (tmps : Array Value) (w : World) (g : Nat) (a b c x y : Value) (hp : tmps.getD p undef = .pointer (some ⟨g, 0, none⟩)) (hg : Row w g 32 [a, b, c])
    (hx : tmps.getD q undef = x) (hy : tmps.getD r undef = y) : (results fn tmps).run Try.prog w = .ok (.tuple #[.agg #[a, b, c], x, y]) w := by
  have hp' : tmps[p]?.getD undef = .pointer (some ⟨g, 0, none⟩) := by simpa using hp
  have hx' : tmps[q]?.getD undef = x := by simpa using hx
  have hy' : tmps[r]?.getD undef = y := by simpa using hy
  simp [results, h, hp', hx', hy', asAddr, run_loadVar_row w g 32 32 #[a, b, c] (0, 0) _ hg Try.underlying32 rfl size_bf]
theorem wpList_store_bf {wr : World} {ops : Array Oper} {rest : List Oper} {o : Oper} {a : Act} {Q : Exit → Act → World → Prop} (hgd : o.guard = none) (x y : Operand) (ho : o.op = .store 32 x y)
    (W0 : World) (hw : wr = W0) (g : Nat) (hx : a.eval x = .pointer (some ⟨g, 0, none⟩)) (h n : Int) (A : Option Addr) (l c : Nat) (hy : a.eval y = .agg #[.int .i64 h, .int .i64 n, .slice A l c]) (z1 z2 z3 : Value) (hr : Row W0 g 32 [z1, z2, z3])
    (hk : ∀ W, Row W g 32 [.int .i64 h, .int .i64 n, .slice A l c] → (∀ w0, Grows w0 W0 → w0.heap.size ≤ g → Grows w0 W) → (∀ g' e ys, g' ≠ g → Row W0 g' e ys → Row W g' e ys) → wpList Try.prog ops Q rest (a.put o.dst undef) W) : wpList Try.prog ops Q (o :: rest) a wr := by
  subst hw
  refine wpList_store_row hgd _ x y ho g #[.int .i64 h, .int .i64 n, .slice A l c] hx hy 32 #[z1, z2, z3] hr size_bf rfl (by simp [Value.oneCell']) (hk _ (hr.setRow_ [.int .i64 h, .int .i64 n, .slice A l c] rfl) (fun w0 h0 hg => below_setRow h0 hg _) ?_)
  · intro g' e ys hne h0
    unfold Row at h0 ⊢
    rw [setRow_other _ _ _ _ hne]
    exact h0
theorem wpList_load_bf {wr : World} {ops : Array Oper} {rest : List Oper} {o : Oper} {a : Act} {Q : Exit → Act → World → Prop} (hgd : o.guard = none) (x : Operand) (ho : o.op = .load 32 x)
    (g : Nat) (hx : a.eval x = .pointer (some ⟨g, 0, none⟩)) (z1 z2 z3 : Value) (hg : Row wr g 32 [z1, z2, z3])
    (h : wpList Try.prog ops Q rest (a.put o.dst (.agg #[z1, z2, z3])) wr) : wpList Try.prog ops Q (o :: rest) a wr :=
  wpList_load_row hgd _ x ho g hx _ #[z1, z2, z3] _ _ hg Try.underlying32 rfl size_bf h
theorem at_lf {wr : World} {ops : Array Oper} {rest : List Oper} {op : Oper} {a : Act} {Q : Exit → Act → World → Prop} (hgd : op.guard = none) (x : Operand) (ho : op.op = .load 32 x) (h : wpList Try.prog ops Q (op :: rest) a wr) : wpList Try.prog ops Q (op :: rest) a wr := h
theorem at_sf {wr : World} {ops : Array Oper} {rest : List Oper} {op : Oper} {a : Act} {Q : Exit → Act → World → Prop} (hgd : op.guard = none) (x y : Operand) (ho : op.op = .store 32 x y) (h : wpList Try.prog ops Q (op :: rest) a wr) : wpList Try.prog ops Q (op :: rest) a wr := h
def FilR (h : Int) (n : Nat) (ws : List UInt64) (err : Int) (w : World) (e : Ending) (w' : World) : Prop := ∃ v, e = .returned (.tuple #[v, .int .i64 err]) ∧ IsF w' v h n ws ∧ Grows w w'
def SetV (n : Nat) (ws : List UInt64) (v : Value) (w : World) : Prop := ∃ g c, v = .agg #[.int .i64 (n : Int), .slice (some ⟨g, 0, none⟩) ws.length c] ∧ Row w g 53 (ucells ws) ∧ ws.length ≤ c
theorem SetV.lasts {n : Nat} {ws : List UInt64} : ∀ v w w', SetV n ws v w → Grows w w' → SetV n ws v w' := fun _ _ _ ⟨A, c, h1, h2, h3⟩ h => ⟨A, c, h1, h2.grow h, h3⟩
theorem freshset_loose {f : FuncId} {args : Array Value} {n : Nat} {ws : List UInt64} {w : World} (h : Calls Try.prog f args w (FreshSet n ws w)) :
    Calls Try.prog f args w fun e w' => ∃ v, e = .returned v ∧ Grows w w' ∧ SetV n ws v w' := h.mono fun e w' ⟨g, _, he, hr, hg⟩ => ⟨_, he, hg, g, _, rfl, hr, Nat.le_refl _⟩
theorem Row.reads {w : World} {g c : Nat} {ws : List UInt64} (h : Row w g 53 (ucells ws)) (hc : ws.length ≤ c) : Reads w (.slice (some ⟨g, 0, none⟩) ws.length c) (ucells ws) :=
  ⟨_, c, by rw [ucells_length], by rw [ucells_length]; exact hc, fun _ => ⟨g, 0, rfl, fun j _ => by rw [Nat.zero_add]; exact h.cell j⟩⟩
set_option maxHeartbeats 1000000 in
theorem bunion_any (x y : Value) (ha hb : Int) (na nb : Nat) (wa wb : List UInt64) (w : World) (hx : IsF w x ha na wa) (hy : IsF w y hb nb wb) (oa : okW na wa) (ob : okW nb wb) (la : na ≤ 65536) (lb : nb ≤ 65536) :
    Calls Try.prog 18 #[x, y] w fun e w' => (ha = hb ∧ na = nb → FilR ha na (pack na fun j => mem na wa j || mem nb wb j) 0 w e w') ∧ (¬ (ha = hb ∧ na = nb) → FilR 0 0 [] 1 w e w') := by
  obtain ⟨u1, rfl, r1, l1⟩ := hx
  obtain ⟨u2, rfl, r2, l2⟩ := hy
  have HR1 := hidden r1
  have HR2 := hidden r2
  obtain ⟨A1, c1, rfl, _⟩ := r1.slice_
  obtain ⟨A2, c2, rfl, _⟩ := r2.slice_
  simp only [ucells_length] at HR1 HR2 ⊢
  clear r1 r2
  obtain ⟨W3, hW3⟩ : ∃ W3, W3 = ((w.alloc (.cells #[.int .i64 ha, .int .i64 (na : Int), .slice A1 wa.length c1] 32)).alloc (.cells #[.int .i64 hb, .int .i64 (nb : Int), .slice A2 wb.length c2] 32)).alloc (.cells #[.int .i64 0, .int .i64 0, .slice none 0 0] 32) := ⟨_, rfl⟩
  have HG3 := hidden (show Grows w W3 by rw [hW3]; exact ((growB _ _).of_below (growB _ _)).of_below (growB _ _))
  have HP := hidden (show Row W3 w.heap.size 32 [.int .i64 ha, .int .i64 (na : Int), .slice A1 wa.length c1] by rw [hW3]; exact ((Row.new w 32 #[.int .i64 ha, .int .i64 (na : Int), .slice A1 wa.length c1] _ rfl).grow (growB _ _)).grow (growB _ _))
  have HQ := hidden (show Row W3 (w.heap.size + 1) 32 [.int .i64 hb, .int .i64 (nb : Int), .slice A2 wb.length c2] by rw [hW3]; exact (Row.at_ (w.alloc _) 32 #[.int .i64 hb, .int .i64 (nb : Int), .slice A2 wb.length c2] _ rfl _ (by simp)).grow (growB _ _))
  have HZ := hidden (show Row W3 (w.heap.size + 1 + 1) 32 [.int .i64 0, .int .i64 0, .slice none 0 0] by rw [hW3]; exact Row.at_ _ 32 #[.int .i64 0, .int .i64 0, .slice none 0 0] _ rfl _ (by simp))
  by_cases h0 : ha = hb ∧ na = nb
  · obtain ⟨rfl, rfl⟩ := h0
    obtain ⟨WS, hWS⟩ : ∃ WS, WS = pack na fun j => mem na wa j || mem na wb j := ⟨_, rfl⟩
    have HO := hidden (fun W (h : Grows w W) => freshset_loose (or_any (.agg #[.int .i64 (na : Int), .slice A1 wa.length c1]) (.agg #[.int .i64 (na : Int), .slice A2 wb.length c2]) na na wa wb W ⟨_, rfl, HR1.out.grow h, by have := oa.1; unfold nw at this; omega, by omega⟩ oa ⟨_, rfl, HR2.out.grow h, by have := ob.1; unfold nw at this; omega, by omega⟩ ob))
    rw [Nat.max_self, ← hWS] at HO
    have HLW := hidden (show WS.length ≤ 1024 by rw [hWS, pack_length]; unfold nw; omega)
    rw [← hWS]
    clear hWS oa ob la lb
    go_enter Try.func18, Try.ntmps18
    go_wp2_with fail
    rw [← hW3]
    clear hW3
    refine wp_region_loose_tail 8 (tabRs [(6, SetV na WS)]) (by kernel_rfl) (by kernel_rfl) (tabRs_cons SetV.lasts tabRs_nil) ?_
    simp only [List.take_succ_cons, List.take_zero, List.drop_succ_cons, List.drop_zero]
    iterate 6 ((with_reducible refine loose_one (v := ?_) (a' := ?_) ?_ ?_ (fun w' hC' hG' => ?_) ?_ ?_); rotate_left 2; (focus rfl); (focus rfl); (focus (have p0 := (HP.out.grow hC').cell 0; have p1 := (HP.out.grow hC').cell 1; have p2 := (HP.out.grow hC').cell 2; have q0 := (HQ.out.grow hC').cell 0; have q1 := (HQ.out.grow hC').cell 1; have q2 := (HQ.out.grow hC').cell 2; simp only [List.getElem?_cons_succ, List.getElem?_cons_zero] at p0 p1 p2 q0 q1 q2; clear hC' hG'; go_simp; rfl)); (focus (go_simp; rfl)))
    refine loose_call (R := SetV na WS) (f := 38) (args := #[.agg #[.int .i64 (na : Int), .slice A1 wa.length c1], .agg #[.int .i64 (na : Int), .slice A2 wb.length c2]]) (by rfl) (by rfl) (fun _ => by go_simp) (fun w' hC' hG' => HO.out w' (HG3.out.of_below hC')) ?_
    rintro _ ⟨_, _, g7, c7, rfl, _, _⟩
    refine ⟨?_, ?_, ?_⟩
    rotate_left
    · go_simp
      rfl
    iterate 1 ((with_reducible refine loose_one (v := ?_) (a' := ?_) ?_ ?_ (fun w' hC' hG' => ?_) ?_ ?_); rotate_left 2; (focus rfl); (focus rfl); (focus (clear hC' hG'; go_simp; rfl)); (focus (go_simp; rfl)))
    refine loose_done (fun w7 hC' hG' => ?_)
    obtain ⟨A8, c8, he8, hr8, hl8⟩ := (hG' 6).2 rfl
    clear hG'
    have he9 : g7 = A8 ∧ c7 = c8 := by simpa using he8
    obtain ⟨rfl, rfl⟩ := he9
    have HZ7 := hidden (HZ.out.grow hC')
    have HG7 := hidden (HG3.out.of_below hC')
    have HR8 := hidden hr8
    clear hC' hr8 he8
    refine wpList_store_bf rfl _ _ rfl w7 rfl (w.heap.size + 1 + 1) rfl ha na _ _ _ rfl _ _ _ HZ7.out ?_
    intro W8 hr hg hrow
    have HRW := hidden hr
    have HG8 := hidden (hg _ HG7.out (by omega))
    have HU8 : Hid (Reads W8 (.slice (some ⟨g7, 0, none⟩) WS.length c7) (ucells WS)) := by
      have hne : g7 ≠ w.heap.size + 1 + 1 := by
        intro h
        have h1 := HR8.out
        have h2 := HZ7.out
        rw [h] at h1
        unfold Row at h1 h2
        rw [h1] at h2
        injection h2 with h2
        injection h2 with h2 h3
        cases h3
      exact (hrow _ _ _ hne HR8.out).reads hl8
    clear hr hg hrow
    go_wp2_with fail
    refine bodyPost_ret (results_bf2 rfl _ _ _ _ _ _ _ rfl HRW.out rfl) rfl ⟨fun _ => ⟨_, rfl, ⟨_, rfl, HU8.out, by have := HLW.out; omega⟩, HG8.out⟩, fun h => absurd (by simp) h⟩
  · have HNE := hidden h0
    have fin : ∀ (W8 : World) (e : Ending), Grows w W8 → e = .returned (.tuple #[.agg #[.int .i64 0, .int .i64 0, .slice none 0 0], .int .i64 1]) → (ha = hb ∧ na = nb → FilR ha na (pack na fun j => mem na wa j || mem nb wb j) 0 w e W8) ∧ (¬ (ha = hb ∧ na = nb) → FilR 0 0 [] 1 w e W8) :=
      fun _ _ g8 he => ⟨fun h => absurd h HNE.out, fun _ => ⟨_, he, ⟨_, rfl, ⟨none, 0, rfl, Nat.le_refl _, fun h => absurd h (by simp [ucells])⟩, by simp⟩, g8⟩⟩
    have FIN := hidden fin
    clear fin
    by_cases h1 : ha = hb
    · have d1 : (ha != hb) = false := by simp [h1]
      have d2 : ((na : Int) != (nb : Int)) = true := by simp; intro h; exact h0 ⟨h1, by omega⟩
      clear h0 h1 oa ob la lb
      go_enter Try.func18, Try.ntmps18
      go_wp2_with fail
      rw [← hW3]
      clear hW3
      exact bodyPost_ret (results_bf2 rfl _ _ _ _ _ _ _ rfl HZ.out rfl) rfl (FIN.out _ _ HG3.out rfl)
    · have d1 : (ha != hb) = true := by simpa using h1
      clear h0 h1 oa ob la lb
      go_enter Try.func18, Try.ntmps18
      go_wp2_with fail
      rw [← hW3]
      clear hW3
      exact bodyPost_ret (results_bf2 rfl _ _ _ _ _ _ _ rfl HZ.out rfl) rfl (FIN.out _ _ HG3.out rfl)
set_option maxHeartbeats 1000000 in
theorem runion15_any (x y : Value) (ha hb : Int) (na nb : Nat) (wa wb : List UInt64) (w : World) (hx : IsF w x ha na wa) (hy : IsF w y hb nb wb) (oa : okW na wa) (ob : okW nb wb) (la : na ≤ 65536) (lb : nb ≤ 65536) :
    Calls Try.prog 19 #[x, y] w fun e w' => (ha = hb ∧ na = nb → FilR ha na (pack na fun j => mem na wa j || mem nb wb j) 0 w e w') ∧ (¬ (ha = hb ∧ na = nb) → FilR 0 0 [] 1 w e w') := by
  obtain ⟨u1, rfl, r1, l1⟩ := hx
  obtain ⟨u2, rfl, r2, l2⟩ := hy
  have HR1 := hidden r1
  have HR2 := hidden r2
  obtain ⟨A1, c1, rfl, _⟩ := r1.slice_
  obtain ⟨A2, c2, rfl, _⟩ := r2.slice_
  simp only [ucells_length] at HR1 HR2 ⊢
  clear r1 r2
  obtain ⟨W3, hW3⟩ : ∃ W3, W3 = ((w.alloc (.cells #[.int .i64 ha, .int .i64 (na : Int), .slice A1 wa.length c1] 32)).alloc (.cells #[.int .i64 hb, .int .i64 (nb : Int), .slice A2 wb.length c2] 32)).alloc (.cells #[.int .i64 0, .int .i64 0, .slice none 0 0] 32) := ⟨_, rfl⟩
  have HG3 := hidden (show Grows w W3 by rw [hW3]; exact ((growB _ _).of_below (growB _ _)).of_below (growB _ _))
  have HP := hidden (show Row W3 w.heap.size 32 [.int .i64 ha, .int .i64 (na : Int), .slice A1 wa.length c1] by rw [hW3]; exact ((Row.new w 32 #[.int .i64 ha, .int .i64 (na : Int), .slice A1 wa.length c1] _ rfl).grow (growB _ _)).grow (growB _ _))
  have HQ := hidden (show Row W3 (w.heap.size + 1) 32 [.int .i64 hb, .int .i64 (nb : Int), .slice A2 wb.length c2] by rw [hW3]; exact (Row.at_ (w.alloc _) 32 #[.int .i64 hb, .int .i64 (nb : Int), .slice A2 wb.length c2] _ rfl _ (by simp)).grow (growB _ _))
  have HZ := hidden (show Row W3 (w.heap.size + 1 + 1) 32 [.int .i64 0, .int .i64 0, .slice none 0 0] by rw [hW3]; exact Row.at_ _ 32 #[.int .i64 0, .int .i64 0, .slice none 0 0] _ rfl _ (by simp))
  by_cases h0 : ha = hb ∧ na = nb
  · obtain ⟨rfl, rfl⟩ := h0
    obtain ⟨WS, hWS⟩ : ∃ WS, WS = pack na fun j => mem na wa j || mem na wb j := ⟨_, rfl⟩
    have HO := hidden (fun W (h : Grows w W) => freshset_loose (ror_any (.agg #[.int .i64 (na : Int), .slice A1 wa.length c1]) (.agg #[.int .i64 (na : Int), .slice A2 wb.length c2]) na na wa wb W ⟨_, rfl, HR1.out.grow h, by have := oa.1; unfold nw at this; omega, by omega⟩ ⟨_, rfl, HR2.out.grow h, by have := ob.1; unfold nw at this; omega, by omega⟩))
    rw [Nat.max_self, ← hWS] at HO
    have HLW := hidden (show WS.length ≤ 1024 by rw [hWS, pack_length]; unfold nw; omega)
    rw [← hWS]
    clear hWS oa ob la lb
    go_enter Try.func19, Try.ntmps19
    go_wp2_with fail
    rw [← hW3]
    clear hW3
    refine wp_region_loose_tail 8 (tabRs [(6, SetV na WS)]) (by kernel_rfl) (by kernel_rfl) (tabRs_cons SetV.lasts tabRs_nil) ?_
    simp only [List.take_succ_cons, List.take_zero, List.drop_succ_cons, List.drop_zero]
    iterate 6 ((with_reducible refine loose_one (v := ?_) (a' := ?_) ?_ ?_ (fun w' hC' hG' => ?_) ?_ ?_); rotate_left 2; (focus rfl); (focus rfl); (focus (have p0 := (HP.out.grow hC').cell 0; have p1 := (HP.out.grow hC').cell 1; have p2 := (HP.out.grow hC').cell 2; have q0 := (HQ.out.grow hC').cell 0; have q1 := (HQ.out.grow hC').cell 1; have q2 := (HQ.out.grow hC').cell 2; simp only [List.getElem?_cons_succ, List.getElem?_cons_zero] at p0 p1 p2 q0 q1 q2; clear hC' hG'; go_simp; rfl)); (focus (go_simp; rfl)))
    refine loose_call (R := SetV na WS) (f := 39) (args := #[.agg #[.int .i64 (na : Int), .slice A1 wa.length c1], .agg #[.int .i64 (na : Int), .slice A2 wb.length c2]]) (by rfl) (by rfl) (fun _ => by go_simp) (fun w' hC' hG' => HO.out w' (HG3.out.of_below hC')) ?_
    rintro _ ⟨_, _, g7, c7, rfl, _, _⟩
    refine ⟨?_, ?_, ?_⟩
    rotate_left
    · go_simp
      rfl
    iterate 1 ((with_reducible refine loose_one (v := ?_) (a' := ?_) ?_ ?_ (fun w' hC' hG' => ?_) ?_ ?_); rotate_left 2; (focus rfl); (focus rfl); (focus (clear hC' hG'; go_simp; rfl)); (focus (go_simp; rfl)))
    refine loose_done (fun w7 hC' hG' => ?_)
    obtain ⟨A8, c8, he8, hr8, hl8⟩ := (hG' 6).2 rfl
    clear hG'
    have he9 : g7 = A8 ∧ c7 = c8 := by simpa using he8
    obtain ⟨rfl, rfl⟩ := he9
    have HZ7 := hidden (HZ.out.grow hC')
    have HG7 := hidden (HG3.out.of_below hC')
    have HR8 := hidden hr8
    clear hC' hr8 he8
    refine wpList_store_bf rfl _ _ rfl w7 rfl (w.heap.size + 1 + 1) rfl ha na _ _ _ rfl _ _ _ HZ7.out ?_
    intro W8 hr hg hrow
    have HRW := hidden hr
    have HG8 := hidden (hg _ HG7.out (by omega))
    have HU8 : Hid (Reads W8 (.slice (some ⟨g7, 0, none⟩) WS.length c7) (ucells WS)) := by
      have hne : g7 ≠ w.heap.size + 1 + 1 := by
        intro h
        have h1 := HR8.out
        have h2 := HZ7.out
        rw [h] at h1
        unfold Row at h1 h2
        rw [h1] at h2
        injection h2 with h2
        injection h2 with h2 h3
        cases h3
      exact (hrow _ _ _ hne HR8.out).reads hl8
    clear hr hg hrow
    go_wp2_with fail
    refine bodyPost_ret (results_bf2 rfl _ _ _ _ _ _ _ rfl HRW.out rfl) rfl ⟨fun _ => ⟨_, rfl, ⟨_, rfl, HU8.out, by have := HLW.out; omega⟩, HG8.out⟩, fun h => absurd (by simp) h⟩
  · have HNE := hidden h0
    have fin : ∀ (W8 : World) (e : Ending), Grows w W8 → e = .returned (.tuple #[.agg #[.int .i64 0, .int .i64 0, .slice none 0 0], .int .i64 1]) → (ha = hb ∧ na = nb → FilR ha na (pack na fun j => mem na wa j || mem nb wb j) 0 w e W8) ∧ (¬ (ha = hb ∧ na = nb) → FilR 0 0 [] 1 w e W8) :=
      fun _ _ g8 he => ⟨fun h => absurd h HNE.out, fun _ => ⟨_, he, ⟨_, rfl, ⟨none, 0, rfl, Nat.le_refl _, fun h => absurd h (by simp [ucells])⟩, by simp⟩, g8⟩⟩
    have FIN := hidden fin
    clear fin
    by_cases h1 : ha = hb
    · have d1 : (ha != hb) = false := by simp [h1]
      have d2 : ((na : Int) != (nb : Int)) = true := by simp; intro h; exact h0 ⟨h1, by omega⟩
      clear h0 h1 oa ob la lb
      go_enter Try.func19, Try.ntmps19
      go_wp2_with fail
      rw [← hW3]
      clear hW3
      exact bodyPost_ret (results_bf2 rfl _ _ _ _ _ _ _ rfl HZ.out rfl) rfl (FIN.out _ _ HG3.out rfl)
    · have d1 : (ha != hb) = true := by simpa using h1
      clear h0 h1 oa ob la lb
      go_enter Try.func19, Try.ntmps19
      go_wp2_with fail
      rw [← hW3]
      clear hW3
      exact bodyPost_ret (results_bf2 rfl _ _ _ _ _ _ _ rfl HZ.out rfl) rfl (FIN.out _ _ HG3.out rfl)
def eqF (ha na : Int) (wa : List UInt64) (hb nb : Int) (wb : List UInt64) : Bool := (ha == hb) && pairEq na nb wa wb
theorem eqF_iff {ha na hb nb : Int} {wa wb : List UInt64} : eqF ha na wa hb nb wb = true ↔ ha = hb ∧ na = nb ∧ wa = wb := by
  unfold eqF pairEq
  simp
theorem eqF_self (h n : Int) (ws : List UInt64) : eqF h n ws h n ws = true := eqF_iff.2 ⟨rfl, rfl, rfl⟩
set_option maxHeartbeats 400000 in
theorem req15_any (x y : Value) (ha hb na nb : Int) (wa wb : List UInt64) (w : World) (hx : IsF w x ha na wa) (hy : IsF w y hb nb wb) :
    Calls Try.prog 13 #[x, y] w fun e w' => e = .returned (.bool (eqF ha na wa hb nb wb)) ∧ Grows w w' := by
  obtain ⟨u1, rfl, r1, l1⟩ := hx
  obtain ⟨u2, rfl, r2, l2⟩ := hy
  have HR1 := hidden r1
  have HR2 := hidden r2
  obtain ⟨A1, c1, rfl, _⟩ := r1.slice_
  obtain ⟨A2, c2, rfl, _⟩ := r2.slice_
  simp only [ucells_length] at HR1 HR2 ⊢
  have HEV := hidden (fun W h => rbsequal_any (.agg #[.int .i64 na, .slice A1 wa.length c1]) (.agg #[.int .i64 nb, .slice A2 wb.length c2]) na nb wa wb W ⟨_, rfl, HR1.out.grow h, l1⟩ ⟨_, rfl, HR2.out.grow h, l2⟩)
  have HB := hidden (show eqF ha na wa hb nb wb = ((ha == hb) && pairEq na nb wa wb) from rfl)
  have HG := hidden (show ∀ o o', Grows w ((w.alloc o).alloc o') from fun o o' => (growB _ _).of_below (growB _ _))
  generalize pairEq na nb wa wb = b2 at *
  clear r1 r2
  by_cases h1 : ha = hb
  · have d1 : (ha == hb) = true := by simp [h1]
    rw [d1] at HB
    go_enter Try.func13, Try.ntmps13
    go_wp2_with fail
    refine (HEV.out _ (HG.out _ _)).mono ?_
    rintro e w5 ⟨rfl, g5⟩
    have HG5 := hidden ((HG.out _ _).of_below g5)
    clear g5
    go_wp2_with fail
    go_ret
    exact ⟨by rw [HB.out]; rfl, HG5.out⟩
  · have d1 : (ha == hb) = false := by simp [h1]
    rw [d1] at HB
    go_enter Try.func13, Try.ntmps13
    go_wp2_with fail
    go_ret
    exact ⟨by rw [HB.out]; rfl, HG.out _ _⟩
end Go.Proofs.Ytgegjoggiadgbaa
/-
  Shaken: what the claims of this seat need of this text. No condition.
-/
namespace Go.Proofs.Ytgegjoggiadgbaa
set_option maxRecDepth 8000
open Go.RowKit
set_option linter.unusedVariables false
set_option linter.unusedSimpArgs false
def DwRel (w : World) (l : List UInt8) (o c : Nat) (off i : Value) (wr : World) : Prop :=
  ∃ j : Nat, j ≤ c ∧ off = .int .i64 ((o + 8 * j : Nat) : Int) ∧ i = .int .i64 (j : Int) ∧ o + 8 * j ≤ l.length ∧ Row wr w.heap.size 53 (ucells (upW l o c j)) ∧ Grows w wr
def DwR (l : List UInt8) (o c : Nat) (w : World) (e : Ending) (w' : World) : Prop :=
  (l.length < o + 8 * c ∧ e = .returned (.tuple #[.slice none 0 0, .int .i64 0, .int .i64 2]) ∧ Grows w w') ∨
  (o + 8 * c ≤ l.length ∧ ∃ g, w.heap.size ≤ g ∧ e = .returned (.tuple #[.slice (some ⟨g, 0, none⟩) c c, .int .i64 ((o + 8 * c : Nat) : Int), .int .i64 0]) ∧ Row w' g 53 (ucells (readW l o c)) ∧ Grows w w')
set_option maxHeartbeats 1000000 in
theorem decodeWords_any (v : Value) (l : List UInt8) (o c : Nat) (w : World) (hv : IsBytes w v l) (hl : l.length ≤ 16777216) (ho : o ≤ l.length) (hc : c ≤ 100000) :
    Calls Try.prog 41 #[v, .int .i64 (o : Int), .int .i64 (c : Int)] w (DwR l o c w) := by
  have HV := hidden hv
  have HML : Hid (l.length ≤ maxLen) := by show _ ≤ _; unfold maxLen; omega
  obtain ⟨A, cp, rfl, _⟩ := hv
  have hmk := fun W => run_make_one (P := Try.prog) 28 53 (.int .u64 0) 8 Try.underlying28 info_u64 rfl c (by omega) (by omega) W
  have HM := hidden (made_ucells c)
  have HU0 := hidden (upW_zero l o c)
  have HUL := hidden (upW_length l o c)
  have hat : Row (w.alloc (.cells (madeCells #[.int .u64 0] c) 53)) w.heap.size 53 (ucells (upW l o c 0)) := by
    rw [HU0.out]; exact Row.at_ _ _ _ _ HM.out _ rfl
  have HAT := hidden hat
  have HG0 := hidden (growB w (.cells (madeCells #[.int .u64 0] c) 53))
  have HO := hidden ho
  clear hat
  go_enter Try.func41, Try.ntmps41
  go_wp2_with fail
  go_loopw [1, 17] (fun off i wr => DwRel w l o c off i wr) (fun _ i _ => c - (intOf i).toNat)
  case atStart => exact ⟨0, Nat.zero_le _, by simp, rfl, by have := HO.out; omega, HAT.out, HG0.out⟩
  case round =>
    obtain ⟨j, hj, rfl, rfl, hb, hrow, hg⟩ := hrel
    have HR := hidden hrow
    have HG := hidden hg
    have HB := hidden hb
    clear hrow hg hb
    by_cases hlt : j < c
    · have HRF := hidden (fun W h => readFixed_any (.slice A l.length cp) l ((o + 8 * j : Nat) : Int) 8 W (HV.out.grow h) HML.out (by omega) (by have := HB.out; omega))
      by_cases hs : o + 8 * j + 8 ≤ l.length
      · have HW := hidden (rdf_word (l := l) (o := o) (i := j) hs)
        rw [HW.out] at HRF
        have HSET := hidden (upW_set (l := l) (o := o) hlt)
        have hcj := HR.out.cell j
        have hfj := HR.out.frozen j
        rw [ucells_get (by rw [HUL.out]; exact hlt)] at hcj
        have HN := hidden (show ((o + 8 * j : Nat) : Int) + 8 = ((o + 8 * (j + 1) : Nat) : Int) by omega)
        have HLE := hidden (show o + 8 * (j + 1) ≤ l.length by omega)
        have HBD := hidden (show ((o + 8 * j : Nat) : Int) ≤ 16777216 by have := HB.out; omega)
        obtain ⟨q, hq⟩ : ∃ q, q = o + 8 * j := ⟨_, rfl⟩
        obtain ⟨x, hx⟩ : ∃ x, x = wordB l o j := ⟨_, rfl⟩
        rw [← hq] at HRF HN HBD
        rw [← hq]
        rw [← hx] at HRF HSET
        have hqb := HBD.out
        clear hq hx hs HW
        generalize (upW l o c j)[j]'(by rw [HUL.out]; exact hlt) = y at *
        go_wp2_with fail
        refine (HRF.out _ HG.out).mono ?_
        rintro e w5 ⟨rfl, rfl⟩
        go_wp2_with fail
        go_roundw
        case rel =>
          refine ⟨j + 1, hlt, by rw [← HN.out], by go_num, HLE.out, ?_, HG.out.setCell (by simp) _⟩
          have h := HR.out.set_ j (.int .u64 (x.toNat : Int))
          rw [ucells_set, HSET.out] at h
          exact h
        case measure => simp [intOf]; omega
      · have HW := hidden (rdf_none (l := l) (o := o + 8 * j) HB.out (by omega))
        rw [HW.out] at HRF
        have HS := hidden (show l.length < o + 8 * c by omega)
        have HBD := hidden (show ((o + 8 * j : Nat) : Int) ≤ 16777216 by have := HB.out; omega)
        obtain ⟨q, hq⟩ : ∃ q, q = o + 8 * j := ⟨_, rfl⟩
        rw [← hq] at HRF HBD
        rw [← hq]
        have hqb := HBD.out
        clear hq hs HW
        go_wp2_with fail
        refine (HRF.out _ HG.out).mono ?_
        rintro e w5 ⟨rfl, rfl⟩
        go_wp2_with fail
        go_ret3
        exact .inl ⟨HS.out, rfl, HG.out⟩
    · have hjc : j = c := by omega
      have HFU := hidden (upW_full l o c)
      have hR := HR.out
      rw [hjc, HFU.out] at hR
      have HR2 := hidden hR
      have HB2 := hidden (show o + 8 * c ≤ l.length by have := HB.out; rw [hjc] at this; exact this)
      subst hjc
      obtain ⟨q, hq⟩ : ∃ q, q = o + 8 * j := ⟨_, rfl⟩
      have HQ := hidden hq
      rw [← hq]
      clear hR hq
      go_wp2_with fail
      go_ret3
      exact .inr ⟨HB2.out, w.heap.size, Nat.le_refl _, by rw [← HQ.out]; rfl, HR2.out, HG.out⟩
end Go.Proofs.Ytgegjoggiadgbaa
/-
  Shaken: what the claims of this seat need of this text. No condition.
-/
namespace Go.Proofs.Ytgegjoggiadgbaa
set_option maxRecDepth 8000
open Go.RowKit
set_option linter.unusedVariables false
set_option linter.unusedSimpArgs false
theorem wrap64_eq (n : Int) : wrap64 n = IntKind.i64.wrap n := by rw [IntKind.wrap_i64]; unfold RowKit.wrap64; rfl
theorem wrap64_range (n : Int) : -9223372036854775808 ≤ wrap64 n ∧ wrap64 n ≤ 9223372036854775807 := by rw [wrap64_eq, IntKind.wrap_i64]; omega
theorem wrap64_small {n : Int} (h0 : 0 ≤ n) (h1 : n ≤ 65536) : wrap64 n = n := by rw [wrap64_eq, IntKind.wrap_i64]; omega
abbrev Dec15 := Int × Int × List UInt64 × Int × Int
def DecR15 (R : Dec15) (w : World) (e : Ending) (w' : World) : Prop := ∃ v, e = .returned (.tuple #[v, .int .i64 R.2.2.2.1, .int .i64 R.2.2.2.2]) ∧ IsF w' v R.1 R.2.1 R.2.2.1 ∧ Grows w w'
theorem DecR15.err {w w' : World} {err : Int} (hg : Grows w w') : DecR15 (0, 0, [], 0, err) w (.returned (.tuple #[.agg #[.int .i64 0, .int .i64 0, .slice none 0 0], .int .i64 0, .int .i64 err])) w' :=
  ⟨_, rfl, ⟨_, rfl, ⟨none, 0, rfl, Nat.le_refl _, fun h => absurd h (by simp [ucells])⟩, by simp⟩, hg⟩
set_option maxHeartbeats 2000000 in
theorem bdecode_any (v : Value) (l : List UInt8) (off : Int) (w : World) (hv : IsBytes w v l) (hl : l.length ≤ 16777216) (ho : I64 off) :
    Calls Try.prog 20 #[v, .int .i64 off] w (DecR15 (decF15 l off) w) := by
  obtain ⟨R, hR⟩ : ∃ R, decF15 l off = R := ⟨_, rfl⟩
  rw [hR]
  have HV := hidden hv
  have HML : Hid (l.length ≤ maxLen) := by show _ ≤ _; unfold maxLen; omega
  obtain ⟨A, cp, rfl, _⟩ := hv
  obtain ⟨h, p, e1, h1⟩ : ∃ h p e, dcd l off = (h, p, e) := ⟨_, _, _, rfl⟩
  have HD1 := hidden (fun W (hg : Grows w W) => decode_any (.slice A l.length cp) l off W (HV.out.grow hg) HML.out ho.1 ho.2)
  rw [h1] at HD1
  simp only [] at HD1
  obtain ⟨b1, b2, b3, b4⟩ := dcd_bd15 h1
  obtain ⟨W1, hW1⟩ : ∃ W1, W1 = w.alloc (.cells #[.int .i64 0, .int .i64 0, .slice none 0 0] 32) := ⟨_, rfl⟩
  have HG1 := hidden (show Grows w W1 by rw [hW1]; exact growB _ _)
  have HZ1 := hidden (show Row W1 w.heap.size 32 [.int .i64 0, .int .i64 0, .slice none 0 0] by rw [hW1]; exact Row.new w 32 #[.int .i64 0, .int .i64 0, .slice none 0 0] _ rfl)
  by_cases he1 : e1 = 0
  · subst he1
    obtain ⟨c1, c2, c3⟩ := b3 rfl
    obtain ⟨n, q, e2, h2⟩ : ∃ n q e, dcd l p = (n, q, e) := ⟨_, _, _, rfl⟩
    have HD2 := hidden (fun W (hg : Grows w W) => decode_any (.slice A l.length cp) l p W (HV.out.grow hg) HML.out (by omega) (by omega))
    rw [h2] at HD2
    simp only [] at HD2
    obtain ⟨n1, n2, n3, n4⟩ := dcd_bd15 h2
    by_cases he2 : e2 = 0
    · subst he2
      obtain ⟨k1, k2, k3⟩ := n3 rfl
      cases hp : okP h n
      · have HRE := hidden (show R = (0, 0, [], 0, 4) from hR.symm.trans (decF15_e3 h1 h2 hp))
        have HP := hidden (fun W => params_any (wrap64 h) (wrap64 n) W (wrap64_range h).1 (wrap64_range h).2 (wrap64_range n).1 (wrap64_range n).2)
        rw [wrap64_eq, wrap64_eq, okP_wrap b1 b2 n1 n2, hp, ← wrap64_eq, ← wrap64_eq] at HP
        have HGA := hidden (show Grows w (W1.alloc (.cells #[.int .i64 (wrap64 h), .int .i64 (wrap64 n), .slice none 0 0] 32)) from HG1.out.of_below (growB _ _))
        have HZA := hidden (HZ1.out.grow (growB W1 (.cells #[.int .i64 (wrap64 h), .int .i64 (wrap64 n), .slice none 0 0] 32)))
        clear hR b1 b2 b3 b4 n1 n2 n3 n4 c1 c2 c3 k1 k2 k3 h1 h2 hp
        go_enter Try.func20, Try.ntmps20
        go_wp2_with fail
        rw [← hW1]
        clear hW1
        refine (HD1.out _ HG1.out).mono ?_
        rintro e w5 ⟨rfl, rfl⟩
        go_wp2_with fail
        refine (HD2.out _ HG1.out).mono ?_
        rintro e w5 ⟨rfl, rfl⟩
        go_wp2_with fail
        generalize wrap64 h = h' at *
        generalize wrap64 n = n' at *
        refine (HP.out _).mono ?_
        rintro e w5 ⟨rfl, rfl⟩
        go_wp2_with ((with_reducible refine at_sf rfl _ _ rfl ?_); refine wpList_store_bf rfl _ _ rfl _ rfl w.heap.size rfl 0 0 _ _ _ rfl _ _ _ HZA.out ?_; intro W8 hr hg hrow; have HRW := hidden hr; have HG8 := hidden (hg _ HGA.out (Nat.le_refl _)); clear hr hg hrow)
        exact bodyPost_ret (results_bf3 rfl _ _ _ _ _ _ _ _ rfl HRW.out rfl rfl) rfl (by rw [HRE.out]; exact DecR15.err HG8.out)
      · have hb := okP_spec hp
        obtain ⟨q', rfl⟩ := Int.eq_ofNat_of_zero_le (show 0 ≤ q by omega)
        obtain ⟨c, hc⟩ := Int.eq_ofNat_of_zero_le (show 0 ≤ n / 64 by omega)
        have hcb : c ≤ 1024 := by omega
        have hwh : wrap64 h = h := by rw [wrap64_eq, IntKind.wrap_i64]; omega
        have hwn : wrap64 n = n := by rw [wrap64_eq, IntKind.wrap_i64]; omega
        have hn0 : 0 ≤ n := by omega
        have hn1 : n ≤ 65536 := by omega
        have HP := hidden (fun W => params_any h n W (by omega) (by omega) (by omega) (by omega))
        rw [hp] at HP
        have HDW := hidden (fun W (hg : Grows w W) => decodeWords_any (.slice A l.length cp) l q' c W (HV.out.grow hg) hl (by omega) (by omega))
        have HSH := hidden (fun (x : l.length < q' + 8 * c) => hR.symm.trans (decF15_e4 h1 h2 hp (by rw [hc]; omega)))
        have HFI := hidden (fun (x : q' + 8 * c ≤ l.length) => hR.symm.trans (decF15_ok h1 h2 hp (by rw [hc]; omega)))
        rw [hc] at HFI
        simp only [Int.toNat_natCast] at HFI
        have HGA := hidden (show Grows w (W1.alloc (.cells #[.int .i64 h, .int .i64 n, .slice none 0 0] 32)) from HG1.out.of_below (growB _ _))
        have HZA := hidden (HZ1.out.grow (growB W1 (.cells #[.int .i64 h, .int .i64 n, .slice none 0 0] 32)))
        have HFA := hidden (Row.new W1 32 #[.int .i64 h, .int .i64 n, .slice none 0 0] _ rfl)
        have HS1 := hidden (show w.heap.size < W1.heap.size from HZ1.out.lt)
        have HSA := hidden (show W1.heap.size < (W1.alloc (.cells #[.int .i64 h, .int .i64 n, .slice none 0 0] 32)).heap.size by simp)
        have HCB := hidden hcb
        have HQB := hidden (show q' ≤ 16777216 by omega)
        clear hR b1 b2 b3 b4 n1 n2 n3 n4 c1 c2 c3 k1 k2 k3 h1 h2 hp hb hl
        go_enter Try.func20, Try.ntmps20
        go_wp2_with fail
        rw [← hW1]
        clear hW1
        refine (HD1.out _ HG1.out).mono ?_
        rintro e w5 ⟨rfl, rfl⟩
        go_wp2_with fail
        refine (HD2.out _ HG1.out).mono ?_
        rintro e w5 ⟨rfl, rfl⟩
        go_wp2_with fail
        refine (HP.out _).mono ?_
        rintro e w5 ⟨rfl, rfl⟩
        go_wp2_with fail
        rw [hc]
        generalize hWA : W1.alloc (.cells #[.int .i64 h, .int .i64 n, .slice none 0 0] 32) = WA at *
        clear hWA
        refine (HDW.out _ HGA.out).mono ?_
        have hs1 := HS1.out
        have hsa := HSA.out
        rintro e w6 (⟨hsh, rfl, g6⟩ | ⟨hfi, g, hg6, rfl, hrow6, g6⟩)
        · have HRE := hidden (HSH.out hsh)
          have HF6 := hidden (HFA.out.grow g6)
          have HZ6 := hidden (HZA.out.grow g6)
          have HG6 := hidden (HGA.out.of_below g6)
          clear g6 hsh hs1 hsa
          have p2 := HF6.out.cell 2
          have fr := HF6.out.frozen 2
          simp only [List.getElem?_cons_succ, List.getElem?_cons_zero] at p2
          have HZ7 := hidden (HZ6.out.set_other (a := ⟨W1.heap.size, 2, none⟩) (show W1.heap.size ≠ w.heap.size from Nat.ne_of_gt HS1.out) (.slice none 0 0))
          have HG7 := hidden (HG6.out.setCell (p := ⟨W1.heap.size, 2, none⟩) (Nat.le_of_lt HS1.out) (.slice none 0 0))
          go_wp2_with ((with_reducible refine at_sf rfl _ _ rfl ?_); refine wpList_store_bf rfl _ _ rfl _ rfl w.heap.size rfl 0 0 _ _ _ rfl _ _ _ HZ7.out ?_; intro W8 hr hg hrow; have HRW := hidden hr; have HG8 := hidden (hg _ HG7.out (Nat.le_refl _)); clear hr hg hrow)
          exact bodyPost_ret (results_bf3 rfl _ _ _ _ _ _ _ _ rfl HRW.out rfl rfl) rfl (by rw [HRE.out]; exact DecR15.err HG8.out)
        · have HRE := hidden (HFI.out hfi)
          have HRL := hidden (readW_length l q' c)
          have HF6 := hidden (HFA.out.grow g6)
          have HZ6 := hidden (HZA.out.grow g6)
          have HG6 := hidden (HGA.out.of_below g6)
          have HR6 := hidden hrow6
          have HN1 := hidden (show g ≠ W1.heap.size by omega)
          have HN2 := hidden (show g ≠ w.heap.size by omega)
          have hrw : Reads w6 (.slice (some ⟨g, 0, none⟩) c c) (ucells (readW l q' c)) := by
            have h := hrow6.reads (Nat.le_of_eq (readW_length l q' c))
            rwa [readW_length] at h
          clear g6 hfi hs1 hsa hg6 hrow6
          have p2 := HF6.out.cell 2
          have fr := HF6.out.frozen 2
          simp only [List.getElem?_cons_succ, List.getElem?_cons_zero] at p2
          have HZ7 := hidden (HZ6.out.set_other (a := ⟨W1.heap.size, 2, none⟩) (show W1.heap.size ≠ w.heap.size from Nat.ne_of_gt HS1.out) (.slice (some ⟨g, 0, none⟩) c c))
          have HG7 := hidden (HG6.out.setCell (p := ⟨W1.heap.size, 2, none⟩) (Nat.le_of_lt HS1.out) (.slice (some ⟨g, 0, none⟩) c c))
          have HR7 := hidden (HR6.out.set_other (a := ⟨W1.heap.size, 2, none⟩) (show W1.heap.size ≠ g from fun e => HN1.out e.symm) (.slice (some ⟨g, 0, none⟩) c c))
          have HF7 : Hid (Row (w6.setCell ⟨W1.heap.size, 2, none⟩ (.slice (some ⟨g, 0, none⟩) c c)) W1.heap.size 32 [.int .i64 h, .int .i64 n, .slice (some ⟨g, 0, none⟩) c c]) := HF6.out.set_ 2 (.slice (some ⟨g, 0, none⟩) c c)
          obtain ⟨Q, hQ⟩ : ∃ Q, Q = q' + 8 * c := ⟨_, rfl⟩
          have HQ := hidden hQ
          rw [← hQ]
          clear hQ hrw
          go_wp2_with (first
            | ((with_reducible refine at_sf rfl _ _ rfl ?_); refine wpList_store_bf rfl _ _ rfl _ rfl w.heap.size rfl h n _ _ _ rfl _ _ _ HZ7.out ?_; intro W8 hr hg hrow; have HRW := hidden hr; have HG8 := hidden (hg _ HG7.out (Nat.le_refl _)); have HR8 := hidden (hrow _ _ _ HN2.out HR7.out); clear hr hg hrow)
            | ((with_reducible refine at_lf rfl _ rfl ?_); refine wpList_load_bf rfl _ rfl W1.heap.size rfl _ _ _ HF7.out ?_))
          refine bodyPost_ret (results_bf3 rfl _ _ _ _ _ _ _ _ rfl HRW.out rfl rfl) rfl ?_
          rw [HRE.out]
          refine ⟨_, by rw [HQ.out]; push_cast; rfl, ⟨_, rfl, ?_, ?_⟩, HG8.out⟩
          · have h := HR8.out.reads (Nat.le_of_eq HRL.out)
            rwa [HRL.out] at h
          · show (readW l q' c).length ≤ _
            rw [HRL.out]
            have := HCB.out
            omega
    · have HRE := hidden (show R = (0, 0, [], 0, e2) from hR.symm.trans (decF15_e2 h1 h2 he2))
      have d2 : (e2 != 0) = true := by simpa using he2
      clear hR b1 b2 b3 b4 n1 n2 n3 n4 c1 c2 c3 h1 h2 he2
      go_enter Try.func20, Try.ntmps20
      go_wp2_with fail
      rw [← hW1]
      clear hW1
      refine (HD1.out _ HG1.out).mono ?_
      rintro e w5 ⟨rfl, rfl⟩
      go_wp2_with fail
      refine (HD2.out _ HG1.out).mono ?_
      rintro e w5 ⟨rfl, rfl⟩
      go_wp2_with ((with_reducible refine at_sf rfl _ _ rfl ?_); refine wpList_store_bf rfl _ _ rfl _ rfl w.heap.size rfl 0 0 _ _ _ rfl _ _ _ HZ1.out ?_; intro W8 hr hg hrow; have HRW := hidden hr; have HG8 := hidden (hg _ HG1.out (Nat.le_refl _)); clear hr hg hrow)
      exact bodyPost_ret (results_bf3 rfl _ _ _ _ _ _ _ _ rfl HRW.out rfl rfl) rfl (by rw [HRE.out]; exact DecR15.err HG8.out)
  · have HRE := hidden (show R = (0, 0, [], 0, e1) from hR.symm.trans (decF15_e1 h1 he1))
    have d1 : (e1 != 0) = true := by simpa using he1
    clear hR b1 b2 b3 b4 h1 he1
    go_enter Try.func20, Try.ntmps20
    go_wp2_with fail
    rw [← hW1]
    clear hW1
    refine (HD1.out _ HG1.out).mono ?_
    rintro e w5 ⟨rfl, rfl⟩
    go_wp2_with ((with_reducible refine at_sf rfl _ _ rfl ?_); refine wpList_store_bf rfl _ _ rfl _ rfl w.heap.size rfl 0 0 _ _ _ rfl _ _ _ HZ1.out ?_; intro W8 hr hg hrow; have HRW := hidden hr; have HG8 := hidden (hg _ HG1.out (Nat.le_refl _)); clear hr hg hrow)
    exact bodyPost_ret (results_bf3 rfl _ _ _ _ _ _ _ _ rfl HRW.out rfl rfl) rfl (by rw [HRE.out]; exact DecR15.err HG8.out)
end Go.Proofs.Ytgegjoggiadgbaa
/-
  Shaken: what the claims of this seat need of this text. No condition.
-/
namespace Go.Proofs.Ytgegjoggiadgbaa
open Go.RowKit
set_option linter.unusedVariables false
set_option linter.unusedSimpArgs false
theorem pack_up {n c : Nat} (h : nw n = c) (l : List UInt8) (o : Nat) : pack n (fun _ => false) = upW l o c 0 := by rw [pack_none, h, upW_zero]
def RdRel (w : World) (l : List UInt8) (o c F g : Nat) (h n : Int) (i : Value) (wr : World) : Prop :=
  ∃ j : Nat, j ≤ c ∧ i = .int .i64 (j : Int) ∧ Row wr g 53 (ucells (upW l o c j)) ∧ Row wr F 32 [.int .i64 h, .int .i64 n, .slice (some ⟨g, 0, none⟩) c c] ∧ Row wr w.heap.size 32 [.int .i64 0, .int .i64 0, .slice none 0 0] ∧ Grows w wr
structure KeepZ (Z : Nat) (N : List Value) (a b : World) : Prop where
  row : ∀ g' e ys, g' ≠ Z → Row a g' e ys → Row b g' e ys
  grows : ∀ w0, Grows w0 a → w0.heap.size ≤ Z → Grows w0 b
  old : (∃ z1 z2 z3, Row a Z 32 [z1, z2, z3]) → ∃ z1 z2 z3, Row b Z 32 [z1, z2, z3]
  new : Row a Z 32 N → Row b Z 32 N
theorem KeepZ.re (Z : Nat) (N : List Value) (w : World) : KeepZ Z N w w := ⟨fun _ _ _ _ h => h, fun _ h _ => h, id, id⟩
theorem KeepZ.tr {Z : Nat} {N : List Value} {a b c : World} (h : KeepZ Z N a b) (k : KeepZ Z N b c) : KeepZ Z N a c :=
  ⟨fun g e ys hne hr => k.row g e ys hne (h.row g e ys hne hr), fun w0 h0 hz => k.grows w0 (h.grows w0 h0 hz) hz, fun x => k.old (h.old x), fun x => k.new (h.new x)⟩
theorem KeepZ.dr (Z : Nat) (N : List Value) (w : World) : KeepZ Z N w { w with drawn := w.drawn + 1 } :=
  ⟨fun _ _ _ _ h => h, fun _ h _ => ⟨h.os, h.tape, h.output, h.size, h.block⟩, id, id⟩
abbrev keepSte (Z : Nat) (N : List Value) : SteQ := ⟨KeepZ Z N, KeepZ.re Z N, KeepZ.tr, KeepZ.dr Z N⟩
theorem KeepZ.store {Z : Nat} {a b c z1 z2 z3 : Value} {w : World} (h : Row w Z 32 [z1, z2, z3]) : KeepZ Z [a, b, c] w (w.setRow Z #[a, b, c]) := by
  have hr := h.setRow_ [a, b, c] rfl
  refine ⟨fun g' e ys hne h0 => ?_, fun w0 h0 hg => below_setRow h0 hg _, fun _ => ⟨a, b, c, hr⟩, fun _ => hr⟩
  unfold Row at h0 ⊢
  rw [setRow_other _ _ _ _ hne]
  exact h0
theorem store_run_bf {o : Oper} {a : Act} {w : World} (x y : Operand) (ho : o.op = .store 32 x y) (g : Nat) (h n : Int) (A : Option Addr) (k c : Nat) (hx : a.eval x = .pointer (some ⟨g, 0, none⟩)) (hy : a.eval y = .agg #[.int .i64 h, .int .i64 n, .slice A k c])
    {z1 z2 z3 : Value} (hr : Row w g 32 [z1, z2, z3]) : (execOp a.eval o).run Try.prog w = .ok .skip (w.setRow g #[.int .i64 h, .int .i64 n, .slice A k c]) := by
  unfold execOp
  simp only [ho, hx, hy, Instr.storeAt, Instr.sureAddr, Sem.run_bind, Sem.run_pure, Result.andThen_ok, run_storeVar_row (P := Try.prog) w g _ 32 _ #[.int .i64 h, .int .i64 n, .slice A k c] hr size_bf rfl (by simp [Value.oneCell'])]
set_option maxRecDepth 8000 in
set_option maxHeartbeats 2000000 in
theorem rbdecode_any (v : Value) (l : List UInt8) (off : Int) (w : World) (hv : IsBytes w v l) (hl : l.length ≤ 16777216) (ho : I64 off) :
    Calls Try.prog 21 #[v, .int .i64 off] w (DecR15 (decF15 l off) w) := by
  obtain ⟨R, hR⟩ : ∃ R, decF15 l off = R := ⟨_, rfl⟩
  rw [hR]
  have HV := hidden hv
  have HML : Hid (l.length ≤ maxLen) := by show _ ≤ _; unfold maxLen; omega
  obtain ⟨A, cp, rfl, _⟩ := hv
  obtain ⟨h, p, e1, h1⟩ : ∃ h p e, dcd l off = (h, p, e) := ⟨_, _, _, rfl⟩
  have HD1 := hidden (fun W (hg : Grows w W) => rdecode_any (.slice A l.length cp) l off W (HV.out.grow hg) HML.out ho.1 ho.2)
  rw [h1] at HD1
  simp only [] at HD1
  obtain ⟨b1, b2, b3, b4⟩ := dcd_bd15 h1
  obtain ⟨W1, hW1⟩ : ∃ W1, W1 = w.alloc (.cells #[.int .i64 0, .int .i64 0, .slice none 0 0] 32) := ⟨_, rfl⟩
  have HG1 := hidden (show Grows w W1 by rw [hW1]; exact growB _ _)
  have HZ1 := hidden (show Row W1 w.heap.size 32 [.int .i64 0, .int .i64 0, .slice none 0 0] by rw [hW1]; exact Row.new w 32 #[.int .i64 0, .int .i64 0, .slice none 0 0] _ rfl)
  by_cases he1 : e1 = 0
  · subst he1
    obtain ⟨c1, c2, c3⟩ := b3 rfl
    obtain ⟨n, q, e2, h2⟩ : ∃ n q e, dcd l p = (n, q, e) := ⟨_, _, _, rfl⟩
    have HD2 := hidden (fun W (hg : Grows w W) => rdecode_any (.slice A l.length cp) l p W (HV.out.grow hg) HML.out (by omega) (by omega))
    rw [h2] at HD2
    simp only [] at HD2
    obtain ⟨n1, n2, n3, n4⟩ := dcd_bd15 h2
    by_cases he2 : e2 = 0
    · subst he2
      obtain ⟨k1, k2, k3⟩ := n3 rfl
      cases hp : okP h n
      · have HRE := hidden (show R = (0, 0, [], 0, 4) from hR.symm.trans (decF15_e3 h1 h2 hp))
        by_cases d1 : 11 < h
        · have f1 : decide (11 < h) = true := by simpa using d1
          clear hR b1 b2 b3 b4 n1 n2 n3 n4 c1 c2 c3 k1 k2 k3 h1 h2 hp d1
          go_enter Try.func21, Try.ntmps21
          go_wp2_with fail
          rw [← hW1]
          clear hW1
          refine (HD1.out _ HG1.out).mono ?_
          rintro e w5 ⟨rfl, rfl⟩
          go_wp2_with fail
          refine (HD2.out _ HG1.out).mono ?_
          rintro e w5 ⟨rfl, rfl⟩
          go_wp2_with ((with_reducible refine at_sf rfl _ _ rfl ?_); refine wpList_store_bf rfl _ _ rfl _ rfl w.heap.size rfl 0 0 _ _ _ rfl _ _ _ HZ1.out ?_; intro W8 hr hg hrow; have HRW := hidden hr; have HG8 := hidden (hg _ HG1.out (Nat.le_refl _)); clear hr hg hrow)
          exact bodyPost_ret (results_bf3 rfl _ _ _ _ _ _ _ _ rfl HRW.out rfl rfl) rfl (by rw [HRE.out]; exact DecR15.err HG8.out)
        have f1 : decide (11 < h) = false := by simpa using d1
        by_cases d2 : 65536 < n
        · have f2 : decide (65536 < n) = true := by simpa using d2
          clear hR b1 b2 b3 b4 n1 n2 n3 n4 c1 c2 c3 k1 k2 k3 h1 h2 hp d1 d2
          go_enter Try.func21, Try.ntmps21
          go_wp2_with fail
          rw [← hW1]
          clear hW1
          refine (HD1.out _ HG1.out).mono ?_
          rintro e w5 ⟨rfl, rfl⟩
          go_wp2_with fail
          refine (HD2.out _ HG1.out).mono ?_
          rintro e w5 ⟨rfl, rfl⟩
          go_wp2_with ((with_reducible refine at_sf rfl _ _ rfl ?_); refine wpList_store_bf rfl _ _ rfl _ rfl w.heap.size rfl 0 0 _ _ _ rfl _ _ _ HZ1.out ?_; intro W8 hr hg hrow; have HRW := hidden hr; have HG8 := hidden (hg _ HG1.out (Nat.le_refl _)); clear hr hg hrow)
          exact bodyPost_ret (results_bf3 rfl _ _ _ _ _ _ _ _ rfl HRW.out rfl rfl) rfl (by rw [HRE.out]; exact DecR15.err HG8.out)
        have f2 : decide (65536 < n) = false := by simpa using d2
        have hwh : wrap64 h = h := wrap64_small (by omega) (by omega)
        have hwn : wrap64 n = n := wrap64_small (by omega) (by omega)
        have HP := hidden (fun W => rshape_any h n W (by omega) (by omega) (by omega) (by omega))
        rw [hp] at HP
        have hn0 : 0 ≤ n := by omega
        have hn1 : n ≤ 65536 := by omega
        clear hR b2 b3 b4 n1 n2 n3 n4 c1 c2 c3 k1 k2 k3 h1 h2 hp d2
        go_enter Try.func21, Try.ntmps21
        go_wp2_with fail
        rw [← hW1]
        clear hW1
        refine (HD1.out _ HG1.out).mono ?_
        rintro e w5 ⟨rfl, rfl⟩
        go_wp2_with fail
        refine (HD2.out _ HG1.out).mono ?_
        rintro e w5 ⟨rfl, rfl⟩
        go_wp2_with fail
        refine (HP.out _).mono ?_
        rintro e w5 ⟨rfl, rfl⟩
        go_wp2_with ((with_reducible refine at_sf rfl _ _ rfl ?_); refine wpList_store_bf rfl _ _ rfl _ rfl w.heap.size rfl 0 0 _ _ _ rfl _ _ _ HZ1.out ?_; intro W8 hr hg hrow; have HRW := hidden hr; have HG8 := hidden (hg _ HG1.out (Nat.le_refl _)); clear hr hg hrow)
        exact bodyPost_ret (results_bf3 rfl _ _ _ _ _ _ _ _ rfl HRW.out rfl rfl) rfl (by rw [HRE.out]; exact DecR15.err HG8.out)
      · have hb := okP_spec hp
        obtain ⟨q', rfl⟩ := Int.eq_ofNat_of_zero_le (show 0 ≤ q by omega)
        obtain ⟨m, rfl⟩ := Int.eq_ofNat_of_zero_le (show 0 ≤ n by omega)
        have hh0 : 0 ≤ h := by omega
        have hh1 : h ≤ 11 := by omega
        have hm1 : m ≤ 65536 := by omega
        have hm2 : m % 64 = 0 := by omega
        clear hb
        obtain ⟨c, hc⟩ : ∃ c, c = nw m := ⟨_, rfl⟩
        have hc3 : m = 64 * c := by rw [hc]; unfold nw; omega
        have hc2 : ((m : Nat) : Int) / 64 = (c : Int) := by omega
        have hcb : c ≤ 1024 := by omega
        have hn1 : (m : Int) ≤ 65536 := by omega
        have f1 : decide (11 < h) = false := by simp; omega
        have f2 : decide (65536 < (m : Int)) = false := by simp; omega
        have HP := hidden (fun W => rshape_any h (m : Int) W (by omega) (by omega) (by omega) (by omega))
        rw [hp] at HP
        have HNEW := hidden (fun W => rnew_any (m : Int) W (by omega) (by omega))
        rw [newN_nat (show m ≤ 1048576 by omega), pack_up hc.symm l q'] at HNEW
        have HSH := hidden (fun (x : l.length < q' + 8 * c) => hR.symm.trans (decF15_e4 h1 h2 hp (by rw [hc2]; omega)))
        have HFI := hidden (fun (x : q' + 8 * c ≤ l.length) => hR.symm.trans (decF15_ok h1 h2 hp (by rw [hc2]; omega)))
        rw [hc2] at HFI
        simp only [Int.toNat_natCast] at HFI
        have HQB := hidden (show q' ≤ l.length by omega)
        have HUL := hidden (upW_length l q' c)
        have hcN := HUL.out 0
        have HCB := hidden hcb
        have hwh : wrap64 h = h := wrap64_small hh0 (by omega)
        have hwn : wrap64 (m : Int) = (m : Int) := wrap64_small (by omega) hn1
        clear hR b1 b2 b3 b4 n1 n2 n3 n4 c1 c2 c3 k1 k2 k3 h1 h2 hp hc hc2 hc3 hm2
        go_enter Try.func21, Try.ntmps21
        go_wp2_with fail
        rw [← hW1]
        clear hW1
        refine (HD1.out _ HG1.out).mono ?_
        rintro e w5 ⟨rfl, rfl⟩
        go_wp2_with fail
        refine (HD2.out _ HG1.out).mono ?_
        rintro e w5 ⟨rfl, rfl⟩
        go_wp2_with fail
        refine (HP.out _).mono ?_
        rintro e w5 ⟨rfl, rfl⟩
        go_wp2_with fail
        refine (HNEW.out _).mono ?_
        rintro e w6 ⟨g, hg6, rfl, hrow6, g6⟩
        simp only [hcN]
        clear hcN
        have HS1 := hidden (show w.heap.size < w5.heap.size from HZ1.out.lt)
        have HNG := hidden (show w.heap.size ≠ g by have := HS1.out; omega)
        have HGL := hidden hrow6.lt
        have HGA := hidden (show Grows w (w6.alloc (.cells #[.int .i64 h, .int .i64 (m : Int), .slice (some ⟨g, 0, none⟩) c c] 32)) from (HG1.out.of_below g6).of_below (growB _ _))
        have HZA := hidden ((HZ1.out.grow g6).grow (growB w6 (.cells #[.int .i64 h, .int .i64 (m : Int), .slice (some ⟨g, 0, none⟩) c c] 32)))
        have HRA := hidden (hrow6.grow (growB w6 (.cells #[.int .i64 h, .int .i64 (m : Int), .slice (some ⟨g, 0, none⟩) c c] 32)))
        have HFA := hidden (Row.new w6 32 #[.int .i64 h, .int .i64 (m : Int), .slice (some ⟨g, 0, none⟩) c c] _ rfl)
        have HSF := hidden (show w.heap.size < w6.heap.size by have := HS1.out; have := g6.size; omega)
        have HWG := hidden (show w.heap.size ≤ g by have := HS1.out; omega)
        clear g6 hrow6 hg6
        obtain ⟨d, hd⟩ : ∃ d, d = l.length - q' := ⟨_, rfl⟩
        have hdd : (l.length : Int) - (q' : Int) = (d : Int) := by have := HQB.out; omega
        have hdb : d ≤ 16777216 := by omega
        by_cases hsh : l.length < q' + 8 * c
        · have f3 : decide ((d : Int) < 8 * (c : Int)) = true := by simp; have := HQB.out; omega
          have f4 : decide (d < 8 * c) = true := by simp; have := HQB.out; omega
          have HRE := hidden (HSH.out hsh)
          clear hsh hd
          go_wp2_with ((with_reducible refine at_sf rfl _ _ rfl ?_); refine wpList_store_bf rfl _ _ rfl _ rfl w.heap.size rfl 0 0 _ _ _ rfl _ _ _ HZA.out ?_; intro W8 hr hg hrow; have HRW := hidden hr; have HG8 := hidden (hg _ HGA.out (Nat.le_refl _)); clear hr hg hrow)
          exact bodyPost_ret (results_bf3 rfl _ _ _ _ _ _ _ _ rfl HRW.out rfl rfl) rfl (by rw [HRE.out]; exact DecR15.err HG8.out)
        · have f3 : decide ((d : Int) < 8 * (c : Int)) = false := by simp; have := HQB.out; omega
          have f4 : decide (d < 8 * c) = false := by simp; have := HQB.out; omega
          have HLE := hidden (show q' + 8 * c ≤ l.length by omega)
          have HRE := hidden (HFI.out HLE.out)
          clear hsh hd
          go_wp2_with fail
          go_loopw [12] (fun i wr => RdRel w l q' c w6.heap.size g h m i wr) (fun i _ => c - (intOf i).toNat)
          case atStart => exact ⟨0, Nat.zero_le _, rfl, HRA.out, HFA.out, HZA.out, HGA.out⟩
          case round =>
            obtain ⟨j, hj, rfl, hr, hf, hz, hg⟩ := hrel
            have HR := hidden hr
            have HF := hidden hf
            have HZ := hidden hz
            have HG := hidden hg
            clear hr hf hz hg
            have x0 := HF.out.cell 0
            have x1 := HF.out.cell 1
            have x2 := HF.out.cell 2
            simp only [List.getElem?_cons_succ, List.getElem?_cons_zero] at x0 x1 x2
            by_cases hlt : j < c
            · have HRF := hidden (fun W (hW : Grows w W) => rreadFixed_any (.slice A l.length cp) l ((q' + 8 * j : Nat) : Int) 8 W (HV.out.grow hW) HML.out (by omega) (by have := HLE.out; omega))
              have HW := hidden (rdf_word (l := l) (o := q') (i := j) (by have := HLE.out; omega))
              rw [HW.out] at HRF
              have HSET := hidden (upW_set (l := l) (o := q') hlt)
              have hcj := HR.out.cell j
              have hfj := HR.out.frozen j
              rw [ucells_get (by rw [HUL.out]; exact hlt)] at hcj
              have HQ := hidden (show ((q' : Int) + 8 * (j : Int)) = ((q' + 8 * j : Nat) : Int) by omega)
              have hqb : (q' : Int) + 8 * (j : Int) ≤ 16777216 := by have := HLE.out; omega
              rw [← HQ.out] at HRF
              have hcb2 := HCB.out
              obtain ⟨x, hx⟩ : ∃ x, x = wordB l q' j := ⟨_, rfl⟩
              rw [← hx] at HRF HSET
              clear hx HW
              generalize (upW l q' c j)[j]'(by rw [HUL.out]; exact hlt) = y at *
              go_wp2_with fail
              refine (HRF.out _ HG.out).mono ?_
              rintro e w7 ⟨rfl, rfl⟩
              go_wp2_with fail
              go_roundw
              case rel =>
                refine ⟨j + 1, hlt, by go_num, ?_, HF.out.set_other (by show g ≠ _; have := HGL.out; omega) _, HZ.out.set_other (by show g ≠ _; exact HNG.out.symm) _, HG.out.setCell (by show _ ≤ g; exact HWG.out) _⟩
                have h := HR.out.set_ j (.int .u64 (x.toNat : Int))
                rw [ucells_set, HSET.out] at h
                exact h
              case measure => simp [intOf]; omega
            · have hjc : j = c := by omega
              subst hjc
              have HFU := hidden (upW_full l q' j)
              have HRL := hidden (readW_length l q' j)
              have hcb2 := HCB.out
              have hqb : (q' : Int) + 8 * (j : Int) ≤ 16777216 := by have := HLE.out; omega
              go_wp2_with fail
              letI : SteQ := keepSte w.heap.size [.int .i64 h, .int .i64 (m : Int), .slice (some ⟨g, 0, none⟩) j j]
              clear x0 x1 x2
              have HE1 := hidden (show IntKind.i64.wrap (8 * (j : Int)) = 8 * (j : Int) by rw [IntKind.wrap_i64]; omega)
              have HE2 := hidden (show IntKind.i64.wrap ((q' : Int) + 8 * (j : Int)) = (q' : Int) + 8 * (j : Int) by rw [IntKind.wrap_i64]; omega)
              have HNF := hidden (show w6.heap.size ≠ w.heap.size by have := HSF.out; omega)
              refine wp_region_looseX (tabX [(8, fun s _ w' => s = .pointer (some ⟨w.heap.size, 0, none⟩) → Row w' w.heap.size 32 [.int .i64 h, .int .i64 (m : Int), .slice (some ⟨g, 0, none⟩) j j])]) (by kernel_rfl) (by kernel_rfl)
                (tabX_cons (fun s v w w' h ht hb => ht.new (h hb)) tabX_nil) ?_
              iterate 8 ((with_reducible refine loose_oneX (v := ?_) (a' := ?_) ?_ ?_ (fun w' hC' hG' => ?_) ?_ ?_); rotate_left 2; (focus rfl); (focus rfl); (focus (have hT := (show KeepZ _ _ wr w' from hC'); have p0 := (hT.row _ _ _ HNF.out HF.out).cell 0; have p1 := (hT.row _ _ _ HNF.out HF.out).cell 1; have p2 := (hT.row _ _ _ HNF.out HF.out).cell 2; simp only [List.getElem?_cons_succ, List.getElem?_cons_zero] at p0 p1 p2; clear hC' hG' hT; go_simp; rfl)); (focus (go_simp; rfl)))
              refine loose_storeX (R := fun s _ w' => s = .pointer (some ⟨w.heap.size, 0, none⟩) → Row w' w.heap.size 32 [.int .i64 h, .int .i64 (m : Int), .slice (some ⟨g, 0, none⟩) j j]) (by rfl) (by rfl) (fun w' hC' hG' => ?_) ?_
              · have hT := (show KeepZ _ _ wr w' from hC')
                obtain ⟨z1, z2, z3, hz⟩ := hT.old ⟨_, _, _, HZ.out⟩
                exact ⟨_, store_run_bf _ _ rfl w.heap.size h m _ _ _ (by rfl) (by rfl) hz, KeepZ.store hz, fun _ => Row.setRow_ hz [.int .i64 h, .int .i64 (m : Int), .slice (some ⟨g, 0, none⟩) j j] rfl⟩
              intro v8 _
              refine ⟨?_, ?_, ?_⟩
              rotate_left
              · go_simp
                rfl
              iterate 2 ((with_reducible refine loose_oneX (v := ?_) (a' := ?_) ?_ ?_ (fun w' hC' hG' => ?_) ?_ ?_); rotate_left 2; (focus rfl); (focus rfl); (focus (clear hC' hG'; go_simp; rfl)); (focus (go_simp; rfl)))
              refine loose_doneX (fun w7 hC' hG' => ?_)
              have hT := (show KeepZ _ _ wr w7 from hC')
              have HRW := hidden ((hG' 8).2 rfl rfl)
              have HG8 := hidden (hT.grows _ HG.out (Nat.le_refl _))
              have HR8 := hidden (hT.row _ _ _ HNG.out.symm HR.out)
              clear hC' hG' hT
              go_wp2_with fail
              refine bodyPost_ret (results_bf3 rfl _ _ _ _ _ _ _ _ rfl HRW.out rfl rfl) rfl ?_
              rw [HRE.out]
              rw [HE1.out, HE2.out]
              refine ⟨_, rfl, ⟨_, rfl, ?_, ?_⟩, HG8.out⟩
              · have h := HR8.out
                rw [HFU.out] at h
                have h := h.reads (Nat.le_of_eq HRL.out)
                rwa [HRL.out] at h
              · show (readW l q' j).length ≤ _
                rw [HRL.out]
                omega
    · have HRE := hidden (show R = (0, 0, [], 0, e2) from hR.symm.trans (decF15_e2 h1 h2 he2))
      have d2 : (e2 != 0) = true := by simpa using he2
      clear hR b1 b2 b3 b4 n1 n2 n3 n4 c1 c2 c3 h1 h2 he2
      go_enter Try.func21, Try.ntmps21
      go_wp2_with fail
      rw [← hW1]
      clear hW1
      refine (HD1.out _ HG1.out).mono ?_
      rintro e w5 ⟨rfl, rfl⟩
      go_wp2_with fail
      refine (HD2.out _ HG1.out).mono ?_
      rintro e w5 ⟨rfl, rfl⟩
      go_wp2_with ((with_reducible refine at_sf rfl _ _ rfl ?_); refine wpList_store_bf rfl _ _ rfl _ rfl w.heap.size rfl 0 0 _ _ _ rfl _ _ _ HZ1.out ?_; intro W8 hr hg hrow; have HRW := hidden hr; have HG8 := hidden (hg _ HG1.out (Nat.le_refl _)); clear hr hg hrow)
      exact bodyPost_ret (results_bf3 rfl _ _ _ _ _ _ _ _ rfl HRW.out rfl rfl) rfl (by rw [HRE.out]; exact DecR15.err HG8.out)
  · have HRE := hidden (show R = (0, 0, [], 0, e1) from hR.symm.trans (decF15_e1 h1 he1))
    have d1 : (e1 != 0) = true := by simpa using he1
    clear hR b1 b2 b3 b4 h1 he1
    go_enter Try.func21, Try.ntmps21
    go_wp2_with fail
    rw [← hW1]
    clear hW1
    refine (HD1.out _ HG1.out).mono ?_
    rintro e w5 ⟨rfl, rfl⟩
    go_wp2_with ((with_reducible refine at_sf rfl _ _ rfl ?_); refine wpList_store_bf rfl _ _ rfl _ rfl w.heap.size rfl 0 0 _ _ _ rfl _ _ _ HZ1.out ?_; intro W8 hr hg hrow; have HRW := hidden hr; have HG8 := hidden (hg _ HG1.out (Nat.le_refl _)); clear hr hg hrow)
    exact bodyPost_ret (results_bf3 rfl _ _ _ _ _ _ _ _ rfl HRW.out rfl rfl) rfl (by rw [HRE.out]; exact DecR15.err HG8.out)
end Go.Proofs.Ytgegjoggiadgbaa
/-
  Shaken: what the claims of this seat need of this text. No condition.
-/
namespace Go.Proofs.Ytgegjoggiadgbaa
set_option maxRecDepth 8000
open Go.RowKit
set_option linter.unusedVariables false
set_option linter.unusedSimpArgs false
theorem own_grow15 {w w' : World} {b : Nat} {e : TypeId} {sz : Nat} {v : Value} {n : Nat} {xs : List Value} (h : w.ownsRow b e sz v n xs) (hb : Grows w w') : w'.ownsRow b e sz v n xs := by
  refine ⟨h.1, ?_⟩
  rcases h.2 with h2 | ⟨g, cap, cur, h1, h2, h3, h4⟩
  · exact .inl h2
  · exact .inr ⟨g, cap, cur, h1, h2, (hb.block g (Array.getElem?_eq_some_iff.1 h3).1).trans h3, h4⟩
theorem own_base15 {w : World} {b b' : Nat} {e : TypeId} {sz : Nat} {v : Value} {n : Nat} {xs : List Value} (h : w.ownsRow b e sz v n xs) (hb : b' ≤ b) : w.ownsRow b' e sz v n xs := by
  refine ⟨h.1, ?_⟩
  rcases h.2 with h2 | ⟨g, cap, cur, h1, h2, h3⟩
  · exact .inl h2
  · exact .inr ⟨g, cap, cur, h1, Nat.le_trans hb h2, h3⟩
def BytV (l : List UInt8) : Value → World → Prop := fun v w => IsBytes w v l
theorem BytV.lasts {l : List UInt8} : ∀ v w w', BytV l v w → Grows w w' → BytV l v w' := fun _ _ _ h hg => h.grow hg
def PrtV (ls : List (List UInt8)) : Value → World → Prop := fun v w => IsParts w v ls
theorem PrtV.lasts {ls : List (List UInt8)} : ∀ v w w', PrtV ls v w → Grows w w' → PrtV ls v w' := fun _ _ _ h hg => IsParts.grow h hg
def OwnB (n0 : Nat) (l : List UInt8) : Value → World → Prop := fun v w => w.ownsRow n0 5 1 v l.length (bcells l)
theorem OwnB.lasts {n0 : Nat} {l : List UInt8} : ∀ v w w', OwnB n0 l v w → Grows w w' → OwnB n0 l v w' := fun _ _ _ h hg => own_grow15 h hg
theorem made_byt {f : FuncId} {args : Array Value} {w : World} {l : List UInt8} (h : Calls Try.prog f args w (Made l w)) : Calls Try.prog f args w fun e w' => ∃ v, e = .returned v ∧ Grows w w' ∧ BytV l v w' :=
  h.mono fun _ _ ⟨v, he, hown, hb⟩ => ⟨v, he, hb, IsBytes.of_own hown⟩
theorem made_own {f : FuncId} {args : Array Value} {w : World} {l : List UInt8} {n0 : Nat} (hn : n0 ≤ w.heap.size) (h : Calls Try.prog f args w (Made l w)) : Calls Try.prog f args w fun e w' => ∃ v, e = .returned v ∧ Grows w w' ∧ OwnB n0 l v w' :=
  h.mono fun _ _ ⟨v, he, hown, hb⟩ => ⟨v, he, hb, own_base15 hown hn⟩
def Out15 (l : List UInt8) (w : World) (e : Ending) (w' : World) : Prop := ∃ v, e = .returned v ∧ w'.ownsRow w.heap.size 5 1 v l.length (bcells l) ∧ Grows w w'
theorem enc_le10 {n : Nat} (hn : n < 18446744073709551616) : (enc n).length ≤ 10 := by
  rw [enc_length hn]
  exact (esz_bd hn).2
def EncRel15 (W1 : World) (P : List UInt8) (ws : List UInt64) (b i : Value) (wr : World) : Prop :=
  ∃ j : Nat, j ≤ ws.length ∧ i = .int .i64 (j : Int) ∧ wr.ownsRow W1.heap.size 5 1 b (P ++ encW (ws.take j)).length (bcells (P ++ encW (ws.take j))) ∧ Grows W1 wr
set_option maxHeartbeats 2000000 in
theorem bencode_any (v : Value) (h n : Nat) (ws : List UInt64) (w : World) (hx : IsF w v h n ws) (hh : h ≤ 11) (hn : n ≤ 65536) (hl : ws.length ≤ 100000) :
    Calls Try.prog 22 #[v] w (Out15 (encF15 h n ws) w) := by
  obtain ⟨u, rfl, hr, _⟩ := hx
  have HR := hidden hr
  obtain ⟨A, c, rfl, _⟩ := hr.slice_
  simp only [ucells_length] at HR ⊢
  obtain ⟨W1, hW1⟩ : ∃ W1, W1 = w.alloc (.cells #[.int .i64 (h : Int), .int .i64 (n : Int), .slice A ws.length c] 32) := ⟨_, rfl⟩
  have HG1 := hidden (show Grows w W1 by rw [hW1]; exact growB _ _)
  have HS1 := hidden (show w.heap.size ≤ W1.heap.size from HG1.out.size)
  have HX := hidden (show Row W1 w.heap.size 32 [.int .i64 (h : Int), .int .i64 (n : Int), .slice A ws.length c] by rw [hW1]; exact Row.new w 32 #[.int .i64 (h : Int), .int .i64 (n : Int), .slice A ws.length c] _ rfl)
  have HE1 := hidden (fun W => made_byt (encode_any (h : Int) W (by omega) (by omega)))
  have HE2 := hidden (fun W => made_byt (encode_any (n : Int) W (by omega) (by omega)))
  simp only [Int.toNat_natCast] at HE1 HE2
  have l1 := enc_le10 (n := h) (by omega)
  have l2 := enc_le10 (n := n) (by omega)
  have HF := hidden (show encF15 h n ws = [enc h, enc n].flatten ++ encW ws by simp [encF15])
  obtain ⟨E1, hE1⟩ : ∃ E, E = enc h := ⟨_, rfl⟩
  obtain ⟨E2, hE2⟩ : ∃ E, E = enc n := ⟨_, rfl⟩
  rw [← hE1] at HE1 HF l1
  rw [← hE2] at HE2 HF l2
  have hfl : ([E1, E2].flatten).length ≤ 20 := by simp only [List.flatten_cons, List.flatten_nil, List.length_append, List.length_nil]; omega
  have HCC := hidden (fun W u (hu : IsParts W u [E1, E2]) (hg : Grows W1 W) => made_own (n0 := W1.heap.size) hg.size (concat_any u [E1, E2] W hu (by unfold maxLen; simp) (by unfold total; omega)))
  have HFL := hidden hfl
  have hu1 : IntKind.u64.wrap (h : Int) = (h : Int) := by rw [IntKind.wrap_u64]; omega
  have hu2 : IntKind.u64.wrap (n : Int) = (n : Int) := by rw [IntKind.wrap_u64]; omega
  clear hE1 hE2 l1 l2 hfl hr
  go_enter Try.func22, Try.ntmps22
  go_wp2_with fail
  rw [← hW1]
  clear hW1
  refine wp_region_loose (tabRs [(3, BytV E1), (8, BytV E2), (9, PrtV [E1, E2]), (10, OwnB W1.heap.size [E1, E2].flatten)]) (by kernel_rfl) (by kernel_rfl) (tabRs_cons BytV.lasts (tabRs_cons BytV.lasts (tabRs_cons PrtV.lasts (tabRs_cons OwnB.lasts tabRs_nil)))) ?_
  iterate 3 ((with_reducible refine loose_one (v := ?_) (a' := ?_) ?_ ?_ (fun w' hC' hG' => ?_) ?_ ?_); rotate_left 2; (focus rfl); (focus rfl); (focus (have x0 := (HX.out.grow hC').cell 0; have x1 := (HX.out.grow hC').cell 1; simp only [List.getElem?_cons_succ, List.getElem?_cons_zero] at x0 x1; clear hC' hG'; go_simp; rfl)); (focus (go_simp; rfl)))
  refine loose_call (R := BytV E1) (f := 45) (args := #[.int .u64 (h : Int)]) (by rfl) (by rfl) (fun _ => by go_simp) (fun w' hC' hG' => HE1.out w') ?_
  rintro v3 ⟨_, _, hu3⟩
  obtain ⟨A3, c3, rfl, _⟩ := hu3
  refine ⟨?_, ?_, ?_⟩
  rotate_left
  · go_simp
    rfl
  iterate 4 ((with_reducible refine loose_one (v := ?_) (a' := ?_) ?_ ?_ (fun w' hC' hG' => ?_) ?_ ?_); rotate_left 2; (focus rfl); (focus rfl); (focus (have x0 := (HX.out.grow hC').cell 0; have x1 := (HX.out.grow hC').cell 1; simp only [List.getElem?_cons_succ, List.getElem?_cons_zero] at x0 x1; clear hC' hG'; go_simp; rfl)); (focus (go_simp; rfl)))
  refine loose_call (R := BytV E2) (f := 45) (args := #[.int .u64 (n : Int)]) (by rfl) (by rfl) (fun _ => by go_simp) (fun w' hC' hG' => HE2.out w') ?_
  rintro v8 ⟨_, _, hu8⟩
  obtain ⟨A8, c8, rfl, _⟩ := hu8
  refine ⟨?_, ?_, ?_⟩
  rotate_left
  · go_simp
    rfl
  refine loose_new (R := PrtV [E1, E2]) (by rfl) (by rfl) (fun w' hC' hG' => ?_) ?_
  · have h3 : IsBytes w' (.slice A3 E1.length c3) E1 := (hG' 3 (by kernel_rfl)).1.2 rfl
    have h8 : IsBytes w' (.slice A8 E2.length c8) E2 := (hG' 8 (by kernel_rfl)).2 rfl
    exact ⟨.slice (some ⟨w'.heap.size, 0, none⟩) 2 2, w'.alloc (.cells #[.slice A3 E1.length c3, .slice A8 E2.length c8] 43), by first | rfl | go_simp, growB _ _, IsParts.new2 h3 h8 43⟩
  rintro v9 ⟨_, _, hu9⟩
  refine ⟨?_, ?_, ?_⟩
  rotate_left
  · go_simp
    rfl
  refine loose_call (R := OwnB W1.heap.size [E1, E2].flatten) (f := 44) (args := #[v9]) (by rfl) (by rfl) (fun _ => by go_simp) (fun w' hC' hG' => HCC.out w' v9 ((hG' 9 (by kernel_rfl)).2 rfl) hC') ?_
  intro v10 _
  refine ⟨?_, ?_, ?_⟩
  rotate_left
  · go_simp
    rfl
  iterate 1 ((with_reducible refine loose_one (v := ?_) (a' := ?_) ?_ ?_ (fun w' hC' hG' => ?_) ?_ ?_); rotate_left 2; (focus rfl); (focus rfl); (focus (clear hC' hG'; go_simp; rfl)); (focus (go_simp; rfl)))
  refine loose_done (fun w5 hC' hG' => ?_)
  have HO5 := hidden (show OwnB W1.heap.size [E1, E2].flatten v10 w5 from (hG' 10).2 rfl)
  have HG5 := hidden hC'
  clear hG' hC'
  generalize [E1, E2].flatten = P at *
  have x0 := (HX.out.grow HG5.out).cell 2
  simp only [List.getElem?_cons_succ, List.getElem?_cons_zero] at x0
  go_wp2_with fail
  clear x0
  go_loopw [3, 21] (fun b i wr => EncRel15 W1 P ws b i wr) (fun _ i _ => ws.length - (intOf i).toNat)
  case atStart => exact ⟨0, Nat.zero_le _, rfl, by rw [List.take_zero, encW_nil, List.append_nil]; exact HO5.out, HG5.out⟩
  case round =>
    obtain ⟨j, hj, rfl, hown, hg⟩ := hrel
    have HO := hidden hown
    have HG := hidden hg
    clear hown hg
    by_cases hlt : j < ws.length
    · obtain ⟨A', c', he, _, hcell⟩ := HR.out.grow (HG1.out.of_below HG.out)
      rw [ucells_length] at he
      injection he with e1 e2 e3
      subst e1 e3
      obtain ⟨b, off, rfl, hcell2⟩ := hcell (by rw [ucells_length]; omega)
      have hcj := hcell2 j (by rw [ucells_length]; exact hlt)
      rw [ucells_get hlt] at hcj
      have HTK := hidden (encW_take (List.getElem?_eq_getElem hlt))
      have HLN := hidden (show (P ++ encW (ws.take j)).length + 8 ≤ 140737488355328 by rw [List.length_append, encW_length, List.length_take]; have := HFL.out; omega)
      clear hcell hcell2 e2
      have hxb := ws[j].toNat_lt
      have HFX := hidden (fun W => fixed_any (ws[j].toNat : Int) 8 W (by omega) (by omega))
      rw [Int.toNat_natCast, show fixs ws[j].toNat 8 = fixb ws[j].toNat 8 from fixs_ok (s := 8) (by omega) (by omega)] at HFX
      have HFB := hidden (fixb_length ws[j].toNat 8)
      obtain ⟨Fb, hFb⟩ : ∃ F, F = fixb ws[j].toNat 8 := ⟨_, rfl⟩
      rw [← hFb] at HFX HTK HFB
      clear hFb
      generalize ws[j].toNat = x at *
      obtain ⟨D, hD⟩ : ∃ D, D = P ++ encW (ws.take j) := ⟨_, rfl⟩
      have HD := hidden hD
      rw [← hD] at HO HLN
      clear hD
      go_wp2_with fail
      refine (HFX.out wr).mono ?_
      rintro e w3 ⟨v3, rfl, hown3, hg3⟩
      have HV3 := hidden (IsBytes.of_own hown3)
      have HO3 := hidden (own_grow15 HO.out hg3)
      have HG3 := hidden (HG.out.of_below hg3)
      have HPL := hidden (show D.length + Fb.length ≤ 140737488355328 by rw [HFB.out]; exact HLN.out)
      clear hown3 hg3
      go_wp2_with ((at_builtin; go_loud (refine wpList_append_bytes (w := W1) (wr := w3) rfl _ _ 43 rfl 5 Try.underlying43 info_u8 _ D (by rfl) HO3.out HG3.out _ Fb (by rfl) HV3.out HPL.out ?_); intro v4 w4 hown4 hb4; have HO4 := hidden hown4; have HB4 := hidden hb4; clear hown4 hb4))
      go_wp2_with fail
      go_roundw
      case rel =>
        refine ⟨j + 1, hlt, by go_num, ?_, HB4.out⟩
        have h := HO4.out
        rw [HD.out, List.append_assoc, ← HTK.out] at h
        exact h
      case measure => simp [intOf]; omega
    · have hje : j = ws.length := by omega
      have HTL := hidden (show ws.take j = ws by rw [hje, List.take_length])
      have hnj : ws.length ≤ j := by omega
      clear hje
      go_wp2_with fail
      go_ret
      refine ⟨_, rfl, ?_, HG1.out.of_below HG.out⟩
      have h := HO.out
      rw [HTL.out] at h
      rw [HF.out]
      exact own_base15 h HS1.out
end Go.Proofs.Ytgegjoggiadgbaa
/-
  Shaken: what the claims of this seat need of this text. No condition.
-/
namespace Go.Proofs.Ytgegjoggiadgbaa
set_option maxRecDepth 8000
open Go.RowKit
set_option linter.unusedVariables false
set_option linter.unusedSimpArgs false
set_option maxHeartbeats 2000000 in
theorem rbencode_any (v : Value) (h n : Nat) (ws : List UInt64) (w : World) (hx : IsF w v h n ws) (hh : h ≤ 11) (hn : n ≤ 65536) (hl : ws.length ≤ 100000) :
    Calls Try.prog 23 #[v] w (Out15 (encF15 h n ws) w) := by
  obtain ⟨u, rfl, hr, _⟩ := hx
  have HR := hidden hr
  obtain ⟨A, c, rfl, _⟩ := hr.slice_
  simp only [ucells_length] at HR ⊢
  obtain ⟨W1, hW1⟩ : ∃ W1, W1 = w.alloc (.cells #[.int .i64 (h : Int), .int .i64 (n : Int), .slice A ws.length c] 32) := ⟨_, rfl⟩
  have HG1 := hidden (show Grows w W1 by rw [hW1]; exact growB _ _)
  have HS1 := hidden (show w.heap.size ≤ W1.heap.size from HG1.out.size)
  have HX := hidden (show Row W1 w.heap.size 32 [.int .i64 (h : Int), .int .i64 (n : Int), .slice A ws.length c] by rw [hW1]; exact Row.new w 32 #[.int .i64 (h : Int), .int .i64 (n : Int), .slice A ws.length c] _ rfl)
  have HE1 := hidden (fun W (hg : Grows W1 W) => made_own (n0 := W1.heap.size) hg.size (rencode_any (h : Int) W (by omega) (by omega)))
  have HE2 := hidden (fun W => made_byt (rencode_any (n : Int) W (by omega) (by omega)))
  simp only [Int.toNat_natCast] at HE1 HE2
  have l1 := enc_le10 (n := h) (by omega)
  have l2 := enc_le10 (n := n) (by omega)
  have HF := hidden (show encF15 h n ws = (enc h ++ enc n) ++ encW ws from rfl)
  obtain ⟨E1, hE1⟩ : ∃ E, E = enc h := ⟨_, rfl⟩
  obtain ⟨E2, hE2⟩ : ∃ E, E = enc n := ⟨_, rfl⟩
  rw [← hE1] at HE1 HF l1
  rw [← hE2] at HE2 HF l2
  have hfl : (E1 ++ E2).length ≤ 20 := by rw [List.length_append]; omega
  have HFL := hidden hfl
  have HLA := hidden (show E1.length + E2.length ≤ 140737488355328 by omega)
  have hu1 : IntKind.u64.wrap (h : Int) = (h : Int) := by rw [IntKind.wrap_u64]; omega
  have hu2 : IntKind.u64.wrap (n : Int) = (n : Int) := by rw [IntKind.wrap_u64]; omega
  clear hE1 hE2 l1 l2 hfl hr
  go_enter Try.func23, Try.ntmps23
  go_wp2_with fail
  rw [← hW1]
  clear hW1
  refine wp_region_loose_tail 9 (tabRs [(3, OwnB W1.heap.size E1), (8, BytV E2)]) (by kernel_rfl) (by kernel_rfl) (tabRs_cons OwnB.lasts (tabRs_cons BytV.lasts tabRs_nil)) ?_
  simp only [List.take_succ_cons, List.take_zero, List.drop_succ_cons, List.drop_zero]
  iterate 3 ((with_reducible refine loose_one (v := ?_) (a' := ?_) ?_ ?_ (fun w' hC' hG' => ?_) ?_ ?_); rotate_left 2; (focus rfl); (focus rfl); (focus (have x0 := (HX.out.grow hC').cell 0; have x1 := (HX.out.grow hC').cell 1; simp only [List.getElem?_cons_succ, List.getElem?_cons_zero] at x0 x1; clear hC' hG'; go_simp; rfl)); (focus (go_simp; rfl)))
  refine loose_call (R := OwnB W1.heap.size E1) (f := 47) (args := #[.int .u64 (h : Int)]) (by rfl) (by rfl) (fun _ => by go_simp) (fun w' hC' hG' => HE1.out w' hC') ?_
  rintro v3 ⟨_, _, hu3⟩
  refine ⟨?_, ?_, ?_⟩
  rotate_left
  · go_simp
    rfl
  iterate 4 ((with_reducible refine loose_one (v := ?_) (a' := ?_) ?_ ?_ (fun w' hC' hG' => ?_) ?_ ?_); rotate_left 2; (focus rfl); (focus rfl); (focus (have x0 := (HX.out.grow hC').cell 0; have x1 := (HX.out.grow hC').cell 1; simp only [List.getElem?_cons_succ, List.getElem?_cons_zero] at x0 x1; clear hC' hG'; go_simp; rfl)); (focus (go_simp; rfl)))
  refine loose_call (R := BytV E2) (f := 47) (args := #[.int .u64 (n : Int)]) (by rfl) (by rfl) (fun _ => by go_simp) (fun w' hC' hG' => HE2.out w') ?_
  rintro v8 ⟨_, _, hu8⟩
  obtain ⟨A8, c8, rfl, _⟩ := hu8
  refine ⟨?_, ?_, ?_⟩
  rotate_left
  · go_simp
    rfl
  refine loose_done (fun w4 hC' hG' => ?_)
  have HO4 := hidden (show w4.ownsRow W1.heap.size 5 1 v3 E1.length (bcells E1) from (hG' 3).1.2 rfl)
  have HV4 := hidden (show IsBytes w4 (.slice A8 E2.length c8) E2 from (hG' 8).2 rfl)
  have HG4 := hidden hC'
  clear hG' hC' hu3
  go_wp2_with ((at_builtin; go_loud (refine wpList_append_bytes (w := W1) (wr := w4) rfl _ _ 43 rfl 5 Try.underlying43 info_u8 _ E1 (by rfl) HO4.out HG4.out _ E2 (by rfl) HV4.out HLA.out ?_); intro v10 w5 hown5 hb5; have HO5 := hidden hown5; have HG5 := hidden hb5; clear hown5 hb5))
  generalize E1 ++ E2 = P at *
  go_loopw [3, 4] (fun b i wr => EncRel15 W1 P ws b i wr) (fun _ i _ => ws.length - (intOf i).toNat)
  case atStart => exact ⟨0, Nat.zero_le _, rfl, by rw [List.take_zero, encW_nil, List.append_nil]; exact HO5.out, HG5.out⟩
  case round =>
    obtain ⟨j, hj, rfl, hown, hg⟩ := hrel
    have HO := hidden hown
    have HG := hidden hg
    clear hown hg
    have x2 := (HX.out.grow HG.out).cell 2
    simp only [List.getElem?_cons_succ, List.getElem?_cons_zero] at x2
    by_cases hlt : j < ws.length
    · obtain ⟨A', c', he, _, hcell⟩ := HR.out.grow (HG1.out.of_below HG.out)
      rw [ucells_length] at he
      injection he with e1 e2 e3
      subst e1 e3
      obtain ⟨b, off, rfl, hcell2⟩ := hcell (by rw [ucells_length]; omega)
      have hcj := hcell2 j (by rw [ucells_length]; exact hlt)
      rw [ucells_get hlt] at hcj
      have HTK := hidden (encW_take (List.getElem?_eq_getElem hlt))
      have HLN := hidden (show (P ++ encW (ws.take j)).length + 8 ≤ 140737488355328 by rw [List.length_append, encW_length, List.length_take]; have := HFL.out; omega)
      clear hcell hcell2 e2
      have hxb := ws[j].toNat_lt
      have HFX := hidden (fun W => rfixed_any (ws[j].toNat : Int) 8 W (by omega) (by omega))
      rw [Int.toNat_natCast, show fixs ws[j].toNat 8 = fixb ws[j].toNat 8 from fixs_ok (s := 8) (by omega) (by omega)] at HFX
      have HFB := hidden (fixb_length ws[j].toNat 8)
      obtain ⟨Fb, hFb⟩ : ∃ F, F = fixb ws[j].toNat 8 := ⟨_, rfl⟩
      rw [← hFb] at HFX HTK HFB
      clear hFb
      generalize ws[j].toNat = x at *
      obtain ⟨D, hD⟩ : ∃ D, D = P ++ encW (ws.take j) := ⟨_, rfl⟩
      have HD := hidden hD
      rw [← hD] at HO HLN
      clear hD
      go_wp2_with fail
      clear x2
      refine (HFX.out wr).mono ?_
      rintro e w3 ⟨v3, rfl, hown3, hg3⟩
      have HV3 := hidden (IsBytes.of_own hown3)
      have HO3 := hidden (own_grow15 HO.out hg3)
      have HG3 := hidden (HG.out.of_below hg3)
      have HPL := hidden (show D.length + Fb.length ≤ 140737488355328 by rw [HFB.out]; exact HLN.out)
      clear hown3 hg3
      go_wp2_with ((at_builtin; go_loud (refine wpList_append_bytes (w := W1) (wr := w3) rfl _ _ 43 rfl 5 Try.underlying43 info_u8 _ D (by rfl) HO3.out HG3.out _ Fb (by rfl) HV3.out HPL.out ?_); intro v4 w4 hown4 hb4; have HO4 := hidden hown4; have HB4 := hidden hb4; clear hown4 hb4))
      go_wp2_with fail
      go_roundw
      case rel =>
        refine ⟨j + 1, hlt, by go_num, ?_, HB4.out⟩
        have h := HO4.out
        rw [HD.out, List.append_assoc, ← HTK.out] at h
        exact h
      case measure => simp [intOf]; omega
    · have hje : j = ws.length := by omega
      have HTL := hidden (show ws.take j = ws by rw [hje, List.take_length])
      have hnj : ws.length ≤ j := by omega
      clear hje
      go_wp2_with fail
      go_ret
      refine ⟨_, rfl, ?_, HG1.out.of_below HG.out⟩
      have h := HO.out
      rw [HTL.out] at h
      rw [HF.out]
      exact own_base15 h HS1.out
end Go.Proofs.Ytgegjoggiadgbaa
/-
  Shaken: what the claims of this seat need of this text. No condition.
-/
namespace Go.Proofs.Ytgegjoggiadgbaa
set_option maxRecDepth 8000
open Go.RowKit
set_option linter.unusedVariables false
set_option linter.unusedSimpArgs false
def MyRel (W4 : World) (n : Nat) (ws : List UInt64) (P : List Nat) (i : Value) (wr : World) : Prop :=
  ∃ k : Nat, k ≤ P.length ∧ i = .int .i64 (k : Int) ∧ (P.take k).all (mem n ws) = true ∧ Grows W4 wr
theorem const_loose15 {f : FuncId} {args : Array Value} {w : World} {u : Value} (h : Calls Try.prog f args w fun e w' => e = .returned u ∧ Grows w w') : Calls Try.prog f args w fun e w' => ∃ v, e = .returned v ∧ Grows w w' ∧ ConstV u v w' :=
  h.mono fun _ _ ⟨he, hw⟩ => ⟨_, he, hw, rfl⟩
theorem ncells_get15 {P : List Nat} {k : Nat} (h : k < P.length) : (ncells P)[k]? = some (.int .i64 (P[k] : Int)) := by simp [ncells, h]
set_option maxHeartbeats 2000000 in
theorem rmay15_any (v : Value) (h n : Nat) (ws : List UInt64) (x : Val) (w : World) (hf : IsF w v h n ws) (hh : h ≤ 11) (hn0 : h = 0 ∨ 0 < n) (hn : n ≤ 65536) (hw : okW n ws) (hv : validV x.k x.n x.t = true) :
    Calls Try.prog 15 #[v, x.v] w fun e w' => e = .returned (.bool (mayB h n ws x)) ∧ Grows w w' := by
  obtain ⟨u, rfl, hr, hl⟩ := hf
  have HR := hidden hr
  obtain ⟨A, c, rfl, _⟩ := hr.slice_
  simp only [ucells_length] at HR ⊢
  have HG2 := hidden (show ∀ o o', Grows w ((w.alloc o).alloc o') from fun o o' => (growB _ _).of_below (growB _ _))
  by_cases h0 : h = 0
  · subst h0
    unfold Val.v
    go_enter Try.func15, Try.ntmps15
    go_wp2_with fail
    go_ret
    exact ⟨rfl, HG2.out _ _⟩
  · have hn0 : 0 < n := hn0.resolve_left h0
    have HPR := hidden (fun W (hg : Grows w W) => rprobes_any (.agg #[.int .i64 (h : Int), .int .i64 (n : Int), .slice A ws.length c]) h n ws x W ⟨_, rfl, HR.out.grow hg, hl⟩ hh hn0 hn hv)
    have HMB := hidden (show mayB h n ws x = (posV n h x).all (mem n ws) from rfl)
    have HPL := hidden (posV_length n h x)
    have HPB := hidden (show ∀ p ∈ posV n h x, p < n from fun p hp => probesN_lt hn0 hp)
    unfold Val.v at HPR
    unfold Val.v
    generalize posV n h x = P at *
    have HCO := hidden (fun W (hg : Grows w W) (p : Nat) (hp : p < n) => const_loose15 (rcontains_any (.agg #[.int .i64 (n : Int), .slice A ws.length c]) n ws (p : Int) W ⟨_, rfl, HR.out.grow hg, by have := hw.1; unfold nw at this; omega, by omega⟩ (by omega) (by omega)))
    obtain ⟨W2, hW2⟩ : ∃ W2, W2 = (w.alloc (.cells #[.int .i64 (h : Int), .int .i64 (n : Int), .slice A ws.length c] 32)).alloc (.cells #[.int .i64 x.k, .int .i64 x.n, .string x.t] 24) := ⟨_, rfl⟩
    have HGW := hidden (show Grows w W2 by rw [hW2]; exact (growB _ _).of_below (growB _ _))
    have HF := hidden (show Row W2 w.heap.size 32 [.int .i64 (h : Int), .int .i64 (n : Int), .slice A ws.length c] by rw [hW2]; exact (Row.new w 32 #[.int .i64 (h : Int), .int .i64 (n : Int), .slice A ws.length c] _ rfl).grow (growB _ _))
    have hd0 : ((h : Int) == 0) = false := by simpa using h0
    have HHB := hidden hh
    clear hr hl hw h0 hn0 hn hh
    go_enter Try.func15, Try.ntmps15
    go_wp2_with fail
    rw [← hW2]
    clear hW2
    refine (HPR.out W2 HGW.out).mono ?_
    rintro e w3 ⟨sv, rfl, hown, g3⟩
    have HRP := hidden (Reads.of_own hown)
    have HG3 := hidden (HGW.out.of_below g3)
    have HF3 := hidden (HF.out.grow g3)
    obtain ⟨A2, c2, rfl, _⟩ := HRP.out.slice_
    have HNL := hidden (show (ncells P).length = P.length by simp [ncells])
    simp only [HNL.out] at HRP ⊢
    clear hown g3 hd0
    go_wp2_with fail
    go_loopw [6] (fun i wr => MyRel w3 n ws P i wr) (fun i _ => P.length - (intOf i).toNat)
    case atStart => exact ⟨0, Nat.zero_le _, rfl, rfl, Below.refl _ _⟩
    case round =>
      obtain ⟨k, hk, rfl, hall, hg⟩ := hrel
      have HA := hidden hall
      have HG := hidden hg
      clear hall hg
      by_cases hlt : k < P.length
      · obtain ⟨A', c', he, _, hcell⟩ := HRP.out
        rw [HNL.out] at he
        injection he with e1 e2 e3
        subst e1 e3
        obtain ⟨b, off, rfl, hcell2⟩ := hcell (by rw [HNL.out]; omega)
        have hck := hcell2 k (by rw [HNL.out]; exact hlt)
        rw [ncells_get15 hlt] at hck
        have HPK := hidden (HPB.out _ (List.getElem_mem hlt))
        have HTK := hidden (show (P.take (k + 1)).all (mem n ws) = mem n ws P[k] by rw [List.take_succ_eq_append_getElem hlt, List.all_append, HA.out]; simp)
        have HMF := hidden (show mem n ws P[k] = false → P.all (mem n ws) = false from fun hm => List.all_eq_false.2 ⟨P[k], List.getElem_mem hlt, by rw [hm]; simp⟩)
        have HCK := hidden hck
        have hkb : k ≤ 11 := by have := HPL.out; have := HHB.out; omega
        have hd : decide (k < P.length) = true := by simpa using hlt
        have hi0 : (0 : Int) ≤ (k : Int) := by omega
        have hi1 : (k : Int) < (P.length : Int) := by omega
        clear hcell hcell2 e2 hck
        generalize P[k] = p at *
        have HCP := hidden (fun W (hg : Grows w W) => HCO.out W hg p HPK.out)
        rw [memI_nat] at HCP
        go_wp2_with fail
        refine wp_region_loose (tabRs [(6, ConstV (.bool (mem n ws p)))]) (by kernel_rfl) (by kernel_rfl) (tabRs_cons ConstV.lasts tabRs_nil) ?_
        iterate 6 ((with_reducible refine loose_one (v := ?_) (a' := ?_) ?_ ?_ (fun w' hC' hG' => ?_) ?_ ?_); rotate_left 2; (focus rfl); (focus rfl); (focus (have q0 := (HG.out.of_below hC').cell (World.block_lt_of_cell? _ _ HCK.out) |>.trans HCK.out; have p0 := ((HF3.out.grow HG.out).grow hC').cell 0; have p1 := ((HF3.out.grow HG.out).grow hC').cell 1; have p2 := ((HF3.out.grow HG.out).grow hC').cell 2; simp only [List.getElem?_cons_succ, List.getElem?_cons_zero] at p0 p1 p2; clear hC' hG'; go_simp; rfl)); (focus (go_simp; rfl)))
        refine loose_call (R := ConstV (.bool (mem n ws p))) (f := 33) (args := #[.agg #[.int .i64 (n : Int), .slice A ws.length c], .int .i64 (p : Int)]) (by rfl) (by rfl) (fun _ => by go_simp) (fun w' hC' hG' => HCP.out w' ((HG3.out.of_below HG.out).of_below hC')) ?_
        rintro _ ⟨_, _, rfl⟩
        refine ⟨?_, ?_, ?_⟩
        rotate_left
        · go_simp
          rfl
        iterate 1 ((with_reducible refine loose_one (v := ?_) (a' := ?_) ?_ ?_ (fun w' hC' hG' => ?_) ?_ ?_); rotate_left 2; (focus rfl); (focus rfl); (focus (clear hC' hG'; go_simp; rfl)); (focus (go_simp; rfl)))
        refine loose_done (fun w5 hC' hG' => ?_)
        have HG5 := hidden (HG.out.of_below hC')
        clear hC' hG'
        have HLT := hidden hlt
        cases hm : mem n ws p
        · have HFF := hidden (HMF.out hm)
          go_wp2_with fail
          go_ret
          exact ⟨by rw [HMB.out, HFF.out]; rfl, HG3.out.of_below HG5.out⟩
        · have HT1 := hidden (HTK.out.trans hm)
          go_wp2_with fail
          go_roundw
          case rel => exact ⟨k + 1, HLT.out, by go_num, HT1.out, HG5.out⟩
          case measure => have := HLT.out; simp [intOf]; omega
      · have hke : k = P.length := by omega
        have HT1 := hidden (show P.all (mem n ws) = true by have := HA.out; rwa [hke, List.take_length] at this)
        have hd : decide (k < P.length) = false := by simpa using hlt
        clear hke
        go_wp2_with fail
        go_ret
        exact ⟨by rw [HMB.out, HT1.out]; rfl, HG3.out.of_below HG.out⟩
end Go.Proofs.Ytgegjoggiadgbaa
/-
  Shaken: what the claims of this seat need of this text. No condition.
-/
namespace Go.Proofs.Ytgegjoggiadgbaa
open Go.RowKit
set_option linter.unusedVariables false
set_option linter.unusedSimpArgs false
def RbdRel (w : World) (F g H N : Nat) (l : List Val) (i : Value) (wr : World) : Prop :=
  ∃ k : Nat, k ≤ l.length ∧ i = .int .i64 (k : Int) ∧ Row wr F 32 [.int .i64 (H : Int), .int .i64 (N : Int), .slice (some ⟨g, 0, none⟩) (nw N) (nw N)] ∧ Row wr g 53 (ucells (pack N (inL (intsN (allP N H (l.take k)))))) ∧
    Row wr w.heap.size 32 [.int .i64 0, .int .i64 0, .slice none 0 0] ∧ Grows w wr
def RbdIn (w : World) (F g H N b c : Nat) (Q P : List Nat) (i : Value) (wr : World) : Prop :=
  ∃ k : Nat, k ≤ P.length ∧ i = .int .i64 (k : Int) ∧ Row wr F 32 [.int .i64 (H : Int), .int .i64 (N : Int), .slice (some ⟨g, 0, none⟩) (nw N) (nw N)] ∧ Row wr g 53 (ucells (pack N (inL (intsN (Q ++ P.take k))))) ∧
    Row wr w.heap.size 32 [.int .i64 0, .int .i64 0, .slice none 0 0] ∧ Grows w wr ∧ Reads wr (.slice (some ⟨b, 0, none⟩) P.length c) (ncells P)
def IntsV (n0 : Nat) (P : List Nat) : Value → World → Prop := fun v w => ∃ b c, v = .slice (some ⟨b, 0, none⟩) P.length c ∧ n0 ≤ b ∧ Reads w v (ncells P)
theorem IntsV.lasts {n0 : Nat} {P : List Nat} : ∀ v w w', IntsV n0 P v w → Grows w w' → IntsV n0 P v w' := fun _ _ _ ⟨b, c, h1, h2, h3⟩ hg => ⟨b, c, h1, h2, h3.grow hg⟩
theorem ints_loose {f : FuncId} {args : Array Value} {w : World} {P : List Nat} {n0 : Nat} (hn : n0 ≤ w.heap.size) (hP : 0 < P.length) (h : Calls Try.prog f args w (OwnInts P w)) : Calls Try.prog f args w fun e w' => ∃ v, e = .returned v ∧ Grows w w' ∧ IntsV n0 P v w' :=
  h.mono fun e w' ⟨v, he, ho, hg⟩ => by
    refine ⟨v, he, hg, ?_⟩
    have hrd := Reads.of_own ho
    rcases ho.2 with ⟨_, h0⟩ | ⟨b, cap, cur, rfl, hb, _⟩
    · omega
    · exact ⟨b, cap, rfl, Nat.le_trans hn hb, hrd⟩
theorem reads_setCell {w : World} {b n c : Nat} {xs : List Value} {a : Addr} (h : Reads w (.slice (some ⟨b, 0, none⟩) n c) xs) (hne : b ≠ a.block) (u : Value) : Reads (w.setCell a u) (.slice (some ⟨b, 0, none⟩) n c) xs := by
  obtain ⟨A, c', he, hle, hc⟩ := h
  refine ⟨A, c', he, hle, fun hl => ?_⟩
  obtain ⟨b', off, hA, hcell⟩ := hc hl
  refine ⟨b', off, hA, fun j hj => ?_⟩
  have e : b' = b := by
    injection he with h1
    rw [hA] at h1
    injection h1 with h1
    injection h1 with h1
    exact h1.symm
  rw [← hcell j hj]
  exact World.cell?_of_block (Below.heap_setCell _ _ _ _ (by show b' ≠ a.block; rw [e]; exact hne))
theorem inL_snoc {n : Nat} {Q : List Nat} {p : Nat} : pack n (fun j => inL (intsN Q) j || decide (j = p)) = pack n (inL (intsN (Q ++ [p]))) := by
  rw [inL_hit, intsN_append]
  rfl
set_option maxRecDepth 8000 in
set_option maxHeartbeats 4000000 in
theorem rbuild15_any (v : Value) (l : List Val) (bits : Int) (w : World) (hr : ReadsV w v l) (hvl : validL l = true) (hl : l.length ≤ 4096) (hb : I64 bits) :
    Calls Try.prog 12 #[v, .int .i64 bits] w (BldR bits l w) := by
  have HR := hidden hr
  obtain ⟨A, c, rfl, _⟩ := hr
  have HZ0 := hidden (Row.new w 32 #[.int .i64 0, .int .i64 0, .slice none 0 0] [.int .i64 0, .int .i64 0, .slice none 0 0] rfl)
  have HGZ := hidden (growB w (.cells #[.int .i64 0, .int .i64 0, .slice none 0 0] 32))
  by_cases hlow : bits < 1
  · have hH := hidden (show buildH bits = 0 from if_pos hlow)
    have hN := hidden (show buildN bits l.length = 0 from if_pos hlow)
    have hW := hidden (show buildW bits l = [] from if_pos hlow)
    have hd : decide (bits < 1) = true := by simpa using hlow
    clear hlow
    go_enter Try.func12, Try.ntmps12
    go_wp2_with fail
    refine bodyPost_ret (results_bf1 rfl _ _ _ _ _ _ rfl HZ0.out) rfl ⟨_, rfl, ?_, HGZ.out⟩
    rw [hH.out, hN.out, hW.out]
    exact ⟨_, rfl, ⟨none, 0, rfl, Nat.le_refl _, fun h => absurd h (by simp [ucells])⟩, by simp⟩
  · obtain ⟨B, hB⟩ : ∃ B, B = bits15 bits := ⟨_, rfl⟩
    have hB1 : 1 ≤ B := by rw [hB]; unfold bits15; omega
    have hB2 : B ≤ 16 := by rw [hB]; unfold bits15; omega
    have hmin : min bits 16 = (B : Int) := by rw [hB]; unfold bits15; omega
    have hd : decide (bits < 1) = false := by simpa using hlow
    have hmb : l.length * B ≤ 65536 := by
      have := Nat.mul_le_mul hl hB2
      omega
    have HSF := hidden (fun W => rsize_any l.length B W hmb)
    obtain ⟨H, hH⟩ : ∃ H, H = hashesN B := ⟨_, rfl⟩
    have hmax : max 1 ((B : Int) * 7 / 10) = (H : Int) := by rw [hH]; unfold hashesN; omega
    have hH1 : H ≤ 11 := by rw [hH]; exact hashesN_le hB2
    obtain ⟨N, hN⟩ : ∃ N, N = sizeN (l.length * B) := ⟨_, rfl⟩
    rw [← hN] at HSF
    have hN1 : N ≤ 65536 := by rw [hN]; exact sizeN_le _
    have hN0 : 64 ≤ N := by rw [hN]; exact sizeN_ge _
    have HFH := hidden (show buildH bits = H by unfold buildH; rw [if_neg hlow, hH, hB])
    have HFN := hidden (show buildN bits l.length = N by unfold buildN; rw [if_neg hlow, hN, hB])
    have HFW := hidden (show buildW bits l = wordsF N H l by unfold buildW; rw [if_neg hlow, HFH.out, HFN.out])
    have HNEW := hidden (fun W => rnew_any (N : Int) W (by omega) (by omega))
    rw [newN_nat (show N ≤ 1048576 by omega)] at HNEW
    have HL := hidden (pack_length N)
    have HVL := hidden hvl
    have HLL := hidden hl
    have HH1 := hidden hH1
    have HN1 := hidden hN1
    have HN0 := hidden hN0
    clear hB hlow hH hN hvl hb hmb hN0 hH1
    go_enter Try.func12, Try.ntmps12
    go_wp2_with fail
    refine (HSF.out _).mono ?_
    rintro e w1 ⟨rfl, rfl⟩
    go_wp2_with fail
    obtain ⟨W1, hW1⟩ : ∃ W1, W1 = w.alloc (.cells #[.int .i64 0, .int .i64 0, .slice none 0 0] 32) := ⟨_, rfl⟩
    rw [← hW1] at HZ0 HGZ
    rw [← hW1]
    clear hW1
    refine (HNEW.out W1).mono ?_
    rintro e w6 ⟨g, hg6, rfl, hrow6, g6⟩
    rw [HL.out] at ⊢
    have HS1 := hidden (show w.heap.size < W1.heap.size from HZ0.out.lt)
    have HNG := hidden (show g ≠ w.heap.size by have := HS1.out; omega)
    have HGF := hidden (show g ≠ w6.heap.size by have := hrow6.lt; omega)
    have HZF := hidden (show w.heap.size ≠ w6.heap.size by have := HS1.out; have := g6.size; omega)
    have HGA := hidden (show Grows w (w6.alloc (.cells #[.int .i64 (H : Int), .int .i64 (N : Int), .slice (some ⟨g, 0, none⟩) (nw N) (nw N)] 32)) from (HGZ.out.of_below g6).of_below (growB _ _))
    have HZA := hidden ((HZ0.out.grow g6).grow (growB w6 (.cells #[.int .i64 (H : Int), .int .i64 (N : Int), .slice (some ⟨g, 0, none⟩) (nw N) (nw N)] 32)))
    have HRA := hidden (hrow6.grow (growB w6 (.cells #[.int .i64 (H : Int), .int .i64 (N : Int), .slice (some ⟨g, 0, none⟩) (nw N) (nw N)] 32)))
    have HFA := hidden (Row.new w6 32 #[.int .i64 (H : Int), .int .i64 (N : Int), .slice (some ⟨g, 0, none⟩) (nw N) (nw N)] _ rfl)
    have HWG := hidden (show w.heap.size ≤ g by have := HS1.out; omega)
    have HE0 := hidden (show (fun _ : Nat => false) = inL (intsN (allP N H (l.take 0))) by rw [List.take_zero, allP_nil]; exact inL_nil.symm)
    rw [HE0.out] at HRA
    generalize hF : w6.heap.size = F at *
    clear g6 hrow6 hg6 hmin hmax
    go_wp2_with fail
    go_loopw [7] (fun i wr => RbdRel w F g H N l i wr) (fun i _ => l.length - (intOf i).toNat)
    case atStart => exact ⟨0, Nat.zero_le _, rfl, HFA.out, HRA.out, HZA.out, HGA.out⟩
    case round =>
      obtain ⟨k, hk, rfl, hf, hrow, hz, hg⟩ := hrel
      have HF1 := hidden hf
      have HR1 := hidden hrow
      have HZ1 := hidden hz
      have HG1 := hidden hg
      clear hf hrow hz hg
      by_cases hlt : k < l.length
      · obtain ⟨A', c', he, _, hcell⟩ := HR.out.grow HG1.out
        injection he with e1 e2 e3
        subst e1 e3
        obtain ⟨b, off, rfl, hcell2⟩ := hcell (by omega)
        obtain ⟨x, hx⟩ : ∃ x, l[k]? = some x := ⟨_, List.getElem?_eq_getElem hlt⟩
        obtain ⟨c1, c2, c3⟩ := hcell2 k x hx
        have HC1 := hidden c1
        have HC2 := hidden c2
        have HC3 := hidden c3
        have hd1 : decide (k < l.length) = true := by simpa using hlt
        have hi0 : (0 : Int) ≤ (k : Int) := by omega
        have hi1 : (k : Int) < (l.length : Int) := by omega
        have HXV := hidden (validL_at HVL.out hx)
        have HTK := hidden (allP_take (n := N) (m := H) hx)
        have HPL := hidden (posV_length N H x)
        have HPB := hidden (show ∀ p ∈ posV N H x, p < N from fun p hp => probesN_lt (by have := HN0.out; omega) hp)
        have HH0 := hidden (show 1 ≤ H by have : buildH bits = H := HFH.out; have hb := hd; rw [← this]; unfold buildH; rw [if_neg (by simpa using hb)]; exact hashesN_ge _)
        have HPR := hidden (fun W (hF : Reads W (.slice (some ⟨g, 0, none⟩) (nw N) (nw N)) (ucells (pack N (inL (intsN (allP N H (l.take k))))))) => rprobes_any (.agg #[.int .i64 (H : Int), .int .i64 (N : Int), .slice (some ⟨g, 0, none⟩) (nw N) (nw N)]) H N (pack N (inL (intsN (allP N H (l.take k))))) x W ⟨_, rfl, hF, by rw [HL.out]; have := HN1.out; unfold nw; omega⟩ HH1.out (by have := HN0.out; omega) HN1.out HXV.out)
        unfold Val.v at HPR
        obtain ⟨Q, hQ⟩ : ∃ Q, Q = allP N H (l.take k) := ⟨_, rfl⟩
        rw [← hQ] at HTK HR1 HPR
        obtain ⟨P, hP⟩ : ∃ P, P = posV N H x := ⟨_, rfl⟩
        rw [← hP] at HTK HPR HPL HPB
        have HRW := hidden (show Reads wr (.slice (some ⟨g, 0, none⟩) (nw N) (nw N)) (ucells (pack N (inL (intsN Q)))) by
          have h := HR1.out.reads (Nat.le_refl _)
          rwa [HL.out] at h)
        have HKL := hidden (show k < 4096 by have := HLL.out; omega)
        clear hQ hP hcell hcell2 e2 hx c1 c2 c3
        go_wp2_with fail
        refine wp_region_loose (tabRs [(5, IntsV wr.heap.size P)]) (by kernel_rfl) (by kernel_rfl) (tabRs_cons IntsV.lasts tabRs_nil) ?_
        iterate 5 ((with_reducible refine loose_one (v := ?_) (a' := ?_) ?_ ?_ (fun w' hC' hG' => ?_) ?_ ?_); rotate_left 2; (focus rfl); (focus rfl); (focus (have q0 := (hC'.cell (World.block_lt_of_cell? _ _ HC1.out)).trans HC1.out; have q1 := (hC'.cell (World.block_lt_of_cell? _ _ HC2.out)).trans HC2.out; have q2 := (hC'.cell (World.block_lt_of_cell? _ _ HC3.out)).trans HC3.out; have p0 := (HF1.out.grow hC').cell 0; have p1 := (HF1.out.grow hC').cell 1; have p2 := (HF1.out.grow hC').cell 2; simp only [List.getElem?_cons_succ, List.getElem?_cons_zero] at p0 p1 p2; clear hC' hG'; go_simp; rfl)); (focus (go_simp; rfl)))
        refine loose_call (R := IntsV wr.heap.size P) (f := 30) (args := #[.agg #[.int .i64 (H : Int), .int .i64 (N : Int), .slice (some ⟨g, 0, none⟩) (nw N) (nw N)], .agg #[.int .i64 x.k, .int .i64 x.n, .string x.t]]) (by rfl) (by rfl) (fun _ => by go_simp) (fun w' hC' hG' => ints_loose hC'.size (by rw [HPL.out]; have := HH0.out; omega) (HPR.out w' (HRW.out.grow hC'))) ?_
        rintro _ ⟨_, _, b5, c5, rfl, hb5, _⟩
        refine ⟨?_, ?_, ?_⟩
        rotate_left
        · go_simp
          rfl
        iterate 1 ((with_reducible refine loose_one (v := ?_) (a' := ?_) ?_ ?_ (fun w' hC' hG' => ?_) ?_ ?_); rotate_left 2; (focus rfl); (focus rfl); (focus (clear hC' hG'; go_simp; rfl)); (focus (go_simp; rfl)))
        refine loose_done (fun w5 hC' hG' => ?_)
        obtain ⟨b6, c6, he6, _, hrd6⟩ := (hG' 5).2 rfl
        have HRD5 := hidden hrd6
        have HF5 := hidden (HF1.out.grow hC')
        have HR5 := hidden (HR1.out.grow hC')
        have HZ5 := hidden (HZ1.out.grow hC')
        have HG5 := hidden (HG1.out.of_below hC')
        have HBG := hidden (show b5 ≠ g by have := HR1.out.lt; omega)
        clear hC' hG' he6 hrd6 hb5
        go_wp2_with fail
        go_loopw [9] (fun i wr => RbdIn w F g H N b5 c5 Q P i wr) (fun i _ => P.length - (intOf i).toNat)
        case atStart => exact ⟨0, Nat.zero_le _, rfl, HF5.out, by rw [List.take_zero, List.append_nil]; exact HR5.out, HZ5.out, HG5.out, HRD5.out⟩
        case round =>
          obtain ⟨j, hj, rfl, hf, hrow, hz, hg, hrd⟩ := hrel
          have HF2 := hidden hf
          have HR2 := hidden hrow
          have HZ2 := hidden hz
          have HG2 := hidden hg
          have HRD2 := hidden hrd
          have f2 := hf.cell 2
          simp only [List.getElem?_cons_succ, List.getElem?_cons_zero] at f2
          clear hf hrow hz hg hrd
          have HNL := hidden (show (ncells P).length = P.length by simp [ncells])
          by_cases hlt2 : j < P.length
          · obtain ⟨A2, c2, he2, _, hcl⟩ := HRD2.out
            injection he2 with e1 e2 e3
            obtain ⟨b7, off7, hA2, hcl2⟩ := hcl (by rw [HNL.out]; omega)
            rw [hA2] at e1
            injection e1 with e1
            injection e1 with e4 e5
            subst e4 e5
            have hbit := hcl2 j (by rw [HNL.out]; exact hlt2)
            rw [ncells_get15 hlt2, Nat.zero_add] at hbit
            have HTP := hidden (show Q ++ P.take (j + 1) = (Q ++ P.take j) ++ [P[j]] by rw [List.take_succ_eq_append_getElem hlt2, List.append_assoc])
            have hpn : P[j] < N := HPB.out _ (List.getElem_mem hlt2)
            have hd2 : decide (j < P.length) = true := by simpa using hlt2
            have hj0 : (0 : Int) ≤ (j : Int) := by omega
            have hj1 : (j : Int) < (P.length : Int) := by omega
            have hjb : j ≤ 11 := by have := HPL.out; have := HH1.out; omega
            clear hcl hcl2 e2 e3 hA2
            generalize P[j] = p at *
            obtain ⟨QQ, hQQ⟩ : ∃ QQ, QQ = Q ++ P.take j := ⟨_, rfl⟩
            rw [← hQQ] at HTP HR2
            clear hQQ
            have hkw : p / 64 < nw N := by unfold nw; omega
            have hnl : nw N ≤ 1024 := by have := HN1.out; unfold nw; omega
            have hkl : p / 64 < (pack N (inL (intsN QQ))).length := by rw [HL.out]; exact hkw
            have hcw := HR2.out.cell (p / 64)
            rw [ucells_get hkl] at hcw
            have hfr := HR2.out.frozen (p / 64)
            have hps := pack_set (f := inL (intsN QQ)) hpn _ (List.getElem?_eq_getElem hkl)
            rw [inL_snoc, ← HTP.out] at hps
            have HPS := hidden hps
            have HO' := hidden (or_go' (x := (pack N (inL (intsN QQ)))[p / 64]) (j := p % 64) (by omega))
            have hxb : (pack N (inL (intsN QQ)))[p / 64].toNat < 18446744073709551616 := (pack N (inL (intsN QQ)))[p / 64].toNat_lt
            have hpb : (p : Int) < 65536 := by have := HN1.out; omega
            have HLT2 := hidden hlt2
            clear hps
            generalize (pack N (inL (intsN QQ)))[p / 64] = y at *
            go_wp2_with fail
            go_region
            go_wp2
            go_roundw
            case rel =>
              have hdr : ∀ W : World, Grows W W.drew := fun W => ⟨rfl, rfl, rfl, Nat.le_refl _, fun _ _ => rfl⟩
              refine ⟨j + 1, HLT2.out, by go_num, (HF2.out.set_other (by show g ≠ _; exact HGF.out) _).grow (hdr _), ?_, (HZ2.out.set_other (by show g ≠ _; exact HNG.out) _).grow (hdr _), Grows.of_below (HG2.out.setCell (p := ⟨g, p / 64, none⟩) (by show _ ≤ g; exact HWG.out) _) (hdr _), (reads_setCell HRD2.out (by show b5 ≠ g; exact HBG.out) _).grow (hdr _)⟩
              have h := (HR2.out.set_ (p / 64) (.int .u64 ((UInt64.ofNat (y.toNat ||| 2 ^ (p % 64))).toNat : Int))).grow (hdr _)
              rw [ucells_set, HPS.out, ← HO'.out] at h
              exact h
            case measure => have := HLT2.out; simp [intOf]; omega
          · have hke2 : j = P.length := by omega
            have hd2 : decide (j < P.length) = false := by simpa using hlt2
            have hrw := HR2.out
            rw [hke2, List.take_length, ← HTK.out] at hrw
            have HR3 := hidden hrw
            have HLT := hidden hlt
            have hkl := HKL.out
            clear hke2 hrw f2
            go_wp2_with fail
            go_roundw
            case rel => exact ⟨k + 1, HLT.out, by go_num, HF2.out, HR3.out, HZ2.out, HG2.out⟩
            case measure => have := HLT.out; simp [intOf]; omega
      · have hke : k = l.length := by omega
        have hd1 : decide (k < l.length) = false := by simpa using hlt
        have hrw := HR1.out
        rw [hke, List.take_length] at hrw
        have HFW2 := hidden (show buildW bits l = pack N (inL (intsN (allP N H l))) from HFW.out)
        have HPK := hidden (pack_length N (inL (intsN (allP N H l))))
        obtain ⟨WS, hWS⟩ : ∃ WS, WS = pack N (inL (intsN (allP N H l))) := ⟨_, rfl⟩
        rw [← hWS] at hrw HFW2 HPK
        have HRW := hidden hrw
        clear hrw hke hWS
        go_wp2_with (first
          | ((with_reducible refine at_lf rfl _ rfl ?_); refine wpList_load_bf rfl _ rfl F rfl _ _ _ HF1.out ?_)
          | ((with_reducible refine at_sf rfl _ _ rfl ?_); refine wpList_store_bf rfl _ _ rfl wr rfl w.heap.size rfl H N _ _ _ rfl _ _ _ HZ1.out ?_; intro W8 hr hg hrow; have HRW8 := hidden hr; have HG8 := hidden (hg _ HG1.out (Nat.le_refl _)); have HR8 := hidden (hrow _ _ _ HNG.out HRW.out); clear hr hg hrow))
        refine bodyPost_ret (results_bf1 rfl _ _ _ _ _ _ rfl HRW8.out) rfl ⟨_, rfl, ?_, HG8.out⟩
        rw [HFH.out, HFN.out, HFW2.out]
        refine ⟨_, rfl, ?_, ?_⟩
        · have h := HR8.out.reads (Nat.le_refl _)
          rwa [HPK.out] at h
        · rw [HPK.out]
          have := HN1.out
          unfold nw
          omega
end Go.Proofs.Ytgegjoggiadgbaa
