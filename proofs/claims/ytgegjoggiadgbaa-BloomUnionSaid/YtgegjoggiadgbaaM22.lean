/-
  Texts that the claims of this seat share, put together (BmP4, BmP5, BmL0, BmL1, BmW0). No condition.
-/
import Derived.Test.YtgegjoggiadgbaaM20
import Derived.Test.YtgegjoggiadgbaaM21
import Derived.Test.YtgegjoggiadgbaaM10
import Derived.Maps.OwnIn
import Derived.Test.YtgegjoggiadgbaaM12
import Derived.Test.YtgegjoggiadgbaaFast
/-
  Shaken: what the claims of this seat need of this text. No condition.
-/
namespace Go.Proofs.Ytgegjoggiadgbaa
set_option maxRecDepth 8000
open Go.RowKit Go.Shelf
attribute [local go_sem] Oper.semAt_some
set_option linter.unusedVariables false
set_option linter.unusedSimpArgs false
theorem wpListIn_store_row15 {F : Fence} {n : Nat} {P : Program} {ops : Array Oper} {rest : List Oper} {o : Oper} {a : Act} {w : World} {Q : Exit → Act → World → Prop} (hgd : o.guard = none) (ty : TypeId) (x y : Operand) (ho : o.op = .store ty x y)
    (g : Nat) (cells : Array Value) (hx : a.eval x = .pointer (some ⟨g, 0, none⟩)) (hy : a.eval y = .agg cells)
    (t : TypeId) (old : Array Value) (hg : w.heap[g]? = some (.cells old t (0, 0))) (hi : (P.info? ty).map (·.size) = some cells.size)
    (hold : old.size = cells.size) (h1 : cells.all (·.oneCell') = true)
    (h : wpListIn F n P ops Q rest (a.put o.dst undef) (w.setRow g cells)) : wpListIn F n P ops Q (o :: rest) a w := by
  refine wpListIn_plain hgd fun K hK => ?_
  have hrun : (execOp a.eval o).run P w = .ok .skip (w.setRow g cells) := by
    unfold execOp
    simp only [ho, hx, hy, Instr.storeAt, Instr.sureAddr, Sem.run_bind, Sem.run_pure, Result.andThen_ok, run_storeVar_row (P := P) w g t ty old cells hg hi hold h1]
  unfold Oper.wpIn
  refine ⟨by simp [Oper.about, ho], ?_⟩
  rw [Oper.semAt_plain F _ _ (by rw [ho]; intro c hc; cases hc), hrun]
  exact hK _ _ h
theorem wpListIn_store_new15 {F : Fence} {n' : Nat} {W0 : World} {ops : Array Oper} {rest : List Oper} {o : Oper} {a : Act} {Q : Exit → Act → World → Prop} (hgd : o.guard = none) (x y : Operand) (ho : o.op = .store 24 x y)
    (w : World) {z1 z2 z3 : Value} (hW : W0 = w.alloc (.cells #[z1, z2, z3] 24)) (hx : a.eval x = .pointer (some ⟨w.heap.size, 0, none⟩)) (k n : Int) (t : ByteArray) (hy : a.eval y = .agg #[.int .i64 k, .int .i64 n, .string t])
    (h : ∀ W, Row W w.heap.size 24 [.int .i64 k, .int .i64 n, .string t] → Grows w W → W.heap.size = w.heap.size + 1 → wpListIn F n' Try.prog ops Q rest (a.put o.dst undef) W) : wpListIn F n' Try.prog ops Q (o :: rest) a W0 := by
  subst hW
  exact wpListIn_store_row15 hgd _ x y ho w.heap.size #[.int .i64 k, .int .i64 n, .string t] hx hy _ #[z1, z2, z3] (valRow w z1 z2 z3) size_val rfl (by simp [Value.oneCell'])
    (h _ (valSet_row (valRow w z1 z2 z3) [.int .i64 k, .int .i64 n, .string t]) (valSet_below (grow1 _) (Nat.le_refl _) _) (by simp [World.setRow]))
theorem at_svI {F : Fence} {n : Nat} {wr : World} {ops : Array Oper} {rest : List Oper} {op : Oper} {a : Act} {Q : Exit → Act → World → Prop} (hgd : op.guard = none) (x y : Operand) (ho : op.op = .store 24 x y) (h : wpListIn F n Try.prog ops Q (op :: rest) a wr) : wpListIn F n Try.prog ops Q (op :: rest) a wr := h
theorem at_sfI {F : Fence} {n : Nat} {wr : World} {ops : Array Oper} {rest : List Oper} {op : Oper} {a : Act} {Q : Exit → Act → World → Prop} (hgd : op.guard = none) (x y : Operand) (ho : op.op = .store 32 x y) (h : wpListIn F n Try.prog ops Q (op :: rest) a wr) : wpListIn F n Try.prog ops Q (op :: rest) a wr := h
theorem wpListIn_store_bf {F : Fence} {n' : Nat} {wr : World} {ops : Array Oper} {rest : List Oper} {o : Oper} {a : Act} {Q : Exit → Act → World → Prop} (hgd : o.guard = none) (x y : Operand) (ho : o.op = .store 32 x y)
    (W0 : World) (hw : wr = W0) (g : Nat) (hx : a.eval x = .pointer (some ⟨g, 0, none⟩)) (h n : Int) (A : Option Addr) (l c : Nat) (hy : a.eval y = .agg #[.int .i64 h, .int .i64 n, .slice A l c]) (z1 z2 z3 : Value) (hr : Row W0 g 32 [z1, z2, z3])
    (hk : ∀ W, Row W g 32 [.int .i64 h, .int .i64 n, .slice A l c] → (∀ w0, Grows w0 W0 → w0.heap.size ≤ g → Grows w0 W) → (∀ g' e ys, g' ≠ g → Row W0 g' e ys → Row W g' e ys) → KeepsOthers W0 W → wpListIn F n' Try.prog ops Q rest (a.put o.dst undef) W) : wpListIn F n' Try.prog ops Q (o :: rest) a wr := by
  subst hw
  refine wpListIn_store_row15 hgd _ x y ho g #[.int .i64 h, .int .i64 n, .slice A l c] hx hy 32 #[z1, z2, z3] hr size_bf rfl (by simp [Value.oneCell']) (hk _ (hr.setRow_ [.int .i64 h, .int .i64 n, .slice A l c] rfl) (fun w0 h0 hg => below_setRow h0 hg _) ?_ ?_)
  · intro g' e ys hne h0
    unfold Row at h0 ⊢
    rw [setRow_other _ _ _ _ hne]
    exact h0
  · refine ⟨by simp [World.setRow], fun k o hk2 ho => ?_⟩
    by_cases hne : k = g
    · subst hne
      have h0 : wr.heap[k]? = _ := hr
      rw [h0] at hk2
      injection hk2 with hk2
      subst hk2
      cases ho
    · rw [setRow_other _ _ _ _ hne]
      exact hk2
def Marks (s t : Nat) (W : World) : List Deferred → Prop
  | [] => True
  | d :: ds => (∃ D, d.target = .collected D ∧ s ≤ D ∧ D < t ∧ W.heap[D]? = some (.deferred (some [])) ∧ ∀ d' ∈ ds, d'.target ≠ .collected D) ∧ Marks s t W ds
theorem Marks.keep {s t t' : Nat} {W W' : World} (ht : t ≤ t') : ∀ {ds}, Marks s t W ds → (∀ D, s ≤ D → D < t → W.heap[D]? = some (.deferred (some [])) → (∃ d ∈ ds, d.target = .collected D) → W'.heap[D]? = some (.deferred (some []))) → Marks s t' W' ds
  | [], _, _ => trivial
  | d :: ds, ⟨⟨D, h1, h2, h3, h4, h5⟩, h⟩, hk => ⟨⟨D, h1, h2, by omega, hk D h2 h3 h4 ⟨d, List.mem_cons_self .., h1⟩, h5⟩, Marks.keep ht h fun D' a b c ⟨d', hd', e⟩ => hk D' a b c ⟨d', List.mem_cons_of_mem _ hd', e⟩⟩
theorem Marks.lt {s t : Nat} {W : World} : ∀ {ds}, Marks s t W ds → ∀ d ∈ ds, ∀ D, d.target = .collected D → D < t
  | d :: ds, ⟨⟨D, h1, _, h3, _⟩, h⟩, d', hd', D', e => by
    rcases List.mem_cons.1 hd' with rfl | hd'
    · rw [h1] at e; cases e; exact h3
    · exact Marks.lt h d' hd' D' e
theorem Marks.others {s t t' : Nat} {W W' : World} {ds : List Deferred} (h : Marks s t W ds) (ht : t ≤ t') (hk : KeepsFrom s W W') : Marks s t' W' ds := h.keep ht fun D hs _ hd _ => hk.same D _ hs hd rfl
theorem leave_marksR {n : Nat} {P : Program} {fn : Func} {tmps : Array Value} {s t : Nat} {R : Ending → World → Prop} {J : World → Prop} (hres : ∀ W, J W → ∃ v, (results fn tmps).run P W = .ok v W ∧ R (.returned v) W) (hJ : OwnFrom s (fun (_ : Unit) W => J W)) :
    ∀ (ds : List Deferred) (W : World), Marks s t W ds → J W → LeavesInM Fence.wide n P fn tmps R ds .returning W
  | [], W, _, h => by
    obtain ⟨v, h1, h2⟩ := hres W h
    exact ⟨v, h1, h2⟩
  | d :: ds, W, ⟨⟨D, h1, h2, h3, h4, h5⟩, hm⟩, h => by
    refine ⟨by simp, .inl ⟨D, _, h1, run_takeDeferred h4, leave_marksR hres hJ ds _ (hm.keep (Nat.le_refl _) ?_) (hJ.putObj (s := ()) _ h h2 h4 rfl)⟩⟩
    rintro D' _ _ hD' ⟨d', hd', e⟩
    refine (World.putObj_heap_other ?_).trans hD'
    intro e'
    subst e'
    exact h5 d' hd' e
end Go.Proofs.Ytgegjoggiadgbaa
/-
  Shaken: what the claims of this seat need of this text. No condition.
-/
namespace Go.Proofs.Ytgegjoggiadgbaa
open Go.RowKit Go.Shelf
attribute [local go_sem] Oper.semAt_some
set_option linter.unusedVariables false
set_option linter.unusedSimpArgs false
theorem infoI15 : (Try.prog.info? 3).map (fun i => (i.zero, i.size, i.bytes)) = some (some (.int .i64 0), 1, 8) := by kernel_rfl
theorem intsN_one (a : List Nat) (x : Nat) : icells (intsN a) ++ [.int .i64 (x : Int)] = icells (intsN (a ++ [x])) := by simp [icells, intsN]
theorem ownsRow_grow15 {w w' : World} {b : Nat} {e : TypeId} {sz : Nat} {v : Value} {n : Nat} {xs : List Value} (h : w.ownsRow b e sz v n xs) (hb : Grows w w') : w'.ownsRow b e sz v n xs := by
  refine ⟨h.1, ?_⟩
  rcases h.2 with h2 | ⟨g, cap, cur, h1, h2, h3, h4⟩
  · exact .inl h2
  · exact .inr ⟨g, cap, cur, h1, h2, (hb.block g (Array.getElem?_eq_some_iff.1 h3).1).trans h3, h4⟩
def BdHas (w : World) (L : List Nat) (P : List Nat) (W : World) : Prop :=
  (∃ sv, Boxed W (w.heap.size + 1) 55 sv ∧ W.ownsRow w.heap.size 3 1 sv P.length (icells (intsN P)) ∧ ∀ g, sv.ownBlock = some g → g ∉ L) ∧ Row W w.heap.size 32 [.int .i64 0, .int .i64 0, .slice none 0 0] ∧ Below w.heap.size w W
theorem BdHas.less {w W : World} {L : List Nat} {P : List Nat} (h : BdHas w L P W) : BdHas w [] P W := by
  obtain ⟨⟨sv, h1, h2, _⟩, h3⟩ := h
  exact ⟨⟨sv, h1, h2, fun _ _ => by simp⟩, h3⟩
theorem BdHas.more {w W : World} {L : List Nat} {P : List Nat} (h : BdHas w [] P W) (hL : ∀ k ∈ L, W.heap.size ≤ k) : BdHas w L P W := by
  obtain ⟨⟨sv, h1, h2, _⟩, h3⟩ := h
  exact ⟨⟨sv, h1, h2, fun g hg hm => by have := (h2.lt g hg).2; have := hL g hm; omega⟩, h3⟩
theorem BdHas.grow {w W W' : World} {L : List Nat} {P : List Nat} (h : BdHas w L P W) (hg : Grows W W') : BdHas w L P W' := by
  obtain ⟨⟨sv, h1, h2, h3⟩, h4, h5⟩ := h
  exact ⟨⟨sv, (hg.block _ h1.lt).trans h1, ownsRow_grow15 h2 hg, h3⟩, h4.grow hg, h5.trans (hg.mono h5.size)⟩
theorem BdHas.own {w : World} {L : List Nat} (f : List (Fin 65536) → List Nat) {B : Nat} (hB : w.heap.size ≤ B) : OwnFrom B (fun pre W => BdHas w L (f pre) W) := by
  rintro pre X Y row ⟨⟨sv, h1, h2, h3⟩, h4, h5⟩ hg hr
  have hr' : ∀ r, row = some r → ∃ o : Obj, X.heap[r]? = some o ∧ o.isCells = false := fun r e => (hr r e).2
  refine ⟨⟨sv, boxed_own _ _ (fun (_ : Unit) => sv) () X Y row h1 hg hr', h2.kept hg ?_, h3⟩, ?_, h5.grown hg h5.size (fun k e => Nat.le_trans hB (hr k e).1)⟩
  · rcases h2.2 with ⟨rfl, _⟩ | ⟨g, cap, cur, rfl, _, hgb, _⟩
    · exact .inl rfl
    · refine .inr fun e => ?_
      obtain ⟨o, ho, hc⟩ := hr' g (by rw [← e]; rfl)
      rw [hgb] at ho
      injection ho with ho
      subst ho
      cases hc
  · refine (hg.block _ h4.lt fun e => ?_).trans h4
    obtain ⟨o, ho, hc⟩ := hr' _ e.symm
    have h0 : X.heap[w.heap.size]? = _ := h4
    rw [h0] at ho
    injection ho with ho
    subst ho
    cases hc
theorem row_not_own {W : World} {z b : Nat} {e e' : TypeId} {ys xs : List Value} {sz n : Nat} {v : Value} (h : Row W z e' ys) (ho : W.ownsRow b e sz v n xs) (hne : e' ≠ e) : some z ≠ v.ownBlock := by
  intro hz
  rcases ho.2 with ⟨rfl, _⟩ | ⟨g, cap, cur, rfl, _, hgb, _⟩
  · cases hz
  · have e1 : z = g := by simpa [Value.ownBlock] using hz
    subst e1
    unfold Row at h
    rw [h] at hgb
    injection hgb with hgb
    injection hgb with _ e2
    exact hne e2
theorem marks_own {β : Type} {s B : Nat} {ds : List Deferred} : OwnFrom B (fun (_ : β) W => Marks s B W ds) := fun _ X Y row h hg hr =>
  h.keep (Nat.le_refl _) fun D _ h2 h3 _ => (hg.block D (Array.getElem?_eq_some_iff.1 h3).1 fun e => by have := (hr D e.symm).1; omega).trans h3
def BdRel (A : Option Addr) (c B H N : Nat) (l : List Val) (w : World) (s : Nat) (a : Act) (W : World) : Prop :=
  ∃ (k : Nat) (u2 u3 u8 u9 u10 u11 u12 u13 u14 u15 u16 u17 u18 u19 u20 u21 u22 u23 u24 u28 u29 u30 u31 u32 u33 u34 u35 u36 u37 u38 u39 u40 u41 u42 u43 u44 u45 : Value) (ds : List Deferred), k ≤ l.length ∧
    a = { tmps := #[.slice A l.length c, .int .i64 (B : Int), u2, u3, .pointer (some ⟨w.heap.size, 0, none⟩), .int .i64 (H : Int), .int .i64 (N : Int), .pointer (some ⟨w.heap.size + 1, 0, none⟩), u8, u9, u10, u11, u12, u13, u14, u15, u16, u17, u18, u19, u20, u21, u22, u23, u24, .slice A l.length c, .int .i64 (l.length : Int), .int .i64 (k : Int), u28, u29, u30, u31, u32, u33, u34, u35, u36, u37, u38, u39, u40, u41, u42, u43, u44, u45], defers := ds } ∧
    Marks s W.heap.size W ds ∧ s ≤ W.heap.size ∧ BdHas w [] (allP N H (l.take k)) W
set_option maxRecDepth 100000 in
set_option maxHeartbeats 4000000 in
theorem bbuild_any (v : Value) (l : List Val) (bits : Int) (w : World) (hr : ReadsV w v l) (hvl : validL l = true) (hl : l.length ≤ 4096) (hb : I64 bits) :
    Calls Try.prog 11 #[v, .int .i64 bits] w (BldR bits l w) := by
  have HR := hidden hr
  obtain ⟨A, c, rfl, _⟩ := hr
  have HZ0 := hidden (Row.new w 32 #[.int .i64 0, .int .i64 0, .slice none 0 0] [.int .i64 0, .int .i64 0, .slice none 0 0] rfl)
  have HGZ := hidden (growB w (.cells #[.int .i64 0, .int .i64 0, .slice none 0 0] 32))
  by_cases hlow : bits < 1
  · have hH := hidden (show buildH bits = 0 from if_pos hlow)
    have hN := hidden (show buildN bits l.length = 0 from if_pos hlow)
    have hW := hidden (show buildW bits l = [] from if_pos hlow)
    have hd : decide (bits < 1) = true := by simpa using hlow
    clear hlow
    go_enter Try.func11, Try.ntmps11
    go_wp2_with fail
    refine bodyPost_ret (results_bf1 rfl _ _ _ _ _ _ rfl HZ0.out) rfl ⟨_, rfl, ?_, HGZ.out⟩
    rw [hH.out, hN.out, hW.out]
    exact ⟨_, rfl, ⟨none, 0, rfl, Nat.le_refl _, fun h => absurd h (by simp [ucells])⟩, by simp⟩
  · obtain ⟨B, hB⟩ : ∃ B, B = bits15 bits := ⟨_, rfl⟩
    have hB1 : 1 ≤ B := by rw [hB]; unfold bits15; omega
    have hB2 : B ≤ 16 := by rw [hB]; unfold bits15; omega
    have hmin : min bits 16 = (B : Int) := by rw [hB]; unfold bits15; omega
    have hd : decide (bits < 1) = false := by simpa using hlow
    have hmb : l.length * B ≤ 65536 := by
      have := Nat.mul_le_mul hl hB2
      omega
    obtain ⟨M, hM⟩ : ∃ M, M = l.length * B := ⟨_, rfl⟩
    rw [← hM] at hmb
    have hmul : wrap64 ((l.length : Int) * (B : Int)) = (M : Int) := by
      rw [← Int.natCast_mul, ← hM]
      exact wrap64_le hmb
    have HSF := hidden (fun W => sizeFor_any M W hmb)
    obtain ⟨H, hH⟩ : ∃ H, H = hashesN B := ⟨_, rfl⟩
    have hmax : max 1 ((B : Int) * 7 / 10) = (H : Int) := by rw [hH]; unfold hashesN; omega
    have hH1 : H ≤ 11 := by rw [hH]; exact hashesN_le hB2
    obtain ⟨N, hN⟩ : ∃ N, N = sizeN M := ⟨_, rfl⟩
    rw [← hN] at HSF
    have hN1 : N ≤ 65536 := by rw [hN]; exact sizeN_le _
    have hN0 : 64 ≤ N := by rw [hN]; exact sizeN_ge _
    have HFH := hidden (show buildH bits = H by unfold buildH; rw [if_neg hlow, hH, hB])
    have HFN := hidden (show buildN bits l.length = N by unfold buildN; rw [if_neg hlow, hN, hM, hB])
    have HFW := hidden (show buildW bits l = wordsF N H l by unfold buildW; rw [if_neg hlow, HFH.out, HFN.out])
    have HVL := hidden hvl
    have HLL := hidden hl
    have HH1 := hidden hH1
    have HN1 := hidden hN1
    have HN0 := hidden hN0
    clear hB hlow hM hH hN hvl hb hmb hN0
    refine (callsIn_wide (n := 50)).1 ?_
    refine callsIn_of_wp_marks Try.func11 rfl trivial ?_ rfl
    simp only [Try.ntmps11, List.size_toArray, List.length_cons, List.length_nil, Nat.reduceAdd, Nat.reduceSub, Array.replicate_succ, Array.replicate_zero, List.push_toArray, List.append_toArray, List.nil_append, List.cons_append]
    gi_wp2_with fail
    refine ⟨trivial, (callsIn_wide.2 (HSF.out _)).mono ?_⟩
    rintro e w1 ⟨rfl, rfl⟩
    have hsz1 : (w.alloc (.cells #[.int .i64 0, .int .i64 0, .slice none 0 0] 32)).heap.size = w.heap.size + 1 := by simp
    gi_wp2_with fail
    obtain ⟨W0, hW0⟩ : ∃ W0, W0 = (w.alloc (.cells #[.int .i64 0, .int .i64 0, .slice none 0 0] 32)).alloc (.cells #[.slice none 0 0] 55) := ⟨_, rfl⟩
    have hs0 : W0.heap.size = w.heap.size + 2 := by rw [hW0]; simp
    have hst : BdHas w [] (allP N H (l.take 0)) W0 := by
      refine ⟨⟨.slice none 0 0, ?_, World.ownsRow_nil _ _ _ _, fun g e => by cases e⟩, ?_, ?_⟩
      · rw [hW0]
        have h := Boxed.new (w.alloc (.cells #[.int .i64 0, .int .i64 0, .slice none 0 0] 32)) 55 (.slice none 0 0)
        rwa [World.size_alloc] at h
      · rw [hW0]; exact HZ0.out.grow (growB _ _)
      · rw [hW0]; exact HGZ.out.of_below (growB _ _)
    have HST := hidden hst
    rw [← hW0]
    clear hW0 hst hmin hmul hmax
    refine wpIn_loop (BdRel A c B H N l w W0.heap.size) (fun a _ => l.length - (intOf (a.tmps.getD 27 undef)).toNat) ?_ ?_
    · exact ⟨0, _, _, _, _, _, _, _, _, _, _, _, _, _, _, _, _, _, _, _, _, _, _, _, _, _, _, _, _, _, _, _, _, _, _, _, _, _, [], Nat.zero_le _, rfl, trivial, Nat.le_refl _, HST.out⟩
    · clear HST
      rintro a wr ⟨k, u2, u3, u8, u9, u10, u11, u12, u13, u14, u15, u16, u17, u18, u19, u20, u21, u22, u23, u24, u28, u29, u30, u31, u32, u33, u34, u35, u36, u37, u38, u39, u40, u41, u42, u43, u44, u45, ds, hk, rfl, hM, hsW, hhas⟩
      have HM := hidden hM
      have HS := hidden hsW
      have HH := hidden hhas
      clear hM hsW hhas
      by_cases hlt : k < l.length
      · obtain ⟨A', c', he, _, hcell⟩ := HR.out.grow (show Grows w wr from HH.out.2.2)
        injection he with e1 e2 e3
        subst e1 e3
        obtain ⟨b, off, rfl, hcell2⟩ := hcell (by omega)
        obtain ⟨x, hx⟩ : ∃ x, l[k]? = some x := ⟨_, List.getElem?_eq_getElem hlt⟩
        obtain ⟨c1, c2, c3⟩ := hcell2 k x hx
        have hd1 : decide (k < l.length) = true := by simpa using hlt
        have HXV := hidden (validL_at HVL.out hx)
        have HTK := hidden (allP_take (n := N) (m := H) hx)
        have HPR := hidden (fun W => probes_any x H N W HXV.out)
        unfold Val.v at HPR
        have HBN := hidden (show (allP N H (l.take k)).length + 11 ≤ 100000 by
          rw [allP_length, List.length_take]
          have h1 := HH1.out
          have h2 := HLL.out
          have h3 : min k l.length * H ≤ 4096 * 11 := Nat.mul_le_mul (by omega) h1
          omega)
        obtain ⟨P, hP⟩ : ∃ P, P = allP N H (l.take k) := ⟨_, rfl⟩
        rw [← hP] at HTK HBN HH
        clear hP hcell hcell2 e2 hx
        gi_wp2_with ((with_reducible refine at_svI rfl _ _ rfl ?_); refine wpListIn_store_new15 rfl _ _ rfl wr rfl rfl _ _ _ rfl ?_; intro W1 hrW hgW hsW; have k1 := (rowCells hrW).1; have k2 := (rowCells hrW).2.1; have k3 := (rowCells hrW).2.2; have HG1 := hidden hgW; clear hrW hgW hsW c1 c2 c3)
        clear k1 k2 k3
        refine ⟨trivial, (callsIn_wide.2 (HPR.out W1)).mono ?_⟩
        rintro e w5 ⟨b4, b7, b8, b5, rfl, hpd, ⟨g1, g2, g3, g4'⟩, g5⟩
        gi_wp2_with fail
        have l4 := hpd.many.lt
        have l7 := hpd.hash.lt
        have l8 := hpd.step.lt
        have l5 := hpd.size.lt
        have hL : ∀ k ∈ [b4, b7, b8, b5], k < w5.heap.size := by
          intro k hk
          simp only [List.mem_cons, List.not_mem_nil, or_false] at hk
          omega
        have hL2 : ∀ k ∈ [b4, b7, b8, b5], W1.heap.size ≤ k := by
          intro k hk
          simp only [List.mem_cons, List.not_mem_nil, or_false] at hk
          omega
        have HL := hidden hL
        have HL2 := hidden hL2
        have hw15 := g5.size
        have hw01 := HG1.out.size
        have hh5 : BdHas w [b4, b7, b8, b5] P w5 := ((HH.out.grow HG1.out).more hL2).grow g5
        have hm5 : Marks W0.heap.size w5.heap.size w5 ds := HM.out.others (by omega) (keepsFrom_grows (HG1.out.of_below g5))
        have HBW := hidden (show w.heap.size + 2 ≤ w5.heap.size by have := HS.out; omega)
        have HLW := hidden (show w.heap.size + 2 ≤ W1.heap.size by have := HS.out; omega)
        have HS5 := hidden (show W0.heap.size ≤ w5.heap.size by have := HS.out; omega)
        have HG5 := hidden g5
        clear l4 l7 l8 l5 g1 g2 g3 g4' g5
        have hB0 : w.heap.size ≤ w5.heap.size := by have := HBW.out; omega
        refine wpIn_rangeFunc_ownG rfl (by omega) (gf := 50) (lb := #[.pointer (some ⟨b4, 0, none⟩), .pointer (some ⟨b7, 0, none⟩), .pointer (some ⟨b8, 0, none⟩), .pointer (some ⟨b5, 0, none⟩)]) rfl trivial (enters_of Try.func50 (by kernel_rfl) rfl)
          (probes1_stops 49 (hA x) (gA x) H N b4 b7 b8 b5 w5 hH1 (.inr (by have := HN0.out; omega)) hN1 (hA_lt x) (gA_lt x) hpd) KeepL.t (KeepL.b hL) (Below.refl _ _) (fun _ => rfl)
          (fun pre W => BdHas w [b4, b7, b8, b5] (P ++ pre.map Fin.val) W ∧ w5.heap.size ≤ W.heap.size ∧ Marks W0.heap.size w5.heap.size W ds)
          (fun _ _ _ => False)
          (OwnFrom.and (BdHas.own (fun pre => P ++ pre.map Fin.val) hB0) (OwnFrom.and (fun _ X Y row hs hg _ => Nat.le_trans hs hg.size) marks_own))
          (fun _ _ _ _ _ hs _ _ => hs)
          ⟨by simpa using hh5, Nat.le_refl _, hm5⟩
          (fun j : Fin 65536 => { tmps := #[.slice (some ⟨b, off, none⟩) l.length c, .int .i64 (B : Int), u2, u3, .pointer (some ⟨w.heap.size, 0, none⟩), .int .i64 (H : Int), .int .i64 (N : Int), .pointer (some ⟨w.heap.size + 1, 0, none⟩), u8, .pointer (some ⟨wr.heap.size, 0, none⟩), .int .i64 (j.val : Int), u11, u12, u13, u14, u15, u16, u17, u18, u19, u20, u21, u22, u23, u24, .slice (some ⟨b, off, none⟩) l.length c, .int .i64 (l.length : Int), .int .i64 (k : Int), .bool true, .pointer (some ⟨b, off + k * 3, none⟩), .agg #[.int .i64 x.k, .int .i64 x.n, .string x.t], .agg #[.int .i64 x.k, .int .i64 x.n, .string x.t], .int .i64 (H : Int), .int .i64 (N : Int), .func (.func 50) #[] #[.pointer (some ⟨b4, 0, none⟩), .pointer (some ⟨b7, 0, none⟩), .pointer (some ⟨b8, 0, none⟩), .pointer (some ⟨b5, 0, none⟩)], .int .i64 (j.val : Int), u36, u37, u38, u39, u40, u41, u42, u43, u44, u45], defers := [] }) ?assign ?body ?done ?stop
        case assign =>
          intro l2 j W2 K hK
          gi_wp2
          exact hK
        case body =>
          rintro l2 pre j W2 ⟨⟨⟨sv, hbx, hown, hnl⟩, hrz, hbl⟩, hsz, hmk⟩ hlen
          have hc0 := hbx.cell
          obtain ⟨i0, hi, hz0, hz1, hz2⟩ := info_parts infoI15
          have HBX := hidden hbx
          have HOW := hidden hown
          have HRZ := hidden hrz
          have HBL := hidden hbl
          have HMK := hidden hmk
          have HSZ := hidden hsz
          have HNL := hidden hnl
          have HLN := hidden hlen
          have hln : (P ++ pre.map Fin.val).length + 1 ≤ 100000 := by
            rw [List.length_append, List.length_map]
            have := HBN.out
            omega
          obtain ⟨Q, hQ⟩ : ∃ Q, Q = P ++ pre.map Fin.val := ⟨_, rfl⟩
          have HQ := hidden hQ
          rw [← hQ] at HOW hln
          clear hbx hown hrz hbl hmk hnl hlen hQ hsz
          gi_wp2_with (gi_at_builtin; refine wpListIn_append_own_at _ rfl _ _ 55 rfl w.heap.size 3 i0 (.int .i64 0) 1 8 Try.underlying55 hi hz0 hz1 hz2 rfl (by decide) _ _ _ rfl (HOW.out.alloc _) ⟨W2.heap.size, 0, none⟩ 1 1 [.int .i64 (j.val : Int)] rfl rfl (cell_one_new _ _ _) (by simp [Value.oneCell']) (by unfold maxLen; omega) (by omega) (by have := HBL.out.size; simp; omega) ?_; intro v' w1 hown' hgrow _ hat; obtain ⟨g', cap', rfl⟩ := ownsRow_succ hown'; obtain ⟨hv1, hv2, hr2, hk2, hb2⟩ := HBX.out.appended (by decide) HOW.out HBL.out.size (Nat.le_succ _) hown' hgrow; have hc1 := hv1.cell; have hf1 := hv1.frozen)
          have hnew : ∀ g, Value.ownBlock (.slice (some ⟨g', 0, none⟩) (Q.length + 1) cap') = some g → g ∉ [b4, b7, b8, b5] := by
            intro g hg hm
            rcases hat with e | e
            · exact HNL.out g (e.symm.trans hg) hm
            · rw [e] at hg
              have e2 : (W2.alloc (.cells #[.int .i64 (j.val : Int)] 3)).heap.size = g := by simpa using hg
              rw [World.size_alloc] at e2
              have h1 := HL.out g hm
              have h2 := HSZ.out
              omega
          have hkl : KeepL [b4, b7, b8, b5] W2 (w1.setCell ⟨w.heap.size + 1, 0, none⟩ (.slice (some ⟨g', 0, none⟩) (Q.length + 1) cap')) := by
            intro g hm
            have h1 := HL.out g hm
            have h2 := HSZ.out
            have h3 := HL2.out g hm
            have h4 := HLW.out
            refine (Below.heap_setCell _ _ _ _ (by show g ≠ w.heap.size + 1; omega)).trans ((hgrow.block g (by simp; omega) fun e => HNL.out g e.symm hm).trans (Below.heap_alloc _ _ _ (by omega)))
          have e : P ++ (pre ++ [j]).map Fin.val = Q ++ [j.val] := by rw [HQ.out]; simp
          refine ⟨hk2.from _, hkl, ⟨⟨_, hv2, ?_, hnew⟩, ?_, HBL.out.trans hb2⟩, Nat.le_trans HSZ.out hk2.size, HMK.out.others (Nat.le_refl _) (hk2.from _)⟩
          · rw [e, List.length_append, ← intsN_one]
            exact hr2
          · refine Row.set_other ?_ (show w.heap.size + 1 ≠ w.heap.size by omega) _
            exact (hgrow.block _ (by have := HRZ.out.lt; simp; omega) (row_not_own HRZ.out HOW.out (by decide))).trans ((Below.heap_alloc _ _ _ HRZ.out.lt).trans HRZ.out)
        case done =>
          rintro D ys W2 hD hys ⟨hh, hsz, hmk⟩ hdd
          have e : P ++ ys.map Fin.val = allP N H (l.take (k + 1)) := by rw [HTK.out, hys]; rfl
          rw [e] at hh
          have HH2 := hidden hh
          have HMK := hidden hmk
          have HSZ := hidden hsz
          have HDD := hidden hdd
          have HDG := hidden hD
          clear hh hsz hmk hdd hys e hD
          gi_wp2
          refine ⟨⟨k + 1, _, _, _, _, _, _, _, _, _, _, _, _, _, _, _, _, _, _, _, _, _, _, _, _, _, _, _, _, _, _, _, _, _, _, _, _, _, _, hlt, rfl, ?_, ?_, HH2.out.less⟩, ?_⟩
          · have hDl := (Array.getElem?_eq_some_iff.1 HDD.out).1
            refine ⟨⟨D, rfl, ?_, hDl, HDD.out, fun d hd e => ?_⟩, HMK.out.others HSZ.out (KeepsFrom.refl _ _)⟩
            · have := HS5.out; have := HDG.out; omega
            · have h1 := HMK.out.lt d hd D e
              have h2 := HDG.out
              omega
          · have := HS5.out; have := HSZ.out; omega
          · simp [intOf]; omega
        case stop =>
          rintro D c pre W2 _ _ h _
          exact h.elim
      · have hke : k = l.length := by omega
        have htl : l.take k = l := by rw [hke, List.take_length]
        have hd1 : decide (k < l.length) = false := by simpa using hlt
        obtain ⟨⟨sv, hbx, hown, _⟩, hrz, hbl⟩ := HH.out
        rw [htl] at hown
        obtain ⟨P, hP⟩ : ∃ P, P = allP N H l := ⟨_, rfl⟩
        have HPB := hidden (show ∀ x ∈ P, x < N from by rw [hP]; exact fun x hx => allP_lt (by have := HN0.out; omega) hx)
        have HPL := hidden (show P.length ≤ 100000 by
          rw [hP, allP_length]
          have h1 := HH1.out
          have h2 := HLL.out
          have h3 : l.length * H ≤ 4096 * 11 := Nat.mul_le_mul h2 h1
          omega)
        have HFW2 := hidden (show buildW bits l = pack N (inL (intsN P)) by rw [HFW.out, hP]; rfl)
        rw [← hP] at hown
        have HRD := hidden (Reads.of_own hown)
        have HOF := hidden (of_any (N : Int) sv (intsN P) wr HRD.out (by rw [intsN_length]; have := HPL.out; omega) (fun y hy => by
          obtain ⟨z, hz, rfl⟩ := List.mem_map.1 hy
          have h1 := HPB.out z hz
          have h2 := HN1.out
          omega) (by omega) (by have := HN1.out; omega))
        rw [newN_nat (show N ≤ 1048576 by have := HN1.out; omega)] at HOF
        have HRZ := hidden hrz
        have HBL := hidden hbl
        have hc0 := hbx.cell
        have HPK := hidden (pack_length N (inL (intsN P)))
        obtain ⟨WS, hWS⟩ : ∃ WS, WS = pack N (inL (intsN P)) := ⟨_, rfl⟩
        rw [← hWS] at HOF HFW2 HPK
        clear hown hbx hrz hbl hP htl hke hWS hlt
        gi_wp2_with fail
        refine ⟨trivial, (callsIn_wide.2 HOF.out).mono ?_⟩
        rintro e w6 ⟨g, hg6, rfl, hrow6, g6⟩
        have HR6 := hidden hrow6
        have HZ6 := hidden (HRZ.out.grow g6)
        have HB6 := hidden (HBL.out.trans (g6.mono HBL.out.size))
        have HM6 := hidden (HM.out.others g6.size (keepsFrom_grows g6))
        have HNG := hidden (show g ≠ w.heap.size by have := HBL.out.size; have := HRZ.out.lt; omega)
        clear hrow6 hg6 g6 hc0
        gi_wp2_with ((with_reducible refine at_sfI rfl _ _ rfl ?_); refine wpListIn_store_bf rfl _ _ rfl w6 rfl w.heap.size rfl H N _ _ _ rfl _ _ _ HZ6.out ?_; intro W8 hr hg hrow hko; have HRW := hidden hr; have HG8 := hidden (hg _ HB6.out (Nat.le_refl _)); have HR8 := hidden (hrow _ _ _ HNG.out HR6.out); have HK8 := hidden hko; clear hr hg hrow hko)
        have hm8 : Marks W0.heap.size W8.heap.size W8 ds := HM6.out.others HK8.out.size (HK8.out.from _)
        have hs0' : w.heap.size ≤ W0.heap.size := by omega
        refine leave_marksR (s := W0.heap.size) (t := W8.heap.size) (J := fun W => Row W w.heap.size 32 [.int .i64 (H : Int), .int .i64 (N : Int), .slice (some ⟨g, 0, none⟩) WS.length WS.length] ∧ Row W g 53 (ucells WS) ∧ Below w.heap.size w W) ?_ ?_ ds W8 hm8 ⟨HRW.out, HR8.out, HG8.out⟩
        · rintro W ⟨j1, j2, j3⟩
          refine ⟨_, results_bf1 rfl _ _ _ _ _ _ rfl j1, _, rfl, ?_, j3⟩
          rw [HFH.out, HFN.out, HFW2.out]
          refine ⟨_, rfl, j2.reads (Nat.le_refl _), ?_⟩
          rw [HPK.out]
          have := HN1.out
          unfold nw
          omega
        · rintro u X Y row ⟨j1, j2, j3⟩ hg hr
          have keep : ∀ {z e ys}, Row X z e ys → Row Y z e ys := fun {z e ys} hz => by
            refine (hg.block z hz.lt fun ee => ?_).trans hz
            obtain ⟨o, ho, hc⟩ := (hr z ee.symm).2
            have h0 : X.heap[z]? = _ := hz
            rw [h0] at ho
            injection ho with ho
            subst ho
            cases hc
          exact ⟨keep j1, keep j2, j3.grown hg j3.size (fun k e => Nat.le_trans hs0' (hr k e).1)⟩
end Go.Proofs.Ytgegjoggiadgbaa
/-
  Shaken: what the claims of this seat need of this text. No condition.
-/
namespace Go.Proofs.Ytgegjoggiadgbaa
set_option maxRecDepth 8000
open Go.RowKit
set_option linter.unusedVariables false
set_option linter.unusedSimpArgs false
def one15 : Val := ⟨2, 1, ⟨#[]⟩⟩
theorem one15_valid : validV one15.k one15.n one15.t = true := by decide +kernel
theorem one15_any (w : World) : Calls Try.prog 24 #[] w fun e w' => e = .returned one15.v ∧ Grows w w' := by
  go_enter Try.func24, Try.ntmps24
  go_wp2_with fail
  exact bodyPost_ret (results_cell_row rfl _ _ w.heap.size 24 #[.int .i64 2, .int .i64 1, .string ⟨#[]⟩] (0, 0) _ rfl (Row.new w 24 #[.int .i64 2, .int .i64 1, .string ⟨#[]⟩] _ rfl) Try.underlying24 rfl size_val) rfl ⟨rfl, growB _ _⟩
def VlRel (w : World) (l : List Val) (i : Value) (wr : World) : Prop := ∃ j : Nat, j ≤ l.length ∧ i = .int .i64 (j : Int) ∧ validL (l.take j) = true ∧ Grows w wr
set_option maxHeartbeats 1000000 in
theorem valid15_any (v : Value) (l : List Val) (w : World) (hr : ReadsV w v l) (hl : l.length ≤ 9223372036854775806) :
    Calls Try.prog 8 #[v] w fun e w' => e = .returned (.bool (validL l && decide (l.length ≤ 200))) ∧ Grows w w' := by
  have HR := hidden hr
  obtain ⟨A, c, rfl, hle, hxx⟩ := hr
  clear hxx
  go_enter Try.func8, Try.ntmps8
  go_wp2_with fail
  go_loopw [3] (fun i wr => VlRel w l i wr) (fun i _ => l.length - (intOf i).toNat)
  case atStart => exact ⟨0, Nat.zero_le _, rfl, rfl, Below.refl _ _⟩
  case round =>
    obtain ⟨j, hj, rfl, hvl, hb⟩ := hrel
    have HB := hidden hb
    have HVL := hidden hvl
    clear hb hvl
    by_cases hlt : j < l.length
    · obtain ⟨A', c', he, _, hcell⟩ := HR.out.grow HB.out
      injection he with e1 e2 e3
      subst e1 e3
      obtain ⟨b, off, rfl, hcell2⟩ := hcell (by omega)
      obtain ⟨x, hx⟩ : ∃ x, l[j]? = some x := ⟨_, List.getElem?_eq_getElem hlt⟩
      obtain ⟨c1, c2, c3⟩ := hcell2 j x hx
      have hd : decide (j < l.length) = true := by simpa using hlt
      have hj0 : (0 : Int) ≤ (j : Int) := by omega
      have hj1 : (j : Int) < (l.length : Int) := by omega
      have HST := hidden (validL_step hx)
      have HVV := hidden (fun W => rvvalid_any x.k x.n x.t W)
      have HFA := hidden (show validV x.k x.n x.t = false → validL l = false from fun h => by
        unfold validL
        rw [List.all_eq_false]
        exact ⟨x, List.mem_of_getElem? hx, by rw [h]; simp⟩)
      have HLT := hidden hlt
      clear hcell hcell2 e2 hx
      go_wp2_with fail
      refine (HVV.out _).mono ?_
      rintro e w3 ⟨rfl, g3⟩
      have HB3 := hidden (HB.out.of_below g3)
      clear g3 c1 c2 c3
      cases hv : validV x.k x.n x.t
      · have HFF := hidden (HFA.out hv)
        go_wp2_with fail
        go_ret
        exact ⟨by rw [HFF.out]; rfl, HB3.out⟩
      · have HT := hidden (show validL (l.take (j + 1)) = true by rw [HST.out, HVL.out, hv]; rfl)
        go_wp2_with fail
        go_roundw
        case rel => exact ⟨j + 1, HLT.out, by go_num, HT.out, HB3.out⟩
        case measure => have := HLT.out; simp [intOf]; omega
    · have hke : j = l.length := by omega
      have hd : decide (j < l.length) = false := by simpa using hlt
      have HT := hidden (show validL l = true by have := HVL.out; rwa [hke, List.take_length] at this)
      clear hke
      go_wp2_with fail
      go_ret
      refine ⟨?_, HB.out⟩
      rw [HT.out]
      simp
      omega
theorem lv_h : buildH 8 = 5 := by decide
theorem lv_n (k : Nat) (hk : k ≤ 8) : buildN 8 k = 64 := by
  have e : buildN 8 k = sizeN (k * 8) := rfl
  rw [e]
  exact dbl_stop (by omega)
theorem lv_w0 : buildW 8 [] = [0] := by decide +kernel
theorem lv_enc : encF15 5 64 [0] = [5, 64, 0, 0, 0, 0, 0, 0, 0, 0] := by decide +kernel
theorem lv_dec : decF15 [5, 64, 0, 0, 0, 0, 0, 0, 0, 0] 0 = (5, 64, [0], 10, 0) := by decide +kernel
theorem lv_bad : decF15 [1, 65] 0 = (0, 0, [], 0, 4) := by decide +kernel
theorem probesN_cons (h g n m : Nat) : probesN h g n (m + 1) = posN h g n 0 :: (List.range m).map fun k => posN h g n (k + 1) := by
  unfold probesN
  rw [List.range_succ_eq_map]
  simp
theorem lv_may0 : mayB 5 64 [0] one15 = false := by
  have h0 : ∀ p, mem 64 [0] p = false := by
    intro p
    have hp : ([0] : List UInt64) = pack 64 (fun _ => false) := by decide +kernel
    rw [hp, mem_pack, Bool.and_false]
  unfold mayB posV
  generalize hA one15 = h
  generalize gA one15 = g
  rw [show (5 : Nat) = 4 + 1 from rfl, probesN_cons, List.all_cons, h0, Bool.false_and]
theorem lv_may1 : mayB 5 64 (buildW 8 [one15]) one15 = true := by
  have e : buildW 8 [one15] = wordsF 64 5 [one15] := by
    show wordsF (buildN 8 1) (buildH 8) [one15] = _
    rw [lv_n 1 (by omega), lv_h]
  rw [e]
  exact mayB_in (by omega) (by simp)
theorem lv_may2 : mayB 0 0 [] one15 = true := rfl
theorem lv_valid : validFB 5 64 [0] = true := validFB_iff.2 ⟨by decide, by omega, by omega, okW_even (by decide) (by decide)⟩
theorem lv_okW : okW 64 [0] := okW_even (by decide) (by decide)
theorem lv_okG : okW 64 (buildW 8 [one15]) := by
  have e : buildW 8 [one15] = wordsF 64 5 [one15] := by
    show wordsF (buildN 8 1) (buildH 8) [one15] = _
    rw [lv_n 1 (by omega), lv_h]
  rw [e]
  exact okW_pack _ _
theorem lv_validG : validFB 5 64 (buildW 8 [one15]) = true := validFB_iff.2 ⟨by decide, by omega, by omega, lv_okG⟩
theorem lv_valid0 : validFB 0 0 [] = true := validFB_iff.2 ⟨rfl, by omega, by omega, okW_even (by decide) (by decide)⟩
theorem lv_bad1 : validFB 1 0 [] = false := rfl
theorem lv_union : (pack 64 fun j => mem 64 [0] j || mem 64 (buildW 8 [one15]) j) = buildW 8 [one15] := by
  have h0 : ∀ p, mem 64 [0] p = false := by
    intro p
    have hp : ([0] : List UInt64) = pack 64 (fun _ => false) := by decide +kernel
    rw [hp, mem_pack, Bool.and_false]
  have e : (fun j => mem 64 [0] j || mem 64 (buildW 8 [one15]) j) = mem 64 (buildW 8 [one15]) := by
    funext j
    rw [h0, Bool.false_or]
  rw [e]
  exact pack_mem lv_okG
theorem zeroF (w : World) : IsF w (.agg #[.int .i64 0, .int .i64 0, .slice none 0 0]) 0 0 [] := ⟨_, rfl, ⟨none, 0, rfl, Nat.le_refl _, fun h => absurd h (by simp [ucells])⟩, by simp⟩
theorem nilV (w : World) : ReadsV w (.slice none 0 0) [] := ⟨none, 0, rfl, Nat.le_refl _, fun h => absurd h (by simp)⟩
end Go.Proofs.Ytgegjoggiadgbaa
/-
  Shaken: what the claims of this seat need of this text. No condition.
-/
namespace Go.Proofs.Ytgegjoggiadgbaa
open Go.RowKit
set_option linter.unusedVariables false
set_option linter.unusedSimpArgs false
theorem agg_new (w : World) (a b c : Value) : Row (w.alloc (.cells #[a, b, c] 32)) w.heap.size 32 [a, b, c] := Row.new w 32 #[a, b, c] [a, b, c] rfl
theorem lv_cells : bcells [1, 65] = [.int .u8 1, .int .u8 65] := rfl
theorem lv_bytes (W : World) : IsBytes (W.alloc (.cells #[.int .u8 1, .int .u8 65] 5)) (.slice (some ⟨W.heap.size, 0, none⟩) 2 2) [1, 65] :=
  IsBytes.of_row (Row.new W 5 #[.int .u8 1, .int .u8 65] (bcells [1, 65]) (by rw [lv_cells])) 2 2 rfl
set_option maxRecDepth 20000 in
set_option maxHeartbeats 8000000 in
theorem lives15_any (w : World) : Calls Try.prog 10 #[] w fun e w' => e = .returned (.bool true) ∧ Grows w w' := by
  go_enter Try.func10, Try.ntmps10
  go_wp2_with fail
  refine (bbuild_any (.slice none 0 0) [] 8 _ (nilV _) rfl (by simp) ⟨by decide, by decide⟩).mono ?_
  rintro e w1 ⟨vf, rfl, hif, g1⟩
  have hif : IsF w1 vf 5 64 [0] := by rw [lv_h, lv_n _ (by simp), lv_w0] at hif; exact hif
  obtain ⟨uf, rfl, rf, _⟩ := hif
  obtain ⟨Af, cf, rfl, _⟩ := rf.slice_
  have rf : Reads w1 (.slice Af 1 cf) (ucells [0]) := rf
  obtain ⟨A', c', he, _, hcell⟩ := rf
  injection he with e1 e2 e3
  subst e1 e3
  obtain ⟨bw, ow, rfl, hcw⟩ := hcell (by simp [ucells])
  have rf : Reads w1 (.slice (some ⟨bw, ow, none⟩) 1 cf) (ucells [0]) := ⟨_, cf, rfl, by assumption, hcell⟩
  clear hcell hcw e2
  have HWf := hidden rf
  have HG := hidden (show Grows w w1 from g1)
  rw [show (ucells [0]).length = 1 from rfl]
  clear g1 rf
  go_wp2_with fail
  obtain ⟨W1, hW1⟩ : ∃ W, W = w1.alloc (.cells #[.int .i64 5, .int .i64 64, .slice (some ⟨bw, ow, none⟩) 1 cf] 32) := ⟨_, rfl⟩
  have HG1 := hidden (show Grows w W1 by rw [hW1]; exact HG.out.of_below (growB _ _))
  have Hf := hidden (show Row W1 w1.heap.size 32 [.int .i64 5, .int .i64 64, .slice (some ⟨bw, ow, none⟩) 1 cf] by rw [hW1]; exact agg_new _ _ _ _)
  replace HWf := hidden (show Reads W1 (.slice (some ⟨bw, ow, none⟩) 1 cf) (ucells [0]) by rw [hW1]; exact HWf.out.grow (growB _ _))
  have hs1 : W1.heap.size = w1.heap.size + 1 := by rw [hW1]; simp
  rw [← hW1]
  clear hW1 HG
  have HG := hidden HG1.out
  clear HG1
  refine (one15_any W1).mono ?_
  rintro e w2 ⟨rfl, g2⟩
  replace HWf := hidden (HWf.out.grow g2)
  replace Hf := hidden (Hf.out.grow g2)
  replace HG := hidden (HG.out.of_below g2)
  clear g2
  unfold one15 Val.v
  go_wp2_with fail
  refine (bbuild_any (.slice (some ⟨w2.heap.size, 0, none⟩) 1 1) [one15] 8 _ (SlV.new w2 one15) (by decide +kernel) (by simp) ⟨by decide, by decide⟩).mono ?_
  rintro e w3 ⟨vg, rfl, hig, g3⟩
  have g3' : Grows w2 w3 := Grows.of_below (growB _ _) g3
  obtain ⟨wg, hwg⟩ : ∃ wg, wg = buildW 8 [one15] := ⟨_, rfl⟩
  have hig : IsF w3 vg 5 64 wg := by rw [lv_h, lv_n _ (by simp), ← hwg] at hig; exact hig
  have HWG := hidden hwg
  have hlg : wg.length = 1 := by rw [hwg]; exact lv_okG.1
  obtain ⟨ug, rfl, rg, _⟩ := hig
  obtain ⟨Ag, cg, rfl, _⟩ := rg.slice_
  rw [ucells_length, hlg] at rg ⊢
  have HWg := hidden rg
  have HLG := hidden hlg
  replace HWf := hidden (HWf.out.grow g3')
  replace Hf := hidden (Hf.out.grow g3')
  replace HG := hidden (HG.out.of_below g3')
  clear g3 g3' rg hwg hlg
  have f0 := (Hf.out.grow (growB w3 (.cells #[.int .i64 5, .int .i64 64, .slice Ag 1 cg] 32))).cell 0
  have f1 := (Hf.out.grow (growB w3 (.cells #[.int .i64 5, .int .i64 64, .slice Ag 1 cg] 32))).cell 1
  have f2 := (Hf.out.grow (growB w3 (.cells #[.int .i64 5, .int .i64 64, .slice Ag 1 cg] 32))).cell 2
  simp only [List.getElem?_cons_succ, List.getElem?_cons_zero] at f0 f1 f2
  go_wp2_with fail
  clear f0 f1 f2
  obtain ⟨W3, hW3⟩ : ∃ W, W = w3.alloc (.cells #[.int .i64 5, .int .i64 64, .slice Ag 1 cg] 32) := ⟨_, rfl⟩
  have HG3 := hidden (show Grows w W3 by rw [hW3]; exact HG.out.of_below (growB _ _))
  have Hg := hidden (show Row W3 w3.heap.size 32 [.int .i64 5, .int .i64 64, .slice Ag 1 cg] by rw [hW3]; exact agg_new _ _ _ _)
  replace HWf := hidden (show Reads W3 (.slice (some ⟨bw, ow, none⟩) 1 cf) (ucells [0]) by rw [hW3]; exact HWf.out.grow (growB _ _))
  replace HWg := hidden (show Reads W3 (.slice Ag 1 cg) (ucells wg) by rw [hW3]; exact HWg.out.grow (growB _ _))
  replace Hf := hidden (show Row W3 w1.heap.size 32 [.int .i64 5, .int .i64 64, .slice (some ⟨bw, ow, none⟩) 1 cf] by rw [hW3]; exact Hf.out.grow (growB _ _))
  have hs3 : W3.heap.size = w3.heap.size + 1 := by rw [hW3]; simp
  rw [← hW3]
  clear hW3 HG
  have HG := hidden HG3.out
  clear HG3
  refine (bencode_any (.agg #[.int .i64 5, .int .i64 64, .slice (some ⟨bw, ow, none⟩) 1 cf]) 5 64 [0] W3 ⟨_, rfl, HWf.out, by simp⟩ (by omega) (by omega) (by simp)).mono ?_
  rintro e w4 ⟨vb, rfl, hob, g4⟩
  rw [lv_enc] at hob
  have HB := hidden (IsBytes.of_own hob)
  obtain ⟨Ab, cb, rfl, hbc⟩ := IsBytes.of_own hob
  obtain ⟨bb, ob, rfl, hcb⟩ := hbc (by simp)
  have hb0 := hcb 0 (by simp)
  have hb1 := hcb 1 (by simp)
  have HB0 := hidden (show w4.cell? ⟨bb, ob, none⟩ = some (.int .u8 5) from hb0)
  have HB1 := hidden (show w4.cell? ⟨bb, ob + 1, none⟩ = some (.int .u8 64) from hb1)
  clear hcb hb0 hb1
  replace HWf := hidden (HWf.out.grow g4)
  replace HWg := hidden (HWg.out.grow g4)
  replace Hf := hidden (Hf.out.grow g4)
  replace Hg := hidden (Hg.out.grow g4)
  replace HG := hidden (HG.out.of_below g4)
  clear g4 hob hbc
  simp only [List.length_cons, List.length_nil, Nat.reduceAdd] at HB ⊢
  go_wp2_with fail
  refine (bdecode_any (.slice (some ⟨bb, ob, none⟩) 10 cb) [5, 64, 0, 0, 0, 0, 0, 0, 0, 0] 0 w4 HB.out (by simp) ⟨by decide, by decide⟩).mono ?_
  rw [lv_dec]
  rintro e w5 ⟨vh, rfl, hih, g5⟩
  simp only [] at hih ⊢
  obtain ⟨uh, rfl, rh, _⟩ := hih
  obtain ⟨Ah, ch, rfl, _⟩ := rh.slice_
  have rh : Reads w5 (.slice Ah 1 ch) (ucells [0]) := rh
  have HWh := hidden rh
  rw [show (ucells [0]).length = 1 from rfl]
  replace HB := hidden (HB.out.grow g5)
  replace HWf := hidden (HWf.out.grow g5)
  replace HWg := hidden (HWg.out.grow g5)
  replace Hf := hidden (Hf.out.grow g5)
  replace Hg := hidden (Hg.out.grow g5)
  replace HG := hidden (HG.out.of_below g5)
  clear g5 rh
  have f0 := (Hf.out.grow (growB w5 (.cells #[.int .i64 5, .int .i64 64, .slice Ah 1 ch] 32))).cell 0
  have f1 := (Hf.out.grow (growB w5 (.cells #[.int .i64 5, .int .i64 64, .slice Ah 1 ch] 32))).cell 1
  have f2 := (Hf.out.grow (growB w5 (.cells #[.int .i64 5, .int .i64 64, .slice Ah 1 ch] 32))).cell 2
  have g0 := (Hg.out.grow (growB w5 (.cells #[.int .i64 5, .int .i64 64, .slice Ah 1 ch] 32))).cell 0
  have g1 := (Hg.out.grow (growB w5 (.cells #[.int .i64 5, .int .i64 64, .slice Ah 1 ch] 32))).cell 1
  have g2 := (Hg.out.grow (growB w5 (.cells #[.int .i64 5, .int .i64 64, .slice Ah 1 ch] 32))).cell 2
  simp only [List.getElem?_cons_succ, List.getElem?_cons_zero] at f0 f1 f2 g0 g1 g2
  go_wp2_with fail
  clear f0 f1 f2 g0 g1 g2
  obtain ⟨W5, hW5⟩ : ∃ W, W = w5.alloc (.cells #[.int .i64 5, .int .i64 64, .slice Ah 1 ch] 32) := ⟨_, rfl⟩
  have HG5 := hidden (show Grows w W5 by rw [hW5]; exact HG.out.of_below (growB _ _))
  have Hh := hidden (show Row W5 w5.heap.size 32 [.int .i64 5, .int .i64 64, .slice Ah 1 ch] by rw [hW5]; exact agg_new _ _ _ _)
  replace HWf := hidden (show Reads W5 (.slice (some ⟨bw, ow, none⟩) 1 cf) (ucells [0]) by rw [hW5]; exact HWf.out.grow (growB _ _))
  replace HWg := hidden (show Reads W5 (.slice Ag 1 cg) (ucells wg) by rw [hW5]; exact HWg.out.grow (growB _ _))
  replace HWh := hidden (show Reads W5 (.slice Ah 1 ch) (ucells [0]) by rw [hW5]; exact HWh.out.grow (growB _ _))
  replace Hf := hidden (show Row W5 w1.heap.size 32 [.int .i64 5, .int .i64 64, .slice (some ⟨bw, ow, none⟩) 1 cf] by rw [hW5]; exact Hf.out.grow (growB _ _))
  replace Hg := hidden (show Row W5 w3.heap.size 32 [.int .i64 5, .int .i64 64, .slice Ag 1 cg] by rw [hW5]; exact Hg.out.grow (growB _ _))
  have hs5 : W5.heap.size = w5.heap.size + 1 := by rw [hW5]; simp
  have HGX5 := hidden (show Grows w5 W5 by rw [hW5]; exact growB _ _)
  rw [← hW5]
  clear hW5 HG
  have HG := hidden HG5.out
  clear HG5
  replace HB := hidden (show IsBytes W5 (.slice (some ⟨bb, ob, none⟩) 10 cb) [5, 64, 0, 0, 0, 0, 0, 0, 0, 0] from by have := HB.out; exact this.grow (show Grows w5 W5 from HGX5.out))
  refine (bunion_any (.agg #[.int .i64 5, .int .i64 64, .slice (some ⟨bw, ow, none⟩) 1 cf]) (.agg #[.int .i64 5, .int .i64 64, .slice Ag 1 cg]) 5 5 64 64 [0] wg W5 ⟨_, rfl, HWf.out, by simp⟩ ⟨_, rfl, HWg.out, by rw [HLG.out]; omega⟩ lv_okW (by rw [HWG.out]; exact lv_okG) (by omega) (by omega)).mono ?_
  rintro e w6 ⟨hu, _⟩
  obtain ⟨vu, rfl, hiu, g6⟩ := hu ⟨rfl, rfl⟩
  have hiu : IsF w6 vu 5 64 wg := by
    have e : (pack 64 fun j => mem 64 [0] j || mem 64 wg j) = wg := by rw [HWG.out]; exact lv_union
    rw [e] at hiu
    exact hiu
  obtain ⟨uu, rfl, ru, _⟩ := hiu
  obtain ⟨Au, cu, rfl, _⟩ := ru.slice_
  rw [ucells_length, HLG.out] at ru ⊢
  have HWu := hidden ru
  replace HB := hidden (HB.out.grow g6)
  replace HWf := hidden (HWf.out.grow g6)
  replace HWg := hidden (HWg.out.grow g6)
  replace HWh := hidden (HWh.out.grow g6)
  replace Hf := hidden (Hf.out.grow g6)
  replace Hg := hidden (Hg.out.grow g6)
  replace Hh := hidden (Hh.out.grow g6)
  replace HG := hidden (HG.out.of_below g6)
  clear g6 ru hu
  have f0 := (Hf.out.grow (growB w6 (.cells #[.int .i64 5, .int .i64 64, .slice Au 1 cu] 32))).cell 0
  have f1 := (Hf.out.grow (growB w6 (.cells #[.int .i64 5, .int .i64 64, .slice Au 1 cu] 32))).cell 1
  have f2 := (Hf.out.grow (growB w6 (.cells #[.int .i64 5, .int .i64 64, .slice Au 1 cu] 32))).cell 2
  simp only [List.getElem?_cons_succ, List.getElem?_cons_zero] at f0 f1 f2
  go_wp2_with fail
  clear f0 f1 f2
  obtain ⟨W6, hW6⟩ : ∃ W, W = w6.alloc (.cells #[.int .i64 5, .int .i64 64, .slice Au 1 cu] 32) := ⟨_, rfl⟩
  have HG6 := hidden (show Grows w W6 by rw [hW6]; exact HG.out.of_below (growB _ _))
  have Hu := hidden (show Row W6 w6.heap.size 32 [.int .i64 5, .int .i64 64, .slice Au 1 cu] by rw [hW6]; exact agg_new _ _ _ _)
  replace HWf := hidden (show Reads W6 (.slice (some ⟨bw, ow, none⟩) 1 cf) (ucells [0]) by rw [hW6]; exact HWf.out.grow (growB _ _))
  replace HWg := hidden (show Reads W6 (.slice Ag 1 cg) (ucells wg) by rw [hW6]; exact HWg.out.grow (growB _ _))
  replace HWh := hidden (show Reads W6 (.slice Ah 1 ch) (ucells [0]) by rw [hW6]; exact HWh.out.grow (growB _ _))
  replace HWu := hidden (show Reads W6 (.slice Au 1 cu) (ucells wg) by rw [hW6]; exact HWu.out.grow (growB _ _))
  replace Hf := hidden (show Row W6 w1.heap.size 32 [.int .i64 5, .int .i64 64, .slice (some ⟨bw, ow, none⟩) 1 cf] by rw [hW6]; exact Hf.out.grow (growB _ _))
  replace Hg := hidden (show Row W6 w3.heap.size 32 [.int .i64 5, .int .i64 64, .slice Ag 1 cg] by rw [hW6]; exact Hg.out.grow (growB _ _))
  replace Hh := hidden (show Row W6 w5.heap.size 32 [.int .i64 5, .int .i64 64, .slice Ah 1 ch] by rw [hW6]; exact Hh.out.grow (growB _ _))
  have hs6 : W6.heap.size = w6.heap.size + 1 := by rw [hW6]; simp
  have HGX6 := hidden (show Grows w6 W6 by rw [hW6]; exact growB _ _)
  rw [← hW6]
  clear hW6 HG
  have HG := hidden HG6.out
  clear HG6
  replace HB := hidden (HB.out.grow HGX6.out)
  refine (bunion_any (.agg #[.int .i64 5, .int .i64 64, .slice (some ⟨bw, ow, none⟩) 1 cf]) (.agg #[.int .i64 0, .int .i64 0, .slice none 0 0]) 5 0 64 0 [0] [] W6 ⟨_, rfl, HWf.out, by simp⟩ (zeroF _) lv_okW ⟨rfl, fun i _ => rfl⟩ (by omega) (by omega)).mono ?_
  rintro e w7 ⟨_, hu⟩
  obtain ⟨vz, rfl, hiz, g7⟩ := hu (by decide)
  obtain ⟨uz, rfl, rz, _⟩ := hiz
  obtain ⟨Az, cz, rfl, _⟩ := rz.slice_
  rw [show (ucells []).length = 0 from rfl]
  replace HB := hidden (HB.out.grow g7)
  replace HWf := hidden (HWf.out.grow g7)
  replace HWg := hidden (HWg.out.grow g7)
  replace HWh := hidden (HWh.out.grow g7)
  replace HWu := hidden (HWu.out.grow g7)
  replace Hf := hidden (Hf.out.grow g7)
  replace Hg := hidden (Hg.out.grow g7)
  replace Hh := hidden (Hh.out.grow g7)
  replace Hu := hidden (Hu.out.grow g7)
  replace HG := hidden (HG.out.of_below g7)
  clear g7 rz hu
  go_wp2_with fail
  obtain ⟨W7, hW7⟩ : ∃ W, W = w7.alloc (.cells #[.int .i64 0, .int .i64 0, .slice Az 0 cz] 32) := ⟨_, rfl⟩
  have HG7 := hidden (show Grows w W7 by rw [hW7]; exact HG.out.of_below (growB _ _))
  have Hz := hidden (show Row W7 w7.heap.size 32 [.int .i64 0, .int .i64 0, .slice Az 0 cz] by rw [hW7]; exact agg_new _ _ _ _)
  replace HWf := hidden (show Reads W7 (.slice (some ⟨bw, ow, none⟩) 1 cf) (ucells [0]) by rw [hW7]; exact HWf.out.grow (growB _ _))
  replace HWg := hidden (show Reads W7 (.slice Ag 1 cg) (ucells wg) by rw [hW7]; exact HWg.out.grow (growB _ _))
  replace HWh := hidden (show Reads W7 (.slice Ah 1 ch) (ucells [0]) by rw [hW7]; exact HWh.out.grow (growB _ _))
  replace HWu := hidden (show Reads W7 (.slice Au 1 cu) (ucells wg) by rw [hW7]; exact HWu.out.grow (growB _ _))
  replace Hf := hidden (show Row W7 w1.heap.size 32 [.int .i64 5, .int .i64 64, .slice (some ⟨bw, ow, none⟩) 1 cf] by rw [hW7]; exact Hf.out.grow (growB _ _))
  replace Hg := hidden (show Row W7 w3.heap.size 32 [.int .i64 5, .int .i64 64, .slice Ag 1 cg] by rw [hW7]; exact Hg.out.grow (growB _ _))
  replace Hh := hidden (show Row W7 w5.heap.size 32 [.int .i64 5, .int .i64 64, .slice Ah 1 ch] by rw [hW7]; exact Hh.out.grow (growB _ _))
  replace Hu := hidden (show Row W7 w6.heap.size 32 [.int .i64 5, .int .i64 64, .slice Au 1 cu] by rw [hW7]; exact Hu.out.grow (growB _ _))
  have hs7 : W7.heap.size = w7.heap.size + 1 := by rw [hW7]; simp
  have HGX7 := hidden (show Grows w7 W7 by rw [hW7]; exact growB _ _)
  rw [← hW7]
  clear hW7 HG
  have HG := hidden HG7.out
  clear HG7
  replace HB := hidden (HB.out.grow HGX7.out)
  rw [← hs7]
  refine (bdecode_any (.slice (some ⟨W7.heap.size, 0, none⟩) 2 2) [1, 65] 0 _ (lv_bytes W7) (by simp) ⟨by decide, by decide⟩).mono ?_
  rw [lv_bad]
  rintro e w8 ⟨vy, rfl, hiy, g8⟩
  simp only [] at hiy ⊢
  have g8' : Grows W7 w8 := Grows.of_below (growB _ _) g8
  obtain ⟨uy, rfl, ry, _⟩ := hiy
  obtain ⟨Ay, cy, rfl, _⟩ := ry.slice_
  rw [show (ucells []).length = 0 from rfl]
  replace HB := hidden (HB.out.grow g8')
  replace HWf := hidden (HWf.out.grow g8')
  replace HWg := hidden (HWg.out.grow g8')
  replace HWh := hidden (HWh.out.grow g8')
  replace HWu := hidden (HWu.out.grow g8')
  replace Hf := hidden (Hf.out.grow g8')
  replace Hg := hidden (Hg.out.grow g8')
  replace Hh := hidden (Hh.out.grow g8')
  replace Hu := hidden (Hu.out.grow g8')
  replace Hz := hidden (Hz.out.grow g8')
  replace HG := hidden (HG.out.of_below g8')
  clear g8 g8' ry
  have hcw : (w8.alloc (.cells #[.int .i64 0, .int .i64 0, .slice Ay 0 cy] 32)).cell? ⟨bw, ow, none⟩ = some (.int .u64 0) := by
    obtain ⟨A', c', he, _, hcell⟩ := HWf.out.grow (growB w8 (.cells #[.int .i64 0, .int .i64 0, .slice Ay 0 cy] 32))
    injection he with e1 e2 e3
    obtain ⟨b, off, e4, hc⟩ := hcell (by simp [ucells])
    rw [← e1] at e4
    injection e4 with e4
    injection e4 with e5 e6
    have h := hc 0 (by simp [ucells])
    rw [← e5, ← e6] at h
    exact h
  have f0 := (Hf.out.grow (growB w8 (.cells #[.int .i64 0, .int .i64 0, .slice Ay 0 cy] 32))).cell 0
  have f1 := (Hf.out.grow (growB w8 (.cells #[.int .i64 0, .int .i64 0, .slice Ay 0 cy] 32))).cell 1
  have f2 := (Hf.out.grow (growB w8 (.cells #[.int .i64 0, .int .i64 0, .slice Ay 0 cy] 32))).cell 2
  simp only [List.getElem?_cons_succ, List.getElem?_cons_zero] at f0 f1 f2
  go_wp2_with fail
  clear f0 f1 f2
  obtain ⟨W8, hW8⟩ : ∃ W, W = w8.alloc (.cells #[.int .i64 0, .int .i64 0, .slice Ay 0 cy] 32) := ⟨_, rfl⟩
  have HG8 := hidden (show Grows w W8 by rw [hW8]; exact HG.out.of_below (growB _ _))
  have Hy := hidden (show Row W8 w8.heap.size 32 [.int .i64 0, .int .i64 0, .slice Ay 0 cy] by rw [hW8]; exact agg_new _ _ _ _)
  replace HWf := hidden (show Reads W8 (.slice (some ⟨bw, ow, none⟩) 1 cf) (ucells [0]) by rw [hW8]; exact HWf.out.grow (growB _ _))
  replace HWg := hidden (show Reads W8 (.slice Ag 1 cg) (ucells wg) by rw [hW8]; exact HWg.out.grow (growB _ _))
  replace HWh := hidden (show Reads W8 (.slice Ah 1 ch) (ucells [0]) by rw [hW8]; exact HWh.out.grow (growB _ _))
  replace HWu := hidden (show Reads W8 (.slice Au 1 cu) (ucells wg) by rw [hW8]; exact HWu.out.grow (growB _ _))
  replace Hf := hidden (show Row W8 w1.heap.size 32 [.int .i64 5, .int .i64 64, .slice (some ⟨bw, ow, none⟩) 1 cf] by rw [hW8]; exact Hf.out.grow (growB _ _))
  replace Hg := hidden (show Row W8 w3.heap.size 32 [.int .i64 5, .int .i64 64, .slice Ag 1 cg] by rw [hW8]; exact Hg.out.grow (growB _ _))
  replace Hh := hidden (show Row W8 w5.heap.size 32 [.int .i64 5, .int .i64 64, .slice Ah 1 ch] by rw [hW8]; exact Hh.out.grow (growB _ _))
  replace Hu := hidden (show Row W8 w6.heap.size 32 [.int .i64 5, .int .i64 64, .slice Au 1 cu] by rw [hW8]; exact Hu.out.grow (growB _ _))
  replace Hz := hidden (show Row W8 w7.heap.size 32 [.int .i64 0, .int .i64 0, .slice Az 0 cz] by rw [hW8]; exact Hz.out.grow (growB _ _))
  have hs8 : W8.heap.size = w8.heap.size + 1 := by rw [hW8]; simp
  have HGX8 := hidden (show Grows w8 W8 by rw [hW8]; exact growB _ _)
  rw [← hW8]
  clear hW8 HG
  have HG := hidden HG8.out
  clear HG8
  replace HB := hidden (HB.out.grow HGX8.out)
  have HX : Hid (∀ X, Grows W8 X → (X.cell? ⟨w1.heap.size, 0, none⟩ = some (.int .i64 5) ∧ X.cell? ⟨w1.heap.size, 1, none⟩ = some (.int .i64 64) ∧ X.cell? ⟨w1.heap.size, 2, none⟩ = some (.slice (some ⟨bw, ow, none⟩) 1 cf)) ∧
      (X.cell? ⟨w3.heap.size, 0, none⟩ = some (.int .i64 5) ∧ X.cell? ⟨w3.heap.size, 1, none⟩ = some (.int .i64 64) ∧ X.cell? ⟨w3.heap.size, 2, none⟩ = some (.slice Ag 1 cg)) ∧
      (X.cell? ⟨w5.heap.size, 0, none⟩ = some (.int .i64 5) ∧ X.cell? ⟨w5.heap.size, 1, none⟩ = some (.int .i64 64) ∧ X.cell? ⟨w5.heap.size, 2, none⟩ = some (.slice Ah 1 ch)) ∧
      (X.cell? ⟨w6.heap.size, 0, none⟩ = some (.int .i64 5) ∧ X.cell? ⟨w6.heap.size, 1, none⟩ = some (.int .i64 64) ∧ X.cell? ⟨w6.heap.size, 2, none⟩ = some (.slice Au 1 cu)) ∧
      X.cell? ⟨bw, ow, none⟩ = some (.int .u64 0) ∧ X.cell? ⟨bb, ob, none⟩ = some (.int .u8 5) ∧ X.cell? ⟨bb, ob + 1, none⟩ = some (.int .u8 64)) := by
    intro X hX
    have rf := Hf.out.grow hX
    have rg := Hg.out.grow hX
    have rh := Hh.out.grow hX
    have ru := Hu.out.grow hX
    refine ⟨⟨rf.cell 0, rf.cell 1, rf.cell 2⟩, ⟨rg.cell 0, rg.cell 1, rg.cell 2⟩, ⟨rh.cell 0, rh.cell 1, rh.cell 2⟩, ⟨ru.cell 0, ru.cell 1, ru.cell 2⟩, ?_, ?_, ?_⟩
    · obtain ⟨A', c', he, _, hcell⟩ := HWf.out.grow hX
      injection he with e1 e2 e3
      obtain ⟨b, off, e4, hc⟩ := hcell (by simp [ucells])
      rw [← e1] at e4
      injection e4 with e4
      injection e4 with e5 e6
      have h := hc 0 (by simp [ucells])
      rw [← e5, ← e6] at h
      exact h
    · obtain ⟨A', c', he, hcell⟩ := HB.out.grow hX
      injection he with e1 e2 e3
      obtain ⟨b, off, e4, hc⟩ := hcell (by simp)
      rw [← e1] at e4
      injection e4 with e4
      injection e4 with e5 e6
      have h := hc 0 (by simp)
      rw [← e5, ← e6] at h
      exact h
    · obtain ⟨A', c', he, hcell⟩ := HB.out.grow hX
      injection he with e1 e2 e3
      obtain ⟨b, off, e4, hc⟩ := hcell (by simp)
      rw [← e1] at e4
      injection e4 with e4
      injection e4 with e5 e6
      have h := hc 1 (by simp)
      rw [← e5, ← e6] at h
      exact h
  have HC1 := hidden (fun W (h : Grows W8 W) => const_loose15 (one15_any W))
  unfold one15 Val.v at HC1
  have HM1 := hidden (fun W (h : Grows W8 W) => const_loose15 (bmay_any (.agg #[.int .i64 5, .int .i64 64, .slice (some ⟨bw, ow, none⟩) 1 cf]) 5 64 [0] one15 W ⟨_, rfl, HWf.out.grow h, by simp⟩ (by omega) (by omega) (.inr (by omega)) lv_valid lv_okW one15_valid))
  rw [lv_may0] at HM1
  have HM2 := hidden (fun W (h : Grows W8 W) => const_loose15 (bmay_any (.agg #[.int .i64 5, .int .i64 64, .slice Ag 1 cg]) 5 64 wg one15 W ⟨_, rfl, HWg.out.grow h, by rw [HLG.out]; omega⟩ (by omega) (by omega) (.inr (by omega)) (by rw [HWG.out]; exact lv_validG) (by rw [HWG.out]; exact lv_okG) one15_valid))
  rw [show mayB 5 64 wg one15 = true by rw [HWG.out]; exact lv_may1] at HM2
  have HM3 := hidden (fun W (h : Grows W8 W) => const_loose15 (bmay_any (.agg #[.int .i64 0, .int .i64 0, .slice none 0 0]) 0 0 [] one15 W (zeroF W) (by omega) (by omega) (.inl rfl) lv_valid0 ⟨rfl, fun i _ => rfl⟩ one15_valid))
  rw [lv_may2] at HM3
  unfold one15 Val.v at HM1 HM2 HM3
  have HV1 := hidden (fun W (h : Grows W8 W) => const_loose15 (bvalid_any (.agg #[.int .i64 5, .int .i64 64, .slice (some ⟨bw, ow, none⟩) 1 cf]) 5 64 [0] W ⟨_, rfl, HWf.out.grow h, by simp⟩ ⟨by decide, by decide⟩ ⟨by decide, by decide⟩))
  rw [lv_valid] at HV1
  have HV2 := hidden (fun W (h : Grows W8 W) => const_loose15 (bvalid_any (.agg #[.int .i64 1, .int .i64 0, .slice none 0 0]) 1 0 [] W ⟨_, rfl, ⟨none, 0, rfl, Nat.le_refl _, fun h => absurd h (by simp [ucells])⟩, by simp⟩ ⟨by decide, by decide⟩ ⟨by decide, by decide⟩))
  rw [lv_bad1] at HV2
  have HE1 := hidden (fun W (h : Grows W8 W) => const_loose15 (req15_any (.agg #[.int .i64 5, .int .i64 64, .slice (some ⟨bw, ow, none⟩) 1 cf]) (.agg #[.int .i64 5, .int .i64 64, .slice Ah 1 ch]) 5 5 64 64 [0] [0] W ⟨_, rfl, HWf.out.grow h, by simp⟩ ⟨_, rfl, HWh.out.grow h, by simp⟩))
  rw [eqF_self] at HE1
  have HE2 := hidden (fun W (h : Grows W8 W) => const_loose15 (req15_any (.agg #[.int .i64 5, .int .i64 64, .slice Au 1 cu]) (.agg #[.int .i64 5, .int .i64 64, .slice Ag 1 cg]) 5 5 64 64 wg wg W ⟨_, rfl, HWu.out.grow h, by rw [HLG.out]; omega⟩ ⟨_, rfl, HWg.out.grow h, by rw [HLG.out]; omega⟩))
  rw [eqF_self] at HE2
  clear hcw Hf Hg Hh Hu Hz Hy HWf HWg HWh HWu HB HB0 HB1 HLG HWG hs1 hs3 hs5 hs6 hs7 hs8
  simp only [List.append_eq, List.cons_append, List.nil_append]
  refine wp_region_loose (tabRs [(26, ConstV (.agg #[.int .i64 2, .int .i64 1, .string ⟨#[]⟩])), (27, ConstV (.bool false)), (32, ConstV (.agg #[.int .i64 2, .int .i64 1, .string ⟨#[]⟩])), (33, ConstV (.bool true)), (37, ConstV (.agg #[.int .i64 2, .int .i64 1, .string ⟨#[]⟩])), (38, ConstV (.bool true)), (42, ConstV (.bool true)), (46, ConstV (.bool false)), (77, ConstV (.bool true)), (86, ConstV (.bool true))]) (by kernel_rfl) (lexB_fast (by kernel_rfl)) (tabRs_cons ConstV.lasts (tabRs_cons ConstV.lasts (tabRs_cons ConstV.lasts (tabRs_cons ConstV.lasts (tabRs_cons ConstV.lasts (tabRs_cons ConstV.lasts (tabRs_cons ConstV.lasts (tabRs_cons ConstV.lasts (tabRs_cons ConstV.lasts (tabRs_cons ConstV.lasts tabRs_nil)))))))))) ?_
  iterate 26 ((with_reducible refine loose_one (v := ?_) (a' := ?_) ?_ ?_ (fun w' hC' hG' => ?_) ?_ ?_); rotate_left 2; (focus rfl); (focus rfl); (focus (obtain ⟨⟨f0, f1, f2⟩, ⟨g0, g1, g2⟩, ⟨h0, h1, h2⟩, ⟨u0, u1, u2⟩, wd, b0, b1⟩ := HX.out w' hC'; clear hC' hG'; go_simp; rfl)); (focus (go_simp; rfl)))
  refine loose_call (R := ConstV (.agg #[.int .i64 2, .int .i64 1, .string ⟨#[]⟩])) (f := 24) (args := #[]) (by rfl) (by rfl) (fun _ => by go_simp) (fun w' hC' hG' => HC1.out w' hC') ?_
  rintro _ ⟨_, _, rfl⟩
  refine ⟨?_, ?_, ?_⟩
  rotate_left
  · go_simp
    rfl
  refine loose_call (R := ConstV (.bool false)) (f := 14) (args := #[.agg #[.int .i64 5, .int .i64 64, .slice (some ⟨bw, ow, none⟩) 1 cf], .agg #[.int .i64 2, .int .i64 1, .string ⟨#[]⟩]]) (by rfl) (by rfl) (fun _ => by go_simp) (fun w' hC' hG' => HM1.out w' hC') ?_
  rintro _ ⟨_, _, rfl⟩
  refine ⟨?_, ?_, ?_⟩
  rotate_left
  · go_simp
    rfl
  iterate 4 ((with_reducible refine loose_one (v := ?_) (a' := ?_) ?_ ?_ (fun w' hC' hG' => ?_) ?_ ?_); rotate_left 2; (focus rfl); (focus rfl); (focus (obtain ⟨⟨f0, f1, f2⟩, ⟨g0, g1, g2⟩, ⟨h0, h1, h2⟩, ⟨u0, u1, u2⟩, wd, b0, b1⟩ := HX.out w' hC'; clear hC' hG'; go_simp; rfl)); (focus (go_simp; rfl)))
  refine loose_call (R := ConstV (.agg #[.int .i64 2, .int .i64 1, .string ⟨#[]⟩])) (f := 24) (args := #[]) (by rfl) (by rfl) (fun _ => by go_simp) (fun w' hC' hG' => HC1.out w' hC') ?_
  rintro _ ⟨_, _, rfl⟩
  refine ⟨?_, ?_, ?_⟩
  rotate_left
  · go_simp
    rfl
  refine loose_call (R := ConstV (.bool true)) (f := 14) (args := #[.agg #[.int .i64 5, .int .i64 64, .slice Ag 1 cg], .agg #[.int .i64 2, .int .i64 1, .string ⟨#[]⟩]]) (by rfl) (by rfl) (fun _ => by go_simp) (fun w' hC' hG' => HM2.out w' hC') ?_
  rintro _ ⟨_, _, rfl⟩
  refine ⟨?_, ?_, ?_⟩
  rotate_left
  · go_simp
    rfl
  iterate 3 ((with_reducible refine loose_one (v := ?_) (a' := ?_) ?_ ?_ (fun w' hC' hG' => ?_) ?_ ?_); rotate_left 2; (focus rfl); (focus rfl); (focus (obtain ⟨⟨f0, f1, f2⟩, ⟨g0, g1, g2⟩, ⟨h0, h1, h2⟩, ⟨u0, u1, u2⟩, wd, b0, b1⟩ := HX.out w' hC'; clear hC' hG'; go_simp; rfl)); (focus (go_simp; rfl)))
  refine loose_call (R := ConstV (.agg #[.int .i64 2, .int .i64 1, .string ⟨#[]⟩])) (f := 24) (args := #[]) (by rfl) (by rfl) (fun _ => by go_simp) (fun w' hC' hG' => HC1.out w' hC') ?_
  rintro _ ⟨_, _, rfl⟩
  refine ⟨?_, ?_, ?_⟩
  rotate_left
  · go_simp
    rfl
  refine loose_call (R := ConstV (.bool true)) (f := 14) (args := #[.agg #[.int .i64 0, .int .i64 0, .slice none 0 0], .agg #[.int .i64 2, .int .i64 1, .string ⟨#[]⟩]]) (by rfl) (by rfl) (fun _ => by go_simp) (fun w' hC' hG' => HM3.out w' hC') ?_
  rintro _ ⟨_, _, rfl⟩
  refine ⟨?_, ?_, ?_⟩
  rotate_left
  · go_simp
    rfl
  iterate 3 ((with_reducible refine loose_one (v := ?_) (a' := ?_) ?_ ?_ (fun w' hC' hG' => ?_) ?_ ?_); rotate_left 2; (focus rfl); (focus rfl); (focus (obtain ⟨⟨f0, f1, f2⟩, ⟨g0, g1, g2⟩, ⟨h0, h1, h2⟩, ⟨u0, u1, u2⟩, wd, b0, b1⟩ := HX.out w' hC'; clear hC' hG'; go_simp; rfl)); (focus (go_simp; rfl)))
  refine loose_call (R := ConstV (.bool true)) (f := 16) (args := #[.agg #[.int .i64 5, .int .i64 64, .slice (some ⟨bw, ow, none⟩) 1 cf]]) (by rfl) (by rfl) (fun _ => by go_simp) (fun w' hC' hG' => HV1.out w' hC') ?_
  rintro _ ⟨_, _, rfl⟩
  refine ⟨?_, ?_, ?_⟩
  rotate_left
  · go_simp
    rfl
  iterate 3 ((with_reducible refine loose_one (v := ?_) (a' := ?_) ?_ ?_ (fun w' hC' hG' => ?_) ?_ ?_); rotate_left 2; (focus rfl); (focus rfl); (focus (obtain ⟨⟨f0, f1, f2⟩, ⟨g0, g1, g2⟩, ⟨h0, h1, h2⟩, ⟨u0, u1, u2⟩, wd, b0, b1⟩ := HX.out w' hC'; clear hC' hG'; go_simp; rfl)); (focus (go_simp; rfl)))
  refine loose_call (R := ConstV (.bool false)) (f := 16) (args := #[.agg #[.int .i64 1, .int .i64 0, .slice none 0 0]]) (by rfl) (by rfl) (fun _ => by go_simp) (fun w' hC' hG' => HV2.out w' hC') ?_
  rintro _ ⟨_, _, rfl⟩
  refine ⟨?_, ?_, ?_⟩
  rotate_left
  · go_simp
    rfl
  iterate 30 ((with_reducible refine loose_one (v := ?_) (a' := ?_) ?_ ?_ (fun w' hC' hG' => ?_) ?_ ?_); rotate_left 2; (focus rfl); (focus rfl); (focus (obtain ⟨⟨f0, f1, f2⟩, ⟨g0, g1, g2⟩, ⟨h0, h1, h2⟩, ⟨u0, u1, u2⟩, wd, b0, b1⟩ := HX.out w' hC'; clear hC' hG'; go_simp; rfl)); (focus (go_simp; rfl)))
  refine loose_call (R := ConstV (.bool true)) (f := 13) (args := #[.agg #[.int .i64 5, .int .i64 64, .slice (some ⟨bw, ow, none⟩) 1 cf], .agg #[.int .i64 5, .int .i64 64, .slice Ah 1 ch]]) (by rfl) (by rfl) (fun _ => by go_simp) (fun w' hC' hG' => HE1.out w' hC') ?_
  rintro _ ⟨_, _, rfl⟩
  refine ⟨?_, ?_, ?_⟩
  rotate_left
  · go_simp
    rfl
  iterate 8 ((with_reducible refine loose_one (v := ?_) (a' := ?_) ?_ ?_ (fun w' hC' hG' => ?_) ?_ ?_); rotate_left 2; (focus rfl); (focus rfl); (focus (obtain ⟨⟨f0, f1, f2⟩, ⟨g0, g1, g2⟩, ⟨h0, h1, h2⟩, ⟨u0, u1, u2⟩, wd, b0, b1⟩ := HX.out w' hC'; clear hC' hG'; go_simp; rfl)); (focus (go_simp; rfl)))
  refine loose_call (R := ConstV (.bool true)) (f := 13) (args := #[.agg #[.int .i64 5, .int .i64 64, .slice Au 1 cu], .agg #[.int .i64 5, .int .i64 64, .slice Ag 1 cg]]) (by rfl) (by rfl) (fun _ => by go_simp) (fun w' hC' hG' => HE2.out w' hC') ?_
  rintro _ ⟨_, _, rfl⟩
  refine ⟨?_, ?_, ?_⟩
  rotate_left
  · go_simp
    rfl
  iterate 10 ((with_reducible refine loose_one (v := ?_) (a' := ?_) ?_ ?_ (fun w' hC' hG' => ?_) ?_ ?_); rotate_left 2; (focus rfl); (focus rfl); (focus (obtain ⟨⟨f0, f1, f2⟩, ⟨g0, g1, g2⟩, ⟨h0, h1, h2⟩, ⟨u0, u1, u2⟩, wd, b0, b1⟩ := HX.out w' hC'; clear hC' hG'; go_simp; rfl)); (focus (go_simp; rfl)))
  refine loose_done (fun w9 hC' hG' => ?_)
  have HGE := hidden (HG.out.of_below hC')
  clear hC' hG'
  go_wp2_with fail
  go_ret
  exact ⟨rfl, HGE.out⟩
end Go.Proofs.Ytgegjoggiadgbaa
/-
  Shaken: what the claims of this seat need of this text. No condition.
-/
namespace Go.Proofs.Ytgegjoggiadgbaa
set_option maxRecDepth 8000
open Go.RowKit
set_option linter.unusedVariables false
theorem valid_parts {h n : Int} {ws : List UInt64} (hv : validFB h n ws = true) :
    ∃ H N : Nat, h = (H : Int) ∧ n = (N : Int) ∧ H ≤ 11 ∧ N ≤ 65536 ∧ (H = 0 ∨ 0 < N) ∧ okW N ws ∧ okP (H : Int) (N : Int) = true ∧ ws.length = nw N ∧ ws.length ≤ 2000 := by
  obtain ⟨hp, n0, _, hw⟩ := validFB_iff.1 hv
  have hs := okP_spec hp
  obtain ⟨H, rfl⟩ := Int.eq_ofNat_of_zero_le (show 0 ≤ h by omega)
  obtain ⟨N, rfl⟩ := Int.eq_ofNat_of_zero_le n0
  rw [Int.toNat_natCast] at hw
  have hl := hw.1
  refine ⟨H, N, rfl, rfl, by omega, by omega, by omega, hw, hp, hl, ?_⟩
  rw [hl]
  unfold nw
  omega
theorem built_parts (bits : Int) (l : List Val) :
    buildH bits ≤ 11 ∧ buildN bits l.length ≤ 65536 ∧ (buildH bits = 0 ∨ 0 < buildN bits l.length) ∧ okW (buildN bits l.length) (buildW bits l) ∧ okP (buildH bits : Int) (buildN bits l.length : Int) = true ∧ validFB (buildH bits : Int) (buildN bits l.length : Int) (buildW bits l) = true ∧ (buildW bits l).length = nw (buildN bits l.length) := by
  by_cases hlow : bits < 1
  · have e1 : buildH bits = 0 := if_pos hlow
    have e2 : buildN bits l.length = 0 := if_pos hlow
    have e3 : buildW bits l = [] := if_pos hlow
    rw [e1, e2, e3]
    exact ⟨by omega, by omega, .inl rfl, ⟨rfl, fun _ _ => rfl⟩, rfl, lv_valid0, rfl⟩
  · have hB2 : bits15 bits ≤ 16 := by unfold bits15; omega
    have e1 : buildH bits = hashesN (bits15 bits) := if_neg hlow
    have e2 : buildN bits l.length = sizeN (l.length * bits15 bits) := if_neg hlow
    have e3 : buildW bits l = wordsF (buildN bits l.length) (buildH bits) l := if_neg hlow
    have h1 := hashesN_le hB2
    have h2 := hashesN_ge (bits15 bits)
    have h3 := sizeN_le (l.length * bits15 bits)
    have h4 := sizeN_ge (l.length * bits15 bits)
    have hp : okP (buildH bits : Int) (buildN bits l.length : Int) = true := by rw [e1, e2]; exact okP_size _ (by omega) (by omega)
    have hw : okW (buildN bits l.length) (buildW bits l) := by rw [e3]; exact okW_pack _ _
    refine ⟨by rw [e1]; exact h1, by rw [e2]; exact h3, .inr (by rw [e2]; omega), hw, hp, validFB_iff.2 ⟨hp, by omega, by rw [e2]; omega, by rw [Int.toNat_natCast]; exact hw⟩, hw.1⟩
theorem built_may (bits : Int) (l : List Val) (x : Val) (hx : x ∈ l) : mayB (buildH bits) (buildN bits l.length) (buildW bits l) x = true := by
  by_cases hlow : bits < 1
  · have e1 : buildH bits = 0 := if_pos hlow
    rw [e1]
    rfl
  · have e2 : buildN bits l.length = sizeN (l.length * bits15 bits) := if_neg hlow
    have e3 : buildW bits l = wordsF (buildN bits l.length) (buildH bits) l := if_neg hlow
    have h4 := sizeN_ge (l.length * bits15 bits)
    rw [e3]
    exact mayB_in (by omega) hx
theorem may_or_left {m n : Nat} {a b : List UInt64} {x : Val} (h : mayB m n a x = true) : mayB m n (pack n fun j => mem n a j || mem n b j) x = true := by
  unfold mayB at h ⊢
  rw [List.all_eq_true] at h ⊢
  intro p hp
  have h1 := h p hp
  have h2 : p < n := by
    unfold mem at h1
    rw [Bool.and_eq_true] at h1
    simpa using h1.1
  rw [mem_pack, h1]
  simp [h2]
theorem may_or_right {m n : Nat} {a b : List UInt64} {x : Val} (h : mayB m n b x = true) : mayB m n (pack n fun j => mem n a j || mem n b j) x = true := by
  unfold mayB at h ⊢
  rw [List.all_eq_true] at h ⊢
  intro p hp
  have h1 := h p hp
  have h2 : p < n := by
    unfold mem at h1
    rw [Bool.and_eq_true] at h1
    simpa using h1.1
  rw [mem_pack, h1]
  simp [h2]
end Go.Proofs.Ytgegjoggiadgbaa
