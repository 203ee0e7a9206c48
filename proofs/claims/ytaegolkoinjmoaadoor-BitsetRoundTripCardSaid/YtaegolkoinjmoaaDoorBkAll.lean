/-
  bitset.All: the value that it hands back yields the elements of the set in their order ('IterAll'), over words of its own.
-/
import Derived.Test.YtaegolkoinjmoaaDoorBkSb
namespace Go.Proofs.YtaegolkoinjmoaaDoor
open Go.RowKit Go.Shelf
attribute [local go_sem] Oper.semAt_some

theorem elems_over {f : Nat → Bool} {n : Nat} (h : ∀ i, n ≤ i → f i = false) : ∀ {m}, n ≤ m → elems f m = elems f n
  | 0, hm => by rw [show n = 0 by omega]
  | m + 1, hm => by
    by_cases e : n = m + 1
    · rw [e]
    · rw [elems, elems_over h (m := m) (by omega), h m (by omega)]; simp
theorem elems_word {n : Nat} {ws : List UInt64} (ho : okW n ws) (k : Nat) : elems (mem n ws) (64 * (k + 1)) = elems (mem n ws) (64 * k) ++ (ones (wAt ws k)).map (64 * k + ·) := by
  have h : elems (wbit (wAt ws k)) 64 = elems (fun i => mem n ws (64 * k + i)) 64 := elems_congr fun i hi => okW_bit ho hi
  rw [show 64 * (k + 1) = 64 * k + 64 by omega, elems_split, ones, h]
theorem elems_words {n : Nat} {ws : List UInt64} (ho : okW n ws) : elems (mem n ws) (64 * ws.length) = elems (mem n ws) n :=
  elems_over (fun i hi => mem_ge hi) (by rw [ho.1]; unfold nw; omega)

/-- marks of rounds that are over, among an activation's deferred calls -/
def Marks (s t : Nat) (W : World) : List Deferred → Prop
  | [] => True
  | d :: ds => (∃ D, d.target = .collected D ∧ s ≤ D ∧ D < t ∧ W.heap[D]? = some (.deferred (some [])) ∧ ∀ d' ∈ ds, d'.target ≠ .collected D) ∧ Marks s t W ds
theorem Marks.keep {s t t' : Nat} {W W' : World} (ht : t ≤ t') : ∀ {ds}, Marks s t W ds → (∀ D, s ≤ D → D < t → W.heap[D]? = some (.deferred (some [])) → (∃ d ∈ ds, d.target = .collected D) → W'.heap[D]? = some (.deferred (some []))) → Marks s t' W' ds
  | [], _, _ => trivial
  | d :: ds, ⟨⟨D, h1, h2, h3, h4, h5⟩, h⟩, hk => ⟨⟨D, h1, h2, by omega, hk D h2 h3 h4 ⟨d, List.mem_cons_self .., h1⟩, h5⟩, Marks.keep ht h fun D' a b c ⟨d', hd', e⟩ => hk D' a b c ⟨d', List.mem_cons_of_mem _ hd', e⟩⟩
theorem Marks.lt {s t : Nat} {W : World} : ∀ {ds}, Marks s t W ds → ∀ d ∈ ds, ∀ D, d.target = .collected D → D < t
  | d :: ds, ⟨⟨D, h1, _, h3, _⟩, h⟩, d', hd', D', e => by
    rcases List.mem_cons.1 hd' with rfl | hd'
    · rw [h1] at e; cases e; exact h3
    · exact Marks.lt h d' hd' D' e
/-- an activation without results leaves through its marks -/
theorem leave_marks {n : Nat} {P : Program} {fn : Func} {tmps : Array Value} {s t : Nat} {J : List Nat → World → Prop} {xs : List Nat} (hr : fn.results = #[]) (hJ : OwnFrom s J) :
    ∀ (ds : List Deferred) (W : World), Marks s t W ds → J xs W → LeavesInM Fence.wide n P fn tmps (fun e W' => (∃ v, e = .returned v) ∧ J xs W') ds .returning W
  | [], W, _, h => ⟨_, results_none hr _ _ _, ⟨_, rfl⟩, h⟩
  | d :: ds, W, ⟨⟨D, h1, h2, h3, h4, h5⟩, hm⟩, h => by
    refine ⟨by simp, .inl ⟨D, _, h1, run_takeDeferred h4, leave_marks hr hJ ds _ (hm.keep (Nat.le_refl _) ?_) (hJ.putObj _ h h2 h4 rfl)⟩⟩
    rintro D' _ _ hD' ⟨d', hd', e⟩
    refine (World.putObj_heap_other ?_).trans hD'
    intro e'
    subst e'
    exact h5 d' hd' e

structure AllHave (H B bw : Nat) (A : Option Addr) (c : Nat) (ws : List UInt64) (w2 : World) : Prop where
  box : Boxed w2 bw 24 (.slice A ws.length c)
  row : w2.ownsRow (B + 1) 54 1 (.slice A ws.length c) ws.length (ucells ws)
  tab : Tab w2
  pos : 0 < B
  ne : bw ≠ B
  top : w2.heap.size = H
theorem AllHave.box_ {H B bw c : Nat} {A : Option Addr} {ws : List UInt64} {w2 W : World} (h : AllHave H B bw A c ws w2) (hb : BelowBut H B w2 W) : Boxed W bw 24 (.slice A ws.length c) :=
  (hb.block bw (by have := h.box.lt; rw [h.top] at this; exact this) h.ne).trans h.box
theorem AllHave.tab_ {H B bw c : Nat} {A : Option Addr} {ws : List UInt64} {w2 W : World} (h : AllHave H B bw A c ws w2) (hb : BelowBut H B w2 W) : Tab W := fun j hj => by
  have h1 := h.tab j hj
  have hlt : 0 < w2.heap.size := World.block_lt_of_cell? w2 _ h1
  exact (World.cell?_of_block (a := ⟨0, j, none⟩) (hb.block 0 (by rw [← h.top]; exact hlt) (by have := h.pos; omega))).trans h1
theorem AllHave.row_ {H B bw c : Nat} {A : Option Addr} {ws : List UInt64} {w2 W : World} (h : AllHave H B bw A c ws w2) (hb : BelowBut H B w2 W) : W.ownsRow (B + 1) 54 1 (.slice A ws.length c) ws.length (ucells ws) := by
  have hr := h.row
  refine ⟨hr.1, ?_⟩
  rcases hr.2 with h0 | ⟨g, cap, cur, e, hg, hh, rest⟩
  · exact .inl h0
  · refine .inr ⟨g, cap, cur, e, hg, ?_, rest⟩
    have hlt := (Array.getElem?_eq_some_iff.1 hh).1
    exact (hb.block g (by rw [← h.top]; exact hlt) (by omega)).trans hh

def AllRel (l bw bY s H B : Nat) (A : Option Addr) (c n : Nat) (ws : List UInt64) (w2 : World) (J : List Nat → World → Prop) (a : Act) (W : World) : Prop :=
  ∃ (k : Nat) (u3 u4 u5 u9 u10 u11 u12 u13 u14 u15 u16 u17 u18 u19 u20 u21 u22 u23 : Value) (ds : List Deferred), k ≤ ws.length ∧
    a = { tmps := #[.func (.yield l) #[] #[], .pointer (some ⟨bw, 0, none⟩), .pointer (some ⟨bY, 0, none⟩), u3, u4, u5, .slice A ws.length c, .int .i64 (ws.length : Int), .int .i64 (k : Int), u9, u10, u11, u12, u13, u14, u15, u16, u17, u18, u19, u20, u21, u22, u23], defers := ds } ∧
    Marks s W.heap.size W ds ∧ J (elems (mem n ws) (64 * k)) W ∧ Boxed W bY 76 (.func (.yield l) #[] #[]) ∧ BelowBut H B w2 W ∧ s ≤ bY

theorem OwnFrom.up {β : Type} {s t : Nat} {I : β → World → Prop} (h : OwnFrom s I) (hst : s ≤ t) : OwnFrom t I := fun b X Y row hs hg hr => h b X Y row hs hg fun r e => ⟨Nat.le_trans hst (hr r e).1, (hr r e).2⟩
theorem inner_own {s t H B bY b3 : Nat} {T T3 : TypeId} {v v3 : Value} {w2 : World} {ds : List Deferred} {J : List Nat → World → Prop} {g : List (Fin 64) → List Nat} (hJ : OwnFrom s J) (hs : s ≤ t) (hH : H ≤ t) (hw : w2.heap.size = H) :
    OwnFrom t (fun (pre : List (Fin 64)) W => J (g pre) W ∧ Boxed W bY T v ∧ Boxed W b3 T3 v3 ∧ BelowBut H B w2 W ∧ Marks s t W ds) := by
  rintro pre X Y row ⟨h1, h2, h3, h4, h5⟩ hg hr
  have hr' : ∀ r, row = some r → ∃ o : Obj, X.heap[r]? = some o ∧ o.isCells = false := fun r e => (hr r e).2
  refine ⟨OwnFrom.up hJ hs _ X Y row h1 hg hr, boxed_own bY T (fun (_ : Unit) => v) () X Y row h2 hg hr', boxed_own b3 T3 (fun (_ : Unit) => v3) () X Y row h3 hg hr', ?_, ?_⟩
  · refine h4.trans ⟨hg.os, hg.tape, hg.output, hg.size, fun k hk _ => ?_⟩
    have := h4.size
    exact hg.block k (by omega) fun e => by have := (hr k e.symm).1; omega
  · refine h5.keep (Nat.le_refl _) fun D h6 h7 h8 _ => ?_
    exact (hg.block D (Array.getElem?_eq_some_iff.1 h8).1 fun e => by have := (hr D e.symm).1; omega).trans h8

set_option maxRecDepth 100000 in
set_option maxHeartbeats 2000000 in
theorem all1_iter (H B bw : Nat) (A : Option Addr) (c n : Nat) (ws : List UInt64) (w2 : World) (hv : AllHave H B bw A c ws w2) (ho : okW n ws) (hn : n ≤ 1048576) :
    IterAll Tryd.prog 68 #[.pointer (some ⟨bw, 0, none⟩)] (elems (mem n ws) n) (64 * nw n) H B w2 := by
  intro n' l J W hW hJ hY h0
  refine callsIn_wide.2 ((callsIn_wide (n := 50)).1 ?_)
  refine callsIn_of_wp_marks Tryd.func68 rfl trivial ?_ rfl
  simp only [Tryd.ntmps68, List.size_toArray, List.length_cons, List.length_nil, Nat.reduceAdd, Nat.reduceSub, Array.replicate_succ, Array.replicate_zero, List.push_toArray, List.append_toArray, List.nil_append, List.cons_append]
  have hbut : BelowBut H B w2 W := .of_below (hv.top ▸ hW)
  have hc0 := (hv.box_ hbut).cell
  have hbw : bw < W.heap.size := (hv.box_ hbut).lt
  have hL : ws.length ≤ 20000 := by rw [ho.1]; unfold nw; omega
  have hHW : H ≤ W.heap.size := by have := hW.size; rw [hv.top] at this; exact this
  gi_wp2_with fail
  refine wpIn_loop (AllRel l bw W.heap.size W.heap.size H B A c n ws w2 J) (fun a _ => ws.length - (intOf (a.tmps.getD 8 undef)).toNat) ?_ ?_
  · refine ⟨0, _, _, _, _, _, _, _, _, _, _, _, _, _, _, _, _, _, _, [], Nat.zero_le _, rfl, trivial, ?_, Boxed.new W _ _, hbut.trans (.of_below ((Below.refl _ _).alloc hHW _)), Nat.le_refl _⟩
    exact hJ.alloc _ h0
  · clear hc0
    rintro a wr ⟨k, u3, u4, u5, u9, u10, u11, u12, u13, u14, u15, u16, u17, u18, u19, u20, u21, u22, u23, ds, hk, rfl, hM, hJk, hby, hb, -⟩
    by_cases hlt : k < ws.length
    · have hrow := hv.row_ hb
      obtain ⟨g, rfl⟩ : ∃ g, A = some ⟨g, 0, none⟩ := by
        rcases hrow.2 with ⟨e, h0⟩ | ⟨g, cap, cur, e, _⟩
        · omega
        · injection e with e; exact ⟨g, e⟩
      have hcell := hrow.cells (g := g) rfl k (.int .u64 (ws[k].toNat : Int)) (ucells_get hlt)
      rw [Addr.add_lit, Nat.zero_add] at hcell
      have HW := hidden (wAt_lt hlt)
      have HR := hidden hrow
      have HM := hidden hM
      have HJ := hidden hJk
      have HBY := hidden hby
      have HB := hidden hb
      clear hrow hM hJk hby hb
      generalize ws[k] = x at *
      gi_wp2_with fail
      refine ⟨trivial, (callsIn_wide.2 (setBits_any x _)).mono ?_⟩
      rintro e w' ⟨rfl, rfl⟩
      gi_wp2_with fail
      obtain ⟨P, hP⟩ : ∃ P, P = elems (mem n ws) (64 * k) := ⟨_, rfl⟩
      have HPW := hidden (elems_word ho k)
      have hPl : P.length ≤ 64 * k := by rw [hP, elems_length]; exact cnt_le _ _
      have hk64 : 64 * (k + 1) ≤ 64 * nw n := by have := ho.1; omega
      rw [← hP] at HJ HPW
      obtain ⟨W0, hW0⟩ : ∃ W0, W0 = (wr.alloc (.cells #[.int .i64 (k : Int)] 3)).alloc (.cells #[.int .u64 (x.toNat : Int)] 54) := ⟨_, rfl⟩
      have hs0 : W0.heap.size = wr.heap.size + 2 := by rw [hW0]; simp
      have hsw : W.heap.size ≤ wr.heap.size := by have := HBY.out.lt; omega
      have hbelow : Below wr.heap.size wr W0 := by rw [hW0]; exact ((Below.refl _ _).alloc (Nat.le_refl _) _).alloc (by simp) _
      have hb0 : BelowBut H B w2 W0 := HB.out.trans (.of_below (hbelow.mono (by omega)))
      have hJ0 : J P W0 := by rw [hW0]; exact hJ.alloc _ (hJ.alloc _ HJ.out)
      have hbx : Boxed W0 (wr.heap.size + 1) 54 (.int .u64 (x.toNat : Int)) := by
        rw [hW0]; have h := Boxed.new (wr.alloc (.cells #[.int .i64 (k : Int)] 3)) 54 (.int .u64 (x.toNat : Int)); rwa [World.size_alloc] at h
      have hb3 : Boxed W0 wr.heap.size 3 (.int .i64 (k : Int)) := by rw [hW0]; exact (Boxed.new wr _ _).alloc _
      have hby0 : Boxed W0 W.heap.size 76 (.func (.yield l) #[] #[]) := by rw [hW0]; exact (HBY.out.alloc _).alloc _
      have hm0 : Marks W.heap.size W0.heap.size W0 ds := HM.out.keep (by omega) fun D _ h2 h3 _ => (hbelow.block D h2).trans h3
      rw [← hW0]
      have hwr1 : 1 ≤ wr.heap.size := by omega
      have HPL := hidden hPl
      clear hcell hlt hPl
      refine wpIn_rangeFunc_ownG rfl (by omega) (gf := 74) (lb := #[.pointer (some ⟨wr.heap.size + 1, 0, none⟩)]) rfl trivial (enters_of Tryd.func74 (by kernel_rfl) rfl)
        (setBits1_stops 49 (wr.heap.size + 1) x W0 (by omega) (by omega) hbx.cell (hv.tab_ hb0)) belowK_t (belowK_b (by omega)) (Below.refl _ _) (fun _ => rfl)
        (fun pre W' => J (P ++ pre.map fun j => 64 * k + j.val) W' ∧ Boxed W' W.heap.size 76 (.func (.yield l) #[] #[]) ∧ Boxed W' wr.heap.size 3 (.int .i64 (k : Int)) ∧ BelowBut H B w2 W' ∧ Marks W.heap.size W0.heap.size W' ds)
        (fun _ _ _ => False)
        (inner_own (g := fun pre => P ++ pre.map fun j => 64 * k + j.val) hJ (by omega) (by omega) hv.top)
        (fun _ _ _ _ _ hs _ _ => hs)
        ⟨by simpa using hJ0, hby0, hb3, hb0, hm0⟩
        (fun j : Fin 64 => { tmps := #[.func (.yield l) #[] #[], .pointer (some ⟨bw, 0, none⟩), .pointer (some ⟨W.heap.size, 0, none⟩), .pointer (some ⟨wr.heap.size, 0, none⟩), .int .u64 (x.toNat : Int), .int .i64 (j.val : Int), .slice (some ⟨g, 0, none⟩) ws.length c, .int .i64 (ws.length : Int), .int .i64 (k : Int), .bool true, .int .i64 (k : Int), .pointer (some ⟨g, k, none⟩), .int .u64 (x.toNat : Int), .int .u64 (x.toNat : Int), .func (.func 74) #[] #[.pointer (some ⟨wr.heap.size + 1, 0, none⟩)], .int .i64 (j.val : Int), u16, u17, u18, u19, u20, u21, u22, u23], defers := [] }) ?assign ?body ?done ?stop
      case assign =>
        intro l2 j W1 K hK
        gi_wp2
        exact hK
      case body =>
        rintro l2 pre ⟨jv, hj⟩ W1 ⟨hJ1, hby1, hb31, hb1, hm1⟩ hlen
        have cy := hby1.cell
        have c3 := hb31.cell
        have HJ1 := hidden hJ1
        obtain ⟨fn, tmps, assign, body, hy, hR⟩ := yield_any 47 (hY _ (64 * k + jv) W1 hJ1 (by have := HPL.out; rw [List.length_append, List.length_map]; omega))
        have hR2 : RoundIn (Fence.wide.inRound l2) 47 Tryd.prog l fn tmps assign body W1 _ := hR
        have HR2 := hidden hR2
        have HBY1 := hidden hby1
        have HB31 := hidden hb31
        have HB1 := hidden hb1
        have HM1 := hidden hm1
        clear hJ1 hR hR2 hby1 hb31 hb1 hm1 hY hJ
        rw [show ((64 * k + jv : Nat) : Int) = 64 * (k : Int) + (jv : Int) by omega] at hy
        gi_wp2_with fail
        refine HR2.out.mono ?_
        rintro e W3 ⟨rfl, hJ3, hk3⟩
        gi_wp2
        refine ⟨⟨hk3.but.size, fun i o hi ho hc => hk3.others i o (by omega) ho hc⟩, ⟨hk3.but.os, hk3.but.tape, hk3.but.output, hk3.but.size, fun i hi => hk3.but.block i (by have := hv.box.lt; rw [hv.top] at this; omega) (by have := hv.pos; omega)⟩, ?_⟩
        refine ⟨by rw [List.map_append, ← List.append_assoc]; exact hJ3, hk3.box (Nat.le_refl _) HBY1.out, hk3.box hsw HB31.out, HB1.out.trans hk3.but, HM1.out.keep (Nat.le_refl _) fun D h1 _ h3 _ => hk3.others D _ h1 h3 rfl⟩
      case done =>
        rintro D ys W1 hD hys ⟨hJ1, hby1, hb31, hb1, hm1⟩ hdd
        have hjj : J (elems (mem n ws) (64 * (k + 1))) W1 := by
          rw [HPW.out, HW.out, ← hys]
          rw [List.map_map]
          exact hJ1
        have HJJ := hidden hjj
        have HBY1 := hidden hby1
        have HB1 := hidden hb1
        have HM1 := hidden hm1
        have HDD := hidden hdd
        clear hJ1 hjj hby1 hb31 hb1 hm1 hdd hys
        gi_wp2
        have hsz1 : W0.heap.size ≤ W1.heap.size := by
          have h := (Array.getElem?_eq_some_iff.1 HDD.out).1
          omega
        have hkl : k + 1 ≤ ws.length := by have := ho.1; omega
        refine ⟨⟨k + 1, _, _, _, _, _, _, _, _, _, _, _, _, _, _, _, _, _, _, _, hkl, rfl, ⟨⟨D, rfl, by omega, (Array.getElem?_eq_some_iff.1 HDD.out).1, HDD.out, fun d hd e => ?_⟩, HM1.out.keep hsz1 fun _ _ _ h _ => h⟩, HJJ.out, HBY1.out, HB1.out, Nat.le_refl _⟩, ?_⟩
        · have := HM1.out.lt d hd D e
          omega
        · simp [intOf]
          omega
      case stop =>
        rintro D c pre W1 _ _ h _
        exact h.elim
    · have hke : k = ws.length := by omega
      have hjj : J (elems (mem n ws) n) wr := by rw [← elems_words ho, ← hke]; exact hJk
      have hl := leave_marks (n := 50) (P := Tryd.prog) (fn := Tryd.f68) (tmps := #[.func (.yield l) #[] #[], .pointer (some ⟨bw, 0, none⟩), .pointer (some ⟨W.heap.size, 0, none⟩), u3, u4, u5, .slice A ws.length c, .int .i64 (ws.length : Int), .int .i64 (k : Int), .bool false, u10, u11, u12, u13, u14, u15, u16, u17, u18, u19, u20, u21, u22, u23]) rfl hJ ds wr hM hjj
      have HL := hidden hl
      have hd : decide (k < ws.length) = false := by simp; omega
      clear hl hjj hke hJk hM hby hb hlt
      gi_wp2
      exact HL.out
end Go.Proofs.YtaegolkoinjmoaaDoor
