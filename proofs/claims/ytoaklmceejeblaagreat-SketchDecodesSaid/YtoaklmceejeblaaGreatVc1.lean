/-
  Shaken: what the claims of this seat need of this text. No condition.
-/
import Derived.Test.YtoaklmceejeblaaGreatZapp
import Derived.Test.YtoaklmceejeblaaGreatMid
import Derived.StillTailTactics
namespace Go.Proofs.YtoaklmceejeblaaGreat
set_option maxRecDepth 8000
open Go.RowKit
set_option linter.unusedVariables false
set_option linter.unusedSimpArgs false
structure Only (B : Nat → Prop) (w w' : World) : Prop where
  os : w'.os = w.os
  tape : w'.tape = w.tape
  output : w'.output = w.output
  size : w.heap.size ≤ w'.heap.size
  block : ∀ k, k < w.heap.size → ¬ B k → w'.heap[k]? = w.heap[k]?
theorem Only.refl (B : Nat → Prop) (w : World) : Only B w w := ⟨rfl, rfl, rfl, Nat.le_refl _, fun _ _ _ => rfl⟩
theorem Only.trans {B B' : Nat → Prop} {a b c : World} (h : Only B a b) (k : Only B' b c) (hB : ∀ i, B' i → B i ∨ a.heap.size ≤ i) : Only B a c :=
  ⟨k.os.trans h.os, k.tape.trans h.tape, k.output.trans h.output, Nat.le_trans h.size k.size, fun i hi hn => (k.block i (Nat.lt_of_lt_of_le hi h.size) (fun e => by rcases hB i e with h1 | h1; exact hn h1; omega)).trans (h.block i hi hn)⟩
theorem Only.mono {B B' : Nat → Prop} {a b : World} (h : Only B a b) (hB : ∀ i, B i → B' i ∨ a.heap.size ≤ i) : Only B' a b :=
  ⟨h.os, h.tape, h.output, h.size, fun i hi hn => h.block i hi (fun e => by rcases hB i e with h1 | h1; exact hn h1; omega)⟩
theorem Only.of_grows {a b : World} (h : Grows a b) (B : Nat → Prop) : Only B a b := ⟨h.os, h.tape, h.output, h.size, fun i hi _ => h.block i hi⟩
theorem Only.grows {B : Nat → Prop} {a b : World} (h : Only B a b) (hB : ∀ i, B i → a.heap.size ≤ i) : Grows a b := ⟨h.os, h.tape, h.output, h.size, fun i hi => h.block i hi (fun e => by have := hB i e; omega)⟩
theorem Only.below {B : Nat → Prop} {w a b : World} (h : Only B a b) (hw : Grows w a) (hB : ∀ i, B i → w.heap.size ≤ i) : Grows w b :=
  ⟨h.os.trans hw.os, h.tape.trans hw.tape, h.output.trans hw.output, Nat.le_trans hw.size h.size, fun i hi => (h.block i (Nat.lt_of_lt_of_le hi hw.size) (fun e => by have := hB i e; omega)).trans (hw.block i hi)⟩
theorem Only.by_ {a b : World} {r : Option Nat} (h : a.grownBy b r) : Only (fun k => r = some k) a b := ⟨h.os, h.tape, h.output, h.size, fun i hi hn => h.block i hi (fun e => hn e.symm)⟩
theorem Only.set (w : World) (g k : Nat) (v : Value) : Only (fun i => i = g) w (w.setCell ⟨g, k, none⟩ v) :=
  ⟨rfl, rfl, rfl, by simp [World.setCell], fun i _ hn => Below.heap_setCell w ⟨g, k, none⟩ v i hn⟩
theorem Only.cell {B : Nat → Prop} {a b : World} (h : Only B a b) {p : Addr} {x : Value} (hp : a.cell? p = some x) (hn : ¬ B p.block) : b.cell? p = some x :=
  (World.cell?_of_block (h.block p.block (World.block_lt_of_cell? a p hp) hn)).trans hp
theorem Only.row {B : Nat → Prop} {a b : World} (h : Only B a b) {g : Nat} {e : TypeId} {xs : List Value} (hr : Row a g e xs) (hn : ¬ B g) : Row b g e xs := by
  unfold Row at hr ⊢
  exact (h.block g (Array.getElem?_eq_some_iff.1 hr).1 hn).trans hr
theorem ownsRow_only {B : Nat → Prop} {w w' : World} {base : Nat} {e : TypeId} {size : Nat} {v : Value} {n : Nat} {xs : List Value} (h : w.ownsRow base e size v n xs) (hb : Only B w w') (hn : ∀ k, v.ownBlock = some k → ¬ B k) : w'.ownsRow base e size v n xs := by
  refine ⟨h.1, ?_⟩
  rcases h.2 with h0 | ⟨g, cap, cur, h1, h2, h3, h4⟩
  · exact .inl h0
  · exact .inr ⟨g, cap, cur, h1, h2, (hb.block g (Array.getElem?_eq_some_iff.1 h3).1 (hn g (by rw [h1]; rfl))).trans h3, h4⟩
theorem ownsRow_apart {w : World} {b b' : Nat} {e e' : TypeId} {s s' : Nat} {v v' : Value} {n n' : Nat} {xs xs' : List Value} (h : w.ownsRow b e s v n xs) (h' : w.ownsRow b' e' s' v' n' xs') (he : e ≠ e') : ∀ k, v.ownBlock = some k → ¬ v'.ownBlock = some k := by
  intro k hk hk'
  rcases ownsRow_ne h h' he with h0 | h0
  · rw [h0] at hk; cases hk
  · exact h0 (hk.trans hk'.symm)
theorem ownsRow_row_apart {w : World} {b g : Nat} {e e' : TypeId} {s : Nat} {v : Value} {n : Nat} {xs ys : List Value} (h : w.ownsRow b e s v n xs) (h' : Row w g e' ys) (he : e ≠ e') : ¬ v.ownBlock = some g := by
  intro hk
  rcases h.2 with ⟨rfl, _⟩ | ⟨g', cap, cur, rfl, _, h1, _⟩
  · cases hk
  · have : g' = g := by injection hk
    subst this
    unfold Row at h'
    rw [h1] at h'
    injection h' with h'
    injection h' with _ h2
    exact he h2
theorem wpList_append_c {P : Program} {wr : World} {ops : Array Oper} {rest : List Oper} {o : Oper} {a : Act} {Q : Exit → Act → World → Prop} (hgd : o.guard = none) (s x : Operand) (t : TypeId)
    (ho : o.op = .call { callee := .builtin .append, args := #[s, x], argTypes := #[t, t] })
    (e : TypeId) (z : Value) (bytes : Nat) (ht : P.underlying t = some (.slice e)) (hinfo : (P.info? e).map (fun i => (i.zero, i.size, i.bytes)) = some (some z, 1, bytes)) (hz1 : z.cells.size = 1)
    (v : Value) (pre : List Value) (hs : a.eval s = v) (base n : Nat) (hown : wr.ownsRow base e 1 v n pre) (hbase : base ≤ wr.heap.size)
    (u : Value) (hu : u.oneCell' = true) (N : Nat) (hx : a.eval x = .slice (some ⟨N, 0, none⟩) 1 1) (hN : N = wr.heap.size) (hlen : (n + 1) * bytes ≤ 140737488355328) (hmax : n + 1 ≤ 140737488355328)
    (h : ∀ v' w', w'.ownsRow base e 1 v' (n + 1) (pre ++ [u]) → Only (fun k => v.ownBlock = some k) wr w' → (∀ k, v'.ownBlock = some k → v.ownBlock = some k ∨ wr.heap.size ≤ k) → wpList P ops Q rest (a.put o.dst v') w') :
    wpList P ops Q (o :: rest) a (wr.alloc (.cells #[u] e)) := by
  subst hN
  obtain ⟨i0, hi, hz0, hs1, hs2⟩ := info_parts hinfo
  refine wpList_append_own_at _ hgd s x t ho base e i0 z 1 bytes ht hi hz0 hs1 hs2 hz1 (by decide) v n pre hs (hown.alloc _) ⟨wr.heap.size, 0, none⟩ 1 1 [u] hx rfl (cell_one_new _ _ _) ?_ (by unfold maxLen; omega) hlen (by simp; omega) ?_
  · intro y hy; simp at hy; subst hy; exact hu
  · intro v' w' h1 h2 _ h4
    refine h v' w' h1 ((Only.of_grows ((Below.refl _ _).alloc (Nat.le_refl _) _) _).trans (Only.by_ h2) (fun i hi => .inl hi)) (fun k hk => ?_)
    rcases h4 with h5 | h5
    · exact .inl (by rw [← h5]; exact hk)
    · rw [h5] at hk
      injection hk with hk
      subst hk
      exact .inr (by simp)
theorem run_storeVar_c {P : Program} (w : World) (b o : Nat) (ty : TypeId) (u : Value) (hc : (w.cell? ⟨b, o, none⟩).isSome = true) (hf : w.frozen? ⟨b, o, none⟩ = false) (hi : (P.info? ty).map (·.size) = some 1) (h1 : u.oneCell' = true) :
    (storeVar ty ⟨b, o, none⟩ u).run P w = .ok () (w.setCell ⟨b, o, none⟩ u) := by
  have := run_storeCells_cells (P := P) b o [u] 0 w (fun j hj => by simp at hj; subst hj; simpa using hc) (fun j hj => by simp at hj; subst hj; simpa using hf) (fun v hv => by simp at hv; subst hv; exact h1)
  have hcs : u.cells = #[u] := by cases u <;> first | rfl | cases h1
  cases hq : P.info? ty with
  | none => simp [hq] at hi
  | some i =>
    have hs : i.size = 1 := by simpa [hq] using hi
    simp only [Nat.add_zero] at this
    simp [storeVar, sizeOf, typeInfo, hq, hcs, hs, this]
    rfl
theorem wpList_store_c {P : Program} {wr : World} {ops : Array Oper} {rest : List Oper} {op : Oper} {a : Act} {Q : Exit → Act → World → Prop} (hgd : op.guard = none) (τ : TypeId) (x y : Operand) (ho : op.op = .store τ x y)
    (hi : (P.info? τ).map (·.size) = some 1)
    (g k : Nat) (hx : a.eval x = .pointer (some ⟨g, k, none⟩)) (u : Value) (hy : a.eval y = u) (h1 : u.oneCell' = true) (T : TypeId) (xs : List Value) (hr : Row wr g T xs) (hl : k < xs.length)
    (h : ∀ W, Row W g T (xs.set k u) → Only (fun i => i = g) wr W → wpList P ops Q rest (a.put op.dst undef) W) : wpList P ops Q (op :: rest) a wr := by
  have hc : (wr.cell? ⟨g, k, none⟩).isSome = true := by rw [hr.cell, List.getElem?_eq_getElem hl]; rfl
  have hf := hr.frozen k
  subst hy
  refine wpList_plain hgd fun K hK => ?_
  unfold Oper.wp execOp
  simp only [ho, hx, Instr.storeAt, Instr.sureAddr, Sem.run_bind, Sem.run_pure, Result.andThen_ok, run_storeVar_c (P := P) wr g k τ _ hc hf hi h1]
  exact hK _ _ (h _ (hr.set_m k _) (Only.set wr g k _))
def OwnV (base : Nat) (w : World) (x : Value) (v : Vec) : Prop := ∃ a b c, x = .agg #[.int .i64 v.T, a, b, c] ∧ w.ownsRow base 2 1 a v.is.length (icells v.is) ∧ w.ownsRow base 9 1 b v.ts.length (scells v.ts) ∧ w.ownsRow base 4 1 c v.ns.length (tcells v.ns)
def blocksV : Value → Nat → Prop
  | .agg #[_, a, b, c], k => a.ownBlock = some k ∨ b.ownBlock = some k ∨ c.ownBlock = some k
  | _, _ => False
theorem OwnV.only {B : Nat → Prop} {base : Nat} {w w' : World} {x : Value} {v : Vec} (h : OwnV base w x v) (hb : Only B w w') (hn : ∀ k, blocksV x k → ¬ B k) : OwnV base w' x v := by
  obtain ⟨a, b, c, rfl, h1, h2, h3⟩ := h
  exact ⟨a, b, c, rfl, ownsRow_only h1 hb (fun k hk => hn k (.inl hk)), ownsRow_only h2 hb (fun k hk => hn k (.inr (.inl hk))), ownsRow_only h3 hb (fun k hk => hn k (.inr (.inr hk)))⟩
theorem OwnV.nil_ (base : Nat) (w : World) (T : Int) : OwnV base w (.agg #[.int .i64 T, .slice none 0 0, .slice none 0 0, .slice none 0 0]) ⟨T, [], [], []⟩ :=
  ⟨_, _, _, rfl, World.ownsRow_nil _ _ _ _, World.ownsRow_nil _ _ _ _, World.ownsRow_nil _ _ _ _⟩
end Go.Proofs.YtoaklmceejeblaaGreat
