/-
  What the contracts of package bitset say: a set as a result ('SetR'); what a range over its elements may write ('BelowBut'). No condition.
-/
import Derived.Test.YtaegolkoinjmoaaDoorBsRef9
import Derived.RangeFuncNested
import Derived.RangeFuncBound
import Derived.RangeFuncCalls
import Derived.RangeFuncLeaves
import Derived.RangeFuncBox
import Derived.Shelf.Abstract
import Derived.Shelf.RegionOpen
import Derived.OwnWalkIn
import Derived.TacticsInMore
import Derived.LoopNIn
import Derived.LoopIn
import Derived.Maps.AppendAt
namespace Go.Proofs.YtaegolkoinjmoaaDoor
open Go.RowKit Go.Shelf

def SetR (n : Nat) (f : Nat → Bool) (w : World) (e : Ending) (w' : World) : Prop := ∃ s, e = .returned s ∧ IsSet w' s n (pack n f) ∧ Grows w w'
theorem FreshSet.setR {n : Nat} {f : Nat → Bool} {w w' : World} {e : Ending} (hn : n ≤ 1048576) (h : FreshSet n (pack n f) w e w') : SetR n f w e w' := h.isSet hn

/-- what lay below block H lies as it lay, but for block B -/
structure BelowBut (H B : Nat) (w w' : World) : Prop where
  os : w'.os = w.os
  tape : w'.tape = w.tape
  output : w'.output = w.output
  size : w.heap.size ≤ w'.heap.size
  block : ∀ k, k < H → k ≠ B → w'.heap[k]? = w.heap[k]?
theorem BelowBut.refl (H B : Nat) (w : World) : BelowBut H B w w := ⟨rfl, rfl, rfl, Nat.le_refl _, fun _ _ _ => rfl⟩
theorem BelowBut.trans {H B : Nat} {a b c : World} (h : BelowBut H B a b) (k : BelowBut H B b c) : BelowBut H B a c :=
  ⟨k.os.trans h.os, k.tape.trans h.tape, k.output.trans h.output, Nat.le_trans h.size k.size, fun i hi hb => (k.block i hi hb).trans (h.block i hi hb)⟩
theorem BelowBut.of_below {H B : Nat} {a b : World} (h : Below H a b) : BelowBut H B a b := ⟨h.os, h.tape, h.output, h.size, fun k hk _ => h.block k hk⟩

theorem BelowBut.setCell {H B : Nat} {a b : World} (h : BelowBut H B a b) {p : Addr} (hp : p.block = B) (u : Value) : BelowBut H B a (b.setCell p u) :=
  h.trans ⟨rfl, rfl, rfl, by simp [World.setCell], fun k _ hb => Below.heap_setCell _ _ _ _ (by omega)⟩
theorem belowBut_t {H B : Nat} {a b c : World} (h : BelowBut H B a b) (k : BelowBut H B b c) : BelowBut H B a c := h.trans k
theorem belowBut_b {H B : Nat} {w : World} (hn : H ≤ w.heap.size) (W : World) (l : Nat) (o o' : Obj) (hl : w.heap.size ≤ l) (h : W.heap[l]? = some o) (h1 : o.isCells = false) (h2 : o.isWalk = false) : BelowBut H B W (W.putObj l o') :=
  .of_below (belowK_b hn W l o o' hl h h1 h2)

theorem equalIn_func_nil {P : Program} (d : Nat) (t : TypeId) {ps rs : Array TypeId} {vd : Bool} (h : P.underlying t = some (.func ps rs vd)) (fn : Fn) (fi lb : Array Value) (w : World) : (Op.equalIn (d + 1) t (.func fn fi lb) .nilFunc).run P w = .ok false w := by
  simp [Op.equalIn, run_underlying h]
theorem eql_func_nil (fn : Fn) (fi lb : Array Value) (w : World) : (binOp .eql 51 (.func fn fi lb) .nilFunc).run Tryd.prog w = .ok (.bool false) w := by
  simp only [binOp]
  simp [Op.equal, Op.maxDepth, equalIn_func_nil 9999 51 Tryd.underlying51]
/-- 'out = append(out, x)' in a round, out in the box B -/
theorem appendedB {W w1 : World} {H B : Nat} {t e : TypeId} {size : Nat} {v v' : Value} {k m : Nat} {xs ys : List Value} {tmp : Obj} (hv : Boxed W B t v) (hte : t ≠ e) (hrow : W.ownsRow H e size v k xs) (hH : H ≤ W.heap.size)
    (hown' : w1.ownsRow H e size v' m ys) (hgrow : (W.alloc tmp).grownBy w1 v.ownBlock) :
    Boxed w1 B t v ∧ Boxed (w1.setCell ⟨B, 0, none⟩ v') B t v' ∧ (w1.setCell ⟨B, 0, none⟩ v').ownsRow H e size v' m ys ∧ KeepsOthers W (w1.setCell ⟨B, 0, none⟩ v') ∧ BelowBut H B W (w1.setCell ⟨B, 0, none⟩ v') := by
  have hv1 : Boxed w1 B t v := (hv.alloc tmp).kept hgrow (hv.not_row hte hrow)
  refine ⟨hv1, hv1.set v', hown'.kept (grownBy_setCell' w1 B v') (.inr (hv1.not_row hte hown').symm), ?_, ?_⟩
  · refine ((KeepsOthers.alloc W tmp).trans (KeepsOthers.of_grownBy hgrow fun j o ej hj => ?_)).trans (KeepsOthers.setCell _ _ _)
    rcases (hrow.alloc tmp).2 with ⟨rfl, _⟩ | ⟨g, cap, cur, rfl, _, hgb, _⟩
    · simp [Value.ownBlock] at ej
    · obtain rfl : g = j := by simpa [Value.ownBlock] using ej
      rw [hgb] at hj; cases hj; rfl
  · refine (BelowBut.of_below (((Below.refl H W).alloc hH tmp).grown hgrow (by simp; omega) fun j ej => ?_)).setCell (p := ⟨B, 0, none⟩) rfl v'
    rcases hrow.2 with ⟨rfl, _⟩ | ⟨g, cap, cur, rfl, hb, _, _⟩
    · simp [Value.ownBlock] at ej
    · obtain rfl : g = j := by simpa [Value.ownBlock] using ej
      exact hb
theorem ownFrom_belowBut {β : Type} {H C B : Nat} {w₀ : World} (hH : H ≤ w₀.heap.size) (hB : H ≤ B) : OwnFrom B (fun (_ : β) W => BelowBut H C w₀ W) :=
  fun _ _ _ _ hs hg hr => hs.trans (.of_below ((Below.refl H _).grown hg (Nat.le_trans hH hs.size) (fun k e => Nat.le_trans hB (hr k e).1)))
/-- what a range leaves of what lay ahead of it -/
theorem BelowBut.below {H B n₀ : Nat} {w a b : World} (h : BelowBut H B a b) (hw : Below n₀ w a) (h1 : n₀ ≤ H) (h2 : n₀ ≤ B) : Below n₀ w b :=
  ⟨h.os.trans hw.os, h.tape.trans hw.tape, h.output.trans hw.output, Nat.le_trans hw.size h.size, fun k hk => (h.block k (by omega) (by omega)).trans (hw.block k hk)⟩

end Go.Proofs.YtaegolkoinjmoaaDoor
