/-
  Texts that the claims of this seat share, put together (BkBase, Iter). No condition.
-/
import Derived.Test.YtgegjoggiadgbaaM7
import Derived.RangeFuncNested
import Derived.RangeFuncBound
import Derived.RangeFuncCalls
import Derived.RangeFuncLeaves
import Derived.RangeFuncBox
import Derived.Shelf.Abstract
import Derived.Shelf.RegionOpen
import Derived.OwnWalkIn
import Derived.TacticsInMore
import Derived.LoopNIn
import Derived.LoopIn
import Derived.Maps.AppendAt
/-
  Shaken: what the claims of this seat need of this text. No condition.
-/
namespace Go.Proofs.Ytgegjoggiadgbaa
set_option maxRecDepth 8000
open Go.RowKit Go.Shelf
structure BelowBut (H B : Nat) (w w' : World) : Prop where
  os : w'.os = w.os
  tape : w'.tape = w.tape
  output : w'.output = w.output
  size : w.heap.size ≤ w'.heap.size
  block : ∀ k, k < H → k ≠ B → w'.heap[k]? = w.heap[k]?
theorem BelowBut.refl (H B : Nat) (w : World) : BelowBut H B w w := ⟨rfl, rfl, rfl, Nat.le_refl _, fun _ _ _ => rfl⟩
theorem BelowBut.trans {H B : Nat} {a b c : World} (h : BelowBut H B a b) (k : BelowBut H B b c) : BelowBut H B a c :=
  ⟨k.os.trans h.os, k.tape.trans h.tape, k.output.trans h.output, Nat.le_trans h.size k.size, fun i hi hb => (k.block i hi hb).trans (h.block i hi hb)⟩
theorem BelowBut.of_below {H B : Nat} {a b : World} (h : Below H a b) : BelowBut H B a b := ⟨h.os, h.tape, h.output, h.size, fun k hk _ => h.block k hk⟩
theorem BelowBut.setCell {H B : Nat} {a b : World} (h : BelowBut H B a b) {p : Addr} (hp : p.block = B) (u : Value) : BelowBut H B a (b.setCell p u) :=
  h.trans ⟨rfl, rfl, rfl, by simp [World.setCell], fun k _ hb => Below.heap_setCell _ _ _ _ (by omega)⟩
theorem BelowBut.below {H B n₀ : Nat} {w a b : World} (h : BelowBut H B a b) (hw : Below n₀ w a) (h1 : n₀ ≤ H) (h2 : n₀ ≤ B) : Below n₀ w b :=
  ⟨h.os.trans hw.os, h.tape.trans hw.tape, h.output.trans hw.output, Nat.le_trans hw.size h.size, fun k hk => (h.block k (by omega) (by omega)).trans (hw.block k hk)⟩
end Go.Proofs.Ytgegjoggiadgbaa
/-
  Shaken: what the claims of this seat need of this text. No condition.
-/
namespace Go.Proofs.Ytgegjoggiadgbaa
set_option maxRecDepth 8000
open Go.RowKit Go.Shelf
def Ones (s : Nat) (W W' : World) : Prop := ∀ k v t, s ≤ k → W.heap[k]? = some (.cells #[v] t (0, 0)) → W'.heap[k]? = some (.cells #[v] t (0, 0))
theorem Ones.refl (s : Nat) (W : World) : Ones s W W := fun _ _ _ _ h => h
theorem Ones.trans {s : Nat} {A B C : World} (h : Ones s A B) (k : Ones s B C) : Ones s A C := fun i v t hi hc => k i v t hi (h i v t hi hc)
theorem Ones.putObj {s : Nat} {W : World} {l : Nat} {o : Obj} (o' : Obj) (hl : W.heap[l]? = some o) (hc : o.isCells = false) : Ones s W (W.putObj l o') := fun k v t _ h => by
  have e : k ≠ l := fun e => by subst e; rw [hl] at h; cases h; cases hc
  exact (World.putObj_heap_other e).trans h
theorem Ones.setCell {s : Nat} {W : World} {B : Nat} (hB : B < s) (v : Value) : Ones s W (W.setCell ⟨B, 0, none⟩ v) := fun k u t hk h => by
  exact (Below.heap_setCell _ _ _ _ (by show k ≠ B; omega)).trans h
structure Keeps (H B s : Nat) (W W' : World) : Prop where
  but : BelowBut H B W W'
  others : ∀ (k : Nat) (o : Obj), s ≤ k → W.heap[k]? = some o → o.isCells = false → W'.heap[k]? = some o
  ones : Ones s W W'
theorem BelowBut.putObj {H B : Nat} (W : World) {l : Nat} (hl : H ≤ l) (o' : Obj) : BelowBut H B W (W.putObj l o') :=
  ⟨rfl, rfl, rfl, by simp, fun k hk _ => World.putObj_heap_other (by omega)⟩
end Go.Proofs.Ytgegjoggiadgbaa
