/-
  Shaken: what the claims of this seat need of this text. No condition.
-/
import Derived.Test.YtfjhahhkakfhmaaM3
import Derived.Deep.MidRow
namespace Go.Proofs.Ytfjhahhkakfhmaa
set_option maxRecDepth 8000
open Go.RowKit
set_option linter.unusedVariables false
set_option linter.unusedSimpArgs false
theorem Row.set_m {w : World} {g : Nat} {e : TypeId} {xs : List Value} (h : Row w g e xs) (k : Nat) (v : Value) : Row (w.setCell ⟨g, k, none⟩ v) g e (xs.set k v) := by
  unfold Row at h ⊢
  simp only [World.setCell]
  rw [Array.getElem?_modify, if_pos rfl, h]
  simp
theorem Row.other_m {w : World} {g g' : Nat} {e : TypeId} {xs : List Value} (h : Row w g' e xs) (k : Nat) (v : Value) (hne : g' ≠ g) : Row (w.setCell ⟨g, k, none⟩ v) g' e xs := by
  unfold Row at h ⊢
  rw [Below.heap_setCell w ⟨g, k, none⟩ v g' hne]
  exact h
structure Turned (g : Nat) (w W : World) : Prop where
  grows : ∀ w0, Grows w0 w → w0.heap.size ≤ g → Grows w0 W
  row : ∀ g' e ys, g' ≠ g → Row w g' e ys → Row W g' e ys
  size : W.heap.size = w.heap.size
  cell : ∀ p : Addr, p.block ≠ g → W.cell? p = w.cell? p
theorem Turned.one (w : World) (g k : Nat) (v : Value) : Turned g w (w.setCell ⟨g, k, none⟩ v) :=
  ⟨fun w0 h hg => h.setCell (p := ⟨g, k, none⟩) hg _, fun g' e ys hne h => h.other_m k v hne, by simp [World.setCell], fun p hp => World.cell?_of_block (Below.heap_setCell w ⟨g, k, none⟩ v p.block hp)⟩
theorem Turned.trans {g : Nat} {a b c : World} (h : Turned g a b) (k : Turned g b c) : Turned g a c :=
  ⟨fun w0 h0 hg => k.grows w0 (h.grows w0 h0 hg) hg, fun g' e ys hne hr => k.row g' e ys hne (h.row g' e ys hne hr), k.size.trans h.size, fun p hp => (k.cell p hp).trans (h.cell p hp)⟩
theorem Turned.row_ (w : World) (g : Nat) (cs : Array Value) : Turned g w (w.setRow g cs) := by
  have hb : ∀ b, b ≠ g → (w.setRow g cs).heap[b]? = w.heap[b]? := fun b hne => by
    simp only [World.setRow]
    rw [Array.getElem?_modify, if_neg (Ne.symm hne)]
  exact ⟨fun w0 h hg => valSet_below h hg _, fun g' e ys hne h => by unfold Row at h ⊢; rw [hb g' hne]; exact h, by simp [World.setRow], fun p hp => World.cell?_of_block (hb p.block hp)⟩
def set3 (xs : List Value) (o : Nat) (x y z : Value) : List Value := ((xs.set o x).set (o + 1) y).set (o + 2) z
theorem wpList_store_f3 {wr : World} {ops : Array Oper} {rest : List Oper} {op : Oper} {a : Act} {Q : Exit → Act → World → Prop} (hgd : op.guard = none) (x y : Operand) (ho : op.op = .store 37 x y)
    (g o : Nat) (hx : a.eval x = .pointer (some ⟨g, o, none⟩)) (k n : Int) (t : ByteArray) (hy : a.eval y = .agg #[.int .i64 k, .int .i64 n, .string t]) (T : TypeId) (xs : List Value) (hr : Row wr g T xs) (hl : o + 3 ≤ xs.length)
    (h : ∀ W, Row W g T (set3 xs o (.int .i64 k) (.int .i64 n) (.string t)) → Turned g wr W → wpList Try.prog ops Q rest (a.put op.dst undef) W) : wpList Try.prog ops Q (op :: rest) a wr := by
  refine wpList_store_mid hgd _ x y ho g o #[.int .i64 k, .int .i64 n, .string t] hx hy (fun j hj => ⟨?_, hr.frozen _⟩) size_val (by simp [Value.oneCell']) ?_
  · have hj : j < 3 := hj
    rw [hr.cell, List.getElem?_eq_getElem (by omega)]; rfl
  · exact h _ (((hr.set_m o _).set_m (o + 1) _).set_m (o + 2) _) (((Turned.one _ _ _ _).trans (Turned.one _ _ _ _)).trans (Turned.one _ _ _ _))
end Go.Proofs.Ytfjhahhkakfhmaa
