/-
  Shaken: what the claims of this seat need of this text. No condition.
-/
import Derived.Test.YtoaklmceejeblaaGreatM7
import Derived.Deep.MidRow
namespace Go.Proofs.YtoaklmceejeblaaGreat
set_option maxRecDepth 8000
open Go.RowKit
set_option linter.unusedVariables false
set_option linter.unusedSimpArgs false
theorem Row.set_m {w : World} {g : Nat} {e : TypeId} {xs : List Value} (h : Row w g e xs) (k : Nat) (v : Value) : Row (w.setCell ⟨g, k, none⟩ v) g e (xs.set k v) := by
  unfold Row at h ⊢
  simp only [World.setCell]
  rw [Array.getElem?_modify, if_pos rfl, h]
  simp
structure Turned (g : Nat) (w W : World) : Prop where
  grows : ∀ w0, Grows w0 w → w0.heap.size ≤ g → Grows w0 W
  row : ∀ g' e ys, g' ≠ g → Row w g' e ys → Row W g' e ys
  size : W.heap.size = w.heap.size
  cell : ∀ p : Addr, p.block ≠ g → W.cell? p = w.cell? p
theorem Turned.trans {g : Nat} {a b c : World} (h : Turned g a b) (k : Turned g b c) : Turned g a c :=
  ⟨fun w0 h0 hg => k.grows w0 (h.grows w0 h0 hg) hg, fun g' e ys hne hr => k.row g' e ys hne (h.row g' e ys hne hr), k.size.trans h.size, fun p hp => (k.cell p hp).trans (h.cell p hp)⟩
def set3 (xs : List Value) (o : Nat) (x y z : Value) : List Value := ((xs.set o x).set (o + 1) y).set (o + 2) z
end Go.Proofs.YtoaklmceejeblaaGreat
