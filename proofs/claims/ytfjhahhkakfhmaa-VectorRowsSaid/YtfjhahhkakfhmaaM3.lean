/-
  Texts that the claims of this seat share, put together (Val, Val2). No condition.
-/
import Derived.Test.YtfjhahhkakfhmaaProg
import Derived.Test.YtfjhahhkakfhmaaM1
import Derived.Laws.Cover1
import Derived.WalkKit
/-
  Shaken: what the claims of this seat need of this text. No condition.
-/
namespace Go.Proofs.Ytfjhahhkakfhmaa
set_option maxRecDepth 8000
open Go.RowKit
set_option linter.unusedVariables false
set_option linter.unusedSimpArgs false
theorem grow1 {w : World} (o : Obj) : Grows w (w.alloc o) := (Below.refl _ _).alloc (Nat.le_refl _) o
def validV (k n : Int) (t : ByteArray) : Bool :=
  if k = 0 then (n == 0) && t.toList.isEmpty
  else if k = 1 then ((n == 0) || (n == 1)) && t.toList.isEmpty
  else if k = 2 then t.toList.isEmpty
  else if k = 3 then (n == 0) && decide (t.size ≤ 4096)
  else false
def sgnV (a b : Bool) : Int := if a then -1 else if b then 1 else 0
def gtS (s t : ByteArray) : Bool := !Op.bytesLess s.toList t.toList && !s.toList == t.toList
def cmpV (k n : Int) (t : ByteArray) (k' n' : Int) (t' : ByteArray) : Int :=
  if k = k' then (if k = 3 then sgnV (Op.bytesLess t.toList t'.toList) (gtS t t') else sgnV (decide (n < n')) (decide (n' < n))) else sgnV (decide (k < k')) true
theorem size_val : (Try.prog.info? 37).map (·.size) = some 3 := by kernel_rfl
theorem results_val {fn : Func} {p : Tmp} (h : fn.results = #[.cell p 37]) (tmps : Array Value) (w : World) (g : Nat) (k n t : Value) (hp : tmps.getD p undef = .pointer (some ⟨g, 0, none⟩)) (hg : Row w g 37 [k, n, t]) :
    (results fn tmps).run Try.prog w = .ok (.agg #[k, n, t]) w :=
  results_cell_row h tmps w g 37 #[k, n, t] (0, 0) _ hp hg Try.underlying37 rfl size_val
theorem valSet_row {w : World} {g : Nat} {e : TypeId} {xs : List Value} (h : Row w g e xs) (ys : List Value) : Row (w.setRow g ys.toArray) g e ys := by
  unfold Row at h ⊢
  simp [World.setRow, Array.getElem?_modify, h]
theorem valSet_below {B g : Nat} {a w : World} (h : Below B a w) (hg : B ≤ g) (cs : Array Value) : Below B a (w.setRow g cs) :=
  ⟨h.os, h.tape, h.output, by simpa [World.setRow] using h.size, fun k hk => by
    have e : (w.setRow g cs).heap[k]? = w.heap[k]? := by simp only [World.setRow]; rw [Array.getElem?_modify, if_neg (by omega)]
    exact e.trans (h.block k hk)⟩
end Go.Proofs.Ytfjhahhkakfhmaa
/-
  Shaken: what the claims of this seat need of this text. No condition.
-/
namespace Go.Proofs.Ytfjhahhkakfhmaa
set_option maxRecDepth 8000
open Go.RowKit
set_option linter.unusedVariables false
set_option linter.unusedSimpArgs false
end Go.Proofs.Ytfjhahhkakfhmaa
