/-
  The reference's Test, Negate, Assignable, Concat over api.Value. Nothing that was there is changed.
-/
import Derived.Test.YtaiphocnfkkigaaDoorVal
namespace Go.Proofs.YtaiphocnfkkigaaDoor
open Go.RowKit
set_option linter.unusedVariables false
set_option linter.unusedSimpArgs false

def testV (op k n : Int) (t : ByteArray) (k' n' : Int) (t' : ByteArray) : Value :=
  if k = 0 ∨ k ≠ k' ∨ op < 1 ∨ 6 < op then nullV else boolV (holdsV op (cmpV k n t k' n' t'))
theorem grow3 {w : World} (o o' o2 : Obj) : Grows w (((w.alloc o).alloc o').alloc o2) := (((Below.refl _ _).alloc (Nat.le_refl _) _).alloc (by simp) _).alloc (by simp; omega) _
theorem valRow3 (w w2 : World) (o o' : Obj) (k n t : Value) (g : Grows (((w.alloc o).alloc o').alloc (.cells #[k, n, t] 37)) w2) : Row w2 (w.heap.size + 2) 37 [k, n, t] :=
  (Row.at_ ((w.alloc o).alloc o') 37 #[k, n, t] [k, n, t] rfl (w.heap.size + 2) (by simp)).grow g
def negV (k n : Int) : Value := if k = 2 ∧ n ≠ -9223372036854775808 then intV (-n) else nullV
def assignV (k ty : Int) (nn : Bool) : Int := if k = 0 then (if nn then 17 else 0) else if k = ty then 0 else 7
end Go.Proofs.YtaiphocnfkkigaaDoor
