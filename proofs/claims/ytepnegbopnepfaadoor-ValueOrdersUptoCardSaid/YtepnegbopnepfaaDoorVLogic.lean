/-
  The reference's And and Or over a row of values. Nothing that was there is changed.
-/
import Derived.Test.YtepnegbopnepfaaDoorVRow
namespace Go.Proofs.YtepnegbopnepfaaDoor
open Go.RowKit
set_option linter.unusedVariables false
set_option linter.unusedSimpArgs false

def Val.tru (x : Val) : Bool := x.k == 1 && x.n == 1
def Val.fal (x : Val) : Bool := x.k == 1 && x.n == 0
def andL (l : List Val) : Value := if l.any Val.fal then boolV false else if l.any (fun x => !x.tru) then nullV else boolV true
def orL (l : List Val) : Value := if l.any Val.tru then boolV true else if l.any (fun x => !x.fal) then nullV else boolV false
theorem any_step {p : Val → Bool} {l : List Val} {j : Nat} {x : Val} (h : l[j]? = some x) : (l.take (j + 1)).any p = ((l.take j).any p || p x) := by
  rw [List.take_add_one, h]
  simp
theorem any_hit {p : Val → Bool} {l : List Val} {j : Nat} {x : Val} (h : l[j]? = some x) (hp : p x = true) : l.any p = true := List.any_eq_true.2 ⟨x, List.mem_of_getElem? h, hp⟩
def LogRel (W0 : World) (p q : Val → Bool) (l : List Val) (u i : Value) (wr : World) : Prop :=
  ∃ j : Nat, j ≤ l.length ∧ i = .int .i64 (j : Int) ∧ u = .bool ((l.take j).any q) ∧ (l.take j).any p = false ∧ Grows W0 wr
end Go.Proofs.YtepnegbopnepfaaDoor
