/-
  The reference's number and Arith over api.Value. Nothing that was there is changed.
-/
import Derived.Test.YtepnegbopnepfaaDoorVal3
namespace Go.Proofs.YtepnegbopnepfaaDoor
open Go.RowKit
set_option linter.unusedVariables false
set_option linter.unusedSimpArgs false

def fitI (x : Int) : Option Int := if -9223372036854775808 ≤ x ∧ x ≤ 9223372036854775807 then some x else none
def numE (op a b : Int) : Option Int :=
  if op = 9 then fitI (a + b) else if op = 10 then fitI (a - b) else if op = 11 then fitI (a * b)
  else if op = 12 then (if b = 0 then none else fitI (a.tdiv b)) else if op = 13 then (if b = 0 then none else some (a.tmod b)) else none
def NumIs (op a b : Int) (w : World) (e : Ending) (w' : World) : Prop := ∃ n ok, e = .returned (.tuple #[.int .i64 n, .bool ok]) ∧ (if ok = true then some n else none) = numE op a b ∧ Grows w w'
theorem numFin {x : Int} {ok : Bool} (h : ok = true ↔ inI x) : (if ok = true then some (wrap64 x) else none) = fitI x := by
  unfold fitI
  by_cases hx : inI x
  · rw [if_pos (h.2 hx), if_pos (show -9223372036854775808 ≤ x ∧ x ≤ 9223372036854775807 from hx), wrap64_of hx]
  · rw [if_neg (fun e => hx (h.1 e)), if_neg (show ¬ (-9223372036854775808 ≤ x ∧ x ≤ 9223372036854775807) from hx)]
theorem tdiv_fit {a b : Int} (ha : inI a) (hb0 : b ≠ 0) (hb1 : b ≠ -1) : inI (a.tdiv b) := by
  have h1 : (a.tdiv b).natAbs = a.natAbs / b.natAbs := Int.natAbs_tdiv _ _
  unfold inI at *
  by_cases hb : b = 1
  · subst hb
    rw [Int.tdiv_one]; exact ha
  · have h3 : a.natAbs / b.natAbs ≤ a.natAbs / 2 := Nat.div_le_div_left (by omega) (by omega)
    generalize a.tdiv b = q at *
    omega
def arithV (op k n k' n' : Int) : Value := if k = 2 ∧ k' = 2 then (match numE op n n' with | some r => intV r | none => nullV) else nullV
end Go.Proofs.YtepnegbopnepfaaDoor
