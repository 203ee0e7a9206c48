/-
  Package value as it landed: decide, And, Or over a row of values. Nothing that was there is changed.
-/
import Derived.Test.YtepnegbopnepfaaDoorLv1
import Derived.Test.YtepnegbopnepfaaDoorVLogic
namespace Go.Proofs.YtepnegbopnepfaaDoor
open Go.RowKit
set_option linter.unusedVariables false
set_option linter.unusedSimpArgs false

/-- a value into a variable just made -/
theorem wpList_store_new {W0 : World} {ops : Array Oper} {rest : List Oper} {o : Oper} {a : Act} {Q : Exit → Act → World → Prop} (hgd : o.guard = none) (x y : Operand) (ho : o.op = .store 28 x y)
    (w : World) {z1 z2 z3 : Value} (hW : W0 = w.alloc (.cells #[z1, z2, z3] 28)) (hx : a.eval x = .pointer (some ⟨w.heap.size, 0, none⟩)) (k n : Int) (t : ByteArray) (hy : a.eval y = .agg #[.int .i64 k, .int .i64 n, .string t])
    (h : ∀ W, Row W w.heap.size 28 [.int .i64 k, .int .i64 n, .string t] → Grows w W → W.heap.size = w.heap.size + 1 → wpList Tryd.prog ops Q rest (a.put o.dst undef) W) : wpList Tryd.prog ops Q (o :: rest) a W0 := by
  subst hW
  exact wpList_store_val hgd x y ho w.heap.size hx k n t hy (valRow w z1 z2 z3)
    (h _ (valSet_row (valRow w z1 z2 z3) [.int .i64 k, .int .i64 n, .string t]) (valSet_below (grow1 _) (Nat.le_refl _) _) (by simp [World.setRow]))
theorem rowCells {w : World} {g : Nat} {k n t : Value} (h : Row w g 28 [k, n, t]) : w.cell? ⟨g, 0, none⟩ = some k ∧ w.cell? ⟨g, 1, none⟩ = some n ∧ w.cell? ⟨g, 2, none⟩ = some t := ⟨h.cell 0, h.cell 1, h.cell 2⟩

theorem rowSet_other {w : World} {g g' : Nat} {e : TypeId} {xs : List Value} {cs : Array Value} (h : Row w g e xs) (hne : g ≠ g') : Row (w.setRow g' cs) g e xs := by
  unfold Row at h ⊢
  simp only [World.setRow]
  rw [Array.getElem?_modify, if_neg (by omega)]
  exact h
def decHit (d : Int) (x : Val) : Bool := x.k == 1 && x.n == d
def nonB (x : Val) : Bool := x.k != 1
def resK (u : Bool) : Int := if u then 0 else 1
def resN (d : Int) (u : Bool) : Int := if u then 0 else if d == 0 then 1 else 0
def decL (d : Int) (l : List Val) : Value :=
  if l.any (decHit d) then .agg #[.int .i64 1, .int .i64 d, .string ⟨#[]⟩] else .agg #[.int .i64 (resK (l.any nonB)), .int .i64 (resN d (l.any nonB)), .string ⟨#[]⟩]
def DecRel (w : World) (g : Nat) (d : Int) (l : List Val) (i : Value) (wr : World) : Prop :=
  ∃ j : Nat, j ≤ l.length ∧ i = .int .i64 (j : Int) ∧ (l.take j).any (decHit d) = false ∧ Row wr w.heap.size 28 [.int .i64 1, .int .i64 d, .string ⟨#[]⟩] ∧
    (∃ z1 z2 z3, Row wr (w.heap.size + 1) 28 [z1, z2, z3]) ∧ Row wr g 28 [.int .i64 (resK ((l.take j).any nonB)), .int .i64 (resN d ((l.take j).any nonB)), .string ⟨#[]⟩] ∧ Grows w wr
end Go.Proofs.YtepnegbopnepfaaDoor
