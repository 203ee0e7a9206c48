/-
  The reference's Select, And, Or, AndNot and Not return what the document says; nothing that was there is changed.
-/
import Derived.Test.YtnjmbhakfecdoaaBsRef3
namespace Go.Proofs.Ytnjmbhakfecdoaa
open Go.RowKit

def selI (n : Nat) (f : Nat → Bool) (k : Int) : Int := if 0 ≤ k then (match (elems f n)[k.toNat]? with | some i => (i : Int) | none => -1) else -1
theorem selI_neg {n : Nat} {f : Nat → Bool} {k : Int} (h : k < 0) : selI n f k = -1 := by unfold selI; rw [if_neg (by omega)]
theorem selI_out {n : Nat} {f : Nat → Bool} {k : Nat} (h : (elems f n).length ≤ k) : selI n f (k : Int) = -1 := by unfold selI; rw [if_pos (by omega), Int.toNat_natCast, List.getElem?_eq_none h]
theorem selI_at {n : Nat} {f : Nat → Bool} {k : Nat} (h : k < (elems f n).length) : selI n f (k : Int) = ((elems f n)[k] : Int) := by unfold selI; rw [if_pos (by omega), Int.toNat_natCast, List.getElem?_eq_getElem h]

def OpRel (w : World) (m na nb : Nat) (va vb : Value) (f : Nat → Bool) (k : Value) (wr : World) : Prop :=
  ∃ j : Nat, j ≤ m ∧ k = .int .i64 j ∧ Row wr w.heap.size 39 [.int .i64 (na : Int), va] ∧ Row wr (w.heap.size + 1) 39 [.int .i64 (nb : Int), vb] ∧ Row wr (w.heap.size + 2) 39 [.int .i64 0, .slice none 0 0] ∧
    Row wr (w.heap.size + 3) 4 (tcells (bitsOf (upto f j) m)) ∧ Below w.heap.size w wr

end Go.Proofs.Ytnjmbhakfecdoaa
