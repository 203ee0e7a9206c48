/-
  The reference's Rank, Count, Elements and Select return what the document says; nothing that was there is changed.
-/
import Derived.Test.YtnjmbhakfecdoaaBsRef2
namespace Go.Proofs.Ytnjmbhakfecdoaa
open Go.RowKit

/-- the number of elements less than i -/
def rankI (n : Nat) (f : Nat → Bool) (i : Int) : Nat := cnt f (min n i.toNat)
def RankRel (w : World) (n : Nat) (v : Value) (f : Nat → Bool) (i : Int) (c k : Value) (wr : World) : Prop :=
  ∃ j : Nat, j ≤ min n i.toNat ∧ k = .int .i64 j ∧ c = .int .i64 (cnt f j : Int) ∧ Row wr w.heap.size 39 [.int .i64 (n : Int), v] ∧ Below w.heap.size w wr

/-- a row of ints of the call's own -/
def OwnInts (l : List Nat) (w : World) (e : Ending) (w' : World) : Prop :=
  ∃ v, e = .returned v ∧ w'.ownsRow w.heap.size 3 1 v l.length (ncells l) ∧ Below w.heap.size w w'
theorem ownsRow_grow {w w' : World} {base : Nat} {e : TypeId} {size : Nat} {v : Value} {n : Nat} {xs : List Value} (h : w.ownsRow base e size v n xs) (hb : Grows w w') : w'.ownsRow base e size v n xs := by
  refine ⟨h.1, ?_⟩
  rcases h.2 with h0 | ⟨g, cap, cur, h1, h2, h3, h4⟩
  · exact .inl h0
  · exact .inr ⟨g, cap, cur, h1, h2, (hb.block g (Array.getElem?_eq_some_iff.1 h3).1).trans h3, h4⟩

def ElemRel (w : World) (n : Nat) (v : Value) (f : Nat → Bool) (out k : Value) (wr : World) : Prop :=
  ∃ j : Nat, j ≤ n ∧ k = .int .i64 j ∧ Row wr w.heap.size 39 [.int .i64 (n : Int), v] ∧ wr.ownsRow (w.heap.size + 1) 3 1 out (elems f j).length (ncells (elems f j)) ∧ Below (w.heap.size + 1) (w.alloc (.cells #[.int .i64 (n : Int), v] 39)) wr

end Go.Proofs.Ytnjmbhakfecdoaa
