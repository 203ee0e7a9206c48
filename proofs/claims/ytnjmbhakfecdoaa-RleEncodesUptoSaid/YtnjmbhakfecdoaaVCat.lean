/-
  varint.Concat returns an own slice that reads as the parts one behind the other: for all parts that together have at most 2^47 bytes; nothing that was there is changed.
-/
import Derived.Test.YtnjmbhakfecdoaaVFix
import Derived.Test.YtnjmbhakfecdoaaApp
namespace Go.Proofs.Ytnjmbhakfecdoaa
open Go.RowKit

def CatRel1 (ls : List (List UInt8)) (n i : Value) : Prop := ∃ k : Nat, k ≤ ls.length ∧ i = .int .i64 k ∧ n = .int .i64 (total (ls.take k) : Int)
def CatRel2 (w : World) (ls : List (List UInt8)) (all i : Value) (wr : World) : Prop :=
  ∃ k : Nat, k ≤ ls.length ∧ i = .int .i64 k ∧ wr.ownsRow w.heap.size 5 1 all (ls.take k).flatten.length (bcells (ls.take k).flatten) ∧ Below w.heap.size w wr

end Go.Proofs.Ytnjmbhakfecdoaa
