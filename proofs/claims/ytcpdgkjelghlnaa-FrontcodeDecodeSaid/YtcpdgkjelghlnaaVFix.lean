/-
  varint.Fixed returns an own slice that reads as 'fixs': for all arguments; nothing that was there is changed.
-/
import Derived.Test.YtcpdgkjelghlnaaProg
import Derived.Test.YtcpdgkjelghlnaaWords
import Derived.Test.YtcpdgkjelghlnaaFixNum
import Derived.WalkKit
import Derived.Outline
import Derived.OwnWalk
namespace Go.Proofs.Ytcpdgkjelghlnaa
open Go.RowKit

theorem info_u8 : (Try.prog.info? 5).map (fun i => (i.zero, i.size, i.bytes)) = some (some (.int .u8 0), 1, 1) := by kernel_rfl

def Made (l : List UInt8) (w : World) (e : Ending) (w' : World) : Prop :=
  ∃ v, e = .returned v ∧ w'.ownsRow w.heap.size 5 1 v l.length (bcells l) ∧ Below w.heap.size w w'

theorem Made.nil_ {w : World} : Made [] w (.returned (.slice none 0 0)) w := ⟨_, rfl, World.ownsRow_nil _ _ _ _, Below.refl _ _⟩

def FixRel (w : World) (n s : Nat) (i : Value) (wr : World) : Prop :=
  ∃ k : Nat, k ≤ s ∧ i = .int .i64 k ∧ Row wr w.heap.size 5 (fixRow n s k) ∧ Below w.heap.size w wr

end Go.Proofs.Ytcpdgkjelghlnaa
