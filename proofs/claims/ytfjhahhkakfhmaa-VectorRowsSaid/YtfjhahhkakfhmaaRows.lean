/-
  No cell of these rows narrows 'for every input' (looked for: loops, veiled, ifaces, maps, wideKeys, modest, calm, conditions, laid).
  DERIVED. THE GIVEN ROWS OF THIS SEAT. 6 by the template 'for every input the law returns true; each argument reads behind the call as it read before'; 0 by the template 'total and deterministic' (their statements: YtfjhahhkakfhmaaTotals.lean).
  GIVEN WITH THE SEED: the statements are not yours to turn. If you find one false, say at which input.
  Laid BY PROGRAM, IN A SANDBOX (cutbox-rows.mjs): the forced cells as the released guide's own fill.sh prints them over the translation cd307761c57f2b70… (all of the seat's roots in one cut). By AI agents, Wed Nov 11 2026. No macro, syntax, notation, axiom, sorry.
-/
import Derived.Test.YtfjhahhkakfhmaaChecked
import GoSem.Claim
import GoSem.ClaimJoined
import GoSem.ClaimMapViews
import Derived.JoinedTies
import Derived.KernelRfl
namespace Go.Proofs.Ytfjhahhkakfhmaa
/- THE CELL 'sum', in the pinned program and in every row, IS THE sha256 OF THE DUMP (.gsa) THAT YtfjhahhkakfhmaaProg.lean LOADS. Nothing in Lean hashes anything: it is a label: what it is worth is what the hold of that sum in a sandbox is worth. -/
noncomputable def Try.pinned : Pinned := { name := "ytfjhahhkakfhmaa", sum := "cd307761c57f2b704dd08bd7c7d2cf8753028bd972d896ef2f8507bb806f233e", checked := Try.checked }
namespace Rows
def none {H : Type} : Left H := { results := [], args := [] }

/-- 'laminalaw17.VectorFromValues': WHATEVER THE INPUT: true; the input reads as it did. -/
def vectorFromValuesSpec : ChangeSpec := { name := "vectorFromValues", fn := fun _ => fun
  | [d1, d2, d3] => { results := [.lit (.bool true)], args := [d1, d2, d3] }
  | _ => none }
def vectorFromValuesRow : OpenClaim := { program := "ytfjhahhkakfhmaa", sum := "cd307761c57f2b704dd08bd7c7d2cf8753028bd972d896ef2f8507bb806f233e", func := "lamina/laminalaw17.VectorFromValues", spec := "vectorFromValues", unfollowed := true, recurses := true, apart := false }
def VectorFromValuesSaid : Prop := vectorFromValuesRow.holds Try.pinned (OpenSpec.ofChange vectorFromValuesSpec)

/-- ITS FALSE NEIGHBOUR: 'it returns false'. Refute it at one input. -/
def vectorFromValuesWrong : ChangeSpec := { name := "vectorFromValues", fn := fun _ => fun
  | [d1, d2, d3] => { results := [.lit (.bool false)], args := [d1, d2, d3] }
  | _ => none }
def VectorFromValuesWrongFalsely : Prop := vectorFromValuesRow.holds Try.pinned (OpenSpec.ofChange vectorFromValuesWrong)

/-- 'laminalaw17.VectorValid': WHATEVER THE INPUT: true; the input reads as it did. -/
def vectorValidSpec : ChangeSpec := { name := "vectorValid", fn := fun _ => fun
  | [d1, d2] => { results := [.lit (.bool true)], args := [d1, d2] }
  | _ => none }
def vectorValidRow : OpenClaim := { program := "ytfjhahhkakfhmaa", sum := "cd307761c57f2b704dd08bd7c7d2cf8753028bd972d896ef2f8507bb806f233e", func := "lamina/laminalaw17.VectorValid", spec := "vectorValid", unfollowed := true, recurses := true, apart := false }
def VectorValidSaid : Prop := vectorValidRow.holds Try.pinned (OpenSpec.ofChange vectorValidSpec)

/-- ITS FALSE NEIGHBOUR: 'it returns false'. Refute it at one input. -/
def vectorValidWrong : ChangeSpec := { name := "vectorValid", fn := fun _ => fun
  | [d1, d2] => { results := [.lit (.bool false)], args := [d1, d2] }
  | _ => none }
def VectorValidWrongFalsely : Prop := vectorValidRow.holds Try.pinned (OpenSpec.ofChange vectorValidWrong)

/-- 'laminalaw17.VectorGather': WHATEVER THE INPUT: true; the input reads as it did. -/
def vectorGatherSpec : ChangeSpec := { name := "vectorGather", fn := fun _ => fun
  | [d1, d2, d3, d4, d5] => { results := [.lit (.bool true)], args := [d1, d2, d3, d4, d5] }
  | _ => none }
def vectorGatherRow : OpenClaim := { program := "ytfjhahhkakfhmaa", sum := "cd307761c57f2b704dd08bd7c7d2cf8753028bd972d896ef2f8507bb806f233e", func := "lamina/laminalaw17.VectorGather", spec := "vectorGather", unfollowed := true, recurses := true, apart := false }
def VectorGatherSaid : Prop := vectorGatherRow.holds Try.pinned (OpenSpec.ofChange vectorGatherSpec)

/-- ITS FALSE NEIGHBOUR: 'it returns false'. Refute it at one input. -/
def vectorGatherWrong : ChangeSpec := { name := "vectorGather", fn := fun _ => fun
  | [d1, d2, d3, d4, d5] => { results := [.lit (.bool false)], args := [d1, d2, d3, d4, d5] }
  | _ => none }
def VectorGatherWrongFalsely : Prop := vectorGatherRow.holds Try.pinned (OpenSpec.ofChange vectorGatherWrong)

/-- 'laminalaw17.VectorConcat': WHATEVER THE INPUT: true; the input reads as it did. -/
def vectorConcatSpec : ChangeSpec := { name := "vectorConcat", fn := fun _ => fun
  | [d] => { results := [.lit (.bool true)], args := [d] }
  | _ => none }
def vectorConcatRow : OpenClaim := { program := "ytfjhahhkakfhmaa", sum := "cd307761c57f2b704dd08bd7c7d2cf8753028bd972d896ef2f8507bb806f233e", func := "lamina/laminalaw17.VectorConcat", spec := "vectorConcat", unfollowed := true, recurses := true, apart := false }
def VectorConcatSaid : Prop := vectorConcatRow.holds Try.pinned (OpenSpec.ofChange vectorConcatSpec)

/-- ITS FALSE NEIGHBOUR: 'it returns false'. Refute it at one input. -/
def vectorConcatWrong : ChangeSpec := { name := "vectorConcat", fn := fun _ => fun
  | [d] => { results := [.lit (.bool false)], args := [d] }
  | _ => none }
def VectorConcatWrongFalsely : Prop := vectorConcatRow.holds Try.pinned (OpenSpec.ofChange vectorConcatWrong)

/-- 'laminalaw17.VectorRows': WHATEVER THE INPUT: true; the input reads as it did. -/
def vectorRowsSpec : ChangeSpec := { name := "vectorRows", fn := fun _ => fun
  | [d] => { results := [.lit (.bool true)], args := [d] }
  | _ => none }
def vectorRowsRow : OpenClaim := { program := "ytfjhahhkakfhmaa", sum := "cd307761c57f2b704dd08bd7c7d2cf8753028bd972d896ef2f8507bb806f233e", func := "lamina/laminalaw17.VectorRows", spec := "vectorRows", unfollowed := true, recurses := true, apart := false }
def VectorRowsSaid : Prop := vectorRowsRow.holds Try.pinned (OpenSpec.ofChange vectorRowsSpec)

/-- ITS FALSE NEIGHBOUR: 'it returns false'. Refute it at one input. -/
def vectorRowsWrong : ChangeSpec := { name := "vectorRows", fn := fun _ => fun
  | [d] => { results := [.lit (.bool false)], args := [d] }
  | _ => none }
def VectorRowsWrongFalsely : Prop := vectorRowsRow.holds Try.pinned (OpenSpec.ofChange vectorRowsWrong)

/-- 'laminalaw17.VectorRoundTrip': WHATEVER THE INPUT: true; the input reads as it did. -/
def vectorRoundTripSpec : ChangeSpec := { name := "vectorRoundTrip", fn := fun _ => fun
  | [d1, d2, d3, d4] => { results := [.lit (.bool true)], args := [d1, d2, d3, d4] }
  | _ => none }
def vectorRoundTripRow : OpenClaim := { program := "ytfjhahhkakfhmaa", sum := "cd307761c57f2b704dd08bd7c7d2cf8753028bd972d896ef2f8507bb806f233e", func := "lamina/laminalaw17.VectorRoundTrip", spec := "vectorRoundTrip", unfollowed := true, recurses := true, apart := false }
def VectorRoundTripSaid : Prop := vectorRoundTripRow.holds Try.pinned (OpenSpec.ofChange vectorRoundTripSpec)

/-- ITS FALSE NEIGHBOUR: 'it returns false'. Refute it at one input. -/
def vectorRoundTripWrong : ChangeSpec := { name := "vectorRoundTrip", fn := fun _ => fun
  | [d1, d2, d3, d4] => { results := [.lit (.bool false)], args := [d1, d2, d3, d4] }
  | _ => none }
def VectorRoundTripWrongFalsely : Prop := vectorRoundTripRow.holds Try.pinned (OpenSpec.ofChange vectorRoundTripWrong)

/- THE SECOND FORM. 'bulk': how many values and letters a reading holds, each counted each time it is reached (what is shared counts as often as it is met; a slice's spare places count too). A statement '..UptoSaid' is the law's where the arguments, and the package variables that the reading takes, are together of bulk at most 1048576: NARROWER than '..Said'. Prove '..Said' where nothing that the law and all that it calls make is longer than what came in: it says more and counts as full. Else prove '..UptoSaid'. A law counts once. -/
mutual
def uptoBulk {H : Type} : DataW H → Nat
  | .lit (.string bytes) => bytes.length + 1
  | .lit _ => 1
  | .nil => 1
  | .ptr d => uptoBulk d + 1
  | .slice elems spare => uptoBulkAll elems + uptoBulkAll spare + 1
  | .agg parts => uptoBulkAll parts + 1
  | .iface _ d => uptoBulk d + 1
  | .map entries => uptoBulkEntries entries + 1
  | .held _ => 1
def uptoBulkAll {H : Type} : List (DataW H) → Nat
  | [] => 0
  | d :: r => uptoBulk d + uptoBulkAll r
def uptoBulkEntries {H : Type} : List (Lit × DataW H) → Nat
  | [] => 0
  | x :: r => uptoBulkEntry x + uptoBulkEntries r
def uptoBulkEntry {H : Type} : Lit × DataW H → Nat
  | (.string bytes, d) => bytes.length + uptoBulk d + 1
  | (_, d) => uptoBulk d + 1
 end
def uptoSmall : (H : Type) → List (DataW H) → Bool := fun _ ds => decide (uptoBulkAll ds ≤ 1048576)
def OpenSpec.upto (s : _root_.Go.ChangeSpec) : _root_.Go.OpenSpec := { _root_.Go.OpenSpec.ofChange s with cond := some uptoSmall }

/-- 'laminalaw17.VectorFromValues', WHERE WHAT IT READS IS OF BULK AT MOST 1048576: true; the input reads as it did. -/
def vectorFromValuesUptoRow : OpenClaim := { program := "ytfjhahhkakfhmaa", sum := "cd307761c57f2b704dd08bd7c7d2cf8753028bd972d896ef2f8507bb806f233e", func := "lamina/laminalaw17.VectorFromValues", spec := "vectorFromValues", unfollowed := true, recurses := true, apart := false, narrowed := true }
def VectorFromValuesUptoSaid : Prop := vectorFromValuesUptoRow.holds Try.pinned (OpenSpec.upto vectorFromValuesSpec)

/-- 'laminalaw17.VectorValid', WHERE WHAT IT READS IS OF BULK AT MOST 1048576: true; the input reads as it did. -/
def vectorValidUptoRow : OpenClaim := { program := "ytfjhahhkakfhmaa", sum := "cd307761c57f2b704dd08bd7c7d2cf8753028bd972d896ef2f8507bb806f233e", func := "lamina/laminalaw17.VectorValid", spec := "vectorValid", unfollowed := true, recurses := true, apart := false, narrowed := true }
def VectorValidUptoSaid : Prop := vectorValidUptoRow.holds Try.pinned (OpenSpec.upto vectorValidSpec)

/-- 'laminalaw17.VectorGather', WHERE WHAT IT READS IS OF BULK AT MOST 1048576: true; the input reads as it did. -/
def vectorGatherUptoRow : OpenClaim := { program := "ytfjhahhkakfhmaa", sum := "cd307761c57f2b704dd08bd7c7d2cf8753028bd972d896ef2f8507bb806f233e", func := "lamina/laminalaw17.VectorGather", spec := "vectorGather", unfollowed := true, recurses := true, apart := false, narrowed := true }
def VectorGatherUptoSaid : Prop := vectorGatherUptoRow.holds Try.pinned (OpenSpec.upto vectorGatherSpec)

/-- 'laminalaw17.VectorConcat', WHERE WHAT IT READS IS OF BULK AT MOST 1048576: true; the input reads as it did. -/
def vectorConcatUptoRow : OpenClaim := { program := "ytfjhahhkakfhmaa", sum := "cd307761c57f2b704dd08bd7c7d2cf8753028bd972d896ef2f8507bb806f233e", func := "lamina/laminalaw17.VectorConcat", spec := "vectorConcat", unfollowed := true, recurses := true, apart := false, narrowed := true }
def VectorConcatUptoSaid : Prop := vectorConcatUptoRow.holds Try.pinned (OpenSpec.upto vectorConcatSpec)

/-- 'laminalaw17.VectorRows', WHERE WHAT IT READS IS OF BULK AT MOST 1048576: true; the input reads as it did. -/
def vectorRowsUptoRow : OpenClaim := { program := "ytfjhahhkakfhmaa", sum := "cd307761c57f2b704dd08bd7c7d2cf8753028bd972d896ef2f8507bb806f233e", func := "lamina/laminalaw17.VectorRows", spec := "vectorRows", unfollowed := true, recurses := true, apart := false, narrowed := true }
def VectorRowsUptoSaid : Prop := vectorRowsUptoRow.holds Try.pinned (OpenSpec.upto vectorRowsSpec)

/-- 'laminalaw17.VectorRoundTrip', WHERE WHAT IT READS IS OF BULK AT MOST 1048576: true; the input reads as it did. -/
def vectorRoundTripUptoRow : OpenClaim := { program := "ytfjhahhkakfhmaa", sum := "cd307761c57f2b704dd08bd7c7d2cf8753028bd972d896ef2f8507bb806f233e", func := "lamina/laminalaw17.VectorRoundTrip", spec := "vectorRoundTrip", unfollowed := true, recurses := true, apart := false, narrowed := true }
def VectorRoundTripUptoSaid : Prop := vectorRoundTripUptoRow.holds Try.pinned (OpenSpec.upto vectorRoundTripSpec)

end Rows
end Go.Proofs.Ytfjhahhkakfhmaa
