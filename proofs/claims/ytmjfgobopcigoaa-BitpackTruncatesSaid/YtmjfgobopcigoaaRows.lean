/-
  No cell of these rows narrows 'for every input' (looked for: loops, veiled, ifaces, maps, wideKeys, modest, calm, conditions, laid).
  DERIVED. THE GIVEN ROWS OF THIS SEAT. 5 by the template 'for every input the law returns true; each argument reads behind the call as it read before'; 0 by the template 'total and deterministic' (their statements: YtmjfgobopcigoaaTotals.lean).
  GIVEN WITH THE SEED: the statements are not yours to turn. If you find one false, say at which input.
  Laid BY PROGRAM, IN A SANDBOX (cutbox-rows.mjs): the forced cells as the released guide's own fill.sh prints them over the translation b26e4ef0db65aa17… (all of the seat's roots in one cut). By AI agents, Wed Nov 11 2026. No macro, syntax, notation, axiom, sorry.
-/
import Derived.Test.YtmjfgobopcigoaaChecked
import GoSem.Claim
import GoSem.ClaimJoined
import GoSem.ClaimMapViews
import Derived.JoinedTies
import Derived.KernelRfl
namespace Go.Proofs.Ytmjfgobopcigoaa
/- THE CELL 'sum', in the pinned program and in every row, IS THE sha256 OF THE DUMP (.gsa) THAT YtmjfgobopcigoaaProg.lean LOADS. Nothing in Lean hashes anything: it is a label: what it is worth is what the hold of that sum in a sandbox is worth. -/
noncomputable def Try.pinned : Pinned := { name := "ytmjfgobopcigoaa", sum := "b26e4ef0db65aa1766a88b76a3e537385170506f7e3b59cf5482fbdea461a674", checked := Try.checked }
namespace Rows
def none {H : Type} : Left H := { results := [], args := [] }

/-- 'laminalaw06.BitpackPack': WHATEVER THE INPUT: true; the input reads as it did. -/
def bitpackPackSpec : ChangeSpec := { name := "bitpackPack", fn := fun _ => fun
  | [d1, d2, d3] => { results := [.lit (.bool true)], args := [d1, d2, d3] }
  | _ => none }
def bitpackPackRow : OpenClaim := { program := "ytmjfgobopcigoaa", sum := "b26e4ef0db65aa1766a88b76a3e537385170506f7e3b59cf5482fbdea461a674", func := "lamina/laminalaw06.BitpackPack", spec := "bitpackPack", unfollowed := true, recurses := true, apart := false }
def BitpackPackSaid : Prop := bitpackPackRow.holds Try.pinned (OpenSpec.ofChange bitpackPackSpec)

/-- ITS FALSE NEIGHBOUR: 'it returns false'. Refute it at one input. -/
def bitpackPackWrong : ChangeSpec := { name := "bitpackPack", fn := fun _ => fun
  | [d1, d2, d3] => { results := [.lit (.bool false)], args := [d1, d2, d3] }
  | _ => none }
def BitpackPackWrongFalsely : Prop := bitpackPackRow.holds Try.pinned (OpenSpec.ofChange bitpackPackWrong)

/-- 'laminalaw06.BitpackUnpack': WHATEVER THE INPUT: true; the input reads as it did. -/
def bitpackUnpackSpec : ChangeSpec := { name := "bitpackUnpack", fn := fun _ => fun
  | [d1, d2, d3, d4] => { results := [.lit (.bool true)], args := [d1, d2, d3, d4] }
  | _ => none }
def bitpackUnpackRow : OpenClaim := { program := "ytmjfgobopcigoaa", sum := "b26e4ef0db65aa1766a88b76a3e537385170506f7e3b59cf5482fbdea461a674", func := "lamina/laminalaw06.BitpackUnpack", spec := "bitpackUnpack", unfollowed := true, recurses := true, apart := false }
def BitpackUnpackSaid : Prop := bitpackUnpackRow.holds Try.pinned (OpenSpec.ofChange bitpackUnpackSpec)

/-- ITS FALSE NEIGHBOUR: 'it returns false'. Refute it at one input. -/
def bitpackUnpackWrong : ChangeSpec := { name := "bitpackUnpack", fn := fun _ => fun
  | [d1, d2, d3, d4] => { results := [.lit (.bool false)], args := [d1, d2, d3, d4] }
  | _ => none }
def BitpackUnpackWrongFalsely : Prop := bitpackUnpackRow.holds Try.pinned (OpenSpec.ofChange bitpackUnpackWrong)

/-- 'laminalaw06.BitpackRoundTrip': WHATEVER THE INPUT: true; the input reads as it did. -/
def bitpackRoundTripSpec : ChangeSpec := { name := "bitpackRoundTrip", fn := fun _ => fun
  | [d1, d2] => { results := [.lit (.bool true)], args := [d1, d2] }
  | _ => none }
def bitpackRoundTripRow : OpenClaim := { program := "ytmjfgobopcigoaa", sum := "b26e4ef0db65aa1766a88b76a3e537385170506f7e3b59cf5482fbdea461a674", func := "lamina/laminalaw06.BitpackRoundTrip", spec := "bitpackRoundTrip", unfollowed := true, recurses := true, apart := false }
def BitpackRoundTripSaid : Prop := bitpackRoundTripRow.holds Try.pinned (OpenSpec.ofChange bitpackRoundTripSpec)

/-- ITS FALSE NEIGHBOUR: 'it returns false'. Refute it at one input. -/
def bitpackRoundTripWrong : ChangeSpec := { name := "bitpackRoundTrip", fn := fun _ => fun
  | [d1, d2] => { results := [.lit (.bool false)], args := [d1, d2] }
  | _ => none }
def BitpackRoundTripWrongFalsely : Prop := bitpackRoundTripRow.holds Try.pinned (OpenSpec.ofChange bitpackRoundTripWrong)

/-- 'laminalaw06.BitpackTruncates': WHATEVER THE INPUT: true; the input reads as it did. -/
def bitpackTruncatesSpec : ChangeSpec := { name := "bitpackTruncates", fn := fun _ => fun
  | [d1, d2] => { results := [.lit (.bool true)], args := [d1, d2] }
  | _ => none }
def bitpackTruncatesRow : OpenClaim := { program := "ytmjfgobopcigoaa", sum := "b26e4ef0db65aa1766a88b76a3e537385170506f7e3b59cf5482fbdea461a674", func := "lamina/laminalaw06.BitpackTruncates", spec := "bitpackTruncates", unfollowed := true, recurses := true, apart := false }
def BitpackTruncatesSaid : Prop := bitpackTruncatesRow.holds Try.pinned (OpenSpec.ofChange bitpackTruncatesSpec)

/-- ITS FALSE NEIGHBOUR: 'it returns false'. Refute it at one input. -/
def bitpackTruncatesWrong : ChangeSpec := { name := "bitpackTruncates", fn := fun _ => fun
  | [d1, d2] => { results := [.lit (.bool false)], args := [d1, d2] }
  | _ => none }
def BitpackTruncatesWrongFalsely : Prop := bitpackTruncatesRow.holds Try.pinned (OpenSpec.ofChange bitpackTruncatesWrong)

/-- 'laminalaw06.BitpackCanonical': WHATEVER THE INPUT: true; the input reads as it did. -/
def bitpackCanonicalSpec : ChangeSpec := { name := "bitpackCanonical", fn := fun _ => fun
  | [d1, d2, d3] => { results := [.lit (.bool true)], args := [d1, d2, d3] }
  | _ => none }
def bitpackCanonicalRow : OpenClaim := { program := "ytmjfgobopcigoaa", sum := "b26e4ef0db65aa1766a88b76a3e537385170506f7e3b59cf5482fbdea461a674", func := "lamina/laminalaw06.BitpackCanonical", spec := "bitpackCanonical", unfollowed := true, recurses := true, apart := false }
def BitpackCanonicalSaid : Prop := bitpackCanonicalRow.holds Try.pinned (OpenSpec.ofChange bitpackCanonicalSpec)

/-- ITS FALSE NEIGHBOUR: 'it returns false'. Refute it at one input. -/
def bitpackCanonicalWrong : ChangeSpec := { name := "bitpackCanonical", fn := fun _ => fun
  | [d1, d2, d3] => { results := [.lit (.bool false)], args := [d1, d2, d3] }
  | _ => none }
def BitpackCanonicalWrongFalsely : Prop := bitpackCanonicalRow.holds Try.pinned (OpenSpec.ofChange bitpackCanonicalWrong)

/- THE SECOND FORM. 'bulk': how many values and letters a reading holds, each counted each time it is reached (what is shared counts as often as it is met; a slice's spare places count too). A statement '..UptoSaid' is the law's where the arguments, and the package variables that the reading takes, are together of bulk at most 1048576: NARROWER than '..Said'. Prove '..Said' where nothing that the law and all that it calls make is longer than what came in: it says more and counts as full. Else prove '..UptoSaid'. A law counts once. -/
mutual
def uptoBulk {H : Type} : DataW H → Nat
  | .lit (.string bytes) => bytes.length + 1
  | .lit _ => 1
  | .nil => 1
  | .ptr d => uptoBulk d + 1
  | .slice elems spare => uptoBulkAll elems + uptoBulkAll spare + 1
  | .agg parts => uptoBulkAll parts + 1
  | .iface _ d => uptoBulk d + 1
  | .map entries => uptoBulkEntries entries + 1
  | .held _ => 1
def uptoBulkAll {H : Type} : List (DataW H) → Nat
  | [] => 0
  | d :: r => uptoBulk d + uptoBulkAll r
def uptoBulkEntries {H : Type} : List (Lit × DataW H) → Nat
  | [] => 0
  | x :: r => uptoBulkEntry x + uptoBulkEntries r
def uptoBulkEntry {H : Type} : Lit × DataW H → Nat
  | (.string bytes, d) => bytes.length + uptoBulk d + 1
  | (_, d) => uptoBulk d + 1
 end
def uptoSmall : (H : Type) → List (DataW H) → Bool := fun _ ds => decide (uptoBulkAll ds ≤ 1048576)
def OpenSpec.upto (s : _root_.Go.ChangeSpec) : _root_.Go.OpenSpec := { _root_.Go.OpenSpec.ofChange s with cond := some uptoSmall }

/-- 'laminalaw06.BitpackPack', WHERE WHAT IT READS IS OF BULK AT MOST 1048576: true; the input reads as it did. -/
def bitpackPackUptoRow : OpenClaim := { program := "ytmjfgobopcigoaa", sum := "b26e4ef0db65aa1766a88b76a3e537385170506f7e3b59cf5482fbdea461a674", func := "lamina/laminalaw06.BitpackPack", spec := "bitpackPack", unfollowed := true, recurses := true, apart := false, narrowed := true }
def BitpackPackUptoSaid : Prop := bitpackPackUptoRow.holds Try.pinned (OpenSpec.upto bitpackPackSpec)

/-- 'laminalaw06.BitpackUnpack', WHERE WHAT IT READS IS OF BULK AT MOST 1048576: true; the input reads as it did. -/
def bitpackUnpackUptoRow : OpenClaim := { program := "ytmjfgobopcigoaa", sum := "b26e4ef0db65aa1766a88b76a3e537385170506f7e3b59cf5482fbdea461a674", func := "lamina/laminalaw06.BitpackUnpack", spec := "bitpackUnpack", unfollowed := true, recurses := true, apart := false, narrowed := true }
def BitpackUnpackUptoSaid : Prop := bitpackUnpackUptoRow.holds Try.pinned (OpenSpec.upto bitpackUnpackSpec)

/-- 'laminalaw06.BitpackRoundTrip', WHERE WHAT IT READS IS OF BULK AT MOST 1048576: true; the input reads as it did. -/
def bitpackRoundTripUptoRow : OpenClaim := { program := "ytmjfgobopcigoaa", sum := "b26e4ef0db65aa1766a88b76a3e537385170506f7e3b59cf5482fbdea461a674", func := "lamina/laminalaw06.BitpackRoundTrip", spec := "bitpackRoundTrip", unfollowed := true, recurses := true, apart := false, narrowed := true }
def BitpackRoundTripUptoSaid : Prop := bitpackRoundTripUptoRow.holds Try.pinned (OpenSpec.upto bitpackRoundTripSpec)

/-- 'laminalaw06.BitpackTruncates', WHERE WHAT IT READS IS OF BULK AT MOST 1048576: true; the input reads as it did. -/
def bitpackTruncatesUptoRow : OpenClaim := { program := "ytmjfgobopcigoaa", sum := "b26e4ef0db65aa1766a88b76a3e537385170506f7e3b59cf5482fbdea461a674", func := "lamina/laminalaw06.BitpackTruncates", spec := "bitpackTruncates", unfollowed := true, recurses := true, apart := false, narrowed := true }
def BitpackTruncatesUptoSaid : Prop := bitpackTruncatesUptoRow.holds Try.pinned (OpenSpec.upto bitpackTruncatesSpec)

/-- 'laminalaw06.BitpackCanonical', WHERE WHAT IT READS IS OF BULK AT MOST 1048576: true; the input reads as it did. -/
def bitpackCanonicalUptoRow : OpenClaim := { program := "ytmjfgobopcigoaa", sum := "b26e4ef0db65aa1766a88b76a3e537385170506f7e3b59cf5482fbdea461a674", func := "lamina/laminalaw06.BitpackCanonical", spec := "bitpackCanonical", unfollowed := true, recurses := true, apart := false, narrowed := true }
def BitpackCanonicalUptoSaid : Prop := bitpackCanonicalUptoRow.holds Try.pinned (OpenSpec.upto bitpackCanonicalSpec)

end Rows
end Go.Proofs.Ytmjfgobopcigoaa
