/-
  No cell of these rows narrows 'for every input' (looked for: loops, veiled, ifaces, maps, wideKeys, modest, calm, conditions, laid).
  DERIVED. THE GIVEN ROWS OF THIS SEAT. 5 by the template 'for every input the law returns true; each argument reads behind the call as it read before'; 0 by the template 'total and deterministic' (their statements: YtolpcoajkjlfeaaTotals.lean).
  GIVEN WITH THE SEED: the statements are not yours to turn. If you find one false, say at which input.
  Laid BY PROGRAM, IN A SANDBOX (cutbox-rows.mjs): the forced cells as the released guide's own fill.sh prints them over the translation 569b49e7a6252fcd… (all of the seat's roots in one cut). By AI agents, Wed Nov 11 2026. No macro, syntax, notation, axiom, sorry.
-/
import Derived.Test.YtolpcoajkjlfeaaChecked
import GoSem.Claim
import GoSem.ClaimJoined
import GoSem.ClaimMapViews
import Derived.JoinedTies
import Derived.KernelRfl
namespace Go.Proofs.Ytolpcoajkjlfeaa
/- THE CELL 'sum', in the pinned program and in every row, IS THE sha256 OF THE DUMP (.gsa) THAT YtolpcoajkjlfeaaProg.lean LOADS. Nothing in Lean hashes anything: it is a label: what it is worth is what the hold of that sum in a sandbox is worth. -/
noncomputable def Try.pinned : Pinned := { name := "ytolpcoajkjlfeaa", sum := "569b49e7a6252fcd6c909c4f662d34105f0d5b850bd6edd0c9908e33270d860d", checked := Try.checked }
namespace Rows
def none {H : Type} : Left H := { results := [], args := [] }

/-- 'laminalaw08.FramerefEncode': WHATEVER THE INPUT: true; the input reads as it did. -/
def framerefEncodeSpec : ChangeSpec := { name := "framerefEncode", fn := fun _ => fun
  | [d] => { results := [.lit (.bool true)], args := [d] }
  | _ => none }
def framerefEncodeRow : OpenClaim := { program := "ytolpcoajkjlfeaa", sum := "569b49e7a6252fcd6c909c4f662d34105f0d5b850bd6edd0c9908e33270d860d", func := "lamina/laminalaw08.FramerefEncode", spec := "framerefEncode", unfollowed := true, recurses := true, apart := false }
def FramerefEncodeSaid : Prop := framerefEncodeRow.holds Try.pinned (OpenSpec.ofChange framerefEncodeSpec)

/-- ITS FALSE NEIGHBOUR: 'it returns false'. Refute it at one input. -/
def framerefEncodeWrong : ChangeSpec := { name := "framerefEncode", fn := fun _ => fun
  | [d] => { results := [.lit (.bool false)], args := [d] }
  | _ => none }
def FramerefEncodeWrongFalsely : Prop := framerefEncodeRow.holds Try.pinned (OpenSpec.ofChange framerefEncodeWrong)

/-- 'laminalaw08.FramerefDecode': WHATEVER THE INPUT: true; the input reads as it did. -/
def framerefDecodeSpec : ChangeSpec := { name := "framerefDecode", fn := fun _ => fun
  | [d1, d2, d3] => { results := [.lit (.bool true)], args := [d1, d2, d3] }
  | _ => none }
def framerefDecodeRow : OpenClaim := { program := "ytolpcoajkjlfeaa", sum := "569b49e7a6252fcd6c909c4f662d34105f0d5b850bd6edd0c9908e33270d860d", func := "lamina/laminalaw08.FramerefDecode", spec := "framerefDecode", unfollowed := true, recurses := true, apart := false }
def FramerefDecodeSaid : Prop := framerefDecodeRow.holds Try.pinned (OpenSpec.ofChange framerefDecodeSpec)

/-- ITS FALSE NEIGHBOUR: 'it returns false'. Refute it at one input. -/
def framerefDecodeWrong : ChangeSpec := { name := "framerefDecode", fn := fun _ => fun
  | [d1, d2, d3] => { results := [.lit (.bool false)], args := [d1, d2, d3] }
  | _ => none }
def FramerefDecodeWrongFalsely : Prop := framerefDecodeRow.holds Try.pinned (OpenSpec.ofChange framerefDecodeWrong)

/-- 'laminalaw08.FramerefAt': WHATEVER THE INPUT: true; the input reads as it did. -/
def framerefAtSpec : ChangeSpec := { name := "framerefAt", fn := fun _ => fun
  | [d1, d2, d3, d4] => { results := [.lit (.bool true)], args := [d1, d2, d3, d4] }
  | _ => none }
def framerefAtRow : OpenClaim := { program := "ytolpcoajkjlfeaa", sum := "569b49e7a6252fcd6c909c4f662d34105f0d5b850bd6edd0c9908e33270d860d", func := "lamina/laminalaw08.FramerefAt", spec := "framerefAt", unfollowed := true, recurses := true, apart := false }
def FramerefAtSaid : Prop := framerefAtRow.holds Try.pinned (OpenSpec.ofChange framerefAtSpec)

/-- ITS FALSE NEIGHBOUR: 'it returns false'. Refute it at one input. -/
def framerefAtWrong : ChangeSpec := { name := "framerefAt", fn := fun _ => fun
  | [d1, d2, d3, d4] => { results := [.lit (.bool false)], args := [d1, d2, d3, d4] }
  | _ => none }
def FramerefAtWrongFalsely : Prop := framerefAtRow.holds Try.pinned (OpenSpec.ofChange framerefAtWrong)

/-- 'laminalaw08.FramerefRoundTrip': WHATEVER THE INPUT: true; the input reads as it did. -/
def framerefRoundTripSpec : ChangeSpec := { name := "framerefRoundTrip", fn := fun _ => fun
  | [d1, d2, d3] => { results := [.lit (.bool true)], args := [d1, d2, d3] }
  | _ => none }
def framerefRoundTripRow : OpenClaim := { program := "ytolpcoajkjlfeaa", sum := "569b49e7a6252fcd6c909c4f662d34105f0d5b850bd6edd0c9908e33270d860d", func := "lamina/laminalaw08.FramerefRoundTrip", spec := "framerefRoundTrip", unfollowed := true, recurses := true, apart := false }
def FramerefRoundTripSaid : Prop := framerefRoundTripRow.holds Try.pinned (OpenSpec.ofChange framerefRoundTripSpec)

/-- ITS FALSE NEIGHBOUR: 'it returns false'. Refute it at one input. -/
def framerefRoundTripWrong : ChangeSpec := { name := "framerefRoundTrip", fn := fun _ => fun
  | [d1, d2, d3] => { results := [.lit (.bool false)], args := [d1, d2, d3] }
  | _ => none }
def FramerefRoundTripWrongFalsely : Prop := framerefRoundTripRow.holds Try.pinned (OpenSpec.ofChange framerefRoundTripWrong)

/-- 'laminalaw08.FramerefShortest': WHATEVER THE INPUT: true; the input reads as it did. -/
def framerefShortestSpec : ChangeSpec := { name := "framerefShortest", fn := fun _ => fun
  | [d1, d2, d3] => { results := [.lit (.bool true)], args := [d1, d2, d3] }
  | _ => none }
def framerefShortestRow : OpenClaim := { program := "ytolpcoajkjlfeaa", sum := "569b49e7a6252fcd6c909c4f662d34105f0d5b850bd6edd0c9908e33270d860d", func := "lamina/laminalaw08.FramerefShortest", spec := "framerefShortest", unfollowed := true, recurses := true, apart := false }
def FramerefShortestSaid : Prop := framerefShortestRow.holds Try.pinned (OpenSpec.ofChange framerefShortestSpec)

/-- ITS FALSE NEIGHBOUR: 'it returns false'. Refute it at one input. -/
def framerefShortestWrong : ChangeSpec := { name := "framerefShortest", fn := fun _ => fun
  | [d1, d2, d3] => { results := [.lit (.bool false)], args := [d1, d2, d3] }
  | _ => none }
def FramerefShortestWrongFalsely : Prop := framerefShortestRow.holds Try.pinned (OpenSpec.ofChange framerefShortestWrong)

/- THE SECOND FORM. 'bulk': how many values and letters a reading holds, each counted each time it is reached (what is shared counts as often as it is met; a slice's spare places count too). A statement '..UptoSaid' is the law's where the arguments, and the package variables that the reading takes, are together of bulk at most 1048576: NARROWER than '..Said'. Prove '..Said' where nothing that the law and all that it calls make is longer than what came in: it says more and counts as full. Else prove '..UptoSaid'. A law counts once. -/
mutual
def uptoBulk {H : Type} : DataW H → Nat
  | .lit (.string bytes) => bytes.length + 1
  | .lit _ => 1
  | .nil => 1
  | .ptr d => uptoBulk d + 1
  | .slice elems spare => uptoBulkAll elems + uptoBulkAll spare + 1
  | .agg parts => uptoBulkAll parts + 1
  | .iface _ d => uptoBulk d + 1
  | .map entries => uptoBulkEntries entries + 1
  | .held _ => 1
def uptoBulkAll {H : Type} : List (DataW H) → Nat
  | [] => 0
  | d :: r => uptoBulk d + uptoBulkAll r
def uptoBulkEntries {H : Type} : List (Lit × DataW H) → Nat
  | [] => 0
  | x :: r => uptoBulkEntry x + uptoBulkEntries r
def uptoBulkEntry {H : Type} : Lit × DataW H → Nat
  | (.string bytes, d) => bytes.length + uptoBulk d + 1
  | (_, d) => uptoBulk d + 1
 end
def uptoSmall : (H : Type) → List (DataW H) → Bool := fun _ ds => decide (uptoBulkAll ds ≤ 1048576)
def OpenSpec.upto (s : _root_.Go.ChangeSpec) : _root_.Go.OpenSpec := { _root_.Go.OpenSpec.ofChange s with cond := some uptoSmall }

/-- 'laminalaw08.FramerefEncode', WHERE WHAT IT READS IS OF BULK AT MOST 1048576: true; the input reads as it did. -/
def framerefEncodeUptoRow : OpenClaim := { program := "ytolpcoajkjlfeaa", sum := "569b49e7a6252fcd6c909c4f662d34105f0d5b850bd6edd0c9908e33270d860d", func := "lamina/laminalaw08.FramerefEncode", spec := "framerefEncode", unfollowed := true, recurses := true, apart := false, narrowed := true }
def FramerefEncodeUptoSaid : Prop := framerefEncodeUptoRow.holds Try.pinned (OpenSpec.upto framerefEncodeSpec)

/-- 'laminalaw08.FramerefDecode', WHERE WHAT IT READS IS OF BULK AT MOST 1048576: true; the input reads as it did. -/
def framerefDecodeUptoRow : OpenClaim := { program := "ytolpcoajkjlfeaa", sum := "569b49e7a6252fcd6c909c4f662d34105f0d5b850bd6edd0c9908e33270d860d", func := "lamina/laminalaw08.FramerefDecode", spec := "framerefDecode", unfollowed := true, recurses := true, apart := false, narrowed := true }
def FramerefDecodeUptoSaid : Prop := framerefDecodeUptoRow.holds Try.pinned (OpenSpec.upto framerefDecodeSpec)

/-- 'laminalaw08.FramerefAt', WHERE WHAT IT READS IS OF BULK AT MOST 1048576: true; the input reads as it did. -/
def framerefAtUptoRow : OpenClaim := { program := "ytolpcoajkjlfeaa", sum := "569b49e7a6252fcd6c909c4f662d34105f0d5b850bd6edd0c9908e33270d860d", func := "lamina/laminalaw08.FramerefAt", spec := "framerefAt", unfollowed := true, recurses := true, apart := false, narrowed := true }
def FramerefAtUptoSaid : Prop := framerefAtUptoRow.holds Try.pinned (OpenSpec.upto framerefAtSpec)

/-- 'laminalaw08.FramerefRoundTrip', WHERE WHAT IT READS IS OF BULK AT MOST 1048576: true; the input reads as it did. -/
def framerefRoundTripUptoRow : OpenClaim := { program := "ytolpcoajkjlfeaa", sum := "569b49e7a6252fcd6c909c4f662d34105f0d5b850bd6edd0c9908e33270d860d", func := "lamina/laminalaw08.FramerefRoundTrip", spec := "framerefRoundTrip", unfollowed := true, recurses := true, apart := false, narrowed := true }
def FramerefRoundTripUptoSaid : Prop := framerefRoundTripUptoRow.holds Try.pinned (OpenSpec.upto framerefRoundTripSpec)

/-- 'laminalaw08.FramerefShortest', WHERE WHAT IT READS IS OF BULK AT MOST 1048576: true; the input reads as it did. -/
def framerefShortestUptoRow : OpenClaim := { program := "ytolpcoajkjlfeaa", sum := "569b49e7a6252fcd6c909c4f662d34105f0d5b850bd6edd0c9908e33270d860d", func := "lamina/laminalaw08.FramerefShortest", spec := "framerefShortest", unfollowed := true, recurses := true, apart := false, narrowed := true }
def FramerefShortestUptoSaid : Prop := framerefShortestUptoRow.holds Try.pinned (OpenSpec.upto framerefShortestSpec)

end Rows
end Go.Proofs.Ytolpcoajkjlfeaa
