/-
  No cell of these rows narrows 'for every input' (looked for: loops, veiled, ifaces, maps, wideKeys, modest, calm, conditions, laid).
  DERIVED. THE GIVEN ROWS OF THIS SEAT. 5 by the template 'for every input the law returns true; each argument reads behind the call as it read before'; 0 by the template 'total and deterministic' (their statements: YtcpdgkjelghlnaaTotals.lean).
  GIVEN WITH THE SEED: the statements are not yours to turn. If you find one false, say at which input.
  Laid BY PROGRAM, IN A SANDBOX (cutbox-rows.mjs): the forced cells as the released guide's own fill.sh prints them over the translation 98f6d4946f80015d… (all of the seat's roots in one cut). By AI agents, Wed Nov 11 2026. No macro, syntax, notation, axiom, sorry.
-/
import Derived.Test.YtcpdgkjelghlnaaChecked
import GoSem.Claim
import GoSem.ClaimJoined
import GoSem.ClaimMapViews
import Derived.JoinedTies
import Derived.KernelRfl
namespace Go.Proofs.Ytcpdgkjelghlnaa
/- THE CELL 'sum', in the pinned program and in every row, IS THE sha256 OF THE DUMP (.gsa) THAT YtcpdgkjelghlnaaProg.lean LOADS. Nothing in Lean hashes anything: it is a label: what it is worth is what the hold of that sum in a sandbox is worth. -/
noncomputable def Try.pinned : Pinned := { name := "ytcpdgkjelghlnaa", sum := "98f6d4946f80015dd8c94252807134f3688421b2b2c5da272f008dd039ce494a", checked := Try.checked }
namespace Rows
def none {H : Type} : Left H := { results := [], args := [] }

/-- 'laminalaw11.FrontcodeEncode': WHATEVER THE INPUT: true; the input reads as it did. -/
def frontcodeEncodeSpec : ChangeSpec := { name := "frontcodeEncode", fn := fun _ => fun
  | [d1, d2, d3] => { results := [.lit (.bool true)], args := [d1, d2, d3] }
  | _ => none }
def frontcodeEncodeRow : OpenClaim := { program := "ytcpdgkjelghlnaa", sum := "98f6d4946f80015dd8c94252807134f3688421b2b2c5da272f008dd039ce494a", func := "lamina/laminalaw11.FrontcodeEncode", spec := "frontcodeEncode", unfollowed := true, recurses := true, apart := false }
def FrontcodeEncodeSaid : Prop := frontcodeEncodeRow.holds Try.pinned (OpenSpec.ofChange frontcodeEncodeSpec)

/-- ITS FALSE NEIGHBOUR: 'it returns false'. Refute it at one input. -/
def frontcodeEncodeWrong : ChangeSpec := { name := "frontcodeEncode", fn := fun _ => fun
  | [d1, d2, d3] => { results := [.lit (.bool false)], args := [d1, d2, d3] }
  | _ => none }
def FrontcodeEncodeWrongFalsely : Prop := frontcodeEncodeRow.holds Try.pinned (OpenSpec.ofChange frontcodeEncodeWrong)

/-- 'laminalaw11.FrontcodeDecode': WHATEVER THE INPUT: true; the input reads as it did. -/
def frontcodeDecodeSpec : ChangeSpec := { name := "frontcodeDecode", fn := fun _ => fun
  | [d1, d2, d3] => { results := [.lit (.bool true)], args := [d1, d2, d3] }
  | _ => none }
def frontcodeDecodeRow : OpenClaim := { program := "ytcpdgkjelghlnaa", sum := "98f6d4946f80015dd8c94252807134f3688421b2b2c5da272f008dd039ce494a", func := "lamina/laminalaw11.FrontcodeDecode", spec := "frontcodeDecode", unfollowed := true, recurses := true, apart := false }
def FrontcodeDecodeSaid : Prop := frontcodeDecodeRow.holds Try.pinned (OpenSpec.ofChange frontcodeDecodeSpec)

/-- ITS FALSE NEIGHBOUR: 'it returns false'. Refute it at one input. -/
def frontcodeDecodeWrong : ChangeSpec := { name := "frontcodeDecode", fn := fun _ => fun
  | [d1, d2, d3] => { results := [.lit (.bool false)], args := [d1, d2, d3] }
  | _ => none }
def FrontcodeDecodeWrongFalsely : Prop := frontcodeDecodeRow.holds Try.pinned (OpenSpec.ofChange frontcodeDecodeWrong)

/-- 'laminalaw11.FrontcodeAt': WHATEVER THE INPUT: true; the input reads as it did. -/
def frontcodeAtSpec : ChangeSpec := { name := "frontcodeAt", fn := fun _ => fun
  | [d1, d2, d3] => { results := [.lit (.bool true)], args := [d1, d2, d3] }
  | _ => none }
def frontcodeAtRow : OpenClaim := { program := "ytcpdgkjelghlnaa", sum := "98f6d4946f80015dd8c94252807134f3688421b2b2c5da272f008dd039ce494a", func := "lamina/laminalaw11.FrontcodeAt", spec := "frontcodeAt", unfollowed := true, recurses := true, apart := false }
def FrontcodeAtSaid : Prop := frontcodeAtRow.holds Try.pinned (OpenSpec.ofChange frontcodeAtSpec)

/-- ITS FALSE NEIGHBOUR: 'it returns false'. Refute it at one input. -/
def frontcodeAtWrong : ChangeSpec := { name := "frontcodeAt", fn := fun _ => fun
  | [d1, d2, d3] => { results := [.lit (.bool false)], args := [d1, d2, d3] }
  | _ => none }
def FrontcodeAtWrongFalsely : Prop := frontcodeAtRow.holds Try.pinned (OpenSpec.ofChange frontcodeAtWrong)

/-- 'laminalaw11.FrontcodeRoundTrip': WHATEVER THE INPUT: true; the input reads as it did. -/
def frontcodeRoundTripSpec : ChangeSpec := { name := "frontcodeRoundTrip", fn := fun _ => fun
  | [d1, d2, d3] => { results := [.lit (.bool true)], args := [d1, d2, d3] }
  | _ => none }
def frontcodeRoundTripRow : OpenClaim := { program := "ytcpdgkjelghlnaa", sum := "98f6d4946f80015dd8c94252807134f3688421b2b2c5da272f008dd039ce494a", func := "lamina/laminalaw11.FrontcodeRoundTrip", spec := "frontcodeRoundTrip", unfollowed := true, recurses := true, apart := false }
def FrontcodeRoundTripSaid : Prop := frontcodeRoundTripRow.holds Try.pinned (OpenSpec.ofChange frontcodeRoundTripSpec)

/-- ITS FALSE NEIGHBOUR: 'it returns false'. Refute it at one input. -/
def frontcodeRoundTripWrong : ChangeSpec := { name := "frontcodeRoundTrip", fn := fun _ => fun
  | [d1, d2, d3] => { results := [.lit (.bool false)], args := [d1, d2, d3] }
  | _ => none }
def FrontcodeRoundTripWrongFalsely : Prop := frontcodeRoundTripRow.holds Try.pinned (OpenSpec.ofChange frontcodeRoundTripWrong)

/-- 'laminalaw11.FrontcodeCanonical': WHATEVER THE INPUT: true; the input reads as it did. -/
def frontcodeCanonicalSpec : ChangeSpec := { name := "frontcodeCanonical", fn := fun _ => fun
  | [d1, d2, d3, d4] => { results := [.lit (.bool true)], args := [d1, d2, d3, d4] }
  | _ => none }
def frontcodeCanonicalRow : OpenClaim := { program := "ytcpdgkjelghlnaa", sum := "98f6d4946f80015dd8c94252807134f3688421b2b2c5da272f008dd039ce494a", func := "lamina/laminalaw11.FrontcodeCanonical", spec := "frontcodeCanonical", unfollowed := true, recurses := true, apart := false }
def FrontcodeCanonicalSaid : Prop := frontcodeCanonicalRow.holds Try.pinned (OpenSpec.ofChange frontcodeCanonicalSpec)

/-- ITS FALSE NEIGHBOUR: 'it returns false'. Refute it at one input. -/
def frontcodeCanonicalWrong : ChangeSpec := { name := "frontcodeCanonical", fn := fun _ => fun
  | [d1, d2, d3, d4] => { results := [.lit (.bool false)], args := [d1, d2, d3, d4] }
  | _ => none }
def FrontcodeCanonicalWrongFalsely : Prop := frontcodeCanonicalRow.holds Try.pinned (OpenSpec.ofChange frontcodeCanonicalWrong)

/- THE SECOND FORM. 'bulk': how many values and letters a reading holds, each counted each time it is reached (what is shared counts as often as it is met; a slice's spare places count too). A statement '..UptoSaid' is the law's where the arguments, and the package variables that the reading takes, are together of bulk at most 1048576: NARROWER than '..Said'. Prove '..Said' where nothing that the law and all that it calls make is longer than what came in: it says more and counts as full. Else prove '..UptoSaid'. A law counts once. -/
mutual
def uptoBulk {H : Type} : DataW H → Nat
  | .lit (.string bytes) => bytes.length + 1
  | .lit _ => 1
  | .nil => 1
  | .ptr d => uptoBulk d + 1
  | .slice elems spare => uptoBulkAll elems + uptoBulkAll spare + 1
  | .agg parts => uptoBulkAll parts + 1
  | .iface _ d => uptoBulk d + 1
  | .map entries => uptoBulkEntries entries + 1
  | .held _ => 1
def uptoBulkAll {H : Type} : List (DataW H) → Nat
  | [] => 0
  | d :: r => uptoBulk d + uptoBulkAll r
def uptoBulkEntries {H : Type} : List (Lit × DataW H) → Nat
  | [] => 0
  | x :: r => uptoBulkEntry x + uptoBulkEntries r
def uptoBulkEntry {H : Type} : Lit × DataW H → Nat
  | (.string bytes, d) => bytes.length + uptoBulk d + 1
  | (_, d) => uptoBulk d + 1
 end
def uptoSmall : (H : Type) → List (DataW H) → Bool := fun _ ds => decide (uptoBulkAll ds ≤ 1048576)
def OpenSpec.upto (s : _root_.Go.ChangeSpec) : _root_.Go.OpenSpec := { _root_.Go.OpenSpec.ofChange s with cond := some uptoSmall }

/-- 'laminalaw11.FrontcodeEncode', WHERE WHAT IT READS IS OF BULK AT MOST 1048576: true; the input reads as it did. -/
def frontcodeEncodeUptoRow : OpenClaim := { program := "ytcpdgkjelghlnaa", sum := "98f6d4946f80015dd8c94252807134f3688421b2b2c5da272f008dd039ce494a", func := "lamina/laminalaw11.FrontcodeEncode", spec := "frontcodeEncode", unfollowed := true, recurses := true, apart := false, narrowed := true }
def FrontcodeEncodeUptoSaid : Prop := frontcodeEncodeUptoRow.holds Try.pinned (OpenSpec.upto frontcodeEncodeSpec)

/-- 'laminalaw11.FrontcodeDecode', WHERE WHAT IT READS IS OF BULK AT MOST 1048576: true; the input reads as it did. -/
def frontcodeDecodeUptoRow : OpenClaim := { program := "ytcpdgkjelghlnaa", sum := "98f6d4946f80015dd8c94252807134f3688421b2b2c5da272f008dd039ce494a", func := "lamina/laminalaw11.FrontcodeDecode", spec := "frontcodeDecode", unfollowed := true, recurses := true, apart := false, narrowed := true }
def FrontcodeDecodeUptoSaid : Prop := frontcodeDecodeUptoRow.holds Try.pinned (OpenSpec.upto frontcodeDecodeSpec)

/-- 'laminalaw11.FrontcodeAt', WHERE WHAT IT READS IS OF BULK AT MOST 1048576: true; the input reads as it did. -/
def frontcodeAtUptoRow : OpenClaim := { program := "ytcpdgkjelghlnaa", sum := "98f6d4946f80015dd8c94252807134f3688421b2b2c5da272f008dd039ce494a", func := "lamina/laminalaw11.FrontcodeAt", spec := "frontcodeAt", unfollowed := true, recurses := true, apart := false, narrowed := true }
def FrontcodeAtUptoSaid : Prop := frontcodeAtUptoRow.holds Try.pinned (OpenSpec.upto frontcodeAtSpec)

/-- 'laminalaw11.FrontcodeRoundTrip', WHERE WHAT IT READS IS OF BULK AT MOST 1048576: true; the input reads as it did. -/
def frontcodeRoundTripUptoRow : OpenClaim := { program := "ytcpdgkjelghlnaa", sum := "98f6d4946f80015dd8c94252807134f3688421b2b2c5da272f008dd039ce494a", func := "lamina/laminalaw11.FrontcodeRoundTrip", spec := "frontcodeRoundTrip", unfollowed := true, recurses := true, apart := false, narrowed := true }
def FrontcodeRoundTripUptoSaid : Prop := frontcodeRoundTripUptoRow.holds Try.pinned (OpenSpec.upto frontcodeRoundTripSpec)

/-- 'laminalaw11.FrontcodeCanonical', WHERE WHAT IT READS IS OF BULK AT MOST 1048576: true; the input reads as it did. -/
def frontcodeCanonicalUptoRow : OpenClaim := { program := "ytcpdgkjelghlnaa", sum := "98f6d4946f80015dd8c94252807134f3688421b2b2c5da272f008dd039ce494a", func := "lamina/laminalaw11.FrontcodeCanonical", spec := "frontcodeCanonical", unfollowed := true, recurses := true, apart := false, narrowed := true }
def FrontcodeCanonicalUptoSaid : Prop := frontcodeCanonicalUptoRow.holds Try.pinned (OpenSpec.upto frontcodeCanonicalSpec)

end Rows
end Go.Proofs.Ytcpdgkjelghlnaa
