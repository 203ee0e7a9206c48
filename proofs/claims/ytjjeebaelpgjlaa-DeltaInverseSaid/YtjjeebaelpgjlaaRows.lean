/-
  No cell of these rows narrows 'for every input' (looked for: loops, veiled, ifaces, maps, wideKeys, modest, calm, conditions, laid).
  DERIVED. THE GIVEN ROWS OF THIS SEAT. 5 by the template 'for every input the law returns true; each argument reads behind the call as it read before'; 0 by the template 'total and deterministic' (their statements: YtjjeebaelpgjlaaTotals.lean).
  GIVEN WITH THE SEED: the statements are not yours to turn. If you find one false, say at which input.
  Laid BY PROGRAM, IN A SANDBOX (cutbox-rows.mjs): the forced cells as the released guide's own fill.sh prints them over the translation 2f1ac40a9410fc2a… (all of the seat's roots in one cut). By AI agents, Wed Nov 11 2026. No macro, syntax, notation, axiom, sorry.
-/
import Derived.Test.YtjjeebaelpgjlaaChecked
import GoSem.Claim
import GoSem.ClaimJoined
import GoSem.ClaimMapViews
import Derived.JoinedTies
import Derived.KernelRfl
namespace Go.Proofs.Ytjjeebaelpgjlaa
/- THE CELL 'sum', in the pinned program and in every row, IS THE sha256 OF THE DUMP (.gsa) THAT YtjjeebaelpgjlaaProg.lean LOADS. Nothing in Lean hashes anything: it is a label: what it is worth is what the hold of that sum in a sandbox is worth. -/
noncomputable def Try.pinned : Pinned := { name := "ytjjeebaelpgjlaa", sum := "2f1ac40a9410fc2a33fa25122b4551c0af3c23eee19b3e02d9076b8a264ce44d", checked := Try.checked }
namespace Rows
def none {H : Type} : Left H := { results := [], args := [] }

/-- 'laminalaw09.DeltaEncode': WHATEVER THE INPUT: true; the input reads as it did. -/
def deltaEncodeSpec : ChangeSpec := { name := "deltaEncode", fn := fun _ => fun
  | [d1, d2] => { results := [.lit (.bool true)], args := [d1, d2] }
  | _ => none }
def deltaEncodeRow : OpenClaim := { program := "ytjjeebaelpgjlaa", sum := "2f1ac40a9410fc2a33fa25122b4551c0af3c23eee19b3e02d9076b8a264ce44d", func := "lamina/laminalaw09.DeltaEncode", spec := "deltaEncode", unfollowed := true, recurses := true, apart := false }
def DeltaEncodeSaid : Prop := deltaEncodeRow.holds Try.pinned (OpenSpec.ofChange deltaEncodeSpec)

/-- ITS FALSE NEIGHBOUR: 'it returns false'. Refute it at one input. -/
def deltaEncodeWrong : ChangeSpec := { name := "deltaEncode", fn := fun _ => fun
  | [d1, d2] => { results := [.lit (.bool false)], args := [d1, d2] }
  | _ => none }
def DeltaEncodeWrongFalsely : Prop := deltaEncodeRow.holds Try.pinned (OpenSpec.ofChange deltaEncodeWrong)

/-- 'laminalaw09.DeltaDecode': WHATEVER THE INPUT: true; the input reads as it did. -/
def deltaDecodeSpec : ChangeSpec := { name := "deltaDecode", fn := fun _ => fun
  | [d1, d2, d3] => { results := [.lit (.bool true)], args := [d1, d2, d3] }
  | _ => none }
def deltaDecodeRow : OpenClaim := { program := "ytjjeebaelpgjlaa", sum := "2f1ac40a9410fc2a33fa25122b4551c0af3c23eee19b3e02d9076b8a264ce44d", func := "lamina/laminalaw09.DeltaDecode", spec := "deltaDecode", unfollowed := true, recurses := true, apart := false }
def DeltaDecodeSaid : Prop := deltaDecodeRow.holds Try.pinned (OpenSpec.ofChange deltaDecodeSpec)

/-- ITS FALSE NEIGHBOUR: 'it returns false'. Refute it at one input. -/
def deltaDecodeWrong : ChangeSpec := { name := "deltaDecode", fn := fun _ => fun
  | [d1, d2, d3] => { results := [.lit (.bool false)], args := [d1, d2, d3] }
  | _ => none }
def DeltaDecodeWrongFalsely : Prop := deltaDecodeRow.holds Try.pinned (OpenSpec.ofChange deltaDecodeWrong)

/-- 'laminalaw09.DeltaInverse': WHATEVER THE INPUT: true; the input reads as it did. -/
def deltaInverseSpec : ChangeSpec := { name := "deltaInverse", fn := fun _ => fun
  | [d1, d2] => { results := [.lit (.bool true)], args := [d1, d2] }
  | _ => none }
def deltaInverseRow : OpenClaim := { program := "ytjjeebaelpgjlaa", sum := "2f1ac40a9410fc2a33fa25122b4551c0af3c23eee19b3e02d9076b8a264ce44d", func := "lamina/laminalaw09.DeltaInverse", spec := "deltaInverse", unfollowed := true, recurses := true, apart := false }
def DeltaInverseSaid : Prop := deltaInverseRow.holds Try.pinned (OpenSpec.ofChange deltaInverseSpec)

/-- ITS FALSE NEIGHBOUR: 'it returns false'. Refute it at one input. -/
def deltaInverseWrong : ChangeSpec := { name := "deltaInverse", fn := fun _ => fun
  | [d1, d2] => { results := [.lit (.bool false)], args := [d1, d2] }
  | _ => none }
def DeltaInverseWrongFalsely : Prop := deltaInverseRow.holds Try.pinned (OpenSpec.ofChange deltaInverseWrong)

/-- 'laminalaw09.DeltaRoundTrip': WHATEVER THE INPUT: true; the input reads as it did. -/
def deltaRoundTripSpec : ChangeSpec := { name := "deltaRoundTrip", fn := fun _ => fun
  | [d1, d2, d3] => { results := [.lit (.bool true)], args := [d1, d2, d3] }
  | _ => none }
def deltaRoundTripRow : OpenClaim := { program := "ytjjeebaelpgjlaa", sum := "2f1ac40a9410fc2a33fa25122b4551c0af3c23eee19b3e02d9076b8a264ce44d", func := "lamina/laminalaw09.DeltaRoundTrip", spec := "deltaRoundTrip", unfollowed := true, recurses := true, apart := false }
def DeltaRoundTripSaid : Prop := deltaRoundTripRow.holds Try.pinned (OpenSpec.ofChange deltaRoundTripSpec)

/-- ITS FALSE NEIGHBOUR: 'it returns false'. Refute it at one input. -/
def deltaRoundTripWrong : ChangeSpec := { name := "deltaRoundTrip", fn := fun _ => fun
  | [d1, d2, d3] => { results := [.lit (.bool false)], args := [d1, d2, d3] }
  | _ => none }
def DeltaRoundTripWrongFalsely : Prop := deltaRoundTripRow.holds Try.pinned (OpenSpec.ofChange deltaRoundTripWrong)

/-- 'laminalaw09.DeltaLinear': WHATEVER THE INPUT: true; the input reads as it did. -/
def deltaLinearSpec : ChangeSpec := { name := "deltaLinear", fn := fun _ => fun
  | [d1, d2, d3] => { results := [.lit (.bool true)], args := [d1, d2, d3] }
  | _ => none }
def deltaLinearRow : OpenClaim := { program := "ytjjeebaelpgjlaa", sum := "2f1ac40a9410fc2a33fa25122b4551c0af3c23eee19b3e02d9076b8a264ce44d", func := "lamina/laminalaw09.DeltaLinear", spec := "deltaLinear", unfollowed := true, recurses := true, apart := false }
def DeltaLinearSaid : Prop := deltaLinearRow.holds Try.pinned (OpenSpec.ofChange deltaLinearSpec)

/-- ITS FALSE NEIGHBOUR: 'it returns false'. Refute it at one input. -/
def deltaLinearWrong : ChangeSpec := { name := "deltaLinear", fn := fun _ => fun
  | [d1, d2, d3] => { results := [.lit (.bool false)], args := [d1, d2, d3] }
  | _ => none }
def DeltaLinearWrongFalsely : Prop := deltaLinearRow.holds Try.pinned (OpenSpec.ofChange deltaLinearWrong)

/- THE SECOND FORM. 'bulk': how many values and letters a reading holds, each counted each time it is reached (what is shared counts as often as it is met; a slice's spare places count too). A statement '..UptoSaid' is the law's where the arguments, and the package variables that the reading takes, are together of bulk at most 1048576: NARROWER than '..Said'. Prove '..Said' where nothing that the law and all that it calls make is longer than what came in: it says more and counts as full. Else prove '..UptoSaid'. A law counts once. -/
mutual
def uptoBulk {H : Type} : DataW H → Nat
  | .lit (.string bytes) => bytes.length + 1
  | .lit _ => 1
  | .nil => 1
  | .ptr d => uptoBulk d + 1
  | .slice elems spare => uptoBulkAll elems + uptoBulkAll spare + 1
  | .agg parts => uptoBulkAll parts + 1
  | .iface _ d => uptoBulk d + 1
  | .map entries => uptoBulkEntries entries + 1
  | .held _ => 1
def uptoBulkAll {H : Type} : List (DataW H) → Nat
  | [] => 0
  | d :: r => uptoBulk d + uptoBulkAll r
def uptoBulkEntries {H : Type} : List (Lit × DataW H) → Nat
  | [] => 0
  | x :: r => uptoBulkEntry x + uptoBulkEntries r
def uptoBulkEntry {H : Type} : Lit × DataW H → Nat
  | (.string bytes, d) => bytes.length + uptoBulk d + 1
  | (_, d) => uptoBulk d + 1
 end
def uptoSmall : (H : Type) → List (DataW H) → Bool := fun _ ds => decide (uptoBulkAll ds ≤ 1048576)
def OpenSpec.upto (s : _root_.Go.ChangeSpec) : _root_.Go.OpenSpec := { _root_.Go.OpenSpec.ofChange s with cond := some uptoSmall }

/-- 'laminalaw09.DeltaEncode', WHERE WHAT IT READS IS OF BULK AT MOST 1048576: true; the input reads as it did. -/
def deltaEncodeUptoRow : OpenClaim := { program := "ytjjeebaelpgjlaa", sum := "2f1ac40a9410fc2a33fa25122b4551c0af3c23eee19b3e02d9076b8a264ce44d", func := "lamina/laminalaw09.DeltaEncode", spec := "deltaEncode", unfollowed := true, recurses := true, apart := false, narrowed := true }
def DeltaEncodeUptoSaid : Prop := deltaEncodeUptoRow.holds Try.pinned (OpenSpec.upto deltaEncodeSpec)

/-- 'laminalaw09.DeltaDecode', WHERE WHAT IT READS IS OF BULK AT MOST 1048576: true; the input reads as it did. -/
def deltaDecodeUptoRow : OpenClaim := { program := "ytjjeebaelpgjlaa", sum := "2f1ac40a9410fc2a33fa25122b4551c0af3c23eee19b3e02d9076b8a264ce44d", func := "lamina/laminalaw09.DeltaDecode", spec := "deltaDecode", unfollowed := true, recurses := true, apart := false, narrowed := true }
def DeltaDecodeUptoSaid : Prop := deltaDecodeUptoRow.holds Try.pinned (OpenSpec.upto deltaDecodeSpec)

/-- 'laminalaw09.DeltaInverse', WHERE WHAT IT READS IS OF BULK AT MOST 1048576: true; the input reads as it did. -/
def deltaInverseUptoRow : OpenClaim := { program := "ytjjeebaelpgjlaa", sum := "2f1ac40a9410fc2a33fa25122b4551c0af3c23eee19b3e02d9076b8a264ce44d", func := "lamina/laminalaw09.DeltaInverse", spec := "deltaInverse", unfollowed := true, recurses := true, apart := false, narrowed := true }
def DeltaInverseUptoSaid : Prop := deltaInverseUptoRow.holds Try.pinned (OpenSpec.upto deltaInverseSpec)

/-- 'laminalaw09.DeltaRoundTrip', WHERE WHAT IT READS IS OF BULK AT MOST 1048576: true; the input reads as it did. -/
def deltaRoundTripUptoRow : OpenClaim := { program := "ytjjeebaelpgjlaa", sum := "2f1ac40a9410fc2a33fa25122b4551c0af3c23eee19b3e02d9076b8a264ce44d", func := "lamina/laminalaw09.DeltaRoundTrip", spec := "deltaRoundTrip", unfollowed := true, recurses := true, apart := false, narrowed := true }
def DeltaRoundTripUptoSaid : Prop := deltaRoundTripUptoRow.holds Try.pinned (OpenSpec.upto deltaRoundTripSpec)

/-- 'laminalaw09.DeltaLinear', WHERE WHAT IT READS IS OF BULK AT MOST 1048576: true; the input reads as it did. -/
def deltaLinearUptoRow : OpenClaim := { program := "ytjjeebaelpgjlaa", sum := "2f1ac40a9410fc2a33fa25122b4551c0af3c23eee19b3e02d9076b8a264ce44d", func := "lamina/laminalaw09.DeltaLinear", spec := "deltaLinear", unfollowed := true, recurses := true, apart := false, narrowed := true }
def DeltaLinearUptoSaid : Prop := deltaLinearUptoRow.holds Try.pinned (OpenSpec.upto deltaLinearSpec)

end Rows
end Go.Proofs.Ytjjeebaelpgjlaa
