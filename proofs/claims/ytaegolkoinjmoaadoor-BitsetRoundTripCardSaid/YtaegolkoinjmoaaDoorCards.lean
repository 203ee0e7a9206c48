/-
  DERIVED. GIVEN WITH THE SEED: THE CARDS: each row of YtaegolkoinjmoaaDoorRows.lean that lists a variable, with what it lists TIED to the program's text (the seventh form; the later family's looks); each row that meets fmt, with fmt's text TOLD by the authors' own Lean function (tested against real Go, not proved from fmt's source: count such statements apart). THE CARD IS WHAT COUNTS. Prove the row's statement (the work); the ties are given (YtaegolkoinjmoaaDoorTie.lean); close each card by the builder's one call (the guide's Derived/Test/ToyasCard.lean, 'card_holds'). Laid BY PROGRAM, IN A SANDBOX (cutbox-door.mjs). By AI agents, Wed Nov 11 2026. No macro, syntax, notation, axiom, sorry.
-/
import Derived.Test.YtaegolkoinjmoaaDoorRows
import GoSem.ClaimSeven
namespace Go.Proofs.YtaegolkoinjmoaaDoor
namespace Rows

/-- THE TIED CARD OF 'laminalaw03.BitsetElements'. -/
def bitsetElementsCard : Claim7 := { stood := { row := bitsetElementsRow, standIns := [], harness := (true, "c28097835d663b9d61abf88df0ff9bdd2ad36be2b0d6a8936cd905daa0342278"), looks := false }, kinds := [], alts := [], laidByText := true, laidKinds := [.data], laidTests := true, laidLooks := .later }
def BitsetElementsCardSaid : Prop := Claim7.holds Tryd.pinned (.plain (OpenSpec.ofChange bitsetElementsSpec)) bitsetElementsCard

/-- THE TIED CARD OF 'laminalaw03.BitsetOperations'. -/
def bitsetOperationsCard : Claim7 := { stood := { row := bitsetOperationsRow, standIns := [], harness := (true, "c28097835d663b9d61abf88df0ff9bdd2ad36be2b0d6a8936cd905daa0342278"), looks := false }, kinds := [], alts := [], laidByText := true, laidKinds := [.data], laidTests := true, laidLooks := .later }
def BitsetOperationsCardSaid : Prop := Claim7.holds Tryd.pinned (.plain (OpenSpec.ofChange bitsetOperationsSpec)) bitsetOperationsCard

/-- THE TIED CARD OF 'laminalaw03.BitsetValid'. -/
def bitsetValidCard : Claim7 := { stood := { row := bitsetValidRow, standIns := [], harness := (true, "c28097835d663b9d61abf88df0ff9bdd2ad36be2b0d6a8936cd905daa0342278"), looks := false }, kinds := [], alts := [], laidByText := true, laidKinds := [.data], laidTests := true, laidLooks := .later }
def BitsetValidCardSaid : Prop := Claim7.holds Tryd.pinned (.plain (OpenSpec.ofChange bitsetValidSpec)) bitsetValidCard

/-- THE TIED CARD OF 'laminalaw03.BitsetCodec'. -/
def bitsetCodecCard : Claim7 := { stood := { row := bitsetCodecRow, standIns := [], harness := (true, "c28097835d663b9d61abf88df0ff9bdd2ad36be2b0d6a8936cd905daa0342278"), looks := false }, kinds := [], alts := [], laidByText := true, laidKinds := [.data], laidTests := true, laidLooks := .later }
def BitsetCodecCardSaid : Prop := Claim7.holds Tryd.pinned (.plain (OpenSpec.ofChange bitsetCodecSpec)) bitsetCodecCard

/-- THE TIED CARD OF 'laminalaw03.BitsetRankSelect'. -/
def bitsetRankSelectCard : Claim7 := { stood := { row := bitsetRankSelectRow, standIns := [], harness := (true, "c28097835d663b9d61abf88df0ff9bdd2ad36be2b0d6a8936cd905daa0342278"), looks := false }, kinds := [], alts := [], laidByText := true, laidKinds := [.data], laidTests := true, laidLooks := .later }
def BitsetRankSelectCardSaid : Prop := Claim7.holds Tryd.pinned (.plain (OpenSpec.ofChange bitsetRankSelectSpec)) bitsetRankSelectCard

/-- THE TIED CARD OF 'laminalaw03.BitsetAlgebra'. -/
def bitsetAlgebraCard : Claim7 := { stood := { row := bitsetAlgebraRow, standIns := [], harness := (true, "c28097835d663b9d61abf88df0ff9bdd2ad36be2b0d6a8936cd905daa0342278"), looks := false }, kinds := [], alts := [], laidByText := true, laidKinds := [.data], laidTests := true, laidLooks := .later }
def BitsetAlgebraCardSaid : Prop := Claim7.holds Tryd.pinned (.plain (OpenSpec.ofChange bitsetAlgebraSpec)) bitsetAlgebraCard

/-- THE TIED CARD OF 'laminalaw03.BitsetRoundTrip'. -/
def bitsetRoundTripCard : Claim7 := { stood := { row := bitsetRoundTripRow, standIns := [], harness := (true, "c28097835d663b9d61abf88df0ff9bdd2ad36be2b0d6a8936cd905daa0342278"), looks := false }, kinds := [], alts := [], laidByText := true, laidKinds := [.data], laidTests := true, laidLooks := .later }
def BitsetRoundTripCardSaid : Prop := Claim7.holds Tryd.pinned (.plain (OpenSpec.ofChange bitsetRoundTripSpec)) bitsetRoundTripCard

/-- THE SECOND FORM's CARD OF 'laminalaw03.BitsetElements'. -/
def bitsetElementsUptoCard : Claim7 := { stood := { row := bitsetElementsUptoRow, standIns := [], harness := (true, "c28097835d663b9d61abf88df0ff9bdd2ad36be2b0d6a8936cd905daa0342278"), looks := false }, kinds := [], alts := [], laidByText := true, laidKinds := [.data], laidTests := true, laidLooks := .later }
def BitsetElementsUptoCardSaid : Prop := Claim7.holds Tryd.pinned (.plain (OpenSpec.upto bitsetElementsSpec)) bitsetElementsUptoCard

/-- THE SECOND FORM's CARD OF 'laminalaw03.BitsetOperations'. -/
def bitsetOperationsUptoCard : Claim7 := { stood := { row := bitsetOperationsUptoRow, standIns := [], harness := (true, "c28097835d663b9d61abf88df0ff9bdd2ad36be2b0d6a8936cd905daa0342278"), looks := false }, kinds := [], alts := [], laidByText := true, laidKinds := [.data], laidTests := true, laidLooks := .later }
def BitsetOperationsUptoCardSaid : Prop := Claim7.holds Tryd.pinned (.plain (OpenSpec.upto bitsetOperationsSpec)) bitsetOperationsUptoCard

/-- THE SECOND FORM's CARD OF 'laminalaw03.BitsetValid'. -/
def bitsetValidUptoCard : Claim7 := { stood := { row := bitsetValidUptoRow, standIns := [], harness := (true, "c28097835d663b9d61abf88df0ff9bdd2ad36be2b0d6a8936cd905daa0342278"), looks := false }, kinds := [], alts := [], laidByText := true, laidKinds := [.data], laidTests := true, laidLooks := .later }
def BitsetValidUptoCardSaid : Prop := Claim7.holds Tryd.pinned (.plain (OpenSpec.upto bitsetValidSpec)) bitsetValidUptoCard

/-- THE SECOND FORM's CARD OF 'laminalaw03.BitsetCodec'. -/
def bitsetCodecUptoCard : Claim7 := { stood := { row := bitsetCodecUptoRow, standIns := [], harness := (true, "c28097835d663b9d61abf88df0ff9bdd2ad36be2b0d6a8936cd905daa0342278"), looks := false }, kinds := [], alts := [], laidByText := true, laidKinds := [.data], laidTests := true, laidLooks := .later }
def BitsetCodecUptoCardSaid : Prop := Claim7.holds Tryd.pinned (.plain (OpenSpec.upto bitsetCodecSpec)) bitsetCodecUptoCard

/-- THE SECOND FORM's CARD OF 'laminalaw03.BitsetRankSelect'. -/
def bitsetRankSelectUptoCard : Claim7 := { stood := { row := bitsetRankSelectUptoRow, standIns := [], harness := (true, "c28097835d663b9d61abf88df0ff9bdd2ad36be2b0d6a8936cd905daa0342278"), looks := false }, kinds := [], alts := [], laidByText := true, laidKinds := [.data], laidTests := true, laidLooks := .later }
def BitsetRankSelectUptoCardSaid : Prop := Claim7.holds Tryd.pinned (.plain (OpenSpec.upto bitsetRankSelectSpec)) bitsetRankSelectUptoCard

/-- THE SECOND FORM's CARD OF 'laminalaw03.BitsetAlgebra'. -/
def bitsetAlgebraUptoCard : Claim7 := { stood := { row := bitsetAlgebraUptoRow, standIns := [], harness := (true, "c28097835d663b9d61abf88df0ff9bdd2ad36be2b0d6a8936cd905daa0342278"), looks := false }, kinds := [], alts := [], laidByText := true, laidKinds := [.data], laidTests := true, laidLooks := .later }
def BitsetAlgebraUptoCardSaid : Prop := Claim7.holds Tryd.pinned (.plain (OpenSpec.upto bitsetAlgebraSpec)) bitsetAlgebraUptoCard

/-- THE SECOND FORM's CARD OF 'laminalaw03.BitsetRoundTrip'. -/
def bitsetRoundTripUptoCard : Claim7 := { stood := { row := bitsetRoundTripUptoRow, standIns := [], harness := (true, "c28097835d663b9d61abf88df0ff9bdd2ad36be2b0d6a8936cd905daa0342278"), looks := false }, kinds := [], alts := [], laidByText := true, laidKinds := [.data], laidTests := true, laidLooks := .later }
def BitsetRoundTripUptoCardSaid : Prop := Claim7.holds Tryd.pinned (.plain (OpenSpec.upto bitsetRoundTripSpec)) bitsetRoundTripUptoCard
end Rows
end Go.Proofs.YtaegolkoinjmoaaDoor
