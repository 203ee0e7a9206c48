/-
  DERIVED. GIVEN WITH THE SEED: THE CARDS: each row of YtaiphocnfkkigaaDoorRows.lean that lists a variable, with what it lists TIED to the program's text (the seventh form; the later family's looks); each row that meets fmt, with fmt's text TOLD by the authors' own Lean function (tested against real Go, not proved from fmt's source: count such statements apart). THE CARD IS WHAT COUNTS. Prove the row's statement (the work); the ties are given (YtaiphocnfkkigaaDoorTie.lean); close each card by the builder's one call (the guide's Derived/Test/ToyasCard.lean, 'card_holds'). Laid BY PROGRAM, IN A SANDBOX (cutbox-door.mjs). By AI agents, Wed Nov 11 2026. No macro, syntax, notation, axiom, sorry.
-/
import Derived.Test.YtaiphocnfkkigaaDoorRows
import GoSem.ClaimSeven
namespace Go.Proofs.YtaiphocnfkkigaaDoor
namespace Rows

/-- THE TIED CARD OF 'laminalaw05.LiteralIdents'. -/
def literalIdentsCard : Claim7 := { stood := { row := literalIdentsRow, standIns := [], harness := (true, "ca7e88cdd9b92f8088c40b036c8826b3c3db0c76be81fc77e7482d78a2172c7f"), looks := true }, kinds := [], alts := [], laidByText := true, laidKinds := [.data, .data, .data, .data, .sentinel, .sentinel, .pinned], laidTests := true, laidLooks := .later }
def LiteralIdentsCardSaid : Prop := Claim7.holds Tryd.pinned (.plain (OpenSpec.ofChange literalIdentsSpec)) literalIdentsCard

/-- THE TIED CARD OF 'laminalaw05.LiteralInts'. -/
def literalIntsCard : Claim7 := { stood := { row := literalIntsRow, standIns := [], harness := (true, "ca7e88cdd9b92f8088c40b036c8826b3c3db0c76be81fc77e7482d78a2172c7f"), looks := true }, kinds := [], alts := [], laidByText := true, laidKinds := [.data, .data, .data, .data, .sentinel, .sentinel, .pinned], laidTests := true, laidLooks := .later }
def LiteralIntsCardSaid : Prop := Claim7.holds Tryd.pinned (.plain (OpenSpec.ofChange literalIntsSpec)) literalIntsCard

/-- THE TIED CARD OF 'laminalaw05.LiteralQuotes'. -/
def literalQuotesCard : Claim7 := { stood := { row := literalQuotesRow, standIns := [], harness := (true, "ca7e88cdd9b92f8088c40b036c8826b3c3db0c76be81fc77e7482d78a2172c7f"), looks := true }, kinds := [], alts := [], laidByText := true, laidKinds := [.data, .data, .data, .data, .sentinel, .sentinel, .pinned], laidTests := true, laidLooks := .later }
def LiteralQuotesCardSaid : Prop := Claim7.holds Tryd.pinned (.plain (OpenSpec.ofChange literalQuotesSpec)) literalQuotesCard

/-- THE TIED CARD OF 'laminalaw05.LiteralValues'. -/
def literalValuesCard : Claim7 := { stood := { row := literalValuesRow, standIns := [], harness := (true, "ca7e88cdd9b92f8088c40b036c8826b3c3db0c76be81fc77e7482d78a2172c7f"), looks := true }, kinds := [], alts := [], laidByText := true, laidKinds := [.data, .data, .data, .data, .sentinel, .sentinel, .pinned], laidTests := true, laidLooks := .later }
def LiteralValuesCardSaid : Prop := Claim7.holds Tryd.pinned (.plain (OpenSpec.ofChange literalValuesSpec)) literalValuesCard

/-- THE TIED CARD OF 'laminalaw05.LiteralRows'. -/
def literalRowsCard : Claim7 := { stood := { row := literalRowsRow, standIns := [], harness := (true, "ca7e88cdd9b92f8088c40b036c8826b3c3db0c76be81fc77e7482d78a2172c7f"), looks := true }, kinds := [], alts := [], laidByText := true, laidKinds := [.data, .data, .data, .data, .sentinel, .sentinel, .pinned], laidTests := true, laidLooks := .later }
def LiteralRowsCardSaid : Prop := Claim7.holds Tryd.pinned (.plain (OpenSpec.ofChange literalRowsSpec)) literalRowsCard

/-- THE TIED CARD OF 'laminalaw05.LiteralLike'. -/
def literalLikeCard : Claim7 := { stood := { row := literalLikeRow, standIns := [], harness := (true, "ca7e88cdd9b92f8088c40b036c8826b3c3db0c76be81fc77e7482d78a2172c7f"), looks := true }, kinds := [], alts := [], laidByText := true, laidKinds := [.data, .data, .data, .data, .sentinel, .sentinel, .pinned], laidTests := true, laidLooks := .later }
def LiteralLikeCardSaid : Prop := Claim7.holds Tryd.pinned (.plain (OpenSpec.ofChange literalLikeSpec)) literalLikeCard

/-- THE TIED CARD OF 'laminalaw05.LiteralLikeRules'. -/
def literalLikeRulesCard : Claim7 := { stood := { row := literalLikeRulesRow, standIns := [], harness := (true, "ca7e88cdd9b92f8088c40b036c8826b3c3db0c76be81fc77e7482d78a2172c7f"), looks := true }, kinds := [], alts := [], laidByText := true, laidKinds := [.data, .data, .data, .data, .sentinel, .sentinel, .pinned], laidTests := true, laidLooks := .later }
def LiteralLikeRulesCardSaid : Prop := Claim7.holds Tryd.pinned (.plain (OpenSpec.ofChange literalLikeRulesSpec)) literalLikeRulesCard

/-- THE SECOND FORM's CARD OF 'laminalaw05.LiteralIdents'. -/
def literalIdentsUptoCard : Claim7 := { stood := { row := literalIdentsUptoRow, standIns := [], harness := (true, "ca7e88cdd9b92f8088c40b036c8826b3c3db0c76be81fc77e7482d78a2172c7f"), looks := true }, kinds := [], alts := [], laidByText := true, laidKinds := [.data, .data, .data, .data, .sentinel, .sentinel, .pinned], laidTests := true, laidLooks := .later }
def LiteralIdentsUptoCardSaid : Prop := Claim7.holds Tryd.pinned (.plain (OpenSpec.upto literalIdentsSpec)) literalIdentsUptoCard

/-- THE SECOND FORM's CARD OF 'laminalaw05.LiteralInts'. -/
def literalIntsUptoCard : Claim7 := { stood := { row := literalIntsUptoRow, standIns := [], harness := (true, "ca7e88cdd9b92f8088c40b036c8826b3c3db0c76be81fc77e7482d78a2172c7f"), looks := true }, kinds := [], alts := [], laidByText := true, laidKinds := [.data, .data, .data, .data, .sentinel, .sentinel, .pinned], laidTests := true, laidLooks := .later }
def LiteralIntsUptoCardSaid : Prop := Claim7.holds Tryd.pinned (.plain (OpenSpec.upto literalIntsSpec)) literalIntsUptoCard

/-- THE SECOND FORM's CARD OF 'laminalaw05.LiteralQuotes'. -/
def literalQuotesUptoCard : Claim7 := { stood := { row := literalQuotesUptoRow, standIns := [], harness := (true, "ca7e88cdd9b92f8088c40b036c8826b3c3db0c76be81fc77e7482d78a2172c7f"), looks := true }, kinds := [], alts := [], laidByText := true, laidKinds := [.data, .data, .data, .data, .sentinel, .sentinel, .pinned], laidTests := true, laidLooks := .later }
def LiteralQuotesUptoCardSaid : Prop := Claim7.holds Tryd.pinned (.plain (OpenSpec.upto literalQuotesSpec)) literalQuotesUptoCard

/-- THE SECOND FORM's CARD OF 'laminalaw05.LiteralValues'. -/
def literalValuesUptoCard : Claim7 := { stood := { row := literalValuesUptoRow, standIns := [], harness := (true, "ca7e88cdd9b92f8088c40b036c8826b3c3db0c76be81fc77e7482d78a2172c7f"), looks := true }, kinds := [], alts := [], laidByText := true, laidKinds := [.data, .data, .data, .data, .sentinel, .sentinel, .pinned], laidTests := true, laidLooks := .later }
def LiteralValuesUptoCardSaid : Prop := Claim7.holds Tryd.pinned (.plain (OpenSpec.upto literalValuesSpec)) literalValuesUptoCard

/-- THE SECOND FORM's CARD OF 'laminalaw05.LiteralRows'. -/
def literalRowsUptoCard : Claim7 := { stood := { row := literalRowsUptoRow, standIns := [], harness := (true, "ca7e88cdd9b92f8088c40b036c8826b3c3db0c76be81fc77e7482d78a2172c7f"), looks := true }, kinds := [], alts := [], laidByText := true, laidKinds := [.data, .data, .data, .data, .sentinel, .sentinel, .pinned], laidTests := true, laidLooks := .later }
def LiteralRowsUptoCardSaid : Prop := Claim7.holds Tryd.pinned (.plain (OpenSpec.upto literalRowsSpec)) literalRowsUptoCard

/-- THE SECOND FORM's CARD OF 'laminalaw05.LiteralLike'. -/
def literalLikeUptoCard : Claim7 := { stood := { row := literalLikeUptoRow, standIns := [], harness := (true, "ca7e88cdd9b92f8088c40b036c8826b3c3db0c76be81fc77e7482d78a2172c7f"), looks := true }, kinds := [], alts := [], laidByText := true, laidKinds := [.data, .data, .data, .data, .sentinel, .sentinel, .pinned], laidTests := true, laidLooks := .later }
def LiteralLikeUptoCardSaid : Prop := Claim7.holds Tryd.pinned (.plain (OpenSpec.upto literalLikeSpec)) literalLikeUptoCard

/-- THE SECOND FORM's CARD OF 'laminalaw05.LiteralLikeRules'. -/
def literalLikeRulesUptoCard : Claim7 := { stood := { row := literalLikeRulesUptoRow, standIns := [], harness := (true, "ca7e88cdd9b92f8088c40b036c8826b3c3db0c76be81fc77e7482d78a2172c7f"), looks := true }, kinds := [], alts := [], laidByText := true, laidKinds := [.data, .data, .data, .data, .sentinel, .sentinel, .pinned], laidTests := true, laidLooks := .later }
def LiteralLikeRulesUptoCardSaid : Prop := Claim7.holds Tryd.pinned (.plain (OpenSpec.upto literalLikeRulesSpec)) literalLikeRulesUptoCard
end Rows
end Go.Proofs.YtaiphocnfkkigaaDoor
