/-
  Shaken: what the claims of this seat need of this text. No condition.
-/
import Derived.Test.YtfjhahhkakfhmaaZr3
import Derived.StillTailTactics
namespace Go.Proofs.Ytfjhahhkakfhmaa
set_option maxRecDepth 8000
open Go.RowKit
set_option linter.unusedVariables false
set_option linter.unusedSimpArgs false
def vat (v : Vec) (i : Nat) : Val := if v.ns.getD i true = true then nulX else if v.T = 3 then ⟨3, 0, strOf (v.ts.getD i [])⟩ else ⟨v.T, v.is.getD i 0, ⟨#[]⟩⟩
def VaR (x : Val) (w : World) (e : Ending) (w' : World) : Prop := e = .returned (vV x) ∧ Grows w w'
theorem drawn_grows4 {w w' : World} (h : Grows w w') : Grows w w'.drew := h.of_below ⟨rfl, rfl, rfl, Nat.le_refl _, fun _ _ => rfl⟩
end Go.Proofs.Ytfjhahhkakfhmaa
