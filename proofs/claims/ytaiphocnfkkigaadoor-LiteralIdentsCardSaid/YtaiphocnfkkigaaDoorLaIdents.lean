/-
  The law LiteralIdents, walked: it returns true. Nothing that was there is changed.
-/
import Derived.Test.YtaiphocnfkkigaaDoorLa0
namespace Go.Proofs.YtaiphocnfkkigaaDoor
open Go.RowKit
set_option linter.unusedVariables false
set_option linter.unusedSimpArgs false

theorem law_idents (l : List UInt8) (w : World) (hf : Fit w) (hl : l.length ≤ 4611686018427387900) : Calls Tryd.prog 3 #[.string (strOf l)] w fun e w' => e = .returned (.bool true) ∧ Grows w w' := by
  have H1 := hidden (lident_any l w hl)
  have H2 := hidden (fun w => rident_any l w hl)
  have HA := hidden (fun w2 (g : Grows w w2) => awake_any w2 (hf.grow g))
  clear hf
  generalize identL l = b at *
  go_enter Tryd.func3, Tryd.ntmps3
  go_wp2_with (first
    | (go_at_call 10; refine H1.out.mono ?_; rintro e w2 ⟨rfl, g2⟩; have HG2 := hidden g2; clear g2)
    | (go_at_call 11; refine (H2.out _).mono ?_; rintro e w3 ⟨rfl, rfl⟩)
    | (go_at_call 12; refine (HA.out _ HG2.out).mono ?_; rintro e w4 ⟨rfl, g4⟩; have HG4 := hidden (HG2.out.of_below g4); clear g4))
  go_ret
  exact ⟨rfl, HG4.out⟩
end Go.Proofs.YtaiphocnfkkigaaDoor
