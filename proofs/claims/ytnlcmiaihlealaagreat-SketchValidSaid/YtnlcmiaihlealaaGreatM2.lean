/-
  Texts that the claims of this seat share, put together (Bp1, Bp2, RMix). No condition.
-/
import Derived.Test.YtnlcmiaihlealaaGreatProg
import Derived.Test.YtnlcmiaihlealaaGreatM1
import Derived.OwnWalk
import Derived.WalkKit
/-
  Shaken: what the claims of this seat need of this text. No condition.
-/
namespace Go.Proofs.YtnlcmiaihlealaaGreat
set_option maxRecDepth 8000
open Go.RowKit
set_option linter.unusedVariables false
set_option linter.unusedSimpArgs false
end Go.Proofs.YtnlcmiaihlealaaGreat
/-
  Shaken: what the claims of this seat need of this text. No condition.
-/
namespace Go.Proofs.YtnlcmiaihlealaaGreat
set_option maxRecDepth 8000
open Go.RowKit
set_option linter.unusedVariables false
set_option linter.unusedSimpArgs false
end Go.Proofs.YtnlcmiaihlealaaGreat
/-
  Shaken: what the claims of this seat need of this text. No condition.
-/
namespace Go.Proofs.YtnlcmiaihlealaaGreat
set_option maxRecDepth 8000
open Go.RowKit
theorem retN {k : IntKind} {a b : Int} (h : a = b) : Ending.returned (.int k a) = .returned (.int k b) := by rw [h]
end Go.Proofs.YtnlcmiaihlealaaGreat
