/-
  Shaken: what the claims of this seat need of this text. No condition.
-/
import Derived.Test.YtnlcmiaihlealaaGreatProg
import Derived.Test.YtnlcmiaihlealaaGreatM1
import Derived.Laws.CopyOwn
namespace Go.Proofs.YtnlcmiaihlealaaGreat
set_option maxRecDepth 8000
open Go.RowKit
end Go.Proofs.YtnlcmiaihlealaaGreat
