/-
  Shaken: what the claims of this seat need of this text. No condition.
-/
import Derived.Test.YthmipnokimlbdaaGreatM6
import Derived.Test.YthmipnokimlbdaaGreatVCat
import Derived.Test.YthmipnokimlbdaaGreatM2
namespace Go.Proofs.YthmipnokimlbdaaGreat
set_option maxRecDepth 8000
open Go.RowKit
end Go.Proofs.YthmipnokimlbdaaGreat
