/-
  Shaken: what the claims of this seat need of this text. No condition.
-/
import Derived.Test.YtfjhahhkakfhmaaM6
import Derived.Test.YtfjhahhkakfhmaaMid
namespace Go.Proofs.Ytfjhahhkakfhmaa
set_option maxRecDepth 8000
open Go.RowKit
set_option linter.unusedVariables false
set_option linter.unusedSimpArgs false
end Go.Proofs.Ytfjhahhkakfhmaa
