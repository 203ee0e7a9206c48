/-
  Texts that the claims of this seat share, put together (Zr1, Zr2). No condition.
-/
import Derived.Test.YtfjhahhkakfhmaaM5
import Derived.Test.YtfjhahhkakfhmaaM1
import Derived.Test.YtfjhahhkakfhmaaM2
import Derived.BigQuiet
/-
  Shaken: what the claims of this seat need of this text. No condition.
-/
namespace Go.Proofs.Ytfjhahhkakfhmaa
set_option maxRecDepth 8000
open Go.RowKit
set_option linter.unusedVariables false
set_option linter.unusedSimpArgs false
abbrev vV (x : Val) : Value := .agg #[.int .i64 x.k, .int .i64 x.n, .string x.t]
end Go.Proofs.Ytfjhahhkakfhmaa
/-
  Shaken: what the claims of this seat need of this text. No condition.
-/
namespace Go.Proofs.Ytfjhahhkakfhmaa
set_option maxRecDepth 8000
open Go.RowKit
set_option linter.unusedVariables false
set_option linter.unusedSimpArgs false
end Go.Proofs.Ytfjhahhkakfhmaa
