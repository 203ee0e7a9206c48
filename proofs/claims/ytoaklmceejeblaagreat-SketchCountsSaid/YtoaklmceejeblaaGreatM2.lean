/-
  Texts that the claims of this seat share, put together (Bp1, Bp2, RMix). No condition.
-/
import Derived.Test.YtoaklmceejeblaaGreatProg
import Derived.Test.YtoaklmceejeblaaGreatM1
import Derived.OwnWalk
import Derived.WalkKit
/-
  Shaken: what the claims of this seat need of this text. No condition.
-/
namespace Go.Proofs.YtoaklmceejeblaaGreat
set_option maxRecDepth 8000
open Go.RowKit
set_option linter.unusedVariables false
set_option linter.unusedSimpArgs false
end Go.Proofs.YtoaklmceejeblaaGreat
/-
  Shaken: what the claims of this seat need of this text. No condition.
-/
namespace Go.Proofs.YtoaklmceejeblaaGreat
set_option maxRecDepth 8000
open Go.RowKit
set_option linter.unusedVariables false
set_option linter.unusedSimpArgs false
end Go.Proofs.YtoaklmceejeblaaGreat
/-
  Shaken: what the claims of this seat need of this text. No condition.
-/
namespace Go.Proofs.YtoaklmceejeblaaGreat
set_option maxRecDepth 8000
open Go.RowKit
theorem retN {k : IntKind} {a b : Int} (h : a = b) : Ending.returned (.int k a) = .returned (.int k b) := by rw [h]
set_option maxHeartbeats 400000 in
theorem rmix_any (n : Nat) (w : World) (h : n < 18446744073709551616) :
    Calls Tryz.prog 118 #[.int .u64 (n : Int)] w fun e w' => e = .returned (.int .u64 (mix n : Int)) ∧ w = w' := by
  go_enter Tryz.func118, Tryz.ntmps118
  go_wp2
  go_ret
  refine ⟨retN ?_, rfl⟩
  exact mix_go h
end Go.Proofs.YtoaklmceejeblaaGreat
