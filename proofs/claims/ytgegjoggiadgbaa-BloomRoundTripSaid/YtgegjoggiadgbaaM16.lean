/-
  Texts that the claims of this seat share, put together (RMix, Zig). No condition.
-/
import Derived.Test.YtgegjoggiadgbaaProg
import Derived.Test.YtgegjoggiadgbaaM1
import Derived.WalkKit
/-
  Shaken: what the claims of this seat need of this text. No condition.
-/
namespace Go.Proofs.Ytgegjoggiadgbaa
set_option maxRecDepth 8000
open Go.RowKit
theorem retN {k : IntKind} {a b : Int} (h : a = b) : Ending.returned (.int k a) = .returned (.int k b) := by rw [h]
set_option maxHeartbeats 400000 in
theorem rmix_any (n : Nat) (w : World) (h : n < 18446744073709551616) :
    Calls Try.prog 69 #[.int .u64 (n : Int)] w fun e w' => e = .returned (.int .u64 (mix n : Int)) ∧ w = w' := by
  go_enter Try.func69, Try.ntmps69
  go_wp2
  go_ret
  refine ⟨retN ?_, rfl⟩
  exact mix_go h
end Go.Proofs.Ytgegjoggiadgbaa
/-
  Shaken: what the claims of this seat need of this text. No condition.
-/
namespace Go.Proofs.Ytgegjoggiadgbaa
set_option maxRecDepth 8000
open Go.RowKit
def uz (u : Int) : Int := if u % 2 = 1 then -1 - u / 2 else u / 2
end Go.Proofs.Ytgegjoggiadgbaa
