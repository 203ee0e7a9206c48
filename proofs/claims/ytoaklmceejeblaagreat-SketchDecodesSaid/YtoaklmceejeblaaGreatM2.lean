/-
  Texts that the claims of this seat share, put together (Bp1, Bp2, RMix, Zig). No condition.
-/
import Derived.Test.YtoaklmceejeblaaGreatProg
import Derived.Test.YtoaklmceejeblaaGreatM1
import Derived.OwnWalk
import Derived.WalkKit
/-
  Shaken: what the claims of this seat need of this text. No condition.
-/
namespace Go.Proofs.YtoaklmceejeblaaGreat
set_option maxRecDepth 8000
open Go.RowKit
set_option linter.unusedVariables false
set_option linter.unusedSimpArgs false
end Go.Proofs.YtoaklmceejeblaaGreat
/-
  Shaken: what the claims of this seat need of this text. No condition.
-/
namespace Go.Proofs.YtoaklmceejeblaaGreat
set_option maxRecDepth 8000
open Go.RowKit
set_option linter.unusedVariables false
set_option linter.unusedSimpArgs false
end Go.Proofs.YtoaklmceejeblaaGreat
/-
  Shaken: what the claims of this seat need of this text. No condition.
-/
namespace Go.Proofs.YtoaklmceejeblaaGreat
set_option maxRecDepth 8000
open Go.RowKit
theorem retN {k : IntKind} {a b : Int} (h : a = b) : Ending.returned (.int k a) = .returned (.int k b) := by rw [h]
end Go.Proofs.YtoaklmceejeblaaGreat
/-
  Shaken: what the claims of this seat need of this text. No condition.
-/
namespace Go.Proofs.YtoaklmceejeblaaGreat
set_option maxRecDepth 8000
open Go.RowKit
def uz (u : Int) : Int := if u % 2 = 1 then -1 - u / 2 else u / 2
theorem ret_eq {k : IntKind} {a b : Int} (h : a = b) : Ending.returned (.int k a) = .returned (.int k b) := by rw [h]
theorem unzigzag_any (u : Int) (w : World) (h0 : 0 ≤ u) (h1 : u < 18446744073709551616) :
    Calls Tryz.prog 191 #[.int .u64 u] w fun e w' => e = .returned (.int .i64 (uz u)) ∧ w = w' := by
  have ea := and1_u64 u h0 h1
  have en := not_i64 (u / 2) (by omega) (by omega)
  by_cases hn : u % 2 = 1
  · have ez : Hid (uz u = -1 - u / 2) := by unfold uz; rw [if_pos hn]; exact rfl
    have ht : (bits .and .u64 u 1 == 1) = true := by rw [ea, hn]; rfl
    have eh := hidden en
    clear ea en hn
    go_enter Tryz.func191, Tryz.ntmps191
    go_wp2
    go_ret
    refine ⟨ret_eq ?_, rfl⟩
    rw [ez.out, eh.out]
  · have ez : Hid (uz u = u / 2) := by unfold uz; rw [if_neg hn]; exact rfl
    have ht : (bits .and .u64 u 1 == 1) = false := by rw [ea]; simpa using hn
    clear ea en hn
    go_enter Tryz.func191, Tryz.ntmps191
    go_wp2
    go_ret
    refine ⟨ret_eq ?_, rfl⟩
    rw [ez.out]
theorem runzigzag_any (u : Int) (w : World) (h0 : 0 ≤ u) (h1 : u < 18446744073709551616) :
    Calls Tryz.prog 162 #[.int .u64 u] w fun e w' => e = .returned (.int .i64 (uz u)) ∧ w = w' := by
  by_cases hn : u % 2 = 1
  · have ez : Hid (uz u = -1 - u / 2) := by unfold uz; rw [if_pos hn]; exact rfl
    have ht : (u % 2 == 0) = false := by rw [hn]; rfl
    clear hn
    go_enter Tryz.func162, Tryz.ntmps162
    go_wp2
    go_ret
    refine ⟨ret_eq ?_, rfl⟩
    rw [ez.out]
    omega
  · have ez : Hid (uz u = u / 2) := by unfold uz; rw [if_neg hn]; exact rfl
    have ht : (u % 2 == 0) = true := by have : u % 2 = 0 := by omega
                                        rw [this]; rfl
    clear hn
    go_enter Tryz.func162, Tryz.ntmps162
    go_wp2
    go_ret
    refine ⟨ret_eq ?_, rfl⟩
    rw [ez.out]
end Go.Proofs.YtoaklmceejeblaaGreat
