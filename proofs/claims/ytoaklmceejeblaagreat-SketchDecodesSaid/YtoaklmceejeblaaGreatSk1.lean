/-
  Shaken: what the claims of this seat need of this text. No condition.
-/
import Derived.Test.YtoaklmceejeblaaGreatM14
import Derived.Test.YtoaklmceejeblaaGreatM5
namespace Go.Proofs.YtoaklmceejeblaaGreat
set_option maxRecDepth 8000
open Go.RowKit
set_option linter.unusedVariables false
set_option linter.unusedSimpArgs false
theorem growK (w : World) (o : Obj) : Grows w (w.alloc o) := (Below.refl _ _).alloc (Nat.le_refl _) o
theorem rvalues_any (r n : Int) (A1 A2 A3 A4 : Option Addr) (l1 c1 l2 c2 l3 c3 l4 c4 : Nat) (b : Bool) (w : World) (h : -9223372036854775808 ≤ r - n ∧ r - n ≤ 9223372036854775807) :
    Calls Tryz.prog 85 #[.agg #[.int .i64 r, .int .i64 n, .slice A1 l1 c1, .bool b, .slice A2 l2 c2, .slice A3 l3 c3, .slice A4 l4 c4]] w fun e w' => e = .returned (.int .i64 (r - n)) ∧ Grows w w' := by
  have HG := hidden (growK w (.cells #[.int .i64 r, .int .i64 n, .slice A1 l1 c1, .bool b, .slice A2 l2 c2, .slice A3 l3 c3, .slice A4 l4 c4] 29))
  obtain ⟨h1, h2⟩ := h
  go_enter Tryz.func85, Tryz.ntmps85
  go_wp2_with fail
  go_ret
  exact ⟨by go_num, HG.out⟩
end Go.Proofs.YtoaklmceejeblaaGreat
