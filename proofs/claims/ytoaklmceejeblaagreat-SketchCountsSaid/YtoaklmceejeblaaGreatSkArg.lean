/-
  Shaken: what the claims of this seat need of this text. No condition.
-/
import Derived.Test.YtoaklmceejeblaaGreatVArg
import Derived.Test.YtoaklmceejeblaaGreatM12
import Derived.ChangeSame
namespace Go.Proofs.YtoaklmceejeblaaGreat
open Go.ChangeShapes Go.WideShapes Go.ChangeAt Go.RowKit Go.Joins Go.Deep
set_option linter.unusedVariables false
set_option linter.unusedSimpArgs false
set_option maxRecDepth 100000
def in16 (n : Int) : Prop := -9223372036854775808 ≤ n ∧ n ≤ 9223372036854775807
theorem cellsBool16 : Tryz.prog.cellsOf 4 = 1 := by kernel_rfl
theorem cellsSk16 : Tryz.prog.cellsOf 29 = 7 := by kernel_rfl
theorem cellsWs16 : Tryz.prog.cellsOf 26 = 1 := by kernel_rfl
theorem cellsIs16 : Tryz.prog.cellsOf 27 = 1 := by kernel_rfl
theorem cellsVs16 : Tryz.prog.cellsOf 22 = 1 := by kernel_rfl
theorem array7 {α : Type} {cs : Array α} (h : cs.size = 7) : ∃ c0 c1 c2 c3 c4 c5 c6, cs = #[c0, c1, c2, c3, c4, c5, c6] := by
  obtain ⟨l⟩ := cs
  match l, h with
  | [c0, c1, c2, c3, c4, c5, c6], _ => exact ⟨c0, c1, c2, c3, c4, c5, c6, rfl⟩
section
variable {H : Type} {enc : TypeId × Value → H} {W : World}
end
end Go.Proofs.YtoaklmceejeblaaGreat
