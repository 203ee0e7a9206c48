/-
  What the rows' list of variables gives the walks ('Fit'); what an argument that came in is told as. No condition.
-/
import Derived.Test.YtaiphocnfkkigaaDoorRows
import Derived.Test.YtaiphocnfkkigaaDoorLib
import Derived.Stop.LaidErr
import Derived.Lib.LaidTab
import Derived.LaidLaws
import Derived.MakeChecks
namespace Go.Proofs.YtaiphocnfkkigaaDoor
open Go.RowKit
set_option linter.unusedVariables false
set_option linter.unusedSimpArgs false

theorem starErr : "*" ++ "errors.errorString" = "*errors.errorString" := by decide
theorem rowErr (u : TypeId) (h : Tryd.prog.typeName? 3 u = some "*errors.errorString") : u = 111 :=
  typeName_ptr_named (nm := "errors.errorString") (by rw [starErr]; kernel_rfl) (by kernel_rfl) (by decide) u (by rw [starErr]; exact h)
theorem gErr : Tryd.prog.globalNamed "strconv.ErrRange" = some 1 := by kernel_rfl
theorem tErr : (Tryd.prog.globals[1]?).map (·.type) = some 54 := by kernel_rfl
theorem tPow : (Tryd.prog.globals[2]?).map (·.type) = some 101 := by kernel_rfl
theorem cellsErr : Tryd.prog.cellsOf 113 = 1 := by kernel_rfl
theorem cellsStr9 : Tryd.prog.cellsOf 9 = 1 := by kernel_rfl
theorem cellsU64 : Tryd.prog.cellsOf 77 = 1 := by kernel_rfl
theorem cellsPow : Tryd.prog.cellsOf 101 = 20 := by kernel_rfl
theorem datumPow : (Rows.laid_internal_strconv_uint64pow10 : DataW Unit) = Lib.tabData .u64 Lib.pow10Tab := rfl
theorem fit_of_laid {W : World} (h : laidMetH Tryd.prog Rows.literalIdentsRow.laid W) (hsh : W.ShapedOpen Tryd.prog) : Fit W := by
  rw [MakeChecks.laidMetH_plain _ _ _ (by kernel_rfl)] at h
  have h2 : laidMet Tryd.prog (("internal/strconv.uint64pow10", Rows.laid_internal_strconv_uint64pow10) :: ("unicode/utf8.acceptRanges", Rows.laid_unicode_utf8_acceptRanges) :: ("strconv.ErrRange", Rows.laid_strconv_ErrRange) :: ("strconv.ErrSyntax", Rows.laid_strconv_ErrSyntax) :: [("unicode/utf8.first", Rows.laid_unicode_utf8_first)]) W := (laidMet.tail (laidMet.tail h))
  rw [datumPow] at h2
  have hT := Lib.tabIs_of_head gPow tPow Tryd.underlying101 Tryd.underlying77 cellsU64 cellsPow h2
  obtain ⟨a, s, hv, -, -, -⟩ := laid_sentinel (laidMet.tail (laidMet.tail h2)) gErr tErr Tryd.underlying54 rowErr Tryd.underlying111 Tryd.underlying113 rfl rfl Tryd.underlying9 cellsErr cellsStr9
  exact ⟨Tryd.laysM155.s1_3 W hsh, hT, _, by have h0 := World.var?_cell gErr hv 0; simpa using h0, Or.inr ⟨_, _, rfl⟩⟩
end Go.Proofs.YtaiphocnfkkigaaDoor
