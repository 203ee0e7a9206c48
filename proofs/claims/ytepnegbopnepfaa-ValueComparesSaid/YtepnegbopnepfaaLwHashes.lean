/-
  The walk of the law ValueHashes: it returns true for every seed and row; nothing that was there is changed.
-/
import Derived.Test.YtepnegbopnepfaaLw0
import Derived.Test.YtepnegbopnepfaaLv7
import Derived.Test.YtepnegbopnepfaaLv8
namespace Go.Proofs.Ytepnegbopnepfaa
open Go.RowKit
set_option linter.unusedVariables false
set_option linter.unusedSimpArgs false

theorem lawvalid_any (v : Value) (l : List Val) (w : World) (hr : ReadsV w v l) (hl : l.length ≤ 9223372036854775806) : Calls Try.prog 14 #[v] w fun e w' => e = .returned (.bool (validL l)) ∧ Grows w w' := by
  have HV := hidden (rvrow_any v l w hr hl)
  generalize validL l = b at *
  obtain ⟨A, c, rfl, hle, hxx⟩ := hr
  clear hxx
  go_enter Try.func14, Try.ntmps14
  go_wp2_with fail
  refine HV.out.mono ?_
  rintro e w2 ⟨rfl, g2⟩
  have HG := hidden g2
  clear g2
  go_wp2_with fail
  go_ret
  exact ⟨rfl, HG.out⟩
theorem law_hashes (s : Nat) (v : Value) (l : List Val) (w : World) (hs : s < 18446744073709551616) (hr : ReadsV w v l) (hl : l.length ≤ 9223372036854775806) : Calls Try.prog 8 #[.int .u64 (s : Int), v] w fun e w' => e = .returned (.bool true) ∧ Grows w w' := by
  have HR := hidden hr
  have HV := hidden (lawvalid_any v l w hr hl)
  have HA := hidden (fun w h => lhash_any s v l w hs h hl)
  have HB := hidden (fun w h => rhashv_any s v l w hs h hl)
  generalize hashR (mix s) l = z at *
  obtain ⟨A, c, rfl, hle, hxx⟩ := hr
  clear hxx hs
  cases hb : validL l
  · rw [hb] at HV
    clear hb HA HB
    go_enter Try.func8, Try.ntmps8
    go_wp2_with fail
    refine HV.out.mono ?_
    rintro e w2 ⟨rfl, g2⟩
    have HG2 := hidden g2
    clear g2
    go_wp2_with fail
    refine (awake_any _).mono ?_
    rintro e w3 ⟨rfl, g3⟩
    have HG3 := hidden (HG2.out.of_below g3)
    clear g3
    go_wp2_with fail
    go_ret
    exact ⟨rfl, HG3.out⟩
  · rw [hb] at HV HA HB
    have HA2 := hidden (fun w h => HA.out w h rfl)
    have HB2 := hidden (fun w h => HB.out w h rfl)
    clear hb HA HB
    go_enter Try.func8, Try.ntmps8
    go_wp2_with fail
    refine HV.out.mono ?_
    rintro e w2 ⟨rfl, g2⟩
    have HG2 := hidden g2
    clear g2
    go_wp2_with fail
    refine (HA2.out _ (HR.out.grow HG2.out)).mono ?_
    rintro e w3 ⟨rfl, g3⟩
    have HG3 := hidden (HG2.out.of_below g3)
    clear g3
    go_wp2_with fail
    refine (HB2.out _ (HR.out.grow HG3.out)).mono ?_
    rintro e w4 ⟨rfl, g4⟩
    have HG4 := hidden (HG3.out.of_below g4)
    clear g4
    go_wp2_with fail
    refine (awake_any _).mono ?_
    rintro e w5 ⟨rfl, g5⟩
    have HG5 := hidden (HG4.out.of_below g5)
    clear g5
    go_wp2_with fail
    go_ret
    exact ⟨rfl, HG5.out⟩
end Go.Proofs.Ytepnegbopnepfaa
