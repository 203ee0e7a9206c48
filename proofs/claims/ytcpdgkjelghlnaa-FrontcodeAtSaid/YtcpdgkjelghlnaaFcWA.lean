/-
  The walk of the law FrontcodeAt: it returns true for all bytes, offsets, numbers and indices; nothing that was there is changed.
-/
import Derived.Test.YtcpdgkjelghlnaaFcB
import Derived.Test.YtcpdgkjelghlnaaFc8
import Derived.Test.YtcpdgkjelghlnaaFcA
namespace Go.Proofs.Ytcpdgkjelghlnaa
open Go.RowKit
set_option linter.unusedVariables false
set_option linter.unusedSimpArgs false

set_option maxRecDepth 20000 in
set_option maxHeartbeats 8000000 in
theorem law_at11 (A : Option Addr) (c : Nat) (b : List UInt8) (off n i : Int) (w : World) (hv : IsBytes w (.slice A b.length c) b) (hlc : b.length ≤ c) (hlm : b.length ≤ 140737488351232) :
    Calls Try.prog 5 #[.slice A b.length c, .int .i64 off, .agg #[.int .i64 n, .int .i64 i]] w fun e w' => e = .returned (.bool true) ∧ Below w.heap.size w w' := by
  have HG0 := hidden (show Grows w (w.alloc (.cells #[.int .i64 n, .int .i64 i] 37)) from growA _)
  have HR0 := hidden (Row.new w 37 #[.int .i64 n, .int .i64 i] [.int .i64 n, .int .i64 i] rfl)
  by_cases c2 : 1000 < b.length
  · have hd3 : decide ((1000 : Int) < (b.length : Int)) = true := by simp; omega
    clear hv c2
    go_enter Try.func5, Try.ntmps5
    go_wp2_with fail
    refine (awake11_any _).mono ?_
    rintro e w2 ⟨rfl, g2⟩
    have HG2 := hidden (HG0.out.of_below g2)
    clear g2
    go_wp2_with fail
    go_ret
    exact ⟨rfl, HG2.out⟩
  have hd3 : decide ((1000 : Int) < (b.length : Int)) = false := by simp; omega
  by_cases c3 : 300 < n
  · have hd1 : decide (300 < n) = true := by simpa using c3
    by_cases c4 : n ≤ 65536
    · have hd2 : decide (n ≤ 65536) = true := by simpa using c4
      clear hv c2 c3 c4
      go_enter Try.func5, Try.ntmps5
      go_wp2_with fail
      refine (awake11_any _).mono ?_
      rintro e w2 ⟨rfl, g2⟩
      have HG2 := hidden (HG0.out.of_below g2)
      clear g2
      go_wp2_with fail
      go_ret
      exact ⟨rfl, HG2.out⟩
    · have hd2 : decide (n ≤ 65536) = false := by simpa using c4
      clear c3 c4
      have HPA := hidden (fun W (h : Grows w W) => fat_any A c b off n i W (hv.grow h) hlc (by omega))
      have HRA := hidden (fun W (h : Grows w W) => rfat_any A c b off n i W (hv.grow h) hlc (by omega))
      obtain ⟨R, hR⟩ : ∃ R, R = fcAt b off n i := ⟨_, rfl⟩
      rw [← hR] at HPA HRA
      obtain ⟨s, f⟩ := R
      have hse : ((strOf s).toList == (strOf s).toList) = true := by simp
      have HSE := hidden hse
      clear hv hR hse
      go_enter Try.func5, Try.ntmps5
      go_wp2_with fail
      refine (HPA.out _ HG0.out).mono ?_
      rintro e w1 ⟨rfl, g1⟩
      have HG1 := hidden (HG0.out.of_below g1)
      have HRA1 := hidden (HRA.out w1 HG1.out)
      have hr1 := HR0.out.grow g1
      have k0 := hr1.cell 0
      have k1 := hr1.cell 1
      simp only [List.getElem?_cons_zero, List.getElem?_cons_succ] at k0 k1
      clear g1 hr1
      go_wp2_with fail
      refine HRA1.out.mono ?_
      rintro e w2 ⟨rfl, g2⟩
      have HG2 := hidden (HG1.out.of_below g2)
      have hse := HSE.out
      clear g2 k0 k1
      generalize strOf s = t at *
      go_wp2_with fail
      refine (awake11_any w2).mono ?_
      rintro e w4 ⟨rfl, g4⟩
      have HG4 := hidden (HG2.out.of_below g4)
      clear g4
      go_wp2_with fail
      go_ret
      exact ⟨rfl, HG4.out⟩
  · have hd1 : decide (300 < n) = false := by simpa using c3
    clear c3
    have HPA := hidden (fun W (h : Grows w W) => fat_any A c b off n i W (hv.grow h) hlc (by omega))
    have HRA := hidden (fun W (h : Grows w W) => rfat_any A c b off n i W (hv.grow h) hlc (by omega))
    obtain ⟨R, hR⟩ : ∃ R, R = fcAt b off n i := ⟨_, rfl⟩
    rw [← hR] at HPA HRA
    obtain ⟨s, f⟩ := R
    have hse : ((strOf s).toList == (strOf s).toList) = true := by simp
    have HSE := hidden hse
    clear hv hR hse
    go_enter Try.func5, Try.ntmps5
    go_wp2_with fail
    refine (HPA.out _ HG0.out).mono ?_
    rintro e w1 ⟨rfl, g1⟩
    have HG1 := hidden (HG0.out.of_below g1)
    have HRA1 := hidden (HRA.out w1 HG1.out)
    have hr1 := HR0.out.grow g1
    have k0 := hr1.cell 0
    have k1 := hr1.cell 1
    simp only [List.getElem?_cons_zero, List.getElem?_cons_succ] at k0 k1
    clear g1 hr1
    go_wp2_with fail
    refine HRA1.out.mono ?_
    rintro e w2 ⟨rfl, g2⟩
    have HG2 := hidden (HG1.out.of_below g2)
    have hse := HSE.out
    clear g2 k0 k1
    generalize strOf s = t at *
    go_wp2_with fail
    refine (awake11_any w2).mono ?_
    rintro e w4 ⟨rfl, g4⟩
    have HG4 := hidden (HG2.out.of_below g4)
    clear g4
    go_wp2_with fail
    go_ret
    exact ⟨rfl, HG4.out⟩
end Go.Proofs.Ytcpdgkjelghlnaa
