/-
  The walk of the law ChecksumOpen: it returns true for every byte slice; nothing that was there is changed.
-/
import Derived.Test.YtepahejeeajfbaaCkAwake
namespace Go.Proofs.Ytepahejeeajfbaa
open Go.RowKit

theorem openOf_le (l : List UInt8) : (openOf l).1.length ≤ l.length := by
  unfold openOf
  split
  · simp
  · split <;> simp

theorem openOf_err (l : List UInt8) : (openOf l).2 ≤ 5 := by
  unfold openOf
  split
  · simp
  · split <;> simp

set_option maxHeartbeats 400000 in
theorem law_open (A : Option Addr) (d : Nat) (l : List UInt8) (w : World) (hv : IsBytes w (.slice A l.length d) l) (hd : l.length ≤ d) :
    Calls Try.prog 4 #[.slice A l.length d] w fun e w' => e = .returned (.bool true) ∧ Below w.heap.size w w' := by
  have HV := hidden hv
  by_cases hb : l.length ≤ 5000
  · have hb' : ¬ (5000 < l.length) := by omega
    have hmo := hidden (openOf_le l)
    have hme := openOf_err l
    have H1 := hidden (ck_open A d l w HV.out (by omega) hd)
    have H2 := hidden (fun w1 hv1 => ropen_any A d l w1 hv1 (by omega) hd)
    generalize openOf l = r at *
    go_enter Try.func4, Try.ntmps4
    go_wp2_with fail
    refine (Calls.mono H1.out ?_)
    rintro e w1 ⟨B, c1, rfl, hv1, hg1⟩
    have HV1 := hidden hv1
    have HG1 := hidden hg1
    clear hg1 hv1
    go_wp2_with fail
    refine (Calls.mono (H2.out _ (HV.out.grow HG1.out)) ?_)
    rintro e w2 ⟨v2, rfl, hown2, hg2⟩
    have HV2 := hidden (IsBytes.of_own hown2)
    have HV1' := hidden (HV1.out.grow hg2)
    have HG2 := hidden (Grows.of_below HG1.out hg2)
    clear hg2 hown2
    go_wp2_with fail
    have hm := hmo.out
    refine (same_any _ v2 _ _ _ HV1'.out HV2.out (by unfold maxLen; omega) (by unfold maxLen; omega)).mono ?_
    rintro e w6 ⟨rfl, hg6⟩
    have HG6 := hidden (Grows.of_below HG2.out hg6)
    clear hg6
    rw [sameB_t rfl]
    go_wp2_with fail
    refine (awake_any _).mono ?_
    rintro e w7 ⟨rfl, hg7⟩
    have HG7 := hidden (Grows.of_below HG6.out hg7)
    clear hg7
    go_wp2_with fail
    go_ret
    exact ⟨rfl, HG7.out⟩
  · go_enter Try.func4, Try.ntmps4
    go_wp2_with (go_at_call 9; refine (awake_any _).mono ?_; rintro e w7 ⟨rfl, hg7⟩)
    all_goals first
      | (go_ret; exact ⟨rfl, by assumption⟩)
      | (exfalso; omega)

end Go.Proofs.Ytepahejeeajfbaa
