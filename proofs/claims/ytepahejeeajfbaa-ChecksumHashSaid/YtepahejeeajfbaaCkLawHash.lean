/-
  The walk of the law ChecksumHash: it returns true for every seed and every byte slice; nothing that was there is changed.
-/
import Derived.Test.YtepahejeeajfbaaCkAwake
namespace Go.Proofs.Ytepahejeeajfbaa
open Go.RowKit

set_option maxHeartbeats 400000 in
theorem law_hash (s : Nat) (A : Option Addr) (d : Nat) (l : List UInt8) (w : World) (hs : s < 18446744073709551616) (hv : IsBytes w (.slice A l.length d) l) (hd : l.length ≤ d) :
    Calls Try.prog 6 #[.int .u64 (s : Int), .slice A l.length d] w fun e w' => e = .returned (.bool true) ∧ Below w.heap.size w w' := by
  have HV := hidden hv
  by_cases hb : l.length ≤ 5000
  · have hb' : ¬ (5000 < l.length) := by omega
    go_enter Try.func6, Try.ntmps6
    go_wp2_with fail
    refine (ck_hash s A d l _ hs HV.out (by omega) hd).mono ?_
    rintro e w1 ⟨rfl, hg1⟩
    have HG1 := hidden hg1
    clear hg1
    go_wp2_with fail
    refine (rhash_any s _ l _ hs (HV.out.grow HG1.out) (by omega)).mono ?_
    rintro e w' ⟨rfl, rfl⟩
    go_wp2_with fail
    refine (awake_any _).mono ?_
    rintro e w7 ⟨rfl, hg7⟩
    have HG7 := hidden (Grows.of_below HG1.out hg7)
    clear hg7
    go_wp2_with fail
    go_ret
    exact ⟨rfl, HG7.out⟩
  · go_enter Try.func6, Try.ntmps6
    go_wp2_with fail
    refine (awake_any _).mono ?_
    rintro e w7 ⟨rfl, hg7⟩
    have HG7 := hidden hg7
    clear hg7
    go_wp2_with fail
    go_ret
    exact ⟨rfl, HG7.out⟩

end Go.Proofs.Ytepahejeeajfbaa
