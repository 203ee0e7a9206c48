/-
  The walk of the law ChecksumCRC: it returns true for every pair of byte slices and every checksum; nothing that was there is changed.
-/
import Derived.Test.YtepahejeeajfbaaCkAwake
namespace Go.Proofs.Ytepahejeeajfbaa
open Go.RowKit

set_option maxHeartbeats 1000000 in
theorem law_crc (A B : Option Addr) (c d x : Nat) (la lb : List UInt8) (w : World) (hx : x < 4294967296) (hva : IsBytes w (.slice A la.length c) la) (hvb : IsBytes w (.slice B lb.length d) lb) :
    Calls Try.prog 3 #[.slice A la.length c, .slice B lb.length d, .int .u32 (x : Int)] w fun e w' => e = .returned (.bool true) ∧ Below w.heap.size w w' := by
  have HA := hidden hva
  have HB := hidden hvb
  have hG : ∀ o, Grows w (w.alloc o) := fun o => (Below.refl _ _).alloc (Nat.le_refl _) _
  by_cases hb : la.length ≤ 5000 ∧ lb.length ≤ 5000
  · obtain ⟨ha5, hb5⟩ := hb
    have hA' : ¬ (5000 < la.length) := by omega
    have hB' : ¬ (5000 < lb.length) := by omega
    have HMA : Hid (la.length ≤ 5000) := hidden ha5
    have HMB : Hid (lb.length ≤ 5000) := hidden hb5
    go_enter Try.func3, Try.ntmps3
    go_wp2_with fail
    refine (ck_crc _ [la, lb] _ (IsParts.new2 HA.out HB.out _) (by simp) (two_le (by omega) (by omega))).mono ?_
    rintro e w1 ⟨rfl, hg1⟩
    have HG1 := hidden (Grows.of_below (hG _) hg1)
    clear hg1
    go_wp2_with fail
    refine (rcrc_any _ [la, lb] _ (IsParts.new2 (HA.out.grow HG1.out) (HB.out.grow HG1.out) _) (by simp [maxLen]) (two_le (by unfold maxLen; omega) (by unfold maxLen; omega))).mono ?_
    rintro e w' ⟨rfl, rfl⟩
    have hgn : Grows w1 (w1.alloc (.cells #[.slice A la.length c, .slice B lb.length d] 22)) := (Below.refl _ _).alloc (Nat.le_refl _) _
    have HG2 := hidden (Grows.of_below HG1.out hgn)
    clear hgn
    go_wp2_with fail
    refine (ck_update x _ la _ hx (HA.out.grow HG2.out) (by omega)).mono ?_
    rintro e w3 ⟨rfl, hg3⟩
    have HG3 := hidden (Grows.of_below HG2.out hg3)
    clear hg3
    go_wp2_with fail
    refine (rupdate_any x _ la _ hx (HA.out.grow HG3.out) (by unfold maxLen; omega)).mono ?_
    rintro e w' ⟨rfl, rfl⟩
    go_wp2_with fail
    refine (ck_seal _ la _ (HA.out.grow HG3.out) (by omega)).mono ?_
    rintro e w4 ⟨v4, rfl, hown4, hg4⟩
    have HS4 := hidden (IsBytes.of_own hown4)
    have HG4 := hidden (Grows.of_below HG3.out hg4)
    clear hg4 hown4
    go_wp2_with fail
    refine (rseal_any _ la _ (HA.out.grow HG4.out) (by omega)).mono ?_
    rintro e w5 ⟨v5, rfl, hown5, hg5⟩
    have HS5 := hidden (IsBytes.of_own hown5)
    have HS4' := hidden (HS4.out.grow hg5)
    have HG5 := hidden (Grows.of_below HG4.out hg5)
    clear hg5 hown5
    go_wp2_with fail
    refine (same_any v4 v5 _ _ _ HS4'.out HS5.out (by rw [sealOf_length]; unfold maxLen; omega) (by rw [sealOf_length]; unfold maxLen; omega)).mono ?_
    rintro e w6 ⟨rfl, hg6⟩
    have HG6 := hidden (Grows.of_below HG5.out hg6)
    clear hg6
    rw [sameB_t rfl]
    go_wp2_with fail
    refine (awake_any _).mono ?_
    rintro e w7 ⟨rfl, hg7⟩
    have HG7 := hidden (Grows.of_below HG6.out hg7)
    clear hg7
    go_wp2_with fail
    go_ret
    exact ⟨rfl, HG7.out⟩
  · go_enter Try.func3, Try.ntmps3
    go_wp2_with (go_at_call 9; refine (awake_any _).mono ?_; rintro e w7 ⟨rfl, hg7⟩)
    all_goals first
      | (go_ret; exact ⟨rfl, by assumption⟩)
      | (exfalso; omega)

end Go.Proofs.Ytepahejeeajfbaa
