/-
  The walk of the law BitpackUnpack: it returns true for all bytes and any three integers; nothing that was there is changed.
-/
import Derived.Test.YtmjfgobopcigoaaBq8
namespace Go.Proofs.Ytmjfgobopcigoaa
open Go.RowKit
set_option linter.unusedVariables false
set_option linter.unusedSimpArgs false

theorem unpI_len (b : List UInt8) (n m : Int) : (unpI b n m).length ≤ 1048576 := by
  unfold unpI
  split
  · rename_i h
    obtain ⟨N, M, rfl, rfl, hN, _⟩ := unE_zero h
    rw [Int.toNat_natCast, Int.toNat_natCast, unpL_length]
    exact hN
  · exact Nat.zero_le _
theorem atB_64 (b : List UInt8) (i m : Int) : atB b i m < 18446744073709551616 := by
  unfold atB
  split
  · exact numB_64 b (by omega) _
  · omega
set_option maxHeartbeats 2000000 in
theorem law_unpack (A : Option Addr) (c : Nat) (b : List UInt8) (n m i : Int) (w : World) (hb : IsBytes w (.slice A b.length c) b) :
    Calls Try.prog 4 #[.slice A b.length c, .int .i64 n, .int .i64 m, .int .i64 i] w fun e w' => e = .returned (.bool true) ∧ Below w.heap.size w w' := by
  have HB := hidden hb
  have HL0 := hidden (grows_lives (Below.refl w.heap.size w))
  clear hb
  by_cases hbig : 500 < b.length
  · have hd : decide ((500 : Int) < (b.length : Int)) = true := by simp; omega
    go_enter Try.func4, Try.ntmps4
    go_wp2_with ((go_at_call 8; refine HL0.out.mono ?_; rintro e w2 ⟨rfl, g2⟩))
    go_ret
    exact ⟨rfl, by assumption⟩
  have hd : decide ((500 : Int) < (b.length : Int)) = false := by simp; omega
  have hl5 : b.length ≤ 500 := by omega
  clear hbig
  by_cases hz : m = 0 ∧ 5000 < n
  · obtain ⟨rfl, hn⟩ := hz
    have hd2 : decide ((5000 : Int) < n) = true := by simpa using hn
    go_enter Try.func4, Try.ntmps4
    go_wp2_with ((go_at_call 8; refine HL0.out.mono ?_; rintro e w2 ⟨rfl, g2⟩))
    go_ret
    exact ⟨rfl, by assumption⟩
  have hz' : (m == 0) = false ∨ ((m == 0) = true ∧ decide ((5000 : Int) < n) = false) := by
    by_cases h0 : m = 0
    · exact .inr ⟨by simpa using h0, by simp; omega⟩
    · exact .inl (by simpa using h0)
  have HUN := hidden (fun w' (h : Grows w w') => unpack_any A c b n m w' (HB.out.grow h) (by omega))
  have HRN := hidden (fun w' (h : Grows w w') => runpack_any A c b n m w' (HB.out.grow h) (by omega))
  have HAT := hidden (fun w' (h : Grows w w') => at_any A c b i m w' (HB.out.grow h) (by omega))
  have HRT := hidden (fun w' (h : Grows w w') => rat_any A c b i m w' (HB.out.grow h) (by omega))
  have hll := unpI_len b n m
  generalize unE b n m = E at *
  generalize unpI b n m = L at *
  generalize atB b i m = V at *
  clear hz
  rcases hz' with h1 | ⟨h1, h2⟩
  all_goals go_enter Try.func4, Try.ntmps4
  all_goals go_wp2_with fail
  all_goals refine (HUN.out w (Below.refl _ _)).mono ?_
  all_goals rintro e w2 ⟨v2, rfl, g2, hw2⟩
  all_goals have HW2 := hidden hw2
  all_goals have HG2 := hidden g2
  all_goals clear g2 hw2
  all_goals go_wp2_with fail
  all_goals refine (HRN.out w2 HG2.out).mono ?_
  all_goals rintro e w3 ⟨v3, rfl, g3, hw3⟩
  all_goals have HW3 := hidden hw3
  all_goals have HW2 := hidden (HW2.out.grow g3)
  all_goals have HG3 := hidden (HG2.out.of_below g3)
  all_goals clear g3 hw3
  all_goals go_wp2_with fail
  all_goals refine (equal_any v2 v3 L L w3 HW2.out HW3.out (by omega) (by omega)).mono ?_
  all_goals rintro e w4 ⟨rfl, g4⟩
  all_goals rw [same_self]
  all_goals have HG4 := hidden (HG3.out.of_below g4)
  all_goals clear g4
  all_goals have HLV := hidden (grows_lives HG4.out)
  all_goals go_wp2_with (first | (go_at_call 18; refine (HAT.out _ HG4.out).mono ?_; rintro e w5 ⟨rfl, rfl⟩) | (go_at_call 19; refine (HRT.out _ HG4.out).mono ?_; rintro e w5 ⟨rfl, rfl⟩) | (go_at_call 8; refine HLV.out.mono ?_; rintro e w5 ⟨rfl, g5⟩))
  all_goals go_ret
  all_goals exact ⟨rfl, by assumption⟩
end Go.Proofs.Ytmjfgobopcigoaa
