/-
  The reference of package literal: FormatInt. Nothing that was there is changed.
-/
import Derived.Test.YtaiphocnfkkigaaDoorLit1
import Derived.Test.YtaiphocnfkkigaaDoorLitNum
namespace Go.Proofs.YtaiphocnfkkigaaDoor
open Go.RowKit
set_option linter.unusedVariables false
set_option linter.unusedSimpArgs false

def FIRel (w : World) (N : Nat) (s : Int) (out m d : Value) (wr : World) : Prop := ∃ (a : Nat) (t : List UInt8), a ≤ N ∧ m = .int .i64 (s * (a : Int)) ∧ out = .string (strOf t) ∧ decP a ++ t = decP N ∧ t.length ≤ 20 ∧ w = wr
theorem digit_slice (d : Nat) (h : d < 10) : (([48, 49, 50, 51, 52, 53, 54, 55, 56, 57] : List UInt8).drop d).take (d + 1 - d) = [UInt8.ofNat (48 + d)] := by
  match d, h with
  | 0, _ | 1, _ | 2, _ | 3, _ | 4, _ | 5, _ | 6, _ | 7, _ | 8, _ | 9, _ => rfl
set_option maxHeartbeats 2000000 in
theorem rformat_pos (N : Nat) (w : World) (h0 : 0 < N) (h1 : N < 9223372036854775808) : Calls Tryd.prog 16 #[.int .i64 (N : Int)] w fun e w' => e = .returned (.string (strOf (fmtI (N : Int)))) ∧ w = w' := by
  have HE := hidden (show fmtI (N : Int) = decP N by unfold fmtI; rw [if_neg (by omega), if_neg (by omega)]; rfl)
  have HL := hidden (show (decP N).length ≤ 20 from decP_length 20 N (by omega))
  have hN : ((N : Int) == 0) = false := by simp; omega
  go_enter Tryd.func16, Tryd.ntmps16
  go_wp2_with fail
  go_loopw [3, 4, 5] (fun out m d wr => FIRel w N 1 out m d wr) (fun _ m _ _ => (intOf m).toNat)
  case atStart => exact ⟨N, [], Nat.le_refl _, by rw [Int.one_mul], rfl, by simp, by simp, rfl⟩
  case round =>
    obtain ⟨a, t, haN, rfl, rfl, hdt, htl, rfl⟩ := hrel
    have HDT := hidden hdt
    clear hdt
    rw [Int.one_mul]
    by_cases ha : a = 0
    · subst ha
      have HT := hidden (show t = decP N by have h := HDT.out; rwa [decP_zero, List.nil_append] at h)
      rw [show ((0 : Nat) : Int) = 0 from rfl]
      go_wp2_with fail
      go_ret
      exact ⟨by rw [HE.out, ← HT.out]; rfl, rfl⟩
    · have ha1 : 0 < a := by omega
      have HT := hidden (show decP (a / 10) ++ (UInt8.ofNat (48 + a % 10) :: t) = decP N by rw [← HDT.out, decP_pos ha1]; simp)
      have HTL := hidden (show (UInt8.ofNat (48 + a % 10) :: t).length ≤ 20 by have h1 := HL.out; rw [← HT.out, List.length_append] at h1; omega)
      have hm := tmod_pos a
      have hq := tdiv_pos a
      have hd10 : a % 10 < 10 := Nat.mod_lt _ (by decide)
      have HSL := hidden (digit_slice (a % 10) hd10)
      have hane : ((a : Int) == 0) = false := by simp; omega
      generalize hdd : a % 10 = d0 at *
      clear hdd
      generalize UInt8.ofNat (48 + d0) = D at *
      have hdn : (0 : Int) ≤ (d0 : Int) := by omega
      have hdb : decide ((d0 : Int) < 0) = false := by simp
      go_wp2_with (first
          | (refine wpList_slice_l rfl _ _ _ 9 rfl Tryd.underlying9 [48, 49, 50, 51, 52, 53, 54, 55, 56, 57] d0 (d0 + 1) rfl rfl (by go_num) (by omega) (by simp; omega) [D] HSL.out ?_)
          | (refine wpList_add_l rfl _ _ 9 rfl [D] t rfl rfl (by simp only [List.length_cons, List.length_nil]; omega) ?_))
      go_roundw
      case rel => exact ⟨a / 10, D :: t, by omega, by rw [Int.one_mul]; rfl, rfl, HT.out, HTL.out, rfl⟩
      case measure => simp [intOf]; omega
set_option maxHeartbeats 2000000 in
theorem rformat_neg (N : Nat) (w : World) (h0 : 0 < N) (h1 : N ≤ 9223372036854775808) : Calls Tryd.prog 16 #[.int .i64 (-(N : Int))] w fun e w' => e = .returned (.string (strOf (fmtI (-(N : Int))))) ∧ w = w' := by
  have HE := hidden (show fmtI (-(N : Int)) = 45 :: decP N by unfold fmtI; rw [if_neg (by omega), if_pos (by omega), Int.natAbs_neg]; rfl)
  have HL := hidden (show (decP N).length ≤ 20 from decP_length 20 N (by omega))
  have hN : ((-(N : Int)) == 0) = false := by simp; omega
  have hN2 : -(N : Int) < 0 := by omega
  have hN3 : -9223372036854775808 ≤ -(N : Int) := by omega
  have hN4 : decide (-(N : Int) < 0) = true := by simp; omega
  go_enter Tryd.func16, Tryd.ntmps16
  go_wp2_with fail
  go_loopw [3, 4, 5] (fun out m d wr => FIRel w N (-1) out m d wr) (fun _ m _ _ => (-(intOf m)).toNat)
  case atStart => exact ⟨N, [], Nat.le_refl _, by rw [Int.neg_one_mul], rfl, by simp, by simp, rfl⟩
  case round =>
    obtain ⟨a, t, haN, rfl, rfl, hdt, htl, rfl⟩ := hrel
    have HDT := hidden hdt
    clear hdt
    rw [Int.neg_one_mul]
    by_cases ha : a = 0
    · subst ha
      have HT := hidden (show t = decP N by have h := HDT.out; rwa [decP_zero, List.nil_append] at h)
      rw [show (-((0 : Nat) : Int)) = 0 from rfl]
      go_wp2_with (refine wpList_add_l rfl _ _ 9 rfl [45] t rfl rfl (by simp only [List.length_cons, List.length_nil]; omega) ?_)
      go_ret
      exact ⟨by rw [HE.out, ← HT.out]; rfl, rfl⟩
    · have ha1 : 0 < a := by omega
      have HT := hidden (show decP (a / 10) ++ (UInt8.ofNat (48 + a % 10) :: t) = decP N by rw [← HDT.out, decP_pos ha1]; simp)
      have HTL := hidden (show (UInt8.ofNat (48 + a % 10) :: t).length ≤ 20 by have h1 := HL.out; rw [← HT.out, List.length_append] at h1; omega)
      have hm := tmod_neg a
      have hq := tdiv_neg a
      have hd10 : a % 10 < 10 := Nat.mod_lt _ (by decide)
      have HSL := hidden (digit_slice (a % 10) hd10)
      have hane : ((-(a : Int)) == 0) = false := by simp; omega
      have han2 : -9223372036854775808 ≤ -(a : Int) := by omega
      generalize hdd : a % 10 = d0 at *
      clear hdd
      generalize UInt8.ofNat (48 + d0) = D at *
      rcases Nat.eq_zero_or_pos d0 with hz | hp
      · subst hz
        rw [show (-((0 : Nat) : Int)) = 0 from rfl] at hm
        obtain rfl : D = 48 := by have h := HSL.out; injection h with h _; exact h.symm
        clear HSL
        clear hd10
        go_wp2_with (first
            | (refine wpList_slice_l rfl _ _ _ 9 rfl Tryd.underlying9 [48, 49, 50, 51, 52, 53, 54, 55, 56, 57] 0 1 rfl rfl (by omega) (by simp) [48] rfl ?_)
            | (refine wpList_add_l rfl _ _ 9 rfl [48] t rfl rfl (by simp only [List.length_cons, List.length_nil]; omega) ?_))
        go_roundw
        case rel => exact ⟨a / 10, 48 :: t, by omega, by rw [Int.neg_one_mul]; rfl, rfl, HT.out, HTL.out, rfl⟩
        case measure => simp [intOf]; omega
      · have hdn : (0 : Int) < (d0 : Int) := by omega
        have hdb : decide (-(d0 : Int) < 0) = true := by simp; omega
        go_wp2_with (first
            | (refine wpList_slice_l rfl _ _ _ 9 rfl Tryd.underlying9 [48, 49, 50, 51, 52, 53, 54, 55, 56, 57] d0 (d0 + 1) rfl rfl (by go_num) (by omega) (by simp; omega) [D] HSL.out ?_)
            | (refine wpList_add_l rfl _ _ 9 rfl [D] t rfl rfl (by simp only [List.length_cons, List.length_nil]; omega) ?_))
        go_roundw
        case rel => exact ⟨a / 10, D :: t, by omega, by rw [Int.neg_one_mul]; rfl, rfl, HT.out, HTL.out, rfl⟩
        case measure => simp [intOf]; omega
theorem rformat_any (n : Int) (w : World) (h0 : -9223372036854775808 ≤ n) (h1 : n < 9223372036854775808) : Calls Tryd.prog 16 #[.int .i64 n] w fun e w' => e = .returned (.string (strOf (fmtI n))) ∧ w = w' := by
  by_cases hz : n = 0
  · subst hz
    go_enter Tryd.func16, Tryd.ntmps16
    go_wp2_with fail
    go_ret
    exact ⟨rfl, rfl⟩
  · by_cases hp : 0 < n
    · obtain ⟨N, rfl⟩ := Int.eq_ofNat_of_zero_le (show 0 ≤ n by omega)
      exact rformat_pos N w (by omega) (by omega)
    · obtain ⟨N, hN⟩ := Int.eq_ofNat_of_zero_le (show 0 ≤ -n by omega)
      have : n = -(N : Int) := by omega
      subst this
      exact rformat_neg N w (by omega) (by omega)
end Go.Proofs.YtaiphocnfkkigaaDoor
