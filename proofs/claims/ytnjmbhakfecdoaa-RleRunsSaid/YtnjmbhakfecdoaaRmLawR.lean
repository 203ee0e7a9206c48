/-
  The walk of the law RleRuns: it returns true for all integers and runs; nothing that was there is changed.
-/
import Derived.Test.YtnjmbhakfecdoaaRm8
import Derived.Test.YtnjmbhakfecdoaaRl8
namespace Go.Proofs.Ytnjmbhakfecdoaa
open Go.RowKit
set_option linter.unusedVariables false
set_option linter.unusedSimpArgs false

theorem expI_runs {vs : List Int} (h : vs.length ≤ 65536) : expI (runsR vs) = vs ∧ expE (runsR vs) = 0 := by
  unfold expI expE
  rw [runs_valid h, expR_runs]
  exact ⟨rfl, rfl⟩
theorem expI_len (l : List Rn) : (expI l).length ≤ 65536 := by
  unfold expI
  split
  · rename_i h; exact valid_expR h
  · simp
set_option maxHeartbeats 4000000 in
theorem law_runs (v u : Value) (vs : List Int) (l : List Rn) (w : World) (hv : IsI w v vs) (hu : ReadsR w u l) (hvl : vs.length ≤ 140737488351232) (hl : l.length ≤ 140737488351232) :
    Calls Try.prog 3 #[v, u] w fun e w' => e = .returned (.bool true) ∧ Below w.heap.size w w' := by
  have HV := hidden hv
  have HU := hidden hu
  have HLV := hidden (fun w' (h : Grows w w') => lvalid_any u l w' (hu.grow h) (by omega))
  have HRV := hidden (fun w' (h : Grows w w') => rlvalid_any u l w' (hu.grow h) (by omega))
  have HSM := hidden (fun w' (h : Grows w w') => rlsmall_any u l w' (hu.grow h) (by omega))
  have HLE := hidden (fun w' (h : Grows w w') => lexpand_any u l w' (hu.grow h) (by omega))
  have HRE := hidden (fun w' (h : Grows w w') => rlexpand_any u l w' (hu.grow h) (by omega))
  have hel := expI_len l
  have HG := hidden (show Grows w w from Below.refl _ _)
  obtain ⟨A, c, rfl⟩ := hv.slice_
  clear hv hu
  by_cases hbig : 5000 < vs.length
  · have hd : decide ((5000 : Int) < (vs.length : Int)) = true := by simp; omega
    go_enter Try.func3, Try.ntmps3
    go_wp2_with ((go_at_call 10; refine (rlawake_any _).mono ?_; rintro e w2 ⟨rfl, g2⟩; have HG := hidden (HG.out.of_below g2); clear g2))
    go_ret
    exact ⟨rfl, HG.out⟩
  have hd : decide ((5000 : Int) < (vs.length : Int)) = false := by simp; omega
  have hl5 : vs.length ≤ 5000 := by omega
  have HPR := hidden (fun w' (h : Grows w w') => lruns_any (.slice A vs.length c) vs w' (HV.out.grow h) (by omega))
  have HRR := hidden (fun w' (h : Grows w w') => rlruns_any (.slice A vs.length c) vs w' (HV.out.grow h) (by omega))
  obtain ⟨hei, hee⟩ := expI_runs (vs := vs) (by omega)
  have HEI := hidden hei
  have HEE := hidden hee
  have hrl : (runsR vs).length ≤ 65536 := valid_length (runs_valid (by omega))
  have HRLN := hidden hrl
  clear hbig hei hee hrl
  have hcase : (validR l = true ∧ smallR l = false) ∨ (validR l = true ∧ smallR l = true) ∨ validR l = false := by
    cases validR l <;> cases smallR l <;> simp
  go_enter Try.func3, Try.ntmps3
  go_wp2_with (first
    | (go_at_call 8; refine (HLV.out _ HG.out).mono ?_; rintro e w2 ⟨rfl, g2⟩; have HG := hidden (HG.out.of_below g2); clear g2)
    | (go_at_call 9; refine (HRV.out _ HG.out).mono ?_; rintro e w2 ⟨rfl, g2⟩; have HG := hidden (HG.out.of_below g2); clear g2)
    | (go_at_call 11; refine (HPR.out _ HG.out).mono ?_; rintro e w2 ⟨u1, rfl, g2, hu1⟩; have HG := hidden (HG.out.of_below g2); have HU1 := hidden hu1; clear g2 hu1))
  have HEX := hidden (lexpand_any u1 (runsR vs) w2 HU1.out (by have := HRLN.out; omega))
  rw [HEI.out, HEE.out] at HEX
  refine HEX.out.mono ?_
  rintro e w3 ⟨u2, rfl, g3, hu2⟩
  have HU2 := hidden hu2
  have HU1 := hidden (HU1.out.grow g3)
  have HG := hidden (HG.out.of_below g3)
  clear g3 hu2 HEX
  go_wp2_with fail
  refine (HRR.out _ HG.out).mono ?_
  rintro e w4 ⟨u3, rfl, g4, hu3⟩
  have HEQ := hidden (rlequal_any u1 u3 (runsR vs) (runsR vs) w4 (HU1.out.grow g4) hu3 (by have := HRLN.out; omega) (by have := HRLN.out; omega))
  rw [sameR_self] at HEQ
  have HU2 := hidden (HU2.out.grow g4)
  have HG := hidden (HG.out.of_below g4)
  clear g4 hu3
  go_wp2_with ((go_at_call 13; refine HEQ.out.mono ?_; rintro e w5 ⟨rfl, g5⟩; have HU2 := hidden (HU2.out.grow g5); have HG := hidden (HG.out.of_below g5); clear g5))
  have HIN := hidden (rlints_any _ _ _ _ _ HU2.out (HV.out.grow HG.out) (by omega) (by omega))
  rw [sameI_self] at HIN
  refine HIN.out.mono ?_
  rintro e w6 ⟨rfl, g6⟩
  have HG := hidden (HG.out.of_below g6)
  clear g6
  rcases hcase with ⟨h1, h2⟩ | ⟨h1, h2⟩ | h1
  · rw [h1] at HRV
    rw [h2] at HSM
    go_wp2_with (first
      | (go_at_call 9; refine (HRV.out _ HG.out).mono ?_; rintro e w7 ⟨rfl, g7⟩; have HG := hidden (HG.out.of_below g7); clear g7)
      | (go_at_call 16; refine (HSM.out _ HG.out).mono ?_; rintro e w8 ⟨rfl, rfl⟩)
      | (go_at_call 10; refine (rlawake_any _).mono ?_; rintro e w9 ⟨rfl, g9⟩; have HG := hidden (HG.out.of_below g9); clear g9))
    go_ret
    exact ⟨rfl, HG.out⟩
  · rw [h1] at HRV
    rw [h2] at HSM
    go_wp2_with (first
      | (go_at_call 9; refine (HRV.out _ HG.out).mono ?_; rintro e w7 ⟨rfl, g7⟩; have HG := hidden (HG.out.of_below g7); clear g7)
      | (go_at_call 16; refine (HSM.out _ HG.out).mono ?_; rintro e w8 ⟨rfl, rfl⟩)
      | (go_at_call 12; refine (HLE.out _ HG.out).mono ?_; rintro e w9 ⟨u4, rfl, g9, hu4⟩; have HU4 := hidden hu4; have HG := hidden (HG.out.of_below g9); clear g9 hu4)
      | (go_at_call 17; refine (HRE.out _ HG.out).mono ?_; rintro e w10 ⟨u5, rfl, g10, hu5⟩; have HU5 := hidden hu5; have HU4 := hidden (HU4.out.grow g10); have HG := hidden (HG.out.of_below g10); clear g10 hu5)
      | (go_at_call 15; refine (rlints_any _ _ _ _ _ HU4.out HU5.out (by omega) (by omega)).mono ?_; rintro e w11 ⟨rfl, g11⟩; rw [sameI_self]; have HG := hidden (HG.out.of_below g11); clear g11)
      | (go_at_call 10; refine (rlawake_any _).mono ?_; rintro e w9 ⟨rfl, g9⟩; have HG := hidden (HG.out.of_below g9); clear g9))
    go_ret
    exact ⟨rfl, HG.out⟩
  · rw [h1] at HRV
    go_wp2_with (first
      | (go_at_call 9; refine (HRV.out _ HG.out).mono ?_; rintro e w7 ⟨rfl, g7⟩; have HG := hidden (HG.out.of_below g7); clear g7)
      | (go_at_call 12; refine (HLE.out _ HG.out).mono ?_; rintro e w9 ⟨u4, rfl, g9, hu4⟩; have HU4 := hidden hu4; have HG := hidden (HG.out.of_below g9); clear g9 hu4)
      | (go_at_call 17; refine (HRE.out _ HG.out).mono ?_; rintro e w10 ⟨u5, rfl, g10, hu5⟩; have HU5 := hidden hu5; have HU4 := hidden (HU4.out.grow g10); have HG := hidden (HG.out.of_below g10); clear g10 hu5)
      | (go_at_call 15; refine (rlints_any _ _ _ _ _ HU4.out HU5.out (by omega) (by omega)).mono ?_; rintro e w11 ⟨rfl, g11⟩; rw [sameI_self]; have HG := hidden (HG.out.of_below g11); clear g11)
      | (go_at_call 10; refine (rlawake_any _).mono ?_; rintro e w9 ⟨rfl, g9⟩; have HG := hidden (HG.out.of_below g9); clear g9))
    go_ret
    exact ⟨rfl, HG.out⟩
end Go.Proofs.Ytnjmbhakfecdoaa
