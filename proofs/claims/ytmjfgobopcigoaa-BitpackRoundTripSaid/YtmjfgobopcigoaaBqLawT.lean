/-
  The walks of the laws BitpackTruncates and BitpackRoundTrip: each returns true for every slice of unsigned 64-bit numbers and every byte; nothing that was there is changed.
-/
import Derived.Test.YtmjfgobopcigoaaBq7
namespace Go.Proofs.Ytmjfgobopcigoaa
open Go.RowKit
set_option linter.unusedVariables false
set_option linter.unusedSimpArgs false

theorem bad_pack (l : List Nat) (M : Nat) : badB (packL l M) l.length M = false := by
  rw [badB_false (packL_length l M)]
  intro i h _
  exact bbit_pack_out h
theorem packI_nat {l : List Nat} {M : Nat} (hl : l.length ≤ 1048576) (hM : M ≤ 64) : packI l (M : Int) = packL l M := by
  unfold packI
  rw [okB_t hl hM, Int.toNat_natCast]
  rfl
theorem unE_pack {l : List Nat} {M : Nat} (hl : l.length ≤ 1048576) (hM : M ≤ 64) : unE (packL l M) (l.length : Int) (M : Int) = 0 := unE_of hl hM (packL_length l M) (bad_pack l M)
theorem unpI_pack {l : List Nat} {M : Nat} (hl : l.length ≤ 1048576) (hM : M ≤ 64) : unpI (packL l M) (l.length : Int) (M : Int) = unpL (packL l M) l.length M := by
  unfold unpI
  rw [if_pos (unE_pack hl hM), Int.toNat_natCast, Int.toNat_natCast]
theorem unp_get {l : List Nat} {M k : Nat} (hk : k < l.length) (hk2 : k < (unpL (packL l M) l.length M).length) : (unpL (packL l M) l.length M)[k] = l[k] % 2 ^ M := by
  have h := unpL_get (b := packL l M) (w := M) hk
  rw [List.getElem?_eq_getElem hk2] at h
  injection h with h
  rw [h, numB_pack hk, List.getD_eq_getElem?_getD, List.getElem?_eq_getElem hk]
  rfl
def GrowRel (w : World) (n : Nat) (i : Value) (wr : World) : Prop := ∃ k : Nat, k ≤ n ∧ i = .int .i64 (k : Int) ∧ Grows w wr
theorem grows_lives {w0 w : World} (h : Grows w0 w) : Calls Try.prog 8 #[] w fun e w' => e = .returned (.bool true) ∧ Grows w0 w' := (lives_any w).mono fun _ _ ⟨he, hg⟩ => ⟨he, h.of_below hg⟩
set_option maxHeartbeats 2000000 in
theorem law_truncates (v : Value) (l : List Nat) (x : Nat) (w : World) (hv : IsW w v l) (hU : U64 l) (hx : x < 256) :
    Calls Try.prog 6 #[v, .int .u8 (x : Int)] w fun e w' => e = .returned (.bool true) ∧ Below w.heap.size w w' := by
  have HV := hidden hv
  have HU := hidden hU
  obtain ⟨A, c, rfl⟩ := hv.slice_
  obtain ⟨M, hM⟩ : ∃ M, M = x % 64 := ⟨_, rfl⟩
  have HM := hidden (show (x : Int) % 64 = (M : Int) by omega)
  have hM2 : M < 64 := by omega
  have HL0 := hidden (grows_lives (Below.refl w.heap.size w))
  clear hv hU hM
  by_cases hbig : 500 < l.length
  · have hd : decide ((500 : Int) < (l.length : Int)) = true := by simp; omega
    go_enter Try.func6, Try.ntmps6
    go_wp2_with ((go_at_call 8; refine HL0.out.mono ?_; rintro e w2 ⟨rfl, g2⟩))
    go_ret
    exact ⟨rfl, by assumption⟩
  · have hd : decide ((500 : Int) < (l.length : Int)) = false := by simp; omega
    have hl5 : l.length ≤ 500 := by omega
    have hl : l.length ≤ 1000000000000 := by omega
    clear hbig
    go_enter Try.func6, Try.ntmps6
    go_upto_region 2 with fail
    rw [HM.out]
    go_wp2_with fail
    refine (pack_any _ l (M : Int) w HV.out HU.out hl).mono ?_
    rintro e w1 ⟨v1, rfl, g1, hb1⟩
    rw [packI_nat (by omega) (by omega)] at hb1
    have HB1 := hidden hb1
    obtain ⟨A1, c1, rfl, _⟩ := hb1
    have HG1 := hidden g1
    clear g1
    go_wp2_with fail
    refine (unpack_any A1 c1 (packL l M) (l.length : Int) (M : Int) w1 HB1.out (by rw [packL_length]; have := szB_le (n := l.length) (w := M) (by omega) (by omega); omega)).mono ?_
    rintro e w2 ⟨v2, rfl, g2, hw2⟩
    rw [unpI_pack (by omega) (by omega)] at hw2
    rw [unE_pack (by omega) (by omega)]
    have HW2 := hidden hw2
    obtain ⟨A2, c2, rfl⟩ := hw2.slice_
    have HG2 := hidden (HG1.out.of_below g2)
    have hul := unpL_length (packL l M) l.length M
    rw [hul]
    rw [hul] at HW2
    have HUL := hidden hul
    have HU2 := hidden (show U64 (unpL (packL l M) l.length M) from by have h := unpI_64 (packL l M) (l.length : Int) (M : Int); rwa [unpI_pack (by omega) (by omega)] at h)
    clear g2 hul hl
    go_wp2_with fail
    go_loopw [8] (fun i wr => GrowRel w2 l.length i wr) (fun i _ => l.length - (intOf i).toNat)
    case atStart => exact ⟨0, by omega, rfl, Below.refl _ _⟩
    case round =>
      obtain ⟨k, hk, rfl, hb⟩ := hrel
      have HB := hidden hb
      clear hb
      by_cases hlt : k < l.length
      · have hk2 : k < (unpL (packL l M) l.length M).length := by rw [HUL.out]; exact hlt
        obtain ⟨b1, f1, rfl, hc1⟩ := (HW2.out.grow HB.out).at_ hk2
        obtain ⟨b2, f2, rfl, hc2⟩ := (HV.out.grow (HG2.out.of_below HB.out)).at_ hlt
        have hxx := HU.out.get hlt
        rw [unp_get hlt hk2] at hc1
        have hp0 := Nat.two_pow_pos M
        have hp1 : 2 ^ M < 18446744073709551616 := Nat.lt_of_lt_of_le (Nat.pow_lt_pow_right (by decide) hM2) (by decide)
        generalize l[k] = y at *
        have e2 : ((2 : Int) ^ M) = ((2 ^ M : Nat) : Int) := by simp
        have hwr : IntKind.u64.wrap ((2 : Int) ^ M) = (2 : Int) ^ M := by
          rw [e2, IntKind.wrap_u64]
          omega
        have hz1 : (2 : Int) ^ M ≠ 0 := by rw [e2]; omega
        have hz2 : ((2 : Int) ^ M == 0) = false := by rw [beq_eq_false_iff_ne]; exact hz1
        have hmd : (y : Int).tmod ((2 : Int) ^ M) = (y : Int) % (2 : Int) ^ M := Int.tmod_eq_emod_of_nonneg (by omega)
        have hwm : IntKind.u64.wrap ((y : Int) % (2 : Int) ^ M) = (y : Int) % (2 : Int) ^ M := by
          have e3 : (y : Int) % (2 : Int) ^ M = ((y % 2 ^ M : Nat) : Int) := by simp
          have e4 : y % 2 ^ M ≤ y := Nat.mod_le _ _
          rw [e3, IntKind.wrap_u64]
          omega
        clear e2
        have hcv : IntKind.u64.wrap (M : Int) = (M : Int) := by rw [IntKind.wrap_u64]; omega
        go_wp2_with fail
        go_quiet (fail)
        clear hwr hz1 hz2 hmd hwm
        go_wp2
        go_roundw
        case rel => exact ⟨k + 1, by omega, by go_num, below_draws HB.out _⟩
        case measure => simp [intOf]; omega
      · have HLV := hidden (grows_lives (HG2.out.of_below HB.out))
        have hnk : l.length ≤ k := by omega
        go_wp2_with ((go_at_call 8; refine HLV.out.mono ?_; rintro e w3 ⟨rfl, g3⟩))
        go_ret
        exact ⟨rfl, by assumption⟩

theorem fits_mod {l : List Nat} {M k : Nat} (hU : U64 l) (hM : M = min (widL l + 0) 64 ∨ widL l ≤ M) (hk : k < l.length) : l[k] % 2 ^ M = l[k] := by
  have h1 := widL_fits hU (List.getElem_mem hk)
  have h2 := widL_le hU
  exact Nat.mod_eq_of_lt (Nat.lt_of_lt_of_le h1 (Nat.pow_le_pow_right (by decide) (by omega)))
theorem unpL_pack {l : List Nat} {M : Nat} (hU : U64 l) (hM : widL l ≤ M) : unpL (packL l M) l.length M = l := by
  apply List.ext_getElem
  · exact unpL_length _ _ _
  · intro k h1 h2
    rw [unp_get h2 h1, fits_mod hU (.inr hM) h2]
theorem atB_pack {l : List Nat} {M k : Nat} (hU : U64 l) (hM : widL l ≤ M) (hM2 : M ≤ 64) (hk : k < l.length) : atB (packL l M) (k : Int) (M : Int) = l[k] := by
  rw [atB_in hM2 (packL_length l M) hk, numB_pack hk, List.getD_eq_getElem?_getD, List.getElem?_eq_getElem hk]
  exact fits_mod hU (.inr hM) hk
theorem same_self (l : List Nat) : sameN l l = true := by unfold sameN; simp
set_option maxHeartbeats 2000000 in
theorem law_roundtrip (v : Value) (l : List Nat) (x : Nat) (w : World) (hv : IsW w v l) (hU : U64 l) (hx : x < 256) :
    Calls Try.prog 5 #[v, .int .u8 (x : Int)] w fun e w' => e = .returned (.bool true) ∧ Below w.heap.size w w' := by
  have HV := hidden hv
  have HU := hidden hU
  obtain ⟨A, c, rfl⟩ := hv.slice_
  have HL0 := hidden (grows_lives (Below.refl w.heap.size w))
  by_cases hbig : 500 < l.length
  · have hd : decide ((500 : Int) < (l.length : Int)) = true := by simp; omega
    clear hv hU
    go_enter Try.func5, Try.ntmps5
    go_wp2_with ((go_at_call 8; refine HL0.out.mono ?_; rintro e w2 ⟨rfl, g2⟩))
    go_ret
    exact ⟨rfl, by assumption⟩
  · have hd : decide ((500 : Int) < (l.length : Int)) = false := by simp; omega
    have hl5 : l.length ≤ 500 := by omega
    have hl : l.length ≤ 1000000000000 := by omega
    have HW := hidden (fun w' (h : Grows w w') => width_any _ l w' (hv.grow h) hU hl)
    have hw64 := widL_le hU
    obtain ⟨y, hy⟩ : ∃ y, y = widL l := ⟨_, rfl⟩
    rw [← hy] at HW hw64
    obtain ⟨M, hM⟩ : ∃ M, M = min (y + x % 8) 64 := ⟨_, rfl⟩
    have HML := hidden (show widL l ≤ M by omega)
    have HM2 := hidden (show M ≤ 64 by omega)
    have HMI := hidden (show min ((y : Int) + (x : Int) % 8) 64 = (M : Int) by omega)
    clear hv hU hbig hy hM
    go_enter Try.func5, Try.ntmps5
    go_upto_region 4 with ((go_at_call 9; refine (HW.out _ (Below.refl _ _)).mono ?_; rintro e w2 ⟨rfl, rfl⟩))
    rw [HMI.out]
    have hM2 := HM2.out
    have HUP := hidden (unpL_pack HU.out HML.out)
    have HUE := hidden (unE_pack (l := l) (M := M) (by omega) hM2)
    have HUI := hidden (unpI_pack (l := l) (M := M) (by omega) hM2)
    have HPI := hidden (packI_nat (l := l) (M := M) (by omega) hM2)
    have HSZ := hidden (sizeI_nat (n := l.length) (m := M) (by omega) hM2)
    have HPL := hidden (packL_length l M)
    have hsz := szB_le (n := l.length) (w := M) (by omega) hM2
    go_wp2_with fail
    refine (pack_any _ l (M : Int) w HV.out HU.out hl).mono ?_
    rintro e w1 ⟨v1, rfl, g1, hb1⟩
    rw [HPI.out] at hb1
    have HB1 := hidden hb1
    obtain ⟨A1, c1, rfl, _⟩ := hb1
    have HG1 := hidden g1
    clear g1
    go_wp2_with fail
    refine (unpack_any A1 c1 (packL l M) (l.length : Int) (M : Int) w1 HB1.out (by rw [HPL.out]; omega)).mono ?_
    rintro e w2 ⟨v2, rfl, g2, hw2⟩
    rw [HUI.out, HUP.out] at hw2
    rw [HUE.out]
    have HW2 := hidden hw2
    obtain ⟨A2, c2, rfl⟩ := hw2.slice_
    have HG12 := hidden g2
    have HG2 := hidden (HG1.out.of_below g2)
    clear g2 hw2
    go_wp2_with fail
    refine (equal_any _ _ l l w2 HW2.out (HV.out.grow HG2.out) hl hl).mono ?_
    rintro e w3 ⟨rfl, g3⟩
    rw [same_self]
    have HG13 := hidden (HG12.out.of_below g3)
    have HG3 := hidden (HG2.out.of_below g3)
    clear g3
    have hpl : ((packL l M).length : Int) = ((szB l.length M : Nat) : Int) := by rw [HPL.out]
    have HS := hidden (fun w' => size_any (l.length : Int) (M : Int) w')
    rw [HSZ.out] at HS
    rw [HPL.out]
    rw [HPL.out] at HB1
    clear hpl
    generalize szB l.length M = S at *
    go_wp2_with ((go_at_call 11; refine (HS.out _).mono ?_; rintro e w4 ⟨rfl, rfl⟩))
    go_loopw [9] (fun i wr => GrowRel w3 l.length i wr) (fun i _ => l.length - (intOf i).toNat)
    case atStart => exact ⟨0, by omega, rfl, Below.refl _ _⟩
    case round =>
      obtain ⟨k, hk, rfl, hb⟩ := hrel
      have HB := hidden hb
      clear hb
      by_cases hlt : k < l.length
      · obtain ⟨b2, f2, rfl, hc2⟩ := (HV.out.grow (HG3.out.of_below HB.out)).at_ hlt
        have HAT := hidden (fun n => at_any A1 c1 (packL l M) (k : Int) (M : Int) (wr.drewN n) (by rw [HPL.out]; exact (HB1.out.grow (HG13.out.of_below HB.out)).grow (below_draws (Below.refl _ _) _)) (by rw [HPL.out]; omega))
        rw [HPL.out, atB_pack HU.out HML.out hM2 hlt] at HAT
        have HAT2 := hidden (fun n => (HAT.out n).mono fun e w' h => (⟨h.1, h.2.symm⟩ : e = _ ∧ w' = wr.drewN n))
        generalize l[k] = z at *
        go_wp2_with fail
        go_quiet ((go_at_call 18; exact Calls.quiet_of_same (HAT2.out _)))
        go_wp2
        go_roundw
        case rel => exact ⟨k + 1, by omega, by go_num, below_draws HB.out _⟩
        case measure => simp [intOf]; omega
      · have HLV := hidden (grows_lives (HG3.out.of_below HB.out))
        have hnk : l.length ≤ k := by omega
        go_wp2_with ((go_at_call 8; refine HLV.out.mono ?_; rintro e w5 ⟨rfl, g5⟩))
        go_ret
        exact ⟨rfl, by assumption⟩
end Go.Proofs.Ytmjfgobopcigoaa
