/-
  The reference's Decode and At. Nothing that was there is changed.
-/
import Derived.Test.YtcpdgkjelghlnaaFc7
import Derived.Test.YtcpdgkjelghlnaaFc9
namespace Go.Proofs.Ytcpdgkjelghlnaa
open Go.RowKit
set_option linter.unusedVariables false
set_option linter.unusedSimpArgs false

def RDRel (w : World) (b : List UInt8) (n : Nat) (R : List Str × Int × Int) (off u last i : Value) (wr : World) : Prop :=
  ∃ (j q : Nat) (ws : List Str) (pv : Str), j ≤ n ∧ i = .int .i64 (j : Int) ∧ off = .int .i64 (q : Int) ∧ last = .string (strOf pv) ∧ q ≤ b.length ∧ ws.length = j ∧ pv.length ≤ q ∧ (j % 16 ≠ 0 → pv = prvL ws) ∧ wr.ownsRow w.heap.size 9 1 u ws.length (scells ws) ∧ rdFs b (n - j) ws q = R ∧ Below w.heap.size w wr
theorem nxP_prv {ws : List Str} {pv : Str} {j : Nat} (hl : ws.length = j) (h : j % 16 ≠ 0 → pv = prvL ws) : nxP j pv = prvL ws := by
  unfold nxP
  by_cases h0 : j % 16 = 0
  · rw [if_pos h0]
    unfold prvL prvAt
    rw [hl, if_pos h0]
  · rw [if_neg h0, ← h h0]
set_option maxRecDepth 8000 in
set_option maxHeartbeats 4000000 in
theorem rfdecode_any (A : Option Addr) (c : Nat) (b : List UInt8) (off n : Int) (w : World) (hb : IsBytes w (.slice A b.length c) b) (hlc : b.length ≤ c) (hl : b.length ≤ 1000000000) :
    Calls Try.prog 17 #[.slice A b.length c, .int .i64 off, .int .i64 n] w (RsR (fcDec b off n) w) := by
  by_cases h1 : off < 0
  · have d1 : decide (off < 0) = true := by simpa using h1
    have HE := hidden (fcDec_bad (b := b) (off := off) (n := n) (show badF b off n by unfold badF; omega))
    clear hb
    go_enter Try.func17, Try.ntmps17
    go_wp2_with fail
    go_ret3
    exact RsR.err HE.out (Below.refl _ _)
  have d1 : decide (off < 0) = false := by simpa using h1
  by_cases h2 : (b.length : Int) < off
  · have d2 : decide ((b.length : Int) < off) = true := by simpa using h2
    have HE := hidden (fcDec_bad (b := b) (off := off) (n := n) (show badF b off n by unfold badF; omega))
    clear hb
    go_enter Try.func17, Try.ntmps17
    go_wp2_with fail
    go_ret3
    exact RsR.err HE.out (Below.refl _ _)
  have d2 : decide ((b.length : Int) < off) = false := by simpa using h2
  by_cases h3 : n < 0
  · have d3 : decide (n < 0) = true := by simpa using h3
    have HE := hidden (fcDec_bad (b := b) (off := off) (n := n) (show badF b off n by unfold badF; omega))
    clear hb
    go_enter Try.func17, Try.ntmps17
    go_wp2_with fail
    go_ret3
    exact RsR.err HE.out (Below.refl _ _)
  have d3 : decide (n < 0) = false := by simpa using h3
  by_cases h4 : 65536 < n
  · have d4 : decide (65536 < n) = true := by simpa using h4
    have HE := hidden (fcDec_bad (b := b) (off := off) (n := n) (show badF b off n by unfold badF; omega))
    clear hb
    go_enter Try.func17, Try.ntmps17
    go_wp2_with fail
    go_ret3
    exact RsR.err HE.out (Below.refl _ _)
  have d4 : decide (65536 < n) = false := by simpa using h4
  have hbad : ¬ badF b off n := by unfold badF; omega
  obtain ⟨o, rfl⟩ := Int.eq_ofNat_of_zero_le (show 0 ≤ off by omega)
  obtain ⟨N, rfl⟩ := Int.eq_ofNat_of_zero_le (show 0 ≤ n by omega)
  have HE := hidden (fcDec_ok hbad)
  have HV := hidden hb
  have HLC := hidden hlc
  have HO := hidden (show o ≤ b.length by omega)
  have d2' : decide (b.length < o) = false := by simp; omega
  have hN : N ≤ 65536 := by omega
  obtain ⟨R, hR⟩ : ∃ R, R = rdFs b N [] o := ⟨_, rfl⟩
  rw [← hR] at HE
  have HR := hidden hR
  rw [HE.out]
  clear hb hlc hR HE hbad h1 h2 h3 h4
  go_enter Try.func17, Try.ntmps17
  go_wp2_with fail
  clear d1 d2 d2' d3 d4
  go_loopw [1, 9, 10, 11] (fun off u last i wr => RDRel w b N R off u last i wr) (fun _ _ _ i _ => N - (intOf i).toNat)
  case atStart => exact ⟨0, o, [], [], by omega, rfl, rfl, rfl, HO.out, rfl, Nat.zero_le _, fun h => absurd rfl h, World.ownsRow_nil _ _ _ _, HR.out.symm, Below.refl _ _⟩
  case round =>
    obtain ⟨j, q, ws, pv, hj, rfl, rfl, rfl, hq, hwl, hpv, hpp, hown, hres, hbw⟩ := hrel
    have HWL := hidden hwl
    have HPP := hidden hpp
    have HRES := hidden hres
    have HB := hidden hbw
    have HOW := hidden hown
    obtain ⟨A2, c2, rfl⟩ := own_sliceS hown
    have hsz := hbw.size
    clear hwl hpp hres hbw hown
    by_cases hlt : j < N
    · obtain ⟨f, hf⟩ : ∃ f, N - j = f + 1 := ⟨N - j - 1, by omega⟩
      have HF := hidden (show N - (j + 1) = f by omega)
      rw [hf] at HRES
      have hpq := nxP_prv HWL.out HPP.out
      have hpl : (prvL ws).length ≤ q := by
        rw [← hpq]
        unfold nxP
        split
        · exact Nat.zero_le _
        · exact hpv
      have HRD := hidden (rnext_any A c b q j pv wr (HV.out.grow HB.out) HLC.out hl hq (by omega) (by omega))
      rw [hpq] at HRD
      by_cases he : (rdF b q (prvL ws)).2.2 = 0
      · obtain ⟨s, k, hrw, hk, _, hsl⟩ := rdF_acc hq he
        have HN2 := hidden (show rdFs b f (ws ++ [s]) ((q + k : Nat) : Int) = R by
          have h2 := HRES.out
          rw [rdFs_n hrw] at h2
          exact h2)
        rw [hrw] at HRD
        obtain ⟨q4, hq4⟩ : ∃ q4, q4 = q + k := ⟨_, rfl⟩
        rw [← hq4] at HRD HN2 hk
        have HQ4 := hidden (show s.length ≤ q4 by omega)
        have HLN := hidden (show ws.length + 1 ≤ 1000000000000 by have := HWL.out; omega)
        clear he hf hrw hq4 hpq hpl hpv hsl
        go_wp2_with fail
        refine HRD.out.mono ?_
        rintro e w3 ⟨rfl, g3⟩
        have HB3 := hidden (HB.out.trans (g3.mono hsz))
        have HO3 := hidden (own_growS HOW.out g3)
        have hsz3 := HB3.out.size
        clear g3
        go_wp2_with ((at_builtin; go_loud (refine wpList_append_s rfl _ _ rfl _ ws (by rfl) w.heap.size HO3.out w HB3.out hsz3 s _ rfl (by rfl) HLN.out ?_); intro v5 w5 hown5 hb5; have HO5 := hidden hown5; have HB5 := hidden hb5; clear hown5 hb5))
        first
          | exact ⟨⟨j + 1, q4, ws ++ [s], s, by omega, by go_num, rfl, rfl, hk, by rw [List.length_append, List.length_singleton, HWL.out], HQ4.out, prvL_snoc HWL.out, HO5.out, by rw [HF.out]; exact HN2.out, HB5.out⟩, by simp [intOf]; omega⟩
          | (go_roundw; (case rel => exact ⟨j + 1, q4, ws ++ [s], s, by omega, by go_num, rfl, rfl, hk, by rw [List.length_append, List.length_singleton, HWL.out], HQ4.out, prvL_snoc HWL.out, HO5.out, by rw [HF.out]; exact HN2.out, HB5.out⟩); (case measure => simp [intOf]; omega))
      · have HN2 := hidden (show R = ([], 0, (rdF b q (prvL ws)).2.2) by
          have h2 := HRES.out
          rw [rdFs_e he] at h2
          exact h2.symm)
        have hne : ((rdF b q (prvL ws)).2.2 != 0) = true := by simpa using he
        generalize rdF b q (prvL ws) = r at *
        obtain ⟨r1, r2, r3⟩ := r
        simp only [] at hne HRD HN2
        clear he hf hpq hpl hpv
        go_wp2_with fail
        refine HRD.out.mono ?_
        rintro e w3 ⟨rfl, g3⟩
        have HB3 := hidden (HB.out.trans (g3.mono hsz))
        clear g3
        go_wp2_with fail
        go_ret3
        exact RsR.err HN2.out HB3.out
    · have hje : N - j = 0 := by omega
      rw [hje] at HRES
      have HN2 := hidden (show R = (ws, (q : Int), 0) from HRES.out.symm)
      clear hje hpv
      go_wp2_with fail
      go_ret3
      refine ⟨_, by rw [HN2.out]; rfl, HB.out, ?_⟩
      rw [HN2.out]
      exact Reads.of_own HOW.out
set_option maxRecDepth 8000 in
set_option maxHeartbeats 4000000 in
theorem rfat_any (A : Option Addr) (c : Nat) (b : List UInt8) (off n i : Int) (w : World) (hb : IsBytes w (.slice A b.length c) b) (hlc : b.length ≤ c) (hl : b.length ≤ 1000000000) :
    Calls Try.prog 20 #[.slice A b.length c, .int .i64 off, .int .i64 n, .int .i64 i] w (AtR (fcAt b off n i) w) := by
  by_cases h1 : off < 0
  · have d1 : decide (off < 0) = true := by simpa using h1
    have HE := hidden (fcAt_bad (b := b) (off := off) (n := n) (i := i) (show badF b off n ∨ i < 0 ∨ n ≤ i by unfold badF; omega))
    clear hb
    go_enter Try.func20, Try.ntmps20
    go_wp2_with fail
    go_ret2
    exact ⟨by rw [HE.out]; rfl, Below.refl _ _⟩
  have d1 : decide (off < 0) = false := by simpa using h1
  by_cases h2 : (b.length : Int) < off
  · have d2 : decide ((b.length : Int) < off) = true := by simpa using h2
    have HE := hidden (fcAt_bad (b := b) (off := off) (n := n) (i := i) (show badF b off n ∨ i < 0 ∨ n ≤ i by unfold badF; omega))
    clear hb
    go_enter Try.func20, Try.ntmps20
    go_wp2_with fail
    go_ret2
    exact ⟨by rw [HE.out]; rfl, Below.refl _ _⟩
  have d2 : decide ((b.length : Int) < off) = false := by simpa using h2
  by_cases h3 : n < 0
  · have d3 : decide (n < 0) = true := by simpa using h3
    have HE := hidden (fcAt_bad (b := b) (off := off) (n := n) (i := i) (show badF b off n ∨ i < 0 ∨ n ≤ i by unfold badF; omega))
    clear hb
    go_enter Try.func20, Try.ntmps20
    go_wp2_with fail
    go_ret2
    exact ⟨by rw [HE.out]; rfl, Below.refl _ _⟩
  have d3 : decide (n < 0) = false := by simpa using h3
  by_cases h4 : 65536 < n
  · have d4 : decide (65536 < n) = true := by simpa using h4
    have HE := hidden (fcAt_bad (b := b) (off := off) (n := n) (i := i) (show badF b off n ∨ i < 0 ∨ n ≤ i by unfold badF; omega))
    clear hb
    go_enter Try.func20, Try.ntmps20
    go_wp2_with fail
    go_ret2
    exact ⟨by rw [HE.out]; rfl, Below.refl _ _⟩
  have d4 : decide (65536 < n) = false := by simpa using h4
  by_cases h5 : i < 0
  · have d5 : decide (i < 0) = true := by simpa using h5
    have HE := hidden (fcAt_bad (b := b) (off := off) (n := n) (i := i) (show badF b off n ∨ i < 0 ∨ n ≤ i by unfold badF; omega))
    clear hb
    go_enter Try.func20, Try.ntmps20
    go_wp2_with fail
    go_ret2
    exact ⟨by rw [HE.out]; rfl, Below.refl _ _⟩
  have d5 : decide (i < 0) = false := by simpa using h5
  by_cases h6 : n ≤ i
  · have d6 : decide (n ≤ i) = true := by simpa using h6
    have HE := hidden (fcAt_bad (b := b) (off := off) (n := n) (i := i) (show badF b off n ∨ i < 0 ∨ n ≤ i by unfold badF; omega))
    clear hb
    go_enter Try.func20, Try.ntmps20
    go_wp2_with fail
    go_ret2
    exact ⟨by rw [HE.out]; rfl, Below.refl _ _⟩
  have d6 : decide (n ≤ i) = false := by simpa using h6
  have hbad : ¬ badF b off n := by unfold badF; omega
  obtain ⟨o, rfl⟩ := Int.eq_ofNat_of_zero_le (show 0 ≤ off by omega)
  obtain ⟨I, rfl⟩ := Int.eq_ofNat_of_zero_le (show 0 ≤ i by omega)
  have HE := hidden (fcAt_ok (I := I) hbad (by omega))
  have d2' : decide (b.length < o) = false := by simp; omega
  obtain ⟨M, hM⟩ : ∃ M, M = I + 1 := ⟨_, rfl⟩
  have hMi : (I : Int) + 1 = (M : Int) := by omega
  have hMl : M ≤ 65536 := by omega
  have HDE := hidden (fcDec_ok (b := b) (off := (o : Int)) (N := M) (by unfold badF; omega))
  have HRD := hidden (rfdecode_any A c b (o : Int) (M : Int) w hb hlc hl)
  rw [HDE.out] at HRD
  rw [← hM] at HE
  have HRE := hidden (show (rdFs b M [] o).2.2 = 0 → (rdFs b M [] o).1.length = I + 1 from fun h => by rw [rdFs_len (by omega) h, hM])
  generalize rdFs b M [] o = R at *
  generalize fcAt b (o : Int) n (I : Int) = RA at *
  clear hb hbad HDE hM h1 h2 h3 h4 h5 h6
  go_enter Try.func20, Try.ntmps20
  go_wp2_with fail
  refine HRD.out.mono ?_
  rintro e w3 ⟨v3, rfl, g3, hs3⟩
  have HG3 := hidden g3
  have HS3 := hidden hs3
  clear g3 hs3 d1 d2 d2' d3 d4 d5 d6
  obtain ⟨ws, q, f⟩ := R
  simp only [] at HS3 HRE HE
  by_cases hf : f = 0
  · have HLN := hidden (HRE.out hf)
    subst hf
    obtain ⟨A2, c2, rfl⟩ := HS3.out.slice_
    have hIl : I < ws.length := by rw [HLN.out]; omega
    have HE9 := hidden (show RA = (ws[I], 0) by
      rw [HE.out, if_neg (by simp), List.getD_eq_getElem?_getD, List.getElem?_eq_getElem hIl]; rfl)
    obtain ⟨b2, f2, rfl, hc2⟩ := HS3.out.at_ hIl
    generalize ws[I] = s at *
    clear HE
    go_wp2_with fail
    go_ret2
    exact ⟨by rw [HE9.out]; rfl, HG3.out⟩
  · have hne : (f != 0) = true := by simpa using hf
    have HE9 := hidden (show RA = ([], f) by rw [HE.out, if_pos hf])
    clear hf HE
    go_wp2_with fail
    go_ret2
    exact ⟨by rw [HE9.out]; rfl, HG3.out⟩
end Go.Proofs.Ytcpdgkjelghlnaa
