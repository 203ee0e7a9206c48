/-
  The reference's next. Nothing that was there is changed.
-/
import Derived.Test.YtcpdgkjelghlnaaFc5
namespace Go.Proofs.Ytcpdgkjelghlnaa
open Go.RowKit
set_option linter.unusedVariables false
set_option linter.unusedSimpArgs false

def nxP (i : Nat) (last : Str) : Str := if i % 16 = 0 then [] else last
set_option maxRecDepth 20000 in
set_option maxHeartbeats 8000000 in
theorem rnext_any (A : Option Addr) (c : Nat) (b : List UInt8) (q i : Nat) (last : Str) (w : World) (hb : IsBytes w (.slice A b.length c) b) (hlc : b.length ≤ c) (hl : b.length ≤ 1000000000) (hq : q ≤ b.length) (hpl : last.length ≤ 1000000000) (hi : i ≤ 1000000) :
    Calls Try.prog 28 #[.slice A b.length c, .int .i64 (q : Int), .int .i64 (i : Int), .string (strOf last)] w (RsF (rdF b q (nxP i last)) w) := by
  have HV := hidden hb
  have HDC := hidden (fun (o : Nat) (W : World) (ho : o ≤ b.length) (hW : Grows w W) => rdecode_any (.slice A b.length c) b o W (hb.grow hW) (by unfold maxLen; omega) (by omega) (by omega))
  have HQ := hidden hq
  have HLC := hidden hlc
  obtain ⟨p, hp⟩ : ∃ p, p = nxP i last := ⟨_, rfl⟩
  rw [← hp]
  obtain ⟨r, hr⟩ : ∃ r, r = i % 16 := ⟨_, rfl⟩
  have hA : (i : Int) % 16 = (r : Int) := by omega
  have hB : (i : Int).tmod 16 = (r : Int) := by rw [Int.tmod_eq_emod_of_nonneg (by omega)]; omega
  have hrl : r < 16 := by omega
  have HR := hidden hr
  have HP := hidden hp
  obtain ⟨sp, hsp⟩ : ∃ sp, sp = strOf last := ⟨_, rfl⟩
  have hsz : sp.size = last.length := by rw [hsp]; rfl
  have HSP := hidden hsp
  rw [← hsp]
  have HD1 := hidden (HDC.out q w HQ.out (Below.refl _ _))
  clear hb hq hlc hp hr hsp
  go_enter Try.func28, Try.ntmps28
  go_wp2_with fail
  by_cases h1 : (dcd b q).2.2 = 0
  · obtain ⟨n, k, hd, hk, hk1, _, hn64⟩ := dcd_acc11 HQ.out h1
    rw [hd] at HD1
    obtain ⟨q2, hq2⟩ : ∃ q2, q2 = q + k := ⟨_, rfl⟩
    rw [← hq2] at hd HD1 hk
    refine HD1.out.mono ?_
    rintro e w1 ⟨rfl, rfl⟩
    have HN64 := hidden hn64
    clear HD1 hk1 hq2 h1
    by_cases hr0 : r = 0
    · have HPN := hidden (show p = [] by rw [HP.out]; unfold nxP; rw [if_pos (by have := HR.out; omega)])
      have hr1 : ((r : Int) == 0) = true := by simp; omega
      have hr2 : ((r : Int) != 0) = false := by simp; omega
      have HPL := hidden (show p.length = 0 by rw [HPN.out]; rfl)
      clear hr0
      by_cases hn0 : n = 0
      · have h2 : n ≤ p.length := by omega
        have hdn : ((n : Int) != 0) = false := by simp; omega
        have hdl : decide (last.length < n) = false := by simp; omega
        have HNL := hidden (show n ≤ last.length by omega)
        have HTK := hidden (show p.take n = last.take n by rw [hn0]; simp)
        clear hn0
        have HE0 := hidden (rdF_g hd h2)
        have HK := hidden hk
        have HD2 := hidden (HDC.out q2 w hk (Below.refl _ _))
        clear hd hk
        go_wp2_with fail
        by_cases h3 : (dcd b q2).2.2 = 0
        · obtain ⟨m, k2, hd, hk, hk1, _, hm64⟩ := dcd_acc11 HK.out h3
          rw [hd] at HD2
          obtain ⟨q3, hq3⟩ : ∃ q3, q3 = q2 + k2 := ⟨_, rfl⟩
          rw [← hq3] at hd HD2 hk
          refine HD2.out.mono ?_
          rintro e w2 ⟨rfl, rfl⟩
          obtain ⟨R, hR⟩ : ∃ R : Nat, R = b.length - q3 := ⟨_, rfl⟩
          have hR1 : (b.length : Int) - (q3 : Int) = (R : Int) := by omega
          have hRl : R ≤ 1000000000 := by omega
          clear HD2 hk1 hq3 h3
          by_cases h4 : q3 + m ≤ b.length
          · have HE1 := hidden (HE0.out.trans (rdG_h (n := n) (prev := p) hd h4))
            obtain ⟨E, hE⟩ : ∃ E, E = q3 + m := ⟨_, rfl⟩
            have hPE : (q3 : Int) + (m : Int) = (E : Int) := by omega
            have hPL : q3 ≤ E := by omega
            have hEl : E ≤ b.length := by omega
            have hEN : E - q3 = m := by omega
            have hml : m ≤ 1000000000 := by omega
            have hd3 : decide (R < m) = false := by simp; omega
            obtain ⟨AO, hAO, hsa⟩ := cut_run A c b (O := q3) (Q := E) hPL hEl HLC.out hl
            rw [hEN] at hAO hsa
            obtain ⟨S, hS⟩ : ∃ S, S = last.take n ++ cutF b q3 m := ⟨_, rfl⟩
            have hcl := cutF_length h4
            have HSL := hidden (show S.length ≤ 2000000000 by rw [hS, List.length_append, hcl, List.length_take]; omega)
            obtain ⟨C, hC⟩ : ∃ C, C = cp last S := ⟨_, rfl⟩
            have hCl : C ≤ 1000000000 := by rw [hC]; have := (cp_le last S).1; omega
            have HCP := hidden (fun W => show Calls Try.prog 11 #[.string sp, .string (strOf S)] W (fun e w' => e = .returned (.int .i64 (C : Int)) ∧ Grows W w') from by rw [hC, HSP.out]; exact rcp_grow last S W (by omega) (by have := HSL.out; omega))
            have HCN := hidden (show n ≤ C by rw [hC, hS]; exact cp_glued _ HNL.out)
            have HEE := hidden (show rdF b q p = (S, (E : Int), 0) by
              rw [HE1.out, rdH_t (by rw [HPN.out, cp_nil]; omega), HTK.out, ← hS, ← hE])
            have HADD := hidden (show sp.extract 0 n ++ strOf (cutF b q3 m) = strOf S by
              rw [HSP.out, strOf_extract, List.drop_zero, Nat.sub_zero, strOf_append, ← hS])
            have hez : (sp.extract 0 n).size = n := by have := HNL.out; rw [ByteArray.size_extract]; omega
            have hcz : (strOf (cutF b q3 m)).size = m := hcl
            have HRB := hidden (fun W (hW : Grows w W) => run_string_bytes (P := Try.prog) (hAO W (HV.out.grow hW)) 26 5 Try.underlying26 Try.underlying5 9 Try.underlying9)
            generalize strOf (cutF b q3 m) = cs at *
            have hnl := HNL.out
            have hcat : ¬ 9223372036854775807 < n + m := by omega
            have hwn : IntKind.i64.wrap (n : Int) = (n : Int) := by rw [IntKind.wrap_i64]; omega
            clear hd hk hR hE hS hC hAO HE1 HE0 h4 hEN hcl
            go_wp2_with fail
            refine wp_region_loose (tabRs []) (by kernel_rfl) (by kernel_rfl) tabRs_nil ?_
            iterate 8 ((with_reducible refine loose_one (v := ?_) (a' := ?_) ?_ ?_ (fun w' hC' hG' => ?_) ?_ ?_); rotate_left 2; (focus rfl); (focus rfl); (focus (clear hC' hG'; go_simp; rfl)); (focus (go_simp; rfl)))
            refine loose_one (v := ?_) (a' := ?_) (by rfl) (by rfl) (fun w' hC' hG' => ?_) ?_ ?_
            rotate_left 2
            · have hr := HRB.out w' hC'
              clear hC' hG'
              go_simp
              rfl
            · go_simp
              rfl
            iterate 2 ((with_reducible refine loose_one (v := ?_) (a' := ?_) ?_ ?_ (fun w' hC' hG' => ?_) ?_ ?_); rotate_left 2; (focus rfl); (focus rfl); (focus (clear hC' hG'; go_simp; rfl)); (focus (go_simp; rfl)))
            refine loose_done (fun w12 hC' hG' => ?_)
            clear hG' hsa
            have HG := hidden (show Grows w w12 from hC')
            rw [HADD.out]
            clear hC' HRB hez hcz HADD
            clear HCP HCN
            go_wp2_with fail
            go_ret3
            exact ⟨by rw [HEE.out]; rfl, HG.out⟩
          · have HE1 := hidden (HE0.out.trans (rdG_s (n := n) (prev := p) (by rw [hd]) (by rw [hd]; simp only []; omega)))
            have hd3 : decide (R < m) = true := by simp; omega
            have HHM := hidden hm64
            clear hd hk hR HE0
            go_wp2_with fail
            go_ret3
            exact ⟨by rw [HE1.out]; rfl, Below.refl _ _⟩
        · have HE1 := hidden (HE0.out.trans (rdG_e (n := n) (prev := p) h3))
          have hne : ((dcd b q2).2.2 != 0) = true := by simpa using h3
          generalize dcd b q2 = R at *
          obtain ⟨r1, r2, r3⟩ := R
          simp only [] at hne HD2 HE1
          clear h3
          refine HD2.out.mono ?_
          rintro e w2 ⟨rfl, rfl⟩
          go_wp2_with fail
          go_ret3
          exact ⟨by rw [HE1.out]; rfl, Below.refl _ _⟩
      · have hdn : ((n : Int) != 0) = true := by simp; omega
        have HE1 := hidden (rdF_p (b := b) (p := q) (prev := p) (by rw [hd]) (by rw [hd]; simp only []; have := HPL.out; omega))
        clear hd hk
        go_wp2_with fail
        go_ret3
        exact ⟨by rw [HE1.out]; rfl, Below.refl _ _⟩
    · have HPN := hidden (show p = last by rw [HP.out]; unfold nxP; rw [if_neg (by have := HR.out; omega)])
      have hr1 : ((r : Int) == 0) = false := by simp; omega
      have hr2 : ((r : Int) != 0) = true := by simp; omega
      have HPL := hidden (show p.length = last.length by rw [HPN.out])
      clear hr0
      by_cases hnl : n ≤ last.length
      · have h2 : n ≤ p.length := by rw [HPL.out]; exact hnl
        have hdl : decide (last.length < n) = false := by simp; omega
        have HNL := hidden hnl
        have HTK := hidden (show p.take n = last.take n by rw [HPN.out])
        clear hnl
        have HE0 := hidden (rdF_g hd h2)
        have HK := hidden hk
        have HD2 := hidden (HDC.out q2 w hk (Below.refl _ _))
        clear hd hk
        go_wp2_with fail
        by_cases h3 : (dcd b q2).2.2 = 0
        · obtain ⟨m, k2, hd, hk, hk1, _, hm64⟩ := dcd_acc11 HK.out h3
          rw [hd] at HD2
          obtain ⟨q3, hq3⟩ : ∃ q3, q3 = q2 + k2 := ⟨_, rfl⟩
          rw [← hq3] at hd HD2 hk
          refine HD2.out.mono ?_
          rintro e w2 ⟨rfl, rfl⟩
          obtain ⟨R, hR⟩ : ∃ R : Nat, R = b.length - q3 := ⟨_, rfl⟩
          have hR1 : (b.length : Int) - (q3 : Int) = (R : Int) := by omega
          have hRl : R ≤ 1000000000 := by omega
          clear HD2 hk1 hq3 h3
          by_cases h4 : q3 + m ≤ b.length
          · have HE1 := hidden (HE0.out.trans (rdG_h (n := n) (prev := p) hd h4))
            obtain ⟨E, hE⟩ : ∃ E, E = q3 + m := ⟨_, rfl⟩
            have hPE : (q3 : Int) + (m : Int) = (E : Int) := by omega
            have hPL : q3 ≤ E := by omega
            have hEl : E ≤ b.length := by omega
            have hEN : E - q3 = m := by omega
            have hml : m ≤ 1000000000 := by omega
            have hd3 : decide (R < m) = false := by simp; omega
            obtain ⟨AO, hAO, hsa⟩ := cut_run A c b (O := q3) (Q := E) hPL hEl HLC.out hl
            rw [hEN] at hAO hsa
            obtain ⟨S, hS⟩ : ∃ S, S = last.take n ++ cutF b q3 m := ⟨_, rfl⟩
            have hcl := cutF_length h4
            have HSL := hidden (show S.length ≤ 2000000000 by rw [hS, List.length_append, hcl, List.length_take]; omega)
            obtain ⟨C, hC⟩ : ∃ C, C = cp last S := ⟨_, rfl⟩
            have hCl : C ≤ 1000000000 := by rw [hC]; have := (cp_le last S).1; omega
            have HCP := hidden (fun W => show Calls Try.prog 11 #[.string sp, .string (strOf S)] W (fun e w' => e = .returned (.int .i64 (C : Int)) ∧ Grows W w') from by rw [hC, HSP.out]; exact rcp_grow last S W (by omega) (by have := HSL.out; omega))
            have HCN := hidden (show n ≤ C by rw [hC, hS]; exact cp_glued _ HNL.out)
            have HEE := hidden (show rdF b q p = if n < C then ([], 0, 4) else (S, (E : Int), 0) by
              rw [HE1.out]
              unfold rdH
              rw [HTK.out, ← hS, ← hE, HPN.out, ← hC])
            have HADD := hidden (show sp.extract 0 n ++ strOf (cutF b q3 m) = strOf S by
              rw [HSP.out, strOf_extract, List.drop_zero, Nat.sub_zero, strOf_append, ← hS])
            have hez : (sp.extract 0 n).size = n := by have := HNL.out; rw [ByteArray.size_extract]; omega
            have hcz : (strOf (cutF b q3 m)).size = m := hcl
            have HRB := hidden (fun W (hW : Grows w W) => run_string_bytes (P := Try.prog) (hAO W (HV.out.grow hW)) 26 5 Try.underlying26 Try.underlying5 9 Try.underlying9)
            generalize strOf (cutF b q3 m) = cs at *
            have hnl := HNL.out
            have hcat : ¬ 9223372036854775807 < n + m := by omega
            have hwn : IntKind.i64.wrap (n : Int) = (n : Int) := by rw [IntKind.wrap_i64]; omega
            clear hd hk hR hE hS hC hAO HE1 HE0 h4 hEN hcl
            go_wp2_with fail
            refine wp_region_loose (tabRs []) (by kernel_rfl) (by kernel_rfl) tabRs_nil ?_
            iterate 8 ((with_reducible refine loose_one (v := ?_) (a' := ?_) ?_ ?_ (fun w' hC' hG' => ?_) ?_ ?_); rotate_left 2; (focus rfl); (focus rfl); (focus (clear hC' hG'; go_simp; rfl)); (focus (go_simp; rfl)))
            refine loose_one (v := ?_) (a' := ?_) (by rfl) (by rfl) (fun w' hC' hG' => ?_) ?_ ?_
            rotate_left 2
            · have hr := HRB.out w' hC'
              clear hC' hG'
              go_simp
              rfl
            · go_simp
              rfl
            iterate 2 ((with_reducible refine loose_one (v := ?_) (a' := ?_) ?_ ?_ (fun w' hC' hG' => ?_) ?_ ?_); rotate_left 2; (focus rfl); (focus rfl); (focus (clear hC' hG'; go_simp; rfl)); (focus (go_simp; rfl)))
            refine loose_done (fun w12 hC' hG' => ?_)
            clear hG' hsa
            have HG := hidden (show Grows w w12 from hC')
            rw [HADD.out]
            clear hC' HRB hez hcz HADD
            go_wp2_with fail
            refine (HCP.out w12).mono ?_
            rintro e w13 ⟨rfl, g13⟩
            have HG3 := hidden (HG.out.of_below g13)
            clear g13
            by_cases h5 : C = n
            · have hd5 : ((C : Int) != (n : Int)) = false := by simp; omega
              have HE9 := hidden (show rdF b q p = (S, (E : Int), 0) by rw [HEE.out, if_neg (by omega)])
              clear h5
              go_wp2_with fail
              go_ret3
              exact ⟨by rw [HE9.out]; rfl, HG3.out⟩
            · have hd5 : ((C : Int) != (n : Int)) = true := by simp; omega
              have HE9 := hidden (show rdF b q p = ([], 0, 4) by rw [HEE.out, if_pos (by have := HCN.out; omega)])
              clear h5
              go_wp2_with fail
              go_ret3
              exact ⟨by rw [HE9.out]; rfl, HG3.out⟩
          · have HE1 := hidden (HE0.out.trans (rdG_s (n := n) (prev := p) (by rw [hd]) (by rw [hd]; simp only []; omega)))
            have hd3 : decide (R < m) = true := by simp; omega
            have HHM := hidden hm64
            clear hd hk hR HE0
            go_wp2_with fail
            go_ret3
            exact ⟨by rw [HE1.out]; rfl, Below.refl _ _⟩
        · have HE1 := hidden (HE0.out.trans (rdG_e (n := n) (prev := p) h3))
          have hne : ((dcd b q2).2.2 != 0) = true := by simpa using h3
          generalize dcd b q2 = R at *
          obtain ⟨r1, r2, r3⟩ := R
          simp only [] at hne HD2 HE1
          clear h3
          refine HD2.out.mono ?_
          rintro e w2 ⟨rfl, rfl⟩
          go_wp2_with fail
          go_ret3
          exact ⟨by rw [HE1.out]; rfl, Below.refl _ _⟩
      · have hdl : decide (last.length < n) = true := by simp; omega
        have HE1 := hidden (rdF_p (b := b) (p := q) (prev := p) (by rw [hd]) (by rw [hd]; simp only []; have := HPL.out; omega))
        clear hd hk
        go_wp2_with fail
        go_ret3
        exact ⟨by rw [HE1.out]; rfl, Below.refl _ _⟩
  · have HE1 := hidden (rdF_e (prev := p) h1)
    have hne : ((dcd b q).2.2 != 0) = true := by simpa using h1
    generalize dcd b q = R at *
    obtain ⟨r1, r2, r3⟩ := R
    simp only [] at hne HD1 HE1
    clear h1
    refine HD1.out.mono ?_
    rintro e w2 ⟨rfl, rfl⟩
    go_wp2_with fail
    go_ret3
    exact ⟨by rw [HE1.out]; rfl, Below.refl _ _⟩
end Go.Proofs.Ytcpdgkjelghlnaa
