/-
  The reference's dictionary: it reads the words. Nothing that was there is changed.
-/
import Derived.Test.YtgmjoghgmcjebaaM14
namespace Go.Proofs.Ytgmjoghgmcjebaa
open Go.RowKit
set_option linter.unusedVariables false
set_option linter.unusedSimpArgs false

set_option maxRecDepth 20000 in
set_option maxHeartbeats 16000000 in
theorem rdictionary_any (A : Option Addr) (c : Nat) (b : List UInt8) (off : Int) (N : Nat) (w : World) (hb : IsBytes w (.slice A b.length c) b) (hlc : b.length ≤ c) (hl : b.length ≤ 1000000000) (h63 : -9223372036854775808 ≤ off) (h64 : off ≤ 9223372036854775807) (hN : N ≤ 65536) :
    Calls Try.prog 47 #[.slice A b.length c, .int .i64 off, .int .i64 (N : Int)] w (RsR (rdD b off N) w) := by
  have HV := hidden hb
  have HDC := hidden (rdecode_any (.slice A b.length c) b off w hb (by unfold maxLen; omega) h63 h64)
  have HRW := hidden (fun (q : Nat) (W : World) (hq : q ≤ b.length) (hW : Grows w W) => rdecode_any (.slice A b.length c) b q W (hb.grow hW) (by unfold maxLen; omega) (by omega) (by omega))
  by_cases h1 : (dcd b off).2.2 = 0
  · obtain ⟨o, rfl⟩ : ∃ o : Nat, off = (o : Int) := by
      rcases Int.lt_or_le off 0 with h | h
      · rw [dcd_bad (.inl h)] at h1; cases h1
      · exact Int.eq_ofNat_of_zero_le h
    have ho : o ≤ b.length := by
      rcases Nat.lt_or_ge b.length o with h | h
      · rw [dcd_bad (.inr (by omega))] at h1; cases h1
      · exact h
    obtain ⟨n, k, hd, hk, hk1, _, hn64⟩ := dcd_num ho h1
    rw [hd] at HDC
    obtain ⟨q2, hq2⟩ : ∃ q2, q2 = o + k := ⟨_, rfl⟩
    rw [← hq2] at hd HDC hk
    by_cases h2 : n ≤ N
    · have HE := hidden (show rdD b o N = rdWs b n [] q2 by rw [rdD_n (by rw [hd]) (by rw [hd]; simp; omega), hd]; simp)
      obtain ⟨R, hR⟩ : ∃ R, R = rdD b o N := ⟨_, rfl⟩
      rw [← hR] at HE ⊢
      have hd3 : decide (N < n) = false := by simp; omega
      have hnl : n ≤ 65536 := by omega
      clear hb hd h1 hq2 hR
      go_enter Try.func47, Try.ntmps47
      go_wp2_with fail
      refine HDC.out.mono ?_
      rintro e w2 ⟨rfl, rfl⟩
      go_wp2_with fail
      go_loopw [10, 12, 13] (fun p u i wr => RWRel w b n R p u i wr) (fun _ _ i _ => n - (intOf i).toNat)
      case atStart => exact ⟨0, q2, [], by omega, rfl, rfl, hk, rfl, ⟨rfl, .inl ⟨rfl, rfl⟩⟩, HE.out.symm, Below.refl _ _⟩
      case round =>
        obtain ⟨j, q, ws, hj, rfl, rfl, hq, hwl, hown, hres, hbw⟩ := hrel
        have HB := hidden hbw
        have HOW := hidden hown
        have HWL := hidden hwl
        have HRES := hidden hres
        obtain ⟨A2, c2, rfl⟩ := own_sliceS hown
        by_cases hlt : j < n
        · obtain ⟨f, hf⟩ : ∃ f, n - j = f + 1 := ⟨n - j - 1, by omega⟩
          have HF := hidden (show n - (j + 1) = f by omega)
          rw [hf] at HRES
          have HRD := hidden (HRW.out q wr hq hbw)
          have HIS := hidden (show IsS wr (.slice A2 ws.length c2) ws from Reads.of_own hown)
          by_cases he1 : (dcd b q).2.2 = 0
          · obtain ⟨m, k3, hd3', hq3, hk3, _, hm64⟩ := dcd_num hq he1
            obtain ⟨q3, hq3e⟩ : ∃ q3, q3 = q + k3 := ⟨_, rfl⟩
            rw [← hq3e] at hd3' hq3
            have hq3p : 0 < q3 := by omega
            have hdd := hd3'
            rw [hd3'] at HRD
            have HVW := hidden (HV.out.grow hbw)
            by_cases hm : m ≤ 4096
            · obtain ⟨r, hr⟩ : ∃ r : Nat, r = b.length - q3 := ⟨_, rfl⟩
              have hr1 : (b.length : Int) - (q3 : Int) = (r : Int) := by omega
              have hd4 : decide ((4096 : Int) < (m : Int)) = false := by simp; omega
              by_cases hfit : q3 + m ≤ b.length
              · have hrw := rdW_ok hd3' hm hfit
                have he : (rdW b q).2.2 = 0 := by rw [hrw]
                have HST := hidden (show badW ws (cutB b q3 m) = true → R = ([], 0, 4) from fun h => by
                  have h2 := HRES.out
                  rw [rdWs_b he (by rw [hrw]; exact h)] at h2
                  exact h2.symm)
                have HSN := hidden (show badW ws (cutB b q3 m) = false → rdWs b f (ws ++ [cutB b q3 m]) (q3 + m : Nat) = R from fun h => by
                  have h2 := HRES.out
                  rw [rdWs_n he (by rw [hrw]; exact h), hrw] at h2
                  exact h2)
                have HCUT := hidden (show ∀ E, E = q3 + m → (b.drop q3).take (E - q3) = cutB b q3 m from fun E h => by rw [h, Nat.add_sub_cancel_left]; rfl)
                obtain ⟨bb, ff, rfl⟩ := some_of_bytes HVW.out (by omega)
                generalize cutB b q3 m = s at *
                obtain ⟨q4, hq4⟩ : ∃ q4, q4 = q3 + m := ⟨_, rfl⟩
                have HC4 := hidden (HCUT.out q4 hq4)
                have hPE : (q3 : Int) + (m : Int) = (q4 : Int) := by omega
                have hPL : q3 ≤ q4 := by omega
                rw [← hq4] at HSN hfit
                have hd5 : decide (r < m) = false := by simp; omega
                have hsz := hbw.size
                have hlen1 : ws.length + 1 ≤ 1000000000000 := by omega
                have HLN1 := hidden hlen1
                by_cases hj0 : j = 0
                · have hw0 : ws = [] := List.eq_nil_of_length_eq_zero (by omega)
                  have HN2 := hidden (HSN.out (by rw [hw0]; rfl))
                  have hdj : decide (0 < j) = false := by simp; omega
                  clear hres hown hbw hwl hw0 hf hq4 hj0 hlen1 he hrw hr he1 hd3' hdd hq3e
                  go_wp2_with fail
                  refine HRD.out.mono ?_
                  rintro e w3 ⟨rfl, rfl⟩
                  go_wp2_with (first
                    | (refine wpList_slice_bytes rfl _ _ _ 40 5 rfl Try.underlying40 (by kernel_rfl) (by kernel_rfl) bb ff b c rfl HVW.out q3 q4 rfl rfl hPL hfit hlc ?_; rw [HC4.out]; intro v9 hv9; have HV9 := hidden hv9; clear hv9)
                    | (refine wpList_tostring rfl _ 40 9 5 rfl Try.underlying40 Try.underlying5 Try.underlying9 v9 _ rfl HV9.out ?_)
                    | (at_builtin; refine wpList_append_s rfl _ _ rfl _ ws (by rfl) w.heap.size HOW.out w HB.out hsz s _ rfl (by rfl) HLN1.out ?_; intro v5 w5 hown5 hb5; have HO5 := hidden hown5; have HB5 := hidden hb5; clear hown5 hb5))
                  first
                    | (go_roundw; (case rel => exact ⟨j + 1, q4, _, by omega, by go_num, rfl, by omega, by rw [List.length_append, List.length_singleton, HWL.out], HO5.out, by rw [HF.out]; exact HN2.out, HB5.out⟩); (case measure => simp [intOf]; omega))
                    | exact ⟨⟨j + 1, q4, _, by omega, by go_num, rfl, by omega, by rw [List.length_append, List.length_singleton, HWL.out], HO5.out, by rw [HF.out]; exact HN2.out, HB5.out⟩, by simp [intOf]; omega⟩
                · obtain ⟨J, hJ⟩ : ∃ J, j = J + 1 := ⟨j - 1, by omega⟩
                  have hbl := badW_last (ws := ws) (s := s) (J := J) (by omega)
                  have hJ1 : (j : Int) - 1 = (J : Int) := by omega
                  have hJ2 : IntKind.i64.wrap (J : Int) = (J : Int) := by rw [IntKind.wrap_i64]; omega
                  have hJl : J < ws.length := by omega
                  have hdj : decide (0 < j) = true := by simp; omega
                  obtain ⟨b2, f2, rfl, hck⟩ := HIS.out.at_ hJl
                  have hle := leS s ws[J]
                  rw [← hbl] at hle
                  generalize ws[J] = t at *
                  cases hbb : badW ws s
                  · have HN2 := hidden (HSN.out hbb)
                    rw [hbb] at hle
                    generalize hS' : strOf t = t' at *
                    clear hres hown hbw hwl hf hq4 hj0 hlen1 hJ hbl hbb hS' he hrw hr he1 hd3' hdd hq3e
                    go_wp2_with fail
                    refine HRD.out.mono ?_
                    rintro e w3 ⟨rfl, rfl⟩
                    go_wp2_with (first
                      | (refine wpList_slice_bytes rfl _ _ _ 40 5 rfl Try.underlying40 (by kernel_rfl) (by kernel_rfl) bb ff b c rfl HVW.out q3 q4 rfl rfl hPL hfit hlc ?_; rw [HC4.out]; intro v9 hv9; have HV9 := hidden hv9; clear hv9)
                      | (refine wpList_tostring rfl _ 40 9 5 rfl Try.underlying40 Try.underlying5 Try.underlying9 v9 _ rfl HV9.out ?_)
                      | (at_builtin; refine wpList_append_s rfl _ _ rfl _ ws (by rfl) w.heap.size HOW.out w HB.out hsz s _ rfl (by rfl) HLN1.out ?_; intro v5 w5 hown5 hb5; have HO5 := hidden hown5; have HB5 := hidden hb5; clear hown5 hb5))
                    first
                      | (go_roundw; (case rel => exact ⟨j + 1, q4, _, by omega, by go_num, rfl, by omega, by rw [List.length_append, List.length_singleton, HWL.out], HO5.out, by rw [HF.out]; exact HN2.out, HB5.out⟩); (case measure => simp [intOf]; omega))
                      | exact ⟨⟨j + 1, q4, _, by omega, by go_num, rfl, by omega, by rw [List.length_append, List.length_singleton, HWL.out], HO5.out, by rw [HF.out]; exact HN2.out, HB5.out⟩, by simp [intOf]; omega⟩
                  · have HN2 := hidden (HST.out hbb)
                    rw [hbb] at hle
                    generalize hS' : strOf t = t' at *
                    clear hres hown hbw hwl hf hq4 hj0 hlen1 hJ hbl hbb hS' he hrw hr he1 hd3' hdd hq3e
                    go_wp2_with fail
                    refine HRD.out.mono ?_
                    rintro e w3 ⟨rfl, rfl⟩
                    go_wp2_with (first
                      | (refine wpList_slice_bytes rfl _ _ _ 40 5 rfl Try.underlying40 (by kernel_rfl) (by kernel_rfl) bb ff b c rfl HVW.out q3 q4 rfl rfl hPL hfit hlc ?_; rw [HC4.out]; intro v9 hv9; have HV9 := hidden hv9; clear hv9)
                      | (refine wpList_tostring rfl _ 40 9 5 rfl Try.underlying40 Try.underlying5 Try.underlying9 v9 _ rfl HV9.out ?_))
                    go_ret3
                    exact RsR.err HN2.out HB.out
              · have hrw := rdW_s (b := b) (p := q) (by rw [hd3']) (by rw [hd3']; simp; omega) (by rw [hd3']; simp only []; omega)
                have HN2 := hidden (show R = ([], 0, 2) by
                  have h2 := HRES.out
                  rw [rdWs_e (by rw [hrw]; decide), hrw] at h2
                  exact h2.symm)
                have hd5 : decide (r < m) = true := by simp; omega
                clear hres hown hbw hwl hf hrw hr he1 hd3' hdd hq3e hfit
                go_wp2_with fail
                refine HRD.out.mono ?_
                rintro e w3 ⟨rfl, rfl⟩
                go_wp2_with fail
                go_ret3
                exact RsR.err HN2.out HB.out
            · have hrw := rdW_l (b := b) (p := q) (by rw [hd3']) (by rw [hd3']; simp; omega)
              have HN2 := hidden (show R = ([], 0, 3) by
                have h2 := HRES.out
                rw [rdWs_e (by rw [hrw]; decide), hrw] at h2
                exact h2.symm)
              have hd4 : decide ((4096 : Int) < (m : Int)) = true := by simp; omega
              clear hres hown hbw hwl hf hrw he1 hd3' hdd hq3e
              go_wp2_with fail
              refine HRD.out.mono ?_
              rintro e w3 ⟨rfl, rfl⟩
              go_wp2_with fail
              go_ret3
              exact RsR.err HN2.out HB.out
          · have HN2 := hidden (show R = ([], 0, (dcd b q).2.2) by
              have h2 := HRES.out
              rw [rdWs_e (by rw [rdW_e he1]; exact he1), rdW_e he1] at h2
              exact h2.symm)
            have hne : ((dcd b q).2.2 != 0) = true := by simpa using he1
            generalize dcd b q = r at *
            obtain ⟨r1, r2, r3⟩ := r
            simp only [] at hne HRD HN2
            clear hres hown hbw hwl he1 hf
            go_wp2_with fail
            refine HRD.out.mono ?_
            rintro e w3 ⟨rfl, rfl⟩
            go_wp2_with fail
            go_ret3
            exact RsR.err HN2.out HB.out
        · have hje : n - j = 0 := by omega
          rw [hje] at HRES
          have HN2 := hidden (show R = (ws, (q : Int), 0) from HRES.out.symm)
          clear hres hown hbw hwl hje
          go_wp2_with fail
          go_ret3
          refine ⟨_, by rw [HN2.out]; rfl, HB.out, ?_⟩
          rw [HN2.out]
          exact Reads.of_own HOW.out
    · have HE := hidden (rdD_r (b := b) (off := (o : Int)) (n := (N : Int)) (by rw [hd]) (by rw [hd]; simp; omega))
      have hd3 : decide (N < n) = true := by simp; omega
      clear hb hd h1 hq2
      go_enter Try.func47, Try.ntmps47
      go_wp2_with fail
      refine HDC.out.mono ?_
      rintro e w2 ⟨rfl, rfl⟩
      go_wp2_with fail
      go_ret3
      exact RsR.err HE.out (Below.refl _ _)
  · have HE := hidden (rdD_e (n := (N : Int)) h1)
    have hne : ((dcd b off).2.2 != 0) = true := by simpa using h1
    generalize dcd b off = r at *
    obtain ⟨r1, r2, r3⟩ := r
    simp only [] at hne HDC HE
    clear hb h1
    go_enter Try.func47, Try.ntmps47
    go_wp2_with fail
    refine HDC.out.mono ?_
    rintro e w2 ⟨rfl, rfl⟩
    go_wp2_with fail
    go_ret3
    exact RsR.err HE.out (Below.refl _ _)
end Go.Proofs.Ytgmjoghgmcjebaa
