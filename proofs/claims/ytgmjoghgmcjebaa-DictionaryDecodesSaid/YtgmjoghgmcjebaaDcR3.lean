/-
  The reference's Decode. Nothing that was there is changed.
-/
import Derived.Test.YtgmjoghgmcjebaaDcR2
namespace Go.Proofs.Ytgmjoghgmcjebaa
open Go.RowKit
set_option linter.unusedVariables false
set_option linter.unusedSimpArgs false

def DRRel (w : World) (cs : List Nat) (vs : List Str) (k0 : Nat) (u i : Value) (wr : World) : Prop :=
  ∃ k : Nat, k ≤ cs.length ∧ i = .int .i64 (k : Int) ∧ (∀ j, (h : j < cs.length) → j < k → cs[j] < k0) ∧ wr.ownsRow w.heap.size 9 1 u (vs.take k).length (scells (vs.take k)) ∧ Below w.heap.size w wr
set_option maxRecDepth 20000 in
set_option maxHeartbeats 16000000 in
theorem rdec10_any (A : Option Addr) (c : Nat) (b : List UInt8) (off n : Int) (w : World) (hb : IsBytes w (.slice A b.length c) b) (hlc : b.length ≤ c) (hl : b.length ≤ 1000000000) (h63 : -9223372036854775808 ≤ off) (h64 : off ≤ 9223372036854775807) :
    Calls Try.prog 25 #[.slice A b.length c, .int .i64 off, .int .i64 n] w (RsR (decT b off n) w) := by
  have HV := hidden hb
  by_cases h0 : n < 0 ∨ 65536 < n ∨ off < 0 ∨ (b.length : Int) < off
  · have HE := hidden (decT_a h0)
    by_cases c1 : off < 0
    · have hd : decide (off < 0) = true := by simpa using c1
      clear hb h0 c1
      go_enter Try.func25, Try.ntmps25
      go_wp2_with fail
      go_ret3
      exact RsR.err HE.out (Below.refl _ _)
    · have hd : decide (off < 0) = false := by simpa using c1
      by_cases c2 : (b.length : Int) < off
      · have hd2 : decide ((b.length : Int) < off) = true := by simpa using c2
        clear hb h0 c1 c2
        go_enter Try.func25, Try.ntmps25
        go_wp2_with fail
        go_ret3
        exact RsR.err HE.out (Below.refl _ _)
      · have hd2 : decide ((b.length : Int) < off) = false := by simpa using c2
        by_cases c3 : n < 0
        · have hd3 : decide (n < 0) = true := by simpa using c3
          clear hb h0 c1 c2 c3
          go_enter Try.func25, Try.ntmps25
          go_wp2_with fail
          go_ret3
          exact RsR.err HE.out (Below.refl _ _)
        · have hd3 : decide (n < 0) = false := by simpa using c3
          have hd4 : decide (65536 < n) = true := by simp; omega
          clear hb h0 c1 c2 c3
          go_enter Try.func25, Try.ntmps25
          go_wp2_with fail
          go_ret3
          exact RsR.err HE.out (Below.refl _ _)
  obtain ⟨N, rfl⟩ := Int.eq_ofNat_of_zero_le (show 0 ≤ n by omega)
  obtain ⟨o, rfl⟩ := Int.eq_ofNat_of_zero_le (show 0 ≤ off by omega)
  have hN : N ≤ 65536 := by omega
  have ho : o ≤ b.length := by omega
  have hd0 : decide ((65536 : Int) < (N : Int)) = false := by simp; omega
  have hd1 : decide (b.length < o) = false := by simp; omega
  have HRW := hidden (rdictionary_any A c b o N w hb hlc hl h63 h64 hN)
  by_cases h1 : (rdD b o N).2.2 = 0
  · obtain ⟨q, hq, hoq, hqb, hwn, hwl⟩ := rdD_acc ho h1
    obtain ⟨ws, q', x, hd⟩ : ∃ ws q' x, rdD b o N = (ws, q', x) := ⟨_, _, _, rfl⟩
    rw [hd] at HRW h1 hq hwn hwl
    simp only [] at h1 hq hwn hwl
    subst h1 hq
    have HRC := hidden (fun (W : World) (hW : Grows w W) => rcodes_any A c b q N ws.length W (hb.grow hW) hlc hl hqb hN (by omega))
    by_cases h2 : (rdC b q N ws.length).2.2 = 0
    · obtain ⟨r, hr, hqr, hrb, hcl, hcs⟩ := rdC_acc (by omega) (by omega) h2
      obtain ⟨cs, r', x, hd2⟩ : ∃ cs r' x, rdC b q N ws.length = (cs, r', x) := ⟨_, _, _, rfl⟩
      rw [hd2] at HRC h2 hr hcl hcs
      simp only [] at h2 hr hcl hcs
      subst h2 hr
      have HDT := hidden (decT_n ho hN hd hd2)
      have HCS := hidden hcs
      obtain ⟨vs, hvs⟩ : ∃ vs, vs = pickS ws cs := ⟨_, rfl⟩
      have HVS := hidden hvs
      have HVL := hidden (show vs.length = cs.length by rw [hvs]; unfold pickS; rw [List.length_map])
      have HVX := hidden (show ∀ s ∈ vs, s.length ≤ 4096 from hvs ▸ pick_len hwl)
      have hcl5 : cs.length ≤ 65536 := by omega
      have hor : o ≤ r := by omega
      clear hb hd hd2 hcs hwl hvs hcl h0
      go_enter Try.func25, Try.ntmps25
      go_wp2_with fail
      refine HRW.out.mono ?_
      rintro e w1 ⟨v1, rfl, g1, hS1⟩
      have HG1 := hidden g1
      have HS1 := hidden (show IsS w1 v1 ws from hS1)
      have HRC1 := hidden (HRC.out w1 g1)
      obtain ⟨A1, c1, rfl⟩ := HS1.out.slice_
      clear g1 hS1
      go_wp2_with fail
      refine HRC1.out.mono ?_
      rintro e w3 ⟨v3, q3, rfl, g3, hI3, hq3⟩
      obtain rfl : q3 = (r : Int) := hq3 rfl
      have HG3 := hidden (HG1.out.of_below g3)
      have HI3 := hidden (show IsW w3 v3 cs from hI3)
      have HS3 := hidden (HS1.out.grow g3)
      obtain ⟨A3, c3, rfl⟩ := HI3.out.slice_
      clear g3 hI3 hq3
      go_wp2_with fail
      go_loopw [15, 16] (fun u i wr => DRRel w3 cs vs ws.length u i wr) (fun _ i _ => cs.length - (intOf i).toNat)
      case atStart => exact ⟨0, by omega, rfl, fun j _ h => by omega, ⟨rfl, .inl ⟨rfl, rfl⟩⟩, Below.refl _ _⟩
      case round =>
        obtain ⟨j, hj, rfl, hno, hown, hbw⟩ := hrel
        have HB := hidden hbw
        have HO := hidden hown
        have HNO := hidden hno
        clear hno
        obtain ⟨A8, c8, rfl⟩ := own_sliceS hown
        generalize hvl : (vs.take j).length = vl at *
        have HVLJ := hidden hvl
        clear hvl
        by_cases hlt : j < cs.length
        · have hjv : j < vs.length := by rw [HVL.out]; exact hlt
          obtain ⟨b3, f3, rfl, hck⟩ := (HI3.out.grow (show Grows w3 wr from hbw)).at_ hlt
          have hxc := HCS.out _ (List.getElem_mem hlt)
          have HVJ := hidden (show vs[j] = ws.getD cs[j] [] by have := HVS.out; subst this; simp [pickS])
          have HOV := hidden (fun h => over_true (k := ws.length) hlt h)
          have HTK := hidden (List.take_succ_eq_append_getElem hjv)
          have HLN := hidden (show (vs.take j).length + 1 ≤ 1000000000000 by rw [List.length_take]; omega)
          obtain ⟨x, hx⟩ : ∃ x, x = cs[j] := ⟨_, rfl⟩
          have HX := hidden hx
          rw [← hx] at hck hxc HVJ HOV
          clear hx
          by_cases hov : x < ws.length
          · obtain ⟨b1, f1, rfl, hwx⟩ := (HS3.out.grow (show Grows w3 wr from hbw)).at_ hov
            have HVW := hidden (show vs[j] = ws[x] by rw [HVJ.out, List.getD_eq_getElem?_getD, List.getElem?_eq_getElem hov]; rfl)
            rw [HVW.out] at HTK
            have hd5 : decide (ws.length ≤ x) = false := by simp; omega
            have HOVX := hidden hov
            generalize ws[x] = t at *
            have hsz := hbw.size
            have HO' := hidden (show wr.ownsRow w3.heap.size 9 1 (.slice A8 vl c8) (vs.take j).length (scells (vs.take j)) from HVLJ.out ▸ HO.out)
            clear hown hbw HVW HVJ
            go_wp2_with ((at_builtin; go_loud (refine wpList_append_s rfl _ _ rfl _ (vs.take j) (by rfl) w3.heap.size HO'.out w3 HB.out hsz t _ rfl (by rfl) HLN.out ?_); intro v5 w5 hown5 hb5; rw [← HTK.out] at hown5; have HO5 := hidden hown5; have HB5 := hidden hb5; clear hown5 hb5))
            have hnew : ∀ i, (h : i < cs.length) → i < j + 1 → cs[i] < ws.length := fun i hi hij => by
              rcases Nat.lt_or_ge i j with h | h
              · exact HNO.out i hi h
              · have e1 : i = j := by omega
                subst e1
                rw [← HX.out]; exact HOVX.out
            first
              | (go_roundw; (case rel => exact ⟨j + 1, by omega, by go_num, hnew, HO5.out, HB5.out⟩); (case measure => simp [intOf]; omega))
              | exact ⟨⟨j + 1, by omega, by go_num, hnew, HO5.out, HB5.out⟩, by simp [intOf]; omega⟩
          · have HEE := hidden (show decT b o N = ([], 0, 6) by rw [HDT.out]; unfold endT; rw [if_pos (HOV.out (by omega))])
            have hd5 : decide (ws.length ≤ x) = true := by simp; omega
            clear hown hbw
            go_wp2_with fail
            go_ret3
            exact RsR.err HEE.out (HG3.out.of_below (show Grows w3 wr from HB.out))
        · have hje : j = vs.length := by rw [HVL.out]; omega
          have hvl2 : vl = vs.length := by rw [← HVLJ.out, hje, List.take_length]
          have HIV := hidden (show IsS wr (.slice A8 vs.length c8) vs by
            have h := hown
            rw [hje, List.take_length, hvl2] at h
            exact Reads.of_own h)
          have HOF := hidden (over_false (k := ws.length) fun i hi => HNO.out i hi (by have := HVL.out; omega))
          have HEN := hidden (fun w' (h : Grows wr w') => rencode10_any (.slice A8 vs.length c8) vs w' (HIV.out.grow h) (by rw [HVL.out]; omega) (fun s hs => by have := HVX.out s hs; omega))
          have HGW := hidden (HG3.out.of_below (show Grows w3 wr from HB.out))
          obtain ⟨AO, hAO, hsa⟩ := cut_run A c b (O := o) (Q := r) hor hrb hlc hl
          obtain ⟨wt, hwt⟩ : ∃ wt, wt = encT vs := ⟨_, rfl⟩
          obtain ⟨gt, hgt⟩ : ∃ gt, gt = cutB b o (r - o) := ⟨_, rfl⟩
          rw [← hwt] at HEN
          rw [← hgt] at hAO
          have HAO := hidden (fun w' (h : Grows wr w') => hAO w' (HV.out.grow (Grows.of_below HGW.out h)))
          have hse := eqS wt gt
          obtain ⟨bq, hbq⟩ : ∃ bq, bq = decide (wt = gt) := ⟨_, rfl⟩
          rw [← hbq] at hse
          have hse2 : ((strOf wt).toList != (strOf gt).toList) = !bq := by unfold bne; rw [hse]
          have HEE := hidden (show decT b o N = if bq then (vs, (r : Int), 0) else ([], 0, 4) by
            rw [HDT.out]
            unfold endT
            rw [HOF.out, if_neg (by simp), ← HVS.out, ← hwt, ← hgt, hbq]
            simp)
          subst hvl2
          clear hwt hgt hAO hbq hown hbw hje
          go_wp2_with fail
          refine wp_region_loose (tabRs [(1, BytesV wt)]) (by kernel_rfl) (by kernel_rfl) (tabRs_cons BytesV.lasts tabRs_nil) ?_
          iterate 1 ((with_reducible refine loose_one (v := ?_) (a' := ?_) ?_ ?_ (fun w' hC' hG' => ?_) ?_ ?_); rotate_left 2; (focus rfl); (focus rfl); (focus (clear hC' hG'; go_simp; rfl)); (focus (go_simp; rfl)))
          refine loose_call (R := BytesV wt) (f := 21) (args := #[.slice A8 vs.length c8]) (by rfl) (by rfl) (fun _ => by go_simp) (fun w' hC' hG' => made_loose (HEN.out w' hC')) ?_
          intro u1 hu1
          refine ⟨?_, ?_, ?_⟩
          rotate_left
          · go_simp
            rfl
          refine loose_one (v := ?_) (a' := ?_) (by rfl) (by rfl) (fun w' hC' hG' => ?_) ?_ ?_
          rotate_left 2
          · have hr := run_string_bytes (P := Try.prog) ((show IsBytes w' _ wt from (hG' 1 (by kernel_rfl)).2 rfl)) 40 5 Try.underlying40 Try.underlying5 9 Try.underlying9
            clear hC' hG'
            go_simp
            rfl
          · go_simp
            rfl
          iterate 4 ((with_reducible refine loose_one (v := ?_) (a' := ?_) ?_ ?_ (fun w' hC' hG' => ?_) ?_ ?_); rotate_left 2; (focus rfl); (focus rfl); (focus (clear hC' hG'; go_simp; rfl)); (focus (go_simp; rfl)))
          refine loose_one (v := ?_) (a' := ?_) (by rfl) (by rfl) (fun w' hC' hG' => ?_) ?_ ?_
          rotate_left 2
          · have hr := run_string_bytes (P := Try.prog) ((show IsBytes w' (.slice AO (r - o) (c - o)) gt from HAO.out w' hC')) 40 5 Try.underlying40 Try.underlying5 9 Try.underlying9
            clear hC' hG'
            go_simp
            rfl
          · go_simp
            rfl
          iterate 1 ((with_reducible refine loose_one (v := ?_) (a' := ?_) ?_ ?_ (fun w' hC' hG' => ?_) ?_ ?_); rotate_left 2; (focus rfl); (focus rfl); (focus (clear hC' hG'; go_simp; rfl)); (focus (go_simp; rfl)))
          refine loose_done (fun w12 hC' hG' => ?_)
          clear hG'
          have HB12 := hidden (Grows.of_below HGW.out hC')
          have HI12 := hidden (HIV.out.grow hC')
          clear hC' hse hse2
          cases bq
          rotate_left
          · have HE9 := hidden (show decT b o N = (vs, (r : Int), 0) from HEE.out)
            go_wp2_with fail
            go_ret3
            exact ⟨_, by rw [HE9.out]; rfl, HB12.out, by rw [HE9.out]; exact HI12.out⟩
          · have HE9 := hidden (show decT b o N = ([], 0, 4) from HEE.out)
            go_wp2_with fail
            go_ret3
            exact RsR.err HE9.out HB12.out
    · have HE := hidden (decT_c ho hN hd h2)
      have hne : ((rdC b q N ws.length).2.2 != 0) = true := by simpa using h2
      generalize rdC b q N ws.length = R at *
      obtain ⟨r1, r2, r3⟩ := R
      simp only [] at hne HRC HE
      clear hb hd h2 hwl h0
      go_enter Try.func25, Try.ntmps25
      go_wp2_with fail
      refine HRW.out.mono ?_
      rintro e w1 ⟨v1, rfl, g1, hS1⟩
      have HG1 := hidden g1
      have HS1 := hidden (show IsS w1 v1 ws from hS1)
      have HRC1 := hidden (HRC.out w1 g1)
      obtain ⟨A1, c1, rfl⟩ := HS1.out.slice_
      clear g1 hS1
      go_wp2_with fail
      refine HRC1.out.mono ?_
      rintro e w3 ⟨v3, q3, rfl, g3, _, _⟩
      have HG3 := hidden (HG1.out.of_below g3)
      clear g3
      go_wp2_with fail
      go_ret3
      exact RsR.err HE.out HG3.out
  · have HE := hidden (decT_d h0 h1)
    have hne : ((rdD b o N).2.2 != 0) = true := by simpa using h1
    generalize rdD b o N = R at *
    obtain ⟨r1, r2, r3⟩ := R
    simp only [] at hne HRW HE
    clear hb h1 h0
    go_enter Try.func25, Try.ntmps25
    go_wp2_with fail
    refine HRW.out.mono ?_
    rintro e w1 ⟨v1, rfl, g1, hS1⟩
    have HG1 := hidden g1
    clear g1 hS1
    go_wp2_with fail
    go_ret3
    exact RsR.err HE.out HG1.out
end Go.Proofs.Ytgmjoghgmcjebaa
