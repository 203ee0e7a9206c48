/-
  Package delta as it landed: Decode. Nothing that was there is changed.
-/
import Derived.Test.YtjjeebaelpgjlaaDs3
import Derived.Test.YtjjeebaelpgjlaaDs4
namespace Go.Proofs.Ytjjeebaelpgjlaa
open Go.RowKit
set_option linter.unusedVariables false
set_option linter.unusedSimpArgs false

theorem validOrderN_t {k n : Int} (h : k = 1 ∨ (k = 2 ∧ 2 ≤ n)) (w : World) : Calls Try.prog 24 #[.int .i64 k, .int .i64 n] w fun e w' => e = .returned (.bool true) ∧ w = w' :=
  (validOrder_any k n w).mono fun e w' ⟨h1, h2⟩ => ⟨by rw [h1]; exact retB (by simpa using h), h2⟩
theorem validOrderN_f {k n : Int} (h : ¬ (k = 1 ∨ (k = 2 ∧ 2 ≤ n))) (w : World) : Calls Try.prog 24 #[.int .i64 k, .int .i64 n] w fun e w' => e = .returned (.bool false) ∧ w = w' :=
  (validOrder_any k n w).mono fun e w' ⟨h1, h2⟩ => ⟨by rw [h1]; exact retB (decide_eq_false h), h2⟩
/-- the values, from the j-th number ahead on -/
def DlRel (w : World) (ld r : List Int) (v i : Value) (wr : World) : Prop :=
  ∃ (j : Nat) (m : Int), j ≤ ld.length ∧ i = .int .i64 m ∧ m = (j : Int) - 1 ∧ IsI wr v (psAll (ld.drop j) r) ∧ Below w.heap.size w wr
set_option maxRecDepth 20000 in
set_option maxHeartbeats 16000000 in
theorem dec9_any (A : Option Addr) (c : Nat) (b : List UInt8) (o n : Int) (w : World) (hb : IsBytes w (.slice A b.length c) b) (hlc : b.length ≤ c) (hl : b.length ≤ 1048575) (h63 : -9223372036854775808 ≤ o) (h64 : o ≤ 9223372036854775807) :
    Calls Try.prog 18 #[.slice A b.length c, .int .i64 o, .int .i64 n] w (LDecR (dlDec b o n) w) := by
  by_cases h1 : n < 0
  · have HE := hidden (dlDec_a (b := b) (o := o) (n := n) (.inl (.inl h1)))
    have hd : decide (n < 0) = true := by simpa using h1
    clear h1
    go_enter Try.func18, Try.ntmps18
    go_wp2_with fail
    go_ret3
    exact LDecR.err HE.out (Below.refl _ _)
  have d1 : decide (n < 0) = false := by simpa using h1
  by_cases h2 : 65536 < n
  · have HE := hidden (dlDec_a (b := b) (o := o) (n := n) (.inl (.inr h2)))
    have hd : decide (65536 < n) = true := by simpa using h2
    clear h1 h2
    go_enter Try.func18, Try.ntmps18
    go_wp2_with fail
    go_ret3
    exact LDecR.err HE.out (Below.refl _ _)
  have d2 : decide (65536 < n) = false := by simpa using h2
  by_cases h3 : o < 0
  · have HE := hidden (dlDec_a (b := b) (o := o) (n := n) (.inr h3))
    have hd : decide (o < 0) = true := by simpa using h3
    clear h1 h2 h3
    go_enter Try.func18, Try.ntmps18
    go_wp2_with fail
    go_ret3
    exact LDecR.err HE.out (Below.refl _ _)
  have d3 : decide (o < 0) = false := by simpa using h3
  have HN := hidden (show ¬ ((n < 0 ∨ 65536 < n) ∨ o < 0) by omega)
  by_cases h4 : (b.length : Int) ≤ o
  · have HE := hidden (dlDec_b HN.out h4)
    have hd : decide ((b.length : Int) ≤ o) = true := by simpa using h4
    clear h1 h2 h3 h4
    go_enter Try.func18, Try.ntmps18
    go_wp2_with fail
    go_ret3
    exact LDecR.err HE.out (Below.refl _ _)
  have d4 : decide ((b.length : Int) ≤ o) = false := by simpa using h4
  have HL4 := hidden h4
  obtain ⟨O, rfl⟩ := Int.eq_ofNat_of_zero_le (a := o) (by omega)
  obtain ⟨N, rfl⟩ := Int.eq_ofNat_of_zero_le (a := n) (by omega)
  have hOl : O < b.length := by omega
  have hNl : N ≤ 65536 := by omega
  have HV := hidden hb
  obtain ⟨bb, ff, hA, hck⟩ := byte_at hb hOl
  subst hA
  have hkd : kindD b (O : Int) = (b.getD O 0).toNat := by unfold kindD; rw [Int.toNat_natCast]
  have hkb := (b.getD O 0).toNat_lt
  generalize (b.getD O 0).toNat = kk at *
  have HKD := hidden hkd
  clear h1 h2 h3 h4 h63 h64 hb hkd
  by_cases k1 : kk = 1 ∨ (kk = 2 ∧ 2 ≤ N)
  rotate_left
  · have HE := hidden (dlDec_c HN.out HL4.out (by rw [HKD.out]; omega))
    have HVO := hidden (validOrderN_f (k := (kk : Int)) (n := (N : Int)) (by omega) w)
    clear k1
    go_enter Try.func18, Try.ntmps18
    go_wp2_with fail
    refine HVO.out.mono ?_
    rintro e w2 ⟨rfl, rfl⟩
    go_wp2_with fail
    go_ret3
    exact LDecR.err HE.out (Below.refl _ _)
  have HK1 := hidden (show kindD b (O : Int) = 1 ∨ (kindD b (O : Int) = 2 ∧ 2 ≤ (N : Int)) by rw [HKD.out]; omega)
  obtain ⟨M, hM⟩ : ∃ M, M = min kk N := ⟨_, rfl⟩
  obtain ⟨R, hR⟩ : ∃ R, R = N - M := ⟨_, rfl⟩
  obtain ⟨ld, p, e1, hh⟩ : ∃ ld p e1, hdsD b M ((O : Int) + 1) [] = (ld, p, e1) := ⟨_, _, _, rfl⟩
  have HH : Hid (hdsD b (min (kindD b (O : Int)) (N : Int).toNat) ((O : Int) + 1) [] = (ld, p, e1)) := by rw [HKD.out, Int.toNat_natCast, ← hM]; exact hh
  have HHC := hidden (readLeading_any (some ⟨bb, ff, none⟩) c b ((O : Int) + 1) M w HV.out (by omega) (by omega) (by omega) (by omega))
  rw [hh] at HHC
  have hmn : min (kk : Int) (N : Int) = (M : Int) := by omega
  have hM2 : M ≤ 2 := by omega
  have HVO := hidden (validOrderN_t (k := (kk : Int)) (n := (N : Int)) (by omega) w)
  have HLC := hidden (leadingCount_any (kk : Int) (N : Int) w)
  rw [hmn] at HLC
  by_cases he1 : e1 = 0
  rotate_left
  · have HE := hidden (dlDec_d HN.out HL4.out HK1.out HH.out he1)
    have hd : (e1 != 0) = true := by simpa using he1
    clear he1 hh hM hR
    clear k1
    go_enter Try.func18, Try.ntmps18
    go_wp2_with fail
    refine HVO.out.mono ?_
    rintro e w2 ⟨rfl, rfl⟩
    go_wp2_with fail
    refine HLC.out.mono ?_
    rintro e w2 ⟨rfl, rfl⟩
    go_wp2_with fail
    refine HHC.out.mono ?_
    rintro e w1 ⟨v1, rfl, hi1, hg1⟩
    have HG1 := hidden hg1
    clear hi1 hg1
    go_wp2_with fail
    go_ret3
    exact LDecR.err HE.out HG1.out
  subst he1
  obtain ⟨b1, b2, b3, b4⟩ := hdsD_bd M ((O : Int) + 1) [] ld p (by omega) (by omega) (fun x hx => by cases hx) hh
  rw [List.length_nil, Nat.zero_add] at b3
  obtain ⟨r, q, e2, hr⟩ : ∃ r q e2, decV b p (R : Int) = (r, q, e2) := ⟨_, _, _, rfl⟩
  have HR : Hid (decV b p ((N : Int) - (min (kindD b (O : Int)) (N : Int).toNat : Nat)) = (r, q, e2)) := by
    rw [HKD.out, Int.toNat_natCast, ← hM, show (N : Int) - (M : Nat) = (R : Int) by omega]
    exact hr
  have HDC := hidden (fun w' hv' => ldecodeF_any (some ⟨bb, ff, none⟩) c b p (R : Int) w' hv' hlc (by omega) (by omega) (by omega))
  rw [hr] at HDC
  have HLL := hidden b3
  have HLDI := hidden b4
  have hnl : (N : Int) - (ld.length : Int) = (R : Int) := by omega
  by_cases he2 : e2 = 0
  rotate_left
  · have HE := hidden (dlDec_e HN.out HL4.out HK1.out HH.out HR.out he2)
    have hd : (e2 != 0) = true := by simpa using he2
    clear he2 hh hM hR hr b1 b2 b3 b4
    clear k1
    go_enter Try.func18, Try.ntmps18
    go_wp2_with fail
    refine HVO.out.mono ?_
    rintro e w2 ⟨rfl, rfl⟩
    go_wp2_with fail
    refine HLC.out.mono ?_
    rintro e w2 ⟨rfl, rfl⟩
    go_wp2_with fail
    refine HHC.out.mono ?_
    rintro e w1 ⟨v1, rfl, hi1, hg1⟩
    have HI1 := hidden (show IsI w1 v1 ld from hi1)
    have HG1 := hidden hg1
    obtain ⟨A4, c4, rfl⟩ := HI1.out.slice_
    clear hi1 hg1
    go_wp2_with fail
    refine (HDC.out w1 (HV.out.grow HG1.out)).mono ?_
    rintro e w2 ⟨v2, rfl, hi2, hg2⟩
    have HG2 := hidden (Grows.of_below HG1.out hg2)
    clear hi2 hg2
    go_wp2_with fail
    go_ret3
    exact LDecR.err HE.out HG2.out
  subst he2
  obtain ⟨a1, a2, a3⟩ := decV_bd hr
  have HB2 := hidden a2
  have HRI := hidden a3
  obtain ⟨Q, rfl⟩ := Int.eq_ofNat_of_zero_le (a := q) (by omega)
  have hOQ : O ≤ Q := by omega
  have hQb : Q ≤ b.length := by omega
  have HVL := hidden (show (psAll ld r).length = N by rw [psAll_length]; omega)
  have HVI := hidden (psAll_in ld r HLDI.out HRI.out)
  have HLN : Hid (∀ j, (psAll (ld.drop j) r).length ≤ 100000) := fun j => by rw [psAll_length, List.length_drop]; have := HLL.out; omega
  have HPD : Hid (∀ k, (h : k < ld.length) → psAll (ld.drop k) r = psL ld[k] (psAll (ld.drop (k + 1)) r)) := fun k h => psAll_drop h r
  have HOK := hidden (fun h5 => dlDec_g HN.out HL4.out HK1.out HH.out HR.out h5)
  have HNO := hidden (fun h5 => dlDec_f HN.out HL4.out HK1.out HH.out HR.out h5)
  have hQO : ((Q : Int) - (O : Int)).toNat = Q - O := by omega
  rw [hQO, Int.toNat_natCast] at HOK HNO
  obtain ⟨vs, hvs⟩ : ∃ vs, vs = psAll ld r := ⟨_, rfl⟩
  obtain ⟨wt, hwt⟩ : ∃ wt, wt = dlEnc vs := ⟨_, rfl⟩
  obtain ⟨gt, hgt⟩ : ∃ gt, gt = (b.drop O).take (Q - O) := ⟨_, rfl⟩
  rw [← hvs] at HVL HVI HOK HNO
  rw [← hwt, ← hgt] at HOK HNO
  have HVS := hidden hvs
  have HWT := hidden hwt
  have HGT := hidden hgt
  obtain ⟨bq, hbq⟩ : ∃ bq, bq = decide (wt = gt) := ⟨_, rfl⟩
  have HBQ := hidden hbq
  have hQlb : Q ≤ 1048576 := by omega
  have hll0 : ld.length ≤ 65536 := by omega
  clear hh hM hR hr b1 b2 b3 b4 a1 a2 a3 hvs hwt hgt hbq hQO
  clear k1
  go_enter Try.func18, Try.ntmps18
  go_wp2_with fail
  refine HVO.out.mono ?_
  rintro e w2 ⟨rfl, rfl⟩
  go_wp2_with fail
  refine HLC.out.mono ?_
  rintro e w2 ⟨rfl, rfl⟩
  go_wp2_with fail
  refine HHC.out.mono ?_
  rintro e w1 ⟨v1, rfl, hi1, hg1⟩
  have HI1 := hidden (show IsI w1 v1 ld from hi1)
  have HG1 := hidden hg1
  obtain ⟨A4, c4, rfl⟩ := HI1.out.slice_
  clear hi1 hg1
  go_wp2_with fail
  refine (HDC.out w1 (HV.out.grow HG1.out)).mono ?_
  rintro e w2 ⟨v2, rfl, hi2, hg2⟩
  have HI2 := hidden (show IsI w2 v2 r from hi2)
  have HG2 := hidden (Grows.of_below HG1.out hg2)
  have HI12 := hidden (IsI.grow HI1.out hg2)
  clear hi2 hg2 hnl hmn
  go_wp2_with fail
  go_loopw [13, 14] (fun v i wr => DlRel w2 ld r v i wr) (fun _ i _ => (intOf i + 1).toNat)
  case atStart => exact ⟨ld.length, _, Nat.le_refl _, rfl, rfl, by rw [List.drop_length]; exact HI2.out, Below.refl _ _⟩
  case round =>
    obtain ⟨j, m, hj, rfl, hm, hvi, hbw⟩ := hrel
    have HB := hidden hbw
    have HIV := hidden hvi
    obtain ⟨A5, c5, rfl⟩ := HIV.out.slice_
    clear hvi hbw
    by_cases hj0 : 0 < j
    · obtain ⟨k, rfl⟩ : ∃ k, j = k + 1 := ⟨j - 1, by omega⟩
      obtain rfl : m = (k : Int) := by omega
      have hkl : k < ld.length := by omega
      obtain ⟨b1, f1, rfl, hcl⟩ := (IsI.grow HI12.out HB.out).at_ hkl
      have HPK := hidden (HPD.out k hkl)
      have HPS := hidden (ps_any ld[k] _ _ wr HIV.out (by have := HLN.out (k + 1); omega))
      rw [← HPK.out] at HPS
      generalize ld[k] = x at *
      clear hm hj0
      go_wp2_with fail
      refine HPS.out.mono ?_
      rintro e w3 ⟨v3, rfl, hg3, hown3⟩
      have HI3 := hidden (show IsI w3 v3 (psAll (ld.drop k) r) from Reads.of_own hown3)
      have HB3 := hidden (Grows.of_below HB.out hg3)
      clear hown3 hg3
      go_wp2_with fail
      refine ⟨⟨k, (k : Int) - 1, by omega, by go_num, rfl, HI3.out, HB3.out⟩, by simp [intOf] <;> omega⟩
    · obtain rfl : j = 0 := by omega
      obtain rfl : m = -1 := by omega
      rw [List.drop_zero, ← HVS.out] at HIV
      have HLV := hidden (show (psAll (ld.drop 0) r).length = vs.length by rw [List.drop_zero, HVS.out])
      rw [HLV.out]
      have HEN := hidden (fun w' (h : Grows wr w') => enc9_any (.slice A5 vs.length c5) vs w' (IsI.grow HIV.out h) (by rw [HVL.out]; exact hNl) HVI.out)
      rw [← HWT.out] at HEN
      obtain ⟨AO, hAO, hsa⟩ : ∃ AO, (∀ w', IsBytes w' (.slice (some ⟨bb, ff, none⟩) b.length c) b → IsBytes w' (.slice AO (Q - O) (c - O)) gt) ∧
          ∀ w', (Instr.sliceAt 27 (.slice (some ⟨bb, ff, none⟩) b.length c) (some (.int .i64 (O : Int))) (some (.int .i64 (Q : Int))) none).run Try.prog w' = .ok (.slice AO (Q - O) (c - O)) w' := by
        refine ⟨if c = O then (some (⟨bb, ff, none⟩ : Addr)) else Option.map (fun x : Addr => x.add O) (some (⟨bb, ff, none⟩ : Addr)), fun w' hv => ?_, fun w' => ?_⟩
        · have h := slice_reads2 hv (o := O) (p := Q) hOQ hQb hlc
          rw [← HGT.out] at h
          exact h
        · have ht : Try.prog.underlying 27 = some (.slice (Try.prog.elem 27)) := by kernel_rfl
          have hs1 : (sizeOf (Try.prog.elem 27)).run Try.prog w' = .ok 1 w' := by
            have hi : (Try.prog.info? (Try.prog.elem 27)).map (·.size) = some 1 := by kernel_rfl
            cases h : Try.prog.info? (Try.prog.elem 27) with
            | none => rw [h] at hi; cases hi
            | some y =>
              rw [h] at hi
              have h1 : y.size = 1 := by simpa using hi
              simp [sizeOf, typeInfo, h, h1]
          rw [run_sliceAt_slice (P := Try.prog) (w := w') 27 (.slice (some ⟨bb, ff, none⟩) b.length c) (some (.int .i64 (O : Int))) (some (.int .i64 (Q : Int))) none ht]
          have h := run_slice_lh (P := Try.prog) (w := w') 27 (some ⟨bb, ff, none⟩) b.length c ht .i64 .i64 (O : Int) (Q : Int) (by omega) (by omega) (by omega)
          rw [h, hs1]
          simp only [Result.andThen_ok, sliced, Int.toNat_natCast, Nat.mul_one]
      have HAO := hidden (fun w' (h : Grows wr w') => hAO w' (HV.out.grow (Grows.of_below HG2.out (Grows.of_below HB.out h))))
      have HEQ := hidden (fun u1 w' hu (h : Grows wr w') => bytesEqual_any u1 (.slice AO (Q - O) (c - O)) wt gt w' hu (HAO.out w' h))
      rw [← HBQ.out] at HEQ
      clear hAO hm hj0 hOQ
      go_wp2_with fail
      refine wp_region_loose (tabRs [(1, BytesV wt), (6, ConstV (.bool bq))]) (by kernel_rfl) (by kernel_rfl) (tabRs_cons BytesV.lasts (tabRs_cons ConstV.lasts tabRs_nil)) ?_
      iterate 1 ((with_reducible refine loose_one (v := ?_) (a' := ?_) ?_ ?_ (fun w' hC' hG' => ?_) ?_ ?_); rotate_left 2; (focus rfl); (focus rfl); (focus (clear hC' hG'; go_simp; rfl)); (focus (go_simp; rfl)))
      refine loose_call (R := BytesV wt) (f := 14) (args := #[.slice A5 vs.length c5]) (by rfl) (by rfl) (fun _ => by go_simp) (fun w' hC' hG' => byr_loose (HEN.out w' hC')) ?_
      intro u1 hu1
      refine ⟨?_, ?_, ?_⟩
      rotate_left
      · go_simp
        rfl
      iterate 4 ((with_reducible refine loose_one (v := ?_) (a' := ?_) ?_ ?_ (fun w' hC' hG' => ?_) ?_ ?_); rotate_left 2; (focus rfl); (focus rfl); (focus (clear hC' hG'; go_simp; rfl)); (focus (go_simp; rfl)))
      refine loose_call (R := ConstV (.bool bq)) (f := 28) (args := #[u1, .slice AO (Q - O) (c - O)]) (by rfl) (by rfl) (fun _ => by go_simp) (fun w' hC' hG' => const_loose0 (HEQ.out u1 w' ((hG' 1 (by kernel_rfl)).2 rfl) hC')) ?_
      rintro _ ⟨_, _, rfl⟩
      refine ⟨?_, ?_, ?_⟩
      rotate_left
      · go_simp
        rfl
      iterate 1 ((with_reducible refine loose_one (v := ?_) (a' := ?_) ?_ ?_ (fun w' hC' hG' => ?_) ?_ ?_); rotate_left 2; (focus rfl); (focus rfl); (focus (clear hC' hG'; go_simp; rfl)); (focus (go_simp; rfl)))
      refine loose_done (fun w12 hC' hG' => ?_)
      clear hG'
      have HB12 := hidden (Grows.of_below HG2.out (Grows.of_below HB.out hC'))
      have HI12' := hidden (IsI.grow HIV.out hC')
      clear hC' hsa
      cases bq
      rotate_left
      · have HEE := hidden (HOK.out (by have h := HBQ.out; simpa using h.symm))
        go_wp2_with fail
        go_ret3
        exact ⟨_, by rw [HEE.out]; rfl, by rw [HEE.out]; exact HI12'.out, HB12.out⟩
      · have HEE := hidden (HNO.out (by have h := HBQ.out; simpa using h.symm))
        go_wp2_with fail
        go_ret3
        exact LDecR.err HEE.out HB12.out
end Go.Proofs.Ytjjeebaelpgjlaa
