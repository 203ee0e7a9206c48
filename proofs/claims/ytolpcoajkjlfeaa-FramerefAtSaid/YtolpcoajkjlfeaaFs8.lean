/-
  Package frameref as it landed: At. Nothing that was there is changed.
-/
import Derived.Test.YtolpcoajkjlfeaaFs7
namespace Go.Proofs.Ytolpcoajkjlfeaa
open Go.RowKit
set_option linter.unusedVariables false
set_option linter.unusedSimpArgs false

def AtRel8 (w : World) (f : Nat) (FR : List Value) (b : List UInt8) (V M : Nat) (i : Int) (r : Nat × Int) (p d k : Value) (wr : World) : Prop :=
  ∃ (j : Nat) (q : Int) (y : Nat), j ≤ M ∧ k = .int .i64 (j : Int) ∧ p = .int .i64 q ∧ d = .int .u64 (y : Int) ∧ 0 ≤ q ∧ q ≤ b.length ∧ y < 18446744073709551616 ∧ excA b V i (M - j) q y = r ∧
    Row wr f 56 FR ∧ Below w.heap.size w wr
set_option maxRecDepth 20000 in
set_option maxHeartbeats 8000000 in
theorem latF_any (A : Option Addr) (c : Nat) (b : List UInt8) (o n i : Int) (w : World) (hb : IsBytes w (.slice A b.length c) b) (hlc : b.length ≤ c) (hl : b.length ≤ 1048576) (h63 : -9223372036854775808 ≤ o) (h64 : o ≤ 9223372036854775807) (hi63 : -9223372036854775808 ≤ i) (hi64 : i ≤ 9223372036854775807) :
    Calls Try.prog 19 #[.slice A b.length c, .int .i64 o, .int .i64 n, .int .i64 i] w fun e w' => e = .returned (.tuple #[.int .i64 (atV b o n i).1, .int .i64 (atV b o n i).2]) ∧ Grows w w' := by
  have HV := hidden hb
  have HRF := hidden (readFrame_any A c b o n w hb hlc hl h63 h64)
  clear hb
  obtain ⟨z, Wi, Mi, Pi, e1, hfr⟩ : ∃ z Wi Mi Pi e1, frD b o n = (z, Wi, Mi, Pi, e1) := ⟨_, _, _, _, _, rfl⟩
  rw [hfr] at HRF
  by_cases he : e1 = 0
  rotate_left
  · have HE := hidden (atV_e1 (i := i) hfr he)
    have hd : (e1 != 0) = true := by simpa using he
    have HNE := hidden he
    clear hfr he
    go_enter Try.func19, Try.ntmps19
    go_wp2_with fail
    refine HRF.out.mono ?_
    rintro e w1 ⟨hg1, ⟨_, rfl⟩ | ⟨h0, _⟩⟩
    · have HG1 := hidden (Grows.of_below hg1 ((Below.refl w1.heap.size w1).alloc (Nat.le_refl _) (.cells #[.int .i64 0, .int .i64 0, .int .i64 0, .slice none 0 0] 56)))
      clear hg1
      go_wp2_with fail
      go_ret2
      exact ⟨by rw [HE.out]; rfl, HG1.out⟩
    · exact absurd h0 HNE.out
  subst he
  obtain ⟨⟨hn0, hn1⟩, ⟨hz0, hz1⟩, ⟨hw0, hw1⟩, ⟨hm0, hm1⟩, ⟨ho0, ho1⟩, hps⟩ := frD_bd hfr
  obtain ⟨N, rfl⟩ := Int.eq_ofNat_of_zero_le hn0
  obtain ⟨V, rfl⟩ := Int.eq_ofNat_of_zero_le hw0
  obtain ⟨M, rfl⟩ := Int.eq_ofNat_of_zero_le hm0
  obtain ⟨O, rfl⟩ := Int.eq_ofNat_of_zero_le ho0
  obtain ⟨P, rfl⟩ := Int.eq_ofNat_of_zero_le (a := Pi) (by omega)
  have HFR := hidden hfr
  have hnn : (N : Int).toNat = N := Int.toNat_natCast N
  have hvv : (V : Int).toNat = V := Int.toNat_natCast V
  rw [hnn, hvv] at hps
  obtain ⟨s, hs⟩ : ∃ s, s = szB N V := ⟨_, rfl⟩
  rw [← hs] at hps
  obtain ⟨E, hE⟩ : ∃ E, E = P + s := ⟨_, rfl⟩
  have hPE : (P : Int) + (s : Int) = (E : Int) := by omega
  have hEb : E ≤ b.length := by omega
  obtain ⟨pk, hpk⟩ : ∃ pk, pk = packedD b (P : Int) N V := ⟨_, rfl⟩
  have HRF2 := hidden (show Calls Try.prog 28 #[.slice A b.length c, .int .i64 (O : Int), .int .i64 (N : Int)] w (fun e w' => Grows w w' ∧ ∃ AP cP, IsBytes w (.slice AP pk.length cP) pk ∧
      e = .returned (.tuple #[.agg #[.int .i64 (uz z), .int .i64 (V : Int), .int .i64 (M : Int), .slice AP pk.length cP], .int .i64 (E : Int), .int .i64 0])) from HRF.out.mono fun e w' h => by
    obtain ⟨h1, ⟨h2, _⟩ | ⟨_, AP, cP, h3, h4⟩⟩ := h
    · exact absurd rfl h2
    · simp only [hnn, hvv] at h3 h4
      rw [← hs, ← hpk, hPE] at h4
      rw [← hpk] at h3
      exact ⟨h1, AP, cP, h3, h4⟩)
  clear HRF
  have HPKL := hidden (show pk.length ≤ 1048576 by rw [hpk]; unfold packedD; rw [List.length_take, List.length_drop]; omega)
  have HA2 := hidden (fun (h : i < 0 ∨ (N : Int) ≤ i) => atV_e2 HFR.out h)
  have HA3 := hidden (fun (d : Nat) (f : Int) (hi : ¬ (i < 0 ∨ (N : Int) ≤ i)) (h : excA b V i M (E : Int) (atB pk i (V : Int)) = (d, f)) (hf : f ≠ 0) => atV_e3 (b := b) (o := (O : Int)) (n := (N : Int)) (i := i) (f := f) (d := d) HFR.out hi (by rw [hnn, hvv, Int.toNat_natCast, ← hs, hPE, ← hpk]; exact h) hf)
  have HA4 := hidden (fun (d : Nat) (hi : ¬ (i < 0 ∨ (N : Int) ≤ i)) (h : excA b V i M (E : Int) (atB pk i (V : Int)) = (d, 0)) => atV_ok (b := b) (o := (O : Int)) (n := (N : Int)) (i := i) (d := d) HFR.out hi (by rw [hnn, hvv, Int.toNat_natCast, ← hs, hPE, ← hpk]; exact h))
  clear hfr hs hE hpk hnn hvv hps hw0 hm0 hn0 ho0 hPE
  by_cases hi0 : i < 0
  · have HAN := hidden (HA2.out (.inl hi0))
    have hd : decide (i < 0) = true := by simpa using hi0
    clear hi0
    go_enter Try.func19, Try.ntmps19
    go_wp2_with fail
    refine HRF2.out.mono ?_
    rintro e w1 ⟨hg1, AP, cP, hup, rfl⟩
    have HG1 := hidden (Grows.of_below hg1 ((Below.refl w1.heap.size w1).alloc (Nat.le_refl _) (.cells #[.int .i64 (uz z), .int .i64 (V : Int), .int .i64 (M : Int), .slice AP pk.length cP] 56)))
    clear hg1 hup
    go_wp2_with fail
    go_ret2
    exact ⟨by rw [HAN.out]; rfl, HG1.out⟩
  have di0 : decide (i < 0) = false := by simpa using hi0
  obtain ⟨J, rfl⟩ := Int.eq_ofNat_of_zero_le (a := i) (by omega)
  by_cases hi1 : N ≤ J
  · have HAN := hidden (HA2.out (.inr (by omega)))
    have hd : decide (N ≤ J) = true := by simpa using hi1
    clear hi1 hi0
    go_enter Try.func19, Try.ntmps19
    go_wp2_with fail
    refine HRF2.out.mono ?_
    rintro e w1 ⟨hg1, AP, cP, hup, rfl⟩
    have HG1 := hidden (Grows.of_below hg1 ((Below.refl w1.heap.size w1).alloc (Nat.le_refl _) (.cells #[.int .i64 (uz z), .int .i64 (V : Int), .int .i64 (M : Int), .slice AP pk.length cP] 56)))
    clear hg1 hup
    go_wp2_with fail
    go_ret2
    exact ⟨by rw [HAN.out]; rfl, HG1.out⟩
  have di1 : decide (N ≤ J) = false := by simpa using hi1
  have HNI := hidden (show ¬ ((J : Int) < 0 ∨ (N : Int) ≤ (J : Int)) by omega)
  have HAT := hidden (fun A' c' w' hv' => at_any A' c' pk (J : Int) (V : Int) w' hv' (by have := HPKL.out; omega))
  have HA3' := hidden (fun (d : Nat) (f : Int) h hf => HA3.out d f HNI.out h hf)
  have HA4' := hidden (fun (d : Nat) h => HA4.out d HNI.out h)
  have hy0 : atB pk (J : Int) (V : Int) < 18446744073709551616 := by
    unfold atB
    split
    · exact Nat.lt_of_lt_of_le (numB_lt _ _ _) (Nat.le_trans (Nat.pow_le_pow_right (by decide) (show (V : Int).toNat ≤ 64 by omega)) (by decide))
    · decide
  generalize atB pk (J : Int) (V : Int) = y0 at *
  obtain ⟨r, hr⟩ : ∃ r, r = excA b V (J : Int) M (E : Int) y0 := ⟨_, rfl⟩
  rw [← hr] at HA3' HA4'
  have HRE := hidden hr
  have hwJ : IntKind.u64.wrap (J : Int) = (J : Int) := by rw [IntKind.wrap_u64]; omega
  clear hr HA2 HA3 HA4 hi0 hi1
  go_enter Try.func19, Try.ntmps19
  go_wp2_with fail
  refine HRF2.out.mono ?_
  rintro e w1 ⟨hg1, AP, cP, hup, rfl⟩
  have HUP := hidden hup
  obtain ⟨f, hf⟩ : ∃ f, f = w1.heap.size := ⟨_, rfl⟩
  obtain ⟨FR, hFR⟩ : ∃ FR : List Value, FR = [.int .i64 (uz z), .int .i64 (V : Int), .int .i64 (M : Int), .slice AP pk.length cP] := ⟨_, rfl⟩
  have hr2 := Row.at_ w1 56 #[.int .i64 (uz z), .int .i64 (V : Int), .int .i64 (M : Int), .slice AP pk.length cP] FR (by rw [hFR]) f hf
  have hg2 := hg1.alloc hg1.size (.cells #[.int .i64 (uz z), .int .i64 (V : Int), .int .i64 (M : Int), .slice AP pk.length cP] 56)
  have HF2 := hidden hr2
  have HG2 := hidden hg2
  have HFRE := hidden hFR
  have c1 := hr2.cell 1
  have c2 := hr2.cell 2
  have c3 := hr2.cell 3
  rw [hFR] at c1 c2 c3
  simp only [List.getElem?_cons_succ, List.getElem?_cons_zero] at c1 c2 c3
  have hf' := hf.symm
  clear hr2 hg2 hup hg1 hFR hf
  go_wp2_with fail
  generalize w1.alloc (.cells #[.int .i64 (uz z), .int .i64 (V : Int), .int .i64 (M : Int), .slice AP pk.length cP] 56) = w2 at *
  refine (HAT.out _ _ w2 (HUP.out.grow HG2.out)).mono ?_
  rintro e w' ⟨rfl, rfl⟩
  go_wp2_with fail
  clear c1 c2 c3 hf'
  go_loopw [11, 13, 43] (fun p d k wr => AtRel8 w f FR b V M (J : Int) r p d k wr) (fun _ _ k _ => M - (intOf k).toNat)
  case atStart => exact ⟨0, (E : Int), y0, by omega, rfl, rfl, rfl, by omega, by omega, hy0, HRE.out.symm, HF2.out, HG2.out⟩
  case round =>
    obtain ⟨j, q, y, hj, rfl, rfl, rfl, hq0, hq1, hyU, hdr, hfr, hbw⟩ := hrel
    have HB2 := hidden hbw
    have HF3 := hidden hfr
    have HDR2 := hidden hdr
    have cf0 := hfr.cell 0
    have cf1 := hfr.cell 1
    rw [HFRE.out] at cf0 cf1
    simp only [List.getElem?_cons_succ, List.getElem?_cons_zero] at cf0 cf1
    clear hfr hbw hdr HF2 HG2
    by_cases hlt2 : j < M
    · obtain ⟨I, X, p1, e1, hx⟩ : ∃ I X p1 e1, exnD b q = (I, X, p1, e1) := ⟨_, _, _, _, rfl⟩
      obtain ⟨⟨hi0, hi1⟩, ⟨hx0, hx1⟩, hpb⟩ := exnD_bd hq0 hq1 hx
      have HRX := hidden (readException_any A c b q wr (HV.out.grow HB2.out) hl (by omega) (by omega))
      rw [hx] at HRX
      obtain ⟨fu, hfu⟩ : ∃ fu, M - j = fu + 1 := ⟨M - j - 1, by omega⟩
      have HNX := hidden (excA_exn (w := V) (k := fu) (d := y) (j := (J : Int)) hx)
      have HDX := HDR2.out
      rw [hfu, HNX.out] at HDX
      have HNJ := hidden (show M - (j + 1) = fu by omega)
      clear hx hfu HNX
      obtain ⟨I, rfl⟩ := Int.eq_ofNat_of_zero_le hi0
      obtain ⟨X, rfl⟩ := Int.eq_ofNat_of_zero_le hx0
      by_cases he1 : e1 = 0
      rotate_left
      · rw [if_pos he1] at HDX
        have HAN := hidden (HA3'.out 0 e1 HDX.symm he1)
        have hd : (e1 != 0) = true := by simpa using he1
        clear HDX he1 hpb cf0 cf1
        go_wp2_with fail
        refine HRX.out.mono ?_
        rintro e w5 ⟨rfl, hg5⟩
        have HG5 := hidden (Grows.of_below HB2.out (Grows.of_below hg5 ((Below.refl w5.heap.size w5).alloc (Nat.le_refl _) (.cells #[.int .u64 (I : Int), .int .u64 (X : Int)] 61))))
        clear hg5
        go_wp2_with fail
        go_ret2
        exact ⟨by rw [HAN.out]; rfl, HG5.out⟩
      subst he1
      rw [if_neg (by simp)] at HDX
      obtain ⟨hp1, hp2⟩ := hpb rfl
      clear hpb
      have HSTEP := hidden (show ∀ w5, Grows wr w5 → Row (w5.alloc (.cells #[.int .u64 (I : Int), .int .u64 (X : Int)] 61)) f 56 FR ∧ Below w.heap.size w (w5.alloc (.cells #[.int .u64 (I : Int), .int .u64 (X : Int)] 61)) from fun w5 h => by
        have hg : Grows w5 (w5.alloc (.cells #[.int .u64 (I : Int), .int .u64 (X : Int)] 61)) := (Below.refl w5.heap.size w5).alloc (Nat.le_refl _) _
        exact ⟨Row.grow HF3.out (Grows.of_below h hg), Grows.of_below HB2.out (Grows.of_below h hg)⟩)
      clear cf0 cf1
      rcases Nat.lt_trichotomy I J with hIJ | hIJ | hIJ
      · rw [if_pos (by omega)] at HDX
        have HDX2 := hidden HDX
        have he : ((I : Int) == (J : Int)) = false := by simp; omega
        have hd : decide (J ≤ I) = false := by simp; omega
        clear HDX
        go_wp2_with fail
        refine HRX.out.mono ?_
        rintro e w5 ⟨rfl, hg5⟩
        obtain ⟨hf5, hb5⟩ := HSTEP.out w5 hg5
        have hr5 := Row.new w5 61 #[.int .u64 (I : Int), .int .u64 (X : Int)] [.int .u64 (I : Int), .int .u64 (X : Int)] rfl
        have c0 := hr5.cell 0
        have c1 := hr5.cell 1
        have cf0 := hf5.cell 0
        have cf1 := hf5.cell 1
        rw [HFRE.out] at cf0 cf1
        simp only [List.getElem?_cons_succ, List.getElem?_cons_zero] at c0 c1 cf0 cf1
        have HF5 := hidden hf5
        have HB5 := hidden hb5
        clear hg5 hr5 hf5 hb5
        go_wp2_with fail
        refine ⟨⟨j + 1, p1, y, by omega, by go_num, rfl, rfl, by omega, by omega, hyU, by rw [HNJ.out]; exact HDX2.out, HF5.out, HB5.out⟩, by simp [intOf]; omega⟩
      · rw [if_neg (by omega), if_pos (by omega), Int.toNat_natCast] at HDX
        subst hIJ
        have he : ((I : Int) == (I : Int)) = true := by simp
        have hd : decide (I ≤ I) = true := by simp
        obtain ⟨sv, hsv⟩ : ∃ sv, sv = X * 2 ^ V % 18446744073709551616 := ⟨_, rfl⟩
        have hsU : sv < 18446744073709551616 := by rw [hsv]; exact Nat.mod_lt _ (by decide)
        have hsh := shl_wrapN (h := X) (W := V)
        rw [← hsv] at hsh HDX
        have hor := u64_or' hyU hsU
        obtain ⟨zz_, hzz⟩ : ∃ zz_, zz_ = y ||| sv := ⟨_, rfl⟩
        rw [← hzz] at hor HDX
        have HAN := hidden (HA4'.out zz_ HDX.symm)
        obtain ⟨dw, hdw⟩ : ∃ dw, IntKind.i64.wrap (zz_ : Int) = dw := ⟨_, rfl⟩
        have hvp := val_prog z zz_
        rw [hdw] at hvp
        obtain ⟨ve, hve⟩ : ∃ ve, ve = valV z zz_ := ⟨_, rfl⟩
        rw [← hve] at hvp
        have HVE := hidden hve
        clear hve
        clear HDX hsv hzz
        go_wp2_with fail
        refine HRX.out.mono ?_
        rintro e w5 ⟨rfl, hg5⟩
        obtain ⟨hf5, hb5⟩ := HSTEP.out w5 hg5
        have hr5 := Row.new w5 61 #[.int .u64 (I : Int), .int .u64 (X : Int)] [.int .u64 (I : Int), .int .u64 (X : Int)] rfl
        have c0 := hr5.cell 0
        have c1 := hr5.cell 1
        have cf0 := hf5.cell 0
        have cf1 := hf5.cell 1
        rw [HFRE.out] at cf0 cf1
        simp only [List.getElem?_cons_succ, List.getElem?_cons_zero] at c0 c1 cf0 cf1
        have HF5 := hidden hf5
        have HB5 := hidden hb5
        clear hg5 hr5 hf5 hb5
        go_wp2_with fail
        go_ret2
        exact ⟨by rw [HAN.out, HVE.out]; rfl, HB5.out⟩
      · rw [if_neg (by omega), if_neg (by omega)] at HDX
        have he : ((I : Int) == (J : Int)) = false := by simp; omega
        have hd : decide (J ≤ I) = true := by simp; omega
        have HAN := hidden (HA4'.out y HDX.symm)
        obtain ⟨dw, hdw⟩ : ∃ dw, IntKind.i64.wrap (y : Int) = dw := ⟨_, rfl⟩
        have hvp := val_prog z y
        rw [hdw] at hvp
        obtain ⟨ve, hve⟩ : ∃ ve, ve = valV z y := ⟨_, rfl⟩
        rw [← hve] at hvp
        have HVE := hidden hve
        clear hve
        clear HDX
        go_wp2_with fail
        refine HRX.out.mono ?_
        rintro e w5 ⟨rfl, hg5⟩
        obtain ⟨hf5, hb5⟩ := HSTEP.out w5 hg5
        have hr5 := Row.new w5 61 #[.int .u64 (I : Int), .int .u64 (X : Int)] [.int .u64 (I : Int), .int .u64 (X : Int)] rfl
        have c0 := hr5.cell 0
        have c1 := hr5.cell 1
        have cf0 := hf5.cell 0
        have cf1 := hf5.cell 1
        rw [HFRE.out] at cf0 cf1
        simp only [List.getElem?_cons_succ, List.getElem?_cons_zero] at c0 c1 cf0 cf1
        have HF5 := hidden hf5
        have HB5 := hidden hb5
        clear hg5 hr5 hf5 hb5
        go_wp2_with fail
        go_ret2
        exact ⟨by rw [HAN.out, HVE.out]; rfl, HB5.out⟩
    · have HAN := hidden (HA4'.out y (by
        have h := HDR2.out
        rw [show M - j = 0 by omega, excA] at h
        exact h.symm))
      obtain ⟨dw, hdw⟩ : ∃ dw, IntKind.i64.wrap (y : Int) = dw := ⟨_, rfl⟩
      have hvp := val_prog z y
      rw [hdw] at hvp
      obtain ⟨ve, hve⟩ : ∃ ve, ve = valV z y := ⟨_, rfl⟩
      rw [← hve] at hvp
      have HVE := hidden hve
      clear hve
      go_wp2_with fail
      go_ret2
      exact ⟨by rw [HAN.out, HVE.out]; rfl, HB2.out⟩
end Go.Proofs.Ytolpcoajkjlfeaa
