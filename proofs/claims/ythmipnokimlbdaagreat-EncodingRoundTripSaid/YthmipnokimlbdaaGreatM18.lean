/-
  Texts that the claims of this seat share, put together (Fs7, Ds1, Ds4). No condition.
-/
import Derived.Test.YthmipnokimlbdaaGreatM14
import Derived.Test.YthmipnokimlbdaaGreatM1
import Derived.Test.YthmipnokimlbdaaGreatBq4
import Derived.Test.YthmipnokimlbdaaGreatM13
import Derived.Test.YthmipnokimlbdaaGreatM5
import Derived.Test.YthmipnokimlbdaaGreatM3
/-
  Shaken: what the claims of this seat need of this text. No condition.
-/
namespace Go.Proofs.YthmipnokimlbdaaGreat
set_option maxRecDepth 20000
open Go.RowKit
set_option linter.unusedVariables false
set_option linter.unusedSimpArgs false
def LDecR (r : List Int × Int × Int) (w : World) (e : Ending) (w' : World) : Prop :=
  ∃ v, e = .returned (.tuple #[v, .int .i64 r.2.1, .int .i64 r.2.2]) ∧ IsI w' v r.1 ∧ Grows w w'
def LDecF (r : List Int × Int × Int) (w : World) (e : Ending) (w' : World) : Prop :=
  ∃ v, e = .returned (.tuple #[v, .int .i64 r.2.1, .int .i64 r.2.2]) ∧ IsI w' v r.1 ∧ Grows w w' ∧ FreshI w.heap.size w' v
theorem LDecF.err {r : List Int × Int × Int} {f : Int} {w w' : World} (h : r = ([], 0, f)) (hb : Grows w w') : LDecF r w (.returned (.tuple #[.slice none 0 0, .int .i64 0, .int .i64 f])) w' := by
  subst h
  exact ⟨_, rfl, Reads.nil_ _ 0, hb, FreshI.none_ _ _ _ _⟩
theorem LDecF.old {r : List Int × Int × Int} {w : World} {e : Ending} {w' : World} (h : LDecF r w e w') : LDecR r w e w' := by
  obtain ⟨v, h1, h2, h3, _⟩ := h
  exact ⟨v, h1, h2, h3⟩
theorem LDecR.err {r : List Int × Int × Int} {f : Int} {w w' : World} (h : r = ([], 0, f)) (hb : Grows w w') : LDecR r w (.returned (.tuple #[.slice none 0 0, .int .i64 0, .int .i64 f])) w' := by
  subst h
  exact ⟨_, rfl, Reads.nil_ _ 0, hb⟩
theorem frD_bd {b : List UInt8} {o n z W m p : Int} (h : frD b o n = (z, W, m, p, 0)) : (0 ≤ n ∧ n ≤ 65536) ∧ (0 ≤ z ∧ z ≤ 18446744073709551615) ∧ (0 ≤ W ∧ W ≤ 64) ∧ (0 ≤ m ∧ m ≤ n) ∧ (0 ≤ o ∧ o ≤ p) ∧ p + (szB n.toNat W.toNat : Nat) ≤ (b.length : Int) := by
  by_cases hn : n < 0 ∨ 65536 < n
  · rw [frD_a hn] at h
    simp only [Prod.mk.injEq] at h
    omega
  obtain ⟨z', p1, e1, h1⟩ : ∃ z p1 e1, dcd b o = (z, p1, e1) := ⟨_, _, _, rfl⟩
  have b1 := dcd_bd2 h1
  by_cases he1 : e1 = 0
  rotate_left
  · rw [frD_b hn h1 he1] at h
    simp only [Prod.mk.injEq] at h
    exact absurd h.2.2.2.2 he1
  subst he1
  obtain ⟨W', p2, e2, h2⟩ : ∃ W p2 e2, numD b p1 64 = (W, p2, e2) := ⟨_, _, _, rfl⟩
  have b2 := numD_bd h2
  by_cases he2 : e2 = 0
  rotate_left
  · rw [frD_c hn h1 h2 he2] at h
    simp only [Prod.mk.injEq] at h
    exact absurd h.2.2.2.2 he2
  subst he2
  obtain ⟨m', p3, e3, h3⟩ : ∃ m p3 e3, numD b p2 n = (m, p3, e3) := ⟨_, _, _, rfl⟩
  have b3 := numD_bd h3
  by_cases he3 : e3 = 0
  rotate_left
  · rw [frD_e hn h1 h2 h3 he3] at h
    simp only [Prod.mk.injEq] at h
    exact absurd h.2.2.2.2 he3
  subst he3
  have c1 := b1.2.2.1 rfl
  have c2 := b2 rfl
  have c3 := b3 rfl
  by_cases hs : (b.length : Int) - p3 < szB n.toNat W'.toNat
  · rw [frD_g hn h1 h2 h3 hs] at h
    simp only [Prod.mk.injEq] at h
    exact absurd h.2.2.2.2 (by decide)
  · rw [frD_ok hn h1 h2 h3 hs] at h
    simp only [Prod.mk.injEq] at h
    obtain ⟨rfl, rfl, rfl, rfl, _⟩ := h
    exact ⟨by omega, ⟨b1.1, b1.2.1⟩, ⟨c2.1, c2.2.1⟩, ⟨c3.1, c3.2.1⟩, ⟨by omega, by omega⟩, by omega⟩
def laidI (vs : List Int) (k : Nat) : List Int := vs.take k ++ List.replicate (vs.length - k) 0
theorem laidI_length (vs : List Int) {k : Nat} (h : k ≤ vs.length) : (laidI vs k).length = vs.length := by
  unfold laidI
  rw [List.length_append, List.length_take, List.length_replicate]
  omega
theorem laidI_set (vs : List Int) {k : Nat} (h : k < vs.length) : (laidI vs k).set k vs[k] = laidI vs (k + 1) := by
  unfold laidI
  have e : vs.length - k = (vs.length - (k + 1)) + 1 := by omega
  have hl : (vs.take k).length = k := by rw [List.length_take]; omega
  rw [e, List.replicate_succ, List.set_append_right _ _ (by omega), hl, Nat.sub_self, List.set_cons_zero, List.take_succ_eq_append_getElem h, List.append_assoc]
  rfl
theorem laidI_done (vs : List Int) : laidI vs vs.length = vs := by unfold laidI; simp
theorem icells_set (l : List Int) (j : Nat) (c : Int) : (icells l).set j (.int .i64 c) = icells (l.set j c) := by
  unfold icells
  rw [List.map_set]
theorem icells_zero (n : Nat) : List.replicate n (Value.int .i64 0) = icells (List.replicate n 0) := by
  unfold icells
  rw [List.map_replicate]
theorem val_prog (z : Int) (d : Nat) : IntKind.i64.wrap (uz z + IntKind.i64.wrap (d : Int)) = valV z d := by
  unfold valV
  rw [IntKind.wrap_i64, IntKind.wrap_i64, IntKind.wrap_i64]
  omega
theorem shl_wrapN {h W : Nat} : IntKind.u64.wrap ((h : Int) * 2 ^ W) = ((h * 2 ^ W % 18446744073709551616 : Nat) : Int) := by
  have e : ((2 : Int) ^ W) = ((2 ^ W : Nat) : Int) := by simp
  rw [e, IntKind.wrap_u64]
  generalize 2 ^ W = y at *
  rw [← Int.natCast_mul]
  omega
def D1Rel (w : World) (f g : Nat) (FR : List Value) (D : List Nat) (i : Value) (wr : World) : Prop :=
  ∃ k : Nat, k ≤ D.length ∧ i = .int .i64 (k : Int) ∧ Row wr g 85 (wcells (laid D k)) ∧ Row wr f 172 FR ∧ Below w.heap.size w wr
def D2Rel (w : World) (f g : Nat) (FR : List Value) (b : List UInt8) (V M N : Nat) (r : List Nat × Int × Int) (p i : Value) (wr : World) : Prop :=
  ∃ (k : Nat) (q : Int) (d : List Nat), k ≤ M ∧ i = .int .i64 (k : Int) ∧ p = .int .i64 q ∧ 0 ≤ q ∧ q ≤ b.length ∧ d.length = N ∧ U64 d ∧ excD b V (M - k) q d = r ∧
    Row wr g 85 (wcells d) ∧ Row wr f 172 FR ∧ Below w.heap.size w wr
def D3Rel (w : World) (f g v0 : Nat) (FR : List Value) (d : List Nat) (vs : List Int) (i : Value) (wr : World) : Prop :=
  ∃ k : Nat, k ≤ vs.length ∧ i = .int .i64 (k : Int) ∧ Row wr v0 2 (icells (laidI vs k)) ∧ Row wr g 85 (wcells d) ∧ Row wr f 172 FR ∧ Below w.heap.size w wr
set_option maxRecDepth 20000 in
set_option maxHeartbeats 8000000 in
theorem ldecodeFF_any (A : Option Addr) (c : Nat) (b : List UInt8) (o n : Int) (w : World) (hb : IsBytes w (.slice A b.length c) b) (hlc : b.length ≤ c) (hl : b.length ≤ 1048576) (h63 : -9223372036854775808 ≤ o) (h64 : o ≤ 9223372036854775807) :
    Calls Tryz.prog 89 #[.slice A b.length c, .int .i64 o, .int .i64 n] w (LDecF (decV b o n) w) := by
  have HV := hidden hb
  have HRF := hidden (readFrame_any A c b o n w hb hlc hl h63 h64)
  clear hb
  obtain ⟨z, Wi, Mi, Pi, e1, hfr⟩ : ∃ z Wi Mi Pi e1, frD b o n = (z, Wi, Mi, Pi, e1) := ⟨_, _, _, _, _, rfl⟩
  rw [hfr] at HRF
  by_cases he : e1 = 0
  rotate_left
  · have HE := hidden (decV_e1 hfr he)
    have hd : (e1 != 0) = true := by simpa using he
    have HNE := hidden he
    clear hfr he
    go_enter Tryz.func89, Tryz.ntmps89
    go_wp2_with fail
    refine HRF.out.mono ?_
    rintro e w1 ⟨hg1, ⟨_, rfl⟩ | ⟨h0, _⟩⟩
    · have HG1 := hidden (Grows.of_below hg1 ((Below.refl w1.heap.size w1).alloc (Nat.le_refl _) (.cells #[.int .i64 0, .int .i64 0, .int .i64 0, .slice none 0 0] 172)))
      clear hg1
      go_wp2_with fail
      go_ret3
      exact LDecF.err HE.out HG1.out
    · exact absurd h0 HNE.out
  subst he
  obtain ⟨⟨hn0, hn1⟩, ⟨hz0, hz1⟩, ⟨hw0, hw1⟩, ⟨hm0, hm1⟩, ⟨ho0, ho1⟩, hps⟩ := frD_bd hfr
  obtain ⟨N, rfl⟩ := Int.eq_ofNat_of_zero_le hn0
  obtain ⟨V, rfl⟩ := Int.eq_ofNat_of_zero_le hw0
  obtain ⟨M, rfl⟩ := Int.eq_ofNat_of_zero_le hm0
  obtain ⟨O, rfl⟩ := Int.eq_ofNat_of_zero_le ho0
  obtain ⟨P, rfl⟩ := Int.eq_ofNat_of_zero_le (a := Pi) (by omega)
  have HFR := hidden hfr
  have hmk := fun W' => run_make_oneM (P := Tryz.prog) 52 85 (.int .u64 0) 8 Tryz.underlying52 info_u64 rfl N (by omega) (by omega) W'
  have hmi := fun W' => run_make_oneM (P := Tryz.prog) 22 2 (.int .i64 0) 8 Tryz.underlying22 info_i64 rfl N (by omega) (by omega) W'
  have hnn : (N : Int).toNat = N := Int.toNat_natCast N
  have hvv : (V : Int).toNat = V := Int.toNat_natCast V
  rw [hnn, hvv] at hps
  obtain ⟨s, hs⟩ : ∃ s, s = szB N V := ⟨_, rfl⟩
  have HS := hidden hs
  rw [← hs] at hps
  obtain ⟨E, hE⟩ : ∃ E, E = P + s := ⟨_, rfl⟩
  have hPE : (P : Int) + (s : Int) = (E : Int) := by omega
  have hEb : E ≤ b.length := by omega
  obtain ⟨pk, hpk⟩ : ∃ pk, pk = packedD b (P : Int) N V := ⟨_, rfl⟩
  have HRF2 := hidden (show Calls Tryz.prog 152 #[.slice A b.length c, .int .i64 (O : Int), .int .i64 (N : Int)] w (fun e w' => Grows w w' ∧ ∃ AP cP, IsBytes w (.slice AP pk.length cP) pk ∧
      e = .returned (.tuple #[.agg #[.int .i64 (uz z), .int .i64 (V : Int), .int .i64 (M : Int), .slice AP pk.length cP], .int .i64 (E : Int), .int .i64 0])) from HRF.out.mono fun e w' h => by
    obtain ⟨h1, ⟨h2, _⟩ | ⟨_, AP, cP, h3, h4⟩⟩ := h
    · exact absurd rfl h2
    · simp only [hnn, hvv] at h3 h4
      rw [← hs, ← hpk, hPE] at h4
      rw [← hpk] at h3
      exact ⟨h1, AP, cP, h3, h4⟩)
  clear HRF
  have HPKL := hidden (show pk.length ≤ 1048576 by rw [hpk]; unfold packedD; rw [List.length_take, List.length_drop]; omega)
  have HLOW := hidden (show lowD b (P : Int) N V = (List.range N).map (fun (i : Nat) => atB pk (i : Int) (V : Int)) by
    unfold lowD
    rw [← hpk])
  obtain ⟨D, hD⟩ : ∃ D, D = lowD b (P : Int) N V := ⟨_, rfl⟩
  have HDL := hidden (show D.length = N by rw [hD, lowD_length])
  have HDU := hidden (show U64 D by rw [hD]; exact lowD_U64 _ _ _ _ (by omega))
  have HDG : Hid (∀ k, (h : k < D.length) → D[k] = atB pk (k : Int) (V : Int)) := fun k h => by
    have h1 : D[k]? = some (atB pk (k : Int) (V : Int)) := by
      rw [hD, HLOW.out, List.getElem?_map, List.getElem?_range (by have := HDL.out; omega)]
      rfl
    rw [List.getElem?_eq_getElem h] at h1
    injection h1
  have HE2 := hidden (fun (d : List Nat) (q f : Int) (h : excD b V M (E : Int) D = (d, q, f)) (hf : f ≠ 0) => decV_e2 (b := b) (o := (O : Int)) (n := (N : Int)) (q := q) (f := f) (d := d) HFR.out (by rw [hnn, hvv, Int.toNat_natCast, ← hs, hPE, ← hD]; exact h) hf)
  have HE3 := hidden (fun (d : List Nat) (q : Int) (h : excD b V M (E : Int) D = (d, q, 0)) (hf : encV (d.map (valV z)) ≠ (b.drop O).take (q - (O : Int)).toNat) => decV_e3 (b := b) (o := (O : Int)) (n := (N : Int)) (q := q) (d := d) HFR.out (by rw [hnn, hvv, Int.toNat_natCast, ← hs, hPE, ← hD]; exact h) (by rw [Int.toNat_natCast]; exact hf))
  have HOK := hidden (fun (d : List Nat) (q : Int) (h : excD b V M (E : Int) D = (d, q, 0)) (hf : encV (d.map (valV z)) = (b.drop O).take (q - (O : Int)).toNat) => decV_ok (b := b) (o := (O : Int)) (n := (N : Int)) (q := q) (d := d) HFR.out (by rw [hnn, hvv, Int.toNat_natCast, ← hs, hPE, ← hD]; exact h) (by rw [Int.toNat_natCast]; exact hf))
  have HPE := hidden hPE
  clear hfr hs hE hpk hD hnn hvv hps hw0 hm0 hn0 ho0 hPE
  go_enter Tryz.func89, Tryz.ntmps89
  go_wp2_with fail
  refine HRF2.out.mono ?_
  rintro e w1 ⟨hg1, AP, cP, hup, rfl⟩
  have HUP := hidden hup
  obtain ⟨f, hf⟩ : ∃ f, f = w1.heap.size := ⟨_, rfl⟩
  obtain ⟨FR, hFR⟩ : ∃ FR : List Value, FR = [.int .i64 (uz z), .int .i64 (V : Int), .int .i64 (M : Int), .slice AP pk.length cP] := ⟨_, rfl⟩
  have hr2 := Row.at_ w1 172 #[.int .i64 (uz z), .int .i64 (V : Int), .int .i64 (M : Int), .slice AP pk.length cP] FR (by rw [hFR]) f hf
  have hg2 := hg1.alloc hg1.size (.cells #[.int .i64 (uz z), .int .i64 (V : Int), .int .i64 (M : Int), .slice AP pk.length cP] 172)
  have hs2 := World.size_alloc w1 (.cells #[.int .i64 (uz z), .int .i64 (V : Int), .int .i64 (M : Int), .slice AP pk.length cP] 172)
  have hr3 := Row.at_ (w1.alloc (.cells #[.int .i64 (uz z), .int .i64 (V : Int), .int .i64 (M : Int), .slice AP pk.length cP] 172)) 85 (Array.replicate N (.int .u64 0)) (wcells (laid D 0)) (by
    unfold laid
    rw [List.take_zero, List.nil_append, Nat.sub_zero, HDL.out, ← wcells_zero, List.toArray_replicate]) (f + 1) (by rw [hs2, hf])
  have hgr : Grows (w1.alloc (.cells #[.int .i64 (uz z), .int .i64 (V : Int), .int .i64 (M : Int), .slice AP pk.length cP] 172)) ((w1.alloc (.cells #[.int .i64 (uz z), .int .i64 (V : Int), .int .i64 (M : Int), .slice AP pk.length cP] 172)).alloc (.cells (Array.replicate N (.int .u64 0)) 85)) := (Below.refl _ _).alloc (Nat.le_refl _) _
  have HR3 := hidden hr3
  have HF3 := hidden (Row.grow hr2 hgr)
  have HG3 := hidden (Grows.of_below hg2 hgr)
  have HWF := hidden (show w.heap.size ≤ f by rw [hf]; exact hg1.size)
  have HFF := hidden hf
  have HFRE := hidden hFR
  have hs2' : (w1.alloc (.cells #[.int .i64 (uz z), .int .i64 (V : Int), .int .i64 (M : Int), .slice AP pk.length cP] 172)).heap.size = f + 1 := by rw [hs2, hf]
  have cfr := hr2.cell 2
  rw [hFR] at cfr
  simp only [List.getElem?_cons_succ, List.getElem?_cons_zero] at cfr
  clear hr2 hg2 hs2 hr3 hgr hup hg1 hFR
  have hf' := hf.symm
  clear hf
  go_wp2_with fail
  generalize (w1.alloc (.cells #[.int .i64 (uz z), .int .i64 (V : Int), .int .i64 (M : Int), .slice AP pk.length cP] 172)).alloc (.cells (Array.replicate N (.int .u64 0)) 85) = w3 at *
  clear hs2' cfr hf' hmk
  go_loopw [33] (fun i wr => D1Rel w f (f + 1) FR D i wr) (fun i _ => N - (intOf i).toNat)
  case atStart => exact ⟨0, by omega, rfl, HR3.out, HF3.out, HG3.out⟩
  case round =>
    obtain ⟨k, hk, rfl, hrow, hfr, hbw⟩ := hrel
    have HB := hidden hbw
    have HR := hidden hrow
    have HF := hidden hfr
    have HUK := hidden (HUP.out.grow hbw)
    have c1 := hfr.cell 1
    have c3 := hfr.cell 3
    rw [HFRE.out] at c1 c3
    simp only [List.getElem?_cons_succ, List.getElem?_cons_zero] at c1 c3
    clear hrow hfr hbw
    by_cases hlt : k < N
    · have hkd : k < D.length := by have := HDL.out; omega
      have HLS := hidden (laid_set D hkd)
      have HAT := hidden (fun A' c' w' hv' => at_any A' c' pk (k : Int) (V : Int) w' hv' (by have := HPKL.out; omega))
      rw [HDG.out k hkd] at HLS
      generalize atB pk (k : Int) (V : Int) = y at *
      have hll : (laid D k).length = D.length := laid_length D hk
      obtain ⟨y0, hcell⟩ : ∃ y0 : Nat, wr.cell? ⟨f + 1, k, none⟩ = some (.int .u64 (y0 : Int)) := ⟨_, by rw [HR.out.cell k, wcells_get (by rw [hll]; exact hkd)]⟩
      have hfrz := HR.out.frozen k
      have hr5 := HR.out.set_ k (.int .u64 (y : Int))
      rw [wcells_setN, HLS.out] at hr5
      have hf5 := HF.out.other (a := ⟨f + 1, k, none⟩) (by show f + 1 ≠ f; omega) (.int .u64 (y : Int))
      have hb5 := HB.out.setCell (p := ⟨f + 1, k, none⟩) (by show w.heap.size ≤ f + 1; have := HWF.out; omega) (.int .u64 (y : Int))
      have HR5 := hidden hr5
      have HF5 := hidden hf5
      have HB5 := hidden hb5
      clear hll hr5 hf5 hb5 hkd
      go_wp2_with fail
      refine (HAT.out _ _ wr HUK.out).mono ?_
      rintro e w' ⟨rfl, rfl⟩
      go_wp2_with fail
      refine ⟨⟨k + 1, by have := HDL.out; omega, by go_num, HR5.out, HF5.out, HB5.out⟩, by simp [intOf]; omega⟩
    · have hkn : k = D.length := by have := HDL.out; omega
      rw [hkn, laid_done] at HR
      clear hkn
      have c2 := HF.out.cell 2
      rw [HFRE.out] at c2
      simp only [List.getElem?_cons_succ, List.getElem?_cons_zero] at c2
      obtain ⟨r, hr⟩ : ∃ r, r = excD b V M (E : Int) D := ⟨_, rfl⟩
      have HRE := hidden hr
      clear hr
      go_wp2_with fail
      clear c1 c2 c3
      go_loopw [10, 48] (fun p i wr => D2Rel w f (f + 1) FR b V M N r p i wr) (fun _ i _ => M - (intOf i).toNat)
      case atStart => exact ⟨0, (E : Int), D, by omega, rfl, rfl, by omega, by omega, HDL.out, HDU.out, HRE.out.symm, HR.out, HF.out, HB.out⟩
      case round =>
        obtain ⟨j, q, d, hj, rfl, rfl, hq0, hq1, hdl, hdU, hdr, hrow, hfr, hbw⟩ := hrel
        have HB2 := hidden hbw
        have HR2 := hidden hrow
        have HF2 := hidden hfr
        have HDL2 := hidden hdl
        have HDU2 := hidden hdU
        have HDR2 := hidden hdr
        clear hrow hfr hbw hdl hdU hdr HR HF HB HUK
        by_cases hlt2 : j < M
        · obtain ⟨I, X, p1, e1, hx⟩ : ∃ I X p1 e1, exnD b q = (I, X, p1, e1) := ⟨_, _, _, _, rfl⟩
          obtain ⟨⟨hi0, hi1⟩, ⟨hx0, hx1⟩, hpb⟩ := exnD_bd hq0 hq1 hx
          have HRX := hidden (readException_any A c b q wr (HV.out.grow HB2.out) hl (by omega) (by omega))
          rw [hx] at HRX
          obtain ⟨fu, hfu⟩ : ∃ fu, M - j = fu + 1 := ⟨M - j - 1, by omega⟩
          have HNX := hidden (excD_exn (w := V) (k := fu) (d := d) hx)
          have HDX := HDR2.out
          rw [hfu, HNX.out] at HDX
          have HNJ := hidden (show M - (j + 1) = fu by omega)
          clear hx hfu HNX
          obtain ⟨I, rfl⟩ := Int.eq_ofNat_of_zero_le hi0
          obtain ⟨X, rfl⟩ := Int.eq_ofNat_of_zero_le hx0
          by_cases he1 : e1 = 0
          rotate_left
          · rw [if_pos he1] at HDX
            have HEE := hidden (HE2.out _ _ _ (by rw [← HRE.out, ← HDX]) he1)
            have hd : (e1 != 0) = true := by simpa using he1
            clear HDX he1 hpb
            go_wp2_with fail
            refine HRX.out.mono ?_
            rintro e w5 ⟨rfl, hg5⟩
            have HG5 := hidden (Grows.of_below HB2.out (Grows.of_below hg5 ((Below.refl w5.heap.size w5).alloc (Nat.le_refl _) (.cells #[.int .u64 (I : Int), .int .u64 (X : Int)] 176))))
            clear hg5
            go_wp2_with fail
            go_ret3
            exact LDecF.err HEE.out HG5.out
          subst he1
          rw [if_neg (by simp)] at HDX
          obtain ⟨hp1, hp2⟩ := hpb rfl
          have HDX2 := hidden HDX
          have hwn : IntKind.u64.wrap (N : Int) = (N : Int) := by rw [IntKind.wrap_u64]; omega
          clear HDX hpb
          by_cases hin : I < N
          · have hdi : decide (I < N) = true := by simpa using hin
            have hIe : I < d.length := by have := HDL2.out; omega
            obtain ⟨y, hy⟩ : ∃ y, y = d[I] := ⟨_, rfl⟩
            have hyU : y < 18446744073709551616 := by rw [hy]; exact HDU2.out.get hIe
            obtain ⟨sv, hsv⟩ : ∃ sv, sv = X * 2 ^ V % 18446744073709551616 := ⟨_, rfl⟩
            have hsU : sv < 18446744073709551616 := by rw [hsv]; exact Nat.mod_lt _ (by decide)
            have hsh := shl_wrapN (h := X) (W := V)
            rw [← hsv] at hsh
            have hor := u64_or' hyU hsU
            obtain ⟨zz_, hzz⟩ : ∃ zz_, zz_ = y ||| sv := ⟨_, rfl⟩
            rw [← hzz] at hor
            have HPUT := hidden (show putD d (I : Int) (X : Int) V = d.set I zz_ by
              unfold putD
              rw [if_pos (by have := HDL2.out; omega), Int.toNat_natCast, Int.toNat_natCast, ← hsv, List.getD_eq_getElem?_getD, List.getElem?_eq_getElem hIe, Option.getD_some, ← hy, ← hzz])
            have HPU := hidden (putD_U64 HDU2.out (I : Int) (X : Int) V)
            have hcy := HR2.out.cell I
            rw [wcells_get hIe, ← hy] at hcy
            have HCY := hidden (show ∀ w', Grows wr w' → w'.cell? ⟨f + 1, I, none⟩ = some (.int .u64 (y : Int)) from fun w' h => by
              rw [(Row.grow HR2.out h).cell I, wcells_get hIe, ← hy])
            have HCV := hidden (show ∀ w', Grows wr w' → w'.cell? ⟨f, 1, none⟩ = some (.int .i64 (V : Int)) from fun w' h => by
              rw [(Row.grow HF2.out h).cell 1, HFRE.out]; rfl)
            clear hy hsv hzz hcy hyU hsU hIe
            go_wp2_with fail
            refine HRX.out.mono ?_
            rintro e w5 ⟨rfl, hg5⟩
            have hr5 := Row.new w5 176 #[.int .u64 (I : Int), .int .u64 (X : Int)] [.int .u64 (I : Int), .int .u64 (X : Int)] rfl
            have hg6 : Grows wr (w5.alloc (.cells #[.int .u64 (I : Int), .int .u64 (X : Int)] 176)) := Grows.of_below hg5 ((Below.refl w5.heap.size w5).alloc (Nat.le_refl _) _)
            have c0 := hr5.cell 0
            have c1 := hr5.cell 1
            simp only [List.getElem?_cons_succ, List.getElem?_cons_zero] at c0 c1
            have HG6 := hidden hg6
            have HX : Hid (∀ w', Grows (w5.alloc (.cells #[.int .u64 (I : Int), .int .u64 (X : Int)] 176)) w' → w'.cell? ⟨w5.heap.size, 0, none⟩ = some (.int .u64 (I : Int)) ∧ w'.cell? ⟨w5.heap.size, 1, none⟩ = some (.int .u64 (X : Int)) ∧ w'.cell? ⟨f, 1, none⟩ = some (.int .i64 (V : Int)) ∧ w'.cell? ⟨f + 1, I, none⟩ = some (.int .u64 (y : Int))) := fun w' h =>
              ⟨(Row.grow hr5 h).cell 0, (Row.grow hr5 h).cell 1, HCV.out w' (Grows.of_below hg6 h), HCY.out w' (Grows.of_below hg6 h)⟩
            clear hg5 hr5 hg6
            go_wp2_with fail
            generalize w5.alloc (.cells #[.int .u64 (I : Int), .int .u64 (X : Int)] 176) = w6 at *
            clear c0 c1
            refine wp_region_loose_tail 11 (tabRs []) (by kernel_rfl) (by kernel_rfl) tabRs_nil ?_
            simp only [List.take_succ_cons, List.take_zero, List.drop_succ_cons, List.drop_zero]
            iterate 11 ((with_reducible refine loose_one (v := ?_) (a' := ?_) ?_ ?_ (fun w' hC' hG' => ?_) ?_ ?_); rotate_left 2; (focus rfl); (focus rfl); (focus (obtain ⟨x0, x1, x2, x3⟩ := HX.out w' hC'; clear hC' hG'; go_simp; rfl)); (focus (go_simp; rfl)))
            refine loose_done (fun w7 hC' hG' => ?_)
            clear hG'
            have r7 := Row.grow HR2.out (Grows.of_below HG6.out hC')
            have c7 := r7.cell I
            obtain ⟨y7, hy7⟩ : ∃ y7 : Nat, w7.cell? ⟨f + 1, I, none⟩ = some (.int .u64 (y7 : Int)) := ⟨y, (HX.out w7 hC').2.2.2⟩
            have fz7 := r7.frozen I
            have r8 := r7.set_ I (.int .u64 (zz_ : Int))
            rw [wcells_setN] at r8
            have f8 := (Row.grow HF2.out (Grows.of_below HG6.out hC')).other (a := ⟨f + 1, I, none⟩) (by show f + 1 ≠ f; omega) (.int .u64 (zz_ : Int))
            have b8 := (Grows.of_below (Grows.of_below HB2.out HG6.out) hC').setCell (p := ⟨f + 1, I, none⟩) (by show w.heap.size ≤ f + 1; have := HWF.out; omega) (.int .u64 (zz_ : Int))
            have R8 := hidden r8
            have F8 := hidden f8
            have B8 := hidden b8
            clear r7 c7 r8 f8 b8 hC'
            go_wp2_with fail
            refine ⟨⟨j + 1, p1, d.set I zz_, by omega, by go_num, rfl, by omega, by omega, by rw [List.length_set]; exact HDL2.out, by rw [← HPUT.out]; exact HPU.out, by rw [HNJ.out, ← HPUT.out]; exact HDX2.out, R8.out, F8.out, B8.out⟩, by simp [intOf]; omega⟩
          · have hdi : decide (I < N) = false := by simpa using hin
            have HPUT := hidden (show putD d (I : Int) (X : Int) V = d by
              unfold putD
              rw [if_neg (by have := HDL2.out; omega)])
            clear hin
            go_wp2_with fail
            refine HRX.out.mono ?_
            rintro e w5 ⟨rfl, hg5⟩
            have hr5 := Row.new w5 176 #[.int .u64 (I : Int), .int .u64 (X : Int)] [.int .u64 (I : Int), .int .u64 (X : Int)] rfl
            have hg6 : Grows wr (w5.alloc (.cells #[.int .u64 (I : Int), .int .u64 (X : Int)] 176)) := Grows.of_below hg5 ((Below.refl w5.heap.size w5).alloc (Nat.le_refl _) _)
            have c0 := hr5.cell 0
            have c1 := hr5.cell 1
            simp only [List.getElem?_cons_succ, List.getElem?_cons_zero] at c0 c1
            have HG6 := hidden hg6
            clear hg5 hr5 hg6
            go_wp2_with fail
            refine ⟨⟨j + 1, p1, d, by omega, by go_num, rfl, by omega, by omega, HDL2.out, HDU2.out, by rw [HNJ.out, ← HPUT.out]; exact HDX2.out, Row.grow HR2.out HG6.out, Row.grow HF2.out HG6.out, Grows.of_below HB2.out HG6.out⟩, by simp [intOf]; omega⟩
        · have HRR := hidden (show excD b V M (E : Int) D = (d, q, 0) by
            have h := HDR2.out
            rw [show M - j = 0 by omega, excD, HRE.out] at h
            exact h.symm)
          obtain ⟨Q, rfl⟩ := Int.eq_ofNat_of_zero_le hq0
          have HE3' := hidden (HE3.out d (Q : Int) HRR.out)
          have HOK' := hidden (HOK.out d (Q : Int) HRR.out)
          have HEQ1 := hidden ((excD_bd (b := b) (w := V) M (E : Int) D d (Q : Int) (by omega) (by omega) HRR.out).1)
          obtain ⟨vs, hvs⟩ : ∃ vs, vs = d.map (valV z) := ⟨_, rfl⟩
          rw [← hvs] at HE3' HOK'
          have HVL := hidden (show vs.length = N by rw [hvs, List.length_map]; exact HDL2.out)
          have HVI : Hid (∀ x ∈ vs, frIn x) := by
            intro x hx
            rw [hvs, List.mem_map] at hx
            obtain ⟨y, _, rfl⟩ := hx
            exact valV_in z y
          have HVG : Hid (∀ k, (h : k < d.length) → (h2 : k < vs.length) → vs[k] = valV z d[k]) := fun k h h2 => by
            subst hvs
            rw [List.getElem_map]
          obtain ⟨v0, hv0⟩ : ∃ v0, v0 = wr.heap.size := ⟨_, rfl⟩
          have hr9 := Row.at_ wr 2 (Array.replicate N (.int .i64 0)) (icells (laidI vs 0)) (by
            unfold laidI
            rw [List.take_zero, List.nil_append, Nat.sub_zero, HVL.out, ← icells_zero, List.toArray_replicate]) v0 hv0
          have hg9 : Grows wr (wr.alloc (.cells (Array.replicate N (.int .i64 0)) 2)) := (Below.refl _ _).alloc (Nat.le_refl _) _
          have HR9 := hidden hr9
          have HD9 := hidden (Row.grow HR2.out hg9)
          have HF9 := hidden (Row.grow HF2.out hg9)
          have HB9 := hidden (Grows.of_below HB2.out hg9)
          have HV0 := hidden (show f + 1 < v0 by rw [hv0]; exact HR2.out.lt)
          have hv0' := hv0.symm
          have HHQ := hidden hq1
          clear hr9 hg9 hvs hv0
          go_wp2_with fail
          generalize wr.alloc (.cells (Array.replicate N (.int .i64 0)) 2) = w9 at *
          clear hv0' hmi
          go_loopw [82] (fun i wr => D3Rel w f (f + 1) v0 FR d vs i wr) (fun i _ => N - (intOf i).toNat)
          case atStart => exact ⟨0, by omega, rfl, HR9.out, HD9.out, HF9.out, HB9.out⟩
          case round =>
            obtain ⟨i, hi, rfl, hrow, hrd, hfr, hbw⟩ := hrel
            have HB10 := hidden hbw
            have HR10 := hidden hrow
            have HD10 := hidden hrd
            have HF10 := hidden hfr
            have hv0l := HV0.out
            clear hrow hrd hfr hbw HR9 HD9 HF9 HB9
            by_cases hlt3 : i < N
            · have hid : i < d.length := by have := HDL2.out; omega
              have hiv : i < vs.length := by have := HVL.out; omega
              have hvg := HVG.out i hid hiv
              have HLS := hidden (laidI_set vs hiv)
              rw [hvg] at HLS
              have HX : Hid (∀ w', Grows wr w' → w'.cell? ⟨f, 0, none⟩ = some (.int .i64 (uz z)) ∧ w'.cell? ⟨f + 1, i, none⟩ = some (.int .u64 (d[i] : Int))) := fun w' h =>
                ⟨by rw [(Row.grow HF10.out h).cell 0, HFRE.out]; rfl, by rw [(Row.grow HD10.out h).cell i, wcells_get hid]⟩
              have hvp := val_prog z d[i]
              generalize hve : valV z d[i] = ve at *
              generalize hye : d[i] = y at *
              obtain ⟨dw, hdw⟩ : ∃ dw, IntKind.i64.wrap (y : Int) = dw := ⟨_, rfl⟩
              rw [hdw] at hvp
              have hll : (laidI vs i).length = vs.length := laidI_length vs hi
              clear hvg hve hye hid
              go_wp2_with fail
              refine wp_region_loose_tail 10 (tabRs []) (by kernel_rfl) (by kernel_rfl) tabRs_nil ?_
              simp only [List.take_succ_cons, List.take_zero, List.drop_succ_cons, List.drop_zero]
              iterate 10 ((with_reducible refine loose_one (v := ?_) (a' := ?_) ?_ ?_ (fun w' hC' hG' => ?_) ?_ ?_); rotate_left 2; (focus rfl); (focus rfl); (focus (obtain ⟨x0, x1⟩ := HX.out w' hC'; clear hC' hG'; go_simp; rfl)); (focus (go_simp; rfl)))
              refine loose_done (fun w11 hC' hG' => ?_)
              clear hG'
              have r11 := Row.grow HR10.out hC'
              obtain ⟨y11, hy11⟩ : ∃ y11 : Int, w11.cell? ⟨v0, i, none⟩ = some (.int .i64 y11) := ⟨_, by rw [r11.cell i, icells_get (by rw [hll]; exact hiv)]⟩
              have fz11 := r11.frozen i
              have r12 := r11.set_ i (.int .i64 ve)
              rw [icells_set, HLS.out] at r12
              have d12 := (Row.grow HD10.out hC').other (a := ⟨v0, i, none⟩) (by show v0 ≠ f + 1; omega) (.int .i64 ve)
              have f12 := (Row.grow HF10.out hC').other (a := ⟨v0, i, none⟩) (by show v0 ≠ f; omega) (.int .i64 ve)
              have b12 := (Grows.of_below HB10.out hC').setCell (p := ⟨v0, i, none⟩) (by show w.heap.size ≤ v0; have := HWF.out; omega) (.int .i64 ve)
              have R12 := hidden r12
              have D12 := hidden d12
              have F12 := hidden f12
              have B12 := hidden b12
              clear r11 r12 d12 f12 b12 hC' hll hiv
              go_wp2_with fail
              refine ⟨⟨i + 1, by have := HVL.out; omega, by go_num, R12.out, D12.out, F12.out, B12.out⟩, by simp [intOf]; omega⟩
            · have hin : i = vs.length := by have := HVL.out; omega
              have HRV := HR10.out
              rw [hin, laidI_done] at HRV
              have HIV := hidden (show IsI wr (.slice (some ⟨v0, 0, none⟩) N N) vs from Reads.of_row HRV N N (by rw [icells_length, HVL.out]) (Nat.le_refl _))
              have HRT := hidden (show Row wr v0 2 (icells vs) from HRV)
              have HEN := hidden (fun w' (h : Grows wr w') => lencodeF_any (.slice (some ⟨v0, 0, none⟩) N N) vs w' (IsI.grow HIV.out h) (by rw [HVL.out]; omega) HVI.out)
              obtain ⟨wt, hwt⟩ : ∃ wt, wt = encV vs := ⟨_, rfl⟩
              rw [← hwt] at HEN HE3' HOK'
              have hOQ : O ≤ Q := by have := HEQ1.out; have := HPE.out; omega
              have hQb : Q ≤ b.length := by have := HHQ.out; omega
              obtain ⟨gt, hgt⟩ : ∃ gt, gt = (b.drop O).take ((Q : Int) - (O : Int)).toNat := ⟨_, rfl⟩
              rw [← hgt] at HE3' HOK'
              have HGT := hidden (show (b.drop O).take (Q - O) = gt by rw [hgt, show ((Q : Int) - (O : Int)).toNat = Q - O by omega])
              obtain ⟨AO, hAO, hsa⟩ : ∃ AO, (∀ w', IsBytes w' (.slice A b.length c) b → IsBytes w' (.slice AO (Q - O) (c - O)) gt) ∧
                  ∀ w', (Instr.sliceAt 29 (.slice A b.length c) (some (.int .i64 (O : Int))) (some (.int .i64 (Q : Int))) none).run Tryz.prog w' = .ok (.slice AO (Q - O) (c - O)) w' := by
                refine ⟨if c = O then A else Option.map (fun x => x.add O) A, fun w' hv => ?_, fun w' => ?_⟩
                · have h := slice_reads2 hv (o := O) (p := Q) hOQ hQb hlc
                  rw [HGT.out] at h
                  exact h
                · have ht : Tryz.prog.underlying 29 = some (.slice (Tryz.prog.elem 29)) := by kernel_rfl
                  have hs1 : (sizeOf (Tryz.prog.elem 29)).run Tryz.prog w' = .ok 1 w' := by
                    have hi : (Tryz.prog.info? (Tryz.prog.elem 29)).map (·.size) = some 1 := by kernel_rfl
                    cases h : Tryz.prog.info? (Tryz.prog.elem 29) with
                    | none => rw [h] at hi; cases hi
                    | some y =>
                      rw [h] at hi
                      have h1 : y.size = 1 := by simpa using hi
                      simp [sizeOf, typeInfo, h, h1]
                  rw [run_sliceAt_slice (P := Tryz.prog) (w := w') 29 (.slice A b.length c) (some (.int .i64 (O : Int))) (some (.int .i64 (Q : Int))) none ht]
                  have h := run_slice_lh (P := Tryz.prog) (w := w') 29 A b.length c ht .i64 .i64 (O : Int) (Q : Int) (by omega) (by omega) (by omega)
                  rw [h, hs1]
                  simp only [Result.andThen_ok, sliced, Int.toNat_natCast, Nat.mul_one]
              have HEQ := hidden (fun u1 w' hu (h : Grows wr w') => bytesEqual_any u1 (.slice AO (Q - O) (c - O)) wt gt w' hu (hAO w' (HV.out.grow (Grows.of_below HB10.out h))))
              obtain ⟨bq, hbq⟩ : ∃ bq, bq = decide (wt = gt) := ⟨_, rfl⟩
              rw [← hbq] at HEQ
              have HBQ := hidden hbq
              clear hwt hgt hAO hin HRV hi hbq
              go_wp2_with fail
              refine wp_region_loose (tabRs [(1, BytesV wt), (6, ConstV (.bool bq))]) (by kernel_rfl) (by kernel_rfl) (tabRs_cons BytesV.lasts (tabRs_cons ConstV.lasts tabRs_nil)) ?_
              iterate 1 ((with_reducible refine loose_one (v := ?_) (a' := ?_) ?_ ?_ (fun w' hC' hG' => ?_) ?_ ?_); rotate_left 2; (focus rfl); (focus rfl); (focus (clear hC' hG'; go_simp; rfl)); (focus (go_simp; rfl)))
              refine loose_call (R := BytesV wt) (f := 87) (args := #[.slice (some ⟨v0, 0, none⟩) N N]) (by rfl) (by rfl) (fun _ => by go_simp) (fun w' hC' hG' => byr_loose (HEN.out w' hC')) ?_
              intro u1 hu1
              refine ⟨?_, ?_, ?_⟩
              rotate_left
              · go_simp
                rfl
              iterate 4 ((with_reducible refine loose_one (v := ?_) (a' := ?_) ?_ ?_ (fun w' hC' hG' => ?_) ?_ ?_); rotate_left 2; (focus rfl); (focus rfl); (focus (clear hC' hG'; go_simp; rfl)); (focus (go_simp; rfl)))
              refine loose_call (R := ConstV (.bool bq)) (f := 155) (args := #[u1, .slice AO (Q - O) (c - O)]) (by rfl) (by rfl) (fun _ => by go_simp) (fun w' hC' hG' => const_loose0 (HEQ.out u1 w' ((hG' 1 (by kernel_rfl)).2 rfl) hC')) ?_
              rintro _ ⟨_, _, rfl⟩
              refine ⟨?_, ?_, ?_⟩
              rotate_left
              · go_simp
                rfl
              iterate 1 ((with_reducible refine loose_one (v := ?_) (a' := ?_) ?_ ?_ (fun w' hC' hG' => ?_) ?_ ?_); rotate_left 2; (focus rfl); (focus rfl); (focus (clear hC' hG'; go_simp; rfl)); (focus (go_simp; rfl)))
              refine loose_done (fun w12 hC' hG' => ?_)
              clear hG'
              have HB12 := hidden (Grows.of_below HB10.out hC')
              have HI12 := hidden (IsI.grow HIV.out hC')
              have HRT12 := hidden (HRT.out.grow hC')
              clear hC'
              cases bq
              rotate_left
              · have HEE := hidden (HOK'.out (by have h := HBQ.out; simpa using h.symm))
                go_wp2_with fail
                go_ret3
                exact ⟨_, by rw [HEE.out]; rfl, by rw [HEE.out]; exact HI12.out, HB12.out, FreshI.laid (by have := HWF.out; have := HV0.out; omega) HRT12.out _ _ _⟩
              · have HEE := hidden (HE3'.out (by have h := HBQ.out; simpa using h.symm))
                go_wp2_with fail
                go_ret3
                exact LDecF.err HEE.out HB12.out
end Go.Proofs.YthmipnokimlbdaaGreat
/-
  Shaken: what the claims of this seat need of this text. No condition.
-/
namespace Go.Proofs.YthmipnokimlbdaaGreat
set_option maxRecDepth 20000
open Go.RowKit
set_option linter.unusedVariables false
set_option linter.unusedSimpArgs false
def DfRel (w : World) (g : Nat) (D : List Int) (i : Value) (wr : World) : Prop :=
  ∃ k : Nat, k ≤ D.length ∧ i = .int .i64 (k : Int) ∧ Row wr g 2 (icells (laidI D k)) ∧ Below w.heap.size w wr
set_option maxRecDepth 20000 in
set_option maxHeartbeats 4000000 in
theorem diff_any (v : Value) (l : List Int) (w : World) (hv : IsI w v l) (hl : l.length ≤ 1000000) :
    Calls Tryz.prog 207 #[v] w (InR (dfL l) w) := by
  have HV := hidden hv
  obtain ⟨A, c, rfl⟩ := hv.slice_
  have HDL := hidden (dfL_length l)
  have HDG : Hid (∀ k, (h : k + 1 < l.length) → (h2 : k < (dfL l).length) → (dfL l)[k] = IntKind.i64.wrap (l[k + 1] - l[k])) := fun k h h2 => dfL_get h h2
  clear hv
  generalize dfL l = D at *
  obtain ⟨N, hN⟩ : ∃ N, N = D.length := ⟨_, rfl⟩
  have hmx : max (0 : Int) ((l.length : Int) - 1) = (N : Int) := by have := HDL.out; omega
  have hNl : N ≤ 1000000 := by have := HDL.out; omega
  have hmi := fun W' => run_make_oneM (P := Tryz.prog) 22 2 (.int .i64 0) 8 Tryz.underlying22 info_i64 rfl N (by omega) (by omega) W'
  have hr9 := Row.at_ w 2 (List.replicate N (.int .i64 0)).toArray (icells (laidI D 0)) (by
    unfold laidI
    rw [List.take_zero, List.nil_append, Nat.sub_zero, ← hN, ← icells_zero]) w.heap.size rfl
  have HR9 := hidden hr9
  have HB9 := hidden ((Below.refl w.heap.size w).alloc (Nat.le_refl _) (.cells (List.replicate N (.int .i64 0)).toArray 2))
  have HN := hidden hN
  clear hr9 hN
  go_enter Tryz.func207, Tryz.ntmps207
  go_wp2_with fail
  clear hmi hmx
  go_loopw [12] (fun i wr => DfRel w w.heap.size D i wr) (fun i _ => N - (intOf i).toNat)
  case atStart => exact ⟨0, by omega, rfl, HR9.out, HB9.out⟩
  case round =>
    obtain ⟨k, hk, rfl, hrow, hbw⟩ := hrel
    have HB := hidden hbw
    have HR := hidden hrow
    clear hrow hbw HR9 HB9
    have hN := HN.out
    by_cases hlt : k < N
    · have hkl1 : k + 1 < l.length := by have := HDL.out; omega
      obtain ⟨b, f, rfl, hck⟩ := (HV.out.grow HB.out).at_ hkl1
      obtain ⟨b', f', he, hck0⟩ := (HV.out.grow HB.out).at_ (show k < l.length by omega)
      injection he with he
      injection he with e1 e2 e3
      subst e1 e2
      have hkd : k < D.length := by omega
      have hdg := HDG.out k hkl1 hkd
      have HLS := hidden (laidI_set D hkd)
      rw [hdg] at HLS
      have HX : Hid (∀ w', Grows wr w' → w'.cell? ⟨b, f + (k + 1), none⟩ = some (.int .i64 l[k + 1]) ∧ w'.cell? ⟨b, f + k, none⟩ = some (.int .i64 l[k])) := fun w' h =>
        ⟨(h.cell (World.block_lt_of_cell? _ _ hck)).trans hck, (h.cell (World.block_lt_of_cell? _ _ hck0)).trans hck0⟩
      have hll : (laidI D k).length = D.length := laidI_length D hk
      generalize hy1 : l[k + 1] = y1 at *
      generalize hy0 : l[k] = y0 at *
      obtain ⟨z, hz⟩ : ∃ z, IntKind.i64.wrap (y1 - y0) = z := ⟨_, rfl⟩
      rw [hz] at HLS
      have hwk : IntKind.i64.wrap (k : Int) = (k : Int) := by rw [IntKind.wrap_i64]; omega
      have hwk1 : IntKind.i64.wrap ((k : Int) + 1) = (k : Int) + 1 := by rw [IntKind.wrap_i64]; omega
      have hkl : k < l.length := by omega
      have hk10 : (0 : Int) ≤ (k : Int) + 1 := by omega
      have hk11 : (k : Int) + 1 < (l.length : Int) := by omega
      have HKD := hidden hkd
      clear hdg hck hck0 hy1 hy0 hN hkd
      go_wp2_with fail
      refine wp_region_loose_tail 13 (tabRs []) (by kernel_rfl) (by kernel_rfl) tabRs_nil ?_
      simp only [List.take_succ_cons, List.take_zero, List.drop_succ_cons, List.drop_zero]
      iterate 13 ((with_reducible refine loose_one (v := ?_) (a' := ?_) ?_ ?_ (fun w' hC' hG' => ?_) ?_ ?_); rotate_left 2; (focus rfl); (focus rfl); (focus (obtain ⟨x0, x1⟩ := HX.out w' hC'; clear hC' hG'; go_simp; rfl)); (focus (go_simp; rfl)))
      refine loose_done (fun w11 hC' hG' => ?_)
      clear hG'
      have r11 := Row.grow HR.out hC'
      obtain ⟨y11, hy11⟩ : ∃ y11 : Int, w11.cell? ⟨w.heap.size, k, none⟩ = some (.int .i64 y11) := ⟨_, by rw [r11.cell k, icells_get (by rw [hll]; exact HKD.out)]⟩
      have fz11 := r11.frozen k
      have r12 := r11.set_ k (.int .i64 z)
      rw [icells_set, HLS.out] at r12
      have b12 := (Grows.of_below HB.out hC').setCell (p := ⟨w.heap.size, k, none⟩) (Nat.le_refl _) (.int .i64 z)
      have R12 := hidden r12
      have B12 := hidden b12
      clear r11 r12 b12 hC' hll
      go_wp2_with fail
      refine ⟨⟨k + 1, by have := HKD.out; omega, by go_num, R12.out, B12.out⟩, by simp [intOf]; omega⟩
    · have hke : k = D.length := by omega
      have HRV := HR.out
      rw [hke, laidI_done] at HRV
      have HIV : Hid (wr.ownsRow w.heap.size 2 1 (.slice (some ⟨w.heap.size, 0, none⟩) N N) D.length (icells D)) := by
        have h := Row.own HRV (Nat.le_refl _) (by unfold maxLen; rw [icells_length]; omega)
        rw [icells_length] at h
        rw [hN]
        exact h
      clear hke HRV hN
      go_wp2_with fail
      go_ret
      exact ⟨_, rfl, HB.out, HIV.out⟩
theorem run_make_room_i (N : Nat) (hN : N ≤ 1000001) (W : World) :
    (Instr.makeSlice 22 (.int .i64 0) (.int .i64 (N : Int))).run Tryz.prog W = .ok (.slice (some ⟨W.heap.size, 0, none⟩) 0 N) (W.alloc (.cells (madeCells #[.int .i64 0] N) 2)) := by
  obtain ⟨i0, hi, hz0, hz1, hz2⟩ := info_parts info_i64
  have hbs : (i0.bytes : Int) * (N : Int) ≤ 281474976710656 := by rw [hz2]; omega
  have h := run_make (P := Tryz.prog) W 22 2 i0 (.int .i64 0) Tryz.underlying22 hi hz0 .i64 .i64 0 (N : Int) (by omega) (by omega) hbs (by omega)
  rw [hz1] at h
  simpa [Value.cells] using h
theorem own_room_i (w : World) (N : Nat) (hN : N ≤ 1000001) : (w.alloc (.cells (madeCells #[Value.int .i64 0] N) 2)).ownsRow w.heap.size 2 1 (.slice (some ⟨w.heap.size, 0, none⟩) 0 N) ([] : List Int).length (icells []) := by
  refine ⟨rfl, .inr ⟨w.heap.size, N, madeCells #[Value.int .i64 0] N, rfl, Nat.le_refl _, by show (w.heap.push _)[w.heap.size]? = _; simp, Nat.zero_le _, by unfold maxLen; omega, ?_, by simp [icells]⟩⟩
  have h : (madeCells #[Value.int .i64 0] N).toList.length = N := by rw [toList_madeCells_one]; simp
  rw [Array.length_toList] at h
  omega
def PsRel (w : World) (f : Int) (ds : List Int) (o i : Value) (wr : World) : Prop :=
  ∃ k : Nat, k ≤ ds.length ∧ i = .int .i64 (k : Int) ∧ wr.ownsRow w.heap.size 2 1 o (psL f (ds.take k)).length (icells (psL f (ds.take k))) ∧ Below w.heap.size w wr
set_option maxRecDepth 20000 in
set_option maxHeartbeats 4000000 in
theorem ps_any (x : Int) (v : Value) (l : List Int) (w : World) (hv : IsI w v l) (hl : l.length ≤ 1000000) :
    Calls Tryz.prog 160 #[.int .i64 x, v] w (InR (psL x l) w) := by
  have HV := hidden hv
  obtain ⟨A, c, rfl⟩ := hv.slice_
  have hmr : ∀ W' : World, (Instr.makeSlice 22 (.int .i64 0) (.int .i64 ((l.length : Int) + 1))).run Tryz.prog W' = .ok (.slice (some ⟨W'.heap.size, 0, none⟩) 0 (l.length + 1)) (W'.alloc (.cells (madeCells #[.int .i64 0] (l.length + 1)) 2)) := fun W' => run_make_room_i (l.length + 1) (by omega) W'
  have hs1 := World.size_alloc w (.cells (madeCells #[.int .i64 0] (l.length + 1)) 2)
  have HI0 : Hid (IsI ((w.alloc (.cells (madeCells #[.int .i64 0] (l.length + 1)) 2)).alloc (.cells #[.int .i64 x] 2)) (.slice (some ⟨w.heap.size + 1, 0, none⟩) 1 1) [x]) := by
    have h := isI_one (w.alloc (.cells (madeCells #[.int .i64 0] (l.length + 1)) 2)) x
    rw [hs1] at h
    exact h
  have HO0 := hidden ((own_room_i w (l.length + 1) (by omega)).alloc (.cells #[.int .i64 x] 2))
  have HB0 := hidden (((Below.refl w.heap.size w).alloc (Nat.le_refl _) (.cells (madeCells #[.int .i64 0] (l.length + 1)) 2)).alloc (by rw [hs1]; omega) (.cells #[.int .i64 x] 2))
  clear hs1
  have hwl : IntKind.i64.wrap ((l.length : Int) + 1) = (l.length : Int) + 1 := by rw [IntKind.wrap_i64]; omega
  clear hv
  go_enter Tryz.func160, Tryz.ntmps160
  go_wp2_with (at_builtin; go_loud (refine wpList_append_il rfl _ _ rfl _ [] (by rfl) w.heap.size HO0.out w HB0.out HB0.out.size _ [x] (by rfl) HI0.out (by simp) ?_); intro v3 w3 hown3 hb3 hk3; have HO3 := hidden hown3; have HB3 := hidden hb3; clear hown3 hb3 hk3)
  go_loopw [5, 18] (fun o i wr => PsRel w x l o i wr) (fun _ i _ => l.length - (intOf i).toNat)
  case atStart => exact ⟨0, by omega, rfl, HO3.out, HB3.out⟩
  case round =>
    obtain ⟨k, hk, rfl, hown, hbw⟩ := hrel
    have HB := hidden hbw
    have HO := hidden hown
    clear hown hbw HO0 HB0 HO3 HB3 HI0 hmr hwl
    have HSL := hidden (show (psL x (l.take k)).length = k + 1 by rw [psL_length, List.length_take]; omega)
    obtain ⟨A5, c5, rfl⟩ := own_ni9 HO.out
    by_cases hlt : k < l.length
    · have HI5 := hidden (show IsI wr _ _ from Reads.of_own HO.out)
      obtain ⟨b, f, rfl, hck⟩ := (HV.out.grow HB.out).at_ hlt
      obtain ⟨b5, f5, rfl, hck5⟩ := HI5.out.at_ (show k < (psL x (l.take k)).length by rw [HSL.out]; omega)
      have hps := psL_at hk x
      rw [List.getElem?_eq_getElem (by rw [HSL.out]; omega)] at hps
      injection hps with hps
      rw [hps] at hck5
      have HTD := hidden (psL_take hlt x)
      have hsl := HSL.out
      generalize hy : l[k] = y at *
      generalize lastS x (l.take k) = s at *
      generalize psL x (l.take k) = ps at *
      obtain ⟨z, hz⟩ : ∃ z, IntKind.i64.wrap (s + y) = z := ⟨_, rfl⟩
      rw [hz] at HTD
      obtain ⟨m, hm⟩ : ∃ m, m = ps.length := ⟨_, rfl⟩
      have HM := hidden hm
      have hkm : k < m := by omega
      have hml : m ≤ 1000001 := by omega
      have hsz := HB.out.size
      rw [← hm] at HO ⊢
      clear hps hy hsl HSL hm HI5
      go_wp2_with (at_builtin; go_loud (refine wpList_append_ik rfl _ _ rfl _ ps (by rfl) w.heap.size (by first | exact HO.out | (rw [← HM.out]; exact HO.out)) w HB.out hsz z (by rfl) (by have := HM.out; omega) ?_); intro v3 w3 hown3 hb3 hk3; have HO3 := hidden hown3; have HB3 := hidden hb3; clear hown3 hb3 hk3)
      refine ⟨⟨k + 1, by omega, by go_num, ?_, HB3.out⟩, by simp [intOf]; omega⟩
      rw [HTD.out]
      exact HO3.out
    · have hke : k = l.length := by omega
      rw [hke, List.take_length] at HO HSL ⊢
      clear hke
      go_wp2_with fail
      go_ret
      exact ⟨_, rfl, HB.out, HO.out⟩
theorem validOrder_any (k n : Int) (w : World) : Calls Tryz.prog 157 #[.int .i64 k, .int .i64 n] w fun e w' => e = .returned (.bool (decide (k = 1 ∨ (k = 2 ∧ 2 ≤ n)))) ∧ w = w' := by
  go_enter Tryz.func157, Tryz.ntmps157
  by_cases h1 : k = 1
  · subst h1
    go_wp2_with fail
    go_ret
    exact ⟨retB (by simp), rfl⟩
  · have e1 : (k == 1) = false := by simpa using h1
    by_cases h2 : k = 2
    · subst h2
      go_wp2_with fail
      go_ret
      exact ⟨retB (by simp), rfl⟩
    · have e2 : (k == 2) = false := by simpa using h2
      go_wp2_with fail
      go_ret
      exact ⟨retB (by simp [h1, h2]), rfl⟩
theorem leadingCount_any (k n : Int) (w : World) : Calls Tryz.prog 159 #[.int .i64 k, .int .i64 n] w fun e w' => e = .returned (.int .i64 (min k n)) ∧ w = w' := by
  go_enter Tryz.func159, Tryz.ntmps159
  go_wp2_with fail
  go_ret
  exact ⟨retI (by omega), rfl⟩
end Go.Proofs.YthmipnokimlbdaaGreat
/-
  Shaken: what the claims of this seat need of this text. No condition.
-/
namespace Go.Proofs.YthmipnokimlbdaaGreat
open Go.RowKit
set_option linter.unusedVariables false
set_option linter.unusedSimpArgs false
def hdLaid (acc : List Int) (d : Nat) : List Int := acc ++ List.replicate d 0
theorem hdLaid_set (acc : List Int) (d : Nat) (y : Int) : (hdLaid acc (d + 1)).set acc.length y = hdLaid (acc ++ [y]) d := by
  unfold hdLaid
  rw [List.replicate_succ, List.set_append_right _ _ (Nat.le_refl _), Nat.sub_self, List.set_cons_zero, List.append_assoc]
  rfl
theorem hdLaid_length (acc : List Int) (d : Nat) : (hdLaid acc d).length = acc.length + d := by unfold hdLaid; rw [List.length_append, List.length_replicate]
def LdRel (w : World) (g : Nat) (b : List UInt8) (k : Nat) (r : List Int × Int × Int) (p i : Value) (wr : World) : Prop :=
  ∃ (j : Nat) (acc : List Int) (q : Int), j ≤ k ∧ i = .int .i64 (j : Int) ∧ p = .int .i64 q ∧ acc.length = j ∧ (-9223372036854775808 ≤ q ∧ q ≤ 9223372036854775807) ∧ hdsD b (k - j) q acc = r ∧
    Row wr g 2 (icells (hdLaid acc (k - j))) ∧ Below w.heap.size w wr
set_option maxRecDepth 20000 in
set_option maxHeartbeats 8000000 in
theorem readLeading_any (A : Option Addr) (c : Nat) (b : List UInt8) (p : Int) (k : Nat) (w : World) (hb : IsBytes w (.slice A b.length c) b) (hl : b.length ≤ 1048576) (hk : k ≤ 2) (h63 : -9223372036854775808 ≤ p) (h64 : p ≤ 9223372036854775807) :
    Calls Tryz.prog 158 #[.slice A b.length c, .int .i64 p, .int .i64 (k : Int)] w (LDecR (hdsD b k p []) w) := by
  have HV := hidden hb
  have HP := hidden (And.intro h63 h64)
  obtain ⟨r, hr⟩ : ∃ r, r = hdsD b k p [] := ⟨_, rfl⟩
  rw [← hr]
  have HR := hidden hr.symm
  have hmi := fun W' => run_make_oneM (P := Tryz.prog) 22 2 (.int .i64 0) 8 Tryz.underlying22 info_i64 rfl k (by omega) (by omega) W'
  have HR9 := hidden (Row.at_ w 2 (List.replicate k (.int .i64 0)).toArray (icells (hdLaid [] k)) (by
    unfold hdLaid
    rw [List.nil_append, ← icells_zero]) w.heap.size rfl)
  have HB9 := hidden ((Below.refl w.heap.size w).alloc (Nat.le_refl _) (.cells (List.replicate k (.int .i64 0)).toArray 2))
  clear hb hr
  go_enter Tryz.func158, Tryz.ntmps158
  go_wp2_with fail
  clear hmi
  go_loopw [1, 18] (fun p i wr => LdRel w w.heap.size b k r p i wr) (fun _ i _ => k - (intOf i).toNat)
  case atStart => exact ⟨0, [], p, by omega, rfl, rfl, rfl, HP.out, HR.out, HR9.out, HB9.out⟩
  case round =>
    obtain ⟨j, acc, q, hj, rfl, rfl, hal, hq, hdr, hrow, hbw⟩ := hrel
    have HB := hidden hbw
    have HRW := hidden hrow
    have HDR := hidden hdr
    have HAL := hidden hal
    clear hrow hbw hdr hal HR9 HB9
    by_cases hlt : j < k
    · obtain ⟨x, p1, e1, hd⟩ : ∃ x p1 e1, dcd b q = (x, p1, e1) := ⟨_, _, _, rfl⟩
      have HDC := hidden (decode_any (.slice A b.length c) b q wr (HV.out.grow HB.out) (by unfold maxLen; omega) hq.1 hq.2)
      rw [hd] at HDC
      have hb1 := dcd_bd2 hd
      obtain ⟨d, hdd⟩ : ∃ d, d = k - (j + 1) := ⟨_, rfl⟩
      rw [show k - j = d + 1 by omega] at HDR HRW
      by_cases he : e1 = 0
      · subst he
        rw [hdsD_ok hd] at HDR
        obtain ⟨a1, a2, a3⟩ := hb1.2.2.1 rfl
        have HUZ := hidden (fun W' => unzigzag_any x W' hb1.1 (by have := hb1.2.1; omega))
        have HQ1 := hidden (show -9223372036854775808 ≤ p1 ∧ p1 ≤ 9223372036854775807 by omega)
        obtain ⟨y0, hcell⟩ : ∃ y0 : Int, wr.cell? ⟨w.heap.size, j, none⟩ = some (.int .i64 y0) := ⟨_, by rw [HRW.out.cell j, icells_get (by rw [hdLaid_length, HAL.out]; omega)]⟩
        have hfz := HRW.out.frozen j
        have hr5 := HRW.out.set_ j (.int .i64 (uz x))
        rw [icells_set, show j = acc.length from HAL.out.symm, hdLaid_set, HAL.out] at hr5
        have hb5 := HB.out.setCell (p := ⟨w.heap.size, j, none⟩) (Nat.le_refl _) (.int .i64 (uz x))
        have HR5 := hidden hr5
        have HB5 := hidden hb5
        have HDD := hidden hdd
        clear hd hb1 hq a1 a2 a3 hr5 hb5 hdd
        go_wp2_with fail
        refine HDC.out.mono ?_
        rintro e w2 ⟨rfl, rfl⟩
        go_wp2_with fail
        refine (HUZ.out wr).mono ?_
        rintro e w2 ⟨rfl, rfl⟩
        go_wp2_with fail
        refine ⟨⟨j + 1, acc ++ [uz x], p1, by omega, by go_num, rfl, by rw [List.length_append, HAL.out]; rfl, HQ1.out, by rw [← HDD.out]; exact HDR.out, by rw [← HDD.out]; exact HR5.out, HB5.out⟩, by simp [intOf]; omega⟩
      · rw [hdsD_e hd he] at HDR
        have hd0 : (e1 != 0) = true := by simpa using he
        clear hd he hb1 hq hdd
        go_wp2_with fail
        refine HDC.out.mono ?_
        rintro e w2 ⟨rfl, rfl⟩
        go_wp2_with fail
        go_ret3
        exact LDecR.err HDR.out.symm HB.out
    · rw [show k - j = 0 by omega, hdsD] at HDR
      rw [show k - j = 0 by omega] at HRW
      have HLA := hidden (show hdLaid acc 0 = acc by unfold hdLaid; simp)
      rw [HLA.out] at HRW
      have HKA := hidden (show k = acc.length by have := HAL.out; omega)
      clear hq
      go_wp2_with fail
      go_ret3
      exact ⟨_, by rw [← HDR.out]; rfl, by rw [← HDR.out]; exact Reads.of_row HRW.out k k (by rw [icells_length]; exact HKA.out) (Nat.le_refl _), HB.out⟩
end Go.Proofs.YthmipnokimlbdaaGreat
