/-
  The reference's Decode. Nothing that was there is changed.
-/
import Derived.Test.YtjjeebaelpgjlaaFr3
namespace Go.Proofs.Ytjjeebaelpgjlaa
open Go.RowKit
set_option linter.unusedVariables false
set_option linter.unusedSimpArgs false

/-- what Decode hands back -/
def DecR (r : List Int × Int × Int) (w : World) (e : Ending) (w' : World) : Prop :=
  ∃ v, e = .returned (.tuple #[v, .int .i64 r.2.1, .int .i64 r.2.2]) ∧ IsI w' v r.1 ∧ Grows w w'
theorem DecR.err {r : List Int × Int × Int} {f : Int} {w w' : World} (h : r = ([], 0, f)) (hb : Grows w w') : DecR r w (.returned (.tuple #[.slice none 0 0, .int .i64 0, .int .i64 f])) w' := by
  subst h
  exact ⟨_, rfl, Reads.nil_ _ 0, hb⟩
theorem decV_bad {b : List UInt8} {o n : Int} (h : (o < 0 ∨ (b.length : Int) < o) ∨ n < 0 ∨ 65536 < n) : decV b o n = ([], 0, 1) := by
  by_cases hn : n < 0 ∨ 65536 < n
  · exact decV_e1 (frD_a hn) (by decide)
  · have ho : o < 0 ∨ (b.length : Int) < o := by omega
    exact decV_e1 (frD_b hn (dcd_bad ho) (by decide)) (by decide)
/-- the differences after k of them -/
def RLRel (w : World) (pk : List UInt8) (W n : Nat) (d i : Value) (wr : World) : Prop :=
  ∃ (k : Nat) (ds : List Nat), k ≤ n ∧ i = .int .i64 (k : Int) ∧ ds = (List.range k).map (fun (i : Nat) => atB pk (i : Int) (W : Int)) ∧ wr.ownsRow w.heap.size 50 1 d ds.length (wcells ds) ∧ Below w.heap.size w wr
def ROutRel (w w1 : World) (dv : Value) (ds : List Nat) (z : Int) (o i : Value) (wr : World) : Prop :=
  ∃ (k : Nat) (vs : List Int), k ≤ ds.length ∧ i = .int .i64 (k : Int) ∧ vs = (ds.take k).map (valV z) ∧ wr.ownsRow w.heap.size 2 1 o vs.length (icells vs) ∧ wr.ownsRow w.heap.size 50 1 dv ds.length (wcells ds) ∧ Below w.heap.size w wr
def RCmpRel (w : World) (want got : List UInt8) (i : Value) (wr : World) : Prop :=
  ∃ k : Nat, k ≤ want.length ∧ i = .int .i64 (k : Int) ∧ want.take k = got.take k ∧ Below w.heap.size w wr
theorem dcd_pos {l : List UInt8} {o x q : Int} (h : dcd l o = (x, q, 0)) : 0 < l.length := by
  rcases Nat.eq_zero_or_pos l.length with h0 | h0
  · have : l = [] := List.eq_nil_of_length_eq_zero h0
    subst this
    have hb := dcd_bd2 h
    obtain ⟨h1, h2, h3⟩ := hb.2.2.1 rfl
    rw [List.length_nil] at h3
    have ho : o = 0 := by omega
    subst ho
    have h4 : dcd [] 0 = (0, 0, 2) := by decide
    rw [h4] at h
    injection h with _ h
    injection h with _ h
    cases h
  · exact h0
theorem val_ref (z : Int) (d : Nat) : IntKind.i64.wrap (IntKind.u64.wrap (IntKind.u64.wrap (uz z) + (d : Int))) = valV z d := by
  unfold valV
  rw [IntKind.wrap_u64, IntKind.wrap_u64, IntKind.wrap_i64, IntKind.wrap_i64]
  omega
theorem szB_65 {n W : Nat} (hn : n ≤ 65536) (hW : W ≤ 64) : szB n W ≤ 600000 := by
  have h5 : n * W ≤ n * 64 := Nat.mul_le_mul_left _ hW
  unfold szB
  omega
/-- the rest of the reference's Decode, behind the exceptions -/
theorem own_ne {w : World} {B : Nat} {v : Value} {n : Nat} {xs : List Value} (h : w.ownsRow B 50 1 v n xs) : ∃ A c, v = .slice A n c := by
  rcases h.2 with ⟨h1, h2⟩ | ⟨g, cap, cur, h1, _⟩
  · exact ⟨none, 0, by rw [h1, h2]⟩
  · exact ⟨_, cap, h1⟩
theorem own_ni {w : World} {B : Nat} {v : Value} {n : Nat} {xs : List Value} (h : w.ownsRow B 2 1 v n xs) : ∃ A c, v = .slice A n c := by
  rcases h.2 with ⟨h1, h2⟩ | ⟨g, cap, cur, h1, _⟩
  · exact ⟨none, 0, by rw [h1, h2]⟩
  · exact ⟨_, cap, h1⟩
set_option maxRecDepth 20000 in
set_option maxHeartbeats 8000000 in
theorem rdecodeF_any (A : Option Addr) (c : Nat) (b : List UInt8) (o n : Int) (w : World) (hb : IsBytes w (.slice A b.length c) b) (hc : b.length ≤ c) (hl : b.length ≤ 1048576) :
    Calls Try.prog 30 #[.slice A b.length c, .int .i64 o, .int .i64 n] w (DecR (decV b o n) w) := by
  by_cases h1 : o < 0
  · have HE := hidden (decV_bad (b := b) (o := o) (n := n) (.inl (.inl h1)))
    have hd : decide (o < 0) = true := by simpa using h1
    clear h1
    go_enter Try.func30, Try.ntmps30
    go_wp2_with fail
    go_ret3
    exact DecR.err HE.out (Below.refl _ _)
  have d1 : decide (o < 0) = false := by simpa using h1
  by_cases h2 : (b.length : Int) < o
  · have HE := hidden (decV_bad (b := b) (o := o) (n := n) (.inl (.inr h2)))
    have hd : decide ((b.length : Int) < o) = true := by simpa using h2
    clear h2
    go_enter Try.func30, Try.ntmps30
    go_wp2_with fail
    go_ret3
    exact DecR.err HE.out (Below.refl _ _)
  have d2 : decide ((b.length : Int) < o) = false := by simpa using h2
  by_cases h3 : n < 0
  · have HE := hidden (decV_bad (b := b) (o := o) (n := n) (.inr (.inl h3)))
    have hd : decide (n < 0) = true := by simpa using h3
    clear h3
    go_enter Try.func30, Try.ntmps30
    go_wp2_with fail
    go_ret3
    exact DecR.err HE.out (Below.refl _ _)
  have d3 : decide (n < 0) = false := by simpa using h3
  by_cases h4 : 65536 < n
  · have HE := hidden (decV_bad (b := b) (o := o) (n := n) (.inr (.inr h4)))
    have hd : decide (65536 < n) = true := by simpa using h4
    clear h4
    go_enter Try.func30, Try.ntmps30
    go_wp2_with fail
    go_ret3
    exact DecR.err HE.out (Below.refl _ _)
  have d4 : decide (65536 < n) = false := by simpa using h4
  have HN := hidden (show ¬ (n < 0 ∨ 65536 < n) by omega)
  have HDC := hidden (fun o w' hv' h63 h64 => rdecode_any (.slice A b.length c) b o w' hv' (by unfold maxLen; omega) h63 h64)
  obtain ⟨z, p1, e1, hd1⟩ : ∃ z p1 e1, dcd b o = (z, p1, e1) := ⟨_, _, _, rfl⟩
  have hb1 := dcd_bd2 hd1
  have HC1 := hidden (HDC.out o w hb (by omega) (by omega))
  rw [hd1] at HC1
  have HD1 := hidden hd1
  have HV := hidden hb
  clear hd1 hb
  by_cases he1 : e1 = 0
  rotate_left
  · have HE := hidden (decV_e1 (frD_b HN.out HD1.out he1) he1)
    have hd : (e1 != 0) = true := by simpa using he1
    clear he1 hb1
    go_enter Try.func30, Try.ntmps30
    go_wp2_with fail
    refine HC1.out.mono ?_
    rintro e w2 ⟨rfl, rfl⟩
    go_wp2_with fail
    go_ret3
    exact DecR.err HE.out (Below.refl _ _)
  subst he1
  obtain ⟨ha1, ha2, ha3⟩ := hb1.2.2.1 rfl
  have hz0 := hb1.1
  have hz1 := hb1.2.1
  obtain ⟨Wi, p2, e2, hd2⟩ : ∃ Wi p2 e2, dcd b p1 = (Wi, p2, e2) := ⟨_, _, _, rfl⟩
  have hb2 := dcd_bd2 hd2
  have HC2 := hidden (HDC.out p1 w HV.out (by omega) (by omega))
  rw [hd2] at HC2
  have HD2 := hidden hd2
  clear hd2 hb1
  by_cases he2 : e2 = 0
  rotate_left
  · have HE := hidden (decV_e1 (frD_c HN.out HD1.out (numD_e HD2.out he2) he2) he2)
    have hd : (e2 != 0) = true := by simpa using he2
    clear he2 hb2
    go_enter Try.func30, Try.ntmps30
    go_wp2_with fail
    refine HC1.out.mono ?_
    rintro e w2 ⟨rfl, rfl⟩
    go_wp2_with fail
    refine HC2.out.mono ?_
    rintro e w2 ⟨rfl, rfl⟩
    go_wp2_with fail
    go_ret3
    exact DecR.err HE.out (Below.refl _ _)
  subst he2
  obtain ⟨hc1, hc2, hc3⟩ := hb2.2.2.1 rfl
  obtain ⟨W, rfl⟩ := Int.eq_ofNat_of_zero_le hb2.1
  have hW1 := hb2.2.1
  clear hb2
  by_cases h5 : (64 : Int) < (W : Int)
  · have HE := hidden (decV_e1 (frD_c HN.out HD1.out (numD_f HD2.out h5) (by decide)) (by decide))
    have hd : decide ((64 : Int) < (W : Int)) = true := by simpa using h5
    clear h5
    go_enter Try.func30, Try.ntmps30
    go_wp2_with fail
    refine HC1.out.mono ?_
    rintro e w2 ⟨rfl, rfl⟩
    go_wp2_with fail
    refine HC2.out.mono ?_
    rintro e w2 ⟨rfl, rfl⟩
    go_wp2_with fail
    go_ret3
    exact DecR.err HE.out (Below.refl _ _)
  have d5 : decide ((64 : Int) < (W : Int)) = false := by simpa using h5
  have HN2 := hidden (numD_ok HD2.out h5)
  obtain ⟨Mi, p3, e3, hd3⟩ : ∃ Mi p3 e3, dcd b p2 = (Mi, p3, e3) := ⟨_, _, _, rfl⟩
  have hb3 := dcd_bd2 hd3
  have HC3 := hidden (HDC.out p2 w HV.out (by omega) (by omega))
  rw [hd3] at HC3
  have HD3 := hidden hd3
  clear hd3
  by_cases he3 : e3 = 0
  rotate_left
  · have HE := hidden (decV_e1 (frD_e HN.out HD1.out HN2.out (numD_e HD3.out he3) he3) he3)
    have hd : (e3 != 0) = true := by simpa using he3
    clear he3 hb3
    go_enter Try.func30, Try.ntmps30
    go_wp2_with fail
    refine HC1.out.mono ?_
    rintro e w2 ⟨rfl, rfl⟩
    go_wp2_with fail
    refine HC2.out.mono ?_
    rintro e w2 ⟨rfl, rfl⟩
    go_wp2_with fail
    refine HC3.out.mono ?_
    rintro e w2 ⟨rfl, rfl⟩
    go_wp2_with fail
    go_ret3
    exact DecR.err HE.out (Below.refl _ _)
  subst he3
  obtain ⟨hc4, hc5, hc6⟩ := hb3.2.2.1 rfl
  obtain ⟨N, rfl⟩ := Int.eq_ofNat_of_zero_le (a := n) (by omega)
  obtain ⟨M, rfl⟩ := Int.eq_ofNat_of_zero_le hb3.1
  have hM1 := hb3.2.1
  clear hb3
  have hwn : IntKind.u64.wrap (N : Int) = (N : Int) := by rw [IntKind.wrap_u64]; omega
  by_cases h6 : (N : Int) < (M : Int)
  · have HE := hidden (decV_e1 (frD_e HN.out HD1.out HN2.out (numD_f HD3.out h6) (by decide)) (by decide))
    have hd : decide (N < M) = true := by simpa using h6
    clear h6
    go_enter Try.func30, Try.ntmps30
    go_wp2_with fail
    refine HC1.out.mono ?_
    rintro e w2 ⟨rfl, rfl⟩
    go_wp2_with fail
    refine HC2.out.mono ?_
    rintro e w2 ⟨rfl, rfl⟩
    go_wp2_with fail
    refine HC3.out.mono ?_
    rintro e w2 ⟨rfl, rfl⟩
    go_wp2_with fail
    go_ret3
    exact DecR.err HE.out (Below.refl _ _)
  have d6 : decide (N < M) = false := by simp; omega
  have HN3 := hidden (numD_ok HD3.out h6)
  have hN6 : N ≤ 65536 := by omega
  have hW6 : W ≤ 64 := by omega
  have hwW : IntKind.i64.wrap (W : Int) = (W : Int) := by rw [IntKind.wrap_i64]; omega
  have HSZ := hidden (rsize_any (N : Int) (W : Int) w)
  have HS2 := hidden (sizeI_nat (n := N) (m := W) (by omega) hW6)
  rw [HS2.out] at HSZ
  have hsB := szB_65 hN6 hW6
  have HFN := hidden (fun h => frD_g (b := b) HN.out HD1.out HN2.out HN3.out h)
  have HFO := hidden (fun h => frD_ok (b := b) HN.out HD1.out HN2.out HN3.out h)
  rw [Int.toNat_natCast, Int.toNat_natCast] at HFN HFO
  obtain ⟨s, hs⟩ : ∃ s, s = szB N W := ⟨_, rfl⟩
  rw [← hs] at HSZ hsB HFN HFO
  have HS := hidden hs
  clear hs HS2
  by_cases h7 : (b.length : Int) - p3 < (s : Int)
  · have HE := hidden (decV_e1 (HFN.out h7) (by decide))
    have hd : decide ((b.length : Int) - p3 < (s : Int)) = true := by simpa using h7
    clear h7
    go_enter Try.func30, Try.ntmps30
    go_wp2_with fail
    refine HC1.out.mono ?_
    rintro e w2 ⟨rfl, rfl⟩
    go_wp2_with fail
    refine HC2.out.mono ?_
    rintro e w2 ⟨rfl, rfl⟩
    go_wp2_with fail
    refine HC3.out.mono ?_
    rintro e w2 ⟨rfl, rfl⟩
    go_wp2_with fail
    refine HSZ.out.mono ?_
    rintro e w2 ⟨rfl, rfl⟩
    go_wp2_with fail
    go_ret3
    exact DecR.err HE.out (Below.refl _ _)
  have d7 : decide ((b.length : Int) - p3 < (s : Int)) = false := by simpa using h7
  have HF := hidden (HFO.out h7)
  clear HFN HFO
  go_enter Try.func30, Try.ntmps30
  go_wp2_with fail
  refine HC1.out.mono ?_
  rintro e w2 ⟨rfl, rfl⟩
  go_wp2_with fail
  refine HC2.out.mono ?_
  rintro e w2 ⟨rfl, rfl⟩
  go_wp2_with fail
  refine HC3.out.mono ?_
  rintro e w2 ⟨rfl, rfl⟩
  go_wp2_with fail
  refine HSZ.out.mono ?_
  rintro e w2 ⟨rfl, rfl⟩
  go_wp2_with fail
  have hbl := dcd_pos HD1.out
  have hMN : M ≤ N := by omega
  obtain ⟨P3, rfl⟩ := Int.eq_ofNat_of_zero_le (a := p3) (by omega)
  obtain ⟨O, rfl⟩ := Int.eq_ofNat_of_zero_le (a := o) (by omega)
  obtain ⟨bb, bf, rfl⟩ : ∃ bb bf, A = some ⟨bb, bf, none⟩ := by
    obtain ⟨A', c', he, hc'⟩ := HV.out
    obtain ⟨bb, bf, h, _⟩ := hc' hbl
    injection he with e1 _ _
    exact ⟨bb, bf, by rw [e1, h]⟩
  obtain ⟨E, hE⟩ : ∃ E, E = P3 + s := ⟨_, rfl⟩
  have hPE : (P3 : Int) + (s : Int) = (E : Int) := by omega
  have hEb : E ≤ b.length := by omega
  have hPE2 : P3 ≤ E := by omega
  obtain ⟨pk, hpk⟩ : ∃ pk, pk = packedD b (P3 : Int) N W := ⟨_, rfl⟩
  have HPK := hidden (show (b.drop P3).take (E - P3) = pk by
    rw [hpk]
    unfold packedD
    rw [Int.toNat_natCast, ← HS.out, show E - P3 = s by omega])
  have HPL := hidden (show pk.length ≤ 1048576 by rw [← HPK.out, List.length_take, List.length_drop]; omega)
  have HLOW := hidden (show lowD b (P3 : Int) N W = (List.range N).map (fun (i : Nat) => atB pk (i : Int) (W : Int)) by
    unfold lowD
    rw [← hpk])
  have HHC := hidden hc
  have HE := hidden hE
  have HBL := hidden hbl
  clear hpk hE hbl d1 d2 d3 d4 d5 d6 d7 h1 h2 h3 h4 h5 h6 h7
  go_loopw [15, 16] (fun d i wr => RLRel w pk W N d i wr) (fun _ i _ => N - (intOf i).toNat)
  case atStart => exact ⟨0, [], by omega, rfl, rfl, ⟨rfl, .inl ⟨rfl, rfl⟩⟩, Below.refl _ _⟩
  case round =>
    obtain ⟨k, ds, hk, rfl, hds, hown, hb⟩ := hrel
    have HB := hidden hb
    have HOW := hidden hown
    have HDS := hidden hds
    have HDL := hidden (show ds.length = k by rw [hds]; simp)
    clear hb hown hds
    by_cases hlt : k < N
    · have HAT := hidden (fun A' c' w' hv' => rat_any A' c' pk (k : Int) (W : Int) w' hv' HPL.out)
      have hsz := HB.out.size
      have HNX := hidden (show (List.range (k + 1)).map (fun (i : Nat) => atB pk (i : Int) (W : Int)) = ds ++ [atB pk (k : Int) (W : Int)] by
        rw [List.range_succ, List.map_append, HDS.out]; rfl)
      generalize atB pk (k : Int) (W : Int) = y at *
      have hhc := HHC.out
      go_wp2_with (refine wpList_slice_bytes rfl _ _ _ 27 5 rfl Try.underlying27 (by kernel_rfl) (by kernel_rfl) bb bf b c rfl (HV.out.grow HB.out) P3 E rfl rfl hPE2 hEb hhc ?_; rw [HPK.out]; intro v9 hv9; obtain ⟨A9, c9, rfl, _⟩ := id hv9; have HV9 := hidden hv9; clear hv9)
      refine (HAT.out _ _ wr HV9.out).mono ?_
      rintro e w3 ⟨rfl, rfl⟩
      go_wp2_with ((at_builtin; go_loud (refine wpList_append_wk rfl _ _ rfl _ ds (by rfl) w.heap.size HOW.out _ HB.out hsz _ y rfl (by rfl) (by rw [HDL.out]; omega) ?_); intro v3 w3 hown3 hb3 hk3; have HO3 := hidden hown3; have HB3 := hidden hb3; clear hown3 hb3 hk3))
      refine ⟨⟨k + 1, ds ++ [y], by omega, by go_num, HNX.out.symm, HO3.out, HB3.out⟩, by simp [intOf]; omega⟩
    · have hke : k = N := by omega
      subst hke
      have HLL := hidden (show lowD b (P3 : Int) k W = ds by rw [HLOW.out, HDS.out])
      have HDU := hidden (show U64 ds by rw [← HLL.out]; exact lowD_U64 _ _ _ _ hW6)
      have HEX := hidden (fun v' w' hown' hb' => rexceptions_any (some ⟨bb, bf, none⟩) c b (E : Int) M W v' ds w w' HV.out hl (by omega) (by omega) (by omega) hW6 (by rw [HDL.out]; omega) HDU.out hown' hb')
      have hwM : IntKind.i64.wrap (M : Int) = (M : Int) := by rw [IntKind.wrap_i64]; omega
      obtain ⟨d', q, f, hr⟩ : ∃ d' q f, excD b W M (E : Int) ds = (d', q, f) := ⟨_, _, _, rfl⟩
      rw [hr] at HEX
      have HXD := hidden (show excD b W M ((P3 : Int) + ((s : Nat) : Int)) (lowD b (P3 : Int) k W) = (d', q, f) by rw [HLL.out, hPE]; exact hr)
      have HBD := hidden (fun h => excD_bd (b := b) (w := W) M (E : Int) ds d' q (by omega) (by omega) h)
      rw [HS.out] at HXD
      go_wp2_with fail
      refine (HEX.out _ wr HOW.out HB.out).mono ?_
      rintro e w4 ⟨rfl, hb4, hown4⟩
      have HB4 := hidden hb4
      have HOW4 := hidden hown4
      simp only [] at *
      clear hb4 hown4
      by_cases hf : f = 0
      · subst hf
        obtain ⟨q1, q2, q3⟩ := HBD.out hr
        have HOD := hidden (HOW4.out rfl)
        have HD3 := hidden (q3.trans HDL.out)
        obtain ⟨AD, cD, hvd⟩ := own_ne HOD.out
        subst hvd
        obtain ⟨Q, rfl⟩ := Int.eq_ofNat_of_zero_le (a := q) (by omega)
        have HUZ := hidden (fun w' => runzigzag_any z w' hz0 (by omega))
        clear hr q3
        go_wp2_with fail
        refine (HUZ.out w4).mono ?_
        rintro e w5 ⟨rfl, rfl⟩
        have HDN := HD3.out
        rw [HDN]
        clear HDN
        go_wp2_with fail
        have hwz := val_ref z
        go_loopw [19, 20] (fun o i wr => ROutRel w w4 (.slice AD k cD) d' z o i wr) (fun _ i _ => k - (intOf i).toNat)
        case atStart =>
          refine ⟨0, [], by omega, rfl, rfl, ⟨rfl, .inl ⟨rfl, rfl⟩⟩, (by have h := HOD.out; rw [HD3.out] at h; rw [HD3.out]; exact h), HB4.out⟩
        case round =>
          obtain ⟨i, vs, hi, rfl, hvs, hown, hod, hb⟩ := hrel
          have HB5 := hidden hb
          have HOW5 := hidden hown
          have HOD5 := hidden hod
          have HVS := hidden hvs
          have HVL := hidden (show vs.length = i by rw [hvs, List.length_map, List.length_take]; omega)
          have hdl := HD3.out
          rw [hdl] at hod hi
          clear hb hown hvs
          by_cases hlt2 : i < k
          · have hid : i < d'.length := by omega
            obtain ⟨g, rfl⟩ : ∃ g, AD = some ⟨g, 0, none⟩ := by
              rcases hod.2 with ⟨h1, h2⟩ | ⟨g, cap, cur, h1, _⟩
              · omega
              · injection h1 with h1
                exact ⟨g, h1⟩
            have hcell := hod.cellAt i (by omega)
            rw [wcells_get hid] at hcell
            have HNX := hidden (show (d'.take (i + 1)).map (valV z) = vs ++ [valV z d'[i]] by
              rw [List.take_succ_eq_append_getElem hid, List.map_append, HVS.out]; rfl)
            have hv1 := hwz d'[i]
            generalize d'[i] = y at *
            have hsz := HB5.out.size
            clear hid hod hdl
            go_wp2_with ((at_builtin; go_loud (refine wpList_append_ik rfl _ _ rfl _ vs (by rfl) w.heap.size HOW5.out _ HB5.out hsz (valV z y) (by rfl) (by rw [HVL.out]; omega) ?_); intro v6 w6 hown6 hb6 hk6; have HO6 := hidden hown6; have HB6 := hidden hb6; have HD6 := hidden (hk6 _ _ _ _ _ _ (by decide) HOD5.out); clear hown6 hb6 hk6))
            refine ⟨⟨i + 1, vs ++ [valV z y], by rw [HD3.out]; omega, by go_num, HNX.out.symm, HO6.out, HD6.out, HB6.out⟩, by simp [intOf]; omega⟩
          · have hie : i = d'.length := by omega
            have HVV := hidden (show vs = d'.map (valV z) by rw [HVS.out, hie, List.take_length])
            have HIN : Hid (∀ x ∈ vs, frIn x) := by
              intro x hx
              rw [HVV.out, List.mem_map] at hx
              obtain ⟨y, _, rfl⟩ := hx
              exact valV_in z y
            have hik : i = k := by omega
            clear hod hdl hie
            subst hik
            have HEN := hidden (rencodeF_any u19 vs wr (Reads.of_own HOW5.out) (by rw [HVL.out]; omega) HIN.out)
            have HLE := hidden (encV_len vs)
            obtain ⟨wt, hwt⟩ : ∃ wt, wt = encV vs := ⟨_, rfl⟩
            rw [← hwt] at HEN HLE
            have HWT := hidden hwt
            obtain ⟨gt, hgt⟩ : ∃ gt, gt = (b.drop O).take (Q - O) := ⟨_, rfl⟩
            have HGL := hidden (show gt.length = Q - O by rw [hgt, List.length_take, List.length_drop]; omega)
            have HGT := hidden hgt
            have HQO := hidden (show ((Q : Int) - (O : Int)).toNat = Q - O by omega)
            have HOK := hidden (fun h => decV_ok HF.out HXD.out h)
            have HNO := hidden (fun h => decV_e3 HF.out HXD.out h)
            rw [HQO.out, Int.toNat_natCast, ← HGT.out, ← HVV.out, ← HWT.out] at HOK HNO
            have hO1 : O ≤ Q := by omega
            clear hwt hgt hwz
            go_wp2_with fail
            refine HEN.out.mono ?_
            rintro e w7 ⟨v7, rfl, hb7, hu7⟩
            obtain ⟨A7, c7, hv7, _⟩ := id hu7
            subst hv7
            have HU7 := hidden hu7
            have HB7 := hidden (Grows.of_below HB5.out hb7)
            have HI7 := hidden (IsI.grow (show IsI wr u19 vs from Reads.of_own HOW5.out) hb7)
            clear hb7 hu7
            by_cases hlen : wt.length = Q - O
            · have hdn : ((wt.length : Int) != (Q : Int) - (O : Int)) = false := by simp; omega
              have HLN := hidden hlen
              have hwl : wt.length ≤ 2000000 := by have := HLE.out; have := HVL.out; omega
              clear hlen
              go_wp2_with fail
              go_loopw [22] (fun i wr => RCmpRel w7 wt gt i wr) (fun i _ => wt.length - (intOf i).toNat)
              case atStart => exact ⟨0, by omega, rfl, by simp, Below.refl _ _⟩
              case round =>
                obtain ⟨j, hj, rfl, hsame, hb⟩ := hrel
                have HB8 := hidden hb
                have HSM := hidden hsame
                clear hb hsame
                by_cases hlt3 : j < wt.length
                · obtain ⟨b1, o1, hA1, hy1⟩ := byte_at (HU7.out.grow HB8.out) hlt3
                  subst hA1
                  have hOj : O + j < b.length := by have := HLN.out; omega
                  obtain ⟨b2, o2, hA2, hy2⟩ := byte_at (HV.out.grow (HB7.out.of_below HB8.out)) hOj
                  injection hA2 with hA2
                  injection hA2 with e1 e2
                  subst e1 e2
                  have hjg : j < gt.length := by rw [HGL.out]; have := HLN.out; omega
                  have HTA := hidden (List.take_succ_eq_append_getElem hlt3)
                  have HTB := hidden (List.take_succ_eq_append_getElem hjg)
                  have hg1 : wt.getD j 0 = wt[j] := by rw [List.getD_eq_getElem?_getD, List.getElem?_eq_getElem hlt3]; rfl
                  have hg2 : b.getD (O + j) 0 = gt[j] := by
                    have h1 : gt[j]? = b[O + j]? := by rw [HGT.out, List.getElem?_take, if_pos (by have := HLN.out; omega), List.getElem?_drop]
                    rw [List.getElem?_eq_getElem hjg] at h1
                    rw [List.getD_eq_getElem?_getD, ← h1]; rfl
                  rw [hg1] at hy1
                  rw [hg2] at hy2
                  have hw1 : (O : Int) + (j : Int) < (b.length : Int) := by omega
                  clear hg1 hg2
                  by_cases heq : wt[j] = gt[j]
                  · have hE : ((wt[j].toNat : Int) != (gt[j].toNat : Int)) = false := by rw [heq]; simp
                    have HEQ := hidden heq
                    clear heq
                    generalize wt[j] = x1 at *
                    generalize gt[j] = x2 at *
                    go_wp2_with fail
                    go_quiet (fail)
                    go_wp2
                    go_roundw
                    case rel =>
                      refine ⟨j + 1, by omega, by go_num, ?_, fr_draws HB8.out _⟩
                      rw [HTA.out, HTB.out, HSM.out, HEQ.out]
                    case measure => simp [intOf]; omega
                  · have hne : wt[j].toNat ≠ gt[j].toNat := fun h => heq (UInt8.toNat_inj.1 h)
                    have hE : ((wt[j].toNat : Int) != (gt[j].toNat : Int)) = true := by simp only [bne_iff_ne, ne_eq]; omega
                    have HEE := hidden (HNO.out (fun h => heq (by simp only [h])))
                    clear heq hne
                    generalize wt[j] = x1 at *
                    generalize gt[j] = x2 at *
                    go_wp2_with fail
                    go_quiet (fail)
                    go_wp2
                    go_ret3
                    exact DecR.err HEE.out (fr_draws (HB7.out.of_below HB8.out) _)
                · have hje : j = wt.length := by omega
                  have HEE := hidden (HOK.out (by
                    have h := HSM.out
                    rw [hje, List.take_length, HLN.out, ← HGL.out, List.take_length] at h
                    exact h))
                  clear hje
                  go_wp2_with fail
                  go_ret3
                  exact ⟨_, by rw [HEE.out]; rfl, by rw [HEE.out]; exact IsI.grow HI7.out HB8.out, HB7.out.of_below HB8.out⟩
            · have hdn : ((wt.length : Int) != (Q : Int) - (O : Int)) = true := by simp; omega
              have HEE := hidden (HNO.out (fun h => hlen (by rw [h, HGL.out])))
              clear hlen
              go_wp2_with fail
              go_ret3
              exact DecR.err HEE.out HB7.out
      · have HEE := hidden (decV_e2 HF.out HXD.out hf)
        have hd : (f != 0) = true := by simpa using hf
        clear hf hr
        go_wp2_with fail
        go_ret3
        exact DecR.err HEE.out HB4.out
end Go.Proofs.Ytjjeebaelpgjlaa
