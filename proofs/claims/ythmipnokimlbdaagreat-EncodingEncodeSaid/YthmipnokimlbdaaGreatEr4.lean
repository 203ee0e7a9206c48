/-
  Shaken: what the claims of this seat need of this text. No condition.
-/
import Derived.Test.YthmipnokimlbdaaGreatM17
import Derived.Test.YthmipnokimlbdaaGreatM20
import Derived.Test.YthmipnokimlbdaaGreatM13
import Derived.Test.YthmipnokimlbdaaGreatM7
import Derived.Test.YthmipnokimlbdaaGreatM12
import Derived.Test.YthmipnokimlbdaaGreatDcRE
import Derived.Test.YthmipnokimlbdaaGreatFc3
import Derived.Test.YthmipnokimlbdaaGreatFix
namespace Go.Proofs.YthmipnokimlbdaaGreat
set_option maxRecDepth 8000
open Go.RowKit
set_option linter.unusedVariables false
set_option linter.unusedSimpArgs false
def UnsRel (w : World) (l : List Int) (out i : Value) (wr : World) : Prop :=
  ∃ k : Nat, k ≤ l.length ∧ i = .int .i64 (k : Int) ∧ wr.ownsRow w.heap.size 85 1 out ((l.take k).map toU).length (wcells ((l.take k).map toU)) ∧ Below w.heap.size w wr
set_option maxHeartbeats 4000000 in
theorem runsigned_any (v : Value) (l : List Int) (w : World) (hv : IsI w v l) (hl : l.length ≤ 1000000) :
    Calls Tryz.prog 105 #[v] w fun e w' => ∃ u, e = .returned u ∧ Grows w w' ∧ IsW w' u (l.map toU) := by
  have HV := hidden hv
  obtain ⟨A, c, rfl⟩ := hv.slice_
  clear hv
  go_enter Tryz.func105, Tryz.ntmps105
  go_wp2_with fail
  go_loopw [3, 4] (fun out i wr => UnsRel w l out i wr) (fun _ i _ => l.length - (intOf i).toNat)
  case atStart => exact ⟨0, by omega, rfl, World.ownsRow_nil _ _ _ _, Below.refl _ _⟩
  case round =>
    obtain ⟨k, hk, rfl, hown, hb⟩ := hrel
    have HB := hidden hb
    have HO := hidden hown
    clear hb hown
    by_cases hlt : k < l.length
    · obtain ⟨bb, f, rfl, hck⟩ := (HV.out.grow HB.out).at_ hlt
      have HT := hidden (show (l.take (k + 1)).map toU = (l.take k).map toU ++ [toU l[k]] by rw [List.take_succ_eq_append_getElem hlt, List.map_append]; rfl)
      have HL := hidden (show ((l.take k).map toU).length = k by rw [List.length_map, List.length_take]; omega)
      generalize (l.take k).map toU = ps at *
      generalize l[k] = x at *
      have hsz := HB.out.size
      go_wp2_with ((at_builtin; go_loud (refine wpList_append_wk rfl _ _ rfl _ ps (by rfl) w.heap.size HO.out _ HB.out hsz _ (toU x) (toU_cast x).symm (by rfl) (by rw [HL.out]; omega) ?_); intro v3 w3 hown3 hb3 _; have HO3 := hidden hown3; have HB3 := hidden hb3; clear hown3 hb3))
      go_roundw
      case rel => exact ⟨k + 1, by omega, by go_num, by rw [HT.out]; exact HO3.out, HB3.out⟩
      case measure => simp [intOf]; omega
    · have HF := hidden (show l.take k = l by rw [List.take_of_length_le (by omega)])
      go_wp2_with fail
      go_ret
      refine ⟨_, rfl, HB.out, ?_⟩
      have h := HO.out
      rw [HF.out] at h
      exact Reads.of_own h
theorem rfix8_any (x : Int) (w : World) : Calls Tryz.prog 106 #[.int .u64 (IntKind.u64.wrap x), .int .i64 8] w (Made (fixb (toU x) 8) w) := by
  have h1 := toU_cast x
  have h2 := toU_lt x
  have h := rfixed_any (IntKind.u64.wrap x) 8 w (by omega) (by omega)
  have e : fixs (IntKind.u64.wrap x).toNat 8 = fixb (toU x) 8 := fixs_ok (s := 8) (by decide) (by decide)
  rwa [e] at h
def plR (v : Vec) : List UInt8 := if v.T = 1 then plB v.is else plI v.is ++ wordsL v.ts
theorem plR_pay {v : Vec} (h : Encable v) : plR v = pay 0 v := by
  unfold plR pay payT payI
  by_cases h3 : v.T = 3
  · rw [if_neg (by omega), if_pos h3, (h.lt h3).2]; rfl
  · rw [if_neg h3, if_pos rfl]
    by_cases h1 : v.T = 1
    · rw [if_pos h1, if_pos h1]
    · rw [if_neg h1, if_neg h1, (h.li h3).2]; simp [wordsL]
def PlIRel (w1 : World) (l : List Int) (out i : Value) (wr : World) : Prop :=
  ∃ k : Nat, k ≤ l.length ∧ i = .int .i64 (k : Int) ∧ wr.ownsRow w1.heap.size 5 1 out (plI (l.take k)).length (bcells (plI (l.take k))) ∧ Below w1.heap.size w1 wr
def PlTRel (w1 : World) (P : List UInt8) (l : List Str) (out i : Value) (wr : World) : Prop :=
  ∃ k : Nat, k ≤ l.length ∧ i = .int .i64 (k : Int) ∧ wr.ownsRow w1.heap.size 5 1 out (P ++ wordsL (l.take k)).length (bcells (P ++ wordsL (l.take k))) ∧ Below w1.heap.size w1 wr
set_option maxHeartbeats 8000000 in
theorem rplain_any (x : Value) (v : Vec) (w : World) (hx : IsV w x v) (hf : Fine v) : Calls Tryz.prog 51 #[x] w (ByR (plR v) w) := by
  obtain ⟨a1, a2, a3, rfl, j1, j2, j3⟩ := hx
  obtain ⟨A1, c1, rfl⟩ := j1.slice_
  obtain ⟨A2, c2, rfl⟩ := j2.slice_
  obtain ⟨A3, c3, rfl⟩ := j3.slice_
  have hli := hf.li
  have hlt := hf.lt
  have HSS := hidden hf.ss
  have HWT := hidden (words_tot hf.lt hf.ss)
  obtain ⟨T, is, ts, ns⟩ := v
  dsimp only at *
  have HG1 := hidden (growB w (.cells #[.int .i64 T, .slice A1 is.length c1, .slice A2 ts.length c2, .slice A3 ns.length c3] 26))
  have HR := hidden (Row.new w 26 #[.int .i64 T, .slice A1 is.length c1, .slice A2 ts.length c2, .slice A3 ns.length c3] [.int .i64 T, .slice A1 is.length c1, .slice A2 ts.length c2, .slice A3 ns.length c3] rfl)
  have HI := hidden (IsI.grow j1 HG1.out)
  have HTX := hidden (IsS.grow j2 HG1.out)
  clear j1 j2 j3 hf
  by_cases hT : T = 1
  · subst hT
    have HE := hidden (show plR ⟨1, is, ts, ns⟩ = plB is from if_pos rfl)
    have HU := hidden (runsigned_any (.slice A1 is.length c1) is _ HI.out (by omega))
    have HP := hidden (fun u W h => rpack_any u (is.map toU) 1 W h (U64_toU is) (by rw [List.length_map]; omega))
    rw [packI_one (by omega)] at HP
    go_enter Tryz.func51, Tryz.ntmps51
    go_wp2_with fail
    refine HU.out.mono ?_
    rintro e w2 ⟨u, rfl, g2, hu⟩
    have HG2 := hidden (HG1.out.of_below g2)
    have HUW := hidden hu
    clear g2 hu
    go_wp2_with fail
    refine (HP.out u w2 HUW.out).mono ?_
    rintro e w3 ⟨v3, rfl, g3, hb3⟩
    have HG3 := hidden (HG2.out.of_below g3)
    have HB3 := hidden hb3
    clear g3 hb3
    go_wp2_with fail
    go_ret
    exact ⟨_, rfl, HG3.out, by rw [HE.out]; exact HB3.out⟩
  · have HE := hidden (show plR ⟨T, is, ts, ns⟩ = plI is ++ wordsL ts from if_neg hT)
    have eT : (T == 1) = false := by simpa using hT
    clear hT
    go_enter Tryz.func51, Tryz.ntmps51
    go_wp2_with fail
    go_loopw [3, 4] (fun out i wr => PlIRel (w.alloc (.cells #[.int .i64 T, .slice A1 is.length c1, .slice A2 ts.length c2, .slice A3 ns.length c3] 26)) is out i wr) (fun _ i _ => is.length - (intOf i).toNat)
    case atStart => exact ⟨0, by omega, rfl, World.ownsRow_nil _ _ _ _, Below.refl _ _⟩
    case round =>
      obtain ⟨k, hk, rfl, hown, hb⟩ := hrel
      have HB := hidden hb
      have HO := hidden hown
      have HRW := hidden (HR.out.grow hb)
      have x0 := HRW.out.cell 0
      have x1 := HRW.out.cell 1
      have x2 := HRW.out.cell 2
      have x3 := HRW.out.cell 3
      simp only [List.getElem?_cons_succ, List.getElem?_cons_zero] at x0 x1 x2 x3
      clear hb hown
      by_cases hki : k < is.length
      · obtain ⟨bb, f, hA, hck⟩ := (HI.out.grow HB.out).at_ hki
        subst hA
        have HT := hidden (show plI (is.take (k + 1)) = plI (is.take k) ++ fixb (toU is[k]) 8 by rw [List.take_succ_eq_append_getElem hki, plI_snoc])
        have HL := hidden (show (plI (is.take k)).length ≤ 8 * 65536 by rw [plI_length, List.length_take]; omega)
        generalize plI (is.take k) = ps at *
        generalize is[k] = x at *
        have HFX := hidden (rfix8_any x wr)
        have HFL := hidden (fixb_length (toU x) 8)
        generalize fixb (toU x) 8 = F at *
        go_wp2_with fail
        refine HFX.out.mono ?_
        rintro e w2 ⟨v2, rfl, hown2, g2⟩
        have HO2 := hidden (own_growS HO.out g2)
        have HB2 := hidden (HB.out.trans (g2.mono HB.out.size))
        have HBY := hidden (IsBytes.of_own hown2)
        clear hown2 g2 hck
        go_wp2_with ((at_builtin; go_loud (refine wpList_append_bytes (w := w.alloc (.cells #[.int .i64 T, .slice (some ⟨bb, f, none⟩) is.length c1, .slice A2 ts.length c2, .slice A3 ns.length c3] 26)) rfl _ _ 29 rfl 5 Tryz.underlying29 info_u8 _ ps (by rfl) HO2.out HB2.out _ F (by rfl) HBY.out (by have := HL.out; have := HFL.out; omega) ?_); intro v3 w3 hown3 hb3; have HO3 := hidden hown3; have HB3 := hidden hb3; clear hown3 hb3))
        go_roundw
        case rel => exact ⟨k + 1, by omega, by go_num, by rw [HT.out]; exact HO3.out, HB3.out⟩
        case measure => simp [intOf]; omega
      · have HF := hidden (show is.take k = is by rw [List.take_of_length_le (by omega)])
        rw [HF.out] at HO
        have HPL := hidden (plI_length is)
        generalize plI is = P at *
        go_wp2_with fail
        go_loopw [3, 5] (fun out i wr' => PlTRel (w.alloc (.cells #[.int .i64 T, .slice A1 is.length c1, .slice A2 ts.length c2, .slice A3 ns.length c3] 26)) P ts out i wr') (fun _ i _ => ts.length - (intOf i).toNat)
        case atStart => exact ⟨0, by omega, rfl, by have h := HO.out; simpa [wordsL] using h, HB.out⟩
        case round =>
          obtain ⟨j, hj, rfl, hown2, hb2⟩ := hrel
          have HB := hidden hb2
          have HO := hidden hown2
          have HRW := hidden (HR.out.grow hb2)
          have x0 := HRW.out.cell 0
          have x1 := HRW.out.cell 1
          have x2 := HRW.out.cell 2
          have x3 := HRW.out.cell 3
          simp only [List.getElem?_cons_succ, List.getElem?_cons_zero] at x0 x1 x2 x3
          clear hb2 hown2
          by_cases hkj : j < ts.length
          · obtain ⟨bb, f, hA, hcA⟩ := HTX.out.all_ (by omega)
            subst hA
            have HCK := hidden (fun W hW => hcA W hW j hkj)
            have hck := HCK.out _ HB.out
            clear hcA
            have HTK := hidden (wordsL_take hkj)
            have hsl := HSS.out _ (List.getElem_mem hkj)
            have HWL := hidden (show (wordsL (ts.take j)).length ≤ 100000000000000 by
              have h1 := wordsL_len (ws := ts.take j) fun x hx => Nat.le_trans (HSS.out x (List.mem_of_mem_take hx)) (by decide)
              rw [List.length_take] at h1
              have h3 : 1000010 * min j ts.length ≤ 1000010 * 1000000 := Nat.mul_le_mul_left _ (by omega)
              omega)
            obtain ⟨Q, hQ⟩ : ∃ Q, P ++ wordsL (ts.take j) = Q := ⟨_, rfl⟩
            have HTP := hidden (show P ++ wordsL (ts.take (j + 1)) = Q ++ enc ts[j].length ++ ts[j] by
              rw [HTK.out, ← hQ]; simp [wordL])
            have HQL := hidden (show Q.length ≤ 100000001000000 by rw [← hQ, List.length_append, HPL.out]; have := HWL.out; omega)
            rw [hQ] at HO
            have hsz : (strOf ts[j]).size = ts[j].length := rfl
            have HEK := hidden (rencode_any (ts[j].length : Int) wr (by omega) (by omega))
            rw [Int.toNat_natCast] at HEK
            have HEL2 := hidden (enc_len10 (n := ts[j].length) (by omega))
            have hwk : IntKind.u64.wrap (ts[j].length : Int) = (ts[j].length : Int) := by rw [IntKind.wrap_u64]; omega
            generalize ts[j] = s at *
            generalize enc s.length = E at *
            clear hQ HTK
            go_wp2_with fail
            refine HEK.out.mono ?_
            rintro e w2 ⟨v2, rfl, hown2, g2⟩
            have HO2 := hidden (own_growS HO.out g2)
            have HB2 := hidden (HB.out.trans (g2.mono HB.out.size))
            have HBY := hidden (IsBytes.of_own hown2)
            clear hown2 g2 hck
            have hw1 := HQL.out
            have hw2 := HEL2.out
            go_wp2_with (first
              | (at_builtin; refine wpList_append_bytes (w := w.alloc (.cells #[.int .i64 T, .slice A1 is.length c1, .slice (some ⟨bb, f, none⟩) ts.length c2, .slice A3 ns.length c3] 26)) rfl _ _ 29 rfl 5 Tryz.underlying29 info_u8 _ Q (by rfl) HO2.out HB2.out _ E (by rfl) HBY.out (by omega) ?_; intro v3 w3 hown3 hb3; have HO3 := hidden hown3; have HB3 := hidden hb3; have HRX := hidden (HR.out.grow hb3); have x0 := HRX.out.cell 0; have x1 := HRX.out.cell 1; have x2 := HRX.out.cell 2; have x3 := HRX.out.cell 3; simp only [List.getElem?_cons_succ, List.getElem?_cons_zero] at x0 x1 x2 x3; have hck3 := HCK.out _ hb3; clear hown3 hb3)
              | (at_builtin; refine wpList_append_str (w := w.alloc (.cells #[.int .i64 T, .slice A1 is.length c1, .slice (some ⟨bb, f, none⟩) ts.length c2, .slice A3 ns.length c3] 26)) rfl _ _ 29 9 rfl 5 Tryz.underlying29 Tryz.underlying9 info_u8 _ (Q ++ E) (by rfl) HO3.out HB3.out s (by rfl) (by rw [List.length_append]; omega) ?_; intro v4 w4 hown4 hb4; have HO4 := hidden hown4; have HB4 := hidden hb4; clear hown4 hb4))
            go_roundw
            case rel => exact ⟨j + 1, by omega, by go_num, by rw [HTP.out]; exact HO4.out, HB4.out⟩
            case measure => simp [intOf]; omega
          · have HF2 := hidden (show ts.take j = ts by rw [List.take_of_length_le (by omega)])
            rw [HF2.out] at HO
            go_wp2_with fail
            go_ret
            exact ⟨_, rfl, HG1.out.of_below HB.out, by rw [HE.out]; exact IsBytes.of_own HO.out⟩
set_option maxHeartbeats 4000000 in
theorem rform0_any (x : Value) (v : Vec) (w : World) (hx : IsV w x v) (hf : Fine v) (he : Encable v) (ha : apl 0 v.T = true) :
    Calls Tryz.prog 36 #[x, .int .i64 0] w (ByR (formE 0 v) w) := by
  have hpl := pay_len (k := 0) hf
  have hx0 := hx
  obtain ⟨a1, a2, a3, rfl, j1, j2, j3⟩ := hx0
  obtain ⟨A1, c1, rfl⟩ := j1.slice_
  obtain ⟨A2, c2, rfl⟩ := j2.slice_
  obtain ⟨A3, c3, rfl⟩ := j3.slice_
  obtain ⟨T, is, ts, ns⟩ := v
  dsimp only at *
  have hfe : formE 0 ⟨T, is, ts, ns⟩ = [UInt8.ofNat 0] ++ plR ⟨T, is, ts, ns⟩ := by unfold formE; rw [← plR_pay he]; rfl
  have hpe : (formE 0 ⟨T, is, ts, ns⟩).length = (pay 0 ⟨T, is, ts, ns⟩).length + 1 := by unfold formE; rw [List.length_cons]
  have HLEN := hidden (show (plR ⟨T, is, ts, ns⟩).length ≤ 100000000000000 by rw [hfe, List.length_append, List.length_cons, List.length_nil] at hpe; omega)
  have HFE := hidden hfe
  have HC := hidden (fun W (h : Grows w W) => rplain_any (.agg #[.int .i64 T, .slice A1 is.length c1, .slice A2 ts.length c2, .slice A3 ns.length c3]) ⟨T, is, ts, ns⟩ W (hx.grow h) hf)
  generalize plR ⟨T, is, ts, ns⟩ = L at *
  have HG1 := hidden (growB w (.cells #[.int .i64 T, .slice A1 is.length c1, .slice A2 ts.length c2, .slice A3 ns.length c3] 26))
  have HR := hidden ((Row.new w 26 #[.int .i64 T, .slice A1 is.length c1, .slice A2 ts.length c2, .slice A3 ns.length c3] [.int .i64 T, .slice A1 is.length c1, .slice A2 ts.length c2, .slice A3 ns.length c3] rfl).grow (growB _ (.cells #[.int .u8 0] 5)))
  have HG2 := hidden (HG1.out.of_below (growB (w.alloc (.cells #[.int .i64 T, .slice A1 is.length c1, .slice A2 ts.length c2, .slice A3 ns.length c3] 26)) (.cells #[.int .u8 0] 5)))
  have HO := hidden ((Row.at_ (w.alloc (.cells #[.int .i64 T, .slice A1 is.length c1, .slice A2 ts.length c2, .slice A3 ns.length c3] 26)) 5 #[.int .u8 0] (bcells [UInt8.ofNat 0]) rfl (w.heap.size + 1) (by rw [World.size_alloc])).own (base := w.heap.size) (by omega) (by decide))
  have x0 := HR.out.cell 0
  have x1 := HR.out.cell 1
  have x2 := HR.out.cell 2
  have x3 := HR.out.cell 3
  simp only [List.getElem?_cons_succ, List.getElem?_cons_zero] at x0 x1 x2 x3
  clear hx hpl hfe hpe j1 j2 j3 hf he ha
  go_enter Tryz.func36, Tryz.ntmps36
  go_wp2_with fail
  refine (HC.out _ HG2.out).mono ?_
  rintro e w4 ⟨v4, rfl, g4, hby4⟩
  have HBY := hidden hby4
  have HG4 := hidden (HG2.out.of_below g4)
  have HO4 := hidden (own_growS HO.out g4)
  clear hby4 g4 x0 x1 x2 x3
  go_wp2_with ((at_builtin; go_loud (refine wpList_append_bytes (w := w) rfl _ _ 29 rfl 5 Tryz.underlying29 info_u8 _ [UInt8.ofNat 0] (by rfl) HO4.out HG4.out _ L (by rfl) HBY.out (by have := HLEN.out; rw [List.length_cons, List.length_nil]; omega) ?_); intro v5 w5 hown5 hb5; have HO5 := hidden hown5; have HB5 := hidden hb5; clear hown5 hb5))
  go_ret
  exact ⟨_, rfl, HB5.out, by rw [HFE.out]; exact IsBytes.of_own HO5.out⟩
set_option maxHeartbeats 4000000 in
theorem rform1_any (x : Value) (v : Vec) (w : World) (hx : IsV w x v) (hf : Fine v) (he : Encable v) (ha : apl 1 v.T = true) :
    Calls Tryz.prog 36 #[x, .int .i64 1] w (ByR (formE 1 v) w) := by
  have hpl := pay_len (k := 1) hf
  have hx0 := hx
  obtain ⟨a1, a2, a3, rfl, j1, j2, j3⟩ := hx0
  obtain ⟨A1, c1, rfl⟩ := j1.slice_
  obtain ⟨A2, c2, rfl⟩ := j2.slice_
  obtain ⟨A3, c3, rfl⟩ := j3.slice_
  obtain ⟨T, is, ts, ns⟩ := v
  dsimp only at *
  have hfe : formE 1 ⟨T, is, ts, ns⟩ = [UInt8.ofNat 1] ++ encR (runsR is) := by unfold formE pay payI; rw [if_neg (by have h := ha; unfold apl at h; dsimp only at h ⊢; intro h3; subst h3; simp at h)]; rfl
  have hpe : (formE 1 ⟨T, is, ts, ns⟩).length = (pay 1 ⟨T, is, ts, ns⟩).length + 1 := by unfold formE; rw [List.length_cons]
  have HLEN := hidden (show (encR (runsR is)).length ≤ 100000000000000 by rw [hfe, List.length_append, List.length_cons, List.length_nil] at hpe; omega)
  have HFE := hidden hfe
  have hli : is.length ≤ 65536 := hf.li
  have hval := runs_valid hli
  have hll := valid_length hval
  have hcnt : ∀ x ∈ runsR is, 0 ≤ x.2 ∧ x.2 ≤ 9223372036854775807 := fun x hx => by obtain ⟨j, hj, rfl⟩ := List.getElem_of_mem hx; have h1 := valid_count hval hj; have h2 := (valid_sum hval j (by omega)).1; omega
  have HRU := hidden (fun W (h : Grows w W) => rlruns_any (.slice A1 is.length c1) is W (IsI.grow j1 h) (Nat.le_trans hf.li (by decide)))
  have HC := hidden (fun w' v' (h : ReadsR w' v' (runsR is)) => rlencode_any v' (runsR is) w' h (runs_in hf.ii) hcnt (by omega))
  generalize encR (runsR is) = L at *
  have HG1 := hidden (growB w (.cells #[.int .i64 T, .slice A1 is.length c1, .slice A2 ts.length c2, .slice A3 ns.length c3] 26))
  have HR := hidden ((Row.new w 26 #[.int .i64 T, .slice A1 is.length c1, .slice A2 ts.length c2, .slice A3 ns.length c3] [.int .i64 T, .slice A1 is.length c1, .slice A2 ts.length c2, .slice A3 ns.length c3] rfl).grow (growB _ (.cells #[.int .u8 1] 5)))
  have HG2 := hidden (HG1.out.of_below (growB (w.alloc (.cells #[.int .i64 T, .slice A1 is.length c1, .slice A2 ts.length c2, .slice A3 ns.length c3] 26)) (.cells #[.int .u8 1] 5)))
  have HO := hidden ((Row.at_ (w.alloc (.cells #[.int .i64 T, .slice A1 is.length c1, .slice A2 ts.length c2, .slice A3 ns.length c3] 26)) 5 #[.int .u8 1] (bcells [UInt8.ofNat 1]) rfl (w.heap.size + 1) (by rw [World.size_alloc])).own (base := w.heap.size) (by omega) (by decide))
  have x0 := HR.out.cell 0
  have x1 := HR.out.cell 1
  have x2 := HR.out.cell 2
  have x3 := HR.out.cell 3
  simp only [List.getElem?_cons_succ, List.getElem?_cons_zero] at x0 x1 x2 x3
  clear hx hpl hfe hpe j1 j2 j3 hf he ha hval hll hcnt hli
  go_enter Tryz.func36, Tryz.ntmps36
  go_wp2_with fail
  refine (HRU.out _ HG2.out).mono ?_
  rintro e w2 ⟨u, rfl, g2, hr2⟩
  have HR2 := hidden hr2
  have HG3 := hidden (HG2.out.of_below g2)
  have HO3 := hidden (own_growS HO.out g2)
  clear hr2 g2
  go_wp2_with fail
  refine (HC.out _ _ HR2.out).mono ?_
  rintro e w4 ⟨v4, rfl, hown4, g4⟩
  have HBY := hidden (IsBytes.of_own hown4)
  have HG4 := hidden (HG3.out.of_below g4)
  have HO4 := hidden (own_growS HO3.out g4)
  clear hown4 g4 x0 x1 x2 x3
  go_wp2_with ((at_builtin; go_loud (refine wpList_append_bytes (w := w) rfl _ _ 29 rfl 5 Tryz.underlying29 info_u8 _ [UInt8.ofNat 1] (by rfl) HO4.out HG4.out _ L (by rfl) HBY.out (by have := HLEN.out; rw [List.length_cons, List.length_nil]; omega) ?_); intro v5 w5 hown5 hb5; have HO5 := hidden hown5; have HB5 := hidden hb5; clear hown5 hb5))
  go_ret
  exact ⟨_, rfl, HB5.out, by rw [HFE.out]; exact IsBytes.of_own HO5.out⟩
set_option maxHeartbeats 4000000 in
theorem rform2_any (x : Value) (v : Vec) (w : World) (hx : IsV w x v) (hf : Fine v) (he : Encable v) (ha : apl 2 v.T = true) :
    Calls Tryz.prog 36 #[x, .int .i64 2] w (ByR (formE 2 v) w) := by
  have hpl := pay_len (k := 2) hf
  have hx0 := hx
  obtain ⟨a1, a2, a3, rfl, j1, j2, j3⟩ := hx0
  obtain ⟨A1, c1, rfl⟩ := j1.slice_
  obtain ⟨A2, c2, rfl⟩ := j2.slice_
  obtain ⟨A3, c3, rfl⟩ := j3.slice_
  obtain ⟨T, is, ts, ns⟩ := v
  dsimp only at *
  have hfe : formE 2 ⟨T, is, ts, ns⟩ = [UInt8.ofNat 2] ++ encV is := by unfold formE pay payI; rw [if_neg (by have h := ha; unfold apl at h; dsimp only at h ⊢; intro h3; subst h3; simp at h)]; rfl
  have hpe : (formE 2 ⟨T, is, ts, ns⟩).length = (pay 2 ⟨T, is, ts, ns⟩).length + 1 := by unfold formE; rw [List.length_cons]
  have HLEN := hidden (show (encV is).length ≤ 100000000000000 by rw [hfe, List.length_append, List.length_cons, List.length_nil] at hpe; omega)
  have HFE := hidden hfe
  have HC := hidden (fun W (h : Grows w W) => rencodeF_any (.slice A1 is.length c1) is W (IsI.grow j1 h) hf.li hf.ii)
  generalize encV is = L at *
  have HG1 := hidden (growB w (.cells #[.int .i64 T, .slice A1 is.length c1, .slice A2 ts.length c2, .slice A3 ns.length c3] 26))
  have HR := hidden ((Row.new w 26 #[.int .i64 T, .slice A1 is.length c1, .slice A2 ts.length c2, .slice A3 ns.length c3] [.int .i64 T, .slice A1 is.length c1, .slice A2 ts.length c2, .slice A3 ns.length c3] rfl).grow (growB _ (.cells #[.int .u8 2] 5)))
  have HG2 := hidden (HG1.out.of_below (growB (w.alloc (.cells #[.int .i64 T, .slice A1 is.length c1, .slice A2 ts.length c2, .slice A3 ns.length c3] 26)) (.cells #[.int .u8 2] 5)))
  have HO := hidden ((Row.at_ (w.alloc (.cells #[.int .i64 T, .slice A1 is.length c1, .slice A2 ts.length c2, .slice A3 ns.length c3] 26)) 5 #[.int .u8 2] (bcells [UInt8.ofNat 2]) rfl (w.heap.size + 1) (by rw [World.size_alloc])).own (base := w.heap.size) (by omega) (by decide))
  have x0 := HR.out.cell 0
  have x1 := HR.out.cell 1
  have x2 := HR.out.cell 2
  have x3 := HR.out.cell 3
  simp only [List.getElem?_cons_succ, List.getElem?_cons_zero] at x0 x1 x2 x3
  clear hx hpl hfe hpe j1 j2 j3 hf he ha
  go_enter Tryz.func36, Tryz.ntmps36
  go_wp2_with fail
  refine (HC.out _ HG2.out).mono ?_
  rintro e w4 ⟨v4, rfl, g4, hby4⟩
  have HBY := hidden hby4
  have HG4 := hidden (HG2.out.of_below g4)
  have HO4 := hidden (own_growS HO.out g4)
  clear hby4 g4 x0 x1 x2 x3
  go_wp2_with ((at_builtin; go_loud (refine wpList_append_bytes (w := w) rfl _ _ 29 rfl 5 Tryz.underlying29 info_u8 _ [UInt8.ofNat 2] (by rfl) HO4.out HG4.out _ L (by rfl) HBY.out (by have := HLEN.out; rw [List.length_cons, List.length_nil]; omega) ?_); intro v5 w5 hown5 hb5; have HO5 := hidden hown5; have HB5 := hidden hb5; clear hown5 hb5))
  go_ret
  exact ⟨_, rfl, HB5.out, by rw [HFE.out]; exact IsBytes.of_own HO5.out⟩
set_option maxHeartbeats 4000000 in
theorem rform3_any (x : Value) (v : Vec) (w : World) (hx : IsV w x v) (hf : Fine v) (he : Encable v) (ha : apl 3 v.T = true) :
    Calls Tryz.prog 36 #[x, .int .i64 3] w (ByR (formE 3 v) w) := by
  have hpl := pay_len (k := 3) hf
  have hx0 := hx
  obtain ⟨a1, a2, a3, rfl, j1, j2, j3⟩ := hx0
  obtain ⟨A1, c1, rfl⟩ := j1.slice_
  obtain ⟨A2, c2, rfl⟩ := j2.slice_
  obtain ⟨A3, c3, rfl⟩ := j3.slice_
  obtain ⟨T, is, ts, ns⟩ := v
  dsimp only at *
  have hfe : formE 3 ⟨T, is, ts, ns⟩ = [UInt8.ofNat 3] ++ dlEnc is := by unfold formE pay payI; rw [if_neg (by have h := ha; unfold apl at h; dsimp only at h ⊢; intro h3; subst h3; simp at h)]; rfl
  have hpe : (formE 3 ⟨T, is, ts, ns⟩).length = (pay 3 ⟨T, is, ts, ns⟩).length + 1 := by unfold formE; rw [List.length_cons]
  have HLEN := hidden (show (dlEnc is).length ≤ 100000000000000 by rw [hfe, List.length_append, List.length_cons, List.length_nil] at hpe; omega)
  have HFE := hidden hfe
  have HC := hidden (fun W (h : Grows w W) => renc_any (.slice A1 is.length c1) is W (IsI.grow j1 h) hf.li hf.ii)
  generalize dlEnc is = L at *
  have HG1 := hidden (growB w (.cells #[.int .i64 T, .slice A1 is.length c1, .slice A2 ts.length c2, .slice A3 ns.length c3] 26))
  have HR := hidden ((Row.new w 26 #[.int .i64 T, .slice A1 is.length c1, .slice A2 ts.length c2, .slice A3 ns.length c3] [.int .i64 T, .slice A1 is.length c1, .slice A2 ts.length c2, .slice A3 ns.length c3] rfl).grow (growB _ (.cells #[.int .u8 3] 5)))
  have HG2 := hidden (HG1.out.of_below (growB (w.alloc (.cells #[.int .i64 T, .slice A1 is.length c1, .slice A2 ts.length c2, .slice A3 ns.length c3] 26)) (.cells #[.int .u8 3] 5)))
  have HO := hidden ((Row.at_ (w.alloc (.cells #[.int .i64 T, .slice A1 is.length c1, .slice A2 ts.length c2, .slice A3 ns.length c3] 26)) 5 #[.int .u8 3] (bcells [UInt8.ofNat 3]) rfl (w.heap.size + 1) (by rw [World.size_alloc])).own (base := w.heap.size) (by omega) (by decide))
  have x0 := HR.out.cell 0
  have x1 := HR.out.cell 1
  have x2 := HR.out.cell 2
  have x3 := HR.out.cell 3
  simp only [List.getElem?_cons_succ, List.getElem?_cons_zero] at x0 x1 x2 x3
  clear hx hpl hfe hpe j1 j2 j3 hf he ha
  go_enter Tryz.func36, Tryz.ntmps36
  go_wp2_with fail
  refine (HC.out _ HG2.out).mono ?_
  rintro e w4 ⟨v4, rfl, g4, hby4⟩
  have HBY := hidden hby4
  have HG4 := hidden (HG2.out.of_below g4)
  have HO4 := hidden (own_growS HO.out g4)
  clear hby4 g4 x0 x1 x2 x3
  go_wp2_with ((at_builtin; go_loud (refine wpList_append_bytes (w := w) rfl _ _ 29 rfl 5 Tryz.underlying29 info_u8 _ [UInt8.ofNat 3] (by rfl) HO4.out HG4.out _ L (by rfl) HBY.out (by have := HLEN.out; rw [List.length_cons, List.length_nil]; omega) ?_); intro v5 w5 hown5 hb5; have HO5 := hidden hown5; have HB5 := hidden hb5; clear hown5 hb5))
  go_ret
  exact ⟨_, rfl, HB5.out, by rw [HFE.out]; exact IsBytes.of_own HO5.out⟩
set_option maxHeartbeats 4000000 in
theorem rform4_any (x : Value) (v : Vec) (w : World) (hx : IsV w x v) (hf : Fine v) (he : Encable v) (ha : apl 4 v.T = true) :
    Calls Tryz.prog 36 #[x, .int .i64 4] w (ByR (formE 4 v) w) := by
  have hpl := pay_len (k := 4) hf
  have hx0 := hx
  obtain ⟨a1, a2, a3, rfl, j1, j2, j3⟩ := hx0
  obtain ⟨A1, c1, rfl⟩ := j1.slice_
  obtain ⟨A2, c2, rfl⟩ := j2.slice_
  obtain ⟨A3, c3, rfl⟩ := j3.slice_
  obtain ⟨T, is, ts, ns⟩ := v
  dsimp only at *
  have hfe : formE 4 ⟨T, is, ts, ns⟩ = [UInt8.ofNat 4] ++ encT ts := by unfold formE pay payT; rw [if_pos (Decidable.byContradiction fun h3 => by have h4 := apl_num h3 ha; omega)]; rfl
  have hpe : (formE 4 ⟨T, is, ts, ns⟩).length = (pay 4 ⟨T, is, ts, ns⟩).length + 1 := by unfold formE; rw [List.length_cons]
  have HLEN := hidden (show (encT ts).length ≤ 100000000000000 by rw [hfe, List.length_append, List.length_cons, List.length_nil] at hpe; omega)
  have HFE := hidden hfe
  have HC := hidden (fun W (h : Grows w W) => rencode10_any (.slice A2 ts.length c2) ts W (IsS.grow j2 h) (Nat.le_trans hf.lt (by decide)) (fun s hs => Nat.le_trans (hf.ss s hs) (by decide)))
  generalize encT ts = L at *
  have HG1 := hidden (growB w (.cells #[.int .i64 T, .slice A1 is.length c1, .slice A2 ts.length c2, .slice A3 ns.length c3] 26))
  have HR := hidden ((Row.new w 26 #[.int .i64 T, .slice A1 is.length c1, .slice A2 ts.length c2, .slice A3 ns.length c3] [.int .i64 T, .slice A1 is.length c1, .slice A2 ts.length c2, .slice A3 ns.length c3] rfl).grow (growB _ (.cells #[.int .u8 4] 5)))
  have HG2 := hidden (HG1.out.of_below (growB (w.alloc (.cells #[.int .i64 T, .slice A1 is.length c1, .slice A2 ts.length c2, .slice A3 ns.length c3] 26)) (.cells #[.int .u8 4] 5)))
  have HO := hidden ((Row.at_ (w.alloc (.cells #[.int .i64 T, .slice A1 is.length c1, .slice A2 ts.length c2, .slice A3 ns.length c3] 26)) 5 #[.int .u8 4] (bcells [UInt8.ofNat 4]) rfl (w.heap.size + 1) (by rw [World.size_alloc])).own (base := w.heap.size) (by omega) (by decide))
  have x0 := HR.out.cell 0
  have x1 := HR.out.cell 1
  have x2 := HR.out.cell 2
  have x3 := HR.out.cell 3
  simp only [List.getElem?_cons_succ, List.getElem?_cons_zero] at x0 x1 x2 x3
  clear hx hpl hfe hpe j1 j2 j3 hf he ha
  go_enter Tryz.func36, Tryz.ntmps36
  go_wp2_with fail
  refine (HC.out _ HG2.out).mono ?_
  rintro e w4 ⟨v4, rfl, hown4, g4⟩
  have HBY := hidden (IsBytes.of_own hown4)
  have HG4 := hidden (HG2.out.of_below g4)
  have HO4 := hidden (own_growS HO.out g4)
  clear hown4 g4 x0 x1 x2 x3
  go_wp2_with ((at_builtin; go_loud (refine wpList_append_bytes (w := w) rfl _ _ 29 rfl 5 Tryz.underlying29 info_u8 _ [UInt8.ofNat 4] (by rfl) HO4.out HG4.out _ L (by rfl) HBY.out (by have := HLEN.out; rw [List.length_cons, List.length_nil]; omega) ?_); intro v5 w5 hown5 hb5; have HO5 := hidden hown5; have HB5 := hidden hb5; clear hown5 hb5))
  go_ret
  exact ⟨_, rfl, HB5.out, by rw [HFE.out]; exact IsBytes.of_own HO5.out⟩
set_option maxHeartbeats 4000000 in
theorem rform5_any (x : Value) (v : Vec) (w : World) (hx : IsV w x v) (hf : Fine v) (he : Encable v) (ha : apl 5 v.T = true) :
    Calls Tryz.prog 36 #[x, .int .i64 5] w (ByR (formE 5 v) w) := by
  have hpl := pay_len (k := 5) hf
  have hx0 := hx
  obtain ⟨a1, a2, a3, rfl, j1, j2, j3⟩ := hx0
  obtain ⟨A1, c1, rfl⟩ := j1.slice_
  obtain ⟨A2, c2, rfl⟩ := j2.slice_
  obtain ⟨A3, c3, rfl⟩ := j3.slice_
  obtain ⟨T, is, ts, ns⟩ := v
  dsimp only at *
  have hfe : formE 5 ⟨T, is, ts, ns⟩ = [UInt8.ofNat 5] ++ fcEnc ts := by unfold formE pay payT; rw [if_pos (Decidable.byContradiction fun h3 => by have h4 := apl_num h3 ha; omega)]; rfl
  have hpe : (formE 5 ⟨T, is, ts, ns⟩).length = (pay 5 ⟨T, is, ts, ns⟩).length + 1 := by unfold formE; rw [List.length_cons]
  have HLEN := hidden (show (fcEnc ts).length ≤ 100000000000000 by rw [hfe, List.length_append, List.length_cons, List.length_nil] at hpe; omega)
  have HFE := hidden hfe
  have HC := hidden (fun W (h : Grows w W) => rfencode_any (.slice A2 ts.length c2) ts W (IsS.grow j2 h) (Nat.le_trans hf.lt (by decide)) (fun s hs => Nat.le_trans (hf.ss s hs) (by decide)))
  generalize fcEnc ts = L at *
  have HG1 := hidden (growB w (.cells #[.int .i64 T, .slice A1 is.length c1, .slice A2 ts.length c2, .slice A3 ns.length c3] 26))
  have HR := hidden ((Row.new w 26 #[.int .i64 T, .slice A1 is.length c1, .slice A2 ts.length c2, .slice A3 ns.length c3] [.int .i64 T, .slice A1 is.length c1, .slice A2 ts.length c2, .slice A3 ns.length c3] rfl).grow (growB _ (.cells #[.int .u8 5] 5)))
  have HG2 := hidden (HG1.out.of_below (growB (w.alloc (.cells #[.int .i64 T, .slice A1 is.length c1, .slice A2 ts.length c2, .slice A3 ns.length c3] 26)) (.cells #[.int .u8 5] 5)))
  have HO := hidden ((Row.at_ (w.alloc (.cells #[.int .i64 T, .slice A1 is.length c1, .slice A2 ts.length c2, .slice A3 ns.length c3] 26)) 5 #[.int .u8 5] (bcells [UInt8.ofNat 5]) rfl (w.heap.size + 1) (by rw [World.size_alloc])).own (base := w.heap.size) (by omega) (by decide))
  have x0 := HR.out.cell 0
  have x1 := HR.out.cell 1
  have x2 := HR.out.cell 2
  have x3 := HR.out.cell 3
  simp only [List.getElem?_cons_succ, List.getElem?_cons_zero] at x0 x1 x2 x3
  clear hx hpl hfe hpe j1 j2 j3 hf he ha
  go_enter Tryz.func36, Tryz.ntmps36
  go_wp2_with fail
  refine (HC.out _ HG2.out).mono ?_
  rintro e w4 ⟨v4, rfl, hown4, g4⟩
  have HBY := hidden (IsBytes.of_own hown4)
  have HG4 := hidden (HG2.out.of_below g4)
  have HO4 := hidden (own_growS HO.out g4)
  clear hown4 g4 x0 x1 x2 x3
  go_wp2_with ((at_builtin; go_loud (refine wpList_append_bytes (w := w) rfl _ _ 29 rfl 5 Tryz.underlying29 info_u8 _ [UInt8.ofNat 5] (by rfl) HO4.out HG4.out _ L (by rfl) HBY.out (by have := HLEN.out; rw [List.length_cons, List.length_nil]; omega) ?_); intro v5 w5 hown5 hb5; have HO5 := hidden hown5; have HB5 := hidden hb5; clear hown5 hb5))
  go_ret
  exact ⟨_, rfl, HB5.out, by rw [HFE.out]; exact IsBytes.of_own HO5.out⟩
theorem rform12_any (k : Nat) (x : Value) (v : Vec) (w : World) (hx : IsV w x v) (hf : Fine v) (he : Encable v) (ha : apl k v.T = true) :
    Calls Tryz.prog 36 #[x, .int .i64 (k : Int)] w (ByR (formE k v) w) := by
  have hk := apl_lt ha
  have h6 : k = 0 ∨ k = 1 ∨ k = 2 ∨ k = 3 ∨ k = 4 ∨ k = 5 := by omega
  rcases h6 with rfl | rfl | rfl | rfl | rfl | rfl
  · exact rform0_any x v w hx hf he ha
  · exact rform1_any x v w hx hf he ha
  · exact rform2_any x v w hx hf he ha
  · exact rform3_any x v w hx hf he ha
  · exact rform4_any x v w hx hf he ha
  · exact rform5_any x v w hx hf he ha
def REncR (r : List UInt8 × Int) (w : World) (e : Ending) (w' : World) : Prop := ∃ u, e = .returned (.tuple #[u, .int .i64 r.2]) ∧ Grows w w' ∧ IsBytes w' u r.1
theorem REncR.no {r : List UInt8 × Int} {f : Int} {w w' : World} (h : r = ([], f)) (hg : Grows w w') : REncR r w (.returned (.tuple #[.slice none 0 0, .int .i64 f])) w' := by
  subst h
  exact ⟨_, rfl, hg, IsBytes.nil_ _⟩
theorem REncR.yes {r : List UInt8 × Int} {L : List UInt8} {u : Value} {w w' : World} (h : r = (L, 0)) (hg : Grows w w') (hc : IsBytes w' u L) : REncR r w (.returned (.tuple #[u, .int .i64 0])) w' := by
  subst h
  exact ⟨_, rfl, hg, hc⟩
set_option maxHeartbeats 4000000 in
theorem rEncode12_any (k : Int) (x : Value) (v : Vec) (w : World) (hx : IsV w x v) (hs : Small v) :
    Calls Tryz.prog 12 #[x, .int .i64 k] w (REncR (encFV v k) w) := by
  have hx0 := hx
  have HED := hidden (fun W (h : Grows w W) => rencodable_any x v W (hx.grow h) hs)
  have HAP := hidden (fun W => rapplies_any v.T k W)
  have HFO := hidden (fun (n : Nat) W (h : Grows w W) (he : Encable v) (ha : apl n v.T = true) => rform12_any n x v W (hx.grow h) (hs.fine he) he ha)
  obtain ⟨a1, a2, a3, rfl, j1, j2, j3⟩ := hx0
  obtain ⟨A1, c1, rfl⟩ := j1.slice_
  obtain ⟨A2, c2, rfl⟩ := j2.slice_
  obtain ⟨A3, c3, rfl⟩ := j3.slice_
  obtain ⟨r, hr⟩ : ∃ r, encFV v k = r := ⟨_, rfl⟩
  rw [hr]
  obtain ⟨T, hT⟩ : ∃ T, v.T = T := ⟨_, rfl⟩
  obtain ⟨n1, hn1⟩ : ∃ n, v.is.length = n := ⟨_, rfl⟩
  obtain ⟨n2, hn2⟩ : ∃ n, v.ts.length = n := ⟨_, rfl⟩
  obtain ⟨n3, hn3⟩ : ∃ n, v.ns.length = n := ⟨_, rfl⟩
  rw [hT, hn1, hn2, hn3] at HED HFO ⊢
  rw [hT] at HAP
  have HG1 := hidden (growB w (.cells #[.int .i64 T, .slice A1 n1 c1, .slice A2 n2 c2, .slice A3 n3 c3] 26))
  have HR := hidden (Row.new w 26 #[.int .i64 T, .slice A1 n1 c1, .slice A2 n2 c2, .slice A3 n3 c3] [.int .i64 T, .slice A1 n1 c1, .slice A2 n2 c2, .slice A3 n3 c3] rfl)
  clear hx j1 j2 j3 hs hn1 hn2 hn3
  obtain ⟨ok, hok⟩ : ∃ b, okV v = b := ⟨_, rfl⟩
  rw [hok] at HED
  unfold encFV at hr
  rw [hok] at hr
  cases ok
  · have HRE := hidden (show r = ([], 1) by rw [← hr]; rfl)
    clear hr hok
    go_enter Tryz.func12, Tryz.ntmps12
    go_wp2_with ((go_at_call 13; refine (HED.out _ HG1.out).mono ?_; rintro e w2 ⟨rfl, g2⟩; have HG2 := hidden (HG1.out.of_below g2); clear g2))
    go_ret2
    exact REncR.no HRE.out HG2.out
  have HE := hidden (okV_iff.1 hok)
  clear hok
  by_cases h0 : k < 0
  · have HRE := hidden (show r = ([], 1) by rw [← hr, if_pos (.inr (.inl h0))])
    have d0 : decide (k < 0) = true := by simpa using h0
    clear hr h0
    go_enter Tryz.func12, Tryz.ntmps12
    go_wp2_with ((go_at_call 13; refine (HED.out _ HG1.out).mono ?_; rintro e w2 ⟨rfl, g2⟩; have HG2 := hidden (HG1.out.of_below g2); clear g2))
    go_ret2
    exact REncR.no HRE.out HG2.out
  have d0 : decide (k < 0) = false := by simpa using h0
  by_cases h6 : 5 < k
  · have HRE := hidden (show r = ([], 1) by rw [← hr, if_pos (.inr (.inr (by omega)))])
    have d6 : decide (5 < k) = true := by simpa using h6
    clear hr h0 h6
    go_enter Tryz.func12, Tryz.ntmps12
    go_wp2_with ((go_at_call 13; refine (HED.out _ HG1.out).mono ?_; rintro e w2 ⟨rfl, g2⟩; have HG2 := hidden (HG1.out.of_below g2); clear g2))
    go_ret2
    exact REncR.no HRE.out HG2.out
  have d6 : decide (5 < k) = false := by simpa using h6
  obtain ⟨K, rfl⟩ := Int.eq_ofNat_of_zero_le (show 0 ≤ k by omega)
  rw [if_neg (fun h => by rcases h with h | h | h; (cases h); (omega); (omega)), Int.toNat_natCast] at hr
  have hok2 : okT T = true := by rw [← hT]; exact HE.out.t
  rw [hT] at hr
  have HFO := hidden (fun W h ha => HFO.out K W h HE.out ha)
  rw [aplR_eq hok2] at HAP
  clear h0 h6
  obtain ⟨ap, hap⟩ : ∃ b, apl K T = b := ⟨_, rfl⟩
  rw [hap] at hr HAP
  cases ap
  · have HRE := hidden (show r = ([], 7) by rw [← hr]; rfl)
    clear hr hap
    go_enter Tryz.func12, Tryz.ntmps12
    go_wp2_with (first
      | (go_at_call 13; refine (HED.out _ HG1.out).mono ?_; rintro e w2 ⟨rfl, g2⟩; have HG2 := hidden (HG1.out.of_below g2); have HR2 := hidden (HR.out.grow g2); have x0 := HR2.out.cell 0; have x1 := HR2.out.cell 1; have x2 := HR2.out.cell 2; have x3 := HR2.out.cell 3; simp only [List.getElem?_cons_succ, List.getElem?_cons_zero] at x0 x1 x2 x3; clear g2)
      | (go_at_call 25; refine (HAP.out _).mono ?_; rintro e w3 ⟨rfl, rfl⟩))
    go_ret2
    exact REncR.no HRE.out HG2.out
  · have HRE := hidden (show r = (formE K v, 0) by rw [← hr]; rfl)
    have HFF := hidden (fun W h => HFO.out W h hap)
    clear hr hap
    generalize formE K v = L at *
    go_enter Tryz.func12, Tryz.ntmps12
    go_wp2_with (first
      | (go_at_call 13; refine (HED.out _ HG1.out).mono ?_; rintro e w2 ⟨rfl, g2⟩; have HG2 := hidden (HG1.out.of_below g2); have HR2 := hidden (HR.out.grow g2); have x0 := HR2.out.cell 0; have x1 := HR2.out.cell 1; have x2 := HR2.out.cell 2; have x3 := HR2.out.cell 3; simp only [List.getElem?_cons_succ, List.getElem?_cons_zero] at x0 x1 x2 x3; clear g2)
      | (go_at_call 25; refine (HAP.out _).mono ?_; rintro e w3 ⟨rfl, rfl⟩)
      | (go_at_call 36; refine (HFF.out _ HG2.out).mono ?_; rintro e w4 ⟨v4, rfl, g4, hby4⟩; have HG4 := hidden (HG2.out.of_below g4); have HB4 := hidden hby4; clear g4 hby4))
    go_ret2
    exact REncR.yes HRE.out HG4.out HB4.out
end Go.Proofs.YthmipnokimlbdaaGreat
