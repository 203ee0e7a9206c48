/-
  Package frameref as it landed: Encode. Nothing that was there is changed.
-/
import Derived.Test.YtjjeebaelpgjlaaFs3
import Derived.Test.YtjjeebaelpgjlaaEnc
import Derived.Test.YtjjeebaelpgjlaaVCat
import Derived.Test.YtjjeebaelpgjlaaMk
namespace Go.Proofs.Ytjjeebaelpgjlaa
open Go.RowKit
set_option linter.unusedVariables false
set_option linter.unusedSimpArgs false

theorem own_empty (w : World) (base : Nat) (e : TypeId) (size : Nat) (h : base ≤ w.heap.size) : (w.alloc (.cells #[] e)).ownsRow base e size (.slice (some ⟨w.heap.size, 0, none⟩) 0 0) 0 [] := by
  refine ⟨by simp, .inr ⟨w.heap.size, 0, #[], rfl, h, by show (w.heap.push _)[w.heap.size]? = _; simp, Nat.le_refl _, Nat.zero_le _, by simp, by simp⟩⟩
theorem IsParts.new5 {w : World} {A1 A2 A3 A4 A5 : Option Addr} {c1 c2 c3 c4 c5 : Nat} {l1 l2 l3 l4 l5 : List UInt8} (h1 : IsBytes w (.slice A1 l1.length c1) l1) (h2 : IsBytes w (.slice A2 l2.length c2) l2) (h3 : IsBytes w (.slice A3 l3.length c3) l3) (h4 : IsBytes w (.slice A4 l4.length c4) l4) (h5 : IsBytes w (.slice A5 l5.length c5) l5) (E : TypeId) :
    IsParts (w.alloc (.cells #[.slice A1 l1.length c1, .slice A2 l2.length c2, .slice A3 l3.length c3, .slice A4 l4.length c4, .slice A5 l5.length c5] E)) (.slice (some ⟨w.heap.size, 0, none⟩) 5 5) [l1, l2, l3, l4, l5] := by
  have hg : Grows w (w.alloc (.cells #[.slice A1 l1.length c1, .slice A2 l2.length c2, .slice A3 l3.length c3, .slice A4 l4.length c4, .slice A5 l5.length c5] E)) := (Below.refl _ _).alloc (Nat.le_refl _) _
  refine ⟨_, 5, rfl, fun _ => ⟨w.heap.size, 0, rfl, fun j hj => ?_⟩⟩
  match j, hj with
  | 0, _ => exact ⟨A1, c1, by rw [World.cell?_alloc_mark]; rfl, h1.grow hg⟩
  | 1, _ => exact ⟨A2, c2, by rw [World.cell?_alloc_mark]; rfl, h2.grow hg⟩
  | 2, _ => exact ⟨A3, c3, by rw [World.cell?_alloc_mark]; rfl, h3.grow hg⟩
  | 3, _ => exact ⟨A4, c4, by rw [World.cell?_alloc_mark]; rfl, h4.grow hg⟩
  | 4, _ => exact ⟨A5, c5, by rw [World.cell?_alloc_mark]; rfl, h5.grow hg⟩
theorem wcells_setN (l : List Nat) (j c : Nat) : (wcells l).set j (.int .u64 (c : Int)) = wcells (l.set j c) := by
  unfold wcells
  rw [List.map_set]
theorem wcells_zero (n : Nat) : List.replicate n (Value.int .u64 0) = wcells (List.replicate n 0) := by
  unfold wcells
  rw [List.map_replicate]
  rfl
/-- the differences laid so far -/
def laid (ds : List Nat) (k : Nat) : List Nat := ds.take k ++ List.replicate (ds.length - k) 0
theorem laid_length (ds : List Nat) {k : Nat} (h : k ≤ ds.length) : (laid ds k).length = ds.length := by
  unfold laid
  rw [List.length_append, List.length_take, List.length_replicate]
  omega
theorem laid_set (ds : List Nat) {k : Nat} (h : k < ds.length) : (laid ds k).set k ds[k] = laid ds (k + 1) := by
  unfold laid
  have e : ds.length - k = (ds.length - (k + 1)) + 1 := by omega
  have hl : (ds.take k).length = k := by rw [List.length_take]; omega
  rw [e, List.replicate_succ, List.set_append_right _ _ (by omega), hl, Nat.sub_self, List.set_cons_zero, List.take_succ_eq_append_getElem h, List.append_assoc]
  rfl
theorem laid_done (ds : List Nat) : laid ds ds.length = ds := by unfold laid; simp
def LEncRel (w : World) (g : Nat) (ds : List Nat) (W : Nat) (m x i : Value) (wr : World) : Prop :=
  ∃ k : Nat, k ≤ ds.length ∧ i = .int .i64 (k : Int) ∧ m = .int .i64 ((many W (ds.take k) : Nat) : Int) ∧ Row wr g 50 (wcells (laid ds k)) ∧
    wr.ownsRow w.heap.size 5 1 x (exc W 0 (ds.take k)).length (bcells (exc W 0 (ds.take k))) ∧ Below w.heap.size w wr
set_option maxRecDepth 20000 in
set_option maxHeartbeats 8000000 in
theorem lencodeF_any (v : Value) (l : List Int) (w : World) (hv : IsI w v l) (hl : l.length ≤ 65536) (hin : ∀ x ∈ l, frIn x) :
    Calls Try.prog 22 #[v] w (ByR (encV l) w) := by
  have HV := hidden hv
  have HBE := hidden (best_any v l w hv hl hin)
  obtain ⟨A, c, rfl⟩ := hv.slice_
  have HB0 := hidden (baseV_in hin)
  have HDL := hidden (difL_length l)
  have HDU := hidden (difL_U64 l)
  have HDG : Hid (∀ k, (h : k < l.length) → (difL l)[k]? = some (difN (baseV l) l[k])) := fun k h => by
    unfold difL; rw [List.getElem?_map, List.getElem?_eq_getElem h]; rfl
  have HEW := hidden (show encV l = encD (baseV l) (difL l) (bestW l) from rfl)
  have hW := bestW_le l
  have hmk := fun W' => run_make_one (P := Try.prog) 56 50 (.int .u64 0) 8 Try.underlying56 info_u64 rfl l.length (by omega) (by omega) W'
  clear hv
  generalize baseV l = b0 at *
  generalize difL l = ds at *
  generalize bestW l = W at *
  go_enter Try.func22, Try.ntmps22
  go_wp2_with fail
  refine HBE.out.mono ?_
  rintro e w1 ⟨rfl, hg1⟩
  have HG1 := hidden hg1
  clear hg1
  obtain ⟨g, hg⟩ : ∃ g, g = w1.heap.size := ⟨_, rfl⟩
  have hr2 := Row.at_ w1 50 (List.replicate l.length (.int .u64 0)).toArray (wcells (laid ds 0)) (by
    unfold laid
    rw [List.take_zero, List.nil_append, Nat.sub_zero, HDL.out, wcells_zero]) g hg
  have hb2 := HG1.out.alloc HG1.out.size (.cells (List.replicate l.length (.int .u64 0)).toArray 50)
  have hsz2 := World.size_alloc w1 (.cells (List.replicate l.length (.int .u64 0)).toArray 50)
  have hb3 := hb2.alloc hb2.size (.cells #[] 5)
  have HR3 := hidden (Row.grow hr2 (w' := (w1.alloc (.cells (List.replicate l.length (.int .u64 0)).toArray 50)).alloc (.cells #[] 5)) ((Below.refl _ _).alloc (Nat.le_refl _) _))
  have HO3 := hidden (own_empty (w1.alloc (.cells (List.replicate l.length (.int .u64 0)).toArray 50)) w.heap.size 5 1 hb2.size)
  have HB3 := hidden hb3
  rw [hsz2] at HO3
  rw [← hg] at hsz2 HO3
  clear hr2 hb2 hb3
  go_wp2_with fail
  rw [← hg]
  have HGG := hidden hg
  clear hmk hg
  go_loopw [6, 7, 22] (fun m x i wr => LEncRel w g ds W m x i wr) (fun _ _ i _ => l.length - (intOf i).toNat)
  case atStart => exact ⟨0, by omega, rfl, rfl, HR3.out, HO3.out, HB3.out⟩
  case round =>
    obtain ⟨k, hk, rfl, rfl, hrow, hex, hb⟩ := hrel
    have HB := hidden hb
    have HR := hidden hrow
    have HX := hidden hex
    clear hrow hex hb
    by_cases hlt : k < l.length
    · obtain ⟨bb, f, rfl, hck⟩ := (HV.out.grow HB.out).at_ hlt
      have hgd := HDG.out k hlt
      have hkd : k < ds.length := by have := HDL.out; omega
      have hdk : difN b0 l[k] < 18446744073709551616 := difN_lt _ _
      rw [List.getElem?_eq_getElem hkd] at hgd
      injection hgd with hgd
      have HTD := hidden (List.take_succ_eq_append_getElem hkd)
      have HLS := hidden (laid_set ds hkd)
      have HDF := hidden (fun w' => difference_any l[k] b0 w')
      rw [hgd] at HTD HLS
      generalize l[k] = x at *
      generalize difN b0 x = d at *
      have HTL1 := hidden (show (ds.take k).length = k by rw [List.length_take]; omega)
      have HM1 := hidden (show many W (ds.take k) ≤ 65536 by have := many_le W (ds.take k); have := HTL1.out; omega)
      have HX1 := hidden (exc_len W (ds.take k) 0)
      have HSM := hidden (many_snoc W d (ds.take k))
      have HSX := hidden (exc_snoc W d (ds.take k) 0)
      rw [HTL1.out, Nat.zero_add] at HSX
      rw [HTL1.out] at HX1
      generalize exc W 0 (ds.take k) = xs at *
      generalize many W (ds.take k) = mm at *
      have hmm := HM1.out
      have hsz := HB.out.size
      have hwk : IntKind.u64.wrap (k : Int) = (k : Int) := by rw [IntKind.wrap_u64]; omega
      have hll : (laid ds k).length = ds.length := laid_length ds hk
      obtain ⟨y, hcell⟩ : ∃ y : Nat, wr.cell? ⟨g, k, none⟩ = some (.int .u64 (y : Int)) := ⟨_, by rw [HR.out.cell k, wcells_get (by rw [hll]; exact hkd)]⟩
      have hfr := HR.out.frozen k
      have hr5 := HR.out.set_ k (.int .u64 (d : Int))
      rw [wcells_setN, HLS.out] at hr5
      have hgw : w.heap.size ≤ g := by rw [HGG.out]; exact HG1.out.size
      have hb5 := HB.out.setCell (p := ⟨g, k, none⟩) hgw (.int .u64 (d : Int))
      have hx5 : (wr.setCell ⟨g, k, none⟩ (.int .u64 (d : Int))).ownsRow w.heap.size 5 1 u7 xs.length (bcells xs) := by
        refine ownsRow_setCell_other HX.out ?_ _
        intro he
        rcases HX.out.2 with ⟨h1, _⟩ | ⟨g', cap, cur, h1, _, h2, _⟩
        · rw [h1] at he; cases he
        · rw [h1] at he
          simp only [Value.ownBlock, Option.some.injEq] at he
          subst he
          have hr := HR.out
          unfold Row at hr
          rw [h2] at hr
          injection hr with hr
          injection hr with _ h2 _
          cases h2
      have hc5 := hr5.cell k
      have hl5 : (laid ds (k + 1)).length = ds.length := laid_length ds hkd
      have hc6 : (laid ds (k + 1))[k]? = some d := by rw [← HLS.out, List.getElem?_set, if_pos rfl, if_pos (by omega)]
      rw [wcells_get (by rw [hl5]; exact hkd)] at hc5
      rw [List.getElem?_eq_getElem (by rw [hl5]; exact hkd)] at hc6
      injection hc6 with hc6
      rw [hc6] at hc5
      have HR5 := hidden hr5
      have HB5 := hidden hb5
      have HX5 := hidden hx5
      have hNl : k < ds.length := hkd
      obtain ⟨h, hh⟩ : ∃ h, h = d / 2 ^ W := ⟨_, rfl⟩
      rw [← hh] at HSM HSX
      have hshr : (d : Int) / 2 ^ W = (h : Int) := by rw [hh]; simp
      have hhd : h < 18446744073709551616 := by rw [hh]; exact Nat.lt_of_le_of_lt (Nat.div_le_self _ _) hdk
      have HEK := hidden (fun W' => encode_any (k : Int) W' (by omega) (by omega))
      have HEH := hidden (fun W' => encode_any (h : Int) W' (by omega) (by omega))
      rw [Int.toNat_natCast] at HEK HEH
      clear hgd hll hr5 hb5 hx5 hl5 hc6 hh hkd
      by_cases h0 : h = 0
      · have hE : ((h : Int) != 0) = false := by rw [h0]; rfl
        rw [if_pos h0, Nat.add_zero] at HSM
        rw [if_pos h0, List.append_nil] at HSX
        clear h0
        go_wp2_with fail
        refine (HDF.out wr).mono ?_
        rintro e w' ⟨rfl, rfl⟩
        go_wp2_with fail
        refine ⟨⟨k + 1, by have := HDL.out; omega, by go_num, ?_, HR5.out, ?_, HB5.out⟩, by simp [intOf]; omega⟩
        · rw [HTD.out, HSM.out]
        · rw [HTD.out, HSX.out]; exact HX5.out
      · have hE : ((h : Int) != 0) = true := by simpa using h0
        rw [if_neg h0] at HSM
        rw [if_neg h0] at HSX
        have h10 := HX1.out
        clear h0
        go_wp2_with fail
        refine (HDF.out wr).mono ?_
        rintro e w' ⟨rfl, rfl⟩
        go_wp2_with fail
        generalize wr.setCell ⟨g, k, none⟩ (.int .u64 (d : Int)) = w5 at *
        clear hck hcell hfr hc5
        refine (HEK.out w5).mono ?_
        rintro e w6 ⟨v6, rfl, hown6, hb6⟩
        have HU6 := hidden (IsBytes.of_own hown6)
        have HB6 := hidden (HB5.out.trans (hb6.mono HB5.out.size))
        have HR6 := hidden (Row.grow HR5.out hb6)
        have HX6 := hidden (own_grow HX5.out hb6)
        clear hown6 hb6
        go_wp2_with ((at_builtin; go_loud (refine wpList_append_bytes_k (w := w) rfl _ _ 27 rfl 5 Try.underlying27 info_u8 _ xs (by rfl) HX6.out HB6.out _ (enc k) (by rfl) HU6.out (by have := enc_le10 k; omega) ?_); intro v7 w7 hown7 hb7 hk7; have HX7 := hidden hown7; have HB7 := hidden hb7; have HR7 := hidden (hk7.row (by decide) (by rw [wcells_length, laid_length ds (by omega)]; unfold maxLen; have := HDL.out; omega) HR6.out); clear hown7 hb7 hk7))
        refine (HEH.out w7).mono ?_
        rintro e w8 ⟨v8, rfl, hown8, hb8⟩
        have HU8 := hidden (IsBytes.of_own hown8)
        have HB8 := hidden (HB7.out.trans (hb8.mono HB7.out.size))
        have HR8 := hidden (Row.grow HR7.out hb8)
        have HX8 := hidden (own_grow HX7.out hb8)
        clear hown8 hb8
        go_wp2_with ((at_builtin; go_loud (refine wpList_append_bytes_k (w := w) rfl _ _ 27 rfl 5 Try.underlying27 info_u8 _ (xs ++ enc k) (by rfl) HX8.out HB8.out _ (enc h) (by rfl) HU8.out (by have := enc_le10 k; have := enc_le10 h; rw [List.length_append]; omega) ?_); intro v9 w9 hown9 hb9 hk9; have HX9 := hidden hown9; have HB9 := hidden hb9; have HR9 := hidden (hk9.row (by decide) (by rw [wcells_length, laid_length ds (by omega)]; unfold maxLen; have := HDL.out; omega) HR8.out); clear hown9 hb9 hk9))
        refine ⟨⟨k + 1, by have := HDL.out; omega, by go_num, ?_, HR9.out, ?_, HB9.out⟩, by simp [intOf]; omega⟩
        · rw [HTD.out, HSM.out]; go_num
        · rw [HTD.out, HSX.out, ← List.append_assoc]; exact HX9.out
    · have hke : k = ds.length := by have := HDL.out; omega
      have htk : ds.take k = ds := by rw [hke, List.take_length]
      have hlk : laid ds k = ds := by rw [hke, laid_done]
      rw [htk] at HX ⊢
      rw [hlk] at HR
      clear hke htk hlk
      have hz := zz_bd b0 HB0.out.1 (by have := HB0.out.2; omega)
      have HMM := hidden (show many W ds ≤ 65536 by have := many_le W ds; have := HDL.out; omega)
      have HXL := hidden (show (exc W 0 ds).length ≤ 2000000 by have := exc_len W ds 0; have := HDL.out; omega)
      have HDW := hidden (show IsW wr (.slice (some ⟨g, 0, none⟩) l.length l.length) ds from Reads.of_row HR.out l.length l.length (by rw [wcells_length, HDL.out]) (Nat.le_refl _))
      have HTL2 := hidden (IsBytes.of_own HX.out)
      obtain ⟨A5, c5, hv5, _⟩ := HTL2.out
      subst hv5
      have HZG := hidden (fun W' => zigzag_any b0 W' HB0.out.1 (by have := HB0.out.2; omega))
      have HE1 := hidden (fun W' => encode_any (zz b0) W' hz.1 (by omega))
      have HE2 := hidden (fun W' => encode_any (W : Int) W' (by omega) (by omega))
      have hmm := HMM.out
      have HE3 := hidden (fun W' => encode_any ((many W ds : Nat) : Int) W' (by omega) (by omega))
      have HPA := hidden (fun v' W' hv' => pack_any v' ds (W : Int) W' hv' HDU.out (by have := HDL.out; omega))
      have HPI := hidden (show packI ds (W : Int) = packL ds W by
        unfold packI
        rw [okB_t (by have := HDL.out; omega) hW, if_pos rfl, Int.toNat_natCast])
      have HPLN := hidden (show (packL ds W).length ≤ 1000000 by
        rw [packL_length]
        have h5 : ds.length * W ≤ ds.length * 64 := Nat.mul_le_mul_left _ hW
        have := HDL.out
        unfold szB
        omega)
      have HED : Hid (encD b0 ds W = [enc (zz b0).toNat, enc W, enc (many W ds), packL ds W, exc W 0 ds].flatten) := by show _ = _; unfold encD; simp
      rw [HPI.out] at HPA
      rw [Int.toNat_natCast] at HE2 HE3
      have hwk : IntKind.u64.wrap (W : Int) = (W : Int) := by rw [IntKind.wrap_u64]; omega
      have HL1 := hidden (enc_le10 (zz b0).toNat)
      have HL2 := hidden (enc_le10 W)
      have HL3 := hidden (enc_le10 (many W ds))
      have hwm : IntKind.u64.wrap ((many W ds : Nat) : Int) = ((many W ds : Nat) : Int) := by rw [IntKind.wrap_u64]; omega
      generalize exc W 0 ds = xs at *
      generalize packL ds W = pp at *
      generalize many W ds = mm at *
      clear hmm
      go_wp2_with fail
      refine (HZG.out wr).mono ?_
      rintro e w' ⟨rfl, rfl⟩
      go_wp2_with fail
      refine (HE1.out wr).mono ?_
      rintro e w1' ⟨v1, rfl, hown1, hb1⟩
      have HU1 := hidden (IsBytes.of_own hown1)
      obtain ⟨A1, c1, hv1, _⟩ := HU1.out
      subst hv1
      have HB1 := hidden hb1
      clear hown1 hb1
      go_wp2_with fail
      refine (HE2.out w1').mono ?_
      rintro e w2' ⟨v2, rfl, hown2, hb2⟩
      have HU2 := hidden (IsBytes.of_own hown2)
      obtain ⟨A2, c2, hv2, _⟩ := HU2.out
      subst hv2
      have HB2 := hidden hb2
      clear hown2 hb2
      go_wp2_with fail
      refine (HE3.out w2').mono ?_
      rintro e w3' ⟨v3, rfl, hown3, hb3⟩
      have HU3 := hidden (IsBytes.of_own hown3)
      obtain ⟨A3, c3, hv3, _⟩ := HU3.out
      subst hv3
      have HB3' := hidden hb3
      have HB13 := hidden (Grows.of_below (Grows.of_below HB1.out HB2.out) hb3)
      clear hown3 hb3
      go_wp2_with fail
      refine (HPA.out _ w3' (IsW.grow HDW.out HB13.out)).mono ?_
      rintro e w4' ⟨v4, rfl, hb4, hu4⟩
      have HU4 := hidden hu4
      obtain ⟨A4, c4, hv4, _⟩ := hu4
      subst hv4
      have HB4 := hidden hb4
      have HP5 := hidden (IsParts.new5 (w := w4') (IsBytes.grow HU1.out (Grows.of_below (Grows.of_below HB2.out HB3'.out) hb4)) (IsBytes.grow HU2.out (Grows.of_below HB3'.out hb4)) (IsBytes.grow HU3.out hb4) HU4.out (IsBytes.grow HTL2.out (Grows.of_below HB13.out hb4)) 27)
      have HB5 := hidden (Grows.of_below (Grows.of_below HB.out (Grows.of_below HB13.out hb4)) ((Below.refl w4'.heap.size w4').alloc (Nat.le_refl _) (.cells #[.slice A1 (enc (zz b0).toNat).length c1, .slice A2 (enc W).length c2, .slice A3 (enc mm).length c3, .slice A4 pp.length c4, .slice A5 xs.length c5] 27)))
      have HCC := hidden (concat_any _ _ _ HP5.out (by unfold maxLen; simp) (by
        have := HL1.out; have := HL2.out; have := HL3.out; have := HPLN.out; have := HXL.out
        unfold total
        simp only [List.flatten_cons, List.flatten_nil, List.length_append, List.length_nil]
        omega))
      clear hb4
      go_wp2_with fail
      refine HCC.out.mono ?_
      rintro e w6 ⟨v6, rfl, hown6, hb6⟩
      have HU6 := hidden (IsBytes.of_own hown6)
      have HB6 := hidden (Grows.of_below HB5.out hb6)
      clear hown6 hb6
      go_wp2_with fail
      go_ret
      refine ⟨_, rfl, HB6.out, ?_⟩
      rw [HEW.out, HED.out]
      exact HU6.out
end Go.Proofs.Ytjjeebaelpgjlaa
