/-
  Package frameref as it landed: choose, Best, Size. Nothing that was there is changed.
-/
import Derived.Test.YtjjeebaelpgjlaaFs1
import Derived.Test.YtjjeebaelpgjlaaFs2
import Derived.Test.YtjjeebaelpgjlaaZig
import Derived.Test.YtjjeebaelpgjlaaBq1
namespace Go.Proofs.Ytjjeebaelpgjlaa
open Go.RowKit
set_option linter.unusedVariables false
set_option linter.unusedSimpArgs false

/-- the candidates' sizes, the first k of them reckoned -/
def canT (f : Nat → Nat) (k : Nat) : List Value := (List.range 65).map fun j => .int .i64 (((if j < k then f j else 0) : Nat) : Int)
theorem canT_length (f : Nat → Nat) (k : Nat) : (canT f k).length = 65 := by simp [canT]
theorem canT_at (f : Nat → Nat) (k : Nat) {j : Nat} (h : j < 65) : (canT f k)[j]? = some (.int .i64 (((if j < k then f j else 0) : Nat) : Int)) := by simp [canT, h]
theorem canT_set (f : Nat → Nat) {k : Nat} (h : k < 65) : (canT f k).set k (.int .i64 (f k : Int)) = canT f (k + 1) := by
  apply List.ext_getElem?
  intro j
  rw [List.getElem?_set, canT_length]
  by_cases hj : j < 65
  · rw [canT_at _ _ hj, canT_at _ _ hj]
    by_cases he : k = j
    · subst he
      rw [if_pos rfl, if_pos h, if_pos (by omega)]
    · rw [if_neg he]
      by_cases h2 : j < k
      · rw [if_pos h2, if_pos (by omega)]
      · rw [if_neg h2, if_neg (by omega)]
  · rw [if_neg (by omega), List.getElem?_eq_none (by rw [canT_length]; omega), List.getElem?_eq_none (by rw [canT_length]; omega)]
theorem canT_zero (f : Nat → Nat) : Array.replicate 65 (Value.int .i64 0) = (canT f 0).toArray := by
  apply Array.toList_inj.1
  rw [Array.toList_replicate]
  apply List.ext_getElem?
  intro j
  rw [List.getElem?_replicate]
  by_cases h : j < 65
  · rw [if_pos h, canT_at _ _ h, if_neg (by omega)]
    rfl
  · rw [if_neg h]
    exact (List.getElem?_eq_none (by rw [canT_length]; omega)).symm
theorem zeroI65 : (Try.prog.info? 93).map (fun i => (i.zero, i.size)) = some (some (.agg (Array.replicate 65 (.int .i64 0))), 65) := by kernel_rfl
theorem sizeCh : (Try.prog.info? 78).map (·.size) = some 3 := by kernel_rfl
theorem lbestTo_lt {f : Nat → Nat} {k : Nat} (h : f k < f (bestTo f (k - 1))) : bestTo f k = k := by
  cases k with
  | zero => rfl
  | succ j =>
    rw [Nat.add_sub_cancel] at h
    rw [bestTo, if_pos h]
theorem lbestTo_ge {f : Nat → Nat} {k : Nat} (h : ¬ f k < f (bestTo f (k - 1))) : bestTo f k = bestTo f (k - 1) := by
  cases k with
  | zero => rfl
  | succ j =>
    rw [Nat.add_sub_cancel] at h ⊢
    rw [bestTo, if_neg h]
theorem Row.drewN_ {w : World} {g : Nat} {e : TypeId} {xs : List Value} (h : Row w g e xs) (n : Nat) : Row (w.drewN n) g e xs := h
theorem below_drewN {B : Nat} {a w : World} (h : Below B a w) (n : Nat) : Below B a (w.drewN n) := ⟨h.os, h.tape, h.output, h.size, h.block⟩
def ChRel (w : World) (g4 g5 : Nat) (b0 : Int) (T : List Value) (f : Nat → Nat) (i : Value) (wr : World) : Prop :=
  ∃ k : Nat, k ≤ 65 ∧ i = .int .i64 (k : Int) ∧ Row wr g5 93 (canT f k) ∧ Row wr (w.heap.size + 1) 78 [.int .i64 b0, .int .i64 ((bestTo f (k - 1) : Nat) : Int), .int .i64 0] ∧
    Row wr g4 91 T ∧ Row wr w.heap.size 78 [.int .i64 0, .int .i64 0, .int .i64 0] ∧ Below w.heap.size w wr
theorem slice_tab (g k : Nat) (hk : k ≤ 64) : ∃ AK, (k < 64 → AK = some ⟨g, (k + 1) * 2, none⟩) ∧
    ∀ w, (Instr.sliceAt 91 (.pointer (some ⟨g, 0, none⟩)) (some (.int .i64 ((k : Int) + 1))) none none).run Try.prog w = .ok (.slice AK (64 - k) (64 - k)) w := by
  have hl : Try.prog.arrayLen 91 = 65 := by kernel_rfl
  have ht : Try.prog.underlying 91 = some (.array (Try.prog.arrayLen 91) (Try.prog.elem 91)) := by kernel_rfl
  have hs : ∀ w, (sizeOf (Try.prog.elem 91)).run Try.prog w = .ok 2 w := by
    intro w
    have hi : (Try.prog.info? (Try.prog.elem 91)).map (·.size) = some 2 := by kernel_rfl
    cases h : Try.prog.info? (Try.prog.elem 91) with
    | none => rw [h] at hi; cases hi
    | some y =>
      rw [h] at hi
      have h1 : y.size = 2 := by simpa using hi
      simp [sizeOf, typeInfo, h, h1]
  refine ⟨some (if 65 = k + 1 then ⟨g, 0, none⟩ else ⟨g, (k + 1) * 2, none⟩), fun h => by rw [if_neg (by omega)], fun w => ?_⟩
  have h := run_sliceAt_array_l (P := Try.prog) w 91 ⟨g, 0, none⟩ ht .i64 ((k : Int) + 1) (by omega) (by rw [hl]; omega)
  rw [h, hs]
  simp only [Result.andThen_ok, slicedAt, hl, show ((k : Int) + 1).toNat = k + 1 by omega, show 65 - (k + 1) = 64 - k by omega, Addr.add_lit, Nat.zero_add]
set_option maxRecDepth 20000 in
set_option maxHeartbeats 8000000 in
theorem choose_any (v : Value) (l : List Int) (w : World) (hv : IsI w v l) (hl : l.length ≤ 65536) (hin : ∀ x ∈ l, frIn x) :
    Calls Try.prog 52 #[v] w fun e w' => e = .returned (.agg #[.int .i64 (baseV l), .int .i64 ((bestW l : Nat) : Int), .int .i64 ((sizeV l : Nat) : Int)]) ∧ Grows w w' := by
  obtain ⟨hz, hi⟩ := zero_of_info (P := Try.prog) zero65
  obtain ⟨hz2, hi2⟩ := zero_of_info (P := Try.prog) zeroI65
  have HV := hidden hv
  have HLE := hidden (fun w' hv' => least_any v l w' hv' (by omega))
  have HTA := hidden (fun b w' hv' => tally_any v l b w' hv' hl)
  obtain ⟨A, c, rfl⟩ := hv.slice_
  have HB0 := hidden (baseV_in hin)
  have HDL := hidden (difL_length l)
  have HDU := hidden (difL_U64 l)
  have HDE := hidden (show difL l = l.map (difN (baseV l)) from rfl)
  have HSZ : Hid (∀ k, k ≤ 64 → sizeW l k = esz (zz (baseV l)).toNat + esz k + excSz (fun j => cntW (difL l) (k + 1 + j)) (fun j => idxW 0 (difL l) (k + 1 + j)) (64 - k) + szB l.length k) := fun k hk => by
    have h := encD_length HB0.out HDU.out (by rw [HDL.out]; omega) hk
    rw [HDL.out] at h
    exact h
  have HFI := hidden (show bestTo (sizeW l) 64 = bestW l from rfl)
  have HFS := hidden (show sizeW l (bestW l) = sizeV l from rfl)
  have HBL := hidden (bestTo_le (sizeW l))
  have HSL : Hid (∀ k, k ≤ 64 → sizeW l k ≤ 2000000) := fun k hk => by
    have h := encD_len (baseV l) (difL l) hk
    rw [HDL.out] at h
    show (encD (baseV l) (difL l) k).length ≤ _
    omega
  clear hv
  go_enter Try.func52, Try.ntmps52
  go_wp2_with fail
  have hb1 := hidden ((Below.refl w.heap.size w).alloc (Nat.le_refl _) (.cells #[.int .i64 0, .int .i64 0, .int .i64 0] 78))
  have hr0 := hidden (Row.new w 78 #[.int .i64 0, .int .i64 0, .int .i64 0] [.int .i64 0, .int .i64 0, .int .i64 0] rfl)
  have hs1 := hidden (World.size_alloc w (.cells #[.int .i64 0, .int .i64 0, .int .i64 0] 78))
  generalize w.alloc (.cells #[.int .i64 0, .int .i64 0, .int .i64 0] 78) = w1 at *
  refine (HLE.out w1 (HV.out.grow hb1.out)).mono ?_
  rintro e w' ⟨rfl, rfl⟩
  generalize hbz : baseV l = b0 at *
  have HBE := hidden hbz
  clear hbz
  have hr1 := hidden (Row.new w1 78 #[.int .i64 b0, .int .i64 0, .int .i64 0] [.int .i64 b0, .int .i64 0, .int .i64 0] rfl)
  rw [hs1.out] at hr1
  have hb2 := hidden (hb1.out.alloc hb1.out.size (.cells #[.int .i64 b0, .int .i64 0, .int .i64 0] 78))
  have hq0 := hidden (Row.grow hr0.out (w' := w1.alloc (.cells #[.int .i64 b0, .int .i64 0, .int .i64 0] 78)) ((Below.refl _ _).alloc (Nat.le_refl _) _))
  have cc := hr1.out.cell 0
  simp only [List.getElem?_cons_zero] at cc
  have hs1o := hs1.out
  go_wp2_with fail
  generalize w1.alloc (.cells #[.int .i64 b0, .int .i64 0, .int .i64 0] 78) = w2 at *
  have htl := tabT_length (cntW (difL l)) (idxW 0 (difL l))
  refine (HTA.out b0 w2 (HV.out.grow hb2.out)).mono ?_
  rintro e w3 ⟨rfl, hg3⟩
  rw [← HDE.out]
  have HTS := hidden (tabT_oneCell (cntW (difL l)) (idxW 0 (difL l)))
  have HTG0 : Hid (∀ j, j < 65 → (tabT (cntW (difL l)) (idxW 0 (difL l)))[j * 2]? = some (.int .i64 (cntW (difL l) j : Int))) := fun j hj => tabT_0 _ _ hj
  have HTG1 : Hid (∀ j, j < 65 → (tabT (cntW (difL l)) (idxW 0 (difL l)))[j * 2 + 1]? = some (.int .i64 (idxW 0 (difL l) j : Int))) := fun j hj => tabT_1 _ _ hj
  generalize tabT (cntW (difL l)) (idxW 0 (difL l)) = T at *
  have hTL : T.toArray.size = 130 := by rw [List.size_toArray, htl]
  have hb3 := hidden (Grows.of_below hb2.out hg3)
  have hr3 := hidden (Row.grow hr1.out hg3)
  have hq3 := hidden (Row.grow hq0.out hg3)
  obtain ⟨g4, hg4⟩ : ∃ g4, w3.heap.size = g4 := ⟨_, rfl⟩
  have hg4b : w.heap.size + 2 ≤ g4 := by
    have h1 := hr3.out.lt
    rw [hg4] at h1
    omega
  have h4 := hidden (Row.at_ w3 91 (Array.replicate 130 (.int .i64 0)) (List.replicate 130 (.int .i64 0)) (by rw [List.toArray_replicate]) g4 hg4.symm)
  have hb4 := hidden (hb3.out.alloc hb3.out.size (.cells (Array.replicate 130 (.int .i64 0)) 91))
  have hr4 := hidden (Row.grow hr3.out (w' := w3.alloc (.cells (Array.replicate 130 (.int .i64 0)) 91)) ((Below.refl _ _).alloc (Nat.le_refl _) _))
  have hq4 := hidden (Row.grow hq3.out (w' := w3.alloc (.cells (Array.replicate 130 (.int .i64 0)) 91)) ((Below.refl _ _).alloc (Nat.le_refl _) _))
  have hs4 := World.size_alloc w3 (.cells (Array.replicate 130 (.int .i64 0)) 91)
  rw [hg4] at hs4
  have hH4 : (w3.alloc (.cells (Array.replicate 130 (.int .i64 0)) 91)).heap[g4]? = some (.cells (List.replicate 130 (Value.int .i64 0)).toArray 91 (0, 0)) := h4.out
  have HI := hidden (show (Try.prog.info? 91).map (·.size) = some T.toArray.size by rw [hi, hTL])
  have hsz1 : (List.replicate 130 (Value.int .i64 0)).toArray.size = T.toArray.size := by rw [hTL, List.size_toArray, List.length_replicate]
  have HH4 := hidden hH4
  have HS1 := hidden hsz1
  have h5 := hidden (Row.setRow_ h4.out T hsz1)
  have hb5 := hidden (below_setRow hb4.out (show w.heap.size ≤ g4 by omega) T.toArray)
  have hr5 : Hid (Row ((w3.alloc (.cells (Array.replicate 130 (.int .i64 0)) 91)).setRow g4 T.toArray) (w.heap.size + 1) 78 [.int .i64 b0, .int .i64 0, .int .i64 0]) := by
    have h := hr4.out
    unfold Row at h ⊢
    rw [setRow_other _ _ _ _ (by omega)]
    exact h
  have hq5 : Hid (Row ((w3.alloc (.cells (Array.replicate 130 (.int .i64 0)) 91)).setRow g4 T.toArray) w.heap.size 78 [.int .i64 0, .int .i64 0, .int .i64 0]) := by
    have h := hq4.out
    unfold Row at h ⊢
    rw [setRow_other _ _ _ _ (by omega)]
    exact h
  have hs5 : ((w3.alloc (.cells (Array.replicate 130 (.int .i64 0)) 91)).setRow g4 T.toArray).heap.size = g4 + 1 := by
    simp only [World.setRow, Array.size_modify]
    exact hs4
  have HG4 := hidden hg4
  clear cc hr0 hr1 hq0 hs1 hs1o hb1 hb2 hg3 hsz1 hH4 hs4 htl
  go_wp2_with (refine wpList_store_row rfl _ _ _ rfl _ _ rfl rfl _ _ HH4.out HI.out HS1.out HTS.out ?_)
  have hz5 := hidden (Row.at_ ((w3.alloc (.cells (Array.replicate 130 (.int .i64 0)) 91)).setRow g4 T.toArray) 93 (Array.replicate 65 (.int .i64 0)) (canT (sizeW l) 0) (canT_zero _) (g4 + 1) hs5.symm)
  have hgr : Grows ((w3.alloc (.cells (Array.replicate 130 (.int .i64 0)) 91)).setRow g4 T.toArray) (((w3.alloc (.cells (Array.replicate 130 (.int .i64 0)) 91)).setRow g4 T.toArray).alloc (.cells (Array.replicate 65 (.int .i64 0)) 93)) := (Below.refl _ _).alloc (Nat.le_refl _) _
  have h6 := hidden (Row.grow h5.out hgr)
  have hr6 := hidden (Row.grow hr5.out hgr)
  have hq6 := hidden (Row.grow hq5.out hgr)
  have hb6 := hidden (Grows.of_below hb5.out hgr)
  generalize ((w3.alloc (.cells (Array.replicate 130 (.int .i64 0)) 91)).setRow g4 T.toArray).alloc (.cells (Array.replicate 65 (.int .i64 0)) 93) = w6 at *
  clear hz hi hz2 hi2 hgr h4 h5 hb3 hb4 hb5 hr3 hr4 hr5 hq3 hq4 hq5 hs5 HH4 HI HS1 HG4
  go_loopw [14] (fun i wr => ChRel w g4 (g4 + 1) b0 T (sizeW l) i wr) (fun i _ => 65 - (intOf i).toNat)
  case atStart => exact ⟨0, by omega, rfl, hz5.out, hr6.out, h6.out, hq6.out, hb6.out⟩
  case round =>
    obtain ⟨k, hk, rfl, rc, rb, rt, r0, hbw⟩ := hrel
    have RC := hidden rc
    have RB := hidden rb
    have RT := hidden rt
    have R0 := hidden r0
    have HB := hidden hbw
    clear rc rb rt r0 hbw hz5 h6 hr6 hq6 hb6
    by_cases hlt : k < 65
    · have hzb := zz_bd b0 HB0.out.1 (by have := HB0.out.2; omega)
      obtain ⟨Z, hZ⟩ := Int.eq_ofNat_of_zero_le hzb.1
      have HZG := hidden (fun w' => zigzag_any b0 w' HB0.out.1 (by have := HB0.out.2; omega))
      have HSK := hidden (HSZ.out k (by omega))
      rw [hZ] at HZG hzb HSK
      rw [Int.toNat_natCast] at HSK
      have HVZ := hidden (fun w' => varintSize_any Z w' (by omega))
      have HVK := hidden (fun w' => varintSize_any k w' (by omega))
      have hz10 := (esz_bd (n := Z) (by omega)).2
      have hk10 := (esz_bd (n := k) (by omega)).2
      have HBS := hidden (fun w' => size_any (l.length : Int) (k : Int) w')
      rw [sizeI_nat (n := l.length) (m := k) (by omega) (by omega)] at HBS
      have hms := many_sum (w := k) (by omega) (difL l) HDU.out
      have hxs := exc_sum (w := k) (by omega) (difL l) 0 HDU.out (by rw [HDL.out]; omega)
      have hml := many_le k (difL l)
      have hxl := exc_len k (difL l) 0
      rw [HDL.out] at hml hxl
      have HES := hidden (fun v' w' hv' => excSize_any v' (64 - k) (fun j => cntW (difL l) (k + 1 + j)) (fun j => idxW 0 (difL l) (k + 1 + j)) w' hv' (by omega) (by rw [hms]; omega) (by rw [hxs]; omega))
      have hsl := HSL.out k (by omega)
      rw [HSK.out] at hsl
      have HRT : Hid (∀ (w' : World) (A' : Option Addr) (c' : Nat), Grows wr w' → (k < 64 → A' = some ⟨g4, (k + 1) * 2, none⟩) → ReadsT w' (.slice A' (64 - k) c') (64 - k) (fun j => cntW (difL l) (k + 1 + j)) (fun j => idxW 0 (difL l) (k + 1 + j))) := fun w' A' c' hg hA => by
        refine ⟨A', c', rfl, fun hn => ⟨g4, (k + 1) * 2, hA (by omega), fun j hj => ?_⟩⟩
        have hr := Row.grow RT.out hg
        have e1 : (k + 1) * 2 + j * 2 = (k + 1 + j) * 2 := by omega
        have e2 : (k + 1) * 2 + j * 2 + 1 = (k + 1 + j) * 2 + 1 := by omega
        exact ⟨by rw [hr.cell, e1, HTG0.out (k + 1 + j) (by omega)], by rw [hr.cell, e2, HTG1.out (k + 1 + j) (by omega)]⟩
      generalize excSz (fun j => cntW (difL l) (k + 1 + j)) (fun j => idxW 0 (difL l) (k + 1 + j)) (64 - k) = ez at *
      generalize szB l.length k = sz at *
      generalize hez : esz Z = ea at *
      generalize hek : esz k = eb at *
      have HX : Hid (∀ w', Grows wr w' → w'.cell? ⟨w.heap.size + 1, 0, none⟩ = some (.int .i64 b0)) := fun w' hg => (Row.grow RB.out hg).cell 0
      have hwk : IntKind.u64.wrap (k : Int) = (k : Int) := by rw [IntKind.wrap_u64]; omega
      have wa : IntKind.i64.wrap ((k : Int) + 1) = (k : Int) + 1 := by rw [IntKind.wrap_i64]; omega
      have wb : IntKind.i64.wrap ((ea : Int) + (eb : Int)) = (ea : Int) + (eb : Int) := by rw [IntKind.wrap_i64]; omega
      have wc : IntKind.i64.wrap ((ea : Int) + (eb : Int) + (ez : Int)) = (ea : Int) + (eb : Int) + (ez : Int) := by rw [IntKind.wrap_i64]; omega
      have wd : IntKind.i64.wrap ((ea : Int) + (eb : Int) + (ez : Int) + (sz : Int)) = (ea : Int) + (eb : Int) + (ez : Int) + (sz : Int) := by rw [IntKind.wrap_i64]; omega
      obtain ⟨AK, hAK, hsa⟩ := slice_tab g4 k (by omega)
      have HAK := hidden hAK
      clear hms hxs hml hxl hZ hez hek hAK
      go_wp2_with fail
      refine wp_region_loose_tail 19 (tabRs [(3, ConstV (.int .u64 (Z : Int))), (4, ConstV (.int .i64 (ea : Int))), (7, ConstV (.int .i64 (eb : Int))), (12, ConstV (.int .i64 (ez : Int))), (17, ConstV (.int .i64 (sz : Int)))]) (by kernel_rfl) (by kernel_rfl) (tabRs_cons ConstV.lasts (tabRs_cons ConstV.lasts (tabRs_cons ConstV.lasts (tabRs_cons ConstV.lasts (tabRs_cons ConstV.lasts tabRs_nil))))) ?_
      simp only [List.take_succ_cons, List.take_zero, List.drop_succ_cons, List.drop_zero]
      iterate 3 ((with_reducible refine loose_one (v := ?_) (a' := ?_) ?_ ?_ (fun w' hC' hG' => ?_) ?_ ?_); rotate_left 2; (focus rfl); (focus rfl); (focus (have cc := HX.out w' hC'; clear hC' hG'; go_simp; rfl)); (focus (go_simp; rfl)))
      refine loose_call (R := ConstV (.int .u64 (Z : Int))) (f := 33) (args := #[.int .i64 b0]) (by rfl) (by rfl) (fun _ => by go_simp) (fun w' hC' hG' => const_loose0 (HZG.out w')) ?_
      rintro _ ⟨_, _, rfl⟩
      refine ⟨?_, ?_, ?_⟩
      rotate_left
      · go_simp
        rfl
      refine loose_call (R := ConstV (.int .i64 (ea : Int))) (f := 69) (args := #[.int .u64 (Z : Int)]) (by rfl) (by rfl) (fun _ => by go_simp) (fun w' hC' hG' => const_loose0 (HVZ.out w')) ?_
      rintro _ ⟨_, _, rfl⟩
      refine ⟨?_, ?_, ?_⟩
      rotate_left
      · go_simp
        rfl
      iterate 2 ((with_reducible refine loose_one (v := ?_) (a' := ?_) ?_ ?_ (fun w' hC' hG' => ?_) ?_ ?_); rotate_left 2; (focus rfl); (focus rfl); (focus (have cc := HX.out w' hC'; clear hC' hG'; go_simp; rfl)); (focus (go_simp; rfl)))
      refine loose_call (R := ConstV (.int .i64 (eb : Int))) (f := 69) (args := #[.int .u64 (k : Int)]) (by rfl) (by rfl) (fun _ => by go_simp) (fun w' hC' hG' => const_loose0 (HVK.out w')) ?_
      rintro _ ⟨_, _, rfl⟩
      refine ⟨?_, ?_, ?_⟩
      rotate_left
      · go_simp
        rfl
      iterate 4 ((with_reducible refine loose_one (v := ?_) (a' := ?_) ?_ ?_ (fun w' hC' hG' => ?_) ?_ ?_); rotate_left 2; (focus rfl); (focus rfl); (focus (have cc := HX.out w' hC'; clear hC' hG'; go_simp; rfl)); (focus (go_simp; rfl)))
      refine loose_call (R := ConstV (.int .i64 (ez : Int))) (f := 70) (args := #[.slice AK (64 - k) (64 - k)]) (by rfl) (by rfl) (fun _ => by go_simp) (fun w' hC' hG' => const_loose (HES.out _ w' (HRT.out w' _ _ hC' HAK.out))) ?_
      rintro _ ⟨_, _, rfl⟩
      refine ⟨?_, ?_, ?_⟩
      rotate_left
      · go_simp
        rfl
      iterate 4 ((with_reducible refine loose_one (v := ?_) (a' := ?_) ?_ ?_ (fun w' hC' hG' => ?_) ?_ ?_); rotate_left 2; (focus rfl); (focus rfl); (focus (have cc := HX.out w' hC'; clear hC' hG'; go_simp; rfl)); (focus (go_simp; rfl)))
      refine loose_call (R := ConstV (.int .i64 (sz : Int))) (f := 55) (args := #[.int .i64 (l.length : Int), .int .i64 (k : Int)]) (by rfl) (by rfl) (fun _ => by go_simp) (fun w' hC' hG' => const_loose0 (HBS.out w')) ?_
      rintro _ ⟨_, _, rfl⟩
      refine ⟨?_, ?_, ?_⟩
      rotate_left
      · go_simp
        rfl
      iterate 1 ((with_reducible refine loose_one (v := ?_) (a' := ?_) ?_ ?_ (fun w' hC' hG' => ?_) ?_ ?_); rotate_left 2; (focus rfl); (focus rfl); (focus (have cc := HX.out w' hC'; clear hC' hG'; go_simp; rfl)); (focus (go_simp; rfl)))
      refine loose_done (fun w7 hC' hG' => ?_)
      clear hG'
      have rc7 := Row.grow RC.out hC'
      have fr7 := rc7.frozen k
      have cc7 := rc7.cell k
      rw [canT_at _ _ hlt, if_neg (by omega)] at cc7
      have e3 : (ea : Int) + (eb : Int) + (ez : Int) + (sz : Int) = ((sizeW l k : Nat) : Int) := by rw [HSK.out]; omega
      obtain ⟨F, hF⟩ : ∃ F, F = sizeW l k := ⟨_, rfl⟩
      have rc8 := rc7.set_ k (.int .i64 ((sizeW l k : Nat) : Int))
      rw [canT_set _ hlt, ← e3] at rc8
      have hg1 := RB.out.lt
      have rb8 := (Row.grow RB.out hC').other (a := ⟨g4 + 1, k, none⟩) (by show g4 + 1 ≠ w.heap.size + 1; omega) (.int .i64 ((ea : Int) + (eb : Int) + (ez : Int) + (sz : Int)))
      have rt8 := (Row.grow RT.out hC').other (a := ⟨g4 + 1, k, none⟩) (by show g4 + 1 ≠ g4; omega) (.int .i64 ((ea : Int) + (eb : Int) + (ez : Int) + (sz : Int)))
      have r08 := (Row.grow R0.out hC').other (a := ⟨g4 + 1, k, none⟩) (by show g4 + 1 ≠ w.heap.size; omega) (.int .i64 ((ea : Int) + (eb : Int) + (ez : Int) + (sz : Int)))
      have b8 := (Grows.of_below HB.out hC').setCell (p := ⟨g4 + 1, k, none⟩) (by show w.heap.size ≤ g4 + 1; omega) (.int .i64 ((ea : Int) + (eb : Int) + (ez : Int) + (sz : Int)))
      have RC8 := hidden rc8
      have RB8 := hidden rb8
      have RT8 := hidden rt8
      have R08 := hidden r08
      have B8 := hidden b8
      have HF := hidden hF
      have E3 := hidden e3
      clear rc7 rc8 rb8 rt8 r08 b8 hC' hF e3 hsa
      go_wp2_with fail
      generalize w7.setCell ⟨g4 + 1, k, none⟩ (.int .i64 ((ea : Int) + (eb : Int) + (ez : Int) + (sz : Int))) = w8 at *
      clear fr7 cc7 wa wb wc wd hwk hz10 hk10
      have hBk : bestTo (sizeW l) (k - 1) ≤ k := by have := HBL.out (k - 1); omega
      have c0 := RC8.out.cell k
      have c1 := RC8.out.cell (bestTo (sizeW l) (k - 1))
      rw [canT_at _ _ hlt, if_pos (by omega), ← HF.out] at c0
      rw [canT_at _ _ (by omega), if_pos (by omega)] at c1
      have c2 := RB8.out.cell 1
      simp only [List.getElem?_cons_succ, List.getElem?_cons_zero] at c2
      have f2 := RB8.out.frozen 1
      have HBQ := hidden (show ∀ x, Row (w8.setCell ⟨w.heap.size + 1, 1, none⟩ (.int .i64 x)) (w.heap.size + 1) 78 [.int .i64 b0, .int .i64 x, .int .i64 0] from fun x => RB8.out.set_ 1 (.int .i64 x))
      have HLT := hidden (fun h => lbestTo_lt (f := sizeW l) (k := k) h)
      have HGE := hidden (fun h => lbestTo_ge (f := sizeW l) (k := k) h)
      have hF2 : F ≤ 2000000 := by rw [HF.out]; exact HSL.out k (by omega)
      have hFB : sizeW l (bestTo (sizeW l) (k - 1)) ≤ 2000000 := HSL.out _ (by omega)
      rw [← HF.out] at HLT HGE
      obtain ⟨bw, hbw⟩ : ∃ bw, bw = bestTo (sizeW l) (k - 1) := ⟨_, rfl⟩
      rw [← hbw] at hBk c1 HLT HGE hFB RB8
      obtain ⟨FB, hFBe⟩ : ∃ FB, FB = sizeW l bw := ⟨_, rfl⟩
      rw [← hFBe] at c1 HLT HGE hFB
      have HBW := hidden hbw
      rw [← hbw] at c2
      clear hbw hFBe
      by_cases hcc : F < FB
      · have hd : decide (F < FB) = true := by simpa using hcc
        have HNW := hidden (HLT.out hcc)
        clear hcc
        go_quiet (fail)
        go_wp2_with fail
        rename_i nq
        refine ⟨⟨k + 1, by omega, by go_num, ?_, ?_, ?_, ?_, ?_⟩, by simp [intOf]; omega⟩
        · exact (RC8.out.drewN_ nq).other (by show w.heap.size + 1 ≠ g4 + 1; omega) _
        · rw [Nat.add_sub_cancel, HNW.out]
          exact (RB8.out.drewN_ nq).set_ 1 _
        · exact (RT8.out.drewN_ nq).other (by show w.heap.size + 1 ≠ g4; omega) _
        · exact (R08.out.drewN_ nq).other (by show w.heap.size + 1 ≠ w.heap.size; omega) _
        · exact (below_drewN B8.out nq).setCell (by show w.heap.size ≤ w.heap.size + 1; omega) _
      · have hd : decide (F < FB) = false := by simpa using hcc
        have HNW := hidden (HGE.out hcc)
        clear hcc
        go_quiet (fail)
        go_wp2_with fail
        rename_i nq
        refine ⟨⟨k + 1, by omega, by go_num, RC8.out.drewN_ nq, ?_, RT8.out.drewN_ nq, R08.out.drewN_ nq, below_drewN B8.out nq⟩, by simp [intOf]; omega⟩
        rw [Nat.add_sub_cancel, HNW.out]
        exact RB8.out.drewN_ nq
    · have hke : k = 65 := by omega
      subst hke
      have c2 := RB.out.cell 1
      simp only [List.getElem?_cons_succ, List.getElem?_cons_zero, show 65 - 1 = 64 from rfl] at c2
      rw [HFI.out] at c2
      have hBw := HBL.out 64
      rw [HFI.out] at hBw
      have c1 := RC.out.cell (bestW l)
      rw [canT_at _ _ (by omega), if_pos (by omega), HFS.out] at c1
      have rb := RB.out
      rw [show 65 - 1 = 64 from rfl, HFI.out] at rb
      have f2 := rb.frozen 2
      have c22 := rb.cell 2
      simp only [List.getElem?_cons_succ, List.getElem?_cons_zero] at c22
      have rb9 := rb.set_ 2 (.int .i64 ((sizeV l : Nat) : Int))
      have r09 := R0.out.other (a := ⟨w.heap.size + 1, 2, none⟩) (by show w.heap.size + 1 ≠ w.heap.size; omega) (.int .i64 ((sizeV l : Nat) : Int))
      have b9 := HB.out.setCell (p := ⟨w.heap.size + 1, 2, none⟩) (by show w.heap.size ≤ w.heap.size + 1; omega) (.int .i64 ((sizeV l : Nat) : Int))
      generalize hbw : bestW l = bw at *
      generalize hsv : sizeV l = sv at *
      have HWE := hidden hbw
      have HVE := hidden hsv
      clear hbw hsv
      have RB9 : Hid ((wr.setCell ⟨w.heap.size + 1, 2, none⟩ (.int .i64 (sv : Int))).heap[w.heap.size + 1]? = some (.cells #[.int .i64 b0, .int .i64 (bw : Int), .int .i64 (sv : Int)] 78 (0, 0))) := rb9
      have R09 : Hid ((wr.setCell ⟨w.heap.size + 1, 2, none⟩ (.int .i64 (sv : Int))).heap[w.heap.size]? = some (.cells #[.int .i64 0, .int .i64 0, .int .i64 0] 78 (0, 0))) := r09
      have B9 := hidden b9
      have hrow := hidden (Row.setRow_ r09 [.int .i64 b0, .int .i64 (bw : Int), .int .i64 (sv : Int)] rfl)
      clear rb9 r09 b9 rb
      go_wp2_with (first | refine wpList_load_row rfl _ _ rfl _ rfl _ _ _ _ RB9.out Try.underlying78 rfl sizeCh ?_ | refine wpList_store_row rfl _ _ _ rfl _ _ rfl rfl _ _ R09.out sizeCh rfl (by simp [Value.oneCell']) ?_)
      refine bodyPost_ret (v := .agg #[.int .i64 b0, .int .i64 (bw : Int), .int .i64 (sv : Int)]) ?_ rfl ⟨by rw [HBE.out, HWE.out, HVE.out], below_setRow B9.out (Nat.le_refl _) _⟩
      exact results_cell_row rfl _ _ _ _ _ _ _ rfl hrow.out Try.underlying78 rfl sizeCh
theorem best_any (v : Value) (l : List Int) (w : World) (hv : IsI w v l) (hl : l.length ≤ 65536) (hin : ∀ x ∈ l, frIn x) :
    Calls Try.prog 35 #[v] w fun e w' => e = .returned (.tuple #[.int .i64 (baseV l), .int .i64 ((bestW l : Nat) : Int)]) ∧ Grows w w' := by
  have HC := hidden (choose_any v l w hv hl hin)
  clear hv
  generalize baseV l = b0 at *
  generalize bestW l = bw at *
  generalize sizeV l = sv at *
  go_enter Try.func35, Try.ntmps35
  go_wp2_with fail
  refine HC.out.mono ?_
  rintro e w1 ⟨rfl, hg⟩
  have HG := hidden (Grows.of_below hg ((Below.refl w1.heap.size w1).alloc (Nat.le_refl _) (.cells #[.int .i64 b0, .int .i64 (bw : Int), .int .i64 (sv : Int)] 78)))
  have hr := Row.new w1 78 #[.int .i64 b0, .int .i64 (bw : Int), .int .i64 (sv : Int)] [.int .i64 b0, .int .i64 (bw : Int), .int .i64 (sv : Int)] rfl
  have c0 := hr.cell 0
  have c1 := hr.cell 1
  simp only [List.getElem?_cons_succ, List.getElem?_cons_zero] at c0 c1
  clear hg hr
  go_wp2_with fail
  go_quiet (fail)
  go_wp2_with fail
  go_ret2
  exact ⟨rfl, below_drewN HG.out _⟩
theorem field_ch (x y z : Int) (w : World) : (Instr.field 78 (.agg #[.int .i64 x, .int .i64 y, .int .i64 z]) 2).run Try.prog w = .ok (.int .i64 z) w := by
  rfl
theorem size_anyF (v : Value) (l : List Int) (w : World) (hv : IsI w v l) (hl : l.length ≤ 65536) (hin : ∀ x ∈ l, frIn x) :
    Calls Try.prog 34 #[v] w fun e w' => e = .returned (.int .i64 ((sizeV l : Nat) : Int)) ∧ Grows w w' := by
  have HC := hidden (choose_any v l w hv hl hin)
  clear hv
  generalize baseV l = b0 at *
  generalize bestW l = bw at *
  generalize sizeV l = sv at *
  have hf := field_ch b0 (bw : Int) (sv : Int)
  go_enter Try.func34, Try.ntmps34
  go_wp2_with fail
  refine HC.out.mono ?_
  rintro e w1 ⟨rfl, hg⟩
  have HG := hidden hg
  clear hg
  go_wp2_with fail
  go_ret
  exact ⟨rfl, HG.out⟩
end Go.Proofs.Ytjjeebaelpgjlaa
