/-
  The reference's And, Or and AndNot return what the document says; nothing that was there is changed.
-/
import Derived.Test.YtaegolkoinjmoaaDoorBsRef4
namespace Go.Proofs.YtaegolkoinjmoaaDoor
open Go.RowKit

set_option maxHeartbeats 1000000 in
theorem rand_any (s t : Value) (na nb : Nat) (wa wb : List UInt64) (w : World) (hs : IsSet w s na wa) (ht : IsSet w t nb wb) :
    Calls Tryd.prog 31 #[s, t] w (FreshSet (max na nb) (pack (max na nb) fun j => mem na wa j && mem nb wb j) w) := by
  have HS := hidden hs
  have HT := hidden ht
  obtain ⟨v, rfl, hr, hn, hn2⟩ := hs
  obtain ⟨A, d, rfl, _⟩ := hr.slice_
  obtain ⟨u, rfl, hr', hn', hn2'⟩ := ht
  obtain ⟨B, d', rfl, _⟩ := hr'.slice_
  rw [ucells_length] at HS hr ⊢
  rw [ucells_length] at HT hr' ⊢
  obtain ⟨F, hF⟩ : ∃ F : Nat → Bool, F = fun j => mem na wa j && mem nb wb j := ⟨_, rfl⟩
  rw [← hF]
  clear hr hr'
  by_cases hab : na < nb
  · have hmax : max na nb = nb := by omega
    rw [hmax]
    clear hmax
    have HF := hidden hF
    clear hF
    have hF := fun j => congrFun HF.out j
    have HEQ := hidden hF
    clear hF
    have hmk := fun W => run_make_one (P := Tryd.prog) 57 4 (.bool false) 1 Tryd.underlying57 info_bool rfl nb (by omega) (by omega) W
    have HZ := hidden (made_tcells nb)
    have HZ2 := hidden (bits_none nb F)
    go_enter Tryd.func31, Tryd.ntmps31
    go_wp2_with fail
    go_loopw [6] (fun k wr => OpRel w nb na nb (.slice A wa.length d) (.slice B wb.length d') F k wr) (fun k _ => nb - (intOf k).toNat)
    case atStart =>
      refine ⟨0, by omega, rfl, (((Row.new w _ _ _ rfl).grow ((Below.refl _ _).alloc (Nat.le_refl _) _)).grow ((Below.refl _ _).alloc (Nat.le_refl _) _)).grow ((Below.refl _ _).alloc (Nat.le_refl _) _), ((Row.at_ _ _ _ _ rfl _ (by simp)).grow ((Below.refl _ _).alloc (Nat.le_refl _) _)).grow ((Below.refl _ _).alloc (Nat.le_refl _) _), (Row.at_ _ _ _ _ rfl _ (by simp)).grow ((Below.refl _ _).alloc (Nat.le_refl _) _), Row.at_ _ _ _ _ ?_ _ (by simp), ((((Below.refl _ _).alloc (Nat.le_refl _) _).alloc (by simp) _).alloc (by simp; omega) _).alloc (by simp; omega) _⟩
      rw [HZ.out, HZ2.out]
    case round =>
      obtain ⟨j, hj, rfl, r1, r2, r3, r4, hb⟩ := hrel
      have hc0 := r1.cell 0
      have hc1 := r1.cell 1
      simp only [List.getElem?_cons_zero, List.getElem?_cons_succ] at hc0 hc1
      have R1 := hidden r1
      have R2 := hidden r2
      have R3 := hidden r3
      have R4 := hidden r4
      have HB := hidden hb
      clear r1 r2 r3 r4 hb hmk
      by_cases hlt : j < nb
      · have HC1 := hidden (rcontains_any _ na wa (j : Int) wr (HS.out.grow HB.out) (by omega) (by omega))
        have hFj : F j = (mem na wa j && mem nb wb j) := by rw [HEQ.out]
        go_wp2_with fail
        refine (Calls.mono HC1.out ?_)
        rintro e w2 ⟨rfl, g2⟩
        rw [memI_nat]
        have r2b := R2.out.grow g2
        have hd0 := r2b.cell 0
        have hd1 := r2b.cell 1
        simp only [List.getElem?_cons_zero, List.getElem?_cons_succ] at hd0 hd1
        have HR1 := hidden (R1.out.grow g2)
        have HR2 := hidden r2b
        have HR3 := hidden (R3.out.grow g2)
        have HR4 := hidden (R4.out.grow g2)
        have HG := hidden (HB.out.trans (g2.mono HB.out.size))
        clear g2 r2b
        by_cases hm : mem na wa j = true
        · rw [hm] at hFj ⊢
          have HC2 := hidden (rcontains_any _ nb wb (j : Int) w2 (HT.out.grow HG.out) (by omega) (by omega))
          go_wp2_with fail
          refine (Calls.mono HC2.out ?_)
          rintro e w4 ⟨rfl, g4⟩
          rw [memI_nat]
          have hsz2 : w.heap.size ≤ w2.heap.size := HG.out.size
          have HR1' := hidden (HR1.out.grow g4)
          have HR2' := hidden (HR2.out.grow g4)
          have HR3' := hidden (HR3.out.grow g4)
          have HR4' := hidden (HR4.out.grow g4)
          have HG' := hidden (HG.out.trans (g4.mono hsz2))
          clear g4 HR1 HR2 HR3 HR4 HG hd0 hd1
          have HR1 := HR1'
          have HR2 := HR2'
          have HR3 := HR3'
          have HR4 := HR4'
          have HG := HG'
          clear HR1' HR2' HR3' HR4' HG'
          generalize mem nb wb j = y at *
          have HV : Hid (F j = (y)) := by show F j = (y); rw [hFj]; cases y <;> rfl
          have hcell := HR4.out.cell j
          rw [tcells_bits hlt] at hcell
          have hfr := HR4.out.frozen j
          have HSET := hidden (HR4.out.set_ j (.bool (y)))
          have HSL : Hid ((tcells (bitsOf (upto F j) nb)).set j (.bool (y)) = tcells (bitsOf (upto F (j + 1)) nb)) := by
            show _ = _
            rw [← HV.out, tcells_set, bits_set hlt]
          go_wp2
          go_roundw
          case rel =>
            refine ⟨j + 1, by omega, by go_num, HR1.out.set_other (by show w.heap.size + 3 ≠ _; omega) _, HR2.out.set_other (by show w.heap.size + 3 ≠ _; omega) _, HR3.out.set_other (by show w.heap.size + 3 ≠ _; omega) _, ?_, HG.out.setCell (by show w.heap.size ≤ w.heap.size + 3; omega) _⟩
            have h := HSET.out
            rw [HSL.out] at h
            exact h
          case measure => simp [intOf]; omega
        · have hm' : mem na wa j = false := by simpa using hm
          rw [hm'] at hFj ⊢
          clear hm hm'
          have HV : Hid (F j = false) := by show F j = false; rw [hFj]; rfl
          have hcell := HR4.out.cell j
          rw [tcells_bits hlt] at hcell
          have hfr := HR4.out.frozen j
          have HSET := hidden (HR4.out.set_ j (.bool false))
          have HSL : Hid ((tcells (bitsOf (upto F j) nb)).set j (.bool false) = tcells (bitsOf (upto F (j + 1)) nb)) := by
            show _ = _
            rw [← HV.out, tcells_set, bits_set hlt]
          go_wp2
          go_roundw
          case rel =>
            refine ⟨j + 1, by omega, by go_num, HR1.out.set_other (by show w.heap.size + 3 ≠ _; omega) _, HR2.out.set_other (by show w.heap.size + 3 ≠ _; omega) _, HR3.out.set_other (by show w.heap.size + 3 ≠ _; omega) _, ?_, HG.out.setCell (by show w.heap.size ≤ w.heap.size + 3; omega) _⟩
            have h := HSET.out
            rw [HSL.out] at h
            exact h
          case measure => simp [intOf]; omega
      · have hke : j = nb := by omega
        have HA := hidden (bits_all (f := F) (Nat.le_of_eq hke.symm))
        have hrow := R4.out
        rw [HA.out] at hrow
        have HBU := hidden (rbuild_any _ nb F wr (Reads.of_row hrow nb nb (by rw [tcells_length, bitsOf_length]) (Nat.le_refl _)) (by omega))
        have hnj : nb ≤ j := by omega
        clear hrow hke
        go_wp2_with fail
        refine (Calls.mono HBU.out ?_)
        rintro e w3 ⟨g3, hg3, rfl, hr3, hb3⟩
        have hr0 := R3.out.grow hb3
        have HR0 := hidden hr0
        have HRW := hidden hr3
        have HG3 := hidden (HB.out.trans (hb3.mono HB.out.size))
        have hg4 : w.heap.size + 2 < g3 := Nat.lt_of_lt_of_le (by have := R4.out.lt; omega) hg3
        rw [pack_length]
        have HRS := hidden (hr0.setRow_ [.int .i64 (nb : Int), .slice (some ⟨g3, 0, none⟩) (nw nb) (nw nb)] rfl)
        clear hr0 hr3 hb3 hg3
        go_wp2_with (refine wpList_store_set rfl _ _ rfl (w.heap.size + 2) rfl _ _ _ _ _ rfl HR0.out ?_)
        refine bodyPost_ret (results_set rfl _ _ _ _ _ rfl HRS.out) rfl ⟨g3, by omega, by rw [pack_length], ?_, below_setRow HG3.out (by omega) _⟩
        have h := HRW.out
        unfold Row at h ⊢
        rw [setRow_other _ _ _ _ (by omega)]
        exact h
  · have hmax : max na nb = na := by omega
    rw [hmax]
    clear hmax
    have HF := hidden hF
    clear hF
    have hF := fun j => congrFun HF.out j
    have HEQ := hidden hF
    clear hF
    have hmk := fun W => run_make_one (P := Tryd.prog) 57 4 (.bool false) 1 Tryd.underlying57 info_bool rfl na (by omega) (by omega) W
    have HZ := hidden (made_tcells na)
    have HZ2 := hidden (bits_none na F)
    go_enter Tryd.func31, Tryd.ntmps31
    go_wp2_with fail
    go_loopw [6] (fun k wr => OpRel w na na nb (.slice A wa.length d) (.slice B wb.length d') F k wr) (fun k _ => na - (intOf k).toNat)
    case atStart =>
      refine ⟨0, by omega, rfl, (((Row.new w _ _ _ rfl).grow ((Below.refl _ _).alloc (Nat.le_refl _) _)).grow ((Below.refl _ _).alloc (Nat.le_refl _) _)).grow ((Below.refl _ _).alloc (Nat.le_refl _) _), ((Row.at_ _ _ _ _ rfl _ (by simp)).grow ((Below.refl _ _).alloc (Nat.le_refl _) _)).grow ((Below.refl _ _).alloc (Nat.le_refl _) _), (Row.at_ _ _ _ _ rfl _ (by simp)).grow ((Below.refl _ _).alloc (Nat.le_refl _) _), Row.at_ _ _ _ _ ?_ _ (by simp), ((((Below.refl _ _).alloc (Nat.le_refl _) _).alloc (by simp) _).alloc (by simp; omega) _).alloc (by simp; omega) _⟩
      rw [HZ.out, HZ2.out]
    case round =>
      obtain ⟨j, hj, rfl, r1, r2, r3, r4, hb⟩ := hrel
      have hc0 := r1.cell 0
      have hc1 := r1.cell 1
      simp only [List.getElem?_cons_zero, List.getElem?_cons_succ] at hc0 hc1
      have R1 := hidden r1
      have R2 := hidden r2
      have R3 := hidden r3
      have R4 := hidden r4
      have HB := hidden hb
      clear r1 r2 r3 r4 hb hmk
      by_cases hlt : j < na
      · have HC1 := hidden (rcontains_any _ na wa (j : Int) wr (HS.out.grow HB.out) (by omega) (by omega))
        have hFj : F j = (mem na wa j && mem nb wb j) := by rw [HEQ.out]
        go_wp2_with fail
        refine (Calls.mono HC1.out ?_)
        rintro e w2 ⟨rfl, g2⟩
        rw [memI_nat]
        have r2b := R2.out.grow g2
        have hd0 := r2b.cell 0
        have hd1 := r2b.cell 1
        simp only [List.getElem?_cons_zero, List.getElem?_cons_succ] at hd0 hd1
        have HR1 := hidden (R1.out.grow g2)
        have HR2 := hidden r2b
        have HR3 := hidden (R3.out.grow g2)
        have HR4 := hidden (R4.out.grow g2)
        have HG := hidden (HB.out.trans (g2.mono HB.out.size))
        clear g2 r2b
        by_cases hm : mem na wa j = true
        · rw [hm] at hFj ⊢
          have HC2 := hidden (rcontains_any _ nb wb (j : Int) w2 (HT.out.grow HG.out) (by omega) (by omega))
          go_wp2_with fail
          refine (Calls.mono HC2.out ?_)
          rintro e w4 ⟨rfl, g4⟩
          rw [memI_nat]
          have hsz2 : w.heap.size ≤ w2.heap.size := HG.out.size
          have HR1' := hidden (HR1.out.grow g4)
          have HR2' := hidden (HR2.out.grow g4)
          have HR3' := hidden (HR3.out.grow g4)
          have HR4' := hidden (HR4.out.grow g4)
          have HG' := hidden (HG.out.trans (g4.mono hsz2))
          clear g4 HR1 HR2 HR3 HR4 HG hd0 hd1
          have HR1 := HR1'
          have HR2 := HR2'
          have HR3 := HR3'
          have HR4 := HR4'
          have HG := HG'
          clear HR1' HR2' HR3' HR4' HG'
          generalize mem nb wb j = y at *
          have HV : Hid (F j = (y)) := by show F j = (y); rw [hFj]; cases y <;> rfl
          have hcell := HR4.out.cell j
          rw [tcells_bits hlt] at hcell
          have hfr := HR4.out.frozen j
          have HSET := hidden (HR4.out.set_ j (.bool (y)))
          have HSL : Hid ((tcells (bitsOf (upto F j) na)).set j (.bool (y)) = tcells (bitsOf (upto F (j + 1)) na)) := by
            show _ = _
            rw [← HV.out, tcells_set, bits_set hlt]
          go_wp2
          go_roundw
          case rel =>
            refine ⟨j + 1, by omega, by go_num, HR1.out.set_other (by show w.heap.size + 3 ≠ _; omega) _, HR2.out.set_other (by show w.heap.size + 3 ≠ _; omega) _, HR3.out.set_other (by show w.heap.size + 3 ≠ _; omega) _, ?_, HG.out.setCell (by show w.heap.size ≤ w.heap.size + 3; omega) _⟩
            have h := HSET.out
            rw [HSL.out] at h
            exact h
          case measure => simp [intOf]; omega
        · have hm' : mem na wa j = false := by simpa using hm
          rw [hm'] at hFj ⊢
          clear hm hm'
          have HV : Hid (F j = false) := by show F j = false; rw [hFj]; rfl
          have hcell := HR4.out.cell j
          rw [tcells_bits hlt] at hcell
          have hfr := HR4.out.frozen j
          have HSET := hidden (HR4.out.set_ j (.bool false))
          have HSL : Hid ((tcells (bitsOf (upto F j) na)).set j (.bool false) = tcells (bitsOf (upto F (j + 1)) na)) := by
            show _ = _
            rw [← HV.out, tcells_set, bits_set hlt]
          go_wp2
          go_roundw
          case rel =>
            refine ⟨j + 1, by omega, by go_num, HR1.out.set_other (by show w.heap.size + 3 ≠ _; omega) _, HR2.out.set_other (by show w.heap.size + 3 ≠ _; omega) _, HR3.out.set_other (by show w.heap.size + 3 ≠ _; omega) _, ?_, HG.out.setCell (by show w.heap.size ≤ w.heap.size + 3; omega) _⟩
            have h := HSET.out
            rw [HSL.out] at h
            exact h
          case measure => simp [intOf]; omega
      · have hke : j = na := by omega
        have HA := hidden (bits_all (f := F) (Nat.le_of_eq hke.symm))
        have hrow := R4.out
        rw [HA.out] at hrow
        have HBU := hidden (rbuild_any _ na F wr (Reads.of_row hrow na na (by rw [tcells_length, bitsOf_length]) (Nat.le_refl _)) (by omega))
        have hnj : na ≤ j := by omega
        clear hrow hke
        go_wp2_with fail
        refine (Calls.mono HBU.out ?_)
        rintro e w3 ⟨g3, hg3, rfl, hr3, hb3⟩
        have hr0 := R3.out.grow hb3
        have HR0 := hidden hr0
        have HRW := hidden hr3
        have HG3 := hidden (HB.out.trans (hb3.mono HB.out.size))
        have hg4 : w.heap.size + 2 < g3 := Nat.lt_of_lt_of_le (by have := R4.out.lt; omega) hg3
        rw [pack_length]
        have HRS := hidden (hr0.setRow_ [.int .i64 (na : Int), .slice (some ⟨g3, 0, none⟩) (nw na) (nw na)] rfl)
        clear hr0 hr3 hb3 hg3
        go_wp2_with (refine wpList_store_set rfl _ _ rfl (w.heap.size + 2) rfl _ _ _ _ _ rfl HR0.out ?_)
        refine bodyPost_ret (results_set rfl _ _ _ _ _ rfl HRS.out) rfl ⟨g3, by omega, by rw [pack_length], ?_, below_setRow HG3.out (by omega) _⟩
        have h := HRW.out
        unfold Row at h ⊢
        rw [setRow_other _ _ _ _ (by omega)]
        exact h

set_option maxHeartbeats 1000000 in
theorem ror_any (s t : Value) (na nb : Nat) (wa wb : List UInt64) (w : World) (hs : IsSet w s na wa) (ht : IsSet w t nb wb) :
    Calls Tryd.prog 33 #[s, t] w (FreshSet (max na nb) (pack (max na nb) fun j => mem na wa j || mem nb wb j) w) := by
  have HS := hidden hs
  have HT := hidden ht
  obtain ⟨v, rfl, hr, hn, hn2⟩ := hs
  obtain ⟨A, d, rfl, _⟩ := hr.slice_
  obtain ⟨u, rfl, hr', hn', hn2'⟩ := ht
  obtain ⟨B, d', rfl, _⟩ := hr'.slice_
  rw [ucells_length] at HS hr ⊢
  rw [ucells_length] at HT hr' ⊢
  obtain ⟨F, hF⟩ : ∃ F : Nat → Bool, F = fun j => mem na wa j || mem nb wb j := ⟨_, rfl⟩
  rw [← hF]
  clear hr hr'
  by_cases hab : na < nb
  · have hmax : max na nb = nb := by omega
    rw [hmax]
    clear hmax
    have HF := hidden hF
    clear hF
    have hF := fun j => congrFun HF.out j
    have HEQ := hidden hF
    clear hF
    have hmk := fun W => run_make_one (P := Tryd.prog) 57 4 (.bool false) 1 Tryd.underlying57 info_bool rfl nb (by omega) (by omega) W
    have HZ := hidden (made_tcells nb)
    have HZ2 := hidden (bits_none nb F)
    go_enter Tryd.func33, Tryd.ntmps33
    go_wp2_with fail
    go_loopw [6] (fun k wr => OpRel w nb na nb (.slice A wa.length d) (.slice B wb.length d') F k wr) (fun k _ => nb - (intOf k).toNat)
    case atStart =>
      refine ⟨0, by omega, rfl, (((Row.new w _ _ _ rfl).grow ((Below.refl _ _).alloc (Nat.le_refl _) _)).grow ((Below.refl _ _).alloc (Nat.le_refl _) _)).grow ((Below.refl _ _).alloc (Nat.le_refl _) _), ((Row.at_ _ _ _ _ rfl _ (by simp)).grow ((Below.refl _ _).alloc (Nat.le_refl _) _)).grow ((Below.refl _ _).alloc (Nat.le_refl _) _), (Row.at_ _ _ _ _ rfl _ (by simp)).grow ((Below.refl _ _).alloc (Nat.le_refl _) _), Row.at_ _ _ _ _ ?_ _ (by simp), ((((Below.refl _ _).alloc (Nat.le_refl _) _).alloc (by simp) _).alloc (by simp; omega) _).alloc (by simp; omega) _⟩
      rw [HZ.out, HZ2.out]
    case round =>
      obtain ⟨j, hj, rfl, r1, r2, r3, r4, hb⟩ := hrel
      have hc0 := r1.cell 0
      have hc1 := r1.cell 1
      simp only [List.getElem?_cons_zero, List.getElem?_cons_succ] at hc0 hc1
      have R1 := hidden r1
      have R2 := hidden r2
      have R3 := hidden r3
      have R4 := hidden r4
      have HB := hidden hb
      clear r1 r2 r3 r4 hb hmk
      by_cases hlt : j < nb
      · have HC1 := hidden (rcontains_any _ na wa (j : Int) wr (HS.out.grow HB.out) (by omega) (by omega))
        have hFj : F j = (mem na wa j || mem nb wb j) := by rw [HEQ.out]
        go_wp2_with fail
        refine (Calls.mono HC1.out ?_)
        rintro e w2 ⟨rfl, g2⟩
        rw [memI_nat]
        have r2b := R2.out.grow g2
        have hd0 := r2b.cell 0
        have hd1 := r2b.cell 1
        simp only [List.getElem?_cons_zero, List.getElem?_cons_succ] at hd0 hd1
        have HR1 := hidden (R1.out.grow g2)
        have HR2 := hidden r2b
        have HR3 := hidden (R3.out.grow g2)
        have HR4 := hidden (R4.out.grow g2)
        have HG := hidden (HB.out.trans (g2.mono HB.out.size))
        clear g2 r2b
        by_cases hm : mem na wa j = true
        · rw [hm] at hFj ⊢
          have HV : Hid (F j = true) := by show F j = true; rw [hFj]; rfl
          have hcell := HR4.out.cell j
          rw [tcells_bits hlt] at hcell
          have hfr := HR4.out.frozen j
          have HSET := hidden (HR4.out.set_ j (.bool true))
          have HSL : Hid ((tcells (bitsOf (upto F j) nb)).set j (.bool true) = tcells (bitsOf (upto F (j + 1)) nb)) := by
            show _ = _
            rw [← HV.out, tcells_set, bits_set hlt]
          go_wp2
          go_roundw
          case rel =>
            refine ⟨j + 1, by omega, by go_num, HR1.out.set_other (by show w.heap.size + 3 ≠ _; omega) _, HR2.out.set_other (by show w.heap.size + 3 ≠ _; omega) _, HR3.out.set_other (by show w.heap.size + 3 ≠ _; omega) _, ?_, HG.out.setCell (by show w.heap.size ≤ w.heap.size + 3; omega) _⟩
            have h := HSET.out
            rw [HSL.out] at h
            exact h
          case measure => simp [intOf]; omega
        · have hm' : mem na wa j = false := by simpa using hm
          rw [hm'] at hFj ⊢
          clear hm hm'
          have HC2 := hidden (rcontains_any _ nb wb (j : Int) w2 (HT.out.grow HG.out) (by omega) (by omega))
          go_wp2_with fail
          refine (Calls.mono HC2.out ?_)
          rintro e w4 ⟨rfl, g4⟩
          rw [memI_nat]
          have hsz2 : w.heap.size ≤ w2.heap.size := HG.out.size
          have HR1' := hidden (HR1.out.grow g4)
          have HR2' := hidden (HR2.out.grow g4)
          have HR3' := hidden (HR3.out.grow g4)
          have HR4' := hidden (HR4.out.grow g4)
          have HG' := hidden (HG.out.trans (g4.mono hsz2))
          clear g4 HR1 HR2 HR3 HR4 HG hd0 hd1
          have HR1 := HR1'
          have HR2 := HR2'
          have HR3 := HR3'
          have HR4 := HR4'
          have HG := HG'
          clear HR1' HR2' HR3' HR4' HG'
          generalize mem nb wb j = y at *
          have HV : Hid (F j = (y)) := by show F j = (y); rw [hFj]; cases y <;> rfl
          have hcell := HR4.out.cell j
          rw [tcells_bits hlt] at hcell
          have hfr := HR4.out.frozen j
          have HSET := hidden (HR4.out.set_ j (.bool (y)))
          have HSL : Hid ((tcells (bitsOf (upto F j) nb)).set j (.bool (y)) = tcells (bitsOf (upto F (j + 1)) nb)) := by
            show _ = _
            rw [← HV.out, tcells_set, bits_set hlt]
          go_wp2
          go_roundw
          case rel =>
            refine ⟨j + 1, by omega, by go_num, HR1.out.set_other (by show w.heap.size + 3 ≠ _; omega) _, HR2.out.set_other (by show w.heap.size + 3 ≠ _; omega) _, HR3.out.set_other (by show w.heap.size + 3 ≠ _; omega) _, ?_, HG.out.setCell (by show w.heap.size ≤ w.heap.size + 3; omega) _⟩
            have h := HSET.out
            rw [HSL.out] at h
            exact h
          case measure => simp [intOf]; omega
      · have hke : j = nb := by omega
        have HA := hidden (bits_all (f := F) (Nat.le_of_eq hke.symm))
        have hrow := R4.out
        rw [HA.out] at hrow
        have HBU := hidden (rbuild_any _ nb F wr (Reads.of_row hrow nb nb (by rw [tcells_length, bitsOf_length]) (Nat.le_refl _)) (by omega))
        have hnj : nb ≤ j := by omega
        clear hrow hke
        go_wp2_with fail
        refine (Calls.mono HBU.out ?_)
        rintro e w3 ⟨g3, hg3, rfl, hr3, hb3⟩
        have hr0 := R3.out.grow hb3
        have HR0 := hidden hr0
        have HRW := hidden hr3
        have HG3 := hidden (HB.out.trans (hb3.mono HB.out.size))
        have hg4 : w.heap.size + 2 < g3 := Nat.lt_of_lt_of_le (by have := R4.out.lt; omega) hg3
        rw [pack_length]
        have HRS := hidden (hr0.setRow_ [.int .i64 (nb : Int), .slice (some ⟨g3, 0, none⟩) (nw nb) (nw nb)] rfl)
        clear hr0 hr3 hb3 hg3
        go_wp2_with (refine wpList_store_set rfl _ _ rfl (w.heap.size + 2) rfl _ _ _ _ _ rfl HR0.out ?_)
        refine bodyPost_ret (results_set rfl _ _ _ _ _ rfl HRS.out) rfl ⟨g3, by omega, by rw [pack_length], ?_, below_setRow HG3.out (by omega) _⟩
        have h := HRW.out
        unfold Row at h ⊢
        rw [setRow_other _ _ _ _ (by omega)]
        exact h
  · have hmax : max na nb = na := by omega
    rw [hmax]
    clear hmax
    have HF := hidden hF
    clear hF
    have hF := fun j => congrFun HF.out j
    have HEQ := hidden hF
    clear hF
    have hmk := fun W => run_make_one (P := Tryd.prog) 57 4 (.bool false) 1 Tryd.underlying57 info_bool rfl na (by omega) (by omega) W
    have HZ := hidden (made_tcells na)
    have HZ2 := hidden (bits_none na F)
    go_enter Tryd.func33, Tryd.ntmps33
    go_wp2_with fail
    go_loopw [6] (fun k wr => OpRel w na na nb (.slice A wa.length d) (.slice B wb.length d') F k wr) (fun k _ => na - (intOf k).toNat)
    case atStart =>
      refine ⟨0, by omega, rfl, (((Row.new w _ _ _ rfl).grow ((Below.refl _ _).alloc (Nat.le_refl _) _)).grow ((Below.refl _ _).alloc (Nat.le_refl _) _)).grow ((Below.refl _ _).alloc (Nat.le_refl _) _), ((Row.at_ _ _ _ _ rfl _ (by simp)).grow ((Below.refl _ _).alloc (Nat.le_refl _) _)).grow ((Below.refl _ _).alloc (Nat.le_refl _) _), (Row.at_ _ _ _ _ rfl _ (by simp)).grow ((Below.refl _ _).alloc (Nat.le_refl _) _), Row.at_ _ _ _ _ ?_ _ (by simp), ((((Below.refl _ _).alloc (Nat.le_refl _) _).alloc (by simp) _).alloc (by simp; omega) _).alloc (by simp; omega) _⟩
      rw [HZ.out, HZ2.out]
    case round =>
      obtain ⟨j, hj, rfl, r1, r2, r3, r4, hb⟩ := hrel
      have hc0 := r1.cell 0
      have hc1 := r1.cell 1
      simp only [List.getElem?_cons_zero, List.getElem?_cons_succ] at hc0 hc1
      have R1 := hidden r1
      have R2 := hidden r2
      have R3 := hidden r3
      have R4 := hidden r4
      have HB := hidden hb
      clear r1 r2 r3 r4 hb hmk
      by_cases hlt : j < na
      · have HC1 := hidden (rcontains_any _ na wa (j : Int) wr (HS.out.grow HB.out) (by omega) (by omega))
        have hFj : F j = (mem na wa j || mem nb wb j) := by rw [HEQ.out]
        go_wp2_with fail
        refine (Calls.mono HC1.out ?_)
        rintro e w2 ⟨rfl, g2⟩
        rw [memI_nat]
        have r2b := R2.out.grow g2
        have hd0 := r2b.cell 0
        have hd1 := r2b.cell 1
        simp only [List.getElem?_cons_zero, List.getElem?_cons_succ] at hd0 hd1
        have HR1 := hidden (R1.out.grow g2)
        have HR2 := hidden r2b
        have HR3 := hidden (R3.out.grow g2)
        have HR4 := hidden (R4.out.grow g2)
        have HG := hidden (HB.out.trans (g2.mono HB.out.size))
        clear g2 r2b
        by_cases hm : mem na wa j = true
        · rw [hm] at hFj ⊢
          have HV : Hid (F j = true) := by show F j = true; rw [hFj]; rfl
          have hcell := HR4.out.cell j
          rw [tcells_bits hlt] at hcell
          have hfr := HR4.out.frozen j
          have HSET := hidden (HR4.out.set_ j (.bool true))
          have HSL : Hid ((tcells (bitsOf (upto F j) na)).set j (.bool true) = tcells (bitsOf (upto F (j + 1)) na)) := by
            show _ = _
            rw [← HV.out, tcells_set, bits_set hlt]
          go_wp2
          go_roundw
          case rel =>
            refine ⟨j + 1, by omega, by go_num, HR1.out.set_other (by show w.heap.size + 3 ≠ _; omega) _, HR2.out.set_other (by show w.heap.size + 3 ≠ _; omega) _, HR3.out.set_other (by show w.heap.size + 3 ≠ _; omega) _, ?_, HG.out.setCell (by show w.heap.size ≤ w.heap.size + 3; omega) _⟩
            have h := HSET.out
            rw [HSL.out] at h
            exact h
          case measure => simp [intOf]; omega
        · have hm' : mem na wa j = false := by simpa using hm
          rw [hm'] at hFj ⊢
          clear hm hm'
          have HC2 := hidden (rcontains_any _ nb wb (j : Int) w2 (HT.out.grow HG.out) (by omega) (by omega))
          go_wp2_with fail
          refine (Calls.mono HC2.out ?_)
          rintro e w4 ⟨rfl, g4⟩
          rw [memI_nat]
          have hsz2 : w.heap.size ≤ w2.heap.size := HG.out.size
          have HR1' := hidden (HR1.out.grow g4)
          have HR2' := hidden (HR2.out.grow g4)
          have HR3' := hidden (HR3.out.grow g4)
          have HR4' := hidden (HR4.out.grow g4)
          have HG' := hidden (HG.out.trans (g4.mono hsz2))
          clear g4 HR1 HR2 HR3 HR4 HG hd0 hd1
          have HR1 := HR1'
          have HR2 := HR2'
          have HR3 := HR3'
          have HR4 := HR4'
          have HG := HG'
          clear HR1' HR2' HR3' HR4' HG'
          generalize mem nb wb j = y at *
          have HV : Hid (F j = (y)) := by show F j = (y); rw [hFj]; cases y <;> rfl
          have hcell := HR4.out.cell j
          rw [tcells_bits hlt] at hcell
          have hfr := HR4.out.frozen j
          have HSET := hidden (HR4.out.set_ j (.bool (y)))
          have HSL : Hid ((tcells (bitsOf (upto F j) na)).set j (.bool (y)) = tcells (bitsOf (upto F (j + 1)) na)) := by
            show _ = _
            rw [← HV.out, tcells_set, bits_set hlt]
          go_wp2
          go_roundw
          case rel =>
            refine ⟨j + 1, by omega, by go_num, HR1.out.set_other (by show w.heap.size + 3 ≠ _; omega) _, HR2.out.set_other (by show w.heap.size + 3 ≠ _; omega) _, HR3.out.set_other (by show w.heap.size + 3 ≠ _; omega) _, ?_, HG.out.setCell (by show w.heap.size ≤ w.heap.size + 3; omega) _⟩
            have h := HSET.out
            rw [HSL.out] at h
            exact h
          case measure => simp [intOf]; omega
      · have hke : j = na := by omega
        have HA := hidden (bits_all (f := F) (Nat.le_of_eq hke.symm))
        have hrow := R4.out
        rw [HA.out] at hrow
        have HBU := hidden (rbuild_any _ na F wr (Reads.of_row hrow na na (by rw [tcells_length, bitsOf_length]) (Nat.le_refl _)) (by omega))
        have hnj : na ≤ j := by omega
        clear hrow hke
        go_wp2_with fail
        refine (Calls.mono HBU.out ?_)
        rintro e w3 ⟨g3, hg3, rfl, hr3, hb3⟩
        have hr0 := R3.out.grow hb3
        have HR0 := hidden hr0
        have HRW := hidden hr3
        have HG3 := hidden (HB.out.trans (hb3.mono HB.out.size))
        have hg4 : w.heap.size + 2 < g3 := Nat.lt_of_lt_of_le (by have := R4.out.lt; omega) hg3
        rw [pack_length]
        have HRS := hidden (hr0.setRow_ [.int .i64 (na : Int), .slice (some ⟨g3, 0, none⟩) (nw na) (nw na)] rfl)
        clear hr0 hr3 hb3 hg3
        go_wp2_with (refine wpList_store_set rfl _ _ rfl (w.heap.size + 2) rfl _ _ _ _ _ rfl HR0.out ?_)
        refine bodyPost_ret (results_set rfl _ _ _ _ _ rfl HRS.out) rfl ⟨g3, by omega, by rw [pack_length], ?_, below_setRow HG3.out (by omega) _⟩
        have h := HRW.out
        unfold Row at h ⊢
        rw [setRow_other _ _ _ _ (by omega)]
        exact h

set_option maxHeartbeats 1000000 in
theorem randnot_any (s t : Value) (na nb : Nat) (wa wb : List UInt64) (w : World) (hs : IsSet w s na wa) (ht : IsSet w t nb wb) :
    Calls Tryd.prog 35 #[s, t] w (FreshSet (max na nb) (pack (max na nb) fun j => mem na wa j && !mem nb wb j) w) := by
  have HS := hidden hs
  have HT := hidden ht
  obtain ⟨v, rfl, hr, hn, hn2⟩ := hs
  obtain ⟨A, d, rfl, _⟩ := hr.slice_
  obtain ⟨u, rfl, hr', hn', hn2'⟩ := ht
  obtain ⟨B, d', rfl, _⟩ := hr'.slice_
  rw [ucells_length] at HS hr ⊢
  rw [ucells_length] at HT hr' ⊢
  obtain ⟨F, hF⟩ : ∃ F : Nat → Bool, F = fun j => mem na wa j && !mem nb wb j := ⟨_, rfl⟩
  rw [← hF]
  clear hr hr'
  by_cases hab : na < nb
  · have hmax : max na nb = nb := by omega
    rw [hmax]
    clear hmax
    have HF := hidden hF
    clear hF
    have hF := fun j => congrFun HF.out j
    have HEQ := hidden hF
    clear hF
    have hmk := fun W => run_make_one (P := Tryd.prog) 57 4 (.bool false) 1 Tryd.underlying57 info_bool rfl nb (by omega) (by omega) W
    have HZ := hidden (made_tcells nb)
    have HZ2 := hidden (bits_none nb F)
    go_enter Tryd.func35, Tryd.ntmps35
    go_wp2_with fail
    go_loopw [6] (fun k wr => OpRel w nb na nb (.slice A wa.length d) (.slice B wb.length d') F k wr) (fun k _ => nb - (intOf k).toNat)
    case atStart =>
      refine ⟨0, by omega, rfl, (((Row.new w _ _ _ rfl).grow ((Below.refl _ _).alloc (Nat.le_refl _) _)).grow ((Below.refl _ _).alloc (Nat.le_refl _) _)).grow ((Below.refl _ _).alloc (Nat.le_refl _) _), ((Row.at_ _ _ _ _ rfl _ (by simp)).grow ((Below.refl _ _).alloc (Nat.le_refl _) _)).grow ((Below.refl _ _).alloc (Nat.le_refl _) _), (Row.at_ _ _ _ _ rfl _ (by simp)).grow ((Below.refl _ _).alloc (Nat.le_refl _) _), Row.at_ _ _ _ _ ?_ _ (by simp), ((((Below.refl _ _).alloc (Nat.le_refl _) _).alloc (by simp) _).alloc (by simp; omega) _).alloc (by simp; omega) _⟩
      rw [HZ.out, HZ2.out]
    case round =>
      obtain ⟨j, hj, rfl, r1, r2, r3, r4, hb⟩ := hrel
      have hc0 := r1.cell 0
      have hc1 := r1.cell 1
      simp only [List.getElem?_cons_zero, List.getElem?_cons_succ] at hc0 hc1
      have R1 := hidden r1
      have R2 := hidden r2
      have R3 := hidden r3
      have R4 := hidden r4
      have HB := hidden hb
      clear r1 r2 r3 r4 hb hmk
      by_cases hlt : j < nb
      · have HC1 := hidden (rcontains_any _ na wa (j : Int) wr (HS.out.grow HB.out) (by omega) (by omega))
        have hFj : F j = (mem na wa j && !mem nb wb j) := by rw [HEQ.out]
        go_wp2_with fail
        refine (Calls.mono HC1.out ?_)
        rintro e w2 ⟨rfl, g2⟩
        rw [memI_nat]
        have r2b := R2.out.grow g2
        have hd0 := r2b.cell 0
        have hd1 := r2b.cell 1
        simp only [List.getElem?_cons_zero, List.getElem?_cons_succ] at hd0 hd1
        have HR1 := hidden (R1.out.grow g2)
        have HR2 := hidden r2b
        have HR3 := hidden (R3.out.grow g2)
        have HR4 := hidden (R4.out.grow g2)
        have HG := hidden (HB.out.trans (g2.mono HB.out.size))
        clear g2 r2b
        by_cases hm : mem na wa j = true
        · rw [hm] at hFj ⊢
          have HC2 := hidden (rcontains_any _ nb wb (j : Int) w2 (HT.out.grow HG.out) (by omega) (by omega))
          go_wp2_with fail
          refine (Calls.mono HC2.out ?_)
          rintro e w4 ⟨rfl, g4⟩
          rw [memI_nat]
          have hsz2 : w.heap.size ≤ w2.heap.size := HG.out.size
          have HR1' := hidden (HR1.out.grow g4)
          have HR2' := hidden (HR2.out.grow g4)
          have HR3' := hidden (HR3.out.grow g4)
          have HR4' := hidden (HR4.out.grow g4)
          have HG' := hidden (HG.out.trans (g4.mono hsz2))
          clear g4 HR1 HR2 HR3 HR4 HG hd0 hd1
          have HR1 := HR1'
          have HR2 := HR2'
          have HR3 := HR3'
          have HR4 := HR4'
          have HG := HG'
          clear HR1' HR2' HR3' HR4' HG'
          generalize mem nb wb j = y at *
          have HV : Hid (F j = (!y)) := by show F j = (!y); rw [hFj]; cases y <;> rfl
          have hcell := HR4.out.cell j
          rw [tcells_bits hlt] at hcell
          have hfr := HR4.out.frozen j
          have HSET := hidden (HR4.out.set_ j (.bool (!y)))
          have HSL : Hid ((tcells (bitsOf (upto F j) nb)).set j (.bool (!y)) = tcells (bitsOf (upto F (j + 1)) nb)) := by
            show _ = _
            rw [← HV.out, tcells_set, bits_set hlt]
          go_wp2
          go_roundw
          case rel =>
            refine ⟨j + 1, by omega, by go_num, HR1.out.set_other (by show w.heap.size + 3 ≠ _; omega) _, HR2.out.set_other (by show w.heap.size + 3 ≠ _; omega) _, HR3.out.set_other (by show w.heap.size + 3 ≠ _; omega) _, ?_, HG.out.setCell (by show w.heap.size ≤ w.heap.size + 3; omega) _⟩
            have h := HSET.out
            rw [HSL.out] at h
            exact h
          case measure => simp [intOf]; omega
        · have hm' : mem na wa j = false := by simpa using hm
          rw [hm'] at hFj ⊢
          clear hm hm'
          have HV : Hid (F j = false) := by show F j = false; rw [hFj]; rfl
          have hcell := HR4.out.cell j
          rw [tcells_bits hlt] at hcell
          have hfr := HR4.out.frozen j
          have HSET := hidden (HR4.out.set_ j (.bool false))
          have HSL : Hid ((tcells (bitsOf (upto F j) nb)).set j (.bool false) = tcells (bitsOf (upto F (j + 1)) nb)) := by
            show _ = _
            rw [← HV.out, tcells_set, bits_set hlt]
          go_wp2
          go_roundw
          case rel =>
            refine ⟨j + 1, by omega, by go_num, HR1.out.set_other (by show w.heap.size + 3 ≠ _; omega) _, HR2.out.set_other (by show w.heap.size + 3 ≠ _; omega) _, HR3.out.set_other (by show w.heap.size + 3 ≠ _; omega) _, ?_, HG.out.setCell (by show w.heap.size ≤ w.heap.size + 3; omega) _⟩
            have h := HSET.out
            rw [HSL.out] at h
            exact h
          case measure => simp [intOf]; omega
      · have hke : j = nb := by omega
        have HA := hidden (bits_all (f := F) (Nat.le_of_eq hke.symm))
        have hrow := R4.out
        rw [HA.out] at hrow
        have HBU := hidden (rbuild_any _ nb F wr (Reads.of_row hrow nb nb (by rw [tcells_length, bitsOf_length]) (Nat.le_refl _)) (by omega))
        have hnj : nb ≤ j := by omega
        clear hrow hke
        go_wp2_with fail
        refine (Calls.mono HBU.out ?_)
        rintro e w3 ⟨g3, hg3, rfl, hr3, hb3⟩
        have hr0 := R3.out.grow hb3
        have HR0 := hidden hr0
        have HRW := hidden hr3
        have HG3 := hidden (HB.out.trans (hb3.mono HB.out.size))
        have hg4 : w.heap.size + 2 < g3 := Nat.lt_of_lt_of_le (by have := R4.out.lt; omega) hg3
        rw [pack_length]
        have HRS := hidden (hr0.setRow_ [.int .i64 (nb : Int), .slice (some ⟨g3, 0, none⟩) (nw nb) (nw nb)] rfl)
        clear hr0 hr3 hb3 hg3
        go_wp2_with (refine wpList_store_set rfl _ _ rfl (w.heap.size + 2) rfl _ _ _ _ _ rfl HR0.out ?_)
        refine bodyPost_ret (results_set rfl _ _ _ _ _ rfl HRS.out) rfl ⟨g3, by omega, by rw [pack_length], ?_, below_setRow HG3.out (by omega) _⟩
        have h := HRW.out
        unfold Row at h ⊢
        rw [setRow_other _ _ _ _ (by omega)]
        exact h
  · have hmax : max na nb = na := by omega
    rw [hmax]
    clear hmax
    have HF := hidden hF
    clear hF
    have hF := fun j => congrFun HF.out j
    have HEQ := hidden hF
    clear hF
    have hmk := fun W => run_make_one (P := Tryd.prog) 57 4 (.bool false) 1 Tryd.underlying57 info_bool rfl na (by omega) (by omega) W
    have HZ := hidden (made_tcells na)
    have HZ2 := hidden (bits_none na F)
    go_enter Tryd.func35, Tryd.ntmps35
    go_wp2_with fail
    go_loopw [6] (fun k wr => OpRel w na na nb (.slice A wa.length d) (.slice B wb.length d') F k wr) (fun k _ => na - (intOf k).toNat)
    case atStart =>
      refine ⟨0, by omega, rfl, (((Row.new w _ _ _ rfl).grow ((Below.refl _ _).alloc (Nat.le_refl _) _)).grow ((Below.refl _ _).alloc (Nat.le_refl _) _)).grow ((Below.refl _ _).alloc (Nat.le_refl _) _), ((Row.at_ _ _ _ _ rfl _ (by simp)).grow ((Below.refl _ _).alloc (Nat.le_refl _) _)).grow ((Below.refl _ _).alloc (Nat.le_refl _) _), (Row.at_ _ _ _ _ rfl _ (by simp)).grow ((Below.refl _ _).alloc (Nat.le_refl _) _), Row.at_ _ _ _ _ ?_ _ (by simp), ((((Below.refl _ _).alloc (Nat.le_refl _) _).alloc (by simp) _).alloc (by simp; omega) _).alloc (by simp; omega) _⟩
      rw [HZ.out, HZ2.out]
    case round =>
      obtain ⟨j, hj, rfl, r1, r2, r3, r4, hb⟩ := hrel
      have hc0 := r1.cell 0
      have hc1 := r1.cell 1
      simp only [List.getElem?_cons_zero, List.getElem?_cons_succ] at hc0 hc1
      have R1 := hidden r1
      have R2 := hidden r2
      have R3 := hidden r3
      have R4 := hidden r4
      have HB := hidden hb
      clear r1 r2 r3 r4 hb hmk
      by_cases hlt : j < na
      · have HC1 := hidden (rcontains_any _ na wa (j : Int) wr (HS.out.grow HB.out) (by omega) (by omega))
        have hFj : F j = (mem na wa j && !mem nb wb j) := by rw [HEQ.out]
        go_wp2_with fail
        refine (Calls.mono HC1.out ?_)
        rintro e w2 ⟨rfl, g2⟩
        rw [memI_nat]
        have r2b := R2.out.grow g2
        have hd0 := r2b.cell 0
        have hd1 := r2b.cell 1
        simp only [List.getElem?_cons_zero, List.getElem?_cons_succ] at hd0 hd1
        have HR1 := hidden (R1.out.grow g2)
        have HR2 := hidden r2b
        have HR3 := hidden (R3.out.grow g2)
        have HR4 := hidden (R4.out.grow g2)
        have HG := hidden (HB.out.trans (g2.mono HB.out.size))
        clear g2 r2b
        by_cases hm : mem na wa j = true
        · rw [hm] at hFj ⊢
          have HC2 := hidden (rcontains_any _ nb wb (j : Int) w2 (HT.out.grow HG.out) (by omega) (by omega))
          go_wp2_with fail
          refine (Calls.mono HC2.out ?_)
          rintro e w4 ⟨rfl, g4⟩
          rw [memI_nat]
          have hsz2 : w.heap.size ≤ w2.heap.size := HG.out.size
          have HR1' := hidden (HR1.out.grow g4)
          have HR2' := hidden (HR2.out.grow g4)
          have HR3' := hidden (HR3.out.grow g4)
          have HR4' := hidden (HR4.out.grow g4)
          have HG' := hidden (HG.out.trans (g4.mono hsz2))
          clear g4 HR1 HR2 HR3 HR4 HG hd0 hd1
          have HR1 := HR1'
          have HR2 := HR2'
          have HR3 := HR3'
          have HR4 := HR4'
          have HG := HG'
          clear HR1' HR2' HR3' HR4' HG'
          generalize mem nb wb j = y at *
          have HV : Hid (F j = (!y)) := by show F j = (!y); rw [hFj]; cases y <;> rfl
          have hcell := HR4.out.cell j
          rw [tcells_bits hlt] at hcell
          have hfr := HR4.out.frozen j
          have HSET := hidden (HR4.out.set_ j (.bool (!y)))
          have HSL : Hid ((tcells (bitsOf (upto F j) na)).set j (.bool (!y)) = tcells (bitsOf (upto F (j + 1)) na)) := by
            show _ = _
            rw [← HV.out, tcells_set, bits_set hlt]
          go_wp2
          go_roundw
          case rel =>
            refine ⟨j + 1, by omega, by go_num, HR1.out.set_other (by show w.heap.size + 3 ≠ _; omega) _, HR2.out.set_other (by show w.heap.size + 3 ≠ _; omega) _, HR3.out.set_other (by show w.heap.size + 3 ≠ _; omega) _, ?_, HG.out.setCell (by show w.heap.size ≤ w.heap.size + 3; omega) _⟩
            have h := HSET.out
            rw [HSL.out] at h
            exact h
          case measure => simp [intOf]; omega
        · have hm' : mem na wa j = false := by simpa using hm
          rw [hm'] at hFj ⊢
          clear hm hm'
          have HV : Hid (F j = false) := by show F j = false; rw [hFj]; rfl
          have hcell := HR4.out.cell j
          rw [tcells_bits hlt] at hcell
          have hfr := HR4.out.frozen j
          have HSET := hidden (HR4.out.set_ j (.bool false))
          have HSL : Hid ((tcells (bitsOf (upto F j) na)).set j (.bool false) = tcells (bitsOf (upto F (j + 1)) na)) := by
            show _ = _
            rw [← HV.out, tcells_set, bits_set hlt]
          go_wp2
          go_roundw
          case rel =>
            refine ⟨j + 1, by omega, by go_num, HR1.out.set_other (by show w.heap.size + 3 ≠ _; omega) _, HR2.out.set_other (by show w.heap.size + 3 ≠ _; omega) _, HR3.out.set_other (by show w.heap.size + 3 ≠ _; omega) _, ?_, HG.out.setCell (by show w.heap.size ≤ w.heap.size + 3; omega) _⟩
            have h := HSET.out
            rw [HSL.out] at h
            exact h
          case measure => simp [intOf]; omega
      · have hke : j = na := by omega
        have HA := hidden (bits_all (f := F) (Nat.le_of_eq hke.symm))
        have hrow := R4.out
        rw [HA.out] at hrow
        have HBU := hidden (rbuild_any _ na F wr (Reads.of_row hrow na na (by rw [tcells_length, bitsOf_length]) (Nat.le_refl _)) (by omega))
        have hnj : na ≤ j := by omega
        clear hrow hke
        go_wp2_with fail
        refine (Calls.mono HBU.out ?_)
        rintro e w3 ⟨g3, hg3, rfl, hr3, hb3⟩
        have hr0 := R3.out.grow hb3
        have HR0 := hidden hr0
        have HRW := hidden hr3
        have HG3 := hidden (HB.out.trans (hb3.mono HB.out.size))
        have hg4 : w.heap.size + 2 < g3 := Nat.lt_of_lt_of_le (by have := R4.out.lt; omega) hg3
        rw [pack_length]
        have HRS := hidden (hr0.setRow_ [.int .i64 (na : Int), .slice (some ⟨g3, 0, none⟩) (nw na) (nw na)] rfl)
        clear hr0 hr3 hb3 hg3
        go_wp2_with (refine wpList_store_set rfl _ _ rfl (w.heap.size + 2) rfl _ _ _ _ _ rfl HR0.out ?_)
        refine bodyPost_ret (results_set rfl _ _ _ _ _ rfl HRS.out) rfl ⟨g3, by omega, by rw [pack_length], ?_, below_setRow HG3.out (by omega) _⟩
        have h := HRW.out
        unfold Row at h ⊢
        rw [setRow_other _ _ _ _ (by omega)]
        exact h

end Go.Proofs.YtaegolkoinjmoaaDoor
