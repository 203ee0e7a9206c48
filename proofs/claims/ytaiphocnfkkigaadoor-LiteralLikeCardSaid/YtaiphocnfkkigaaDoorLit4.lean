/-
  The reference of package literal: ParseInt. Nothing that was there is changed.
-/
import Derived.Test.YtaiphocnfkkigaaDoorLit1
namespace Go.Proofs.YtaiphocnfkkigaaDoor
open Go.RowKit
set_option linter.unusedVariables false
set_option linter.unusedSimpArgs false

def two (p : Int × Int) : Ending := .returned (.tuple #[.int .i64 p.1, .int .i64 p.2])
def PI1 (w : World) (D : List UInt8) (i : Value) (wr : World) : Prop := ∃ j : Nat, j ≤ D.length ∧ i = .int .i64 (j : Int) ∧ (D.take j).all isDig = true ∧ w = wr
def PI2 (w : World) (D : List UInt8) (n i d : Value) (wr : World) : Prop := ∃ j v : Nat, j ≤ D.length ∧ i = .int .i64 (j : Int) ∧ n = .int .i64 (-(v : Int)) ∧ v = decV (D.take j) ∧ v ≤ 9223372036854775808 ∧ w = wr
theorem dig_val {b : UInt8} (h : isDig b = true) : ∃ d : Nat, d ≤ 9 ∧ b.toNat = d + 48 := by
  unfold isDig at h
  simp at h
  exact ⟨b.toNat - 48, by omega, by omega⟩
theorem prsD_dig {neg : Bool} {l ds : List UInt8} (h1 : ¬ (ds = [] ∨ (ds.head? = some 48 ∧ l ≠ [48]))) (h2 : ds.all isDig = false) : prsD neg l ds = (0, 4) := by unfold prsD; rw [if_neg h1, if_pos h2]
theorem prsD_okN {l ds : List UInt8} (h1 : ¬ (ds = [] ∨ (ds.head? = some 48 ∧ l ≠ [48]))) (h2 : ds.all isDig = true) : prsD true l ds = if decV ds ≤ 9223372036854775808 then (-(decV ds : Int), 0) else (0, 6) := by
  unfold prsD
  rw [if_neg h1, if_neg (by rw [h2]; decide)]
  rfl
theorem prsD_okP {l ds : List UInt8} (h1 : ¬ (ds = [] ∨ (ds.head? = some 48 ∧ l ≠ [48]))) (h2 : ds.all isDig = true) : prsD false l ds = if decV ds < 9223372036854775808 then ((decV ds : Int), 0) else (0, 6) := by
  unfold prsD
  rw [if_neg h1, if_neg (by rw [h2]; decide)]
  rfl
set_option maxRecDepth 4000 in
set_option maxHeartbeats 4000000 in
theorem rparse_neg (c0 : UInt8) (r0 : List UInt8) (w : World) (hl : r0.length ≤ 4611686018427387900) : Calls Tryd.prog 14 #[.string (strOf (45 :: c0 :: r0))] w fun e w' => e = two (prsD true (45 :: c0 :: r0) (c0 :: r0)) ∧ w = w' := by
  obtain ⟨D, hD⟩ : ∃ D, D = c0 :: r0 := ⟨_, rfl⟩
  have hgd : ∀ h : 0 < (strOf D).size, (strOf D)[0]'h = c0 := strOf_get (l := D) (j := 0) (b := c0) (by rw [hD]; rfl)
  have hdl : D.length ≤ 4611686018427387901 := by rw [hD, List.length_cons]; omega
  have hdp : 0 < D.length := by rw [hD, List.length_cons]; omega
  have hde : (strOf D).toList.isEmpty = false := by rw [strOf_toList, hD]; rfl
  have hg0 : ∀ h : 0 < (strOf (45 :: D)).size, (strOf (45 :: D))[0]'h = 45 := strOf_get (l := 45 :: D) (j := 0) (b := 45) rfl
  have hle : (strOf (45 :: D)).toList.isEmpty = false := by rw [strOf_toList]; rfl
  have hls : (strOf (45 :: D)).size = D.length + 1 := rfl
  have hl48 : ((strOf (45 :: D)).toList == [48]) = false := by rw [strOf_toList]; rfl
  have hds : (strOf D).size = D.length := rfl
  rw [← hD]
  have hemp : D ≠ [] := by rw [hD]; simp
  have hhead : D.head? = some c0 := by rw [hD]; rfl
  clear hD
  by_cases hbad : c0 = 48 ∧ (45 :: D) ≠ [48]
  · obtain ⟨h48, hne⟩ := hbad
    subst h48
    have HE := hidden (show prsD true (45 :: D) D = (0, 4) by unfold prsD; rw [if_pos (.inr ⟨hhead, hne⟩)])
    clear hne hemp hhead
    go_enter Tryd.func14, Tryd.ntmps14
    go_wp2_with (refine wpList_from_l rfl _ _ 9 rfl Tryd.underlying9 (45 :: D) 1 rfl rfl (by simp) D rfl ?_)
    go_ret2
    exact ⟨by rw [HE.out]; rfl, rfl⟩
  · have HBAD : Hid (¬ (D = [] ∨ (D.head? = some 48 ∧ (45 :: D) ≠ [48]))) := fun h => h.elim hemp (fun h => hbad ⟨by have e := hhead.symm.trans h.1; injection e, h.2⟩)
    by_cases h48 : c0 = 48
    · exact absurd ⟨h48, by simp⟩ hbad
    · have h48z : ((c0.toNat : Int) == 48) = false := by
        have : c0.toNat ≠ 48 := fun he => h48 (UInt8.toNat_inj.1 (by rw [he]; rfl))
        simp
        omega
      clear hbad hemp hhead h48
      go_enter Tryd.func14, Tryd.ntmps14
      go_wp2_with (refine wpList_from_l rfl _ _ 9 rfl Tryd.underlying9 (45 :: D) 1 rfl rfl (by simp) D rfl ?_)
      clear hgd hde hl48 h48z
      go_loopw [5] (fun i wr => PI1 w D i wr) (fun i _ => D.length - (intOf i).toNat)
      case atStart => exact ⟨0, Nat.zero_le _, rfl, rfl, rfl⟩
      case round =>
        obtain ⟨j, hj, rfl, hall, rfl⟩ := hrel
        have HALL := hidden hall
        clear hall
        by_cases hlt : j < D.length
        · obtain ⟨b, hb⟩ : ∃ b, D[j]? = some b := ⟨_, List.getElem?_eq_getElem hlt⟩
          have hg := strOf_get (l := D) (j := j) (b := b) hb
          have HTK := hidden (show (D.take (j + 1)).all isDig = ((D.take j).all isDig && isDig b) by rw [List.take_add_one, hb]; simp)
          have HNO := hidden (show isDig b = false → D.all isDig = false from fun h => by
            rw [List.all_eq_false]
            exact ⟨b, List.mem_of_getElem? hb, by simp [h]⟩)
          have HDB := hidden (fun w => rdigit_any (b.toNat : Int) b rfl w)
          have hji : (j : Int) < (D.length : Int) := by omega
          have hd : decide (j < D.length) = true := by simpa using hlt
          clear hb
          cases hdb : isDig b
          · have HE := hidden (prsD_dig (neg := true) HBAD.out (HNO.out hdb))
            rw [hdb] at HDB
            clear hdb
            go_wp2_with fail
            refine (HDB.out _).mono ?_
            rintro e w3 ⟨rfl, rfl⟩
            go_wp2_with fail
            go_ret2
            exact ⟨by rw [HE.out]; rfl, rfl⟩
          · rw [hdb] at HDB HTK
            clear hdb
            go_wp2_with fail
            refine (HDB.out _).mono ?_
            rintro e w3 ⟨rfl, rfl⟩
            go_wp2_with fail
            go_roundw
            case rel => exact ⟨j + 1, by omega, by go_num, by rw [HTK.out, HALL.out]; rfl, rfl⟩
            case measure => simp [intOf]; omega
        · have HAD := hidden (show D.all isDig = true by have h := HALL.out; rwa [List.take_of_length_le (by omega)] at h)
          have hd : decide (j < D.length) = false := by simpa using hlt
          have HOK := hidden (prsD_okN HBAD.out HAD.out)
          go_wp2_with fail
          clear hd hlt hj HALL
          go_loopw [6, 7, 8] (fun n i d wr => PI2 w D n i d wr) (fun _ i _ _ => D.length - (intOf i).toNat)
          case atStart => exact ⟨0, 0, Nat.zero_le _, rfl, rfl, rfl, by omega, rfl⟩
          case round =>
            obtain ⟨j2, v, hj2, rfl, rfl, hv, hvm, rfl⟩ := hrel
            have HV := hidden hv
            clear hv
            by_cases hlt : j2 < D.length
            · obtain ⟨b, hb⟩ : ∃ b, D[j2]? = some b := ⟨_, List.getElem?_eq_getElem hlt⟩
              have HBT := hidden hb
              obtain ⟨dd, hdd9, hbd⟩ := dig_val (b := b) (List.all_eq_true.1 HAD.out b (List.mem_of_getElem? hb))
              have HTK := hidden (show decV (D.take (j2 + 1)) = v * 10 + dd by rw [List.take_add_one, hb, HV.out]; show decV (_ ++ [b]) = _; rw [decV_snoc, hbd]; omega)
              have HBZ := hidden (show (dd : Int) + 48 = (b.toNat : Int) by omega)
              have hji : (j2 : Int) < (D.length : Int) := by omega
              have hd : decide (j2 < D.length) = true := by simpa using hlt
              have hrc := range_check v dd hdd9
              have hv0 : -9223372036854775808 ≤ -(v : Int) := by omega
              have hdd0 : (dd : Int) ≤ 9 := by omega
              clear hb hbd
              by_cases hov : 9223372036854775808 < v * 10 + dd
              · have hlss : decide (-(v : Int) < (-9223372036854775808 + (dd : Int)).tdiv 10) = true := by simpa using hrc.2 hov
                have HE := hidden (show prsD true (45 :: D) D = (0, 6) by
                  have h := decV_take (l := D) (j2 + 1)
                  rw [HTK.out] at h
                  rw [HOK.out]
                  rw [if_neg (by omega)])
                clear hrc hov
                go_wp2_with (refine wpList_index_l rfl _ _ 9 rfl Tryd.underlying9 D j2 b rfl rfl HBT.out ((dd : Int) + 48) HBZ.out ?_)
                go_ret2
                exact ⟨by rw [HE.out]; rfl, rfl⟩
              · have hlss : decide (-(v : Int) < (-9223372036854775808 + (dd : Int)).tdiv 10) = false := by rw [decide_eq_false_iff_not]; exact fun h => hov (hrc.1 h)
                have hsum : ((v * 10 + dd : Nat) : Int) ≤ 9223372036854775808 := by omega
                clear hrc
                have HSUM := hidden (show (10 * (-(v : Int)) - (dd : Int)) = -((v * 10 + dd : Nat) : Int) by omega)
                go_wp2_with (refine wpList_index_l rfl _ _ 9 rfl Tryd.underlying9 D j2 b rfl rfl HBT.out ((dd : Int) + 48) HBZ.out ?_)
                go_roundw
                case rel => exact ⟨j2 + 1, v * 10 + dd, by omega, by go_num, by rw [HSUM.out], HTK.out.symm, by omega, rfl⟩
                case measure => simp [intOf]; omega
            · have hd : decide (j2 < D.length) = false := by simpa using hlt
              have HVV := hidden (show v = decV D by have h := HV.out; rwa [List.take_of_length_le (by omega)] at h)
              clear hlt hj2
              have HE := hidden (show prsD true (45 :: D) D = (-(v : Int), 0) by rw [HOK.out, ← HVV.out, if_pos hvm])
              go_wp2_with fail
              go_ret2
              exact ⟨by rw [HE.out]; rfl, rfl⟩
set_option maxRecDepth 4000 in
set_option maxHeartbeats 4000000 in
theorem rparse_pos (c0 : UInt8) (r0 : List UInt8) (w : World) (hl : r0.length ≤ 4611686018427387900) (h45 : c0 ≠ 45) : Calls Tryd.prog 14 #[.string (strOf (c0 :: r0))] w fun e w' => e = two (prsD false (c0 :: r0) (c0 :: r0)) ∧ w = w' := by
  obtain ⟨D, hD⟩ : ∃ D, D = c0 :: r0 := ⟨_, rfl⟩
  have hgd : ∀ h : 0 < (strOf D).size, (strOf D)[0]'h = c0 := strOf_get (l := D) (j := 0) (b := c0) (by rw [hD]; rfl)
  have hdl : D.length ≤ 4611686018427387901 := by rw [hD, List.length_cons]; omega
  have hdp : 0 < D.length := by rw [hD, List.length_cons]; omega
  have hde : (strOf D).toList.isEmpty = false := by rw [strOf_toList, hD]; rfl
  have h45z : ((c0.toNat : Int) == 45) = false := by
    have : c0.toNat ≠ 45 := fun he => h45 (UInt8.toNat_inj.1 (by rw [he]; rfl))
    simp
    omega
  have hds : (strOf D).size = D.length := rfl
  rw [← hD]
  have hemp : D ≠ [] := by rw [hD]; simp
  have hhead : D.head? = some c0 := by rw [hD]; rfl
  have hl48 : ((strOf D).toList == [48]) = (D == [48]) := by rw [strOf_toList]
  clear hD
  by_cases hbad : c0 = 48 ∧ D ≠ [48]
  · obtain ⟨h48, hne⟩ := hbad
    subst h48
    have HE := hidden (show prsD false D D = (0, 4) by unfold prsD; rw [if_pos (.inr ⟨hhead, hne⟩)])
    rw [show (D == [48]) = false by simpa using hne] at hl48
    clear hne hemp hhead
    go_enter Tryd.func14, Tryd.ntmps14
    go_wp2_with fail
    go_ret2
    exact ⟨by rw [HE.out]; rfl, rfl⟩
  · have HBAD : Hid (¬ (D = [] ∨ (D.head? = some 48 ∧ D ≠ [48]))) := fun h => h.elim hemp (fun h => hbad ⟨by have e := hhead.symm.trans h.1; injection e, h.2⟩)
    by_cases h48 : c0 = 48
    · have hD48 : D = [48] := Classical.byContradiction fun h => hbad ⟨h48, h⟩
      rw [show (D == [48]) = true by rw [hD48]; rfl] at hl48
      subst h48
      clear hbad hemp hhead hD48
      go_enter Tryd.func14, Tryd.ntmps14
      go_wp2_with fail
      clear hde hl48
      go_loopw [5] (fun i wr => PI1 w D i wr) (fun i _ => D.length - (intOf i).toNat)
      case atStart => exact ⟨0, Nat.zero_le _, rfl, rfl, rfl⟩
      case round =>
        obtain ⟨j, hj, rfl, hall, rfl⟩ := hrel
        have HALL := hidden hall
        clear hall
        by_cases hlt : j < D.length
        · obtain ⟨b, hb⟩ : ∃ b, D[j]? = some b := ⟨_, List.getElem?_eq_getElem hlt⟩
          have hg := strOf_get (l := D) (j := j) (b := b) hb
          have HTK := hidden (show (D.take (j + 1)).all isDig = ((D.take j).all isDig && isDig b) by rw [List.take_add_one, hb]; simp)
          have HNO := hidden (show isDig b = false → D.all isDig = false from fun h => by
            rw [List.all_eq_false]
            exact ⟨b, List.mem_of_getElem? hb, by simp [h]⟩)
          have HDB := hidden (fun w => rdigit_any (b.toNat : Int) b rfl w)
          have hji : (j : Int) < (D.length : Int) := by omega
          have hd : decide (j < D.length) = true := by simpa using hlt
          clear hb
          cases hdb : isDig b
          · have HE := hidden (prsD_dig (neg := false) HBAD.out (HNO.out hdb))
            rw [hdb] at HDB
            clear hdb
            go_wp2_with fail
            refine (HDB.out _).mono ?_
            rintro e w3 ⟨rfl, rfl⟩
            go_wp2_with fail
            go_ret2
            exact ⟨by rw [HE.out]; rfl, rfl⟩
          · rw [hdb] at HDB HTK
            clear hdb
            go_wp2_with fail
            refine (HDB.out _).mono ?_
            rintro e w3 ⟨rfl, rfl⟩
            go_wp2_with fail
            go_roundw
            case rel => exact ⟨j + 1, by omega, by go_num, by rw [HTK.out, HALL.out]; rfl, rfl⟩
            case measure => simp [intOf]; omega
        · have HAD := hidden (show D.all isDig = true by have h := HALL.out; rwa [List.take_of_length_le (by omega)] at h)
          have hd : decide (j < D.length) = false := by simpa using hlt
          have HOK := hidden (prsD_okP HBAD.out HAD.out)
          go_wp2_with fail
          clear hd hlt hj HALL
          go_loopw [6, 7, 8] (fun n i d wr => PI2 w D n i d wr) (fun _ i _ _ => D.length - (intOf i).toNat)
          case atStart => exact ⟨0, 0, Nat.zero_le _, rfl, rfl, rfl, by omega, rfl⟩
          case round =>
            obtain ⟨j2, v, hj2, rfl, rfl, hv, hvm, rfl⟩ := hrel
            have HV := hidden hv
            clear hv
            by_cases hlt : j2 < D.length
            · obtain ⟨b, hb⟩ : ∃ b, D[j2]? = some b := ⟨_, List.getElem?_eq_getElem hlt⟩
              have HBT := hidden hb
              obtain ⟨dd, hdd9, hbd⟩ := dig_val (b := b) (List.all_eq_true.1 HAD.out b (List.mem_of_getElem? hb))
              have HTK := hidden (show decV (D.take (j2 + 1)) = v * 10 + dd by rw [List.take_add_one, hb, HV.out]; show decV (_ ++ [b]) = _; rw [decV_snoc, hbd]; omega)
              have HBZ := hidden (show (dd : Int) + 48 = (b.toNat : Int) by omega)
              have hji : (j2 : Int) < (D.length : Int) := by omega
              have hd : decide (j2 < D.length) = true := by simpa using hlt
              have hrc := range_check v dd hdd9
              have hv0 : -9223372036854775808 ≤ -(v : Int) := by omega
              have hdd0 : (dd : Int) ≤ 9 := by omega
              clear hb hbd
              by_cases hov : 9223372036854775808 < v * 10 + dd
              · have hlss : decide (-(v : Int) < (-9223372036854775808 + (dd : Int)).tdiv 10) = true := by simpa using hrc.2 hov
                have HE := hidden (show prsD false D D = (0, 6) by
                  have h := decV_take (l := D) (j2 + 1)
                  rw [HTK.out] at h
                  rw [HOK.out]
                  rw [if_neg (by omega)])
                clear hrc hov
                go_wp2_with (refine wpList_index_l rfl _ _ 9 rfl Tryd.underlying9 D j2 b rfl rfl HBT.out ((dd : Int) + 48) HBZ.out ?_)
                go_ret2
                exact ⟨by rw [HE.out]; rfl, rfl⟩
              · have hlss : decide (-(v : Int) < (-9223372036854775808 + (dd : Int)).tdiv 10) = false := by rw [decide_eq_false_iff_not]; exact fun h => hov (hrc.1 h)
                have hsum : ((v * 10 + dd : Nat) : Int) ≤ 9223372036854775808 := by omega
                clear hrc
                have HSUM := hidden (show (10 * (-(v : Int)) - (dd : Int)) = -((v * 10 + dd : Nat) : Int) by omega)
                go_wp2_with (refine wpList_index_l rfl _ _ 9 rfl Tryd.underlying9 D j2 b rfl rfl HBT.out ((dd : Int) + 48) HBZ.out ?_)
                go_roundw
                case rel => exact ⟨j2 + 1, v * 10 + dd, by omega, by go_num, by rw [HSUM.out], HTK.out.symm, by omega, rfl⟩
                case measure => simp [intOf]; omega
            · have hd : decide (j2 < D.length) = false := by simpa using hlt
              have HVV := hidden (show v = decV D by have h := HV.out; rwa [List.take_of_length_le (by omega)] at h)
              clear hlt hj2
              by_cases hv63 : v = 9223372036854775808
              · subst hv63
                have HE := hidden (show prsD false D D = (0, 6) by rw [HOK.out, ← HVV.out, if_neg (by omega)])
                rw [show (-((9223372036854775808 : Nat) : Int)) = -9223372036854775808 from rfl]
                go_wp2_with fail
                go_ret2
                exact ⟨by rw [HE.out]; rfl, rfl⟩
              · have HE := hidden (show prsD false D D = ((v : Int), 0) by rw [HOK.out, ← HVV.out, if_pos (by omega)])
                have hvn : -9223372036854775808 < -(v : Int) := by omega
                have hvb : (-(v : Int) == -9223372036854775808) = false := by simp; omega
                go_wp2_with fail
                go_ret2
                exact ⟨by rw [HE.out]; first | rfl | (simp [two]), rfl⟩
    · have h48z : ((c0.toNat : Int) == 48) = false := by
        have : c0.toNat ≠ 48 := fun he => h48 (UInt8.toNat_inj.1 (by rw [he]; rfl))
        simp
        omega
      clear hbad hemp hhead h48
      go_enter Tryd.func14, Tryd.ntmps14
      go_wp2_with fail
      clear hde hl48 h48z
      go_loopw [5] (fun i wr => PI1 w D i wr) (fun i _ => D.length - (intOf i).toNat)
      case atStart => exact ⟨0, Nat.zero_le _, rfl, rfl, rfl⟩
      case round =>
        obtain ⟨j, hj, rfl, hall, rfl⟩ := hrel
        have HALL := hidden hall
        clear hall
        by_cases hlt : j < D.length
        · obtain ⟨b, hb⟩ : ∃ b, D[j]? = some b := ⟨_, List.getElem?_eq_getElem hlt⟩
          have hg := strOf_get (l := D) (j := j) (b := b) hb
          have HTK := hidden (show (D.take (j + 1)).all isDig = ((D.take j).all isDig && isDig b) by rw [List.take_add_one, hb]; simp)
          have HNO := hidden (show isDig b = false → D.all isDig = false from fun h => by
            rw [List.all_eq_false]
            exact ⟨b, List.mem_of_getElem? hb, by simp [h]⟩)
          have HDB := hidden (fun w => rdigit_any (b.toNat : Int) b rfl w)
          have hji : (j : Int) < (D.length : Int) := by omega
          have hd : decide (j < D.length) = true := by simpa using hlt
          clear hb
          cases hdb : isDig b
          · have HE := hidden (prsD_dig (neg := false) HBAD.out (HNO.out hdb))
            rw [hdb] at HDB
            clear hdb
            go_wp2_with fail
            refine (HDB.out _).mono ?_
            rintro e w3 ⟨rfl, rfl⟩
            go_wp2_with fail
            go_ret2
            exact ⟨by rw [HE.out]; rfl, rfl⟩
          · rw [hdb] at HDB HTK
            clear hdb
            go_wp2_with fail
            refine (HDB.out _).mono ?_
            rintro e w3 ⟨rfl, rfl⟩
            go_wp2_with fail
            go_roundw
            case rel => exact ⟨j + 1, by omega, by go_num, by rw [HTK.out, HALL.out]; rfl, rfl⟩
            case measure => simp [intOf]; omega
        · have HAD := hidden (show D.all isDig = true by have h := HALL.out; rwa [List.take_of_length_le (by omega)] at h)
          have hd : decide (j < D.length) = false := by simpa using hlt
          have HOK := hidden (prsD_okP HBAD.out HAD.out)
          go_wp2_with fail
          clear hd hlt hj HALL
          go_loopw [6, 7, 8] (fun n i d wr => PI2 w D n i d wr) (fun _ i _ _ => D.length - (intOf i).toNat)
          case atStart => exact ⟨0, 0, Nat.zero_le _, rfl, rfl, rfl, by omega, rfl⟩
          case round =>
            obtain ⟨j2, v, hj2, rfl, rfl, hv, hvm, rfl⟩ := hrel
            have HV := hidden hv
            clear hv
            by_cases hlt : j2 < D.length
            · obtain ⟨b, hb⟩ : ∃ b, D[j2]? = some b := ⟨_, List.getElem?_eq_getElem hlt⟩
              have HBT := hidden hb
              obtain ⟨dd, hdd9, hbd⟩ := dig_val (b := b) (List.all_eq_true.1 HAD.out b (List.mem_of_getElem? hb))
              have HTK := hidden (show decV (D.take (j2 + 1)) = v * 10 + dd by rw [List.take_add_one, hb, HV.out]; show decV (_ ++ [b]) = _; rw [decV_snoc, hbd]; omega)
              have HBZ := hidden (show (dd : Int) + 48 = (b.toNat : Int) by omega)
              have hji : (j2 : Int) < (D.length : Int) := by omega
              have hd : decide (j2 < D.length) = true := by simpa using hlt
              have hrc := range_check v dd hdd9
              have hv0 : -9223372036854775808 ≤ -(v : Int) := by omega
              have hdd0 : (dd : Int) ≤ 9 := by omega
              clear hb hbd
              by_cases hov : 9223372036854775808 < v * 10 + dd
              · have hlss : decide (-(v : Int) < (-9223372036854775808 + (dd : Int)).tdiv 10) = true := by simpa using hrc.2 hov
                have HE := hidden (show prsD false D D = (0, 6) by
                  have h := decV_take (l := D) (j2 + 1)
                  rw [HTK.out] at h
                  rw [HOK.out]
                  rw [if_neg (by omega)])
                clear hrc hov
                go_wp2_with (refine wpList_index_l rfl _ _ 9 rfl Tryd.underlying9 D j2 b rfl rfl HBT.out ((dd : Int) + 48) HBZ.out ?_)
                go_ret2
                exact ⟨by rw [HE.out]; rfl, rfl⟩
              · have hlss : decide (-(v : Int) < (-9223372036854775808 + (dd : Int)).tdiv 10) = false := by rw [decide_eq_false_iff_not]; exact fun h => hov (hrc.1 h)
                have hsum : ((v * 10 + dd : Nat) : Int) ≤ 9223372036854775808 := by omega
                clear hrc
                have HSUM := hidden (show (10 * (-(v : Int)) - (dd : Int)) = -((v * 10 + dd : Nat) : Int) by omega)
                go_wp2_with (refine wpList_index_l rfl _ _ 9 rfl Tryd.underlying9 D j2 b rfl rfl HBT.out ((dd : Int) + 48) HBZ.out ?_)
                go_roundw
                case rel => exact ⟨j2 + 1, v * 10 + dd, by omega, by go_num, by rw [HSUM.out], HTK.out.symm, by omega, rfl⟩
                case measure => simp [intOf]; omega
            · have hd : decide (j2 < D.length) = false := by simpa using hlt
              have HVV := hidden (show v = decV D by have h := HV.out; rwa [List.take_of_length_le (by omega)] at h)
              clear hlt hj2
              by_cases hv63 : v = 9223372036854775808
              · subst hv63
                have HE := hidden (show prsD false D D = (0, 6) by rw [HOK.out, ← HVV.out, if_neg (by omega)])
                rw [show (-((9223372036854775808 : Nat) : Int)) = -9223372036854775808 from rfl]
                go_wp2_with fail
                go_ret2
                exact ⟨by rw [HE.out]; rfl, rfl⟩
              · have HE := hidden (show prsD false D D = ((v : Int), 0) by rw [HOK.out, ← HVV.out, if_pos (by omega)])
                have hvn : -9223372036854775808 < -(v : Int) := by omega
                have hvb : (-(v : Int) == -9223372036854775808) = false := by simp; omega
                go_wp2_with fail
                go_ret2
                exact ⟨by rw [HE.out]; first | rfl | (simp [two]), rfl⟩
theorem rparse_any (l : List UInt8) (w : World) (hl : l.length ≤ 4611686018427387900) : Calls Tryd.prog 14 #[.string (strOf l)] w fun e w' => e = two (prsI l) ∧ w = w' := by
  match l, hl with
  | [], _ =>
    have hle : (strOf []).toList.isEmpty = true := by rw [strOf_toList]; rfl
    have HE := hidden (show prsI [] = (0, 2) from rfl)
    go_enter Tryd.func14, Tryd.ntmps14
    go_wp2_with fail
    go_ret2
    exact ⟨by rw [HE.out]; rfl, rfl⟩
  | c :: r, hl =>
    by_cases hc : c = 45
    · subst hc
      cases r with
      | nil =>
        have hg0 : ∀ h : 0 < (strOf [45]).size, (strOf [45])[0]'h = 45 := strOf_get (l := [45]) (j := 0) (b := 45) rfl
        have hle : (strOf [45]).toList.isEmpty = false := by rw [strOf_toList]; rfl
        have hlz : (strOf []).toList.isEmpty = true := by rw [strOf_toList]; rfl
        have hls : (strOf [45]).size = 1 := rfl
        have HE := hidden (show prsI [45] = (0, 4) by decide)
        go_enter Tryd.func14, Tryd.ntmps14
        go_wp2_with (refine wpList_from_l rfl _ _ 9 rfl Tryd.underlying9 [45] 1 rfl rfl (by simp) [] rfl ?_)
        go_ret2
        exact ⟨by rw [HE.out]; rfl, rfl⟩
      | cons c0 r0 =>
        have HE : prsI (45 :: c0 :: r0) = prsD true (45 :: c0 :: r0) (c0 :: r0) := by show (if (45 : UInt8) = 45 then prsD true (45 :: c0 :: r0) (c0 :: r0) else prsD false (45 :: c0 :: r0) (45 :: c0 :: r0)) = _; rw [if_pos rfl]
        rw [HE]
        exact rparse_neg c0 r0 w (by simp only [List.length_cons] at hl; omega)
    · have HE : prsI (c :: r) = prsD false (c :: r) (c :: r) := if_neg hc
      rw [HE]
      exact rparse_pos c r w (by simp only [List.length_cons] at hl; omega) hc
end Go.Proofs.YtaiphocnfkkigaaDoor
