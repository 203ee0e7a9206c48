/-
  The reference of package literal: Unquote. Nothing that was there is changed.
-/
import Derived.Test.YtaiphocnfkkigaaDoorLit1
namespace Go.Proofs.YtaiphocnfkkigaaDoor
open Go.RowKit
set_option linter.unusedVariables false
set_option linter.unusedSimpArgs false

def twoS (p : List UInt8 × Int) : Ending := .returned (.tuple #[.string (strOf p.1), .int .i64 p.2])
def UQRel (w : World) (m : List UInt8) (out i : Value) (wr : World) : Prop := ∃ (j : Nat) (t : List UInt8), j ≤ m.length ∧ i = .int .i64 ((j : Int) + 1) ∧ out = .string (strOf t) ∧ unqM m = (unqM (m.drop j)).map (t ++ ·) ∧ t.length ≤ j ∧ w = wr
theorem map_cons_app (o : Option (List UInt8)) (t : List UInt8) (c : UInt8) : (o.map (c :: ·)).map (t ++ ·) = o.map ((t ++ [c]) ++ ·) := by cases o <;> simp
set_option maxRecDepth 4000 in
set_option maxHeartbeats 4000000 in
theorem runquote_mid (m : List UInt8) (w : World) (hl : m.length ≤ 4611686018427387900) : Calls Tryd.prog 18 #[.string (strOf (39 :: (m ++ [39])))] w fun e w' => e = twoS (unqR (unqM m)) ∧ w = w' := by
  obtain ⟨L, hL⟩ : ∃ L, L = 39 :: (m ++ [39]) := ⟨_, rfl⟩
  rw [← hL]
  have hlen : L.length = m.length + 2 := by rw [hL]; simp
  have hs : (strOf L).size = m.length + 2 := hlen
  have hg0 : ∀ h : 0 < (strOf L).size, (strOf L)[0]'h = 39 := strOf_get (l := L) (j := 0) (b := 39) (by rw [hL]; rfl)
  have hgl : ∀ h : m.length + 1 < (strOf L).size, (strOf L)[m.length + 1]'h = 39 := strOf_get (l := L) (j := m.length + 1) (b := 39) (by rw [hL, List.getElem?_cons_succ, List.getElem?_append_right (Nat.le_refl _)]; simp)
  have HAT := hidden (show ∀ j b, m[j]? = some b → L[j + 1]? = some b from fun j b h => by
    have hlt : j < m.length := by
      rcases Nat.lt_or_ge j m.length with h0 | h0
      · exact h0
      · rw [List.getElem?_eq_none h0] at h; cases h
    rw [hL, List.getElem?_cons_succ, List.getElem?_append_left hlt]
    exact h)
  have HLEN := hidden hlen
  clear hL hlen
  go_enter Tryd.func18, Tryd.ntmps18
  go_wp2_with fail
  clear hgl
  go_loopw [5, 6] (fun out i wr => UQRel w m out i wr) (fun _ i _ => m.length + 1 - (intOf i).toNat)
  case atStart => exact ⟨0, [], Nat.zero_le _, rfl, rfl, by simp, Nat.le_refl _, rfl⟩
  case round =>
    obtain ⟨j, t, hj, rfl, rfl, hu, htl, rfl⟩ := hrel
    have HU := hidden hu
    clear hu
    by_cases hlt : j < m.length
    · obtain ⟨b, hb⟩ : ∃ b, m[j]? = some b := ⟨_, List.getElem?_eq_getElem hlt⟩
      have HBT := hidden (HAT.out j b hb)
      have hdr : m.drop j = b :: m.drop (j + 1) := by
        rw [List.drop_eq_getElem_cons hlt]
        congr 1
        rw [List.getElem?_eq_getElem hlt] at hb
        injection hb
      have HSLI := hidden (show ∀ k c, L[k]? = some c → (L.drop k).take (k + 1 - k) = [c] from fun k c h => by
        have hk : k < L.length := by
          rcases Nat.lt_or_ge k L.length with h0 | h0
          · exact h0
          · rw [List.getElem?_eq_none h0] at h; cases h
        have h1 : L[k] = c := by rw [List.getElem?_eq_getElem hk] at h; injection h
        rw [List.drop_eq_getElem_cons hk, show k + 1 - k = 0 + 1 by omega, List.take_succ_cons, List.take_zero, h1])
      have hji : (j : Int) + 1 < (m.length : Int) + 1 := by omega
      have hd : decide (j < m.length) = true := by simpa using hlt
      by_cases hq : b = 39
      · subst hq
        by_cases hend : j + 1 = m.length
        · have HE := hidden (show unqR (unqM m) = ([], 4) by rw [HU.out, hdr, List.drop_of_length_le (by omega), unqM_q]; rfl)
          have hei : (j : Int) + 2 = (m.length : Int) + 1 := by omega
          have hei2 : (m.length : Int) = (j : Int) + 1 := by omega
          clear hdr hb hend hd hlt hji
          go_wp2_with (refine wpList_index_l rfl _ _ 9 rfl Tryd.underlying9 L (j + 1) 39 rfl (by go_num) HBT.out 39 rfl ?_)
          go_ret2
          exact ⟨by rw [HE.out]; rfl, rfl⟩
        · obtain ⟨d, hdd⟩ : ∃ d, m[j + 1]? = some d := ⟨_, List.getElem?_eq_getElem (by omega)⟩
          have hdr2 : m.drop (j + 1) = d :: m.drop (j + 2) := by
            have h2 : j + 1 < m.length := by omega
            rw [List.drop_eq_getElem_cons h2]
            congr 1
            rw [List.getElem?_eq_getElem h2] at hdd
            injection hdd
          have HBT2 := HAT.out (j + 1) d hdd
          have hg2 := strOf_get HBT2
          have HSL := hidden (HSLI.out (j + 2) d HBT2)
          have hei : ¬ ((j : Int) + 2 = (m.length : Int) + 1) := by omega
          have hej : (j : Int) + 2 < (m.length : Int) + 1 := by omega
          have heb : ((j : Int) + 2 == (m.length : Int) + 1) = false := by simpa using hei
          by_cases hd39 : d = 39
          · subst hd39
            have HN := hidden (show unqM m = (unqM (m.drop (j + 2))).map ((t ++ [39]) ++ ·) by rw [HU.out, hdr, hdr2, unqM_qq, map_cons_app])
            clear hdr hdr2 hb hdd HBT2
            go_wp2_with (first | (refine wpList_index_l rfl _ _ 9 rfl Tryd.underlying9 L (j + 1) 39 rfl (by go_num) HBT.out 39 rfl ?_) | (refine wpList_slice_l rfl _ _ _ 9 rfl Tryd.underlying9 L (j + 2) (j + 3) rfl (by go_num) (by go_num) (by omega) (by have := HLEN.out; omega) [39] HSL.out ?_) | (refine wpList_add_l rfl _ _ 9 rfl t [39] rfl rfl (by simp only [List.length_cons, List.length_nil]; omega) ?_))
            go_roundw
            case rel => exact ⟨j + 2, t ++ [39], by omega, by go_num, rfl, HN.out, by simp only [List.length_append, List.length_cons, List.length_nil]; omega, rfl⟩
            case measure => simp [intOf]; omega
          · have HE := hidden (show unqR (unqM m) = ([], 4) by rw [HU.out, hdr, hdr2, unqM_qn hd39]; rfl)
            have hdz : ¬ ((d.toNat : Int) = 39) := fun he => hd39 (UInt8.toNat_inj.1 (by rw [show d.toNat = 39 by omega]; rfl))
            have hdz2 : ((d.toNat : Int) == 39) = false := by simpa using hdz
            have hdz3 : ¬ (d.toNat = 39) := by omega
            have heb2 : ((j : Int) + 1 + 1 == (m.length : Int) + 2 - 1) = false := by simp; omega
            clear hdr hdr2 hb hdd HBT2 hd39
            go_wp2_with (refine wpList_index_l rfl _ _ 9 rfl Tryd.underlying9 L (j + 1) 39 rfl (by go_num) HBT.out 39 rfl ?_)
            go_ret2
            exact ⟨by rw [HE.out]; rfl, rfl⟩
      · obtain ⟨z, hz⟩ : ∃ z : Int, z = (b.toNat : Int) := ⟨_, rfl⟩
        have hz0 : 0 ≤ z := by omega
        have hz1 : z < 256 := by have := b.toNat_lt; omega
        have hz2 : z ≠ 39 := fun he => hq (UInt8.toNat_inj.1 (by rw [show b.toNat = 39 by omega]; rfl))
        have hz3 : (z == 39) = false := by simpa using hz2
        have HZ := hidden hz
        have HN := hidden (show unqM m = (unqM (m.drop (j + 1))).map ((t ++ [b]) ++ ·) by rw [HU.out, hdr, unqM_ne hq, map_cons_app])
        have HSL := hidden (HSLI.out (j + 1) b HBT.out)
        clear hdr hb hq hz hz2
        go_wp2_with (first | (refine wpList_index_l rfl _ _ 9 rfl Tryd.underlying9 L (j + 1) b rfl (by go_num) HBT.out z HZ.out ?_) | (refine wpList_slice_l rfl _ _ _ 9 rfl Tryd.underlying9 L (j + 1) (j + 2) rfl (by go_num) (by go_num) (by omega) (by have := HLEN.out; omega) [b] HSL.out ?_) | (refine wpList_add_l rfl _ _ 9 rfl t [b] rfl rfl (by simp only [List.length_cons, List.length_nil]; omega) ?_))
        go_roundw
        case rel => exact ⟨j + 1, t ++ [b], by omega, by go_num, rfl, HN.out, by simp only [List.length_append, List.length_cons, List.length_nil]; omega, rfl⟩
        case measure => simp [intOf]; omega
    · have HE := hidden (show unqR (unqM m) = (t, 0) by
        rw [HU.out, List.drop_of_length_le (by omega)]
        show unqR (some (t ++ [])) = _
        rw [List.append_nil]
        rfl)
      have hd : decide (j < m.length) = false := by simpa using hlt
      have hjn : ¬ ((j : Int) + 1 < (m.length : Int) + 1) := by omega
      go_wp2_with fail
      go_ret2
      exact ⟨by rw [HE.out]; rfl, rfl⟩
theorem unqL_ok (m : List UInt8) : unqL (39 :: (m ++ [39])) = unqR (unqM m) := by
  have h1 : (39 :: (m ++ [39]))[(39 :: (m ++ [39])).length - 1]? = some 39 := by
    rw [show (39 :: (m ++ [39])).length - 1 = m.length + 1 by simp, List.getElem?_cons_succ, List.getElem?_append_right (Nat.le_refl _)]
    simp
  unfold unqL
  rw [if_pos ⟨by simp, rfl, h1⟩]
  congr 2
  rw [List.drop_succ_cons, List.drop_zero, show (39 :: (m ++ [39])).length - 2 = m.length by simp, List.take_left]
theorem runquote_any (l : List UInt8) (w : World) (hl : l.length ≤ 4611686018427387900) : Calls Tryd.prog 18 #[.string (strOf l)] w fun e w' => e = twoS (unqL l) ∧ w = w' := by
  have hs : (strOf l).size = l.length := rfl
  by_cases h2 : 2 ≤ l.length
  · obtain ⟨c, hc⟩ : ∃ c, l[0]? = some c := ⟨_, List.getElem?_eq_getElem (by omega)⟩
    obtain ⟨d, hdl⟩ : ∃ d, l[l.length - 1]? = some d := ⟨_, List.getElem?_eq_getElem (by omega)⟩
    by_cases hc39 : c = 39
    · subst hc39
      by_cases hd39 : d = 39
      · subst hd39
        have hL : l = 39 :: ((l.drop 1).take (l.length - 2) ++ [39]) := by
          cases l with
          | nil => simp at h2
          | cons a r =>
            have e : a = 39 := by simpa using hc
            subst e
            congr 1
            have hr : 0 < r.length := by simp at h2; omega
            rw [List.drop_succ_cons, List.drop_zero, show (39 :: r).length - 2 = r.length - 1 by simp]
            have h5 : r[r.length - 1]? = some 39 := by
              rw [show (39 :: r).length - 1 = (r.length - 1) + 1 by simp; omega, List.getElem?_cons_succ] at hdl
              exact hdl
            have h6 := List.take_add_one (l := r) (i := r.length - 1)
            rw [h5, show r.length - 1 + 1 = r.length by omega, List.take_length] at h6
            exact h6
        generalize (l.drop 1).take (l.length - 2) = m at hL
        subst hL
        rw [unqL_ok]
        exact runquote_mid m w (by simp at hl; omega)
      · have HE := hidden (show unqL l = ([], 4) by
          unfold unqL
          rw [if_neg (fun h => hd39 (by have e := hdl.symm.trans h.2.2; injection e))])
        have hg0 := strOf_get hc
        have hdn : ¬ (d.toNat = 39) := fun he => hd39 (UInt8.toNat_inj.1 (by rw [he]; rfl))
        have hdz : ((d.toNat : Int) == 39) = false := by simp; omega
        obtain ⟨k, hk⟩ : ∃ k : Nat, l.length = k + 2 := ⟨l.length - 2, by omega⟩
        have hdl2 : l[k + 1]? = some d := by rw [hk] at hdl; exact hdl
        have hgl := strOf_get hdl2
        rw [hk] at hs
        have hk3 : k ≤ 4611686018427387900 := by omega
        clear hc hdl hdl2 hd39 h2 hl hk
        go_enter Tryd.func18, Tryd.ntmps18
        go_wp2_with fail
        all_goals first | (go_ret2; exact ⟨by rw [HE.out]; rfl, rfl⟩) | (exfalso; have h9 := (‹2 ≤ (k : Int) + 2 ∧ ((d.toNat : Int) != 39) = false›).2; simp at h9; omega)
    · have HE := hidden (show unqL l = ([], 4) by
        unfold unqL
        rw [if_neg (fun h => hc39 (by have e := hc.symm.trans h.2.1; injection e))])
      have hg0 := strOf_get hc
      have hdn : ¬ (c.toNat = 39) := fun he => hc39 (UInt8.toNat_inj.1 (by rw [he]; rfl))
      have hdz : ((c.toNat : Int) == 39) = false := by simp; omega
      clear hc hdl hc39
      go_enter Tryd.func18, Tryd.ntmps18
      go_wp2_with fail
      all_goals (go_ret2; exact ⟨by rw [HE.out]; rfl, rfl⟩)
  · have HE := hidden (show unqL l = ([], 4) by unfold unqL; rw [if_neg (fun h => h2 h.1)])
    have hlt : (l.length : Int) < 2 := by omega
    go_enter Tryd.func18, Tryd.ntmps18
    go_wp2_with fail
    all_goals (go_ret2; exact ⟨by rw [HE.out]; rfl, rfl⟩)
end Go.Proofs.YtaiphocnfkkigaaDoor
