/-
  The reference of package literal: Like. Nothing that was there is changed.
-/
import Derived.Test.YtaiphocnfkkigaaDoorLtK
import Derived.Test.YtaiphocnfkkigaaDoorMk
import Derived.Test.YtaiphocnfkkigaaDoorRng
import Derived.Test.YtaiphocnfkkigaaDoorLb5
namespace Go.Proofs.YtaiphocnfkkigaaDoor
open Go.RowKit
set_option linter.unusedVariables false
set_option linter.unusedSimpArgs false

def LKRel (w : World) (l s : List UInt8) (i : Value) (wr : World) : Prop := ∃ j : Nat, j ≤ l.length ∧ i = .int .i64 (j : Int) ∧ Row wr w.heap.size 4 (mrow (l.take j) (l.take j) s 0) ∧ Grows w wr
def LKUp (w : World) (p s : List UInt8) (k : Value) (wr : World) : Prop := ∃ m : Nat, m ≤ s.length ∧ k = .int .i64 ((m : Int) + 1) ∧ Row wr w.heap.size 4 (mrow (p ++ [37]) p s (m + 1)) ∧ Grows w wr
def LKDown (w : World) (p q s : List UInt8) (k : Value) (wr : World) : Prop := ∃ m : Nat, m ≤ s.length ∧ k = .int .i64 (m : Int) ∧ Row wr w.heap.size 4 (mrow p q s (m + 1)) ∧ Grows w wr
theorem mrow_up0 (p s : List UInt8) : mrow p p s 0 = mrow (p ++ [37]) p s (0 + 1) := by
  rw [mrow_set_same (Nat.zero_le _) (mk_pct_zero p s), mrow_none (p ++ [37]) p s]
set_option maxRecDepth 8000 in
set_option maxHeartbeats 8000000 in
theorem rlike_any (l s : List UInt8) (w : World) (hl : l.length ≤ 1048576) (hs : s.length ≤ 1048576) : Calls Tryd.prog 29 #[.string (strOf l), .string (strOf s)] w fun e w' => e = .returned (.bool (likeM l s)) ∧ Grows w w' := by
  have hsl : (strOf l).size = l.length := rfl
  have hss : (strOf s).size = s.length := rfl
  have hmk := fun W => run_make_one (P := Tryd.prog) 63 4 (.bool false) 1 Tryd.underlying63 info_bool rfl (s.length + 1) (by omega) (by omega) W
  have HZ := hidden (mrow_start s)
  have e1 : ((s.length + 1 : Nat) : Int) = (s.length : Int) + 1 := by omega
  rw [e1] at hmk
  clear e1
  go_enter Tryd.func29, Tryd.ntmps29
  go_wp2_with fail
  clear hmk
  go_loopw [6] (fun i wr => LKRel w l s i wr) (fun i _ => l.length - (intOf i).toNat)
  case atStart =>
    refine ⟨0, Nat.zero_le _, rfl, ?_, ?_⟩
    · rw [List.take_zero, ← HZ.out]
      exact Row.new _ _ _ _ (by apply Array.toList_inj.1; simp)
    · exact (Below.refl _ _).alloc (Nat.le_refl _) _
  case round =>
    obtain ⟨j, hj, rfl, hrow, hb⟩ := hrel
    have HRW := hidden hrow
    have HB := hidden hb
    clear hrow hb
    by_cases hlt : j < l.length
    · obtain ⟨c, hc⟩ := at_of_lt hlt
      have HTK := hidden (show l.take (j + 1) = l.take j ++ [c] by rw [List.take_add_one, hc]; rfl)
      have HCT := hidden hc
      have hg := strOf_get hc
      have hj0 : (0 : Int) ≤ (j : Int) := by omega
      have hj1 : (j : Int) < (l.length : Int) := by omega
      have hd : decide (j < l.length) = true := by simpa using hlt
      clear hc
      generalize l.take j = p at *
      by_cases h37 : c = 37
      · subst h37
        have HUP := hidden (show Row wr w.heap.size 4 (mrow (p ++ [37]) p s (0 + 1)) by have h := HRW.out; rwa [mrow_up0] at h)
        go_wp2_with (refine wpList_index_l rfl _ _ 9 rfl Tryd.underlying9 l j 37 rfl rfl HCT.out 37 rfl ?_)
        go_loopw [8] (fun k wx => LKUp w p s k wx) (fun k _ => s.length + 1 - (intOf k).toNat)
        case atStart => exact ⟨0, Nat.zero_le _, rfl, HUP.out, HB.out⟩
        case round =>
          obtain ⟨m, hm, rfl, hrow, hb⟩ := hrel
          have HR := hidden hrow
          have HG := hidden hb
          by_cases hmn : m < s.length
          · have hcm := hrow.cell m
            rw [mrow_get (by omega), if_pos (by omega)] at hcm
            have hfr := hrow.frozen (m + 1)
            have hc2 := hrow.cell (m + 1)
            rw [mrow_get (by omega), if_neg (by omega)] at hc2
            have HSU := hidden (mk_pct_succ (p := p) hmn)
            have HST := hidden (mrow_set (q := p ++ [37]) (p := p) (s := s) (m := m + 1) (by omega))
            have HSS := hidden (mrow_set_same (q := p ++ [37]) (p := p) (s := s) (m := m + 1) (by omega))
            have hmi : (m : Int) + 1 ≤ (s.length : Int) := by omega
            clear hrow hb
            cases hq : mk (p ++ [37]) s m
            · have HE := hidden (HSS.out (by rw [HSU.out, hq, Bool.or_false]))
              rw [hq] at hcm
              clear hq
              go_wp2_with fail
              go_roundw
              case rel => exact ⟨m + 1, by omega, by go_num, by rw [HE.out]; exact HR.out, HG.out⟩
              case measure => simp [intOf]; omega
            · have HE := hidden (show mk (p ++ [37]) s (m + 1) = true by rw [HSU.out, hq, Bool.or_true])
              rw [hq] at hcm
              clear hq
              go_wp2_with fail
              go_roundw
              case rel =>
                refine ⟨m + 1, by omega, by go_num, ?_, HG.out.setCell (Nat.le_refl _) _⟩
                have h := HR.out.set_ (m + 1) (.bool (mk (p ++ [37]) s (m + 1)))
                rw [HST.out, HE.out] at h
                exact h
              case measure => simp [intOf]; omega
          · have hme : m = s.length := by omega
            have HF := hidden (show Row wr w.heap.size 4 (mrow (l.take (j + 1)) (l.take (j + 1)) s 0) by have h := HR.out; rw [mrow_all (by omega)] at h; rw [HTK.out]; exact h)
            have hmi : ¬ ((m : Int) + 1 ≤ (s.length : Int)) := by omega
            go_wp2_with fail
            go_roundw
            case rel => exact ⟨j + 1, by omega, by go_num, HF.out, HG.out⟩
            case measure => simp [intOf]; omega
      · obtain ⟨z, hz⟩ : ∃ z : Int, z = (c.toNat : Int) := ⟨_, rfl⟩
        have hz0 : 0 ≤ z := by omega
        have hz1 : z < 256 := by have := c.toNat_lt; omega
        have hz2 : z ≠ 37 := fun he => h37 (UInt8.toNat_inj.1 (by rw [show c.toNat = 37 by omega]; rfl))
        have hz3 : (z == 37) = false := by simpa using hz2
        have HZC := hidden hz
        have HNC := hidden h37
        have HDN := hidden (show Row wr w.heap.size 4 (mrow p (p ++ [c]) s (s.length + 1)) by rw [mrow_all (by omega)]; exact HRW.out)
        clear hz hz2 h37 hg
        go_wp2_with (refine wpList_index_l rfl _ _ 9 rfl Tryd.underlying9 l j c rfl rfl HCT.out z HZC.out ?_)
        go_loopw [9] (fun k wx => LKDown w p (p ++ [c]) s k wx) (fun k _ => (intOf k).toNat)
        case atStart => exact ⟨s.length, Nat.le_refl _, rfl, HDN.out, HB.out⟩
        case round =>
          obtain ⟨m, hm, rfl, hrow, hb⟩ := hrel
          have HR := hidden hrow
          have HG := hidden hb
          cases m with
          | zero =>
            have hfr := hrow.frozen 0
            have hc0 := hrow.cell 0
            rw [mrow_get (Nat.zero_le _)] at hc0
            have HF := hidden (show Row (wr.setCell ⟨w.heap.size, 0, none⟩ (.bool false)) w.heap.size 4 (mrow (l.take (j + 1)) (l.take (j + 1)) s 0) by
              have h := HR.out.set_ 0 (.bool (mk (p ++ [c]) s 0))
              rw [mrow_down (Nat.zero_le _), mk_chr_zero HNC.out, mrow_none] at h
              rw [HTK.out]
              exact h)
            clear hrow hb
            rw [show ((0 : Nat) : Int) = 0 from rfl]
            go_wp2_with fail
            go_roundw
            case rel => exact ⟨j + 1, by omega, by go_num, HF.out, HG.out.setCell (Nat.le_refl _) _⟩
            case measure => simp [intOf]; omega
          | succ m =>
            obtain ⟨b, hbm⟩ := at_of_lt (l := s) (j := m) (by omega)
            have hcm := hrow.cell m
            rw [mrow_get (by omega), if_pos (by omega)] at hcm
            have hfr := hrow.frozen (m + 1)
            have hc2 := hrow.cell (m + 1)
            rw [mrow_get (by omega), if_pos (by omega)] at hc2
            have HV := hidden (mk_chr_succ (p := p) HNC.out hbm)
            have HDW := hidden (mrow_down (q := p ++ [c]) (p := p) (s := s) (m := m + 1) (by omega))
            have HBM := hidden hbm
            have hgb := strOf_get hbm
            have hmi : (0 : Int) < (m : Int) + 1 := by omega
            have hms : (m : Int) < (s.length : Int) := by omega
            have hms2 : m < s.length := by omega
            clear hrow hb hbm
            cases hq : mk p s m
            · have HE := hidden (show mk (p ++ [c]) s (m + 1) = false by rw [HV.out, hq, Bool.false_and])
              rw [hq] at hcm
              clear hq
              go_wp2_with fail
              go_roundw
              case rel =>
                refine ⟨m, by omega, by go_num, ?_, HG.out.setCell (Nat.le_refl _) _⟩
                have h := HR.out.set_ (m + 1) (.bool (mk (p ++ [c]) s (m + 1)))
                rw [HDW.out, HE.out] at h
                exact h
              case measure => simp [intOf]
            · rw [hq] at hcm
              by_cases h95 : c = 95
              · have HE := hidden (show mk (p ++ [c]) s (m + 1) = true by rw [HV.out, hq, h95]; rfl)
                have hz95 : (z == 95) = true := by rw [HZC.out, h95]; rfl
                have hz95n : z = 95 := by rw [HZC.out, h95]; rfl
                clear hq h95
                go_wp2_with fail
                go_roundw
                case rel =>
                  refine ⟨m, by omega, by go_num, ?_, HG.out.setCell (Nat.le_refl _) _⟩
                  have h := HR.out.set_ (m + 1) (.bool (mk (p ++ [c]) s (m + 1)))
                  rw [HDW.out, HE.out] at h
                  exact h
                case measure => simp [intOf]
              · have hz95n : ¬ (z = 95) := fun he => h95 (UInt8.toNat_inj.1 (by have := HZC.out; rw [show c.toNat = 95 by omega]; rfl))
                have hz95 : (z == 95) = false := by simpa using hz95n
                have HX := hidden (show (z == (b.toNat : Int)) = mk (p ++ [c]) s (m + 1) by
                  have e1 : (c == 95) = false := by simpa using h95
                  rw [HV.out, hq, e1, Bool.true_and, Bool.false_or, HZC.out]
                  by_cases hcb : c = b
                  · rw [hcb]; simp
                  · have e2 : (c == b) = false := by simpa using hcb
                    rw [e2]
                    have : ¬ (c.toNat = b.toNat) := fun he => hcb (UInt8.toNat_inj.1 he)
                    simp
                    omega)
                clear hq h95
                go_wp2_with fail
                go_roundw
                case rel =>
                  refine ⟨m, by omega, by go_num, ?_, HG.out.setCell (Nat.le_refl _) _⟩
                  have h := HR.out.set_ (m + 1) (.bool (mk (p ++ [c]) s (m + 1)))
                  rw [HDW.out, ← HX.out] at h
                  exact h
                case measure => simp [intOf]
    · have hd : decide (j < l.length) = false := by simpa using hlt
      have hje : l.take j = l := List.take_of_length_le (by omega)
      have hrl := HRW.out
      rw [hje] at hrl
      have hcn := hrl.cell s.length
      rw [mrow_get (Nat.le_refl _), if_neg (by omega)] at hcn
      have HE := hidden (show mk l s s.length = likeM l s from rfl)
      clear hrl hje
      go_wp2_with fail
      go_ret
      exact ⟨retB HE.out, HB.out⟩
end Go.Proofs.YtaiphocnfkkigaaDoor
