/-
  The law LiteralLikeRules, walked: it returns true. Nothing that was there is changed.
-/
import Derived.Test.YtaiphocnfkkigaaDoorLa0
namespace Go.Proofs.YtaiphocnfkkigaaDoor
open Go.RowKit
set_option linter.unusedVariables false
set_option linter.unusedSimpArgs false

def plainB (t : List UInt8) : Bool := t.all fun c => c != 37 && c != 95
noncomputable def sufB (p s : List UInt8) (j : Nat) : Bool := (List.range j).any fun i => likeM p (s.drop i)
theorem plainB_step {s : List UInt8} {j : Nat} {c : UInt8} (h : s[j]? = some c) : plainB (s.take (j + 1)) = (plainB (s.take j) && (c != 37 && c != 95)) := by
  unfold plainB
  rw [List.take_add_one, h]
  simp
theorem sufB_step (p s : List UInt8) (j : Nat) : sufB p s (j + 1) = (sufB p s j || likeM p (s.drop j)) := by
  unfold sufB
  rw [List.range_succ, List.any_append]
  simp
theorem sufB_pct (p s : List UInt8) : likeM (37 :: p) s = sufB p s (s.length + 1) := by
  refine likeM_eq ?_
  rw [LM_pct_drop]
  unfold sufB
  rw [List.any_eq_true]
  constructor
  · rintro ⟨i, hi, h⟩
    exact ⟨i, by have := List.mem_range.1 hi; omega, likeM_true.1 h⟩
  · rintro ⟨i, hi, h⟩
    exact ⟨i, List.mem_range.2 (by omega), likeM_true.2 h⟩
theorem plain_self {s : List UInt8} (h : plainB s = true) : likeM s s = true := by
  rw [likeM_true]
  refine LM_self s fun c hc => ?_
  unfold plainB at h
  rw [List.all_eq_true] at h
  have := h c hc
  simp at this
  exact this.1
theorem like_pct (s : List UInt8) : likeM [37] s = true := likeM_true.2 (LM_any s)
theorem like_wild (m : Nat) (s : List UInt8) : likeM (List.replicate m 95) s = ((s.length : Int) == (m : Int)) := by
  refine likeM_eq ?_
  rw [LM_wild, beq_iff_eq]
  omega
def R1Rel (w : World) (p s : List UInt8) (pl su i : Value) (wr : World) : Prop := ∃ j : Nat, j ≤ s.length + 1 ∧ i = .int .i64 (j : Int) ∧ pl = .bool (plainB (s.take j)) ∧ su = .bool (sufB p s j) ∧ Grows w wr
def R2Rel (w : World) (M : Nat) (wl i : Value) (wr : World) : Prop := ∃ k : Nat, k ≤ M ∧ i = .int .i64 (k : Int) ∧ wl = .string (strOf (List.replicate k 95)) ∧ Grows w wr
set_option maxRecDepth 8000 in
set_option maxHeartbeats 8000000 in
theorem law_rules (p s : List UInt8) (N : Nat) (w : World) (hf : Fit w) (hp : p.length ≤ 4611686018427387900) (hs : s.length ≤ 4611686018427387900) (hN : N < 256) :
    Calls Tryd.prog 9 #[.string (strOf p), .string (strOf s), .int .u8 (N : Int)] w fun e w' => e = .returned (.bool true) ∧ Grows w w' := by
  have HA := hidden (fun w2 (g : Grows w w2) => awake_any w2 (hf.grow g))
  have HG0 := hidden (show Grows w w from Below.refl _ _)
  have hsp : (strOf p).size = p.length := rfl
  have hss : (strOf s).size = s.length := rfl
  by_cases h1 : 60 < p.length
  · have hd : decide ((60 : Int) < (p.length : Int)) = true := by simp; omega
    clear hf
    go_enter Tryd.func9, Tryd.ntmps9
    go_wp2_with ((go_at_call 12; refine (HA.out _ HG0.out).mono ?_; rintro e w4 ⟨rfl, g4⟩; have HG4 := hidden g4; clear g4))
    go_ret
    exact ⟨rfl, HG4.out⟩
  · have hd : decide ((60 : Int) < (p.length : Int)) = false := by simp; omega
    by_cases h2 : 60 < s.length
    · have hd2 : decide ((60 : Int) < (s.length : Int)) = true := by simp; omega
      clear hf
      go_enter Tryd.func9, Tryd.ntmps9
      go_wp2_with ((go_at_call 12; refine (HA.out _ HG0.out).mono ?_; rintro e w4 ⟨rfl, g4⟩; have HG4 := hidden g4; clear g4))
      go_ret
      exact ⟨rfl, HG4.out⟩
    · have hd2 : decide ((60 : Int) < (s.length : Int)) = false := by simp; omega
      have HLK := hidden (fun l t (hl : l.length ≤ 1000) (ht : t.length ≤ 1000) w2 (g : Grows w w2) => llike_any l t w2 (hf.grow g) (by omega) (by omega))
      clear hf
      go_enter Tryd.func9, Tryd.ntmps9
      go_wp2_with fail
      go_loopw [7, 8, 10] (fun pl su i wr => R1Rel w p s pl su i wr) (fun _ _ i _ => s.length + 1 - (intOf i).toNat)
      case atStart => exact ⟨0, Nat.zero_le _, rfl, rfl, rfl, HG0.out⟩
      case round =>
        obtain ⟨j, hj, rfl, rfl, rfl, hb⟩ := hrel
        clear HG0
        have HG0 := hidden (show Grows w wr from hb)
        clear hb
        by_cases hjl : j ≤ s.length
        · have hji : (j : Int) ≤ (s.length : Int) := by omega
          have hj0 : (0 : Int) ≤ (j : Int) := by omega
          have HSB := hidden (sufB_step p s j)
          have hx : strOf (s.drop j) = (strOf s).extract j s.length := by rw [strOf_extract, List.take_of_length_le (by rw [List.length_drop]; exact Nat.le_refl _)]
          have HL := hidden (fun w2 (g : Grows w w2) => HLK.out p (s.drop j) (by omega) (by rw [List.length_drop]; omega) w2 g)
          rw [hx] at HL
          clear hx
          generalize likeM p (s.drop j) = lk at *
          generalize hsu : sufB p s j = su at *
          clear hsu
          cases hpl : plainB (s.take j)
          · have HNP := hidden (show plainB (s.take (j + 1)) = false by
              rcases Nat.lt_or_ge j s.length with h3 | h3
              · obtain ⟨c, hc⟩ := at_of_lt h3
                rw [plainB_step hc, hpl, Bool.false_and]
              · rw [List.take_of_length_le (by omega)] at hpl ⊢
                exact hpl)
            clear hpl
            rcases Bool.eq_false_or_eq_true su with rfl | rfl
            · have HS := hidden (show sufB p s (j + 1) = true from HSB.out)
              go_wp2_with fail
              go_roundw
              case rel => exact ⟨j + 1, by omega, by go_num, by rw [HNP.out], by rw [HS.out], HG0.out⟩
              case measure => first | (simp [intOf]; done) | (simp [intOf]; omega)
            · have HS := hidden (show sufB p s (j + 1) = lk from HSB.out)
              go_wp2_with ((go_at_call 28; refine (HL.out _ HG0.out).mono ?_; rintro e w2 ⟨rfl, g⟩; have HGN := hidden (Grows.of_below HG0.out g); clear HG0; have HG0 := hidden (show Grows w _ from HGN.out); clear HGN g))
              go_roundw
              case rel => exact ⟨j + 1, by omega, by go_num, by rw [HNP.out], by rw [HS.out], HG0.out⟩
              case measure => first | (simp [intOf]; done) | (simp [intOf]; omega)
          · by_cases hje : j = s.length
            · have HNP := hidden (show plainB (s.take (j + 1)) = true by
                rw [List.take_of_length_le (by omega)] at hpl ⊢
                exact hpl)
              clear hpl
              subst hje
              rcases Bool.eq_false_or_eq_true su with rfl | rfl
              · have HS := hidden (show sufB p s (s.length + 1) = true from HSB.out)
                go_wp2_with fail
                go_roundw
                case rel => exact ⟨s.length + 1, by omega, by go_num, by rw [HNP.out], by rw [HS.out], HG0.out⟩
                case measure => first | (simp [intOf]; done) | (simp [intOf]; omega)
              · have HS := hidden (show sufB p s (s.length + 1) = lk from HSB.out)
                have hxe : (strOf s).extract s.length s.length = ByteArray.empty := by simp
                rw [hxe] at HL
                clear hxe
                go_wp2_with ((go_at_call 28; refine (HL.out _ HG0.out).mono ?_; rintro e w2 ⟨rfl, g⟩; have HGN := hidden (Grows.of_below HG0.out g); clear HG0; have HG0 := hidden (show Grows w _ from HGN.out); clear HGN g))
                go_roundw
                case rel => exact ⟨s.length + 1, by omega, by go_num, by rw [HNP.out], by rw [HS.out], HG0.out⟩
                case measure => first | (simp [intOf]; done) | (simp [intOf]; omega)
            · have hjb : ((j : Int) == (s.length : Int)) = false := by simp; omega
              have hj1 : (j : Int) < (s.length : Int) := by omega
              have hj2 : j < s.length := by omega
              obtain ⟨c, hc⟩ := at_of_lt hj2
              have hg := strOf_get hc
              have HST := hidden (plainB_step hc)
              rw [hpl, Bool.true_and] at HST
              clear hpl hc
              by_cases h37 : c = 37
              · have HNP := hidden (show plainB (s.take (j + 1)) = false by rw [HST.out, h37]; rfl)
                have hc37 : ((c.toNat : Int) != 37) = false := by rw [h37]; decide
                have hcn : c.toNat = 37 := by rw [h37]; rfl
                clear h37
                rcases Bool.eq_false_or_eq_true su with rfl | rfl
                · have HS := hidden (show sufB p s (j + 1) = true from HSB.out)
                  go_wp2_with fail
                  go_roundw
                  case rel => exact ⟨j + 1, by omega, by go_num, by rw [HNP.out], by rw [HS.out], HG0.out⟩
                  case measure => first | (simp [intOf]; done) | (simp [intOf]; omega)
                · have HS := hidden (show sufB p s (j + 1) = lk from HSB.out)
                  go_wp2_with ((go_at_call 28; refine (HL.out _ HG0.out).mono ?_; rintro e w2 ⟨rfl, g⟩; have HGN := hidden (Grows.of_below HG0.out g); clear HG0; have HG0 := hidden (show Grows w _ from HGN.out); clear HGN g))
                  go_roundw
                  case rel => exact ⟨j + 1, by omega, by go_num, by rw [HNP.out], by rw [HS.out], HG0.out⟩
                  case measure => first | (simp [intOf]; done) | (simp [intOf]; omega)
              · have hcn : ¬ (c.toNat = 37) := fun he => h37 (UInt8.toNat_inj.1 (by rw [he]; rfl))
                have hc37 : ((c.toNat : Int) != 37) = true := by simp; omega
                by_cases h95 : c = 95
                · have HNP := hidden (show plainB (s.take (j + 1)) = false by rw [HST.out, h95]; rfl)
                  have hc95 : ((c.toNat : Int) != 95) = false := by rw [h95]; decide
                  have hcm : c.toNat = 95 := by rw [h95]; rfl
                  clear h37 h95
                  rcases Bool.eq_false_or_eq_true su with rfl | rfl
                  · have HS := hidden (show sufB p s (j + 1) = true from HSB.out)
                    go_wp2_with fail
                    go_roundw
                    case rel => exact ⟨j + 1, by omega, by go_num, by rw [HNP.out], by rw [HS.out], HG0.out⟩
                    case measure => first | (simp [intOf]; done) | (simp [intOf]; omega)
                  · have HS := hidden (show sufB p s (j + 1) = lk from HSB.out)
                    go_wp2_with ((go_at_call 28; refine (HL.out _ HG0.out).mono ?_; rintro e w2 ⟨rfl, g⟩; have HGN := hidden (Grows.of_below HG0.out g); clear HG0; have HG0 := hidden (show Grows w _ from HGN.out); clear HGN g))
                    go_roundw
                    case rel => exact ⟨j + 1, by omega, by go_num, by rw [HNP.out], by rw [HS.out], HG0.out⟩
                    case measure => first | (simp [intOf]; done) | (simp [intOf]; omega)
                · have HNP := hidden (show plainB (s.take (j + 1)) = true by rw [HST.out]; simp [h37, h95])
                  have hcm : ¬ (c.toNat = 95) := fun he => h95 (UInt8.toNat_inj.1 (by rw [he]; rfl))
                  have hc95 : ((c.toNat : Int) != 95) = true := by simp; omega
                  clear h37 h95
                  rcases Bool.eq_false_or_eq_true su with rfl | rfl
                  · have HS := hidden (show sufB p s (j + 1) = true from HSB.out)
                    go_wp2_with fail
                    go_roundw
                    case rel => exact ⟨j + 1, by omega, by go_num, by rw [HNP.out], by rw [HS.out], HG0.out⟩
                    case measure => first | (simp [intOf]; done) | (simp [intOf]; omega)
                  · have HS := hidden (show sufB p s (j + 1) = lk from HSB.out)
                    go_wp2_with ((go_at_call 28; refine (HL.out _ HG0.out).mono ?_; rintro e w2 ⟨rfl, g⟩; have HGN := hidden (Grows.of_below HG0.out g); clear HG0; have HG0 := hidden (show Grows w _ from HGN.out); clear HGN g))
                    go_roundw
                    case rel => exact ⟨j + 1, by omega, by go_num, by rw [HNP.out], by rw [HS.out], HG0.out⟩
                    case measure => first | (simp [intOf]; done) | (simp [intOf]; omega)
        · have hji : ¬ ((j : Int) ≤ (s.length : Int)) := by omega
          have hje : j = s.length + 1 := by omega
          have hpe : plainB (s.take j) = plainB s := by rw [List.take_of_length_le (by omega)]
          have HSU := hidden (show likeM (37 :: p) s = sufB p s j by rw [hje]; exact sufB_pct p s)
          rw [hpe]
          generalize sufB p s j = su at *
          have HSF := hidden (fun h => plain_self (s := s) h)
          generalize plainB s = pl at *
          obtain ⟨M, hM⟩ : ∃ M, M = N % 80 := ⟨_, rfl⟩
          have hM80 : M < 80 := by omega
          have HM := hidden (show ((N : Int) % 80) = (M : Int) by omega)
          have HMt := hidden (show (N : Int).tmod 80 = (M : Int) by rw [hM]; rfl)
          have hm1 := HM.out
          have hm2 := HMt.out
          clear hje hpe hM
          go_wp2_with fail
          go_loopw [9, 11] (fun wl i wr => R2Rel w M wl i wr) (fun _ i _ => M - (intOf i).toNat)
          case atStart => exact ⟨0, Nat.zero_le _, rfl, rfl, HG0.out⟩
          case round =>
            obtain ⟨k, hk, rfl, rfl, hb⟩ := hrel
            clear HG0
            have HG0 := hidden (show Grows w wr from hb)
            clear hb
            by_cases hkm : k < M
            · have hki : (k : Int) < (M : Int) := by omega
              have HRP := hidden (show List.replicate k (95 : UInt8) ++ [95] = List.replicate (k + 1) 95 by rw [List.replicate_succ'])
              go_wp2_with (refine wpList_add_l rfl _ _ 9 rfl (List.replicate k 95) [95] rfl rfl (by simp; omega) ?_)
              go_roundw
              case rel => exact ⟨k + 1, by omega, by go_num, by rw [HRP.out], HG0.out⟩
              case measure => simp [intOf]; omega
            · have hkM : k = M := by omega
              subst hkM
              have hki : ¬ ((k : Int) < (k : Int)) := by omega
              have hszw : (strOf (List.replicate k 95)).size = k := by rw [strOf_size, List.length_replicate]
              have HW := hidden (fun w2 (g : Grows w w2) => HLK.out (List.replicate k 95) s (by rw [List.length_replicate]; omega) (by omega) w2 g)
              rw [like_wild] at HW
              have HPC := hidden (fun w2 (g : Grows w w2) => HLK.out [37] s (by simp) (by omega) w2 g)
              rw [like_pct] at HPC
              have HPP := hidden (fun w2 (g : Grows w w2) => HLK.out (37 :: p) s (by simp; omega) (by omega) w2 g)
              rw [HSU.out] at HPP
              have HSS := hidden (fun w2 (g : Grows w w2) => HLK.out s s (by omega) (by omega) w2 g)
              generalize List.replicate k (95 : UInt8) = wl at *
              have hcat : strOf (37 :: p) = (ByteArray.mk #[37]) ++ strOf p := (strOf_append [37] p).symm
              rw [hcat] at HPP
              clear hcat
              cases pl
              · go_wp2_with (first
                  | (go_at_call_of 28 (Value.string (ByteArray.mk #[37])); refine (HPC.out _ HG0.out).mono ?_; rintro e w2 ⟨rfl, g⟩; have HGN := hidden (Grows.of_below HG0.out g); clear HG0; have HG0 := hidden (show Grows w _ from HGN.out); clear HGN g)
                  | (go_at_call_of 28 (Value.string (strOf wl)); refine (HW.out _ HG0.out).mono ?_; rintro e w2 ⟨rfl, g⟩; have HGN := hidden (Grows.of_below HG0.out g); clear HG0; have HG0 := hidden (show Grows w _ from HGN.out); clear HGN g)
                  | (go_at_call_of 28 (Value.string (ByteArray.mk #[37] ++ strOf p)); refine (HPP.out _ HG0.out).mono ?_; rintro e w2 ⟨rfl, g⟩; have HGN := hidden (Grows.of_below HG0.out g); clear HG0; have HG0 := hidden (show Grows w _ from HGN.out); clear HGN g)
                  | (go_at_call 12; refine (HA.out _ HG0.out).mono ?_; rintro e w2 ⟨rfl, g⟩; have HGN := hidden (Grows.of_below HG0.out g); clear HG0; have HG0 := hidden (show Grows w _ from HGN.out); clear HGN g))
                go_ret
                exact ⟨rfl, HG0.out⟩
              · rw [HSF.out rfl] at HSS
                go_wp2_with (first
                  | (go_at_call_of 28 (Value.string (ByteArray.mk #[37])); refine (HPC.out _ HG0.out).mono ?_; rintro e w2 ⟨rfl, g⟩; have HGN := hidden (Grows.of_below HG0.out g); clear HG0; have HG0 := hidden (show Grows w _ from HGN.out); clear HGN g)
                  | (go_at_call_of 28 (Value.string (strOf wl)); refine (HW.out _ HG0.out).mono ?_; rintro e w2 ⟨rfl, g⟩; have HGN := hidden (Grows.of_below HG0.out g); clear HG0; have HG0 := hidden (show Grows w _ from HGN.out); clear HGN g)
                  | (go_at_call_of 28 (Value.string (ByteArray.mk #[37] ++ strOf p)); refine (HPP.out _ HG0.out).mono ?_; rintro e w2 ⟨rfl, g⟩; have HGN := hidden (Grows.of_below HG0.out g); clear HG0; have HG0 := hidden (show Grows w _ from HGN.out); clear HGN g)
                  | (go_at_call 12; refine (HA.out _ HG0.out).mono ?_; rintro e w2 ⟨rfl, g⟩; have HGN := hidden (Grows.of_below HG0.out g); clear HG0; have HG0 := hidden (show Grows w _ from HGN.out); clear HGN g)
                  | (go_at_call 28; refine (HSS.out _ HG0.out).mono ?_; rintro e w2 ⟨rfl, g⟩; have HGN := hidden (Grows.of_below HG0.out g); clear HG0; have HG0 := hidden (show Grows w _ from HGN.out); clear HGN g))
                go_ret
                exact ⟨rfl, HG0.out⟩
end Go.Proofs.YtaiphocnfkkigaaDoor
