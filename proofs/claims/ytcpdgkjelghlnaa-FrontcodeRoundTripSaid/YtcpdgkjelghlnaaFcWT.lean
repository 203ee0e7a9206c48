/-
  The walk of the law FrontcodeRoundTrip: it returns true for all strings between any bytes; nothing that was there is changed.
-/
import Derived.Test.YtcpdgkjelghlnaaFcB
import Derived.Test.YtcpdgkjelghlnaaFc8
namespace Go.Proofs.Ytcpdgkjelghlnaa
open Go.RowKit
set_option linter.unusedVariables false
set_option linter.unusedSimpArgs false

theorem fcEnc_len {l : List Str} (h : l.length ≤ 100) (hs : ∀ s ∈ l, s.length ≤ 100) : (fcEnc l).length ≤ 12000 := by
  have h1 := encK_len (M := 100) hs (by omega) l.length
  have h2 : (100 + 20) * l.length ≤ 120 * 100 := Nat.mul_le_mul_left _ h
  unfold fcEnc
  omega
def LTRel (w : World) (n : Nat) (i : Value) (wr : World) : Prop := ∃ k : Nat, k ≤ n ∧ i = .int .i64 (k : Int) ∧ Grows w wr
set_option maxRecDepth 20000 in
set_option maxHeartbeats 16000000 in
theorem law_roundtrip11 (v : Value) (l : List Str) (A1 A2 : Option Addr) (c1 c2 : Nat) (b1 b2 : List UInt8) (w : World) (hv : IsS w v l) (hl : l.length ≤ 9223372036854775806)
    (hv1 : IsBytes w (.slice A1 b1.length c1) b1) (hv2 : IsBytes w (.slice A2 b2.length c2) b2) (hm1 : b1.length ≤ 140737488351232) (hm2 : b2.length ≤ 140737488351232) :
    Calls Try.prog 6 #[.slice A1 b1.length c1, v, .slice A2 b2.length c2] w fun e w' => e = .returned (.bool true) ∧ Below w.heap.size w w' := by
  have HSM := hidden (small11_any v l w hv hl)
  by_cases hsm : smallB l = true
  rotate_left
  · have hs2 : smallB l = false := by simpa using hsm
    rw [hs2] at HSM
    clear hv hv1 hv2 hsm hs2
    go_enter Try.func6, Try.ntmps6
    go_wp2_with fail
    refine HSM.out.mono ?_
    rintro e w1 ⟨rfl, rfl⟩
    go_wp2_with fail
    refine (awake11_any _).mono ?_
    rintro e w2 ⟨rfl, g2⟩
    go_wp2_with fail
    go_ret
    exact ⟨rfl, g2⟩
  rw [hsm] at HSM
  obtain ⟨hs1, hs2⟩ := small_parts hsm
  by_cases hba : 300 < b1.length
  · have hd1 : decide ((300 : Int) < (b1.length : Int)) = true := by simp; omega
    clear hv hv1 hv2 hsm hs1
    go_enter Try.func6, Try.ntmps6
    go_wp2_with fail
    refine HSM.out.mono ?_
    rintro e w1 ⟨rfl, rfl⟩
    go_wp2_with fail
    refine (awake11_any _).mono ?_
    rintro e w2 ⟨rfl, g2⟩
    go_wp2_with fail
    go_ret
    exact ⟨rfl, g2⟩
  have hd1 : decide ((300 : Int) < (b1.length : Int)) = false := by simp; omega
  by_cases hbb : 300 < b2.length
  · have hd2 : decide ((300 : Int) < (b2.length : Int)) = true := by simp; omega
    clear hv hv1 hv2 hsm hs1
    go_enter Try.func6, Try.ntmps6
    go_wp2_with fail
    refine HSM.out.mono ?_
    rintro e w1 ⟨rfl, rfl⟩
    go_wp2_with fail
    refine (awake11_any _).mono ?_
    rintro e w2 ⟨rfl, g2⟩
    go_wp2_with fail
    go_ret
    exact ⟨rfl, g2⟩
  have hd2 : decide ((300 : Int) < (b2.length : Int)) = false := by simp; omega
  have HV := hidden hv
  have HV1 := hidden hv1
  have HV2 := hidden hv2
  obtain ⟨A, c, rfl⟩ := hv.slice_
  have HEN := hidden (fun W (h : Grows w W) => fencode_any (.slice A l.length c) l W (hv.grow h) (by omega) (fun s h => by have := hs1 s h; omega))
  have HSZ := hidden (fun W (h : Grows w W) => fsize_any (.slice A l.length c) l W (hv.grow h) (by omega) (fun s h => by have := hs1 s h; omega))
  have HDE := hidden (fcDec_enc (p := b1) (r := b2) (l := l) (fun s h => by have := hs1 s h; omega) (by omega))
  have HAE := hidden (fun (i : Nat) (hi : i < l.length) => fcAt_enc (p := b1) (r := b2) (l := l) (fun s h => by have := hs1 s h; omega) (by omega) hi)
  have HEL := hidden (fcEnc_len (l := l) (by omega) hs1)
  generalize fcEnc l = E at *
  have h1l : b1.length ≤ 300 := by omega
  have h2l : b2.length ≤ 300 := by omega
  clear hv hv1 hv2 hs1 hsm hba hbb
  go_enter Try.func6, Try.ntmps6
  go_wp2_with fail
  refine HSM.out.mono ?_
  rintro e w1 ⟨rfl, rfl⟩
  have HN0 := hidden (show w.ownsRow w.heap.size 5 1 (.slice none 0 0) ([] : List UInt8).length (bcells []) from World.ownsRow_nil _ _ _ _)
  have tok1 : True := trivial
  go_wp2_with (first
    | (at_builtin; have _t := tok1; refine wpList_append_bytes (w := w) (wr := w) rfl _ _ 26 rfl 5 Try.underlying26 info_u8 _ [] (by rfl) HN0.out (Below.refl _ _) _ b1 (by rfl) HV1.out (by simp; omega) ?_; intro v3 w3 hown3 hb3; rw [List.nil_append] at hown3; have HO3 := hidden hown3; have HB3 := hidden hb3; clear hown3 hb3 tok1))
  refine (HEN.out w3 HB3.out).mono ?_
  rintro e w2 ⟨v2, rfl, hown2, g2⟩
  have HO4 := hidden (own_growS HO3.out g2)
  have HB4 := hidden (HB3.out.trans (g2.mono HB3.out.size))
  have HE4 := hidden (IsBytes.of_own hown2)
  have hE9 := HEL.out
  have tok2 : True := trivial
  clear hown2 g2
  go_wp2_with (first
    | (at_builtin; have _t := tok2; refine wpList_append_bytes (w := w) (wr := w2) rfl _ _ 26 rfl 5 Try.underlying26 info_u8 _ b1 (by rfl) HO4.out HB4.out _ E (by rfl) HE4.out (by omega) ?_; intro v4 w4 hown4 hb4; have HO5 := hidden hown4; have HB5 := hidden hb4; have HA5 := hidden (HV2.out.grow (show Grows w w4 from hb4)); clear hown4 hb4 tok2)
    | (at_builtin; refine wpList_append_bytes (w := w) (wr := w4) rfl _ _ 26 rfl 5 Try.underlying26 info_u8 _ (b1 ++ E) (by rfl) HO5.out HB5.out _ b2 (by rfl) HA5.out (by rw [List.length_append]; omega) ?_; intro v5 w5 hown5 hb5; generalize hL : b1 ++ E ++ b2 = L at hown5; have HL := hidden hL; clear hL; obtain ⟨A5, c5, hv5, hc5, hu5⟩ := capV_own hown5; subst hv5; have HC6 := hidden hc5; have HU6 := hidden hu5; have HB6 := hidden hb5; clear hown5 hb5 hc5 hu5))
  have HAL := hidden (show L.length = b1.length + E.length + b2.length by rw [← HL.out, List.length_append, List.length_append])
  have HAL2 := hidden (show L.length ≤ 1000000000 by have := HAL.out; omega)
  have HD5 := hidden (fdecode_any A5 c5 L (b1.length : Int) (l.length : Int) w5 HU6.out HC6.out HAL2.out)
  have HDX := hidden (show fcDec L (b1.length : Int) (l.length : Int) = (l, ((b1 ++ E).length : Int), 0) by rw [← HL.out, List.append_assoc]; exact HDE.out)
  rw [HDX.out] at HD5
  have HAT := hidden (fun (i : Nat) (hi : i < l.length) W (h : Grows w5 W) => show Calls Try.prog 19 #[.slice A5 L.length c5, .int .i64 (b1.length : Int), .int .i64 (l.length : Int), .int .i64 (i : Int)] W (fun e w' => e = .returned (.tuple #[.string (strOf l[i]), .int .i64 0]) ∧ Grows W w') from by
    have h1 := fat_any A5 c5 L (b1.length : Int) (l.length : Int) (i : Int) W (HU6.out.grow h) HC6.out HAL2.out
    have h2 : fcAt L (b1.length : Int) (l.length : Int) (i : Int) = (l[i], 0) := by rw [← HL.out, List.append_assoc]; exact HAE.out i hi
    rw [h2] at h1
    exact h1)
  obtain ⟨T, hT⟩ : ∃ T, T = (b1 ++ E).length := ⟨_, rfl⟩
  rw [← hT] at HD5
  rw [List.length_append] at hT
  have hT1 : (L.length : Int) - (b2.length : Int) = (T : Int) := by have := HAL.out; omega
  have hT2 : (T : Int) - (b1.length : Int) = (E.length : Int) := by omega
  have hTl : T ≤ 100000 := by omega
  have hLl : L.length ≤ 100000 := by have := HAL.out; omega
  have hT3 : ((T : Int) != (T : Int)) = false := by simp
  have hE3 : ((E.length : Int) != (E.length : Int)) = false := by simp
  have HT := hidden hT
  clear hT
  refine HD5.out.mono ?_
  rintro e w6 ⟨v6, rfl, g6, hS6⟩
  have HG6 := hidden (show Grows w5 w6 from g6)
  have HGW6 := hidden ((show Grows w w5 from HB6.out).of_below g6)
  have HSS := hidden (same11_any v6 (.slice A l.length c) l l w6 (show IsS w6 v6 l from hS6) (HV.out.grow HGW6.out) hl hl)
  rw [sameS_self] at HSS
  clear g6 hS6
  go_wp2_with fail
  refine HSS.out.mono ?_
  rintro e w7 ⟨rfl, g7⟩
  have HG7 := hidden (HG6.out.of_below g7)
  have HGW7 := hidden (HGW6.out.of_below g7)
  have HSZ7 := hidden (HSZ.out w7 HGW7.out)
  clear g7
  go_wp2_with fail
  refine HSZ7.out.mono ?_
  rintro e w8 ⟨rfl, g8⟩
  have HG8 := hidden (HG7.out.of_below g8)
  have HGW8 := hidden (HGW7.out.of_below g8)
  clear g8
  go_wp2_with fail
  clear hT1 hT2 hT3 hE3
  go_loopw [77] (fun i wr => LTRel w8 l.length i wr) (fun i _ => l.length - (intOf i).toNat)
  case atStart => exact ⟨0, by omega, rfl, Below.refl _ _⟩
  case round =>
    obtain ⟨j, hj, rfl, hb⟩ := hrel
    have HB := hidden hb
    by_cases hlt : j < l.length
    · obtain ⟨b, f, rfl, hcl⟩ := (HV.out.grow (HGW8.out.of_below hb)).at_ hlt
      have HAJ := hidden (HAT.out j hlt wr (HG8.out.of_below hb))
      generalize l[j] = s at *
      have hsq : ((strOf s).toList != (strOf s).toList) = false := by simp
      generalize strOf s = t at *
      clear hb
      go_wp2_with fail
      refine HAJ.out.mono ?_
      rintro e w9 ⟨rfl, g9⟩
      have HB9 := hidden (HB.out.of_below g9)
      clear g9 hcl
      go_wp2_with fail
      first
        | exact ⟨⟨j + 1, by omega, by go_num, HB9.out⟩, by simp [intOf]; omega⟩
        | (go_roundw; (case rel => exact ⟨j + 1, by omega, by go_num, HB9.out⟩); (case measure => simp [intOf]; omega))
    · have HA := hidden (awake11_any wr)
      clear hb
      go_wp2_with fail
      refine HA.out.mono ?_
      rintro e w10 ⟨rfl, g10⟩
      have HG10 := hidden (Grows.of_below (HGW8.out.of_below HB.out) g10)
      clear g10
      go_wp2_with fail
      go_ret
      exact ⟨rfl, HG10.out⟩
end Go.Proofs.Ytcpdgkjelghlnaa
