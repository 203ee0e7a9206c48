/-
  Shaken: what the claims of this seat need of this text. No condition.
-/
import Derived.Test.YthmipnokimlbdaaGreatM5
import Derived.Test.YthmipnokimlbdaaGreatM3
import Derived.Deep.Cut
namespace Go.Proofs.YthmipnokimlbdaaGreat
set_option maxRecDepth 8000
open Go.RowKit
set_option linter.unusedVariables false
set_option linter.unusedSimpArgs false
theorem u64_or2 {x y : Nat} (hx : x < 18446744073709551616) (hy : y < 18446744073709551616) : bits .or .u64 (x : Int) (y : Int) = ((x ||| y : Nat) : Int) := u64_or_nat x y hx hy
def atN (b : List UInt8) (p u k : Nat) : Nat := natOf (fun t => bbit b (p + t)) (min (8 * k - u) 64)
theorem atN_lt (b : List UInt8) (p u k : Nat) : atN b p u k < 18446744073709551616 :=
  Nat.lt_of_lt_of_le (natOf_lt _ _) (Nat.le_trans (Nat.pow_le_pow_right (n := 2) (by decide) (show min (8 * k - u) 64 ≤ 64 by omega)) (by decide))
theorem atN_one {b : List UInt8} {p s u : Nat} (hs : s = p / 8) (hu : u = p % 8) : (b.getD s 0).toNat / 2 ^ u = atN b p u 1 := by
  unfold atN
  rw [show min (8 * 1 - u) 64 = 8 - u by omega]
  refine natOf_div (UInt8.toNat_lt _) (by omega) fun t ht => ?_
  unfold bbit
  rw [show (p + t) / 8 = s by omega, show (p + t) % 8 = u + t by omega]
theorem atN_step {b : List UInt8} {p s u k e : Nat} (hs : s = p / 8) (hu : u = p % 8) (hk : 1 ≤ k) (he : e + u = 8 * k) (he2 : e < 64) :
    bits .or .u64 ((atN b p u k : Nat) : Int) (IntKind.u64.wrap (((b.getD (s + k) 0).toNat : Int) * 2 ^ e)) = ((atN b p u (k + 1) : Nat) : Int) := by
  have hx : (b.getD (s + k) 0).toNat < 256 := UInt8.toNat_lt _
  have h := or_byte (f := fun t => bbit b (p + t)) (e := e) (x := (b.getD (s + k) 0).toNat) he2 hx (fun t ht => by
    show _ = bbit b (p + (e + t))
    unfold bbit
    rw [show (p + (e + t)) / 8 = s + k by omega, show (p + (e + t)) % 8 = t by omega])
  have e1 : atN b p u k = natOf (fun t => bbit b (p + t)) e := by unfold atN; rw [show min (8 * k - u) 64 = e by omega]
  have e2 : atN b p u (k + 1) = natOf (fun t => bbit b (p + t)) (min (e + 8) 64) := by unfold atN; rw [show min (8 * (k + 1) - u) 64 = min (e + 8) 64 by omega]
  have hlt := atN_lt b p u k
  rw [e2, ← h, e1] at *
  generalize (b.getD (s + k) 0).toNat = x at *
  generalize natOf (fun t => bbit b (p + t)) e = y at *
  have e3 : (x : Int) * 2 ^ e = ((x * 2 ^ e : Nat) : Int) := by simp
  have e4 : IntKind.u64.wrap ((x * 2 ^ e : Nat) : Int) = ((x * 2 ^ e % 2 ^ 64 : Nat) : Int) := by
    rw [IntKind.wrap_u64]
    have e64 : (2 : Nat) ^ 64 = 18446744073709551616 := by decide
    rw [e64]
    omega
  rw [e3, e4]
  exact u64_or2 hlt (Nat.mod_lt _ (by decide))
theorem atN_end {b : List UInt8} {p u k m i : Nat} (hp : p = i * m) (hm : m ≤ 64) (hk : u + m ≤ 8 * k) : atN b p u k % 2 ^ m = numB b m i := by
  subst hp
  unfold atN
  rw [natOf_mod _ (show m ≤ min (8 * k - u) 64 by omega)]
  rfl
def AtRel (w : World) (b : List UInt8) (p u K : Nat) (n k : Value) (wr : World) : Prop := ∃ j : Nat, 1 ≤ j ∧ j ≤ K ∧ k = .int .i64 (j : Int) ∧ n = .int .u64 ((atN b p u j : Nat) : Int) ∧ w = wr
set_option maxHeartbeats 1000000 in
theorem at_any (A : Option Addr) (c : Nat) (b : List UInt8) (i m : Int) (w : World) (hb : IsBytes w (.slice A b.length c) b) (hl : b.length ≤ 8388608) :
    Calls Tryz.prog 153 #[.slice A b.length c, .int .i64 i, .int .i64 m] w fun e w' => e = .returned (.int .u64 ((atB b i m : Nat) : Int)) ∧ w = w' := by
  have HM := hidden (fun w => validM_any m w)
  cases h1 : okM m
  · have HE := hidden (show atB b i m = 0 by unfold okM at h1; unfold atB; rw [if_neg (fun h => by simp at h1; omega)])
    rw [h1] at HM
    clear h1
    go_enter Tryz.func153, Tryz.ntmps153
    go_wp2_with ((go_at_call 191; refine (HM.out _).mono ?_; rintro e w2 ⟨rfl, rfl⟩))
    go_ret
    exact ⟨retU (by rw [HE.out]; rfl), rfl⟩
  rw [h1] at HM
  have hm : 0 ≤ m ∧ m ≤ 64 := by unfold okM at h1; simp at h1; omega
  clear h1
  obtain ⟨M, rfl⟩ := Int.eq_ofNat_of_zero_le hm.1
  by_cases h0 : M = 0
  · subst h0
    have HE := hidden (show atB b i ((0 : Nat) : Int) = 0 by unfold atB; rw [if_neg (by omega)])
    go_enter Tryz.func153, Tryz.ntmps153
    go_wp2_with ((go_at_call 191; refine (HM.out _).mono ?_; rintro e w2 ⟨rfl, rfl⟩))
    go_ret
    exact ⟨retU (by rw [HE.out]; rfl), rfl⟩
  have d0 : ((M : Int) == 0) = false := by simp; omega
  by_cases h3 : i < 0
  · have HE := hidden (show atB b i (M : Int) = 0 by unfold atB; rw [if_neg (by omega)])
    have d3 : decide (i < 0) = true := by simpa using h3
    go_enter Tryz.func153, Tryz.ntmps153
    go_wp2_with ((go_at_call 191; refine (HM.out _).mono ?_; rintro e w2 ⟨rfl, rfl⟩))
    go_ret
    exact ⟨retU (by rw [HE.out]; rfl), rfl⟩
  have d3 : decide (i < 0) = false := by simpa using h3
  obtain ⟨I, rfl⟩ := Int.eq_ofNat_of_zero_le (show 0 ≤ i by omega)
  have hM1 : 1 ≤ M := by omega
  have hM : (M : Int) ≠ 0 := by omega
  have hd8 : (8 * (b.length : Int)).tdiv (M : Int) = ((8 * b.length / M : Nat) : Int) := by
    have : (8 * (b.length : Int)) = ((8 * b.length : Nat) : Int) := by omega
    rw [this]
    rfl
  have hd9 : (8 * (b.length : Int)) / (M : Int) = ((8 * b.length / M : Nat) : Int) := by
    have : (8 * (b.length : Int)) = ((8 * b.length : Nat) : Int) := by omega
    rw [this]
    exact (Int.natCast_ediv _ _).symm
  by_cases h4 : I < 8 * b.length / M
  · have HE := hidden (show atB b (I : Int) (M : Int) = numB b M I by
      unfold atB
      rw [if_pos ⟨⟨by omega, by omega⟩, by omega, by rw [hd9]; omega⟩, Int.toNat_natCast, Int.toNat_natCast])
    have hroom : (I + 1) * M ≤ 8 * b.length := (Nat.le_div_iff_mul_le (by omega)).1 h4
    obtain ⟨p, hp⟩ : ∃ p, p = I * M := ⟨_, rfl⟩
    rw [Nat.succ_mul, ← hp] at hroom
    obtain ⟨s, hs⟩ : ∃ s, s = p / 8 := ⟨_, rfl⟩
    obtain ⟨u, hu⟩ : ∃ u, u = p % 8 := ⟨_, rfl⟩
    obtain ⟨K, hK⟩ : ∃ K, K = (u + M + 7) / 8 := ⟨_, rfl⟩
    have HIM := hidden (show (I : Int) * (M : Int) = (p : Int) by rw [hp]; exact (Int.natCast_mul I M).symm)
    have HP := hidden hp
    have HPS := hidden (show (p : Int) / 8 = (s : Int) by omega)
    have HPU := hidden (show (p : Int) % 8 = (u : Int) by omega)
    have hK1 : 1 ≤ K := by omega
    have hsK : s + K ≤ b.length := by omega
    have hu8 : u < 8 := by omega
    have hs0 : s < b.length := by omega
    have hK9 : K ≤ 9 := by omega
    have HS := hidden hs
    have HU := hidden hu
    have HK := hidden hK
    have HB := hidden hb
    have hp9 : p ≤ 67108864 := by omega
    have hpI : 0 ≤ (I : Int) * (M : Int) ∧ (I : Int) * (M : Int) ≤ 67108864 := by rw [HIM.out]; omega
    obtain ⟨hp0, hp1⟩ := hpI
    have d5 : decide (((8 * b.length / M : Nat) : Int) ≤ (I : Int)) = false := by simp only [decide_eq_false_iff_not]; omega
    have d6 : ¬ (((8 * b.length / M : Nat) : Int) ≤ (I : Int)) := by omega
    have hQ : 8 * b.length / M ≤ 67108864 := Nat.le_trans (Nat.div_le_self _ _) (by omega)
    have HX0 := hidden (atN_one (b := b) hs hu)
    obtain ⟨bk, f, rfl, hcell⟩ := byte_at hb hs0
    have hx0 : (b.getD s 0).toNat < 256 := UInt8.toNat_lt _
    clear hd9 hp hs hu hK hb h4
    generalize 8 * b.length / M = Q at *
    generalize (b.getD s 0).toNat = x at *
    have hw : wrap64 (Q : Int) = (Q : Int) := by unfold wrap64; omega
    have HF := hidden (And.intro hroom (And.intro hK1 (And.intro hsK (And.intro hu8 (And.intro hs0 (And.intro hK9 (And.intro hp9 (And.intro hp0 (And.intro hp1 (And.intro hcell hx0))))))))))
    clear hroom hK1 hsK hu8 hs0 hK9 hp9 hp0 hp1 hcell hx0
    go_enter Tryz.func153, Tryz.ntmps153
    go_upto_region 3 with ((go_at_call 191; refine (HM.out _).mono ?_; rintro e w2 ⟨rfl, rfl⟩))
    have hp0 := HF.out.2.2.2.2.2.2.2.1
    have hp1 := HF.out.2.2.2.2.2.2.2.2.1
    go_upto_region 4 with fail
    have d7 : decide (Q ≤ I) = false := by simp only [decide_eq_false_iff_not]; omega
    rw [HIM.out, HPS.out, HPU.out]
    try rw [d7]
    clear d7
    have hM64 : M ≤ 64 := by omega
    clear hp0 hp1 d5 d6 hw hQ hd8 d3 d0 hm
    obtain ⟨hroom, hK1, hsK, hu8, hs0, hK9, hp9, _, _, hcell, hx0⟩ := HF.out
    clear hroom hp9
    go_wp2_with fail
    go_loopw [9, 10] (fun n k wr => AtRel w b p u K n k wr) (fun _ k _ => K - (intOf k).toNat)
    case atStart => exact ⟨1, by omega, hK1, rfl, by first | (rw [← HX0.out]; simp; done) | (rw [← HX0.out]; rfl), rfl⟩
    case round =>
      obtain ⟨k, hk1, hkK, rfl, rfl, rfl⟩ := hrel
      have HBF := hidden (fun w => bytesFor_any (u + M) w (by omega))
      rw [← HK.out] at HBF
      have hum : ((u + M : Nat) : Int) = (u : Int) + (M : Int) := by omega
      rw [hum] at HBF
      clear hum
      by_cases hlt : k < K
      · obtain ⟨e, he⟩ : ∃ e, e + u = 8 * k := ⟨8 * k - u, by omega⟩
        have he2 : e < 64 := by have := HK.out; omega
        obtain ⟨bk2, f2, h5, hcell2⟩ := byte_at HB.out (show s + k < b.length by omega)
        injection h5 with h5
        injection h5 with h6 h7
        subst h6 h7
        have HST := hidden (atN_step (b := b) HS.out HU.out hk1 he he2)
        rw [show e = 8 * k - u by omega] at HST
        have hx2 : (b.getD (s + k) 0).toNat < 256 := UInt8.toNat_lt _
        have hyl := atN_lt b p u k
        have hsk : ((s + k : Nat) : Int) = (s : Int) + (k : Int) := by omega
        generalize (b.getD (s + k) 0).toNat = z at *
        generalize atN b p u k = y at *
        go_wp2_with ((go_at_call 194; refine (HBF.out _).mono ?_; rintro e w2 ⟨rfl, rfl⟩))
        rw [HST.out]
        exact ⟨⟨k + 1, by omega, by omega, by go_num, rfl, rfl⟩, by simp [intOf]; omega⟩
      · have hke : k = K := by omega
        subst hke
        have HLO := hidden (fun w => lowBits_any M w hM64)
        have HEN := hidden (atN_end (b := b) (p := p) (u := u) (k := k) HP.out hM64 (by have := HK.out; omega))
        have HAL := hidden (and_low (x := atN b p u k) (atN_lt b p u k) hM64)
        rw [HEN.out] at HAL
        generalize atN b p u k = y at *
        go_wp2_with (first | (go_at_call 194; refine (HBF.out _).mono ?_; rintro e w2 ⟨rfl, rfl⟩) | (go_at_call 193; refine (HLO.out _).mono ?_; rintro e w2 ⟨rfl, rfl⟩))
        go_ret
        exact ⟨retU (by rw [HAL.out, HE.out]), rfl⟩
  · have HE := hidden (show atB b (I : Int) (M : Int) = 0 by
      unfold atB
      rw [if_neg (fun h => h4 (by have := h.2.2; rw [hd9] at this; omega))])
    have d6 : ((8 * b.length / M : Nat) : Int) ≤ (I : Int) := by omega
    have d7 : decide (((8 * b.length / M : Nat) : Int) ≤ (I : Int)) = true := by simpa using d6
    have hQ : 8 * b.length / M ≤ 67108864 := Nat.le_trans (Nat.div_le_self _ _) (by omega)
    generalize 8 * b.length / M = Q at *
    have hw : wrap64 (Q : Int) = (Q : Int) := by unfold wrap64; omega
    go_enter Tryz.func153, Tryz.ntmps153
    go_wp2_with ((go_at_call 191; refine (HM.out _).mono ?_; rintro e w2 ⟨rfl, rfl⟩))
    go_ret
    exact ⟨retU (by rw [HE.out]; rfl), rfl⟩
end Go.Proofs.YthmipnokimlbdaaGreat
