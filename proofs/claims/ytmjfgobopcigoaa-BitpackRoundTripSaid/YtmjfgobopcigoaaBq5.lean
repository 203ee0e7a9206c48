/-
  Package bitpack: check, Unpack: for any arguments. Nothing that was there is changed.
-/
import Derived.Test.YtmjfgobopcigoaaBq3
import Derived.Test.YtmjfgobopcigoaaBq4
import Derived.Test.YtmjfgobopcigoaaMk
namespace Go.Proofs.Ytmjfgobopcigoaa
open Go.RowKit
set_option linter.unusedVariables false
set_option linter.unusedSimpArgs false

def unE (b : List UInt8) (n m : Int) : Int :=
  if okB n m = false then 1 else if (b.length : Int) < sizeI n m then 2 else if sizeI n m < (b.length : Int) then 3 else if badB b n.toNat m.toNat then 4 else 0
theorem unE_no {b : List UInt8} {n m : Int} (h : okB n m = false) : unE b n m = 1 := by unfold unE; rw [if_pos h]
theorem unE_nat {b : List UInt8} {N M : Nat} (h : N ≤ 1048576) (h2 : M ≤ 64) : unE b (N : Int) (M : Int) = if b.length < szB N M then 2 else if szB N M < b.length then 3 else if badB b N M then 4 else 0 := by
  unfold unE
  rw [okB_t h h2, sizeI_nat h h2, Int.toNat_natCast, Int.toNat_natCast]
  simp only [Int.ofNat_lt]
  rfl
set_option maxHeartbeats 1000000 in
theorem check_any (A : Option Addr) (c : Nat) (b : List UInt8) (n m : Int) (w : World) (hb : IsBytes w (.slice A b.length c) b) (hl : b.length ≤ 1000000000000) :
    Calls Try.prog 28 #[.slice A b.length c, .int .i64 n, .int .i64 m] w fun e w' => e = .returned (.int .i64 (unE b n m)) ∧ w = w' := by
  have HN := hidden (fun w => validN_any n w)
  have HM := hidden (fun w => validM_any m w)
  cases h1 : okN n
  · have HE := hidden (unE_no (b := b) (n := n) (m := m) (by rw [okB_eq, h1]; rfl))
    rw [h1] at HN
    clear h1
    go_enter Try.func28, Try.ntmps28
    go_wp2_with ((go_at_call 22; refine (HN.out _).mono ?_; rintro e w2 ⟨rfl, rfl⟩))
    go_ret
    exact ⟨retU HE.out.symm, rfl⟩
  rw [h1] at HN
  cases h2 : okM m
  · have HE := hidden (unE_no (b := b) (n := n) (m := m) (by rw [okB_eq, h1, h2]; rfl))
    rw [h2] at HM
    clear h1 h2
    go_enter Try.func28, Try.ntmps28
    go_wp2_with (first | (go_at_call 22; refine (HN.out _).mono ?_; rintro e w2 ⟨rfl, rfl⟩) | (go_at_call 23; refine (HM.out _).mono ?_; rintro e w2 ⟨rfl, rfl⟩))
    go_ret
    exact ⟨retU HE.out.symm, rfl⟩
  rw [h2] at HM
  obtain ⟨⟨a1, a2⟩, a3, a4⟩ := okB_true (show okB n m = true by rw [okB_eq, h1, h2]; rfl)
  clear h1 h2
  obtain ⟨N, rfl⟩ := Int.eq_ofNat_of_zero_le a1
  obtain ⟨M, rfl⟩ := Int.eq_ofNat_of_zero_le a3
  have hN2 : N ≤ 1048576 := by omega
  have hM2 : M ≤ 64 := by omega
  have hsz := szB_le hN2 hM2
  have HS := hidden (fun w => size_any (N : Int) (M : Int) w)
  rw [sizeI_nat hN2 hM2] at HS
  have HE := hidden (unE_nat (b := b) hN2 hM2)
  obtain ⟨S, hS⟩ : ∃ S, S = szB N M := ⟨_, rfl⟩
  rw [← hS] at HS HE hsz
  clear a1 a2 a3 a4
  by_cases hlt : b.length < S
  · have HE2 := hidden (show unE b (N : Int) (M : Int) = 2 by rw [HE.out, if_pos hlt])
    have d1 : decide ((b.length : Int) < (S : Int)) = true := by simp; omega
    clear hS
    go_enter Try.func28, Try.ntmps28
    go_wp2_with (first | (go_at_call 22; refine (HN.out _).mono ?_; rintro e w2 ⟨rfl, rfl⟩) | (go_at_call 23; refine (HM.out _).mono ?_; rintro e w2 ⟨rfl, rfl⟩) | (go_at_call 11; refine (HS.out _).mono ?_; rintro e w2 ⟨rfl, rfl⟩))
    go_ret
    exact ⟨retU HE2.out.symm, rfl⟩
  by_cases hgt : S < b.length
  · have HE2 := hidden (show unE b (N : Int) (M : Int) = 3 by rw [HE.out, if_neg hlt, if_pos hgt])
    have d1 : decide ((b.length : Int) < (S : Int)) = false := by simp; omega
    have d2 : decide ((S : Int) < (b.length : Int)) = true := by simp; omega
    clear hS
    go_enter Try.func28, Try.ntmps28
    go_wp2_with (first | (go_at_call 22; refine (HN.out _).mono ?_; rintro e w2 ⟨rfl, rfl⟩) | (go_at_call 23; refine (HM.out _).mono ?_; rintro e w2 ⟨rfl, rfl⟩) | (go_at_call 11; refine (HS.out _).mono ?_; rintro e w2 ⟨rfl, rfl⟩))
    go_ret
    exact ⟨retU HE2.out.symm, rfl⟩
  have hlen : b.length = S := by omega
  rw [if_neg hlt, if_neg hgt] at HE
  obtain ⟨p, hp⟩ : ∃ p, p = N * M := ⟨_, rfl⟩
  have HIM := hidden (show (N : Int) * (M : Int) = (p : Int) by rw [hp]; exact (Int.natCast_mul N M).symm)
  have hp9 : p ≤ 67108864 := by rw [hp]; exact Nat.le_trans (Nat.mul_le_mul hN2 hM2) (by decide)
  obtain ⟨u, hu⟩ : ∃ u, u = p % 8 := ⟨_, rfl⟩
  have HPU := hidden (show (p : Int) % 8 = (u : Int) by omega)
  have hp0 : 0 ≤ (N : Int) * (M : Int) := by rw [HIM.out]; omega
  have hp1 : (N : Int) * (M : Int) ≤ 67108864 := by rw [HIM.out]; omega
  by_cases hu0 : u = 0
  · have HE2 := hidden (show unE b (N : Int) (M : Int) = 0 by rw [HE.out, badB_zero (by rw [hlen, hS]) (by rw [← hp, ← hu]; exact hu0)]; rfl)
    subst hu0
    clear hS hp hu hp9 hlt hgt
    go_enter Try.func28, Try.ntmps28
    go_upto_region 9 with (first | (go_at_call 22; refine (HN.out _).mono ?_; rintro e w2 ⟨rfl, rfl⟩) | (go_at_call 23; refine (HM.out _).mono ?_; rintro e w2 ⟨rfl, rfl⟩) | (go_at_call 11; refine (HS.out _).mono ?_; rintro e w2 ⟨rfl, rfl⟩))
    rw [HIM.out, HPU.out]
    go_wp2_with fail
    go_ret
    exact ⟨retU HE2.out.symm, rfl⟩
  · have hS1 : S = p / 8 + 1 := by rw [hS, hp]; unfold szB; rw [← hp]; omega
    have hbad : badB b N M = ((b.getD (S - 1) 0).toNat / 2 ^ u != 0) := by unfold badB; rw [← hp, ← hu, show p / 8 = S - 1 by omega]
    rw [hbad] at HE
    obtain ⟨bk, f, rfl, hcell⟩ := byte_at hb (show S - 1 < b.length by omega)
    have hx : (b.getD (S - 1) 0).toNat < 256 := UInt8.toNat_lt _
    have hq0 : ((u : Int) != 0) = true := by simp; omega
    have hu8 : u < 8 := by omega
    have HLT := hidden (show (b.length : Int) < (S : Int) → False by omega)
    have HF := hidden (And.intro hcell (And.intro hx (And.intro hq0 hu8)))
    have hS0 : 1 ≤ S := by omega
    generalize (b.getD (S - 1) 0).toNat = x at *
    clear hS hp hu hp9 hbad hS1 hcell hx hq0 hu8 hlt hgt
    go_enter Try.func28, Try.ntmps28
    go_upto_region 9 with (first | (go_at_call 22; refine (HN.out _).mono ?_; rintro e w2 ⟨rfl, rfl⟩) | (go_at_call 23; refine (HM.out _).mono ?_; rintro e w2 ⟨rfl, rfl⟩) | (go_at_call 11; refine (HS.out _).mono ?_; rintro e w2 ⟨rfl, rfl⟩))
    rw [HIM.out, HPU.out]
    obtain ⟨hcell, hx, hq0, hu8⟩ := HF.out
    clear hp0 hp1
    by_cases hy : x / 2 ^ u = 0
    · have HE2 := hidden (show unE b (N : Int) (M : Int) = 0 by rw [HE.out, hy]; rfl)
      have hyi : ((x : Int) / 2 ^ u != 0) = false := by
        have e : ((x : Int) / 2 ^ u) = ((x / 2 ^ u : Nat) : Int) := by simp
        rw [e, hy]; rfl
      have hyj : (x : Int) / 2 ^ u = 0 := by
        have e : ((x : Int) / 2 ^ u) = ((x / 2 ^ u : Nat) : Int) := by simp
        rw [e, hy]; rfl
      clear hy
      go_wp2_with fail
      go_ret
      exact ⟨retU HE2.out.symm, rfl⟩
    · have HE2 := hidden (show unE b (N : Int) (M : Int) = 4 by rw [HE.out, if_pos (by simpa using hy)])
      have hyi : ((x : Int) / 2 ^ u != 0) = true := by
        have e : ((x : Int) / 2 ^ u) = ((x / 2 ^ u : Nat) : Int) := by simp
        rw [e]; simp only [bne_iff_ne, ne_eq]; omega
      clear hy
      go_wp2_with fail
      go_ret
      exact ⟨retU HE2.out.symm, rfl⟩
end Go.Proofs.Ytmjfgobopcigoaa
