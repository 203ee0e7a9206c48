/-
  The small functions of package bitset on words, and the two of math/bits that they call: for every word; nothing that was there is changed. TrailingZeros64 reads its table as the world has it ('Tab').
-/
import Derived.Test.YtaegolkoinjmoaaDoorPopNum
namespace Go.Proofs.YtaegolkoinjmoaaDoor
open Go.RowKit

theorem lowBits_any (c : Nat) (w : World) (_hc : c ≤ 9223372036854775807) :
    Calls Tryd.prog 53 #[.int .i64 (c : Int)] w fun e w' => e = .returned (.int .u64 ((lowW c).toNat : Int)) ∧ w = w' := by
  have H := hidden (go_low c)
  go_enter Tryd.func53, Tryd.ntmps53
  go_wp2
  go_ret
  exact ⟨retU H.out, rfl⟩
theorem bit_any (i : Nat) (w : World) (_hc : i ≤ 9223372036854775807) :
    Calls Tryd.prog 51 #[.int .i64 (i : Int)] w fun e w' => e = .returned (.int .u64 ((bitW i).toNat : Int)) ∧ w = w' := by
  have H := hidden (go_bit i)
  go_enter Tryd.func51, Tryd.ntmps51
  go_wp2
  go_ret
  exact ⟨retU H.out, rfl⟩
theorem wc_go (n : Nat) : ((n : Int) + 64 - 1) / 64 = ((nw n : Nat) : Int) := by unfold nw; omega
theorem wordCount_any (n : Nat) (w : World) (hc : n ≤ 1048576) :
    Calls Tryd.prog 46 #[.int .i64 (n : Int)] w fun e w' => e = .returned (.int .i64 ((nw n : Nat) : Int)) ∧ w = w' := by
  have H := hidden (wc_go n)
  go_enter Tryd.func46, Tryd.ntmps46
  go_wp2
  go_ret
  exact ⟨retU H.out, rfl⟩

/-! ### OnesCount64 -/
def gS1 (c : Int) : Int := IntKind.u64.wrap (bits .and .u64 (c / 2) 6148914691236517205 + bits .and .u64 c 6148914691236517205)
def gS2 (y : Int) : Int := IntKind.u64.wrap (bits .and .u64 (y / 4) 3689348814741910323 + bits .and .u64 y 3689348814741910323)
def gS3 (y : Int) : Int := bits .and .u64 (IntKind.u64.wrap (y / 16 + y)) 1085102592571150095
def gZ (y : Int) : Int := bits .and .i64 (wrap64 (IntKind.u64.wrap (IntKind.u64.wrap (IntKind.u64.wrap (y + y / 256) + IntKind.u64.wrap (y + y / 256) / 65536) +
            IntKind.u64.wrap (IntKind.u64.wrap (y + y / 256) + IntKind.u64.wrap (y + y / 256) / 65536) / 4294967296))) 127
theorem gS1_eq {x : Nat} (h : x < 18446744073709551616) : gS1 (x : Int) = (p1 8 x : Int) ∧ p1 8 x < 18446744073709551616 := by
  have e : ((x : Int) / 2) = ((x / 2 : Nat) : Int) := by omega
  have h1 : x / 2 &&& msk 85 8 ≤ 6148914691236517205 := Nat.and_le_right
  have h2 : x &&& msk 85 8 ≤ 6148914691236517205 := Nat.and_le_right
  have hm : (6148914691236517205 : Int) = ((msk 85 8 : Nat) : Int) := by decide
  unfold gS1 p1
  rw [e, hm, bits_and_u64_nat _ _ (by omega) (by decide), bits_and_u64_nat _ _ h (by decide), IntKind.wrap_u64]
  omega
theorem gS2_eq {x : Nat} (h : x < 18446744073709551616) : gS2 (x : Int) = (p2 8 x : Int) ∧ p2 8 x ≤ 7378697629483820646 := by
  have e : ((x : Int) / 4) = ((x / 4 : Nat) : Int) := by omega
  have h1 : x / 4 &&& msk 51 8 ≤ 3689348814741910323 := Nat.and_le_right
  have h2 : x &&& msk 51 8 ≤ 3689348814741910323 := Nat.and_le_right
  have hm : (3689348814741910323 : Int) = ((msk 51 8 : Nat) : Int) := by decide
  unfold gS2 p2
  rw [e, hm, bits_and_u64_nat _ _ (by omega) (by decide), bits_and_u64_nat _ _ h (by decide), IntKind.wrap_u64]
  omega
theorem gS3_eq {x : Nat} (h : x ≤ 7378697629483820646) : gS3 (x : Int) = (p3 8 x : Int) := by
  have e : IntKind.u64.wrap ((x : Int) / 16 + (x : Int)) = ((x / 16 + x : Nat) : Int) := by rw [IntKind.wrap_u64]; omega
  have hm : (1085102592571150095 : Int) = ((msk 15 8 : Nat) : Int) := by decide
  unfold gS3 p3
  rw [e, hm, bits_and_u64_nat _ _ (by omega) (by decide)]
theorem and127 {z : Nat} (h : z < 9223372036854775808) : bits .and .i64 (z : Int) 127 = ((z % 128 : Nat) : Int) := by
  show IntKind.i64.wrap ((BitVec.ofInt 64 (z : Int) &&& BitVec.ofInt 64 127).toNat : Int) = _
  have e : (127 : Int) = ((127 : Nat) : Int) := rfl
  rw [BitVec.toNat_and, ofInt_u64 z (by omega), e, ofInt_u64 127 (by decide), show (127 : Nat) = 2 ^ 7 - 1 by decide, Nat.and_two_pow_sub_one_eq_mod, IntKind.wrap_i64]
  omega
theorem gZ_eq {y : Nat} (z1 z2 : Nat) (h1 : z1 = y + y / 256) (h2 : z2 = z1 + z1 / 65536) (_k2 : y < 4611686018427387904) (k3 : z1 < 4611686018427387904) (k4 : z2 < 4611686018427387904) :
    gZ (y : Int) = (((z2 + z2 / 4294967296) % 128 : Nat) : Int) := by
  unfold gZ
  have e1 : IntKind.u64.wrap ((y : Int) + (y : Int) / 256) = (z1 : Int) := by rw [IntKind.wrap_u64]; omega
  rw [e1]
  have e2 : IntKind.u64.wrap ((z1 : Int) + (z1 : Int) / 65536) = (z2 : Int) := by clear e1 h1; rw [IntKind.wrap_u64]; omega
  rw [e2]
  have e3 : wrap64 (IntKind.u64.wrap ((z2 : Int) + (z2 : Int) / 4294967296)) = ((z2 + z2 / 4294967296 : Nat) : Int) := by clear e1 e2 h1 h2; rw [IntKind.wrap_u64]; simp only [wrap64]; omega
  rw [e3, and127 (by clear e1 e2 e3 h1 h2; omega)]
theorem gPop {x : Nat} (h : x < 18446744073709551616) : gZ (gS3 (gS2 (gS1 (x : Int)))) = (cnt (fun j => x.testBit j) 64 : Int) := by
  obtain ⟨h1, h2⟩ := gS1_eq h
  obtain ⟨h3, h4⟩ := gS2_eq h2
  rw [h1, h3, gS3_eq h4]
  clear h1 h2 h3 h4
  obtain ⟨y, hy⟩ : ∃ y, y = p3 8 (p2 8 (p1 8 x)) := ⟨_, rfl⟩
  rw [← hy]
  obtain ⟨k1, k2, k3, k4⟩ := pop_eq h y _ _ hy rfl rfl
  rw [gZ_eq _ _ rfl rfl k2 k3 k4, k1]
theorem onesCount_any (x : UInt64) (w : World) :
    Calls Tryd.prog 52 #[.int .u64 (x.toNat : Int)] w fun e w' => e = .returned (.int .i64 (cnt (wbit x) 64 : Int)) ∧ w = w' := by
  have H := hidden (gPop x.toNat_lt)
  have hx : x.toNat < 18446744073709551616 := x.toNat_lt
  show Calls Tryd.prog 52 #[.int .u64 (x.toNat : Int)] w fun e w' => e = .returned (.int .i64 (cnt (fun j => x.toNat.testBit j) 64 : Int)) ∧ w = w'
  generalize x.toNat = c at *
  go_enter Tryd.func52, Tryd.ntmps52
  go_wp2
  go_ret
  exact ⟨retU H.out, rfl⟩

/-! ### TrailingZeros64 -/
/-- the table of math/bits where the program keeps it -/
def Tab (w : World) : Prop := TabAt 0 Lib.deBruijn64tab w
theorem Tab.grow {w w' : World} (h : Tab w) (hb : Grows w w') : Tab w' := fun j hj => by
  have h1 := h j hj
  exact (hb.cell (World.block_lt_of_cell? w _ h1)).trans h1
theorem tz_zero (w : World) :
    Calls Tryd.prog 70 #[.int .u64 0] w fun e w' => e = .returned (.int .i64 64) ∧ w = w' := by
  go_enter Tryd.func70, Tryd.ntmps70
  go_wp2
  go_ret
  exact ⟨rfl, rfl⟩
set_option maxHeartbeats 1000000 in
theorem tz_core (x k idx : Nat) (w : World) (hx0 : ((x : Int) == 0) = false)
    (key : IntKind.u64.wrap (bits BinOp.and IntKind.u64 (x : Int) (IntKind.u64.wrap (-(x : Int))) * 285870213051353865) / 288230376151711744 = (idx : Int))
    (hi : idx < 64) (hk : k < 64) (hcell : w.cell? ⟨0, idx, none⟩ = some (.int .u8 k)) :
    Calls Tryd.prog 70 #[.int .u64 (x : Int)] w fun e w' => e = .returned (.int .i64 k) ∧ w = w' := by
  go_enter Tryd.func70, Tryd.ntmps70
  go_wp2_with (simp only [key])
  go_ret
  exact ⟨rfl, rfl⟩
theorem lowest_ne {x : UInt64} (h : x.toNat ≠ 0) (w : World) (hT : Tab w) : ∃ idx : Nat, IntKind.u64.wrap (bits BinOp.and IntKind.u64 (x.toNat : Int) (IntKind.u64.wrap (-(x.toNat : Int))) * 285870213051353865) / 288230376151711744 = (idx : Int) ∧
    idx < 64 ∧ lowest x < 64 ∧ w.cell? ⟨0, idx, none⟩ = some (.int .u8 (lowest x : Nat)) := by
  obtain ⟨hlow, hk⟩ := Lib.lowest_bit 64 x.toNat h x.toNat_lt
  obtain ⟨hi, htab⟩ := Lib.deBruijn64_at _ hk
  have hcell := hT _ hi
  rw [htab] at hcell
  exact ⟨_, tz64_key x.toNat _ x.toNat_lt h hlow, hi, hk, hcell⟩
theorem lowest_zero : lowest 0 = 64 := rfl
theorem tz_any (x : UInt64) (w : World) (hT : Tab w) :
    Calls Tryd.prog 70 #[.int .u64 (x.toNat : Int)] w fun e w' => e = .returned (.int .i64 (lowest x : Int)) ∧ w = w' := by
  by_cases h0 : x = 0
  · subst h0
    exact (tz_zero w).mono fun e w' h => ⟨by rw [lowest_zero]; exact h.1, h.2⟩
  · have hx0 : x.toNat ≠ 0 := fun e => h0 (UInt64.toNat_inj.1 e)
    obtain ⟨idx, h1, h2, h3, h4⟩ := lowest_ne hx0 w hT
    have hd : ((x.toNat : Int) == 0) = false := by simp; omega
    generalize lowest x = k at *
    generalize x.toNat = c at *
    exact tz_core c k idx w hd h1 h2 h3 h4
end Go.Proofs.YtaegolkoinjmoaaDoor
