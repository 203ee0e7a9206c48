/-
  Shaken: what the claims of this seat need of this text. No condition.
-/
import Derived.Test.YtgegjoggiadgbaaProg
import Derived.Test.YtgegjoggiadgbaaM1
import Derived.Test.YtgegjoggiadgbaaM3
import Derived.WalkKit
import Derived.Outline
import Derived.OwnWalk
import Derived.Deep.QuietTactic
import Derived.BigQuiet
namespace Go.Proofs.Ytgegjoggiadgbaa
set_option maxRecDepth 8000
open Go.RowKit
def IsSet (w : World) (s : Value) (n : Nat) (ws : List UInt64) : Prop := ∃ v, s = .agg #[.int .i64 (n : Int), v] ∧ Reads w v (ucells ws) ∧ n ≤ 64 * ws.length ∧ n ≤ 1048576
theorem IsSet.grow {w w' : World} {s : Value} {n : Nat} {ws : List UInt64} (h : IsSet w s n ws) (hb : Grows w w') : IsSet w' s n ws := by
  obtain ⟨v, h1, h2, h3, h4⟩ := h
  exact ⟨v, h1, h2.grow hb, h3, h4⟩
def memI (n : Nat) (ws : List UInt64) (i : Int) : Bool := decide (0 ≤ i) && mem n ws i.toNat
theorem memI_neg {n : Nat} {ws : List UInt64} {i : Int} (h : i < 0) : memI n ws i = false := by unfold memI; simp; omega
theorem memI_nat (n : Nat) (ws : List UInt64) (i : Nat) : memI n ws (i : Int) = mem n ws i := by unfold memI; simp
theorem mem_ge {n : Nat} {ws : List UInt64} {i : Nat} (h : n ≤ i) : mem n ws i = false := by unfold mem; simp; omega
theorem mem_word {n : Nat} {ws : List UInt64} {i : Nat} (h : i < n) (hk : i / 64 < ws.length) : mem n ws i = wbit ws[i / 64] (i % 64) := by
  unfold mem wmem
  rw [List.getElem?_eq_getElem hk]
  simp [h]
theorem wbit_go (w : UInt64) (j : Nat) : (bits .and .u64 ((w.toNat : Int) / 2 ^ j) 1 == 1) = wbit w j := by
  have hw := w.toNat_lt
  have e : ((w.toNat : Int) / 2 ^ j) = ((w.toNat / 2 ^ j : Nat) : Int) := by simp
  have hq : w.toNat / 2 ^ j < 18446744073709551616 := Nat.lt_of_le_of_lt (Nat.div_le_self _ _) hw
  unfold wbit
  rw [Nat.testBit_eq_decide_div_mod_eq, e]
  generalize w.toNat / 2 ^ j = y at *
  rw [and1_u64 _ (by omega) (by omega), show ((y : Int) % 2) = ((y % 2 : Nat) : Int) by omega]
  have h2 : y % 2 = 0 ∨ y % 2 = 1 := by omega
  rcases h2 with h2 | h2 <;> rw [h2] <;> rfl
set_option maxHeartbeats 400000 in
theorem rcontains_any (s : Value) (n : Nat) (ws : List UInt64) (i : Int) (w : World) (hs : IsSet w s n ws) (h63 : -9223372036854775808 ≤ i) (h64 : i ≤ 9223372036854775807) :
    Calls Try.prog 33 #[s, .int .i64 i] w fun e w' => e = .returned (.bool (memI n ws i)) ∧ Grows w w' := by
  obtain ⟨v, rfl, hr, hn, hn2⟩ := hs
  have hG : ∀ o, Grows w (w.alloc o) := fun o => (Below.refl _ _).alloc (Nat.le_refl _) _
  have HG := hidden hG
  obtain ⟨A, c, rfl, hle, hc⟩ := hr
  rw [ucells_length] at hle hc ⊢
  clear hG
  by_cases h0 : i < 0
  · have HM := hidden (memI_neg (n := n) (ws := ws) h0)
    have hd : decide (0 ≤ i) = false := by simp; omega
    clear hc
    go_enter Try.func33, Try.ntmps33
    go_wp2
    go_ret
    exact ⟨retB (by rw [HM.out]), HG.out _⟩
  · obtain ⟨k, rfl⟩ := Int.eq_ofNat_of_zero_le (show 0 ≤ i by omega)
    by_cases hk : k < n
    · have hkw : k / 64 < ws.length := by omega
      have HM := hidden ((memI_nat n ws k).trans (mem_word hk hkw))
      obtain ⟨b, off, rfl, hcell⟩ := hc (by omega)
      have hcl := hcell (k / 64) hkw
      rw [ucells_get hkw] at hcl
      have HW := hidden (wbit_go ws[k / 64] (k % 64))
      have hwb : ws[k / 64].toNat < 18446744073709551616 := ws[k / 64].toNat_lt
      clear hc hcell h0
      generalize ws[k / 64] = x at *
      have hb := (HG.out (.cells #[.int .i64 (n : Int), .slice (some ⟨b, off, none⟩) ws.length c] 30)).cell (World.block_lt_of_cell? w _ hcl)
      rw [hcl] at hb
      have hq : k / 64 < ws.length := hkw
      go_enter Try.func33, Try.ntmps33
      go_wp2
      go_ret
      exact ⟨retB (by rw [HM.out, ← HW.out]), HG.out _⟩
    · have HM := hidden ((memI_nat n ws k).trans (mem_ge (ws := ws) (Nat.le_of_not_lt hk)))
      have hd : decide ((k : Int) < (n : Int)) = false := by simp; omega
      clear hc
      go_enter Try.func33, Try.ntmps33
      go_wp2
      go_ret
      exact ⟨retB (by rw [HM.out]), HG.out _⟩
end Go.Proofs.Ytgegjoggiadgbaa
