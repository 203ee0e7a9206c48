/-
  The reference's Contains says whether an integer is in a set: for every set whose words reach N; nothing that was there is changed.
-/
import Derived.Test.YtgmjoghgmcjebaaProg
import Derived.Test.YtgmjoghgmcjebaaM1
import Derived.Test.YtgmjoghgmcjebaaM4
import Derived.WalkKit
import Derived.Outline
import Derived.OwnWalk
import Derived.Deep.QuietTactic
import Derived.BigQuiet
namespace Go.Proofs.Ytgmjoghgmcjebaa
open Go.RowKit

/-- s is the pair of n and of a slice that reads as ws -/
def IsSet (w : World) (s : Value) (n : Nat) (ws : List UInt64) : Prop := ∃ v, s = .agg #[.int .i64 (n : Int), v] ∧ Reads w v (ucells ws) ∧ n ≤ 64 * ws.length ∧ n ≤ 1048576
theorem IsSet.grow {w w' : World} {s : Value} {n : Nat} {ws : List UInt64} (h : IsSet w s n ws) (hb : Grows w w') : IsSet w' s n ws := by
  obtain ⟨v, h1, h2, h3, h4⟩ := h
  exact ⟨v, h1, h2.grow hb, h3, h4⟩
def memI (n : Nat) (ws : List UInt64) (i : Int) : Bool := decide (0 ≤ i) && mem n ws i.toNat
theorem memI_neg {n : Nat} {ws : List UInt64} {i : Int} (h : i < 0) : memI n ws i = false := by unfold memI; simp; omega
theorem memI_nat (n : Nat) (ws : List UInt64) (i : Nat) : memI n ws (i : Int) = mem n ws i := by unfold memI; simp
theorem mem_ge {n : Nat} {ws : List UInt64} {i : Nat} (h : n ≤ i) : mem n ws i = false := by unfold mem; simp; omega
theorem mem_word {n : Nat} {ws : List UInt64} {i : Nat} (h : i < n) (hk : i / 64 < ws.length) : mem n ws i = wbit ws[i / 64] (i % 64) := by
  unfold mem wmem
  rw [List.getElem?_eq_getElem hk]
  simp [h]
theorem wbit_go (w : UInt64) (j : Nat) : (bits .and .u64 ((w.toNat : Int) / 2 ^ j) 1 == 1) = wbit w j := by
  have hw := w.toNat_lt
  have e : ((w.toNat : Int) / 2 ^ j) = ((w.toNat / 2 ^ j : Nat) : Int) := by simp
  have hq : w.toNat / 2 ^ j < 18446744073709551616 := Nat.lt_of_le_of_lt (Nat.div_le_self _ _) hw
  unfold wbit
  rw [Nat.testBit_eq_decide_div_mod_eq, e]
  generalize w.toNat / 2 ^ j = y at *
  rw [and1_u64 _ (by omega) (by omega), show ((y : Int) % 2) = ((y % 2 : Nat) : Int) by omega]
  have h2 : y % 2 = 0 ∨ y % 2 = 1 := by omega
  rcases h2 with h2 | h2 <;> rw [h2] <;> rfl

end Go.Proofs.Ytgmjoghgmcjebaa
