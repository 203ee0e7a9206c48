/-
  Words of 64 bits as plain functions: masks, the number of ones, the positions of the ones in their order. No condition.
-/
import Derived.Test.YtaegolkoinjmoaaDoorBkBase
import Derived.Shelf.Spec.TrailingZeros
namespace Go.Proofs.YtaegolkoinjmoaaDoor
open Go.RowKit

/-! ### counting and listing in two parts -/
theorem cnt_split (f : Nat → Bool) (a : Nat) : ∀ b, cnt f (a + b) = cnt f a + cnt (fun i => f (a + i)) b
  | 0 => rfl
  | b + 1 => by rw [← Nat.add_assoc, cnt, cnt, cnt_split f a b, Nat.add_assoc]
theorem elems_split (f : Nat → Bool) (a : Nat) : ∀ b, elems f (a + b) = elems f a ++ (elems (fun i => f (a + i)) b).map (a + ·)
  | 0 => by simp [elems]
  | b + 1 => by
    rw [← Nat.add_assoc, elems, elems, elems_split f a b, List.map_append, List.append_assoc]
    congr 2
    split <;> simp
theorem cnt_false : ∀ n, cnt (fun _ => false) n = 0
  | 0 => rfl
  | n + 1 => by rw [cnt, cnt_false n]; simp
theorem elems_none {f : Nat → Bool} : ∀ {n}, (∀ i, i < n → f i = false) → elems f n = []
  | 0, _ => rfl
  | n + 1, h => by rw [elems, elems_none (n := n) (fun i hi => h i (by omega)), h n (by omega)]; simp
theorem elems_lt {f : Nat → Bool} {n : Nat} : ∀ x ∈ elems f n, x < n := by
  intro x hx
  obtain ⟨k, hk, rfl⟩ := List.mem_iff_getElem.1 hx
  exact (elems_get (List.getElem?_eq_getElem hk)).1
/-- the first element, and the others -/
theorem elems_head {f g : Nat → Bool} {t : Nat} (ht : f t = true) (h0 : ∀ j, j < t → f j = false) (hg : ∀ j, g j = (f j && decide (j ≠ t))) : ∀ {n}, t < n → elems f n = t :: elems g n
  | n + 1, h => by
    rw [elems, elems]
    by_cases e : t = n
    · subst e
      rw [elems_none h0, elems_none (fun i hi => by rw [hg, h0 i hi]; rfl), hg, ht]
      simp
    · rw [elems_head ht h0 hg (n := n) (by omega), hg n]
      have : decide (n ≠ t) = true := by simp; omega
      rw [this]
      simp

/-! ### words -/
def wAt (ws : List UInt64) (k : Nat) : UInt64 := ws.getD k 0
theorem wAt_lt {ws : List UInt64} {k : Nat} (h : k < ws.length) : wAt ws k = ws[k] := by simp [wAt, h]
theorem wAt_ge {ws : List UInt64} {k : Nat} (h : ws.length ≤ k) : wAt ws k = 0 := by simp [wAt, h]
theorem wbit_zero (j : Nat) : wbit 0 j = false := by unfold wbit; simp
theorem wmem_at (ws : List UInt64) {k j : Nat} (hj : j < 64) : wmem ws (64 * k + j) = wbit (wAt ws k) j := by
  unfold wmem
  rw [show (64 * k + j) / 64 = k by omega, show (64 * k + j) % 64 = j by omega]
  by_cases h : k < ws.length
  · rw [List.getElem?_eq_getElem h, wAt_lt h]
  · rw [List.getElem?_eq_none (by omega), wAt_ge (by omega), wbit_zero]
theorem okW_bit {n : Nat} {ws : List UInt64} (h : okW n ws) {k j : Nat} (hj : j < 64) : wbit (wAt ws k) j = mem n ws (64 * k + j) := by
  rw [← wmem_at ws hj]
  unfold mem
  by_cases hi : 64 * k + j < n
  · simp [hi]
  · rw [h.2 _ (by omega)]; simp
theorem wbit_and (a b : UInt64) (j : Nat) : wbit (a &&& b) j = (wbit a j && wbit b j) := by unfold wbit; rw [UInt64.toNat_and, Nat.testBit_and]
theorem wbit_or (a b : UInt64) (j : Nat) : wbit (a ||| b) j = (wbit a j || wbit b j) := by unfold wbit; rw [UInt64.toNat_or, Nat.testBit_or]
theorem toNat_not64 (a : UInt64) : (~~~a).toNat = 18446744073709551615 - a.toNat := by
  rw [UInt64.toNat_not]; rfl
theorem wbit_not (a : UInt64) {j : Nat} (hj : j < 64) : wbit (~~~a) j = !wbit a j := by
  unfold wbit
  rw [toNat_not64, show 18446744073709551615 - a.toNat = 2 ^ 64 - (a.toNat + 1) by omega, Nat.testBit_two_pow_sub_succ a.toNat_lt]
  simp [hj]
theorem wbit_andNot (a b : UInt64) (j : Nat) : wbit (a &&& ~~~b) j = (wbit a j && !wbit b j) := by
  rw [wbit_and]
  by_cases hj : j < 64
  · rw [wbit_not b hj]
  · rw [wbit_ge (w := a) (by omega)]; rfl
theorem go_and (a b : UInt64) : bits .and .u64 (a.toNat : Int) (b.toNat : Int) = ((a &&& b).toNat : Int) := by
  rw [bits_and_u64_nat _ _ a.toNat_lt b.toNat_lt, UInt64.toNat_and]
theorem go_or (a b : UInt64) : bits .or .u64 (a.toNat : Int) (b.toNat : Int) = ((a ||| b).toNat : Int) := by
  rw [bits_or_u64_nat _ _ a.toNat_lt b.toNat_lt, UInt64.toNat_or]
theorem go_andNot (a b : UInt64) : bits .andNot .u64 (a.toNat : Int) (b.toNat : Int) = ((a &&& ~~~b).toNat : Int) := by
  rw [u64_andNot_nat _ _ a.toNat_lt b.toNat_lt, UInt64.toNat_and, toNat_not64]
theorem go_not (a : UInt64) : bits .xor .u64 IntKind.u64.max (a.toNat : Int) = ((~~~a).toNat : Int) := by
  have := a.toNat_lt
  rw [not_u64 _ (by omega) (by omega), toNat_not64]
  omega
/-- the lowest c bits -/
def lowW (c : Nat) : UInt64 := UInt64.ofNat (2 ^ min c 64 - 1)
theorem lowW_toNat (c : Nat) : (lowW c).toNat = 2 ^ min c 64 - 1 := by
  unfold lowW
  rw [UInt64.toNat_ofNat']
  have : 2 ^ min c 64 ≤ 2 ^ 64 := Nat.pow_le_pow_right (by decide) (by omega)
  exact Nat.mod_eq_of_lt (by have := Nat.two_pow_pos (min c 64); omega)
theorem wbit_low (c j : Nat) : wbit (lowW c) j = decide (j < min c 64) := by unfold wbit; rw [lowW_toNat, Nat.testBit_two_pow_sub_one]
theorem go_low (c : Nat) : IntKind.u64.wrap (IntKind.u64.wrap (2 ^ min c 64) - 1) = ((lowW c).toNat : Int) := by
  rw [lowW_toNat, IntKind.wrap_u64, IntKind.wrap_u64]
  by_cases h : 64 ≤ c
  · rw [show min c 64 = 64 by omega]; decide
  · have h1 : 2 ^ min c 64 ≤ 2 ^ 63 := Nat.pow_le_pow_right (by decide) (by omega)
    have h2 := Nat.two_pow_pos (min c 64)
    have e : (2 : Int) ^ min c 64 = ((2 ^ min c 64 : Nat) : Int) := by simp
    rw [e]
    generalize 2 ^ min c 64 = p at *
    omega
/-- bit i of its word -/
def bitW (i : Nat) : UInt64 := UInt64.ofNat (2 ^ (i % 64))
theorem bitW_toNat (i : Nat) : (bitW i).toNat = 2 ^ (i % 64) := by
  unfold bitW
  rw [UInt64.toNat_ofNat']
  exact Nat.mod_eq_of_lt (Nat.pow_lt_pow_right (by decide) (by omega))
theorem wbit_bit (i j : Nat) : wbit (bitW i) j = decide (j = i % 64) := by
  unfold wbit
  rw [bitW_toNat, Nat.testBit_two_pow, decide_eq_decide]
  exact ⟨Eq.symm, Eq.symm⟩
theorem go_bit (i : Nat) : IntKind.u64.wrap (2 ^ (i % 64)) = ((bitW i).toNat : Int) := by
  rw [bitW_toNat, IntKind.wrap_u64]
  have : 2 ^ (i % 64) < 2 ^ 64 := Nat.pow_lt_pow_right (by decide) (by omega)
  have e : (2 : Int) ^ (i % 64) = ((2 ^ (i % 64) : Nat) : Int) := by simp
  rw [e]
  generalize 2 ^ (i % 64) = p at *
  omega
theorem and_bit (x : UInt64) (i : Nat) : ((((x &&& bitW i).toNat : Int)) != 0) = wbit x (i % 64) := by
  have key : (x &&& bitW i = 0) ↔ wbit x (i % 64) = false := by
    constructor
    · intro h
      have := congrArg (fun y => wbit y (i % 64)) h
      simpa [wbit_and, wbit_bit, wbit_zero] using this
    · intro h
      apply word_ext
      intro j _
      rw [wbit_and, wbit_bit, wbit_zero]
      by_cases e : j = i % 64
      · subst e; rw [h]; rfl
      · simp [e]
  cases hb : wbit x (i % 64) with
  | false => rw [key.2 hb]; rfl
  | true =>
    have : (x &&& bitW i).toNat ≠ 0 := fun h => by
      have := key.1 (UInt64.toNat_inj.1 h)
      rw [hb] at this; cases this
    generalize (x &&& bitW i).toNat = y at *
    simp; omega

/-! ### the lowest one -/
def lowest (x : UInt64) : Nat := Lib.ctz 64 x.toNat
def dropLow (x : UInt64) : UInt64 := UInt64.ofNat (x.toNat &&& (x.toNat - 1))
theorem dropLow_toNat (x : UInt64) : (dropLow x).toNat = x.toNat &&& (x.toNat - 1) := by
  unfold dropLow
  rw [UInt64.toNat_ofNat']
  exact Nat.mod_eq_of_lt (Nat.lt_of_le_of_lt Nat.and_le_left x.toNat_lt)
theorem go_drop {x : UInt64} (h : x ≠ 0) : bits .and .u64 (x.toNat : Int) (IntKind.u64.wrap ((x.toNat : Int) - 1)) = ((dropLow x).toNat : Int) := by
  have h1 : x.toNat ≠ 0 := fun e => h (UInt64.toNat_inj.1 e)
  have h2 := x.toNat_lt
  have e : IntKind.u64.wrap ((x.toNat : Int) - 1) = ((x.toNat - 1 : Nat) : Int) := by rw [IntKind.wrap_u64]; omega
  rw [e, bits_and_u64_nat _ _ h2 (by omega), dropLow_toNat]
theorem go_drop0 : bits .and .u64 ((0 : UInt64).toNat : Int) (IntKind.u64.wrap (((0 : UInt64).toNat : Int) - 1)) = ((dropLow 0).toNat : Int) := by decide
theorem go_drop_any (x : UInt64) : bits .and .u64 (x.toNat : Int) (IntKind.u64.wrap ((x.toNat : Int) - 1)) = ((dropLow x).toNat : Int) := by
  by_cases h : x = 0
  · subst h; exact go_drop0
  · exact go_drop h
theorem low_parts {x : UInt64} (h : x ≠ 0) : lowest x < 64 ∧ ∃ m, x.toNat = 2 ^ lowest x * (2 * m + 1) := by
  have h1 : x.toNat ≠ 0 := fun e => h (UInt64.toNat_inj.1 e)
  obtain ⟨m, hm, hk⟩ := Lib.ctzFrom_spec 64 x.toNat (by omega) x.toNat_lt
  have e : lowest x = Lib.ctzFrom 64 x.toNat := by simp [lowest, Lib.ctz, h1]
  rw [e]
  exact ⟨hk, m, hm⟩
theorem wbit_lowest {x : UInt64} (h : x ≠ 0) : wbit x (lowest x) = true ∧ (∀ j, j < lowest x → wbit x j = false) ∧ ∀ j, wbit (dropLow x) j = (wbit x j && decide (j ≠ lowest x)) := by
  obtain ⟨hk, m, hm⟩ := low_parts h
  generalize lowest x = t at *
  have hb : ∀ j, wbit x j = (decide (t ≤ j) && (2 * m + 1).testBit (j - t)) := by
    intro j
    unfold wbit
    rw [hm, Nat.testBit_two_pow_mul]
  have hd : ∀ j, (x.toNat - 1).testBit j = if j < t then (2 ^ t - 1).testBit j else (2 * m).testBit (j - t) := by
    intro j
    have e : x.toNat - 1 = 2 ^ t * (2 * m) + (2 ^ t - 1) := by
      have := Nat.two_pow_pos t
      rw [hm, Nat.mul_add, Nat.mul_one]
      omega
    rw [e, Nat.testBit_two_pow_mul_add _ (by have := Nat.two_pow_pos t; omega)]
  have odd0 : (2 * m + 1).testBit 0 = true := by simp
  have even0 : (2 * m).testBit 0 = false := by simp
  have up : ∀ k, (2 * m + 1).testBit (k + 1) = (2 * m).testBit (k + 1) := by
    intro k
    rw [Nat.testBit_succ, Nat.testBit_succ, show (2 * m + 1) / 2 = m by omega, show 2 * m / 2 = m by omega]
  refine ⟨by rw [hb]; simp, fun j hj => by rw [hb]; have : ¬ t ≤ j := by omega
                                           simp [this], fun j => ?_⟩
  have e : wbit (dropLow x) j = (wbit x j && (x.toNat - 1).testBit j) := by unfold wbit; rw [dropLow_toNat, Nat.testBit_and]
  rw [e, hd, hb]
  by_cases h1 : j < t
  · have : ¬ t ≤ j := by omega
    simp [this]
  · rw [if_neg h1]
    by_cases h2 : j = t
    · subst h2; simp
    · obtain ⟨k, rfl⟩ : ∃ k, j = t + (k + 1) := ⟨j - t - 1, by omega⟩
      rw [show t + (k + 1) - t = k + 1 by omega, up]
      have : t + (k + 1) ≠ t := by omega
      simp
/-- the positions of the ones of x, in their order -/
def ones (x : UInt64) : List Nat := elems (wbit x) 64
theorem ones_zero : ones 0 = [] := elems_none fun i _ => wbit_zero i
theorem ones_step {x : UInt64} (h : x ≠ 0) : ones x = lowest x :: ones (dropLow x) := by
  obtain ⟨h1, h2, h3⟩ := wbit_lowest h
  exact elems_head h1 h2 h3 (low_parts h).1
theorem ones_length_le (x : UInt64) : (ones x).length ≤ 64 := by unfold ones; rw [elems_length]; exact cnt_le _ _
theorem ones_nil {x : UInt64} (h : ones x = []) : x = 0 := by
  by_cases h0 : x = 0
  · exact h0
  · rw [ones_step h0] at h; cases h
/-- x without its k lowest ones -/
def dropN : UInt64 → Nat → UInt64
  | x, 0 => x
  | x, k + 1 => dropLow (dropN x k)
theorem ones_dropN (x : UInt64) : ∀ k, ones (dropN x k) = (ones x).drop k
  | 0 => rfl
  | k + 1 => by
    rw [dropN, ← List.drop_drop, ← ones_dropN x k]
    by_cases h : dropN x k = 0
    · rw [h, show dropLow 0 = 0 by decide, ones_zero]; rfl
    · rw [ones_step h]; rfl
theorem ones_at {x : UInt64} {k : Nat} (hk : k < (ones x).length) : dropN x k ≠ 0 ∧ lowest (dropN x k) = (ones x)[k] := by
  have h := ones_dropN x k
  generalize dropN x k = y at *
  generalize ones x = l at *
  have h0 : y ≠ 0 := fun e => by
    rw [e, ones_zero] at h
    have hl := congrArg List.length h
    rw [List.length_nil, List.length_drop] at hl
    omega
  refine ⟨h0, ?_⟩
  rw [ones_step h0, List.drop_eq_getElem_cons hk] at h
  exact (List.cons.inj h).1

end Go.Proofs.YtaegolkoinjmoaaDoor
