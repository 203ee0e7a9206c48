/-
  Decimal numerals: the digits of a number, their value. Arithmetic and lists; no walk.
-/
import Derived.Test.YtaiphocnfkkigaaDoorNum
namespace Go.Proofs.YtaiphocnfkkigaaDoor
set_option linter.unusedVariables false
set_option linter.unusedSimpArgs false

/-- the digits of a number that is not zero; none of zero -/
def decP (n : Nat) : List UInt8 := if h : n = 0 then [] else decP (n / 10) ++ [UInt8.ofNat (48 + n % 10)]
termination_by n
decreasing_by omega
theorem decP_zero : decP 0 = [] := by rw [decP]; rfl
theorem decP_pos {n : Nat} (h : 0 < n) : decP n = decP (n / 10) ++ [UInt8.ofNat (48 + n % 10)] := by rw [decP, dif_neg (by omega)]
/-- the integer literal of n -/
def fmtI (n : Int) : List UInt8 := if n = 0 then [48] else if n < 0 then 45 :: decP n.natAbs else decP n.natAbs
theorem tmod_neg (a : Nat) : (-(a : Int)).tmod 10 = -((a % 10 : Nat) : Int) := by rw [Int.neg_tmod]; rfl
theorem tdiv_neg (a : Nat) : (-(a : Int)).tdiv 10 = -((a / 10 : Nat) : Int) := by rw [Int.neg_tdiv]; rfl
theorem tmod_pos (a : Nat) : ((a : Int)).tmod 10 = ((a % 10 : Nat) : Int) := rfl
theorem tdiv_pos (a : Nat) : ((a : Int)).tdiv 10 = ((a / 10 : Nat) : Int) := rfl
theorem decP_length : ∀ (k n : Nat), n < 10 ^ k → (decP n).length ≤ k
  | 0, n, h => by
    have : n = 0 := by simpa using h
    subst this
    rw [decP_zero]
    simp
  | k + 1, n, h => by
    by_cases h0 : n = 0
    · subst h0; rw [decP_zero]; simp
    · have := decP_length k (n / 10) (by rw [Nat.pow_succ] at h; omega)
      rw [decP_pos (by omega), List.length_append]
      simp
      omega
/-- the number that digits spell -/
def decV (l : List UInt8) : Nat := l.foldl (fun a c => a * 10 + (c.toNat - 48)) 0
theorem decV_nil : decV [] = 0 := rfl
theorem decV_snoc (l : List UInt8) (c : UInt8) : decV (l ++ [c]) = decV l * 10 + (c.toNat - 48) := by unfold decV; rw [List.foldl_append]; rfl
theorem decV_mono (l : List UInt8) : ∀ (m : List UInt8), decV l ≤ decV (l ++ m) := fun m => by
  have h : ∀ (m : List UInt8) (a : Nat), a ≤ m.foldl (fun a c => a * 10 + (c.toNat - 48)) a := by
    intro m
    induction m with
    | nil => intro a; exact Nat.le_refl _
    | cons c m ih => intro a; rw [List.foldl_cons]; have := ih (a * 10 + (c.toNat - 48)); omega
  unfold decV
  rw [List.foldl_append]
  exact h m _
theorem decV_take {l : List UInt8} (j : Nat) : decV (l.take j) ≤ decV l := by
  have h := decV_mono (l.take j) (l.drop j)
  rwa [List.take_append_drop] at h
def isDig (c : UInt8) : Bool := decide (48 ≤ c.toNat) && decide (c.toNat ≤ 57)
/-- what ParseInt gives: the number, the error -/
def prsD (neg : Bool) (l ds : List UInt8) : Int × Int :=
  if ds = [] ∨ (ds.head? = some 48 ∧ l ≠ [48]) then (0, 4) else if ds.all isDig = false then (0, 4)
  else if neg then (if decV ds ≤ 9223372036854775808 then (-(decV ds : Int), 0) else (0, 6)) else (if decV ds < 9223372036854775808 then ((decV ds : Int), 0) else (0, 6))
def prsI : List UInt8 → Int × Int
  | [] => (0, 2)
  | c :: r => if c = 45 then prsD true (c :: r) r else prsD false (c :: r) (c :: r)
/-- the check before a digit is taken in -/
theorem range_check (v d : Nat) (hd : d ≤ 9) : (-(v : Int) < (-9223372036854775808 + (d : Int)).tdiv 10) ↔ 9223372036854775808 < v * 10 + d := by
  have e : (-9223372036854775808 + (d : Int)) = -((9223372036854775808 - d : Nat) : Int) := by omega
  rw [e, tdiv_neg]
  omega
end Go.Proofs.YtaiphocnfkkigaaDoor
