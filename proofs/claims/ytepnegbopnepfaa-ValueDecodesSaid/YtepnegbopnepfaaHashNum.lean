/-
  Hash, Seal and Open of layer 2 as plain functions on lists of bytes. No condition.
-/
import Derived.Test.YtepnegbopnepfaaCrcNum
import Derived.Test.YtepnegbopnepfaaMixNum
namespace Go.Proofs.Ytepnegbopnepfaa
open Go.RowKit

def hashL : Nat → Nat → List UInt8 → Nat
  | 0, h, _ => h
  | f + 1, h, l => if l = [] then h else hashL f (mix (h ^^^ le (l.take 8))) (l.drop 8)
/-- P2.4 -/
def hashOf (seed : Nat) (l : List UInt8) : Nat := hashL l.length (mix (seed ^^^ l.length)) l
theorem hashL_nil : ∀ (f h : Nat), hashL f h [] = h
  | 0, _ => rfl
  | f + 1, h => by rw [hashL, if_pos rfl]
theorem hashL_cons {f h : Nat} {l : List UInt8} (hl : l ≠ []) : hashL (f + 1) h l = hashL f (mix (h ^^^ le (l.take 8))) (l.drop 8) := by rw [hashL, if_neg hl]
theorem hashL_lt : ∀ (f h : Nat) (l : List UInt8), h < 18446744073709551616 → hashL f h l < 18446744073709551616
  | 0, _, _, hh => hh
  | f + 1, h, l, hh => by
    rw [hashL]
    split
    · exact hh
    · exact hashL_lt f _ _ mix_lt
theorem le8_lt (l : List UInt8) : le (l.take 8) < 18446744073709551616 := le_lt64 (by rw [List.length_take]; omega)

/-- P2.2 -/
def sealOf (l : List UInt8) : List UInt8 := l ++ fixb (crcOf 0 l) 4
def openOf (l : List UInt8) : List UInt8 × Nat :=
  if l.length < 4 then ([], 2) else if l.drop (l.length - 4) = fixb (crcOf 0 (l.take (l.length - 4))) 4 then (l.take (l.length - 4), 0) else ([], 5)
theorem openOf_short {l : List UInt8} (h : l.length < 4) : openOf l = ([], 2) := by unfold openOf; rw [if_pos h]
theorem openOf_ok {l : List UInt8} (h : ¬ l.length < 4) (h2 : l.drop (l.length - 4) = fixb (crcOf 0 (l.take (l.length - 4))) 4) : openOf l = (l.take (l.length - 4), 0) := by unfold openOf; rw [if_neg h, if_pos h2]
theorem openOf_bad {l : List UInt8} (h : ¬ l.length < 4) (h2 : l.drop (l.length - 4) ≠ fixb (crcOf 0 (l.take (l.length - 4))) 4) : openOf l = ([], 5) := by unfold openOf; rw [if_neg h, if_neg h2]
theorem sealOf_length (l : List UInt8) : (sealOf l).length = l.length + 4 := by simp [sealOf, fixb_length]
theorem open_seal (l : List UInt8) : openOf (sealOf l) = (l, 0) := by
  have hl := sealOf_length l
  have e : (sealOf l).length - 4 = l.length := by omega
  rw [openOf_ok (by omega)]
  · rw [e]; simp [sealOf]
  · rw [e]; simp [sealOf]

/-! ### bursts (P2.6) -/
/-- l with the bytes of e flipped -/
def flip (l e : List UInt8) : List UInt8 := List.zipWith (· ^^^ ·) l e
theorem bits_xor8 (a b : UInt8) : bitsN 8 (a ^^^ b).toNat = List.zipWith (· ^^ ·) (bitsN 8 a.toNat) (bitsN 8 b.toNat) := by
  have h : (a ^^^ b).toNat = a.toNat ^^^ b.toNat := UInt8.toNat_xor a b
  rw [h]
  unfold bitsN
  rw [List.zipWith_map_left, List.zipWith_map_right, List.zipWith_self]
  apply List.map_congr_left
  intro j _
  rw [Nat.testBit_xor]
theorem flip_bits : ∀ (l e : List UInt8), l.length = e.length → (flip l e).flatMap (fun b => bitsN 8 b.toNat) = List.zipWith (· ^^ ·) (l.flatMap fun b => bitsN 8 b.toNat) (e.flatMap fun b => bitsN 8 b.toNat)
  | [], [], _ => rfl
  | a :: l, b :: e, h => by
    have ih := flip_bits l e (by simpa using h)
    unfold flip at *
    rw [List.zipWith_cons_cons, List.flatMap_cons, List.flatMap_cons, List.flatMap_cons, ih, bits_xor8, List.zipWith_append (by rw [bitsN_length, bitsN_length])]
theorem bits_length (l : List UInt8) : (l.flatMap fun b => bitsN 8 b.toNat).length = 8 * l.length := by
  induction l with
  | nil => rfl
  | cons a l ih => rw [List.flatMap_cons, List.length_append, ih, bitsN_length, List.length_cons]; omega
theorem upd_flip (c : Nat) (l e : List UInt8) (h : l.length = e.length) : upd c (flip l e) = upd c l ^^^ ser 0 (e.flatMap fun b => bitsN 8 b.toNat) := by
  have hx := ser_xor (l.flatMap fun b => bitsN 8 b.toNat) (e.flatMap fun b => bitsN 8 b.toNat) c 0 (by rw [bits_length, bits_length, h])
  rw [upd_ser, flip_bits l e h, upd_ser, ← hx, Nat.xor_zero]

theorem xor_not32 {x : Nat} (h : x < 2 ^ 32) : x ^^^ not32 x = 4294967295 := by
  have h1 : not32 x = x ^^^ 4294967295 := by
    have e : (4294967295 : Nat) = 2 ^ 32 - 1 := by decide
    apply Nat.eq_of_testBit_eq
    intro j
    unfold not32
    rw [Nat.testBit_xor, e]
    have h2 : 2 ^ 32 - 1 - x = 2 ^ 32 - (x + 1) := by omega
    rw [h2, Nat.testBit_two_pow_sub_succ h, Nat.testBit_two_pow_sub_one]
    by_cases hj : j < 32
    · simp [hj]
    · have h3 : x.testBit j = false := Nat.testBit_lt_two_pow (Nat.lt_of_lt_of_le h (Nat.pow_le_pow_right (by decide) (by omega)))
      simp [hj, h3]
  rw [h1, ← Nat.xor_assoc, Nat.xor_self, Nat.zero_xor]

/-- what a sealed slice leaves in the register -/
theorem upd_sealed {s : List UInt8} (h2 : s.drop (s.length - 4) = fixb (crcOf 0 (s.take (s.length - 4))) 4) : upd 4294967295 s = halfN 32 4294967295 := by
  have e : s = s.take (s.length - 4) ++ fixb (crcOf 0 (s.take (s.length - 4))) 4 := by rw [← h2, List.take_append_drop]
  have hn : not32 0 = 4294967295 := by decide
  generalize s.take (s.length - 4) = p at *
  have hu : upd 4294967295 p < 2 ^ 32 := upd_lt p (by decide)
  rw [e, upd_append, upd_four (show crcOf 0 p < 2 ^ 32 from crcOf_lt _ _)]
  unfold crcOf
  rw [hn, xor_not32 hu]

/-- a sealed slice with a burst is not accepted -/
theorem open_flip {l e : List UInt8} (hlen : e.length = (sealOf l).length) (he : ser 0 (e.flatMap fun b => bitsN 8 b.toNat) ≠ 0) : openOf (flip (sealOf l) e) = ([], 5) := by
  have hs := sealOf_length l
  have hf : (flip (sealOf l) e).length = l.length + 4 := by simp [flip, hlen, hs]
  refine openOf_bad (by omega) (fun h => ?_)
  have h1 := upd_sealed (s := flip (sealOf l) e) h
  have h2 : upd 4294967295 (sealOf l) = halfN 32 4294967295 := by
    apply upd_sealed
    have e1 : (sealOf l).length - 4 = l.length := by omega
    rw [e1]; simp [sealOf]
  rw [upd_flip _ _ _ (by rw [hlen]), h2] at h1
  apply he
  have h3 := congrArg (fun x => halfN 32 4294967295 ^^^ x) h1
  simp only [← Nat.xor_assoc, Nat.xor_self, Nat.zero_xor] at h3
  exact h3

end Go.Proofs.Ytepnegbopnepfaa
