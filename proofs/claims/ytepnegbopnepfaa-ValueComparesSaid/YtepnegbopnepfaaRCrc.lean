/-
  The reference's Update and CRC return 'crcOf'; its Same says whether two byte slices are equal: for all arguments; the world is as it was.
-/
import Derived.Test.YtepnegbopnepfaaProg
import Derived.Test.YtepnegbopnepfaaCrcNum
import Derived.Test.YtepnegbopnepfaaApp
import Derived.WalkKit
import Derived.Outline
import Derived.Deep.QuietTactic
import Derived.BigQuiet
namespace Go.Proofs.Ytepnegbopnepfaa
open Go.RowKit


theorem and1_u32 (x : Nat) (h : x < 4294967296) : bits .and .u32 (x : Int) 1 = ((x % 2 : Nat) : Int) := by
  have h1 := u32_and_nat x 1 h (by decide)
  rw [show ((1 : Nat) : Int) = 1 from rfl] at h1
  rw [h1, nat_mask1]
theorem half_odd {x : Nat} (h : x < 4294967296) (ho : x % 2 = 1) : bits .xor .u32 ((x : Int) / 2) 2197175160 = (half x : Int) := by
  have e : ((x : Int) / 2) = ((x / 2 : Nat) : Int) := by omega
  have h1 := u32_xor_nat (x / 2) 2197175160 (by omega) (by decide)
  rw [e, show (2197175160 : Int) = ((2197175160 : Nat) : Int) from rfl, h1]
  unfold half
  rw [if_pos ho]; rfl
theorem half_even {x : Nat} (ho : ¬ x % 2 = 1) : ((x : Int) / 2) = (half x : Int) := by
  unfold half
  rw [if_neg ho]; omega

def StepRel (t : Nat) (c i : Value) : Prop := ∃ k x : Nat, k ≤ 8 ∧ x < 4294967296 ∧ i = .int .i64 k ∧ c = .int .u32 x ∧ halfN (8 - k) x = t

theorem not_u32 (x : Nat) (h : x < 4294967296) : bits .xor .u32 IntKind.u32.max (x : Int) = (not32 x : Int) := by
  have e : IntKind.u32.max = ((4294967295 : Nat) : Int) := by decide
  have ha : BitVec.ofInt 32 ((4294967295 : Nat) : Int) = BitVec.allOnes 32 := by decide
  rw [e]
  show IntKind.u32.wrap ((BitVec.ofInt 32 ((4294967295 : Nat) : Int) ^^^ BitVec.ofInt 32 (x : Int)).toNat : Int) = _
  rw [ha, BitVec.allOnes_xor, BitVec.toNat_not, ofInt_u32 x h, IntKind.wrap_u32']
  have : (2:Nat)^32 = 4294967296 := by decide
  unfold not32
  omega

def UpdRel (l : List UInt8) (c0 : Nat) (c i : Value) : Prop := ∃ k : Nat, k ≤ l.length ∧ i = .int .i64 k ∧ c = .int .u32 (upd c0 (l.take k) : Int)
theorem upd_take {l : List UInt8} {k : Nat} (c : Nat) (h : k < l.length) : upd c (l.take (k + 1)) = step8 (upd c (l.take k)) l[k].toNat := by
  rw [List.take_succ_eq_append_getElem h, upd_snoc]

/-- the checksum of several parts -/
def crcParts (ls : List (List UInt8)) : Nat := crcOf 0 ls.flatten
theorem crcOf_take {ls : List (List UInt8)} {k : Nat} (h : k < ls.length) : crcOf 0 (ls.take (k + 1)).flatten = crcOf (crcOf 0 (ls.take k).flatten) ls[k] := by
  rw [flatten_take h, crcOf_append]
def CrcRel (ls : List (List UInt8)) (c i : Value) : Prop := ∃ k : Nat, k ≤ ls.length ∧ i = .int .i64 k ∧ c = .int .u32 (crcOf 0 (ls.take k).flatten : Int)

theorem Grows.drewN {w a : World} (h : Grows w a) (n : Nat) : Grows w (a.drewN n) := ⟨h.os, h.tape, h.output, h.size, h.block⟩

def SameRel (l r : List UInt8) (w : World) (i : Value) (wr : World) : Prop := ∃ k : Nat, k ≤ l.length ∧ i = .int .i64 k ∧ l.take k = r.take k ∧ Grows w wr
def sameB (l r : List UInt8) : Bool := decide (l = r)
theorem sameB_f {l r : List UInt8} (h : l ≠ r) : sameB l r = false := by simpa [sameB] using h
theorem sameB_t {l r : List UInt8} (h : l = r) : sameB l r = true := by simpa [sameB] using h

end Go.Proofs.Ytepnegbopnepfaa
