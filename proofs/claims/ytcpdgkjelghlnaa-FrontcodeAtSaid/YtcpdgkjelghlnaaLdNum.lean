/-
  What decoding a value gives, as a plain function on lists of bytes; facts on varints. No condition.
-/
import Derived.Test.YtcpdgkjelghlnaaDecNum
import Derived.Test.YtcpdgkjelghlnaaEncNum
import Derived.Test.YtcpdgkjelghlnaaZig
namespace Go.Proofs.Ytcpdgkjelghlnaa
open Go.RowKit

theorem dec_lt : ∀ (l : List UInt8) (i x n k e : Nat), i ≤ 9 → x < 128 ^ i → dec i x l = (n, k, e) → n < 18446744073709551616
  | [], i, x, n, k, e, _, _, h => by
    rw [dec_end] at h
    injection h with h1 _
    omega
  | c :: r, i, x, n, k, e, hi, hx, h => by
    by_cases hb : (i = 9 ∧ 1 < c.toNat) ∨ (0 < i ∧ c.toNat = 0)
    · rw [dec_bad hb] at h
      injection h with h1 _
      omega
    · have hs := sum_lt64 hi hx (c := c.toNat) (fun h9 => by
        rcases Nat.lt_or_ge 1 c.toNat with h1 | h1
        · exact absurd (.inl ⟨h9, h1⟩) hb
        · exact h1)
      by_cases hc : c.toNat < 128
      · rw [dec_last hb hc] at h
        injection h with h1 _
        omega
      · rw [dec_more hb hc] at h
        by_cases h9 : i = 9
        · exact absurd (.inl ⟨h9, by omega⟩) hb
        · exact dec_lt r (i + 1) _ n k e (by omega) (sum_lt hx) h
theorem dec_len : ∀ (l : List UInt8) (i x n k e : Nat), dec i x l = (n, k, e) → (e = 0 → i < k ∧ k ≤ i + l.length) ∧ (e = 0 ∨ e = 2 ∨ e = 4)
  | [], i, x, n, k, e, h => by
    rw [dec_end] at h
    injection h with h1 h2
    injection h2 with h2 h3
    exact ⟨fun h => by omega, by omega⟩
  | c :: r, i, x, n, k, e, h => by
    by_cases hb : (i = 9 ∧ 1 < c.toNat) ∨ (0 < i ∧ c.toNat = 0)
    · rw [dec_bad hb] at h
      injection h with h1 h2
      injection h2 with h2 h3
      exact ⟨fun h => by omega, by omega⟩
    · by_cases hc : c.toNat < 128
      · rw [dec_last hb hc] at h
        injection h with h1 h2
        injection h2 with h2 h3
        exact ⟨fun _ => by simp only [List.length_cons]; omega, by omega⟩
      · rw [dec_more hb hc] at h
        have ih := dec_len r (i + 1) _ n k e h
        exact ⟨fun he => by have := ih.1 he; simp only [List.length_cons]; omega, ih.2⟩
/-- bounds of a varint that is read -/
theorem dcd_bd (l : List UInt8) (o : Nat) (ho : o ≤ l.length) : 0 ≤ (dcd l o).1 ∧ (dcd l o).1 ≤ 18446744073709551615 ∧
    ((dcd l o).2.2 = 0 → (o : Int) ≤ (dcd l o).2.1 ∧ (dcd l o).2.1 ≤ (l.length : Int)) ∧ 0 ≤ (dcd l o).2.2 ∧ (dcd l o).2.2 ≤ 4 := by
  obtain ⟨n, k, e, h⟩ : ∃ n k e, dec 0 0 (l.drop (o : Int).toNat) = (n, k, e) := ⟨_, _, _, rfl⟩
  have h1 := dcd_ok (l := l) (off := o) (by omega) h
  have h2 := dec_lt _ 0 0 n k e (by omega) (by decide) h
  have h3 := dec_len _ 0 0 n k e h
  rw [h1]
  refine ⟨by show (0 : Int) ≤ (n : Int); omega, by show (n : Int) ≤ _; omega, fun he => ?_, by show (0 : Int) ≤ (e : Int); omega, by show (e : Int) ≤ 4; omega⟩
  have he0 : e = 0 := by have : (e : Int) = 0 := he; omega
  have h4 := h3.1 he0
  have hdl : (l.drop (o : Int).toNat).length = l.length - o := by rw [List.length_drop]; simp
  rw [hdl] at h4
  show (o : Int) ≤ (if e = 0 then (o : Int) + k else 0) ∧ (if e = 0 then (o : Int) + k else 0) ≤ (l.length : Int)
  rw [if_pos he0]
  omega
/-- a value that was decoded, the offset behind it, the error -/
structure DecO where
  k : Int
  n : Int
  t : ByteArray
  p : Int
  e : Int
def DecO.v (d : DecO) : Value := .tuple #[.agg #[.int .i64 d.k, .int .i64 d.n, .string d.t], .int .i64 d.p, .int .i64 d.e]
def dErr (e : Int) : DecO := ⟨0, 0, ⟨#[]⟩, 0, e⟩
def byteAt (l : List UInt8) (o : Nat) : Nat := (l.getD o 0).toNat
def dBoolO (l : List UInt8) (o : Nat) : DecO := if o = l.length then dErr 2 else if 1 < byteAt l o then dErr 4 else ⟨1, if byteAt l o = 1 then 1 else 0, ⟨#[]⟩, (o : Int) + 1, 0⟩
def dIntO (l : List UInt8) (o : Nat) : DecO := if (dcd l o).2.2 ≠ 0 then dErr (dcd l o).2.2 else ⟨2, uz (dcd l o).1, ⟨#[]⟩, (dcd l o).2.1, 0⟩
def dTextO (l : List UInt8) (o : Nat) : DecO :=
  if (dcd l o).2.2 ≠ 0 then dErr (dcd l o).2.2 else if 4096 < (dcd l o).1 then dErr 3 else if (l.length : Int) < (dcd l o).2.1 + (dcd l o).1 then dErr 2
  else ⟨3, 0, strOf ((l.drop (dcd l o).2.1.toNat).take (dcd l o).1.toNat), (dcd l o).2.1 + (dcd l o).1, 0⟩
def decO (l : List UInt8) (off : Int) : DecO :=
  if off < 0 ∨ (l.length : Int) < off then dErr 1 else if off = (l.length : Int) then dErr 2
  else if byteAt l off.toNat = 0 then ⟨0, 0, ⟨#[]⟩, off + 1, 0⟩ else if byteAt l off.toNat = 1 then dBoolO l (off.toNat + 1)
  else if byteAt l off.toNat = 2 then dIntO l (off.toNat + 1) else if byteAt l off.toNat = 3 then dTextO l (off.toNat + 1) else dErr 4
end Go.Proofs.Ytcpdgkjelghlnaa
