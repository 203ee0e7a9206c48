/-
  The walk of the law ValueDecodes: it returns true for all bytes and offsets; nothing that was there is changed.
-/
import Derived.Test.YtepnegbopnepfaaLw0
import Derived.Test.YtepnegbopnepfaaLd3
import Derived.Test.YtepnegbopnepfaaLd4
namespace Go.Proofs.Ytepnegbopnepfaa
open Go.RowKit
set_option linter.unusedVariables false
set_option linter.unusedSimpArgs false

/-- what is accepted is the encoding of what is returned -/
theorem ofNat_byteAt {l : List UInt8} {o : Nat} (h : o < l.length) : UInt8.ofNat (byteAt l o) = l[o] := by
  unfold byteAt
  rw [List.getD_eq_getElem?_getD, List.getElem?_eq_getElem h]
  simp
theorem dcd_enc {l : List UInt8} {o : Nat} (ho : o ≤ l.length) (he : (dcd l o).2.2 = 0) : ∃ k : Nat, (dcd l o).2.1 = ((o + k : Nat) : Int) ∧ o + k ≤ l.length ∧ enc (dcd l o).1.toNat = (l.drop o).take k := by
  obtain ⟨n, k, e, h⟩ : ∃ n k e, dec 0 0 (l.drop (o : Int).toNat) = (n, k, e) := ⟨_, _, _, rfl⟩
  have h1 := dcd_ok (l := l) (off := o) (by omega) h
  rw [h1] at he ⊢
  have he0 : e = 0 := by have : (e : Int) = 0 := he; omega
  subst he0
  have h3 := enc_dec h
  rw [Int.toNat_natCast] at h3
  have hl : (l.drop o).length = l.length - o := List.length_drop
  refine ⟨k, by show (if (0 : Nat) = 0 then (o : Int) + k else 0) = _; rw [if_pos rfl]; omega, by omega, ?_⟩
  show enc ((n : Int)).toNat = _
  rw [Int.toNat_natCast]
  exact h3.1
theorem take_cons {l : List UInt8} {o m : Nat} (h : o < l.length) : (l.drop o).take (m + 1) = l[o] :: (l.drop (o + 1)).take m := by
  rw [List.drop_eq_getElem_cons h, List.take_succ_cons]
theorem byte_is {l : List UInt8} {o : Nat} (h : o < l.length) {c : UInt8} (hb : byteAt l o = c.toNat) : l[o] = c := by
  rw [← ofNat_byteAt h, hb]
  simp
/-- a value that was decoded is valid, and its encoding is what was read -/
theorem dec_is_enc {l : List UInt8} {off : Int} (h : (decO l off).e = 0) : ∃ o p : Nat, off = (o : Int) ∧ (decO l off).p = (p : Int) ∧ o ≤ p ∧ p ≤ l.length ∧ validV (decO l off).k (decO l off).n (decO l off).t = true ∧
    (-9223372036854775808 ≤ (decO l off).n ∧ (decO l off).n < 9223372036854775808) ∧ encV (decO l off).k (decO l off).n (decO l off).t = (l.drop o).take (p - o) := by
  by_cases hbad : off < 0 ∨ (l.length : Int) < off
  · have : decO l off = dErr 1 := if_pos hbad
    rw [this] at h
    cases h
  obtain ⟨o, rfl⟩ := Int.eq_ofNat_of_zero_le (show 0 ≤ off by omega)
  by_cases hend : (o : Int) = (l.length : Int)
  · have : decO l (o : Int) = dErr 2 := by unfold decO; rw [if_neg hbad, if_pos hend]
    rw [this] at h
    cases h
  have ho : o < l.length := by omega
  have HN : decO l (o : Int) = if byteAt l o = 0 then ⟨0, 0, ⟨#[]⟩, (o : Int) + 1, 0⟩ else if byteAt l o = 1 then dBoolO l (o + 1) else if byteAt l o = 2 then dIntO l (o + 1) else if byteAt l o = 3 then dTextO l (o + 1) else dErr 4 := by
    unfold decO
    rw [if_neg hbad, if_neg hend, Int.toNat_natCast]
  rw [HN] at h ⊢
  by_cases b0 : byteAt l o = 0
  · rw [if_pos b0]
    refine ⟨o, o + 1, rfl, by show (o : Int) + 1 = _; omega, by omega, ho, by simp [validV], ⟨by show (-9223372036854775808 : Int) ≤ 0; decide, by show (0 : Int) < 9223372036854775808; decide⟩, ?_⟩
    rw [encV_0, show o + 1 - o = 0 + 1 by omega, take_cons ho, List.take_zero, byte_is ho (c := 0) b0]
  rw [if_neg b0] at h ⊢
  by_cases b1 : byteAt l o = 1
  · rw [if_pos b1] at h ⊢
    by_cases h5 : o + 1 = l.length
    · rw [show dBoolO l (o + 1) = dErr 2 from if_pos h5] at h
      cases h
    have HB : dBoolO l (o + 1) = (if 1 < byteAt l (o + 1) then dErr 4 else ⟨1, if byteAt l (o + 1) = 1 then 1 else 0, ⟨#[]⟩, ((o + 1 : Nat) : Int) + 1, 0⟩) := if_neg h5
    rw [HB] at h ⊢
    by_cases h6 : 1 < byteAt l (o + 1)
    · rw [if_pos h6] at h
      cases h
    rw [if_neg h6]
    have ho1 : o + 1 < l.length := by omega
    refine ⟨o, o + 2, rfl, by show ((o + 1 : Nat) : Int) + 1 = _; omega, by omega, ho1, ?_, ?_, ?_⟩
    · by_cases h7 : byteAt l (o + 1) = 1 <;> simp [validV, h7]
    · by_cases h7 : byteAt l (o + 1) = 1 <;> simp [h7]
    · rw [encV_1, show o + 2 - o = 1 + 1 by omega, take_cons ho, take_cons ho1, List.take_zero, byte_is ho (c := 1) b1]
      congr 2
      rcases (show byteAt l (o + 1) = 0 ∨ byteAt l (o + 1) = 1 by omega) with h7 | h7
      · rw [byte_is ho1 (c := 0) h7, h7]; rfl
      · rw [byte_is ho1 (c := 1) h7, h7]; rfl
  rw [if_neg b1] at h ⊢
  have hbd := dcd_bd l (o + 1) (by omega)
  by_cases b2 : byteAt l o = 2
  · rw [if_pos b2] at h ⊢
    by_cases he : (dcd l ((o + 1 : Nat) : Int)).2.2 = 0
    · have HI : dIntO l (o + 1) = ⟨2, uz (dcd l ((o + 1 : Nat) : Int)).1, ⟨#[]⟩, (dcd l ((o + 1 : Nat) : Int)).2.1, 0⟩ := if_neg (fun hn => hn he)
      rw [HI]
      obtain ⟨k, hk1, hk2, hk3⟩ := dcd_enc (by omega) he
      have hu := uz_bd _ hbd.1 (by omega)
      refine ⟨o, o + 1 + k, rfl, hk1, by omega, hk2, by simp [validV], hu, ?_⟩
      rw [encV_2, zz_uz _ hbd.1, hk3, show o + 1 + k - o = k + 1 by omega, take_cons ho, byte_is ho (c := 2) b2]
    · rw [show dIntO l (o + 1) = dErr (dcd l ((o + 1 : Nat) : Int)).2.2 from if_pos he] at h
      exact absurd h he
  rw [if_neg b2] at h ⊢
  by_cases b3 : byteAt l o = 3
  · rw [if_pos b3] at h ⊢
    by_cases he : (dcd l ((o + 1 : Nat) : Int)).2.2 = 0
    · obtain ⟨k, hk1, hk2, hk3⟩ := dcd_enc (by omega) he
      unfold dTextO at h ⊢
      rw [if_neg (fun hn => hn he)] at h ⊢
      by_cases h4 : 4096 < (dcd l ((o + 1 : Nat) : Int)).1
      · rw [if_pos h4] at h
        cases h
      rw [if_neg h4] at h ⊢
      by_cases h5 : (l.length : Int) < (dcd l ((o + 1 : Nat) : Int)).2.1 + (dcd l ((o + 1 : Nat) : Int)).1
      · rw [if_pos h5] at h
        cases h
      rw [if_neg h5] at h ⊢
      rw [hk1] at h5 ⊢
      obtain ⟨n, hn⟩ := Int.eq_ofNat_of_zero_le hbd.1
      rw [hn] at h4 h5 hk3 ⊢
      rw [Int.toNat_natCast] at hk3 ⊢
      rw [Int.toNat_natCast]
      have hlen : ((l.drop (o + 1 + k)).take n).length = n := by rw [List.length_take, List.length_drop]; omega
      refine ⟨o, o + 1 + k + n, rfl, by show ((o + 1 + k : Nat) : Int) + (n : Int) = _; omega, by omega, by omega, ?_, ⟨by show (-9223372036854775808 : Int) ≤ 0; decide, by show (0 : Int) < 9223372036854775808; decide⟩, ?_⟩
      · show validV 3 0 (strOf ((l.drop (o + 1 + k)).take n)) = true
        unfold validV
        have hs : (strOf ((l.drop (o + 1 + k)).take n)).size ≤ 4096 := by
          show ((l.drop (o + 1 + k)).take n).toArray.size ≤ 4096
          rw [List.size_toArray, hlen]
          omega
        simp [hs]
      · show encV 3 0 (strOf ((l.drop (o + 1 + k)).take n)) = _
        have hd : (strOf ((l.drop (o + 1 + k)).take n)).data.toList = (l.drop (o + 1 + k)).take n := by unfold strOf; rfl
        rw [encV_3, hd, hlen, hk3, show o + 1 + k + n - o = (k + n) + 1 by omega, take_cons ho, byte_is ho (c := 3) b3, List.take_add, List.drop_drop]
    · rw [show dTextO l (o + 1) = dErr (dcd l ((o + 1 : Nat) : Int)).2.2 from if_pos he] at h
      exact absurd h he
  · rw [if_neg b3] at h
    cases h
end Go.Proofs.Ytepnegbopnepfaa
