/-
  Shaken: what the claims of this seat need of this text. No condition.
-/
import Derived.Test.YtoaklmceejeblaaGreatM14
import Derived.Test.YtoaklmceejeblaaGreatM4
namespace Go.Proofs.YtoaklmceejeblaaGreat
set_option maxRecDepth 8000
open Go.RowKit
set_option linter.unusedVariables false
set_option linter.unusedSimpArgs false
structure RS where
  p : Int
  e : Int
def rdV (l : List UInt8) (s : RS) : Int × RS := if s.e ≠ 0 then (0, s) else ((dcd l s.p).1, ⟨(dcd l s.p).2.1, (dcd l s.p).2.2⟩)
def rdNm (l : List UInt8) (s : RS) : Int × RS := if 2147483647 < (rdV l s).1 then (0, ⟨(rdV l s).2.p, 6⟩) else rdV l s
def rdCt (l : List UInt8) (m : Int) (s : RS) : Int × RS := if m < (rdNm l s).1 then (0, ⟨(rdNm l s).2.p, 18⟩) else rdNm l s
def rdFl (l : List UInt8) (s : RS) : Bool × RS :=
  if s.e ≠ 0 then (false, s) else if s.p = (l.length : Int) then (false, ⟨s.p, 2⟩) else if 1 < byteAt l s.p.toNat then (false, ⟨s.p, 4⟩) else (byteAt l s.p.toNat == 1, ⟨s.p + 1, 0⟩)
def rdVl (l : List UInt8) (s : RS) : Val × RS := if s.e ≠ 0 then (nulX, s) else (⟨(decO l s.p).k, (decO l s.p).n, (decO l s.p).t⟩, ⟨(decO l s.p).p, (decO l s.p).e⟩)
def rdNs (l : List UInt8) (s : RS) : Nat → List Int × RS
  | 0 => ([], s)
  | k + 1 => ((rdNs l s k).1 ++ [(rdNm l (rdNs l s k).2).1], (rdNm l (rdNs l s k).2).2)
def rdHs (l : List UInt8) (s : RS) : Nat → List Nat × Nat × RS
  | 0 => ([], 0, s)
  | k + 1 => ((rdHs l s k).1 ++ [((rdHs l s k).2.1 + (rdV l (rdHs l s k).2.2).1.toNat) % 18446744073709551616], ((rdHs l s k).2.1 + (rdV l (rdHs l s k).2.2).1.toNat) % 18446744073709551616, (rdV l (rdHs l s k).2.2).2)
def rdFs (l : List UInt8) (s : RS) : Nat → List Val × List Int × RS
  | 0 => ([], [], s)
  | k + 1 => ((rdFs l s k).1 ++ [(rdVl l (rdFs l s k).2.2).1], (rdFs l s k).2.1 ++ (rdNs l (rdVl l (rdFs l s k).2.2).2 2).1, (rdNs l (rdVl l (rdFs l s k).2.2).2 2).2)
def OkS (l : List UInt8) (s : RS) : Prop := s.e = 0 → 0 ≤ s.p ∧ s.p ≤ (l.length : Int)
theorem dec_err0 : ∀ (l : List UInt8) (i x n k e : Nat), dec i x l = (n, k, e) → e ≠ 0 → n = 0
  | [], i, x, n, k, e, h, _ => by rw [dec_end] at h; injection h with h1 _; omega
  | c :: r, i, x, n, k, e, h, he => by
    by_cases hb : (i = 9 ∧ 1 < c.toNat) ∨ (0 < i ∧ c.toNat = 0)
    · rw [dec_bad hb] at h; injection h with h1 _; omega
    · by_cases hc : c.toNat < 128
      · rw [dec_last hb hc] at h; injection h with h1 h2; injection h2 with h2 h3; omega
      · rw [dec_more hb hc] at h; exact dec_err0 r (i + 1) _ n k e h he
theorem dcd_all (l : List UInt8) (o : Int) : 0 ≤ (dcd l o).1 ∧ (dcd l o).1 ≤ 18446744073709551615 ∧ ((dcd l o).2.2 = 0 → 0 ≤ (dcd l o).2.1 ∧ (dcd l o).2.1 ≤ (l.length : Int)) ∧ 0 ≤ (dcd l o).2.2 ∧ (dcd l o).2.2 ≤ 4 ∧ ((dcd l o).2.2 ≠ 0 → (dcd l o).1 = 0 ∧ (dcd l o).2.1 = 0) := by
  by_cases h0 : o < 0 ∨ (l.length : Int) < o
  · rw [dcd_bad h0]; simp
  · obtain ⟨n, rfl⟩ := Int.eq_ofNat_of_zero_le (show 0 ≤ o by omega)
    have hb := dcd_bd l n (by omega)
    obtain ⟨m, k, e, h⟩ : ∃ m k e, dec 0 0 (l.drop (n : Int).toNat) = (m, k, e) := ⟨_, _, _, rfl⟩
    have h1 := dcd_ok (l := l) (off := n) (by omega) h
    refine ⟨hb.1, hb.2.1, fun he => by have := hb.2.2.1 he; omega, hb.2.2.2.1, hb.2.2.2.2, fun he => ?_⟩
    rw [h1] at he ⊢
    have he' : e ≠ 0 := fun x => he (by show (e : Int) = 0; omega)
    have := dec_err0 _ 0 0 m k e h he'
    subst this
    exact ⟨rfl, if_neg he'⟩
theorem decO_all (l : List UInt8) (o : Int) : ((decO l o).e = 0 → 0 ≤ (decO l o).p ∧ (decO l o).p ≤ (l.length : Int)) ∧ 0 ≤ (decO l o).e ∧ (decO l o).e ≤ 4 ∧ ((decO l o).e ≠ 0 → decO l o = dErr (decO l o).e) := by
  have hd : ∀ x : Int, 0 ≤ x → x ≤ 4 → x ≠ 0 → ((dErr x).e = 0 → 0 ≤ (dErr x).p ∧ (dErr x).p ≤ (l.length : Int)) ∧ 0 ≤ (dErr x).e ∧ (dErr x).e ≤ 4 ∧ ((dErr x).e ≠ 0 → dErr x = dErr (dErr x).e) := fun x h1 h2 h3 => ⟨fun h => absurd h h3, h1, h2, fun _ => rfl⟩
  have hok : ∀ d : DecO, d.e = 0 → 0 ≤ d.p → d.p ≤ (l.length : Int) → (d.e = 0 → 0 ≤ d.p ∧ d.p ≤ (l.length : Int)) ∧ 0 ≤ d.e ∧ d.e ≤ 4 ∧ (d.e ≠ 0 → d = dErr d.e) := fun d h1 h2 h3 => ⟨fun _ => ⟨h2, h3⟩, by omega, by omega, fun h => absurd h1 h⟩
  unfold decO
  split
  · exact hd 1 (by omega) (by omega) (by omega)
  · rename_i h0
    split
    · exact hd 2 (by omega) (by omega) (by omega)
    · have hn : (o.toNat : Int) = o := by omega
      split
      · exact hok _ rfl (by show 0 ≤ o + 1; omega) (by show o + 1 ≤ _; omega)
      · split
        · unfold dBoolO
          split
          · exact hd 2 (by omega) (by omega) (by omega)
          · split
            · exact hd 4 (by omega) (by omega) (by omega)
            · refine hok _ rfl (by show (0 : Int) ≤ ((o.toNat + 1 : Nat) : Int) + 1; omega) (by show ((o.toNat + 1 : Nat) : Int) + 1 ≤ _; omega)
        · split
          · unfold dIntO
            have hb := dcd_all l ((o.toNat + 1 : Nat) : Int)
            split
            · exact hd _ hb.2.2.2.1 hb.2.2.2.2.1 (by assumption)
            · rename_i h
              have h := Classical.not_not.1 h
              exact hok _ rfl (hb.2.2.1 h).1 (hb.2.2.1 h).2
          · split
            · unfold dTextO
              have hb := dcd_all l ((o.toNat + 1 : Nat) : Int)
              split
              · exact hd _ hb.2.2.2.1 hb.2.2.2.2.1 (by assumption)
              · rename_i h
                have h := Classical.not_not.1 h
                split
                · exact hd 3 (by omega) (by omega) (by omega)
                · split
                  · exact hd 2 (by omega) (by omega) (by omega)
                  · have h2 := hb.2.2.1 h
                    refine hok _ rfl ?_ ?_
                    · show 0 ≤ (dcd l ((o.toNat + 1 : Nat) : Int)).2.1 + (dcd l ((o.toNat + 1 : Nat) : Int)).1
                      have := hb.1; omega
                    · show (dcd l ((o.toNat + 1 : Nat) : Int)).2.1 + (dcd l ((o.toNat + 1 : Nat) : Int)).1 ≤ _
                      omega
            · exact hd 4 (by omega) (by omega) (by omega)
theorem rdV_all (l : List UInt8) (s : RS) : 0 ≤ (rdV l s).1 ∧ (rdV l s).1 ≤ 18446744073709551615 := by
  unfold rdV
  have h := dcd_all l s.p
  split
  · exact ⟨by show (0 : Int) ≤ 0; omega, by show (0 : Int) ≤ _; omega⟩
  · exact ⟨h.1, h.2.1⟩
theorem rdV_ok {l : List UInt8} {s : RS} : (rdV l s).2.e = 0 → 0 ≤ (rdV l s).2.p ∧ (rdV l s).2.p ≤ (l.length : Int) := by
  unfold rdV
  split
  · intro h; contradiction
  · exact (dcd_all l s.p).2.2.1
theorem rdNm_all (l : List UInt8) (s : RS) : 0 ≤ (rdNm l s).1 ∧ (rdNm l s).1 ≤ 2147483647 := by
  unfold rdNm
  have h := rdV_all l s
  split
  · exact ⟨by show (0 : Int) ≤ 0; omega, by show (0 : Int) ≤ _; omega⟩
  · exact ⟨h.1, by omega⟩
theorem rdNm_ok {l : List UInt8} {s : RS} : OkS l (rdNm l s).2 := by
  unfold OkS rdNm
  split
  · intro h; exact absurd h (by show ¬ (6 : Int) = 0; decide)
  · exact rdV_ok
theorem rdCt_all (l : List UInt8) (m : Int) (s : RS) (hm : 0 ≤ m) : 0 ≤ (rdCt l m s).1 ∧ (rdCt l m s).1 ≤ m := by
  unfold rdCt
  have h := rdNm_all l s
  split
  · exact ⟨by show (0 : Int) ≤ 0; omega, by show (0 : Int) ≤ _; omega⟩
  · exact ⟨h.1, by omega⟩
theorem rdCt_ok {l : List UInt8} {m : Int} {s : RS} : OkS l (rdCt l m s).2 := by
  unfold rdCt
  split
  · intro h; exact absurd h (by show ¬ (18 : Int) = 0; decide)
  · exact rdNm_ok
theorem rdNs_ok {l : List UInt8} {s : RS} (h : OkS l s) : ∀ k, OkS l (rdNs l s k).2
  | 0 => h
  | k + 1 => rdNm_ok
theorem rdHs_ok {l : List UInt8} {s : RS} (h : OkS l s) : ∀ k, OkS l (rdHs l s k).2.2
  | 0 => h
  | k + 1 => rdV_ok
theorem rdNs_len (l : List UInt8) (s : RS) : ∀ k, (rdNs l s k).1.length = k
  | 0 => rfl
  | k + 1 => by show ((rdNs l s k).1 ++ [_]).length = k + 1; rw [List.length_append, rdNs_len l s k]; rfl
theorem rdHs_len (l : List UInt8) (s : RS) : ∀ k, (rdHs l s k).1.length = k
  | 0 => rfl
  | k + 1 => by show ((rdHs l s k).1 ++ [_]).length = k + 1; rw [List.length_append, rdHs_len l s k]; rfl
theorem rdFs_len (l : List UInt8) (s : RS) : ∀ k, (rdFs l s k).1.length = k ∧ (rdFs l s k).2.1.length = 2 * k
  | 0 => ⟨rfl, rfl⟩
  | k + 1 => by
    obtain ⟨h1, h2⟩ := rdFs_len l s k
    refine ⟨?_, ?_⟩
    · show ((rdFs l s k).1 ++ [_]).length = k + 1
      rw [List.length_append, h1]; rfl
    · show ((rdFs l s k).2.1 ++ (rdNs l _ 2).1).length = 2 * (k + 1)
      rw [List.length_append, h2, rdNs_len]; omega
theorem rdHs_lt {l : List UInt8} {s : RS} : ∀ {k : Nat}, (rdHs l s k).2.1 < 18446744073709551616 ∧ ∀ x ∈ (rdHs l s k).1, x < 18446744073709551616
  | 0 => ⟨by show 0 < _; decide, fun x h => by cases h⟩
  | k + 1 => ⟨Nat.mod_lt _ (by decide), fun x h => by
    rcases List.mem_append.1 (show x ∈ (rdHs l s k).1 ++ [_] from h) with h | h
    · exact rdHs_lt.2 x h
    · rw [List.mem_singleton.1 h]; exact Nat.mod_lt _ (by decide)⟩
theorem rdNm_err {l : List UInt8} {s : RS} (h : s.e ≠ 0) : rdNm l s = (0, s) := by
  have hv : rdV l s = (0, s) := if_pos h
  unfold rdNm
  rw [hv, if_neg (show ¬ (2147483647 : Int) < 0 by decide)]
theorem rdNs_err {l : List UInt8} {s : RS} {k : Nat} (h : (rdNs l s k).2.e ≠ 0) : ∀ j, (rdNs l s (k + j)).2 = (rdNs l s k).2
  | 0 => rfl
  | j + 1 => by
    show (rdNm l (rdNs l s (k + j)).2).2 = _
    rw [rdNs_err h j, rdNm_err h]
def rdSk (l : List UInt8) (o : Int) : Sk × RS :=
  let s1 := rdNm l ⟨o, 0⟩
  let s2 := rdNm l s1.2
  let s3 := rdCt l 32 s2.2
  let s4 := rdHs l s3.2 s3.1.toNat
  let s5 := rdFl l s4.2.2
  let s6 := rdNs l s5.2 256
  let s7 := rdCt l 17 s6.2
  let s8 := rdFs l s7.2 s7.1.toNat
  (⟨s1.1, s2.1, s4.1, s5.1, s6.1, s8.1, s8.2.1⟩, s8.2.2)
end Go.Proofs.YtoaklmceejeblaaGreat
