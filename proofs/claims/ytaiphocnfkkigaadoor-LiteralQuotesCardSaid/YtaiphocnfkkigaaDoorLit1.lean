/-
  The reference of package literal: letter, digit, IsIdent, Quote. Nothing that was there is changed.
-/
import Derived.Test.YtaiphocnfkkigaaDoorProg
import Derived.Test.YtaiphocnfkkigaaDoorStr
import Derived.Test.YtaiphocnfkkigaaDoorLitNum
import Derived.Test.YtaiphocnfkkigaaDoorLitUnq
import Derived.Outline
import Derived.OwnWalk
namespace Go.Proofs.YtaiphocnfkkigaaDoor
open Go.RowKit
set_option linter.unusedVariables false
set_option linter.unusedSimpArgs false

def isLet (c : UInt8) : Bool := decide (97 ≤ c.toNat) && decide (c.toNat ≤ 122)
theorem rletter_any (z : Int) (c : UInt8) (hz : z = (c.toNat : Int)) (w : World) : Calls Tryd.prog 32 #[.int .u8 z] w fun e w' => e = .returned (.bool (isLet c)) ∧ w = w' := by
  have h0 : 0 ≤ z := by omega
  have h1 : z < 256 := by have := c.toNat_lt; omega
  have HZ := hidden hz
  clear hz
  by_cases h2 : 97 ≤ z
  · by_cases h3 : z ≤ 122
    · have HE := hidden (show isLet c = true by unfold isLet; have := HZ.out; simp; omega)
      go_enter Tryd.func32, Tryd.ntmps32
      go_wp2
      go_ret
      exact ⟨retB HE.out.symm, rfl⟩
    · have HE := hidden (show isLet c = false by unfold isLet; have := HZ.out; simp; omega)
      have hd : decide (z ≤ 122) = false := by simpa using h3
      go_enter Tryd.func32, Tryd.ntmps32
      go_wp2
      go_ret
      exact ⟨retB HE.out.symm, rfl⟩
  · have HE := hidden (show isLet c = false by unfold isLet; have := HZ.out; simp; omega)
    have hd : decide (97 ≤ z) = false := by simpa using h2
    go_enter Tryd.func32, Tryd.ntmps32
    go_wp2
    go_ret
    exact ⟨retB HE.out.symm, rfl⟩
theorem rdigit_any (z : Int) (c : UInt8) (hz : z = (c.toNat : Int)) (w : World) : Calls Tryd.prog 33 #[.int .u8 z] w fun e w' => e = .returned (.bool (isDig c)) ∧ w = w' := by
  have h0 : 0 ≤ z := by omega
  have h1 : z < 256 := by have := c.toNat_lt; omega
  have HZ := hidden hz
  clear hz
  by_cases h2 : 48 ≤ z
  · by_cases h3 : z ≤ 57
    · have HE := hidden (show isDig c = true by unfold isDig; have := HZ.out; simp; omega)
      go_enter Tryd.func33, Tryd.ntmps33
      go_wp2
      go_ret
      exact ⟨retB HE.out.symm, rfl⟩
    · have HE := hidden (show isDig c = false by unfold isDig; have := HZ.out; simp; omega)
      have hd : decide (z ≤ 57) = false := by simpa using h3
      go_enter Tryd.func33, Tryd.ntmps33
      go_wp2
      go_ret
      exact ⟨retB HE.out.symm, rfl⟩
  · have HE := hidden (show isDig c = false by unfold isDig; have := HZ.out; simp; omega)
    have hd : decide (48 ≤ z) = false := by simpa using h2
    go_enter Tryd.func33, Tryd.ntmps33
    go_wp2
    go_ret
    exact ⟨retB HE.out.symm, rfl⟩
def QRel (w : World) (l : List UInt8) (out i : Value) (wr : World) : Prop := ∃ j : Nat, j ≤ l.length ∧ i = .int .i64 (j : Int) ∧ out = .string (strOf (39 :: dblQ (l.take j))) ∧ w = wr
set_option maxHeartbeats 1000000 in
theorem rquote_any (l : List UInt8) (w : World) (hl : l.length ≤ 4611686018427387900) : Calls Tryd.prog 20 #[.string (strOf l)] w fun e w' => e = .returned (.string (strOf (quoteL l))) ∧ w = w' := by
  have hs : (strOf l).size = l.length := rfl
  have HQ := hidden (show ∀ s : List UInt8, ByteArray.mk s.toArray = strOf s from fun _ => rfl)
  go_enter Tryd.func20, Tryd.ntmps20
  go_wp2_with fail
  go_loopw [3, 4] (fun out i wr => QRel w l out i wr) (fun _ i _ => l.length - (intOf i).toNat)
  case atStart => exact ⟨0, Nat.zero_le _, rfl, rfl, rfl⟩
  case round =>
    obtain ⟨j, hj, rfl, rfl, rfl⟩ := hrel
    by_cases hlt : j < l.length
    · obtain ⟨b, hb⟩ : ∃ b, l[j]? = some b := ⟨_, List.getElem?_eq_getElem hlt⟩
      have HTK := hidden (show l.take (j + 1) = l.take j ++ [b] by rw [List.take_add_one, hb]; rfl)
      have HBT := hidden hb
      have HSL := hidden (show (l.drop j).take (j + 1 - j) = [b] by
        have h1 : l[j] = b := by rw [List.getElem?_eq_getElem hlt] at hb; injection hb
        rw [List.drop_eq_getElem_cons hlt, show j + 1 - j = 0 + 1 by omega, List.take_succ_cons, List.take_zero, h1])
      have HLN := hidden (show (dblQ (l.take j)).length ≤ 9223372036854775801 by have := dblQ_length (l.take j); rw [List.length_take] at this; omega)
      have hji : (j : Int) < (l.length : Int) := by omega
      have hd : decide (j < l.length) = true := by simpa using hlt
      clear hb
      by_cases hq : b = 39
      · subst hq
        go_wp2_with (first
          | (refine wpList_index_l rfl _ _ 9 rfl Tryd.underlying9 l j 39 rfl rfl HBT.out 39 rfl ?_)
          | (refine wpList_slice_l rfl _ _ _ 9 rfl Tryd.underlying9 l j (j + 1) rfl rfl (by go_num) (by omega) (by omega) [39] HSL.out ?_)
          | (refine wpList_add_l rfl _ _ 9 rfl (39 :: dblQ (l.take j)) [39] rfl rfl (by have := HLN.out; simp only [List.length_cons, List.length_nil]; omega) ?_)
          | (refine wpList_add_l rfl _ _ 9 rfl (39 :: dblQ (l.take j) ++ [39]) [39] rfl rfl (by have := HLN.out; simp only [List.length_append, List.length_cons, List.length_nil]; omega) ?_))
        go_roundw
        case rel => exact ⟨j + 1, by omega, by go_num, by first | (rw [HTK.out, dblQ_snoc, if_pos rfl]; done) | (rw [HTK.out, dblQ_snoc, if_pos rfl]; simp), rfl⟩
        case measure => simp [intOf]; omega
      · obtain ⟨z, hz⟩ : ∃ z : Int, z = (b.toNat : Int) := ⟨_, rfl⟩
        have hz0 : 0 ≤ z := by omega
        have hz1 : z < 256 := by have := b.toNat_lt; omega
        have hz2 : z ≠ 39 := fun he => hq (UInt8.toNat_inj.1 (by rw [show b.toNat = 39 by omega]; rfl))
        have hz3 : (z == 39) = false := by simpa using hz2
        have HZ := hidden hz
        have HNQ := hidden hq
        clear hz hq hz2
        go_wp2_with (first
          | (refine wpList_index_l rfl _ _ 9 rfl Tryd.underlying9 l j b rfl rfl HBT.out z HZ.out ?_)
          | (refine wpList_slice_l rfl _ _ _ 9 rfl Tryd.underlying9 l j (j + 1) rfl rfl (by go_num) (by omega) (by omega) [b] HSL.out ?_)
          | (refine wpList_add_l rfl _ _ 9 rfl (39 :: dblQ (l.take j)) [b] rfl rfl (by have := HLN.out; simp only [List.length_cons, List.length_nil]; omega) ?_))
        go_roundw
        case rel => exact ⟨j + 1, by omega, by go_num, by rw [HTK.out, dblQ_snoc, if_neg HNQ.out], rfl⟩
        case measure => simp [intOf]; omega
    · have hd : decide (j < l.length) = false := by simpa using hlt
      have HE := hidden (show l.take j = l from List.take_of_length_le (by omega))
      have HLN := hidden (show (dblQ (l.take j)).length ≤ 9223372036854775801 by have := dblQ_length (l.take j); rw [List.length_take] at this; omega)
      go_wp2_with (refine wpList_add_l rfl _ _ 9 rfl (39 :: dblQ (l.take j)) [39] rfl rfl (by have := HLN.out; simp only [List.length_cons, List.length_nil]; omega) ?_)
      go_ret
      refine ⟨?_, rfl⟩
      rw [HE.out]
      rfl
end Go.Proofs.YtaiphocnfkkigaaDoor
