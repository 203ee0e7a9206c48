/-
  The reference of package literal: IsIdent. Nothing that was there is changed.
-/
import Derived.Test.YtaiphocnfkkigaaDoorLit1
namespace Go.Proofs.YtaiphocnfkkigaaDoor
open Go.RowKit
set_option linter.unusedVariables false
set_option linter.unusedSimpArgs false

def isPart (c : UInt8) : Bool := isLet c || isDig c || c == 95
def identL : List UInt8 → Bool
  | [] => false
  | c :: r => decide (r.length ≤ 31) && isLet c && r.all isPart
theorem identL_cons (c : UInt8) (r : List UInt8) : identL (c :: r) = (decide (r.length ≤ 31) && isLet c && r.all isPart) := rfl
def IdRel (w : World) (r : List UInt8) (i : Value) (wr : World) : Prop := ∃ j : Nat, j ≤ r.length ∧ i = .int .i64 ((j : Int) + 1) ∧ (r.take j).all isPart = true ∧ w = wr
set_option maxHeartbeats 2000000 in
theorem rident_any (l : List UInt8) (w : World) (hl : l.length ≤ 4611686018427387900) : Calls Tryd.prog 11 #[.string (strOf l)] w fun e w' => e = .returned (.bool (identL l)) ∧ w = w' := by
  have hs : (strOf l).size = l.length := rfl
  cases l with
  | nil =>
    have HE := hidden (show identL [] = false from rfl)
    clear hl
    go_enter Tryd.func11, Tryd.ntmps11
    go_wp2_with fail
    go_ret
    exact ⟨retB HE.out.symm, rfl⟩
  | cons c r =>
    have HS : Hid ((strOf (c :: r)).size = r.length + 1) := rfl
    by_cases h31 : r.length ≤ 31
    · have hg0 := strOf_get (l := c :: r) (j := 0) (b := c) rfl
      have HL := hidden (fun w => rletter_any (c.toNat : Int) c rfl w)
      cases hlc : isLet c
      · have HE := hidden (show identL (c :: r) = false by rw [identL_cons, hlc]; simp)
        rw [hlc] at HL
        clear hl hlc
        go_enter Tryd.func11, Tryd.ntmps11
        go_wp2_with fail
        refine (HL.out _).mono ?_
        rintro e w2 ⟨rfl, rfl⟩
        go_wp2_with fail
        go_ret
        exact ⟨retB HE.out.symm, rfl⟩
      · have HE := hidden (show identL (c :: r) = r.all isPart by rw [identL_cons, hlc]; simp [h31])
        rw [hlc] at HL
        clear hlc
        go_enter Tryd.func11, Tryd.ntmps11
        go_wp2_with fail
        refine (HL.out _).mono ?_
        rintro e w2 ⟨rfl, rfl⟩
        clear hg0
        go_wp2_with fail
        go_loopw [3] (fun i wr => IdRel w r i wr) (fun i _ => r.length + 1 - (intOf i).toNat)
        case atStart => exact ⟨0, Nat.zero_le _, rfl, rfl, rfl⟩
        case round =>
          obtain ⟨j, hj, rfl, hall, rfl⟩ := hrel
          have HALL := hidden hall
          clear hall
          by_cases hlt : j < r.length
          · obtain ⟨b, hb⟩ : ∃ b, r[j]? = some b := ⟨_, List.getElem?_eq_getElem hlt⟩
            have hg := strOf_get (l := c :: r) (j := j + 1) (b := b) hb
            have HTK := hidden (show (r.take (j + 1)).all isPart = ((r.take j).all isPart && isPart b) by rw [List.take_add_one, hb]; simp)
            have HNO := hidden (show isPart b = false → r.all isPart = false from fun h => by
              rw [List.all_eq_false]
              exact ⟨b, List.mem_of_getElem? hb, by simp [h]⟩)
            have HLB := hidden (fun w => rletter_any (b.toNat : Int) b rfl w)
            have HDB := hidden (fun w => rdigit_any (b.toNat : Int) b rfl w)
            have hji : (j : Int) + 1 < (r.length : Int) + 1 := by omega
            have hd : decide (j < r.length) = true := by simpa using hlt
            clear hb hl
            cases hlb : isLet b
            · cases hdb : isDig b
              · by_cases h95 : b = 95
                · have HP := hidden (show isPart b = true by unfold isPart; rw [h95]; rfl)
                  have h95n : (b.toNat : Int) = 95 := by rw [h95]; rfl
                  rw [hlb, h95n] at HLB
                  rw [hdb, h95n] at HDB
                  clear hlb hdb h95
                  go_wp2_with fail
                  refine (HLB.out _).mono ?_
                  rintro e w3 ⟨rfl, rfl⟩
                  go_wp2_with fail
                  refine (HDB.out _).mono ?_
                  rintro e w4 ⟨rfl, rfl⟩
                  go_wp2_with fail
                  go_roundw
                  case rel => exact ⟨j + 1, by omega, by go_num, by rw [HTK.out, HALL.out, HP.out]; rfl, rfl⟩
                  case measure => simp [intOf]; omega
                · have HP := hidden (HNO.out (show isPart b = false by unfold isPart; rw [hlb, hdb]; simp [h95]))
                  have h95n : ¬ (b.toNat : Int) = 95 := fun he => h95 (UInt8.toNat_inj.1 (by rw [show b.toNat = 95 by omega]; rfl))
                  have h95b : ((b.toNat : Int) == 95) = false := by simpa using h95n
                  rw [hlb] at HLB
                  rw [hdb] at HDB
                  clear hlb hdb h95 h95n
                  go_wp2_with fail
                  refine (HLB.out _).mono ?_
                  rintro e w3 ⟨rfl, rfl⟩
                  go_wp2_with fail
                  refine (HDB.out _).mono ?_
                  rintro e w4 ⟨rfl, rfl⟩
                  go_wp2_with fail
                  go_ret
                  exact ⟨retB (by rw [HE.out, HP.out]), rfl⟩
              · have HP := hidden (show isPart b = true by unfold isPart; rw [hlb, hdb]; rfl)
                rw [hlb] at HLB
                rw [hdb] at HDB
                clear hlb hdb
                go_wp2_with fail
                refine (HLB.out _).mono ?_
                rintro e w3 ⟨rfl, rfl⟩
                go_wp2_with fail
                refine (HDB.out _).mono ?_
                rintro e w4 ⟨rfl, rfl⟩
                go_wp2_with fail
                go_roundw
                case rel => exact ⟨j + 1, by omega, by go_num, by rw [HTK.out, HALL.out, HP.out]; rfl, rfl⟩
                case measure => simp [intOf]; omega
            · have HP := hidden (show isPart b = true by unfold isPart; rw [hlb]; rfl)
              rw [hlb] at HLB
              clear hlb
              go_wp2_with fail
              refine (HLB.out _).mono ?_
              rintro e w3 ⟨rfl, rfl⟩
              go_wp2_with fail
              go_roundw
              case rel => exact ⟨j + 1, by omega, by go_num, by rw [HTK.out, HALL.out, HP.out]; rfl, rfl⟩
              case measure => simp [intOf]; omega
          · have HP := hidden (show r.all isPart = true by have h := HALL.out; rwa [List.take_of_length_le (by omega)] at h)
            have hd : decide (j < r.length) = false := by simpa using hlt
            go_wp2_with fail
            go_ret
            exact ⟨retB (by rw [HE.out, HP.out]), rfl⟩
    · have HE := hidden (show identL (c :: r) = false by rw [identL_cons]; simp [h31])
      go_enter Tryd.func11, Tryd.ntmps11
      go_wp2_with fail
      go_ret
      exact ⟨retB HE.out.symm, rfl⟩
end Go.Proofs.YtaiphocnfkkigaaDoor
