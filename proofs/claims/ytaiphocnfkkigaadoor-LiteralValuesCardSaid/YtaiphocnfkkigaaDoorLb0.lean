/-
  Package literal as it landed: isLetter, isDigit, IsIdent, quotesAreDoubled. Nothing that was there is changed.
-/
import Derived.Test.YtaiphocnfkkigaaDoorProg
import Derived.Test.YtaiphocnfkkigaaDoorRng
import Derived.Test.YtaiphocnfkkigaaDoorLit1
import Derived.Test.YtaiphocnfkkigaaDoorLit2
namespace Go.Proofs.YtaiphocnfkkigaaDoor
open Go.RowKit
set_option linter.unusedVariables false
set_option linter.unusedSimpArgs false

theorem lletter_any (z : Int) (w : World) : Calls Tryd.prog 30 #[.int .i32 z] w fun e w' => e = .returned (.bool (decide (97 ≤ z) && decide (z ≤ 122))) ∧ w = w' := by
  by_cases h2 : 97 ≤ z
  · by_cases h3 : z ≤ 122
    · go_enter Tryd.func30, Tryd.ntmps30
      go_wp2
      go_ret
      exact ⟨retB (by simp [h2, h3]), rfl⟩
    · have hd : decide (z ≤ 122) = false := by simpa using h3
      go_enter Tryd.func30, Tryd.ntmps30
      go_wp2
      go_ret
      exact ⟨retB (by simp [h2, h3]), rfl⟩
  · have hd : decide (97 ≤ z) = false := by simpa using h2
    go_enter Tryd.func30, Tryd.ntmps30
    go_wp2
    go_ret
    exact ⟨retB (by simp [h2]), rfl⟩
theorem ldigit_any (z : Int) (w : World) : Calls Tryd.prog 31 #[.int .i32 z] w fun e w' => e = .returned (.bool (decide (48 ≤ z) && decide (z ≤ 57))) ∧ w = w' := by
  by_cases h2 : 48 ≤ z
  · by_cases h3 : z ≤ 57
    · go_enter Tryd.func31, Tryd.ntmps31
      go_wp2
      go_ret
      exact ⟨retB (by simp [h2, h3]), rfl⟩
    · have hd : decide (z ≤ 57) = false := by simpa using h3
      go_enter Tryd.func31, Tryd.ntmps31
      go_wp2
      go_ret
      exact ⟨retB (by simp [h2, h3]), rfl⟩
  · have hd : decide (48 ≤ z) = false := by simpa using h2
    go_enter Tryd.func31, Tryd.ntmps31
    go_wp2
    go_ret
    exact ⟨retB (by simp [h2]), rfl⟩
/-- what the rune of a character tells of its first byte -/
theorem rune_let {b : UInt8} {z : Nat} (h1 : b.toNat < 128 → z = b.toNat) (h2 : 128 ≤ b.toNat → 128 ≤ z) : (decide ((97 : Int) ≤ (z : Int)) && decide ((z : Int) ≤ 122)) = isLet b := by
  unfold isLet
  rcases Nat.lt_or_ge b.toNat 128 with h | h
  · have := h1 h
    have e1 : decide ((97 : Int) ≤ (z : Int)) = decide (97 ≤ b.toNat) := by rw [decide_eq_decide]; omega
    have e2 : decide ((z : Int) ≤ 122) = decide (b.toNat ≤ 122) := by rw [decide_eq_decide]; omega
    rw [e1, e2]
  · have := h2 h
    have e2 : decide ((z : Int) ≤ 122) = false := by simp; omega
    have e3 : decide (b.toNat ≤ 122) = false := by simp; omega
    rw [e2, e3, Bool.and_false, Bool.and_false]
theorem rune_dig {b : UInt8} {z : Nat} (h1 : b.toNat < 128 → z = b.toNat) (h2 : 128 ≤ b.toNat → 128 ≤ z) : (decide ((48 : Int) ≤ (z : Int)) && decide ((z : Int) ≤ 57)) = isDig b := by
  unfold isDig
  rcases Nat.lt_or_ge b.toNat 128 with h | h
  · have := h1 h
    have e1 : decide ((48 : Int) ≤ (z : Int)) = decide (48 ≤ b.toNat) := by rw [decide_eq_decide]; omega
    have e2 : decide ((z : Int) ≤ 57) = decide (b.toNat ≤ 57) := by rw [decide_eq_decide]; omega
    rw [e1, e2]
  · have := h2 h
    have e2 : decide ((z : Int) ≤ 57) = false := by simp; omega
    have e3 : decide (b.toNat ≤ 57) = false := by simp; omega
    rw [e2, e3, Bool.and_false, Bool.and_false]
theorem rune_is {b : UInt8} {z : Nat} (c : UInt8) (hc : c.toNat < 128) (h1 : b.toNat < 128 → z = b.toNat) (h2 : 128 ≤ b.toNat → 128 ≤ z) : z = c.toNat ↔ b = c := by
  constructor
  · intro h
    rcases Nat.lt_or_ge b.toNat 128 with h3 | h3
    · have := h1 h3
      exact UInt8.toNat_inj.1 (by omega)
    · have := h2 h3
      omega
  · rintro rfl
    exact h1 hc
/-- identifiers byte by byte -/
def idGo : Nat → List UInt8 → Bool
  | _, [] => true
  | i, c :: r => (isLet c || (i != 0 && isPart c)) && idGo (i + 1) r
theorem idGo_succ : ∀ (r : List UInt8) (i : Nat), idGo (i + 1) r = r.all isPart
  | [], _ => rfl
  | c :: r, i => by
    rw [idGo, idGo_succ r (i + 1), List.all_cons]
    congr 1
    unfold isPart
    cases isLet c <;> simp
theorem idGo_ident (c : UInt8) (r : List UInt8) (h : r.length ≤ 31) : identL (c :: r) = idGo 0 (c :: r) := by
  rw [identL_cons, idGo, idGo_succ]
  simp [h]
theorem idGo_high {b : UInt8} (h : 128 ≤ b.toNat) (i : Nat) (r : List UInt8) : idGo i (b :: r) = false := by
  have h1 : isLet b = false := by unfold isLet; simp; omega
  have h2 : isDig b = false := by unfold isDig; simp; omega
  have h3 : isPart b = false := by unfold isPart; rw [h1, h2]; simp; intro e; rw [e] at h; exact absurd h (by decide)
  rw [idGo, h1, h3]
  simp
def LIdRel (w : World) (l : List UInt8) (wr : World) : Prop := ∃ pos : Nat, pos ≤ l.length ∧ idGo 0 l = idGo pos (l.drop pos) ∧ wr = w.iter (strOf l) pos
set_option maxHeartbeats 4000000 in
theorem lident_any (l : List UInt8) (w : World) (hl : l.length ≤ 4611686018427387900) : Calls Tryd.prog 10 #[.string (strOf l)] w fun e w' => e = .returned (.bool (identL l)) ∧ Grows w w' := by
  cases l with
  | nil =>
    have hle : (strOf []).toList.isEmpty = true := by rw [strOf_toList]; rfl
    have HE := hidden (show identL [] = false from rfl)
    have HG := hidden (Below.refl w.heap.size w)
    clear hl
    go_enter Tryd.func10, Tryd.ntmps10
    go_wp2_with fail
    go_ret
    exact ⟨retB HE.out.symm, HG.out⟩
  | cons c0 r0 =>
    have hle : (strOf (c0 :: r0)).toList.isEmpty = false := by rw [strOf_toList]; rfl
    have HG := hidden (Below.refl w.heap.size w)
    have HI := hidden (fun pos => iter_grows w (strOf (c0 :: r0)) pos)
    by_cases h31 : r0.length ≤ 31
    · have HE := hidden (idGo_ident c0 r0 h31)
      have hs : (strOf (c0 :: r0)).size = r0.length + 1 := rfl
      obtain ⟨l, hL⟩ : ∃ l, l = c0 :: r0 := ⟨_, rfl⟩
      rw [← hL] at hle HE HI hs ⊢
      have hln : l.length = r0.length + 1 := by rw [hL]; rfl
      have hd32 : decide ((32 : Int) < (r0.length : Int) + 1) = false := by simp; omega
      clear hL hl
      go_enter Tryd.func10, Tryd.ntmps10
      go_wp2_with fail
      go_loopw [] (fun wr => LIdRel w l wr) (fun wr => l.length - wr.iterPos w.heap.size)
      case atStart => exact ⟨0, Nat.zero_le _, rfl, rfl⟩
      case round =>
        obtain ⟨pos, hp, hgo, rfl⟩ := hrel
        have HGO := hidden hgo
        clear hgo
        by_cases hlt : pos < l.length
        · obtain ⟨b, hb⟩ := at_of_lt hlt
          obtain ⟨z, d, hd1, hz, hlo, hhi, htl, hnx⟩ := rune_step Tryd.prog w hb
          have HLT := hidden (fun w => lletter_any (z : Int) w)
          have HDG := hidden (fun w => ldigit_any (z : Int) w)
          rw [rune_let (fun h => (hlo h).1) hhi] at HLT
          rw [rune_dig (fun h => (hlo h).1) hhi] at HDG
          have HST := hidden (show idGo 0 l = ((isLet b || (pos != 0 && isPart b)) && idGo (pos + 1) (l.drop (pos + 1))) by rw [HGO.out, drop_at hb]; rfl)
          have H95 := hidden (rune_is 95 (by decide) (fun h => (hlo h).1) hhi)
          have HLO := hidden hlo
          have HPL := hidden (lt_of_at hb)
          have HW := hidden (show isLet b = true ∨ isDig b = true ∨ b = 95 → d = 1 from fun h => by
            refine (hlo ?_).2
            rcases h with h | h | h
            · unfold isLet at h; simp at h; omega
            · unfold isDig at h; simp at h; omega
            · rw [h]; decide)
          clear hlo hhi htl hb
          cases hlb : isLet b
          · by_cases hp0 : pos = 0
            · have HN := hidden (show idGo 0 l = false by rw [HST.out, hlb, hp0]; rfl)
              rw [hlb] at HLT
              subst hp0
              clear hlb
              go_wp2_with fail
              refine (HLT.out _).mono ?_
              rintro e w2 ⟨rfl, rfl⟩
              go_wp2_with fail
              go_ret
              exact ⟨retB (by rw [HE.out, HN.out]), HI.out _⟩
            · have hp0b : ((pos : Int) == 0) = false := by simp; omega
              cases hdb : isDig b
              · by_cases h95 : b = 95
                · have hz95 := H95.out.2 h95
                  have hz95b : ((z : Int) == 95) = true := by rw [hz95]; decide
                  have hz95n : (z : Int) = 95 := by rw [hz95]; rfl
                  have HD1 := hidden (HW.out (.inr (.inr h95)))
                  have HN := hidden (show idGo 0 l = idGo (pos + 1) (l.drop (pos + 1)) by rw [HST.out, hlb, h95]; have : (pos != 0) = true := by simpa using hp0
                                                                                          rw [this]; rfl)
                  rw [hlb] at HLT
                  rw [hdb] at HDG
                  clear hlb hdb h95 hz95
                  rw [hz95n] at hnx HLT HDG
                  go_wp2_with fail
                  refine (HLT.out _).mono ?_
                  rintro e w2 ⟨rfl, rfl⟩
                  go_wp2_with fail
                  refine (HDG.out _).mono ?_
                  rintro e w3 ⟨rfl, rfl⟩
                  go_wp2_with fail
                  go_roundw
                  case rel => exact ⟨pos + 1, by omega, HN.out, by rw [HD1.out]⟩
                  case measure => simp; omega
                · have hz95 : ¬ (z = 95) := fun h => h95 (H95.out.1 h)
                  have hz95b : ((z : Int) == 95) = false := by simp; omega
                  have HN := hidden (show idGo 0 l = false by
                    have : isPart b = false := by unfold isPart; rw [hlb, hdb]; simp [h95]
                    rw [HST.out, hlb, this]
                    simp)
                  rw [hlb] at HLT
                  rw [hdb] at HDG
                  clear hlb hdb h95 hz95
                  go_wp2_with fail
                  refine (HLT.out _).mono ?_
                  rintro e w2 ⟨rfl, rfl⟩
                  go_wp2_with fail
                  refine (HDG.out _).mono ?_
                  rintro e w3 ⟨rfl, rfl⟩
                  go_wp2_with fail
                  go_ret
                  exact ⟨retB (by rw [HE.out, HN.out]), HI.out _⟩
              · have HD1 := hidden (HW.out (.inr (.inl hdb)))
                have HN := hidden (show idGo 0 l = idGo (pos + 1) (l.drop (pos + 1)) by
                  have h1 : isPart b = true := by unfold isPart; rw [hdb]; simp
                  have h2 : (pos != 0) = true := by simpa using hp0
                  rw [HST.out, h1, h2]
                  simp)
                rw [hlb] at HLT
                rw [hdb] at HDG
                clear hlb hdb
                go_wp2_with fail
                refine (HLT.out _).mono ?_
                rintro e w2 ⟨rfl, rfl⟩
                go_wp2_with fail
                refine (HDG.out _).mono ?_
                rintro e w3 ⟨rfl, rfl⟩
                go_wp2_with fail
                go_roundw
                case rel => exact ⟨pos + 1, by omega, HN.out, by rw [HD1.out]⟩
                case measure => simp; omega
          · have HD1 := hidden (HW.out (.inl hlb))
            have HN := hidden (show idGo 0 l = idGo (pos + 1) (l.drop (pos + 1)) by rw [HST.out, hlb]; simp)
            rw [hlb] at HLT
            clear hlb
            go_wp2_with fail
            refine (HLT.out _).mono ?_
            rintro e w2 ⟨rfl, rfl⟩
            go_wp2_with fail
            go_roundw
            case rel => exact ⟨pos + 1, by omega, HN.out, by rw [HD1.out]⟩
            case measure => simp; omega
        · have hnx := rune_end Tryd.prog w (l := l) (pos := pos) (by omega)
          have HN := hidden (show idGo 0 l = true by rw [HGO.out, List.drop_of_length_le (by omega)]; rfl)
          go_wp2_with fail
          go_ret
          exact ⟨retB (by rw [HE.out, HN.out]), HI.out _⟩
    · have HE := hidden (show identL (c0 :: r0) = false by rw [identL_cons]; simp [h31])
      have hs : (strOf (c0 :: r0)).size = r0.length + 1 := rfl
      have hd32 : decide ((32 : Int) < (r0.length : Int) + 1) = true := by simp; omega
      go_enter Tryd.func10, Tryd.ntmps10
      go_wp2_with fail
      go_ret
      exact ⟨retB HE.out.symm, HG.out⟩
def LQdRel (w : World) (l : List UInt8) (q : Value) (wr : World) : Prop := ∃ (pos : Nat) (st : Bool), pos ≤ l.length ∧ q = .bool st ∧ qd false l = qd st (l.drop pos) ∧ wr = w.iter (strOf l) pos
set_option maxHeartbeats 4000000 in
theorem lquotes_any (l : List UInt8) (w : World) (hl : l.length ≤ 4611686018427387900) : Calls Tryd.prog 39 #[.string (strOf l)] w fun e w' => e = .returned (.bool (qd false l)) ∧ Grows w w' := by
  have HI := hidden (fun pos => iter_grows w (strOf l) pos)
  go_enter Tryd.func39, Tryd.ntmps39
  go_wp2_with fail
  go_loopw [3] (fun q wr => LQdRel w l q wr) (fun _ wr => l.length - wr.iterPos w.heap.size)
  case atStart => exact ⟨0, false, Nat.zero_le _, rfl, rfl, rfl⟩
  case round =>
    obtain ⟨pos, st, hp, rfl, hgo, rfl⟩ := hrel
    have HGO := hidden hgo
    clear hgo
    by_cases hlt : pos < l.length
    · obtain ⟨b, hb⟩ := at_of_lt hlt
      obtain ⟨z, d, hd1, hz, hlo, hhi, htl, hnx⟩ := rune_step Tryd.prog w hb
      have H39 := rune_is 39 (by decide) (fun h => (hlo h).1) hhi
      by_cases h39 : b = 39
      · have hz39 := H39.2 h39
        have hz39n : (z : Int) = 39 := by rw [hz39]; rfl
        have HD1 := hidden ((hlo (by rw [h39]; decide)).2)
        have HN := hidden (show qd false l = qd (!st) (l.drop (pos + 1)) by rw [HGO.out, drop_at hb, h39, qd_quote])
        clear hlo hhi htl hb H39 h39 hz39
        rw [hz39n] at hnx
        go_wp2_with fail
        go_roundw
        case rel => exact ⟨pos + 1, !st, by omega, rfl, HN.out, by rw [HD1.out]⟩
        case measure => simp; omega
      · have hz39 : ¬ (z = 39) := fun h => h39 (H39.1 h)
        have hz39b : ((z : Int) == 39) = false := by simp; omega
        cases st with
        | true =>
          have HN := hidden (show qd false l = false by rw [HGO.out, drop_at hb, qd_odd h39])
          clear hlo hhi htl hb H39 h39 hz39
          go_wp2_with fail
          go_ret
          exact ⟨retB HN.out.symm, HI.out _⟩
        | false =>
          have HN := hidden (show qd false l = qd false (l.drop (pos + d)) ∧ pos + d ≤ l.length by
            rcases Nat.lt_or_ge b.toNat 128 with h | h
            · rw [(hlo h).2, HGO.out, drop_at hb, qd_even h39]
              exact ⟨rfl, hlt⟩
            · obtain ⟨c, hc, _⟩ := htl h (d - 1) (by omega)
              have := lt_of_at hc
              exact ⟨by rw [HGO.out, qd_over d pos (htl h)], by omega⟩)
          clear hlo hhi htl hb H39 h39 hz39
          go_wp2_with fail
          go_roundw
          case rel => exact ⟨pos + d, false, HN.out.2, rfl, HN.out.1, rfl⟩
          case measure => simp; have := HN.out.2; omega
    · have hnx := rune_end Tryd.prog w (l := l) (pos := pos) (by omega)
      have HN := hidden (show qd false l = !st by rw [HGO.out, List.drop_of_length_le (by omega)]; rfl)
      go_wp2_with fail
      go_ret
      exact ⟨retB HN.out.symm, HI.out _⟩
end Go.Proofs.YtaiphocnfkkigaaDoor
