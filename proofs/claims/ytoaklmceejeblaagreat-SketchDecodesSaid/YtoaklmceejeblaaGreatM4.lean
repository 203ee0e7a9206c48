/-
  Texts that the claims of this seat share, put together (Bq1, VFix, VRead, Dec, LdNum). No condition.
-/
import Derived.Test.YtoaklmceejeblaaGreatM2
import Derived.Test.YtoaklmceejeblaaGreatM3
import Derived.Test.YtoaklmceejeblaaGreatProg
import Derived.Test.YtoaklmceejeblaaGreatM1
import Derived.WalkKit
import Derived.Outline
import Derived.OwnWalk
/-
  Shaken: what the claims of this seat need of this text. No condition.
-/
namespace Go.Proofs.YtoaklmceejeblaaGreat
set_option maxRecDepth 8000
open Go.RowKit
set_option linter.unusedVariables false
set_option linter.unusedSimpArgs false
end Go.Proofs.YtoaklmceejeblaaGreat
/-
  Shaken: what the claims of this seat need of this text. No condition.
-/
namespace Go.Proofs.YtoaklmceejeblaaGreat
set_option maxRecDepth 8000
open Go.RowKit
def Made (l : List UInt8) (w : World) (e : Ending) (w' : World) : Prop :=
  ∃ v, e = .returned v ∧ w'.ownsRow w.heap.size 5 1 v l.length (bcells l) ∧ Below w.heap.size w w'
theorem Made.nil_ {w : World} : Made [] w (.returned (.slice none 0 0)) w := ⟨_, rfl, World.ownsRow_nil _ _ _ _, Below.refl _ _⟩
end Go.Proofs.YtoaklmceejeblaaGreat
/-
  Shaken: what the claims of this seat need of this text. No condition.
-/
namespace Go.Proofs.YtoaklmceejeblaaGreat
set_option maxRecDepth 8000
open Go.RowKit
theorem validOffset_t (A : Option Addr) (n c : Nat) (off : Int) (w : World) (_hn : n ≤ maxLen) (h0 : 0 ≤ off) (h1 : off ≤ n) :
    Calls Tryz.prog 187 #[.slice A n c, .int .i64 off] w fun e w' => e = .returned (.bool true) ∧ w = w' := by
  go_enter Tryz.func187, Tryz.ntmps187
  go_wp2
  go_ret
  exact ⟨rfl, rfl⟩
theorem validOffset_f (A : Option Addr) (n c : Nat) (off : Int) (w : World) (_hn : n ≤ maxLen) (h : off < 0 ∨ (n : Int) < off) :
    Calls Tryz.prog 187 #[.slice A n c, .int .i64 off] w fun e w' => e = .returned (.bool false) ∧ w = w' := by
  by_cases h0 : off < 0
  · clear h
    go_enter Tryz.func187, Tryz.ntmps187
    go_wp2
    go_ret
    exact ⟨rfl, rfl⟩
  · have h1 : (n : Int) < off := by omega
    have h2 : 0 ≤ off := by omega
    have hd : decide (off ≤ (n : Int)) = false := by simpa using h1
    clear h h0
    go_enter Tryz.func187, Tryz.ntmps187
    go_wp2
    go_ret
    exact ⟨rfl, rfl⟩
end Go.Proofs.YtoaklmceejeblaaGreat
/-
  Shaken: what the claims of this seat need of this text. No condition.
-/
namespace Go.Proofs.YtoaklmceejeblaaGreat
open Go.RowKit
theorem ret3_eq {k1 k2 k3 : IntKind} {a b c a' b' c' : Int} (h1 : a = a') (h2 : b = b') (h3 : c = c') :
    Ending.returned (.tuple #[.int k1 a, .int k2 b, .int k3 c]) = .returned (.tuple #[.int k1 a', .int k2 b', .int k3 c']) := by rw [h1, h2, h3]
def grpOk (i : Nat) (c : UInt8) : Bool := !((decide (i = 9) && decide (1 < c.toNat)) || (decide (0 < i) && decide (c.toNat = 0)))
theorem grpOk_t {i : Nat} {c : UInt8} (h : grpOk i c = true) : ¬ ((i = 9 ∧ 1 < c.toNat) ∨ (0 < i ∧ c.toNat = 0)) := by
  simp only [grpOk, Bool.not_eq_true', Bool.or_eq_false_iff, Bool.and_eq_false_iff, decide_eq_false_iff_not] at h
  omega
theorem grpOk_f {i : Nat} {c : UInt8} (h : grpOk i c = false) : (i = 9 ∧ 1 < c.toNat) ∨ (0 < i ∧ c.toNat = 0) := by
  simp only [grpOk, Bool.not_eq_false', Bool.or_eq_true, Bool.and_eq_true, decide_eq_true_eq] at h
  exact h
theorem validGroup_any (i : Nat) (c : UInt8) (w : World) (hi : i ≤ 1000) :
    Calls Tryz.prog 188 #[.int .i64 (i : Int), .int .u8 (c.toNat : Int)] w fun e w' => e = .returned (.bool (grpOk i c)) ∧ w = w' := by
  have hcl : c.toNat < 256 := c.toNat_lt
  generalize hg : grpOk i c = g
  have HG := hidden hg
  clear hg
  by_cases h9 : i = 9
  · subst h9
    by_cases hc : 1 < c.toNat
    · go_enter Tryz.func188, Tryz.ntmps188
      go_wp2
      go_ret
      refine ⟨?_, rfl⟩
      rw [← HG.out]
      simp [grpOk, hc]
    · by_cases hz : c.toNat = 0
      · have ht : ((c.toNat : Int) != 0) = false := by simpa using hz
        have hf : ((c.toNat : Int) == 0) = true := by simpa using hz
        have HZ := hidden hz
        clear hz
        go_enter Tryz.func188, Tryz.ntmps188
        go_wp2
        go_ret
        refine ⟨?_, rfl⟩
        rw [← HG.out]
        simp [grpOk, HZ.out]
      · have ht : ((c.toNat : Int) != 0) = true := by simpa using hz
        go_enter Tryz.func188, Tryz.ntmps188
        go_wp2
        go_ret
        refine ⟨?_, rfl⟩
        rw [← HG.out]
        simp [grpOk, hz]
        omega
  · have h9' : ((i : Int) == 9) = false := by simp; omega
    by_cases h0 : i = 0
    · subst h0
      go_enter Tryz.func188, Tryz.ntmps188
      go_wp2
      go_ret
      refine ⟨?_, rfl⟩
      rw [← HG.out]
      simp [grpOk]
    · have h0' : ((i : Int) == 0) = false := by simp; omega
      by_cases hz : c.toNat = 0
      · have ht : ((c.toNat : Int) != 0) = false := by simpa using hz
        have HZ := hidden hz
        clear hz
        go_enter Tryz.func188, Tryz.ntmps188
        go_wp2
        go_ret
        refine ⟨?_, rfl⟩
        rw [← HG.out]
        simp [grpOk, HZ.out]
        omega
      · have ht : ((c.toNat : Int) != 0) = true := by simpa using hz
        go_enter Tryz.func188, Tryz.ntmps188
        go_wp2
        go_ret
        refine ⟨?_, rfl⟩
        rw [← HG.out]
        simp [grpOk, hz, h9]
set_option maxHeartbeats 400000 in
set_option maxRecDepth 100000 in
theorem decode_any (v : Value) (l : List UInt8) (off : Int) (w : World) (hv : IsBytes w v l) (hl : l.length ≤ maxLen) (h63 : -9223372036854775808 ≤ off) (h64 : off ≤ 9223372036854775807) :
    Calls Tryz.prog 179 #[v, .int .i64 off] w fun e w' => e = .returned (.tuple #[.int .u64 (dcd l off).1, .int .i64 (dcd l off).2.1, .int .i64 (dcd l off).2.2]) ∧ w = w' := by
  obtain ⟨A, c, rfl, hc⟩ := hv
  by_cases hbad : off < 0 ∨ (l.length : Int) < off
  · have HD := hidden (dcd_bad hbad)
    go_enter Tryz.func179, Tryz.ntmps179
    go_wp2_with ((go_at_call 187; refine (validOffset_f A l.length c off _ hl hbad).mono ?_; rintro e w' ⟨rfl, rfl⟩))
    go_ret3
    rw [HD.out]
    exact ⟨rfl, rfl⟩
  · have h0 : 0 ≤ off := by omega
    have h1 : off ≤ (l.length : Int) := by omega
    obtain ⟨o, rfl⟩ := Int.eq_ofNat_of_zero_le h0
    have HB := hidden hbad
    clear hbad
    unfold maxLen at hl
    have hcell : ∀ j, (h : j < l.length) → ∃ b f, A = some ⟨b, f, none⟩ ∧ w.cell? ⟨b, f + j, none⟩ = some (.int .u8 (l[j].toNat : Int)) := fun j hj => by
      obtain ⟨b, f, e, h⟩ := hc (by omega)
      exact ⟨b, f, e, h j hj⟩
    clear hc
    have HC := hidden hcell
    clear hcell
    go_enter Tryz.func179, Tryz.ntmps179
    go_wp2_with ((go_at_call 187; refine (validOffset_t A l.length c o _ (by unfold maxLen; omega) (by omega) (by omega)).mono ?_; rintro e w' ⟨rfl, rfl⟩))
    go_loop [7, 18] (fun n i => ∃ k x : Nat, o + k ≤ l.length ∧ k ≤ 9 ∧ x < 128 ^ k ∧ i = .int .i64 k ∧ n = .int .u64 x ∧ dec 0 0 (l.drop o) = dec k x (l.drop (o + k))) (fun _ i => l.length - (intOf i).toNat)
    case atStart => exact ⟨0, 0, by omega, by omega, by decide, rfl, rfl, rfl⟩
    case round =>
      obtain ⟨k, x, hk, hk9, hx, rfl, rfl, hdec⟩ := hrel
      have HX := hidden hdec
      clear hdec
      have HL := hidden hx
      clear hx
      by_cases hlt : o + k < l.length
      · obtain ⟨b, f, rfl, hcl⟩ := HC.out (o + k) hlt
        generalize hcc : l[o + k] = cc at hcl
        have hdrop : Hid (l.drop (o + k) = cc :: l.drop (o + (k + 1))) := by
          show l.drop (o + k) = cc :: l.drop (o + (k + 1))
          rw [← hcc, List.drop_eq_getElem_cons hlt]; rfl
        clear hcc
        have hcb : cc.toNat < 256 := cc.toNat_lt
        cases hg : grpOk k cc with
        | false =>
          have HG := hidden (dec_bad (i := k) (n := x) (r := l.drop (o + (k + 1))) (grpOk_f hg))
          have HR : Hid (dcd l (o : Int) = (0, 0, 4)) := by
            show dcd l (o : Int) = (0, 0, 4)
            rw [dcd_ok HB.out (n := 0) (k := 0) (e := 4) (by rw [Int.toNat_natCast, HX.out, hdrop.out, HG.out])]; rfl
          clear HX HG hdrop HB
          have Hg := hidden hg
          clear hg
          go_wp2_with ((go_at_call 188; refine (validGroup_any k cc _ (by omega)).mono ?_; rw [Hg.out]; rintro e w' ⟨rfl, rfl⟩))
          go_ret3
          rw [HR.out]
          exact ⟨rfl, rfl⟩
        | true =>
          have hng := grpOk_t hg
          have hc9 : k = 9 → cc.toNat ≤ 1 := by omega
          have HO := hidden (round_or hk9 HL.out hc9)
          have Hg := hidden hg
          clear hg
          by_cases hend : cc.toNat < 128
          · have HR : Hid (dcd l (o : Int) = (((x + cc.toNat % 128 * 128 ^ k : Nat) : Int), (o : Int) + k + 1, 0)) := by
              show dcd l (o : Int) = _
              rw [dcd_ok HB.out (n := x + cc.toNat % 128 * 128 ^ k) (k := k + 1) (e := 0) (by rw [Int.toNat_natCast, HX.out, hdrop.out, dec_last hng hend])]
              simp; omega
            clear HX hdrop HB hng hc9
            go_wp2_with ((go_at_call 188; refine (validGroup_any k cc _ (by omega)).mono ?_; rw [Hg.out]; rintro e w' ⟨rfl, rfl⟩))
            go_ret3
            rw [HR.out]
            refine ⟨ret3_eq ?_ rfl rfl, rfl⟩
            exact HO.out
          · have hk8 : k ≤ 8 := by omega
            have HD : Hid (dec 0 0 (l.drop o) = dec (k + 1) (x + cc.toNat % 128 * 128 ^ k) (l.drop (o + (k + 1)))) := by
              show dec 0 0 (l.drop o) = _
              rw [HX.out, hdrop.out, dec_more hng hend]
            have HS := hidden (sum_lt (c := cc.toNat) HL.out)
            clear HX hdrop HB hng hc9
            go_wp2_with ((go_at_call 188; refine (validGroup_any k cc _ (by omega)).mono ?_; rw [Hg.out]; rintro e w' ⟨rfl, rfl⟩))
            go_round
            case rel =>
              refine ⟨k + 1, x + cc.toNat % 128 * 128 ^ k, by omega, by omega, HS.out, by go_num, ?_, HD.out⟩
              rw [HO.out]
            case measure => simp [intOf]; omega
      · have hke : o + k = l.length := by omega
        have HR : Hid (dcd l (o : Int) = (0, 0, 2)) := by
          show dcd l (o : Int) = _
          rw [dcd_ok HB.out (n := 0) (k := 0) (e := 2) (by rw [Int.toNat_natCast, HX.out, hke, List.drop_length, dec_end])]; rfl
        clear HX HB hke
        go_wp2
        go_ret3
        rw [HR.out]
        exact ⟨rfl, rfl⟩
def RDecRel (l : List UInt8) (o : Nat) (n u i : Value) : Prop :=
  ∃ k x p : Nat, o + k ≤ l.length ∧ k ≤ 9 ∧ x < 128 ^ k ∧ p = 128 ^ k ∧ i = .int .i64 k ∧ n = .int .u64 x ∧ u = .int .u64 p ∧ dec 0 0 (l.drop o) = dec k x (l.drop (o + k))
set_option maxHeartbeats 400000 in
set_option maxRecDepth 100000 in
theorem rdecode_any (v : Value) (l : List UInt8) (off : Int) (w : World) (hv : IsBytes w v l) (hl : l.length ≤ maxLen) (h63 : -9223372036854775808 ≤ off) (h64 : off ≤ 9223372036854775807) :
    Calls Tryz.prog 139 #[v, .int .i64 off] w fun e w' => e = .returned (.tuple #[.int .u64 (dcd l off).1, .int .i64 (dcd l off).2.1, .int .i64 (dcd l off).2.2]) ∧ w = w' := by
  obtain ⟨A, c, rfl, hc⟩ := hv
  unfold maxLen at hl
  by_cases hneg : off < 0
  · have HD := hidden (dcd_bad (l := l) (off := off) (by omega))
    go_enter Tryz.func139, Tryz.ntmps139
    go_wp2
    go_ret3
    rw [HD.out]
    exact ⟨rfl, rfl⟩
  · by_cases hbig : (l.length : Int) < off
    · have HD := hidden (dcd_bad (l := l) (off := off) (by omega))
      have h0 : 0 ≤ off := by omega
      clear hneg
      go_enter Tryz.func139, Tryz.ntmps139
      go_wp2
      go_ret3
      rw [HD.out]
      exact ⟨rfl, rfl⟩
    · have h0 : 0 ≤ off := by omega
      have h1 : off ≤ (l.length : Int) := by omega
      obtain ⟨o, rfl⟩ := Int.eq_ofNat_of_zero_le h0
      have HB : Hid (¬ ((o : Int) < 0 ∨ (l.length : Int) < (o : Int))) := by show ¬ _; omega
      clear hneg hbig
      have hcell : ∀ j, (h : j < l.length) → ∃ b f, A = some ⟨b, f, none⟩ ∧ w.cell? ⟨b, f + j, none⟩ = some (.int .u8 (l[j].toNat : Int)) := fun j hj => by
        obtain ⟨b, f, e, h⟩ := hc (by omega)
        exact ⟨b, f, e, h j hj⟩
      clear hc
      have HC := hidden hcell
      clear hcell
      have hd1 : decide ((l.length : Int) < (o : Int)) = false := by simpa using h1
      have hd0 : decide ((o : Int) < 0) = false := by simp
      go_enter Tryz.func139, Tryz.ntmps139
      go_wp2
      go_loop [7, 8, 9] (RDecRel l o) (fun _ _ i => l.length - (intOf i).toNat)
      case atStart => exact ⟨0, 0, 1, by omega, by omega, by decide, rfl, rfl, rfl, rfl, rfl⟩
      case round =>
        obtain ⟨k, x, p, hk, hk9, hx, hp, rfl, rfl, rfl, hdec⟩ := hrel
        have HX := hidden hdec
        have HL := hidden hx
        have HP := hidden hp
        have hp1 : p ≤ 9223372036854775808 := by
          rw [hp]; exact Nat.le_trans (Nat.pow_le_pow_right (by decide) hk9) (by decide)
        have hx1 : x < 9223372036854775808 := by omega
        clear hdec hx hp
        by_cases hlt : o + k < l.length
        · obtain ⟨b, f, rfl, hcl⟩ := HC.out (o + k) hlt
          generalize hcc : l[o + k] = cc at hcl
          have hdrop : Hid (l.drop (o + k) = cc :: l.drop (o + (k + 1))) := by
            show l.drop (o + k) = cc :: l.drop (o + (k + 1))
            rw [← hcc, List.drop_eq_getElem_cons hlt]; rfl
          clear hcc
          have hcb : cc.toNat < 256 := cc.toNat_lt
          have HBAD : Hid (((k = 9 ∧ 1 < cc.toNat) ∨ (0 < k ∧ cc.toNat = 0)) → dcd l (o : Int) = (0, 0, 4)) := by
            intro hb
            rw [dcd_ok HB.out (n := 0) (k := 0) (e := 4) (by rw [Int.toNat_natCast, HX.out, hdrop.out, dec_bad hb])]; rfl
          have HGOOD : Hid (¬ ((k = 9 ∧ 1 < cc.toNat) ∨ (0 < k ∧ cc.toNat = 0)) → cc.toNat < 128 → dcd l (o : Int) = (((x + cc.toNat % 128 * 128 ^ k : Nat) : Int), (o : Int) + k + 1, 0)) := by
            intro hng hend
            rw [dcd_ok HB.out (n := x + cc.toNat % 128 * 128 ^ k) (k := k + 1) (e := 0) (by rw [Int.toNat_natCast, HX.out, hdrop.out, dec_last hng hend])]
            simp; omega
          have HMORE : Hid (¬ ((k = 9 ∧ 1 < cc.toNat) ∨ (0 < k ∧ cc.toNat = 0)) → ¬ cc.toNat < 128 → dec 0 0 (l.drop o) = dec (k + 1) (x + cc.toNat % 128 * 128 ^ k) (l.drop (o + (k + 1)))) := by
            intro hng hend
            rw [HX.out, hdrop.out, dec_more hng hend]
          have HN : Hid ((k = 9 → cc.toNat ≤ 1) → IntKind.u64.wrap ((x : Int) + IntKind.u64.wrap ((cc.toNat : Int) % 128 * (p : Int))) = ((x + cc.toNat % 128 * 128 ^ k : Nat) : Int)) := fun h => round_add hk9 HL.out h HP.out
          clear HX hdrop HB
          by_cases h9 : k = 9
          · subst h9
            by_cases hc1 : 1 < cc.toNat
            · have HC1 := hidden hc1
              go_wp2
              go_ret3
              rw [HBAD.out (.inl ⟨by simp, HC1.out⟩)]
              exact ⟨rfl, rfl⟩
            · by_cases hz : cc.toNat = 0
              · have ht : ((cc.toNat : Int) == 0) = true := by simpa using hz
                have HZ := hidden hz
                clear hz
                go_wp2
                go_ret3
                rw [HBAD.out (.inr ⟨by omega, HZ.out⟩)]
                exact ⟨rfl, rfl⟩
              · have ht : ((cc.toNat : Int) == 0) = false := by simpa using hz
                go_wp2
                go_ret3
                rw [HGOOD.out (by omega) (by omega)]
                exact ⟨ret3_eq (HN.out (by omega)) (by simp) rfl, rfl⟩
          · have h9' : ((k : Int) == 9) = false := by simp; omega
            have hp2 : p ≤ 72057594037927936 := by
              have hk8 : k ≤ 8 := by omega
              rw [HP.out]; exact Nat.le_trans (Nat.pow_le_pow_right (by decide) hk8) (by decide)
            by_cases h0 : k = 0
            · subst h0
              simp only [Nat.add_zero] at hcl
              by_cases hend : cc.toNat < 128
              · go_wp2
                go_ret3
                rw [HGOOD.out (by omega) (by omega)]
                exact ⟨ret3_eq (HN.out (by omega)) (by simp) rfl, rfl⟩
              · go_wp2
                go_round
                case rel => exact ⟨0 + 1, x + cc.toNat % 128 * 128 ^ 0, p * 128, by omega, by omega, sum_lt HL.out, by rw [HP.out, pow_step], by go_num, by rw [HN.out (by omega)], by go_num, HMORE.out (by omega) (by omega)⟩
                case measure => simp [intOf]; omega
            · by_cases hz : cc.toNat = 0
              · have ht : ((cc.toNat : Int) == 0) = true := by simpa using hz
                have HZ := hidden hz
                clear hz
                go_wp2
                go_ret3
                rw [HBAD.out (.inr ⟨by omega, HZ.out⟩)]
                exact ⟨rfl, rfl⟩
              · have ht : ((cc.toNat : Int) == 0) = false := by simpa using hz
                by_cases hend : cc.toNat < 128
                · go_wp2
                  go_ret3
                  rw [HGOOD.out (by omega) (by omega)]
                  exact ⟨ret3_eq (HN.out (by omega)) (by simp) rfl, rfl⟩
                · go_wp2
                  go_round
                  case rel => exact ⟨_, _, _, _, _, _, ⟨k + 1, x + cc.toNat % 128 * 128 ^ k, p * 128, by omega, by omega, sum_lt HL.out, by rw [HP.out, pow_step], by go_num, by rw [HN.out (by omega)], by go_num, HMORE.out (by omega) (by omega)⟩, rfl, rfl, rfl, rfl, rfl, rfl⟩
                  case measure => simp [intOf]; omega
        · have hke : o + k = l.length := by omega
          have HR : Hid (dcd l (o : Int) = (0, 0, 2)) := by
            show dcd l (o : Int) = _
            rw [dcd_ok HB.out (n := 0) (k := 0) (e := 2) (by rw [Int.toNat_natCast, HX.out, hke, List.drop_length, dec_end])]; rfl
          clear HX HB hke
          go_wp2
          go_ret3
          rw [HR.out]
          exact ⟨rfl, rfl⟩
end Go.Proofs.YtoaklmceejeblaaGreat
/-
  Shaken: what the claims of this seat need of this text. No condition.
-/
namespace Go.Proofs.YtoaklmceejeblaaGreat
set_option maxRecDepth 8000
open Go.RowKit
theorem dec_lt : ∀ (l : List UInt8) (i x n k e : Nat), i ≤ 9 → x < 128 ^ i → dec i x l = (n, k, e) → n < 18446744073709551616
  | [], i, x, n, k, e, _, _, h => by
    rw [dec_end] at h
    injection h with h1 _
    omega
  | c :: r, i, x, n, k, e, hi, hx, h => by
    by_cases hb : (i = 9 ∧ 1 < c.toNat) ∨ (0 < i ∧ c.toNat = 0)
    · rw [dec_bad hb] at h
      injection h with h1 _
      omega
    · have hs := sum_lt64 hi hx (c := c.toNat) (fun h9 => by
        rcases Nat.lt_or_ge 1 c.toNat with h1 | h1
        · exact absurd (.inl ⟨h9, h1⟩) hb
        · exact h1)
      by_cases hc : c.toNat < 128
      · rw [dec_last hb hc] at h
        injection h with h1 _
        omega
      · rw [dec_more hb hc] at h
        by_cases h9 : i = 9
        · exact absurd (.inl ⟨h9, by omega⟩) hb
        · exact dec_lt r (i + 1) _ n k e (by omega) (sum_lt hx) h
theorem dec_len : ∀ (l : List UInt8) (i x n k e : Nat), dec i x l = (n, k, e) → (e = 0 → i < k ∧ k ≤ i + l.length) ∧ (e = 0 ∨ e = 2 ∨ e = 4)
  | [], i, x, n, k, e, h => by
    rw [dec_end] at h
    injection h with h1 h2
    injection h2 with h2 h3
    exact ⟨fun h => by omega, by omega⟩
  | c :: r, i, x, n, k, e, h => by
    by_cases hb : (i = 9 ∧ 1 < c.toNat) ∨ (0 < i ∧ c.toNat = 0)
    · rw [dec_bad hb] at h
      injection h with h1 h2
      injection h2 with h2 h3
      exact ⟨fun h => by omega, by omega⟩
    · by_cases hc : c.toNat < 128
      · rw [dec_last hb hc] at h
        injection h with h1 h2
        injection h2 with h2 h3
        exact ⟨fun _ => by simp only [List.length_cons]; omega, by omega⟩
      · rw [dec_more hb hc] at h
        have ih := dec_len r (i + 1) _ n k e h
        exact ⟨fun he => by have := ih.1 he; simp only [List.length_cons]; omega, ih.2⟩
theorem dcd_bd (l : List UInt8) (o : Nat) (ho : o ≤ l.length) : 0 ≤ (dcd l o).1 ∧ (dcd l o).1 ≤ 18446744073709551615 ∧
    ((dcd l o).2.2 = 0 → (o : Int) ≤ (dcd l o).2.1 ∧ (dcd l o).2.1 ≤ (l.length : Int)) ∧ 0 ≤ (dcd l o).2.2 ∧ (dcd l o).2.2 ≤ 4 := by
  obtain ⟨n, k, e, h⟩ : ∃ n k e, dec 0 0 (l.drop (o : Int).toNat) = (n, k, e) := ⟨_, _, _, rfl⟩
  have h1 := dcd_ok (l := l) (off := o) (by omega) h
  have h2 := dec_lt _ 0 0 n k e (by omega) (by decide) h
  have h3 := dec_len _ 0 0 n k e h
  rw [h1]
  refine ⟨by show (0 : Int) ≤ (n : Int); omega, by show (n : Int) ≤ _; omega, fun he => ?_, by show (0 : Int) ≤ (e : Int); omega, by show (e : Int) ≤ 4; omega⟩
  have he0 : e = 0 := by have : (e : Int) = 0 := he; omega
  have h4 := h3.1 he0
  have hdl : (l.drop (o : Int).toNat).length = l.length - o := by rw [List.length_drop]; simp
  rw [hdl] at h4
  show (o : Int) ≤ (if e = 0 then (o : Int) + k else 0) ∧ (if e = 0 then (o : Int) + k else 0) ≤ (l.length : Int)
  rw [if_pos he0]
  omega
structure DecO where
  k : Int
  n : Int
  t : ByteArray
  p : Int
  e : Int
def DecO.v (d : DecO) : Value := .tuple #[.agg #[.int .i64 d.k, .int .i64 d.n, .string d.t], .int .i64 d.p, .int .i64 d.e]
def dErr (e : Int) : DecO := ⟨0, 0, ⟨#[]⟩, 0, e⟩
def byteAt (l : List UInt8) (o : Nat) : Nat := (l.getD o 0).toNat
def dBoolO (l : List UInt8) (o : Nat) : DecO := if o = l.length then dErr 2 else if 1 < byteAt l o then dErr 4 else ⟨1, if byteAt l o = 1 then 1 else 0, ⟨#[]⟩, (o : Int) + 1, 0⟩
def dIntO (l : List UInt8) (o : Nat) : DecO := if (dcd l o).2.2 ≠ 0 then dErr (dcd l o).2.2 else ⟨2, uz (dcd l o).1, ⟨#[]⟩, (dcd l o).2.1, 0⟩
def dTextO (l : List UInt8) (o : Nat) : DecO :=
  if (dcd l o).2.2 ≠ 0 then dErr (dcd l o).2.2 else if 4096 < (dcd l o).1 then dErr 3 else if (l.length : Int) < (dcd l o).2.1 + (dcd l o).1 then dErr 2
  else ⟨3, 0, strOf ((l.drop (dcd l o).2.1.toNat).take (dcd l o).1.toNat), (dcd l o).2.1 + (dcd l o).1, 0⟩
def decO (l : List UInt8) (off : Int) : DecO :=
  if off < 0 ∨ (l.length : Int) < off then dErr 1 else if off = (l.length : Int) then dErr 2
  else if byteAt l off.toNat = 0 then ⟨0, 0, ⟨#[]⟩, off + 1, 0⟩ else if byteAt l off.toNat = 1 then dBoolO l (off.toNat + 1)
  else if byteAt l off.toNat = 2 then dIntO l (off.toNat + 1) else if byteAt l off.toNat = 3 then dTextO l (off.toNat + 1) else dErr 4
end Go.Proofs.YtoaklmceejeblaaGreat
