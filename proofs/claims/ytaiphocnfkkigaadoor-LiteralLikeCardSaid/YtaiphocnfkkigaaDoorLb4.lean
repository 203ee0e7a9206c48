/-
  Package literal as it landed: beginsWith, containsInOrder. The heap is not touched; orders are drawn.
-/
import Derived.Test.YtaiphocnfkkigaaDoorProg
import Derived.Test.YtaiphocnfkkigaaDoorStr
import Derived.Test.YtaiphocnfkkigaaDoorRng
import Derived.Test.YtaiphocnfkkigaaDoorLkNum
import Derived.Test.YtaiphocnfkkigaaDoorRow
import Derived.Deep.LoopGhost
import Derived.Deep.QuietTactic
import Derived.BigQuiet
import Derived.WalkMore
namespace Go.Proofs.YtaiphocnfkkigaaDoor
open Go.RowKit
set_option linter.unusedVariables false
set_option linter.unusedSimpArgs false

def Drawn (w w' : World) : Prop := ∃ m, w' = w.drewN m
theorem Drawn.refl (w : World) : Drawn w w := ⟨0, rfl⟩
theorem Drawn.grows {w w' : World} (h : Drawn w w') : Grows w w' := by
  obtain ⟨m, rfl⟩ := h
  exact ⟨rfl, rfl, rfl, Nat.le_refl _, fun _ _ => rfl⟩
theorem Drawn.more {a w : World} (h : Drawn a w) (n : Nat) : Drawn a (w.drewN n) := by
  obtain ⟨m, rfl⟩ := h
  exact ⟨m + n, by rw [World.drewN_drewN]⟩
theorem Drawn.trans {a b c : World} (h : Drawn a b) (k : Drawn b c) : Drawn a c := by
  obtain ⟨m, rfl⟩ := k
  exact h.more m
theorem beg_step {p s : List UInt8} {j : Nat} {c b : UInt8} (hc : p[j]? = some c) (hb : s[j]? = some b) : beg (p.drop j) (s.drop j) = ((c == 95 || c == b) && beg (p.drop (j + 1)) (s.drop (j + 1))) := by
  rw [drop_at hc, drop_at hb, beg]
def LBRel (w : World) (p s : List UInt8) (i : Value) (wr : World) : Prop := ∃ j : Nat, j ≤ p.length ∧ i = .int .i64 (j : Int) ∧ beg p s = beg (p.drop j) (s.drop j) ∧ Drawn w wr
set_option maxHeartbeats 2000000 in
theorem lbegins_any (s p : List UInt8) (w : World) (h : p.length ≤ s.length) (hl : s.length ≤ 4611686018427387900) : Calls Tryd.prog 44 #[.string (strOf s), .string (strOf p)] w fun e w' => e = .returned (.bool (beg p s)) ∧ Drawn w w' := by
  have hsp : (strOf p).size = p.length := rfl
  have hss : (strOf s).size = s.length := rfl
  go_enter Tryd.func44, Tryd.ntmps44
  go_wp2_with fail
  go_loopw [8] (fun i wr => LBRel w p s i wr) (fun i _ => p.length - (intOf i).toNat)
  case atStart => exact ⟨0, Nat.zero_le _, rfl, rfl, Drawn.refl _⟩
  case round =>
    obtain ⟨j, hj, rfl, hbg, hdr⟩ := hrel
    have HBG := hidden hbg
    have HD := hidden hdr
    clear hbg hdr
    by_cases hlt : j < p.length
    · obtain ⟨c, hc⟩ := at_of_lt hlt
      obtain ⟨b, hb⟩ := at_of_lt (l := s) (j := j) (by omega)
      have HST := hidden (beg_step hc hb)
      have hg1 := strOf_get hc
      have hg2 := strOf_get hb
      have hj0 : (0 : Int) ≤ (j : Int) := by omega
      have hj1 : (j : Int) < (p.length : Int) := by omega
      have hj2 : (j : Int) < (s.length : Int) := by omega
      have hj3 : j < s.length := by omega
      have hd : decide (j < p.length) = true := by simpa using hlt
      clear hc hb
      by_cases h95 : c = 95
      · have HN := hidden (show beg p s = beg (p.drop (j + 1)) (s.drop (j + 1)) by rw [HBG.out, HST.out, h95]; rfl)
        have hn95 : ((c.toNat : Int) != 95) = false := by rw [h95]; decide
        have hn95n : (c.toNat != 95) = false := by rw [h95]; decide
        clear h95
        go_wp2_with fail
        go_quiet (fail)
        go_wp2_with fail
        go_roundw
        case rel => exact ⟨j + 1, by omega, by go_num, HN.out, HD.out.more _⟩
        case measure => simp [intOf]; omega
      · have hc95 : ¬ (c.toNat = 95) := fun he => h95 (UInt8.toNat_inj.1 (by rw [he]; rfl))
        have hn95 : ((c.toNat : Int) != 95) = true := by simp; omega
        by_cases hcb : c = b
        · have HN := hidden (show beg p s = beg (p.drop (j + 1)) (s.drop (j + 1)) by rw [HBG.out, HST.out, hcb]; simp)
          have hnb : ((c.toNat : Int) != (b.toNat : Int)) = false := by rw [hcb]; simp
          clear h95 hcb
          go_wp2_with fail
          go_quiet (fail)
          go_wp2_with fail
          go_roundw
          case rel => exact ⟨j + 1, by omega, by go_num, HN.out, HD.out.more _⟩
          case measure => simp [intOf]; omega
        · have HN := hidden (show beg p s = false by
            have e1 : (c == 95) = false := by simpa using h95
            have e2 : (c == b) = false := by simpa using hcb
            rw [HBG.out, HST.out, e1, e2]
            rfl)
          have hcbn : ¬ (c.toNat = b.toNat) := fun he => hcb (UInt8.toNat_inj.1 he)
          have hnb : ((c.toNat : Int) != (b.toNat : Int)) = true := by simp; omega
          clear h95 hcb
          go_wp2_with fail
          go_quiet (fail)
          go_wp2_with fail
          go_ret
          exact ⟨retB HN.out.symm, HD.out.more _⟩
    · have hd : decide (j < p.length) = false := by simpa using hlt
      have HN := hidden (show beg p s = true by rw [HBG.out, List.drop_of_length_le (by omega)]; rfl)
      go_wp2_with fail
      go_ret
      exact ⟨retB HN.out.symm, HD.out⟩
theorem firstAt_hit {p q : List UInt8} (h : beg p q = true) : firstAt p q = some (q.drop p.length) := by
  cases q with
  | nil => rw [firstAt, if_pos h]
  | cons b t => rw [firstAt, if_pos h]
theorem firstAt_miss {p q : List UInt8} {b : UInt8} {t : List UInt8} (hq : q = b :: t) (h : beg p q = false) : firstAt p q = firstAt p t := by
  subst hq
  rw [firstAt, if_neg (by rw [h]; decide)]
theorem firstAt_short : ∀ (p q : List UInt8), q.length < p.length → firstAt p q = none
  | p, [], h => by
    rw [firstAt, if_neg]
    intro hb
    have := beg_length p [] hb
    omega
  | p, b :: t, h => by
    rw [firstAt, if_neg, firstAt_short p t (by simp at h; omega)]
    intro hb
    have := beg_length p (b :: t) hb
    omega
set_option maxRecDepth 8000 in
set_option maxHeartbeats 4000000 in
theorem linorder_any (v : Value) (ps : List (List UInt8)) (s : List UInt8) (w : World) (hr : Reads w v (ps.map fun p => Value.string (strOf p))) (hl : s.length ≤ 1048576) (hps : ∀ p ∈ ps, p.length ≤ 1048576) (hn : ps.length ≤ 1048577) :
    Calls Tryd.prog 45 #[.string (strOf s), v] w fun e w' => e = .returned (.bool (inOrder ps s)) ∧ Drawn w w' := by
  obtain ⟨A, c, rfl, hle, hcell⟩ := hr
  rw [List.length_map] at hle hcell ⊢
  have HC := hidden hcell
  have HPS := hidden hps
  clear hcell hps
  go_enter Tryd.func45, Tryd.ntmps45
  go_wp2
  go_step3
  go_wp2
  go_step3
  go_wp2
  go_loopg [0, 10] ps.length (fun g s0 s10 wx => ∃ (k : Nat) (cur : List UInt8), Hid (k + g = ps.length) ∧ s10 = .int .i64 (k : Int) ∧ s0 = .string (strOf cur) ∧ Hid (inOrder ps s = inOrder (ps.drop k) cur) ∧ cur.length ≤ 1048576 ∧ Drawn w wx)
  case atStart => exact ⟨0, s, Nat.zero_add _, rfl, rfl, rfl, hl, Drawn.refl _⟩
  case round =>
    obtain ⟨k, cur, HKG, rfl, rfl, HI, hcl, hdr⟩ := hrel
    have HD := hidden hdr
    clear hdr
    have hsz : (strOf cur).size = cur.length := rfl
    cases gk with
    | zero =>
      have hkz : ¬ ((k : Int) < (ps.length : Int)) := by have h := HKG.out; omega
      have hkd : decide (k < ps.length) = false := by simp; omega
      have HN := hidden (show inOrder ps s = true by rw [HI.out, List.drop_of_length_le (by omega)]; rfl)
      go_wp2_with fail
      try rw [Exit.noGoto_ret]
      go_ret
      exact ⟨retB HN.out.symm, HD.out⟩
    | succ g =>
      have hkz : (k : Int) < (ps.length : Int) := by have h := HKG.out; omega
      have hkd : decide (k < ps.length) = true := by simp; omega
      have hk0 : (0 : Int) ≤ (k : Int) := by omega
      obtain ⟨p, hp⟩ : ∃ p, ps[k]? = some p := ⟨_, List.getElem?_eq_getElem (by omega)⟩
      obtain ⟨b, off, rfl, hcells⟩ := HC.out (by omega)
      have hck0 := hcells k (by omega)
      rw [List.getElem?_map, hp] at hck0
      have hck : wr.cell? ⟨b, off + k, none⟩ = some (.string (strOf p)) := (HD.out.grows.cell (World.block_lt_of_cell? w _ hck0)).trans hck0
      have HDP := hidden (show ps.drop k = p :: ps.drop (k + 1) by
        have hlt : k < ps.length := by omega
        rw [List.drop_eq_getElem_cons hlt]
        congr 1
        rw [List.getElem?_eq_getElem hlt] at hp
        injection hp)
      have hpl := HPS.out p (List.mem_of_getElem? hp)
      have hszp : (strOf p).size = p.length := rfl
      clear hcells hck0 hp
      go_wp2_with fail
      go_loopg [0, 20] (cur.length + 1 - p.length) (fun g2 s0 s20 wy => ∃ i : Nat, s0 = .string (strOf cur) ∧ Hid (i + g2 = cur.length + 1 - p.length ∧ (i = 0 ∨ 1 ≤ p.length)) ∧ s20 = .int .i64 (i : Int) ∧ Hid (firstAt p cur = firstAt p (cur.drop i)) ∧ Drawn w wy)
      case atStart => exact ⟨0, rfl, ⟨by omega, .inl rfl⟩, rfl, rfl, HD.out⟩
      case round =>
        obtain ⟨i, rfl, HIG, rfl, HFA, hdy⟩ := hrel
        have HDY := hidden hdy
        clear hdy
        cases gk with
        | zero =>
          have hiz : ¬ ((i : Int) < (cur.length : Int) - (p.length : Int) + 1) := by have h := HIG.out.1; omega
          have HN := hidden (show inOrder ps s = false by
            have h1 : firstAt p cur = none := by
              rw [HFA.out]
              exact firstAt_short _ _ (by have h := HIG.out; rw [List.length_drop]; omega)
            rw [HI.out, HDP.out, inOrder, h1])
          go_wp2_with fail
          try rw [Exit.noGoto_ret]
          go_ret
          exact ⟨retB HN.out.symm, HDY.out⟩
        | succ g2 =>
          have hiz : (i : Int) < (cur.length : Int) - (p.length : Int) + 1 := by have h := HIG.out.1; omega
          have hic : i ≤ cur.length := by have h := HIG.out; omega
          have hipc : i + p.length ≤ cur.length := by have h := HIG.out; omega
          have HB := hidden (fun w => lbegins_any (cur.drop i) p w (by rw [List.length_drop]; omega) (by rw [List.length_drop]; omega))
          have HFROM := hidden (rfl : cur.drop i = cur.drop i)
          cases hbg : beg p (cur.drop i)
          · have HF2 := hidden (show firstAt p cur = firstAt p (cur.drop (i + 1)) by
              rcases Nat.lt_or_ge i cur.length with h1 | h1
              · obtain ⟨x, hx⟩ := at_of_lt h1
                rw [HFA.out, firstAt_miss (drop_at hx) hbg]
              · rw [HFA.out, List.drop_of_length_le h1, List.drop_of_length_le (by omega)])
            have HNE := hidden (show 1 ≤ p.length by
              cases p with
              | nil => cases hbg
              | cons a r => simp)
            rw [hbg] at HB
            clear hbg
            go_wp2_with (first
              | (refine wpList_from_l rfl _ _ 9 rfl Tryd.underlying9 cur i rfl rfl (by omega) (cur.drop i) rfl ?_)
              | (go_at_call 44; refine (HB.out _).mono ?_; rintro e w3 ⟨rfl, d3⟩; have HD3 := hidden (HDY.out.trans d3); clear d3))
            go_roundg g2
            case measure => omega
            case rel => exact ⟨i + 1, rfl, ⟨by have h := HIG.out; omega, .inr HNE.out⟩, by go_num, HF2.out, HD3.out⟩
          · have HF2 := hidden (show firstAt p cur = some (cur.drop (i + p.length)) by rw [HFA.out, firstAt_hit hbg, List.drop_drop])
            have HN := hidden (show inOrder ps s = inOrder (ps.drop (k + 1)) (cur.drop (i + p.length)) by rw [HI.out, HDP.out, inOrder, HF2.out])
            rw [hbg] at HB
            clear hbg
            go_wp2_with (first
              | (refine wpList_from_l rfl _ _ 9 rfl Tryd.underlying9 cur i rfl rfl (by omega) (cur.drop i) rfl ?_)
              | (refine wpList_from_l rfl _ _ 9 rfl Tryd.underlying9 cur (i + p.length) rfl (by go_num) (by omega) (cur.drop (i + p.length)) rfl ?_)
              | (go_at_call 44; refine (HB.out _).mono ?_; rintro e w3 ⟨rfl, d3⟩; have HD3 := hidden (HDY.out.trans d3); clear d3))
            go_roundg g
            case measure => omega
            case rel => exact ⟨k + 1, cur.drop (i + p.length), by have h := HKG.out; show _ = _; omega, by go_num, rfl, HN.out, by rw [List.length_drop]; omega, HD3.out⟩
end Go.Proofs.YtaiphocnfkkigaaDoor
