/-
  The walk of the law ChecksumBursts: it returns true for every byte slice, every place and every pattern of 32 bits; nothing that was there is changed.
-/
import Derived.Test.YtepahejeeajfbaaCkLawParts
import Derived.Test.YtepahejeeajfbaaBurstNum
namespace Go.Proofs.Ytepahejeeajfbaa
open Go.RowKit

theorem seal_form {w : World} {base : Nat} {e : TypeId} {v : Value} {l : List UInt8} {xs : List Value} (h : w.ownsRow base e 1 v (sealOf l).length xs) : ∃ g cap, v = .slice (some ⟨g, 0, none⟩) (l.length + 4) cap ∧ base ≤ g := by
  have hs := sealOf_length l
  rw [hs] at h
  rcases h.2 with ⟨rfl, h0⟩ | ⟨g, cap, cur, rfl, hb, _⟩
  · exact absurd h0 (by omega)
  · exact ⟨g, cap, rfl, hb⟩

/-- the sealed row with the first k bits of the pattern flipped -/
def burst (l : List UInt8) (b F k : Nat) : List UInt8 := bflip (bnum b F k) (sealOf l).length (sealOf l)
theorem burst_length {l : List UInt8} {b F k : Nat} : (burst l b F k).length = l.length + 4 := by unfold burst; rw [bflip_length, sealOf_length]
theorem burst_zero {l : List UInt8} {b F : Nat} : burst l b F 0 = sealOf l := by
  unfold burst bnum
  rw [Nat.pow_zero, Nat.mod_one, Nat.mul_zero, bflip_zero]

theorem burst_byte (c : UInt8) (r : Nat) (hr : r < 8) : bits .xor .u8 (c.toNat : Int) ((2 : Int) ^ r % 256) = ((c ^^^ UInt8.ofNat (2 ^ r)).toNat : Int) := by
  have hlt : 2 ^ r < 256 := Nat.lt_of_le_of_lt (Nat.pow_le_pow_right (by decide) (show r ≤ 7 by omega)) (by decide)
  have e : ((2 : Int) ^ r % 256) = ((2 ^ r : Nat) : Int) := by
    have h1 : ((2 : Int) ^ r) = ((2 ^ r : Nat) : Int) := by push_cast; rfl
    rw [h1]
    generalize 2 ^ r = p at hlt
    omega
  rw [e, u8_xor_nat _ _ c.toNat_lt hlt, UInt8.toNat_xor, ofNat_toNat hlt]
theorem burst_bit (b k : Nat) (hb : b < 4294967296) : bits .and .u32 ((b : Int) / 2 ^ k) 1 = ((b / 2 ^ k % 2 : Nat) : Int) := by
  have e : ((b : Int) / 2 ^ k) = ((b / 2 ^ k : Nat) : Int) := by push_cast; rfl
  rw [e]
  exact and1_u32 _ (Nat.lt_of_le_of_lt (Nat.div_le_self _ _) hb)
theorem burst_set {l : List UInt8} {b F k : Nat} (hk : (F + k) / 8 < (burst l b F k).length) (h1 : b / 2 ^ k % 2 = 1) :
    (burst l b F k).set ((F + k) / 8) ((burst l b F k)[(F + k) / 8] ^^^ UInt8.ofNat (2 ^ ((F + k) % 8))) = burst l b F (k + 1) := by
  have h2 : (F + k) / 8 < (sealOf l).length := by
    have := bflip_length (x := bnum b F k) (S := sealOf l)
    unfold burst at hk
    omega
  have h := bflip_set (bnum b F k) (F + k) (sealOf l) h2 _ rfl
  rw [← bnum_one h1] at h
  exact h
theorem burst_same {l : List UInt8} {b F k : Nat} (h1 : ¬ b / 2 ^ k % 2 = 1) : burst l b F (k + 1) = burst l b F k := by
  unfold burst
  rw [bnum_no h1]
theorem bcells_set (L : List UInt8) (j : Nat) (c : UInt8) : (bcells L).set j (.int .u8 (c.toNat : Int)) = bcells (L.set j c) := by
  unfold bcells
  rw [List.map_set]

def BurstRel (w1 : World) (g cap F b : Nat) (l : List UInt8) (fl i : Value) (wr : World) : Prop :=
  ∃ k : Nat, k ≤ 32 ∧ F + k ≤ 8 * (l.length + 4) ∧ i = .int .i64 k ∧ fl = .bool (decide (b % 2 ^ k ≠ 0)) ∧
    wr.ownsRow w1.heap.size 5 1 (.slice (some ⟨g, 0, none⟩) (l.length + 4) cap) (l.length + 4) (bcells (burst l b F k)) ∧ Below w1.heap.size w1 wr

set_option maxHeartbeats 1000000 in
theorem law_bursts (A : Option Addr) (d at_ b : Nat) (l : List UInt8) (w : World) (hv : IsBytes w (.slice A l.length d) l) (hat : at_ < 65536) (hb : b < 4294967296) :
    Calls Try.prog 8 #[.slice A l.length d, .int .u16 (at_ : Int), .int .u32 (b : Int)] w fun e w' => e = .returned (.bool true) ∧ Below w.heap.size w w' := by
  have HV := hidden hv
  by_cases h5 : l.length ≤ 5000 ∧ b ≠ 0
  · obtain ⟨hl5, hb0⟩ := h5
    have hl' : ¬ (5000 < l.length) := by omega
    have hz : ((b : Int) == 0) = false := by simpa using hb0
    have p1 := hidden (show ([] : List UInt8).length + (sealOf l).length ≤ 140737488355328 by rw [sealOf_length]; simp; omega)
    have HX := hidden (show [] ++ sealOf l = sealOf l by simp)
    go_enter Try.func8, Try.ntmps8
    go_wp2_with fail
    refine (ck_seal _ l _ HV.out (by omega)).mono ?_
    rintro e w1 ⟨v1, rfl, hown1, hg1⟩
    have HS1 := hidden (IsBytes.of_own hown1)
    have HG1 := hidden hg1
    clear hg1 hown1
    go_wp2_with (at_builtin; refine wpList_append_bytes (w := w1) (wr := w1) rfl _ _ 22 rfl 5 Try.underlying22 info8 _ [] (by rfl) (World.ownsRow_nil _ _ _ _) (Below.refl _ _) _ (sealOf l) (by rfl) HS1.out p1.out ?_; intro v2 w2 hown2 hnx2; rw [HX.out] at hown2; obtain ⟨g, cap, rfl, hgb⟩ := seal_form hown2)
    obtain ⟨F, hF⟩ : ∃ F : Nat, F = at_ % (8 * (l.length + 4)) := ⟨_, rfl⟩
    have hF2 : ((at_ : Int) % (8 * ((l.length : Int) + 4))) = (F : Int) := by rw [hF, Int.natCast_emod, show ((8 * (l.length + 4) : Nat) : Int) = 8 * ((l.length : Int) + 4) by omega]
    have hF3 : F < 8 * (l.length + 4) := by rw [hF]; exact Nat.mod_lt _ (by omega)
    rw [hF2]
    have HO2 := hidden (show w2.ownsRow w1.heap.size 5 1 (.slice (some ⟨g, 0, none⟩) (l.length + 4) cap) (l.length + 4) (bcells (burst l b F 0)) by rw [burst_zero]; have := sealOf_length l; rw [this] at hown2; exact hown2)
    have HB2 := hidden hnx2
    clear hF hF2 hown2 hnx2
    go_loopw [9, 10] (fun fl i wr => BurstRel w1 g cap F b l fl i wr) (fun _ i _ => 32 - (intOf i).toNat)
    case atStart => exact ⟨0, by omega, by omega, rfl, by simp [Nat.mod_one], HO2.out, HB2.out⟩
    case round =>
      obtain ⟨k, hk, hk2, rfl, rfl, hown, hnx⟩ := hrel
      by_cases hlt : k < 32 ∧ F + k < 8 * (l.length + 4)
      · obtain ⟨hlt1, hlt2⟩ := hlt
        have hq : (F + k) / 8 < (burst l b F k).length := by rw [burst_length]; omega
        have hcell : wr.cell? ⟨g, (F + k) / 8, none⟩ = some (.int .u8 (((burst l b F k)[(F + k) / 8]).toNat : Int)) := by
          rw [hown.cellAt _ (by rw [burst_length] at hq; omega)]
          simp [bcells, hq]
        have hfr := hown.frozenAt ((F + k) / 8)
        generalize hc0 : (burst l b F k)[(F + k) / 8] = c0 at hcell
        have hbit := burst_bit b k hb
        by_cases h1 : b / 2 ^ k % 2 = 1
        · have hcond : (bits .and .u32 ((b : Int) / 2 ^ k) 1 == 1) = true := by rw [hbit, h1]; rfl
          have hm := bmod_one h1
          have hst := (hown.stored ((F + k) / 8) (.int .u8 ((c0 ^^^ UInt8.ofNat (2 ^ ((F + k) % 8))).toNat : Int))).1
          rw [bcells_set, ← hc0, burst_set hq h1, hc0, ← burst_byte _ _ (by omega)] at hst
          have HST := hidden hst
          clear hbit hst hc0
          go_wp2_with fail
          go_roundw
          case rel => exact ⟨k + 1, by omega, by omega, by go_num, by simpa using hm, HST.out, hnx.setCell hgb _⟩
          case measure => simp [intOf]; omega
        · have hcond : (bits .and .u32 ((b : Int) / 2 ^ k) 1 == 1) = false := by rw [hbit, show b / 2 ^ k % 2 = 0 by omega]; rfl
          have hm := bmod_no h1
          have HST := hidden (show wr.ownsRow w1.heap.size 5 1 (.slice (some ⟨g, 0, none⟩) (l.length + 4) cap) (l.length + 4) (bcells (burst l b F (k + 1))) by rw [burst_same h1]; exact hown)
          clear hbit hc0
          go_wp2_with fail
          go_roundw
          case rel => exact ⟨k + 1, by omega, by omega, by go_num, by rw [hm]; simp, HST.out, hnx⟩
          case measure => simp [intOf]; omega
      · have hB := hidden (burst_length (l := l) (b := b) (F := F) (k := k))
        obtain ⟨A9, c9, hs9, hc9, hv9⟩ := own_shape hown hB.out.symm
        injection hs9 with e1 e2 e3
        subst e1 e3
        have hlen : (burst l b F k).length = l.length + 4 := hB.out
        have HV9 := hidden hv9
        have HG9 := hidden (Grows.of_below HG1.out hnx)
        clear hown hv9 e2
        by_cases hw : b % 2 ^ k = 0
        · have H := hidden (ck_open _ cap (burst l b F k) wr HV9.out (by omega) hc9)
          have ho : openOf (burst l b F k) = (l, 0) := open_noburst hw
          rw [ho, hlen] at H
          clear ho
          by_cases hk32 : k < 32
          · have hk8 : ¬ F + k < 8 * (l.length + 4) := fun h => hlt ⟨hk32, h⟩
            go_wp2_with fail
            refine (Calls.mono H.out ?_)
            rintro e w3 ⟨B, c3, rfl, _, hg3⟩
            have HG3 := hidden (Grows.of_below HG9.out hg3)
            clear hg3
            go_wp2_with fail
            refine (awake_any _).mono ?_
            rintro e w7 ⟨rfl, hg7⟩
            have HG7 := hidden (Grows.of_below HG3.out hg7)
            clear hg7
            go_wp2_with fail
            go_ret
            exact ⟨rfl, HG7.out⟩
          · have hk31 : k = 32 := by omega
            subst hk31
            go_wp2_with fail
            refine (Calls.mono H.out ?_)
            rintro e w3 ⟨B, c3, rfl, _, hg3⟩
            have HG3 := hidden (Grows.of_below HG9.out hg3)
            clear hg3
            go_wp2_with fail
            refine (awake_any _).mono ?_
            rintro e w7 ⟨rfl, hg7⟩
            have HG7 := hidden (Grows.of_below HG3.out hg7)
            clear hg7
            go_wp2_with fail
            go_ret
            exact ⟨rfl, HG7.out⟩
        · have H := hidden (ck_open _ cap (burst l b F k) wr HV9.out (by omega) hc9)
          have ho : openOf (burst l b F k) = ([], 5) := open_burst hb hw (by rw [sealOf_length]; exact hk2)
          rw [ho, hlen] at H
          clear ho
          by_cases hk32 : k < 32
          · have hk8 : ¬ F + k < 8 * (l.length + 4) := fun h => hlt ⟨hk32, h⟩
            go_wp2_with fail
            refine (Calls.mono H.out ?_)
            rintro e w3 ⟨B, c3, rfl, _, hg3⟩
            have HG3 := hidden (Grows.of_below HG9.out hg3)
            clear hg3
            go_wp2_with fail
            refine (awake_any _).mono ?_
            rintro e w7 ⟨rfl, hg7⟩
            have HG7 := hidden (Grows.of_below HG3.out hg7)
            clear hg7
            go_wp2_with fail
            go_ret
            exact ⟨rfl, HG7.out⟩
          · have hk31 : k = 32 := by omega
            subst hk31
            go_wp2_with fail
            refine (Calls.mono H.out ?_)
            rintro e w3 ⟨B, c3, rfl, _, hg3⟩
            have HG3 := hidden (Grows.of_below HG9.out hg3)
            clear hg3
            go_wp2_with fail
            refine (awake_any _).mono ?_
            rintro e w7 ⟨rfl, hg7⟩
            have HG7 := hidden (Grows.of_below HG3.out hg7)
            clear hg7
            go_wp2_with fail
            go_ret
            exact ⟨rfl, HG7.out⟩
  · by_cases h0 : b = 0
    · subst h0
      go_enter Try.func8, Try.ntmps8
      go_wp2_with (go_at_call 9; refine (awake_any _).mono ?_; rintro e w7 ⟨rfl, hg7⟩)
      all_goals (go_ret; exact ⟨rfl, by assumption⟩)
    · have hl5 : 5000 < l.length := by omega
      go_enter Try.func8, Try.ntmps8
      go_wp2_with (go_at_call 9; refine (awake_any _).mono ?_; rintro e w7 ⟨rfl, hg7⟩)
      all_goals (go_ret; exact ⟨rfl, by assumption⟩)

end Go.Proofs.Ytepahejeeajfbaa
