/-
  bitset.Encode returns N and the run lengths as varints, in new memory: for every valid set; nothing that was there is changed.
-/
import Derived.Test.YtaegolkoinjmoaaDoorBkSel
import Derived.Test.YtaegolkoinjmoaaDoorBkOf
import Derived.Test.YtaegolkoinjmoaaDoorEnc
namespace Go.Proofs.YtaegolkoinjmoaaDoor
open Go.RowKit

/-- e is the end of the run of bits equal to on from p -/
def runTo (f : Nat → Bool) (n p : Nat) (on : Bool) (e : Nat) : Prop := p ≤ e ∧ e ≤ n ∧ (∀ i, p ≤ i → i < e → f i = on) ∧ (e < n → f e = !on)
def RunR (f : Nat → Bool) (n p : Nat) (on : Bool) (w : World) (e : Ending) (w' : World) : Prop := ∃ x : Nat, e = .returned (.int .i64 (x : Int)) ∧ runTo f n p on x ∧ Grows w w'
/-- the bits of word j from p on that differ from on -/
def diffW (x : UInt64) (q : Nat) (on : Bool) : UInt64 := (if on then ~~~x else x) &&& ~~~lowW q
theorem diff_bit {n : Nat} {ws : List UInt64} (ho : okW n ws) {j p q : Nat} {on : Bool} (hq : q = p - 64 * j) {b : Nat} (hb : b < 64) :
    wbit (diffW (wAt ws j) q on) b = ((mem n ws (64 * j + b) != on) && decide (p ≤ 64 * j + b)) := by
  unfold diffW
  rw [wbit_andNot, wbit_low]
  have e : wbit (if on then ~~~wAt ws j else wAt ws j) b = (mem n ws (64 * j + b) != on) := by
    cases on with
    | true => rw [if_pos rfl, wbit_not _ hb, okW_bit ho hb]; simp
    | false => simp [okW_bit ho hb]
  rw [e]
  congr 1
  by_cases h : p ≤ 64 * j + b
  · have h2 : ¬ b < min q 64 := by omega
    simp [h, h2]
  · have h2 : b < min q 64 := by omega
    simp [h, h2]
theorem diff_some {n : Nat} {ws : List UInt64} (ho : okW n ws) {j p q : Nat} {on : Bool} (hq : q = p - 64 * j) (hp : p < n) (_ : p / 64 ≤ j) (hin : ∀ i, p ≤ i → i < 64 * j → mem n ws i = on) (h0 : diffW (wAt ws j) q on ≠ 0) :
    lowest (diffW (wAt ws j) q on) < 64 ∧ runTo (mem n ws) n p on (64 * j + lowest (diffW (wAt ws j) q on)) := by
  obtain ⟨h1, h2, _⟩ := wbit_lowest h0
  have h64 := (low_parts h0).1
  generalize lowest (diffW (wAt ws j) q on) = t at *
  rw [diff_bit ho hq h64] at h1
  simp only [Bool.and_eq_true, decide_eq_true_eq, bne_iff_ne, ne_eq] at h1
  have hrun : ∀ i, p ≤ i → i < 64 * j + t → mem n ws i = on := by
    intro i hi hlt
    by_cases h : i < 64 * j
    · exact hin i hi h
    · have h3 := h2 (i - 64 * j) (by omega)
      rw [diff_bit ho hq (by omega), show 64 * j + (i - 64 * j) = i by omega] at h3
      simp [hi] at h3
      exact h3
  have hne : mem n ws (64 * j + t) = !on := by cases h : mem n ws (64 * j + t) <;> cases on <;> simp_all
  refine ⟨h64, h1.2, ?_, hrun, fun _ => hne⟩
  cases on with
  | false =>
    have hm : mem n ws (64 * j + t) = true := hne
    rcases Nat.lt_or_ge (64 * j + t) n with h | h
    · omega
    · rw [mem_ge h] at hm; cases hm
  | true =>
    by_cases h : 64 * j + t = p
    · omega
    · have h4 := hrun (64 * j + t - 1) (by omega) (by omega)
      rcases Nat.lt_or_ge (64 * j + t - 1) n with h5 | h5
      · omega
      · rw [mem_ge h5] at h4; cases h4
theorem diff_none {n : Nat} {ws : List UInt64} (ho : okW n ws) {j p q : Nat} {on : Bool} (hq : q = p - 64 * j) (hin : ∀ i, p ≤ i → i < 64 * j → mem n ws i = on) (h0 : diffW (wAt ws j) q on = 0) :
    ∀ i, p ≤ i → i < 64 * (j + 1) → mem n ws i = on := by
  intro i hi hlt
  by_cases h : i < 64 * j
  · exact hin i hi h
  · have h3 := diff_bit ho hq (on := on) (b := i - 64 * j) (by omega)
    rw [h0, wbit_zero, show 64 * j + (i - 64 * j) = i by omega] at h3
    simp [hi] at h3
    exact h3
def RunRel (f : Nat → Bool) (p L : Nat) (on : Bool) (i : Value) : Prop := ∃ j : Nat, p / 64 ≤ j ∧ j ≤ L ∧ i = .int .i64 (j : Int) ∧ ∀ i, p ≤ i → i < 64 * j → f i = on

set_option maxHeartbeats 1000000 in
theorem runEnd_any (s : Value) (n : Nat) (ws : List UInt64) (p : Nat) (on : Bool) (w : World) (hs : IsSet w s n ws) (ho : okW n ws) (hT : Tab w) (hp : p < n) :
    Calls Tryd.prog 64 #[s, .int .i64 (p : Int), .bool on] w (RunR (mem n ws) n p on w) := by
  obtain ⟨v, rfl, hr, hn, hn2⟩ := hs
  have hL : ws.length ≤ 20000 := by rw [ho.1]; unfold nw; omega
  have hpl : p / 64 < ws.length := by rw [ho.1]; unfold nw; omega
  have hn64 : n ≤ 64 * ws.length := hn
  have HG := hidden (show ∀ o, Grows w (w.alloc o) from fun o => (Below.refl _ _).alloc (Nat.le_refl _) _)
  have HR := hidden hr
  have HO := hidden ho
  have HT := hidden hT
  obtain ⟨A, c, rfl, hle⟩ := hr.slice_
  rw [ucells_length] at HR hle ⊢
  clear hr ho hT hn
  cases on with
  | false =>
    go_enter Tryd.func64, Tryd.ntmps64
    go_wp2_with fail
    go_loop [7] (fun i => RunRel (mem n ws) p ws.length false i) (fun i => ws.length - (intOf i).toNat)
    case atStart => exact ⟨p / 64, Nat.le_refl _, by omega, by go_num, fun i h1 h2 => by omega⟩
    case round =>
      obtain ⟨j, hpj, hj, rfl, hin⟩ := hrel
      by_cases hlt : j < ws.length
      · obtain ⟨A', c', he, _, hcell⟩ := HR.out.grow (HG.out (.cells #[.int .i64 (n : Int), .slice A ws.length c] 26))
        rw [ucells_length] at he hcell
        injection he with e1 e2 e3
        subst e1 e3
        obtain ⟨b, off, rfl, hcell2⟩ := hcell (by omega)
        have hcw := hcell2 j hlt
        rw [ucells_get hlt, ← wAt_lt hlt] at hcw
        clear hcell hcell2 e2
        obtain ⟨q, hq⟩ : ∃ q, q = p - 64 * j := ⟨_, rfl⟩
        have HQ := hidden (show max (0 : Int) ((p : Int) - 64 * (j : Int)) = (q : Int) by omega)
        have hqb : q ≤ 9223372036854775807 := by omega
        have HA : Hid (bits .andNot .u64 ((wAt ws j).toNat : Int) ((lowW q).toNat : Int) = ((diffW (wAt ws j) q false).toNat : Int)) := hidden (go_andNot (wAt ws j) (lowW q))
        by_cases h0 : diffW (wAt ws j) q false = 0
        · have HNX := hidden (diff_none HO.out hq hin h0)
          have hd : (bits .andNot .u64 ((wAt ws j).toNat : Int) ((lowW q).toNat : Int) != 0) = false := by rw [HA.out, h0]; rfl
          clear hq hin h0 HA
          generalize wAt ws j = x at *
          go_wp2_with fail
          rw [HQ.out]
          refine (lowBits_any q _ hqb).mono ?_
          rintro e w1 ⟨rfl, rfl⟩
          generalize lowW q = y at *
          go_wp2
          go_round
          case rel => exact ⟨j + 1, by omega, by omega, by go_num, HNX.out⟩
          case measure => simp [intOf]; omega
        · obtain ⟨h64, hrun⟩ := diff_some HO.out hq hp hpj hin h0
          have HRUN := hidden hrun
          have hd : (bits .andNot .u64 ((wAt ws j).toNat : Int) ((lowW q).toNat : Int) != 0) = true := by
            rw [HA.out]
            have : (diffW (wAt ws j) q false).toNat ≠ 0 := fun e => h0 (UInt64.toNat_inj.1 e)
            generalize (diffW (wAt ws j) q false).toNat = y at *
            simp; omega
          have HTZ := hidden (tz_any (diffW (wAt ws j) q false))
          clear hq hin h0 hrun
          generalize lowest (diffW (wAt ws j) q false) = t at *
          generalize diffW (wAt ws j) q false = z at *
          generalize wAt ws j = x at *
          go_wp2_with fail
          rw [HQ.out]
          refine (lowBits_any q _ hqb).mono ?_
          rintro e w1 ⟨rfl, rfl⟩
          generalize lowW q = y at *
          go_wp2_with fail
          rw [HA.out]
          refine (HTZ.out _ (HT.out.grow (HG.out _))).mono ?_
          rintro e w1 ⟨rfl, rfl⟩
          go_wp2
          go_ret
          exact ⟨64 * j + t, retU (by omega), HRUN.out, HG.out _⟩
      · have hjl : j = ws.length := by omega
        have hd : decide (j < ws.length) = false := by simp; omega
        have HRUN := hidden (show runTo (mem n ws) n p false n from ⟨by omega, Nat.le_refl _, fun i h1 h2 => hin i h1 (by omega), fun h => absurd h (Nat.lt_irrefl _)⟩)
        clear hin hjl hlt
        go_wp2
        go_ret
        exact ⟨n, rfl, HRUN.out, HG.out _⟩
  | true =>
    go_enter Tryd.func64, Tryd.ntmps64
    go_wp2_with fail
    go_loop [7] (fun i => RunRel (mem n ws) p ws.length true i) (fun i => ws.length - (intOf i).toNat)
    case atStart => exact ⟨p / 64, Nat.le_refl _, by omega, by go_num, fun i h1 h2 => by omega⟩
    case round =>
      obtain ⟨j, hpj, hj, rfl, hin⟩ := hrel
      by_cases hlt : j < ws.length
      · obtain ⟨A', c', he, _, hcell⟩ := HR.out.grow (HG.out (.cells #[.int .i64 (n : Int), .slice A ws.length c] 26))
        rw [ucells_length] at he hcell
        injection he with e1 e2 e3
        subst e1 e3
        obtain ⟨b, off, rfl, hcell2⟩ := hcell (by omega)
        have hcw := hcell2 j hlt
        rw [ucells_get hlt, ← wAt_lt hlt] at hcw
        clear hcell hcell2 e2
        obtain ⟨q, hq⟩ : ∃ q, q = p - 64 * j := ⟨_, rfl⟩
        have HQ := hidden (show max (0 : Int) ((p : Int) - 64 * (j : Int)) = (q : Int) by omega)
        have hqb : q ≤ 9223372036854775807 := by omega
        have HA : Hid (bits .andNot .u64 ((~~~wAt ws j).toNat : Int) ((lowW q).toNat : Int) = ((diffW (wAt ws j) q true).toNat : Int)) := hidden (go_andNot (~~~wAt ws j) (lowW q))
        have HNOT := hidden (go_not (wAt ws j))
        by_cases h0 : diffW (wAt ws j) q true = 0
        · have HNX := hidden (diff_none HO.out hq hin h0)
          have hd : (bits .andNot .u64 ((~~~wAt ws j).toNat : Int) ((lowW q).toNat : Int) != 0) = false := by rw [HA.out, h0]; rfl
          clear hq hin h0 HA
          generalize wAt ws j = x at *
          generalize ~~~x = nx at *
          go_wp2_with fail
          rw [HQ.out, HNOT.out]
          refine (lowBits_any q _ hqb).mono ?_
          rintro e w1 ⟨rfl, rfl⟩
          generalize lowW q = y at *
          go_wp2
          go_round
          case rel => exact ⟨j + 1, by omega, by omega, by go_num, HNX.out⟩
          case measure => simp [intOf]; omega
        · obtain ⟨h64, hrun⟩ := diff_some HO.out hq hp hpj hin h0
          have HRUN := hidden hrun
          have hd : (bits .andNot .u64 ((~~~wAt ws j).toNat : Int) ((lowW q).toNat : Int) != 0) = true := by
            rw [HA.out]
            have : (diffW (wAt ws j) q true).toNat ≠ 0 := fun e => h0 (UInt64.toNat_inj.1 e)
            generalize (diffW (wAt ws j) q true).toNat = y at *
            simp; omega
          have HTZ := hidden (tz_any (diffW (wAt ws j) q true))
          clear hq hin h0 hrun
          generalize lowest (diffW (wAt ws j) q true) = t at *
          generalize diffW (wAt ws j) q true = z at *
          generalize wAt ws j = x at *
          generalize ~~~x = nx at *
          go_wp2_with fail
          rw [HQ.out, HNOT.out]
          refine (lowBits_any q _ hqb).mono ?_
          rintro e w1 ⟨rfl, rfl⟩
          generalize lowW q = y at *
          go_wp2_with fail
          rw [HA.out]
          refine (HTZ.out _ (HT.out.grow (HG.out _))).mono ?_
          rintro e w1 ⟨rfl, rfl⟩
          go_wp2
          go_ret
          exact ⟨64 * j + t, retU (by omega), HRUN.out, HG.out _⟩
      · have hjl : j = ws.length := by omega
        have hd : decide (j < ws.length) = false := by simp; omega
        have HRUN := hidden (show runTo (mem n ws) n p true n from ⟨by omega, Nat.le_refl _, fun i h1 h2 => hin i h1 (by omega), fun h => absurd h (Nat.lt_irrefl _)⟩)
        clear hin hjl hlt
        go_wp2
        go_ret
        exact ⟨n, rfl, HRUN.out, HG.out _⟩
end Go.Proofs.YtaegolkoinjmoaaDoor
