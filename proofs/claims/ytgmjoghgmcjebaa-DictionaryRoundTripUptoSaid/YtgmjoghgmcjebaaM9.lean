/-
  Texts that the claims of this seat share, put together (Rl1, Rl2, Rl3). No condition.
-/
import Derived.Test.YtgmjoghgmcjebaaProg
import Derived.Test.YtgmjoghgmcjebaaM1
import Derived.WalkKit
import Derived.Outline
import Derived.OwnWalk
import Derived.Deep.QuietTactic
import Derived.BigQuiet
/-
  A slice of runs that reads as a list; the reference's Valid and At. Nothing that was there is changed.
-/
namespace Go.Proofs.Ytgmjoghgmcjebaa
open Go.RowKit
set_option linter.unusedVariables false
set_option linter.unusedSimpArgs false

/-- v is a slice of runs that reads as l -/
def ReadsR (w : World) (v : Value) (l : List Rn) : Prop :=
  ∃ A c, v = .slice A l.length c ∧ l.length ≤ c ∧ (0 < l.length → ∃ b off, A = some ⟨b, off, none⟩ ∧ ∀ j x, l[j]? = some x → w.cell? ⟨b, off + j * 2, none⟩ = some (.int .i64 x.1) ∧ w.cell? ⟨b, off + j * 2 + 1, none⟩ = some (.int .i64 x.2))
theorem ReadsR.grow {w w' : World} {v : Value} {l : List Rn} (h : ReadsR w v l) (hb : Grows w w') : ReadsR w' v l := by
  obtain ⟨A, c, rfl, hle, hc⟩ := h
  refine ⟨A, c, rfl, hle, fun hl => ?_⟩
  obtain ⟨b, off, rfl, hcell⟩ := hc hl
  refine ⟨b, off, rfl, fun j x hj => ?_⟩
  obtain ⟨h1, h2⟩ := hcell j x hj
  exact ⟨(hb.cell (World.block_lt_of_cell? w _ h1)).trans h1, (hb.cell (World.block_lt_of_cell? w _ h2)).trans h2⟩
theorem ReadsR.slice_ {w : World} {v : Value} {l : List Rn} (h : ReadsR w v l) : ∃ A c, v = .slice A l.length c := by
  obtain ⟨A, c, h1, _⟩ := h; exact ⟨A, c, h1⟩
theorem ReadsR.at_ {w : World} {A : Option Addr} {c n : Nat} {l : List Rn} (h : ReadsR w (.slice A n c) l) : ∃ b off, (0 < l.length → A = some ⟨b, off, none⟩) ∧ ∀ j, (hj : j < l.length) → w.cell? ⟨b, off + j * 2, none⟩ = some (.int .i64 l[j].1) ∧ w.cell? ⟨b, off + j * 2 + 1, none⟩ = some (.int .i64 l[j].2) := by
  obtain ⟨A', c', he, _, hc⟩ := h
  injection he with e1 e2 e3
  subst e1
  by_cases h0 : 0 < l.length
  · obtain ⟨b, off, rfl, hcell⟩ := hc h0
    exact ⟨b, off, fun _ => rfl, fun j hj => hcell j _ (List.getElem?_eq_getElem hj)⟩
  · exact ⟨0, 0, fun h => absurd h h0, fun j hj => absurd hj (by omega)⟩
theorem ReadsR.nil_ (w : World) (c : Nat) : ReadsR w (.slice none 0 c) [] := ⟨none, c, rfl, Nat.zero_le _, fun h => absurd h (by simp)⟩
theorem draws_below {B : Nat} {a w : World} (h : Below B a w) (d : Nat) : Below B a { w with drawn := d } := ⟨h.os, h.tape, h.output, h.size, h.block⟩
theorem validR_t {l : List Rn} (h : ∀ k, k < l.length → okRun l k = true) : validR l = true := validR_iff.2 h
theorem validR_f {l : List Rn} {j : Nat} (hj : j < l.length) (h : okRun l j = false) : validR l = false := by
  cases hv : validR l
  · rfl
  · rw [validR_iff.1 hv j hj] at h; cases h
def RVRel (w : World) (l : List Rn) (left i : Value) (wr : World) : Prop :=
  ∃ j : Nat, j ≤ l.length ∧ i = .int .i64 (j : Int) ∧ left = .int .i64 (65536 - sumC (l.take j)) ∧ (0 ≤ sumC (l.take j) ∧ sumC (l.take j) ≤ 65536) ∧ (∀ k, k < j → okRun l k = true) ∧ Below w.heap.size w wr
set_option maxHeartbeats 2000000 in
theorem rlvalid_any (v : Value) (l : List Rn) (w : World) (hv : ReadsR w v l) (hl : l.length ≤ 9223372036854775806) :
    Calls Try.prog 91 #[v] w fun e w' => e = .returned (.bool (validR l)) ∧ Below w.heap.size w w' := by
  have HV := hidden hv
  obtain ⟨A, c, rfl⟩ := hv.slice_
  clear hv
  go_enter Try.func91, Try.ntmps91
  go_wp2_with fail
  go_loopw [3, 4] (fun left i wr => RVRel w l left i wr) (fun _ i _ => l.length - (intOf i).toNat)
  case atStart => exact ⟨0, by omega, rfl, by rw [List.take_zero, sumC_nil]; rfl, by rw [List.take_zero, sumC_nil]; omega, fun k hk => by omega, Below.refl _ _⟩
  case round =>
    obtain ⟨j, hj, rfl, rfl, hs, hok, hb⟩ := hrel
    have HB := hidden hb
    have HOK := hidden hok
    have HSS := hidden hs
    clear hb hok
    by_cases hlt : j < l.length
    · obtain ⟨b, off, hA, hc⟩ := (HV.out.grow HB.out).at_
      obtain rfl := hA (by omega)
      obtain ⟨c1, c2⟩ := hc j hlt
      have HOR := hidden (okRun_iff hlt)
      have HST := hidden (sumC_take hlt)
      have HP := hidden (fun h1 : j - 1 < l.length => (hc (j - 1) h1).1)
      have HX := hidden (show ∀ h2 : j - 1 < l.length, l[j - 1].1 = l[j - 1].1 from fun _ => rfl)
      obtain ⟨L, hL⟩ : ∃ L, L = 65536 - sumC (l.take j) := ⟨_, rfl⟩
      rw [← hL]
      have HL := hidden hL
      obtain ⟨x1, hx1⟩ : ∃ x, x = l[j].1 := ⟨_, rfl⟩
      obtain ⟨x2, hx2⟩ : ∃ x, x = l[j].2 := ⟨_, rfl⟩
      rw [← hx1] at c1
      rw [← hx2] at c2
      have HX1 := hidden hx1
      have HX2 := hidden hx2
      have hL0 : 0 ≤ L ∧ L ≤ 65536 := by omega
      clear hA hc hL hx1 hx2 hs
      by_cases h1 : x2 < 1
      · have d1 : decide (x2 < 1) = true := by simpa using h1
        have HF := hidden (validR_f hlt (by
          cases h : okRun l j
          · rfl
          · have := (HOR.out.1 h).1; rw [← HX2.out] at this; omega))
        clear h1
        go_wp2_with fail
        go_quiet (fail)
        go_wp2
        go_ret
        exact ⟨retB HF.out.symm, draws_below HB.out _⟩
      have d1 : decide (x2 < 1) = false := by simpa using h1
      by_cases h2 : L < x2
      · have d2 : decide (L < x2) = true := by simpa using h2
        have HF := hidden (validR_f hlt (by
          cases h : okRun l j
          · rfl
          · have := (HOR.out.1 h).2.1; rw [← HX2.out, ← HL.out] at this; omega))
        clear h1 h2
        go_wp2_with fail
        go_quiet (fail)
        go_wp2
        go_ret
        exact ⟨retB HF.out.symm, draws_below HB.out _⟩
      have d2 : decide (L < x2) = false := by simpa using h2
      have hx : 1 ≤ x2 ∧ x2 ≤ L := by omega
      have HNX := hidden (show 65536 - sumC (l.take (j + 1)) = L - x2 by have h3 := HST.out; have h4 := HL.out; have h5 := HX2.out; rw [h3, h5, h4]; omega)
      have HNS := hidden (show 0 ≤ sumC (l.take (j + 1)) ∧ sumC (l.take (j + 1)) ≤ 65536 by have h3 := HNX.out; omega)
      clear h1 h2
      by_cases h0 : j = 0
      · have HNO := hidden (show ∀ k, k < j + 1 → okRun l k = true from fun k hk => by
          have hkj : k = j := by omega
          subst hkj
          exact HOR.out.2 ⟨by rw [← HX2.out]; exact hx.1, by rw [← HX2.out, ← HL.out]; exact hx.2, fun h => by omega⟩)
        have d3 : decide ((0 : Int) < (j : Int)) = false := by simp; omega
        have d3' : decide (0 < j) = false := by simp; omega
        have HJ0 := hidden h0
        clear h0
        go_wp2_with fail
        go_quiet (fail)
        go_wp2
        go_roundw
        case rel => exact ⟨j + 1, by omega, by go_num, by rw [HNX.out], HNS.out, HNO.out, draws_below HB.out _⟩
        case measure => simp [intOf]; omega
      · have hj1 : j - 1 < l.length := by omega
        have cp := HP.out hj1
        have d3 : decide ((0 : Int) < (j : Int)) = true := by simp; omega
        have d3' : decide (0 < j) = true := by simp; omega
        have b1 : (0 : Int) ≤ (j : Int) - 1 := by omega
        have b2 : (j : Int) - 1 < (l.length : Int) := by omega
        have b3 : ((j : Int) - 1).toNat = j - 1 := by omega
        obtain ⟨y1, hy1⟩ : ∃ y, y = l[j - 1].1 := ⟨_, rfl⟩
        rw [← hy1] at cp
        have HY1 := hidden hy1
        clear hy1
        by_cases he : x1 = y1
        · have d4 : (x1 == y1) = true := by simpa using he
          have HF := hidden (validR_f hlt (by
            cases h : okRun l j
            · rfl
            · exact absurd (by rw [← HX1.out, ← HY1.out]; exact he.symm) ((HOR.out.1 h).2.2 (by omega) hj1)))
          clear he h0
          go_wp2_with fail
          go_quiet (fail)
          go_wp2
          go_ret
          exact ⟨retB HF.out.symm, draws_below HB.out _⟩
        · have d4 : (x1 == y1) = false := by simpa using he
          have HNO := hidden (show ∀ k, k < j + 1 → okRun l k = true from fun k hk => by
            by_cases hkj : k < j
            · exact HOK.out k hkj
            · have hkj : k = j := by omega
              subst hkj
              exact HOR.out.2 ⟨by rw [← HX2.out]; exact hx.1, by rw [← HX2.out, ← HL.out]; exact hx.2, fun _ h2 => by rw [← HX1.out, ← HY1.out]; exact fun e => he e.symm⟩)
          clear he h0
          go_wp2_with fail
          go_quiet (fail)
          go_wp2
          go_roundw
          case rel => exact ⟨j + 1, by omega, by go_num, by rw [HNX.out], HNS.out, HNO.out, draws_below HB.out _⟩
          case measure => simp [intOf]; omega
    · have hke : j = l.length := by omega
      have HT := hidden (validR_t (l := l) (fun k hk => HOK.out k (by omega)))
      have d0 : decide (j < l.length) = false := by simp; omega
      clear hke hs
      go_wp2_with fail
      go_ret
      exact ⟨retB HT.out.symm, HB.out⟩
end Go.Proofs.Ytgmjoghgmcjebaa
/-
  The reference's At, Ints and Equal over runs, and the laws' 'small'. Nothing that was there is changed.
-/
namespace Go.Proofs.Ytgmjoghgmcjebaa
open Go.RowKit
set_option linter.unusedVariables false
set_option linter.unusedSimpArgs false

def atV (l : List Rn) (i : Int) : Int × Bool :=
  if i < 0 then (0, false) else match atR l i with
  | some x => (x, true)
  | none => (0, false)
theorem atV_neg {l : List Rn} {i : Int} (h : i < 0) : atV l i = (0, false) := by unfold atV; rw [if_pos h]
theorem atV_some {l : List Rn} {i x : Int} (h : 0 ≤ i) (hx : atR l i = some x) : atV l i = (x, true) := by unfold atV; rw [if_neg (by omega), hx]
theorem atV_none {l : List Rn} {i : Int} (h : 0 ≤ i) (hx : atR l i = none) : atV l i = (0, false) := by unfold atV; rw [if_neg (by omega), hx]
def RAtRel (w : World) (l : List Rn) (i0 : Int) (i k : Value) (wr : World) : Prop :=
  ∃ (j : Nat) (i' : Int), j ≤ l.length ∧ k = .int .i64 (j : Int) ∧ i = .int .i64 i' ∧ (0 ≤ i' ∧ i' ≤ i0) ∧ atR (l.drop j) i' = atR l i0 ∧ w = wr
/-- v is a slice that reads as the integers of l -/
def IsI (w : World) (v : Value) (l : List Int) : Prop := Reads w v (icells l)
theorem IsI.grow {w w' : World} {v : Value} {l : List Int} (h : IsI w v l) (hb : Grows w w') : IsI w' v l := Reads.grow h hb
theorem IsI.slice_ {w : World} {v : Value} {l : List Int} (h : IsI w v l) : ∃ A c, v = .slice A l.length c := by
  obtain ⟨A, c, h1, h2⟩ := Reads.slice_ h
  rw [icells_length] at h1
  exact ⟨A, c, h1⟩
theorem IsI.at_ {w : World} {A : Option Addr} {c n : Nat} {l : List Int} (h : IsI w (.slice A n c) l) {k : Nat} (hk : k < l.length) : ∃ b f, A = some ⟨b, f, none⟩ ∧ w.cell? ⟨b, f + k, none⟩ = some (.int .i64 l[k]) := by
  obtain ⟨A', c', he, _, hc⟩ := h
  injection he with e1 e2 e3
  subst e1
  obtain ⟨b, f, rfl, hcell⟩ := hc (by rw [icells_length]; omega)
  refine ⟨b, f, rfl, ?_⟩
  rw [hcell k (by rw [icells_length]; exact hk), icells_get hk]
def sameI (a b : List Int) : Bool := decide (a = b)
def sameR (a b : List Rn) : Bool := decide (a = b)
theorem sameI_self (a : List Int) : sameI a a = true := by unfold sameI; simp
theorem sameR_self (a : List Rn) : sameR a a = true := by unfold sameR; simp
def SameIRel (w : World) (la lb : List Int) (k : Value) (wr : World) : Prop := ∃ j : Nat, j ≤ la.length ∧ k = .int .i64 (j : Int) ∧ la.take j = lb.take j ∧ Below w.heap.size w wr
end Go.Proofs.Ytgmjoghgmcjebaa
/-
  The reference's Equal over runs. Nothing that was there is changed.
-/
namespace Go.Proofs.Ytgmjoghgmcjebaa
open Go.RowKit
set_option linter.unusedVariables false
set_option linter.unusedSimpArgs false

def SameRRel (w : World) (la lb : List Rn) (k : Value) (wr : World) : Prop := ∃ j : Nat, j ≤ la.length ∧ k = .int .i64 (j : Int) ∧ la.take j = lb.take j ∧ Below w.heap.size w wr
end Go.Proofs.Ytgmjoghgmcjebaa
