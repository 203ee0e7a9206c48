/-
  Package rle as it landed: length, Valid, At. Nothing that was there is changed.
-/
import Derived.Test.YtnjmbhakfecdoaaRl2
import Derived.Test.YtnjmbhakfecdoaaBsRef2
namespace Go.Proofs.Ytnjmbhakfecdoaa
open Go.RowKit
set_option linter.unusedVariables false
set_option linter.unusedSimpArgs false

theorem runGrow1 {w : World} (o : Obj) : Grows w (w.alloc o) := (Below.refl _ _).alloc (Nat.le_refl _) o
theorem size_run : (Try.prog.info? 59).map (·.size) = some 2 := by kernel_rfl
theorem runRow (w : World) (z1 z2 : Value) : Row (w.alloc (.cells #[z1, z2] 59)) w.heap.size 59 [z1, z2] := Row.new w 59 #[z1, z2] [z1, z2] rfl
theorem runCells {w : World} {g : Nat} {v n : Value} (h : Row w g 59 [v, n]) : w.cell? ⟨g, 0, none⟩ = some v ∧ w.cell? ⟨g, 1, none⟩ = some n := ⟨h.cell 0, h.cell 1⟩

def lenV (l : List Rn) : Int × Bool := if validR l then (sumC l, true) else (0, false)
theorem lenV_f {l : List Rn} (h : validR l = false) : lenV l = (0, false) := by unfold lenV; rw [h]; rfl
theorem lenV_t {l : List Rn} (h : validR l = true) : lenV l = (sumC l, true) := by unfold lenV; rw [h]; rfl
def RLenRel (w : World) (l : List Rn) (n i : Value) (wr : World) : Prop :=
  ∃ j : Nat, j ≤ l.length ∧ i = .int .i64 (j : Int) ∧ n = .int .i64 (sumC (l.take j)) ∧ (0 ≤ sumC (l.take j) ∧ sumC (l.take j) ≤ 65536) ∧ (∀ k, k < j → okRun l k = true) ∧ Below w.heap.size w wr
set_option maxHeartbeats 4000000 in
theorem llength_any (v : Value) (l : List Rn) (w : World) (hv : ReadsR w v l) (hl : l.length ≤ 9223372036854775806) :
    Calls Try.prog 31 #[v] w fun e w' => e = .returned (.tuple #[.int .i64 (lenV l).1, .bool (lenV l).2]) ∧ Grows w w' := by
  have HV := hidden hv
  obtain ⟨A, c, rfl⟩ := hv.slice_
  clear hv
  go_enter Try.func31, Try.ntmps31
  go_wp2_with fail
  go_loopw [4, 9] (fun n i wr => RLenRel w l n i wr) (fun _ i _ => l.length - (intOf i).toNat)
  case atStart => exact ⟨0, by omega, rfl, by rw [List.take_zero, sumC_nil], by rw [List.take_zero, sumC_nil]; omega, fun k hk => by omega, Below.refl _ _⟩
  case round =>
    obtain ⟨j, hj, rfl, rfl, hs, hok, hb⟩ := hrel
    have HB := hidden hb
    have HOK := hidden hok
    have HSS := hidden hs
    clear hb hok
    by_cases hlt : j < l.length
    · obtain ⟨b, off, hA, hc⟩ := (HV.out.grow HB.out).at_
      obtain rfl := hA (by omega)
      obtain ⟨c1, c2⟩ := hc j hlt
      have HOR := hidden (okRun_iff hlt)
      have HST := hidden (sumC_take hlt)
      have HP := hidden (fun h1 : j - 1 < l.length => (hc (j - 1) h1).1)
      obtain ⟨L, hL⟩ : ∃ L, L = sumC (l.take j) := ⟨_, rfl⟩
      rw [← hL] at HST hs ⊢
      have HL := hidden hL
      obtain ⟨x1, hx1⟩ : ∃ x, x = l[j].1 := ⟨_, rfl⟩
      obtain ⟨x2, hx2⟩ : ∃ x, x = l[j].2 := ⟨_, rfl⟩
      rw [← hx1] at c1
      rw [← hx2] at c2 HST
      have HX1 := hidden hx1
      have HX2 := hidden hx2
      clear hA hc hL hx1 hx2 HSS
      have HB1 := hidden (show ∀ d, Grows w ((wr.alloc (.cells #[.int .i64 x1, .int .i64 x2] 59)).drewN d) from fun d => draws_below (HB.out.alloc HB.out.size _) _)
      by_cases h0 : j = 0
      · have d3 : decide ((0 : Int) < (j : Int)) = false := by simp; omega
        have d3' : decide (0 < j) = false := by simp; omega
        have HJ0 := hidden h0
        clear h0
        by_cases h1 : x2 < 1
        · have d1 : decide (x2 < 1) = true := by simpa using h1
          have HF := hidden (lenV_f (validR_f hlt (by
            cases h : okRun l j
            · rfl
            · have := (HOR.out.1 h).1; rw [← HX2.out] at this; omega)))
          clear h1
          go_wp2_with fail
          go_quiet (fail)
          go_wp2
          go_ret2
          exact ⟨by rw [HF.out]; rfl, HB1.out _⟩
        have d1 : decide (x2 < 1) = false := by simpa using h1
        by_cases h2 : 65536 - L < x2
        · have d2 : decide (65536 - L < x2) = true := by simpa using h2
          have HF := hidden (lenV_f (validR_f hlt (by
            cases h : okRun l j
            · rfl
            · have := (HOR.out.1 h).2.1; rw [← HX2.out, ← HL.out] at this; omega)))
          clear h1 h2
          go_wp2_with fail
          go_quiet (fail)
          go_wp2
          go_ret2
          exact ⟨by rw [HF.out]; rfl, HB1.out _⟩
        have d2 : decide (65536 - L < x2) = false := by simpa using h2
        have hx : 1 ≤ x2 ∧ x2 ≤ 65536 - L := by omega
        have HNS := hidden (show 0 ≤ sumC (l.take (j + 1)) ∧ sumC (l.take (j + 1)) ≤ 65536 by have h3 := HST.out; omega)
        have HNO := hidden (show ∀ k, k < j + 1 → okRun l k = true from fun k hk => by
          have hkj : k = j := by have := HJ0.out; omega
          subst hkj
          exact HOR.out.2 ⟨by rw [← HX2.out]; exact hx.1, by rw [← HX2.out, ← HL.out]; exact hx.2, fun h => by have := HJ0.out; omega⟩)
        clear h1 h2
        go_wp2_with fail
        go_quiet (fail)
        go_wp2
        go_roundw
        case rel => exact ⟨j + 1, by omega, by go_num, by rw [HST.out], HNS.out, HNO.out, HB1.out _⟩
        case measure => simp [intOf]; omega
      · have hj1 : j - 1 < l.length := by omega
        have cp := HP.out hj1
        have d3 : decide ((0 : Int) < (j : Int)) = true := by simp; omega
        have d3' : decide (0 < j) = true := by simp; omega
        have b1 : (0 : Int) ≤ (j : Int) - 1 := by omega
        have b2 : (j : Int) - 1 < (l.length : Int) := by omega
        have b3 : ((j : Int) - 1).toNat = j - 1 := by omega
        obtain ⟨y1, hy1⟩ : ∃ y, y = l[j - 1].1 := ⟨_, rfl⟩
        rw [← hy1] at cp
        have HY1 := hidden hy1
        have cp2 := ((runGrow1 (w := wr) (.cells #[.int .i64 x1, .int .i64 x2] 59)).cell (World.block_lt_of_cell? _ _ cp)).trans cp
        clear hy1 cp
        by_cases he : x1 = y1
        · have d4 : (x1 == y1) = true := by simpa using he
          have HF := hidden (lenV_f (validR_f hlt (by
            cases h : okRun l j
            · rfl
            · exact absurd (by rw [← HX1.out, ← HY1.out]; exact he.symm) ((HOR.out.1 h).2.2 (by omega) hj1))))
          clear he h0
          go_wp2_with fail
          go_quiet (fail)
          go_wp2
          go_ret2
          exact ⟨by rw [HF.out]; rfl, HB1.out _⟩
        · have d4 : (x1 == y1) = false := by simpa using he
          by_cases h1 : x2 < 1
          · have d1 : decide (x2 < 1) = true := by simpa using h1
            have HF := hidden (lenV_f (validR_f hlt (by
              cases h : okRun l j
              · rfl
              · have := (HOR.out.1 h).1; rw [← HX2.out] at this; omega)))
            clear h1 he h0
            go_wp2_with fail
            go_quiet (fail)
            clear cp2
            go_wp2
            go_ret2
            exact ⟨by rw [HF.out]; rfl, HB1.out _⟩
          have d1 : decide (x2 < 1) = false := by simpa using h1
          by_cases h2 : 65536 - L < x2
          · have d2 : decide (65536 - L < x2) = true := by simpa using h2
            have HF := hidden (lenV_f (validR_f hlt (by
              cases h : okRun l j
              · rfl
              · have := (HOR.out.1 h).2.1; rw [← HX2.out, ← HL.out] at this; omega)))
            clear h1 h2 he h0
            go_wp2_with fail
            go_quiet (fail)
            clear cp2
            go_wp2
            go_ret2
            exact ⟨by rw [HF.out]; rfl, HB1.out _⟩
          have d2 : decide (65536 - L < x2) = false := by simpa using h2
          have hx : 1 ≤ x2 ∧ x2 ≤ 65536 - L := by omega
          have HNS := hidden (show 0 ≤ sumC (l.take (j + 1)) ∧ sumC (l.take (j + 1)) ≤ 65536 by have h3 := HST.out; omega)
          have HNO := hidden (show ∀ k, k < j + 1 → okRun l k = true from fun k hk => by
            by_cases hkj : k < j
            · exact HOK.out k hkj
            · have hkj : k = j := by omega
              subst hkj
              exact HOR.out.2 ⟨by rw [← HX2.out]; exact hx.1, by rw [← HX2.out, ← HL.out]; exact hx.2, fun _ h2 => by rw [← HX1.out, ← HY1.out]; exact fun e => he e.symm⟩)
          clear h1 h2 he h0
          go_wp2_with fail
          go_quiet (fail)
          clear cp2
          go_wp2
          go_roundw
          case rel => exact ⟨j + 1, by omega, by go_num, by rw [HST.out], HNS.out, HNO.out, HB1.out _⟩
          case measure => simp [intOf]; omega
    · have hke : j = l.length := by omega
      have HT := hidden (lenV_t (validR_t (l := l) (fun k hk => HOK.out k (by omega))))
      have d0 : decide (j < l.length) = false := by simp; omega
      have HS := hidden (show sumC (l.take j) = sumC l by rw [hke, List.take_length])
      clear hke hs
      go_wp2_with fail
      go_ret2
      exact ⟨by rw [HT.out, HS.out]; rfl, HB.out⟩
theorem lvalid_any (v : Value) (l : List Rn) (w : World) (hv : ReadsR w v l) (hl : l.length ≤ 9223372036854775806) :
    Calls Try.prog 8 #[v] w fun e w' => e = .returned (.bool (validR l)) ∧ Grows w w' := by
  have HL := hidden (llength_any v l w hv hl)
  have HE := hidden (show (lenV l).2 = validR l by unfold lenV; cases validR l <;> rfl)
  rw [HE.out] at HL
  generalize (lenV l).1 = n at *
  clear hv
  go_enter Try.func8, Try.ntmps8
  go_wp2_with ((go_at_call 31; refine HL.out.mono ?_; rintro e w2 ⟨rfl, g2⟩; have HG2 := hidden g2; clear g2))
  go_ret
  exact ⟨rfl, HG2.out⟩
def LAtRel (w : World) (l : List Rn) (i0 : Int) (i k : Value) (wr : World) : Prop :=
  ∃ (j : Nat) (i' : Int), j ≤ l.length ∧ k = .int .i64 (j : Int) ∧ i = .int .i64 i' ∧ (0 ≤ i' ∧ i' ≤ i0) ∧ atR (l.drop j) i' = atR l i0 ∧ Below w.heap.size w wr
set_option maxHeartbeats 1000000 in
theorem lat_any (v : Value) (l : List Rn) (i : Int) (w : World) (hv : ReadsR w v l) (hn : ∀ x ∈ l, 0 ≤ x.2) (hl : l.length ≤ 9223372036854775806) (h64 : i ≤ 9223372036854775807) :
    Calls Try.prog 18 #[v, .int .i64 i] w fun e w' => e = .returned (.tuple #[.int .i64 (atV l i).1, .bool (atV l i).2]) ∧ Grows w w' := by
  have HV := hidden hv
  have HN := hidden hn
  obtain ⟨A, c, rfl⟩ := hv.slice_
  clear hv hn
  by_cases h0 : i < 0
  · have HE := hidden (atV_neg (l := l) h0)
    have d0 : decide (i < 0) = true := by simpa using h0
    go_enter Try.func18, Try.ntmps18
    go_wp2_with fail
    go_ret2
    rw [HE.out]
    exact ⟨rfl, Below.refl _ _⟩
  · have hi0 : 0 ≤ i := by omega
    have d0 : decide (i < 0) = false := by simpa using h0
    go_enter Try.func18, Try.ntmps18
    go_wp2_with fail
    go_loopw [1, 12] (fun i' k wr => LAtRel w l i i' k wr) (fun _ k _ => l.length - (intOf k).toNat)
    case atStart => exact ⟨0, i, by omega, rfl, rfl, ⟨hi0, by omega⟩, rfl, Below.refl _ _⟩
    case round =>
      obtain ⟨j, i', hj, rfl, rfl, hi', hat, hb⟩ := hrel
      have HB := hidden hb
      clear hb
      by_cases hlt : j < l.length
      · obtain ⟨b, off, hA, hc⟩ := (HV.out.grow HB.out).at_
        obtain rfl := hA (by omega)
        obtain ⟨c1, c2⟩ := hc j hlt
        have hcn := HN.out _ (List.getElem_mem hlt)
        rw [atR_drop hlt] at hat
        obtain ⟨x1, hx1⟩ : ∃ x, x = l[j].1 := ⟨_, rfl⟩
        obtain ⟨x2, hx2⟩ : ∃ x, x = l[j].2 := ⟨_, rfl⟩
        rw [← hx1] at c1 hat
        rw [← hx2] at c2 hat hcn
        have HB1 := hidden (show Grows w (wr.alloc (.cells #[.int .i64 x1, .int .i64 x2] 59)) from HB.out.alloc HB.out.size _)
        clear hA hc hx1 hx2
        by_cases hin : i' < x2
        · rw [if_pos hin] at hat
          have HE := hidden (atV_some hi0 hat.symm)
          have d1 : decide (i' < x2) = true := by simpa using hin
          clear hat hin
          go_wp2_with fail
          go_ret2
          rw [HE.out]
          exact ⟨rfl, HB1.out⟩
        · rw [if_neg hin] at hat
          have HAT := hidden hat
          have d1 : decide (i' < x2) = false := by simpa using hin
          clear hat
          go_wp2_with fail
          go_roundw
          case rel => exact ⟨j + 1, i' - x2, by omega, by go_num, rfl, ⟨by omega, by omega⟩, HAT.out, HB1.out⟩
          case measure => simp [intOf]; omega
      · have hke : j = l.length := by omega
        subst hke
        rw [List.drop_length] at hat
        have HE := hidden (atV_none hi0 hat.symm)
        clear hat
        go_wp2_with fail
        go_ret2
        rw [HE.out]
        exact ⟨rfl, HB.out⟩
end Go.Proofs.Ytnjmbhakfecdoaa
