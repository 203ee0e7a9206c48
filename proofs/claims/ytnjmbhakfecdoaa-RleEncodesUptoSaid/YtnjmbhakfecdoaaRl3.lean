/-
  The reference's Equal over runs. Nothing that was there is changed.
-/
import Derived.Test.YtnjmbhakfecdoaaRl2
namespace Go.Proofs.Ytnjmbhakfecdoaa
open Go.RowKit
set_option linter.unusedVariables false
set_option linter.unusedSimpArgs false

def SameRRel (w : World) (la lb : List Rn) (k : Value) (wr : World) : Prop := ∃ j : Nat, j ≤ la.length ∧ k = .int .i64 (j : Int) ∧ la.take j = lb.take j ∧ Below w.heap.size w wr
set_option maxHeartbeats 1000000 in
theorem rlequal_any (va vb : Value) (la lb : List Rn) (w : World) (ha : ReadsR w va la) (hb : ReadsR w vb lb) (hl : la.length ≤ 9223372036854775806) (hl2 : lb.length ≤ 9223372036854775806) :
    Calls Try.prog 13 #[va, vb] w fun e w' => e = .returned (.bool (sameR la lb)) ∧ Below w.heap.size w w' := by
  obtain ⟨A, c, rfl⟩ := ha.slice_
  obtain ⟨B, d, rfl⟩ := hb.slice_
  have HRA := hidden ha
  have HRB := hidden hb
  clear ha hb
  by_cases hlen : la.length = lb.length
  · have hd1 : ((la.length : Int) != (lb.length : Int)) = false := by simp; omega
    have HLN := hidden hlen
    clear hlen
    go_enter Try.func13, Try.ntmps13
    go_wp2_with fail
    go_loopw [5] (fun k wr => SameRRel w la lb k wr) (fun k _ => la.length - (intOf k).toNat)
    case atStart => exact ⟨0, by omega, rfl, by simp, Below.refl _ _⟩
    case round =>
      obtain ⟨j, hj, rfl, hsame, hb⟩ := hrel
      have HB := hidden hb
      have HSM := hidden hsame
      have hlen := HLN.out
      clear hb hsame
      by_cases hlt : j < la.length
      · have hlt2 : j < lb.length := by omega
        obtain ⟨b1, o1, hA1, hc1⟩ := (HRA.out.grow HB.out).at_
        obtain rfl := hA1 (by omega)
        obtain ⟨b2, o2, hA2, hc2⟩ := (HRB.out.grow HB.out).at_
        obtain rfl := hA2 (by omega)
        obtain ⟨p1, p2⟩ := hc1 j hlt
        obtain ⟨q1, q2⟩ := hc2 j hlt2
        have HTA := hidden (List.take_succ_eq_append_getElem hlt)
        have HTB := hidden (List.take_succ_eq_append_getElem hlt2)
        have HNE := hidden (fun h : la = lb => (by subst h; rfl : la[j] = lb[j]))
        obtain ⟨x, hx⟩ : ∃ x, x = la[j] := ⟨_, rfl⟩
        obtain ⟨y, hy⟩ : ∃ y, y = lb[j] := ⟨_, rfl⟩
        rw [← hx] at p1 p2 HTA HNE
        rw [← hy] at q1 q2 HTB HNE
        obtain ⟨x1, x2⟩ := x
        obtain ⟨y1, y2⟩ := y
        simp only at p1 p2 q1 q2
        clear hlen hA1 hA2 hc1 hc2 hx hy
        by_cases heq : x1 = y1 ∧ x2 = y2
        · obtain ⟨rfl, rfl⟩ := heq
          go_wp2_with fail
          go_quiet (fail)
          go_wp2
          go_roundw
          case rel =>
            refine ⟨j + 1, by omega, by go_num, ?_, draws_below HB.out _⟩
            rw [HTA.out, HTB.out, HSM.out]
          case measure => simp [intOf]; omega
        · have HF := hidden (show sameR la lb = false by
            unfold sameR
            rw [decide_eq_false_iff_not]
            intro h
            have h2 := HNE.out h
            injection h2 with h3 h4
            exact heq ⟨h3, h4⟩)
          by_cases h1 : x1 = y1
          · subst h1
            have h2 : (x2 == y2) = false := by rw [beq_eq_false_iff_ne]; exact fun h => heq ⟨rfl, h⟩
            clear heq
            go_wp2_with fail
            go_quiet (fail)
            go_wp2
            go_ret
            exact ⟨retB (by rw [HF.out]), draws_below HB.out _⟩
          · have h2 : (x1 == y1) = false := by rw [beq_eq_false_iff_ne]; exact h1
            clear heq h1
            go_wp2_with fail
            go_quiet (fail)
            go_wp2
            go_ret
            exact ⟨retB (by rw [HF.out]), draws_below HB.out _⟩
      · have hje : j = la.length := by omega
        have hsame := HSM.out
        rw [hje, List.take_length, hlen, List.take_length] at hsame
        have HT2 := hidden (show sameR la lb = true by unfold sameR; simpa using hsame)
        have hnj : la.length ≤ j := by omega
        clear hsame hje hlen
        go_wp2
        go_ret
        exact ⟨retB (by rw [HT2.out]), HB.out⟩
  · have hd1 : ((la.length : Int) != (lb.length : Int)) = true := by simp; omega
    have HF := hidden (show sameR la lb = false by
      unfold sameR
      rw [decide_eq_false_iff_not]
      intro h
      exact hlen (by rw [h]))
    clear hlen
    go_enter Try.func13, Try.ntmps13
    go_wp2_with fail
    go_ret
    exact ⟨retB (by rw [HF.out]), Below.refl _ _⟩
end Go.Proofs.Ytnjmbhakfecdoaa
