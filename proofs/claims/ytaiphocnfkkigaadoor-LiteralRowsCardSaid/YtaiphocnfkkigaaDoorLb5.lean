/-
  Package literal as it landed: Like. Nothing that was there is changed; the listed variables lie as the program's text lays them ('Fit').
-/
import Derived.Test.YtaiphocnfkkigaaDoorLb4
import Derived.Test.YtaiphocnfkkigaaDoorLib
import Derived.Test.YtaiphocnfkkigaaDoorLtK
namespace Go.Proofs.YtaiphocnfkkigaaDoor
open Go.RowKit
set_option linter.unusedVariables false
set_option linter.unusedSimpArgs false

noncomputable def likeM (l s : List UInt8) : Bool := mk l s s.length
theorem likeM_true {l s : List UInt8} : likeM l s = true ↔ LM l s := by unfold likeM; rw [mk_true, List.take_of_length_le (Nat.le_refl _)]
theorem likeM_eq {l s : List UInt8} {b : Bool} (h : b = true ↔ LM l s) : likeM l s = b := by rw [Bool.eq_iff_iff, likeM_true]; exact h.symm
theorem split_cells (l : List UInt8) (w : World) (h : Fit w) (hl : l.length ≤ 1048576) :
    Calls Tryd.prog 43 #[.string (strOf l), .string (strOf [37])] w fun e w' => e = .returned (.slice (some ⟨w.heap.size, 0, none⟩) (pieces l).length (pieces l).length) ∧ (∀ j p, (pieces l)[j]? = some p → w'.cell? ⟨w.heap.size, j, none⟩ = some (.string (strOf p))) ∧ Grows w w' :=
  (lib_split l w h hl).mono fun e w' ⟨he, hw⟩ => by
    subst hw
    have hrow := Row.new w 9 ((pieces l).map fun p => Value.string (strOf p)).toArray ((pieces l).map fun p => Value.string (strOf p)) rfl
    refine ⟨he, fun j p hp => ?_, (Below.refl _ _).alloc (Nat.le_refl _) _⟩
    rw [hrow.cell j, List.getElem?_map, hp]
    rfl
theorem pieces_le : ∀ (l : List UInt8), (∀ p ∈ pieces l, p.length ≤ l.length) ∧ (pieces l).length ≤ l.length + 1
  | [] => ⟨fun p hp => by
      have : p = [] := by simpa [pieces] using hp
      subst this
      exact Nat.le_refl _, by simp [pieces]⟩
  | c :: r => by
    obtain ⟨i1, i2⟩ := pieces_le r
    rw [pieces]
    by_cases h : c = 37
    · rw [if_pos h]
      refine ⟨fun p hp => ?_, by simp; omega⟩
      rcases List.mem_cons.1 hp with rfl | hp
      · simp
      · have := i1 p hp; simp; omega
    · rw [if_neg h]
      cases hr : pieces r with
      | nil => exact absurd hr (pieces_ne r)
      | cons a t =>
        rw [hr] at i1 i2
        refine ⟨fun p hp => ?_, by simp at i2 ⊢; omega⟩
        rcases List.mem_cons.1 hp with rfl | hp
        · have := i1 a (List.mem_cons_self ..); simp; omega
        · have := i1 p (List.mem_cons_of_mem _ hp); simp; omega
theorem mid_reads {w w' : World} {B : Nat} {ms : List (List UInt8)} (h : ∀ j p, ms[j]? = some p → w.cell? ⟨B, j + 1, none⟩ = some (.string (strOf p))) (hg : Grows w w') : Reads w' (.slice (some ⟨B, 1, none⟩) ms.length (ms.length + 1)) (ms.map fun p => Value.string (strOf p)) := by
  refine Reads.grow (w := w) ⟨_, ms.length + 1, by rw [List.length_map], by rw [List.length_map]; omega, fun _ => ⟨B, 1, rfl, fun j hj => ?_⟩⟩ hg
  rw [List.length_map] at hj
  rw [Nat.add_comm 1 j, h j _ (List.getElem?_eq_getElem hj), List.getElem?_map, List.getElem?_eq_getElem hj]
  rfl
set_option maxRecDepth 8000 in
set_option maxHeartbeats 4000000 in
theorem llike_any (l s : List UInt8) (w : World) (hf : Fit w) (hl : l.length ≤ 1048576) (hs : s.length ≤ 1048576) : Calls Tryd.prog 28 #[.string (strOf l), .string (strOf s)] w fun e w' => e = .returned (.bool (likeM l s)) ∧ Grows w w' := by
  have HSP := hidden (split_cells l w hf hl)
  have hss : (strOf s).size = s.length := rfl
  obtain ⟨hpl, hpn⟩ := pieces_le l
  cases hP : pieces l with
  | nil => exact absurd hP (pieces_ne l)
  | cons h t =>
    have hsh : (strOf h).size = h.length := rfl
    rcases List.eq_nil_or_concat t with rfl | ⟨ms, e, ht⟩
    · have HE := hidden (likeM_eq (lk1_LM l h s hP))
      rw [hP] at HSP
      clear hpl hpn hP hf
      by_cases hln : s.length = h.length
      · have HB := hidden (fun w => lbegins_any s h w (by omega) (by omega))
        have HE2 := hidden (show likeM l s = beg h s by rw [HE.out, decide_eq_true hln]; rfl)
        have hlb : ((s.length : Int) == (h.length : Int)) = true := by simp; omega
        clear hln
        go_enter Tryd.func28, Tryd.ntmps28
        go_wp2_with (first
          | (go_at_call 43; refine HSP.out.mono ?_; rintro e w2 ⟨rfl, hc2, g2⟩; have c0 := hc2 0 h rfl; have HG2 := hidden g2; clear hc2 g2)
          | (go_at_call 44; refine (HB.out _).mono ?_; rintro e w3 ⟨rfl, d3⟩; have HG3 := hidden (HG2.out.of_below d3.grows); clear d3))
        go_ret
        exact ⟨retB HE2.out.symm, HG3.out⟩
      · have HE2 := hidden (show likeM l s = false by rw [HE.out, decide_eq_false hln]; rfl)
        have hlb : ((s.length : Int) == (h.length : Int)) = false := by simp; omega
        go_enter Tryd.func28, Tryd.ntmps28
        go_wp2_with (first
          | (go_at_call 43; refine HSP.out.mono ?_; rintro e w2 ⟨rfl, hc2, g2⟩; have c0 := hc2 0 h rfl; have HG2 := hidden g2; clear hc2 g2))
        go_ret
        exact ⟨retB HE2.out.symm, HG2.out⟩
    · rw [List.concat_eq_append] at ht
      subst ht
      have hse : (strOf e).size = e.length := rfl
      have HE := hidden (likeM_eq (lkB_LM l h ms e s hP))
      rw [hP] at HSP hpl hpn
      have hK : (h :: (ms ++ [e])).length = ms.length + 2 := by simp
      rw [hK] at HSP hpn
      have hel := hpl e (by simp)
      have hhl := hpl h (by simp)
      have HML := hidden (show ∀ p ∈ ms, p.length ≤ 1048576 from fun p hp => Nat.le_trans (hpl p (by simp [hp])) hl)
      have hmn : ms.length ≤ 1048575 := by omega
      have HLAST := hidden (show (h :: (ms ++ [e]))[ms.length + 1]? = some e by rw [List.getElem?_cons_succ, List.getElem?_append_right (Nat.le_refl _)]; simp)
      have HMID := hidden (show ∀ j p, ms[j]? = some p → (h :: (ms ++ [e]))[j + 1]? = some p from fun j p hj => by
        rw [List.getElem?_cons_succ]
        have hjl : j < ms.length := by
          rcases Nat.lt_or_ge j ms.length with h1 | h1
          · exact h1
          · rw [List.getElem?_eq_none h1] at hj; cases hj
        rw [List.getElem?_append_left hjl]
        exact hj)
      have hn1 : ((ms.length : Int) + 2 == 1) = false := by simp; omega
      have hn2 : (0 : Int) ≤ (ms.length : Int) + 1 := by omega
      clear hpl hpn hP hf hK
      by_cases hroom : h.length + e.length ≤ s.length
      · have hr1 : decide ((s.length : Int) < (h.length : Int) + (e.length : Int)) = false := by simp; omega
        have hr2 : decide (s.length < h.length + e.length) = false := by simp; omega
        have HB1 := hidden (fun w => lbegins_any s h w (by omega) (by omega))
        have hx2 : strOf (s.drop (s.length - e.length)) = (strOf s).extract (s.length - e.length) s.length := by
          rw [strOf_extract, List.take_of_length_le (by rw [List.length_drop]; exact Nat.le_refl _)]
        have HB2 := hidden (fun w => lbegins_any (s.drop (s.length - e.length)) e w (by rw [List.length_drop]; omega) (by rw [List.length_drop]; omega))
        rw [hx2] at HB2
        clear hx2
        cases hb1 : beg h s
        · have HE2 := hidden (show likeM l s = false by rw [HE.out]; unfold lkB; rw [hb1]; simp)
          rw [hb1] at HB1
          clear hb1
          go_enter Tryd.func28, Tryd.ntmps28
          go_wp2_with (first
            | (go_at_call 43; refine HSP.out.mono ?_; rintro e' w2 ⟨rfl, hc2, g2⟩; have c0 := hc2 0 h rfl; have c1 := hc2 (ms.length + 1) e HLAST.out; have HG2 := hidden g2; clear hc2 g2)
            | (go_at_call 44; refine (HB1.out _).mono ?_; rintro e' w3 ⟨rfl, d3⟩; have HG3 := hidden (HG2.out.of_below d3.grows); clear d3))
          go_ret
          exact ⟨retB HE2.out.symm, HG3.out⟩
        · rw [hb1] at HB1
          cases hb2 : beg e (s.drop (s.length - e.length))
          · have HE2 := hidden (show likeM l s = false by rw [HE.out]; unfold lkB; rw [hb2]; simp)
            rw [hb2] at HB2
            clear hb1 hb2
            go_enter Tryd.func28, Tryd.ntmps28
            go_wp2_with (first
              | (go_at_call 43; refine HSP.out.mono ?_; rintro e' w2 ⟨rfl, hc2, g2⟩; have c0 := hc2 0 h rfl; have c1 := hc2 (ms.length + 1) e HLAST.out; have HG2 := hidden g2; clear hc2 g2)
              | (go_at_call_of 44 (Value.string (strOf h)); refine (HB1.out _).mono ?_; rintro e' w3 ⟨rfl, d3⟩; have HG3 := hidden (HG2.out.of_below d3.grows); clear d3)
              | (go_at_call_of 44 (Value.string (strOf e)); refine (HB2.out _).mono ?_; rintro e' w4 ⟨rfl, d4⟩; have HG4 := hidden (HG3.out.of_below d4.grows); clear d4))
            go_ret
            exact ⟨retB HE2.out.symm, HG4.out⟩
          · have HE2 := hidden (show likeM l s = inOrder ms ((s.drop h.length).take (s.length - e.length - h.length)) by rw [HE.out]; unfold lkB; rw [decide_eq_true hroom, hb1, hb2]; rfl)
            rw [hb2] at HB2
            clear hb1 hb2
            go_enter Tryd.func28, Tryd.ntmps28
            go_wp2_with (first
              | (go_at_call 43; refine HSP.out.mono ?_; rintro e' w2 ⟨rfl, hc2, g2⟩; have c0 := hc2 0 h rfl; have c1 := hc2 (ms.length + 1) e HLAST.out; have HG2 := hidden g2; have HC2 := hidden hc2; clear hc2 g2)
              | (go_at_call_of 44 (Value.string (strOf h)); refine (HB1.out _).mono ?_; rintro e' w3 ⟨rfl, d3⟩; have HD3 := hidden d3; clear d3)
              | (go_at_call_of 44 (Value.string (strOf e)); refine (HB2.out _).mono ?_; rintro e' w4 ⟨rfl, d4⟩; have HD4 := hidden (HD3.out.trans d4); clear d4))
            have q1 : (0 : Int) ≤ (s.length : Int) - (e.length : Int) := by omega
            have q2 : (s.length : Int) - (e.length : Int) ≤ (s.length : Int) := by omega
            have q3 : (h.length : Int) ≤ (s.length : Int) - (e.length : Int) := by omega
            have q4 : IntKind.i64.wrap ((s.length : Int) - (e.length : Int)) = (s.length : Int) - (e.length : Int) := by rw [IntKind.wrap_i64]; omega
            have q5 : (1 : Int) ≤ (ms.length : Int) + 2 - 1 := by omega
            have q6 : (ms.length : Int) + 2 - 1 ≤ (ms.length : Int) + 2 := by omega
            have HIN := hidden (fun n => linorder_any (.slice (some ⟨w.heap.size, 1, none⟩) ms.length (ms.length + 1)) ms ((s.drop h.length).take (s.length - e.length - h.length)) (w4.drewN n)
              (mid_reads (B := w.heap.size) (fun j p hj => HC2.out (j + 1) p (HMID.out j p hj)) (HD4.out.more n).grows) (by rw [List.length_take, List.length_drop]; omega) HML.out (by omega))
            rw [← strOf_extract] at HIN
            go_quiet ((go_at_call 45; exact Calls.quiet_of (HIN.out _)))
            go_wp2_with fail
            go_ret
            exact ⟨retB HE2.out.symm, HG2.out.of_below (HD4.out.more _).grows⟩
      · have HE2 := hidden (show likeM l s = false by rw [HE.out]; unfold lkB; rw [decide_eq_false hroom]; rfl)
        have hr1 : decide ((s.length : Int) < (h.length : Int) + (e.length : Int)) = true := by simp; omega
        go_enter Tryd.func28, Tryd.ntmps28
        go_wp2_with (first
          | (go_at_call 43; refine HSP.out.mono ?_; rintro e' w2 ⟨rfl, hc2, g2⟩; have c0 := hc2 0 h rfl; have c1 := hc2 (ms.length + 1) e HLAST.out; have HG2 := hidden g2; clear hc2 g2))
        go_ret
        exact ⟨retB HE2.out.symm, HG2.out⟩
end Go.Proofs.YtaiphocnfkkigaaDoor
