/-
  Shaken: what the claims of this seat need of this text. No condition.
-/
import Derived.Test.YtgegjoggiadgbaaM22
namespace Go.Proofs.Ytgegjoggiadgbaa
open Go.RowKit
set_option linter.unusedVariables false
set_option linter.unusedSimpArgs false
set_option maxRecDepth 20000 in
set_option maxHeartbeats 8000000 in
theorem law_union15 (A B : Option Addr) (c d : Nat) (ha na hb nb : Int) (wa wb : List UInt64) (w : World) (ra : Reads w (.slice A wa.length c) (ucells wa)) (rb : Reads w (.slice B wb.length d) (ucells wb)) (la : wa.length ≤ 9223372036854775807) (lb : wb.length ≤ 9223372036854775807)
    (ia : I64 ha) (ja : I64 na) (ib : I64 hb) (jb : I64 nb) :
    Calls Try.prog 4 #[.agg #[.int .i64 ha, .int .i64 na, .slice A wa.length c], .agg #[.int .i64 hb, .int .i64 nb, .slice B wb.length d]] w fun e w' => e = .returned (.bool true) ∧ Below w.heap.size w w' := by
  have HLV := hidden (fun W => lives15_any W)
  have lives_arm : ∀ (d1 : (decide ((2000 : Int) < (wa.length : Int)) = true) ∨ (decide ((2000 : Int) < (wa.length : Int)) = false ∧ decide ((2000 : Int) < (wb.length : Int)) = true)), Calls Try.prog 4 #[.agg #[.int .i64 ha, .int .i64 na, .slice A wa.length c], .agg #[.int .i64 hb, .int .i64 nb, .slice B wb.length d]] w fun e w' => e = .returned (.bool true) ∧ Below w.heap.size w w' := by
    intro d1
    obtain ⟨W0, hW0⟩ : ∃ W, W = ((w.alloc (.cells #[.int .i64 ha, .int .i64 na, .slice A wa.length c] 32)).alloc (.cells #[.int .i64 hb, .int .i64 nb, .slice B wb.length d] 32)) := ⟨_, rfl⟩
    have hg0 : Grows w W0 := by rw [hW0]; exact (growB _ _).of_below (growB _ _)
    have HG0 := hidden hg0
    have HA0 := hidden (show Row W0 w.heap.size 32 [.int .i64 ha, .int .i64 na, .slice A wa.length c] by rw [hW0]; exact (agg_new _ _ _ _).grow (growB _ _))
    have HB0 := hidden (show Row W0 (w.heap.size + 1) 32 [.int .i64 hb, .int .i64 nb, .slice B wb.length d] by
      rw [hW0]
      have h := agg_new (w.alloc (.cells #[.int .i64 ha, .int .i64 na, .slice A wa.length c] 32)) (.int .i64 hb) (.int .i64 nb) (.slice B wb.length d)
      have e : (w.alloc (.cells #[.int .i64 ha, .int .i64 na, .slice A wa.length c] 32)).heap.size = w.heap.size + 1 := by simp
      rwa [e] at h)
    have p2 : ((w.alloc (.cells #[.int .i64 ha, .int .i64 na, .slice A wa.length c] 32)).alloc (.cells #[.int .i64 hb, .int .i64 nb, .slice B wb.length d] 32)).cell? ⟨w.heap.size, 2, none⟩ = some (.slice A wa.length c) := by rw [← hW0]; exact HA0.out.cell 2
    have q2 : ((w.alloc (.cells #[.int .i64 ha, .int .i64 na, .slice A wa.length c] 32)).alloc (.cells #[.int .i64 hb, .int .i64 nb, .slice B wb.length d] 32)).cell? ⟨w.heap.size + 1, 2, none⟩ = some (.slice B wb.length d) := by rw [← hW0]; exact HB0.out.cell 2
    have HGX := hidden (show Grows w ((w.alloc (.cells #[.int .i64 ha, .int .i64 na, .slice A wa.length c] 32)).alloc (.cells #[.int .i64 hb, .int .i64 nb, .slice B wb.length d] 32)) by rw [← hW0]; exact hg0)
    clear ra rb la lb ia ja ib jb hg0 HA0 HB0 HG0 hW0
    rcases d1 with d1 | ⟨d1, d2⟩
    all_goals
      go_enter Try.func4, Try.ntmps4
      go_wp2_with (go_at_call 10; refine (HLV.out _).mono ?_; rintro e w2 ⟨rfl, g2⟩; have HG2 := hidden (HGX.out.of_below g2); clear g2)
      go_ret
      exact ⟨rfl, HG2.out⟩
  by_cases h1 : 2000 < wa.length
  · exact lives_arm (.inl (by simp; omega))
  by_cases h2 : 2000 < wb.length
  · exact lives_arm (.inr ⟨by simp; omega, by simp; omega⟩)
  have d1 : decide ((2000 : Int) < (wa.length : Int)) = false := by simp; omega
  have d2 : decide ((2000 : Int) < (wb.length : Int)) = false := by simp; omega
  clear h1 h2 lives_arm
  obtain ⟨va, hva⟩ : ∃ x, validFB ha na wa = x := ⟨_, rfl⟩
  obtain ⟨vb, hvb⟩ : ∃ x, validFB hb nb wb = x := ⟨_, rfl⟩
  cases va
  · cases vb
    · skip
      obtain ⟨W0, hW0⟩ : ∃ W, W = ((w.alloc (.cells #[.int .i64 ha, .int .i64 na, .slice A wa.length c] 32)).alloc (.cells #[.int .i64 hb, .int .i64 nb, .slice B wb.length d] 32)) := ⟨_, rfl⟩
      have hg0 : Grows w W0 := by rw [hW0]; exact (growB _ _).of_below (growB _ _)
      have HG0 := hidden hg0
      have HA0 := hidden (show Row W0 w.heap.size 32 [.int .i64 ha, .int .i64 na, .slice A wa.length c] by rw [hW0]; exact (agg_new _ _ _ _).grow (growB _ _))
      have HB0 := hidden (show Row W0 (w.heap.size + 1) 32 [.int .i64 hb, .int .i64 nb, .slice B wb.length d] by
        rw [hW0]
        have h := agg_new (w.alloc (.cells #[.int .i64 ha, .int .i64 na, .slice A wa.length c] 32)) (.int .i64 hb) (.int .i64 nb) (.slice B wb.length d)
        have e : (w.alloc (.cells #[.int .i64 ha, .int .i64 na, .slice A wa.length c] 32)).heap.size = w.heap.size + 1 := by simp
        rwa [e] at h)
      have HX : Hid (∀ X, Grows W0 X → X.cell? ⟨w.heap.size, 0, none⟩ = some (.int .i64 ha) ∧ X.cell? ⟨w.heap.size, 1, none⟩ = some (.int .i64 na) ∧ X.cell? ⟨w.heap.size, 2, none⟩ = some (.slice A wa.length c) ∧ X.cell? ⟨w.heap.size + 1, 0, none⟩ = some (.int .i64 hb) ∧ X.cell? ⟨w.heap.size + 1, 1, none⟩ = some (.int .i64 nb) ∧ X.cell? ⟨w.heap.size + 1, 2, none⟩ = some (.slice B wb.length d)) := hidden fun X h => ⟨(HA0.out.grow h).cell 0, (HA0.out.grow h).cell 1, (HA0.out.grow h).cell 2, (HB0.out.grow h).cell 0, (HB0.out.grow h).cell 1, (HB0.out.grow h).cell 2⟩
      have HBA := hidden (fun W (h : Grows W0 W) => bvalid_any (.agg #[.int .i64 ha, .int .i64 na, .slice A wa.length c]) ha na wa W ⟨_, rfl, (ra.grow hg0).grow h, la⟩ ia ja)
      rw [hva] at HBA
      have CHBA := hidden (fun W (h : Grows W0 W) => const_loose15 (HBA.out W h))
      have HRA := hidden (fun W (h : Grows W0 W) => rbvalid_any (.agg #[.int .i64 ha, .int .i64 na, .slice A wa.length c]) ha na wa W ⟨_, rfl, (ra.grow hg0).grow h, la⟩ ia ja)
      rw [hva] at HRA
      have CHRA := hidden (fun W (h : Grows W0 W) => const_loose15 (HRA.out W h))
      have HBB := hidden (fun W (h : Grows W0 W) => bvalid_any (.agg #[.int .i64 hb, .int .i64 nb, .slice B wb.length d]) hb nb wb W ⟨_, rfl, (rb.grow hg0).grow h, lb⟩ ib jb)
      rw [hvb] at HBB
      have CHBB := hidden (fun W (h : Grows W0 W) => const_loose15 (HBB.out W h))
      have HRB := hidden (fun W (h : Grows W0 W) => rbvalid_any (.agg #[.int .i64 hb, .int .i64 nb, .slice B wb.length d]) hb nb wb W ⟨_, rfl, (rb.grow hg0).grow h, lb⟩ ib jb)
      rw [hvb] at HRB
      have CHRB := hidden (fun W (h : Grows W0 W) => const_loose15 (HRB.out W h))
      have p2 : ((w.alloc (.cells #[.int .i64 ha, .int .i64 na, .slice A wa.length c] 32)).alloc (.cells #[.int .i64 hb, .int .i64 nb, .slice B wb.length d] 32)).cell? ⟨w.heap.size, 2, none⟩ = some (.slice A wa.length c) := by rw [← hW0]; exact HA0.out.cell 2
      have q2 : ((w.alloc (.cells #[.int .i64 ha, .int .i64 na, .slice A wa.length c] 32)).alloc (.cells #[.int .i64 hb, .int .i64 nb, .slice B wb.length d] 32)).cell? ⟨w.heap.size + 1, 2, none⟩ = some (.slice B wb.length d) := by rw [← hW0]; exact HB0.out.cell 2
      clear ra rb la lb ia ja ib jb hva hvb hg0
      go_enter Try.func4, Try.ntmps4
      go_wp2_with fail
      rw [← hW0]
      clear p2 q2 hW0 d1 d2
      refine wp_region_loose (tabRs [(1, ConstV (.bool false)), (3, ConstV (.bool false)), (7, ConstV (.bool false)), (9, ConstV (.bool false))]) (by kernel_rfl) (by kernel_rfl) (tabRs_cons ConstV.lasts (tabRs_cons ConstV.lasts (tabRs_cons ConstV.lasts (tabRs_cons ConstV.lasts tabRs_nil)))) ?_
      iterate 1 ((with_reducible refine loose_one (v := ?_) (a' := ?_) ?_ ?_ (fun w' hC' hG' => ?_) ?_ ?_); rotate_left 2; (focus rfl); (focus rfl); (focus (obtain ⟨x0a, x1a, x2a, x0b, x1b, x2b⟩ := HX.out w' hC'; clear hC' hG'; go_simp; rfl)); (focus (go_simp; rfl)))
      refine loose_call (R := ConstV (.bool false)) (f := 16) (args := #[.agg #[.int .i64 ha, .int .i64 na, .slice A wa.length c]]) (by rfl) (by rfl) (fun _ => by go_simp) (fun w' hC' hG' => CHBA.out w' hC') ?_
      rintro _ ⟨_, _, rfl⟩
      refine ⟨?_, ?_, ?_⟩
      rotate_left
      · go_simp
        rfl
      iterate 1 ((with_reducible refine loose_one (v := ?_) (a' := ?_) ?_ ?_ (fun w' hC' hG' => ?_) ?_ ?_); rotate_left 2; (focus rfl); (focus rfl); (focus (obtain ⟨x0a, x1a, x2a, x0b, x1b, x2b⟩ := HX.out w' hC'; clear hC' hG'; go_simp; rfl)); (focus (go_simp; rfl)))
      refine loose_call (R := ConstV (.bool false)) (f := 17) (args := #[.agg #[.int .i64 ha, .int .i64 na, .slice A wa.length c]]) (by rfl) (by rfl) (fun _ => by go_simp) (fun w' hC' hG' => CHRA.out w' hC') ?_
      rintro _ ⟨_, _, rfl⟩
      refine ⟨?_, ?_, ?_⟩
      rotate_left
      · go_simp
        rfl
      iterate 3 ((with_reducible refine loose_one (v := ?_) (a' := ?_) ?_ ?_ (fun w' hC' hG' => ?_) ?_ ?_); rotate_left 2; (focus rfl); (focus rfl); (focus (obtain ⟨x0a, x1a, x2a, x0b, x1b, x2b⟩ := HX.out w' hC'; clear hC' hG'; go_simp; rfl)); (focus (go_simp; rfl)))
      refine loose_call (R := ConstV (.bool false)) (f := 16) (args := #[.agg #[.int .i64 hb, .int .i64 nb, .slice B wb.length d]]) (by rfl) (by rfl) (fun _ => by go_simp) (fun w' hC' hG' => CHBB.out w' hC') ?_
      rintro _ ⟨_, _, rfl⟩
      refine ⟨?_, ?_, ?_⟩
      rotate_left
      · go_simp
        rfl
      iterate 1 ((with_reducible refine loose_one (v := ?_) (a' := ?_) ?_ ?_ (fun w' hC' hG' => ?_) ?_ ?_); rotate_left 2; (focus rfl); (focus rfl); (focus (obtain ⟨x0a, x1a, x2a, x0b, x1b, x2b⟩ := HX.out w' hC'; clear hC' hG'; go_simp; rfl)); (focus (go_simp; rfl)))
      refine loose_call (R := ConstV (.bool false)) (f := 17) (args := #[.agg #[.int .i64 hb, .int .i64 nb, .slice B wb.length d]]) (by rfl) (by rfl) (fun _ => by go_simp) (fun w' hC' hG' => CHRB.out w' hC') ?_
      rintro _ ⟨_, _, rfl⟩
      refine ⟨?_, ?_, ?_⟩
      rotate_left
      · go_simp
        rfl
      iterate 2 ((with_reducible refine loose_one (v := ?_) (a' := ?_) ?_ ?_ (fun w' hC' hG' => ?_) ?_ ?_); rotate_left 2; (focus rfl); (focus rfl); (focus (obtain ⟨x0a, x1a, x2a, x0b, x1b, x2b⟩ := HX.out w' hC'; clear hC' hG'; go_simp; rfl)); (focus (go_simp; rfl)))
      refine loose_done (fun w5 hC5 hG5 => ?_)
      obtain ⟨x0a, x1a, x2a, x0b, x1b, x2b⟩ := HX.out w5 hC5
      have HC5 := hidden hC5
      have HG5 := hidden (HG0.out.of_below hC5)
      clear hC5 hG5 CHBA CHRA CHBB CHRB HBA HBB
      go_wp2_with (first | (go_at_call 17; refine (HRA.out _ HC5.out).mono ?_; rintro e w6 ⟨rfl, g6⟩; have HC6 := hidden (HC5.out.of_below g6); have HG6 := hidden (HG5.out.of_below g6); clear x0a x1a x2a x0b x1b x2b g6; obtain ⟨x0a, x1a, x2a, x0b, x1b, x2b⟩ := HX.out w6 HC6.out) | (go_at_call 10; refine (HLV.out _).mono ?_; rintro e w8 ⟨rfl, g8⟩; have HG8 := hidden (HG6.out.of_below g8); clear g8))
      go_ret
      exact ⟨rfl, HG8.out⟩
    · skip
      obtain ⟨W0, hW0⟩ : ∃ W, W = ((w.alloc (.cells #[.int .i64 ha, .int .i64 na, .slice A wa.length c] 32)).alloc (.cells #[.int .i64 hb, .int .i64 nb, .slice B wb.length d] 32)) := ⟨_, rfl⟩
      have hg0 : Grows w W0 := by rw [hW0]; exact (growB _ _).of_below (growB _ _)
      have HG0 := hidden hg0
      have HA0 := hidden (show Row W0 w.heap.size 32 [.int .i64 ha, .int .i64 na, .slice A wa.length c] by rw [hW0]; exact (agg_new _ _ _ _).grow (growB _ _))
      have HB0 := hidden (show Row W0 (w.heap.size + 1) 32 [.int .i64 hb, .int .i64 nb, .slice B wb.length d] by
        rw [hW0]
        have h := agg_new (w.alloc (.cells #[.int .i64 ha, .int .i64 na, .slice A wa.length c] 32)) (.int .i64 hb) (.int .i64 nb) (.slice B wb.length d)
        have e : (w.alloc (.cells #[.int .i64 ha, .int .i64 na, .slice A wa.length c] 32)).heap.size = w.heap.size + 1 := by simp
        rwa [e] at h)
      have HX : Hid (∀ X, Grows W0 X → X.cell? ⟨w.heap.size, 0, none⟩ = some (.int .i64 ha) ∧ X.cell? ⟨w.heap.size, 1, none⟩ = some (.int .i64 na) ∧ X.cell? ⟨w.heap.size, 2, none⟩ = some (.slice A wa.length c) ∧ X.cell? ⟨w.heap.size + 1, 0, none⟩ = some (.int .i64 hb) ∧ X.cell? ⟨w.heap.size + 1, 1, none⟩ = some (.int .i64 nb) ∧ X.cell? ⟨w.heap.size + 1, 2, none⟩ = some (.slice B wb.length d)) := hidden fun X h => ⟨(HA0.out.grow h).cell 0, (HA0.out.grow h).cell 1, (HA0.out.grow h).cell 2, (HB0.out.grow h).cell 0, (HB0.out.grow h).cell 1, (HB0.out.grow h).cell 2⟩
      have HBA := hidden (fun W (h : Grows W0 W) => bvalid_any (.agg #[.int .i64 ha, .int .i64 na, .slice A wa.length c]) ha na wa W ⟨_, rfl, (ra.grow hg0).grow h, la⟩ ia ja)
      rw [hva] at HBA
      have CHBA := hidden (fun W (h : Grows W0 W) => const_loose15 (HBA.out W h))
      have HRA := hidden (fun W (h : Grows W0 W) => rbvalid_any (.agg #[.int .i64 ha, .int .i64 na, .slice A wa.length c]) ha na wa W ⟨_, rfl, (ra.grow hg0).grow h, la⟩ ia ja)
      rw [hva] at HRA
      have CHRA := hidden (fun W (h : Grows W0 W) => const_loose15 (HRA.out W h))
      have HBB := hidden (fun W (h : Grows W0 W) => bvalid_any (.agg #[.int .i64 hb, .int .i64 nb, .slice B wb.length d]) hb nb wb W ⟨_, rfl, (rb.grow hg0).grow h, lb⟩ ib jb)
      rw [hvb] at HBB
      have CHBB := hidden (fun W (h : Grows W0 W) => const_loose15 (HBB.out W h))
      have HRB := hidden (fun W (h : Grows W0 W) => rbvalid_any (.agg #[.int .i64 hb, .int .i64 nb, .slice B wb.length d]) hb nb wb W ⟨_, rfl, (rb.grow hg0).grow h, lb⟩ ib jb)
      rw [hvb] at HRB
      have CHRB := hidden (fun W (h : Grows W0 W) => const_loose15 (HRB.out W h))
      have p2 : ((w.alloc (.cells #[.int .i64 ha, .int .i64 na, .slice A wa.length c] 32)).alloc (.cells #[.int .i64 hb, .int .i64 nb, .slice B wb.length d] 32)).cell? ⟨w.heap.size, 2, none⟩ = some (.slice A wa.length c) := by rw [← hW0]; exact HA0.out.cell 2
      have q2 : ((w.alloc (.cells #[.int .i64 ha, .int .i64 na, .slice A wa.length c] 32)).alloc (.cells #[.int .i64 hb, .int .i64 nb, .slice B wb.length d] 32)).cell? ⟨w.heap.size + 1, 2, none⟩ = some (.slice B wb.length d) := by rw [← hW0]; exact HB0.out.cell 2
      clear ra rb la lb ia ja ib jb hva hvb hg0
      go_enter Try.func4, Try.ntmps4
      go_wp2_with fail
      rw [← hW0]
      clear p2 q2 hW0 d1 d2
      refine wp_region_loose (tabRs [(1, ConstV (.bool false)), (3, ConstV (.bool false)), (7, ConstV (.bool true)), (9, ConstV (.bool true))]) (by kernel_rfl) (by kernel_rfl) (tabRs_cons ConstV.lasts (tabRs_cons ConstV.lasts (tabRs_cons ConstV.lasts (tabRs_cons ConstV.lasts tabRs_nil)))) ?_
      iterate 1 ((with_reducible refine loose_one (v := ?_) (a' := ?_) ?_ ?_ (fun w' hC' hG' => ?_) ?_ ?_); rotate_left 2; (focus rfl); (focus rfl); (focus (obtain ⟨x0a, x1a, x2a, x0b, x1b, x2b⟩ := HX.out w' hC'; clear hC' hG'; go_simp; rfl)); (focus (go_simp; rfl)))
      refine loose_call (R := ConstV (.bool false)) (f := 16) (args := #[.agg #[.int .i64 ha, .int .i64 na, .slice A wa.length c]]) (by rfl) (by rfl) (fun _ => by go_simp) (fun w' hC' hG' => CHBA.out w' hC') ?_
      rintro _ ⟨_, _, rfl⟩
      refine ⟨?_, ?_, ?_⟩
      rotate_left
      · go_simp
        rfl
      iterate 1 ((with_reducible refine loose_one (v := ?_) (a' := ?_) ?_ ?_ (fun w' hC' hG' => ?_) ?_ ?_); rotate_left 2; (focus rfl); (focus rfl); (focus (obtain ⟨x0a, x1a, x2a, x0b, x1b, x2b⟩ := HX.out w' hC'; clear hC' hG'; go_simp; rfl)); (focus (go_simp; rfl)))
      refine loose_call (R := ConstV (.bool false)) (f := 17) (args := #[.agg #[.int .i64 ha, .int .i64 na, .slice A wa.length c]]) (by rfl) (by rfl) (fun _ => by go_simp) (fun w' hC' hG' => CHRA.out w' hC') ?_
      rintro _ ⟨_, _, rfl⟩
      refine ⟨?_, ?_, ?_⟩
      rotate_left
      · go_simp
        rfl
      iterate 3 ((with_reducible refine loose_one (v := ?_) (a' := ?_) ?_ ?_ (fun w' hC' hG' => ?_) ?_ ?_); rotate_left 2; (focus rfl); (focus rfl); (focus (obtain ⟨x0a, x1a, x2a, x0b, x1b, x2b⟩ := HX.out w' hC'; clear hC' hG'; go_simp; rfl)); (focus (go_simp; rfl)))
      refine loose_call (R := ConstV (.bool true)) (f := 16) (args := #[.agg #[.int .i64 hb, .int .i64 nb, .slice B wb.length d]]) (by rfl) (by rfl) (fun _ => by go_simp) (fun w' hC' hG' => CHBB.out w' hC') ?_
      rintro _ ⟨_, _, rfl⟩
      refine ⟨?_, ?_, ?_⟩
      rotate_left
      · go_simp
        rfl
      iterate 1 ((with_reducible refine loose_one (v := ?_) (a' := ?_) ?_ ?_ (fun w' hC' hG' => ?_) ?_ ?_); rotate_left 2; (focus rfl); (focus rfl); (focus (obtain ⟨x0a, x1a, x2a, x0b, x1b, x2b⟩ := HX.out w' hC'; clear hC' hG'; go_simp; rfl)); (focus (go_simp; rfl)))
      refine loose_call (R := ConstV (.bool true)) (f := 17) (args := #[.agg #[.int .i64 hb, .int .i64 nb, .slice B wb.length d]]) (by rfl) (by rfl) (fun _ => by go_simp) (fun w' hC' hG' => CHRB.out w' hC') ?_
      rintro _ ⟨_, _, rfl⟩
      refine ⟨?_, ?_, ?_⟩
      rotate_left
      · go_simp
        rfl
      iterate 2 ((with_reducible refine loose_one (v := ?_) (a' := ?_) ?_ ?_ (fun w' hC' hG' => ?_) ?_ ?_); rotate_left 2; (focus rfl); (focus rfl); (focus (obtain ⟨x0a, x1a, x2a, x0b, x1b, x2b⟩ := HX.out w' hC'; clear hC' hG'; go_simp; rfl)); (focus (go_simp; rfl)))
      refine loose_done (fun w5 hC5 hG5 => ?_)
      obtain ⟨x0a, x1a, x2a, x0b, x1b, x2b⟩ := HX.out w5 hC5
      have HC5 := hidden hC5
      have HG5 := hidden (HG0.out.of_below hC5)
      clear hC5 hG5 CHBA CHRA CHBB CHRB HBA HBB
      go_wp2_with (first | (go_at_call 17; refine (HRA.out _ HC5.out).mono ?_; rintro e w6 ⟨rfl, g6⟩; have HC6 := hidden (HC5.out.of_below g6); have HG6 := hidden (HG5.out.of_below g6); clear x0a x1a x2a x0b x1b x2b g6; obtain ⟨x0a, x1a, x2a, x0b, x1b, x2b⟩ := HX.out w6 HC6.out) | (go_at_call 10; refine (HLV.out _).mono ?_; rintro e w8 ⟨rfl, g8⟩; have HG8 := hidden (HG6.out.of_below g8); clear g8))
      go_ret
      exact ⟨rfl, HG8.out⟩
  · cases vb
    · skip
      obtain ⟨W0, hW0⟩ : ∃ W, W = ((w.alloc (.cells #[.int .i64 ha, .int .i64 na, .slice A wa.length c] 32)).alloc (.cells #[.int .i64 hb, .int .i64 nb, .slice B wb.length d] 32)) := ⟨_, rfl⟩
      have hg0 : Grows w W0 := by rw [hW0]; exact (growB _ _).of_below (growB _ _)
      have HG0 := hidden hg0
      have HA0 := hidden (show Row W0 w.heap.size 32 [.int .i64 ha, .int .i64 na, .slice A wa.length c] by rw [hW0]; exact (agg_new _ _ _ _).grow (growB _ _))
      have HB0 := hidden (show Row W0 (w.heap.size + 1) 32 [.int .i64 hb, .int .i64 nb, .slice B wb.length d] by
        rw [hW0]
        have h := agg_new (w.alloc (.cells #[.int .i64 ha, .int .i64 na, .slice A wa.length c] 32)) (.int .i64 hb) (.int .i64 nb) (.slice B wb.length d)
        have e : (w.alloc (.cells #[.int .i64 ha, .int .i64 na, .slice A wa.length c] 32)).heap.size = w.heap.size + 1 := by simp
        rwa [e] at h)
      have HX : Hid (∀ X, Grows W0 X → X.cell? ⟨w.heap.size, 0, none⟩ = some (.int .i64 ha) ∧ X.cell? ⟨w.heap.size, 1, none⟩ = some (.int .i64 na) ∧ X.cell? ⟨w.heap.size, 2, none⟩ = some (.slice A wa.length c) ∧ X.cell? ⟨w.heap.size + 1, 0, none⟩ = some (.int .i64 hb) ∧ X.cell? ⟨w.heap.size + 1, 1, none⟩ = some (.int .i64 nb) ∧ X.cell? ⟨w.heap.size + 1, 2, none⟩ = some (.slice B wb.length d)) := hidden fun X h => ⟨(HA0.out.grow h).cell 0, (HA0.out.grow h).cell 1, (HA0.out.grow h).cell 2, (HB0.out.grow h).cell 0, (HB0.out.grow h).cell 1, (HB0.out.grow h).cell 2⟩
      have HBA := hidden (fun W (h : Grows W0 W) => bvalid_any (.agg #[.int .i64 ha, .int .i64 na, .slice A wa.length c]) ha na wa W ⟨_, rfl, (ra.grow hg0).grow h, la⟩ ia ja)
      rw [hva] at HBA
      have CHBA := hidden (fun W (h : Grows W0 W) => const_loose15 (HBA.out W h))
      have HRA := hidden (fun W (h : Grows W0 W) => rbvalid_any (.agg #[.int .i64 ha, .int .i64 na, .slice A wa.length c]) ha na wa W ⟨_, rfl, (ra.grow hg0).grow h, la⟩ ia ja)
      rw [hva] at HRA
      have CHRA := hidden (fun W (h : Grows W0 W) => const_loose15 (HRA.out W h))
      have HBB := hidden (fun W (h : Grows W0 W) => bvalid_any (.agg #[.int .i64 hb, .int .i64 nb, .slice B wb.length d]) hb nb wb W ⟨_, rfl, (rb.grow hg0).grow h, lb⟩ ib jb)
      rw [hvb] at HBB
      have CHBB := hidden (fun W (h : Grows W0 W) => const_loose15 (HBB.out W h))
      have HRB := hidden (fun W (h : Grows W0 W) => rbvalid_any (.agg #[.int .i64 hb, .int .i64 nb, .slice B wb.length d]) hb nb wb W ⟨_, rfl, (rb.grow hg0).grow h, lb⟩ ib jb)
      rw [hvb] at HRB
      have CHRB := hidden (fun W (h : Grows W0 W) => const_loose15 (HRB.out W h))
      have p2 : ((w.alloc (.cells #[.int .i64 ha, .int .i64 na, .slice A wa.length c] 32)).alloc (.cells #[.int .i64 hb, .int .i64 nb, .slice B wb.length d] 32)).cell? ⟨w.heap.size, 2, none⟩ = some (.slice A wa.length c) := by rw [← hW0]; exact HA0.out.cell 2
      have q2 : ((w.alloc (.cells #[.int .i64 ha, .int .i64 na, .slice A wa.length c] 32)).alloc (.cells #[.int .i64 hb, .int .i64 nb, .slice B wb.length d] 32)).cell? ⟨w.heap.size + 1, 2, none⟩ = some (.slice B wb.length d) := by rw [← hW0]; exact HB0.out.cell 2
      clear ra rb la lb ia ja ib jb hva hvb hg0
      go_enter Try.func4, Try.ntmps4
      go_wp2_with fail
      rw [← hW0]
      clear p2 q2 hW0 d1 d2
      refine wp_region_loose (tabRs [(1, ConstV (.bool true)), (3, ConstV (.bool true)), (7, ConstV (.bool false)), (9, ConstV (.bool false))]) (by kernel_rfl) (by kernel_rfl) (tabRs_cons ConstV.lasts (tabRs_cons ConstV.lasts (tabRs_cons ConstV.lasts (tabRs_cons ConstV.lasts tabRs_nil)))) ?_
      iterate 1 ((with_reducible refine loose_one (v := ?_) (a' := ?_) ?_ ?_ (fun w' hC' hG' => ?_) ?_ ?_); rotate_left 2; (focus rfl); (focus rfl); (focus (obtain ⟨x0a, x1a, x2a, x0b, x1b, x2b⟩ := HX.out w' hC'; clear hC' hG'; go_simp; rfl)); (focus (go_simp; rfl)))
      refine loose_call (R := ConstV (.bool true)) (f := 16) (args := #[.agg #[.int .i64 ha, .int .i64 na, .slice A wa.length c]]) (by rfl) (by rfl) (fun _ => by go_simp) (fun w' hC' hG' => CHBA.out w' hC') ?_
      rintro _ ⟨_, _, rfl⟩
      refine ⟨?_, ?_, ?_⟩
      rotate_left
      · go_simp
        rfl
      iterate 1 ((with_reducible refine loose_one (v := ?_) (a' := ?_) ?_ ?_ (fun w' hC' hG' => ?_) ?_ ?_); rotate_left 2; (focus rfl); (focus rfl); (focus (obtain ⟨x0a, x1a, x2a, x0b, x1b, x2b⟩ := HX.out w' hC'; clear hC' hG'; go_simp; rfl)); (focus (go_simp; rfl)))
      refine loose_call (R := ConstV (.bool true)) (f := 17) (args := #[.agg #[.int .i64 ha, .int .i64 na, .slice A wa.length c]]) (by rfl) (by rfl) (fun _ => by go_simp) (fun w' hC' hG' => CHRA.out w' hC') ?_
      rintro _ ⟨_, _, rfl⟩
      refine ⟨?_, ?_, ?_⟩
      rotate_left
      · go_simp
        rfl
      iterate 3 ((with_reducible refine loose_one (v := ?_) (a' := ?_) ?_ ?_ (fun w' hC' hG' => ?_) ?_ ?_); rotate_left 2; (focus rfl); (focus rfl); (focus (obtain ⟨x0a, x1a, x2a, x0b, x1b, x2b⟩ := HX.out w' hC'; clear hC' hG'; go_simp; rfl)); (focus (go_simp; rfl)))
      refine loose_call (R := ConstV (.bool false)) (f := 16) (args := #[.agg #[.int .i64 hb, .int .i64 nb, .slice B wb.length d]]) (by rfl) (by rfl) (fun _ => by go_simp) (fun w' hC' hG' => CHBB.out w' hC') ?_
      rintro _ ⟨_, _, rfl⟩
      refine ⟨?_, ?_, ?_⟩
      rotate_left
      · go_simp
        rfl
      iterate 1 ((with_reducible refine loose_one (v := ?_) (a' := ?_) ?_ ?_ (fun w' hC' hG' => ?_) ?_ ?_); rotate_left 2; (focus rfl); (focus rfl); (focus (obtain ⟨x0a, x1a, x2a, x0b, x1b, x2b⟩ := HX.out w' hC'; clear hC' hG'; go_simp; rfl)); (focus (go_simp; rfl)))
      refine loose_call (R := ConstV (.bool false)) (f := 17) (args := #[.agg #[.int .i64 hb, .int .i64 nb, .slice B wb.length d]]) (by rfl) (by rfl) (fun _ => by go_simp) (fun w' hC' hG' => CHRB.out w' hC') ?_
      rintro _ ⟨_, _, rfl⟩
      refine ⟨?_, ?_, ?_⟩
      rotate_left
      · go_simp
        rfl
      iterate 2 ((with_reducible refine loose_one (v := ?_) (a' := ?_) ?_ ?_ (fun w' hC' hG' => ?_) ?_ ?_); rotate_left 2; (focus rfl); (focus rfl); (focus (obtain ⟨x0a, x1a, x2a, x0b, x1b, x2b⟩ := HX.out w' hC'; clear hC' hG'; go_simp; rfl)); (focus (go_simp; rfl)))
      refine loose_done (fun w5 hC5 hG5 => ?_)
      obtain ⟨x0a, x1a, x2a, x0b, x1b, x2b⟩ := HX.out w5 hC5
      have HC5 := hidden hC5
      have HG5 := hidden (HG0.out.of_below hC5)
      clear hC5 hG5 CHBA CHRA CHBB CHRB HBA HBB
      go_wp2_with (first | (go_at_call 17; refine (HRB.out _ HC6.out).mono ?_; rintro e w7 ⟨rfl, g7⟩; have HC7 := hidden (HC6.out.of_below g7); have HG7 := hidden (HG6.out.of_below g7); clear x0a x1a x2a x0b x1b x2b g7; obtain ⟨x0a, x1a, x2a, x0b, x1b, x2b⟩ := HX.out w7 HC7.out) | (go_at_call 17; refine (HRA.out _ HC5.out).mono ?_; rintro e w6 ⟨rfl, g6⟩; have HC6 := hidden (HC5.out.of_below g6); have HG6 := hidden (HG5.out.of_below g6); clear x0a x1a x2a x0b x1b x2b g6; obtain ⟨x0a, x1a, x2a, x0b, x1b, x2b⟩ := HX.out w6 HC6.out) | (go_at_call 10; refine (HLV.out _).mono ?_; rintro e w8 ⟨rfl, g8⟩; have HG8 := hidden (HG7.out.of_below g8); clear g8))
      go_ret
      exact ⟨rfl, HG8.out⟩
    · skip
      obtain ⟨Ha, Na, rfl, rfl, ha1, na1, hna0, oka, -, -, -⟩ := valid_parts hva
      obtain ⟨Hb, Nb, rfl, rfl, hb1, nb1, hnb0, okb, -, -, -⟩ := valid_parts hvb
      obtain ⟨W0, hW0⟩ : ∃ W, W = ((w.alloc (.cells #[.int .i64 (Ha : Int), .int .i64 (Na : Int), .slice A wa.length c] 32)).alloc (.cells #[.int .i64 (Hb : Int), .int .i64 (Nb : Int), .slice B wb.length d] 32)) := ⟨_, rfl⟩
      have hg0 : Grows w W0 := by rw [hW0]; exact (growB _ _).of_below (growB _ _)
      have HG0 := hidden hg0
      have HA0 := hidden (show Row W0 w.heap.size 32 [.int .i64 (Ha : Int), .int .i64 (Na : Int), .slice A wa.length c] by rw [hW0]; exact (agg_new _ _ _ _).grow (growB _ _))
      have HB0 := hidden (show Row W0 (w.heap.size + 1) 32 [.int .i64 (Hb : Int), .int .i64 (Nb : Int), .slice B wb.length d] by
        rw [hW0]
        have h := agg_new (w.alloc (.cells #[.int .i64 (Ha : Int), .int .i64 (Na : Int), .slice A wa.length c] 32)) (.int .i64 (Hb : Int)) (.int .i64 (Nb : Int)) (.slice B wb.length d)
        have e : (w.alloc (.cells #[.int .i64 (Ha : Int), .int .i64 (Na : Int), .slice A wa.length c] 32)).heap.size = w.heap.size + 1 := by simp
        rwa [e] at h)
      have HX : Hid (∀ X, Grows W0 X → X.cell? ⟨w.heap.size, 0, none⟩ = some (.int .i64 (Ha : Int)) ∧ X.cell? ⟨w.heap.size, 1, none⟩ = some (.int .i64 (Na : Int)) ∧ X.cell? ⟨w.heap.size, 2, none⟩ = some (.slice A wa.length c) ∧ X.cell? ⟨w.heap.size + 1, 0, none⟩ = some (.int .i64 (Hb : Int)) ∧ X.cell? ⟨w.heap.size + 1, 1, none⟩ = some (.int .i64 (Nb : Int)) ∧ X.cell? ⟨w.heap.size + 1, 2, none⟩ = some (.slice B wb.length d)) := hidden fun X h => ⟨(HA0.out.grow h).cell 0, (HA0.out.grow h).cell 1, (HA0.out.grow h).cell 2, (HB0.out.grow h).cell 0, (HB0.out.grow h).cell 1, (HB0.out.grow h).cell 2⟩
      have HBA := hidden (fun W (h : Grows W0 W) => bvalid_any (.agg #[.int .i64 (Ha : Int), .int .i64 (Na : Int), .slice A wa.length c]) (Ha : Int) (Na : Int) wa W ⟨_, rfl, (ra.grow hg0).grow h, la⟩ ia ja)
      rw [hva] at HBA
      have CHBA := hidden (fun W (h : Grows W0 W) => const_loose15 (HBA.out W h))
      have HRA := hidden (fun W (h : Grows W0 W) => rbvalid_any (.agg #[.int .i64 (Ha : Int), .int .i64 (Na : Int), .slice A wa.length c]) (Ha : Int) (Na : Int) wa W ⟨_, rfl, (ra.grow hg0).grow h, la⟩ ia ja)
      rw [hva] at HRA
      have CHRA := hidden (fun W (h : Grows W0 W) => const_loose15 (HRA.out W h))
      have HBB := hidden (fun W (h : Grows W0 W) => bvalid_any (.agg #[.int .i64 (Hb : Int), .int .i64 (Nb : Int), .slice B wb.length d]) (Hb : Int) (Nb : Int) wb W ⟨_, rfl, (rb.grow hg0).grow h, lb⟩ ib jb)
      rw [hvb] at HBB
      have CHBB := hidden (fun W (h : Grows W0 W) => const_loose15 (HBB.out W h))
      have HRB := hidden (fun W (h : Grows W0 W) => rbvalid_any (.agg #[.int .i64 (Hb : Int), .int .i64 (Nb : Int), .slice B wb.length d]) (Hb : Int) (Nb : Int) wb W ⟨_, rfl, (rb.grow hg0).grow h, lb⟩ ib jb)
      rw [hvb] at HRB
      have CHRB := hidden (fun W (h : Grows W0 W) => const_loose15 (HRB.out W h))
      have HU : Hid (∀ W, Grows W0 W → IsF W (.agg #[.int .i64 (Ha : Int), .int .i64 (Na : Int), .slice A wa.length c]) Ha Na wa ∧ IsF W (.agg #[.int .i64 (Hb : Int), .int .i64 (Nb : Int), .slice B wb.length d]) Hb Nb wb) := hidden fun W h => ⟨⟨_, rfl, (ra.grow hg0).grow h, la⟩, ⟨_, rfl, (rb.grow hg0).grow h, lb⟩⟩
      obtain ⟨h3, n3, w3, e3, hu1, hu2⟩ : ∃ (h3 : Int) (n3 : Nat) (w3 : List UInt64) (e3 : Int), (∀ W, Grows W0 W → Calls Try.prog 18 #[.agg #[.int .i64 (Ha : Int), .int .i64 (Na : Int), .slice A wa.length c], .agg #[.int .i64 (Hb : Int), .int .i64 (Nb : Int), .slice B wb.length d]] W (FilR h3 n3 w3 e3 W)) ∧ (∀ W, Grows W0 W → Calls Try.prog 19 #[.agg #[.int .i64 (Ha : Int), .int .i64 (Na : Int), .slice A wa.length c], .agg #[.int .i64 (Hb : Int), .int .i64 (Nb : Int), .slice B wb.length d]] W (FilR h3 n3 w3 e3 W)) := by
        by_cases he : (Ha : Int) = Hb ∧ Na = Nb
        · exact ⟨_, _, _, _, fun W h => (bunion_any _ _ _ _ _ _ _ _ W (HU.out W h).1 (HU.out W h).2 oka okb na1 nb1).mono fun _ _ h => h.1 he, fun W h => (runion15_any _ _ _ _ _ _ _ _ W (HU.out W h).1 (HU.out W h).2 oka okb na1 nb1).mono fun _ _ h => h.1 he⟩
        · exact ⟨_, _, _, _, fun W h => (bunion_any _ _ _ _ _ _ _ _ W (HU.out W h).1 (HU.out W h).2 oka okb na1 nb1).mono fun _ _ h => h.2 he, fun W h => (runion15_any _ _ _ _ _ _ _ _ W (HU.out W h).1 (HU.out W h).2 oka okb na1 nb1).mono fun _ _ h => h.2 he⟩
      have HU1 := hidden hu1
      have HU2 := hidden hu2
      clear hu1 hu2 HU oka okb ha1 na1 hna0 hb1 nb1 hnb0
      have p2 : ((w.alloc (.cells #[.int .i64 (Ha : Int), .int .i64 (Na : Int), .slice A wa.length c] 32)).alloc (.cells #[.int .i64 (Hb : Int), .int .i64 (Nb : Int), .slice B wb.length d] 32)).cell? ⟨w.heap.size, 2, none⟩ = some (.slice A wa.length c) := by rw [← hW0]; exact HA0.out.cell 2
      have q2 : ((w.alloc (.cells #[.int .i64 (Ha : Int), .int .i64 (Na : Int), .slice A wa.length c] 32)).alloc (.cells #[.int .i64 (Hb : Int), .int .i64 (Nb : Int), .slice B wb.length d] 32)).cell? ⟨w.heap.size + 1, 2, none⟩ = some (.slice B wb.length d) := by rw [← hW0]; exact HB0.out.cell 2
      clear ra rb la lb ia ja ib jb hva hvb hg0
      go_enter Try.func4, Try.ntmps4
      go_wp2_with fail
      rw [← hW0]
      clear p2 q2 hW0 d1 d2
      refine wp_region_loose (tabRs [(1, ConstV (.bool true)), (3, ConstV (.bool true)), (7, ConstV (.bool true)), (9, ConstV (.bool true))]) (by kernel_rfl) (by kernel_rfl) (tabRs_cons ConstV.lasts (tabRs_cons ConstV.lasts (tabRs_cons ConstV.lasts (tabRs_cons ConstV.lasts tabRs_nil)))) ?_
      iterate 1 ((with_reducible refine loose_one (v := ?_) (a' := ?_) ?_ ?_ (fun w' hC' hG' => ?_) ?_ ?_); rotate_left 2; (focus rfl); (focus rfl); (focus (obtain ⟨x0a, x1a, x2a, x0b, x1b, x2b⟩ := HX.out w' hC'; clear hC' hG'; go_simp; rfl)); (focus (go_simp; rfl)))
      refine loose_call (R := ConstV (.bool true)) (f := 16) (args := #[.agg #[.int .i64 (Ha : Int), .int .i64 (Na : Int), .slice A wa.length c]]) (by rfl) (by rfl) (fun _ => by go_simp) (fun w' hC' hG' => CHBA.out w' hC') ?_
      rintro _ ⟨_, _, rfl⟩
      refine ⟨?_, ?_, ?_⟩
      rotate_left
      · go_simp
        rfl
      iterate 1 ((with_reducible refine loose_one (v := ?_) (a' := ?_) ?_ ?_ (fun w' hC' hG' => ?_) ?_ ?_); rotate_left 2; (focus rfl); (focus rfl); (focus (obtain ⟨x0a, x1a, x2a, x0b, x1b, x2b⟩ := HX.out w' hC'; clear hC' hG'; go_simp; rfl)); (focus (go_simp; rfl)))
      refine loose_call (R := ConstV (.bool true)) (f := 17) (args := #[.agg #[.int .i64 (Ha : Int), .int .i64 (Na : Int), .slice A wa.length c]]) (by rfl) (by rfl) (fun _ => by go_simp) (fun w' hC' hG' => CHRA.out w' hC') ?_
      rintro _ ⟨_, _, rfl⟩
      refine ⟨?_, ?_, ?_⟩
      rotate_left
      · go_simp
        rfl
      iterate 3 ((with_reducible refine loose_one (v := ?_) (a' := ?_) ?_ ?_ (fun w' hC' hG' => ?_) ?_ ?_); rotate_left 2; (focus rfl); (focus rfl); (focus (obtain ⟨x0a, x1a, x2a, x0b, x1b, x2b⟩ := HX.out w' hC'; clear hC' hG'; go_simp; rfl)); (focus (go_simp; rfl)))
      refine loose_call (R := ConstV (.bool true)) (f := 16) (args := #[.agg #[.int .i64 (Hb : Int), .int .i64 (Nb : Int), .slice B wb.length d]]) (by rfl) (by rfl) (fun _ => by go_simp) (fun w' hC' hG' => CHBB.out w' hC') ?_
      rintro _ ⟨_, _, rfl⟩
      refine ⟨?_, ?_, ?_⟩
      rotate_left
      · go_simp
        rfl
      iterate 1 ((with_reducible refine loose_one (v := ?_) (a' := ?_) ?_ ?_ (fun w' hC' hG' => ?_) ?_ ?_); rotate_left 2; (focus rfl); (focus rfl); (focus (obtain ⟨x0a, x1a, x2a, x0b, x1b, x2b⟩ := HX.out w' hC'; clear hC' hG'; go_simp; rfl)); (focus (go_simp; rfl)))
      refine loose_call (R := ConstV (.bool true)) (f := 17) (args := #[.agg #[.int .i64 (Hb : Int), .int .i64 (Nb : Int), .slice B wb.length d]]) (by rfl) (by rfl) (fun _ => by go_simp) (fun w' hC' hG' => CHRB.out w' hC') ?_
      rintro _ ⟨_, _, rfl⟩
      refine ⟨?_, ?_, ?_⟩
      rotate_left
      · go_simp
        rfl
      iterate 2 ((with_reducible refine loose_one (v := ?_) (a' := ?_) ?_ ?_ (fun w' hC' hG' => ?_) ?_ ?_); rotate_left 2; (focus rfl); (focus rfl); (focus (obtain ⟨x0a, x1a, x2a, x0b, x1b, x2b⟩ := HX.out w' hC'; clear hC' hG'; go_simp; rfl)); (focus (go_simp; rfl)))
      refine loose_done (fun w5 hC5 hG5 => ?_)
      obtain ⟨x0a, x1a, x2a, x0b, x1b, x2b⟩ := HX.out w5 hC5
      have HC5 := hidden hC5
      have HG5 := hidden (HG0.out.of_below hC5)
      clear hC5 hG5 CHBA CHRA CHBB CHRB HBA HBB
      go_wp2_with (first | (go_at_call 17; refine (HRB.out _ HC6.out).mono ?_; rintro e w7 ⟨rfl, g7⟩; have HC7 := hidden (HC6.out.of_below g7); have HG7 := hidden (HG6.out.of_below g7); clear x0a x1a x2a x0b x1b x2b g7; obtain ⟨x0a, x1a, x2a, x0b, x1b, x2b⟩ := HX.out w7 HC7.out) | (go_at_call 17; refine (HRA.out _ HC5.out).mono ?_; rintro e w6 ⟨rfl, g6⟩; have HC6 := hidden (HC5.out.of_below g6); have HG6 := hidden (HG5.out.of_below g6); clear x0a x1a x2a x0b x1b x2b g6; obtain ⟨x0a, x1a, x2a, x0b, x1b, x2b⟩ := HX.out w6 HC6.out))
      refine (HU1.out _ HC7.out).mono ?_
      rintro e w8 ⟨v8, rfl, ⟨u8, rfl, r8, l8⟩, g8⟩
      obtain ⟨A8, c8, rfl, _⟩ := r8.slice_
      rw [ucells_length] at r8 ⊢
      have HF8 := hidden (show IsF w8 (.agg #[.int .i64 h3, .int .i64 (n3 : Int), .slice A8 w3.length c8]) h3 n3 w3 from ⟨_, rfl, r8, l8⟩)
      have HC8 := hidden (HC7.out.of_below g8)
      have HG8 := hidden (HG7.out.of_below g8)
      clear r8 l8 g8 x0a x1a x2a x0b x1b x2b
      have HR8 := hidden (agg_new w8 (.int .i64 h3) (.int .i64 (n3 : Int)) (.slice A8 w3.length c8))
      obtain ⟨x0a, x1a, x2a, x0b, x1b, x2b⟩ := HX.out (w8.alloc (.cells #[.int .i64 h3, .int .i64 (n3 : Int), .slice A8 w3.length c8] 32)) (HC8.out.of_below (growB _ _))
      go_wp2_with fail
      clear x0a x1a x2a x0b x1b x2b
      refine (HU2.out _ (HC8.out.of_below (growB _ _))).mono ?_
      rintro e w9 ⟨v9, rfl, ⟨u9, rfl, r9, l9⟩, g9⟩
      obtain ⟨A9, c9, rfl, _⟩ := r9.slice_
      rw [ucells_length] at r9 ⊢
      have HF9 := hidden (show IsF w9 (.agg #[.int .i64 h3, .int .i64 (n3 : Int), .slice A9 w3.length c9]) h3 n3 w3 from ⟨_, rfl, r9, l9⟩)
      have HF89 := hidden ((HF8.out.grow (growB w8 (.cells #[.int .i64 h3, .int .i64 (n3 : Int), .slice A8 w3.length c8] 32))).grow g9)
      have HR89 := hidden ((HR8.out.grow g9).grow (growB w9 (.cells #[.int .i64 h3, .int .i64 (n3 : Int), .slice A9 w3.length c9] 32)))
      have HR9 := hidden (agg_new w9 (.int .i64 h3) (.int .i64 (n3 : Int)) (.slice A9 w3.length c9))
      have HG9 := hidden ((HG8.out.of_below (growB w8 (.cells #[.int .i64 h3, .int .i64 (n3 : Int), .slice A8 w3.length c8] 32))).of_below g9)
      have HGX := hidden (HG9.out.of_below (growB w9 (.cells #[.int .i64 h3, .int .i64 (n3 : Int), .slice A9 w3.length c9] 32)))
      have HEQ := hidden (req15_any (.agg #[.int .i64 h3, .int .i64 (n3 : Int), .slice A8 w3.length c8]) (.agg #[.int .i64 h3, .int .i64 (n3 : Int), .slice A9 w3.length c9]) h3 h3 n3 n3 w3 w3 (w9.alloc (.cells #[.int .i64 h3, .int .i64 (n3 : Int), .slice A9 w3.length c9] 32)) (HF89.out.grow (growB _ _)) (HF9.out.grow (growB _ _)))
      rw [eqF_self] at HEQ
      clear r9 l9 g9
      have y0 := HR89.out.cell 0
      have y1 := HR89.out.cell 1
      have y2 := HR89.out.cell 2
      have z0 := HR9.out.cell 0
      have z1 := HR9.out.cell 1
      have z2 := HR9.out.cell 2
      simp only [List.getElem?_cons_succ, List.getElem?_cons_zero] at y0 y1 y2 z0 z1 z2
      go_wp2_with (first | (go_at_call 13; refine HEQ.out.mono ?_; rintro e w10 ⟨rfl, g10⟩; have HG10 := hidden (HGX.out.of_below g10); clear g10 y0 y1 y2 z0 z1 z2) | (go_at_call 10; refine (HLV.out _).mono ?_; rintro e w11 ⟨rfl, g11⟩; have HG11 := hidden (HG10.out.of_below g11); clear g11))
      go_ret
      exact ⟨rfl, HG11.out⟩
end Go.Proofs.Ytgegjoggiadgbaa
