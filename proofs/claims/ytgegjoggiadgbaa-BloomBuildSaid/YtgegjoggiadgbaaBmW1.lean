/-
  Shaken: what the claims of this seat need of this text. No condition.
-/
import Derived.Test.YtgegjoggiadgbaaM22
namespace Go.Proofs.Ytgegjoggiadgbaa
open Go.RowKit
set_option linter.unusedVariables false
set_option linter.unusedSimpArgs false
set_option maxRecDepth 20000 in
set_option maxHeartbeats 8000000 in
theorem law_build15 (v : Value) (l : List Val) (bits k n : Int) (t : ByteArray) (w : World) (hr : ReadsV w v l) (hl : l.length ≤ 140737488351232) (hb : I64 bits) :
    Calls Try.prog 3 #[v, .int .i64 bits, .agg #[.int .i64 k, .int .i64 n, .string t]] w fun e w' => e = .returned (.bool true) ∧ Below w.heap.size w w' := by
  have HLV := hidden (fun W => lives15_any W)
  have HVL := hidden (fun W (h : Grows w W) => valid15_any v l W (hr.grow h) (by omega))
  have HPV := hidden (fun W => rvvalid_any k n t W)
  have HG0 := hidden (growB w (.cells #[.int .i64 k, .int .i64 n, .string t] 24))
  have HP0 := hidden (Row.new w 24 #[.int .i64 k, .int .i64 n, .string t] [.int .i64 k, .int .i64 n, .string t] rfl)
  obtain ⟨vb, hvb⟩ : ∃ b, (validL l && decide (l.length ≤ 200)) = b := ⟨_, rfl⟩
  rw [hvb] at HVL
  cases vb
  · clear hr hl hb hvb
    go_enter Try.func3, Try.ntmps3
    go_wp2_with (first | (go_at_call 8; refine (HVL.out _ HG0.out).mono ?_; rintro e w1 ⟨rfl, g1⟩; have HG1 := hidden (HG0.out.of_below g1); clear g1) | (go_at_call 10; refine (HLV.out _).mono ?_; rintro e w2 ⟨rfl, g2⟩; have HG2 := hidden (HG1.out.of_below g2); clear g2))
    go_ret
    exact ⟨rfl, HG2.out⟩
  obtain ⟨vx, hvx⟩ : ∃ b, validV k n t = b := ⟨_, rfl⟩
  rw [hvx] at HPV
  cases vx
  · clear hr hl hb hvb hvx
    go_enter Try.func3, Try.ntmps3
    go_wp2_with (first | (go_at_call 8; refine (HVL.out _ HG0.out).mono ?_; rintro e w1 ⟨rfl, g1⟩; have HG1 := hidden (HG0.out.of_below g1); have HP1 := hidden (HP0.out.grow g1); have p0 := HP1.out.cell 0; have p1 := HP1.out.cell 1; have p2 := HP1.out.cell 2; simp only [List.getElem?_cons_succ, List.getElem?_cons_zero] at p0 p1 p2; clear g1) | (go_at_call 9; refine (HPV.out _).mono ?_; rintro e w2 ⟨rfl, g2⟩; have HG2 := hidden (HG1.out.of_below g2); clear g2) | (go_at_call 10; refine (HLV.out _).mono ?_; rintro e w3 ⟨rfl, g3⟩; have HG3 := hidden (HG2.out.of_below g3); clear g3))
    go_ret
    exact ⟨rfl, HG3.out⟩
  have hvl : validL l = true := by
    have := hvb
    rw [Bool.and_eq_true] at this
    exact this.1
  have hle : l.length ≤ 200 := by
    have := hvb
    rw [Bool.and_eq_true] at this
    simpa using this.2
  have HBB := hidden (fun W (h : Grows w W) => bbuild_any v l bits W (hr.grow h) hvl (by omega) hb)
  have HRB := hidden (fun W (h : Grows w W) => rbuild15_any v l bits W (hr.grow h) hvl (by omega) hb)
  have HBP := hidden (built_parts bits l)
  have HVX := hidden (show validV (Val.mk k n t).k (Val.mk k n t).n (Val.mk k n t).t = true from hvx)
  unfold BldR at HBB HRB
  generalize buildH bits = H at *
  generalize buildN bits l.length = N at *
  generalize buildW bits l = ws at *
  clear hr hl hb hvb hvx hvl hle
  go_enter Try.func3, Try.ntmps3
  go_wp2_with (first | (go_at_call 8; refine (HVL.out _ HG0.out).mono ?_; rintro e w1 ⟨rfl, g1⟩; have HG1 := hidden (HG0.out.of_below g1); have HP1 := hidden (HP0.out.grow g1); have p0 := HP1.out.cell 0; have p1 := HP1.out.cell 1; have p2 := HP1.out.cell 2; simp only [List.getElem?_cons_succ, List.getElem?_cons_zero] at p0 p1 p2; clear g1) | (go_at_call 9; refine (HPV.out _).mono ?_; rintro e w2 ⟨rfl, g2⟩; have HG2 := hidden (HG1.out.of_below g2); have HP2 := hidden (HP1.out.grow g2); clear g2 p0 p1 p2))
  refine (HBB.out _ HG2.out).mono ?_
  rintro e w3 ⟨v3, rfl, ⟨u3, rfl, r3, l3⟩, g3⟩
  obtain ⟨A3, c3, rfl, _⟩ := r3.slice_
  rw [ucells_length] at r3 ⊢
  have HF3 := hidden (show IsF w3 (.agg #[.int .i64 (H : Int), .int .i64 (N : Int), .slice A3 ws.length c3]) H N ws from ⟨_, rfl, r3, l3⟩)
  have HG3 := hidden (HG2.out.of_below g3)
  have HP3 := hidden (HP2.out.grow g3)
  clear r3 l3 g3
  go_wp2_with fail
  refine (HRB.out _ HG3.out).mono ?_
  rintro e w4 ⟨v4, rfl, ⟨u4, rfl, r4, l4⟩, g4⟩
  obtain ⟨A4, c4, rfl, _⟩ := r4.slice_
  rw [ucells_length] at r4 ⊢
  have HF4 := hidden (show IsF w4 (.agg #[.int .i64 (H : Int), .int .i64 (N : Int), .slice A4 ws.length c4]) H N ws from ⟨_, rfl, r4, l4⟩)
  have HF34 := hidden (HF3.out.grow g4)
  have HG4 := hidden (HG3.out.of_below g4)
  have HP4 := hidden (HP3.out.grow g4)
  clear r4 l4 g4
  go_wp2_with fail
  -- region 4
  obtain ⟨W5, hW5⟩ : ∃ W, W = (w4.alloc (.cells #[.int .i64 (H : Int), .int .i64 (N : Int), .slice A3 ws.length c3] 32)).alloc (.cells #[.int .i64 (H : Int), .int .i64 (N : Int), .slice A4 ws.length c4] 32) := ⟨_, rfl⟩
  have hg45 : Grows w4 W5 := by rw [hW5]; exact (growB _ _).of_below (growB _ _)
  have HA5 := hidden (show Row W5 w4.heap.size 32 [.int .i64 (H : Int), .int .i64 (N : Int), .slice A3 ws.length c3] by rw [hW5]; exact (agg_new _ _ _ _).grow (growB _ _))
  have HB5 := hidden (show Row W5 (w4.heap.size + 1) 32 [.int .i64 (H : Int), .int .i64 (N : Int), .slice A4 ws.length c4] by
    rw [hW5]
    have h := agg_new (w4.alloc (.cells #[.int .i64 (H : Int), .int .i64 (N : Int), .slice A3 ws.length c3] 32)) (.int .i64 (H : Int)) (.int .i64 (N : Int)) (.slice A4 ws.length c4)
    have e : (w4.alloc (.cells #[.int .i64 (H : Int), .int .i64 (N : Int), .slice A3 ws.length c3] 32)).heap.size = w4.heap.size + 1 := by simp
    rwa [e] at h)
  have HP5 := hidden (HP4.out.grow hg45)
  have HG5 := hidden (HG4.out.of_below hg45)
  have HEQ := hidden (fun W (h : Grows W5 W) => const_loose15 (req15_any (.agg #[.int .i64 (H : Int), .int .i64 (N : Int), .slice A3 ws.length c3]) (.agg #[.int .i64 (H : Int), .int .i64 (N : Int), .slice A4 ws.length c4]) H H N N ws ws W ((HF34.out.grow hg45).grow h) ((HF4.out.grow hg45).grow h)))
  rw [eqF_self] at HEQ
  have HM1 := hidden (fun W (h : Grows W5 W) => const_loose15 (bmay_any (.agg #[.int .i64 (H : Int), .int .i64 (N : Int), .slice A4 ws.length c4]) H N ws ⟨k, n, t⟩ W ((HF4.out.grow hg45).grow h) HBP.out.1 HBP.out.2.1 HBP.out.2.2.1 HBP.out.2.2.2.2.2.1 HBP.out.2.2.2.1 HVX.out))
  have HM2 := hidden (fun W (h : Grows W5 W) => const_loose15 (rmay15_any (.agg #[.int .i64 (H : Int), .int .i64 (N : Int), .slice A4 ws.length c4]) H N ws ⟨k, n, t⟩ W ((HF4.out.grow hg45).grow h) HBP.out.1 HBP.out.2.2.1 HBP.out.2.1 HBP.out.2.2.2.1 HVX.out))
  have HL5 := hidden (fun W (h : Grows W5 W) => const_loose15 (lives15_any W))
  unfold Val.v at HM1 HM2
  generalize mayB H N ws ⟨k, n, t⟩ = m at *
  rw [← hW5]
  have HX : Hid (∀ X, Grows W5 X → X.cell? ⟨w.heap.size, 0, none⟩ = some (.int .i64 k) ∧ X.cell? ⟨w.heap.size, 1, none⟩ = some (.int .i64 n) ∧ X.cell? ⟨w.heap.size, 2, none⟩ = some (.string t) ∧ X.cell? ⟨w4.heap.size, 0, none⟩ = some (.int .i64 (H : Int)) ∧ X.cell? ⟨w4.heap.size, 1, none⟩ = some (.int .i64 (N : Int)) ∧ X.cell? ⟨w4.heap.size, 2, none⟩ = some (.slice A3 ws.length c3) ∧ X.cell? ⟨w4.heap.size + 1, 0, none⟩ = some (.int .i64 (H : Int)) ∧ X.cell? ⟨w4.heap.size + 1, 1, none⟩ = some (.int .i64 (N : Int)) ∧ X.cell? ⟨w4.heap.size + 1, 2, none⟩ = some (.slice A4 ws.length c4)) := hidden fun X h => ⟨(HP5.out.grow h).cell 0, (HP5.out.grow h).cell 1, (HP5.out.grow h).cell 2, (HA5.out.grow h).cell 0, (HA5.out.grow h).cell 1, (HA5.out.grow h).cell 2, (HB5.out.grow h).cell 0, (HB5.out.grow h).cell 1, (HB5.out.grow h).cell 2⟩
  clear hW5 hg45 HG0 HG1 HG2 HG3 HG4 HP0 HP1 HP2 HP3 HP4 HF3 HF4 HF34 HBB HRB HVL HPV HLV HBP HVX HA5 HB5 HP5
  refine wp_region_loose (tabRs [(2, ConstV (.bool true)), (6, ConstV (.bool m)), (9, ConstV (.bool m)), (13, ConstV (.bool true))]) (by kernel_rfl) (by kernel_rfl) (tabRs_cons ConstV.lasts (tabRs_cons ConstV.lasts (tabRs_cons ConstV.lasts (tabRs_cons ConstV.lasts tabRs_nil)))) ?_
  iterate 2 ((with_reducible refine loose_one (v := ?_) (a' := ?_) ?_ ?_ (fun w' hC' hG' => ?_) ?_ ?_); rotate_left 2; (focus rfl); (focus rfl); (focus (obtain ⟨x0a, x1a, x2a, x0b, x1b, x2b, x0c, x1c, x2c⟩ := HX.out w' hC'; clear hC' hG'; go_simp; rfl)); (focus (go_simp; rfl)))
  refine loose_call (R := ConstV (.bool true)) (f := 13) (args := #[.agg #[.int .i64 (H : Int), .int .i64 (N : Int), .slice A3 ws.length c3], .agg #[.int .i64 (H : Int), .int .i64 (N : Int), .slice A4 ws.length c4]]) (by rfl) (by rfl) (fun _ => by go_simp) (fun w' hC' hG' => HEQ.out w' hC') ?_
  rintro _ ⟨_, _, rfl⟩
  refine ⟨?_, ?_, ?_⟩
  rotate_left
  · go_simp
    rfl
  iterate 3 ((with_reducible refine loose_one (v := ?_) (a' := ?_) ?_ ?_ (fun w' hC' hG' => ?_) ?_ ?_); rotate_left 2; (focus rfl); (focus rfl); (focus (obtain ⟨x0a, x1a, x2a, x0b, x1b, x2b, x0c, x1c, x2c⟩ := HX.out w' hC'; clear hC' hG'; go_simp; rfl)); (focus (go_simp; rfl)))
  refine loose_call (R := ConstV (.bool m)) (f := 14) (args := #[.agg #[.int .i64 (H : Int), .int .i64 (N : Int), .slice A4 ws.length c4], .agg #[.int .i64 k, .int .i64 n, .string t]]) (by rfl) (by rfl) (fun _ => by go_simp) (fun w' hC' hG' => HM1.out w' hC') ?_
  rintro _ ⟨_, _, rfl⟩
  refine ⟨?_, ?_, ?_⟩
  rotate_left
  · go_simp
    rfl
  iterate 2 ((with_reducible refine loose_one (v := ?_) (a' := ?_) ?_ ?_ (fun w' hC' hG' => ?_) ?_ ?_); rotate_left 2; (focus rfl); (focus rfl); (focus (obtain ⟨x0a, x1a, x2a, x0b, x1b, x2b, x0c, x1c, x2c⟩ := HX.out w' hC'; clear hC' hG'; go_simp; rfl)); (focus (go_simp; rfl)))
  refine loose_call (R := ConstV (.bool m)) (f := 15) (args := #[.agg #[.int .i64 (H : Int), .int .i64 (N : Int), .slice A4 ws.length c4], .agg #[.int .i64 k, .int .i64 n, .string t]]) (by rfl) (by rfl) (fun _ => by go_simp) (fun w' hC' hG' => HM2.out w' hC') ?_
  rintro _ ⟨_, _, rfl⟩
  refine ⟨?_, ?_, ?_⟩
  rotate_left
  · go_simp
    rfl
  iterate 3 ((with_reducible refine loose_one (v := ?_) (a' := ?_) ?_ ?_ (fun w' hC' hG' => ?_) ?_ ?_); rotate_left 2; (focus rfl); (focus rfl); (focus (obtain ⟨x0a, x1a, x2a, x0b, x1b, x2b, x0c, x1c, x2c⟩ := HX.out w' hC'; clear hC' hG'; go_simp; rfl)); (focus (go_simp; rfl)))
  refine loose_call (R := ConstV (.bool true)) (f := 10) (args := #[]) (by rfl) (by rfl) (fun _ => by go_simp) (fun w' hC' hG' => HL5.out w' hC') ?_
  rintro _ ⟨_, _, rfl⟩
  refine ⟨?_, ?_, ?_⟩
  rotate_left
  · go_simp
    rfl
  iterate 2 ((with_reducible refine loose_one (v := ?_) (a' := ?_) ?_ ?_ (fun w' hC' hG' => ?_) ?_ ?_); rotate_left 2; (focus rfl); (focus rfl); (focus (obtain ⟨x0a, x1a, x2a, x0b, x1b, x2b, x0c, x1c, x2c⟩ := HX.out w' hC'; clear hC' hG'; go_simp; rfl)); (focus (go_simp; rfl)))
  refine loose_done (fun w9 hC' hG' => ?_)
  have HGE := hidden (HG5.out.of_below hC')
  clear hC' hG'
  go_wp2_with fail
  go_ret
  exact ⟨rfl, HGE.out⟩
end Go.Proofs.Ytgegjoggiadgbaa
