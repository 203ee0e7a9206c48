/-
  Shaken: what the claims of this seat need of this text. No condition.
-/
import Derived.Test.YtoaklmceejeblaaGreatM21
namespace Go.Proofs.YtoaklmceejeblaaGreat
open Go.RowKit
set_option linter.unusedVariables false
set_option linter.unusedSimpArgs false
theorem qinteger_any (n : Int) (w : World) : Calls Tryz.prog 37 #[.int .i64 n] w fun e w' => e = .returned (.agg #[.int .i64 2, .int .i64 n, .string ⟨#[]⟩]) ∧ Grows w w' := by
  go_enter Tryz.func37, Tryz.ntmps37
  go_wp2_with fail
  exact bodyPost_ret (results_val rfl _ _ _ _ _ _ rfl (valRow w _ _ _)) rfl ⟨rfl, growK _ _⟩
theorem ex_form {w : World} {v : Value} (h : IsK w v (skB exL)) : ∃ A1 A2 A3 b4 o4 c1 c2 c3 c4, v = .agg #[.int .i64 4, .int .i64 1, .slice A1 2 c1, .bool true, .slice A2 256 c2, .slice A3 2 c3, .slice (some ⟨b4, o4, none⟩) 4 c4] ∧ w.cell? ⟨b4, o4 + 3, none⟩ = some (.int .i64 3) := by
  obtain ⟨A1, A2, A3, A4, c1, c2, c3, c4, h0, -, -, -, h4⟩ := h
  rw [ex_hsl, ex_cl, ex_fl, ex_rl, ex_sk] at h0
  rw [ex_rl, ex_sk] at h4
  obtain ⟨A', c', he, _, hc⟩ := h4
  obtain ⟨b, off, rfl, hcell⟩ := hc (by decide)
  injection he with he _ _
  subst he
  exact ⟨A1, A2, A3, b, off, c1, c2, c3, c4, h0, hcell 3 (by decide)⟩
theorem ex_reads (w : World) : ReadsV (w.alloc (.cells #[.int .i64 2, .int .i64 1, .string ⟨#[]⟩, .int .i64 2, .int .i64 2, .string ⟨#[]⟩, .int .i64 2, .int .i64 2, .string ⟨#[]⟩, .int .i64 0, .int .i64 0, .string ⟨#[]⟩] 35)) (.slice (some ⟨w.heap.size, 0, none⟩) 4 4) exL := by
  have hr := Row.new w 35 #[.int .i64 2, .int .i64 1, .string ⟨#[]⟩, .int .i64 2, .int .i64 2, .string ⟨#[]⟩, .int .i64 2, .int .i64 2, .string ⟨#[]⟩, .int .i64 0, .int .i64 0, .string ⟨#[]⟩] _ rfl
  refine ⟨_, 4, rfl, by decide, fun _ => ⟨w.heap.size, 0, rfl, fun j x hj => ?_⟩⟩
  have hl := (List.getElem?_eq_some_iff.1 hj).1
  have hl : j < 4 := hl
  rw [hr.cell, hr.cell, hr.cell]
  have : j = 0 ∨ j = 1 ∨ j = 2 ∨ j = 3 := by omega
  rcases this with rfl | rfl | rfl | rfl <;> (simp [exL] at hj; subst hj; exact ⟨rfl, rfl, rfl⟩)
set_option maxHeartbeats 16000000 in
set_option maxRecDepth 8000 in
theorem qawake_any (w : World) : Calls Tryz.prog 12 #[] w fun e w' => e = .returned (.bool true) ∧ Grows w w' := by
  have HI := hidden (fun n W => qinteger_any n W)
  have HG0 := hidden (Below.refl w.heap.size w)
  go_enter Tryz.func12, Tryz.ntmps12
  go_wp2_with fail
  refine (HI.out _ _).mono ?_
  rintro e wa ⟨rfl, ga⟩
  go_wp2_with fail
  refine (HI.out _ _).mono ?_
  rintro e wb ⟨rfl, gb⟩
  go_wp2_with fail
  refine (HI.out _ _).mono ?_
  rintro e wc ⟨rfl, gc⟩
  have HGC := hidden ((ga.of_below gb).of_below gc)
  clear ga gb gc
  go_wp2_with fail
  refine (ex_build _ _ (ex_reads wc)).mono ?_
  rintro e wd ⟨u, rfl, hk, gd⟩
  obtain ⟨A1, A2, A3, b4, o4, c1, c2, c3, c4, rfl, hr3⟩ := ex_form hk
  have HGD := hidden (HGC.out.of_below ((growK _ _).of_below gd))
  obtain ⟨We, hWe⟩ : ∃ We, We = wd.alloc (.cells #[.int .i64 4, .int .i64 1, .slice A1 2 c1, .bool true, .slice A2 256 c2, .slice A3 2 c3, .slice (some ⟨b4, o4, none⟩) 4 c4] 29) := ⟨_, rfl⟩
  have hGE : Grows wd We := by rw [hWe]; exact growK _ _
  have HGE := hidden (HGD.out.of_below hGE)
  have HK := hidden (hk.grow hGE)
  have hRW : Row We wd.heap.size 29 [.int .i64 4, .int .i64 1, .slice A1 2 c1, .bool true, .slice A2 256 c2, .slice A3 2 c3, .slice (some ⟨b4, o4, none⟩) 4 c4] := by rw [hWe]; exact skrow_new _ _ _ _ _ _ _ _
  have HX := hidden (fun X (h : Grows We X) => show X.cell? ⟨wd.heap.size, 0, none⟩ = some (.int .i64 4) ∧ X.cell? ⟨wd.heap.size, 1, none⟩ = some (.int .i64 1) ∧ X.cell? ⟨wd.heap.size, 2, none⟩ = some (.slice A1 2 c1) ∧ X.cell? ⟨wd.heap.size, 3, none⟩ = some (.bool true) ∧ X.cell? ⟨wd.heap.size, 4, none⟩ = some (.slice A2 256 c2) ∧ X.cell? ⟨wd.heap.size, 5, none⟩ = some (.slice A3 2 c3) ∧ X.cell? ⟨wd.heap.size, 6, none⟩ = some (.slice (some ⟨b4, o4, none⟩) 4 c4) ∧ X.cell? ⟨b4, o4 + 3, none⟩ = some (.int .i64 3) from
    ⟨(hRW.grow h).cell 0, (hRW.grow h).cell 1, (hRW.grow h).cell 2, (hRW.grow h).cell 3, (hRW.grow h).cell 4, (hRW.grow h).cell 5, (hRW.grow h).cell 6, ((hGE.of_below h).cell (World.block_lt_of_cell? _ _ hr3)).trans hr3⟩)
  clear hr3 hk gd hGE hRW HI HG0
  go_wp2_with fail
  rw [← hWe]
  clear hWe
  refine wp_region_loose (tabRs [(29, ConstV (.bool true)), (33, ConstV (.agg #[.int .i64 2, .int .i64 2, .string ⟨#[]⟩])), (34, ConstV (.agg #[.int .i64 2, .int .i64 2])), (40, ConstV (.agg #[.int .i64 2, .int .i64 2, .string ⟨#[]⟩])), (41, ConstV (.agg #[.int .i64 1, .int .i64 1])), (47, ConstV (.agg #[.int .i64 2, .int .i64 2]))]) (by kernel_rfl) (by kernel_rfl) (tabRs_cons ConstV.lasts (tabRs_cons ConstV.lasts (tabRs_cons ConstV.lasts (tabRs_cons ConstV.lasts (tabRs_cons ConstV.lasts (tabRs_cons ConstV.lasts tabRs_nil)))))) ?_
  iterate 29 ((with_reducible refine loose_one (v := ?_) (a' := ?_) ?_ ?_ (fun w' hC' hG' => ?_) ?_ ?_); rotate_left 2; (focus rfl); (focus rfl); (focus (obtain ⟨s0, s1, s2, s3, s4, s5, s6, r3⟩ := HX.out w' hC'; clear hC' hG'; go_simp; rfl)); (focus (go_simp; rfl)))
  refine loose_call (R := ConstV (.bool true)) (f := 18) (args := #[.agg #[.int .i64 4, .int .i64 1, .slice A1 2 c1, .bool true, .slice A2 256 c2, .slice A3 2 c3, .slice (some ⟨b4, o4, none⟩) 4 c4]]) (by rfl) (by rfl) (fun _ => by go_simp) (fun w' hC' hG' => const_loose16 (ex_cValid _ w' (HK.out.grow hC'))) ?_
  rintro _ ⟨_, _, rfl⟩
  refine ⟨?_, ?_, ?_⟩
  rotate_left
  · go_simp
    rfl
  iterate 3 ((with_reducible refine loose_one (v := ?_) (a' := ?_) ?_ ?_ (fun w' hC' hG' => ?_) ?_ ?_); rotate_left 2; (focus rfl); (focus rfl); (focus (obtain ⟨s0, s1, s2, s3, s4, s5, s6, r3⟩ := HX.out w' hC'; clear hC' hG'; go_simp; rfl)); (focus (go_simp; rfl)))
  refine loose_call (R := ConstV (.agg #[.int .i64 2, .int .i64 2, .string ⟨#[]⟩])) (f := 37) (args := #[.int .i64 2]) (by rfl) (by rfl) (fun _ => by go_simp) (fun w' hC' hG' => const_loose16 (qinteger_any 2 w')) ?_
  rintro _ ⟨_, _, rfl⟩
  refine ⟨?_, ?_, ?_⟩
  rotate_left
  · go_simp
    rfl
  refine loose_call (R := ConstV (.agg #[.int .i64 2, .int .i64 2])) (f := 21) (args := #[.agg #[.int .i64 4, .int .i64 1, .slice A1 2 c1, .bool true, .slice A2 256 c2, .slice A3 2 c3, .slice (some ⟨b4, o4, none⟩) 4 c4], .agg #[.int .i64 2, .int .i64 2, .string ⟨#[]⟩]]) (by rfl) (by rfl) (fun _ => by go_simp) (fun w' hC' hG' => const_loose16 (ex_cEqual _ w' (HK.out.grow hC'))) ?_
  rintro _ ⟨_, _, rfl⟩
  refine ⟨?_, ?_, ?_⟩
  rotate_left
  · go_simp
    rfl
  iterate 5 ((with_reducible refine loose_one (v := ?_) (a' := ?_) ?_ ?_ (fun w' hC' hG' => ?_) ?_ ?_); rotate_left 2; (focus rfl); (focus rfl); (focus (obtain ⟨s0, s1, s2, s3, s4, s5, s6, r3⟩ := HX.out w' hC'; clear hC' hG'; go_simp; rfl)); (focus (go_simp; rfl)))
  refine loose_call (R := ConstV (.agg #[.int .i64 2, .int .i64 2, .string ⟨#[]⟩])) (f := 37) (args := #[.int .i64 2]) (by rfl) (by rfl) (fun _ => by go_simp) (fun w' hC' hG' => const_loose16 (qinteger_any 2 w')) ?_
  rintro _ ⟨_, _, rfl⟩
  refine ⟨?_, ?_, ?_⟩
  rotate_left
  · go_simp
    rfl
  refine loose_call (R := ConstV (.agg #[.int .i64 1, .int .i64 1])) (f := 23) (args := #[.agg #[.int .i64 4, .int .i64 1, .slice A1 2 c1, .bool true, .slice A2 256 c2, .slice A3 2 c3, .slice (some ⟨b4, o4, none⟩) 4 c4], .agg #[.int .i64 2, .int .i64 2, .string ⟨#[]⟩]]) (by rfl) (by rfl) (fun _ => by go_simp) (fun w' hC' hG' => const_loose16 (ex_cLess _ w' (HK.out.grow hC'))) ?_
  rintro _ ⟨_, _, rfl⟩
  refine ⟨?_, ?_, ?_⟩
  rotate_left
  · go_simp
    rfl
  iterate 5 ((with_reducible refine loose_one (v := ?_) (a' := ?_) ?_ ?_ (fun w' hC' hG' => ?_) ?_ ?_); rotate_left 2; (focus rfl); (focus rfl); (focus (obtain ⟨s0, s1, s2, s3, s4, s5, s6, r3⟩ := HX.out w' hC'; clear hC' hG'; go_simp; rfl)); (focus (go_simp; rfl)))
  refine loose_call (R := ConstV (.agg #[.int .i64 2, .int .i64 2])) (f := 27) (args := #[.agg #[.int .i64 4, .int .i64 1, .slice A1 2 c1, .bool true, .slice A2 256 c2, .slice A3 2 c3, .slice (some ⟨b4, o4, none⟩) 4 c4]]) (by rfl) (by rfl) (fun _ => by go_simp) (fun w' hC' hG' => const_loose16 (ex_cDist _ w' (HK.out.grow hC'))) ?_
  rintro _ ⟨_, _, rfl⟩
  refine ⟨?_, ?_, ?_⟩
  rotate_left
  · go_simp
    rfl
  iterate 4 ((with_reducible refine loose_one (v := ?_) (a' := ?_) ?_ ?_ (fun w' hC' hG' => ?_) ?_ ?_); rotate_left 2; (focus rfl); (focus rfl); (focus (obtain ⟨s0, s1, s2, s3, s4, s5, s6, r3⟩ := HX.out w' hC'; clear hC' hG'; go_simp; rfl)); (focus (go_simp; rfl)))
  refine loose_done (fun w9 hC9 hG9 => ?_)
  have HB9 := hidden (HGE.out.of_below hC9)
  clear hC9 hG9
  go_wp2_with fail
  go_ret
  exact ⟨rfl, HB9.out⟩
end Go.Proofs.YtoaklmceejeblaaGreat
