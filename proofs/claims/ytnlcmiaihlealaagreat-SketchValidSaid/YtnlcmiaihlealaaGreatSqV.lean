/-
  Shaken: what the claims of this seat need of this text. No condition.
-/
import Derived.Test.YtnlcmiaihlealaaGreatM20
import Derived.Test.YtnlcmiaihlealaaGreatSqU
namespace Go.Proofs.YtnlcmiaihlealaaGreat
set_option maxRecDepth 8000
open Go.RowKit
set_option linter.unusedVariables false
set_option linter.unusedSimpArgs false
set_option maxHeartbeats 16000000 in
theorem law_valid16 (v : Value) (s : Sk) (w : World) (hk : IsK w v s) (hrow : s.rows ≤ 9223372036854775807) :
    Calls Tryz.prog 5 #[v] w fun e w' => e = .returned (.bool true) ∧ Grows w w' := by
  have HAW := hidden (fun W => qawake_any W)
  have HIK := hidden hk
  have HSAME := hidden (valid_same s)
  obtain ⟨A1, A2, A3, A4, c1, c2, c3, c4, rfl, -⟩ := hk
  obtain ⟨n1, hn1⟩ : ∃ n, n = s.hs.length := ⟨_, rfl⟩
  obtain ⟨n2, hn2⟩ : ∃ n, n = s.cm.length := ⟨_, rfl⟩
  obtain ⟨n3, hn3⟩ : ∃ n, n = s.fs.length := ⟨_, rfl⟩
  obtain ⟨n4, hn4⟩ : ∃ n, n = s.rk.length := ⟨_, rfl⟩
  have HNN := hidden (And.intro hn1 (And.intro hn2 (And.intro hn3 hn4)))
  rw [← hn1, ← hn2, ← hn3, ← hn4] at HIK ⊢
  clear hn1 hn2 hn3 hn4
  obtain ⟨W0, hW0⟩ : ∃ W, W = w.alloc (.cells #[.int .i64 s.rows, .int .i64 s.nulls, .slice A1 n1 c1, .bool s.ok, .slice A2 n2 c2, .slice A3 n3 c3, .slice A4 n4 c4] 29) := ⟨_, rfl⟩
  have HG0 := hidden (show Grows w W0 by rw [hW0]; exact growK _ _)
  have hS0 : Row W0 w.heap.size 29 [.int .i64 s.rows, .int .i64 s.nulls, .slice A1 n1 c1, .bool s.ok, .slice A2 n2 c2, .slice A3 n3 c3, .slice A4 n4 c4] := by rw [hW0]; exact skrow_new w (.int .i64 s.rows) (.int .i64 s.nulls) (.slice A1 n1 c1) (.bool s.ok) (.slice A2 n2 c2) (.slice A3 n3 c3) (.slice A4 n4 c4)
  have HX : Hid (∀ X, Grows W0 X → X.cell? ⟨w.heap.size, 0, none⟩ = some (.int .i64 s.rows) ∧ X.cell? ⟨w.heap.size, 1, none⟩ = some (.int .i64 s.nulls) ∧ X.cell? ⟨w.heap.size, 2, none⟩ = some (.slice A1 n1 c1) ∧ X.cell? ⟨w.heap.size, 3, none⟩ = some (.bool s.ok) ∧ X.cell? ⟨w.heap.size, 4, none⟩ = some (.slice A2 n2 c2) ∧ X.cell? ⟨w.heap.size, 5, none⟩ = some (.slice A3 n3 c3) ∧ X.cell? ⟨w.heap.size, 6, none⟩ = some (.slice A4 n4 c4)) := hidden fun X h => ⟨(hS0.grow h).cell 0, (hS0.grow h).cell 1, (hS0.grow h).cell 2, (hS0.grow h).cell 3, (hS0.grow h).cell 4, (hS0.grow h).cell 5, (hS0.grow h).cell 6⟩
  clear hS0
  by_cases q1 : 100 < n1
  · have d1 : decide (100 < n1) = true := decide_eq_true q1
    have d1b : decide ((100 : Int) < (n1 : Int)) = true := decide_eq_true (by omega)
    go_enter Tryz.func5, Tryz.ntmps5
    go_wp2_with (go_at_call 12; rw [← hW0]; refine (HAW.out _).mono ?_; rintro e w9 ⟨rfl, g9⟩; have HG9 := hidden (HG0.out.of_below g9); clear g9)
    go_ret
    exact ⟨rfl, HG9.out⟩
  have d1 : decide (100 < n1) = false := decide_eq_false q1
  have d1b : decide ((100 : Int) < (n1 : Int)) = false := decide_eq_false (by omega)
  by_cases q2 : 1000 < n2
  · have d2 : decide (1000 < n2) = true := decide_eq_true q2
    have d2b : decide ((1000 : Int) < (n2 : Int)) = true := decide_eq_true (by omega)
    go_enter Tryz.func5, Tryz.ntmps5
    go_wp2_with (go_at_call 12; rw [← hW0]; refine (HAW.out _).mono ?_; rintro e w9 ⟨rfl, g9⟩; have HG9 := hidden (HG0.out.of_below g9); clear g9)
    go_ret
    exact ⟨rfl, HG9.out⟩
  have d2 : decide (1000 < n2) = false := decide_eq_false q2
  have d2b : decide ((1000 : Int) < (n2 : Int)) = false := decide_eq_false (by omega)
  by_cases q3 : 100 < n3
  · have d3 : decide (100 < n3) = true := decide_eq_true q3
    have d3b : decide ((100 : Int) < (n3 : Int)) = true := decide_eq_true (by omega)
    go_enter Tryz.func5, Tryz.ntmps5
    go_wp2_with (go_at_call 12; rw [← hW0]; refine (HAW.out _).mono ?_; rintro e w9 ⟨rfl, g9⟩; have HG9 := hidden (HG0.out.of_below g9); clear g9)
    go_ret
    exact ⟨rfl, HG9.out⟩
  have d3 : decide (100 < n3) = false := decide_eq_false q3
  have d3b : decide ((100 : Int) < (n3 : Int)) = false := decide_eq_false (by omega)
  by_cases q4 : 200 < n4
  · have d4 : decide (200 < n4) = true := decide_eq_true q4
    have d4b : decide ((200 : Int) < (n4 : Int)) = true := decide_eq_true (by omega)
    go_enter Tryz.func5, Tryz.ntmps5
    go_wp2_with (go_at_call 12; rw [← hW0]; refine (HAW.out _).mono ?_; rintro e w9 ⟨rfl, g9⟩; have HG9 := hidden (HG0.out.of_below g9); clear g9)
    go_ret
    exact ⟨rfl, HG9.out⟩
  have d4 : decide (200 < n4) = false := decide_eq_false q4
  have d4b : decide ((200 : Int) < (n4 : Int)) = false := decide_eq_false (by omega)
  obtain ⟨e1, e2, e3, e4⟩ := HNN.out
  have HQV := hidden (fun X (h : Grows W0 X) => const_loose16 (qValid_any _ s X (HIK.out.grow (HG0.out.of_below h)) (by omega) (by omega) (by omega) hrow))
  have HRV := hidden (fun X (h : Grows W0 X) => const_loose16 (rValid_any _ s X (HIK.out.grow (HG0.out.of_below h)) (by omega) (by omega) (by omega) (by omega) hrow))
  rw [HSAME.out] at HRV
  generalize validKB s = b at *
  clear e1 e2 e3 e4 hrow q1 q2 q3 q4 HSAME
  go_enter Tryz.func5, Tryz.ntmps5
  go_wp2_with fail
  rw [← hW0]
  clear hW0 d1 d1b d2 d2b d3 d3b d4 d4b
  have HA2 := hidden (fun X => const_loose16 (HAW.out X))
  refine wp_region_loose (tabRs [(1, ConstV (.bool b)), (3, ConstV (.bool b)), (6, ConstV (.bool true))]) (by kernel_rfl) (by kernel_rfl) (tabRs_cons ConstV.lasts (tabRs_cons ConstV.lasts (tabRs_cons ConstV.lasts tabRs_nil))) ?_
  iterate 1 ((with_reducible refine loose_one (v := ?_) (a' := ?_) ?_ ?_ (fun w' hC' hG' => ?_) ?_ ?_); rotate_left 2; (focus rfl); (focus rfl); (focus (obtain ⟨s0, s1, s2, s3, s4, s5, s6⟩ := HX.out w' hC'; clear hC' hG'; go_simp; rfl)); (focus (go_simp; rfl)))
  refine loose_call (R := ConstV (.bool b)) (f := 18) (args := #[.agg #[.int .i64 s.rows, .int .i64 s.nulls, .slice A1 n1 c1, .bool s.ok, .slice A2 n2 c2, .slice A3 n3 c3, .slice A4 n4 c4]]) (by rfl) (by rfl) (fun _ => by go_simp) (fun w' hC' hG' => HQV.out w' hC') ?_
  rintro _ ⟨_, _, rfl⟩
  refine ⟨?_, ?_, ?_⟩
  rotate_left
  · go_simp
    rfl
  iterate 1 ((with_reducible refine loose_one (v := ?_) (a' := ?_) ?_ ?_ (fun w' hC' hG' => ?_) ?_ ?_); rotate_left 2; (focus rfl); (focus rfl); (focus (obtain ⟨s0, s1, s2, s3, s4, s5, s6⟩ := HX.out w' hC'; clear hC' hG'; go_simp; rfl)); (focus (go_simp; rfl)))
  refine loose_call (R := ConstV (.bool b)) (f := 19) (args := #[.agg #[.int .i64 s.rows, .int .i64 s.nulls, .slice A1 n1 c1, .bool s.ok, .slice A2 n2 c2, .slice A3 n3 c3, .slice A4 n4 c4]]) (by rfl) (by rfl) (fun _ => by go_simp) (fun w' hC' hG' => HRV.out w' hC') ?_
  rintro _ ⟨_, _, rfl⟩
  refine ⟨?_, ?_, ?_⟩
  rotate_left
  · go_simp
    rfl
  iterate 2 ((with_reducible refine loose_one (v := ?_) (a' := ?_) ?_ ?_ (fun w' hC' hG' => ?_) ?_ ?_); rotate_left 2; (focus rfl); (focus rfl); (focus (obtain ⟨s0, s1, s2, s3, s4, s5, s6⟩ := HX.out w' hC'; clear hC' hG'; go_simp; rfl)); (focus (go_simp; rfl)))
  refine loose_call (R := ConstV (.bool true)) (f := 12) (args := #[]) (by rfl) (by rfl) (fun _ => by go_simp) (fun w' hC' hG' => HA2.out w') ?_
  rintro _ ⟨_, _, rfl⟩
  refine ⟨?_, ?_, ?_⟩
  rotate_left
  · go_simp
    rfl
  iterate 2 ((with_reducible refine loose_one (v := ?_) (a' := ?_) ?_ ?_ (fun w' hC' hG' => ?_) ?_ ?_); rotate_left 2; (focus rfl); (focus rfl); (focus (obtain ⟨s0, s1, s2, s3, s4, s5, s6⟩ := HX.out w' hC'; clear hC' hG'; go_simp; rfl)); (focus (go_simp; rfl)))
  refine loose_done (fun w9 hC9 hG9 => ?_)
  have HB9 := hidden (HG0.out.of_below hC9)
  clear hC9 hG9
  go_wp2_with fail
  go_ret
  exact ⟨rfl, HB9.out⟩
end Go.Proofs.YtnlcmiaihlealaaGreat
