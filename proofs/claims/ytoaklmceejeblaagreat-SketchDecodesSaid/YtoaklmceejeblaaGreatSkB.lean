/-
  Shaken: what the claims of this seat need of this text. No condition.
-/
import Derived.Test.YtoaklmceejeblaaGreatSkA
namespace Go.Proofs.YtoaklmceejeblaaGreat
set_option maxRecDepth 8000
open Go.RowKit
set_option linter.unusedVariables false
set_option linter.unusedSimpArgs false
noncomputable def rvalB (s : Sk) : Bool := decide (0 ≤ s.nulls) && decide (s.nulls ≤ s.rows) && validHB (s.rows - s.nulls) s.hs s.ok && validCB (s.rows - s.nulls) s.cm && rvfB (s.rows - s.nulls) s.fs s.rk
set_option maxHeartbeats 16000000 in
theorem rValid_any (v : Value) (s : Sk) (w : World) (hk : IsK w v s) (hh : s.hs.length ≤ 4611686018427387903) (hc : s.cm.length ≤ 4611686018427387903) (hl : s.fs.length ≤ 4611686018427387903) (hrl : s.rk.length ≤ 4611686018427387903) (hrow : s.rows ≤ 9223372036854775807) :
    Calls Tryz.prog 19 #[v] w fun e w' => e = .returned (.bool (rvalB s)) ∧ Grows w w' := by
  have HIK := hidden hk
  obtain ⟨A1, A2, A3, A4, c1, c2, c3, c4, rfl, -⟩ := hk
  obtain ⟨W0, hW0⟩ : ∃ W, W = w.alloc (.cells #[.int .i64 s.rows, .int .i64 s.nulls, .slice A1 s.hs.length c1, .bool s.ok, .slice A2 s.cm.length c2, .slice A3 s.fs.length c3, .slice A4 s.rk.length c4] 29) := ⟨_, rfl⟩
  have HG0 := hidden (show Grows w W0 by rw [hW0]; exact growK _ _)
  have hS0 : Row W0 w.heap.size 29 [.int .i64 s.rows, .int .i64 s.nulls, .slice A1 s.hs.length c1, .bool s.ok, .slice A2 s.cm.length c2, .slice A3 s.fs.length c3, .slice A4 s.rk.length c4] := by rw [hW0]; exact skrow_new w (.int .i64 s.rows) (.int .i64 s.nulls) (.slice A1 s.hs.length c1) (.bool s.ok) (.slice A2 s.cm.length c2) (.slice A3 s.fs.length c3) (.slice A4 s.rk.length c4)
  have HX : Hid (∀ X, Grows W0 X → X.cell? ⟨w.heap.size, 0, none⟩ = some (.int .i64 s.rows) ∧ X.cell? ⟨w.heap.size, 1, none⟩ = some (.int .i64 s.nulls) ∧ X.cell? ⟨w.heap.size, 2, none⟩ = some (.slice A1 s.hs.length c1) ∧ X.cell? ⟨w.heap.size, 3, none⟩ = some (.bool s.ok) ∧ X.cell? ⟨w.heap.size, 4, none⟩ = some (.slice A2 s.cm.length c2) ∧ X.cell? ⟨w.heap.size, 5, none⟩ = some (.slice A3 s.fs.length c3) ∧ X.cell? ⟨w.heap.size, 6, none⟩ = some (.slice A4 s.rk.length c4)) := hidden fun X h => ⟨(hS0.grow h).cell 0, (hS0.grow h).cell 1, (hS0.grow h).cell 2, (hS0.grow h).cell 3, (hS0.grow h).cell 4, (hS0.grow h).cell 5, (hS0.grow h).cell 6⟩
  have HOUT := hidden (show rvalB s = (decide (0 ≤ s.nulls) && decide (s.nulls ≤ s.rows) && validHB (s.rows - s.nulls) s.hs s.ok && validCB (s.rows - s.nulls) s.cm && rvfB (s.rows - s.nulls) s.fs s.rk) from rfl)
  have HC00 : Hid (Grows W0 W0) := hidden (Below.refl _ _)
  generalize rvalB s = out at *
  obtain ⟨s0, s1, s2, s3, s4, s5, s6⟩ := HX.out W0 HC00.out
  rw [hW0] at s0 s1 s2 s3 s4 s5 s6
  have HW := hidden hW0
  clear hW0 hS0
  by_cases hn0 : s.nulls < 0
  · have d1 : decide (0 ≤ s.nulls) = false := decide_eq_false (by omega)
    have HO := hidden (show out = false by rw [HOUT.out, d1]; simp)
    clear hrow
    go_enter Tryz.func19, Tryz.ntmps19
    go_wp2_with fail
    go_ret
    exact ⟨by rw [HO.out]; first | done | rfl, by rw [← HW.out]; exact HG0.out⟩
  have d1 : decide (0 ≤ s.nulls) = true := decide_eq_true (by omega)
  by_cases hnr : s.rows < s.nulls
  · have d2 : decide (s.nulls ≤ s.rows) = false := decide_eq_false (by omega)
    have HO := hidden (show out = false by rw [HOUT.out, d2]; simp)
    clear hrow
    go_enter Tryz.func19, Tryz.ntmps19
    go_wp2_with fail
    go_ret
    exact ⟨by rw [HO.out]; first | done | rfl, by rw [← HW.out]; exact HG0.out⟩
  have d2 : decide (s.nulls ≤ s.rows) = true := decide_eq_true (by omega)
  rw [d1, d2] at HOUT
  have hb : 0 ≤ s.rows - s.nulls ∧ s.rows - s.nulls ≤ 9223372036854775807 := by omega
  have HVH := hidden (fun X (h : Grows W0 X) => rvalidHashes_any _ s X (HIK.out.grow (HG0.out.of_below h)) hh hb)
  have HVC := hidden (fun X (h : Grows W0 X) => rvalidCounters_any _ s X (HIK.out.grow (HG0.out.of_below h)) hc hb)
  have HVF := hidden (fun X (h : Grows W0 X) => rvalidFences_any _ s X (HIK.out.grow (HG0.out.of_below h)) (by omega) (by omega) hb)
  generalize validHB (s.rows - s.nulls) s.hs s.ok = vh at *
  generalize validCB (s.rows - s.nulls) s.cm = vc at *
  generalize rvfB (s.rows - s.nulls) s.fs s.rk = vf at *
  clear hb hrow hn0 hnr
  cases vh with
  | false =>
    have HO := hidden (show out = false by rw [HOUT.out]; simp)
    clear HOUT
    go_enter Tryz.func19, Tryz.ntmps19
    go_wp2_with (go_at_call 72; rw [← HW.out]; refine (HVH.out W0 HC00.out).mono ?_; rintro e w1 ⟨rfl, gg⟩; have HC1 := hidden (HC00.out.of_below gg); clear gg s0 s1 s2 s3 s4 s5 s6; obtain ⟨s0, s1, s2, s3, s4, s5, s6⟩ := HX.out w1 HC1.out)
    go_ret
    exact ⟨by rw [HO.out]; first | done | rfl, HG0.out.of_below HC1.out⟩
  | true =>
  cases vc with
  | false =>
    have HO := hidden (show out = false by rw [HOUT.out]; simp)
    clear HOUT
    go_enter Tryz.func19, Tryz.ntmps19
    go_wp2_with (first | (go_at_call 72; rw [← HW.out]; refine (HVH.out W0 HC00.out).mono ?_; rintro e w1 ⟨rfl, gg⟩; have HC1 := hidden (HC00.out.of_below gg); clear gg s0 s1 s2 s3 s4 s5 s6; obtain ⟨s0, s1, s2, s3, s4, s5, s6⟩ := HX.out w1 HC1.out) | (go_at_call 73; refine (HVC.out w1 HC1.out).mono ?_; rintro e w2 ⟨rfl, gg⟩; have HC2 := hidden (HC1.out.of_below gg); clear gg s0 s1 s2 s3 s4 s5 s6; obtain ⟨s0, s1, s2, s3, s4, s5, s6⟩ := HX.out w2 HC2.out))
    go_ret
    exact ⟨by rw [HO.out]; first | done | rfl, HG0.out.of_below HC2.out⟩
  | true =>
    have HO := hidden (show out = vf by rw [HOUT.out]; simp)
    clear HOUT
    go_enter Tryz.func19, Tryz.ntmps19
    go_wp2_with (first | (go_at_call 72; rw [← HW.out]; refine (HVH.out W0 HC00.out).mono ?_; rintro e w1 ⟨rfl, gg⟩; have HC1 := hidden (HC00.out.of_below gg); clear gg s0 s1 s2 s3 s4 s5 s6; obtain ⟨s0, s1, s2, s3, s4, s5, s6⟩ := HX.out w1 HC1.out) | (go_at_call 73; refine (HVC.out w1 HC1.out).mono ?_; rintro e w2 ⟨rfl, gg⟩; have HC2 := hidden (HC1.out.of_below gg); clear gg s0 s1 s2 s3 s4 s5 s6; obtain ⟨s0, s1, s2, s3, s4, s5, s6⟩ := HX.out w2 HC2.out) | (go_at_call 74; refine (HVF.out w2 HC2.out).mono ?_; rintro e w3 ⟨rfl, gg⟩; have HC3 := hidden (HC2.out.of_below gg); clear gg s0 s1 s2 s3 s4 s5 s6; obtain ⟨s0, s1, s2, s3, s4, s5, s6⟩ := HX.out w3 HC3.out))
    go_ret
    exact ⟨by rw [HO.out]; first | done | rfl, HG0.out.of_below HC3.out⟩
end Go.Proofs.YtoaklmceejeblaaGreat
