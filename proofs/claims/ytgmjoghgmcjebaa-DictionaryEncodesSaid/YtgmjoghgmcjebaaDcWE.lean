/-
  The walk of the law DictionaryEncodes: it returns true for all strings; nothing that was there is changed.
-/
import Derived.Test.YtgmjoghgmcjebaaM14
import Derived.Test.YtgmjoghgmcjebaaDcRE
namespace Go.Proofs.Ytgmjoghgmcjebaa
open Go.RowKit
set_option linter.unusedVariables false
set_option linter.unusedSimpArgs false

theorem small_partsE {l : List Str} (h : smallB l = true) : (∀ s ∈ l, s.length ≤ 4096) ∧ l.length ≤ 300 := by
  unfold smallB at h
  rw [Bool.and_eq_true, List.all_eq_true, decide_eq_true_eq] at h
  exact ⟨fun s hs => by simpa using h.1 s hs, h.2⟩
set_option maxRecDepth 20000 in
set_option maxHeartbeats 8000000 in
theorem law_encodes10 (v : Value) (l : List Str) (w : World) (hv : IsS w v l) (hl : l.length ≤ 9223372036854775806) :
    Calls Try.prog 5 #[v] w fun e w' => e = .returned (.bool true) ∧ Below w.heap.size w w' := by
  have HSM := hidden (small10_any v l w hv hl)
  by_cases hsm : smallB l = true
  rotate_left
  · have hs2 : smallB l = false := by simpa using hsm
    rw [hs2] at HSM
    have HA := hidden (awake10_any w)
    clear hv hsm hs2
    go_enter Try.func5, Try.ntmps5
    go_wp2_with fail
    refine HSM.out.mono ?_
    rintro e w1 ⟨rfl, rfl⟩
    go_wp2_with fail
    refine HA.out.mono ?_
    rintro e w2 ⟨rfl, g2⟩
    go_wp2_with fail
    go_ret
    exact ⟨rfl, g2⟩
  rw [hsm] at HSM
  obtain ⟨hs1, hs2⟩ := small_partsE hsm
  have HRE := hidden (rencode10_any v l w hv (by omega) (fun s h => by have := hs1 s h; omega))
  have HPE := hidden (fun W (h : Grows w W) => encode10_any v l W (hv.grow h) (by omega) (fun s h => by have := hs1 s h; omega))
  have HPS := hidden (fun W (h : Grows w W) => size10_any v l W (hv.grow h) (by omega) (fun s h => by have := hs1 s h; omega))
  have HEL := hidden (encT_len (vs := l) (by omega) (fun s h => by have := hs1 s h; omega))
  generalize encT l = E at *
  have HSE := hidden (show ((strOf E).toList == (strOf E).toList) = true by simp)
  clear hv hs1
  go_enter Try.func5, Try.ntmps5
  go_wp2_with fail
  refine HSM.out.mono ?_
  rintro e w1 ⟨rfl, rfl⟩
  go_wp2_with fail
  refine HRE.out.mono ?_
  rintro e w2 ⟨v2, rfl, hown2, g2⟩
  obtain ⟨A2, c2, rfl⟩ := own_sliceB hown2
  have HG2 := hidden (show Grows w w2 from g2)
  have HB2 := hidden (IsBytes.of_own hown2)
  have HPE := hidden (fun W (h : Grows w2 W) => HPE.out W (HG2.out.of_below h))
  have HPS := hidden (fun W (h : Grows w2 W) => HPS.out W (HG2.out.of_below h))
  clear hown2 g2
  go_wp2_with fail
  refine wp_region_loose (tabRs [(1, BytesV E), (8, ConstV (.int .i64 (E.length : Int))), (14, ConstV (.bool true))]) (by kernel_rfl) (by kernel_rfl) (tabRs_cons BytesV.lasts (tabRs_cons ConstV.lasts (tabRs_cons ConstV.lasts tabRs_nil))) ?_
  iterate 1 ((with_reducible refine loose_one (v := ?_) (a' := ?_) ?_ ?_ (fun w' hC' hG' => ?_) ?_ ?_); rotate_left 2; (focus rfl); (focus rfl); (focus (have hse := HSE.out; clear hC' hG'; go_simp; rfl)); (focus (go_simp; rfl)))
  refine loose_call (R := BytesV E) (f := 22) (args := #[v]) (by rfl) (by rfl) (fun _ => by go_simp) (fun w' hC' hG' => made_loose (HPE.out w' hC')) ?_
  intro v1 _
  refine ⟨?_, ?_, ?_⟩
  rotate_left
  · go_simp
    rfl
  refine loose_one (v := ?_) (a' := ?_) (by rfl) (by rfl) (fun w' hC' hG' => ?_) ?_ ?_
  rotate_left 2
  · have hr := run_string_bytes (P := Try.prog) ((show IsBytes w' _ E from (hG' 1 (by kernel_rfl)).2 rfl)) 40 5 Try.underlying40 Try.underlying5 9 Try.underlying9
    clear hC' hG'
    go_simp
    rfl
  · go_simp
    rfl
  iterate 1 ((with_reducible refine loose_one (v := ?_) (a' := ?_) ?_ ?_ (fun w' hC' hG' => ?_) ?_ ?_); rotate_left 2; (focus rfl); (focus rfl); (focus (have hse := HSE.out; clear hC' hG'; go_simp; rfl)); (focus (go_simp; rfl)))
  refine loose_one (v := ?_) (a' := ?_) (by rfl) (by rfl) (fun w' hC' hG' => ?_) ?_ ?_
  rotate_left 2
  · have hr := run_string_bytes (P := Try.prog) ((show IsBytes w' _ E from HB2.out.grow hC')) 40 5 Try.underlying40 Try.underlying5 9 Try.underlying9
    clear hC' hG'
    go_simp
    rfl
  · go_simp
    rfl
  iterate 3 ((with_reducible refine loose_one (v := ?_) (a' := ?_) ?_ ?_ (fun w' hC' hG' => ?_) ?_ ?_); rotate_left 2; (focus rfl); (focus rfl); (focus (have hse := HSE.out; clear hC' hG'; go_simp; rfl)); (focus (go_simp; rfl)))
  refine loose_call (R := ConstV (.int .i64 (E.length : Int))) (f := 23) (args := #[v]) (by rfl) (by rfl) (fun _ => by go_simp) (fun w' hC' hG' => const_loose (HPS.out w' hC')) ?_
  rintro _ ⟨_, _, rfl⟩
  refine ⟨?_, ?_, ?_⟩
  rotate_left
  · go_simp
    rfl
  iterate 5 ((with_reducible refine loose_one (v := ?_) (a' := ?_) ?_ ?_ (fun w' hC' hG' => ?_) ?_ ?_); rotate_left 2; (focus rfl); (focus rfl); (focus (have hse := HSE.out; clear hC' hG'; go_simp; rfl)); (focus (go_simp; rfl)))
  refine loose_call (R := ConstV (.bool true)) (f := 9) (args := #[]) (by rfl) (by rfl) (fun _ => by go_simp) (fun w' hC' hG' => const_loose (awake10_any w')) ?_
  rintro _ ⟨_, _, rfl⟩
  refine ⟨?_, ?_, ?_⟩
  rotate_left
  · go_simp
    rfl
  iterate 2 ((with_reducible refine loose_one (v := ?_) (a' := ?_) ?_ ?_ (fun w' hC' hG' => ?_) ?_ ?_); rotate_left 2; (focus rfl); (focus rfl); (focus (have hse := HSE.out; clear hC' hG'; go_simp; rfl)); (focus (go_simp; rfl)))
  refine loose_done (fun w5 hC' hG' => ?_)
  have HG5 := hidden (HG2.out.of_below hC')
  clear hG' hC'
  go_wp2_with fail
  go_ret
  exact ⟨rfl, HG5.out⟩
end Go.Proofs.Ytgmjoghgmcjebaa
