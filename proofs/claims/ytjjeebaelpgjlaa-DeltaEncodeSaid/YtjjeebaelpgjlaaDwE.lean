/-
  The walk of the law DeltaEncode: it returns true for all values; nothing that was there is changed.
-/
import Derived.Test.YtjjeebaelpgjlaaDw0
namespace Go.Proofs.Ytjjeebaelpgjlaa
open Go.RowKit
set_option linter.unusedVariables false
set_option linter.unusedSimpArgs false

set_option maxRecDepth 20000 in
set_option maxHeartbeats 8000000 in
theorem law_encode9 (v : Value) (l : List Int) (x : Int) (w : World) (hv : IsI w v l) (hin : ∀ x ∈ l, frIn x) (hlm : l.length ≤ 9223372036854775806) :
    Calls Try.prog 3 #[v, .int .i64 x] w fun e w' => e = .returned (.bool true) ∧ Below w.heap.size w w' := by
  have HA0 := hidden (lives_any w)
  have HV := hidden hv
  obtain ⟨A, c, rfl⟩ := hv.slice_
  clear hv
  by_cases hbig : 300 < l.length
  · have hd : decide ((300 : Int) < (l.length : Int)) = true := by simp; omega
    clear hbig
    go_enter Try.func3, Try.ntmps3
    go_wp2_with fail
    refine HA0.out.mono ?_
    rintro e w1 ⟨rfl, g1⟩
    go_wp2_with fail
    go_ret
    exact ⟨rfl, g1⟩
  have hd : decide ((300 : Int) < (l.length : Int)) = false := by simp; omega
  have hl3 : l.length ≤ 65536 := by omega
  have hl4 : l.length ≤ 1000000 := by omega
  have HPD := hidden (fun w' (h : Grows w w') => diff_any (.slice A l.length c) l w' (IsI.grow HV.out h) hl4)
  have HRD := hidden (fun w' (h : Grows w w') => rdiff_any (.slice A l.length c) l w' (IsI.grow HV.out h) hl4)
  have HPP := hidden (fun w' (h : Grows w w') => ps_any x (.slice A l.length c) l w' (IsI.grow HV.out h) hl4)
  have HRP := hidden (fun w' (h : Grows w w') => rps_any x (.slice A l.length c) l w' (IsI.grow HV.out h) hl4)
  have HPE := hidden (fun w' (h : Grows w w') => enc9_any (.slice A l.length c) l w' (IsI.grow HV.out h) hl3 hin)
  have HRE := hidden (fun w' (h : Grows w w') => renc_any (.slice A l.length c) l w' (IsI.grow HV.out h) hl3 hin)
  have HPS := hidden (fun w' (h : Grows w w') => size9_any (.slice A l.length c) l w' (IsI.grow HV.out h) hl3 hin)
  have HRS := hidden (fun w' (h : Grows w w') => rsize_any9 (.slice A l.length c) l w' (IsI.grow HV.out h) hl3 hin)
  have HDL := hidden (show (dfL l).length ≤ 1000000 by rw [dfL_length]; omega)
  have HPL := hidden (show (psL x l).length ≤ 1000000 by rw [psL_length]; omega)
  have HEQ := hidden requal_self
  obtain ⟨s, hs⟩ : ∃ s, s = (dlEnc l).length := ⟨_, rfl⟩
  rw [← hs] at HPS HRS
  clear hs
  generalize dlEnc l = E at *
  generalize dfL l = D at *
  generalize psL x l = PS at *
  have HSE := hidden (strOf_self E)
  clear hbig hin
  go_enter Try.func3, Try.ntmps3
  go_wp2_with fail
  refine wp_region_loose (tabRs [(1, IntsV D), (3, IntsV D), (4, ConstV (.bool true)), (8, IntsV PS), (11, IntsV PS), (12, ConstV (.bool true)), (16, BytesV E), (19, BytesV E), (25, ConstV (.int .i64 (s : Int))), (27, ConstV (.int .i64 (s : Int))), (31, ConstV (.bool true))]) (by kernel_rfl) (by kernel_rfl) (tabRs_cons IntsV.lasts (tabRs_cons IntsV.lasts (tabRs_cons ConstV.lasts (tabRs_cons IntsV.lasts (tabRs_cons IntsV.lasts (tabRs_cons ConstV.lasts (tabRs_cons BytesV.lasts (tabRs_cons BytesV.lasts (tabRs_cons ConstV.lasts (tabRs_cons ConstV.lasts (tabRs_cons ConstV.lasts tabRs_nil))))))))))) ?_
  iterate 1 ((with_reducible refine loose_one (v := ?_) (a' := ?_) ?_ ?_ (fun w' hC' hG' => ?_) ?_ ?_); rotate_left 2; (focus rfl); (focus rfl); (focus (have hse := HSE.out; clear hC' hG'; go_simp; rfl)); (focus (go_simp; rfl)))
  refine loose_call (R := IntsV D) (f := 10) (args := #[.slice A l.length c]) (by rfl) (by rfl) (fun _ => by go_simp) (fun w' hC' hG' => inr_loose (HPD.out w' hC')) ?_
  intro v1 _
  refine ⟨?_, ?_, ?_⟩
  rotate_left
  · go_simp
    rfl
  iterate 1 ((with_reducible refine loose_one (v := ?_) (a' := ?_) ?_ ?_ (fun w' hC' hG' => ?_) ?_ ?_); rotate_left 2; (focus rfl); (focus rfl); (focus (have hse := HSE.out; clear hC' hG'; go_simp; rfl)); (focus (go_simp; rfl)))
  refine loose_call (R := IntsV D) (f := 11) (args := #[.slice A l.length c]) (by rfl) (by rfl) (fun _ => by go_simp) (fun w' hC' hG' => inr_loose (HRD.out w' hC')) ?_
  intro v3 _
  refine ⟨?_, ?_, ?_⟩
  rotate_left
  · go_simp
    rfl
  refine loose_call (R := ConstV (.bool true)) (f := 9) (args := #[v1, v3]) (by rfl) (by rfl) (fun _ => by go_simp) (fun w' hC' hG' => const_loose (HEQ.out v1 v3 D w' ((hG' 1 (by kernel_rfl)).1.2 rfl) ((hG' 3 (by kernel_rfl)).2 rfl) (by have := HDL.out; omega))) ?_
  rintro _ ⟨_, _, rfl⟩
  refine ⟨?_, ?_, ?_⟩
  rotate_left
  · go_simp
    rfl
  iterate 3 ((with_reducible refine loose_one (v := ?_) (a' := ?_) ?_ ?_ (fun w' hC' hG' => ?_) ?_ ?_); rotate_left 2; (focus rfl); (focus rfl); (focus (have hse := HSE.out; clear hC' hG'; go_simp; rfl)); (focus (go_simp; rfl)))
  refine loose_call (R := IntsV PS) (f := 12) (args := #[.int .i64 x, .slice A l.length c]) (by rfl) (by rfl) (fun _ => by go_simp) (fun w' hC' hG' => inr_loose (HPP.out w' hC')) ?_
  intro v8 _
  refine ⟨?_, ?_, ?_⟩
  rotate_left
  · go_simp
    rfl
  iterate 2 ((with_reducible refine loose_one (v := ?_) (a' := ?_) ?_ ?_ (fun w' hC' hG' => ?_) ?_ ?_); rotate_left 2; (focus rfl); (focus rfl); (focus (have hse := HSE.out; clear hC' hG'; go_simp; rfl)); (focus (go_simp; rfl)))
  refine loose_call (R := IntsV PS) (f := 13) (args := #[.int .i64 x, .slice A l.length c]) (by rfl) (by rfl) (fun _ => by go_simp) (fun w' hC' hG' => inr_loose (HRP.out w' hC')) ?_
  intro v11 _
  refine ⟨?_, ?_, ?_⟩
  rotate_left
  · go_simp
    rfl
  refine loose_call (R := ConstV (.bool true)) (f := 9) (args := #[v8, v11]) (by rfl) (by rfl) (fun _ => by go_simp) (fun w' hC' hG' => const_loose (HEQ.out v8 v11 PS w' ((hG' 8 (by kernel_rfl)).1.2 rfl) ((hG' 11 (by kernel_rfl)).2 rfl) (by have := HPL.out; omega))) ?_
  rintro _ ⟨_, _, rfl⟩
  refine ⟨?_, ?_, ?_⟩
  rotate_left
  · go_simp
    rfl
  iterate 3 ((with_reducible refine loose_one (v := ?_) (a' := ?_) ?_ ?_ (fun w' hC' hG' => ?_) ?_ ?_); rotate_left 2; (focus rfl); (focus rfl); (focus (have hse := HSE.out; clear hC' hG'; go_simp; rfl)); (focus (go_simp; rfl)))
  refine loose_call (R := BytesV E) (f := 14) (args := #[.slice A l.length c]) (by rfl) (by rfl) (fun _ => by go_simp) (fun w' hC' hG' => byr_loose (HPE.out w' hC')) ?_
  intro v16 _
  refine ⟨?_, ?_, ?_⟩
  rotate_left
  · go_simp
    rfl
  refine loose_one (v := ?_) (a' := ?_) (by rfl) (by rfl) (fun w' hC' hG' => ?_) ?_ ?_
  rotate_left 2
  · have hr := run_string_bytes (P := Try.prog) ((show IsBytes w' _ E from (hG' 16 (by kernel_rfl)).2 rfl)) 27 5 Try.underlying27 Try.underlying5 9 Try.underlying9
    clear hC' hG'
    go_simp
    rfl
  · go_simp
    rfl
  iterate 1 ((with_reducible refine loose_one (v := ?_) (a' := ?_) ?_ ?_ (fun w' hC' hG' => ?_) ?_ ?_); rotate_left 2; (focus rfl); (focus rfl); (focus (have hse := HSE.out; clear hC' hG'; go_simp; rfl)); (focus (go_simp; rfl)))
  refine loose_call (R := BytesV E) (f := 15) (args := #[.slice A l.length c]) (by rfl) (by rfl) (fun _ => by go_simp) (fun w' hC' hG' => byr_loose (HRE.out w' hC')) ?_
  intro v19 _
  refine ⟨?_, ?_, ?_⟩
  rotate_left
  · go_simp
    rfl
  refine loose_one (v := ?_) (a' := ?_) (by rfl) (by rfl) (fun w' hC' hG' => ?_) ?_ ?_
  rotate_left 2
  · have hr := run_string_bytes (P := Try.prog) ((show IsBytes w' _ E from (hG' 19 (by kernel_rfl)).2 rfl)) 27 5 Try.underlying27 Try.underlying5 9 Try.underlying9
    clear hC' hG'
    go_simp
    rfl
  · go_simp
    rfl
  iterate 4 ((with_reducible refine loose_one (v := ?_) (a' := ?_) ?_ ?_ (fun w' hC' hG' => ?_) ?_ ?_); rotate_left 2; (focus rfl); (focus rfl); (focus (have hse := HSE.out; clear hC' hG'; go_simp; rfl)); (focus (go_simp; rfl)))
  refine loose_call (R := ConstV (.int .i64 (s : Int))) (f := 16) (args := #[.slice A l.length c]) (by rfl) (by rfl) (fun _ => by go_simp) (fun w' hC' hG' => const_loose (HPS.out w' hC')) ?_
  rintro _ ⟨_, _, rfl⟩
  refine ⟨?_, ?_, ?_⟩
  rotate_left
  · go_simp
    rfl
  iterate 1 ((with_reducible refine loose_one (v := ?_) (a' := ?_) ?_ ?_ (fun w' hC' hG' => ?_) ?_ ?_); rotate_left 2; (focus rfl); (focus rfl); (focus (have hse := HSE.out; clear hC' hG'; go_simp; rfl)); (focus (go_simp; rfl)))
  refine loose_call (R := ConstV (.int .i64 (s : Int))) (f := 17) (args := #[.slice A l.length c]) (by rfl) (by rfl) (fun _ => by go_simp) (fun w' hC' hG' => const_loose (HRS.out w' hC')) ?_
  rintro _ ⟨_, _, rfl⟩
  refine ⟨?_, ?_, ?_⟩
  rotate_left
  · go_simp
    rfl
  iterate 3 ((with_reducible refine loose_one (v := ?_) (a' := ?_) ?_ ?_ (fun w' hC' hG' => ?_) ?_ ?_); rotate_left 2; (focus rfl); (focus rfl); (focus (have hse := HSE.out; clear hC' hG'; go_simp; rfl)); (focus (go_simp; rfl)))
  refine loose_call (R := ConstV (.bool true)) (f := 8) (args := #[]) (by rfl) (by rfl) (fun _ => by go_simp) (fun w' hC' hG' => const_loose (lives_any w')) ?_
  rintro _ ⟨_, _, rfl⟩
  refine ⟨?_, ?_, ?_⟩
  rotate_left
  · go_simp
    rfl
  iterate 2 ((with_reducible refine loose_one (v := ?_) (a' := ?_) ?_ ?_ (fun w' hC' hG' => ?_) ?_ ?_); rotate_left 2; (focus rfl); (focus rfl); (focus (have hse := HSE.out; clear hC' hG'; go_simp; rfl)); (focus (go_simp; rfl)))
  refine loose_done (fun w5 hC' hG' => ?_)
  clear hG'
  have hse := HSE.out
  have HG5 := hidden hC'
  clear hC'
  go_wp2_with fail
  go_ret
  exact ⟨rfl, HG5.out⟩
end Go.Proofs.Ytjjeebaelpgjlaa
