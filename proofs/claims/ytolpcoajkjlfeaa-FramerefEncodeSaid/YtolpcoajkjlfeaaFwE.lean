/-
  The walk of the law FramerefEncode: it returns true for all values; nothing that was there is changed.
-/
import Derived.Test.YtolpcoajkjlfeaaFw0
import Derived.Test.YtolpcoajkjlfeaaFr2
namespace Go.Proofs.Ytolpcoajkjlfeaa
open Go.RowKit
set_option linter.unusedVariables false
set_option linter.unusedSimpArgs false

set_option maxRecDepth 20000 in
set_option maxHeartbeats 4000000 in
theorem law_encode (v : Value) (l : List Int) (w : World) (hv : IsI w v l) (hin : ∀ x ∈ l, frIn x) (hlm : l.length ≤ 9223372036854775806) :
    Calls Try.prog 3 #[v] w fun e w' => e = .returned (.bool true) ∧ Below w.heap.size w w' := by
  have HA0 := hidden (awakeF_any w)
  have HV := hidden hv
  obtain ⟨A, c, rfl⟩ := hv.slice_
  clear hv
  by_cases hbig : 300 < l.length
  · have hd : decide ((300 : Int) < (l.length : Int)) = true := by simp; omega
    clear hbig
    go_enter Try.func3, Try.ntmps3
    go_wp2_with fail
    refine HA0.out.mono ?_
    rintro e w1 ⟨rfl, g1⟩
    go_wp2_with fail
    go_ret
    exact ⟨rfl, g1⟩
  have hd : decide ((300 : Int) < (l.length : Int)) = false := by simp; omega
  have hl3 : l.length ≤ 65536 := by omega
  have HPB := hidden (best_any (.slice A l.length c) l w HV.out hl3 hin)
  have HRB := hidden (fun w' (h : Grows w w') => rbest_any (.slice A l.length c) l w' (IsI.grow HV.out h) hl3 hin)
  have HPE0 := hidden (fun w' (h : Grows w w') => lencodeF_any (.slice A l.length c) l w' (IsI.grow HV.out h) hl3 hin)
  have HRE0 := hidden (fun w' (h : Grows w w') => rencodeF_any (.slice A l.length c) l w' (IsI.grow HV.out h) hl3 hin)
  have HPS0 := hidden (fun w' (h : Grows w w') => size_anyF (.slice A l.length c) l w' (IsI.grow HV.out h) hl3 hin)
  have HRS0 := hidden (fun w' (h : Grows w w') => rsizeF_any (.slice A l.length c) l w' (IsI.grow HV.out h) hl3 hin)
  generalize encV l = E at *
  generalize sizeV l = s at *
  generalize bestW l = bw at *
  generalize baseV l = b0 at *
  have HSE := hidden (strOf_self E)
  clear hbig
  go_enter Try.func3, Try.ntmps3
  go_wp2_with fail
  refine HPB.out.mono ?_
  rintro e w1 ⟨rfl, g1⟩
  have HG1 := hidden g1
  clear g1
  go_wp2_with fail
  refine (HRB.out w1 HG1.out).mono ?_
  rintro e w2 ⟨rfl, g2⟩
  have HG2 := hidden (HG1.out.of_below g2)
  clear g2
  have HPE := hidden (fun w' (h : Grows w2 w') => HPE0.out w' (HG2.out.of_below h))
  have HRE := hidden (fun w' (h : Grows w2 w') => HRE0.out w' (HG2.out.of_below h))
  have HPS := hidden (fun w' (h : Grows w2 w') => HPS0.out w' (HG2.out.of_below h))
  have HRS := hidden (fun w' (h : Grows w2 w') => HRS0.out w' (HG2.out.of_below h))
  go_wp2_with fail
  refine wp_region_loose (tabRs [(10, BytesV E), (13, BytesV E), (19, ConstV (.int .i64 (s : Int))), (21, ConstV (.int .i64 (s : Int))), (25, ConstV (.bool true))]) (by kernel_rfl) (by kernel_rfl) (tabRs_cons BytesV.lasts (tabRs_cons BytesV.lasts (tabRs_cons ConstV.lasts (tabRs_cons ConstV.lasts (tabRs_cons ConstV.lasts tabRs_nil))))) ?_
  iterate 10 ((with_reducible refine loose_one (v := ?_) (a' := ?_) ?_ ?_ (fun w' hC' hG' => ?_) ?_ ?_); rotate_left 2; (focus rfl); (focus rfl); (focus (have hse := HSE.out; clear hC' hG'; go_simp; rfl)); (focus (go_simp; rfl)))
  refine loose_call (R := BytesV E) (f := 11) (args := #[.slice A l.length c]) (by rfl) (by rfl) (fun _ => by go_simp) (fun w' hC' hG' => byr_loose (HPE.out w' hC')) ?_
  intro v7 _
  refine ⟨?_, ?_, ?_⟩
  rotate_left
  · go_simp
    rfl
  refine loose_one (v := ?_) (a' := ?_) (by rfl) (by rfl) (fun w' hC' hG' => ?_) ?_ ?_
  rotate_left 2
  · have hr := run_string_bytes (P := Try.prog) ((show IsBytes w' _ E from (hG' 10 (by kernel_rfl)).2 rfl)) 26 5 Try.underlying26 Try.underlying5 9 Try.underlying9
    clear hC' hG'
    go_simp
    rfl
  · go_simp
    rfl
  iterate 1 ((with_reducible refine loose_one (v := ?_) (a' := ?_) ?_ ?_ (fun w' hC' hG' => ?_) ?_ ?_); rotate_left 2; (focus rfl); (focus rfl); (focus (have hse := HSE.out; clear hC' hG'; go_simp; rfl)); (focus (go_simp; rfl)))
  refine loose_call (R := BytesV E) (f := 12) (args := #[.slice A l.length c]) (by rfl) (by rfl) (fun _ => by go_simp) (fun w' hC' hG' => byr_loose (HRE.out w' hC')) ?_
  intro v8 _
  refine ⟨?_, ?_, ?_⟩
  rotate_left
  · go_simp
    rfl
  refine loose_one (v := ?_) (a' := ?_) (by rfl) (by rfl) (fun w' hC' hG' => ?_) ?_ ?_
  rotate_left 2
  · have hr := run_string_bytes (P := Try.prog) ((show IsBytes w' _ E from (hG' 13 (by kernel_rfl)).2 rfl)) 26 5 Try.underlying26 Try.underlying5 9 Try.underlying9
    clear hC' hG'
    go_simp
    rfl
  · go_simp
    rfl
  iterate 4 ((with_reducible refine loose_one (v := ?_) (a' := ?_) ?_ ?_ (fun w' hC' hG' => ?_) ?_ ?_); rotate_left 2; (focus rfl); (focus rfl); (focus (have hse := HSE.out; clear hC' hG'; go_simp; rfl)); (focus (go_simp; rfl)))
  refine loose_call (R := ConstV (.int .i64 (s : Int))) (f := 13) (args := #[.slice A l.length c]) (by rfl) (by rfl) (fun _ => by go_simp) (fun w' hC' hG' => const_loose (HPS.out w' hC')) ?_
  rintro _ ⟨_, _, rfl⟩
  refine ⟨?_, ?_, ?_⟩
  rotate_left
  · go_simp
    rfl
  iterate 1 ((with_reducible refine loose_one (v := ?_) (a' := ?_) ?_ ?_ (fun w' hC' hG' => ?_) ?_ ?_); rotate_left 2; (focus rfl); (focus rfl); (focus (have hse := HSE.out; clear hC' hG'; go_simp; rfl)); (focus (go_simp; rfl)))
  refine loose_call (R := ConstV (.int .i64 (s : Int))) (f := 14) (args := #[.slice A l.length c]) (by rfl) (by rfl) (fun _ => by go_simp) (fun w' hC' hG' => const_loose (HRS.out w' hC')) ?_
  rintro _ ⟨_, _, rfl⟩
  refine ⟨?_, ?_, ?_⟩
  rotate_left
  · go_simp
    rfl
  iterate 3 ((with_reducible refine loose_one (v := ?_) (a' := ?_) ?_ ?_ (fun w' hC' hG' => ?_) ?_ ?_); rotate_left 2; (focus rfl); (focus rfl); (focus (have hse := HSE.out; clear hC' hG'; go_simp; rfl)); (focus (go_simp; rfl)))
  refine loose_call (R := ConstV (.bool true)) (f := 8) (args := #[]) (by rfl) (by rfl) (fun _ => by go_simp) (fun w' hC' hG' => const_loose (awakeF_any w')) ?_
  rintro _ ⟨_, _, rfl⟩
  refine ⟨?_, ?_, ?_⟩
  rotate_left
  · go_simp
    rfl
  iterate 2 ((with_reducible refine loose_one (v := ?_) (a' := ?_) ?_ ?_ (fun w' hC' hG' => ?_) ?_ ?_); rotate_left 2; (focus rfl); (focus rfl); (focus (have hse := HSE.out; clear hC' hG'; go_simp; rfl)); (focus (go_simp; rfl)))
  refine loose_done (fun w5 hC' hG' => ?_)
  clear hG'
  have hse := HSE.out
  have HG5 := hidden (HG2.out.of_below hC')
  clear hC'
  go_wp2_with fail
  go_ret
  exact ⟨rfl, HG5.out⟩
end Go.Proofs.Ytolpcoajkjlfeaa
