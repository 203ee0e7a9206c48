/-
  The walk of the law FrontcodeEncode: it returns true for all strings; nothing that was there is changed.
-/
import Derived.Test.YtcpdgkjelghlnaaFcB
import Derived.Test.YtcpdgkjelghlnaaFc8
import Derived.Test.YtcpdgkjelghlnaaFc3
namespace Go.Proofs.Ytcpdgkjelghlnaa
open Go.RowKit
set_option linter.unusedVariables false
set_option linter.unusedSimpArgs false

set_option maxRecDepth 20000 in
set_option maxHeartbeats 8000000 in
theorem law_encode11 (v : Value) (l : List Str) (a b : Str) (w : World) (hv : IsS w v l) (hl : l.length ≤ 9223372036854775806) (ha : a.length ≤ 140737488351232) (hb : b.length ≤ 140737488351232) :
    Calls Try.prog 3 #[v, .string (strOf a), .string (strOf b)] w fun e w' => e = .returned (.bool true) ∧ Below w.heap.size w w' := by
  have HSM := hidden (small11_any v l w hv hl)
  have HCP := hidden (fun W => cp_grow a b W (by omega) (by omega))
  have HRC := hidden (fun W => rcp_grow a b W (by omega) (by omega))
  have hsa : (strOf a).size = a.length := rfl
  have hsb : (strOf b).size = b.length := rfl
  obtain ⟨C, hC⟩ : ∃ C, C = cp a b := ⟨_, rfl⟩
  rw [← hC] at HCP HRC
  clear hC
  generalize strOf a = ta at *
  generalize strOf b = tb at *
  by_cases hsm : smallB l = true
  rotate_left
  · have hs2 : smallB l = false := by simpa using hsm
    rw [hs2] at HSM
    clear hv hsm hs2
    go_enter Try.func3, Try.ntmps3
    go_wp2_with fail
    refine HSM.out.mono ?_
    rintro e w1 ⟨rfl, rfl⟩
    go_wp2_with fail
    refine (awake11_any _).mono ?_
    rintro e w2 ⟨rfl, g2⟩
    go_wp2_with fail
    go_ret
    exact ⟨rfl, g2⟩
  rw [hsm] at HSM
  obtain ⟨hs1, hs2⟩ := small_parts hsm
  by_cases hba : 100 < a.length
  · have hd1 : decide ((100 : Int) < (a.length : Int)) = true := by simp; omega
    clear hv hsm hs1
    go_enter Try.func3, Try.ntmps3
    go_wp2_with fail
    refine HSM.out.mono ?_
    rintro e w1 ⟨rfl, rfl⟩
    go_wp2_with fail
    refine (awake11_any _).mono ?_
    rintro e w2 ⟨rfl, g2⟩
    go_wp2_with fail
    go_ret
    exact ⟨rfl, g2⟩
  have hd1 : decide ((100 : Int) < (a.length : Int)) = false := by simp; omega
  by_cases hbb : 100 < b.length
  · have hd2 : decide ((100 : Int) < (b.length : Int)) = true := by simp; omega
    clear hv hsm hs1
    go_enter Try.func3, Try.ntmps3
    go_wp2_with fail
    refine HSM.out.mono ?_
    rintro e w1 ⟨rfl, rfl⟩
    go_wp2_with fail
    refine (awake11_any _).mono ?_
    rintro e w2 ⟨rfl, g2⟩
    go_wp2_with fail
    go_ret
    exact ⟨rfl, g2⟩
  have hd2 : decide ((100 : Int) < (b.length : Int)) = false := by simp; omega
  have HPE := hidden (fun W (h : Grows w W) => fencode_any v l W (hv.grow h) (by omega) (fun s h => by have := hs1 s h; omega))
  have HRE := hidden (fun W (h : Grows w W) => rfencode_any v l W (hv.grow h) (by omega) (fun s h => by have := hs1 s h; omega))
  have HPS := hidden (fun W (h : Grows w W) => fsize_any v l W (hv.grow h) (by omega) (fun s h => by have := hs1 s h; omega))
  have HRS := hidden (fun W (h : Grows w W) => rfsize_any v l W (hv.grow h) (by omega) (fun s h => by have := hs1 s h; omega))
  generalize fcEnc l = E at *
  have HSE := hidden (show ((strOf E).toList == (strOf E).toList) = true by simp)
  clear hv hs1 hsm hba hbb
  go_enter Try.func3, Try.ntmps3
  go_wp2_with fail
  refine HSM.out.mono ?_
  rintro e w1 ⟨rfl, rfl⟩
  go_wp2_with fail
  refine wp_region_loose (tabRs [(2, ConstV (.int .i64 (C : Int))), (5, ConstV (.int .i64 (C : Int))), (9, BytesV E), (12, BytesV E), (18, ConstV (.int .i64 (E.length : Int))), (20, ConstV (.int .i64 (E.length : Int))), (24, ConstV (.bool true))]) (by kernel_rfl) (by kernel_rfl) (tabRs_cons ConstV.lasts (tabRs_cons ConstV.lasts (tabRs_cons BytesV.lasts (tabRs_cons BytesV.lasts (tabRs_cons ConstV.lasts (tabRs_cons ConstV.lasts (tabRs_cons ConstV.lasts tabRs_nil))))))) ?_
  iterate 2 ((with_reducible refine loose_one (v := ?_) (a' := ?_) ?_ ?_ (fun w' hC' hG' => ?_) ?_ ?_); rotate_left 2; (focus rfl); (focus rfl); (focus (have hse := HSE.out; clear hC' hG'; go_simp; rfl)); (focus (go_simp; rfl)))
  refine loose_call (R := ConstV (.int .i64 (C : Int))) (f := 10) (args := #[.string ta, .string tb]) (by rfl) (by rfl) (fun _ => by go_simp) (fun w' hC' hG' => const_loose (HCP.out w')) ?_
  rintro _ ⟨_, _, rfl⟩
  refine ⟨?_, ?_, ?_⟩
  rotate_left
  · go_simp
    rfl
  iterate 2 ((with_reducible refine loose_one (v := ?_) (a' := ?_) ?_ ?_ (fun w' hC' hG' => ?_) ?_ ?_); rotate_left 2; (focus rfl); (focus rfl); (focus (have hse := HSE.out; clear hC' hG'; go_simp; rfl)); (focus (go_simp; rfl)))
  refine loose_call (R := ConstV (.int .i64 (C : Int))) (f := 11) (args := #[.string ta, .string tb]) (by rfl) (by rfl) (fun _ => by go_simp) (fun w' hC' hG' => const_loose (HRC.out w')) ?_
  rintro _ ⟨_, _, rfl⟩
  refine ⟨?_, ?_, ?_⟩
  rotate_left
  · go_simp
    rfl
  iterate 3 ((with_reducible refine loose_one (v := ?_) (a' := ?_) ?_ ?_ (fun w' hC' hG' => ?_) ?_ ?_); rotate_left 2; (focus rfl); (focus rfl); (focus (have hse := HSE.out; clear hC' hG'; go_simp; rfl)); (focus (go_simp; rfl)))
  refine loose_call (R := BytesV E) (f := 12) (args := #[v]) (by rfl) (by rfl) (fun _ => by go_simp) (fun w' hC' hG' => made_loose (HPE.out w' hC')) ?_
  intro v1 _
  refine ⟨?_, ?_, ?_⟩
  rotate_left
  · go_simp
    rfl
  refine loose_one (v := ?_) (a' := ?_) (by rfl) (by rfl) (fun w' hC' hG' => ?_) ?_ ?_
  rotate_left 2
  · have hr := run_string_bytes (P := Try.prog) ((show IsBytes w' _ E from (hG' 9 (by kernel_rfl)).2 rfl)) 26 5 Try.underlying26 Try.underlying5 9 Try.underlying9
    clear hC' hG'
    go_simp
    rfl
  · go_simp
    rfl
  iterate 1 ((with_reducible refine loose_one (v := ?_) (a' := ?_) ?_ ?_ (fun w' hC' hG' => ?_) ?_ ?_); rotate_left 2; (focus rfl); (focus rfl); (focus (have hse := HSE.out; clear hC' hG'; go_simp; rfl)); (focus (go_simp; rfl)))
  refine loose_call (R := BytesV E) (f := 13) (args := #[v]) (by rfl) (by rfl) (fun _ => by go_simp) (fun w' hC' hG' => made_loose (HRE.out w' hC')) ?_
  intro v2 _
  refine ⟨?_, ?_, ?_⟩
  rotate_left
  · go_simp
    rfl
  refine loose_one (v := ?_) (a' := ?_) (by rfl) (by rfl) (fun w' hC' hG' => ?_) ?_ ?_
  rotate_left 2
  · have hr := run_string_bytes (P := Try.prog) ((show IsBytes w' _ E from (hG' 12 (by kernel_rfl)).2 rfl)) 26 5 Try.underlying26 Try.underlying5 9 Try.underlying9
    clear hC' hG'
    go_simp
    rfl
  · go_simp
    rfl
  iterate 4 ((with_reducible refine loose_one (v := ?_) (a' := ?_) ?_ ?_ (fun w' hC' hG' => ?_) ?_ ?_); rotate_left 2; (focus rfl); (focus rfl); (focus (have hse := HSE.out; clear hC' hG'; go_simp; rfl)); (focus (go_simp; rfl)))
  refine loose_call (R := ConstV (.int .i64 (E.length : Int))) (f := 14) (args := #[v]) (by rfl) (by rfl) (fun _ => by go_simp) (fun w' hC' hG' => const_loose (HPS.out w' hC')) ?_
  rintro _ ⟨_, _, rfl⟩
  refine ⟨?_, ?_, ?_⟩
  rotate_left
  · go_simp
    rfl
  iterate 1 ((with_reducible refine loose_one (v := ?_) (a' := ?_) ?_ ?_ (fun w' hC' hG' => ?_) ?_ ?_); rotate_left 2; (focus rfl); (focus rfl); (focus (have hse := HSE.out; clear hC' hG'; go_simp; rfl)); (focus (go_simp; rfl)))
  refine loose_call (R := ConstV (.int .i64 (E.length : Int))) (f := 15) (args := #[v]) (by rfl) (by rfl) (fun _ => by go_simp) (fun w' hC' hG' => const_loose (HRS.out w' hC')) ?_
  rintro _ ⟨_, _, rfl⟩
  refine ⟨?_, ?_, ?_⟩
  rotate_left
  · go_simp
    rfl
  iterate 3 ((with_reducible refine loose_one (v := ?_) (a' := ?_) ?_ ?_ (fun w' hC' hG' => ?_) ?_ ?_); rotate_left 2; (focus rfl); (focus rfl); (focus (have hse := HSE.out; clear hC' hG'; go_simp; rfl)); (focus (go_simp; rfl)))
  refine loose_call (R := ConstV (.bool true)) (f := 9) (args := #[]) (by rfl) (by rfl) (fun _ => by go_simp) (fun w' hC' hG' => const_loose (awake11_any w')) ?_
  rintro _ ⟨_, _, rfl⟩
  refine ⟨?_, ?_, ?_⟩
  rotate_left
  · go_simp
    rfl
  iterate 2 ((with_reducible refine loose_one (v := ?_) (a' := ?_) ?_ ?_ (fun w' hC' hG' => ?_) ?_ ?_); rotate_left 2; (focus rfl); (focus rfl); (focus (have hse := HSE.out; clear hC' hG'; go_simp; rfl)); (focus (go_simp; rfl)))
  refine loose_done (fun w5 hC' hG' => ?_)
  have HG5 := hidden (show Grows w w5 from hC')
  clear hG' hC'
  go_wp2_with fail
  go_ret
  exact ⟨rfl, HG5.out⟩
end Go.Proofs.Ytcpdgkjelghlnaa
