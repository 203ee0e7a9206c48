/-
  The walk of the law BitpackPack: it returns true for every slice of unsigned 64-bit numbers and any two integers; nothing that was there is changed.
-/
import Derived.Test.YtmjfgobopcigoaaBqLawC
namespace Go.Proofs.Ytmjfgobopcigoaa
open Go.RowKit
set_option linter.unusedVariables false
set_option linter.unusedSimpArgs false

set_option maxHeartbeats 2000000 in
theorem law_pack (v : Value) (l : List Nat) (m n : Int) (w : World) (hv : IsW w v l) (hU : U64 l) :
    Calls Try.prog 3 #[v, .int .i64 m, .int .i64 n] w fun e w' => e = .returned (.bool true) ∧ Below w.heap.size w w' := by
  have HV := hidden hv
  have HU := hidden hU
  obtain ⟨A, c, rfl⟩ := hv.slice_
  have HL0 := hidden (grows_lives (Below.refl w.heap.size w))
  clear hv hU
  by_cases hbig : 500 < l.length
  · have hd : decide ((500 : Int) < (l.length : Int)) = true := by simp; omega
    go_enter Try.func3, Try.ntmps3
    go_wp2_with ((go_at_call 8; refine HL0.out.mono ?_; rintro e w2 ⟨rfl, g2⟩))
    go_ret
    exact ⟨rfl, by assumption⟩
  have hd : decide ((500 : Int) < (l.length : Int)) = false := by simp; omega
  have hl5 : l.length ≤ 500 := by omega
  clear hbig
  generalize hpk : packI l m = r at *
  have HPK := hidden hpk
  generalize hws : widL l = W at *
  have HWS := hidden hws
  generalize hss : sizeI n m = Z at *
  have HSS := hidden hss
  clear hpk hws hss
  go_enter Try.func3, Try.ntmps3
  go_wp2_with fail
  refine wp_region_loose (tabRs [(1, ConstV (.int .i64 (W : Int))), (3, ConstV (.int .i64 (W : Int))), (8, ConstV (.int .i64 Z)), (11, ConstV (.int .i64 Z)), (17, BytesV r), (21, BytesV r), (26, ConstV (.bool true))]) (by kernel_rfl) (by kernel_rfl) (tabRs_cons ConstV.lasts (tabRs_cons ConstV.lasts (tabRs_cons ConstV.lasts (tabRs_cons ConstV.lasts (tabRs_cons BytesV.lasts (tabRs_cons BytesV.lasts (tabRs_cons ConstV.lasts tabRs_nil))))))) ?_
  iterate 1 ((with_reducible refine loose_one (v := ?_) (a' := ?_) ?_ ?_ (fun w' hC' hG' => ?_) ?_ ?_); rotate_left 2; (focus rfl); (focus rfl); (focus (clear hC' hG'; go_simp; rfl)); (focus (go_simp; rfl)))
  refine loose_call (R := ConstV (.int .i64 (W : Int))) (f := 9) (args := #[.slice A l.length c]) (by rfl) (by rfl) (fun _ => by go_simp) (fun w' hC' hG' => const_loose0 (HWS.out ▸ width_any _ l w' (HV.out.grow hC') HU.out (by omega))) ?_
  rintro _ ⟨_, _, rfl⟩
  refine ⟨?_, ?_, ?_⟩
  rotate_left
  · go_simp
    rfl
  iterate 1 ((with_reducible refine loose_one (v := ?_) (a' := ?_) ?_ ?_ (fun w' hC' hG' => ?_) ?_ ?_); rotate_left 2; (focus rfl); (focus rfl); (focus (clear hC' hG'; go_simp; rfl)); (focus (go_simp; rfl)))
  refine loose_call (R := ConstV (.int .i64 (W : Int))) (f := 10) (args := #[.slice A l.length c]) (by rfl) (by rfl) (fun _ => by go_simp) (fun w' hC' hG' => const_loose0 (HWS.out ▸ rwidth_any _ l w' (HV.out.grow hC') HU.out (by omega))) ?_
  rintro _ ⟨_, _, rfl⟩
  refine ⟨?_, ?_, ?_⟩
  rotate_left
  · go_simp
    rfl
  iterate 4 ((with_reducible refine loose_one (v := ?_) (a' := ?_) ?_ ?_ (fun w' hC' hG' => ?_) ?_ ?_); rotate_left 2; (focus rfl); (focus rfl); (focus (clear hC' hG'; go_simp; rfl)); (focus (go_simp; rfl)))
  refine loose_call (R := ConstV (.int .i64 Z)) (f := 11) (args := #[.int .i64 n, .int .i64 m]) (by rfl) (by rfl) (fun _ => by go_simp) (fun w' hC' hG' => const_loose0 (HSS.out ▸ size_any n m w')) ?_
  rintro _ ⟨_, _, rfl⟩
  refine ⟨?_, ?_, ?_⟩
  rotate_left
  · go_simp
    rfl
  iterate 2 ((with_reducible refine loose_one (v := ?_) (a' := ?_) ?_ ?_ (fun w' hC' hG' => ?_) ?_ ?_); rotate_left 2; (focus rfl); (focus rfl); (focus (clear hC' hG'; go_simp; rfl)); (focus (go_simp; rfl)))
  refine loose_call (R := ConstV (.int .i64 Z)) (f := 12) (args := #[.int .i64 n, .int .i64 m]) (by rfl) (by rfl) (fun _ => by go_simp) (fun w' hC' hG' => const_loose0 (HSS.out ▸ rsize_any n m w')) ?_
  rintro _ ⟨_, _, rfl⟩
  refine ⟨?_, ?_, ?_⟩
  rotate_left
  · go_simp
    rfl
  iterate 5 ((with_reducible refine loose_one (v := ?_) (a' := ?_) ?_ ?_ (fun w' hC' hG' => ?_) ?_ ?_); rotate_left 2; (focus rfl); (focus rfl); (focus (clear hC' hG'; go_simp; rfl)); (focus (go_simp; rfl)))
  refine loose_call (R := BytesV r) (f := 13) (args := #[.slice A l.length c, .int .i64 m]) (by rfl) (by rfl) (fun _ => by go_simp) (fun w' hC' hG' => pack_loose (HPK.out ▸ pack_any _ l m w' (HV.out.grow hC') HU.out (by omega))) ?_
  intro v7 _
  refine ⟨?_, ?_, ?_⟩
  rotate_left
  · go_simp
    rfl
  refine loose_one (v := ?_) (a' := ?_) (by rfl) (by rfl) (fun w' hC' hG' => ?_) ?_ ?_
  rotate_left 2
  · have hr := run_string_bytes (P := Try.prog) ((show IsBytes w' _ r from (hG' 17 (by kernel_rfl)).2 rfl)) 26 5 Try.underlying26 Try.underlying5 9 Try.underlying9
    clear hC' hG'
    go_simp
    rfl
  · go_simp
    rfl
  iterate 2 ((with_reducible refine loose_one (v := ?_) (a' := ?_) ?_ ?_ (fun w' hC' hG' => ?_) ?_ ?_); rotate_left 2; (focus rfl); (focus rfl); (focus (clear hC' hG'; go_simp; rfl)); (focus (go_simp; rfl)))
  refine loose_call (R := BytesV r) (f := 14) (args := #[.slice A l.length c, .int .i64 m]) (by rfl) (by rfl) (fun _ => by go_simp) (fun w' hC' hG' => pack_loose (HPK.out ▸ rpack_any _ l m w' (HV.out.grow hC') HU.out (by omega))) ?_
  intro v8 _
  refine ⟨?_, ?_, ?_⟩
  rotate_left
  · go_simp
    rfl
  refine loose_one (v := ?_) (a' := ?_) (by rfl) (by rfl) (fun w' hC' hG' => ?_) ?_ ?_
  rotate_left 2
  · have hr := run_string_bytes (P := Try.prog) ((show IsBytes w' _ r from (hG' 21 (by kernel_rfl)).2 rfl)) 26 5 Try.underlying26 Try.underlying5 9 Try.underlying9
    clear hC' hG'
    go_simp
    rfl
  · go_simp
    rfl
  iterate 3 ((with_reducible refine loose_one (v := ?_) (a' := ?_) ?_ ?_ (fun w' hC' hG' => ?_) ?_ ?_); rotate_left 2; (focus rfl); (focus rfl); (focus (clear hC' hG'; go_simp; rfl)); (focus (go_simp; rfl)))
  refine loose_call (R := ConstV (.bool true)) (f := 8) (args := #[]) (by rfl) (by rfl) (fun _ => by go_simp) (fun w' hC' hG' => const_loose (lives_any w')) ?_
  rintro _ ⟨_, _, rfl⟩
  refine ⟨?_, ?_, ?_⟩
  rotate_left
  · go_simp
    rfl
  iterate 2 ((with_reducible refine loose_one (v := ?_) (a' := ?_) ?_ ?_ (fun w' hC' hG' => ?_) ?_ ?_); rotate_left 2; (focus rfl); (focus rfl); (focus (clear hC' hG'; go_simp; rfl)); (focus (go_simp; rfl)))
  refine loose_done (fun w5 hC' hG' => ?_)
  clear hG'
  go_wp2_with fail
  all_goals (go_ret; exact ⟨rfl, hC'⟩)
end Go.Proofs.Ytmjfgobopcigoaa
