/-
  The walk of the law BitpackCanonical: it returns true for all bytes and any two integers; nothing that was there is changed.
-/
import Derived.Test.YtmjfgobopcigoaaBq8
namespace Go.Proofs.Ytmjfgobopcigoaa
open Go.RowKit
set_option linter.unusedVariables false
set_option linter.unusedSimpArgs false

theorem pack_loose {f : FuncId} {args : Array Value} {w : World} {r : List UInt8} (h : Calls Try.prog f args w (ByR r w)) : Calls Try.prog f args w fun e w' => ∃ v, e = .returned v ∧ Grows w w' ∧ BytesV r v w' := h
set_option maxHeartbeats 2000000 in
theorem law_canonical (A : Option Addr) (c : Nat) (b : List UInt8) (n m : Int) (w : World) (hb : IsBytes w (.slice A b.length c) b) :
    Calls Try.prog 7 #[.slice A b.length c, .int .i64 n, .int .i64 m] w fun e w' => e = .returned (.bool true) ∧ Below w.heap.size w w' := by
  have HB := hidden hb
  have HL0 := hidden (grows_lives (Below.refl w.heap.size w))
  clear hb
  by_cases hbig : 500 < b.length
  · have hd : decide ((500 : Int) < (b.length : Int)) = true := by simp; omega
    go_enter Try.func7, Try.ntmps7
    go_wp2_with ((go_at_call 8; refine HL0.out.mono ?_; rintro e w2 ⟨rfl, g2⟩))
    go_ret
    exact ⟨rfl, by assumption⟩
  have hd : decide ((500 : Int) < (b.length : Int)) = false := by simp; omega
  have hl5 : b.length ≤ 500 := by omega
  clear hbig
  by_cases hz : m = 0 ∧ 5000 < n
  · obtain ⟨rfl, hn⟩ := hz
    have hd2 : decide ((5000 : Int) < n) = true := by simpa using hn
    go_enter Try.func7, Try.ntmps7
    go_wp2_with ((go_at_call 8; refine HL0.out.mono ?_; rintro e w2 ⟨rfl, g2⟩))
    go_ret
    exact ⟨rfl, by assumption⟩
  have hz' : (m == 0) = false ∨ ((m == 0) = true ∧ decide ((5000 : Int) < n) = false) := by
    by_cases h0 : m = 0
    · exact .inr ⟨by simpa using h0, by simp; omega⟩
    · exact .inl (by simpa using h0)
  by_cases hE : unE b n m = 0
  · obtain ⟨N, M, rfl, rfl, hN, hM, hlen, hbad⟩ := unE_zero hE
    have HE := hidden hE
    have HUI := hidden (show unpI b (N : Int) (M : Int) = unpL b N M by unfold unpI; rw [if_pos hE, Int.toNat_natCast, Int.toNat_natCast])
    have HPI := hidden (packI_unp hN hM hlen hbad)
    have HUL := hidden (unpL_length b N M)
    have HU64 := hidden (show U64 (unpL b N M) from by have h := unpI_64 b (N : Int) (M : Int); rwa [HUI.out] at h)
    clear hE hbad hlen hz
    rcases hz' with h1 | ⟨h1, h2⟩
    all_goals go_enter Try.func7, Try.ntmps7
    all_goals go_wp2_with fail
    all_goals refine (unpack_any A c b (N : Int) (M : Int) w HB.out (by omega)).mono ?_
    all_goals rintro e w2 ⟨v2, rfl, g2, hw2⟩
    all_goals rw [HUI.out] at hw2
    all_goals rw [HE.out]
    all_goals have HW2 := hidden hw2
    all_goals obtain ⟨A2, c2, rfl⟩ := hw2.slice_
    all_goals rw [HUL.out] at HW2
    all_goals rw [HUL.out]
    all_goals have HG2 := hidden g2
    all_goals clear g2
    all_goals generalize hLL : unpL b N M = L at *
    all_goals clear hLL
    all_goals go_wp2_with fail
    · refine wp_region_loose (tabRs [(7, BytesV b), (14, ConstV (.bool true))]) (by kernel_rfl) (by kernel_rfl) (tabRs_cons BytesV.lasts (tabRs_cons ConstV.lasts tabRs_nil)) ?_
      iterate 7 ((with_reducible refine loose_one (v := ?_) (a' := ?_) ?_ ?_ (fun w' hC' hG' => ?_) ?_ ?_); rotate_left 2; (focus rfl); (focus rfl); (focus (clear hC' hG'; go_simp; rfl)); (focus (go_simp; rfl)))
      refine loose_call (R := BytesV b) (f := 13) (args := #[.slice A2 N c2, .int .i64 (M : Int)]) (by rfl) (by rfl) (fun _ => by go_simp) (fun w' hC' hG' => pack_loose (HPI.out ▸ pack_any _ L (M : Int) w' (HW2.out.grow hC') HU64.out (by rw [HUL.out]; omega))) ?_
      intro v7 _
      refine ⟨?_, ?_, ?_⟩
      rotate_left
      · go_simp
        rfl
      refine loose_one (v := ?_) (a' := ?_) (by rfl) (by rfl) (fun w' hC' hG' => ?_) ?_ ?_
      rotate_left 2
      · have hr := run_string_bytes (P := Try.prog) ((show IsBytes w' _ b from (hG' 7 (by kernel_rfl)).2 rfl)) 26 5 Try.underlying26 Try.underlying5 9 Try.underlying9
        clear hC' hG'
        go_simp
        rfl
      · go_simp
        rfl
      iterate 1 ((with_reducible refine loose_one (v := ?_) (a' := ?_) ?_ ?_ (fun w' hC' hG' => ?_) ?_ ?_); rotate_left 2; (focus rfl); (focus rfl); (focus (clear hC' hG'; go_simp; rfl)); (focus (go_simp; rfl)))
      refine loose_one (v := ?_) (a' := ?_) (by rfl) (by rfl) (fun w' hC' hG' => ?_) ?_ ?_
      rotate_left 2
      · have hr := run_string_bytes (P := Try.prog) (HB.out.grow (HG2.out.of_below hC')) 26 5 Try.underlying26 Try.underlying5 9 Try.underlying9
        clear hC' hG'
        go_simp
        rfl
      · go_simp
        rfl
      iterate 3 ((with_reducible refine loose_one (v := ?_) (a' := ?_) ?_ ?_ (fun w' hC' hG' => ?_) ?_ ?_); rotate_left 2; (focus rfl); (focus rfl); (focus (clear hC' hG'; go_simp; rfl)); (focus (go_simp; rfl)))
      refine loose_call (R := ConstV (.bool true)) (f := 8) (args := #[]) (by rfl) (by rfl) (fun _ => by go_simp) (fun w' hC' hG' => const_loose (lives_any w')) ?_
      rintro _ ⟨_, _, rfl⟩
      refine ⟨?_, ?_, ?_⟩
      rotate_left
      · go_simp
        rfl
      iterate 2 ((with_reducible refine loose_one (v := ?_) (a' := ?_) ?_ ?_ (fun w' hC' hG' => ?_) ?_ ?_); rotate_left 2; (focus rfl); (focus rfl); (focus (clear hC' hG'; go_simp; rfl)); (focus (go_simp; rfl)))
      refine loose_done (fun w5 hC' hG' => ?_)
      clear hG'
      go_wp2_with fail
      all_goals (go_ret; exact ⟨rfl, HG2.out.of_below hC'⟩)
    · refine wp_region_loose (tabRs [(7, BytesV b), (14, ConstV (.bool true))]) (by kernel_rfl) (by kernel_rfl) (tabRs_cons BytesV.lasts (tabRs_cons ConstV.lasts tabRs_nil)) ?_
      iterate 7 ((with_reducible refine loose_one (v := ?_) (a' := ?_) ?_ ?_ (fun w' hC' hG' => ?_) ?_ ?_); rotate_left 2; (focus rfl); (focus rfl); (focus (clear hC' hG'; go_simp; rfl)); (focus (go_simp; rfl)))
      refine loose_call (R := BytesV b) (f := 13) (args := #[.slice A2 N c2, .int .i64 (M : Int)]) (by rfl) (by rfl) (fun _ => by go_simp) (fun w' hC' hG' => pack_loose (HPI.out ▸ pack_any _ L (M : Int) w' (HW2.out.grow hC') HU64.out (by rw [HUL.out]; omega))) ?_
      intro v7 _
      refine ⟨?_, ?_, ?_⟩
      rotate_left
      · go_simp
        rfl
      refine loose_one (v := ?_) (a' := ?_) (by rfl) (by rfl) (fun w' hC' hG' => ?_) ?_ ?_
      rotate_left 2
      · have hr := run_string_bytes (P := Try.prog) ((show IsBytes w' _ b from (hG' 7 (by kernel_rfl)).2 rfl)) 26 5 Try.underlying26 Try.underlying5 9 Try.underlying9
        clear hC' hG'
        go_simp
        rfl
      · go_simp
        rfl
      iterate 1 ((with_reducible refine loose_one (v := ?_) (a' := ?_) ?_ ?_ (fun w' hC' hG' => ?_) ?_ ?_); rotate_left 2; (focus rfl); (focus rfl); (focus (clear hC' hG'; go_simp; rfl)); (focus (go_simp; rfl)))
      refine loose_one (v := ?_) (a' := ?_) (by rfl) (by rfl) (fun w' hC' hG' => ?_) ?_ ?_
      rotate_left 2
      · have hr := run_string_bytes (P := Try.prog) (HB.out.grow (HG2.out.of_below hC')) 26 5 Try.underlying26 Try.underlying5 9 Try.underlying9
        clear hC' hG'
        go_simp
        rfl
      · go_simp
        rfl
      iterate 3 ((with_reducible refine loose_one (v := ?_) (a' := ?_) ?_ ?_ (fun w' hC' hG' => ?_) ?_ ?_); rotate_left 2; (focus rfl); (focus rfl); (focus (clear hC' hG'; go_simp; rfl)); (focus (go_simp; rfl)))
      refine loose_call (R := ConstV (.bool true)) (f := 8) (args := #[]) (by rfl) (by rfl) (fun _ => by go_simp) (fun w' hC' hG' => const_loose (lives_any w')) ?_
      rintro _ ⟨_, _, rfl⟩
      refine ⟨?_, ?_, ?_⟩
      rotate_left
      · go_simp
        rfl
      iterate 2 ((with_reducible refine loose_one (v := ?_) (a' := ?_) ?_ ?_ (fun w' hC' hG' => ?_) ?_ ?_); rotate_left 2; (focus rfl); (focus rfl); (focus (clear hC' hG'; go_simp; rfl)); (focus (go_simp; rfl)))
      refine loose_done (fun w5 hC' hG' => ?_)
      clear hG'
      go_wp2_with fail
      all_goals (go_ret; exact ⟨rfl, HG2.out.of_below hC'⟩)
  · have hUI : unpI b n m = [] := by unfold unpI; rw [if_neg hE]
    have hne : (unE b n m != 0) = true := by simpa using hE
    have HUN := hidden (unpack_any A c b n m w HB.out (by omega))
    rw [hUI] at HUN
    generalize unE b n m = E at *
    clear hUI hz
    rcases hz' with h1 | ⟨h1, h2⟩
    all_goals go_enter Try.func7, Try.ntmps7
    all_goals go_wp2_with fail
    all_goals refine HUN.out.mono ?_
    all_goals rintro e w2 ⟨v2, rfl, g2, hw2⟩
    all_goals obtain ⟨A2, c2, rfl⟩ := hw2.slice_
    all_goals have HG2 := hidden g2
    all_goals clear g2
    all_goals have HLV := hidden (grows_lives HG2.out)
    all_goals go_wp2_with ((go_at_call 8; refine HLV.out.mono ?_; rintro e w3 ⟨rfl, g3⟩))
    all_goals go_ret
    all_goals exact ⟨rfl, by assumption⟩
end Go.Proofs.Ytmjfgobopcigoaa
