/-
  The walk of the law DeltaLinear: it returns true for all integers; nothing that was there is changed.
-/
import Derived.Test.YtjjeebaelpgjlaaDw0
namespace Go.Proofs.Ytjjeebaelpgjlaa
open Go.RowKit
set_option linter.unusedVariables false
set_option linter.unusedSimpArgs false

theorem isI_take {w : World} {A : Option Addr} {n c : Nat} {l : List Int} (h : IsI w (.slice A n c) l) {k : Nat} (hk : k ≤ l.length) : IsI w (.slice A k c) (l.take k) := by
  obtain ⟨A', c', he, hle, hc⟩ := h
  injection he with e1 e2 e3
  subst e1 e3
  rw [icells_length] at hle hc
  have hlen : (icells (l.take k)).length = k := by rw [icells_length, List.length_take]; omega
  refine ⟨A, c, by rw [hlen], by rw [hlen]; omega, fun h0 => ?_⟩
  obtain ⟨b, off, rfl, hcell⟩ := hc (by omega)
  refine ⟨b, off, rfl, fun j hj => ?_⟩
  rw [hlen] at hj
  rw [hcell j (by omega), icells_get (by omega), icells_get (by rw [List.length_take]; omega), List.getElem_take]
def LinRel (w : World) (f s : Int) (N : Nat) (x l i : Value) (wr : World) : Prop :=
  ∃ k : Nat, k ≤ N ∧ i = .int .i64 (k : Int) ∧ x = .int .i64 (lastA k f s) ∧ wr.ownsRow w.heap.size 2 1 l (aryL k f s).length (icells (aryL k f s)) ∧ Below w.heap.size w wr
set_option maxRecDepth 20000 in
set_option maxHeartbeats 8000000 in
theorem law_linear9 (f s n : Int) (w : World) (hf : frIn f) (hs : frIn s) (h0 : 0 ≤ n) (h1 : n ≤ 255) :
    Calls Try.prog 7 #[.int .i64 f, .int .i64 s, .int .u8 n] w fun e w' => e = .returned (.bool true) ∧ Below w.heap.size w w' := by
  obtain ⟨m, rfl⟩ := Int.eq_ofNat_of_zero_le h0
  obtain ⟨N, hN⟩ : ∃ N, N = m % 200 + 3 := ⟨_, rfl⟩
  have HF := hidden hf
  have HS := hidden hs
  have hN3 : 3 ≤ N := by omega
  have hN2 : N ≤ 202 := by omega
  have htm : (m : Int).tmod 200 = ((m % 200 : Nat) : Int) := by rw [Int.tmod_eq_emod_of_nonneg (by omega)]; omega
  obtain ⟨R, hR⟩ : ∃ R, R = m % 200 := ⟨_, rfl⟩
  rw [← hR] at hN htm
  have hem : (m : Int) % 200 = (R : Int) := by omega
  have hRb : R < 200 := by omega
  have hRN : (R : Int) + 3 = (N : Int) := by omega
  clear hf hs hN hR h0
  go_enter Try.func7, Try.ntmps7
  go_wp2_with fail
  go_loopw [0, 7, 8] (fun x l i wr => LinRel w f s N x l i wr) (fun _ _ i _ => N - (intOf i).toNat)
  case atStart => exact ⟨0, by omega, rfl, rfl, own_nil_i _ _, Below.refl _ _⟩
  case round =>
    obtain ⟨k, hk, rfl, rfl, hown, hbw⟩ := hrel
    have HB := hidden hbw
    have HO := hidden hown
    have hsz := hbw.size
    clear hown hbw
    by_cases hlt : k < N
    · have HSN := hidden (aryL_snoc k f s)
      have HLS := hidden (lastA_succ k f s)
      have hak := aryL_length k f s
      have HAK := hidden hak
      generalize aryL k f s = L at *
      generalize lastA k f s = x at *
      clear hak
      go_wp2_with (at_builtin; go_loud (refine wpList_append_ik rfl _ _ rfl _ L (by rfl) w.heap.size HO.out w HB.out hsz x (by rfl) (by have := HAK.out; omega) ?_); intro v3 w3 hown3 hb3 hk3; have HO3 := hidden hown3; have HB3 := hidden hb3; clear hown3 hb3 hk3)
      refine ⟨⟨k + 1, by omega, by go_num, by rw [HLS.out, IntKind.wrap_i64]; unfold RowKit.wrap64; rfl, ?_, HB3.out⟩, by simp [intOf]; omega⟩
      rw [HSN.out]
      exact HO3.out
    · obtain rfl : k = N := by omega
      have HI := hidden (show IsI wr u7 (aryL k f s) from Reads.of_own HO.out)
      have HAL := hidden (aryL_length k f s)
      have HAI := hidden (aryL_in k f s HF.out)
      have HA24 := hidden (dlEnc_ary (n := k) hN3 (by omega) HF.out HS.out)
      generalize aryL k f s = L at *
      obtain ⟨A9, c9, rfl⟩ := HI.out.slice_
      have hcap : 2 ≤ c9 := by
        obtain ⟨A', c', he, hle, _⟩ := HI.out
        injection he with e1 e2 e3
        rw [icells_length, HAL.out] at hle
        omega
      have HI2 := hidden (isI_take HI.out (k := 2) (by rw [HAL.out]; omega))
      obtain ⟨K, hK⟩ : ∃ K, K = L.length := ⟨_, rfl⟩
      have HS1 := hidden (fun w' (h : Grows wr w') => size9_any (.slice A9 L.length c9) L w' (IsI.grow HI.out h) (by rw [HAL.out]; omega) HAI.out)
      have HS2 := hidden (fun w' (h : Grows wr w') => size9_any (.slice A9 2 c9) (L.take 2) w' (IsI.grow HI2.out h) (by rw [List.length_take]; omega) (fun x hx => HAI.out x (List.mem_of_mem_take hx)))
      have hb2 := dlEnc_le (L.take 2)
      rw [List.length_take] at hb2
      rw [← hK] at HS1 ⊢
      obtain ⟨s1, hs1⟩ : ∃ s1, s1 = (dlEnc L).length := ⟨_, rfl⟩
      obtain ⟨s2, hs2⟩ : ∃ s2, s2 = (dlEnc (L.take 2)).length := ⟨_, rfl⟩
      rw [← hs1] at HS1 HA24
      rw [← hs2] at HS2 hb2
      have hs24 := HA24.out
      have hcap2 : (2 : Int) ≤ (c9 : Int) := by omega
      have hs2b : s2 ≤ 200 := by omega
      have hw : IntKind.i64.wrap ((s2 : Int) + 24) = (s2 : Int) + 24 := by rw [IntKind.wrap_i64]; omega
      have hle : decide ((s1 : Int) ≤ (s2 : Int) + 24) = true := by simp; omega
      clear hK hs1 hs2 hb2 hlt hs24
      go_wp2_with fail
      refine wp_region_loose (tabRs [(1, ConstV (.int .i64 (s1 : Int))), (4, ConstV (.int .i64 (s2 : Int))), (8, ConstV (.bool true))]) (by kernel_rfl) (by kernel_rfl) (tabRs_cons ConstV.lasts (tabRs_cons ConstV.lasts (tabRs_cons ConstV.lasts tabRs_nil))) ?_
      iterate 1 ((with_reducible refine loose_one (v := ?_) (a' := ?_) ?_ ?_ (fun w' hC' hG' => ?_) ?_ ?_); rotate_left 2; (focus rfl); (focus rfl); (focus (clear hC' hG'; go_simp; rfl)); (focus (go_simp; rfl)))
      refine loose_call (R := ConstV (.int .i64 (s1 : Int))) (f := 16) (args := #[.slice A9 K c9]) (by rfl) (by rfl) (fun _ => by go_simp) (fun w' hC' hG' => const_loose (HS1.out w' hC')) ?_
      rintro _ ⟨_, _, rfl⟩
      refine ⟨?_, ?_, ?_⟩
      rotate_left
      · go_simp
        rfl
      iterate 2 ((with_reducible refine loose_one (v := ?_) (a' := ?_) ?_ ?_ (fun w' hC' hG' => ?_) ?_ ?_); rotate_left 2; (focus rfl); (focus rfl); (focus (clear hC' hG'; go_simp; rfl)); (focus (go_simp; rfl)))
      refine loose_call (R := ConstV (.int .i64 (s2 : Int))) (f := 16) (args := #[.slice A9 2 c9]) (by rfl) (by rfl) (fun _ => by go_simp) (fun w' hC' hG' => const_loose (HS2.out w' hC')) ?_
      rintro _ ⟨_, _, rfl⟩
      refine ⟨?_, ?_, ?_⟩
      rotate_left
      · go_simp
        rfl
      iterate 3 ((with_reducible refine loose_one (v := ?_) (a' := ?_) ?_ ?_ (fun w' hC' hG' => ?_) ?_ ?_); rotate_left 2; (focus rfl); (focus rfl); (focus (clear hC' hG'; go_simp; rfl)); (focus (go_simp; rfl)))
      refine loose_call (R := ConstV (.bool true)) (f := 8) (args := #[]) (by rfl) (by rfl) (fun _ => by go_simp) (fun w' hC' hG' => const_loose (lives_any w')) ?_
      rintro _ ⟨_, _, rfl⟩
      refine ⟨?_, ?_, ?_⟩
      rotate_left
      · go_simp
        rfl
      iterate 2 ((with_reducible refine loose_one (v := ?_) (a' := ?_) ?_ ?_ (fun w' hC' hG' => ?_) ?_ ?_); rotate_left 2; (focus rfl); (focus rfl); (focus (clear hC' hG'; go_simp; rfl)); (focus (go_simp; rfl)))
      refine loose_done (fun w5 hC' hG' => ?_)
      clear hG'
      have HG5 := hidden (Grows.of_below HB.out hC')
      clear hC'
      go_wp2_with fail
      go_ret
      exact ⟨rfl, HG5.out⟩
end Go.Proofs.Ytjjeebaelpgjlaa
