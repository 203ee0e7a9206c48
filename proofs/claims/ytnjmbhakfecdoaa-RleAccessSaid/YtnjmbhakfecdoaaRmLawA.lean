/-
  The walk of the law RleAccess: it returns true for all runs and integers; nothing that was there is changed.
-/
import Derived.Test.YtnjmbhakfecdoaaRmT
import Derived.Test.YtnjmbhakfecdoaaRm9
import Derived.Test.YtnjmbhakfecdoaaRl8
namespace Go.Proofs.Ytnjmbhakfecdoaa
open Go.RowKit
set_option linter.unusedVariables false
set_option linter.unusedSimpArgs false

theorem IsPair.lasts {n : Int} {ws : List UInt64} : ∀ (v : Value) (w w' : World), IsPair w v n ws → Grows w w' → IsPair w' v n ws := fun _ _ _ h hg => h.grow hg
theorem set_loose {f : FuncId} {args : Array Value} {w : World} {n : Nat} {F : Nat → Bool} (hn : n ≤ 65536) (h : Calls Try.prog f args w (FreshSet n (pack n F) w)) : Calls Try.prog f args w fun e w' => ∃ v, e = .returned v ∧ Grows w w' ∧ IsPair w' v (n : Int) (pack n F) :=
  h.mono fun _ _ hf => by
    obtain ⟨s, he, hs, hg⟩ := hf.isSet (by omega)
    exact ⟨s, he, hg, hs.pair (by rw [pack_length]; unfold nw; omega)⟩
set_option maxHeartbeats 4000000 in
theorem law_access (u : Value) (l : List Rn) (i op n : Int) (w : World) (hu : ReadsR w u l) (hin : ∀ x ∈ l, in64 x.1) (hl : l.length ≤ 140737488351232) (h64 : i ≤ 9223372036854775807) :
    Calls Try.prog 4 #[u, .int .i64 i, .int .i64 op, .int .i64 n] w fun e w' => e = .returned (.bool true) ∧ Below w.heap.size w w' := by
  have HU := hidden hu
  have HRV := hidden (fun w' (h : Grows w w') => rlvalid_any u l w' (hu.grow h) (by omega))
  have HSM := hidden (fun w' (h : Grows w w') => rlsmall_any u l w' (hu.grow h) (by omega))
  have HG := hidden (show Grows w ((w.alloc (.cells #[.int .i64 op] 3)).alloc (.cells #[.int .i64 n] 2)) from (runGrow1 _).of_below (runGrow1 _))
  have HBO := hidden ((Row.new w 3 #[.int .i64 op] [.int .i64 op] rfl).grow (runGrow1 (.cells #[.int .i64 n] 2)))
  have HBN := hidden (Row.at_ (w.alloc (.cells #[.int .i64 op] 3)) 2 #[.int .i64 n] [.int .i64 n] rfl (w.heap.size + 1) (by simp))
  clear hu
  cases hval : validR l
  · rw [hval] at HRV
    clear hval
    go_enter Try.func4, Try.ntmps4
    go_wp2_with (first | (go_at_call 10; refine (rlawake_any _).mono ?_; rintro e w9 ⟨rfl, g9⟩; have HG := hidden (HG.out.of_below g9); clear g9) | (go_at_call 9; refine (HRV.out _ HG.out).mono ?_; rintro e w7 ⟨rfl, g7⟩; have HG := hidden (HG.out.of_below g7); have HBO := hidden (HBO.out.grow g7); have HBN := hidden (HBN.out.grow g7); have ho := HBO.out.cell 0; simp only [List.getElem?_cons_zero] at ho; clear g7))
    go_ret
    exact ⟨rfl, HG.out⟩
  have HVAL := hidden hval
  rw [hval] at HRV
  cases hsm : smallR l
  · rw [hsm] at HSM
    clear hval hsm
    go_enter Try.func4, Try.ntmps4
    go_wp2_with (first | (go_at_call 10; refine (rlawake_any _).mono ?_; rintro e w9 ⟨rfl, g9⟩; have HG := hidden (HG.out.of_below g9); clear g9) | (go_at_call 9; refine (HRV.out _ HG.out).mono ?_; rintro e w7 ⟨rfl, g7⟩; have HG := hidden (HG.out.of_below g7); have HBO := hidden (HBO.out.grow g7); have HBN := hidden (HBN.out.grow g7); have ho := HBO.out.cell 0; simp only [List.getElem?_cons_zero] at ho; clear g7) | (go_at_call 16; refine (HSM.out _ HG.out).mono ?_; rintro e w8 ⟨rfl, rfl⟩))
    go_ret
    exact ⟨rfl, HG.out⟩
  rw [hsm] at HSM
  have hll := valid_length hval
  have hel := valid_expR hval
  clear hval hsm
  by_cases hop : op = 1 ∨ op = 3 ∨ op = 5
  case neg =>
    have o1 : (op != 1) = true := by simp; omega
    have o3 : (op != 3) = true := by simp; omega
    have o5 : (op != 5) = true := by simp; omega
    clear hop
    go_enter Try.func4, Try.ntmps4
    go_wp2_with (first | (go_at_call 10; refine (rlawake_any _).mono ?_; rintro e w9 ⟨rfl, g9⟩; have HG := hidden (HG.out.of_below g9); clear g9) | (go_at_call 9; refine (HRV.out _ HG.out).mono ?_; rintro e w7 ⟨rfl, g7⟩; have HG := hidden (HG.out.of_below g7); have HBO := hidden (HBO.out.grow g7); have HBN := hidden (HBN.out.grow g7); have ho := HBO.out.cell 0; simp only [List.getElem?_cons_zero] at ho; clear g7) | (go_at_call 16; refine (HSM.out _ HG.out).mono ?_; rintro e w8 ⟨rfl, rfl⟩))
    go_ret
    exact ⟨rfl, HG.out⟩
  have HOP := hidden hop
  have HIN := hidden hin
  have HLA := hidden (fun w' (h : Grows w w') => lat_any u l i w' (HU.out.grow h) (valid_nonneg HVAL.out) (by omega) h64)
  have HRA := hidden (fun w' (h : Grows w w') => rlat_any u l i w' (HU.out.grow h) (valid_nonneg HVAL.out) (by omega) h64)
  generalize atV l i = V at *
  obtain ⟨V1, V2⟩ := V
  simp only at HLA HRA
  obtain ⟨A, c, rfl⟩ := HU.out.slice_
  have HMT := hidden (fun w' (h : Grows w w') => set_loose hel (rlmatching_any (.slice A l.length c) l op n w' (HU.out.grow h) HVAL.out HOP.out))
  have hwo : w.heap.size < w.heap.size + 1 := by omega
  have hcase : ((op != 1) = false) ∨ ((op != 1) = true ∧ (op != 3) = false) ∨ ((op != 1) = true ∧ (op != 3) = true ∧ (op != 5) = false) := by
    rcases hop with rfl | rfl | rfl <;> simp
  clear hop hin
  rcases hcase with h1 | ⟨h1, h2⟩ | ⟨h1, h2, h3⟩
  · go_enter Try.func4, Try.ntmps4
    go_wp2_with (first | (go_at_call 9; refine (HRV.out _ HG.out).mono ?_; rintro e w7 ⟨rfl, g7⟩; have HG := hidden (HG.out.of_below g7); have HBO := hidden (HBO.out.grow g7); have HBN := hidden (HBN.out.grow g7); have ho := HBO.out.cell 0; simp only [List.getElem?_cons_zero] at ho; clear g7) | (go_at_call 16; refine (HSM.out _ HG.out).mono ?_; rintro e w8 ⟨rfl, rfl⟩))
    refine (HLA.out _ HG.out).mono ?_
    rintro e w3 ⟨rfl, g3⟩
    have HG := hidden (HG.out.of_below g3)
    have HBO := hidden (HBO.out.grow g3)
    have HBN := hidden (HBN.out.grow g3)
    clear ho g3
    go_wp2_with fail
    refine (HRA.out _ HG.out).mono ?_
    rintro e w4 ⟨rfl, rfl⟩
    go_wp2_with fail
    have HST := hidden (show AccSt w3.heap.size w.heap.size (w.heap.size + 1) op n 0 (w3.alloc (.cells #[.int .i64 0] 3)) from
      ⟨Row.new w3 3 #[.int .i64 0] [.int .i64 0] rfl, HBO.out.grow (runGrow1 _), HBN.out.grow (runGrow1 _)⟩)
    have hlo := HBN.out.lt
    have hsz3 : (w3.alloc (.cells #[.int .i64 0] 3)).heap.size = w3.heap.size + 1 := by simp
    have HFL := hidden (lfilter_three (.slice A l.length c) l w3 (w3.alloc (.cells #[.int .i64 0] 3)) (.pointer (some ⟨w3.heap.size, 0, none⟩)) (.pointer (some ⟨w.heap.size, 0, none⟩)) (.pointer (some ⟨w.heap.size + 1, 0, none⟩)) (prd op n)
      (fun k W => AccSt w3.heap.size w.heap.size (w.heap.size + 1) op n k W) (HU.out.grow HG.out) HVAL.out (runGrow1 _) HST.out
      (fun _ _ _ h hb => h.keep hb (by omega) (by omega) (by omega))
      (fun k W x hk _ hst hg hsz => (acc_any w3.heap.size w.heap.size (w.heap.size + 1) op n x k W hst HOP.out (by omega) (by omega) (by omega)).mono fun e W' ⟨he, hst2, hw⟩ => ⟨he, hst2, by rw [hw]; exact hg.setCell (p := ⟨w3.heap.size, 0, none⟩) (Nat.le_refl _) _, by
        rw [hw]
        exact ⟨by simp [World.setCell], fun b hb1 hb2 => Below.heap_setCell _ _ _ _ (by simp only; omega)⟩⟩)
      HIN.out)
    clear hsz3 hlo
    refine HFL.out.mono ?_
    rintro e w5 ⟨g, hgl, rfl, hrow, hst, hg5⟩
    have HST := hidden hst
    obtain ⟨N, hN⟩ : ∃ N, N = (expR l).length := ⟨_, rfl⟩
    obtain ⟨F, hF⟩ : ∃ F, F = selF op n (expR l) := ⟨_, rfl⟩
    have hacc : accF (prd op n) (expR l) = F := by rw [hF]; rfl
    rw [hacc] at hrow
    rw [← hN] at hrow hel ⊢
    rw [← hN, ← hF] at HMT
    have HIP := hidden (IsPair.grow (show IsPair w5 (.agg #[.int .i64 (N : Int), .slice (some ⟨g, 0, none⟩) (nw N) (nw N)]) (N : Int) (pack N F) from
      ⟨_, rfl, Reads.of_row hrow _ _ (by rw [ucells_length, pack_length]) (Nat.le_refl _), by rw [pack_length]; unfold nw; omega⟩) (runGrow1 (.cells #[.int .i64 (N : Int), .slice (some ⟨g, 0, none⟩) (nw N) (nw N)] 39)))
    have HVR := hidden (Row.new w5 39 #[.int .i64 (N : Int), .slice (some ⟨g, 0, none⟩) (nw N) (nw N)] [.int .i64 (N : Int), .slice (some ⟨g, 0, none⟩) (nw N) (nw N)] rfl)
    have HG := hidden ((HG.out.of_below hg5).of_below (runGrow1 (.cells #[.int .i64 (N : Int), .slice (some ⟨g, 0, none⟩) (nw N) (nw N)] 39)))
    clear hN hF hacc hrow hst hg5 hgl HFL
    go_wp2_with fail
    obtain ⟨W6, hW6⟩ : ∃ W, W = w5.alloc (.cells #[.int .i64 (N : Int), .slice (some ⟨g, 0, none⟩) (nw N) (nw N)] 39) := ⟨_, rfl⟩
    have HQ := hidden (fun w' (h : Grows W6 w') => by
      have h5 : Grows w5 w' := by rw [hW6] at h; exact (runGrow1 _).of_below h
      have hv : Row w' w5.heap.size 39 [.int .i64 (N : Int), .slice (some ⟨g, 0, none⟩) (nw N) (nw N)] := by rw [hW6] at h; exact HVR.out.grow h
      exact And.intro ((HST.out.cnt.grow h5).cell 0) (And.intro ((HST.out.opr.grow h5).cell 0) (And.intro ((HST.out.num.grow h5).cell 0) (And.intro (hv.cell 0) (hv.cell 1)))))
    simp only [List.getElem?_cons_zero, List.getElem?_cons_succ] at HQ
    rw [← hW6] at HIP HG ⊢
    clear hW6
    have HPE := hidden (pairEq_t (na := (N : Int)) (nb := (N : Int)) (wa := pack N F) (wb := pack N F) ⟨rfl, rfl⟩)
    refine wp_region_loose (tabRs [(9, fun v w => IsPair w v (N : Int) (pack N F)), (10, ConstV (.bool true)), (13, ConstV (.bool true))]) (by kernel_rfl) (by kernel_rfl) (tabRs_cons IsPair.lasts (tabRs_cons ConstV.lasts (tabRs_cons ConstV.lasts tabRs_nil))) ?_
    iterate 9 ((with_reducible refine loose_one (v := ?_) (a' := ?_) ?_ ?_ (fun w' hC' hG' => ?_) ?_ ?_); rotate_left 2; (focus rfl); (focus rfl); (focus (obtain ⟨q1, q2, q3, q4, q5⟩ := HQ.out w' hC'; clear hC' hG'; go_simp; rfl)); (focus (go_simp; rfl)))
    refine loose_call (R := fun v w => IsPair w v (N : Int) (pack N F)) (f := 23) (args := #[.slice A l.length c, .int .i64 op, .int .i64 n]) (by rfl) (by rfl) (fun _ => by go_simp) (fun w' hC' hG' => HMT.out w' (HG.out.of_below hC')) ?_
    intro v9 _
    refine ⟨?_, ?_, ?_⟩
    rotate_left
    · go_simp
      rfl
    refine loose_call (R := ConstV (.bool true)) (f := 22) (args := #[.agg #[.int .i64 (N : Int), .slice (some ⟨g, 0, none⟩) (nw N) (nw N)], v9]) (by rfl) (by rfl) (fun _ => by go_simp) (fun w' hC' hG' => const_loose (HPE.out ▸ sameBits_any _ v9 (N : Int) (N : Int) (pack N F) (pack N F) w' (HIP.out.grow hC') ((hG' 9 (by kernel_rfl)).2 rfl))) ?_
    rintro _ ⟨_, _, rfl⟩
    refine ⟨?_, ?_, ?_⟩
    rotate_left
    · go_simp
      rfl
    iterate 2 ((with_reducible refine loose_one (v := ?_) (a' := ?_) ?_ ?_ (fun w' hC' hG' => ?_) ?_ ?_); rotate_left 2; (focus rfl); (focus rfl); (focus (obtain ⟨q1, q2, q3, q4, q5⟩ := HQ.out w' hC'; clear hC' hG'; go_simp; rfl)); (focus (go_simp; rfl)))
    refine loose_call (R := ConstV (.bool true)) (f := 10) (args := #[]) (by rfl) (by rfl) (fun _ => by go_simp) (fun w' hC' hG' => const_loose (rlawake_any w')) ?_
    rintro _ ⟨_, _, rfl⟩
    refine ⟨?_, ?_, ?_⟩
    rotate_left
    · go_simp
      rfl
    iterate 2 ((with_reducible refine loose_one (v := ?_) (a' := ?_) ?_ ?_ (fun w' hC' hG' => ?_) ?_ ?_); rotate_left 2; (focus rfl); (focus rfl); (focus (obtain ⟨q1, q2, q3, q4, q5⟩ := HQ.out w' hC'; clear hC' hG'; go_simp; rfl)); (focus (go_simp; rfl)))
    refine loose_done (fun w7 hC' hG' => ?_)
    clear hG'
    go_wp2_with fail
    all_goals (go_ret; exact ⟨rfl, HG.out.of_below hC'⟩)
  · go_enter Try.func4, Try.ntmps4
    go_wp2_with (first | (go_at_call 9; refine (HRV.out _ HG.out).mono ?_; rintro e w7 ⟨rfl, g7⟩; have HG := hidden (HG.out.of_below g7); have HBO := hidden (HBO.out.grow g7); have HBN := hidden (HBN.out.grow g7); have ho := HBO.out.cell 0; simp only [List.getElem?_cons_zero] at ho; clear g7) | (go_at_call 16; refine (HSM.out _ HG.out).mono ?_; rintro e w8 ⟨rfl, rfl⟩))
    refine (HLA.out _ HG.out).mono ?_
    rintro e w3 ⟨rfl, g3⟩
    have HG := hidden (HG.out.of_below g3)
    have HBO := hidden (HBO.out.grow g3)
    have HBN := hidden (HBN.out.grow g3)
    clear ho g3
    go_wp2_with fail
    refine (HRA.out _ HG.out).mono ?_
    rintro e w4 ⟨rfl, rfl⟩
    go_wp2_with fail
    have HST := hidden (show AccSt w3.heap.size w.heap.size (w.heap.size + 1) op n 0 (w3.alloc (.cells #[.int .i64 0] 3)) from
      ⟨Row.new w3 3 #[.int .i64 0] [.int .i64 0] rfl, HBO.out.grow (runGrow1 _), HBN.out.grow (runGrow1 _)⟩)
    have hlo := HBN.out.lt
    have hsz3 : (w3.alloc (.cells #[.int .i64 0] 3)).heap.size = w3.heap.size + 1 := by simp
    have HFL := hidden (lfilter_three (.slice A l.length c) l w3 (w3.alloc (.cells #[.int .i64 0] 3)) (.pointer (some ⟨w3.heap.size, 0, none⟩)) (.pointer (some ⟨w.heap.size, 0, none⟩)) (.pointer (some ⟨w.heap.size + 1, 0, none⟩)) (prd op n)
      (fun k W => AccSt w3.heap.size w.heap.size (w.heap.size + 1) op n k W) (HU.out.grow HG.out) HVAL.out (runGrow1 _) HST.out
      (fun _ _ _ h hb => h.keep hb (by omega) (by omega) (by omega))
      (fun k W x hk _ hst hg hsz => (acc_any w3.heap.size w.heap.size (w.heap.size + 1) op n x k W hst HOP.out (by omega) (by omega) (by omega)).mono fun e W' ⟨he, hst2, hw⟩ => ⟨he, hst2, by rw [hw]; exact hg.setCell (p := ⟨w3.heap.size, 0, none⟩) (Nat.le_refl _) _, by
        rw [hw]
        exact ⟨by simp [World.setCell], fun b hb1 hb2 => Below.heap_setCell _ _ _ _ (by simp only; omega)⟩⟩)
      HIN.out)
    clear hsz3 hlo
    refine HFL.out.mono ?_
    rintro e w5 ⟨g, hgl, rfl, hrow, hst, hg5⟩
    have HST := hidden hst
    obtain ⟨N, hN⟩ : ∃ N, N = (expR l).length := ⟨_, rfl⟩
    obtain ⟨F, hF⟩ : ∃ F, F = selF op n (expR l) := ⟨_, rfl⟩
    have hacc : accF (prd op n) (expR l) = F := by rw [hF]; rfl
    rw [hacc] at hrow
    rw [← hN] at hrow hel ⊢
    rw [← hN, ← hF] at HMT
    have HIP := hidden (IsPair.grow (show IsPair w5 (.agg #[.int .i64 (N : Int), .slice (some ⟨g, 0, none⟩) (nw N) (nw N)]) (N : Int) (pack N F) from
      ⟨_, rfl, Reads.of_row hrow _ _ (by rw [ucells_length, pack_length]) (Nat.le_refl _), by rw [pack_length]; unfold nw; omega⟩) (runGrow1 (.cells #[.int .i64 (N : Int), .slice (some ⟨g, 0, none⟩) (nw N) (nw N)] 39)))
    have HVR := hidden (Row.new w5 39 #[.int .i64 (N : Int), .slice (some ⟨g, 0, none⟩) (nw N) (nw N)] [.int .i64 (N : Int), .slice (some ⟨g, 0, none⟩) (nw N) (nw N)] rfl)
    have HG := hidden ((HG.out.of_below hg5).of_below (runGrow1 (.cells #[.int .i64 (N : Int), .slice (some ⟨g, 0, none⟩) (nw N) (nw N)] 39)))
    clear hN hF hacc hrow hst hg5 hgl HFL
    go_wp2_with fail
    obtain ⟨W6, hW6⟩ : ∃ W, W = w5.alloc (.cells #[.int .i64 (N : Int), .slice (some ⟨g, 0, none⟩) (nw N) (nw N)] 39) := ⟨_, rfl⟩
    have HQ := hidden (fun w' (h : Grows W6 w') => by
      have h5 : Grows w5 w' := by rw [hW6] at h; exact (runGrow1 _).of_below h
      have hv : Row w' w5.heap.size 39 [.int .i64 (N : Int), .slice (some ⟨g, 0, none⟩) (nw N) (nw N)] := by rw [hW6] at h; exact HVR.out.grow h
      exact And.intro ((HST.out.cnt.grow h5).cell 0) (And.intro ((HST.out.opr.grow h5).cell 0) (And.intro ((HST.out.num.grow h5).cell 0) (And.intro (hv.cell 0) (hv.cell 1)))))
    simp only [List.getElem?_cons_zero, List.getElem?_cons_succ] at HQ
    rw [← hW6] at HIP HG ⊢
    clear hW6
    have HPE := hidden (pairEq_t (na := (N : Int)) (nb := (N : Int)) (wa := pack N F) (wb := pack N F) ⟨rfl, rfl⟩)
    refine wp_region_loose (tabRs [(9, fun v w => IsPair w v (N : Int) (pack N F)), (10, ConstV (.bool true)), (13, ConstV (.bool true))]) (by kernel_rfl) (by kernel_rfl) (tabRs_cons IsPair.lasts (tabRs_cons ConstV.lasts (tabRs_cons ConstV.lasts tabRs_nil))) ?_
    iterate 9 ((with_reducible refine loose_one (v := ?_) (a' := ?_) ?_ ?_ (fun w' hC' hG' => ?_) ?_ ?_); rotate_left 2; (focus rfl); (focus rfl); (focus (obtain ⟨q1, q2, q3, q4, q5⟩ := HQ.out w' hC'; clear hC' hG'; go_simp; rfl)); (focus (go_simp; rfl)))
    refine loose_call (R := fun v w => IsPair w v (N : Int) (pack N F)) (f := 23) (args := #[.slice A l.length c, .int .i64 op, .int .i64 n]) (by rfl) (by rfl) (fun _ => by go_simp) (fun w' hC' hG' => HMT.out w' (HG.out.of_below hC')) ?_
    intro v9 _
    refine ⟨?_, ?_, ?_⟩
    rotate_left
    · go_simp
      rfl
    refine loose_call (R := ConstV (.bool true)) (f := 22) (args := #[.agg #[.int .i64 (N : Int), .slice (some ⟨g, 0, none⟩) (nw N) (nw N)], v9]) (by rfl) (by rfl) (fun _ => by go_simp) (fun w' hC' hG' => const_loose (HPE.out ▸ sameBits_any _ v9 (N : Int) (N : Int) (pack N F) (pack N F) w' (HIP.out.grow hC') ((hG' 9 (by kernel_rfl)).2 rfl))) ?_
    rintro _ ⟨_, _, rfl⟩
    refine ⟨?_, ?_, ?_⟩
    rotate_left
    · go_simp
      rfl
    iterate 2 ((with_reducible refine loose_one (v := ?_) (a' := ?_) ?_ ?_ (fun w' hC' hG' => ?_) ?_ ?_); rotate_left 2; (focus rfl); (focus rfl); (focus (obtain ⟨q1, q2, q3, q4, q5⟩ := HQ.out w' hC'; clear hC' hG'; go_simp; rfl)); (focus (go_simp; rfl)))
    refine loose_call (R := ConstV (.bool true)) (f := 10) (args := #[]) (by rfl) (by rfl) (fun _ => by go_simp) (fun w' hC' hG' => const_loose (rlawake_any w')) ?_
    rintro _ ⟨_, _, rfl⟩
    refine ⟨?_, ?_, ?_⟩
    rotate_left
    · go_simp
      rfl
    iterate 2 ((with_reducible refine loose_one (v := ?_) (a' := ?_) ?_ ?_ (fun w' hC' hG' => ?_) ?_ ?_); rotate_left 2; (focus rfl); (focus rfl); (focus (obtain ⟨q1, q2, q3, q4, q5⟩ := HQ.out w' hC'; clear hC' hG'; go_simp; rfl)); (focus (go_simp; rfl)))
    refine loose_done (fun w7 hC' hG' => ?_)
    clear hG'
    go_wp2_with fail
    all_goals (go_ret; exact ⟨rfl, HG.out.of_below hC'⟩)
  · go_enter Try.func4, Try.ntmps4
    go_wp2_with (first | (go_at_call 9; refine (HRV.out _ HG.out).mono ?_; rintro e w7 ⟨rfl, g7⟩; have HG := hidden (HG.out.of_below g7); have HBO := hidden (HBO.out.grow g7); have HBN := hidden (HBN.out.grow g7); have ho := HBO.out.cell 0; simp only [List.getElem?_cons_zero] at ho; clear g7) | (go_at_call 16; refine (HSM.out _ HG.out).mono ?_; rintro e w8 ⟨rfl, rfl⟩))
    refine (HLA.out _ HG.out).mono ?_
    rintro e w3 ⟨rfl, g3⟩
    have HG := hidden (HG.out.of_below g3)
    have HBO := hidden (HBO.out.grow g3)
    have HBN := hidden (HBN.out.grow g3)
    clear ho g3
    go_wp2_with fail
    refine (HRA.out _ HG.out).mono ?_
    rintro e w4 ⟨rfl, rfl⟩
    go_wp2_with fail
    have HST := hidden (show AccSt w3.heap.size w.heap.size (w.heap.size + 1) op n 0 (w3.alloc (.cells #[.int .i64 0] 3)) from
      ⟨Row.new w3 3 #[.int .i64 0] [.int .i64 0] rfl, HBO.out.grow (runGrow1 _), HBN.out.grow (runGrow1 _)⟩)
    have hlo := HBN.out.lt
    have hsz3 : (w3.alloc (.cells #[.int .i64 0] 3)).heap.size = w3.heap.size + 1 := by simp
    have HFL := hidden (lfilter_three (.slice A l.length c) l w3 (w3.alloc (.cells #[.int .i64 0] 3)) (.pointer (some ⟨w3.heap.size, 0, none⟩)) (.pointer (some ⟨w.heap.size, 0, none⟩)) (.pointer (some ⟨w.heap.size + 1, 0, none⟩)) (prd op n)
      (fun k W => AccSt w3.heap.size w.heap.size (w.heap.size + 1) op n k W) (HU.out.grow HG.out) HVAL.out (runGrow1 _) HST.out
      (fun _ _ _ h hb => h.keep hb (by omega) (by omega) (by omega))
      (fun k W x hk _ hst hg hsz => (acc_any w3.heap.size w.heap.size (w.heap.size + 1) op n x k W hst HOP.out (by omega) (by omega) (by omega)).mono fun e W' ⟨he, hst2, hw⟩ => ⟨he, hst2, by rw [hw]; exact hg.setCell (p := ⟨w3.heap.size, 0, none⟩) (Nat.le_refl _) _, by
        rw [hw]
        exact ⟨by simp [World.setCell], fun b hb1 hb2 => Below.heap_setCell _ _ _ _ (by simp only; omega)⟩⟩)
      HIN.out)
    clear hsz3 hlo
    refine HFL.out.mono ?_
    rintro e w5 ⟨g, hgl, rfl, hrow, hst, hg5⟩
    have HST := hidden hst
    obtain ⟨N, hN⟩ : ∃ N, N = (expR l).length := ⟨_, rfl⟩
    obtain ⟨F, hF⟩ : ∃ F, F = selF op n (expR l) := ⟨_, rfl⟩
    have hacc : accF (prd op n) (expR l) = F := by rw [hF]; rfl
    rw [hacc] at hrow
    rw [← hN] at hrow hel ⊢
    rw [← hN, ← hF] at HMT
    have HIP := hidden (IsPair.grow (show IsPair w5 (.agg #[.int .i64 (N : Int), .slice (some ⟨g, 0, none⟩) (nw N) (nw N)]) (N : Int) (pack N F) from
      ⟨_, rfl, Reads.of_row hrow _ _ (by rw [ucells_length, pack_length]) (Nat.le_refl _), by rw [pack_length]; unfold nw; omega⟩) (runGrow1 (.cells #[.int .i64 (N : Int), .slice (some ⟨g, 0, none⟩) (nw N) (nw N)] 39)))
    have HVR := hidden (Row.new w5 39 #[.int .i64 (N : Int), .slice (some ⟨g, 0, none⟩) (nw N) (nw N)] [.int .i64 (N : Int), .slice (some ⟨g, 0, none⟩) (nw N) (nw N)] rfl)
    have HG := hidden ((HG.out.of_below hg5).of_below (runGrow1 (.cells #[.int .i64 (N : Int), .slice (some ⟨g, 0, none⟩) (nw N) (nw N)] 39)))
    clear hN hF hacc hrow hst hg5 hgl HFL
    go_wp2_with fail
    obtain ⟨W6, hW6⟩ : ∃ W, W = w5.alloc (.cells #[.int .i64 (N : Int), .slice (some ⟨g, 0, none⟩) (nw N) (nw N)] 39) := ⟨_, rfl⟩
    have HQ := hidden (fun w' (h : Grows W6 w') => by
      have h5 : Grows w5 w' := by rw [hW6] at h; exact (runGrow1 _).of_below h
      have hv : Row w' w5.heap.size 39 [.int .i64 (N : Int), .slice (some ⟨g, 0, none⟩) (nw N) (nw N)] := by rw [hW6] at h; exact HVR.out.grow h
      exact And.intro ((HST.out.cnt.grow h5).cell 0) (And.intro ((HST.out.opr.grow h5).cell 0) (And.intro ((HST.out.num.grow h5).cell 0) (And.intro (hv.cell 0) (hv.cell 1)))))
    simp only [List.getElem?_cons_zero, List.getElem?_cons_succ] at HQ
    rw [← hW6] at HIP HG ⊢
    clear hW6
    have HPE := hidden (pairEq_t (na := (N : Int)) (nb := (N : Int)) (wa := pack N F) (wb := pack N F) ⟨rfl, rfl⟩)
    refine wp_region_loose (tabRs [(9, fun v w => IsPair w v (N : Int) (pack N F)), (10, ConstV (.bool true)), (13, ConstV (.bool true))]) (by kernel_rfl) (by kernel_rfl) (tabRs_cons IsPair.lasts (tabRs_cons ConstV.lasts (tabRs_cons ConstV.lasts tabRs_nil))) ?_
    iterate 9 ((with_reducible refine loose_one (v := ?_) (a' := ?_) ?_ ?_ (fun w' hC' hG' => ?_) ?_ ?_); rotate_left 2; (focus rfl); (focus rfl); (focus (obtain ⟨q1, q2, q3, q4, q5⟩ := HQ.out w' hC'; clear hC' hG'; go_simp; rfl)); (focus (go_simp; rfl)))
    refine loose_call (R := fun v w => IsPair w v (N : Int) (pack N F)) (f := 23) (args := #[.slice A l.length c, .int .i64 op, .int .i64 n]) (by rfl) (by rfl) (fun _ => by go_simp) (fun w' hC' hG' => HMT.out w' (HG.out.of_below hC')) ?_
    intro v9 _
    refine ⟨?_, ?_, ?_⟩
    rotate_left
    · go_simp
      rfl
    refine loose_call (R := ConstV (.bool true)) (f := 22) (args := #[.agg #[.int .i64 (N : Int), .slice (some ⟨g, 0, none⟩) (nw N) (nw N)], v9]) (by rfl) (by rfl) (fun _ => by go_simp) (fun w' hC' hG' => const_loose (HPE.out ▸ sameBits_any _ v9 (N : Int) (N : Int) (pack N F) (pack N F) w' (HIP.out.grow hC') ((hG' 9 (by kernel_rfl)).2 rfl))) ?_
    rintro _ ⟨_, _, rfl⟩
    refine ⟨?_, ?_, ?_⟩
    rotate_left
    · go_simp
      rfl
    iterate 2 ((with_reducible refine loose_one (v := ?_) (a' := ?_) ?_ ?_ (fun w' hC' hG' => ?_) ?_ ?_); rotate_left 2; (focus rfl); (focus rfl); (focus (obtain ⟨q1, q2, q3, q4, q5⟩ := HQ.out w' hC'; clear hC' hG'; go_simp; rfl)); (focus (go_simp; rfl)))
    refine loose_call (R := ConstV (.bool true)) (f := 10) (args := #[]) (by rfl) (by rfl) (fun _ => by go_simp) (fun w' hC' hG' => const_loose (rlawake_any w')) ?_
    rintro _ ⟨_, _, rfl⟩
    refine ⟨?_, ?_, ?_⟩
    rotate_left
    · go_simp
      rfl
    iterate 2 ((with_reducible refine loose_one (v := ?_) (a' := ?_) ?_ ?_ (fun w' hC' hG' => ?_) ?_ ?_); rotate_left 2; (focus rfl); (focus rfl); (focus (obtain ⟨q1, q2, q3, q4, q5⟩ := HQ.out w' hC'; clear hC' hG'; go_simp; rfl)); (focus (go_simp; rfl)))
    refine loose_done (fun w7 hC' hG' => ?_)
    clear hG'
    go_wp2_with fail
    all_goals (go_ret; exact ⟨rfl, HG.out.of_below hC'⟩)
end Go.Proofs.Ytnjmbhakfecdoaa
