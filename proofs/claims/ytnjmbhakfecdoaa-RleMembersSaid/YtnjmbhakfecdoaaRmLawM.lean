/-
  The walk of the law RleMembers: it returns true for all integers; nothing that was there is changed.
-/
import Derived.Test.YtnjmbhakfecdoaaRmT
import Derived.Test.YtnjmbhakfecdoaaRm9
namespace Go.Proofs.Ytnjmbhakfecdoaa
open Go.RowKit
set_option linter.unusedVariables false
set_option linter.unusedSimpArgs false

theorem at_runs {vs : List Int} (j : Nat) (h : j < vs.length) : atV (runsR vs) (j : Int) = (vs[j], true) := by
  have h1 := atR_exp (l := runsR vs) (fun x hx => by have := runsR_pos' vs x hx; omega) j
  rw [expR_runs, List.getElem?_eq_getElem h] at h1
  exact atV_some (by omega) h1
theorem at_end (vs : List Int) : atV (runsR vs) (vs.length : Int) = (0, false) := by
  have h1 := atR_exp (l := runsR vs) (fun x hx => by have := runsR_pos' vs x hx; omega) vs.length
  rw [expR_runs, List.getElem?_eq_none (Nat.le_refl _)] at h1
  exact atV_none (by omega) h1
theorem in64_exp {l : List Rn} (hn : ∀ x ∈ l, 1 ≤ x.2) (h : ∀ v ∈ expR l, in64 v) : ∀ x ∈ l, in64 x.1 := by
  intro x hx
  apply h
  induction l with
  | nil => cases hx
  | cons y l ih =>
    rw [expR, List.mem_append]
    rcases List.mem_cons.1 hx with rfl | hx
    · refine .inl ?_
      have := hn x (List.mem_cons_self ..)
      rw [List.mem_replicate]
      exact ⟨by omega, rfl⟩
    · exact .inr (ih (fun z hz => hn z (List.mem_cons_of_mem _ hz)) (fun v hv => h v (by rw [expR, List.mem_append]; exact .inr hv)) hx)
theorem runs_in {vs : List Int} (h : ∀ v ∈ vs, in64 v) : ∀ x ∈ runsR vs, in64 x.1 := in64_exp (runsR_pos' vs) (by rw [expR_runs]; exact h)
def MemRel (w5 : World) (n : Nat) (i : Value) (wr : World) : Prop := ∃ j : Nat, j ≤ n ∧ i = .int .i64 (j : Int) ∧ Grows w5 wr
set_option maxHeartbeats 4000000 in
theorem law_members (v : Value) (vs : List Int) (n : Int) (w : World) (hv : IsI w v vs) (hin : ∀ x ∈ vs, in64 x) (hvl : vs.length ≤ 140737488351232) :
    Calls Try.prog 7 #[v, .int .i64 n] w fun e w' => e = .returned (.bool true) ∧ Below w.heap.size w w' := by
  have HV := hidden hv
  have HBX := hidden (Row.new w 2 #[.int .i64 n] [.int .i64 n] rfl)
  have HG := hidden (show Grows w (w.alloc (.cells #[.int .i64 n] 2)) from runGrow1 _)
  obtain ⟨A, c, rfl⟩ := hv.slice_
  clear hv
  by_cases hbig : 2000 < vs.length
  · have hd : decide ((2000 : Int) < (vs.length : Int)) = true := by simp; omega
    go_enter Try.func7, Try.ntmps7
    go_wp2_with ((go_at_call 10; refine (rlawake_any _).mono ?_; rintro e w2 ⟨rfl, g2⟩; have HG := hidden (HG.out.of_below g2); clear g2))
    go_ret
    exact ⟨rfl, HG.out⟩
  have hd : decide ((2000 : Int) < (vs.length : Int)) = false := by simp; omega
  have hl2 : vs.length ≤ 2000 := by omega
  have hval := runs_valid (vs := vs) (by omega)
  have HVAL := hidden hval
  have HRIN := hidden (runs_in hin)
  have hrl := valid_length hval
  have HPR := hidden (lruns_any (.slice A vs.length c) vs _ (HV.out.grow HG.out) (by omega))
  have HAT := hidden (fun w' u (h : ReadsR w' u (runsR vs)) (i : Nat) (hi : i < vs.length) => at_runs i hi ▸ lat_any u (runsR vs) (i : Int) w' h (fun x hx => by have := runsR_pos' vs x hx; omega) (by omega) (by omega))
  have HAE := hidden (fun w' u (h : ReadsR w' u (runsR vs)) => at_end vs ▸ lat_any u (runsR vs) (vs.length : Int) w' h (fun x hx => by have := runsR_pos' vs x hx; omega) (by omega) (by omega))
  clear hbig hval hin
  go_enter Try.func7, Try.ntmps7
  go_wp2_with fail
  refine HPR.out.mono ?_
  rintro e w2 ⟨u1, rfl, g2, hu1⟩
  have HU1 := hidden hu1
  have HBX := hidden (HBX.out.grow g2)
  have HG := hidden (HG.out.of_below g2)
  have hbl := HBX.out.lt
  have HFL := hidden (lfilter_one u1 (runsR vs) w2 w2 (.pointer (some ⟨w.heap.size, 0, none⟩)) (fun x => decide (x < n)) (fun _ W => Row W w.heap.size 2 [.int .i64 n]) hu1 HVAL.out (Below.refl _ _) HBX.out
    (fun _ _ _ h hb => (hb.block _ hbl).trans h)
    (fun k W x _ _ hst hg _ => (mem_lit_any w.heap.size n x W hst).mono fun e W' ⟨he, hw⟩ => ⟨he, by rw [hw]; exact hst, by rw [hw]; exact hg, by rw [hw]; exact ⟨Nat.le_refl _, fun _ _ _ => rfl⟩⟩)
    HRIN.out)
  clear g2 hu1 hbl
  go_wp2_with fail
  refine HFL.out.mono ?_
  rintro e w3 ⟨g, hgl, rfl, hrow, hst, hg3⟩
  rw [expR_runs] at hrow ⊢
  obtain ⟨F, hF⟩ : ∃ F, F = accF (fun x => decide (x < n)) vs := ⟨_, rfl⟩
  have HFJ := hidden (show ∀ j, (h : j < vs.length) → F j = decide (vs[j] < n) from fun j h => by rw [hF]; unfold accF; rw [List.getD_eq_getElem?_getD, List.getElem?_eq_getElem h]; rfl)
  rw [← hF] at hrow
  have his : IsSet w3 (.agg #[.int .i64 (vs.length : Int), .slice (some ⟨g, 0, none⟩) (nw vs.length) (nw vs.length)]) vs.length (pack vs.length F) :=
    ⟨_, rfl, Reads.of_row hrow _ _ (by rw [ucells_length, pack_length]) (Nat.le_refl _), by rw [pack_length]; unfold nw; omega, by omega⟩
  have HIS := hidden (his.grow (runGrow1 (.cells #[.int .i64 (vs.length : Int), .slice (some ⟨g, 0, none⟩) (nw vs.length) (nw vs.length)] 39)))
  have HVD := hidden (rvalid_any _ (vs.length : Int) (pack vs.length F) _ (HIS.out.pair (by rw [pack_length]; unfold nw; omega)) (by omega) (by omega))
  rw [validI_t (show validP (vs.length : Int) (pack vs.length F) from ⟨by omega, by omega, by rw [Int.toNat_natCast]; exact okW_pack _ _⟩)] at HVD
  have HVR := hidden (Row.new w3 39 #[.int .i64 (vs.length : Int), .slice (some ⟨g, 0, none⟩) (nw vs.length) (nw vs.length)] [.int .i64 (vs.length : Int), .slice (some ⟨g, 0, none⟩) (nw vs.length) (nw vs.length)] rfl)
  have HNR := hidden (Row.grow hst (runGrow1 (.cells #[.int .i64 (vs.length : Int), .slice (some ⟨g, 0, none⟩) (nw vs.length) (nw vs.length)] 39)))
  have HU1 := hidden ((HU1.out.grow hg3).grow (runGrow1 (.cells #[.int .i64 (vs.length : Int), .slice (some ⟨g, 0, none⟩) (nw vs.length) (nw vs.length)] 39)))
  have HG := hidden ((HG.out.of_below hg3).of_below (runGrow1 (.cells #[.int .i64 (vs.length : Int), .slice (some ⟨g, 0, none⟩) (nw vs.length) (nw vs.length)] 39)))
  clear hF hst hg3 hrow his hgl
  go_wp2_with fail
  refine HVD.out.mono ?_
  rintro e w5 ⟨rfl, g5⟩
  have HIS := hidden (HIS.out.grow g5)
  have HVR := hidden (HVR.out.grow g5)
  have HNR := hidden (HNR.out.grow g5)
  have HU1 := hidden (HU1.out.grow g5)
  have HG := hidden (HG.out.of_below g5)
  have v0 := HVR.out.cell 0
  have v1 := HVR.out.cell 1
  simp only [List.getElem?_cons_zero, List.getElem?_cons_succ] at v0 v1
  clear g5
  go_wp2_with fail
  clear v0 v1
  go_loopw [7] (fun i wr => MemRel w5 vs.length i wr) (fun i _ => vs.length - (intOf i).toNat)
  case atStart => exact ⟨0, by omega, rfl, Below.refl _ _⟩
  case round =>
    obtain ⟨j, hj, rfl, hb⟩ := hrel
    have HB := hidden hb
    clear hb
    by_cases hlt : j < vs.length
    · have HA1 := hidden (HAT.out wr u1 (HU1.out.grow HB.out) j hlt)
      have HFJ := hidden (HFJ.out j hlt)
      obtain ⟨b, f, rfl, hcell⟩ := (HV.out.grow HG.out).at_ hlt
      generalize vs[j] = x at *
      have hbl := World.block_lt_of_cell? _ _ hcell
      have HQ := hidden (fun w' (h : Grows w5 w') => And.intro ((h.cell hbl).trans hcell) (And.intro ((HNR.out.grow h).cell 0) (And.intro ((HVR.out.grow h).cell 0) ((HVR.out.grow h).cell 1))))
      simp only [List.getElem?_cons_zero, List.getElem?_cons_succ] at HQ
      have HCN := hidden (fun w' (h : Grows w5 w') => rcontains_any _ vs.length (pack vs.length F) (j : Int) w' (HIS.out.grow h) (by omega) (by omega))
      have hm : memI vs.length (pack vs.length F) (j : Int) = decide (x < n) := by rw [memI_nat, mem_pack, HFJ.out]; simp [hlt]
      rw [hm] at HCN
      have hdj : decide (j < vs.length) = true := by simpa using hlt
      clear hm hcell hbl
      go_wp2_with fail
      refine HA1.out.mono ?_
      rintro e w6 ⟨rfl, g6⟩
      have HB6 := hidden (HB.out.of_below g6)
      clear g6
      go_wp2_with fail
      have hj0 : (0 : Int) ≤ (j : Int) := by omega
      have hj1 : (j : Int) < (vs.length : Int) := by omega
      cases hx : decide (x < n)
      · rw [hx] at HCN
        refine wp_region_loose (tabRs [(13, ConstV (.bool false))]) (by kernel_rfl) (by kernel_rfl) (tabRs_cons ConstV.lasts tabRs_nil) ?_
        iterate 13 ((with_reducible refine loose_one (v := ?_) (a' := ?_) ?_ ?_ (fun w' hC' hG' => ?_) ?_ ?_); rotate_left 2; (focus rfl); (focus rfl); (focus (obtain ⟨q1, q2, q3, q4⟩ := HQ.out w' (HB6.out.of_below hC'); clear hC' hG'; go_simp; rfl)); (focus (go_simp; rfl)))
        refine loose_call (R := ConstV (.bool false)) (f := 30) (args := #[.agg #[.int .i64 (vs.length : Int), .slice (some ⟨g, 0, none⟩) (nw vs.length) (nw vs.length)], .int .i64 (j : Int)]) (by rfl) (by rfl) (fun _ => by go_simp) (fun w' hC' hG' => const_loose (HCN.out w' (HB6.out.of_below hC'))) ?_
        rintro _ ⟨_, _, rfl⟩
        refine ⟨?_, ?_, ?_⟩
        rotate_left
        · go_simp
          rfl
        iterate 5 ((with_reducible refine loose_one (v := ?_) (a' := ?_) ?_ ?_ (fun w' hC' hG' => ?_) ?_ ?_); rotate_left 2; (focus rfl); (focus rfl); (focus (obtain ⟨q1, q2, q3, q4⟩ := HQ.out w' (HB6.out.of_below hC'); clear hC' hG'; go_simp; rfl)); (focus (go_simp; rfl)))
        refine loose_done (fun w7 hC' hG' => ?_)
        clear hG'
        go_wp2_with fail
        go_roundw
        case rel => exact ⟨j + 1, by omega, by go_num, HB6.out.of_below hC'⟩
        case measure => simp [intOf]; omega
      · rw [hx] at HCN
        refine wp_region_loose (tabRs [(13, ConstV (.bool true))]) (by kernel_rfl) (by kernel_rfl) (tabRs_cons ConstV.lasts tabRs_nil) ?_
        iterate 13 ((with_reducible refine loose_one (v := ?_) (a' := ?_) ?_ ?_ (fun w' hC' hG' => ?_) ?_ ?_); rotate_left 2; (focus rfl); (focus rfl); (focus (obtain ⟨q1, q2, q3, q4⟩ := HQ.out w' (HB6.out.of_below hC'); clear hC' hG'; go_simp; rfl)); (focus (go_simp; rfl)))
        refine loose_call (R := ConstV (.bool true)) (f := 30) (args := #[.agg #[.int .i64 (vs.length : Int), .slice (some ⟨g, 0, none⟩) (nw vs.length) (nw vs.length)], .int .i64 (j : Int)]) (by rfl) (by rfl) (fun _ => by go_simp) (fun w' hC' hG' => const_loose (HCN.out w' (HB6.out.of_below hC'))) ?_
        rintro _ ⟨_, _, rfl⟩
        refine ⟨?_, ?_, ?_⟩
        rotate_left
        · go_simp
          rfl
        iterate 5 ((with_reducible refine loose_one (v := ?_) (a' := ?_) ?_ ?_ (fun w' hC' hG' => ?_) ?_ ?_); rotate_left 2; (focus rfl); (focus rfl); (focus (obtain ⟨q1, q2, q3, q4⟩ := HQ.out w' (HB6.out.of_below hC'); clear hC' hG'; go_simp; rfl)); (focus (go_simp; rfl)))
        refine loose_done (fun w7 hC' hG' => ?_)
        clear hG'
        go_wp2_with fail
        go_roundw
        case rel => exact ⟨j + 1, by omega, by go_num, HB6.out.of_below hC'⟩
        case measure => simp [intOf]; omega
    · have hke : j = vs.length := by omega
      subst hke
      have HA1 := hidden (HAE.out wr u1 (HU1.out.grow HB.out))
      have HG := hidden (HG.out.of_below HB.out)
      go_wp2_with fail
      refine HA1.out.mono ?_
      rintro e w6 ⟨rfl, g6⟩
      have HG := hidden (HG.out.of_below g6)
      clear g6
      go_wp2_with ((go_at_call 10; refine (rlawake_any _).mono ?_; rintro e w7 ⟨rfl, g7⟩; have HG := hidden (HG.out.of_below g7); clear g7))
      go_ret
      exact ⟨rfl, HG.out⟩
end Go.Proofs.Ytnjmbhakfecdoaa
