/-
  Texts that the claims of this seat share, put together (Sq6, Sq7, Sq8). No condition.
-/
import Derived.Test.YtoaklmceejeblaaGreatM16
import Derived.Test.YtoaklmceejeblaaGreatM9
import Derived.Laws.CopyOwn
import Derived.Deep.WholeRow
/-
  Shaken: what the claims of this seat need of this text. No condition.
-/
namespace Go.Proofs.YtoaklmceejeblaaGreat
open Go.RowKit
set_option linter.unusedVariables false
set_option linter.unusedSimpArgs false
set_option maxRecDepth 20000 in
theorem zero256 : (Tryz.prog.info? 67).map (fun i => (i.zero, i.size)) = some (some (.agg (Array.replicate 256 (.int .i64 0))), 256) := by kernel_rfl
def crow (cm : List Int) (k : Nat) : List Int := cm.take (64 * k) ++ List.replicate (256 - 64 * k) 0
theorem crow_length {cm : List Int} (h : cm.length = 256) {k : Nat} (hk : k ≤ 4) : (crow cm k).length = 256 := by simp [crow, h]; omega
theorem crow_zero (cm : List Int) : icells (crow cm 0) = List.replicate 256 (Value.int .i64 0) := by
  unfold crow icells
  rw [Nat.mul_zero, List.take_zero, List.nil_append, Nat.sub_zero, List.map_replicate]
theorem crow_four {cm : List Int} (h : cm.length = 256) : crow cm 4 = cm := by
  unfold crow
  rw [List.take_of_length_le (by omega), show 256 - 64 * 4 = 0 from rfl, List.replicate_zero, List.append_nil]
theorem crow_succ {cm : List Int} (h : cm.length = 256) {k : Nat} (hk : k < 4) : splice (icells (crow cm k)) (64 * k) (icells ((cm.drop (64 * k)).take 64)) = icells (crow cm (k + 1)) := by
  have hl : (icells ((cm.drop (64 * k)).take 64)).length = 64 := by rw [icells_length, List.length_take, List.length_drop]; omega
  have e : ∀ a b : List Int, icells (a ++ b) = icells a ++ icells b := fun a b => by simp [icells]
  unfold splice
  rw [hl]
  unfold crow
  have h1 : (icells (cm.take (64 * k))).length = 64 * k := by rw [icells_length, List.length_take]; omega
  rw [e, e, List.take_append_of_le_length (by rw [h1]; exact Nat.le_refl _), List.take_of_length_le (l := icells (cm.take (64 * k))) (by rw [h1]; exact Nat.le_refl _), List.drop_append, (show List.drop (64 * k + 64) (icells (cm.take (64 * k))) = [] from List.drop_eq_nil_of_le (by rw [h1]; omega)), List.nil_append, h1]
  have h2 : icells (cm.take (64 * (k + 1))) = icells (cm.take (64 * k)) ++ icells ((cm.drop (64 * k)).take 64) := by
    rw [← e, show 64 * (k + 1) = 64 * k + 64 by omega, List.take_add]
  rw [h2, List.append_assoc]
  congr 2
  have h3 : ∀ n, icells (List.replicate n 0) = List.replicate n (Value.int .i64 0) := fun n => by simp [icells]
  rw [h3, h3, List.drop_replicate]
  congr 1
  omega
theorem icells_oneCell (l : List Int) : (icells l).toArray.all (·.oneCell') = true := by
  rw [Array.all_eq_true_iff_forall_mem]
  intro v hv
  simp only [icells, List.mem_toArray, List.mem_map] at hv
  obtain ⟨j, _, rfl⟩ := hv
  rfl
theorem icells_oneCell_mem (l : List Int) : ∀ v ∈ icells l, v.oneCell' = true := by
  intro v hv
  simp only [icells, List.mem_map] at hv
  obtain ⟨j, _, rfl⟩ := hv
  rfl
theorem size_int1 : (Tryz.prog.info? 3).map (·.size) = some 1 := by kernel_rfl
theorem add_addr16 (b o j : Nat) : (⟨b, o, none⟩ : Addr).add j = ⟨b, o + j, none⟩ := by
  unfold Addr.add
  split
  · rename_i h; subst h; rfl
  · rfl
def CofRel (w : World) (cm : List Int) (r i u : Value) (wr : World) : Prop :=
  ∃ k : Nat, k ≤ 4 ∧ u = .int .i64 (k : Int) ∧ Row wr (w.heap.size + 1) 67 (icells (crow cm k)) ∧ Row wr w.heap.size 67 (icells (crow cm 0)) ∧ Grows w wr
set_option maxRecDepth 8000 in
set_option maxHeartbeats 4000000 in
theorem qcountersOf_any (v : Value) (cm : List Int) (w : World) (hv : Reads w v (icells cm)) (hl : cm.length = 256) :
    Calls Tryz.prog 59 #[v] w fun e w' => e = .returned (.agg (icells cm).toArray) ∧ Grows w w' := by
  obtain ⟨hz, hi⟩ := zero_of_info (P := Tryz.prog) zero256
  have HL := hidden hl
  have HV := hidden hv
  obtain ⟨A, c, rfl, hle, hc⟩ := hv
  rw [icells_length, hl] at hc hle
  obtain ⟨b, off, rfl, hcell⟩ := hc (by decide)
  clear hcell hc
  rw [icells_length, hl] at HV
  rw [icells_length, hl]
  go_enter Tryz.func59, Tryz.ntmps59
  go_wp2_with fail
  rw [show Array.replicate 256 (Value.int .i64 0) = (icells (crow cm 0)).toArray by rw [crow_zero, List.toArray_replicate]]
  have h1 := hidden (Row.at_ (w.alloc (.cells (icells (crow cm 0)).toArray 67)) 67 (icells (crow cm 0)).toArray (icells (crow cm 0)) rfl (w.heap.size + 1) (by simp))
  have h0 := hidden ((Row.new w 67 (icells (crow cm 0)).toArray (icells (crow cm 0)) rfl).grow (growK _ (.cells (icells (crow cm 0)).toArray 67)))
  have hb := hidden ((growK w (.cells (icells (crow cm 0)).toArray 67)).of_below (growK _ (.cells (icells (crow cm 0)).toArray 67)))
  go_loopw [4, 5, 6] (fun r i u wr => CofRel w cm r i u wr) (fun _ _ u _ => 4 - (intOf u).toNat)
  case atStart => exact ⟨0, by omega, rfl, h1.out, h0.out, hb.out⟩
  case round =>
    obtain ⟨k, hk, hu, r1, r0, hbw⟩ := hrel
    have R1 := hidden r1
    have R0 := hidden r0
    have B0 := hidden hbw
    clear r1 r0 hbw h1 h0 hb
    have hkk : k = 4 ∨ k = 0 ∨ k = 1 ∨ k = 2 ∨ k = 3 := by omega
    clear hk
    rcases hkk with rfl | rfl | rfl | rfl | rfl
    · have hu2 : u6 = .int .i64 4 := hu
      subst hu2
      clear hu
      rw [crow_four HL.out] at R1
      generalize hT : icells cm = T at *
      have hTL : T.toArray.size = 256 := by rw [List.size_toArray, ← hT, icells_length, HL.out]
      have H1 := hidden (show wr.heap[w.heap.size + 1]? = some (.cells T.toArray 67 (0, 0)) from R1.out)
      have H0 := hidden (show wr.heap[w.heap.size]? = some (.cells (icells (crow cm 0)).toArray 67 (0, 0)) from R0.out)
      have HI := hidden (show (Tryz.prog.info? 67).map (·.size) = some T.toArray.size by rw [hi, hTL])
      have HS := hidden (show (icells (crow cm 0)).toArray.size = T.toArray.size by rw [hTL, List.size_toArray, icells_length, crow_length HL.out (by omega)])
      have HO := hidden (show T.toArray.all (·.oneCell') = true by rw [← hT]; exact icells_oneCell _)
      go_wp2_with (first
        | (refine wpList_load_row rfl _ _ rfl (w.heap.size + 1) rfl 67 T.toArray (0, 0) _ H1.out Tryz.underlying67 rfl HI.out ?_)
        | (refine wpList_store_row rfl _ _ _ rfl w.heap.size T.toArray rfl rfl _ _ H0.out HI.out HS.out HO.out ?_))
      refine bodyPost_ret (results_cell_row rfl _ _ w.heap.size 67 T.toArray (0, 0) _ rfl (setRow_heap wr w.heap.size _ _ _ _ H0.out) Tryz.underlying67 rfl HI.out) rfl ⟨by rw [hT], below_setRow B0.out (Nat.le_refl _) _⟩
    · have hu2 : u6 = .int .i64 0 := hu
      subst hu2
      clear hu
      have HSP := hidden (crow_succ HL.out (show 0 < 4 by decide))
      have HCL := hidden (show (icells (crow cm 0)).length = 256 by rw [icells_length, crow_length HL.out (by omega)])
      have HNL := hidden (show (icells ((cm.drop (64 * 0)).take 64)).length = 64 by rw [icells_length, List.length_take, List.length_drop, HL.out]; rfl)
      have hcn : ¬ c = 0 := by omega
      have HSRC := hidden (show ∀ j v, (icells ((cm.drop (64 * 0)).take 64))[j]? = some v → wr.cell? ⟨b, off + 0 + j, none⟩ = some v by
        intro j v hj
        have hjl : j < 64 := by
          rcases Nat.lt_or_ge j 64 with h | h
          · exact h
          · rw [List.getElem?_eq_none (by rw [HNL.out]; exact h)] at hj; cases hj
        obtain ⟨A', c', he, _, hc⟩ := HV.out.grow B0.out
        injection he with e1 e2 e3
        obtain ⟨b', off', e4, hcc⟩ := hc (by rw [icells_length, HL.out]; decide)
        rw [e4] at e1
        injection e1 with e1
        injection e1 with e5 e6
        subst e5 e6
        have h2 := hcc (0 + j) (by rw [icells_length, HL.out]; omega)
        rw [← Nat.add_assoc] at h2
        rw [h2, ← hj]
        simp only [icells, List.getElem?_map, List.getElem?_take, hjl, if_true, List.getElem?_drop])
      have HON := hidden (icells_oneCell_mem ((cm.drop (64 * 0)).take 64))
      generalize icells ((cm.drop (64 * 0)).take 64) = cs at *
      go_wp2_with fail
      simp only [show min (0 : Int) 256 = 0 from by decide]
      refine wp_region_loose_tail 6 (tabRs []) (by kernel_rfl) (by kernel_rfl) tabRs_nil ?_
      simp only [List.take_succ_cons, List.take_zero, List.drop_succ_cons, List.drop_zero]
      iterate 6 ((with_reducible refine loose_one (v := ?_) (a' := ?_) ?_ ?_ (fun w' hC' hG' => ?_) ?_ ?_); rotate_left 2; (focus rfl); (focus rfl); (focus (clear hC' hG'; go_simp; rfl)); (focus (go_simp; rfl)))
      refine loose_done (fun w9 hC' hG' => ?_)
      clear hG'
      have HW9 := hidden (show Below (w.heap.size + 1) wr w9 from Below.mono hC' (Nat.le_of_lt R1.out.lt))
      have HR9 := hidden (R1.out.grow hC')
      have HC9 := hidden (fun j v (h : cs[j]? = some v) => (hC'.cell (World.block_lt_of_cell? _ _ (HSRC.out j v h))).trans (HSRC.out j v h))
      clear hC'
      refine wpList_copy_splice rfl (.tmp 16) (.tmp 19) _ _ rfl 3 Tryz.underlying27 size_int1 (some ⟨w.heap.size + 1, 0, none⟩) (some ⟨b, off + 0, none⟩) 64 64 256 (c - 0) rfl rfl (w.heap.size + 1) 0 (icells (crow cm 0)) 67 HR9.out cs (by rw [HNL.out]; rfl) (fun _ => ⟨rfl, _, rfl, fun j v hj => by rw [add_addr16]; exact HC9.out j v hj⟩) (by rw [HNL.out, HCL.out]; decide) HON.out (w.heap.size + 1) wr HW9.out (Nat.le_refl _) ?_
      intro w2 hg2 hb2
      have HR2 := hidden (show Row w2 (w.heap.size + 1) 67 (icells (crow cm 1)) by
        have h := hg2.out
        rw [show splice (icells (crow cm 0)) 0 cs = icells (crow cm 1) from HSP.out] at h
        exact h)
      have HZ2 := hidden (show Row w2 w.heap.size 67 (icells (crow cm 0)) by
        have h := R0.out
        unfold Row at h ⊢
        exact (hb2.block _ (Nat.lt_succ_self _)).trans h)
      have HB2 := hidden (B0.out.trans (Below.mono hb2 (Nat.le_succ _)))
      clear hg2 hb2
      go_wp2_with fail
      go_roundw
      case rel => exact ⟨1, by omega, rfl, HR2.out, HZ2.out, HB2.out⟩
      case measure => simp [intOf]
    · have hu2 : u6 = .int .i64 1 := hu
      subst hu2
      clear hu
      have HSP := hidden (crow_succ HL.out (show 1 < 4 by decide))
      have HCL := hidden (show (icells (crow cm 1)).length = 256 by rw [icells_length, crow_length HL.out (by omega)])
      have HNL := hidden (show (icells ((cm.drop (64 * 1)).take 64)).length = 64 by rw [icells_length, List.length_take, List.length_drop, HL.out]; rfl)
      have hcn : ¬ c = 64 := by omega
      have HSRC := hidden (show ∀ j v, (icells ((cm.drop (64 * 1)).take 64))[j]? = some v → wr.cell? ⟨b, off + 64 + j, none⟩ = some v by
        intro j v hj
        have hjl : j < 64 := by
          rcases Nat.lt_or_ge j 64 with h | h
          · exact h
          · rw [List.getElem?_eq_none (by rw [HNL.out]; exact h)] at hj; cases hj
        obtain ⟨A', c', he, _, hc⟩ := HV.out.grow B0.out
        injection he with e1 e2 e3
        obtain ⟨b', off', e4, hcc⟩ := hc (by rw [icells_length, HL.out]; decide)
        rw [e4] at e1
        injection e1 with e1
        injection e1 with e5 e6
        subst e5 e6
        have h2 := hcc (64 + j) (by rw [icells_length, HL.out]; omega)
        rw [← Nat.add_assoc] at h2
        rw [h2, ← hj]
        simp only [icells, List.getElem?_map, List.getElem?_take, hjl, if_true, List.getElem?_drop])
      have HON := hidden (icells_oneCell_mem ((cm.drop (64 * 1)).take 64))
      generalize icells ((cm.drop (64 * 1)).take 64) = cs at *
      go_wp2_with fail
      simp only [show min (64 : Int) 256 = 64 from by decide]
      refine wp_region_loose_tail 6 (tabRs []) (by kernel_rfl) (by kernel_rfl) tabRs_nil ?_
      simp only [List.take_succ_cons, List.take_zero, List.drop_succ_cons, List.drop_zero]
      iterate 6 ((with_reducible refine loose_one (v := ?_) (a' := ?_) ?_ ?_ (fun w' hC' hG' => ?_) ?_ ?_); rotate_left 2; (focus rfl); (focus rfl); (focus (clear hC' hG'; go_simp; rfl)); (focus (go_simp; rfl)))
      refine loose_done (fun w9 hC' hG' => ?_)
      clear hG'
      have HW9 := hidden (show Below (w.heap.size + 1) wr w9 from Below.mono hC' (Nat.le_of_lt R1.out.lt))
      have HR9 := hidden (R1.out.grow hC')
      have HC9 := hidden (fun j v (h : cs[j]? = some v) => (hC'.cell (World.block_lt_of_cell? _ _ (HSRC.out j v h))).trans (HSRC.out j v h))
      clear hC'
      refine wpList_copy_splice rfl (.tmp 16) (.tmp 19) _ _ rfl 3 Tryz.underlying27 size_int1 (some ⟨w.heap.size + 1, 64, none⟩) (some ⟨b, off + 64, none⟩) 64 64 192 (c - 64) rfl rfl (w.heap.size + 1) 64 (icells (crow cm 1)) 67 HR9.out cs (by rw [HNL.out]; rfl) (fun _ => ⟨rfl, _, rfl, fun j v hj => by rw [add_addr16]; exact HC9.out j v hj⟩) (by rw [HNL.out, HCL.out]; decide) HON.out (w.heap.size + 1) wr HW9.out (Nat.le_refl _) ?_
      intro w2 hg2 hb2
      have HR2 := hidden (show Row w2 (w.heap.size + 1) 67 (icells (crow cm 2)) by
        have h := hg2.out
        rw [show splice (icells (crow cm 1)) 64 cs = icells (crow cm 2) from HSP.out] at h
        exact h)
      have HZ2 := hidden (show Row w2 w.heap.size 67 (icells (crow cm 0)) by
        have h := R0.out
        unfold Row at h ⊢
        exact (hb2.block _ (Nat.lt_succ_self _)).trans h)
      have HB2 := hidden (B0.out.trans (Below.mono hb2 (Nat.le_succ _)))
      clear hg2 hb2
      go_wp2_with fail
      go_roundw
      case rel => exact ⟨2, by omega, rfl, HR2.out, HZ2.out, HB2.out⟩
      case measure => simp [intOf]
    · have hu2 : u6 = .int .i64 2 := hu
      subst hu2
      clear hu
      have HSP := hidden (crow_succ HL.out (show 2 < 4 by decide))
      have HCL := hidden (show (icells (crow cm 2)).length = 256 by rw [icells_length, crow_length HL.out (by omega)])
      have HNL := hidden (show (icells ((cm.drop (64 * 2)).take 64)).length = 64 by rw [icells_length, List.length_take, List.length_drop, HL.out]; rfl)
      have hcn : ¬ c = 128 := by omega
      have HSRC := hidden (show ∀ j v, (icells ((cm.drop (64 * 2)).take 64))[j]? = some v → wr.cell? ⟨b, off + 128 + j, none⟩ = some v by
        intro j v hj
        have hjl : j < 64 := by
          rcases Nat.lt_or_ge j 64 with h | h
          · exact h
          · rw [List.getElem?_eq_none (by rw [HNL.out]; exact h)] at hj; cases hj
        obtain ⟨A', c', he, _, hc⟩ := HV.out.grow B0.out
        injection he with e1 e2 e3
        obtain ⟨b', off', e4, hcc⟩ := hc (by rw [icells_length, HL.out]; decide)
        rw [e4] at e1
        injection e1 with e1
        injection e1 with e5 e6
        subst e5 e6
        have h2 := hcc (128 + j) (by rw [icells_length, HL.out]; omega)
        rw [← Nat.add_assoc] at h2
        rw [h2, ← hj]
        simp only [icells, List.getElem?_map, List.getElem?_take, hjl, if_true, List.getElem?_drop])
      have HON := hidden (icells_oneCell_mem ((cm.drop (64 * 2)).take 64))
      generalize icells ((cm.drop (64 * 2)).take 64) = cs at *
      go_wp2_with fail
      simp only [show min (128 : Int) 256 = 128 from by decide]
      refine wp_region_loose_tail 6 (tabRs []) (by kernel_rfl) (by kernel_rfl) tabRs_nil ?_
      simp only [List.take_succ_cons, List.take_zero, List.drop_succ_cons, List.drop_zero]
      iterate 6 ((with_reducible refine loose_one (v := ?_) (a' := ?_) ?_ ?_ (fun w' hC' hG' => ?_) ?_ ?_); rotate_left 2; (focus rfl); (focus rfl); (focus (clear hC' hG'; go_simp; rfl)); (focus (go_simp; rfl)))
      refine loose_done (fun w9 hC' hG' => ?_)
      clear hG'
      have HW9 := hidden (show Below (w.heap.size + 1) wr w9 from Below.mono hC' (Nat.le_of_lt R1.out.lt))
      have HR9 := hidden (R1.out.grow hC')
      have HC9 := hidden (fun j v (h : cs[j]? = some v) => (hC'.cell (World.block_lt_of_cell? _ _ (HSRC.out j v h))).trans (HSRC.out j v h))
      clear hC'
      refine wpList_copy_splice rfl (.tmp 16) (.tmp 19) _ _ rfl 3 Tryz.underlying27 size_int1 (some ⟨w.heap.size + 1, 128, none⟩) (some ⟨b, off + 128, none⟩) 64 64 128 (c - 128) rfl rfl (w.heap.size + 1) 128 (icells (crow cm 2)) 67 HR9.out cs (by rw [HNL.out]; rfl) (fun _ => ⟨rfl, _, rfl, fun j v hj => by rw [add_addr16]; exact HC9.out j v hj⟩) (by rw [HNL.out, HCL.out]; decide) HON.out (w.heap.size + 1) wr HW9.out (Nat.le_refl _) ?_
      intro w2 hg2 hb2
      have HR2 := hidden (show Row w2 (w.heap.size + 1) 67 (icells (crow cm 3)) by
        have h := hg2.out
        rw [show splice (icells (crow cm 2)) 128 cs = icells (crow cm 3) from HSP.out] at h
        exact h)
      have HZ2 := hidden (show Row w2 w.heap.size 67 (icells (crow cm 0)) by
        have h := R0.out
        unfold Row at h ⊢
        exact (hb2.block _ (Nat.lt_succ_self _)).trans h)
      have HB2 := hidden (B0.out.trans (Below.mono hb2 (Nat.le_succ _)))
      clear hg2 hb2
      go_wp2_with fail
      go_roundw
      case rel => exact ⟨3, by omega, rfl, HR2.out, HZ2.out, HB2.out⟩
      case measure => simp [intOf]
    · have hu2 : u6 = .int .i64 3 := hu
      subst hu2
      clear hu
      have HSP := hidden (crow_succ HL.out (show 3 < 4 by decide))
      have HCL := hidden (show (icells (crow cm 3)).length = 256 by rw [icells_length, crow_length HL.out (by omega)])
      have HNL := hidden (show (icells ((cm.drop (64 * 3)).take 64)).length = 64 by rw [icells_length, List.length_take, List.length_drop, HL.out]; rfl)
      have hcn : ¬ c = 192 := by omega
      have HSRC := hidden (show ∀ j v, (icells ((cm.drop (64 * 3)).take 64))[j]? = some v → wr.cell? ⟨b, off + 192 + j, none⟩ = some v by
        intro j v hj
        have hjl : j < 64 := by
          rcases Nat.lt_or_ge j 64 with h | h
          · exact h
          · rw [List.getElem?_eq_none (by rw [HNL.out]; exact h)] at hj; cases hj
        obtain ⟨A', c', he, _, hc⟩ := HV.out.grow B0.out
        injection he with e1 e2 e3
        obtain ⟨b', off', e4, hcc⟩ := hc (by rw [icells_length, HL.out]; decide)
        rw [e4] at e1
        injection e1 with e1
        injection e1 with e5 e6
        subst e5 e6
        have h2 := hcc (192 + j) (by rw [icells_length, HL.out]; omega)
        rw [← Nat.add_assoc] at h2
        rw [h2, ← hj]
        simp only [icells, List.getElem?_map, List.getElem?_take, hjl, if_true, List.getElem?_drop])
      have HON := hidden (icells_oneCell_mem ((cm.drop (64 * 3)).take 64))
      generalize icells ((cm.drop (64 * 3)).take 64) = cs at *
      go_wp2_with fail
      simp only [show min (192 : Int) 256 = 192 from by decide]
      refine wp_region_loose_tail 6 (tabRs []) (by kernel_rfl) (by kernel_rfl) tabRs_nil ?_
      simp only [List.take_succ_cons, List.take_zero, List.drop_succ_cons, List.drop_zero]
      iterate 6 ((with_reducible refine loose_one (v := ?_) (a' := ?_) ?_ ?_ (fun w' hC' hG' => ?_) ?_ ?_); rotate_left 2; (focus rfl); (focus rfl); (focus (clear hC' hG'; go_simp; rfl)); (focus (go_simp; rfl)))
      refine loose_done (fun w9 hC' hG' => ?_)
      clear hG'
      have HW9 := hidden (show Below (w.heap.size + 1) wr w9 from Below.mono hC' (Nat.le_of_lt R1.out.lt))
      have HR9 := hidden (R1.out.grow hC')
      have HC9 := hidden (fun j v (h : cs[j]? = some v) => (hC'.cell (World.block_lt_of_cell? _ _ (HSRC.out j v h))).trans (HSRC.out j v h))
      clear hC'
      refine wpList_copy_splice rfl (.tmp 16) (.tmp 19) _ _ rfl 3 Tryz.underlying27 size_int1 (some ⟨w.heap.size + 1, 192, none⟩) (some ⟨b, off + 192, none⟩) 64 64 64 (c - 192) rfl rfl (w.heap.size + 1) 192 (icells (crow cm 3)) 67 HR9.out cs (by rw [HNL.out]; rfl) (fun _ => ⟨rfl, _, rfl, fun j v hj => by rw [add_addr16]; exact HC9.out j v hj⟩) (by rw [HNL.out, HCL.out]; decide) HON.out (w.heap.size + 1) wr HW9.out (Nat.le_refl _) ?_
      intro w2 hg2 hb2
      have HR2 := hidden (show Row w2 (w.heap.size + 1) 67 (icells (crow cm 4)) by
        have h := hg2.out
        rw [show splice (icells (crow cm 3)) 192 cs = icells (crow cm 4) from HSP.out] at h
        exact h)
      have HZ2 := hidden (show Row w2 w.heap.size 67 (icells (crow cm 0)) by
        have h := R0.out
        unfold Row at h ⊢
        exact (hb2.block _ (Nat.lt_succ_self _)).trans h)
      have HB2 := hidden (B0.out.trans (Below.mono hb2 (Nat.le_succ _)))
      clear hg2 hb2
      go_wp2_with fail
      go_roundw
      case rel => exact ⟨4, by omega, rfl, HR2.out, HZ2.out, HB2.out⟩
      case measure => simp [intOf]
end Go.Proofs.YtoaklmceejeblaaGreat
/-
  Shaken: what the claims of this seat need of this text. No condition.
-/
namespace Go.Proofs.YtoaklmceejeblaaGreat
set_option maxRecDepth 8000
open Go.RowKit
set_option linter.unusedVariables false
set_option linter.unusedSimpArgs false
def ctrC (cm : List Int) (r : Nat) (x : Val) : Int := cm.getD (64 * r + posN r x) 0
theorem ctr_cell {w : World} {g : Nat} {e : TypeId} {cm : List Int} (h : Row w g e (icells cm)) (hl : cm.length = 256) (r : Nat) (hr : r ≤ 3) (x : Val) : w.cell? ⟨g, 64 * r + posN r x, none⟩ = some (.int .i64 (ctrC cm r x)) := by
  have hp := posN_lt r x
  have hi : 64 * r + posN r x < cm.length := by omega
  rw [h.cell, icells_get hi, ctrC, List.getD_eq_getElem?_getD, List.getElem?_eq_getElem hi]
  rfl
def rowA (c0 c1 c2 c3 : Int) (k : Nat) : List Value := (icells [c0, c1, c2, c3]).take k ++ List.replicate (4 - k) (.int .i64 0)
def AtmRel (w : World) (x : Val) (c0 c1 c2 c3 : Int) (r u : Value) (wr : World) : Prop :=
  ∃ k : Nat, k ≤ 4 ∧ u = .int .i64 (k : Int) ∧ Row wr (w.heap.size + 1) 141 (rowA c0 c1 c2 c3 k) ∧ Row wr w.heap.size 35 [.int .i64 x.k, .int .i64 x.n, .string x.t] ∧ Grows w wr
set_option maxHeartbeats 4000000 in
theorem qatMost_any (g : Nat) (cm : List Int) (x : Val) (w : World) (hg : Row w g 67 (icells cm)) (hl : cm.length = 256) (hv : validV x.k x.n x.t = true) :
    Calls Tryz.prog 77 #[.pointer (some ⟨g, 0, none⟩), .agg #[.int .i64 x.k, .int .i64 x.n, .string x.t]] w fun e w' => e = .returned (.int .i64 (minL [ctrC cm 0 x, ctrC cm 1 x, ctrC cm 2 x, ctrC cm 3 x])) ∧ Grows w w' := by
  have HK0 := hidden (fun X (h : Grows w X) => ctr_cell (hg.grow h) hl 0 (by omega) x)
  have HK1 := hidden (fun X (h : Grows w X) => ctr_cell (hg.grow h) hl 1 (by omega) x)
  have HK2 := hidden (fun X (h : Grows w X) => ctr_cell (hg.grow h) hl 2 (by omega) x)
  have HK3 := hidden (fun X (h : Grows w X) => ctr_cell (hg.grow h) hl 3 (by omega) x)
  have HP := hidden (fun r (hr : r ≤ 3) X => const_loose16 (qposition_any r x X hr hv))
  have HPL := hidden (fun r => posN_lt r x)
  generalize ctrC cm 0 x = c0 at *
  generalize ctrC cm 1 x = c1 at *
  generalize ctrC cm 2 x = c2 at *
  generalize ctrC cm 3 x = c3 at *
  have hb := hidden (show Grows w ((w.alloc (.cells #[.int .i64 x.k, .int .i64 x.n, .string x.t] 35)).alloc (.cells #[.int .i64 0, .int .i64 0, .int .i64 0, .int .i64 0] 141)) from (growK _ _).of_below (growK _ _))
  have h0 := hidden (show Row ((w.alloc (.cells #[.int .i64 x.k, .int .i64 x.n, .string x.t] 35)).alloc (.cells #[.int .i64 0, .int .i64 0, .int .i64 0, .int .i64 0] 141)) w.heap.size 35 [.int .i64 x.k, .int .i64 x.n, .string x.t] from (Row.new w 35 #[.int .i64 x.k, .int .i64 x.n, .string x.t] [.int .i64 x.k, .int .i64 x.n, .string x.t] rfl).grow (growK _ _))
  have h1 := hidden (show Row ((w.alloc (.cells #[.int .i64 x.k, .int .i64 x.n, .string x.t] 35)).alloc (.cells #[.int .i64 0, .int .i64 0, .int .i64 0, .int .i64 0] 141)) (w.heap.size + 1) 141 [.int .i64 0, .int .i64 0, .int .i64 0, .int .i64 0] from by
    have h := Row.new (w.alloc (.cells #[.int .i64 x.k, .int .i64 x.n, .string x.t] 35)) 141 #[.int .i64 0, .int .i64 0, .int .i64 0, .int .i64 0] [.int .i64 0, .int .i64 0, .int .i64 0, .int .i64 0] rfl
    have e : (w.alloc (.cells #[.int .i64 x.k, .int .i64 x.n, .string x.t] 35)).heap.size = w.heap.size + 1 := by simp
    rwa [e] at h)
  clear hv hg
  go_enter Tryz.func77, Tryz.ntmps77
  go_wp2_with fail
  go_loopw [6, 7] (fun r u wr => AtmRel w x c0 c1 c2 c3 r u wr) (fun _ u _ => 4 - (intOf u).toNat)
  case atStart => exact ⟨0, by omega, rfl, h1.out, h0.out, hb.out⟩
  case round =>
    obtain ⟨k, hk, hu, r1, r0, hbw⟩ := hrel
    have R1 := hidden r1
    have R0 := hidden r0
    have B0 := hidden hbw
    clear r1 r0 hbw h1 h0 hb
    have hkk : k = 4 ∨ k = 0 ∨ k = 1 ∨ k = 2 ∨ k = 3 := by omega
    clear hk
    rcases hkk with rfl | rfl | rfl | rfl | rfl
    · have hu2 : u7 = .int .i64 4 := hu
      subst hu2
      clear hu
      have HM := hidden (qmin_any (.slice (some ⟨w.heap.size + 1, 0, none⟩) 4 4) [c0, c1, c2, c3] wr (Reads.of_row (show Row wr (w.heap.size + 1) 141 (icells [c0, c1, c2, c3]) from R1.out) 4 4 rfl (Nat.le_refl _)) (by simp) (by simp))
      go_wp2_with (go_at_call 127; refine (HM.out).mono ?_; rintro e w2 ⟨rfl, rfl⟩)
      go_ret
      exact ⟨rfl, B0.out⟩
    · have hu2 : u7 = .int .i64 0 := hu
      subst hu2
      clear hu
      have HPK := hidden (fun X => HP.out 0 (by omega) X)
      have hp := HPL.out 0
      have HX := hidden (fun X (h : Grows wr X) => show X.cell? ⟨w.heap.size, 0, none⟩ = some (.int .i64 x.k) ∧ X.cell? ⟨w.heap.size, 1, none⟩ = some (.int .i64 x.n) ∧ X.cell? ⟨w.heap.size, 2, none⟩ = some (.string x.t) ∧ X.cell? ⟨g, 64 * 0 + posN 0 x, none⟩ = some (.int .i64 c0) from ⟨(R0.out.grow h).cell 0, (R0.out.grow h).cell 1, (R0.out.grow h).cell 2, HK0.out X (B0.out.of_below h)⟩)
      generalize posN 0 x = p at *
      rw [show 64 * 0 + p = p by omega] at HX
      have hp0 : (0 : Int) ≤ (p : Int) := by omega
      have hp1 : (p : Int) < 64 := by omega
      clear HK0 HK1 HK2 HK3 HP HPL
      go_wp2_with fail
      refine wp_region_loose_tail 11 (tabRs [(5, ConstV (.int .i64 (p : Int)))]) (by kernel_rfl) (by kernel_rfl) (tabRs_cons ConstV.lasts tabRs_nil) ?_
      simp only [List.take_succ_cons, List.take_zero, List.drop_succ_cons, List.drop_zero]
      iterate 5 ((with_reducible refine loose_one (v := ?_) (a' := ?_) ?_ ?_ (fun w' hC' hG' => ?_) ?_ ?_); rotate_left 2; (focus rfl); (focus rfl); (focus (obtain ⟨x0, x1, x2, k1⟩ := HX.out w' hC'; clear hC' hG'; go_simp; rfl)); (focus (go_simp; rfl)))
      refine loose_call (R := ConstV (.int .i64 (p : Int))) (f := 111) (args := #[.int .i64 0, .agg #[.int .i64 x.k, .int .i64 x.n, .string x.t]]) (by rfl) (by rfl) (fun _ => by go_simp) (fun w' hC' hG' => HPK.out w') ?_
      rintro _ ⟨_, _, rfl⟩
      refine ⟨?_, ?_, ?_⟩
      rotate_left
      · go_simp
        rfl
      iterate 5 ((with_reducible refine loose_one (v := ?_) (a' := ?_) ?_ ?_ (fun w' hC' hG' => ?_) ?_ ?_); rotate_left 2; (focus rfl); (focus rfl); (focus (obtain ⟨x0, x1, x2, k1⟩ := HX.out w' hC'; clear hC' hG'; go_simp; rfl)); (focus (go_simp; rfl)))
      refine loose_done (fun w9 hC' hG' => ?_)
      clear hG'
      have HR1 := hidden (R1.out.grow hC')
      have HR0 := hidden (R0.out.grow hC')
      have HB9 := hidden (B0.out.of_below hC')
      have HL9 := hidden (show w.heap.size < w9.heap.size from (R0.out.grow hC').lt)
      clear hC'
      refine wpList_store_c rfl _ _ _ rfl size_int1 (w.heap.size + 1) 0 rfl (.int .i64 c0) rfl rfl _ _ HR1.out (show 0 < 4 by decide) ?_
      intro W hr ho
      have HRR := hidden hr
      have HR00 := hidden (ho.row HR0.out (by omega))
      have HGG := hidden (ho.below HB9.out (fun i hi => by omega))
      clear hr ho
      go_wp2_with fail
      go_roundw
      case rel => exact ⟨1, by omega, rfl, HRR.out, HR00.out, HGG.out⟩
      case measure => simp [intOf]
    · have hu2 : u7 = .int .i64 1 := hu
      subst hu2
      clear hu
      have HPK := hidden (fun X => HP.out 1 (by omega) X)
      have hp := HPL.out 1
      have HX := hidden (fun X (h : Grows wr X) => show X.cell? ⟨w.heap.size, 0, none⟩ = some (.int .i64 x.k) ∧ X.cell? ⟨w.heap.size, 1, none⟩ = some (.int .i64 x.n) ∧ X.cell? ⟨w.heap.size, 2, none⟩ = some (.string x.t) ∧ X.cell? ⟨g, 64 * 1 + posN 1 x, none⟩ = some (.int .i64 c1) from ⟨(R0.out.grow h).cell 0, (R0.out.grow h).cell 1, (R0.out.grow h).cell 2, HK1.out X (B0.out.of_below h)⟩)
      generalize posN 1 x = p at *
      rw [show 64 * 1 + p = 64 + p by omega] at HX
      have hp0 : (0 : Int) ≤ (p : Int) := by omega
      have hp1 : (p : Int) < 64 := by omega
      clear HK0 HK1 HK2 HK3 HP HPL
      go_wp2_with fail
      refine wp_region_loose_tail 11 (tabRs [(5, ConstV (.int .i64 (p : Int)))]) (by kernel_rfl) (by kernel_rfl) (tabRs_cons ConstV.lasts tabRs_nil) ?_
      simp only [List.take_succ_cons, List.take_zero, List.drop_succ_cons, List.drop_zero]
      iterate 5 ((with_reducible refine loose_one (v := ?_) (a' := ?_) ?_ ?_ (fun w' hC' hG' => ?_) ?_ ?_); rotate_left 2; (focus rfl); (focus rfl); (focus (obtain ⟨x0, x1, x2, k1⟩ := HX.out w' hC'; clear hC' hG'; go_simp; rfl)); (focus (go_simp; rfl)))
      refine loose_call (R := ConstV (.int .i64 (p : Int))) (f := 111) (args := #[.int .i64 1, .agg #[.int .i64 x.k, .int .i64 x.n, .string x.t]]) (by rfl) (by rfl) (fun _ => by go_simp) (fun w' hC' hG' => HPK.out w') ?_
      rintro _ ⟨_, _, rfl⟩
      refine ⟨?_, ?_, ?_⟩
      rotate_left
      · go_simp
        rfl
      iterate 5 ((with_reducible refine loose_one (v := ?_) (a' := ?_) ?_ ?_ (fun w' hC' hG' => ?_) ?_ ?_); rotate_left 2; (focus rfl); (focus rfl); (focus (obtain ⟨x0, x1, x2, k1⟩ := HX.out w' hC'; clear hC' hG'; go_simp; rfl)); (focus (go_simp; rfl)))
      refine loose_done (fun w9 hC' hG' => ?_)
      clear hG'
      have HR1 := hidden (R1.out.grow hC')
      have HR0 := hidden (R0.out.grow hC')
      have HB9 := hidden (B0.out.of_below hC')
      have HL9 := hidden (show w.heap.size < w9.heap.size from (R0.out.grow hC').lt)
      clear hC'
      refine wpList_store_c rfl _ _ _ rfl size_int1 (w.heap.size + 1) 1 rfl (.int .i64 c1) rfl rfl _ _ HR1.out (show 1 < 4 by decide) ?_
      intro W hr ho
      have HRR := hidden hr
      have HR00 := hidden (ho.row HR0.out (by omega))
      have HGG := hidden (ho.below HB9.out (fun i hi => by omega))
      clear hr ho
      go_wp2_with fail
      go_roundw
      case rel => exact ⟨2, by omega, rfl, HRR.out, HR00.out, HGG.out⟩
      case measure => simp [intOf]
    · have hu2 : u7 = .int .i64 2 := hu
      subst hu2
      clear hu
      have HPK := hidden (fun X => HP.out 2 (by omega) X)
      have hp := HPL.out 2
      have HX := hidden (fun X (h : Grows wr X) => show X.cell? ⟨w.heap.size, 0, none⟩ = some (.int .i64 x.k) ∧ X.cell? ⟨w.heap.size, 1, none⟩ = some (.int .i64 x.n) ∧ X.cell? ⟨w.heap.size, 2, none⟩ = some (.string x.t) ∧ X.cell? ⟨g, 64 * 2 + posN 2 x, none⟩ = some (.int .i64 c2) from ⟨(R0.out.grow h).cell 0, (R0.out.grow h).cell 1, (R0.out.grow h).cell 2, HK2.out X (B0.out.of_below h)⟩)
      generalize posN 2 x = p at *
      rw [show 64 * 2 + p = 128 + p by omega] at HX
      have hp0 : (0 : Int) ≤ (p : Int) := by omega
      have hp1 : (p : Int) < 64 := by omega
      clear HK0 HK1 HK2 HK3 HP HPL
      go_wp2_with fail
      refine wp_region_loose_tail 11 (tabRs [(5, ConstV (.int .i64 (p : Int)))]) (by kernel_rfl) (by kernel_rfl) (tabRs_cons ConstV.lasts tabRs_nil) ?_
      simp only [List.take_succ_cons, List.take_zero, List.drop_succ_cons, List.drop_zero]
      iterate 5 ((with_reducible refine loose_one (v := ?_) (a' := ?_) ?_ ?_ (fun w' hC' hG' => ?_) ?_ ?_); rotate_left 2; (focus rfl); (focus rfl); (focus (obtain ⟨x0, x1, x2, k1⟩ := HX.out w' hC'; clear hC' hG'; go_simp; rfl)); (focus (go_simp; rfl)))
      refine loose_call (R := ConstV (.int .i64 (p : Int))) (f := 111) (args := #[.int .i64 2, .agg #[.int .i64 x.k, .int .i64 x.n, .string x.t]]) (by rfl) (by rfl) (fun _ => by go_simp) (fun w' hC' hG' => HPK.out w') ?_
      rintro _ ⟨_, _, rfl⟩
      refine ⟨?_, ?_, ?_⟩
      rotate_left
      · go_simp
        rfl
      iterate 5 ((with_reducible refine loose_one (v := ?_) (a' := ?_) ?_ ?_ (fun w' hC' hG' => ?_) ?_ ?_); rotate_left 2; (focus rfl); (focus rfl); (focus (obtain ⟨x0, x1, x2, k1⟩ := HX.out w' hC'; clear hC' hG'; go_simp; rfl)); (focus (go_simp; rfl)))
      refine loose_done (fun w9 hC' hG' => ?_)
      clear hG'
      have HR1 := hidden (R1.out.grow hC')
      have HR0 := hidden (R0.out.grow hC')
      have HB9 := hidden (B0.out.of_below hC')
      have HL9 := hidden (show w.heap.size < w9.heap.size from (R0.out.grow hC').lt)
      clear hC'
      refine wpList_store_c rfl _ _ _ rfl size_int1 (w.heap.size + 1) 2 rfl (.int .i64 c2) rfl rfl _ _ HR1.out (show 2 < 4 by decide) ?_
      intro W hr ho
      have HRR := hidden hr
      have HR00 := hidden (ho.row HR0.out (by omega))
      have HGG := hidden (ho.below HB9.out (fun i hi => by omega))
      clear hr ho
      go_wp2_with fail
      go_roundw
      case rel => exact ⟨3, by omega, rfl, HRR.out, HR00.out, HGG.out⟩
      case measure => simp [intOf]
    · have hu2 : u7 = .int .i64 3 := hu
      subst hu2
      clear hu
      have HPK := hidden (fun X => HP.out 3 (by omega) X)
      have hp := HPL.out 3
      have HX := hidden (fun X (h : Grows wr X) => show X.cell? ⟨w.heap.size, 0, none⟩ = some (.int .i64 x.k) ∧ X.cell? ⟨w.heap.size, 1, none⟩ = some (.int .i64 x.n) ∧ X.cell? ⟨w.heap.size, 2, none⟩ = some (.string x.t) ∧ X.cell? ⟨g, 64 * 3 + posN 3 x, none⟩ = some (.int .i64 c3) from ⟨(R0.out.grow h).cell 0, (R0.out.grow h).cell 1, (R0.out.grow h).cell 2, HK3.out X (B0.out.of_below h)⟩)
      generalize posN 3 x = p at *
      rw [show 64 * 3 + p = 192 + p by omega] at HX
      have hp0 : (0 : Int) ≤ (p : Int) := by omega
      have hp1 : (p : Int) < 64 := by omega
      clear HK0 HK1 HK2 HK3 HP HPL
      go_wp2_with fail
      refine wp_region_loose_tail 11 (tabRs [(5, ConstV (.int .i64 (p : Int)))]) (by kernel_rfl) (by kernel_rfl) (tabRs_cons ConstV.lasts tabRs_nil) ?_
      simp only [List.take_succ_cons, List.take_zero, List.drop_succ_cons, List.drop_zero]
      iterate 5 ((with_reducible refine loose_one (v := ?_) (a' := ?_) ?_ ?_ (fun w' hC' hG' => ?_) ?_ ?_); rotate_left 2; (focus rfl); (focus rfl); (focus (obtain ⟨x0, x1, x2, k1⟩ := HX.out w' hC'; clear hC' hG'; go_simp; rfl)); (focus (go_simp; rfl)))
      refine loose_call (R := ConstV (.int .i64 (p : Int))) (f := 111) (args := #[.int .i64 3, .agg #[.int .i64 x.k, .int .i64 x.n, .string x.t]]) (by rfl) (by rfl) (fun _ => by go_simp) (fun w' hC' hG' => HPK.out w') ?_
      rintro _ ⟨_, _, rfl⟩
      refine ⟨?_, ?_, ?_⟩
      rotate_left
      · go_simp
        rfl
      iterate 5 ((with_reducible refine loose_one (v := ?_) (a' := ?_) ?_ ?_ (fun w' hC' hG' => ?_) ?_ ?_); rotate_left 2; (focus rfl); (focus rfl); (focus (obtain ⟨x0, x1, x2, k1⟩ := HX.out w' hC'; clear hC' hG'; go_simp; rfl)); (focus (go_simp; rfl)))
      refine loose_done (fun w9 hC' hG' => ?_)
      clear hG'
      have HR1 := hidden (R1.out.grow hC')
      have HR0 := hidden (R0.out.grow hC')
      have HB9 := hidden (B0.out.of_below hC')
      have HL9 := hidden (show w.heap.size < w9.heap.size from (R0.out.grow hC').lt)
      clear hC'
      refine wpList_store_c rfl _ _ _ rfl size_int1 (w.heap.size + 1) 3 rfl (.int .i64 c3) rfl rfl _ _ HR1.out (show 3 < 4 by decide) ?_
      intro W hr ho
      have HRR := hidden hr
      have HR00 := hidden (ho.row HR0.out (by omega))
      have HGG := hidden (ho.below HB9.out (fun i hi => by omega))
      clear hr ho
      go_wp2_with fail
      go_roundw
      case rel => exact ⟨4, by omega, rfl, HRR.out, HR00.out, HGG.out⟩
      case measure => simp [intOf]
end Go.Proofs.YtoaklmceejeblaaGreat
/-
  Shaken: what the claims of this seat need of this text. No condition.
-/
namespace Go.Proofs.YtoaklmceejeblaaGreat
set_option maxRecDepth 8000
open Go.RowKit
set_option linter.unusedVariables false
set_option linter.unusedSimpArgs false
theorem info_int16 : (Tryz.prog.info? 3).map (fun i => (i.zero, i.size, i.bytes)) = some (some (.int .i64 0), 1, 8) := by kernel_rfl
theorem row_part {w : World} {g o : Nat} {e : TypeId} {cm : List Int} (h : Row w g e (icells cm)) (ho : o + 64 ≤ cm.length) : Reads w (.slice (some ⟨g, o, none⟩) 64 64) (icells ((cm.drop o).take 64)) := by
  have hl : (icells ((cm.drop o).take 64)).length = 64 := by rw [icells_length, List.length_take, List.length_drop]; omega
  refine ⟨_, 64, by rw [hl], by rw [hl]; exact Nat.le_refl _, fun _ => ⟨g, o, rfl, fun j hj => ?_⟩⟩
  rw [hl] at hj
  rw [h.cell]
  simp only [icells, List.getElem?_map, List.getElem?_take, hj, if_true, List.getElem?_drop]
def LstRel (w : World) (cm : List Int) (v r u : Value) (wr : World) : Prop :=
  ∃ k : Nat, k ≤ 4 ∧ u = .int .i64 (k : Int) ∧ wr.ownsRow w.heap.size 3 1 v (icells (cm.take (64 * k))).length (icells (cm.take (64 * k))) ∧ Grows w wr
set_option maxHeartbeats 4000000 in
theorem qlist_any (g : Nat) (cm : List Int) (w : World) (hg : Row w g 67 (icells cm)) (hl : cm.length = 256) :
    Calls Tryz.prog 45 #[.pointer (some ⟨g, 0, none⟩)] w fun e w' => ∃ v, e = .returned v ∧ w'.ownsRow w.heap.size 3 1 v cm.length (icells cm) ∧ Grows w w' := by
  have HR := hidden hg
  have HL := hidden hl
  clear hg hl
  go_enter Tryz.func45, Tryz.ntmps45
  go_wp2_with fail
  go_loopw [3, 4, 5] (fun v r u wr => LstRel w cm v r u wr) (fun _ _ u _ => 4 - (intOf u).toNat)
  case atStart => exact ⟨0, by omega, rfl, ⟨rfl, .inl ⟨rfl, rfl⟩⟩, Below.refl _ _⟩
  case round =>
    obtain ⟨k, hk, hu, ho, hbw⟩ := hrel
    have HO := hidden ho
    have B0 := hidden hbw
    clear ho hbw
    have hkk : k = 4 ∨ k = 0 ∨ k = 1 ∨ k = 2 ∨ k = 3 := by omega
    clear hk
    rcases hkk with rfl | rfl | rfl | rfl | rfl
    · have hu2 : u5 = .int .i64 4 := hu
      subst hu2
      clear hu
      rw [List.take_of_length_le (by rw [HL.out]; decide)] at HO
      go_wp2_with fail
      go_ret
      exact ⟨_, rfl, by have h := HO.out; rwa [icells_length] at h, B0.out⟩
    · have hu2 : u5 = .int .i64 0 := hu
      subst hu2
      clear hu
      have HT := hidden (show icells (cm.take (64 * 0)) ++ icells ((cm.drop 0).take 64) = icells (cm.take (64 * 1)) by
        rw [show 64 * 1 = 64 * 0 + 64 by omega, List.take_add]
        simp [icells])
      have HN := hidden (show (icells (cm.take (64 * 0))).length = 0 by rw [icells_length, List.length_take, HL.out]; rfl)
      have HN2 := hidden (show (icells ((cm.drop 0).take 64)).length = 64 by rw [icells_length, List.length_take, List.length_drop, HL.out]; rfl)
      have HRP := hidden (row_part (o := 0) (HR.out.grow B0.out) (by rw [HL.out]; decide))
      go_wp2_with ((with_reducible refine wpList_append_rows14 (H := w.heap.size) (w := w) rfl (.tmp 8) (.tmp 13) _ rfl 3 (.int .i64 0) 8 Tryz.underlying27 info_int16 rfl u3 (icells (cm.take (64 * 0))) rfl HO.out B0.out B0.out.size (.slice (some ⟨g, 0, none⟩) 64 64) (icells ((cm.drop 0).take 64)) rfl HRP.out (icells_oneCell_mem _) (by rw [HN.out, HN2.out]; decide) (by rw [HN.out, HN2.out]; decide) ?_); intro v' w2 ho2 hb2 hk2; have HO2 := hidden ho2; have HB2 := hidden hb2; clear ho2 hb2 hk2)
      go_roundw
      case rel => exact ⟨1, by omega, rfl, by have h := HO2.out; rwa [HT.out] at h, HB2.out⟩
      case measure => simp [intOf]
    · have hu2 : u5 = .int .i64 1 := hu
      subst hu2
      clear hu
      have HT := hidden (show icells (cm.take (64 * 1)) ++ icells ((cm.drop 64).take 64) = icells (cm.take (64 * 2)) by
        rw [show 64 * 2 = 64 * 1 + 64 by omega, List.take_add]
        simp [icells])
      have HN := hidden (show (icells (cm.take (64 * 1))).length = 64 by rw [icells_length, List.length_take, HL.out]; rfl)
      have HN2 := hidden (show (icells ((cm.drop 64).take 64)).length = 64 by rw [icells_length, List.length_take, List.length_drop, HL.out]; rfl)
      have HRP := hidden (row_part (o := 64) (HR.out.grow B0.out) (by rw [HL.out]; decide))
      go_wp2_with ((with_reducible refine wpList_append_rows14 (H := w.heap.size) (w := w) rfl (.tmp 8) (.tmp 13) _ rfl 3 (.int .i64 0) 8 Tryz.underlying27 info_int16 rfl u3 (icells (cm.take (64 * 1))) rfl HO.out B0.out B0.out.size (.slice (some ⟨g, 64, none⟩) 64 64) (icells ((cm.drop 64).take 64)) rfl HRP.out (icells_oneCell_mem _) (by rw [HN.out, HN2.out]; decide) (by rw [HN.out, HN2.out]; decide) ?_); intro v' w2 ho2 hb2 hk2; have HO2 := hidden ho2; have HB2 := hidden hb2; clear ho2 hb2 hk2)
      go_roundw
      case rel => exact ⟨2, by omega, rfl, by have h := HO2.out; rwa [HT.out] at h, HB2.out⟩
      case measure => simp [intOf]
    · have hu2 : u5 = .int .i64 2 := hu
      subst hu2
      clear hu
      have HT := hidden (show icells (cm.take (64 * 2)) ++ icells ((cm.drop 128).take 64) = icells (cm.take (64 * 3)) by
        rw [show 64 * 3 = 64 * 2 + 64 by omega, List.take_add]
        simp [icells])
      have HN := hidden (show (icells (cm.take (64 * 2))).length = 128 by rw [icells_length, List.length_take, HL.out]; rfl)
      have HN2 := hidden (show (icells ((cm.drop 128).take 64)).length = 64 by rw [icells_length, List.length_take, List.length_drop, HL.out]; rfl)
      have HRP := hidden (row_part (o := 128) (HR.out.grow B0.out) (by rw [HL.out]; decide))
      go_wp2_with ((with_reducible refine wpList_append_rows14 (H := w.heap.size) (w := w) rfl (.tmp 8) (.tmp 13) _ rfl 3 (.int .i64 0) 8 Tryz.underlying27 info_int16 rfl u3 (icells (cm.take (64 * 2))) rfl HO.out B0.out B0.out.size (.slice (some ⟨g, 128, none⟩) 64 64) (icells ((cm.drop 128).take 64)) rfl HRP.out (icells_oneCell_mem _) (by rw [HN.out, HN2.out]; decide) (by rw [HN.out, HN2.out]; decide) ?_); intro v' w2 ho2 hb2 hk2; have HO2 := hidden ho2; have HB2 := hidden hb2; clear ho2 hb2 hk2)
      go_roundw
      case rel => exact ⟨3, by omega, rfl, by have h := HO2.out; rwa [HT.out] at h, HB2.out⟩
      case measure => simp [intOf]
    · have hu2 : u5 = .int .i64 3 := hu
      subst hu2
      clear hu
      have HT := hidden (show icells (cm.take (64 * 3)) ++ icells ((cm.drop 192).take 64) = icells (cm.take (64 * 4)) by
        rw [show 64 * 4 = 64 * 3 + 64 by omega, List.take_add]
        simp [icells])
      have HN := hidden (show (icells (cm.take (64 * 3))).length = 192 by rw [icells_length, List.length_take, HL.out]; rfl)
      have HN2 := hidden (show (icells ((cm.drop 192).take 64)).length = 64 by rw [icells_length, List.length_take, List.length_drop, HL.out]; rfl)
      have HRP := hidden (row_part (o := 192) (HR.out.grow B0.out) (by rw [HL.out]; decide))
      go_wp2_with ((with_reducible refine wpList_append_rows14 (H := w.heap.size) (w := w) rfl (.tmp 8) (.tmp 13) _ rfl 3 (.int .i64 0) 8 Tryz.underlying27 info_int16 rfl u3 (icells (cm.take (64 * 3))) rfl HO.out B0.out B0.out.size (.slice (some ⟨g, 192, none⟩) 64 64) (icells ((cm.drop 192).take 64)) rfl HRP.out (icells_oneCell_mem _) (by rw [HN.out, HN2.out]; decide) (by rw [HN.out, HN2.out]; decide) ?_); intro v' w2 ho2 hb2 hk2; have HO2 := hidden ho2; have HB2 := hidden hb2; clear ho2 hb2 hk2)
      go_roundw
      case rel => exact ⟨4, by omega, rfl, by have h := HO2.out; rwa [HT.out] at h, HB2.out⟩
      case measure => simp [intOf]
def addC (cm : List Int) (x : Val) : Nat → List Int
  | 0 => cm
  | k + 1 => (addC cm x k).set (64 * k + posN k x) (ctrC (addC cm x k) k x + 1)
theorem addC_length (cm : List Int) (x : Val) : ∀ k, (addC cm x k).length = cm.length
  | 0 => rfl
  | k + 1 => by rw [addC, List.length_set, addC_length cm x k]
theorem addC_bd (cm : List Int) (x : Val) (N : Int) (hN : 0 ≤ N) (h : ∀ c ∈ cm, 0 ≤ c ∧ c ≤ N) : ∀ k, ∀ c ∈ addC cm x k, 0 ≤ c ∧ c ≤ N + k
  | 0 => fun c hc => by have := h c hc; omega
  | k + 1 => fun c hc => by
    have ih := addC_bd cm x N hN h k
    rw [addC] at hc
    rcases List.mem_or_eq_of_mem_set hc with h1 | h1
    · have := ih c h1; omega
    · subst h1
      unfold ctrC
      rw [List.getD_eq_getElem?_getD]
      rcases Nat.lt_or_ge (64 * k + posN k x) (addC cm x k).length with h2 | h2
      · rw [List.getElem?_eq_getElem h2]
        have := ih _ (List.getElem_mem h2)
        simp only [Option.getD_some]
        omega
      · rw [List.getElem?_eq_none h2]
        simp only [Option.getD_none]
        omega
theorem ctrC_bd {cm : List Int} {N : Int} (hN : 0 ≤ N) (h : ∀ c ∈ cm, 0 ≤ c ∧ c ≤ N) (r : Nat) (x : Val) : 0 ≤ ctrC cm r x ∧ ctrC cm r x ≤ N := by
  unfold ctrC
  rw [List.getD_eq_getElem?_getD]
  rcases Nat.lt_or_ge (64 * r + posN r x) cm.length with h2 | h2
  · rw [List.getElem?_eq_getElem h2]
    exact h _ (List.getElem_mem h2)
  · rw [List.getElem?_eq_none h2]
    exact ⟨Int.le_refl _, hN⟩
theorem icells_set16 (l : List Int) (j : Nat) (c : Int) : (icells l).set j (.int .i64 c) = icells (l.set j c) := by simp [icells, List.map_set]
def AddRelSq8 (w : World) (g : Nat) (cm : List Int) (x : Val) (r u : Value) (wr : World) : Prop :=
  ∃ k : Nat, k ≤ 4 ∧ u = .int .i64 (k : Int) ∧ Row wr g 67 (icells (addC cm x k)) ∧ Row wr w.heap.size 35 [.int .i64 x.k, .int .i64 x.n, .string x.t] ∧ Only (fun i => i = g) w wr
set_option maxHeartbeats 4000000 in
theorem qadd_any (g : Nat) (cm : List Int) (x : Val) (w : World) (hg : Row w g 67 (icells cm)) (hl : cm.length = 256) (hv : validV x.k x.n x.t = true) (hb : ∀ c ∈ cm, 0 ≤ c ∧ c ≤ 1099511627776) :
    Calls Tryz.prog 44 #[.pointer (some ⟨g, 0, none⟩), .agg #[.int .i64 x.k, .int .i64 x.n, .string x.t]] w fun e w' => e = .returned (.tuple #[]) ∧ Row w' g 67 (icells (addC cm x 4)) ∧ Only (fun i => i = g) w w' := by
  have HL := hidden (fun k => (addC_length cm x k).trans hl)
  have HC := hidden (fun k => ctrC_bd (by omega) (addC_bd cm x _ (by decide) hb k) k x)
  have HP := hidden (fun r (hr : r ≤ 3) X => const_loose16 (qposition_any r x X hr hv))
  have HPL := hidden (fun r => posN_lt r x)
  have hgl : g < w.heap.size := hg.lt
  have h1 := hidden (hg.grow (growK w (.cells #[.int .i64 x.k, .int .i64 x.n, .string x.t] 35)))
  have h0 := hidden (Row.new w 35 #[.int .i64 x.k, .int .i64 x.n, .string x.t] [.int .i64 x.k, .int .i64 x.n, .string x.t] rfl)
  have hw := hidden (Only.of_grows (growK w (.cells #[.int .i64 x.k, .int .i64 x.n, .string x.t] 35)) (fun i => i = g))
  clear hv hg hb
  go_enter Tryz.func44, Tryz.ntmps44
  go_wp2_with fail
  go_loopw [4, 5] (fun r u wr => AddRelSq8 w g cm x r u wr) (fun _ u _ => 4 - (intOf u).toNat)
  case atStart => exact ⟨0, by omega, rfl, h1.out, h0.out, hw.out⟩
  case round =>
    obtain ⟨k, hk, hu, r1, r0, hbw⟩ := hrel
    have R1 := hidden r1
    have R0 := hidden r0
    have B0 := hidden hbw
    clear r1 r0 hbw h1 h0 hw
    have hkk : k = 4 ∨ k = 0 ∨ k = 1 ∨ k = 2 ∨ k = 3 := by omega
    clear hk
    rcases hkk with rfl | rfl | rfl | rfl | rfl
    · have hu2 : u5 = .int .i64 4 := hu
      subst hu2
      clear hu
      go_wp2_with fail
      go_end0
      exact ⟨rfl, R1.out, B0.out⟩
    · have hu2 : u5 = .int .i64 0 := hu
      subst hu2
      clear hu
      have HPK := hidden (fun X => HP.out 0 (by omega) X)
      have hp := HPL.out 0
      have hcb := HC.out 0
      have HX := hidden (fun X (h : Grows wr X) => show X.cell? ⟨w.heap.size, 0, none⟩ = some (.int .i64 x.k) ∧ X.cell? ⟨w.heap.size, 1, none⟩ = some (.int .i64 x.n) ∧ X.cell? ⟨w.heap.size, 2, none⟩ = some (.string x.t) ∧ X.cell? ⟨g, 64 * 0 + posN 0 x, none⟩ = some (.int .i64 (ctrC (addC cm x 0) 0 x)) from ⟨(R0.out.grow h).cell 0, (R0.out.grow h).cell 1, (R0.out.grow h).cell 2, ctr_cell (R1.out.grow h) (HL.out 0) 0 (by omega) x⟩)
      have HST := hidden (show addC cm x 1 = (addC cm x 0).set (64 * 0 + posN 0 x) (ctrC (addC cm x 0) 0 x + 1) from rfl)
      have HLK := HL.out 0
      generalize posN 0 x = p at *
      generalize ctrC (addC cm x 0) 0 x = c at *
      rw [show 64 * 0 + p = p by omega] at HX HST
      have hp0 : (0 : Int) ≤ (p : Int) := by omega
      have hp1 : (p : Int) < 64 := by omega
      have hwc : IntKind.i64.wrap (c + 1) = c + 1 := by rw [IntKind.wrap_i64]; omega
      have HPP := hidden hp
      clear HP HPL HL HC hcb
      go_wp2_with fail
      refine wp_region_loose_tail 13 (tabRs [(4, ConstV (.int .i64 (p : Int)))]) (by kernel_rfl) (by kernel_rfl) (tabRs_cons ConstV.lasts tabRs_nil) ?_
      simp only [List.take_succ_cons, List.take_zero, List.drop_succ_cons, List.drop_zero]
      iterate 4 ((with_reducible refine loose_one (v := ?_) (a' := ?_) ?_ ?_ (fun w' hC' hG' => ?_) ?_ ?_); rotate_left 2; (focus rfl); (focus rfl); (focus (obtain ⟨x0, x1, x2, k1⟩ := HX.out w' hC'; clear hC' hG'; go_simp; rfl)); (focus (go_simp; rfl)))
      refine loose_call (R := ConstV (.int .i64 (p : Int))) (f := 111) (args := #[.int .i64 0, .agg #[.int .i64 x.k, .int .i64 x.n, .string x.t]]) (by rfl) (by rfl) (fun _ => by go_simp) (fun w' hC' hG' => HPK.out w') ?_
      rintro _ ⟨_, _, rfl⟩
      refine ⟨?_, ?_, ?_⟩
      rotate_left
      · go_simp
        rfl
      iterate 8 ((with_reducible refine loose_one (v := ?_) (a' := ?_) ?_ ?_ (fun w' hC' hG' => ?_) ?_ ?_); rotate_left 2; (focus rfl); (focus rfl); (focus (obtain ⟨x0, x1, x2, k1⟩ := HX.out w' hC'; clear hC' hG'; go_simp; rfl)); (focus (go_simp; rfl)))
      refine loose_done (fun w9 hC' hG' => ?_)
      clear hG'
      have HR1 := hidden (R1.out.grow hC')
      have HR0 := hidden (R0.out.grow hC')
      have HB9 := hidden (B0.out.trans (Only.of_grows hC' (fun i => i = g)) (fun i hi => .inl hi))
      clear hC'
      refine wpList_store_c rfl _ _ _ rfl size_int1 g (p) rfl (.int .i64 (c + 1)) rfl rfl _ _ HR1.out (by rw [icells_length]; omega) ?_
      intro W hr ho
      rw [icells_set16, ← HST.out] at hr
      have HRR := hidden hr
      have HR00 := hidden (ho.row HR0.out (by omega))
      have HGG := hidden (HB9.out.trans ho (fun i hi => .inl hi))
      clear hr ho
      go_wp2_with fail
      go_roundw
      case rel => exact ⟨1, by omega, rfl, HRR.out, HR00.out, HGG.out⟩
      case measure => simp [intOf]
    · have hu2 : u5 = .int .i64 1 := hu
      subst hu2
      clear hu
      have HPK := hidden (fun X => HP.out 1 (by omega) X)
      have hp := HPL.out 1
      have hcb := HC.out 1
      have HX := hidden (fun X (h : Grows wr X) => show X.cell? ⟨w.heap.size, 0, none⟩ = some (.int .i64 x.k) ∧ X.cell? ⟨w.heap.size, 1, none⟩ = some (.int .i64 x.n) ∧ X.cell? ⟨w.heap.size, 2, none⟩ = some (.string x.t) ∧ X.cell? ⟨g, 64 * 1 + posN 1 x, none⟩ = some (.int .i64 (ctrC (addC cm x 1) 1 x)) from ⟨(R0.out.grow h).cell 0, (R0.out.grow h).cell 1, (R0.out.grow h).cell 2, ctr_cell (R1.out.grow h) (HL.out 1) 1 (by omega) x⟩)
      have HST := hidden (show addC cm x 2 = (addC cm x 1).set (64 * 1 + posN 1 x) (ctrC (addC cm x 1) 1 x + 1) from rfl)
      have HLK := HL.out 1
      generalize posN 1 x = p at *
      generalize ctrC (addC cm x 1) 1 x = c at *
      rw [show 64 * 1 + p = 64 + p by omega] at HX HST
      have hp0 : (0 : Int) ≤ (p : Int) := by omega
      have hp1 : (p : Int) < 64 := by omega
      have hwc : IntKind.i64.wrap (c + 1) = c + 1 := by rw [IntKind.wrap_i64]; omega
      have HPP := hidden hp
      clear HP HPL HL HC hcb
      go_wp2_with fail
      refine wp_region_loose_tail 13 (tabRs [(4, ConstV (.int .i64 (p : Int)))]) (by kernel_rfl) (by kernel_rfl) (tabRs_cons ConstV.lasts tabRs_nil) ?_
      simp only [List.take_succ_cons, List.take_zero, List.drop_succ_cons, List.drop_zero]
      iterate 4 ((with_reducible refine loose_one (v := ?_) (a' := ?_) ?_ ?_ (fun w' hC' hG' => ?_) ?_ ?_); rotate_left 2; (focus rfl); (focus rfl); (focus (obtain ⟨x0, x1, x2, k1⟩ := HX.out w' hC'; clear hC' hG'; go_simp; rfl)); (focus (go_simp; rfl)))
      refine loose_call (R := ConstV (.int .i64 (p : Int))) (f := 111) (args := #[.int .i64 1, .agg #[.int .i64 x.k, .int .i64 x.n, .string x.t]]) (by rfl) (by rfl) (fun _ => by go_simp) (fun w' hC' hG' => HPK.out w') ?_
      rintro _ ⟨_, _, rfl⟩
      refine ⟨?_, ?_, ?_⟩
      rotate_left
      · go_simp
        rfl
      iterate 8 ((with_reducible refine loose_one (v := ?_) (a' := ?_) ?_ ?_ (fun w' hC' hG' => ?_) ?_ ?_); rotate_left 2; (focus rfl); (focus rfl); (focus (obtain ⟨x0, x1, x2, k1⟩ := HX.out w' hC'; clear hC' hG'; go_simp; rfl)); (focus (go_simp; rfl)))
      refine loose_done (fun w9 hC' hG' => ?_)
      clear hG'
      have HR1 := hidden (R1.out.grow hC')
      have HR0 := hidden (R0.out.grow hC')
      have HB9 := hidden (B0.out.trans (Only.of_grows hC' (fun i => i = g)) (fun i hi => .inl hi))
      clear hC'
      refine wpList_store_c rfl _ _ _ rfl size_int1 g (64 + p) rfl (.int .i64 (c + 1)) rfl rfl _ _ HR1.out (by rw [icells_length]; omega) ?_
      intro W hr ho
      rw [icells_set16, ← HST.out] at hr
      have HRR := hidden hr
      have HR00 := hidden (ho.row HR0.out (by omega))
      have HGG := hidden (HB9.out.trans ho (fun i hi => .inl hi))
      clear hr ho
      go_wp2_with fail
      go_roundw
      case rel => exact ⟨2, by omega, rfl, HRR.out, HR00.out, HGG.out⟩
      case measure => simp [intOf]
    · have hu2 : u5 = .int .i64 2 := hu
      subst hu2
      clear hu
      have HPK := hidden (fun X => HP.out 2 (by omega) X)
      have hp := HPL.out 2
      have hcb := HC.out 2
      have HX := hidden (fun X (h : Grows wr X) => show X.cell? ⟨w.heap.size, 0, none⟩ = some (.int .i64 x.k) ∧ X.cell? ⟨w.heap.size, 1, none⟩ = some (.int .i64 x.n) ∧ X.cell? ⟨w.heap.size, 2, none⟩ = some (.string x.t) ∧ X.cell? ⟨g, 64 * 2 + posN 2 x, none⟩ = some (.int .i64 (ctrC (addC cm x 2) 2 x)) from ⟨(R0.out.grow h).cell 0, (R0.out.grow h).cell 1, (R0.out.grow h).cell 2, ctr_cell (R1.out.grow h) (HL.out 2) 2 (by omega) x⟩)
      have HST := hidden (show addC cm x 3 = (addC cm x 2).set (64 * 2 + posN 2 x) (ctrC (addC cm x 2) 2 x + 1) from rfl)
      have HLK := HL.out 2
      generalize posN 2 x = p at *
      generalize ctrC (addC cm x 2) 2 x = c at *
      rw [show 64 * 2 + p = 128 + p by omega] at HX HST
      have hp0 : (0 : Int) ≤ (p : Int) := by omega
      have hp1 : (p : Int) < 64 := by omega
      have hwc : IntKind.i64.wrap (c + 1) = c + 1 := by rw [IntKind.wrap_i64]; omega
      have HPP := hidden hp
      clear HP HPL HL HC hcb
      go_wp2_with fail
      refine wp_region_loose_tail 13 (tabRs [(4, ConstV (.int .i64 (p : Int)))]) (by kernel_rfl) (by kernel_rfl) (tabRs_cons ConstV.lasts tabRs_nil) ?_
      simp only [List.take_succ_cons, List.take_zero, List.drop_succ_cons, List.drop_zero]
      iterate 4 ((with_reducible refine loose_one (v := ?_) (a' := ?_) ?_ ?_ (fun w' hC' hG' => ?_) ?_ ?_); rotate_left 2; (focus rfl); (focus rfl); (focus (obtain ⟨x0, x1, x2, k1⟩ := HX.out w' hC'; clear hC' hG'; go_simp; rfl)); (focus (go_simp; rfl)))
      refine loose_call (R := ConstV (.int .i64 (p : Int))) (f := 111) (args := #[.int .i64 2, .agg #[.int .i64 x.k, .int .i64 x.n, .string x.t]]) (by rfl) (by rfl) (fun _ => by go_simp) (fun w' hC' hG' => HPK.out w') ?_
      rintro _ ⟨_, _, rfl⟩
      refine ⟨?_, ?_, ?_⟩
      rotate_left
      · go_simp
        rfl
      iterate 8 ((with_reducible refine loose_one (v := ?_) (a' := ?_) ?_ ?_ (fun w' hC' hG' => ?_) ?_ ?_); rotate_left 2; (focus rfl); (focus rfl); (focus (obtain ⟨x0, x1, x2, k1⟩ := HX.out w' hC'; clear hC' hG'; go_simp; rfl)); (focus (go_simp; rfl)))
      refine loose_done (fun w9 hC' hG' => ?_)
      clear hG'
      have HR1 := hidden (R1.out.grow hC')
      have HR0 := hidden (R0.out.grow hC')
      have HB9 := hidden (B0.out.trans (Only.of_grows hC' (fun i => i = g)) (fun i hi => .inl hi))
      clear hC'
      refine wpList_store_c rfl _ _ _ rfl size_int1 g (128 + p) rfl (.int .i64 (c + 1)) rfl rfl _ _ HR1.out (by rw [icells_length]; omega) ?_
      intro W hr ho
      rw [icells_set16, ← HST.out] at hr
      have HRR := hidden hr
      have HR00 := hidden (ho.row HR0.out (by omega))
      have HGG := hidden (HB9.out.trans ho (fun i hi => .inl hi))
      clear hr ho
      go_wp2_with fail
      go_roundw
      case rel => exact ⟨3, by omega, rfl, HRR.out, HR00.out, HGG.out⟩
      case measure => simp [intOf]
    · have hu2 : u5 = .int .i64 3 := hu
      subst hu2
      clear hu
      have HPK := hidden (fun X => HP.out 3 (by omega) X)
      have hp := HPL.out 3
      have hcb := HC.out 3
      have HX := hidden (fun X (h : Grows wr X) => show X.cell? ⟨w.heap.size, 0, none⟩ = some (.int .i64 x.k) ∧ X.cell? ⟨w.heap.size, 1, none⟩ = some (.int .i64 x.n) ∧ X.cell? ⟨w.heap.size, 2, none⟩ = some (.string x.t) ∧ X.cell? ⟨g, 64 * 3 + posN 3 x, none⟩ = some (.int .i64 (ctrC (addC cm x 3) 3 x)) from ⟨(R0.out.grow h).cell 0, (R0.out.grow h).cell 1, (R0.out.grow h).cell 2, ctr_cell (R1.out.grow h) (HL.out 3) 3 (by omega) x⟩)
      have HST := hidden (show addC cm x 4 = (addC cm x 3).set (64 * 3 + posN 3 x) (ctrC (addC cm x 3) 3 x + 1) from rfl)
      have HLK := HL.out 3
      generalize posN 3 x = p at *
      generalize ctrC (addC cm x 3) 3 x = c at *
      rw [show 64 * 3 + p = 192 + p by omega] at HX HST
      have hp0 : (0 : Int) ≤ (p : Int) := by omega
      have hp1 : (p : Int) < 64 := by omega
      have hwc : IntKind.i64.wrap (c + 1) = c + 1 := by rw [IntKind.wrap_i64]; omega
      have HPP := hidden hp
      clear HP HPL HL HC hcb
      go_wp2_with fail
      refine wp_region_loose_tail 13 (tabRs [(4, ConstV (.int .i64 (p : Int)))]) (by kernel_rfl) (by kernel_rfl) (tabRs_cons ConstV.lasts tabRs_nil) ?_
      simp only [List.take_succ_cons, List.take_zero, List.drop_succ_cons, List.drop_zero]
      iterate 4 ((with_reducible refine loose_one (v := ?_) (a' := ?_) ?_ ?_ (fun w' hC' hG' => ?_) ?_ ?_); rotate_left 2; (focus rfl); (focus rfl); (focus (obtain ⟨x0, x1, x2, k1⟩ := HX.out w' hC'; clear hC' hG'; go_simp; rfl)); (focus (go_simp; rfl)))
      refine loose_call (R := ConstV (.int .i64 (p : Int))) (f := 111) (args := #[.int .i64 3, .agg #[.int .i64 x.k, .int .i64 x.n, .string x.t]]) (by rfl) (by rfl) (fun _ => by go_simp) (fun w' hC' hG' => HPK.out w') ?_
      rintro _ ⟨_, _, rfl⟩
      refine ⟨?_, ?_, ?_⟩
      rotate_left
      · go_simp
        rfl
      iterate 8 ((with_reducible refine loose_one (v := ?_) (a' := ?_) ?_ ?_ (fun w' hC' hG' => ?_) ?_ ?_); rotate_left 2; (focus rfl); (focus rfl); (focus (obtain ⟨x0, x1, x2, k1⟩ := HX.out w' hC'; clear hC' hG'; go_simp; rfl)); (focus (go_simp; rfl)))
      refine loose_done (fun w9 hC' hG' => ?_)
      clear hG'
      have HR1 := hidden (R1.out.grow hC')
      have HR0 := hidden (R0.out.grow hC')
      have HB9 := hidden (B0.out.trans (Only.of_grows hC' (fun i => i = g)) (fun i hi => .inl hi))
      clear hC'
      refine wpList_store_c rfl _ _ _ rfl size_int1 g (192 + p) rfl (.int .i64 (c + 1)) rfl rfl _ _ HR1.out (by rw [icells_length]; omega) ?_
      intro W hr ho
      rw [icells_set16, ← HST.out] at hr
      have HRR := hidden hr
      have HR00 := hidden (ho.row HR0.out (by omega))
      have HGG := hidden (HB9.out.trans ho (fun i hi => .inl hi))
      clear hr ho
      go_wp2_with fail
      go_roundw
      case rel => exact ⟨4, by omega, rfl, HRR.out, HR00.out, HGG.out⟩
      case measure => simp [intOf]
end Go.Proofs.YtoaklmceejeblaaGreat
