/-
  Package frameref as it landed: tallyByWidth. Nothing that was there is changed.
-/
import Derived.Test.YtjjeebaelpgjlaaFrT
import Derived.Deep.WholeRow
import Derived.StillTail
import Derived.StillTailTactics
namespace Go.Proofs.Ytjjeebaelpgjlaa
open Go.RowKit
set_option linter.unusedVariables false
set_option linter.unusedSimpArgs false

theorem Row.setRow_ {w : World} {g : Nat} {e : TypeId} {xs : List Value} (h : Row w g e xs) (ys : List Value) (_hl : xs.toArray.size = ys.toArray.size) : Row (w.setRow g ys.toArray) g e ys := by
  unfold Row at h ⊢
  simp [World.setRow, Array.getElem?_modify, h]
theorem below_setRow {B g : Nat} {a w : World} (h : Below B a w) (hg : B ≤ g) (cs : Array Value) : Below B a (w.setRow g cs) :=
  ⟨h.os, h.tape, h.output, by simpa [World.setRow] using h.size, fun k hk => (setRow_other w g k cs (by omega)).trans (h.block k hk)⟩
/-- the table: how many, and the bytes of their indices, for each width -/
def tabT (C X : Nat → Nat) : List Value := (List.range 130).map fun j => .int .i64 (((if j % 2 = 0 then C (j / 2) else X (j / 2)) : Nat) : Int)
theorem tabT_length (C X : Nat → Nat) : (tabT C X).length = 130 := by simp [tabT]
theorem tabT_at (C X : Nat → Nat) {j : Nat} (h : j < 130) : (tabT C X)[j]? = some (.int .i64 (((if j % 2 = 0 then C (j / 2) else X (j / 2)) : Nat) : Int)) := by simp [tabT, h]
theorem tabT_0 (C X : Nat → Nat) {k : Nat} (h : k < 65) : (tabT C X)[k * 2]? = some (.int .i64 (C k : Int)) := by
  rw [tabT_at C X (by omega), if_pos (by omega), show k * 2 / 2 = k by omega]
theorem tabT_1 (C X : Nat → Nat) {k : Nat} (h : k < 65) : (tabT C X)[k * 2 + 1]? = some (.int .i64 (X k : Int)) := by
  rw [tabT_at C X (by omega), if_neg (by omega), show (k * 2 + 1) / 2 = k by omega]
theorem tabT_congr {C X C' X' : Nat → Nat} (h : ∀ k, k < 65 → C k = C' k) (h2 : ∀ k, k < 65 → X k = X' k) : tabT C X = tabT C' X' := by
  unfold tabT
  refine List.map_congr_left fun j hj => ?_
  rw [List.mem_range] at hj
  rw [h (j / 2) (by omega), h2 (j / 2) (by omega)]
theorem tabT_set0 (C X : Nat → Nat) {k n : Nat} (h : k < 65) : (tabT C X).set (k * 2) (.int .i64 (n : Int)) = tabT (fun j => if j = k then n else C j) X := by
  apply List.ext_getElem?
  intro j
  rw [List.getElem?_set, tabT_length]
  by_cases hj : j < 130
  · rw [tabT_at _ _ hj, tabT_at _ _ hj]
    by_cases he : k * 2 = j
    · subst he
      rw [if_pos rfl, if_pos (by omega), if_pos (by omega), if_pos (by omega)]
    · rw [if_neg he]
      by_cases h2 : j % 2 = 0
      · rw [if_pos h2, if_pos h2, if_neg (by omega)]
      · rw [if_neg h2, if_neg h2]
  · rw [if_neg (by omega), List.getElem?_eq_none (by rw [tabT_length]; omega), List.getElem?_eq_none (by rw [tabT_length]; omega)]
theorem tabT_set1 (C X : Nat → Nat) {k n : Nat} (h : k < 65) : (tabT C X).set (k * 2 + 1) (.int .i64 (n : Int)) = tabT C (fun j => if j = k then n else X j) := by
  apply List.ext_getElem?
  intro j
  rw [List.getElem?_set, tabT_length]
  by_cases hj : j < 130
  · rw [tabT_at _ _ hj, tabT_at _ _ hj]
    by_cases he : k * 2 + 1 = j
    · subst he
      rw [if_pos rfl, if_pos (by omega), if_neg (by omega), if_pos (by omega)]
    · rw [if_neg he]
      by_cases h2 : j % 2 = 0
      · rw [if_pos h2, if_pos h2]
      · rw [if_neg h2, if_neg h2, if_neg (by omega)]
  · rw [if_neg (by omega), List.getElem?_eq_none (by rw [tabT_length]; omega), List.getElem?_eq_none (by rw [tabT_length]; omega)]
theorem tabT_zero : Array.replicate 130 (Value.int .i64 0) = (tabT (fun _ => 0) (fun _ => 0)).toArray := by
  apply Array.toList_inj.1
  rw [Array.toList_replicate]
  apply List.ext_getElem?
  intro j
  rw [List.getElem?_replicate]
  by_cases h : j < 130
  · rw [if_pos h, tabT_at _ _ h]
    congr 2
    split <;> rfl
  · rw [if_neg h]
    exact (List.getElem?_eq_none (by rw [tabT_length]; omega)).symm
theorem tabT_oneCell (C X : Nat → Nat) : (tabT C X).toArray.all (·.oneCell') = true := by
  rw [Array.all_eq_true_iff_forall_mem]
  intro v hv
  simp only [tabT, List.mem_toArray, List.mem_map] at hv
  obtain ⟨j, _, rfl⟩ := hv
  rfl
theorem zero65 : (Try.prog.info? 91).map (fun i => (i.zero, i.size)) = some (some (.agg (Array.replicate 130 (.int .i64 0))), 130) := by kernel_rfl
def TRel (w : World) (ds : List Nat) (i : Value) (wr : World) : Prop :=
  ∃ k : Nat, k ≤ ds.length ∧ i = .int .i64 (k : Int) ∧ Row wr (w.heap.size + 1) 91 (tabT (cntW (ds.take k)) (idxW 0 (ds.take k))) ∧ Row wr w.heap.size 91 (tabT (fun _ => 0) fun _ => 0) ∧ Below w.heap.size w wr
theorem cntW_le (b : Nat) : ∀ l, cntW l b ≤ l.length
  | [] => by simp [cntW]
  | x :: l => by
    have := cntW_le b l
    rw [cntW, List.length_cons]
    split <;> omega
theorem idxW_le (b : Nat) : ∀ l i, i + l.length ≤ 9223372036854775808 → idxW i l b ≤ 10 * l.length
  | [], i, _ => by simp [idxW]
  | x :: l, i, h => by
    rw [List.length_cons] at h
    have := idxW_le b l (i + 1) (by omega)
    have h2 := (esz_bd (n := i) (by omega)).2
    rw [idxW, List.length_cons]
    split <;> omega
set_option maxRecDepth 8000 in
set_option maxHeartbeats 4000000 in
theorem tally_any (v : Value) (l : List Int) (b0 : Int) (w : World) (hv : IsI w v l) (hl : l.length ≤ 65536) :
    Calls Try.prog 68 #[v, .int .i64 b0] w fun e w' => e = .returned (.agg (tabT (cntW (l.map (difN b0))) (idxW 0 (l.map (difN b0)))).toArray) ∧ Grows w w' := by
  obtain ⟨hz, hi⟩ := zero_of_info (P := Try.prog) zero65
  have HV := hidden hv
  obtain ⟨A, c, rfl⟩ := hv.slice_
  obtain ⟨ds, hds⟩ : ∃ ds, ds = l.map (difN b0) := ⟨_, rfl⟩
  rw [← hds]
  have HDL := hidden (show ds.length = l.length by rw [hds, List.length_map])
  have HDG : Hid (∀ k, (h : k < l.length) → ds[k]? = some (difN b0 l[k])) := fun k h => by
    rw [hds, List.getElem?_map, List.getElem?_eq_getElem h]; rfl
  clear hds hv
  go_enter Try.func68, Try.ntmps68
  go_wp2
  rw [tabT_zero]
  have h1 := hidden (Row.at_ (w.alloc (.cells (tabT (fun _ => 0) fun _ => 0).toArray 91)) 91 (tabT (fun _ => 0) fun _ => 0).toArray (tabT (fun _ => 0) fun _ => 0) rfl (w.heap.size + 1) (by simp))
  have h0 := hidden ((Row.new w 91 (tabT (fun _ => 0) fun _ => 0).toArray (tabT (fun _ => 0) fun _ => 0) rfl).grow (w' := (w.alloc (.cells (tabT (fun _ => 0) fun _ => 0).toArray 91)).alloc (.cells (tabT (fun _ => 0) fun _ => 0).toArray 91)) ((Below.refl _ _).alloc (Nat.le_refl _) _))
  have hb := hidden (((Below.refl w.heap.size w).alloc (Nat.le_refl _) (.cells (tabT (fun _ => 0) fun _ => 0).toArray 91)).alloc (by simp) (.cells (tabT (fun _ => 0) fun _ => 0).toArray 91))
  go_loopw [11] (fun i wr => TRel w ds i wr) (fun i _ => l.length - (intOf i).toNat)
  case atStart => exact ⟨0, by omega, rfl, h1.out, h0.out, hb.out⟩
  case round =>
    obtain ⟨k, hk, rfl, r1, r0, hbw⟩ := hrel
    have R1 := hidden r1
    have R0 := hidden r0
    have B0 := hidden hbw
    clear r1 r0 hbw h1 h0 hb
    by_cases hlt : k < l.length
    · obtain ⟨bb, f, rfl, hck⟩ := (HV.out.grow B0.out).at_ hlt
      have hg := HDG.out k hlt
      have hkd : k < ds.length := by have := HDL.out; omega
      rw [List.getElem?_eq_getElem hkd] at hg
      injection hg with hg
      have HTD := hidden (List.take_succ_eq_append_getElem hkd)
      rw [hg] at HTD
      have HTL := hidden (show (ds.take k).length = k by rw [List.length_take]; omega)
      have hdk : difN b0 l[k] < 18446744073709551616 := difN_lt _ _
      have HDF := hidden (fun w' => difference_any l[k] b0 w')
      generalize l[k] = x at *
      generalize difN b0 x = d at *
      have HBW := hidden (fun w' => bitWidth_any (d : Int) w' (by omega) (by omega))
      rw [Int.toNat_natCast] at HBW
      have hK := bitLen_bd hdk
      have HCS := hidden (fun b => cntW_snoc d b (ds.take k))
      have HXS := hidden (fun b => idxW_snoc d b (ds.take k) 0)
      obtain ⟨K, hKe⟩ : ∃ K, K = Lib.bitLen d := ⟨_, rfl⟩
      rw [← hKe] at HBW hK HCS HXS
      rw [HTL.out, Nat.zero_add] at HXS
      have hK65 : K < 65 := by omega
      have hcn := cntW_le K (ds.take k)
      have hxn := idxW_le K (ds.take k) 0 (by rw [HTL.out]; omega)
      rw [HTL.out] at hcn hxn
      have cc0 := R1.out.cell (K * 2)
      have cc1 := R1.out.cell (K * 2 + 1)
      rw [tabT_0 _ _ hK65] at cc0
      rw [tabT_1 _ _ hK65] at cc1
      generalize hcw : cntW (ds.take k) = C at *
      generalize hxw : idxW 0 (ds.take k) = X at *
      have fr0 := R1.out.frozen (K * 2)
      have fr1 := R1.out.frozen (K * 2 + 1)
      have HVS := hidden (fun w' => varintSize_any k w' (by omega))
      clear hg hkd hcw hxw hKe
      go_wp2_with fail
      refine (HDF.out wr).mono ?_
      rintro e w' ⟨rfl, rfl⟩
      go_wp2_with fail
      refine (HBW.out wr).mono ?_
      rintro e w' ⟨rfl, rfl⟩
      go_wp2_with fail
      have e1 : ((C K : Int) + 1) = ((C K + 1 : Nat) : Int) := by omega
      have r2 := R1.out.set_ (K * 2) (.int .i64 ((C K + 1 : Nat) : Int))
      rw [tabT_set0 _ _ hK65, ← e1] at r2
      have s2 := R0.out.other (a := ⟨w.heap.size + 1, K * 2, none⟩) (by show w.heap.size + 1 ≠ w.heap.size; omega) (.int .i64 ((C K : Int) + 1))
      have b2 := B0.out.setCell (p := ⟨w.heap.size + 1, K * 2, none⟩) (Nat.le_succ _) (.int .i64 ((C K : Int) + 1))
      have v2 := hidden (show True from trivial)
      generalize wr.setCell ⟨w.heap.size + 1, K * 2, none⟩ (.int .i64 ((C K : Int) + 1)) = W1 at *
      have R2 := hidden r2
      have S2 := hidden s2
      have B2 := hidden b2
      have HX : Hid (∀ w', Grows W1 w' → w'.cell? ⟨w.heap.size + 1, K * 2 + 1, none⟩ = some (.int .i64 (X K : Int))) := fun w' h => by
        rw [(Row.grow r2 h).cell (K * 2 + 1), tabT_1 _ _ hK65]
      have hwk : IntKind.u64.wrap (k : Int) = (k : Int) := by rw [IntKind.wrap_u64]; omega
      have hes : esz k ≤ 10 := (esz_bd (n := k) (by omega)).2
      clear r2 s2 b2 v2 cc0 cc1 fr0 fr1 hck e1
      refine wp_region_loose_tail 8 (tabRs [(6, ConstV (.int .i64 ((esz k : Nat) : Int)))]) (by kernel_rfl) (by kernel_rfl) (tabRs_cons ConstV.lasts tabRs_nil) ?_
      simp only [List.take_succ_cons, List.take_zero, List.drop_succ_cons, List.drop_zero]
      iterate 6 ((with_reducible refine loose_one (v := ?_) (a' := ?_) ?_ ?_ (fun w' hC' hG' => ?_) ?_ ?_); rotate_left 2; (focus rfl); (focus rfl); (focus (have cc := HX.out w' hC'; clear hC' hG'; go_simp; rfl)); (focus (go_simp; rfl)))
      refine loose_call (R := ConstV (.int .i64 ((esz k : Nat) : Int))) (f := 69) (args := #[.int .u64 (k : Int)]) (by rfl) (by rfl) (fun _ => by go_simp) (fun w' hC' hG' => const_loose0 (HVS.out w')) ?_
      rintro _ ⟨_, _, rfl⟩
      refine ⟨?_, ?_, ?_⟩
      rotate_left
      · go_simp
        rfl
      iterate 1 ((with_reducible refine loose_one (v := ?_) (a' := ?_) ?_ ?_ (fun w' hC' hG' => ?_) ?_ ?_); rotate_left 2; (focus rfl); (focus rfl); (focus (have cc := HX.out w' hC'; clear hC' hG'; go_simp; rfl)); (focus (go_simp; rfl)))
      refine loose_done (fun w6 hC' hG' => ?_)
      clear hG'
      have r6 := Row.grow R2.out hC'
      have fr6 := r6.frozen (K * 2 + 1)
      have cc6 := r6.cell (K * 2 + 1)
      rw [tabT_1 _ _ hK65] at cc6
      have e2 : ((X K : Int) + (esz k : Int)) = ((X K + esz k : Nat) : Int) := by omega
      have r7 := r6.set_ (K * 2 + 1) (.int .i64 ((X K + esz k : Nat) : Int))
      rw [tabT_set1 _ _ hK65, ← e2] at r7
      have s7 := (Row.grow S2.out hC').other (a := ⟨w.heap.size + 1, K * 2 + 1, none⟩) (by show w.heap.size + 1 ≠ w.heap.size; omega) (.int .i64 ((X K : Int) + (esz k : Int)))
      have b7 := (Grows.of_below B2.out hC').setCell (p := ⟨w.heap.size + 1, K * 2 + 1, none⟩) (Nat.le_succ _) (.int .i64 ((X K : Int) + (esz k : Int)))
      have R7 := hidden r7
      have S7 := hidden s7
      have B7 := hidden b7
      clear r6 r7 s7 b7 e2 hC'
      go_wp2_with fail
      refine ⟨⟨k + 1, by have := HDL.out; omega, by go_num, ?_, S7.out, B7.out⟩, by simp [intOf]; omega⟩
      rw [HTD.out]
      have hcg : tabT (cntW (ds.take k ++ [d])) (idxW 0 (ds.take k ++ [d])) = tabT (fun j => if j = K then C K + 1 else C j) (fun j => if j = K then X K + esz k else X j) := by
        refine tabT_congr (fun j _ => ?_) (fun j _ => ?_)
        · rw [HCS.out j]
          by_cases h : j = K
          · subst h; rw [if_pos rfl, if_pos rfl]
          · rw [if_neg (fun h2 => h h2.symm), if_neg h]; omega
        · rw [HXS.out j]
          by_cases h : j = K
          · subst h; rw [if_pos rfl, if_pos rfl]
          · rw [if_neg (fun h2 => h h2.symm), if_neg h]; omega
      rw [hcg]
      exact R7.out
    · have hke : k = ds.length := by have := HDL.out; omega
      subst hke
      rw [List.take_length] at R1
      generalize hT : tabT (cntW ds) (idxW 0 ds) = T at *
      have hTL : T.toArray.size = 130 := by rw [List.size_toArray, ← hT, tabT_length]
      have hR1 : wr.heap[w.heap.size + 1]? = some (.cells T.toArray 91 (0, 0)) := R1.out
      have hR0 : wr.heap[w.heap.size]? = some (.cells (tabT (fun _ => 0) fun _ => 0).toArray 91 (0, 0)) := R0.out
      have HI := hidden (show (Try.prog.info? 91).map (·.size) = some T.toArray.size by rw [hi, hTL])
      have hsz1 : (tabT (fun _ => 0) fun _ => 0).toArray.size = T.toArray.size := by rw [hTL, List.size_toArray, tabT_length]
      have H1 := hidden hR1
      have H0 := hidden hR0
      have HS1 := hidden hsz1
      have HO := hidden (show T.toArray.all (·.oneCell') = true by rw [← hT]; exact tabT_oneCell _ _)
      have hrow := hidden (Row.setRow_ R0.out T hsz1)
      have HT := hidden hT
      clear hz hi hT hTL hR1 hR0 hsz1
      generalize (tabT (fun _ => 0) fun _ => 0) = T0 at *
      go_wp2_with (first | refine wpList_load_row rfl _ _ rfl _ rfl _ _ _ _ H1.out Try.underlying91 rfl HI.out ?_ | refine wpList_store_row rfl _ _ _ rfl _ _ rfl rfl _ _ H0.out HI.out HS1.out HO.out ?_)
      refine bodyPost_ret (v := .agg T.toArray) ?_ rfl ⟨by rw [HT.out], below_setRow B0.out (Nat.le_refl _) _⟩
      exact results_cell_row rfl _ _ _ _ _ _ _ rfl hrow.out Try.underlying91 rfl HI.out
end Go.Proofs.Ytjjeebaelpgjlaa
