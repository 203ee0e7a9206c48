/-
  Texts that the claims of this seat share, put together (Fs1, BsRef2, BsRef3, BsRef4, BsRef5, BsRef6, Rm1, Rm3, Fs3, Fs4, Rm2, Rm6, Fs5, Fs6). No condition.
-/
import Derived.Test.YthmipnokimlbdaaGreatM13
import Derived.Deep.WholeRow
import Derived.StillTail
import Derived.StillTailTactics
import Derived.Test.YthmipnokimlbdaaGreatM12
import Derived.Test.YthmipnokimlbdaaGreatBsRef1
import Derived.Laws.CopyOwn
import Derived.Deep.QuietTactic
import Derived.BigQuiet
import Derived.Test.YthmipnokimlbdaaGreatM1
import Derived.Test.YthmipnokimlbdaaGreatM3
import Derived.Test.YthmipnokimlbdaaGreatM5
import Derived.Test.YthmipnokimlbdaaGreatM6
import Derived.Test.YthmipnokimlbdaaGreatVCat
import Derived.Test.YthmipnokimlbdaaGreatMk
/-
  Shaken: what the claims of this seat need of this text. No condition.
-/
namespace Go.Proofs.YthmipnokimlbdaaGreat
open Go.RowKit
set_option linter.unusedVariables false
set_option linter.unusedSimpArgs false
theorem Row.setRow_ {w : World} {g : Nat} {e : TypeId} {xs : List Value} (h : Row w g e xs) (ys : List Value) (_hl : xs.toArray.size = ys.toArray.size) : Row (w.setRow g ys.toArray) g e ys := by
  unfold Row at h ⊢
  simp [World.setRow, Array.getElem?_modify, h]
theorem below_setRow {B g : Nat} {a w : World} (h : Below B a w) (hg : B ≤ g) (cs : Array Value) : Below B a (w.setRow g cs) :=
  ⟨h.os, h.tape, h.output, by simpa [World.setRow] using h.size, fun k hk => (setRow_other w g k cs (by omega)).trans (h.block k hk)⟩
def tabT (C X : Nat → Nat) : List Value := (List.range 130).map fun j => .int .i64 (((if j % 2 = 0 then C (j / 2) else X (j / 2)) : Nat) : Int)
theorem tabT_length (C X : Nat → Nat) : (tabT C X).length = 130 := by simp [tabT]
theorem tabT_at (C X : Nat → Nat) {j : Nat} (h : j < 130) : (tabT C X)[j]? = some (.int .i64 (((if j % 2 = 0 then C (j / 2) else X (j / 2)) : Nat) : Int)) := by simp [tabT, h]
theorem tabT_0 (C X : Nat → Nat) {k : Nat} (h : k < 65) : (tabT C X)[k * 2]? = some (.int .i64 (C k : Int)) := by
  rw [tabT_at C X (by omega), if_pos (by omega), show k * 2 / 2 = k by omega]
theorem tabT_1 (C X : Nat → Nat) {k : Nat} (h : k < 65) : (tabT C X)[k * 2 + 1]? = some (.int .i64 (X k : Int)) := by
  rw [tabT_at C X (by omega), if_neg (by omega), show (k * 2 + 1) / 2 = k by omega]
theorem tabT_congr {C X C' X' : Nat → Nat} (h : ∀ k, k < 65 → C k = C' k) (h2 : ∀ k, k < 65 → X k = X' k) : tabT C X = tabT C' X' := by
  unfold tabT
  refine List.map_congr_left fun j hj => ?_
  rw [List.mem_range] at hj
  rw [h (j / 2) (by omega), h2 (j / 2) (by omega)]
theorem tabT_set0 (C X : Nat → Nat) {k n : Nat} (h : k < 65) : (tabT C X).set (k * 2) (.int .i64 (n : Int)) = tabT (fun j => if j = k then n else C j) X := by
  apply List.ext_getElem?
  intro j
  rw [List.getElem?_set, tabT_length]
  by_cases hj : j < 130
  · rw [tabT_at _ _ hj, tabT_at _ _ hj]
    by_cases he : k * 2 = j
    · subst he
      rw [if_pos rfl, if_pos (by omega), if_pos (by omega), if_pos (by omega)]
    · rw [if_neg he]
      by_cases h2 : j % 2 = 0
      · rw [if_pos h2, if_pos h2, if_neg (by omega)]
      · rw [if_neg h2, if_neg h2]
  · rw [if_neg (by omega), List.getElem?_eq_none (by rw [tabT_length]; omega), List.getElem?_eq_none (by rw [tabT_length]; omega)]
theorem tabT_set1 (C X : Nat → Nat) {k n : Nat} (h : k < 65) : (tabT C X).set (k * 2 + 1) (.int .i64 (n : Int)) = tabT C (fun j => if j = k then n else X j) := by
  apply List.ext_getElem?
  intro j
  rw [List.getElem?_set, tabT_length]
  by_cases hj : j < 130
  · rw [tabT_at _ _ hj, tabT_at _ _ hj]
    by_cases he : k * 2 + 1 = j
    · subst he
      rw [if_pos rfl, if_pos (by omega), if_neg (by omega), if_pos (by omega)]
    · rw [if_neg he]
      by_cases h2 : j % 2 = 0
      · rw [if_pos h2, if_pos h2]
      · rw [if_neg h2, if_neg h2, if_neg (by omega)]
  · rw [if_neg (by omega), List.getElem?_eq_none (by rw [tabT_length]; omega), List.getElem?_eq_none (by rw [tabT_length]; omega)]
theorem tabT_zero : Array.replicate 130 (Value.int .i64 0) = (tabT (fun _ => 0) (fun _ => 0)).toArray := by
  apply Array.toList_inj.1
  rw [Array.toList_replicate]
  apply List.ext_getElem?
  intro j
  rw [List.getElem?_replicate]
  by_cases h : j < 130
  · rw [if_pos h, tabT_at _ _ h]
    congr 2
    split <;> rfl
  · rw [if_neg h]
    exact (List.getElem?_eq_none (by rw [tabT_length]; omega)).symm
theorem tabT_oneCell (C X : Nat → Nat) : (tabT C X).toArray.all (·.oneCell') = true := by
  rw [Array.all_eq_true_iff_forall_mem]
  intro v hv
  simp only [tabT, List.mem_toArray, List.mem_map] at hv
  obtain ⟨j, _, rfl⟩ := hv
  rfl
theorem zero65 : (Tryz.prog.info? 210).map (fun i => (i.zero, i.size)) = some (some (.agg (Array.replicate 130 (.int .i64 0))), 130) := by kernel_rfl
def TRel (w : World) (ds : List Nat) (i : Value) (wr : World) : Prop :=
  ∃ k : Nat, k ≤ ds.length ∧ i = .int .i64 (k : Int) ∧ Row wr (w.heap.size + 1) 210 (tabT (cntW (ds.take k)) (idxW 0 (ds.take k))) ∧ Row wr w.heap.size 210 (tabT (fun _ => 0) fun _ => 0) ∧ Below w.heap.size w wr
theorem cntW_le (b : Nat) : ∀ l, cntW l b ≤ l.length
  | [] => by simp [cntW]
  | x :: l => by
    have := cntW_le b l
    rw [cntW, List.length_cons]
    split <;> omega
theorem idxW_le (b : Nat) : ∀ l i, i + l.length ≤ 9223372036854775808 → idxW i l b ≤ 10 * l.length
  | [], i, _ => by simp [idxW]
  | x :: l, i, h => by
    rw [List.length_cons] at h
    have := idxW_le b l (i + 1) (by omega)
    have h2 := (esz_bd (n := i) (by omega)).2
    rw [idxW, List.length_cons]
    split <;> omega
set_option maxRecDepth 8000 in
set_option maxHeartbeats 4000000 in
theorem tally_any (v : Value) (l : List Int) (b0 : Int) (w : World) (hv : IsI w v l) (hl : l.length ≤ 65536) :
    Calls Tryz.prog 202 #[v, .int .i64 b0] w fun e w' => e = .returned (.agg (tabT (cntW (l.map (difN b0))) (idxW 0 (l.map (difN b0)))).toArray) ∧ Grows w w' := by
  obtain ⟨hz, hi⟩ := zero_of_info (P := Tryz.prog) zero65
  have HV := hidden hv
  obtain ⟨A, c, rfl⟩ := hv.slice_
  obtain ⟨ds, hds⟩ : ∃ ds, ds = l.map (difN b0) := ⟨_, rfl⟩
  rw [← hds]
  have HDL := hidden (show ds.length = l.length by rw [hds, List.length_map])
  have HDG : Hid (∀ k, (h : k < l.length) → ds[k]? = some (difN b0 l[k])) := fun k h => by
    rw [hds, List.getElem?_map, List.getElem?_eq_getElem h]; rfl
  clear hds hv
  go_enter Tryz.func202, Tryz.ntmps202
  go_wp2
  rw [tabT_zero]
  have h1 := hidden (Row.at_ (w.alloc (.cells (tabT (fun _ => 0) fun _ => 0).toArray 210)) 210 (tabT (fun _ => 0) fun _ => 0).toArray (tabT (fun _ => 0) fun _ => 0) rfl (w.heap.size + 1) (by simp))
  have h0 := hidden ((Row.new w 210 (tabT (fun _ => 0) fun _ => 0).toArray (tabT (fun _ => 0) fun _ => 0) rfl).grow (w' := (w.alloc (.cells (tabT (fun _ => 0) fun _ => 0).toArray 210)).alloc (.cells (tabT (fun _ => 0) fun _ => 0).toArray 210)) ((Below.refl _ _).alloc (Nat.le_refl _) _))
  have hb := hidden (((Below.refl w.heap.size w).alloc (Nat.le_refl _) (.cells (tabT (fun _ => 0) fun _ => 0).toArray 210)).alloc (by simp) (.cells (tabT (fun _ => 0) fun _ => 0).toArray 210))
  go_loopw [11] (fun i wr => TRel w ds i wr) (fun i _ => l.length - (intOf i).toNat)
  case atStart => exact ⟨0, by omega, rfl, h1.out, h0.out, hb.out⟩
  case round =>
    obtain ⟨k, hk, rfl, r1, r0, hbw⟩ := hrel
    have R1 := hidden r1
    have R0 := hidden r0
    have B0 := hidden hbw
    clear r1 r0 hbw h1 h0 hb
    by_cases hlt : k < l.length
    · obtain ⟨bb, f, rfl, hck⟩ := (HV.out.grow B0.out).at_ hlt
      have hg := HDG.out k hlt
      have hkd : k < ds.length := by have := HDL.out; omega
      rw [List.getElem?_eq_getElem hkd] at hg
      injection hg with hg
      have HTD := hidden (List.take_succ_eq_append_getElem hkd)
      rw [hg] at HTD
      have HTL := hidden (show (ds.take k).length = k by rw [List.length_take]; omega)
      have hdk : difN b0 l[k] < 18446744073709551616 := difN_lt _ _
      have HDF := hidden (fun w' => difference_any l[k] b0 w')
      generalize l[k] = x at *
      generalize difN b0 x = d at *
      have HBW := hidden (fun w' => bitWidth_any (d : Int) w' (by omega) (by omega))
      rw [Int.toNat_natCast] at HBW
      have hK := bitLen_bd hdk
      have HCS := hidden (fun b => cntW_snoc d b (ds.take k))
      have HXS := hidden (fun b => idxW_snoc d b (ds.take k) 0)
      obtain ⟨K, hKe⟩ : ∃ K, K = Lib.bitLen d := ⟨_, rfl⟩
      rw [← hKe] at HBW hK HCS HXS
      rw [HTL.out, Nat.zero_add] at HXS
      have hK65 : K < 65 := by omega
      have hcn := cntW_le K (ds.take k)
      have hxn := idxW_le K (ds.take k) 0 (by rw [HTL.out]; omega)
      rw [HTL.out] at hcn hxn
      have cc0 := R1.out.cell (K * 2)
      have cc1 := R1.out.cell (K * 2 + 1)
      rw [tabT_0 _ _ hK65] at cc0
      rw [tabT_1 _ _ hK65] at cc1
      generalize hcw : cntW (ds.take k) = C at *
      generalize hxw : idxW 0 (ds.take k) = X at *
      have fr0 := R1.out.frozen (K * 2)
      have fr1 := R1.out.frozen (K * 2 + 1)
      have HVS := hidden (fun w' => varintSize_any k w' (by omega))
      clear hg hkd hcw hxw hKe
      go_wp2_with fail
      refine (HDF.out wr).mono ?_
      rintro e w' ⟨rfl, rfl⟩
      go_wp2_with fail
      refine (HBW.out wr).mono ?_
      rintro e w' ⟨rfl, rfl⟩
      go_wp2_with fail
      have e1 : ((C K : Int) + 1) = ((C K + 1 : Nat) : Int) := by omega
      have r2 := R1.out.set_ (K * 2) (.int .i64 ((C K + 1 : Nat) : Int))
      rw [tabT_set0 _ _ hK65, ← e1] at r2
      have s2 := R0.out.other (a := ⟨w.heap.size + 1, K * 2, none⟩) (by show w.heap.size + 1 ≠ w.heap.size; omega) (.int .i64 ((C K : Int) + 1))
      have b2 := B0.out.setCell (p := ⟨w.heap.size + 1, K * 2, none⟩) (Nat.le_succ _) (.int .i64 ((C K : Int) + 1))
      have v2 := hidden (show True from trivial)
      generalize wr.setCell ⟨w.heap.size + 1, K * 2, none⟩ (.int .i64 ((C K : Int) + 1)) = W1 at *
      have R2 := hidden r2
      have S2 := hidden s2
      have B2 := hidden b2
      have HX : Hid (∀ w', Grows W1 w' → w'.cell? ⟨w.heap.size + 1, K * 2 + 1, none⟩ = some (.int .i64 (X K : Int))) := fun w' h => by
        rw [(Row.grow r2 h).cell (K * 2 + 1), tabT_1 _ _ hK65]
      have hwk : IntKind.u64.wrap (k : Int) = (k : Int) := by rw [IntKind.wrap_u64]; omega
      have hes : esz k ≤ 10 := (esz_bd (n := k) (by omega)).2
      clear r2 s2 b2 v2 cc0 cc1 fr0 fr1 hck e1
      refine wp_region_loose_tail 8 (tabRs [(6, ConstV (.int .i64 ((esz k : Nat) : Int)))]) (by kernel_rfl) (by kernel_rfl) (tabRs_cons ConstV.lasts tabRs_nil) ?_
      simp only [List.take_succ_cons, List.take_zero, List.drop_succ_cons, List.drop_zero]
      iterate 6 ((with_reducible refine loose_one (v := ?_) (a' := ?_) ?_ ?_ (fun w' hC' hG' => ?_) ?_ ?_); rotate_left 2; (focus rfl); (focus rfl); (focus (have cc := HX.out w' hC'; clear hC' hG'; go_simp; rfl)); (focus (go_simp; rfl)))
      refine loose_call (R := ConstV (.int .i64 ((esz k : Nat) : Int))) (f := 203) (args := #[.int .u64 (k : Int)]) (by rfl) (by rfl) (fun _ => by go_simp) (fun w' hC' hG' => const_loose0 (HVS.out w')) ?_
      rintro _ ⟨_, _, rfl⟩
      refine ⟨?_, ?_, ?_⟩
      rotate_left
      · go_simp
        rfl
      iterate 1 ((with_reducible refine loose_one (v := ?_) (a' := ?_) ?_ ?_ (fun w' hC' hG' => ?_) ?_ ?_); rotate_left 2; (focus rfl); (focus rfl); (focus (have cc := HX.out w' hC'; clear hC' hG'; go_simp; rfl)); (focus (go_simp; rfl)))
      refine loose_done (fun w6 hC' hG' => ?_)
      clear hG'
      have r6 := Row.grow R2.out hC'
      have fr6 := r6.frozen (K * 2 + 1)
      have cc6 := r6.cell (K * 2 + 1)
      rw [tabT_1 _ _ hK65] at cc6
      have e2 : ((X K : Int) + (esz k : Int)) = ((X K + esz k : Nat) : Int) := by omega
      have r7 := r6.set_ (K * 2 + 1) (.int .i64 ((X K + esz k : Nat) : Int))
      rw [tabT_set1 _ _ hK65, ← e2] at r7
      have s7 := (Row.grow S2.out hC').other (a := ⟨w.heap.size + 1, K * 2 + 1, none⟩) (by show w.heap.size + 1 ≠ w.heap.size; omega) (.int .i64 ((X K : Int) + (esz k : Int)))
      have b7 := (Grows.of_below B2.out hC').setCell (p := ⟨w.heap.size + 1, K * 2 + 1, none⟩) (Nat.le_succ _) (.int .i64 ((X K : Int) + (esz k : Int)))
      have R7 := hidden r7
      have S7 := hidden s7
      have B7 := hidden b7
      clear r6 r7 s7 b7 e2 hC'
      go_wp2_with fail
      refine ⟨⟨k + 1, by have := HDL.out; omega, by go_num, ?_, S7.out, B7.out⟩, by simp [intOf]; omega⟩
      rw [HTD.out]
      have hcg : tabT (cntW (ds.take k ++ [d])) (idxW 0 (ds.take k ++ [d])) = tabT (fun j => if j = K then C K + 1 else C j) (fun j => if j = K then X K + esz k else X j) := by
        refine tabT_congr (fun j _ => ?_) (fun j _ => ?_)
        · rw [HCS.out j]
          by_cases h : j = K
          · subst h; rw [if_pos rfl, if_pos rfl]
          · rw [if_neg (fun h2 => h h2.symm), if_neg h]; omega
        · rw [HXS.out j]
          by_cases h : j = K
          · subst h; rw [if_pos rfl, if_pos rfl]
          · rw [if_neg (fun h2 => h h2.symm), if_neg h]; omega
      rw [hcg]
      exact R7.out
    · have hke : k = ds.length := by have := HDL.out; omega
      subst hke
      rw [List.take_length] at R1
      generalize hT : tabT (cntW ds) (idxW 0 ds) = T at *
      have hTL : T.toArray.size = 130 := by rw [List.size_toArray, ← hT, tabT_length]
      have hR1 : wr.heap[w.heap.size + 1]? = some (.cells T.toArray 210 (0, 0)) := R1.out
      have hR0 : wr.heap[w.heap.size]? = some (.cells (tabT (fun _ => 0) fun _ => 0).toArray 210 (0, 0)) := R0.out
      have HI := hidden (show (Tryz.prog.info? 210).map (·.size) = some T.toArray.size by rw [hi, hTL])
      have hsz1 : (tabT (fun _ => 0) fun _ => 0).toArray.size = T.toArray.size := by rw [hTL, List.size_toArray, tabT_length]
      have H1 := hidden hR1
      have H0 := hidden hR0
      have HS1 := hidden hsz1
      have HO := hidden (show T.toArray.all (·.oneCell') = true by rw [← hT]; exact tabT_oneCell _ _)
      have hrow := hidden (Row.setRow_ R0.out T hsz1)
      have HT := hidden hT
      clear hz hi hT hTL hR1 hR0 hsz1
      generalize (tabT (fun _ => 0) fun _ => 0) = T0 at *
      go_wp2_with (first | refine wpList_load_row rfl _ _ rfl _ rfl _ _ _ _ H1.out Tryz.underlying210 rfl HI.out ?_ | refine wpList_store_row rfl _ _ _ rfl _ _ rfl rfl _ _ H0.out HI.out HS1.out HO.out ?_)
      refine bodyPost_ret (v := .agg T.toArray) ?_ rfl ⟨by rw [HT.out], below_setRow B0.out (Nat.le_refl _) _⟩
      exact results_cell_row rfl _ _ _ _ _ _ _ rfl hrow.out Tryz.underlying210 rfl HI.out
end Go.Proofs.YthmipnokimlbdaaGreat
/-
  Shaken: what the claims of this seat need of this text. No condition.
-/
namespace Go.Proofs.YthmipnokimlbdaaGreat
set_option maxRecDepth 8000
open Go.RowKit
theorem nw_cast (n : Nat) : ((n : Int) + 63) / 64 = ((nw n : Nat) : Int) := by unfold nw; omega
theorem size_set : (Tryz.prog.info? 54).map (·.size) = some 2 := by kernel_rfl
theorem Row.set_other {w : World} {g : Nat} {e : TypeId} {xs : List Value} (h : Row w g e xs) {a : Addr} (ha : a.block ≠ g) (u : Value) : Row (w.setCell a u) g e xs := by
  unfold Row at h ⊢
  rw [Below.heap_setCell _ _ _ _ (Ne.symm ha)]
  exact h
def upto (f : Nat → Bool) (k : Nat) : Nat → Bool := fun j => decide (j < k) && f j
theorem or_go {x : UInt64} {j : Nat} (hj : j < 64) : bits .or .u64 (x.toNat : Int) (IntKind.u64.wrap (1 * 2 ^ j)) = ((UInt64.ofNat (x.toNat ||| 2 ^ j)).toNat : Int) := by
  have hx := x.toNat_lt
  have hp : 2 ^ j < 18446744073709551616 := Nat.pow_lt_pow_right (n := 64) (by decide) hj
  have e : IntKind.u64.wrap (1 * 2 ^ j) = ((2 ^ j : Nat) : Int) := by
    rw [Int.one_mul, show ((2 : Int) ^ j) = ((2 ^ j : Nat) : Int) by simp, IntKind.wrap_u64]
    generalize 2 ^ j = y at *
    omega
  have hl : x.toNat ||| 2 ^ j < 2 ^ 64 := Nat.or_lt_two_pow hx hp
  rw [e, u64_or_nat x.toNat _ hx hp, UInt64.toNat_ofNat', Nat.mod_eq_of_lt hl]
theorem or_go' {x : UInt64} {j : Nat} (hj : j < 64) : bits .or .u64 (x.toNat : Int) (IntKind.u64.wrap (2 ^ j)) = ((UInt64.ofNat (x.toNat ||| 2 ^ j)).toNat : Int) := by
  rw [← or_go hj, Int.one_mul]
theorem bit_snoc {n k : Nat} {f : Nat → Bool} (hf : f k = true) : pack n (fun j => upto f k j || decide (j = k)) = pack n (upto f (k + 1)) := by
  apply pack_congr
  intro j _
  unfold upto
  by_cases h : j = k
  · subst h; simp [hf]
  · have : decide (j < k + 1) = decide (j < k) := by rw [decide_eq_decide]; omega
    simp [h, this]
theorem bit_miss {n k : Nat} {f : Nat → Bool} (hf : f k = false) : pack n (upto f k) = pack n (upto f (k + 1)) := by
  apply pack_congr
  intro j _
  unfold upto
  by_cases h : j = k
  · subst h; simp [hf]
  · have : decide (j < k + 1) = decide (j < k) := by rw [decide_eq_decide]; omega
    simp [this]
theorem pack_all {n k : Nat} {f : Nat → Bool} (h : n ≤ k) : pack n (upto f k) = pack n f := by
  apply pack_congr
  intro j hj
  have : j < k := by omega
  simp [upto, this]
end Go.Proofs.YthmipnokimlbdaaGreat
/-
  Shaken: what the claims of this seat need of this text. No condition.
-/
namespace Go.Proofs.YthmipnokimlbdaaGreat
set_option maxRecDepth 8000
open Go.RowKit
def rankI (n : Nat) (f : Nat → Bool) (i : Int) : Nat := cnt f (min n i.toNat)
def RankRel (w : World) (n : Nat) (v : Value) (f : Nat → Bool) (i : Int) (c k : Value) (wr : World) : Prop :=
  ∃ j : Nat, j ≤ min n i.toNat ∧ k = .int .i64 j ∧ c = .int .i64 (cnt f j : Int) ∧ Row wr w.heap.size 54 [.int .i64 (n : Int), v] ∧ Below w.heap.size w wr
set_option maxHeartbeats 400000 in
theorem rrank_any (s : Value) (n : Nat) (ws : List UInt64) (i : Int) (w : World) (hs : IsSet w s n ws) (h63 : -9223372036854775808 ≤ i) (h64 : i ≤ 9223372036854775807) :
    Calls Tryz.prog 47 #[s, .int .i64 i] w fun e w' => e = .returned (.int .i64 (rankI n (mem n ws) i : Int)) ∧ Grows w w' := by
  have HS := hidden hs
  obtain ⟨v, rfl, hr, hn, hn2⟩ := hs
  obtain ⟨A, d, rfl, _⟩ := hr.slice_
  rw [ucells_length] at HS hr ⊢
  have HQ : Hid (rankI n (mem n ws) i = cnt (mem n ws) (min n i.toNat)) := by show _ = _; rfl
  have hmin : min n i.toNat ≤ n := Nat.min_le_left _ _
  have hmin2 : min n i.toNat ≤ i.toNat := Nat.min_le_right _ _
  have hmin3 : min n i.toNat = n ∨ min n i.toNat = i.toNat := by omega
  clear hr
  go_enter Tryz.func47, Tryz.ntmps47
  go_wp2
  go_loopw [5, 6] (fun c k wr => RankRel w n (.slice A ws.length d) (mem n ws) i c k wr) (fun _ k _ => n - (intOf k).toNat)
  case atStart => exact ⟨0, Nat.zero_le _, rfl, rfl, Row.new w _ _ _ rfl, (Below.refl _ _).alloc (Nat.le_refl _) _⟩
  case round =>
    obtain ⟨j, hj, rfl, rfl, r1, hb⟩ := hrel
    have hc0 := r1.cell 0
    have hc1 := r1.cell 1
    simp only [List.getElem?_cons_zero, List.getElem?_cons_succ] at hc0 hc1
    have R1 := hidden r1
    have HB := hidden hb
    have hcl := cnt_le (mem n ws) j
    clear r1 hb
    by_cases hlt : j < min n i.toNat
    · have HC := hidden (rcontains_any _ n ws (j : Int) wr (HS.out.grow HB.out) (by omega) (by omega))
      have hd1 : decide ((j : Int) < (n : Int)) = true := by simp; omega
      have hd2 : decide ((j : Int) < i) = true := by simp; omega
      have HN : Hid (cnt (mem n ws) (j + 1) = cnt (mem n ws) j + if mem n ws j then 1 else 0) := by show _ = _; rfl
      have hcb : cnt (mem n ws) j ≤ 1048576 := by omega
      have HLT := hidden hlt
      have hjn : j < n := by omega
      clear hmin3 hmin hmin2 hlt hcl hj
      generalize cnt (mem n ws) j = x at *
      go_wp2_with fail
      refine (Calls.mono HC.out ?_)
      rintro e w2 ⟨rfl, g2⟩
      have HR1 := hidden (R1.out.grow g2)
      have HG2 := hidden (HB.out.trans (g2.mono HB.out.size))
      clear g2
      rw [memI_nat]
      have hlt2 := HLT.out
      by_cases hm : mem n ws j = true
      · rw [hm]
        have hn3 := HN.out
        rw [hm] at hn3
        have HN3 := hidden hn3
        clear hn3 hm hlt2
        go_wp2
        go_roundw
        case rel => exact ⟨j + 1, HLT.out, by go_num, by rw [HN3.out]; go_num, HR1.out, HG2.out⟩
        case measure => simp [intOf]; omega
      · have hm' : mem n ws j = false := by simpa using hm
        rw [hm']
        have hn3 := HN.out
        rw [hm'] at hn3
        have HN3 := hidden hn3
        clear hn3 hm hm' hlt2
        go_wp2
        go_roundw
        case rel => exact ⟨j + 1, HLT.out, by go_num, by rw [HN3.out]; go_num, HR1.out, HG2.out⟩
        case measure => simp [intOf]; omega
    · have hje : j = min n i.toNat := by omega
      have HE : Hid (cnt (mem n ws) j = rankI n (mem n ws) i) := by show _ = _; rw [HQ.out, hje]
      by_cases hjn : j < n
      · have hd1 : decide ((j : Int) < (n : Int)) = true := by simp; omega
        have hd2 : decide ((j : Int) < i) = false := by simp; omega
        clear hmin3 hmin hmin2 hlt hcl hj hje
        go_wp2
        go_ret
        exact ⟨retU (by rw [HE.out]), HB.out⟩
      · have hd1 : decide ((j : Int) < (n : Int)) = false := by simp; omega
        have hnj : n ≤ j := by omega
        clear hmin3 hmin hmin2 hlt hcl hj hje hjn
        go_wp2
        go_ret
        exact ⟨retU (by rw [HE.out]), HB.out⟩
set_option maxHeartbeats 400000 in
theorem rcount_any (s : Value) (n : Nat) (ws : List UInt64) (w : World) (hs : IsSet w s n ws) :
    Calls Tryz.prog 32 #[s] w fun e w' => e = .returned (.int .i64 (cnt (mem n ws) n : Int)) ∧ Grows w w' := by
  have HS := hidden hs
  obtain ⟨v, rfl, hr, hn, hn2⟩ := hs
  obtain ⟨A, d, rfl, _⟩ := hr.slice_
  rw [ucells_length] at HS hr ⊢
  have hG : ∀ o, Grows w (w.alloc o) := fun o => (Below.refl _ _).alloc (Nat.le_refl _) o
  have HG := hidden hG
  have HE : Hid (rankI n (mem n ws) (n : Int) = cnt (mem n ws) n) := by show _ = _; unfold rankI; rw [Int.toNat_natCast, Nat.min_self]
  clear hr hG
  go_enter Tryz.func32, Tryz.ntmps32
  go_wp2_with fail
  refine (rrank_any _ n ws (n : Int) _ (HS.out.grow (HG.out _)) (by omega) (by omega)).mono ?_
  rintro e w1 ⟨rfl, g1⟩
  have HG1 := hidden (Grows.of_below (HG.out _) g1)
  clear g1
  go_wp2
  go_ret
  exact ⟨retU (by rw [HE.out]), HG1.out⟩
end Go.Proofs.YthmipnokimlbdaaGreat
/-
  Shaken: what the claims of this seat need of this text. No condition.
-/
namespace Go.Proofs.YthmipnokimlbdaaGreat
set_option maxRecDepth 8000
open Go.RowKit
end Go.Proofs.YthmipnokimlbdaaGreat
/-
  Shaken: what the claims of this seat need of this text. No condition.
-/
namespace Go.Proofs.YthmipnokimlbdaaGreat
set_option maxRecDepth 8000
open Go.RowKit
end Go.Proofs.YthmipnokimlbdaaGreat
/-
  Shaken: what the claims of this seat need of this text. No condition.
-/
namespace Go.Proofs.YthmipnokimlbdaaGreat
set_option maxRecDepth 8000
open Go.RowKit
theorem below_drawsBsRef6 {B : Nat} {a w : World} (h : Below B a w) (n : Nat) : Below B a (w.drewN n) := h.trans ⟨rfl, rfl, rfl, Nat.le_refl _, fun _ _ => rfl⟩
def IsPair (w : World) (s : Value) (n : Int) (ws : List UInt64) : Prop := ∃ v, s = .agg #[.int .i64 n, v] ∧ Reads w v (ucells ws) ∧ ws.length ≤ 9223372036854775807
theorem IsPair.grow {w w' : World} {s : Value} {n : Int} {ws : List UInt64} (h : IsPair w s n ws) (hb : Grows w w') : IsPair w' s n ws := by
  obtain ⟨v, h1, h2, h3⟩ := h
  exact ⟨v, h1, h2.grow hb, h3⟩
def validP (n : Int) (ws : List UInt64) : Prop := 0 ≤ n ∧ n ≤ 1048576 ∧ okW n.toNat ws
open Classical in
noncomputable def validI (n : Int) (ws : List UInt64) : Bool := decide (validP n ws)
theorem validI_t {n : Int} {ws : List UInt64} (h : validP n ws) : validI n ws = true := by unfold validI; simpa using h
theorem validI_f {n : Int} {ws : List UInt64} (h : ¬ validP n ws) : validI n ws = false := by unfold validI; simpa using h
theorem okW_even {n : Nat} {ws : List UInt64} (h : n % 64 = 0) (hl : ws.length = nw n) : okW n ws := by
  refine ⟨hl, fun i hi => ?_⟩
  unfold wmem
  rw [List.getElem?_eq_none (by rw [hl]; unfold nw; omega)]
theorem okW_last {n : Nat} {ws : List UInt64} (h : n % 64 ≠ 0) (hl : ws.length = nw n) (hlt : ws.length - 1 < ws.length) : okW n ws ↔ ws[ws.length - 1].toNat / 2 ^ (n % 64) = 0 := by
  have hk : ws.length - 1 = n / 64 := by rw [hl]; unfold nw; omega
  have hm : ∀ j, j < 64 → wmem ws (64 * (n / 64) + j) = wbit ws[ws.length - 1] j := by
    intro j hj
    unfold wmem
    rw [show (64 * (n / 64) + j) / 64 = n / 64 by omega, show (64 * (n / 64) + j) % 64 = j by omega, ← hk, List.getElem?_eq_getElem hlt]
  constructor
  · intro ho
    apply Nat.eq_of_testBit_eq
    intro j
    rw [Nat.testBit_div_two_pow, Nat.zero_testBit]
    by_cases hj : j + n % 64 < 64
    · have := ho.2 (64 * (n / 64) + (j + n % 64)) (by omega)
      rw [hm _ hj] at this
      exact this
    · exact wbit_ge (w := ws[ws.length - 1]) (by omega)
  · intro hz
    refine ⟨hl, fun i hi => ?_⟩
    by_cases hi2 : i / 64 = n / 64
    · have e : i = 64 * (n / 64) + i % 64 := by omega
      rw [e, hm _ (by omega)]
      have h1 := congrArg (fun x => x.testBit (i % 64 - n % 64)) hz
      simp only [Nat.testBit_div_two_pow, Nat.zero_testBit] at h1
      rw [show i % 64 - n % 64 + n % 64 = i % 64 by omega] at h1
      exact h1
    · unfold wmem
      rw [List.getElem?_eq_none (by rw [hl]; unfold nw; omega)]
set_option maxHeartbeats 1000000 in
theorem rvalid_any (s : Value) (n : Int) (ws : List UInt64) (w : World) (hs : IsPair w s n ws) (h63 : -9223372036854775808 ≤ n) (h64 : n ≤ 9223372036854775807) :
    Calls Tryz.prog 27 #[s] w fun e w' => e = .returned (.bool (validI n ws)) ∧ Grows w w' := by
  obtain ⟨v, rfl, hr, hla⟩ := hs
  have hr2 := hr
  obtain ⟨A, d, rfl, _⟩ := hr.slice_
  rw [ucells_length] at hr hr2 ⊢
  have hG : ∀ o, Grows w (w.alloc o) := fun o => (Below.refl _ _).alloc (Nat.le_refl _) o
  have HG := hidden hG
  have HR := hidden hr2
  clear hr hr2 hG
  by_cases h0 : n < 0
  · have HF := hidden (validI_f (ws := ws) (fun h : validP n ws => by have := h.1; omega))
    have hd : decide (n < 0) = true := by simpa using h0
    go_enter Tryz.func27, Tryz.ntmps27
    go_wp2
    go_ret
    exact ⟨retB (by rw [HF.out]), HG.out _⟩
  · by_cases h1 : 1048576 < n
    · have HF := hidden (validI_f (ws := ws) (fun h : validP n ws => by have := h.2.1; omega))
      have hd1 : decide (n < 0) = false := by simpa using h0
      have hd : decide (1048576 < n) = true := by simpa using h1
      go_enter Tryz.func27, Tryz.ntmps27
      go_wp2
      go_ret
      exact ⟨retB (by rw [HF.out]), HG.out _⟩
    · obtain ⟨m, rfl⟩ := Int.eq_ofNat_of_zero_le (show 0 ≤ n by omega)
      have hm : m ≤ 1048576 := by omega
      have hnw := nw_cast m
      by_cases hl : ws.length = nw m
      · have hne : ((ws.length : Int) != ((nw m : Nat) : Int)) = false := by simp; omega
        by_cases hz : m % 64 = 0
        · have HT := hidden (validI_t (n := (m : Int)) (ws := ws) ⟨by omega, by omega, by rw [Int.toNat_natCast]; exact okW_even hz hl⟩)
          have hz2 : ((m : Int) % 64 == 0) = true := by simp; omega
          clear hz hl h0 h1
          go_enter Tryz.func27, Tryz.ntmps27
          go_wp2_with fail
          go_quiet (fail)
          go_wp2
          go_ret
          exact ⟨retB (by rw [HT.out]), below_drawsBsRef6 (HG.out _) _⟩
        · have hpos : 0 < ws.length := by rw [hl]; unfold nw; omega
          have hlt : ws.length - 1 < ws.length := by omega
          obtain ⟨A', c', he, _, hcell⟩ := HR.out.grow (HG.out (.cells #[.int .i64 (m : Int), .slice A ws.length d] 54))
          injection he with e1 e2 e3
          subst e1 e3
          obtain ⟨b, off, rfl, hx⟩ := hcell (by rw [ucells_length]; omega)
          have hcl := hx (ws.length - 1) (by rw [ucells_length]; omega)
          rw [ucells_get hlt] at hcl
          have hz2 : ((m : Int) % 64 == 0) = false := by simp; omega
          have hsub : (ws.length : Int) - 1 = ((ws.length - 1 : Nat) : Int) := by omega
          have HOK := hidden (okW_last hz hl hlt)
          have hxb : ws[ws.length - 1].toNat < 18446744073709551616 := ws[ws.length - 1].toNat_lt
          have HV : Hid (validI (m : Int) ws = decide (ws[ws.length - 1].toNat / 2 ^ (m % 64) = 0)) := by
            show _ = _
            by_cases hq : ws[ws.length - 1].toNat / 2 ^ (m % 64) = 0
            · rw [validI_t ⟨by omega, by omega, by rw [Int.toNat_natCast]; exact HOK.out.2 hq⟩]; simp [hq]
            · rw [validI_f (fun h => hq (HOK.out.1 (by have := h.2.2; rwa [Int.toNat_natCast] at this)))]; simp [hq]
          have HLN : Hid (ws.length - 1 < ws.length) := hlt
          clear hz hl h0 h1 hx hcell e2 HOK
          generalize ws[ws.length - 1].toNat = x at *
          have HD : Hid (((x : Int) / 2 ^ (m % 64) == 0) = decide (x / 2 ^ (m % 64) = 0)) := by
            show _ = _
            have e : ((x : Int) / 2 ^ (m % 64)) = ((x / 2 ^ (m % 64) : Nat) : Int) := by simp
            rw [e]
            generalize x / 2 ^ (m % 64) = y
            by_cases hy : y = 0
            · subst hy; rfl
            · have h1 : ((y : Int) == 0) = false := by simp; omega
              rw [h1]; simp [hy]
          go_enter Tryz.func27, Tryz.ntmps27
          go_wp2_with fail
          go_quiet (fail)
          go_wp2
          go_ret
          exact ⟨retB (by rw [HV.out, ← HD.out]), below_drawsBsRef6 (HG.out _) _⟩
      · have HF := hidden (validI_f (n := (m : Int)) (ws := ws) (fun h => hl (by have := h.2.2.1; rwa [Int.toNat_natCast] at this)))
        have hne : ((ws.length : Int) != ((nw m : Nat) : Int)) = true := by simp; omega
        clear hl h0 h1
        go_enter Tryz.func27, Tryz.ntmps27
        go_wp2
        go_ret
        exact ⟨retB (by rw [HF.out]), HG.out _⟩
end Go.Proofs.YthmipnokimlbdaaGreat
/-
  Shaken: what the claims of this seat need of this text. No condition.
-/
namespace Go.Proofs.YthmipnokimlbdaaGreat
set_option maxRecDepth 8000
open Go.RowKit
set_option linter.unusedVariables false
set_option linter.unusedSimpArgs false
theorem runGrow1 {w : World} (o : Obj) : Grows w (w.alloc o) := (Below.refl _ _).alloc (Nat.le_refl _) o
theorem runRow (w : World) (z1 z2 : Value) : Row (w.alloc (.cells #[z1, z2] 125)) w.heap.size 125 [z1, z2] := Row.new w 125 #[z1, z2] [z1, z2] rfl
theorem runCells {w : World} {g : Nat} {v n : Value} (h : Row w g 125 [v, n]) : w.cell? ⟨g, 0, none⟩ = some v ∧ w.cell? ⟨g, 1, none⟩ = some n := ⟨h.cell 0, h.cell 1⟩
def lenV (l : List Rn) : Int × Bool := if validR l then (sumC l, true) else (0, false)
theorem lenV_f {l : List Rn} (h : validR l = false) : lenV l = (0, false) := by unfold lenV; rw [h]; rfl
theorem lenV_t {l : List Rn} (h : validR l = true) : lenV l = (sumC l, true) := by unfold lenV; rw [h]; rfl
def RLenRel (w : World) (l : List Rn) (n i : Value) (wr : World) : Prop :=
  ∃ j : Nat, j ≤ l.length ∧ i = .int .i64 (j : Int) ∧ n = .int .i64 (sumC (l.take j)) ∧ (0 ≤ sumC (l.take j) ∧ sumC (l.take j) ≤ 65536) ∧ (∀ k, k < j → okRun l k = true) ∧ Below w.heap.size w wr
set_option maxHeartbeats 4000000 in
theorem llength_any (v : Value) (l : List Rn) (w : World) (hv : ReadsR w v l) (hl : l.length ≤ 9223372036854775806) :
    Calls Tryz.prog 199 #[v] w fun e w' => e = .returned (.tuple #[.int .i64 (lenV l).1, .bool (lenV l).2]) ∧ Grows w w' := by
  have HV := hidden hv
  obtain ⟨A, c, rfl⟩ := hv.slice_
  clear hv
  go_enter Tryz.func199, Tryz.ntmps199
  go_wp2_with fail
  go_loopw [4, 9] (fun n i wr => RLenRel w l n i wr) (fun _ i _ => l.length - (intOf i).toNat)
  case atStart => exact ⟨0, by omega, rfl, by rw [List.take_zero, sumC_nil], by rw [List.take_zero, sumC_nil]; omega, fun k hk => by omega, Below.refl _ _⟩
  case round =>
    obtain ⟨j, hj, rfl, rfl, hs, hok, hb⟩ := hrel
    have HB := hidden hb
    have HOK := hidden hok
    have HSS := hidden hs
    clear hb hok
    by_cases hlt : j < l.length
    · obtain ⟨b, off, hA, hc⟩ := (HV.out.grow HB.out).at_
      obtain rfl := hA (by omega)
      obtain ⟨c1, c2⟩ := hc j hlt
      have HOR := hidden (okRun_iff hlt)
      have HST := hidden (sumC_take hlt)
      have HP := hidden (fun h1 : j - 1 < l.length => (hc (j - 1) h1).1)
      obtain ⟨L, hL⟩ : ∃ L, L = sumC (l.take j) := ⟨_, rfl⟩
      rw [← hL] at HST hs ⊢
      have HL := hidden hL
      obtain ⟨x1, hx1⟩ : ∃ x, x = l[j].1 := ⟨_, rfl⟩
      obtain ⟨x2, hx2⟩ : ∃ x, x = l[j].2 := ⟨_, rfl⟩
      rw [← hx1] at c1
      rw [← hx2] at c2 HST
      have HX1 := hidden hx1
      have HX2 := hidden hx2
      clear hA hc hL hx1 hx2 HSS
      have HB1 := hidden (show ∀ d, Grows w ((wr.alloc (.cells #[.int .i64 x1, .int .i64 x2] 125)).drewN d) from fun d => draws_below (HB.out.alloc HB.out.size _) _)
      by_cases h0 : j = 0
      · have d3 : decide ((0 : Int) < (j : Int)) = false := by simp; omega
        have d3' : decide (0 < j) = false := by simp; omega
        have HJ0 := hidden h0
        clear h0
        by_cases h1 : x2 < 1
        · have d1 : decide (x2 < 1) = true := by simpa using h1
          have HF := hidden (lenV_f (validR_f hlt (by
            cases h : okRun l j
            · rfl
            · have := (HOR.out.1 h).1; rw [← HX2.out] at this; omega)))
          clear h1
          go_wp2_with fail
          go_quiet (fail)
          go_wp2
          go_ret2
          exact ⟨by rw [HF.out]; rfl, HB1.out _⟩
        have d1 : decide (x2 < 1) = false := by simpa using h1
        by_cases h2 : 65536 - L < x2
        · have d2 : decide (65536 - L < x2) = true := by simpa using h2
          have HF := hidden (lenV_f (validR_f hlt (by
            cases h : okRun l j
            · rfl
            · have := (HOR.out.1 h).2.1; rw [← HX2.out, ← HL.out] at this; omega)))
          clear h1 h2
          go_wp2_with fail
          go_quiet (fail)
          go_wp2
          go_ret2
          exact ⟨by rw [HF.out]; rfl, HB1.out _⟩
        have d2 : decide (65536 - L < x2) = false := by simpa using h2
        have hx : 1 ≤ x2 ∧ x2 ≤ 65536 - L := by omega
        have HNS := hidden (show 0 ≤ sumC (l.take (j + 1)) ∧ sumC (l.take (j + 1)) ≤ 65536 by have h3 := HST.out; omega)
        have HNO := hidden (show ∀ k, k < j + 1 → okRun l k = true from fun k hk => by
          have hkj : k = j := by have := HJ0.out; omega
          subst hkj
          exact HOR.out.2 ⟨by rw [← HX2.out]; exact hx.1, by rw [← HX2.out, ← HL.out]; exact hx.2, fun h => by have := HJ0.out; omega⟩)
        clear h1 h2
        go_wp2_with fail
        go_quiet (fail)
        go_wp2
        go_roundw
        case rel => exact ⟨j + 1, by omega, by go_num, by rw [HST.out], HNS.out, HNO.out, HB1.out _⟩
        case measure => simp [intOf]; omega
      · have hj1 : j - 1 < l.length := by omega
        have cp := HP.out hj1
        have d3 : decide ((0 : Int) < (j : Int)) = true := by simp; omega
        have d3' : decide (0 < j) = true := by simp; omega
        have b1 : (0 : Int) ≤ (j : Int) - 1 := by omega
        have b2 : (j : Int) - 1 < (l.length : Int) := by omega
        have b3 : ((j : Int) - 1).toNat = j - 1 := by omega
        obtain ⟨y1, hy1⟩ : ∃ y, y = l[j - 1].1 := ⟨_, rfl⟩
        rw [← hy1] at cp
        have HY1 := hidden hy1
        have cp2 := ((runGrow1 (w := wr) (.cells #[.int .i64 x1, .int .i64 x2] 125)).cell (World.block_lt_of_cell? _ _ cp)).trans cp
        clear hy1 cp
        by_cases he : x1 = y1
        · have d4 : (x1 == y1) = true := by simpa using he
          have HF := hidden (lenV_f (validR_f hlt (by
            cases h : okRun l j
            · rfl
            · exact absurd (by rw [← HX1.out, ← HY1.out]; exact he.symm) ((HOR.out.1 h).2.2 (by omega) hj1))))
          clear he h0
          go_wp2_with fail
          go_quiet (fail)
          go_wp2
          go_ret2
          exact ⟨by rw [HF.out]; rfl, HB1.out _⟩
        · have d4 : (x1 == y1) = false := by simpa using he
          by_cases h1 : x2 < 1
          · have d1 : decide (x2 < 1) = true := by simpa using h1
            have HF := hidden (lenV_f (validR_f hlt (by
              cases h : okRun l j
              · rfl
              · have := (HOR.out.1 h).1; rw [← HX2.out] at this; omega)))
            clear h1 he h0
            go_wp2_with fail
            go_quiet (fail)
            clear cp2
            go_wp2
            go_ret2
            exact ⟨by rw [HF.out]; rfl, HB1.out _⟩
          have d1 : decide (x2 < 1) = false := by simpa using h1
          by_cases h2 : 65536 - L < x2
          · have d2 : decide (65536 - L < x2) = true := by simpa using h2
            have HF := hidden (lenV_f (validR_f hlt (by
              cases h : okRun l j
              · rfl
              · have := (HOR.out.1 h).2.1; rw [← HX2.out, ← HL.out] at this; omega)))
            clear h1 h2 he h0
            go_wp2_with fail
            go_quiet (fail)
            clear cp2
            go_wp2
            go_ret2
            exact ⟨by rw [HF.out]; rfl, HB1.out _⟩
          have d2 : decide (65536 - L < x2) = false := by simpa using h2
          have hx : 1 ≤ x2 ∧ x2 ≤ 65536 - L := by omega
          have HNS := hidden (show 0 ≤ sumC (l.take (j + 1)) ∧ sumC (l.take (j + 1)) ≤ 65536 by have h3 := HST.out; omega)
          have HNO := hidden (show ∀ k, k < j + 1 → okRun l k = true from fun k hk => by
            by_cases hkj : k < j
            · exact HOK.out k hkj
            · have hkj : k = j := by omega
              subst hkj
              exact HOR.out.2 ⟨by rw [← HX2.out]; exact hx.1, by rw [← HX2.out, ← HL.out]; exact hx.2, fun _ h2 => by rw [← HX1.out, ← HY1.out]; exact fun e => he e.symm⟩)
          clear h1 h2 he h0
          go_wp2_with fail
          go_quiet (fail)
          clear cp2
          go_wp2
          go_roundw
          case rel => exact ⟨j + 1, by omega, by go_num, by rw [HST.out], HNS.out, HNO.out, HB1.out _⟩
          case measure => simp [intOf]; omega
    · have hke : j = l.length := by omega
      have HT := hidden (lenV_t (validR_t (l := l) (fun k hk => HOK.out k (by omega))))
      have d0 : decide (j < l.length) = false := by simp; omega
      have HS := hidden (show sumC (l.take j) = sumC l by rw [hke, List.take_length])
      clear hke hs
      go_wp2_with fail
      go_ret2
      exact ⟨by rw [HT.out, HS.out]; rfl, HB.out⟩
end Go.Proofs.YthmipnokimlbdaaGreat
/-
  Shaken: what the claims of this seat need of this text. No condition.
-/
namespace Go.Proofs.YthmipnokimlbdaaGreat
set_option maxRecDepth 8000
open Go.RowKit
set_option linter.unusedVariables false
set_option linter.unusedSimpArgs false
def KeepsRow (e : TypeId) (w w' : World) : Prop := ∀ g E ys, E ≠ e → Row w g E ys → Row w' g E ys
theorem wpList_append_ikRm3 {wr : World} {ops : Array Oper} {rest : List Oper} {o : Oper} {a : Act} {Q : Exit → Act → World → Prop} (hgd : o.guard = none) (s x : Operand)
    (ho : o.op = .call { callee := .builtin .append, args := #[s, x], argTypes := #[22, 22] })
    (v : Value) (pre : List Int) (hs : a.eval s = v) (base : Nat) (hown : wr.ownsRow base 2 1 v pre.length (icells pre)) (w0 : World) (hb : Below base w0 wr) (hbase : base ≤ wr.heap.size)
    (z : Int) (hx : a.eval x = .slice (some ⟨wr.heap.size, 0, none⟩) 1 1) (hlen : pre.length + 1 ≤ 17592186044416)
    (h : ∀ v' w', w'.ownsRow base 2 1 v' (pre ++ [z]).length (icells (pre ++ [z])) → Below base w0 w' → KeepsRow 2 wr w' → wpList Tryz.prog ops Q rest (a.put o.dst v') w') :
    wpList Tryz.prog ops Q (o :: rest) a (wr.alloc (.cells #[.int .i64 z] 2)) := by
  obtain ⟨i0, hi, hz0, hz1, hz2⟩ := info_parts info_i64
  refine wpList_append_own _ hgd s x 22 ho base 2 i0 (.int .i64 0) 1 8 Tryz.underlying22 hi hz0 hz1 hz2 rfl (by decide) v pre.length (icells pre) hs (hown.alloc _) ⟨wr.heap.size, 0, none⟩ 1 1 [.int .i64 z] hx rfl ?_ ?_ ?_ ?_ ?_ ?_
  · intro j u hj
    match j, hj with
    | 0, hj => simp at hj; subst hj; simp [Addr.add]
  · intro u hu; simp at hu; subst hu; rfl
  · unfold maxLen; omega
  · omega
  · simp; omega
  · intro v' w' h1 h2 _
    rw [← icells_snoc, show pre.length + 1 = (pre ++ [z]).length by simp] at h1
    exact h v' w' h1 ((hb.alloc hbase _).grown h2 (by simp; omega) (fun k hk => (hown.lt k hk).1))
      (fun g E ys hne hr => row_keeps (hown.alloc _) h2 (hr.grow (runGrow1 _)) hne)
theorem run_make_room (N : Nat) (hN : N ≤ 65536) (W : World) :
    (Instr.makeSlice 22 (.int .i64 0) (.int .i64 (N : Int))).run Tryz.prog W = .ok (.slice (some ⟨W.heap.size, 0, none⟩) 0 N) (W.alloc (.cells (madeCells #[.int .i64 0] N) 2)) := by
  obtain ⟨i0, hi, hz0, hz1, hz2⟩ := info_parts info_i64
  have hbs : (i0.bytes : Int) * (N : Int) ≤ 281474976710656 := by rw [hz2]; omega
  have h := run_make (P := Tryz.prog) W 22 2 i0 (.int .i64 0) Tryz.underlying22 hi hz0 .i64 .i64 0 (N : Int) (by omega) (by omega) hbs (by omega)
  rw [hz1] at h
  simpa [Value.cells] using h
theorem own_room (w : World) (N : Nat) (hN : N ≤ 65536) : (w.alloc (.cells (madeCells #[Value.int .i64 0] N) 2)).ownsRow w.heap.size 2 1 (.slice (some ⟨w.heap.size, 0, none⟩) 0 N) 0 [] := by
  refine ⟨by simp, .inr ⟨w.heap.size, N, madeCells #[Value.int .i64 0] N, rfl, Nat.le_refl _, by show (w.heap.push _)[w.heap.size]? = _; simp, Nat.zero_le _, by unfold maxLen; omega, ?_, by simp⟩⟩
  have h : (madeCells #[Value.int .i64 0] N).toList.length = N := by rw [toList_madeCells_one]; simp
  rw [Array.length_toList] at h
  omega
def LExRel (w : World) (l : List Rn) (out i : Value) (wr : World) : Prop :=
  ∃ j : Nat, j ≤ l.length ∧ i = .int .i64 (j : Int) ∧ wr.ownsRow w.heap.size 2 1 out (expR (l.take j)).length (icells (expR (l.take j))) ∧ Below w.heap.size w wr
def LExIn (w : World) (g : Nat) (pre : List Int) (x : Int) (n : Nat) (out k : Value) (wr : World) : Prop :=
  ∃ j : Nat, j ≤ n ∧ k = .int .i64 (j : Int) ∧ Row wr g 125 [.int .i64 x, .int .i64 (n : Int)] ∧ wr.ownsRow w.heap.size 2 1 out (pre ++ List.replicate j x).length (icells (pre ++ List.replicate j x)) ∧ Below w.heap.size w wr
def ExF (l : List Int) (x : Int) (w : World) (e : Ending) (w' : World) : Prop := ∃ v, e = .returned (.tuple #[v, .int .i64 x]) ∧ Grows w w' ∧ IsI w' v l ∧ FreshI w.heap.size w' v
set_option maxHeartbeats 2000000 in
theorem lexpandF_any (v : Value) (l : List Rn) (w : World) (hv : ReadsR w v l) (hl : l.length ≤ 9223372036854775806) :
    Calls Tryz.prog 146 #[v] w (ExF (expI l) (expE l) w) := by
  have HV := hidden hv
  have HVA := hidden (llength_any v l w hv hl)
  obtain ⟨A, c, rfl⟩ := hv.slice_
  clear hv
  cases hval : validR l
  · have HE := hidden (show expI l = [] by unfold expI; rw [hval]; rfl)
    have HE2 := hidden (show expE l = 4 by unfold expE; rw [hval]; rfl)
    rw [lenV_f hval] at HVA
    clear hval
    go_enter Tryz.func146, Tryz.ntmps146
    go_wp2_with ((go_at_call 199; refine HVA.out.mono ?_; rintro e w2 ⟨rfl, g2⟩; have HG2 := hidden g2; clear g2))
    go_ret2
    exact ⟨_, by rw [HE2.out]; rfl, HG2.out, by rw [HE.out]; exact Reads.nil_ _ 0, FreshI.none_ _ _ _ _⟩
  · have HE := hidden (show expI l = expR l by unfold expI; rw [hval]; rfl)
    have HE2 := hidden (show expE l = 0 by unfold expE; rw [hval]; rfl)
    have HVL := hidden hval
    have hsum := valid_sum hval l.length (Nat.le_refl _)
    rw [List.take_length] at hsum
    obtain ⟨N, hN⟩ := Int.eq_ofNat_of_zero_le hsum.1
    have hN6 : N ≤ 65536 := by omega
    rw [lenV_t hval, hN] at HVA
    have hmk := fun W => run_make_room N hN6 W
    have HN6 := hidden hN6
    clear hval hsum hN hN6
    go_enter Tryz.func146, Tryz.ntmps146
    go_wp2_with ((go_at_call 199; refine HVA.out.mono ?_; rintro e w2 ⟨rfl, g2⟩; have HG2 := hidden g2; clear g2))
    clear hmk
    go_loopw [6, 20] (fun out i wr => LExRel w l out i wr) (fun _ i _ => l.length - (intOf i).toNat)
    case atStart =>
      refine ⟨0, by omega, rfl, ?_, HG2.out.alloc HG2.out.size _⟩
      exact ownsRow_base (own_room w2 N HN6.out) HG2.out.size
    case round =>
      obtain ⟨j, hj, rfl, hown, hb⟩ := hrel
      have HB := hidden hb
      have HOW := hidden hown
      clear hown hb
      by_cases hlt : j < l.length
      · have HTK := hidden (expR_take hlt)
        have hcn := valid_count HVL.out hlt
        have hpre := valid_pre HVL.out (j := j + 1) (by omega)
        rw [HTK.out, List.length_append, List.length_replicate] at hpre
        obtain ⟨b, off, hA, hc⟩ := (HV.out.grow HB.out).at_
        obtain rfl := hA (by omega)
        obtain ⟨c1, c2⟩ := hc j hlt
        obtain ⟨x, hx⟩ : ∃ x, x = l[j].1 := ⟨_, rfl⟩
        obtain ⟨n, hn⟩ : ∃ n : Nat, (n : Int) = l[j].2 := ⟨l[j].2.toNat, by omega⟩
        rw [← hn] at c2 hcn HTK
        rw [← hn] at hpre
        rw [← hx] at c1 HTK
        rw [Int.toNat_natCast] at hpre HTK
        clear hx hn hA hc
        have HBA := hidden (show Below w.heap.size w (wr.alloc (.cells #[.int .i64 x, .int .i64 (n : Int)] 125)) from HB.out.alloc HB.out.size _)
        have HOA := hidden (show (wr.alloc (.cells #[.int .i64 x, .int .i64 (n : Int)] 125)).ownsRow w.heap.size 2 1 u6 (expR (l.take j)).length (icells (expR (l.take j))) from HOW.out.alloc _)
        have HRA := hidden (runRow wr (.int .i64 x) (.int .i64 (n : Int)))
        go_wp2_with fail
        go_loopw [6, 26] (fun out k wr2 => LExIn w wr.heap.size (expR (l.take j)) x n out k wr2) (fun _ k _ => n - (intOf k).toNat)
        case atStart => exact ⟨0, by omega, rfl, HRA.out, by simpa using HOA.out, HBA.out⟩
        case round =>
          obtain ⟨k, hk, rfl, hrow, hown2, hb2⟩ := hrel
          have HB2 := hidden hb2
          have HOW2 := hidden hown2
          have HR2 := hidden hrow
          obtain ⟨k1, k2⟩ := runCells hrow
          clear hown2 hb2 hrow c1 c2
          by_cases hkn : k < n
          · have HRS := hidden (rep_snoc k x (expR (l.take j)))
            have hlen : (expR (l.take j) ++ List.replicate k x).length + 1 ≤ 17592186044416 := by rw [List.length_append, List.length_replicate]; omega
            have HLN := hidden hlen
            have hsz := HB2.out.size
            clear hlen
            go_wp2_with ((at_builtin; go_loud (refine wpList_append_ikRm3 rfl _ _ rfl _ (expR (l.take j) ++ List.replicate k x) (by rfl) w.heap.size HOW2.out _ HB2.out hsz _ (by rfl) HLN.out ?_); intro v' w3 hown3 hb3 hk3; have HO3 := hidden hown3; have HB3 := hidden hb3; have HR3 := hidden (hk3 _ _ _ (by decide) HR2.out); clear hown3 hb3 hk3 k1 k2))
            refine ⟨⟨k + 1, by omega, by go_num, HR3.out, ?_, HB3.out⟩, by simp [intOf]; omega⟩
            rw [HRS.out]
            exact HO3.out
          · have hke : k = n := by omega
            subst hke
            go_wp2_with fail
            refine ⟨⟨j + 1, by omega, by go_num, ?_, HB2.out⟩, by simp [intOf]; omega⟩
            rw [HTK.out]
            exact HOW2.out
      · have hke : j = l.length := by omega
        subst hke
        have HT := hidden (List.take_length (l := l))
        go_wp2_with fail
        go_ret2
        refine ⟨_, by rw [HE2.out]; rfl, HB.out, ?_, FreshI.of_own HOW.out⟩
        rw [HE.out]
        have h := HOW.out
        rw [HT.out] at h
        exact Reads.of_own h
theorem lexpand_any (v : Value) (l : List Rn) (w : World) (hv : ReadsR w v l) (hl : l.length ≤ 9223372036854775806) :
    Calls Tryz.prog 146 #[v] w (ExR (expI l) (expE l) w) :=
  (lexpandF_any v l w hv hl).mono fun _ _ ⟨v, h1, h2, h3, _⟩ => ⟨v, h1, h2, h3⟩
end Go.Proofs.YthmipnokimlbdaaGreat
/-
  Shaken: what the claims of this seat need of this text. No condition.
-/
namespace Go.Proofs.YthmipnokimlbdaaGreat
set_option maxRecDepth 20000
open Go.RowKit
set_option linter.unusedVariables false
set_option linter.unusedSimpArgs false
def canT (f : Nat → Nat) (k : Nat) : List Value := (List.range 65).map fun j => .int .i64 (((if j < k then f j else 0) : Nat) : Int)
theorem canT_length (f : Nat → Nat) (k : Nat) : (canT f k).length = 65 := by simp [canT]
theorem canT_at (f : Nat → Nat) (k : Nat) {j : Nat} (h : j < 65) : (canT f k)[j]? = some (.int .i64 (((if j < k then f j else 0) : Nat) : Int)) := by simp [canT, h]
theorem canT_set (f : Nat → Nat) {k : Nat} (h : k < 65) : (canT f k).set k (.int .i64 (f k : Int)) = canT f (k + 1) := by
  apply List.ext_getElem?
  intro j
  rw [List.getElem?_set, canT_length]
  by_cases hj : j < 65
  · rw [canT_at _ _ hj, canT_at _ _ hj]
    by_cases he : k = j
    · subst he
      rw [if_pos rfl, if_pos h, if_pos (by omega)]
    · rw [if_neg he]
      by_cases h2 : j < k
      · rw [if_pos h2, if_pos (by omega)]
      · rw [if_neg h2, if_neg (by omega)]
  · rw [if_neg (by omega), List.getElem?_eq_none (by rw [canT_length]; omega), List.getElem?_eq_none (by rw [canT_length]; omega)]
theorem canT_zero (f : Nat → Nat) : Array.replicate 65 (Value.int .i64 0) = (canT f 0).toArray := by
  apply Array.toList_inj.1
  rw [Array.toList_replicate]
  apply List.ext_getElem?
  intro j
  rw [List.getElem?_replicate]
  by_cases h : j < 65
  · rw [if_pos h, canT_at _ _ h, if_neg (by omega)]
    rfl
  · rw [if_neg h]
    exact (List.getElem?_eq_none (by rw [canT_length]; omega)).symm
theorem zeroI65 : (Tryz.prog.info? 212).map (fun i => (i.zero, i.size)) = some (some (.agg (Array.replicate 65 (.int .i64 0))), 65) := by kernel_rfl
theorem sizeCh : (Tryz.prog.info? 169).map (·.size) = some 3 := by kernel_rfl
theorem lbestTo_lt {f : Nat → Nat} {k : Nat} (h : f k < f (bestTo f (k - 1))) : bestTo f k = k := by
  cases k with
  | zero => rfl
  | succ j =>
    rw [Nat.add_sub_cancel] at h
    rw [bestTo, if_pos h]
theorem lbestTo_ge {f : Nat → Nat} {k : Nat} (h : ¬ f k < f (bestTo f (k - 1))) : bestTo f k = bestTo f (k - 1) := by
  cases k with
  | zero => rfl
  | succ j =>
    rw [Nat.add_sub_cancel] at h ⊢
    rw [bestTo, if_neg h]
theorem Row.drewN_ {w : World} {g : Nat} {e : TypeId} {xs : List Value} (h : Row w g e xs) (n : Nat) : Row (w.drewN n) g e xs := h
theorem below_drewN {B : Nat} {a w : World} (h : Below B a w) (n : Nat) : Below B a (w.drewN n) := ⟨h.os, h.tape, h.output, h.size, h.block⟩
def ChRel (w : World) (g4 g5 : Nat) (b0 : Int) (T : List Value) (f : Nat → Nat) (i : Value) (wr : World) : Prop :=
  ∃ k : Nat, k ≤ 65 ∧ i = .int .i64 (k : Int) ∧ Row wr g5 212 (canT f k) ∧ Row wr (w.heap.size + 1) 169 [.int .i64 b0, .int .i64 ((bestTo f (k - 1) : Nat) : Int), .int .i64 0] ∧
    Row wr g4 210 T ∧ Row wr w.heap.size 169 [.int .i64 0, .int .i64 0, .int .i64 0] ∧ Below w.heap.size w wr
theorem slice_tab (g k : Nat) (hk : k ≤ 64) : ∃ AK, (k < 64 → AK = some ⟨g, (k + 1) * 2, none⟩) ∧
    ∀ w, (Instr.sliceAt 210 (.pointer (some ⟨g, 0, none⟩)) (some (.int .i64 ((k : Int) + 1))) none none).run Tryz.prog w = .ok (.slice AK (64 - k) (64 - k)) w := by
  have hl : Tryz.prog.arrayLen 210 = 65 := by kernel_rfl
  have ht : Tryz.prog.underlying 210 = some (.array (Tryz.prog.arrayLen 210) (Tryz.prog.elem 210)) := by kernel_rfl
  have hs : ∀ w, (sizeOf (Tryz.prog.elem 210)).run Tryz.prog w = .ok 2 w := by
    intro w
    have hi : (Tryz.prog.info? (Tryz.prog.elem 210)).map (·.size) = some 2 := by kernel_rfl
    cases h : Tryz.prog.info? (Tryz.prog.elem 210) with
    | none => rw [h] at hi; cases hi
    | some y =>
      rw [h] at hi
      have h1 : y.size = 2 := by simpa using hi
      simp [sizeOf, typeInfo, h, h1]
  refine ⟨some (if 65 = k + 1 then ⟨g, 0, none⟩ else ⟨g, (k + 1) * 2, none⟩), fun h => by rw [if_neg (by omega)], fun w => ?_⟩
  have h := run_sliceAt_array_l (P := Tryz.prog) w 210 ⟨g, 0, none⟩ ht .i64 ((k : Int) + 1) (by omega) (by rw [hl]; omega)
  rw [h, hs]
  simp only [Result.andThen_ok, slicedAt, hl, show ((k : Int) + 1).toNat = k + 1 by omega, show 65 - (k + 1) = 64 - k by omega, Addr.add_lit, Nat.zero_add]
set_option maxRecDepth 20000 in
set_option maxHeartbeats 8000000 in
theorem choose_any (v : Value) (l : List Int) (w : World) (hv : IsI w v l) (hl : l.length ≤ 65536) (hin : ∀ x ∈ l, frIn x) :
    Calls Tryz.prog 151 #[v] w fun e w' => e = .returned (.agg #[.int .i64 (baseV l), .int .i64 ((bestW l : Nat) : Int), .int .i64 ((sizeV l : Nat) : Int)]) ∧ Grows w w' := by
  obtain ⟨hz, hi⟩ := zero_of_info (P := Tryz.prog) zero65
  obtain ⟨hz2, hi2⟩ := zero_of_info (P := Tryz.prog) zeroI65
  have HV := hidden hv
  have HLE := hidden (fun w' hv' => least_any v l w' hv' (by omega))
  have HTA := hidden (fun b w' hv' => tally_any v l b w' hv' hl)
  obtain ⟨A, c, rfl⟩ := hv.slice_
  have HB0 := hidden (baseV_in hin)
  have HDL := hidden (difL_length l)
  have HDU := hidden (difL_U64 l)
  have HDE := hidden (show difL l = l.map (difN (baseV l)) from rfl)
  have HSZ : Hid (∀ k, k ≤ 64 → sizeW l k = esz (zz (baseV l)).toNat + esz k + excSz (fun j => cntW (difL l) (k + 1 + j)) (fun j => idxW 0 (difL l) (k + 1 + j)) (64 - k) + szB l.length k) := fun k hk => by
    have h := encD_length HB0.out HDU.out (by rw [HDL.out]; omega) hk
    rw [HDL.out] at h
    exact h
  have HFI := hidden (show bestTo (sizeW l) 64 = bestW l from rfl)
  have HFS := hidden (show sizeW l (bestW l) = sizeV l from rfl)
  have HBL := hidden (bestTo_le (sizeW l))
  have HSL : Hid (∀ k, k ≤ 64 → sizeW l k ≤ 2000000) := fun k hk => by
    have h := encD_len (baseV l) (difL l) hk
    rw [HDL.out] at h
    show (encD (baseV l) (difL l) k).length ≤ _
    omega
  clear hv
  go_enter Tryz.func151, Tryz.ntmps151
  go_wp2_with fail
  have hb1 := hidden ((Below.refl w.heap.size w).alloc (Nat.le_refl _) (.cells #[.int .i64 0, .int .i64 0, .int .i64 0] 169))
  have hr0 := hidden (Row.new w 169 #[.int .i64 0, .int .i64 0, .int .i64 0] [.int .i64 0, .int .i64 0, .int .i64 0] rfl)
  have hs1 := hidden (World.size_alloc w (.cells #[.int .i64 0, .int .i64 0, .int .i64 0] 169))
  generalize w.alloc (.cells #[.int .i64 0, .int .i64 0, .int .i64 0] 169) = w1 at *
  refine (HLE.out w1 (HV.out.grow hb1.out)).mono ?_
  rintro e w' ⟨rfl, rfl⟩
  generalize hbz : baseV l = b0 at *
  have HBE := hidden hbz
  clear hbz
  have hr1 := hidden (Row.new w1 169 #[.int .i64 b0, .int .i64 0, .int .i64 0] [.int .i64 b0, .int .i64 0, .int .i64 0] rfl)
  rw [hs1.out] at hr1
  have hb2 := hidden (hb1.out.alloc hb1.out.size (.cells #[.int .i64 b0, .int .i64 0, .int .i64 0] 169))
  have hq0 := hidden (Row.grow hr0.out (w' := w1.alloc (.cells #[.int .i64 b0, .int .i64 0, .int .i64 0] 169)) ((Below.refl _ _).alloc (Nat.le_refl _) _))
  have cc := hr1.out.cell 0
  simp only [List.getElem?_cons_zero] at cc
  have hs1o := hs1.out
  go_wp2_with fail
  generalize w1.alloc (.cells #[.int .i64 b0, .int .i64 0, .int .i64 0] 169) = w2 at *
  have htl := tabT_length (cntW (difL l)) (idxW 0 (difL l))
  refine (HTA.out b0 w2 (HV.out.grow hb2.out)).mono ?_
  rintro e w3 ⟨rfl, hg3⟩
  rw [← HDE.out]
  have HTS := hidden (tabT_oneCell (cntW (difL l)) (idxW 0 (difL l)))
  have HTG0 : Hid (∀ j, j < 65 → (tabT (cntW (difL l)) (idxW 0 (difL l)))[j * 2]? = some (.int .i64 (cntW (difL l) j : Int))) := fun j hj => tabT_0 _ _ hj
  have HTG1 : Hid (∀ j, j < 65 → (tabT (cntW (difL l)) (idxW 0 (difL l)))[j * 2 + 1]? = some (.int .i64 (idxW 0 (difL l) j : Int))) := fun j hj => tabT_1 _ _ hj
  generalize tabT (cntW (difL l)) (idxW 0 (difL l)) = T at *
  have hTL : T.toArray.size = 130 := by rw [List.size_toArray, htl]
  have hb3 := hidden (Grows.of_below hb2.out hg3)
  have hr3 := hidden (Row.grow hr1.out hg3)
  have hq3 := hidden (Row.grow hq0.out hg3)
  obtain ⟨g4, hg4⟩ : ∃ g4, w3.heap.size = g4 := ⟨_, rfl⟩
  have hg4b : w.heap.size + 2 ≤ g4 := by
    have h1 := hr3.out.lt
    rw [hg4] at h1
    omega
  have h4 := hidden (Row.at_ w3 210 (Array.replicate 130 (.int .i64 0)) (List.replicate 130 (.int .i64 0)) (by rw [List.toArray_replicate]) g4 hg4.symm)
  have hb4 := hidden (hb3.out.alloc hb3.out.size (.cells (Array.replicate 130 (.int .i64 0)) 210))
  have hr4 := hidden (Row.grow hr3.out (w' := w3.alloc (.cells (Array.replicate 130 (.int .i64 0)) 210)) ((Below.refl _ _).alloc (Nat.le_refl _) _))
  have hq4 := hidden (Row.grow hq3.out (w' := w3.alloc (.cells (Array.replicate 130 (.int .i64 0)) 210)) ((Below.refl _ _).alloc (Nat.le_refl _) _))
  have hs4 := World.size_alloc w3 (.cells (Array.replicate 130 (.int .i64 0)) 210)
  rw [hg4] at hs4
  have hH4 : (w3.alloc (.cells (Array.replicate 130 (.int .i64 0)) 210)).heap[g4]? = some (.cells (List.replicate 130 (Value.int .i64 0)).toArray 210 (0, 0)) := h4.out
  have HI := hidden (show (Tryz.prog.info? 210).map (·.size) = some T.toArray.size by rw [hi, hTL])
  have hsz1 : (List.replicate 130 (Value.int .i64 0)).toArray.size = T.toArray.size := by rw [hTL, List.size_toArray, List.length_replicate]
  have HH4 := hidden hH4
  have HS1 := hidden hsz1
  have h5 := hidden (Row.setRow_ h4.out T hsz1)
  have hb5 := hidden (below_setRow hb4.out (show w.heap.size ≤ g4 by omega) T.toArray)
  have hr5 : Hid (Row ((w3.alloc (.cells (Array.replicate 130 (.int .i64 0)) 210)).setRow g4 T.toArray) (w.heap.size + 1) 169 [.int .i64 b0, .int .i64 0, .int .i64 0]) := by
    have h := hr4.out
    unfold Row at h ⊢
    rw [setRow_other _ _ _ _ (by omega)]
    exact h
  have hq5 : Hid (Row ((w3.alloc (.cells (Array.replicate 130 (.int .i64 0)) 210)).setRow g4 T.toArray) w.heap.size 169 [.int .i64 0, .int .i64 0, .int .i64 0]) := by
    have h := hq4.out
    unfold Row at h ⊢
    rw [setRow_other _ _ _ _ (by omega)]
    exact h
  have hs5 : ((w3.alloc (.cells (Array.replicate 130 (.int .i64 0)) 210)).setRow g4 T.toArray).heap.size = g4 + 1 := by
    simp only [World.setRow, Array.size_modify]
    exact hs4
  have HG4 := hidden hg4
  clear cc hr0 hr1 hq0 hs1 hs1o hb1 hb2 hg3 hsz1 hH4 hs4 htl
  go_wp2_with (refine wpList_store_row rfl _ _ _ rfl _ _ rfl rfl _ _ HH4.out HI.out HS1.out HTS.out ?_)
  have hz5 := hidden (Row.at_ ((w3.alloc (.cells (Array.replicate 130 (.int .i64 0)) 210)).setRow g4 T.toArray) 212 (Array.replicate 65 (.int .i64 0)) (canT (sizeW l) 0) (canT_zero _) (g4 + 1) hs5.symm)
  have hgr : Grows ((w3.alloc (.cells (Array.replicate 130 (.int .i64 0)) 210)).setRow g4 T.toArray) (((w3.alloc (.cells (Array.replicate 130 (.int .i64 0)) 210)).setRow g4 T.toArray).alloc (.cells (Array.replicate 65 (.int .i64 0)) 212)) := (Below.refl _ _).alloc (Nat.le_refl _) _
  have h6 := hidden (Row.grow h5.out hgr)
  have hr6 := hidden (Row.grow hr5.out hgr)
  have hq6 := hidden (Row.grow hq5.out hgr)
  have hb6 := hidden (Grows.of_below hb5.out hgr)
  generalize ((w3.alloc (.cells (Array.replicate 130 (.int .i64 0)) 210)).setRow g4 T.toArray).alloc (.cells (Array.replicate 65 (.int .i64 0)) 212) = w6 at *
  clear hz hi hz2 hi2 hgr h4 h5 hb3 hb4 hb5 hr3 hr4 hr5 hq3 hq4 hq5 hs5 HH4 HI HS1 HG4
  go_loopw [14] (fun i wr => ChRel w g4 (g4 + 1) b0 T (sizeW l) i wr) (fun i _ => 65 - (intOf i).toNat)
  case atStart => exact ⟨0, by omega, rfl, hz5.out, hr6.out, h6.out, hq6.out, hb6.out⟩
  case round =>
    obtain ⟨k, hk, rfl, rc, rb, rt, r0, hbw⟩ := hrel
    have RC := hidden rc
    have RB := hidden rb
    have RT := hidden rt
    have R0 := hidden r0
    have HB := hidden hbw
    clear rc rb rt r0 hbw hz5 h6 hr6 hq6 hb6
    by_cases hlt : k < 65
    · have hzb := zz_bd b0 HB0.out.1 (by have := HB0.out.2; omega)
      obtain ⟨Z, hZ⟩ := Int.eq_ofNat_of_zero_le hzb.1
      have HZG := hidden (fun w' => zigzag_any b0 w' HB0.out.1 (by have := HB0.out.2; omega))
      have HSK := hidden (HSZ.out k (by omega))
      rw [hZ] at HZG hzb HSK
      rw [Int.toNat_natCast] at HSK
      have HVZ := hidden (fun w' => varintSize_any Z w' (by omega))
      have HVK := hidden (fun w' => varintSize_any k w' (by omega))
      have hz10 := (esz_bd (n := Z) (by omega)).2
      have hk10 := (esz_bd (n := k) (by omega)).2
      have HBS := hidden (fun w' => size_any (l.length : Int) (k : Int) w')
      rw [sizeI_nat (n := l.length) (m := k) (by omega) (by omega)] at HBS
      have hms := many_sum (w := k) (by omega) (difL l) HDU.out
      have hxs := exc_sum (w := k) (by omega) (difL l) 0 HDU.out (by rw [HDL.out]; omega)
      have hml := many_le k (difL l)
      have hxl := exc_len k (difL l) 0
      rw [HDL.out] at hml hxl
      have HES := hidden (fun v' w' hv' => excSize_any v' (64 - k) (fun j => cntW (difL l) (k + 1 + j)) (fun j => idxW 0 (difL l) (k + 1 + j)) w' hv' (by omega) (by rw [hms]; omega) (by rw [hxs]; omega))
      have hsl := HSL.out k (by omega)
      rw [HSK.out] at hsl
      have HRT : Hid (∀ (w' : World) (A' : Option Addr) (c' : Nat), Grows wr w' → (k < 64 → A' = some ⟨g4, (k + 1) * 2, none⟩) → ReadsT w' (.slice A' (64 - k) c') (64 - k) (fun j => cntW (difL l) (k + 1 + j)) (fun j => idxW 0 (difL l) (k + 1 + j))) := fun w' A' c' hg hA => by
        refine ⟨A', c', rfl, fun hn => ⟨g4, (k + 1) * 2, hA (by omega), fun j hj => ?_⟩⟩
        have hr := Row.grow RT.out hg
        have e1 : (k + 1) * 2 + j * 2 = (k + 1 + j) * 2 := by omega
        have e2 : (k + 1) * 2 + j * 2 + 1 = (k + 1 + j) * 2 + 1 := by omega
        exact ⟨by rw [hr.cell, e1, HTG0.out (k + 1 + j) (by omega)], by rw [hr.cell, e2, HTG1.out (k + 1 + j) (by omega)]⟩
      generalize excSz (fun j => cntW (difL l) (k + 1 + j)) (fun j => idxW 0 (difL l) (k + 1 + j)) (64 - k) = ez at *
      generalize szB l.length k = sz at *
      generalize hez : esz Z = ea at *
      generalize hek : esz k = eb at *
      have HX : Hid (∀ w', Grows wr w' → w'.cell? ⟨w.heap.size + 1, 0, none⟩ = some (.int .i64 b0)) := fun w' hg => (Row.grow RB.out hg).cell 0
      have hwk : IntKind.u64.wrap (k : Int) = (k : Int) := by rw [IntKind.wrap_u64]; omega
      have wa : IntKind.i64.wrap ((k : Int) + 1) = (k : Int) + 1 := by rw [IntKind.wrap_i64]; omega
      have wb : IntKind.i64.wrap ((ea : Int) + (eb : Int)) = (ea : Int) + (eb : Int) := by rw [IntKind.wrap_i64]; omega
      have wc : IntKind.i64.wrap ((ea : Int) + (eb : Int) + (ez : Int)) = (ea : Int) + (eb : Int) + (ez : Int) := by rw [IntKind.wrap_i64]; omega
      have wd : IntKind.i64.wrap ((ea : Int) + (eb : Int) + (ez : Int) + (sz : Int)) = (ea : Int) + (eb : Int) + (ez : Int) + (sz : Int) := by rw [IntKind.wrap_i64]; omega
      obtain ⟨AK, hAK, hsa⟩ := slice_tab g4 k (by omega)
      have HAK := hidden hAK
      clear hms hxs hml hxl hZ hez hek hAK
      go_wp2_with fail
      refine wp_region_loose_tail 19 (tabRs [(3, ConstV (.int .u64 (Z : Int))), (4, ConstV (.int .i64 (ea : Int))), (7, ConstV (.int .i64 (eb : Int))), (12, ConstV (.int .i64 (ez : Int))), (17, ConstV (.int .i64 (sz : Int)))]) (by kernel_rfl) (by kernel_rfl) (tabRs_cons ConstV.lasts (tabRs_cons ConstV.lasts (tabRs_cons ConstV.lasts (tabRs_cons ConstV.lasts (tabRs_cons ConstV.lasts tabRs_nil))))) ?_
      simp only [List.take_succ_cons, List.take_zero, List.drop_succ_cons, List.drop_zero]
      iterate 3 ((with_reducible refine loose_one (v := ?_) (a' := ?_) ?_ ?_ (fun w' hC' hG' => ?_) ?_ ?_); rotate_left 2; (focus rfl); (focus rfl); (focus (have cc := HX.out w' hC'; clear hC' hG'; go_simp; rfl)); (focus (go_simp; rfl)))
      refine loose_call (R := ConstV (.int .u64 (Z : Int))) (f := 150) (args := #[.int .i64 b0]) (by rfl) (by rfl) (fun _ => by go_simp) (fun w' hC' hG' => const_loose0 (HZG.out w')) ?_
      rintro _ ⟨_, _, rfl⟩
      refine ⟨?_, ?_, ?_⟩
      rotate_left
      · go_simp
        rfl
      refine loose_call (R := ConstV (.int .i64 (ea : Int))) (f := 203) (args := #[.int .u64 (Z : Int)]) (by rfl) (by rfl) (fun _ => by go_simp) (fun w' hC' hG' => const_loose0 (HVZ.out w')) ?_
      rintro _ ⟨_, _, rfl⟩
      refine ⟨?_, ?_, ?_⟩
      rotate_left
      · go_simp
        rfl
      iterate 2 ((with_reducible refine loose_one (v := ?_) (a' := ?_) ?_ ?_ (fun w' hC' hG' => ?_) ?_ ?_); rotate_left 2; (focus rfl); (focus rfl); (focus (have cc := HX.out w' hC'; clear hC' hG'; go_simp; rfl)); (focus (go_simp; rfl)))
      refine loose_call (R := ConstV (.int .i64 (eb : Int))) (f := 203) (args := #[.int .u64 (k : Int)]) (by rfl) (by rfl) (fun _ => by go_simp) (fun w' hC' hG' => const_loose0 (HVK.out w')) ?_
      rintro _ ⟨_, _, rfl⟩
      refine ⟨?_, ?_, ?_⟩
      rotate_left
      · go_simp
        rfl
      iterate 4 ((with_reducible refine loose_one (v := ?_) (a' := ?_) ?_ ?_ (fun w' hC' hG' => ?_) ?_ ?_); rotate_left 2; (focus rfl); (focus rfl); (focus (have cc := HX.out w' hC'; clear hC' hG'; go_simp; rfl)); (focus (go_simp; rfl)))
      refine loose_call (R := ConstV (.int .i64 (ez : Int))) (f := 204) (args := #[.slice AK (64 - k) (64 - k)]) (by rfl) (by rfl) (fun _ => by go_simp) (fun w' hC' hG' => const_loose (HES.out _ w' (HRT.out w' _ _ hC' HAK.out))) ?_
      rintro _ ⟨_, _, rfl⟩
      refine ⟨?_, ?_, ?_⟩
      rotate_left
      · go_simp
        rfl
      iterate 4 ((with_reducible refine loose_one (v := ?_) (a' := ?_) ?_ ?_ (fun w' hC' hG' => ?_) ?_ ?_); rotate_left 2; (focus rfl); (focus rfl); (focus (have cc := HX.out w' hC'; clear hC' hG'; go_simp; rfl)); (focus (go_simp; rfl)))
      refine loose_call (R := ConstV (.int .i64 (sz : Int))) (f := 139) (args := #[.int .i64 (l.length : Int), .int .i64 (k : Int)]) (by rfl) (by rfl) (fun _ => by go_simp) (fun w' hC' hG' => const_loose0 (HBS.out w')) ?_
      rintro _ ⟨_, _, rfl⟩
      refine ⟨?_, ?_, ?_⟩
      rotate_left
      · go_simp
        rfl
      iterate 1 ((with_reducible refine loose_one (v := ?_) (a' := ?_) ?_ ?_ (fun w' hC' hG' => ?_) ?_ ?_); rotate_left 2; (focus rfl); (focus rfl); (focus (have cc := HX.out w' hC'; clear hC' hG'; go_simp; rfl)); (focus (go_simp; rfl)))
      refine loose_done (fun w7 hC' hG' => ?_)
      clear hG'
      have rc7 := Row.grow RC.out hC'
      have fr7 := rc7.frozen k
      have cc7 := rc7.cell k
      rw [canT_at _ _ hlt, if_neg (by omega)] at cc7
      have e3 : (ea : Int) + (eb : Int) + (ez : Int) + (sz : Int) = ((sizeW l k : Nat) : Int) := by rw [HSK.out]; omega
      obtain ⟨F, hF⟩ : ∃ F, F = sizeW l k := ⟨_, rfl⟩
      have rc8 := rc7.set_ k (.int .i64 ((sizeW l k : Nat) : Int))
      rw [canT_set _ hlt, ← e3] at rc8
      have hg1 := RB.out.lt
      have rb8 := (Row.grow RB.out hC').other (a := ⟨g4 + 1, k, none⟩) (by show g4 + 1 ≠ w.heap.size + 1; omega) (.int .i64 ((ea : Int) + (eb : Int) + (ez : Int) + (sz : Int)))
      have rt8 := (Row.grow RT.out hC').other (a := ⟨g4 + 1, k, none⟩) (by show g4 + 1 ≠ g4; omega) (.int .i64 ((ea : Int) + (eb : Int) + (ez : Int) + (sz : Int)))
      have r08 := (Row.grow R0.out hC').other (a := ⟨g4 + 1, k, none⟩) (by show g4 + 1 ≠ w.heap.size; omega) (.int .i64 ((ea : Int) + (eb : Int) + (ez : Int) + (sz : Int)))
      have b8 := (Grows.of_below HB.out hC').setCell (p := ⟨g4 + 1, k, none⟩) (by show w.heap.size ≤ g4 + 1; omega) (.int .i64 ((ea : Int) + (eb : Int) + (ez : Int) + (sz : Int)))
      have RC8 := hidden rc8
      have RB8 := hidden rb8
      have RT8 := hidden rt8
      have R08 := hidden r08
      have B8 := hidden b8
      have HF := hidden hF
      have E3 := hidden e3
      clear rc7 rc8 rb8 rt8 r08 b8 hC' hF e3 hsa
      go_wp2_with fail
      generalize w7.setCell ⟨g4 + 1, k, none⟩ (.int .i64 ((ea : Int) + (eb : Int) + (ez : Int) + (sz : Int))) = w8 at *
      clear fr7 cc7 wa wb wc wd hwk hz10 hk10
      have hBk : bestTo (sizeW l) (k - 1) ≤ k := by have := HBL.out (k - 1); omega
      have c0 := RC8.out.cell k
      have c1 := RC8.out.cell (bestTo (sizeW l) (k - 1))
      rw [canT_at _ _ hlt, if_pos (by omega), ← HF.out] at c0
      rw [canT_at _ _ (by omega), if_pos (by omega)] at c1
      have c2 := RB8.out.cell 1
      simp only [List.getElem?_cons_succ, List.getElem?_cons_zero] at c2
      have f2 := RB8.out.frozen 1
      have HBQ := hidden (show ∀ x, Row (w8.setCell ⟨w.heap.size + 1, 1, none⟩ (.int .i64 x)) (w.heap.size + 1) 169 [.int .i64 b0, .int .i64 x, .int .i64 0] from fun x => RB8.out.set_ 1 (.int .i64 x))
      have HLT := hidden (fun h => lbestTo_lt (f := sizeW l) (k := k) h)
      have HGE := hidden (fun h => lbestTo_ge (f := sizeW l) (k := k) h)
      have hF2 : F ≤ 2000000 := by rw [HF.out]; exact HSL.out k (by omega)
      have hFB : sizeW l (bestTo (sizeW l) (k - 1)) ≤ 2000000 := HSL.out _ (by omega)
      rw [← HF.out] at HLT HGE
      obtain ⟨bw, hbw⟩ : ∃ bw, bw = bestTo (sizeW l) (k - 1) := ⟨_, rfl⟩
      rw [← hbw] at hBk c1 HLT HGE hFB RB8
      obtain ⟨FB, hFBe⟩ : ∃ FB, FB = sizeW l bw := ⟨_, rfl⟩
      rw [← hFBe] at c1 HLT HGE hFB
      have HBW := hidden hbw
      rw [← hbw] at c2
      clear hbw hFBe
      by_cases hcc : F < FB
      · have hd : decide (F < FB) = true := by simpa using hcc
        have HNW := hidden (HLT.out hcc)
        clear hcc
        go_quiet (fail)
        go_wp2_with fail
        rename_i nq
        refine ⟨⟨k + 1, by omega, by go_num, ?_, ?_, ?_, ?_, ?_⟩, by simp [intOf]; omega⟩
        · exact (RC8.out.drewN_ nq).other (by show w.heap.size + 1 ≠ g4 + 1; omega) _
        · rw [Nat.add_sub_cancel, HNW.out]
          exact (RB8.out.drewN_ nq).set_ 1 _
        · exact (RT8.out.drewN_ nq).other (by show w.heap.size + 1 ≠ g4; omega) _
        · exact (R08.out.drewN_ nq).other (by show w.heap.size + 1 ≠ w.heap.size; omega) _
        · exact (below_drewN B8.out nq).setCell (by show w.heap.size ≤ w.heap.size + 1; omega) _
      · have hd : decide (F < FB) = false := by simpa using hcc
        have HNW := hidden (HGE.out hcc)
        clear hcc
        go_quiet (fail)
        go_wp2_with fail
        rename_i nq
        refine ⟨⟨k + 1, by omega, by go_num, RC8.out.drewN_ nq, ?_, RT8.out.drewN_ nq, R08.out.drewN_ nq, below_drewN B8.out nq⟩, by simp [intOf]; omega⟩
        rw [Nat.add_sub_cancel, HNW.out]
        exact RB8.out.drewN_ nq
    · have hke : k = 65 := by omega
      subst hke
      have c2 := RB.out.cell 1
      simp only [List.getElem?_cons_succ, List.getElem?_cons_zero, show 65 - 1 = 64 from rfl] at c2
      rw [HFI.out] at c2
      have hBw := HBL.out 64
      rw [HFI.out] at hBw
      have c1 := RC.out.cell (bestW l)
      rw [canT_at _ _ (by omega), if_pos (by omega), HFS.out] at c1
      have rb := RB.out
      rw [show 65 - 1 = 64 from rfl, HFI.out] at rb
      have f2 := rb.frozen 2
      have c22 := rb.cell 2
      simp only [List.getElem?_cons_succ, List.getElem?_cons_zero] at c22
      have rb9 := rb.set_ 2 (.int .i64 ((sizeV l : Nat) : Int))
      have r09 := R0.out.other (a := ⟨w.heap.size + 1, 2, none⟩) (by show w.heap.size + 1 ≠ w.heap.size; omega) (.int .i64 ((sizeV l : Nat) : Int))
      have b9 := HB.out.setCell (p := ⟨w.heap.size + 1, 2, none⟩) (by show w.heap.size ≤ w.heap.size + 1; omega) (.int .i64 ((sizeV l : Nat) : Int))
      generalize hbw : bestW l = bw at *
      generalize hsv : sizeV l = sv at *
      have HWE := hidden hbw
      have HVE := hidden hsv
      clear hbw hsv
      have RB9 : Hid ((wr.setCell ⟨w.heap.size + 1, 2, none⟩ (.int .i64 (sv : Int))).heap[w.heap.size + 1]? = some (.cells #[.int .i64 b0, .int .i64 (bw : Int), .int .i64 (sv : Int)] 169 (0, 0))) := rb9
      have R09 : Hid ((wr.setCell ⟨w.heap.size + 1, 2, none⟩ (.int .i64 (sv : Int))).heap[w.heap.size]? = some (.cells #[.int .i64 0, .int .i64 0, .int .i64 0] 169 (0, 0))) := r09
      have B9 := hidden b9
      have hrow := hidden (Row.setRow_ r09 [.int .i64 b0, .int .i64 (bw : Int), .int .i64 (sv : Int)] rfl)
      clear rb9 r09 b9 rb
      go_wp2_with (first | refine wpList_load_row rfl _ _ rfl _ rfl _ _ _ _ RB9.out Tryz.underlying169 rfl sizeCh ?_ | refine wpList_store_row rfl _ _ _ rfl _ _ rfl rfl _ _ R09.out sizeCh rfl (by simp [Value.oneCell']) ?_)
      refine bodyPost_ret (v := .agg #[.int .i64 b0, .int .i64 (bw : Int), .int .i64 (sv : Int)]) ?_ rfl ⟨by rw [HBE.out, HWE.out, HVE.out], below_setRow B9.out (Nat.le_refl _) _⟩
      exact results_cell_row rfl _ _ _ _ _ _ _ rfl hrow.out Tryz.underlying169 rfl sizeCh
theorem best_any (v : Value) (l : List Int) (w : World) (hv : IsI w v l) (hl : l.length ≤ 65536) (hin : ∀ x ∈ l, frIn x) :
    Calls Tryz.prog 147 #[v] w fun e w' => e = .returned (.tuple #[.int .i64 (baseV l), .int .i64 ((bestW l : Nat) : Int)]) ∧ Grows w w' := by
  have HC := hidden (choose_any v l w hv hl hin)
  clear hv
  generalize baseV l = b0 at *
  generalize bestW l = bw at *
  generalize sizeV l = sv at *
  go_enter Tryz.func147, Tryz.ntmps147
  go_wp2_with fail
  refine HC.out.mono ?_
  rintro e w1 ⟨rfl, hg⟩
  have HG := hidden (Grows.of_below hg ((Below.refl w1.heap.size w1).alloc (Nat.le_refl _) (.cells #[.int .i64 b0, .int .i64 (bw : Int), .int .i64 (sv : Int)] 169)))
  have hr := Row.new w1 169 #[.int .i64 b0, .int .i64 (bw : Int), .int .i64 (sv : Int)] [.int .i64 b0, .int .i64 (bw : Int), .int .i64 (sv : Int)] rfl
  have c0 := hr.cell 0
  have c1 := hr.cell 1
  simp only [List.getElem?_cons_succ, List.getElem?_cons_zero] at c0 c1
  clear hg hr
  go_wp2_with fail
  go_quiet (fail)
  go_wp2_with fail
  go_ret2
  exact ⟨rfl, below_drewN HG.out _⟩
theorem field_ch (x y z : Int) (w : World) : (Instr.field 169 (.agg #[.int .i64 x, .int .i64 y, .int .i64 z]) 2).run Tryz.prog w = .ok (.int .i64 z) w := by
  rfl
theorem size_anyF (v : Value) (l : List Int) (w : World) (hv : IsI w v l) (hl : l.length ≤ 65536) (hin : ∀ x ∈ l, frIn x) :
    Calls Tryz.prog 88 #[v] w fun e w' => e = .returned (.int .i64 ((sizeV l : Nat) : Int)) ∧ Grows w w' := by
  have HC := hidden (choose_any v l w hv hl hin)
  clear hv
  generalize baseV l = b0 at *
  generalize bestW l = bw at *
  generalize sizeV l = sv at *
  have hf := field_ch b0 (bw : Int) (sv : Int)
  go_enter Tryz.func88, Tryz.ntmps88
  go_wp2_with fail
  refine HC.out.mono ?_
  rintro e w1 ⟨rfl, hg⟩
  have HG := hidden hg
  clear hg
  go_wp2_with fail
  go_ret
  exact ⟨rfl, HG.out⟩
end Go.Proofs.YthmipnokimlbdaaGreat
/-
  Shaken: what the claims of this seat need of this text. No condition.
-/
namespace Go.Proofs.YthmipnokimlbdaaGreat
set_option maxRecDepth 20000
open Go.RowKit
set_option linter.unusedVariables false
set_option linter.unusedSimpArgs false
theorem own_empty (w : World) (base : Nat) (e : TypeId) (size : Nat) (h : base ≤ w.heap.size) : (w.alloc (.cells #[] e)).ownsRow base e size (.slice (some ⟨w.heap.size, 0, none⟩) 0 0) 0 [] := by
  refine ⟨by simp, .inr ⟨w.heap.size, 0, #[], rfl, h, by show (w.heap.push _)[w.heap.size]? = _; simp, Nat.le_refl _, Nat.zero_le _, by simp, by simp⟩⟩
theorem IsParts.new5 {w : World} {A1 A2 A3 A4 A5 : Option Addr} {c1 c2 c3 c4 c5 : Nat} {l1 l2 l3 l4 l5 : List UInt8} (h1 : IsBytes w (.slice A1 l1.length c1) l1) (h2 : IsBytes w (.slice A2 l2.length c2) l2) (h3 : IsBytes w (.slice A3 l3.length c3) l3) (h4 : IsBytes w (.slice A4 l4.length c4) l4) (h5 : IsBytes w (.slice A5 l5.length c5) l5) (E : TypeId) :
    IsParts (w.alloc (.cells #[.slice A1 l1.length c1, .slice A2 l2.length c2, .slice A3 l3.length c3, .slice A4 l4.length c4, .slice A5 l5.length c5] E)) (.slice (some ⟨w.heap.size, 0, none⟩) 5 5) [l1, l2, l3, l4, l5] := by
  have hg : Grows w (w.alloc (.cells #[.slice A1 l1.length c1, .slice A2 l2.length c2, .slice A3 l3.length c3, .slice A4 l4.length c4, .slice A5 l5.length c5] E)) := (Below.refl _ _).alloc (Nat.le_refl _) _
  refine ⟨_, 5, rfl, fun _ => ⟨w.heap.size, 0, rfl, fun j hj => ?_⟩⟩
  match j, hj with
  | 0, _ => exact ⟨A1, c1, by rw [World.cell?_alloc_mark]; rfl, h1.grow hg⟩
  | 1, _ => exact ⟨A2, c2, by rw [World.cell?_alloc_mark]; rfl, h2.grow hg⟩
  | 2, _ => exact ⟨A3, c3, by rw [World.cell?_alloc_mark]; rfl, h3.grow hg⟩
  | 3, _ => exact ⟨A4, c4, by rw [World.cell?_alloc_mark]; rfl, h4.grow hg⟩
  | 4, _ => exact ⟨A5, c5, by rw [World.cell?_alloc_mark]; rfl, h5.grow hg⟩
theorem wcells_setN (l : List Nat) (j c : Nat) : (wcells l).set j (.int .u64 (c : Int)) = wcells (l.set j c) := by
  unfold wcells
  rw [List.map_set]
theorem wcells_zero (n : Nat) : List.replicate n (Value.int .u64 0) = wcells (List.replicate n 0) := by
  unfold wcells
  rw [List.map_replicate]
  rfl
def laid (ds : List Nat) (k : Nat) : List Nat := ds.take k ++ List.replicate (ds.length - k) 0
theorem laid_length (ds : List Nat) {k : Nat} (h : k ≤ ds.length) : (laid ds k).length = ds.length := by
  unfold laid
  rw [List.length_append, List.length_take, List.length_replicate]
  omega
theorem laid_set (ds : List Nat) {k : Nat} (h : k < ds.length) : (laid ds k).set k ds[k] = laid ds (k + 1) := by
  unfold laid
  have e : ds.length - k = (ds.length - (k + 1)) + 1 := by omega
  have hl : (ds.take k).length = k := by rw [List.length_take]; omega
  rw [e, List.replicate_succ, List.set_append_right _ _ (by omega), hl, Nat.sub_self, List.set_cons_zero, List.take_succ_eq_append_getElem h, List.append_assoc]
  rfl
theorem laid_done (ds : List Nat) : laid ds ds.length = ds := by unfold laid; simp
def LEncRel (w : World) (g : Nat) (ds : List Nat) (W : Nat) (m x i : Value) (wr : World) : Prop :=
  ∃ k : Nat, k ≤ ds.length ∧ i = .int .i64 (k : Int) ∧ m = .int .i64 ((many W (ds.take k) : Nat) : Int) ∧ Row wr g 85 (wcells (laid ds k)) ∧
    wr.ownsRow w.heap.size 5 1 x (exc W 0 (ds.take k)).length (bcells (exc W 0 (ds.take k))) ∧ Below w.heap.size w wr
set_option maxRecDepth 20000 in
set_option maxHeartbeats 8000000 in
theorem lencodeF_any (v : Value) (l : List Int) (w : World) (hv : IsI w v l) (hl : l.length ≤ 65536) (hin : ∀ x ∈ l, frIn x) :
    Calls Tryz.prog 87 #[v] w (ByR (encV l) w) := by
  have HV := hidden hv
  have HBE := hidden (best_any v l w hv hl hin)
  obtain ⟨A, c, rfl⟩ := hv.slice_
  have HB0 := hidden (baseV_in hin)
  have HDL := hidden (difL_length l)
  have HDU := hidden (difL_U64 l)
  have HDG : Hid (∀ k, (h : k < l.length) → (difL l)[k]? = some (difN (baseV l) l[k])) := fun k h => by
    unfold difL; rw [List.getElem?_map, List.getElem?_eq_getElem h]; rfl
  have HEW := hidden (show encV l = encD (baseV l) (difL l) (bestW l) from rfl)
  have hW := bestW_le l
  have hmk := fun W' => run_make_oneM (P := Tryz.prog) 52 85 (.int .u64 0) 8 Tryz.underlying52 info_u64 rfl l.length (by omega) (by omega) W'
  clear hv
  generalize baseV l = b0 at *
  generalize difL l = ds at *
  generalize bestW l = W at *
  go_enter Tryz.func87, Tryz.ntmps87
  go_wp2_with fail
  refine HBE.out.mono ?_
  rintro e w1 ⟨rfl, hg1⟩
  have HG1 := hidden hg1
  clear hg1
  obtain ⟨g, hg⟩ : ∃ g, g = w1.heap.size := ⟨_, rfl⟩
  have hr2 := Row.at_ w1 85 (List.replicate l.length (.int .u64 0)).toArray (wcells (laid ds 0)) (by
    unfold laid
    rw [List.take_zero, List.nil_append, Nat.sub_zero, HDL.out, wcells_zero]) g hg
  have hb2 := HG1.out.alloc HG1.out.size (.cells (List.replicate l.length (.int .u64 0)).toArray 85)
  have hsz2 := World.size_alloc w1 (.cells (List.replicate l.length (.int .u64 0)).toArray 85)
  have hb3 := hb2.alloc hb2.size (.cells #[] 5)
  have HR3 := hidden (Row.grow hr2 (w' := (w1.alloc (.cells (List.replicate l.length (.int .u64 0)).toArray 85)).alloc (.cells #[] 5)) ((Below.refl _ _).alloc (Nat.le_refl _) _))
  have HO3 := hidden (own_empty (w1.alloc (.cells (List.replicate l.length (.int .u64 0)).toArray 85)) w.heap.size 5 1 hb2.size)
  have HB3 := hidden hb3
  rw [hsz2] at HO3
  rw [← hg] at hsz2 HO3
  clear hr2 hb2 hb3
  go_wp2_with fail
  rw [← hg]
  have HGG := hidden hg
  clear hmk hg
  go_loopw [6, 7, 22] (fun m x i wr => LEncRel w g ds W m x i wr) (fun _ _ i _ => l.length - (intOf i).toNat)
  case atStart => exact ⟨0, by omega, rfl, rfl, HR3.out, HO3.out, HB3.out⟩
  case round =>
    obtain ⟨k, hk, rfl, rfl, hrow, hex, hb⟩ := hrel
    have HB := hidden hb
    have HR := hidden hrow
    have HX := hidden hex
    clear hrow hex hb
    by_cases hlt : k < l.length
    · obtain ⟨bb, f, rfl, hck⟩ := (HV.out.grow HB.out).at_ hlt
      have hgd := HDG.out k hlt
      have hkd : k < ds.length := by have := HDL.out; omega
      have hdk : difN b0 l[k] < 18446744073709551616 := difN_lt _ _
      rw [List.getElem?_eq_getElem hkd] at hgd
      injection hgd with hgd
      have HTD := hidden (List.take_succ_eq_append_getElem hkd)
      have HLS := hidden (laid_set ds hkd)
      have HDF := hidden (fun w' => difference_any l[k] b0 w')
      rw [hgd] at HTD HLS
      generalize l[k] = x at *
      generalize difN b0 x = d at *
      have HTL1 := hidden (show (ds.take k).length = k by rw [List.length_take]; omega)
      have HM1 := hidden (show many W (ds.take k) ≤ 65536 by have := many_le W (ds.take k); have := HTL1.out; omega)
      have HX1 := hidden (exc_len W (ds.take k) 0)
      have HSM := hidden (many_snoc W d (ds.take k))
      have HSX := hidden (exc_snoc W d (ds.take k) 0)
      rw [HTL1.out, Nat.zero_add] at HSX
      rw [HTL1.out] at HX1
      generalize exc W 0 (ds.take k) = xs at *
      generalize many W (ds.take k) = mm at *
      have hmm := HM1.out
      have hsz := HB.out.size
      have hwk : IntKind.u64.wrap (k : Int) = (k : Int) := by rw [IntKind.wrap_u64]; omega
      have hll : (laid ds k).length = ds.length := laid_length ds hk
      obtain ⟨y, hcell⟩ : ∃ y : Nat, wr.cell? ⟨g, k, none⟩ = some (.int .u64 (y : Int)) := ⟨_, by rw [HR.out.cell k, wcells_get (by rw [hll]; exact hkd)]⟩
      have hfr := HR.out.frozen k
      have hr5 := HR.out.set_ k (.int .u64 (d : Int))
      rw [wcells_setN, HLS.out] at hr5
      have hgw : w.heap.size ≤ g := by rw [HGG.out]; exact HG1.out.size
      have hb5 := HB.out.setCell (p := ⟨g, k, none⟩) hgw (.int .u64 (d : Int))
      have hx5 : (wr.setCell ⟨g, k, none⟩ (.int .u64 (d : Int))).ownsRow w.heap.size 5 1 u7 xs.length (bcells xs) := by
        refine ownsRow_setCell_other HX.out ?_ _
        intro he
        rcases HX.out.2 with ⟨h1, _⟩ | ⟨g', cap, cur, h1, _, h2, _⟩
        · rw [h1] at he; cases he
        · rw [h1] at he
          simp only [Value.ownBlock, Option.some.injEq] at he
          subst he
          have hr := HR.out
          unfold Row at hr
          rw [h2] at hr
          injection hr with hr
          injection hr with _ h2 _
          cases h2
      have hc5 := hr5.cell k
      have hl5 : (laid ds (k + 1)).length = ds.length := laid_length ds hkd
      have hc6 : (laid ds (k + 1))[k]? = some d := by rw [← HLS.out, List.getElem?_set, if_pos rfl, if_pos (by omega)]
      rw [wcells_get (by rw [hl5]; exact hkd)] at hc5
      rw [List.getElem?_eq_getElem (by rw [hl5]; exact hkd)] at hc6
      injection hc6 with hc6
      rw [hc6] at hc5
      have HR5 := hidden hr5
      have HB5 := hidden hb5
      have HX5 := hidden hx5
      have hNl : k < ds.length := hkd
      obtain ⟨h, hh⟩ : ∃ h, h = d / 2 ^ W := ⟨_, rfl⟩
      rw [← hh] at HSM HSX
      have hshr : (d : Int) / 2 ^ W = (h : Int) := by rw [hh]; simp
      have hhd : h < 18446744073709551616 := by rw [hh]; exact Nat.lt_of_le_of_lt (Nat.div_le_self _ _) hdk
      have HEK := hidden (fun W' => encode_any (k : Int) W' (by omega) (by omega))
      have HEH := hidden (fun W' => encode_any (h : Int) W' (by omega) (by omega))
      rw [Int.toNat_natCast] at HEK HEH
      clear hgd hll hr5 hb5 hx5 hl5 hc6 hh hkd
      by_cases h0 : h = 0
      · have hE : ((h : Int) != 0) = false := by rw [h0]; rfl
        rw [if_pos h0, Nat.add_zero] at HSM
        rw [if_pos h0, List.append_nil] at HSX
        clear h0
        go_wp2_with fail
        refine (HDF.out wr).mono ?_
        rintro e w' ⟨rfl, rfl⟩
        go_wp2_with fail
        refine ⟨⟨k + 1, by have := HDL.out; omega, by go_num, ?_, HR5.out, ?_, HB5.out⟩, by simp [intOf]; omega⟩
        · rw [HTD.out, HSM.out]
        · rw [HTD.out, HSX.out]; exact HX5.out
      · have hE : ((h : Int) != 0) = true := by simpa using h0
        rw [if_neg h0] at HSM
        rw [if_neg h0] at HSX
        have h10 := HX1.out
        clear h0
        go_wp2_with fail
        refine (HDF.out wr).mono ?_
        rintro e w' ⟨rfl, rfl⟩
        go_wp2_with fail
        generalize wr.setCell ⟨g, k, none⟩ (.int .u64 (d : Int)) = w5 at *
        clear hck hcell hfr hc5
        refine (HEK.out w5).mono ?_
        rintro e w6 ⟨v6, rfl, hown6, hb6⟩
        have HU6 := hidden (IsBytes.of_own hown6)
        have HB6 := hidden (HB5.out.trans (hb6.mono HB5.out.size))
        have HR6 := hidden (Row.grow HR5.out hb6)
        have HX6 := hidden (own_grow HX5.out hb6)
        clear hown6 hb6
        go_wp2_with ((at_builtin; go_loud (refine wpList_append_bytes_k (w := w) rfl _ _ 29 rfl 5 Tryz.underlying29 info_u8 _ xs (by rfl) HX6.out HB6.out _ (enc k) (by rfl) HU6.out (by have := enc_le10 k; omega) ?_); intro v7 w7 hown7 hb7 hk7; have HX7 := hidden hown7; have HB7 := hidden hb7; have HR7 := hidden (hk7.row (by decide) (by rw [wcells_length, laid_length ds (by omega)]; unfold maxLen; have := HDL.out; omega) HR6.out); clear hown7 hb7 hk7))
        refine (HEH.out w7).mono ?_
        rintro e w8 ⟨v8, rfl, hown8, hb8⟩
        have HU8 := hidden (IsBytes.of_own hown8)
        have HB8 := hidden (HB7.out.trans (hb8.mono HB7.out.size))
        have HR8 := hidden (Row.grow HR7.out hb8)
        have HX8 := hidden (own_grow HX7.out hb8)
        clear hown8 hb8
        go_wp2_with ((at_builtin; go_loud (refine wpList_append_bytes_k (w := w) rfl _ _ 29 rfl 5 Tryz.underlying29 info_u8 _ (xs ++ enc k) (by rfl) HX8.out HB8.out _ (enc h) (by rfl) HU8.out (by have := enc_le10 k; have := enc_le10 h; rw [List.length_append]; omega) ?_); intro v9 w9 hown9 hb9 hk9; have HX9 := hidden hown9; have HB9 := hidden hb9; have HR9 := hidden (hk9.row (by decide) (by rw [wcells_length, laid_length ds (by omega)]; unfold maxLen; have := HDL.out; omega) HR8.out); clear hown9 hb9 hk9))
        refine ⟨⟨k + 1, by have := HDL.out; omega, by go_num, ?_, HR9.out, ?_, HB9.out⟩, by simp [intOf]; omega⟩
        · rw [HTD.out, HSM.out]; go_num
        · rw [HTD.out, HSX.out, ← List.append_assoc]; exact HX9.out
    · have hke : k = ds.length := by have := HDL.out; omega
      have htk : ds.take k = ds := by rw [hke, List.take_length]
      have hlk : laid ds k = ds := by rw [hke, laid_done]
      rw [htk] at HX ⊢
      rw [hlk] at HR
      clear hke htk hlk
      have hz := zz_bd b0 HB0.out.1 (by have := HB0.out.2; omega)
      have HMM := hidden (show many W ds ≤ 65536 by have := many_le W ds; have := HDL.out; omega)
      have HXL := hidden (show (exc W 0 ds).length ≤ 2000000 by have := exc_len W ds 0; have := HDL.out; omega)
      have HDW := hidden (show IsW wr (.slice (some ⟨g, 0, none⟩) l.length l.length) ds from Reads.of_row HR.out l.length l.length (by rw [wcells_length, HDL.out]) (Nat.le_refl _))
      have HTL2 := hidden (IsBytes.of_own HX.out)
      obtain ⟨A5, c5, hv5, _⟩ := HTL2.out
      subst hv5
      have HZG := hidden (fun W' => zigzag_any b0 W' HB0.out.1 (by have := HB0.out.2; omega))
      have HE1 := hidden (fun W' => encode_any (zz b0) W' hz.1 (by omega))
      have HE2 := hidden (fun W' => encode_any (W : Int) W' (by omega) (by omega))
      have hmm := HMM.out
      have HE3 := hidden (fun W' => encode_any ((many W ds : Nat) : Int) W' (by omega) (by omega))
      have HPA := hidden (fun v' W' hv' => pack_any v' ds (W : Int) W' hv' HDU.out (by have := HDL.out; omega))
      have HPI := hidden (show packI ds (W : Int) = packL ds W by
        unfold packI
        rw [okB_t (by have := HDL.out; omega) hW, if_pos rfl, Int.toNat_natCast])
      have HPLN := hidden (show (packL ds W).length ≤ 1000000 by
        rw [packL_length]
        have h5 : ds.length * W ≤ ds.length * 64 := Nat.mul_le_mul_left _ hW
        have := HDL.out
        unfold szB
        omega)
      have HED : Hid (encD b0 ds W = [enc (zz b0).toNat, enc W, enc (many W ds), packL ds W, exc W 0 ds].flatten) := by show _ = _; unfold encD; simp
      rw [HPI.out] at HPA
      rw [Int.toNat_natCast] at HE2 HE3
      have hwk : IntKind.u64.wrap (W : Int) = (W : Int) := by rw [IntKind.wrap_u64]; omega
      have HL1 := hidden (enc_le10 (zz b0).toNat)
      have HL2 := hidden (enc_le10 W)
      have HL3 := hidden (enc_le10 (many W ds))
      have hwm : IntKind.u64.wrap ((many W ds : Nat) : Int) = ((many W ds : Nat) : Int) := by rw [IntKind.wrap_u64]; omega
      generalize exc W 0 ds = xs at *
      generalize packL ds W = pp at *
      generalize many W ds = mm at *
      clear hmm
      go_wp2_with fail
      refine (HZG.out wr).mono ?_
      rintro e w' ⟨rfl, rfl⟩
      go_wp2_with fail
      refine (HE1.out wr).mono ?_
      rintro e w1' ⟨v1, rfl, hown1, hb1⟩
      have HU1 := hidden (IsBytes.of_own hown1)
      obtain ⟨A1, c1, hv1, _⟩ := HU1.out
      subst hv1
      have HB1 := hidden hb1
      clear hown1 hb1
      go_wp2_with fail
      refine (HE2.out w1').mono ?_
      rintro e w2' ⟨v2, rfl, hown2, hb2⟩
      have HU2 := hidden (IsBytes.of_own hown2)
      obtain ⟨A2, c2, hv2, _⟩ := HU2.out
      subst hv2
      have HB2 := hidden hb2
      clear hown2 hb2
      go_wp2_with fail
      refine (HE3.out w2').mono ?_
      rintro e w3' ⟨v3, rfl, hown3, hb3⟩
      have HU3 := hidden (IsBytes.of_own hown3)
      obtain ⟨A3, c3, hv3, _⟩ := HU3.out
      subst hv3
      have HB3' := hidden hb3
      have HB13 := hidden (Grows.of_below (Grows.of_below HB1.out HB2.out) hb3)
      clear hown3 hb3
      go_wp2_with fail
      refine (HPA.out _ w3' (IsW.grow HDW.out HB13.out)).mono ?_
      rintro e w4' ⟨v4, rfl, hb4, hu4⟩
      have HU4 := hidden hu4
      obtain ⟨A4, c4, hv4, _⟩ := hu4
      subst hv4
      have HB4 := hidden hb4
      have HP5 := hidden (IsParts.new5 (w := w4') (IsBytes.grow HU1.out (Grows.of_below (Grows.of_below HB2.out HB3'.out) hb4)) (IsBytes.grow HU2.out (Grows.of_below HB3'.out hb4)) (IsBytes.grow HU3.out hb4) HU4.out (IsBytes.grow HTL2.out (Grows.of_below HB13.out hb4)) 29)
      have HB5 := hidden (Grows.of_below (Grows.of_below HB.out (Grows.of_below HB13.out hb4)) ((Below.refl w4'.heap.size w4').alloc (Nat.le_refl _) (.cells #[.slice A1 (enc (zz b0).toNat).length c1, .slice A2 (enc W).length c2, .slice A3 (enc mm).length c3, .slice A4 pp.length c4, .slice A5 xs.length c5] 29)))
      have HCC := hidden (concat_any _ _ _ HP5.out (by unfold maxLen; simp) (by
        have := HL1.out; have := HL2.out; have := HL3.out; have := HPLN.out; have := HXL.out
        unfold total
        simp only [List.flatten_cons, List.flatten_nil, List.length_append, List.length_nil]
        omega))
      clear hb4
      go_wp2_with fail
      refine HCC.out.mono ?_
      rintro e w6 ⟨v6, rfl, hown6, hb6⟩
      have HU6 := hidden (IsBytes.of_own hown6)
      have HB6 := hidden (Grows.of_below HB5.out hb6)
      clear hown6 hb6
      go_wp2_with fail
      go_ret
      refine ⟨_, rfl, HB6.out, ?_⟩
      rw [HEW.out, HED.out]
      exact HU6.out
end Go.Proofs.YthmipnokimlbdaaGreat
/-
  Shaken: what the claims of this seat need of this text. No condition.
-/
namespace Go.Proofs.YthmipnokimlbdaaGreat
set_option maxRecDepth 20000
open Go.RowKit
set_option linter.unusedVariables false
set_option linter.unusedSimpArgs false
theorem last_push (out : List Rn) (v : Int) : ∃ c, (pushR out v).getLast? = some (v, c) := by
  unfold pushR
  cases hl : out.getLast? with
  | none => exact ⟨1, by simp⟩
  | some x =>
    simp only
    split
    · rename_i h; exact ⟨x.2 + 1, by simp [h]⟩
    · exact ⟨1, by simp⟩
theorem last_runs {vs : List Int} {j : Nat} (h0 : 0 < j) (h1 : j - 1 < vs.length) : ∃ c, (runsR (vs.take j)).getLast? = some (vs[j - 1], c) := by
  obtain ⟨k, rfl⟩ : ∃ k, j = k + 1 := ⟨j - 1, by omega⟩
  simp only [Nat.add_sub_cancel] at h1 ⊢
  rw [runsR_take h1]
  exact last_push _ _
theorem push_same {o : List Rn} {y c : Int} (h : o.getLast? = some (y, c)) : pushR o y = o.dropLast ++ [(y, c + 1)] := by unfold pushR; rw [h]; simp
theorem push_new {o : List Rn} {y : Int} (h : o.getLast? = none ∨ ∃ x c, o.getLast? = some (x, c) ∧ x ≠ y) : pushR o y = o ++ [(y, 1)] := by
  unfold pushR
  rcases h with h | ⟨x, c, h, hne⟩
  · rw [h]
  · rw [h]; simp [hne]
theorem own_len {o : List Rn} {x : Rn} {w : World} {base : Nat} {v : Value} (h : w.ownsRow base 125 2 v (o ++ [x]).length (rcells (o ++ [x]))) : ∃ m, m = (o ++ [x]).length ∧ 0 < m ∧ (o ++ [x])[m - 1]? = some x := ⟨_, rfl, by simp, by simp⟩
theorem own_bump {p : List Rn} {x : Rn} {m : Nat} (hm : m = (p ++ [x]).length) {w : World} {base g cap : Nat} (h : w.ownsRow base 125 2 (.slice (some ⟨g, 0, none⟩) m cap) m (rcells (p ++ [x]))) (c : Int) :
    (w.setCell ⟨g, (m - 1) * 2 + 1, none⟩ (.int .i64 c)).ownsRow base 125 2 (.slice (some ⟨g, 0, none⟩) m cap) (p ++ [(x.1, c)]).length (rcells (p ++ [(x.1, c)])) := by
  have hl : m = p.length + 1 := by rw [hm]; simp
  have h1 := own_setRl5 h ((m - 1) * 2 + 1) (by omega) (.int .i64 c)
  have e := rcells_bump p x c
  rw [show p.length * 2 + 1 = (m - 1) * 2 + 1 by omega] at e
  rw [e] at h1
  have e2 : (p ++ [(x.1, c)]).length = m := by rw [hl]; simp
  rw [e2]
  exact h1
def LRunRel (w : World) (vs : List Int) (out i : Value) (wr : World) : Prop :=
  ∃ j : Nat, j ≤ vs.length ∧ i = .int .i64 (j : Int) ∧ wr.ownsRow w.heap.size 125 2 out (runsR (vs.take j)).length (rcells (runsR (vs.take j))) ∧ Below w.heap.size w wr
set_option maxHeartbeats 2000000 in
theorem lruns_any (v : Value) (vs : List Int) (w : World) (hv : IsI w v vs) (hl : vs.length ≤ 1000000000) :
    Calls Tryz.prog 144 #[v] w fun e w' => ∃ u, e = .returned u ∧ Grows w w' ∧ ReadsR w' u (runsR vs) := by
  have HV := hidden hv
  obtain ⟨A, c, rfl⟩ := hv.slice_
  clear hv
  go_enter Tryz.func144, Tryz.ntmps144
  go_wp2_with fail
  go_loopw [3, 9] (fun out i wr => LRunRel w vs out i wr) (fun _ i _ => vs.length - (intOf i).toNat)
  case atStart => exact ⟨0, by omega, rfl, own_empty w _ _ _ (Nat.le_refl _), runGrow1 _⟩
  case round =>
    obtain ⟨j, hj, rfl, hown, hb⟩ := hrel
    have HB := hidden hb
    have HOW := hidden hown
    clear hown hb
    by_cases hlt : j < vs.length
    · obtain ⟨b, f, rfl, hcell⟩ := (HV.out.grow HB.out).at_ hlt
      have HTK := hidden (runsR_take hlt)
      obtain ⟨hcnt, hlen⟩ := runsR_len vs hj
      have HPV := hidden (fun h0 : 0 < j => (HV.out.grow HB.out).at_ (show j - 1 < vs.length by omega))
      have HLAST := hidden (fun h0 : 0 < j => last_runs (vs := vs) h0 (show j - 1 < vs.length by omega))
      have HNIL := hidden (show j = 0 → (runsR (vs.take j)).getLast? = none by intro h; subst h; rfl)
      obtain ⟨o, ho⟩ : ∃ o, o = runsR (vs.take j) := ⟨_, rfl⟩
      rw [← ho] at HOW HTK hcnt hlen HLAST HNIL
      obtain ⟨y, hy⟩ : ∃ y, y = vs[j] := ⟨_, rfl⟩
      rw [← hy] at hcell HTK
      have hopos : ∀ x ∈ o, 1 ≤ x.2 := by rw [ho]; exact runsR_pos vs j
      have HOP := hidden hopos
      clear ho hy hopos
      have hsz := HB.out.size
      have HCN := hidden hcnt
      have hn9 : o.length ≤ 1000000000 := by omega
      have HN9 := hidden hn9
      clear hcnt hn9 hlen
      by_cases h0 : j = 0
      · have HP := hidden (push_new (y := y) (.inl (HNIL.out h0)))
        have HLN := hidden (show o.length + 1 ≤ 8796093022208 by have := HN9.out; omega)
        have HO0 := hidden (show o = [] from List.getLast?_eq_none_iff.1 (HNIL.out h0))
        have hw := HOW.out
        rw [HO0.out] at hw
        obtain ⟨A2, cap2, rfl⟩ : ∃ A cap, u3 = .slice A 0 cap := by
          obtain ⟨A, c, h1, _⟩ := ReadsR.of_own HOW.out
          rw [HO0.out] at h1
          exact ⟨A, c, h1⟩
        have hj0 : ((j : Int) == 0) = true := by simpa using h0
        have HJ0 := hidden h0
        have HBM := hidden (show rcells ((o ++ [(y, (0 : Int))]).set (o.length) (y, 1)) = rcells (pushR o y) by rw [HP.out]; simp)
        clear h0 hw
        go_wp2_with ((at_builtin; go_loud (refine wpList_append_r rfl _ _ rfl _ o (by rfl) w.heap.size HOW.out _ HB.out hsz _ _ (by rfl) HLN.out ?_); intro v' w3 hown3 hb3; have HB3 := hidden hb3; have HM := own_len hown3; obtain ⟨m, hm1, hm2, hm3⟩ := HM; rw [← hm1] at hown3; have HO3 := hidden hown3; obtain ⟨g, cap, rfl, hbg, hgl, hfz⟩ := own_shapeRl5 hown3 hm2; have hq := rcells_get hm3; have k2 := hown3.cells (g := g) rfl _ _ hq.2; have f2 := hfz ((m - 1) * 2 + 1) (by omega); have HBG := hidden hbg; rw [Addr.add_lit, Nat.zero_add] at k2; have b1 : (0 : Int) ≤ (m : Int) - 1 := (by omega); have b2 : (m : Int) - 1 < (m : Int) := (by omega); have b3 : ((m : Int) - 1).toNat = m - 1 := (by omega); have HM1 := hidden hm1; have HN9b := HN9.out; have hm9 : m ≤ 1000000001 := (by rw [hm1, List.length_append]; simpa using HN9b); clear hm1 hm3 HN9b hq hfz hgl hown3 hb3))
        refine ⟨⟨j + 1, by omega, by go_num, ?_, HB3.out.setCell (p := ⟨g, (m - 1) * 2 + 1, none⟩) HBG.out _⟩, by simp [intOf]; omega⟩
        rw [HTK.out, HP.out]
        exact own_bump HM1.out HO3.out 1
      · have hj1 : j - 1 < vs.length := by omega
        obtain ⟨cl, hlast⟩ := HLAST.out (by omega)
        obtain ⟨b2, f3, hA, hprev⟩ := HPV.out (by omega)
        injection hA with hA
        injection hA with hA1 hA2
        subst hA1 hA2
        obtain ⟨p, hp⟩ : ∃ p, p = vs[j - 1] := ⟨_, rfl⟩
        rw [← hp] at hlast hprev
        have hj0 : ((j : Int) == 0) = false := by simpa using h0
        have b4 : (0 : Int) ≤ (j : Int) - 1 := by omega
        have b5 : (j : Int) - 1 < (vs.length : Int) := by omega
        have b6 : ((j : Int) - 1).toNat = j - 1 := by omega
        have HS := hidden (last_split hlast)
        obtain ⟨m0, hm0⟩ : ∃ m, m = o.length := ⟨_, rfl⟩
        have hpos : 0 < m0 := by rw [hm0, HS.out]; simp
        have HM0 := hidden hm0
        have hoo := HOW.out
        rw [← hm0] at hoo
        have HOO := hidden hoo
        obtain ⟨g0, cap0, rfl, hbg0, hgl0, hfz0⟩ := own_shapeRl5 hoo hpos
        by_cases he : y = p
        · have d4 : (y != p) = false := by simpa using he
          have HP := hidden (push_same (y := y) (c := cl) (by rw [he]; exact hlast))
          have HBG := hidden hbg0
          have hget : o[m0 - 1]? = some (p, cl) := by rw [hm0, ← List.getLast?_eq_getElem?]; exact hlast
          have k2 := hoo.cells (g := g0) rfl _ _ (rcells_get hget).2
          rw [Addr.add_lit, Nat.zero_add] at k2
          have f2 := hfz0 ((m0 - 1) * 2 + 1) (by omega)
          have hcl := HCN.out (p, cl) (by rw [HS.out]; simp)
          have hcl1 := HOP.out (p, cl) (by rw [HS.out]; simp)
          have hm9 : m0 ≤ 1000000001 := by have := HN9.out; omega
          have b1 : (0 : Int) ≤ (m0 : Int) - 1 := by omega
          have b2 : (m0 : Int) - 1 < (m0 : Int) := by omega
          have b3 : ((m0 : Int) - 1).toNat = m0 - 1 := by omega
          have hw64 : wrap64 (cl + 1) = cl + 1 := by unfold wrap64; simp only at hcl hcl1; omega
          simp only at hcl hcl1 k2
          have HB4 := hidden (fun d => own_bump (p := o.dropLast) (x := (p, cl)) (m := m0) (by rw [← HS.out]; exact HM0.out) (w := wr) (base := w.heap.size) (g := g0) (cap := cap0) (by rw [← HS.out]; exact HOO.out) d)
          have HE := hidden he
          clear he hoo hlast hp hm0 hget hfz0 hgl0
          go_wp2_with fail
          try rw [hw64]
          refine ⟨⟨j + 1, by omega, by go_num, ?_, HB.out.setCell (p := ⟨g0, (m0 - 1) * 2 + 1, none⟩) HBG.out _⟩, by simp [intOf]; omega⟩
          rw [HTK.out, HP.out, HE.out]
          exact HB4.out _
        · have d4 : (y != p) = true := by simpa using he
          have HP := hidden (push_new (o := o) (y := y) (.inr ⟨p, cl, hlast, fun e => he e.symm⟩))
          have HLN := hidden (show o.length + 1 ≤ 8796093022208 by have := HN9.out; omega)
          clear he hoo hlast hp hm0 hfz0 hgl0
          go_wp2_with ((at_builtin; go_loud (refine wpList_append_r rfl _ _ rfl _ o (by rfl) w.heap.size HOW.out _ HB.out hsz _ _ (by rfl) HLN.out ?_); intro v' w3 hown3 hb3; have HB3 := hidden hb3; have HM := own_len hown3; obtain ⟨m, hm1, hm2, hm3⟩ := HM; rw [← hm1] at hown3; have HO3 := hidden hown3; obtain ⟨g, cap, rfl, hbg, hgl, hfz⟩ := own_shapeRl5 hown3 hm2; have hq := rcells_get hm3; have k2 := hown3.cells (g := g) rfl _ _ hq.2; have f2 := hfz ((m - 1) * 2 + 1) (by omega); have HBG := hidden hbg; rw [Addr.add_lit, Nat.zero_add] at k2; have b1 : (0 : Int) ≤ (m : Int) - 1 := (by omega); have b2 : (m : Int) - 1 < (m : Int) := (by omega); have b3 : ((m : Int) - 1).toNat = m - 1 := (by omega); have HM1 := hidden hm1; have HN9b := HN9.out; have hm9 : m ≤ 1000000001 := (by rw [hm1, List.length_append]; simpa using HN9b); clear hm1 hm3 HN9b hq hfz hgl hown3 hb3))
          refine ⟨⟨j + 1, by omega, by go_num, ?_, HB3.out.setCell (p := ⟨g, (m - 1) * 2 + 1, none⟩) HBG.out _⟩, by simp [intOf]; omega⟩
          rw [HTK.out, HP.out]
          exact own_bump HM1.out HO3.out 1
    · have hke : j = vs.length := by omega
      subst hke
      have h := HOW.out
      rw [List.take_length] at h
      have HH := hidden h
      clear h
      go_wp2_with fail
      go_ret
      exact ⟨_, rfl, HB.out, ReadsR.of_own HH.out⟩
end Go.Proofs.YthmipnokimlbdaaGreat
/-
  Shaken: what the claims of this seat need of this text. No condition.
-/
namespace Go.Proofs.YthmipnokimlbdaaGreat
open Go.RowKit
set_option linter.unusedVariables false
set_option linter.unusedSimpArgs false
theorem encRs_snoc : ∀ (l : List Rn) (last : Int) (x : Rn), encRs last (l ++ [x]) = encRs last l ++ enc (zd x.1 (lastV last l)) ++ enc x.2.toNat
  | [], _, _ => by simp [encRs, lastV]
  | y :: l, last, x => by rw [List.cons_append, encRs, encRs, encRs_snoc l y.1 x, lastV]; simp
theorem encR_take_len (n : Nat) (l : List Rn) : (enc n ++ encRs 0 l).length ≤ 10 + 20 * l.length + 10 := by
  have h1 := encR_len_le l
  unfold encR at h1
  rw [List.length_append] at h1 ⊢
  have e10 : (enc n).length ≤ 10 := by
    have h : ∀ f n, (encF f n).length ≤ f := by
      intro f
      induction f with
      | zero => intro n; simp [encF]
      | succ f ih =>
        intro n
        by_cases hn : n < 128
        · rw [encF_last hn]; simp
        · rw [encF_more hn, List.length_cons]; have := ih (n / 128); omega
    exact h 10 n
  omega
def LEnRel (w : World) (l : List Rn) (out last i : Value) (wr : World) : Prop :=
  ∃ k : Nat, k ≤ l.length ∧ i = .int .i64 (k : Int) ∧ last = .int .i64 (lastV 0 (l.take k)) ∧ wr.ownsRow w.heap.size 5 1 out (enc l.length ++ encRs 0 (l.take k)).length (bcells (enc l.length ++ encRs 0 (l.take k))) ∧ Below w.heap.size w wr
set_option maxRecDepth 8000 in
set_option maxHeartbeats 4000000 in
theorem lencode_any (v : Value) (l : List Rn) (w : World) (hv : ReadsR w v l) (hin : ∀ x ∈ l, in64 x.1) (hn : ∀ x ∈ l, 0 ≤ x.2 ∧ x.2 ≤ 9223372036854775807) (hl : l.length ≤ 1000000) :
    Calls Tryz.prog 143 #[v] w (Made (encR l) w) := by
  have HV := hidden hv
  have HIN := hidden hin
  have HNN := hidden hn
  obtain ⟨A, c, rfl⟩ := hv.slice_
  have HE0 := hidden (encode_any (l.length : Int) w (by omega) (by omega))
  rw [Int.toNat_natCast] at HE0
  clear hv hin hn
  go_enter Tryz.func143, Tryz.ntmps143
  go_wp2_with fail
  refine HE0.out.mono ?_
  rintro e w1 ⟨v1, rfl, hown1, hb1⟩
  have HO1 := hidden hown1
  have HB1 := hidden hb1
  obtain ⟨A1, d1, rfl, _⟩ := IsBytes.of_own hown1
  clear hown1 hb1 HE0
  go_wp2_with fail
  go_loopw [3, 4, 13] (fun out last i wr => LEnRel w l out last i wr) (fun _ _ i _ => l.length - (intOf i).toNat)
  case atStart => exact ⟨0, by omega, rfl, rfl, by simpa [encRs] using HO1.out, HB1.out⟩
  case round =>
    obtain ⟨k, hk, rfl, rfl, hown, hb⟩ := hrel
    have HB := hidden hb
    have HOW := hidden hown
    obtain ⟨A3, d3, rfl, _⟩ := IsBytes.of_own hown
    clear hown hb
    by_cases hlt : k < l.length
    · obtain ⟨b, off, hA, hc⟩ := (HV.out.grow HB.out).at_
      obtain rfl := hA (by omega)
      obtain ⟨c1, c2⟩ := hc k hlt
      have HTK := hidden (show enc l.length ++ encRs 0 (l.take (k + 1)) = enc l.length ++ encRs 0 (l.take k) ++ enc (zd l[k].1 (lastV 0 (l.take k))) ++ enc l[k].2.toNat by
        rw [List.take_succ_eq_append_getElem hlt, encRs_snoc]
        simp)
      have HLV := hidden (show lastV 0 (l.take (k + 1)) = l[k].1 by rw [List.take_succ_eq_append_getElem hlt, lastV_snoc])
      have hla := lastV_in (l.take k) 0 (by unfold in64; omega) (fun x hx => HIN.out x (List.mem_of_mem_take hx))
      have hx1 := HIN.out _ (List.getElem_mem hlt)
      have hx2 := HNN.out _ (List.getElem_mem hlt)
      have HPL := hidden (show (enc l.length ++ encRs 0 (l.take k)).length ≤ 100000000 by have := encR_take_len l.length (l.take k); rw [List.length_take] at this; omega)
      obtain ⟨x1, e1⟩ : ∃ x, x = l[k].1 := ⟨_, rfl⟩
      obtain ⟨x2, e2⟩ : ∃ x, x = l[k].2 := ⟨_, rfl⟩
      rw [← e1] at c1 hx1 HTK HLV
      rw [← e2] at c2 hx2 HTK
      generalize lastV 0 (l.take k) = la at *
      generalize enc l.length ++ encRs 0 (l.take k) = ps at *
      have hdf := difR_in x1 la
      have HZZ := hidden (fun W => zigzag_any (difR x1 la) W hdf.1 (by have := hdf.2; omega))
      obtain ⟨hz1, hz2⟩ := zd_bd x1 la
      rw [hz1] at HZZ
      have hsz := HB.out.size
      have HBA := hidden (show Below w.heap.size w (wr.alloc (.cells #[.int .i64 x1, .int .i64 x2] 125)) from HB.out.alloc hsz _)
      have HRA := hidden (runRow wr (.int .i64 x1) (.int .i64 x2))
      have HOA := hidden (HOW.out.alloc (.cells #[.int .i64 x1, .int .i64 x2] 125))
      have HE1 := hidden (encode_any ((zd x1 la : Nat) : Int) (wr.alloc (.cells #[.int .i64 x1, .int .i64 x2] 125)) (by omega) (by omega))
      rw [Int.toNat_natCast] at HE1
      generalize zd x1 la = z at *
      clear hA hc e1 e2 hz1 hdf
      go_wp2_with ((go_at_call 150; refine (HZZ.out _).mono ?_; rintro e w3 ⟨rfl, rfl⟩))
      refine HE1.out.mono ?_
      rintro e w2 ⟨v2, rfl, hown2, hb2⟩
      have HU2 := hidden (IsBytes.of_own hown2)
      have HB2 := hidden (HBA.out.trans (hb2.mono HBA.out.size))
      have HO2 := hidden (own_grow HOA.out hb2)
      have HR2 := hidden (HRA.out.grow hb2)
      clear hown2 hb2 c1 c2
      go_wp2_with ((at_builtin; go_loud (refine wpList_append_bytes_k (w := w) rfl _ _ 29 rfl 5 Tryz.underlying29 info_u8 _ ps (by rfl) HO2.out HB2.out _ (enc z) (by rfl) HU2.out (by have := HPL.out; have := enc_le10 z; omega) ?_); intro v3 w3 hown3 hb3 hk3; have HO3 := hidden hown3; have HB3 := hidden hb3; have HR3 := hidden (hk3.row (by decide) (by unfold maxLen; simp) HR2.out); obtain ⟨q1, q2⟩ := runCells HR3.out; clear hown3 hb3 hk3))
      have HE4 := hidden (encode_any x2 w3 hx2.1 (by omega))
      refine HE4.out.mono ?_
      rintro e w4 ⟨v4, rfl, hown4, hb4⟩
      have HU4 := hidden (IsBytes.of_own hown4)
      have HB4 := hidden (HB3.out.trans (hb4.mono HB3.out.size))
      have HO4 := hidden (own_grow HO3.out hb4)
      have HR4 := hidden (HR3.out.grow hb4)
      clear hown4 hb4 q1 q2
      go_wp2_with ((at_builtin; go_loud (refine wpList_append_bytes_k (w := w) rfl _ _ 29 rfl 5 Tryz.underlying29 info_u8 _ (ps ++ enc z) (by rfl) HO4.out HB4.out _ (enc x2.toNat) (by rfl) HU4.out (by have := HPL.out; have := enc_le10 z; have := enc_le10 x2.toNat; rw [List.length_append]; omega) ?_); intro v5 w5 hown5 hb5 hk5; have HO5 := hidden hown5; have HB5 := hidden hb5; have HR5 := hidden (hk5.row (by decide) (by unfold maxLen; simp) HR4.out); obtain ⟨q1, q2⟩ := runCells HR5.out; clear hown5 hb5 hk5))
      refine ⟨⟨k + 1, by omega, by go_num, by rw [HLV.out], ?_, HB5.out⟩, by simp [intOf]; omega⟩
      rw [HTK.out]
      exact HO5.out
    · have hke : k = l.length := by omega
      subst hke
      have h := HOW.out
      rw [List.take_length] at h
      have HO2 := hidden h
      rw [List.take_length]
      clear h
      go_wp2_with fail
      go_ret
      exact ⟨_, rfl, HO2.out, HB.out⟩
end Go.Proofs.YthmipnokimlbdaaGreat
/-
  Shaken: what the claims of this seat need of this text. No condition.
-/
namespace Go.Proofs.YthmipnokimlbdaaGreat
set_option maxRecDepth 8000
open Go.RowKit
set_option linter.unusedVariables false
set_option linter.unusedSimpArgs false
theorem readNumber_any (A : Option Addr) (c : Nat) (b : List UInt8) (o lim : Int) (w : World) (hb : IsBytes w (.slice A b.length c) b) (hl : b.length ≤ 1048576) (h63 : -9223372036854775808 ≤ o) (h64 : o ≤ 9223372036854775807) (hm0 : 0 ≤ lim) (hm1 : lim ≤ 65536) :
    Calls Tryz.prog 205 #[.slice A b.length c, .int .i64 o, .int .i64 lim] w fun e w' => e = .returned (.tuple #[.int .i64 (numD b o lim).1, .int .i64 (numD b o lim).2.1, .int .i64 (numD b o lim).2.2]) ∧ w = w' := by
  have HDC := hidden (decode_any (.slice A b.length c) b o w hb (by unfold maxLen; omega) h63 h64)
  obtain ⟨x, q, e, hd⟩ : ∃ x q e, dcd b o = (x, q, e) := ⟨_, _, _, rfl⟩
  have hbd := dcd_bd2 hd
  rw [hd] at HDC
  have HD := hidden hd
  clear hd hb
  by_cases he : e = 0
  · subst he
    have hx0 := hbd.1
    have hx1 := hbd.2.1
    have hwl : IntKind.u64.wrap lim = lim := by rw [IntKind.wrap_u64]; omega
    clear hbd
    by_cases hx : lim < x
    · have HE := hidden (numD_f HD.out hx)
      have hdd : decide (lim < x) = true := by simpa using hx
      clear hx
      go_enter Tryz.func205, Tryz.ntmps205
      go_wp2_with fail
      refine HDC.out.mono ?_
      rintro e w2 ⟨rfl, rfl⟩
      go_wp2_with fail
      go_ret3
      exact ⟨by rw [HE.out]; rfl, rfl⟩
    · have HE := hidden (numD_ok HD.out hx)
      have hdd : decide (lim < x) = false := by simpa using hx
      have hwx : IntKind.i64.wrap x = x := by rw [IntKind.wrap_i64]; omega
      clear hx
      go_enter Tryz.func205, Tryz.ntmps205
      go_wp2_with fail
      refine HDC.out.mono ?_
      rintro e w2 ⟨rfl, rfl⟩
      go_wp2_with fail
      go_ret3
      exact ⟨by rw [HE.out]; rfl, rfl⟩
  · have HE := hidden (numD_e (lim := lim) HD.out he)
    have hdd : (e != 0) = true := by simpa using he
    clear he hbd
    go_enter Tryz.func205, Tryz.ntmps205
    go_wp2_with fail
    refine HDC.out.mono ?_
    rintro e w2 ⟨rfl, rfl⟩
    go_wp2_with fail
    go_ret3
    exact ⟨by rw [HE.out]; rfl, rfl⟩
def exnD (b : List UInt8) (p : Int) : Int × Int × Int × Int :=
  if (dcd b p).2.2 ≠ 0 then (0, 0, 0, (dcd b p).2.2) else
  if (dcd b (dcd b p).2.1).2.2 ≠ 0 then (0, 0, 0, (dcd b (dcd b p).2.1).2.2) else
  ((dcd b p).1, (dcd b (dcd b p).2.1).1, (dcd b (dcd b p).2.1).2.1, 0)
theorem exnD_e1 {b : List UInt8} {p x q e : Int} (h : dcd b p = (x, q, e)) (he : e ≠ 0) : exnD b p = (0, 0, 0, e) := by unfold exnD; rw [h]; simp only []; rw [if_pos he]
theorem exnD_e2 {b : List UInt8} {p x q y r e : Int} (h : dcd b p = (x, q, 0)) (h2 : dcd b q = (y, r, e)) (he : e ≠ 0) : exnD b p = (0, 0, 0, e) := by unfold exnD; rw [h]; simp only []; rw [if_neg (by simp), h2]; simp only []; rw [if_pos he]
theorem exnD_ok {b : List UInt8} {p x q y r : Int} (h : dcd b p = (x, q, 0)) (h2 : dcd b q = (y, r, 0)) : exnD b p = (x, y, r, 0) := by unfold exnD; rw [h]; simp only []; rw [if_neg (by simp), h2]; simp only []; rw [if_neg (by simp)]
theorem excD_exn {b : List UInt8} {w k : Nat} {p i h q e : Int} {d : List Nat} (hx : exnD b p = (i, h, q, e)) : excD b w (k + 1) p d = if e ≠ 0 then ([], 0, e) else excD b w k q (putD d i h w) := by
  unfold exnD at hx
  rw [excD]
  by_cases h1 : (dcd b p).2.2 ≠ 0
  · rw [if_pos h1] at hx ⊢
    simp only [Prod.mk.injEq] at hx
    obtain ⟨rfl, rfl, rfl, rfl⟩ := hx
    rw [if_pos h1]
  · rw [if_neg h1] at hx ⊢
    by_cases h2 : (dcd b (dcd b p).2.1).2.2 ≠ 0
    · rw [if_pos h2] at hx ⊢
      simp only [Prod.mk.injEq] at hx
      obtain ⟨rfl, rfl, rfl, rfl⟩ := hx
      rw [if_pos h2]
    · rw [if_neg h2] at hx ⊢
      simp only [Prod.mk.injEq] at hx
      obtain ⟨rfl, rfl, rfl, rfl⟩ := hx
      rw [if_neg (by simp)]
theorem exnD_bd {b : List UInt8} {p i h q e : Int} (hp0 : 0 ≤ p) (hp1 : p ≤ (b.length : Int)) (hx : exnD b p = (i, h, q, e)) : (0 ≤ i ∧ i ≤ 18446744073709551615) ∧ (0 ≤ h ∧ h ≤ 18446744073709551615) ∧ (e = 0 → p ≤ q ∧ q ≤ (b.length : Int)) := by
  obtain ⟨x, r, f, hd⟩ : ∃ x r f, dcd b p = (x, r, f) := ⟨_, _, _, rfl⟩
  have b1 := dcd_bd2 hd
  by_cases hf : f = 0
  · subst hf
    obtain ⟨y, s, g, hd2⟩ : ∃ y s g, dcd b r = (y, s, g) := ⟨_, _, _, rfl⟩
    have b2 := dcd_bd2 hd2
    by_cases hg : g = 0
    · subst hg
      rw [exnD_ok hd hd2] at hx
      simp only [Prod.mk.injEq] at hx
      obtain ⟨rfl, rfl, rfl, rfl⟩ := hx
      have c1 := b1.2.2.1 rfl
      have c2 := b2.2.2.1 rfl
      exact ⟨⟨b1.1, b1.2.1⟩, ⟨b2.1, b2.2.1⟩, fun _ => ⟨by omega, by omega⟩⟩
    · rw [exnD_e2 hd hd2 hg] at hx
      simp only [Prod.mk.injEq] at hx
      obtain ⟨rfl, rfl, rfl, rfl⟩ := hx
      exact ⟨by decide, by decide, fun h => absurd h hg⟩
  · rw [exnD_e1 hd hf] at hx
    simp only [Prod.mk.injEq] at hx
    obtain ⟨rfl, rfl, rfl, rfl⟩ := hx
    exact ⟨by decide, by decide, fun h => absurd h hf⟩
theorem sizeEx : (Tryz.prog.info? 176).map (·.size) = some 2 := by kernel_rfl
theorem sizeFr : (Tryz.prog.info? 172).map (·.size) = some 4 := by kernel_rfl
theorem results_ex3 {fn : Func} {p q r : Tmp} (h : fn.results = #[.cell p 176, .tmp q, .tmp r]) (tmps : Array Value) (w : World) (g : Nat) (n v x y : Value) (hp : tmps.getD p undef = .pointer (some ⟨g, 0, none⟩)) (hg : Row w g 176 [n, v])
    (hx : tmps.getD q undef = x) (hy : tmps.getD r undef = y) : (results fn tmps).run Tryz.prog w = .ok (.tuple #[.agg #[n, v], x, y]) w := by
  have hp' : tmps[p]?.getD undef = .pointer (some ⟨g, 0, none⟩) := by simpa using hp
  have hx' : tmps[q]?.getD undef = x := by simpa using hx
  have hy' : tmps[r]?.getD undef = y := by simpa using hy
  simp [results, h, hp', hx', hy', asAddr, run_loadVar_row w g 176 176 #[n, v] (0, 0) _ hg Tryz.underlying176 rfl sizeEx]
theorem results_fr3 {fn : Func} {p q r : Tmp} (h : fn.results = #[.cell p 172, .tmp q, .tmp r]) (tmps : Array Value) (w : World) (g : Nat) (a b c d x y : Value) (hp : tmps.getD p undef = .pointer (some ⟨g, 0, none⟩)) (hg : Row w g 172 [a, b, c, d])
    (hx : tmps.getD q undef = x) (hy : tmps.getD r undef = y) : (results fn tmps).run Tryz.prog w = .ok (.tuple #[.agg #[a, b, c, d], x, y]) w := by
  have hp' : tmps[p]?.getD undef = .pointer (some ⟨g, 0, none⟩) := by simpa using hp
  have hx' : tmps[q]?.getD undef = x := by simpa using hx
  have hy' : tmps[r]?.getD undef = y := by simpa using hy
  simp [results, h, hp', hx', hy', asAddr, run_loadVar_row w g 172 172 #[a, b, c, d] (0, 0) _ hg Tryz.underlying172 rfl sizeFr]
set_option maxHeartbeats 2000000 in
theorem readException_any (A : Option Addr) (c : Nat) (b : List UInt8) (o : Int) (w : World) (hb : IsBytes w (.slice A b.length c) b) (hl : b.length ≤ 1048576) (h63 : -9223372036854775808 ≤ o) (h64 : o ≤ 9223372036854775807) :
    Calls Tryz.prog 154 #[.slice A b.length c, .int .i64 o] w fun e w' => e = .returned (.tuple #[.agg #[.int .u64 (exnD b o).1, .int .u64 (exnD b o).2.1], .int .i64 (exnD b o).2.2.1, .int .i64 (exnD b o).2.2.2]) ∧ Grows w w' := by
  have HG := hidden (show Grows w (w.alloc (.cells #[.int .u64 0, .int .u64 0] 176)) from (Below.refl _ _).alloc (Nat.le_refl _) _)
  have HR := hidden (Row.new w 176 #[.int .u64 0, .int .u64 0] [.int .u64 0, .int .u64 0] rfl)
  have HRW : Hid ((w.alloc (.cells #[.int .u64 0, .int .u64 0] 176)).heap[w.heap.size]? = some (.cells #[.int .u64 0, .int .u64 0] 176 (0, 0))) := HR.out
  have HDC := hidden (fun o w' hv' h63 h64 => decode_any (.slice A b.length c) b o w' hv' (by unfold maxLen; omega) h63 h64)
  have HV := hidden hb
  obtain ⟨x, q, e, hd⟩ : ∃ x q e, dcd b o = (x, q, e) := ⟨_, _, _, rfl⟩
  have hbd := dcd_bd2 hd
  have HC1 := hidden (HDC.out o _ (HV.out.grow HG.out) h63 h64)
  rw [hd] at HC1
  have HD := hidden hd
  clear hd hb
  by_cases he : e = 0
  · subst he
    obtain ⟨a1, a2, a3⟩ := hbd.2.2.1 rfl
    obtain ⟨y, r, f, hd2⟩ : ∃ y r f, dcd b q = (y, r, f) := ⟨_, _, _, rfl⟩
    have HC2 := hidden (HDC.out q _ (HV.out.grow HG.out) (by omega) (by omega))
    rw [hd2] at HC2
    have HD2 := hidden hd2
    clear hd2 hbd
    by_cases hf : f = 0
    · subst hf
      have HE := hidden (exnD_ok HD.out HD2.out)
      have HRS := hidden (Row.setRow_ HR.out [.int .u64 x, .int .u64 y] rfl)
      go_enter Tryz.func154, Tryz.ntmps154
      go_wp2_with fail
      refine HC1.out.mono ?_
      rintro e w2 ⟨rfl, rfl⟩
      go_wp2_with fail
      refine HC2.out.mono ?_
      rintro e w2 ⟨rfl, rfl⟩
      go_wp2_with (refine wpList_store_row rfl _ _ _ rfl _ #[.int .u64 x, .int .u64 y] rfl rfl _ _ HRW.out sizeEx rfl (by simp [Value.oneCell']) ?_)
      exact bodyPost_ret (results_ex3 rfl _ _ _ _ _ (.int .i64 r) (.int .i64 0) rfl HRS.out rfl rfl) rfl ⟨by rw [HE.out], below_setRow HG.out (Nat.le_refl _) _⟩
    · have HE := hidden (exnD_e2 HD.out HD2.out hf)
      have hdd : (f != 0) = true := by simpa using hf
      have HRS := hidden (Row.setRow_ HR.out [.int .u64 0, .int .u64 0] rfl)
      clear hf
      go_enter Tryz.func154, Tryz.ntmps154
      go_wp2_with fail
      refine HC1.out.mono ?_
      rintro e w2 ⟨rfl, rfl⟩
      go_wp2_with fail
      refine HC2.out.mono ?_
      rintro e w2 ⟨rfl, rfl⟩
      go_wp2_with (refine wpList_store_row rfl _ _ _ rfl _ #[.int .u64 0, .int .u64 0] rfl rfl _ _ HRW.out sizeEx rfl (by simp [Value.oneCell']) ?_)
      exact bodyPost_ret (results_ex3 rfl _ _ _ _ _ (.int .i64 0) (.int .i64 f) rfl HRS.out rfl rfl) rfl ⟨by rw [HE.out], below_setRow HG.out (Nat.le_refl _) _⟩
  · have HE := hidden (exnD_e1 HD.out he)
    have hdd : (e != 0) = true := by simpa using he
    have HRS := hidden (Row.setRow_ HR.out [.int .u64 0, .int .u64 0] rfl)
    clear he hbd
    go_enter Tryz.func154, Tryz.ntmps154
    go_wp2_with fail
    refine HC1.out.mono ?_
    rintro e' w2 ⟨rfl, rfl⟩
    go_wp2_with (refine wpList_store_row rfl _ _ _ rfl _ #[.int .u64 0, .int .u64 0] rfl rfl _ _ HRW.out sizeEx rfl (by simp [Value.oneCell']) ?_)
    exact bodyPost_ret (results_ex3 rfl _ _ _ _ _ (.int .i64 0) (.int .i64 e) rfl HRS.out rfl rfl) rfl ⟨by rw [HE.out], below_setRow HG.out (Nat.le_refl _) _⟩
theorem bytesEqual_any (va vb : Value) (la lb : List UInt8) (w : World) (ha : IsBytes w va la) (hb : IsBytes w vb lb) :
    Calls Tryz.prog 155 #[va, vb] w fun e w' => e = .returned (.bool (decide (la = lb))) ∧ w = w' := by
  have hr1 := run_string_bytes (P := Tryz.prog) ha 29 5 Tryz.underlying29 Tryz.underlying5 9 Tryz.underlying9
  have hr2 := run_string_bytes (P := Tryz.prog) hb 29 5 Tryz.underlying29 Tryz.underlying5 9 Tryz.underlying9
  have HE := hidden (show ((strOf la).toList == (strOf lb).toList) = decide (la = lb) by
    have e : ∀ l, (strOf l).toList = l := fun l => by rw [ByteArray.toList_eq]; rfl
    rw [e, e, Bool.eq_iff_iff, beq_iff_eq, decide_eq_true_eq])
  go_enter Tryz.func155, Tryz.ntmps155
  go_wp2_with fail
  go_ret
  exact ⟨retB (by rw [← HE.out]), rfl⟩
end Go.Proofs.YthmipnokimlbdaaGreat
/-
  Shaken: what the claims of this seat need of this text. No condition.
-/
namespace Go.Proofs.YthmipnokimlbdaaGreat
open Go.RowKit
set_option linter.unusedVariables false
set_option linter.unusedSimpArgs false
def FrR (b : List UInt8) (n : Int) (r : Int × Int × Int × Int × Int) (w : World) (e : Ending) (w' : World) : Prop :=
  Grows w w' ∧ ((r.2.2.2.2 ≠ 0 ∧ e = .returned (.tuple #[.agg #[.int .i64 0, .int .i64 0, .int .i64 0, .slice none 0 0], .int .i64 0, .int .i64 r.2.2.2.2])) ∨
    (r.2.2.2.2 = 0 ∧ ∃ A c, IsBytes w (.slice A (packedD b r.2.2.2.1 n.toNat r.2.1.toNat).length c) (packedD b r.2.2.2.1 n.toNat r.2.1.toNat) ∧
      e = .returned (.tuple #[.agg #[.int .i64 (uz r.1), .int .i64 r.2.1, .int .i64 r.2.2.1, .slice A (packedD b r.2.2.2.1 n.toNat r.2.1.toNat).length c], .int .i64 (r.2.2.2.1 + (szB n.toNat r.2.1.toNat : Nat)), .int .i64 0])))
theorem FrR.err {b : List UInt8} {n : Int} {r : Int × Int × Int × Int × Int} {f : Int} {w w' : World} (h : r = (0, 0, 0, 0, f) ∧ f ≠ 0) (hb : Grows w w') : FrR b n r w (.returned (.tuple #[.agg #[.int .i64 0, .int .i64 0, .int .i64 0, .slice none 0 0], .int .i64 0, .int .i64 f])) w' := by
  obtain ⟨rfl, hf⟩ := h
  exact ⟨hb, .inl ⟨hf, rfl⟩⟩
theorem lszB_65 {n W : Nat} (hn : n ≤ 65536) (hW : W ≤ 64) : szB n W ≤ 600000 := by
  have h5 : n * W ≤ n * 64 := Nat.mul_le_mul_left _ hW
  unfold szB
  omega
def NewF (H : Nat) : Value → World → Prop := fun v w => ∃ b, v = .pointer (some ⟨b, 0, none⟩) ∧ H ≤ b ∧ Row w b 172 [.int .i64 0, .int .i64 0, .int .i64 0, .slice none 0 0]
theorem NewF.lasts {H : Nat} : ∀ v w w', NewF H v w → Grows w w' → NewF H v w' := fun _ _ _ ⟨b, h1, h2, h3⟩ hg => ⟨b, h1, h2, h3.grow hg⟩
theorem numD_bd {b : List UInt8} {o lim x q e : Int} (h : numD b o lim = (x, q, e)) : e = 0 → 0 ≤ x ∧ x ≤ lim ∧ 0 ≤ o ∧ o ≤ q ∧ q ≤ (b.length : Int) := by
  intro he
  subst he
  obtain ⟨y, r, f, hd⟩ : ∃ y r f, dcd b o = (y, r, f) := ⟨_, _, _, rfl⟩
  have hb := dcd_bd2 hd
  by_cases hf : f = 0
  · subst hf
    obtain ⟨a1, a2, a3⟩ := hb.2.2.1 rfl
    by_cases hx : lim < y
    · rw [numD_f hd hx] at h
      simp only [Prod.mk.injEq] at h
      omega
    · rw [numD_ok hd hx] at h
      simp only [Prod.mk.injEq] at h
      obtain ⟨rfl, rfl, _⟩ := h
      exact ⟨hb.1, by omega, a1, a2, a3⟩
  · rw [numD_e hd hf] at h
    simp only [Prod.mk.injEq] at h
    exact absurd h.2.2 hf
set_option maxRecDepth 20000 in
set_option maxHeartbeats 8000000 in
theorem readFrame_any (A : Option Addr) (c : Nat) (b : List UInt8) (o n : Int) (w : World) (hb : IsBytes w (.slice A b.length c) b) (hlc : b.length ≤ c) (hl : b.length ≤ 1048576) (h63 : -9223372036854775808 ≤ o) (h64 : o ≤ 9223372036854775807) :
    Calls Tryz.prog 152 #[.slice A b.length c, .int .i64 o, .int .i64 n] w (FrR b n (frD b o n) w) := by
  have HG := hidden (show Grows w (w.alloc (.cells #[.int .i64 0, .int .i64 0, .int .i64 0, .slice none 0 0] 172)) from (Below.refl _ _).alloc (Nat.le_refl _) _)
  have HR := hidden (Row.new w 172 #[.int .i64 0, .int .i64 0, .int .i64 0, .slice none 0 0] [.int .i64 0, .int .i64 0, .int .i64 0, .slice none 0 0] rfl)
  have HRW : Hid ((w.alloc (.cells #[.int .i64 0, .int .i64 0, .int .i64 0, .slice none 0 0] 172)).heap[w.heap.size]? = some (.cells #[.int .i64 0, .int .i64 0, .int .i64 0, .slice none 0 0] 172 (0, 0))) := HR.out
  have HRS := hidden (Row.setRow_ HR.out [.int .i64 0, .int .i64 0, .int .i64 0, .slice none 0 0] rfl)
  have hs1 := World.size_alloc w (.cells #[.int .i64 0, .int .i64 0, .int .i64 0, .slice none 0 0] 172)
  have HV := hidden (hb.grow HG.out)
  have HV0 := hidden hb
  have HSZ1 := hidden hs1
  clear hb hs1
  by_cases h1 : n < 0
  · have HE := hidden (show frD b o n = (0, 0, 0, 0, 1) ∧ (1 : Int) ≠ 0 from ⟨frD_a (.inl h1), by decide⟩)
    have hd : decide (n < 0) = true := by simpa using h1
    clear h1
    go_enter Tryz.func152, Tryz.ntmps152
    go_wp2_with (refine wpList_store_row rfl _ _ _ rfl _ #[.int .i64 0, .int .i64 0, .int .i64 0, .slice none 0 0] rfl rfl _ _ HRW.out sizeFr rfl (by simp [Value.oneCell']) ?_)
    exact bodyPost_ret (results_fr3 rfl _ _ _ _ _ _ _ (.int .i64 0) (.int .i64 1) rfl HRS.out rfl rfl) rfl (FrR.err HE.out (below_setRow HG.out (Nat.le_refl _) _))
  have d1 : decide (n < 0) = false := by simpa using h1
  by_cases h2 : 65536 < n
  · have HE := hidden (show frD b o n = (0, 0, 0, 0, 1) ∧ (1 : Int) ≠ 0 from ⟨frD_a (.inr h2), by decide⟩)
    have hd : decide (65536 < n) = true := by simpa using h2
    clear h2
    go_enter Tryz.func152, Tryz.ntmps152
    go_wp2_with (refine wpList_store_row rfl _ _ _ rfl _ #[.int .i64 0, .int .i64 0, .int .i64 0, .slice none 0 0] rfl rfl _ _ HRW.out sizeFr rfl (by simp [Value.oneCell']) ?_)
    exact bodyPost_ret (results_fr3 rfl _ _ _ _ _ _ _ (.int .i64 0) (.int .i64 1) rfl HRS.out rfl rfl) rfl (FrR.err HE.out (below_setRow HG.out (Nat.le_refl _) _))
  have d2 : decide (65536 < n) = false := by simpa using h2
  have HN := hidden (show ¬ (n < 0 ∨ 65536 < n) by omega)
  obtain ⟨z, p1, e1, hd1⟩ : ∃ z p1 e1, dcd b o = (z, p1, e1) := ⟨_, _, _, rfl⟩
  have hb1 := dcd_bd2 hd1
  have HC1 := hidden (decode_any (.slice A b.length c) b o _ HV.out (by unfold maxLen; omega) h63 h64)
  rw [hd1] at HC1
  have HD1 := hidden hd1
  clear hd1
  by_cases he1 : e1 = 0
  rotate_left
  · have HE := hidden (show frD b o n = (0, 0, 0, 0, e1) ∧ e1 ≠ 0 from ⟨frD_b HN.out HD1.out he1, he1⟩)
    have hd : (e1 != 0) = true := by simpa using he1
    clear he1 hb1
    go_enter Tryz.func152, Tryz.ntmps152
    go_wp2_with fail
    refine HC1.out.mono ?_
    rintro e' w2 ⟨rfl, rfl⟩
    go_wp2_with (refine wpList_store_row rfl _ _ _ rfl _ #[.int .i64 0, .int .i64 0, .int .i64 0, .slice none 0 0] rfl rfl _ _ HRW.out sizeFr rfl (by simp [Value.oneCell']) ?_)
    exact bodyPost_ret (results_fr3 rfl _ _ _ _ _ _ _ (.int .i64 0) (.int .i64 e1) rfl HRS.out rfl rfl) rfl (FrR.err HE.out (below_setRow HG.out (Nat.le_refl _) _))
  subst he1
  obtain ⟨ha1, ha2, ha3⟩ := hb1.2.2.1 rfl
  have hz0 := hb1.1
  have hz1 := hb1.2.1
  obtain ⟨W, p2, e2, hd2⟩ : ∃ W p2 e2, numD b p1 64 = (W, p2, e2) := ⟨_, _, _, rfl⟩
  have hb2 := numD_bd hd2
  have HC2 := hidden (readNumber_any A c b p1 64 _ HV.out hl (by omega) (by omega) (by omega) (by omega))
  rw [hd2] at HC2
  have HD2 := hidden hd2
  clear hd2 hb1
  by_cases he2 : e2 = 0
  rotate_left
  · have HE := hidden (show frD b o n = (0, 0, 0, 0, e2) ∧ e2 ≠ 0 from ⟨frD_c HN.out HD1.out HD2.out he2, he2⟩)
    have hd : (e2 != 0) = true := by simpa using he2
    clear he2 hb2
    go_enter Tryz.func152, Tryz.ntmps152
    go_wp2_with fail
    refine HC1.out.mono ?_
    rintro e' w2 ⟨rfl, rfl⟩
    go_wp2_with fail
    refine HC2.out.mono ?_
    rintro e' w2 ⟨rfl, rfl⟩
    go_wp2_with (refine wpList_store_row rfl _ _ _ rfl _ #[.int .i64 0, .int .i64 0, .int .i64 0, .slice none 0 0] rfl rfl _ _ HRW.out sizeFr rfl (by simp [Value.oneCell']) ?_)
    exact bodyPost_ret (results_fr3 rfl _ _ _ _ _ _ _ (.int .i64 0) (.int .i64 e2) rfl HRS.out rfl rfl) rfl (FrR.err HE.out (below_setRow HG.out (Nat.le_refl _) _))
  subst he2
  obtain ⟨hw0, hw1, hc1, hc2, hc3⟩ := hb2 rfl
  obtain ⟨m, p3, e3, hd3⟩ : ∃ m p3 e3, numD b p2 n = (m, p3, e3) := ⟨_, _, _, rfl⟩
  have hb3 := numD_bd hd3
  have HC3 := hidden (readNumber_any A c b p2 n _ HV.out hl (by omega) (by omega) (by omega) (by omega))
  rw [hd3] at HC3
  have HD3 := hidden hd3
  clear hd3 hb2
  by_cases he3 : e3 = 0
  rotate_left
  · have HE := hidden (show frD b o n = (0, 0, 0, 0, e3) ∧ e3 ≠ 0 from ⟨frD_e HN.out HD1.out HD2.out HD3.out he3, he3⟩)
    have hd : (e3 != 0) = true := by simpa using he3
    clear he3 hb3
    go_enter Tryz.func152, Tryz.ntmps152
    go_wp2_with fail
    refine HC1.out.mono ?_
    rintro e' w2 ⟨rfl, rfl⟩
    go_wp2_with fail
    refine HC2.out.mono ?_
    rintro e' w2 ⟨rfl, rfl⟩
    go_wp2_with fail
    refine HC3.out.mono ?_
    rintro e' w2 ⟨rfl, rfl⟩
    go_wp2_with (refine wpList_store_row rfl _ _ _ rfl _ #[.int .i64 0, .int .i64 0, .int .i64 0, .slice none 0 0] rfl rfl _ _ HRW.out sizeFr rfl (by simp [Value.oneCell']) ?_)
    exact bodyPost_ret (results_fr3 rfl _ _ _ _ _ _ _ (.int .i64 0) (.int .i64 e3) rfl HRS.out rfl rfl) rfl (FrR.err HE.out (below_setRow HG.out (Nat.le_refl _) _))
  subst he3
  obtain ⟨hm0, hm1, hc4, hc5, hc6⟩ := hb3 rfl
  clear hb3
  obtain ⟨N, rfl⟩ := Int.eq_ofNat_of_zero_le (a := n) (by omega)
  obtain ⟨V, rfl⟩ := Int.eq_ofNat_of_zero_le hw0
  have HSZ := hidden (size_any (N : Int) (V : Int) (w.alloc (.cells #[.int .i64 0, .int .i64 0, .int .i64 0, .slice none 0 0] 172)))
  rw [sizeI_nat (n := N) (m := V) (by omega) (by omega)] at HSZ
  have hsB := lszB_65 (n := N) (W := V) (by omega) (by omega)
  have HFN := hidden (fun h => frD_g (b := b) HN.out HD1.out HD2.out HD3.out h)
  have HFO := hidden (fun h => frD_ok (b := b) HN.out HD1.out HD2.out HD3.out h)
  rw [Int.toNat_natCast, Int.toNat_natCast] at HFN HFO
  obtain ⟨s, hs⟩ : ∃ s, s = szB N V := ⟨_, rfl⟩
  rw [← hs] at HSZ hsB HFN HFO
  have HS := hidden hs
  clear hs
  by_cases h7 : (b.length : Int) - p3 < (s : Int)
  · have HE := hidden (show frD b o (N : Int) = (0, 0, 0, 0, 2) ∧ (2 : Int) ≠ 0 from ⟨HFN.out h7, by decide⟩)
    have hd : decide ((b.length : Int) - p3 < (s : Int)) = true := by simpa using h7
    clear h7
    go_enter Tryz.func152, Tryz.ntmps152
    go_wp2_with fail
    refine HC1.out.mono ?_
    rintro e' w2 ⟨rfl, rfl⟩
    go_wp2_with fail
    refine HC2.out.mono ?_
    rintro e' w2 ⟨rfl, rfl⟩
    go_wp2_with fail
    refine HC3.out.mono ?_
    rintro e' w2 ⟨rfl, rfl⟩
    go_wp2_with fail
    refine HSZ.out.mono ?_
    rintro e' w2 ⟨rfl, rfl⟩
    go_wp2_with (refine wpList_store_row rfl _ _ _ rfl _ #[.int .i64 0, .int .i64 0, .int .i64 0, .slice none 0 0] rfl rfl _ _ HRW.out sizeFr rfl (by simp [Value.oneCell']) ?_)
    exact bodyPost_ret (results_fr3 rfl _ _ _ _ _ _ _ (.int .i64 0) (.int .i64 2) rfl HRS.out rfl rfl) rfl (FrR.err HE.out (below_setRow HG.out (Nat.le_refl _) _))
  have d7 : decide ((b.length : Int) - p3 < (s : Int)) = false := by simpa using h7
  have HF := hidden (HFO.out h7)
  clear HFN HFO
  obtain ⟨P3, rfl⟩ := Int.eq_ofNat_of_zero_le (a := p3) (by omega)
  have hPs : P3 + s ≤ b.length := by omega
  have HPK := hidden (show (b.drop P3).take (P3 + s - P3) = packedD b (P3 : Int) N V by
    unfold packedD
    rw [Int.toNat_natCast, ← HS.out, show P3 + s - P3 = s by omega])
  have HPL := hidden (show (packedD b (P3 : Int) N V).length = s by rw [← HPK.out, List.length_take, List.length_drop]; omega)
  generalize hpkg : packedD b (P3 : Int) N V = pk at *
  have HPKG := hidden hpkg
  have HUZ := hidden (fun w' => unzigzag_any z w' hz0 (by omega))
  have huz := uz_bd z hz0 (by omega)
  have hwE : IntKind.i64.wrap ((P3 : Int) + (s : Int)) = (P3 : Int) + (s : Int) := by rw [IntKind.wrap_i64]; omega
  obtain ⟨AK, hAK, hsa⟩ : ∃ AK, (∀ w', IsBytes w' (.slice A b.length c) b → IsBytes w' (.slice AK s (c - P3)) pk) ∧
      ∀ w', (Instr.sliceAt 29 (.slice A b.length c) (some (.int .i64 (P3 : Int))) (some (.int .i64 ((P3 : Int) + (s : Int)))) none).run Tryz.prog w' = .ok (.slice AK s (c - P3)) w' := by
    refine ⟨if c = P3 then A else Option.map (fun x => x.add P3) A, fun w' hv => ?_, fun w' => ?_⟩
    · have h := slice_reads2 hv (o := P3) (p := P3 + s) (by omega) hPs hlc
      rw [HPK.out, show P3 + s - P3 = s by omega] at h
      exact h
    · have ht : Tryz.prog.underlying 29 = some (.slice (Tryz.prog.elem 29)) := by kernel_rfl
      have hs1 : (sizeOf (Tryz.prog.elem 29)).run Tryz.prog w' = .ok 1 w' := by
        have hi : (Tryz.prog.info? (Tryz.prog.elem 29)).map (·.size) = some 1 := by kernel_rfl
        cases h : Tryz.prog.info? (Tryz.prog.elem 29) with
        | none => rw [h] at hi; cases hi
        | some y =>
          rw [h] at hi
          have h1 : y.size = 1 := by simpa using hi
          simp [sizeOf, typeInfo, h, h1]
      rw [run_sliceAt_slice (P := Tryz.prog) (w := w') 29 (.slice A b.length c) (some (.int .i64 (P3 : Int))) (some (.int .i64 ((P3 : Int) + (s : Int)))) none ht]
      have h := run_slice_lh (P := Tryz.prog) (w := w') 29 A b.length c ht .i64 .i64 (P3 : Int) ((P3 : Int) + (s : Int)) (by omega) (by omega) (by omega)
      rw [h, hs1]
      simp only [Result.andThen_ok, sliced, Int.toNat_natCast, Nat.mul_one, show ((P3 : Int) + (s : Int)).toNat = P3 + s by omega, show P3 + s - P3 = s by omega]
  have HAK := hidden hAK
  clear hAK hpkg h1 h2 h7
  go_enter Tryz.func152, Tryz.ntmps152
  go_wp2_with fail
  refine HC1.out.mono ?_
  rintro e' w2 ⟨rfl, rfl⟩
  go_wp2_with fail
  refine HC2.out.mono ?_
  rintro e' w2 ⟨rfl, rfl⟩
  go_wp2_with fail
  refine HC3.out.mono ?_
  rintro e' w2 ⟨rfl, rfl⟩
  go_wp2_with fail
  refine HSZ.out.mono ?_
  rintro e' w2 ⟨rfl, rfl⟩
  go_wp2_with fail
  generalize w.alloc (.cells #[.int .i64 0, .int .i64 0, .int .i64 0, .slice none 0 0] 172) = w1 at *
  refine wp_region_loose_tail 12 (tabRs [(1, ConstV (.int .i64 (uz z))), (11, NewF w1.heap.size)]) (by kernel_rfl) (by kernel_rfl) (tabRs_cons ConstV.lasts (tabRs_cons NewF.lasts tabRs_nil)) ?_
  simp only [List.take_succ_cons, List.take_zero, List.drop_succ_cons, List.drop_zero]
  iterate 1 ((with_reducible refine loose_one (v := ?_) (a' := ?_) ?_ ?_ (fun w' hC' hG' => ?_) ?_ ?_); rotate_left 2; (focus rfl); (focus rfl); (focus (clear hC' hG'; go_simp; rfl)); (focus (go_simp; rfl)))
  refine loose_call (R := ConstV (.int .i64 (uz z))) (f := 198) (args := #[.int .u64 z]) (by rfl) (by rfl) (fun _ => by go_simp) (fun w' hC' hG' => const_loose0 (HUZ.out w')) ?_
  rintro _ ⟨_, _, rfl⟩
  refine ⟨?_, ?_, ?_⟩
  rotate_left
  · go_simp
    rfl
  iterate 9 ((with_reducible refine loose_one (v := ?_) (a' := ?_) ?_ ?_ (fun w' hC' hG' => ?_) ?_ ?_); rotate_left 2; (focus rfl); (focus rfl); (focus (clear hC' hG'; go_simp; rfl)); (focus (go_simp; rfl)))
  refine loose_new (R := NewF w1.heap.size) (by rfl) (by rfl) (fun w' hC' hG' => ?_) ?_
  · exact ⟨.pointer (some ⟨w'.heap.size, 0, none⟩), w'.alloc (.cells #[.int .i64 0, .int .i64 0, .int .i64 0, .slice none 0 0] 172), by first | rfl | go_simp, (Below.refl _ _).alloc (Nat.le_refl _) _, w'.heap.size, rfl, hC'.size, Row.new w' 172 #[.int .i64 0, .int .i64 0, .int .i64 0, .slice none 0 0] [.int .i64 0, .int .i64 0, .int .i64 0, .slice none 0 0] rfl⟩
  rintro _ ⟨_, _, b11, rfl, hb11, _⟩
  refine ⟨?_, ?_, ?_⟩
  rotate_left
  · go_simp
    rfl
  refine loose_done (fun w7 hC' hG' => ?_)
  obtain ⟨b12, hbe, hb12, hrow⟩ := (hG' 11).2 rfl
  clear hG'
  have hbb : b12 = b11 := by injection hbe with hbe; injection hbe with hbe; injection hbe with hbe; exact hbe.symm
  rw [hbb] at hrow
  clear hbb hbe hb12
  have hbw : w.heap.size < b11 := by have := HSZ1.out; omega
  have HROW : Hid (w7.heap[b11]? = some (.cells #[.int .i64 0, .int .i64 0, .int .i64 0, .slice none 0 0] 172 (0, 0))) := hrow
  have hrow8 := Row.setRow_ hrow [.int .i64 (uz z), .int .i64 (V : Int), .int .i64 m, .slice AK s (c - P3)] rfl
  have HROW8 : Hid ((w7.setRow b11 #[.int .i64 (uz z), .int .i64 (V : Int), .int .i64 m, .slice AK s (c - P3)]).heap[b11]? = some (.cells #[.int .i64 (uz z), .int .i64 (V : Int), .int .i64 m, .slice AK s (c - P3)] 172 (0, 0))) := hrow8
  have HG8 := hidden (below_setRow (Grows.of_below HG.out hC') (show w.heap.size ≤ b11 by omega) #[.int .i64 (uz z), .int .i64 (V : Int), .int .i64 m, .slice AK s (c - P3)])
  have hr8 : Row (w7.setRow b11 #[.int .i64 (uz z), .int .i64 (V : Int), .int .i64 m, .slice AK s (c - P3)]) w.heap.size 172 [.int .i64 0, .int .i64 0, .int .i64 0, .slice none 0 0] := by
    have h := Row.grow HR.out hC'
    unfold Row at h ⊢
    rw [setRow_other _ _ _ _ (by omega)]
    exact h
  have HRW8 : Hid ((w7.setRow b11 #[.int .i64 (uz z), .int .i64 (V : Int), .int .i64 m, .slice AK s (c - P3)]).heap[w.heap.size]? = some (.cells #[.int .i64 0, .int .i64 0, .int .i64 0, .slice none 0 0] 172 (0, 0))) := hr8
  have HRS8 := hidden (Row.setRow_ hr8 [.int .i64 (uz z), .int .i64 (V : Int), .int .i64 m, .slice AK s (c - P3)] rfl)
  clear hC' hr8 hrow hrow8 hb11
  refine wpList_store_row rfl _ _ _ rfl b11 #[.int .i64 (uz z), .int .i64 (V : Int), .int .i64 m, .slice AK s (c - P3)] rfl rfl _ _ HROW.out sizeFr rfl (by simp [Value.oneCell']) ?_
  go_wp2_with (first | refine wpList_load_row rfl _ _ rfl _ rfl _ _ _ _ HROW8.out Tryz.underlying172 rfl sizeFr ?_ | refine wpList_store_row rfl _ _ _ rfl w.heap.size #[.int .i64 (uz z), .int .i64 (V : Int), .int .i64 m, .slice AK s (c - P3)] rfl rfl _ _ HRW8.out sizeFr rfl (by simp [Value.oneCell']) ?_)
  refine bodyPost_ret (results_fr3 rfl _ _ _ _ _ _ _ (.int .i64 ((P3 : Int) + (s : Int))) (.int .i64 0) rfl HRS8.out rfl rfl) rfl ?_
  unfold FrR
  rw [HF.out]
  simp only [Int.toNat_natCast]
  have hbs := below_setRow HG8.out (Nat.le_refl _) #[.int .i64 (uz z), .int .i64 (V : Int), .int .i64 m, .slice AK s (c - P3)]
  refine ⟨hbs, .inr ⟨trivial, AK, c - P3, ?_, ?_⟩⟩
  · rw [HPKG.out, HPL.out]
    exact HAK.out _ HV0.out
  · rw [HPKG.out, HPL.out, ← HS.out]
end Go.Proofs.YthmipnokimlbdaaGreat
