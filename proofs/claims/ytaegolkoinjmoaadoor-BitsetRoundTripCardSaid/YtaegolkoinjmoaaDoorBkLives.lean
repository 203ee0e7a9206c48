/-
  The law's 'lives': its sample results come out true in every world; nothing that was there is changed.
-/
import Derived.Test.YtaegolkoinjmoaaDoorBk
import Derived.Lib.SlBytesConst
namespace Go.Proofs.YtaegolkoinjmoaaDoor
open Go.RowKit Go.Shelf
set_option linter.unusedVariables false
set_option linter.unusedSimpArgs false

def liveF : Nat → Bool := inL [1, 3, 9]
theorem liveF_mem {i : Nat} (h : i < 5) : mem 5 (pack 5 liveF) i = liveF i := by rw [mem_pack]; simp [h]
theorem runs_congr {f g : Nat → Bool} {n : Nat} (h : ∀ i, i < n → f i = g i) : runs f n = runs g n := by
  have key : ∀ k, k ≤ n → rst f k = rst g k := by
    intro k
    induction k with
    | zero => intro _; rfl
    | succ k ih => intro hk; simp only [rst, ih (by omega), h k (by omega)]
  unfold runs
  rw [key n (Nat.le_refl _)]
theorem encS_congr {f g : Nat → Bool} {n : Nat} (h : ∀ i, i < n → f i = g i) : encS n f = encS n g := by unfold encS; rw [runs_congr h]
theorem live_enc : encS 5 (mem 5 (pack 5 liveF)) = [5, 1, 1, 1, 1, 1] := by
  rw [encS_congr (g := liveF) (fun i hi => liveF_mem hi)]
  decide
theorem live_dec1 : decS [2, 0, 2, 7] 0 = (2, [true, true], 3, 0) := by decide
theorem live_dec2 : decS [2, 0, 0] 0 = (0, [], 0, 4) := by decide
theorem live_elems : elems (mem 5 (pack 5 liveF)) 5 = [1, 3] := by
  rw [elems_congr (g := liveF) (fun i hi => liveF_mem hi)]
  decide
theorem live_count : cnt (mem 5 (pack 5 liveF)) 5 = 2 := by rw [← elems_length, live_elems]; rfl
theorem live_count2 : cnt (mem 2 (pack 2 (bitAt [true, true]))) 2 = 2 := by
  rw [cnt_congr (g := bitAt [true, true]) (fun i hi => by rw [mem_pack]; simp [hi])]
  decide
theorem live_rank : rankI 5 (mem 5 (pack 5 liveF)) 3 = 1 := by
  show cnt _ (min 5 3) = 1
  rw [cnt_congr (g := liveF) (fun i hi => liveF_mem (by omega))]
  decide
theorem live_sel1 : selI 5 (mem 5 (pack 5 liveF)) 1 = 3 := by unfold selI; rw [live_elems]; decide
theorem live_sel2 : selI 5 (mem 5 (pack 5 liveF)) 2 = -1 := by unfold selI; rw [live_elems]; decide
theorem live_mem1 : memI 5 (pack 5 liveF) 1 = true := by show (decide ((0 : Int) ≤ 1) && mem 5 (pack 5 liveF) 1) = true; rw [liveF_mem (by omega)]; decide
theorem live_mem0 : memI 5 (pack 5 liveF) 0 = false := by show (decide ((0 : Int) ≤ 0) && mem 5 (pack 5 liveF) 0) = false; rw [liveF_mem (by omega)]; decide
theorem live_valid : validI 5 (pack 5 liveF) = true := validI_t ⟨by decide, by decide, okW_pack 5 liveF⟩
theorem live_invalid : validI 1 [] = false := validI_f (fun h => by have := h.2.2.1; simp [nw] at this)
def sumW (l : List Nat) : Int := l.foldl (fun (a : Int) (x : Nat) => wrap64 (a + (x : Int))) 0
theorem sumW_snoc (l : List Nat) (x : Nat) : sumW (l ++ [x]) = wrap64 (sumW l + (x : Int)) := by simp [sumW, List.foldl_append]
theorem live_sum : sumW [1, 3] = 4 := by simp [sumW, wrap64]

theorem field_n (n : Int) (v : Value) (w : World) : (Instr.field 26 (.agg #[.int .i64 n, v]) 0).run Tryd.prog w = .ok (.int .i64 n) w := by
  simp [Instr.field, run_underlying Tryd.underlying26, part, Tryd.isAgg3, asAgg]

attribute [local go_sem] Oper.semAt_some
set_option maxRecDepth 100000 in
set_option maxHeartbeats 4000000 in
theorem lives_any (w : World) (hT : Tab w) : Calls Tryd.prog 10 #[] w fun e w' => e = .returned (.bool true) ∧ Grows w w' := by
  have HT := hidden hT
  clear hT
  refine (callsIn_wide (n := 51)).1 ?_
  refine callsIn_of_wp_marks Tryd.func10 rfl trivial ?_ rfl
  simp only [Tryd.ntmps10, List.size_toArray, List.length_nil, Nat.reduceSub, Array.replicate_succ, Array.replicate_zero, List.push_toArray, List.append_toArray, List.nil_append, List.cons_append]
  have hG0 : Grows w (w.alloc (.cells #[.int .i64 1, .int .i64 3, .int .i64 9] 3)) := (Below.refl _ _).alloc (Nat.le_refl _) _
  have HG0 := hidden hG0
  have HL := hidden (Reads.of_row (Row.new w 3 #[.int .i64 1, .int .i64 3, .int .i64 9] (icells [1, 3, 9]) rfl) 3 3 rfl (Nat.le_refl _))
  clear hG0
  gi_wp2_with fail
  refine ⟨trivial, (callsIn_wide.2 (ck_of 5 _ [1, 3, 9] _ HL.out (by simp) (by simp) (by omega) (by omega))).mono ?_⟩
  rintro e w1 ⟨s, rfl, hs, g1⟩
  have hs' : IsSet w1 s 5 (pack 5 liveF) := hs
  have HS := hidden hs'
  obtain ⟨v, rfl, hr, _, _⟩ := hs'
  obtain ⟨A, d, rfl, _⟩ := hr.slice_
  have HG1 := hidden (Grows.of_below HG0.out g1)
  clear hs hr g1
  generalize (ucells (pack 5 liveF)).length = L at *
  -- s in its variable
  have HRS := hidden (Row.new w1 26 #[.int .i64 5, .slice A L d] [.int .i64 5, .slice A L d] rfl)
  have HGS := hidden (HG1.out.alloc HG1.out.size (.cells #[.int .i64 5, .slice A L d] 26))
  have HG1S := hidden (show Grows w1 (w1.alloc (.cells #[.int .i64 5, .slice A L d] 26)) from (Below.refl _ _).alloc (Nat.le_refl _) _)
  gi_wp2_with fail
  refine ⟨trivial, (callsIn_wide.2 (ck_encode _ 5 _ _ (HS.out.grow HG1S.out) (okW_pack 5 liveF) (HT.out.grow HGS.out))).mono ?_⟩
  rintro e w2 ⟨v2, rfl, hown2, g2⟩
  rw [live_enc] at hown2
  have HV2 := hidden (IsBytes.of_own hown2)
  have HR2 := hidden (HRS.out.grow g2)
  have HG2 := hidden (Grows.of_below HGS.out g2)
  have HS2 := hidden ((HS.out.grow HG1S.out).grow g2)
  clear hown2 g2
  have HD1 := hidden (IsBytes.of_row (Row.new w2 5 #[.int .u8 2, .int .u8 0, .int .u8 2, .int .u8 7] (bcells [2, 0, 2, 7]) rfl) 4 4 rfl)
  have HGD1 := hidden (show Grows w2 (w2.alloc (.cells #[.int .u8 2, .int .u8 0, .int .u8 2, .int .u8 7] 5)) from (Below.refl _ _).alloc (Nat.le_refl _) _)
  gi_wp2_with fail
  refine ⟨trivial, (callsIn_wide.2 (ck_decode _ [2, 0, 2, 7] 0 _ HD1.out (by simp) (by omega) (by omega))).mono ?_⟩
  rintro e w3 ⟨s3, rfl, hs3, g3⟩
  rw [live_dec1] at hs3 ⊢
  have HS3 := hidden hs3
  obtain ⟨v3, rfl, hr3, _, _⟩ := hs3
  obtain ⟨A3, d3, rfl, _⟩ := hr3.slice_
  have g3' := Grows.of_below HGD1.out g3
  have HG3 := hidden (Grows.of_below HG2.out g3')
  have HR3 := hidden (HR2.out.grow g3')
  have HV3 := hidden (HV2.out.grow g3')
  have HSS3 := hidden (HS2.out.grow g3')
  clear hr3 g3 g3'
  generalize (ucells (pack 2 (bitAt [true, true]))).length = L3 at *
  have HRT := hidden (Row.new w3 26 #[.int .i64 2, .slice A3 L3 d3] [.int .i64 2, .slice A3 L3 d3] rfl)
  have HGT := hidden (show Grows w3 (w3.alloc (.cells #[.int .i64 2, .slice A3 L3 d3] 26)) from (Below.refl _ _).alloc (Nat.le_refl _) _)
  have HD2 := hidden (IsBytes.of_row (Row.at_ (w3.alloc (.cells #[.int .i64 2, .slice A3 L3 d3] 26)) 5 #[.int .u8 2, .int .u8 0, .int .u8 0] (bcells [2, 0, 0]) rfl (w3.heap.size + 1) (by simp)) 3 3 rfl)
  have HGD2 := hidden (show Grows (w3.alloc (.cells #[.int .i64 2, .slice A3 L3 d3] 26)) ((w3.alloc (.cells #[.int .i64 2, .slice A3 L3 d3] 26)).alloc (.cells #[.int .u8 2, .int .u8 0, .int .u8 0] 5)) from (Below.refl _ _).alloc (Nat.le_refl _) _)
  gi_wp2_with fail
  refine ⟨trivial, (callsIn_wide.2 (ck_decode _ [2, 0, 0] 0 _ HD2.out (by simp) (by omega) (by omega))).mono ?_⟩
  rintro e w4 ⟨s4, rfl, hs4, g4⟩
  rw [live_dec2] at hs4 ⊢
  obtain ⟨v4, rfl, hr4, _, _⟩ := hs4
  obtain ⟨A4, d4, rfl, _⟩ := hr4.slice_
  have g4a := Grows.of_below HGD2.out g4
  have g4b := Grows.of_below HGT.out g4a
  have HG4 := hidden (Grows.of_below HG3.out g4b)
  have HR4 := hidden (HR3.out.grow g4b)
  have HV4 := hidden (HV3.out.grow g4b)
  have HSS4 := hidden (HSS3.out.grow g4b)
  have HST4 := hidden (HS3.out.grow g4b)
  have HRT4 := hidden (HRT.out.grow g4a)
  clear hr4 g4 g4a g4b
  generalize (ucells (pack 0 (bitAt []))).length = L4 at *
  have g5 : Grows w4 (w4.alloc (.cells #[.int .i64 0, .slice A4 L4 d4] 26)) := (Below.refl _ _).alloc (Nat.le_refl _) _
  have g6 : Grows w4 ((w4.alloc (.cells #[.int .i64 0, .slice A4 L4 d4] 26)).alloc (.cells #[.int .i64 0] 3)) := g5.alloc g5.size _
  have HBX := hidden (Boxed.new (w4.alloc (.cells #[.int .i64 0, .slice A4 L4 d4] 26)) 3 (.int .i64 0))
  have r5 := HR4.out.grow g6
  have hc0 := r5.cell 0
  have hc1 := r5.cell 1
  simp only [List.getElem?_cons_zero, List.getElem?_cons_succ] at hc0 hc1
  have HG5 := hidden (show Grows (w4.alloc (.cells #[.int .i64 0, .slice A4 L4 d4] 26)) ((w4.alloc (.cells #[.int .i64 0, .slice A4 L4 d4] 26)).alloc (.cells #[.int .i64 0] 3)) from (Below.refl _ _).alloc (Nat.le_refl _) _)
  have HSS5 := hidden (HSS4.out.grow g5)
  have HG6 := hidden g6
  clear g5 g6 r5
  gi_wp2_with fail
  refine ⟨trivial, (callsIn_wide.2 (ck_all _ 5 _ _ (w4.heap.size + 1) (HSS5.out.grow HG5.out) (okW_pack 5 liveF) (HT.out.grow (Grows.of_below HG4.out HG6.out)) (by omega) (by simp))).mono ?_⟩
  rintro e w5 ⟨gf, lb, rfl, g5, hent, hseq⟩
  have hbx5 := hidden (show Boxed w5 (w4.heap.size + 1) 3 (.int .i64 0) from by
    have h := HBX.out
    rw [World.size_alloc] at h
    exact (g5.block _ (by simp)).trans h)
  rw [live_elems] at hseq
  have HSEQ := hidden (hseq w5 (Below.refl _ _))
  have HENT := hidden hent
  have hsz : w4.heap.size + 2 ≤ w5.heap.size := by have := g5.size; simpa using this
  have g45 := Grows.of_below HG6.out g5
  have HG7 := hidden (Grows.of_below HG4.out g45)
  have HG45 := hidden g45
  have HR5 := hidden (HR4.out.grow g45)
  have HV5 := hidden (HV4.out.grow g45)
  have HSS6 := hidden (HSS4.out.grow g45)
  have HST5 := hidden (HST4.out.grow g45)
  have HRT5 := hidden (HRT4.out.grow g45)
  have hwz : w.heap.size ≤ w4.heap.size := HG4.out.size
  have hfn := eql_func_nil (.func gf) #[] lb
  clear g5 g45 hent hseq hc0 hc1
  gi_wp2_with fail
  clear hfn
  apply wpIn_rangeAll (w := w5) (P := Tryd.prog) (n := 51) (gf := gf) (lb := lb) (xs := [1, 3]) (N := 64 * nw 5) (H := w5.heap.size) (B := w4.heap.size + 1) (w0 := w5) rfl HENT.out HSEQ.out (Below.refl _ _) (Nat.le_refl _) rfl
    (fun pre W => Boxed W (w4.heap.size + 1) 3 (.int .i64 (sumW pre)) ∧ BelowBut w5.heap.size (w4.heap.size + 1) w5 W)
    (OwnFrom.and (Own.from (boxed_own (w4.heap.size + 1) 3 (fun pre : List Nat => .int .i64 (sumW pre))) _) (ownFrom_belowBut (Nat.le_refl _) (by omega)))
    ⟨hbx5.out, BelowBut.refl _ _ _⟩
  case hassign =>
    intro l x W K hK
    gi_wp2
    exact hK
  case hbody =>
    rintro l pre x W ⟨hv, hB⟩ hlt
    have hc := hv.cell
    have hf := hv.frozen
    gi_wp2
    exact ⟨rfl, (KeepsOthers.setCell _ _ _).from _, (BelowBut.refl _ _ _).setCell (p := ⟨w4.heap.size + 1, 0, none⟩) rfl _, Ones.setCell (by omega) _, by rw [sumW_snoc]; exact hv.set _, hB.setCell (p := ⟨w4.heap.size + 1, 0, none⟩) rfl _⟩
  case hdone =>
    rintro D W hD ⟨hv, hB⟩ hK
    have gW := hB.below (show Below w4.heap.size w4 w5 from HG45.out) (by omega) (by omega)
    have hv' := hv
    rw [live_sum] at hv'
    have HK := hidden hK
    have HX : Hid (∀ X, Grows W X → X.cell? ⟨w1.heap.size, 0, none⟩ = some (.int .i64 5) ∧ X.cell? ⟨w1.heap.size, 1, none⟩ = some (.slice A L d) ∧ X.cell? ⟨w3.heap.size, 0, none⟩ = some (.int .i64 2) ∧ X.cell? ⟨w3.heap.size, 1, none⟩ = some (.slice A3 L3 d3) ∧
        X.cell? ⟨w4.heap.size + 1, 0, none⟩ = some (.int .i64 4) ∧ IsSet X (.agg #[.int .i64 5, .slice A L d]) 5 (pack 5 liveF) ∧ IsSet X (.agg #[.int .i64 2, .slice A3 L3 d3]) 2 (pack 2 (bitAt [true, true])) ∧
        (convert 41 9 v2).run Tryd.prog X = .ok (.string ⟨#[5, 1, 1, 1, 1, 1]⟩) X ∧ Hid (Tab X)) := by
      intro X g
      have g4 : Grows w4 X := gW.trans (g.mono gW.size)
      have r1 := HR4.out.grow g4
      have r2 := HRT4.out.grow g4
      refine ⟨r1.cell 0, r1.cell 1, r2.cell 0, r2.cell 1, ?_, HSS4.out.grow g4, HST4.out.grow g4, run_string_bytes (HV4.out.grow g4) _ _ Tryd.underlying41 Tryd.underlying5 _ Tryd.underlying9, hidden (HT.out.grow (Grows.of_below HG4.out g4))⟩
      exact (g.cell (World.block_lt_of_cell? _ _ hv'.cell)).trans hv'.cell
    have HGW := hidden (Grows.of_below HG4.out gW)
    have GX0 := hidden (Below.refl W.heap.size W)
    clear hv hv' hB hK gW
    obtain ⟨a0, a1, b0, b1, cn, is, it, hst, htab⟩ := HX.out W GX0.out
    gi_wp2_with fail
    refine ⟨trivial, (callsIn_wide.2 (ck_valid _ 5 _ W (is.pair (by rw [pack_length]; decide)) (by omega) (by omega))).mono ?_⟩
    clear a0 a1 b0 b1 cn is it hst htab
    try clear hfi
    rintro e X1 ⟨rfl, g⟩
    rw [live_valid]
    have GX1 := hidden (GX0.out.trans (g.mono GX0.out.size))
    clear g
    obtain ⟨a0, a1, b0, b1, cn, is, it, hst, htab⟩ := HX.out X1 GX1.out
    gi_wp2_with fail
    refine ⟨trivial, (callsIn_wide.2 (ck_count _ 5 _ X1 is (okW_pack 5 liveF))).mono ?_⟩
    clear a0 a1 b0 b1 cn is it hst htab
    try clear hfi
    rintro e X2 ⟨rfl, g⟩
    rw [live_count]
    have GX2 := hidden (GX1.out.trans (g.mono GX1.out.size))
    clear g
    obtain ⟨a0, a1, b0, b1, cn, is, it, hst, htab⟩ := HX.out X2 GX2.out
    gi_wp2_with fail
    refine ⟨trivial, (callsIn_wide.2 (ck_rank _ 5 _ 3 X2 is (okW_pack 5 liveF) (by omega) (by omega))).mono ?_⟩
    clear a0 a1 b0 b1 cn is it hst htab
    try clear hfi
    rintro e X3 ⟨rfl, g⟩
    rw [live_rank]
    have GX3 := hidden (GX2.out.trans (g.mono GX2.out.size))
    clear g
    obtain ⟨a0, a1, b0, b1, cn, is, it, hst, htab⟩ := HX.out X3 GX3.out
    gi_wp2_with fail
    refine ⟨trivial, (callsIn_wide.2 (ck_select _ 5 _ 1 X3 is (okW_pack 5 liveF) htab.out (by omega) (by omega))).mono ?_⟩
    clear a0 a1 b0 b1 cn is it hst htab
    try clear hfi
    rintro e X4 ⟨rfl, g⟩
    rw [live_sel1]
    have GX4 := hidden (GX3.out.trans (g.mono GX3.out.size))
    clear g
    obtain ⟨a0, a1, b0, b1, cn, is, it, hst, htab⟩ := HX.out X4 GX4.out
    gi_wp2_with fail
    refine ⟨trivial, (callsIn_wide.2 (ck_select _ 5 _ 2 X4 is (okW_pack 5 liveF) htab.out (by omega) (by omega))).mono ?_⟩
    clear a0 a1 b0 b1 cn is it hst htab
    try clear hfi
    rintro e X5 ⟨rfl, g⟩
    rw [live_sel2]
    have GX5 := hidden (GX4.out.trans (g.mono GX4.out.size))
    clear g
    obtain ⟨a0, a1, b0, b1, cn, is, it, hst, htab⟩ := HX.out X5 GX5.out
    gi_wp2_with fail
    refine ⟨trivial, (callsIn_wide.2 (ck_count _ 2 _ X5 it (okW_pack 2 _))).mono ?_⟩
    clear a0 a1 b0 b1 cn is it hst htab
    try clear hfi
    rintro e X6 ⟨rfl, g⟩
    rw [live_count2]
    have GX6 := hidden (GX5.out.trans (g.mono GX5.out.size))
    clear g
    obtain ⟨a0, a1, b0, b1, cn, is, it, hst, htab⟩ := HX.out X6 GX6.out
    gi_wp2_with fail
    refine ⟨trivial, (callsIn_wide.2 (ck_new (-1) X6 (by omega) (by omega))).mono ?_⟩
    clear a0 a1 b0 b1 cn is it hst htab
    try clear hfi
    rintro e X7 ⟨s7, rfl, ⟨v7, rfl, hr7, _⟩, g⟩
    obtain ⟨A7, d7, rfl, _⟩ := hr7.slice_
    clear hr7
    have hfi := field_n 0 (.slice A7 (ucells (pack (newN (-1)) fun _ => false)).length d7)
    rw [show ((newN (-1) : Nat) : Int) = 0 from rfl]
    have GX7 := hidden (GX6.out.trans (g.mono GX6.out.size))
    clear g
    obtain ⟨a0, a1, b0, b1, cn, is, it, hst, htab⟩ := HX.out X7 GX7.out
    gi_wp2_with fail
    refine ⟨trivial, (callsIn_wide.2 (ck_new 1048576 X7 (by omega) (by omega))).mono ?_⟩
    clear a0 a1 b0 b1 cn is it hst htab
    try clear hfi
    rintro e X8 ⟨s8, rfl, ⟨v8, rfl, hr8, _⟩, g⟩
    obtain ⟨A8, d8, rfl, _⟩ := hr8.slice_
    clear hr8
    have hfi := field_n 1048576 (.slice A8 (ucells (pack (newN 1048576) fun _ => false)).length d8)
    rw [show ((newN 1048576 : Nat) : Int) = 1048576 by decide]
    have GX8 := hidden (GX7.out.trans (g.mono GX7.out.size))
    clear g
    obtain ⟨a0, a1, b0, b1, cn, is, it, hst, htab⟩ := HX.out X8 GX8.out
    gi_wp2_with fail
    refine ⟨trivial, (callsIn_wide.2 (ck_new 1048577 X8 (by omega) (by omega))).mono ?_⟩
    clear a0 a1 b0 b1 cn is it hst htab
    try clear hfi
    rintro e X9 ⟨s9, rfl, ⟨v9, rfl, hr9, _⟩, g⟩
    obtain ⟨A9, d9, rfl, _⟩ := hr9.slice_
    clear hr9
    have hfi := field_n 0 (.slice A9 (ucells (pack (newN 1048577) fun _ => false)).length d9)
    rw [show ((newN 1048577 : Nat) : Int) = 0 by decide]
    have GX9 := hidden (GX8.out.trans (g.mono GX8.out.size))
    clear g
    obtain ⟨a0, a1, b0, b1, cn, is, it, hst, htab⟩ := HX.out X9 GX9.out
    gi_wp2_with fail
    refine ⟨trivial, (callsIn_wide.2 (ck_contains _ 5 _ 1 X9 is (okW_pack 5 liveF) (by omega) (by omega))).mono ?_⟩
    clear a0 a1 b0 b1 cn is it hst htab
    try clear hfi
    rintro e X10 ⟨rfl, g⟩
    rw [live_mem1]
    have GX10 := hidden (GX9.out.trans (g.mono GX9.out.size))
    clear g
    obtain ⟨a0, a1, b0, b1, cn, is, it, hst, htab⟩ := HX.out X10 GX10.out
    gi_wp2_with fail
    refine ⟨trivial, (callsIn_wide.2 (ck_contains _ 5 _ 0 X10 is (okW_pack 5 liveF) (by omega) (by omega))).mono ?_⟩
    clear a0 a1 b0 b1 cn is it hst htab
    try clear hfi
    rintro e X11 ⟨rfl, g⟩
    rw [live_mem0]
    have GX11 := hidden (GX10.out.trans (g.mono GX10.out.size))
    clear g
    obtain ⟨a0, a1, b0, b1, cn, is, it, hst, htab⟩ := HX.out X11 GX11.out
    gi_wp2_with fail
    refine ⟨trivial, (callsIn_wide.2 (ck_valid _ 1 [] X11 ⟨_, rfl, Reads.nil_ X11 0, by simp⟩ (by omega) (by omega))).mono ?_⟩
    clear a0 a1 b0 b1 cn is it hst htab
    try clear hfi
    rintro e X12 ⟨rfl, g⟩
    rw [live_invalid]
    have GX12 := hidden (GX11.out.trans (g.mono GX11.out.size))
    clear g
    obtain ⟨a0, a1, b0, b1, cn, is, it, hst, htab⟩ := HX.out X12 GX12.out
    gi_wp2_with fail
    have hKX : X12.heap[D]? = some (.deferred (some [])) := (GX12.out.block D (Array.getElem?_eq_some_iff.1 HK.out).1).trans HK.out
    refine ⟨by simp, .inl ⟨_, _, rfl, run_takeDeferred hKX, ?_⟩⟩
    have gX : Below w.heap.size w X12 := HGW.out.trans (GX12.out.mono HGW.out.size)
    exact ⟨_, results_tmp rfl _ _ _, rfl, gX.trans (belowK_b (w := w5) (by omega) X12 D _ _ hD hKX rfl rfl)⟩

end Go.Proofs.YtaegolkoinjmoaaDoor
