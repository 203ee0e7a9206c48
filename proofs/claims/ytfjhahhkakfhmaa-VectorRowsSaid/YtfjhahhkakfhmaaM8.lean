/-
  Texts that the claims of this seat share, put together (VcL, Vd3, Vd4, Vd5, Vd6, Vd7, Vd8, Vd9, VdA, VdB, VdC, VdD, VdE, VdF, VdG, VdH, VdI). No condition.
-/
import Derived.Test.YtfjhahhkakfhmaaM7
import Derived.Test.YtfjhahhkakfhmaaMk
import Derived.Test.YtfjhahhkakfhmaaFast
/-
  Shaken: what the claims of this seat need of this text. No condition.
-/
namespace Go.Proofs.Ytfjhahhkakfhmaa
open Go.RowKit
set_option linter.unusedVariables false
set_option linter.unusedSimpArgs false
def one17 : Val := ⟨2, 1, ⟨#[]⟩⟩
theorem readsV_row {w : World} {g : Nat} {e : TypeId} {l : List Val} (h : Row w g e (vcells l)) (n c : Nat) (hn : n = l.length) (hc : n ≤ c) : ReadsV w (.slice (some ⟨g, 0, none⟩) n c) l := by
  subst hn
  refine ⟨_, c, rfl, hc, fun _ => ⟨g, 0, rfl, fun j x hj => ?_⟩⟩
  obtain ⟨h1, h2, h3⟩ := vcells_get hj
  rw [Nat.zero_add, h.cell, h.cell, h.cell]
  exact ⟨h1, h2, h3⟩
theorem isRs_nils {w : World} {g : Nat} {e : TypeId} (h : Row w g e [.slice none 0 0, .slice none 0 0, .slice none 0 0]) : IsRs w (.slice (some ⟨g, 0, none⟩) 3 3) [[], [], []] := by
  refine ⟨_, 3, rfl, Nat.le_refl _, fun _ => ⟨g, 0, rfl, fun j l hj => ?_⟩⟩
  have hn : ReadsV w (.slice none 0 0) [] := ⟨none, 0, rfl, Nat.le_refl _, fun h => absurd h (by simp)⟩
  match j, hj with
  | 0, hj => simp at hj; subst hj; exact ⟨_, by rw [h.cell]; rfl, hn⟩
  | 1, hj => simp at hj; subst hj; exact ⟨_, by rw [h.cell]; rfl, hn⟩
  | 2, hj => simp at hj; subst hj; exact ⟨_, by rw [h.cell]; rfl, hn⟩
theorem isVs_row2 {w : World} {g : Nat} {e : TypeId} {x y : Vec} {a b c a' b' c' : Value} (h : Row w g e [.int .i64 x.T, a, b, c, .int .i64 y.T, a', b', c']) (hx : IsV w (.agg #[.int .i64 x.T, a, b, c]) x) (hy : IsV w (.agg #[.int .i64 y.T, a', b', c']) y) :
    IsVs w (.slice (some ⟨g, 0, none⟩) 2 2) [x, y] := by
  refine ⟨_, 2, rfl, Nat.le_refl _, fun _ => ⟨g, 0, rfl, fun j v hj => ?_⟩⟩
  match j, hj with
  | 0, hj => simp at hj; subst hj; exact ⟨a, b, c, by rw [h.cell]; rfl, by rw [h.cell]; rfl, by rw [h.cell]; rfl, by rw [h.cell]; rfl, hx⟩
  | 1, hj => simp at hj; subst hj; exact ⟨a', b', c', by rw [h.cell]; rfl, by rw [h.cell]; rfl, by rw [h.cell]; rfl, by rw [h.cell]; rfl, hy⟩
theorem isVs_row1 {w : World} {g : Nat} {e : TypeId} {x : Vec} {a b c : Value} (h : Row w g e [.int .i64 x.T, a, b, c]) (hx : IsV w (.agg #[.int .i64 x.T, a, b, c]) x) :
    IsVs w (.slice (some ⟨g, 0, none⟩) 1 1) [x] := by
  refine ⟨_, 1, rfl, Nat.le_refl _, fun _ => ⟨g, 0, rfl, fun j v hj => ?_⟩⟩
  match j, hj with
  | 0, hj => simp at hj; subst hj; exact ⟨a, b, c, by rw [h.cell]; rfl, by rw [h.cell]; rfl, by rw [h.cell]; rfl, by rw [h.cell]; rfl, hx⟩
theorem isV_nil (w : World) (T : Int) : IsV w (.agg #[.int .i64 T, .slice none 0 0, .slice none 0 0, .slice none 0 0]) ⟨T, [], [], []⟩ :=
  ⟨_, _, _, rfl, Reads.nil_ _ _, Reads.nil_ _ _, Reads.nil_ _ _⟩
theorem awk_from : fromV 2 [one17, nulX] = ⟨2, [1, 0], [], [false, true]⟩ ∧ fromE 2 [one17, nulX] = 0 ∧ fromE 1 [one17] = 7 := by
  refine ⟨?_, ?_, ?_⟩ <;> simp [fromV, fromE, isTypeB, fitsB, one17, nulX, buildV, putV]
theorem awk_valid : validL [one17, nulX] = true ∧ validL [one17] = true := by
  constructor <;> simp [validL, validV, one17, nulX]
theorem Only.grows_old {w W : World} {o : Obj} (h : Only (fun i => i = w.heap.size) (w.alloc o) W) : Grows w W := h.below (grow1 _) (fun i hi => by omega)
theorem Only.grows_old2 {w W : World} {o : Obj} (h : Only (fun i => i = w.heap.size) (w.alloc o) W) : Grows w W := h.grows_old
theorem size_bat : (Try.prog.info? 45).map (·.size) = some 4 := by kernel_rfl
theorem wpList_store_bat {wr : World} {ops : Array Oper} {rest : List Oper} {o : Oper} {a : Act} {Q : Exit → Act → World → Prop} (hgd : o.guard = none) (x y : Operand) (ho : o.op = .store 45 x y)
    (g : Nat) (hx : a.eval x = .pointer (some ⟨g, 0, none⟩)) (p q r s : Value) (hy : a.eval y = .agg #[p, q, r, s]) (h1 : (#[p, q, r, s] : Array Value).all (·.oneCell') = true) {p0 q0 r0 s0 : Value} (hg : Row wr g 45 [p0, q0, r0, s0])
    (h : ∀ W, Row W g 45 [p, q, r, s] → Only (fun i => i = g) wr W → wpList Try.prog ops Q rest (a.put o.dst undef) W) : wpList Try.prog ops Q (o :: rest) a wr :=
  wpList_store_row hgd _ x y ho g #[p, q, r, s] hx hy _ _ hg size_bat rfl h1 (h _ (valSet_row hg [p, q, r, s]) (Only.turned (Turned.row_ wr g _) (fun k hk => by simp only [World.setRow]; rw [Array.getElem?_modify, if_neg (Ne.symm hk)]) rfl rfl rfl))
theorem awk_cat : catE [⟨2, [1, 0], [], [false, true]⟩, ⟨3, [], [], []⟩] = 7 := by simp [catE, catB, headT]
theorem awk_v : validVB ⟨2, [1, 0], [], [false, true]⟩ = true ∧ validVB ⟨3, [], [], []⟩ = true ∧ validVB ⟨2, [1, 2, 3], [], [false, false, false]⟩ = true := by
  refine ⟨?_, ?_, ?_⟩ <;> simp [validVB, isTypeB, nIv, nTv, entriesB, entryB]
def awkB : Bat := ⟨[⟨2, [1, 2, 3], [], [false, false, false]⟩], 3, false, [0, 2]⟩
theorem awk_b : validBB awkB = true ∧ rowsB awkB = [[⟨2, 1, ⟨#[]⟩⟩], [⟨2, 3, ⟨#[]⟩⟩]] := by
  refine ⟨?_, ?_⟩
  · simp [validBB, awkB, colB, selsB, okSel, awk_v]
  · simp [rowsB, awkB, rowV, atI, vat]
theorem awk_at : atI ⟨2, [1, 0], [], [false, true]⟩ 2 = nulX := by simp [atI]
theorem awk_bat : (batR [] [[], [], []]).len = 3 ∧ (batR [] [[], [], []]).all = true := ⟨rfl, rfl⟩
set_option maxRecDepth 8000 in
set_option maxHeartbeats 8000000 in
theorem awake17_any (K : Pack) (w : World) : Calls Try.prog 10 #[] w fun e w' => e = .returned (.bool true) ∧ Grows w w' := by
  have HK := hidden K
  clear K
  have hm1 : ∀ W : World, (Instr.makeSlice 27 (.int .i64 3) (.int .i64 3)).run Try.prog W = .ok (.slice (some ⟨W.heap.size, 0, none⟩) 3 3) (W.alloc (.cells #[.bool false, .bool false, .bool false] 4)) :=
    fun W => run_make_oneM (P := Try.prog) 27 4 (.bool false) 1 Try.underlying27 info_boolM rfl 3 (by omega) (by omega) W
  have hm2 : ∀ W : World, (Instr.makeSlice 57 (.int .i64 3) (.int .i64 3)).run Try.prog W = .ok (.slice (some ⟨W.heap.size, 0, none⟩) 3 3) (W.alloc (.cells #[.slice none 0 0, .slice none 0 0, .slice none 0 0] 65)) :=
    fun W => run_make_oneM (P := Try.prog) 57 65 (.slice none 0 0) 24 Try.underlying57 infoR17 rfl 3 (by omega) (by omega) W
  go_enter Try.func10, Try.ntmps10
  go_wp2_with fail
  obtain ⟨W1, hW1⟩ : ∃ W, W = (((w.alloc (.cells #[.int .i64 2, .int .i64 1, .string ⟨#[]⟩] 37)).alloc (.cells #[.int .i64 0, .int .i64 0, .string ⟨#[]⟩] 37)).alloc (.cells #[.int .i64 2, .int .i64 1, .string ⟨#[]⟩, .int .i64 0, .int .i64 0, .string ⟨#[]⟩] 37)) := ⟨_, rfl⟩
  have HG1 := hidden (show Grows w W1 by rw [hW1]; exact ((grow1 _).of_below (grow1 _)).of_below (grow1 _))
  have HO1 := hidden (show Row W1 w.heap.size 37 [.int .i64 2, .int .i64 1, .string ⟨#[]⟩] by rw [hW1]; exact ((Row.new w _ _ _ rfl).grow (grow1 _)).grow (grow1 _))
  have HN1 := hidden (show Row W1 (w.heap.size + 1) 37 [.int .i64 0, .int .i64 0, .string ⟨#[]⟩] by rw [hW1]; exact (Row.at_ _ _ _ _ rfl _ (by simp)).grow (grow1 _))
  have HL1 := hidden (show Row W1 (w.heap.size + 1 + 1) 37 (vcells [one17, nulX]) by rw [hW1]; exact Row.at_ _ _ _ _ rfl _ (by simp))
  rw [← hW1]
  clear hW1
  refine (HK.out.from_ _ [one17, nulX] 2 W1 (readsV_row HL1.out 2 2 rfl (Nat.le_refl _)) (by simp) awk_valid.1 (by unfold frIn; omega)).mono ?_
  rintro e w2 ⟨x2, rfl, hx2, g2⟩
  rw [awk_from.1] at hx2
  rw [awk_from.2.1]
  obtain ⟨p2, q2, r2, rfl, j1, j2, j3⟩ := id hx2
  obtain ⟨A1, c1, rfl⟩ : ∃ A c, p2 = .slice A 2 c := j1.slice_
  obtain ⟨A2, c2, rfl⟩ : ∃ A c, q2 = .slice A 0 c := j2.slice_
  obtain ⟨A3, c3, rfl⟩ : ∃ A c, r2 = .slice A 2 c := j3.slice_
  have HX2 := hidden hx2
  have HG2 := hidden (HG1.out.of_below g2)
  have HO2 := hidden (HO1.out.grow g2)
  have HN2 := hidden (HN1.out.grow g2)
  clear g2 hx2 j1 j2 j3 HO1 HN1 HL1
  dsimp only
  go_wp2_with (first
    | (refine wpList_store_vc rfl _ _ rfl w2.heap.size rfl _ _ _ _ rfl (all4 rfl rfl rfl rfl) (Row.new w2 29 #[.int .i64 0, .slice none 0 0, .slice none 0 0, .slice none 0 0] [.int .i64 0, .slice none 0 0, .slice none 0 0, .slice none 0 0] rfl) ?_; intro W3 hR hO; have HV3 := hidden hR; have HG3 := hidden (hO.below (HG2.out.of_below (grow1 _)) (fun i hi => by have := HN2.out.lt; omega)); have HX3 := hidden (show IsV W3 (.agg #[.int .i64 2, .slice A1 2 c1, .slice A2 0 c2, .slice A3 2 c3]) ⟨2, [1, 0], [], [false, true]⟩ from HX2.out.grow hO.grows_old); have HO3 := hidden (hO.row (HO2.out.grow (grow1 _)) (by have := HO2.out.lt; omega)); have HN3 := hidden (hO.row (HN2.out.grow (grow1 _)) (by have := HN2.out.lt; omega)); have o0 := HO3.out.cell 0; have o1 := HO3.out.cell 1; have o2 := HO3.out.cell 2; simp only [List.getElem?_cons_succ, List.getElem?_cons_zero] at o0 o1 o2; clear hR hO))
  obtain ⟨W4, hW4⟩ : ∃ W, W = W3.alloc (.cells #[.int .i64 2, .int .i64 1, .string ⟨#[]⟩] 37) := ⟨_, rfl⟩
  have hg4 : Grows W3 W4 := by rw [hW4]; exact grow1 _
  have HL4 := hidden (show Row W4 W3.heap.size 37 (vcells [one17]) by rw [hW4]; exact Row.new _ _ _ _ rfl)
  have HG4 := hidden (HG3.out.of_below hg4)
  have HX4 := hidden (HX3.out.grow hg4)
  have HV4 := hidden (HV3.out.grow hg4)
  have HO4 := hidden (HO3.out.grow hg4)
  have HN4 := hidden (HN3.out.grow hg4)
  rw [← hW4]
  clear hW4 hg4 o0 o1 o2
  refine (HK.out.from_ _ [one17] 1 W4 (readsV_row HL4.out 1 1 rfl (Nat.le_refl _)) (by simp) awk_valid.2 (by unfold frIn; omega)).mono ?_
  rintro e w5 ⟨x5, rfl, hx5, g5⟩
  rw [awk_from.2.2]
  obtain ⟨p5, q5, r5, rfl, j1, j2, j3⟩ := hx5
  obtain ⟨B1, d1, rfl⟩ := j1.slice_
  obtain ⟨B2, d2, rfl⟩ := j2.slice_
  obtain ⟨B3, d3, rfl⟩ := j3.slice_
  generalize (fromV 1 [one17]).T = T5
  generalize (fromV 1 [one17]).is.length = m1
  generalize (fromV 1 [one17]).ts.length = m2
  generalize (fromV 1 [one17]).ns.length = m3
  have HG5 := hidden (HG4.out.of_below g5)
  have HX5 := hidden (HX4.out.grow g5)
  have HV5 := hidden (HV4.out.grow g5)
  have HO5 := hidden (HO4.out.grow g5)
  have HN5 := hidden (HN4.out.grow g5)
  clear g5 j1 j2 j3
  go_wp2_with (first
    | (refine wpList_store_vc rfl _ _ rfl w5.heap.size rfl _ _ _ _ rfl (all4 rfl rfl rfl rfl) (Row.new w5 29 #[.int .i64 0, .slice none 0 0, .slice none 0 0, .slice none 0 0] [.int .i64 0, .slice none 0 0, .slice none 0 0, .slice none 0 0] rfl) ?_; intro W6 hR hO; have HG6 := hidden (hO.below (HG5.out.of_below (grow1 _)) (fun i hi => by have := HN5.out.lt; omega)); have HX6 := hidden (HX5.out.grow (hO.grows_old)); have HV6 := hidden (hO.row (HV5.out.grow (grow1 _)) (by have := HV5.out.lt; omega)); have HO6 := hidden (hO.row (HO5.out.grow (grow1 _)) (by have := HO5.out.lt; omega)); have HN6 := hidden (hO.row (HN5.out.grow (grow1 _)) (by have := HN5.out.lt; omega)); have v0 := HV6.out.cell 0; have v1 := HV6.out.cell 1; have v2 := HV6.out.cell 2; have v3 := HV6.out.cell 3; simp only [List.getElem?_cons_succ, List.getElem?_cons_zero] at v0 v1 v2 v3; clear hR hO))
  obtain ⟨W7, hW7⟩ : ∃ W, W = W6.alloc (.cells #[.int .i64 2, .slice A1 2 c1, .slice A2 0 c2, .slice A3 2 c3, .int .i64 3, .slice none 0 0, .slice none 0 0, .slice none 0 0] 29) := ⟨_, rfl⟩
  have hg7 : Grows W6 W7 := by rw [hW7]; exact grow1 _
  have HC7 := hidden (show IsVs W7 (.slice (some ⟨W6.heap.size, 0, none⟩) 2 2) [⟨2, [1, 0], [], [false, true]⟩, ⟨3, [], [], []⟩] from
    isVs_row2 (by rw [hW7]; exact Row.new _ _ _ _ rfl) (HX6.out.grow hg7) (isV_nil _ _))
  have HG7 := hidden (HG6.out.of_below hg7)
  have HX7 := hidden (HX6.out.grow hg7)
  have HV7 := hidden (HV6.out.grow hg7)
  have HN7 := hidden (HN6.out.grow hg7)
  rw [← hW7]
  clear hW7 hg7 v0 v1 v2 v3
  refine (HK.out.concat _ _ W7 HC7.out (by simp) (by
    intro x hx
    simp only [List.mem_cons, List.not_mem_nil, or_false] at hx
    rcases hx with rfl | rfl
    · exact ⟨awk_v.1, by simp⟩
    · exact ⟨awk_v.2.1, by simp⟩)).mono ?_
  rintro e w8 ⟨x8, rfl, hx8, g8⟩
  rw [awk_cat]
  obtain ⟨p8, q8, r8, rfl, j1, j2, j3⟩ := hx8
  obtain ⟨C1, e1, rfl⟩ := j1.slice_
  obtain ⟨C2, e2, rfl⟩ := j2.slice_
  obtain ⟨C3, e3, rfl⟩ := j3.slice_
  generalize (catV [⟨2, [1, 0], [], [false, true]⟩, ⟨3, [], [], []⟩]).T = T8
  generalize (catV [⟨2, [1, 0], [], [false, true]⟩, ⟨3, [], [], []⟩]).is.length = k1
  generalize (catV [⟨2, [1, 0], [], [false, true]⟩, ⟨3, [], [], []⟩]).ts.length = k2
  generalize (catV [⟨2, [1, 0], [], [false, true]⟩, ⟨3, [], [], []⟩]).ns.length = k3
  have HG8 := hidden (HG7.out.of_below g8)
  have HX8 := hidden (HX7.out.grow g8)
  have HV8 := hidden (HV7.out.grow g8)
  have HN8 := hidden (HN7.out.grow g8)
  clear g8 j1 j2 j3
  go_wp2_with (first
    | (refine wpList_store_vc rfl _ _ rfl w8.heap.size rfl _ _ _ _ rfl (all4 rfl rfl rfl rfl) (Row.new w8 29 #[.int .i64 0, .slice none 0 0, .slice none 0 0, .slice none 0 0] [.int .i64 0, .slice none 0 0, .slice none 0 0, .slice none 0 0] rfl) ?_; intro W9 hR hO; have HG9 := hidden (hO.below (HG8.out.of_below (grow1 _)) (fun i hi => by have := HN8.out.lt; omega)); have HX9 := hidden (HX8.out.grow hO.grows_old); have HV9 := hidden (hO.row (HV8.out.grow (grow1 _)) (by have := HV8.out.lt; omega)); have HN9 := hidden (hO.row (HN8.out.grow (grow1 _)) (by have := HN8.out.lt; omega)); clear hR hO))
  obtain ⟨Wa, hWa⟩ : ∃ W, W = ((((W9.alloc (.cells #[.int .i64 1, .int .i64 2, .int .i64 3] 2)).alloc (.cells #[.bool false, .bool false, .bool false] 4)).alloc (.cells #[.int .i64 2, .slice (some ⟨W9.heap.size, 0, none⟩) 3 3, .slice none 0 0, .slice (some ⟨W9.heap.size + 1, 0, none⟩) 3 3] 29)).alloc (.cells #[.int .i64 0, .int .i64 2] 3)).alloc (.cells #[.slice (some ⟨W9.heap.size + 1 + 1, 0, none⟩) 1 1, .int .i64 3, .bool false, .slice (some ⟨W9.heap.size + 1 + 1 + 1, 0, none⟩) 2 2] 45) := ⟨_, rfl⟩
  have hga : Grows W9 Wa := by rw [hWa]; exact ((((grow1 _).of_below (grow1 _)).of_below (grow1 _)).of_below (grow1 _)).of_below (grow1 _)
  have hIa := Reads.of_row (show Row Wa W9.heap.size 2 (icells [1, 2, 3]) by rw [hWa]; exact ((((Row.new _ _ _ _ rfl).grow (grow1 _)).grow (grow1 _)).grow (grow1 _)).grow (grow1 _)) 3 3 rfl (Nat.le_refl _)
  have hTa := Reads.of_row (show Row Wa (W9.heap.size + 1) 4 (tcells [false, false, false]) by rw [hWa]; exact (((Row.at_ _ _ _ _ rfl _ (by simp)).grow (grow1 _)).grow (grow1 _)).grow (grow1 _)) 3 3 rfl (Nat.le_refl _)
  have hVa := show Row Wa (W9.heap.size + 1 + 1) 29 [.int .i64 2, .slice (some ⟨W9.heap.size, 0, none⟩) 3 3, .slice none 0 0, .slice (some ⟨W9.heap.size + 1, 0, none⟩) 3 3] by rw [hWa]; exact ((Row.at_ _ _ _ _ rfl _ (by simp)).grow (grow1 _)).grow (grow1 _)
  have hSa := Reads.of_row (show Row Wa (W9.heap.size + 1 + 1 + 1) 3 (icells [0, 2]) by rw [hWa]; exact (Row.at_ _ _ _ _ rfl _ (by simp)).grow (grow1 _)) 2 2 rfl (Nat.le_refl _)
  have HBa := hidden (show IsB Wa (.agg #[.slice (some ⟨W9.heap.size + 1 + 1, 0, none⟩) 1 1, .int .i64 3, .bool false, .slice (some ⟨W9.heap.size + 1 + 1 + 1, 0, none⟩) 2 2]) awkB from
    ⟨_, _, rfl, isVs_row1 (x := ⟨2, [1, 2, 3], [], [false, false, false]⟩) hVa ⟨_, _, _, rfl, hIa, Reads.nil_ _ _, hTa⟩, hSa⟩)
  have HGa := hidden (HG9.out.of_below hga)
  have HXa := hidden (HX9.out.grow hga)
  have HVa := hidden (HV9.out.grow hga)
  have HNa := hidden (HN9.out.grow hga)
  clear hga hIa hTa hVa hSa
  rw [← hWa]
  clear hWa
  refine (HK.out.rows _ awkB Wa HBa.out awk_b.1 (by simp [awkB]) (by simp [awkB])).mono ?_
  rintro e wb ⟨ub, rfl, hub, gb⟩
  rw [awk_b.2] at hub
  obtain ⟨UA, UC, rfl⟩ : ∃ A c, ub = .slice A 2 c := hub.slice_
  have HUb := hidden hub
  have HGb := hidden (HGa.out.of_below gb)
  have HXb := hidden (HXa.out.grow gb)
  have HVb := hidden (HVa.out.grow gb)
  have HNb := hidden (HNa.out.grow gb)
  clear gb hub
  go_wp2_with fail
  obtain ⟨Wc, hWc⟩ : ∃ W, W = wb.alloc (.cells #[.slice none 0 0, .slice none 0 0, .slice none 0 0] 65) := ⟨_, rfl⟩
  have hgc : Grows wb Wc := by rw [hWc]; exact grow1 _
  have HRc := hidden (isRs_nils (show Row Wc wb.heap.size 65 [.slice none 0 0, .slice none 0 0, .slice none 0 0] by rw [hWc]; exact Row.new _ _ _ _ rfl))
  have HUc := hidden (HUb.out.grow hgc)
  have HGc := hidden (HGb.out.of_below hgc)
  have HXc := hidden (HXb.out.grow hgc)
  have HVc := hidden (HVb.out.grow hgc)
  have HNc := hidden (HNb.out.grow hgc)
  rw [← hWc]
  clear hWc hgc
  refine (HK.out.fromRows (.slice none 0 0) [] _ [[], [], []] Wc (Reads.nil_ _ _) HRc.out (by
    refine ⟨fun T h => absurd h (by simp), fun r hr => ?_⟩
    simp only [List.mem_cons, List.not_mem_nil, or_false, or_self] at hr
    subst hr
    exact ⟨rfl, rfl, fun j hj => by simp at hj⟩) (by simp) (by simp)).mono ?_
  rintro e wd ⟨xd, rfl, hxd, gd⟩
  obtain ⟨pd, qd, rfl, jd1, jd2⟩ := hxd
  obtain ⟨D1, f1, rfl⟩ := jd1.slice_
  obtain ⟨D2, f2, rfl⟩ := jd2.slice_
  rw [awk_bat.1]
  generalize (batR [] [[], [], []]).all = ad
  generalize (batR [] [[], [], []]).cs.length = nd
  generalize (batR [] [[], [], []]).sel.length = md
  have HUd := hidden (HUc.out.grow gd)
  have HGd := hidden (HGc.out.of_below gd)
  have HXd := hidden (HXc.out.grow gd)
  have HVd := hidden (HVc.out.grow gd)
  have HNd := hidden (HNc.out.grow gd)
  clear gd jd1 jd2
  have HAT := hidden (fun W (h : Grows wd W) => HK.out.at_ _ _ 2 W (HXd.out.grow h) awk_v.1 (by simp) (by unfold frIn; omega))
  rw [awk_at] at HAT
  -- what is read at the end
  have hxd := HXd.out
  obtain ⟨p9, q9, r9, he9, i1, i2, i3⟩ := hxd
  injection he9 with he9
  simp only [Array.mk.injEq, List.cons.injEq, and_true, true_and] at he9
  obtain ⟨rfl, rfl, rfl⟩ := he9
  obtain ⟨ba, fa, rfl, ka⟩ := i1.at_ (k := 0) (by simp)
  obtain ⟨bc, fc, rfl, kc⟩ := i3.at_ (k := 1) (by simp)
  obtain ⟨bu, fu, uu, rfl, ku⟩ := HUd.out.at_ (j := 1) (by simp)
  have hrd := (ku wd (Below.refl _ _)).2
  obtain ⟨UB, UD, rfl⟩ : ∃ A c, uu = .slice A 1 c := by obtain ⟨A, c, h, _⟩ := hrd; exact ⟨A, c, h⟩
  obtain ⟨bv, fv, rfl, kv⟩ := hrd.at_ (k := 0) (by simp)
  have HZ := hidden (fun W (h : Grows wd W) => (⟨(h.cell (World.block_lt_of_cell? _ _ ka)).trans ka, (h.cell (World.block_lt_of_cell? _ _ kc)).trans kc, (ku W h).1, (kv W h).2.1, (HVd.out.grow h).cell 0, (HVd.out.grow h).cell 1, (HVd.out.grow h).cell 2, (HVd.out.grow h).cell 3, (HNd.out.grow h).cell 0, (HNd.out.grow h).cell 1, (HNd.out.grow h).cell 2⟩ :
    W.cell? ⟨ba, fa + 0, none⟩ = some (.int .i64 1) ∧ W.cell? ⟨bc, fc + 1, none⟩ = some (.bool true) ∧ W.cell? ⟨bu, fu + 1, none⟩ = some (.slice (some ⟨bv, fv, none⟩) 1 UD) ∧ W.cell? ⟨bv, fv + 0 * 3 + 1, none⟩ = some (.int .i64 3) ∧
    W.cell? ⟨w2.heap.size, 0, none⟩ = some (.int .i64 2) ∧ W.cell? ⟨w2.heap.size, 1, none⟩ = some (.slice (some ⟨ba, fa, none⟩) 2 c1) ∧ W.cell? ⟨w2.heap.size, 2, none⟩ = some (.slice A2 0 c2) ∧ W.cell? ⟨w2.heap.size, 3, none⟩ = some (.slice (some ⟨bc, fc, none⟩) 2 c3) ∧
    W.cell? ⟨w.heap.size + 1, 0, none⟩ = some (.int .i64 0) ∧ W.cell? ⟨w.heap.size + 1, 1, none⟩ = some (.int .i64 0) ∧ W.cell? ⟨w.heap.size + 1, 2, none⟩ = some (.string ⟨#[]⟩)))
  simp only [Nat.add_zero, Nat.zero_mul] at HZ
  clear ka kc ku kv i1 i2 i3 hrd
  go_wp2_with (first
    | (refine wpList_store_bat rfl _ _ rfl wd.heap.size rfl _ _ _ _ rfl (all4 rfl rfl rfl rfl) (Row.new wd 45 #[.slice none 0 0, .int .i64 0, .bool false, .slice none 0 0] [.slice none 0 0, .int .i64 0, .bool false, .slice none 0 0] rfl) ?_; intro We hR hO; have HRe := hidden hR; have HGe := hidden hO.grows_old2; clear hR hO))
  have HX := hidden (fun W (h : Grows We W) => And.intro ((HRe.out.grow h).cell 1) (HZ.out W (HGe.out.of_below h)))
  simp only [List.getElem?_cons_succ, List.getElem?_cons_zero] at HX
  have HC1 := hidden (fun W (h : Grows We W) => const_loose (show Calls Try.prog 14 _ W (fun e w' => e = .returned (.agg #[.int .i64 0, .int .i64 0, .string ⟨#[]⟩]) ∧ Grows W w') from HAT.out W (HGe.out.of_below h)))
  simp only [List.append_eq, List.cons_append, List.nil_append]
  refine wp_region_loose (tabRs [(41, ConstV (.agg #[.int .i64 0, .int .i64 0, .string ⟨#[]⟩]))]) (by kernel_rfl) (lexB_fast (by kernel_rfl)) (tabRs_cons ConstV.lasts tabRs_nil) ?_
  iterate 41 ((with_reducible refine loose_one (v := ?_) (a' := ?_) ?_ ?_ (fun w' hC' hG' => ?_) ?_ ?_); rotate_left 2; (focus rfl); (focus rfl); (focus (obtain ⟨y1, z0, z1, z2, z3, z4, z5, z6, z7, z8, z9, z10⟩ := HX.out w' hC'; clear hC' hG'; go_simp; rfl)); (focus (go_simp; rfl)))
  refine loose_call (R := ConstV (.agg #[.int .i64 0, .int .i64 0, .string ⟨#[]⟩])) (f := 14) (args := #[.agg #[.int .i64 2, .slice (some ⟨ba, fa, none⟩) 2 c1, .slice A2 0 c2, .slice (some ⟨bc, fc, none⟩) 2 c3], .int .i64 2]) (by rfl) (by rfl) (fun _ => by go_simp) (fun w' hC' hG' => HC1.out w' hC') ?_
  rintro _ ⟨_, _, rfl⟩
  refine ⟨?_, ?_, ?_⟩
  rotate_left
  · go_simp
    rfl
  iterate 30 ((with_reducible refine loose_one (v := ?_) (a' := ?_) ?_ ?_ (fun w' hC' hG' => ?_) ?_ ?_); rotate_left 2; (focus rfl); (focus rfl); (focus (obtain ⟨y1, z0, z1, z2, z3, z4, z5, z6, z7, z8, z9, z10⟩ := HX.out w' hC'; clear hC' hG'; go_simp; rfl)); (focus (go_simp; rfl)))
  refine loose_done (fun w9 hC' hG' => ?_)
  have HG9 := hidden (HGe.out.of_below hC')
  clear hC' hG'
  go_wp2_with fail
  go_ret
  exact ⟨rfl, HGd.out.of_below HG9.out⟩
end Go.Proofs.Ytfjhahhkakfhmaa
/-
  Shaken: what the claims of this seat need of this text. No condition.
-/
namespace Go.Proofs.Ytfjhahhkakfhmaa
set_option maxRecDepth 8000
open Go.RowKit
set_option linter.unusedVariables false
set_option linter.unusedSimpArgs false
theorem own_of_row {w : World} {base g n sz : Nat} {e : TypeId} {xs : List Value} (h : Row w g e xs) (hb : base ≤ g) (hl : xs.length = n * sz) (hn : n ≤ 140737488355328) : w.ownsRow base e sz (.slice (some ⟨g, 0, none⟩) n n) n xs :=
  ⟨hl, .inr ⟨g, n, xs.toArray, rfl, hb, h, Nat.le_refl _, by unfold maxLen; omega, by simp [hl], by simp [← hl]⟩⟩
def filled {α : Type} (l : List α) (k : Nat) (z : α) : List α := l.take k ++ List.replicate (l.length - k) z
theorem filled_zero {α : Type} (l : List α) (z : α) : filled l 0 z = List.replicate l.length z := by simp [filled]
theorem filled_all {α : Type} {l : List α} {k : Nat} (z : α) (h : k = l.length) : filled l k z = l := by subst h; simp [filled]
theorem filled_len {α : Type} {l : List α} {k : Nat} {z : α} (h : k ≤ l.length) : (filled l k z).length = l.length := by simp [filled]; omega
theorem filled_set {α : Type} {l : List α} {k : Nat} {z y : α} (h : l[k]? = some y) : (filled l k z).set k y = filled l (k + 1) z := by
  have hk : k < l.length := (List.getElem?_eq_some_iff.1 h).1
  unfold filled
  rw [List.take_add_one, h]
  have e : l.length - k = (l.length - (k + 1)) + 1 := by omega
  rw [e, List.replicate_succ, List.set_append_right _ _ (by rw [List.length_take]; omega)]
  have e0 : k - (l.take k).length = 0 := by rw [List.length_take]; omega
  rw [e0]
  simp
theorem vcells_set : ∀ (l : List Val) (k : Nat) (y : Val), set3 (vcells l) (k * 3) (.int .i64 y.k) (.int .i64 y.n) (.string y.t) = vcells (l.set k y)
  | [], k, y => by simp [vcells, set3]
  | x :: l, 0, y => by simp [vcells, set3]
  | x :: l, k + 1, y => by
    have ih := vcells_set l k y
    unfold set3 at ih ⊢
    rw [List.set_cons_succ, vcells, vcells, ← ih]
    have e1 : (k + 1) * 3 = k * 3 + 1 + 1 + 1 := by omega
    have e2 : k * 3 + 1 + 1 + 1 + 1 = (k * 3 + 1) + 1 + 1 + 1 := by omega
    have e3 : k * 3 + 1 + 1 + 1 + 2 = (k * 3 + 2) + 1 + 1 + 1 := by omega
    rw [e1, e2, e3]
    simp only [List.set_cons_succ]
theorem made_vals (n : Nat) : madeCells #[.int .i64 0, .int .i64 0, .string ⟨#[]⟩] (n * 3) = (vcells (List.replicate n nulX)).toArray := by
  apply Array.toList_inj.1
  rw [List.toList_toArray]
  apply List.ext_getElem?
  intro j
  by_cases hj : j < n * 3
  · have hq : j / 3 < n := by omega
    have hg : (List.replicate n nulX)[j / 3]? = some nulX := by simp [hq]
    obtain ⟨v0, v1, v2⟩ := vcells_get hg
    have hm : j % 3 < 3 := Nat.mod_lt _ (by decide)
    have hL : (madeCells #[.int .i64 0, .int .i64 0, .string ⟨#[]⟩] (n * 3)).toList[j]? = some ((#[.int .i64 0, .int .i64 0, .string ⟨#[]⟩] : Array Value)[j % 3]!) := by
      simp [madeCells, hj]
    rw [hL]
    rcases (by omega : j % 3 = 0 ∨ j % 3 = 1 ∨ j % 3 = 2) with h | h | h
    · rw [h, show j = j / 3 * 3 by omega, v0]; rfl
    · rw [h, show j = j / 3 * 3 + 1 by omega, v1]; rfl
    · rw [h, show j = j / 3 * 3 + 2 by omega, v2]; rfl
  · rw [List.getElem?_eq_none (by simp [madeCells]; omega), List.getElem?_eq_none (by rw [vcells_length]; simp; omega)]
theorem run_make_val17 (N : Nat) (hN : N ≤ 1000000000000) (W : World) : (Instr.makeSlice 22 (.int .i64 (N : Int)) (.int .i64 (N : Int))).run Try.prog W = .ok (.slice (some ⟨W.heap.size, 0, none⟩) N N) (W.alloc (.cells (vcells (List.replicate N nulX)).toArray 37)) := by
  obtain ⟨i0, hi, hz0, hz1, hz2⟩ := info_parts info_valT
  have h := run_make (P := Try.prog) W 22 37 i0 _ Try.underlying22 hi hz0 .i64 .i64 (N : Int) (N : Int) (by omega) (by omega) (by rw [hz2]; omega) (by omega)
  rw [hz1] at h
  rw [← made_vals]
  simp only [Int.toNat_natCast] at h
  exact h
def VlsRel (v : Vec) (W0 : World) (i : Value) (wr : World) : Prop :=
  ∃ k : Nat, k ≤ v.ns.length ∧ i = .int .i64 (k : Int) ∧ Row wr W0.heap.size 37 (vcells (filled (valsW v) k nulX)) ∧ Grows W0 wr
set_option maxHeartbeats 4000000 in
theorem values17_any (x : Value) (v : Vec) (w : World) (hx : IsV w x v) (hv : OkAt v) (hl : v.ns.length ≤ 1000000000) :
    Calls Try.prog 17 #[x] w (OwnVals (valsW v) w) := by
  have HX := hidden hx
  obtain ⟨a1, a2, a3, rfl, j1, j2, j3⟩ := hx
  obtain ⟨A1, c1, rfl⟩ := j1.slice_
  obtain ⟨A2, c2, rfl⟩ := j2.slice_
  obtain ⟨A3, c3, rfl⟩ := j3.slice_
  clear j1 j2 j3
  have HLN := hidden (show (valsW v).length = v.ns.length by simp [valsW])
  obtain ⟨n3, hn3⟩ : ∃ n, v.ns.length = n := ⟨_, rfl⟩
  obtain ⟨T, hT⟩ : ∃ T, v.T = T := ⟨_, rfl⟩
  have HN := hidden hn3
  generalize v.is.length = n1 at *
  generalize v.ts.length = n2 at *
  rw [hT] at HX ⊢
  rw [hn3] at HX HLN ⊢
  have hl3 : n3 ≤ 1000000000 := by omega
  have HL3 := hidden hl3
  have HMK := hidden (fun W => run_make_val17 n3 (by omega) W)
  have HV := hidden hv
  obtain ⟨W0, hW0⟩ : ∃ W0, W0 = (w.alloc (.cells #[.int .i64 T, .slice A1 n1 c1, .slice A2 n2 c2, .slice A3 n3 c3] 29)) := ⟨_, rfl⟩
  have HG0 := hidden (show Grows w W0 by rw [hW0]; exact (grow1 _))
  have HR := hidden (show Row W0 w.heap.size 29 [.int .i64 T, .slice A1 n1 c1, .slice A2 n2 c2, .slice A3 n3 c3] by rw [hW0]; exact Row.new w 29 #[.int .i64 T, .slice A1 n1 c1, .slice A2 n2 c2, .slice A3 n3 c3] _ rfl)
  have hmk := HMK.out
  have hp3 := HR.out.cell 3
  simp only [List.getElem?_cons_succ, List.getElem?_cons_zero] at hp3
  rw [hW0] at hp3
  have HSZ := hidden (show W0.heap.size = w.heap.size + 1 by rw [hW0]; simp)
  clear hn3 hT hv hl hl3
  go_enter Try.func17, Try.ntmps17
  go_wp2_with fail
  rw [← hW0]
  clear hmk hW0 hp3
  go_loopw [11] (fun i wr => VlsRel v W0 i wr) (fun i _ => n3 - (intOf i).toNat)
  case atStart => 
    exact ⟨0, Nat.zero_le _, rfl, by rw [filled_zero, HLN.out]; exact Row.new W0 _ _ _ rfl, grow1 _⟩
  case round =>
    obtain ⟨k, hk, rfl, hr, hg⟩ := hrel
    rw [HN.out] at hk
    have HRW := hidden hr
    have HGW := hidden hg
    have HBX := hidden (HR.out.grow hg)
    clear hr hg
    have hnb : n3 ≤ 1000000000 := HL3.out
    by_cases hlt : k < n3
    · have hd : decide (k < n3) = true := by simpa using hlt
      have hk0 : (0 : Int) ≤ (k : Int) := by omega
      have hk1 : (k : Int) < (n3 : Int) := by omega
      have hm : n3 - (k + 1) < n3 - k := by omega
      have HK1 := hidden (show k + 1 ≤ v.ns.length by rw [HN.out]; omega)
      have HAT := hidden (fun W (h : Grows w W) => at17_any _ v (k : Int) W (HX.out.grow h) HV.out)
      have HAK := hidden (show (valsW v)[k]? = some (atI v (k : Int)) by
        rw [atI_nat (by rw [HN.out]; exact hlt)]
        unfold valsW
        rw [List.getElem?_map, List.getElem?_range (by rw [HN.out]; exact hlt)]
        rfl)
      generalize atI v (k : Int) = y at *
      have HST := hidden (show set3 (vcells (filled (valsW v) k nulX)) (k * 3) (.int .i64 y.k) (.int .i64 y.n) (.string y.t) = vcells (filled (valsW v) (k + 1) nulX) by rw [vcells_set, filled_set HAK.out])
      have HLE := hidden (show k * 3 + 2 < (vcells (filled (valsW v) k nulX)).length by rw [vcells_length, filled_len (by rw [HLN.out]; omega), HLN.out]; omega)
      generalize vcells (filled (valsW v) k nulX) = cs at *
      clear hlt hk
      go_wp2_with (first
        | (refine wpList_load_vec rfl _ rfl w.heap.size rfl _ _ _ _ HBX.out ?_)
        | (go_at_call 14; refine (HAT.out _ (HG0.out.of_below HGW.out)).mono ?_; rintro e w2 ⟨rfl, g2⟩; have HG2 := hidden (HGW.out.of_below g2); have HR2 := hidden (HRW.out.grow g2); clear g2)
        | (refine wpList_store_f3 rfl _ _ rfl (w.heap.size + 1) (k * 3) rfl y.k y.n y.t rfl _ _ (show Row w2 (w.heap.size + 1) _ _ by rw [← HSZ.out]; exact HR2.out) HLE.out ?_; intro W3 hr3 ht3; rw [HST.out] at hr3; have HR3 := hidden hr3; have HT3 := hidden (ht3.grows W0 HG2.out (by rw [HSZ.out]; omega)); clear hr3 ht3))
      go_roundw
      case rel => exact ⟨k + 1, HK1.out, by go_num, by rw [HSZ.out]; exact HR3.out, HT3.out⟩
      case measure => simpa [intOf] using hm
    · have hke : k = n3 := by omega
      have hd : decide (k < n3) = false := by simpa using hlt
      have HF := hidden (show vcells (filled (valsW v) k nulX) = vcells (valsW v) by rw [filled_all _ (by rw [HLN.out]; exact hke)])
      have HS := hidden (show k ≤ 1000000000 by omega)
      clear hke hlt hk
      go_wp2_with fail
      go_ret
      refine ⟨_, rfl, ?_, HG0.out.of_below HGW.out⟩
      have h := HRW.out
      rw [HF.out, HSZ.out] at h
      have := own_of_row (n := n3) (sz := 3) (base := w.heap.size) h (by omega) (by rw [vcells_length, HLN.out]) (by have := HL3.out; omega)
      rw [HLN.out]
      exact this
end Go.Proofs.Ytfjhahhkakfhmaa
/-
  Shaken: what the claims of this seat need of this text. No condition.
-/
namespace Go.Proofs.Ytfjhahhkakfhmaa
set_option maxRecDepth 8000
open Go.RowKit
set_option linter.unusedVariables false
set_option linter.unusedSimpArgs false
theorem icells_set (l : List Int) (k : Nat) (x : Int) : (icells l).set k (.int .i64 x) = icells (l.set k x) := by simp [icells, List.map_set]
theorem scells_set (l : List Str) (k : Nat) (x : Str) : (scells l).set k (.string (strOf x)) = scells (l.set k x) := by simp [scells, List.map_set]
def GaTRel (L : List Bool) (w : World) (i : Value) (wr : World) : Prop :=
  ∃ k : Nat, k ≤ L.length ∧ i = .int .i64 (k : Int) ∧ Row wr w.heap.size 4 (tcells (filled L k false)) ∧ Grows w wr
def OwnT17 (L : List Bool) (w : World) (e : Ending) (w' : World) : Prop := ∃ u, e = .returned u ∧ w'.ownsRow w.heap.size 4 1 u L.length (tcells L) ∧ Grows w w'
set_option maxHeartbeats 4000000 in
theorem gatherT_any (x u : Value) (l : List Bool) (js : List Int) (d : Bool) (w : World) (hx : IsT w x l) (hu : IsI w u js) (hl : js.length ≤ 1000000000) :
    Calls Try.prog 61 #[x, u, .bool d] w (OwnT17 (js.map (fun i => entD l i d)) w) := by
  have HX := hidden hx
  have HU := hidden hu
  obtain ⟨A1, c1, rfl⟩ := hx.slice_
  obtain ⟨A2, c2, rfl⟩ := hu.slice_
  clear hx hu
  have HLN := hidden (show (js.map (fun i => entD l i d)).length = js.length by simp)
  have HLG := hidden (fun k (h : k < js.length) => show (js.map (fun i => entD l i d))[k]? = some (entD l js[k] d) by rw [List.getElem?_map, List.getElem?_eq_getElem h]; rfl)
  obtain ⟨L, hL⟩ : ∃ L, L = js.map (fun i => entD l i d) := ⟨_, rfl⟩
  rw [← hL] at HLN HLG ⊢
  clear hL
  have HM := hidden (fun W (h : Grows w W) i => entryT_any _ l i d W (HX.out.grow h))
  generalize l.length = m at *
  obtain ⟨n, hn⟩ : ∃ n, js.length = n := ⟨_, rfl⟩
  rw [hn] at HLN HU ⊢
  have HN := hidden hn
  have HL := hidden (show n ≤ 1000000000 by omega)
  have HMK := hidden (fun W => run_make_oneM (P := Try.prog) 27 4 (.bool false) 1 Try.underlying27 infoT14 rfl n (by omega) (by omega) W)
  have hmk := HMK.out
  clear hn hl HX
  go_enter Try.func61, Try.ntmps61
  go_wp2_with fail
  clear hmk
  go_loopw [15] (fun i wr => GaTRel L w i wr) (fun i _ => n - (intOf i).toNat)
  case atStart =>
    exact ⟨0, Nat.zero_le _, rfl, by rw [filled_zero, HLN.out]; exact Row.new w _ _ _ (by unfold tcells; rw [List.map_replicate]; rfl), grow1 _⟩
  case round =>
    obtain ⟨k, hk, rfl, hr, hg⟩ := hrel
    rw [HLN.out] at hk
    have HRW := hidden hr
    have HGW := hidden hg
    clear hr hg
    have hnb : n ≤ 1000000000 := HL.out
    by_cases hlt : k < n
    · have hkl : k < js.length := by rw [HN.out]; exact hlt
      have HLK := hidden (HLG.out k hkl)
      have hc : ∃ (b0 off : Nat) (i : Int), A2 = some ⟨b0, off, none⟩ ∧ wr.cell? ⟨b0, off + k, none⟩ = some (.int .i64 i) ∧ js[k] = i := by
        have HU' := HU.out
        rw [← HN.out] at HU'
        obtain ⟨b0, off, e, hcc⟩ := HU'.at_ hkl
        exact ⟨b0, off, _, e, (HGW.out.cell (World.block_lt_of_cell? _ _ hcc)).trans hcc, rfl⟩
      obtain ⟨b0, off, i, rfl, hci, hji⟩ := hc
      rw [hji] at HLK
      have hd : decide (k < n) = true := by simpa using hlt
      have hk0 : (0 : Int) ≤ (k : Int) := by omega
      have hk1 : (k : Int) < (n : Int) := by omega
      have hm : n - (k + 1) < n - k := by omega
      have HK1 := hidden (show k + 1 ≤ L.length by rw [HLN.out]; omega)
      have HEN := hidden (HM.out wr HGW.out i)
      generalize entD l i d = y at *
      have HST := hidden (show (tcells (filled L k false)).set k (.bool y) = tcells (filled L (k + 1) false) by rw [tcells_set, filled_set HLK.out])
      have HLE := hidden (show k < (tcells (filled L k false)).length by rw [tcells_length, filled_len (by rw [HLN.out]; omega), HLN.out]; omega)
      generalize tcells (filled L k false) = cs at *
      clear hlt hk hkl hji
      go_wp2_with (first
        | (go_at_call 51; refine HEN.out.mono ?_; rintro e w2 ⟨rfl, rfl⟩)
        | (refine wpList_store_c rfl 4 _ _ rfl (by kernel_rfl) w.heap.size k rfl (.bool y) rfl rfl _ _ HRW.out HLE.out ?_; intro W3 hr3 ho3; rw [HST.out] at hr3; have HR3 := hidden hr3; have HG3 := hidden (ho3.below HGW.out (fun i hi => by omega)); clear hr3 ho3))
      go_roundw
      case rel => exact ⟨k + 1, HK1.out, by go_num, HR3.out, HG3.out⟩
      case measure => simpa [intOf] using hm
    · have hke : k = n := by omega
      have hd : decide (k < n) = false := by simpa using hlt
      have HF := hidden (show tcells (filled L k false) = tcells L by rw [filled_all _ (by rw [HLN.out]; exact hke)])
      clear hke hlt hk
      go_wp2_with fail
      go_ret
      refine ⟨_, rfl, ?_, HGW.out⟩
      have h := HRW.out
      rw [HF.out] at h
      have := own_of_row (n := n) (sz := 1) (base := w.heap.size) h (Nat.le_refl _) (by rw [tcells_length, HLN.out]; omega) (by have := HL.out; omega)
      rw [HLN.out]
      exact this
def GaIRel (L : List Int) (w : World) (i : Value) (wr : World) : Prop :=
  ∃ k : Nat, k ≤ L.length ∧ i = .int .i64 (k : Int) ∧ Row wr w.heap.size 2 (icells (filled L k 0)) ∧ Grows w wr
def OwnI17 (L : List Int) (w : World) (e : Ending) (w' : World) : Prop := ∃ u, e = .returned u ∧ w'.ownsRow w.heap.size 2 1 u L.length (icells L) ∧ Grows w w'
set_option maxHeartbeats 4000000 in
theorem gatherI_any (x u : Value) (l : List Int) (js : List Int) (d : Int) (w : World) (hx : IsI w x l) (hu : IsI w u js) (hl : js.length ≤ 1000000000) :
    Calls Try.prog 62 #[x, u, .int .i64 d] w (OwnI17 (js.map (fun i => entD l i d)) w) := by
  have HX := hidden hx
  have HU := hidden hu
  obtain ⟨A1, c1, rfl⟩ := hx.slice_
  obtain ⟨A2, c2, rfl⟩ := hu.slice_
  clear hx hu
  have HLN := hidden (show (js.map (fun i => entD l i d)).length = js.length by simp)
  have HLG := hidden (fun k (h : k < js.length) => show (js.map (fun i => entD l i d))[k]? = some (entD l js[k] d) by rw [List.getElem?_map, List.getElem?_eq_getElem h]; rfl)
  obtain ⟨L, hL⟩ : ∃ L, L = js.map (fun i => entD l i d) := ⟨_, rfl⟩
  rw [← hL] at HLN HLG ⊢
  clear hL
  have HM := hidden (fun W (h : Grows w W) i => entryI_any _ l i d W (HX.out.grow h))
  generalize l.length = m at *
  obtain ⟨n, hn⟩ : ∃ n, js.length = n := ⟨_, rfl⟩
  rw [hn] at HLN HU ⊢
  have HN := hidden hn
  have HL := hidden (show n ≤ 1000000000 by omega)
  have HMK := hidden (fun W => run_make_oneM (P := Try.prog) 25 2 (.int .i64 0) 8 Try.underlying25 infoI14 rfl n (by omega) (by omega) W)
  have hmk := HMK.out
  clear hn hl HX
  go_enter Try.func62, Try.ntmps62
  go_wp2_with fail
  clear hmk
  go_loopw [15] (fun i wr => GaIRel L w i wr) (fun i _ => n - (intOf i).toNat)
  case atStart =>
    exact ⟨0, Nat.zero_le _, rfl, by rw [filled_zero, HLN.out]; exact Row.new w _ _ _ (by unfold icells; rw [List.map_replicate]; rfl), grow1 _⟩
  case round =>
    obtain ⟨k, hk, rfl, hr, hg⟩ := hrel
    rw [HLN.out] at hk
    have HRW := hidden hr
    have HGW := hidden hg
    clear hr hg
    have hnb : n ≤ 1000000000 := HL.out
    by_cases hlt : k < n
    · have hkl : k < js.length := by rw [HN.out]; exact hlt
      have HLK := hidden (HLG.out k hkl)
      have hc : ∃ (b0 off : Nat) (i : Int), A2 = some ⟨b0, off, none⟩ ∧ wr.cell? ⟨b0, off + k, none⟩ = some (.int .i64 i) ∧ js[k] = i := by
        have HU' := HU.out
        rw [← HN.out] at HU'
        obtain ⟨b0, off, e, hcc⟩ := HU'.at_ hkl
        exact ⟨b0, off, _, e, (HGW.out.cell (World.block_lt_of_cell? _ _ hcc)).trans hcc, rfl⟩
      obtain ⟨b0, off, i, rfl, hci, hji⟩ := hc
      rw [hji] at HLK
      have hd : decide (k < n) = true := by simpa using hlt
      have hk0 : (0 : Int) ≤ (k : Int) := by omega
      have hk1 : (k : Int) < (n : Int) := by omega
      have hm : n - (k + 1) < n - k := by omega
      have HK1 := hidden (show k + 1 ≤ L.length by rw [HLN.out]; omega)
      have HEN := hidden (HM.out wr HGW.out i)
      generalize entD l i d = y at *
      have HST := hidden (show (icells (filled L k 0)).set k (.int .i64 y) = icells (filled L (k + 1) 0) by rw [icells_set, filled_set HLK.out])
      have HLE := hidden (show k < (icells (filled L k 0)).length by rw [icells_length, filled_len (by rw [HLN.out]; omega), HLN.out]; omega)
      generalize icells (filled L k 0) = cs at *
      clear hlt hk hkl hji
      go_wp2_with (first
        | (go_at_call 52; refine HEN.out.mono ?_; rintro e w2 ⟨rfl, rfl⟩)
        | (refine wpList_store_c rfl 2 _ _ rfl (by kernel_rfl) w.heap.size k rfl (.int .i64 y) rfl rfl _ _ HRW.out HLE.out ?_; intro W3 hr3 ho3; rw [HST.out] at hr3; have HR3 := hidden hr3; have HG3 := hidden (ho3.below HGW.out (fun i hi => by omega)); clear hr3 ho3))
      go_roundw
      case rel => exact ⟨k + 1, HK1.out, by go_num, HR3.out, HG3.out⟩
      case measure => simpa [intOf] using hm
    · have hke : k = n := by omega
      have hd : decide (k < n) = false := by simpa using hlt
      have HF := hidden (show icells (filled L k 0) = icells L by rw [filled_all _ (by rw [HLN.out]; exact hke)])
      clear hke hlt hk
      go_wp2_with fail
      go_ret
      refine ⟨_, rfl, ?_, HGW.out⟩
      have h := HRW.out
      rw [HF.out] at h
      have := own_of_row (n := n) (sz := 1) (base := w.heap.size) h (Nat.le_refl _) (by rw [icells_length, HLN.out]; omega) (by have := HL.out; omega)
      rw [HLN.out]
      exact this
def GaSRel (L : List Str) (w : World) (i : Value) (wr : World) : Prop :=
  ∃ k : Nat, k ≤ L.length ∧ i = .int .i64 (k : Int) ∧ Row wr w.heap.size 9 (scells (filled L k [])) ∧ Grows w wr
def OwnS17 (L : List Str) (w : World) (e : Ending) (w' : World) : Prop := ∃ u, e = .returned u ∧ w'.ownsRow w.heap.size 9 1 u L.length (scells L) ∧ Grows w w'
set_option maxHeartbeats 4000000 in
theorem gatherS_any (x u : Value) (l : List Str) (js : List Int) (d : Str) (w : World) (hx : IsS w x l) (hu : IsI w u js) (hl : js.length ≤ 1000000000) :
    Calls Try.prog 63 #[x, u, .string (strOf d)] w (OwnS17 (js.map (fun i => entD l i d)) w) := by
  have HX := hidden hx
  have HU := hidden hu
  obtain ⟨A1, c1, rfl⟩ := hx.slice_
  obtain ⟨A2, c2, rfl⟩ := hu.slice_
  clear hx hu
  have HLN := hidden (show (js.map (fun i => entD l i d)).length = js.length by simp)
  have HLG := hidden (fun k (h : k < js.length) => show (js.map (fun i => entD l i d))[k]? = some (entD l js[k] d) by rw [List.getElem?_map, List.getElem?_eq_getElem h]; rfl)
  obtain ⟨L, hL⟩ : ∃ L, L = js.map (fun i => entD l i d) := ⟨_, rfl⟩
  rw [← hL] at HLN HLG ⊢
  clear hL
  have HM := hidden (fun W (h : Grows w W) i => entryS_any _ l i d W (HX.out.grow h))
  generalize l.length = m at *
  obtain ⟨n, hn⟩ : ∃ n, js.length = n := ⟨_, rfl⟩
  rw [hn] at HLN HU ⊢
  have HN := hidden hn
  have HL := hidden (show n ≤ 1000000000 by omega)
  have HMK := hidden (fun W => run_make_oneM (P := Try.prog) 26 9 (.string ⟨#[]⟩) 16 Try.underlying26 infoS14 rfl n (by omega) (by omega) W)
  have hmk := HMK.out
  clear hn hl HX
  go_enter Try.func63, Try.ntmps63
  go_wp2_with fail
  clear hmk
  go_loopw [15] (fun i wr => GaSRel L w i wr) (fun i _ => n - (intOf i).toNat)
  case atStart =>
    exact ⟨0, Nat.zero_le _, rfl, by rw [filled_zero, HLN.out]; exact Row.new w _ _ _ (by unfold scells; rw [List.map_replicate]; rfl), grow1 _⟩
  case round =>
    obtain ⟨k, hk, rfl, hr, hg⟩ := hrel
    rw [HLN.out] at hk
    have HRW := hidden hr
    have HGW := hidden hg
    clear hr hg
    have hnb : n ≤ 1000000000 := HL.out
    by_cases hlt : k < n
    · have hkl : k < js.length := by rw [HN.out]; exact hlt
      have HLK := hidden (HLG.out k hkl)
      have hc : ∃ (b0 off : Nat) (i : Int), A2 = some ⟨b0, off, none⟩ ∧ wr.cell? ⟨b0, off + k, none⟩ = some (.int .i64 i) ∧ js[k] = i := by
        have HU' := HU.out
        rw [← HN.out] at HU'
        obtain ⟨b0, off, e, hcc⟩ := HU'.at_ hkl
        exact ⟨b0, off, _, e, (HGW.out.cell (World.block_lt_of_cell? _ _ hcc)).trans hcc, rfl⟩
      obtain ⟨b0, off, i, rfl, hci, hji⟩ := hc
      rw [hji] at HLK
      have hd : decide (k < n) = true := by simpa using hlt
      have hk0 : (0 : Int) ≤ (k : Int) := by omega
      have hk1 : (k : Int) < (n : Int) := by omega
      have hm : n - (k + 1) < n - k := by omega
      have HK1 := hidden (show k + 1 ≤ L.length by rw [HLN.out]; omega)
      have HEN := hidden (HM.out wr HGW.out i)
      generalize entD l i d = y at *
      have HST := hidden (show (scells (filled L k [])).set k (.string (strOf y)) = scells (filled L (k + 1) []) by rw [scells_set, filled_set HLK.out])
      have HLE := hidden (show k < (scells (filled L k [])).length by rw [scells_length, filled_len (by rw [HLN.out]; omega), HLN.out]; omega)
      generalize scells (filled L k []) = cs at *
      clear hlt hk hkl hji
      go_wp2_with (first
        | (go_at_call 53; refine HEN.out.mono ?_; rintro e w2 ⟨rfl, rfl⟩)
        | (refine wpList_store_c rfl 9 _ _ rfl (by kernel_rfl) w.heap.size k rfl (.string (strOf y)) rfl rfl _ _ HRW.out HLE.out ?_; intro W3 hr3 ho3; rw [HST.out] at hr3; have HR3 := hidden hr3; have HG3 := hidden (ho3.below HGW.out (fun i hi => by omega)); clear hr3 ho3))
      go_roundw
      case rel => exact ⟨k + 1, HK1.out, by go_num, HR3.out, HG3.out⟩
      case measure => simpa [intOf] using hm
    · have hke : k = n := by omega
      have hd : decide (k < n) = false := by simpa using hlt
      have HF := hidden (show scells (filled L k []) = scells L by rw [filled_all _ (by rw [HLN.out]; exact hke)])
      clear hke hlt hk
      go_wp2_with fail
      go_ret
      refine ⟨_, rfl, ?_, HGW.out⟩
      have h := HRW.out
      rw [HF.out] at h
      have := own_of_row (n := n) (sz := 1) (base := w.heap.size) h (Nat.le_refl _) (by rw [scells_length, HLN.out]; omega) (by have := HL.out; omega)
      rw [HLN.out]
      exact this
end Go.Proofs.Ytfjhahhkakfhmaa
/-
  Shaken: what the claims of this seat need of this text. No condition.
-/
namespace Go.Proofs.Ytfjhahhkakfhmaa
set_option maxRecDepth 8000
open Go.RowKit
set_option linter.unusedVariables false
set_option linter.unusedSimpArgs false
structure VarSt (w : World) (g : Nat) (T : Int) (v : Vec) (p q r : Value) (X : World) : Prop where
  low : w.heap.size ≤ g
  row : Row X g 29 [.int .i64 T, p, q, r]
  own : OwnV w.heap.size X (.agg #[.int .i64 T, p, q, r]) v
  grows : Grows w X
theorem VarSt.grow {w : World} {g : Nat} {T : Int} {v : Vec} {p q r : Value} {X Y : World} (h : VarSt w g T v p q r X) (hg : Grows X Y) : VarSt w g T v p q r Y :=
  ⟨h.low, h.row.grow hg, h.own.only (Only.of_grows hg (fun _ => False)) (fun _ _ => id), h.grows.of_below hg⟩
theorem ownV_apart {b g : Nat} {X : World} {x : Value} {v : Vec} {e : TypeId} {ys : List Value} (h : OwnV b X x v) (hr : Row X g e ys) (h1 : 2 ≠ e) (h2 : 9 ≠ e) (h3 : 4 ≠ e) : ∀ k, blocksV x k → ¬ k = g := by
  obtain ⟨a, b', c, rfl, o1, o2, o3⟩ := h
  intro k hk he
  subst he
  rcases hk with hk | hk | hk
  · exact ownsRow_row_apart o1 hr h1 hk
  · exact ownsRow_row_apart o2 hr h2 hk
  · exact ownsRow_row_apart o3 hr h3 hk
theorem VarSt.store {w : World} {g : Nat} {T : Int} {v v' : Vec} {p q r p' q' r' : Value} {X Y : World} (h : VarSt w g T v p q r X) (hown : OwnV w.heap.size X (.agg #[.int .i64 T, p', q', r']) v') (ho : Only (fun i => i = g) X Y) (hr : Row Y g 29 [.int .i64 T, p', q', r']) : VarSt w g T v' p' q' r' Y :=
  ⟨h.low, hr, hown.only ho (ownV_apart hown h.row (by decide) (by decide) (by decide)), ho.below h.grows (fun i hi => by rw [hi]; exact h.low)⟩
theorem VarSt.ones {w : World} {g : Nat} {T : Int} {v : Vec} {p q r : Value} {X : World} (h : VarSt w g T v p q r X) : (#[.int .i64 T, p, q, r] : Array Value).all (·.oneCell') = true := by
  obtain ⟨a, b, c, he, h1, h2, h3⟩ := h.own
  injection he with he
  simp only [Array.mk.injEq, List.cons.injEq, and_true] at he
  obtain ⟨-, rfl, rfl, rfl⟩ := he
  exact all4 rfl (ownsRow_one h1) (ownsRow_one h2) (ownsRow_one h3)
theorem VarSt.result {w W0 : World} {g d : Nat} {T : Int} {v : Vec} {p q r : Value} {X Y : World} {ys : List Value} (h : VarSt W0 g T v p q r X) (hw : Grows w W0) (ho : Only (fun i => i = d) X Y) (hd : w.heap.size ≤ d) (hrd : Row X d 29 ys) : OwnV w.heap.size Y (.agg #[.int .i64 T, p, q, r]) v ∧ Grows w Y :=
  ⟨(h.own.only ho (ownV_apart h.own hrd (by decide) (by decide) (by decide))).base_ hw.size, ho.below (hw.of_below h.grows) (fun i hi => by rw [hi]; exact hd)⟩
theorem OwnV.parts {b : Nat} {X : World} {t p q r : Value} {v : Vec} (h : OwnV b X (.agg #[t, p, q, r]) v) : t = .int .i64 v.T ∧ X.ownsRow b 2 1 p v.is.length (icells v.is) ∧ X.ownsRow b 9 1 q v.ts.length (scells v.ts) ∧ X.ownsRow b 4 1 r v.ns.length (tcells v.ns) := by
  obtain ⟨a, b, c, he, h1, h2, h3⟩ := h
  injection he with he
  simp only [Array.mk.injEq, List.cons.injEq, and_true] at he
  obtain ⟨rfl, rfl, rfl, rfl⟩ := he
  exact ⟨rfl, h1, h2, h3⟩
theorem VarSt.start {w X Y : World} {g : Nat} {T : Int} {u : Value} {L : List Bool} {ys : List Value} (hg : w.heap.size ≤ g) (hX : Grows w X) (hrow : Row X g 29 ys) (hu : X.ownsRow w.heap.size 4 1 u L.length (tcells L)) (ho : Only (fun i => i = g) X Y) (hr : Row Y g 29 [.int .i64 T, .slice none 0 0, .slice none 0 0, u]) :
    VarSt w g T ⟨T, [], [], L⟩ (.slice none 0 0) (.slice none 0 0) u Y := by
  have hown : OwnV w.heap.size X (.agg #[.int .i64 T, .slice none 0 0, .slice none 0 0, u]) ⟨T, [], [], L⟩ := ⟨_, _, _, rfl, World.ownsRow_nil _ _ _ _, World.ownsRow_nil _ _ _ _, hu⟩
  exact ⟨hg, hr, hown.only ho (ownV_apart hown hrow (by decide) (by decide) (by decide)), ho.below hX (fun i hi => by rw [hi]; exact hg)⟩
theorem VarSt.setI {w : World} {g : Nat} {T : Int} {is is' : List Int} {ts : List Str} {ns : List Bool} {p q r u : Value} {X Y : World} (h : VarSt w g T ⟨T, is, ts, ns⟩ p q r X) (hown : X.ownsRow w.heap.size 2 1 u is'.length (icells is')) (hr : Row Y g 29 [.int .i64 T, u, q, r]) (ho : Only (fun i => i = g) X Y) : VarSt w g T ⟨T, is', ts, ns⟩ u q r Y :=
  h.store ⟨_, _, _, rfl, hown, h.own.parts.2.2.1, h.own.parts.2.2.2⟩ ho hr
theorem VarSt.setS {w : World} {g : Nat} {T : Int} {is : List Int} {ts ts' : List Str} {ns : List Bool} {p q r u : Value} {X Y : World} (h : VarSt w g T ⟨T, is, ts, ns⟩ p q r X) (hown : X.ownsRow w.heap.size 9 1 u ts'.length (scells ts')) (hr : Row Y g 29 [.int .i64 T, p, u, r]) (ho : Only (fun i => i = g) X Y) : VarSt w g T ⟨T, is, ts', ns⟩ p u r Y :=
  h.store ⟨_, _, _, rfl, h.own.parts.2.1, hown, h.own.parts.2.2.2⟩ ho hr
def NewV (H : Nat) : Value → World → Prop := fun v w => ∃ b, v = .pointer (some ⟨b, 0, none⟩) ∧ H ≤ b ∧ Row w b 29 [.int .i64 0, .slice none 0 0, .slice none 0 0, .slice none 0 0]
theorem NewV.lasts {H : Nat} : ∀ v w w', NewV H v w → Grows w w' → NewV H v w' := fun _ _ _ ⟨b, h1, h2, h3⟩ hg => ⟨b, h1, h2, h3.grow hg⟩
def OwnTB (base : Nat) (L : List Bool) : Value → World → Prop := fun v w => w.ownsRow base 4 1 v L.length (tcells L)
theorem OwnTB.lasts {base : Nat} {L : List Bool} : ∀ v w w', OwnTB base L v w → Grows w w' → OwnTB base L v w' := fun _ _ _ h hg => ownsRow_grow h hg
set_option maxHeartbeats 8000000 in
theorem vgather_any (x : Value) (v : Vec) (u : Value) (l : List Int) (w : World) (hx : IsV w x v) (hv : validVB v = true) (hu : IsI w u l) (hl : l.length ≤ 1000000000) :
    Calls Try.prog 24 #[x, u] w (VecR (gatherV v l) w) := by
  rw [gatherV_eq hv]
  have hT4 := isTypeB_iff.1 (validVB_iff.1 hv).1
  obtain ⟨T, is, ts, ns⟩ := v
  obtain ⟨a1, a2, a3, rfl, j1, j2, j3⟩ := hx
  dsimp only at *
  clear hv
  have HU := hidden hu
  have HT := hidden (fun W (h : Grows w W) => gatherT_any a3 u ns l true W (j3.grow h) (hu.grow h) hl)
  have HI := hidden (fun W (h : Grows w W) => gatherI_any a1 u is l 0 W (j1.grow h) (hu.grow h) hl)
  have HS' := hidden (fun W (h : Grows w W) => gatherS_any a2 u ts l [] W (j2.grow h) (hu.grow h) hl)
  have hs0 : (strOf [] : ByteArray) = ⟨#[]⟩ := rfl
  rw [hs0] at HS'
  obtain ⟨A1, c1, rfl⟩ := j1.slice_
  obtain ⟨A2, c2, rfl⟩ := j2.slice_
  obtain ⟨A3, c3, rfl⟩ := j3.slice_
  obtain ⟨A, c, rfl⟩ := hu.slice_
  have HLT := hidden (show (l.map (fun i => entD ns i true)).length = l.length by simp)
  clear j1 j2 j3 hs0 hu HU
  generalize l.map (fun i => entD ns i true) = LT at *
  generalize l.map (fun i => entD is i 0) = LI at *
  generalize l.map (fun i => entD ts i []) = LS at *
  generalize is.length = n1 at *
  generalize ts.length = n2 at *
  generalize ns.length = n3 at *
  generalize l.length = n at *
  obtain ⟨W0, hW0⟩ : ∃ W0, W0 = (w.alloc (.cells #[.int .i64 T, .slice A1 n1 c1, .slice A2 n2 c2, .slice A3 n3 c3] 29)).alloc (.cells #[.int .i64 0, .slice none 0 0, .slice none 0 0, .slice none 0 0] 29) := ⟨_, rfl⟩
  have HG0 := hidden (show Grows w W0 by rw [hW0]; exact (grow1 _).of_below (grow1 _))
  have HV0 := hidden (show Row W0 w.heap.size 29 [.int .i64 T, .slice A1 n1 c1, .slice A2 n2 c2, .slice A3 n3 c3] by rw [hW0]; exact (Row.new w 29 #[.int .i64 T, .slice A1 n1 c1, .slice A2 n2 c2, .slice A3 n3 c3] _ rfl).grow (grow1 _))
  have HD0 := hidden (show Row W0 (w.heap.size + 1) 29 [.int .i64 0, .slice none 0 0, .slice none 0 0, .slice none 0 0] by rw [hW0]; exact Row.at_ (w.alloc _) 29 #[.int .i64 0, .slice none 0 0, .slice none 0 0, .slice none 0 0] _ rfl (w.heap.size + 1) (by simp))
  have HSZ := hidden (show W0.heap.size = w.heap.size + 2 by rw [hW0]; simp)
  have HCX : Hid (∀ X, Grows W0 X → X.cell? ⟨w.heap.size, 0, none⟩ = some (.int .i64 T) ∧ X.cell? ⟨w.heap.size, 3, none⟩ = some (.slice A3 n3 c3)) := hidden fun X h => ⟨(HV0.out.grow h).cell 0, (HV0.out.grow h).cell 3⟩
  have HC1 := hidden (fun W (h : Grows W0 W) => show Calls Try.prog 61 #[.slice A3 n3 c3, .slice A n c, .bool true] W (fun e w' => ∃ v, e = .returned v ∧ Grows W w' ∧ OwnTB W0.heap.size LT v w') from (HT.out W (HG0.out.of_below h)).mono fun e w' ⟨v, he, ho, hg⟩ => ⟨v, he, hg, ownsRow_base ho h.size⟩)
  have HW := hidden hW0
  clear hW0 hl
  rcases hT4 with rfl | rfl | rfl | rfl
  all_goals
    go_enter Try.func24, Try.ntmps24
    go_wp2_with fail
    rw [← HW.out]
    refine wp_region_loose_tail 8 (tabRs [(5, OwnTB W0.heap.size LT), (7, NewV W0.heap.size)]) (by kernel_rfl) (by kernel_rfl) (tabRs_cons OwnTB.lasts (tabRs_cons NewV.lasts tabRs_nil)) ?_
    simp only [List.take_succ_cons, List.take_zero, List.drop_succ_cons, List.drop_zero]
    iterate 5 ((with_reducible refine loose_one (v := ?_) (a' := ?_) ?_ ?_ (fun w' hC' hG' => ?_) ?_ ?_); rotate_left 2; (focus rfl); (focus rfl); (focus (obtain ⟨s0, s3⟩ := HCX.out w' hC'; clear hC' hG'; go_simp; rfl)); (focus (go_simp; rfl)))
    refine loose_call (R := OwnTB W0.heap.size LT) (f := 61) (args := #[.slice A3 n3 c3, .slice A n c, .bool true]) (by rfl) (by rfl) (fun _ => by go_simp) (fun w' hC' hG' => HC1.out w' hC') ?_
    rintro r ⟨w5, w6, hr5⟩
    obtain ⟨UA, UN, UC, rfl⟩ := ownsRow_slice hr5
    refine ⟨?_, ?_, ?_⟩
    rotate_left
    · go_simp
      rfl
    iterate 1 ((with_reducible refine loose_one (v := ?_) (a' := ?_) ?_ ?_ (fun w' hC' hG' => ?_) ?_ ?_); rotate_left 2; (focus rfl); (focus rfl); (focus (clear hC' hG'; go_simp; rfl)); (focus (go_simp; rfl)))
    refine loose_new (R := NewV W0.heap.size) (by rfl) (by rfl) (fun w' hC' hG' => ?_) ?_
    · exact ⟨.pointer (some ⟨w'.heap.size, 0, none⟩), w'.alloc (.cells #[.int .i64 0, .slice none 0 0, .slice none 0 0, .slice none 0 0] 29), by first | rfl | go_simp, grow1 _, w'.heap.size, rfl, hC'.size, Row.new w' 29 #[.int .i64 0, .slice none 0 0, .slice none 0 0, .slice none 0 0] _ rfl⟩
    rintro _ ⟨_, _, g, rfl, _, _⟩
    refine ⟨?_, ?_, ?_⟩
    rotate_left
    · go_simp
      rfl
    refine loose_done (fun w9 hC' hG' => ?_)
    obtain ⟨g9, e9, hg9, hrow9⟩ : NewV W0.heap.size (.pointer (some ⟨g, 0, none⟩)) w9 := (hG' 7).2 rfl
    injection e9 with e9
    injection e9 with e9
    injection e9 with e9
    subst e9
    have hT9 : OwnTB W0.heap.size LT (.slice UA UN UC) w9 := (hG' 5).1.2 rfl
    have HT9 := hidden hT9
    have HR9 := hidden hrow9
    have HLO := hidden hg9
    have HC9 := hidden hC'
    clear hC' hG' w6 hr5 hT9 hrow9 hg9
    go_wp2_with (first
      | (refine wpList_store_vc rfl _ _ rfl g rfl _ _ _ _ rfl (all4 rfl rfl rfl rfl) HR9.out ?_; intro W hr ho; have HS := hidden (VarSt.start HLO.out HC9.out HR9.out HT9.out ho hr); have b0 := (HV0.out.grow HS.out.grows).cell 0; have b1 := (HV0.out.grow HS.out.grows).cell 1; have b2 := (HV0.out.grow HS.out.grows).cell 2; simp only [List.getElem?_cons_succ, List.getElem?_cons_zero] at b0 b1 b2; clear hr ho)
      | (go_at_call 62; refine (HI.out _ (HG0.out.of_below HS.out.grows)).mono ?_; rintro e w2 ⟨u2, rfl, ho2, g2⟩; obtain ⟨VA, VN, VC, rfl⟩ := ownsRow_slice ho2; have HU2 := hidden (ownsRow_base ho2 HS.out.grows.size); have HS2 := hidden (HS.out.grow g2); clear ho2 g2)
      | (go_at_call 63; refine (HS'.out _ (HG0.out.of_below HS.out.grows)).mono ?_; rintro e w2 ⟨u2, rfl, ho2, g2⟩; obtain ⟨VA, VN, VC, rfl⟩ := ownsRow_slice ho2; have HU2 := hidden (ownsRow_base ho2 HS.out.grows.size); have HS2 := hidden (HS.out.grow g2); clear ho2 g2)
      | (refine wpList_store_c rfl 25 _ _ rfl (by kernel_rfl) g 1 rfl (.slice VA VN VC) rfl rfl _ _ HS2.out.row (by simp) ?_; intro W hr ho; have HS3 := hidden (HS2.out.setI HU2.out hr ho); clear hr ho)
      | (refine wpList_store_c rfl 26 _ _ rfl (by kernel_rfl) g 2 rfl (.slice VA VN VC) rfl rfl _ _ HS2.out.row (by simp) ?_; intro W hr ho; have HS3 := hidden (HS2.out.setS HU2.out hr ho); clear hr ho)
      | (refine wpList_load_vec rfl _ rfl g rfl _ _ _ _ HS3.out.row ?_)
      | (refine wpList_load_vec rfl _ rfl g rfl _ _ _ _ HS.out.row ?_)
      | (refine wpList_store_vc rfl _ _ rfl (w.heap.size + 1) rfl _ _ _ _ rfl HS3.out.ones (HD0.out.grow HS3.out.grows) ?_; intro W hr ho; have HRF := hidden hr; have HRE := hidden (HS3.out.result HG0.out ho (by omega) (HD0.out.grow HS3.out.grows)); clear hr ho)
      | (refine wpList_store_vc rfl _ _ rfl (w.heap.size + 1) rfl _ _ _ _ rfl HS.out.ones (HD0.out.grow HS.out.grows) ?_; intro W hr ho; have HRF := hidden hr; have HRE := hidden (HS.out.result HG0.out ho (by omega) (HD0.out.grow HS.out.grows)); clear hr ho))
    exact bodyPost_ret (results_vec rfl _ _ _ _ _ _ _ rfl HRF.out) rfl ⟨_, rfl, HRE.out.1, HRE.out.2⟩
end Go.Proofs.Ytfjhahhkakfhmaa
/-
  Shaken: what the claims of this seat need of this text. No condition.
-/
namespace Go.Proofs.Ytfjhahhkakfhmaa
set_option maxRecDepth 8000
open Go.RowKit
set_option linter.unusedVariables false
set_option linter.unusedSimpArgs false
theorem filled_same {α : Type} {l : List α} {k : Nat} {z : α} (h : l[k]? = some z) : filled l k z = filled l (k + 1) z := by
  rw [← filled_set h]
  have hk : k < l.length := (List.getElem?_eq_some_iff.1 h).1
  apply List.ext_getElem?
  intro j
  by_cases hj : j = k
  · subst hj
    unfold filled
    rw [List.getElem?_set_self (by simp; omega), List.getElem?_append_right (by rw [List.length_take]; omega), List.getElem?_replicate, if_pos (by rw [List.length_take]; omega)]
  · rw [List.getElem?_set_ne (fun e => hj e.symm)]
structure BuSt (w : World) (T : Int) (p q : Value) (n : Nat) (NS : List Bool) (X : World) : Prop where
  row : Row X (w.heap.size + 2) 29 [.int .i64 T, p, q, .slice (some ⟨w.heap.size + 1, 0, none⟩) n n]
  nul : Row X (w.heap.size + 1) 4 (tcells NS)
  res : Row X w.heap.size 29 [.int .i64 0, .slice none 0 0, .slice none 0 0, .slice none 0 0]
  grows : Grows w X
theorem BuSt.grow {w : World} {T : Int} {p q : Value} {n : Nat} {NS : List Bool} {X Y : World} (h : BuSt w T p q n NS X) (hg : Grows X Y) : BuSt w T p q n NS Y := ⟨h.row.grow hg, h.nul.grow hg, h.res.grow hg, h.grows.of_below hg⟩
theorem BuSt.nulls {w : World} {T : Int} {p q : Value} {n : Nat} {NS NS' : List Bool} {X Y : World} (h : BuSt w T p q n NS X) (ho : Only (fun i => i = w.heap.size + 1) X Y) (hr : Row Y (w.heap.size + 1) 4 (tcells NS')) : BuSt w T p q n NS' Y :=
  ⟨ho.row h.row (by omega), hr, ho.row h.res (by omega), ho.below h.grows (fun i hi => by omega)⟩
theorem BuSt.entry {w : World} {T : Int} {p q : Value} {n : Nat} {NS : List Bool} {X Y : World} (h : BuSt w T p q n NS X) (ho : Only (fun i => i = w.heap.size + 3) X Y) : BuSt w T p q n NS Y :=
  ⟨ho.row h.row (by omega), ho.row h.nul (by omega), ho.row h.res (by omega), ho.below h.grows (fun i hi => by omega)⟩
theorem nul_entry {y : Val} (hy : validV y.k y.n y.t = true) (h : y.k = 0) : y.n = 0 ∧ y.t.data.toList = [] := by
  unfold validV at hy
  rw [if_pos h] at hy
  simp only [Bool.and_eq_true] at hy
  exact ⟨by simpa using hy.1, toList_empty hy.2⟩
theorem vecZero (w : World) : Row (w.alloc (.cells #[.int .i64 0, .slice none 0 0, .slice none 0 0, .slice none 0 0] 29)) w.heap.size 29 [.int .i64 0, .slice none 0 0, .slice none 0 0, .slice none 0 0] := Row.new w _ _ _ rfl
def BuNRel (w : World) (T : Int) (l : List Val) (n : Nat) (i : Value) (wr : World) : Prop :=
  ∃ k : Nat, k ≤ l.length ∧ i = .int .i64 (k : Int) ∧ BuSt w T (.slice none 0 0) (.slice none 0 0) n (filled (l.map (fun y => decide (y.k = 0))) k false) wr
set_option maxHeartbeats 8000000 in
theorem buildN_any (F : FuncId) (hF : ∀ args W, (callFunc F args).run Try.prog W = .ok (.enter F args) W) (cs : Array Value) (T : Int) (l : List Val) (w : World) (hT : T = 0) (hok : okL T l) (hl : l.length ≤ 1000000000)
    (hcall : ∀ W k (h : k < l.length), Grows w W → Calls Try.prog F (#[.int .i64 (k : Int)] ++ cs) W (VaR l[k] W)) :
    Calls Try.prog 46 #[.int .i64 T, .int .i64 (l.length : Int), .func (.func F) #[] cs] w (VecR (buildV T l) w) := by
  have HOK := hidden hok
  have HCALL := hidden hcall
  obtain ⟨n, hn⟩ : ∃ n, l.length = n := ⟨_, rfl⟩
  rw [hn] at hl ⊢
  have HN := hidden hn
  have HL := hidden hl
  have HMT := hidden (fun W => run_make_oneM (P := Try.prog) 27 4 (.bool false) 1 Try.underlying27 infoT14 rfl n (by omega) (by omega) W)
  have hmt := HMT.out
  subst hT
  have HB3 := hidden (show BuSt w 0 (.slice none 0 0) (.slice none 0 0) n (List.replicate n false) (((w.alloc (.cells #[.int .i64 0, .slice none 0 0, .slice none 0 0, .slice none 0 0] 29)).alloc (.cells (List.replicate n (Value.bool false)).toArray 4)).alloc (.cells #[.int .i64 0, .slice none 0 0, .slice none 0 0, .slice (some ⟨w.heap.size + 1, 0, none⟩) n n] 29)) from
    ⟨Row.at_ _ _ _ _ rfl _ (by simp), (Row.at_ (w.alloc (.cells #[.int .i64 0, .slice none 0 0, .slice none 0 0, .slice none 0 0] 29)) 4 _ (tcells (List.replicate n false)) (by unfold tcells; rw [List.map_replicate]) (w.heap.size + 1) (by simp)).grow (grow1 _), ((vecZero w).grow (grow1 _)).grow (grow1 _), ((grow1 _).of_below (grow1 _)).of_below (grow1 _)⟩)
  clear hok hcall hn hl
  go_enter Try.func46, Try.ntmps46
  go_wp2_with fail
  clear hmt
  go_loopw [27] (fun i wr => BuNRel w 0 l n i wr) (fun i _ => n - (intOf i).toNat)
  case atStart =>
    refine ⟨0, Nat.zero_le _, rfl, ?_⟩
    rw [filled_zero, List.length_map, HN.out]; exact HB3.out
  case round =>
    obtain ⟨k, hk, rfl, hb⟩ := hrel
    rw [HN.out] at hk
    have HB := hidden hb
    clear hb
    have hnb : n ≤ 1000000000 := HL.out
    by_cases hlt : k < n
    · have hkl : k < l.length := by rw [HN.out]; exact hlt
      have HGET := hidden (List.getElem?_eq_getElem hkl)
      have HY := hidden (HOK.out l[k] (List.getElem_mem hkl))
      have HCL := hidden (HCALL.out wr k hkl HB.out.grows)
      obtain ⟨y, hy⟩ : ∃ y, y = l[k] := ⟨_, rfl⟩
      rw [← hy] at HGET HY HCL
      have HNK := hidden (show (l.map (fun y => decide (y.k = 0)))[k]? = some (decide (y.k = 0)) by rw [List.getElem?_map, HGET.out]; rfl)
      have hd : decide (k < n) = true := by simpa using hlt
      have hk0 : (0 : Int) ≤ (k : Int) := by omega
      have hk1 : (k : Int) < (n : Int) := by omega
      have hm : n - (k + 1) < n - k := by omega
      have HK1 := hidden (show k + 1 ≤ l.length by omega)
      have HLN := hidden (show (l.map (fun y => decide (y.k = 0))).length = n by rw [List.length_map, HN.out])
      have HLE := hidden (show k < (tcells (filled (l.map (fun y => decide (y.k = 0))) k false)).length by rw [tcells_length, filled_len (by rw [HLN.out]; omega), HLN.out]; exact hlt)
      clear hlt hk hkl hy
      by_cases h0 : y.k = 0
      · have c0 : (y.k == 0) = true := by simpa using h0
        have HST := hidden (show (tcells (filled (l.map (fun y => decide (y.k = 0))) k false)).set k (.bool true) = tcells (filled (l.map (fun y => decide (y.k = 0))) (k + 1) false) by rw [tcells_set, filled_set (by rw [HNK.out, h0]; rfl)])
        clear h0
        go_wp2_with (first
          | (refine HCL.out.mono ?_; rintro e w2 ⟨rfl, g2⟩; have HB2 := hidden (HB.out.grow g2); clear g2)
          | (refine wpList_store_f3 rfl _ _ rfl w2.heap.size 0 rfl y.k y.n y.t rfl _ _ (Row.new w2 37 #[.int .i64 0, .int .i64 0, .string ⟨#[]⟩] [.int .i64 0, .int .i64 0, .string ⟨#[]⟩] rfl) (by simp) ?_; intro W3 hr3 ht3; have g3 := ht3.grows w2 (grow1 _) (Nat.le_refl _); have HB3' := hidden (HB2.out.grow g3); have y0 := hr3.cell 0; have y1 := hr3.cell 1; have y2 := hr3.cell 2; have v1 := HB3'.out.row.cell 1; have v2 := HB3'.out.row.cell 2; have v3 := HB3'.out.row.cell 3; simp only [set3, List.set_cons_zero, List.set_cons_succ, List.getElem?_cons_succ, List.getElem?_cons_zero] at y0 y1 y2 v1 v2 v3; clear hr3 ht3 g3)
          | (refine wpList_store_c rfl 4 _ _ rfl (by kernel_rfl) (w.heap.size + 1) k rfl (.bool true) rfl rfl _ _ HB3'.out.nul HLE.out ?_; intro W4 hr4 ho4; rw [HST.out] at hr4; have HB5 := hidden (HB3'.out.nulls ho4 hr4); clear hr4 ho4))
        go_roundw
        case rel => exact ⟨k + 1, HK1.out, by go_num, HB5.out⟩
        case measure => simpa [intOf] using hm
      · exfalso
        have := HY.out.1
        unfold fitsB at this
        simp at this
        exact h0 this
    · have hke : k = n := by omega
      have hd : decide (k < n) = false := by simpa using hlt
      have HF := hidden (show filled (l.map (fun y => decide (y.k = 0))) k false = (l.map (fun y => decide (y.k = 0))) from filled_all _ (by rw [List.length_map, HN.out]; exact hke))
      rw [HF.out] at HB
      clear hke hlt hk
      go_wp2_with (first
        | (refine wpList_load_vec rfl _ rfl (w.heap.size + 2) rfl _ _ _ _ HB.out.row ?_)
        | (refine wpList_store_vc rfl _ _ rfl w.heap.size rfl _ _ _ _ rfl (all4 rfl rfl rfl rfl) HB.out.res ?_; intro W4 hr4 ho4; have HR4 := hidden hr4; have HO4 := hidden ho4; clear hr4 ho4))
      refine bodyPost_ret (results_vec rfl _ _ _ _ _ _ _ rfl HR4.out) rfl ⟨_, rfl, ?_, HO4.out.below HB.out.grows (fun i hi => by omega)⟩
      rw [buildV_eq]
      have on := own_of_row (n := n) (sz := 1) (base := w.heap.size) (HO4.out.row HB.out.nul (by omega)) (by omega) (by rw [tcells_length, List.length_map, HN.out]; omega) (by omega)
      rw [if_neg (by decide), if_neg (by decide)]
      exact ⟨_, _, _, rfl, World.ownsRow_nil _ _ _ _, World.ownsRow_nil _ _ _ _, by rw [List.length_map, HN.out]; exact on⟩
def BuIRel (w : World) (T : Int) (l : List Val) (n : Nat) (i : Value) (wr : World) : Prop :=
  ∃ k : Nat, k ≤ l.length ∧ i = .int .i64 (k : Int) ∧ BuSt w T (.slice (some ⟨w.heap.size + 3, 0, none⟩) n n) (.slice none 0 0) n (filled (l.map (fun y => decide (y.k = 0))) k false) wr ∧ Row wr (w.heap.size + 3) 2 (icells (filled (l.map (·.n)) k 0))
set_option maxHeartbeats 8000000 in
theorem buildI_any (F : FuncId) (hF : ∀ args W, (callFunc F args).run Try.prog W = .ok (.enter F args) W) (cs : Array Value) (T : Int) (l : List Val) (w : World) (hT : T = 1 ∨ T = 2) (hok : okL T l) (hl : l.length ≤ 1000000000)
    (hcall : ∀ W k (h : k < l.length), Grows w W → Calls Try.prog F (#[.int .i64 (k : Int)] ++ cs) W (VaR l[k] W)) :
    Calls Try.prog 46 #[.int .i64 T, .int .i64 (l.length : Int), .func (.func F) #[] cs] w (VecR (buildV T l) w) := by
  have HOK := hidden hok
  have HCALL := hidden hcall
  obtain ⟨n, hn⟩ : ∃ n, l.length = n := ⟨_, rfl⟩
  rw [hn] at hl ⊢
  have HN := hidden hn
  have HL := hidden hl
  have HMT := hidden (fun W => run_make_oneM (P := Try.prog) 27 4 (.bool false) 1 Try.underlying27 infoT14 rfl n (by omega) (by omega) W)
  have hmt := HMT.out
  have HME := hidden (fun W => run_make_oneM (P := Try.prog) 25 2 (.int .i64 0) 8 Try.underlying25 infoI14 rfl n (by omega) (by omega) W)
  have hme := HME.out
  have HB3 := hidden (show BuSt w T (.slice none 0 0) (.slice none 0 0) n (List.replicate n false) (((w.alloc (.cells #[.int .i64 0, .slice none 0 0, .slice none 0 0, .slice none 0 0] 29)).alloc (.cells (List.replicate n (Value.bool false)).toArray 4)).alloc (.cells #[.int .i64 T, .slice none 0 0, .slice none 0 0, .slice (some ⟨w.heap.size + 1, 0, none⟩) n n] 29)) from
    ⟨Row.at_ _ _ _ _ rfl _ (by simp), (Row.at_ (w.alloc (.cells #[.int .i64 0, .slice none 0 0, .slice none 0 0, .slice none 0 0] 29)) 4 _ (tcells (List.replicate n false)) (by unfold tcells; rw [List.map_replicate]) (w.heap.size + 1) (by simp)).grow (grow1 _), ((vecZero w).grow (grow1 _)).grow (grow1 _), ((grow1 _).of_below (grow1 _)).of_below (grow1 _)⟩)
  have HB4 := hidden (HB3.out.grow (grow1 (.cells (List.replicate n (.int .i64 0)).toArray 2)))
  have HE4 := hidden (show Row ((((w.alloc (.cells #[.int .i64 0, .slice none 0 0, .slice none 0 0, .slice none 0 0] 29)).alloc (.cells (List.replicate n (Value.bool false)).toArray 4)).alloc (.cells #[.int .i64 T, .slice none 0 0, .slice none 0 0, .slice (some ⟨w.heap.size + 1, 0, none⟩) n n] 29)).alloc (.cells (List.replicate n (.int .i64 0)).toArray 2)) (w.heap.size + 3) 2 (icells (List.replicate n 0)) from Row.at_ _ _ _ _ (by unfold icells; rw [List.map_replicate]) _ (by simp))
  have key : (T == 1) = true ∨ ((T == 1) = false ∧ (T == 2) = true) := by
    rcases hT with h | h
    · left; simp [h]
    · right; simp [h]
  have HT12 := hidden hT
  clear hok hcall hn hl hT
  rcases key with t1 | ⟨t1, t2⟩
  all_goals
    go_enter Try.func46, Try.ntmps46
    go_wp2_with (first | (refine wpList_store_c rfl 25 _ _ rfl (by kernel_rfl) (w.heap.size + 2) 1 rfl (.slice (some ⟨w.heap.size + 3, 0, none⟩) n n) rfl rfl _ _ HB4.out.row (by simp) ?_; intro W hr ho; have HB := hidden (show BuSt w T (.slice (some ⟨w.heap.size + 3, 0, none⟩) n n) (.slice none 0 0) n (List.replicate n false) W from ⟨hr, ho.row HB4.out.nul (by omega), ho.row HB4.out.res (by omega), ho.below HB4.out.grows (fun i hi => by omega)⟩); have HE := hidden (ho.row HE4.out (by omega)); clear hr ho))
    clear hmt hme
    go_loopw [27] (fun i wr => BuIRel w T l n i wr) (fun i _ => n - (intOf i).toNat)
    case atStart =>
      refine ⟨0, Nat.zero_le _, rfl, ?_, ?_⟩
      · rw [filled_zero, List.length_map, HN.out]; exact HB.out
      · rw [filled_zero, List.length_map, HN.out]; exact HE.out
    case round =>
      obtain ⟨k, hk, rfl, hb, he⟩ := hrel
      rw [HN.out] at hk
      have HB := hidden hb
      have HE := hidden he
      clear hb he
      have hnb : n ≤ 1000000000 := HL.out
      by_cases hlt : k < n
      · have hkl : k < l.length := by rw [HN.out]; exact hlt
        have HGET := hidden (List.getElem?_eq_getElem hkl)
        have HY := hidden (HOK.out l[k] (List.getElem_mem hkl))
        have HCL := hidden (HCALL.out wr k hkl HB.out.grows)
        obtain ⟨y, hy⟩ : ∃ y, y = l[k] := ⟨_, rfl⟩
        rw [← hy] at HGET HY HCL
        have HNK := hidden (show (l.map (fun y => decide (y.k = 0)))[k]? = some (decide (y.k = 0)) by rw [List.getElem?_map, HGET.out]; rfl)
        have HEK := hidden (show (l.map (·.n))[k]? = some (y.n) by rw [List.getElem?_map, HGET.out]; rfl)
        have hd : decide (k < n) = true := by simpa using hlt
        have hk0 : (0 : Int) ≤ (k : Int) := by omega
        have hk1 : (k : Int) < (n : Int) := by omega
        have hm : n - (k + 1) < n - k := by omega
        have HK1 := hidden (show k + 1 ≤ l.length by omega)
        have HLN := hidden (show (l.map (fun y => decide (y.k = 0))).length = n by rw [List.length_map, HN.out])
        have HLE := hidden (show k < (tcells (filled (l.map (fun y => decide (y.k = 0))) k false)).length by rw [tcells_length, filled_len (by rw [HLN.out]; omega), HLN.out]; exact hlt)
        have HLNE := hidden (show (l.map (·.n)).length = n by rw [List.length_map, HN.out])
        have HLEE := hidden (show k < (icells (filled (l.map (·.n)) k 0)).length by rw [icells_length, filled_len (by rw [HLNE.out]; omega), HLNE.out]; exact hlt)
        clear hlt hk hkl hy
        by_cases h0 : y.k = 0
        · have c0 : (y.k == 0) = true := by simpa using h0
          have HST := hidden (show (tcells (filled (l.map (fun y => decide (y.k = 0))) k false)).set k (.bool true) = tcells (filled (l.map (fun y => decide (y.k = 0))) (k + 1) false) by rw [tcells_set, filled_set (by rw [HNK.out, h0]; rfl)])
          have HSE := hidden (show filled (l.map (·.n)) k 0 = filled (l.map (·.n)) (k + 1) 0 from filled_same (by rw [HEK.out]; exact congrArg some (nul_entry HY.out.2 h0).1))
          rw [HSE.out] at HE HLEE
          clear h0
          go_wp2_with (first
            | (refine HCL.out.mono ?_; rintro e w2 ⟨rfl, g2⟩; have HB2 := hidden (HB.out.grow g2); have HE2 := hidden (HE.out.grow g2); clear g2)
            | (refine wpList_store_f3 rfl _ _ rfl w2.heap.size 0 rfl y.k y.n y.t rfl _ _ (Row.new w2 37 #[.int .i64 0, .int .i64 0, .string ⟨#[]⟩] [.int .i64 0, .int .i64 0, .string ⟨#[]⟩] rfl) (by simp) ?_; intro W3 hr3 ht3; have g3 := ht3.grows w2 (grow1 _) (Nat.le_refl _); have HB3' := hidden (HB2.out.grow g3); have HE3' := hidden (HE2.out.grow g3); have y0 := hr3.cell 0; have y1 := hr3.cell 1; have y2 := hr3.cell 2; have v1 := HB3'.out.row.cell 1; have v2 := HB3'.out.row.cell 2; have v3 := HB3'.out.row.cell 3; simp only [set3, List.set_cons_zero, List.set_cons_succ, List.getElem?_cons_succ, List.getElem?_cons_zero] at y0 y1 y2 v1 v2 v3; clear hr3 ht3 g3)
            | (refine wpList_store_c rfl 4 _ _ rfl (by kernel_rfl) (w.heap.size + 1) k rfl (.bool true) rfl rfl _ _ HB3'.out.nul HLE.out ?_; intro W4 hr4 ho4; rw [HST.out] at hr4; have HB5 := hidden (HB3'.out.nulls ho4 hr4); have HE5 := hidden (ho4.row HE3'.out (by omega)); clear hr4 ho4))
          go_roundw
          case rel => exact ⟨k + 1, HK1.out, by go_num, HB5.out, HE5.out⟩
          case measure => simpa [intOf] using hm
        · have c0 : (y.k == 0) = false := by simpa using h0
          have HNS := hidden (show filled (l.map (fun y => decide (y.k = 0))) k false = filled (l.map (fun y => decide (y.k = 0))) (k + 1) false from filled_same (by rw [HNK.out, decide_eq_false h0]))
          rw [HNS.out] at HB HLE
          have HSE := hidden (show (icells (filled (l.map (·.n)) k 0)).set k (.int .i64 y.n) = icells (filled (l.map (·.n)) (k + 1) 0) by rw [← filled_set HEK.out, ← icells_set])
          have c3 : (y.k == 3) = false := by
            have := HY.out.1
            unfold fitsB at this
            simp at this ⊢
            have := HT12.out
            omega
          clear h0
          go_wp2_with (first
            | (refine HCL.out.mono ?_; rintro e w2 ⟨rfl, g2⟩; have HB2 := hidden (HB.out.grow g2); have HE2 := hidden (HE.out.grow g2); clear g2)
            | (refine wpList_store_f3 rfl _ _ rfl w2.heap.size 0 rfl y.k y.n y.t rfl _ _ (Row.new w2 37 #[.int .i64 0, .int .i64 0, .string ⟨#[]⟩] [.int .i64 0, .int .i64 0, .string ⟨#[]⟩] rfl) (by simp) ?_; intro W3 hr3 ht3; have g3 := ht3.grows w2 (grow1 _) (Nat.le_refl _); have HB3' := hidden (HB2.out.grow g3); have HE3' := hidden (HE2.out.grow g3); have y0 := hr3.cell 0; have y1 := hr3.cell 1; have y2 := hr3.cell 2; have v1 := HB3'.out.row.cell 1; have v2 := HB3'.out.row.cell 2; have v3 := HB3'.out.row.cell 3; simp only [set3, List.set_cons_zero, List.set_cons_succ, List.getElem?_cons_succ, List.getElem?_cons_zero] at y0 y1 y2 v1 v2 v3; clear hr3 ht3 g3)
            | (refine wpList_store_c rfl 2 _ _ rfl (by kernel_rfl) (w.heap.size + 3) k rfl (.int .i64 y.n) rfl rfl _ _ HE3'.out HLEE.out ?_; intro W4 hr4 ho4; rw [HSE.out] at hr4; have HE5 := hidden hr4; have HB5 := hidden (HB3'.out.entry ho4); clear hr4 ho4))
          go_roundw
          case rel => exact ⟨k + 1, HK1.out, by go_num, HB5.out, HE5.out⟩
          case measure => simpa [intOf] using hm
      · have hke : k = n := by omega
        have hd : decide (k < n) = false := by simpa using hlt
        have HF := hidden (show filled (l.map (fun y => decide (y.k = 0))) k false = (l.map (fun y => decide (y.k = 0))) from filled_all _ (by rw [List.length_map, HN.out]; exact hke))
        rw [HF.out] at HB
        have HFE := hidden (show filled (l.map (·.n)) k 0 = (l.map (·.n)) from filled_all _ (by rw [List.length_map, HN.out]; exact hke))
        rw [HFE.out] at HE
        clear hke hlt hk
        go_wp2_with (first
          | (refine wpList_load_vec rfl _ rfl (w.heap.size + 2) rfl _ _ _ _ HB.out.row ?_)
          | (refine wpList_store_vc rfl _ _ rfl w.heap.size rfl _ _ _ _ rfl (all4 rfl rfl rfl rfl) HB.out.res ?_; intro W4 hr4 ho4; have HR4 := hidden hr4; have HO4 := hidden ho4; clear hr4 ho4))
        refine bodyPost_ret (results_vec rfl _ _ _ _ _ _ _ rfl HR4.out) rfl ⟨_, rfl, ?_, HO4.out.below HB.out.grows (fun i hi => by omega)⟩
        rw [buildV_eq]
        have on := own_of_row (n := n) (sz := 1) (base := w.heap.size) (HO4.out.row HB.out.nul (by omega)) (by omega) (by rw [tcells_length, List.length_map, HN.out]; omega) (by omega)
        have oe := own_of_row (n := n) (sz := 1) (base := w.heap.size) (HO4.out.row HE.out (by omega)) (by omega) (by rw [icells_length, List.length_map, HN.out]; omega) (by omega)
        rw [if_pos HT12.out, if_neg (by have := HT12.out; omega)]
        exact ⟨_, _, _, rfl, by rw [List.length_map, HN.out]; exact oe, World.ownsRow_nil _ _ _ _, by rw [List.length_map, HN.out]; exact on⟩
def BuSRel (w : World) (T : Int) (l : List Val) (n : Nat) (i : Value) (wr : World) : Prop :=
  ∃ k : Nat, k ≤ l.length ∧ i = .int .i64 (k : Int) ∧ BuSt w T (.slice none 0 0) (.slice (some ⟨w.heap.size + 3, 0, none⟩) n n) n (filled (l.map (fun y => decide (y.k = 0))) k false) wr ∧ Row wr (w.heap.size + 3) 9 (scells (filled (l.map (·.t.data.toList)) k []))
set_option maxHeartbeats 8000000 in
theorem buildS_any (F : FuncId) (hF : ∀ args W, (callFunc F args).run Try.prog W = .ok (.enter F args) W) (cs : Array Value) (T : Int) (l : List Val) (w : World) (hT : T = 3) (hok : okL T l) (hl : l.length ≤ 1000000000)
    (hcall : ∀ W k (h : k < l.length), Grows w W → Calls Try.prog F (#[.int .i64 (k : Int)] ++ cs) W (VaR l[k] W)) :
    Calls Try.prog 46 #[.int .i64 T, .int .i64 (l.length : Int), .func (.func F) #[] cs] w (VecR (buildV T l) w) := by
  have HOK := hidden hok
  have HCALL := hidden hcall
  obtain ⟨n, hn⟩ : ∃ n, l.length = n := ⟨_, rfl⟩
  rw [hn] at hl ⊢
  have HN := hidden hn
  have HL := hidden hl
  have HMT := hidden (fun W => run_make_oneM (P := Try.prog) 27 4 (.bool false) 1 Try.underlying27 infoT14 rfl n (by omega) (by omega) W)
  have hmt := HMT.out
  have HME := hidden (fun W => run_make_oneM (P := Try.prog) 26 9 (.string ⟨#[]⟩) 16 Try.underlying26 infoS14 rfl n (by omega) (by omega) W)
  have hme := HME.out
  subst hT
  have HB3 := hidden (show BuSt w 3 (.slice none 0 0) (.slice none 0 0) n (List.replicate n false) (((w.alloc (.cells #[.int .i64 0, .slice none 0 0, .slice none 0 0, .slice none 0 0] 29)).alloc (.cells (List.replicate n (Value.bool false)).toArray 4)).alloc (.cells #[.int .i64 3, .slice none 0 0, .slice none 0 0, .slice (some ⟨w.heap.size + 1, 0, none⟩) n n] 29)) from
    ⟨Row.at_ _ _ _ _ rfl _ (by simp), (Row.at_ (w.alloc (.cells #[.int .i64 0, .slice none 0 0, .slice none 0 0, .slice none 0 0] 29)) 4 _ (tcells (List.replicate n false)) (by unfold tcells; rw [List.map_replicate]) (w.heap.size + 1) (by simp)).grow (grow1 _), ((vecZero w).grow (grow1 _)).grow (grow1 _), ((grow1 _).of_below (grow1 _)).of_below (grow1 _)⟩)
  have HB4 := hidden (HB3.out.grow (grow1 (.cells (List.replicate n (.string ⟨#[]⟩)).toArray 9)))
  have HE4 := hidden (show Row ((((w.alloc (.cells #[.int .i64 0, .slice none 0 0, .slice none 0 0, .slice none 0 0] 29)).alloc (.cells (List.replicate n (Value.bool false)).toArray 4)).alloc (.cells #[.int .i64 3, .slice none 0 0, .slice none 0 0, .slice (some ⟨w.heap.size + 1, 0, none⟩) n n] 29)).alloc (.cells (List.replicate n (.string ⟨#[]⟩)).toArray 9)) (w.heap.size + 3) 9 (scells (List.replicate n [])) from Row.at_ _ _ _ _ (by unfold scells; rw [List.map_replicate]; rfl) _ (by simp))
  clear hok hcall hn hl
  go_enter Try.func46, Try.ntmps46
  go_wp2_with (first | (refine wpList_store_c rfl 26 _ _ rfl (by kernel_rfl) (w.heap.size + 2) 2 rfl (.slice (some ⟨w.heap.size + 3, 0, none⟩) n n) rfl rfl _ _ HB4.out.row (by simp) ?_; intro W hr ho; have HB := hidden (show BuSt w 3 (.slice none 0 0) (.slice (some ⟨w.heap.size + 3, 0, none⟩) n n) n (List.replicate n false) W from ⟨hr, ho.row HB4.out.nul (by omega), ho.row HB4.out.res (by omega), ho.below HB4.out.grows (fun i hi => by omega)⟩); have HE := hidden (ho.row HE4.out (by omega)); clear hr ho))
  clear hmt hme
  go_loopw [27] (fun i wr => BuSRel w 3 l n i wr) (fun i _ => n - (intOf i).toNat)
  case atStart =>
    refine ⟨0, Nat.zero_le _, rfl, ?_, ?_⟩
    · rw [filled_zero, List.length_map, HN.out]; exact HB.out
    · rw [filled_zero, List.length_map, HN.out]; exact HE.out
  case round =>
    obtain ⟨k, hk, rfl, hb, he⟩ := hrel
    rw [HN.out] at hk
    have HB := hidden hb
    have HE := hidden he
    clear hb he
    have hnb : n ≤ 1000000000 := HL.out
    by_cases hlt : k < n
    · have hkl : k < l.length := by rw [HN.out]; exact hlt
      have HGET := hidden (List.getElem?_eq_getElem hkl)
      have HY := hidden (HOK.out l[k] (List.getElem_mem hkl))
      have HCL := hidden (HCALL.out wr k hkl HB.out.grows)
      obtain ⟨y, hy⟩ : ∃ y, y = l[k] := ⟨_, rfl⟩
      rw [← hy] at HGET HY HCL
      have HNK := hidden (show (l.map (fun y => decide (y.k = 0)))[k]? = some (decide (y.k = 0)) by rw [List.getElem?_map, HGET.out]; rfl)
      have HEK := hidden (show (l.map (·.t.data.toList))[k]? = some (y.t.data.toList) by rw [List.getElem?_map, HGET.out]; rfl)
      have hd : decide (k < n) = true := by simpa using hlt
      have hk0 : (0 : Int) ≤ (k : Int) := by omega
      have hk1 : (k : Int) < (n : Int) := by omega
      have hm : n - (k + 1) < n - k := by omega
      have HK1 := hidden (show k + 1 ≤ l.length by omega)
      have HLN := hidden (show (l.map (fun y => decide (y.k = 0))).length = n by rw [List.length_map, HN.out])
      have HLE := hidden (show k < (tcells (filled (l.map (fun y => decide (y.k = 0))) k false)).length by rw [tcells_length, filled_len (by rw [HLN.out]; omega), HLN.out]; exact hlt)
      have HLNE := hidden (show (l.map (·.t.data.toList)).length = n by rw [List.length_map, HN.out])
      have HLEE := hidden (show k < (scells (filled (l.map (·.t.data.toList)) k [])).length by rw [scells_length, filled_len (by rw [HLNE.out]; omega), HLNE.out]; exact hlt)
      clear hlt hk hkl hy
      by_cases h0 : y.k = 0
      · have c0 : (y.k == 0) = true := by simpa using h0
        have HST := hidden (show (tcells (filled (l.map (fun y => decide (y.k = 0))) k false)).set k (.bool true) = tcells (filled (l.map (fun y => decide (y.k = 0))) (k + 1) false) by rw [tcells_set, filled_set (by rw [HNK.out, h0]; rfl)])
        have HSE := hidden (show filled (l.map (·.t.data.toList)) k [] = filled (l.map (·.t.data.toList)) (k + 1) [] from filled_same (by rw [HEK.out]; exact congrArg some (nul_entry HY.out.2 h0).2))
        rw [HSE.out] at HE HLEE
        clear h0
        go_wp2_with (first
          | (refine HCL.out.mono ?_; rintro e w2 ⟨rfl, g2⟩; have HB2 := hidden (HB.out.grow g2); have HE2 := hidden (HE.out.grow g2); clear g2)
          | (refine wpList_store_f3 rfl _ _ rfl w2.heap.size 0 rfl y.k y.n y.t rfl _ _ (Row.new w2 37 #[.int .i64 0, .int .i64 0, .string ⟨#[]⟩] [.int .i64 0, .int .i64 0, .string ⟨#[]⟩] rfl) (by simp) ?_; intro W3 hr3 ht3; have g3 := ht3.grows w2 (grow1 _) (Nat.le_refl _); have HB3' := hidden (HB2.out.grow g3); have HE3' := hidden (HE2.out.grow g3); have y0 := hr3.cell 0; have y1 := hr3.cell 1; have y2 := hr3.cell 2; have v1 := HB3'.out.row.cell 1; have v2 := HB3'.out.row.cell 2; have v3 := HB3'.out.row.cell 3; simp only [set3, List.set_cons_zero, List.set_cons_succ, List.getElem?_cons_succ, List.getElem?_cons_zero] at y0 y1 y2 v1 v2 v3; clear hr3 ht3 g3)
          | (refine wpList_store_c rfl 4 _ _ rfl (by kernel_rfl) (w.heap.size + 1) k rfl (.bool true) rfl rfl _ _ HB3'.out.nul HLE.out ?_; intro W4 hr4 ho4; rw [HST.out] at hr4; have HB5 := hidden (HB3'.out.nulls ho4 hr4); have HE5 := hidden (ho4.row HE3'.out (by omega)); clear hr4 ho4))
        go_roundw
        case rel => exact ⟨k + 1, HK1.out, by go_num, HB5.out, HE5.out⟩
        case measure => simpa [intOf] using hm
      · have c0 : (y.k == 0) = false := by simpa using h0
        have HNS := hidden (show filled (l.map (fun y => decide (y.k = 0))) k false = filled (l.map (fun y => decide (y.k = 0))) (k + 1) false from filled_same (by rw [HNK.out, decide_eq_false h0]))
        rw [HNS.out] at HB HLE
        have HSE := hidden (show (scells (filled (l.map (·.t.data.toList)) k [])).set k (.string y.t) = scells (filled (l.map (·.t.data.toList)) (k + 1) []) by rw [← filled_set HEK.out, ← scells_set]; rw [strOf_toList])
        have c3 : (y.k == 3) = true := by
          have := HY.out.1
          unfold fitsB at this
          simp at this ⊢
          omega
        clear h0
        go_wp2_with (first
          | (refine HCL.out.mono ?_; rintro e w2 ⟨rfl, g2⟩; have HB2 := hidden (HB.out.grow g2); have HE2 := hidden (HE.out.grow g2); clear g2)
          | (refine wpList_store_f3 rfl _ _ rfl w2.heap.size 0 rfl y.k y.n y.t rfl _ _ (Row.new w2 37 #[.int .i64 0, .int .i64 0, .string ⟨#[]⟩] [.int .i64 0, .int .i64 0, .string ⟨#[]⟩] rfl) (by simp) ?_; intro W3 hr3 ht3; have g3 := ht3.grows w2 (grow1 _) (Nat.le_refl _); have HB3' := hidden (HB2.out.grow g3); have HE3' := hidden (HE2.out.grow g3); have y0 := hr3.cell 0; have y1 := hr3.cell 1; have y2 := hr3.cell 2; have v1 := HB3'.out.row.cell 1; have v2 := HB3'.out.row.cell 2; have v3 := HB3'.out.row.cell 3; simp only [set3, List.set_cons_zero, List.set_cons_succ, List.getElem?_cons_succ, List.getElem?_cons_zero] at y0 y1 y2 v1 v2 v3; clear hr3 ht3 g3)
          | (refine wpList_store_c rfl 9 _ _ rfl (by kernel_rfl) (w.heap.size + 3) k rfl (.string y.t) rfl rfl _ _ HE3'.out HLEE.out ?_; intro W4 hr4 ho4; rw [HSE.out] at hr4; have HE5 := hidden hr4; have HB5 := hidden (HB3'.out.entry ho4); clear hr4 ho4))
        go_roundw
        case rel => exact ⟨k + 1, HK1.out, by go_num, HB5.out, HE5.out⟩
        case measure => simpa [intOf] using hm
    · have hke : k = n := by omega
      have hd : decide (k < n) = false := by simpa using hlt
      have HF := hidden (show filled (l.map (fun y => decide (y.k = 0))) k false = (l.map (fun y => decide (y.k = 0))) from filled_all _ (by rw [List.length_map, HN.out]; exact hke))
      rw [HF.out] at HB
      have HFE := hidden (show filled (l.map (·.t.data.toList)) k [] = (l.map (·.t.data.toList)) from filled_all _ (by rw [List.length_map, HN.out]; exact hke))
      rw [HFE.out] at HE
      clear hke hlt hk
      go_wp2_with (first
        | (refine wpList_load_vec rfl _ rfl (w.heap.size + 2) rfl _ _ _ _ HB.out.row ?_)
        | (refine wpList_store_vc rfl _ _ rfl w.heap.size rfl _ _ _ _ rfl (all4 rfl rfl rfl rfl) HB.out.res ?_; intro W4 hr4 ho4; have HR4 := hidden hr4; have HO4 := hidden ho4; clear hr4 ho4))
      refine bodyPost_ret (results_vec rfl _ _ _ _ _ _ _ rfl HR4.out) rfl ⟨_, rfl, ?_, HO4.out.below HB.out.grows (fun i hi => by omega)⟩
      rw [buildV_eq]
      have on := own_of_row (n := n) (sz := 1) (base := w.heap.size) (HO4.out.row HB.out.nul (by omega)) (by omega) (by rw [tcells_length, List.length_map, HN.out]; omega) (by omega)
      have oe := own_of_row (n := n) (sz := 1) (base := w.heap.size) (HO4.out.row HE.out (by omega)) (by omega) (by rw [scells_length, List.length_map, HN.out]; omega) (by omega)
      rw [if_neg (by decide), if_pos rfl]
      exact ⟨_, _, _, rfl, World.ownsRow_nil _ _ _ _, by rw [List.length_map, HN.out]; exact oe, by rw [List.length_map, HN.out]; exact on⟩
theorem build_any (F : FuncId) (hF : ∀ args W, (callFunc F args).run Try.prog W = .ok (.enter F args) W) (cs : Array Value) (T : Int) (l : List Val) (w : World) (hT : isTypeB T = true) (hok : okL T l) (hl : l.length ≤ 1000000000)
    (hcall : ∀ W k (h : k < l.length), Grows w W → Calls Try.prog F (#[.int .i64 (k : Int)] ++ cs) W (VaR l[k] W)) :
    Calls Try.prog 46 #[.int .i64 T, .int .i64 (l.length : Int), .func (.func F) #[] cs] w (VecR (buildV T l) w) := by
  rcases isTypeB_iff.1 hT with h | h | h | h
  · exact buildN_any F hF cs T l w h hok hl hcall
  · exact buildI_any F hF cs T l w (.inl h) hok hl hcall
  · exact buildI_any F hF cs T l w (.inr h) hok hl hcall
  · exact buildS_any F hF cs T l w h hok hl hcall
end Go.Proofs.Ytfjhahhkakfhmaa
/-
  Shaken: what the claims of this seat need of this text. No condition.
-/
namespace Go.Proofs.Ytfjhahhkakfhmaa
set_option maxRecDepth 8000
open Go.RowKit
set_option linter.unusedVariables false
set_option linter.unusedSimpArgs false
theorem readsV_cells {w : World} {A : Option Addr} {n c : Nat} {l : List Val} (h : ReadsV w (.slice A n c) l) {k : Nat} (hk : k < l.length) : ∃ b off, A = some ⟨b, off, none⟩ ∧ ∀ W, Grows w W → W.cell? ⟨b, off + k * 3, none⟩ = some (.int .i64 l[k].k) ∧ W.cell? ⟨b, off + k * 3 + 1, none⟩ = some (.int .i64 l[k].n) ∧ W.cell? ⟨b, off + k * 3 + 2, none⟩ = some (.string l[k].t) := by
  obtain ⟨A', c', he, _, hcell⟩ := h
  injection he with e1 e2 e3
  subst e1
  obtain ⟨b0, off, rfl, hcc⟩ := hcell (by omega)
  refine ⟨b0, off, rfl, fun W hW => ?_⟩
  have := hcc k l[k] (List.getElem?_eq_getElem hk)
  exact ⟨(hW.cell (World.block_lt_of_cell? _ _ this.1)).trans this.1, (hW.cell (World.block_lt_of_cell? _ _ this.2.1)).trans this.2.1, (hW.cell (World.block_lt_of_cell? _ _ this.2.2)).trans this.2.2⟩
theorem fromLit_any (g : Nat) (A : Option Addr) (n c : Nat) (l : List Val) (W : World) (hr : Row W g 22 [.slice A n c]) (hv : ReadsV W (.slice A n c) l) (hn : n = l.length) (k : Nat) (hk : k < l.length) (hl : l.length ≤ 1000000000) :
    Calls Try.prog 47 #[.int .i64 (k : Int), .pointer (some ⟨g, 0, none⟩)] W (VaR l[k] W) := by
  obtain ⟨b, off, rfl, hc⟩ := readsV_cells hv hk
  obtain ⟨y, hy⟩ : ∃ y, y = l[k] := ⟨_, rfl⟩
  rw [← hy] at hc ⊢
  have hkn : k < n := by omega
  have hd : decide (k < n) = true := by simpa using hkn
  have hp := hr.cell 0
  simp only [List.getElem?_cons_zero] at hp
  have hp' := ((grow1 (w := W) (.cells #[.int .i64 0, .int .i64 0, .string ⟨#[]⟩] 37)).cell (World.block_lt_of_cell? _ _ hp)).trans hp
  obtain ⟨c0, c1, c2⟩ := hc _ (grow1 (w := W) (.cells #[.int .i64 0, .int .i64 0, .string ⟨#[]⟩] 37))
  clear hy hv hr hc hp hn hk hl
  go_enter Try.func47, Try.ntmps47
  go_wp2_with (first
    | (refine wpList_store_f3 rfl _ _ rfl W.heap.size 0 rfl y.k y.n y.t rfl _ _ (Row.new W 37 #[.int .i64 0, .int .i64 0, .string ⟨#[]⟩] [.int .i64 0, .int .i64 0, .string ⟨#[]⟩] rfl) (by simp) ?_; intro W3 hr3 ht3; have HR3 := hidden hr3; have HG3 := hidden (ht3.grows W (grow1 _) (Nat.le_refl _)); clear hr3 ht3))
  exact bodyPost_ret (results_val rfl _ _ _ _ _ _ rfl HR3.out) rfl ⟨rfl, HG3.out⟩
def FvlRel (l : List Val) (T : Int) (W0 : World) (i : Value) (wr : World) : Prop := ∃ k : Nat, k ≤ l.length ∧ i = .int .i64 (k : Int) ∧ (l.take k).all (fitsB · T) = true ∧ Grows W0 wr
set_option maxHeartbeats 8000000 in
theorem vfrom_any (u : Value) (l : List Val) (T : Int) (w : World) (hu : ReadsV w u l) (hl : l.length ≤ 1000000000) (hok : validL l = true) :
    Calls Try.prog 11 #[.int .i64 T, u] w (VecER (fromV T l) (fromE T l) w) := by
  have HU := hidden hu
  obtain ⟨A, c, rfl, _⟩ := id hu
  obtain ⟨n, hn⟩ : ∃ n, l.length = n := ⟨_, rfl⟩
  have HN := hidden hn
  rw [hn] at HU hl ⊢
  have HL := hidden hl
  obtain ⟨W0, hW0⟩ : ∃ W0, W0 = (w.alloc (.cells #[.slice A n c] 22)).alloc (.cells #[.int .i64 0, .slice none 0 0, .slice none 0 0, .slice none 0 0] 29) := ⟨_, rfl⟩
  have HG0 := hidden (show Grows w W0 by rw [hW0]; exact (grow1 _).of_below (grow1 _))
  have HB0 := hidden (show Row W0 w.heap.size 22 [.slice A n c] by rw [hW0]; exact (Row.new w 22 #[.slice A n c] _ rfl).grow (grow1 _))
  have HD0 := hidden (show Row W0 (w.heap.size + 1) 29 [.int .i64 0, .slice none 0 0, .slice none 0 0, .slice none 0 0] by rw [hW0]; exact Row.at_ (w.alloc _) 29 _ _ rfl (w.heap.size + 1) (by simp))
  have HSZ := hidden (show W0.heap.size = w.heap.size + 2 by rw [hW0]; simp)
  have HTY := hidden (isType_any T W0)
  have b0 := HB0.out.cell 0
  simp only [List.getElem?_cons_zero] at b0
  have HW := hidden hW0
  clear hu hn hl hW0
  obtain ⟨bt, hbt⟩ : ∃ bt, isTypeB T = bt := ⟨_, rfl⟩
  have HBT := hidden hbt
  rw [hbt] at HTY
  clear hbt
  cases bt
  · have hV := hidden (show fromV T l = vec0 by unfold fromV; rw [HBT.out]; rfl)
    have hE := hidden (show fromE T l = 1 by unfold fromE; rw [HBT.out]; rfl)
    rw [HW.out] at HTY HD0 b0 HG0
    go_enter Try.func11, Try.ntmps11
    go_wp2_with (first
      | (go_at_call 44; refine HTY.out.mono ?_; rintro e w2 ⟨rfl, rfl⟩)
      | (refine wpList_store_vc rfl _ _ rfl (w.heap.size + 1) rfl _ _ _ _ rfl (all4 rfl rfl rfl rfl) HD0.out ?_; intro W1 hr1 ho1; have HR1 := hidden hr1; have HO1 := hidden (ho1.below HG0.out (fun i hi => by omega)); clear hr1 ho1))
    refine bodyPost_ret (results_vec2 rfl _ _ _ _ _ _ _ _ rfl HR1.out rfl) rfl ?_
    rw [hV.out, hE.out]
    exact ⟨_, rfl, OwnV.nil_ _ _ _, HO1.out⟩
  · rw [HW.out] at HTY b0
    go_enter Try.func11, Try.ntmps11
    go_wp2_with (first
      | (go_at_call 44; refine HTY.out.mono ?_; rintro e w2 ⟨rfl, rfl⟩))
    rw [← HW.out] at b0 ⊢
    clear b0
    go_loopw [14] (fun i wr => FvlRel l T W0 i wr) (fun i _ => n - (intOf i).toNat)
    case atStart => exact ⟨0, Nat.zero_le _, rfl, by simp, Below.refl _ _⟩
    case round =>
      obtain ⟨k, hk, rfl, hft, hg⟩ := hrel
      rw [HN.out] at hk
      have HFT := hidden hft
      have HG := hidden hg
      clear hft hg
      have hnb : n ≤ 1000000000 := HL.out
      by_cases hlt : k < n
      · have hkl : k < l.length := by rw [HN.out]; exact hlt
        obtain ⟨b1, off, rfl, hc⟩ := readsV_cells HU.out hkl
        obtain ⟨y, hy⟩ : ∃ y, y = l[k] := ⟨_, rfl⟩
        have HTK := hidden (show l.take (k + 1) = l.take k ++ [y] by rw [List.take_add_one, List.getElem?_eq_getElem hkl, hy]; rfl)
        rw [← hy] at hc
        have HC := hidden hc
        have HMEM := hidden (show y ∈ l by rw [hy]; exact List.getElem_mem _)
        have hk0 : (0 : Int) ≤ (k : Int) := by omega
        have hk1 : (k : Int) < (n : Int) := by omega
        have hd : decide (k < n) = true := by simpa using hlt
        have hm : n - (k + 1) < n - k := by omega
        have HK1 := hidden (show k + 1 ≤ l.length by omega)
        clear hy hkl hlt hk hc
        obtain ⟨x0, x1, x2⟩ := HC.out wr (HG0.out.of_below HG.out)
        obtain ⟨z0, z1, z2⟩ := HC.out (wr.alloc (.cells #[.int .i64 0, .int .i64 0, .string ⟨#[]⟩] 37)) ((HG0.out.of_below HG.out).of_below (grow1 _))
        have HF := hidden (fun W => fits_any y T W)
        obtain ⟨f, hf⟩ : ∃ f, f = fitsB y T := ⟨_, rfl⟩
        rw [← hf] at HF
        have HFF := hidden hf.symm
        clear hf
        cases f
        · have HAN := hidden (show ¬ l.all (fitsB · T) = true from fun h => by have := (List.all_eq_true.1 h) y HMEM.out; rw [HFF.out] at this; cases this)
          have hV := hidden (show fromV T l = vec0 by unfold fromV; rw [HBT.out, if_pos rfl, if_neg HAN.out])
          have hE := hidden (show fromE T l = 7 by unfold fromE; rw [HBT.out, if_pos rfl, if_neg HAN.out])
          go_wp2_with (first
            | (refine wpList_store_f3 rfl _ _ rfl wr.heap.size 0 rfl y.k y.n y.t rfl _ _ (Row.new wr 37 #[.int .i64 0, .int .i64 0, .string ⟨#[]⟩] [.int .i64 0, .int .i64 0, .string ⟨#[]⟩] rfl) (by simp) ?_; intro W3 hr3 ht3; have y0 := hr3.cell 0; have y1 := hr3.cell 1; have y2 := hr3.cell 2; have HG3 := hidden (HG.out.of_below (ht3.grows wr (grow1 _) (Nat.le_refl _))); simp only [set3, List.set_cons_zero, List.set_cons_succ, List.getElem?_cons_succ, List.getElem?_cons_zero] at y0 y1 y2; clear hr3 ht3)
            | (go_at_call 45; refine (HF.out _).mono ?_; rintro e w2 ⟨rfl, g2⟩; have HG2 := hidden (HG3.out.of_below g2); clear g2)
            | (refine wpList_store_vc rfl _ _ rfl (w.heap.size + 1) rfl _ _ _ _ rfl (all4 rfl rfl rfl rfl) (HD0.out.grow HG2.out) ?_; intro W1 hr1 ho1; have HR1 := hidden hr1; have HO1 := hidden (ho1.below (HG0.out.of_below HG2.out) (fun i hi => by omega)); clear hr1 ho1))
          refine bodyPost_ret (results_vec2 rfl _ _ _ _ _ _ _ _ rfl HR1.out rfl) rfl ?_
          rw [hV.out, hE.out]
          exact ⟨_, rfl, OwnV.nil_ _ _ _, HO1.out⟩
        · go_wp2_with (first
            | (refine wpList_store_f3 rfl _ _ rfl wr.heap.size 0 rfl y.k y.n y.t rfl _ _ (Row.new wr 37 #[.int .i64 0, .int .i64 0, .string ⟨#[]⟩] [.int .i64 0, .int .i64 0, .string ⟨#[]⟩] rfl) (by simp) ?_; intro W3 hr3 ht3; have y0 := hr3.cell 0; have y1 := hr3.cell 1; have y2 := hr3.cell 2; have HG3 := hidden (HG.out.of_below (ht3.grows wr (grow1 _) (Nat.le_refl _))); simp only [set3, List.set_cons_zero, List.set_cons_succ, List.getElem?_cons_succ, List.getElem?_cons_zero] at y0 y1 y2; clear hr3 ht3)
            | (go_at_call 45; refine (HF.out _).mono ?_; rintro e w2 ⟨rfl, g2⟩; have HG2 := hidden (HG3.out.of_below g2); clear g2))
          go_roundw
          case rel => exact ⟨k + 1, HK1.out, by go_num, by rw [HTK.out, List.all_append, HFT.out]; simp [HFF.out], HG2.out⟩
          case measure => simpa [intOf] using hm
      · have hke : k = n := by omega
        have hd : decide (k < n) = false := by simpa using hlt
        have HTK := hidden (show l.take k = l by rw [hke, ← HN.out, List.take_length])
        rw [HTK.out] at HFT
        have hV := hidden (show fromV T l = buildV T l by unfold fromV; rw [HBT.out, if_pos rfl, if_pos HFT.out])
        have hE := hidden (show fromE T l = 0 by unfold fromE; rw [HBT.out, if_pos rfl, if_pos HFT.out])
        have HOK := hidden (show okL T l from fun y hy => ⟨List.all_eq_true.1 HFT.out y hy, List.all_eq_true.1 hok y hy⟩)
        have HBD := hidden (build_any 47 (fun _ _ => rfl) #[.pointer (some ⟨w.heap.size, 0, none⟩)] T l wr HBT.out HOK.out (by rw [HN.out]; exact HL.out)
          (fun W k h hW => fromLit_any w.heap.size A n c l W (HB0.out.grow (HG.out.of_below hW)) (HU.out.grow (HG0.out.of_below (HG.out.of_below hW))) HN.out.symm k h (by rw [HN.out]; exact HL.out)))
        rw [HN.out] at HBD
        have b1 := (HB0.out.grow HG.out).cell 0
        simp only [List.getElem?_cons_zero] at b1
        clear hke hlt hk
        go_wp2_with (first
          | (go_at_call 46; refine HBD.out.mono ?_; rintro e w2 ⟨x, rfl, ho2, g2⟩; obtain ⟨p, q, r, rfl, q1, q2, q3⟩ := id ho2; have HQ3 := hidden (all4 (p := .int .i64 (buildV T l).T) rfl (ownsRow_one q1) (ownsRow_one q2) (ownsRow_one q3)); have HO2 := hidden (ho2.base_ (show w.heap.size ≤ wr.heap.size from (HG0.out.of_below HG.out).size)); have HG2 := hidden (HG.out.of_below g2); clear ho2 g2 q1 q2 q3)
          | (refine wpList_store_vc rfl _ _ rfl (w.heap.size + 1) rfl _ _ _ _ rfl HQ3.out (HD0.out.grow HG2.out) ?_; intro W1 hr1 ho1; have HR1 := hidden hr1; have HX1 := hidden (HO2.out.only ho1 (ownV_apart HO2.out (HD0.out.grow HG2.out) (by decide) (by decide) (by decide))); have HO1 := hidden (ho1.below (HG0.out.of_below HG2.out) (fun i hi => by omega)); clear hr1 ho1))
        refine bodyPost_ret (results_vec2 rfl _ _ _ _ _ _ _ _ rfl HR1.out rfl) rfl ?_
        rw [hV.out, hE.out]
        exact ⟨_, rfl, HX1.out, HO1.out⟩
end Go.Proofs.Ytfjhahhkakfhmaa
/-
  Shaken: what the claims of this seat need of this text. No condition.
-/
namespace Go.Proofs.Ytfjhahhkakfhmaa
set_option maxRecDepth 8000
open Go.RowKit
set_option linter.unusedVariables false
set_option linter.unusedSimpArgs false
theorem OwnV.ones {b : Nat} {X : World} {t p q r : Value} {v : Vec} (h : OwnV b X (.agg #[t, p, q, r]) v) : (#[t, p, q, r] : Array Value).all (·.oneCell') = true := by
  obtain ⟨rfl, h1, h2, h3⟩ := h.parts
  exact all4 rfl (ownsRow_one h1) (ownsRow_one h2) (ownsRow_one h3)
theorem constLit_any (g : Nat) (y : Val) (W : World) (hr : Row W g 37 [.int .i64 y.k, .int .i64 y.n, .string y.t]) (k : Int) :
    Calls Try.prog 65 #[.int .i64 k, .pointer (some ⟨g, 0, none⟩)] W (VaR y W) := by
  have hr' := hr.grow (grow1 (.cells #[.int .i64 0, .int .i64 0, .string ⟨#[]⟩] 37))
  have c0 := hr'.cell 0
  have c1 := hr'.cell 1
  have c2 := hr'.cell 2
  simp only [List.getElem?_cons_succ, List.getElem?_cons_zero] at c0 c1 c2
  clear hr hr'
  go_enter Try.func65, Try.ntmps65
  go_wp2_with (first
    | (refine wpList_store_f3 rfl _ _ rfl W.heap.size 0 rfl y.k y.n y.t rfl _ _ (Row.new W 37 #[.int .i64 0, .int .i64 0, .string ⟨#[]⟩] [.int .i64 0, .int .i64 0, .string ⟨#[]⟩] rfl) (by simp) ?_; intro W3 hr3 ht3; have HR3 := hidden hr3; have HG3 := hidden (ht3.grows W (grow1 _) (Nat.le_refl _)); clear hr3 ht3))
  exact bodyPost_ret (results_val rfl _ _ _ _ _ _ rfl HR3.out) rfl ⟨rfl, HG3.out⟩
set_option maxHeartbeats 8000000 in
theorem vconst_any (T : Int) (y : Val) (n : Int) (w : World) (hy : validV y.k y.n y.t = true) (hn0 : -9223372036854775808 ≤ n) (hn : n ≤ 1000000000) :
    Calls Try.prog 26 #[.int .i64 T, vV y, .int .i64 n] w (VecR (constVec T y n) w) := by
  obtain ⟨W0, hW0⟩ : ∃ W0, W0 = (w.alloc (.cells #[.int .i64 y.k, .int .i64 y.n, .string y.t] 37)).alloc (.cells #[.int .i64 0, .slice none 0 0, .slice none 0 0, .slice none 0 0] 29) := ⟨_, rfl⟩
  have HG0 := hidden (show Grows w W0 by rw [hW0]; exact (grow1 _).of_below (grow1 _))
  have HB0 := hidden (show Row W0 w.heap.size 37 [.int .i64 y.k, .int .i64 y.n, .string y.t] by rw [hW0]; exact (Row.new w 37 #[.int .i64 y.k, .int .i64 y.n, .string y.t] _ rfl).grow (grow1 _))
  have HD0 := hidden (show Row W0 (w.heap.size + 1) 29 [.int .i64 0, .slice none 0 0, .slice none 0 0, .slice none 0 0] by rw [hW0]; exact Row.at_ (w.alloc _) 29 _ _ rfl (w.heap.size + 1) (by simp))
  have b0 := HB0.out.cell 0
  have b1 := HB0.out.cell 1
  have b2 := HB0.out.cell 2
  simp only [List.getElem?_cons_succ, List.getElem?_cons_zero] at b0 b1 b2
  have HTY := hidden (isType_any T W0)
  obtain ⟨T1, hT1⟩ : ∃ T1, T1 = conT T := ⟨_, rfl⟩
  have HF := hidden (fun W => fits_any y T1 W)
  have HTB := hidden (show isTypeB T1 = true by
    rw [hT1]; unfold conT
    by_cases h : isTypeB T = true
    · rw [if_pos h]; exact h
    · rw [if_neg h]; decide)
  obtain ⟨y1, hy1⟩ : ∃ y1, y1 = conY T1 y := ⟨_, rfl⟩
  have HY1 := hidden (show fitsB y1 T1 = true ∧ validV y1.k y1.n y1.t = true by
    rw [hy1]; unfold conY
    by_cases h : fitsB y T1 = true
    · rw [if_pos h]; exact ⟨h, hy⟩
    · rw [if_neg h]; exact ⟨nul_fits T1, nul_valid⟩)
  have HR := hidden (show constVec T y n = buildV T1 (List.replicate n.toNat y1) by rw [hy1, hT1]; rfl)
  rw [HR.out]
  have HLN := hidden (isLength_any n)
  have HBD := hidden (fun (m : Nat) (hm : m ≤ 1000000000) W (hr : Row W w.heap.size 37 [.int .i64 y1.k, .int .i64 y1.n, .string y1.t]) => show Calls Try.prog 46 #[.int .i64 T1, .int .i64 (m : Int), .func (.func 65) #[] #[.pointer (some ⟨w.heap.size, 0, none⟩)]] W (VecR (buildV T1 (List.replicate m y1)) W) by
    have h := build_any 65 (fun _ _ => rfl) #[.pointer (some ⟨w.heap.size, 0, none⟩)] T1 (List.replicate m y1) W HTB.out (fun z hz => by rw [(List.mem_replicate.1 hz).2]; exact HY1.out) (by rw [List.length_replicate]; exact hm)
      (fun X k h hX => by rw [List.getElem_replicate]; exact constLit_any w.heap.size y1 X (hr.grow hX) _)
    rw [List.length_replicate] at h
    exact h)
  have HTT := hidden (fun l => buildV_T T1 l)
  obtain ⟨f, hf⟩ : ∃ f, f = fitsB y T1 := ⟨_, rfl⟩
  rw [← hf] at HF
  have hyf : (f = true → y1 = y) ∧ (f = false → y1 = nulX) := by
    rw [hf, hy1]; unfold conY
    refine ⟨fun h => if_pos h, fun h => if_neg (by rw [h]; simp)⟩
  obtain ⟨bt, hbt⟩ : ∃ bt, bt = isTypeB T := ⟨_, rfl⟩
  rw [← hbt] at HTY
  have hTb : (bt = true → T1 = T) ∧ (bt = false → T1 = 0) := by
    rw [hbt, hT1]; unfold conT
    refine ⟨fun h => if_pos h, fun h => if_neg (by rw [h]; simp)⟩
  have hm : (isLenB n = true ∧ ∃ m : Nat, n = (m : Int) ∧ m ≤ 1000000000) ∨ (isLenB n = false ∧ n.toNat = 0) := by
    unfold isLenB
    by_cases h : 0 ≤ n
    · refine .inl ⟨by simp [h]; omega, n.toNat, by omega, by omega⟩
    · refine .inr ⟨by simp [h], by omega⟩
  have HBD0 := hidden (fun W hr => HBD.out 0 (by omega) W hr)
  have hz : ((0 : Nat) : Int) = 0 := rfl
  rw [hz] at HBD0
  clear hf hbt hT1 hy1 HR hn hn0 hy hz
  rw [hW0] at HTY b0 b1 b2
  have HW := hidden hW0
  clear hW0
  cases bt
  case' false => have hx := hTb.2 rfl
  case' true => have hx := hTb.1 rfl
  all_goals subst hx; clear hTb
  all_goals cases f
  case' false.false => have hx := hyf.2 rfl
  case' true.false => have hx := hyf.2 rfl
  case' false.true => have hx := hyf.1 rfl
  case' true.true => have hx := hyf.1 rfl
  all_goals subst hx; clear hyf
  all_goals
    rcases hm with ⟨e, m, rfl, hm⟩ | ⟨e, hm⟩
  all_goals
    have HM := hidden hm
    rw [e] at HLN
    clear hm e
    go_enter Try.func26, Try.ntmps26
    go_wp2_with (first
      | (go_at_call 44; refine HTY.out.mono ?_; rintro e w2 ⟨rfl, rfl⟩)
      | (go_at_call 45; rw [← HW.out]; refine (HF.out _).mono ?_; rintro e w2 ⟨rfl, g2⟩; have HG := hidden (HG0.out.of_below g2); have HBX := hidden (HB0.out.grow g2); have HRS := hidden (HD0.out.grow g2); clear g2 b0 b1 b2)
      | (refine wpList_store_f3 rfl _ _ rfl w.heap.size 0 rfl 0 0 ⟨#[]⟩ rfl _ _ HBX.out (by simp) ?_; intro W3 hr3 ht3; have HG := hidden (ht3.grows w HG.out (Nat.le_refl _)); have HRS := hidden (ht3.row _ _ _ (by omega) HRS.out); have HBY := hidden hr3; clear hr3 ht3)
      | (go_at_call 64; refine (HLN.out _).mono ?_; rintro e w2 ⟨rfl, rfl⟩)
      | (go_at_call 46; refine (HBD.out m HM.out _ HBX.out).mono ?_; rintro e w4 ⟨x, rfl, ho2, g2⟩; obtain ⟨p, q, r, rfl, q1, q2, q3⟩ := id ho2; have HQ3 := hidden ho2.ones; have HO2 := hidden (ho2.base_ HG.out.size); have HG2 := hidden (HG.out.of_below g2); have HRS2 := hidden (HRS.out.grow g2); clear ho2 g2 q1 q2 q3)
      | (go_at_call 46; refine (HBD.out m HM.out _ HBY.out).mono ?_; rintro e w4 ⟨x, rfl, ho2, g2⟩; obtain ⟨p, q, r, rfl, q1, q2, q3⟩ := id ho2; have HQ3 := hidden ho2.ones; have HO2 := hidden (ho2.base_ HG.out.size); have HG2 := hidden (HG.out.of_below g2); have HRS2 := hidden (HRS.out.grow g2); clear ho2 g2 q1 q2 q3)
      | (go_at_call 46; refine (HBD0.out _ HBX.out).mono ?_; rintro e w4 ⟨x, rfl, ho2, g2⟩; obtain ⟨p, q, r, rfl, q1, q2, q3⟩ := id ho2; have HQ3 := hidden ho2.ones; have HO2 := hidden (ho2.base_ HG.out.size); have HG2 := hidden (HG.out.of_below g2); have HRS2 := hidden (HRS.out.grow g2); clear ho2 g2 q1 q2 q3)
      | (go_at_call 46; refine (HBD0.out _ HBY.out).mono ?_; rintro e w4 ⟨x, rfl, ho2, g2⟩; obtain ⟨p, q, r, rfl, q1, q2, q3⟩ := id ho2; have HQ3 := hidden ho2.ones; have HO2 := hidden (ho2.base_ HG.out.size); have HG2 := hidden (HG.out.of_below g2); have HRS2 := hidden (HRS.out.grow g2); clear ho2 g2 q1 q2 q3)
      | (refine wpList_store_vc rfl _ _ rfl (w.heap.size + 1) rfl _ _ _ _ rfl HQ3.out HRS2.out ?_; intro W1 hr1 ho1; have HR1 := hidden hr1; have HX1 := hidden (HO2.out.only ho1 (ownV_apart HO2.out HRS2.out (by decide) (by decide) (by decide))); have HO1 := hidden (ho1.below HG2.out (fun i hi => by omega)); clear hr1 ho1))
    refine bodyPost_ret (results_vec rfl _ _ _ _ _ _ _ rfl HR1.out) rfl ?_
    refine ⟨_, rfl, ?_, HO1.out⟩
    first
      | (rw [Int.toNat_natCast]; exact HX1.out)
      | (rw [HM.out]; exact HX1.out)
end Go.Proofs.Ytfjhahhkakfhmaa
/-
  Shaken: what the claims of this seat need of this text. No condition.
-/
namespace Go.Proofs.Ytfjhahhkakfhmaa
set_option maxRecDepth 8000
open Go.RowKit
set_option linter.unusedVariables false
set_option linter.unusedSimpArgs false
theorem wpList_append_rows17 {P : Program} {base : Nat} {wr : World} {ops : Array Oper} {rest : List Oper} {o : Oper} {a : Act} {Q : Exit → Act → World → Prop} (hgd : o.guard = none) (s x : Operand) (t : TypeId)
    (ho : o.op = .call { callee := .builtin .append, args := #[s, x], argTypes := #[t, t] })
    (e : TypeId) (z : Value) (bytes : Nat) (ht : P.underlying t = some (.slice e)) (hinfo : (P.info? e).map (fun i => (i.zero, i.size, i.bytes)) = some (some z, 1, bytes)) (hz1 : z.cells.size = 1)
    (v : Value) (n : Nat) (pre : List Value) (hs : a.eval s = v) (hown : wr.ownsRow base e 1 v n pre) (hbase : base ≤ wr.heap.size)
    (u : Value) (l : List Value) (hx : a.eval x = u) (hu : Reads wr u l) (hone : ∀ x ∈ l, x.oneCell' = true) (hlen : (n + l.length) * bytes ≤ 140737488355328) (hmax : n + l.length ≤ 140737488355328)
    (h : ∀ v' w', w'.ownsRow base e 1 v' (n + l.length) (pre ++ l) → Only (fun k => v.ownBlock = some k) wr w' → wpList P ops Q rest (a.put o.dst v') w') :
    wpList P ops Q (o :: rest) a wr := by
  obtain ⟨i0, hi, hz0, hs1, hs2⟩ := info_parts hinfo
  obtain ⟨A, c, rfl, hlc, hc⟩ := hu
  cases A with
  | none =>
    have hl : l = [] := by
      cases l with
      | nil => rfl
      | cons x r => obtain ⟨b, off, h, _⟩ := hc (by simp); cases h
    subst hl
    refine wpList_plain hgd fun K hK => ?_
    have hr := run_append_nothing (ty := o.type) ht hi hown c
    unfold Oper.wp execOp
    simp only [List.length_nil] at hx
    simp only [ho, resolve, invoke, builtin, Sem.run_bind, Sem.run_pure, Result.andThen_ok, List.map_toArray, List.map_cons, List.map_nil, hs, hx, hr]
    exact hK _ _ (h v wr (by simpa using hown) (Only.refl _ _))
  | some ad =>
    have hcells : ∀ j x, l[j]? = some x → wr.cell? (ad.add j) = some x := by
      intro j y hy
      have hj : j < l.length := (List.getElem?_eq_some_iff.1 hy).1
      obtain ⟨b, off, h, hcell⟩ := hc (by omega)
      injection h with h
      subst h
      rw [Addr.add_lit]
      exact (hcell j hj).trans hy
    exact wpList_append_own_at _ hgd s x t ho base e i0 z 1 bytes ht hi hz0 hs1 hs2 hz1 (by decide) v n pre hs hown ad l.length c l hx (by omega) hcells hone (by unfold maxLen; omega) hlen hbase (fun v' w' h1 h2 _ _ => h v' w' h1 (Only.by_ h2))
theorem IsV.parts {X : World} {t p q r : Value} {v : Vec} (h : IsV X (.agg #[t, p, q, r]) v) : t = .int .i64 v.T ∧ IsI X p v.is ∧ IsS X q v.ts ∧ IsT X r v.ns := by
  obtain ⟨a, b, c, he, h1, h2, h3⟩ := h
  injection he with he
  simp only [Array.mk.injEq, List.cons.injEq, and_true] at he
  obtain ⟨rfl, rfl, rfl, rfl⟩ := he
  exact ⟨rfl, h1, h2, h3⟩
theorem VarSt.rowA {w : World} {g : Nat} {T : Int} {v : Vec} {p q r : Value} {X Y : World} (h : VarSt w g T v p q r X) {z : Value} (hz : z = p ∨ z = q ∨ z = r) (ho : Only (fun k => z.ownBlock = some k) X Y) {g' : Nat} {ys : List Value} (hr : Row X g' 29 ys) : Row Y g' 29 ys := by
  obtain ⟨-, h1, h2, h3⟩ := h.own.parts
  refine ho.row hr ?_
  rcases hz with rfl | rfl | rfl
  · exact ownsRow_row_apart h1 hr (by decide)
  · exact ownsRow_row_apart h2 hr (by decide)
  · exact ownsRow_row_apart h3 hr (by decide)
theorem own_lt17 {w X : World} {e : TypeId} {sz n : Nat} {z : Value} {xs : List Value} (h : X.ownsRow w.heap.size e sz z n xs) : ∀ i, z.ownBlock = some i → w.heap.size ≤ i := fun i hi => (h.lt i hi).1
theorem VarSt.appI {w : World} {g : Nat} {T : Int} {is is' : List Int} {ts : List Str} {ns : List Bool} {p q r u : Value} {X Y Z : World} (h : VarSt w g T ⟨T, is, ts, ns⟩ p q r X) (hown : Y.ownsRow w.heap.size 2 1 u is'.length (icells is')) (hy : Only (fun k => p.ownBlock = some k) X Y) (hr : Row Z g 29 [.int .i64 T, u, q, r]) (ho : Only (fun i => i = g) Y Z) : VarSt w g T ⟨T, is', ts, ns⟩ u q r Z := by
  obtain ⟨-, h1, h2, h3⟩ := h.own.parts
  have hrow := h.rowA (.inl rfl) hy h.row
  have hown' : OwnV w.heap.size Y (.agg #[.int .i64 T, u, q, r]) ⟨T, is', ts, ns⟩ := ⟨_, _, _, rfl, hown, ownsRow_only h2 hy (ownsRow_apart h2 h1 (by decide)), ownsRow_only h3 hy (ownsRow_apart h3 h1 (by decide))⟩
  exact ⟨h.low, hr, hown'.only ho (ownV_apart hown' hrow (by decide) (by decide) (by decide)), ho.below (hy.below h.grows (own_lt17 h1)) (fun i hi => by rw [hi]; exact h.low)⟩
theorem VarSt.appS {w : World} {g : Nat} {T : Int} {is : List Int} {ts ts' : List Str} {ns : List Bool} {p q r u : Value} {X Y Z : World} (h : VarSt w g T ⟨T, is, ts, ns⟩ p q r X) (hown : Y.ownsRow w.heap.size 9 1 u ts'.length (scells ts')) (hy : Only (fun k => q.ownBlock = some k) X Y) (hr : Row Z g 29 [.int .i64 T, p, u, r]) (ho : Only (fun i => i = g) Y Z) : VarSt w g T ⟨T, is, ts', ns⟩ p u r Z := by
  obtain ⟨-, h1, h2, h3⟩ := h.own.parts
  have hrow := h.rowA (.inr (.inl rfl)) hy h.row
  have hown' : OwnV w.heap.size Y (.agg #[.int .i64 T, p, u, r]) ⟨T, is, ts', ns⟩ := ⟨_, _, _, rfl, ownsRow_only h1 hy (ownsRow_apart h1 h2 (by decide)), hown, ownsRow_only h3 hy (ownsRow_apart h3 h2 (by decide))⟩
  exact ⟨h.low, hr, hown'.only ho (ownV_apart hown' hrow (by decide) (by decide) (by decide)), ho.below (hy.below h.grows (own_lt17 h2)) (fun i hi => by rw [hi]; exact h.low)⟩
theorem VarSt.appT {w : World} {g : Nat} {T : Int} {is : List Int} {ts : List Str} {ns ns' : List Bool} {p q r u : Value} {X Y Z : World} (h : VarSt w g T ⟨T, is, ts, ns⟩ p q r X) (hown : Y.ownsRow w.heap.size 4 1 u ns'.length (tcells ns')) (hy : Only (fun k => r.ownBlock = some k) X Y) (hr : Row Z g 29 [.int .i64 T, p, q, u]) (ho : Only (fun i => i = g) Y Z) : VarSt w g T ⟨T, is, ts, ns'⟩ p q u Z := by
  obtain ⟨-, h1, h2, h3⟩ := h.own.parts
  have hrow := h.rowA (.inr (.inr rfl)) hy h.row
  have hown' : OwnV w.heap.size Y (.agg #[.int .i64 T, p, q, u]) ⟨T, is, ts, ns'⟩ := ⟨_, _, _, rfl, ownsRow_only h1 hy (ownsRow_apart h1 h3 (by decide)), ownsRow_only h2 hy (ownsRow_apart h2 h3 (by decide)), hown⟩
  exact ⟨h.low, hr, hown'.only ho (ownV_apart hown' hrow (by decide) (by decide) (by decide)), ho.below (hy.below h.grows (own_lt17 h3)) (fun i hi => by rw [hi]; exact h.low)⟩
theorem icells_app (a b : List Int) : icells (a ++ b) = icells a ++ icells b := by simp [icells]
theorem scells_app (a b : List Str) : scells (a ++ b) = scells a ++ scells b := by simp [scells]
theorem tcells_app (a b : List Bool) : tcells (a ++ b) = tcells a ++ tcells b := by simp [tcells]
theorem flat_len {α β : Type} (f : α → List β) {l : List α} {m : Nat} (h : ∀ x ∈ l, (f x).length ≤ m) : (l.flatMap f).length ≤ l.length * m := by
  induction l with
  | nil => simp
  | cons x r ih =>
    rw [List.flatMap_cons, List.length_append, List.length_cons, Nat.add_mul]
    have h1 := ih (fun y hy => h y (List.mem_cons_of_mem _ hy))
    have h2 := h x (List.mem_cons_self ..)
    omega
theorem valid_lens {v : Vec} (h : validVB v = true) : v.is.length ≤ v.ns.length ∧ v.ts.length ≤ v.ns.length := by
  obtain ⟨_, h2, h3, _⟩ := validVB_iff.1 h
  unfold nIv at h2
  unfold nTv at h3
  constructor
  · rw [h2]; split <;> omega
  · rw [h3]; split <;> omega
theorem join_lens {T : Int} {l : List Vec} {k : Nat} (hl : l.length ≤ 100) (hv : ∀ x ∈ l, validVB x = true ∧ x.ns.length ≤ 1000) : (joinV T (l.take k)).is.length ≤ 100000 ∧ (joinV T (l.take k)).ts.length ≤ 100000 ∧ (joinV T (l.take k)).ns.length ≤ 100000 := by
  have hk : (l.take k).length ≤ 100 := by rw [List.length_take]; omega
  have hm : ∀ x ∈ l.take k, x ∈ l := fun x hx => List.mem_of_mem_take hx
  have h1 := flat_len (fun v : Vec => v.is) (l := l.take k) (m := 1000) (fun x hx => by have := valid_lens (hv x (hm x hx)).1; have := (hv x (hm x hx)).2; omega)
  have h2 := flat_len (fun v : Vec => v.ts) (l := l.take k) (m := 1000) (fun x hx => by have := valid_lens (hv x (hm x hx)).1; have := (hv x (hm x hx)).2; omega)
  have h3 := flat_len (fun v : Vec => v.ns) (l := l.take k) (m := 1000) (fun x hx => (hv x (hm x hx)).2)
  refine ⟨?_, ?_, ?_⟩
  · show ((l.take k).flatMap (fun v : Vec => v.is)).length ≤ _; omega
  · show ((l.take k).flatMap (fun v : Vec => v.ts)).length ≤ _; omega
  · show ((l.take k).flatMap (fun v : Vec => v.ns)).length ≤ _; omega
theorem join_snoc {T : Int} {l : List Vec} {y : Vec} : joinV T (l ++ [y]) = ⟨T, (joinV T l).is ++ y.is, (joinV T l).ts ++ y.ts, (joinV T l).ns ++ y.ns⟩ := by simp [joinV]
def CcRel (w : World) (T : Int) (l : List Vec) (i : Value) (wr : World) : Prop :=
  ∃ (k : Nat) (p q r : Value), i = .int .i64 (k : Int) ∧ k ≤ l.length ∧ (l.take k).all (fun x => decide (x.T = T)) = true ∧ VarSt w (w.heap.size + 1) T (joinV T (l.take k)) p q r wr ∧ Row wr w.heap.size 29 [.int .i64 0, .slice none 0 0, .slice none 0 0, .slice none 0 0]
set_option maxHeartbeats 8000000 in
theorem vconcat_any (u : Value) (l : List Vec) (w : World) (hu : IsVs w u l) (hl : l.length ≤ 100) (hv : ∀ x ∈ l, validVB x = true ∧ x.ns.length ≤ 1000) :
    Calls Try.prog 28 #[u] w (VecER (catV l) (catE l) w) := by
  have HU := hidden hu
  obtain ⟨A, c, rfl⟩ := hu.slice_
  have HVV := hidden hv
  obtain ⟨n, hn⟩ : ∃ n, l.length = n := ⟨_, rfl⟩
  rw [hn] at HU ⊢
  have HN := hidden hn
  have HL := hidden (show n ≤ 100 by omega)
  have HJL := hidden (fun T k => join_lens (T := T) (k := k) hl hv)
  clear hn hl hv hu
  by_cases hnil : l = []
  · have hV := hidden (show catV l = vec0 by rw [catV, if_pos hnil])
    have hE := hidden (show catE l = 1 by rw [catE, if_pos hnil])
    obtain rfl : n = 0 := by rw [← HN.out, hnil]; rfl
    clear hnil
    go_enter Try.func28, Try.ntmps28
    go_wp2_with (first
      | (refine wpList_store_vc rfl _ _ rfl w.heap.size rfl _ _ _ _ rfl (all4 rfl rfl rfl rfl) (vecZero w) ?_; intro W1 hr1 ho1; have HR1 := hidden hr1; have HO1 := hidden (ho1.below (grow1 (w := w) _) (fun i hi => by omega)); clear hr1 ho1))
    refine bodyPost_ret (results_vec2 rfl _ _ _ _ _ _ _ _ rfl HR1.out rfl) rfl ?_
    rw [hV.out, hE.out]
    exact ⟨_, rfl, OwnV.nil_ _ _ _, HO1.out⟩
  · have HNE := hidden hnil
    have hn0 : 0 < n := by rw [← HN.out]; exact List.length_pos_iff.2 hnil
    have hd0 : (n == 0) = false := by simp; omega
    have hn1 : (0 : Int) < (n : Int) := by omega
    obtain ⟨T, hT⟩ : ∃ T, T = headT l := ⟨_, rfl⟩
    have HT := hidden hT
    have h0l : 0 < l.length := by rw [HN.out]; exact hn0
    obtain ⟨b0, off, A1, c1, A2, c2, A3, c3, rfl, hcc⟩ := HU.out.at_ h0l
    have hT0 : l[0].T = T := by rw [hT]; cases l with | nil => exact absurd rfl hnil | cons x r => rfl
    have g0 := (hcc (w.alloc (.cells #[.int .i64 0, .slice none 0 0, .slice none 0 0, .slice none 0 0] 29)) (grow1 _)).1
    rw [hT0, Nat.zero_mul, Nat.add_zero] at g0
    have HS0 := hidden (show VarSt w (w.heap.size + 1) T (joinV T (l.take 0)) (.slice none 0 0) (.slice none 0 0) (.slice none 0 0) ((w.alloc (.cells #[.int .i64 0, .slice none 0 0, .slice none 0 0, .slice none 0 0] 29)).alloc (.cells #[.int .i64 T, .slice none 0 0, .slice none 0 0, .slice none 0 0] 29)) from
      ⟨by omega, Row.at_ _ _ _ _ rfl _ (by simp), by simpa [joinV] using OwnV.nil_ _ _ T, (grow1 _).of_below (grow1 _)⟩)
    have HD0 := hidden ((vecZero w).grow (grow1 (.cells #[.int .i64 T, .slice none 0 0, .slice none 0 0, .slice none 0 0] 29)))
    clear hcc hT0 h0l hT hnil
    go_enter Try.func28, Try.ntmps28
    go_wp2_with fail
    go_loopw [18] (fun i wr => CcRel w T l i wr) (fun i _ => n - (intOf i).toNat)
    case atStart => exact ⟨0, _, _, _, rfl, Nat.zero_le _, by simp, HS0.out, HD0.out⟩
    case round =>
      obtain ⟨k, p, q, r, rfl, hk, hft, hst, hz⟩ := hrel
      rw [HN.out] at hk
      have HFT := hidden hft
      have HST := hidden hst
      have HZ := hidden hz
      clear hft hst hz HS0 HD0
      by_cases hlt : k < n
      · have hkl : k < l.length := by rw [HN.out]; exact hlt
        obtain ⟨b0', off', B1, d1, B2, d2, B3, d3, he, hcc⟩ := HU.out.at_ hkl
        injection he with he
        injection he with e1 e2
        subst e1 e2
        have ey : ∃ y, y = l[k] := ⟨_, rfl⟩
        obtain ⟨y, hy⟩ := ey
        have HMEM := hidden (show y ∈ l by rw [hy]; exact List.getElem_mem _)
        have HTK := hidden (show l.take (k + 1) = l.take k ++ [y] by rw [List.take_add_one, List.getElem?_eq_getElem hkl, hy]; rfl)
        rw [← hy] at hcc
        have HC := hidden hcc
        have HOK := hidden (HVV.out y HMEM.out)
        have hk0 : (0 : Int) ≤ (k : Int) := by omega
        have hk1 : (k : Int) < (n : Int) := by omega
        have hd : decide (k < n) = true := by simpa using hlt
        have hm : n - (k + 1) < n - k := by omega
        have HK1 := hidden (show k + 1 ≤ l.length by omega)
        have HKN := hidden (show k + 1 ≤ n ∧ n ≤ 100 from ⟨by omega, HL.out⟩)
        have hnb : n ≤ 100 := HL.out
        clear hy hkl hlt hk hcc
        obtain ⟨c0, c1', c2', c3', -⟩ := HC.out wr HST.out.grows
        obtain ⟨z0, z1, z2, z3, -⟩ := HC.out (wr.alloc (.cells #[.int .i64 0, .slice none 0 0, .slice none 0 0, .slice none 0 0] 29)) (HST.out.grows.of_below (grow1 _))
        obtain ⟨WA, hWA⟩ : ∃ WA, WA = wr.alloc (.cells #[.int .i64 y.T, .slice B1 y.is.length d1, .slice B2 y.ts.length d2, .slice B3 y.ns.length d3] 29) := ⟨_, rfl⟩
        have HSA := hidden (show VarSt w (w.heap.size + 1) T (joinV T (l.take k)) p q r WA by rw [hWA]; exact HST.out.grow (grow1 _))
        have HZA := hidden (show Row WA w.heap.size 29 [.int .i64 0, .slice none 0 0, .slice none 0 0, .slice none 0 0] by rw [hWA]; exact HZ.out.grow (grow1 _))
        have H6A := hidden (show Row WA wr.heap.size 29 [.int .i64 y.T, .slice B1 y.is.length d1, .slice B2 y.ts.length d2, .slice B3 y.ns.length d3] by rw [hWA]; exact Row.new wr _ _ _ rfl)
        have HLT := hidden (show w.heap.size + 1 < wr.heap.size from HST.out.row.lt)
        have a0 := HSA.out.row.cell 0
        have a1 := HSA.out.row.cell 1
        have a61 := H6A.out.cell 1
        simp only [List.getElem?_cons_succ, List.getElem?_cons_zero] at a0 a1 a61
        by_cases hyT : y.T = T
        · have hne : (y.T != T) = false := by simp [hyT]
          have HYT := hidden hyT
          have HLS := hidden (HJL.out T k)
          have HJS := hidden (show joinV T (l.take (k + 1)) = ⟨T, (joinV T (l.take k)).is ++ y.is, (joinV T (l.take k)).ts ++ y.ts, (joinV T (l.take k)).ns ++ y.ns⟩ by rw [HTK.out]; exact join_snoc)
          have HYL := hidden (show y.is.length ≤ 1000 ∧ y.ts.length ≤ 1000 ∧ y.ns.length ≤ 1000 by have := valid_lens HOK.out.1; have := HOK.out.2; omega)
          have HIV := hidden (fun W (h : Grows w W) => (HC.out W h).2.2.2.2)
          obtain ⟨I0, hI0⟩ : ∃ I0, I0 = (joinV T (l.take k)).is := ⟨_, rfl⟩
          obtain ⟨S0, hS0⟩ : ∃ S0, S0 = (joinV T (l.take k)).ts := ⟨_, rfl⟩
          obtain ⟨N0, hN0⟩ : ∃ N0, N0 = (joinV T (l.take k)).ns := ⟨_, rfl⟩
          have hJ : joinV T (l.take k) = ⟨T, I0, S0, N0⟩ := by rw [hI0, hS0, hN0]; rfl
          rw [hJ] at HSA HLS HJS
          have HLS := hidden (show I0.length ≤ 100000 ∧ S0.length ≤ 100000 ∧ N0.length ≤ 100000 from HLS.out)
          clear hI0 hS0 hN0 hJ hyT
          rw [hWA] at a0 a1 a61
          have HW := hidden hWA
          clear hWA
          go_wp2_with (first
            | (at_builtin; rw [← HW.out]; go_loud (refine wpList_append_rows17 rfl _ _ 25 rfl 2 (.int .i64 0) 8 Try.underlying25 infoI14 rfl p I0.length (icells I0) (by rfl) HSA.out.own.parts.2.1 HSA.out.grows.size (.slice B1 y.is.length d1) (icells y.is) (by rfl) (HIV.out _ HSA.out.grows).parts.2.1 (one_icells14 _) (by rw [icells_length]; have := HLS.out.1; have := HYL.out.1; omega) (by rw [icells_length]; have := HLS.out.1; have := HYL.out.1; omega) ?_); intro p' W1 hown ho; rw [icells_length, ← List.length_append, ← icells_app] at hown; obtain ⟨PA, PN, PC, rfl⟩ := ownsRow_slice hown; have HOW := hidden hown; have HON := hidden ho; have HRY := hidden (HSA.out.rowA (.inl rfl) ho HSA.out.row); have HZY := hidden (HSA.out.rowA (.inl rfl) ho HZA.out); have H6Y := hidden (HSA.out.rowA (.inl rfl) ho H6A.out); clear hown ho)
            | (refine wpList_store_c rfl 25 _ _ rfl (by kernel_rfl) (w.heap.size + 1) 1 rfl (.slice PA PN PC) rfl rfl _ _ HRY.out (by simp) ?_; intro W2 hr2 ho2; have HS := hidden (HSA.out.appI HOW.out HON.out hr2 ho2); have HZ2 := hidden (ho2.row HZY.out (by omega)); have H62 := hidden (ho2.row H6Y.out (by have := HLT.out; omega)); have s := HS.out.row.cell 2; have t := H62.out.cell 2; simp only [List.getElem?_cons_succ, List.getElem?_cons_zero] at s t; clear hr2 ho2)
            | (at_builtin; go_loud (refine wpList_append_rows17 rfl _ _ 26 rfl 9 (.string ⟨#[]⟩) 16 Try.underlying26 infoS14 rfl q S0.length (scells S0) (by rfl) HS.out.own.parts.2.2.1 HS.out.grows.size (.slice B2 y.ts.length d2) (scells y.ts) (by rfl) (HIV.out _ HS.out.grows).parts.2.2.1 (one_scells14 _) (by rw [scells_length]; have := HLS.out.2.1; have := HYL.out.2.1; omega) (by rw [scells_length]; have := HLS.out.2.1; have := HYL.out.2.1; omega) ?_); intro p' W1 hown ho; rw [scells_length, ← List.length_append, ← scells_app] at hown; obtain ⟨PA, PN, PC, rfl⟩ := ownsRow_slice hown; have HOW := hidden hown; have HON := hidden ho; have HRY := hidden (HS.out.rowA (.inr (.inl rfl)) ho HS.out.row); have HZY := hidden (HS.out.rowA (.inr (.inl rfl)) ho HZ2.out); have H6Y := hidden (HS.out.rowA (.inr (.inl rfl)) ho H62.out); clear hown ho)
            | (refine wpList_store_c rfl 26 _ _ rfl (by kernel_rfl) (w.heap.size + 1) 2 rfl (.slice PA PN PC) rfl rfl _ _ HRY.out (by simp) ?_; intro W2 hr2 ho2; have HS := hidden (HS.out.appS HOW.out HON.out hr2 ho2); have HZ2 := hidden (ho2.row HZY.out (by omega)); have H62 := hidden (ho2.row H6Y.out (by have := HLT.out; omega)); have s := HS.out.row.cell 3; have t := H62.out.cell 3; simp only [List.getElem?_cons_succ, List.getElem?_cons_zero] at s t; clear hr2 ho2)
            | (at_builtin; go_loud (refine wpList_append_rows17 rfl _ _ 27 rfl 4 (.bool false) 1 Try.underlying27 infoT14 rfl r N0.length (tcells N0) (by rfl) HS.out.own.parts.2.2.2 HS.out.grows.size (.slice B3 y.ns.length d3) (tcells y.ns) (by rfl) (HIV.out _ HS.out.grows).parts.2.2.2 (one_tcells14 _) (by rw [tcells_length]; have := HLS.out.2.2; have := HYL.out.2.2; omega) (by rw [tcells_length]; have := HLS.out.2.2; have := HYL.out.2.2; omega) ?_); intro p' W1 hown ho; rw [tcells_length, ← List.length_append, ← tcells_app] at hown; obtain ⟨PA, PN, PC, rfl⟩ := ownsRow_slice hown; have HOW := hidden hown; have HON := hidden ho; have HRY := hidden (HS.out.rowA (.inr (.inr rfl)) ho HS.out.row); have HZY := hidden (HS.out.rowA (.inr (.inr rfl)) ho HZ2.out); have H6Y := hidden (HS.out.rowA (.inr (.inr rfl)) ho H62.out); clear hown ho)
            | (refine wpList_store_c rfl 27 _ _ rfl (by kernel_rfl) (w.heap.size + 1) 3 rfl (.slice PA PN PC) rfl rfl _ _ HRY.out (by simp) ?_; intro W2 hr2 ho2; have HS := hidden (HS.out.appT HOW.out HON.out hr2 ho2); have HZ2 := hidden (ho2.row HZY.out (by omega)); have H62 := hidden (ho2.row H6Y.out (by have := HLT.out; omega)); clear hr2 ho2))
          go_roundw
          case rel =>
            have HF := HS.out
            rw [← HJS.out] at HF
            exact ⟨_, _, _, ⟨k + 1, _, _, _, by go_num, HK1.out, by rw [HTK.out, List.all_append, HFT.out]; simp [HYT.out], HF, HZ2.out⟩, rfl, rfl, rfl⟩
          case measure => simpa [intOf] using hm
        · have hne : (y.T != T) = true := by simp [hyT]
          have HAN := hidden (show ¬ catB l = true from fun h => by have := of_decide_eq_true ((List.all_eq_true.1 h) y HMEM.out); exact hyT (this.trans HT.out.symm))
          have hV := hidden (show catV l = vec0 by unfold catV; rw [if_neg HNE.out, if_neg HAN.out])
          have hE := hidden (show catE l = 7 by unfold catE; rw [if_neg HNE.out, if_neg HAN.out])
          rw [hWA] at a0 a1 a61 HZA HSA
          clear hyT hWA
          go_wp2_with (first
            | (refine wpList_store_vc rfl _ _ rfl w.heap.size rfl _ _ _ _ rfl (all4 rfl rfl rfl rfl) HZA.out ?_; intro W1 hr1 ho1; have HR1 := hidden hr1; have HO1 := hidden (ho1.below HSA.out.grows (fun i hi => by omega)); clear hr1 ho1))
          refine bodyPost_ret (results_vec2 rfl _ _ _ _ _ _ _ _ rfl HR1.out rfl) rfl ?_
          rw [hV.out, hE.out]
          exact ⟨_, rfl, OwnV.nil_ _ _ _, HO1.out⟩
      · have hke : k = n := by omega
        have hd : decide (k < n) = false := by simpa using hlt
        have HTK := hidden (show l.take k = l by rw [hke, ← HN.out, List.take_length])
        rw [HTK.out] at HFT HST
        have HCB := hidden (show catB l = true by unfold catB; rw [← HT.out]; exact HFT.out)
        have hV := hidden (show catV l = joinV T l by
          have hne := HNE.out
          have ht := HT.out
          have hc := HCB.out
          have hvv := HVV.out
          cases l with
          | nil => exact absurd rfl hne
          | cons x r => rw [ht]; exact catV_eq hc (fun y hy => (hvv y hy).1))
        have hE := hidden (show catE l = 0 by unfold catE; rw [if_neg HNE.out, if_pos HCB.out])
        clear hke hlt hk
        go_wp2_with (first
          | (refine wpList_load_vec rfl _ rfl (w.heap.size + 1) rfl _ _ _ _ HST.out.row ?_)
          | (refine wpList_store_vc rfl _ _ rfl w.heap.size rfl _ _ _ _ rfl HST.out.ones HZ.out ?_; intro W4 hr4 ho4; have HR4 := hidden hr4; have HRE := hidden (HST.out.result (Below.refl _ w) ho4 (Nat.le_refl _) HZ.out); clear hr4 ho4))
        refine bodyPost_ret (results_vec2 rfl _ _ _ _ _ _ _ _ rfl HR4.out rfl) rfl ?_
        rw [hV.out, hE.out]
        exact ⟨_, rfl, HRE.out.1, HRE.out.2⟩
end Go.Proofs.Ytfjhahhkakfhmaa
/-
  Shaken: what the claims of this seat need of this text. No condition.
-/
namespace Go.Proofs.Ytfjhahhkakfhmaa
set_option maxRecDepth 8000
open Go.RowKit
set_option linter.unusedVariables false
set_option linter.unusedSimpArgs false
theorem retB17 {b c : Bool} (h : b = c) : Ending.returned (.bool b) = .returned (.bool c) := by rw [h]
def Found17 (b : Bool) (w : World) (e : Ending) (w' : World) : Prop := ∃ i : Int, e = .returned (.int .i64 i) ∧ decide (0 ≤ i) = b ∧ w' = w
def Seek17 (l : List Bool) (w : World) (i : Value) (wr : World) : Prop := ∃ k : Nat, k ≤ l.length ∧ i = .int .i64 (k : Int) ∧ (l.take k).all id = true ∧ wr = w
theorem all_take17 {l : List Bool} {k : Nat} (h : k < l.length) : (l.take (k + 1)).all id = ((l.take k).all id && l[k]) := by
  rw [List.take_succ_eq_append_getElem h, List.all_append]
  simp
set_option maxHeartbeats 1000000 in
theorem indexF_any (v : Value) (l : List Bool) (w : World) (hv : IsT w v l) (hl : l.length ≤ 1000000000) :
    Calls Try.prog 72 #[v, .bool false] w (Found17 (!l.all id) w) := by
  obtain ⟨A, c, rfl⟩ := hv.slice_
  have HV := hidden hv
  clear hv
  go_enter Try.func72, Try.ntmps72
  go_wp2_with fail
  go_loopw [5, 8] (fun u i wr => Seek17 l w i wr) (fun _ i _ => l.length - (intOf i).toNat)
  case atStart => exact ⟨0, by omega, rfl, by simp, rfl⟩
  case round =>
    obtain ⟨k, hk, rfl, hno, rfl⟩ := hrel
    have HNO := hidden hno
    clear hno
    by_cases hlt : k < l.length
    · obtain ⟨b, f, rfl, hck⟩ := HV.out.at_ hlt
      have HAT := hidden (fun (h : l[k] = false) => show l.all id = false from Bool.eq_false_iff.2 (fun h2 => by have := List.all_eq_true.1 h2 _ (List.getElem_mem hlt); rw [h] at this; cases this))
      have HTK := hidden (all_take17 hlt)
      generalize l[k] = bk at *
      cases bk
      · go_wp2_with fail
        go_ret
        exact ⟨_, rfl, by rw [HAT.out (by trivial)]; simp, rfl⟩
      · go_wp2_with fail
        go_roundw
        case rel => exact ⟨k + 1, by omega, by go_num, by rw [HTK.out, HNO.out]; rfl, rfl⟩
        case measure => simp [intOf]; omega
    · have HF := hidden (show l.all id = true by have h := HNO.out; rwa [List.take_of_length_le (by omega)] at h)
      go_wp2_with fail
      go_ret
      exact ⟨_, rfl, by rw [HF.out]; rfl, rfl⟩
theorem containsF_any (v : Value) (l : List Bool) (w : World) (hv : IsT w v l) (hl : l.length ≤ 1000000000) :
    Calls Try.prog 54 #[v, .bool false] w fun e w' => e = .returned (.bool (!l.all id)) ∧ w' = w := by
  have HI := hidden (indexF_any v l w hv hl)
  generalize l.all id = r at *
  clear hv
  go_enter Try.func54, Try.ntmps54
  go_wp2_with fail
  refine HI.out.mono ?_
  rintro e w' ⟨i, rfl, hi, rfl⟩
  have HD := hidden hi
  clear hi
  go_wp2_with fail
  go_ret
  exact ⟨retB17 HD.out, rfl⟩
def goodF {α : Type} [DecidableEq α] (P : α → Bool) (z : α) (l : List α) (ns : List Bool) (i : Nat) : Bool := P (l.getD i z) && (!ns.getD i false || decide (l.getD i z = z))
def goodsF {α : Type} [DecidableEq α] (P : α → Bool) (z : α) (l : List α) (ns : List Bool) (m : Nat) : Bool := (List.range m).all (goodF P z l ns)
theorem goodsF_snoc {α : Type} [DecidableEq α] {P : α → Bool} {z : α} {l : List α} {ns : List Bool} {m : Nat} : goodsF P z l ns (m + 1) = (goodsF P z l ns m && goodF P z l ns m) := by
  unfold goodsF
  rw [List.range_succ, List.all_append]
  simp
theorem goodsF_no {α : Type} [DecidableEq α] {P : α → Bool} {z : α} {l : List α} {ns : List Bool} {i m : Nat} (h : goodF P z l ns i = false) (hi : i < m) : goodsF P z l ns m = false :=
  Bool.eq_false_iff.2 (fun h2 => by have := List.all_eq_true.1 h2 i (List.mem_range.2 hi); rw [h] at this; cases this)
def VeIRel (P : Int → Bool) (l : List Int) (ns : List Bool) (w : World) (i : Value) (wr : World) : Prop := ∃ k : Nat, k ≤ l.length ∧ i = .int .i64 (k : Int) ∧ goodsF P 0 l ns k = true ∧ wr = w
set_option maxHeartbeats 4000000 in
theorem entriesI_any (F : FuncId) (hF : ∀ args W, (callFunc F args).run Try.prog W = .ok (.enter F args) W) (P : Int → Bool) (hP : ∀ x W, Calls Try.prog F #[.int .i64 x] W fun e w' => e = .returned (.bool (P x)) ∧ w' = W)
    (u v : Value) (l : List Int) (ns : List Bool) (w : World) (hu : IsI w u l) (hv : IsT w v ns) (hln : l.length = ns.length) (hl : l.length ≤ 1000000000) :
    Calls Try.prog 55 #[u, v, .func (.func F) #[] #[]] w fun e w' => e = .returned (.bool (goodsF P 0 l ns l.length)) ∧ w' = w := by
  have HU := hidden hu
  have HV := hidden hv
  have HPC := hidden hP
  obtain ⟨A, c, rfl⟩ := hu.slice_
  obtain ⟨B, d, rfl⟩ := hv.slice_
  obtain ⟨n, hn⟩ : ∃ n, l.length = n := ⟨_, rfl⟩
  have HN := hidden hn
  have HM := hidden (show ns.length = n by rw [← hln]; exact hn)
  have HL := hidden (show n ≤ 1000000000 by omega)
  rw [HM.out] at HV ⊢
  rw [hn] at HU ⊢
  clear hu hv hln hl hn hP
  go_enter Try.func55, Try.ntmps55
  go_wp2_with fail
  go_loopw [12] (fun i wr => VeIRel P l ns w i wr) (fun i _ => n - (intOf i).toNat)
  case atStart => exact ⟨0, by omega, rfl, rfl, rfl⟩
  case round =>
    obtain ⟨k, hk, rfl, hno, rfl⟩ := hrel
    rw [HN.out] at hk
    have HNO := hidden hno
    clear hno
    have hnb : n ≤ 1000000000 := HL.out
    by_cases hlt : k < n
    · have hkl : k < l.length := by rw [HN.out]; exact hlt
      have hkn : k < ns.length := by rw [HM.out]; exact hlt
      have hU := HU.out
      rw [← HN.out] at hU
      have hV := HV.out
      rw [← HM.out] at hV
      obtain ⟨b, f, rfl, hck⟩ := hU.at_ hkl
      obtain ⟨b', f', rfl, hck'⟩ := hV.at_ hkn
      have ex : ∃ x, l[k] = x := ⟨_, rfl⟩
      obtain ⟨x, hx⟩ := ex
      have en : ∃ x, ns[k] = x := ⟨_, rfl⟩
      obtain ⟨nb, hnb'⟩ := en
      have e1 : l.getD k 0 = x := by rw [List.getD_eq_getElem?_getD, List.getElem?_eq_getElem hkl, hx]; rfl
      have e2 : ns.getD k false = nb := by rw [List.getD_eq_getElem?_getD, List.getElem?_eq_getElem hkn, hnb']; rfl
      have HG := hidden (show goodF P 0 l ns k = (P x && (!nb || decide (x = 0))) by unfold goodF; rw [e1, e2])
      rw [hx] at hck
      rw [hnb'] at hck'
      have HSN := hidden (show goodsF P 0 l ns (k + 1) = (goodsF P 0 l ns k && goodF P 0 l ns k) from goodsF_snoc)
      have HNOO := hidden (fun (h : goodF P 0 l ns k = false) => show goodsF P 0 l ns n = false from goodsF_no h hlt)
      have HK1 := hidden (show k + 1 ≤ l.length by omega)
      have HC := hidden (HPC.out x wr)
      obtain ⟨px, hpx⟩ : ∃ px, px = P x := ⟨_, rfl⟩
      rw [← hpx] at HG HC
      have hd : decide (k < n) = true := by simpa using hlt
      have hk0 : (0 : Int) ≤ (k : Int) := by omega
      have hk1 : (k : Int) < (n : Int) := by omega
      have hm : n - (k + 1) < n - k := by omega
      clear hU hV e1 e2 hx hnb' hkl hkn hlt hk hpx
      have hz1 : (x == 0) = decide (x = 0) := by by_cases h : x = 0 <;> simp [h]
      have hz2 : (x != 0) = !decide (x = 0) := by by_cases h : x = 0 <;> simp [h]
      generalize decide (x = 0) = zx at *
      cases px
      case' true => cases nb
      case' true.true => cases zx
      all_goals
        go_wp2_with (first | (refine HC.out.mono ?_; rintro e w2 ⟨rfl, rfl⟩))
        first
          | (go_roundw; (case rel => exact ⟨k + 1, HK1.out, by go_num, by rw [HSN.out, HNO.out, HG.out]; rfl, rfl⟩); (case measure => simpa [intOf] using hm))
          | (go_ret; exact ⟨retB17 (HNOO.out (by rw [HG.out]; rfl)).symm, rfl⟩)
    · have hke : k = n := by omega
      have hd : decide (k < n) = false := by simpa using hlt
      rw [hke] at HNO
      clear hke hlt hk
      go_wp2_with fail
      go_ret
      exact ⟨retB17 HNO.out.symm, rfl⟩
def VeSRel (P : Str → Bool) (l : List Str) (ns : List Bool) (w : World) (i : Value) (wr : World) : Prop := ∃ k : Nat, k ≤ l.length ∧ i = .int .i64 (k : Int) ∧ goodsF P [] l ns k = true ∧ wr = w
set_option maxHeartbeats 4000000 in
theorem entriesS_any (F : FuncId) (hF : ∀ args W, (callFunc F args).run Try.prog W = .ok (.enter F args) W) (P : Str → Bool) (hP : ∀ x W, Calls Try.prog F #[.string (strOf x)] W fun e w' => e = .returned (.bool (P x)) ∧ w' = W)
    (u v : Value) (l : List Str) (ns : List Bool) (w : World) (hu : IsS w u l) (hv : IsT w v ns) (hln : l.length = ns.length) (hl : l.length ≤ 1000000000) :
    Calls Try.prog 58 #[u, v, .func (.func F) #[] #[]] w fun e w' => e = .returned (.bool (goodsF P [] l ns l.length)) ∧ w' = w := by
  have HU := hidden hu
  have HV := hidden hv
  have HPC := hidden hP
  obtain ⟨A, c, rfl⟩ := hu.slice_
  obtain ⟨B, d, rfl⟩ := hv.slice_
  obtain ⟨n, hn⟩ : ∃ n, l.length = n := ⟨_, rfl⟩
  have HN := hidden hn
  have HM := hidden (show ns.length = n by rw [← hln]; exact hn)
  have HL := hidden (show n ≤ 1000000000 by omega)
  rw [HM.out] at HV ⊢
  rw [hn] at HU ⊢
  clear hu hv hln hl hn hP
  go_enter Try.func58, Try.ntmps58
  go_wp2_with fail
  go_loopw [12] (fun i wr => VeSRel P l ns w i wr) (fun i _ => n - (intOf i).toNat)
  case atStart => exact ⟨0, by omega, rfl, rfl, rfl⟩
  case round =>
    obtain ⟨k, hk, rfl, hno, rfl⟩ := hrel
    rw [HN.out] at hk
    have HNO := hidden hno
    clear hno
    have hnb : n ≤ 1000000000 := HL.out
    by_cases hlt : k < n
    · have hkl : k < l.length := by rw [HN.out]; exact hlt
      have hkn : k < ns.length := by rw [HM.out]; exact hlt
      have hU := HU.out
      rw [← HN.out] at hU
      have hV := HV.out
      rw [← HM.out] at hV
      obtain ⟨b, f, rfl, hck⟩ := hU.at_ hkl
      obtain ⟨b', f', rfl, hck'⟩ := hV.at_ hkn
      have ex : ∃ x, l[k] = x := ⟨_, rfl⟩
      obtain ⟨x, hx⟩ := ex
      have en : ∃ x, ns[k] = x := ⟨_, rfl⟩
      obtain ⟨nb, hnb'⟩ := en
      have e1 : l.getD k [] = x := by rw [List.getD_eq_getElem?_getD, List.getElem?_eq_getElem hkl, hx]; rfl
      have e2 : ns.getD k false = nb := by rw [List.getD_eq_getElem?_getD, List.getElem?_eq_getElem hkn, hnb']; rfl
      have HG := hidden (show goodF P [] l ns k = (P x && (!nb || decide (x = []))) by unfold goodF; rw [e1, e2])
      rw [hx] at hck
      rw [hnb'] at hck'
      have HSN := hidden (show goodsF P [] l ns (k + 1) = (goodsF P [] l ns k && goodF P [] l ns k) from goodsF_snoc)
      have HNOO := hidden (fun (h : goodF P [] l ns k = false) => show goodsF P [] l ns n = false from goodsF_no h hlt)
      have HK1 := hidden (show k + 1 ≤ l.length by omega)
      have HC := hidden (HPC.out x wr)
      obtain ⟨px, hpx⟩ : ∃ px, px = P x := ⟨_, rfl⟩
      rw [← hpx] at HG HC
      have hd : decide (k < n) = true := by simpa using hlt
      have hk0 : (0 : Int) ≤ (k : Int) := by omega
      have hk1 : (k : Int) < (n : Int) := by omega
      have hm : n - (k + 1) < n - k := by omega
      clear hU hV e1 e2 hx hnb' hkl hkn hlt hk hpx
      have hz1 : ((strOf x).toList == []) = decide (x = []) := strOf_nil17 _
      have hz2 : (strOf x).toList.isEmpty = decide (x = []) := strOf_nilE _
      have hz3 : ((strOf x).toList != []) = !decide (x = []) := by rw [bne, hz1]
      generalize decide (x = []) = zx at *
      generalize strOf x = sx at *
      cases px
      case' true => cases nb
      case' true.true => cases zx
      all_goals
        go_wp2_with (first | (refine HC.out.mono ?_; rintro e w2 ⟨rfl, rfl⟩))
        first
          | (go_roundw; (case rel => exact ⟨k + 1, HK1.out, by go_num, by rw [HSN.out, HNO.out, HG.out]; rfl, rfl⟩); (case measure => simpa [intOf] using hm))
          | (go_ret; exact ⟨retB17 (HNOO.out (by rw [HG.out]; rfl)).symm, rfl⟩)
    · have hke : k = n := by omega
      have hd : decide (k < n) = false := by simpa using hlt
      rw [hke] at HNO
      clear hke hlt hk
      go_wp2_with fail
      go_ret
      exact ⟨retB17 HNO.out.symm, rfl⟩
end Go.Proofs.Ytfjhahhkakfhmaa
/-
  Shaken: what the claims of this seat need of this text. No condition.
-/
namespace Go.Proofs.Ytfjhahhkakfhmaa
set_option maxRecDepth 8000
open Go.RowKit
set_option linter.unusedVariables false
set_option linter.unusedSimpArgs false
theorem goodsF_iff {α : Type} [DecidableEq α] {P : α → Bool} {z : α} {l : List α} {ns : List Bool} {m : Nat} : goodsF P z l ns m = true ↔ ∀ i, i < m → goodF P z l ns i = true := by
  unfold goodsF
  rw [List.all_eq_true]
  exact ⟨fun h i hi => h i (List.mem_range.2 hi), fun h i hi => h i (List.mem_range.1 hi)⟩
theorem valid_null {v : Vec} (hT : v.T = 0) (h1 : v.is.length = 0) (h2 : v.ts.length = 0) : validVB v = v.ns.all id := by
  rw [Bool.eq_iff_iff, validVB_iff, List.all_eq_true]
  have n1 : nIv v = 0 := by unfold nIv; rw [if_neg (by omega)]
  have n2 : nTv v = 0 := by unfold nTv; rw [if_neg (by omega)]
  constructor
  · rintro ⟨_, _, _, h⟩ b hb
    obtain ⟨i, hi⟩ := List.getElem?_of_mem hb
    have hlt := (List.getElem?_eq_some_iff.1 hi).1
    have := h i hlt
    rw [entryB_eq] at this
    unfold entF at this
    rw [if_pos hT, List.getD_eq_getElem?_getD, hi] at this
    exact this
  · intro h
    refine ⟨by rw [hT]; decide, by rw [h1, n1], by rw [h2, n2], fun i hi => ?_⟩
    rw [entryB_eq]
    unfold entF
    rw [if_pos hT, List.getD_eq_getElem?_getD, List.getElem?_eq_getElem hi]
    exact h _ (List.getElem_mem hi)
theorem valid_ints {v : Vec} {P : Int → Bool} (hT : v.T = 1 ∧ P = isBoolB ∨ v.T = 2 ∧ P = fun _ => true) (h1 : v.is.length = v.ns.length) (h2 : v.ts.length = 0) : validVB v = goodsF P 0 v.is v.ns v.is.length := by
  rw [Bool.eq_iff_iff, validVB_iff, goodsF_iff, h1]
  have n1 : nIv v = v.ns.length := by unfold nIv; rw [if_pos (by omega)]
  have n2 : nTv v = 0 := by unfold nTv; rw [if_neg (by omega)]
  have e : ∀ i, entryB v i = goodF P 0 v.is v.ns i := by
    intro i
    rw [entryB_eq]
    unfold entF goodF
    generalize v.is.getD i 0 = n
    generalize v.ns.getD i false = b
    rcases hT with ⟨hT, rfl⟩ | ⟨hT, rfl⟩
    · rw [if_neg (by omega), if_neg (by omega), if_pos hT]
      unfold isBoolB
      by_cases a0 : n = 0
      · subst a0; cases b <;> rfl
      · by_cases a1 : n = 1
        · subst a1; cases b <;> rfl
        · simp [a0, a1]
    · rw [if_neg (by omega), if_neg (by omega), if_neg (by omega)]
      cases b <;> simp
  constructor
  · rintro ⟨_, _, _, h⟩ i hi
    rw [← e]; exact h i hi
  · intro h
    refine ⟨by rcases hT with ⟨hT, _⟩ | ⟨hT, _⟩ <;> rw [hT] <;> decide, n1.symm, by rw [h2, n2], fun i hi => ?_⟩
    rw [e]; exact h i hi
theorem valid_texts {v : Vec} (hT : v.T = 3) (h1 : v.is.length = 0) (h2 : v.ts.length = v.ns.length) : validVB v = goodsF (fun s : Str => decide (s.length ≤ 4096)) [] v.ts v.ns v.ts.length := by
  rw [Bool.eq_iff_iff, validVB_iff, goodsF_iff, h2]
  have n1 : nIv v = 0 := by unfold nIv; rw [if_neg (by omega)]
  have n2 : nTv v = v.ns.length := by unfold nTv; rw [if_pos hT]
  have e : ∀ i, entryB v i = goodF (fun s : Str => decide (s.length ≤ 4096)) [] v.ts v.ns i := by
    intro i
    rw [entryB_eq]
    unfold entF goodF
    rw [if_neg (by omega), if_pos hT]
  constructor
  · rintro ⟨_, _, _, h⟩ i hi
    rw [← e]; exact h i hi
  · intro h
    refine ⟨by rw [hT]; decide, by rw [n1, h1], n2.symm, fun i hi => ?_⟩
    rw [e]; exact h i hi
theorem valid_no {v : Vec} (h : ¬ (isTypeB v.T = true ∧ v.is.length = nIv v ∧ v.ts.length = nTv v)) : validVB v = false :=
  Bool.eq_false_iff.2 (fun h2 => by obtain ⟨a, b, c, _⟩ := validVB_iff.1 h2; exact h ⟨a, b, c⟩)
set_option maxHeartbeats 8000000 in
theorem vvalid_any (x : Value) (v : Vec) (w : World) (hx : IsV w x v) (hf : FitLen v) : Calls Try.prog 19 #[x] w fun e w' => e = .returned (.bool (validVB v)) ∧ Grows w w' := by
  obtain ⟨b, hb⟩ : ∃ b, validVB v = b := ⟨_, rfl⟩
  have HNULL := hidden (fun h0 h1 h2 => (valid_null (v := v) h0 h1 h2).symm.trans hb)
  have HB1 := hidden (fun h0 h1 h2 => (valid_ints (v := v) (P := isBoolB) (.inl ⟨h0, rfl⟩) h1 h2).symm.trans hb)
  have HB2 := hidden (fun h0 h1 h2 => (valid_ints (v := v) (P := fun _ => true) (.inr ⟨h0, rfl⟩) h1 h2).symm.trans hb)
  have HB3 := hidden (fun h0 h1 h2 => (valid_texts (v := v) h0 h1 h2).symm.trans hb)
  have HNO := hidden (fun h => (hb.symm.trans (valid_no (v := v) h)))
  rw [hb]
  obtain ⟨T, is, ts, ns⟩ := v
  obtain ⟨a1, a2, a3, rfl, j1, j2, j3⟩ := hx
  obtain ⟨f1, f2, f3⟩ := hf
  unfold nIv nTv at HNO
  dsimp only at *
  have HC := hidden (fun W (h : Grows w W) => containsF_any a3 ns W (j3.grow h) f3)
  have HE1 := hidden (fun W (h : Grows w W) (e : is.length = ns.length) => entriesI_any 56 (fun _ _ => rfl) isBoolB isBool_any a1 a3 is ns W (j1.grow h) (j3.grow h) e f1)
  have HE2 := hidden (fun W (h : Grows w W) (e : is.length = ns.length) => entriesI_any 57 (fun _ _ => rfl) (fun _ => true) isInt_any a1 a3 is ns W (j1.grow h) (j3.grow h) e f1)
  have HE3 := hidden (fun W (h : Grows w W) (e : ts.length = ns.length) => entriesS_any 59 (fun _ _ => rfl) (fun s => decide (s.length ≤ 4096)) isText_any a2 a3 ts ns W (j2.grow h) (j3.grow h) e f2)
  obtain ⟨A1, c1, rfl⟩ := j1.slice_
  obtain ⟨A2, c2, rfl⟩ := j2.slice_
  obtain ⟨A3, c3, rfl⟩ := j3.slice_
  have HG := hidden (grow1 (w := w) (.cells #[.int .i64 T, .slice A1 is.length c1, .slice A2 ts.length c2, .slice A3 ns.length c3] 29))
  clear j1 j2 j3 hb f1 f2 f3
  generalize ns.all id = rn at *
  generalize goodsF isBoolB 0 is ns is.length = r1 at *
  generalize goodsF (fun _ => true) 0 is ns is.length = r2 at *
  generalize goodsF (fun s : Str => decide (s.length ≤ 4096)) [] ts ns ts.length = r3 at *
  generalize is.length = n1 at *
  generalize ts.length = n2 at *
  generalize ns.length = n3 at *
  by_cases t0 : T = 0
  · subst t0
    by_cases q1 : n1 = 0
    · obtain ⟨x1, x2, x3⟩ := neq17zF q1
      by_cases q2 : n2 = 0
      · obtain ⟨y1, y2, y3⟩ := neq17zF q2
        have Q1 := hidden q1
        have Q2 := hidden q2
        have HE := HG
        have HR := hidden (HNULL.out rfl Q1.out Q2.out)
        clear q1 q2
        go_enter Try.func19, Try.ntmps19
        go_wp2_with (first | (go_at_call 54; refine (HC.out _ HG.out).mono ?_; rintro e w2 ⟨rfl, rfl⟩))
        all_goals
          go_ret
          exact ⟨retB17 (by simpa using HR.out), HG.out⟩
      · obtain ⟨y1, y2, y3⟩ := neq17zT q2
        have HR := hidden (HNO.out (fun h => q2 (by have := h.2.2; simpa using this)))
        clear q1 q2
        go_enter Try.func19, Try.ntmps19
        go_wp2_with fail
        all_goals
          go_ret
          exact ⟨retB17 (HR.out.symm), HG.out⟩
    · obtain ⟨x1, x2, x3⟩ := neq17zT q1
      have HR := hidden (HNO.out (fun h => q1 (by have := h.2.1; simpa using this)))
      clear q1
      go_enter Try.func19, Try.ntmps19
      go_wp2_with fail
      all_goals
        go_ret
        exact ⟨retB17 (HR.out.symm), HG.out⟩
  have e0 : (T == 0) = false := by simpa using t0
  by_cases t1 : T = 1
  · subst t1
    by_cases q1 : n1 = n3
    · obtain ⟨x1, x2, x3⟩ := neq17F q1
      by_cases q2 : n2 = 0
      · obtain ⟨y1, y2, y3⟩ := neq17zF q2
        have Q1 := hidden q1
        have Q2 := hidden q2
        have HE := hidden (fun W h => HE1.out W h q1)
        have HR := hidden (HB1.out rfl Q1.out Q2.out)
        clear q1 q2
        go_enter Try.func19, Try.ntmps19
        go_wp2_with (first | (go_at_call 55; refine (HE.out _ HG.out).mono ?_; rintro e w2 ⟨rfl, rfl⟩))
        all_goals
          go_ret
          exact ⟨retB17 (HR.out), HG.out⟩
      · obtain ⟨y1, y2, y3⟩ := neq17zT q2
        have HR := hidden (HNO.out (fun h => q2 (by have := h.2.2; simpa using this)))
        clear q1 q2
        go_enter Try.func19, Try.ntmps19
        go_wp2_with fail
        all_goals
          go_ret
          exact ⟨retB17 (HR.out.symm), HG.out⟩
    · obtain ⟨x1, x2, x3⟩ := neq17T q1
      have HR := hidden (HNO.out (fun h => q1 (by have := h.2.1; simpa using this)))
      clear q1
      go_enter Try.func19, Try.ntmps19
      go_wp2_with fail
      all_goals
        go_ret
        exact ⟨retB17 (HR.out.symm), HG.out⟩
  have e1 : (T == 1) = false := by simpa using t1
  by_cases t2 : T = 2
  · subst t2
    by_cases q1 : n1 = n3
    · obtain ⟨x1, x2, x3⟩ := neq17F q1
      by_cases q2 : n2 = 0
      · obtain ⟨y1, y2, y3⟩ := neq17zF q2
        have Q1 := hidden q1
        have Q2 := hidden q2
        have HE := hidden (fun W h => HE2.out W h q1)
        have HR := hidden (HB2.out rfl Q1.out Q2.out)
        clear q1 q2
        go_enter Try.func19, Try.ntmps19
        go_wp2_with (first | (go_at_call 55; refine (HE.out _ HG.out).mono ?_; rintro e w2 ⟨rfl, rfl⟩))
        all_goals
          go_ret
          exact ⟨retB17 (HR.out), HG.out⟩
      · obtain ⟨y1, y2, y3⟩ := neq17zT q2
        have HR := hidden (HNO.out (fun h => q2 (by have := h.2.2; simpa using this)))
        clear q1 q2
        go_enter Try.func19, Try.ntmps19
        go_wp2_with fail
        all_goals
          go_ret
          exact ⟨retB17 (HR.out.symm), HG.out⟩
    · obtain ⟨x1, x2, x3⟩ := neq17T q1
      have HR := hidden (HNO.out (fun h => q1 (by have := h.2.1; simpa using this)))
      clear q1
      go_enter Try.func19, Try.ntmps19
      go_wp2_with fail
      all_goals
        go_ret
        exact ⟨retB17 (HR.out.symm), HG.out⟩
  have e2 : (T == 2) = false := by simpa using t2
  by_cases t3 : T = 3
  · subst t3
    by_cases q1 : n1 = 0
    · obtain ⟨x1, x2, x3⟩ := neq17zF q1
      by_cases q2 : n2 = n3
      · obtain ⟨y1, y2, y3⟩ := neq17F q2
        have Q1 := hidden q1
        have Q2 := hidden q2
        have HE := hidden (fun W h => HE3.out W h q2)
        have HR := hidden (HB3.out rfl Q1.out Q2.out)
        clear q1 q2
        go_enter Try.func19, Try.ntmps19
        go_wp2_with (first | (go_at_call 58; refine (HE.out _ HG.out).mono ?_; rintro e w2 ⟨rfl, rfl⟩))
        all_goals
          go_ret
          exact ⟨retB17 (HR.out), HG.out⟩
      · obtain ⟨y1, y2, y3⟩ := neq17T q2
        have HR := hidden (HNO.out (fun h => q2 (by have := h.2.2; simpa using this)))
        clear q1 q2
        go_enter Try.func19, Try.ntmps19
        go_wp2_with fail
        all_goals
          go_ret
          exact ⟨retB17 (HR.out.symm), HG.out⟩
    · obtain ⟨x1, x2, x3⟩ := neq17zT q1
      have HR := hidden (HNO.out (fun h => q1 (by have := h.2.1; simpa using this)))
      clear q1
      go_enter Try.func19, Try.ntmps19
      go_wp2_with fail
      all_goals
        go_ret
        exact ⟨retB17 (HR.out.symm), HG.out⟩
  have e3 : (T == 3) = false := by simpa using t3
  have HR := hidden (HNO.out (fun h => by have := isTypeB_iff.1 h.1; omega))
  go_enter Try.func19, Try.ntmps19
  go_wp2_with fail
  all_goals
    go_ret
    exact ⟨retB17 (HR.out.symm), HG.out⟩
end Go.Proofs.Ytfjhahhkakfhmaa
/-
  Shaken: what the claims of this seat need of this text. No condition.
-/
namespace Go.Proofs.Ytfjhahhkakfhmaa
set_option maxRecDepth 8000
open Go.RowKit
set_option linter.unusedVariables false
set_option linter.unusedSimpArgs false
def prevS (sel : List Int) (k : Nat) : Int := if k = 0 then -1 else sel.getD (k - 1) 0
theorem okSel_eq {L : Int} {sel : List Int} {k : Nat} (h : selsB L sel k = true) : okSel L sel k = (decide (prevS sel k < sel.getD k 0) && decide (sel.getD k 0 < L)) := by
  unfold okSel prevS
  by_cases hk : k = 0
  · subst hk
    rw [Bool.eq_iff_iff]
    simp
    omega
  · have hp : 0 ≤ sel.getD (k - 1) 0 := by
      have := selsB_iff.1 h (k - 1) (by omega)
      unfold okSel at this
      simp only [Bool.and_eq_true, decide_eq_true_eq] at this
      exact this.1
    rw [if_neg hk, Bool.eq_iff_iff]
    generalize sel.getD (k - 1) 0 = a at *
    generalize sel.getD k 0 = b at *
    simp [hk]
    omega
theorem prevS_succ {sel : List Int} {k : Nat} : prevS sel (k + 1) = sel.getD k 0 := by
  unfold prevS
  rw [if_neg (by omega), Nat.add_sub_cancel]
theorem selsB_succ {L : Int} {sel : List Int} {k : Nat} (h : selsB L sel k = true) (h2 : okSel L sel k = true) : selsB L sel (k + 1) = true :=
  selsB_iff.2 (fun i hi => by
    by_cases he : i = k
    · subst he; exact h2
    · exact selsB_iff.1 h i (by omega))
set_option maxHeartbeats 8000000 in
theorem vvalidB_any (x : Value) (B : Bat) (w : World) (hx : IsB w x B) (hf : FitB B) (hL : frIn B.len) (hS : ∀ i ∈ B.sel, frIn i) :
    Calls Try.prog 21 #[x] w fun e w' => e = .returned (.bool (validBB B)) ∧ Grows w w' := by
  obtain ⟨cs, L, al, sel⟩ := B
  obtain ⟨p, q, rfl, hp, hq⟩ := hx
  obtain ⟨f1, f2, f3⟩ := hf
  dsimp only at *
  have HP := hidden hp
  have HQ := hidden hq
  obtain ⟨A, c, rfl⟩ := hp.slice_
  obtain ⟨E, d, rfl⟩ := hq.slice_
  clear hp hq
  have HF3 := hidden f3
  obtain ⟨z, hz⟩ : ∃ z, validBB ⟨cs, L, al, sel⟩ = z := ⟨_, rfl⟩
  rw [hz]
  have HYES := hidden (fun (h0 : 0 ≤ L) (h1 : ¬ (al = true ∧ 0 < sel.length)) (h2 : cs.all (colB L) = true) (h3 : selsB L sel sel.length = true) => hz.symm.trans (validBB_of (B := ⟨cs, L, al, sel⟩) h0 h1 h2 h3))
  have HNO := hidden (fun (h : ¬ 0 ≤ L ∨ (al = true ∧ 0 < sel.length) ∨ cs.all (colB L) = false ∨ selsB L sel sel.length = false) => hz.symm.trans (validBB_no (B := ⟨cs, L, al, sel⟩) h))
  clear hz
  obtain ⟨n, hn⟩ : ∃ n, cs.length = n := ⟨_, rfl⟩
  obtain ⟨m, hm⟩ : ∃ m, sel.length = m := ⟨_, rfl⟩
  rw [hn] at HP ⊢
  rw [hm] at HQ HYES HNO ⊢
  have HN := hidden hn
  have HM := hidden hm
  have HNB := hidden (show n ≤ 1000000 ∧ m ≤ 1000000000 by omega)
  clear hn hm f1 f2 f3
  obtain ⟨W0, hW0⟩ : ∃ W0, W0 = w.alloc (.cells #[.slice A n c, .int .i64 L, .bool al, .slice E m d] 45) := ⟨_, rfl⟩
  have HG0 := hidden (show Grows w W0 by rw [hW0]; exact grow1 _)
  have HR0 := hidden (show Row W0 w.heap.size 45 [.slice A n c, .int .i64 L, .bool al, .slice E m d] by rw [hW0]; exact Row.new w 45 _ _ rfl)
  have p1 := HR0.out.cell 1
  have p2 := HR0.out.cell 2
  have p3 := HR0.out.cell 3
  simp only [List.getElem?_cons_succ, List.getElem?_cons_zero] at p1 p2 p3
  rw [hW0] at p1 p2 p3
  by_cases hL0 : L < 0
  · have HE := hidden (HNO.out (.inl (by omega)))
    have d0 : decide (L < 0) = true := by simpa using hL0
    go_enter Try.func21, Try.ntmps21
    go_wp2_with fail
    go_ret
    exact ⟨retB17 HE.out.symm, by rw [← hW0]; exact HG0.out⟩
  have d0 : decide (L < 0) = false := by simpa using hL0
  have HL0 := hidden (show 0 ≤ L by omega)
  by_cases hal : al = true ∧ 0 < m
  · have HE := hidden (HNO.out (.inr (.inl hal)))
    obtain ⟨rfl, hm0⟩ := hal
    have d1 : decide (0 < m) = true := by simpa using hm0
    have d2 : decide ((0 : Int) < (m : Int)) = true := by simp; omega
    clear hL0
    go_enter Try.func21, Try.ntmps21
    go_wp2_with fail
    go_ret
    exact ⟨retB17 HE.out.symm, by rw [← hW0]; exact HG0.out⟩
  have HAL := hidden hal
  have haf : al = false ∨ (al = true ∧ decide (0 < m) = false ∧ decide ((0 : Int) < (m : Int)) = false) := by
    cases al
    · exact .inl rfl
    · have : m = 0 := by have := mt (And.intro rfl) hal; omega
      exact .inr ⟨rfl, by simp [this], by simp [this]⟩
  have HCL := hidden (fun (W : World) (h : Grows W0 W) => And.intro ((HR0.out.grow h).cell 0) (And.intro ((HR0.out.grow h).cell 1) ((HR0.out.grow h).cell 3)))
  simp only [List.getElem?_cons_succ, List.getElem?_cons_zero] at HCL
  have HW0 := hidden hW0
  have HSI := hidden hS
  clear hW0 hal hL0 hS
  rcases haf with hcase | ⟨hcase, m1, m2⟩
  all_goals
    subst hcase
    go_enter Try.func21, Try.ntmps21
    go_wp2_with fail
    rw [← HW0.out]
    clear p1 p2 p3
    go_loopw [24] (fun i wr => ∃ k : Nat, k ≤ n ∧ i = .int .i64 (k : Int) ∧ (cs.take k).all (colB L) = true ∧ Grows W0 wr) (fun i _ => n - (intOf i).toNat)
    case atStart => exact ⟨0, Nat.zero_le _, rfl, rfl, Below.refl _ _⟩
    case round =>
      obtain ⟨k, hk, rfl, hall, hb⟩ := hrel
      have HB := hidden hb
      have HALL := hidden hall
      clear hb hall
      have hnb : n ≤ 1000000 := HNB.out.1
      by_cases hlt : k < n
      · have hkl : k < cs.length := by rw [HN.out]; exact hlt
        have hP := HP.out
        rw [← HN.out] at hP
        obtain ⟨b0, off, B1, d1, B2, d2, B3, d3, rfl, hcc⟩ := hP.at_ hkl
        have ey : ∃ y, y = cs[k] := ⟨_, rfl⟩
        obtain ⟨y, hy⟩ := ey
        have HMEM := hidden (show y ∈ cs by rw [hy]; exact List.getElem_mem _)
        have HTK := hidden (show cs.take (k + 1) = cs.take k ++ [y] by rw [List.take_add_one, List.getElem?_eq_getElem hkl, hy]; rfl)
        rw [← hy] at hcc
        have HC := hidden hcc
        have HNC := hidden (fun (h : colB L y = false) => show cs.all (colB L) = false from Bool.eq_false_iff.2 (fun h2 => by have := List.all_eq_true.1 h2 y HMEM.out; rw [h] at this; cases this))
        have hk0 : (0 : Int) ≤ (k : Int) := by omega
        have hk1 : (k : Int) < (n : Int) := by omega
        have hd : decide (k < n) = true := by simpa using hlt
        have hm : n - (k + 1) < n - k := by omega
        have HK1 := hidden (show k + 1 ≤ n by omega)
        have HFL := hidden (HF3.out y HMEM.out)
        clear hy hkl hlt hk hcc hP
        obtain ⟨c0, c1', c2', c3', -⟩ := HC.out wr (HG0.out.of_below HB.out)
        obtain ⟨z0, z1, z2, z3, -⟩ := HC.out (wr.alloc (.cells #[.int .i64 0, .slice none 0 0, .slice none 0 0, .slice none 0 0] 29)) ((HG0.out.of_below HB.out).of_below (grow1 _))
        obtain ⟨-, p1, -⟩ := HCL.out (wr.alloc (.cells #[.int .i64 y.T, .slice B1 y.is.length d1, .slice B2 y.ts.length d2, .slice B3 y.ns.length d3] 29)) (HB.out.of_below (grow1 _))
        have HVV := hidden (fun W (h : Grows wr W) => vvalid_any _ y W (HC.out W ((HG0.out.of_below HB.out).of_below h)).2.2.2.2 HFL.out)
        have HCB := hidden (show colB L y = (validVB y && decide ((y.ns.length : Int) = L)) from rfl)
        have HGA := hidden (grow1 (w := wr) (.cells #[.int .i64 y.T, .slice B1 y.is.length d1, .slice B2 y.ts.length d2, .slice B3 y.ns.length d3] 29))
        by_cases hnl : (y.ns.length : Int) = L
        · have e1 : ((y.ns.length : Int) != L) = false := by simp [hnl]
          have e2 : ((y.ns.length : Int) == L) = true := by simp [hnl]
          rw [decide_eq_true hnl, Bool.and_true] at HCB
          rw [HCB.out] at HNC
          generalize validVB y = vb at *
          clear hnl
          cases vb
          · have HE := hidden (HNO.out (.inr (.inr (.inl (HNC.out rfl)))))
            go_wp2_with (first
              | (go_at_call 19; refine (HVV.out _ HGA.out).mono ?_; rintro e w2 ⟨rfl, g2⟩; have HG2 := hidden ((HB.out.of_below HGA.out).of_below g2); clear g2))
            go_ret
            exact ⟨retB17 HE.out.symm, HG0.out.of_below HG2.out⟩
          · go_wp2_with (first
              | (go_at_call 19; refine (HVV.out _ HGA.out).mono ?_; rintro e w2 ⟨rfl, g2⟩; have HG2 := hidden ((HB.out.of_below HGA.out).of_below g2); clear g2))
            go_roundw
            case rel => exact ⟨k + 1, HK1.out, by go_num, by rw [HTK.out, List.all_append, HALL.out]; simp [HCB.out], HG2.out⟩
            case measure => simpa [intOf] using hm
        · have e1 : ((y.ns.length : Int) != L) = true := by simp [hnl]
          have e2 : ((y.ns.length : Int) == L) = false := by simp [hnl]
          rw [decide_eq_false hnl, Bool.and_false] at HCB
          have HE := hidden (HNO.out (.inr (.inr (.inl (HNC.out HCB.out)))))
          clear hnl
          go_wp2_with fail
          go_ret
          exact ⟨retB17 HE.out.symm, HG0.out.of_below (HB.out.of_below HGA.out)⟩
      · have hke : k = n := by omega
        have hd : decide (k < n) = false := by simpa using hlt
        have HTK := hidden (show cs.take k = cs by rw [hke, ← HN.out, List.take_length])
        rw [HTK.out] at HALL
        obtain ⟨-, p1, p3⟩ := HCL.out wr HB.out
        clear hke hlt hk
        go_wp2_with fail
        clear p1 p3
        go_loopw [5, 43] (fun u i wr => ∃ k : Nat, k ≤ m ∧ i = .int .i64 (k : Int) ∧ u = .int .i64 (prevS sel k) ∧ selsB L sel k = true ∧ Grows W0 wr) (fun _ i _ => m - (intOf i).toNat)
        case atStart => exact ⟨0, Nat.zero_le _, rfl, rfl, selsB_iff.2 (fun i hi => by omega), HB.out⟩
        case round =>
          obtain ⟨k2, hk, rfl, rfl, hsel, hb⟩ := hrel
          have HB2 := hidden hb
          have HSEL := hidden hsel
          clear hb hsel
          have hmb : m ≤ 1000000000 := HNB.out.2
          by_cases hlt : k2 < m
          · have hkl : k2 < sel.length := by rw [HM.out]; exact hlt
            have hQ := HQ.out
            rw [← HM.out] at hQ
            obtain ⟨b0, off, rfl, hcc⟩ := hQ.at_ hkl
            have ei : ∃ i, sel[k2] = i := ⟨_, rfl⟩
            obtain ⟨i, hi⟩ := ei
            rw [hi] at hcc
            have HGD := hidden (show sel.getD k2 0 = i by rw [List.getD_eq_getElem?_getD, List.getElem?_eq_getElem hkl, hi]; rfl)
            have hfi := HSI.out i (by rw [← hi]; exact List.getElem_mem _)
            unfold frIn at hfi
            have hcx := ((HG0.out.of_below HB2.out).cell (World.block_lt_of_cell? _ _ hcc)).trans hcc
            have HOKE := hidden (okSel_eq HSEL.out)
            rw [HGD.out] at HOKE
            have HPS := hidden (show prevS sel (k2 + 1) = i by rw [prevS_succ]; exact HGD.out)
            have HSC := hidden (fun h => selsB_succ HSEL.out h)
            have HSN := hidden (fun h => HNO.out (.inr (.inr (.inr (selsB_no (len := L) (sel := sel) hlt h)))))
            obtain ⟨pv, hpv⟩ : ∃ pv, prevS sel k2 = pv := ⟨_, rfl⟩
            rw [hpv] at HOKE ⊢
            have hk0 : (0 : Int) ≤ (k2 : Int) := by omega
            have hk1 : (k2 : Int) < (m : Int) := by omega
            have hd : decide (k2 < m) = true := by simpa using hlt
            have hm' : m - (k2 + 1) < m - k2 := by omega
            have HK1 := hidden (show k2 + 1 ≤ m by omega)
            obtain ⟨-, p1, -⟩ := HCL.out wr HB2.out
            clear hi hkl hlt hk hcc hQ hpv
            by_cases h1 : i ≤ pv
            · have e1 : decide (i ≤ pv) = true := by simpa using h1
              have HE := hidden (HSN.out (by rw [HOKE.out]; simp; omega))
              clear h1 hfi
              go_wp2_with fail
              go_ret
              exact ⟨retB17 HE.out.symm, HG0.out.of_below HB2.out⟩
            · have e1 : decide (i ≤ pv) = false := by simpa using h1
              by_cases h2 : L ≤ i
              · have e2 : decide (L ≤ i) = true := by simpa using h2
                have HE := hidden (HSN.out (by rw [HOKE.out]; simp; omega))
                clear h1 h2 hfi
                go_wp2_with fail
                go_ret
                exact ⟨retB17 HE.out.symm, HG0.out.of_below HB2.out⟩
              · have e2 : decide (L ≤ i) = false := by simpa using h2
                have HS2 := hidden (HSC.out (by rw [HOKE.out]; simp; omega))
                clear h1 h2 hfi
                go_wp2_with fail
                go_roundw
                case rel => exact ⟨k2 + 1, HK1.out, by go_num, by rw [HPS.out], HS2.out, HB2.out⟩
                case measure => simpa [intOf] using hm'
          · have hke : k2 = m := by omega
            have hd : decide (k2 < m) = false := by simpa using hlt
            rw [hke] at HSEL
            have HE := hidden (HYES.out HL0.out HAL.out HALL.out HSEL.out)
            clear hke hlt hk
            go_wp2_with fail
            go_ret
            exact ⟨retB17 HE.out.symm, HG0.out.of_below HB2.out⟩
end Go.Proofs.Ytfjhahhkakfhmaa
/-
  Shaken: what the claims of this seat need of this text. No condition.
-/
namespace Go.Proofs.Ytfjhahhkakfhmaa
set_option maxRecDepth 8000
open Go.RowKit
set_option linter.unusedVariables false
set_option linter.unusedSimpArgs false
def FiRel (L : List Int) (g : Nat) (W0 : World) (i : Value) (wr : World) : Prop :=
  ∃ k : Nat, k ≤ L.length ∧ i = .int .i64 (k : Int) ∧ Row wr g 3 (icells (filled L k 0)) ∧ Grows W0 wr
def IntsQ (l : List Int) (w : World) (e : Ending) (w' : World) : Prop := ∃ A c, e = .returned (.slice A l.length c) ∧ IsI w' (.slice A l.length c) l ∧ Grows w w'
set_option maxHeartbeats 8000000 in
theorem rowIndices_any (x : Value) (B : Bat) (w : World) (hx : IsB w x B) (h0 : 0 ≤ B.len) (h1 : B.len ≤ 1000000000) :
    Calls Try.prog 66 #[x] w (IntsQ (idxB B) w) := by
  obtain ⟨cs, L, al, sel⟩ := B
  obtain ⟨p, q, rfl, hp, hq⟩ := hx
  dsimp only at *
  have HQ := hidden hq
  obtain ⟨A, c, rfl⟩ := hp.slice_
  obtain ⟨E, d, rfl⟩ := hq.slice_
  clear hp hq
  generalize cs.length = n at *
  obtain ⟨W0, hW0⟩ : ∃ W0, W0 = w.alloc (.cells #[.slice A n c, .int .i64 L, .bool al, .slice E sel.length d] 45) := ⟨_, rfl⟩
  have HG0 := hidden (show Grows w W0 by rw [hW0]; exact grow1 _)
  have HR0 := hidden (show Row W0 w.heap.size 45 [.slice A n c, .int .i64 L, .bool al, .slice E sel.length d] by rw [hW0]; exact Row.new w 45 _ _ rfl)
  have p1 := HR0.out.cell 1
  have p2 := HR0.out.cell 2
  have p3 := HR0.out.cell 3
  simp only [List.getElem?_cons_succ, List.getElem?_cons_zero] at p1 p2 p3
  rw [hW0] at p1 p2 p3
  cases al
  · have HI := hidden (show idxB ⟨cs, L, false, sel⟩ = sel from rfl)
    rw [HI.out]
    obtain ⟨m, hm⟩ : ∃ m, sel.length = m := ⟨_, rfl⟩
    rw [hm] at HQ hW0 p1 p2 p3 ⊢
    have HM := hidden hm
    have HG1 := HG0
    rw [hW0] at HG1
    clear hW0 h0 h1 hm HR0
    go_enter Try.func66, Try.ntmps66
    go_wp2_with fail
    go_ret
    exact ⟨E, d, by rw [HM.out]; rfl, by rw [HM.out]; exact HQ.out.grow HG1.out, HG1.out⟩
  · obtain ⟨N, rfl⟩ := Int.eq_ofNat_of_zero_le h0
    have HN := hidden (show N ≤ 1000000000 by omega)
    have HI := hidden (show idxB ⟨cs, (N : Int), true, sel⟩ = (List.range N).map (fun i : Nat => (i : Int)) from by unfold idxB; rw [if_pos rfl]; rfl)
    rw [HI.out]
    have HLN := hidden (show ((List.range N).map (fun i : Nat => (i : Int))).length = N by simp)
    have HLG := hidden (fun k (h : k < N) => show ((List.range N).map (fun i : Nat => (i : Int)))[k]? = some (k : Int) by rw [List.getElem?_map, List.getElem?_range h]; rfl)
    generalize (List.range N).map (fun i : Nat => (i : Int)) = LL at *
    have HLE := hidden ((isLength_any (N : Int)))
    have hb : isLenB (N : Int) = true := by unfold isLenB; simp; omega
    rw [hb] at HLE
    have HMK := hidden (fun W => run_make_oneM (P := Try.prog) 43 3 (.int .i64 0) 8 Try.underlying43 infoN17 rfl N (by omega) (by omega) W)
    have hmk := HMK.out
    have HSZ := hidden (show W0.heap.size = w.heap.size + 1 by rw [hW0]; simp)
    generalize sel.length = m at *
    clear h0 h1 hb HQ HI
    have HW := hidden hW0
    clear hW0
    go_enter Try.func66, Try.ntmps66
    go_wp2_with (first | (go_at_call 64; refine (HLE.out _).mono ?_; rintro e w2 ⟨rfl, rfl⟩))
    rw [← HW.out]
    clear hmk p1 p2 p3
    go_loopw [19] (fun i wr => FiRel LL (w.heap.size + 1) W0 i wr) (fun i _ => N - (intOf i).toNat)
    case atStart =>
      exact ⟨0, Nat.zero_le _, rfl, by rw [filled_zero, HLN.out]; exact Row.at_ W0 _ _ _ (by unfold icells; rw [List.map_replicate]; simp) _ HSZ.out.symm, grow1 _⟩
    case round =>
      obtain ⟨k, hk, rfl, hr, hg⟩ := hrel
      rw [HLN.out] at hk
      have HRW := hidden hr
      have HGW := hidden hg
      clear hr hg
      have hnb : N ≤ 1000000000 := HN.out
      by_cases hlt : k < N
      · have HST := hidden (show (icells (filled LL k 0)).set k (.int .i64 (k : Int)) = icells (filled LL (k + 1) 0) by rw [icells_set, filled_set (HLG.out k hlt)])
        have HLL := hidden (show k < (icells (filled LL k 0)).length by rw [icells_length, filled_len (by rw [HLN.out]; omega), HLN.out]; exact hlt)
        have hd : decide (k < N) = true := by simpa using hlt
        have hk0 : (0 : Int) ≤ (k : Int) := by omega
        have hk1 : (k : Int) < (N : Int) := by omega
        have hm : N - (k + 1) < N - k := by omega
        have HK1 := hidden (show k + 1 ≤ LL.length by rw [HLN.out]; omega)
        generalize icells (filled LL k 0) = cs' at *
        clear hlt hk
        go_wp2_with (first
          | (refine wpList_store_c rfl 3 _ _ rfl (by kernel_rfl) (w.heap.size + 1) k rfl (.int .i64 (k : Int)) rfl rfl _ _ HRW.out HLL.out ?_; intro W3 hr3 ho3; rw [HST.out] at hr3; have HR3 := hidden hr3; have HG3 := hidden (ho3.below HGW.out (fun i hi => by rw [HSZ.out, hi]; omega)); clear hr3 ho3))
        go_roundw
        case rel => exact ⟨k + 1, HK1.out, by go_num, HR3.out, HG3.out⟩
        case measure => simpa [intOf] using hm
      · have hke : k = N := by omega
        have hd : decide (k < N) = false := by simpa using hlt
        have HF := hidden (show icells (filled LL k 0) = icells LL by rw [filled_all _ (by rw [HLN.out]; exact hke)])
        clear hke hlt hk
        go_wp2_with fail
        go_ret
        have h := HRW.out
        rw [HF.out] at h
        have hr := Reads.of_row h N N (by rw [icells_length, HLN.out]) (Nat.le_refl _)
        rw [← HLN.out] at hr ⊢
        exact ⟨_, _, rfl, hr, HG0.out.of_below HGW.out⟩
set_option maxHeartbeats 8000000 in
theorem vtypes_any (x : Value) (B : Bat) (w : World) (hx : IsB w x B) (hl : B.cs.length ≤ 1000000000) :
    Calls Try.prog 34 #[x] w (OwnInts (typesB B) w) := by
  obtain ⟨cs, L, al, sel⟩ := B
  obtain ⟨p, q, rfl, hp, hq⟩ := hx
  dsimp only at *
  have HP := hidden hp
  obtain ⟨A, c, rfl⟩ := hp.slice_
  obtain ⟨E, d, rfl⟩ := hq.slice_
  clear hp hq
  have HLN := hidden (show (typesB ⟨cs, L, al, sel⟩).length = cs.length by simp [typesB])
  have HLG := hidden (fun k (h : k < cs.length) => show (typesB ⟨cs, L, al, sel⟩)[k]? = some (cs[k]).T by unfold typesB; rw [List.getElem?_map, List.getElem?_eq_getElem h]; rfl)
  generalize typesB ⟨cs, L, al, sel⟩ = LL at *
  obtain ⟨n, hn⟩ : ∃ n, cs.length = n := ⟨_, rfl⟩
  rw [hn] at HP HLN ⊢
  have HN := hidden hn
  have HNB := hidden (show n ≤ 1000000000 by omega)
  generalize sel.length = m at *
  obtain ⟨W0, hW0⟩ : ∃ W0, W0 = w.alloc (.cells #[.slice A n c, .int .i64 L, .bool al, .slice E m d] 45) := ⟨_, rfl⟩
  have HG0 := hidden (show Grows w W0 by rw [hW0]; exact grow1 _)
  have HR0 := hidden (show Row W0 w.heap.size 45 [.slice A n c, .int .i64 L, .bool al, .slice E m d] by rw [hW0]; exact Row.new w 45 _ _ rfl)
  have p0 := HR0.out.cell 0
  simp only [List.getElem?_cons_succ, List.getElem?_cons_zero] at p0
  rw [hW0] at p0
  have HMK := hidden (fun W => run_make_oneM (P := Try.prog) 43 3 (.int .i64 0) 8 Try.underlying43 infoN17 rfl n (by omega) (by omega) W)
  have hmk := HMK.out
  have HSZ := hidden (show W0.heap.size = w.heap.size + 1 by rw [hW0]; simp)
  have HW := hidden hW0
  have hq0 : (W0.alloc (.cells (List.replicate n (Value.int .i64 0)).toArray 3)).cell? ⟨w.heap.size, 0, none⟩ = some (.slice A n c) := (HR0.out.grow (grow1 _)).cell 0
  rw [hW0] at hq0
  clear hW0 hn hl
  go_enter Try.func34, Try.ntmps34
  go_wp2_with fail
  rw [← HW.out]
  clear hmk p0 hq0
  go_loopw [13] (fun i wr => FiRel LL (w.heap.size + 1) W0 i wr) (fun i _ => n - (intOf i).toNat)
  case atStart =>
    exact ⟨0, Nat.zero_le _, rfl, by rw [filled_zero, HLN.out]; exact Row.at_ W0 _ _ _ (by unfold icells; rw [List.map_replicate]; simp) _ HSZ.out.symm, grow1 _⟩
  case round =>
    obtain ⟨k, hk, rfl, hr, hg⟩ := hrel
    rw [HLN.out] at hk
    have HRW := hidden hr
    have HGW := hidden hg
    clear hr hg
    have hnb : n ≤ 1000000000 := HNB.out
    by_cases hlt : k < n
    · have hkl : k < cs.length := by rw [HN.out]; exact hlt
      have hP := HP.out
      rw [← HN.out] at hP
      obtain ⟨b0, off, B1, d1, B2, d2, B3, d3, rfl, hcc⟩ := hP.at_ hkl
      have HLK := hidden (HLG.out k hkl)
      have ey : ∃ y, y = cs[k] := ⟨_, rfl⟩
      obtain ⟨y, hy⟩ := ey
      rw [← hy] at hcc HLK
      obtain ⟨c0, c1', c2', c3', -⟩ := hcc wr (HG0.out.of_below HGW.out)
      obtain ⟨z0, z1, z2, z3, -⟩ := hcc (wr.alloc (.cells #[.int .i64 0, .slice none 0 0, .slice none 0 0, .slice none 0 0] 29)) ((HG0.out.of_below HGW.out).of_below (grow1 _))
      have HST := hidden (show (icells (filled LL k 0)).set k (.int .i64 y.T) = icells (filled LL (k + 1) 0) by rw [icells_set, filled_set HLK.out])
      have HLL := hidden (show k < (icells (filled LL k 0)).length by rw [icells_length, filled_len (by rw [HLN.out]; omega), HLN.out]; exact hlt)
      have hd : decide (k < n) = true := by simpa using hlt
      have hk0 : (0 : Int) ≤ (k : Int) := by omega
      have hk1 : (k : Int) < (n : Int) := by omega
      have hm : n - (k + 1) < n - k := by omega
      have HK1 := hidden (show k + 1 ≤ LL.length by rw [HLN.out]; omega)
      have HGA := hidden (grow1 (w := wr) (.cells #[.int .i64 y.T, .slice B1 y.is.length d1, .slice B2 y.ts.length d2, .slice B3 y.ns.length d3] 29))
      generalize icells (filled LL k 0) = cs' at *
      clear hlt hk hy hkl hP hcc
      go_wp2_with (first
        | (refine wpList_store_c rfl 3 _ _ rfl (by kernel_rfl) (w.heap.size + 1) k rfl (.int .i64 y.T) rfl rfl _ _ (HRW.out.grow HGA.out) HLL.out ?_; intro W3 hr3 ho3; rw [HST.out] at hr3; have HR3 := hidden hr3; have HG3 := hidden (ho3.below (HGW.out.of_below HGA.out) (fun i hi => by rw [HSZ.out, hi]; omega)); clear hr3 ho3))
      go_roundw
      case rel => exact ⟨k + 1, HK1.out, by go_num, HR3.out, HG3.out⟩
      case measure => simpa [intOf] using hm
    · have hke : k = n := by omega
      have hd : decide (k < n) = false := by simpa using hlt
      have HF := hidden (show icells (filled LL k 0) = icells LL by rw [filled_all _ (by rw [HLN.out]; exact hke)])
      clear hke hlt hk
      go_wp2_with fail
      go_ret
      refine ⟨_, rfl, ?_, HG0.out.of_below HGW.out⟩
      have h := HRW.out
      rw [HF.out] at h
      rw [HLN.out]
      exact own_of_row (n := n) (sz := 1) (base := w.heap.size) h (by omega) (by rw [icells_length, HLN.out]; omega) (by omega)
end Go.Proofs.Ytfjhahhkakfhmaa
/-
  Shaken: what the claims of this seat need of this text. No condition.
-/
namespace Go.Proofs.Ytfjhahhkakfhmaa
set_option maxRecDepth 8000
open Go.RowKit
set_option linter.unusedVariables false
set_option linter.unusedSimpArgs false
theorem wpList_store_f3o {wr : World} {ops : Array Oper} {rest : List Oper} {op : Oper} {a : Act} {Q : Exit → Act → World → Prop} (hgd : op.guard = none) (x y : Operand) (ho : op.op = .store 37 x y)
    (g o : Nat) (hx : a.eval x = .pointer (some ⟨g, o, none⟩)) (k n : Int) (t : ByteArray) (hy : a.eval y = .agg #[.int .i64 k, .int .i64 n, .string t]) (T : TypeId) (xs : List Value) (hr : Row wr g T xs) (hl : o + 3 ≤ xs.length)
    (h : ∀ W, Row W g T (set3 xs o (.int .i64 k) (.int .i64 n) (.string t)) → Only (fun i => i = g) wr W → wpList Try.prog ops Q rest (a.put op.dst undef) W) : wpList Try.prog ops Q (op :: rest) a wr := by
  refine wpList_store_mid hgd _ x y ho g o #[.int .i64 k, .int .i64 n, .string t] hx hy (fun j hj => ⟨?_, hr.frozen _⟩) size_val (by simp [Value.oneCell']) ?_
  · have hj : j < 3 := hj
    rw [hr.cell, List.getElem?_eq_getElem (by omega)]; rfl
  · exact h _ (((hr.set_m o _).set_m (o + 1) _).set_m (o + 2) _) (((Only.set _ g _ _).trans (Only.set _ g _ _) (fun i hi => .inl hi)).trans (Only.set _ g _ _) (fun i hi => .inl hi))
theorem run_make_row17 (N : Nat) (hN : N ≤ 1000000000000) (W : World) : (Instr.makeSlice 65 (.int .i64 (N : Int)) (.int .i64 (N : Int))).run Try.prog W = .ok (.slice (some ⟨W.heap.size, 0, none⟩) N N) (W.alloc (.cells (vcells (List.replicate N nulX)).toArray 37)) := by
  obtain ⟨i0, hi, hz0, hz1, hz2⟩ := info_parts info_valT
  have h := run_make (P := Try.prog) W 65 37 i0 _ Try.underlying65 hi hz0 .i64 .i64 (N : Int) (N : Int) (by omega) (by omega) (by rw [hz2]; omega) (by omega)
  rw [hz1] at h
  rw [← made_vals]
  simp only [Int.toNat_natCast] at h
  exact h
structure RowsSt (W0 : World) (RB : Nat) (ls : List (List Val)) (vs : List Value) (X : World) : Prop where
  row : Row X RB 65 vs
  len : vs.length = ls.length
  each : ∀ (j : Nat) (u : Value) (l : List Val), vs[j]? = some u → ls[j]? = some l → X.ownsRow W0.heap.size 37 3 u l.length (vcells l)
  grows : Grows W0 X
theorem RowsSt.grow {W0 : World} {RB : Nat} {ls : List (List Val)} {vs : List Value} {X Y : World} (h : RowsSt W0 RB ls vs X) (hg : Grows X Y) : RowsSt W0 RB ls vs Y :=
  ⟨h.row.grow hg, h.len, fun j u l h1 h2 => ownsRow_grow (h.each j u l h1 h2) hg, h.grows.of_below hg⟩
theorem RowsSt.start {W0 : World} (n : Nat) : RowsSt W0 W0.heap.size (List.replicate n []) (List.replicate n (.slice none 0 0)) (W0.alloc (.cells (List.replicate n (Value.slice none 0 0)).toArray 65)) :=
  ⟨Row.new W0 _ _ _ rfl, by simp, fun j u l h1 h2 => by
    have e1 := (List.getElem?_eq_some_iff.1 h1).2
    have e2 := (List.getElem?_eq_some_iff.1 h2).2
    rw [List.getElem_replicate] at e1 e2
    subst e1 e2
    exact World.ownsRow_nil _ _ _ _, grow1 _⟩
theorem RowsSt.next {W0 : World} {RB : Nat} {ls : List (List Val)} {vs : List Value} {X Y Z V : World} {k XB : Nat} {u : Value} {l : List Val} (h : RowsSt W0 RB ls vs X) (hRB : W0.heap.size ≤ RB) (hXB : XB = X.heap.size) (hk : k < ls.length) (hY : Grows X Y)
    (hz : Only (fun i => i = RB) Y Z) (hr : Row Z RB 65 (vs.set k u)) (hv : Only (fun i => i = XB) Z V) (ho : V.ownsRow W0.heap.size 37 3 u l.length (vcells l)) : RowsSt W0 RB (ls.set k l) (vs.set k u) V := by
  have hRX := h.row.lt
  have hsz := h.grows.size
  refine ⟨hv.row hr (by omega), by simp [h.len], fun j u' l' h1 h2 => ?_, hv.below (hz.below (h.grows.of_below hY) (fun i hi => by omega)) (fun i hi => by omega)⟩
  by_cases hj : j = k
  · subst hj
    rw [List.getElem?_set_self (by rw [h.len]; exact hk)] at h1
    rw [List.getElem?_set_self hk] at h2
    injection h1 with h1
    injection h2 with h2
    subst h1 h2
    exact ho
  · rw [List.getElem?_set_ne (fun e => hj e.symm)] at h1 h2
    have hx := h.each j u' l' h1 h2
    have hrow := h.row
    exact ownsRow_only (ownsRow_only (ownsRow_grow hx hY) hz (fun i hi e => by subst e; exact ownsRow_row_apart hx hrow (by decide) hi)) hv (fun i hi e => by have := (hx.lt i hi).2; omega)
theorem RowsSt.own {W0 : World} {RB n : Nat} {ls : List (List Val)} {vs : List Value} {X : World} (h : RowsSt W0 RB ls vs X) (hRB : W0.heap.size ≤ RB) (hn : n = ls.length) (hb : n ≤ 1000000000) : OwnRs W0.heap.size X (.slice (some ⟨RB, 0, none⟩) n n) ls := by
  subst hn
  exact ⟨vs, h.len, own_of_row h.row hRB (by rw [h.len]; omega) (by omega), h.each⟩
def RwoRel (ls : List (List Val)) (W0 : World) (i : Value) (wr : World) : Prop := ∃ (k : Nat) (vs : List Value), k ≤ ls.length ∧ i = .int .i64 (k : Int) ∧ RowsSt W0 W0.heap.size (filled ls k []) vs wr
def RwiRel (l : List Val) (XB : Nat) (Z : World) (i : Value) (wr : World) : Prop := ∃ c : Nat, c ≤ l.length ∧ i = .int .i64 (c : Int) ∧ Row wr XB 37 (vcells (filled l c nulX)) ∧ Only (fun i => i = XB) Z wr
set_option maxHeartbeats 16000000 in
theorem vrows_any (x : Value) (B : Bat) (w : World) (hx : IsB w x B) (hok : OkB B) (h0 : 0 ≤ B.len) :
    Calls Try.prog 31 #[x] w (OwnRowsR (rowsB B) w) := by
  have HIB := hidden hx
  have HIX := hidden (fun W (h : Grows w W) => rowIndices_any x B W (hx.grow h) h0 (by have := hok.2.2.1; omega))
  have HRB := hidden (rowsB_idx B)
  have HLI := hidden (show (idxB B).length ≤ 1000000 by
    have h1 := rowsB_len B hok
    rw [rowsB_idx, List.length_map] at h1
    exact h1)
  obtain ⟨p, q, rfl, hp, hq⟩ := hx
  have HP := hidden hp
  obtain ⟨A, c, rfl⟩ := hp.slice_
  obtain ⟨E, d, rfl⟩ := hq.slice_
  clear hp hq
  have HRV := hidden (fun (i : Int) (j : Nat) (h : j < B.cs.length) => show (rowV B i)[j]? = some (atI B.cs[j] i) by unfold rowV; rw [List.getElem?_map, List.getElem?_eq_getElem h]; rfl)
  have HRL := hidden (fun i => show (rowV B i).length = B.cs.length by simp [rowV])
  have HOK := hidden hok.2.2.2
  have HCN := hidden hok.1
  generalize B.len = L at *
  generalize B.all = al at *
  obtain ⟨m, hm⟩ : ∃ m, B.cs.length = m := ⟨_, rfl⟩
  have HM := hidden hm
  generalize idxB B = ix at *
  generalize B.sel.length = sl at *
  rw [hm] at HIX HIB HP HCN ⊢
  rw [HRB.out]
  obtain ⟨n, hn⟩ : ∃ n, ix.length = n := ⟨_, rfl⟩
  have HN := hidden hn
  rw [hn] at HLI
  obtain ⟨W0, hW0⟩ : ∃ W0, W0 = w.alloc (.cells #[.slice A m c, .int .i64 L, .bool al, .slice E sl d] 45) := ⟨_, rfl⟩
  have HG0 := hidden (show Grows w W0 by rw [hW0]; exact grow1 _)
  have HR0 := hidden (show Row W0 w.heap.size 45 [.slice A m c, .int .i64 L, .bool al, .slice E sl d] by rw [hW0]; exact Row.new w 45 _ _ rfl)
  have p0 := HR0.out.cell 0
  have p1 := HR0.out.cell 1
  have p2 := HR0.out.cell 2
  have p3 := HR0.out.cell 3
  simp only [List.getElem?_cons_succ, List.getElem?_cons_zero] at p0 p1 p2 p3
  rw [hW0] at p0 p1 p2 p3
  have HW := hidden hW0
  have HMR := hidden (fun W => run_make_oneM (P := Try.prog) 57 65 (.slice none 0 0) 24 Try.underlying57 infoR17 rfl n (by have := HLI.out; omega) (by have := HLI.out; omega) W)
  have HMV := hidden (fun W => run_make_row17 m (by have := HCN.out; omega) W)
  have hmr := HMR.out
  clear hW0 hn hm hok h0
  go_enter Try.func31, Try.ntmps31
  go_wp2_with (first | (go_at_call 66; rw [← HW.out]; refine (HIX.out _ HG0.out).mono ?_; rintro e w1 ⟨IA, IC, rfl, hi1, g1⟩; rw [HN.out] at hi1; have HI1 := hidden hi1; have HG1 := hidden (HG0.out.of_below g1); have HB1 := hidden (HR0.out.grow g1); rw [HN.out]; clear hi1 g1 p0 p1 p2 p3))
  clear hmr
  have HLS := hidden (fun k (h : k < ix.length) => show (ix.map (rowV B))[k]? = some (rowV B ix[k]) by rw [List.getElem?_map, List.getElem?_eq_getElem h]; rfl)
  have HLL := hidden (show (ix.map (rowV B)).length = n by rw [List.length_map, HN.out])
  generalize ix.map (rowV B) = LS at *
  go_loopw [16] (fun i wr => RwoRel LS w1 i wr) (fun i _ => n - (intOf i).toNat)
  case atStart => exact ⟨0, _, Nat.zero_le _, rfl, by rw [filled_zero, HLL.out]; exact RowsSt.start n⟩
  case round =>
    rename World => wo
    obtain ⟨k, vs, hk, rfl, hst⟩ := hrel
    rw [HLL.out] at hk
    have HS := hidden hst
    clear hst
    have hnb : n ≤ 1000000 := HLI.out
    by_cases hlt : k < n
    · have hkl : k < ix.length := by rw [HN.out]; exact hlt
      have hI := HI1.out
      rw [← HN.out] at hI
      obtain ⟨b0, off, rfl, hcc⟩ := hI.at_ hkl
      have ei : ∃ i, ix[k] = i := ⟨_, rfl⟩
      obtain ⟨i, hi⟩ := ei
      have HLK := hidden (HLS.out k hkl)
      rw [hi] at hcc HLK
      have hcw := (HS.out.grows.cell (World.block_lt_of_cell? _ _ hcc)).trans hcc
      have HGW := hidden (HG1.out.of_below HS.out.grows)
      have HBW := hidden (HB1.out.grow HS.out.grows)
      have q0 := HBW.out.cell 0
      simp only [List.getElem?_cons_succ, List.getElem?_cons_zero] at q0
      have HRL' := hidden (show (rowV B i).length = m by rw [HRL.out, HM.out])
      have HRV' := hidden (HRV.out i)
      have HVS := hidden (show k < vs.length by rw [HS.out.len, filled_len (by rw [HLL.out]; omega), HLL.out]; exact hlt)
      have hd : decide (k < n) = true := by simpa using hlt
      have hk0 : (0 : Int) ≤ (k : Int) := by omega
      have hk1 : (k : Int) < (n : Int) := by omega
      have hm : n - (k + 1) < n - k := by omega
      have HK1 := hidden (show k + 1 ≤ LS.length by rw [HLL.out]; omega)
      have HFK := hidden (show (filled LS k []).set k (rowV B i) = filled LS (k + 1) [] from filled_set HLK.out)
      have HFL := hidden (show k < (filled LS k []).length by rw [filled_len (by rw [HLL.out]; omega), HLL.out]; exact hlt)
      have HAT := hidden (fun W (h : Grows w W) (y : Vec) (x : Value) (hx : IsV W x y) (hy : y ∈ B.cs) => const_loose (at17_any x y i W hx (HOK.out y hy).1))
      generalize rowV B i = l at *
      have hmv := HMV.out
      have hq0 : (wo.alloc (.cells (vcells (List.replicate m nulX)).toArray 37)).cell? ⟨w.heap.size, 0, none⟩ = some (.slice A m c) := (HBW.out.grow (grow1 _)).cell 0
      have HSZ := hidden (show w1.heap.size < wo.heap.size from HS.out.row.lt)
      have HWL := hidden (show w.heap.size < w1.heap.size from HB1.out.lt)
      clear hlt hk hkl hi hI hcc
      go_wp2_with (first
        | (refine wpList_store_c rfl 65 _ _ rfl (by kernel_rfl) w1.heap.size k rfl (.slice (some ⟨wo.heap.size, 0, none⟩) m m) rfl rfl _ _ (HS.out.row.grow (grow1 _)) HVS.out ?_; intro Z hr3 ho3; have HRZ := hidden hr3; have HOZ := hidden ho3; have HGZ := hidden (ho3.below (HGW.out.of_below (grow1 _)) (fun i hi => by rw [hi]; exact HG1.out.size)); have HBZ := hidden (ho3.row (HBW.out.grow (grow1 _)) (by have := HWL.out; omega)); have HXZ := hidden (ho3.row (Row.new wo 37 _ (vcells (List.replicate m nulX)) rfl) (by have := HSZ.out; omega)); have z0 := HBZ.out.cell 0; simp only [List.getElem?_cons_succ, List.getElem?_cons_zero] at z0; clear hr3 ho3 hmv hq0 q0))
      clear z0
      go_loopw [31] (fun i wr2 => RwiRel l wo.heap.size Z i wr2) (fun i _ => m - (intOf i).toNat)
      case atStart => exact ⟨0, Nat.zero_le _, rfl, by rw [filled_zero, HRL'.out]; exact HXZ.out, Only.refl _ _⟩
      case round =>
        obtain ⟨c2, hc, rfl, hrx, hox⟩ := hrel
        rw [HRL'.out] at hc
        have HRX := hidden hrx
        have HOX := hidden hox
        clear hrx hox
        have hmb : m ≤ 1000 := HCN.out
        have HGX := hidden (HOX.out.below HGZ.out (fun i hi => by have := HSZ.out; have := HWL.out; omega))
        have HRBX := hidden (HOX.out.row HRZ.out (by have := HSZ.out; omega))
        have HBX := hidden (HOX.out.row HBZ.out (by have := HSZ.out; have := HWL.out; omega))
        by_cases hlt : c2 < m
        · have hcl : c2 < B.cs.length := by rw [HM.out]; exact hlt
          have hP := HP.out
          rw [← HM.out] at hP
          obtain ⟨bb, off2, B1, d1, B2, d2, B3, d3, rfl, hcc⟩ := hP.at_ hcl
          have ey : ∃ y, y = B.cs[c2] := ⟨_, rfl⟩
          obtain ⟨y, hy⟩ := ey
          have HMEM := hidden (show y ∈ B.cs by rw [hy]; exact List.getElem_mem _)
          have HLC := hidden (HRV'.out c2 hcl)
          rw [← hy] at hcc HLC
          have HC := hidden hcc
          obtain ⟨t0, t1, t2, t3, -⟩ := HC.out wr HGX.out
          obtain ⟨s0, s1, s2, s3, -⟩ := HC.out (wr.alloc (.cells #[.int .i64 0, .slice none 0 0, .slice none 0 0, .slice none 0 0] 29)) (HGX.out.of_below (grow1 _))
          obtain ⟨WA, hWA⟩ : ∃ WA, WA = wr.alloc (.cells #[.int .i64 y.T, .slice B1 y.is.length d1, .slice B2 y.ts.length d2, .slice B3 y.ns.length d3] 29) := ⟨_, rfl⟩
          have HGA := hidden (show Grows wr WA by rw [hWA]; exact grow1 _)
          have HRA := hidden (show Row WA wr.heap.size 29 [.int .i64 y.T, .slice B1 y.is.length d1, .slice B2 y.ts.length d2, .slice B3 y.ns.length d3] by rw [hWA]; exact Row.new wr _ _ _ rfl)
          have HW2 := hidden hWA
          have HCX := hidden (fun X (h : Grows WA X) => And.intro (((HRBX.out.grow HGA.out).grow h).cell k) (And.intro ((HRA.out.grow h).cell 0) (And.intro ((HRA.out.grow h).cell 1) (And.intro ((HRA.out.grow h).cell 2) ((HRA.out.grow h).cell 3)))))
          simp only [List.getElem?_cons_succ, List.getElem?_cons_zero, List.getElem?_set_self HVS.out] at HCX
          have HC1 := hidden (fun W (h : Grows WA W) => HAT.out W (HGX.out.of_below (HGA.out.of_below h)) y _ (HC.out W (HGX.out.of_below (HGA.out.of_below h))).2.2.2.2 HMEM.out)
          obtain ⟨a, ha⟩ : ∃ a, a = atI y i := ⟨_, rfl⟩
          rw [← ha] at HC1 HLC
          have HSX := hidden (show set3 (vcells (filled l c2 nulX)) (c2 * 3) (.int .i64 a.k) (.int .i64 a.n) (.string a.t) = vcells (filled l (c2 + 1) nulX) by rw [vcells_set, filled_set HLC.out])
          have HLX := hidden (show c2 * 3 + 3 ≤ (vcells (filled l c2 nulX)).length by rw [vcells_length, filled_len (by rw [HRL'.out]; omega), HRL'.out]; omega)
          have hdc : decide (c2 < m) = true := by simpa using hlt
          have hc0 : (0 : Int) ≤ (c2 : Int) := by omega
          have hc1 : (c2 : Int) < (m : Int) := by omega
          have hmc : m - (c2 + 1) < m - c2 := by omega
          have HK2 := hidden (show c2 + 1 ≤ l.length by rw [HRL'.out]; omega)
          generalize vcells (filled l c2 nulX) = xs at *
          clear hlt hc hcl hP hy hcc ha hWA
          go_wp2_with fail
          rw [← HW2.out]
          refine wp_region_loose_tail 9 (tabRs [(7, ConstV (vV a))]) (by kernel_rfl) (by kernel_rfl) (tabRs_cons ConstV.lasts tabRs_nil) ?_
          simp only [List.take_succ_cons, List.take_zero, List.drop_succ_cons, List.drop_zero]
          iterate 7 ((with_reducible refine loose_one (v := ?_) (a' := ?_) ?_ ?_ (fun w' hC' hG' => ?_) ?_ ?_); rotate_left 2; (focus rfl); (focus rfl); (focus (obtain ⟨f0, f1, f2, f3, f4⟩ := HCX.out w' hC'; clear hC' hG'; go_simp; rfl)); (focus (go_simp; rfl)))
          refine loose_call (R := ConstV (vV a)) (f := 14) (args := #[.agg #[.int .i64 y.T, .slice B1 y.is.length d1, .slice B2 y.ts.length d2, .slice B3 y.ns.length d3], .int .i64 i]) (by rfl) (by rfl) (fun _ => by go_simp) (fun w' hC' hG' => HC1.out w' hC') ?_
          rintro _ ⟨_, _, rfl⟩
          refine ⟨?_, ?_, ?_⟩
          rotate_left
          · go_simp
            rfl
          iterate 1 ((with_reducible refine loose_one (v := ?_) (a' := ?_) ?_ ?_ (fun w' hC' hG' => ?_) ?_ ?_); rotate_left 2; (focus rfl); (focus rfl); (focus (obtain ⟨f0, f1, f2, f3, f4⟩ := HCX.out w' hC'; clear hC' hG'; go_simp; rfl)); (focus (go_simp; rfl)))
          refine loose_done (fun w9 hC' hG' => ?_)
          have HR9 := hidden ((HRX.out.grow HGA.out).grow hC')
          have HG9 := hidden (HGA.out.of_below hC')
          clear hC' hG'
          go_wp2_with (first
            | (refine wpList_store_f3o rfl _ _ rfl wo.heap.size (c2 * 3) rfl a.k a.n a.t rfl _ _ HR9.out HLX.out ?_; intro W3 hr3 ho3; rw [HSX.out] at hr3; have HR3 := hidden hr3; have HO3 := hidden ((HOX.out.trans (Only.of_grows HG9.out (fun _ => False)) (fun i hi => hi.elim)).trans ho3 (fun i hi => .inl hi)); clear hr3 ho3))
          go_roundw
          case rel => exact ⟨c2 + 1, HK2.out, by go_num, HR3.out, HO3.out⟩
          case measure => simpa [intOf] using hmc
        · have hke : c2 = m := by omega
          have hdc : decide (c2 < m) = false := by simpa using hlt
          have HF := hidden (show filled l c2 nulX = l from filled_all _ (by rw [HRL'.out]; exact hke))
          rw [HF.out] at HRX
          have HNX := hidden (HS.out.next (l := l) (Nat.le_refl _) rfl HFL.out (grow1 _) HOZ.out HRZ.out HOX.out (by rw [HRL'.out]; exact own_of_row (n := m) (sz := 3) (base := w1.heap.size) HRX.out (Nat.le_of_lt HSZ.out) (by rw [vcells_length, HRL'.out]) (by omega)))
          rw [HFK.out] at HNX
          clear hke hlt hc
          go_wp2_with fail
          go_roundw
          case rel => exact ⟨k + 1, _, HK1.out, by go_num, HNX.out⟩
          case measure => simpa [intOf] using hm
    · have hke : k = n := by omega
      have hd : decide (k < n) = false := by simpa using hlt
      have HF := hidden (show filled LS k [] = LS from filled_all _ (by rw [HLL.out]; exact hke))
      rw [HF.out] at HS
      clear hke hlt hk
      go_wp2_with fail
      go_ret
      exact ⟨_, rfl, (HS.out.own (Nat.le_refl _) HLL.out.symm (by have := HLI.out; omega)).base_ HG1.out.size, HG1.out.of_below HS.out.grows⟩
end Go.Proofs.Ytfjhahhkakfhmaa
/-
  Shaken: what the claims of this seat need of this text. No condition.
-/
namespace Go.Proofs.Ytfjhahhkakfhmaa
set_option maxRecDepth 8000
open Go.RowKit
set_option linter.unusedVariables false
set_option linter.unusedSimpArgs false
theorem IsB.shape {w : World} {x : Value} {B : Bat} (h : IsB w x B) : ∃ A n c E m d, x = .agg #[.slice A n c, .int .i64 B.len, .bool B.all, .slice E m d] := by
  obtain ⟨p, q, rfl, hp, hq⟩ := h
  obtain ⟨A, c, rfl⟩ := hp.slice_
  obtain ⟨E, d, rfl⟩ := hq.slice_
  exact ⟨_, _, _, _, _, _, rfl⟩
set_option maxHeartbeats 4000000 in
theorem vallrows_any (v : Value) (l : List Bat) (w : World) (hv : IsBs w v l) (hl : l.length ≤ 1000) (hok : ∀ B ∈ l, OkB B ∧ 0 ≤ B.len) :
    Calls Try.prog 39 #[v] w (OwnRowsR (allRowsB l) w) := by
  have HV := hidden hv
  obtain ⟨A, c, rfl, _, _⟩ := hv
  have HOK := hidden hok
  obtain ⟨n, hn⟩ : ∃ n, l.length = n := ⟨_, rfl⟩
  have HNB := hidden (show n ≤ 1000 by omega)
  rw [hn] at HV ⊢
  have HN := hidden hn
  clear hn hl hok
  go_enter Try.func39, Try.ntmps39
  go_wp2_with fail
  go_loopw [3, 8] (fun out j wr => ArRel l w out j wr) (fun _ j _ => n - (intOf j).toNat)
  case atStart => exact ⟨0, Nat.zero_le _, rfl, OwnRs.nil_ _ _, Below.refl _ _⟩
  case round =>
    obtain ⟨k, hk, rfl, hown, hb⟩ := hrel
    rw [HN.out] at hk
    have HB := hidden hb
    have HO := hidden hown
    clear hb hown
    by_cases hlt : k < n
    · have hkl : k < l.length := by rw [HN.out]; exact hlt
      obtain ⟨b0, off, p, q, rfl, hcc⟩ := HV.out.at_ hkl
      have ey : ∃ B : Bat, (∀ W, Grows w W → W.cell? ⟨b0, off + k * 4, none⟩ = some p ∧ W.cell? ⟨b0, off + k * 4 + 1, none⟩ = some (.int .i64 B.len) ∧ W.cell? ⟨b0, off + k * 4 + 2, none⟩ = some (.bool B.all) ∧ W.cell? ⟨b0, off + k * 4 + 3, none⟩ = some q ∧ IsB W (.agg #[p, .int .i64 B.len, .bool B.all, q]) B) ∧ B ∈ l ∧ l.take (k + 1) = l.take k ++ [B] :=
        ⟨_, hcc, List.getElem_mem _, by rw [List.take_add_one, List.getElem?_eq_getElem hkl]; rfl⟩
      obtain ⟨B, hc, hmem, htk⟩ := ey
      have HTK := hidden (show allRowsB (l.take (k + 1)) = allRowsB (l.take k) ++ rowsB B by rw [htk]; simp [allRowsB])
      obtain ⟨PA, PN, PC, QA, QN, QC, hsh⟩ := (hc wr HB.out).2.2.2.2.shape
      injection hsh with hsh
      simp only [Array.mk.injEq, List.cons.injEq, and_true, true_and] at hsh
      obtain ⟨rfl, rfl⟩ := hsh
      obtain ⟨v0, v1, v2, v3, hib⟩ := hc wr HB.out
      obtain ⟨z0, z1, z2, z3, -⟩ := hc (wr.alloc (.cells #[.slice none 0 0, .int .i64 0, .bool false, .slice none 0 0] 45)) (HB.out.of_below (grow1 _))
      have HOKB := hidden (HOK.out B hmem)
      have HC1 := hidden (fun W (h : Grows wr W) => vrows_any _ B W (hib.grow h) HOKB.out.1 HOKB.out.2)
      have hd : decide (k < n) = true := by simpa using hlt
      have hk0 : (0 : Int) ≤ (k : Int) := by omega
      have hk1 : (k : Int) < (n : Int) := by omega
      have HLN := hidden (show (allRowsB (l.take k)).length ≤ 1000000000 by
        have h1 := allRowsB_len (l := l.take k) (fun x hx => (HOK.out x (List.mem_of_mem_take hx)).1)
        have h2 := HNB.out
        have h3 : (l.take k).length * 1000000 ≤ 1000 * 1000000 := Nat.mul_le_mul_right _ (by rw [List.length_take]; omega)
        omega)
      have HRL := hidden (rowsB_len B HOKB.out.1)
      have hmm : n - (k + 1) < n - k := by omega
      have HK1 := hidden (show k + 1 ≤ l.length by omega)
      have hnb := HNB.out
      have HGA := hidden (grow1 (w := wr) (.cells #[.slice PA PN PC, .int .i64 B.len, .bool B.all, .slice QA QN QC] 45))
      clear hkl hcc hc hmem htk hib hlt hk
      go_wp2_with (first
        | (go_at_call 31; refine (HC1.out _ HGA.out).mono ?_; rintro e w2 ⟨u, rfl, hu2, g2⟩; obtain ⟨us, hus0⟩ := hu2; have HUS := hidden hus0; obtain ⟨vs, hvs0⟩ := (HO.out.grow HGA.out).grow g2; have HVS := hidden hvs0; have HB2 := hidden ((HB.out.of_below HGA.out).of_below g2); have hsz : w.heap.size ≤ w2.heap.size := HB2.out.size; have hbs : w.heap.size ≤ (wr.alloc (.cells #[.slice PA PN PC, .int .i64 B.len, .bool B.all, .slice QA QN QC] 45)).heap.size := (HB.out.of_below HGA.out).size; have HBS := hidden hbs; have hrv := HVS.out.2.1; rw [← HVS.out.1] at hrv; have HRV := hidden hrv; clear g2 hus0 hvs0 hrv hbs v0 v1 v2 v3 z0 z1 z2 z3)
        | (at_builtin; go_loud (refine wpList_append_rows14 (w := w) rfl _ _ 57 rfl 65 (.slice none 0 0) 24 Try.underlying57 infoR17 rfl _ vs (by rfl) HRV.out HB2.out hsz u us (by rfl) (Reads.of_own HUS.out.2.1) HUS.out.one (by have := HLN.out; have := HRL.out; have := HVS.out.1; have := HUS.out.1; omega) (by have := HLN.out; have := HRL.out; have := HVS.out.1; have := HUS.out.1; omega) ?_); intro v' w3 hown3 hb3 hk3; have HO3 := hidden (HVS.out.append HUS.out HBS.out hown3 hk3); have HG3 := hidden hb3; clear hown3 hb3 hk3))
      go_roundw
      case rel => exact ⟨k + 1, HK1.out, by go_num, by rw [HTK.out]; exact HO3.out, HG3.out⟩
      case measure => simpa [intOf] using hmm
    · have hke : k = n := by omega
      have hd : decide (k < n) = false := by simpa using hlt
      have HE := hidden (show l.take k = l by rw [hke, ← HN.out, List.take_length])
      clear hlt hke hk
      go_wp2_with fail
      go_ret
      have h9 := HO.out
      rw [HE.out] at h9
      exact ⟨_, rfl, h9, HB.out⟩
end Go.Proofs.Ytfjhahhkakfhmaa
/-
  Shaken: what the claims of this seat need of this text. No condition.
-/
namespace Go.Proofs.Ytfjhahhkakfhmaa
set_option maxRecDepth 8000
open Go.RowKit
set_option linter.unusedVariables false
set_option linter.unusedSimpArgs false
theorem results_batP2 {fn : Func} {p q : Tmp} (h : fn.results = #[.cell p 45, .tmp q]) (tmps : Array Value) (w : World) (g : Nat) (a b c d x : Value) (hp : tmps.getD p undef = .pointer (some ⟨g, 0, none⟩)) (hg : Row w g 45 [a, b, c, d])
    (hx : tmps.getD q undef = x) : (results fn tmps).run Try.prog w = .ok (.tuple #[.agg #[a, b, c, d], x]) w := by
  have hp' : tmps[p]?.getD undef = .pointer (some ⟨g, 0, none⟩) := by simpa using hp
  have hx' : tmps[q]?.getD undef = x := by simpa using hx
  simp [results, h, hp', hx', asAddr, run_loadVar_row w g 45 45 #[a, b, c, d] (0, 0) _ hg Try.underlying45 rfl sizeB]
theorem results_batP {fn : Func} {p : Tmp} (h : fn.results = #[.cell p 45]) (tmps : Array Value) (w : World) (g : Nat) (a b c d : Value) (hp : tmps.getD p undef = .pointer (some ⟨g, 0, none⟩)) (hg : Row w g 45 [a, b, c, d]) :
    (results fn tmps).run Try.prog w = .ok (.agg #[a, b, c, d]) w := results_cell_row h _ _ _ _ _ _ _ hp hg Try.underlying45 rfl sizeB
theorem infoV17p : (Try.prog.info? 29).map (fun i => (i.zero, i.size, i.bytes)) = some (some (.agg #[.int .i64 0, .slice none 0 0, .slice none 0 0, .slice none 0 0]), 4, 80) := by kernel_rfl
def quad : Value → List Value
  | .agg cs => cs.toList
  | _ => []
def quads (xs : List Value) : List Value := xs.flatMap quad
theorem quads_snoc (xs : List Value) (x : Value) : quads (xs ++ [x]) = quads xs ++ quad x := by simp [quads]
theorem quads_get : ∀ (xs : List Value), (∀ x ∈ xs, (quad x).length = 4) → ∀ (j i : Nat) (x : Value), xs[j]? = some x → i < 4 → (quads xs)[j * 4 + i]? = (quad x)[i]?
  | [], _, j, _, x, h, _ => by simp at h
  | y :: xs, hall, 0, i, x, h, hi => by
    have e : quads (y :: xs) = quad y ++ quads xs := by simp [quads]
    simp at h
    subst h
    rw [e, List.getElem?_append_left (by rw [hall y (by simp)]; omega)]
    simp
  | y :: xs, hall, j + 1, i, x, h, hi => by
    have e : quads (y :: xs) = quad y ++ quads xs := by simp [quads]
    have hl := hall y (by simp)
    rw [e, List.getElem?_append_right (by omega), hl]
    have := quads_get xs (fun z hz => hall z (by simp [hz])) j i x (by simpa using h) hi
    rw [← this]
    congr 1
    omega
structure ColsW (base : Nat) (X : World) (v : Value) (xs : List Value) (vs : List Vec) : Prop where
  row : X.ownsRow base 29 4 v vs.length (quads xs)
  len : xs.length = vs.length
  own : ∀ (j : Nat) (x : Value) (u : Vec), xs[j]? = some x → vs[j]? = some u → OwnV base X x u
theorem ColsW.nil_ (base : Nat) (X : World) : ColsW base X (.slice none 0 0) [] [] := ⟨World.ownsRow_nil _ _ _ _, rfl, fun j x u h => by simp at h⟩
theorem ColsW.four {base : Nat} {X : World} {v : Value} {xs : List Value} {vs : List Vec} (h : ColsW base X v xs vs) : ∀ x ∈ xs, (quad x).length = 4 := by
  intro x hx
  obtain ⟨j, hj, rfl⟩ := List.getElem_of_mem hx
  obtain ⟨a, b, c, he, _⟩ := h.own j _ _ (List.getElem?_eq_getElem hj) (List.getElem?_eq_getElem (by have := h.len; omega))
  rw [he]; rfl
theorem ColsW.only {B : Nat → Prop} {base : Nat} {X Y : World} {v : Value} {xs : List Value} {vs : List Vec} (h : ColsW base X v xs vs) (hb : Only B X Y) (hn : ∀ k, v.ownBlock = some k → ¬ B k) (hx : ∀ x ∈ xs, ∀ k, blocksV x k → ¬ B k) : ColsW base Y v xs vs :=
  ⟨ownsRow_only h.row hb hn, h.len, fun j x u h1 h2 => (h.own j x u h1 h2).only hb (hx x (List.mem_of_getElem? h1))⟩
theorem ColsW.isVs {base : Nat} {X : World} {v : Value} {xs : List Value} {vs : List Vec} (h : ColsW base X v xs vs) : IsVs X v vs := by
  have hrow := h.row
  rcases id hrow.2 with ⟨hv, h0⟩ | ⟨g, cap, cur, hv, hb, hg, hn, hc, hs, ht⟩
  · exact ⟨none, 0, by rw [hv, h0], by omega, fun hp => by omega⟩
  · refine ⟨_, cap, hv, hn, fun _ => ⟨g, 0, rfl, fun j u hj => ?_⟩⟩
    have hjl : j < vs.length := (List.getElem?_eq_some_iff.1 hj).1
    have hx := List.getElem?_eq_getElem (l := xs) (i := j) (by have := h.len; omega)
    have ho := h.own j _ _ hx hj
    obtain ⟨a, b, c, he, h1, h2, h3⟩ := id ho
    rw [he] at hx ho
    have cell : ∀ i z, i < 4 → [Value.int .i64 u.T, a, b, c][i]? = some z → X.cell? ⟨g, j * 4 + i, none⟩ = some z := fun i z hi hz => by
      have := hrow.cells (g := g) (by rw [hv]; rfl) (j * 4 + i) z (by rw [quads_get xs h.four j i _ hx hi]; exact hz)
      rwa [Addr.add_lit, Nat.zero_add] at this
    rw [Nat.zero_add]
    exact ⟨a, b, c, by simpa using cell 0 _ (by omega) rfl, cell 1 _ (by omega) rfl, cell 2 _ (by omega) rfl, cell 3 _ (by omega) rfl, ho.isV⟩
theorem ColsW.snoc {base : Nat} {X Y : World} {v v' x : Value} {xs : List Value} {vs : List Vec} {u : Vec} (h : ColsW base X v xs vs) (hx : OwnV base X x u)
    (hr : Y.ownsRow base 29 4 v' (vs.length + 1) (quads xs ++ quad x)) (ho : Only (fun k => v.ownBlock = some k) X Y) : ColsW base Y v' (xs ++ [x]) (vs ++ [u]) := by
  have keep : ∀ {z : Value} {t : Vec}, OwnV base X z t → OwnV base Y z t := fun {z t} hz => hz.only ho (fun k hk e => by
    obtain ⟨a, b, c, rfl, o1, o2, o3⟩ := hz
    rcases hk with hk | hk | hk
    · exact ownsRow_apart o1 h.row (by decide) k hk e
    · exact ownsRow_apart o2 h.row (by decide) k hk e
    · exact ownsRow_apart o3 h.row (by decide) k hk e)
  refine ⟨by rw [quads_snoc, List.length_append]; exact hr, by simp [h.len], fun j y t h1 h2 => ?_⟩
  by_cases hj : j < vs.length
  · rw [List.getElem?_append_left (by rw [h.len]; exact hj)] at h1
    rw [List.getElem?_append_left hj] at h2
    exact keep (h.own j y t h1 h2)
  · rw [List.getElem?_append_right (by rw [h.len]; omega), h.len] at h1
    rw [List.getElem?_append_right (by omega)] at h2
    cases hjj : j - vs.length with
    | zero =>
      rw [hjj] at h1 h2
      simp at h1 h2
      subst h1 h2
      exact keep hx
    | succ m => rw [hjj] at h1; simp at h1
structure BatW (w : World) (d g n : Nat) (v : Value) (xs : List Value) (vs : List Vec) (X : World) : Prop where
  cols : ColsW w.heap.size X v xs vs
  row : Row X g 45 [v, .int .i64 (n : Int), .bool true, .slice none 0 0]
  res : Row X d 45 [.slice none 0 0, .int .i64 0, .bool false, .slice none 0 0]
  low : w.heap.size ≤ g
  ne : d ≠ g
  grows : Grows w X
theorem BatW.grow {w : World} {d g n : Nat} {v : Value} {xs : List Value} {vs : List Vec} {X Y : World} (h : BatW w d g n v xs vs X) (hg : Grows X Y) : BatW w d g n v xs vs Y :=
  ⟨h.cols.only (Only.of_grows hg (fun _ => False)) (fun _ _ => id) (fun _ _ _ _ => id), h.row.grow hg, h.res.grow hg, h.low, h.ne, h.grows.of_below hg⟩
theorem BatW.keepRow {w : World} {d g n : Nat} {v : Value} {xs : List Value} {vs : List Vec} {X Y : World} (h : BatW w d g n v xs vs X) (ho : Only (fun k => v.ownBlock = some k) X Y) {g' : Nat} {e : TypeId} {ys : List Value} (hr : Row X g' e ys) (he : 29 ≠ e) : Row Y g' e ys :=
  ho.row hr (ownsRow_row_apart h.cols.row hr he)
theorem BatW.push {w : World} {d g n : Nat} {v v' x : Value} {xs : List Value} {vs : List Vec} {u : Vec} {X Y Z : World} (h : BatW w d g n v xs vs X) (hx : OwnV w.heap.size X x u)
    (hr : Y.ownsRow w.heap.size 29 4 v' (vs.length + 1) (quads xs ++ quad x)) (ho : Only (fun k => v.ownBlock = some k) X Y)
    (hz : Only (fun i => i = g) Y Z) (hrow : Row Z g 45 [v', .int .i64 (n : Int), .bool true, .slice none 0 0]) : BatW w d g n v' (xs ++ [x]) (vs ++ [u]) Z := by
  have hrY := h.keepRow ho h.row (by decide)
  have hcY := h.cols.snoc hx hr ho
  have hGY := ho.below h.grows (fun i hi => (h.cols.row.lt i hi).1)
  refine ⟨hcY.only hz (fun k hk e => by subst e; exact ownsRow_row_apart hcY.row hrY (by decide) hk) (fun z hzz k hk e => ?_), hrow, hz.row (h.keepRow ho h.res (by decide)) h.ne, h.low, h.ne, hz.below hGY (fun i hi => by rw [hi]; exact h.low)⟩
  obtain ⟨j, hj, rfl⟩ := List.getElem_of_mem hzz
  exact ownV_apart (hcY.own j _ _ (List.getElem?_eq_getElem hj) (List.getElem?_eq_getElem (by have := hcY.len; omega))) hrY (by decide) (by decide) (by decide) k hk e
theorem BatW.ones {w : World} {d g n : Nat} {v : Value} {xs : List Value} {vs : List Vec} {X : World} (h : BatW w d g n v xs vs X) : (#[v, .int .i64 (n : Int), .bool true, .slice none 0 0] : Array Value).all (·.oneCell') = true := all4 (ownsRow_one h.cols.row) rfl rfl rfl
theorem ColsW.keep {base d : Nat} {X Y : World} {v : Value} {xs : List Value} {vs : List Vec} {e : TypeId} {ys : List Value} (h : ColsW base X v xs vs) (ho : Only (fun i => i = d) X Y) (hr : Row X d e ys) (he : 29 ≠ e) (h1 : 2 ≠ e) (h2 : 9 ≠ e) (h3 : 4 ≠ e) : ColsW base Y v xs vs :=
  h.only ho (fun k hk e => by subst e; exact ownsRow_row_apart h.row hr he hk) (fun z hzz k hk e => by
    obtain ⟨j, hj, rfl⟩ := List.getElem_of_mem hzz
    exact ownV_apart (h.own j _ _ (List.getElem?_eq_getElem hj) (List.getElem?_eq_getElem (by have := h.len; omega))) hr h1 h2 h3 k hk e)
theorem ColsW.base_ {b b' : Nat} {X : World} {v : Value} {xs : List Value} {vs : List Vec} (h : ColsW b X v xs vs) (hb : b' ≤ b) : ColsW b' X v xs vs :=
  ⟨ownsRow_base h.row hb, h.len, fun j x u h1 h2 => (h.own j x u h1 h2).base_ hb⟩
theorem ColsW.grow {base : Nat} {X Y : World} {v : Value} {xs : List Value} {vs : List Vec} (h : ColsW base X v xs vs) (hg : Grows X Y) : ColsW base Y v xs vs := h.only (Only.of_grows hg (fun _ => False)) (fun _ _ => id) (fun _ _ _ _ => id)
theorem ColsW.isB {base : Nat} {X : World} {v : Value} {xs : List Value} {vs : List Vec} (h : ColsW base X v xs vs) (n : Int) : IsB X (.agg #[v, .int .i64 n, .bool true, .slice none 0 0]) ⟨vs, n, true, []⟩ :=
  ⟨_, _, rfl, h.isVs, none, 0, rfl, Nat.le_refl _, fun h => by simp [icells] at h⟩
def BatC (vs : List Vec) (n : Nat) (w : World) (e : Ending) (w' : World) : Prop := ∃ v xs, e = .returned (.agg #[v, .int .i64 (n : Int), .bool true, .slice none 0 0]) ∧ ColsW w.heap.size w' v xs vs ∧ Grows w w'
theorem BatW.result {w W0 : World} {d g n : Nat} {v : Value} {xs : List Value} {vs : List Vec} {X Y : World} (h : BatW W0 d g n v xs vs X) (hw : Grows w W0) (ho : Only (fun i => i = d) X Y) (hd : w.heap.size ≤ d) : ColsW w.heap.size Y v xs vs ∧ Grows w Y :=
  ⟨(h.cols.keep ho h.res (by decide) (by decide) (by decide) (by decide)).base_ hw.size, ho.below (hw.of_below h.grows) (fun i hi => by rw [hi]; exact hd)⟩
theorem wpList_append_v4 {wr : World} {ops : Array Oper} {rest : List Oper} {o : Oper} {a : Act} {Q : Exit → Act → World → Prop} (hgd : o.guard = none) (s x : Operand)
    (ho : o.op = .call { callee := .builtin .append, args := #[s, x], argTypes := #[42, 42] })
    (v : Value) (n : Nat) (pre : List Value) (hs : a.eval s = v) (base : Nat) (hown : wr.ownsRow base 29 4 v n pre) (hbase : base ≤ wr.heap.size)
    (p q r t : Value) (h1 : (#[p, q, r, t] : Array Value).all (·.oneCell') = true) (N : Nat) (hx : a.eval x = .slice (some ⟨N, 0, none⟩) 1 1) (hN : N = wr.heap.size) (hlen : n + 1 ≤ 1000000000)
    (h : ∀ v' w', w'.ownsRow base 29 4 v' (n + 1) (pre ++ [p, q, r, t]) → Only (fun k => v.ownBlock = some k) wr w' → wpList Try.prog ops Q rest (a.put o.dst v') w') :
    wpList Try.prog ops Q (o :: rest) a (wr.alloc (.cells #[p, q, r, t] 29)) := by
  subst hN
  obtain ⟨i0, hi, hz0, hs1, hs2⟩ := info_parts infoV17p
  have hrow := Row.new wr 29 #[p, q, r, t] [p, q, r, t] rfl
  refine wpList_append_own_at _ hgd s x 42 ho base 29 i0 _ 4 80 Try.underlying42 hi hz0 hs1 hs2 rfl (by decide) v n pre hs (hown.alloc _) ⟨wr.heap.size, 0, none⟩ 1 1 [p, q, r, t] hx rfl ?_ ?_ (by unfold maxLen; omega) (by omega) (by simp; omega) ?_
  · intro j y hj
    rw [Addr.add_lit, Nat.zero_add, hrow.cell]
    exact hj
  · intro y hy
    simp only [List.all_toArray, List.all_cons, List.all_nil, Bool.and_true, Bool.and_eq_true] at h1
    simp at hy
    rcases hy with rfl | rfl | rfl | rfl
    · exact h1.1
    · exact h1.2.1
    · exact h1.2.2.1
    · exact h1.2.2.2
  · intro v' w' h2 h3 _ _
    exact h v' w' h2 ((Only.of_grows (grow1 _) _).trans (Only.by_ h3) (fun i hi => .inl hi))
end Go.Proofs.Ytfjhahhkakfhmaa
/-
  Shaken: what the claims of this seat need of this text. No condition.
-/
namespace Go.Proofs.Ytfjhahhkakfhmaa
set_option maxRecDepth 8000
open Go.RowKit
set_option linter.unusedVariables false
set_option linter.unusedSimpArgs false
theorem ReadsV.slice_ {w : World} {v : Value} {l : List Val} (h : ReadsV w v l) : ∃ A c, v = .slice A l.length c := by
  obtain ⟨A, c, h, _⟩ := h; exact ⟨A, c, h⟩
set_option maxHeartbeats 4000000 in
theorem frLit_any (g1 g2 : Nat) (A : Option Addr) (n c : Nat) (rs : List (List Val)) (j : Nat) (W : World) (h1 : Row W g1 57 [.slice A n c]) (h2 : Row W g2 3 [.int .i64 (j : Int)]) (hv : IsRs W (.slice A n c) rs) (hn : n = rs.length) (k : Nat) (hk : k < rs.length) (hj : j < rs[k].length) (hb : rs.length ≤ 1000000000) (hbj : rs[k].length ≤ 1000000000) :
    Calls Try.prog 73 #[.int .i64 (k : Int), .pointer (some ⟨g1, 0, none⟩), .pointer (some ⟨g2, 0, none⟩)] W (VaR (rs[k].getD j nulX) W) := by
  obtain ⟨b, off, u, rfl, hc⟩ := hv.at_ hk
  obtain ⟨RA, rc, rfl⟩ := (hc W (Below.refl _ _)).2.slice_
  obtain ⟨b', off', rfl, hc'⟩ := readsV_cells (hc W (Below.refl _ _)).2 hj
  have ey : ∃ y, rs[k][j] = y := ⟨_, rfl⟩
  obtain ⟨y, hy⟩ := ey
  have hg : rs[k].getD j nulX = y := by rw [List.getD_eq_getElem?_getD, List.getElem?_eq_getElem hj, hy]; rfl
  rw [hg]
  rw [hy] at hc'
  obtain ⟨m, hm⟩ : ∃ m, rs[k].length = m := ⟨_, rfl⟩
  rw [hm] at hc hbj
  have hjm : j < m := by omega
  have hkn : k < n := by omega
  have hd1 : decide (k < n) = true := by simpa using hkn
  have hd2 : decide (j < m) = true := by simpa using hjm
  have hk0 : (0 : Int) ≤ (k : Int) := by omega
  have hj0 : (0 : Int) ≤ (j : Int) := by omega
  have hk1 : (k : Int) < (n : Int) := by omega
  have hj1 : (j : Int) < (m : Int) := by omega
  have HCX := hidden (fun X (h : Grows (W.alloc (.cells #[.int .i64 0, .int .i64 0, .string ⟨#[]⟩] 37)) X) => And.intro ((h1.grow ((grow1 _).of_below h)).cell 0) (And.intro ((h2.grow ((grow1 _).of_below h)).cell 0) (And.intro (hc X ((grow1 _).of_below h)).1 (hc' X ((grow1 _).of_below h)))))
  simp only [List.getElem?_cons_zero] at HCX
  have HR := hidden (Row.new W 37 #[.int .i64 0, .int .i64 0, .string ⟨#[]⟩] [.int .i64 0, .int .i64 0, .string ⟨#[]⟩] rfl)
  clear hv hn hg hc hc' h1 h2 hb hbj hy hm hj hk
  go_enter Try.func73, Try.ntmps73
  go_wp2_with fail
  refine wp_region_loose_tail 7 (tabRs []) (by kernel_rfl) (by kernel_rfl) tabRs_nil ?_
  simp only [List.take_succ_cons, List.take_zero, List.drop_succ_cons, List.drop_zero]
  iterate 7 ((with_reducible refine loose_one (v := ?_) (a' := ?_) ?_ ?_ (fun w' hC' hG' => ?_) ?_ ?_); rotate_left 2; (focus rfl); (focus rfl); (focus (obtain ⟨f0, f1, f2, f3, f4, f5⟩ := HCX.out w' hC'; clear hC' hG'; go_simp; rfl)); (focus (go_simp; rfl)))
  refine loose_done (fun w9 hC' hG' => ?_)
  have HR9 := hidden (HR.out.grow hC')
  have HG9 := hidden ((grow1 (w := W) _).of_below hC')
  clear hC' hG'
  go_wp2_with (first
    | (refine wpList_store_f3 rfl _ _ rfl W.heap.size 0 rfl y.k y.n y.t rfl _ _ HR9.out (by simp) ?_; intro W3 hr3 ht3; have HR3 := hidden hr3; have HG3 := hidden (ht3.grows W HG9.out (Nat.le_refl _)); clear hr3 ht3))
  exact bodyPost_ret (results_val rfl _ _ _ _ _ _ rfl HR3.out) rfl ⟨rfl, HG3.out⟩
def colP (Ts : List Int) (rs : List (List Val)) (j : Nat) : Vec := buildV (Ts.getD j 0) (rs.map (fun r => r.getD j nulX))
def FrwRel (w : World) (Ts : List Int) (rs : List (List Val)) (n : Nat) (S : Value) (i : Value) (wr : World) : Prop :=
  ∃ (k : Nat) (v : Value) (xs : List Value), k ≤ Ts.length ∧ i = .int .i64 (k : Int) ∧ BatW w (w.heap.size + 1) (w.heap.size + 2) n v xs ((List.range k).map (colP Ts rs)) wr ∧ Row wr w.heap.size 57 [S]
set_option maxHeartbeats 8000000 in
theorem vfromRows1_any (u : Value) (Ts : List Int) (v : Value) (rs : List (List Val)) (w : World) (hu : IsI w u Ts) (hv : IsRs w v rs) (hf : fitR Ts rs) (hT : Ts.length ≤ 100) (hr : rs.length ≤ 1000000) :
    Calls Try.prog 70 #[u, v] w (BatC ((List.range Ts.length).map (colP Ts rs)) rs.length w) := by
  have HU := hidden hu
  have HV := hidden hv
  have HF := hidden hf
  obtain ⟨A, c, rfl⟩ := hu.slice_
  obtain ⟨E, d, rfl⟩ := hv.slice_
  obtain ⟨m, hm⟩ : ∃ m, Ts.length = m := ⟨_, rfl⟩
  obtain ⟨n, hn⟩ : ∃ n, rs.length = n := ⟨_, rfl⟩
  have HM := hidden hm
  have HN := hidden hn
  have HMB := hidden (show m ≤ 100 ∧ n ≤ 1000000 by omega)
  rw [hm] at HU ⊢
  rw [hn] at HV ⊢
  clear hu hv hf hT hr hm hn
  have HW0 := hidden (show BatW w (w.heap.size + 1) (w.heap.size + 2) n (.slice none 0 0) [] [] (((w.alloc (.cells #[.slice E n d] 57)).alloc (.cells #[.slice none 0 0, .int .i64 0, .bool false, .slice none 0 0] 45)).alloc (.cells #[.slice none 0 0, .int .i64 (n : Int), .bool true, .slice none 0 0] 45)) from
    ⟨ColsW.nil_ _ _, Row.at_ _ _ _ _ rfl _ (by simp), (Row.at_ _ _ _ _ rfl _ (by simp)).grow (grow1 _), by omega, by omega, ((grow1 _).of_below (grow1 _)).of_below (grow1 _)⟩)
  have HB0 := hidden (((Row.new w 57 #[.slice E n d] [.slice E n d] rfl).grow (grow1 (.cells #[.slice none 0 0, .int .i64 0, .bool false, .slice none 0 0] 45))).grow (grow1 (.cells #[.slice none 0 0, .int .i64 (n : Int), .bool true, .slice none 0 0] 45)))
  go_enter Try.func70, Try.ntmps70
  go_wp2_with fail
  go_loopw [14] (fun i wr => FrwRel w Ts rs n (.slice E n d) i wr) (fun i _ => m - (intOf i).toNat)
  case atStart => exact ⟨0, _, _, Nat.zero_le _, rfl, HW0.out, HB0.out⟩
  case round =>
    obtain ⟨k, vc, xs, hk, rfl, hst, hbx⟩ := hrel
    rw [HM.out] at hk
    have HS := hidden hst
    have HBX := hidden hbx
    clear hst hbx HW0 HB0
    have hmb : m ≤ 100 := HMB.out.1
    have hnb : n ≤ 1000000 := HMB.out.2
    by_cases hlt : k < m
    · have hkl : k < Ts.length := by rw [HM.out]; exact hlt
      have hU := HU.out
      rw [← HM.out] at hU
      obtain ⟨b0, off, rfl, hcc⟩ := hU.at_ hkl
      have eT : ∃ T, Ts[k] = T := ⟨_, rfl⟩
      obtain ⟨T, hT⟩ := eT
      rw [hT] at hcc
      have HGD := hidden (show Ts.getD k 0 = T by rw [List.getD_eq_getElem?_getD, List.getElem?_eq_getElem hkl, hT]; rfl)
      have hcw := (HS.out.grows.cell (World.block_lt_of_cell? _ _ hcc)).trans hcc
      have HTB := hidden (HF.out.1 T (by rw [← hT]; exact List.getElem_mem _))
      have HOK := hidden (show okL T (rs.map (fun r => r.getD k nulX)) from fun y hy => by
        obtain ⟨r, hr, rfl⟩ := List.mem_map.1 hy
        obtain ⟨h1, h2, h3⟩ := HF.out.2 r hr
        have hkr : k < r.length := by rw [h1]; exact hkl
        refine ⟨by have := h3 k hkl; rw [HGD.out] at this; exact this, ?_⟩
        show validV (r.getD k nulX).k (r.getD k nulX).n (r.getD k nulX).t = true
        rw [List.getD_eq_getElem?_getD, List.getElem?_eq_getElem hkr]
        exact List.all_eq_true.1 h2 _ (List.getElem_mem hkr))
      obtain ⟨WA, hWA⟩ : ∃ WA, WA = wr.alloc (.cells #[.int .i64 (k : Int)] 3) := ⟨_, rfl⟩
      have HGA := hidden (show Grows wr WA by rw [hWA]; exact grow1 _)
      have HCA := hidden (show Row WA wr.heap.size 3 [.int .i64 (k : Int)] by rw [hWA]; exact Row.new wr _ _ _ rfl)
      have q0 := (HBX.out.grow HGA.out).cell 0
      simp only [List.getElem?_cons_zero] at q0
      have HBD := hidden (build_any 73 (fun _ _ => rfl) #[.pointer (some ⟨w.heap.size, 0, none⟩), .pointer (some ⟨wr.heap.size, 0, none⟩)] T (rs.map (fun r => r.getD k nulX)) WA HTB.out HOK.out (by rw [List.length_map, HN.out]; omega)
        (fun W kk h hW => by
          have hkk : kk < rs.length := by simpa using h
          rw [List.getElem_map]
          have h1 := (HF.out.2 _ (List.getElem_mem hkk)).1
          exact frLit_any w.heap.size wr.heap.size E n d rs k W ((HBX.out.grow HGA.out).grow hW) (HCA.out.grow hW) (HV.out.grow (HS.out.grows.of_below (HGA.out.of_below hW))) HN.out.symm kk hkk (by rw [h1]; exact hkl) (by rw [HN.out]; omega) (by rw [h1, HM.out]; omega)))
      rw [List.length_map, HN.out] at HBD
      have HCP := hidden (show (List.range (k + 1)).map (colP Ts rs) = (List.range k).map (colP Ts rs) ++ [buildV T (rs.map (fun r => r.getD k nulX))] by rw [List.range_succ, List.map_append, ← HGD.out]; rfl)
      have HLV := hidden (show ((List.range k).map (colP Ts rs)).length = k by simp)
      have hd : decide (k < m) = true := by simpa using hlt
      have hk0 : (0 : Int) ≤ (k : Int) := by omega
      have hk1 : (k : Int) < (m : Int) := by omega
      have hmm : m - (k + 1) < m - k := by omega
      have HK1 := hidden (show k + 1 ≤ Ts.length by omega)
      have HKB := hidden (show k + 1 ≤ 1000000000 by omega)
      generalize buildV T (rs.map (fun r => r.getD k nulX)) = bv at *
      generalize (List.range k).map (colP Ts rs) = VS at *
      rw [hWA] at q0
      have HW := hidden hWA
      clear hlt hk hkl hU hcc hT hWA
      go_wp2_with (first
        | (go_at_call 46; rw [← HW.out]; refine HBD.out.mono ?_; rintro e w3 ⟨x, rfl, ho3, g3⟩; obtain ⟨p, q, r, rfl, q1, q2, q3⟩ := id ho3; have HQ3 := hidden ho3.ones; have HG3 := hidden (HGA.out.of_below g3); have HO3 := hidden (ho3.base_ (show w.heap.size ≤ WA.heap.size from (HS.out.grows.of_below HGA.out).size)); clear ho3 g3 q1 q2 q3 q0)
        | (refine wpList_store_vc rfl _ _ rfl w3.heap.size rfl _ _ _ _ rfl HQ3.out (vecZero w3) ?_; intro W4 hr4 ho4; have HR4 := hidden hr4; have g4 := ho4.below (grow1 (w := w3) _) (fun i hi => by omega); have HG4 := hidden (HG3.out.of_below g4); have HO4 := hidden (HO3.out.only (Only.of_grows g4 (fun _ => False)) (fun _ _ => id)); have HS4 := hidden (HS.out.grow HG4.out); have HB4 := hidden (HBX.out.grow HG4.out); have v0 := HS4.out.row.cell 0; simp only [List.getElem?_cons_zero] at v0; clear hr4 ho4 g4)
        | (refine wpList_load_vec rfl _ rfl w3.heap.size rfl _ _ _ _ HR4.out ?_)
        | (at_builtin; go_loud (refine wpList_append_v4 rfl _ _ rfl vc VS.length (quads xs) (by rfl) w.heap.size HS4.out.cols.row HS4.out.grows.size _ _ _ _ HQ3.out W4.heap.size (by rfl) rfl (by rw [HLV.out]; exact HKB.out) ?_); intro v' W5 hown5 hon5; obtain ⟨PA, PN, PC, rfl⟩ := ownsRow_slice hown5; have HOW5 := hidden hown5; have HON5 := hidden hon5; have HRY := hidden (HS4.out.keepRow hon5 HS4.out.row (by decide)); have HBY := hidden (HS4.out.keepRow hon5 HB4.out (by decide)); clear hown5 hon5)
        | (refine wpList_store_c rfl 42 _ _ rfl (by kernel_rfl) (w.heap.size + 2) 0 rfl (.slice PA PN PC) rfl rfl _ _ HRY.out (by simp) ?_; intro W6 hr6 ho6; have HS6 := hidden (HS4.out.push HO4.out HOW5.out HON5.out ho6 hr6); have HB6 := hidden (ho6.row HBY.out (by omega)); clear hr6 ho6))
      go_roundw
      case rel => exact ⟨k + 1, _, _, HK1.out, by go_num, by rw [HCP.out]; exact HS6.out, HB6.out⟩
      case measure => simpa [intOf] using hmm
    · have hke : k = m := by omega
      have hd : decide (k < m) = false := by simpa using hlt
      rw [hke] at HS
      clear hke hlt hk
      go_wp2_with (first
        | (refine wpList_load_bat rfl _ rfl (w.heap.size + 2) rfl _ _ _ _ HS.out.row ?_)
        | (refine wpList_store_bat rfl _ _ rfl (w.heap.size + 1) rfl _ _ _ _ rfl HS.out.ones HS.out.res ?_; intro W4 hr4 ho4; have HR4 := hidden hr4; have HE4 := hidden (HS.out.result (Below.refl _ w) ho4 (by omega)); clear hr4 ho4))
      exact bodyPost_ret (results_batP rfl _ _ _ _ _ _ _ rfl HR4.out) rfl ⟨_, _, rfl, HE4.out.1, HE4.out.2⟩
end Go.Proofs.Ytfjhahhkakfhmaa
/-
  Shaken: what the claims of this seat need of this text. No condition.
-/
namespace Go.Proofs.Ytfjhahhkakfhmaa
set_option maxRecDepth 8000
open Go.RowKit
set_option linter.unusedVariables false
set_option linter.unusedSimpArgs false
def CkRel (n : Nat) (w : World) (i : Value) (wr : World) : Prop := ∃ k : Nat, k ≤ n ∧ i = .int .i64 (k : Int) ∧ Grows w wr
set_option maxHeartbeats 8000000 in
theorem checkRows_any (u : Value) (Ts : List Int) (v : Value) (rs : List (List Val)) (w : World) (hu : IsI w u Ts) (hv : IsRs w v rs) (hf : fitR Ts rs) (hT : Ts.length ≤ 100) (hr : rs.length ≤ 1000000) :
    Calls Try.prog 69 #[u, v] w fun e w' => e = .returned (.int .i64 0) ∧ Grows w w' := by
  have HU := hidden hu
  have HV := hidden hv
  have HF := hidden hf
  obtain ⟨A, c, rfl⟩ := hu.slice_
  obtain ⟨E, d, rfl⟩ := hv.slice_
  obtain ⟨m, hm⟩ : ∃ m, Ts.length = m := ⟨_, rfl⟩
  obtain ⟨n, hn⟩ : ∃ n, rs.length = n := ⟨_, rfl⟩
  have HM := hidden hm
  have HN := hidden hn
  have HMB := hidden (show m ≤ 100 ∧ n ≤ 1000000 by omega)
  rw [hm] at HU ⊢
  rw [hn] at HV ⊢
  clear hu hv hf hT hr hm hn
  go_enter Try.func69, Try.ntmps69
  go_wp2_with fail
  go_loopw [13] (fun i wr => CkRel m w i wr) (fun i _ => m - (intOf i).toNat)
  case atStart => exact ⟨0, Nat.zero_le _, rfl, Below.refl _ _⟩
  case round =>
    rename World => w1
    obtain ⟨k, hk, rfl, hg⟩ := hrel
    have HG := hidden hg
    clear hg
    have hmb : m ≤ 100 := HMB.out.1
    by_cases hlt : k < m
    · have hkl : k < Ts.length := by rw [HM.out]; exact hlt
      have hU := HU.out
      rw [← HM.out] at hU
      obtain ⟨b0, off, rfl, hcc⟩ := hU.at_ hkl
      have eT : ∃ T, Ts[k] = T := ⟨_, rfl⟩
      obtain ⟨T, hT⟩ := eT
      rw [hT] at hcc
      have hcw := (HG.out.cell (World.block_lt_of_cell? _ _ hcc)).trans hcc
      have HTY := hidden (isType_any T w1)
      rw [HF.out.1 T (by rw [← hT]; exact List.getElem_mem _)] at HTY
      have hd : decide (k < m) = true := by simpa using hlt
      have hk0 : (0 : Int) ≤ (k : Int) := by omega
      have hk1 : (k : Int) < (m : Int) := by omega
      have hmm : m - (k + 1) < m - k := by omega
      have HK1 := hidden (show k + 1 ≤ m by omega)
      clear hlt hk hkl hU hcc hT
      go_wp2_with (first | (go_at_call 44; refine HTY.out.mono ?_; rintro e w2 ⟨rfl, rfl⟩))
      go_roundw
      case rel => exact ⟨k + 1, HK1.out, by go_num, HG.out⟩
      case measure => simpa [intOf] using hmm
    · have hke : k = m := by omega
      have hd : decide (k < m) = false := by simpa using hlt
      clear hke hlt hk
      go_wp2_with fail
      go_loopw [23] (fun i wr => CkRel n w i wr) (fun i _ => n - (intOf i).toNat)
      case atStart => exact ⟨0, Nat.zero_le _, rfl, HG.out⟩
      case round =>
        rename World => w2
        obtain ⟨k2, hk, rfl, hg⟩ := hrel
        have HG2 := hidden hg
        clear hg
        have hnb : n ≤ 1000000 := HMB.out.2
        by_cases hlt : k2 < n
        · have hkl : k2 < rs.length := by rw [HN.out]; exact hlt
          have hV := HV.out
          rw [← HN.out] at hV
          obtain ⟨b1, off1, ru, rfl, hcc⟩ := hV.at_ hkl
          have er : ∃ r, rs[k2] = r := ⟨_, rfl⟩
          obtain ⟨r, hr⟩ := er
          have hfr := HF.out.2 r (by rw [← hr]; exact List.getElem_mem _)
          rw [hr] at hcc
          obtain ⟨RA, rc, rfl⟩ := (hcc w (Below.refl _ _)).2.slice_
          rw [hfr.1, HM.out] at hcc
          have HC := hidden hcc
          have hcw := (HC.out w2 HG2.out).1
          have HFR := hidden hfr.2.2
          have HRL := hidden (show r.length = m by rw [hfr.1, HM.out])
          have hd2 : decide (k2 < n) = true := by simpa using hlt
          have hk0 : (0 : Int) ≤ (k2 : Int) := by omega
          have hk1 : (k2 : Int) < (n : Int) := by omega
          have hmm : n - (k2 + 1) < n - k2 := by omega
          have HK1 := hidden (show k2 + 1 ≤ n by omega)
          clear hlt hk hkl hV hcc hr hfr
          go_wp2_with fail
          clear hcw
          go_loopw [34] (fun i wr => CkRel m w i wr) (fun i _ => m - (intOf i).toNat)
          case atStart => exact ⟨0, Nat.zero_le _, rfl, HG2.out⟩
          case round =>
            rename World => w3
            obtain ⟨k3, hk, rfl, hg⟩ := hrel
            have HG3 := hidden hg
            clear hg
            by_cases hlt : k3 < m
            · have hkl : k3 < r.length := by rw [HRL.out]; exact hlt
              have hru := (HC.out w (Below.refl _ _)).2
              obtain ⟨b2, off2, rfl, hcr⟩ := readsV_cells hru hkl
              have hkT : k3 < Ts.length := by rw [HM.out]; exact hlt
              have hU := HU.out
              rw [← HM.out] at hU
              obtain ⟨b0, off0, rfl, hcu⟩ := hU.at_ hkT
              have eT : ∃ T, Ts[k3] = T := ⟨_, rfl⟩
              obtain ⟨T, hT⟩ := eT
              rw [hT] at hcu
              have ey : ∃ y, r[k3] = y := ⟨_, rfl⟩
              obtain ⟨y, hy⟩ := ey
              rw [hy] at hcr
              have hfy := HFR.out k3 hkT
              rw [List.getD_eq_getElem?_getD, List.getElem?_eq_getElem hkl, hy, List.getD_eq_getElem?_getD, List.getElem?_eq_getElem hkT, hT] at hfy
              have hfy' : fitsB y T = true := hfy
              have HFY := hidden (fun W => fits_any y T W)
              rw [hfy'] at HFY
              have HCR := hidden hcr
              have HCU := hidden hcu
              obtain ⟨x0, x1, x2⟩ := HCR.out w3 HG3.out
              obtain ⟨z0, z1, z2⟩ := HCR.out (w3.alloc (.cells #[.int .i64 0, .int .i64 0, .string ⟨#[]⟩] 37)) (HG3.out.of_below (grow1 _))
              have hd3 : decide (k3 < m) = true := by simpa using hlt
              have hk30 : (0 : Int) ≤ (k3 : Int) := by omega
              have hk31 : (k3 : Int) < (m : Int) := by omega
              have hmm3 : m - (k3 + 1) < m - k3 := by omega
              have HK3 := hidden (show k3 + 1 ≤ m by omega)
              clear hlt hk hkl hkT hU hcu hcr hy hT hfy hfy' hru
              go_wp2_with (first
                | (refine wpList_store_f3 rfl _ _ rfl w3.heap.size 0 rfl y.k y.n y.t rfl _ _ (Row.new w3 37 #[.int .i64 0, .int .i64 0, .string ⟨#[]⟩] [.int .i64 0, .int .i64 0, .string ⟨#[]⟩] rfl) (by simp) ?_; intro W4 hr4 ht4; have HR4 := hidden hr4; have HG4 := hidden (HG3.out.of_below (ht4.grows w3 (grow1 _) (Nat.le_refl _))); clear hr4 ht4 x0 x1 x2 z0 z1 z2))
              have HCX := hidden (fun X (h : Grows W4 X) => And.intro ((HR4.out.grow h).cell 0) (And.intro ((HR4.out.grow h).cell 1) (And.intro ((HR4.out.grow h).cell 2) (((HG4.out.of_below h).cell (World.block_lt_of_cell? _ _ HCU.out)).trans HCU.out))))
              simp only [set3, List.set_cons_zero, List.set_cons_succ, List.getElem?_cons_succ, List.getElem?_cons_zero] at HCX
              have HC1 := hidden (fun W => const_loose (HFY.out W))
              refine wp_region_loose (tabRs [(5, ConstV (.bool true))]) (by kernel_rfl) (lexB_fast (by kernel_rfl)) (tabRs_cons ConstV.lasts tabRs_nil) ?_
              iterate 5 ((with_reducible refine loose_one (v := ?_) (a' := ?_) ?_ ?_ (fun w' hC' hG' => ?_) ?_ ?_); rotate_left 2; (focus rfl); (focus rfl); (focus (obtain ⟨f0, f1, f2, f3⟩ := HCX.out w' hC'; clear hC' hG'; go_simp; rfl)); (focus (go_simp; rfl)))
              refine loose_call (R := ConstV (.bool true)) (f := 45) (args := #[.int .i64 T, vV y]) (by rfl) (by rfl) (fun _ => by go_simp) (fun w' hC' hG' => HC1.out w') ?_
              rintro _ ⟨_, _, rfl⟩
              refine ⟨?_, ?_, ?_⟩
              rotate_left
              · go_simp
                rfl
              iterate 1 ((with_reducible refine loose_one (v := ?_) (a' := ?_) ?_ ?_ (fun w' hC' hG' => ?_) ?_ ?_); rotate_left 2; (focus rfl); (focus rfl); (focus (clear hC' hG'; go_simp; rfl)); (focus (go_simp; rfl)))
              refine loose_done (fun w9 hC' hG' => ?_)
              have HG9 := hidden (HG4.out.of_below hC')
              clear hC' hG'
              go_wp2_with fail
              go_roundw
              case rel => exact ⟨k3 + 1, HK3.out, by go_num, HG9.out⟩
              case measure => simpa [intOf] using hmm3
            · have hke : k3 = m := by omega
              have hd3 : decide (k3 < m) = false := by simpa using hlt
              clear hke hlt hk
              go_wp2_with fail
              go_roundw
              case rel => exact ⟨k2 + 1, HK1.out, by go_num, HG3.out⟩
              case measure => simpa [intOf] using hmm
        · have hke : k2 = n := by omega
          have hd2 : decide (k2 < n) = false := by simpa using hlt
          clear hke hlt hk
          go_wp2_with fail
          go_ret
          exact ⟨rfl, HG2.out⟩
set_option maxHeartbeats 4000000 in
theorem vfromRows_any (u : Value) (Ts : List Int) (v : Value) (rs : List (List Val)) (w : World) (hu : IsI w u Ts) (hv : IsRs w v rs) (hf : fitR Ts rs) (hT : Ts.length ≤ 100) (hr : rs.length ≤ 1000000) :
    Calls Try.prog 41 #[u, v] w (BatIR (batR Ts rs) 0 w) := by
  have HC := hidden (fun W (h : Grows w W) => checkRows_any u Ts v rs W (hu.grow h) (hv.grow h) hf hT hr)
  have HB := hidden (fun W (h : Grows w W) => vfromRows1_any u Ts v rs W (hu.grow h) (hv.grow h) hf hT hr)
  have HBR := hidden (show batR Ts rs = ⟨(List.range Ts.length).map (colP Ts rs), (rs.length : Int), true, []⟩ from rfl)
  rw [HBR.out]
  generalize (List.range Ts.length).map (colP Ts rs) = VS at *
  obtain ⟨A, c, rfl⟩ := hu.slice_
  obtain ⟨E, d, rfl⟩ := hv.slice_
  have HR0 := hidden (Row.new w 45 #[.slice none 0 0, .int .i64 0, .bool false, .slice none 0 0] [.slice none 0 0, .int .i64 0, .bool false, .slice none 0 0] rfl)
  have HG0 := hidden (grow1 (w := w) (.cells #[.slice none 0 0, .int .i64 0, .bool false, .slice none 0 0] 45))
  clear hu hv hf hT hr HBR
  generalize Ts.length = m at *
  generalize rs.length = n at *
  go_enter Try.func41, Try.ntmps41
  go_wp2_with (first
    | (go_at_call 69; refine (HC.out _ HG0.out).mono ?_; rintro e w2 ⟨rfl, g2⟩; have HG2 := hidden (HG0.out.of_below g2); have HR2 := hidden (HR0.out.grow g2); clear g2)
    | (go_at_call 70; refine (HB.out _ HG2.out).mono ?_; rintro e w3 ⟨vc, xs, rfl, hb3, g3⟩; obtain ⟨PA, PN, PC, rfl⟩ := ownsRow_slice hb3.row; have HB3 := hidden hb3; have HG3 := hidden (HG2.out.of_below g3); have HR3 := hidden (HR2.out.grow g3); clear g3 hb3)
    | (refine wpList_store_bat rfl _ _ rfl w.heap.size rfl _ _ _ _ rfl (all4 rfl rfl rfl rfl) HR3.out ?_; intro W4 hr4 ho4; have HR4 := hidden hr4; have HO4 := hidden ho4; clear hr4 ho4))
  refine bodyPost_ret (results_batP2 rfl _ _ _ _ _ _ _ _ rfl HR4.out rfl) rfl ⟨_, rfl, ?_, HO4.out.below HG3.out (fun i hi => by omega)⟩
  exact (HB3.out.keep HO4.out HR3.out (by decide) (by decide) (by decide) (by decide)).isB _
end Go.Proofs.Ytfjhahhkakfhmaa
