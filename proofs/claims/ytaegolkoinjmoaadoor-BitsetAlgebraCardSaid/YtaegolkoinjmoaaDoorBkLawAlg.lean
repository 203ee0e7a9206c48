/-
  The walk of the law BitsetAlgebra: it returns true for every two pairs of N and words; nothing that was there is changed.
-/
import Derived.Test.YtaegolkoinjmoaaDoorBkLawOps
namespace Go.Proofs.YtaegolkoinjmoaaDoor
open Go.RowKit
set_option linter.unusedVariables false
set_option linter.unusedSimpArgs false

theorem setVR_congr {n : Nat} {f g : Nat → Bool} {v : Value} {w : World} (h : ∀ i, i < n → f i = g i) (hs : SetVR n f v w) : SetVR n g v w := by
  unfold SetVR at *
  rw [← pack_congr h]; exact hs
theorem setR_congr {n : Nat} {f g : Nat → Bool} {e : Ending} {w w' : World} (h : ∀ i, i < n → f i = g i) (hs : SetR n f w e w') : SetR n g w e w' := by
  unfold SetR at *
  rw [← pack_congr h]; exact hs
theorem mem_pk {n : Nat} {f : Nat → Bool} {i : Nat} (h : i < n) : mem n (pack n f) i = f i := by rw [mem_pack]; simp [h]
theorem alg_not (s : Value) (n : Nat) (f : Nat → Bool) (w : World) (hs : SetVR n f s w) : Calls Tryd.prog 36 #[s] w (SetR n (fun j => !f j) w) :=
  (ck_not s n _ w hs (okW_pack _ _)).mono fun _ _ h => setR_congr (fun i hi => by rw [mem_pk hi]) h
theorem alg_and (s t : Value) (n : Nat) (f g : Nat → Bool) (w : World) (hs : SetVR n f s w) (ht : SetVR n g t w) : Calls Tryd.prog 30 #[s, t] w (SetR n (fun j => f j && g j) w) := by
  have h := ck_and s t n n _ _ w hs (okW_pack _ _) ht (okW_pack _ _)
  rw [Nat.max_self] at h
  exact h.mono fun _ _ h => setR_congr (fun i hi => by rw [mem_pk hi, mem_pk hi]) h
theorem alg_or (s t : Value) (n : Nat) (f g : Nat → Bool) (w : World) (hs : SetVR n f s w) (ht : SetVR n g t w) : Calls Tryd.prog 32 #[s, t] w (SetR n (fun j => f j || g j) w) := by
  have h := ck_or s t n n _ _ w hs (okW_pack _ _) ht (okW_pack _ _)
  rw [Nat.max_self] at h
  exact h.mono fun _ _ h => setR_congr (fun i hi => by rw [mem_pk hi, mem_pk hi]) h
theorem alg_andnot (s t : Value) (n : Nat) (f g : Nat → Bool) (w : World) (hs : SetVR n f s w) (ht : SetVR n g t w) : Calls Tryd.prog 34 #[s, t] w (SetR n (fun j => f j && !g j) w) := by
  have h := ck_andnot s t n n _ _ w hs (okW_pack _ _) ht (okW_pack _ _)
  rw [Nat.max_self] at h
  exact h.mono fun _ _ h => setR_congr (fun i hi => by rw [mem_pk hi, mem_pk hi]) h
theorem alg_count (s : Value) (n : Nat) (f : Nat → Bool) (w : World) (hs : SetVR n f s w) : Calls Tryd.prog 20 #[s] w fun e w' => e = .returned (.int .i64 (cnt f n : Int)) ∧ Grows w w' := by
  have h := ck_count s n _ w hs (okW_pack _ _)
  rw [cnt_congr (fun i hi => mem_pk (n := n) (f := f) hi)] at h
  exact h
theorem alg_eq (s t : Value) (n : Nat) (f g : Nat → Bool) (w : World) (hfg : ∀ i, i < n → f i = g i) (hs : SetVR n f s w) (ht : SetVR n g t w) : Calls Tryd.prog 13 #[s, t] w fun e w' => e = .returned (.bool true) ∧ Grows w w' := by
  have hs' := setVR_congr hfg hs
  exact eq_true (requal_any s t _ _ _ _ w (setV_pair hs') (setV_pair ht))

/-- what reads as words reads so behind a store into a variable of two other cells -/
theorem Reads.apart_ {w : World} {v : Value} {ws : List UInt64} {b : Nat} {e : TypeId} {i : Int} {z : Value} {cs : Array Value} (h : Reads w v (ucells ws)) (hr : Row w b e [.int .i64 i, z]) (hz : ∀ n, z ≠ .int .u64 n) : Reads (w.setRow b cs) v (ucells ws) := by
  obtain ⟨A, c, rfl, hle, hc⟩ := h
  refine ⟨A, c, rfl, hle, fun hl => ?_⟩
  obtain ⟨g, off, rfl, hcell⟩ := hc hl
  refine ⟨g, off, rfl, fun j hj => ?_⟩
  have h1 := hcell j hj
  have hne : g ≠ b := by
    intro hgb
    subst hgb
    have h2 := hr.cell (off + j)
    rw [h2] at h1
    have hj' : j < ws.length := by rw [ucells_length] at hj; exact hj
    rw [ucells_get hj'] at h1
    match off + j, h1 with
    | 0, h1 => simp at h1
    | 1, h1 => simp at h1; exact hz _ h1
    | k + 2, h1 => simp at h1
  rw [← h1]
  exact World.cell?_of_block (setRow_other w b g cs hne)
theorem SetVR.apart_ {w : World} {v : Value} {n b : Nat} {f : Nat → Bool} {e : TypeId} {i : Int} {z : Value} {cs : Array Value} (h : SetVR n f v w) (hr : Row w b e [.int .i64 i, z]) (hz : ∀ n, z ≠ .int .u64 n) : SetVR n f v (w.setRow b cs) := by
  obtain ⟨u, rfl, h2, h3, h4⟩ := h
  exact ⟨u, rfl, h2.apart_ hr hz, h3, h4⟩
/-- a new variable of type api.Bitset -/
def NewR (N : Nat) (v : Value) (w : World) : Prop := ∃ b, v = .pointer (some ⟨b, 0, none⟩) ∧ N ≤ b ∧ Row w b 26 [.int .i64 0, .slice none 0 0]
def alg1Rs (N n : Nat) (fa fb : Nat → Bool) : Loose := fun i =>
  match i with
  | 1 => some (SetVR n fun j => !fa j)
  | 3 => some (SetVR n fun j => !fb j)
  | 4 => some (SetVR n fun j => !fa j || !fb j)
  | 5 => some (NewR N)
  | _ => none
def alg2Rs (N n : Nat) (fa fb : Nat → Bool) : Loose := fun i =>
  match i with
  | 2 => some (SetVR n fun j => !fb j)
  | 3 => some (SetVR n fun j => fa j && !fb j)
  | 4 => some (NewR N)
  | _ => none
def alg3Rs (n : Nat) (fa fb : Nat → Bool) : Loose := fun i =>
  match i with
  | 2 => some (BoolR true)
  | 7 => some (SetVR n fun j => fa j && !fb j)
  | 8 => some (BoolR true)
  | 12 => some (NumR (cnt fa n : Nat))
  | 14 => some (NumR (cnt fb n : Nat))
  | 18 => some (SetVR n fun j => fa j && fb j)
  | 19 => some (NumR (cnt (fun j => fa j && fb j) n : Nat))
  | 22 => some (SetVR n fun j => fa j || fb j)
  | 23 => some (NumR (cnt (fun j => fa j || fb j) n : Nat))
  | 29 => some (SetVR n fun j => !fa j)
  | 30 => some (SetVR n fun j => !!fa j)
  | 32 => some (BoolR true)
  | 35 => some (BoolR true)
  | _ => none
theorem NewR.grow {N : Nat} {v : Value} {w w' : World} (h : NewR N v w) (hb : Grows w w') : NewR N v w' := by
  obtain ⟨b, h1, h2, h3⟩ := h
  exact ⟨b, h1, h2, h3.grow hb⟩
theorem alg1Rs_lasts (N n : Nat) (fa fb : Nat → Bool) : (alg1Rs N n fa fb).lasts := by
  intro i R h
  unfold alg1Rs at h
  split at h <;> first
    | (injection h with h; subst h; exact fun _ _ _ h hb => NewR.grow h hb)
    | (injection h with h; subst h; exact fun _ _ _ h hb => IsSet.grow h hb)
    | (cases h)
theorem alg2Rs_lasts (N n : Nat) (fa fb : Nat → Bool) : (alg2Rs N n fa fb).lasts := by
  intro i R h
  unfold alg2Rs at h
  split at h <;> first
    | (injection h with h; subst h; exact fun _ _ _ h hb => NewR.grow h hb)
    | (injection h with h; subst h; exact fun _ _ _ h hb => IsSet.grow h hb)
    | (cases h)
theorem alg3Rs_lasts (n : Nat) (fa fb : Nat → Bool) : (alg3Rs n fa fb).lasts := by
  intro i R h
  unfold alg3Rs at h
  split at h <;> first
    | (injection h with h; subst h; exact fun _ _ _ h _ => h)
    | (injection h with h; subst h; exact fun _ _ _ h hb => IsSet.grow h hb)
    | (cases h)

set_option maxHeartbeats 2000000 in
theorem law_alg (A B : Option Addr) (c d : Nat) (na nb : Int) (wa wb : List UInt64) (w : World) (hra : Reads w (.slice A wa.length c) (ucells wa)) (hrb : Reads w (.slice B wb.length d) (ucells wb)) (hla : wa.length ≤ 9223372036854775807) (hlb : wb.length ≤ 9223372036854775807)
    (ha3 : -9223372036854775808 ≤ na) (ha4 : na ≤ 9223372036854775807) (hb3 : -9223372036854775808 ≤ nb) (hb4 : nb ≤ 9223372036854775807) (hT : Tab w) :
    Calls Tryd.prog 8 #[.agg #[.int .i64 na, .slice A wa.length c], .agg #[.int .i64 nb, .slice B wb.length d]] w fun e w' => e = .returned (.bool true) ∧ Below w.heap.size w w' := by
  have HTB := hidden hT
  clear hT
  have HG := hidden (show Grows w ((w.alloc (.cells #[.int .i64 na, .slice A wa.length c] 26)).alloc (.cells #[.int .i64 nb, .slice B wb.length d] 26)) from ((Below.refl _ _).alloc (Nat.le_refl _) _).alloc (by simp) _)
  have HX0 : Hid (∀ X, Grows ((w.alloc (.cells #[.int .i64 na, .slice A wa.length c] 26)).alloc (.cells #[.int .i64 nb, .slice B wb.length d] 26)) X → X.cell? ⟨w.heap.size, 0, none⟩ = some (.int .i64 na) ∧ X.cell? ⟨w.heap.size, 1, none⟩ = some (.slice A wa.length c) ∧ X.cell? ⟨w.heap.size + 1, 0, none⟩ = some (.int .i64 nb) ∧ X.cell? ⟨w.heap.size + 1, 1, none⟩ = some (.slice B wb.length d)) := by
    intro X g
    have r := ((Row.new w 26 #[.int .i64 na, .slice A wa.length c] [.int .i64 na, .slice A wa.length c] rfl).grow ((Below.refl _ _).alloc (Nat.le_refl _) (.cells #[.int .i64 nb, .slice B wb.length d] 26))).grow g
    have r2 := (Row.at_ (w.alloc (.cells #[.int .i64 na, .slice A wa.length c] 26)) 26 #[.int .i64 nb, .slice B wb.length d] [.int .i64 nb, .slice B wb.length d] rfl (w.heap.size + 1) (by simp)).grow g
    exact ⟨r.cell 0, r.cell 1, r2.cell 0, r2.cell 1⟩
  have HPA := hidden (show IsPair w (.agg #[.int .i64 na, .slice A wa.length c]) na wa from ⟨_, rfl, hra, hla⟩)
  have HPB := hidden (show IsPair w (.agg #[.int .i64 nb, .slice B wb.length d]) nb wb from ⟨_, rfl, hrb, hlb⟩)
  have HRA := hidden hra
  have HRB := hidden hrb
  clear hra hrb
  go_enter Tryd.func8, Tryd.ntmps8
  go_wp2_with fail
  refine (small_any _ na wa _ (HPA.out.grow HG.out) ha3 ha4).mono ?_
  rintro e w1 ⟨rfl, g1⟩
  have HG1 := hidden (HG.out.of_below g1)
  by_cases hsa : smallB na wa
  · rw [smallI_t hsa]
    obtain ⟨x0, x1, y0, y1⟩ := HX0.out w1 g1
    have HW1 := hidden g1
    clear g1
    go_wp2_with fail
    refine (small_any _ nb wb _ (HPB.out.grow HG1.out) hb3 hb4).mono ?_
    rintro e w2 ⟨rfl, g2⟩
    have HG2 := hidden (HG1.out.of_below g2)
    have HW2 := hidden (HW1.out.of_below g2)
    clear g2 x0 x1 y0 y1
    by_cases hsb : smallB nb wb
    · rw [smallI_t hsb]
      obtain ⟨n, rfl⟩ := Int.eq_ofNat_of_zero_le hsa.2.1
      obtain ⟨m, rfl⟩ := Int.eq_ofNat_of_zero_le hsb.2.1
      have hn2 : n ≤ 1048576 := by have := hsa.2.2.1; omega
      have hm2 : m ≤ 1048576 := by have := hsb.2.2.1; omega
      have hmx : max n m ≤ 1048576 := by omega
      have hoa : okW n wa := by have := hsa.2.2.2; rwa [Int.toNat_natCast] at this
      have hob : okW m wb := by have := hsb.2.2.2; rwa [Int.toNat_natCast] at this
      have HA := hidden (show IsSet w2 (.agg #[.int .i64 (n : Int), .slice A wa.length c]) n wa from ⟨_, rfl, HRA.out.grow HG2.out, by rw [hoa.1]; unfold nw; omega, hn2⟩)
      have HB := hidden (show IsSet w2 (.agg #[.int .i64 (m : Int), .slice B wb.length d]) m wb from ⟨_, rfl, HRB.out.grow HG2.out, by rw [hob.1]; unfold nw; omega, hm2⟩)
      have HOA := hidden hoa
      have HOB := hidden hob
      have HGF := hidden HG2.out
      have HX : Hid (∀ X, Grows w2 X → X.cell? ⟨w.heap.size, 0, none⟩ = some (.int .i64 (n : Int)) ∧ X.cell? ⟨w.heap.size, 1, none⟩ = some (.slice A wa.length c) ∧ X.cell? ⟨w.heap.size + 1, 0, none⟩ = some (.int .i64 (m : Int)) ∧ X.cell? ⟨w.heap.size + 1, 1, none⟩ = some (.slice B wb.length d)) := fun X g => HX0.out X (HW2.out.of_below g)
      have HN3 := hidden (show n ≤ 3000 by have := hsa.1; omega)
      clear hsa hsb hoa hob HX0
      obtain ⟨x0, x1, y0, y1⟩ := HX.out w2 (Below.refl _ _)
      by_cases hnm : n = m
      · subst hnm
        have HVA := hidden (show SetVR n (mem n wa) (.agg #[.int .i64 (n : Int), .slice A wa.length c]) w2 from by unfold SetVR; rw [pack_mem HOA.out]; exact HA.out)
        have HVB := hidden (show SetVR n (mem n wb) (.agg #[.int .i64 (n : Int), .slice B wb.length d]) w2 from by unfold SetVR; rw [pack_mem HOB.out]; exact HB.out)
        have hc1 := cnt_le (mem n wa) n
        have hc2 := cnt_le (mem n wb) n
        have hn3000 : n ≤ 3000 := by have := HN3.out; omega
        generalize mem n wa = fa at *
        generalize mem n wb = fb at *
        have hc3 := cnt_le (fun j => fa j && fb j) n
        have hc4 := cnt_le (fun j => fa j || fb j) n
        have HCC := hidden (show (cnt fa n : Int) + (cnt fb n : Int) = (cnt (fun j => fa j && fb j) n : Int) + (cnt (fun j => fa j || fb j) n : Int) by have := cnt_and_or fa fb n; omega)
        go_wp2_with fail
        refine (alg_and _ _ n fa fb w2 HVA.out HVB.out).mono ?_
        rintro e w3 ⟨v3, rfl, hs3, g3⟩
        have HS3 := hidden hs3
        have HG3 := hidden g3
        clear hs3 g3
        go_wp2_with fail
        refine (alg_not _ n _ w3 HS3.out).mono ?_
        rintro e w4 ⟨v4, rfl, hs4, g4⟩
        have HG4 := hidden (HG3.out.of_below g4)
        clear g4
        obtain ⟨q4, rfl, hr4, hq4, hq5⟩ := hs4
        obtain ⟨A4, c4, rfl, _⟩ := hr4.slice_
        have HR4 := hidden hr4
        generalize (ucells (pack n fun j => !(fa j && fb j))).length = l4 at *
        have HNEW4 := hidden (Row.new w4 26 #[.int .i64 0, .slice none 0 0] [.int .i64 0, .slice none 0 0] rfl)
        clear hr4 x0 x1 y0 y1
        go_wp2_with (refine wpList_store_set rfl _ _ rfl w4.heap.size rfl _ _ _ _ _ rfl HNEW4.out ?_)
        have HR5 := hidden (HNEW4.out.setRow_ [.int .i64 (n : Int), .slice A4 l4 c4] rfl)
        have hg5 : Below w4.heap.size w4 ((w4.alloc (.cells #[.int .i64 0, .slice none 0 0] 26)).setRow w4.heap.size #[.int .i64 (n : Int), .slice A4 l4 c4]) := below_setRow ((Below.refl _ w4).alloc (Nat.le_refl _) _) (Nat.le_refl _) _
        have HG5 := hidden (HG4.out.of_below hg5)
        have HS5 := hidden (show SetVR n (fun j => !(fa j && fb j)) (.agg #[.int .i64 (n : Int), .slice A4 l4 c4]) _ from ⟨_, rfl, HR4.out.grow hg5, hq4, hq5⟩)
        clear hg5
        generalize (w4.alloc (.cells #[.int .i64 0, .slice none 0 0] 26)).setRow w4.heap.size #[.int .i64 (n : Int), .slice A4 l4 c4] = w5 at *
        clear HR4 HNEW4 HG4 hq4
        generalize w4.heap.size = b5 at *
        have HA5 := hidden (IsSet.grow HVA.out HG5.out)
        have HB5 := hidden (IsSet.grow HVB.out HG5.out)
        refine wp_region_loose_tail 6 (alg1Rs w5.heap.size n fa fb) (by kernel_rfl) (by kernel_rfl) (alg1Rs_lasts _ _ _ _) ?_
        simp only [List.take_succ_cons, List.take_zero, List.drop_succ_cons, List.drop_zero]
        iterate 1 ((with_reducible refine loose_one (v := ?_) (a' := ?_) ?_ ?_ (fun w' hC' hG' => ?_) ?_ ?_); rotate_left 2; (focus rfl); (focus rfl); (focus (obtain ⟨x0, x1, y0, y1⟩ := HX.out w' (HG5.out.of_below hC'); clear hC' hG'; go_simp; rfl)); (focus (go_simp; rfl)))
        refine loose_call (f := 36) (args := #[.agg #[.int .i64 (n : Int), .slice A wa.length c]]) (by rfl) (by rfl) (fun _ => by go_simp) (fun w' hC' hG' => set_loose (alg_not _ n fa w' (IsSet.grow HA5.out hC'))) ?_
        intro v1 _
        refine ⟨?_, ?_, ?_⟩
        rotate_left
        · go_simp
          rfl
        iterate 1 ((with_reducible refine loose_one (v := ?_) (a' := ?_) ?_ ?_ (fun w' hC' hG' => ?_) ?_ ?_); rotate_left 2; (focus rfl); (focus rfl); (focus (obtain ⟨x0, x1, y0, y1⟩ := HX.out w' (HG5.out.of_below hC'); clear hC' hG'; go_simp; rfl)); (focus (go_simp; rfl)))
        refine loose_call (f := 36) (args := #[.agg #[.int .i64 (n : Int), .slice B wb.length d]]) (by rfl) (by rfl) (fun _ => by go_simp) (fun w' hC' hG' => set_loose (alg_not _ n fb w' (IsSet.grow HB5.out hC'))) ?_
        intro v3 _
        refine ⟨?_, ?_, ?_⟩
        rotate_left
        · go_simp
          rfl
        refine loose_call (f := 32) (args := #[v1, v3]) (by rfl) (by rfl) (fun _ => by go_simp) (fun w' hC' hG' => set_loose (alg_or v1 v3 n _ _ w' ((hG' 1 (by kernel_rfl)).1.2 rfl) ((hG' 3 (by kernel_rfl)).2 rfl))) ?_
        intro v4 _
        refine ⟨?_, ?_, ?_⟩
        rotate_left
        · go_simp
          rfl
        refine loose_new (R := NewR w5.heap.size) (by rfl) (by rfl) (fun w' hC' _ => ⟨.pointer (some ⟨w'.heap.size, 0, none⟩), w'.alloc (.cells #[.int .i64 0, .slice none 0 0] 26), by first | rfl | go_simp, (Below.refl _ _).alloc (Nat.le_refl _) _, w'.heap.size, rfl, hC'.size, Row.new w' 26 #[.int .i64 0, .slice none 0 0] [.int .i64 0, .slice none 0 0] rfl⟩) ?_
        rintro _ ⟨_, _, b6, rfl, hb6, _⟩
        refine ⟨?_, ?_, ?_⟩
        rotate_left
        · go_simp
          rfl
        refine loose_done (fun w6 hC' hG' => ?_)
        have f1 := (hG' 4).1.2 rfl
        have f2 := (hG' 5).2 rfl
        clear hG'
        obtain ⟨b, hbe, hbn, hrow⟩ := f2
        have hbb : b = b6 := by injection hbe with hbe; injection hbe with hbe; injection hbe with hbe; exact hbe.symm
        rw [hbb] at hbn hrow
        clear hbb hbe
        have f3 := f1
        obtain ⟨q, rfl, hr, _, _⟩ := f3
        obtain ⟨Aw7, cw7, rfl, _⟩ := hr.slice_
        generalize (ucells (pack n fun j => !fa j || !fb j)).length = lw7 at *
        refine wpList_store_set rfl _ _ rfl b6 rfl _ _ _ _ _ rfl hrow ?_
        have HR7 := hidden (hrow.setRow_ [.int .i64 (n : Int), .slice Aw7 lw7 cw7] rfl)
        have HS7 := hidden (f1.apart_ (cs := #[.int .i64 (n : Int), .slice Aw7 lw7 cw7]) hrow (by simp))
        have HG57 := hidden (show Grows w5 _ from below_setRow hC' hbn #[.int .i64 (n : Int), .slice Aw7 lw7 cw7])
        generalize w6.setRow b6 #[.int .i64 (n : Int), .slice Aw7 lw7 cw7] = w7 at *
        clear hC' hrow f1 hr
        have HG7 := hidden (HG5.out.of_below HG57.out)
        have HA7 := hidden (IsSet.grow HVA.out HG7.out)
        have HB7 := hidden (IsSet.grow HVB.out HG7.out)
        go_wp2_with fail
        refine wp_region_loose_tail 5 (alg2Rs w7.heap.size n fa fb) (by kernel_rfl) (by kernel_rfl) (alg2Rs_lasts _ _ _ _) ?_
        simp only [List.take_succ_cons, List.take_zero, List.drop_succ_cons, List.drop_zero]
        iterate 2 ((with_reducible refine loose_one (v := ?_) (a' := ?_) ?_ ?_ (fun w' hC' hG' => ?_) ?_ ?_); rotate_left 2; (focus rfl); (focus rfl); (focus (obtain ⟨x0, x1, y0, y1⟩ := HX.out w' (HG7.out.of_below hC'); clear hC' hG'; go_simp; rfl)); (focus (go_simp; rfl)))
        refine loose_call (f := 36) (args := #[.agg #[.int .i64 (n : Int), .slice B wb.length d]]) (by rfl) (by rfl) (fun _ => by go_simp) (fun w' hC' hG' => set_loose (alg_not _ n fb w' (IsSet.grow HB7.out hC'))) ?_
        intro v2 _
        refine ⟨?_, ?_, ?_⟩
        rotate_left
        · go_simp
          rfl
        refine loose_call (f := 30) (args := #[.agg #[.int .i64 (n : Int), .slice A wa.length c], v2]) (by rfl) (by rfl) (fun _ => by go_simp) (fun w' hC' hG' => set_loose (alg_and _ v2 n _ _ w' (IsSet.grow HA7.out hC') ((hG' 2 (by kernel_rfl)).2 rfl))) ?_
        intro v4 _
        refine ⟨?_, ?_, ?_⟩
        rotate_left
        · go_simp
          rfl
        refine loose_new (R := NewR w7.heap.size) (by rfl) (by rfl) (fun w' hC' _ => ⟨.pointer (some ⟨w'.heap.size, 0, none⟩), w'.alloc (.cells #[.int .i64 0, .slice none 0 0] 26), by first | rfl | go_simp, (Below.refl _ _).alloc (Nat.le_refl _) _, w'.heap.size, rfl, hC'.size, Row.new w' 26 #[.int .i64 0, .slice none 0 0] [.int .i64 0, .slice none 0 0] rfl⟩) ?_
        rintro _ ⟨_, _, b8, rfl, hb8, _⟩
        refine ⟨?_, ?_, ?_⟩
        rotate_left
        · go_simp
          rfl
        refine loose_done (fun w8 hC' hG' => ?_)
        have f1 := (hG' 3).1.2 rfl
        have f2 := (hG' 4).2 rfl
        clear hG'
        obtain ⟨b, hbe, hbn, hrow⟩ := f2
        have hbb : b = b8 := by injection hbe with hbe; injection hbe with hbe; injection hbe with hbe; exact hbe.symm
        rw [hbb] at hbn hrow
        clear hbb hbe
        have f3 := f1
        obtain ⟨q, rfl, hr, _, _⟩ := f3
        obtain ⟨Aw9, cw9, rfl, _⟩ := hr.slice_
        generalize (ucells (pack n fun j => fa j && !fb j)).length = lw9 at *
        refine wpList_store_set rfl _ _ rfl b8 rfl _ _ _ _ _ rfl hrow ?_
        have HR9 := hidden (hrow.setRow_ [.int .i64 (n : Int), .slice Aw9 lw9 cw9] rfl)
        have HS9 := hidden (f1.apart_ (cs := #[.int .i64 (n : Int), .slice Aw9 lw9 cw9]) hrow (by simp))
        have HG79 := hidden (show Grows w7 _ from below_setRow hC' hbn #[.int .i64 (n : Int), .slice Aw9 lw9 cw9])
        generalize w8.setRow b8 #[.int .i64 (n : Int), .slice Aw9 lw9 cw9] = w9 at *
        clear hC' hrow f1 hr
        have HG9 := hidden (HG7.out.of_below HG79.out)
        have HA9 := hidden (IsSet.grow HVA.out HG9.out)
        have HB9 := hidden (IsSet.grow HVB.out HG9.out)
        have HX9 := hidden (HS5.out.grow (HG57.out.of_below HG79.out))
        have HY9 := hidden (IsSet.grow HS7.out HG79.out)
        have HRX := hidden (HR5.out.grow (HG57.out.of_below HG79.out))
        have HRY := hidden (HR7.out.grow HG79.out)
        have HGF9 := hidden (HGF.out.of_below HG9.out)
        have HXX : Hid (∀ X, Grows w9 X → X.cell? ⟨w.heap.size, 0, none⟩ = some (.int .i64 (n : Int)) ∧ X.cell? ⟨w.heap.size, 1, none⟩ = some (.slice A wa.length c) ∧ X.cell? ⟨w.heap.size + 1, 0, none⟩ = some (.int .i64 (n : Int)) ∧ X.cell? ⟨w.heap.size + 1, 1, none⟩ = some (.slice B wb.length d) ∧ X.cell? ⟨b5, 0, none⟩ = some (.int .i64 (n : Int)) ∧ X.cell? ⟨b5, 1, none⟩ = some (.slice A4 l4 c4) ∧ X.cell? ⟨b6, 0, none⟩ = some (.int .i64 (n : Int)) ∧ X.cell? ⟨b6, 1, none⟩ = some (.slice Aw7 lw7 cw7) ∧ X.cell? ⟨b8, 0, none⟩ = some (.int .i64 (n : Int)) ∧ X.cell? ⟨b8, 1, none⟩ = some (.slice Aw9 lw9 cw9)) := by
          intro X g
          obtain ⟨x0, x1, y0, y1⟩ := HX.out X (HG9.out.of_below g)
          have r1 := HRX.out.grow g
          have r2 := HRY.out.grow g
          have r3 := HR9.out.grow g
          exact ⟨x0, x1, y0, y1, r1.cell 0, r1.cell 1, r2.cell 0, r2.cell 1, r3.cell 0, r3.cell 1⟩
        go_wp2_with fail
        refine wp_region_loose (alg3Rs n fa fb) (by kernel_rfl) (by kernel_rfl) (alg3Rs_lasts _ _ _) ?_
        iterate 2 ((with_reducible refine loose_one (v := ?_) (a' := ?_) ?_ ?_ (fun w' hC' hG' => ?_) ?_ ?_); rotate_left 2; (focus rfl); (focus rfl); (focus (obtain ⟨x0, x1, y0, y1, p0, p1, q0, q1, r0, r1⟩ := HXX.out w' hC'; clear hC' hG'; go_simp; rfl)); (focus (go_simp; rfl)))
        refine loose_call (f := 13) (args := #[.agg #[.int .i64 (n : Int), .slice A4 l4 c4], .agg #[.int .i64 (n : Int), .slice Aw7 lw7 cw7]]) (by rfl) (by rfl) (fun _ => by go_simp) (fun w' hC' hG' => bool_loose (alg_eq _ _ n _ _ w' (fun i _ => by cases fa i <;> cases fb i <;> rfl) (IsSet.grow HX9.out hC') (IsSet.grow HY9.out hC'))) ?_
        rintro _ ⟨_, _, rfl⟩
        refine ⟨?_, ?_, ?_⟩
        rotate_left
        · go_simp
          rfl
        iterate 1 ((with_reducible refine loose_one (v := ?_) (a' := ?_) ?_ ?_ (fun w' hC' hG' => ?_) ?_ ?_); rotate_left 2; (focus rfl); (focus rfl); (focus (obtain ⟨x0, x1, y0, y1, p0, p1, q0, q1, r0, r1⟩ := HXX.out w' hC'; clear hC' hG'; go_simp; rfl)); (focus (go_simp; rfl)))
        iterate 3 ((with_reducible refine loose_one (v := ?_) (a' := ?_) ?_ ?_ (fun w' hC' hG' => ?_) ?_ ?_); rotate_left 2; (focus rfl); (focus rfl); (focus (obtain ⟨x0, x1, y0, y1, p0, p1, q0, q1, r0, r1⟩ := HXX.out w' hC'; clear hC' hG'; go_simp; rfl)); (focus (go_simp; rfl)))
        refine loose_call (f := 34) (args := #[.agg #[.int .i64 (n : Int), .slice A wa.length c], .agg #[.int .i64 (n : Int), .slice B wb.length d]]) (by rfl) (by rfl) (fun _ => by go_simp) (fun w' hC' hG' => set_loose (alg_andnot _ _ n fa fb w' (IsSet.grow HA9.out hC') (IsSet.grow HB9.out hC'))) ?_
        intro v7 _
        refine ⟨?_, ?_, ?_⟩
        rotate_left
        · go_simp
          rfl
        refine loose_call (f := 13) (args := #[.agg #[.int .i64 (n : Int), .slice Aw9 lw9 cw9], v7]) (by rfl) (by rfl) (fun _ => by go_simp) (fun w' hC' hG' => bool_loose (alg_eq _ v7 n _ _ w' (fun i _ => rfl) (IsSet.grow HS9.out hC') ((hG' 7 (by kernel_rfl)).2 rfl))) ?_
        rintro _ ⟨_, _, rfl⟩
        refine ⟨?_, ?_, ?_⟩
        rotate_left
        · go_simp
          rfl
        iterate 2 ((with_reducible refine loose_one (v := ?_) (a' := ?_) ?_ ?_ (fun w' hC' hG' => ?_) ?_ ?_); rotate_left 2; (focus rfl); (focus rfl); (focus (obtain ⟨x0, x1, y0, y1, p0, p1, q0, q1, r0, r1⟩ := HXX.out w' hC'; clear hC' hG'; go_simp; rfl)); (focus (go_simp; rfl)))
        iterate 1 ((with_reducible refine loose_one (v := ?_) (a' := ?_) ?_ ?_ (fun w' hC' hG' => ?_) ?_ ?_); rotate_left 2; (focus rfl); (focus rfl); (focus (obtain ⟨x0, x1, y0, y1, p0, p1, q0, q1, r0, r1⟩ := HXX.out w' hC'; clear hC' hG'; go_simp; rfl)); (focus (go_simp; rfl)))
        refine loose_call (f := 20) (args := #[.agg #[.int .i64 (n : Int), .slice A wa.length c]]) (by rfl) (by rfl) (fun _ => by go_simp) (fun w' hC' hG' => num_loose (alg_count _ n fa w' (IsSet.grow HA9.out hC'))) ?_
        rintro _ ⟨_, _, rfl⟩
        refine ⟨?_, ?_, ?_⟩
        rotate_left
        · go_simp
          rfl
        iterate 1 ((with_reducible refine loose_one (v := ?_) (a' := ?_) ?_ ?_ (fun w' hC' hG' => ?_) ?_ ?_); rotate_left 2; (focus rfl); (focus rfl); (focus (obtain ⟨x0, x1, y0, y1, p0, p1, q0, q1, r0, r1⟩ := HXX.out w' hC'; clear hC' hG'; go_simp; rfl)); (focus (go_simp; rfl)))
        refine loose_call (f := 20) (args := #[.agg #[.int .i64 (n : Int), .slice B wb.length d]]) (by rfl) (by rfl) (fun _ => by go_simp) (fun w' hC' hG' => num_loose (alg_count _ n fb w' (IsSet.grow HB9.out hC'))) ?_
        rintro _ ⟨_, _, rfl⟩
        refine ⟨?_, ?_, ?_⟩
        rotate_left
        · go_simp
          rfl
        iterate 1 ((with_reducible refine loose_one (v := ?_) (a' := ?_) ?_ ?_ (fun w' hC' hG' => ?_) ?_ ?_); rotate_left 2; (focus rfl); (focus rfl); (focus (obtain ⟨x0, x1, y0, y1, p0, p1, q0, q1, r0, r1⟩ := HXX.out w' hC'; clear hC' hG'; go_simp; rfl)); (focus (go_simp; rfl)))
        rw [HCC.out]
        iterate 2 ((with_reducible refine loose_one (v := ?_) (a' := ?_) ?_ ?_ (fun w' hC' hG' => ?_) ?_ ?_); rotate_left 2; (focus rfl); (focus rfl); (focus (obtain ⟨x0, x1, y0, y1, p0, p1, q0, q1, r0, r1⟩ := HXX.out w' hC'; clear hC' hG'; go_simp; rfl)); (focus (go_simp; rfl)))
        refine loose_call (f := 30) (args := #[.agg #[.int .i64 (n : Int), .slice A wa.length c], .agg #[.int .i64 (n : Int), .slice B wb.length d]]) (by rfl) (by rfl) (fun _ => by go_simp) (fun w' hC' hG' => set_loose (alg_and _ _ n fa fb w' (IsSet.grow HA9.out hC') (IsSet.grow HB9.out hC'))) ?_
        intro v18 _
        refine ⟨?_, ?_, ?_⟩
        rotate_left
        · go_simp
          rfl
        refine loose_call (f := 20) (args := #[v18]) (by rfl) (by rfl) (fun _ => by go_simp) (fun w' hC' hG' => num_loose (alg_count _ n _ w' ((hG' 18 (by kernel_rfl)).2 rfl))) ?_
        rintro _ ⟨_, _, rfl⟩
        refine ⟨?_, ?_, ?_⟩
        rotate_left
        · go_simp
          rfl
        iterate 2 ((with_reducible refine loose_one (v := ?_) (a' := ?_) ?_ ?_ (fun w' hC' hG' => ?_) ?_ ?_); rotate_left 2; (focus rfl); (focus rfl); (focus (obtain ⟨x0, x1, y0, y1, p0, p1, q0, q1, r0, r1⟩ := HXX.out w' hC'; clear hC' hG'; go_simp; rfl)); (focus (go_simp; rfl)))
        refine loose_call (f := 32) (args := #[.agg #[.int .i64 (n : Int), .slice A wa.length c], .agg #[.int .i64 (n : Int), .slice B wb.length d]]) (by rfl) (by rfl) (fun _ => by go_simp) (fun w' hC' hG' => set_loose (alg_or _ _ n fa fb w' (IsSet.grow HA9.out hC') (IsSet.grow HB9.out hC'))) ?_
        intro v22 _
        refine ⟨?_, ?_, ?_⟩
        rotate_left
        · go_simp
          rfl
        refine loose_call (f := 20) (args := #[v22]) (by rfl) (by rfl) (fun _ => by go_simp) (fun w' hC' hG' => num_loose (alg_count _ n _ w' ((hG' 22 (by kernel_rfl)).2 rfl))) ?_
        rintro _ ⟨_, _, rfl⟩
        refine ⟨?_, ?_, ?_⟩
        rotate_left
        · go_simp
          rfl
        iterate 1 ((with_reducible refine loose_one (v := ?_) (a' := ?_) ?_ ?_ (fun w' hC' hG' => ?_) ?_ ?_); rotate_left 2; (focus rfl); (focus rfl); (focus (obtain ⟨x0, x1, y0, y1, p0, p1, q0, q1, r0, r1⟩ := HXX.out w' hC'; clear hC' hG'; go_simp; rfl)); (focus (go_simp; rfl)))
        iterate 1 ((with_reducible refine loose_one (v := ?_) (a' := ?_) ?_ ?_ (fun w' hC' hG' => ?_) ?_ ?_); rotate_left 2; (focus rfl); (focus rfl); (focus (obtain ⟨x0, x1, y0, y1, p0, p1, q0, q1, r0, r1⟩ := HXX.out w' hC'; clear hC' hG'; go_simp; rfl)); (focus (go_simp; rfl)))
        iterate 2 ((with_reducible refine loose_one (v := ?_) (a' := ?_) ?_ ?_ (fun w' hC' hG' => ?_) ?_ ?_); rotate_left 2; (focus rfl); (focus rfl); (focus (obtain ⟨x0, x1, y0, y1, p0, p1, q0, q1, r0, r1⟩ := HXX.out w' hC'; clear hC' hG'; go_simp; rfl)); (focus (go_simp; rfl)))
        iterate 1 ((with_reducible refine loose_one (v := ?_) (a' := ?_) ?_ ?_ (fun w' hC' hG' => ?_) ?_ ?_); rotate_left 2; (focus rfl); (focus rfl); (focus (obtain ⟨x0, x1, y0, y1, p0, p1, q0, q1, r0, r1⟩ := HXX.out w' hC'; clear hC' hG'; go_simp; rfl)); (focus (go_simp; rfl)))
        refine loose_call (f := 36) (args := #[.agg #[.int .i64 (n : Int), .slice A wa.length c]]) (by rfl) (by rfl) (fun _ => by go_simp) (fun w' hC' hG' => set_loose (alg_not _ n fa w' (IsSet.grow HA9.out hC'))) ?_
        intro v29 _
        refine ⟨?_, ?_, ?_⟩
        rotate_left
        · go_simp
          rfl
        refine loose_call (f := 36) (args := #[v29]) (by rfl) (by rfl) (fun _ => by go_simp) (fun w' hC' hG' => set_loose (alg_not _ n _ w' ((hG' 29 (by kernel_rfl)).2 rfl))) ?_
        intro v30 _
        refine ⟨?_, ?_, ?_⟩
        rotate_left
        · go_simp
          rfl
        iterate 1 ((with_reducible refine loose_one (v := ?_) (a' := ?_) ?_ ?_ (fun w' hC' hG' => ?_) ?_ ?_); rotate_left 2; (focus rfl); (focus rfl); (focus (obtain ⟨x0, x1, y0, y1, p0, p1, q0, q1, r0, r1⟩ := HXX.out w' hC'; clear hC' hG'; go_simp; rfl)); (focus (go_simp; rfl)))
        refine loose_call (f := 13) (args := #[v30, .agg #[.int .i64 (n : Int), .slice A wa.length c]]) (by rfl) (by rfl) (fun _ => by go_simp) (fun w' hC' hG' => bool_loose (alg_eq v30 _ n _ _ w' (fun i _ => by cases fa i <;> rfl) ((hG' 30 (by kernel_rfl)).2 rfl) (IsSet.grow HA9.out hC'))) ?_
        rintro _ ⟨_, _, rfl⟩
        refine ⟨?_, ?_, ?_⟩
        rotate_left
        · go_simp
          rfl
        iterate 2 ((with_reducible refine loose_one (v := ?_) (a' := ?_) ?_ ?_ (fun w' hC' hG' => ?_) ?_ ?_); rotate_left 2; (focus rfl); (focus rfl); (focus (obtain ⟨x0, x1, y0, y1, p0, p1, q0, q1, r0, r1⟩ := HXX.out w' hC'; clear hC' hG'; go_simp; rfl)); (focus (go_simp; rfl)))
        refine loose_call (f := 10) (args := #[]) (by rfl) (by rfl) (fun _ => by go_simp) (fun w' hC' hG' => bool_loose (lives_any w' (HTB.out.grow (HGF9.out.of_below hC')))) ?_
        rintro _ ⟨_, _, rfl⟩
        refine ⟨?_, ?_, ?_⟩
        rotate_left
        · go_simp
          rfl
        iterate 2 ((with_reducible refine loose_one (v := ?_) (a' := ?_) ?_ ?_ (fun w' hC' hG' => ?_) ?_ ?_); rotate_left 2; (focus rfl); (focus rfl); (focus (obtain ⟨x0, x1, y0, y1, p0, p1, q0, q1, r0, r1⟩ := HXX.out w' hC'; clear hC' hG'; go_simp; rfl)); (focus (go_simp; rfl)))
        refine loose_done (fun w' hC' hG' => ?_)
        clear hG'
        have hC2 := HGF9.out.of_below hC'
        go_wp2_with fail
        go_ret
        exact ⟨rfl, hC2⟩
      · have hne : ((n : Int) != (m : Int)) = true := by simp; omega
        have hm9 := HG2.out
        go_wp2_with fail
        refine (lives_any _ (HTB.out.grow HG2.out)).mono ?_
        rintro e w3 ⟨rfl, g3⟩
        have hC2 := HG2.out.of_below g3
        go_wp2_with fail
        go_ret
        exact ⟨rfl, hC2⟩
    · rw [smallI_f hsb]
      go_wp2_with fail
      refine (lives_any _ (HTB.out.grow HG2.out)).mono ?_
      rintro e w3 ⟨rfl, g3⟩
      have hC2 := HG2.out.of_below g3
      go_wp2_with fail
      go_ret
      exact ⟨rfl, hC2⟩
  · rw [smallI_f hsa]
    go_wp2_with fail
    refine (lives_any _ (HTB.out.grow HG1.out)).mono ?_
    rintro e w3 ⟨rfl, g3⟩
    have hC2 := HG1.out.of_below g3
    go_wp2_with fail
    go_ret
    exact ⟨rfl, hC2⟩

end Go.Proofs.YtaegolkoinjmoaaDoor
