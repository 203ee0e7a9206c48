/-
  The walk of the law BitsetRankSelect: it returns true for every pair of N and words and every place; nothing that was there is changed.
-/
import Derived.Test.YtaegolkoinjmoaaDoorBkLawOps
namespace Go.Proofs.YtaegolkoinjmoaaDoor
open Go.RowKit
set_option linter.unusedVariables false
set_option linter.unusedSimpArgs false

def RsRel (w : World) (l : Nat) (k : Value) (wr : World) : Prop := ∃ j : Nat, j ≤ l ∧ k = .int .i64 (j : Int) ∧ Grows w wr
def rsRs (r s : Int) : Loose := fun i =>
  match i with
  | 36 => some (BoolR true)
  | 45 => some (NumR r)
  | 52 => some (NumR s)
  | _ => none
theorem rsRs_lasts (r s : Int) : (rsRs r s).lasts := by
  intro i R h
  unfold rsRs at h
  split at h <;> first
    | (injection h with h; subst h; exact fun _ _ _ h _ => h)
    | (cases h)
def rs2Rs (r s : Int) : Loose := fun i =>
  match i with
  | 3 => some (NumR r)
  | 4 => some (NumR s)
  | _ => none
theorem rs2Rs_lasts (r s : Int) : (rs2Rs r s).lasts := by
  intro i R h
  unfold rs2Rs at h
  split at h <;> first
    | (injection h with h; subst h; exact fun _ _ _ h _ => h)
    | (cases h)
theorem cnt_mono_lt {f : Nat → Bool} {a b : Nat} (h : cnt f a < cnt f b) : a < b := by
  rcases Nat.lt_or_ge a b with h1 | h1
  · exact h1
  · have := cnt_mono f h1; omega
theorem elems_up {f : Nat → Bool} {n m x y : Nat} (h1 : (elems f n)[m + 1]? = some x) (h2 : (elems f n)[m]? = some y) : y < x := by
  have a1 := (elems_get h1).2.2
  have a2 := (elems_get h2).2.2
  exact cnt_mono_lt (f := f) (by omega)
theorem sel_rank {n i : Nat} {f : Nat → Bool} (hi : i < n) : selI n f (rankI n f (i : Int) : Int) = (i : Int) ↔ f i = true := by
  have hr : rankI n f (i : Int) = cnt f i := by unfold rankI; rw [Int.toNat_natCast, Nat.min_eq_right (by omega)]
  rw [hr]
  unfold selI
  rw [if_pos (by omega), Int.toNat_natCast]
  constructor
  · intro h
    cases he : (elems f n)[cnt f i]? with
    | none => rw [he] at h; simp at h
    | some x =>
      rw [he] at h
      have hx : x = i := by simp only at h; omega
      subst hx
      exact (elems_get he).2.1
  · intro h
    rw [elems_at hi h]

set_option maxRecDepth 100000 in
set_option maxHeartbeats 4000000 in
theorem law_rank (A : Option Addr) (c : Nat) (n0 : Int) (ws : List UInt64) (i : Int) (w : World) (hra : Reads w (.slice A ws.length c) (ucells ws)) (hla : ws.length ≤ 9223372036854775807)
    (hn3 : -9223372036854775808 ≤ n0) (hn4 : n0 ≤ 9223372036854775807) (hi3 : -9223372036854775808 ≤ i) (hi4 : i ≤ 9223372036854775807) (hTb : Tab w) :
    Calls Tryd.prog 7 #[.agg #[.int .i64 n0, .slice A ws.length c], .int .i64 i] w fun e w' => e = .returned (.bool true) ∧ Below w.heap.size w w' := by
  have HTB := hidden hTb
  clear hTb
  have HG := hidden (show Grows w (w.alloc (.cells #[.int .i64 n0, .slice A ws.length c] 26)) from (Below.refl _ _).alloc (Nat.le_refl _) _)
  have HRW := hidden (Row.new w 26 #[.int .i64 n0, .slice A ws.length c] [.int .i64 n0, .slice A ws.length c] rfl)
  have HPA := hidden (show IsPair w (.agg #[.int .i64 n0, .slice A ws.length c]) n0 ws from ⟨_, rfl, hra, hla⟩)
  have HRA := hidden hra
  clear hra
  go_enter Tryd.func7, Tryd.ntmps7
  go_wp2_with fail
  refine (small_any _ n0 ws _ (HPA.out.grow HG.out) hn3 hn4).mono ?_
  rintro e w1 ⟨rfl, g1⟩
  have HG1 := hidden (HG.out.of_below g1)
  have HRW1 := hidden (HRW.out.grow g1)
  clear g1
  by_cases hsa : smallB n0 ws
  · rw [smallI_t hsa]
    obtain ⟨n, rfl⟩ := Int.eq_ofNat_of_zero_le hsa.2.1
    have hn2 : n ≤ 3000 := by have := hsa.1; omega
    have hoa : okW n ws := by have := hsa.2.2.2; rwa [Int.toNat_natCast] at this
    have HA1 := hidden (show IsSet w1 (.agg #[.int .i64 (n : Int), .slice A ws.length c]) n ws from ⟨_, rfl, HRA.out.grow HG1.out, by rw [hoa.1]; unfold nw; omega, by omega⟩)
    have HOA := hidden hoa
    have HX : Hid (∀ X, Grows w1 X → X.cell? ⟨w.heap.size, 0, none⟩ = some (.int .i64 (n : Int)) ∧ X.cell? ⟨w.heap.size, 1, none⟩ = some (.slice A ws.length c)) := fun X g => ⟨(HRW1.out.grow g).cell 0, (HRW1.out.grow g).cell 1⟩
    clear hsa hoa
    obtain ⟨x0, x1⟩ := HX.out w1 (Below.refl _ _)
    go_wp2_with fail
    refine (elements_any _ n ws w1 HA1.out HOA.out hn2 (HTB.out.grow HG1.out)).mono ?_
    rintro e w2 ⟨v2, rfl, hown2, g2⟩
    have hr2 := Reads.of_own hown2
    have HEL := hidden (elems_length (mem n ws) n)
    have hcn := cnt_le (mem n ws) n
    have HEG := hidden (fun k x (h : (elems (mem n ws) n)[k]? = some x) => elems_get h)
    have HSA := hidden (show ∀ (k x : Nat), (elems (mem n ws) n)[k]? = some x → selI n (mem n ws) (k : Int) = (x : Int) from fun k x h => by unfold selI; rw [if_pos (by omega), Int.toNat_natCast, h])
    have HRA2 := hidden (rank_all n (mem n ws))
    have HSR := hidden (fun j (hj : j < n) => sel_rank (n := n) (f := mem n ws) hj)
    have HMN := hidden (show ∀ (m x y : Nat), (elems (mem n ws) n)[m + 1]? = some x → (elems (mem n ws) n)[m]? = some y → y < x from fun m x y h1 h2 => elems_up h1 h2)
    obtain ⟨A2, c2, rfl, hlc⟩ := hr2.slice_
    rw [ncells_length] at hr2 hlc ⊢
    have hll : (elems (mem n ws) n).length ≤ 3000 := by rw [elems_length]; omega
    clear hown2
    have HR2 := hidden hr2
    clear hr2
    have HG2 := hidden (HG1.out.of_below g2)
    have HW2 := hidden (show Grows w1 w2 from g2)
    clear g2 x0 x1
    obtain ⟨x0, x1⟩ := HX.out w2 HW2.out
    generalize hL : elems (mem n ws) n = L at *
    go_wp2_with fail
    refine (ck_count _ n ws w2 (HA1.out.grow HW2.out) HOA.out).mono ?_
    rintro e w3 ⟨rfl, g3⟩
    rw [← HEL.out]
    have HG3 := hidden (HG2.out.of_below g3)
    have HW3 := hidden (HW2.out.of_below g3)
    have HR3 := hidden (HR2.out.grow g3)
    clear g3 x0 x1
    go_wp2_with fail
    go_loopw [6] (fun k wr => RsRel w3 L.length k wr) (fun k _ => L.length - (intOf k).toNat)
    case atStart => exact ⟨0, Nat.zero_le _, rfl, Below.refl _ _⟩
    case round =>
      obtain ⟨k, hk, rfl, hb⟩ := hrel
      have HB := hidden hb
      clear hb
      by_cases hlt : k < L.length
      · have hd : decide (k < L.length) = true := by simpa using hlt
        obtain ⟨A3, c3, he, _, hcell⟩ := HR3.out.grow HB.out
        rw [ncells_length] at he hcell
        injection he with e1 e2 e3
        subst e1 e3
        obtain ⟨b, off, rfl, hcell2⟩ := hcell (by omega)
        have HCL := hidden hcell2
        clear hcell hcell2 e2
        obtain ⟨x, hx⟩ : ∃ x, L[k]? = some x := ⟨_, List.getElem?_eq_getElem hlt⟩
        obtain ⟨hxn, hxm, hxc⟩ := HEG.out k x hx
        have hk0 : (0 : Int) ≤ (k : Int) := by omega
        have hk1 : (k : Int) < (L.length : Int) := by omega
        have hd3 : decide (n ≤ x) = false := by simp; omega
        have HCO := hidden (show ∀ w', IsSet w' (.agg #[.int .i64 (n : Int), .slice A ws.length c]) n ws → Calls Tryd.prog 18 #[.agg #[.int .i64 (n : Int), .slice A ws.length c], .int .i64 (x : Int)] w' fun e w2 => e = .returned (.bool true) ∧ Grows w' w2 from fun w' h => by have h1 := ck_contains _ n ws (x : Int) w' h HOA.out (by omega) (by omega); rw [memI_nat, hxm] at h1; exact h1)
        have HRK := hidden (show ∀ w', IsSet w' (.agg #[.int .i64 (n : Int), .slice A ws.length c]) n ws → Calls Tryd.prog 22 #[.agg #[.int .i64 (n : Int), .slice A ws.length c], .int .i64 (x : Int)] w' fun e w2 => e = .returned (.int .i64 (k : Int)) ∧ Grows w' w2 from fun w' h => by have h1 := ck_rank _ n ws (x : Int) w' h HOA.out (by omega) (by omega); rw [show rankI n (mem n ws) (x : Int) = k by unfold rankI; rw [Int.toNat_natCast, Nat.min_eq_right (by omega), hxc]] at h1; exact h1)
        have HSL := hidden (show ∀ w', IsSet w' (.agg #[.int .i64 (n : Int), .slice A ws.length c]) n ws → Tab w' → Calls Tryd.prog 24 #[.agg #[.int .i64 (n : Int), .slice A ws.length c], .int .i64 (k : Int)] w' fun e w2 => e = .returned (.int .i64 (x : Int)) ∧ Grows w' w2 from fun w' h hT => by have h1 := ck_select _ n ws (k : Int) w' h HOA.out hT (by omega) (by omega); rw [HSA.out k x hx] at h1; exact h1)
        have HCX : ∀ {j y}, L[j]? = some y → wr.cell? ⟨b, off + j, none⟩ = some (.int .i64 ((y : Nat) : Int)) := fun {j y} h => by rw [HCL.out j (List.getElem?_eq_some_iff.1 h).1]; unfold ncells; rw [List.getElem?_map, h]; rfl
        have HCW : Hid (∀ w', Grows wr w' → w'.cell? ⟨b, off + k, none⟩ = some (.int .i64 (x : Int))) := fun w' g => (g.cell (World.block_lt_of_cell? _ _ (HCX hx))).trans (HCX hx)
        by_cases hk00 : k = 0
        · subst hk00
          clear HCX
          go_wp2_with fail
          refine wp_region_loose (rsRs (0) (x : Int)) (by kernel_rfl) (by kernel_rfl) (rsRs_lasts _ _) ?_
          iterate 15 ((with_reducible refine loose_one (v := ?_) (a' := ?_) ?_ ?_ (fun w' hC' hG' => ?_) ?_ ?_); rotate_left 2; (focus rfl); (focus rfl); (focus (obtain ⟨x0, x1⟩ := HX.out w' (HW3.out.of_below (HB.out.of_below hC')); have hc : w'.cell? ⟨b, off, none⟩ = some (.int .i64 ((x : Nat) : Int)) := HCW.out w' hC'; clear hC' hG'; go_simp; rfl)); (focus (go_simp; rfl)))
          iterate 3 ((with_reducible refine loose_one (v := ?_) (a' := ?_) ?_ ?_ (fun w' hC' hG' => ?_) ?_ ?_); rotate_left 2; (focus rfl); (focus rfl); (focus (obtain ⟨x0, x1⟩ := HX.out w' (HW3.out.of_below (HB.out.of_below hC')); have hc : w'.cell? ⟨b, off, none⟩ = some (.int .i64 ((x : Nat) : Int)) := HCW.out w' hC'; clear hC' hG'; go_simp; rfl)); (focus (go_simp; rfl)))
          iterate 10 ((with_reducible refine loose_skip (a' := ?_) ?_ ?_ ?_); rotate_left 1; (focus rfl); (focus (go_simp; rfl)))
          iterate 3 ((with_reducible refine loose_one (v := ?_) (a' := ?_) ?_ ?_ (fun w' hC' hG' => ?_) ?_ ?_); rotate_left 2; (focus rfl); (focus rfl); (focus (obtain ⟨x0, x1⟩ := HX.out w' (HW3.out.of_below (HB.out.of_below hC')); have hc : w'.cell? ⟨b, off, none⟩ = some (.int .i64 ((x : Nat) : Int)) := HCW.out w' hC'; clear hC' hG'; go_simp; rfl)); (focus (go_simp; rfl)))
          iterate 5 ((with_reducible refine loose_one (v := ?_) (a' := ?_) ?_ ?_ (fun w' hC' hG' => ?_) ?_ ?_); rotate_left 2; (focus rfl); (focus rfl); (focus (obtain ⟨x0, x1⟩ := HX.out w' (HW3.out.of_below (HB.out.of_below hC')); have hc : w'.cell? ⟨b, off, none⟩ = some (.int .i64 ((x : Nat) : Int)) := HCW.out w' hC'; clear hC' hG'; go_simp; rfl)); (focus (go_simp; rfl)))
          refine loose_call (f := 18) (args := #[.agg #[.int .i64 (n : Int), .slice A ws.length c], .int .i64 (x : Int)]) (by rfl) (by rfl) (fun _ => by go_simp) (fun w' hC' hG' => bool_loose (HCO.out w' (HA1.out.grow (HW3.out.of_below (HB.out.of_below hC'))))) ?_
          rintro _ ⟨_, _, rfl⟩
          refine ⟨?_, ?_, ?_⟩
          rotate_left
          · go_simp
            rfl
          iterate 3 ((with_reducible refine loose_one (v := ?_) (a' := ?_) ?_ ?_ (fun w' hC' hG' => ?_) ?_ ?_); rotate_left 2; (focus rfl); (focus rfl); (focus (obtain ⟨x0, x1⟩ := HX.out w' (HW3.out.of_below (HB.out.of_below hC')); have hc : w'.cell? ⟨b, off, none⟩ = some (.int .i64 ((x : Nat) : Int)) := HCW.out w' hC'; clear hC' hG'; go_simp; rfl)); (focus (go_simp; rfl)))
          iterate 5 ((with_reducible refine loose_one (v := ?_) (a' := ?_) ?_ ?_ (fun w' hC' hG' => ?_) ?_ ?_); rotate_left 2; (focus rfl); (focus rfl); (focus (obtain ⟨x0, x1⟩ := HX.out w' (HW3.out.of_below (HB.out.of_below hC')); have hc : w'.cell? ⟨b, off, none⟩ = some (.int .i64 ((x : Nat) : Int)) := HCW.out w' hC'; clear hC' hG'; go_simp; rfl)); (focus (go_simp; rfl)))
          refine loose_call (f := 22) (args := #[.agg #[.int .i64 (n : Int), .slice A ws.length c], .int .i64 (x : Int)]) (by rfl) (by rfl) (fun _ => by go_simp) (fun w' hC' hG' => num_loose (HRK.out w' (HA1.out.grow (HW3.out.of_below (HB.out.of_below hC'))))) ?_
          rintro _ ⟨_, _, rfl⟩
          refine ⟨?_, ?_, ?_⟩
          rotate_left
          · go_simp
            rfl
          iterate 4 ((with_reducible refine loose_one (v := ?_) (a' := ?_) ?_ ?_ (fun w' hC' hG' => ?_) ?_ ?_); rotate_left 2; (focus rfl); (focus rfl); (focus (obtain ⟨x0, x1⟩ := HX.out w' (HW3.out.of_below (HB.out.of_below hC')); have hc : w'.cell? ⟨b, off, none⟩ = some (.int .i64 ((x : Nat) : Int)) := HCW.out w' hC'; clear hC' hG'; go_simp; rfl)); (focus (go_simp; rfl)))
          iterate 2 ((with_reducible refine loose_one (v := ?_) (a' := ?_) ?_ ?_ (fun w' hC' hG' => ?_) ?_ ?_); rotate_left 2; (focus rfl); (focus rfl); (focus (obtain ⟨x0, x1⟩ := HX.out w' (HW3.out.of_below (HB.out.of_below hC')); have hc : w'.cell? ⟨b, off, none⟩ = some (.int .i64 ((x : Nat) : Int)) := HCW.out w' hC'; clear hC' hG'; go_simp; rfl)); (focus (go_simp; rfl)))
          refine loose_call (f := 24) (args := #[.agg #[.int .i64 (n : Int), .slice A ws.length c], .int .i64 (0)]) (by rfl) (by rfl) (fun _ => by go_simp) (fun w' hC' hG' => num_loose (HSL.out w' (HA1.out.grow (HW3.out.of_below (HB.out.of_below hC'))) (HTB.out.grow (HG3.out.of_below (HB.out.of_below hC'))))) ?_
          rintro _ ⟨_, _, rfl⟩
          refine ⟨?_, ?_, ?_⟩
          rotate_left
          · go_simp
            rfl
          iterate 6 ((with_reducible refine loose_one (v := ?_) (a' := ?_) ?_ ?_ (fun w' hC' hG' => ?_) ?_ ?_); rotate_left 2; (focus rfl); (focus rfl); (focus (obtain ⟨x0, x1⟩ := HX.out w' (HW3.out.of_below (HB.out.of_below hC')); have hc : w'.cell? ⟨b, off, none⟩ = some (.int .i64 ((x : Nat) : Int)) := HCW.out w' hC'; clear hC' hG'; go_simp; rfl)); (focus (go_simp; rfl)))
          refine loose_done (fun w5 hC' hG' => ?_)
          clear hG'
          have HB5 := hidden (HB.out.of_below hC')
          clear hC'
          go_wp2_with fail
          go_roundw
          case rel => exact ⟨1, by omega, by go_num, HB5.out⟩
          case measure => simp [intOf]; omega
        · obtain ⟨m, rfl⟩ : ∃ m, k = m + 1 := ⟨k - 1, by omega⟩
          obtain ⟨y, hy⟩ : ∃ y, L[m]? = some y := ⟨_, List.getElem?_eq_getElem (by omega)⟩
          have hyx := HMN.out m x y hx hy
          have hd4 : decide (x ≤ y) = false := by simp; omega
          have hmw : IntKind.i64.wrap (m : Int) = (m : Int) := by rw [IntKind.wrap_i64]; omega
          have hm0 : (0 : Int) ≤ (m : Int) := by omega
          have hm2 : (m : Int) < (L.length : Int) := by omega
          have HCV : Hid (∀ w', Grows wr w' → w'.cell? ⟨b, off + m, none⟩ = some (.int .i64 (y : Int))) := fun w' g => (g.cell (World.block_lt_of_cell? _ _ (HCX hy))).trans (HCX hy)
          clear HCX
          go_wp2_with fail
          refine wp_region_loose (rsRs (((m + 1 : Nat) : Int)) (x : Int)) (by kernel_rfl) (by kernel_rfl) (rsRs_lasts _ _) ?_
          iterate 15 ((with_reducible refine loose_one (v := ?_) (a' := ?_) ?_ ?_ (fun w' hC' hG' => ?_) ?_ ?_); rotate_left 2; (focus rfl); (focus rfl); (focus (obtain ⟨x0, x1⟩ := HX.out w' (HW3.out.of_below (HB.out.of_below hC')); have hc := HCW.out w' hC'; have hd2 := HCV.out w' hC'; clear hC' hG'; go_simp; rfl)); (focus (go_simp; rfl)))
          iterate 3 ((with_reducible refine loose_one (v := ?_) (a' := ?_) ?_ ?_ (fun w' hC' hG' => ?_) ?_ ?_); rotate_left 2; (focus rfl); (focus rfl); (focus (obtain ⟨x0, x1⟩ := HX.out w' (HW3.out.of_below (HB.out.of_below hC')); have hc := HCW.out w' hC'; have hd2 := HCV.out w' hC'; clear hC' hG'; go_simp; rfl)); (focus (go_simp; rfl)))
          iterate 6 ((with_reducible refine loose_one (v := ?_) (a' := ?_) ?_ ?_ (fun w' hC' hG' => ?_) ?_ ?_); rotate_left 2; (focus rfl); (focus rfl); (focus (obtain ⟨x0, x1⟩ := HX.out w' (HW3.out.of_below (HB.out.of_below hC')); have hc := HCW.out w' hC'; have hd2 := HCV.out w' hC'; clear hC' hG'; go_simp; rfl)); (focus (go_simp; rfl)))
          (with_reducible refine loose_one (v := .int .i64 (m : Int)) (a' := ?_) ?_ ?_ (fun w' hC' hG' => ?_) ?_ ?_); rotate_left 1; (focus rfl); (focus rfl); (focus (clear hC' hG'; go_simp)); (focus (go_simp; rfl))
          iterate 3 ((with_reducible refine loose_one (v := ?_) (a' := ?_) ?_ ?_ (fun w' hC' hG' => ?_) ?_ ?_); rotate_left 2; (focus rfl); (focus rfl); (focus (obtain ⟨x0, x1⟩ := HX.out w' (HW3.out.of_below (HB.out.of_below hC')); have hc := HCW.out w' hC'; have hd2 := HCV.out w' hC'; clear hC' hG'; go_simp; rfl)); (focus (go_simp; rfl)))
          iterate 3 ((with_reducible refine loose_one (v := ?_) (a' := ?_) ?_ ?_ (fun w' hC' hG' => ?_) ?_ ?_); rotate_left 2; (focus rfl); (focus rfl); (focus (obtain ⟨x0, x1⟩ := HX.out w' (HW3.out.of_below (HB.out.of_below hC')); have hc := HCW.out w' hC'; have hd2 := HCV.out w' hC'; clear hC' hG'; go_simp; rfl)); (focus (go_simp; rfl)))
          iterate 5 ((with_reducible refine loose_one (v := ?_) (a' := ?_) ?_ ?_ (fun w' hC' hG' => ?_) ?_ ?_); rotate_left 2; (focus rfl); (focus rfl); (focus (obtain ⟨x0, x1⟩ := HX.out w' (HW3.out.of_below (HB.out.of_below hC')); have hc := HCW.out w' hC'; have hd2 := HCV.out w' hC'; clear hC' hG'; go_simp; rfl)); (focus (go_simp; rfl)))
          refine loose_call (f := 18) (args := #[.agg #[.int .i64 (n : Int), .slice A ws.length c], .int .i64 (x : Int)]) (by rfl) (by rfl) (fun _ => by go_simp) (fun w' hC' hG' => bool_loose (HCO.out w' (HA1.out.grow (HW3.out.of_below (HB.out.of_below hC'))))) ?_
          rintro _ ⟨_, _, rfl⟩
          refine ⟨?_, ?_, ?_⟩
          rotate_left
          · go_simp
            rfl
          iterate 3 ((with_reducible refine loose_one (v := ?_) (a' := ?_) ?_ ?_ (fun w' hC' hG' => ?_) ?_ ?_); rotate_left 2; (focus rfl); (focus rfl); (focus (obtain ⟨x0, x1⟩ := HX.out w' (HW3.out.of_below (HB.out.of_below hC')); have hc := HCW.out w' hC'; have hd2 := HCV.out w' hC'; clear hC' hG'; go_simp; rfl)); (focus (go_simp; rfl)))
          iterate 5 ((with_reducible refine loose_one (v := ?_) (a' := ?_) ?_ ?_ (fun w' hC' hG' => ?_) ?_ ?_); rotate_left 2; (focus rfl); (focus rfl); (focus (obtain ⟨x0, x1⟩ := HX.out w' (HW3.out.of_below (HB.out.of_below hC')); have hc := HCW.out w' hC'; have hd2 := HCV.out w' hC'; clear hC' hG'; go_simp; rfl)); (focus (go_simp; rfl)))
          refine loose_call (f := 22) (args := #[.agg #[.int .i64 (n : Int), .slice A ws.length c], .int .i64 (x : Int)]) (by rfl) (by rfl) (fun _ => by go_simp) (fun w' hC' hG' => num_loose (HRK.out w' (HA1.out.grow (HW3.out.of_below (HB.out.of_below hC'))))) ?_
          rintro _ ⟨_, _, rfl⟩
          refine ⟨?_, ?_, ?_⟩
          rotate_left
          · go_simp
            rfl
          iterate 4 ((with_reducible refine loose_one (v := ?_) (a' := ?_) ?_ ?_ (fun w' hC' hG' => ?_) ?_ ?_); rotate_left 2; (focus rfl); (focus rfl); (focus (obtain ⟨x0, x1⟩ := HX.out w' (HW3.out.of_below (HB.out.of_below hC')); have hc := HCW.out w' hC'; have hd2 := HCV.out w' hC'; clear hC' hG'; go_simp; rfl)); (focus (go_simp; rfl)))
          iterate 2 ((with_reducible refine loose_one (v := ?_) (a' := ?_) ?_ ?_ (fun w' hC' hG' => ?_) ?_ ?_); rotate_left 2; (focus rfl); (focus rfl); (focus (obtain ⟨x0, x1⟩ := HX.out w' (HW3.out.of_below (HB.out.of_below hC')); have hc := HCW.out w' hC'; have hd2 := HCV.out w' hC'; clear hC' hG'; go_simp; rfl)); (focus (go_simp; rfl)))
          refine loose_call (f := 24) (args := #[.agg #[.int .i64 (n : Int), .slice A ws.length c], .int .i64 (((m + 1 : Nat) : Int))]) (by rfl) (by rfl) (fun _ => by go_simp) (fun w' hC' hG' => num_loose (HSL.out w' (HA1.out.grow (HW3.out.of_below (HB.out.of_below hC'))) (HTB.out.grow (HG3.out.of_below (HB.out.of_below hC'))))) ?_
          rintro _ ⟨_, _, rfl⟩
          refine ⟨?_, ?_, ?_⟩
          rotate_left
          · go_simp
            rfl
          iterate 6 ((with_reducible refine loose_one (v := ?_) (a' := ?_) ?_ ?_ (fun w' hC' hG' => ?_) ?_ ?_); rotate_left 2; (focus rfl); (focus rfl); (focus (obtain ⟨x0, x1⟩ := HX.out w' (HW3.out.of_below (HB.out.of_below hC')); have hc := HCW.out w' hC'; have hd2 := HCV.out w' hC'; clear hC' hG'; go_simp; rfl)); (focus (go_simp; rfl)))
          refine loose_done (fun w5 hC' hG' => ?_)
          clear hG'
          have HB5 := hidden (HB.out.of_below hC')
          clear hC'
          go_wp2_with fail
          go_roundw
          case rel => exact ⟨m + 1 + 1, by omega, by go_num, HB5.out⟩
          case measure => simp [intOf]; omega
      · have hke : k = L.length := by omega
        have hd : decide (k < L.length) = false := by simp; omega
        clear hlt
        obtain ⟨R, hR⟩ : ∃ R, R = rankI n (mem n ws) i := ⟨_, rfl⟩
        obtain ⟨S, hS⟩ : ∃ S, S = selI n (mem n ws) (R : Int) := ⟨_, rfl⟩
        have hRn : R ≤ 3000 := by rw [hR]; unfold rankI; exact Nat.le_trans (cnt_le _ _) (by omega)
        have HRK := hidden (show ∀ w', IsSet w' (.agg #[.int .i64 (n : Int), .slice A ws.length c]) n ws → Calls Tryd.prog 22 #[.agg #[.int .i64 (n : Int), .slice A ws.length c], .int .i64 i] w' fun e w2 => e = .returned (.int .i64 (R : Int)) ∧ Grows w' w2 from fun w' h => by have h1 := ck_rank _ n ws i w' h HOA.out hi3 hi4; rw [← hR] at h1; exact h1)
        have HSL := hidden (show ∀ w', IsSet w' (.agg #[.int .i64 (n : Int), .slice A ws.length c]) n ws → Tab w' → Calls Tryd.prog 24 #[.agg #[.int .i64 (n : Int), .slice A ws.length c], .int .i64 (R : Int)] w' fun e w2 => e = .returned (.int .i64 S) ∧ Grows w' w2 from fun w' h hT => by have h1 := ck_select _ n ws (R : Int) w' h HOA.out hT (by omega) (by omega); rw [← hS] at h1; exact h1)
        have HRN := hidden (show ∀ w', IsSet w' (.agg #[.int .i64 (n : Int), .slice A ws.length c]) n ws → Calls Tryd.prog 22 #[.agg #[.int .i64 (n : Int), .slice A ws.length c], .int .i64 (n : Int)] w' fun e w2 => e = .returned (.int .i64 (L.length : Int)) ∧ Grows w' w2 from fun w' h => by have h1 := ck_rank _ n ws (n : Int) w' h HOA.out (by omega) (by omega); rw [HRA2.out, ← HEL.out] at h1; exact h1)
        have HCN := hidden (show ∀ (j : Nat) w', i = (j : Int) → IsSet w' (.agg #[.int .i64 (n : Int), .slice A ws.length c]) n ws → Calls Tryd.prog 18 #[.agg #[.int .i64 (n : Int), .slice A ws.length c], .int .i64 (j : Int)] w' fun e w2 => e = .returned (.bool (mem n ws j)) ∧ Grows w' w2 from fun j w' hj h => by have h1 := ck_contains _ n ws (j : Int) w' h HOA.out (by omega) (by omega); rw [memI_nat] at h1; exact h1)
        have HSI := hidden (show ∀ j : Nat, i = (j : Int) → j < n → (S = (j : Int) ↔ mem n ws j = true) from fun j hj hjn => by have h := HSR.out j hjn; rw [hS, hR, hj]; exact h)
        clear hR hS hke
        obtain ⟨x0, x1⟩ := HX.out wr (HW3.out.of_below HB.out)
        go_wp2_with fail
        refine wp_region_loose (rs2Rs (R : Int) S) (by kernel_rfl) (by kernel_rfl) (rs2Rs_lasts _ _) ?_
        iterate 3 ((with_reducible refine loose_one (v := ?_) (a' := ?_) ?_ ?_ (fun w' hC' hG' => ?_) ?_ ?_); rotate_left 2; (focus rfl); (focus rfl); (focus (obtain ⟨x0, x1⟩ := HX.out w' (HW3.out.of_below (HB.out.of_below hC')); clear hC' hG'; go_simp; rfl)); (focus (go_simp; rfl)))
        refine loose_call (f := 22) (args := #[.agg #[.int .i64 (n : Int), .slice A ws.length c], .int .i64 i]) (by rfl) (by rfl) (fun _ => by go_simp) (fun w' hC' hG' => num_loose (HRK.out w' (HA1.out.grow (HW3.out.of_below (HB.out.of_below hC'))))) ?_
        rintro _ ⟨_, _, rfl⟩
        refine ⟨?_, ?_, ?_⟩
        rotate_left
        · go_simp
          rfl
        refine loose_call (f := 24) (args := #[.agg #[.int .i64 (n : Int), .slice A ws.length c], .int .i64 (R : Int)]) (by rfl) (by rfl) (fun _ => by go_simp) (fun w' hC' hG' => num_loose (HSL.out w' (HA1.out.grow (HW3.out.of_below (HB.out.of_below hC'))) (HTB.out.grow (HG3.out.of_below (HB.out.of_below hC'))))) ?_
        rintro _ ⟨_, _, rfl⟩
        refine ⟨?_, ?_, ?_⟩
        rotate_left
        · go_simp
          rfl
        iterate 1 ((with_reducible refine loose_one (v := ?_) (a' := ?_) ?_ ?_ (fun w' hC' hG' => ?_) ?_ ?_); rotate_left 2; (focus rfl); (focus rfl); (focus (obtain ⟨x0, x1⟩ := HX.out w' (HW3.out.of_below (HB.out.of_below hC')); clear hC' hG'; go_simp; rfl)); (focus (go_simp; rfl)))
        refine loose_done (fun w5 hC' hG' => ?_)
        clear hG' x0 x1 hd
        have HW5 := hidden (HW3.out.of_below (HB.out.of_below hC'))
        have HG5 := hidden (HG1.out.of_below HW5.out)
        clear hC'
        obtain ⟨x0, x1⟩ := HX.out w5 HW5.out
        by_cases hi0 : i < 0
        · have HW6 := hidden HW5.out
          go_wp2_with fail
          refine (HRN.out _ (HA1.out.grow HW6.out)).mono ?_
          rintro e w7 ⟨rfl, g7⟩
          have HG7 := hidden ((HG1.out.of_below HW6.out).of_below g7)
          clear g7 x0 x1
          go_wp2_with fail
          refine (lives_any _ (HTB.out.grow HG7.out)).mono ?_
          rintro e w8 ⟨rfl, g8⟩
          have hC2 := HG7.out.of_below g8
          go_wp2_with fail
          go_ret
          exact ⟨rfl, hC2⟩
        · obtain ⟨j, rfl⟩ := Int.eq_ofNat_of_zero_le (show 0 ≤ i by omega)
          clear hi0
          by_cases hjn : n ≤ j
          · have hd : decide (n ≤ j) = true := by simpa using hjn
            have HW6 := hidden HW5.out
            go_wp2_with fail
            refine (HRN.out _ (HA1.out.grow HW6.out)).mono ?_
            rintro e w7 ⟨rfl, g7⟩
            have HG7 := hidden ((HG1.out.of_below HW6.out).of_below g7)
            clear g7 x0 x1
            go_wp2_with fail
            refine (lives_any _ (HTB.out.grow HG7.out)).mono ?_
            rintro e w8 ⟨rfl, g8⟩
            have hC2 := HG7.out.of_below g8
            go_wp2_with fail
            go_ret
            exact ⟨rfl, hC2⟩
          · have hd : decide (n ≤ j) = false := by simpa using hjn
            have hsi := HSI.out j rfl (by omega)
            have HC := hidden (fun w' h => HCN.out j w' rfl h)
            clear hjn
            go_wp2_with fail
            refine (HC.out _ (HA1.out.grow HW5.out)).mono ?_
            rintro e w6 ⟨rfl, g6⟩
            have HW6 := hidden (HW5.out.of_below g6)
            clear g6 x0 x1
            obtain ⟨x0, x1⟩ := HX.out w6 HW6.out
            clear HC HCN HSI
            cases hm : mem n ws j
            · rw [hm] at hsi
              have hne : (S == (j : Int)) = false := by simpa using hsi
              clear hsi hm
              go_wp2_with fail
              refine (HRN.out _ (HA1.out.grow HW6.out)).mono ?_
              rintro e w7 ⟨rfl, g7⟩
              have HG7 := hidden ((HG1.out.of_below HW6.out).of_below g7)
              clear g7 x0 x1
              go_wp2_with fail
              refine (lives_any _ (HTB.out.grow HG7.out)).mono ?_
              rintro e w8 ⟨rfl, g8⟩
              have hC2 := HG7.out.of_below g8
              go_wp2_with fail
              go_ret
              exact ⟨rfl, hC2⟩
            · rw [hm] at hsi
              obtain rfl : S = (j : Int) := by simpa using hsi
              clear hsi hm
              go_wp2_with fail
              refine (HRN.out _ (HA1.out.grow HW6.out)).mono ?_
              rintro e w7 ⟨rfl, g7⟩
              have HG7 := hidden ((HG1.out.of_below HW6.out).of_below g7)
              clear g7 x0 x1
              go_wp2_with fail
              refine (lives_any _ (HTB.out.grow HG7.out)).mono ?_
              rintro e w8 ⟨rfl, g8⟩
              have hC2 := HG7.out.of_below g8
              go_wp2_with fail
              go_ret
              exact ⟨rfl, hC2⟩
  · rw [smallI_f hsa]
    clear hsa
    go_wp2_with fail
    refine (lives_any _ (HTB.out.grow HG1.out)).mono ?_
    rintro e w3 ⟨rfl, g3⟩
    have hC2 := HG1.out.of_below g3
    go_wp2_with fail
    go_ret
    exact ⟨rfl, hC2⟩

end Go.Proofs.YtaegolkoinjmoaaDoor
