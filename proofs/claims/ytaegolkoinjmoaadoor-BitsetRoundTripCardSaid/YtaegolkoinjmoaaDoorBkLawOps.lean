/-
  The walk of the law BitsetOperations: it returns true for every two pairs of N and words; nothing that was there is changed.
-/
import Derived.Test.YtaegolkoinjmoaaDoorBkLawValid
namespace Go.Proofs.YtaegolkoinjmoaaDoor
open Go.RowKit
set_option linter.unusedVariables false
set_option linter.unusedSimpArgs false

theorem setV_pair {n : Nat} {f : Nat → Bool} {v : Value} {w : World} (h : SetVR n f v w) : IsPair w v (n : Int) (pack n f) := IsSet.pair h (by rw [pack_length]; have := h; obtain ⟨_, _, _, _, hb⟩ := this; unfold nw; omega)
theorem eq_true {f : FuncId} {args : Array Value} {w : World} {n : Int} {ws : List UInt64} (h : Calls Tryd.prog f args w fun e w' => e = .returned (.bool (pairEq n n ws ws)) ∧ Grows w w') : Calls Tryd.prog f args w fun e w' => e = .returned (.bool true) ∧ Grows w w' := by
  rw [pairEq_t ⟨rfl, rfl⟩] at h
  exact h
theorem fresh_setR {n : Nat} {f : Nat → Bool} {g : FuncId} {args : Array Value} {w : World} (hn : n ≤ 1048576) (h : Calls Tryd.prog g args w (FreshSet n (pack n f) w)) : Calls Tryd.prog g args w (SetR n f w) := h.mono fun _ _ h1 => h1.setR hn

def opsRs (n m : Nat) (fa fb : Nat → Bool) : Loose := fun i =>
  match i with
  | 2 => some (SetVR (max n m) fun j => fa j && fb j)
  | 5 => some (SetVR (max n m) fun j => fa j && fb j)
  | 6 => some (BoolR true)
  | 10 => some (SetVR (max n m) fun j => fa j || fb j)
  | 13 => some (SetVR (max n m) fun j => fa j || fb j)
  | 14 => some (BoolR true)
  | 19 => some (SetVR (max n m) fun j => fa j && !fb j)
  | 22 => some (SetVR (max n m) fun j => fa j && !fb j)
  | 23 => some (BoolR true)
  | 27 => some (SetVR n fun j => !fa j)
  | 29 => some (SetVR n fun j => !fa j)
  | 30 => some (BoolR true)
  | 33 => some (BoolR true)
  | _ => none
theorem opsRs_lasts (n m : Nat) (fa fb : Nat → Bool) : (opsRs n m fa fb).lasts := by
  intro i R h
  unfold opsRs at h
  split at h <;> first
    | (injection h with h; subst h; exact fun _ _ _ h _ => h)
    | (injection h with h; subst h; exact fun _ _ _ h hb => IsSet.grow h hb)
    | (cases h)

set_option maxHeartbeats 2000000 in
theorem law_ops (A B : Option Addr) (c d : Nat) (na nb : Int) (wa wb : List UInt64) (w : World) (hra : Reads w (.slice A wa.length c) (ucells wa)) (hrb : Reads w (.slice B wb.length d) (ucells wb)) (hla : wa.length ≤ 9223372036854775807) (hlb : wb.length ≤ 9223372036854775807)
    (ha3 : -9223372036854775808 ≤ na) (ha4 : na ≤ 9223372036854775807) (hb3 : -9223372036854775808 ≤ nb) (hb4 : nb ≤ 9223372036854775807) (hT : Tab w) :
    Calls Tryd.prog 4 #[.agg #[.int .i64 na, .slice A wa.length c], .agg #[.int .i64 nb, .slice B wb.length d]] w fun e w' => e = .returned (.bool true) ∧ Below w.heap.size w w' := by
  have HTB := hidden hT
  clear hT
  have HG := hidden (show Grows w ((w.alloc (.cells #[.int .i64 na, .slice A wa.length c] 26)).alloc (.cells #[.int .i64 nb, .slice B wb.length d] 26)) from ((Below.refl _ _).alloc (Nat.le_refl _) _).alloc (by simp) _)
  have HX0 : Hid (∀ X, Grows ((w.alloc (.cells #[.int .i64 na, .slice A wa.length c] 26)).alloc (.cells #[.int .i64 nb, .slice B wb.length d] 26)) X → X.cell? ⟨w.heap.size, 0, none⟩ = some (.int .i64 na) ∧ X.cell? ⟨w.heap.size, 1, none⟩ = some (.slice A wa.length c) ∧ X.cell? ⟨w.heap.size + 1, 0, none⟩ = some (.int .i64 nb) ∧ X.cell? ⟨w.heap.size + 1, 1, none⟩ = some (.slice B wb.length d)) := by
    intro X g
    have r := ((Row.new w 26 #[.int .i64 na, .slice A wa.length c] [.int .i64 na, .slice A wa.length c] rfl).grow ((Below.refl _ _).alloc (Nat.le_refl _) (.cells #[.int .i64 nb, .slice B wb.length d] 26))).grow g
    have r2 := (Row.at_ (w.alloc (.cells #[.int .i64 na, .slice A wa.length c] 26)) 26 #[.int .i64 nb, .slice B wb.length d] [.int .i64 nb, .slice B wb.length d] rfl (w.heap.size + 1) (by simp)).grow g
    exact ⟨r.cell 0, r.cell 1, r2.cell 0, r2.cell 1⟩
  have HPA := hidden (show IsPair w (.agg #[.int .i64 na, .slice A wa.length c]) na wa from ⟨_, rfl, hra, hla⟩)
  have HPB := hidden (show IsPair w (.agg #[.int .i64 nb, .slice B wb.length d]) nb wb from ⟨_, rfl, hrb, hlb⟩)
  have HRA := hidden hra
  have HRB := hidden hrb
  clear hra hrb
  go_enter Tryd.func4, Tryd.ntmps4
  go_wp2_with fail
  refine (small_any _ na wa _ (HPA.out.grow HG.out) ha3 ha4).mono ?_
  rintro e w1 ⟨rfl, g1⟩
  have HG1 := hidden (HG.out.of_below g1)
  by_cases hsa : smallB na wa
  · rw [smallI_t hsa]
    obtain ⟨x0, x1, y0, y1⟩ := HX0.out w1 g1
    have HW1 := hidden g1
    clear g1
    go_wp2_with fail
    refine (small_any _ nb wb _ (HPB.out.grow HG1.out) hb3 hb4).mono ?_
    rintro e w2 ⟨rfl, g2⟩
    have HG2 := hidden (HG1.out.of_below g2)
    have HW2 := hidden (HW1.out.of_below g2)
    clear g2 x0 x1 y0 y1
    by_cases hsb : smallB nb wb
    · rw [smallI_t hsb]
      obtain ⟨n, rfl⟩ := Int.eq_ofNat_of_zero_le hsa.2.1
      obtain ⟨m, rfl⟩ := Int.eq_ofNat_of_zero_le hsb.2.1
      have hn2 : n ≤ 1048576 := by have := hsa.2.2.1; omega
      have hm2 : m ≤ 1048576 := by have := hsb.2.2.1; omega
      have hmx : max n m ≤ 1048576 := by omega
      have hoa : okW n wa := by have := hsa.2.2.2; rwa [Int.toNat_natCast] at this
      have hob : okW m wb := by have := hsb.2.2.2; rwa [Int.toNat_natCast] at this
      have HA := hidden (show IsSet w2 (.agg #[.int .i64 (n : Int), .slice A wa.length c]) n wa from ⟨_, rfl, HRA.out.grow HG2.out, by rw [hoa.1]; unfold nw; omega, hn2⟩)
      have HB := hidden (show IsSet w2 (.agg #[.int .i64 (m : Int), .slice B wb.length d]) m wb from ⟨_, rfl, HRB.out.grow HG2.out, by rw [hob.1]; unfold nw; omega, hm2⟩)
      have HOA := hidden hoa
      have HOB := hidden hob
      have HGF := hidden HG2.out
      have HX : Hid (∀ X, Grows w2 X → X.cell? ⟨w.heap.size, 0, none⟩ = some (.int .i64 (n : Int)) ∧ X.cell? ⟨w.heap.size, 1, none⟩ = some (.slice A wa.length c) ∧ X.cell? ⟨w.heap.size + 1, 0, none⟩ = some (.int .i64 (m : Int)) ∧ X.cell? ⟨w.heap.size + 1, 1, none⟩ = some (.slice B wb.length d)) := fun X g => HX0.out X (HW2.out.of_below g)
      clear hsa hsb hoa hob HX0
      go_wp2_with fail
      refine wp_region_loose (opsRs n m (mem n wa) (mem m wb)) (by kernel_rfl) (by kernel_rfl) (opsRs_lasts _ _ _ _) ?_
      iterate 2 ((with_reducible refine loose_one (v := ?_) (a' := ?_) ?_ ?_ (fun w' hC' hG' => ?_) ?_ ?_); rotate_left 2; (focus rfl); (focus rfl); (focus (obtain ⟨x0, x1, y0, y1⟩ := HX.out w' hC'; clear hC' hG'; go_simp; rfl)); (focus (go_simp; rfl)))
      refine loose_call (f := 30) (args := #[.agg #[.int .i64 (n : Int), .slice A wa.length c], .agg #[.int .i64 (m : Int), .slice B wb.length d]]) (by rfl) (by rfl) (fun _ => by go_simp) (fun w' hC' _ => set_loose (ck_and _ _ n m wa wb w' (HA.out.grow hC') HOA.out (HB.out.grow hC') HOB.out)) ?_
      intro v2 _
      refine ⟨?_, ?_, ?_⟩
      rotate_left
      · go_simp
        rfl
      iterate 2 ((with_reducible refine loose_one (v := ?_) (a' := ?_) ?_ ?_ (fun w' hC' hG' => ?_) ?_ ?_); rotate_left 2; (focus rfl); (focus rfl); (focus (obtain ⟨x0, x1, y0, y1⟩ := HX.out w' hC'; clear hC' hG'; go_simp; rfl)); (focus (go_simp; rfl)))
      refine loose_call (f := 31) (args := #[.agg #[.int .i64 (n : Int), .slice A wa.length c], .agg #[.int .i64 (m : Int), .slice B wb.length d]]) (by rfl) (by rfl) (fun _ => by go_simp) (fun w' hC' _ => set_loose (fresh_setR hmx ((rand_any _ _ n m wa wb w' (HA.out.grow hC') (HB.out.grow hC'))))) ?_
      intro v5 _
      refine ⟨?_, ?_, ?_⟩
      rotate_left
      · go_simp
        rfl
      refine loose_call (f := 13) (args := #[v2, v5]) (by rfl) (by rfl) (fun _ => by go_simp) (fun w' hC' hG' => bool_loose (eq_true (requal_any v2 v5 _ _ _ _ w' (setV_pair ((hG' 2 (by kernel_rfl)).1.2 rfl)) (setV_pair ((hG' 5 (by kernel_rfl)).2 rfl))))) ?_
      rintro _ ⟨_, _, rfl⟩
      refine ⟨?_, ?_, ?_⟩
      rotate_left
      · go_simp
        rfl
      iterate 1 ((with_reducible refine loose_one (v := ?_) (a' := ?_) ?_ ?_ (fun w' hC' hG' => ?_) ?_ ?_); rotate_left 2; (focus rfl); (focus rfl); (focus (obtain ⟨x0, x1, y0, y1⟩ := HX.out w' hC'; clear hC' hG'; go_simp; rfl)); (focus (go_simp; rfl)))
      iterate 2 ((with_reducible refine loose_one (v := ?_) (a' := ?_) ?_ ?_ (fun w' hC' hG' => ?_) ?_ ?_); rotate_left 2; (focus rfl); (focus rfl); (focus (obtain ⟨x0, x1, y0, y1⟩ := HX.out w' hC'; clear hC' hG'; go_simp; rfl)); (focus (go_simp; rfl)))
      refine loose_call (f := 32) (args := #[.agg #[.int .i64 (n : Int), .slice A wa.length c], .agg #[.int .i64 (m : Int), .slice B wb.length d]]) (by rfl) (by rfl) (fun _ => by go_simp) (fun w' hC' _ => set_loose (ck_or _ _ n m wa wb w' (HA.out.grow hC') HOA.out (HB.out.grow hC') HOB.out)) ?_
      intro v10 _
      refine ⟨?_, ?_, ?_⟩
      rotate_left
      · go_simp
        rfl
      iterate 2 ((with_reducible refine loose_one (v := ?_) (a' := ?_) ?_ ?_ (fun w' hC' hG' => ?_) ?_ ?_); rotate_left 2; (focus rfl); (focus rfl); (focus (obtain ⟨x0, x1, y0, y1⟩ := HX.out w' hC'; clear hC' hG'; go_simp; rfl)); (focus (go_simp; rfl)))
      refine loose_call (f := 33) (args := #[.agg #[.int .i64 (n : Int), .slice A wa.length c], .agg #[.int .i64 (m : Int), .slice B wb.length d]]) (by rfl) (by rfl) (fun _ => by go_simp) (fun w' hC' _ => set_loose (fresh_setR hmx ((ror_any _ _ n m wa wb w' (HA.out.grow hC') (HB.out.grow hC'))))) ?_
      intro v13 _
      refine ⟨?_, ?_, ?_⟩
      rotate_left
      · go_simp
        rfl
      refine loose_call (f := 13) (args := #[v10, v13]) (by rfl) (by rfl) (fun _ => by go_simp) (fun w' hC' hG' => bool_loose (eq_true (requal_any v10 v13 _ _ _ _ w' (setV_pair ((hG' 10 (by kernel_rfl)).1.2 rfl)) (setV_pair ((hG' 13 (by kernel_rfl)).2 rfl))))) ?_
      rintro _ ⟨_, _, rfl⟩
      refine ⟨?_, ?_, ?_⟩
      rotate_left
      · go_simp
        rfl
      iterate 2 ((with_reducible refine loose_one (v := ?_) (a' := ?_) ?_ ?_ (fun w' hC' hG' => ?_) ?_ ?_); rotate_left 2; (focus rfl); (focus rfl); (focus (obtain ⟨x0, x1, y0, y1⟩ := HX.out w' hC'; clear hC' hG'; go_simp; rfl)); (focus (go_simp; rfl)))
      iterate 2 ((with_reducible refine loose_one (v := ?_) (a' := ?_) ?_ ?_ (fun w' hC' hG' => ?_) ?_ ?_); rotate_left 2; (focus rfl); (focus rfl); (focus (obtain ⟨x0, x1, y0, y1⟩ := HX.out w' hC'; clear hC' hG'; go_simp; rfl)); (focus (go_simp; rfl)))
      refine loose_call (f := 34) (args := #[.agg #[.int .i64 (n : Int), .slice A wa.length c], .agg #[.int .i64 (m : Int), .slice B wb.length d]]) (by rfl) (by rfl) (fun _ => by go_simp) (fun w' hC' _ => set_loose (ck_andnot _ _ n m wa wb w' (HA.out.grow hC') HOA.out (HB.out.grow hC') HOB.out)) ?_
      intro v19 _
      refine ⟨?_, ?_, ?_⟩
      rotate_left
      · go_simp
        rfl
      iterate 2 ((with_reducible refine loose_one (v := ?_) (a' := ?_) ?_ ?_ (fun w' hC' hG' => ?_) ?_ ?_); rotate_left 2; (focus rfl); (focus rfl); (focus (obtain ⟨x0, x1, y0, y1⟩ := HX.out w' hC'; clear hC' hG'; go_simp; rfl)); (focus (go_simp; rfl)))
      refine loose_call (f := 35) (args := #[.agg #[.int .i64 (n : Int), .slice A wa.length c], .agg #[.int .i64 (m : Int), .slice B wb.length d]]) (by rfl) (by rfl) (fun _ => by go_simp) (fun w' hC' _ => set_loose (fresh_setR hmx ((randnot_any _ _ n m wa wb w' (HA.out.grow hC') (HB.out.grow hC'))))) ?_
      intro v22 _
      refine ⟨?_, ?_, ?_⟩
      rotate_left
      · go_simp
        rfl
      refine loose_call (f := 13) (args := #[v19, v22]) (by rfl) (by rfl) (fun _ => by go_simp) (fun w' hC' hG' => bool_loose (eq_true (requal_any v19 v22 _ _ _ _ w' (setV_pair ((hG' 19 (by kernel_rfl)).1.2 rfl)) (setV_pair ((hG' 22 (by kernel_rfl)).2 rfl))))) ?_
      rintro _ ⟨_, _, rfl⟩
      refine ⟨?_, ?_, ?_⟩
      rotate_left
      · go_simp
        rfl
      iterate 2 ((with_reducible refine loose_one (v := ?_) (a' := ?_) ?_ ?_ (fun w' hC' hG' => ?_) ?_ ?_); rotate_left 2; (focus rfl); (focus rfl); (focus (obtain ⟨x0, x1, y0, y1⟩ := HX.out w' hC'; clear hC' hG'; go_simp; rfl)); (focus (go_simp; rfl)))
      iterate 1 ((with_reducible refine loose_one (v := ?_) (a' := ?_) ?_ ?_ (fun w' hC' hG' => ?_) ?_ ?_); rotate_left 2; (focus rfl); (focus rfl); (focus (obtain ⟨x0, x1, y0, y1⟩ := HX.out w' hC'; clear hC' hG'; go_simp; rfl)); (focus (go_simp; rfl)))
      refine loose_call (f := 36) (args := #[.agg #[.int .i64 (n : Int), .slice A wa.length c]]) (by rfl) (by rfl) (fun _ => by go_simp) (fun w' hC' _ => set_loose (ck_not _ n wa w' (HA.out.grow hC') HOA.out)) ?_
      intro v27 _
      refine ⟨?_, ?_, ?_⟩
      rotate_left
      · go_simp
        rfl
      iterate 1 ((with_reducible refine loose_one (v := ?_) (a' := ?_) ?_ ?_ (fun w' hC' hG' => ?_) ?_ ?_); rotate_left 2; (focus rfl); (focus rfl); (focus (obtain ⟨x0, x1, y0, y1⟩ := HX.out w' hC'; clear hC' hG'; go_simp; rfl)); (focus (go_simp; rfl)))
      refine loose_call (f := 37) (args := #[.agg #[.int .i64 (n : Int), .slice A wa.length c]]) (by rfl) (by rfl) (fun _ => by go_simp) (fun w' hC' _ => set_loose (fresh_setR hn2 (rnot_any _ n wa w' (HA.out.grow hC')))) ?_
      intro v29 _
      refine ⟨?_, ?_, ?_⟩
      rotate_left
      · go_simp
        rfl
      refine loose_call (f := 13) (args := #[v27, v29]) (by rfl) (by rfl) (fun _ => by go_simp) (fun w' hC' hG' => bool_loose (eq_true (requal_any v27 v29 _ _ _ _ w' (setV_pair ((hG' 27 (by kernel_rfl)).1.2 rfl)) (setV_pair ((hG' 29 (by kernel_rfl)).2 rfl))))) ?_
      rintro _ ⟨_, _, rfl⟩
      refine ⟨?_, ?_, ?_⟩
      rotate_left
      · go_simp
        rfl
      iterate 2 ((with_reducible refine loose_one (v := ?_) (a' := ?_) ?_ ?_ (fun w' hC' hG' => ?_) ?_ ?_); rotate_left 2; (focus rfl); (focus rfl); (focus (obtain ⟨x0, x1, y0, y1⟩ := HX.out w' hC'; clear hC' hG'; go_simp; rfl)); (focus (go_simp; rfl)))
      refine loose_call (f := 10) (args := #[]) (by rfl) (by rfl) (fun _ => by go_simp) (fun w' hC' _ => bool_loose (lives_any w' (HTB.out.grow (HGF.out.of_below hC')))) ?_
      rintro _ ⟨_, _, rfl⟩
      refine ⟨?_, ?_, ?_⟩
      rotate_left
      · go_simp
        rfl
      iterate 2 ((with_reducible refine loose_one (v := ?_) (a' := ?_) ?_ ?_ (fun w' hC' hG' => ?_) ?_ ?_); rotate_left 2; (focus rfl); (focus rfl); (focus (obtain ⟨x0, x1, y0, y1⟩ := HX.out w' hC'; clear hC' hG'; go_simp; rfl)); (focus (go_simp; rfl)))
      refine loose_done (fun w' hC' hG' => ?_)
      clear hG'
      have hC2 := HGF.out.of_below hC'
      go_wp2_with fail
      go_ret
      exact ⟨rfl, hC2⟩
    · rw [smallI_f hsb]
      go_wp2_with fail
      refine (lives_any _ (HTB.out.grow HG2.out)).mono ?_
      rintro e w3 ⟨rfl, g3⟩
      have hC2 := HG2.out.of_below g3
      go_wp2_with fail
      go_ret
      exact ⟨rfl, hC2⟩
  · rw [smallI_f hsa]
    go_wp2_with fail
    refine (lives_any _ (HTB.out.grow HG1.out)).mono ?_
    rintro e w3 ⟨rfl, g3⟩
    have hC2 := HG1.out.of_below g3
    go_wp2_with fail
    go_ret
    exact ⟨rfl, hC2⟩

end Go.Proofs.YtaegolkoinjmoaaDoor
