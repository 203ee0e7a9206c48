/-
  Package delta as it landed: Differences, PrefixSums, validOrder, leadingCount. Nothing that was there is changed.
-/
import Derived.Test.YtjjeebaelpgjlaaDr1
import Derived.Test.YtjjeebaelpgjlaaFs7
namespace Go.Proofs.Ytjjeebaelpgjlaa
open Go.RowKit
set_option linter.unusedVariables false
set_option linter.unusedSimpArgs false

def DfRel (w : World) (g : Nat) (D : List Int) (i : Value) (wr : World) : Prop :=
  ∃ k : Nat, k ≤ D.length ∧ i = .int .i64 (k : Int) ∧ Row wr g 2 (icells (laidI D k)) ∧ Below w.heap.size w wr
set_option maxRecDepth 20000 in
set_option maxHeartbeats 4000000 in
theorem diff_any (v : Value) (l : List Int) (w : World) (hv : IsI w v l) (hl : l.length ≤ 1000000) :
    Calls Try.prog 10 #[v] w (InR (dfL l) w) := by
  have HV := hidden hv
  obtain ⟨A, c, rfl⟩ := hv.slice_
  have HDL := hidden (dfL_length l)
  have HDG : Hid (∀ k, (h : k + 1 < l.length) → (h2 : k < (dfL l).length) → (dfL l)[k] = IntKind.i64.wrap (l[k + 1] - l[k])) := fun k h h2 => dfL_get h h2
  clear hv
  generalize dfL l = D at *
  obtain ⟨N, hN⟩ : ∃ N, N = D.length := ⟨_, rfl⟩
  have hmx : max (0 : Int) ((l.length : Int) - 1) = (N : Int) := by have := HDL.out; omega
  have hNl : N ≤ 1000000 := by have := HDL.out; omega
  have hmi := fun W' => run_make_one (P := Try.prog) 22 2 (.int .i64 0) 8 Try.underlying22 info_i64 rfl N (by omega) (by omega) W'
  have hr9 := Row.at_ w 2 (List.replicate N (.int .i64 0)).toArray (icells (laidI D 0)) (by
    unfold laidI
    rw [List.take_zero, List.nil_append, Nat.sub_zero, ← hN, ← icells_zero]) w.heap.size rfl
  have HR9 := hidden hr9
  have HB9 := hidden ((Below.refl w.heap.size w).alloc (Nat.le_refl _) (.cells (List.replicate N (.int .i64 0)).toArray 2))
  have HN := hidden hN
  clear hr9 hN
  go_enter Try.func10, Try.ntmps10
  go_wp2_with fail
  clear hmi hmx
  go_loopw [12] (fun i wr => DfRel w w.heap.size D i wr) (fun i _ => N - (intOf i).toNat)
  case atStart => exact ⟨0, by omega, rfl, HR9.out, HB9.out⟩
  case round =>
    obtain ⟨k, hk, rfl, hrow, hbw⟩ := hrel
    have HB := hidden hbw
    have HR := hidden hrow
    clear hrow hbw HR9 HB9
    have hN := HN.out
    by_cases hlt : k < N
    · have hkl1 : k + 1 < l.length := by have := HDL.out; omega
      obtain ⟨b, f, rfl, hck⟩ := (HV.out.grow HB.out).at_ hkl1
      obtain ⟨b', f', he, hck0⟩ := (HV.out.grow HB.out).at_ (show k < l.length by omega)
      injection he with he
      injection he with e1 e2 e3
      subst e1 e2
      have hkd : k < D.length := by omega
      have hdg := HDG.out k hkl1 hkd
      have HLS := hidden (laidI_set D hkd)
      rw [hdg] at HLS
      have HX : Hid (∀ w', Grows wr w' → w'.cell? ⟨b, f + (k + 1), none⟩ = some (.int .i64 l[k + 1]) ∧ w'.cell? ⟨b, f + k, none⟩ = some (.int .i64 l[k])) := fun w' h =>
        ⟨(h.cell (World.block_lt_of_cell? _ _ hck)).trans hck, (h.cell (World.block_lt_of_cell? _ _ hck0)).trans hck0⟩
      have hll : (laidI D k).length = D.length := laidI_length D hk
      generalize hy1 : l[k + 1] = y1 at *
      generalize hy0 : l[k] = y0 at *
      obtain ⟨z, hz⟩ : ∃ z, IntKind.i64.wrap (y1 - y0) = z := ⟨_, rfl⟩
      rw [hz] at HLS
      have hwk : IntKind.i64.wrap (k : Int) = (k : Int) := by rw [IntKind.wrap_i64]; omega
      have hwk1 : IntKind.i64.wrap ((k : Int) + 1) = (k : Int) + 1 := by rw [IntKind.wrap_i64]; omega
      have hkl : k < l.length := by omega
      have hk10 : (0 : Int) ≤ (k : Int) + 1 := by omega
      have hk11 : (k : Int) + 1 < (l.length : Int) := by omega
      have HKD := hidden hkd
      clear hdg hck hck0 hy1 hy0 hN hkd
      go_wp2_with fail
      refine wp_region_loose_tail 13 (tabRs []) (by kernel_rfl) (by kernel_rfl) tabRs_nil ?_
      simp only [List.take_succ_cons, List.take_zero, List.drop_succ_cons, List.drop_zero]
      iterate 13 ((with_reducible refine loose_one (v := ?_) (a' := ?_) ?_ ?_ (fun w' hC' hG' => ?_) ?_ ?_); rotate_left 2; (focus rfl); (focus rfl); (focus (obtain ⟨x0, x1⟩ := HX.out w' hC'; clear hC' hG'; go_simp; rfl)); (focus (go_simp; rfl)))
      refine loose_done (fun w11 hC' hG' => ?_)
      clear hG'
      have r11 := Row.grow HR.out hC'
      obtain ⟨y11, hy11⟩ : ∃ y11 : Int, w11.cell? ⟨w.heap.size, k, none⟩ = some (.int .i64 y11) := ⟨_, by rw [r11.cell k, icells_get (by rw [hll]; exact HKD.out)]⟩
      have fz11 := r11.frozen k
      have r12 := r11.set_ k (.int .i64 z)
      rw [icells_set, HLS.out] at r12
      have b12 := (Grows.of_below HB.out hC').setCell (p := ⟨w.heap.size, k, none⟩) (Nat.le_refl _) (.int .i64 z)
      have R12 := hidden r12
      have B12 := hidden b12
      clear r11 r12 b12 hC' hll
      go_wp2_with fail
      refine ⟨⟨k + 1, by have := HKD.out; omega, by go_num, R12.out, B12.out⟩, by simp [intOf]; omega⟩
    · have hke : k = D.length := by omega
      have HRV := HR.out
      rw [hke, laidI_done] at HRV
      have HIV : Hid (wr.ownsRow w.heap.size 2 1 (.slice (some ⟨w.heap.size, 0, none⟩) N N) D.length (icells D)) := by
        have h := Row.own HRV (Nat.le_refl _) (by unfold maxLen; rw [icells_length]; omega)
        rw [icells_length] at h
        rw [hN]
        exact h
      clear hke HRV hN
      go_wp2_with fail
      go_ret
      exact ⟨_, rfl, HB.out, HIV.out⟩
theorem run_make_room_i (N : Nat) (hN : N ≤ 1000001) (W : World) :
    (Instr.makeSlice 22 (.int .i64 0) (.int .i64 (N : Int))).run Try.prog W = .ok (.slice (some ⟨W.heap.size, 0, none⟩) 0 N) (W.alloc (.cells (madeCells #[.int .i64 0] N) 2)) := by
  obtain ⟨i0, hi, hz0, hz1, hz2⟩ := info_parts info_i64
  have hbs : (i0.bytes : Int) * (N : Int) ≤ 281474976710656 := by rw [hz2]; omega
  have h := run_make (P := Try.prog) W 22 2 i0 (.int .i64 0) Try.underlying22 hi hz0 .i64 .i64 0 (N : Int) (by omega) (by omega) hbs (by omega)
  rw [hz1] at h
  simpa [Value.cells] using h
theorem own_room_i (w : World) (N : Nat) (hN : N ≤ 1000001) : (w.alloc (.cells (madeCells #[Value.int .i64 0] N) 2)).ownsRow w.heap.size 2 1 (.slice (some ⟨w.heap.size, 0, none⟩) 0 N) ([] : List Int).length (icells []) := by
  refine ⟨rfl, .inr ⟨w.heap.size, N, madeCells #[Value.int .i64 0] N, rfl, Nat.le_refl _, by show (w.heap.push _)[w.heap.size]? = _; simp, Nat.zero_le _, by unfold maxLen; omega, ?_, by simp [icells]⟩⟩
  have h : (madeCells #[Value.int .i64 0] N).toList.length = N := by rw [toList_madeCells_one]; simp
  rw [Array.length_toList] at h
  omega
def PsRel (w : World) (f : Int) (ds : List Int) (o i : Value) (wr : World) : Prop :=
  ∃ k : Nat, k ≤ ds.length ∧ i = .int .i64 (k : Int) ∧ wr.ownsRow w.heap.size 2 1 o (psL f (ds.take k)).length (icells (psL f (ds.take k))) ∧ Below w.heap.size w wr
set_option maxRecDepth 20000 in
set_option maxHeartbeats 4000000 in
theorem ps_any (x : Int) (v : Value) (l : List Int) (w : World) (hv : IsI w v l) (hl : l.length ≤ 1000000) :
    Calls Try.prog 12 #[.int .i64 x, v] w (InR (psL x l) w) := by
  have HV := hidden hv
  obtain ⟨A, c, rfl⟩ := hv.slice_
  have hmr : ∀ W' : World, (Instr.makeSlice 22 (.int .i64 0) (.int .i64 ((l.length : Int) + 1))).run Try.prog W' = .ok (.slice (some ⟨W'.heap.size, 0, none⟩) 0 (l.length + 1)) (W'.alloc (.cells (madeCells #[.int .i64 0] (l.length + 1)) 2)) := fun W' => run_make_room_i (l.length + 1) (by omega) W'
  have hs1 := World.size_alloc w (.cells (madeCells #[.int .i64 0] (l.length + 1)) 2)
  have HI0 : Hid (IsI ((w.alloc (.cells (madeCells #[.int .i64 0] (l.length + 1)) 2)).alloc (.cells #[.int .i64 x] 2)) (.slice (some ⟨w.heap.size + 1, 0, none⟩) 1 1) [x]) := by
    have h := isI_one (w.alloc (.cells (madeCells #[.int .i64 0] (l.length + 1)) 2)) x
    rw [hs1] at h
    exact h
  have HO0 := hidden ((own_room_i w (l.length + 1) (by omega)).alloc (.cells #[.int .i64 x] 2))
  have HB0 := hidden (((Below.refl w.heap.size w).alloc (Nat.le_refl _) (.cells (madeCells #[.int .i64 0] (l.length + 1)) 2)).alloc (by rw [hs1]; omega) (.cells #[.int .i64 x] 2))
  clear hs1
  have hwl : IntKind.i64.wrap ((l.length : Int) + 1) = (l.length : Int) + 1 := by rw [IntKind.wrap_i64]; omega
  clear hv
  go_enter Try.func12, Try.ntmps12
  go_wp2_with (at_builtin; go_loud (refine wpList_append_il rfl _ _ rfl _ [] (by rfl) w.heap.size HO0.out w HB0.out HB0.out.size _ [x] (by rfl) HI0.out (by simp) ?_); intro v3 w3 hown3 hb3 hk3; have HO3 := hidden hown3; have HB3 := hidden hb3; clear hown3 hb3 hk3)
  go_loopw [5, 18] (fun o i wr => PsRel w x l o i wr) (fun _ i _ => l.length - (intOf i).toNat)
  case atStart => exact ⟨0, by omega, rfl, HO3.out, HB3.out⟩
  case round =>
    obtain ⟨k, hk, rfl, hown, hbw⟩ := hrel
    have HB := hidden hbw
    have HO := hidden hown
    clear hown hbw HO0 HB0 HO3 HB3 HI0 hmr hwl
    have HSL := hidden (show (psL x (l.take k)).length = k + 1 by rw [psL_length, List.length_take]; omega)
    obtain ⟨A5, c5, rfl⟩ := own_ni9 HO.out
    by_cases hlt : k < l.length
    · have HI5 := hidden (show IsI wr _ _ from Reads.of_own HO.out)
      obtain ⟨b, f, rfl, hck⟩ := (HV.out.grow HB.out).at_ hlt
      obtain ⟨b5, f5, rfl, hck5⟩ := HI5.out.at_ (show k < (psL x (l.take k)).length by rw [HSL.out]; omega)
      have hps := psL_at hk x
      rw [List.getElem?_eq_getElem (by rw [HSL.out]; omega)] at hps
      injection hps with hps
      rw [hps] at hck5
      have HTD := hidden (psL_take hlt x)
      have hsl := HSL.out
      generalize hy : l[k] = y at *
      generalize lastS x (l.take k) = s at *
      generalize psL x (l.take k) = ps at *
      obtain ⟨z, hz⟩ : ∃ z, IntKind.i64.wrap (s + y) = z := ⟨_, rfl⟩
      rw [hz] at HTD
      obtain ⟨m, hm⟩ : ∃ m, m = ps.length := ⟨_, rfl⟩
      have HM := hidden hm
      have hkm : k < m := by omega
      have hml : m ≤ 1000001 := by omega
      have hsz := HB.out.size
      rw [← hm] at HO ⊢
      clear hps hy hsl HSL hm HI5
      go_wp2_with (at_builtin; go_loud (refine wpList_append_ik rfl _ _ rfl _ ps (by rfl) w.heap.size (by first | exact HO.out | (rw [← HM.out]; exact HO.out)) w HB.out hsz z (by rfl) (by have := HM.out; omega) ?_); intro v3 w3 hown3 hb3 hk3; have HO3 := hidden hown3; have HB3 := hidden hb3; clear hown3 hb3 hk3)
      refine ⟨⟨k + 1, by omega, by go_num, ?_, HB3.out⟩, by simp [intOf]; omega⟩
      rw [HTD.out]
      exact HO3.out
    · have hke : k = l.length := by omega
      rw [hke, List.take_length] at HO HSL ⊢
      clear hke
      go_wp2_with fail
      go_ret
      exact ⟨_, rfl, HB.out, HO.out⟩
theorem validOrder_any (k n : Int) (w : World) : Calls Try.prog 24 #[.int .i64 k, .int .i64 n] w fun e w' => e = .returned (.bool (decide (k = 1 ∨ (k = 2 ∧ 2 ≤ n)))) ∧ w = w' := by
  go_enter Try.func24, Try.ntmps24
  by_cases h1 : k = 1
  · subst h1
    go_wp2_with fail
    go_ret
    exact ⟨retB (by simp), rfl⟩
  · have e1 : (k == 1) = false := by simpa using h1
    by_cases h2 : k = 2
    · subst h2
      go_wp2_with fail
      go_ret
      exact ⟨retB (by simp), rfl⟩
    · have e2 : (k == 2) = false := by simpa using h2
      go_wp2_with fail
      go_ret
      exact ⟨retB (by simp [h1, h2]), rfl⟩
theorem leadingCount_any (k n : Int) (w : World) : Calls Try.prog 26 #[.int .i64 k, .int .i64 n] w fun e w' => e = .returned (.int .i64 (min k n)) ∧ w = w' := by
  go_enter Try.func26, Try.ntmps26
  go_wp2_with fail
  go_ret
  exact ⟨retI (by omega), rfl⟩
end Go.Proofs.Ytjjeebaelpgjlaa
