/-
  The laws' examples: lives returns true. Nothing that was there is changed.
-/
import Derived.Test.YtjjeebaelpgjlaaDs5
namespace Go.Proofs.Ytjjeebaelpgjlaa
open Go.RowKit
set_option linter.unusedVariables false
set_option linter.unusedSimpArgs false

theorem inr_loose {f : FuncId} {args : Array Value} {w : World} {l : List Int} (h : Calls Try.prog f args w (InR l w)) : Calls Try.prog f args w fun e w' => ∃ v, e = .returned v ∧ Grows w w' ∧ IntsV l v w' :=
  h.mono fun _ _ ⟨v, he, hb, hown⟩ => ⟨v, he, hb, Reads.of_own hown⟩
theorem requal_self (va vb : Value) (l : List Int) (w : World) (ha : IsI w va l) (hb : IsI w vb l) (hl : l.length ≤ 1000000) :
    Calls Try.prog 9 #[va, vb] w fun e w' => e = .returned (.bool true) ∧ Grows w w' := by
  have h := requal_any va vb l l w ha hb (by omega) (by omega)
  rw [sameI_self] at h
  exact h
theorem lv_enc : dlEnc [7] = [1, 14, 0, 0, 0] := by decide +kernel
theorem lv_df : dfL [3, 5, 4] = [2, -1] := by decide
theorem lv_ps : psL 3 [2, -1] = [3, 5, 4] := by decide
theorem lv_in7 : ∀ x ∈ ([7] : List Int), frIn x := by unfold frIn; decide
theorem lv_dec : dlDec [1, 14, 0, 0, 0] 0 1 = ([7], 5, 0) := by
  have h := dlDec_enc [] [] (l := [7]) lv_in7 (by decide)
  rw [lv_enc] at h
  exact h
theorem lv_three : dlDec [3] 0 1 = ([], 0, 4) := dlDec_c (by decide) (by decide) (by decide)
theorem lv_nil : dlDec [] 0 0 = ([], 0, 2) := dlDec_b (by decide) (by decide)
theorem lv_neg (b : List UInt8) : dlDec b 0 (-1) = ([], 0, 1) := dlDec_a (by decide)
set_option maxRecDepth 20000 in
set_option maxHeartbeats 8000000 in
theorem lives_any (w : World) : Calls Try.prog 8 #[] w fun e w' => e = .returned (.bool true) ∧ Grows w w' := by
  go_enter Try.func8, Try.ntmps8
  go_wp2_with fail
  refine (enc9c_any _ [7] _ (isI_one w 7) (by decide) lv_in7).mono ?_
  rintro e w1 ⟨A1, c1, rfl, hcc1, hu1, g1⟩
  rw [lv_enc] at hu1 hcc1
  obtain ⟨bb, ff, hA, hc0⟩ := byte_at hu1 (o := 0) (by decide)
  subst hA
  obtain ⟨bb', ff', hA, hc1⟩ := byte_at hu1 (o := 1) (by decide)
  injection hA with hA
  injection hA with e1 e2 e3
  subst e1 e2
  have HU1 := hidden hu1
  have HG1 := hidden (show Grows w w1 from Grows.of_below ((Below.refl w.heap.size w).alloc (Nat.le_refl _) _) g1)
  have HC0 := hidden hc0
  have HC1 := hidden hc1
  have HD1 := hidden (dec9_any (some ⟨bb, ff, none⟩) c1 [1, 14, 0, 0, 0] 0 1 w1 hu1 hcc1 (by decide) (by decide) (by decide))
  have HD2 := hidden (fun w' (h : Grows w1 w') => dec9_any (some ⟨bb, ff, none⟩) c1 [1, 14, 0, 0, 0] 0 (-1) w' (hu1.grow h) hcc1 (by decide) (by decide) (by decide))
  rw [lv_dec] at HD1
  simp only [lv_neg] at HD2
  rw [lv_enc]
  clear hc0 hc1 hu1 hcc1 g1 e3
  go_wp2_with fail
  refine HD1.out.mono ?_
  rintro e w2 ⟨v2, rfl, hi2, g2⟩
  have HI2 := hidden (show IsI w2 v2 [7] from hi2)
  have HG2 := hidden g2
  clear hi2 g2
  go_wp2_with fail
  refine (dec9_any (some ⟨w2.heap.size, 0, none⟩) 1 [3] 0 1 _ (IsBytes.of_row (Row.new w2 5 #[.int .u8 3] (bcells [3]) rfl) 1 1 rfl) (by decide) (by decide) (by decide) (by decide)).mono ?_
  rintro e w3 ⟨v3, rfl, _, g3⟩
  rw [lv_three]
  have HG3 := hidden (Grows.of_below HG2.out (Grows.of_below ((Below.refl w2.heap.size w2).alloc (Nat.le_refl _) _) g3))
  have HI3 := hidden (IsI.grow HI2.out (Grows.of_below ((Below.refl w2.heap.size w2).alloc (Nat.le_refl _) _) g3))
  clear g3
  go_wp2_with fail
  refine (dec9_any none 0 [] 0 0 w3 (IsBytes.nil_ w3) (by decide) (by decide) (by decide) (by decide)).mono ?_
  rintro e w4 ⟨v4, rfl, _, g4⟩
  rw [lv_nil]
  have HG4 := hidden (Grows.of_below HG3.out g4)
  have HI4 := hidden (IsI.grow HI3.out g4)
  clear g4
  go_wp2_with fail
  refine (HD2.out w4 HG4.out).mono ?_
  rintro e w5 ⟨v5, rfl, _, g5⟩
  have HG5 := hidden (Grows.of_below HG4.out g5)
  have HI5 := hidden (IsI.grow HI4.out g5)
  clear g5
  go_wp2_with fail
  refine (diff_any _ [3, 5, 4] _ (Reads.of_row (Row.at_ w5 2 _ (icells [3, 5, 4]) rfl _ rfl) 3 3 rfl (Nat.le_refl _)) (by decide)).mono ?_
  rintro e w6 ⟨v6, rfl, g6, hown6⟩
  rw [lv_df] at hown6
  have HI6 := hidden (show IsI w6 v6 [2, -1] from Reads.of_own hown6)
  have HG6 := hidden (Grows.of_below HG5.out (Grows.of_below ((Below.refl w5.heap.size w5).alloc (Nat.le_refl _) _) g6))
  have HV6 := hidden (IsI.grow HI5.out (Grows.of_below ((Below.refl w5.heap.size w5).alloc (Nat.le_refl _) _) g6))
  clear g6 hown6
  go_wp2_with fail
  refine (requal_any v6 _ [2, -1] [2, -1] _ (IsI.grow HI6.out ((Below.refl w6.heap.size w6).alloc (Nat.le_refl _) _)) (Reads.of_row (Row.at_ w6 2 _ (icells [2, -1]) rfl _ rfl) 2 2 rfl (Nat.le_refl _)) (by decide) (by decide)).mono ?_
  rintro e w7 ⟨rfl, g7⟩
  rw [sameI_self]
  have HG7 := hidden (Grows.of_below HG6.out (Grows.of_below ((Below.refl w6.heap.size w6).alloc (Nat.le_refl _) _) g7))
  have HV7 := hidden (IsI.grow HV6.out (Grows.of_below ((Below.refl w6.heap.size w6).alloc (Nat.le_refl _) _) g7))
  clear g7
  go_wp2_with fail
  refine (ps_any 3 _ [2, -1] _ (Reads.of_row (Row.at_ w7 2 _ (icells [2, -1]) rfl _ rfl) 2 2 rfl (Nat.le_refl _)) (by decide)).mono ?_
  rintro e w8 ⟨v8, rfl, g8, hown8⟩
  rw [lv_ps] at hown8
  have HI8 := hidden (show IsI w8 v8 [3, 5, 4] from Reads.of_own hown8)
  have HG8 := hidden (Grows.of_below HG7.out (Grows.of_below ((Below.refl w7.heap.size w7).alloc (Nat.le_refl _) _) g8))
  have HV8 := hidden (IsI.grow HV7.out (Grows.of_below ((Below.refl w7.heap.size w7).alloc (Nat.le_refl _) _) g8))
  clear g8 hown8
  go_wp2_with fail
  refine (requal_any v8 _ [3, 5, 4] [3, 5, 4] _ (IsI.grow HI8.out ((Below.refl w8.heap.size w8).alloc (Nat.le_refl _) _)) (Reads.of_row (Row.at_ w8 2 _ (icells [3, 5, 4]) rfl _ rfl) 3 3 rfl (Nat.le_refl _)) (by decide) (by decide)).mono ?_
  rintro e w9 ⟨rfl, g9⟩
  rw [sameI_self]
  have HG9 := hidden (Grows.of_below HG8.out (Grows.of_below ((Below.refl w8.heap.size w8).alloc (Nat.le_refl _) _) g9))
  have HV9 := hidden (IsI.grow HV8.out (Grows.of_below ((Below.refl w8.heap.size w8).alloc (Nat.le_refl _) _) g9))
  have hc0 : w9.cell? ⟨bb, ff, none⟩ = some (.int .u8 1) := (HG9.out.cell (World.block_lt_of_cell? _ _ HC0.out)).trans HC0.out
  have hc1 : w9.cell? ⟨bb, ff + 1, none⟩ = some (.int .u8 14) := (HG9.out.cell (World.block_lt_of_cell? _ _ HC1.out)).trans HC1.out
  clear g9
  go_wp2_with fail
  clear hc0 hc1
  refine (size9_any _ [7] _ (isI_one w9 7) (by decide) lv_in7).mono ?_
  rintro e w10 ⟨rfl, g10⟩
  rw [lv_enc]
  have HG10 := hidden (Grows.of_below HG9.out (Grows.of_below ((Below.refl w9.heap.size w9).alloc (Nat.le_refl _) _) g10))
  have HV10 := hidden (IsI.grow HV9.out (Grows.of_below ((Below.refl w9.heap.size w9).alloc (Nat.le_refl _) _) g10))
  clear g10
  go_wp2_with fail
  refine (requal_any v2 _ [7] [7] _ (IsI.grow HV10.out ((Below.refl w10.heap.size w10).alloc (Nat.le_refl _) _)) (isI_one w10 7) (by decide) (by decide)).mono ?_
  rintro e w11 ⟨rfl, g11⟩
  rw [sameI_self]
  have HG11 := hidden (Grows.of_below HG1.out (Grows.of_below HG10.out (Grows.of_below ((Below.refl w10.heap.size w10).alloc (Nat.le_refl _) _) g11)))
  clear g11
  go_wp2_with fail
  go_ret
  exact ⟨rfl, HG11.out⟩
end Go.Proofs.Ytjjeebaelpgjlaa
