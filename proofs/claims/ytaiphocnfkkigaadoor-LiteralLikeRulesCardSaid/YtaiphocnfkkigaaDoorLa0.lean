/-
  The laws of layer 5: the chapter's examples ('awake'). Nothing that was there is changed; the listed variables lie as the program's text lays them ('Fit').
-/
import Derived.Test.YtaiphocnfkkigaaDoorLb3
import Derived.Test.YtaiphocnfkkigaaDoorLb5
import Derived.Test.YtaiphocnfkkigaaDoorLitInv
namespace Go.Proofs.YtaiphocnfkkigaaDoor
open Go.RowKit
set_option linter.unusedVariables false
set_option linter.unusedSimpArgs false

theorem fmtI_one : fmtI 1 = [49] := by
  unfold fmtI
  rw [if_neg (by decide), if_neg (by decide)]
  show decP 1 = [49]
  rw [decP_pos (by decide), show (1 : Nat) / 10 = 0 from rfl, decP_zero]
  rfl
def rowEx : List Val := [⟨0, 0, ⟨#[]⟩⟩, ⟨2, 1, ⟨#[]⟩⟩, ⟨3, 0, ⟨#[97]⟩⟩]
theorem rowEx_lit : rowL rowEx = [110, 117, 108, 108, 44, 32, 49, 44, 32, 39, 97, 39] := by
  have e1 : litV ⟨0, 0, ⟨#[]⟩⟩ = [110, 117, 108, 108] := rfl
  have e2 : litV ⟨2, 1, ⟨#[]⟩⟩ = [49] := fmtI_one
  have e3 : litV ⟨3, 0, ⟨#[97]⟩⟩ = [39, 97, 39] := by decide
  unfold rowL rowEx
  rw [List.map_cons, List.map_cons, List.map_cons, List.map_nil, e1, e2, e3]
  decide
theorem rowEx_small : ∀ x ∈ rowEx, smallV x ∧ boolV1 x := by
  intro x hx
  simp only [rowEx, List.mem_cons, List.not_mem_nil, or_false] at hx
  rcases hx with rfl | rfl | rfl <;> exact ⟨⟨⟨by decide, by decide⟩, by decide⟩, fun h => by simp at h⟩
theorem rowEx_reads (w : World) : ReadsV (w.alloc (.cells #[.int .i64 0, .int .i64 0, .string ⟨#[]⟩, .int .i64 2, .int .i64 1, .string ⟨#[]⟩, .int .i64 3, .int .i64 0, .string ⟨#[97]⟩] 37)) (.slice (some ⟨w.heap.size, 0, none⟩) 3 3) rowEx := by
  have hrow := Row.new w 37 #[.int .i64 0, .int .i64 0, .string ⟨#[]⟩, .int .i64 2, .int .i64 1, .string ⟨#[]⟩, .int .i64 3, .int .i64 0, .string ⟨#[97]⟩] [.int .i64 0, .int .i64 0, .string ⟨#[]⟩, .int .i64 2, .int .i64 1, .string ⟨#[]⟩, .int .i64 3, .int .i64 0, .string ⟨#[97]⟩] rfl
  refine ⟨_, 3, rfl, Nat.le_refl _, fun _ => ⟨_, 0, rfl, fun j x hj => ?_⟩⟩
  match j, hj with
  | 0, hj => obtain rfl := (by simpa [rowEx] using hj : _ = x); exact ⟨hrow.cell 0, hrow.cell 1, hrow.cell 2⟩
  | 1, hj => obtain rfl := (by simpa [rowEx] using hj : _ = x); exact ⟨hrow.cell 3, hrow.cell 4, hrow.cell 5⟩
  | 2, hj => obtain rfl := (by simpa [rowEx] using hj : _ = x); exact ⟨hrow.cell 6, hrow.cell 7, hrow.cell 8⟩
  | j + 3, hj => simp [rowEx] at hj
theorem like_ex1 : likeM [97, 37, 99] [97, 98, 99] = true := likeM_eq (b := true) (by
  have h := lkB_LM [97, 37, 99] [97] [] [99] [97, 98, 99] (by decide)
  rw [show lkB [97] [] [99] [97, 98, 99] = true by decide] at h
  exact h)
theorem like_ex2 : likeM [95] [] = false := likeM_eq (b := false) (by
  have h := lk1_LM [95] [95] [] (by decide)
  rw [show (decide (([] : List UInt8).length = ([95] : List UInt8).length) && beg [95] []) = false by decide] at h
  exact h)
set_option maxRecDepth 8000 in
set_option maxHeartbeats 4000000 in
theorem awake_any (w : World) (hf : Fit w) : Calls Tryd.prog 12 #[] w fun e w' => e = .returned (.bool true) ∧ Grows w w' := by
  have P1 : ∀ W, Fit W → Calls Tryd.prog 13 #[.string ⟨#[45, 48]⟩] W fun e w' => e = .returned (.tuple #[.int .i64 0, .int .i64 4]) ∧ Grows W w' := fun W h => by
    have h1 := lparse_any [45, 48] W h (by decide)
    rw [show prsI [45, 48] = (0, 4) by decide] at h1
    exact h1
  have P2 : ∀ W, Fit W → Calls Tryd.prog 13 #[.string ⟨#[57, 50, 50, 51, 51, 55, 50, 48, 51, 54, 56, 53, 52, 55, 55, 53, 56, 48, 56]⟩] W fun e w' => e = .returned (.tuple #[.int .i64 0, .int .i64 6]) ∧ Grows W w' := fun W h => by
    have h1 := lparse_any [57, 50, 50, 51, 51, 55, 50, 48, 51, 54, 56, 53, 52, 55, 55, 53, 56, 48, 56] W h (by decide)
    rw [show prsI [57, 50, 50, 51, 51, 55, 50, 48, 51, 54, 56, 53, 52, 55, 55, 53, 56, 48, 56] = (0, 6) by decide +kernel] at h1
    exact h1
  have P3 : ∀ W, Fit W → Calls Tryd.prog 13 #[.string ⟨#[]⟩] W fun e w' => e = .returned (.tuple #[.int .i64 0, .int .i64 2]) ∧ Grows W w' := fun W h => lparse_any [] W h (by decide)
  have P4 : ∀ W, Fit W → Calls Tryd.prog 17 #[.string ⟨#[39, 97, 39, 98, 39]⟩] W fun e w' => e = .returned (.tuple #[.string ⟨#[]⟩, .int .i64 4]) ∧ Grows W w' := fun W h => by
    have h1 := lunquote_any [39, 97, 39, 98, 39] W h (by decide)
    rw [show unqL [39, 97, 39, 98, 39] = ([], 4) by decide] at h1
    exact h1
  have P5 : ∀ W, Fit W → Calls Tryd.prog 26 #[.slice (some ⟨W.heap.size, 0, none⟩) 3 3] (W.alloc (.cells #[.int .i64 0, .int .i64 0, .string ⟨#[]⟩, .int .i64 2, .int .i64 1, .string ⟨#[]⟩, .int .i64 3, .int .i64 0, .string ⟨#[97]⟩] 37)) fun e w' => e = .returned (.string ⟨#[110, 117, 108, 108, 44, 32, 49, 44, 32, 39, 97, 39]⟩) ∧ Grows W w' := fun W h => by
    have h1 := lformatrow_any _ rowEx _ (h.grow (grow1 _)) (rowEx_reads W) rowEx_small (by decide)
    rw [rowEx_lit] at h1
    exact h1.mono fun e w' ⟨he, hg⟩ => ⟨he, (grow1 _).of_below hg⟩
  have P6 : ∀ W, Calls Tryd.prog 10 #[.string ⟨#[97, 95, 49]⟩] W fun e w' => e = .returned (.bool true) ∧ Grows W w' := fun W => by
    have h1 := lident_any [97, 95, 49] W (by decide)
    rw [show identL [97, 95, 49] = true by decide] at h1
    exact h1
  have P7 : ∀ W, Calls Tryd.prog 10 #[.string ⟨#[49, 97]⟩] W fun e w' => e = .returned (.bool false) ∧ Grows W w' := fun W => by
    have h1 := lident_any [49, 97] W (by decide)
    rw [show identL [49, 97] = false by decide] at h1
    exact h1
  have P8 : ∀ W, Fit W → Calls Tryd.prog 19 #[.string ⟨#[105, 116, 39, 115]⟩] W fun e w' => e = .returned (.string ⟨#[39, 105, 116, 39, 39, 115, 39]⟩) ∧ Grows W w' := fun W h => lquote_any [105, 116, 39, 115] W h (by decide)
  have P9 : ∀ W, Fit W → Calls Tryd.prog 28 #[.string ⟨#[97, 37, 99]⟩, .string ⟨#[97, 98, 99]⟩] W fun e w' => e = .returned (.bool true) ∧ Grows W w' := fun W h => by
    have h1 := llike_any [97, 37, 99] [97, 98, 99] W h (by decide) (by decide)
    rw [like_ex1] at h1
    exact h1
  have P10 : ∀ W, Fit W → Calls Tryd.prog 28 #[.string ⟨#[95]⟩, .string ⟨#[]⟩] W fun e w' => e = .returned (.bool false) ∧ Grows W w' := fun W h => by
    have h1 := llike_any [95] [] W h (by decide) (by decide)
    rw [like_ex2] at h1
    exact h1
  have H1 := hidden P1
  have H2 := hidden P2
  have H3 := hidden P3
  have H4 := hidden P4
  have H5 := hidden P5
  have H6 := hidden P6
  have H7 := hidden P7
  have H8 := hidden P8
  have H9 := hidden P9
  have H10 := hidden P10
  have HF0 := hidden hf
  clear P1 P2 P3 P4 P5 P6 P7 P8 P9 P10 hf
  go_enter Tryd.func12, Tryd.ntmps12
  go_wp2_with (first
    | (go_at_call_of 13 (Value.string (ByteArray.mk #[45, 48])); refine (H1.out _ HF0.out).mono ?_; rintro e w1 ⟨rfl, g1⟩; have HF1 := hidden (HF0.out.grow g1); have HG1 := hidden g1; clear g1)
    | (go_at_call_of 13 (Value.string (ByteArray.mk #[57, 50, 50, 51, 51, 55, 50, 48, 51, 54, 56, 53, 52, 55, 55, 53, 56, 48, 56])); refine (H2.out _ HF1.out).mono ?_; rintro e w2 ⟨rfl, g2⟩; have HF2 := hidden (HF1.out.grow g2); have HG2 := hidden (HG1.out.of_below g2); clear g2)
    | (go_at_call_of 13 (Value.string (ByteArray.mk #[])); refine (H3.out _ HF2.out).mono ?_; rintro e w3 ⟨rfl, g3⟩; have HF3 := hidden (HF2.out.grow g3); have HG3 := hidden (HG2.out.of_below g3); clear g3)
    | (go_at_call 17; refine (H4.out _ HF3.out).mono ?_; rintro e w4 ⟨rfl, g4⟩; have HF4 := hidden (HF3.out.grow g4); have HG4 := hidden (HG3.out.of_below g4); clear g4)
    | (go_at_call 26; refine (H5.out _ HF4.out).mono ?_; rintro e w5 ⟨rfl, g5⟩; have HF5 := hidden (HF4.out.grow g5); have HG5 := hidden (HG4.out.of_below g5); clear g5)
    | (go_at_call_of 10 (Value.string (ByteArray.mk #[97, 95, 49])); refine (H6.out _).mono ?_; rintro e w6 ⟨rfl, g6⟩; have HF6 := hidden (HF5.out.grow g6); have HG6 := hidden (HG5.out.of_below g6); clear g6)
    | (go_at_call_of 10 (Value.string (ByteArray.mk #[49, 97])); refine (H7.out _).mono ?_; rintro e w7 ⟨rfl, g7⟩; have HF7 := hidden (HF6.out.grow g7); have HG7 := hidden (HG6.out.of_below g7); clear g7)
    | (go_at_call 19; refine (H8.out _ HF7.out).mono ?_; rintro e w8 ⟨rfl, g8⟩; have HF8 := hidden (HF7.out.grow g8); have HG8 := hidden (HG7.out.of_below g8); clear g8)
    | (go_at_call_of 28 (Value.string (ByteArray.mk #[97, 37, 99])); refine (H9.out _ HF8.out).mono ?_; rintro e w9 ⟨rfl, g9⟩; have HF9 := hidden (HF8.out.grow g9); have HG9 := hidden (HG8.out.of_below g9); clear g9)
    | (go_at_call_of 28 (Value.string (ByteArray.mk #[95])); refine (H10.out _ HF9.out).mono ?_; rintro e w10 ⟨rfl, g10⟩; have HG10 := hidden (HG9.out.of_below g10); clear g10))
  go_ret
  exact ⟨rfl, HG10.out⟩
end Go.Proofs.YtaiphocnfkkigaaDoor
