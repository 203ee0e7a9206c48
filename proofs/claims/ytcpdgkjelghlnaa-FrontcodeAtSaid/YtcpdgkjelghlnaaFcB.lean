/-
  The chapter's examples (awake) hold. Nothing that was there is changed.
-/
import Derived.Test.YtcpdgkjelghlnaaFc7
import Derived.Lib.SlBytesConst
namespace Go.Proofs.Ytcpdgkjelghlnaa
open Go.RowKit
set_option linter.unusedVariables false
set_option linter.unusedSimpArgs false

theorem aw_dec : fcDec [0, 1, 97, 0, 1, 97] 0 2 = ([], 0, 4) := by decide +kernel
theorem aw_enc : fcEnc [[97, 98, 99], [97, 98, 100]] = [0, 3, 97, 98, 99, 2, 1, 100] := by decide +kernel
theorem aw_nil : fcEnc [] = [] := by decide +kernel
theorem aw_cp : cp [97, 98, 99] [97, 98, 100] = 2 := by decide +kernel
theorem IsBytes.marked (W : World) (e : TypeId) (C : Array Value) (m : Nat × Nat) (l : List UInt8) (n c : Nat) (hC : C = (bcells l).toArray) (hn : n = l.length) : IsBytes (W.alloc (.cells C e m)) (.slice (some ⟨W.heap.size, 0, none⟩) n c) l := by
  subst hC; subst hn
  refine ⟨_, c, rfl, fun _ => ⟨W.heap.size, 0, rfl, fun j hj => ?_⟩⟩
  rw [World.cell?_alloc_mark]
  simp [bcells, hj]
theorem two_strs (w : World) (a b : Str) : IsS (w.alloc (.cells #[.string (strOf a), .string (strOf b)] 9)) (.slice (some ⟨w.heap.size, 0, none⟩) 2 2) [a, b] :=
  Reads.of_row (Row.new w 9 _ (scells [a, b]) rfl) 2 2 rfl (Nat.le_refl _)
set_option maxRecDepth 20000 in
set_option maxHeartbeats 8000000 in
theorem awake11_any (w : World) : Calls Try.prog 9 #[] w fun e w' => e = .returned (.bool true) ∧ Grows w w' := by
  have kc := fun (w : World) (C : Array Value) (n c : Nat) => Lib.run_convert_bytes_const (P := Try.prog) w 26 5 C n c Try.underlying26 Try.underlying5
  go_enter Try.func9, Try.ntmps9
  go_wp2_with fail
  refine (fdecode_any (some ⟨w.heap.size, 0, none⟩) 6 [0, 1, 97, 0, 1, 97] 0 2 _ (IsBytes.marked w 5 _ (6, 7) [0, 1, 97, 0, 1, 97] 6 6 rfl rfl) (by decide) (by decide)).mono ?_
  rintro e w1 ⟨v1, rfl, g1, hs1⟩
  rw [aw_dec] at hs1
  obtain ⟨A1, d1, rfl⟩ := hs1.slice_
  rw [aw_dec]
  have HG1 := hidden (show Grows w w1 from Grows.of_below (growA _) g1)
  clear g1 hs1 kc
  go_wp2_with fail
  refine (fencode_any _ [[97, 98, 99], [97, 98, 100]] _ (two_strs w1 [97, 98, 99] [97, 98, 100]) (by decide) (by decide)).mono ?_
  rintro e w2 ⟨v2, rfl, hown2, g2⟩
  rw [aw_enc] at hown2
  have hr := run_string_bytes (P := Try.prog) (IsBytes.of_own hown2) 26 5 Try.underlying26 Try.underlying5 9 Try.underlying9
  have he1 : ((strOf [0, 3, 97, 98, 99, 2, 1, 100]).toList == [0, 3, 97, 98, 99, 2, 1, 100]) = true := by rw [strOf_toList]; rfl
  have HG2 := hidden (Grows.of_below (Grows.of_below HG1.out (growA _)) (show Grows _ w2 from g2))
  generalize strOf [0, 3, 97, 98, 99, 2, 1, 100] = sE at *
  clear hown2 g2
  go_wp2_with fail
  refine (fsize_any (.slice none 0 0) [] _ (Reads.nil_ _ 0) (by decide) (by simp)).mono ?_
  rintro e w3 ⟨rfl, g3⟩
  rw [aw_nil]
  have HG3 := hidden (Grows.of_below HG2.out g3)
  clear g3 hr he1
  go_wp2_with fail
  refine (cp_grow [97, 98, 99] [97, 98, 100] _ (by decide) (by decide)).mono ?_
  rintro e w4 ⟨rfl, g4⟩
  rw [aw_cp]
  have HG4 := hidden (Grows.of_below HG3.out g4)
  clear g4
  go_wp2_with fail
  go_ret
  exact ⟨rfl, HG4.out⟩
end Go.Proofs.Ytcpdgkjelghlnaa
