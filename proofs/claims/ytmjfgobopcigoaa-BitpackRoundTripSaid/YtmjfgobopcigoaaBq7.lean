/-
  The law's 'lives': its sample results come out true in every world; nothing that was there is changed.
-/
import Derived.Test.YtmjfgobopcigoaaBp4
import Derived.Test.YtmjfgobopcigoaaBp5
namespace Go.Proofs.Ytmjfgobopcigoaa
open Go.RowKit
set_option linter.unusedVariables false
set_option linter.unusedSimpArgs false

theorem live_pack : packI [5, 1, 7] 3 = [205, 1] := by decide
theorem live_un1 : unpI [205, 1] 3 3 = [5, 1, 7] := by decide
theorem live_ue1 : unE [205, 1] 3 3 = 0 := by decide
theorem live_ue2 : unE [205, 3] 3 3 = 4 := by decide
theorem live_ue3 : unE [205] 3 3 = 2 := by decide
theorem live_ue4 : unE [] 1 65 = 1 := by decide
theorem live_same : sameN [5, 1, 7] [5, 1, 7] = true := by decide
theorem live_s1 : sizeI 3 3 = 2 := by decide
theorem live_s2 : sizeI (-1) 3 = 0 := by decide
theorem live_wid : widL [255, 1] = 8 := by decide
theorem live_at1 : atB [205, 1] 2 3 = 7 := by decide
theorem live_at2 : atB [205, 1] 5 3 = 0 := by decide
theorem live_u1 : U64 [5, 1, 7] := by intro x hx; simp at hx; omega
theorem live_u2 : U64 [255, 1] := by intro x hx; simp at hx; omega
theorem grow1 {w : World} (o : Obj) : Grows w (w.alloc o) := (Below.refl _ _).alloc (Nat.le_refl _) _
theorem isW_new (w : World) (l : List Nat) (cs : Array Value) (n : Nat) (h : cs = (wcells l).toArray) (hn : n = l.length) : IsW (w.alloc (.cells cs 35)) (.slice (some ⟨w.heap.size, 0, none⟩) n n) l :=
  Reads.of_row (Row.new w 35 cs (wcells l) h) n n (by rw [wcells_length]; exact hn) (Nat.le_refl _)
theorem isB_new (w : World) (l : List UInt8) (cs : Array Value) (n : Nat) (h : cs = (bcells l).toArray) (hn : n = l.length) : IsBytes (w.alloc (.cells cs 5)) (.slice (some ⟨w.heap.size, 0, none⟩) n n) l :=
  IsBytes.of_row (Row.new w 5 cs (bcells l) h) n n hn
theorem conv_str {w : World} {v : Value} {l : List UInt8} (h : IsBytes w v l) : (convert 26 9 v).run Try.prog w = .ok (.string (strOf l)) w :=
  run_string_bytes h _ _ Try.underlying26 Try.underlying5 _ Try.underlying9
set_option maxRecDepth 8000 in
set_option maxHeartbeats 4000000 in
theorem lives_any (w : World) : Calls Try.prog 8 #[] w fun e w' => e = .returned (.bool true) ∧ Grows w w' := by
  go_enter Try.func8, Try.ntmps8
  go_wp2_with fail
  refine (pack_any _ [5, 1, 7] 3 _ (isW_new w [5, 1, 7] _ 3 rfl rfl) live_u1 (by decide)).mono ?_
  rintro e w1 ⟨v1, rfl, g1, hb1⟩
  rw [live_pack] at hb1
  have HB1 := hidden hb1
  obtain ⟨A1, c1, rfl, _⟩ := hb1
  have HG1 := hidden ((grow1 _).of_below g1)
  clear g1
  go_wp2_with fail
  refine (unpack_any _ 2 [205, 1] 3 3 _ (isB_new w1 [205, 1] _ 2 rfl rfl) (by decide)).mono ?_
  rintro e w2 ⟨v2, rfl, g2, hw2⟩
  rw [live_un1] at hw2
  rw [live_ue1]
  have HW2 := hidden hw2
  have HG2 := hidden ((grow1 _).of_below g2)
  clear g2 hw2
  go_wp2_with fail
  refine (unpack_any _ 2 [205, 3] 3 3 _ (isB_new w2 [205, 3] _ 2 rfl rfl) (by decide)).mono ?_
  rintro e w3 ⟨v3, rfl, g3, _⟩
  rw [live_ue2]
  have HG3 := hidden ((grow1 _).of_below g3)
  clear g3
  go_wp2_with fail
  refine (unpack_any _ 1 [205] 3 3 _ (isB_new w3 [205] _ 1 rfl rfl) (by decide)).mono ?_
  rintro e w4 ⟨v4, rfl, g4, _⟩
  rw [live_ue3]
  have HG4 := hidden ((grow1 _).of_below g4)
  clear g4
  go_wp2_with fail
  refine (unpack_any none 0 [] 1 65 w4 (IsBytes.nil_ _) (by decide)).mono ?_
  rintro e w5 ⟨v5, rfl, g5, _⟩
  rw [live_ue4]
  have HG5 := hidden g5
  clear g5
  have HG25 := hidden (((HG3.out.of_below HG4.out).of_below HG5.out))
  have HG15 := hidden (HG2.out.of_below HG25.out)
  have HG05 := hidden (HG1.out.of_below HG15.out)
  have hc : (convert 26 9 (.slice A1 2 c1)).run Try.prog w5 = .ok (.string ⟨#[205, 1]⟩) w5 := conv_str (HB1.out.grow HG15.out)
  go_wp2_with fail
  refine (equal_any _ _ [5, 1, 7] [5, 1, 7] _ ((HW2.out.grow HG25.out).grow (grow1 _)) (isW_new w5 [5, 1, 7] _ 3 rfl rfl) (by decide) (by decide)).mono ?_
  rintro e w6 ⟨rfl, g6⟩
  rw [live_same]
  have HG6 := hidden ((grow1 _).of_below g6)
  clear g6 hc
  go_wp2_with fail
  refine (size_any 3 3 w6).mono ?_
  rintro e w7 ⟨rfl, rfl⟩
  rw [live_s1]
  go_wp2_with fail
  refine (size_any (-1) 3 w6).mono ?_
  rintro e w7 ⟨rfl, rfl⟩
  rw [live_s2]
  go_wp2_with fail
  refine (width_any _ [255, 1] _ (isW_new w6 [255, 1] _ 2 rfl rfl) live_u2 (by decide)).mono ?_
  rintro e w7 ⟨rfl, rfl⟩
  rw [live_wid]
  have HB6 := hidden ((HB1.out.grow (HG15.out.of_below HG6.out)).grow (grow1 (.cells #[.int .u64 255, .int .u64 1] 35)))
  go_wp2_with fail
  refine (at_any A1 c1 [205, 1] 2 3 _ HB6.out (by decide)).mono ?_
  rintro e w7 ⟨rfl, rfl⟩
  rw [live_at1]
  go_wp2_with fail
  refine (at_any A1 c1 [205, 1] 5 3 _ HB6.out (by decide)).mono ?_
  rintro e w7 ⟨rfl, rfl⟩
  rw [live_at2]
  go_wp2_with fail
  go_ret
  exact ⟨rfl, (HG05.out.of_below HG6.out).of_below (grow1 _)⟩
end Go.Proofs.Ytmjfgobopcigoaa
