/-
  The laws' own check of the chapter's examples ('awake') returns true; nothing that was there is changed. No condition.
-/
import Derived.Test.YtkcgjhmllmkmlaaEnc
import Derived.Test.YtkcgjhmllmkmlaaDec
import Derived.Test.YtkcgjhmllmkmlaaZig
namespace Go.Proofs.Ytkcgjhmllmkmlaa
open Go.RowKit

theorem enc300 : enc 300 = [172, 2] := by decide
theorem dcd300 : dcd [172, 2] 0 = (300, 2, 0) := by decide
theorem dcd128 : dcd [128, 0] 0 = (0, 0, 4) := by decide
theorem zzm1 : zz (-1) = 1 := by decide
theorem uz1 : uz 1 = -1 := by decide

theorem encode300 (w : World) : Calls Try.prog 13 #[.int .u64 300] w fun e w' => ∃ b off c, e = .returned (.slice (some ⟨b, off, none⟩) 2 c) ∧ Below w.heap.size w w' ∧
    (∀ W, Grows w' W → W.cell? ⟨b, off + 0, none⟩ = some (.int .u8 172) ∧ W.cell? ⟨b, off + 1, none⟩ = some (.int .u8 2)) := by
  refine (encode_any 300 w (by decide) (by decide)).mono ?_
  rintro e w' ⟨v, rfl, hown, hb⟩
  rw [show (300 : Int).toNat = 300 from rfl, enc300] at hown
  have hby := IsBytes.of_own hown
  obtain ⟨A, c, rfl, hc⟩ := hby
  obtain ⟨b, off, rfl, hcell⟩ := hc (by decide)
  refine ⟨b, off, c, rfl, hb, fun W hW => ⟨?_, ?_⟩⟩
  · have h1 := hcell 0 (by decide)
    rw [hW.cell (World.block_lt_of_cell? _ _ h1), h1]; rfl
  · have h1 := hcell 1 (by decide)
    rw [hW.cell (World.block_lt_of_cell? _ _ h1), h1]; rfl

theorem decode300 (v : Value) (w : World) (hv : IsBytes w v [172, 2]) : Calls Try.prog 19 #[v, .int .i64 0] w fun e w' => e = .returned (.tuple #[.int .u64 300, .int .i64 2, .int .i64 0]) ∧ w = w' := by
  have h := decode_any v [172, 2] 0 w hv (by decide) (by decide) (by decide)
  rw [dcd300] at h
  exact h
theorem decode128 (v : Value) (w : World) (hv : IsBytes w v [128, 0]) : Calls Try.prog 19 #[v, .int .i64 0] w fun e w' => e = .returned (.tuple #[.int .u64 0, .int .i64 0, .int .i64 4]) ∧ w = w' := by
  have h := decode_any v [128, 0] 0 w hv (by decide) (by decide) (by decide)
  rw [dcd128] at h
  exact h
theorem zigzagm1 (w : World) : Calls Try.prog 21 #[.int .i64 (-1)] w fun e w' => e = .returned (.int .u64 1) ∧ w = w' := by
  have h := zigzag_any (-1) w (by decide) (by decide)
  rw [zzm1] at h
  exact h
theorem unzigzag1 (w : World) : Calls Try.prog 23 #[.int .u64 1] w fun e w' => e = .returned (.int .i64 (-1)) ∧ w = w' := by
  have h := unzigzag_any 1 w (by decide) (by decide)
  rw [uz1] at h
  exact h

def Cells2 (w1 : World) (b off : Nat) : Prop := ∀ W, Grows w1 W → W.cell? ⟨b, off + 0, none⟩ = some (.int .u8 172) ∧ W.cell? ⟨b, off + 1, none⟩ = some (.int .u8 2)

set_option maxHeartbeats 400000 in
theorem awake_any (w : World) : Calls Try.prog 12 #[] w fun e w' => e = .returned (.bool true) ∧ Below w.heap.size w w' := by
  go_enter Try.func12, Try.ntmps12
  go_wp2_with fail
  refine (encode300 _).mono ?_
  rintro e w1 ⟨b, off, c, rfl, hb1, hcells⟩
  have HC : Cells2 w1 b off := hcells
  clear hcells
  go_wp2_with fail
  refine (decode300 _ _ (IsBytes.of_row (Row.at_ w1 5 _ (bcells [172, 2]) rfl _ rfl) 2 2 rfl)).mono ?_
  rintro e w' ⟨rfl, rfl⟩
  go_wp2_with fail
  refine (decode128 _ _ (IsBytes.of_row (Row.at_ (w1.alloc _) 5 _ (bcells [128, 0]) rfl _ (by simp)) 2 2 rfl)).mono ?_
  rintro e w' ⟨rfl, rfl⟩
  have hc0 := fun o1 o2 => (HC ((w1.alloc o1).alloc o2) (((Below.refl _ _).alloc (Nat.le_refl _) _).alloc (by simp) _)).1
  have hc1 := fun o1 o2 => (HC ((w1.alloc o1).alloc o2) (((Below.refl _ _).alloc (Nat.le_refl _) _).alloc (by simp) _)).2
  simp only [Nat.add_zero] at hc0
  go_wp2_with (first | (go_at_call 21; refine (zigzagm1 _).mono ?_; rintro e w' ⟨rfl, rfl⟩) | (go_at_call 23; refine (unzigzag1 _).mono ?_; rintro e w' ⟨rfl, rfl⟩))
  go_ret
  exact ⟨rfl, (hb1.alloc hb1.size _).alloc (by have := hb1.size; simp; omega) _⟩

end Go.Proofs.Ytkcgjhmllmkmlaa
