/-
  Layer 2's laws check the chapter's examples ('awake'): it returns true; nothing that was there is changed. No condition.
-/
import Derived.Test.YtepahejeeajfbaaCk
import Derived.Lib.SlBytesConst
namespace Go.Proofs.Ytepahejeeajfbaa
open Go.RowKit

theorem wf_u32 {z : Int} (h : (Lit.int .u32 z).wf = true) : 0 ≤ z ∧ z < 4294967296 := by
  simp [Lit.wf, IntKind.min, IntKind.max, IntKind.bits, IntKind.signed] at h
  omega
theorem wf_u16 {z : Int} (h : (Lit.int .u16 z).wf = true) : 0 ≤ z ∧ z < 65536 := by
  simp [Lit.wf, IntKind.min, IntKind.max, IntKind.bits, IntKind.signed] at h
  omega

def nine : List UInt8 := [49, 50, 51, 52, 53, 54, 55, 56, 57]
theorem crc9 : crcParts [nine] = 3808858755 := by decide +kernel
theorem crc0 : crcParts [] = 0 := by decide +kernel
theorem open3 : openOf [1, 2, 3] = ([], 2) := by decide
theorem seal0 : sealOf [] = [0, 0, 0, 0] := by decide +kernel
theorem mix1 : ((mix 1 : Nat) : Int) ≠ 0 := by
  have h : mix 1 ≠ 0 := by decide +kernel
  omega
theorem hash5 : hashOf 5 [] = mix 5 := by
  have h : (5 : Nat) ^^^ ([] : List UInt8).length = 5 := by decide
  unfold hashOf
  rw [h]; rfl

theorem seal0_any (w : World) : Calls Try.prog 15 #[.slice none 0 0] w fun e w' => ∃ b off c, e = .returned (.slice (some ⟨b, off, none⟩) 4 c) ∧ Below w.heap.size w w' ∧
    (∀ W, Grows w' W → W.cell? ⟨b, off + 0, none⟩ = some (.int .u8 0) ∧ W.cell? ⟨b, off + 3, none⟩ = some (.int .u8 0)) := by
  refine (ck_seal _ [] w (IsBytes.nil_ w) (by simp)).mono ?_
  rintro e w' ⟨v, rfl, hown, hb⟩
  rw [seal0] at hown
  obtain ⟨A, c, rfl, hc⟩ := IsBytes.of_own hown
  obtain ⟨b, off, rfl, hcell⟩ := hc (by decide)
  refine ⟨b, off, c, rfl, hb, fun W hW => ⟨?_, ?_⟩⟩
  · have h1 := hcell 0 (by decide)
    rw [hW.cell (World.block_lt_of_cell? _ _ h1), h1]; rfl
  · have h1 := hcell 3 (by decide)
    rw [hW.cell (World.block_lt_of_cell? _ _ h1), h1]; rfl

theorem open3_any (v : Value) (w : World) (A : Option Addr) (hve : v = .slice A 3 3) (hv : IsBytes w v [1, 2, 3]) : Calls Try.prog 17 #[v] w fun e w' => ∃ B d, e = .returned (.tuple #[.slice B 0 d, .int .i64 2]) ∧ Grows w w' := by
  subst hve
  have h := ck_open A 3 [1, 2, 3] w hv (by simp) (by simp)
  rw [open3] at h
  exact h.mono fun _ _ ⟨B, d, he, _, hg⟩ => ⟨B, d, he, hg⟩

theorem IsBytes.marked (W : World) (e : TypeId) (C : Array Value) (m : Nat × Nat) (l : List UInt8) (n c : Nat) (hC : C = (bcells l).toArray) (hn : n = l.length) : IsBytes (W.alloc (.cells C e m)) (.slice (some ⟨W.heap.size, 0, none⟩) n c) l := by
  subst hC; subst hn
  refine ⟨_, c, rfl, fun _ => ⟨W.heap.size, 0, rfl, fun j hj => ?_⟩⟩
  rw [World.cell?_alloc_mark]
  simp [bcells, hj]

def Zeros (w1 : World) (b off : Nat) : Prop := ∀ W, Grows w1 W → W.cell? ⟨b, off + 0, none⟩ = some (.int .u8 0) ∧ W.cell? ⟨b, off + 3, none⟩ = some (.int .u8 0)

set_option maxHeartbeats 1000000 in
theorem awake_any (w : World) : Calls Try.prog 9 #[] w fun e w' => e = .returned (.bool true) ∧ Below w.heap.size w w' := by
  have kc := fun (w : World) (C : Array Value) (n c : Nat) => Lib.run_convert_bytes_const (P := Try.prog) w 22 5 C n c Try.underlying22 Try.underlying5
  go_enter Try.func9, Try.ntmps9
  go_wp2_with fail
  refine (open3_any _ _ _ rfl (IsBytes.of_row (Row.at_ w 5 _ (bcells [1, 2, 3]) rfl _ rfl) 3 3 rfl)).mono ?_
  rintro e w1 ⟨B, d, rfl, hg1⟩
  have HG1 := hidden (Grows.of_below ((Below.refl _ _).alloc (Nat.le_refl _) _) hg1)
  clear hg1
  go_wp2_with fail
  refine (seal0_any _).mono ?_
  rintro e w2 ⟨b, off, c, rfl, hg2, hz⟩
  have HZ : Zeros w2 b off := hz
  have HG2 := hidden (Grows.of_below HG1.out hg2)
  clear hz hg2
  go_wp2_with fail
  have HP := IsParts.new1 (IsBytes.marked w2 5 _ (9, 10) nine 9 9 rfl rfl) 22 1 (w2.heap.size + 1) (by simp)
  have HW : ∀ c1 c2, Grows w2 ((w2.alloc c1).alloc c2) := fun c1 c2 => ((Below.refl _ _).alloc (Nat.le_refl _) _).alloc (by simp) _
  refine (ck_crc _ [nine] _ HP (by simp) (by simp [nine])).mono ?_
  rintro e w3 ⟨rfl, hg3⟩
  have HG3 := hidden (Grows.of_below (HW _ _) hg3)
  clear HP HW hg3
  rw [crc9]
  go_wp2_with fail
  refine (ck_crc _ [] _ (IsParts.none_ _) (by simp) (by simp)).mono ?_
  rintro e w4 ⟨rfl, hg4⟩
  have HG4 := hidden (Grows.of_below HG3.out hg4)
  have hc0 := (HZ w4 HG4.out).1
  have hc3 := (HZ w4 HG4.out).2
  rw [Nat.add_zero] at hc0
  clear hg4
  rw [crc0]
  go_wp2_with fail
  refine (ck_mix 1 _ (by omega)).mono ?_
  rintro e w5 ⟨rfl, hg5⟩
  have HG5 := hidden (Grows.of_below HG4.out hg5)
  clear hg5 hc0 hc3
  have hm := mix1
  go_wp2_with fail
  refine (ck_hash 5 none 0 [] _ (by omega) (IsBytes.nil_ _) (by simp) (Nat.le_refl _)).mono ?_
  rintro e w6 ⟨rfl, hg6⟩
  have HG6 := hidden (Grows.of_below HG5.out hg6)
  clear hg6
  rw [hash5]
  go_wp2_with fail
  refine (ck_mix 5 _ (by omega)).mono ?_
  rintro e w7 ⟨rfl, hg7⟩
  have HG7 := hidden (Grows.of_below HG6.out hg7)
  clear hg7
  go_wp2_with fail
  go_ret
  exact ⟨rfl, HG2.out.trans (Below.mono HG7.out HG2.out.size)⟩

end Go.Proofs.Ytepahejeeajfbaa
