/-
  Package value as it landed: sortableInt (varint.Fixed, slices.Reverse over eight bytes). Nothing that was there is changed.
-/
import Derived.Test.YtepnegbopnepfaaDoorVFix
import Derived.RegionTactic
import Derived.ChangeAlike
namespace Go.Proofs.YtepnegbopnepfaaDoor
open Go.RowKit
set_option linter.unusedVariables false
set_option linter.unusedSimpArgs false

/-- the eight bytes of n, the most significant one first -/
def be8 (n : Nat) : List UInt8 := (fixb n 8).reverse
theorem be8_length (n : Nat) : (be8 n).length = 8 := by simp [be8, fixb_length]

set_option maxHeartbeats 400000 in
theorem fixed8_any (x : Int) (w : World) (h0 : 0 ≤ x) (h1 : x ≤ 18446744073709551615) :
    Calls Tryd.prog 46 #[.int .u64 x, .int .i64 8] w fun e w' => e = .returned (.slice (some ⟨w.heap.size, 0, none⟩) 8 8) ∧ Row w' w.heap.size 5 (bcells (fixb x.toNat 8)) ∧ Below w.heap.size w w' := by
  obtain ⟨n, rfl⟩ := Int.eq_ofNat_of_zero_le h0
  rw [Int.toNat_natCast]
  have hmk := run_make_bytes (P := Tryd.prog) 25 5 Tryd.underlying25 info_u8 8 (by omega)
  have e8 : ((8 : Nat) : Int) = 8 := rfl
  rw [e8] at hmk
  clear e8
  have hz := hidden (fixRow_zero n 8)
  go_enter Tryd.func46, Tryd.ntmps46
  go_wp2_with ((go_at_call 58; refine (validSize_t _ _ (by omega) (by omega)).mono ?_; rintro e w' ⟨rfl, rfl⟩))
  clear hmk
  go_loopw [13] (fun i wr => FixRel w n 8 i wr) (fun i _ => 8 - (intOf i).toNat)
  case atStart => exact ⟨0, by omega, rfl, Row.new _ _ _ _ hz.out, (Below.refl _ _).alloc (Nat.le_refl _) _⟩
  case round =>
    obtain ⟨k, hk, rfl, hrow, hnx⟩ := hrel
    by_cases hlt : k < 8
    · have hcell := hrow.cell k
      rw [fixRow_get hlt, if_neg (by omega)] at hcell
      have hfr := hrow.frozen k
      have hor := hidden (fix_byte n k)
      go_wp2
      go_roundw
      case rel =>
        refine ⟨k + 1, by omega, by go_num, ?_, hnx.setCell (Nat.le_refl _) _⟩
        have h1 := hrow.set_ k (.int .u8 ((n / 256 ^ k % 256 : Nat) : Int))
        rw [fixRow_set hlt, ← hor.out] at h1
        exact h1
      case measure => simp [intOf]; omega
    · have hke : k = 8 := by omega
      have hrow' : Row wr w.heap.size 5 (bcells (fixb n 8)) := by have h := hrow; rw [hke, fixRow_done] at h; exact h
      have HO := hidden hrow'
      clear hke hrow hrow'
      go_wp2
      go_ret
      exact ⟨rfl, HO.out, hnx⟩

/-- a row of eight, k pairs from outside in exchanged -/
def rv8 (a b c d e f g h : Int) : Nat → List Value
  | 0 => [.int .u8 a, .int .u8 b, .int .u8 c, .int .u8 d, .int .u8 e, .int .u8 f, .int .u8 g, .int .u8 h]
  | 1 => [.int .u8 h, .int .u8 b, .int .u8 c, .int .u8 d, .int .u8 e, .int .u8 f, .int .u8 g, .int .u8 a]
  | 2 => [.int .u8 h, .int .u8 g, .int .u8 c, .int .u8 d, .int .u8 e, .int .u8 f, .int .u8 b, .int .u8 a]
  | 3 => [.int .u8 h, .int .u8 g, .int .u8 f, .int .u8 d, .int .u8 e, .int .u8 c, .int .u8 b, .int .u8 a]
  | _ => [.int .u8 h, .int .u8 g, .int .u8 f, .int .u8 e, .int .u8 d, .int .u8 c, .int .u8 b, .int .u8 a]
def RevRel (w : World) (n0 m : Nat) (a b c d e f g h : Int) (i j : Value) (wr : World) : Prop :=
  ∃ k : Nat, k ≤ 4 ∧ i = .int .i64 (k : Int) ∧ j = .int .i64 (7 - (k : Int)) ∧ Row wr m 5 (rv8 a b c d e f g h k) ∧ Below n0 w wr
set_option maxHeartbeats 2000000 in
theorem reverse8_at (m n0 : Nat) (hm : n0 ≤ m) (a b c d e f g h : Int) (w : World) (hr : Row w m 5 (rv8 a b c d e f g h 0)) :
    Calls Tryd.prog 47 #[.slice (some ⟨m, 0, none⟩) 8 8] w fun en w' => en = .returned (.tuple #[]) ∧ Row w' m 5 (rv8 a b c d e f g h 4) ∧ Below n0 w w' := by
  go_enter Tryd.func47, Tryd.ntmps47
  go_wp2_with fail
  go_loopw [2, 3] (fun i j wr => RevRel w n0 m a b c d e f g h i j wr) (fun i _ _ => 8 - (intOf i).toNat)
  case atStart => exact ⟨0, by omega, rfl, rfl, hr, Below.refl _ _⟩
  case round =>
    obtain ⟨k, hk, rfl, rfl, hrow, hb⟩ := hrel
    obtain rfl | rfl | rfl | rfl | rfl : k = 0 ∨ k = 1 ∨ k = 2 ∨ k = 3 ∨ k = 4 := by omega
    · have c1 : wr.cell? ⟨m, 0, none⟩ = some (.int .u8 a) := hrow.cell 0
      have c2 : wr.cell? ⟨m, 7, none⟩ = some (.int .u8 h) := hrow.cell 7
      have f1 := hrow.frozen 0
      have f2 := hrow.frozen 7
      have HR := hidden hrow
      have HB := hidden hb
      clear hrow hb hr
      go_wp2_with fail
      go_region
      all_goals go_wp2_with fail
      refine ⟨⟨1, by omega, rfl, rfl, ?_, Below.drew ((HB.out.setCell hm _).setCell hm _)⟩, by simp [intOf]⟩
      have h1 := (HR.out.set_ 0 (.int .u8 h)).set_ 7 (.int .u8 a)
      exact h1
    · have c1 : wr.cell? ⟨m, 1, none⟩ = some (.int .u8 b) := hrow.cell 1
      have c2 : wr.cell? ⟨m, 6, none⟩ = some (.int .u8 g) := hrow.cell 6
      have f1 := hrow.frozen 1
      have f2 := hrow.frozen 6
      have HR := hidden hrow
      have HB := hidden hb
      clear hrow hb hr
      go_wp2_with fail
      go_region
      all_goals go_wp2_with fail
      refine ⟨⟨2, by omega, rfl, rfl, ?_, Below.drew ((HB.out.setCell hm _).setCell hm _)⟩, by simp [intOf]⟩
      have h1 := (HR.out.set_ 1 (.int .u8 g)).set_ 6 (.int .u8 b)
      exact h1
    · have c1 : wr.cell? ⟨m, 2, none⟩ = some (.int .u8 c) := hrow.cell 2
      have c2 : wr.cell? ⟨m, 5, none⟩ = some (.int .u8 f) := hrow.cell 5
      have f1 := hrow.frozen 2
      have f2 := hrow.frozen 5
      have HR := hidden hrow
      have HB := hidden hb
      clear hrow hb hr
      go_wp2_with fail
      go_region
      all_goals go_wp2_with fail
      refine ⟨⟨3, by omega, rfl, rfl, ?_, Below.drew ((HB.out.setCell hm _).setCell hm _)⟩, by simp [intOf]⟩
      have h1 := (HR.out.set_ 2 (.int .u8 f)).set_ 5 (.int .u8 c)
      exact h1
    · have c1 : wr.cell? ⟨m, 3, none⟩ = some (.int .u8 d) := hrow.cell 3
      have c2 : wr.cell? ⟨m, 4, none⟩ = some (.int .u8 e) := hrow.cell 4
      have f1 := hrow.frozen 3
      have f2 := hrow.frozen 4
      have HR := hidden hrow
      have HB := hidden hb
      clear hrow hb hr
      go_wp2_with fail
      go_region
      all_goals go_wp2_with fail
      refine ⟨⟨4, by omega, rfl, rfl, ?_, Below.drew ((HB.out.setCell hm _).setCell hm _)⟩, by simp [intOf]⟩
      have h1 := (HR.out.set_ 3 (.int .u8 e)).set_ 4 (.int .u8 d)
      exact h1
    · have HR := hidden hrow
      have HB := hidden hb
      clear hrow hb hr
      go_wp2_with fail
      go_end0
      exact ⟨rfl, HR.out, HB.out⟩
theorem u64_sum (n : Int) (h1 : -9223372036854775808 ≤ n) (h2 : n < 9223372036854775808) : IntKind.u64.wrap (IntKind.u64.wrap n + 9223372036854775808) = n + 9223372036854775808 := by
  rw [IntKind.wrap_u64, IntKind.wrap_u64]
  omega
theorem bcells_8 (l : List UInt8) (hl : l.length = 8) : ∃ a b c d e f g h : Int, bcells l = rv8 a b c d e f g h 0 ∧ bcells l.reverse = rv8 a b c d e f g h 4 := by
  match l, hl with
  | [a, b, c, d, e, f, g, h], _ => exact ⟨_, _, _, _, _, _, _, _, rfl, rfl⟩
/-- sortableInt: a new slice that reads as the eight bytes of n + 2^63 -/
theorem sortable_any (n : Int) (w : World) (h1 : -9223372036854775808 ≤ n) (h2 : n < 9223372036854775808) :
    Calls Tryd.prog 28 #[.int .i64 n] w (Made (be8 (n + 9223372036854775808).toNat) w) := by
  have hs := u64_sum n h1 h2
  obtain ⟨a, b, c, d, e, f, g, h, e1, e2⟩ := bcells_8 (fixb (n + 9223372036854775808).toNat 8) (fixb_length _ _)
  have HF := hidden (fun w => fixed8_any (n + 9223372036854775808) w (by omega) (by omega))
  rw [e1] at HF
  have HE := hidden (show bcells (be8 (n + 9223372036854775808).toNat) = rv8 a b c d e f g h 4 from e2)
  clear e1 e2
  generalize be8 (n + 9223372036854775808).toNat = B at *
  generalize (n + 9223372036854775808).toNat = N at *
  rw [← hs] at HF
  have HL := hidden (show B.length = 8 by have := congrArg List.length HE.out; rw [bcells_length] at this; exact this)
  clear hs h1 h2
  go_enter Tryd.func28, Tryd.ntmps28
  go_wp2_with fail
  refine (HF.out _).mono ?_
  rintro en w2 ⟨rfl, hr, hb⟩
  have HB := hidden hb
  have HR := hidden hr
  clear hr hb
  go_wp2_with fail
  refine (reverse8_at w.heap.size w.heap.size (Nat.le_refl _) a b c d e f g h _ HR.out).mono ?_
  rintro en w3 ⟨rfl, hr, hb⟩
  have HB2 := hidden (Below.trans HB.out hb)
  have HR2 := hidden hr
  clear hr hb
  go_wp2_with fail
  go_ret
  have h := HR2.out
  rw [← HE.out] at h
  have h3 := h.own (base := w.heap.size) (Nat.le_refl _) (by rw [bcells_length, HL.out]; unfold maxLen; omega)
  rw [bcells_length] at h3
  unfold Made
  rw [HL.out] at h3 ⊢
  exact ⟨_, rfl, h3, HB2.out⟩
end Go.Proofs.YtepnegbopnepfaaDoor
