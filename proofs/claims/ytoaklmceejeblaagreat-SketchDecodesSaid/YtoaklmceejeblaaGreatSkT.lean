/-
  Shaken: what the claims of this seat need of this text. No condition.
-/
import Derived.Test.YtoaklmceejeblaaGreatSkS
import Derived.Test.YtoaklmceejeblaaGreatM15
import Derived.Test.YtoaklmceejeblaaGreatSqT
namespace Go.Proofs.YtoaklmceejeblaaGreat
open Go.RowKit
set_option linter.unusedVariables false
set_option linter.unusedSimpArgs false
theorem decSk_len (l : List UInt8) (off : Int) : (decSk l off).1.hs.length ≤ 1000000 ∧ (decSk l off).1.cm.length ≤ 1000000 ∧ (decSk l off).1.fs.length ≤ 1000000 ∧ (decSk l off).1.rk.length ≤ 1000000 := by
  have h := rdSk_parts l off
  have hz : zeroSk.hs.length ≤ 1000000 ∧ zeroSk.cm.length ≤ 1000000 ∧ zeroSk.fs.length ≤ 1000000 ∧ zeroSk.rk.length ≤ 1000000 := by simp [zeroSk]
  unfold decSk
  split
  · exact hz
  · split
    · show (rdSk l off).1.hs.length ≤ 1000000 ∧ (rdSk l off).1.cm.length ≤ 1000000 ∧ (rdSk l off).1.fs.length ≤ 1000000 ∧ (rdSk l off).1.rk.length ≤ 1000000
      exact ⟨by omega, by omega, by omega, by omega⟩
    · exact hz
set_option maxRecDepth 8000 in
set_option maxHeartbeats 16000000 in
theorem law_decodes16 (A : Option Addr) (c : Nat) (l : List UInt8) (off : Int) (w : World) (hb : IsBytes w (.slice A l.length c) l) (hl : l.length ≤ 4611686018427387904) (hlc : l.length ≤ c) (h63 : -9223372036854775808 ≤ off) (h64 : off ≤ 9223372036854775807) :
    Calls Tryz.prog 8 #[.slice A l.length c, .int .i64 off] w fun e w' => e = .returned (.bool true) ∧ Grows w w' := by
  have HQ := hidden (qDecode_any A c l off w hb hl hlc h63 h64)
  have HR := hidden (fun X (h : Grows w X) => rDecode16_any A c l off X (hb.grow h) hl hlc h63 h64)
  have HLN := hidden (decSk_len l off)
  have HAW := hidden (fun W => qawake_any W)
  generalize decSk l off = out at *
  obtain ⟨s, n, er⟩ := out
  simp only [] at HQ HR HLN
  clear hb hl hlc h63 h64
  go_enter Tryz.func8, Tryz.ntmps8
  go_wp2_with fail
  refine HQ.out.mono ?_
  rintro e X1 ⟨v, rfl, hk, g1⟩
  have HK1 := hidden hk
  have HG1 := hidden g1
  obtain ⟨A1, A2, A3, A4, c1, c2, c3, c4, rfl, -⟩ := hk
  clear g1
  go_wp2_with fail
  obtain ⟨X2, hX2⟩ : ∃ X, X = X1.alloc (.cells #[.int .i64 s.rows, .int .i64 s.nulls, .slice A1 s.hs.length c1, .bool s.ok, .slice A2 s.cm.length c2, .slice A3 s.fs.length c3, .slice A4 s.rk.length c4] 29) := ⟨_, rfl⟩
  have HG2 := hidden (show Grows X1 X2 by rw [hX2]; exact growK _ _)
  have HX := hidden (show ∀ X, Grows X2 X → X.cell? ⟨X1.heap.size, 0, none⟩ = some (.int .i64 s.rows) ∧ X.cell? ⟨X1.heap.size, 1, none⟩ = some (.int .i64 s.nulls) ∧ X.cell? ⟨X1.heap.size, 2, none⟩ = some (.slice A1 s.hs.length c1) ∧ X.cell? ⟨X1.heap.size, 3, none⟩ = some (.bool s.ok) ∧ X.cell? ⟨X1.heap.size, 4, none⟩ = some (.slice A2 s.cm.length c2) ∧ X.cell? ⟨X1.heap.size, 5, none⟩ = some (.slice A3 s.fs.length c3) ∧ X.cell? ⟨X1.heap.size, 6, none⟩ = some (.slice A4 s.rk.length c4) from by
    have hr : Row X2 X1.heap.size 29 [.int .i64 s.rows, .int .i64 s.nulls, .slice A1 s.hs.length c1, .bool s.ok, .slice A2 s.cm.length c2, .slice A3 s.fs.length c3, .slice A4 s.rk.length c4] := by rw [hX2]; exact skrow_new _ _ _ _ _ _ _ _
    exact fun X h => ⟨(hr.grow h).cell 0, (hr.grow h).cell 1, (hr.grow h).cell 2, (hr.grow h).cell 3, (hr.grow h).cell 4, (hr.grow h).cell 5, (hr.grow h).cell 6⟩)
  rw [← hX2]
  clear hX2
  refine (HR.out X2 (HG1.out.of_below HG2.out)).mono ?_
  rintro e X3 ⟨u, rfl, hu, g3⟩
  have HU3 := hidden hu
  have HG3 := hidden g3
  obtain ⟨B1, B2, B3, B4, d1, d2, d3, d4, rfl, -⟩ := hu
  clear g3
  obtain ⟨X4, hX4⟩ : ∃ X, X = X3.alloc (.cells #[.int .i64 s.rows, .int .i64 s.nulls, .slice B1 s.hs.length d1, .bool s.ok, .slice B2 s.cm.length d2, .slice B3 s.fs.length d3, .slice B4 s.rk.length d4] 29) := ⟨_, rfl⟩
  have HG4 := hidden (show Grows X3 X4 by rw [hX4]; exact growK _ _)
  have HY := hidden (show ∀ X, Grows X4 X → X.cell? ⟨X3.heap.size, 0, none⟩ = some (.int .i64 s.rows) ∧ X.cell? ⟨X3.heap.size, 1, none⟩ = some (.int .i64 s.nulls) ∧ X.cell? ⟨X3.heap.size, 2, none⟩ = some (.slice B1 s.hs.length d1) ∧ X.cell? ⟨X3.heap.size, 3, none⟩ = some (.bool s.ok) ∧ X.cell? ⟨X3.heap.size, 4, none⟩ = some (.slice B2 s.cm.length d2) ∧ X.cell? ⟨X3.heap.size, 5, none⟩ = some (.slice B3 s.fs.length d3) ∧ X.cell? ⟨X3.heap.size, 6, none⟩ = some (.slice B4 s.rk.length d4) from by
    have hr : Row X4 X3.heap.size 29 [.int .i64 s.rows, .int .i64 s.nulls, .slice B1 s.hs.length d1, .bool s.ok, .slice B2 s.cm.length d2, .slice B3 s.fs.length d3, .slice B4 s.rk.length d4] := by rw [hX4]; exact skrow_new _ _ _ _ _ _ _ _
    exact fun X h => ⟨(hr.grow h).cell 0, (hr.grow h).cell 1, (hr.grow h).cell 2, (hr.grow h).cell 3, (hr.grow h).cell 4, (hr.grow h).cell 5, (hr.grow h).cell 6⟩)
  obtain ⟨s0, s1, s2, s3, s4, s5, s6⟩ := HX.out X4 (HG3.out.of_below HG4.out)
  obtain ⟨y0, y1, y2, y3, y4, y5, y6⟩ := HY.out X4 (Below.refl _ _)
  rw [hX4] at s0 s1 s2 s3 s4 s5 s6 y0 y1 y2 y3 y4 y5 y6
  go_wp2_with fail
  clear s0 s1 s2 s3 s4 s5 s6 y0 y1 y2 y3 y4 y5 y6
  rw [← hX4]
  have HGA := hidden (HG1.out.of_below (HG2.out.of_below (HG3.out.of_below HG4.out)))
  refine (rEqual16_self _ _ s X4 (HK1.out.grow (HG2.out.of_below (HG3.out.of_below HG4.out))) (HU3.out.grow HG4.out) HLN.out).mono ?_
  rintro e X5 ⟨rfl, g5⟩
  have HG5 := hidden g5
  clear g5
  go_wp2_with fail
  refine (HAW.out _).mono ?_
  rintro e X6 ⟨rfl, g6⟩
  have HG6 := hidden g6
  clear g6
  go_wp2_with fail
  go_ret
  exact ⟨rfl, HGA.out.of_below (HG5.out.of_below HG6.out)⟩
end Go.Proofs.YtoaklmceejeblaaGreat
