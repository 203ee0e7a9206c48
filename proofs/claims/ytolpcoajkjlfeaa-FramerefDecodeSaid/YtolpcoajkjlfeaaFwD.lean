/-
  The walk of the law FramerefDecode: it returns true for all bytes and any two integers; nothing that was there is changed.
-/
import Derived.Test.YtolpcoajkjlfeaaFw0
import Derived.Test.YtolpcoajkjlfeaaFr4
namespace Go.Proofs.Ytolpcoajkjlfeaa
open Go.RowKit
set_option linter.unusedVariables false
set_option linter.unusedSimpArgs false

theorem decV_le (b : List UInt8) (o n : Int) : (decV b o n).1.length ≤ 65536 := by
  obtain ⟨z, W, m, p, e, h⟩ : ∃ z W m p e, frD b o n = (z, W, m, p, e) := ⟨_, _, _, _, _, rfl⟩
  by_cases he : e = 0
  · subst he
    have hb := frD_bd h
    obtain ⟨d, q, f, h2⟩ : ∃ d q f, excD b W.toNat m.toNat (p + (szB n.toNat W.toNat : Nat)) (lowD b p n.toNat W.toNat) = (d, q, f) := ⟨_, _, _, rfl⟩
    by_cases hf : f = 0
    · subst hf
      have hd := (excD_bd _ _ _ d q (by omega) (by omega) h2).2.2
      rw [lowD_length] at hd
      by_cases hc : encV (d.map (valV z)) = (b.drop o.toNat).take (q - o).toNat
      · rw [decV_ok h h2 hc, List.length_map]
        omega
      · rw [decV_e3 h h2 hc]; simp
    · rw [decV_e2 h h2 hf]; simp
  · rw [decV_e1 h he]; simp
set_option maxRecDepth 20000 in
set_option maxHeartbeats 4000000 in
theorem law_decode (A : Option Addr) (c : Nat) (b : List UInt8) (o n : Int) (w : World) (hb : IsBytes w (.slice A b.length c) b) (hlc : b.length ≤ c) (h63 : -9223372036854775808 ≤ o) (h64 : o ≤ 9223372036854775807) :
    Calls Try.prog 4 #[.slice A b.length c, .int .i64 o, .int .i64 n] w fun e w' => e = .returned (.bool true) ∧ Below w.heap.size w w' := by
  have HA0 := hidden (awakeF_any w)
  have HB := hidden hb
  clear hb
  by_cases hbig : 1000 < b.length
  · have hd : decide ((1000 : Int) < (b.length : Int)) = true := by simp; omega
    go_enter Try.func4, Try.ntmps4
    go_wp2_with fail
    refine HA0.out.mono ?_
    rintro e w1 ⟨rfl, g1⟩
    go_wp2_with fail
    go_ret
    exact ⟨rfl, g1⟩
  have hd : decide ((1000 : Int) < (b.length : Int)) = false := by simp; omega
  have hl : b.length ≤ 1048576 := by omega
  by_cases hn : 300 < n ∧ n ≤ 65536
  · have hd2 : decide (300 < n) = true := by simpa using hn.1
    have hd3 : decide (n ≤ 65536) = true := by simpa using hn.2
    clear hn
    go_enter Try.func4, Try.ntmps4
    go_wp2_with fail
    refine HA0.out.mono ?_
    rintro e w1 ⟨rfl, g1⟩
    go_wp2_with fail
    go_ret
    exact ⟨rfl, g1⟩
  have hn' : decide (300 < n) = false ∨ (decide (300 < n) = true ∧ decide (n ≤ 65536) = false) := by
    by_cases h : 300 < n
    · exact .inr ⟨by simpa using h, by simp; omega⟩
    · exact .inl (by simpa using h)
  have HPD := hidden (fun w' (h : Grows w w') => ldecodeF_any A c b o n w' (HB.out.grow h) hlc hl h63 h64)
  have HRD := hidden (fun w' (h : Grows w w') => rdecodeF_any A c b o n w' (HB.out.grow h) hlc hl)
  have HLE := hidden (decV_le b o n)
  generalize decV b o n = r at *
  obtain ⟨L, at_, er⟩ := r
  have HLL : Hid (L.length ≤ 65536) := HLE.out
  clear hn hbig
  rcases hn' with h1 | ⟨h1, h2⟩
  all_goals go_enter Try.func4, Try.ntmps4
  all_goals go_wp2_with fail
  all_goals refine (HPD.out w (Below.refl _ _)).mono ?_
  all_goals rintro e w1 ⟨u1, rfl, hu1, g1⟩
  all_goals have HU1 := hidden hu1
  all_goals have HG1 := hidden g1
  all_goals clear hu1 g1
  all_goals go_wp2_with fail
  all_goals refine (HRD.out w1 HG1.out).mono ?_
  all_goals rintro e w2 ⟨u2, rfl, hu2, g2⟩
  all_goals have HEQ := hidden (same_any u1 u2 L L w2 (IsI.grow HU1.out g2) hu2 (by have h := HLL.out; omega) (by have h := HLL.out; omega))
  all_goals rw [sameI_self] at HEQ
  all_goals have HG2 := hidden (HG1.out.of_below g2)
  all_goals clear hu2 g2
  all_goals go_wp2_with fail
  all_goals refine HEQ.out.mono ?_
  all_goals rintro e w3 ⟨rfl, g3⟩
  all_goals have HG3 := hidden (HG2.out.of_below g3)
  all_goals clear g3
  all_goals go_wp2_with fail
  all_goals refine (awakeF_any w3).mono ?_
  all_goals rintro e w4 ⟨rfl, g4⟩
  all_goals have HG4 := hidden (HG3.out.of_below g4)
  all_goals clear g4
  all_goals go_wp2_with fail
  all_goals go_ret
  all_goals exact ⟨rfl, HG4.out⟩
end Go.Proofs.Ytolpcoajkjlfeaa
