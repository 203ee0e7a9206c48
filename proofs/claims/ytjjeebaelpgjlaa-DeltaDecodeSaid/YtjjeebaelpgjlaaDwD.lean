/-
  The walk of the law DeltaDecode: it returns true for all bytes and any two integers; nothing that was there is changed.
-/
import Derived.Test.YtjjeebaelpgjlaaDw0
import Derived.Test.YtjjeebaelpgjlaaDr5
namespace Go.Proofs.Ytjjeebaelpgjlaa
open Go.RowKit
set_option linter.unusedVariables false
set_option linter.unusedSimpArgs false

theorem dlDec_le (b : List UInt8) (o n : Int) : (dlDec b o n).1.length ≤ 65536 := by
  by_cases h1 : (n < 0 ∨ 65536 < n) ∨ o < 0
  · rw [dlDec_a h1]; exact Nat.zero_le _
  by_cases h2 : (b.length : Int) ≤ o
  · rw [dlDec_b h1 h2]; exact Nat.zero_le _
  by_cases h3 : kindD b o = 1 ∨ (kindD b o = 2 ∧ 2 ≤ n)
  rotate_left
  · rw [dlDec_c h1 h2 h3]; exact Nat.zero_le _
  obtain ⟨ld, p, e, h4⟩ : ∃ ld p e, hdsD b (min (kindD b o) n.toNat) (o + 1) [] = (ld, p, e) := ⟨_, _, _, rfl⟩
  by_cases he : e = 0
  rotate_left
  · rw [dlDec_d h1 h2 h3 h4 he]; exact Nat.zero_le _
  subst he
  obtain ⟨r, q2, f, h5⟩ : ∃ r q2 f, decV b p (n - (min (kindD b o) n.toNat : Nat)) = (r, q2, f) := ⟨_, _, _, rfl⟩
  by_cases hf : f = 0
  rotate_left
  · rw [dlDec_e h1 h2 h3 h4 h5 hf]; exact Nat.zero_le _
  subst hf
  by_cases h6 : dlEnc (psAll ld r) = (b.drop o.toNat).take (q2 - o).toNat
  · have h7 := (dlDec_acc (dlDec_g h1 h2 h3 h4 h5 h6)).1
    rw [dlDec_g h1 h2 h3 h4 h5 h6]
    show (psAll ld r).length ≤ _
    omega
  · rw [dlDec_f h1 h2 h3 h4 h5 h6]; exact Nat.zero_le _
set_option maxRecDepth 20000 in
set_option maxHeartbeats 8000000 in
theorem law_decode9 (A : Option Addr) (c : Nat) (b : List UInt8) (o n : Int) (w : World) (hb : IsBytes w (.slice A b.length c) b) (hlc : b.length ≤ c) (h63 : -9223372036854775808 ≤ o) (h64 : o ≤ 9223372036854775807) :
    Calls Try.prog 4 #[.slice A b.length c, .int .i64 o, .int .i64 n] w fun e w' => e = .returned (.bool true) ∧ Below w.heap.size w w' := by
  have HA0 := hidden (lives_any w)
  by_cases hbig : 1000 < b.length
  · have hd : decide ((1000 : Int) < (b.length : Int)) = true := by simp; omega
    clear hbig hb hlc
    go_enter Try.func4, Try.ntmps4
    go_wp2_with fail
    refine HA0.out.mono ?_
    rintro e w1 ⟨rfl, g1⟩
    go_wp2_with fail
    go_ret
    exact ⟨rfl, g1⟩
  have hd : decide ((1000 : Int) < (b.length : Int)) = false := by simp; omega
  by_cases hn : 300 < n ∧ n ≤ 65536
  · have hd1 : decide (300 < n) = true := by simpa using hn.1
    have hd2 : decide (n ≤ 65536) = true := by simpa using hn.2
    clear hbig hb hlc hn
    go_enter Try.func4, Try.ntmps4
    go_wp2_with fail
    refine HA0.out.mono ?_
    rintro e w1 ⟨rfl, g1⟩
    go_wp2_with fail
    go_ret
    exact ⟨rfl, g1⟩
  have HV := hidden hb
  have HPD := hidden (dec9_any A c b o n w hb hlc (by omega) h63 h64)
  have HRD := hidden (fun w' (h : Grows w w') => rdec9_any A c b o n w' (hb.grow h) hlc (by omega) h63 h64)
  have HLE := hidden (dlDec_le b o n)
  obtain ⟨r, q, e, hr⟩ : ∃ r q e, dlDec b o n = (r, q, e) := ⟨_, _, _, rfl⟩
  rw [hr] at HPD HLE
  simp only [hr] at HRD
  clear hb hlc hbig hr
  have main : ∀ (B1 B2 : Bool), decide (300 < n) = B1 → decide (n ≤ 65536) = B2 → (B1 && B2) = false → Calls Try.prog 4 #[.slice A b.length c, .int .i64 o, .int .i64 n] w fun e w' => e = .returned (.bool true) ∧ Below w.heap.size w w' := by
    intro B1 B2 hd1 hd2 hbb
    clear hn
    cases B1
    all_goals (cases B2)
    all_goals (first | (exact absurd hbb (by decide)) | skip)
    all_goals
      go_enter Try.func4, Try.ntmps4
      go_wp2_with fail
      refine HPD.out.mono ?_
      rintro e1 w1 ⟨v1, rfl, hi1, g1⟩
      have HG1 := hidden g1
      have HI1 := hidden (show IsI w1 v1 r from hi1)
      clear hi1 g1
      go_wp2_with fail
      refine (HRD.out w1 HG1.out).mono ?_
      rintro e2 w2 ⟨v2, rfl, hi2, g2⟩
      have HG2 := hidden (Grows.of_below HG1.out g2)
      have HEQ := hidden (requal_any v1 v2 r r w2 (IsI.grow HI1.out g2) hi2 (by have h : r.length ≤ 65536 := HLE.out; omega) (by have h : r.length ≤ 65536 := HLE.out; omega))
      rw [sameI_self] at HEQ
      clear hi2 g2
      go_wp2_with fail
      refine HEQ.out.mono ?_
      rintro e3 w3 ⟨rfl, g3⟩
      have HG3 := hidden (Grows.of_below HG2.out g3)
      clear g3
      go_wp2_with fail
      refine (lives_any w3).mono ?_
      rintro e4 w4 ⟨rfl, g4⟩
      have HG4 := hidden (Grows.of_below HG3.out g4)
      clear g4
      go_wp2_with fail
      go_ret
      exact ⟨rfl, HG4.out⟩
  refine main _ _ rfl rfl ?_
  rw [Bool.and_eq_false_iff, decide_eq_false_iff_not, decide_eq_false_iff_not]
  omega
end Go.Proofs.Ytjjeebaelpgjlaa
