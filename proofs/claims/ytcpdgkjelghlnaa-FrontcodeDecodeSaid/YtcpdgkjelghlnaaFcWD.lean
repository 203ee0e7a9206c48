/-
  The walk of the law FrontcodeDecode: it returns true for all bytes, offsets and numbers; nothing that was there is changed.
-/
import Derived.Test.YtcpdgkjelghlnaaFcB
import Derived.Test.YtcpdgkjelghlnaaFc8
import Derived.Test.YtcpdgkjelghlnaaFcA
namespace Go.Proofs.Ytcpdgkjelghlnaa
open Go.RowKit
set_option linter.unusedVariables false
set_option linter.unusedSimpArgs false

theorem fcDec_len (b : List UInt8) (off n : Int) : (fcDec b off n).1.length ≤ 65536 := by
  by_cases h : badF b off n
  · rw [fcDec_bad h]; simp
  · have h0 : 0 ≤ off ∧ off ≤ b.length ∧ 0 ≤ n ∧ n ≤ 65536 := by unfold badF at h; omega
    obtain ⟨N, rfl⟩ := Int.eq_ofNat_of_zero_le h0.2.2.1
    obtain ⟨o, rfl⟩ := Int.eq_ofNat_of_zero_le h0.1
    rw [fcDec_ok h]
    by_cases he : (rdFs b N [] o).2.2 = 0
    · rw [rdFs_len (by omega) he]; omega
    · rw [(rdFs_err N [] o he).1]; simp
set_option maxRecDepth 20000 in
set_option maxHeartbeats 8000000 in
theorem law_decode11 (A : Option Addr) (c : Nat) (b : List UInt8) (off n : Int) (w : World) (hv : IsBytes w (.slice A b.length c) b) (hlc : b.length ≤ c) (hlm : b.length ≤ 140737488351232) :
    Calls Try.prog 4 #[.slice A b.length c, .int .i64 off, .int .i64 n] w fun e w' => e = .returned (.bool true) ∧ Below w.heap.size w w' := by
  by_cases c2 : 1000 < b.length
  · have hd3 : decide ((1000 : Int) < (b.length : Int)) = true := by simp; omega
    clear hv c2
    go_enter Try.func4, Try.ntmps4
    go_wp2_with fail
    refine (awake11_any _).mono ?_
    rintro e w2 ⟨rfl, g2⟩
    go_wp2_with fail
    go_ret
    exact ⟨rfl, g2⟩
  have hd3 : decide ((1000 : Int) < (b.length : Int)) = false := by simp; omega
  by_cases c3 : 300 < n
  · have hd1 : decide (300 < n) = true := by simpa using c3
    by_cases c4 : n ≤ 65536
    · have hd2 : decide (n ≤ 65536) = true := by simpa using c4
      clear hv c2 c3 c4
      go_enter Try.func4, Try.ntmps4
      go_wp2_with fail
      refine (awake11_any _).mono ?_
      rintro e w2 ⟨rfl, g2⟩
      go_wp2_with fail
      go_ret
      exact ⟨rfl, g2⟩
    · have hd2 : decide (n ≤ 65536) = false := by simpa using c4
      clear c3 c4
      have HPD := hidden (fdecode_any A c b off n w hv hlc (by omega))
      have HRD := hidden (fun W (h : Grows w W) => rfdecode_any A c b off n W (hv.grow h) hlc (by omega))
      have HLR := hidden (fcDec_len b off n)
      obtain ⟨R, hR⟩ : ∃ R, R = fcDec b off n := ⟨_, rfl⟩
      rw [← hR] at HPD HRD HLR
      obtain ⟨r1, r2, r3⟩ := R
      simp only [] at HLR
      clear hv hR
      go_enter Try.func4, Try.ntmps4
      go_wp2_with fail
      refine HPD.out.mono ?_
      rintro e w1 ⟨v1, rfl, g1, hS1⟩
      have HG1 := hidden g1
      have HS1 := hidden (show IsS w1 v1 r1 from hS1)
      have HRD1 := hidden (HRD.out w1 g1)
      clear g1 hS1
      go_wp2_with fail
      refine HRD1.out.mono ?_
      rintro e w2 ⟨v2, rfl, g2, hS2⟩
      have HG2 := hidden (HG1.out.of_below g2)
      have HSS := hidden (same11_any v1 v2 r1 r1 w2 (HS1.out.grow g2) (show IsS w2 v2 r1 from hS2) (by have := HLR.out; omega) (by have := HLR.out; omega))
      rw [sameS_self] at HSS
      clear g2 hS2
      go_wp2_with fail
      refine HSS.out.mono ?_
      rintro e w3 ⟨rfl, g3⟩
      have HG3 := hidden (HG2.out.of_below g3)
      clear g3
      go_wp2_with fail
      refine (awake11_any w3).mono ?_
      rintro e w4 ⟨rfl, g4⟩
      have HG4 := hidden (HG3.out.of_below g4)
      clear g4
      go_wp2_with fail
      go_ret
      exact ⟨rfl, HG4.out⟩
  · have hd1 : decide (300 < n) = false := by simpa using c3
    clear c3
    have HPD := hidden (fdecode_any A c b off n w hv hlc (by omega))
    have HRD := hidden (fun W (h : Grows w W) => rfdecode_any A c b off n W (hv.grow h) hlc (by omega))
    have HLR := hidden (fcDec_len b off n)
    obtain ⟨R, hR⟩ : ∃ R, R = fcDec b off n := ⟨_, rfl⟩
    rw [← hR] at HPD HRD HLR
    obtain ⟨r1, r2, r3⟩ := R
    simp only [] at HLR
    clear hv hR
    go_enter Try.func4, Try.ntmps4
    go_wp2_with fail
    refine HPD.out.mono ?_
    rintro e w1 ⟨v1, rfl, g1, hS1⟩
    have HG1 := hidden g1
    have HS1 := hidden (show IsS w1 v1 r1 from hS1)
    have HRD1 := hidden (HRD.out w1 g1)
    clear g1 hS1
    go_wp2_with fail
    refine HRD1.out.mono ?_
    rintro e w2 ⟨v2, rfl, g2, hS2⟩
    have HG2 := hidden (HG1.out.of_below g2)
    have HSS := hidden (same11_any v1 v2 r1 r1 w2 (HS1.out.grow g2) (show IsS w2 v2 r1 from hS2) (by have := HLR.out; omega) (by have := HLR.out; omega))
    rw [sameS_self] at HSS
    clear g2 hS2
    go_wp2_with fail
    refine HSS.out.mono ?_
    rintro e w3 ⟨rfl, g3⟩
    have HG3 := hidden (HG2.out.of_below g3)
    clear g3
    go_wp2_with fail
    refine (awake11_any w3).mono ?_
    rintro e w4 ⟨rfl, g4⟩
    have HG4 := hidden (HG3.out.of_below g4)
    clear g4
    go_wp2_with fail
    go_ret
    exact ⟨rfl, HG4.out⟩
end Go.Proofs.Ytcpdgkjelghlnaa
