/-
  The walk of the law DictionaryDecodes: it returns true for all bytes, offsets and numbers; nothing that was there is changed.
-/
import Derived.Test.YtgmjoghgmcjebaaM14
import Derived.Test.YtgmjoghgmcjebaaDcR3
namespace Go.Proofs.Ytgmjoghgmcjebaa
open Go.RowKit
set_option linter.unusedVariables false
set_option linter.unusedSimpArgs false

theorem decT_len (b : List UInt8) (off n : Int) : (decT b off n).1.length ≤ 65536 := by
  by_cases h0 : n < 0 ∨ 65536 < n ∨ off < 0 ∨ (b.length : Int) < off
  · rw [decT_a h0]; simp
  obtain ⟨N, rfl⟩ := Int.eq_ofNat_of_zero_le (show 0 ≤ n by omega)
  obtain ⟨o, rfl⟩ := Int.eq_ofNat_of_zero_le (show 0 ≤ off by omega)
  by_cases h1 : (rdD b o N).2.2 = 0
  · obtain ⟨q, hq, _, hqb, hwn, _⟩ := rdD_acc (by omega) h1
    obtain ⟨ws, q', x, hd⟩ : ∃ ws q' x, rdD b o N = (ws, q', x) := ⟨_, _, _, rfl⟩
    rw [hd] at h1 hq hwn
    simp only [] at h1 hq hwn
    subst h1 hq
    by_cases h2 : (rdC b q N ws.length).2.2 = 0
    · obtain ⟨r, hr, _, _, hcl, _⟩ := rdC_acc (by omega) (by omega) h2
      obtain ⟨cs, r', x, hd2⟩ : ∃ cs r' x, rdC b q N ws.length = (cs, r', x) := ⟨_, _, _, rfl⟩
      rw [hd2] at h2 hr hcl
      simp only [] at h2 hr hcl
      subst h2 hr
      rw [decT_n (by omega) (by omega) hd hd2]
      unfold endT
      split
      · simp
      · split
        · simp [pickS]; omega
        · simp
    · rw [decT_c (by omega) (by omega) hd h2]; simp
  · rw [decT_d h0 h1]; simp
set_option maxRecDepth 20000 in
set_option maxHeartbeats 8000000 in
theorem law_decodes10 (A : Option Addr) (c : Nat) (b : List UInt8) (off n : Int) (w : World) (hv : IsBytes w (.slice A b.length c) b) (hlc : b.length ≤ c) (hlm : b.length ≤ 140737488351232) (h63 : -9223372036854775808 ≤ off) (h64 : off ≤ 9223372036854775807) :
    Calls Try.prog 6 #[.slice A b.length c, .int .i64 off, .int .i64 n] w fun e w' => e = .returned (.bool true) ∧ Below w.heap.size w w' := by
  by_cases c1 : 300 < n ∧ n ≤ 65536
  · have hd1 : decide (300 < n) = true := by simp; omega
    have hd2 : decide (n ≤ 65536) = true := by simp; omega
    clear hv c1
    have HA := hidden (awake10_any w)
    go_enter Try.func6, Try.ntmps6
    go_wp2_with fail
    refine HA.out.mono ?_
    rintro e w2 ⟨rfl, g2⟩
    go_wp2_with fail
    go_ret
    exact ⟨rfl, g2⟩
  by_cases c2 : 4000 < b.length
  · have hd3 : decide ((4000 : Int) < (b.length : Int)) = true := by simp; omega
    by_cases c3 : 300 < n
    · have hd1 : decide (300 < n) = true := by simpa using c3
      have hd2 : decide (n ≤ 65536) = false := by simp; omega
      clear hv c1 c2 c3
      have HA := hidden (awake10_any w)
      go_enter Try.func6, Try.ntmps6
      go_wp2_with fail
      refine HA.out.mono ?_
      rintro e w2 ⟨rfl, g2⟩
      go_wp2_with fail
      go_ret
      exact ⟨rfl, g2⟩
    · have hd1 : decide (300 < n) = false := by simpa using c3
      clear hv c1 c2 c3
      have HA := hidden (awake10_any w)
      go_enter Try.func6, Try.ntmps6
      go_wp2_with fail
      refine HA.out.mono ?_
      rintro e w2 ⟨rfl, g2⟩
      go_wp2_with fail
      go_ret
      exact ⟨rfl, g2⟩
  have hd3 : decide ((4000 : Int) < (b.length : Int)) = false := by simp; omega
  by_cases c3 : 300 < n
  · have hd1 : decide (300 < n) = true := by simpa using c3
    have hd2 : decide (n ≤ 65536) = false := by simp; omega
    clear c1 c3
    have HPD := hidden (dec10_any A c b off n w hv hlc (by omega) h63 h64)
    have HRD := hidden (fun W (h : Grows w W) => rdec10_any A c b off n W (hv.grow h) hlc (by omega) h63 h64)
    obtain ⟨R, hR⟩ : ∃ R, R = decT b off n := ⟨_, rfl⟩
    rw [← hR] at HPD HRD
    have HLR := hidden (show R.1.length ≤ 65536 from hR ▸ decT_len b off n)
    obtain ⟨r1, r2, r3⟩ := R
    simp only [] at HLR
    clear hv hR
    go_enter Try.func6, Try.ntmps6
    go_wp2_with fail
    refine HPD.out.mono ?_
    rintro e w1 ⟨v1, rfl, g1, hS1⟩
    have HG1 := hidden g1
    have HS1 := hidden (show IsS w1 v1 r1 from hS1)
    have HRD1 := hidden (HRD.out w1 g1)
    clear g1 hS1
    go_wp2_with fail
    refine HRD1.out.mono ?_
    rintro e w2 ⟨v2, rfl, g2, hS2⟩
    have HG2 := hidden (HG1.out.of_below g2)
    have HSS := hidden (strings10_any v1 v2 r1 r1 w2 (HS1.out.grow g2) (show IsS w2 v2 r1 from hS2) (by have := HLR.out; omega) (by have := HLR.out; omega))
    rw [sameS_self] at HSS
    clear g2 hS2
    go_wp2_with fail
    refine HSS.out.mono ?_
    rintro e w3 ⟨rfl, g3⟩
    have HG3 := hidden (HG2.out.of_below g3)
    have HA := hidden (awake10_any w3)
    clear g3
    go_wp2_with fail
    refine HA.out.mono ?_
    rintro e w4 ⟨rfl, g4⟩
    have HG4 := hidden (HG3.out.of_below g4)
    clear g4
    go_wp2_with fail
    go_ret
    exact ⟨rfl, HG4.out⟩
  · have hd1 : decide (300 < n) = false := by simpa using c3
    clear c1 c3
    have HPD := hidden (dec10_any A c b off n w hv hlc (by omega) h63 h64)
    have HRD := hidden (fun W (h : Grows w W) => rdec10_any A c b off n W (hv.grow h) hlc (by omega) h63 h64)
    obtain ⟨R, hR⟩ : ∃ R, R = decT b off n := ⟨_, rfl⟩
    rw [← hR] at HPD HRD
    have HLR := hidden (show R.1.length ≤ 65536 from hR ▸ decT_len b off n)
    obtain ⟨r1, r2, r3⟩ := R
    simp only [] at HLR
    clear hv hR
    go_enter Try.func6, Try.ntmps6
    go_wp2_with fail
    refine HPD.out.mono ?_
    rintro e w1 ⟨v1, rfl, g1, hS1⟩
    have HG1 := hidden g1
    have HS1 := hidden (show IsS w1 v1 r1 from hS1)
    have HRD1 := hidden (HRD.out w1 g1)
    clear g1 hS1
    go_wp2_with fail
    refine HRD1.out.mono ?_
    rintro e w2 ⟨v2, rfl, g2, hS2⟩
    have HG2 := hidden (HG1.out.of_below g2)
    have HSS := hidden (strings10_any v1 v2 r1 r1 w2 (HS1.out.grow g2) (show IsS w2 v2 r1 from hS2) (by have := HLR.out; omega) (by have := HLR.out; omega))
    rw [sameS_self] at HSS
    clear g2 hS2
    go_wp2_with fail
    refine HSS.out.mono ?_
    rintro e w3 ⟨rfl, g3⟩
    have HG3 := hidden (HG2.out.of_below g3)
    have HA := hidden (awake10_any w3)
    clear g3
    go_wp2_with fail
    refine HA.out.mono ?_
    rintro e w4 ⟨rfl, g4⟩
    have HG4 := hidden (HG3.out.of_below g4)
    clear g4
    go_wp2_with fail
    go_ret
    exact ⟨rfl, HG4.out⟩
end Go.Proofs.Ytgmjoghgmcjebaa
