/-
  The walk of the law FramerefAt: it returns true for all bytes, values and indices; nothing that was there is changed.
-/
import Derived.Test.YtolpcoajkjlfeaaFw1
import Derived.Test.YtolpcoajkjlfeaaFs8
namespace Go.Proofs.Ytolpcoajkjlfeaa
open Go.RowKit
set_option linter.unusedVariables false
set_option linter.unusedSimpArgs false

set_option maxRecDepth 20000 in
set_option maxHeartbeats 4000000 in
theorem law_at (A B : Option Addr) (c d : Nat) (p q : List UInt8) (v : Value) (l : List Int) (i : Int) (w : World) (hp : IsBytes w (.slice A p.length c) p) (hv : IsI w v l) (hq : IsBytes w (.slice B q.length d) q) (hin : ∀ x ∈ l, frIn x) (hpm : p.length ≤ 9223372036854775806) (hqm : q.length ≤ 9223372036854775806) (hlm : l.length ≤ 9223372036854775806) (hi63 : -9223372036854775808 ≤ i) (hi64 : i ≤ 9223372036854775807) :
    Calls Try.prog 5 #[.slice A p.length c, v, .slice B q.length d, .int .i64 i] w fun e w' => e = .returned (.bool true) ∧ Below w.heap.size w w' := by
  have HA0 := hidden (awakeF_any w)
  have HP := hidden hp
  have HQ := hidden hq
  have HV := hidden hv
  obtain ⟨C, g, rfl⟩ := hv.slice_
  clear hp hq hv
  by_cases hbig : 300 < l.length ∨ 300 < p.length ∨ 300 < q.length
  · have hcase : decide ((300 : Int) < (l.length : Int)) = true ∨ (decide ((300 : Int) < (l.length : Int)) = false ∧ decide ((300 : Int) < (p.length : Int)) = true) ∨ (decide ((300 : Int) < (l.length : Int)) = false ∧ decide ((300 : Int) < (p.length : Int)) = false ∧ decide ((300 : Int) < (q.length : Int)) = true) := by
      simp only [decide_eq_true_eq, decide_eq_false_iff_not]
      omega
    clear hbig
    rcases hcase with h1 | ⟨h1, h2⟩ | ⟨h1, h2, h3⟩
    all_goals go_enter Try.func5, Try.ntmps5
    all_goals go_wp2_with fail
    all_goals refine HA0.out.mono ?_
    all_goals rintro e w1 ⟨rfl, g1⟩
    all_goals go_wp2_with fail
    all_goals go_ret
    all_goals exact ⟨rfl, g1⟩
  have e1 : decide ((300 : Int) < (l.length : Int)) = false := by simp; omega
  have e2 : decide ((300 : Int) < (p.length : Int)) = false := by simp; omega
  have e3 : decide ((300 : Int) < (q.length : Int)) = false := by simp; omega
  have hl3 : l.length ≤ 300 := by omega
  have hp3 : p.length ≤ 300 := by omega
  have hq3 : q.length ≤ 300 := by omega
  have HEN := hidden (encoded_any A B c d p q (.slice C l.length g) l w HP.out HV.out HQ.out hp3 hq3 (by omega) hin)
  have hLL : (p ++ (encV l ++ q)).length ≤ 1048576 := by
    have := encV_len l
    rw [List.length_append, List.length_append]
    omega
  have HATI := hidden (fun k (h : k < l.length) => atV_enc p q hin (by omega) (k : Int) l[k] (by omega) (by rw [Int.toNat_natCast, List.getElem?_eq_getElem h]))
  have HATO := hidden (fun h => atV_out p q hin (by omega) i h)
  clear hbig
  obtain ⟨LL, hLLe⟩ : ∃ LL, LL = p ++ (encV l ++ q) := ⟨_, rfl⟩
  rw [← hLLe] at HEN hLL HATI HATO
  have HAT := hidden (fun A' c' w' hv' hc' => latF_any A' c' LL (p.length : Int) (l.length : Int) i w' hv' hc' hLL (by omega) (by omega) hi63 hi64)
  have HLL := hidden hLL
  clear hLL hLLe
  by_cases hi : i < 0 ∨ (l.length : Int) ≤ i
  · have HR := hidden (HATO.out hi)
    rw [HR.out] at HAT
    have hcase : decide (i < 0) = true ∨ (decide (i < 0) = false ∧ decide ((l.length : Int) ≤ i) = true) := by
      simp only [decide_eq_true_eq, decide_eq_false_iff_not]
      omega
    clear hi
    rcases hcase with h1 | ⟨h1, h2⟩
    all_goals go_enter Try.func5, Try.ntmps5
    all_goals go_wp2_with fail
    all_goals refine HEN.out.mono ?_
    all_goals rintro e w1 ⟨A1, c1, rfl, hc1, hu1, g1⟩
    all_goals have HU1 := hidden hu1
    all_goals have HG1 := hidden g1
    all_goals have HC1 := hidden hc1
    all_goals clear hu1 g1 hc1
    all_goals go_wp2_with fail
    all_goals refine (HAT.out A1 c1 w1 HU1.out HC1.out).mono ?_
    all_goals rintro e w2 ⟨rfl, g2⟩
    all_goals have HG2 := hidden (HG1.out.of_below g2)
    all_goals clear g2
    all_goals go_wp2_with fail
    all_goals refine (awakeF_any w2).mono ?_
    all_goals rintro e w3 ⟨rfl, g3⟩
    all_goals have HG3 := hidden (HG2.out.of_below g3)
    all_goals clear g3
    all_goals go_wp2_with fail
    all_goals go_ret
    all_goals exact ⟨rfl, HG3.out⟩
  · obtain ⟨k, rfl⟩ := Int.eq_ofNat_of_zero_le (a := i) (by omega)
    have hk : k < l.length := by omega
    have hd1 : decide ((k : Int) < 0) = false := by simp
    have hd2 : decide (l.length ≤ k) = false := by simp; omega
    have HR := hidden (HATI.out k hk)
    rw [HR.out] at HAT
    have HCK := hidden (fun w' (h : Grows w w') => (IsI.grow HV.out h).at_ hk)
    have hx := hin _ (List.getElem_mem hk)
    generalize l[k] = x at *
    clear hi HR HATI HATO
    go_enter Try.func5, Try.ntmps5
    go_wp2_with fail
    refine HEN.out.mono ?_
    rintro e w1 ⟨A1, c1, rfl, hc1, hu1, g1⟩
    have HU1 := hidden hu1
    have HG1 := hidden g1
    have HC1 := hidden hc1
    clear hu1 g1 hc1
    go_wp2_with fail
    refine (HAT.out A1 c1 w1 HU1.out HC1.out).mono ?_
    rintro e w2 ⟨rfl, g2⟩
    have HG2 := hidden (HG1.out.of_below g2)
    obtain ⟨bb, bf, rfl, hcell⟩ := HCK.out w2 HG2.out
    clear g2
    go_wp2_with fail
    refine (awakeF_any w2).mono ?_
    rintro e w3 ⟨rfl, g3⟩
    have HG3 := hidden (HG2.out.of_below g3)
    clear g3
    go_wp2_with fail
    go_ret
    exact ⟨rfl, HG3.out⟩
end Go.Proofs.Ytolpcoajkjlfeaa
