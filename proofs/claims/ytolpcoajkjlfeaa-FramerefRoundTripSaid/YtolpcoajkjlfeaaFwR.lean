/-
  The walk of the law FramerefRoundTrip: it returns true for all bytes and values; nothing that was there is changed.
-/
import Derived.Test.YtolpcoajkjlfeaaFw1
namespace Go.Proofs.Ytolpcoajkjlfeaa
open Go.RowKit
set_option linter.unusedVariables false
set_option linter.unusedSimpArgs false

set_option maxRecDepth 20000 in
set_option maxHeartbeats 4000000 in
theorem law_roundtrip (A B : Option Addr) (c d : Nat) (p q : List UInt8) (v : Value) (l : List Int) (w : World) (hp : IsBytes w (.slice A p.length c) p) (hv : IsI w v l) (hq : IsBytes w (.slice B q.length d) q) (hin : ∀ x ∈ l, frIn x) (hpm : p.length ≤ 9223372036854775806) (hqm : q.length ≤ 9223372036854775806) (hlm : l.length ≤ 9223372036854775806) :
    Calls Try.prog 6 #[.slice A p.length c, v, .slice B q.length d] w fun e w' => e = .returned (.bool true) ∧ Below w.heap.size w w' := by
  have HA0 := hidden (awakeF_any w)
  have HP := hidden hp
  have HQ := hidden hq
  have HV := hidden hv
  obtain ⟨C, g, rfl⟩ := hv.slice_
  clear hp hq hv
  by_cases hbig : 300 < l.length ∨ 300 < p.length ∨ 300 < q.length
  · have hcase : decide ((300 : Int) < (l.length : Int)) = true ∨ (decide ((300 : Int) < (l.length : Int)) = false ∧ decide ((300 : Int) < (p.length : Int)) = true) ∨ (decide ((300 : Int) < (l.length : Int)) = false ∧ decide ((300 : Int) < (p.length : Int)) = false ∧ decide ((300 : Int) < (q.length : Int)) = true) := by
      simp only [decide_eq_true_eq, decide_eq_false_iff_not]
      omega
    clear hbig
    rcases hcase with h1 | ⟨h1, h2⟩ | ⟨h1, h2, h3⟩
    all_goals go_enter Try.func6, Try.ntmps6
    all_goals go_wp2_with fail
    all_goals refine HA0.out.mono ?_
    all_goals rintro e w1 ⟨rfl, g1⟩
    all_goals go_wp2_with fail
    all_goals go_ret
    all_goals exact ⟨rfl, g1⟩
  have e1 : decide ((300 : Int) < (l.length : Int)) = false := by simp; omega
  have e2 : decide ((300 : Int) < (p.length : Int)) = false := by simp; omega
  have e3 : decide ((300 : Int) < (q.length : Int)) = false := by simp; omega
  have hl3 : l.length ≤ 300 := by omega
  have hp3 : p.length ≤ 300 := by omega
  have hq3 : q.length ≤ 300 := by omega
  have HEN := hidden (encoded_any A B c d p q (.slice C l.length g) l w HP.out HV.out HQ.out hp3 hq3 (by omega) hin)
  have hel := encV_len l
  have hLL : (p ++ (encV l ++ q)).length ≤ 1048576 := by
    rw [List.length_append, List.length_append]
    omega
  have HDE := decV_enc p q hin (by omega)
  have HSZ := hidden (fun w' (h : Grows w w') => size_anyF (.slice C l.length g) l w' (IsI.grow HV.out h) (by omega) hin)
  rw [sizeV_len] at HSZ
  have HLN : (p ++ (encV l ++ q)).length = p.length + (encV l).length + q.length := by rw [List.length_append, List.length_append]; omega
  rw [List.length_append] at HDE
  obtain ⟨s, hs⟩ : ∃ s, s = (encV l).length := ⟨_, rfl⟩
  rw [← hs] at HSZ HLN HDE hel
  clear hbig
  obtain ⟨LL, hLLe⟩ : ∃ LL, LL = p ++ (encV l ++ q) := ⟨_, rfl⟩
  rw [← hLLe] at HEN hLL HDE HLN
  have HDC := hidden (fun A' c' w' hv' hc' => ldecodeF_any A' c' LL (p.length : Int) (l.length : Int) w' hv' hc' hLL (by omega) (by omega))
  rw [HDE] at HDC
  obtain ⟨T, hT⟩ : ∃ T, T = LL.length := ⟨_, rfl⟩
  rw [← hT] at HLN
  have hTq : (T : Int) - (q.length : Int) = ((p.length + s : Nat) : Int) := by omega
  have hTp : ((p.length + s : Nat) : Int) - (p.length : Int) = (s : Int) := by omega
  obtain ⟨U, hU⟩ : ∃ U, U = p.length + s := ⟨_, rfl⟩
  rw [← hU] at hTq hTp HDC
  have HT := hidden hT
  have hb1 : T ≤ 1048576 := by rw [hT]; exact hLL
  have hb2 : U ≤ 1048576 := by omega
  clear hLL hLLe HDE HLN hU hT hs
  have HLT := hidden (fun (A' : Option Addr) (c' : Nat) => show Value.slice A' LL.length c' = .slice A' T c' by rw [HT.out])
  go_enter Try.func6, Try.ntmps6
  go_wp2_with fail
  refine HEN.out.mono ?_
  rintro e w1 ⟨A1, c1, rfl, hc1, hu1, g1⟩
  have HG1 := hidden g1
  have HD1 := hidden (HDC.out A1 c1 w1 hu1 hc1)
  rw [HLT.out] at HD1 ⊢
  clear hu1 g1 hc1
  go_wp2_with fail
  refine HD1.out.mono ?_
  rintro e w2 ⟨v2, rfl, hv2, g2⟩
  have HG2 := hidden (HG1.out.of_below g2)
  have HSM := hidden (same_any v2 _ l l w2 hv2 (IsI.grow HV.out (HG1.out.of_below g2)) (by omega) (by omega))
  rw [sameI_self] at HSM
  clear g2 hv2
  go_wp2_with fail
  refine HSM.out.mono ?_
  rintro e w3 ⟨rfl, g3⟩
  have HG3 := hidden (HG2.out.of_below g3)
  have HS3 := hidden (HSZ.out w3 HG3.out)
  clear g3
  go_wp2_with fail
  refine HS3.out.mono ?_
  rintro e w4 ⟨rfl, g4⟩
  have HG4 := hidden (HG3.out.of_below g4)
  clear g4
  go_wp2_with fail
  refine (awakeF_any w4).mono ?_
  rintro e w5 ⟨rfl, g5⟩
  have HG5 := hidden (HG4.out.of_below g5)
  clear g5
  go_wp2_with fail
  go_ret
  exact ⟨rfl, HG5.out⟩
end Go.Proofs.Ytolpcoajkjlfeaa
