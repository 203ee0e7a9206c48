/-
  The walk of the law DeltaInverse: it returns true for all values; nothing that was there is changed.
-/
import Derived.Test.YtjjeebaelpgjlaaDw0
namespace Go.Proofs.Ytjjeebaelpgjlaa
open Go.RowKit
set_option linter.unusedVariables false
set_option linter.unusedSimpArgs false

set_option maxRecDepth 20000 in
set_option maxHeartbeats 8000000 in
theorem law_inverse9 (x : Int) (v : Value) (l : List Int) (w : World) (hv : IsI w v l) (hin : ∀ x ∈ l, frIn x) (hx : frIn x) (hlm : l.length ≤ 9223372036854775806) :
    Calls Try.prog 5 #[.int .i64 x, v] w fun e w' => e = .returned (.bool true) ∧ Below w.heap.size w w' := by
  have HA0 := hidden (lives_any w)
  have HV := hidden hv
  obtain ⟨A, c, rfl⟩ := hv.slice_
  clear hv
  by_cases hbig : 300 < l.length
  · have hd : decide ((300 : Int) < (l.length : Int)) = true := by simp; omega
    clear hbig
    go_enter Try.func5, Try.ntmps5
    go_wp2_with fail
    refine HA0.out.mono ?_
    rintro e w1 ⟨rfl, g1⟩
    go_wp2_with fail
    go_ret
    exact ⟨rfl, g1⟩
  have hd : decide ((300 : Int) < (l.length : Int)) = false := by simp; omega
  have hl4 : l.length ≤ 300 := by omega
  have HPP := hidden (ps_any x (.slice A l.length c) l w HV.out (by omega))
  have HDP := hidden (dfL_psL l x hx hin)
  have HPL := hidden (psL_length l x)
  have HP0 : Hid (∀ h : 0 < (psL x l).length, (psL x l)[0] = x) := by
    intro h
    obtain ⟨t, ht⟩ := psL_head x l
    simp only [ht, List.getElem_cons_zero]
  generalize hPS : psL x l = PS at *
  have HPS := hidden hPS
  clear hbig hin hx hPS
  go_enter Try.func5, Try.ntmps5
  go_wp2_with fail
  refine HPP.out.mono ?_
  rintro e w1 ⟨v1, rfl, g1, hown1⟩
  have HI1 := hidden (show IsI w1 v1 PS from Reads.of_own hown1)
  have hp0 : 0 < PS.length := by have := HPL.out; omega
  obtain ⟨A1, c1, rfl⟩ := HI1.out.slice_
  obtain ⟨b, f, rfl, hck⟩ := HI1.out.at_ hp0
  rw [HP0.out hp0] at hck
  simp only [Nat.add_zero] at hck
  have HG1 := hidden g1
  have HDC := hidden (fun w' (h : Grows w1 w') => diff_any (.slice (some ⟨b, f, none⟩) PS.length c1) PS w' (IsI.grow HI1.out h) (by have := HPL.out; omega))
  rw [HDP.out] at HDC
  obtain ⟨m, hm⟩ : ∃ m, m = PS.length := ⟨_, rfl⟩
  have hml : m = l.length + 1 := by have := HPL.out; omega
  have he : ((m : Int) == (l.length : Int) + 1) = true := by simp; omega
  have hm0 : (0 : Int) < (m : Int) := by omega
  have HM := hidden hm
  have HML := hidden hml
  rw [← hm] at HDC HI1 ⊢
  clear g1 hown1 hp0 hm hml
  go_wp2_with fail
  refine (HDC.out w1 (Below.refl _ _)).mono ?_
  rintro e w2 ⟨v2, rfl, g2, hown2⟩
  have HI2 := hidden (show IsI w2 v2 l from Reads.of_own hown2)
  have HG2 := hidden g2
  clear g2 hown2
  go_wp2_with fail
  refine (requal_self v2 _ l w2 HI2.out (IsI.grow HV.out (Grows.of_below HG1.out HG2.out)) (by omega)).mono ?_
  rintro e w3 ⟨rfl, g3⟩
  have HG3 := hidden (Grows.of_below HG2.out g3)
  clear g3
  go_wp2_with fail
  refine (HDC.out w3 HG3.out).mono ?_
  rintro e w4 ⟨v4, rfl, g4, hown4⟩
  have HI4 := hidden (show IsI w4 v4 l from Reads.of_own hown4)
  have HG4 := hidden (Grows.of_below HG3.out g4)
  clear g4 hown4
  go_wp2_with fail
  refine (ps_any x v4 l w4 HI4.out (by omega)).mono ?_
  rintro e w5 ⟨v5, rfl, g5, hown5⟩
  rw [HPS.out] at hown5
  have HI5 := hidden (show IsI w5 v5 PS from Reads.of_own hown5)
  have HG5 := hidden (Grows.of_below HG4.out g5)
  have HI15 := hidden (IsI.grow HI1.out (Grows.of_below HG4.out g5))
  clear g5 hown5
  go_wp2_with fail
  refine (requal_self v5 _ PS w5 HI5.out HI15.out (by have := HPL.out; omega)).mono ?_
  rintro e w6 ⟨rfl, g6⟩
  have HG6 := hidden (Grows.of_below HG1.out (Grows.of_below HG5.out g6))
  clear g6
  go_wp2_with fail
  refine (lives_any w6).mono ?_
  rintro e w7 ⟨rfl, g7⟩
  have HG7 := hidden (Grows.of_below HG6.out g7)
  clear g7
  go_wp2_with fail
  go_ret
  exact ⟨rfl, HG7.out⟩
end Go.Proofs.Ytjjeebaelpgjlaa
