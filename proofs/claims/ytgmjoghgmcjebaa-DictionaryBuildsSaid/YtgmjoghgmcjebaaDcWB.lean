/-
  The walk of the law DictionaryBuilds: it returns true for all strings; nothing that was there is changed.
-/
import Derived.Test.YtgmjoghgmcjebaaM14
import Derived.Test.YtgmjoghgmcjebaaM10
namespace Go.Proofs.Ytgmjoghgmcjebaa
open Go.RowKit
set_option linter.unusedVariables false
set_option linter.unusedSimpArgs false

theorem small_parts {l : List Str} (h : smallB l = true) : (∀ s ∈ l, s.length ≤ 4096) ∧ l.length ≤ 300 := by
  unfold smallB at h
  rw [Bool.and_eq_true, List.all_eq_true, decide_eq_true_eq] at h
  exact ⟨fun s hs => by simpa using h.1 s hs, h.2⟩
set_option maxRecDepth 20000 in
set_option maxHeartbeats 8000000 in
theorem law_builds10 (v : Value) (l : List Str) (s : Str) (w : World) (hv : IsS w v l) (hl : l.length ≤ 9223372036854775806) (hsl : s.length ≤ 140737488351232) :
    Calls Try.prog 3 #[v, .string (strOf s)] w fun e w' => e = .returned (.bool true) ∧ Below w.heap.size w w' := by
  have HSM := hidden (small10_any v l w hv hl)
  by_cases hsm : smallB l = true
  rotate_left
  · have hs2 : smallB l = false := by simpa using hsm
    rw [hs2] at HSM
    have HA := hidden (awake10_any w)
    clear hv hsm hs2
    go_enter Try.func3, Try.ntmps3
    go_wp2_with fail
    refine HSM.out.mono ?_
    rintro e w1 ⟨rfl, rfl⟩
    go_wp2_with fail
    refine HA.out.mono ?_
    rintro e w2 ⟨rfl, g2⟩
    go_wp2_with fail
    go_ret
    exact ⟨rfl, g2⟩
  rw [hsm] at HSM
  obtain ⟨hs1, hs2⟩ := small_parts hsm
  have hsz : (strOf s).size = s.length := rfl
  by_cases hbig : 4096 < s.length
  · have hd : decide ((4096 : Int) < (s.length : Int)) = true := by simp; omega
    have HA := hidden (awake10_any w)
    clear hv hs1
    generalize strOf s = t at *
    go_enter Try.func3, Try.ntmps3
    go_wp2_with fail
    refine HSM.out.mono ?_
    rintro e w1 ⟨rfl, rfl⟩
    go_wp2_with fail
    refine HA.out.mono ?_
    rintro e w2 ⟨rfl, g2⟩
    go_wp2_with fail
    go_ret
    exact ⟨rfl, g2⟩
  have hd : decide ((4096 : Int) < (s.length : Int)) = false := by simp; omega
  have HBU := hidden (build10_any v l w hv (by omega) (fun s h => by have := hs1 s h; unfold maxLen; omega))
  have HRB := hidden (fun W (h : Grows w W) => rbuild10_any v l W (hv.grow h) (by omega))
  have hwl := wordsOf_length l
  have HR := hidden (wordsOf_rising l)
  have hcl : (codesW (wordsOf l) l).length ≤ 300 := by simp [codesW]; omega
  generalize hcs : codesW (wordsOf l) l = cs at *
  generalize hws : wordsOf l = ws at *
  have HCS := hidden hcs
  have HWW := hidden hws
  clear hv hs1 hcs hws
  have HSZ := hidden hsz
  clear hsz
  have HST : Hid (∀ W u, IsS W u ws → Calls Try.prog 14 #[u, .string (strOf s)] W (findR ws s W)) := fun W u hu => find10_any u ws s W hu HR.out (by omega)
  have HSR : Hid (∀ W u, IsS W u ws → Calls Try.prog 15 #[u, .string (strOf s)] W (findR ws s W)) := fun W u hu => rfind10_any u ws s W hu (by omega)
  have hsz : (strOf s).size = s.length := HSZ.out
  unfold findR at HST HSR
  obtain ⟨fk, fb⟩ := findV ws s
  generalize strOf s = t at *
  go_enter Try.func3, Try.ntmps3
  go_wp2_with fail
  refine HSM.out.mono ?_
  rintro e w1 ⟨rfl, rfl⟩
  go_wp2_with fail
  refine HBU.out.mono ?_
  rintro e w2 ⟨v2, c2, rfl, g2, hS2, hN2⟩
  rw [HWW.out] at hS2 hN2
  rw [HCS.out] at hN2
  have HG2 := hidden g2
  have HS2 := hidden hS2
  have HN2 := hidden hN2
  have HRB2 := hidden (HRB.out w2 g2)
  clear g2 hS2 hN2
  go_wp2_with fail
  refine HRB2.out.mono ?_
  rintro e w3 ⟨v3, c3, rfl, g3, hS3, hN3⟩
  rw [HWW.out] at hS3 hN3
  rw [HCS.out] at hN3
  have HG3 := hidden (HG2.out.of_below g3)
  have HS3 := hidden hS3
  have HSS := hidden (strings10_any v2 v3 ws ws w3 (HS2.out.grow g3) hS3 (by omega) (by omega))
  have HII := hidden (fun W (h : Grows w3 W) => ints10_any c2 c3 cs cs W ((HN2.out.grow g3).grow h) (hN3.grow h) (by omega) (by omega))
  rw [sameS_self] at HSS
  simp only [sameCs_self] at HII
  clear g3 hS3 hN3
  go_wp2_with fail
  refine HSS.out.mono ?_
  rintro e w4 ⟨rfl, g4⟩
  have HG4 := hidden (HG3.out.of_below g4)
  have HS4 := hidden (HS3.out.grow g4)
  have HII4 := hidden (HII.out w4 g4)
  clear g4
  go_wp2_with fail
  refine HII4.out.mono ?_
  rintro e w5 ⟨rfl, g5⟩
  have HG5 := hidden (HG4.out.of_below g5)
  have HS5 := hidden (HS4.out.grow g5)
  clear g5
  go_wp2_with fail
  refine (HST.out w5 v3 HS5.out).mono ?_
  rintro e w6 ⟨rfl, g6⟩
  have HG6 := hidden (HG5.out.of_below g6)
  have HS6 := hidden (HS5.out.grow g6)
  clear g6
  go_wp2_with fail
  refine (HSR.out w6 v3 HS6.out).mono ?_
  rintro e w7 ⟨rfl, g7⟩
  have HG7 := hidden (HG6.out.of_below g7)
  have HA := hidden (awake10_any w7)
  clear g7
  go_wp2_with fail
  refine HA.out.mono ?_
  rintro e w8 ⟨rfl, g8⟩
  have HG8 := hidden (HG7.out.of_below g8)
  clear g8
  go_wp2_with fail
  go_ret
  exact ⟨rfl, HG8.out⟩
end Go.Proofs.Ytgmjoghgmcjebaa
