/-
  The walk of the law DictionaryRanges: it returns true for all words, operators and strings; nothing that was there is changed.
-/
import Derived.Test.YtgmjoghgmcjebaaM14
import Derived.Test.YtgmjoghgmcjebaaVal2
namespace Go.Proofs.Ytgmjoghgmcjebaa
open Go.RowKit
set_option linter.unusedVariables false
set_option linter.unusedSimpArgs false

theorem small_partsR {l : List Str} (h : smallB l = true) : (∀ s ∈ l, s.length ≤ 4096) ∧ l.length ≤ 300 := by
  unfold smallB at h
  rw [Bool.and_eq_true, List.all_eq_true, decide_eq_true_eq] at h
  exact ⟨fun s hs => by simpa using h.1 s hs, h.2⟩
theorem cmpV_strs (a b : Str) : cmpV 3 0 (strOf a) 3 0 (strOf b) = if a < b then -1 else if b < a then 1 else 0 := by
  unfold cmpV gtS sgnV
  rw [if_pos rfl, if_pos rfl, lessS, eqS]
  rcases slt_tri a b with h | rfl | h
  · simp [h]
  · simp [slt_irrefl a]
  · simp [h, slt_asymm h, (slt_ne h).symm]
theorem range_holds {ws : List Str} (hr : RisingL ws) (s : Str) {i : Nat} (hi : i < ws.length) {op : Int} (h1 : 1 ≤ op) (h6 : op ≤ 6) (h2 : op ≠ 2) :
    holdsV op (cmpV 3 0 (strOf ws[i]) 3 0 (strOf s)) = (decide ((rangeV ws op s).1 ≤ i) && decide (i < (rangeV ws op s).2)) := by
  have hlo := loW_iff hr s hi
  have hhi := hiW_iff hr s hi
  rw [cmpV_strs]
  have hop : op = 1 ∨ op = 3 ∨ op = 4 ∨ op = 5 ∨ op = 6 := by omega
  have b1 := loW_le ws s
  have b2 := hiW_le ws s
  generalize loW ws s = lo at *
  rcases slt_tri ws[i] s with h | h | h
  · have q := slt_asymm h
    have a1 : i < loW ws s := (loW_iff hr s hi).1 h
    have a2 : i < hiW ws s := (hiW_iff hr s hi).1 q
    rw [if_pos h]
    rcases hop with rfl | rfl | rfl | rfl | rfl <;> simp [holdsV, rangeV] <;> omega
  · have q1 : ¬ ws[i] < s := h ▸ slt_irrefl _
    have q2 : ¬ s < ws[i] := h ▸ slt_irrefl _
    have a1 : ¬ i < loW ws s := fun k => q1 ((loW_iff hr s hi).2 k)
    have a2 : i < hiW ws s := (hiW_iff hr s hi).1 q2
    rw [if_neg q1, if_neg q2]
    rcases hop with rfl | rfl | rfl | rfl | rfl <;> simp [holdsV, rangeV] <;> omega
  · have q := slt_asymm h
    have a1 : ¬ i < loW ws s := fun k => q ((loW_iff hr s hi).2 k)
    have a2 : ¬ i < hiW ws s := fun k => ((hiW_iff hr s hi).2 k) h
    rw [if_neg q, if_pos h]
    rcases hop with rfl | rfl | rfl | rfl | rfl <;> simp [holdsV, rangeV] <;> omega
def LRRel (w : World) (n : Nat) (i : Value) (wr : World) : Prop := ∃ k : Nat, k ≤ n ∧ i = .int .i64 (k : Int) ∧ Grows w wr
set_option maxRecDepth 20000 in
set_option maxHeartbeats 8000000 in
theorem law_ranges10 (v : Value) (l : List Str) (op : Int) (s : Str) (w : World) (hv : IsS w v l) (hl : l.length ≤ 9223372036854775806) (hsl : s.length ≤ 140737488351232) :
    Calls Try.prog 4 #[v, .int .i64 op, .string (strOf s)] w fun e w' => e = .returned (.bool true) ∧ Below w.heap.size w w' := by
  have HSM := hidden (small10_any v l w hv hl)
  by_cases hsm : smallB l = true
  rotate_left
  · have hs2 : smallB l = false := by simpa using hsm
    rw [hs2] at HSM
    have HA := hidden (awake10_any w)
    clear hv hsm hs2
    go_enter Try.func4, Try.ntmps4
    go_wp2_with fail
    refine HSM.out.mono ?_
    rintro e w1 ⟨rfl, rfl⟩
    go_wp2_with fail
    refine HA.out.mono ?_
    rintro e w2 ⟨rfl, g2⟩
    go_wp2_with fail
    go_ret
    exact ⟨rfl, g2⟩
  rw [hsm] at HSM
  obtain ⟨hs1, hs2⟩ := small_partsR hsm
  have HRI := hidden (rising10_any v l w hv hl)
  by_cases hri : risingB l = true
  rotate_left
  · have hs2 : risingB l = false := by simpa using hri
    rw [hs2] at HRI
    have HA := hidden (fun W => awake10_any W)
    clear hv hri hs2 hs1
    go_enter Try.func4, Try.ntmps4
    go_wp2_with fail
    refine HSM.out.mono ?_
    rintro e w1 ⟨rfl, rfl⟩
    go_wp2_with fail
    refine HRI.out.mono ?_
    rintro e w2 ⟨rfl, g2⟩
    have HG2 := hidden g2
    clear g2
    go_wp2_with fail
    refine (HA.out w2).mono ?_
    rintro e w3 ⟨rfl, g3⟩
    have HG3 := hidden (HG2.out.of_below g3)
    clear g3
    go_wp2_with fail
    go_ret
    exact ⟨rfl, HG3.out⟩
  rw [hri] at HRI
  have hr : RisingL l := by unfold risingB at hri; simpa using hri
  have hsz : (strOf s).size = s.length := rfl
  by_cases hbig : 4096 < s.length
  · have hd : decide ((4096 : Int) < (s.length : Int)) = true := by simp; omega
    have HA := hidden (fun W => awake10_any W)
    clear hv hri hr hs1
    generalize strOf s = t at *
    go_enter Try.func4, Try.ntmps4
    go_wp2_with fail
    refine HSM.out.mono ?_
    rintro e w1 ⟨rfl, rfl⟩
    go_wp2_with fail
    refine HRI.out.mono ?_
    rintro e w2 ⟨rfl, g2⟩
    have HG2 := hidden g2
    clear g2
    go_wp2_with fail
    refine (HA.out w2).mono ?_
    rintro e w3 ⟨rfl, g3⟩
    have HG3 := hidden (HG2.out.of_below g3)
    clear g3
    go_wp2_with fail
    go_ret
    exact ⟨rfl, HG3.out⟩
  have hd : decide ((4096 : Int) < (s.length : Int)) = false := by simp; omega
  have HV := hidden hv
  have HPR := hidden (fun W (h : Grows w W) => range10_any v l op s W (hv.grow h) hr (by omega))
  have HRR := hidden (fun W (h : Grows w W) => rrange10_any v l op s W (hv.grow h) (by omega))
  unfold rangeR at HPR HRR
  obtain ⟨A, c, rfl⟩ := hv.slice_
  have HTS := hidden (show ∀ i, (hi : i < l.length) → 1 ≤ op → op ≤ 6 → op ≠ 2 → ∀ W, Calls Try.prog 20 #[.int .i64 op, .agg #[.int .i64 3, .int .i64 0, .string (strOf l[i])], .agg #[.int .i64 3, .int .i64 0, .string (strOf s)]] W
      fun e w' => e = .returned (.agg #[.int .i64 1, .int .i64 (if (decide ((rangeV l op s).1 ≤ i) && decide (i < (rangeV l op s).2)) then 1 else 0), .string ⟨#[]⟩]) ∧ Grows W w' from fun i hi h1 h6 h2 W => by
    have h := rtest_any op 3 0 3 0 (strOf l[i]) (strOf s) W
    have e : testV op 3 0 (strOf l[i]) 3 0 (strOf s) = boolV (decide ((rangeV l op s).1 ≤ i) && decide (i < (rangeV l op s).2)) := by
      unfold testV
      rw [if_neg (by omega), range_holds hr s hi h1 h6 h2]
    rw [e] at h
    exact h)
  generalize (rangeV l op s).1 = fr at *
  generalize (rangeV l op s).2 = to at *
  clear hv hri hr hs1
  generalize strOf s = t at *
  go_enter Try.func4, Try.ntmps4
  go_wp2_with fail
  refine HSM.out.mono ?_
  rintro e w1 ⟨rfl, rfl⟩
  go_wp2_with fail
  refine HRI.out.mono ?_
  rintro e w2 ⟨rfl, g2⟩
  have HG2 := hidden g2
  clear g2
  go_wp2_with fail
  refine (HPR.out w2 HG2.out).mono ?_
  rintro e w3 ⟨rfl, g3⟩
  have HG3 := hidden (HG2.out.of_below g3)
  clear g3
  go_wp2_with fail
  refine (HRR.out w3 HG3.out).mono ?_
  rintro e w4 ⟨rfl, g4⟩
  have HG4 := hidden (HG3.out.of_below g4)
  have hf1 : ((fr : Int) != (fr : Int)) = false := by simp
  have hf2 : ((to : Int) != (to : Int)) = false := by simp
  clear g4
  go_wp2_with fail
  go_loopw [11] (fun i wr => LRRel w l.length i wr) (fun i _ => l.length - (intOf i).toNat)
  case atStart => exact ⟨0, by omega, rfl, HG4.out⟩
  case round =>
    obtain ⟨k, hk, rfl, hb⟩ := hrel
    have HB := hidden hb
    clear hf1 hf2
    by_cases hlt : k < l.length
    · by_cases hop : 1 ≤ op ∧ op ≤ 6 ∧ op ≠ 2
      · obtain ⟨o1, o6, o2⟩ := hop
        have d1 : decide (1 ≤ op) = true := by simpa using o1
        have d6 : decide (op ≤ 6) = true := by simpa using o6
        have d2 : (op != 2) = true := by simpa using o2
        obtain ⟨b, f, rfl, hck⟩ := (HV.out.grow hb).at_ hlt
        have HT1 := hidden (HTS.out k hlt o1 o6 o2)
        generalize hx : strOf l[k] = x at *
        by_cases hF : fr ≤ k
        · have dF : decide (fr ≤ k) = true := by simpa using hF
          by_cases hT : k < to
          · have dT : decide (k < to) = true := by simpa using hT
            rw [dF, dT] at HT1
            simp only [Bool.and_self, if_true] at HT1
            clear hb hx o1 o6 o2 hF hT
            go_wp2_with fail
            refine (HT1.out _).mono ?_
            rintro e w5 ⟨rfl, g5⟩
            have HG5 := hidden (HB.out.of_below g5)
            clear g5
            go_wp2_with fail
            refine (ristrue_any 1 1 ⟨#[]⟩ w5).mono ?_
            rintro e w6 ⟨rfl, g6⟩
            have HG6 := hidden (HG5.out.of_below g6)
            clear g6
            go_wp2_with fail
            go_roundw
            case rel => exact ⟨k + 1, by omega, by go_num, HG6.out⟩
            case measure => simp [intOf]; omega
          · have dT : decide (k < to) = false := by simpa using hT
            rw [dF, dT] at HT1
            simp only [Bool.and_false, if_false, Bool.false_eq_true] at HT1
            clear hb hx o1 o6 o2 hF hT
            go_wp2_with fail
            refine (HT1.out _).mono ?_
            rintro e w5 ⟨rfl, g5⟩
            have HG5 := hidden (HB.out.of_below g5)
            clear g5
            go_wp2_with fail
            refine (ristrue_any 1 0 ⟨#[]⟩ w5).mono ?_
            rintro e w6 ⟨rfl, g6⟩
            have HG6 := hidden (HG5.out.of_below g6)
            clear g6
            go_wp2_with fail
            go_roundw
            case rel => exact ⟨k + 1, by omega, by go_num, HG6.out⟩
            case measure => simp [intOf]; omega
        · have dF : decide (fr ≤ k) = false := by simpa using hF
          rw [dF] at HT1
          simp only [Bool.false_and, if_false, Bool.false_eq_true] at HT1
          clear hb hx o1 o6 o2 hF
          go_wp2_with fail
          refine (HT1.out _).mono ?_
          rintro e w5 ⟨rfl, g5⟩
          have HG5 := hidden (HB.out.of_below g5)
          clear g5
          go_wp2_with fail
          refine (ristrue_any 1 0 ⟨#[]⟩ w5).mono ?_
          rintro e w6 ⟨rfl, g6⟩
          have HG6 := hidden (HG5.out.of_below g6)
          clear g6
          go_wp2_with fail
          go_roundw
          case rel => exact ⟨k + 1, by omega, by go_num, HG6.out⟩
          case measure => simp [intOf]; omega
      · have HA := hidden (awake10_any wr)
        by_cases o1 : 1 ≤ op
        · have d1 : decide (1 ≤ op) = true := by simpa using o1
          by_cases o6 : op ≤ 6
          · have d6 : decide (op ≤ 6) = true := by simpa using o6
            have d2 : (op != 2) = false := by simp; omega
            clear hb hop o1 o6
            go_wp2_with fail
            refine HA.out.mono ?_
            rintro e w5 ⟨rfl, g5⟩
            have HG5 := hidden (HB.out.of_below g5)
            clear g5
            go_wp2_with fail
            go_ret
            exact ⟨rfl, HG5.out⟩
          · have d6 : decide (op ≤ 6) = false := by simpa using o6
            clear hb hop o1 o6
            go_wp2_with fail
            refine HA.out.mono ?_
            rintro e w5 ⟨rfl, g5⟩
            have HG5 := hidden (HB.out.of_below g5)
            clear g5
            go_wp2_with fail
            go_ret
            exact ⟨rfl, HG5.out⟩
        · have d1 : decide (1 ≤ op) = false := by simpa using o1
          clear hb hop o1
          go_wp2_with fail
          refine HA.out.mono ?_
          rintro e w5 ⟨rfl, g5⟩
          have HG5 := hidden (HB.out.of_below g5)
          clear g5
          go_wp2_with fail
          go_ret
          exact ⟨rfl, HG5.out⟩
    · have HA := hidden (awake10_any wr)
      have hdl : decide (k < l.length) = false := by simpa using hlt
      clear hb
      go_wp2_with fail
      refine HA.out.mono ?_
      rintro e w5 ⟨rfl, g5⟩
      have HG5 := hidden (HB.out.of_below g5)
      clear g5
      go_wp2_with fail
      go_ret
      exact ⟨rfl, HG5.out⟩
end Go.Proofs.Ytgmjoghgmcjebaa
