/-
  The law's small and the reference's Same. Nothing that was there is changed.
-/
import Derived.Test.YtcpdgkjelghlnaaFcS
namespace Go.Proofs.Ytcpdgkjelghlnaa
open Go.RowKit
set_option linter.unusedVariables false
set_option linter.unusedSimpArgs false

def smallB (l : List Str) : Bool := decide (l.length ≤ 100) && l.all (fun s => decide (s.length ≤ 100))
theorem small_parts {l : List Str} (h : smallB l = true) : (∀ s ∈ l, s.length ≤ 100) ∧ l.length ≤ 100 := by
  unfold smallB at h
  rw [Bool.and_eq_true, List.all_eq_true, decide_eq_true_eq] at h
  exact ⟨fun s hs => by simpa using h.2 s hs, h.1⟩
def SmallRel (l : List Str) (i : Value) : Prop := ∃ k : Nat, k ≤ l.length ∧ i = .int .i64 (k : Int) ∧ (l.take k).all (fun s => decide (s.length ≤ 100)) = true
set_option maxHeartbeats 1000000 in
theorem small11_any (v : Value) (l : List Str) (w : World) (hv : IsS w v l) (hl : l.length ≤ 9223372036854775806) :
    Calls Try.prog 8 #[v] w fun e w' => e = .returned (.bool (smallB l)) ∧ w = w' := by
  obtain ⟨A, c, rfl⟩ := hv.slice_
  have HV := hidden hv
  clear hv
  by_cases hbig : l.length ≤ 100
  rotate_left
  · have HF := hidden (show smallB l = false by unfold smallB; rw [decide_eq_false hbig]; rfl)
    have hd : decide ((100 : Int) < (l.length : Int)) = true := by simp; omega
    clear hbig
    go_enter Try.func8, Try.ntmps8
    go_wp2_with fail
    go_ret
    exact ⟨retB HF.out.symm, rfl⟩
  have hd : decide ((100 : Int) < (l.length : Int)) = false := by simp; omega
  have HBIG := hidden hbig
  go_enter Try.func8, Try.ntmps8
  go_wp2_with fail
  clear hd
  go_loop [10] (fun i => SmallRel l i) (fun i => l.length - (intOf i).toNat)
  case atStart => exact ⟨0, by omega, rfl, by simp⟩
  case round =>
    obtain ⟨k, hk, rfl, hall⟩ := hrel
    by_cases hlt : k < l.length
    · obtain ⟨b, f, rfl, hck⟩ := HV.out.at_ hlt
      have HT := hidden (List.take_succ_eq_append_getElem hlt)
      have hs : (strOf l[k]).size = l[k].length := rfl
      have HALL := hidden hall
      by_cases hlen : l[k].length ≤ 100
      · have HL := hidden hlen
        have hd : decide ((100 : Int) < (l[k].length : Int)) = false := by simp; omega
        clear hlen hall
        generalize l[k] = s at *
        go_wp2_with fail
        go_round
        case rel => exact ⟨k + 1, by omega, by go_num, by rw [HT.out, List.all_append, HALL.out]; simpa using HL.out⟩
        case measure => simp [intOf]; omega
      · have HF := hidden (show smallB l = false by
          unfold smallB
          rw [List.all_eq_false.2 ⟨l[k], List.getElem_mem hlt, by simpa using hlen⟩, Bool.and_false])
        have hd : decide ((100 : Int) < (l[k].length : Int)) = true := by simp; omega
        clear hlen hall HT
        generalize l[k] = s at *
        go_wp2_with fail
        go_ret
        exact ⟨retB HF.out.symm, rfl⟩
    · have hke : k = l.length := by omega
      have hall2 : l.all (fun s => decide (s.length ≤ 100)) = true := by rw [hke, List.take_length] at hall; exact hall
      have HF := hidden (show smallB l = true by unfold smallB; rw [hall2, decide_eq_true HBIG.out]; rfl)
      clear hall hall2
      go_wp2_with fail
      go_ret
      exact ⟨retB HF.out.symm, rfl⟩
def sameS (a b : List Str) : Bool := decide (a = b)
theorem sameS_self (a : List Str) : sameS a a = true := by unfold sameS; simp
def SameSRel (w : World) (la lb : List Str) (k : Value) (wr : World) : Prop := ∃ j : Nat, j ≤ la.length ∧ k = .int .i64 (j : Int) ∧ la.take j = lb.take j ∧ Below w.heap.size w wr
set_option maxHeartbeats 1000000 in
theorem same11_any (va vb : Value) (la lb : List Str) (w : World) (ha : IsS w va la) (hb : IsS w vb lb) (hl : la.length ≤ 9223372036854775806) (hl2 : lb.length ≤ 9223372036854775806) :
    Calls Try.prog 18 #[va, vb] w fun e w' => e = .returned (.bool (sameS la lb)) ∧ Grows w w' := by
  obtain ⟨A, c, rfl⟩ := ha.slice_
  obtain ⟨B, d, rfl⟩ := hb.slice_
  have HRA := hidden ha
  have HRB := hidden hb
  clear ha hb
  by_cases hlen : la.length = lb.length
  · have hd1 : ((la.length : Int) != (lb.length : Int)) = false := by simp; omega
    have HLN := hidden hlen
    clear hlen
    go_enter Try.func18, Try.ntmps18
    go_wp2_with fail
    go_loopw [5] (fun k wr => SameSRel w la lb k wr) (fun k _ => la.length - (intOf k).toNat)
    case atStart => exact ⟨0, by omega, rfl, by simp, Below.refl _ _⟩
    case round =>
      obtain ⟨j, hj, rfl, hsame, hb⟩ := hrel
      have HB := hidden hb
      have HSM := hidden hsame
      have hlen := HLN.out
      clear hb hsame
      by_cases hlt : j < la.length
      · have hlt2 : j < lb.length := by omega
        obtain ⟨b1, o1, rfl, hy1⟩ := (HRA.out.grow HB.out).at_ hlt
        obtain ⟨b2, o2, rfl, hy2⟩ := (HRB.out.grow HB.out).at_ hlt2
        have HTA := hidden (List.take_succ_eq_append_getElem hlt)
        have HTB := hidden (List.take_succ_eq_append_getElem hlt2)
        have hE := eqS la[j] lb[j]
        clear hlen
        by_cases heq : la[j] = lb[j]
        · simp only [heq, decide_true] at hE
          rw [heq] at hy1 HTA
          have HEE := hidden hE
          generalize lb[j] = s at *
          have hE2 : ((strOf s).toList != (strOf s).toList) = false := by simp
          clear heq hE HEE
          go_wp2_with fail
          go_quiet (fail)
          go_wp2
          go_roundw
          case rel =>
            refine ⟨j + 1, by omega, by go_num, ?_, draws_below HB.out _⟩
            rw [HTA.out, HTB.out, HSM.out]
          case measure => simp [intOf]; omega
        · simp only [heq, decide_false] at hE
          have HF := hidden (show sameS la lb = false by
            unfold sameS
            rw [decide_eq_false_iff_not]
            intro h
            subst h
            exact heq rfl)
          have hE2 : ((strOf la[j]).toList != (strOf lb[j]).toList) = true := by unfold bne; rw [hE]; rfl
          clear heq HTA HTB
          generalize strOf la[j] = s at *
          generalize strOf lb[j] = t at *
          go_wp2_with fail
          go_quiet (fail)
          go_wp2
          go_ret
          exact ⟨retB (by rw [HF.out]), draws_below HB.out _⟩
      · have hje : j = la.length := by omega
        have hsame := HSM.out
        rw [hje, List.take_length, hlen, List.take_length] at hsame
        have HT2 := hidden (show sameS la lb = true by unfold sameS; simpa using hsame)
        have hnj : la.length ≤ j := by omega
        clear hsame hje hlen
        go_wp2
        go_ret
        exact ⟨retB HT2.out.symm, HB.out⟩
  · have hd1 : ((la.length : Int) != (lb.length : Int)) = true := by simp; omega
    have HF := hidden (show sameS la lb = false by unfold sameS; rw [decide_eq_false_iff_not]; intro h; subst h; exact hlen rfl)
    clear hlen
    go_enter Try.func18, Try.ntmps18
    go_wp2_with fail
    go_ret
    exact ⟨retB HF.out.symm, Below.refl _ _⟩
end Go.Proofs.Ytcpdgkjelghlnaa
