/-
  The reference's At, Ints and Equal over runs, and the laws' 'small'. Nothing that was there is changed.
-/
import Derived.Test.YtnjmbhakfecdoaaRl1
namespace Go.Proofs.Ytnjmbhakfecdoaa
open Go.RowKit
set_option linter.unusedVariables false
set_option linter.unusedSimpArgs false

def atV (l : List Rn) (i : Int) : Int × Bool :=
  if i < 0 then (0, false) else match atR l i with
  | some x => (x, true)
  | none => (0, false)
theorem atV_neg {l : List Rn} {i : Int} (h : i < 0) : atV l i = (0, false) := by unfold atV; rw [if_pos h]
theorem atV_some {l : List Rn} {i x : Int} (h : 0 ≤ i) (hx : atR l i = some x) : atV l i = (x, true) := by unfold atV; rw [if_neg (by omega), hx]
theorem atV_none {l : List Rn} {i : Int} (h : 0 ≤ i) (hx : atR l i = none) : atV l i = (0, false) := by unfold atV; rw [if_neg (by omega), hx]
def RAtRel (w : World) (l : List Rn) (i0 : Int) (i k : Value) (wr : World) : Prop :=
  ∃ (j : Nat) (i' : Int), j ≤ l.length ∧ k = .int .i64 (j : Int) ∧ i = .int .i64 i' ∧ (0 ≤ i' ∧ i' ≤ i0) ∧ atR (l.drop j) i' = atR l i0 ∧ w = wr
set_option maxHeartbeats 1000000 in
theorem rlat_any (v : Value) (l : List Rn) (i : Int) (w : World) (hv : ReadsR w v l) (hn : ∀ x ∈ l, 0 ≤ x.2) (hl : l.length ≤ 9223372036854775806) (h64 : i ≤ 9223372036854775807) :
    Calls Try.prog 19 #[v, .int .i64 i] w fun e w' => e = .returned (.tuple #[.int .i64 (atV l i).1, .bool (atV l i).2]) ∧ w = w' := by
  have HV := hidden hv
  have HN := hidden hn
  obtain ⟨A, c, rfl⟩ := hv.slice_
  clear hv hn
  by_cases h0 : i < 0
  · have HE := hidden (atV_neg (l := l) h0)
    have d0 : decide (i < 0) = true := by simpa using h0
    go_enter Try.func19, Try.ntmps19
    go_wp2_with fail
    go_ret2
    rw [HE.out]
    exact ⟨rfl, rfl⟩
  · have hi0 : 0 ≤ i := by omega
    have d0 : decide (i < 0) = false := by simpa using h0
    go_enter Try.func19, Try.ntmps19
    go_wp2_with fail
    go_loopw [1, 6] (fun i' k wr => RAtRel w l i i' k wr) (fun _ k _ => l.length - (intOf k).toNat)
    case atStart => exact ⟨0, i, by omega, rfl, rfl, ⟨hi0, by omega⟩, rfl, rfl⟩
    case round =>
      obtain ⟨j, i', hj, rfl, rfl, hi', hat, rfl⟩ := hrel
      by_cases hlt : j < l.length
      · obtain ⟨b, off, hA, hc⟩ := HV.out.at_
        obtain rfl := hA (by omega)
        obtain ⟨c1, c2⟩ := hc j hlt
        have hcn := HN.out _ (List.getElem_mem hlt)
        rw [atR_drop hlt] at hat
        obtain ⟨x1, hx1⟩ : ∃ x, x = l[j].1 := ⟨_, rfl⟩
        obtain ⟨x2, hx2⟩ : ∃ x, x = l[j].2 := ⟨_, rfl⟩
        rw [← hx1] at c1 hat
        rw [← hx2] at c2 hat hcn
        clear hA hc hx1 hx2
        by_cases hin : i' < x2
        · rw [if_pos hin] at hat
          have HE := hidden (atV_some hi0 hat.symm)
          have d1 : decide (i' < x2) = true := by simpa using hin
          clear hat hin
          go_wp2_with fail
          go_ret2
          rw [HE.out]
          exact ⟨rfl, rfl⟩
        · rw [if_neg hin] at hat
          have HAT := hidden hat
          have d1 : decide (i' < x2) = false := by simpa using hin
          clear hat
          go_wp2_with fail
          exact ⟨⟨j + 1, i' - x2, by omega, by go_num, rfl, ⟨by omega, by omega⟩, HAT.out, rfl⟩, by simp [intOf]; omega⟩
      · have hke : j = l.length := by omega
        subst hke
        rw [List.drop_length] at hat
        have HE := hidden (atV_none hi0 hat.symm)
        clear hat
        go_wp2_with fail
        go_ret2
        rw [HE.out]
        exact ⟨rfl, rfl⟩

/-- v is a slice that reads as the integers of l -/
def IsI (w : World) (v : Value) (l : List Int) : Prop := Reads w v (icells l)
theorem IsI.grow {w w' : World} {v : Value} {l : List Int} (h : IsI w v l) (hb : Grows w w') : IsI w' v l := Reads.grow h hb
theorem IsI.slice_ {w : World} {v : Value} {l : List Int} (h : IsI w v l) : ∃ A c, v = .slice A l.length c := by
  obtain ⟨A, c, h1, h2⟩ := Reads.slice_ h
  rw [icells_length] at h1
  exact ⟨A, c, h1⟩
theorem IsI.at_ {w : World} {A : Option Addr} {c n : Nat} {l : List Int} (h : IsI w (.slice A n c) l) {k : Nat} (hk : k < l.length) : ∃ b f, A = some ⟨b, f, none⟩ ∧ w.cell? ⟨b, f + k, none⟩ = some (.int .i64 l[k]) := by
  obtain ⟨A', c', he, _, hc⟩ := h
  injection he with e1 e2 e3
  subst e1
  obtain ⟨b, f, rfl, hcell⟩ := hc (by rw [icells_length]; omega)
  refine ⟨b, f, rfl, ?_⟩
  rw [hcell k (by rw [icells_length]; exact hk), icells_get hk]
def sameI (a b : List Int) : Bool := decide (a = b)
def sameR (a b : List Rn) : Bool := decide (a = b)
theorem sameI_self (a : List Int) : sameI a a = true := by unfold sameI; simp
theorem sameR_self (a : List Rn) : sameR a a = true := by unfold sameR; simp
def SameIRel (w : World) (la lb : List Int) (k : Value) (wr : World) : Prop := ∃ j : Nat, j ≤ la.length ∧ k = .int .i64 (j : Int) ∧ la.take j = lb.take j ∧ Below w.heap.size w wr
set_option maxHeartbeats 1000000 in
theorem rlints_any (va vb : Value) (la lb : List Int) (w : World) (ha : IsI w va la) (hb : IsI w vb lb) (hl : la.length ≤ 9223372036854775806) (hl2 : lb.length ≤ 9223372036854775806) :
    Calls Try.prog 15 #[va, vb] w fun e w' => e = .returned (.bool (sameI la lb)) ∧ Below w.heap.size w w' := by
  obtain ⟨A, c, rfl⟩ := ha.slice_
  obtain ⟨B, d, rfl⟩ := hb.slice_
  have HRA := hidden ha
  have HRB := hidden hb
  clear ha hb
  by_cases hlen : la.length = lb.length
  · have hd1 : ((la.length : Int) != (lb.length : Int)) = false := by simp; omega
    have HLN := hidden hlen
    clear hlen
    go_enter Try.func15, Try.ntmps15
    go_wp2_with fail
    go_loopw [5] (fun k wr => SameIRel w la lb k wr) (fun k _ => la.length - (intOf k).toNat)
    case atStart => exact ⟨0, by omega, rfl, by simp, Below.refl _ _⟩
    case round =>
      obtain ⟨j, hj, rfl, hsame, hb⟩ := hrel
      have HB := hidden hb
      have HSM := hidden hsame
      have hlen := HLN.out
      clear hb hsame
      by_cases hlt : j < la.length
      · have hlt2 : j < lb.length := by omega
        obtain ⟨b1, o1, rfl, hy1⟩ := (HRA.out.grow HB.out).at_ hlt
        obtain ⟨b2, o2, rfl, hy2⟩ := (HRB.out.grow HB.out).at_ hlt2
        have HTA := hidden (List.take_succ_eq_append_getElem hlt)
        have HTB := hidden (List.take_succ_eq_append_getElem hlt2)
        clear hlen
        by_cases heq : la[j] = lb[j]
        · have hE : (la[j] != lb[j]) = false := by rw [heq]; simp
          have HEQ := hidden heq
          clear heq
          go_wp2_with fail
          go_quiet (fail)
          go_wp2
          go_roundw
          case rel =>
            refine ⟨j + 1, by omega, by go_num, ?_, draws_below HB.out _⟩
            rw [HTA.out, HTB.out, HSM.out, HEQ.out]
          case measure => simp [intOf]; omega
        · have hE : (la[j] != lb[j]) = true := by simpa using heq
          have HF := hidden (show sameI la lb = false by
            unfold sameI
            rw [decide_eq_false_iff_not]
            intro h
            subst h
            exact heq rfl)
          clear heq
          go_wp2_with fail
          go_quiet (fail)
          go_wp2
          go_ret
          exact ⟨retB (by rw [HF.out]), draws_below HB.out _⟩
      · have hje : j = la.length := by omega
        have hsame := HSM.out
        rw [hje, List.take_length, hlen, List.take_length] at hsame
        have HT2 := hidden (show sameI la lb = true by unfold sameI; simpa using hsame)
        have hnj : la.length ≤ j := by omega
        clear hsame hje hlen
        go_wp2
        go_ret
        exact ⟨retB (by rw [HT2.out]), HB.out⟩
  · have hd1 : ((la.length : Int) != (lb.length : Int)) = true := by simp; omega
    have HF := hidden (show sameI la lb = false by
      unfold sameI
      rw [decide_eq_false_iff_not]
      intro h
      exact hlen (by rw [h]))
    clear hlen
    go_enter Try.func15, Try.ntmps15
    go_wp2_with fail
    go_ret
    exact ⟨retB (by rw [HF.out]), Below.refl _ _⟩
end Go.Proofs.Ytnjmbhakfecdoaa
