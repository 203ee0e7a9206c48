/-
  A slice that reads as a list of strings, and one that reads as codes; small, rising, ints, Strings, the reference's Find and Range. Nothing that was there is changed.
-/
import Derived.Test.YtgmjoghgmcjebaaM9
import Derived.Test.YtgmjoghgmcjebaaDcNum
import Derived.Test.YtgmjoghgmcjebaaM2
import Derived.Outline
import Derived.OwnWalk
import Derived.Deep.QuietTactic
import Derived.BigQuiet
import Derived.Laws.Cover1
namespace Go.Proofs.Ytgmjoghgmcjebaa
open Go.RowKit
set_option linter.unusedVariables false
set_option linter.unusedSimpArgs false

def scells (l : List Str) : List Value := l.map fun s => .string (strOf s)
theorem scells_length (l : List Str) : (scells l).length = l.length := by simp [scells]
theorem scells_get {l : List Str} {j : Nat} (h : j < l.length) : (scells l)[j]? = some (.string (strOf l[j])) := by simp [scells, h]
theorem scells_snoc (l : List Str) (s : Str) : scells (l ++ [s]) = scells l ++ [.string (strOf s)] := by simp [scells]
/-- v is a slice that reads as the strings of l -/
def IsS (w : World) (v : Value) (l : List Str) : Prop := Reads w v (scells l)
theorem IsS.grow {w w' : World} {v : Value} {l : List Str} (h : IsS w v l) (hb : Grows w w') : IsS w' v l := Reads.grow h hb
theorem IsS.slice_ {w : World} {v : Value} {l : List Str} (h : IsS w v l) : ∃ A c, v = .slice A l.length c := by
  obtain ⟨A, c, h1, h2⟩ := Reads.slice_ h
  rw [scells_length] at h1
  exact ⟨A, c, h1⟩
theorem IsS.at_ {w : World} {A : Option Addr} {c n : Nat} {l : List Str} (h : IsS w (.slice A n c) l) {k : Nat} (hk : k < l.length) : ∃ b f, A = some ⟨b, f, none⟩ ∧ w.cell? ⟨b, f + k, none⟩ = some (.string (strOf l[k])) := by
  obtain ⟨A', c', he, _, hc⟩ := h
  injection he with e1 e2 e3
  subst e1
  obtain ⟨b, f, rfl, hcell⟩ := hc (by rw [scells_length]; omega)
  refine ⟨b, f, rfl, ?_⟩
  rw [hcell k (by rw [scells_length]; exact hk), scells_get hk]
theorem IsS.all_ {w : World} {A : Option Addr} {c n : Nat} {l : List Str} (h : IsS w (.slice A n c) l) (h0 : 0 < l.length) : ∃ b f, A = some ⟨b, f, none⟩ ∧ ∀ W, Grows w W → ∀ k, (hk : k < l.length) → W.cell? ⟨b, f + k, none⟩ = some (.string (strOf l[k])) := by
  obtain ⟨b, f, rfl, _⟩ := h.at_ h0
  refine ⟨b, f, rfl, fun W hW k hk => ?_⟩
  obtain ⟨b2, f2, he, hc⟩ := (h.grow hW).at_ hk
  injection he with he
  injection he with e1 e2
  subst e1 e2
  exact hc
def IsN (w : World) (v : Value) (l : List Nat) : Prop := Reads w v (ncells l)
theorem IsN.grow {w w' : World} {v : Value} {l : List Nat} (h : IsN w v l) (hb : Grows w w') : IsN w' v l := Reads.grow h hb
theorem IsN.slice_ {w : World} {v : Value} {l : List Nat} (h : IsN w v l) : ∃ A c, v = .slice A l.length c := by
  obtain ⟨A, c, h1, h2⟩ := Reads.slice_ h
  rw [ncells_length] at h1
  exact ⟨A, c, h1⟩
theorem IsN.at_ {w : World} {A : Option Addr} {c n : Nat} {l : List Nat} (h : IsN w (.slice A n c) l) {k : Nat} (hk : k < l.length) : ∃ b f, A = some ⟨b, f, none⟩ ∧ w.cell? ⟨b, f + k, none⟩ = some (.int .i64 (l[k] : Int)) := by
  obtain ⟨A', c', he, _, hc⟩ := h
  injection he with e1 e2 e3
  subst e1
  obtain ⟨b, f, rfl, hcell⟩ := hc (by rw [ncells_length]; omega)
  refine ⟨b, f, rfl, ?_⟩
  rw [hcell k (by rw [ncells_length]; exact hk), ncells_get hk]

def smallB (l : List Str) : Bool := l.all (fun s => decide (s.length ≤ 4096)) && decide (l.length ≤ 300)
def SmallRel (l : List Str) (i : Value) : Prop := ∃ k : Nat, k ≤ l.length ∧ i = .int .i64 (k : Int) ∧ (l.take k).all (fun s => decide (s.length ≤ 4096)) = true
set_option maxHeartbeats 1000000 in
theorem small10_any (v : Value) (l : List Str) (w : World) (hv : IsS w v l) (hl : l.length ≤ 9223372036854775806) :
    Calls Try.prog 8 #[v] w fun e w' => e = .returned (.bool (smallB l)) ∧ w = w' := by
  obtain ⟨A, c, rfl⟩ := hv.slice_
  have HV := hidden hv
  clear hv
  go_enter Try.func8, Try.ntmps8
  go_wp2_with fail
  go_loop [3] (fun i => SmallRel l i) (fun i => l.length - (intOf i).toNat)
  case atStart => exact ⟨0, by omega, rfl, by simp⟩
  case round =>
    obtain ⟨k, hk, rfl, hall⟩ := hrel
    by_cases hlt : k < l.length
    · obtain ⟨b, f, rfl, hck⟩ := HV.out.at_ hlt
      have HT := hidden (List.take_succ_eq_append_getElem hlt)
      have hs : (strOf l[k]).size = l[k].length := rfl
      have HALL := hidden hall
      by_cases hlen : l[k].length ≤ 4096
      · have HL := hidden hlen
        have hd : decide ((4096 : Int) < (l[k].length : Int)) = false := by simp; omega
        clear hlen hall
        generalize l[k] = s at *
        go_wp2_with fail
        go_round
        case rel => exact ⟨k + 1, by omega, by go_num, by rw [HT.out, List.all_append, HALL.out]; simpa using HL.out⟩
        case measure => simp [intOf]; omega
      · have HF := hidden (show smallB l = false by
          unfold smallB
          rw [List.all_eq_false.2 ⟨l[k], List.getElem_mem hlt, by simpa using hlen⟩]
          rfl)
        have hd : decide ((4096 : Int) < (l[k].length : Int)) = true := by simp; omega
        clear hlen hall HT
        generalize l[k] = s at *
        go_wp2_with fail
        go_ret
        exact ⟨retB HF.out.symm, rfl⟩
    · have hke : k = l.length := by omega
      have hall2 : l.all (fun s => decide (s.length ≤ 4096)) = true := by rw [hke, List.take_length] at hall; exact hall
      have HF := hidden (show smallB l = decide (l.length ≤ 300) by unfold smallB; rw [hall2]; rfl)
      clear hall hall2
      go_wp2_with fail
      go_ret
      refine ⟨retB ?_, rfl⟩
      rw [HF.out]
      first | rfl | (simp; omega)
def risingB (l : List Str) : Bool := decide (RisingL l)
theorem rising_of_get {l : List Str} (h : ∀ k, (h1 : k + 1 < l.length) → l[k] < l[k + 1]) : RisingL l := by
  refine List.pairwise_iff_getElem.2 fun i j hi hj hij => ?_
  obtain ⟨d, rfl⟩ : ∃ d, j = i + 1 + d := ⟨j - (i + 1), by omega⟩
  clear hij
  induction d with
  | zero => exact h i (by omega)
  | succ d ih => exact slt_trans (ih (by omega)) (h (i + 1 + d) (by omega))
def RisingRel (w : World) (l : List Str) (i : Value) (wr : World) : Prop := ∃ k : Nat, 1 ≤ k ∧ i = .int .i64 (k : Int) ∧ (1 ≤ l.length → k ≤ l.length) ∧ (∀ j, (h : j + 1 < l.length) → j + 1 < k → l[j] < l[j + 1]) ∧ Below w.heap.size w wr
set_option maxHeartbeats 1000000 in
theorem rising10_any (v : Value) (l : List Str) (w : World) (hv : IsS w v l) (hl : l.length ≤ 9223372036854775806) :
    Calls Try.prog 16 #[v] w fun e w' => e = .returned (.bool (risingB l)) ∧ Grows w w' := by
  obtain ⟨A, c, rfl⟩ := hv.slice_
  have HV := hidden hv
  clear hv
  go_enter Try.func16, Try.ntmps16
  go_wp2_with fail
  go_loopw [3] (fun i wr => RisingRel w l i wr) (fun i _ => l.length - (intOf i).toNat)
  case atStart => exact ⟨1, by omega, rfl, fun h => h, fun j h hj => by omega, Below.refl _ _⟩
  case round =>
    obtain ⟨k, hk1, rfl, hkl, hall, hb⟩ := hrel
    have HB := hidden hb
    have HALL := hidden hall
    clear hb hall
    by_cases hlt : k < l.length
    · obtain ⟨K, hK⟩ : ∃ K, k = K + 1 := ⟨k - 1, by omega⟩
      have HK := hidden hK
      have hK1 : (k : Int) - 1 = (K : Int) := by omega
      have hK2 : IntKind.i64.wrap (K : Int) = (K : Int) := by rw [IntKind.wrap_i64]; omega
      have hKl : K < l.length := by omega
      obtain ⟨b, f, rfl, hck⟩ := (HV.out.grow HB.out).at_ hlt
      obtain ⟨b2, f2, he, hck2⟩ := (HV.out.grow HB.out).at_ hKl
      injection he with he
      injection he with e1 e2
      subst e1 e2
      have hle := leS l[k] l[K]
      have HR : Hid (l[K] < l[k] ∨ ¬ l[K] < l[k]) := Classical.em _
      obtain ⟨s, hs⟩ : ∃ s, s = l[K] := ⟨_, rfl⟩
      obtain ⟨t, ht⟩ : ∃ t, t = l[k] := ⟨_, rfl⟩
      rw [← hs] at hle hck2 HR
      rw [← ht] at hle hck HR
      have HS := hidden hs
      have HT := hidden ht
      clear hkl hK hs ht
      by_cases hr : s < t
      · have HR := hidden hr
        simp only [hr, decide_true, Bool.not_true] at hle
        clear hr
        generalize hS' : strOf s = s' at *
        generalize hT' : strOf t = t' at *
        clear hS' hT'
        go_wp2_with fail
        go_quiet (fail)
        go_wp2
        go_roundw
        case rel =>
          have hK := HK.out
          refine ⟨k + 1, by omega, by go_num, fun _ => by omega, fun j h hj => ?_, draws_below HB.out _⟩
          rcases Nat.lt_or_ge (j + 1) k with q | q
          · exact HALL.out j h q
          · have e1 : j = K := by omega
            subst e1
            have h1 := HR.out
            rw [HS.out, HT.out] at h1
            simpa [hK] using h1
        case measure => simp [intOf]; omega
      · have HF := hidden (show risingB l = false by
          unfold risingB
          rw [decide_eq_false_iff_not]
          have hK := HK.out
          rw [HS.out, HT.out] at hr
          exact fun h => hr (rising_get h hKl hlt (by omega)))
        simp only [hr, decide_false, Bool.not_false] at hle
        clear hr
        generalize hS' : strOf s = s' at *
        generalize hT' : strOf t = t' at *
        clear hS' hT'
        go_wp2_with fail
        go_quiet (fail)
        go_wp2
        go_ret
        exact ⟨retB HF.out.symm, draws_below HB.out _⟩
    · have HF := hidden (show risingB l = true by
        unfold risingB
        rw [decide_eq_true_eq]
        exact rising_of_get fun j h => HALL.out j h (by omega))
      clear hkl
      go_wp2_with fail
      go_ret
      exact ⟨retB HF.out.symm, HB.out⟩
def sameCs (a b : List Nat) : Bool := decide (a = b)
def SameCsRel (w : World) (la lb : List Nat) (k : Value) (wr : World) : Prop := ∃ j : Nat, j ≤ la.length ∧ k = .int .i64 (j : Int) ∧ la.take j = lb.take j ∧ Below w.heap.size w wr
set_option maxHeartbeats 1000000 in
theorem ints10_any (va vb : Value) (la lb : List Nat) (w : World) (ha : IsN w va la) (hb : IsN w vb lb) (hl : la.length ≤ 9223372036854775806) (hl2 : lb.length ≤ 9223372036854775806) :
    Calls Try.prog 13 #[va, vb] w fun e w' => e = .returned (.bool (sameCs la lb)) ∧ Grows w w' := by
  obtain ⟨A, c, rfl⟩ := ha.slice_
  obtain ⟨B, d, rfl⟩ := hb.slice_
  have HRA := hidden ha
  have HRB := hidden hb
  clear ha hb
  by_cases hlen : la.length = lb.length
  · have hd1 : ((la.length : Int) != (lb.length : Int)) = false := by simp; omega
    have HLN := hidden hlen
    clear hlen
    go_enter Try.func13, Try.ntmps13
    go_wp2_with fail
    go_loopw [5] (fun k wr => SameCsRel w la lb k wr) (fun k _ => la.length - (intOf k).toNat)
    case atStart => exact ⟨0, by omega, rfl, by simp, Below.refl _ _⟩
    case round =>
      obtain ⟨j, hj, rfl, hsame, hb⟩ := hrel
      have HB := hidden hb
      have HSM := hidden hsame
      have hlen := HLN.out
      clear hb hsame
      by_cases hlt : j < la.length
      · have hlt2 : j < lb.length := by omega
        obtain ⟨b1, o1, rfl, hy1⟩ := (HRA.out.grow HB.out).at_ hlt
        obtain ⟨b2, o2, rfl, hy2⟩ := (HRB.out.grow HB.out).at_ hlt2
        have HTA := hidden (List.take_succ_eq_append_getElem hlt)
        have HTB := hidden (List.take_succ_eq_append_getElem hlt2)
        clear hlen
        by_cases heq : la[j] = lb[j]
        · have hE : ((la[j] : Int) != (lb[j] : Int)) = false := by rw [heq]; simp
          have HEQ := hidden heq
          clear heq
          go_wp2_with fail
          go_quiet (fail)
          go_wp2
          go_roundw
          case rel =>
            refine ⟨j + 1, by omega, by go_num, ?_, draws_below HB.out _⟩
            rw [HTA.out, HTB.out, HSM.out, HEQ.out]
          case measure => simp [intOf]; omega
        · have hE : ((la[j] : Int) != (lb[j] : Int)) = true := by simp; omega
          have HF := hidden (show sameCs la lb = false by
            unfold sameCs
            rw [decide_eq_false_iff_not]
            intro h
            subst h
            exact heq rfl)
          clear heq
          go_wp2_with fail
          go_quiet (fail)
          go_wp2
          go_ret
          exact ⟨retB (by rw [HF.out]), draws_below HB.out _⟩
      · have hje : j = la.length := by omega
        have hsame := HSM.out
        rw [hje, List.take_length, hlen, List.take_length] at hsame
        have HT2 := hidden (show sameCs la lb = true by unfold sameCs; simpa using hsame)
        have hnj : la.length ≤ j := by omega
        clear hsame hje hlen
        go_wp2
        go_ret
        exact ⟨retB HT2.out.symm, HB.out⟩
  · have hd1 : ((la.length : Int) != (lb.length : Int)) = true := by simp; omega
    have HF := hidden (show sameCs la lb = false by unfold sameCs; rw [decide_eq_false_iff_not]; intro h; subst h; exact hlen rfl)
    clear hlen
    go_enter Try.func13, Try.ntmps13
    go_wp2_with fail
    go_ret
    exact ⟨retB HF.out.symm, Below.refl _ _⟩
def sameS (a b : List Str) : Bool := decide (a = b)
theorem sameS_self (a : List Str) : sameS a a = true := by unfold sameS; simp
theorem sameCs_self (a : List Nat) : sameCs a a = true := by unfold sameCs; simp
def SameSRel (w : World) (la lb : List Str) (k : Value) (wr : World) : Prop := ∃ j : Nat, j ≤ la.length ∧ k = .int .i64 (j : Int) ∧ la.take j = lb.take j ∧ Below w.heap.size w wr
set_option maxHeartbeats 1000000 in
theorem strings10_any (va vb : Value) (la lb : List Str) (w : World) (ha : IsS w va la) (hb : IsS w vb lb) (hl : la.length ≤ 9223372036854775806) (hl2 : lb.length ≤ 9223372036854775806) :
    Calls Try.prog 12 #[va, vb] w fun e w' => e = .returned (.bool (sameS la lb)) ∧ Grows w w' := by
  obtain ⟨A, c, rfl⟩ := ha.slice_
  obtain ⟨B, d, rfl⟩ := hb.slice_
  have HRA := hidden ha
  have HRB := hidden hb
  clear ha hb
  by_cases hlen : la.length = lb.length
  · have hd1 : ((la.length : Int) != (lb.length : Int)) = false := by simp; omega
    have HLN := hidden hlen
    clear hlen
    go_enter Try.func12, Try.ntmps12
    go_wp2_with fail
    go_loopw [5] (fun k wr => SameSRel w la lb k wr) (fun k _ => la.length - (intOf k).toNat)
    case atStart => exact ⟨0, by omega, rfl, by simp, Below.refl _ _⟩
    case round =>
      obtain ⟨j, hj, rfl, hsame, hb⟩ := hrel
      have HB := hidden hb
      have HSM := hidden hsame
      have hlen := HLN.out
      clear hb hsame
      by_cases hlt : j < la.length
      · have hlt2 : j < lb.length := by omega
        obtain ⟨b1, o1, rfl, hy1⟩ := (HRA.out.grow HB.out).at_ hlt
        obtain ⟨b2, o2, rfl, hy2⟩ := (HRB.out.grow HB.out).at_ hlt2
        have HTA := hidden (List.take_succ_eq_append_getElem hlt)
        have HTB := hidden (List.take_succ_eq_append_getElem hlt2)
        have hE := eqS la[j] lb[j]
        clear hlen
        by_cases heq : la[j] = lb[j]
        · simp only [heq, decide_true] at hE
          rw [heq] at hy1 HTA
          have HEE := hidden hE
          generalize lb[j] = s at *
          have hE2 : ((strOf s).toList != (strOf s).toList) = false := by simp
          clear heq hE HEE
          go_wp2_with fail
          go_quiet (fail)
          go_wp2
          go_roundw
          case rel =>
            refine ⟨j + 1, by omega, by go_num, ?_, draws_below HB.out _⟩
            rw [HTA.out, HTB.out, HSM.out]
          case measure => simp [intOf]; omega
        · simp only [heq, decide_false] at hE
          have HF := hidden (show sameS la lb = false by
            unfold sameS
            rw [decide_eq_false_iff_not]
            intro h
            subst h
            exact heq rfl)
          have hE2 : ((strOf la[j]).toList != (strOf lb[j]).toList) = true := by unfold bne; rw [hE]; rfl
          clear heq HTA HTB
          generalize strOf la[j] = s at *
          generalize strOf lb[j] = t at *
          go_wp2_with fail
          go_quiet (fail)
          go_wp2
          go_ret
          exact ⟨retB (by rw [HF.out]), draws_below HB.out _⟩
      · have hje : j = la.length := by omega
        have hsame := HSM.out
        rw [hje, List.take_length, hlen, List.take_length] at hsame
        have HT2 := hidden (show sameS la lb = true by unfold sameS; simpa using hsame)
        have hnj : la.length ≤ j := by omega
        clear hsame hje hlen
        go_wp2
        go_ret
        exact ⟨retB HT2.out.symm, HB.out⟩
  · have hd1 : ((la.length : Int) != (lb.length : Int)) = true := by simp; omega
    have HF := hidden (show sameS la lb = false by unfold sameS; rw [decide_eq_false_iff_not]; intro h; subst h; exact hlen rfl)
    clear hlen
    go_enter Try.func12, Try.ntmps12
    go_wp2_with fail
    go_ret
    exact ⟨retB HF.out.symm, Below.refl _ _⟩
end Go.Proofs.Ytgmjoghgmcjebaa
