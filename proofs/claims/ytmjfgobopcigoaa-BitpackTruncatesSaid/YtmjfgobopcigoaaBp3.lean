/-
  The reference's Width and Equal, the package's Width: over slices of unsigned 64-bit numbers. Nothing that was there is changed.
-/
import Derived.Test.YtmjfgobopcigoaaBq1
import Derived.Test.YtmjfgobopcigoaaWidth
import Derived.WalkKit
import Derived.Outline
import Derived.OwnWalk
import Derived.Deep.QuietTactic
import Derived.BigQuiet
namespace Go.Proofs.Ytmjfgobopcigoaa
open Go.RowKit
set_option linter.unusedVariables false
set_option linter.unusedSimpArgs false

def wcells (l : List Nat) : List Value := l.map fun n : Nat => Value.int .u64 (n : Int)
theorem wcells_length (l : List Nat) : (wcells l).length = l.length := by simp [wcells]
theorem wcells_get {l : List Nat} {j : Nat} (h : j < l.length) : (wcells l)[j]? = some (.int .u64 (l[j] : Int)) := by simp [wcells, h]
theorem wcells_snoc (l : List Nat) (c : Nat) : wcells (l ++ [c]) = wcells l ++ [.int .u64 (c : Int)] := by simp [wcells]
theorem wcells_words (l : List UInt64) : ucells l = wcells (l.map UInt64.toNat) := by simp [ucells, wcells]
theorem U64_words (l : List UInt64) : U64 (l.map UInt64.toNat) := by
  intro x hx
  obtain ⟨c, _, rfl⟩ := List.mem_map.1 hx
  exact c.toNat_lt
/-- v is a slice that reads as the numbers of l -/
def IsW (w : World) (v : Value) (l : List Nat) : Prop := Reads w v (wcells l)
theorem IsW.grow {w w' : World} {v : Value} {l : List Nat} (h : IsW w v l) (hb : Grows w w') : IsW w' v l := Reads.grow h hb
theorem IsW.slice_ {w : World} {v : Value} {l : List Nat} (h : IsW w v l) : ∃ A c, v = .slice A l.length c := by
  obtain ⟨A, c, h1, h2⟩ := Reads.slice_ h
  rw [wcells_length] at h1
  exact ⟨A, c, h1⟩
theorem IsW.at_ {w : World} {A : Option Addr} {c n : Nat} {l : List Nat} (h : IsW w (.slice A n c) l) {k : Nat} (hk : k < l.length) : ∃ b f, A = some ⟨b, f, none⟩ ∧ w.cell? ⟨b, f + k, none⟩ = some (.int .u64 (l[k] : Int)) := by
  obtain ⟨A', c', he, _, hc⟩ := h
  injection he with e1 e2 e3
  subst e1
  obtain ⟨b, f, rfl, hcell⟩ := hc (by rw [wcells_length]; omega)
  refine ⟨b, f, rfl, ?_⟩
  rw [hcell k (by rw [wcells_length]; exact hk), wcells_get hk]

theorem widL_nil : widL [] = 0 := by decide
theorem orL_nil : orL [] = 0 := by decide
def WidRel (w : World) (l : List Nat) (v i : Value) (wr : World) : Prop := ∃ k : Nat, k ≤ l.length ∧ i = .int .i64 (k : Int) ∧ v = .int .i64 ((widL (l.take k) : Nat) : Int) ∧ w = wr
set_option maxHeartbeats 1000000 in
theorem rwidth_any (v : Value) (l : List Nat) (w : World) (hv : IsW w v l) (hU : U64 l) (hl : l.length ≤ 1000000000000) :
    Calls Try.prog 10 #[v] w fun e w' => e = .returned (.int .i64 ((widL l : Nat) : Int)) ∧ w = w' := by
  obtain ⟨A, c, rfl⟩ := hv.slice_
  have HV := hidden hv
  have HU := hidden hU
  clear hv hU
  go_enter Try.func10, Try.ntmps10
  go_wp2_with fail
  go_loopw [3, 4] (fun v i wr => WidRel w l v i wr) (fun _ i _ => l.length - (intOf i).toNat)
  case atStart => exact ⟨0, by omega, rfl, by rw [List.take_zero, widL_nil]; rfl, rfl⟩
  case round =>
    obtain ⟨k, hk, rfl, rfl, rfl⟩ := hrel
    by_cases hlt : k < l.length
    · obtain ⟨b, f, rfl, hcell⟩ := HV.out.at_ hlt
      have HX := hidden (widL_take HU.out hlt)
      have hxx := HU.out.get hlt
      have HB := hidden (fun w => rbitWidth_any (l[k] : Int) w (by omega) (by omega))
      have h1 := widL_le (HU.out.take k)
      have h2 := bitLen_64 hxx
      rw [Int.toNat_natCast] at HB
      generalize l[k] = x at *
      generalize widL (l.take k) = y at *
      generalize Lib.bitLen x = z at *
      go_wp2_with ((go_at_call 21; refine (HB.out _).mono ?_; rintro e w2 ⟨rfl, rfl⟩))
      all_goals exact ⟨⟨k + 1, by omega, by go_num, by rw [HX.out]; go_num, rfl⟩, by simp [intOf]; omega⟩
    · have hke : k = l.length := by omega
      subst hke
      have HT := hidden (List.take_length (l := l))
      go_wp2_with fail
      go_ret
      exact ⟨retU (by rw [HT.out]), rfl⟩
theorem u64_or' {x y : Nat} (hx : x < 18446744073709551616) (hy : y < 18446744073709551616) : bits .or .u64 (x : Int) (y : Int) = ((x ||| y : Nat) : Int) := u64_or_nat x y hx hy
def OrRel (w : World) (l : List Nat) (v i : Value) (wr : World) : Prop := ∃ k : Nat, k ≤ l.length ∧ i = .int .i64 (k : Int) ∧ v = .int .u64 ((orL (l.take k) : Nat) : Int) ∧ w = wr
set_option maxHeartbeats 1000000 in
theorem width_any (v : Value) (l : List Nat) (w : World) (hv : IsW w v l) (hU : U64 l) (hl : l.length ≤ 1000000000000) :
    Calls Try.prog 9 #[v] w fun e w' => e = .returned (.int .i64 ((widL l : Nat) : Int)) ∧ w = w' := by
  obtain ⟨A, c, rfl⟩ := hv.slice_
  have HV := hidden hv
  have HU := hidden hU
  clear hv hU
  go_enter Try.func9, Try.ntmps9
  go_wp2_with fail
  go_loopw [3, 7] (fun v i wr => OrRel w l v i wr) (fun _ i _ => l.length - (intOf i).toNat)
  case atStart => exact ⟨0, by omega, rfl, by rw [List.take_zero, orL_nil]; rfl, rfl⟩
  case round =>
    obtain ⟨k, hk, rfl, rfl, rfl⟩ := hrel
    by_cases hlt : k < l.length
    · obtain ⟨b, f, rfl, hcell⟩ := HV.out.at_ hlt
      have HX := hidden (orL_take hlt)
      have HO := hidden (u64_or' (orL_64 (HU.out.take k)) (HU.out.get hlt))
      rw [← HX.out] at HO
      generalize l[k] = x at *
      go_wp2_with fail
      rw [HO.out]
      exact ⟨⟨k + 1, by omega, by go_num, rfl, rfl⟩, by simp [intOf]; omega⟩
    · have hke : k = l.length := by omega
      subst hke
      rw [List.take_length]
      have ho := orL_64 HU.out
      have HB := hidden (fun w => bitWidth_any ((orL l : Nat) : Int) w (by omega) (by omega))
      rw [Int.toNat_natCast] at HB
      have HE := hidden (show ((Lib.bitLen (orL l) : Nat) : Int) = ((widL l : Nat) : Int) from rfl)
      generalize orL l = y at *
      go_wp2_with ((go_at_call 20; refine (HB.out _).mono ?_; rintro e w2 ⟨rfl, rfl⟩))
      go_ret
      exact ⟨retU (by rw [HE.out]), rfl⟩

def sameN (a b : List Nat) : Bool := decide (a = b)
theorem below_draws {B : Nat} {a w : World} (h : Below B a w) (d : Nat) : Below B a { w with drawn := d } := ⟨h.os, h.tape, h.output, h.size, h.block⟩
def SameRel (w : World) (la lb : List Nat) (k : Value) (wr : World) : Prop := ∃ j : Nat, j ≤ la.length ∧ k = .int .i64 (j : Int) ∧ la.take j = lb.take j ∧ Below w.heap.size w wr
set_option maxHeartbeats 1000000 in
theorem equal_any (va vb : Value) (la lb : List Nat) (w : World) (ha : IsW w va la) (hb : IsW w vb lb) (hl : la.length ≤ 1000000000000) (hl2 : lb.length ≤ 1000000000000) :
    Calls Try.prog 17 #[va, vb] w fun e w' => e = .returned (.bool (sameN la lb)) ∧ Below w.heap.size w w' := by
  obtain ⟨A, c, rfl⟩ := ha.slice_
  obtain ⟨B, d, rfl⟩ := hb.slice_
  have HRA := hidden ha
  have HRB := hidden hb
  clear ha hb
  by_cases hlen : la.length = lb.length
  · have hd1 : ((la.length : Int) != (lb.length : Int)) = false := by simp; omega
    have HLN := hidden hlen
    clear hlen
    go_enter Try.func17, Try.ntmps17
    go_wp2_with fail
    go_loopw [5] (fun k wr => SameRel w la lb k wr) (fun k _ => la.length - (intOf k).toNat)
    case atStart => exact ⟨0, by omega, rfl, by simp, Below.refl _ _⟩
    case round =>
      obtain ⟨j, hj, rfl, hsame, hb⟩ := hrel
      have HB := hidden hb
      have HSM := hidden hsame
      have hlen := HLN.out
      clear hb hsame
      by_cases hlt : j < la.length
      · have hlt2 : j < lb.length := by omega
        obtain ⟨b1, o1, rfl, hy1⟩ := (HRA.out.grow HB.out).at_ hlt
        obtain ⟨b2, o2, rfl, hy2⟩ := (HRB.out.grow HB.out).at_ hlt2
        have HTA := hidden (List.take_succ_eq_append_getElem hlt)
        have HTB := hidden (List.take_succ_eq_append_getElem hlt2)
        clear hlen
        by_cases heq : la[j] = lb[j]
        · have hE : ((la[j] : Int) != (lb[j] : Int)) = false := by rw [heq]; simp
          have HEQ := hidden heq
          clear heq
          go_wp2_with fail
          go_quiet (fail)
          go_wp2
          go_roundw
          case rel =>
            refine ⟨j + 1, by omega, by go_num, ?_, below_draws HB.out _⟩
            rw [HTA.out, HTB.out, HSM.out, HEQ.out]
          case measure => simp [intOf]; omega
        · have hE : ((la[j] : Int) != (lb[j] : Int)) = true := by simp; omega
          have HF := hidden (show sameN la lb = false by
            unfold sameN
            rw [decide_eq_false_iff_not]
            intro h
            subst h
            exact heq rfl)
          clear heq
          go_wp2_with fail
          go_quiet (fail)
          go_wp2
          go_ret
          exact ⟨retB (by rw [HF.out]), below_draws HB.out _⟩
      · have hje : j = la.length := by omega
        have hsame := HSM.out
        rw [hje, List.take_length, hlen, List.take_length] at hsame
        have HT2 := hidden (show sameN la lb = true by unfold sameN; simpa using hsame)
        have hnj : la.length ≤ j := by omega
        clear hsame hje hlen
        go_wp2
        go_ret
        exact ⟨retB (by rw [HT2.out]), HB.out⟩
  · have hd1 : ((la.length : Int) != (lb.length : Int)) = true := by simp; omega
    have HF := hidden (show sameN la lb = false by
      unfold sameN
      rw [decide_eq_false_iff_not]
      intro h
      exact hlen (by rw [h]))
    clear hlen
    go_enter Try.func17, Try.ntmps17
    go_wp2_with fail
    go_ret
    exact ⟨retB (by rw [HF.out]), Below.refl _ _⟩
end Go.Proofs.Ytmjfgobopcigoaa
