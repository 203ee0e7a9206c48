/-
  Shaken: what the claims of this seat need of this text. No condition.
-/
import Derived.Test.YthmipnokimlbdaaGreatM10
import Derived.Lib.MinMax
import Derived.WalkMore
namespace Go.Proofs.YthmipnokimlbdaaGreat
set_option maxRecDepth 8000
open Go.RowKit
set_option linter.unusedVariables false
set_option linter.unusedSimpArgs false
def Drew (w w' : World) : Prop := ∃ n, w' = w.drewN n
theorem Drew.rfl_ (w : World) : Drew w w := ⟨0, rfl⟩
theorem Drew.more {w w' : World} (h : Drew w w') (n : Nat) : Drew w (w'.drewN n) := by
  obtain ⟨m, rfl⟩ := h
  exact ⟨m + n, by rw [World.drewN_drewN]⟩
theorem Drew.grows {w w' : World} (h : Drew w w') : Grows w w' := by
  obtain ⟨n, rfl⟩ := h
  exact draws_below (Below.refl _ _) _
def CPRel (w : World) (a b : Str) (m : Nat) (i : Value) (wr : World) : Prop := ∃ j : Nat, j ≤ m ∧ i = .int .i64 (j : Int) ∧ a.take j = b.take j ∧ Drew w wr
def CPR (w : World) (a b : Str) (e : Ending) (w' : World) : Prop := e = .returned (.int .i64 (cp a b : Int)) ∧ Drew w w'
theorem CPR.mk_ {w w' : World} {a b : Str} {k : Nat} (h : cp a b = k) (hw : Drew w w') : CPR w a b (.returned (.int .i64 (k : Int))) w' := ⟨by rw [h], hw⟩
set_option maxHeartbeats 2000000 in
theorem cp_any (a b : Str) (w : World) (ha : a.length ≤ 4611686018427387900) (hb : b.length ≤ 4611686018427387900) : Calls Tryz.prog 173 #[.string (strOf a), .string (strOf b)] w (CPR w a b) := by
  have hsa : (strOf a).size = a.length := rfl
  have hsb : (strOf b).size = b.length := rfl
  obtain ⟨m, hm⟩ : ∃ m, m = min a.length b.length := ⟨_, rfl⟩
  have HM := hidden hm
  have hmi : min (a.length : Int) (b.length : Int) = (m : Int) := by omega
  have hma : m ≤ a.length := by omega
  have hmb : m ≤ b.length := by omega
  clear hm
  go_enter Tryz.func173, Tryz.ntmps173
  go_wp2_with fail
  go_loopw [13] (fun i wr => CPRel w a b m i wr) (fun i _ => m - (intOf i).toNat)
  case atStart => exact ⟨0, Nat.zero_le _, rfl, rfl, Drew.rfl_ _⟩
  case round =>
    obtain ⟨j, hj, rfl, htk, hbw⟩ := hrel
    have HB := hidden hbw
    have HTK := hidden htk
    clear hbw htk
    by_cases hlt : j < m
    · have hja : j < a.length := by omega
      have hjb : j < b.length := by omega
      have hg1 := strOf_get (l := a) (j := j) (List.getElem?_eq_getElem hja)
      have hg2 := strOf_get (l := b) (j := j) (List.getElem?_eq_getElem hjb)
      have hj0 : (0 : Int) ≤ (j : Int) := by omega
      have hj1 : (j : Int) < (a.length : Int) := by omega
      have hj2 : (j : Int) < (b.length : Int) := by omega
      by_cases hcb : a[j] = b[j]
      · have HN := hidden (take_next hja hjb HTK.out hcb)
        have hnb : ((a[j].toNat : Int) != (b[j].toNat : Int)) = false := by rw [hcb]; simp
        generalize a[j] = x at *
        generalize b[j] = y at *
        clear hcb
        go_wp2_with fail
        go_quiet (fail)
        go_wp2_with fail
        go_roundw
        case rel => exact ⟨j + 1, by omega, by go_num, HN.out, HB.out.more _⟩
        case measure => simp [intOf]; omega
      · have HN := hidden (cp_stop hja hjb HTK.out hcb)
        have hcbn : ¬ (a[j].toNat = b[j].toNat) := fun he => hcb (UInt8.toNat_inj.1 he)
        have hnb : ((a[j].toNat : Int) != (b[j].toNat : Int)) = true := by simp; omega
        generalize a[j] = x at *
        generalize b[j] = y at *
        clear hcb hcbn
        go_wp2_with fail
        go_quiet (fail)
        go_wp2_with fail
        go_ret
        exact CPR.mk_ HN.out (HB.out.more _)
    · have HN := hidden (cp_end (a := a) (b := b) (k := m) HM.out (by rw [show m = j by omega]; exact HTK.out))
      go_wp2_with fail
      go_ret
      exact CPR.mk_ HN.out HB.out
theorem cp_grow (a b : Str) (w : World) (ha : a.length ≤ 4611686018427387900) (hb : b.length ≤ 4611686018427387900) : Calls Tryz.prog 173 #[.string (strOf a), .string (strOf b)] w fun e w' => e = .returned (.int .i64 (cp a b : Int)) ∧ Grows w w' :=
  (cp_any a b w ha hb).mono fun _ _ ⟨he, hw⟩ => ⟨he, hw.grows⟩
end Go.Proofs.YthmipnokimlbdaaGreat
