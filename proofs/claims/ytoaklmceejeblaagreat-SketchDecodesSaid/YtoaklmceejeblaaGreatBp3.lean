/-
  Shaken: what the claims of this seat need of this text. No condition.
-/
import Derived.Test.YtoaklmceejeblaaGreatM4
import Derived.Test.YtoaklmceejeblaaGreatWidth
import Derived.WalkKit
import Derived.Outline
import Derived.OwnWalk
import Derived.Deep.QuietTactic
import Derived.BigQuiet
namespace Go.Proofs.YtoaklmceejeblaaGreat
set_option maxRecDepth 8000
open Go.RowKit
set_option linter.unusedVariables false
set_option linter.unusedSimpArgs false
def wcells (l : List Nat) : List Value := l.map fun n : Nat => Value.int .u64 (n : Int)
theorem wcells_length (l : List Nat) : (wcells l).length = l.length := by simp [wcells]
theorem wcells_get {l : List Nat} {j : Nat} (h : j < l.length) : (wcells l)[j]? = some (.int .u64 (l[j] : Int)) := by simp [wcells, h]
theorem wcells_snoc (l : List Nat) (c : Nat) : wcells (l ++ [c]) = wcells l ++ [.int .u64 (c : Int)] := by simp [wcells]
def IsW (w : World) (v : Value) (l : List Nat) : Prop := Reads w v (wcells l)
theorem IsW.grow {w w' : World} {v : Value} {l : List Nat} (h : IsW w v l) (hb : Grows w w') : IsW w' v l := Reads.grow h hb
theorem IsW.at_ {w : World} {A : Option Addr} {c n : Nat} {l : List Nat} (h : IsW w (.slice A n c) l) {k : Nat} (hk : k < l.length) : ∃ b f, A = some ⟨b, f, none⟩ ∧ w.cell? ⟨b, f + k, none⟩ = some (.int .u64 (l[k] : Int)) := by
  obtain ⟨A', c', he, _, hc⟩ := h
  injection he with e1 e2 e3
  subst e1
  obtain ⟨b, f, rfl, hcell⟩ := hc (by rw [wcells_length]; omega)
  refine ⟨b, f, rfl, ?_⟩
  rw [hcell k (by rw [wcells_length]; exact hk), wcells_get hk]
end Go.Proofs.YtoaklmceejeblaaGreat
