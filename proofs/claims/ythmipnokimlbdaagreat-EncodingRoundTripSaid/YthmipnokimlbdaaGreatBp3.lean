/-
  Shaken: what the claims of this seat need of this text. No condition.
-/
import Derived.Test.YthmipnokimlbdaaGreatM5
import Derived.Test.YthmipnokimlbdaaGreatM6
import Derived.WalkKit
import Derived.Outline
import Derived.OwnWalk
import Derived.Deep.QuietTactic
import Derived.BigQuiet
namespace Go.Proofs.YthmipnokimlbdaaGreat
set_option maxRecDepth 8000
open Go.RowKit
set_option linter.unusedVariables false
set_option linter.unusedSimpArgs false
def wcells (l : List Nat) : List Value := l.map fun n : Nat => Value.int .u64 (n : Int)
theorem wcells_length (l : List Nat) : (wcells l).length = l.length := by simp [wcells]
theorem wcells_get {l : List Nat} {j : Nat} (h : j < l.length) : (wcells l)[j]? = some (.int .u64 (l[j] : Int)) := by simp [wcells, h]
def IsW (w : World) (v : Value) (l : List Nat) : Prop := Reads w v (wcells l)
theorem IsW.grow {w w' : World} {v : Value} {l : List Nat} (h : IsW w v l) (hb : Grows w w') : IsW w' v l := Reads.grow h hb
theorem IsW.slice_ {w : World} {v : Value} {l : List Nat} (h : IsW w v l) : ∃ A c, v = .slice A l.length c := by
  obtain ⟨A, c, h1, h2⟩ := Reads.slice_ h
  rw [wcells_length] at h1
  exact ⟨A, c, h1⟩
theorem IsW.at_ {w : World} {A : Option Addr} {c n : Nat} {l : List Nat} (h : IsW w (.slice A n c) l) {k : Nat} (hk : k < l.length) : ∃ b f, A = some ⟨b, f, none⟩ ∧ w.cell? ⟨b, f + k, none⟩ = some (.int .u64 (l[k] : Int)) := by
  obtain ⟨A', c', he, _, hc⟩ := h
  injection he with e1 e2 e3
  subst e1
  obtain ⟨b, f, rfl, hcell⟩ := hc (by rw [wcells_length]; omega)
  refine ⟨b, f, rfl, ?_⟩
  rw [hcell k (by rw [wcells_length]; exact hk), wcells_get hk]
theorem u64_or' {x y : Nat} (hx : x < 18446744073709551616) (hy : y < 18446744073709551616) : bits .or .u64 (x : Int) (y : Int) = ((x ||| y : Nat) : Int) := u64_or_nat x y hx hy
end Go.Proofs.YthmipnokimlbdaaGreat
