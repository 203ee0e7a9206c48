/-
  Shaken: what the claims of this seat need of this text. No condition.
-/
import Derived.Test.YthmipnokimlbdaaGreatM10
import Derived.Test.YthmipnokimlbdaaGreatM12
import Derived.Test.YthmipnokimlbdaaGreatDcNum
import Derived.Test.YthmipnokimlbdaaGreatM2
import Derived.Outline
import Derived.OwnWalk
import Derived.Deep.QuietTactic
import Derived.BigQuiet
import Derived.Laws.Cover1
namespace Go.Proofs.YthmipnokimlbdaaGreat
set_option maxRecDepth 8000
open Go.RowKit
set_option linter.unusedVariables false
set_option linter.unusedSimpArgs false
def IsN (w : World) (v : Value) (l : List Nat) : Prop := Reads w v (ncells l)
theorem IsN.grow {w w' : World} {v : Value} {l : List Nat} (h : IsN w v l) (hb : Grows w w') : IsN w' v l := Reads.grow h hb
theorem IsN.slice_ {w : World} {v : Value} {l : List Nat} (h : IsN w v l) : ∃ A c, v = .slice A l.length c := by
  obtain ⟨A, c, h1, h2⟩ := Reads.slice_ h
  rw [ncells_length] at h1
  exact ⟨A, c, h1⟩
theorem IsN.at_ {w : World} {A : Option Addr} {c n : Nat} {l : List Nat} (h : IsN w (.slice A n c) l) {k : Nat} (hk : k < l.length) : ∃ b f, A = some ⟨b, f, none⟩ ∧ w.cell? ⟨b, f + k, none⟩ = some (.int .i64 (l[k] : Int)) := by
  obtain ⟨A', c', he, _, hc⟩ := h
  injection he with e1 e2 e3
  subst e1
  obtain ⟨b, f, rfl, hcell⟩ := hc (by rw [ncells_length]; omega)
  refine ⟨b, f, rfl, ?_⟩
  rw [hcell k (by rw [ncells_length]; exact hk), ncells_get hk]
end Go.Proofs.YthmipnokimlbdaaGreat
