/-
  Texts that the claims of this seat share, put together (ZmOrd, ZmNum, ZmNum2, ZmNum3). No condition.
-/
import Derived.Test.YtfjhahhkakfhmaaM4
import Derived.Lib.Bytealg
/-
  Shaken: what the claims of this seat need of this text. No condition.
-/
namespace Go.Proofs.Ytfjhahhkakfhmaa
set_option maxRecDepth 8000
open Go.RowKit
set_option linter.unusedVariables false
set_option linter.unusedSimpArgs false
def cmpX (x y : Val) : Int := cmpV x.k x.n x.t y.k y.n y.t
def okX (x : Val) : Prop := validV x.k x.n x.t = true
def nulX : Val := ⟨0, 0, ⟨#[]⟩⟩
end Go.Proofs.Ytfjhahhkakfhmaa
/-
  Shaken: what the claims of this seat need of this text. No condition.
-/
namespace Go.Proofs.Ytfjhahhkakfhmaa
set_option maxRecDepth 8000
open Go.RowKit
set_option linter.unusedVariables false
set_option linter.unusedSimpArgs false
structure Zm where
  r : Int
  n : Int
  a : Val
  b : Val
structure Pair (m : Int) (a b : Val) : Prop where
  oa : okX a
  ob : okX b
  k0 : a.k ≠ 0
  kk : a.k = b.k
  le : cmpX a b ≤ 0
  one : cmpX a b = 0 ∨ 1 < m
structure OkZ (z : Zm) : Prop where
  n0 : 0 ≤ z.n
  nr : z.n ≤ z.r
  nul : z.n = z.r → z.a = nulX ∧ z.b = nulX
  two : z.n < z.r → Pair (z.r - z.n) z.a z.b
def nulls (l : List Val) : Nat := l.countP fun v => decide (v.k = 0)
structure IsZ (l : List Val) (z : Zm) : Prop where
  n : z.n = (nulls l : Int)
  none : (∀ v ∈ l, v.k = 0) → z.a = nulX ∧ z.b = nulX
  mem : (∃ v ∈ l, v.k ≠ 0) → z.a ∈ l ∧ z.a.k ≠ 0 ∧ z.b ∈ l ∧ z.b.k ≠ 0
  bd : ∀ v ∈ l, v.k ≠ 0 → cmpX z.a v ≤ 0 ∧ cmpX v z.b ≤ 0
theorem OkZ.ka {z : Zm} (h : OkZ z) : z.a.k = 0 ↔ z.b.k = 0 := by
  by_cases e : z.n = z.r
  · rw [(h.nul e).1, (h.nul e).2]
  · have := h.two (by have := h.nr; omega)
    rw [this.kk]
theorem OkZ.kk {z : Zm} (h : OkZ z) : z.a.k = z.b.k := by
  by_cases e : z.n = z.r
  · rw [(h.nul e).1, (h.nul e).2]
  · exact (h.two (by have := h.nr; omega)).kk
def kin (x y : Val) : Prop := x.k = 0 ∨ y.k = 0 ∨ x.k = y.k
instance kinDec (x y : Val) : Decidable (kin x y) := by unfold kin; infer_instance
end Go.Proofs.Ytfjhahhkakfhmaa
/-
  Shaken: what the claims of this seat need of this text. No condition.
-/
namespace Go.Proofs.Ytfjhahhkakfhmaa
set_option maxRecDepth 8000
open Go.RowKit
set_option linter.unusedVariables false
set_option linter.unusedSimpArgs false
end Go.Proofs.Ytfjhahhkakfhmaa
/-
  Shaken: what the claims of this seat need of this text. No condition.
-/
namespace Go.Proofs.Ytfjhahhkakfhmaa
set_option maxRecDepth 8000
open Go.RowKit
set_option linter.unusedVariables false
set_option linter.unusedSimpArgs false
end Go.Proofs.Ytfjhahhkakfhmaa
