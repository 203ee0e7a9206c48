/-
  Shaken: what the claims of this seat need of this text. No condition.
-/
import Derived.Test.YtoaklmceejeblaaGreatSkIns
import Derived.Test.YtoaklmceejeblaaGreatM15
namespace Go.Proofs.YtoaklmceejeblaaGreat
set_option maxRecDepth 8000
open Go.RowKit
set_option linter.unusedVariables false
set_option linter.unusedSimpArgs false
theorem rcompareX_any (x y : Val) (w : World) : Calls Tryz.prog 33 #[.agg #[.int .i64 x.k, .int .i64 x.n, .string x.t], .agg #[.int .i64 y.k, .int .i64 y.n, .string y.t]] w fun e w' => e = .returned (.int .i64 (cmpX x y)) ∧ Grows w w' := rcompare_any _ _ _ _ _ _ _
theorem own_some {w : World} {base : Nat} {e : TypeId} {size : Nat} {v : Value} {n : Nat} {xs : List Value} (h : w.ownsRow base e size v n xs) (hn : 0 < n) : ∃ g cap, v = .slice (some ⟨g, 0, none⟩) n cap ∧ base ≤ g ∧ g < w.heap.size ∧ n ≤ cap := by
  rcases h.2 with ⟨_, h0⟩ | ⟨g, cap, cur, rfl, hb, hg, hc, _⟩
  · omega
  · exact ⟨g, cap, rfl, hb, (Array.getElem?_eq_some_iff.1 hg).1, hc⟩
theorem own_val_cells {w : World} {base g n cap : Nat} {l : List Val} (h : w.ownsRow base 35 3 (.slice (some ⟨g, 0, none⟩) n cap) l.length (vcells l)) {j : Nat} {x : Val} (hj : l[j]? = some x) :
    w.cell? ⟨g, j * 3, none⟩ = some (.int .i64 x.k) ∧ w.cell? ⟨g, j * 3 + 1, none⟩ = some (.int .i64 x.n) ∧ w.cell? ⟨g, j * 3 + 2, none⟩ = some (.string x.t) := by
  obtain ⟨h1, h2, h3⟩ := vcells_get hj
  have c1 := h.cells (g := g) rfl _ _ h1
  have c2 := h.cells (g := g) rfl _ _ h2
  have c3 := h.cells (g := g) rfl _ _ h3
  rw [Addr.add_lit, Nat.zero_add] at c1 c2 c3
  exact ⟨c1, c2, c3⟩
end Go.Proofs.YtoaklmceejeblaaGreat
