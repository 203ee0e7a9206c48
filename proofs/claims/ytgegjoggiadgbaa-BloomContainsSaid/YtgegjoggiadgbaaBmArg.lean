/-
  Shaken: what the claims of this seat need of this text. No condition.
-/
import Derived.Test.YtgegjoggiadgbaaVArg
import Derived.Test.YtgegjoggiadgbaaM20
import Derived.ChangeSame
namespace Go.Proofs.Ytgegjoggiadgbaa
open Go.ChangeShapes Go.WideShapes Go.ChangeAt Go.RowKit Go.Joins Go.Deep
set_option linter.unusedVariables false
set_option linter.unusedSimpArgs false
set_option maxRecDepth 100000
theorem cellsBf : Try.prog.cellsOf 32 = 3 := by kernel_rfl
theorem cellsSet15 : Try.prog.cellsOf 30 = 2 := by kernel_rfl
theorem cellsWs15 : Try.prog.cellsOf 28 = 1 := by kernel_rfl
theorem bf_of_arg {H : Type} {enc : TypeId × Value → H} {W : World} {base : Nat} {v : Value} {d : DataW H} {p : List MemPlace}
    (hv : Value.okWide Try.prog W .any base 32 v) (h : DataW.Trod enc Try.prog W 0 (fun _ => true) true 32 v d p) :
    ∃ (m n : Int) (A : Option Addr) (c : Nat) (ws : List UInt64), v = .agg #[.int .i64 m, .int .i64 n, .slice A ws.length c] ∧ Reads W (.slice A ws.length c) (ucells ws) ∧ ws.length ≤ 9223372036854775807 ∧ I64 m ∧ I64 n := by
  obtain ⟨cs, rfl, hsz⟩ := okWide_struct Try.underlying32 hv
  obtain ⟨c0, c1, c2, rfl⟩ := array3 (hsz.trans cellsBf)
  obtain ⟨fuel, hf⟩ := h
  obtain ⟨y0, y1, m, _, _, h0, h1⟩ := trod_struct2 Try.underlying32 hf
  have g0 : DataW.trod enc Try.prog W 0 (fun _ => true) true m 3 [c0] = some y0 := by simpa [Value.cells, cellsInt] using h0
  have g1 : DataW.trod enc Try.prog W 0 (fun _ => true) true m 30 [c1, c2] = some y1 := by simpa [Value.cells, cellsSet15] using h1
  obtain ⟨z0, z1, q, _, _, k0, k1⟩ := trod_struct2 Try.underlying30 g1
  have j0 : DataW.trod enc Try.prog W 0 (fun _ => true) true q 3 [c1] = some z0 := by simpa [cellsInt] using k0
  have j1 : DataW.trod enc Try.prog W 0 (fun _ => true) true q 28 [c2] = some z1 := by simpa [cellsWs15] using k1
  obtain ⟨a0, e0, _, w0⟩ := DataW.trod_int Try.underlying3 g0
  obtain ⟨a1, e1, _, w1⟩ := DataW.trod_int Try.underlying3 j0
  simp at e0 e1
  subst e0 e1
  have hone : ∃ (b : Option Addr) (len cap : Nat) (zs : List Int), c2 = .slice b len cap ∧ len ≤ 9223372036854775807 ∧ ((b = none ∧ len = 0 ∧ cap = 0 ∧ zs = []) ∨ ∃ x, b = some x ∧ len ≤ cap ∧ cap ≤ maxLen ∧ zs.length = cap ∧ (∀ i, i < zs.length → W.cell? (x.add i) = some (.int .u64 (zs.getD i 0))) ∧ ∀ n ∈ zs, (Lit.int .u64 n).wf = true) := by
    rcases open_ints Try.underlying28 Try.underlying53 (by kernel_rfl) j1 with ⟨hcs, _⟩ | ⟨x, l, c, zs, hcs, _, hl, hm, hz, _, hcell, hwz⟩
    · simp at hcs
      subst hcs
      exact ⟨none, 0, 0, [], rfl, by omega, .inl ⟨rfl, rfl, rfl, rfl⟩⟩
    · simp at hcs
      subst hcs
      have hmx : maxLen = 9223372036854775807 := rfl
      exact ⟨some x, l, c, zs, rfl, by omega, .inr ⟨_, rfl, hl, hm, by simpa using hz, hcell, hwz⟩⟩
  obtain ⟨b, len, cap, zs, rfl, hle, hrow⟩ := hone
  obtain ⟨hr, hl⟩ := reads_of_words hrow
  exact ⟨a0, a1, b, cap, toWords (zs.take len), by rw [hl], by rw [hl]; exact hr, by rw [hl]; exact hle, wf_i64 w0, wf_i64 w1⟩
end Go.Proofs.Ytgegjoggiadgbaa
