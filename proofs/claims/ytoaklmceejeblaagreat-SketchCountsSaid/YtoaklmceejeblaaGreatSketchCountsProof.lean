/-
  The law SketchCounts returns true for every input, and its arguments read afterwards as they read before. No condition.
-/
import Derived.Test.YtoaklmceejeblaaGreatSkArg2
import Derived.Test.YtoaklmceejeblaaGreatSkL
import Derived.WalkKit
import Derived.ProofKit
import Derived.OpenShut
import Derived.ShutString
import Derived.ChangeOld
import Derived.Below
namespace Go.Proofs.YtoaklmceejeblaaGreat.sketchCounts
open Go.ChangeShapes Go.WideShapes Go.ChangeAt Go.RowKit
set_option linter.unusedVariables false

theorem walk (x0 : Value) (u0 : Sk) (m1 o1 : Int) (x1 : Val) (w : World) (r0 : IsK w x0 u0) (t0 : in16 u0.rows) (g0 : in16 u0.nulls) (k0 : U64 u0.hs) (m0 : ∀ x ∈ u0.cm, in16 x) (p0 : ∀ x ∈ u0.fs, inV x) (q0 : ∀ x ∈ u0.rk, in16 x) (z0 : u0.hs.length ≤ 140737488351232 ∧ u0.cm.length ≤ 140737488351232 ∧ u0.fs.length ≤ 140737488351232 ∧ u0.rk.length ≤ 140737488351232) :
    Calls Tryz.prog 6 #[x0, .agg #[.int .i64 m1, .int .i64 o1, .int .i64 x1.k, .int .i64 x1.n, .string x1.t]] w fun e w' => e = .returned (.bool true) ∧ Below w.heap.size w w' := by
  exact law_counts16 x0 u0 m1 o1 x1 w r0 t0.2 z0.1 z0.2.1 z0.2.2.1 z0.2.2.2

set_option maxRecDepth 100000 in
theorem lifted (os : Os) (started : os.Started) (H : Type) (enc : TypeId × Value → H) :
    ReturnsInHanded {} Tryz.checked os 6 .any (Rows.sketchCountsSpec.pre6 enc Tryz.prog Tryz.f6 Rows.sketchCountsRow.domain false) (Rows.sketchCountsSpec.post enc Tryz.prog Tryz.f6 false true false false) := by
  refine returnsInHanded_of_change_sized (C := Tryz.checked) own started (by kernel_rfl) Tryz.func6
    (ChangeSpec.witness6 (enc := enc) (C := Tryz.checked) false ⟨#[], #[.agg #[.int .i64 0, .int .i64 0, .slice none 0 0, .bool false, .slice none 0 0, .slice none 0 0, .slice none 0 0], .agg #[.int .i64 0, .int .i64 0, .int .i64 0, .int .i64 0, .string ⟨#[]⟩]], []⟩ 8 (by kernel_rfl) (by kernel_rfl) (by kernel_rfl) (by kernel_rfl)) ?_
  intro W base args ds gs before hval0 hW hcnd hsz _
  have hval : ∀ (j : Nat) t v, Tryz.f6.params[j]? = some t → args[j]? = some v → Value.okWide Tryz.prog W .any base t v := hval0
  have hW' := hW
  obtain ⟨p, q, hA0, hV, rfl, hfz, hnd⟩ := hW
  have hA : DataW.TrodAll enc Tryz.prog W 0 (fun _ => true) true Tryz.f6.params.toList args.toList ds p := hA0
  rw [Tryz.params6] at hA hval hsz
  obtain ⟨v0, vs0, d0, ds0, p0, q0, hargs, rfl, rfl, h0, z0⟩ := trodAll_cons hA
  obtain ⟨v1, vs1, d1, ds1, p1, q1, rfl, rfl, rfl, h1, z1⟩ := trodAll_cons z0
  obtain ⟨rfl, rfl, rfl⟩ := trodAll_nil z1
  obtain rfl : args = #[v0, v1] := by cases args; simp_all
  obtain ⟨rfl, rfl⟩ := trodVars_none hV
  obtain ⟨u0, r0, t0, g0, k0, m0, p0, q0, y0⟩ := sk_of_argL (hval 0 29 v0 rfl rfl) h0 (weights_atL hsz (j := 0) rfl rfl)
  obtain ⟨m1, o1, k1, n1, t1, rfl, -, -⟩ := pred_of_argL (hval 1 37 v1 rfl rfl) h1
  clear hA0 hval0
  refine (walk v0 u0 m1 o1 ⟨k1, n1, t1⟩ W r0 t0 g0 k0 m0 p0 q0 y0).mono fun e W' ⟨he, bel⟩ => ?_
  subst he
  exact ⟨_, rfl, _, _, _, [], _, [], hW', trodAll_mk1 (shut_bool Tryz.underlying4 _), (trodAll_cons_mk (Below.trod laidOut (by kernel_rfl) (of_decide_eq_true (by kernel_rfl)) h0 bel (trod_lt_all h0)) (trodAll_cons_mk (Below.trod laidOut (by kernel_rfl) (of_decide_eq_true (by kernel_rfl)) h1 bel (trod_lt_all h1)) trodAll_mk0)), rfl, bel.frame _, fun h => by cases h⟩

theorem over : Rows.sketchCountsRow.holds Tryz.pinned (OpenSpec.ofChange Rows.sketchCountsSpec) :=
  OpenClaim.holds_of_wide 6 Tryz.f6 rfl rfl rfl rfl rfl rfl rfl ⟨rfl, rfl, rfl, rfl, rfl⟩ rfl rfl rfl rfl rfl (by kernel_rfl) Tryz.func6 (by kernel_rfl)
    (of_decide_eq_true (by kernel_rfl)) (by unfold Func.isWrapper; first | (rw [if_pos (by decide +kernel)]; kernel_rfl) | (rw [if_neg (by decide +kernel)]; exact ⟨rfl, rfl⟩))
    (fun os started H enc _ => lifted os started H enc)
theorem proved : Rows.SketchCountsSaid := over
#print axioms proved
end Go.Proofs.YtoaklmceejeblaaGreat.sketchCounts
