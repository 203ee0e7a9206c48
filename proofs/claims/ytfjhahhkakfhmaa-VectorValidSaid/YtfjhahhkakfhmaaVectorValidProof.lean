/-
  The law VectorValid returns true for every input, and its arguments read afterwards as they read before. No condition.
-/
import Derived.Test.YtfjhahhkakfhmaaVcX
import Derived.Test.YtfjhahhkakfhmaaVArg
import Derived.Test.YtfjhahhkakfhmaaM10
import Derived.Test.YtfjhahhkakfhmaaM9
import Derived.WalkKit
import Derived.ProofKit
import Derived.OpenShut
import Derived.ShutString
import Derived.ChangeOld
import Derived.Below
namespace Go.Proofs.Ytfjhahhkakfhmaa.vectorValid
open Go.ChangeShapes Go.WideShapes Go.ChangeAt Go.RowKit
set_option linter.unusedVariables false

theorem walk (x0 : Value) (u0 : Vec) (x1 : Value) (u1 : Bat) (w : World) (r0 : IsV w x0 u0) (k0 : FitArg u0) (t0 : frIn u0.T) (g0 : ∀ x ∈ u0.is, frIn x) (r1 : IsB w x1 u1) (k1 : FitBA' u1) (t1 : frIn u1.len) (g1 : ∀ x ∈ u1.cs, frIn x.T) (m1 : ∀ i ∈ u1.sel, frIn i) :
    Calls Try.prog 4 #[x0, x1] w fun e w' => e = .returned (.bool true) ∧ Below w.heap.size w w' := by
  exact law_valid17 pack17 x0 x1 u0 u1 w r0 r1 k0 t0 k1 t1 g1 m1

set_option maxRecDepth 100000 in
theorem lifted (os : Os) (started : os.Started) (H : Type) (enc : TypeId × Value → H) :
    ReturnsInHanded {} Try.checked os 4 .any (Rows.vectorValidSpec.pre6 enc Try.prog Try.f4 Rows.vectorValidRow.domain false) (Rows.vectorValidSpec.post enc Try.prog Try.f4 false true false false) := by
  refine returnsInHanded_of_change_sized (C := Try.checked) own started (by kernel_rfl) Try.func4
    (ChangeSpec.witness6 (enc := enc) (C := Try.checked) false ⟨#[], #[.agg #[.int .i64 0, .slice none 0 0, .slice none 0 0, .slice none 0 0], .agg #[.slice none 0 0, .int .i64 0, .bool false, .slice none 0 0]], []⟩ 8 (by kernel_rfl) (by kernel_rfl) (by kernel_rfl) (by kernel_rfl)) ?_
  intro W base args ds gs before hval0 hW hcnd hsz _
  have hval : ∀ (j : Nat) t v, Try.f4.params[j]? = some t → args[j]? = some v → Value.okWide Try.prog W .any base t v := hval0
  have hW' := hW
  obtain ⟨p, q, hA0, hV, rfl, hfz, hnd⟩ := hW
  have hA : DataW.TrodAll enc Try.prog W 0 (fun _ => true) true Try.f4.params.toList args.toList ds p := hA0
  rw [Try.params4] at hA hval hsz
  obtain ⟨v0, vs0, d0, ds0, p0, q0, hargs, rfl, rfl, h0, z0⟩ := trodAll_cons hA
  obtain ⟨v1, vs1, d1, ds1, p1, q1, rfl, rfl, rfl, h1, z1⟩ := trodAll_cons z0
  obtain ⟨rfl, rfl, rfl⟩ := trodAll_nil z1
  obtain rfl : args = #[v0, v1] := by cases args; simp_all
  obtain ⟨rfl, rfl⟩ := trodVars_none hV
  obtain ⟨u0, r0, k0, t0, g0⟩ := vec_of_arg17 (hval 0 29 v0 rfl rfl) h0 (weights_at hsz (j := 0) rfl rfl)
  obtain ⟨u1, r1, k1, t1, g1, m1⟩ := bat_of_arg (hval 1 45 v1 rfl rfl) h1 (weights_at hsz (j := 1) rfl rfl)
  clear hA0 hval0
  refine (walk v0 u0 v1 u1 W r0 k0 t0 g0 r1 k1 t1 g1 m1).mono fun e W' ⟨he, bel⟩ => ?_
  subst he
  exact ⟨_, rfl, _, _, _, [], _, [], hW', trodAll_mk1 (shut_bool Try.underlying4 _), (trodAll_cons_mk (Below.trod laidOut (by kernel_rfl) (of_decide_eq_true (by kernel_rfl)) h0 bel (trod_lt_all h0)) (trodAll_cons_mk (Below.trod laidOut (by kernel_rfl) (of_decide_eq_true (by kernel_rfl)) h1 bel (trod_lt_all h1)) trodAll_mk0)), rfl, bel.frame _, fun h => by cases h⟩

theorem over : Rows.vectorValidRow.holds Try.pinned (OpenSpec.ofChange Rows.vectorValidSpec) :=
  OpenClaim.holds_of_wide 4 Try.f4 rfl rfl rfl rfl rfl rfl rfl ⟨rfl, rfl, rfl, rfl, rfl⟩ rfl rfl rfl rfl rfl (by kernel_rfl) Try.func4 (by kernel_rfl)
    (of_decide_eq_true (by kernel_rfl)) (by unfold Func.isWrapper; first | (rw [if_pos (by decide +kernel)]; kernel_rfl) | (rw [if_neg (by decide +kernel)]; exact ⟨rfl, rfl⟩))
    (fun os started H enc _ => lifted os started H enc)
theorem proved : Rows.VectorValidSaid := over
#print axioms proved
end Go.Proofs.Ytfjhahhkakfhmaa.vectorValid
