/-
  The law EncodingFilterAgrees returns true for every input, and its arguments read afterwards as they read before. No condition.
-/
import Derived.Test.YthmipnokimlbdaaGreatEnArg
import Derived.Test.YthmipnokimlbdaaGreatEwA
import Derived.WalkKit
import Derived.ProofKit
import Derived.OpenShut
import Derived.ShutString
import Derived.ChangeOld
import Derived.Below
namespace Go.Proofs.YthmipnokimlbdaaGreat.encodingFilterAgrees
open Go.ChangeShapes Go.WideShapes Go.ChangeAt Go.RowKit
set_option linter.unusedVariables false

theorem walkEncodingFilterAgreesProof (x0 : Value) (u0 : Vec) (m1 o1 k1 n1 : Int) (t1 : ByteArray) (w : World) (r0 : IsV w x0 u0) (k0 : Small u0) (p1 : (Lit.int .i64 m1).wf = true) (q1 : (Lit.int .i64 o1).wf = true) :
    Calls Tryz.prog 7 #[x0, .agg #[.int .i64 m1, .int .i64 o1, .int .i64 k1, .int .i64 n1, .string t1]] w fun e w' => e = .returned (.bool true) ∧ Below w.heap.size w w' := by
  exact law_agrees x0 u0 m1 o1 k1 n1 t1 w r0 k0

set_option maxRecDepth 100000 in
theorem liftedEncodingFilterAgreesProof (os : Os) (started : os.Started) (H : Type) (enc : TypeId × Value → H) :
    ReturnsInHanded {} Tryz.checked os 7 .any (Rows.encodingFilterAgreesSpec.pre6 enc Tryz.prog Tryz.f7 Rows.encodingFilterAgreesRow.domain false) (Rows.encodingFilterAgreesSpec.post enc Tryz.prog Tryz.f7 false true false false) := by
  refine returnsInHanded_of_change_sized (C := Tryz.checked) own started (by kernel_rfl) Tryz.func7
    (ChangeSpec.witness6 (enc := enc) (C := Tryz.checked) false ⟨#[], #[.agg #[.int .i64 0, .slice none 0 0, .slice none 0 0, .slice none 0 0], .agg #[.int .i64 0, .int .i64 0, .int .i64 0, .int .i64 0, .string ⟨#[]⟩]], []⟩ 8 (by kernel_rfl) (by kernel_rfl) (by kernel_rfl) (by kernel_rfl)) ?_
  intro W base args ds gs before hval0 hW hcnd hsz _
  have hval : ∀ (j : Nat) t v, Tryz.f7.params[j]? = some t → args[j]? = some v → Value.okWide Tryz.prog W .any base t v := hval0
  have hW' := hW
  obtain ⟨p, q, hA0, hV, rfl, hfz, hnd⟩ := hW
  have hA : DataW.TrodAll enc Tryz.prog W 0 (fun _ => true) true Tryz.f7.params.toList args.toList ds p := hA0
  rw [Tryz.params7] at hA hval hsz
  obtain ⟨v0, vs0, d0, ds0, p0, q0, hargs, rfl, rfl, h0, z0⟩ := trodAll_cons hA
  obtain ⟨v1, vs1, d1, ds1, p1, q1, rfl, rfl, rfl, h1, z1⟩ := trodAll_cons z0
  obtain ⟨rfl, rfl, rfl⟩ := trodAll_nil z1
  obtain rfl : args = #[v0, v1] := by cases args; simp_all
  obtain ⟨rfl, rfl⟩ := trodVars_none hV
  obtain ⟨u0, r0, k0⟩ := vec_of_arg (hval 0 26 v0 rfl rfl) h0 (weights_at hsz (j := 0) rfl rfl)
  obtain ⟨m1, o1, k1, n1, t1, rfl, x1m, x1o⟩ := pred_of_arg (hval 1 50 v1 rfl rfl) h1
  clear hA0 hval0
  refine (walkEncodingFilterAgreesProof v0 u0 m1 o1 k1 n1 t1 W r0 k0 x1m x1o).mono fun e W' ⟨he, bel⟩ => ?_
  subst he
  exact ⟨_, rfl, _, _, _, [], _, [], hW', trodAll_mk1 (shut_bool Tryz.underlying4 _), (trodAll_cons_mk (Below.trod laidOut (by kernel_rfl) (of_decide_eq_true (by kernel_rfl)) h0 bel (trod_lt_all h0)) (trodAll_cons_mk (Below.trod laidOut (by kernel_rfl) (of_decide_eq_true (by kernel_rfl)) h1 bel (trod_lt_all h1)) trodAll_mk0)), rfl, bel.frame _, fun h => by cases h⟩

theorem overEncodingFilterAgreesProof : Rows.encodingFilterAgreesRow.holds Tryz.pinned (OpenSpec.ofChange Rows.encodingFilterAgreesSpec) :=
  OpenClaim.holds_of_wide 7 Tryz.f7 rfl rfl rfl rfl rfl rfl rfl ⟨rfl, rfl, rfl, rfl, rfl⟩ rfl rfl rfl rfl rfl (by kernel_rfl) Tryz.func7 (by kernel_rfl)
    (of_decide_eq_true (by kernel_rfl)) (by unfold Func.isWrapper; first | (rw [if_pos (by decide +kernel)]; kernel_rfl) | (rw [if_neg (by decide +kernel)]; exact ⟨rfl, rfl⟩))
    (fun os started H enc _ => liftedEncodingFilterAgreesProof os started H enc)
theorem provedEncodingFilterAgreesProof : Rows.EncodingFilterAgreesSaid := overEncodingFilterAgreesProof
#print axioms provedEncodingFilterAgreesProof
end Go.Proofs.YthmipnokimlbdaaGreat.encodingFilterAgrees
