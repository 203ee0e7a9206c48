/-
  The law VectorRoundTrip returns true for every input, and its arguments read afterwards as they read before. No condition.
-/
import Derived.Test.YtfjhahhkakfhmaaVcX
import Derived.Test.YtfjhahhkakfhmaaVArg
import Derived.Test.YtfjhahhkakfhmaaM10
import Derived.Test.YtfjhahhkakfhmaaM9
import Derived.WalkKit
import Derived.ProofKit
import Derived.OpenShut
import Derived.ShutString
import Derived.ChangeOld
import Derived.Below
namespace Go.Proofs.Ytfjhahhkakfhmaa.vectorRoundTrip
open Go.ChangeShapes Go.WideShapes Go.ChangeAt Go.RowKit
set_option linter.unusedVariables false

theorem walk (x0 : Value) (u0 : Vec) (v1 : Value) (l1 : List Int) (v2 : Value) (l2 : List Int) (a3 : Int) (w : World) (r0 : IsV w x0 u0) (k0 : FitArg u0) (t0 : frIn u0.T) (g0 : ∀ x ∈ u0.is, frIn x) (r1 : IsI w v1 l1) (m1 : ∀ x ∈ l1, frIn x) (n1 : l1.length ≤ 140737488351232) (r2 : IsI w v2 l2) (m2 : ∀ x ∈ l2, frIn x) (n2 : l2.length ≤ 140737488351232) (h3 : (Lit.int .u8 a3).wf = true) :
    Calls Try.prog 8 #[x0, v1, v2, .int .u8 a3] w fun e w' => e = .returned (.bool true) ∧ Below w.heap.size w w' := by
  exact law_trip17 pack17 x0 u0 v1 v2 l1 l2 a3 w r0 k0 t0 r1 r2 (by omega) (by omega) m1 m2 (wf_u8 h3)

set_option maxRecDepth 100000 in
theorem lifted (os : Os) (started : os.Started) (H : Type) (enc : TypeId × Value → H) :
    ReturnsInHanded {} Try.checked os 8 .any (Rows.vectorRoundTripSpec.pre6 enc Try.prog Try.f8 Rows.vectorRoundTripRow.domain false) (Rows.vectorRoundTripSpec.post enc Try.prog Try.f8 false true false false) := by
  refine returnsInHanded_of_change_sized (C := Try.checked) own started (by kernel_rfl) Try.func8
    (ChangeSpec.witness6 (enc := enc) (C := Try.checked) false ⟨#[], #[.agg #[.int .i64 0, .slice none 0 0, .slice none 0 0, .slice none 0 0], .slice none 0 0, .slice none 0 0, .int .u8 0], []⟩ 8 (by kernel_rfl) (by kernel_rfl) (by kernel_rfl) (by kernel_rfl)) ?_
  intro W base args ds gs before hval0 hW hcnd hsz _
  have hval : ∀ (j : Nat) t v, Try.f8.params[j]? = some t → args[j]? = some v → Value.okWide Try.prog W .any base t v := hval0
  have hW' := hW
  obtain ⟨p, q, hA0, hV, rfl, hfz, hnd⟩ := hW
  have hA : DataW.TrodAll enc Try.prog W 0 (fun _ => true) true Try.f8.params.toList args.toList ds p := hA0
  rw [Try.params8] at hA hval hsz
  obtain ⟨v0, vs0, d0, ds0, p0, q0, hargs, rfl, rfl, h0, z0⟩ := trodAll_cons hA
  obtain ⟨v1, vs1, d1, ds1, p1, q1, rfl, rfl, rfl, h1, z1⟩ := trodAll_cons z0
  obtain ⟨v2, vs2, d2, ds2, p2, q2, rfl, rfl, rfl, h2, z2⟩ := trodAll_cons z1
  obtain ⟨v3, vs3, d3, ds3, p3, q3, rfl, rfl, rfl, h3, z3⟩ := trodAll_cons z2
  obtain ⟨rfl, rfl, rfl⟩ := trodAll_nil z3
  obtain rfl : args = #[v0, v1, v2, v3] := by cases args; simp_all
  obtain ⟨rfl, rfl⟩ := trodVars_none hV
  obtain ⟨u0, r0, k0, t0, g0⟩ := vec_of_arg17 (hval 0 29 v0 rfl rfl) h0 (weights_at hsz (j := 0) rfl rfl)
  obtain ⟨l1, r1, m1, s1⟩ := nints_of_arg (hval 1 43 v1 rfl rfl) h1
  have n1 := len_of_reach hsz (j := 1) rfl rfl Try.underlying43 (by rw [bytesInt17]; decide) s1
  obtain ⟨l2, r2, m2, s2⟩ := nints_of_arg (hval 2 43 v2 rfl rfl) h2
  have n2 := len_of_reach hsz (j := 2) rfl rfl Try.underlying43 (by rw [bytesInt17]; decide) s2
  obtain ⟨a3, rfl, rfl, rfl, g3⟩ := open_int Try.underlying5 (hval 3 5 v3 rfl rfl) h3
  clear hA0 hval0
  refine (walk v0 u0 v1 l1 v2 l2 a3 W r0 k0 t0 g0 r1 m1 n1 r2 m2 n2 g3).mono fun e W' ⟨he, bel⟩ => ?_
  subst he
  exact ⟨_, rfl, _, _, _, [], _, [], hW', trodAll_mk1 (shut_bool Try.underlying4 _), (trodAll_cons_mk (Below.trod laidOut (by kernel_rfl) (of_decide_eq_true (by kernel_rfl)) h0 bel (trod_lt_all h0)) (trodAll_cons_mk (Below.trod laidOut (by kernel_rfl) (of_decide_eq_true (by kernel_rfl)) h1 bel (trod_lt_all h1)) (trodAll_cons_mk (Below.trod laidOut (by kernel_rfl) (of_decide_eq_true (by kernel_rfl)) h2 bel (trod_lt_all h2)) (trodAll_cons_mk (shut_int Try.underlying5 g3) trodAll_mk0)))), rfl, bel.frame _, fun h => by cases h⟩

theorem over : Rows.vectorRoundTripRow.holds Try.pinned (OpenSpec.ofChange Rows.vectorRoundTripSpec) :=
  OpenClaim.holds_of_wide 8 Try.f8 rfl rfl rfl rfl rfl rfl rfl ⟨rfl, rfl, rfl, rfl, rfl⟩ rfl rfl rfl rfl rfl (by kernel_rfl) Try.func8 (by kernel_rfl)
    (of_decide_eq_true (by kernel_rfl)) (by unfold Func.isWrapper; first | (rw [if_pos (by decide +kernel)]; kernel_rfl) | (rw [if_neg (by decide +kernel)]; exact ⟨rfl, rfl⟩))
    (fun os started H enc _ => lifted os started H enc)
theorem proved : Rows.VectorRoundTripSaid := over
#print axioms proved
end Go.Proofs.Ytfjhahhkakfhmaa.vectorRoundTrip
