/-
  The law BloomUnion returns true for every input, and its arguments read afterwards as they read before. No condition.
-/
import Derived.Test.YtgegjoggiadgbaaBmArg
import Derived.Test.YtgegjoggiadgbaaBmW2
import Derived.WalkKit
import Derived.ProofKit
import Derived.OpenShut
import Derived.ShutString
import Derived.ChangeOld
import Derived.Below
namespace Go.Proofs.Ytgegjoggiadgbaa.bloomUnion
open Go.ChangeShapes Go.WideShapes Go.ChangeAt Go.RowKit
set_option linter.unusedVariables false

theorem walk (m0 n0 : Int) (A0 : Option Addr) (c0 : Nat) (u0 : List UInt64) (m1 n1 : Int) (A1 : Option Addr) (c1 : Nat) (u1 : List UInt64) (w : World) (r0 : Reads w (.slice A0 u0.length c0) (ucells u0)) (l0 : u0.length ≤ 9223372036854775807) (i0 : I64 m0) (k0 : I64 n0) (r1 : Reads w (.slice A1 u1.length c1) (ucells u1)) (l1 : u1.length ≤ 9223372036854775807) (i1 : I64 m1) (k1 : I64 n1) :
    Calls Try.prog 4 #[.agg #[.int .i64 m0, .int .i64 n0, .slice A0 u0.length c0], .agg #[.int .i64 m1, .int .i64 n1, .slice A1 u1.length c1]] w fun e w' => e = .returned (.bool true) ∧ Below w.heap.size w w' := by
  exact law_union15 A0 A1 c0 c1 m0 n0 m1 n1 u0 u1 w r0 r1 l0 l1 i0 k0 i1 k1

set_option maxRecDepth 100000 in
theorem lifted (os : Os) (started : os.Started) (H : Type) (enc : TypeId × Value → H) :
    ReturnsInHanded {} Try.checked os 4 .any (Rows.bloomUnionSpec.pre6 enc Try.prog Try.f4 Rows.bloomUnionRow.domain false) (Rows.bloomUnionSpec.post enc Try.prog Try.f4 false true false false) := by
  refine returnsInHanded_of_change_sized (C := Try.checked) own started (by kernel_rfl) Try.func4
    (ChangeSpec.witness6 (enc := enc) (C := Try.checked) false ⟨#[], #[.agg #[.int .i64 0, .int .i64 0, .slice none 0 0], .agg #[.int .i64 0, .int .i64 0, .slice none 0 0]], []⟩ 8 (by kernel_rfl) (by kernel_rfl) (by kernel_rfl) (by kernel_rfl)) ?_
  intro W base args ds gs before hval0 hW hcnd hsz _
  have hval : ∀ (j : Nat) t v, Try.f4.params[j]? = some t → args[j]? = some v → Value.okWide Try.prog W .any base t v := hval0
  have hW' := hW
  obtain ⟨p, q, hA0, hV, rfl, hfz, hnd⟩ := hW
  have hA : DataW.TrodAll enc Try.prog W 0 (fun _ => true) true Try.f4.params.toList args.toList ds p := hA0
  rw [Try.params4] at hA hval hsz
  obtain ⟨v0, vs0, d0, ds0, p0, q0, hargs, rfl, rfl, h0, z0⟩ := trodAll_cons hA
  obtain ⟨v1, vs1, d1, ds1, p1, q1, rfl, rfl, rfl, h1, z1⟩ := trodAll_cons z0
  obtain ⟨rfl, rfl, rfl⟩ := trodAll_nil z1
  obtain rfl : args = #[v0, v1] := by cases args; simp_all
  obtain ⟨rfl, rfl⟩ := trodVars_none hV
  obtain ⟨m0, n0, A0, c0, u0, rfl, r0, l0, i0, k0⟩ := bf_of_arg (hval 0 32 v0 rfl rfl) h0
  obtain ⟨m1, n1, A1, c1, u1, rfl, r1, l1, i1, k1⟩ := bf_of_arg (hval 1 32 v1 rfl rfl) h1
  clear hA0 hval0
  refine (walk m0 n0 A0 c0 u0 m1 n1 A1 c1 u1 W r0 l0 i0 k0 r1 l1 i1 k1).mono fun e W' ⟨he, bel⟩ => ?_
  subst he
  exact ⟨_, rfl, _, _, _, [], _, [], hW', trodAll_mk1 (shut_bool Try.underlying4 _), (trodAll_cons_mk (Below.trod laidOut (by kernel_rfl) (of_decide_eq_true (by kernel_rfl)) h0 bel (trod_lt_all h0)) (trodAll_cons_mk (Below.trod laidOut (by kernel_rfl) (of_decide_eq_true (by kernel_rfl)) h1 bel (trod_lt_all h1)) trodAll_mk0)), rfl, bel.frame _, fun h => by cases h⟩

theorem over : Rows.bloomUnionRow.holds Try.pinned (OpenSpec.ofChange Rows.bloomUnionSpec) :=
  OpenClaim.holds_of_wide 4 Try.f4 rfl rfl rfl rfl rfl rfl rfl ⟨rfl, rfl, rfl, rfl, rfl⟩ rfl rfl rfl rfl rfl (by kernel_rfl) Try.func4 (by kernel_rfl)
    (of_decide_eq_true (by kernel_rfl)) (by unfold Func.isWrapper; first | (rw [if_pos (by decide +kernel)]; kernel_rfl) | (rw [if_neg (by decide +kernel)]; exact ⟨rfl, rfl⟩))
    (fun os started H enc _ => lifted os started H enc)
theorem proved : Rows.BloomUnionSaid := over
#print axioms proved
end Go.Proofs.Ytgegjoggiadgbaa.bloomUnion
