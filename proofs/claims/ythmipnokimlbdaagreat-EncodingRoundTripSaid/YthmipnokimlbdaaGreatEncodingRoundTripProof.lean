/-
  The law EncodingRoundTrip returns true for every input, and its arguments read afterwards as they read before. No condition.
-/
import Derived.Test.YthmipnokimlbdaaGreatEnArg
import Derived.Test.YthmipnokimlbdaaGreatM24
import Derived.WalkKit
import Derived.ProofKit
import Derived.OpenShut
import Derived.ShutString
import Derived.ChangeOld
import Derived.Below
namespace Go.Proofs.YthmipnokimlbdaaGreat.encodingRoundTrip
open Go.ChangeShapes Go.WideShapes Go.ChangeAt Go.RowKit
set_option linter.unusedVariables false

theorem walk (x0 : Value) (u0 : Vec) (A1 : Option Addr) (c1 : Nat) (b1 : List UInt8) (w : World) (r0 : IsV w x0 u0) (k0 : Small u0) (r1 : IsBytes w (.slice A1 b1.length c1) b1) (l1 : b1.length ≤ c1) (n1 : b1.length ≤ 140737488351232) :
    Calls Tryz.prog 6 #[x0, .slice A1 b1.length c1] w fun e w' => e = .returned (.bool true) ∧ Below w.heap.size w w' := by
  exact law_roundtrip12 x0 u0 A1 c1 b1 w r0 k0 r1

set_option maxRecDepth 100000 in
theorem lifted (os : Os) (started : os.Started) (H : Type) (enc : TypeId × Value → H) :
    ReturnsInHanded {} Tryz.checked os 6 .any (Rows.encodingRoundTripSpec.pre6 enc Tryz.prog Tryz.f6 Rows.encodingRoundTripRow.domain false) (Rows.encodingRoundTripSpec.post enc Tryz.prog Tryz.f6 false true false false) := by
  refine returnsInHanded_of_change_sized (C := Tryz.checked) own started (by kernel_rfl) Tryz.func6
    (ChangeSpec.witness6 (enc := enc) (C := Tryz.checked) false ⟨#[], #[.agg #[.int .i64 0, .slice none 0 0, .slice none 0 0, .slice none 0 0], .slice none 0 0], []⟩ 8 (by kernel_rfl) (by kernel_rfl) (by kernel_rfl) (by kernel_rfl)) ?_
  intro W base args ds gs before hval0 hW hcnd hsz _
  have hval : ∀ (j : Nat) t v, Tryz.f6.params[j]? = some t → args[j]? = some v → Value.okWide Tryz.prog W .any base t v := hval0
  have hW' := hW
  obtain ⟨p, q, hA0, hV, rfl, hfz, hnd⟩ := hW
  have hA : DataW.TrodAll enc Tryz.prog W 0 (fun _ => true) true Tryz.f6.params.toList args.toList ds p := hA0
  rw [Tryz.params6] at hA hval hsz
  obtain ⟨v0, vs0, d0, ds0, p0, q0, hargs, rfl, rfl, h0, z0⟩ := trodAll_cons hA
  obtain ⟨v1, vs1, d1, ds1, p1, q1, rfl, rfl, rfl, h1, z1⟩ := trodAll_cons z0
  obtain ⟨rfl, rfl, rfl⟩ := trodAll_nil z1
  obtain rfl : args = #[v0, v1] := by cases args; simp_all
  obtain ⟨rfl, rfl⟩ := trodVars_none hV
  obtain ⟨u0, r0, k0⟩ := vec_of_arg (hval 0 26 v0 rfl rfl) h0 (weights_at hsz (j := 0) rfl rfl)
  obtain ⟨A1, c1, b1, rfl, r1, l1, s1⟩ := bytes_of_arg (hval 1 29 v1 rfl rfl) h1
  have n1 := len_of_reach hsz (j := 1) rfl rfl Tryz.underlying29 (by rw [bytesU8]; decide) s1
  clear hA0 hval0
  refine (walk v0 u0 A1 c1 b1 W r0 k0 r1 l1 n1).mono fun e W' ⟨he, bel⟩ => ?_
  subst he
  exact ⟨_, rfl, _, _, _, [], _, [], hW', trodAll_mk1 (shut_bool Tryz.underlying4 _), (trodAll_cons_mk (Below.trod laidOut (by kernel_rfl) (of_decide_eq_true (by kernel_rfl)) h0 bel (trod_lt_all h0)) (trodAll_cons_mk (Below.trod laidOut (by kernel_rfl) (of_decide_eq_true (by kernel_rfl)) h1 bel (trod_lt_all h1)) trodAll_mk0)), rfl, bel.frame _, fun h => by cases h⟩

theorem over : Rows.encodingRoundTripRow.holds Tryz.pinned (OpenSpec.ofChange Rows.encodingRoundTripSpec) :=
  OpenClaim.holds_of_wide 6 Tryz.f6 rfl rfl rfl rfl rfl rfl rfl ⟨rfl, rfl, rfl, rfl, rfl⟩ rfl rfl rfl rfl rfl (by kernel_rfl) Tryz.func6 (by kernel_rfl)
    (of_decide_eq_true (by kernel_rfl)) (by unfold Func.isWrapper; first | (rw [if_pos (by decide +kernel)]; kernel_rfl) | (rw [if_neg (by decide +kernel)]; exact ⟨rfl, rfl⟩))
    (fun os started H enc _ => lifted os started H enc)
theorem proved : Rows.EncodingRoundTripSaid := over
#print axioms proved
end Go.Proofs.YthmipnokimlbdaaGreat.encodingRoundTrip
