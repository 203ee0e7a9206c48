/-
  The law DeltaRoundTrip returns true for every input, and its arguments read afterwards as they read before. No condition.
-/
import Derived.Test.YtjjeebaelpgjlaaFwArg
import Derived.Test.YtjjeebaelpgjlaaDwR
import Derived.WalkKit
import Derived.ProofKit
import Derived.OpenShut
import Derived.ShutString
import Derived.ChangeOld
import Derived.Below
namespace Go.Proofs.Ytjjeebaelpgjlaa.deltaRoundTrip
open Go.ChangeShapes Go.WideShapes Go.ChangeAt Go.RowKit
set_option linter.unusedVariables false

theorem walk (v0 : Value) (l0 : List Int) (A1 : Option Addr) (c1 : Nat) (b1 : List UInt8) (A2 : Option Addr) (c2 : Nat) (b2 : List UInt8) (w : World) (r0 : IsI w v0 l0) (i0 : ∀ x ∈ l0, -9223372036854775808 ≤ x ∧ x ≤ 9223372036854775807) (n0 : l0.length ≤ 140737488351232) (r1 : IsBytes w (.slice A1 b1.length c1) b1) (l1 : b1.length ≤ c1) (n1 : b1.length ≤ 140737488351232) (r2 : IsBytes w (.slice A2 b2.length c2) b2) (l2 : b2.length ≤ c2) (n2 : b2.length ≤ 140737488351232) :
    Calls Try.prog 6 #[v0, .slice A1 b1.length c1, .slice A2 b2.length c2] w fun e w' => e = .returned (.bool true) ∧ Below w.heap.size w w' := by
  exact law_roundtrip9 v0 l0 A1 A2 c1 c2 b1 b2 w r0 r1 r2 (fun x hx => i0 x hx) (by omega) (by omega) (by omega)

set_option maxRecDepth 100000 in
theorem lifted (os : Os) (started : os.Started) (H : Type) (enc : TypeId × Value → H) :
    ReturnsInHanded {} Try.checked os 6 .any (Rows.deltaRoundTripSpec.pre6 enc Try.prog Try.f6 Rows.deltaRoundTripRow.domain false) (Rows.deltaRoundTripSpec.post enc Try.prog Try.f6 false true false false) := by
  refine returnsInHanded_of_change_sized (C := Try.checked) own started (by kernel_rfl) Try.func6
    (ChangeSpec.witness6 (enc := enc) (C := Try.checked) false ⟨#[], #[.slice none 0 0, .slice none 0 0, .slice none 0 0], []⟩ 8 (by kernel_rfl) (by kernel_rfl) (by kernel_rfl) (by kernel_rfl)) ?_
  intro W base args ds gs before hval0 hW hcnd hsz _
  have hval : ∀ (j : Nat) t v, Try.f6.params[j]? = some t → args[j]? = some v → Value.okWide Try.prog W .any base t v := hval0
  have hW' := hW
  obtain ⟨p, q, hA0, hV, rfl, hfz, hnd⟩ := hW
  have hA : DataW.TrodAll enc Try.prog W 0 (fun _ => true) true Try.f6.params.toList args.toList ds p := hA0
  rw [Try.params6] at hA hval hsz
  obtain ⟨v0, vs0, d0, ds0, p0, q0, hargs, rfl, rfl, h0, z0⟩ := trodAll_cons hA
  obtain ⟨v1, vs1, d1, ds1, p1, q1, rfl, rfl, rfl, h1, z1⟩ := trodAll_cons z0
  obtain ⟨v2, vs2, d2, ds2, p2, q2, rfl, rfl, rfl, h2, z2⟩ := trodAll_cons z1
  obtain ⟨rfl, rfl, rfl⟩ := trodAll_nil z2
  obtain rfl : args = #[v0, v1, v2] := by cases args; simp_all
  obtain ⟨rfl, rfl⟩ := trodVars_none hV
  obtain ⟨l0, r0, i0, s0⟩ := ints_of_arg (hval 0 22 v0 rfl rfl) h0
  have n0 := len_of_reach hsz (j := 0) rfl rfl Try.underlying22 (by rw [bytesI64]; decide) s0
  obtain ⟨A1, c1, b1, rfl, r1, l1, s1⟩ := bytes_of_arg (hval 1 27 v1 rfl rfl) h1
  have n1 := len_of_reach hsz (j := 1) rfl rfl Try.underlying27 (by rw [bytesU8]; decide) s1
  obtain ⟨A2, c2, b2, rfl, r2, l2, s2⟩ := bytes_of_arg (hval 2 27 v2 rfl rfl) h2
  have n2 := len_of_reach hsz (j := 2) rfl rfl Try.underlying27 (by rw [bytesU8]; decide) s2
  clear hA0 hval0
  refine (walk v0 l0 A1 c1 b1 A2 c2 b2 W r0 i0 n0 r1 l1 n1 r2 l2 n2).mono fun e W' ⟨he, bel⟩ => ?_
  subst he
  exact ⟨_, rfl, _, _, _, [], _, [], hW', trodAll_mk1 (shut_bool Try.underlying4 _), (trodAll_cons_mk (Below.trod laidOut (by kernel_rfl) (of_decide_eq_true (by kernel_rfl)) h0 bel (trod_lt_all h0)) (trodAll_cons_mk (Below.trod laidOut (by kernel_rfl) (of_decide_eq_true (by kernel_rfl)) h1 bel (trod_lt_all h1)) (trodAll_cons_mk (Below.trod laidOut (by kernel_rfl) (of_decide_eq_true (by kernel_rfl)) h2 bel (trod_lt_all h2)) trodAll_mk0))), rfl, bel.frame _, fun h => by cases h⟩

theorem over : Rows.deltaRoundTripRow.holds Try.pinned (OpenSpec.ofChange Rows.deltaRoundTripSpec) :=
  OpenClaim.holds_of_wide 6 Try.f6 rfl rfl rfl rfl rfl rfl rfl ⟨rfl, rfl, rfl, rfl, rfl⟩ rfl rfl rfl rfl rfl (by kernel_rfl) Try.func6 (by kernel_rfl)
    (of_decide_eq_true (by kernel_rfl)) (by unfold Func.isWrapper; first | (rw [if_pos (by decide +kernel)]; kernel_rfl) | (rw [if_neg (by decide +kernel)]; exact ⟨rfl, rfl⟩))
    (fun os started H enc _ => lifted os started H enc)
theorem proved : Rows.DeltaRoundTripSaid := over
#print axioms proved
end Go.Proofs.Ytjjeebaelpgjlaa.deltaRoundTrip
