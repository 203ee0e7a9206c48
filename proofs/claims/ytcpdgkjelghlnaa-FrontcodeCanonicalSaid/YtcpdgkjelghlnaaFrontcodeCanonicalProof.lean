/-
  The law FrontcodeCanonical returns true for every input, and its arguments read afterwards as they read before. No condition.
-/
import Derived.Test.YtcpdgkjelghlnaaFcArg
import Derived.Test.YtcpdgkjelghlnaaFcWC
import Derived.WalkKit
import Derived.ProofKit
import Derived.OpenShut
import Derived.ShutString
import Derived.ChangeOld
import Derived.Below
namespace Go.Proofs.Ytcpdgkjelghlnaa.frontcodeCanonical
open Go.ChangeShapes Go.WideShapes Go.ChangeAt Go.RowKit
set_option linter.unusedVariables false

theorem walk (A0 : Option Addr) (c0 : Nat) (b0 : List UInt8) (a1 : Int) (v2 : Value) (l2 : List Str) (v3 : Value) (l3 : List Str) (w : World) (r0 : IsBytes w (.slice A0 b0.length c0) b0) (l0 : b0.length ≤ c0) (n0 : b0.length ≤ 140737488351232) (h1 : (Lit.int .u8 a1).wf = true) (r2 : IsS w v2 l2) (n2 : l2.length ≤ 140737488351232) (r3 : IsS w v3 l3) (n3 : l3.length ≤ 140737488351232) :
    Calls Try.prog 7 #[.slice A0 b0.length c0, .int .u8 a1, v2, v3] w fun e w' => e = .returned (.bool true) ∧ Below w.heap.size w w' := by
  have hw : 0 ≤ a1 ∧ a1 < 256 := by
    simp [Lit.wf, IntKind.min, IntKind.max, IntKind.bits, IntKind.signed] at h1
    omega
  obtain ⟨n, rfl⟩ := Int.eq_ofNat_of_zero_le hw.1
  exact law_canonical11 A0 c0 b0 n v2 v3 l2 l3 w r0 l0 n0 (by omega) r2 r3 (by omega) (by omega)

set_option maxRecDepth 100000 in
theorem lifted (os : Os) (started : os.Started) (H : Type) (enc : TypeId × Value → H) :
    ReturnsInHanded {} Try.checked os 7 .any (Rows.frontcodeCanonicalSpec.pre6 enc Try.prog Try.f7 Rows.frontcodeCanonicalRow.domain false) (Rows.frontcodeCanonicalSpec.post enc Try.prog Try.f7 false true false false) := by
  refine returnsInHanded_of_change_sized (C := Try.checked) own started (by kernel_rfl) Try.func7
    (ChangeSpec.witness6 (enc := enc) (C := Try.checked) false ⟨#[], #[.slice none 0 0, .int .u8 0, .slice none 0 0, .slice none 0 0], []⟩ 8 (by kernel_rfl) (by kernel_rfl) (by kernel_rfl) (by kernel_rfl)) ?_
  intro W base args ds gs before hval0 hW hcnd hsz _
  have hval : ∀ (j : Nat) t v, Try.f7.params[j]? = some t → args[j]? = some v → Value.okWide Try.prog W .any base t v := hval0
  have hW' := hW
  obtain ⟨p, q, hA0, hV, rfl, hfz, hnd⟩ := hW
  have hA : DataW.TrodAll enc Try.prog W 0 (fun _ => true) true Try.f7.params.toList args.toList ds p := hA0
  rw [Try.params7] at hA hval hsz
  obtain ⟨v0, vs0, d0, ds0, p0, q0, hargs, rfl, rfl, h0, z0⟩ := trodAll_cons hA
  obtain ⟨v1, vs1, d1, ds1, p1, q1, rfl, rfl, rfl, h1, z1⟩ := trodAll_cons z0
  obtain ⟨v2, vs2, d2, ds2, p2, q2, rfl, rfl, rfl, h2, z2⟩ := trodAll_cons z1
  obtain ⟨v3, vs3, d3, ds3, p3, q3, rfl, rfl, rfl, h3, z3⟩ := trodAll_cons z2
  obtain ⟨rfl, rfl, rfl⟩ := trodAll_nil z3
  obtain rfl : args = #[v0, v1, v2, v3] := by cases args; simp_all
  obtain ⟨rfl, rfl⟩ := trodVars_none hV
  obtain ⟨A0, c0, b0, rfl, r0, l0, s0⟩ := bytes_of_arg (hval 0 26 v0 rfl rfl) h0
  have n0 := len_of_reach hsz (j := 0) rfl rfl Try.underlying26 (by rw [bytesU8]; decide) s0
  obtain ⟨a1, rfl, rfl, rfl, g1⟩ := open_int Try.underlying5 (hval 1 5 v1 rfl rfl) h1
  obtain ⟨l2, r2, s2⟩ := strs_of_arg (hval 2 22 v2 rfl rfl) h2
  have n2 := len_of_reach hsz (j := 2) rfl rfl Try.underlying22 (by rw [bytesStr]; decide) s2
  obtain ⟨l3, r3, s3⟩ := strs_of_arg (hval 3 22 v3 rfl rfl) h3
  have n3 := len_of_reach hsz (j := 3) rfl rfl Try.underlying22 (by rw [bytesStr]; decide) s3
  clear hA0 hval0
  refine (walk A0 c0 b0 a1 v2 l2 v3 l3 W r0 l0 n0 g1 r2 n2 r3 n3).mono fun e W' ⟨he, bel⟩ => ?_
  subst he
  exact ⟨_, rfl, _, _, _, [], _, [], hW', trodAll_mk1 (shut_bool Try.underlying4 _), (trodAll_cons_mk (Below.trod laidOut (by kernel_rfl) (of_decide_eq_true (by kernel_rfl)) h0 bel (trod_lt_all h0)) (trodAll_cons_mk (shut_int Try.underlying5 g1) (trodAll_cons_mk (Below.trod laidOut (by kernel_rfl) (of_decide_eq_true (by kernel_rfl)) h2 bel (trod_lt_all h2)) (trodAll_cons_mk (Below.trod laidOut (by kernel_rfl) (of_decide_eq_true (by kernel_rfl)) h3 bel (trod_lt_all h3)) trodAll_mk0)))), rfl, bel.frame _, fun h => by cases h⟩

theorem over : Rows.frontcodeCanonicalRow.holds Try.pinned (OpenSpec.ofChange Rows.frontcodeCanonicalSpec) :=
  OpenClaim.holds_of_wide 7 Try.f7 rfl rfl rfl rfl rfl rfl rfl ⟨rfl, rfl, rfl, rfl, rfl⟩ rfl rfl rfl rfl rfl (by kernel_rfl) Try.func7 (by kernel_rfl)
    (of_decide_eq_true (by kernel_rfl)) (by unfold Func.isWrapper; first | (rw [if_pos (by decide +kernel)]; kernel_rfl) | (rw [if_neg (by decide +kernel)]; exact ⟨rfl, rfl⟩))
    (fun os started H enc _ => lifted os started H enc)
theorem proved : Rows.FrontcodeCanonicalSaid := over
#print axioms proved
end Go.Proofs.Ytcpdgkjelghlnaa.frontcodeCanonical
