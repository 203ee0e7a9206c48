/-
  The law DictionaryRoundTrip returns true for every input whose values and letters are together at most 1048576, and its arguments read afterwards as they read before. Condition: that bound.
-/
import Derived.Test.YtgmjoghgmcjebaaDcArg
import Derived.Test.YtgmjoghgmcjebaaBulk
import Derived.Test.YtgmjoghgmcjebaaDcWT
import Derived.WalkKit
import Derived.ProofKit
import Derived.OpenShut
import Derived.ShutString
import Derived.JoinedCond
import Derived.ChangeOld
import Derived.Below
namespace Go.Proofs.Ytgmjoghgmcjebaa.dictionaryRoundTripUpto
open Go.ChangeShapes Go.WideShapes Go.ChangeAt Go.RowKit
set_option linter.unusedVariables false

theorem bulk_of {H : Type} {α : Type} {l : List α} {d : DataW H} (h : l = [] ∨ ∃ e s, d = .slice e s ∧ l.length = e.length) : l.length + 1 ≤ Rows.uptoBulk d ∨ l = [] := by
  rcases h with h | ⟨e, s, rfl, h⟩
  · exact .inr h
  · exact .inl (bulk_slice e s l.length (by omega))
theorem walk (v0 : Value) (l0 : List Str) (A1 : Option Addr) (c1 : Nat) (b1 : List UInt8) (A2 : Option Addr) (c2 : Nat) (b2 : List UInt8) (w : World) (r0 : IsS w v0 l0) (n0 : l0.length ≤ 1048576) (r1 : IsBytes w (.slice A1 b1.length c1) b1) (l1 : b1.length ≤ c1) (n1 : b1.length ≤ 1048576) (r2 : IsBytes w (.slice A2 b2.length c2) b2) (l2 : b2.length ≤ c2) (n2 : b2.length ≤ 1048576) :
    Calls Try.prog 7 #[v0, .slice A1 b1.length c1, .slice A2 b2.length c2] w fun e w' => e = .returned (.bool true) ∧ Below w.heap.size w w' := by
  exact law_roundtrip10 v0 l0 A1 A2 c1 c2 b1 b2 w r0 (by omega) r1 r2 n1 n2

set_option maxRecDepth 100000 in
theorem contract (H : Type) (enc : TypeId × Value → H) (W : World) (base : Nat) (args : Array Value) (ds gs : List (DataW H)) (before : List MemPlace)
    (hval : ∀ (j : Nat) t v, Try.f7.params[j]? = some t → args[j]? = some v → Value.okWide Try.prog W .any base t v)
    (hW : DataW.Whole enc Try.prog Try.f7.params.toList Rows.dictionaryRoundTripSpec.vars false W args.toList ds gs before) (hk : Rows.uptoSmall H (ds ++ gs) = true) :
    Calls Try.prog 7 args W fun e W' => ∃ v, e = .returned v ∧ Rows.dictionaryRoundTripSpec.post enc Try.prog Try.f7 false true false false W args v W' := by
  have hW' := hW
  obtain ⟨p, q, hA0, hV, rfl, hfz, hnd⟩ := hW
  have hA : DataW.TrodAll enc Try.prog W 0 (fun _ => true) true Try.f7.params.toList args.toList ds p := hA0
  rw [Try.params7] at hA hval
  obtain ⟨v0, vs0, d0, ds0, p0, q0, hargs, rfl, rfl, h0, z0⟩ := trodAll_cons hA
  obtain ⟨v1, vs1, d1, ds1, p1, q1, rfl, rfl, rfl, h1, z1⟩ := trodAll_cons z0
  obtain ⟨v2, vs2, d2, ds2, p2, q2, rfl, rfl, rfl, h2, z2⟩ := trodAll_cons z1
  obtain ⟨rfl, rfl, rfl⟩ := trodAll_nil z2
  obtain rfl : args = #[v0, v1, v2] := by cases args; simp_all
  obtain ⟨rfl, rfl⟩ := trodVars_none hV
  obtain ⟨l0, r0, s0⟩ := strs_of_arg (hval 0 22 v0 rfl rfl) h0
  obtain ⟨A1, c1, b1, rfl, r1, l1, s1⟩ := bytes_of_arg (hval 1 40 v1 rfl rfl) h1
  obtain ⟨A2, c2, b2, rfl, r2, l2, s2⟩ := bytes_of_arg (hval 2 40 v2 rfl rfl) h2
  have hb := bulk_bound hk
  simp only [List.append_nil, Rows.uptoBulkAll] at hb
  have n0 : l0.length ≤ 1048576 := by rcases bulk_of s0 with h | h <;> first | omega | (rw [h]; simp)
  have n1 : b1.length ≤ 1048576 := by rcases bulk_of s1 with h | h <;> first | omega | (rw [h]; simp)
  have n2 : b2.length ≤ 1048576 := by rcases bulk_of s2 with h | h <;> first | omega | (rw [h]; simp)
  clear hA0
  refine (walk v0 l0 A1 c1 b1 A2 c2 b2 W r0 n0 r1 l1 n1 r2 l2 n2).mono fun e W' ⟨he, bel⟩ => ?_
  subst he
  exact ⟨_, rfl, _, _, _, [], _, [], hW', trodAll_mk1 (shut_bool Try.underlying4 _), (trodAll_cons_mk (Below.trod laidOut (by kernel_rfl) (of_decide_eq_true (by kernel_rfl)) h0 bel (trod_lt_all h0)) (trodAll_cons_mk (Below.trod laidOut (by kernel_rfl) (of_decide_eq_true (by kernel_rfl)) h1 bel (trod_lt_all h1)) (trodAll_cons_mk (Below.trod laidOut (by kernel_rfl) (of_decide_eq_true (by kernel_rfl)) h2 bel (trod_lt_all h2)) trodAll_mk0))), rfl, bel.frame _, fun h => by cases h⟩
set_option maxRecDepth 100000 in
theorem lifted (os : Os) (started : os.Started) (H : Type) (enc : TypeId × Value → H) (F : Stop.Interp) :
    ReturnsInHanded {} Try.checked os 7 .any ((Rows.OpenSpec.upto Rows.dictionaryRoundTripSpec).pre6 enc Try.prog Try.f7 Rows.dictionaryRoundTripUptoRow.domain false) (((Rows.OpenSpec.upto Rows.dictionaryRoundTripSpec).at F).post enc Try.prog Try.f7 false true false false) := by
  refine returnsInHanded_of_cond (C := Try.checked) (s := Rows.OpenSpec.upto Rows.dictionaryRoundTripSpec) (k := Rows.uptoSmall) rfl own started (by kernel_rfl) Try.func7
    (OpenSpec.witness (enc := enc) (C := Try.checked) (s := Rows.OpenSpec.upto Rows.dictionaryRoundTripSpec) (k := Rows.uptoSmall) rfl false ⟨#[], #[.slice none 0 0, .slice none 0 0, .slice none 0 0], []⟩ 8 (by kernel_rfl) (by kernel_rfl) (by kernel_rfl)
      (x := ([.nil, .nil, .nil], [], [])) (by kernel_rfl) rfl (by kernel_rfl)) ?_
  intro W base args ds gs before hval hW _ hk _
  exact contract H enc W base args ds gs before hval hW hk

theorem over : Rows.dictionaryRoundTripUptoRow.holds Try.pinned (Rows.OpenSpec.upto Rows.dictionaryRoundTripSpec) :=
  OpenClaim.holds_of_cond 7 Try.f7 rfl rfl rfl rfl rfl rfl rfl ⟨rfl, rfl, rfl, rfl, rfl⟩ rfl rfl rfl rfl rfl (by kernel_rfl) Try.func7 (by kernel_rfl)
    (of_decide_eq_true (by kernel_rfl)) (by unfold Func.isWrapper; first | (rw [if_pos (by decide +kernel)]; kernel_rfl) | (rw [if_neg (by decide +kernel)]; exact ⟨rfl, rfl⟩))
    (fun os started H enc _ F => lifted os started H enc F)
theorem proved : Rows.DictionaryRoundTripUptoSaid := over
#print axioms proved
end Go.Proofs.Ytgmjoghgmcjebaa.dictionaryRoundTripUpto
