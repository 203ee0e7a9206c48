/-
  The law ValueOrders returns true for every input whose values and letters are together at most 1048576, and its arguments read afterwards as they read before. Conditions: that bound; the listed tables lie as the program's text lays them, which the card ties to that text.
-/
import Derived.Test.YtepnegbopnepfaaDoorRows
import Derived.Test.YtepnegbopnepfaaDoorCards
import Derived.Test.YtepnegbopnepfaaDoorTie
import Derived.Test.YtepnegbopnepfaaDoorVArg
import Derived.Test.YtepnegbopnepfaaDoorBulk
import Derived.Test.YtepnegbopnepfaaDoorLwOrders
import Derived.WalkKit
import Derived.ProofKit
import Derived.OpenShut
import Derived.Deep.DeepHandedRow
import Derived.Lib.LaidTab
import Derived.LaidMore
import Derived.Lay
import Derived.Stop.Joined
import Derived.ChangeOld
import Derived.Below
import Derived.SevenTiedAt
namespace Go.Proofs.YtepnegbopnepfaaDoor.valueOrders
open Go.ChangeShapes Go.WideShapes Go.ChangeAt Go.RowKit
set_option linter.unusedVariables false

theorem bulk_vals {H : Type} {l : List Val} {d : DataW H} (h : l = [] ∨ ∃ e s, d = .slice e s ∧ l.length = e.length) : l.length + 1 ≤ Rows.uptoBulk d ∨ l = [] := by
  rcases h with h | ⟨e, s, rfl, h⟩
  · exact .inr h
  · exact .inl (bulk_slice e s l.length (by omega))
theorem walk (v0 : Value) (l0 : List Val) (v1 : Value) (l1 : List Val) (v2 : Value) (l2 : List Val) (w : World) (r0 : ReadsV w v0 l0) (i0 : ∀ x ∈ l0, inV x) (n0 : l0.length ≤ 1048576) (r1 : ReadsV w v1 l1) (i1 : ∀ x ∈ l1, inV x) (n1 : l1.length ≤ 1048576) (r2 : ReadsV w v2 l2) (i2 : ∀ x ∈ l2, inV x) (n2 : l2.length ≤ 1048576) (hsh : w.ShapedOpen Tryd.prog) :
    Calls Tryd.prog 4 #[v0, v1, v2] w fun e w' => e = .returned (.bool true) ∧ Below w.heap.size w w' := by
  obtain ⟨m, hm⟩ := maxLen_cell hsh
  exact law_orders v0 v1 v2 l0 l1 l2 w m r0 r1 r2 n0 n1 n2 (fun x hx => by have := (i0 x hx).2; omega) (fun x hx => by have := (i1 x hx).2; omega) (fun x hx => by have := (i2 x hx).2; omega) hm

theorem contract (H : Type) (enc : TypeId × Value → H) (W : World) (base : Nat) (args : Array Value) (ds gs : List (DataW H)) (before : List MemPlace)
    (hval : ∀ (j : Nat) t v, Tryd.f4.params[j]? = some t → args[j]? = some v → Value.okWide Tryd.prog W .any base t v)
    (hW : DataW.Whole enc Tryd.prog Tryd.f4.params.toList Rows.valueOrdersSpec.vars false W args.toList ds gs before) (hk : Rows.uptoSmall H (ds ++ gs) = true) (hsh : W.ShapedOpen Tryd.prog) :
    Calls Tryd.prog 4 args W fun e W' => ∃ v, e = .returned v ∧ Rows.valueOrdersSpec.post enc Tryd.prog Tryd.f4 false true false false W args v W' := by
  have hW' := hW
  obtain ⟨p, q, hA0, hV, rfl, hfz, hnd⟩ := hW
  have hA : DataW.TrodAll enc Tryd.prog W 0 (fun _ => true) true Tryd.f4.params.toList args.toList ds p := hA0
  rw [Tryd.params4] at hA hval
  obtain ⟨v0, vs0, d0, ds0, p0, q0, hargs, rfl, rfl, h0, z0⟩ := trodAll_cons hA
  obtain ⟨v1, vs1, d1, ds1, p1, q1, rfl, rfl, rfl, h1, z1⟩ := trodAll_cons z0
  obtain ⟨v2, vs2, d2, ds2, p2, q2, rfl, rfl, rfl, h2, z2⟩ := trodAll_cons z1
  obtain ⟨rfl, rfl, rfl⟩ := trodAll_nil z2
  obtain rfl : args = #[v0, v1, v2] := by cases args; simp_all
  obtain ⟨rfl, rfl⟩ := trodVars_none hV
  obtain ⟨l0, r0, i0, s0⟩ := vals_of_arg Tryd.underlying31 (hval 0 31 v0 rfl rfl) h0
  obtain ⟨l1, r1, i1, s1⟩ := vals_of_arg Tryd.underlying31 (hval 1 31 v1 rfl rfl) h1
  obtain ⟨l2, r2, i2, s2⟩ := vals_of_arg Tryd.underlying31 (hval 2 31 v2 rfl rfl) h2
  have hb := bulk_bound hk
  simp only [List.append_nil, Rows.uptoBulkAll] at hb
  have n0 := bulk_vals s0
  have n1 := bulk_vals s1
  have n2 := bulk_vals s2
  have m0 : l0.length ≤ 1048576 := by rcases n0 with h | h <;> first | omega | (rw [h]; simp)
  have m1 : l1.length ≤ 1048576 := by rcases n1 with h | h <;> first | omega | (rw [h]; simp)
  have m2 : l2.length ≤ 1048576 := by rcases n2 with h | h <;> first | omega | (rw [h]; simp)
  clear hA0
  refine (walk v0 l0 v1 l1 v2 l2 W r0 i0 m0 r1 i1 m1 r2 i2 m2 hsh).mono fun e W' ⟨he, bel⟩ => ?_
  subst he
  exact ⟨_, rfl, _, _, _, [], _, [], hW', trodAll_mk1 (shut_bool Tryd.underlying4 _), (trodAll_cons_mk (Below.trod laidOut (by kernel_rfl) (of_decide_eq_true (by kernel_rfl)) h0 bel (trod_lt_all h0)) (trodAll_cons_mk (Below.trod laidOut (by kernel_rfl) (of_decide_eq_true (by kernel_rfl)) h1 bel (trod_lt_all h1)) (trodAll_cons_mk (Below.trod laidOut (by kernel_rfl) (of_decide_eq_true (by kernel_rfl)) h2 bel (trod_lt_all h2)) trodAll_mk0))), rfl, bel.frame _, fun h => by cases h⟩

theorem own1 : ownKnob Tryd.prog.godebug = none := by kernel_rfl
noncomputable def start (os : Os) : World := World.laidAll Tryd.prog os Rows.valueOrdersUptoRow.laid
theorem laid_met (os : Os) : laidMet Tryd.prog Rows.valueOrdersUptoRow.laid ((start os).forCall (fun _ _ => 0) ⟨#[], #[.slice none 0 0, .slice none 0 0, .slice none 0 0], []⟩).memory := laidMet_laidAll _ (by kernel_rfl) (by kernel_rfl)
theorem reads (os : Os) {H : Type} (enc : TypeId × Value → H) : ∃ places, DataW.whole enc Tryd.prog ((start os).forCall (fun _ _ => 0) ⟨#[], #[.slice none 0 0, .slice none 0 0, .slice none 0 0], []⟩).memory Tryd.f4.params.toList Rows.valueOrdersSpec.vars false (#[.slice none 0 0, .slice none 0 0, .slice none 0 0] : Array Value).toList 8 = some ([.nil, .nil, .nil], [], places) :=
  ⟨[], by kernel_rfl⟩
set_option maxRecDepth 100000 in
theorem lifted (os : Os) (started : os.Started) (H : Type) (enc : TypeId × Value → H) (F : Stop.Interp) :
    ReturnsInHanded {} Tryd.checked os 4 .any ((Rows.OpenSpec.upto Rows.valueOrdersSpec).preRow enc Tryd.prog Tryd.f4 Rows.valueOrdersUptoRow.domain false Rows.valueOrdersUptoRow.laid) (((Rows.OpenSpec.upto Rows.valueOrdersSpec).at F).post enc Tryd.prog Tryd.f4 false true false false) := by
  obtain ⟨places, hx⟩ := reads os enc
  refine returnsInHanded_of_row (C := Tryd.checked) (s := Rows.OpenSpec.upto Rows.valueOrdersSpec) own1 started (by kernel_rfl) Tryd.func4
    (witness_row_at (enc := enc) (C := Tryd.checked) false (start os) #[.slice none 0 0, .slice none 0 0, .slice none 0 0] (World.laidAll_os _ _ _) (by kernel_rfl) (by kernel_rfl) (by kernel_rfl)
      (OpenSpec.preRow_of_cond 8 hx (by kernel_rfl) (fun k hk => by cases hk; kernel_rfl) (by kernel_rfl) (laid_met os))) ?_
  intro W base args ds gs before hval hW _ hk _ _ hsh _
  exact contract H enc W base args ds gs before hval hW (hk _ rfl) hsh

theorem said : Rows.ValueOrdersUptoSaid :=
  OpenClaim.holds_of_cond 4 Tryd.f4 rfl rfl rfl rfl rfl rfl rfl ⟨rfl, rfl, rfl, rfl, rfl⟩ rfl rfl rfl rfl rfl (by kernel_rfl) Tryd.func4 (by kernel_rfl)
    (of_decide_eq_true (by kernel_rfl)) (by unfold Func.isWrapper; first | (rw [if_pos (by decide +kernel)]; kernel_rfl) | (rw [if_neg (by decide +kernel)]; exact ⟨rfl, rfl⟩))
    (fun os started H enc _ F => by rw [OpenClaim.pre_eq_preRow]; exact lifted os started H enc F)
theorem proved : Rows.ValueOrdersUptoCardSaid :=
  Claim7.holds_tied_plain_at .later [] [.data, .pinned] true (true, "261f318f01880255fe0428d40055bb41d01f0381685b31100753ea84048dcadc") false
    said (fun _ h => by cases h) (by kernel_rfl) (fun _ h => by cases h) valueOrdersUpto_row_tie rfl ⟨rfl, rfl⟩ (by kernel_rfl) rfl
    (fun f fn hf hfn => by
      obtain rfl : f = 4 := Option.some.inj ((show Tryd.prog.funcNamed "lamina/laminalaw04.ValueOrders" = some 4 by kernel_rfl).symm.trans hf) |>.symm
      obtain rfl : fn = Tryd.f4 := (Option.some.inj (Tryd.func4.symm.trans hfn)).symm
      exact ⟨by kernel_rfl, fun j t ht => by
        rw [Tryd.params4] at ht
        rcases j with _ | _ | _ | j
        · obtain rfl : t = 31 := by simpa using ht.symm
          exact (show Tryd.prog.wantsStandIn 31 = false by kernel_rfl)
        · obtain rfl : t = 31 := by simpa using ht.symm
          exact (show Tryd.prog.wantsStandIn 31 = false by kernel_rfl)
        · obtain rfl : t = 31 := by simpa using ht.symm
          exact (show Tryd.prog.wantsStandIn 31 = false by kernel_rfl)
        · simp at ht⟩)
    (by kernel_rfl)
#print axioms proved
end Go.Proofs.YtepnegbopnepfaaDoor.valueOrders
