/-
  The law BitsetRoundTrip returns true for every input, and its arguments read afterwards as they read before. Condition: the table of math/bits lies as the program's text lays it, which the card ties to that text.
-/
import Derived.Test.YtaegolkoinjmoaaDoorRows
import Derived.Test.YtaegolkoinjmoaaDoorCards
import Derived.Test.YtaegolkoinjmoaaDoorTie
import Derived.Test.YtaegolkoinjmoaaDoorBkLaid
import Derived.Test.YtaegolkoinjmoaaDoorBkLawRT
import Derived.WalkKit
import Derived.ProofKit
import Derived.OpenShut
import Derived.ShutString
import Derived.ChangeOld
import Derived.Below
import Derived.SevenTiedAt
namespace Go.Proofs.YtaegolkoinjmoaaDoor.bitsetRoundTrip
open Go.ChangeShapes Go.WideShapes Go.ChangeAt Go.RowKit
set_option linter.unusedVariables false

theorem walk (a0 : Int) (b0 : Option Addr) (len0 cap0 : Nat) (z0 : List Int) (b1 : Option Addr) (len1 cap1 : Nat) (z1 : List Int) (b2 : Option Addr) (len2 cap2 : Nat) (z2 : List Int) (w : World) (h0 : (Lit.int .i64 a0).wf = true) (w0 : IsRow .u64 w b0 len0 cap0 z0) (w1 : IsRow .u8 w b1 len1 cap1 z1) (w2 : IsRow .u8 w b2 len2 cap2 z2) (hT : Tab w) :
    Calls Tryd.prog 9 #[.agg #[.int .i64 a0, .slice b0 len0 cap0], .slice b1 len1 cap1, .slice b2 len2 cap2] w fun e w' => e = .returned (.bool true) ∧ Below w.heap.size w w' := by
  have hcap : len2 ≤ cap2 := by rcases w2 with ⟨_, rfl, rfl, _⟩ | ⟨x, rfl, hl, _⟩; exact Nat.le_refl _; exact hl
  obtain ⟨hr0, hl0⟩ := reads_of_words w0
  obtain ⟨hr1, hl1, hm1⟩ := isBytes_of_row w1
  obtain ⟨hr2, hl2, hm2⟩ := isBytes_of_row w2
  have h := law_rt b0 b1 b2 cap0 cap1 cap2 a0 (toWords (z0.take len0)) (toBytes (z1.take len1)) (toBytes (z2.take len2)) w (by rw [hl0]; exact hr0) (by rw [hl0]; exact row_le w0) (by rw [hl1]; exact hr1) (by rw [hl2]; exact hr2) (by rw [hl2]; exact hcap) hT (wf_i64 h0).1 (wf_i64 h0).2
  rw [hl0, hl1, hl2] at h
  exact h

set_option maxRecDepth 100000 in
theorem lifted (os : Os) (started : os.Started) (H : Type) (enc : TypeId × Value → H) :
    ReturnsInHanded {} Tryd.checked os 9 .any (fun w args => (Rows.bitsetRoundTripSpec.pre enc Tryd.prog Tryd.f9 [] false w args ∧ laidMetH Tryd.prog laidL w) ∧ sizedMet enc Tryd.prog Tryd.f9 (OpenSpec.ofChange Rows.bitsetRoundTripSpec) false w args)
      (Rows.bitsetRoundTripSpec.post enc Tryd.prog Tryd.f9 false true false false) := by
  refine returnsInHanded_of_change_and (C := Tryd.checked) (X := fun w _ => laidMetH Tryd.prog laidL w) (fun _ _ _ hh h => h.of_heap hh) own started (by kernel_rfl) Tryd.func9
    (ChangeSpec.witness_shaped (enc := enc) (C := Tryd.checked) (os := os) (X := fun w _ => laidMetH Tryd.prog laidL w) false (World.doorLaid Tryd.prog 400 os) #[.agg #[.int .i64 0, .slice none 0 0], .slice none 0 0, .slice none 0 0] 8 rfl (World.shaped_of_RefB (by kernel_rfl) (by kernel_rfl)) (by kernel_rfl) (by kernel_rfl) (by kernel_rfl) (door_met os _)) ?_
  intro W base args ds gs before hval0 hW _ _ hL _
  have hval : ∀ (j : Nat) t v, Tryd.f9.params[j]? = some t → args[j]? = some v → Value.okWide Tryd.prog W .any base t v := hval0
  have hW' := hW
  obtain ⟨p, q, hA0, hV, rfl, hfz, hnd⟩ := hW
  have hA : DataW.TrodAll enc Tryd.prog W 0 (fun _ => true) true Tryd.f9.params.toList args.toList ds p := hA0
  rw [Tryd.params9] at hA hval
  obtain ⟨v0, vs0, d0, ds0, p0, q0, hargs, rfl, rfl, h0, r0⟩ := trodAll_cons hA
  obtain ⟨v1, vs1, d1, ds1, p1, q1, rfl, rfl, rfl, h1, r1⟩ := trodAll_cons r0
  obtain ⟨v2, vs2, d2, ds2, p2, q2, rfl, rfl, rfl, h2, r2⟩ := trodAll_cons r1
  obtain ⟨rfl, rfl, rfl⟩ := trodAll_nil r2
  obtain rfl : args = #[v0, v1, v2] := by cases args; simp_all
  obtain ⟨rfl, rfl⟩ := trodVars_none hV
  obtain ⟨a0, b0, len0, cap0, z0, rfl, g0, w0⟩ := set_of_arg (hval 0 26 v0 rfl rfl) h0
  obtain ⟨b1, len1, cap1, z1, rfl, w1⟩ := row_of_arg Tryd.underlying41 Tryd.underlying5 (by kernel_rfl) (hval 1 41 v1 rfl rfl) h1
  obtain ⟨b2, len2, cap2, z2, rfl, w2⟩ := row_of_arg Tryd.underlying41 Tryd.underlying5 (by kernel_rfl) (hval 2 41 v2 rfl rfl) h2
  have hT := tab_of_laid hL
  clear hA0 hval0
  refine (walk a0 b0 len0 cap0 z0 b1 len1 cap1 z1 b2 len2 cap2 z2 W g0 w0 w1 w2 hT).mono fun e W' ⟨he, bel⟩ => ?_
  subst he
  exact ⟨_, rfl, _, _, _, [], _, [], hW', trodAll_mk1 (shut_bool Tryd.underlying4 _), (trodAll_cons_mk (Below.trod laidOut (by kernel_rfl) (of_decide_eq_true (by kernel_rfl)) h0 bel (trod_lt_all h0)) (trodAll_cons_mk (Below.trod laidOut (by kernel_rfl) (of_decide_eq_true (by kernel_rfl)) h1 bel (trod_lt_all h1)) (trodAll_cons_mk (Below.trod laidOut (by kernel_rfl) (of_decide_eq_true (by kernel_rfl)) h2 bel (trod_lt_all h2)) trodAll_mk0))), rfl, bel.frame _, fun h => by cases h⟩

theorem over : Rows.bitsetRoundTripRow.holds Tryd.pinned (OpenSpec.ofChange Rows.bitsetRoundTripSpec) :=
  OpenClaim.holds_of_wide 9 Tryd.f9 rfl rfl rfl rfl rfl rfl rfl ⟨rfl, rfl, rfl, rfl, rfl⟩ rfl rfl rfl rfl rfl (by kernel_rfl) Tryd.func9 (by kernel_rfl)
    (of_decide_eq_true (by kernel_rfl)) (by unfold Func.isWrapper; first | (rw [if_pos (by decide +kernel)]; kernel_rfl) | (rw [if_neg (by decide +kernel)]; exact ⟨rfl, rfl⟩))
    (fun os started H enc _ => lifted os started H enc)
theorem proved : Rows.BitsetRoundTripCardSaid :=
  Claim7.holds_tied_plain_at .later [] [.data] true (true, "c28097835d663b9d61abf88df0ff9bdd2ad36be2b0d6a8936cd905daa0342278") false
    over (fun _ h => by cases h) (by kernel_rfl) (fun _ h => by cases h) bitsetRoundTrip_row_tie rfl ⟨rfl, rfl⟩ (by kernel_rfl) rfl
    (fun f fn hf hfn => by
      obtain rfl : f = 9 := Option.some.inj ((show Tryd.prog.funcNamed "lamina/laminalaw03.BitsetRoundTrip" = some 9 by kernel_rfl).symm.trans hf) |>.symm
      obtain rfl : fn = Tryd.f9 := (Option.some.inj (Tryd.func9.symm.trans hfn)).symm
      exact ⟨by kernel_rfl, fun j t ht => by
        rw [Tryd.params9] at ht
        rcases j with _ | _ | _ | j
        · obtain rfl : t = 26 := by simpa using ht.symm
          exact (show Tryd.prog.wantsStandIn 26 = false by kernel_rfl)
        · obtain rfl : t = 41 := by simpa using ht.symm
          exact (show Tryd.prog.wantsStandIn 41 = false by kernel_rfl)
        · obtain rfl : t = 41 := by simpa using ht.symm
          exact (show Tryd.prog.wantsStandIn 41 = false by kernel_rfl)
        · simp at ht⟩)
    (by kernel_rfl)
#print axioms proved
end Go.Proofs.YtaegolkoinjmoaaDoor.bitsetRoundTrip
