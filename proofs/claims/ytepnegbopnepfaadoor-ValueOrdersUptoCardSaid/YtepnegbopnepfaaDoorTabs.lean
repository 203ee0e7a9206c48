/-
  Package value as it landed: tag; a table of facts for a region walked the loose way. Nothing that was there is changed.
-/
import Derived.Test.YtepnegbopnepfaaDoorLv6
import Derived.Test.YtepnegbopnepfaaDoorLv5
namespace Go.Proofs.YtepnegbopnepfaaDoor
open Go.RowKit
set_option linter.unusedVariables false
set_option linter.unusedSimpArgs false

theorem ltag_any (k n : Int) (t : ByteArray) (w : World) (h0 : 0 ≤ k) (h1 : k ≤ 3) : Calls Tryd.prog 27 #[.agg #[.int .i64 k, .int .i64 n, .string t]] w fun e w' => e = .returned (.int .u8 (k + 1)) ∧ Grows w w' := by
  go_enter Tryd.func27, Tryd.ntmps27
  go_wp2_with fail
  go_ret
  exact ⟨rfl, grow1 _⟩
def tabRs : List (Nat × (Value → World → Prop)) → Loose
  | [], _ => none
  | (j, R) :: L, i => if i = j then some R else tabRs L i
theorem tabRs_nil : (tabRs []).lasts := fun _ _ h => by cases h
theorem tabRs_cons {j : Nat} {R : Value → World → Prop} {L : List (Nat × (Value → World → Prop))} (h : ∀ v w w', R v w → Grows w w' → R v w') (hL : (tabRs L).lasts) : (tabRs ((j, R) :: L)).lasts := fun i R' hR => by
  unfold tabRs at hR
  split at hR
  · injection hR with hR; subst hR; exact h
  · exact hL i R' hR
theorem ConstV.lasts {u : Value} : ∀ v w w', ConstV u v w → Grows w w' → ConstV u v w' := fun _ _ _ h _ => h
end Go.Proofs.YtepnegbopnepfaaDoor
