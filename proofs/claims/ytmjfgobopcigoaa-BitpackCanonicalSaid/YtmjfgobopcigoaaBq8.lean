/-
  A table of facts for a region walked the loose way; the laws' facts on packing and unpacking. No walk of the program's own.
-/
import Derived.Test.YtmjfgobopcigoaaBqLawT
import Derived.Test.YtmjfgobopcigoaaLoose
namespace Go.Proofs.Ytmjfgobopcigoaa
open Go.RowKit
set_option linter.unusedVariables false
set_option linter.unusedSimpArgs false

def ConstV (u : Value) : Value → World → Prop := fun v _ => v = u
theorem ConstV.lasts {u : Value} : ∀ v w w', ConstV u v w → Grows w w' → ConstV u v w' := fun _ _ _ h _ => h
def BytesV (l : List UInt8) : Value → World → Prop := fun v w => IsBytes w v l
theorem BytesV.lasts {l : List UInt8} : ∀ v w w', BytesV l v w → Grows w w' → BytesV l v w' := fun _ _ _ h hg => IsBytes.grow h hg
theorem const_loose {f : FuncId} {args : Array Value} {w : World} {u : Value} (h : Calls Try.prog f args w fun e w' => e = .returned u ∧ Grows w w') : Calls Try.prog f args w fun e w' => ∃ v, e = .returned v ∧ Grows w w' ∧ ConstV u v w' :=
  h.mono fun _ _ ⟨he, hw⟩ => ⟨_, he, hw, rfl⟩
theorem const_loose0 {f : FuncId} {args : Array Value} {w : World} {u : Value} (h : Calls Try.prog f args w fun e w' => e = .returned u ∧ w = w') : Calls Try.prog f args w fun e w' => ∃ v, e = .returned v ∧ Grows w w' ∧ ConstV u v w' :=
  h.mono fun _ _ ⟨he, hw⟩ => ⟨_, he, by rw [hw]; exact Below.refl _ _, rfl⟩
def tabRs : List (Nat × (Value → World → Prop)) → Loose
  | [], _ => none
  | (j, R) :: L, i => if i = j then some R else tabRs L i
theorem tabRs_nil : (tabRs []).lasts := fun _ _ h => by cases h
theorem tabRs_cons {j : Nat} {R : Value → World → Prop} {L : List (Nat × (Value → World → Prop))} (h : ∀ v w w', R v w → Grows w w' → R v w') (hL : (tabRs L).lasts) : (tabRs ((j, R) :: L)).lasts := fun i R' hR => by
  unfold tabRs at hR
  split at hR
  · injection hR with hR; subst hR; exact h
  · exact hL i R' hR
theorem packI_unp {b : List UInt8} {N M : Nat} (h1 : N ≤ 1048576) (h2 : M ≤ 64) (h3 : b.length = szB N M) (h4 : badB b N M = false) : packI (unpL b N M) (M : Int) = b := by
  rw [packI_nat (by rw [unpL_length]; exact h1) h2]
  exact packL_unpL h3 ((badB_false h3).1 h4)
end Go.Proofs.Ytmjfgobopcigoaa
