/-
  A table of facts for a region walked the loose way; a slice of bytes cut out of another. No walk of the program's own.
-/
import Derived.Test.YtjjeebaelpgjlaaFr1
import Derived.Test.YtjjeebaelpgjlaaVFix
import Derived.Test.YtjjeebaelpgjlaaBq3
import Derived.Test.YtjjeebaelpgjlaaLoose
import Derived.Test.YtjjeebaelpgjlaaLstr
namespace Go.Proofs.Ytjjeebaelpgjlaa
open Go.RowKit
set_option linter.unusedVariables false
set_option linter.unusedSimpArgs false

def ConstV (u : Value) : Value → World → Prop := fun v _ => v = u
theorem ConstV.lasts {u : Value} : ∀ v w w', ConstV u v w → Grows w w' → ConstV u v w' := fun _ _ _ h _ => h
def BytesV (l : List UInt8) : Value → World → Prop := fun v w => IsBytes w v l
theorem BytesV.lasts {l : List UInt8} : ∀ v w w', BytesV l v w → Grows w w' → BytesV l v w' := fun _ _ _ h hg => IsBytes.grow h hg
theorem const_loose {f : FuncId} {args : Array Value} {w : World} {u : Value} (h : Calls Try.prog f args w fun e w' => e = .returned u ∧ Grows w w') : Calls Try.prog f args w fun e w' => ∃ v, e = .returned v ∧ Grows w w' ∧ ConstV u v w' :=
  h.mono fun _ _ ⟨he, hw⟩ => ⟨_, he, hw, rfl⟩
theorem const_loose0 {f : FuncId} {args : Array Value} {w : World} {u : Value} (h : Calls Try.prog f args w fun e w' => e = .returned u ∧ w = w') : Calls Try.prog f args w fun e w' => ∃ v, e = .returned v ∧ Grows w w' ∧ ConstV u v w' :=
  h.mono fun _ _ ⟨he, hw⟩ => ⟨_, he, by rw [hw]; exact Below.refl _ _, rfl⟩
theorem made_loose {f : FuncId} {args : Array Value} {w : World} {l : List UInt8} (h : Calls Try.prog f args w (Made l w)) : Calls Try.prog f args w fun e w' => ∃ v, e = .returned v ∧ Grows w w' ∧ BytesV l v w' :=
  h.mono fun _ _ ⟨v, he, hown, hb⟩ => ⟨v, he, hb, IsBytes.of_own hown⟩
theorem byr_loose {f : FuncId} {args : Array Value} {w : World} {l : List UInt8} (h : Calls Try.prog f args w (ByR l w)) : Calls Try.prog f args w fun e w' => ∃ v, e = .returned v ∧ Grows w w' ∧ BytesV l v w' :=
  h.mono fun _ _ ⟨v, he, hb, hu⟩ => ⟨v, he, hb, hu⟩
def tabRs : List (Nat × (Value → World → Prop)) → Loose
  | [], _ => none
  | (j, R) :: L, i => if i = j then some R else tabRs L i
theorem tabRs_nil : (tabRs []).lasts := fun _ _ h => by cases h
theorem tabRs_cons {j : Nat} {R : Value → World → Prop} {L : List (Nat × (Value → World → Prop))} (h : ∀ v w w', R v w → Grows w w' → R v w') (hL : (tabRs L).lasts) : (tabRs ((j, R) :: L)).lasts := fun i R' hR => by
  unfold tabRs at hR
  split at hR
  · injection hR with hR; subst hR; exact h
  · exact hL i R' hR
theorem slice_reads2 {w : World} {A : Option Addr} {c o p : Nat} {l : List UInt8} (h : IsBytes w (.slice A l.length c) l) (hop : o ≤ p) (hpl : p ≤ l.length) (hlc : l.length ≤ c) :
    IsBytes w (.slice (if c = o then A else Option.map (fun x => x.add o) A) (p - o) (c - o)) ((l.drop o).take (p - o)) := by
  by_cases hpo : p = o
  · have e1 : p - o = 0 := by omega
    rw [e1, List.take_zero]
    exact ⟨_, _, rfl, fun h0 => absurd h0 (by simp)⟩
  · obtain ⟨A', c', he, hc⟩ := h
    injection he with e1 e2 e3
    subst e1
    obtain ⟨b, f, rfl, hcell⟩ := hc (by omega)
    rw [if_neg (by omega), Option.map_some, Addr.add_lit]
    exact IsBytes.sub ⟨some ⟨b, f, none⟩, c, rfl, fun _ => ⟨b, f, rfl, hcell⟩⟩ o (p - o) (c - o) (by omega)
theorem strOf_self (s : List UInt8) : ((strOf s).toList == (strOf s).toList) = true := by simp
end Go.Proofs.Ytjjeebaelpgjlaa
