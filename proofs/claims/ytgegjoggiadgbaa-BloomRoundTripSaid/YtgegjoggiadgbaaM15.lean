/-
  Texts that the claims of this seat share, put together (Lv1, Lv4, Lv6, Lv2, Lv5, Tabs). No condition.
-/
import Derived.Test.YtgegjoggiadgbaaM14
import Derived.Lib.Bytealg
import Derived.Lib.Small
/-
  Shaken: what the claims of this seat need of this text. No condition.
-/
namespace Go.Proofs.Ytgegjoggiadgbaa
set_option maxRecDepth 8000
open Go.RowKit
set_option linter.unusedVariables false
set_option linter.unusedSimpArgs false
end Go.Proofs.Ytgegjoggiadgbaa
/-
  Shaken: what the claims of this seat need of this text. No condition.
-/
namespace Go.Proofs.Ytgegjoggiadgbaa
set_option maxRecDepth 8000
open Go.RowKit
set_option linter.unusedVariables false
set_option linter.unusedSimpArgs false
theorem wpList_store_new {W0 : World} {ops : Array Oper} {rest : List Oper} {o : Oper} {a : Act} {Q : Exit → Act → World → Prop} (hgd : o.guard = none) (x y : Operand) (ho : o.op = .store 24 x y)
    (w : World) {z1 z2 z3 : Value} (hW : W0 = w.alloc (.cells #[z1, z2, z3] 24)) (hx : a.eval x = .pointer (some ⟨w.heap.size, 0, none⟩)) (k n : Int) (t : ByteArray) (hy : a.eval y = .agg #[.int .i64 k, .int .i64 n, .string t])
    (h : ∀ W, Row W w.heap.size 24 [.int .i64 k, .int .i64 n, .string t] → Grows w W → W.heap.size = w.heap.size + 1 → wpList Try.prog ops Q rest (a.put o.dst undef) W) : wpList Try.prog ops Q (o :: rest) a W0 := by
  subst hW
  exact wpList_store_val hgd x y ho w.heap.size hx k n t hy (valRow w z1 z2 z3)
    (h _ (valSet_row (valRow w z1 z2 z3) [.int .i64 k, .int .i64 n, .string t]) (valSet_below (grow1 _) (Nat.le_refl _) _) (by simp [World.setRow]))
theorem rowCells {w : World} {g : Nat} {k n t : Value} (h : Row w g 24 [k, n, t]) : w.cell? ⟨g, 0, none⟩ = some k ∧ w.cell? ⟨g, 1, none⟩ = some n ∧ w.cell? ⟨g, 2, none⟩ = some t := ⟨h.cell 0, h.cell 1, h.cell 2⟩
end Go.Proofs.Ytgegjoggiadgbaa
/-
  Shaken: what the claims of this seat need of this text. No condition.
-/
namespace Go.Proofs.Ytgegjoggiadgbaa
set_option maxRecDepth 8000
open Go.RowKit
set_option linter.unusedVariables false
set_option linter.unusedSimpArgs false
theorem validL_at {l : List Val} {j : Nat} {x : Val} (h : validL l = true) (hx : l[j]? = some x) : validV x.k x.n x.t = true := by
  unfold validL at h
  rw [List.all_eq_true] at h
  exact h x (List.mem_of_getElem? hx)
end Go.Proofs.Ytgegjoggiadgbaa
/-
  Shaken: what the claims of this seat need of this text. No condition.
-/
namespace Go.Proofs.Ytgegjoggiadgbaa
set_option maxRecDepth 8000
open Go.RowKit
set_option linter.unusedVariables false
set_option linter.unusedSimpArgs false
end Go.Proofs.Ytgegjoggiadgbaa
/-
  Shaken: what the claims of this seat need of this text. No condition.
-/
namespace Go.Proofs.Ytgegjoggiadgbaa
set_option maxRecDepth 8000
open Go.RowKit
set_option linter.unusedVariables false
set_option linter.unusedSimpArgs false
def ConstV (u : Value) : Value → World → Prop := fun v _ => v = u
def constRs : List (Nat × Value) → Loose
  | [], _ => none
  | (j, u) :: L, i => if i = j then some (ConstV u) else constRs L i
theorem constRs_lasts : ∀ L, (constRs L).lasts
  | [] => fun _ _ h => by cases h
  | (j, u) :: L => fun i R h => by
    unfold constRs at h
    split at h
    · injection h with h; subst h; exact fun _ _ _ h _ => h
    · exact constRs_lasts L i R h
theorem const_loose0 {f : FuncId} {args : Array Value} {w : World} {u : Value} (h : Calls Try.prog f args w fun e w' => e = .returned u ∧ w = w') : Calls Try.prog f args w fun e w' => ∃ v, e = .returned v ∧ Grows w w' ∧ ConstV u v w' :=
  h.mono fun _ _ ⟨he, hw⟩ => ⟨_, he, by rw [hw]; exact Below.refl _ _, rfl⟩
end Go.Proofs.Ytgegjoggiadgbaa
/-
  Shaken: what the claims of this seat need of this text. No condition.
-/
namespace Go.Proofs.Ytgegjoggiadgbaa
set_option maxRecDepth 8000
open Go.RowKit
set_option linter.unusedVariables false
set_option linter.unusedSimpArgs false
theorem ltag_any (k n : Int) (t : ByteArray) (w : World) (h0 : 0 ≤ k) (h1 : k ≤ 3) : Calls Try.prog 72 #[.agg #[.int .i64 k, .int .i64 n, .string t]] w fun e w' => e = .returned (.int .u8 (k + 1)) ∧ Grows w w' := by
  go_enter Try.func72, Try.ntmps72
  go_wp2_with fail
  go_ret
  exact ⟨rfl, grow1 _⟩
def tabRs : List (Nat × (Value → World → Prop)) → Loose
  | [], _ => none
  | (j, R) :: L, i => if i = j then some R else tabRs L i
theorem tabRs_nil : (tabRs []).lasts := fun _ _ h => by cases h
theorem tabRs_cons {j : Nat} {R : Value → World → Prop} {L : List (Nat × (Value → World → Prop))} (h : ∀ v w w', R v w → Grows w w' → R v w') (hL : (tabRs L).lasts) : (tabRs ((j, R) :: L)).lasts := fun i R' hR => by
  unfold tabRs at hR
  split at hR
  · injection hR with hR; subst hR; exact h
  · exact hL i R' hR
theorem ConstV.lasts {u : Value} : ∀ v w w', ConstV u v w → Grows w w' → ConstV u v w' := fun _ _ _ h _ => h
end Go.Proofs.Ytgegjoggiadgbaa
