/-
  Package value as it landed: And, Or, Negate. Nothing that was there is changed.
-/
import Derived.Test.YtepnegbopnepfaaDoorLv2
import Derived.Test.YtepnegbopnepfaaDoorLv4
namespace Go.Proofs.YtepnegbopnepfaaDoor
open Go.RowKit
set_option linter.unusedVariables false
set_option linter.unusedSimpArgs false

def ConstV (u : Value) : Value → World → Prop := fun v _ => v = u
def constRs : List (Nat × Value) → Loose
  | [], _ => none
  | (j, u) :: L, i => if i = j then some (ConstV u) else constRs L i
theorem constRs_lasts : ∀ L, (constRs L).lasts
  | [] => fun _ _ h => by cases h
  | (j, u) :: L => fun i R h => by
    unfold constRs at h
    split at h
    · injection h with h; subst h; exact fun _ _ _ h _ => h
    · exact constRs_lasts L i R h
theorem const_loose {f : FuncId} {args : Array Value} {w : World} {u : Value} (h : Calls Tryd.prog f args w fun e w' => e = .returned u ∧ Grows w w') : Calls Tryd.prog f args w fun e w' => ∃ v, e = .returned v ∧ Grows w w' ∧ ConstV u v w' :=
  h.mono fun _ _ ⟨he, hw⟩ => ⟨_, he, hw, rfl⟩
theorem const_loose0 {f : FuncId} {args : Array Value} {w : World} {u : Value} (h : Calls Tryd.prog f args w fun e w' => e = .returned u ∧ w = w') : Calls Tryd.prog f args w fun e w' => ∃ v, e = .returned v ∧ Grows w w' ∧ ConstV u v w' :=
  h.mono fun _ _ ⟨he, hw⟩ => ⟨_, he, by rw [hw]; exact Below.refl _ _, rfl⟩
theorem decL_form (d : Int) (l : List Val) : ∃ k n, decL d l = .agg #[.int .i64 k, .int .i64 n, .string ⟨#[]⟩] := by
  unfold decL
  split
  · exact ⟨_, _, rfl⟩
  · exact ⟨_, _, rfl⟩
theorem valid_bool {x : Val} (h : validV x.k x.n x.t = true) (hk : x.k = 1) : x.n = 0 ∨ x.n = 1 := by
  unfold validV at h
  rw [hk, if_neg (by decide), if_pos rfl] at h
  simp at h
  exact h.1
theorem any_congr' {p q : Val → Bool} {l : List Val} (h : ∀ x ∈ l, p x = q x) : l.any p = l.any q := by
  induction l with
  | nil => rfl
  | cons a l ih => simp only [List.any_cons]; rw [h a (List.mem_cons_self ..), ih fun x hx => h x (List.mem_cons_of_mem _ hx)]
theorem decL_and {l : List Val} (h : validL l = true) : decL 0 l = andL l := by
  unfold validL at h
  rw [List.all_eq_true] at h
  unfold decL andL
  have e1 : l.any (decHit 0) = l.any Val.fal := rfl
  rw [e1]
  cases hf : l.any Val.fal
  · rw [if_neg (by decide), if_neg (by decide)]
    have e2 : l.any nonB = l.any fun x => !x.tru := any_congr' fun x hx => by
      have hnf : Val.fal x = false := by
        have := List.any_eq_false.1 hf x hx
        simpa using this
      unfold nonB Val.tru
      unfold Val.fal at hnf
      by_cases hk : x.k = 1
      · rcases valid_bool (h x hx) hk with hn | hn
        · simp [hk, hn] at hnf
        · simp [hk, hn]
      · have e : (x.k == 1) = false := by simpa using hk
        simp [e, bne]
    rw [e2]
    cases l.any fun x => !x.tru <;> rfl
  · rfl
theorem decL_or {l : List Val} (h : validL l = true) : decL 1 l = orL l := by
  unfold validL at h
  rw [List.all_eq_true] at h
  unfold decL orL
  have e1 : l.any (decHit 1) = l.any Val.tru := rfl
  rw [e1]
  cases hf : l.any Val.tru
  · rw [if_neg (by decide), if_neg (by decide)]
    have e2 : l.any nonB = l.any fun x => !x.fal := any_congr' fun x hx => by
      have hnf : Val.tru x = false := by
        have := List.any_eq_false.1 hf x hx
        simpa using this
      unfold nonB Val.fal
      unfold Val.tru at hnf
      by_cases hk : x.k = 1
      · rcases valid_bool (h x hx) hk with hn | hn
        · simp [hk, hn]
        · simp [hk, hn] at hnf
      · have e : (x.k == 1) = false := by simpa using hk
        simp [e, bne]
    rw [e2]
    cases l.any fun x => !x.fal <;> rfl
  · rfl
theorem arith_form (op k n k' n' : Int) : ∃ kk nn, arithV op k n k' n' = .agg #[.int .i64 kk, .int .i64 nn, .string ⟨#[]⟩] := by
  unfold arithV
  split
  · cases numE op n n' <;> exact ⟨_, _, rfl⟩
  · exact ⟨_, _, rfl⟩
theorem neg_arith {k n : Int} (h : inI n) : arithV 10 2 0 k n = negV k n := by
  unfold arithV negV inI at *
  by_cases hk : k = 2
  · subst hk
    rw [if_pos (show (2 : Int) = 2 ∧ (2 : Int) = 2 from ⟨rfl, rfl⟩), show numE 10 0 n = fitI (0 - n) from rfl]
    unfold fitI
    by_cases hn : n = -9223372036854775808
    · subst hn; rfl
    · rw [if_pos (show (2 : Int) = 2 ∧ n ≠ -9223372036854775808 from ⟨rfl, hn⟩), if_pos (by omega), show (0 : Int) - n = -n by omega]
  · rw [if_neg (fun e => hk e.2), if_neg (fun e => hk e.1)]
end Go.Proofs.YtepnegbopnepfaaDoor
