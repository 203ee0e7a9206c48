/-
  The reference's Test, Negate, Assignable, Concat over api.Value. Nothing that was there is changed.
-/
import Derived.Test.YtgmjoghgmcjebaaVal
namespace Go.Proofs.Ytgmjoghgmcjebaa
open Go.RowKit
set_option linter.unusedVariables false
set_option linter.unusedSimpArgs false

def testV (op k n : Int) (t : ByteArray) (k' n' : Int) (t' : ByteArray) : Value :=
  if k = 0 ∨ k ≠ k' ∨ op < 1 ∨ 6 < op then nullV else boolV (holdsV op (cmpV k n t k' n' t'))
theorem grow3 {w : World} (o o' o2 : Obj) : Grows w (((w.alloc o).alloc o').alloc o2) := (((Below.refl _ _).alloc (Nat.le_refl _) _).alloc (by simp) _).alloc (by simp; omega) _
theorem valRow3 (w w2 : World) (o o' : Obj) (k n t : Value) (g : Grows (((w.alloc o).alloc o').alloc (.cells #[k, n, t] 37)) w2) : Row w2 (w.heap.size + 2) 37 [k, n, t] :=
  (Row.at_ ((w.alloc o).alloc o') 37 #[k, n, t] [k, n, t] rfl (w.heap.size + 2) (by simp)).grow g
theorem rtest_any (op k n k' n' : Int) (t t' : ByteArray) (w : World) : Calls Try.prog 20 #[.int .i64 op, .agg #[.int .i64 k, .int .i64 n, .string t], .agg #[.int .i64 k', .int .i64 n', .string t']] w fun e w' => e = .returned (testV op k n t k' n' t') ∧ Grows w w' := by
  by_cases h : k = 0 ∨ k ≠ k' ∨ op < 1 ∨ 6 < op
  · have HE := hidden (show testV op k n t k' n' t' = nullV from if_pos h)
    by_cases h1 : k = 0
    · subst h1
      clear h
      go_enter Try.func20, Try.ntmps20
      go_wp2_with fail
      exact bodyPost_ret (results_val rfl _ _ _ _ _ _ rfl (valRow3 w _ _ _ _ _ _ (Below.refl _ _))) rfl ⟨by rw [HE.out]; rfl, grow3 _ _ _⟩
    · by_cases h2 : k = k'
      · subst h2
        by_cases h3 : op < 1
        · clear h
          go_enter Try.func20, Try.ntmps20
          go_wp2_with fail
          exact bodyPost_ret (results_val rfl _ _ _ _ _ _ rfl (valRow3 w _ _ _ _ _ _ (Below.refl _ _))) rfl ⟨by rw [HE.out]; rfl, grow3 _ _ _⟩
        · have h4 : 6 < op := by omega
          clear h
          go_enter Try.func20, Try.ntmps20
          go_wp2_with fail
          exact bodyPost_ret (results_val rfl _ _ _ _ _ _ rfl (valRow3 w _ _ _ _ _ _ (Below.refl _ _))) rfl ⟨by rw [HE.out]; rfl, grow3 _ _ _⟩
      · clear h
        go_enter Try.func20, Try.ntmps20
        go_wp2_with fail
        exact bodyPost_ret (results_val rfl _ _ _ _ _ _ rfl (valRow3 w _ _ _ _ _ _ (Below.refl _ _))) rfl ⟨by rw [HE.out]; rfl, grow3 _ _ _⟩
  · have HE := hidden (show testV op k n t k' n' t' = boolV (holdsV op (cmpV k n t k' n' t')) from if_neg h)
    have h1 : ¬ k = 0 := fun e => h (.inl e)
    have h2 : k = k' := by rcases Int.decEq k k' with e | e; exact absurd (.inr (.inl e)) h; exact e
    have h3 : ¬ op < 1 := fun e => h (.inr (.inr (.inl e)))
    have h4 : ¬ 6 < op := fun e => h (.inr (.inr (.inr e)))
    subst h2
    have HC := hidden (fun w => rcompare_any k n k n' t t' w)
    generalize cmpV k n t k n' t' = c at *
    have HH := hidden (fun w => rholds_any op c w)
    have HB := hidden (fun w => rboolean_any (holdsV op c) w)
    generalize holdsV op c = b at *
    unfold boolV at HB HE
    generalize (if b = true then (1 : Int) else 0) = x at *
    clear h
    go_enter Try.func20, Try.ntmps20
    go_wp2_with fail
    refine (HC.out _).mono ?_
    rintro e w2 ⟨rfl, g2⟩
    go_wp2_with fail
    refine (HH.out _).mono ?_
    rintro e w3 ⟨rfl, rfl⟩
    go_wp2_with fail
    refine (HB.out _).mono ?_
    rintro e w4 ⟨rfl, g4⟩
    have HR := hidden (valRow3 w w4 _ _ _ _ _ (g2.of_below g4))
    have HG := hidden (((grow3 _ _ _).of_below g2).of_below g4)
    clear g2 g4
    go_wp2_with (refine wpList_store_val rfl _ _ rfl (w.heap.size + 2) rfl _ _ _ rfl HR.out ?_)
    exact bodyPost_ret (results_val rfl _ _ _ _ _ _ rfl (valSet_row HR.out [.int .i64 1, .int .i64 x, .string ⟨#[]⟩])) rfl ⟨by rw [HE.out], valSet_below HG.out (by omega) _⟩
def negV (k n : Int) : Value := if k = 2 ∧ n ≠ -9223372036854775808 then intV (-n) else nullV
def assignV (k ty : Int) (nn : Bool) : Int := if k = 0 then (if nn then 17 else 0) else if k = ty then 0 else 7
end Go.Proofs.Ytgmjoghgmcjebaa
