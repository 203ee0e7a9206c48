/-
  Package value as it landed: And, Or, Negate. Nothing that was there is changed.
-/
import Derived.Test.YtepnegbopnepfaaLv2
import Derived.Test.YtepnegbopnepfaaLv4
namespace Go.Proofs.Ytepnegbopnepfaa
open Go.RowKit
set_option linter.unusedVariables false
set_option linter.unusedSimpArgs false

def ConstV (u : Value) : Value → World → Prop := fun v _ => v = u
def constRs : List (Nat × Value) → Loose
  | [], _ => none
  | (j, u) :: L, i => if i = j then some (ConstV u) else constRs L i
theorem constRs_lasts : ∀ L, (constRs L).lasts
  | [] => fun _ _ h => by cases h
  | (j, u) :: L => fun i R h => by
    unfold constRs at h
    split at h
    · injection h with h; subst h; exact fun _ _ _ h _ => h
    · exact constRs_lasts L i R h
theorem const_loose {f : FuncId} {args : Array Value} {w : World} {u : Value} (h : Calls Try.prog f args w fun e w' => e = .returned u ∧ Grows w w') : Calls Try.prog f args w fun e w' => ∃ v, e = .returned v ∧ Grows w w' ∧ ConstV u v w' :=
  h.mono fun _ _ ⟨he, hw⟩ => ⟨_, he, hw, rfl⟩
theorem const_loose0 {f : FuncId} {args : Array Value} {w : World} {u : Value} (h : Calls Try.prog f args w fun e w' => e = .returned u ∧ w = w') : Calls Try.prog f args w fun e w' => ∃ v, e = .returned v ∧ Grows w w' ∧ ConstV u v w' :=
  h.mono fun _ _ ⟨he, hw⟩ => ⟨_, he, by rw [hw]; exact Below.refl _ _, rfl⟩
theorem decL_form (d : Int) (l : List Val) : ∃ k n, decL d l = .agg #[.int .i64 k, .int .i64 n, .string ⟨#[]⟩] := by
  unfold decL
  split
  · exact ⟨_, _, rfl⟩
  · exact ⟨_, _, rfl⟩
theorem land_any (v : Value) (l : List Val) (w : World) (hr : ReadsV w v l) (hl : l.length ≤ 9223372036854775806) : Calls Try.prog 29 #[v] w fun e w' => e = .returned (decL 0 l) ∧ Grows w w' := by
  have HR := hidden hr
  obtain ⟨A, c, rfl, hle, hxx⟩ := hr
  clear hxx
  have HB := hidden (fun w => lboolean_any false w)
  have HD := hidden (fun w h => ldecide_any 0 (.slice A l.length c) l w h hl)
  obtain ⟨dk, dn, hE⟩ := decL_form 0 l
  have HE := hidden hE
  rw [HE.out] at HD
  unfold boolV at HB
  clear hE
  go_enter Try.func29, Try.ntmps29
  go_wp2_with fail
  refine (HB.out _).mono ?_
  rintro e w2 ⟨rfl, g2⟩
  have HG2 := hidden ((grow1 _).of_below g2)
  have HR2 := hidden ((valRow w _ _ _).grow g2)
  clear g2
  go_wp2_with fail
  refine (HD.out _ (HR.out.grow HG2.out)).mono ?_
  rintro e w3 ⟨rfl, g3⟩
  have HR3 := hidden (HR2.out.grow g3)
  have HG := hidden (HG2.out.of_below g3)
  clear g3
  go_wp2_with (refine wpList_store_val rfl _ _ rfl w.heap.size rfl _ _ _ rfl HR3.out ?_)
  exact bodyPost_ret (results_val rfl _ _ _ _ _ _ rfl (valSet_row HR3.out [.int .i64 dk, .int .i64 dn, .string ⟨#[]⟩])) rfl ⟨by rw [HE.out], valSet_below HG.out (Nat.le_refl _) _⟩
theorem lor_any (v : Value) (l : List Val) (w : World) (hr : ReadsV w v l) (hl : l.length ≤ 9223372036854775806) : Calls Try.prog 31 #[v] w fun e w' => e = .returned (decL 1 l) ∧ Grows w w' := by
  have HR := hidden hr
  obtain ⟨A, c, rfl, hle, hxx⟩ := hr
  clear hxx
  have HB := hidden (fun w => lboolean_any true w)
  have HD := hidden (fun w h => ldecide_any 1 (.slice A l.length c) l w h hl)
  obtain ⟨dk, dn, hE⟩ := decL_form 1 l
  have HE := hidden hE
  rw [HE.out] at HD
  unfold boolV at HB
  clear hE
  go_enter Try.func31, Try.ntmps31
  go_wp2_with fail
  refine (HB.out _).mono ?_
  rintro e w2 ⟨rfl, g2⟩
  have HG2 := hidden ((grow1 _).of_below g2)
  have HR2 := hidden ((valRow w _ _ _).grow g2)
  clear g2
  go_wp2_with fail
  refine (HD.out _ (HR.out.grow HG2.out)).mono ?_
  rintro e w3 ⟨rfl, g3⟩
  have HR3 := hidden (HR2.out.grow g3)
  have HG := hidden (HG2.out.of_below g3)
  clear g3
  go_wp2_with (refine wpList_store_val rfl _ _ rfl w.heap.size rfl _ _ _ rfl HR3.out ?_)
  exact bodyPost_ret (results_val rfl _ _ _ _ _ _ rfl (valSet_row HR3.out [.int .i64 dk, .int .i64 dn, .string ⟨#[]⟩])) rfl ⟨by rw [HE.out], valSet_below HG.out (Nat.le_refl _) _⟩
theorem valid_bool {x : Val} (h : validV x.k x.n x.t = true) (hk : x.k = 1) : x.n = 0 ∨ x.n = 1 := by
  unfold validV at h
  rw [hk, if_neg (by decide), if_pos rfl] at h
  simp at h
  exact h.1
theorem any_congr' {p q : Val → Bool} {l : List Val} (h : ∀ x ∈ l, p x = q x) : l.any p = l.any q := by
  induction l with
  | nil => rfl
  | cons a l ih => simp only [List.any_cons]; rw [h a (List.mem_cons_self ..), ih fun x hx => h x (List.mem_cons_of_mem _ hx)]
theorem decL_and {l : List Val} (h : validL l = true) : decL 0 l = andL l := by
  unfold validL at h
  rw [List.all_eq_true] at h
  unfold decL andL
  have e1 : l.any (decHit 0) = l.any Val.fal := rfl
  rw [e1]
  cases hf : l.any Val.fal
  · rw [if_neg (by decide), if_neg (by decide)]
    have e2 : l.any nonB = l.any fun x => !x.tru := any_congr' fun x hx => by
      have hnf : Val.fal x = false := by
        have := List.any_eq_false.1 hf x hx
        simpa using this
      unfold nonB Val.tru
      unfold Val.fal at hnf
      by_cases hk : x.k = 1
      · rcases valid_bool (h x hx) hk with hn | hn
        · simp [hk, hn] at hnf
        · simp [hk, hn]
      · have e : (x.k == 1) = false := by simpa using hk
        simp [e, bne]
    rw [e2]
    cases l.any fun x => !x.tru <;> rfl
  · rfl
theorem decL_or {l : List Val} (h : validL l = true) : decL 1 l = orL l := by
  unfold validL at h
  rw [List.all_eq_true] at h
  unfold decL orL
  have e1 : l.any (decHit 1) = l.any Val.tru := rfl
  rw [e1]
  cases hf : l.any Val.tru
  · rw [if_neg (by decide), if_neg (by decide)]
    have e2 : l.any nonB = l.any fun x => !x.fal := any_congr' fun x hx => by
      have hnf : Val.tru x = false := by
        have := List.any_eq_false.1 hf x hx
        simpa using this
      unfold nonB Val.fal
      unfold Val.tru at hnf
      by_cases hk : x.k = 1
      · rcases valid_bool (h x hx) hk with hn | hn
        · simp [hk, hn]
        · simp [hk, hn] at hnf
      · have e : (x.k == 1) = false := by simpa using hk
        simp [e, bne]
    rw [e2]
    cases l.any fun x => !x.fal <;> rfl
  · rfl
theorem arith_form (op k n k' n' : Int) : ∃ kk nn, arithV op k n k' n' = .agg #[.int .i64 kk, .int .i64 nn, .string ⟨#[]⟩] := by
  unfold arithV
  split
  · cases numE op n n' <;> exact ⟨_, _, rfl⟩
  · exact ⟨_, _, rfl⟩
theorem neg_arith {k n : Int} (h : inI n) : arithV 10 2 0 k n = negV k n := by
  unfold arithV negV inI at *
  by_cases hk : k = 2
  · subst hk
    rw [if_pos (show (2 : Int) = 2 ∧ (2 : Int) = 2 from ⟨rfl, rfl⟩), show numE 10 0 n = fitI (0 - n) from rfl]
    unfold fitI
    by_cases hn : n = -9223372036854775808
    · subst hn; rfl
    · rw [if_pos (show (2 : Int) = 2 ∧ n ≠ -9223372036854775808 from ⟨rfl, hn⟩), if_pos (by omega), show (0 : Int) - n = -n by omega]
  · rw [if_neg (fun e => hk e.2), if_neg (fun e => hk e.1)]
set_option maxHeartbeats 1000000 in
theorem lnegate_any (k n : Int) (t : ByteArray) (w : World) (hn : inI n) : Calls Try.prog 25 #[.agg #[.int .i64 k, .int .i64 n, .string t]] w fun e w' => e = .returned (negV k n) ∧ Grows w w' := by
  rw [← neg_arith hn]
  obtain ⟨kk, nn, hE⟩ := arith_form 10 2 0 k n
  have HE := hidden hE
  have HI := hidden (fun w => linteger_any 0 w)
  have HA := hidden (fun w => larith_any 10 2 0 k n ⟨#[]⟩ t w (by simp [inI]) hn)
  rw [HE.out] at HA
  unfold intV at HI
  clear hE hn
  go_enter Try.func25, Try.ntmps25
  go_wp2_with fail
  have HC := hidden (fun w' (h : Grows ((w.alloc (.cells #[.int .i64 k, .int .i64 n, .string t] 23)).alloc (.cells #[.int .i64 0, .int .i64 0, .string ⟨#[]⟩] 23)) w') => rowCells (((valRow w (.int .i64 k) (.int .i64 n) (.string t)).grow (grow1 _)).grow h))
  refine wp_region_loose_tail 3 (constRs [(0, .agg #[.int .i64 2, .int .i64 0, .string ⟨#[]⟩]), (2, .agg #[.int .i64 kk, .int .i64 nn, .string ⟨#[]⟩])]) (by kernel_rfl) (by kernel_rfl) (constRs_lasts _) ?_
  simp only [List.take_succ_cons, List.take_zero, List.drop_succ_cons, List.drop_zero]
  refine loose_call (f := 60) (args := #[.int .i64 0]) (by rfl) (by rfl) (fun _ => by go_simp) (fun w' hC' hG' => const_loose (HI.out w')) ?_
  rintro _ ⟨_, _, rfl⟩
  refine ⟨?_, ?_, ?_⟩
  rotate_left
  · go_simp
    rfl
  iterate 1 ((with_reducible refine loose_one (v := ?_) (a' := ?_) ?_ ?_ (fun w' hC' hG' => ?_) ?_ ?_); rotate_left 2; (focus rfl); (focus rfl); (focus (obtain ⟨x0, x1, x2⟩ := HC.out w' hC'; clear hC' hG'; go_simp; rfl)); (focus (go_simp; rfl)))
  refine loose_call (f := 23) (args := #[.int .i64 10, .agg #[.int .i64 2, .int .i64 0, .string ⟨#[]⟩], .agg #[.int .i64 k, .int .i64 n, .string t]]) (by rfl) (by rfl) (fun _ => by go_simp) (fun w' hC' hG' => const_loose (HA.out w')) ?_
  rintro _ ⟨_, _, rfl⟩
  refine ⟨?_, ?_, ?_⟩
  rotate_left
  · go_simp
    rfl
  refine loose_done (fun w5 hC' hG' => ?_)
  clear hG'
  have HR := hidden (valRow2 w w5 _ _ _ _ hC')
  have HG := hidden ((grow2 _ _).of_below hC')
  clear hC'
  refine wpList_store_val rfl _ _ rfl (w.heap.size + 1) rfl _ _ _ rfl HR.out ?_
  go_wp2_with fail
  exact bodyPost_ret (results_val rfl _ _ _ _ _ _ rfl (valSet_row HR.out [.int .i64 kk, .int .i64 nn, .string ⟨#[]⟩])) rfl ⟨by rw [HE.out], valSet_below HG.out (by omega) _⟩
end Go.Proofs.Ytepnegbopnepfaa
