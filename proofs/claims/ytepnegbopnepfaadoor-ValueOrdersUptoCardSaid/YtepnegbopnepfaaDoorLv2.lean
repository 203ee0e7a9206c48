/-
  Package value as it landed: the arithmetic, Arith, Negate. Nothing that was there is changed.
-/
import Derived.Test.YtepnegbopnepfaaDoorLv1
import Derived.Test.YtepnegbopnepfaaDoorVal4
namespace Go.Proofs.YtepnegbopnepfaaDoor
open Go.RowKit
set_option linter.unusedVariables false
set_option linter.unusedSimpArgs false

def optV : Option Int → Value
  | some r => intV r
  | none => nullV
def optK : Option Int → Int
  | some _ => 2
  | none => 0
def optI : Option Int → Int
  | some r => r
  | none => 0
theorem optV_eq (o : Option Int) : optV o = .agg #[.int .i64 (optK o), .int .i64 (optI o), .string ⟨#[]⟩] := by cases o <;> rfl
theorem lintegerIf_any (b : Bool) (n : Int) (o : Option Int) (w : World) (h : (if b = true then some n else none) = o) : Calls Tryd.prog 56 #[.bool b, .int .i64 n] w fun e w' => e = .returned (.agg #[.int .i64 (optK o), .int .i64 (optI o), .string ⟨#[]⟩]) ∧ Grows w w' := by
  subst h
  cases b
  · go_enter Tryd.func56, Tryd.ntmps56
    go_wp2_with fail
    exact bodyPost_ret (results_val rfl _ _ _ _ _ _ rfl (valRow w _ _ _)) rfl ⟨rfl, grow1 _⟩
  · have HI := hidden (fun w => linteger_any n w)
    unfold intV at HI
    go_enter Tryd.func56, Tryd.ntmps56
    go_wp2_with fail
    refine (HI.out _).mono ?_
    rintro e w2 ⟨rfl, g2⟩
    have HR := hidden ((valRow w _ _ _).grow g2)
    have HG := hidden ((grow1 _).of_below g2)
    clear g2
    go_wp2_with (refine wpList_store_val rfl _ _ rfl w.heap.size rfl _ _ _ rfl HR.out ?_)
    exact bodyPost_ret (results_val rfl _ _ _ _ _ _ rfl (valSet_row HR.out [.int .i64 2, .int .i64 n, .string ⟨#[]⟩])) rfl ⟨rfl, valSet_below HG.out (Nat.le_refl _) _⟩
theorem add_ok {x y : Int} (hx : inI x) (hy : inI y) : (decide (wrap64 (x + y) < x) == decide (y < 0)) = true ↔ inI (x + y) := by
  unfold inI at *
  rw [beq_iff_eq, decide_eq_decide]
  unfold wrap64
  omega
theorem sub_ok {x y : Int} (hx : inI x) (hy : inI y) : (decide (x < wrap64 (x - y)) == decide (y < 0)) = true ↔ inI (x - y) := by
  unfold inI at *
  rw [beq_iff_eq, decide_eq_decide]
  unfold wrap64
  omega
theorem ladd_any (x y : Int) (w : World) (hx : inI x) (hy : inI y) : Calls Tryd.prog 39 #[.int .i64 x, .int .i64 y] w fun e w' => e = .returned (optV (fitI (x + y))) ∧ Grows w w' := by
  have HE := hidden (optV_eq (fitI (x + y)))
  have HI := hidden (fun w => lintegerIf_any (decide (wrap64 (x + y) < x) == decide (y < 0)) (wrap64 (x + y)) _ w (numFin (x := x + y) (add_ok hx hy)))
  clear hx hy
  generalize optK (fitI (x + y)) = kk at *
  generalize optI (fitI (x + y)) = nn at *
  go_enter Tryd.func39, Tryd.ntmps39
  go_wp2_with fail
  refine (HI.out _).mono ?_
  rintro e w2 ⟨rfl, g2⟩
  have HR := hidden ((valRow w _ _ _).grow g2)
  have HG := hidden ((grow1 _).of_below g2)
  clear g2
  go_wp2_with (refine wpList_store_val rfl _ _ rfl w.heap.size rfl _ _ _ rfl HR.out ?_)
  exact bodyPost_ret (results_val rfl _ _ _ _ _ _ rfl (valSet_row HR.out [.int .i64 kk, .int .i64 nn, .string ⟨#[]⟩])) rfl ⟨by rw [HE.out], valSet_below HG.out (Nat.le_refl _) _⟩
theorem lsub_any (x y : Int) (w : World) (hx : inI x) (hy : inI y) : Calls Tryd.prog 40 #[.int .i64 x, .int .i64 y] w fun e w' => e = .returned (optV (fitI (x - y))) ∧ Grows w w' := by
  have HE := hidden (optV_eq (fitI (x - y)))
  have HI := hidden (fun w => lintegerIf_any (decide (x < wrap64 (x - y)) == decide (y < 0)) (wrap64 (x - y)) _ w (numFin (x := x - y) (sub_ok hx hy)))
  clear hx hy
  generalize optK (fitI (x - y)) = kk at *
  generalize optI (fitI (x - y)) = nn at *
  go_enter Tryd.func40, Tryd.ntmps40
  go_wp2_with fail
  refine (HI.out _).mono ?_
  rintro e w2 ⟨rfl, g2⟩
  have HR := hidden ((valRow w _ _ _).grow g2)
  have HG := hidden ((grow1 _).of_below g2)
  clear g2
  go_wp2_with (refine wpList_store_val rfl _ _ rfl w.heap.size rfl _ _ _ rfl HR.out ?_)
  exact bodyPost_ret (results_val rfl _ _ _ _ _ _ rfl (valSet_row HR.out [.int .i64 kk, .int .i64 nn, .string ⟨#[]⟩])) rfl ⟨by rw [HE.out], valSet_below HG.out (Nat.le_refl _) _⟩
set_option maxHeartbeats 1000000 in
theorem lmul_any (x y : Int) (w : World) (hx : inI x) (hy : inI y) : Calls Tryd.prog 41 #[.int .i64 x, .int .i64 y] w fun e w' => e = .returned (optV (fitI (x * y))) ∧ Grows w w' := by
  by_cases h1 : x = -1
  · subst h1
    have HI := hidden (fun w => lsub_any 0 y w (by simp [inI]) hy)
    rw [show (-1 : Int) * y = 0 - y by omega]
    rw [optV_eq] at HI
    have HE := hidden (optV_eq (fitI (0 - y)))
    generalize optK (fitI (0 - y)) = kk at *
    generalize optI (fitI (0 - y)) = nn at *
    clear hx hy
    go_enter Tryd.func41, Tryd.ntmps41
    go_wp2_with fail
    refine (HI.out _).mono ?_
    rintro e w2 ⟨rfl, g2⟩
    have HR := hidden ((valRow w _ _ _).grow g2)
    have HG := hidden ((grow1 _).of_below g2)
    clear g2
    go_wp2_with (refine wpList_store_val rfl _ _ rfl w.heap.size rfl _ _ _ rfl HR.out ?_)
    exact bodyPost_ret (results_val rfl _ _ _ _ _ _ rfl (valSet_row HR.out [.int .i64 kk, .int .i64 nn, .string ⟨#[]⟩])) rfl ⟨by rw [HE.out], valSet_below HG.out (Nat.le_refl _) _⟩
  have e1 : (x == -1) = false := by simpa using h1
  by_cases h0 : x = 0
  · subst h0
    have HE := hidden (optV_eq (fitI (0 * y)))
    have HI := hidden (fun w => lintegerIf_any true 0 (fitI (0 * y)) w (by rw [Int.zero_mul]; rfl))
    generalize optK (fitI (0 * y)) = kk at *
    generalize optI (fitI (0 * y)) = nn at *
    clear hx hy
    go_enter Tryd.func41, Tryd.ntmps41
    go_wp2_with fail
    refine (HI.out _).mono ?_
    rintro e w2 ⟨rfl, g2⟩
    have HR := hidden ((valRow w _ _ _).grow g2)
    have HG := hidden ((grow1 _).of_below g2)
    clear g2
    go_wp2_with (refine wpList_store_val rfl _ _ rfl w.heap.size rfl _ _ _ rfl HR.out ?_)
    exact bodyPost_ret (results_val rfl _ _ _ _ _ _ rfl (valSet_row HR.out [.int .i64 kk, .int .i64 nn, .string ⟨#[]⟩])) rfl ⟨by rw [HE.out], valSet_below HG.out (Nat.le_refl _) _⟩
  have e0 : (x == 0) = false := by simpa using h0
  have HWQ := hidden (wrap64_of (tdiv_fit (a := wrap64 (x * y)) (b := x) (by unfold inI wrap64; omega) h0 h1))
  have HOK := hidden (show (wrap64 ((wrap64 (x * y)).tdiv x) == y) = true ↔ inI (x * y) by
    rw [HWQ.out, beq_iff_eq, Int.mul_comm x y]
    exact mul_ok hy hx h0)
  have HE := hidden (optV_eq (fitI (x * y)))
  have HI := hidden (fun w => lintegerIf_any (wrap64 ((wrap64 (x * y)).tdiv x) == y) (wrap64 (x * y)) _ w (numFin (x := x * y) HOK.out))
  generalize optK (fitI (x * y)) = kk at *
  generalize optI (fitI (x * y)) = nn at *
  clear hx hy
  go_enter Tryd.func41, Tryd.ntmps41
  go_wp2_with fail
  refine (HI.out _).mono ?_
  rintro e w2 ⟨rfl, g2⟩
  have HR := hidden ((valRow w _ _ _).grow g2)
  have HG := hidden ((grow1 _).of_below g2)
  clear g2
  go_wp2_with (refine wpList_store_val rfl _ _ rfl w.heap.size rfl _ _ _ rfl HR.out ?_)
  exact bodyPost_ret (results_val rfl _ _ _ _ _ _ rfl (valSet_row HR.out [.int .i64 kk, .int .i64 nn, .string ⟨#[]⟩])) rfl ⟨by rw [HE.out], valSet_below HG.out (Nat.le_refl _) _⟩
def divO (x y : Int) : Option Int := if y = 0 then none else fitI (x.tdiv y)
theorem ldiv_any (x y : Int) (w : World) (hx : inI x) (hy : inI y) : Calls Tryd.prog 42 #[.int .i64 x, .int .i64 y] w fun e w' => e = .returned (optV (divO x y)) ∧ Grows w w' := by
  by_cases h0 : y = 0
  · subst h0
    have HE := hidden (show optV (divO x 0) = nullV from rfl)
    clear hx hy
    go_enter Tryd.func42, Tryd.ntmps42
    go_wp2_with fail
    exact bodyPost_ret (results_val rfl _ _ _ _ _ _ rfl (valRow w _ _ _)) rfl ⟨by rw [HE.out]; rfl, grow1 _⟩
  have e0 : (y == 0) = false := by simpa using h0
  by_cases hb : y = -1
  · subst hb
    have HT := hidden (show x.tdiv (-1) = -x by rw [Int.tdiv_neg, Int.tdiv_one])
    by_cases hal : x = -9223372036854775808
    · subst hal
      have HE := hidden (show optV (divO (-9223372036854775808) (-1)) = nullV by unfold divO; rw [if_neg h0, HT.out]; rfl)
      clear hx hy h0
      go_enter Tryd.func42, Tryd.ntmps42
      go_wp2_with fail
      exact bodyPost_ret (results_val rfl _ _ _ _ _ _ rfl (valRow w _ _ _)) rfl ⟨by rw [HE.out]; rfl, grow1 _⟩
    · have ea : (x == -9223372036854775808) = false := by simpa using hal
      have HF := hidden (show divO x (-1) = some (wrap64 (-x)) by
        unfold inI at hx
        have hi : inI (-x) := ⟨by omega, by omega⟩
        unfold divO fitI
        rw [if_neg h0, HT.out, if_pos (show -9223372036854775808 ≤ -x ∧ -x ≤ 9223372036854775807 from hi), wrap64_of hi])
      have HI := hidden (fun w => linteger_any (wrap64 (-x)) w)
      have HE := hidden (show optV (divO x (-1)) = intV (wrap64 (-x)) by rw [HF.out]; rfl)
      unfold intV at HI HE
      clear hx hy h0
      go_enter Tryd.func42, Tryd.ntmps42
      go_wp2_with fail
      refine (HI.out _).mono ?_
      rintro e w2 ⟨rfl, g2⟩
      have HR := hidden ((valRow w _ _ _).grow g2)
      have HG := hidden ((grow1 _).of_below g2)
      clear g2
      go_wp2_with (refine wpList_store_val rfl _ _ rfl w.heap.size rfl _ _ _ rfl HR.out ?_)
      exact bodyPost_ret (results_val rfl _ _ _ _ _ _ rfl (valSet_row HR.out [.int .i64 2, .int .i64 (wrap64 (-x)), .string ⟨#[]⟩])) rfl ⟨by rw [HE.out], valSet_below HG.out (Nat.le_refl _) _⟩
  have eb : (y == -1) = false := by simpa using hb
  have HQ := hidden (tdiv_fit hx h0 hb)
  have HF := hidden (show divO x y = some (wrap64 (x.tdiv y)) by
    have hi := HQ.out
    unfold divO fitI
    rw [if_neg h0, if_pos (show -9223372036854775808 ≤ x.tdiv y ∧ x.tdiv y ≤ 9223372036854775807 from hi), wrap64_of hi])
  by_cases hal : x = -9223372036854775808
  · subst hal
    have HNT := hidden (show Int.tdiv (-9223372036854775808) y = -Int.tdiv 9223372036854775808 y from Int.neg_tdiv _ _)
    rw [HNT.out] at HF
    have HI := hidden (fun w => linteger_any (wrap64 (-Int.tdiv 9223372036854775808 y)) w)
    have HE := hidden (show optV (divO (-9223372036854775808) y) = intV (wrap64 (-Int.tdiv 9223372036854775808 y)) by rw [HF.out]; rfl)
    unfold intV at HI HE
    clear hx hy
    go_enter Tryd.func42, Tryd.ntmps42
    go_wp2_with fail
    refine (HI.out _).mono ?_
    rintro e w2 ⟨rfl, g2⟩
    have HR := hidden ((valRow w _ _ _).grow g2)
    have HG := hidden ((grow1 _).of_below g2)
    clear g2
    go_wp2_with (refine wpList_store_val rfl _ _ rfl w.heap.size rfl _ _ _ rfl HR.out ?_)
    exact bodyPost_ret (results_val rfl _ _ _ _ _ _ rfl (valSet_row HR.out [.int .i64 2, .int .i64 (wrap64 (-Int.tdiv 9223372036854775808 y)), .string ⟨#[]⟩])) rfl ⟨by rw [HE.out], valSet_below HG.out (Nat.le_refl _) _⟩
  have ea : (x == -9223372036854775808) = false := by simpa using hal
  have HI := hidden (fun w => linteger_any (wrap64 (x.tdiv y)) w)
  have HE := hidden (show optV (divO x y) = intV (wrap64 (x.tdiv y)) by rw [HF.out]; rfl)
  unfold intV at HI HE
  clear hx hy
  go_enter Tryd.func42, Tryd.ntmps42
  go_wp2_with fail
  refine (HI.out _).mono ?_
  rintro e w2 ⟨rfl, g2⟩
  have HR := hidden ((valRow w _ _ _).grow g2)
  have HG := hidden ((grow1 _).of_below g2)
  clear g2
  go_wp2_with (refine wpList_store_val rfl _ _ rfl w.heap.size rfl _ _ _ rfl HR.out ?_)
  exact bodyPost_ret (results_val rfl _ _ _ _ _ _ rfl (valSet_row HR.out [.int .i64 2, .int .i64 (wrap64 (x.tdiv y)), .string ⟨#[]⟩])) rfl ⟨by rw [HE.out], valSet_below HG.out (Nat.le_refl _) _⟩
def remO (x y : Int) : Option Int := if y = 0 then none else some (x.tmod y)
theorem lrem_any (x y : Int) (w : World) (hx : inI x) (hy : inI y) : Calls Tryd.prog 43 #[.int .i64 x, .int .i64 y] w fun e w' => e = .returned (optV (remO x y)) ∧ Grows w w' := by
  by_cases h0 : y = 0
  · subst h0
    have HE := hidden (show optV (remO x 0) = nullV from rfl)
    clear hx hy
    go_enter Tryd.func43, Tryd.ntmps43
    go_wp2_with fail
    exact bodyPost_ret (results_val rfl _ _ _ _ _ _ rfl (valRow w _ _ _)) rfl ⟨by rw [HE.out]; rfl, grow1 _⟩
  have e0 : (y == 0) = false := by simpa using h0
  have HI := hidden (fun w => linteger_any (x.tmod y) w)
  have HE := hidden (show optV (remO x y) = intV (x.tmod y) by unfold remO; rw [if_neg h0]; rfl)
  unfold intV at HI HE
  by_cases hb : y = -1
  · subst hb
    rw [show x.tmod (-1) = 0 by rw [Int.tmod_neg, Int.tmod_one]] at HI HE
    clear hx hy h0
    go_enter Tryd.func43, Tryd.ntmps43
    go_wp2_with fail
    refine (HI.out _).mono ?_
    rintro e w2 ⟨rfl, g2⟩
    have HR := hidden ((valRow w _ _ _).grow g2)
    have HG := hidden ((grow1 _).of_below g2)
    clear g2
    go_wp2_with (refine wpList_store_val rfl _ _ rfl w.heap.size rfl _ _ _ rfl HR.out ?_)
    exact bodyPost_ret (results_val rfl _ _ _ _ _ _ rfl (valSet_row HR.out [.int .i64 2, .int .i64 0, .string ⟨#[]⟩])) rfl ⟨by rw [HE.out], valSet_below HG.out (Nat.le_refl _) _⟩
  have eb : (y == -1) = false := by simpa using hb
  clear hx hy
  go_enter Tryd.func43, Tryd.ntmps43
  go_wp2_with fail
  refine (HI.out _).mono ?_
  rintro e w2 ⟨rfl, g2⟩
  have HR := hidden ((valRow w _ _ _).grow g2)
  have HG := hidden ((grow1 _).of_below g2)
  clear g2
  go_wp2_with (refine wpList_store_val rfl _ _ rfl w.heap.size rfl _ _ _ rfl HR.out ?_)
  exact bodyPost_ret (results_val rfl _ _ _ _ _ _ rfl (valSet_row HR.out [.int .i64 2, .int .i64 (x.tmod y), .string ⟨#[]⟩])) rfl ⟨by rw [HE.out], valSet_below HG.out (Nat.le_refl _) _⟩
theorem arithV_opt (op n n' : Int) : arithV op 2 n 2 n' = optV (numE op n n') := by
  unfold arithV
  rw [if_pos ⟨rfl, rfl⟩]
  cases numE op n n' <;> rfl
theorem larith_any (op k n k' n' : Int) (t t' : ByteArray) (w : World) (h1 : inI n) (h2 : inI n') : Calls Tryd.prog 18 #[.int .i64 op, .agg #[.int .i64 k, .int .i64 n, .string t], .agg #[.int .i64 k', .int .i64 n', .string t']] w fun e w' => e = .returned (arithV op k n k' n') ∧ Grows w w' := by
  by_cases h : k = 2 ∧ k' = 2
  · obtain ⟨rfl, rfl⟩ := h
    rw [arithV_opt]
    by_cases h9 : op = 9
    · subst h9
      have HI := hidden (fun w => ladd_any n n' w h1 h2)
      rw [show numE 9 n n' = fitI (n + n') from rfl]
      rw [optV_eq] at HI
      have HE := hidden (optV_eq (fitI (n + n')))
      generalize optK (fitI (n + n')) = kk at *
      generalize optI (fitI (n + n')) = nn at *
      clear h1 h2
      go_enter Tryd.func18, Tryd.ntmps18
      go_wp2_with fail
      refine (HI.out _).mono ?_
      rintro e w2 ⟨rfl, g2⟩
      have HR := hidden (valRow3 w w2 _ _ _ _ _ g2)
      have HG := hidden ((grow3 _ _ _).of_below g2)
      clear g2
      go_wp2_with (refine wpList_store_val rfl _ _ rfl (w.heap.size + 2) rfl _ _ _ rfl HR.out ?_)
      exact bodyPost_ret (results_val rfl _ _ _ _ _ _ rfl (valSet_row HR.out [.int .i64 kk, .int .i64 nn, .string ⟨#[]⟩])) rfl ⟨by rw [HE.out], valSet_below HG.out (by omega) _⟩
    by_cases h10 : op = 10
    · subst h10
      clear h9
      have HI := hidden (fun w => lsub_any n n' w h1 h2)
      rw [show numE 10 n n' = fitI (n - n') from rfl]
      rw [optV_eq] at HI
      have HE := hidden (optV_eq (fitI (n - n')))
      generalize optK (fitI (n - n')) = kk at *
      generalize optI (fitI (n - n')) = nn at *
      clear h1 h2
      go_enter Tryd.func18, Tryd.ntmps18
      go_wp2_with fail
      refine (HI.out _).mono ?_
      rintro e w2 ⟨rfl, g2⟩
      have HR := hidden (valRow3 w w2 _ _ _ _ _ g2)
      have HG := hidden ((grow3 _ _ _).of_below g2)
      clear g2
      go_wp2_with (refine wpList_store_val rfl _ _ rfl (w.heap.size + 2) rfl _ _ _ rfl HR.out ?_)
      exact bodyPost_ret (results_val rfl _ _ _ _ _ _ rfl (valSet_row HR.out [.int .i64 kk, .int .i64 nn, .string ⟨#[]⟩])) rfl ⟨by rw [HE.out], valSet_below HG.out (by omega) _⟩
    by_cases h11 : op = 11
    · subst h11
      clear h9 h10
      have HI := hidden (fun w => lmul_any n n' w h1 h2)
      rw [show numE 11 n n' = fitI (n * n') from rfl]
      rw [optV_eq] at HI
      have HE := hidden (optV_eq (fitI (n * n')))
      generalize optK (fitI (n * n')) = kk at *
      generalize optI (fitI (n * n')) = nn at *
      clear h1 h2
      go_enter Tryd.func18, Tryd.ntmps18
      go_wp2_with fail
      refine (HI.out _).mono ?_
      rintro e w2 ⟨rfl, g2⟩
      have HR := hidden (valRow3 w w2 _ _ _ _ _ g2)
      have HG := hidden ((grow3 _ _ _).of_below g2)
      clear g2
      go_wp2_with (refine wpList_store_val rfl _ _ rfl (w.heap.size + 2) rfl _ _ _ rfl HR.out ?_)
      exact bodyPost_ret (results_val rfl _ _ _ _ _ _ rfl (valSet_row HR.out [.int .i64 kk, .int .i64 nn, .string ⟨#[]⟩])) rfl ⟨by rw [HE.out], valSet_below HG.out (by omega) _⟩
    by_cases h12 : op = 12
    · subst h12
      clear h9 h10 h11
      have HI := hidden (fun w => ldiv_any n n' w h1 h2)
      rw [show numE 12 n n' = divO n n' from rfl]
      rw [optV_eq] at HI
      have HE := hidden (optV_eq (divO n n'))
      generalize optK (divO n n') = kk at *
      generalize optI (divO n n') = nn at *
      clear h1 h2
      go_enter Tryd.func18, Tryd.ntmps18
      go_wp2_with fail
      refine (HI.out _).mono ?_
      rintro e w2 ⟨rfl, g2⟩
      have HR := hidden (valRow3 w w2 _ _ _ _ _ g2)
      have HG := hidden ((grow3 _ _ _).of_below g2)
      clear g2
      go_wp2_with (refine wpList_store_val rfl _ _ rfl (w.heap.size + 2) rfl _ _ _ rfl HR.out ?_)
      exact bodyPost_ret (results_val rfl _ _ _ _ _ _ rfl (valSet_row HR.out [.int .i64 kk, .int .i64 nn, .string ⟨#[]⟩])) rfl ⟨by rw [HE.out], valSet_below HG.out (by omega) _⟩
    by_cases h13 : op = 13
    · subst h13
      clear h9 h10 h11 h12
      have HI := hidden (fun w => lrem_any n n' w h1 h2)
      rw [show numE 13 n n' = remO n n' from rfl]
      rw [optV_eq] at HI
      have HE := hidden (optV_eq (remO n n'))
      generalize optK (remO n n') = kk at *
      generalize optI (remO n n') = nn at *
      clear h1 h2
      go_enter Tryd.func18, Tryd.ntmps18
      go_wp2_with fail
      refine (HI.out _).mono ?_
      rintro e w2 ⟨rfl, g2⟩
      have HR := hidden (valRow3 w w2 _ _ _ _ _ g2)
      have HG := hidden ((grow3 _ _ _).of_below g2)
      clear g2
      go_wp2_with (refine wpList_store_val rfl _ _ rfl (w.heap.size + 2) rfl _ _ _ rfl HR.out ?_)
      exact bodyPost_ret (results_val rfl _ _ _ _ _ _ rfl (valSet_row HR.out [.int .i64 kk, .int .i64 nn, .string ⟨#[]⟩])) rfl ⟨by rw [HE.out], valSet_below HG.out (by omega) _⟩
    have HE := hidden (show optV (numE op n n') = nullV by unfold numE; rw [if_neg h9, if_neg h10, if_neg h11, if_neg h12, if_neg h13]; rfl)
    clear h1 h2
    go_enter Tryd.func18, Tryd.ntmps18
    go_wp2_with fail
    exact bodyPost_ret (results_val rfl _ _ _ _ _ _ rfl (valRow3 w _ _ _ _ _ _ (Below.refl _ _))) rfl ⟨by rw [HE.out]; rfl, grow3 _ _ _⟩
  · have HE := hidden (show arithV op k n k' n' = nullV from if_neg h)
    by_cases hk : k = 2
    · subst hk
      have hk' : ¬ k' = 2 := fun e => h ⟨rfl, e⟩
      clear h
      go_enter Tryd.func18, Tryd.ntmps18
      go_wp2_with fail
      exact bodyPost_ret (results_val rfl _ _ _ _ _ _ rfl (valRow3 w _ _ _ _ _ _ (Below.refl _ _))) rfl ⟨by rw [HE.out]; rfl, grow3 _ _ _⟩
    · clear h
      go_enter Tryd.func18, Tryd.ntmps18
      go_wp2_with fail
      exact bodyPost_ret (results_val rfl _ _ _ _ _ _ rfl (valRow3 w _ _ _ _ _ _ (Below.refl _ _))) rfl ⟨by rw [HE.out]; rfl, grow3 _ _ _⟩
end Go.Proofs.YtepnegbopnepfaaDoor
