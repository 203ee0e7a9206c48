/-
  The reference's number and Arith over api.Value. Nothing that was there is changed.
-/
import Derived.Test.YtepnegbopnepfaaVal3
namespace Go.Proofs.Ytepnegbopnepfaa
open Go.RowKit
set_option linter.unusedVariables false
set_option linter.unusedSimpArgs false

def fitI (x : Int) : Option Int := if -9223372036854775808 ≤ x ∧ x ≤ 9223372036854775807 then some x else none
def numE (op a b : Int) : Option Int :=
  if op = 9 then fitI (a + b) else if op = 10 then fitI (a - b) else if op = 11 then fitI (a * b)
  else if op = 12 then (if b = 0 then none else fitI (a.tdiv b)) else if op = 13 then (if b = 0 then none else some (a.tmod b)) else none
def NumIs (op a b : Int) (w : World) (e : Ending) (w' : World) : Prop := ∃ n ok, e = .returned (.tuple #[.int .i64 n, .bool ok]) ∧ (if ok = true then some n else none) = numE op a b ∧ Grows w w'
theorem numFin {x : Int} {ok : Bool} (h : ok = true ↔ inI x) : (if ok = true then some (wrap64 x) else none) = fitI x := by
  unfold fitI
  by_cases hx : inI x
  · rw [if_pos (h.2 hx), if_pos (show -9223372036854775808 ≤ x ∧ x ≤ 9223372036854775807 from hx), wrap64_of hx]
  · rw [if_neg (fun e => hx (h.1 e)), if_neg (show ¬ (-9223372036854775808 ≤ x ∧ x ≤ 9223372036854775807) from hx)]
theorem tdiv_fit {a b : Int} (ha : inI a) (hb0 : b ≠ 0) (hb1 : b ≠ -1) : inI (a.tdiv b) := by
  have h1 : (a.tdiv b).natAbs = a.natAbs / b.natAbs := Int.natAbs_tdiv _ _
  unfold inI at *
  by_cases hb : b = 1
  · subst hb
    rw [Int.tdiv_one]; exact ha
  · have h3 : a.natAbs / b.natAbs ≤ a.natAbs / 2 := Nat.div_le_div_left (by omega) (by omega)
    generalize a.tdiv b = q at *
    omega
theorem rnumber_any (op a b : Int) (w : World) (ha : inI a) (hb : inI b) : Calls Try.prog 58 #[.int .i64 op, .int .i64 a, .int .i64 b] w (NumIs op a b w) := by
  have HM := hidden (fun w => rmultiply_any a b w ha hb)
  obtain ⟨ha1, ha2⟩ := ha
  obtain ⟨hb1, hb2⟩ := hb
  by_cases h9 : op = 9
  · subst h9
    go_enter Try.func58, Try.ntmps58
    go_wp2_with fail
    all_goals exact bodyPost_ret (results_tmp2 rfl _ _ _) rfl ⟨_, _, rfl, numFin (x := a + b) (by simp [inI]; try omega), Below.refl _ _⟩
  by_cases h10 : op = 10
  · subst h10
    clear h9
    go_enter Try.func58, Try.ntmps58
    go_wp2_with fail
    all_goals exact bodyPost_ret (results_tmp2 rfl _ _ _) rfl ⟨_, _, rfl, numFin (x := a - b) (by simp [inI]; try omega), Below.refl _ _⟩
  by_cases h11 : op = 11
  · subst h11
    clear h9 h10
    go_enter Try.func58, Try.ntmps58
    go_wp2_with fail
    refine (HM.out _).mono ?_
    rintro e w2 ⟨n, ok, rfl, h1, h2, g2⟩
    have H1 := hidden h1
    have H2 := hidden h2
    clear h1 h2
    go_wp2_with fail
    refine bodyPost_ret (results_tmp2 rfl _ _ _) rfl ?_
    refine ⟨n, ok, rfl, ?_, g2⟩
    have hE : numE 11 a b = fitI (a * b) := rfl
    rw [hE]
    cases ok
    · have h := H2.out rfl
      unfold fitI
      rw [if_neg (show ¬ (-9223372036854775808 ≤ a * b ∧ a * b ≤ 9223372036854775807) from h)]; rfl
    · obtain ⟨h, h'⟩ := H1.out rfl
      unfold fitI
      rw [if_pos (show -9223372036854775808 ≤ a * b ∧ a * b ≤ 9223372036854775807 from h'), h]; rfl
  by_cases h12 : op = 12
  · subst h12
    clear h9 h10 h11
    by_cases hb0 : b = 0
    · subst hb0
      go_enter Try.func58, Try.ntmps58
      go_wp2_with fail
      exact bodyPost_ret (results_tmp2 rfl _ _ _) rfl ⟨_, _, rfl, rfl, Below.refl _ _⟩
    · have e0 : (b == 0) = false := by simpa using hb0
      have HE := hidden (show numE 12 a b = fitI (a.tdiv b) from (show (if b = 0 then none else fitI (a.tdiv b)) = _ from if_neg hb0))
      by_cases hbm : b = -1
      · subst hbm
        have HT := hidden (show a.tdiv (-1) = -a by rw [Int.tdiv_neg, Int.tdiv_one])
        by_cases hal : a = -9223372036854775808
        · subst hal
          go_enter Try.func58, Try.ntmps58
          go_wp2_with fail
          exact bodyPost_ret (results_tmp2 rfl _ _ _) rfl ⟨_, _, rfl, by rw [HE.out, HT.out]; rfl, Below.refl _ _⟩
        · have ea : (a == -9223372036854775808) = false := by simpa using hal
          go_enter Try.func58, Try.ntmps58
          go_wp2_with fail
          exact bodyPost_ret (results_tmp2 rfl _ _ _) rfl ⟨_, _, rfl, by rw [HE.out, HT.out]; unfold fitI; rw [if_pos (show -9223372036854775808 ≤ -a ∧ -a ≤ 9223372036854775807 by omega)]; rfl, Below.refl _ _⟩
      · have eb : (b == -1) = false := by simpa using hbm
        have HQ := hidden (tdiv_fit (a := a) ⟨ha1, ha2⟩ hb0 hbm)
        by_cases hal : a = -9223372036854775808
        · subst hal
          have HNT := hidden (show Int.tdiv (-9223372036854775808) b = -Int.tdiv 9223372036854775808 b from Int.neg_tdiv _ _)
          have HQ2 := hidden (show inI (-Int.tdiv 9223372036854775808 b) by rw [← HNT.out]; exact HQ.out)
          go_enter Try.func58, Try.ntmps58
          go_wp2_with fail
          exact bodyPost_ret (results_tmp2 rfl _ _ _) rfl ⟨_, _, rfl, by rw [HE.out, HNT.out]; exact numFin (x := -Int.tdiv 9223372036854775808 b) ⟨fun _ => HQ2.out, fun _ => rfl⟩, Below.refl _ _⟩
        · have ea : (a == -9223372036854775808) = false := by simpa using hal
          go_enter Try.func58, Try.ntmps58
          go_wp2_with fail
          exact bodyPost_ret (results_tmp2 rfl _ _ _) rfl ⟨_, _, rfl, by rw [HE.out]; exact numFin (x := a.tdiv b) ⟨fun _ => HQ.out, fun _ => rfl⟩, Below.refl _ _⟩
  by_cases h13 : op = 13
  · subst h13
    clear h9 h10 h11 h12
    by_cases hb0 : b = 0
    · subst hb0
      go_enter Try.func58, Try.ntmps58
      go_wp2_with fail
      exact bodyPost_ret (results_tmp2 rfl _ _ _) rfl ⟨_, _, rfl, rfl, Below.refl _ _⟩
    · have e0 : (b == 0) = false := by simpa using hb0
      have HE := hidden (show numE 13 a b = some (a.tmod b) from (show (if b = 0 then none else some (a.tmod b)) = _ from if_neg hb0))
      by_cases hbm : b = -1
      · subst hbm
        have HT := hidden (show a.tmod (-1) = 0 by rw [Int.tmod_neg, Int.tmod_one])
        go_enter Try.func58, Try.ntmps58
        go_wp2_with fail
        exact bodyPost_ret (results_tmp2 rfl _ _ _) rfl ⟨_, _, rfl, by rw [HE.out, HT.out]; rfl, Below.refl _ _⟩
      · have eb : (b == -1) = false := by simpa using hbm
        go_enter Try.func58, Try.ntmps58
        go_wp2_with fail
        exact bodyPost_ret (results_tmp2 rfl _ _ _) rfl ⟨_, _, rfl, by rw [HE.out]; rfl, Below.refl _ _⟩
  · have HE := hidden (show numE op a b = none by unfold numE; rw [if_neg h9, if_neg h10, if_neg h11, if_neg h12, if_neg h13])
    go_enter Try.func58, Try.ntmps58
    go_wp2_with fail
    exact bodyPost_ret (results_tmp2 rfl _ _ _) rfl ⟨_, _, rfl, by rw [HE.out]; rfl, Below.refl _ _⟩
def arithV (op k n k' n' : Int) : Value := if k = 2 ∧ k' = 2 then (match numE op n n' with | some r => intV r | none => nullV) else nullV
theorem rarith_any (op k n k' n' : Int) (t t' : ByteArray) (w : World) (h1 : inI n) (h2 : inI n') : Calls Try.prog 24 #[.int .i64 op, .agg #[.int .i64 k, .int .i64 n, .string t], .agg #[.int .i64 k', .int .i64 n', .string t']] w fun e w' => e = .returned (arithV op k n k' n') ∧ Grows w w' := by
  by_cases h : k = 2 ∧ k' = 2
  · obtain ⟨rfl, rfl⟩ := h
    have HE := hidden (show arithV op 2 n 2 n' = (match numE op n n' with | some r => intV r | none => nullV) from if_pos ⟨rfl, rfl⟩)
    have HN := hidden (fun w => rnumber_any op n n' w h1 h2)
    clear h1 h2
    go_enter Try.func24, Try.ntmps24
    go_wp2_with fail
    refine (HN.out _).mono ?_
    rintro e w2 ⟨r, ok, rfl, hn, g2⟩
    cases ok
    · have HE2 := hidden (show arithV op 2 n 2 n' = nullV by rw [HE.out, ← hn]; rfl)
      have HR := hidden (valRow3 w w2 _ _ _ _ _ g2)
      have HG := hidden ((grow3 _ _ _).of_below g2)
      clear hn g2
      go_wp2_with (refine wpList_store_val rfl _ _ rfl (w.heap.size + 2) rfl _ _ _ rfl HR.out ?_)
      exact bodyPost_ret (results_val rfl _ _ _ _ _ _ rfl (valSet_row HR.out [.int .i64 0, .int .i64 0, .string ⟨#[]⟩])) rfl ⟨by rw [HE2.out]; rfl, valSet_below HG.out (by omega) _⟩
    · have HE2 := hidden (show arithV op 2 n 2 n' = intV r by rw [HE.out, ← hn]; rfl)
      have HI := hidden (fun w => rinteger_any r w)
      unfold intV at HI HE2
      have HG2 := hidden g2
      clear hn g2
      go_wp2_with fail
      refine (HI.out _).mono ?_
      rintro e w3 ⟨rfl, g3⟩
      have HR := hidden (valRow3 w w3 _ _ _ _ _ (HG2.out.of_below g3))
      have HG := hidden (((grow3 _ _ _).of_below HG2.out).of_below g3)
      clear g3
      go_wp2_with (refine wpList_store_val rfl _ _ rfl (w.heap.size + 2) rfl _ _ _ rfl HR.out ?_)
      exact bodyPost_ret (results_val rfl _ _ _ _ _ _ rfl (valSet_row HR.out [.int .i64 2, .int .i64 r, .string ⟨#[]⟩])) rfl ⟨by rw [HE2.out], valSet_below HG.out (by omega) _⟩
  · have HE := hidden (show arithV op k n k' n' = nullV from if_neg h)
    by_cases hk : k = 2
    · subst hk
      have hk' : ¬ k' = 2 := fun e => h ⟨rfl, e⟩
      clear h
      go_enter Try.func24, Try.ntmps24
      go_wp2_with fail
      exact bodyPost_ret (results_val rfl _ _ _ _ _ _ rfl (valRow3 w _ _ _ _ _ _ (Below.refl _ _))) rfl ⟨by rw [HE.out]; rfl, grow3 _ _ _⟩
    · clear h
      go_enter Try.func24, Try.ntmps24
      go_wp2_with fail
      exact bodyPost_ret (results_val rfl _ _ _ _ _ _ rfl (valRow3 w _ _ _ _ _ _ (Below.refl _ _))) rfl ⟨by rw [HE.out]; rfl, grow3 _ _ _⟩
end Go.Proofs.Ytepnegbopnepfaa
