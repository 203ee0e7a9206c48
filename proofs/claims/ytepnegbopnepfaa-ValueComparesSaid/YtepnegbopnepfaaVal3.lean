/-
  The reference's Concat, number and Arith over api.Value. Nothing that was there is changed.
-/
import Derived.Test.YtepnegbopnepfaaVal2
import Derived.Laws.Concat
import Derived.Test.YtepnegbopnepfaaLoose
namespace Go.Proofs.Ytepnegbopnepfaa
open Go.RowKit
set_option linter.unusedVariables false
set_option linter.unusedSimpArgs false

def concatV (k : Int) (t : ByteArray) (k' : Int) (t' : ByteArray) : Value :=
  if k = 3 ∧ k' = 3 ∧ t.size + t'.size ≤ 4096 then .agg #[.int .i64 3, .int .i64 0, .string (t ++ t')] else nullV
theorem rconcat_any (k n k' n' : Int) (t t' : ByteArray) (w : World) (h1 : t.size ≤ 4096) (h2 : t'.size ≤ 4096) : Calls Try.prog 28 #[.agg #[.int .i64 k, .int .i64 n, .string t], .agg #[.int .i64 k', .int .i64 n', .string t']] w fun e w' => e = .returned (concatV k t k' t') ∧ Grows w w' := by
  by_cases h : k = 3 ∧ k' = 3 ∧ t.size + t'.size ≤ 4096
  · have HE := hidden (show concatV k t k' t' = .agg #[.int .i64 3, .int .i64 0, .string (t ++ t')] from if_pos h)
    obtain ⟨rfl, rfl, hs⟩ := h
    have hd : decide ((4096 : Int) < (t.size : Int) + (t'.size : Int)) = false := by simp; omega
    have ha := run_string_add_sum (P := Try.prog) (a := t) (b := t')
    go_enter Try.func28, Try.ntmps28
    go_wp2_with fail
    exact bodyPost_ret (results_val rfl _ _ _ _ _ _ rfl (valRow3 w _ _ _ _ _ _ (Below.refl _ _))) rfl ⟨by rw [HE.out], grow3 _ _ _⟩
  · have HE := hidden (show concatV k t k' t' = nullV from if_neg h)
    by_cases hk : k = 3
    · subst hk
      by_cases hk' : k' = 3
      · subst hk'
        have hs : ¬ t.size + t'.size ≤ 4096 := fun e => h ⟨rfl, rfl, e⟩
        have hd : decide ((4096 : Int) < (t.size : Int) + (t'.size : Int)) = true := by simp; omega
        clear h
        go_enter Try.func28, Try.ntmps28
        go_wp2_with fail
        exact bodyPost_ret (results_val rfl _ _ _ _ _ _ rfl (valRow3 w _ _ _ _ _ _ (Below.refl _ _))) rfl ⟨by rw [HE.out]; rfl, grow3 _ _ _⟩
      · clear h
        go_enter Try.func28, Try.ntmps28
        go_wp2_with fail
        exact bodyPost_ret (results_val rfl _ _ _ _ _ _ rfl (valRow3 w _ _ _ _ _ _ (Below.refl _ _))) rfl ⟨by rw [HE.out]; rfl, grow3 _ _ _⟩
    · clear h
      go_enter Try.func28, Try.ntmps28
      go_wp2_with fail
      exact bodyPost_ret (results_val rfl _ _ _ _ _ _ rfl (valRow3 w _ _ _ _ _ _ (Below.refl _ _))) rfl ⟨by rw [HE.out]; rfl, grow3 _ _ _⟩
def inI (x : Int) : Prop := -9223372036854775808 ≤ x ∧ x ≤ 9223372036854775807
/-- n and ok: the exact product, if it fits -/
def MulR (a b : Int) (w : World) (e : Ending) (w' : World) : Prop := ∃ n ok, e = .returned (.tuple #[.int .i64 n, .bool ok]) ∧ (ok = true → n = a * b ∧ inI (a * b)) ∧ (ok = false → ¬ inI (a * b)) ∧ Grows w w'
theorem wrap64_of {x : Int} (h : inI x) : wrap64 x = x := by
  unfold inI at h
  unfold wrap64
  omega
theorem wrap64_out {x : Int} (h : wrap64 x = x) : inI x := by
  unfold inI
  unfold wrap64 at h
  omega
theorem mul_ok {a b : Int} (ha : inI a) (hb : inI b) (hb0 : b ≠ 0) : (wrap64 (a * b)).tdiv b = a ↔ inI (a * b) := by
  obtain ⟨ha1, ha2⟩ := ha
  obtain ⟨hb1, hb2⟩ := hb
  constructor
  · intro h
    have h1 := Int.mul_tdiv_add_tmod (wrap64 (a * b)) b
    rw [h] at h1
    have h3 : ((wrap64 (a * b)).tmod b).natAbs < b.natAbs := by rw [Int.natAbs_tmod]; exact Nat.mod_lt _ (by omega)
    have hc : b * a = a * b := Int.mul_comm b a
    rw [hc] at h1
    generalize (wrap64 (a * b)).tmod b = r at *
    apply wrap64_out
    generalize a * b = p at *
    unfold wrap64 at *
    omega
  · intro h
    rw [wrap64_of h, Int.mul_tdiv_cancel _ hb0]
theorem wrap_quo {x b : Int} (hb0 : b ≠ 0) (hb1 : b ≠ -1) : IntKind.i64.wrap ((wrap64 x).tdiv b) = (wrap64 x).tdiv b := by
  have h1 : ((wrap64 x).tdiv b).natAbs = (wrap64 x).natAbs / b.natAbs := Int.natAbs_tdiv _ _
  have h2 : -9223372036854775808 ≤ wrap64 x ∧ wrap64 x ≤ 9223372036854775807 := by unfold wrap64; omega
  by_cases hb : b = 1
  · subst hb
    rw [Int.tdiv_one, IntKind.wrap_i64]
    omega
  · have h3 : (wrap64 x).natAbs / b.natAbs ≤ (wrap64 x).natAbs / 2 := Nat.div_le_div_left (by omega) (by omega)
    rw [IntKind.wrap_i64]
    generalize (wrap64 x).tdiv b = q at *
    omega
theorem rmultiply_any (a b : Int) (w : World) (ha : inI a) (hb : inI b) : Calls Try.prog 81 #[.int .i64 a, .int .i64 b] w (MulR a b w) := by
  have HM := hidden (fun h => mul_ok ha hb h)
  obtain ⟨ha1, ha2⟩ := ha
  obtain ⟨hb1, hb2⟩ := hb
  by_cases h0 : a = 0
  · subst h0
    go_enter Try.func81, Try.ntmps81
    go_wp2_with fail
    refine bodyPost_ret (results_tmp2 rfl _ _ _) rfl ?_
    exact ⟨_, _, rfl, fun _ => ⟨by simp, by simp [inI]⟩, fun h => by simp at h, Below.refl _ _⟩
  have e0 : (a == 0) = false := by simpa using h0
  by_cases h1 : b = 0
  · subst h1
    go_enter Try.func81, Try.ntmps81
    go_wp2_with fail
    refine bodyPost_ret (results_tmp2 rfl _ _ _) rfl ?_
    exact ⟨_, _, rfl, fun _ => ⟨by simp, by simp [inI]⟩, fun h => by simp at h, Below.refl _ _⟩
  have e1 : (b == 0) = false := by simpa using h1
  by_cases h2 : a = -1
  · subst h2
    go_enter Try.func81, Try.ntmps81
    go_wp2_with fail
    refine bodyPost_ret (results_tmp2 rfl _ _ _) rfl ?_
    refine ⟨_, _, rfl, fun h => ?_, fun h => ?_, Below.refl _ _⟩
    · have hx : b ≠ -9223372036854775808 := by simpa using h
      have hi : inI (-b) := ⟨by omega, by omega⟩
      exact ⟨by rw [show (-1 : Int) * b = -b by omega]; exact wrap64_of hi, by rw [show (-1 : Int) * b = -b by omega]; exact hi⟩
    · have hx : b = -9223372036854775808 := by simpa using h
      subst hx
      simp [inI]
  have e2 : (a == -1) = false := by simpa using h2
  by_cases h3 : b = -1
  · subst h3
    go_enter Try.func81, Try.ntmps81
    go_wp2_with fail
    refine bodyPost_ret (results_tmp2 rfl _ _ _) rfl ?_
    refine ⟨_, _, rfl, fun h => ?_, fun h => ?_, Below.refl _ _⟩
    · have hx : a ≠ -9223372036854775808 := by simpa using h
      have hi : inI (-a) := ⟨by omega, by omega⟩
      exact ⟨by rw [show a * (-1 : Int) = -a by omega]; exact wrap64_of hi, by rw [show a * (-1 : Int) = -a by omega]; exact hi⟩
    · have hx : a = -9223372036854775808 := by simpa using h
      subst hx
      simp [inI]
  · have e3 : (b == -1) = false := by simpa using h3
    have HM2 := hidden (HM.out h1)
    have HWQ := hidden (wrap_quo (x := a * b) h1 h3)
    go_enter Try.func81, Try.ntmps81
    go_wp2_with fail
    refine wp_region_loose (fun _ => none) (by kernel_rfl) (by kernel_rfl) (fun i R h => by cases h) ?_
    iterate 8 ((with_reducible refine loose_one (v := ?_) (a' := ?_) ?_ ?_ (fun w' hC' hG' => ?_) ?_ ?_); rotate_left 2; (focus rfl); (focus rfl); (focus (clear hC' hG'; go_simp; rfl)); (focus (go_simp; rfl)))
    refine loose_done (fun w5 hC' hG' => ?_)
    clear hG'
    go_wp2_with fail
    refine bodyPost_ret (results_tmp2 rfl _ _ _) rfl ?_
    refine ⟨wrap64 (a * b), IntKind.i64.wrap ((wrap64 (a * b)).tdiv b) == a, rfl, fun h => ?_, fun h => ?_, hC'⟩
    · rw [HWQ.out] at h
      have hi := HM2.out.1 (by simpa using h)
      exact ⟨wrap64_of hi, hi⟩
    · rw [HWQ.out] at h
      intro hi
      have h2 := HM2.out.2 hi
      rw [h2] at h
      simp at h
end Go.Proofs.Ytepnegbopnepfaa
