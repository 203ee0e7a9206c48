/-
  The reference's Concat, number and Arith over api.Value. Nothing that was there is changed.
-/
import Derived.Test.YtepnegbopnepfaaDoorVal2
import Derived.Laws.Concat
import Derived.Test.YtepnegbopnepfaaDoorLoose
namespace Go.Proofs.YtepnegbopnepfaaDoor
open Go.RowKit
set_option linter.unusedVariables false
set_option linter.unusedSimpArgs false

def concatV (k : Int) (t : ByteArray) (k' : Int) (t' : ByteArray) : Value :=
  if k = 3 ∧ k' = 3 ∧ t.size + t'.size ≤ 4096 then .agg #[.int .i64 3, .int .i64 0, .string (t ++ t')] else nullV
def inI (x : Int) : Prop := -9223372036854775808 ≤ x ∧ x ≤ 9223372036854775807
/-- n and ok: the exact product, if it fits -/
def MulR (a b : Int) (w : World) (e : Ending) (w' : World) : Prop := ∃ n ok, e = .returned (.tuple #[.int .i64 n, .bool ok]) ∧ (ok = true → n = a * b ∧ inI (a * b)) ∧ (ok = false → ¬ inI (a * b)) ∧ Grows w w'
theorem wrap64_of {x : Int} (h : inI x) : wrap64 x = x := by
  unfold inI at h
  unfold wrap64
  omega
theorem wrap64_out {x : Int} (h : wrap64 x = x) : inI x := by
  unfold inI
  unfold wrap64 at h
  omega
theorem mul_ok {a b : Int} (ha : inI a) (hb : inI b) (hb0 : b ≠ 0) : (wrap64 (a * b)).tdiv b = a ↔ inI (a * b) := by
  obtain ⟨ha1, ha2⟩ := ha
  obtain ⟨hb1, hb2⟩ := hb
  constructor
  · intro h
    have h1 := Int.mul_tdiv_add_tmod (wrap64 (a * b)) b
    rw [h] at h1
    have h3 : ((wrap64 (a * b)).tmod b).natAbs < b.natAbs := by rw [Int.natAbs_tmod]; exact Nat.mod_lt _ (by omega)
    have hc : b * a = a * b := Int.mul_comm b a
    rw [hc] at h1
    generalize (wrap64 (a * b)).tmod b = r at *
    apply wrap64_out
    generalize a * b = p at *
    unfold wrap64 at *
    omega
  · intro h
    rw [wrap64_of h, Int.mul_tdiv_cancel _ hb0]
theorem wrap_quo {x b : Int} (hb0 : b ≠ 0) (hb1 : b ≠ -1) : IntKind.i64.wrap ((wrap64 x).tdiv b) = (wrap64 x).tdiv b := by
  have h1 : ((wrap64 x).tdiv b).natAbs = (wrap64 x).natAbs / b.natAbs := Int.natAbs_tdiv _ _
  have h2 : -9223372036854775808 ≤ wrap64 x ∧ wrap64 x ≤ 9223372036854775807 := by unfold wrap64; omega
  by_cases hb : b = 1
  · subst hb
    rw [Int.tdiv_one, IntKind.wrap_i64]
    omega
  · have h3 : (wrap64 x).natAbs / b.natAbs ≤ (wrap64 x).natAbs / 2 := Nat.div_le_div_left (by omega) (by omega)
    rw [IntKind.wrap_i64]
    generalize (wrap64 x).tdiv b = q at *
    omega
end Go.Proofs.YtepnegbopnepfaaDoor
