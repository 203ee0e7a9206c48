/-
  Strings as lists of bytes: an index, a slice, a sum in a walk. No program, no condition.
-/
import Derived.Test.YtaiphocnfkkigaaDoorNum
import Derived.Test.YtaiphocnfkkigaaDoorWords
import Derived.WalkKit
import Derived.Laws.Concat
namespace Go.Proofs.YtaiphocnfkkigaaDoor
open Go.RowKit
set_option linter.unusedVariables false
set_option linter.unusedSimpArgs false

theorem strOf_eta (s : ByteArray) : s = strOf s.data.toList := rfl
theorem strOf_list (l : List UInt8) : (strOf l).data.toList = l := rfl
theorem strOf_toList (l : List UInt8) : (strOf l).toList = l := by rw [ByteArray.toList_eq]; rfl
theorem strOf_size (l : List UInt8) : (strOf l).size = l.length := rfl
theorem strOf_append (a b : List UInt8) : strOf a ++ strOf b = strOf (a ++ b) := by
  apply ByteArray.ext
  apply Array.ext'
  rw [ByteArray.data_append]
  simp [strOf]
theorem strOf_extract (l : List UInt8) (i j : Nat) : (strOf l).extract i j = strOf ((l.drop i).take (j - i)) := by
  apply ByteArray.ext
  apply Array.ext'
  rw [ByteArray.data_extract]
  simp [strOf, List.extract_eq_take_drop]
theorem strOf_get {l : List UInt8} {j : Nat} {b : UInt8} (hb : l[j]? = some b) : ∀ h : j < (strOf l).size, (strOf l)[j]'h = b := fun h => by
  have hlt : j < l.length := h
  have h1 : l[j]'hlt = b := by
    rw [List.getElem?_eq_getElem hlt] at hb
    injection hb
  rw [← h1]
  rfl
/-- s[i] -/
theorem run_index_l {P : Program} {w : World} (t : TypeId) (ht : P.underlying t = some .string) (l : List UInt8) (c : Nat) (b : UInt8) (hb : l[c]? = some b) :
    (Instr.index t (.string (strOf l)) (.int .i64 (c : Int))).run P w = .ok (.int .u8 (b.toNat : Int)) w := by
  have hlt : c < l.length := by
    rcases Nat.lt_or_ge c l.length with h | h
    · exact h
    · rw [List.getElem?_eq_none h] at hb; cases hb
  have hsz := strOf_size l
  have hrun := run_index_string (P := P) w t (strOf l) .i64 (c : Int) ht
  rw [dif_pos (by omega)] at hrun
  have hget : (strOf l)[(c : Int).toNat]'(by omega) = b := by
    have h1 : l[c]'hlt = b := by
      rw [List.getElem?_eq_getElem hlt] at hb
      injection hb
    rw [← h1]
    simp
    rfl
  rw [hget] at hrun
  exact hrun
theorem wpList_index_l {P : Program} {w : World} {ops : Array Oper} {rest : List Oper} {o : Oper} {a : Act} {Q : Exit → Act → World → Prop} (hgd : o.guard = none) (x i : Operand) (t : TypeId)
    (ho : o.op = .index t x i) (ht : P.underlying t = some .string) (l : List UInt8) (c : Nat) (b : UInt8) (hx : a.eval x = .string (strOf l)) (hi : a.eval i = .int .i64 (c : Int)) (hb : l[c]? = some b) (z : Int) (hz : z = (b.toNat : Int))
    (h : wpList P ops Q rest (a.put o.dst (.int .u8 z)) w) : wpList P ops Q (o :: rest) a w := by
  subst hz
  refine wpList_plain hgd fun K hK => ?_
  unfold Oper.wp execOp
  simp only [ho, Sem.run_bind, Sem.run_pure, Result.andThen_ok, hx, hi, run_index_l (w := w) t ht l c b hb]
  exact hK _ _ h
/-- s[i:j] -/
theorem wpList_slice_l {P : Program} {w : World} {ops : Array Oper} {rest : List Oper} {o : Oper} {a : Act} {Q : Exit → Act → World → Prop} (hgd : o.guard = none) (x lo hi : Operand) (t : TypeId)
    (ho : o.op = .slice t x (some lo) (some hi) none) (ht : P.underlying t = some .string) (l : List UInt8) (i j : Nat) (hx : a.eval x = .string (strOf l)) (hlo : a.eval lo = .int .i64 (i : Int)) (hhi : a.eval hi = .int .i64 (j : Int)) (hij : i ≤ j) (hj : j ≤ l.length) (r : List UInt8) (hr : (l.drop i).take (j - i) = r)
    (h : wpList P ops Q rest (a.put o.dst (.string (strOf r))) w) : wpList P ops Q (o :: rest) a w := by
  subst hr
  refine wpList_plain hgd fun K hK => ?_
  have hrun := run_slice_string (P := P) w t (strOf l) .i64 .i64 (i : Int) (j : Int) ht (by omega) (by omega) (by rw [strOf_size]; omega)
  rw [Int.toNat_natCast, Int.toNat_natCast, strOf_extract] at hrun
  unfold Oper.wp execOp
  simp only [ho, Option.map_some, Option.map_none, Sem.run_bind, Sem.run_pure, Result.andThen_ok, hx, hlo, hhi, run_sliceAt_string (P := P) (w := w) t (.string (strOf l)) (some (.int .i64 (i : Int))) (some (.int .i64 (j : Int))) none ht, hrun]
  exact hK _ _ h
/-- s[i:] -/
theorem wpList_from_l {P : Program} {w : World} {ops : Array Oper} {rest : List Oper} {o : Oper} {a : Act} {Q : Exit → Act → World → Prop} (hgd : o.guard = none) (x lo : Operand) (t : TypeId)
    (ho : o.op = .slice t x (some lo) none none) (ht : P.underlying t = some .string) (l : List UInt8) (i : Nat) (hx : a.eval x = .string (strOf l)) (hlo : a.eval lo = .int .i64 (i : Int)) (hi : i ≤ l.length) (r : List UInt8) (hr : l.drop i = r)
    (h : wpList P ops Q rest (a.put o.dst (.string (strOf r))) w) : wpList P ops Q (o :: rest) a w := by
  subst hr
  refine wpList_plain hgd fun K hK => ?_
  have hrun := run_slice_string_from_if (P := P) w t (strOf l) .i64 (i : Int) ht
  rw [if_pos (by rw [strOf_size]; omega), Int.toNat_natCast, strOf_extract, strOf_size, List.take_of_length_le (by rw [List.length_drop]; exact Nat.le_refl _)] at hrun
  unfold Oper.wp execOp
  simp only [ho, Option.map_some, Option.map_none, Sem.run_bind, Sem.run_pure, Result.andThen_ok, hx, hlo, run_sliceAt_string (P := P) (w := w) t (.string (strOf l)) (some (.int .i64 (i : Int))) none none ht, hrun]
  exact hK _ _ h
theorem str_eq (l m : List UInt8) : ((strOf l).toList == (ByteArray.mk m.toArray).toList) = (l == m) := by
  rw [strOf_toList, ByteArray.toList_eq]
/-- s + t -/
theorem wpList_add_l {P : Program} {w : World} {ops : Array Oper} {rest : List Oper} {o : Oper} {a : Act} {Q : Exit → Act → World → Prop} (hgd : o.guard = none) (x y : Operand) (t : TypeId)
    (ho : o.op = .binOp .add t x y t) (l m : List UInt8) (hx : a.eval x = .string (strOf l)) (hy : a.eval y = .string (strOf m)) (hlen : l.length + m.length ≤ 9223372036854775807)
    (h : wpList P ops Q rest (a.put o.dst (.string (strOf (l ++ m)))) w) : wpList P ops Q (o :: rest) a w := by
  refine wpList_plain hgd fun K hK => ?_
  have hrun := run_string_add_sum (P := P) (w := w) (strOf l) (strOf m) (by rw [strOf_size, strOf_size]; exact hlen)
  rw [strOf_append] at hrun
  unfold Oper.wp execOp
  simp only [ho, Sem.run_bind, Sem.run_pure, Result.andThen_ok, hx, hy, eqGuard_add, binOp_string_add, hrun]
  exact hK _ _ h
end Go.Proofs.YtaiphocnfkkigaaDoor
