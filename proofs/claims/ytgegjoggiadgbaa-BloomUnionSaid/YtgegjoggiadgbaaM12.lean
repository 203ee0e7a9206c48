/-
  Texts that the claims of this seat share, put together (Val, Val2). No condition.
-/
import Derived.Test.YtgegjoggiadgbaaProg
import Derived.Test.YtgegjoggiadgbaaM1
import Derived.Laws.Cover1
import Derived.WalkKit
/-
  Shaken: what the claims of this seat need of this text. No condition.
-/
namespace Go.Proofs.Ytgegjoggiadgbaa
set_option maxRecDepth 8000
open Go.RowKit
set_option linter.unusedVariables false
set_option linter.unusedSimpArgs false
theorem grow1 {w : World} (o : Obj) : Grows w (w.alloc o) := (Below.refl _ _).alloc (Nat.le_refl _) o
def validV (k n : Int) (t : ByteArray) : Bool :=
  if k = 0 then (n == 0) && t.toList.isEmpty
  else if k = 1 then ((n == 0) || (n == 1)) && t.toList.isEmpty
  else if k = 2 then t.toList.isEmpty
  else if k = 3 then (n == 0) && decide (t.size ≤ 4096)
  else false
theorem rvvalid_any (k n : Int) (t : ByteArray) (w : World) : Calls Try.prog 9 #[.agg #[.int .i64 k, .int .i64 n, .string t]] w fun e w' => e = .returned (.bool (validV k n t)) ∧ Grows w w' := by
  by_cases h0 : k = 0
  · subst h0
    go_enter Try.func9, Try.ntmps9
    go_wp2_with fail
    all_goals (go_ret; exact ⟨retB (by simp [validV, *]), grow1 _⟩)
  by_cases h1 : k = 1
  · subst h1
    clear h0
    go_enter Try.func9, Try.ntmps9
    go_wp2_with fail
    all_goals (go_ret; exact ⟨retB (by simp [validV, *]), grow1 _⟩)
  by_cases h2 : k = 2
  · subst h2
    clear h0 h1
    go_enter Try.func9, Try.ntmps9
    go_wp2_with fail
    all_goals (go_ret; exact ⟨retB (by simp [validV, *]), grow1 _⟩)
  by_cases h3 : k = 3
  · subst h3
    clear h0 h1 h2
    go_enter Try.func9, Try.ntmps9
    go_wp2_with fail
    all_goals (go_ret; exact ⟨retB (by simp [validV, *]; try omega), grow1 _⟩)
  · go_enter Try.func9, Try.ntmps9
    go_wp2_with fail
    all_goals (go_ret; exact ⟨retB (by simp [validV, *]), grow1 _⟩)
theorem size_val : (Try.prog.info? 24).map (·.size) = some 3 := by kernel_rfl
theorem valRow (w : World) (k n t : Value) : Row (w.alloc (.cells #[k, n, t] 24)) w.heap.size 24 [k, n, t] := Row.new w 24 #[k, n, t] [k, n, t] rfl
theorem valSet_row {w : World} {g : Nat} {e : TypeId} {xs : List Value} (h : Row w g e xs) (ys : List Value) : Row (w.setRow g ys.toArray) g e ys := by
  unfold Row at h ⊢
  simp [World.setRow, Array.getElem?_modify, h]
theorem valSet_below {B g : Nat} {a w : World} (h : Below B a w) (hg : B ≤ g) (cs : Array Value) : Below B a (w.setRow g cs) :=
  ⟨h.os, h.tape, h.output, by simpa [World.setRow] using h.size, fun k hk => by
    have e : (w.setRow g cs).heap[k]? = w.heap[k]? := by simp only [World.setRow]; rw [Array.getElem?_modify, if_neg (by omega)]
    exact e.trans (h.block k hk)⟩
theorem wpList_store_val {w : World} {ops : Array Oper} {rest : List Oper} {o : Oper} {a : Act} {Q : Exit → Act → World → Prop} (hgd : o.guard = none) (x y : Operand) (ho : o.op = .store 24 x y)
    (g : Nat) (hx : a.eval x = .pointer (some ⟨g, 0, none⟩)) (k n : Int) (t : ByteArray) (hy : a.eval y = .agg #[.int .i64 k, .int .i64 n, .string t]) {z1 z2 z3 : Value} (hg : Row w g 24 [z1, z2, z3])
    (h : wpList Try.prog ops Q rest (a.put o.dst undef) (w.setRow g #[.int .i64 k, .int .i64 n, .string t])) : wpList Try.prog ops Q (o :: rest) a w :=
  wpList_store_row hgd 24 x y ho g #[.int .i64 k, .int .i64 n, .string t] hx hy 24 #[z1, z2, z3] hg size_val rfl (by simp [Value.oneCell']) h
end Go.Proofs.Ytgegjoggiadgbaa
/-
  Shaken: what the claims of this seat need of this text. No condition.
-/
namespace Go.Proofs.Ytgegjoggiadgbaa
set_option maxRecDepth 8000
open Go.RowKit
set_option linter.unusedVariables false
set_option linter.unusedSimpArgs false
end Go.Proofs.Ytgegjoggiadgbaa
