/-
  Texts that the claims of this seat share, put together (Val, Val2). No condition.
-/
import Derived.Test.YtoaklmceejeblaaGreatProg
import Derived.Test.YtoaklmceejeblaaGreatM1
import Derived.Laws.Cover1
import Derived.WalkKit
/-
  Shaken: what the claims of this seat need of this text. No condition.
-/
namespace Go.Proofs.YtoaklmceejeblaaGreat
set_option maxRecDepth 8000
open Go.RowKit
set_option linter.unusedVariables false
set_option linter.unusedSimpArgs false
theorem grow1 {w : World} (o : Obj) : Grows w (w.alloc o) := (Below.refl _ _).alloc (Nat.le_refl _) o
def validV (k n : Int) (t : ByteArray) : Bool :=
  if k = 0 then (n == 0) && t.toList.isEmpty
  else if k = 1 then ((n == 0) || (n == 1)) && t.toList.isEmpty
  else if k = 2 then t.toList.isEmpty
  else if k = 3 then (n == 0) && decide (t.size ≤ 4096)
  else false
def sgnV (a b : Bool) : Int := if a then -1 else if b then 1 else 0
theorem rsign_any (a b : Bool) (w : World) : Calls Tryz.prog 100 #[.bool a, .bool b] w fun e w' => e = .returned (.int .i64 (sgnV a b)) ∧ w = w' := by
  cases a <;> cases b <;>
  · go_enter Tryz.func100, Tryz.ntmps100
    go_wp2
    go_ret
    exact ⟨rfl, rfl⟩
theorem rvvalid_any (k n : Int) (t : ByteArray) (w : World) : Calls Tryz.prog 20 #[.agg #[.int .i64 k, .int .i64 n, .string t]] w fun e w' => e = .returned (.bool (validV k n t)) ∧ Grows w w' := by
  by_cases h0 : k = 0
  · subst h0
    go_enter Tryz.func20, Tryz.ntmps20
    go_wp2_with fail
    all_goals (go_ret; exact ⟨retB (by simp [validV, *]), grow1 _⟩)
  by_cases h1 : k = 1
  · subst h1
    clear h0
    go_enter Tryz.func20, Tryz.ntmps20
    go_wp2_with fail
    all_goals (go_ret; exact ⟨retB (by simp [validV, *]), grow1 _⟩)
  by_cases h2 : k = 2
  · subst h2
    clear h0 h1
    go_enter Tryz.func20, Tryz.ntmps20
    go_wp2_with fail
    all_goals (go_ret; exact ⟨retB (by simp [validV, *]), grow1 _⟩)
  by_cases h3 : k = 3
  · subst h3
    clear h0 h1 h2
    go_enter Tryz.func20, Tryz.ntmps20
    go_wp2_with fail
    all_goals (go_ret; exact ⟨retB (by simp [validV, *]; try omega), grow1 _⟩)
  · go_enter Tryz.func20, Tryz.ntmps20
    go_wp2_with fail
    all_goals (go_ret; exact ⟨retB (by simp [validV, *]), grow1 _⟩)
theorem grow2 {w : World} (o o' : Obj) : Grows w ((w.alloc o).alloc o') := ((Below.refl _ _).alloc (Nat.le_refl _) _).alloc (by simp) _
def gtS (s t : ByteArray) : Bool := !Op.bytesLess s.toList t.toList && !s.toList == t.toList
def cmpV (k n : Int) (t : ByteArray) (k' n' : Int) (t' : ByteArray) : Int :=
  if k = k' then (if k = 3 then sgnV (Op.bytesLess t.toList t'.toList) (gtS t t') else sgnV (decide (n < n')) (decide (n' < n))) else sgnV (decide (k < k')) true
theorem rcompare_any (k n k' n' : Int) (t t' : ByteArray) (w : World) : Calls Tryz.prog 33 #[.agg #[.int .i64 k, .int .i64 n, .string t], .agg #[.int .i64 k', .int .i64 n', .string t']] w fun e w' => e = .returned (.int .i64 (cmpV k n t k' n' t')) ∧ Grows w w' := by
  have HS := hidden (fun a b w => rsign_any a b w)
  by_cases hk : k = k'
  · subst hk
    by_cases h3 : k = 3
    · have HE := hidden (show cmpV k n t k n' t' = sgnV (Op.bytesLess t.toList t'.toList) (gtS t t') by unfold cmpV; rw [if_pos rfl, if_pos h3])
      subst h3
      go_enter Tryz.func33, Tryz.ntmps33
      go_wp2_with fail
      refine (HS.out _ _ _).mono ?_
      rintro e w2 ⟨rfl, rfl⟩
      go_wp2_with fail
      go_ret
      exact ⟨by rw [HE.out]; rfl, grow2 _ _⟩
    · have HE := hidden (show cmpV k n t k n' t' = sgnV (decide (n < n')) (decide (n' < n)) by unfold cmpV; rw [if_pos rfl, if_neg h3])
      go_enter Tryz.func33, Tryz.ntmps33
      go_wp2_with fail
      refine (HS.out _ _ _).mono ?_
      rintro e w2 ⟨rfl, rfl⟩
      go_wp2_with fail
      go_ret
      exact ⟨by rw [HE.out]; rfl, grow2 _ _⟩
  · have HE := hidden (show cmpV k n t k' n' t' = sgnV (decide (k < k')) true by unfold cmpV; rw [if_neg hk])
    go_enter Tryz.func33, Tryz.ntmps33
    go_wp2_with fail
    refine (HS.out _ _ _).mono ?_
    rintro e w2 ⟨rfl, rfl⟩
    go_wp2_with fail
    go_ret
    exact ⟨by rw [HE.out]; rfl, grow2 _ _⟩
def boolV (b : Bool) : Value := .agg #[.int .i64 1, .int .i64 (if b then 1 else 0), .string ⟨#[]⟩]
def intV (n : Int) : Value := .agg #[.int .i64 2, .int .i64 n, .string ⟨#[]⟩]
theorem size_val : (Tryz.prog.info? 35).map (·.size) = some 3 := by kernel_rfl
theorem results_val {fn : Func} {p : Tmp} (h : fn.results = #[.cell p 35]) (tmps : Array Value) (w : World) (g : Nat) (k n t : Value) (hp : tmps.getD p undef = .pointer (some ⟨g, 0, none⟩)) (hg : Row w g 35 [k, n, t]) :
    (results fn tmps).run Tryz.prog w = .ok (.agg #[k, n, t]) w :=
  results_cell_row h tmps w g 35 #[k, n, t] (0, 0) _ hp hg Tryz.underlying35 rfl size_val
theorem valRow (w : World) (k n t : Value) : Row (w.alloc (.cells #[k, n, t] 35)) w.heap.size 35 [k, n, t] := Row.new w 35 #[k, n, t] [k, n, t] rfl
theorem valSet_row {w : World} {g : Nat} {e : TypeId} {xs : List Value} (h : Row w g e xs) (ys : List Value) : Row (w.setRow g ys.toArray) g e ys := by
  unfold Row at h ⊢
  simp [World.setRow, Array.getElem?_modify, h]
theorem valSet_below {B g : Nat} {a w : World} (h : Below B a w) (hg : B ≤ g) (cs : Array Value) : Below B a (w.setRow g cs) :=
  ⟨h.os, h.tape, h.output, by simpa [World.setRow] using h.size, fun k hk => by
    have e : (w.setRow g cs).heap[k]? = w.heap[k]? := by simp only [World.setRow]; rw [Array.getElem?_modify, if_neg (by omega)]
    exact e.trans (h.block k hk)⟩
theorem wpList_store_val {w : World} {ops : Array Oper} {rest : List Oper} {o : Oper} {a : Act} {Q : Exit → Act → World → Prop} (hgd : o.guard = none) (x y : Operand) (ho : o.op = .store 35 x y)
    (g : Nat) (hx : a.eval x = .pointer (some ⟨g, 0, none⟩)) (k n : Int) (t : ByteArray) (hy : a.eval y = .agg #[.int .i64 k, .int .i64 n, .string t]) {z1 z2 z3 : Value} (hg : Row w g 35 [z1, z2, z3])
    (h : wpList Tryz.prog ops Q rest (a.put o.dst undef) (w.setRow g #[.int .i64 k, .int .i64 n, .string t])) : wpList Tryz.prog ops Q (o :: rest) a w :=
  wpList_store_row hgd 35 x y ho g #[.int .i64 k, .int .i64 n, .string t] hx hy 35 #[z1, z2, z3] hg size_val rfl (by simp [Value.oneCell']) h
theorem rboolean_any (b : Bool) (w : World) : Calls Tryz.prog 101 #[.bool b] w fun e w' => e = .returned (boolV b) ∧ Grows w w' := by
  cases b <;>
  · go_enter Tryz.func101, Tryz.ntmps101
    go_wp2_with fail
    exact bodyPost_ret (results_val rfl _ _ _ _ _ _ rfl (valRow w _ _ _)) rfl ⟨rfl, grow1 _⟩
theorem rinteger_any (n : Int) (w : World) : Calls Tryz.prog 161 #[.int .i64 n] w fun e w' => e = .returned (intV n) ∧ Grows w w' := by
  go_enter Tryz.func161, Tryz.ntmps161
  go_wp2_with fail
  exact bodyPost_ret (results_val rfl _ _ _ _ _ _ rfl (valRow w _ _ _)) rfl ⟨rfl, grow1 _⟩
end Go.Proofs.YtoaklmceejeblaaGreat
/-
  Shaken: what the claims of this seat need of this text. No condition.
-/
namespace Go.Proofs.YtoaklmceejeblaaGreat
set_option maxRecDepth 8000
open Go.RowKit
set_option linter.unusedVariables false
set_option linter.unusedSimpArgs false
end Go.Proofs.YtoaklmceejeblaaGreat
