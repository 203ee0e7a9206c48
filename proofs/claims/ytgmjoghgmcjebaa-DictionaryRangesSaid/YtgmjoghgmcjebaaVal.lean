/-
  api.Value as three cells; the reference's Valid, sign, Compare, and their kin. Nothing that was there is changed.
-/
import Derived.Test.YtgmjoghgmcjebaaProg
import Derived.Test.YtgmjoghgmcjebaaM1
import Derived.Laws.Cover1
import Derived.WalkKit
namespace Go.Proofs.Ytgmjoghgmcjebaa
open Go.RowKit
set_option linter.unusedVariables false
set_option linter.unusedSimpArgs false

theorem grow1 {w : World} (o : Obj) : Grows w (w.alloc o) := (Below.refl _ _).alloc (Nat.le_refl _) o
def validV (k n : Int) (t : ByteArray) : Bool :=
  if k = 0 then (n == 0) && t.toList.isEmpty
  else if k = 1 then ((n == 0) || (n == 1)) && t.toList.isEmpty
  else if k = 2 then t.toList.isEmpty
  else if k = 3 then (n == 0) && decide (t.size ≤ 4096)
  else false
def sgnV (a b : Bool) : Int := if a then -1 else if b then 1 else 0
theorem rsign_any (a b : Bool) (w : World) : Calls Try.prog 54 #[.bool a, .bool b] w fun e w' => e = .returned (.int .i64 (sgnV a b)) ∧ w = w' := by
  cases a <;> cases b <;>
  · go_enter Try.func54, Try.ntmps54
    go_wp2
    go_ret
    exact ⟨rfl, rfl⟩
theorem grow2 {w : World} (o o' : Obj) : Grows w ((w.alloc o).alloc o') := ((Below.refl _ _).alloc (Nat.le_refl _) _).alloc (by simp) _
def gtS (s t : ByteArray) : Bool := !Op.bytesLess s.toList t.toList && !s.toList == t.toList
def cmpV (k n : Int) (t : ByteArray) (k' n' : Int) (t' : ByteArray) : Int :=
  if k = k' then (if k = 3 then sgnV (Op.bytesLess t.toList t'.toList) (gtS t t') else sgnV (decide (n < n')) (decide (n' < n))) else sgnV (decide (k < k')) true
theorem rcompare_any (k n k' n' : Int) (t t' : ByteArray) (w : World) : Calls Try.prog 32 #[.agg #[.int .i64 k, .int .i64 n, .string t], .agg #[.int .i64 k', .int .i64 n', .string t']] w fun e w' => e = .returned (.int .i64 (cmpV k n t k' n' t')) ∧ Grows w w' := by
  have HS := hidden (fun a b w => rsign_any a b w)
  by_cases hk : k = k'
  · subst hk
    by_cases h3 : k = 3
    · have HE := hidden (show cmpV k n t k n' t' = sgnV (Op.bytesLess t.toList t'.toList) (gtS t t') by unfold cmpV; rw [if_pos rfl, if_pos h3])
      subst h3
      go_enter Try.func32, Try.ntmps32
      go_wp2_with fail
      refine (HS.out _ _ _).mono ?_
      rintro e w2 ⟨rfl, rfl⟩
      go_wp2_with fail
      go_ret
      exact ⟨by rw [HE.out]; rfl, grow2 _ _⟩
    · have HE := hidden (show cmpV k n t k n' t' = sgnV (decide (n < n')) (decide (n' < n)) by unfold cmpV; rw [if_pos rfl, if_neg h3])
      go_enter Try.func32, Try.ntmps32
      go_wp2_with fail
      refine (HS.out _ _ _).mono ?_
      rintro e w2 ⟨rfl, rfl⟩
      go_wp2_with fail
      go_ret
      exact ⟨by rw [HE.out]; rfl, grow2 _ _⟩
  · have HE := hidden (show cmpV k n t k' n' t' = sgnV (decide (k < k')) true by unfold cmpV; rw [if_neg hk])
    go_enter Try.func32, Try.ntmps32
    go_wp2_with fail
    refine (HS.out _ _ _).mono ?_
    rintro e w2 ⟨rfl, rfl⟩
    go_wp2_with fail
    go_ret
    exact ⟨by rw [HE.out]; rfl, grow2 _ _⟩
/-- a Bool, an Int, NULL -/
def boolV (b : Bool) : Value := .agg #[.int .i64 1, .int .i64 (if b then 1 else 0), .string ⟨#[]⟩]
def intV (n : Int) : Value := .agg #[.int .i64 2, .int .i64 n, .string ⟨#[]⟩]
def nullV : Value := .agg #[.int .i64 0, .int .i64 0, .string ⟨#[]⟩]
theorem size_val : (Try.prog.info? 37).map (·.size) = some 3 := by kernel_rfl
/-- a value lies in a cell of results -/
theorem results_val {fn : Func} {p : Tmp} (h : fn.results = #[.cell p 37]) (tmps : Array Value) (w : World) (g : Nat) (k n t : Value) (hp : tmps.getD p undef = .pointer (some ⟨g, 0, none⟩)) (hg : Row w g 37 [k, n, t]) :
    (results fn tmps).run Try.prog w = .ok (.agg #[k, n, t]) w :=
  results_cell_row h tmps w g 37 #[k, n, t] (0, 0) _ hp hg Try.underlying37 rfl size_val
theorem valRow (w : World) (k n t : Value) : Row (w.alloc (.cells #[k, n, t] 37)) w.heap.size 37 [k, n, t] := Row.new w 37 #[k, n, t] [k, n, t] rfl
theorem valRow2 (w w2 : World) (o : Obj) (k n t : Value) (g : Grows ((w.alloc o).alloc (.cells #[k, n, t] 37)) w2) : Row w2 (w.heap.size + 1) 37 [k, n, t] :=
  (Row.at_ (w.alloc o) 37 #[k, n, t] [k, n, t] rfl (w.heap.size + 1) (by simp)).grow g
theorem valSet_row {w : World} {g : Nat} {e : TypeId} {xs : List Value} (h : Row w g e xs) (ys : List Value) : Row (w.setRow g ys.toArray) g e ys := by
  unfold Row at h ⊢
  simp [World.setRow, Array.getElem?_modify, h]
theorem valSet_below {B g : Nat} {a w : World} (h : Below B a w) (hg : B ≤ g) (cs : Array Value) : Below B a (w.setRow g cs) :=
  ⟨h.os, h.tape, h.output, by simpa [World.setRow] using h.size, fun k hk => by
    have e : (w.setRow g cs).heap[k]? = w.heap[k]? := by simp only [World.setRow]; rw [Array.getElem?_modify, if_neg (by omega)]
    exact e.trans (h.block k hk)⟩
/-- a whole value into a variable -/
theorem wpList_store_val {w : World} {ops : Array Oper} {rest : List Oper} {o : Oper} {a : Act} {Q : Exit → Act → World → Prop} (hgd : o.guard = none) (x y : Operand) (ho : o.op = .store 37 x y)
    (g : Nat) (hx : a.eval x = .pointer (some ⟨g, 0, none⟩)) (k n : Int) (t : ByteArray) (hy : a.eval y = .agg #[.int .i64 k, .int .i64 n, .string t]) {z1 z2 z3 : Value} (hg : Row w g 37 [z1, z2, z3])
    (h : wpList Try.prog ops Q rest (a.put o.dst undef) (w.setRow g #[.int .i64 k, .int .i64 n, .string t])) : wpList Try.prog ops Q (o :: rest) a w :=
  wpList_store_row hgd 37 x y ho g #[.int .i64 k, .int .i64 n, .string t] hx hy 37 #[z1, z2, z3] hg size_val rfl (by simp [Value.oneCell']) h
theorem rboolean_any (b : Bool) (w : World) : Calls Try.prog 30 #[.bool b] w fun e w' => e = .returned (boolV b) ∧ Grows w w' := by
  cases b <;>
  · go_enter Try.func30, Try.ntmps30
    go_wp2_with fail
    exact bodyPost_ret (results_val rfl _ _ _ _ _ _ rfl (valRow w _ _ _)) rfl ⟨rfl, grow1 _⟩
theorem ristrue_any (k n : Int) (t : ByteArray) (w : World) : Calls Try.prog 19 #[.agg #[.int .i64 k, .int .i64 n, .string t]] w fun e w' => e = .returned (.bool (k == 1 && n == 1)) ∧ Grows w w' := by
  go_enter Try.func19, Try.ntmps19
  go_wp2_with fail
  all_goals (go_ret; exact ⟨retB (by simp [*]), grow1 _⟩)
def holdsV (op c : Int) : Bool :=
  if op = 1 then c == 0 else if op = 2 then c != 0 else if op = 3 then decide (c < 0) else if op = 4 then decide (c ≤ 0) else if op = 5 then decide (0 < c) else if op = 6 then decide (0 ≤ c) else false
theorem rholds_any (op c : Int) (w : World) : Calls Try.prog 31 #[.int .i64 op, .int .i64 c] w fun e w' => e = .returned (.bool (holdsV op c)) ∧ w = w' := by
  by_cases h1 : op = 1
  · subst h1
    go_enter Try.func31, Try.ntmps31
    go_wp2_with fail
    all_goals (go_ret; exact ⟨retB (by simp [holdsV]), rfl⟩)
  by_cases h2 : op = 2
  · subst h2
    clear h1
    go_enter Try.func31, Try.ntmps31
    go_wp2_with fail
    all_goals (go_ret; exact ⟨retB (by simp [holdsV]), rfl⟩)
  by_cases h3 : op = 3
  · subst h3
    clear h1 h2
    go_enter Try.func31, Try.ntmps31
    go_wp2_with fail
    all_goals (go_ret; exact ⟨retB (by simp [holdsV]), rfl⟩)
  by_cases h4 : op = 4
  · subst h4
    clear h1 h2 h3
    go_enter Try.func31, Try.ntmps31
    go_wp2_with fail
    all_goals (go_ret; exact ⟨retB (by simp [holdsV]), rfl⟩)
  by_cases h5 : op = 5
  · subst h5
    clear h1 h2 h3 h4
    go_enter Try.func31, Try.ntmps31
    go_wp2_with fail
    all_goals (go_ret; exact ⟨retB (by simp [holdsV]), rfl⟩)
  by_cases h6 : op = 6
  · subst h6
    clear h1 h2 h3 h4 h5
    go_enter Try.func31, Try.ntmps31
    go_wp2_with fail
    all_goals (go_ret; exact ⟨retB (by simp [holdsV]), rfl⟩)
  · have HE := hidden (show holdsV op c = false by unfold holdsV; rw [if_neg h1, if_neg h2, if_neg h3, if_neg h4, if_neg h5, if_neg h6])
    go_enter Try.func31, Try.ntmps31
    go_wp2_with fail
    all_goals (go_ret; exact ⟨retB (by rw [HE.out]), rfl⟩)
def notV (k n : Int) : Value := if k = 1 then boolV (n == 0) else nullV
end Go.Proofs.Ytgmjoghgmcjebaa
