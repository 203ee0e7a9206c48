/-
  Texts that the claims of this seat share, put together (Val, Val2). No condition.
-/
import Derived.Test.YthmipnokimlbdaaGreatProg
import Derived.Test.YthmipnokimlbdaaGreatM1
import Derived.Laws.Cover1
import Derived.WalkKit
/-
  Shaken: what the claims of this seat need of this text. No condition.
-/
namespace Go.Proofs.YthmipnokimlbdaaGreat
set_option maxRecDepth 8000
open Go.RowKit
set_option linter.unusedVariables false
set_option linter.unusedSimpArgs false
theorem grow1 {w : World} (o : Obj) : Grows w (w.alloc o) := (Below.refl _ _).alloc (Nat.le_refl _) o
def sgnV (a b : Bool) : Int := if a then -1 else if b then 1 else 0
theorem grow2 {w : World} (o o' : Obj) : Grows w ((w.alloc o).alloc o') := ((Below.refl _ _).alloc (Nat.le_refl _) _).alloc (by simp) _
def gtS (s t : ByteArray) : Bool := !Op.bytesLess s.toList t.toList && !s.toList == t.toList
def boolV (b : Bool) : Value := .agg #[.int .i64 1, .int .i64 (if b then 1 else 0), .string ⟨#[]⟩]
def nullV : Value := .agg #[.int .i64 0, .int .i64 0, .string ⟨#[]⟩]
theorem size_val : (Tryz.prog.info? 48).map (·.size) = some 3 := by kernel_rfl
theorem results_val {fn : Func} {p : Tmp} (h : fn.results = #[.cell p 48]) (tmps : Array Value) (w : World) (g : Nat) (k n t : Value) (hp : tmps.getD p undef = .pointer (some ⟨g, 0, none⟩)) (hg : Row w g 48 [k, n, t]) :
    (results fn tmps).run Tryz.prog w = .ok (.agg #[k, n, t]) w :=
  results_cell_row h tmps w g 48 #[k, n, t] (0, 0) _ hp hg Tryz.underlying48 rfl size_val
theorem valRow (w : World) (k n t : Value) : Row (w.alloc (.cells #[k, n, t] 48)) w.heap.size 48 [k, n, t] := Row.new w 48 #[k, n, t] [k, n, t] rfl
theorem valSet_row {w : World} {g : Nat} {e : TypeId} {xs : List Value} (h : Row w g e xs) (ys : List Value) : Row (w.setRow g ys.toArray) g e ys := by
  unfold Row at h ⊢
  simp [World.setRow, Array.getElem?_modify, h]
theorem valSet_below {B g : Nat} {a w : World} (h : Below B a w) (hg : B ≤ g) (cs : Array Value) : Below B a (w.setRow g cs) :=
  ⟨h.os, h.tape, h.output, by simpa [World.setRow] using h.size, fun k hk => by
    have e : (w.setRow g cs).heap[k]? = w.heap[k]? := by simp only [World.setRow]; rw [Array.getElem?_modify, if_neg (by omega)]
    exact e.trans (h.block k hk)⟩
theorem wpList_store_val {w : World} {ops : Array Oper} {rest : List Oper} {o : Oper} {a : Act} {Q : Exit → Act → World → Prop} (hgd : o.guard = none) (x y : Operand) (ho : o.op = .store 48 x y)
    (g : Nat) (hx : a.eval x = .pointer (some ⟨g, 0, none⟩)) (k n : Int) (t : ByteArray) (hy : a.eval y = .agg #[.int .i64 k, .int .i64 n, .string t]) {z1 z2 z3 : Value} (hg : Row w g 48 [z1, z2, z3])
    (h : wpList Tryz.prog ops Q rest (a.put o.dst undef) (w.setRow g #[.int .i64 k, .int .i64 n, .string t])) : wpList Tryz.prog ops Q (o :: rest) a w :=
  wpList_store_row hgd 48 x y ho g #[.int .i64 k, .int .i64 n, .string t] hx hy 48 #[z1, z2, z3] hg size_val rfl (by simp [Value.oneCell']) h
def holdsV (op c : Int) : Bool :=
  if op = 1 then c == 0 else if op = 2 then c != 0 else if op = 3 then decide (c < 0) else if op = 4 then decide (c ≤ 0) else if op = 5 then decide (0 < c) else if op = 6 then decide (0 ≤ c) else false
end Go.Proofs.YthmipnokimlbdaaGreat
/-
  Shaken: what the claims of this seat need of this text. No condition.
-/
namespace Go.Proofs.YthmipnokimlbdaaGreat
set_option maxRecDepth 8000
open Go.RowKit
set_option linter.unusedVariables false
set_option linter.unusedSimpArgs false
theorem grow3 {w : World} (o o' o2 : Obj) : Grows w (((w.alloc o).alloc o').alloc o2) := (((Below.refl _ _).alloc (Nat.le_refl _) _).alloc (by simp) _).alloc (by simp; omega) _
theorem valRow3 (w w2 : World) (o o' : Obj) (k n t : Value) (g : Grows (((w.alloc o).alloc o').alloc (.cells #[k, n, t] 48)) w2) : Row w2 (w.heap.size + 2) 48 [k, n, t] :=
  (Row.at_ ((w.alloc o).alloc o') 48 #[k, n, t] [k, n, t] rfl (w.heap.size + 2) (by simp)).grow g
end Go.Proofs.YthmipnokimlbdaaGreat
