/-
  Texts that the claims of this seat share, put together (Vc2, Vc3, Vc4, Vc5, Vc6, Vc7, Vc8, Vc9, VcA, VcB, VcC, VcD, VcE, VcF, VcG, VcH, VcI, VcN, VcM, VcK, Vd0, Vd1, Vd2). No condition.
-/
import Derived.Test.YtfjhahhkakfhmaaM6
import Derived.Test.YtfjhahhkakfhmaaVc1
import Derived.Test.YtfjhahhkakfhmaaZr4
import Derived.Test.YtfjhahhkakfhmaaM4
/-
  Shaken: what the claims of this seat need of this text. No condition.
-/
namespace Go.Proofs.Ytfjhahhkakfhmaa
set_option maxRecDepth 8000
open Go.RowKit
set_option linter.unusedVariables false
set_option linter.unusedSimpArgs false
theorem rIsType_any (T : Int) (w : World) : Calls Try.prog 48 #[.int .i64 T] w fun e w' => e = .returned (.bool (decide (0 ≤ T) && decide (T ≤ 3))) ∧ w' = w := by
  by_cases h0 : 0 ≤ T
  · have d0 : decide (T < 0) = false := by simpa using h0
    go_enter Try.func48, Try.ntmps48
    go_wp2_with fail
    go_ret
    refine ⟨?_, rfl⟩
    simp [h0]
  · go_enter Try.func48, Try.ntmps48
    go_wp2_with fail
    go_ret
    refine ⟨?_, rfl⟩
    simp [h0]
    omega
def fitsB (y : Val) (T : Int) : Bool := decide (y.k = 0) || decide (y.k = T)
theorem grow17 {w w0 : World} (h : Grows w w0) (o : Obj) : Grows w (w0.alloc o) := h.alloc h.size o
theorem rfits_any (y : Val) (T : Int) (w : World) : Calls Try.prog 49 #[vV y, .int .i64 T] w fun e w' => e = .returned (.bool (fitsB y T)) ∧ Grows w w' := by
  obtain ⟨k, n, t⟩ := y
  have HG := hidden (grow17 (Below.refl _ w) (.cells #[.int .i64 k, .int .i64 n, .string t] 37))
  unfold fitsB vV
  dsimp only
  by_cases h0 : k = 0
  · have d0 : (k == 0) = true := by simpa using h0
    subst h0
    go_enter Try.func49, Try.ntmps49
    go_wp2_with fail
    go_ret
    exact ⟨by simp, HG.out⟩
  · have d0 : (k == 0) = false := by simpa using h0
    go_enter Try.func49, Try.ntmps49
    go_wp2_with fail
    go_ret
    refine ⟨?_, HG.out⟩
    by_cases h1 : k = T
    · simp [h0, h1]
    · simp [h0, h1]
def putV (v : Vec) (y : Val) : Vec := ⟨v.T, if v.T = 1 ∨ v.T = 2 then v.is ++ [y.n] else v.is, if v.T = 3 then v.ts ++ [y.t.data.toList] else v.ts, v.ns ++ [decide (y.k = 0)]⟩
structure PutSt (w : World) (base : Nat) (x0 : Value) (T : Int) (y : List Value) (v : Vec) (a b c : Value) (X : World) : Prop where
  base_ : base ≤ w.heap.size
  row2 : Row X w.heap.size 29 [.int .i64 T, a, b, c]
  row3 : Row X (w.heap.size + 1) 37 y
  row4 : Row X (w.heap.size + 2) 29 [.int .i64 0, .slice none 0 0, .slice none 0 0, .slice none 0 0]
  o1 : X.ownsRow base 2 1 a v.is.length (icells v.is)
  o2 : X.ownsRow base 9 1 b v.ts.length (scells v.ts)
  o3 : X.ownsRow base 4 1 c v.ns.length (tcells v.ns)
  only : Only (blocksV x0) w X
  b1 : ∀ i, a.ownBlock = some i → blocksV x0 i ∧ i < w.heap.size ∨ w.heap.size + 3 ≤ i
  b2 : ∀ i, b.ownBlock = some i → blocksV x0 i ∧ i < w.heap.size ∨ w.heap.size + 3 ≤ i
  b3 : ∀ i, c.ownBlock = some i → blocksV x0 i ∧ i < w.heap.size ∨ w.heap.size + 3 ≤ i
theorem PutSt.size {w : World} {base : Nat} {x0 : Value} {T : Int} {y : List Value} {v : Vec} {a b c : Value} {X : World} (h : PutSt w base x0 T y v a b c X) : w.heap.size + 3 ≤ X.heap.size := by
  have := (Array.getElem?_eq_some_iff.1 h.row4).1
  omega
theorem PutSt.stepT {w : World} {base : Nat} {x0 : Value} {T : Int} {y : List Value} {v : Vec} {a b c : Value} {X : World} (h : PutSt w base x0 T y v a b c X) {c' : Value} {Y Z : World} {u : Bool}
    (hown : Y.ownsRow base 4 1 c' (v.ns.length + 1) (tcells v.ns ++ [.bool u])) (ho : Only (fun k => c.ownBlock = some k) X Y) (hk : ∀ k, c'.ownBlock = some k → c.ownBlock = some k ∨ X.heap.size ≤ k)
    (hz : Only (fun i => i = w.heap.size) Y Z) (hr : Row Z w.heap.size 29 [.int .i64 T, a, b, c']) : PutSt w base x0 T y ⟨v.T, v.is, v.ts, v.ns ++ [u]⟩ a b c' Z := by
  have hs := h.size
  have n3 : ∀ j, j < 3 → ¬ c.ownBlock = some (w.heap.size + j) := fun j hj e => by rcases h.b3 _ e with ⟨_, h1⟩ | h1 <;> omega
  have k3 : ∀ i, c'.ownBlock = some i → blocksV x0 i ∧ i < w.heap.size ∨ w.heap.size + 3 ≤ i := fun i hi => by
    rcases hk i hi with h1 | h1
    · exact h.b3 i h1
    · exact .inr (by omega)
  refine ⟨h.base_, hr, hz.row (ho.row h.row3 (n3 1 (by omega))) (by omega), hz.row (ho.row h.row4 (n3 2 (by omega))) (by omega), ?_, ?_, ?_, ?_, h.b1, h.b2, k3⟩
  · exact ownsRow_only (ownsRow_only h.o1 ho (ownsRow_apart h.o1 h.o3 (by decide))) hz (fun k hk' e => by rcases h.b1 k hk' with ⟨_, h1⟩ | h1 <;> omega)
  · exact ownsRow_only (ownsRow_only h.o2 ho (ownsRow_apart h.o2 h.o3 (by decide))) hz (fun k hk' e => by rcases h.b2 k hk' with ⟨_, h1⟩ | h1 <;> omega)
  · rw [← tcells_snoc, show v.ns.length + 1 = (v.ns ++ [u]).length by simp] at hown
    exact ownsRow_only hown hz (fun k hk' e => by rcases k3 k hk' with ⟨_, h1⟩ | h1 <;> omega)
  · exact (h.only.trans ho (fun i hi => by rcases h.b3 i hi with ⟨h1, _⟩ | h1; exact .inl h1; exact .inr (by omega))).trans hz (fun i hi => .inr (by omega))
theorem PutSt.stepI {w : World} {base : Nat} {x0 : Value} {T : Int} {y : List Value} {v : Vec} {a b c : Value} {X : World} (h : PutSt w base x0 T y v a b c X) {a' : Value} {Y Z : World} {u : Int}
    (hown : Y.ownsRow base 2 1 a' (v.is.length + 1) (icells v.is ++ [.int .i64 u])) (ho : Only (fun k => a.ownBlock = some k) X Y) (hk : ∀ k, a'.ownBlock = some k → a.ownBlock = some k ∨ X.heap.size ≤ k)
    (hz : Only (fun i => i = w.heap.size) Y Z) (hr : Row Z w.heap.size 29 [.int .i64 T, a', b, c]) : PutSt w base x0 T y ⟨v.T, v.is ++ [u], v.ts, v.ns⟩ a' b c Z := by
  have hs := h.size
  have n3 : ∀ j, j < 3 → ¬ a.ownBlock = some (w.heap.size + j) := fun j hj e => by rcases h.b1 _ e with ⟨_, h1⟩ | h1 <;> omega
  have k3 : ∀ i, a'.ownBlock = some i → blocksV x0 i ∧ i < w.heap.size ∨ w.heap.size + 3 ≤ i := fun i hi => by
    rcases hk i hi with h1 | h1
    · exact h.b1 i h1
    · exact .inr (by omega)
  refine ⟨h.base_, hr, hz.row (ho.row h.row3 (n3 1 (by omega))) (by omega), hz.row (ho.row h.row4 (n3 2 (by omega))) (by omega), ?_, ?_, ?_, ?_, k3, h.b2, h.b3⟩
  · rw [← icells_snoc, show v.is.length + 1 = (v.is ++ [u]).length by simp] at hown
    exact ownsRow_only hown hz (fun k hk' e => by rcases k3 k hk' with ⟨_, h1⟩ | h1 <;> omega)
  · exact ownsRow_only (ownsRow_only h.o2 ho (ownsRow_apart h.o2 h.o1 (by decide))) hz (fun k hk' e => by rcases h.b2 k hk' with ⟨_, h1⟩ | h1 <;> omega)
  · exact ownsRow_only (ownsRow_only h.o3 ho (ownsRow_apart h.o3 h.o1 (by decide))) hz (fun k hk' e => by rcases h.b3 k hk' with ⟨_, h1⟩ | h1 <;> omega)
  · exact (h.only.trans ho (fun i hi => by rcases h.b1 i hi with ⟨h1, _⟩ | h1; exact .inl h1; exact .inr (by omega))).trans hz (fun i hi => .inr (by omega))
theorem PutSt.stepS {w : World} {base : Nat} {x0 : Value} {T : Int} {y : List Value} {v : Vec} {a b c : Value} {X : World} (h : PutSt w base x0 T y v a b c X) {b' : Value} {Y Z : World} {u : Str}
    (hown : Y.ownsRow base 9 1 b' (v.ts.length + 1) (scells v.ts ++ [.string (strOf u)])) (ho : Only (fun k => b.ownBlock = some k) X Y) (hk : ∀ k, b'.ownBlock = some k → b.ownBlock = some k ∨ X.heap.size ≤ k)
    (hz : Only (fun i => i = w.heap.size) Y Z) (hr : Row Z w.heap.size 29 [.int .i64 T, a, b', c]) : PutSt w base x0 T y ⟨v.T, v.is, v.ts ++ [u], v.ns⟩ a b' c Z := by
  have hs := h.size
  have n3 : ∀ j, j < 3 → ¬ b.ownBlock = some (w.heap.size + j) := fun j hj e => by rcases h.b2 _ e with ⟨_, h1⟩ | h1 <;> omega
  have k3 : ∀ i, b'.ownBlock = some i → blocksV x0 i ∧ i < w.heap.size ∨ w.heap.size + 3 ≤ i := fun i hi => by
    rcases hk i hi with h1 | h1
    · exact h.b2 i h1
    · exact .inr (by omega)
  refine ⟨h.base_, hr, hz.row (ho.row h.row3 (n3 1 (by omega))) (by omega), hz.row (ho.row h.row4 (n3 2 (by omega))) (by omega), ?_, ?_, ?_, ?_, h.b1, k3, h.b3⟩
  · exact ownsRow_only (ownsRow_only h.o1 ho (ownsRow_apart h.o1 h.o2 (by decide))) hz (fun k hk' e => by rcases h.b1 k hk' with ⟨_, h1⟩ | h1 <;> omega)
  · rw [← scells_snoc, show v.ts.length + 1 = (v.ts ++ [u]).length by simp] at hown
    exact ownsRow_only hown hz (fun k hk' e => by rcases k3 k hk' with ⟨_, h1⟩ | h1 <;> omega)
  · exact ownsRow_only (ownsRow_only h.o3 ho (ownsRow_apart h.o3 h.o2 (by decide))) hz (fun k hk' e => by rcases h.b3 k hk' with ⟨_, h1⟩ | h1 <;> omega)
  · exact (h.only.trans ho (fun i hi => by rcases h.b2 i hi with ⟨h1, _⟩ | h1; exact .inl h1; exact .inr (by omega))).trans hz (fun i hi => .inr (by omega))
theorem PutSt.row2Y {w : World} {base : Nat} {x0 : Value} {T : Int} {y : List Value} {v : Vec} {a b c : Value} {X Y : World} (h : PutSt w base x0 T y v a b c X) {z : Value} (ho : Only (fun k => z.ownBlock = some k) X Y) (hz : z = a ∨ z = b ∨ z = c) : Row Y w.heap.size 29 [.int .i64 T, a, b, c] := by
  refine ho.row h.row2 (fun e => ?_)
  rcases hz with rfl | rfl | rfl
  · rcases h.b1 _ e with ⟨_, h1⟩ | h1 <;> omega
  · rcases h.b2 _ e with ⟨_, h1⟩ | h1 <;> omega
  · rcases h.b3 _ e with ⟨_, h1⟩ | h1 <;> omega
def PutR (base : Nat) (x : Value) (v : Vec) (w : World) (e : Ending) (w' : World) : Prop := ∃ x', e = .returned x' ∧ OwnV base w' x' v ∧ Only (blocksV x) w w' ∧ ∀ k, blocksV x' k → blocksV x k ∨ w.heap.size ≤ k
theorem sizeVec : (Try.prog.info? 29).map (·.size) = some 4 := by kernel_rfl
theorem results_vec {fn : Func} {p : Tmp} (h : fn.results = #[.cell p 29]) (tmps : Array Value) (w : World) (g : Nat) (a b c d : Value) (hp : tmps.getD p undef = .pointer (some ⟨g, 0, none⟩)) (hg : Row w g 29 [a, b, c, d]) :
    (results fn tmps).run Try.prog w = .ok (.agg #[a, b, c, d]) w := results_cell_row h _ _ _ _ _ _ _ hp hg Try.underlying29 rfl sizeVec
theorem wpList_load_vec {wr : World} {ops : Array Oper} {rest : List Oper} {o : Oper} {a : Act} {Q : Exit → Act → World → Prop} (hgd : o.guard = none) (x : Operand) (ho : o.op = .load 29 x)
    (g : Nat) (hx : a.eval x = .pointer (some ⟨g, 0, none⟩)) (p q r s : Value) (hg : Row wr g 29 [p, q, r, s])
    (h : wpList Try.prog ops Q rest (a.put o.dst (.agg #[p, q, r, s])) wr) : wpList Try.prog ops Q (o :: rest) a wr :=
  wpList_load_row hgd _ x ho g hx _ _ _ _ hg Try.underlying29 rfl sizeVec h
theorem wpList_store_vc {wr : World} {ops : Array Oper} {rest : List Oper} {o : Oper} {a : Act} {Q : Exit → Act → World → Prop} (hgd : o.guard = none) (x y : Operand) (ho : o.op = .store 29 x y)
    (g : Nat) (hx : a.eval x = .pointer (some ⟨g, 0, none⟩)) (p q r s : Value) (hy : a.eval y = .agg #[p, q, r, s]) (h1 : (#[p, q, r, s] : Array Value).all (·.oneCell') = true) {p0 q0 r0 s0 : Value} (hg : Row wr g 29 [p0, q0, r0, s0])
    (h : ∀ W, Row W g 29 [p, q, r, s] → Only (fun i => i = g) wr W → wpList Try.prog ops Q rest (a.put o.dst undef) W) : wpList Try.prog ops Q (o :: rest) a wr :=
  wpList_store_row hgd _ x y ho g #[p, q, r, s] hx hy _ _ hg sizeVec rfl h1 (h _ (valSet_row hg [p, q, r, s]) (Only.turned (Turned.row_ wr g _) (fun k hk => by simp only [World.setRow]; rw [Array.getElem?_modify, if_neg (Ne.symm hk)]) rfl rfl rfl))
theorem ownsRow_one {w : World} {base : Nat} {e : TypeId} {size : Nat} {v : Value} {n : Nat} {xs : List Value} (h : w.ownsRow base e size v n xs) : v.oneCell' = true := by
  rcases h.2 with ⟨rfl, _⟩ | ⟨g, cap, cur, rfl, _⟩ <;> rfl
theorem all4 {p q r s : Value} (h1 : p.oneCell' = true) (h2 : q.oneCell' = true) (h3 : r.oneCell' = true) (h4 : s.oneCell' = true) : (#[p, q, r, s] : Array Value).all (·.oneCell') = true := by simp [h1, h2, h3, h4]
end Go.Proofs.Ytfjhahhkakfhmaa
/-
  Shaken: what the claims of this seat need of this text. No condition.
-/
namespace Go.Proofs.Ytfjhahhkakfhmaa
set_option maxRecDepth 8000
open Go.RowKit
set_option linter.unusedVariables false
set_option linter.unusedSimpArgs false
theorem PutSt.start {w : World} {base : Nat} {T : Int} {y : List Value} {v : Vec} {a b c : Value} (hb : base ≤ w.heap.size) (hv : v.T = T)
    (h1 : w.ownsRow base 2 1 a v.is.length (icells v.is)) (h2 : w.ownsRow base 9 1 b v.ts.length (scells v.ts)) (h3 : w.ownsRow base 4 1 c v.ns.length (tcells v.ns)) :
    PutSt w base (.agg #[.int .i64 T, a, b, c]) T y v a b c (((w.alloc (.cells #[.int .i64 T, a, b, c] 29)).alloc (.cells y.toArray 37)).alloc (.cells #[.int .i64 0, .slice none 0 0, .slice none 0 0, .slice none 0 0] 29)) := by
  have g : Grows w (((w.alloc (.cells #[.int .i64 T, a, b, c] 29)).alloc (.cells y.toArray 37)).alloc (.cells #[.int .i64 0, .slice none 0 0, .slice none 0 0, .slice none 0 0] 29)) := grow17 (grow17 (grow17 (Below.refl _ w) _) _) _
  refine ⟨hb, ?_, ?_, ?_, ownsRow_grow h1 g, ownsRow_grow h2 g, ownsRow_grow h3 g, Only.of_grows g _, fun i hi => .inl ⟨.inl hi, (h1.lt i hi).2⟩, fun i hi => .inl ⟨.inr (.inl hi), (h2.lt i hi).2⟩, fun i hi => .inl ⟨.inr (.inr hi), (h3.lt i hi).2⟩⟩
  · exact ((Row.new w 29 _ [.int .i64 T, a, b, c] rfl).grow (grow1 _)).grow (grow1 _)
  · exact (Row.at_ (w.alloc _) 37 _ y rfl (w.heap.size + 1) (by simp)).grow (grow1 _)
  · exact Row.at_ _ 29 _ _ rfl (w.heap.size + 2) (by simp)
def FitLen (v : Vec) : Prop := v.is.length ≤ 1000000000 ∧ v.ts.length ≤ 1000000000 ∧ v.ns.length ≤ 1000000000
theorem strOf_toList (t : ByteArray) : strOf t.data.toList = t := by simp [strOf]
theorem PutSt.done {w : World} {base : Nat} {x0 : Value} {T : Int} {y : List Value} {v : Vec} {a b c : Value} {X Z : World} (h : PutSt w base x0 T y v a b c X) (hz : Only (fun i => i = w.heap.size + 2) X Z) (hT : v.T = T := by rfl) :
    ∃ x', Ending.returned (.agg #[.int .i64 T, a, b, c]) = .returned x' ∧ OwnV base Z x' v ∧ Only (blocksV x0) w Z ∧ ∀ k, blocksV x' k → blocksV x0 k ∨ w.heap.size ≤ k := by
  have hs := h.size
  have nb : ∀ k, blocksV (.agg #[.int .i64 T, a, b, c]) k → blocksV x0 k ∧ k < w.heap.size ∨ w.heap.size + 3 ≤ k := fun k hk => by
    rcases hk with hk | hk | hk
    · exact h.b1 k hk
    · exact h.b2 k hk
    · exact h.b3 k hk
  have ho : OwnV base X (.agg #[.int .i64 T, a, b, c]) v := ⟨a, b, c, by rw [hT], h.o1, h.o2, h.o3⟩
  refine ⟨_, rfl, ho.only hz (fun k hk e => by rcases nb k hk with ⟨_, h1⟩ | h1 <;> omega), h.only.trans hz (fun i hi => .inr (by omega)), fun k hk => ?_⟩
  rcases nb k hk with ⟨h1, _⟩ | h1
  · exact .inl h1
  · exact .inr (by omega)
set_option maxHeartbeats 4000000 in
theorem rput_any (base : Nat) (x : Value) (v : Vec) (y : Val) (w : World) (hx : OwnV base w x v) (hbase : base ≤ w.heap.size) (hl : FitLen v) :
    Calls Try.prog 50 #[x, vV y] w (PutR base x (putV v y) w) := by
  obtain ⟨T, is, ts, ns⟩ := v
  obtain ⟨a, b, c, rfl, h1, h2, h3⟩ := hx
  obtain ⟨k, n, t⟩ := y
  obtain ⟨l1, l2, l3⟩ := hl
  dsimp only at h1 h2 h3 l1 l2 l3
  have HS := hidden (PutSt.start (y := [.int .i64 k, .int .i64 n, .string t]) (v := ⟨T, is, ts, ns⟩) hbase rfl h1 h2 h3)
  have HL := hidden (And.intro l1 (And.intro l2 l3))
  obtain ⟨u, hu⟩ : ∃ u, u = decide (k = 0) := ⟨_, rfl⟩
  have eu : (k == 0) = u := by rw [hu]; rfl
  have HP := hidden (show putV ⟨T, is, ts, ns⟩ ⟨k, n, t⟩ = ⟨T, if T = 1 ∨ T = 2 then is ++ [n] else is, if T = 3 then ts ++ [t.data.toList] else ts, ns ++ [u]⟩ by rw [hu]; rfl)
  have HB := hidden hbase
  clear hu h1 h2 h3 l1 l2 l3 hbase
  by_cases hT1 : T = 1
  · subst hT1
    rw [HP.out, if_pos (Or.inl rfl), if_neg (by decide)]
    go_enter Try.func50, Try.ntmps50
    go_wp2_with (first
      | (at_builtin; go_loud (refine wpList_append_c rfl _ _ 27 rfl 4 (.bool false) 1 Try.underlying27 infoT14 rfl c (tcells ns) (by rfl) base _ HS.out.o3 (by have := HS.out.size; have := HB.out; omega) (.bool u) rfl _ (by rfl) (by simp) (by have := HL.out; dsimp only; omega) (by have := HL.out; dsimp only; omega) ?_); intro c' W1 hown hon hbk; have HOWW1 := hidden hown; have HONW1 := hidden hon; have HBKW1 := hidden hbk; clear hown hon hbk) | (refine wpList_store_c rfl 27 _ _ rfl rfl w.heap.size 3 rfl _ rfl (ownsRow_one HOWW1.out) 29 _ (HS.out.row2Y HONW1.out (.inr (.inr rfl))) (by simp) ?_; intro W2 hr2 hz2; have HS2 := hidden (HS.out.stepT HOWW1.out HONW1.out HBKW1.out hz2 hr2); clear hr2 hz2; have c20 := HS2.out.row2.cell 0; have c21 := HS2.out.row2.cell 1; have c22 := HS2.out.row2.cell 2; have c30 := HS2.out.row3.cell 0; have c31 := HS2.out.row3.cell 1; have c32 := HS2.out.row3.cell 2; simp only [List.getElem?_cons_zero, List.getElem?_cons_succ] at c20 c21 c22 c30 c31 c32) | (at_builtin; go_loud (refine wpList_append_c rfl _ _ 25 rfl 2 (.int .i64 0) 8 Try.underlying25 infoI14 rfl a (icells is) (by rfl) base _ HS2.out.o1 (by have := HS2.out.size; have := HB.out; omega) (.int .i64 n) rfl _ (by rfl) (by simp) (by have := HL.out; dsimp only; omega) (by have := HL.out; dsimp only; omega) ?_); intro a' W3 hown hon hbk; have HOWW3 := hidden hown; have HONW3 := hidden hon; have HBKW3 := hidden hbk; clear hown hon hbk) | (refine wpList_store_c rfl 25 _ _ rfl rfl w.heap.size 1 rfl _ rfl (ownsRow_one HOWW3.out) 29 _ (HS2.out.row2Y HONW3.out (.inl rfl)) (by simp) ?_; intro W4 hr2 hz2; have HS3 := hidden (HS2.out.stepI HOWW3.out HONW3.out HBKW3.out hz2 hr2); clear hr2 hz2; have c20 := HS3.out.row2.cell 0; have c21 := HS3.out.row2.cell 1; have c22 := HS3.out.row2.cell 2; have c30 := HS3.out.row3.cell 0; have c31 := HS3.out.row3.cell 1; have c32 := HS3.out.row3.cell 2; simp only [List.getElem?_cons_zero, List.getElem?_cons_succ] at c20 c21 c22 c30 c31 c32) | (refine wpList_load_vec rfl _ rfl w.heap.size rfl _ _ _ _ HS3.out.row2 ?_) | (refine wpList_store_vc rfl _ _ rfl (w.heap.size + 2) rfl _ _ _ _ rfl (all4 rfl (ownsRow_one HS3.out.o1) (ownsRow_one HS3.out.o2) (ownsRow_one HS3.out.o3)) HS3.out.row4 ?_; intro W9 hr9 hz9; have HR9 := hidden hr9; have HZ9 := hidden hz9; clear hr9 hz9))
    exact bodyPost_ret (results_vec rfl _ _ _ _ _ _ _ rfl HR9.out) rfl (HS3.out.done HZ9.out)
  · by_cases hT2 : T = 2
    · subst hT2
      rw [HP.out, if_pos (Or.inr rfl), if_neg (by decide)]
      go_enter Try.func50, Try.ntmps50
      go_wp2_with (first
        | (at_builtin; go_loud (refine wpList_append_c rfl _ _ 27 rfl 4 (.bool false) 1 Try.underlying27 infoT14 rfl c (tcells ns) (by rfl) base _ HS.out.o3 (by have := HS.out.size; have := HB.out; omega) (.bool u) rfl _ (by rfl) (by simp) (by have := HL.out; dsimp only; omega) (by have := HL.out; dsimp only; omega) ?_); intro c' W1 hown hon hbk; have HOWW1 := hidden hown; have HONW1 := hidden hon; have HBKW1 := hidden hbk; clear hown hon hbk) | (refine wpList_store_c rfl 27 _ _ rfl rfl w.heap.size 3 rfl _ rfl (ownsRow_one HOWW1.out) 29 _ (HS.out.row2Y HONW1.out (.inr (.inr rfl))) (by simp) ?_; intro W2 hr2 hz2; have HS2 := hidden (HS.out.stepT HOWW1.out HONW1.out HBKW1.out hz2 hr2); clear hr2 hz2; have c20 := HS2.out.row2.cell 0; have c21 := HS2.out.row2.cell 1; have c22 := HS2.out.row2.cell 2; have c30 := HS2.out.row3.cell 0; have c31 := HS2.out.row3.cell 1; have c32 := HS2.out.row3.cell 2; simp only [List.getElem?_cons_zero, List.getElem?_cons_succ] at c20 c21 c22 c30 c31 c32) | (at_builtin; go_loud (refine wpList_append_c rfl _ _ 25 rfl 2 (.int .i64 0) 8 Try.underlying25 infoI14 rfl a (icells is) (by rfl) base _ HS2.out.o1 (by have := HS2.out.size; have := HB.out; omega) (.int .i64 n) rfl _ (by rfl) (by simp) (by have := HL.out; dsimp only; omega) (by have := HL.out; dsimp only; omega) ?_); intro a' W3 hown hon hbk; have HOWW3 := hidden hown; have HONW3 := hidden hon; have HBKW3 := hidden hbk; clear hown hon hbk) | (refine wpList_store_c rfl 25 _ _ rfl rfl w.heap.size 1 rfl _ rfl (ownsRow_one HOWW3.out) 29 _ (HS2.out.row2Y HONW3.out (.inl rfl)) (by simp) ?_; intro W4 hr2 hz2; have HS3 := hidden (HS2.out.stepI HOWW3.out HONW3.out HBKW3.out hz2 hr2); clear hr2 hz2; have c20 := HS3.out.row2.cell 0; have c21 := HS3.out.row2.cell 1; have c22 := HS3.out.row2.cell 2; have c30 := HS3.out.row3.cell 0; have c31 := HS3.out.row3.cell 1; have c32 := HS3.out.row3.cell 2; simp only [List.getElem?_cons_zero, List.getElem?_cons_succ] at c20 c21 c22 c30 c31 c32) | (refine wpList_load_vec rfl _ rfl w.heap.size rfl _ _ _ _ HS3.out.row2 ?_) | (refine wpList_store_vc rfl _ _ rfl (w.heap.size + 2) rfl _ _ _ _ rfl (all4 rfl (ownsRow_one HS3.out.o1) (ownsRow_one HS3.out.o2) (ownsRow_one HS3.out.o3)) HS3.out.row4 ?_; intro W9 hr9 hz9; have HR9 := hidden hr9; have HZ9 := hidden hz9; clear hr9 hz9))
      exact bodyPost_ret (results_vec rfl _ _ _ _ _ _ _ rfl HR9.out) rfl (HS3.out.done HZ9.out)
    · by_cases hT3 : T = 3
      · subst hT3
        rw [HP.out, if_neg (by decide), if_pos rfl]
        go_enter Try.func50, Try.ntmps50
        go_wp2_with (first
          | (at_builtin; go_loud (refine wpList_append_c rfl _ _ 27 rfl 4 (.bool false) 1 Try.underlying27 infoT14 rfl c (tcells ns) (by rfl) base _ HS.out.o3 (by have := HS.out.size; have := HB.out; omega) (.bool u) rfl _ (by rfl) (by simp) (by have := HL.out; dsimp only; omega) (by have := HL.out; dsimp only; omega) ?_); intro c' W1 hown hon hbk; have HOWW1 := hidden hown; have HONW1 := hidden hon; have HBKW1 := hidden hbk; clear hown hon hbk) | (refine wpList_store_c rfl 27 _ _ rfl rfl w.heap.size 3 rfl _ rfl (ownsRow_one HOWW1.out) 29 _ (HS.out.row2Y HONW1.out (.inr (.inr rfl))) (by simp) ?_; intro W2 hr2 hz2; have HS2 := hidden (HS.out.stepT HOWW1.out HONW1.out HBKW1.out hz2 hr2); clear hr2 hz2; have c20 := HS2.out.row2.cell 0; have c21 := HS2.out.row2.cell 1; have c22 := HS2.out.row2.cell 2; have c30 := HS2.out.row3.cell 0; have c31 := HS2.out.row3.cell 1; have c32 := HS2.out.row3.cell 2; simp only [List.getElem?_cons_zero, List.getElem?_cons_succ] at c20 c21 c22 c30 c31 c32) | (at_builtin; go_loud (refine wpList_append_c rfl _ _ 26 rfl 9 (.string ⟨#[]⟩) 16 Try.underlying26 infoS14 rfl b (scells ts) (by rfl) base _ HS2.out.o2 (by have := HS2.out.size; have := HB.out; omega) (.string t) rfl _ (by rfl) (by simp) (by have := HL.out; dsimp only; omega) (by have := HL.out; dsimp only; omega) ?_); intro b' W3 hown hon hbk; have HOWW3 := hidden hown; have HONW3 := hidden hon; have HBKW3 := hidden hbk; clear hown hon hbk) | (refine wpList_store_c rfl 26 _ _ rfl rfl w.heap.size 2 rfl _ rfl (ownsRow_one HOWW3.out) 29 _ (HS2.out.row2Y HONW3.out (.inr (.inl rfl))) (by simp) ?_; intro W4 hr2 hz2; have HS3 := hidden (HS2.out.stepS (u := t.data.toList) (by rw [strOf_toList]; exact HOWW3.out) HONW3.out HBKW3.out hz2 hr2); clear hr2 hz2; have c20 := HS3.out.row2.cell 0; have c21 := HS3.out.row2.cell 1; have c22 := HS3.out.row2.cell 2; have c30 := HS3.out.row3.cell 0; have c31 := HS3.out.row3.cell 1; have c32 := HS3.out.row3.cell 2; simp only [List.getElem?_cons_zero, List.getElem?_cons_succ] at c20 c21 c22 c30 c31 c32) | (refine wpList_load_vec rfl _ rfl w.heap.size rfl _ _ _ _ HS3.out.row2 ?_) | (refine wpList_store_vc rfl _ _ rfl (w.heap.size + 2) rfl _ _ _ _ rfl (all4 rfl (ownsRow_one HS3.out.o1) (ownsRow_one HS3.out.o2) (ownsRow_one HS3.out.o3)) HS3.out.row4 ?_; intro W9 hr9 hz9; have HR9 := hidden hr9; have HZ9 := hidden hz9; clear hr9 hz9))
        exact bodyPost_ret (results_vec rfl _ _ _ _ _ _ _ rfl HR9.out) rfl (HS3.out.done HZ9.out)
      · have e1 : (T == 1) = false := by simpa using hT1
        have e2 : (T == 2) = false := by simpa using hT2
        have e3 : (T == 3) = false := by simpa using hT3
        rw [HP.out, if_neg (by rintro (h | h); exact hT1 h; exact hT2 h), if_neg hT3]
        clear hT1 hT2 hT3
        go_enter Try.func50, Try.ntmps50
        go_wp2_with (first
          | (at_builtin; go_loud (refine wpList_append_c rfl _ _ 27 rfl 4 (.bool false) 1 Try.underlying27 infoT14 rfl c (tcells ns) (by rfl) base _ HS.out.o3 (by have := HS.out.size; have := HB.out; omega) (.bool u) rfl _ (by rfl) (by simp) (by have := HL.out; dsimp only; omega) (by have := HL.out; dsimp only; omega) ?_); intro c' W1 hown hon hbk; have HOWW1 := hidden hown; have HONW1 := hidden hon; have HBKW1 := hidden hbk; clear hown hon hbk) | (refine wpList_store_c rfl 27 _ _ rfl rfl w.heap.size 3 rfl _ rfl (ownsRow_one HOWW1.out) 29 _ (HS.out.row2Y HONW1.out (.inr (.inr rfl))) (by simp) ?_; intro W2 hr2 hz2; have HS2 := hidden (HS.out.stepT HOWW1.out HONW1.out HBKW1.out hz2 hr2); clear hr2 hz2; have c20 := HS2.out.row2.cell 0; have c21 := HS2.out.row2.cell 1; have c22 := HS2.out.row2.cell 2; have c30 := HS2.out.row3.cell 0; have c31 := HS2.out.row3.cell 1; have c32 := HS2.out.row3.cell 2; simp only [List.getElem?_cons_zero, List.getElem?_cons_succ] at c20 c21 c22 c30 c31 c32) | (refine wpList_load_vec rfl _ rfl w.heap.size rfl _ _ _ _ HS2.out.row2 ?_) | (refine wpList_store_vc rfl _ _ rfl (w.heap.size + 2) rfl _ _ _ _ rfl (all4 rfl (ownsRow_one HS2.out.o1) (ownsRow_one HS2.out.o2) (ownsRow_one HS2.out.o3)) HS2.out.row4 ?_; intro W9 hr9 hz9; have HR9 := hidden hr9; have HZ9 := hidden hz9; clear hr9 hz9))
        exact bodyPost_ret (results_vec rfl _ _ _ _ _ _ _ rfl HR9.out) rfl (HS2.out.done HZ9.out)
end Go.Proofs.Ytfjhahhkakfhmaa
/-
  Shaken: what the claims of this seat need of this text. No condition.
-/
namespace Go.Proofs.Ytfjhahhkakfhmaa
set_option maxRecDepth 8000
open Go.RowKit
set_option linter.unusedVariables false
set_option linter.unusedSimpArgs false
def atI (v : Vec) (i : Int) : Val := if 0 ≤ i ∧ i < (v.ns.length : Int) then vat v i.toNat else nulX
def OkAt (v : Vec) : Prop := (v.T = 1 ∨ v.T = 2 → v.is.length = v.ns.length) ∧ (v.T = 3 → v.ts.length = v.ns.length) ∧ (∀ i (h : i < v.ns.length), v.ns[i] = true ∨ v.T = 1 ∨ v.T = 2 ∨ v.T = 3)
set_option maxHeartbeats 1000000 in
theorem rat17_in (x : Value) (v : Vec) (i : Nat) (w : World) (hx : IsV w x v) (hi : i < v.ns.length) (hl : v.ns.length ≤ 1000000000000) (h1 : v.T = 1 ∨ v.T = 2 → v.is.length = v.ns.length) (h3 : v.T = 3 → v.ts.length = v.ns.length) (h0 : v.ns[i] = true ∨ v.T = 1 ∨ v.T = 2 ∨ v.T = 3) :
    Calls Try.prog 15 #[x, .int .i64 (i : Int)] w (VaR (vat v i) w) := by
  obtain ⟨T, is, ts, ns⟩ := v
  obtain ⟨a1, a2, a3, rfl, j1, j2, j3⟩ := hx
  dsimp only at *
  obtain ⟨A1, c1, rfl⟩ := j1.slice_
  obtain ⟨A2, c2, rfl⟩ := j2.slice_
  obtain ⟨A3, c3, rfl⟩ := j3.slice_
  obtain ⟨n1, hn1⟩ : ∃ n, is.length = n := ⟨_, rfl⟩
  obtain ⟨n2, hn2⟩ : ∃ n, ts.length = n := ⟨_, rfl⟩
  obtain ⟨n3, hn3⟩ : ∃ n, ns.length = n := ⟨_, rfl⟩
  rw [hn1] at j1 h1 ⊢
  rw [hn2] at j2 h3 ⊢
  rw [hn3] at j3 h1 h3 hl ⊢
  have hi : i < ns.length := hi
  have hi3 : i < n3 := by omega
  have d3 : decide (i < n3) = true := by simpa using hi3
  have d3' : decide (n3 ≤ i) = false := by simpa using hi3
  obtain ⟨W0, hW0⟩ : ∃ W0, W0 = (w.alloc (.cells #[.int .i64 T, .slice A1 n1 c1, .slice A2 n2 c2, .slice A3 n3 c3] 29)).alloc (.cells #[.int .i64 0, .int .i64 0, .string ⟨#[]⟩] 37) := ⟨_, rfl⟩
  have HG := hidden (show Grows w W0 by rw [hW0]; exact (grow1 _).of_below (grow1 _))
  have HR := hidden (show Row W0 (w.heap.size + 1) 37 [.int .i64 0, .int .i64 0, .string ⟨#[]⟩] by rw [hW0]; exact Row.at_ (w.alloc _) 37 #[.int .i64 0, .int .i64 0, .string ⟨#[]⟩] _ rfl (w.heap.size + 1) (by simp))
  obtain ⟨b3, f3, rfl, hck3⟩ := (j3.grow HG.out).at_ hi
  have HW := hidden hW0
  rw [hW0] at hck3
  have hv : vat ⟨T, is, ts, ns⟩ i = if ns[i] = true then nulX else if T = 3 then ⟨3, 0, strOf (ts.getD i [])⟩ else ⟨T, is.getD i 0, ⟨#[]⟩⟩ := by
    unfold vat
    have e : ns.getD i true = ns[i] := by rw [List.getD_eq_getElem?_getD, List.getElem?_eq_getElem hi]; rfl
    simp only [e]
  rw [hv]
  generalize ns[i] = nb at *
  cases nb
  · rw [if_neg (by simp)]
    by_cases hT : T = 3
    · rw [if_pos hT]
      have hi2 : i < ts.length := by have := h3 hT; omega
      obtain ⟨b, f, rfl, hck⟩ := (j2.grow HG.out).at_ hi2
      rw [hW0] at hck
      have e2 : ts.getD i [] = ts[i] := by rw [List.getD_eq_getElem?_getD, List.getElem?_eq_getElem hi2]; rfl
      rw [e2]
      have eT : (T == 3) = true := by simpa using hT
      have hi4 : i < n2 := by omega
      generalize strOf ts[i] = s at *
      clear j1 j2 j3 hi h1 h3 hT hW0 hn1 hn2 hn3 h0 hv
      go_enter Try.func15, Try.ntmps15
      go_wp2_with (first
        | (refine wpList_store_f3 rfl _ _ rfl (w.heap.size + 1) 0 rfl 3 0 s rfl _ _ (show Row _ _ _ _ by rw [← HW.out]; exact HR.out) (by simp) ?_; intro W1 hr1 ht1; have HR1 := hidden hr1; have HT1 := hidden (ht1.grows w (by rw [← HW.out]; exact HG.out) (by omega)); clear hr1 ht1))
      exact bodyPost_ret (results_val rfl _ _ _ _ _ _ rfl HR1.out) rfl ⟨rfl, HT1.out⟩
    · rw [if_neg hT]
      have h12 : T = 1 ∨ T = 2 := by rcases h0 with h | h; cases h; omega
      have hi1 : i < is.length := by have := h1 h12; omega
      obtain ⟨b, f, rfl, hck⟩ := (j1.grow HG.out).at_ hi1
      rw [hW0] at hck
      have e2 : is.getD i 0 = is[i] := by rw [List.getD_eq_getElem?_getD, List.getElem?_eq_getElem hi1]; rfl
      rw [e2]
      have eT : (T == 3) = false := by simpa using hT
      have hi4 : i < n1 := by omega
      generalize is[i] = m at *
      clear j1 j2 j3 hi h1 h3 hT hW0 hn1 hn2 hn3 h0 hv h12
      go_enter Try.func15, Try.ntmps15
      go_wp2_with fail
      go_region
      have HGQ := hidden (drawn_grows4 ((grow1 (w := w) (.cells #[.int .i64 T, .slice (some ⟨b, f, none⟩) n1 c1, .slice A2 n2 c2, .slice (some ⟨b3, f3, none⟩) n3 c3] 29)).of_below (grow1 (.cells #[.int .i64 T, .int .i64 m, .string ⟨#[]⟩] 37))))
      have HRQ := hidden (show Row ((w.alloc (.cells #[.int .i64 T, .slice (some ⟨b, f, none⟩) n1 c1, .slice A2 n2 c2, .slice (some ⟨b3, f3, none⟩) n3 c3] 29)).alloc (.cells #[.int .i64 T, .int .i64 m, .string ⟨#[]⟩] 37)).drew (w.heap.size + 1) 37 [.int .i64 T, .int .i64 m, .string ⟨#[]⟩] from Row.at_ (w.alloc _) 37 _ _ rfl (w.heap.size + 1) (by simp))
      go_wp2_with fail
      exact bodyPost_ret (results_val rfl _ _ _ _ _ _ rfl HRQ.out) rfl ⟨rfl, HGQ.out⟩
  · rw [if_pos rfl]
    clear j1 j2 j3 hi h1 h3 hW0 hn1 hn2 hn3 h0 hv
    go_enter Try.func15, Try.ntmps15
    go_wp2_with (first
      | (refine wpList_store_f3 rfl _ _ rfl (w.heap.size + 1) 0 rfl 0 0 ⟨#[]⟩ rfl _ _ (show Row _ _ _ _ by rw [← HW.out]; exact HR.out) (by simp) ?_; intro W1 hr1 ht1; have HR1 := hidden hr1; have HT1 := hidden (ht1.grows w (by rw [← HW.out]; exact HG.out) (by omega)); clear hr1 ht1))
    exact bodyPost_ret (results_val rfl _ _ _ _ _ _ rfl HR1.out) rfl ⟨rfl, HT1.out⟩
set_option maxHeartbeats 1000000 in
theorem rat17_out (T i : Int) (A1 A2 A3 : Option Addr) (n1 c1 n2 c2 n3 c3 : Nat) (w : World) (h : i < 0 ∨ (n3 : Int) ≤ i) :
    Calls Try.prog 15 #[.agg #[.int .i64 T, .slice A1 n1 c1, .slice A2 n2 c2, .slice A3 n3 c3], .int .i64 i] w (VaR nulX w) := by
  obtain ⟨W0, hW0⟩ : ∃ W0, W0 = (w.alloc (.cells #[.int .i64 T, .slice A1 n1 c1, .slice A2 n2 c2, .slice A3 n3 c3] 29)).alloc (.cells #[.int .i64 0, .int .i64 0, .string ⟨#[]⟩] 37) := ⟨_, rfl⟩
  have HG := hidden (show Grows w W0 by rw [hW0]; exact (grow1 _).of_below (grow1 _))
  have HR := hidden (show Row W0 (w.heap.size + 1) 37 [.int .i64 0, .int .i64 0, .string ⟨#[]⟩] by rw [hW0]; exact Row.at_ (w.alloc _) 37 #[.int .i64 0, .int .i64 0, .string ⟨#[]⟩] _ rfl (w.heap.size + 1) (by simp))
  have HW := hidden hW0
  clear hW0
  by_cases h0 : i < 0
  · have d0 : decide (i < 0) = true := by simpa using h0
    clear h
    go_enter Try.func15, Try.ntmps15
    go_wp2_with (first
      | (refine wpList_store_f3 rfl _ _ rfl (w.heap.size + 1) 0 rfl 0 0 ⟨#[]⟩ rfl _ _ (show Row _ _ _ _ by rw [← HW.out]; exact HR.out) (by simp) ?_; intro W1 hr1 ht1; have HR1 := hidden hr1; have HT1 := hidden (ht1.grows w (by rw [← HW.out]; exact HG.out) (by omega)); clear hr1 ht1))
    exact bodyPost_ret (results_val rfl _ _ _ _ _ _ rfl HR1.out) rfl ⟨rfl, HT1.out⟩
  · have h1 : (n3 : Int) ≤ i := by omega
    have d0 : decide (i < 0) = false := by simpa using h0
    have d1 : decide ((n3 : Int) ≤ i) = true := by simpa using h1
    clear h
    go_enter Try.func15, Try.ntmps15
    go_wp2_with (first
      | (refine wpList_store_f3 rfl _ _ rfl (w.heap.size + 1) 0 rfl 0 0 ⟨#[]⟩ rfl _ _ (show Row _ _ _ _ by rw [← HW.out]; exact HR.out) (by simp) ?_; intro W1 hr1 ht1; have HR1 := hidden hr1; have HT1 := hidden (ht1.grows w (by rw [← HW.out]; exact HG.out) (by omega)); clear hr1 ht1))
    exact bodyPost_ret (results_val rfl _ _ _ _ _ _ rfl HR1.out) rfl ⟨rfl, HT1.out⟩
theorem rat17_any (x : Value) (v : Vec) (i : Int) (w : World) (hx : IsV w x v) (hl : v.ns.length ≤ 1000000000000) (ho : OkAt v) :
    Calls Try.prog 15 #[x, .int .i64 i] w (VaR (atI v i) w) := by
  unfold atI
  by_cases h : 0 ≤ i ∧ i < (v.ns.length : Int)
  · rw [if_pos h]
    have := rat17_in x v i.toNat w hx (by omega) hl ho.1 ho.2.1 (ho.2.2 _ (by omega))
    rwa [Int.toNat_of_nonneg h.1] at this
  · rw [if_neg h]
    obtain ⟨T, is, ts, ns⟩ := v
    obtain ⟨a1, a2, a3, rfl, j1, j2, j3⟩ := hx
    obtain ⟨A1, c1, rfl⟩ := j1.slice_
    obtain ⟨A2, c2, rfl⟩ := j2.slice_
    obtain ⟨A3, c3, rfl⟩ := j3.slice_
    exact rat17_out _ _ _ _ _ _ _ _ _ _ _ _ (by dsimp only at h ⊢; omega)
end Go.Proofs.Ytfjhahhkakfhmaa
/-
  Shaken: what the claims of this seat need of this text. No condition.
-/
namespace Go.Proofs.Ytfjhahhkakfhmaa
set_option maxRecDepth 8000
open Go.RowKit
set_option linter.unusedVariables false
set_option linter.unusedSimpArgs false
def buildV (T : Int) (l : List Val) : Vec := l.foldl putV ⟨T, [], [], []⟩
theorem buildV_nil (T : Int) : buildV T [] = ⟨T, [], [], []⟩ := rfl
theorem buildV_snoc (T : Int) (l : List Val) (y : Val) : buildV T (l ++ [y]) = putV (buildV T l) y := by simp [buildV, List.foldl_append]
theorem foldl_T : ∀ (l : List Val) (v : Vec), (l.foldl putV v).T = v.T
  | [], v => rfl
  | y :: l, v => by rw [List.foldl_cons, foldl_T l]; rfl
theorem buildV_T (T : Int) (l : List Val) : (buildV T l).T = T := foldl_T l _
theorem foldl_len : ∀ (l : List Val) (v : Vec), (l.foldl putV v).ns.length = v.ns.length + l.length ∧ (l.foldl putV v).is.length ≤ v.is.length + l.length ∧ (l.foldl putV v).ts.length ≤ v.ts.length + l.length
  | [], v => by simp
  | y :: l, v => by
    have h := foldl_len l (putV v y)
    rw [List.foldl_cons]
    have h1 : (putV v y).ns.length = v.ns.length + 1 := by simp [putV]
    have h2 : (putV v y).is.length ≤ v.is.length + 1 := by simp only [putV]; split <;> simp
    have h3 : (putV v y).ts.length ≤ v.ts.length + 1 := by simp only [putV]; split <;> simp
    simp only [List.length_cons]
    omega
theorem buildV_len (T : Int) (l : List Val) : (buildV T l).ns.length = l.length ∧ (buildV T l).is.length ≤ l.length ∧ (buildV T l).ts.length ≤ l.length := by
  have h := foldl_len l ⟨T, [], [], []⟩
  simpa [buildV] using h
theorem buildV_fit (T : Int) (l : List Val) (h : l.length ≤ 1000000000) : FitLen (buildV T l) := by
  have := buildV_len T l
  unfold FitLen
  omega
structure OutSt (w : World) (base g : Nat) (T : Int) (v : Vec) (p q r : Value) (X : World) : Prop where
  lt : g < base
  low : w.heap.size ≤ g
  size : base ≤ X.heap.size
  row : Row X g 29 [.int .i64 T, p, q, r]
  own : OwnV base X (.agg #[.int .i64 T, p, q, r]) v
  grows : Grows w X
theorem OutSt.grow {w : World} {base g : Nat} {T : Int} {v : Vec} {p q r : Value} {X Y : World} (h : OutSt w base g T v p q r X) (hg : Grows X Y) : OutSt w base g T v p q r Y :=
  ⟨h.lt, h.low, Nat.le_trans h.size hg.size, h.row.grow hg, h.own.only (Only.of_grows hg (fun _ => False)) (fun _ _ => id), h.grows.of_below hg⟩
theorem results_vec2 {fn : Func} {p q : Tmp} (h : fn.results = #[.cell p 29, .tmp q]) (tmps : Array Value) (w : World) (g : Nat) (a b c d x : Value) (hp : tmps.getD p undef = .pointer (some ⟨g, 0, none⟩)) (hg : Row w g 29 [a, b, c, d])
    (hx : tmps.getD q undef = x) : (results fn tmps).run Try.prog w = .ok (.tuple #[.agg #[a, b, c, d], x]) w := by
  have hp' : tmps[p]?.getD undef = .pointer (some ⟨g, 0, none⟩) := by simpa using hp
  have hx' : tmps[q]?.getD undef = x := by simpa using hx
  simp [results, h, hp', hx', asAddr, run_loadVar_row w g 29 29 #[a, b, c, d] (0, 0) _ hg Try.underlying29 rfl sizeVec]
def valsW (v : Vec) : List Val := (List.range v.ns.length).map (vat v)
theorem atI_nat {v : Vec} {j : Nat} (h : j < v.ns.length) : atI v (j : Int) = vat v j := by
  unfold atI
  rw [if_pos ⟨by omega, by omega⟩, Int.toNat_natCast]
def OwnVals (l : List Val) (w : World) (e : Ending) (w' : World) : Prop := ∃ v, e = .returned v ∧ w'.ownsRow w.heap.size 37 3 v l.length (vcells l) ∧ Grows w w'
end Go.Proofs.Ytfjhahhkakfhmaa
/-
  Shaken: what the claims of this seat need of this text. No condition.
-/
namespace Go.Proofs.Ytfjhahhkakfhmaa
set_option maxRecDepth 8000
open Go.RowKit
set_option linter.unusedVariables false
set_option linter.unusedSimpArgs false
def isTypeB (T : Int) : Bool := decide (0 ≤ T) && decide (T ≤ 3)
def vec0 : Vec := ⟨0, [], [], []⟩
def fromV (T : Int) (l : List Val) : Vec := if isTypeB T = true then (if l.all (fitsB · T) = true then buildV T l else vec0) else vec0
def fromE (T : Int) (l : List Val) : Int := if isTypeB T = true then (if l.all (fitsB · T) = true then 0 else 7) else 1
def VecER (v : Vec) (c : Int) (w : World) (e : Ending) (w' : World) : Prop := ∃ x, e = .returned (.tuple #[x, .int .i64 c]) ∧ OwnV w.heap.size w' x v ∧ Grows w w'
def VecR (v : Vec) (w : World) (e : Ending) (w' : World) : Prop := ∃ x, e = .returned x ∧ OwnV w.heap.size w' x v ∧ Grows w w'
end Go.Proofs.Ytfjhahhkakfhmaa
/-
  Shaken: what the claims of this seat need of this text. No condition.
-/
namespace Go.Proofs.Ytfjhahhkakfhmaa
set_option maxRecDepth 8000
open Go.RowKit
set_option linter.unusedVariables false
set_option linter.unusedSimpArgs false
def gatherV (v : Vec) (l : List Int) : Vec := buildV v.T (l.map (atI v))
def conT (T : Int) : Int := if isTypeB T = true then T else 0
def conY (T : Int) (y : Val) : Val := if fitsB y T = true then y else nulX
def constVec (T : Int) (y : Val) (n : Int) : Vec := buildV (conT T) (List.replicate n.toNat (conY (conT T) y))
end Go.Proofs.Ytfjhahhkakfhmaa
/-
  Shaken: what the claims of this seat need of this text. No condition.
-/
namespace Go.Proofs.Ytfjhahhkakfhmaa
set_option maxRecDepth 8000
open Go.RowKit
set_option linter.unusedVariables false
set_option linter.unusedSimpArgs false
def IsVs (w : World) (v : Value) (l : List Vec) : Prop :=
  ∃ A c, v = .slice A l.length c ∧ l.length ≤ c ∧ (0 < l.length → ∃ b off, A = some ⟨b, off, none⟩ ∧ ∀ (j : Nat) (x : Vec), l[j]? = some x → ∃ p q r, w.cell? ⟨b, off + j * 4, none⟩ = some (.int .i64 x.T) ∧ w.cell? ⟨b, off + j * 4 + 1, none⟩ = some p ∧ w.cell? ⟨b, off + j * 4 + 2, none⟩ = some q ∧ w.cell? ⟨b, off + j * 4 + 3, none⟩ = some r ∧ IsV w (.agg #[.int .i64 x.T, p, q, r]) x)
theorem IsVs.grow {w w' : World} {v : Value} {l : List Vec} (h : IsVs w v l) (hg : Grows w w') : IsVs w' v l := by
  obtain ⟨A, c, rfl, hc, hcell⟩ := h
  refine ⟨A, c, rfl, hc, fun hl => ?_⟩
  obtain ⟨b, off, rfl, hcc⟩ := hcell hl
  refine ⟨b, off, rfl, fun j x hj => ?_⟩
  obtain ⟨p, q, r, h0, h1, h2, h3, h4⟩ := hcc j x hj
  have up : ∀ {a : Addr} {u : Value}, w.cell? a = some u → w'.cell? a = some u := fun h => (hg.cell (World.block_lt_of_cell? _ _ h)).trans h
  exact ⟨p, q, r, up h0, up h1, up h2, up h3, h4.grow hg⟩
theorem IsVs.slice_ {w : World} {v : Value} {l : List Vec} (h : IsVs w v l) : ∃ A c, v = .slice A l.length c := by
  obtain ⟨A, c, h, _⟩ := h; exact ⟨A, c, h⟩
theorem IsVs.at_ {w : World} {A : Option Addr} {n c : Nat} {l : List Vec} (h : IsVs w (.slice A n c) l) {j : Nat} (hj : j < l.length) :
    ∃ b off A1 c1 A2 c2 A3 c3, A = some ⟨b, off, none⟩ ∧ ∀ W, Grows w W → W.cell? ⟨b, off + j * 4, none⟩ = some (.int .i64 l[j].T) ∧ W.cell? ⟨b, off + j * 4 + 1, none⟩ = some (.slice A1 l[j].is.length c1) ∧ W.cell? ⟨b, off + j * 4 + 2, none⟩ = some (.slice A2 l[j].ts.length c2) ∧ W.cell? ⟨b, off + j * 4 + 3, none⟩ = some (.slice A3 l[j].ns.length c3) ∧ IsV W (.agg #[.int .i64 l[j].T, .slice A1 l[j].is.length c1, .slice A2 l[j].ts.length c2, .slice A3 l[j].ns.length c3]) l[j] := by
  obtain ⟨A', c', he, _, hcell⟩ := h
  injection he with e1 e2 e3
  subst e1
  obtain ⟨b, off, rfl, hcc⟩ := hcell (by omega)
  obtain ⟨p, q, r, h0, h1, h2, h3, h4⟩ := hcc j l[j] (List.getElem?_eq_getElem hj)
  obtain ⟨a1, a2, a3, hE, j1, j2, j3⟩ := id h4
  injection hE with hE
  simp only [Array.mk.injEq, List.cons.injEq, and_true, true_and] at hE
  obtain ⟨rfl, rfl, rfl⟩ := hE
  obtain ⟨A1, c1, rfl⟩ := j1.slice_
  obtain ⟨A2, c2, rfl⟩ := j2.slice_
  obtain ⟨A3, c3, rfl⟩ := j3.slice_
  have up : ∀ {W : World} (hg : Grows w W) {a : Addr} {u : Value}, w.cell? a = some u → W.cell? a = some u := fun hg _ _ h => (hg.cell (World.block_lt_of_cell? _ _ h)).trans h
  exact ⟨b, off, A1, c1, A2, c2, A3, c3, rfl, fun W hW => ⟨up hW h0, up hW h1, up hW h2, up hW h3, h4.grow hW⟩⟩
def headT (l : List Vec) : Int := match l with | [] => 0 | x :: _ => x.T
def catB (l : List Vec) : Bool := l.all (fun x => decide (x.T = headT l))
def catV (l : List Vec) : Vec := if l = [] then vec0 else if catB l = true then buildV (headT l) (l.flatMap valsW) else vec0
def catE (l : List Vec) : Int := if l = [] then 1 else if catB l = true then 0 else 7
end Go.Proofs.Ytfjhahhkakfhmaa
/-
  Shaken: what the claims of this seat need of this text. No condition.
-/
namespace Go.Proofs.Ytfjhahhkakfhmaa
open Go.RowKit
set_option linter.unusedVariables false
set_option linter.unusedSimpArgs false
def EqvRel (W : World) (n : Nat) (i : Value) (wr : World) : Prop := ∃ k : Nat, k ≤ n ∧ i = .int .i64 (k : Int) ∧ Grows W wr
set_option maxRecDepth 8000 in
set_option maxHeartbeats 8000000 in
theorem rEqual17_self (x y : Value) (v : Vec) (w : World) (hx : IsV w x v) (hy : IsV w y v) (hl : FitLen v) :
    Calls Try.prog 13 #[x, y] w fun e w' => e = .returned (.bool true) ∧ Grows w w' := by
  obtain ⟨T, is, ts, ns⟩ := v
  obtain ⟨a1, a2, a3, rfl, j1, j2, j3⟩ := hx
  obtain ⟨b1, b2, b3, rfl, k1, k2, k3⟩ := hy
  dsimp only at *
  obtain ⟨A1, c1, rfl⟩ := j1.slice_
  obtain ⟨A2, c2, rfl⟩ := j2.slice_
  obtain ⟨A3, c3, rfl⟩ := j3.slice_
  obtain ⟨B1, d1, rfl⟩ := k1.slice_
  obtain ⟨B2, d2, rfl⟩ := k2.slice_
  obtain ⟨B3, d3, rfl⟩ := k3.slice_
  obtain ⟨l1, l2, l3⟩ := hl
  dsimp only at l1 l2 l3
  have HA1 := hidden j1
  have HA2 := hidden j2
  have HA3 := hidden j3
  have HB1 := hidden k1
  have HB2 := hidden k2
  have HB3 := hidden k3
  clear j1 j2 j3 k1 k2 k3
  obtain ⟨W0, hW0⟩ : ∃ W, W = ((w.alloc (.cells #[.int .i64 T, .slice A1 is.length c1, .slice A2 ts.length c2, .slice A3 ns.length c3] 29)).alloc (.cells #[.int .i64 T, .slice B1 is.length d1, .slice B2 ts.length d2, .slice B3 ns.length d3] 29)) := ⟨_, rfl⟩
  have HG0 := hidden (show Grows w W0 by rw [hW0]; exact (grow1 _).of_below (grow1 _))
  have HS0 := hidden (show Row W0 w.heap.size 29 [.int .i64 T, .slice A1 is.length c1, .slice A2 ts.length c2, .slice A3 ns.length c3] by rw [hW0]; exact (Row.new w 29 _ _ rfl).grow (grow1 _))
  have HT0 := hidden (show Row W0 (w.heap.size + 1) 29 [.int .i64 T, .slice B1 is.length d1, .slice B2 ts.length d2, .slice B3 ns.length d3] by rw [hW0]; exact Row.at_ _ 29 _ _ rfl (w.heap.size + 1) (by simp))
  have p0 := HS0.out.cell 0
  have q0 := HT0.out.cell 0
  have p1 := HS0.out.cell 1
  have q1 := HT0.out.cell 1
  have p2 := HS0.out.cell 2
  have q2 := HT0.out.cell 2
  have p3 := HS0.out.cell 3
  have q3 := HT0.out.cell 3
  simp only [List.getElem?_cons_succ, List.getElem?_cons_zero] at p0 q0 p1 q1 p2 q2 p3 q3
  rw [hW0] at p0 q0 p1 q1 p2 q2 p3 q3
  go_enter Try.func13, Try.ntmps13
  go_wp2_with fail
  rw [← hW0]
  clear hW0 p0 q0 p1 q1 p2 q2 p3 q3
  go_loopw [5] (fun i wr => EqvRel W0 ns.length i wr) (fun i _ => ns.length - (intOf i).toNat)
  case atStart => exact ⟨0, Nat.zero_le _, rfl, Below.refl _ _⟩
  case round =>
    obtain ⟨k, hk, rfl, hb⟩ := hrel
    have HBW := hidden hb
    have HB := hidden (hb)
    clear hb
    have q3 := (HS0.out.grow HB.out).cell 3
    simp only [List.getElem?_cons_succ, List.getElem?_cons_zero] at q3
    by_cases hlt : k < ns.length
    · have hd : decide (k < ns.length) = true := by simpa using hlt
      have hk0 : (0 : Int) ≤ (k : Int) := by omega
      have hk1 : (k : Int) < (ns.length : Int) := by omega
      have HLT := hidden hlt
      obtain ⟨b, off, rfl, ka⟩ := IsT.at_ (HA3.out.grow (HG0.out.of_below HB.out)) hlt
      obtain ⟨b', off', rfl, kb⟩ := IsT.at_ (HB3.out.grow (HG0.out.of_below HB.out)) hlt
      have hyy : ∃ y : Bool, wr.cell? ⟨b, off + k, none⟩ = some (.bool y) ∧ wr.cell? ⟨b', off' + k, none⟩ = some (.bool y) := ⟨_, ka, kb⟩
      clear ka kb
      obtain ⟨y, ka, kb⟩ := hyy
      have HX := hidden (fun X (h : Grows wr X) => (⟨((HS0.out.grow HB.out).grow h).cell 3, ((HT0.out.grow HB.out).grow h).cell 3, (h.cell (World.block_lt_of_cell? _ _ ka)).trans ka, (h.cell (World.block_lt_of_cell? _ _ kb)).trans kb⟩ : X.cell? ⟨w.heap.size, 3, none⟩ = some (.slice (some ⟨b, off, none⟩) ns.length c3) ∧ X.cell? ⟨w.heap.size + 1, 3, none⟩ = some (.slice (some ⟨b', off', none⟩) ns.length d3) ∧ X.cell? ⟨b, off + k, none⟩ = some (.bool y) ∧ X.cell? ⟨b', off' + k, none⟩ = some (.bool y)))
      clear hlt ka kb
      go_wp2_with fail
      refine wp_region_loose (tabRs []) (by kernel_rfl) (by kernel_rfl) tabRs_nil ?_
      iterate 11 ((with_reducible refine loose_one (v := ?_) (a' := ?_) ?_ ?_ (fun w' hC' hG' => ?_) ?_ ?_); rotate_left 2; (focus rfl); (focus rfl); (focus (obtain ⟨xa, xb, ka, kb⟩ := HX.out w' hC'; clear hC' hG'; go_simp; rfl)); (focus (go_simp; rfl)))
      refine loose_done (fun w5 hC5 hG5 => ?_)
      have HB5 := hidden (HBW.out.of_below hC5)
      clear hC5 hG5 HX q3
      go_wp2_with fail
      go_roundw
      case rel => exact ⟨k + 1, HLT.out, by go_num, HB5.out⟩
      case measure => have := HLT.out; simp [intOf]; omega
    · have hke : k = ns.length := by omega
      have hd : decide (k < ns.length) = false := by simpa using hlt
      subst hke
      have HBq1 := hidden HB.out
      generalize wr = wq1 at *
      clear HB HBW
      go_wp2_with fail
      clear q3 hd hlt
      go_loopw [6] (fun i wr => EqvRel wq1 is.length i wr) (fun i _ => is.length - (intOf i).toNat)
      case atStart => exact ⟨0, Nat.zero_le _, rfl, Below.refl _ _⟩
      case round =>
        obtain ⟨k, hk, rfl, hb⟩ := hrel
        have HBW := hidden hb
        have HB := hidden (HBq1.out.of_below hb)
        clear hb
        have q1 := (HS0.out.grow HB.out).cell 1
        simp only [List.getElem?_cons_succ, List.getElem?_cons_zero] at q1
        by_cases hlt : k < is.length
        · have hd : decide (k < is.length) = true := by simpa using hlt
          have hk0 : (0 : Int) ≤ (k : Int) := by omega
          have hk1 : (k : Int) < (is.length : Int) := by omega
          have HLT := hidden hlt
          obtain ⟨b, off, rfl, ka⟩ := IsI.at_ (HA1.out.grow (HG0.out.of_below HB.out)) hlt
          obtain ⟨b', off', rfl, kb⟩ := IsI.at_ (HB1.out.grow (HG0.out.of_below HB.out)) hlt
          have hyy : ∃ y : Int, wr.cell? ⟨b, off + k, none⟩ = some (.int .i64 y) ∧ wr.cell? ⟨b', off' + k, none⟩ = some (.int .i64 y) := ⟨_, ka, kb⟩
          clear ka kb
          obtain ⟨y, ka, kb⟩ := hyy
          have HX := hidden (fun X (h : Grows wr X) => (⟨((HS0.out.grow HB.out).grow h).cell 1, ((HT0.out.grow HB.out).grow h).cell 1, (h.cell (World.block_lt_of_cell? _ _ ka)).trans ka, (h.cell (World.block_lt_of_cell? _ _ kb)).trans kb⟩ : X.cell? ⟨w.heap.size, 1, none⟩ = some (.slice (some ⟨b, off, none⟩) is.length c1) ∧ X.cell? ⟨w.heap.size + 1, 1, none⟩ = some (.slice (some ⟨b', off', none⟩) is.length d1) ∧ X.cell? ⟨b, off + k, none⟩ = some (.int .i64 y) ∧ X.cell? ⟨b', off' + k, none⟩ = some (.int .i64 y)))
          clear hlt ka kb
          go_wp2_with fail
          refine wp_region_loose (tabRs []) (by kernel_rfl) (by kernel_rfl) tabRs_nil ?_
          iterate 11 ((with_reducible refine loose_one (v := ?_) (a' := ?_) ?_ ?_ (fun w' hC' hG' => ?_) ?_ ?_); rotate_left 2; (focus rfl); (focus rfl); (focus (obtain ⟨xa, xb, ka, kb⟩ := HX.out w' hC'; clear hC' hG'; go_simp; rfl)); (focus (go_simp; rfl)))
          refine loose_done (fun w5 hC5 hG5 => ?_)
          have HB5 := hidden (HBW.out.of_below hC5)
          clear hC5 hG5 HX q1
          go_wp2_with fail
          go_roundw
          case rel => exact ⟨k + 1, HLT.out, by go_num, HB5.out⟩
          case measure => have := HLT.out; simp [intOf]; omega
        · have hke : k = is.length := by omega
          have hd : decide (k < is.length) = false := by simpa using hlt
          subst hke
          have HBq2 := hidden HB.out
          generalize wr = wq2 at *
          clear HB HBW
          go_wp2_with fail
          clear q1 hd hlt
          go_loopw [7] (fun i wr => EqvRel wq2 ts.length i wr) (fun i _ => ts.length - (intOf i).toNat)
          case atStart => exact ⟨0, Nat.zero_le _, rfl, Below.refl _ _⟩
          case round =>
            obtain ⟨k, hk, rfl, hb⟩ := hrel
            have HBW := hidden hb
            have HB := hidden (HBq2.out.of_below hb)
            clear hb
            have q2 := (HS0.out.grow HB.out).cell 2
            simp only [List.getElem?_cons_succ, List.getElem?_cons_zero] at q2
            by_cases hlt : k < ts.length
            · have hd : decide (k < ts.length) = true := by simpa using hlt
              have hk0 : (0 : Int) ≤ (k : Int) := by omega
              have hk1 : (k : Int) < (ts.length : Int) := by omega
              have HLT := hidden hlt
              obtain ⟨b, off, rfl, ka⟩ := IsS.at_ (HA2.out.grow (HG0.out.of_below HB.out)) hlt
              obtain ⟨b', off', rfl, kb⟩ := IsS.at_ (HB2.out.grow (HG0.out.of_below HB.out)) hlt
              have hyy : ∃ y : ByteArray, wr.cell? ⟨b, off + k, none⟩ = some (.string y) ∧ wr.cell? ⟨b', off' + k, none⟩ = some (.string y) := ⟨_, ka, kb⟩
              clear ka kb
              obtain ⟨y, ka, kb⟩ := hyy
              have HX := hidden (fun X (h : Grows wr X) => (⟨((HS0.out.grow HB.out).grow h).cell 2, ((HT0.out.grow HB.out).grow h).cell 2, (h.cell (World.block_lt_of_cell? _ _ ka)).trans ka, (h.cell (World.block_lt_of_cell? _ _ kb)).trans kb⟩ : X.cell? ⟨w.heap.size, 2, none⟩ = some (.slice (some ⟨b, off, none⟩) ts.length c2) ∧ X.cell? ⟨w.heap.size + 1, 2, none⟩ = some (.slice (some ⟨b', off', none⟩) ts.length d2) ∧ X.cell? ⟨b, off + k, none⟩ = some (.string y) ∧ X.cell? ⟨b', off' + k, none⟩ = some (.string y)))
              clear hlt ka kb
              go_wp2_with fail
              refine wp_region_loose (tabRs []) (by kernel_rfl) (by kernel_rfl) tabRs_nil ?_
              iterate 11 ((with_reducible refine loose_one (v := ?_) (a' := ?_) ?_ ?_ (fun w' hC' hG' => ?_) ?_ ?_); rotate_left 2; (focus rfl); (focus rfl); (focus (obtain ⟨xa, xb, ka, kb⟩ := HX.out w' hC'; clear hC' hG'; go_simp; rfl)); (focus (go_simp; rfl)))
              refine loose_done (fun w5 hC5 hG5 => ?_)
              have HB5 := hidden (HBW.out.of_below hC5)
              clear hC5 hG5 HX q2
              go_wp2_with fail
              go_roundw
              case rel => exact ⟨k + 1, HLT.out, by go_num, HB5.out⟩
              case measure => have := HLT.out; simp [intOf]; omega
            · have hke : k = ts.length := by omega
              have hd : decide (k < ts.length) = false := by simpa using hlt
              subst hke
              have HBq3 := hidden HB.out
              generalize wr = wq3 at *
              clear HB HBW
              go_wp2_with fail
              go_ret
              exact ⟨rfl, HG0.out.of_below HBq3.out⟩
end Go.Proofs.Ytfjhahhkakfhmaa
/-
  Shaken: what the claims of this seat need of this text. No condition.
-/
namespace Go.Proofs.Ytfjhahhkakfhmaa
set_option maxRecDepth 8000
open Go.RowKit
set_option linter.unusedVariables false
set_option linter.unusedSimpArgs false
theorem ReadsV.at_ {w : World} {A : Option Addr} {n c : Nat} {l : List Val} (h : ReadsV w (.slice A n c) l) {k : Nat} (hk : k < l.length) :
    ∃ b off, A = some ⟨b, off, none⟩ ∧ ∀ W, Grows w W → W.cell? ⟨b, off + k * 3, none⟩ = some (.int .i64 l[k].k) ∧ W.cell? ⟨b, off + k * 3 + 1, none⟩ = some (.int .i64 l[k].n) ∧ W.cell? ⟨b, off + k * 3 + 2, none⟩ = some (.string l[k].t) := by
  obtain ⟨A', c', he, _, hcell⟩ := h
  injection he with e1 e2 e3
  subst e1
  obtain ⟨b, off, rfl, hcc⟩ := hcell (by omega)
  refine ⟨b, off, rfl, fun W hW => ?_⟩
  have := hcc k l[k] (List.getElem?_eq_getElem hk)
  exact ⟨(hW.cell (World.block_lt_of_cell? _ _ this.1)).trans this.1, (hW.cell (World.block_lt_of_cell? _ _ this.2.1)).trans this.2.1, (hW.cell (World.block_lt_of_cell? _ _ this.2.2)).trans this.2.2⟩
set_option maxHeartbeats 4000000 in
theorem sameValues_self (v u : Value) (l : List Val) (w : World) (hv : ReadsV w v l) (hu : ReadsV w u l) (hl : l.length ≤ 1000000000) :
    Calls Try.prog 16 #[v, u] w fun e w' => e = .returned (.bool true) ∧ Grows w w' := by
  have HV := hidden hv
  have HU := hidden hu
  obtain ⟨A, c, rfl, _, _⟩ := hv
  obtain ⟨B, d, rfl, _, _⟩ := hu
  go_enter Try.func16, Try.ntmps16
  go_wp2_with fail
  go_loopw [13] (fun i wr => EqvRel w l.length i wr) (fun i _ => l.length - (intOf i).toNat)
  case atStart => exact ⟨0, Nat.zero_le _, rfl, Below.refl _ _⟩
  case round =>
    obtain ⟨k, hk, rfl, hb⟩ := hrel
    have HB := hidden hb
    clear hb
    by_cases hlt : k < l.length
    · have hd : decide (k < l.length) = true := by simpa using hlt
      have hk0 : (0 : Int) ≤ (k : Int) := by omega
      have hk1 : (k : Int) < (l.length : Int) := by omega
      have HLT := hidden hlt
      obtain ⟨b, off, rfl, ka⟩ := HV.out.at_ hlt
      obtain ⟨b', off', rfl, kb⟩ := HU.out.at_ hlt
      have eyy : ∃ y : Val, (∀ W, Grows w W → W.cell? ⟨b, off + k * 3, none⟩ = some (.int .i64 y.k) ∧ W.cell? ⟨b, off + k * 3 + 1, none⟩ = some (.int .i64 y.n) ∧ W.cell? ⟨b, off + k * 3 + 2, none⟩ = some (.string y.t)) ∧ (∀ W, Grows w W → W.cell? ⟨b', off' + k * 3, none⟩ = some (.int .i64 y.k) ∧ W.cell? ⟨b', off' + k * 3 + 1, none⟩ = some (.int .i64 y.n) ∧ W.cell? ⟨b', off' + k * 3 + 2, none⟩ = some (.string y.t)) := ⟨_, ka, kb⟩
      clear ka kb
      obtain ⟨y, ka, kb⟩ := eyy
      have HX := hidden (fun X (h : Grows wr X) => And.intro (ka X (HB.out.of_below h)) (kb X (HB.out.of_below h)))
      clear hlt ka kb
      go_wp2_with fail
      refine wp_region_loose (tabRs []) (by kernel_rfl) (by kernel_rfl) tabRs_nil ?_
      iterate 9 ((with_reducible refine loose_one (v := ?_) (a' := ?_) ?_ ?_ (fun w' hC' hG' => ?_) ?_ ?_); rotate_left 2; (focus rfl); (focus rfl); (focus (obtain ⟨⟨x0, x1, x2⟩, y0, y1, y2⟩ := HX.out w' hC'; clear hC' hG'; go_simp; rfl)); (focus (go_simp; rfl)))
      refine loose_done (fun w5 hC5 hG5 => ?_)
      have HB5 := hidden (HB.out.of_below hC5)
      clear hC5 hG5 HX
      go_wp2_with fail
      go_roundw
      case rel => exact ⟨k + 1, HLT.out, by go_num, HB5.out⟩
      case measure => have := HLT.out; simp [intOf]; omega
    · have hke : k = l.length := by omega
      have hd : decide (k < l.length) = false := by simpa using hlt
      subst hke
      clear hlt
      go_wp2_with fail
      go_ret
      exact ⟨rfl, HB.out⟩
end Go.Proofs.Ytfjhahhkakfhmaa
/-
  Shaken: what the claims of this seat need of this text. No condition.
-/
namespace Go.Proofs.Ytfjhahhkakfhmaa
set_option maxRecDepth 8000
open Go.RowKit
set_option linter.unusedVariables false
set_option linter.unusedSimpArgs false
def entryB (v : Vec) (i : Nat) : Bool :=
  if v.T = 0 then v.ns.getD i false
  else if v.T = 3 then decide ((v.ts.getD i []).length ≤ 4096) && (!v.ns.getD i false || decide (v.ts.getD i [] = []))
  else if v.T = 1 then decide (v.is.getD i 0 = 0) || (decide (v.is.getD i 0 = 1) && !v.ns.getD i false)
  else decide (v.is.getD i 0 = 0) || !v.ns.getD i false
theorem strOf_size (s : Str) : (strOf s).size = s.length := by simp [strOf, ByteArray.size]
theorem strOf_nil17 (s : Str) : ((strOf s).toList == []) = decide (s = []) := by
  rw [ByteArray.toList_eq]
  show (s.toArray.toList == []) = _
  cases s <;> simp
theorem strOf_nilE (s : Str) : (strOf s).toList.isEmpty = decide (s = []) := by
  rw [ByteArray.toList_eq]
  show (s.toArray.toList).isEmpty = _
  cases s <;> simp
set_option maxHeartbeats 4000000 in
theorem rentry_any (x : Value) (v : Vec) (i : Nat) (w : World) (hx : IsV w x v) (hi : i < v.ns.length) (h0 : 0 ≤ v.T) (h4 : v.T ≤ 3) (h1 : v.T = 1 ∨ v.T = 2 → v.is.length = v.ns.length) (h3 : v.T = 3 → v.ts.length = v.ns.length) :
    Calls Try.prog 60 #[x, .int .i64 (i : Int)] w fun e w' => e = .returned (.bool (entryB v i)) ∧ Grows w w' := by
  obtain ⟨T, is, ts, ns⟩ := v
  obtain ⟨a1, a2, a3, rfl, j1, j2, j3⟩ := hx
  dsimp only at *
  obtain ⟨A1, c1, rfl⟩ := j1.slice_
  obtain ⟨A2, c2, rfl⟩ := j2.slice_
  obtain ⟨A3, c3, rfl⟩ := j3.slice_
  obtain ⟨n1, hn1⟩ : ∃ n, is.length = n := ⟨_, rfl⟩
  obtain ⟨n2, hn2⟩ : ∃ n, ts.length = n := ⟨_, rfl⟩
  obtain ⟨n3, hn3⟩ : ∃ n, ns.length = n := ⟨_, rfl⟩
  rw [hn1] at j1 h1 ⊢
  rw [hn2] at j2 h3 ⊢
  rw [hn3] at j3 h1 h3 ⊢
  have hi : i < ns.length := hi
  have hi3 : i < n3 := by omega
  have hk0 : (0 : Int) ≤ (i : Int) := by omega
  have HG := hidden (grow1 (w := w) (.cells #[.int .i64 T, .slice A1 n1 c1, .slice A2 n2 c2, .slice A3 n3 c3] 29))
  obtain ⟨b3, f3, rfl, hck3⟩ := (j3.grow HG.out).at_ hi
  have e3 : ns.getD i false = ns[i] := by rw [List.getD_eq_getElem?_getD, List.getElem?_eq_getElem hi]; rfl
  have hE : entryB ⟨T, is, ts, ns⟩ i = if T = 0 then ns[i] else if T = 3 then decide ((ts.getD i []).length ≤ 4096) && (!ns[i] || decide (ts.getD i [] = [])) else if T = 1 then decide (is.getD i 0 = 0) || (decide (is.getD i 0 = 1) && !ns[i]) else decide (is.getD i 0 = 0) || !ns[i] := by
    unfold entryB
    simp only [e3]
  rw [hE]
  generalize ns[i] = nb at *
  clear hE e3
  rcases (by omega : T = 0 ∨ T = 1 ∨ T = 2 ∨ T = 3) with rfl | rfl | rfl | rfl
  · rw [if_pos rfl]
    clear h0 h4 h1 h3 j1 j2 j3 hi hn1 hn2 hn3
    go_enter Try.func60, Try.ntmps60
    go_wp2_with fail
    go_ret
    exact ⟨rfl, HG.out⟩
  · rw [if_neg (by decide), if_neg (by decide), if_pos rfl]
    have hi1 : i < is.length := by have := h1 (.inl rfl); omega
    obtain ⟨b, f, rfl, hck⟩ := (j1.grow HG.out).at_ hi1
    have e2 : is.getD i 0 = is[i] := by rw [List.getD_eq_getElem?_getD, List.getElem?_eq_getElem hi1]; rfl
    rw [e2]
    have hi4 : i < n1 := by omega
    generalize is[i] = m at *
    clear h0 h4 h1 h3 j1 j2 j3 hi hn1 hn2 hn3 e2
    by_cases m0 : m = 0
    · have d0 : (m == 0) = true := by simpa using m0
      subst m0
      go_enter Try.func60, Try.ntmps60
      go_wp2_with fail
      go_ret
      exact ⟨rfl, HG.out⟩
    · have d0 : (m == 0) = false := by simpa using m0
      have D0 := hidden (show decide (m = 0) = false by simpa using m0)
      rw [D0.out]
      by_cases m1 : m = 1
      · subst m1
        cases nb
        all_goals
          clear m0
          go_enter Try.func60, Try.ntmps60
          go_wp2_with fail
          go_ret
          exact ⟨rfl, HG.out⟩
      · have d1 : (m == 1) = false := by simpa using m1
        have D1 := hidden (show decide (m = 1) = false by simpa using m1)
        rw [D1.out]
        clear m0 m1
        go_enter Try.func60, Try.ntmps60
        go_wp2_with fail
        go_ret
        exact ⟨rfl, HG.out⟩
  · rw [if_neg (by decide), if_neg (by decide), if_neg (by decide)]
    have hi1 : i < is.length := by have := h1 (.inr rfl); omega
    obtain ⟨b, f, rfl, hck⟩ := (j1.grow HG.out).at_ hi1
    have e2 : is.getD i 0 = is[i] := by rw [List.getD_eq_getElem?_getD, List.getElem?_eq_getElem hi1]; rfl
    rw [e2]
    have hi4 : i < n1 := by omega
    generalize is[i] = m at *
    clear h0 h4 h1 h3 j1 j2 j3 hi hn1 hn2 hn3 e2
    by_cases m0 : m = 0
    · have d0 : (m == 0) = true := by simpa using m0
      subst m0
      go_enter Try.func60, Try.ntmps60
      go_wp2_with fail
      go_ret
      exact ⟨rfl, HG.out⟩
    · have d0 : (m == 0) = false := by simpa using m0
      have D0 := hidden (show decide (m = 0) = false by simpa using m0)
      rw [D0.out]
      clear m0
      cases nb
      all_goals
        go_enter Try.func60, Try.ntmps60
        go_wp2_with fail
        go_ret
        exact ⟨rfl, HG.out⟩
  · rw [if_neg (by decide), if_pos rfl]
    have hi2 : i < ts.length := by have := h3 rfl; omega
    obtain ⟨b, f, rfl, hck⟩ := (j2.grow HG.out).at_ hi2
    have e2 : ts.getD i [] = ts[i] := by rw [List.getD_eq_getElem?_getD, List.getElem?_eq_getElem hi2]; rfl
    rw [e2]
    have hi4 : i < n2 := by omega
    have h5 : ((strOf ts[i]).toList == []) = decide (ts[i] = []) := strOf_nil17 _
    have h6 : (strOf ts[i]).toList.isEmpty = decide (ts[i] = []) := strOf_nilE _
    have h7 : decide ((strOf ts[i]).size ≤ 4096) = decide (ts[i].length ≤ 4096) := by rw [strOf_size]
    generalize decide (ts[i].length ≤ 4096) = q1 at *
    generalize decide (ts[i] = []) = q2 at *
    generalize strOf ts[i] = s at *
    clear h0 h4 h1 h3 j1 j2 j3 hi hn1 hn2 hn3 e2
    have h8 : s.size ≤ 4096 ↔ q1 = true := by rw [← h7]; simp
    cases q1
    · have h9 : 4096 < s.size := by have := mt h8.1 (by simp); omega
      have hA : decide ((s.size : Int) ≤ 4096) = false := by simp; omega
      have hB : decide (s.size ≤ 4096) = false := by simp; omega
      clear h8 h7
      go_enter Try.func60, Try.ntmps60
      go_wp2_with fail
      go_ret
      exact ⟨rfl, HG.out⟩
    · have h9 : s.size ≤ 4096 := h8.2 rfl
      have hA : decide ((s.size : Int) ≤ 4096) = true := by simp; omega
      have hB : decide (s.size ≤ 4096) = true := by simp; omega
      clear h8 h7
      cases nb
      · go_enter Try.func60, Try.ntmps60
        go_wp2_with fail
        go_ret
        exact ⟨rfl, HG.out⟩
      · cases q2
        all_goals
          go_enter Try.func60, Try.ntmps60
          go_wp2_with fail
          go_ret
          exact ⟨rfl, HG.out⟩
end Go.Proofs.Ytfjhahhkakfhmaa
/-
  Shaken: what the claims of this seat need of this text. No condition.
-/
namespace Go.Proofs.Ytfjhahhkakfhmaa
set_option maxRecDepth 8000
open Go.RowKit
set_option linter.unusedVariables false
set_option linter.unusedSimpArgs false
theorem neq17F {n m : Nat} (h : n = m) : ((n : Int) != (m : Int)) = false ∧ (n == m) = true ∧ ((n : Int) == (m : Int)) = true := by subst h; simp
theorem neq17T {n m : Nat} (h : ¬ n = m) : ((n : Int) != (m : Int)) = true ∧ (n == m) = false ∧ ((n : Int) == (m : Int)) = false := by simp; omega
theorem neq17zF {n : Nat} (h : n = 0) : ((n : Int) != 0) = false ∧ (n == 0) = true ∧ ((n : Int) == 0) = true := by subst h; simp
theorem neq17zT {n : Nat} (h : ¬ n = 0) : ((n : Int) != 0) = true ∧ (n == 0) = false ∧ ((n : Int) == 0) = false := by simp; omega
def FitArg (v : Vec) : Prop := v.is.length ≤ 1000000000000000 ∧ v.ts.length ≤ 1000000000000000 ∧ v.ns.length ≤ 1000000000000000
def nIv (v : Vec) : Nat := if v.T = 1 ∨ v.T = 2 then v.ns.length else 0
def nTv (v : Vec) : Nat := if v.T = 3 then v.ns.length else 0
def entriesB (v : Vec) : Nat → Bool
  | 0 => true
  | j + 1 => entriesB v j && entryB v j
theorem entriesB_iff {v : Vec} : ∀ {m : Nat}, entriesB v m = true ↔ ∀ i, i < m → entryB v i = true
  | 0 => by simp [entriesB]
  | m + 1 => by
    rw [entriesB, Bool.and_eq_true, entriesB_iff]
    constructor
    · rintro ⟨h1, h2⟩ i hi
      by_cases e : i = m
      · rw [e]; exact h2
      · exact h1 i (by omega)
    · exact fun h => ⟨fun i hi => h i (by omega), h m (by omega)⟩
theorem entriesB_no {v : Vec} {j m : Nat} (hj : j < m) (h : entryB v j = false) : entriesB v m = false := by
  cases e : entriesB v m
  · rfl
  · rw [entriesB_iff.1 e j hj] at h; cases h
def validVB (v : Vec) : Bool := isTypeB v.T && (decide (v.is.length = nIv v) && decide (v.ts.length = nTv v)) && entriesB v v.ns.length
set_option maxHeartbeats 8000000 in
theorem rvalid17_any (x : Value) (v : Vec) (w : World) (hx : IsV w x v) (hl : FitArg v) :
    Calls Try.prog 20 #[x] w fun e w' => e = .returned (.bool (validVB v)) ∧ Grows w w' := by
  have HXV := hidden hx
  obtain ⟨T, is, ts, ns⟩ := v
  obtain ⟨a1, a2, a3, rfl, j1, j2, j3⟩ := hx
  dsimp only at *
  obtain ⟨A1, c1, rfl⟩ := j1.slice_
  obtain ⟨A2, c2, rfl⟩ := j2.slice_
  obtain ⟨A3, c3, rfl⟩ := j3.slice_
  obtain ⟨l1, l2, l3⟩ := hl
  dsimp only at l1 l2 l3
  clear j1 j2 j3
  obtain ⟨q, hq⟩ : ∃ q, validVB ⟨T, is, ts, ns⟩ = q := ⟨_, rfl⟩
  rw [hq]
  have HQ := hidden hq
  clear hq
  obtain ⟨W0, hW0⟩ : ∃ W0, W0 = w.alloc (.cells #[.int .i64 T, .slice A1 is.length c1, .slice A2 ts.length c2, .slice A3 ns.length c3] 29) := ⟨_, rfl⟩
  have HG0 := hidden (show Grows w W0 by rw [hW0]; exact grow1 _)
  have HR0 := hidden (show Row W0 w.heap.size 29 [.int .i64 T, .slice A1 is.length c1, .slice A2 ts.length c2, .slice A3 ns.length c3] by rw [hW0]; exact Row.new w 29 _ _ rfl)
  have HW0 := hidden hW0
  have HIT := hidden (fun W => rIsType_any T W)
  obtain ⟨b, hb⟩ : ∃ b, b = (decide (0 ≤ T) && decide (T ≤ 3)) := ⟨_, rfl⟩
  have HBT := hidden (show isTypeB T = b from hb.symm)
  rw [← hb] at HIT
  clear hW0
  cases b
  · have HE := hidden (show q = false by rw [← HQ.out]; unfold validVB; dsimp only; rw [HBT.out]; rfl)
    clear hb
    go_enter Try.func20, Try.ntmps20
    go_wp2_with (go_at_call 48; refine (HIT.out _).mono ?_; rintro e w2 ⟨rfl, rfl⟩)
    go_ret
    exact ⟨retB HE.out.symm, by rw [← HW0.out]; exact HG0.out⟩
  · have h03 : 0 ≤ T ∧ T ≤ 3 := by simpa using hb.symm
    clear hb
    have HSP := hidden (show entriesB ⟨T, is, ts, ns⟩ ns.length = true → is.length = nIv ⟨T, is, ts, ns⟩ → ts.length = nTv ⟨T, is, ts, ns⟩ → q = true from fun h1 h2 h3 => by rw [← HQ.out]; unfold validVB; dsimp only; rw [HBT.out, h1]; simp [h2, h3])
    have HSN := hidden (show entriesB ⟨T, is, ts, ns⟩ ns.length = false ∨ ¬ is.length = nIv ⟨T, is, ts, ns⟩ ∨ ¬ ts.length = nTv ⟨T, is, ts, ns⟩ → q = false from fun h => by rw [← HQ.out]; unfold validVB; dsimp only; rcases h with h | h | h <;> simp [h])
    clear HQ
    rcases (by omega : T = 0 ∨ T = 1 ∨ T = 2 ∨ T = 3) with rfl | rfl | rfl | rfl
    · have HI := hidden (show nIv ⟨0, is, ts, ns⟩ = 0 from if_neg (by simp))
      have HT := hidden (show nTv ⟨0, is, ts, ns⟩ = 0 from if_neg (by simp))
      clear h03
      by_cases hi : is.length = 0
      · by_cases ht : ts.length = 0
        · skip
          obtain ⟨z1i, z2i, z3i⟩ := neq17zF hi
          obtain ⟨z1t, z2t, z3t⟩ := neq17zF ht
          have HH := hidden (And.intro hi ht)
          clear hi ht
          go_enter Try.func20, Try.ntmps20
          go_wp2_with (go_at_call 48; refine (HIT.out _).mono ?_; rintro e w2 ⟨rfl, rfl⟩)
          rw [← HW0.out]
          go_loopw [5] (fun i wr => ∃ j : Nat, j ≤ ns.length ∧ i = .int .i64 (j : Int) ∧ entriesB ⟨0, is, ts, ns⟩ j = true ∧ Grows W0 wr) (fun i _ => ns.length - (intOf i).toNat)
          case atStart => exact ⟨0, Nat.zero_le _, rfl, rfl, Below.refl _ _⟩
          case round =>
            obtain ⟨k, hk, rfl, hen, hb⟩ := hrel
            have HB := hidden hb
            have HEN := hidden hen
            clear hb hen z1i z2i z3i z1t z2t z3t
            have q0 := (HR0.out.grow HB.out).cell 0
            have q1 := (HR0.out.grow HB.out).cell 1
            have q2 := (HR0.out.grow HB.out).cell 2
            have q3 := (HR0.out.grow HB.out).cell 3
            simp only [List.getElem?_cons_succ, List.getElem?_cons_zero] at q0 q1 q2 q3
            by_cases hlt : k < ns.length
            · have hd : decide (k < ns.length) = true := by simpa using hlt
              have hk0 : (0 : Int) ≤ (k : Int) := by omega
              have hk1 : (k : Int) < (ns.length : Int) := by omega
              have HLT := hidden hlt
              have HC := hidden (rentry_any _ ⟨0, is, ts, ns⟩ k wr (HXV.out.grow (HG0.out.of_below HB.out)) hlt (by simp) (by simp) (fun h => by simp at h) (fun h => by simp at h))
              obtain ⟨f, hf⟩ : ∃ f, f = entryB ⟨0, is, ts, ns⟩ k := ⟨_, rfl⟩
              rw [← hf] at HC
              have HF := hidden hf.symm
              clear hlt hf
              cases f
              · have HE := hidden (HSN.out (.inl (entriesB_no HLT.out HF.out)))
                go_wp2_with (go_at_call 60; refine HC.out.mono ?_; rintro e w2 ⟨rfl, g2⟩; have HG2 := hidden (HB.out.of_below g2); clear g2 q0 q1 q2 q3)
                go_ret
                exact ⟨retB HE.out.symm, HG0.out.of_below HG2.out⟩
              · go_wp2_with (go_at_call 60; refine HC.out.mono ?_; rintro e w2 ⟨rfl, g2⟩; have HG2 := hidden (HB.out.of_below g2); clear g2 q0 q1 q2 q3)
                go_roundw
                case rel => exact ⟨k + 1, HLT.out, by go_num, by rw [entriesB, HEN.out, HF.out]; rfl, HG2.out⟩
                case measure => have := HLT.out; simp [intOf]; omega
            · have hke : k = ns.length := by omega
              have hd : decide (k < ns.length) = false := by simpa using hlt
              have HE := hidden (HSP.out (by rw [← hke]; exact HEN.out) (HH.out.1.trans HI.out.symm) (HH.out.2.trans HT.out.symm))
              subst hke
              clear hlt
              go_wp2_with fail
              go_ret
              exact ⟨retB HE.out.symm, HG0.out.of_below HB.out⟩
        · have HE := hidden (HSN.out (.inr (.inr (by rw [HT.out]; exact ht))))
          obtain ⟨z1i, z2i, z3i⟩ := neq17zF hi
          obtain ⟨z1t, z2t, z3t⟩ := neq17zT ht
          clear hi ht
          go_enter Try.func20, Try.ntmps20
          go_wp2_with (go_at_call 48; refine (HIT.out _).mono ?_; rintro e w2 ⟨rfl, rfl⟩)
          go_ret
          exact ⟨retB HE.out.symm, by rw [← HW0.out]; exact HG0.out⟩
      · have HE := hidden (HSN.out (.inr (.inl (by rw [HI.out]; exact hi))))
        obtain ⟨z1i, z2i, z3i⟩ := neq17zT hi
        clear hi
        go_enter Try.func20, Try.ntmps20
        go_wp2_with (go_at_call 48; refine (HIT.out _).mono ?_; rintro e w2 ⟨rfl, rfl⟩)
        go_ret
        exact ⟨retB HE.out.symm, by rw [← HW0.out]; exact HG0.out⟩
    · have HI := hidden (show nIv ⟨1, is, ts, ns⟩ = ns.length from if_pos (by simp))
      have HT := hidden (show nTv ⟨1, is, ts, ns⟩ = 0 from if_neg (by simp))
      clear h03
      by_cases hi : is.length = ns.length
      · by_cases ht : ts.length = 0
        · skip
          obtain ⟨z1i, z2i, z3i⟩ := neq17F hi
          obtain ⟨z1t, z2t, z3t⟩ := neq17zF ht
          have HH := hidden (And.intro hi ht)
          clear hi ht
          go_enter Try.func20, Try.ntmps20
          go_wp2_with (go_at_call 48; refine (HIT.out _).mono ?_; rintro e w2 ⟨rfl, rfl⟩)
          rw [← HW0.out]
          go_loopw [5] (fun i wr => ∃ j : Nat, j ≤ ns.length ∧ i = .int .i64 (j : Int) ∧ entriesB ⟨1, is, ts, ns⟩ j = true ∧ Grows W0 wr) (fun i _ => ns.length - (intOf i).toNat)
          case atStart => exact ⟨0, Nat.zero_le _, rfl, rfl, Below.refl _ _⟩
          case round =>
            obtain ⟨k, hk, rfl, hen, hb⟩ := hrel
            have HB := hidden hb
            have HEN := hidden hen
            clear hb hen z1i z2i z3i z1t z2t z3t
            have q0 := (HR0.out.grow HB.out).cell 0
            have q1 := (HR0.out.grow HB.out).cell 1
            have q2 := (HR0.out.grow HB.out).cell 2
            have q3 := (HR0.out.grow HB.out).cell 3
            simp only [List.getElem?_cons_succ, List.getElem?_cons_zero] at q0 q1 q2 q3
            by_cases hlt : k < ns.length
            · have hd : decide (k < ns.length) = true := by simpa using hlt
              have hk0 : (0 : Int) ≤ (k : Int) := by omega
              have hk1 : (k : Int) < (ns.length : Int) := by omega
              have HLT := hidden hlt
              have HC := hidden (rentry_any _ ⟨1, is, ts, ns⟩ k wr (HXV.out.grow (HG0.out.of_below HB.out)) hlt (by simp) (by simp) (fun h => by have := HH.out.1; exact this) (fun h => by simp at h))
              obtain ⟨f, hf⟩ : ∃ f, f = entryB ⟨1, is, ts, ns⟩ k := ⟨_, rfl⟩
              rw [← hf] at HC
              have HF := hidden hf.symm
              clear hlt hf
              cases f
              · have HE := hidden (HSN.out (.inl (entriesB_no HLT.out HF.out)))
                go_wp2_with (go_at_call 60; refine HC.out.mono ?_; rintro e w2 ⟨rfl, g2⟩; have HG2 := hidden (HB.out.of_below g2); clear g2 q0 q1 q2 q3)
                go_ret
                exact ⟨retB HE.out.symm, HG0.out.of_below HG2.out⟩
              · go_wp2_with (go_at_call 60; refine HC.out.mono ?_; rintro e w2 ⟨rfl, g2⟩; have HG2 := hidden (HB.out.of_below g2); clear g2 q0 q1 q2 q3)
                go_roundw
                case rel => exact ⟨k + 1, HLT.out, by go_num, by rw [entriesB, HEN.out, HF.out]; rfl, HG2.out⟩
                case measure => have := HLT.out; simp [intOf]; omega
            · have hke : k = ns.length := by omega
              have hd : decide (k < ns.length) = false := by simpa using hlt
              have HE := hidden (HSP.out (by rw [← hke]; exact HEN.out) (HH.out.1.trans HI.out.symm) (HH.out.2.trans HT.out.symm))
              subst hke
              clear hlt
              go_wp2_with fail
              go_ret
              exact ⟨retB HE.out.symm, HG0.out.of_below HB.out⟩
        · have HE := hidden (HSN.out (.inr (.inr (by rw [HT.out]; exact ht))))
          obtain ⟨z1i, z2i, z3i⟩ := neq17F hi
          obtain ⟨z1t, z2t, z3t⟩ := neq17zT ht
          clear hi ht
          go_enter Try.func20, Try.ntmps20
          go_wp2_with (go_at_call 48; refine (HIT.out _).mono ?_; rintro e w2 ⟨rfl, rfl⟩)
          go_ret
          exact ⟨retB HE.out.symm, by rw [← HW0.out]; exact HG0.out⟩
      · have HE := hidden (HSN.out (.inr (.inl (by rw [HI.out]; exact hi))))
        obtain ⟨z1i, z2i, z3i⟩ := neq17T hi
        clear hi
        go_enter Try.func20, Try.ntmps20
        go_wp2_with (go_at_call 48; refine (HIT.out _).mono ?_; rintro e w2 ⟨rfl, rfl⟩)
        go_ret
        exact ⟨retB HE.out.symm, by rw [← HW0.out]; exact HG0.out⟩
    · have HI := hidden (show nIv ⟨2, is, ts, ns⟩ = ns.length from if_pos (by simp))
      have HT := hidden (show nTv ⟨2, is, ts, ns⟩ = 0 from if_neg (by simp))
      clear h03
      by_cases hi : is.length = ns.length
      · by_cases ht : ts.length = 0
        · skip
          obtain ⟨z1i, z2i, z3i⟩ := neq17F hi
          obtain ⟨z1t, z2t, z3t⟩ := neq17zF ht
          have HH := hidden (And.intro hi ht)
          clear hi ht
          go_enter Try.func20, Try.ntmps20
          go_wp2_with (go_at_call 48; refine (HIT.out _).mono ?_; rintro e w2 ⟨rfl, rfl⟩)
          rw [← HW0.out]
          go_loopw [5] (fun i wr => ∃ j : Nat, j ≤ ns.length ∧ i = .int .i64 (j : Int) ∧ entriesB ⟨2, is, ts, ns⟩ j = true ∧ Grows W0 wr) (fun i _ => ns.length - (intOf i).toNat)
          case atStart => exact ⟨0, Nat.zero_le _, rfl, rfl, Below.refl _ _⟩
          case round =>
            obtain ⟨k, hk, rfl, hen, hb⟩ := hrel
            have HB := hidden hb
            have HEN := hidden hen
            clear hb hen z1i z2i z3i z1t z2t z3t
            have q0 := (HR0.out.grow HB.out).cell 0
            have q1 := (HR0.out.grow HB.out).cell 1
            have q2 := (HR0.out.grow HB.out).cell 2
            have q3 := (HR0.out.grow HB.out).cell 3
            simp only [List.getElem?_cons_succ, List.getElem?_cons_zero] at q0 q1 q2 q3
            by_cases hlt : k < ns.length
            · have hd : decide (k < ns.length) = true := by simpa using hlt
              have hk0 : (0 : Int) ≤ (k : Int) := by omega
              have hk1 : (k : Int) < (ns.length : Int) := by omega
              have HLT := hidden hlt
              have HC := hidden (rentry_any _ ⟨2, is, ts, ns⟩ k wr (HXV.out.grow (HG0.out.of_below HB.out)) hlt (by simp) (by simp) (fun h => by have := HH.out.1; exact this) (fun h => by simp at h))
              obtain ⟨f, hf⟩ : ∃ f, f = entryB ⟨2, is, ts, ns⟩ k := ⟨_, rfl⟩
              rw [← hf] at HC
              have HF := hidden hf.symm
              clear hlt hf
              cases f
              · have HE := hidden (HSN.out (.inl (entriesB_no HLT.out HF.out)))
                go_wp2_with (go_at_call 60; refine HC.out.mono ?_; rintro e w2 ⟨rfl, g2⟩; have HG2 := hidden (HB.out.of_below g2); clear g2 q0 q1 q2 q3)
                go_ret
                exact ⟨retB HE.out.symm, HG0.out.of_below HG2.out⟩
              · go_wp2_with (go_at_call 60; refine HC.out.mono ?_; rintro e w2 ⟨rfl, g2⟩; have HG2 := hidden (HB.out.of_below g2); clear g2 q0 q1 q2 q3)
                go_roundw
                case rel => exact ⟨k + 1, HLT.out, by go_num, by rw [entriesB, HEN.out, HF.out]; rfl, HG2.out⟩
                case measure => have := HLT.out; simp [intOf]; omega
            · have hke : k = ns.length := by omega
              have hd : decide (k < ns.length) = false := by simpa using hlt
              have HE := hidden (HSP.out (by rw [← hke]; exact HEN.out) (HH.out.1.trans HI.out.symm) (HH.out.2.trans HT.out.symm))
              subst hke
              clear hlt
              go_wp2_with fail
              go_ret
              exact ⟨retB HE.out.symm, HG0.out.of_below HB.out⟩
        · have HE := hidden (HSN.out (.inr (.inr (by rw [HT.out]; exact ht))))
          obtain ⟨z1i, z2i, z3i⟩ := neq17F hi
          obtain ⟨z1t, z2t, z3t⟩ := neq17zT ht
          clear hi ht
          go_enter Try.func20, Try.ntmps20
          go_wp2_with (go_at_call 48; refine (HIT.out _).mono ?_; rintro e w2 ⟨rfl, rfl⟩)
          go_ret
          exact ⟨retB HE.out.symm, by rw [← HW0.out]; exact HG0.out⟩
      · have HE := hidden (HSN.out (.inr (.inl (by rw [HI.out]; exact hi))))
        obtain ⟨z1i, z2i, z3i⟩ := neq17T hi
        clear hi
        go_enter Try.func20, Try.ntmps20
        go_wp2_with (go_at_call 48; refine (HIT.out _).mono ?_; rintro e w2 ⟨rfl, rfl⟩)
        go_ret
        exact ⟨retB HE.out.symm, by rw [← HW0.out]; exact HG0.out⟩
    · have HI := hidden (show nIv ⟨3, is, ts, ns⟩ = 0 from if_neg (by simp))
      have HT := hidden (show nTv ⟨3, is, ts, ns⟩ = ns.length from if_pos rfl)
      clear h03
      by_cases hi : is.length = 0
      · by_cases ht : ts.length = ns.length
        · skip
          obtain ⟨z1i, z2i, z3i⟩ := neq17zF hi
          obtain ⟨z1t, z2t, z3t⟩ := neq17F ht
          have HH := hidden (And.intro hi ht)
          clear hi ht
          go_enter Try.func20, Try.ntmps20
          go_wp2_with (go_at_call 48; refine (HIT.out _).mono ?_; rintro e w2 ⟨rfl, rfl⟩)
          rw [← HW0.out]
          go_loopw [5] (fun i wr => ∃ j : Nat, j ≤ ns.length ∧ i = .int .i64 (j : Int) ∧ entriesB ⟨3, is, ts, ns⟩ j = true ∧ Grows W0 wr) (fun i _ => ns.length - (intOf i).toNat)
          case atStart => exact ⟨0, Nat.zero_le _, rfl, rfl, Below.refl _ _⟩
          case round =>
            obtain ⟨k, hk, rfl, hen, hb⟩ := hrel
            have HB := hidden hb
            have HEN := hidden hen
            clear hb hen z1i z2i z3i z1t z2t z3t
            have q0 := (HR0.out.grow HB.out).cell 0
            have q1 := (HR0.out.grow HB.out).cell 1
            have q2 := (HR0.out.grow HB.out).cell 2
            have q3 := (HR0.out.grow HB.out).cell 3
            simp only [List.getElem?_cons_succ, List.getElem?_cons_zero] at q0 q1 q2 q3
            by_cases hlt : k < ns.length
            · have hd : decide (k < ns.length) = true := by simpa using hlt
              have hk0 : (0 : Int) ≤ (k : Int) := by omega
              have hk1 : (k : Int) < (ns.length : Int) := by omega
              have HLT := hidden hlt
              have HC := hidden (rentry_any _ ⟨3, is, ts, ns⟩ k wr (HXV.out.grow (HG0.out.of_below HB.out)) hlt (by simp) (by simp) (fun h => by simp at h) (fun h => by have := HH.out.2; exact this))
              obtain ⟨f, hf⟩ : ∃ f, f = entryB ⟨3, is, ts, ns⟩ k := ⟨_, rfl⟩
              rw [← hf] at HC
              have HF := hidden hf.symm
              clear hlt hf
              cases f
              · have HE := hidden (HSN.out (.inl (entriesB_no HLT.out HF.out)))
                go_wp2_with (go_at_call 60; refine HC.out.mono ?_; rintro e w2 ⟨rfl, g2⟩; have HG2 := hidden (HB.out.of_below g2); clear g2 q0 q1 q2 q3)
                go_ret
                exact ⟨retB HE.out.symm, HG0.out.of_below HG2.out⟩
              · go_wp2_with (go_at_call 60; refine HC.out.mono ?_; rintro e w2 ⟨rfl, g2⟩; have HG2 := hidden (HB.out.of_below g2); clear g2 q0 q1 q2 q3)
                go_roundw
                case rel => exact ⟨k + 1, HLT.out, by go_num, by rw [entriesB, HEN.out, HF.out]; rfl, HG2.out⟩
                case measure => have := HLT.out; simp [intOf]; omega
            · have hke : k = ns.length := by omega
              have hd : decide (k < ns.length) = false := by simpa using hlt
              have HE := hidden (HSP.out (by rw [← hke]; exact HEN.out) (HH.out.1.trans HI.out.symm) (HH.out.2.trans HT.out.symm))
              subst hke
              clear hlt
              go_wp2_with fail
              go_ret
              exact ⟨retB HE.out.symm, HG0.out.of_below HB.out⟩
        · have HE := hidden (HSN.out (.inr (.inr (by rw [HT.out]; exact ht))))
          obtain ⟨z1i, z2i, z3i⟩ := neq17zF hi
          obtain ⟨z1t, z2t, z3t⟩ := neq17T ht
          clear hi ht
          go_enter Try.func20, Try.ntmps20
          go_wp2_with (go_at_call 48; refine (HIT.out _).mono ?_; rintro e w2 ⟨rfl, rfl⟩)
          go_ret
          exact ⟨retB HE.out.symm, by rw [← HW0.out]; exact HG0.out⟩
      · have HE := hidden (HSN.out (.inr (.inl (by rw [HI.out]; exact hi))))
        obtain ⟨z1i, z2i, z3i⟩ := neq17zT hi
        clear hi
        go_enter Try.func20, Try.ntmps20
        go_wp2_with (go_at_call 48; refine (HIT.out _).mono ?_; rintro e w2 ⟨rfl, rfl⟩)
        go_ret
        exact ⟨retB HE.out.symm, by rw [← HW0.out]; exact HG0.out⟩
end Go.Proofs.Ytfjhahhkakfhmaa
/-
  Shaken: what the claims of this seat need of this text. No condition.
-/
namespace Go.Proofs.Ytfjhahhkakfhmaa
set_option maxRecDepth 8000
open Go.RowKit
set_option linter.unusedVariables false
set_option linter.unusedSimpArgs false
structure Bat where
  cs : List Vec
  len : Int
  all : Bool
  sel : List Int
def IsB (w : World) (x : Value) (B : Bat) : Prop := ∃ p q, x = .agg #[p, .int .i64 B.len, .bool B.all, q] ∧ IsVs w p B.cs ∧ IsI w q B.sel
theorem IsB.grow {w w' : World} {x : Value} {B : Bat} (h : IsB w x B) (hg : Grows w w') : IsB w' x B := by
  obtain ⟨p, q, e, h1, h2⟩ := h
  exact ⟨p, q, e, h1.grow hg, h2.grow hg⟩
def OkB (B : Bat) : Prop := B.cs.length ≤ 1000 ∧ B.sel.length ≤ 1000000 ∧ B.len ≤ 1000000 ∧ ∀ v ∈ B.cs, OkAt v ∧ v.ns.length ≤ 1000000
def rowV (B : Bat) (i : Int) : List Val := B.cs.map (fun v => atI v i)
theorem sizeB : (Try.prog.info? 45).map (·.size) = some 4 := by kernel_rfl
theorem wpList_load_bat {wr : World} {ops : Array Oper} {rest : List Oper} {o : Oper} {a : Act} {Q : Exit → Act → World → Prop} (hgd : o.guard = none) (x : Operand) (ho : o.op = .load 45 x)
    (g : Nat) (hx : a.eval x = .pointer (some ⟨g, 0, none⟩)) (p q r s : Value) (hg : Row wr g 45 [p, q, r, s])
    (h : wpList Try.prog ops Q rest (a.put o.dst (.agg #[p, q, r, s])) wr) : wpList Try.prog ops Q (o :: rest) a wr :=
  wpList_load_row hgd _ x ho g hx _ _ _ _ hg Try.underlying45 rfl sizeB h
theorem wpList_append_vr {wr : World} {ops : Array Oper} {rest : List Oper} {o : Oper} {a : Act} {Q : Exit → Act → World → Prop} (hgd : o.guard = none) (s x : Operand)
    (ho : o.op = .call { callee := .builtin .append, args := #[s, x], argTypes := #[65, 65] })
    (v : Value) (pre : List Val) (hs : a.eval s = v) (base : Nat) (hown : wr.ownsRow base 37 3 v pre.length (vcells pre)) (w0 : World) (hb : Below base w0 wr) (hbase : base ≤ wr.heap.size)
    (k n : Int) (t : ByteArray) (hx : a.eval x = .slice (some ⟨wr.heap.size, 0, none⟩) 1 1) (hlen : pre.length + 1 ≤ 1000000000000)
    (h : ∀ v' w', w'.ownsRow base 37 3 v' (pre ++ [(⟨k, n, t⟩ : Val)]).length (vcells (pre ++ [(⟨k, n, t⟩ : Val)])) → Below base w0 w' → wpList Try.prog ops Q rest (a.put o.dst v') w') :
    wpList Try.prog ops Q (o :: rest) a (wr.alloc (.cells #[.int .i64 k, .int .i64 n, .string t] 37)) := by
  obtain ⟨i0, hi, hz0, hz1, hz2⟩ := info_parts info_valT
  refine wpList_append_own _ hgd s x 65 ho base 37 i0 (.agg #[.int .i64 0, .int .i64 0, .string ⟨#[]⟩]) 3 32 Try.underlying65 hi hz0 hz1 hz2 rfl (by decide) v pre.length (vcells pre) hs (hown.alloc _) ⟨wr.heap.size, 0, none⟩ 1 1 [.int .i64 k, .int .i64 n, .string t] hx rfl ?_ ?_ ?_ ?_ ?_ ?_
  · intro j u hj
    match j, hj with
    | 0, hj => simp at hj; subst hj; simp [Addr.add]
    | 1, hj => simp at hj; subst hj; simp [Addr.add]
    | 2, hj => simp at hj; subst hj; simp [Addr.add]
  · intro u hu
    simp at hu
    rcases hu with rfl | rfl | rfl <;> rfl
  · unfold maxLen; omega
  · omega
  · simp; omega
  · intro v' w' h1 h2 _
    have e : vcells pre ++ [.int .i64 k, .int .i64 n, .string t] = vcells (pre ++ [(⟨k, n, t⟩ : Val)]) := by rw [vcells_append]; rfl
    rw [e, show pre.length + 1 = (pre ++ [(⟨k, n, t⟩ : Val)]).length by simp] at h1
    exact h v' w' h1 ((hb.alloc hbase _).grown h2 (by simp; omega) (fun k hk => (hown.lt k hk).1))
def RwRel (B : Bat) (i : Int) (W0 : World) (out j : Value) (wr : World) : Prop :=
  ∃ k : Nat, k ≤ B.cs.length ∧ j = .int .i64 (k : Int) ∧ wr.ownsRow W0.heap.size 37 3 out ((B.cs.take k).map (fun v => atI v i)).length (vcells ((B.cs.take k).map (fun v => atI v i))) ∧ Grows W0 wr
set_option maxHeartbeats 4000000 in
theorem rrow_any (x : Value) (B : Bat) (i : Int) (w : World) (hx : IsB w x B) (hok : OkB B) :
    Calls Try.prog 67 #[x, .int .i64 i] w (OwnVals (rowV B i) w) := by
  obtain ⟨p, q, rfl, hp, hq⟩ := hx
  have HP := hidden hp
  obtain ⟨A, c, rfl⟩ := hp.slice_
  obtain ⟨E, d, rfl⟩ := hq.slice_
  clear hp hq
  have HOK := hidden hok
  clear hok
  obtain ⟨n, hn⟩ : ∃ n, B.cs.length = n := ⟨_, rfl⟩
  obtain ⟨m, hm⟩ : ∃ m, B.sel.length = m := ⟨_, rfl⟩
  rw [hn] at HP ⊢
  rw [hm]
  have HN := hidden hn
  have HNB := hidden (show n ≤ 1000 by rw [← hn]; exact HOK.out.1)
  clear hn hm
  obtain ⟨W0, hW0⟩ : ∃ W0, W0 = w.alloc (.cells #[.slice A n c, .int .i64 B.len, .bool B.all, .slice E m d] 45) := ⟨_, rfl⟩
  have HG0 := hidden (show Grows w W0 by rw [hW0]; exact grow1 _)
  have HR0 := hidden (show Row W0 w.heap.size 45 [.slice A n c, .int .i64 B.len, .bool B.all, .slice E m d] by rw [hW0]; exact Row.new w 45 _ _ rfl)
  have HW0 := hidden hW0.symm
  clear hW0
  go_enter Try.func67, Try.ntmps67
  go_wp2_with fail
  rw [HW0.out]
  go_loopw [5, 6] (fun out j wr => RwRel B i W0 out j wr) (fun _ j _ => n - (intOf j).toNat)
  case atStart => exact ⟨0, Nat.zero_le _, rfl, World.ownsRow_nil _ _ _ _, Below.refl _ _⟩
  case round =>
    obtain ⟨k, hk, rfl, hown, hb⟩ := hrel
    rw [HN.out] at hk
    have HB := hidden hb
    have HO := hidden hown
    have HGW := hidden (HG0.out.of_below hb)
    have HRW := hidden (Row.grow HR0.out hb)
    clear hb hown
    have t0 := HRW.out.cell 0
    simp only [List.getElem?_cons_succ, List.getElem?_cons_zero] at t0
    by_cases hlt : k < n
    · have hkl : k < B.cs.length := by rw [HN.out]; exact hlt
      obtain ⟨b0, off, A1, c1, A2, c2, A3, c3, rfl, hcc⟩ := HP.out.at_ hkl
      have ey : ∃ v : Vec, (∀ W, Grows w W → W.cell? ⟨b0, off + k * 4, none⟩ = some (.int .i64 v.T) ∧ W.cell? ⟨b0, off + k * 4 + 1, none⟩ = some (.slice A1 v.is.length c1) ∧ W.cell? ⟨b0, off + k * 4 + 2, none⟩ = some (.slice A2 v.ts.length c2) ∧ W.cell? ⟨b0, off + k * 4 + 3, none⟩ = some (.slice A3 v.ns.length c3) ∧ IsV W (.agg #[.int .i64 v.T, .slice A1 v.is.length c1, .slice A2 v.ts.length c2, .slice A3 v.ns.length c3]) v) ∧ v ∈ B.cs ∧ B.cs.take (k + 1) = B.cs.take k ++ [v] :=
        ⟨_, hcc, List.getElem_mem _, by rw [List.take_add_one, List.getElem?_eq_getElem hkl]; rfl⟩
      obtain ⟨v, hc, hmem, htk⟩ := ey
      have HTK := hidden (show (B.cs.take (k + 1)).map (fun v => atI v i) = (B.cs.take k).map (fun v => atI v i) ++ [atI v i] by rw [htk, List.map_append]; rfl)
      obtain ⟨v0, v1, v2, v3, hiv⟩ := hc wr HGW.out
      have HA := hidden (rat17_any _ v i wr hiv (by have := (HOK.out.2.2.2 v hmem).2; omega) (HOK.out.2.2.2 v hmem).1)
      have hd : decide (k < n) = true := by simpa using hlt
      have hk0 : (0 : Int) ≤ (k : Int) := by omega
      have hk1 : (k : Int) < (n : Int) := by omega
      have HLN := hidden (show ((B.cs.take k).map (fun v => atI v i)).length + 1 ≤ 1000000000000 by rw [List.length_map, List.length_take]; have := HNB.out; omega)
      have hmm : n - (k + 1) < n - k := by omega
      have HK1 := hidden (show k + 1 ≤ B.cs.length by omega)
      have hnb := HNB.out
      have eu : ∃ u, u = atI v i := ⟨_, rfl⟩
      obtain ⟨u, hu⟩ := eu
      rw [← hu] at HA HTK
      clear hu hkl hcc hc hmem htk hiv
      go_wp2_with fail
      refine (HA.out).mono ?_
      rintro e w2 ⟨rfl, g2⟩
      have HB2 := hidden (HB.out.of_below g2)
      have HO2 := hidden (ownsRow_grow HO.out g2)
      have hsz : W0.heap.size ≤ w2.heap.size := HB2.out.size
      clear g2 t0 v0 v1 v2 v3
      go_wp2_with ((at_builtin; go_loud (refine wpList_append_vr rfl _ _ rfl _ ((B.cs.take k).map (fun v => atI v i)) (by rfl) W0.heap.size HO2.out W0 HB2.out hsz u.k u.n u.t (by rfl) HLN.out ?_); intro v' w3 hown3 hb3))
      go_roundw
      case rel => exact ⟨k + 1, HK1.out, by go_num, by rw [HTK.out]; exact hown3, hb3⟩
      case measure => simpa [intOf] using hmm
    · have hke : k = n := by omega
      have hd : decide (k < n) = false := by simpa using hlt
      have HE := hidden (show (B.cs.take k).map (fun v => atI v i) = rowV B i by rw [hke, ← HN.out, List.take_length]; rfl)
      clear hlt hke hk
      go_wp2_with fail
      go_ret
      rw [← HE.out]
      exact ⟨_, rfl, ownsRow_base HO.out HG0.out.size, HGW.out⟩
def OwnInts (l : List Int) (w : World) (e : Ending) (w' : World) : Prop := ∃ v, e = .returned v ∧ w'.ownsRow w.heap.size 3 1 v l.length (icells l) ∧ Grows w w'
def typesB (B : Bat) : List Int := B.cs.map (·.T)
def TyRel (B : Bat) (W0 : World) (out j : Value) (wr : World) : Prop :=
  ∃ k : Nat, k ≤ B.cs.length ∧ j = .int .i64 (k : Int) ∧ wr.ownsRow W0.heap.size 3 1 out ((B.cs.take k).map (·.T)).length (icells ((B.cs.take k).map (·.T))) ∧ Grows W0 wr
theorem infoN17 : (Try.prog.info? 3).map (fun i => (i.zero, i.size, i.bytes)) = some (some (.int .i64 0), 1, 8) := by kernel_rfl
set_option maxHeartbeats 4000000 in
theorem rtypes_any (x : Value) (B : Bat) (w : World) (hx : IsB w x B) (hok : OkB B) :
    Calls Try.prog 35 #[x] w (OwnInts (typesB B) w) := by
  obtain ⟨p, q, rfl, hp, hq⟩ := hx
  have HP := hidden hp
  obtain ⟨A, c, rfl⟩ := hp.slice_
  obtain ⟨E, d, rfl⟩ := hq.slice_
  clear hp hq
  obtain ⟨n, hn⟩ : ∃ n, B.cs.length = n := ⟨_, rfl⟩
  obtain ⟨m, hm⟩ : ∃ m, B.sel.length = m := ⟨_, rfl⟩
  have HNB := hidden (show n ≤ 1000 by rw [← hn]; exact hok.1)
  rw [hn] at HP ⊢
  rw [hm]
  have HN := hidden hn
  clear hn hm hok
  obtain ⟨W0, hW0⟩ : ∃ W0, W0 = w.alloc (.cells #[.slice A n c, .int .i64 B.len, .bool B.all, .slice E m d] 45) := ⟨_, rfl⟩
  have HG0 := hidden (show Grows w W0 by rw [hW0]; exact grow1 _)
  have HR0 := hidden (show Row W0 w.heap.size 45 [.slice A n c, .int .i64 B.len, .bool B.all, .slice E m d] by rw [hW0]; exact Row.new w 45 _ _ rfl)
  have HW0 := hidden hW0.symm
  clear hW0
  go_enter Try.func35, Try.ntmps35
  go_wp2_with fail
  rw [HW0.out]
  go_loopw [3, 4] (fun out j wr => TyRel B W0 out j wr) (fun _ j _ => n - (intOf j).toNat)
  case atStart => exact ⟨0, Nat.zero_le _, rfl, World.ownsRow_nil _ _ _ _, Below.refl _ _⟩
  case round =>
    obtain ⟨k, hk, rfl, hown, hb⟩ := hrel
    rw [HN.out] at hk
    have HB := hidden hb
    have HO := hidden hown
    have HGW := hidden (HG0.out.of_below hb)
    have HRW := hidden (Row.grow HR0.out hb)
    clear hb hown
    have t0 := HRW.out.cell 0
    simp only [List.getElem?_cons_succ, List.getElem?_cons_zero] at t0
    by_cases hlt : k < n
    · have hkl : k < B.cs.length := by rw [HN.out]; exact hlt
      obtain ⟨b0, off, A1, c1, A2, c2, A3, c3, rfl, hcc⟩ := HP.out.at_ hkl
      have ey : ∃ v : Vec, wr.cell? ⟨b0, off + k * 4, none⟩ = some (.int .i64 v.T) ∧ B.cs.take (k + 1) = B.cs.take k ++ [v] :=
        ⟨_, (hcc wr HGW.out).1, by rw [List.take_add_one, List.getElem?_eq_getElem hkl]; rfl⟩
      obtain ⟨v, v0, htk⟩ := ey
      have HTK := hidden (show (B.cs.take (k + 1)).map (·.T) = (B.cs.take k).map (·.T) ++ [v.T] by rw [htk, List.map_append]; rfl)
      have hd : decide (k < n) = true := by simpa using hlt
      have hk0 : (0 : Int) ≤ (k : Int) := by omega
      have hk1 : (k : Int) < (n : Int) := by omega
      have HLN := hidden (show ((B.cs.take k).map (·.T)).length + 1 ≤ 1000000 by rw [List.length_map, List.length_take]; have := HNB.out; omega)
      have hmm : n - (k + 1) < n - k := by omega
      have HK1 := hidden (show k + 1 ≤ B.cs.length by omega)
      have hnb := HNB.out
      have hsz : W0.heap.size ≤ wr.heap.size := HB.out.size
      clear hkl hcc htk
      go_wp2_with ((at_builtin; go_loud (refine wpList_append_c rfl _ _ 43 rfl 3 (.int .i64 0) 8 Try.underlying43 infoN17 rfl _ (icells ((B.cs.take k).map (·.T))) (by rfl) W0.heap.size _ HO.out hsz (.int .i64 v.T) rfl _ (by rfl) (by simp) (by have := HLN.out; omega) (by have := HLN.out; omega) ?_); intro v' w3 hown3 hon3 hbk3; have HO3 := hidden hown3; have HG3 := hidden (hon3.below HB.out (fun i hi => (HO.out.lt i hi).1)); clear hown3 hon3 hbk3))
      go_roundw
      case rel => exact ⟨k + 1, HK1.out, by go_num, by rw [HTK.out, icells_snoc, List.length_append]; exact HO3.out, HG3.out⟩
      case measure => simpa [intOf] using hmm
    · have hke : k = n := by omega
      have hd : decide (k < n) = false := by simpa using hlt
      have HE := hidden (show (B.cs.take k).map (·.T) = typesB B by rw [hke, ← HN.out, List.take_length]; rfl)
      clear hlt hke hk
      go_wp2_with fail
      go_ret
      rw [← HE.out]
      exact ⟨_, rfl, ownsRow_base HO.out HG0.out.size, HGW.out⟩
end Go.Proofs.Ytfjhahhkakfhmaa
/-
  Shaken: what the claims of this seat need of this text. No condition.
-/
namespace Go.Proofs.Ytfjhahhkakfhmaa
set_option maxRecDepth 8000
open Go.RowKit
set_option linter.unusedVariables false
set_option linter.unusedSimpArgs false
theorem ownsRow_slice {w : World} {base : Nat} {e : TypeId} {size : Nat} {v : Value} {n : Nat} {xs : List Value} (h : w.ownsRow base e size v n xs) : ∃ A k c, v = .slice A k c := by
  rcases h.2 with ⟨rfl, _⟩ | ⟨g, cap, cur, rfl, _⟩
  · exact ⟨_, _, _, rfl⟩
  · exact ⟨_, _, _, rfl⟩
theorem infoR17 : (Try.prog.info? 65).map (fun i => (i.zero, i.size, i.bytes)) = some (some (.slice none 0 0), 1, 24) := by kernel_rfl
def OwnRsC (base : Nat) (w : World) (v : Value) (ls : List (List Val)) (vs : List Value) : Prop :=
  vs.length = ls.length ∧ w.ownsRow base 65 1 v ls.length vs ∧ ∀ (j : Nat) (u : Value) (l : List Val), vs[j]? = some u → ls[j]? = some l → w.ownsRow base 37 3 u l.length (vcells l)
def OwnRs (base : Nat) (w : World) (v : Value) (ls : List (List Val)) : Prop := ∃ vs, OwnRsC base w v ls vs
theorem OwnRs.nil_ (base : Nat) (w : World) : OwnRs base w (.slice none 0 0) [] := ⟨[], rfl, World.ownsRow_nil _ _ _ _, fun j u l h => by simp at h⟩
theorem OwnRsC.grow {base : Nat} {w w' : World} {v : Value} {ls : List (List Val)} {vs : List Value} (h : OwnRsC base w v ls vs) (hg : Grows w w') : OwnRsC base w' v ls vs :=
  ⟨h.1, ownsRow_grow h.2.1 hg, fun j u l h1 h2 => ownsRow_grow (h.2.2 j u l h1 h2) hg⟩
theorem OwnRs.grow {base : Nat} {w w' : World} {v : Value} {ls : List (List Val)} (h : OwnRs base w v ls) (hg : Grows w w') : OwnRs base w' v ls := by
  obtain ⟨vs, h⟩ := h; exact ⟨vs, h.grow hg⟩
theorem OwnRs.base_ {b b' : Nat} {w : World} {v : Value} {ls : List (List Val)} (h : OwnRs b w v ls) (hb : b' ≤ b) : OwnRs b' w v ls := by
  obtain ⟨vs, h1, h2, h3⟩ := h
  exact ⟨vs, h1, ownsRow_base h2 hb, fun j u l e1 e2 => ownsRow_base (h3 j u l e1 e2) hb⟩
theorem OwnRsC.snoc {base : Nat} {X Y : World} {v v' u : Value} {ls : List (List Val)} {vs : List Value} {l : List Val} (h : OwnRsC base X v ls vs) (hu : X.ownsRow base 37 3 u l.length (vcells l))
    (hown : Y.ownsRow base 65 1 v' (ls.length + 1) (vs ++ [u])) (hon : Only (fun k => v.ownBlock = some k) X Y) : OwnRs base Y v' (ls ++ [l]) := by
  refine ⟨vs ++ [u], by simp [h.1], by rw [List.length_append]; exact hown, fun j x y hx hy => ?_⟩
  have keep : ∀ {z : Value} {n : Nat} {xs : List Value}, X.ownsRow base 37 3 z n xs → Y.ownsRow base 37 3 z n xs := fun hz => ownsRow_only hz hon (ownsRow_apart hz h.2.1 (by decide))
  by_cases hj : j < ls.length
  · rw [List.getElem?_append_left (by rw [h.1]; exact hj)] at hx
    rw [List.getElem?_append_left hj] at hy
    exact keep (h.2.2 j x y hx hy)
  · by_cases hje : j = ls.length
    · subst hje
      rw [List.getElem?_append_right (by rw [h.1]; exact Nat.le_refl _), h.1] at hx
      rw [List.getElem?_append_right (Nat.le_refl _)] at hy
      simp at hx hy
      subst hx hy
      exact keep hu
    · rw [List.getElem?_eq_none (by simp; omega)] at hy
      cases hy
def IsRs (w : World) (v : Value) (ls : List (List Val)) : Prop :=
  ∃ A c, v = .slice A ls.length c ∧ ls.length ≤ c ∧ (0 < ls.length → ∃ b off, A = some ⟨b, off, none⟩ ∧ ∀ (j : Nat) (l : List Val), ls[j]? = some l → ∃ u, w.cell? ⟨b, off + j, none⟩ = some u ∧ ReadsV w u l)
theorem IsRs.grow {w w' : World} {v : Value} {ls : List (List Val)} (h : IsRs w v ls) (hg : Grows w w') : IsRs w' v ls := by
  obtain ⟨A, c, rfl, hc, hcell⟩ := h
  refine ⟨A, c, rfl, hc, fun hl => ?_⟩
  obtain ⟨b, off, rfl, hcc⟩ := hcell hl
  refine ⟨b, off, rfl, fun j l hj => ?_⟩
  obtain ⟨u, h1, h2⟩ := hcc j l hj
  exact ⟨u, (hg.cell (World.block_lt_of_cell? _ _ h1)).trans h1, h2.grow hg⟩
theorem IsRs.slice_ {w : World} {v : Value} {ls : List (List Val)} (h : IsRs w v ls) : ∃ A c, v = .slice A ls.length c := by
  obtain ⟨A, c, h, _⟩ := h; exact ⟨A, c, h⟩
theorem IsRs.at_ {w : World} {A : Option Addr} {n c : Nat} {ls : List (List Val)} (h : IsRs w (.slice A n c) ls) {j : Nat} (hj : j < ls.length) :
    ∃ b off u, A = some ⟨b, off, none⟩ ∧ ∀ W, Grows w W → W.cell? ⟨b, off + j, none⟩ = some u ∧ ReadsV W u ls[j] := by
  obtain ⟨A', c', he, _, hcell⟩ := h
  injection he with e1 e2 e3
  subst e1
  obtain ⟨b, off, rfl, hcc⟩ := hcell (by omega)
  obtain ⟨u, h1, h2⟩ := hcc j ls[j] (List.getElem?_eq_getElem hj)
  exact ⟨b, off, u, rfl, fun W hW => ⟨(hW.cell (World.block_lt_of_cell? _ _ h1)).trans h1, h2.grow hW⟩⟩
theorem OwnRs.isRs {base : Nat} {w : World} {v : Value} {ls : List (List Val)} (h : OwnRs base w v ls) : IsRs w v ls := by
  obtain ⟨vs, h1, h2, h3⟩ := h
  have hr := Reads.of_own h2
  obtain ⟨A, c, rfl, hc, hcell⟩ := hr
  rw [h1] at hc hcell ⊢
  refine ⟨A, c, rfl, hc, fun hl => ?_⟩
  obtain ⟨b, off, rfl, hcc⟩ := hcell hl
  refine ⟨b, off, rfl, fun j l hj => ?_⟩
  have hjl : j < ls.length := (List.getElem?_eq_some_iff.1 hj).1
  have hjv : j < vs.length := by rw [h1]; exact hjl
  refine ⟨vs[j], ?_, ReadsV.of_own (h3 j _ l (List.getElem?_eq_getElem hjv) hj)⟩
  rw [hcc j hjl, List.getElem?_eq_getElem hjv]
def OwnRowsR (ls : List (List Val)) (w : World) (e : Ending) (w' : World) : Prop := ∃ v, e = .returned v ∧ OwnRs w.heap.size w' v ls ∧ Grows w w'
def rowsB (B : Bat) : List (List Val) := if B.all = true then (List.range B.len.toNat).map (fun i : Nat => rowV B (i : Int)) else B.sel.map (rowV B)
def RaRel (B : Bat) (W0 : World) (f : Nat → List Val) (N : Nat) (out j : Value) (wr : World) : Prop :=
  ∃ k : Nat, k ≤ N ∧ j = .int .i64 (k : Int) ∧ OwnRs W0.heap.size wr out ((List.range k).map f) ∧ Grows W0 wr
def OwnRow (base : Nat) (l : List Val) : Value → World → Prop := fun v w => w.ownsRow base 37 3 v l.length (vcells l)
def NewRow (base : Nat) (l : List Val) : Value → World → Prop := fun v w => ∃ g u, v = .slice (some ⟨g, 0, none⟩) 1 1 ∧ w.cell? ⟨g, 0, none⟩ = some u ∧ OwnRow base l u w
theorem NewRow.lasts {base : Nat} {l : List Val} : ∀ v w w', NewRow base l v w → Grows w w' → NewRow base l v w' := fun _ _ _ ⟨g, u, h1, h2, h3⟩ hg => ⟨g, u, h1, (hg.cell (World.block_lt_of_cell? _ _ h2)).trans h2, ownsRow_grow h3 hg⟩
theorem OwnRow.lasts {base : Nat} {l : List Val} : ∀ v w w', OwnRow base l v w → Grows w w' → OwnRow base l v w' := fun _ _ _ h hg => ownsRow_grow h hg
set_option maxHeartbeats 4000000 in
theorem rrows_any (x : Value) (B : Bat) (w : World) (hx : IsB w x B) (hok : OkB B) :
    Calls Try.prog 32 #[x] w (OwnRowsR (rowsB B) w) := by
  obtain ⟨p, q, rfl, hp, hq⟩ := id hx
  have HIB := hidden hx
  have HQ := hidden hq
  obtain ⟨A, c, rfl⟩ := hp.slice_
  obtain ⟨E, d, rfl⟩ := hq.slice_
  clear hp hq hx
  have HOK := hidden hok
  clear hok
  obtain ⟨n, hn⟩ : ∃ n, B.cs.length = n := ⟨_, rfl⟩
  obtain ⟨m, hm⟩ : ∃ m, B.sel.length = m := ⟨_, rfl⟩
  rw [hn] at HIB ⊢
  rw [hm] at HIB HQ ⊢
  have HM := hidden hm
  clear hn hm
  obtain ⟨W0, hW0⟩ : ∃ W0, W0 = w.alloc (.cells #[.slice A n c, .int .i64 B.len, .bool B.all, .slice E m d] 45) := ⟨_, rfl⟩
  have HG0 := hidden (show Grows w W0 by rw [hW0]; exact grow1 _)
  have HR0 := hidden (show Row W0 w.heap.size 45 [.slice A n c, .int .i64 B.len, .bool B.all, .slice E m d] by rw [hW0]; exact Row.new w 45 _ _ rfl)
  have hp0 : (w.alloc (.cells #[.slice A n c, .int .i64 B.len, .bool B.all, .slice E m d] 45)).cell? ⟨w.heap.size, 2, none⟩ = some (.bool B.all) := by rw [← hW0]; exact HR0.out.cell 2
  cases hall : B.all
  · rw [hall] at hp0 hW0 HIB HR0
    have HE := hidden (show rowsB B = B.sel.map (rowV B) by unfold rowsB; rw [hall]; rfl)
    clear hall
    go_enter Try.func32, Try.ntmps32
    go_wp2_with fail
    rw [← hW0]
    clear hW0 hp0
    go_loopw [3, 5] (fun out j wr => RaRel B W0 (fun k => rowV B (B.sel.getD k 0)) m out j wr) (fun _ j _ => m - (intOf j).toNat)
    case atStart => exact ⟨0, Nat.zero_le _, rfl, OwnRs.nil_ _ _, Below.refl _ _⟩
    case round =>
      obtain ⟨k, hk, rfl, hown, hb⟩ := hrel
      have HB := hidden hb
      have HO := hidden hown
      have HGW := hidden (HG0.out.of_below hb)
      have HRW := hidden (Row.grow HR0.out hb)
      clear hb hown
      have t3 := HRW.out.cell 3
      simp only [List.getElem?_cons_succ, List.getElem?_cons_zero] at t3
      by_cases hlt : k < m
      · have hkl : k < B.sel.length := by rw [HM.out]; exact hlt
        rw [← HM.out] at HQ
        obtain ⟨b0, off, rfl, hcc⟩ := HQ.out.at_ hkl
        rw [HM.out] at HQ
        have ei : ∃ i : Int, w.cell? ⟨b0, off + k, none⟩ = some (.int .i64 i) ∧ B.sel.getD k 0 = i := ⟨_, hcc, by rw [List.getD_eq_getElem?_getD, List.getElem?_eq_getElem hkl]; rfl⟩
        obtain ⟨i, hci, hgd⟩ := ei
        have HTK := hidden (show (List.range (k + 1)).map (fun k => rowV B (B.sel.getD k 0)) = (List.range k).map (fun k => rowV B (B.sel.getD k 0)) ++ [rowV B i] by rw [List.range_succ, List.map_append, ← hgd]; rfl)
        have HCI := hidden hci
        have HCX : Hid (∀ X, Grows wr X → X.cell? ⟨w.heap.size, 0, none⟩ = some (.slice A n c) ∧ X.cell? ⟨w.heap.size, 1, none⟩ = some (.int .i64 B.len) ∧ X.cell? ⟨w.heap.size, 2, none⟩ = some (.bool false) ∧ X.cell? ⟨w.heap.size, 3, none⟩ = some (.slice (some ⟨b0, off, none⟩) m d) ∧ X.cell? ⟨b0, off + k, none⟩ = some (.int .i64 i)) :=
          hidden fun X h => ⟨(HRW.out.grow h).cell 0, (HRW.out.grow h).cell 1, (HRW.out.grow h).cell 2, (HRW.out.grow h).cell 3, ((HGW.out.of_below h).cell (World.block_lt_of_cell? _ _ HCI.out)).trans HCI.out⟩
        have HC1 : Hid (∀ W, Grows wr W → Calls Try.prog 67 #[.agg #[.slice A n c, .int .i64 B.len, .bool false, .slice (some ⟨b0, off, none⟩) m d], .int .i64 i] W fun e w' => ∃ v, e = .returned v ∧ Grows W w' ∧ OwnRow W0.heap.size (rowV B i) v w') :=
          hidden fun W h => (rrow_any _ B i W (HIB.out.grow (HGW.out.of_below h)) HOK.out).mono fun e w' ⟨v, he, ho, hg⟩ => ⟨v, he, hg, ownsRow_base ho (Nat.le_trans HB.out.size h.size)⟩
        have hd : decide (k < m) = true := by simpa using hlt
        have hk0 : (0 : Int) ≤ (k : Int) := by omega
        have hk1 : (k : Int) < (m : Int) := by omega
        have hmb : m ≤ 1000000 := by rw [← HM.out]; exact HOK.out.2.1
        have HLN := hidden (show ((List.range k).map (fun k => rowV B (B.sel.getD k 0))).length + 1 ≤ 1000001 by simp; omega)
        have hmm : m - (k + 1) < m - k := by omega
        have HK1 := hidden (show k + 1 ≤ m by omega)
        generalize rowV B i = ri at *
        clear hkl hcc hci hgd hlt hk
        go_wp2_with fail
        refine wp_region_loose_tail 9 (tabRs [(7, OwnRow W0.heap.size ri), (8, NewRow W0.heap.size ri)]) (by kernel_rfl) (by kernel_rfl) (tabRs_cons OwnRow.lasts (tabRs_cons NewRow.lasts tabRs_nil)) ?_
        simp only [List.take_succ_cons, List.take_zero, List.drop_succ_cons, List.drop_zero]
        iterate 7 ((with_reducible refine loose_one (v := ?_) (a' := ?_) ?_ ?_ (fun w' hC' hG' => ?_) ?_ ?_); rotate_left 2; (focus rfl); (focus rfl); (focus (obtain ⟨s0, s1, s2, s3, x0⟩ := HCX.out w' hC'; clear hC' hG'; go_simp; rfl)); (focus (go_simp; rfl)))
        refine loose_call (R := OwnRow W0.heap.size ri) (f := 67) (args := #[.agg #[.slice A n c, .int .i64 B.len, .bool false, .slice (some ⟨b0, off, none⟩) m d], .int .i64 i]) (by rfl) (by rfl) (fun _ => by go_simp) (fun w' hC' hG' => HC1.out w' hC') ?_
        rintro u ⟨w5, w6, hu5⟩
        obtain ⟨UA, UN, UC, rfl⟩ := ownsRow_slice hu5
        refine ⟨?_, ?_, ?_⟩
        rotate_left
        · go_simp
          rfl
        refine loose_new (R := NewRow W0.heap.size ri) (by rfl) (by rfl) (fun w' hC' hG' => ?_) ?_
        · have h7 : OwnRow W0.heap.size ri (.slice UA UN UC) w' := (hG' 7 (by kernel_rfl)).2 rfl
          exact ⟨.slice (some ⟨w'.heap.size, 0, none⟩) 1 1, w'.alloc (.cells #[.slice UA UN UC] 65), by first | rfl | go_simp, grow1 _, w'.heap.size, _, rfl, (Row.new w' 65 _ [.slice UA UN UC] rfl).cell 0, ownsRow_grow h7 (grow1 _)⟩
        rintro _ ⟨_, _, g8, u8, rfl, _, _⟩
        refine ⟨?_, ?_, ?_⟩
        rotate_left
        · go_simp
          rfl
        refine loose_done (fun w9 hC' hG' => ?_)
        obtain ⟨g9, u9, e9, hc9, hu9⟩ : NewRow W0.heap.size ri (.slice (some ⟨g8, 0, none⟩) 1 1) w9 := (hG' 8).2 rfl
        injection e9 with e9
        injection e9 with e9
        injection e9 with e9
        subst e9
        have HU9 := hidden hu9
        have HC9 := hidden hc9
        obtain ⟨vs, hvs0⟩ := HO.out.grow hC'
        have HVS := hidden hvs0
        have HB9 := hidden (HB.out.of_below hC')
        have hsz : W0.heap.size ≤ w9.heap.size := HB9.out.size
        clear hC' hG' w6 hu5 hvs0 t3 hu9 hc9
        go_wp2_with (first
          | (at_builtin; go_loud (refine wpList_append_cx rfl _ _ 57 rfl 65 (.slice none 0 0) 24 Try.underlying57 infoR17 rfl _ vs (by rfl) W0.heap.size _ HVS.out.2.1 hsz u9 (ownsRow_one HU9.out) g8 (by rfl) HC9.out (by have := HLN.out; omega) (by have := HLN.out; omega) ?_); intro v' w3 hown3 hon3 hbk3; have HO3 := hidden (OwnRsC.snoc HVS.out HU9.out hown3 hon3); have HG3 := hidden (hon3.below HB9.out (fun i hi => (HVS.out.2.1.lt i hi).1)); clear hown3 hon3 hbk3))
        go_roundw
        case rel => exact ⟨k + 1, HK1.out, by go_num, by rw [HTK.out]; exact HO3.out, HG3.out⟩
        case measure => simpa [intOf] using hmm
      · have hke : k = m := by omega
        have hd : decide (k < m) = false := by simpa using hlt
        have HEE := hidden (show (List.range k).map (fun k => rowV B (B.sel.getD k 0)) = rowsB B by
          rw [HE.out, hke, ← HM.out]
          apply List.ext_getElem?
          intro j
          by_cases hj : j < B.sel.length
          · simp [List.getElem?_map, List.getElem?_range hj, List.getD_eq_getElem?_getD, List.getElem?_eq_getElem hj]
          · rw [List.getElem?_eq_none (by simp; omega), List.getElem?_eq_none (by simp; omega)])
        clear hlt hke hk
        go_wp2_with fail
        go_ret
        rw [← HEE.out]
        exact ⟨_, rfl, HO.out.base_ HG0.out.size, HGW.out⟩
  · rw [hall] at hp0 hW0 HIB HR0
    obtain ⟨N, hN⟩ : ∃ N, N = B.len.toNat := ⟨_, rfl⟩
    have HE := hidden (show rowsB B = (List.range N).map (fun i : Nat => rowV B (i : Int)) by unfold rowsB; rw [hall, hN]; rfl)
    have HNN := hidden hN
    have HNB := hidden (show N ≤ 1000000 by have := HOK.out.2.2.1; omega)
    clear hall hN
    go_enter Try.func32, Try.ntmps32
    go_wp2_with fail
    rw [← hW0]
    clear hW0 hp0
    go_loopw [3, 4] (fun out j wr => RaRel B W0 (fun i : Nat => rowV B (i : Int)) N out j wr) (fun _ j _ => N - (intOf j).toNat)
    case atStart => exact ⟨0, Nat.zero_le _, rfl, OwnRs.nil_ _ _, Below.refl _ _⟩
    case round =>
      obtain ⟨k, hk, rfl, hown, hb⟩ := hrel
      have HB := hidden hb
      have HO := hidden hown
      have HGW := hidden (HG0.out.of_below hb)
      have HRW := hidden (Row.grow HR0.out hb)
      clear hb hown
      have t0 := HRW.out.cell 0
      have t1 := HRW.out.cell 1
      have t2 := HRW.out.cell 2
      have t3 := HRW.out.cell 3
      simp only [List.getElem?_cons_succ, List.getElem?_cons_zero] at t0 t1 t2 t3
      by_cases hlt : k < N
      · have HTK := hidden (show (List.range (k + 1)).map (fun i : Nat => rowV B (i : Int)) = (List.range k).map (fun i : Nat => rowV B (i : Int)) ++ [rowV B (k : Int)] by rw [List.range_succ, List.map_append]; rfl)
        have HC1 := hidden (rrow_any _ B (k : Int) wr (HIB.out.grow HGW.out) HOK.out)
        have hk0 : (0 : Int) ≤ (k : Int) := by omega
        have hk1 : (k : Int) < B.len := by have := HNN.out; omega
        have hd : decide ((k : Int) < B.len) = true := by simpa using hk1
        have hmb : N ≤ 1000000 := HNB.out
        have HLN := hidden (show ((List.range k).map (fun i : Nat => rowV B (i : Int))).length + 1 ≤ 1000001 by simp; omega)
        have hmm : N - (k + 1) < N - k := by omega
        have hk6 : k + 1 ≤ N := by omega
        have HK1 := hidden hk6
        generalize rowV B (k : Int) = ri at *
        clear hlt hk
        go_wp2_with fail
        refine HC1.out.mono ?_
        rintro e w9 ⟨u, rfl, hu9, hC'⟩
        have HU9 := hidden (show OwnRow W0.heap.size ri u w9 from ownsRow_base hu9 HB.out.size)
        obtain ⟨UA, UN, UC, rfl⟩ := ownsRow_slice HU9.out
        obtain ⟨vs, hvs0⟩ := HO.out.grow hC'
        have HVS := hidden hvs0
        have HB9 := hidden (HB.out.of_below hC')
        have hsz : W0.heap.size ≤ w9.heap.size := HB9.out.size
        clear hC' hu9 hvs0 t0 t1 t2 t3
        go_wp2_with (first
          | (at_builtin; go_loud (refine wpList_append_c rfl _ _ 57 rfl 65 (.slice none 0 0) 24 Try.underlying57 infoR17 rfl _ vs (by rfl) W0.heap.size _ HVS.out.2.1 hsz (.slice UA UN UC) (ownsRow_one HU9.out) _ (by rfl) (by simp) (by have := HLN.out; omega) (by have := HLN.out; omega) ?_); intro v' w3 hown3 hon3 hbk3; have HO3 := hidden (OwnRsC.snoc HVS.out HU9.out hown3 hon3); have HG3 := hidden (hon3.below HB9.out (fun i hi => (HVS.out.2.1.lt i hi).1)); clear hown3 hon3 hbk3))
        go_roundw
        case rel => exact ⟨k + 1, HK1.out, by go_num, by rw [HTK.out]; exact HO3.out, HG3.out⟩
        case measure => simpa [intOf] using hmm
      · have hke : k = N := by omega
        have hk1 : ¬ (k : Int) < B.len := by have := HNN.out; omega
        have hd : decide ((k : Int) < B.len) = false := by simpa using hk1
        have HEE := hidden (show (List.range k).map (fun i : Nat => rowV B (i : Int)) = rowsB B by rw [HE.out, hke])
        clear hlt hke hk hk1
        go_wp2_with fail
        go_ret
        rw [← HEE.out]
        exact ⟨_, rfl, HO.out.base_ HG0.out.size, HGW.out⟩
end Go.Proofs.Ytfjhahhkakfhmaa
/-
  Shaken: what the claims of this seat need of this text. No condition.
-/
namespace Go.Proofs.Ytfjhahhkakfhmaa
set_option maxRecDepth 8000
open Go.RowKit
set_option linter.unusedVariables false
set_option linter.unusedSimpArgs false
set_option maxHeartbeats 4000000 in
theorem rInts_self (v u : Value) (l : List Int) (w : World) (hv : IsI w v l) (hu : IsI w u l) (hl : l.length ≤ 1000000000) :
    Calls Try.prog 33 #[v, u] w fun e w' => e = .returned (.bool true) ∧ Grows w w' := by
  have HV := hidden hv
  have HU := hidden hu
  obtain ⟨A, c, rfl⟩ := hv.slice_
  obtain ⟨B, d, rfl⟩ := hu.slice_
  clear hv hu
  go_enter Try.func33, Try.ntmps33
  go_wp2_with fail
  go_loopw [5] (fun i wr => EqvRel w l.length i wr) (fun i _ => l.length - (intOf i).toNat)
  case atStart => exact ⟨0, Nat.zero_le _, rfl, Below.refl _ _⟩
  case round =>
    obtain ⟨k, hk, rfl, hb⟩ := hrel
    have HB := hidden hb
    clear hb
    by_cases hlt : k < l.length
    · have hd : decide (k < l.length) = true := by simpa using hlt
      have hk0 : (0 : Int) ≤ (k : Int) := by omega
      have hk1 : (k : Int) < (l.length : Int) := by omega
      have HLT := hidden hlt
      obtain ⟨b, off, rfl, ka⟩ := HV.out.at_ hlt
      obtain ⟨b', off', rfl, kb⟩ := HU.out.at_ hlt
      have eyy : ∃ y : Int, w.cell? ⟨b, off + k, none⟩ = some (.int .i64 y) ∧ w.cell? ⟨b', off' + k, none⟩ = some (.int .i64 y) := ⟨_, ka, kb⟩
      clear ka kb
      obtain ⟨y, ka, kb⟩ := eyy
      have HX := hidden (fun X (h : Grows wr X) => And.intro (((HB.out.of_below h).cell (World.block_lt_of_cell? _ _ ka)).trans ka) (((HB.out.of_below h).cell (World.block_lt_of_cell? _ _ kb)).trans kb))
      clear hlt ka kb
      go_wp2_with fail
      refine wp_region_loose (tabRs []) (by kernel_rfl) (by kernel_rfl) tabRs_nil ?_
      iterate 9 ((with_reducible refine loose_one (v := ?_) (a' := ?_) ?_ ?_ (fun w' hC' hG' => ?_) ?_ ?_); rotate_left 2; (focus rfl); (focus rfl); (focus (obtain ⟨x0, y0⟩ := HX.out w' hC'; clear hC' hG'; go_simp; rfl)); (focus (go_simp; rfl)))
      refine loose_done (fun w5 hC5 hG5 => ?_)
      have HB5 := hidden (HB.out.of_below hC5)
      clear hC5 hG5 HX
      go_wp2_with fail
      go_roundw
      case rel => exact ⟨k + 1, HLT.out, by go_num, HB5.out⟩
      case measure => have := HLT.out; simp [intOf]; omega
    · have hke : k = l.length := by omega
      have hd : decide (k < l.length) = false := by simpa using hlt
      subst hke
      clear hlt
      go_wp2_with fail
      go_ret
      exact ⟨rfl, HB.out⟩
set_option maxHeartbeats 4000000 in
theorem sameRows_self (v u : Value) (ls : List (List Val)) (w : World) (hv : IsRs w v ls) (hu : IsRs w u ls) (hl : ls.length ≤ 1000000000) (hll : ∀ l ∈ ls, l.length ≤ 1000000000) :
    Calls Try.prog 30 #[v, u] w fun e w' => e = .returned (.bool true) ∧ Grows w w' := by
  have HV := hidden hv
  have HU := hidden hu
  obtain ⟨A, c, rfl⟩ := hv.slice_
  obtain ⟨B, d, rfl⟩ := hu.slice_
  clear hv hu
  go_enter Try.func30, Try.ntmps30
  go_wp2_with fail
  go_loopw [13] (fun i wr => EqvRel w ls.length i wr) (fun i _ => ls.length - (intOf i).toNat)
  case atStart => exact ⟨0, Nat.zero_le _, rfl, Below.refl _ _⟩
  case round =>
    obtain ⟨k, hk, rfl, hb⟩ := hrel
    have HB := hidden hb
    clear hb
    by_cases hlt : k < ls.length
    · have hd : decide (k < ls.length) = true := by simpa using hlt
      have hk0 : (0 : Int) ≤ (k : Int) := by omega
      have hk1 : (k : Int) < (ls.length : Int) := by omega
      have HLT := hidden hlt
      obtain ⟨b, off, x, rfl, ka⟩ := HV.out.at_ hlt
      obtain ⟨b', off', y, rfl, kb⟩ := HU.out.at_ hlt
      have eyy : ∃ l : List Val, (∀ W, Grows w W → W.cell? ⟨b, off + k, none⟩ = some x ∧ ReadsV W x l) ∧ (∀ W, Grows w W → W.cell? ⟨b', off' + k, none⟩ = some y ∧ ReadsV W y l) ∧ l ∈ ls := ⟨_, ka, kb, List.getElem_mem _⟩
      clear ka kb
      obtain ⟨l, ka, kb, hmem⟩ := eyy
      have HX := hidden (fun X (h : Grows wr X) => And.intro (ka X (HB.out.of_below h)).1 (kb X (HB.out.of_below h)).1)
      have HC1 := hidden (fun W (h : Grows wr W) => const_loose (sameValues_self x y l W (ka W (HB.out.of_below h)).2 (kb W (HB.out.of_below h)).2 (hll l hmem)))
      clear hlt ka kb hmem
      go_wp2_with fail
      refine wp_region_loose (tabRs [(8, ConstV (.bool true))]) (by kernel_rfl) (by kernel_rfl) (tabRs_cons ConstV.lasts tabRs_nil) ?_
      iterate 8 ((with_reducible refine loose_one (v := ?_) (a' := ?_) ?_ ?_ (fun w' hC' hG' => ?_) ?_ ?_); rotate_left 2; (focus rfl); (focus rfl); (focus (obtain ⟨x0, y0⟩ := HX.out w' hC'; clear hC' hG'; go_simp; rfl)); (focus (go_simp; rfl)))
      refine loose_call (R := ConstV (.bool true)) (f := 16) (args := #[x, y]) (by rfl) (by rfl) (fun _ => by go_simp) (fun w' hC' hG' => HC1.out w' hC') ?_
      rintro _ ⟨_, _, rfl⟩
      refine ⟨?_, ?_, ?_⟩
      rotate_left
      · go_simp
        rfl
      iterate 1 ((with_reducible refine loose_one (v := ?_) (a' := ?_) ?_ ?_ (fun w' hC' hG' => ?_) ?_ ?_); rotate_left 2; (focus rfl); (focus rfl); (focus (obtain ⟨x0, y0⟩ := HX.out w' hC'; clear hC' hG'; go_simp; rfl)); (focus (go_simp; rfl)))
      refine loose_done (fun w5 hC5 hG5 => ?_)
      have HB5 := hidden (HB.out.of_below hC5)
      clear hC5 hG5 HX
      go_wp2_with fail
      go_roundw
      case rel => exact ⟨k + 1, HLT.out, by go_num, HB5.out⟩
      case measure => have := HLT.out; simp [intOf]; omega
    · have hke : k = ls.length := by omega
      have hd : decide (k < ls.length) = false := by simpa using hlt
      subst hke
      clear hlt
      go_wp2_with fail
      go_ret
      exact ⟨rfl, HB.out⟩
end Go.Proofs.Ytfjhahhkakfhmaa
/-
  Shaken: what the claims of this seat need of this text. No condition.
-/
namespace Go.Proofs.Ytfjhahhkakfhmaa
set_option maxRecDepth 8000
open Go.RowKit
set_option linter.unusedVariables false
set_option linter.unusedSimpArgs false
def FitB (B : Bat) : Prop := B.cs.length ≤ 1000000 ∧ B.sel.length ≤ 1000000000 ∧ ∀ v ∈ B.cs, FitLen v
set_option maxHeartbeats 4000000 in
theorem rEqualB_self (x y : Value) (B : Bat) (w : World) (hx : IsB w x B) (hy : IsB w y B) (hf : FitB B) :
    Calls Try.prog 36 #[x, y] w fun e w' => e = .returned (.bool true) ∧ Grows w w' := by
  obtain ⟨cs, L, b, sel⟩ := B
  obtain ⟨p1, q1, rfl, hp1, hq1⟩ := hx
  obtain ⟨p2, q2, rfl, hp2, hq2⟩ := hy
  obtain ⟨f1, f2, f3⟩ := hf
  dsimp only at *
  have HP1 := hidden hp1
  have HQ1 := hidden hq1
  have HP2 := hidden hp2
  have HQ2 := hidden hq2
  obtain ⟨A, c, rfl⟩ := hp1.slice_
  obtain ⟨E, d, rfl⟩ := hq1.slice_
  obtain ⟨A2, c2, rfl⟩ := hp2.slice_
  obtain ⟨E2, d2, rfl⟩ := hq2.slice_
  clear hp1 hq1 hp2 hq2
  have HF3 := hidden f3
  have HF2 := hidden f2
  obtain ⟨n, hn⟩ : ∃ n, cs.length = n := ⟨_, rfl⟩
  obtain ⟨m, hm⟩ : ∃ m, sel.length = m := ⟨_, rfl⟩
  rw [hn] at HP1 HP2 ⊢
  rw [hm] at HQ1 HQ2 ⊢
  have HN := hidden hn
  have HNB := hidden (show n ≤ 1000000 by omega)
  clear hn hm f1 f2 f3
  obtain ⟨W0, hW0⟩ : ∃ W0, W0 = (w.alloc (.cells #[.slice A n c, .int .i64 L, .bool b, .slice E m d] 45)).alloc (.cells #[.slice A2 n c2, .int .i64 L, .bool b, .slice E2 m d2] 45) := ⟨_, rfl⟩
  have HG0 := hidden (show Grows w W0 by rw [hW0]; exact (grow1 _).of_below (grow1 _))
  have HR0 := hidden (show Row W0 w.heap.size 45 [.slice A n c, .int .i64 L, .bool b, .slice E m d] by rw [hW0]; exact (Row.new w 45 _ _ rfl).grow (grow1 _))
  have HS0 := hidden (show Row W0 (w.heap.size + 1) 45 [.slice A2 n c2, .int .i64 L, .bool b, .slice E2 m d2] by rw [hW0]; exact Row.at_ _ 45 _ _ rfl (w.heap.size + 1) (by simp))
  have HI := hidden (rInts_self _ _ sel W0 (HQ1.out.grow HG0.out) (HQ2.out.grow HG0.out) HF2.out)
  have p0 := HR0.out.cell 0
  have q0 := HS0.out.cell 0
  have p1 := HR0.out.cell 1
  have q1 := HS0.out.cell 1
  have p2 := HR0.out.cell 2
  have q2 := HS0.out.cell 2
  have p3 := HR0.out.cell 3
  have q3 := HS0.out.cell 3
  simp only [List.getElem?_cons_succ, List.getElem?_cons_zero] at p0 q0 p1 q1 p2 q2 p3 q3
  rw [hW0] at p0 q0 p1 q1 p2 q2 p3 q3
  have HW0 := hidden hW0
  clear hW0
  have hcl0 : ∀ {W : World} (h : Grows W0 W), W.cell? ⟨w.heap.size, 0, none⟩ = some (.slice A n c) ∧ W.cell? ⟨w.heap.size + 1, 0, none⟩ = some (.slice A2 n c2) := fun h => ⟨(HR0.out.grow h).cell 0, (HS0.out.grow h).cell 0⟩
  have HCL := hidden (fun (W : World) (h : Grows W0 W) => hcl0 h)
  clear hcl0
  go_enter Try.func36, Try.ntmps36
  go_wp2_with (go_at_call 33; rw [← HW0.out]; refine HI.out.mono ?_; rintro e w2 ⟨rfl, g2⟩; have HG2 := hidden g2; obtain ⟨r0, r1⟩ := HCL.out w2 g2; clear g2 p0 q0 p1 q1 p2 q2 p3 q3)
  clear r0 r1
  go_loopw [5] (fun i wr => EqvRel W0 n i wr) (fun i _ => n - (intOf i).toNat)
  case atStart => exact ⟨0, Nat.zero_le _, rfl, HG2.out⟩
  case round =>
    obtain ⟨k, hk, rfl, hb⟩ := hrel
    have HB := hidden hb
    have HGW := hidden (HG0.out.of_below hb)
    obtain ⟨r0, r1⟩ := HCL.out wr hb
    clear hb HG2
    by_cases hlt : k < n
    · have hd : decide (k < n) = true := by simpa using hlt
      have hk0 : (0 : Int) ≤ (k : Int) := by omega
      have hk1 : (k : Int) < (n : Int) := by omega
      have HLT := hidden hlt
      have hnb := HNB.out
      have hkl : k < cs.length := by rw [HN.out]; exact hlt
      obtain ⟨b0, o0, A3, c3, A4, c4, A5, c5, rfl, ka⟩ := HP1.out.at_ hkl
      obtain ⟨b1, o1, B3, d3, B4, d4, B5, d5, rfl, kb⟩ := HP2.out.at_ hkl
      have eyy : ∃ v : Vec, (∀ W, Grows w W → W.cell? ⟨b0, o0 + k * 4, none⟩ = some (.int .i64 v.T) ∧ W.cell? ⟨b0, o0 + k * 4 + 1, none⟩ = some (.slice A3 v.is.length c3) ∧ W.cell? ⟨b0, o0 + k * 4 + 2, none⟩ = some (.slice A4 v.ts.length c4) ∧ W.cell? ⟨b0, o0 + k * 4 + 3, none⟩ = some (.slice A5 v.ns.length c5) ∧ IsV W (.agg #[.int .i64 v.T, .slice A3 v.is.length c3, .slice A4 v.ts.length c4, .slice A5 v.ns.length c5]) v) ∧ (∀ W, Grows w W → W.cell? ⟨b1, o1 + k * 4, none⟩ = some (.int .i64 v.T) ∧ W.cell? ⟨b1, o1 + k * 4 + 1, none⟩ = some (.slice B3 v.is.length d3) ∧ W.cell? ⟨b1, o1 + k * 4 + 2, none⟩ = some (.slice B4 v.ts.length d4) ∧ W.cell? ⟨b1, o1 + k * 4 + 3, none⟩ = some (.slice B5 v.ns.length d5) ∧ IsV W (.agg #[.int .i64 v.T, .slice B3 v.is.length d3, .slice B4 v.ts.length d4, .slice B5 v.ns.length d5]) v) ∧ v ∈ cs := ⟨_, ka, kb, List.getElem_mem _⟩
      clear ka kb
      obtain ⟨v, ka, kb, hmem⟩ := eyy
      have HC1 := hidden (fun W (h : Grows wr W) => const_loose (rEqual17_self _ _ v W (ka W (HGW.out.of_below h)).2.2.2.2 (kb W (HGW.out.of_below h)).2.2.2.2 (HF3.out v hmem)))
      have HX := hidden (fun X (h : Grows wr X) => And.intro (HCL.out X (HB.out.of_below h)) (And.intro (ka X (HGW.out.of_below h)) (kb X (HGW.out.of_below h))))
      clear hlt ka kb hmem hkl
      go_wp2_with fail
      refine wp_region_loose (tabRs [(10, ConstV (.bool true))]) (by kernel_rfl) (by kernel_rfl) (tabRs_cons ConstV.lasts tabRs_nil) ?_
      iterate 10 ((with_reducible refine loose_one (v := ?_) (a' := ?_) ?_ ?_ (fun w' hC' hG' => ?_) ?_ ?_); rotate_left 2; (focus rfl); (focus rfl); (focus (obtain ⟨⟨x0, x1⟩, ⟨y0, y1, y2, y3, y4⟩, z0, z1, z2, z3, z4⟩ := HX.out w' hC'; clear y4 z4 hC' hG'; go_simp; rfl)); (focus (go_simp; rfl)))
      refine loose_call (R := ConstV (.bool true)) (f := 13) (args := #[.agg #[.int .i64 v.T, .slice A3 v.is.length c3, .slice A4 v.ts.length c4, .slice A5 v.ns.length c5], .agg #[.int .i64 v.T, .slice B3 v.is.length d3, .slice B4 v.ts.length d4, .slice B5 v.ns.length d5]]) (by rfl) (by rfl) (fun _ => by go_simp) (fun w' hC' hG' => HC1.out w' hC') ?_
      rintro _ ⟨_, _, rfl⟩
      refine ⟨?_, ?_, ?_⟩
      rotate_left
      · go_simp
        rfl
      iterate 1 ((with_reducible refine loose_one (v := ?_) (a' := ?_) ?_ ?_ (fun w' hC' hG' => ?_) ?_ ?_); rotate_left 2; (focus rfl); (focus rfl); (focus (obtain ⟨⟨x0, x1⟩, ⟨y0, y1, y2, y3, y4⟩, z0, z1, z2, z3, z4⟩ := HX.out w' hC'; clear y4 z4 hC' hG'; go_simp; rfl)); (focus (go_simp; rfl)))
      refine loose_done (fun w5 hC5 hG5 => ?_)
      have HB5 := hidden (HB.out.of_below hC5)
      clear hC5 hG5 HX r0 r1
      go_wp2_with fail
      go_roundw
      case rel => exact ⟨k + 1, HLT.out, by go_num, HB5.out⟩
      case measure => have := HLT.out; simp [intOf]; omega
    · have hke : k = n := by omega
      have hd : decide (k < n) = false := by simpa using hlt
      clear hlt hk
      go_wp2_with fail
      go_ret
      exact ⟨rfl, HGW.out⟩
end Go.Proofs.Ytfjhahhkakfhmaa
/-
  Shaken: what the claims of this seat need of this text. No condition.
-/
namespace Go.Proofs.Ytfjhahhkakfhmaa
set_option maxRecDepth 8000
open Go.RowKit
set_option linter.unusedVariables false
set_option linter.unusedSimpArgs false
def IsBs (w : World) (v : Value) (l : List Bat) : Prop :=
  ∃ A c, v = .slice A l.length c ∧ l.length ≤ c ∧ (0 < l.length → ∃ b off, A = some ⟨b, off, none⟩ ∧ ∀ (j : Nat) (x : Bat), l[j]? = some x → ∃ p q, w.cell? ⟨b, off + j * 4, none⟩ = some p ∧ w.cell? ⟨b, off + j * 4 + 1, none⟩ = some (.int .i64 x.len) ∧ w.cell? ⟨b, off + j * 4 + 2, none⟩ = some (.bool x.all) ∧ w.cell? ⟨b, off + j * 4 + 3, none⟩ = some q ∧ IsB w (.agg #[p, .int .i64 x.len, .bool x.all, q]) x)
theorem IsBs.at_ {w : World} {A : Option Addr} {n c : Nat} {l : List Bat} (h : IsBs w (.slice A n c) l) {j : Nat} (hj : j < l.length) :
    ∃ b off p q, A = some ⟨b, off, none⟩ ∧ ∀ W, Grows w W → W.cell? ⟨b, off + j * 4, none⟩ = some p ∧ W.cell? ⟨b, off + j * 4 + 1, none⟩ = some (.int .i64 l[j].len) ∧ W.cell? ⟨b, off + j * 4 + 2, none⟩ = some (.bool l[j].all) ∧ W.cell? ⟨b, off + j * 4 + 3, none⟩ = some q ∧ IsB W (.agg #[p, .int .i64 l[j].len, .bool l[j].all, q]) l[j] := by
  obtain ⟨A', c', he, _, hcell⟩ := h
  injection he with e1 e2 e3
  subst e1
  obtain ⟨b, off, rfl, hcc⟩ := hcell (by omega)
  obtain ⟨p, q, h0, h1, h2, h3, h4⟩ := hcc j l[j] (List.getElem?_eq_getElem hj)
  have up : ∀ {W : World} (hg : Grows w W) {a : Addr} {u : Value}, w.cell? a = some u → W.cell? a = some u := fun hg _ _ h => (hg.cell (World.block_lt_of_cell? _ _ h)).trans h
  exact ⟨b, off, p, q, rfl, fun W hW => ⟨up hW h0, up hW h1, up hW h2, up hW h3, h4.grow hW⟩⟩
theorem OwnRsC.append {base base' : Nat} {X Y : World} {v v' u : Value} {ls ms : List (List Val)} {vs us : List Value} (h : OwnRsC base X v ls vs) (hu : OwnRsC base' X u ms us) (hb : base ≤ base')
    (hown : Y.ownsRow base 65 1 v' (vs ++ us).length (vs ++ us)) (hk : KeepsRows 65 X Y) : OwnRs base Y v' (ls ++ ms) := by
  refine ⟨vs ++ us, by simp [h.1, hu.1], by rw [List.length_append] at hown ⊢; rw [← h.1, ← hu.1]; exact hown, fun j x y hx hy => ?_⟩
  have keep : ∀ {b : Nat} {z : Value} {n : Nat} {xs : List Value}, X.ownsRow b 37 3 z n xs → Y.ownsRow b 37 3 z n xs := fun hz => hk _ _ _ _ _ _ (by decide) hz
  by_cases hj : j < ls.length
  · rw [List.getElem?_append_left (by rw [h.1]; exact hj)] at hx
    rw [List.getElem?_append_left hj] at hy
    exact keep (h.2.2 j x y hx hy)
  · rw [List.getElem?_append_right (by rw [h.1]; omega), h.1] at hx
    rw [List.getElem?_append_right (by omega)] at hy
    exact ownsRow_base (keep (hu.2.2 _ x y hx hy)) hb
theorem OwnRsC.one {base : Nat} {w : World} {v : Value} {ls : List (List Val)} {vs : List Value} (h : OwnRsC base w v ls vs) : ∀ x ∈ vs, x.oneCell' = true := by
  intro x hx
  obtain ⟨j, hj⟩ := List.getElem?_of_mem hx
  have hjl : j < vs.length := (List.getElem?_eq_some_iff.1 hj).1
  have hjm : j < ls.length := by rw [← h.1]; exact hjl
  exact ownsRow_one (h.2.2 j x ls[j] hj (List.getElem?_eq_getElem hjm))
def allRowsB (l : List Bat) : List (List Val) := l.flatMap rowsB
theorem rowsB_len (B : Bat) (h : OkB B) : (rowsB B).length ≤ 1000000 := by
  unfold rowsB
  split
  · simp; have := h.2.2.1; omega
  · simp; exact h.2.1
theorem allRowsB_len {l : List Bat} (h : ∀ B ∈ l, OkB B) : (allRowsB l).length ≤ l.length * 1000000 := by
  unfold allRowsB
  induction l with
  | nil => simp
  | cons B r ih =>
    rw [List.flatMap_cons, List.length_append, List.length_cons, Nat.add_mul]
    have h1 := ih (fun y hy => h y (List.mem_cons_of_mem _ hy))
    have h2 := rowsB_len B (h B (List.mem_cons_self ..))
    omega
def ArRel (l : List Bat) (w : World) (out j : Value) (wr : World) : Prop :=
  ∃ k : Nat, k ≤ l.length ∧ j = .int .i64 (k : Int) ∧ OwnRs w.heap.size wr out (allRowsB (l.take k)) ∧ Grows w wr
set_option maxHeartbeats 4000000 in
theorem rallrows_any (v : Value) (l : List Bat) (w : World) (hv : IsBs w v l) (hl : l.length ≤ 1000) (hok : ∀ B ∈ l, OkB B) :
    Calls Try.prog 40 #[v] w (OwnRowsR (allRowsB l) w) := by
  have HV := hidden hv
  obtain ⟨A, c, rfl, _, _⟩ := hv
  have HOK := hidden hok
  obtain ⟨n, hn⟩ : ∃ n, l.length = n := ⟨_, rfl⟩
  have HNB := hidden (show n ≤ 1000 by omega)
  rw [hn] at HV ⊢
  have HN := hidden hn
  clear hn hl hok
  go_enter Try.func40, Try.ntmps40
  go_wp2_with fail
  go_loopw [3, 4] (fun out j wr => ArRel l w out j wr) (fun _ j _ => n - (intOf j).toNat)
  case atStart => exact ⟨0, Nat.zero_le _, rfl, OwnRs.nil_ _ _, Below.refl _ _⟩
  case round =>
    obtain ⟨k, hk, rfl, hown, hb⟩ := hrel
    rw [HN.out] at hk
    have HB := hidden hb
    have HO := hidden hown
    clear hb hown
    by_cases hlt : k < n
    · have hkl : k < l.length := by rw [HN.out]; exact hlt
      obtain ⟨b0, off, p, q, rfl, hcc⟩ := HV.out.at_ hkl
      have ey : ∃ B : Bat, (∀ W, Grows w W → W.cell? ⟨b0, off + k * 4, none⟩ = some p ∧ W.cell? ⟨b0, off + k * 4 + 1, none⟩ = some (.int .i64 B.len) ∧ W.cell? ⟨b0, off + k * 4 + 2, none⟩ = some (.bool B.all) ∧ W.cell? ⟨b0, off + k * 4 + 3, none⟩ = some q ∧ IsB W (.agg #[p, .int .i64 B.len, .bool B.all, q]) B) ∧ B ∈ l ∧ l.take (k + 1) = l.take k ++ [B] :=
        ⟨_, hcc, List.getElem_mem _, by rw [List.take_add_one, List.getElem?_eq_getElem hkl]; rfl⟩
      obtain ⟨B, hc, hmem, htk⟩ := ey
      have HTK := hidden (show allRowsB (l.take (k + 1)) = allRowsB (l.take k) ++ rowsB B by rw [htk]; simp [allRowsB])
      obtain ⟨v0, v1, v2, v3, hib⟩ := hc wr HB.out
      have HOKB := hidden (HOK.out B hmem)
      have HC1 := hidden (rrows_any _ B wr hib HOKB.out)
      have hd : decide (k < n) = true := by simpa using hlt
      have hk0 : (0 : Int) ≤ (k : Int) := by omega
      have hk1 : (k : Int) < (n : Int) := by omega
      have HLN := hidden (show (allRowsB (l.take k)).length ≤ 1000000000 by
        have h1 := allRowsB_len (l := l.take k) (fun x hx => HOK.out x (List.mem_of_mem_take hx))
        have h2 := HNB.out
        have h3 : (l.take k).length * 1000000 ≤ 1000 * 1000000 := Nat.mul_le_mul_right _ (by rw [List.length_take]; omega)
        omega)
      have HRL := hidden (rowsB_len B HOKB.out)
      have hmm : n - (k + 1) < n - k := by omega
      have HK1 := hidden (show k + 1 ≤ l.length by omega)
      have hnb := HNB.out
      clear hkl hcc hc hmem htk hib hlt hk
      go_wp2_with fail
      refine HC1.out.mono ?_
      rintro e w2 ⟨u, rfl, hu2, g2⟩
      obtain ⟨us, hus0⟩ := hu2
      have HUS := hidden hus0
      obtain ⟨vs, hvs0⟩ := HO.out.grow g2
      have HVS := hidden hvs0
      have HB2 := hidden (HB.out.of_below g2)
      have hsz : w.heap.size ≤ w2.heap.size := HB2.out.size
      have hrv := HVS.out.2.1
      rw [← HVS.out.1] at hrv
      have HRV := hidden hrv
      clear g2 hus0 hvs0 hrv v0 v1 v2 v3
      go_wp2_with ((at_builtin; go_loud (refine wpList_append_rows14 (w := w) rfl _ _ 57 rfl 65 (.slice none 0 0) 24 Try.underlying57 infoR17 rfl _ vs (by rfl) HRV.out HB2.out hsz u us (by rfl) (Reads.of_own HUS.out.2.1) HUS.out.one (by have := HLN.out; have := HRL.out; have := HVS.out.1; have := HUS.out.1; omega) (by have := HLN.out; have := HRL.out; have := HVS.out.1; have := HUS.out.1; omega) ?_); intro v' w3 hown3 hb3 hk3; have HO3 := hidden (HVS.out.append HUS.out HB.out.size hown3 hk3); have HG3 := hidden hb3; clear hown3 hb3 hk3))
      go_roundw
      case rel => exact ⟨k + 1, HK1.out, by go_num, by rw [HTK.out]; exact HO3.out, HG3.out⟩
      case measure => simpa [intOf] using hmm
    · have hke : k = n := by omega
      have hd : decide (k < n) = false := by simpa using hlt
      have HE := hidden (show l.take k = l by rw [hke, ← HN.out, List.take_length])
      clear hlt hke hk
      go_wp2_with fail
      go_ret
      have h9 := HO.out
      rw [HE.out] at h9
      exact ⟨_, rfl, h9, HB.out⟩
end Go.Proofs.Ytfjhahhkakfhmaa
/-
  Shaken: what the claims of this seat need of this text. No condition.
-/
namespace Go.Proofs.Ytfjhahhkakfhmaa
set_option maxRecDepth 8000
open Go.RowKit
set_option linter.unusedVariables false
set_option linter.unusedSimpArgs false
def FitBA (B : Bat) : Prop := B.cs.length ≤ 1000000 ∧ B.sel.length ≤ 1000000000000000 ∧ ∀ v ∈ B.cs, FitArg v
def okSel (len : Int) (sel : List Int) (i : Nat) : Bool := decide (0 ≤ sel.getD i 0) && (decide (sel.getD i 0 < len) && (decide (i = 0) || decide (sel.getD (i - 1) 0 < sel.getD i 0)))
def selsB (len : Int) (sel : List Int) : Nat → Bool
  | 0 => true
  | j + 1 => selsB len sel j && okSel len sel j
theorem selsB_iff {len : Int} {sel : List Int} : ∀ {m : Nat}, selsB len sel m = true ↔ ∀ i, i < m → okSel len sel i = true
  | 0 => by simp [selsB]
  | m + 1 => by
    rw [selsB, Bool.and_eq_true, selsB_iff]
    constructor
    · rintro ⟨h1, h2⟩ i hi
      by_cases e : i = m
      · rw [e]; exact h2
      · exact h1 i (by omega)
    · exact fun h => ⟨fun i hi => h i (by omega), h m (by omega)⟩
theorem selsB_no {len : Int} {sel : List Int} {j m : Nat} (hj : j < m) (h : okSel len sel j = false) : selsB len sel m = false := by
  cases e : selsB len sel m
  · rfl
  · rw [selsB_iff.1 e j hj] at h; cases h
def colB (len : Int) (v : Vec) : Bool := validVB v && decide ((v.ns.length : Int) = len)
def validBB (B : Bat) : Bool := decide (0 ≤ B.len) && (!(B.all && decide (0 < B.sel.length)) && (B.cs.all (colB B.len) && selsB B.len B.sel B.sel.length))
theorem validBB_of {B : Bat} (h0 : 0 ≤ B.len) (h1 : ¬ (B.all = true ∧ 0 < B.sel.length)) (h2 : B.cs.all (colB B.len) = true) (h3 : selsB B.len B.sel B.sel.length = true) : validBB B = true := by
  unfold validBB
  rw [h2, h3]
  simp only [Bool.and_true, Bool.and_eq_true, decide_eq_true_eq, Bool.not_eq_true']
  refine ⟨h0, ?_⟩
  cases hb : B.all && decide (0 < B.sel.length)
  · rfl
  · simp only [Bool.and_eq_true, decide_eq_true_eq] at hb
    exact absurd hb h1
theorem validBB_no {B : Bat} (h : ¬ 0 ≤ B.len ∨ (B.all = true ∧ 0 < B.sel.length) ∨ B.cs.all (colB B.len) = false ∨ selsB B.len B.sel B.sel.length = false) : validBB B = false := by
  unfold validBB
  rcases h with h | h | h | h
  · simp [h]
  · simp [h.1, h.2]
  · simp [h]
  · simp [h]
set_option maxHeartbeats 8000000 in
theorem rvalidB_any (x : Value) (B : Bat) (w : World) (hx : IsB w x B) (hf : FitBA B) (hL : -9223372036854775808 ≤ B.len ∧ B.len ≤ 9223372036854775807) :
    Calls Try.prog 22 #[x] w fun e w' => e = .returned (.bool (validBB B)) ∧ Grows w w' := by
  obtain ⟨cs, L, al, sel⟩ := B
  obtain ⟨p, q, rfl, hp, hq⟩ := hx
  obtain ⟨f1, f2, f3⟩ := hf
  dsimp only at *
  have HP := hidden hp
  have HQ := hidden hq
  obtain ⟨A, c, rfl⟩ := hp.slice_
  obtain ⟨E, d, rfl⟩ := hq.slice_
  clear hp hq
  have HF3 := hidden f3
  obtain ⟨z, hz⟩ : ∃ z, validBB ⟨cs, L, al, sel⟩ = z := ⟨_, rfl⟩
  rw [hz]
  have HYES := hidden (fun (h0 : 0 ≤ L) (h1 : ¬ (al = true ∧ 0 < sel.length)) (h2 : cs.all (colB L) = true) (h3 : selsB L sel sel.length = true) => hz.symm.trans (validBB_of (B := ⟨cs, L, al, sel⟩) h0 h1 h2 h3))
  have HNO := hidden (fun (h : ¬ 0 ≤ L ∨ (al = true ∧ 0 < sel.length) ∨ cs.all (colB L) = false ∨ selsB L sel sel.length = false) => hz.symm.trans (validBB_no (B := ⟨cs, L, al, sel⟩) h))
  clear hz
  obtain ⟨n, hn⟩ : ∃ n, cs.length = n := ⟨_, rfl⟩
  obtain ⟨m, hm⟩ : ∃ m, sel.length = m := ⟨_, rfl⟩
  rw [hn] at HP ⊢
  rw [hm] at HQ HYES HNO ⊢
  have HN := hidden hn
  have HM := hidden hm
  have HNB := hidden (show n ≤ 1000000 ∧ m ≤ 1000000000000000 by omega)
  clear hn hm f1 f2 f3
  obtain ⟨W0, hW0⟩ : ∃ W0, W0 = w.alloc (.cells #[.slice A n c, .int .i64 L, .bool al, .slice E m d] 45) := ⟨_, rfl⟩
  have HG0 := hidden (show Grows w W0 by rw [hW0]; exact grow1 _)
  have HR0 := hidden (show Row W0 w.heap.size 45 [.slice A n c, .int .i64 L, .bool al, .slice E m d] by rw [hW0]; exact Row.new w 45 _ _ rfl)
  have p1 := HR0.out.cell 1
  have p2 := HR0.out.cell 2
  have p3 := HR0.out.cell 3
  simp only [List.getElem?_cons_succ, List.getElem?_cons_zero] at p1 p2 p3
  rw [hW0] at p1 p2 p3
  by_cases hL0 : L < 0
  · have HE := hidden (HNO.out (.inl (by omega)))
    have d0 : decide (L < 0) = true := by simpa using hL0
    go_enter Try.func22, Try.ntmps22
    go_wp2_with fail
    go_ret
    exact ⟨retB HE.out.symm, by rw [← hW0]; exact HG0.out⟩
  have d0 : decide (L < 0) = false := by simpa using hL0
  have HL0 := hidden (show 0 ≤ L by omega)
  by_cases hal : al = true ∧ 0 < m
  · have HE := hidden (HNO.out (.inr (.inl hal)))
    obtain ⟨rfl, hm0⟩ := hal
    have d1 : decide (0 < m) = true := by simpa using hm0
    have d2 : decide ((0 : Int) < (m : Int)) = true := by simp; omega
    clear hL0
    go_enter Try.func22, Try.ntmps22
    go_wp2_with fail
    go_ret
    exact ⟨retB HE.out.symm, by rw [← hW0]; exact HG0.out⟩
  have HAL := hidden hal
  have haf : al = false ∨ (al = true ∧ m = 0) := by
    cases al
    · exact .inl rfl
    · exact .inr ⟨rfl, by have := mt (And.intro rfl) hal; omega⟩
  have HCL := hidden (fun (W : World) (h : Grows W0 W) => And.intro ((HR0.out.grow h).cell 0) (And.intro ((HR0.out.grow h).cell 1) ((HR0.out.grow h).cell 3)))
  simp only [List.getElem?_cons_succ, List.getElem?_cons_zero] at HCL
  have HW0 := hidden hW0
  clear hW0 hal hL0
  rcases haf with hcase | hcase
  · subst hcase
    go_enter Try.func22, Try.ntmps22
    go_wp2_with fail
    rw [← HW0.out]
    clear p1 p2 p3
    go_loopw [3] (fun i wr => ∃ k : Nat, k ≤ n ∧ i = .int .i64 (k : Int) ∧ (cs.take k).all (colB L) = true ∧ Grows W0 wr) (fun i _ => n - (intOf i).toNat)
    case atStart => exact ⟨0, Nat.zero_le _, rfl, rfl, Below.refl _ _⟩
    case round =>
      obtain ⟨k, hk, rfl, hall, hb⟩ := hrel
      have HB := hidden hb
      have HALL := hidden hall
      have HGW := hidden (HG0.out.of_below hb)
      obtain ⟨r0, r1, r3⟩ := HCL.out wr hb
      clear hb hall
      by_cases hlt : k < n
      · have hd : decide (k < n) = true := by simpa using hlt
        have hk0 : (0 : Int) ≤ (k : Int) := by omega
        have hk1 : (k : Int) < (n : Int) := by omega
        have HLT := hidden hlt
        have hnb := HNB.out.1
        have hkl : k < cs.length := by rw [HN.out]; exact hlt
        obtain ⟨b0, o0, A3, c3, A4, c4, A5, c5, rfl, ka⟩ := HP.out.at_ hkl
        have eyy : ∃ v : Vec, (∀ W, Grows w W → W.cell? ⟨b0, o0 + k * 4, none⟩ = some (.int .i64 v.T) ∧ W.cell? ⟨b0, o0 + k * 4 + 1, none⟩ = some (.slice A3 v.is.length c3) ∧ W.cell? ⟨b0, o0 + k * 4 + 2, none⟩ = some (.slice A4 v.ts.length c4) ∧ W.cell? ⟨b0, o0 + k * 4 + 3, none⟩ = some (.slice A5 v.ns.length c5) ∧ IsV W (.agg #[.int .i64 v.T, .slice A3 v.is.length c3, .slice A4 v.ts.length c4, .slice A5 v.ns.length c5]) v) ∧ v ∈ cs ∧ cs.take (k + 1) = cs.take k ++ [v] := ⟨_, ka, List.getElem_mem _, by rw [List.take_add_one, List.getElem?_eq_getElem hkl]; rfl⟩
        clear ka
        obtain ⟨v, ka, hmem, htk⟩ := eyy
        have HTK := hidden htk
        have HMEM := hidden hmem
        have HC1 := hidden (fun W (h : Grows wr W) => const_loose (rvalid17_any _ v W (ka W (HGW.out.of_below h)).2.2.2.2 (HF3.out v hmem)))
        have HX := hidden (fun X (h : Grows wr X) => And.intro (HCL.out X (HB.out.of_below h)) (ka X (HGW.out.of_below h)))
        obtain ⟨f, hf⟩ : ∃ f, f = validVB v := ⟨_, rfl⟩
        rw [← hf] at HC1
        have HFF := hidden hf.symm
        clear hlt ka hmem htk hf
        cases f
        · have HE := hidden (HNO.out (.inr (.inr (.inl (by
            cases h9 : cs.all (colB L)
            · rfl
            · have := (List.all_eq_true.1 h9) v HMEM.out
              unfold colB at this
              rw [HFF.out] at this
              simp at this)))))
          go_wp2_with fail
          refine wp_region_loose (tabRs [(5, ConstV (.bool false))]) (by kernel_rfl) (by kernel_rfl) (tabRs_cons ConstV.lasts tabRs_nil) ?_
          iterate 5 ((with_reducible refine loose_one (v := ?_) (a' := ?_) ?_ ?_ (fun w' hC' hG' => ?_) ?_ ?_); rotate_left 2; (focus rfl); (focus rfl); (focus (obtain ⟨⟨x0, x1, x3⟩, y0, y1, y2, y3, y4⟩ := HX.out w' hC'; clear y4 hC' hG'; go_simp; rfl)); (focus (go_simp; rfl)))
          refine loose_call (R := ConstV (.bool false)) (f := 20) (args := #[.agg #[.int .i64 v.T, .slice A3 v.is.length c3, .slice A4 v.ts.length c4, .slice A5 v.ns.length c5]]) (by rfl) (by rfl) (fun _ => by go_simp) (fun w' hC' hG' => HC1.out w' hC') ?_
          rintro _ ⟨_, _, rfl⟩
          refine ⟨?_, ?_, ?_⟩
          rotate_left
          · go_simp
            rfl
          iterate 2 ((with_reducible refine loose_one (v := ?_) (a' := ?_) ?_ ?_ (fun w' hC' hG' => ?_) ?_ ?_); rotate_left 2; (focus rfl); (focus rfl); (focus (obtain ⟨⟨x0, x1, x3⟩, y0, y1, y2, y3, y4⟩ := HX.out w' hC'; clear y4 hC' hG'; go_simp; rfl)); (focus (go_simp; rfl)))
          iterate 10 ((with_reducible refine loose_skip (a' := ?_) ?_ ?_ ?_); rotate_left 1; (focus rfl); (focus (go_simp; rfl)))
          iterate 1 ((with_reducible refine loose_one (v := ?_) (a' := ?_) ?_ ?_ (fun w' hC' hG' => ?_) ?_ ?_); rotate_left 2; (focus rfl); (focus rfl); (focus (obtain ⟨⟨x0, x1, x3⟩, y0, y1, y2, y3, y4⟩ := HX.out w' hC'; clear y4 hC' hG'; go_simp; rfl)); (focus (go_simp; rfl)))
          refine loose_done (fun w5 hC5 hG5 => ?_)
          have HB5 := hidden (HGW.out.of_below hC5)
          clear hC5 hG5 HX r0 r1 r3
          go_wp2_with fail
          go_ret
          exact ⟨retB HE.out.symm, HB5.out⟩
        · by_cases hln : (v.ns.length : Int) = L
          · have hne : ((v.ns.length : Int) != L) = false := by simpa using hln
            have HCO := hidden (show colB L v = true by unfold colB; rw [HFF.out, hln]; simp)
            clear hln
            go_wp2_with fail
            refine wp_region_loose (tabRs [(5, ConstV (.bool true))]) (by kernel_rfl) (by kernel_rfl) (tabRs_cons ConstV.lasts tabRs_nil) ?_
            iterate 5 ((with_reducible refine loose_one (v := ?_) (a' := ?_) ?_ ?_ (fun w' hC' hG' => ?_) ?_ ?_); rotate_left 2; (focus rfl); (focus rfl); (focus (obtain ⟨⟨x0, x1, x3⟩, y0, y1, y2, y3, y4⟩ := HX.out w' hC'; clear y4 hC' hG'; go_simp; rfl)); (focus (go_simp; rfl)))
            refine loose_call (R := ConstV (.bool true)) (f := 20) (args := #[.agg #[.int .i64 v.T, .slice A3 v.is.length c3, .slice A4 v.ts.length c4, .slice A5 v.ns.length c5]]) (by rfl) (by rfl) (fun _ => by go_simp) (fun w' hC' hG' => HC1.out w' hC') ?_
            rintro _ ⟨_, _, rfl⟩
            refine ⟨?_, ?_, ?_⟩
            rotate_left
            · go_simp
              rfl
            iterate 13 ((with_reducible refine loose_one (v := ?_) (a' := ?_) ?_ ?_ (fun w' hC' hG' => ?_) ?_ ?_); rotate_left 2; (focus rfl); (focus rfl); (focus (obtain ⟨⟨x0, x1, x3⟩, y0, y1, y2, y3, y4⟩ := HX.out w' hC'; clear y4 hC' hG'; go_simp; rfl)); (focus (go_simp; rfl)))
            refine loose_done (fun w5 hC5 hG5 => ?_)
            have HB5 := hidden (HB.out.of_below hC5)
            clear hC5 hG5 HX r0 r1 r3
            go_wp2_with fail
            go_roundw
            case rel => exact ⟨k + 1, HLT.out, by go_num, by rw [HTK.out, List.all_append, HALL.out]; simp [HCO.out], HB5.out⟩
            case measure => have := HLT.out; simp [intOf]; omega
          · have hne : ((v.ns.length : Int) != L) = true := by simpa using hln
            have HE := hidden (HNO.out (.inr (.inr (.inl (by
              cases h9 : cs.all (colB L)
              · rfl
              · have := (List.all_eq_true.1 h9) v HMEM.out
                unfold colB at this
                rw [Bool.and_eq_true] at this
                exact absurd (by simpa using this.2) hln)))))
            clear hln
            go_wp2_with fail
            refine wp_region_loose (tabRs [(5, ConstV (.bool true))]) (by kernel_rfl) (by kernel_rfl) (tabRs_cons ConstV.lasts tabRs_nil) ?_
            iterate 5 ((with_reducible refine loose_one (v := ?_) (a' := ?_) ?_ ?_ (fun w' hC' hG' => ?_) ?_ ?_); rotate_left 2; (focus rfl); (focus rfl); (focus (obtain ⟨⟨x0, x1, x3⟩, y0, y1, y2, y3, y4⟩ := HX.out w' hC'; clear y4 hC' hG'; go_simp; rfl)); (focus (go_simp; rfl)))
            refine loose_call (R := ConstV (.bool true)) (f := 20) (args := #[.agg #[.int .i64 v.T, .slice A3 v.is.length c3, .slice A4 v.ts.length c4, .slice A5 v.ns.length c5]]) (by rfl) (by rfl) (fun _ => by go_simp) (fun w' hC' hG' => HC1.out w' hC') ?_
            rintro _ ⟨_, _, rfl⟩
            refine ⟨?_, ?_, ?_⟩
            rotate_left
            · go_simp
              rfl
            iterate 13 ((with_reducible refine loose_one (v := ?_) (a' := ?_) ?_ ?_ (fun w' hC' hG' => ?_) ?_ ?_); rotate_left 2; (focus rfl); (focus rfl); (focus (obtain ⟨⟨x0, x1, x3⟩, y0, y1, y2, y3, y4⟩ := HX.out w' hC'; clear y4 hC' hG'; go_simp; rfl)); (focus (go_simp; rfl)))
            refine loose_done (fun w5 hC5 hG5 => ?_)
            have HB5 := hidden (HGW.out.of_below hC5)
            clear hC5 hG5 HX r0 r1 r3
            go_wp2_with fail
            go_ret
            exact ⟨retB HE.out.symm, HB5.out⟩
      · have hke : k = n := by omega
        have hd : decide (k < n) = false := by simpa using hlt
        have HCA := hidden (show cs.all (colB L) = true by have := HALL.out; rwa [hke, ← HN.out, List.take_length] at this)
        have HBK := HB
        generalize wr = wk at *
        clear hlt hk hke HB
        go_wp2_with fail
        clear r0 r1 r3
        go_loopw [4] (fun i wr => ∃ k : Nat, k ≤ m ∧ i = .int .i64 (k : Int) ∧ selsB L sel k = true ∧ Grows W0 wr) (fun i _ => m - (intOf i).toNat)
        case atStart => exact ⟨0, Nat.zero_le _, rfl, rfl, HBK.out⟩
        case round =>
          obtain ⟨k, hk, rfl, hsl, hb⟩ := hrel
          have HB := hidden hb
          have HSL := hidden hsl
          have HGX := hidden (HG0.out.of_below hb)
          obtain ⟨r0, r1, r3⟩ := HCL.out wr hb
          clear hb hsl
          by_cases hlt : k < m
          · have hd : decide (k < m) = true := by simpa using hlt
            have hk0 : (0 : Int) ≤ (k : Int) := by omega
            have hk1 : (k : Int) < (m : Int) := by omega
            have HLT := hidden hlt
            have hnb := HNB.out.2
            have hkl : k < sel.length := by rw [HM.out]; exact hlt
            rw [← HM.out] at HQ
            obtain ⟨b0, o0, rfl, ka⟩ := HQ.out.at_ hkl
            rw [HM.out] at HQ
            have eyy : ∃ s : Int, w.cell? ⟨b0, o0 + k, none⟩ = some (.int .i64 s) ∧ sel.getD k 0 = s := ⟨_, ka, by rw [List.getD_eq_getElem?_getD, List.getElem?_eq_getElem hkl]; rfl⟩
            clear ka
            obtain ⟨s, ka, hgs⟩ := eyy
            have HKA := hidden ka
            have HGS := hidden hgs
            have HX := hidden (fun X (h : Grows wr X) => And.intro (HCL.out X (HB.out.of_below h)) (((HGX.out.of_below h).cell (World.block_lt_of_cell? _ _ HKA.out)).trans HKA.out))
            clear ka hgs hlt hkl
            by_cases hs0 : s < 0
            · have e0 : decide (s < 0) = true := by simpa using hs0
              have HE := hidden (HNO.out (.inr (.inr (.inr (selsB_no HLT.out (by unfold okSel; rw [HGS.out]; simp; omega))))))
              clear hs0
              go_wp2_with fail
              refine wp_region_loose (tabRs []) (by kernel_rfl) (by kernel_rfl) tabRs_nil ?_
              iterate 7 ((with_reducible refine loose_one (v := ?_) (a' := ?_) ?_ ?_ (fun w' hC' hG' => ?_) ?_ ?_); rotate_left 2; (focus rfl); (focus rfl); (focus (obtain ⟨⟨x0, x1, x3⟩, y0⟩ := HX.out w' hC'; clear hC' hG'; go_simp; rfl)); (focus (go_simp; rfl)))
              iterate 8 ((with_reducible refine loose_skip (a' := ?_) ?_ ?_ ?_); rotate_left 1; (focus rfl); (focus (go_simp; rfl)))
              iterate 2 ((with_reducible refine loose_one (v := ?_) (a' := ?_) ?_ ?_ (fun w' hC' hG' => ?_) ?_ ?_); rotate_left 2; (focus rfl); (focus rfl); (focus (obtain ⟨⟨x0, x1, x3⟩, y0⟩ := HX.out w' hC'; clear hC' hG'; go_simp; rfl)); (focus (go_simp; rfl)))
              iterate 16 ((with_reducible refine loose_skip (a' := ?_) ?_ ?_ ?_); rotate_left 1; (focus rfl); (focus (go_simp; rfl)))
              iterate 1 ((with_reducible refine loose_one (v := ?_) (a' := ?_) ?_ ?_ (fun w' hC' hG' => ?_) ?_ ?_); rotate_left 2; (focus rfl); (focus rfl); (focus (obtain ⟨⟨x0, x1, x3⟩, y0⟩ := HX.out w' hC'; clear hC' hG'; go_simp; rfl)); (focus (go_simp; rfl)))
              refine loose_done (fun w5 hC5 hG5 => ?_)
              have HB5 := hidden (HGX.out.of_below hC5)
              clear hC5 hG5 HX r0 r1 r3
              go_wp2_with fail
              go_ret
              exact ⟨retB HE.out.symm, HB5.out⟩
            have e0 : decide (s < 0) = false := by simpa using hs0
            by_cases hsL : L ≤ s
            · have e1 : decide (L ≤ s) = true := by simpa using hsL
              have HE := hidden (HNO.out (.inr (.inr (.inr (selsB_no HLT.out (by unfold okSel; rw [HGS.out]; simp; omega))))))
              clear hs0 hsL
              go_wp2_with fail
              refine wp_region_loose (tabRs []) (by kernel_rfl) (by kernel_rfl) tabRs_nil ?_
              iterate 17 ((with_reducible refine loose_one (v := ?_) (a' := ?_) ?_ ?_ (fun w' hC' hG' => ?_) ?_ ?_); rotate_left 2; (focus rfl); (focus rfl); (focus (obtain ⟨⟨x0, x1, x3⟩, y0⟩ := HX.out w' hC'; clear hC' hG'; go_simp; rfl)); (focus (go_simp; rfl)))
              iterate 16 ((with_reducible refine loose_skip (a' := ?_) ?_ ?_ ?_); rotate_left 1; (focus rfl); (focus (go_simp; rfl)))
              iterate 1 ((with_reducible refine loose_one (v := ?_) (a' := ?_) ?_ ?_ (fun w' hC' hG' => ?_) ?_ ?_); rotate_left 2; (focus rfl); (focus rfl); (focus (obtain ⟨⟨x0, x1, x3⟩, y0⟩ := HX.out w' hC'; clear hC' hG'; go_simp; rfl)); (focus (go_simp; rfl)))
              refine loose_done (fun w5 hC5 hG5 => ?_)
              have HB5 := hidden (HGX.out.of_below hC5)
              clear hC5 hG5 HX r0 r1 r3
              go_wp2_with fail
              go_ret
              exact ⟨retB HE.out.symm, HB5.out⟩
            have e1 : decide (L ≤ s) = false := by simpa using hsL
            have HIN := hidden (show 0 ≤ s ∧ s < L by omega)
            clear hs0 hsL
            by_cases hkz : k = 0
            · subst hkz
              have hm0 : 0 < m := HLT.out
              simp only [Nat.add_zero] at HX
              have HOS := hidden (show okSel L sel 0 = true by unfold okSel; rw [HGS.out]; have := HIN.out; simp; omega)
              go_wp2_with fail
              refine wp_region_loose (tabRs []) (by kernel_rfl) (by kernel_rfl) tabRs_nil ?_
              iterate 20 ((with_reducible refine loose_one (v := ?_) (a' := ?_) ?_ ?_ (fun w' hC' hG' => ?_) ?_ ?_); rotate_left 2; (focus rfl); (focus rfl); (focus (obtain ⟨⟨x0, x1, x3⟩, y0⟩ := HX.out w' hC'; clear hC' hG'; go_simp; rfl)); (focus (go_simp; rfl)))
              iterate 12 ((with_reducible refine loose_skip (a' := ?_) ?_ ?_ ?_); rotate_left 1; (focus rfl); (focus (go_simp; rfl)))
              iterate 2 ((with_reducible refine loose_one (v := ?_) (a' := ?_) ?_ ?_ (fun w' hC' hG' => ?_) ?_ ?_); rotate_left 2; (focus rfl); (focus rfl); (focus (obtain ⟨⟨x0, x1, x3⟩, y0⟩ := HX.out w' hC'; clear hC' hG'; go_simp; rfl)); (focus (go_simp; rfl)))
              refine loose_done (fun w5 hC5 hG5 => ?_)
              have HB5 := hidden (HB.out.of_below hC5)
              clear hC5 hG5 HX r0 r1 r3
              go_wp2_with fail
              go_roundw
              case rel => exact ⟨1, HLT.out, by go_num, by rw [selsB, HOS.out]; rfl, HB5.out⟩
              case measure => have := HLT.out; simp [intOf]; omega
            obtain ⟨j, rfl⟩ : ∃ j, k = j + 1 := ⟨k - 1, by omega⟩
            have hjl : j < sel.length := by rw [HM.out]; have := HLT.out; omega
            rw [← HM.out] at HQ
            obtain ⟨b1, o1, he1, kb⟩ := HQ.out.at_ hjl
            rw [HM.out] at HQ
            injection he1 with he1
            injection he1 with he1 he2
            subst he1 he2
            have eyy : ∃ t : Int, w.cell? ⟨b0, o0 + j, none⟩ = some (.int .i64 t) ∧ sel.getD j 0 = t := ⟨_, kb, by rw [List.getD_eq_getElem?_getD, List.getElem?_eq_getElem hjl]; rfl⟩
            clear kb
            obtain ⟨t, kb, hgt⟩ := eyy
            have HKB := hidden kb
            have HGT := hidden hgt
            have HX2 := hidden (fun X (h : Grows wr X) => And.intro (HX.out X h) (((HGX.out.of_below h).cell (World.block_lt_of_cell? _ _ HKB.out)).trans HKB.out))
            have hj0 : (0 : Int) ≤ (j : Int) := by omega
            have hj1 : (j : Int) < (m : Int) := by have := HLT.out; omega
            have hwj : IntKind.i64.wrap (j : Int) = (j : Int) := by first | go_num | (simp [IntKind.wrap, IntKind.bits, IntKind.signed]; omega)
            clear kb hgt hjl hkz HX
            by_cases hst : s ≤ t
            · have e2 : decide (s ≤ t) = true := by simpa using hst
              have HE := hidden (HNO.out (.inr (.inr (.inr (selsB_no HLT.out (by unfold okSel; rw [HGS.out, Nat.add_sub_cancel, HGT.out]; simp; omega))))))
              clear hst
              go_wp2_with fail
              refine wp_region_loose (tabRs []) (by kernel_rfl) (by kernel_rfl) tabRs_nil ?_
              iterate 34 ((with_reducible refine loose_one (v := ?_) (a' := ?_) ?_ ?_ (fun w' hC' hG' => ?_) ?_ ?_); rotate_left 2; (focus rfl); (focus rfl); (focus (obtain ⟨⟨⟨x0, x1, x3⟩, y0⟩, y1⟩ := HX2.out w' hC'; clear hC' hG'; go_simp; rfl)); (focus (go_simp; rfl)))
              refine loose_done (fun w5 hC5 hG5 => ?_)
              have HB5 := hidden (HGX.out.of_below hC5)
              clear hC5 hG5 HX2 r0 r1 r3
              go_wp2_with fail
              go_ret
              exact ⟨retB HE.out.symm, HB5.out⟩
            · have e2 : decide (s ≤ t) = false := by simpa using hst
              have HOS := hidden (show okSel L sel (j + 1) = true by unfold okSel; rw [HGS.out, Nat.add_sub_cancel, HGT.out]; have := HIN.out; simp; omega)
              clear hst
              go_wp2_with fail
              refine wp_region_loose (tabRs []) (by kernel_rfl) (by kernel_rfl) tabRs_nil ?_
              iterate 34 ((with_reducible refine loose_one (v := ?_) (a' := ?_) ?_ ?_ (fun w' hC' hG' => ?_) ?_ ?_); rotate_left 2; (focus rfl); (focus rfl); (focus (obtain ⟨⟨⟨x0, x1, x3⟩, y0⟩, y1⟩ := HX2.out w' hC'; clear hC' hG'; go_simp; rfl)); (focus (go_simp; rfl)))
              refine loose_done (fun w5 hC5 hG5 => ?_)
              have HB5 := hidden (HB.out.of_below hC5)
              clear hC5 hG5 HX2 r0 r1 r3
              go_wp2_with fail
              go_roundw
              case rel => exact ⟨j + 1 + 1, HLT.out, by go_num, by rw [selsB, HSL.out, HOS.out]; rfl, HB5.out⟩
              case measure => have := HLT.out; simp [intOf]; omega
          · have hke : k = m := by omega
            have hd : decide (k < m) = false := by simpa using hlt
            have HE := hidden (HYES.out HL0.out HAL.out HCA.out (by rw [← hke]; exact HSL.out))
            clear hlt hk hke
            go_wp2_with fail
            go_ret
            exact ⟨retB HE.out.symm, HGX.out⟩
  · obtain ⟨rfl, hm0⟩ := hcase
    have y1 : decide (0 < m) = false := by simp; omega
    have y2 : decide ((0 : Int) < (m : Int)) = false := by simp; omega
    clear hm0
    go_enter Try.func22, Try.ntmps22
    go_wp2_with fail
    rw [← HW0.out]
    clear p1 p2 p3 y1 y2
    go_loopw [3] (fun i wr => ∃ k : Nat, k ≤ n ∧ i = .int .i64 (k : Int) ∧ (cs.take k).all (colB L) = true ∧ Grows W0 wr) (fun i _ => n - (intOf i).toNat)
    case atStart => exact ⟨0, Nat.zero_le _, rfl, rfl, Below.refl _ _⟩
    case round =>
      obtain ⟨k, hk, rfl, hall, hb⟩ := hrel
      have HB := hidden hb
      have HALL := hidden hall
      have HGW := hidden (HG0.out.of_below hb)
      obtain ⟨r0, r1, r3⟩ := HCL.out wr hb
      clear hb hall
      by_cases hlt : k < n
      · have hd : decide (k < n) = true := by simpa using hlt
        have hk0 : (0 : Int) ≤ (k : Int) := by omega
        have hk1 : (k : Int) < (n : Int) := by omega
        have HLT := hidden hlt
        have hnb := HNB.out.1
        have hkl : k < cs.length := by rw [HN.out]; exact hlt
        obtain ⟨b0, o0, A3, c3, A4, c4, A5, c5, rfl, ka⟩ := HP.out.at_ hkl
        have eyy : ∃ v : Vec, (∀ W, Grows w W → W.cell? ⟨b0, o0 + k * 4, none⟩ = some (.int .i64 v.T) ∧ W.cell? ⟨b0, o0 + k * 4 + 1, none⟩ = some (.slice A3 v.is.length c3) ∧ W.cell? ⟨b0, o0 + k * 4 + 2, none⟩ = some (.slice A4 v.ts.length c4) ∧ W.cell? ⟨b0, o0 + k * 4 + 3, none⟩ = some (.slice A5 v.ns.length c5) ∧ IsV W (.agg #[.int .i64 v.T, .slice A3 v.is.length c3, .slice A4 v.ts.length c4, .slice A5 v.ns.length c5]) v) ∧ v ∈ cs ∧ cs.take (k + 1) = cs.take k ++ [v] := ⟨_, ka, List.getElem_mem _, by rw [List.take_add_one, List.getElem?_eq_getElem hkl]; rfl⟩
        clear ka
        obtain ⟨v, ka, hmem, htk⟩ := eyy
        have HTK := hidden htk
        have HMEM := hidden hmem
        have HC1 := hidden (fun W (h : Grows wr W) => const_loose (rvalid17_any _ v W (ka W (HGW.out.of_below h)).2.2.2.2 (HF3.out v hmem)))
        have HX := hidden (fun X (h : Grows wr X) => And.intro (HCL.out X (HB.out.of_below h)) (ka X (HGW.out.of_below h)))
        obtain ⟨f, hf⟩ : ∃ f, f = validVB v := ⟨_, rfl⟩
        rw [← hf] at HC1
        have HFF := hidden hf.symm
        clear hlt ka hmem htk hf
        cases f
        · have HE := hidden (HNO.out (.inr (.inr (.inl (by
            cases h9 : cs.all (colB L)
            · rfl
            · have := (List.all_eq_true.1 h9) v HMEM.out
              unfold colB at this
              rw [HFF.out] at this
              simp at this)))))
          go_wp2_with fail
          refine wp_region_loose (tabRs [(5, ConstV (.bool false))]) (by kernel_rfl) (by kernel_rfl) (tabRs_cons ConstV.lasts tabRs_nil) ?_
          iterate 5 ((with_reducible refine loose_one (v := ?_) (a' := ?_) ?_ ?_ (fun w' hC' hG' => ?_) ?_ ?_); rotate_left 2; (focus rfl); (focus rfl); (focus (obtain ⟨⟨x0, x1, x3⟩, y0, y1, y2, y3, y4⟩ := HX.out w' hC'; clear y4 hC' hG'; go_simp; rfl)); (focus (go_simp; rfl)))
          refine loose_call (R := ConstV (.bool false)) (f := 20) (args := #[.agg #[.int .i64 v.T, .slice A3 v.is.length c3, .slice A4 v.ts.length c4, .slice A5 v.ns.length c5]]) (by rfl) (by rfl) (fun _ => by go_simp) (fun w' hC' hG' => HC1.out w' hC') ?_
          rintro _ ⟨_, _, rfl⟩
          refine ⟨?_, ?_, ?_⟩
          rotate_left
          · go_simp
            rfl
          iterate 2 ((with_reducible refine loose_one (v := ?_) (a' := ?_) ?_ ?_ (fun w' hC' hG' => ?_) ?_ ?_); rotate_left 2; (focus rfl); (focus rfl); (focus (obtain ⟨⟨x0, x1, x3⟩, y0, y1, y2, y3, y4⟩ := HX.out w' hC'; clear y4 hC' hG'; go_simp; rfl)); (focus (go_simp; rfl)))
          iterate 10 ((with_reducible refine loose_skip (a' := ?_) ?_ ?_ ?_); rotate_left 1; (focus rfl); (focus (go_simp; rfl)))
          iterate 1 ((with_reducible refine loose_one (v := ?_) (a' := ?_) ?_ ?_ (fun w' hC' hG' => ?_) ?_ ?_); rotate_left 2; (focus rfl); (focus rfl); (focus (obtain ⟨⟨x0, x1, x3⟩, y0, y1, y2, y3, y4⟩ := HX.out w' hC'; clear y4 hC' hG'; go_simp; rfl)); (focus (go_simp; rfl)))
          refine loose_done (fun w5 hC5 hG5 => ?_)
          have HB5 := hidden (HGW.out.of_below hC5)
          clear hC5 hG5 HX r0 r1 r3
          go_wp2_with fail
          go_ret
          exact ⟨retB HE.out.symm, HB5.out⟩
        · by_cases hln : (v.ns.length : Int) = L
          · have hne : ((v.ns.length : Int) != L) = false := by simpa using hln
            have HCO := hidden (show colB L v = true by unfold colB; rw [HFF.out, hln]; simp)
            clear hln
            go_wp2_with fail
            refine wp_region_loose (tabRs [(5, ConstV (.bool true))]) (by kernel_rfl) (by kernel_rfl) (tabRs_cons ConstV.lasts tabRs_nil) ?_
            iterate 5 ((with_reducible refine loose_one (v := ?_) (a' := ?_) ?_ ?_ (fun w' hC' hG' => ?_) ?_ ?_); rotate_left 2; (focus rfl); (focus rfl); (focus (obtain ⟨⟨x0, x1, x3⟩, y0, y1, y2, y3, y4⟩ := HX.out w' hC'; clear y4 hC' hG'; go_simp; rfl)); (focus (go_simp; rfl)))
            refine loose_call (R := ConstV (.bool true)) (f := 20) (args := #[.agg #[.int .i64 v.T, .slice A3 v.is.length c3, .slice A4 v.ts.length c4, .slice A5 v.ns.length c5]]) (by rfl) (by rfl) (fun _ => by go_simp) (fun w' hC' hG' => HC1.out w' hC') ?_
            rintro _ ⟨_, _, rfl⟩
            refine ⟨?_, ?_, ?_⟩
            rotate_left
            · go_simp
              rfl
            iterate 13 ((with_reducible refine loose_one (v := ?_) (a' := ?_) ?_ ?_ (fun w' hC' hG' => ?_) ?_ ?_); rotate_left 2; (focus rfl); (focus rfl); (focus (obtain ⟨⟨x0, x1, x3⟩, y0, y1, y2, y3, y4⟩ := HX.out w' hC'; clear y4 hC' hG'; go_simp; rfl)); (focus (go_simp; rfl)))
            refine loose_done (fun w5 hC5 hG5 => ?_)
            have HB5 := hidden (HB.out.of_below hC5)
            clear hC5 hG5 HX r0 r1 r3
            go_wp2_with fail
            go_roundw
            case rel => exact ⟨k + 1, HLT.out, by go_num, by rw [HTK.out, List.all_append, HALL.out]; simp [HCO.out], HB5.out⟩
            case measure => have := HLT.out; simp [intOf]; omega
          · have hne : ((v.ns.length : Int) != L) = true := by simpa using hln
            have HE := hidden (HNO.out (.inr (.inr (.inl (by
              cases h9 : cs.all (colB L)
              · rfl
              · have := (List.all_eq_true.1 h9) v HMEM.out
                unfold colB at this
                rw [Bool.and_eq_true] at this
                exact absurd (by simpa using this.2) hln)))))
            clear hln
            go_wp2_with fail
            refine wp_region_loose (tabRs [(5, ConstV (.bool true))]) (by kernel_rfl) (by kernel_rfl) (tabRs_cons ConstV.lasts tabRs_nil) ?_
            iterate 5 ((with_reducible refine loose_one (v := ?_) (a' := ?_) ?_ ?_ (fun w' hC' hG' => ?_) ?_ ?_); rotate_left 2; (focus rfl); (focus rfl); (focus (obtain ⟨⟨x0, x1, x3⟩, y0, y1, y2, y3, y4⟩ := HX.out w' hC'; clear y4 hC' hG'; go_simp; rfl)); (focus (go_simp; rfl)))
            refine loose_call (R := ConstV (.bool true)) (f := 20) (args := #[.agg #[.int .i64 v.T, .slice A3 v.is.length c3, .slice A4 v.ts.length c4, .slice A5 v.ns.length c5]]) (by rfl) (by rfl) (fun _ => by go_simp) (fun w' hC' hG' => HC1.out w' hC') ?_
            rintro _ ⟨_, _, rfl⟩
            refine ⟨?_, ?_, ?_⟩
            rotate_left
            · go_simp
              rfl
            iterate 13 ((with_reducible refine loose_one (v := ?_) (a' := ?_) ?_ ?_ (fun w' hC' hG' => ?_) ?_ ?_); rotate_left 2; (focus rfl); (focus rfl); (focus (obtain ⟨⟨x0, x1, x3⟩, y0, y1, y2, y3, y4⟩ := HX.out w' hC'; clear y4 hC' hG'; go_simp; rfl)); (focus (go_simp; rfl)))
            refine loose_done (fun w5 hC5 hG5 => ?_)
            have HB5 := hidden (HGW.out.of_below hC5)
            clear hC5 hG5 HX r0 r1 r3
            go_wp2_with fail
            go_ret
            exact ⟨retB HE.out.symm, HB5.out⟩
      · have hke : k = n := by omega
        have hd : decide (k < n) = false := by simpa using hlt
        have HCA := hidden (show cs.all (colB L) = true by have := HALL.out; rwa [hke, ← HN.out, List.take_length] at this)
        have HBK := HB
        generalize wr = wk at *
        clear hlt hk hke HB
        go_wp2_with fail
        clear r0 r1 r3
        go_loopw [4] (fun i wr => ∃ k : Nat, k ≤ m ∧ i = .int .i64 (k : Int) ∧ selsB L sel k = true ∧ Grows W0 wr) (fun i _ => m - (intOf i).toNat)
        case atStart => exact ⟨0, Nat.zero_le _, rfl, rfl, HBK.out⟩
        case round =>
          obtain ⟨k, hk, rfl, hsl, hb⟩ := hrel
          have HB := hidden hb
          have HSL := hidden hsl
          have HGX := hidden (HG0.out.of_below hb)
          obtain ⟨r0, r1, r3⟩ := HCL.out wr hb
          clear hb hsl
          by_cases hlt : k < m
          · have hd : decide (k < m) = true := by simpa using hlt
            have hk0 : (0 : Int) ≤ (k : Int) := by omega
            have hk1 : (k : Int) < (m : Int) := by omega
            have HLT := hidden hlt
            have hnb := HNB.out.2
            have hkl : k < sel.length := by rw [HM.out]; exact hlt
            rw [← HM.out] at HQ
            obtain ⟨b0, o0, rfl, ka⟩ := HQ.out.at_ hkl
            rw [HM.out] at HQ
            have eyy : ∃ s : Int, w.cell? ⟨b0, o0 + k, none⟩ = some (.int .i64 s) ∧ sel.getD k 0 = s := ⟨_, ka, by rw [List.getD_eq_getElem?_getD, List.getElem?_eq_getElem hkl]; rfl⟩
            clear ka
            obtain ⟨s, ka, hgs⟩ := eyy
            have HKA := hidden ka
            have HGS := hidden hgs
            have HX := hidden (fun X (h : Grows wr X) => And.intro (HCL.out X (HB.out.of_below h)) (((HGX.out.of_below h).cell (World.block_lt_of_cell? _ _ HKA.out)).trans HKA.out))
            clear ka hgs hlt hkl
            by_cases hs0 : s < 0
            · have e0 : decide (s < 0) = true := by simpa using hs0
              have HE := hidden (HNO.out (.inr (.inr (.inr (selsB_no HLT.out (by unfold okSel; rw [HGS.out]; simp; omega))))))
              clear hs0
              go_wp2_with fail
              refine wp_region_loose (tabRs []) (by kernel_rfl) (by kernel_rfl) tabRs_nil ?_
              iterate 7 ((with_reducible refine loose_one (v := ?_) (a' := ?_) ?_ ?_ (fun w' hC' hG' => ?_) ?_ ?_); rotate_left 2; (focus rfl); (focus rfl); (focus (obtain ⟨⟨x0, x1, x3⟩, y0⟩ := HX.out w' hC'; clear hC' hG'; go_simp; rfl)); (focus (go_simp; rfl)))
              iterate 8 ((with_reducible refine loose_skip (a' := ?_) ?_ ?_ ?_); rotate_left 1; (focus rfl); (focus (go_simp; rfl)))
              iterate 2 ((with_reducible refine loose_one (v := ?_) (a' := ?_) ?_ ?_ (fun w' hC' hG' => ?_) ?_ ?_); rotate_left 2; (focus rfl); (focus rfl); (focus (obtain ⟨⟨x0, x1, x3⟩, y0⟩ := HX.out w' hC'; clear hC' hG'; go_simp; rfl)); (focus (go_simp; rfl)))
              iterate 16 ((with_reducible refine loose_skip (a' := ?_) ?_ ?_ ?_); rotate_left 1; (focus rfl); (focus (go_simp; rfl)))
              iterate 1 ((with_reducible refine loose_one (v := ?_) (a' := ?_) ?_ ?_ (fun w' hC' hG' => ?_) ?_ ?_); rotate_left 2; (focus rfl); (focus rfl); (focus (obtain ⟨⟨x0, x1, x3⟩, y0⟩ := HX.out w' hC'; clear hC' hG'; go_simp; rfl)); (focus (go_simp; rfl)))
              refine loose_done (fun w5 hC5 hG5 => ?_)
              have HB5 := hidden (HGX.out.of_below hC5)
              clear hC5 hG5 HX r0 r1 r3
              go_wp2_with fail
              go_ret
              exact ⟨retB HE.out.symm, HB5.out⟩
            have e0 : decide (s < 0) = false := by simpa using hs0
            by_cases hsL : L ≤ s
            · have e1 : decide (L ≤ s) = true := by simpa using hsL
              have HE := hidden (HNO.out (.inr (.inr (.inr (selsB_no HLT.out (by unfold okSel; rw [HGS.out]; simp; omega))))))
              clear hs0 hsL
              go_wp2_with fail
              refine wp_region_loose (tabRs []) (by kernel_rfl) (by kernel_rfl) tabRs_nil ?_
              iterate 17 ((with_reducible refine loose_one (v := ?_) (a' := ?_) ?_ ?_ (fun w' hC' hG' => ?_) ?_ ?_); rotate_left 2; (focus rfl); (focus rfl); (focus (obtain ⟨⟨x0, x1, x3⟩, y0⟩ := HX.out w' hC'; clear hC' hG'; go_simp; rfl)); (focus (go_simp; rfl)))
              iterate 16 ((with_reducible refine loose_skip (a' := ?_) ?_ ?_ ?_); rotate_left 1; (focus rfl); (focus (go_simp; rfl)))
              iterate 1 ((with_reducible refine loose_one (v := ?_) (a' := ?_) ?_ ?_ (fun w' hC' hG' => ?_) ?_ ?_); rotate_left 2; (focus rfl); (focus rfl); (focus (obtain ⟨⟨x0, x1, x3⟩, y0⟩ := HX.out w' hC'; clear hC' hG'; go_simp; rfl)); (focus (go_simp; rfl)))
              refine loose_done (fun w5 hC5 hG5 => ?_)
              have HB5 := hidden (HGX.out.of_below hC5)
              clear hC5 hG5 HX r0 r1 r3
              go_wp2_with fail
              go_ret
              exact ⟨retB HE.out.symm, HB5.out⟩
            have e1 : decide (L ≤ s) = false := by simpa using hsL
            have HIN := hidden (show 0 ≤ s ∧ s < L by omega)
            clear hs0 hsL
            by_cases hkz : k = 0
            · subst hkz
              have hm0 : 0 < m := HLT.out
              simp only [Nat.add_zero] at HX
              have HOS := hidden (show okSel L sel 0 = true by unfold okSel; rw [HGS.out]; have := HIN.out; simp; omega)
              go_wp2_with fail
              refine wp_region_loose (tabRs []) (by kernel_rfl) (by kernel_rfl) tabRs_nil ?_
              iterate 20 ((with_reducible refine loose_one (v := ?_) (a' := ?_) ?_ ?_ (fun w' hC' hG' => ?_) ?_ ?_); rotate_left 2; (focus rfl); (focus rfl); (focus (obtain ⟨⟨x0, x1, x3⟩, y0⟩ := HX.out w' hC'; clear hC' hG'; go_simp; rfl)); (focus (go_simp; rfl)))
              iterate 12 ((with_reducible refine loose_skip (a' := ?_) ?_ ?_ ?_); rotate_left 1; (focus rfl); (focus (go_simp; rfl)))
              iterate 2 ((with_reducible refine loose_one (v := ?_) (a' := ?_) ?_ ?_ (fun w' hC' hG' => ?_) ?_ ?_); rotate_left 2; (focus rfl); (focus rfl); (focus (obtain ⟨⟨x0, x1, x3⟩, y0⟩ := HX.out w' hC'; clear hC' hG'; go_simp; rfl)); (focus (go_simp; rfl)))
              refine loose_done (fun w5 hC5 hG5 => ?_)
              have HB5 := hidden (HB.out.of_below hC5)
              clear hC5 hG5 HX r0 r1 r3
              go_wp2_with fail
              go_roundw
              case rel => exact ⟨1, HLT.out, by go_num, by rw [selsB, HOS.out]; rfl, HB5.out⟩
              case measure => have := HLT.out; simp [intOf]; omega
            obtain ⟨j, rfl⟩ : ∃ j, k = j + 1 := ⟨k - 1, by omega⟩
            have hjl : j < sel.length := by rw [HM.out]; have := HLT.out; omega
            rw [← HM.out] at HQ
            obtain ⟨b1, o1, he1, kb⟩ := HQ.out.at_ hjl
            rw [HM.out] at HQ
            injection he1 with he1
            injection he1 with he1 he2
            subst he1 he2
            have eyy : ∃ t : Int, w.cell? ⟨b0, o0 + j, none⟩ = some (.int .i64 t) ∧ sel.getD j 0 = t := ⟨_, kb, by rw [List.getD_eq_getElem?_getD, List.getElem?_eq_getElem hjl]; rfl⟩
            clear kb
            obtain ⟨t, kb, hgt⟩ := eyy
            have HKB := hidden kb
            have HGT := hidden hgt
            have HX2 := hidden (fun X (h : Grows wr X) => And.intro (HX.out X h) (((HGX.out.of_below h).cell (World.block_lt_of_cell? _ _ HKB.out)).trans HKB.out))
            have hj0 : (0 : Int) ≤ (j : Int) := by omega
            have hj1 : (j : Int) < (m : Int) := by have := HLT.out; omega
            have hwj : IntKind.i64.wrap (j : Int) = (j : Int) := by first | go_num | (simp [IntKind.wrap, IntKind.bits, IntKind.signed]; omega)
            clear kb hgt hjl hkz HX
            by_cases hst : s ≤ t
            · have e2 : decide (s ≤ t) = true := by simpa using hst
              have HE := hidden (HNO.out (.inr (.inr (.inr (selsB_no HLT.out (by unfold okSel; rw [HGS.out, Nat.add_sub_cancel, HGT.out]; simp; omega))))))
              clear hst
              go_wp2_with fail
              refine wp_region_loose (tabRs []) (by kernel_rfl) (by kernel_rfl) tabRs_nil ?_
              iterate 34 ((with_reducible refine loose_one (v := ?_) (a' := ?_) ?_ ?_ (fun w' hC' hG' => ?_) ?_ ?_); rotate_left 2; (focus rfl); (focus rfl); (focus (obtain ⟨⟨⟨x0, x1, x3⟩, y0⟩, y1⟩ := HX2.out w' hC'; clear hC' hG'; go_simp; rfl)); (focus (go_simp; rfl)))
              refine loose_done (fun w5 hC5 hG5 => ?_)
              have HB5 := hidden (HGX.out.of_below hC5)
              clear hC5 hG5 HX2 r0 r1 r3
              go_wp2_with fail
              go_ret
              exact ⟨retB HE.out.symm, HB5.out⟩
            · have e2 : decide (s ≤ t) = false := by simpa using hst
              have HOS := hidden (show okSel L sel (j + 1) = true by unfold okSel; rw [HGS.out, Nat.add_sub_cancel, HGT.out]; have := HIN.out; simp; omega)
              clear hst
              go_wp2_with fail
              refine wp_region_loose (tabRs []) (by kernel_rfl) (by kernel_rfl) tabRs_nil ?_
              iterate 34 ((with_reducible refine loose_one (v := ?_) (a' := ?_) ?_ ?_ (fun w' hC' hG' => ?_) ?_ ?_); rotate_left 2; (focus rfl); (focus rfl); (focus (obtain ⟨⟨⟨x0, x1, x3⟩, y0⟩, y1⟩ := HX2.out w' hC'; clear hC' hG'; go_simp; rfl)); (focus (go_simp; rfl)))
              refine loose_done (fun w5 hC5 hG5 => ?_)
              have HB5 := hidden (HB.out.of_below hC5)
              clear hC5 hG5 HX2 r0 r1 r3
              go_wp2_with fail
              go_roundw
              case rel => exact ⟨j + 1 + 1, HLT.out, by go_num, by rw [selsB, HSL.out, HOS.out]; rfl, HB5.out⟩
              case measure => have := HLT.out; simp [intOf]; omega
          · have hke : k = m := by omega
            have hd : decide (k < m) = false := by simpa using hlt
            have HE := hidden (HYES.out HL0.out HAL.out HCA.out (by rw [← hke]; exact HSL.out))
            clear hlt hk hke
            go_wp2_with fail
            go_ret
            exact ⟨retB HE.out.symm, HGX.out⟩
end Go.Proofs.Ytfjhahhkakfhmaa
/-
  Shaken: what the claims of this seat need of this text. No condition.
-/
namespace Go.Proofs.Ytfjhahhkakfhmaa
set_option maxRecDepth 8000
open Go.RowKit
set_option linter.unusedVariables false
set_option linter.unusedSimpArgs false
theorem validVB_iff {v : Vec} : validVB v = true ↔ isTypeB v.T = true ∧ v.is.length = nIv v ∧ v.ts.length = nTv v ∧ ∀ i, i < v.ns.length → entryB v i = true := by
  unfold validVB
  rw [Bool.and_eq_true, Bool.and_eq_true, Bool.and_eq_true, decide_eq_true_eq, decide_eq_true_eq, entriesB_iff]
  constructor
  · rintro ⟨⟨h1, h2, h3⟩, h4⟩; exact ⟨h1, h2, h3, h4⟩
  · rintro ⟨h1, h2, h3, h4⟩; exact ⟨⟨h1, h2, h3⟩, h4⟩
theorem isTypeB_iff {T : Int} : isTypeB T = true ↔ T = 0 ∨ T = 1 ∨ T = 2 ∨ T = 3 := by
  unfold isTypeB
  simp only [Bool.and_eq_true, decide_eq_true_eq]
  omega
theorem lens_of {v : Vec} (h2 : v.is.length = nIv v) (h3 : v.ts.length = nTv v) : (v.T = 1 ∨ v.T = 2 → v.is.length = v.ns.length) ∧ (v.T = 3 → v.ts.length = v.ns.length) := by
  refine ⟨fun h => ?_, fun h => ?_⟩
  · rw [h2]; exact if_pos h
  · rw [h3]; exact if_pos h
theorem okAt_of_valid {v : Vec} (h : validVB v = true) : OkAt v := by
  obtain ⟨h1, h2, h3, h4⟩ := validVB_iff.1 h
  obtain ⟨l1, l2⟩ := lens_of h2 h3
  refine ⟨l1, l2, fun i hi => ?_⟩
  rcases isTypeB_iff.1 h1 with h0 | h0 | h0 | h0
  · have := h4 i hi
    unfold entryB at this
    rw [if_pos h0, List.getD_eq_getElem?_getD, List.getElem?_eq_getElem hi] at this
    exact .inl (by simpa using this)
  · exact .inr (.inl h0)
  · exact .inr (.inr (.inl h0))
  · exact .inr (.inr (.inr h0))
def entF (T : Int) (b : Bool) (n : Int) (s : Str) : Bool :=
  if T = 0 then b else if T = 3 then decide (s.length ≤ 4096) && (!b || decide (s = [])) else if T = 1 then decide (n = 0) || (decide (n = 1) && !b) else decide (n = 0) || !b
theorem entryB_eq (v : Vec) (i : Nat) : entryB v i = entF v.T (v.ns.getD i false) (v.is.getD i 0) (v.ts.getD i []) := rfl
theorem toList_empty {t : ByteArray} (h : t.toList.isEmpty = true) : t.data.toList = [] := by
  rw [ByteArray.toList_eq] at h
  simpa using h
def okL (T : Int) (l : List Val) : Prop := ∀ y ∈ l, fitsB y T = true ∧ validV y.k y.n y.t = true
end Go.Proofs.Ytfjhahhkakfhmaa
/-
  Shaken: what the claims of this seat need of this text. No condition.
-/
namespace Go.Proofs.Ytfjhahhkakfhmaa
set_option maxRecDepth 8000
open Go.RowKit
set_option linter.unusedVariables false
set_option linter.unusedSimpArgs false
theorem nul_fits (T : Int) : fitsB nulX T = true := by simp [fitsB, nulX]
theorem nul_valid : validV nulX.k nulX.n nulX.t = true := by simp [validV, nulX]
theorem vat_ok {v : Vec} (h : validVB v = true) {i : Nat} (hi : i < v.ns.length) : fitsB (vat v i) v.T = true ∧ validV (vat v i).k (vat v i).n (vat v i).t = true := by
  obtain ⟨h1, h2, h3, h4⟩ := validVB_iff.1 h
  obtain ⟨l1, l2⟩ := lens_of h2 h3
  have he := h4 i hi
  rw [entryB_eq] at he
  unfold vat
  split
  · exact ⟨nul_fits _, nul_valid⟩
  · rename_i hn
    have en : v.ns.getD i false = false := by
      rw [List.getD_eq_getElem?_getD, List.getElem?_eq_getElem hi] at hn ⊢
      simpa using hn
    rw [en] at he
    unfold entF at he
    split
    · rename_i h0
      rw [if_neg (by omega), if_pos h0] at he
      refine ⟨by simp [fitsB, h0], ?_⟩
      simp at he
      simp [validV, strOf_size, he]
    · rename_i h0
      refine ⟨by simp [fitsB], ?_⟩
      rcases isTypeB_iff.1 h1 with h5 | h5 | h5 | h5
      · rw [if_pos h5] at he; cases he
      · rw [if_neg (by omega), if_neg (by omega), if_pos h5] at he
        simp at he
        rw [h5]
        simp [validV]
        exact he
      · rw [h5]; simp [validV]
      · exact absurd h5 h0
theorem atI_ok {v : Vec} (h : validVB v = true) (i : Int) : fitsB (atI v i) v.T = true ∧ validV (atI v i).k (atI v i).n (atI v i).t = true := by
  unfold atI
  split
  · exact vat_ok h (by omega)
  · exact ⟨nul_fits _, nul_valid⟩
theorem getD_take {α : Type} {l : List α} {d : α} {k : Nat} (h : k < l.length) : l.take (k + 1) = l.take k ++ [l.getD k d] := by
  rw [List.take_add_one, List.getElem?_eq_getElem h, List.getD_eq_getElem?_getD, List.getElem?_eq_getElem h]
  rfl
theorem build_take {v : Vec} (h : validVB v = true) : ∀ k, k ≤ v.ns.length → buildV v.T ((List.range k).map (vat v)) = ⟨v.T, if v.T = 1 ∨ v.T = 2 then v.is.take k else [], if v.T = 3 then v.ts.take k else [], v.ns.take k⟩
  | 0, _ => by simp [buildV_nil]
  | k + 1, hk => by
    obtain ⟨h1, h2, h3, h4⟩ := validVB_iff.1 h
    obtain ⟨l1, l2⟩ := lens_of h2 h3
    have hi : k < v.ns.length := by omega
    have he := h4 k hi
    rw [entryB_eq] at he
    rw [List.range_succ, List.map_append, List.map_singleton, buildV_snoc, build_take h k (by omega)]
    have en0 : v.ns.getD k true = v.ns.getD k false := by rw [List.getD_eq_getElem?_getD, List.getD_eq_getElem?_getD, List.getElem?_eq_getElem hi]; rfl
    have hnn : v.ns.take k ++ [decide ((vat v k).k = 0)] = v.ns.take (k + 1) := by
      rw [getD_take (d := false) hi]
      congr 2
      unfold vat
      rw [en0]
      cases hb : v.ns.getD k false
      · rw [if_neg (by simp)]
        rw [hb] at he
        unfold entF at he
        split
        · simp
        · rw [decide_eq_false_iff_not]
          intro h0
          dsimp only at h0
          rw [if_pos h0] at he
          cases he
      · simp [nulX]
    unfold putV
    dsimp only
    congr 1
    · split
      · rename_i h0
        have hki : k < v.is.length := by rw [l1 h0]; exact hi
        rw [getD_take (d := 0) hki]
        congr 2
        unfold vat
        rw [en0]
        cases hb : v.ns.getD k false
        · rw [if_neg (by simp), if_neg (by omega)]
        · rw [if_pos rfl]
          rw [hb] at he
          unfold entF at he
          rw [if_neg (by omega), if_neg (by omega)] at he
          show (0 : Int) = _
          split at he <;> simp at he <;> exact he.symm
      · rfl
    · split
      · rename_i h0
        have hki : k < v.ts.length := by rw [l2 h0]; exact hi
        rw [getD_take (d := []) hki]
        congr 2
        unfold vat
        rw [en0]
        cases hb : v.ns.getD k false
        · rw [if_neg (by simp), if_pos h0]
          simp [strOf]
        · rw [if_pos rfl]
          rw [hb] at he
          unfold entF at he
          rw [if_neg (by omega), if_pos h0] at he
          simp at he
          simp [nulX, he.2]
      · rfl
theorem build_vals {v : Vec} (h : validVB v = true) : buildV v.T (valsW v) = v := by
  obtain ⟨h1, h2, h3, h4⟩ := validVB_iff.1 h
  unfold valsW
  rw [build_take h _ (Nat.le_refl _)]
  obtain ⟨T, is, ts, ns⟩ := v
  unfold nIv nTv at *
  dsimp only at *
  congr 1
  · split
    · rename_i h0
      rw [if_pos h0] at h2
      rw [← h2, List.take_length]
    · rename_i h0
      rw [if_neg h0] at h2
      exact (List.eq_nil_of_length_eq_zero h2).symm
  · split
    · rename_i h0
      rw [if_pos h0] at h3
      rw [← h3, List.take_length]
    · rename_i h0
      rw [if_neg h0] at h3
      exact (List.eq_nil_of_length_eq_zero h3).symm
  · rw [List.take_length]
end Go.Proofs.Ytfjhahhkakfhmaa
/-
  Shaken: what the claims of this seat need of this text. No condition.
-/
namespace Go.Proofs.Ytfjhahhkakfhmaa
set_option maxRecDepth 8000
open Go.RowKit
set_option linter.unusedVariables false
set_option linter.unusedSimpArgs false
def VecIR (v : Vec) (c : Int) (w : World) (e : Ending) (w' : World) : Prop := ∃ x, e = .returned (.tuple #[x, .int .i64 c]) ∧ IsV w' x v ∧ Grows w w'
def VecI (v : Vec) (w : World) (e : Ending) (w' : World) : Prop := ∃ x, e = .returned x ∧ IsV w' x v ∧ Grows w w'
def ValsI (l : List Val) (w : World) (e : Ending) (w' : World) : Prop := ∃ u, e = .returned u ∧ ReadsV w' u l ∧ Grows w w'
def IntsI (l : List Int) (w : World) (e : Ending) (w' : World) : Prop := ∃ u, e = .returned u ∧ IsI w' u l ∧ Grows w w'
def RowsI (ls : List (List Val)) (w : World) (e : Ending) (w' : World) : Prop := ∃ u, e = .returned u ∧ IsRs w' u ls ∧ Grows w w'
def BatI (B : Bat) (w : World) (e : Ending) (w' : World) : Prop := ∃ x, e = .returned x ∧ IsB w' x B ∧ Grows w w'
def BatIR (B : Bat) (c : Int) (w : World) (e : Ending) (w' : World) : Prop := ∃ x, e = .returned (.tuple #[x, .int .i64 c]) ∧ IsB w' x B ∧ Grows w w'
def BatsIR (l : List Bat) (c : Int) (w : World) (e : Ending) (w' : World) : Prop := ∃ x, e = .returned (.tuple #[x, .int .i64 c]) ∧ IsBs w' x l ∧ Grows w w'
def batR (Ts : List Int) (rs : List (List Val)) : Bat := ⟨(List.range Ts.length).map (fun j => buildV (Ts.getD j 0) (rs.map (fun r => r.getD j nulX))), rs.length, true, []⟩
def fitR (Ts : List Int) (rs : List (List Val)) : Prop := (∀ T ∈ Ts, isTypeB T = true) ∧ ∀ r ∈ rs, r.length = Ts.length ∧ validL r = true ∧ ∀ j, j < Ts.length → fitsB (r.getD j nulX) (Ts.getD j 0) = true
def flatB (B : Bat) : Bat := batR (typesB B) (rowsB B)
def piecesF (size : Nat) : Nat → List (List Val) → List (List (List Val))
  | 0, _ => []
  | f + 1, rs => if rs = [] then [] else rs.take size :: piecesF size f (rs.drop size)
def splitB (Ts : List Int) (rs : List (List Val)) (size : Nat) : List Bat := (piecesF size rs.length rs).map (batR Ts)
structure Pack : Prop where
  from_ : ∀ (u : Value) (l : List Val) (T : Int) (w : World), ReadsV w u l → l.length ≤ 1000 → validL l = true → frIn T → Calls Try.prog 11 #[.int .i64 T, u] w (VecIR (fromV T l) (fromE T l) w)
  at_ : ∀ (x : Value) (v : Vec) (i : Int) (w : World), IsV w x v → validVB v = true → v.ns.length ≤ 1000 → frIn i → Calls Try.prog 14 #[x, .int .i64 i] w (VaR (atI v i) w)
  values : ∀ (x : Value) (v : Vec) (w : World), IsV w x v → validVB v = true → v.ns.length ≤ 1000 → Calls Try.prog 17 #[x] w (ValsI (valsW v) w)
  valid : ∀ (x : Value) (v : Vec) (w : World), IsV w x v → FitLen v → frIn v.T → Calls Try.prog 19 #[x] w fun e w' => e = .returned (.bool (validVB v)) ∧ Grows w w'
  validB : ∀ (x : Value) (B : Bat) (w : World), IsB w x B → FitB B → frIn B.len → (∀ v ∈ B.cs, frIn v.T) → (∀ i ∈ B.sel, frIn i) → Calls Try.prog 21 #[x] w fun e w' => e = .returned (.bool (validBB B)) ∧ Grows w w'
  gather : ∀ (x : Value) (v : Vec) (u : Value) (l : List Int) (w : World), IsV w x v → validVB v = true → v.ns.length ≤ 1000 → IsI w u l → l.length ≤ 1000 → (∀ i ∈ l, frIn i) → Calls Try.prog 24 #[x, u] w (VecI (gatherV v l) w)
  const : ∀ (T : Int) (y : Val) (n : Int) (w : World), validV y.k y.n y.t = true → frIn T → -9223372036854775808 ≤ n → n ≤ 1000 → Calls Try.prog 26 #[.int .i64 T, vV y, .int .i64 n] w (VecI (constVec T y n) w)
  concat : ∀ (u : Value) (l : List Vec) (w : World), IsVs w u l → l.length ≤ 100 → (∀ x ∈ l, validVB x = true ∧ x.ns.length ≤ 1000) → Calls Try.prog 28 #[u] w (VecIR (catV l) (catE l) w)
  rows : ∀ (x : Value) (B : Bat) (w : World), IsB w x B → validBB B = true → B.cs.length ≤ 100 → B.len ≤ 1000 → Calls Try.prog 31 #[x] w (RowsI (rowsB B) w)
  types : ∀ (x : Value) (B : Bat) (w : World), IsB w x B → validBB B = true → B.cs.length ≤ 100 → B.len ≤ 1000 → Calls Try.prog 34 #[x] w (IntsI (typesB B) w)
  flatten : ∀ (x : Value) (B : Bat) (w : World), IsB w x B → validBB B = true → B.cs.length ≤ 100 → B.len ≤ 1000 → Calls Try.prog 37 #[x] w (BatI (flatB B) w)
  allrows : ∀ (u : Value) (l : List Bat) (w : World), IsBs w u l → l.length ≤ 1000 → (∀ B ∈ l, validBB B = true ∧ B.cs.length ≤ 100 ∧ B.len ≤ 1000) → Calls Try.prog 39 #[u] w (RowsI (allRowsB l) w)
  fromRows : ∀ (u : Value) (Ts : List Int) (v : Value) (rs : List (List Val)) (w : World), IsI w u Ts → IsRs w v rs → fitR Ts rs → Ts.length ≤ 100 → rs.length ≤ 1000 → Calls Try.prog 41 #[u, v] w (BatIR (batR Ts rs) 0 w)
  split : ∀ (u : Value) (Ts : List Int) (v : Value) (rs : List (List Val)) (size : Nat) (w : World), IsI w u Ts → IsRs w v rs → fitR Ts rs → Ts.length ≤ 100 → rs.length ≤ 1000 → 1 ≤ size → size ≤ 1024 → Calls Try.prog 42 #[u, v, .int .i64 (size : Int)] w (BatsIR (splitB Ts rs size) 0 w)
end Go.Proofs.Ytfjhahhkakfhmaa
/-
  Shaken: what the claims of this seat need of this text. No condition.
-/
namespace Go.Proofs.Ytfjhahhkakfhmaa
set_option maxRecDepth 8000
open Go.RowKit
set_option linter.unusedVariables false
set_option linter.unusedSimpArgs false
def entD {α : Type} (l : List α) (i : Int) (d : α) : α := if 0 ≤ i ∧ i < (l.length : Int) then l.getD i.toNat d else d
theorem entD_in {α : Type} {l : List α} {k : Nat} {d : α} (h : k < l.length) : entD l (k : Int) d = l[k] := by
  unfold entD
  rw [if_pos ⟨by omega, by omega⟩, Int.toNat_natCast, List.getD_eq_getElem?_getD, List.getElem?_eq_getElem h]
  rfl
theorem entD_out {α : Type} {l : List α} {i : Int} {d : α} (h : i < 0 ∨ (l.length : Int) ≤ i) : entD l i d = d := by
  unfold entD
  rw [if_neg (by omega)]
theorem foldl_eq17 : ∀ (l : List Val) (v : Vec), l.foldl putV v = ⟨v.T, if v.T = 1 ∨ v.T = 2 then v.is ++ l.map (·.n) else v.is, if v.T = 3 then v.ts ++ l.map (·.t.data.toList) else v.ts, v.ns ++ l.map (fun y => decide (y.k = 0))⟩
  | [], v => by simp
  | y :: l, v => by
    rw [List.foldl_cons, foldl_eq17 l]
    have e : (putV v y).T = v.T := rfl
    rw [e]
    unfold putV
    simp only [List.map_cons, Vec.mk.injEq, true_and]
    refine ⟨?_, ?_, ?_⟩
    · by_cases h : v.T = 1 ∨ v.T = 2
      · simp only [if_pos h, List.append_assoc, List.singleton_append]
      · simp only [if_neg h]
    · by_cases h : v.T = 3
      · simp only [if_pos h, List.append_assoc, List.singleton_append]
      · simp only [if_neg h]
    · simp only [List.append_assoc, List.singleton_append]
theorem buildV_eq (T : Int) (l : List Val) : buildV T l = ⟨T, if T = 1 ∨ T = 2 then l.map (·.n) else [], if T = 3 then l.map (·.t.data.toList) else [], l.map (fun y => decide (y.k = 0))⟩ := by
  unfold buildV
  rw [foldl_eq17]
  simp only [List.nil_append]
theorem data_strOf (s : Str) : (strOf s).data.toList = s := by simp [strOf]
theorem atI_parts {v : Vec} (h : validVB v = true) (i : Int) : (v.T = 1 ∨ v.T = 2 → (atI v i).n = entD v.is i 0) ∧ (v.T = 3 → (atI v i).t.data.toList = entD v.ts i []) ∧ decide ((atI v i).k = 0) = entD v.ns i true := by
  obtain ⟨h1, h2, h3, h4⟩ := validVB_iff.1 h
  obtain ⟨l1, l2⟩ := lens_of h2 h3
  unfold atI
  by_cases hr : 0 ≤ i ∧ i < (v.ns.length : Int)
  · rw [if_pos hr]
    obtain ⟨j, rfl⟩ := Int.eq_ofNat_of_zero_le hr.1
    have hj : j < v.ns.length := by omega
    rw [Int.toNat_natCast]
    have he := h4 j hj
    rw [entryB_eq] at he
    have en : v.ns.getD j true = v.ns[j] := by rw [List.getD_eq_getElem?_getD, List.getElem?_eq_getElem hj]; rfl
    have en' : v.ns.getD j false = v.ns[j] := by rw [List.getD_eq_getElem?_getD, List.getElem?_eq_getElem hj]; rfl
    rw [en'] at he
    have e3 : entD v.ns (j : Int) true = v.ns[j] := entD_in hj
    unfold vat
    rw [en, e3]
    cases hb : v.ns[j] with
    | true =>
      rw [hb] at he
      simp only [if_true]
      refine ⟨fun hT => ?_, fun hT => ?_, rfl⟩
      · have hji : j < v.is.length := by rw [l1 hT]; exact hj
        have e1 : v.is.getD j 0 = v.is[j] := by rw [List.getD_eq_getElem?_getD, List.getElem?_eq_getElem hji]; rfl
        rw [entD_in hji]
        unfold entF at he
        rw [if_neg (by omega), if_neg (by omega), e1] at he
        split at he <;> simp at he <;> exact he.symm
      · have hji : j < v.ts.length := by rw [l2 hT]; exact hj
        have e1 : v.ts.getD j [] = v.ts[j] := by rw [List.getD_eq_getElem?_getD, List.getElem?_eq_getElem hji]; rfl
        rw [entD_in hji]
        unfold entF at he
        rw [if_neg (by omega), if_pos hT, e1] at he
        simp at he
        rw [he.2]
        rfl
    | false =>
      rw [hb] at he
      simp only [Bool.false_eq_true, if_false]
      refine ⟨fun hT => ?_, fun hT => ?_, ?_⟩
      · have hji : j < v.is.length := by rw [l1 hT]; exact hj
        rw [if_neg (by omega), entD_in hji]
        show v.is.getD j 0 = _
        rw [List.getD_eq_getElem?_getD, List.getElem?_eq_getElem hji]; rfl
      · have hji : j < v.ts.length := by rw [l2 hT]; exact hj
        rw [if_pos hT, entD_in hji]
        show (strOf (v.ts.getD j [])).data.toList = _
        rw [data_strOf, List.getD_eq_getElem?_getD, List.getElem?_eq_getElem hji]; rfl
      · have h0 : v.T ≠ 0 := by
          intro h0
          unfold entF at he
          rw [if_pos h0] at he
          cases he
        by_cases hT : v.T = 3
        · rw [if_pos hT]; rfl
        · rw [if_neg hT]
          exact decide_eq_false h0
  · rw [if_neg hr]
    refine ⟨fun hT => ?_, fun hT => ?_, ?_⟩
    · rw [entD_out (by have := l1 hT; omega)]; rfl
    · rw [entD_out (by have := l2 hT; omega)]; rfl
    · rw [entD_out (by omega)]; rfl
theorem gatherV_eq {v : Vec} (h : validVB v = true) (l : List Int) : gatherV v l = ⟨v.T, if v.T = 1 ∨ v.T = 2 then l.map (fun i => entD v.is i 0) else [], if v.T = 3 then l.map (fun i => entD v.ts i []) else [], l.map (fun i => entD v.ns i true)⟩ := by
  unfold gatherV
  rw [buildV_eq]
  simp only [List.map_map, Vec.mk.injEq, true_and]
  refine ⟨?_, ?_, ?_⟩
  · by_cases hT : v.T = 1 ∨ v.T = 2
    · rw [if_pos hT, if_pos hT]
      exact List.map_congr_left (fun i _ => (atI_parts h i).1 hT)
    · rw [if_neg hT, if_neg hT]
  · by_cases hT : v.T = 3
    · rw [if_pos hT, if_pos hT]
      exact List.map_congr_left (fun i _ => (atI_parts h i).2.1 hT)
    · rw [if_neg hT, if_neg hT]
  · exact List.map_congr_left (fun i _ => (atI_parts h i).2.2)
def joinV (T : Int) (l : List Vec) : Vec := ⟨T, l.flatMap (·.is), l.flatMap (·.ts), l.flatMap (·.ns)⟩
theorem join_eq (T : Int) : ∀ (l : List Vec), (∀ x ∈ l, x.T = T ∧ validVB x = true) → buildV T (l.flatMap valsW) = joinV T l
  | [], _ => by rw [buildV_eq]; simp [joinV]
  | x :: l, h => by
    have ih := join_eq T l (fun y hy => h y (List.mem_cons_of_mem _ hy))
    obtain ⟨hT, hv⟩ := h x (List.mem_cons_self ..)
    have hb := build_vals hv
    rw [hT, buildV_eq] at hb
    rw [buildV_eq] at ih ⊢
    unfold joinV at ih ⊢
    simp only [Vec.mk.injEq, true_and] at ih
    obtain ⟨i1, i2, i3⟩ := ih
    have b1 : (if T = 1 ∨ T = 2 then (valsW x).map (·.n) else []) = x.is := congrArg Vec.is hb
    have b2 : (if T = 3 then (valsW x).map (·.t.data.toList) else []) = x.ts := congrArg Vec.ts hb
    have b3 : (valsW x).map (fun y => decide (y.k = 0)) = x.ns := congrArg Vec.ns hb
    simp only [List.flatMap_cons, List.map_append, Vec.mk.injEq, true_and]
    refine ⟨?_, ?_, ?_⟩
    · rw [← i1, ← b1]
      split <;> rfl
    · rw [← i2, ← b2]
      split <;> rfl
    · rw [← i3, ← b3]
theorem catV_eq {x : Vec} {l : List Vec} (hc : catB (x :: l) = true) (hv : ∀ y ∈ x :: l, validVB y = true) : catV (x :: l) = joinV x.T (x :: l) := by
  unfold catV
  rw [if_neg (by simp), if_pos hc]
  refine join_eq _ _ (fun y hy => ⟨?_, hv y hy⟩)
  unfold catB at hc
  exact of_decide_eq_true (List.all_eq_true.1 hc y hy)
def idxB (B : Bat) : List Int := if B.all = true then (List.range B.len.toNat).map (fun i : Nat => (i : Int)) else B.sel
theorem rowsB_idx (B : Bat) : rowsB B = (idxB B).map (rowV B) := by
  unfold rowsB idxB
  split
  · rw [List.map_map]; rfl
  · rfl
theorem flatB_eq (B : Bat) : flatB B = ⟨B.cs.map (fun v => gatherV v (idxB B)), ((idxB B).length : Int), true, []⟩ := by
  unfold flatB batR
  rw [rowsB_idx]
  simp only [Bat.mk.injEq, List.length_map, and_true, true_and]
  apply List.ext_getElem
  · simp [typesB]
  intro j h1 h2
  have hj : j < B.cs.length := by simpa using h2
  rw [List.getElem_map, List.getElem_map, List.getElem_range]
  unfold gatherV
  have eT : (typesB B).getD j 0 = (B.cs[j]).T := by
    unfold typesB
    rw [List.getD_eq_getElem?_getD, List.getElem?_map, List.getElem?_eq_getElem hj]; rfl
  rw [eT, List.map_map]
  congr 1
  apply List.map_congr_left
  intro i _
  show (rowV B i).getD j nulX = _
  unfold rowV
  rw [List.getD_eq_getElem?_getD, List.getElem?_map, List.getElem?_eq_getElem hj]; rfl
end Go.Proofs.Ytfjhahhkakfhmaa
/-
  Shaken: what the claims of this seat need of this text. No condition.
-/
namespace Go.Proofs.Ytfjhahhkakfhmaa
set_option maxRecDepth 8000
open Go.RowKit
set_option linter.unusedVariables false
set_option linter.unusedSimpArgs false
theorem isType_any (T : Int) (w : World) : Calls Try.prog 44 #[.int .i64 T] w fun e w' => e = .returned (.bool (isTypeB T)) ∧ w' = w := by
  have b0 : isTypeB 0 = true := by decide
  have b1 : isTypeB 1 = true := by decide
  have b2 : isTypeB 2 = true := by decide
  have b3 : isTypeB 3 = true := by decide
  by_cases h0 : T = 0
  · subst h0
    go_enter Try.func44, Try.ntmps44
    go_wp2_with fail
    go_ret
    exact ⟨by rw [b0]; rfl, rfl⟩
  have d0 : (T == 0) = false := by simpa using h0
  by_cases h1 : T = 1
  · subst h1
    go_enter Try.func44, Try.ntmps44
    go_wp2_with fail
    go_ret
    exact ⟨by rw [b1]; rfl, rfl⟩
  have d1 : (T == 1) = false := by simpa using h1
  by_cases h2 : T = 2
  · subst h2
    go_enter Try.func44, Try.ntmps44
    go_wp2_with fail
    go_ret
    exact ⟨by rw [b2]; rfl, rfl⟩
  have d2 : (T == 2) = false := by simpa using h2
  by_cases h3 : T = 3
  · subst h3
    go_enter Try.func44, Try.ntmps44
    go_wp2_with fail
    go_ret
    exact ⟨by rw [b3]; rfl, rfl⟩
  have d3 : (T == 3) = false := by simpa using h3
  have hb : isTypeB T = false := by
    unfold isTypeB
    simp only [Bool.and_eq_false_iff, decide_eq_false_iff_not]
    omega
  · go_enter Try.func44, Try.ntmps44
    go_wp2_with fail
    go_ret
    exact ⟨by rw [hb]; rfl, rfl⟩
theorem fits_any (y : Val) (T : Int) (w : World) : Calls Try.prog 45 #[.int .i64 T, vV y] w fun e w' => e = .returned (.bool (fitsB y T)) ∧ Grows w w' := by
  obtain ⟨k, n, t⟩ := y
  have HG := hidden (grow17 (Below.refl _ w) (.cells #[.int .i64 k, .int .i64 n, .string t] 37))
  unfold fitsB vV
  dsimp only
  by_cases h0 : k = 0
  · have d0 : (k == 0) = true := by simpa using h0
    subst h0
    go_enter Try.func45, Try.ntmps45
    go_wp2_with fail
    go_ret
    exact ⟨by simp, HG.out⟩
  · have d0 : (k == 0) = false := by simpa using h0
    go_enter Try.func45, Try.ntmps45
    go_wp2_with fail
    go_ret
    refine ⟨?_, HG.out⟩
    by_cases h1 : k = T
    · simp [h0, h1]
    · simp [h0, h1]
def isBoolB (n : Int) : Bool := decide (n = 0) || decide (n = 1)
theorem isBool_any (n : Int) (w : World) : Calls Try.prog 56 #[.int .i64 n] w fun e w' => e = .returned (.bool (isBoolB n)) ∧ w' = w := by
  by_cases h0 : n = 0
  · subst h0
    go_enter Try.func56, Try.ntmps56
    go_wp2_with fail
    go_ret
    exact ⟨by simp [isBoolB], rfl⟩
  · have d0 : (n == 0) = false := by simpa using h0
    go_enter Try.func56, Try.ntmps56
    go_wp2_with fail
    go_ret
    refine ⟨?_, rfl⟩
    by_cases h1 : n = 1
    · simp [h1, isBoolB]
    · simp [h0, h1, isBoolB]
theorem isInt_any (n : Int) (w : World) : Calls Try.prog 57 #[.int .i64 n] w fun e w' => e = .returned (.bool true) ∧ w' = w := by
  go_enter Try.func57, Try.ntmps57
  go_wp2_with fail
  go_ret
  exact ⟨rfl, rfl⟩
theorem isText_any (s : Str) (w : World) : Calls Try.prog 59 #[.string (strOf s)] w fun e w' => e = .returned (.bool (decide (s.length ≤ 4096))) ∧ w' = w := by
  have hs := strOf_size s
  go_enter Try.func59, Try.ntmps59
  go_wp2_with fail
  go_ret
  refine ⟨?_, rfl⟩
  by_cases h : s.length ≤ 4096
  · simp [h, hs] <;> omega
  · simp [h, hs] <;> omega
def isLenB (n : Int) : Bool := decide (0 ≤ n) && decide (n ≤ 2147483647)
theorem isLength_any (n : Int) (w : World) : Calls Try.prog 64 #[.int .i64 n] w fun e w' => e = .returned (.bool (isLenB n)) ∧ w' = w := by
  by_cases h0 : 0 ≤ n
  · have d0 : decide (0 ≤ n) = true := by simpa using h0
    have d1 : decide (n < 0) = false := by simpa using h0
    go_enter Try.func64, Try.ntmps64
    go_wp2_with fail
    go_ret
    refine ⟨?_, rfl⟩
    by_cases h1 : n ≤ 2147483647
    · simp [h0, h1, isLenB]
    · simp [h0, h1, isLenB] <;> omega
  · have d0 : decide (0 ≤ n) = false := by simpa using h0
    have d1 : decide (n < 0) = true := by simpa using h0
    go_enter Try.func64, Try.ntmps64
    go_wp2_with fail
    go_ret
    refine ⟨?_, rfl⟩
    simp [h0, isLenB]
    omega
theorem entryT_any (u : Value) (l : List Bool) (i : Int) (d : Bool) (w : World) (hu : IsT w u l) : Calls Try.prog 51 #[u, .int .i64 i, .bool d] w fun e w' => e = .returned (.bool (entD l i d)) ∧ w' = w := by
  obtain ⟨A, c, rfl⟩ := hu.slice_
  by_cases h0 : i < 0
  · have d0 : decide (i < 0) = true := by simpa using h0
    rw [entD_out (.inl h0)]
    generalize l.length = n at *
    go_enter Try.func51, Try.ntmps51
    go_wp2_with fail
    go_ret
    exact ⟨rfl, rfl⟩
  have d0 : decide (i < 0) = false := by simpa using h0
  by_cases h1 : (l.length : Int) ≤ i
  · rw [entD_out (.inr h1)]
    have d1 : decide ((l.length : Int) ≤ i) = true := by simpa using h1
    generalize l.length = n at *
    go_enter Try.func51, Try.ntmps51
    go_wp2_with fail
    go_ret
    exact ⟨rfl, rfl⟩
  obtain ⟨k, rfl⟩ := Int.eq_ofNat_of_zero_le (show 0 ≤ i by omega)
  have hk : k < l.length := by omega
  rw [entD_in hk]
  obtain ⟨b, off, rfl, hc⟩ := hu.at_ hk
  obtain ⟨n, hn⟩ : ∃ n, l.length = n := ⟨_, rfl⟩
  have hkn : k < n := by omega
  have d1 : decide (n ≤ k) = false := by simpa using hkn
  generalize l[k] = x at *
  rw [hn]
  clear hn h0 h1 d0 hk hu
  go_enter Try.func51, Try.ntmps51
  go_wp2_with fail
  go_ret
  exact ⟨rfl, rfl⟩
theorem entryI_any (u : Value) (l : List Int) (i : Int) (d : Int) (w : World) (hu : IsI w u l) : Calls Try.prog 52 #[u, .int .i64 i, .int .i64 d] w fun e w' => e = .returned (.int .i64 (entD l i d)) ∧ w' = w := by
  obtain ⟨A, c, rfl⟩ := hu.slice_
  by_cases h0 : i < 0
  · have d0 : decide (i < 0) = true := by simpa using h0
    rw [entD_out (.inl h0)]
    generalize l.length = n at *
    go_enter Try.func52, Try.ntmps52
    go_wp2_with fail
    go_ret
    exact ⟨rfl, rfl⟩
  have d0 : decide (i < 0) = false := by simpa using h0
  by_cases h1 : (l.length : Int) ≤ i
  · rw [entD_out (.inr h1)]
    have d1 : decide ((l.length : Int) ≤ i) = true := by simpa using h1
    generalize l.length = n at *
    go_enter Try.func52, Try.ntmps52
    go_wp2_with fail
    go_ret
    exact ⟨rfl, rfl⟩
  obtain ⟨k, rfl⟩ := Int.eq_ofNat_of_zero_le (show 0 ≤ i by omega)
  have hk : k < l.length := by omega
  rw [entD_in hk]
  obtain ⟨b, off, rfl, hc⟩ := hu.at_ hk
  obtain ⟨n, hn⟩ : ∃ n, l.length = n := ⟨_, rfl⟩
  have hkn : k < n := by omega
  have d1 : decide (n ≤ k) = false := by simpa using hkn
  generalize l[k] = x at *
  rw [hn]
  clear hn h0 h1 d0 hk hu
  go_enter Try.func52, Try.ntmps52
  go_wp2_with fail
  go_ret
  exact ⟨rfl, rfl⟩
theorem entryS_any (u : Value) (l : List Str) (i : Int) (d : Str) (w : World) (hu : IsS w u l) : Calls Try.prog 53 #[u, .int .i64 i, .string (strOf d)] w fun e w' => e = .returned (.string (strOf (entD l i d))) ∧ w' = w := by
  obtain ⟨A, c, rfl⟩ := hu.slice_
  by_cases h0 : i < 0
  · have d0 : decide (i < 0) = true := by simpa using h0
    rw [entD_out (.inl h0)]
    generalize l.length = n at *
    go_enter Try.func53, Try.ntmps53
    go_wp2_with fail
    go_ret
    exact ⟨rfl, rfl⟩
  have d0 : decide (i < 0) = false := by simpa using h0
  by_cases h1 : (l.length : Int) ≤ i
  · rw [entD_out (.inr h1)]
    have d1 : decide ((l.length : Int) ≤ i) = true := by simpa using h1
    generalize l.length = n at *
    go_enter Try.func53, Try.ntmps53
    go_wp2_with fail
    go_ret
    exact ⟨rfl, rfl⟩
  obtain ⟨k, rfl⟩ := Int.eq_ofNat_of_zero_le (show 0 ≤ i by omega)
  have hk : k < l.length := by omega
  rw [entD_in hk]
  obtain ⟨b, off, rfl, hc⟩ := hu.at_ hk
  obtain ⟨n, hn⟩ : ∃ n, l.length = n := ⟨_, rfl⟩
  have hkn : k < n := by omega
  have d1 : decide (n ≤ k) = false := by simpa using hkn
  generalize strOf l[k] = x at *
  rw [hn]
  clear hn h0 h1 d0 hk hu
  go_enter Try.func53, Try.ntmps53
  go_wp2_with fail
  go_ret
  exact ⟨rfl, rfl⟩
end Go.Proofs.Ytfjhahhkakfhmaa
/-
  Shaken: what the claims of this seat need of this text. No condition.
-/
namespace Go.Proofs.Ytfjhahhkakfhmaa
set_option maxRecDepth 8000
open Go.RowKit
set_option linter.unusedVariables false
set_option linter.unusedSimpArgs false
set_option maxHeartbeats 2000000 in
theorem at17_any (x : Value) (v : Vec) (i : Int) (w : World) (hx : IsV w x v) (ho : OkAt v) :
    Calls Try.prog 14 #[x, .int .i64 i] w (VaR (atI v i) w) := by
  obtain ⟨T, is, ts, ns⟩ := v
  obtain ⟨a1, a2, a3, rfl, j1, j2, j3⟩ := hx
  obtain ⟨o1, o2, o3⟩ := ho
  dsimp only at *
  have J1 := hidden j1
  have J2 := hidden j2
  have J3 := hidden j3
  obtain ⟨A1, c1, rfl⟩ := j1.slice_
  obtain ⟨A2, c2, rfl⟩ := j2.slice_
  obtain ⟨A3, c3, rfl⟩ := j3.slice_
  obtain ⟨W0, hW0⟩ : ∃ W0, W0 = (w.alloc (.cells #[.int .i64 T, .slice A1 is.length c1, .slice A2 ts.length c2, .slice A3 ns.length c3] 29)).alloc (.cells #[.int .i64 0, .int .i64 0, .string ⟨#[]⟩] 37) := ⟨_, rfl⟩
  have HG := hidden (show Grows w W0 by rw [hW0]; exact (grow1 _).of_below (grow1 _))
  have HR := hidden (show Row W0 (w.heap.size + 1) 37 [.int .i64 0, .int .i64 0, .string ⟨#[]⟩] by rw [hW0]; exact Row.at_ (w.alloc _) 37 #[.int .i64 0, .int .i64 0, .string ⟨#[]⟩] _ rfl (w.heap.size + 1) (by simp))
  have HV := hidden (show Row W0 w.heap.size 29 [.int .i64 T, .slice A1 is.length c1, .slice A2 ts.length c2, .slice A3 ns.length c3] by rw [hW0]; exact (Row.new w 29 #[.int .i64 T, .slice A1 is.length c1, .slice A2 ts.length c2, .slice A3 ns.length c3] _ rfl).grow (grow1 _))
  subst hW0
  have HE3 := hidden (fun W (h : Grows w W) => entryT_any _ ns i true W (J3.out.grow h))
  have HE1 := hidden (fun W (h : Grows w W) => entryI_any _ is i 0 W (J1.out.grow h))
  have HE2 := hidden (fun W (h : Grows w W) => entryS_any _ ts i [] W (J2.out.grow h))
  have hs0 : (strOf [] : ByteArray) = ⟨#[]⟩ := rfl
  rw [hs0] at HE2
  have hv : (entD ns i true = true → atI ⟨T, is, ts, ns⟩ i = nulX) ∧ (entD ns i true = false → (T = 1 ∨ T = 2 → atI ⟨T, is, ts, ns⟩ i = ⟨T, entD is i 0, ⟨#[]⟩⟩) ∧ (T = 3 → atI ⟨T, is, ts, ns⟩ i = ⟨3, 0, strOf (entD ts i [])⟩) ∧ (T = 1 ∨ T = 2 ∨ T = 3)) := by
    unfold atI
    by_cases hr : 0 ≤ i ∧ i < (ns.length : Int)
    · rw [if_pos hr]
      obtain ⟨j, rfl⟩ := Int.eq_ofNat_of_zero_le hr.1
      have hj : j < ns.length := by omega
      rw [Int.toNat_natCast, entD_in hj]
      have en : ns.getD j true = ns[j] := by rw [List.getD_eq_getElem?_getD, List.getElem?_eq_getElem hj]; rfl
      have h3 := o3 j hj
      unfold vat
      dsimp only
      rw [en]
      refine ⟨fun h => if_pos h, fun h => ?_⟩
      rw [h] at h3
      rw [h, if_neg (by simp)]
      have h4 : T = 1 ∨ T = 2 ∨ T = 3 := by rcases h3 with h3 | h3; cases h3; exact h3
      refine ⟨fun hT => ?_, fun hT => ?_, h4⟩
      · rw [if_neg (by omega)]
        have hji : j < is.length := by rw [o1 hT]; exact hj
        rw [entD_in hji, List.getD_eq_getElem?_getD, List.getElem?_eq_getElem hji]; rfl
      · rw [if_pos hT]
        have hji : j < ts.length := by rw [o2 hT]; exact hj
        rw [entD_in hji, List.getD_eq_getElem?_getD, List.getElem?_eq_getElem hji]; rfl
    · rw [if_neg hr]
      have hr' : i < 0 ∨ (ns.length : Int) ≤ i := by omega
      rw [entD_out hr']
      exact ⟨fun _ => rfl, fun h => by cases h⟩
  generalize entD ns i true = nb at *
  generalize entD is i 0 = m at *
  generalize strOf (entD ts i []) = s at *
  generalize atI ⟨T, is, ts, ns⟩ i = r at *
  clear j1 j2 j3 o1 o2 o3 hs0 J1 J2 J3
  generalize is.length = n1 at *
  generalize ts.length = n2 at *
  generalize ns.length = n3 at *
  have hp0 := HV.out.cell 0
  have hp1 := HV.out.cell 1
  have hp2 := HV.out.cell 2
  have hp3 := HV.out.cell 3
  simp only [List.getElem?_cons_succ, List.getElem?_cons_zero] at hp0 hp1 hp2 hp3
  cases nb
  · obtain ⟨e12, e3, hT⟩ := hv.2 rfl
    clear hv
    by_cases h3 : T = 3
    · have hre := e3 h3
      subst hre
      subst h3
      clear hT e12 e3
      go_enter Try.func14, Try.ntmps14
      go_wp2_with (first
        | (go_at_call 51; refine (HE3.out _ HG.out).mono ?_; rintro e w1 ⟨rfl, rfl⟩)
        | (go_at_call 53; refine (HE2.out _ HG.out).mono ?_; rintro e w1 ⟨rfl, rfl⟩)
        | (refine wpList_store_f3 rfl _ _ rfl (w.heap.size + 1) 0 rfl 3 0 s rfl _ _ HR.out (by simp) ?_; intro W1 hr1 ht1; have HR1 := hidden hr1; have HT1 := hidden (ht1.grows w HG.out (by omega)); clear hr1 ht1))
      exact bodyPost_ret (results_val rfl _ _ _ _ _ _ rfl HR1.out) rfl ⟨rfl, HT1.out⟩
    · have h12 : T = 1 ∨ T = 2 := by omega
      have hre := e12 h12
      subst hre
      clear e12 e3 hT
      have HCX : Hid (∀ X, Grows ((w.alloc (.cells #[.int .i64 T, .slice A1 n1 c1, .slice A2 n2 c2, .slice A3 n3 c3] 29)).alloc (.cells #[.int .i64 0, .int .i64 0, .string ⟨#[]⟩] 37)) X → X.cell? ⟨w.heap.size, 0, none⟩ = some (.int .i64 T) ∧ X.cell? ⟨w.heap.size, 1, none⟩ = some (.slice A1 n1 c1)) := hidden fun X h => ⟨(HV.out.grow h).cell 0, (HV.out.grow h).cell 1⟩
      have HC1 := hidden (fun W h => const_loose ((HE1.out W (HG.out.of_below h)).mono fun e w' ⟨h1, h2⟩ => ⟨h1, by rw [h2]; exact Below.refl _ _⟩))
      have key : ∀ T', T' = T → (T' == 1) = true ∨ ((T' == 1) = false ∧ (T' == 2) = true) := fun T' h => by
        subst h
        rcases h12 with h | h
        · left; simp [h]
        · right; simp [h]
      have hk := key T rfl
      clear key h12 h3
      rcases hk with t1 | ⟨t1, t2⟩
      all_goals
        go_enter Try.func14, Try.ntmps14
        go_wp2_with (first
          | (go_at_call 51; refine (HE3.out _ HG.out).mono ?_; rintro e w1 ⟨rfl, rfl⟩))
        refine wp_region_loose_tail 7 (tabRs [(5, ConstV (.int .i64 m))]) (by kernel_rfl) (by kernel_rfl) (tabRs_cons ConstV.lasts tabRs_nil) ?_
        simp only [List.take_succ_cons, List.take_zero, List.drop_succ_cons, List.drop_zero]
        iterate 5 ((with_reducible refine loose_one (v := ?_) (a' := ?_) ?_ ?_ (fun w' hC' hG' => ?_) ?_ ?_); rotate_left 2; (focus rfl); (focus rfl); (focus (obtain ⟨s0, s1⟩ := HCX.out w' hC'; clear hC' hG'; go_simp; rfl)); (focus (go_simp; rfl)))
        refine loose_call (R := ConstV (.int .i64 m)) (f := 52) (args := #[.slice A1 n1 c1, .int .i64 i, .int .i64 0]) (by rfl) (by rfl) (fun _ => by go_simp) (fun w' hC' hG' => HC1.out w' hC') ?_
        rintro _ ⟨_, _, rfl⟩
        refine ⟨?_, ?_, ?_⟩
        rotate_left
        · go_simp
          rfl
        iterate 1 ((with_reducible refine loose_one (v := ?_) (a' := ?_) ?_ ?_ (fun w' hC' hG' => ?_) ?_ ?_); rotate_left 2; (focus rfl); (focus rfl); (focus (obtain ⟨s0, s1⟩ := HCX.out w' hC'; clear hC' hG'; go_simp; rfl)); (focus (go_simp; rfl)))
        refine loose_done (fun w9 hC' hG' => ?_)
        have HR9 := hidden (HR.out.grow hC')
        have HG9 := hidden (HG.out.of_below hC')
        clear hC' hG'
        go_wp2_with (first
          | (refine wpList_store_f3 rfl _ _ rfl (w.heap.size + 1) 0 rfl T m ⟨#[]⟩ rfl _ _ HR9.out (by simp) ?_; intro W1 hr1 ht1; have HR1 := hidden hr1; have HT1 := hidden (ht1.grows w HG9.out (by omega)); clear hr1 ht1))
        exact bodyPost_ret (results_val rfl _ _ _ _ _ _ rfl HR1.out) rfl ⟨rfl, HT1.out⟩
  · have hre := hv.1 rfl
    subst hre
    clear hv
    go_enter Try.func14, Try.ntmps14
    go_wp2_with (first
      | (go_at_call 51; refine (HE3.out _ HG.out).mono ?_; rintro e w1 ⟨rfl, rfl⟩)
      | (refine wpList_store_f3 rfl _ _ rfl (w.heap.size + 1) 0 rfl 0 0 ⟨#[]⟩ rfl _ _ HR.out (by simp) ?_; intro W1 hr1 ht1; have HR1 := hidden hr1; have HT1 := hidden (ht1.grows w HG.out (by omega)); clear hr1 ht1))
    exact bodyPost_ret (results_val rfl _ _ _ _ _ _ rfl HR1.out) rfl ⟨rfl, HT1.out⟩
end Go.Proofs.Ytfjhahhkakfhmaa
