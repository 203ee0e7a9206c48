/-
  Texts that the claims of this seat share, put together (Vc2, Vc3, Vc4, Vc5, Vc6, Vc7, Vc8, Vc9, VcA, VcB, VcC, VcD, VcE, VcF, VcG, VcH, VcI, VcN, VcM, VcK). No condition.
-/
import Derived.Test.YtfjhahhkakfhmaaM5
import Derived.Test.YtfjhahhkakfhmaaVc1
import Derived.Test.YtfjhahhkakfhmaaZr4
import Derived.Test.YtfjhahhkakfhmaaM3
/-
  Shaken: what the claims of this seat need of this text. No condition.
-/
namespace Go.Proofs.Ytfjhahhkakfhmaa
set_option maxRecDepth 8000
open Go.RowKit
set_option linter.unusedVariables false
set_option linter.unusedSimpArgs false
theorem rIsType_any (T : Int) (w : World) : Calls Try.prog 48 #[.int .i64 T] w fun e w' => e = .returned (.bool (decide (0 ≤ T) && decide (T ≤ 3))) ∧ w' = w := by
  by_cases h0 : 0 ≤ T
  · have d0 : decide (T < 0) = false := by simpa using h0
    go_enter Try.func48, Try.ntmps48
    go_wp2_with fail
    go_ret
    refine ⟨?_, rfl⟩
    simp [h0]
  · go_enter Try.func48, Try.ntmps48
    go_wp2_with fail
    go_ret
    refine ⟨?_, rfl⟩
    simp [h0]
    omega
def fitsB (y : Val) (T : Int) : Bool := decide (y.k = 0) || decide (y.k = T)
theorem grow17 {w w0 : World} (h : Grows w w0) (o : Obj) : Grows w (w0.alloc o) := h.alloc h.size o
theorem rfits_any (y : Val) (T : Int) (w : World) : Calls Try.prog 49 #[vV y, .int .i64 T] w fun e w' => e = .returned (.bool (fitsB y T)) ∧ Grows w w' := by
  obtain ⟨k, n, t⟩ := y
  have HG := hidden (grow17 (Below.refl _ w) (.cells #[.int .i64 k, .int .i64 n, .string t] 37))
  unfold fitsB vV
  dsimp only
  by_cases h0 : k = 0
  · have d0 : (k == 0) = true := by simpa using h0
    subst h0
    go_enter Try.func49, Try.ntmps49
    go_wp2_with fail
    go_ret
    exact ⟨by simp, HG.out⟩
  · have d0 : (k == 0) = false := by simpa using h0
    go_enter Try.func49, Try.ntmps49
    go_wp2_with fail
    go_ret
    refine ⟨?_, HG.out⟩
    by_cases h1 : k = T
    · simp [h0, h1]
    · simp [h0, h1]
def putV (v : Vec) (y : Val) : Vec := ⟨v.T, if v.T = 1 ∨ v.T = 2 then v.is ++ [y.n] else v.is, if v.T = 3 then v.ts ++ [y.t.data.toList] else v.ts, v.ns ++ [decide (y.k = 0)]⟩
structure PutSt (w : World) (base : Nat) (x0 : Value) (T : Int) (y : List Value) (v : Vec) (a b c : Value) (X : World) : Prop where
  base_ : base ≤ w.heap.size
  row2 : Row X w.heap.size 29 [.int .i64 T, a, b, c]
  row3 : Row X (w.heap.size + 1) 37 y
  row4 : Row X (w.heap.size + 2) 29 [.int .i64 0, .slice none 0 0, .slice none 0 0, .slice none 0 0]
  o1 : X.ownsRow base 2 1 a v.is.length (icells v.is)
  o2 : X.ownsRow base 9 1 b v.ts.length (scells v.ts)
  o3 : X.ownsRow base 4 1 c v.ns.length (tcells v.ns)
  only : Only (blocksV x0) w X
  b1 : ∀ i, a.ownBlock = some i → blocksV x0 i ∧ i < w.heap.size ∨ w.heap.size + 3 ≤ i
  b2 : ∀ i, b.ownBlock = some i → blocksV x0 i ∧ i < w.heap.size ∨ w.heap.size + 3 ≤ i
  b3 : ∀ i, c.ownBlock = some i → blocksV x0 i ∧ i < w.heap.size ∨ w.heap.size + 3 ≤ i
theorem PutSt.size {w : World} {base : Nat} {x0 : Value} {T : Int} {y : List Value} {v : Vec} {a b c : Value} {X : World} (h : PutSt w base x0 T y v a b c X) : w.heap.size + 3 ≤ X.heap.size := by
  have := (Array.getElem?_eq_some_iff.1 h.row4).1
  omega
theorem PutSt.stepT {w : World} {base : Nat} {x0 : Value} {T : Int} {y : List Value} {v : Vec} {a b c : Value} {X : World} (h : PutSt w base x0 T y v a b c X) {c' : Value} {Y Z : World} {u : Bool}
    (hown : Y.ownsRow base 4 1 c' (v.ns.length + 1) (tcells v.ns ++ [.bool u])) (ho : Only (fun k => c.ownBlock = some k) X Y) (hk : ∀ k, c'.ownBlock = some k → c.ownBlock = some k ∨ X.heap.size ≤ k)
    (hz : Only (fun i => i = w.heap.size) Y Z) (hr : Row Z w.heap.size 29 [.int .i64 T, a, b, c']) : PutSt w base x0 T y ⟨v.T, v.is, v.ts, v.ns ++ [u]⟩ a b c' Z := by
  have hs := h.size
  have n3 : ∀ j, j < 3 → ¬ c.ownBlock = some (w.heap.size + j) := fun j hj e => by rcases h.b3 _ e with ⟨_, h1⟩ | h1 <;> omega
  have k3 : ∀ i, c'.ownBlock = some i → blocksV x0 i ∧ i < w.heap.size ∨ w.heap.size + 3 ≤ i := fun i hi => by
    rcases hk i hi with h1 | h1
    · exact h.b3 i h1
    · exact .inr (by omega)
  refine ⟨h.base_, hr, hz.row (ho.row h.row3 (n3 1 (by omega))) (by omega), hz.row (ho.row h.row4 (n3 2 (by omega))) (by omega), ?_, ?_, ?_, ?_, h.b1, h.b2, k3⟩
  · exact ownsRow_only (ownsRow_only h.o1 ho (ownsRow_apart h.o1 h.o3 (by decide))) hz (fun k hk' e => by rcases h.b1 k hk' with ⟨_, h1⟩ | h1 <;> omega)
  · exact ownsRow_only (ownsRow_only h.o2 ho (ownsRow_apart h.o2 h.o3 (by decide))) hz (fun k hk' e => by rcases h.b2 k hk' with ⟨_, h1⟩ | h1 <;> omega)
  · rw [← tcells_snoc, show v.ns.length + 1 = (v.ns ++ [u]).length by simp] at hown
    exact ownsRow_only hown hz (fun k hk' e => by rcases k3 k hk' with ⟨_, h1⟩ | h1 <;> omega)
  · exact (h.only.trans ho (fun i hi => by rcases h.b3 i hi with ⟨h1, _⟩ | h1; exact .inl h1; exact .inr (by omega))).trans hz (fun i hi => .inr (by omega))
theorem PutSt.stepI {w : World} {base : Nat} {x0 : Value} {T : Int} {y : List Value} {v : Vec} {a b c : Value} {X : World} (h : PutSt w base x0 T y v a b c X) {a' : Value} {Y Z : World} {u : Int}
    (hown : Y.ownsRow base 2 1 a' (v.is.length + 1) (icells v.is ++ [.int .i64 u])) (ho : Only (fun k => a.ownBlock = some k) X Y) (hk : ∀ k, a'.ownBlock = some k → a.ownBlock = some k ∨ X.heap.size ≤ k)
    (hz : Only (fun i => i = w.heap.size) Y Z) (hr : Row Z w.heap.size 29 [.int .i64 T, a', b, c]) : PutSt w base x0 T y ⟨v.T, v.is ++ [u], v.ts, v.ns⟩ a' b c Z := by
  have hs := h.size
  have n3 : ∀ j, j < 3 → ¬ a.ownBlock = some (w.heap.size + j) := fun j hj e => by rcases h.b1 _ e with ⟨_, h1⟩ | h1 <;> omega
  have k3 : ∀ i, a'.ownBlock = some i → blocksV x0 i ∧ i < w.heap.size ∨ w.heap.size + 3 ≤ i := fun i hi => by
    rcases hk i hi with h1 | h1
    · exact h.b1 i h1
    · exact .inr (by omega)
  refine ⟨h.base_, hr, hz.row (ho.row h.row3 (n3 1 (by omega))) (by omega), hz.row (ho.row h.row4 (n3 2 (by omega))) (by omega), ?_, ?_, ?_, ?_, k3, h.b2, h.b3⟩
  · rw [← icells_snoc, show v.is.length + 1 = (v.is ++ [u]).length by simp] at hown
    exact ownsRow_only hown hz (fun k hk' e => by rcases k3 k hk' with ⟨_, h1⟩ | h1 <;> omega)
  · exact ownsRow_only (ownsRow_only h.o2 ho (ownsRow_apart h.o2 h.o1 (by decide))) hz (fun k hk' e => by rcases h.b2 k hk' with ⟨_, h1⟩ | h1 <;> omega)
  · exact ownsRow_only (ownsRow_only h.o3 ho (ownsRow_apart h.o3 h.o1 (by decide))) hz (fun k hk' e => by rcases h.b3 k hk' with ⟨_, h1⟩ | h1 <;> omega)
  · exact (h.only.trans ho (fun i hi => by rcases h.b1 i hi with ⟨h1, _⟩ | h1; exact .inl h1; exact .inr (by omega))).trans hz (fun i hi => .inr (by omega))
theorem PutSt.stepS {w : World} {base : Nat} {x0 : Value} {T : Int} {y : List Value} {v : Vec} {a b c : Value} {X : World} (h : PutSt w base x0 T y v a b c X) {b' : Value} {Y Z : World} {u : Str}
    (hown : Y.ownsRow base 9 1 b' (v.ts.length + 1) (scells v.ts ++ [.string (strOf u)])) (ho : Only (fun k => b.ownBlock = some k) X Y) (hk : ∀ k, b'.ownBlock = some k → b.ownBlock = some k ∨ X.heap.size ≤ k)
    (hz : Only (fun i => i = w.heap.size) Y Z) (hr : Row Z w.heap.size 29 [.int .i64 T, a, b', c]) : PutSt w base x0 T y ⟨v.T, v.is, v.ts ++ [u], v.ns⟩ a b' c Z := by
  have hs := h.size
  have n3 : ∀ j, j < 3 → ¬ b.ownBlock = some (w.heap.size + j) := fun j hj e => by rcases h.b2 _ e with ⟨_, h1⟩ | h1 <;> omega
  have k3 : ∀ i, b'.ownBlock = some i → blocksV x0 i ∧ i < w.heap.size ∨ w.heap.size + 3 ≤ i := fun i hi => by
    rcases hk i hi with h1 | h1
    · exact h.b2 i h1
    · exact .inr (by omega)
  refine ⟨h.base_, hr, hz.row (ho.row h.row3 (n3 1 (by omega))) (by omega), hz.row (ho.row h.row4 (n3 2 (by omega))) (by omega), ?_, ?_, ?_, ?_, h.b1, k3, h.b3⟩
  · exact ownsRow_only (ownsRow_only h.o1 ho (ownsRow_apart h.o1 h.o2 (by decide))) hz (fun k hk' e => by rcases h.b1 k hk' with ⟨_, h1⟩ | h1 <;> omega)
  · rw [← scells_snoc, show v.ts.length + 1 = (v.ts ++ [u]).length by simp] at hown
    exact ownsRow_only hown hz (fun k hk' e => by rcases k3 k hk' with ⟨_, h1⟩ | h1 <;> omega)
  · exact ownsRow_only (ownsRow_only h.o3 ho (ownsRow_apart h.o3 h.o2 (by decide))) hz (fun k hk' e => by rcases h.b3 k hk' with ⟨_, h1⟩ | h1 <;> omega)
  · exact (h.only.trans ho (fun i hi => by rcases h.b2 i hi with ⟨h1, _⟩ | h1; exact .inl h1; exact .inr (by omega))).trans hz (fun i hi => .inr (by omega))
theorem PutSt.row2Y {w : World} {base : Nat} {x0 : Value} {T : Int} {y : List Value} {v : Vec} {a b c : Value} {X Y : World} (h : PutSt w base x0 T y v a b c X) {z : Value} (ho : Only (fun k => z.ownBlock = some k) X Y) (hz : z = a ∨ z = b ∨ z = c) : Row Y w.heap.size 29 [.int .i64 T, a, b, c] := by
  refine ho.row h.row2 (fun e => ?_)
  rcases hz with rfl | rfl | rfl
  · rcases h.b1 _ e with ⟨_, h1⟩ | h1 <;> omega
  · rcases h.b2 _ e with ⟨_, h1⟩ | h1 <;> omega
  · rcases h.b3 _ e with ⟨_, h1⟩ | h1 <;> omega
def PutR (base : Nat) (x : Value) (v : Vec) (w : World) (e : Ending) (w' : World) : Prop := ∃ x', e = .returned x' ∧ OwnV base w' x' v ∧ Only (blocksV x) w w' ∧ ∀ k, blocksV x' k → blocksV x k ∨ w.heap.size ≤ k
theorem sizeVec : (Try.prog.info? 29).map (·.size) = some 4 := by kernel_rfl
theorem results_vec {fn : Func} {p : Tmp} (h : fn.results = #[.cell p 29]) (tmps : Array Value) (w : World) (g : Nat) (a b c d : Value) (hp : tmps.getD p undef = .pointer (some ⟨g, 0, none⟩)) (hg : Row w g 29 [a, b, c, d]) :
    (results fn tmps).run Try.prog w = .ok (.agg #[a, b, c, d]) w := results_cell_row h _ _ _ _ _ _ _ hp hg Try.underlying29 rfl sizeVec
theorem wpList_load_vec {wr : World} {ops : Array Oper} {rest : List Oper} {o : Oper} {a : Act} {Q : Exit → Act → World → Prop} (hgd : o.guard = none) (x : Operand) (ho : o.op = .load 29 x)
    (g : Nat) (hx : a.eval x = .pointer (some ⟨g, 0, none⟩)) (p q r s : Value) (hg : Row wr g 29 [p, q, r, s])
    (h : wpList Try.prog ops Q rest (a.put o.dst (.agg #[p, q, r, s])) wr) : wpList Try.prog ops Q (o :: rest) a wr :=
  wpList_load_row hgd _ x ho g hx _ _ _ _ hg Try.underlying29 rfl sizeVec h
theorem wpList_store_vc {wr : World} {ops : Array Oper} {rest : List Oper} {o : Oper} {a : Act} {Q : Exit → Act → World → Prop} (hgd : o.guard = none) (x y : Operand) (ho : o.op = .store 29 x y)
    (g : Nat) (hx : a.eval x = .pointer (some ⟨g, 0, none⟩)) (p q r s : Value) (hy : a.eval y = .agg #[p, q, r, s]) (h1 : (#[p, q, r, s] : Array Value).all (·.oneCell') = true) {p0 q0 r0 s0 : Value} (hg : Row wr g 29 [p0, q0, r0, s0])
    (h : ∀ W, Row W g 29 [p, q, r, s] → Only (fun i => i = g) wr W → wpList Try.prog ops Q rest (a.put o.dst undef) W) : wpList Try.prog ops Q (o :: rest) a wr :=
  wpList_store_row hgd _ x y ho g #[p, q, r, s] hx hy _ _ hg sizeVec rfl h1 (h _ (valSet_row hg [p, q, r, s]) (Only.turned (Turned.row_ wr g _) (fun k hk => by simp only [World.setRow]; rw [Array.getElem?_modify, if_neg (Ne.symm hk)]) rfl rfl rfl))
theorem ownsRow_one {w : World} {base : Nat} {e : TypeId} {size : Nat} {v : Value} {n : Nat} {xs : List Value} (h : w.ownsRow base e size v n xs) : v.oneCell' = true := by
  rcases h.2 with ⟨rfl, _⟩ | ⟨g, cap, cur, rfl, _⟩ <;> rfl
theorem all4 {p q r s : Value} (h1 : p.oneCell' = true) (h2 : q.oneCell' = true) (h3 : r.oneCell' = true) (h4 : s.oneCell' = true) : (#[p, q, r, s] : Array Value).all (·.oneCell') = true := by simp [h1, h2, h3, h4]
end Go.Proofs.Ytfjhahhkakfhmaa
/-
  Shaken: what the claims of this seat need of this text. No condition.
-/
namespace Go.Proofs.Ytfjhahhkakfhmaa
set_option maxRecDepth 8000
open Go.RowKit
set_option linter.unusedVariables false
set_option linter.unusedSimpArgs false
theorem PutSt.start {w : World} {base : Nat} {T : Int} {y : List Value} {v : Vec} {a b c : Value} (hb : base ≤ w.heap.size) (hv : v.T = T)
    (h1 : w.ownsRow base 2 1 a v.is.length (icells v.is)) (h2 : w.ownsRow base 9 1 b v.ts.length (scells v.ts)) (h3 : w.ownsRow base 4 1 c v.ns.length (tcells v.ns)) :
    PutSt w base (.agg #[.int .i64 T, a, b, c]) T y v a b c (((w.alloc (.cells #[.int .i64 T, a, b, c] 29)).alloc (.cells y.toArray 37)).alloc (.cells #[.int .i64 0, .slice none 0 0, .slice none 0 0, .slice none 0 0] 29)) := by
  have g : Grows w (((w.alloc (.cells #[.int .i64 T, a, b, c] 29)).alloc (.cells y.toArray 37)).alloc (.cells #[.int .i64 0, .slice none 0 0, .slice none 0 0, .slice none 0 0] 29)) := grow17 (grow17 (grow17 (Below.refl _ w) _) _) _
  refine ⟨hb, ?_, ?_, ?_, ownsRow_grow h1 g, ownsRow_grow h2 g, ownsRow_grow h3 g, Only.of_grows g _, fun i hi => .inl ⟨.inl hi, (h1.lt i hi).2⟩, fun i hi => .inl ⟨.inr (.inl hi), (h2.lt i hi).2⟩, fun i hi => .inl ⟨.inr (.inr hi), (h3.lt i hi).2⟩⟩
  · exact ((Row.new w 29 _ [.int .i64 T, a, b, c] rfl).grow (grow1 _)).grow (grow1 _)
  · exact (Row.at_ (w.alloc _) 37 _ y rfl (w.heap.size + 1) (by simp)).grow (grow1 _)
  · exact Row.at_ _ 29 _ _ rfl (w.heap.size + 2) (by simp)
def FitLen (v : Vec) : Prop := v.is.length ≤ 1000000000 ∧ v.ts.length ≤ 1000000000 ∧ v.ns.length ≤ 1000000000
theorem strOf_toList (t : ByteArray) : strOf t.data.toList = t := by simp [strOf]
theorem PutSt.done {w : World} {base : Nat} {x0 : Value} {T : Int} {y : List Value} {v : Vec} {a b c : Value} {X Z : World} (h : PutSt w base x0 T y v a b c X) (hz : Only (fun i => i = w.heap.size + 2) X Z) (hT : v.T = T := by rfl) :
    ∃ x', Ending.returned (.agg #[.int .i64 T, a, b, c]) = .returned x' ∧ OwnV base Z x' v ∧ Only (blocksV x0) w Z ∧ ∀ k, blocksV x' k → blocksV x0 k ∨ w.heap.size ≤ k := by
  have hs := h.size
  have nb : ∀ k, blocksV (.agg #[.int .i64 T, a, b, c]) k → blocksV x0 k ∧ k < w.heap.size ∨ w.heap.size + 3 ≤ k := fun k hk => by
    rcases hk with hk | hk | hk
    · exact h.b1 k hk
    · exact h.b2 k hk
    · exact h.b3 k hk
  have ho : OwnV base X (.agg #[.int .i64 T, a, b, c]) v := ⟨a, b, c, by rw [hT], h.o1, h.o2, h.o3⟩
  refine ⟨_, rfl, ho.only hz (fun k hk e => by rcases nb k hk with ⟨_, h1⟩ | h1 <;> omega), h.only.trans hz (fun i hi => .inr (by omega)), fun k hk => ?_⟩
  rcases nb k hk with ⟨h1, _⟩ | h1
  · exact .inl h1
  · exact .inr (by omega)
set_option maxHeartbeats 4000000 in
theorem rput_any (base : Nat) (x : Value) (v : Vec) (y : Val) (w : World) (hx : OwnV base w x v) (hbase : base ≤ w.heap.size) (hl : FitLen v) :
    Calls Try.prog 50 #[x, vV y] w (PutR base x (putV v y) w) := by
  obtain ⟨T, is, ts, ns⟩ := v
  obtain ⟨a, b, c, rfl, h1, h2, h3⟩ := hx
  obtain ⟨k, n, t⟩ := y
  obtain ⟨l1, l2, l3⟩ := hl
  dsimp only at h1 h2 h3 l1 l2 l3
  have HS := hidden (PutSt.start (y := [.int .i64 k, .int .i64 n, .string t]) (v := ⟨T, is, ts, ns⟩) hbase rfl h1 h2 h3)
  have HL := hidden (And.intro l1 (And.intro l2 l3))
  obtain ⟨u, hu⟩ : ∃ u, u = decide (k = 0) := ⟨_, rfl⟩
  have eu : (k == 0) = u := by rw [hu]; rfl
  have HP := hidden (show putV ⟨T, is, ts, ns⟩ ⟨k, n, t⟩ = ⟨T, if T = 1 ∨ T = 2 then is ++ [n] else is, if T = 3 then ts ++ [t.data.toList] else ts, ns ++ [u]⟩ by rw [hu]; rfl)
  have HB := hidden hbase
  clear hu h1 h2 h3 l1 l2 l3 hbase
  by_cases hT1 : T = 1
  · subst hT1
    rw [HP.out, if_pos (Or.inl rfl), if_neg (by decide)]
    go_enter Try.func50, Try.ntmps50
    go_wp2_with (first
      | (at_builtin; go_loud (refine wpList_append_c rfl _ _ 27 rfl 4 (.bool false) 1 Try.underlying27 infoT14 rfl c (tcells ns) (by rfl) base _ HS.out.o3 (by have := HS.out.size; have := HB.out; omega) (.bool u) rfl _ (by rfl) (by simp) (by have := HL.out; dsimp only; omega) (by have := HL.out; dsimp only; omega) ?_); intro c' W1 hown hon hbk; have HOWW1 := hidden hown; have HONW1 := hidden hon; have HBKW1 := hidden hbk; clear hown hon hbk) | (refine wpList_store_c rfl 27 _ _ rfl rfl w.heap.size 3 rfl _ rfl (ownsRow_one HOWW1.out) 29 _ (HS.out.row2Y HONW1.out (.inr (.inr rfl))) (by simp) ?_; intro W2 hr2 hz2; have HS2 := hidden (HS.out.stepT HOWW1.out HONW1.out HBKW1.out hz2 hr2); clear hr2 hz2; have c20 := HS2.out.row2.cell 0; have c21 := HS2.out.row2.cell 1; have c22 := HS2.out.row2.cell 2; have c30 := HS2.out.row3.cell 0; have c31 := HS2.out.row3.cell 1; have c32 := HS2.out.row3.cell 2; simp only [List.getElem?_cons_zero, List.getElem?_cons_succ] at c20 c21 c22 c30 c31 c32) | (at_builtin; go_loud (refine wpList_append_c rfl _ _ 25 rfl 2 (.int .i64 0) 8 Try.underlying25 infoI14 rfl a (icells is) (by rfl) base _ HS2.out.o1 (by have := HS2.out.size; have := HB.out; omega) (.int .i64 n) rfl _ (by rfl) (by simp) (by have := HL.out; dsimp only; omega) (by have := HL.out; dsimp only; omega) ?_); intro a' W3 hown hon hbk; have HOWW3 := hidden hown; have HONW3 := hidden hon; have HBKW3 := hidden hbk; clear hown hon hbk) | (refine wpList_store_c rfl 25 _ _ rfl rfl w.heap.size 1 rfl _ rfl (ownsRow_one HOWW3.out) 29 _ (HS2.out.row2Y HONW3.out (.inl rfl)) (by simp) ?_; intro W4 hr2 hz2; have HS3 := hidden (HS2.out.stepI HOWW3.out HONW3.out HBKW3.out hz2 hr2); clear hr2 hz2; have c20 := HS3.out.row2.cell 0; have c21 := HS3.out.row2.cell 1; have c22 := HS3.out.row2.cell 2; have c30 := HS3.out.row3.cell 0; have c31 := HS3.out.row3.cell 1; have c32 := HS3.out.row3.cell 2; simp only [List.getElem?_cons_zero, List.getElem?_cons_succ] at c20 c21 c22 c30 c31 c32) | (refine wpList_load_vec rfl _ rfl w.heap.size rfl _ _ _ _ HS3.out.row2 ?_) | (refine wpList_store_vc rfl _ _ rfl (w.heap.size + 2) rfl _ _ _ _ rfl (all4 rfl (ownsRow_one HS3.out.o1) (ownsRow_one HS3.out.o2) (ownsRow_one HS3.out.o3)) HS3.out.row4 ?_; intro W9 hr9 hz9; have HR9 := hidden hr9; have HZ9 := hidden hz9; clear hr9 hz9))
    exact bodyPost_ret (results_vec rfl _ _ _ _ _ _ _ rfl HR9.out) rfl (HS3.out.done HZ9.out)
  · by_cases hT2 : T = 2
    · subst hT2
      rw [HP.out, if_pos (Or.inr rfl), if_neg (by decide)]
      go_enter Try.func50, Try.ntmps50
      go_wp2_with (first
        | (at_builtin; go_loud (refine wpList_append_c rfl _ _ 27 rfl 4 (.bool false) 1 Try.underlying27 infoT14 rfl c (tcells ns) (by rfl) base _ HS.out.o3 (by have := HS.out.size; have := HB.out; omega) (.bool u) rfl _ (by rfl) (by simp) (by have := HL.out; dsimp only; omega) (by have := HL.out; dsimp only; omega) ?_); intro c' W1 hown hon hbk; have HOWW1 := hidden hown; have HONW1 := hidden hon; have HBKW1 := hidden hbk; clear hown hon hbk) | (refine wpList_store_c rfl 27 _ _ rfl rfl w.heap.size 3 rfl _ rfl (ownsRow_one HOWW1.out) 29 _ (HS.out.row2Y HONW1.out (.inr (.inr rfl))) (by simp) ?_; intro W2 hr2 hz2; have HS2 := hidden (HS.out.stepT HOWW1.out HONW1.out HBKW1.out hz2 hr2); clear hr2 hz2; have c20 := HS2.out.row2.cell 0; have c21 := HS2.out.row2.cell 1; have c22 := HS2.out.row2.cell 2; have c30 := HS2.out.row3.cell 0; have c31 := HS2.out.row3.cell 1; have c32 := HS2.out.row3.cell 2; simp only [List.getElem?_cons_zero, List.getElem?_cons_succ] at c20 c21 c22 c30 c31 c32) | (at_builtin; go_loud (refine wpList_append_c rfl _ _ 25 rfl 2 (.int .i64 0) 8 Try.underlying25 infoI14 rfl a (icells is) (by rfl) base _ HS2.out.o1 (by have := HS2.out.size; have := HB.out; omega) (.int .i64 n) rfl _ (by rfl) (by simp) (by have := HL.out; dsimp only; omega) (by have := HL.out; dsimp only; omega) ?_); intro a' W3 hown hon hbk; have HOWW3 := hidden hown; have HONW3 := hidden hon; have HBKW3 := hidden hbk; clear hown hon hbk) | (refine wpList_store_c rfl 25 _ _ rfl rfl w.heap.size 1 rfl _ rfl (ownsRow_one HOWW3.out) 29 _ (HS2.out.row2Y HONW3.out (.inl rfl)) (by simp) ?_; intro W4 hr2 hz2; have HS3 := hidden (HS2.out.stepI HOWW3.out HONW3.out HBKW3.out hz2 hr2); clear hr2 hz2; have c20 := HS3.out.row2.cell 0; have c21 := HS3.out.row2.cell 1; have c22 := HS3.out.row2.cell 2; have c30 := HS3.out.row3.cell 0; have c31 := HS3.out.row3.cell 1; have c32 := HS3.out.row3.cell 2; simp only [List.getElem?_cons_zero, List.getElem?_cons_succ] at c20 c21 c22 c30 c31 c32) | (refine wpList_load_vec rfl _ rfl w.heap.size rfl _ _ _ _ HS3.out.row2 ?_) | (refine wpList_store_vc rfl _ _ rfl (w.heap.size + 2) rfl _ _ _ _ rfl (all4 rfl (ownsRow_one HS3.out.o1) (ownsRow_one HS3.out.o2) (ownsRow_one HS3.out.o3)) HS3.out.row4 ?_; intro W9 hr9 hz9; have HR9 := hidden hr9; have HZ9 := hidden hz9; clear hr9 hz9))
      exact bodyPost_ret (results_vec rfl _ _ _ _ _ _ _ rfl HR9.out) rfl (HS3.out.done HZ9.out)
    · by_cases hT3 : T = 3
      · subst hT3
        rw [HP.out, if_neg (by decide), if_pos rfl]
        go_enter Try.func50, Try.ntmps50
        go_wp2_with (first
          | (at_builtin; go_loud (refine wpList_append_c rfl _ _ 27 rfl 4 (.bool false) 1 Try.underlying27 infoT14 rfl c (tcells ns) (by rfl) base _ HS.out.o3 (by have := HS.out.size; have := HB.out; omega) (.bool u) rfl _ (by rfl) (by simp) (by have := HL.out; dsimp only; omega) (by have := HL.out; dsimp only; omega) ?_); intro c' W1 hown hon hbk; have HOWW1 := hidden hown; have HONW1 := hidden hon; have HBKW1 := hidden hbk; clear hown hon hbk) | (refine wpList_store_c rfl 27 _ _ rfl rfl w.heap.size 3 rfl _ rfl (ownsRow_one HOWW1.out) 29 _ (HS.out.row2Y HONW1.out (.inr (.inr rfl))) (by simp) ?_; intro W2 hr2 hz2; have HS2 := hidden (HS.out.stepT HOWW1.out HONW1.out HBKW1.out hz2 hr2); clear hr2 hz2; have c20 := HS2.out.row2.cell 0; have c21 := HS2.out.row2.cell 1; have c22 := HS2.out.row2.cell 2; have c30 := HS2.out.row3.cell 0; have c31 := HS2.out.row3.cell 1; have c32 := HS2.out.row3.cell 2; simp only [List.getElem?_cons_zero, List.getElem?_cons_succ] at c20 c21 c22 c30 c31 c32) | (at_builtin; go_loud (refine wpList_append_c rfl _ _ 26 rfl 9 (.string ⟨#[]⟩) 16 Try.underlying26 infoS14 rfl b (scells ts) (by rfl) base _ HS2.out.o2 (by have := HS2.out.size; have := HB.out; omega) (.string t) rfl _ (by rfl) (by simp) (by have := HL.out; dsimp only; omega) (by have := HL.out; dsimp only; omega) ?_); intro b' W3 hown hon hbk; have HOWW3 := hidden hown; have HONW3 := hidden hon; have HBKW3 := hidden hbk; clear hown hon hbk) | (refine wpList_store_c rfl 26 _ _ rfl rfl w.heap.size 2 rfl _ rfl (ownsRow_one HOWW3.out) 29 _ (HS2.out.row2Y HONW3.out (.inr (.inl rfl))) (by simp) ?_; intro W4 hr2 hz2; have HS3 := hidden (HS2.out.stepS (u := t.data.toList) (by rw [strOf_toList]; exact HOWW3.out) HONW3.out HBKW3.out hz2 hr2); clear hr2 hz2; have c20 := HS3.out.row2.cell 0; have c21 := HS3.out.row2.cell 1; have c22 := HS3.out.row2.cell 2; have c30 := HS3.out.row3.cell 0; have c31 := HS3.out.row3.cell 1; have c32 := HS3.out.row3.cell 2; simp only [List.getElem?_cons_zero, List.getElem?_cons_succ] at c20 c21 c22 c30 c31 c32) | (refine wpList_load_vec rfl _ rfl w.heap.size rfl _ _ _ _ HS3.out.row2 ?_) | (refine wpList_store_vc rfl _ _ rfl (w.heap.size + 2) rfl _ _ _ _ rfl (all4 rfl (ownsRow_one HS3.out.o1) (ownsRow_one HS3.out.o2) (ownsRow_one HS3.out.o3)) HS3.out.row4 ?_; intro W9 hr9 hz9; have HR9 := hidden hr9; have HZ9 := hidden hz9; clear hr9 hz9))
        exact bodyPost_ret (results_vec rfl _ _ _ _ _ _ _ rfl HR9.out) rfl (HS3.out.done HZ9.out)
      · have e1 : (T == 1) = false := by simpa using hT1
        have e2 : (T == 2) = false := by simpa using hT2
        have e3 : (T == 3) = false := by simpa using hT3
        rw [HP.out, if_neg (by rintro (h | h); exact hT1 h; exact hT2 h), if_neg hT3]
        clear hT1 hT2 hT3
        go_enter Try.func50, Try.ntmps50
        go_wp2_with (first
          | (at_builtin; go_loud (refine wpList_append_c rfl _ _ 27 rfl 4 (.bool false) 1 Try.underlying27 infoT14 rfl c (tcells ns) (by rfl) base _ HS.out.o3 (by have := HS.out.size; have := HB.out; omega) (.bool u) rfl _ (by rfl) (by simp) (by have := HL.out; dsimp only; omega) (by have := HL.out; dsimp only; omega) ?_); intro c' W1 hown hon hbk; have HOWW1 := hidden hown; have HONW1 := hidden hon; have HBKW1 := hidden hbk; clear hown hon hbk) | (refine wpList_store_c rfl 27 _ _ rfl rfl w.heap.size 3 rfl _ rfl (ownsRow_one HOWW1.out) 29 _ (HS.out.row2Y HONW1.out (.inr (.inr rfl))) (by simp) ?_; intro W2 hr2 hz2; have HS2 := hidden (HS.out.stepT HOWW1.out HONW1.out HBKW1.out hz2 hr2); clear hr2 hz2; have c20 := HS2.out.row2.cell 0; have c21 := HS2.out.row2.cell 1; have c22 := HS2.out.row2.cell 2; have c30 := HS2.out.row3.cell 0; have c31 := HS2.out.row3.cell 1; have c32 := HS2.out.row3.cell 2; simp only [List.getElem?_cons_zero, List.getElem?_cons_succ] at c20 c21 c22 c30 c31 c32) | (refine wpList_load_vec rfl _ rfl w.heap.size rfl _ _ _ _ HS2.out.row2 ?_) | (refine wpList_store_vc rfl _ _ rfl (w.heap.size + 2) rfl _ _ _ _ rfl (all4 rfl (ownsRow_one HS2.out.o1) (ownsRow_one HS2.out.o2) (ownsRow_one HS2.out.o3)) HS2.out.row4 ?_; intro W9 hr9 hz9; have HR9 := hidden hr9; have HZ9 := hidden hz9; clear hr9 hz9))
        exact bodyPost_ret (results_vec rfl _ _ _ _ _ _ _ rfl HR9.out) rfl (HS2.out.done HZ9.out)
end Go.Proofs.Ytfjhahhkakfhmaa
/-
  Shaken: what the claims of this seat need of this text. No condition.
-/
namespace Go.Proofs.Ytfjhahhkakfhmaa
set_option maxRecDepth 8000
open Go.RowKit
set_option linter.unusedVariables false
set_option linter.unusedSimpArgs false
def atI (v : Vec) (i : Int) : Val := if 0 ≤ i ∧ i < (v.ns.length : Int) then vat v i.toNat else nulX
def OkAt (v : Vec) : Prop := (v.T = 1 ∨ v.T = 2 → v.is.length = v.ns.length) ∧ (v.T = 3 → v.ts.length = v.ns.length) ∧ (∀ i (h : i < v.ns.length), v.ns[i] = true ∨ v.T = 1 ∨ v.T = 2 ∨ v.T = 3)
set_option maxHeartbeats 1000000 in
theorem rat17_in (x : Value) (v : Vec) (i : Nat) (w : World) (hx : IsV w x v) (hi : i < v.ns.length) (hl : v.ns.length ≤ 1000000000000) (h1 : v.T = 1 ∨ v.T = 2 → v.is.length = v.ns.length) (h3 : v.T = 3 → v.ts.length = v.ns.length) (h0 : v.ns[i] = true ∨ v.T = 1 ∨ v.T = 2 ∨ v.T = 3) :
    Calls Try.prog 15 #[x, .int .i64 (i : Int)] w (VaR (vat v i) w) := by
  obtain ⟨T, is, ts, ns⟩ := v
  obtain ⟨a1, a2, a3, rfl, j1, j2, j3⟩ := hx
  dsimp only at *
  obtain ⟨A1, c1, rfl⟩ := j1.slice_
  obtain ⟨A2, c2, rfl⟩ := j2.slice_
  obtain ⟨A3, c3, rfl⟩ := j3.slice_
  obtain ⟨n1, hn1⟩ : ∃ n, is.length = n := ⟨_, rfl⟩
  obtain ⟨n2, hn2⟩ : ∃ n, ts.length = n := ⟨_, rfl⟩
  obtain ⟨n3, hn3⟩ : ∃ n, ns.length = n := ⟨_, rfl⟩
  rw [hn1] at j1 h1 ⊢
  rw [hn2] at j2 h3 ⊢
  rw [hn3] at j3 h1 h3 hl ⊢
  have hi : i < ns.length := hi
  have hi3 : i < n3 := by omega
  have d3 : decide (i < n3) = true := by simpa using hi3
  have d3' : decide (n3 ≤ i) = false := by simpa using hi3
  obtain ⟨W0, hW0⟩ : ∃ W0, W0 = (w.alloc (.cells #[.int .i64 T, .slice A1 n1 c1, .slice A2 n2 c2, .slice A3 n3 c3] 29)).alloc (.cells #[.int .i64 0, .int .i64 0, .string ⟨#[]⟩] 37) := ⟨_, rfl⟩
  have HG := hidden (show Grows w W0 by rw [hW0]; exact (grow1 _).of_below (grow1 _))
  have HR := hidden (show Row W0 (w.heap.size + 1) 37 [.int .i64 0, .int .i64 0, .string ⟨#[]⟩] by rw [hW0]; exact Row.at_ (w.alloc _) 37 #[.int .i64 0, .int .i64 0, .string ⟨#[]⟩] _ rfl (w.heap.size + 1) (by simp))
  obtain ⟨b3, f3, rfl, hck3⟩ := (j3.grow HG.out).at_ hi
  have HW := hidden hW0
  rw [hW0] at hck3
  have hv : vat ⟨T, is, ts, ns⟩ i = if ns[i] = true then nulX else if T = 3 then ⟨3, 0, strOf (ts.getD i [])⟩ else ⟨T, is.getD i 0, ⟨#[]⟩⟩ := by
    unfold vat
    have e : ns.getD i true = ns[i] := by rw [List.getD_eq_getElem?_getD, List.getElem?_eq_getElem hi]; rfl
    simp only [e]
  rw [hv]
  generalize ns[i] = nb at *
  cases nb
  · rw [if_neg (by simp)]
    by_cases hT : T = 3
    · rw [if_pos hT]
      have hi2 : i < ts.length := by have := h3 hT; omega
      obtain ⟨b, f, rfl, hck⟩ := (j2.grow HG.out).at_ hi2
      rw [hW0] at hck
      have e2 : ts.getD i [] = ts[i] := by rw [List.getD_eq_getElem?_getD, List.getElem?_eq_getElem hi2]; rfl
      rw [e2]
      have eT : (T == 3) = true := by simpa using hT
      have hi4 : i < n2 := by omega
      generalize strOf ts[i] = s at *
      clear j1 j2 j3 hi h1 h3 hT hW0 hn1 hn2 hn3 h0 hv
      go_enter Try.func15, Try.ntmps15
      go_wp2_with (first
        | (refine wpList_store_f3 rfl _ _ rfl (w.heap.size + 1) 0 rfl 3 0 s rfl _ _ (show Row _ _ _ _ by rw [← HW.out]; exact HR.out) (by simp) ?_; intro W1 hr1 ht1; have HR1 := hidden hr1; have HT1 := hidden (ht1.grows w (by rw [← HW.out]; exact HG.out) (by omega)); clear hr1 ht1))
      exact bodyPost_ret (results_val rfl _ _ _ _ _ _ rfl HR1.out) rfl ⟨rfl, HT1.out⟩
    · rw [if_neg hT]
      have h12 : T = 1 ∨ T = 2 := by rcases h0 with h | h; cases h; omega
      have hi1 : i < is.length := by have := h1 h12; omega
      obtain ⟨b, f, rfl, hck⟩ := (j1.grow HG.out).at_ hi1
      rw [hW0] at hck
      have e2 : is.getD i 0 = is[i] := by rw [List.getD_eq_getElem?_getD, List.getElem?_eq_getElem hi1]; rfl
      rw [e2]
      have eT : (T == 3) = false := by simpa using hT
      have hi4 : i < n1 := by omega
      generalize is[i] = m at *
      clear j1 j2 j3 hi h1 h3 hT hW0 hn1 hn2 hn3 h0 hv h12
      go_enter Try.func15, Try.ntmps15
      go_wp2_with fail
      go_region
      have HGQ := hidden (drawn_grows4 ((grow1 (w := w) (.cells #[.int .i64 T, .slice (some ⟨b, f, none⟩) n1 c1, .slice A2 n2 c2, .slice (some ⟨b3, f3, none⟩) n3 c3] 29)).of_below (grow1 (.cells #[.int .i64 T, .int .i64 m, .string ⟨#[]⟩] 37))))
      have HRQ := hidden (show Row ((w.alloc (.cells #[.int .i64 T, .slice (some ⟨b, f, none⟩) n1 c1, .slice A2 n2 c2, .slice (some ⟨b3, f3, none⟩) n3 c3] 29)).alloc (.cells #[.int .i64 T, .int .i64 m, .string ⟨#[]⟩] 37)).drew (w.heap.size + 1) 37 [.int .i64 T, .int .i64 m, .string ⟨#[]⟩] from Row.at_ (w.alloc _) 37 _ _ rfl (w.heap.size + 1) (by simp))
      go_wp2_with fail
      exact bodyPost_ret (results_val rfl _ _ _ _ _ _ rfl HRQ.out) rfl ⟨rfl, HGQ.out⟩
  · rw [if_pos rfl]
    clear j1 j2 j3 hi h1 h3 hW0 hn1 hn2 hn3 h0 hv
    go_enter Try.func15, Try.ntmps15
    go_wp2_with (first
      | (refine wpList_store_f3 rfl _ _ rfl (w.heap.size + 1) 0 rfl 0 0 ⟨#[]⟩ rfl _ _ (show Row _ _ _ _ by rw [← HW.out]; exact HR.out) (by simp) ?_; intro W1 hr1 ht1; have HR1 := hidden hr1; have HT1 := hidden (ht1.grows w (by rw [← HW.out]; exact HG.out) (by omega)); clear hr1 ht1))
    exact bodyPost_ret (results_val rfl _ _ _ _ _ _ rfl HR1.out) rfl ⟨rfl, HT1.out⟩
set_option maxHeartbeats 1000000 in
theorem rat17_out (T i : Int) (A1 A2 A3 : Option Addr) (n1 c1 n2 c2 n3 c3 : Nat) (w : World) (h : i < 0 ∨ (n3 : Int) ≤ i) :
    Calls Try.prog 15 #[.agg #[.int .i64 T, .slice A1 n1 c1, .slice A2 n2 c2, .slice A3 n3 c3], .int .i64 i] w (VaR nulX w) := by
  obtain ⟨W0, hW0⟩ : ∃ W0, W0 = (w.alloc (.cells #[.int .i64 T, .slice A1 n1 c1, .slice A2 n2 c2, .slice A3 n3 c3] 29)).alloc (.cells #[.int .i64 0, .int .i64 0, .string ⟨#[]⟩] 37) := ⟨_, rfl⟩
  have HG := hidden (show Grows w W0 by rw [hW0]; exact (grow1 _).of_below (grow1 _))
  have HR := hidden (show Row W0 (w.heap.size + 1) 37 [.int .i64 0, .int .i64 0, .string ⟨#[]⟩] by rw [hW0]; exact Row.at_ (w.alloc _) 37 #[.int .i64 0, .int .i64 0, .string ⟨#[]⟩] _ rfl (w.heap.size + 1) (by simp))
  have HW := hidden hW0
  clear hW0
  by_cases h0 : i < 0
  · have d0 : decide (i < 0) = true := by simpa using h0
    clear h
    go_enter Try.func15, Try.ntmps15
    go_wp2_with (first
      | (refine wpList_store_f3 rfl _ _ rfl (w.heap.size + 1) 0 rfl 0 0 ⟨#[]⟩ rfl _ _ (show Row _ _ _ _ by rw [← HW.out]; exact HR.out) (by simp) ?_; intro W1 hr1 ht1; have HR1 := hidden hr1; have HT1 := hidden (ht1.grows w (by rw [← HW.out]; exact HG.out) (by omega)); clear hr1 ht1))
    exact bodyPost_ret (results_val rfl _ _ _ _ _ _ rfl HR1.out) rfl ⟨rfl, HT1.out⟩
  · have h1 : (n3 : Int) ≤ i := by omega
    have d0 : decide (i < 0) = false := by simpa using h0
    have d1 : decide ((n3 : Int) ≤ i) = true := by simpa using h1
    clear h
    go_enter Try.func15, Try.ntmps15
    go_wp2_with (first
      | (refine wpList_store_f3 rfl _ _ rfl (w.heap.size + 1) 0 rfl 0 0 ⟨#[]⟩ rfl _ _ (show Row _ _ _ _ by rw [← HW.out]; exact HR.out) (by simp) ?_; intro W1 hr1 ht1; have HR1 := hidden hr1; have HT1 := hidden (ht1.grows w (by rw [← HW.out]; exact HG.out) (by omega)); clear hr1 ht1))
    exact bodyPost_ret (results_val rfl _ _ _ _ _ _ rfl HR1.out) rfl ⟨rfl, HT1.out⟩
theorem rat17_any (x : Value) (v : Vec) (i : Int) (w : World) (hx : IsV w x v) (hl : v.ns.length ≤ 1000000000000) (ho : OkAt v) :
    Calls Try.prog 15 #[x, .int .i64 i] w (VaR (atI v i) w) := by
  unfold atI
  by_cases h : 0 ≤ i ∧ i < (v.ns.length : Int)
  · rw [if_pos h]
    have := rat17_in x v i.toNat w hx (by omega) hl ho.1 ho.2.1 (ho.2.2 _ (by omega))
    rwa [Int.toNat_of_nonneg h.1] at this
  · rw [if_neg h]
    obtain ⟨T, is, ts, ns⟩ := v
    obtain ⟨a1, a2, a3, rfl, j1, j2, j3⟩ := hx
    obtain ⟨A1, c1, rfl⟩ := j1.slice_
    obtain ⟨A2, c2, rfl⟩ := j2.slice_
    obtain ⟨A3, c3, rfl⟩ := j3.slice_
    exact rat17_out _ _ _ _ _ _ _ _ _ _ _ _ (by dsimp only at h ⊢; omega)
end Go.Proofs.Ytfjhahhkakfhmaa
/-
  Shaken: what the claims of this seat need of this text. No condition.
-/
namespace Go.Proofs.Ytfjhahhkakfhmaa
set_option maxRecDepth 8000
open Go.RowKit
set_option linter.unusedVariables false
set_option linter.unusedSimpArgs false
def buildV (T : Int) (l : List Val) : Vec := l.foldl putV ⟨T, [], [], []⟩
theorem buildV_nil (T : Int) : buildV T [] = ⟨T, [], [], []⟩ := rfl
theorem buildV_snoc (T : Int) (l : List Val) (y : Val) : buildV T (l ++ [y]) = putV (buildV T l) y := by simp [buildV, List.foldl_append]
theorem putV_T (v : Vec) (y : Val) : (putV v y).T = v.T := rfl
theorem foldl_T : ∀ (l : List Val) (v : Vec), (l.foldl putV v).T = v.T
  | [], v => rfl
  | y :: l, v => by rw [List.foldl_cons, foldl_T l]; rfl
theorem buildV_T (T : Int) (l : List Val) : (buildV T l).T = T := foldl_T l _
theorem foldl_len : ∀ (l : List Val) (v : Vec), (l.foldl putV v).ns.length = v.ns.length + l.length ∧ (l.foldl putV v).is.length ≤ v.is.length + l.length ∧ (l.foldl putV v).ts.length ≤ v.ts.length + l.length
  | [], v => by simp
  | y :: l, v => by
    have h := foldl_len l (putV v y)
    rw [List.foldl_cons]
    have h1 : (putV v y).ns.length = v.ns.length + 1 := by simp [putV]
    have h2 : (putV v y).is.length ≤ v.is.length + 1 := by simp only [putV]; split <;> simp
    have h3 : (putV v y).ts.length ≤ v.ts.length + 1 := by simp only [putV]; split <;> simp
    simp only [List.length_cons]
    omega
theorem buildV_len (T : Int) (l : List Val) : (buildV T l).ns.length = l.length ∧ (buildV T l).is.length ≤ l.length ∧ (buildV T l).ts.length ≤ l.length := by
  have h := foldl_len l ⟨T, [], [], []⟩
  simpa [buildV] using h
theorem buildV_fit (T : Int) (l : List Val) (h : l.length ≤ 1000000000) : FitLen (buildV T l) := by
  have := buildV_len T l
  unfold FitLen
  omega
structure OutSt (w : World) (base g : Nat) (T : Int) (v : Vec) (p q r : Value) (X : World) : Prop where
  lt : g < base
  low : w.heap.size ≤ g
  size : base ≤ X.heap.size
  row : Row X g 29 [.int .i64 T, p, q, r]
  own : OwnV base X (.agg #[.int .i64 T, p, q, r]) v
  grows : Grows w X
theorem OutSt.grow {w : World} {base g : Nat} {T : Int} {v : Vec} {p q r : Value} {X Y : World} (h : OutSt w base g T v p q r X) (hg : Grows X Y) : OutSt w base g T v p q r Y :=
  ⟨h.lt, h.low, Nat.le_trans h.size hg.size, h.row.grow hg, h.own.only (Only.of_grows hg (fun _ => False)) (fun _ _ => id), h.grows.of_below hg⟩
theorem OutSt.step {w : World} {base g : Nat} {T : Int} {v v' : Vec} {p q r p' q' r' : Value} {X Y Z : World} (h : OutSt w base g T v p q r X) (ho : OwnV base Y (.agg #[.int .i64 T, p', q', r']) v') (hon : Only (blocksV (.agg #[.int .i64 T, p, q, r])) X Y)
    (hz : Only (fun i => i = g) Y Z) (hr : Row Z g 29 [.int .i64 T, p', q', r']) : OutSt w base g T v' p' q' r' Z :=
  have hl := h.low
  have hlt := h.lt
  ⟨h.lt, h.low, Nat.le_trans h.size (Nat.le_trans hon.size hz.size), hr, ho.only hz (fun k hk e => by have := (ho.blocks k hk).1; omega),
    (hz.below (hon.below h.grows (fun i hi => by have := (h.own.blocks i hi).1; omega)) (fun i hi => by omega))⟩
theorem OutSt.rowY {w : World} {base g : Nat} {T : Int} {v : Vec} {p q r : Value} {X Y : World} (h : OutSt w base g T v p q r X) (hon : Only (blocksV (.agg #[.int .i64 T, p, q, r])) X Y) {g' : Nat} (hg : g' < base) {e : TypeId} {xs : List Value} (hr : Row X g' e xs) : Row Y g' e xs :=
  hon.row hr (fun hk => by have := (h.own.blocks g' hk).1; omega)
theorem OutSt.rowZ {w : World} {base g : Nat} {T : Int} {v : Vec} {p q r : Value} {X Y Z : World} (h : OutSt w base g T v p q r X) (hon : Only (blocksV (.agg #[.int .i64 T, p, q, r])) X Y) (hz : Only (fun i => i = g) Y Z) {g' : Nat} (hg : g' < base) (hne : g' ≠ g) {e : TypeId} {xs : List Value} (hr : Row X g' e xs) : Row Z g' e xs :=
  hz.row (h.rowY hon hg hr) hne
theorem results_vec2 {fn : Func} {p q : Tmp} (h : fn.results = #[.cell p 29, .tmp q]) (tmps : Array Value) (w : World) (g : Nat) (a b c d x : Value) (hp : tmps.getD p undef = .pointer (some ⟨g, 0, none⟩)) (hg : Row w g 29 [a, b, c, d])
    (hx : tmps.getD q undef = x) : (results fn tmps).run Try.prog w = .ok (.tuple #[.agg #[a, b, c, d], x]) w := by
  have hp' : tmps[p]?.getD undef = .pointer (some ⟨g, 0, none⟩) := by simpa using hp
  have hx' : tmps[q]?.getD undef = x := by simpa using hx
  simp [results, h, hp', hx', asAddr, run_loadVar_row w g 29 29 #[a, b, c, d] (0, 0) _ hg Try.underlying29 rfl sizeVec]
def valsW (v : Vec) : List Val := (List.range v.ns.length).map (vat v)
theorem atI_nat {v : Vec} {j : Nat} (h : j < v.ns.length) : atI v (j : Int) = vat v j := by
  unfold atI
  rw [if_pos ⟨by omega, by omega⟩, Int.toNat_natCast]
def OwnVals (l : List Val) (w : World) (e : Ending) (w' : World) : Prop := ∃ v, e = .returned v ∧ w'.ownsRow w.heap.size 37 3 v l.length (vcells l) ∧ Grows w w'
def VlRel (v : Vec) (w W0 : World) (out i : Value) (wr : World) : Prop :=
  ∃ j : Nat, j ≤ v.ns.length ∧ i = .int .i64 (j : Int) ∧ wr.ownsRow W0.heap.size 37 3 out ((List.range j).map (vat v)).length (vcells ((List.range j).map (vat v))) ∧ Grows W0 wr
set_option maxHeartbeats 4000000 in
theorem rvalues17_any (x : Value) (v : Vec) (w : World) (hx : IsV w x v) (hv : OkAt v) (hl : v.ns.length ≤ 1000000000) :
    Calls Try.prog 18 #[x] w (OwnVals (valsW v) w) := by
  have HX := hidden hx
  obtain ⟨a1, a2, a3, rfl, j1, j2, j3⟩ := hx
  obtain ⟨A1, c1, rfl⟩ := j1.slice_
  obtain ⟨A2, c2, rfl⟩ := j2.slice_
  obtain ⟨A3, c3, rfl⟩ := j3.slice_
  clear j1 j2 j3
  obtain ⟨n3, hn3⟩ : ∃ n, v.ns.length = n := ⟨_, rfl⟩
  obtain ⟨T, hT⟩ : ∃ T, v.T = T := ⟨_, rfl⟩
  generalize v.is.length = n1 at *
  generalize v.ts.length = n2 at *
  rw [hT] at HX ⊢
  rw [hn3] at HX ⊢
  have hl3 : n3 ≤ 1000000000 := by omega
  obtain ⟨W0, hW0⟩ : ∃ W0, W0 = (w.alloc (.cells #[.int .i64 T, .slice A1 n1 c1, .slice A2 n2 c2, .slice A3 n3 c3] 29)) := ⟨_, rfl⟩
  have HG0 := hidden (show Grows w W0 by rw [hW0]; exact (grow1 _))
  have HR := hidden (show Row W0 w.heap.size 29 [.int .i64 T, .slice A1 n1 c1, .slice A2 n2 c2, .slice A3 n3 c3] by rw [hW0]; exact Row.new w 29 #[.int .i64 T, .slice A1 n1 c1, .slice A2 n2 c2, .slice A3 n3 c3] _ rfl)
  have HW0 := hidden hW0.symm
  have HN3 := hidden hn3
  have HT := hidden hT
  have HV := hidden hv
  clear hW0 hn3 hT hv hl
  go_enter Try.func18, Try.ntmps18
  go_wp2_with fail
  rw [HW0.out]
  go_loopw [3, 4] (fun out i wr => VlRel v w W0 out i wr) (fun _ i _ => n3 - (intOf i).toNat)
  case atStart => exact ⟨0, Nat.zero_le _, rfl, World.ownsRow_nil _ _ _ _, Below.refl _ _⟩
  case round =>
    obtain ⟨j, hj, rfl, hown, hb⟩ := hrel
    rw [HN3.out] at hj
    have HB := hidden hb
    have HO := hidden hown
    have HGW := hidden (HG0.out.of_below hb)
    have HRW := hidden (Row.grow HR.out hb)
    clear hb hown
    have t0 := HRW.out.cell 0
    have t1 := HRW.out.cell 1
    have t2 := HRW.out.cell 2
    have t3 := HRW.out.cell 3
    simp only [List.getElem?_cons_succ, List.getElem?_cons_zero] at t0 t1 t2 t3
    by_cases hlt : j < n3
    · have hi : j < v.ns.length := by rw [HN3.out]; exact hlt
      have hd : decide (j < n3) = true := by simpa using hlt
      have HA := hidden (rat17_any _ v (j : Int) wr (HX.out.grow HGW.out) (by rw [HN3.out]; omega) HV.out)
      have HLN := hidden (show ((List.range j).map (vat v)).length + 1 ≤ 1000000000000 by simp; omega)
      have hm : n3 - (j + 1) < n3 - j := by omega
      have hj1 : j + 1 ≤ n3 := by omega
      rw [atI_nat hi] at HA
      obtain ⟨u, hu⟩ : ∃ u, vat v j = u := ⟨_, rfl⟩
      have HK := hidden (show (List.range (j + 1)).map (vat v) = (List.range j).map (vat v) ++ [u] by rw [← hu, List.range_succ, List.map_append]; rfl)
      rw [hu] at HA
      clear hu hi hlt hj
      go_wp2_with fail
      refine (HA.out).mono ?_
      rintro e w2 ⟨rfl, g2⟩
      have HB2 := hidden (HB.out.of_below g2)
      have HO2 := hidden (ownsRow_grow HO.out g2)
      have hsz : W0.heap.size ≤ w2.heap.size := HB2.out.size
      clear g2 t0 t1 t2 t3
      go_wp2_with ((at_builtin; go_loud (refine wpList_append_v rfl _ _ rfl _ ((List.range j).map (vat v)) (by rfl) W0.heap.size HO2.out W0 HB2.out hsz u.k u.n u.t (by rfl) HLN.out ?_); intro v' w3 hown3 hb3))
      go_roundw
      case rel => exact ⟨j + 1, by rw [HN3.out]; exact hj1, by go_num, by rw [HK.out]; exact hown3, hb3⟩
      case measure => simpa [intOf] using hm
    · have hje : j = n3 := by omega
      have hnj : n3 ≤ j := by omega
      have HE := hidden (show (List.range j).map (vat v) = valsW v by unfold valsW; rw [HN3.out, hje])
      clear hlt hje hj
      go_wp2_with fail
      go_ret
      rw [← HE.out]
      exact ⟨_, rfl, ownsRow_base HO.out HG0.out.size, HGW.out⟩
end Go.Proofs.Ytfjhahhkakfhmaa
/-
  Shaken: what the claims of this seat need of this text. No condition.
-/
namespace Go.Proofs.Ytfjhahhkakfhmaa
set_option maxRecDepth 8000
open Go.RowKit
set_option linter.unusedVariables false
set_option linter.unusedSimpArgs false
def isTypeB (T : Int) : Bool := decide (0 ≤ T) && decide (T ≤ 3)
def vec0 : Vec := ⟨0, [], [], []⟩
def fromV (T : Int) (l : List Val) : Vec := if isTypeB T = true then (if l.all (fitsB · T) = true then buildV T l else vec0) else vec0
def fromE (T : Int) (l : List Val) : Int := if isTypeB T = true then (if l.all (fitsB · T) = true then 0 else 7) else 1
def VecER (v : Vec) (c : Int) (w : World) (e : Ending) (w' : World) : Prop := ∃ x, e = .returned (.tuple #[x, .int .i64 c]) ∧ OwnV w.heap.size w' x v ∧ Grows w w'
def VecR (v : Vec) (w : World) (e : Ending) (w' : World) : Prop := ∃ x, e = .returned x ∧ OwnV w.heap.size w' x v ∧ Grows w w'
def FvRel (w : World) (T : Int) (l : List Val) (i : Value) (wr : World) : Prop :=
  ∃ (k : Nat) (p q r : Value), i = .int .i64 (k : Int) ∧ k ≤ l.length ∧ (l.take k).all (fitsB · T) = true ∧ OutSt w (w.heap.size + 2) (w.heap.size + 1) T (buildV T (l.take k)) p q r wr ∧ Row wr w.heap.size 29 [.int .i64 0, .slice none 0 0, .slice none 0 0, .slice none 0 0]
set_option maxHeartbeats 4000000 in
theorem rfrom_any (v : Value) (l : List Val) (T : Int) (w : World) (hr : ReadsV w v l) (hl : l.length ≤ 1000000) :
    Calls Try.prog 12 #[.int .i64 T, v] w (VecER (fromV T l) (fromE T l) w) := by
  have HRV := hidden hr
  obtain ⟨A, c, rfl, hlc, hcell⟩ := hr
  clear hcell hlc
  obtain ⟨n, hn⟩ : ∃ n, l.length = n := ⟨_, rfl⟩
  rw [hn] at HRV ⊢
  have HN := hidden hn
  have HL := hidden (show n ≤ 1000000 by omega)
  clear hn hl
  have HIT := hidden (fun W => rIsType_any T W)
  obtain ⟨b, hb⟩ : ∃ b, b = (decide (0 ≤ T) && decide (T ≤ 3)) := ⟨_, rfl⟩
  have HBT := hidden (show isTypeB T = b from hb.symm)
  rw [← hb] at HIT
  clear hb
  cases b
  · have hV := hidden (show fromV T l = vec0 by unfold fromV; rw [HBT.out, if_neg (by simp)])
    have hE := hidden (show fromE T l = 1 by unfold fromE; rw [HBT.out, if_neg (by simp)])
    go_enter Try.func12, Try.ntmps12
    go_wp2_with (first
      | (go_at_call 48; refine (HIT.out _).mono ?_; rintro e w2 ⟨rfl, rfl⟩)
      | (refine wpList_store_vc rfl _ _ rfl w.heap.size rfl _ _ _ _ rfl (all4 rfl rfl rfl rfl) (Row.new w 29 #[.int .i64 0, .slice none 0 0, .slice none 0 0, .slice none 0 0] [.int .i64 0, .slice none 0 0, .slice none 0 0, .slice none 0 0] rfl) ?_; intro W1 hr1 ho1; have HR1 := hidden hr1; have HO1 := hidden (ho1.below (grow1 (w := w) _) (fun i hi => by omega)); clear hr1 ho1))
    refine bodyPost_ret (results_vec2 rfl _ _ _ _ _ _ _ _ rfl HR1.out rfl) rfl ?_
    rw [hV.out, hE.out]
    exact ⟨_, rfl, OwnV.nil_ _ _ _, HO1.out⟩
  · go_enter Try.func12, Try.ntmps12
    go_wp2_with (first
      | (go_at_call 48; refine (HIT.out _).mono ?_; rintro e w2 ⟨rfl, rfl⟩)
      | (refine wpList_store_vc rfl _ _ rfl (w.heap.size + 1) rfl _ _ _ _ rfl (all4 rfl rfl rfl rfl) (Row.at_ _ 29 #[.int .i64 0, .slice none 0 0, .slice none 0 0, .slice none 0 0] [.int .i64 0, .slice none 0 0, .slice none 0 0, .slice none 0 0] rfl (w.heap.size + 1) (by simp)) ?_; intro W1 hr1 ho1; have HR1 := hidden hr1; have HO1 := hidden ho1; clear hr1 ho1))
    have HS1 := hidden (show OutSt w (w.heap.size + 2) (w.heap.size + 1) T (buildV T (l.take 0)) (.slice none 0 0) (.slice none 0 0) (.slice none 0 0) W1 from
      ⟨by omega, by omega, by have := HO1.out.size; simp at this; omega, HR1.out, OwnV.nil_ _ _ _, HO1.out.below ((grow1 (w := w) _).of_below (grow1 _)) (fun i hi => by omega)⟩)
    have HZ1 := hidden (HO1.out.row (Row.grow (Row.new w 29 #[.int .i64 0, .slice none 0 0, .slice none 0 0, .slice none 0 0] [.int .i64 0, .slice none 0 0, .slice none 0 0, .slice none 0 0] rfl) (grow1 _)) (by omega))
    clear HR1 HO1
    go_loopw [7] (fun i wr => FvRel w T l i wr) (fun i _ => n - (intOf i).toNat)
    case atStart => exact ⟨0, _, _, _, rfl, Nat.zero_le _, by simp, HS1.out, HZ1.out⟩
    case round =>
      obtain ⟨k, p, q, r, rfl, hk, hft, hst, hz⟩ := hrel
      rw [HN.out] at hk
      have HFT := hidden hft
      have HST := hidden hst
      have HZ := hidden hz
      clear hft hst hz HS1 HZ1
      by_cases hlt : k < n
      · have hkl : k < l.length := by rw [HN.out]; exact hlt
        obtain ⟨y, hy⟩ : ∃ y, y = l[k] := ⟨_, rfl⟩
        have HTK := hidden (show l.take (k + 1) = l.take k ++ [y] by rw [List.take_add_one, List.getElem?_eq_getElem hkl, hy]; rfl)
        obtain ⟨b0, off, rfl, hc⟩ : ∃ b0 off, A = some ⟨b0, off, none⟩ ∧ ∀ W, Grows w W → W.cell? ⟨b0, off + k * 3, none⟩ = some (.int .i64 y.k) ∧ W.cell? ⟨b0, off + k * 3 + 1, none⟩ = some (.int .i64 y.n) ∧ W.cell? ⟨b0, off + k * 3 + 2, none⟩ = some (.string y.t) := by
          obtain ⟨A', c', he, _, hcell⟩ := id HRV.out
          injection he with e1 e2 e3
          subst e1
          obtain ⟨b0, off, rfl, hcc⟩ := hcell (by omega)
          refine ⟨b0, off, rfl, fun W hW => ?_⟩
          have := hcc k y (by rw [hy, List.getElem?_eq_getElem hkl])
          exact ⟨(hW.cell (World.block_lt_of_cell? _ _ this.1)).trans this.1, (hW.cell (World.block_lt_of_cell? _ _ this.2.1)).trans this.2.1, (hW.cell (World.block_lt_of_cell? _ _ this.2.2)).trans this.2.2⟩
        have HC := hidden hc
        have HMEM := hidden (show y ∈ l by rw [hy]; exact List.getElem_mem _)
        have hk0 : (0 : Int) ≤ (k : Int) := by omega
        have hk1 : (k : Int) < (n : Int) := by omega
        have hd : decide (k < n) = true := by simpa using hlt
        have hm : n - (k + 1) < n - k := by omega
        have HK1 := hidden (show k + 1 ≤ l.length by omega)
        clear hy hkl hlt hk hc
        obtain ⟨c0, c1, c2⟩ := HC.out wr HST.out.grows
        have HF := hidden (fun W => rfits_any y T W)
        obtain ⟨f, hf⟩ : ∃ f, f = fitsB y T := ⟨_, rfl⟩
        rw [← hf] at HF
        have HFF := hidden hf.symm
        clear hf
        cases f
        · have HAN := hidden (show ¬ l.all (fitsB · T) = true from fun h => by have := (List.all_eq_true.1 h) y HMEM.out; rw [HFF.out] at this; cases this)
          have hV := hidden (show fromV T l = vec0 by unfold fromV; rw [HBT.out, if_pos rfl, if_neg HAN.out])
          have hE := hidden (show fromE T l = 7 by unfold fromE; rw [HBT.out, if_pos rfl, if_neg HAN.out])
          go_wp2_with (first
            | (go_at_call 49; refine (HF.out _).mono ?_; rintro e w2 ⟨rfl, g2⟩; have HG2 := hidden (HST.out.grows.of_below g2); have HZ2 := hidden (HZ.out.grow g2); clear g2)
            | (refine wpList_store_vc rfl _ _ rfl w.heap.size rfl _ _ _ _ rfl (all4 rfl rfl rfl rfl) HZ2.out ?_; intro W1 hr1 ho1; have HR1 := hidden hr1; have HO1 := hidden (ho1.below HG2.out (fun i hi => by omega)); clear hr1 ho1))
          refine bodyPost_ret (results_vec2 rfl _ _ _ _ _ _ _ _ rfl HR1.out rfl) rfl ?_
          rw [hV.out, hE.out]
          exact ⟨_, rfl, OwnV.nil_ _ _ _, HO1.out⟩
        · go_wp2_with (first
            | (go_at_call 49; refine (HF.out _).mono ?_; rintro e w2 ⟨rfl, g2⟩; have HS2 := hidden (HST.out.grow g2); have HZ2 := hidden (HZ.out.grow g2); clear g2 c0 c1 c2))
          have HX : Hid (∀ X, Grows w2 X → X.cell? ⟨w.heap.size + 1, 0, none⟩ = some (.int .i64 T) ∧ X.cell? ⟨w.heap.size + 1, 1, none⟩ = some p ∧ X.cell? ⟨w.heap.size + 1, 2, none⟩ = some q ∧ X.cell? ⟨w.heap.size + 1, 3, none⟩ = some r ∧ X.cell? ⟨b0, off + k * 3, none⟩ = some (.int .i64 y.k) ∧ X.cell? ⟨b0, off + k * 3 + 1, none⟩ = some (.int .i64 y.n) ∧ X.cell? ⟨b0, off + k * 3 + 2, none⟩ = some (.string y.t)) :=
            hidden fun X h => ⟨(HS2.out.row.grow h).cell 0, (HS2.out.row.grow h).cell 1, (HS2.out.row.grow h).cell 2, (HS2.out.row.grow h).cell 3, HC.out X (HS2.out.grows.of_below h)⟩
          refine wp_region_loose_tail 5 (tabRs []) (by kernel_rfl) (by kernel_rfl) tabRs_nil ?_
          simp only [List.take_succ_cons, List.take_zero, List.drop_succ_cons, List.drop_zero]
          iterate 5 ((with_reducible refine loose_one (v := ?_) (a' := ?_) ?_ ?_ (fun w' hC' hG' => ?_) ?_ ?_); rotate_left 2; (focus rfl); (focus rfl); (focus (obtain ⟨s0, s1, s2, s3, x0, x1, x2⟩ := HX.out w' hC'; clear hC' hG'; go_simp; rfl)); (focus (go_simp; rfl)))
          refine loose_done (fun w9 hC' hG' => ?_)
          have HS9 := hidden (HS2.out.grow hC')
          have HZ9 := hidden (HZ2.out.grow hC')
          clear hC' hG'
          have hnb : n ≤ 1000000 := HL.out
          have hk6 : k + 1 ≤ n := by rw [← HN.out]; exact HK1.out
          have HTT := hidden ((putV_T (buildV T (l.take k)) y).trans (buildV_T T _))
          have HPT := hidden (rput_any (w.heap.size + 2) _ _ y w9 HS9.out.own HS9.out.size (buildV_fit T _ (by have := HL.out; have := HN.out; rw [List.length_take]; omega)))
          go_wp2_with (first
            | (go_at_call 50; refine HPT.out.mono ?_; rintro e w3 ⟨x', rfl, ho3, hon3, hbk3⟩; obtain ⟨p', q', r', hx', hq1, hq2, hq3⟩ := id ho3; rw [HTT.out] at hx'; subst hx'; have HO3 := hidden ho3; have HON3 := hidden hon3; have HQ3 := hidden (all4 (p := .int .i64 T) rfl (ownsRow_one hq1) (ownsRow_one hq2) (ownsRow_one hq3)); clear ho3 hon3 hbk3 hq1 hq2 hq3)
            | (refine wpList_store_vc rfl _ _ rfl (w.heap.size + 1) rfl _ _ _ _ rfl HQ3.out (HS9.out.rowY HON3.out (by omega) HS9.out.row) ?_; intro W4 hr4 ho4; have HS4 := hidden (HS9.out.step HO3.out HON3.out ho4 hr4); have HZ4 := hidden (HS9.out.rowZ HON3.out ho4 (by omega) (by omega) HZ9.out); clear hr4 ho4))
          go_roundw
          case rel => exact ⟨k + 1, p', q', r', by go_num, HK1.out, by rw [HTK.out, List.all_append, HFT.out]; simp [HFF.out], by rw [HTK.out, buildV_snoc]; exact HS4.out, HZ4.out⟩
          case measure => simpa [intOf] using hm
      · have hke : k = n := by omega
        have hd : decide (k < n) = false := by simpa using hlt
        have HTK := hidden (show l.take k = l by rw [hke, ← HN.out, List.take_length])
        have hV := hidden (show fromV T l = buildV T l by unfold fromV; rw [HBT.out, if_pos rfl, if_pos (by rw [← HTK.out]; exact HFT.out)])
        have hE := hidden (show fromE T l = 0 by unfold fromE; rw [HBT.out, if_pos rfl, if_pos (by rw [← HTK.out]; exact HFT.out)])
        have hq := HST.out.own
        obtain ⟨p', q', r', he, hq1, hq2, hq3⟩ := hq
        injection he with he
        simp only [Array.mk.injEq, List.cons.injEq, and_true] at he
        obtain ⟨-, rfl, rfl, rfl⟩ := he
        have HQ3 := hidden (all4 (p := .int .i64 T) rfl (ownsRow_one hq1) (ownsRow_one hq2) (ownsRow_one hq3))
        clear hke hlt hk hq1 hq2 hq3
        go_wp2_with (first
          | (refine wpList_load_vec rfl _ rfl (w.heap.size + 1) rfl _ _ _ _ HST.out.row ?_)
          | (refine wpList_store_vc rfl _ _ rfl w.heap.size rfl _ _ _ _ rfl HQ3.out HZ.out ?_; intro W4 hr4 ho4; have HR4 := hidden hr4; have HO4 := hidden ho4; clear hr4 ho4))
        refine bodyPost_ret (results_vec2 rfl _ _ _ _ _ _ _ _ rfl HR4.out rfl) rfl ?_
        rw [hV.out, hE.out]
        refine ⟨_, rfl, ?_, HO4.out.below HST.out.grows (fun i hi => by omega)⟩
        have := HST.out.own.only HO4.out (fun i hi e => by have := (HST.out.own.blocks i hi).1; omega)
        rw [HTK.out] at this
        exact this.base_ (by omega)
end Go.Proofs.Ytfjhahhkakfhmaa
/-
  Shaken: what the claims of this seat need of this text. No condition.
-/
namespace Go.Proofs.Ytfjhahhkakfhmaa
set_option maxRecDepth 8000
open Go.RowKit
set_option linter.unusedVariables false
set_option linter.unusedSimpArgs false
def gatherV (v : Vec) (l : List Int) : Vec := buildV v.T (l.map (atI v))
def GaRel (w : World) (v : Vec) (T : Int) (l : List Int) (a1 a2 a3 : Value) (i : Value) (wr : World) : Prop :=
  ∃ (k : Nat) (p q r : Value), i = .int .i64 (k : Int) ∧ k ≤ l.length ∧ OutSt w (w.heap.size + 3) (w.heap.size + 2) T (buildV T ((l.take k).map (atI v))) p q r wr ∧ Row wr w.heap.size 29 [.int .i64 T, a1, a2, a3] ∧ Row wr (w.heap.size + 1) 29 [.int .i64 0, .slice none 0 0, .slice none 0 0, .slice none 0 0]
set_option maxHeartbeats 4000000 in
theorem rgather_any (x : Value) (v : Vec) (u : Value) (l : List Int) (w : World) (hx : IsV w x v) (hv : OkAt v) (hvl : v.ns.length ≤ 1000000) (hu : IsI w u l) (hl : l.length ≤ 1000000) :
    Calls Try.prog 25 #[x, u] w (VecR (gatherV v l) w) := by
  have HX := hidden hx
  have HU := hidden hu
  obtain ⟨a1, a2, a3, rfl, j1, j2, j3⟩ := hx
  obtain ⟨A1, c1, rfl⟩ := j1.slice_
  obtain ⟨A2, c2, rfl⟩ := j2.slice_
  obtain ⟨A3, c3, rfl⟩ := j3.slice_
  obtain ⟨A, c, rfl⟩ := hu.slice_
  clear j1 j2 j3 hu
  have HV := hidden hv
  have HVL := hidden hvl
  obtain ⟨T, hT⟩ : ∃ T, v.T = T := ⟨_, rfl⟩
  have HT := hidden hT
  have HGV := hidden (show gatherV v l = buildV T (l.map (atI v)) by unfold gatherV; rw [hT])
  rw [hT] at HX ⊢
  rw [HGV.out]
  generalize v.is.length = n1 at *
  generalize v.ts.length = n2 at *
  obtain ⟨n3, hn3⟩ : ∃ n, v.ns.length = n := ⟨_, rfl⟩
  rw [hn3] at HX ⊢
  clear hn3
  obtain ⟨n, hn⟩ : ∃ n, l.length = n := ⟨_, rfl⟩
  rw [hn] at HU ⊢
  have HN := hidden hn
  have HL := hidden (show n ≤ 1000000 by omega)
  clear hn hl hv hvl hT
  have HR0 := hidden (Row.new w 29 #[.int .i64 T, .slice A1 n1 c1, .slice A2 n2 c2, .slice A3 n3 c3] [.int .i64 T, .slice A1 n1 c1, .slice A2 n2 c2, .slice A3 n3 c3] rfl)
  go_enter Try.func25, Try.ntmps25
  go_wp2_with (first
    | (refine wpList_store_vc rfl _ _ rfl (w.heap.size + 2) rfl _ _ _ _ rfl (all4 rfl rfl rfl rfl) (Row.at_ _ 29 #[.int .i64 0, .slice none 0 0, .slice none 0 0, .slice none 0 0] [.int .i64 0, .slice none 0 0, .slice none 0 0, .slice none 0 0] rfl (w.heap.size + 2) (by simp)) ?_; intro W1 hr1 ho1; have HR1 := hidden hr1; have HO1 := hidden ho1; clear hr1 ho1))
  have HS1 := hidden (show OutSt w (w.heap.size + 3) (w.heap.size + 2) T (buildV T ((l.take 0).map (atI v))) (.slice none 0 0) (.slice none 0 0) (.slice none 0 0) W1 from
    ⟨by omega, by omega, by have := HO1.out.size; simp at this; omega, HR1.out, OwnV.nil_ _ _ _, HO1.out.below (((grow1 (w := w) _).of_below (grow1 _)).of_below (grow1 _)) (fun i hi => by omega)⟩)
  have HA1 := hidden (HO1.out.row (Row.grow (Row.grow HR0.out (grow1 _)) (grow1 _)) (by omega))
  have HZ1 := hidden (HO1.out.row (Row.grow (Row.at_ (w.alloc _) 29 #[.int .i64 0, .slice none 0 0, .slice none 0 0, .slice none 0 0] [.int .i64 0, .slice none 0 0, .slice none 0 0, .slice none 0 0] rfl (w.heap.size + 1) (by simp)) (grow1 _)) (by omega))
  clear HR1 HO1
  go_loopw [6] (fun i wr => GaRel w v T l (.slice A1 n1 c1) (.slice A2 n2 c2) (.slice A3 n3 c3) i wr) (fun i _ => n - (intOf i).toNat)
  case atStart => exact ⟨0, _, _, _, rfl, Nat.zero_le _, HS1.out, HA1.out, HZ1.out⟩
  case round =>
    obtain ⟨k, p, q, r, rfl, hk, hst, ha, hz⟩ := hrel
    rw [HN.out] at hk
    have HST := hidden hst
    have HA := hidden ha
    have HZ := hidden hz
    clear hst ha hz HS1 HA1 HZ1
    by_cases hlt : k < n
    · have hkl : k < l.length := by rw [HN.out]; exact hlt
      obtain ⟨y, hy⟩ : ∃ y, y = l[k] := ⟨_, rfl⟩
      have HTK := hidden (show (l.take (k + 1)).map (atI v) = (l.take k).map (atI v) ++ [atI v y] by rw [List.take_add_one, List.getElem?_eq_getElem hkl, ← hy]; simp)
      obtain ⟨b0, off, rfl, hc⟩ : ∃ b0 off, A = some ⟨b0, off, none⟩ ∧ ∀ W, Grows w W → W.cell? ⟨b0, off + k, none⟩ = some (.int .i64 y) := by
        rw [← HN.out] at HU
        obtain ⟨b0, off, e, hcc⟩ := HU.out.at_ hkl
        refine ⟨b0, off, e, fun W hW => ?_⟩
        rw [hy]
        exact (hW.cell (World.block_lt_of_cell? _ _ hcc)).trans hcc
      have HC := hidden hc
      have hk0 : (0 : Int) ≤ (k : Int) := by omega
      have hk1 : (k : Int) < (n : Int) := by omega
      have hd : decide (k < n) = true := by simpa using hlt
      have hm : n - (k + 1) < n - k := by omega
      have HK1 := hidden (show k + 1 ≤ l.length by omega)
      clear hy hkl hlt hk hc
      have HCX : Hid (∀ X, Grows wr X → X.cell? ⟨w.heap.size + 2, 0, none⟩ = some (.int .i64 T) ∧ X.cell? ⟨w.heap.size + 2, 1, none⟩ = some p ∧ X.cell? ⟨w.heap.size + 2, 2, none⟩ = some q ∧ X.cell? ⟨w.heap.size + 2, 3, none⟩ = some r ∧ X.cell? ⟨w.heap.size, 0, none⟩ = some (.int .i64 T) ∧ X.cell? ⟨w.heap.size, 1, none⟩ = some (.slice A1 n1 c1) ∧ X.cell? ⟨w.heap.size, 2, none⟩ = some (.slice A2 n2 c2) ∧ X.cell? ⟨w.heap.size, 3, none⟩ = some (.slice A3 n3 c3) ∧ X.cell? ⟨b0, off + k, none⟩ = some (.int .i64 y)) :=
        hidden fun X h => ⟨(HST.out.row.grow h).cell 0, (HST.out.row.grow h).cell 1, (HST.out.row.grow h).cell 2, (HST.out.row.grow h).cell 3, (HA.out.grow h).cell 0, (HA.out.grow h).cell 1, (HA.out.grow h).cell 2, (HA.out.grow h).cell 3, HC.out X (HST.out.grows.of_below h)⟩
      have HC1 := hidden (fun W (h : Grows wr W) => const_loose (rat17_any _ v y W (HX.out.grow (HST.out.grows.of_below h)) (by have := HVL.out; omega) HV.out))
      obtain ⟨u, hu⟩ : ∃ u, u = atI v y := ⟨_, rfl⟩
      rw [← hu] at HTK HC1
      clear hu
      go_wp2_with fail
      refine wp_region_loose_tail 7 (tabRs [(6, ConstV (vV u))]) (by kernel_rfl) (by kernel_rfl) (tabRs_cons ConstV.lasts tabRs_nil) ?_
      simp only [List.take_succ_cons, List.take_zero, List.drop_succ_cons, List.drop_zero]
      iterate 6 ((with_reducible refine loose_one (v := ?_) (a' := ?_) ?_ ?_ (fun w' hC' hG' => ?_) ?_ ?_); rotate_left 2; (focus rfl); (focus rfl); (focus (obtain ⟨s0, s1, s2, s3, a0, a1, a2, a3, x0⟩ := HCX.out w' hC'; clear hC' hG'; go_simp; rfl)); (focus (go_simp; rfl)))
      refine loose_call (R := ConstV (vV u)) (f := 15) (args := #[.agg #[.int .i64 T, .slice A1 n1 c1, .slice A2 n2 c2, .slice A3 n3 c3], .int .i64 y]) (by rfl) (by rfl) (fun _ => by go_simp) (fun w' hC' hG' => HC1.out w' hC') ?_
      rintro _ ⟨_, _, rfl⟩
      refine ⟨?_, ?_, ?_⟩
      rotate_left
      · go_simp
        rfl
      refine loose_done (fun w9 hC' hG' => ?_)
      have HS9 := hidden (HST.out.grow hC')
      have HA9 := hidden (HA.out.grow hC')
      have HZ9 := hidden (HZ.out.grow hC')
      clear hC' hG'
      have hnb : n ≤ 1000000 := HL.out
      have hk6 : k + 1 ≤ n := by rw [← HN.out]; exact HK1.out
      have HTT := hidden ((putV_T (buildV T ((l.take k).map (atI v))) u).trans (buildV_T T _))
      have HPT := hidden (rput_any (w.heap.size + 3) _ _ u w9 HS9.out.own HS9.out.size (buildV_fit T _ (by have := HL.out; have := HN.out; rw [List.length_map, List.length_take]; omega)))
      go_wp2_with (first
        | (go_at_call 50; refine HPT.out.mono ?_; rintro e w3 ⟨x', rfl, ho3, hon3, hbk3⟩; obtain ⟨p', q', r', hx', hq1, hq2, hq3⟩ := id ho3; rw [HTT.out] at hx'; subst hx'; have HO3 := hidden ho3; have HON3 := hidden hon3; have HQ3 := hidden (all4 (p := .int .i64 T) rfl (ownsRow_one hq1) (ownsRow_one hq2) (ownsRow_one hq3)); clear ho3 hon3 hbk3 hq1 hq2 hq3)
        | (refine wpList_store_vc rfl _ _ rfl (w.heap.size + 2) rfl _ _ _ _ rfl HQ3.out (HS9.out.rowY HON3.out (by omega) HS9.out.row) ?_; intro W4 hr4 ho4; have HS4 := hidden (HS9.out.step HO3.out HON3.out ho4 hr4); have HA4 := hidden (HS9.out.rowZ HON3.out ho4 (by omega) (by omega) HA9.out); have HZ4 := hidden (HS9.out.rowZ HON3.out ho4 (by omega) (by omega) HZ9.out); clear hr4 ho4))
      go_roundw
      case rel => exact ⟨k + 1, p', q', r', by go_num, HK1.out, by rw [HTK.out, buildV_snoc]; exact HS4.out, HA4.out, HZ4.out⟩
      case measure => simpa [intOf] using hm
    · have hke : k = n := by omega
      have hd : decide (k < n) = false := by simpa using hlt
      have HTK := hidden (show l.take k = l by rw [hke, ← HN.out, List.take_length])
      obtain ⟨p', q', r', he, hq1, hq2, hq3⟩ := HST.out.own
      injection he with he
      simp only [Array.mk.injEq, List.cons.injEq, and_true] at he
      obtain ⟨-, rfl, rfl, rfl⟩ := he
      have HQ3 := hidden (all4 (p := .int .i64 T) rfl (ownsRow_one hq1) (ownsRow_one hq2) (ownsRow_one hq3))
      clear hke hlt hk hq1 hq2 hq3
      go_wp2_with (first
          | (refine wpList_load_vec rfl _ rfl (w.heap.size + 2) rfl _ _ _ _ HST.out.row ?_)
          | (refine wpList_store_vc rfl _ _ rfl (w.heap.size + 1) rfl _ _ _ _ rfl HQ3.out HZ.out ?_; intro W4 hr4 ho4; have HR4 := hidden hr4; have HO4 := hidden ho4; clear hr4 ho4))
      refine bodyPost_ret (results_vec rfl _ _ _ _ _ _ _ rfl HR4.out) rfl ⟨_, rfl, ?_, HO4.out.below HST.out.grows (fun i hi => by omega)⟩
      have := HST.out.own.only HO4.out (fun i hi e => by have := (HST.out.own.blocks i hi).1; omega)
      rw [HTK.out] at this
      exact this.base_ (by omega)
def conT (T : Int) : Int := if isTypeB T = true then T else 0
def conY (T : Int) (y : Val) : Val := if fitsB y T = true then y else nulX
def constVec (T : Int) (y : Val) (n : Int) : Vec := buildV (conT T) (List.replicate n.toNat (conY (conT T) y))
def CnRel (w : World) (T : Int) (y : Val) (n : Nat) (i : Value) (wr : World) : Prop :=
  ∃ (k : Nat) (p q r : Value), i = .int .i64 (k : Int) ∧ k ≤ n ∧ OutSt w (w.heap.size + 3) (w.heap.size + 2) T (buildV T (List.replicate k y)) p q r wr ∧ Row wr w.heap.size 37 [.int .i64 y.k, .int .i64 y.n, .string y.t] ∧ Row wr (w.heap.size + 1) 29 [.int .i64 0, .slice none 0 0, .slice none 0 0, .slice none 0 0]
theorem replicate_snoc17 (k : Nat) (y : Val) : List.replicate (k + 1) y = List.replicate k y ++ [y] := by rw [List.replicate_succ']
set_option maxHeartbeats 4000000 in
theorem rconst_any (T : Int) (y : Val) (n : Int) (w : World) (hn : n ≤ 1000000) (hn0 : -9223372036854775808 ≤ n) :
    Calls Try.prog 27 #[.int .i64 T, vV y, .int .i64 n] w (VecR (constVec T y n) w) := by
  obtain ⟨N, hN⟩ : ∃ N, N = n.toNat := ⟨_, rfl⟩
  have HNN := hidden hN
  have HNB := hidden (show N ≤ 1000000 by omega)
  have HNX := hidden hn
  have HIT := hidden (fun W => rIsType_any T W)
  obtain ⟨b, hb⟩ : ∃ b, b = (decide (0 ≤ T) && decide (T ≤ 3)) := ⟨_, rfl⟩
  have HBT := hidden (show isTypeB T = b from hb.symm)
  rw [← hb] at HIT
  clear hb
  obtain ⟨U, hU⟩ : ∃ U, U = conT T := ⟨_, rfl⟩
  have HF := hidden (fun W => rfits_any y U W)
  obtain ⟨f, hf⟩ : ∃ f, f = fitsB y U := ⟨_, rfl⟩
  rw [← hf] at HF
  obtain ⟨Y, hY⟩ : ∃ Y, Y = conY U y := ⟨_, rfl⟩
  have HYE := hidden (show Y = if f = true then y else nulX by rw [hY, conY, hf])
  have HUE := hidden (show U = if b = true then T else 0 by rw [hU, conT, HBT.out])
  have HVV := hidden (show constVec T y n = buildV U (List.replicate N Y) by rw [constVec, ← hU, ← hY, ← hN])
  rw [HVV.out]
  clear hf hY hU hN
  have HR0 := hidden (Row.new w 37 #[.int .i64 y.k, .int .i64 y.n, .string y.t] [.int .i64 y.k, .int .i64 y.n, .string y.t] rfl)
  cases b
  · obtain rfl : U = 0 := HUE.out
    cases f
    · obtain rfl : Y = nulX := HYE.out
      go_enter Try.func27, Try.ntmps27
      go_wp2_with (first
        | (refine wpList_store_vc rfl _ _ rfl (w.heap.size + 2) rfl _ _ _ _ rfl (all4 rfl rfl rfl rfl) (Row.at_ _ 29 #[.int .i64 0, .slice none 0 0, .slice none 0 0, .slice none 0 0] [.int .i64 0, .slice none 0 0, .slice none 0 0, .slice none 0 0] rfl (w.heap.size + 2) (by simp)) ?_; intro W1 hr1 ho1; have HR1 := hidden hr1; have HO1 := hidden ho1; have HA1 := hidden (ho1.row (Row.grow (Row.grow HR0.out (grow1 _)) (grow1 _)) (by omega)); have HZ1 := hidden (ho1.row (Row.grow (Row.at_ (w.alloc _) 29 #[.int .i64 0, .slice none 0 0, .slice none 0 0, .slice none 0 0] [.int .i64 0, .slice none 0 0, .slice none 0 0, .slice none 0 0] rfl (w.heap.size + 1) (by simp)) (grow1 _)) (by omega)); have HG1 := hidden (ho1.below (((grow1 (w := w) _).of_below (grow1 _)).of_below (grow1 _)) (fun i hi => by omega)); have HZ5 := hidden (show w.heap.size + 3 ≤ W1.heap.size by have := ho1.size; simp at this; omega); clear hr1 ho1; skip)
        | (go_at_call 48; refine (HIT.out _).mono ?_; rintro e w2 ⟨rfl, rfl⟩)
        | (refine wpList_store_c rfl 3 _ _ rfl rfl (w.heap.size + 2) 0 rfl (.int .i64 0) rfl rfl 29 _ HR1.out (by simp) ?_; intro W2 hr2 ho2; have HR2 := hidden hr2; have HA2 := hidden (ho2.row HA1.out (by omega)); have HZ2 := hidden (ho2.row HZ1.out (by omega)); have HG2 := hidden (ho2.below HG1.out (fun i hi => by omega)); have HZ6 := hidden (Nat.le_trans HZ5.out ho2.size); clear hr2 ho2; have y0 := HA2.out.cell 0; have y1 := HA2.out.cell 1; have y2 := HA2.out.cell 2; have t0 := HR2.out.cell 0; simp only [List.set_cons_zero, List.getElem?_cons_succ, List.getElem?_cons_zero] at y0 y1 y2 t0)
        | (go_at_call 49; refine (HF.out _).mono ?_; rintro e w3 ⟨rfl, g3⟩; have HR3 := hidden (Row.grow HR2.out g3); have HA3 := hidden (Row.grow HA2.out g3); have HZ3 := hidden (Row.grow HZ2.out g3); have HG3 := hidden (HG2.out.of_below g3); have HZ7 := hidden (Nat.le_trans HZ6.out g3.size); clear g3 y0 y1 y2 t0)
        | (refine wpList_store_f3 rfl _ _ rfl w.heap.size 0 rfl 0 0 ⟨#[]⟩ rfl _ _ HA3.out (by simp) ?_; intro W8 hr8 ht8; have HA8 := hidden hr8; have HR8 := hidden (ht8.row _ _ _ (by omega) HR3.out); have HZ8 := hidden (ht8.row _ _ _ (by omega) HZ3.out); have HG8 := hidden (ht8.grows w HG3.out (by omega)); have HZ9 := hidden (show w.heap.size + 3 ≤ W8.heap.size by rw [ht8.size]; exact HZ7.out); clear hr8 ht8))
      have HS1 := hidden (show OutSt w (w.heap.size + 3) (w.heap.size + 2) 0 (buildV 0 (List.replicate 0 nulX)) (.slice none 0 0) (.slice none 0 0) (.slice none 0 0) W8 from
        ⟨by omega, by omega, HZ9.out, HR8.out, OwnV.nil_ _ _ _, HG8.out⟩)
      have HAY := hidden (show Row W8 w.heap.size 37 [.int .i64 nulX.k, .int .i64 nulX.n, .string nulX.t] from HA8.out)
      have HZY := hidden HZ8.out
      clear HR0
      go_loopw [8] (fun i wr => CnRel w 0 nulX N i wr) (fun i _ => N - (intOf i).toNat)
      case atStart => exact ⟨0, _, _, _, rfl, Nat.zero_le _, HS1.out, HAY.out, HZY.out⟩
      case round =>
        obtain ⟨k, p, q, r, rfl, hk, hst, ha, hz⟩ := hrel
        have HST := hidden hst
        have HA := hidden ha
        have HZ := hidden hz
        clear hst ha hz HS1 HAY HZY
        by_cases hlt : k < N
        · have hk0 : (0 : Int) ≤ (k : Int) := by omega
          have hk1 : (k : Int) < n := by have := HNN.out; omega
          have hd : decide ((k : Int) < n) = true := by simpa using hk1
          have hm : N - (k + 1) < N - k := by omega
          have HK1 := hidden (show k + 1 ≤ N by omega)
          have s0 := HST.out.row.cell 0
          have s1 := HST.out.row.cell 1
          have s2 := HST.out.row.cell 2
          have s3 := HST.out.row.cell 3
          have a0 := HA.out.cell 0
          have a1 := HA.out.cell 1
          have a2 := HA.out.cell 2
          simp only [List.getElem?_cons_succ, List.getElem?_cons_zero] at s0 s1 s2 s3 a0 a1 a2
          have hnb : N ≤ 1000000 := HNB.out
          have hk6 : k + 1 ≤ N := HK1.out
          have HTT := hidden ((putV_T (buildV 0 (List.replicate k nulX)) nulX).trans (buildV_T 0 _))
          have HS9 := HST
          have HA9 := HA
          have HZ9 := HZ
          have HPT := hidden (rput_any (w.heap.size + 3) _ _ nulX wr HS9.out.own HS9.out.size (buildV_fit 0 _ (by have := HNB.out; rw [List.length_replicate]; omega)))
          clear hlt hk
          go_wp2_with (first
            | (go_at_call 50; refine HPT.out.mono ?_; rintro e w3 ⟨x', rfl, ho3, hon3, hbk3⟩; obtain ⟨p', q', r', hx', hq1, hq2, hq3⟩ := id ho3; rw [HTT.out] at hx'; subst hx'; have HO3 := hidden ho3; have HON3 := hidden hon3; have HQ3 := hidden (all4 (p := .int .i64 0) rfl (ownsRow_one hq1) (ownsRow_one hq2) (ownsRow_one hq3)); clear ho3 hon3 hbk3 hq1 hq2 hq3)
            | (refine wpList_store_vc rfl _ _ rfl (w.heap.size + 2) rfl _ _ _ _ rfl HQ3.out (HS9.out.rowY HON3.out (by omega) HS9.out.row) ?_; intro W4 hr4 ho4; have HS4 := hidden (HS9.out.step HO3.out HON3.out ho4 hr4); have HA4 := hidden (HS9.out.rowZ HON3.out ho4 (by omega) (by omega) HA9.out); have HZ4 := hidden (HS9.out.rowZ HON3.out ho4 (by omega) (by omega) HZ9.out); clear hr4 ho4))
          go_roundw
          case rel => exact ⟨k + 1, p', q', r', by go_num, HK1.out, by rw [replicate_snoc17, buildV_snoc]; exact HS4.out, HA4.out, HZ4.out⟩
          case measure => simpa [intOf] using hm
        · have hke : k = N := by omega
          have hk1 : ¬ (k : Int) < n := by have := HNN.out; omega
          have hd : decide ((k : Int) < n) = false := by simpa using hk1
          obtain ⟨p', q', r', he, hq1, hq2, hq3⟩ := HST.out.own
          injection he with he
          simp only [Array.mk.injEq, List.cons.injEq, and_true] at he
          obtain ⟨-, rfl, rfl, rfl⟩ := he
          have HQ3 := hidden (all4 (p := .int .i64 0) rfl (ownsRow_one hq1) (ownsRow_one hq2) (ownsRow_one hq3))
          have HKE := hidden hke
          clear hke hlt hk hq1 hq2 hq3
          go_wp2_with (first
            | (refine wpList_load_vec rfl _ rfl (w.heap.size + 2) rfl _ _ _ _ HST.out.row ?_)
            | (refine wpList_store_vc rfl _ _ rfl (w.heap.size + 1) rfl _ _ _ _ rfl HQ3.out HZ.out ?_; intro W4 hr4 ho4; have HR4 := hidden hr4; have HO4 := hidden ho4; clear hr4 ho4))
          refine bodyPost_ret (results_vec rfl _ _ _ _ _ _ _ rfl HR4.out) rfl ⟨_, rfl, ?_, HO4.out.below HST.out.grows (fun i hi => by omega)⟩
          have := HST.out.own.only HO4.out (fun i hi e => by have := (HST.out.own.blocks i hi).1; omega)
          rw [HKE.out] at this
          exact this.base_ (by omega)
    · obtain rfl : y = Y := HYE.out.symm
      go_enter Try.func27, Try.ntmps27
      go_wp2_with (first
        | (refine wpList_store_vc rfl _ _ rfl (w.heap.size + 2) rfl _ _ _ _ rfl (all4 rfl rfl rfl rfl) (Row.at_ _ 29 #[.int .i64 0, .slice none 0 0, .slice none 0 0, .slice none 0 0] [.int .i64 0, .slice none 0 0, .slice none 0 0, .slice none 0 0] rfl (w.heap.size + 2) (by simp)) ?_; intro W1 hr1 ho1; have HR1 := hidden hr1; have HO1 := hidden ho1; have HA1 := hidden (ho1.row (Row.grow (Row.grow HR0.out (grow1 _)) (grow1 _)) (by omega)); have HZ1 := hidden (ho1.row (Row.grow (Row.at_ (w.alloc _) 29 #[.int .i64 0, .slice none 0 0, .slice none 0 0, .slice none 0 0] [.int .i64 0, .slice none 0 0, .slice none 0 0, .slice none 0 0] rfl (w.heap.size + 1) (by simp)) (grow1 _)) (by omega)); have HG1 := hidden (ho1.below (((grow1 (w := w) _).of_below (grow1 _)).of_below (grow1 _)) (fun i hi => by omega)); have HZ5 := hidden (show w.heap.size + 3 ≤ W1.heap.size by have := ho1.size; simp at this; omega); clear hr1 ho1; skip)
        | (go_at_call 48; refine (HIT.out _).mono ?_; rintro e w2 ⟨rfl, rfl⟩)
        | (refine wpList_store_c rfl 3 _ _ rfl rfl (w.heap.size + 2) 0 rfl (.int .i64 0) rfl rfl 29 _ HR1.out (by simp) ?_; intro W2 hr2 ho2; have HR2 := hidden hr2; have HA2 := hidden (ho2.row HA1.out (by omega)); have HZ2 := hidden (ho2.row HZ1.out (by omega)); have HG2 := hidden (ho2.below HG1.out (fun i hi => by omega)); have HZ6 := hidden (Nat.le_trans HZ5.out ho2.size); clear hr2 ho2; have y0 := HA2.out.cell 0; have y1 := HA2.out.cell 1; have y2 := HA2.out.cell 2; have t0 := HR2.out.cell 0; simp only [List.set_cons_zero, List.getElem?_cons_succ, List.getElem?_cons_zero] at y0 y1 y2 t0)
        | (go_at_call 49; refine (HF.out _).mono ?_; rintro e w3 ⟨rfl, g3⟩; have HR3 := hidden (Row.grow HR2.out g3); have HA3 := hidden (Row.grow HA2.out g3); have HZ3 := hidden (Row.grow HZ2.out g3); have HG3 := hidden (HG2.out.of_below g3); have HZ7 := hidden (Nat.le_trans HZ6.out g3.size); clear g3 y0 y1 y2 t0))
      have HS1 := hidden (show OutSt w (w.heap.size + 3) (w.heap.size + 2) 0 (buildV 0 (List.replicate 0 y)) (.slice none 0 0) (.slice none 0 0) (.slice none 0 0) w3 from
        ⟨by omega, by omega, HZ7.out, HR3.out, OwnV.nil_ _ _ _, HG3.out⟩)
      have HAY := hidden (show Row w3 w.heap.size 37 [.int .i64 y.k, .int .i64 y.n, .string y.t] from HA3.out)
      have HZY := hidden HZ3.out
      clear HR0
      go_loopw [8] (fun i wr => CnRel w 0 y N i wr) (fun i _ => N - (intOf i).toNat)
      case atStart => exact ⟨0, _, _, _, rfl, Nat.zero_le _, HS1.out, HAY.out, HZY.out⟩
      case round =>
        obtain ⟨k, p, q, r, rfl, hk, hst, ha, hz⟩ := hrel
        have HST := hidden hst
        have HA := hidden ha
        have HZ := hidden hz
        clear hst ha hz HS1 HAY HZY
        by_cases hlt : k < N
        · have hk0 : (0 : Int) ≤ (k : Int) := by omega
          have hk1 : (k : Int) < n := by have := HNN.out; omega
          have hd : decide ((k : Int) < n) = true := by simpa using hk1
          have hm : N - (k + 1) < N - k := by omega
          have HK1 := hidden (show k + 1 ≤ N by omega)
          have s0 := HST.out.row.cell 0
          have s1 := HST.out.row.cell 1
          have s2 := HST.out.row.cell 2
          have s3 := HST.out.row.cell 3
          have a0 := HA.out.cell 0
          have a1 := HA.out.cell 1
          have a2 := HA.out.cell 2
          simp only [List.getElem?_cons_succ, List.getElem?_cons_zero] at s0 s1 s2 s3 a0 a1 a2
          have hnb : N ≤ 1000000 := HNB.out
          have hk6 : k + 1 ≤ N := HK1.out
          have HTT := hidden ((putV_T (buildV 0 (List.replicate k y)) y).trans (buildV_T 0 _))
          have HS9 := HST
          have HA9 := HA
          have HZ9 := HZ
          have HPT := hidden (rput_any (w.heap.size + 3) _ _ y wr HS9.out.own HS9.out.size (buildV_fit 0 _ (by have := HNB.out; rw [List.length_replicate]; omega)))
          clear hlt hk
          go_wp2_with (first
            | (go_at_call 50; refine HPT.out.mono ?_; rintro e w3 ⟨x', rfl, ho3, hon3, hbk3⟩; obtain ⟨p', q', r', hx', hq1, hq2, hq3⟩ := id ho3; rw [HTT.out] at hx'; subst hx'; have HO3 := hidden ho3; have HON3 := hidden hon3; have HQ3 := hidden (all4 (p := .int .i64 0) rfl (ownsRow_one hq1) (ownsRow_one hq2) (ownsRow_one hq3)); clear ho3 hon3 hbk3 hq1 hq2 hq3)
            | (refine wpList_store_vc rfl _ _ rfl (w.heap.size + 2) rfl _ _ _ _ rfl HQ3.out (HS9.out.rowY HON3.out (by omega) HS9.out.row) ?_; intro W4 hr4 ho4; have HS4 := hidden (HS9.out.step HO3.out HON3.out ho4 hr4); have HA4 := hidden (HS9.out.rowZ HON3.out ho4 (by omega) (by omega) HA9.out); have HZ4 := hidden (HS9.out.rowZ HON3.out ho4 (by omega) (by omega) HZ9.out); clear hr4 ho4))
          go_roundw
          case rel => exact ⟨k + 1, p', q', r', by go_num, HK1.out, by rw [replicate_snoc17, buildV_snoc]; exact HS4.out, HA4.out, HZ4.out⟩
          case measure => simpa [intOf] using hm
        · have hke : k = N := by omega
          have hk1 : ¬ (k : Int) < n := by have := HNN.out; omega
          have hd : decide ((k : Int) < n) = false := by simpa using hk1
          obtain ⟨p', q', r', he, hq1, hq2, hq3⟩ := HST.out.own
          injection he with he
          simp only [Array.mk.injEq, List.cons.injEq, and_true] at he
          obtain ⟨-, rfl, rfl, rfl⟩ := he
          have HQ3 := hidden (all4 (p := .int .i64 0) rfl (ownsRow_one hq1) (ownsRow_one hq2) (ownsRow_one hq3))
          have HKE := hidden hke
          clear hke hlt hk hq1 hq2 hq3
          go_wp2_with (first
            | (refine wpList_load_vec rfl _ rfl (w.heap.size + 2) rfl _ _ _ _ HST.out.row ?_)
            | (refine wpList_store_vc rfl _ _ rfl (w.heap.size + 1) rfl _ _ _ _ rfl HQ3.out HZ.out ?_; intro W4 hr4 ho4; have HR4 := hidden hr4; have HO4 := hidden ho4; clear hr4 ho4))
          refine bodyPost_ret (results_vec rfl _ _ _ _ _ _ _ rfl HR4.out) rfl ⟨_, rfl, ?_, HO4.out.below HST.out.grows (fun i hi => by omega)⟩
          have := HST.out.own.only HO4.out (fun i hi e => by have := (HST.out.own.blocks i hi).1; omega)
          rw [HKE.out] at this
          exact this.base_ (by omega)
  · obtain rfl : T = U := HUE.out.symm
    cases f
    · obtain rfl : Y = nulX := HYE.out
      go_enter Try.func27, Try.ntmps27
      go_wp2_with (first
        | (refine wpList_store_vc rfl _ _ rfl (w.heap.size + 2) rfl _ _ _ _ rfl (all4 rfl rfl rfl rfl) (Row.at_ _ 29 #[.int .i64 0, .slice none 0 0, .slice none 0 0, .slice none 0 0] [.int .i64 0, .slice none 0 0, .slice none 0 0, .slice none 0 0] rfl (w.heap.size + 2) (by simp)) ?_; intro W1 hr1 ho1; have HR1 := hidden hr1; have HO1 := hidden ho1; have HA1 := hidden (ho1.row (Row.grow (Row.grow HR0.out (grow1 _)) (grow1 _)) (by omega)); have HZ1 := hidden (ho1.row (Row.grow (Row.at_ (w.alloc _) 29 #[.int .i64 0, .slice none 0 0, .slice none 0 0, .slice none 0 0] [.int .i64 0, .slice none 0 0, .slice none 0 0, .slice none 0 0] rfl (w.heap.size + 1) (by simp)) (grow1 _)) (by omega)); have HG1 := hidden (ho1.below (((grow1 (w := w) _).of_below (grow1 _)).of_below (grow1 _)) (fun i hi => by omega)); have HZ5 := hidden (show w.heap.size + 3 ≤ W1.heap.size by have := ho1.size; simp at this; omega); clear hr1 ho1; have y0 := HA1.out.cell 0; have y1 := HA1.out.cell 1; have y2 := HA1.out.cell 2; have t0 := HR1.out.cell 0; simp only [List.getElem?_cons_succ, List.getElem?_cons_zero] at y0 y1 y2 t0)
        | (go_at_call 48; refine (HIT.out _).mono ?_; rintro e w2 ⟨rfl, rfl⟩)
        | (go_at_call 49; refine (HF.out _).mono ?_; rintro e w3 ⟨rfl, g3⟩; have HR3 := hidden (Row.grow HR1.out g3); have HA3 := hidden (Row.grow HA1.out g3); have HZ3 := hidden (Row.grow HZ1.out g3); have HG3 := hidden (HG1.out.of_below g3); have HZ7 := hidden (Nat.le_trans HZ5.out g3.size); clear g3 y0 y1 y2 t0)
        | (refine wpList_store_f3 rfl _ _ rfl w.heap.size 0 rfl 0 0 ⟨#[]⟩ rfl _ _ HA3.out (by simp) ?_; intro W8 hr8 ht8; have HA8 := hidden hr8; have HR8 := hidden (ht8.row _ _ _ (by omega) HR3.out); have HZ8 := hidden (ht8.row _ _ _ (by omega) HZ3.out); have HG8 := hidden (ht8.grows w HG3.out (by omega)); have HZ9 := hidden (show w.heap.size + 3 ≤ W8.heap.size by rw [ht8.size]; exact HZ7.out); clear hr8 ht8))
      have HS1 := hidden (show OutSt w (w.heap.size + 3) (w.heap.size + 2) T (buildV T (List.replicate 0 nulX)) (.slice none 0 0) (.slice none 0 0) (.slice none 0 0) W8 from
        ⟨by omega, by omega, HZ9.out, HR8.out, OwnV.nil_ _ _ _, HG8.out⟩)
      have HAY := hidden (show Row W8 w.heap.size 37 [.int .i64 nulX.k, .int .i64 nulX.n, .string nulX.t] from HA8.out)
      have HZY := hidden HZ8.out
      clear HR0
      go_loopw [8] (fun i wr => CnRel w T nulX N i wr) (fun i _ => N - (intOf i).toNat)
      case atStart => exact ⟨0, _, _, _, rfl, Nat.zero_le _, HS1.out, HAY.out, HZY.out⟩
      case round =>
        obtain ⟨k, p, q, r, rfl, hk, hst, ha, hz⟩ := hrel
        have HST := hidden hst
        have HA := hidden ha
        have HZ := hidden hz
        clear hst ha hz HS1 HAY HZY
        by_cases hlt : k < N
        · have hk0 : (0 : Int) ≤ (k : Int) := by omega
          have hk1 : (k : Int) < n := by have := HNN.out; omega
          have hd : decide ((k : Int) < n) = true := by simpa using hk1
          have hm : N - (k + 1) < N - k := by omega
          have HK1 := hidden (show k + 1 ≤ N by omega)
          have s0 := HST.out.row.cell 0
          have s1 := HST.out.row.cell 1
          have s2 := HST.out.row.cell 2
          have s3 := HST.out.row.cell 3
          have a0 := HA.out.cell 0
          have a1 := HA.out.cell 1
          have a2 := HA.out.cell 2
          simp only [List.getElem?_cons_succ, List.getElem?_cons_zero] at s0 s1 s2 s3 a0 a1 a2
          have hnb : N ≤ 1000000 := HNB.out
          have hk6 : k + 1 ≤ N := HK1.out
          have HTT := hidden ((putV_T (buildV T (List.replicate k nulX)) nulX).trans (buildV_T T _))
          have HS9 := HST
          have HA9 := HA
          have HZ9 := HZ
          have HPT := hidden (rput_any (w.heap.size + 3) _ _ nulX wr HS9.out.own HS9.out.size (buildV_fit T _ (by have := HNB.out; rw [List.length_replicate]; omega)))
          clear hlt hk
          go_wp2_with (first
            | (go_at_call 50; refine HPT.out.mono ?_; rintro e w3 ⟨x', rfl, ho3, hon3, hbk3⟩; obtain ⟨p', q', r', hx', hq1, hq2, hq3⟩ := id ho3; rw [HTT.out] at hx'; subst hx'; have HO3 := hidden ho3; have HON3 := hidden hon3; have HQ3 := hidden (all4 (p := .int .i64 T) rfl (ownsRow_one hq1) (ownsRow_one hq2) (ownsRow_one hq3)); clear ho3 hon3 hbk3 hq1 hq2 hq3)
            | (refine wpList_store_vc rfl _ _ rfl (w.heap.size + 2) rfl _ _ _ _ rfl HQ3.out (HS9.out.rowY HON3.out (by omega) HS9.out.row) ?_; intro W4 hr4 ho4; have HS4 := hidden (HS9.out.step HO3.out HON3.out ho4 hr4); have HA4 := hidden (HS9.out.rowZ HON3.out ho4 (by omega) (by omega) HA9.out); have HZ4 := hidden (HS9.out.rowZ HON3.out ho4 (by omega) (by omega) HZ9.out); clear hr4 ho4))
          go_roundw
          case rel => exact ⟨k + 1, p', q', r', by go_num, HK1.out, by rw [replicate_snoc17, buildV_snoc]; exact HS4.out, HA4.out, HZ4.out⟩
          case measure => simpa [intOf] using hm
        · have hke : k = N := by omega
          have hk1 : ¬ (k : Int) < n := by have := HNN.out; omega
          have hd : decide ((k : Int) < n) = false := by simpa using hk1
          obtain ⟨p', q', r', he, hq1, hq2, hq3⟩ := HST.out.own
          injection he with he
          simp only [Array.mk.injEq, List.cons.injEq, and_true] at he
          obtain ⟨-, rfl, rfl, rfl⟩ := he
          have HQ3 := hidden (all4 (p := .int .i64 T) rfl (ownsRow_one hq1) (ownsRow_one hq2) (ownsRow_one hq3))
          have HKE := hidden hke
          clear hke hlt hk hq1 hq2 hq3
          go_wp2_with (first
            | (refine wpList_load_vec rfl _ rfl (w.heap.size + 2) rfl _ _ _ _ HST.out.row ?_)
            | (refine wpList_store_vc rfl _ _ rfl (w.heap.size + 1) rfl _ _ _ _ rfl HQ3.out HZ.out ?_; intro W4 hr4 ho4; have HR4 := hidden hr4; have HO4 := hidden ho4; clear hr4 ho4))
          refine bodyPost_ret (results_vec rfl _ _ _ _ _ _ _ rfl HR4.out) rfl ⟨_, rfl, ?_, HO4.out.below HST.out.grows (fun i hi => by omega)⟩
          have := HST.out.own.only HO4.out (fun i hi e => by have := (HST.out.own.blocks i hi).1; omega)
          rw [HKE.out] at this
          exact this.base_ (by omega)
    · obtain rfl : y = Y := HYE.out.symm
      go_enter Try.func27, Try.ntmps27
      go_wp2_with (first
        | (refine wpList_store_vc rfl _ _ rfl (w.heap.size + 2) rfl _ _ _ _ rfl (all4 rfl rfl rfl rfl) (Row.at_ _ 29 #[.int .i64 0, .slice none 0 0, .slice none 0 0, .slice none 0 0] [.int .i64 0, .slice none 0 0, .slice none 0 0, .slice none 0 0] rfl (w.heap.size + 2) (by simp)) ?_; intro W1 hr1 ho1; have HR1 := hidden hr1; have HO1 := hidden ho1; have HA1 := hidden (ho1.row (Row.grow (Row.grow HR0.out (grow1 _)) (grow1 _)) (by omega)); have HZ1 := hidden (ho1.row (Row.grow (Row.at_ (w.alloc _) 29 #[.int .i64 0, .slice none 0 0, .slice none 0 0, .slice none 0 0] [.int .i64 0, .slice none 0 0, .slice none 0 0, .slice none 0 0] rfl (w.heap.size + 1) (by simp)) (grow1 _)) (by omega)); have HG1 := hidden (ho1.below (((grow1 (w := w) _).of_below (grow1 _)).of_below (grow1 _)) (fun i hi => by omega)); have HZ5 := hidden (show w.heap.size + 3 ≤ W1.heap.size by have := ho1.size; simp at this; omega); clear hr1 ho1; have y0 := HA1.out.cell 0; have y1 := HA1.out.cell 1; have y2 := HA1.out.cell 2; have t0 := HR1.out.cell 0; simp only [List.getElem?_cons_succ, List.getElem?_cons_zero] at y0 y1 y2 t0)
        | (go_at_call 48; refine (HIT.out _).mono ?_; rintro e w2 ⟨rfl, rfl⟩)
        | (go_at_call 49; refine (HF.out _).mono ?_; rintro e w3 ⟨rfl, g3⟩; have HR3 := hidden (Row.grow HR1.out g3); have HA3 := hidden (Row.grow HA1.out g3); have HZ3 := hidden (Row.grow HZ1.out g3); have HG3 := hidden (HG1.out.of_below g3); have HZ7 := hidden (Nat.le_trans HZ5.out g3.size); clear g3 y0 y1 y2 t0))
      have HS1 := hidden (show OutSt w (w.heap.size + 3) (w.heap.size + 2) T (buildV T (List.replicate 0 y)) (.slice none 0 0) (.slice none 0 0) (.slice none 0 0) w3 from
        ⟨by omega, by omega, HZ7.out, HR3.out, OwnV.nil_ _ _ _, HG3.out⟩)
      have HAY := hidden (show Row w3 w.heap.size 37 [.int .i64 y.k, .int .i64 y.n, .string y.t] from HA3.out)
      have HZY := hidden HZ3.out
      clear HR0
      go_loopw [8] (fun i wr => CnRel w T y N i wr) (fun i _ => N - (intOf i).toNat)
      case atStart => exact ⟨0, _, _, _, rfl, Nat.zero_le _, HS1.out, HAY.out, HZY.out⟩
      case round =>
        obtain ⟨k, p, q, r, rfl, hk, hst, ha, hz⟩ := hrel
        have HST := hidden hst
        have HA := hidden ha
        have HZ := hidden hz
        clear hst ha hz HS1 HAY HZY
        by_cases hlt : k < N
        · have hk0 : (0 : Int) ≤ (k : Int) := by omega
          have hk1 : (k : Int) < n := by have := HNN.out; omega
          have hd : decide ((k : Int) < n) = true := by simpa using hk1
          have hm : N - (k + 1) < N - k := by omega
          have HK1 := hidden (show k + 1 ≤ N by omega)
          have s0 := HST.out.row.cell 0
          have s1 := HST.out.row.cell 1
          have s2 := HST.out.row.cell 2
          have s3 := HST.out.row.cell 3
          have a0 := HA.out.cell 0
          have a1 := HA.out.cell 1
          have a2 := HA.out.cell 2
          simp only [List.getElem?_cons_succ, List.getElem?_cons_zero] at s0 s1 s2 s3 a0 a1 a2
          have hnb : N ≤ 1000000 := HNB.out
          have hk6 : k + 1 ≤ N := HK1.out
          have HTT := hidden ((putV_T (buildV T (List.replicate k y)) y).trans (buildV_T T _))
          have HS9 := HST
          have HA9 := HA
          have HZ9 := HZ
          have HPT := hidden (rput_any (w.heap.size + 3) _ _ y wr HS9.out.own HS9.out.size (buildV_fit T _ (by have := HNB.out; rw [List.length_replicate]; omega)))
          clear hlt hk
          go_wp2_with (first
            | (go_at_call 50; refine HPT.out.mono ?_; rintro e w3 ⟨x', rfl, ho3, hon3, hbk3⟩; obtain ⟨p', q', r', hx', hq1, hq2, hq3⟩ := id ho3; rw [HTT.out] at hx'; subst hx'; have HO3 := hidden ho3; have HON3 := hidden hon3; have HQ3 := hidden (all4 (p := .int .i64 T) rfl (ownsRow_one hq1) (ownsRow_one hq2) (ownsRow_one hq3)); clear ho3 hon3 hbk3 hq1 hq2 hq3)
            | (refine wpList_store_vc rfl _ _ rfl (w.heap.size + 2) rfl _ _ _ _ rfl HQ3.out (HS9.out.rowY HON3.out (by omega) HS9.out.row) ?_; intro W4 hr4 ho4; have HS4 := hidden (HS9.out.step HO3.out HON3.out ho4 hr4); have HA4 := hidden (HS9.out.rowZ HON3.out ho4 (by omega) (by omega) HA9.out); have HZ4 := hidden (HS9.out.rowZ HON3.out ho4 (by omega) (by omega) HZ9.out); clear hr4 ho4))
          go_roundw
          case rel => exact ⟨k + 1, p', q', r', by go_num, HK1.out, by rw [replicate_snoc17, buildV_snoc]; exact HS4.out, HA4.out, HZ4.out⟩
          case measure => simpa [intOf] using hm
        · have hke : k = N := by omega
          have hk1 : ¬ (k : Int) < n := by have := HNN.out; omega
          have hd : decide ((k : Int) < n) = false := by simpa using hk1
          obtain ⟨p', q', r', he, hq1, hq2, hq3⟩ := HST.out.own
          injection he with he
          simp only [Array.mk.injEq, List.cons.injEq, and_true] at he
          obtain ⟨-, rfl, rfl, rfl⟩ := he
          have HQ3 := hidden (all4 (p := .int .i64 T) rfl (ownsRow_one hq1) (ownsRow_one hq2) (ownsRow_one hq3))
          have HKE := hidden hke
          clear hke hlt hk hq1 hq2 hq3
          go_wp2_with (first
            | (refine wpList_load_vec rfl _ rfl (w.heap.size + 2) rfl _ _ _ _ HST.out.row ?_)
            | (refine wpList_store_vc rfl _ _ rfl (w.heap.size + 1) rfl _ _ _ _ rfl HQ3.out HZ.out ?_; intro W4 hr4 ho4; have HR4 := hidden hr4; have HO4 := hidden ho4; clear hr4 ho4))
          refine bodyPost_ret (results_vec rfl _ _ _ _ _ _ _ rfl HR4.out) rfl ⟨_, rfl, ?_, HO4.out.below HST.out.grows (fun i hi => by omega)⟩
          have := HST.out.own.only HO4.out (fun i hi e => by have := (HST.out.own.blocks i hi).1; omega)
          rw [HKE.out] at this
          exact this.base_ (by omega)
end Go.Proofs.Ytfjhahhkakfhmaa
/-
  Shaken: what the claims of this seat need of this text. No condition.
-/
namespace Go.Proofs.Ytfjhahhkakfhmaa
set_option maxRecDepth 8000
open Go.RowKit
set_option linter.unusedVariables false
set_option linter.unusedSimpArgs false
def IsVs (w : World) (v : Value) (l : List Vec) : Prop :=
  ∃ A c, v = .slice A l.length c ∧ l.length ≤ c ∧ (0 < l.length → ∃ b off, A = some ⟨b, off, none⟩ ∧ ∀ (j : Nat) (x : Vec), l[j]? = some x → ∃ p q r, w.cell? ⟨b, off + j * 4, none⟩ = some (.int .i64 x.T) ∧ w.cell? ⟨b, off + j * 4 + 1, none⟩ = some p ∧ w.cell? ⟨b, off + j * 4 + 2, none⟩ = some q ∧ w.cell? ⟨b, off + j * 4 + 3, none⟩ = some r ∧ IsV w (.agg #[.int .i64 x.T, p, q, r]) x)
theorem IsVs.grow {w w' : World} {v : Value} {l : List Vec} (h : IsVs w v l) (hg : Grows w w') : IsVs w' v l := by
  obtain ⟨A, c, rfl, hc, hcell⟩ := h
  refine ⟨A, c, rfl, hc, fun hl => ?_⟩
  obtain ⟨b, off, rfl, hcc⟩ := hcell hl
  refine ⟨b, off, rfl, fun j x hj => ?_⟩
  obtain ⟨p, q, r, h0, h1, h2, h3, h4⟩ := hcc j x hj
  have up : ∀ {a : Addr} {u : Value}, w.cell? a = some u → w'.cell? a = some u := fun h => (hg.cell (World.block_lt_of_cell? _ _ h)).trans h
  exact ⟨p, q, r, up h0, up h1, up h2, up h3, h4.grow hg⟩
theorem IsVs.slice_ {w : World} {v : Value} {l : List Vec} (h : IsVs w v l) : ∃ A c, v = .slice A l.length c := by
  obtain ⟨A, c, h, _⟩ := h; exact ⟨A, c, h⟩
theorem IsVs.at_ {w : World} {A : Option Addr} {n c : Nat} {l : List Vec} (h : IsVs w (.slice A n c) l) {j : Nat} (hj : j < l.length) :
    ∃ b off A1 c1 A2 c2 A3 c3, A = some ⟨b, off, none⟩ ∧ ∀ W, Grows w W → W.cell? ⟨b, off + j * 4, none⟩ = some (.int .i64 l[j].T) ∧ W.cell? ⟨b, off + j * 4 + 1, none⟩ = some (.slice A1 l[j].is.length c1) ∧ W.cell? ⟨b, off + j * 4 + 2, none⟩ = some (.slice A2 l[j].ts.length c2) ∧ W.cell? ⟨b, off + j * 4 + 3, none⟩ = some (.slice A3 l[j].ns.length c3) ∧ IsV W (.agg #[.int .i64 l[j].T, .slice A1 l[j].is.length c1, .slice A2 l[j].ts.length c2, .slice A3 l[j].ns.length c3]) l[j] := by
  obtain ⟨A', c', he, _, hcell⟩ := h
  injection he with e1 e2 e3
  subst e1
  obtain ⟨b, off, rfl, hcc⟩ := hcell (by omega)
  obtain ⟨p, q, r, h0, h1, h2, h3, h4⟩ := hcc j l[j] (List.getElem?_eq_getElem hj)
  obtain ⟨a1, a2, a3, hE, j1, j2, j3⟩ := id h4
  injection hE with hE
  simp only [Array.mk.injEq, List.cons.injEq, and_true, true_and] at hE
  obtain ⟨rfl, rfl, rfl⟩ := hE
  obtain ⟨A1, c1, rfl⟩ := j1.slice_
  obtain ⟨A2, c2, rfl⟩ := j2.slice_
  obtain ⟨A3, c3, rfl⟩ := j3.slice_
  have up : ∀ {W : World} (hg : Grows w W) {a : Addr} {u : Value}, w.cell? a = some u → W.cell? a = some u := fun hg _ _ h => (hg.cell (World.block_lt_of_cell? _ _ h)).trans h
  exact ⟨b, off, A1, c1, A2, c2, A3, c3, rfl, fun W hW => ⟨up hW h0, up hW h1, up hW h2, up hW h3, h4.grow hW⟩⟩
def headT (l : List Vec) : Int := match l with | [] => 0 | x :: _ => x.T
def catB (l : List Vec) : Bool := l.all (fun x => decide (x.T = headT l))
def catV (l : List Vec) : Vec := if l = [] then vec0 else if catB l = true then buildV (headT l) (l.flatMap valsW) else vec0
def catE (l : List Vec) : Int := if l = [] then 1 else if catB l = true then 0 else 7
theorem flatMap_le {l : List Vec} {m : Nat} (h : ∀ x ∈ l, x.ns.length ≤ m) : (l.flatMap valsW).length ≤ l.length * m := by
  induction l with
  | nil => simp
  | cons x r ih =>
    rw [List.flatMap_cons, List.length_append, List.length_cons, Nat.add_mul]
    have h1 := ih (fun y hy => h y (List.mem_cons_of_mem _ hy))
    have h2 := h x (List.mem_cons_self ..)
    have h3 : (valsW x).length = x.ns.length := by simp [valsW]
    omega
def CtRel (w : World) (T : Int) (l : List Vec) (i : Value) (wr : World) : Prop :=
  ∃ (k : Nat) (p q r : Value), i = .int .i64 (k : Int) ∧ k ≤ l.length ∧ (∀ x ∈ l.take k, x.T = T) ∧ OutSt w (w.heap.size + 2) (w.heap.size + 1) T (buildV T ((l.take k).flatMap valsW)) p q r wr ∧ Row wr w.heap.size 29 [.int .i64 0, .slice none 0 0, .slice none 0 0, .slice none 0 0]
def CiRel (w : World) (T : Int) (pre : List Val) (v : Vec) (j : Value) (wr : World) : Prop :=
  ∃ (m : Nat) (p q r : Value), j = .int .i64 (m : Int) ∧ m ≤ v.ns.length ∧ OutSt w (w.heap.size + 2) (w.heap.size + 1) T (buildV T (pre ++ (List.range m).map (vat v))) p q r wr ∧ Row wr w.heap.size 29 [.int .i64 0, .slice none 0 0, .slice none 0 0, .slice none 0 0]
set_option maxHeartbeats 4000000 in
theorem rconcat_any (u : Value) (l : List Vec) (w : World) (hu : IsVs w u l) (hl : l.length ≤ 1000) (hv : ∀ x ∈ l, OkAt x ∧ x.ns.length ≤ 100000) :
    Calls Try.prog 29 #[u] w (VecER (catV l) (catE l) w) := by
  have HU := hidden hu
  obtain ⟨A, c, rfl⟩ := hu.slice_
  have HVV := hidden hv
  obtain ⟨n, hn⟩ : ∃ n, l.length = n := ⟨_, rfl⟩
  rw [hn] at HU ⊢
  have HN := hidden hn
  have HL := hidden (show n ≤ 1000 by omega)
  clear hn hl hv hu
  by_cases hnil : l = []
  · have hV := hidden (show catV l = vec0 by rw [catV, if_pos hnil])
    have hE := hidden (show catE l = 1 by rw [catE, if_pos hnil])
    obtain rfl : n = 0 := by rw [← HN.out, hnil]; rfl
    clear hnil
    go_enter Try.func29, Try.ntmps29
    go_wp2_with (first
      | (refine wpList_store_vc rfl _ _ rfl w.heap.size rfl _ _ _ _ rfl (all4 rfl rfl rfl rfl) (Row.new w 29 #[.int .i64 0, .slice none 0 0, .slice none 0 0, .slice none 0 0] [.int .i64 0, .slice none 0 0, .slice none 0 0, .slice none 0 0] rfl) ?_; intro W1 hr1 ho1; have HR1 := hidden hr1; have HO1 := hidden (ho1.below (grow1 (w := w) _) (fun i hi => by omega)); clear hr1 ho1))
    refine bodyPost_ret (results_vec2 rfl _ _ _ _ _ _ _ _ rfl HR1.out rfl) rfl ?_
    rw [hV.out, hE.out]
    exact ⟨_, rfl, OwnV.nil_ _ _ _, HO1.out⟩
  · have HNE := hidden hnil
    have hn0 : 0 < n := by rw [← HN.out]; exact List.length_pos_iff.2 hnil
    have hd0 : (n == 0) = false := by simp; omega
    have hn1 : (0 : Int) < (n : Int) := by omega
    obtain ⟨T, hT⟩ : ∃ T, T = headT l := ⟨_, rfl⟩
    have HT := hidden hT
    have h0l : 0 < l.length := by rw [HN.out]; exact hn0
    obtain ⟨b0, off, A1, c1, A2, c2, A3, c3, rfl, hcc⟩ := HU.out.at_ h0l
    have hT0 : l[0].T = T := by rw [hT]; cases l with | nil => exact absurd rfl hnil | cons x r => rfl
    have g0 := (hcc (w.alloc (.cells #[.int .i64 0, .slice none 0 0, .slice none 0 0, .slice none 0 0] 29)) (grow1 _)).1
    rw [hT0, Nat.zero_mul, Nat.add_zero] at g0
    clear hcc hT0 h0l hT hnil
    go_enter Try.func29, Try.ntmps29
    go_wp2_with (first
      | (refine wpList_store_vc rfl _ _ rfl (w.heap.size + 1) rfl _ _ _ _ rfl (all4 rfl rfl rfl rfl) (Row.at_ _ 29 #[.int .i64 0, .slice none 0 0, .slice none 0 0, .slice none 0 0] [.int .i64 0, .slice none 0 0, .slice none 0 0, .slice none 0 0] rfl (w.heap.size + 1) (by simp)) ?_; intro W1 hr1 ho1; have HR1 := hidden hr1; have HO1 := hidden ho1; clear hr1 ho1 g0))
    have HS1 := hidden (show OutSt w (w.heap.size + 2) (w.heap.size + 1) T (buildV T ((l.take 0).flatMap valsW)) (.slice none 0 0) (.slice none 0 0) (.slice none 0 0) W1 from
      ⟨by omega, by omega, by have := HO1.out.size; simp at this; omega, HR1.out, OwnV.nil_ _ _ _, HO1.out.below ((grow1 (w := w) _).of_below (grow1 _)) (fun i hi => by omega)⟩)
    have HZ1 := hidden (HO1.out.row (Row.grow (Row.new w 29 #[.int .i64 0, .slice none 0 0, .slice none 0 0, .slice none 0 0] [.int .i64 0, .slice none 0 0, .slice none 0 0, .slice none 0 0] rfl) (grow1 _)) (by omega))
    clear HR1 HO1
    go_loopw [5] (fun i wr => CtRel w T l i wr) (fun i _ => n - (intOf i).toNat)
    case atStart => exact ⟨0, _, _, _, rfl, Nat.zero_le _, by simp, HS1.out, HZ1.out⟩
    case round =>
      obtain ⟨k, p, q, r, rfl, hk, hft, hst, hz⟩ := hrel
      rw [HN.out] at hk
      have HFT := hidden hft
      have HST := hidden hst
      have HZ := hidden hz
      clear hft hst hz HS1 HZ1
      by_cases hlt : k < n
      · have hkl : k < l.length := by rw [HN.out]; exact hlt
        obtain ⟨b0', off', B1, d1, B2, d2, B3, d3, he, hcc⟩ := HU.out.at_ hkl
        injection he with he
        injection he with e1 e2
        subst e1 e2
        have ey : ∃ y, y = l[k] := ⟨_, rfl⟩
        obtain ⟨y, hy⟩ := ey
        have HMEM := hidden (show y ∈ l by rw [hy]; exact List.getElem_mem _)
        have HTK := hidden (show l.take (k + 1) = l.take k ++ [y] by rw [List.take_add_one, List.getElem?_eq_getElem hkl, hy]; rfl)
        rw [← hy] at hcc
        have HC := hidden hcc
        have HOK := hidden (HVV.out y HMEM.out)
        have hk0 : (0 : Int) ≤ (k : Int) := by omega
        have hk1 : (k : Int) < (n : Int) := by omega
        have hd : decide (k < n) = true := by simpa using hlt
        have hm : n - (k + 1) < n - k := by omega
        have HK1 := hidden (show k + 1 ≤ l.length by omega)
        have HKN := hidden (show k + 1 ≤ n ∧ n ≤ 1000 from ⟨by omega, HL.out⟩)
        clear hy hkl hlt hk hcc
        obtain ⟨c0, -, -, -, -⟩ := HC.out wr HST.out.grows
        have s0 := HST.out.row.cell 0
        simp only [List.getElem?_cons_succ, List.getElem?_cons_zero] at s0
        by_cases hyT : y.T = T
        · have hne : (y.T != T) = false := by simp [hyT]
          have HYT := hidden hyT
          clear hyT
          go_wp2_with fail
          go_region
          have hgd : Grows wr wr.drew := drawn_grows4 (Below.refl _ _)
          have HSD := hidden (HST.out.grow hgd)
          have HZD := hidden (HZ.out.grow hgd)
          have ewd : ∃ wd, wd = wr.drew := ⟨_, rfl⟩
          obtain ⟨wd, hwd⟩ := ewd
          rw [← hwd] at HSD HZD ⊢
          clear hwd hgd c0 s0 HST HZ
          go_wp2_with fail
          go_loopw [6] (fun j wr => CiRel w T ((l.take k).flatMap valsW) y j wr) (fun j _ => y.ns.length - (intOf j).toNat)
          case atStart => exact ⟨0, _, _, _, rfl, Nat.zero_le _, by simpa using HSD.out, HZD.out⟩
          case round =>
            obtain ⟨m, p2, q2, r2, rfl, hm2, hst, hz⟩ := hrel
            have HST := hidden hst
            have HZ := hidden hz
            clear hst hz HSD HZD
            by_cases hlt : m < y.ns.length
            · have hk0 : (0 : Int) ≤ (m : Int) := by omega
              have hd2 : decide (m < y.ns.length) = true := by simpa using hlt
              have hmm : y.ns.length - (m + 1) < y.ns.length - m := by omega
              have hm1 : m + 1 ≤ y.ns.length := by omega
              have hnb : y.ns.length ≤ 100000 := HOK.out.2
              have HCX : Hid (∀ X, Grows wr X → X.cell? ⟨w.heap.size + 1, 0, none⟩ = some (.int .i64 T) ∧ X.cell? ⟨w.heap.size + 1, 1, none⟩ = some p2 ∧ X.cell? ⟨w.heap.size + 1, 2, none⟩ = some q2 ∧ X.cell? ⟨w.heap.size + 1, 3, none⟩ = some r2 ∧ X.cell? ⟨b0, off + k * 4, none⟩ = some (.int .i64 T) ∧ X.cell? ⟨b0, off + k * 4 + 1, none⟩ = some (.slice B1 y.is.length d1) ∧ X.cell? ⟨b0, off + k * 4 + 2, none⟩ = some (.slice B2 y.ts.length d2) ∧ X.cell? ⟨b0, off + k * 4 + 3, none⟩ = some (.slice B3 y.ns.length d3)) :=
                hidden fun X h => ⟨(HST.out.row.grow h).cell 0, (HST.out.row.grow h).cell 1, (HST.out.row.grow h).cell 2, (HST.out.row.grow h).cell 3, by rw [← HYT.out]; exact (HC.out X (HST.out.grows.of_below h)).1, (HC.out X (HST.out.grows.of_below h)).2.1, (HC.out X (HST.out.grows.of_below h)).2.2.1, (HC.out X (HST.out.grows.of_below h)).2.2.2.1⟩
              have HC1 := hidden (fun W (h : Grows wr W) => const_loose (rat17_any _ y (m : Int) W (HC.out W (HST.out.grows.of_below h)).2.2.2.2 (by omega) HOK.out.1))
              rw [HYT.out, atI_nat hlt] at HC1
              have eu : ∃ u, u = vat y m := ⟨_, rfl⟩
              obtain ⟨u, hu⟩ := eu
              have HRS := hidden (show (l.take k).flatMap valsW ++ (List.range (m + 1)).map (vat y) = ((l.take k).flatMap valsW ++ (List.range m).map (vat y)) ++ [u] by rw [List.range_succ, List.map_append, hu]; simp)
              rw [← hu] at HC1
              obtain ⟨-, -, -, -, -, -, -, c3x⟩ := HCX.out wr (Below.refl _ _)
              have HBIG := hidden (show ((l.take k).flatMap valsW ++ (List.range m).map (vat y)).length ≤ 1000000000 by
                have h1 := flatMap_le (l := l.take k) (m := 100000) (fun x hx => (HVV.out x (List.mem_of_mem_take hx)).2)
                have h2 := HKN.out
                rw [List.length_append, List.length_map, List.length_range]
                rw [List.length_take] at h1
                have h3 : min k l.length * 100000 ≤ 1000 * 100000 := Nat.mul_le_mul_right _ (by omega)
                omega)
              clear hu hlt hm2
              go_wp2_with fail
              refine wp_region_loose_tail 7 (tabRs [(6, ConstV (vV u))]) (by kernel_rfl) (by kernel_rfl) (tabRs_cons ConstV.lasts tabRs_nil) ?_
              simp only [List.take_succ_cons, List.take_zero, List.drop_succ_cons, List.drop_zero]
              iterate 6 ((with_reducible refine loose_one (v := ?_) (a' := ?_) ?_ ?_ (fun w' hC' hG' => ?_) ?_ ?_); rotate_left 2; (focus rfl); (focus rfl); (focus (obtain ⟨s0, s1, s2, s3, a0, a1, a2, a3⟩ := HCX.out w' hC'; clear hC' hG'; go_simp; rfl)); (focus (go_simp; rfl)))
              refine loose_call (R := ConstV (vV u)) (f := 15) (args := #[.agg #[.int .i64 T, .slice B1 y.is.length d1, .slice B2 y.ts.length d2, .slice B3 y.ns.length d3], .int .i64 (m : Int)]) (by rfl) (by rfl) (fun _ => by go_simp) (fun w' hC' hG' => HC1.out w' hC') ?_
              rintro _ ⟨_, _, rfl⟩
              refine ⟨?_, ?_, ?_⟩
              rotate_left
              · go_simp
                rfl
              refine loose_done (fun w9 hC' hG' => ?_)
              have HS9 := hidden (HST.out.grow hC')
              have HZ9 := hidden (HZ.out.grow hC')
              clear hC' hG' c3x
              have HTT := hidden ((putV_T (buildV T ((l.take k).flatMap valsW ++ (List.range m).map (vat y))) u).trans (buildV_T T _))
              have HPT := hidden (rput_any (w.heap.size + 2) _ _ u w9 HS9.out.own HS9.out.size (buildV_fit T _ HBIG.out))
              go_wp2_with (first
                | (go_at_call 50; refine HPT.out.mono ?_; rintro e w3 ⟨x', rfl, ho3, hon3, hbk3⟩; obtain ⟨p', q', r', hx', hq1, hq2, hq3⟩ := id ho3; rw [HTT.out] at hx'; subst hx'; have HO3 := hidden ho3; have HON3 := hidden hon3; have HQ3 := hidden (all4 (p := .int .i64 T) rfl (ownsRow_one hq1) (ownsRow_one hq2) (ownsRow_one hq3)); clear ho3 hon3 hbk3 hq1 hq2 hq3)
                | (refine wpList_store_vc rfl _ _ rfl (w.heap.size + 1) rfl _ _ _ _ rfl HQ3.out (HS9.out.rowY HON3.out (by omega) HS9.out.row) ?_; intro W4 hr4 ho4; have HS4 := hidden (HS9.out.step HO3.out HON3.out ho4 hr4); have HZ4 := hidden (HS9.out.rowZ HON3.out ho4 (by omega) (by omega) HZ9.out); clear hr4 ho4))
              go_roundw
              case rel => exact ⟨m + 1, p', q', r', by go_num, hm1, by rw [HRS.out, buildV_snoc]; exact HS4.out, HZ4.out⟩
              case measure => simpa [intOf] using hmm
            · have hme : m = y.ns.length := by omega
              have hd2 : decide (m < y.ns.length) = false := by simpa using hlt
              have HVE := hidden (show (l.take (k + 1)).flatMap valsW = (l.take k).flatMap valsW ++ (List.range m).map (vat y) by rw [HTK.out, List.flatMap_append, hme]; simp [valsW])
              obtain ⟨-, -, -, c3x, -⟩ := HC.out wr HST.out.grows
              have hkk := HKN.out
              clear hme hlt hm2
              go_wp2_with fail
              go_roundw
              case rel => exact ⟨k + 1, p2, q2, r2, by go_num, HK1.out, by rw [HTK.out]; intro x hx; rcases List.mem_append.1 hx with h | h; exact HFT.out x h; simp at h; rw [h]; exact HYT.out, by rw [HVE.out]; exact HST.out, HZ.out⟩
              case measure => simpa [intOf] using hm
        · have hne : (y.T != T) = true := by simp [hyT]
          have HAN := hidden (show ¬ catB l = true from fun h => by have := (List.all_eq_true.1 h) y HMEM.out; rw [← HT.out] at this; exact hyT (by simpa using this))
          have hV := hidden (show catV l = vec0 by rw [catV, if_neg HNE.out, if_neg HAN.out])
          have hE := hidden (show catE l = 7 by rw [catE, if_neg HNE.out, if_neg HAN.out])
          clear hyT
          go_wp2_with fail
          go_region
          have hgd : Grows wr wr.drew := drawn_grows4 (Below.refl _ _)
          have HZD := hidden (HZ.out.grow hgd)
          have HGD := hidden (HST.out.grows.of_below hgd)
          clear hgd
          go_wp2_with (first
            | (refine wpList_store_vc rfl _ _ rfl w.heap.size rfl _ _ _ _ rfl (all4 rfl rfl rfl rfl) HZD.out ?_; intro W1 hr1 ho1; have HR1 := hidden hr1; have HO1 := hidden (ho1.below HGD.out (fun i hi => by omega)); clear hr1 ho1))
          refine bodyPost_ret (results_vec2 rfl _ _ _ _ _ _ _ _ rfl HR1.out rfl) rfl ?_
          rw [hV.out, hE.out]
          exact ⟨_, rfl, OwnV.nil_ _ _ _, HO1.out⟩
      · have hke : k = n := by omega
        have hd : decide (k < n) = false := by simpa using hlt
        have HTK := hidden (show l.take k = l by rw [hke, ← HN.out, List.take_length])
        have HAN := hidden (show catB l = true from List.all_eq_true.2 (fun x hx => by rw [← HT.out]; simpa using HFT.out x (by rw [HTK.out]; exact hx)))
        have hV := hidden (show catV l = buildV T (l.flatMap valsW) by rw [catV, if_neg HNE.out, if_pos HAN.out, HT.out])
        have hE := hidden (show catE l = 0 by rw [catE, if_neg HNE.out, if_pos HAN.out])
        obtain ⟨p', q', r', he, hq1, hq2, hq3⟩ := HST.out.own
        injection he with he
        simp only [Array.mk.injEq, List.cons.injEq, and_true] at he
        obtain ⟨-, rfl, rfl, rfl⟩ := he
        have HQ3 := hidden (all4 (p := .int .i64 T) rfl (ownsRow_one hq1) (ownsRow_one hq2) (ownsRow_one hq3))
        clear hke hlt hk hq1 hq2 hq3
        go_wp2_with (first
          | (refine wpList_load_vec rfl _ rfl (w.heap.size + 1) rfl _ _ _ _ HST.out.row ?_)
          | (refine wpList_store_vc rfl _ _ rfl w.heap.size rfl _ _ _ _ rfl HQ3.out HZ.out ?_; intro W4 hr4 ho4; have HR4 := hidden hr4; have HO4 := hidden ho4; clear hr4 ho4))
        refine bodyPost_ret (results_vec2 rfl _ _ _ _ _ _ _ _ rfl HR4.out rfl) rfl ?_
        rw [hV.out, hE.out]
        refine ⟨_, rfl, ?_, HO4.out.below HST.out.grows (fun i hi => by omega)⟩
        have := HST.out.own.only HO4.out (fun i hi e => by have := (HST.out.own.blocks i hi).1; omega)
        rw [HTK.out] at this
        exact this.base_ (by omega)
end Go.Proofs.Ytfjhahhkakfhmaa
/-
  Shaken: what the claims of this seat need of this text. No condition.
-/
namespace Go.Proofs.Ytfjhahhkakfhmaa
open Go.RowKit
set_option linter.unusedVariables false
set_option linter.unusedSimpArgs false
def EqvRel (W : World) (n : Nat) (i : Value) (wr : World) : Prop := ∃ k : Nat, k ≤ n ∧ i = .int .i64 (k : Int) ∧ Grows W wr
set_option maxRecDepth 8000 in
set_option maxHeartbeats 8000000 in
theorem rEqual17_self (x y : Value) (v : Vec) (w : World) (hx : IsV w x v) (hy : IsV w y v) (hl : FitLen v) :
    Calls Try.prog 13 #[x, y] w fun e w' => e = .returned (.bool true) ∧ Grows w w' := by
  obtain ⟨T, is, ts, ns⟩ := v
  obtain ⟨a1, a2, a3, rfl, j1, j2, j3⟩ := hx
  obtain ⟨b1, b2, b3, rfl, k1, k2, k3⟩ := hy
  dsimp only at *
  obtain ⟨A1, c1, rfl⟩ := j1.slice_
  obtain ⟨A2, c2, rfl⟩ := j2.slice_
  obtain ⟨A3, c3, rfl⟩ := j3.slice_
  obtain ⟨B1, d1, rfl⟩ := k1.slice_
  obtain ⟨B2, d2, rfl⟩ := k2.slice_
  obtain ⟨B3, d3, rfl⟩ := k3.slice_
  obtain ⟨l1, l2, l3⟩ := hl
  dsimp only at l1 l2 l3
  have HA1 := hidden j1
  have HA2 := hidden j2
  have HA3 := hidden j3
  have HB1 := hidden k1
  have HB2 := hidden k2
  have HB3 := hidden k3
  clear j1 j2 j3 k1 k2 k3
  obtain ⟨W0, hW0⟩ : ∃ W, W = ((w.alloc (.cells #[.int .i64 T, .slice A1 is.length c1, .slice A2 ts.length c2, .slice A3 ns.length c3] 29)).alloc (.cells #[.int .i64 T, .slice B1 is.length d1, .slice B2 ts.length d2, .slice B3 ns.length d3] 29)) := ⟨_, rfl⟩
  have HG0 := hidden (show Grows w W0 by rw [hW0]; exact (grow1 _).of_below (grow1 _))
  have HS0 := hidden (show Row W0 w.heap.size 29 [.int .i64 T, .slice A1 is.length c1, .slice A2 ts.length c2, .slice A3 ns.length c3] by rw [hW0]; exact (Row.new w 29 _ _ rfl).grow (grow1 _))
  have HT0 := hidden (show Row W0 (w.heap.size + 1) 29 [.int .i64 T, .slice B1 is.length d1, .slice B2 ts.length d2, .slice B3 ns.length d3] by rw [hW0]; exact Row.at_ _ 29 _ _ rfl (w.heap.size + 1) (by simp))
  have p0 := HS0.out.cell 0
  have q0 := HT0.out.cell 0
  have p1 := HS0.out.cell 1
  have q1 := HT0.out.cell 1
  have p2 := HS0.out.cell 2
  have q2 := HT0.out.cell 2
  have p3 := HS0.out.cell 3
  have q3 := HT0.out.cell 3
  simp only [List.getElem?_cons_succ, List.getElem?_cons_zero] at p0 q0 p1 q1 p2 q2 p3 q3
  rw [hW0] at p0 q0 p1 q1 p2 q2 p3 q3
  go_enter Try.func13, Try.ntmps13
  go_wp2_with fail
  rw [← hW0]
  clear hW0 p0 q0 p1 q1 p2 q2 p3 q3
  go_loopw [5] (fun i wr => EqvRel W0 ns.length i wr) (fun i _ => ns.length - (intOf i).toNat)
  case atStart => exact ⟨0, Nat.zero_le _, rfl, Below.refl _ _⟩
  case round =>
    obtain ⟨k, hk, rfl, hb⟩ := hrel
    have HBW := hidden hb
    have HB := hidden (hb)
    clear hb
    have q3 := (HS0.out.grow HB.out).cell 3
    simp only [List.getElem?_cons_succ, List.getElem?_cons_zero] at q3
    by_cases hlt : k < ns.length
    · have hd : decide (k < ns.length) = true := by simpa using hlt
      have hk0 : (0 : Int) ≤ (k : Int) := by omega
      have hk1 : (k : Int) < (ns.length : Int) := by omega
      have HLT := hidden hlt
      obtain ⟨b, off, rfl, ka⟩ := IsT.at_ (HA3.out.grow (HG0.out.of_below HB.out)) hlt
      obtain ⟨b', off', rfl, kb⟩ := IsT.at_ (HB3.out.grow (HG0.out.of_below HB.out)) hlt
      have hyy : ∃ y : Bool, wr.cell? ⟨b, off + k, none⟩ = some (.bool y) ∧ wr.cell? ⟨b', off' + k, none⟩ = some (.bool y) := ⟨_, ka, kb⟩
      clear ka kb
      obtain ⟨y, ka, kb⟩ := hyy
      have HX := hidden (fun X (h : Grows wr X) => (⟨((HS0.out.grow HB.out).grow h).cell 3, ((HT0.out.grow HB.out).grow h).cell 3, (h.cell (World.block_lt_of_cell? _ _ ka)).trans ka, (h.cell (World.block_lt_of_cell? _ _ kb)).trans kb⟩ : X.cell? ⟨w.heap.size, 3, none⟩ = some (.slice (some ⟨b, off, none⟩) ns.length c3) ∧ X.cell? ⟨w.heap.size + 1, 3, none⟩ = some (.slice (some ⟨b', off', none⟩) ns.length d3) ∧ X.cell? ⟨b, off + k, none⟩ = some (.bool y) ∧ X.cell? ⟨b', off' + k, none⟩ = some (.bool y)))
      clear hlt ka kb
      go_wp2_with fail
      refine wp_region_loose (tabRs []) (by kernel_rfl) (by kernel_rfl) tabRs_nil ?_
      iterate 11 ((with_reducible refine loose_one (v := ?_) (a' := ?_) ?_ ?_ (fun w' hC' hG' => ?_) ?_ ?_); rotate_left 2; (focus rfl); (focus rfl); (focus (obtain ⟨xa, xb, ka, kb⟩ := HX.out w' hC'; clear hC' hG'; go_simp; rfl)); (focus (go_simp; rfl)))
      refine loose_done (fun w5 hC5 hG5 => ?_)
      have HB5 := hidden (HBW.out.of_below hC5)
      clear hC5 hG5 HX q3
      go_wp2_with fail
      go_roundw
      case rel => exact ⟨k + 1, HLT.out, by go_num, HB5.out⟩
      case measure => have := HLT.out; simp [intOf]; omega
    · have hke : k = ns.length := by omega
      have hd : decide (k < ns.length) = false := by simpa using hlt
      subst hke
      have HBq1 := hidden HB.out
      generalize wr = wq1 at *
      clear HB HBW
      go_wp2_with fail
      clear q3 hd hlt
      go_loopw [6] (fun i wr => EqvRel wq1 is.length i wr) (fun i _ => is.length - (intOf i).toNat)
      case atStart => exact ⟨0, Nat.zero_le _, rfl, Below.refl _ _⟩
      case round =>
        obtain ⟨k, hk, rfl, hb⟩ := hrel
        have HBW := hidden hb
        have HB := hidden (HBq1.out.of_below hb)
        clear hb
        have q1 := (HS0.out.grow HB.out).cell 1
        simp only [List.getElem?_cons_succ, List.getElem?_cons_zero] at q1
        by_cases hlt : k < is.length
        · have hd : decide (k < is.length) = true := by simpa using hlt
          have hk0 : (0 : Int) ≤ (k : Int) := by omega
          have hk1 : (k : Int) < (is.length : Int) := by omega
          have HLT := hidden hlt
          obtain ⟨b, off, rfl, ka⟩ := IsI.at_ (HA1.out.grow (HG0.out.of_below HB.out)) hlt
          obtain ⟨b', off', rfl, kb⟩ := IsI.at_ (HB1.out.grow (HG0.out.of_below HB.out)) hlt
          have hyy : ∃ y : Int, wr.cell? ⟨b, off + k, none⟩ = some (.int .i64 y) ∧ wr.cell? ⟨b', off' + k, none⟩ = some (.int .i64 y) := ⟨_, ka, kb⟩
          clear ka kb
          obtain ⟨y, ka, kb⟩ := hyy
          have HX := hidden (fun X (h : Grows wr X) => (⟨((HS0.out.grow HB.out).grow h).cell 1, ((HT0.out.grow HB.out).grow h).cell 1, (h.cell (World.block_lt_of_cell? _ _ ka)).trans ka, (h.cell (World.block_lt_of_cell? _ _ kb)).trans kb⟩ : X.cell? ⟨w.heap.size, 1, none⟩ = some (.slice (some ⟨b, off, none⟩) is.length c1) ∧ X.cell? ⟨w.heap.size + 1, 1, none⟩ = some (.slice (some ⟨b', off', none⟩) is.length d1) ∧ X.cell? ⟨b, off + k, none⟩ = some (.int .i64 y) ∧ X.cell? ⟨b', off' + k, none⟩ = some (.int .i64 y)))
          clear hlt ka kb
          go_wp2_with fail
          refine wp_region_loose (tabRs []) (by kernel_rfl) (by kernel_rfl) tabRs_nil ?_
          iterate 11 ((with_reducible refine loose_one (v := ?_) (a' := ?_) ?_ ?_ (fun w' hC' hG' => ?_) ?_ ?_); rotate_left 2; (focus rfl); (focus rfl); (focus (obtain ⟨xa, xb, ka, kb⟩ := HX.out w' hC'; clear hC' hG'; go_simp; rfl)); (focus (go_simp; rfl)))
          refine loose_done (fun w5 hC5 hG5 => ?_)
          have HB5 := hidden (HBW.out.of_below hC5)
          clear hC5 hG5 HX q1
          go_wp2_with fail
          go_roundw
          case rel => exact ⟨k + 1, HLT.out, by go_num, HB5.out⟩
          case measure => have := HLT.out; simp [intOf]; omega
        · have hke : k = is.length := by omega
          have hd : decide (k < is.length) = false := by simpa using hlt
          subst hke
          have HBq2 := hidden HB.out
          generalize wr = wq2 at *
          clear HB HBW
          go_wp2_with fail
          clear q1 hd hlt
          go_loopw [7] (fun i wr => EqvRel wq2 ts.length i wr) (fun i _ => ts.length - (intOf i).toNat)
          case atStart => exact ⟨0, Nat.zero_le _, rfl, Below.refl _ _⟩
          case round =>
            obtain ⟨k, hk, rfl, hb⟩ := hrel
            have HBW := hidden hb
            have HB := hidden (HBq2.out.of_below hb)
            clear hb
            have q2 := (HS0.out.grow HB.out).cell 2
            simp only [List.getElem?_cons_succ, List.getElem?_cons_zero] at q2
            by_cases hlt : k < ts.length
            · have hd : decide (k < ts.length) = true := by simpa using hlt
              have hk0 : (0 : Int) ≤ (k : Int) := by omega
              have hk1 : (k : Int) < (ts.length : Int) := by omega
              have HLT := hidden hlt
              obtain ⟨b, off, rfl, ka⟩ := IsS.at_ (HA2.out.grow (HG0.out.of_below HB.out)) hlt
              obtain ⟨b', off', rfl, kb⟩ := IsS.at_ (HB2.out.grow (HG0.out.of_below HB.out)) hlt
              have hyy : ∃ y : ByteArray, wr.cell? ⟨b, off + k, none⟩ = some (.string y) ∧ wr.cell? ⟨b', off' + k, none⟩ = some (.string y) := ⟨_, ka, kb⟩
              clear ka kb
              obtain ⟨y, ka, kb⟩ := hyy
              have HX := hidden (fun X (h : Grows wr X) => (⟨((HS0.out.grow HB.out).grow h).cell 2, ((HT0.out.grow HB.out).grow h).cell 2, (h.cell (World.block_lt_of_cell? _ _ ka)).trans ka, (h.cell (World.block_lt_of_cell? _ _ kb)).trans kb⟩ : X.cell? ⟨w.heap.size, 2, none⟩ = some (.slice (some ⟨b, off, none⟩) ts.length c2) ∧ X.cell? ⟨w.heap.size + 1, 2, none⟩ = some (.slice (some ⟨b', off', none⟩) ts.length d2) ∧ X.cell? ⟨b, off + k, none⟩ = some (.string y) ∧ X.cell? ⟨b', off' + k, none⟩ = some (.string y)))
              clear hlt ka kb
              go_wp2_with fail
              refine wp_region_loose (tabRs []) (by kernel_rfl) (by kernel_rfl) tabRs_nil ?_
              iterate 11 ((with_reducible refine loose_one (v := ?_) (a' := ?_) ?_ ?_ (fun w' hC' hG' => ?_) ?_ ?_); rotate_left 2; (focus rfl); (focus rfl); (focus (obtain ⟨xa, xb, ka, kb⟩ := HX.out w' hC'; clear hC' hG'; go_simp; rfl)); (focus (go_simp; rfl)))
              refine loose_done (fun w5 hC5 hG5 => ?_)
              have HB5 := hidden (HBW.out.of_below hC5)
              clear hC5 hG5 HX q2
              go_wp2_with fail
              go_roundw
              case rel => exact ⟨k + 1, HLT.out, by go_num, HB5.out⟩
              case measure => have := HLT.out; simp [intOf]; omega
            · have hke : k = ts.length := by omega
              have hd : decide (k < ts.length) = false := by simpa using hlt
              subst hke
              have HBq3 := hidden HB.out
              generalize wr = wq3 at *
              clear HB HBW
              go_wp2_with fail
              go_ret
              exact ⟨rfl, HG0.out.of_below HBq3.out⟩
end Go.Proofs.Ytfjhahhkakfhmaa
/-
  Shaken: what the claims of this seat need of this text. No condition.
-/
namespace Go.Proofs.Ytfjhahhkakfhmaa
set_option maxRecDepth 8000
open Go.RowKit
set_option linter.unusedVariables false
set_option linter.unusedSimpArgs false
theorem ReadsV.at_ {w : World} {A : Option Addr} {n c : Nat} {l : List Val} (h : ReadsV w (.slice A n c) l) {k : Nat} (hk : k < l.length) :
    ∃ b off, A = some ⟨b, off, none⟩ ∧ ∀ W, Grows w W → W.cell? ⟨b, off + k * 3, none⟩ = some (.int .i64 l[k].k) ∧ W.cell? ⟨b, off + k * 3 + 1, none⟩ = some (.int .i64 l[k].n) ∧ W.cell? ⟨b, off + k * 3 + 2, none⟩ = some (.string l[k].t) := by
  obtain ⟨A', c', he, _, hcell⟩ := h
  injection he with e1 e2 e3
  subst e1
  obtain ⟨b, off, rfl, hcc⟩ := hcell (by omega)
  refine ⟨b, off, rfl, fun W hW => ?_⟩
  have := hcc k l[k] (List.getElem?_eq_getElem hk)
  exact ⟨(hW.cell (World.block_lt_of_cell? _ _ this.1)).trans this.1, (hW.cell (World.block_lt_of_cell? _ _ this.2.1)).trans this.2.1, (hW.cell (World.block_lt_of_cell? _ _ this.2.2)).trans this.2.2⟩
set_option maxHeartbeats 4000000 in
theorem sameValues_self (v u : Value) (l : List Val) (w : World) (hv : ReadsV w v l) (hu : ReadsV w u l) (hl : l.length ≤ 1000000000) :
    Calls Try.prog 16 #[v, u] w fun e w' => e = .returned (.bool true) ∧ Grows w w' := by
  have HV := hidden hv
  have HU := hidden hu
  obtain ⟨A, c, rfl, _, _⟩ := hv
  obtain ⟨B, d, rfl, _, _⟩ := hu
  go_enter Try.func16, Try.ntmps16
  go_wp2_with fail
  go_loopw [13] (fun i wr => EqvRel w l.length i wr) (fun i _ => l.length - (intOf i).toNat)
  case atStart => exact ⟨0, Nat.zero_le _, rfl, Below.refl _ _⟩
  case round =>
    obtain ⟨k, hk, rfl, hb⟩ := hrel
    have HB := hidden hb
    clear hb
    by_cases hlt : k < l.length
    · have hd : decide (k < l.length) = true := by simpa using hlt
      have hk0 : (0 : Int) ≤ (k : Int) := by omega
      have hk1 : (k : Int) < (l.length : Int) := by omega
      have HLT := hidden hlt
      obtain ⟨b, off, rfl, ka⟩ := HV.out.at_ hlt
      obtain ⟨b', off', rfl, kb⟩ := HU.out.at_ hlt
      have eyy : ∃ y : Val, (∀ W, Grows w W → W.cell? ⟨b, off + k * 3, none⟩ = some (.int .i64 y.k) ∧ W.cell? ⟨b, off + k * 3 + 1, none⟩ = some (.int .i64 y.n) ∧ W.cell? ⟨b, off + k * 3 + 2, none⟩ = some (.string y.t)) ∧ (∀ W, Grows w W → W.cell? ⟨b', off' + k * 3, none⟩ = some (.int .i64 y.k) ∧ W.cell? ⟨b', off' + k * 3 + 1, none⟩ = some (.int .i64 y.n) ∧ W.cell? ⟨b', off' + k * 3 + 2, none⟩ = some (.string y.t)) := ⟨_, ka, kb⟩
      clear ka kb
      obtain ⟨y, ka, kb⟩ := eyy
      have HX := hidden (fun X (h : Grows wr X) => And.intro (ka X (HB.out.of_below h)) (kb X (HB.out.of_below h)))
      clear hlt ka kb
      go_wp2_with fail
      refine wp_region_loose (tabRs []) (by kernel_rfl) (by kernel_rfl) tabRs_nil ?_
      iterate 9 ((with_reducible refine loose_one (v := ?_) (a' := ?_) ?_ ?_ (fun w' hC' hG' => ?_) ?_ ?_); rotate_left 2; (focus rfl); (focus rfl); (focus (obtain ⟨⟨x0, x1, x2⟩, y0, y1, y2⟩ := HX.out w' hC'; clear hC' hG'; go_simp; rfl)); (focus (go_simp; rfl)))
      refine loose_done (fun w5 hC5 hG5 => ?_)
      have HB5 := hidden (HB.out.of_below hC5)
      clear hC5 hG5 HX
      go_wp2_with fail
      go_roundw
      case rel => exact ⟨k + 1, HLT.out, by go_num, HB5.out⟩
      case measure => have := HLT.out; simp [intOf]; omega
    · have hke : k = l.length := by omega
      have hd : decide (k < l.length) = false := by simpa using hlt
      subst hke
      clear hlt
      go_wp2_with fail
      go_ret
      exact ⟨rfl, HB.out⟩
def VlvRel (w : World) (l : List Val) (i : Value) (wr : World) : Prop := ∃ k : Nat, k ≤ l.length ∧ i = .int .i64 (k : Int) ∧ validL (l.take k) = true ∧ Grows w wr
theorem validL_snoc (l : List Val) (y : Val) : validL (l ++ [y]) = (validL l && validV y.k y.n y.t) := by
  unfold validL
  simp [List.all_append]
theorem validL_take {l : List Val} {k : Nat} (h : validL l = true) : validL (l.take k) = true := by
  unfold validL at *
  rw [List.all_eq_true] at *
  exact fun x hx => h x (List.mem_of_mem_take hx)
set_option maxHeartbeats 4000000 in
theorem rvalidvals_any (v : Value) (l : List Val) (w : World) (hv : ReadsV w v l) (hl : l.length ≤ 140737488355328) :
    Calls Try.prog 43 #[v] w fun e w' => e = .returned (.bool (validL l)) ∧ Grows w w' := by
  have HV := hidden hv
  obtain ⟨A, c, rfl, _, _⟩ := hv
  obtain ⟨q, hq⟩ : ∃ q, validL l = q := ⟨_, rfl⟩
  rw [hq]
  have HQ := hidden hq
  clear hq
  go_enter Try.func43, Try.ntmps43
  go_wp2_with fail
  go_loopw [3] (fun i wr => VlvRel w l i wr) (fun i _ => l.length - (intOf i).toNat)
  case atStart => exact ⟨0, Nat.zero_le _, rfl, rfl, Below.refl _ _⟩
  case round =>
    obtain ⟨k, hk, rfl, hval, hb⟩ := hrel
    have HB := hidden hb
    have HVL := hidden hval
    clear hb hval
    by_cases hlt : k < l.length
    · have hd : decide (k < l.length) = true := by simpa using hlt
      have hk0 : (0 : Int) ≤ (k : Int) := by omega
      have hk1 : (k : Int) < (l.length : Int) := by omega
      have HLT := hidden hlt
      obtain ⟨b, off, rfl, ka⟩ := HV.out.at_ hlt
      have htk : l.take (k + 1) = l.take k ++ [l[k]] := by rw [List.take_add_one, List.getElem?_eq_getElem hlt]; rfl
      have eyy : ∃ y : Val, (∀ W, Grows w W → W.cell? ⟨b, off + k * 3, none⟩ = some (.int .i64 y.k) ∧ W.cell? ⟨b, off + k * 3 + 1, none⟩ = some (.int .i64 y.n) ∧ W.cell? ⟨b, off + k * 3 + 2, none⟩ = some (.string y.t)) ∧ l.take (k + 1) = l.take k ++ [y] := ⟨_, ka, htk⟩
      clear ka htk
      obtain ⟨y, ka, htk⟩ := eyy
      have HTK := hidden htk
      obtain ⟨y0, y1, y2⟩ := ka wr HB.out
      have HVV := hidden (fun W => rvvalid_any y.k y.n y.t W)
      obtain ⟨f, hf⟩ : ∃ f, f = validV y.k y.n y.t := ⟨_, rfl⟩
      rw [← hf] at HVV
      have HF := hidden hf.symm
      clear hlt ka htk hf
      cases f
      · have HQF := hidden (show q = false by
          have h1 := validL_take (l := l) (k := k + 1)
          rw [HTK.out, validL_snoc, HF.out, Bool.and_false, HQ.out] at h1
          cases q
          · rfl
          · exact absurd (h1 rfl) (by simp))
        go_wp2_with (go_at_call 23; refine (HVV.out _).mono ?_; rintro e w2 ⟨rfl, g2⟩; have HG2 := hidden (HB.out.of_below g2); clear g2)
        go_ret
        exact ⟨retB HQF.out.symm, HG2.out⟩
      · go_wp2_with (go_at_call 23; refine (HVV.out _).mono ?_; rintro e w2 ⟨rfl, g2⟩; have HG2 := hidden (HB.out.of_below g2); clear g2)
        go_roundw
        case rel => exact ⟨k + 1, HLT.out, by go_num, by rw [HTK.out, validL_snoc, HVL.out, HF.out]; rfl, HG2.out⟩
        case measure => have := HLT.out; simp [intOf]; omega
    · have hke : k = l.length := by omega
      have hd : decide (k < l.length) = false := by simpa using hlt
      subst hke
      have HQF := hidden (show q = true by rw [← HQ.out]; have := HVL.out; rwa [List.take_length] at this)
      clear hlt
      go_wp2_with fail
      go_ret
      exact ⟨retB HQF.out.symm, HB.out⟩
def smallL (l : List Val) : Bool := decide (l.length ≤ 200) && validL l
theorem small17_any (v : Value) (l : List Val) (w : World) (hv : ReadsV w v l) (hl : l.length ≤ 140737488355328) :
    Calls Try.prog 9 #[v] w fun e w' => e = .returned (.bool (smallL l)) ∧ Grows w w' := by
  have HV := hidden hv
  have HL := hidden hl
  obtain ⟨A, c, rfl, _, _⟩ := hv
  by_cases h : l.length ≤ 200
  · have hd : decide (l.length ≤ 200) = true := by simpa using h
    have HE := hidden (show smallL l = validL l by unfold smallL; rw [hd]; rfl)
    have HC := hidden (rvalidvals_any _ l w HV.out HL.out)
    rw [HE.out]
    go_enter Try.func9, Try.ntmps9
    go_wp2_with (go_at_call 43; refine HC.out.mono ?_; rintro e w2 ⟨rfl, g2⟩; have HG2 := hidden g2; clear g2)
    go_ret
    exact ⟨rfl, HG2.out⟩
  · have hd : decide (l.length ≤ 200) = false := by simpa using h
    have HE := hidden (show smallL l = false by unfold smallL; rw [hd]; rfl)
    rw [HE.out]
    go_enter Try.func9, Try.ntmps9
    go_wp2_with fail
    go_ret
    exact ⟨rfl, Below.refl _ _⟩
end Go.Proofs.Ytfjhahhkakfhmaa
/-
  Shaken: what the claims of this seat need of this text. No condition.
-/
namespace Go.Proofs.Ytfjhahhkakfhmaa
set_option maxRecDepth 8000
open Go.RowKit
set_option linter.unusedVariables false
set_option linter.unusedSimpArgs false
def entryB (v : Vec) (i : Nat) : Bool :=
  if v.T = 0 then v.ns.getD i false
  else if v.T = 3 then decide ((v.ts.getD i []).length ≤ 4096) && (!v.ns.getD i false || decide (v.ts.getD i [] = []))
  else if v.T = 1 then decide (v.is.getD i 0 = 0) || (decide (v.is.getD i 0 = 1) && !v.ns.getD i false)
  else decide (v.is.getD i 0 = 0) || !v.ns.getD i false
theorem strOf_size (s : Str) : (strOf s).size = s.length := by simp [strOf, ByteArray.size]
theorem strOf_nil17 (s : Str) : ((strOf s).toList == []) = decide (s = []) := by
  rw [ByteArray.toList_eq]
  show (s.toArray.toList == []) = _
  cases s <;> simp
theorem strOf_nilE (s : Str) : (strOf s).toList.isEmpty = decide (s = []) := by
  rw [ByteArray.toList_eq]
  show (s.toArray.toList).isEmpty = _
  cases s <;> simp
set_option maxHeartbeats 4000000 in
theorem rentry_any (x : Value) (v : Vec) (i : Nat) (w : World) (hx : IsV w x v) (hi : i < v.ns.length) (h0 : 0 ≤ v.T) (h4 : v.T ≤ 3) (h1 : v.T = 1 ∨ v.T = 2 → v.is.length = v.ns.length) (h3 : v.T = 3 → v.ts.length = v.ns.length) :
    Calls Try.prog 60 #[x, .int .i64 (i : Int)] w fun e w' => e = .returned (.bool (entryB v i)) ∧ Grows w w' := by
  obtain ⟨T, is, ts, ns⟩ := v
  obtain ⟨a1, a2, a3, rfl, j1, j2, j3⟩ := hx
  dsimp only at *
  obtain ⟨A1, c1, rfl⟩ := j1.slice_
  obtain ⟨A2, c2, rfl⟩ := j2.slice_
  obtain ⟨A3, c3, rfl⟩ := j3.slice_
  obtain ⟨n1, hn1⟩ : ∃ n, is.length = n := ⟨_, rfl⟩
  obtain ⟨n2, hn2⟩ : ∃ n, ts.length = n := ⟨_, rfl⟩
  obtain ⟨n3, hn3⟩ : ∃ n, ns.length = n := ⟨_, rfl⟩
  rw [hn1] at j1 h1 ⊢
  rw [hn2] at j2 h3 ⊢
  rw [hn3] at j3 h1 h3 ⊢
  have hi : i < ns.length := hi
  have hi3 : i < n3 := by omega
  have hk0 : (0 : Int) ≤ (i : Int) := by omega
  have HG := hidden (grow1 (w := w) (.cells #[.int .i64 T, .slice A1 n1 c1, .slice A2 n2 c2, .slice A3 n3 c3] 29))
  obtain ⟨b3, f3, rfl, hck3⟩ := (j3.grow HG.out).at_ hi
  have e3 : ns.getD i false = ns[i] := by rw [List.getD_eq_getElem?_getD, List.getElem?_eq_getElem hi]; rfl
  have hE : entryB ⟨T, is, ts, ns⟩ i = if T = 0 then ns[i] else if T = 3 then decide ((ts.getD i []).length ≤ 4096) && (!ns[i] || decide (ts.getD i [] = [])) else if T = 1 then decide (is.getD i 0 = 0) || (decide (is.getD i 0 = 1) && !ns[i]) else decide (is.getD i 0 = 0) || !ns[i] := by
    unfold entryB
    simp only [e3]
  rw [hE]
  generalize ns[i] = nb at *
  clear hE e3
  rcases (by omega : T = 0 ∨ T = 1 ∨ T = 2 ∨ T = 3) with rfl | rfl | rfl | rfl
  · rw [if_pos rfl]
    clear h0 h4 h1 h3 j1 j2 j3 hi hn1 hn2 hn3
    go_enter Try.func60, Try.ntmps60
    go_wp2_with fail
    go_ret
    exact ⟨rfl, HG.out⟩
  · rw [if_neg (by decide), if_neg (by decide), if_pos rfl]
    have hi1 : i < is.length := by have := h1 (.inl rfl); omega
    obtain ⟨b, f, rfl, hck⟩ := (j1.grow HG.out).at_ hi1
    have e2 : is.getD i 0 = is[i] := by rw [List.getD_eq_getElem?_getD, List.getElem?_eq_getElem hi1]; rfl
    rw [e2]
    have hi4 : i < n1 := by omega
    generalize is[i] = m at *
    clear h0 h4 h1 h3 j1 j2 j3 hi hn1 hn2 hn3 e2
    by_cases m0 : m = 0
    · have d0 : (m == 0) = true := by simpa using m0
      subst m0
      go_enter Try.func60, Try.ntmps60
      go_wp2_with fail
      go_ret
      exact ⟨rfl, HG.out⟩
    · have d0 : (m == 0) = false := by simpa using m0
      have D0 := hidden (show decide (m = 0) = false by simpa using m0)
      rw [D0.out]
      by_cases m1 : m = 1
      · subst m1
        cases nb
        all_goals
          clear m0
          go_enter Try.func60, Try.ntmps60
          go_wp2_with fail
          go_ret
          exact ⟨rfl, HG.out⟩
      · have d1 : (m == 1) = false := by simpa using m1
        have D1 := hidden (show decide (m = 1) = false by simpa using m1)
        rw [D1.out]
        clear m0 m1
        go_enter Try.func60, Try.ntmps60
        go_wp2_with fail
        go_ret
        exact ⟨rfl, HG.out⟩
  · rw [if_neg (by decide), if_neg (by decide), if_neg (by decide)]
    have hi1 : i < is.length := by have := h1 (.inr rfl); omega
    obtain ⟨b, f, rfl, hck⟩ := (j1.grow HG.out).at_ hi1
    have e2 : is.getD i 0 = is[i] := by rw [List.getD_eq_getElem?_getD, List.getElem?_eq_getElem hi1]; rfl
    rw [e2]
    have hi4 : i < n1 := by omega
    generalize is[i] = m at *
    clear h0 h4 h1 h3 j1 j2 j3 hi hn1 hn2 hn3 e2
    by_cases m0 : m = 0
    · have d0 : (m == 0) = true := by simpa using m0
      subst m0
      go_enter Try.func60, Try.ntmps60
      go_wp2_with fail
      go_ret
      exact ⟨rfl, HG.out⟩
    · have d0 : (m == 0) = false := by simpa using m0
      have D0 := hidden (show decide (m = 0) = false by simpa using m0)
      rw [D0.out]
      clear m0
      cases nb
      all_goals
        go_enter Try.func60, Try.ntmps60
        go_wp2_with fail
        go_ret
        exact ⟨rfl, HG.out⟩
  · rw [if_neg (by decide), if_pos rfl]
    have hi2 : i < ts.length := by have := h3 rfl; omega
    obtain ⟨b, f, rfl, hck⟩ := (j2.grow HG.out).at_ hi2
    have e2 : ts.getD i [] = ts[i] := by rw [List.getD_eq_getElem?_getD, List.getElem?_eq_getElem hi2]; rfl
    rw [e2]
    have hi4 : i < n2 := by omega
    have h5 : ((strOf ts[i]).toList == []) = decide (ts[i] = []) := strOf_nil17 _
    have h6 : (strOf ts[i]).toList.isEmpty = decide (ts[i] = []) := strOf_nilE _
    have h7 : decide ((strOf ts[i]).size ≤ 4096) = decide (ts[i].length ≤ 4096) := by rw [strOf_size]
    generalize decide (ts[i].length ≤ 4096) = q1 at *
    generalize decide (ts[i] = []) = q2 at *
    generalize strOf ts[i] = s at *
    clear h0 h4 h1 h3 j1 j2 j3 hi hn1 hn2 hn3 e2
    have h8 : s.size ≤ 4096 ↔ q1 = true := by rw [← h7]; simp
    cases q1
    · have h9 : 4096 < s.size := by have := mt h8.1 (by simp); omega
      have hA : decide ((s.size : Int) ≤ 4096) = false := by simp; omega
      have hB : decide (s.size ≤ 4096) = false := by simp; omega
      clear h8 h7
      go_enter Try.func60, Try.ntmps60
      go_wp2_with fail
      go_ret
      exact ⟨rfl, HG.out⟩
    · have h9 : s.size ≤ 4096 := h8.2 rfl
      have hA : decide ((s.size : Int) ≤ 4096) = true := by simp; omega
      have hB : decide (s.size ≤ 4096) = true := by simp; omega
      clear h8 h7
      cases nb
      · go_enter Try.func60, Try.ntmps60
        go_wp2_with fail
        go_ret
        exact ⟨rfl, HG.out⟩
      · cases q2
        all_goals
          go_enter Try.func60, Try.ntmps60
          go_wp2_with fail
          go_ret
          exact ⟨rfl, HG.out⟩
end Go.Proofs.Ytfjhahhkakfhmaa
/-
  Shaken: what the claims of this seat need of this text. No condition.
-/
namespace Go.Proofs.Ytfjhahhkakfhmaa
set_option maxRecDepth 8000
open Go.RowKit
set_option linter.unusedVariables false
set_option linter.unusedSimpArgs false
theorem neq17F {n m : Nat} (h : n = m) : ((n : Int) != (m : Int)) = false ∧ (n == m) = true ∧ ((n : Int) == (m : Int)) = true := by subst h; simp
theorem neq17T {n m : Nat} (h : ¬ n = m) : ((n : Int) != (m : Int)) = true ∧ (n == m) = false ∧ ((n : Int) == (m : Int)) = false := by simp; omega
theorem neq17zF {n : Nat} (h : n = 0) : ((n : Int) != 0) = false ∧ (n == 0) = true ∧ ((n : Int) == 0) = true := by subst h; simp
theorem neq17zT {n : Nat} (h : ¬ n = 0) : ((n : Int) != 0) = true ∧ (n == 0) = false ∧ ((n : Int) == 0) = false := by simp; omega
def FitArg (v : Vec) : Prop := v.is.length ≤ 1000000000000000 ∧ v.ts.length ≤ 1000000000000000 ∧ v.ns.length ≤ 1000000000000000
theorem FitLen.arg {v : Vec} (h : FitLen v) : FitArg v := by unfold FitLen at h; unfold FitArg; omega
def nIv (v : Vec) : Nat := if v.T = 1 ∨ v.T = 2 then v.ns.length else 0
def nTv (v : Vec) : Nat := if v.T = 3 then v.ns.length else 0
def entriesB (v : Vec) : Nat → Bool
  | 0 => true
  | j + 1 => entriesB v j && entryB v j
theorem entriesB_iff {v : Vec} : ∀ {m : Nat}, entriesB v m = true ↔ ∀ i, i < m → entryB v i = true
  | 0 => by simp [entriesB]
  | m + 1 => by
    rw [entriesB, Bool.and_eq_true, entriesB_iff]
    constructor
    · rintro ⟨h1, h2⟩ i hi
      by_cases e : i = m
      · rw [e]; exact h2
      · exact h1 i (by omega)
    · exact fun h => ⟨fun i hi => h i (by omega), h m (by omega)⟩
theorem entriesB_no {v : Vec} {j m : Nat} (hj : j < m) (h : entryB v j = false) : entriesB v m = false := by
  cases e : entriesB v m
  · rfl
  · rw [entriesB_iff.1 e j hj] at h; cases h
def validVB (v : Vec) : Bool := isTypeB v.T && (decide (v.is.length = nIv v) && decide (v.ts.length = nTv v)) && entriesB v v.ns.length
set_option maxHeartbeats 8000000 in
theorem rvalid17_any (x : Value) (v : Vec) (w : World) (hx : IsV w x v) (hl : FitArg v) :
    Calls Try.prog 20 #[x] w fun e w' => e = .returned (.bool (validVB v)) ∧ Grows w w' := by
  have HXV := hidden hx
  obtain ⟨T, is, ts, ns⟩ := v
  obtain ⟨a1, a2, a3, rfl, j1, j2, j3⟩ := hx
  dsimp only at *
  obtain ⟨A1, c1, rfl⟩ := j1.slice_
  obtain ⟨A2, c2, rfl⟩ := j2.slice_
  obtain ⟨A3, c3, rfl⟩ := j3.slice_
  obtain ⟨l1, l2, l3⟩ := hl
  dsimp only at l1 l2 l3
  clear j1 j2 j3
  obtain ⟨q, hq⟩ : ∃ q, validVB ⟨T, is, ts, ns⟩ = q := ⟨_, rfl⟩
  rw [hq]
  have HQ := hidden hq
  clear hq
  obtain ⟨W0, hW0⟩ : ∃ W0, W0 = w.alloc (.cells #[.int .i64 T, .slice A1 is.length c1, .slice A2 ts.length c2, .slice A3 ns.length c3] 29) := ⟨_, rfl⟩
  have HG0 := hidden (show Grows w W0 by rw [hW0]; exact grow1 _)
  have HR0 := hidden (show Row W0 w.heap.size 29 [.int .i64 T, .slice A1 is.length c1, .slice A2 ts.length c2, .slice A3 ns.length c3] by rw [hW0]; exact Row.new w 29 _ _ rfl)
  have HW0 := hidden hW0
  have HIT := hidden (fun W => rIsType_any T W)
  obtain ⟨b, hb⟩ : ∃ b, b = (decide (0 ≤ T) && decide (T ≤ 3)) := ⟨_, rfl⟩
  have HBT := hidden (show isTypeB T = b from hb.symm)
  rw [← hb] at HIT
  clear hW0
  cases b
  · have HE := hidden (show q = false by rw [← HQ.out]; unfold validVB; dsimp only; rw [HBT.out]; rfl)
    clear hb
    go_enter Try.func20, Try.ntmps20
    go_wp2_with (go_at_call 48; refine (HIT.out _).mono ?_; rintro e w2 ⟨rfl, rfl⟩)
    go_ret
    exact ⟨retB HE.out.symm, by rw [← HW0.out]; exact HG0.out⟩
  · have h03 : 0 ≤ T ∧ T ≤ 3 := by simpa using hb.symm
    clear hb
    have HSP := hidden (show entriesB ⟨T, is, ts, ns⟩ ns.length = true → is.length = nIv ⟨T, is, ts, ns⟩ → ts.length = nTv ⟨T, is, ts, ns⟩ → q = true from fun h1 h2 h3 => by rw [← HQ.out]; unfold validVB; dsimp only; rw [HBT.out, h1]; simp [h2, h3])
    have HSN := hidden (show entriesB ⟨T, is, ts, ns⟩ ns.length = false ∨ ¬ is.length = nIv ⟨T, is, ts, ns⟩ ∨ ¬ ts.length = nTv ⟨T, is, ts, ns⟩ → q = false from fun h => by rw [← HQ.out]; unfold validVB; dsimp only; rcases h with h | h | h <;> simp [h])
    clear HQ
    rcases (by omega : T = 0 ∨ T = 1 ∨ T = 2 ∨ T = 3) with rfl | rfl | rfl | rfl
    · have HI := hidden (show nIv ⟨0, is, ts, ns⟩ = 0 from if_neg (by simp))
      have HT := hidden (show nTv ⟨0, is, ts, ns⟩ = 0 from if_neg (by simp))
      clear h03
      by_cases hi : is.length = 0
      · by_cases ht : ts.length = 0
        · skip
          obtain ⟨z1i, z2i, z3i⟩ := neq17zF hi
          obtain ⟨z1t, z2t, z3t⟩ := neq17zF ht
          have HH := hidden (And.intro hi ht)
          clear hi ht
          go_enter Try.func20, Try.ntmps20
          go_wp2_with (go_at_call 48; refine (HIT.out _).mono ?_; rintro e w2 ⟨rfl, rfl⟩)
          rw [← HW0.out]
          go_loopw [5] (fun i wr => ∃ j : Nat, j ≤ ns.length ∧ i = .int .i64 (j : Int) ∧ entriesB ⟨0, is, ts, ns⟩ j = true ∧ Grows W0 wr) (fun i _ => ns.length - (intOf i).toNat)
          case atStart => exact ⟨0, Nat.zero_le _, rfl, rfl, Below.refl _ _⟩
          case round =>
            obtain ⟨k, hk, rfl, hen, hb⟩ := hrel
            have HB := hidden hb
            have HEN := hidden hen
            clear hb hen z1i z2i z3i z1t z2t z3t
            have q0 := (HR0.out.grow HB.out).cell 0
            have q1 := (HR0.out.grow HB.out).cell 1
            have q2 := (HR0.out.grow HB.out).cell 2
            have q3 := (HR0.out.grow HB.out).cell 3
            simp only [List.getElem?_cons_succ, List.getElem?_cons_zero] at q0 q1 q2 q3
            by_cases hlt : k < ns.length
            · have hd : decide (k < ns.length) = true := by simpa using hlt
              have hk0 : (0 : Int) ≤ (k : Int) := by omega
              have hk1 : (k : Int) < (ns.length : Int) := by omega
              have HLT := hidden hlt
              have HC := hidden (rentry_any _ ⟨0, is, ts, ns⟩ k wr (HXV.out.grow (HG0.out.of_below HB.out)) hlt (by simp) (by simp) (fun h => by simp at h) (fun h => by simp at h))
              obtain ⟨f, hf⟩ : ∃ f, f = entryB ⟨0, is, ts, ns⟩ k := ⟨_, rfl⟩
              rw [← hf] at HC
              have HF := hidden hf.symm
              clear hlt hf
              cases f
              · have HE := hidden (HSN.out (.inl (entriesB_no HLT.out HF.out)))
                go_wp2_with (go_at_call 60; refine HC.out.mono ?_; rintro e w2 ⟨rfl, g2⟩; have HG2 := hidden (HB.out.of_below g2); clear g2 q0 q1 q2 q3)
                go_ret
                exact ⟨retB HE.out.symm, HG0.out.of_below HG2.out⟩
              · go_wp2_with (go_at_call 60; refine HC.out.mono ?_; rintro e w2 ⟨rfl, g2⟩; have HG2 := hidden (HB.out.of_below g2); clear g2 q0 q1 q2 q3)
                go_roundw
                case rel => exact ⟨k + 1, HLT.out, by go_num, by rw [entriesB, HEN.out, HF.out]; rfl, HG2.out⟩
                case measure => have := HLT.out; simp [intOf]; omega
            · have hke : k = ns.length := by omega
              have hd : decide (k < ns.length) = false := by simpa using hlt
              have HE := hidden (HSP.out (by rw [← hke]; exact HEN.out) (HH.out.1.trans HI.out.symm) (HH.out.2.trans HT.out.symm))
              subst hke
              clear hlt
              go_wp2_with fail
              go_ret
              exact ⟨retB HE.out.symm, HG0.out.of_below HB.out⟩
        · have HE := hidden (HSN.out (.inr (.inr (by rw [HT.out]; exact ht))))
          obtain ⟨z1i, z2i, z3i⟩ := neq17zF hi
          obtain ⟨z1t, z2t, z3t⟩ := neq17zT ht
          clear hi ht
          go_enter Try.func20, Try.ntmps20
          go_wp2_with (go_at_call 48; refine (HIT.out _).mono ?_; rintro e w2 ⟨rfl, rfl⟩)
          go_ret
          exact ⟨retB HE.out.symm, by rw [← HW0.out]; exact HG0.out⟩
      · have HE := hidden (HSN.out (.inr (.inl (by rw [HI.out]; exact hi))))
        obtain ⟨z1i, z2i, z3i⟩ := neq17zT hi
        clear hi
        go_enter Try.func20, Try.ntmps20
        go_wp2_with (go_at_call 48; refine (HIT.out _).mono ?_; rintro e w2 ⟨rfl, rfl⟩)
        go_ret
        exact ⟨retB HE.out.symm, by rw [← HW0.out]; exact HG0.out⟩
    · have HI := hidden (show nIv ⟨1, is, ts, ns⟩ = ns.length from if_pos (by simp))
      have HT := hidden (show nTv ⟨1, is, ts, ns⟩ = 0 from if_neg (by simp))
      clear h03
      by_cases hi : is.length = ns.length
      · by_cases ht : ts.length = 0
        · skip
          obtain ⟨z1i, z2i, z3i⟩ := neq17F hi
          obtain ⟨z1t, z2t, z3t⟩ := neq17zF ht
          have HH := hidden (And.intro hi ht)
          clear hi ht
          go_enter Try.func20, Try.ntmps20
          go_wp2_with (go_at_call 48; refine (HIT.out _).mono ?_; rintro e w2 ⟨rfl, rfl⟩)
          rw [← HW0.out]
          go_loopw [5] (fun i wr => ∃ j : Nat, j ≤ ns.length ∧ i = .int .i64 (j : Int) ∧ entriesB ⟨1, is, ts, ns⟩ j = true ∧ Grows W0 wr) (fun i _ => ns.length - (intOf i).toNat)
          case atStart => exact ⟨0, Nat.zero_le _, rfl, rfl, Below.refl _ _⟩
          case round =>
            obtain ⟨k, hk, rfl, hen, hb⟩ := hrel
            have HB := hidden hb
            have HEN := hidden hen
            clear hb hen z1i z2i z3i z1t z2t z3t
            have q0 := (HR0.out.grow HB.out).cell 0
            have q1 := (HR0.out.grow HB.out).cell 1
            have q2 := (HR0.out.grow HB.out).cell 2
            have q3 := (HR0.out.grow HB.out).cell 3
            simp only [List.getElem?_cons_succ, List.getElem?_cons_zero] at q0 q1 q2 q3
            by_cases hlt : k < ns.length
            · have hd : decide (k < ns.length) = true := by simpa using hlt
              have hk0 : (0 : Int) ≤ (k : Int) := by omega
              have hk1 : (k : Int) < (ns.length : Int) := by omega
              have HLT := hidden hlt
              have HC := hidden (rentry_any _ ⟨1, is, ts, ns⟩ k wr (HXV.out.grow (HG0.out.of_below HB.out)) hlt (by simp) (by simp) (fun h => by have := HH.out.1; exact this) (fun h => by simp at h))
              obtain ⟨f, hf⟩ : ∃ f, f = entryB ⟨1, is, ts, ns⟩ k := ⟨_, rfl⟩
              rw [← hf] at HC
              have HF := hidden hf.symm
              clear hlt hf
              cases f
              · have HE := hidden (HSN.out (.inl (entriesB_no HLT.out HF.out)))
                go_wp2_with (go_at_call 60; refine HC.out.mono ?_; rintro e w2 ⟨rfl, g2⟩; have HG2 := hidden (HB.out.of_below g2); clear g2 q0 q1 q2 q3)
                go_ret
                exact ⟨retB HE.out.symm, HG0.out.of_below HG2.out⟩
              · go_wp2_with (go_at_call 60; refine HC.out.mono ?_; rintro e w2 ⟨rfl, g2⟩; have HG2 := hidden (HB.out.of_below g2); clear g2 q0 q1 q2 q3)
                go_roundw
                case rel => exact ⟨k + 1, HLT.out, by go_num, by rw [entriesB, HEN.out, HF.out]; rfl, HG2.out⟩
                case measure => have := HLT.out; simp [intOf]; omega
            · have hke : k = ns.length := by omega
              have hd : decide (k < ns.length) = false := by simpa using hlt
              have HE := hidden (HSP.out (by rw [← hke]; exact HEN.out) (HH.out.1.trans HI.out.symm) (HH.out.2.trans HT.out.symm))
              subst hke
              clear hlt
              go_wp2_with fail
              go_ret
              exact ⟨retB HE.out.symm, HG0.out.of_below HB.out⟩
        · have HE := hidden (HSN.out (.inr (.inr (by rw [HT.out]; exact ht))))
          obtain ⟨z1i, z2i, z3i⟩ := neq17F hi
          obtain ⟨z1t, z2t, z3t⟩ := neq17zT ht
          clear hi ht
          go_enter Try.func20, Try.ntmps20
          go_wp2_with (go_at_call 48; refine (HIT.out _).mono ?_; rintro e w2 ⟨rfl, rfl⟩)
          go_ret
          exact ⟨retB HE.out.symm, by rw [← HW0.out]; exact HG0.out⟩
      · have HE := hidden (HSN.out (.inr (.inl (by rw [HI.out]; exact hi))))
        obtain ⟨z1i, z2i, z3i⟩ := neq17T hi
        clear hi
        go_enter Try.func20, Try.ntmps20
        go_wp2_with (go_at_call 48; refine (HIT.out _).mono ?_; rintro e w2 ⟨rfl, rfl⟩)
        go_ret
        exact ⟨retB HE.out.symm, by rw [← HW0.out]; exact HG0.out⟩
    · have HI := hidden (show nIv ⟨2, is, ts, ns⟩ = ns.length from if_pos (by simp))
      have HT := hidden (show nTv ⟨2, is, ts, ns⟩ = 0 from if_neg (by simp))
      clear h03
      by_cases hi : is.length = ns.length
      · by_cases ht : ts.length = 0
        · skip
          obtain ⟨z1i, z2i, z3i⟩ := neq17F hi
          obtain ⟨z1t, z2t, z3t⟩ := neq17zF ht
          have HH := hidden (And.intro hi ht)
          clear hi ht
          go_enter Try.func20, Try.ntmps20
          go_wp2_with (go_at_call 48; refine (HIT.out _).mono ?_; rintro e w2 ⟨rfl, rfl⟩)
          rw [← HW0.out]
          go_loopw [5] (fun i wr => ∃ j : Nat, j ≤ ns.length ∧ i = .int .i64 (j : Int) ∧ entriesB ⟨2, is, ts, ns⟩ j = true ∧ Grows W0 wr) (fun i _ => ns.length - (intOf i).toNat)
          case atStart => exact ⟨0, Nat.zero_le _, rfl, rfl, Below.refl _ _⟩
          case round =>
            obtain ⟨k, hk, rfl, hen, hb⟩ := hrel
            have HB := hidden hb
            have HEN := hidden hen
            clear hb hen z1i z2i z3i z1t z2t z3t
            have q0 := (HR0.out.grow HB.out).cell 0
            have q1 := (HR0.out.grow HB.out).cell 1
            have q2 := (HR0.out.grow HB.out).cell 2
            have q3 := (HR0.out.grow HB.out).cell 3
            simp only [List.getElem?_cons_succ, List.getElem?_cons_zero] at q0 q1 q2 q3
            by_cases hlt : k < ns.length
            · have hd : decide (k < ns.length) = true := by simpa using hlt
              have hk0 : (0 : Int) ≤ (k : Int) := by omega
              have hk1 : (k : Int) < (ns.length : Int) := by omega
              have HLT := hidden hlt
              have HC := hidden (rentry_any _ ⟨2, is, ts, ns⟩ k wr (HXV.out.grow (HG0.out.of_below HB.out)) hlt (by simp) (by simp) (fun h => by have := HH.out.1; exact this) (fun h => by simp at h))
              obtain ⟨f, hf⟩ : ∃ f, f = entryB ⟨2, is, ts, ns⟩ k := ⟨_, rfl⟩
              rw [← hf] at HC
              have HF := hidden hf.symm
              clear hlt hf
              cases f
              · have HE := hidden (HSN.out (.inl (entriesB_no HLT.out HF.out)))
                go_wp2_with (go_at_call 60; refine HC.out.mono ?_; rintro e w2 ⟨rfl, g2⟩; have HG2 := hidden (HB.out.of_below g2); clear g2 q0 q1 q2 q3)
                go_ret
                exact ⟨retB HE.out.symm, HG0.out.of_below HG2.out⟩
              · go_wp2_with (go_at_call 60; refine HC.out.mono ?_; rintro e w2 ⟨rfl, g2⟩; have HG2 := hidden (HB.out.of_below g2); clear g2 q0 q1 q2 q3)
                go_roundw
                case rel => exact ⟨k + 1, HLT.out, by go_num, by rw [entriesB, HEN.out, HF.out]; rfl, HG2.out⟩
                case measure => have := HLT.out; simp [intOf]; omega
            · have hke : k = ns.length := by omega
              have hd : decide (k < ns.length) = false := by simpa using hlt
              have HE := hidden (HSP.out (by rw [← hke]; exact HEN.out) (HH.out.1.trans HI.out.symm) (HH.out.2.trans HT.out.symm))
              subst hke
              clear hlt
              go_wp2_with fail
              go_ret
              exact ⟨retB HE.out.symm, HG0.out.of_below HB.out⟩
        · have HE := hidden (HSN.out (.inr (.inr (by rw [HT.out]; exact ht))))
          obtain ⟨z1i, z2i, z3i⟩ := neq17F hi
          obtain ⟨z1t, z2t, z3t⟩ := neq17zT ht
          clear hi ht
          go_enter Try.func20, Try.ntmps20
          go_wp2_with (go_at_call 48; refine (HIT.out _).mono ?_; rintro e w2 ⟨rfl, rfl⟩)
          go_ret
          exact ⟨retB HE.out.symm, by rw [← HW0.out]; exact HG0.out⟩
      · have HE := hidden (HSN.out (.inr (.inl (by rw [HI.out]; exact hi))))
        obtain ⟨z1i, z2i, z3i⟩ := neq17T hi
        clear hi
        go_enter Try.func20, Try.ntmps20
        go_wp2_with (go_at_call 48; refine (HIT.out _).mono ?_; rintro e w2 ⟨rfl, rfl⟩)
        go_ret
        exact ⟨retB HE.out.symm, by rw [← HW0.out]; exact HG0.out⟩
    · have HI := hidden (show nIv ⟨3, is, ts, ns⟩ = 0 from if_neg (by simp))
      have HT := hidden (show nTv ⟨3, is, ts, ns⟩ = ns.length from if_pos rfl)
      clear h03
      by_cases hi : is.length = 0
      · by_cases ht : ts.length = ns.length
        · skip
          obtain ⟨z1i, z2i, z3i⟩ := neq17zF hi
          obtain ⟨z1t, z2t, z3t⟩ := neq17F ht
          have HH := hidden (And.intro hi ht)
          clear hi ht
          go_enter Try.func20, Try.ntmps20
          go_wp2_with (go_at_call 48; refine (HIT.out _).mono ?_; rintro e w2 ⟨rfl, rfl⟩)
          rw [← HW0.out]
          go_loopw [5] (fun i wr => ∃ j : Nat, j ≤ ns.length ∧ i = .int .i64 (j : Int) ∧ entriesB ⟨3, is, ts, ns⟩ j = true ∧ Grows W0 wr) (fun i _ => ns.length - (intOf i).toNat)
          case atStart => exact ⟨0, Nat.zero_le _, rfl, rfl, Below.refl _ _⟩
          case round =>
            obtain ⟨k, hk, rfl, hen, hb⟩ := hrel
            have HB := hidden hb
            have HEN := hidden hen
            clear hb hen z1i z2i z3i z1t z2t z3t
            have q0 := (HR0.out.grow HB.out).cell 0
            have q1 := (HR0.out.grow HB.out).cell 1
            have q2 := (HR0.out.grow HB.out).cell 2
            have q3 := (HR0.out.grow HB.out).cell 3
            simp only [List.getElem?_cons_succ, List.getElem?_cons_zero] at q0 q1 q2 q3
            by_cases hlt : k < ns.length
            · have hd : decide (k < ns.length) = true := by simpa using hlt
              have hk0 : (0 : Int) ≤ (k : Int) := by omega
              have hk1 : (k : Int) < (ns.length : Int) := by omega
              have HLT := hidden hlt
              have HC := hidden (rentry_any _ ⟨3, is, ts, ns⟩ k wr (HXV.out.grow (HG0.out.of_below HB.out)) hlt (by simp) (by simp) (fun h => by simp at h) (fun h => by have := HH.out.2; exact this))
              obtain ⟨f, hf⟩ : ∃ f, f = entryB ⟨3, is, ts, ns⟩ k := ⟨_, rfl⟩
              rw [← hf] at HC
              have HF := hidden hf.symm
              clear hlt hf
              cases f
              · have HE := hidden (HSN.out (.inl (entriesB_no HLT.out HF.out)))
                go_wp2_with (go_at_call 60; refine HC.out.mono ?_; rintro e w2 ⟨rfl, g2⟩; have HG2 := hidden (HB.out.of_below g2); clear g2 q0 q1 q2 q3)
                go_ret
                exact ⟨retB HE.out.symm, HG0.out.of_below HG2.out⟩
              · go_wp2_with (go_at_call 60; refine HC.out.mono ?_; rintro e w2 ⟨rfl, g2⟩; have HG2 := hidden (HB.out.of_below g2); clear g2 q0 q1 q2 q3)
                go_roundw
                case rel => exact ⟨k + 1, HLT.out, by go_num, by rw [entriesB, HEN.out, HF.out]; rfl, HG2.out⟩
                case measure => have := HLT.out; simp [intOf]; omega
            · have hke : k = ns.length := by omega
              have hd : decide (k < ns.length) = false := by simpa using hlt
              have HE := hidden (HSP.out (by rw [← hke]; exact HEN.out) (HH.out.1.trans HI.out.symm) (HH.out.2.trans HT.out.symm))
              subst hke
              clear hlt
              go_wp2_with fail
              go_ret
              exact ⟨retB HE.out.symm, HG0.out.of_below HB.out⟩
        · have HE := hidden (HSN.out (.inr (.inr (by rw [HT.out]; exact ht))))
          obtain ⟨z1i, z2i, z3i⟩ := neq17zF hi
          obtain ⟨z1t, z2t, z3t⟩ := neq17T ht
          clear hi ht
          go_enter Try.func20, Try.ntmps20
          go_wp2_with (go_at_call 48; refine (HIT.out _).mono ?_; rintro e w2 ⟨rfl, rfl⟩)
          go_ret
          exact ⟨retB HE.out.symm, by rw [← HW0.out]; exact HG0.out⟩
      · have HE := hidden (HSN.out (.inr (.inl (by rw [HI.out]; exact hi))))
        obtain ⟨z1i, z2i, z3i⟩ := neq17zT hi
        clear hi
        go_enter Try.func20, Try.ntmps20
        go_wp2_with (go_at_call 48; refine (HIT.out _).mono ?_; rintro e w2 ⟨rfl, rfl⟩)
        go_ret
        exact ⟨retB HE.out.symm, by rw [← HW0.out]; exact HG0.out⟩
end Go.Proofs.Ytfjhahhkakfhmaa
/-
  Shaken: what the claims of this seat need of this text. No condition.
-/
namespace Go.Proofs.Ytfjhahhkakfhmaa
set_option maxRecDepth 8000
open Go.RowKit
set_option linter.unusedVariables false
set_option linter.unusedSimpArgs false
structure Bat where
  cs : List Vec
  len : Int
  all : Bool
  sel : List Int
def IsB (w : World) (x : Value) (B : Bat) : Prop := ∃ p q, x = .agg #[p, .int .i64 B.len, .bool B.all, q] ∧ IsVs w p B.cs ∧ IsI w q B.sel
theorem IsB.grow {w w' : World} {x : Value} {B : Bat} (h : IsB w x B) (hg : Grows w w') : IsB w' x B := by
  obtain ⟨p, q, e, h1, h2⟩ := h
  exact ⟨p, q, e, h1.grow hg, h2.grow hg⟩
def OkB (B : Bat) : Prop := B.cs.length ≤ 1000 ∧ B.sel.length ≤ 1000000 ∧ B.len ≤ 1000000 ∧ ∀ v ∈ B.cs, OkAt v ∧ v.ns.length ≤ 1000000
def rowV (B : Bat) (i : Int) : List Val := B.cs.map (fun v => atI v i)
theorem sizeB : (Try.prog.info? 45).map (·.size) = some 4 := by kernel_rfl
theorem wpList_load_bat {wr : World} {ops : Array Oper} {rest : List Oper} {o : Oper} {a : Act} {Q : Exit → Act → World → Prop} (hgd : o.guard = none) (x : Operand) (ho : o.op = .load 45 x)
    (g : Nat) (hx : a.eval x = .pointer (some ⟨g, 0, none⟩)) (p q r s : Value) (hg : Row wr g 45 [p, q, r, s])
    (h : wpList Try.prog ops Q rest (a.put o.dst (.agg #[p, q, r, s])) wr) : wpList Try.prog ops Q (o :: rest) a wr :=
  wpList_load_row hgd _ x ho g hx _ _ _ _ hg Try.underlying45 rfl sizeB h
def OwnInts (l : List Int) (w : World) (e : Ending) (w' : World) : Prop := ∃ v, e = .returned v ∧ w'.ownsRow w.heap.size 3 1 v l.length (icells l) ∧ Grows w w'
def typesB (B : Bat) : List Int := B.cs.map (·.T)
theorem infoN17 : (Try.prog.info? 3).map (fun i => (i.zero, i.size, i.bytes)) = some (some (.int .i64 0), 1, 8) := by kernel_rfl
end Go.Proofs.Ytfjhahhkakfhmaa
/-
  Shaken: what the claims of this seat need of this text. No condition.
-/
namespace Go.Proofs.Ytfjhahhkakfhmaa
set_option maxRecDepth 8000
open Go.RowKit
set_option linter.unusedVariables false
set_option linter.unusedSimpArgs false
theorem ownsRow_slice {w : World} {base : Nat} {e : TypeId} {size : Nat} {v : Value} {n : Nat} {xs : List Value} (h : w.ownsRow base e size v n xs) : ∃ A k c, v = .slice A k c := by
  rcases h.2 with ⟨rfl, _⟩ | ⟨g, cap, cur, rfl, _⟩
  · exact ⟨_, _, _, rfl⟩
  · exact ⟨_, _, _, rfl⟩
theorem infoR17 : (Try.prog.info? 65).map (fun i => (i.zero, i.size, i.bytes)) = some (some (.slice none 0 0), 1, 24) := by kernel_rfl
def OwnRsC (base : Nat) (w : World) (v : Value) (ls : List (List Val)) (vs : List Value) : Prop :=
  vs.length = ls.length ∧ w.ownsRow base 65 1 v ls.length vs ∧ ∀ (j : Nat) (u : Value) (l : List Val), vs[j]? = some u → ls[j]? = some l → w.ownsRow base 37 3 u l.length (vcells l)
def OwnRs (base : Nat) (w : World) (v : Value) (ls : List (List Val)) : Prop := ∃ vs, OwnRsC base w v ls vs
theorem OwnRs.nil_ (base : Nat) (w : World) : OwnRs base w (.slice none 0 0) [] := ⟨[], rfl, World.ownsRow_nil _ _ _ _, fun j u l h => by simp at h⟩
theorem OwnRsC.grow {base : Nat} {w w' : World} {v : Value} {ls : List (List Val)} {vs : List Value} (h : OwnRsC base w v ls vs) (hg : Grows w w') : OwnRsC base w' v ls vs :=
  ⟨h.1, ownsRow_grow h.2.1 hg, fun j u l h1 h2 => ownsRow_grow (h.2.2 j u l h1 h2) hg⟩
theorem OwnRs.grow {base : Nat} {w w' : World} {v : Value} {ls : List (List Val)} (h : OwnRs base w v ls) (hg : Grows w w') : OwnRs base w' v ls := by
  obtain ⟨vs, h⟩ := h; exact ⟨vs, h.grow hg⟩
theorem OwnRs.base_ {b b' : Nat} {w : World} {v : Value} {ls : List (List Val)} (h : OwnRs b w v ls) (hb : b' ≤ b) : OwnRs b' w v ls := by
  obtain ⟨vs, h1, h2, h3⟩ := h
  exact ⟨vs, h1, ownsRow_base h2 hb, fun j u l e1 e2 => ownsRow_base (h3 j u l e1 e2) hb⟩
theorem OwnRsC.snoc {base : Nat} {X Y : World} {v v' u : Value} {ls : List (List Val)} {vs : List Value} {l : List Val} (h : OwnRsC base X v ls vs) (hu : X.ownsRow base 37 3 u l.length (vcells l))
    (hown : Y.ownsRow base 65 1 v' (ls.length + 1) (vs ++ [u])) (hon : Only (fun k => v.ownBlock = some k) X Y) : OwnRs base Y v' (ls ++ [l]) := by
  refine ⟨vs ++ [u], by simp [h.1], by rw [List.length_append]; exact hown, fun j x y hx hy => ?_⟩
  have keep : ∀ {z : Value} {n : Nat} {xs : List Value}, X.ownsRow base 37 3 z n xs → Y.ownsRow base 37 3 z n xs := fun hz => ownsRow_only hz hon (ownsRow_apart hz h.2.1 (by decide))
  by_cases hj : j < ls.length
  · rw [List.getElem?_append_left (by rw [h.1]; exact hj)] at hx
    rw [List.getElem?_append_left hj] at hy
    exact keep (h.2.2 j x y hx hy)
  · by_cases hje : j = ls.length
    · subst hje
      rw [List.getElem?_append_right (by rw [h.1]; exact Nat.le_refl _), h.1] at hx
      rw [List.getElem?_append_right (Nat.le_refl _)] at hy
      simp at hx hy
      subst hx hy
      exact keep hu
    · rw [List.getElem?_eq_none (by simp; omega)] at hy
      cases hy
def IsRs (w : World) (v : Value) (ls : List (List Val)) : Prop :=
  ∃ A c, v = .slice A ls.length c ∧ ls.length ≤ c ∧ (0 < ls.length → ∃ b off, A = some ⟨b, off, none⟩ ∧ ∀ (j : Nat) (l : List Val), ls[j]? = some l → ∃ u, w.cell? ⟨b, off + j, none⟩ = some u ∧ ReadsV w u l)
theorem IsRs.grow {w w' : World} {v : Value} {ls : List (List Val)} (h : IsRs w v ls) (hg : Grows w w') : IsRs w' v ls := by
  obtain ⟨A, c, rfl, hc, hcell⟩ := h
  refine ⟨A, c, rfl, hc, fun hl => ?_⟩
  obtain ⟨b, off, rfl, hcc⟩ := hcell hl
  refine ⟨b, off, rfl, fun j l hj => ?_⟩
  obtain ⟨u, h1, h2⟩ := hcc j l hj
  exact ⟨u, (hg.cell (World.block_lt_of_cell? _ _ h1)).trans h1, h2.grow hg⟩
theorem IsRs.slice_ {w : World} {v : Value} {ls : List (List Val)} (h : IsRs w v ls) : ∃ A c, v = .slice A ls.length c := by
  obtain ⟨A, c, h, _⟩ := h; exact ⟨A, c, h⟩
theorem IsRs.at_ {w : World} {A : Option Addr} {n c : Nat} {ls : List (List Val)} (h : IsRs w (.slice A n c) ls) {j : Nat} (hj : j < ls.length) :
    ∃ b off u, A = some ⟨b, off, none⟩ ∧ ∀ W, Grows w W → W.cell? ⟨b, off + j, none⟩ = some u ∧ ReadsV W u ls[j] := by
  obtain ⟨A', c', he, _, hcell⟩ := h
  injection he with e1 e2 e3
  subst e1
  obtain ⟨b, off, rfl, hcc⟩ := hcell (by omega)
  obtain ⟨u, h1, h2⟩ := hcc j ls[j] (List.getElem?_eq_getElem hj)
  exact ⟨b, off, u, rfl, fun W hW => ⟨(hW.cell (World.block_lt_of_cell? _ _ h1)).trans h1, h2.grow hW⟩⟩
theorem OwnRs.isRs {base : Nat} {w : World} {v : Value} {ls : List (List Val)} (h : OwnRs base w v ls) : IsRs w v ls := by
  obtain ⟨vs, h1, h2, h3⟩ := h
  have hr := Reads.of_own h2
  obtain ⟨A, c, rfl, hc, hcell⟩ := hr
  rw [h1] at hc hcell ⊢
  refine ⟨A, c, rfl, hc, fun hl => ?_⟩
  obtain ⟨b, off, rfl, hcc⟩ := hcell hl
  refine ⟨b, off, rfl, fun j l hj => ?_⟩
  have hjl : j < ls.length := (List.getElem?_eq_some_iff.1 hj).1
  have hjv : j < vs.length := by rw [h1]; exact hjl
  refine ⟨vs[j], ?_, ReadsV.of_own (h3 j _ l (List.getElem?_eq_getElem hjv) hj)⟩
  rw [hcc j hjl, List.getElem?_eq_getElem hjv]
def OwnRowsR (ls : List (List Val)) (w : World) (e : Ending) (w' : World) : Prop := ∃ v, e = .returned v ∧ OwnRs w.heap.size w' v ls ∧ Grows w w'
def rowsB (B : Bat) : List (List Val) := if B.all = true then (List.range B.len.toNat).map (fun i : Nat => rowV B (i : Int)) else B.sel.map (rowV B)
def OwnRow (base : Nat) (l : List Val) : Value → World → Prop := fun v w => w.ownsRow base 37 3 v l.length (vcells l)
def NewRow (base : Nat) (l : List Val) : Value → World → Prop := fun v w => ∃ g u, v = .slice (some ⟨g, 0, none⟩) 1 1 ∧ w.cell? ⟨g, 0, none⟩ = some u ∧ OwnRow base l u w
theorem NewRow.lasts {base : Nat} {l : List Val} : ∀ v w w', NewRow base l v w → Grows w w' → NewRow base l v w' := fun _ _ _ ⟨g, u, h1, h2, h3⟩ hg => ⟨g, u, h1, (hg.cell (World.block_lt_of_cell? _ _ h2)).trans h2, ownsRow_grow h3 hg⟩
theorem OwnRow.lasts {base : Nat} {l : List Val} : ∀ v w w', OwnRow base l v w → Grows w w' → OwnRow base l v w' := fun _ _ _ h hg => ownsRow_grow h hg
end Go.Proofs.Ytfjhahhkakfhmaa
/-
  Shaken: what the claims of this seat need of this text. No condition.
-/
namespace Go.Proofs.Ytfjhahhkakfhmaa
set_option maxRecDepth 8000
open Go.RowKit
set_option linter.unusedVariables false
set_option linter.unusedSimpArgs false
set_option maxHeartbeats 4000000 in
theorem sameRows_self (v u : Value) (ls : List (List Val)) (w : World) (hv : IsRs w v ls) (hu : IsRs w u ls) (hl : ls.length ≤ 1000000000) (hll : ∀ l ∈ ls, l.length ≤ 1000000000) :
    Calls Try.prog 30 #[v, u] w fun e w' => e = .returned (.bool true) ∧ Grows w w' := by
  have HV := hidden hv
  have HU := hidden hu
  obtain ⟨A, c, rfl⟩ := hv.slice_
  obtain ⟨B, d, rfl⟩ := hu.slice_
  clear hv hu
  go_enter Try.func30, Try.ntmps30
  go_wp2_with fail
  go_loopw [13] (fun i wr => EqvRel w ls.length i wr) (fun i _ => ls.length - (intOf i).toNat)
  case atStart => exact ⟨0, Nat.zero_le _, rfl, Below.refl _ _⟩
  case round =>
    obtain ⟨k, hk, rfl, hb⟩ := hrel
    have HB := hidden hb
    clear hb
    by_cases hlt : k < ls.length
    · have hd : decide (k < ls.length) = true := by simpa using hlt
      have hk0 : (0 : Int) ≤ (k : Int) := by omega
      have hk1 : (k : Int) < (ls.length : Int) := by omega
      have HLT := hidden hlt
      obtain ⟨b, off, x, rfl, ka⟩ := HV.out.at_ hlt
      obtain ⟨b', off', y, rfl, kb⟩ := HU.out.at_ hlt
      have eyy : ∃ l : List Val, (∀ W, Grows w W → W.cell? ⟨b, off + k, none⟩ = some x ∧ ReadsV W x l) ∧ (∀ W, Grows w W → W.cell? ⟨b', off' + k, none⟩ = some y ∧ ReadsV W y l) ∧ l ∈ ls := ⟨_, ka, kb, List.getElem_mem _⟩
      clear ka kb
      obtain ⟨l, ka, kb, hmem⟩ := eyy
      have HX := hidden (fun X (h : Grows wr X) => And.intro (ka X (HB.out.of_below h)).1 (kb X (HB.out.of_below h)).1)
      have HC1 := hidden (fun W (h : Grows wr W) => const_loose (sameValues_self x y l W (ka W (HB.out.of_below h)).2 (kb W (HB.out.of_below h)).2 (hll l hmem)))
      clear hlt ka kb hmem
      go_wp2_with fail
      refine wp_region_loose (tabRs [(8, ConstV (.bool true))]) (by kernel_rfl) (by kernel_rfl) (tabRs_cons ConstV.lasts tabRs_nil) ?_
      iterate 8 ((with_reducible refine loose_one (v := ?_) (a' := ?_) ?_ ?_ (fun w' hC' hG' => ?_) ?_ ?_); rotate_left 2; (focus rfl); (focus rfl); (focus (obtain ⟨x0, y0⟩ := HX.out w' hC'; clear hC' hG'; go_simp; rfl)); (focus (go_simp; rfl)))
      refine loose_call (R := ConstV (.bool true)) (f := 16) (args := #[x, y]) (by rfl) (by rfl) (fun _ => by go_simp) (fun w' hC' hG' => HC1.out w' hC') ?_
      rintro _ ⟨_, _, rfl⟩
      refine ⟨?_, ?_, ?_⟩
      rotate_left
      · go_simp
        rfl
      iterate 1 ((with_reducible refine loose_one (v := ?_) (a' := ?_) ?_ ?_ (fun w' hC' hG' => ?_) ?_ ?_); rotate_left 2; (focus rfl); (focus rfl); (focus (obtain ⟨x0, y0⟩ := HX.out w' hC'; clear hC' hG'; go_simp; rfl)); (focus (go_simp; rfl)))
      refine loose_done (fun w5 hC5 hG5 => ?_)
      have HB5 := hidden (HB.out.of_below hC5)
      clear hC5 hG5 HX
      go_wp2_with fail
      go_roundw
      case rel => exact ⟨k + 1, HLT.out, by go_num, HB5.out⟩
      case measure => have := HLT.out; simp [intOf]; omega
    · have hke : k = ls.length := by omega
      have hd : decide (k < ls.length) = false := by simpa using hlt
      subst hke
      clear hlt
      go_wp2_with fail
      go_ret
      exact ⟨rfl, HB.out⟩
end Go.Proofs.Ytfjhahhkakfhmaa
/-
  Shaken: what the claims of this seat need of this text. No condition.
-/
namespace Go.Proofs.Ytfjhahhkakfhmaa
set_option maxRecDepth 8000
open Go.RowKit
set_option linter.unusedVariables false
set_option linter.unusedSimpArgs false
def FitB (B : Bat) : Prop := B.cs.length ≤ 1000000 ∧ B.sel.length ≤ 1000000000 ∧ ∀ v ∈ B.cs, FitLen v
end Go.Proofs.Ytfjhahhkakfhmaa
/-
  Shaken: what the claims of this seat need of this text. No condition.
-/
namespace Go.Proofs.Ytfjhahhkakfhmaa
set_option maxRecDepth 8000
open Go.RowKit
set_option linter.unusedVariables false
set_option linter.unusedSimpArgs false
def IsBs (w : World) (v : Value) (l : List Bat) : Prop :=
  ∃ A c, v = .slice A l.length c ∧ l.length ≤ c ∧ (0 < l.length → ∃ b off, A = some ⟨b, off, none⟩ ∧ ∀ (j : Nat) (x : Bat), l[j]? = some x → ∃ p q, w.cell? ⟨b, off + j * 4, none⟩ = some p ∧ w.cell? ⟨b, off + j * 4 + 1, none⟩ = some (.int .i64 x.len) ∧ w.cell? ⟨b, off + j * 4 + 2, none⟩ = some (.bool x.all) ∧ w.cell? ⟨b, off + j * 4 + 3, none⟩ = some q ∧ IsB w (.agg #[p, .int .i64 x.len, .bool x.all, q]) x)
theorem IsBs.at_ {w : World} {A : Option Addr} {n c : Nat} {l : List Bat} (h : IsBs w (.slice A n c) l) {j : Nat} (hj : j < l.length) :
    ∃ b off p q, A = some ⟨b, off, none⟩ ∧ ∀ W, Grows w W → W.cell? ⟨b, off + j * 4, none⟩ = some p ∧ W.cell? ⟨b, off + j * 4 + 1, none⟩ = some (.int .i64 l[j].len) ∧ W.cell? ⟨b, off + j * 4 + 2, none⟩ = some (.bool l[j].all) ∧ W.cell? ⟨b, off + j * 4 + 3, none⟩ = some q ∧ IsB W (.agg #[p, .int .i64 l[j].len, .bool l[j].all, q]) l[j] := by
  obtain ⟨A', c', he, _, hcell⟩ := h
  injection he with e1 e2 e3
  subst e1
  obtain ⟨b, off, rfl, hcc⟩ := hcell (by omega)
  obtain ⟨p, q, h0, h1, h2, h3, h4⟩ := hcc j l[j] (List.getElem?_eq_getElem hj)
  have up : ∀ {W : World} (hg : Grows w W) {a : Addr} {u : Value}, w.cell? a = some u → W.cell? a = some u := fun hg _ _ h => (hg.cell (World.block_lt_of_cell? _ _ h)).trans h
  exact ⟨b, off, p, q, rfl, fun W hW => ⟨up hW h0, up hW h1, up hW h2, up hW h3, h4.grow hW⟩⟩
theorem OwnRsC.append {base base' : Nat} {X Y : World} {v v' u : Value} {ls ms : List (List Val)} {vs us : List Value} (h : OwnRsC base X v ls vs) (hu : OwnRsC base' X u ms us) (hb : base ≤ base')
    (hown : Y.ownsRow base 65 1 v' (vs ++ us).length (vs ++ us)) (hk : KeepsRows 65 X Y) : OwnRs base Y v' (ls ++ ms) := by
  refine ⟨vs ++ us, by simp [h.1, hu.1], by rw [List.length_append] at hown ⊢; rw [← h.1, ← hu.1]; exact hown, fun j x y hx hy => ?_⟩
  have keep : ∀ {b : Nat} {z : Value} {n : Nat} {xs : List Value}, X.ownsRow b 37 3 z n xs → Y.ownsRow b 37 3 z n xs := fun hz => hk _ _ _ _ _ _ (by decide) hz
  by_cases hj : j < ls.length
  · rw [List.getElem?_append_left (by rw [h.1]; exact hj)] at hx
    rw [List.getElem?_append_left hj] at hy
    exact keep (h.2.2 j x y hx hy)
  · rw [List.getElem?_append_right (by rw [h.1]; omega), h.1] at hx
    rw [List.getElem?_append_right (by omega)] at hy
    exact ownsRow_base (keep (hu.2.2 _ x y hx hy)) hb
theorem OwnRsC.one {base : Nat} {w : World} {v : Value} {ls : List (List Val)} {vs : List Value} (h : OwnRsC base w v ls vs) : ∀ x ∈ vs, x.oneCell' = true := by
  intro x hx
  obtain ⟨j, hj⟩ := List.getElem?_of_mem hx
  have hjl : j < vs.length := (List.getElem?_eq_some_iff.1 hj).1
  have hjm : j < ls.length := by rw [← h.1]; exact hjl
  exact ownsRow_one (h.2.2 j x ls[j] hj (List.getElem?_eq_getElem hjm))
def allRowsB (l : List Bat) : List (List Val) := l.flatMap rowsB
theorem rowsB_len (B : Bat) (h : OkB B) : (rowsB B).length ≤ 1000000 := by
  unfold rowsB
  split
  · simp; have := h.2.2.1; omega
  · simp; exact h.2.1
theorem allRowsB_len {l : List Bat} (h : ∀ B ∈ l, OkB B) : (allRowsB l).length ≤ l.length * 1000000 := by
  unfold allRowsB
  induction l with
  | nil => simp
  | cons B r ih =>
    rw [List.flatMap_cons, List.length_append, List.length_cons, Nat.add_mul]
    have h1 := ih (fun y hy => h y (List.mem_cons_of_mem _ hy))
    have h2 := rowsB_len B (h B (List.mem_cons_self ..))
    omega
def ArRel (l : List Bat) (w : World) (out j : Value) (wr : World) : Prop :=
  ∃ k : Nat, k ≤ l.length ∧ j = .int .i64 (k : Int) ∧ OwnRs w.heap.size wr out (allRowsB (l.take k)) ∧ Grows w wr
end Go.Proofs.Ytfjhahhkakfhmaa
/-
  Shaken: what the claims of this seat need of this text. No condition.
-/
namespace Go.Proofs.Ytfjhahhkakfhmaa
set_option maxRecDepth 8000
open Go.RowKit
set_option linter.unusedVariables false
set_option linter.unusedSimpArgs false
def FitBA (B : Bat) : Prop := B.cs.length ≤ 1000000 ∧ B.sel.length ≤ 1000000000000000 ∧ ∀ v ∈ B.cs, FitArg v
def okSel (len : Int) (sel : List Int) (i : Nat) : Bool := decide (0 ≤ sel.getD i 0) && (decide (sel.getD i 0 < len) && (decide (i = 0) || decide (sel.getD (i - 1) 0 < sel.getD i 0)))
def selsB (len : Int) (sel : List Int) : Nat → Bool
  | 0 => true
  | j + 1 => selsB len sel j && okSel len sel j
theorem selsB_iff {len : Int} {sel : List Int} : ∀ {m : Nat}, selsB len sel m = true ↔ ∀ i, i < m → okSel len sel i = true
  | 0 => by simp [selsB]
  | m + 1 => by
    rw [selsB, Bool.and_eq_true, selsB_iff]
    constructor
    · rintro ⟨h1, h2⟩ i hi
      by_cases e : i = m
      · rw [e]; exact h2
      · exact h1 i (by omega)
    · exact fun h => ⟨fun i hi => h i (by omega), h m (by omega)⟩
theorem selsB_no {len : Int} {sel : List Int} {j m : Nat} (hj : j < m) (h : okSel len sel j = false) : selsB len sel m = false := by
  cases e : selsB len sel m
  · rfl
  · rw [selsB_iff.1 e j hj] at h; cases h
def colB (len : Int) (v : Vec) : Bool := validVB v && decide ((v.ns.length : Int) = len)
def validBB (B : Bat) : Bool := decide (0 ≤ B.len) && (!(B.all && decide (0 < B.sel.length)) && (B.cs.all (colB B.len) && selsB B.len B.sel B.sel.length))
theorem validBB_of {B : Bat} (h0 : 0 ≤ B.len) (h1 : ¬ (B.all = true ∧ 0 < B.sel.length)) (h2 : B.cs.all (colB B.len) = true) (h3 : selsB B.len B.sel B.sel.length = true) : validBB B = true := by
  unfold validBB
  rw [h2, h3]
  simp only [Bool.and_true, Bool.and_eq_true, decide_eq_true_eq, Bool.not_eq_true']
  refine ⟨h0, ?_⟩
  cases hb : B.all && decide (0 < B.sel.length)
  · rfl
  · simp only [Bool.and_eq_true, decide_eq_true_eq] at hb
    exact absurd hb h1
theorem validBB_no {B : Bat} (h : ¬ 0 ≤ B.len ∨ (B.all = true ∧ 0 < B.sel.length) ∨ B.cs.all (colB B.len) = false ∨ selsB B.len B.sel B.sel.length = false) : validBB B = false := by
  unfold validBB
  rcases h with h | h | h | h
  · simp [h]
  · simp [h.1, h.2]
  · simp [h]
  · simp [h]
set_option maxHeartbeats 8000000 in
theorem rvalidB_any (x : Value) (B : Bat) (w : World) (hx : IsB w x B) (hf : FitBA B) (hL : -9223372036854775808 ≤ B.len ∧ B.len ≤ 9223372036854775807) :
    Calls Try.prog 22 #[x] w fun e w' => e = .returned (.bool (validBB B)) ∧ Grows w w' := by
  obtain ⟨cs, L, al, sel⟩ := B
  obtain ⟨p, q, rfl, hp, hq⟩ := hx
  obtain ⟨f1, f2, f3⟩ := hf
  dsimp only at *
  have HP := hidden hp
  have HQ := hidden hq
  obtain ⟨A, c, rfl⟩ := hp.slice_
  obtain ⟨E, d, rfl⟩ := hq.slice_
  clear hp hq
  have HF3 := hidden f3
  obtain ⟨z, hz⟩ : ∃ z, validBB ⟨cs, L, al, sel⟩ = z := ⟨_, rfl⟩
  rw [hz]
  have HYES := hidden (fun (h0 : 0 ≤ L) (h1 : ¬ (al = true ∧ 0 < sel.length)) (h2 : cs.all (colB L) = true) (h3 : selsB L sel sel.length = true) => hz.symm.trans (validBB_of (B := ⟨cs, L, al, sel⟩) h0 h1 h2 h3))
  have HNO := hidden (fun (h : ¬ 0 ≤ L ∨ (al = true ∧ 0 < sel.length) ∨ cs.all (colB L) = false ∨ selsB L sel sel.length = false) => hz.symm.trans (validBB_no (B := ⟨cs, L, al, sel⟩) h))
  clear hz
  obtain ⟨n, hn⟩ : ∃ n, cs.length = n := ⟨_, rfl⟩
  obtain ⟨m, hm⟩ : ∃ m, sel.length = m := ⟨_, rfl⟩
  rw [hn] at HP ⊢
  rw [hm] at HQ HYES HNO ⊢
  have HN := hidden hn
  have HM := hidden hm
  have HNB := hidden (show n ≤ 1000000 ∧ m ≤ 1000000000000000 by omega)
  clear hn hm f1 f2 f3
  obtain ⟨W0, hW0⟩ : ∃ W0, W0 = w.alloc (.cells #[.slice A n c, .int .i64 L, .bool al, .slice E m d] 45) := ⟨_, rfl⟩
  have HG0 := hidden (show Grows w W0 by rw [hW0]; exact grow1 _)
  have HR0 := hidden (show Row W0 w.heap.size 45 [.slice A n c, .int .i64 L, .bool al, .slice E m d] by rw [hW0]; exact Row.new w 45 _ _ rfl)
  have p1 := HR0.out.cell 1
  have p2 := HR0.out.cell 2
  have p3 := HR0.out.cell 3
  simp only [List.getElem?_cons_succ, List.getElem?_cons_zero] at p1 p2 p3
  rw [hW0] at p1 p2 p3
  by_cases hL0 : L < 0
  · have HE := hidden (HNO.out (.inl (by omega)))
    have d0 : decide (L < 0) = true := by simpa using hL0
    go_enter Try.func22, Try.ntmps22
    go_wp2_with fail
    go_ret
    exact ⟨retB HE.out.symm, by rw [← hW0]; exact HG0.out⟩
  have d0 : decide (L < 0) = false := by simpa using hL0
  have HL0 := hidden (show 0 ≤ L by omega)
  by_cases hal : al = true ∧ 0 < m
  · have HE := hidden (HNO.out (.inr (.inl hal)))
    obtain ⟨rfl, hm0⟩ := hal
    have d1 : decide (0 < m) = true := by simpa using hm0
    have d2 : decide ((0 : Int) < (m : Int)) = true := by simp; omega
    clear hL0
    go_enter Try.func22, Try.ntmps22
    go_wp2_with fail
    go_ret
    exact ⟨retB HE.out.symm, by rw [← hW0]; exact HG0.out⟩
  have HAL := hidden hal
  have haf : al = false ∨ (al = true ∧ m = 0) := by
    cases al
    · exact .inl rfl
    · exact .inr ⟨rfl, by have := mt (And.intro rfl) hal; omega⟩
  have HCL := hidden (fun (W : World) (h : Grows W0 W) => And.intro ((HR0.out.grow h).cell 0) (And.intro ((HR0.out.grow h).cell 1) ((HR0.out.grow h).cell 3)))
  simp only [List.getElem?_cons_succ, List.getElem?_cons_zero] at HCL
  have HW0 := hidden hW0
  clear hW0 hal hL0
  rcases haf with hcase | hcase
  · subst hcase
    go_enter Try.func22, Try.ntmps22
    go_wp2_with fail
    rw [← HW0.out]
    clear p1 p2 p3
    go_loopw [3] (fun i wr => ∃ k : Nat, k ≤ n ∧ i = .int .i64 (k : Int) ∧ (cs.take k).all (colB L) = true ∧ Grows W0 wr) (fun i _ => n - (intOf i).toNat)
    case atStart => exact ⟨0, Nat.zero_le _, rfl, rfl, Below.refl _ _⟩
    case round =>
      obtain ⟨k, hk, rfl, hall, hb⟩ := hrel
      have HB := hidden hb
      have HALL := hidden hall
      have HGW := hidden (HG0.out.of_below hb)
      obtain ⟨r0, r1, r3⟩ := HCL.out wr hb
      clear hb hall
      by_cases hlt : k < n
      · have hd : decide (k < n) = true := by simpa using hlt
        have hk0 : (0 : Int) ≤ (k : Int) := by omega
        have hk1 : (k : Int) < (n : Int) := by omega
        have HLT := hidden hlt
        have hnb := HNB.out.1
        have hkl : k < cs.length := by rw [HN.out]; exact hlt
        obtain ⟨b0, o0, A3, c3, A4, c4, A5, c5, rfl, ka⟩ := HP.out.at_ hkl
        have eyy : ∃ v : Vec, (∀ W, Grows w W → W.cell? ⟨b0, o0 + k * 4, none⟩ = some (.int .i64 v.T) ∧ W.cell? ⟨b0, o0 + k * 4 + 1, none⟩ = some (.slice A3 v.is.length c3) ∧ W.cell? ⟨b0, o0 + k * 4 + 2, none⟩ = some (.slice A4 v.ts.length c4) ∧ W.cell? ⟨b0, o0 + k * 4 + 3, none⟩ = some (.slice A5 v.ns.length c5) ∧ IsV W (.agg #[.int .i64 v.T, .slice A3 v.is.length c3, .slice A4 v.ts.length c4, .slice A5 v.ns.length c5]) v) ∧ v ∈ cs ∧ cs.take (k + 1) = cs.take k ++ [v] := ⟨_, ka, List.getElem_mem _, by rw [List.take_add_one, List.getElem?_eq_getElem hkl]; rfl⟩
        clear ka
        obtain ⟨v, ka, hmem, htk⟩ := eyy
        have HTK := hidden htk
        have HMEM := hidden hmem
        have HC1 := hidden (fun W (h : Grows wr W) => const_loose (rvalid17_any _ v W (ka W (HGW.out.of_below h)).2.2.2.2 (HF3.out v hmem)))
        have HX := hidden (fun X (h : Grows wr X) => And.intro (HCL.out X (HB.out.of_below h)) (ka X (HGW.out.of_below h)))
        obtain ⟨f, hf⟩ : ∃ f, f = validVB v := ⟨_, rfl⟩
        rw [← hf] at HC1
        have HFF := hidden hf.symm
        clear hlt ka hmem htk hf
        cases f
        · have HE := hidden (HNO.out (.inr (.inr (.inl (by
            cases h9 : cs.all (colB L)
            · rfl
            · have := (List.all_eq_true.1 h9) v HMEM.out
              unfold colB at this
              rw [HFF.out] at this
              simp at this)))))
          go_wp2_with fail
          refine wp_region_loose (tabRs [(5, ConstV (.bool false))]) (by kernel_rfl) (by kernel_rfl) (tabRs_cons ConstV.lasts tabRs_nil) ?_
          iterate 5 ((with_reducible refine loose_one (v := ?_) (a' := ?_) ?_ ?_ (fun w' hC' hG' => ?_) ?_ ?_); rotate_left 2; (focus rfl); (focus rfl); (focus (obtain ⟨⟨x0, x1, x3⟩, y0, y1, y2, y3, y4⟩ := HX.out w' hC'; clear y4 hC' hG'; go_simp; rfl)); (focus (go_simp; rfl)))
          refine loose_call (R := ConstV (.bool false)) (f := 20) (args := #[.agg #[.int .i64 v.T, .slice A3 v.is.length c3, .slice A4 v.ts.length c4, .slice A5 v.ns.length c5]]) (by rfl) (by rfl) (fun _ => by go_simp) (fun w' hC' hG' => HC1.out w' hC') ?_
          rintro _ ⟨_, _, rfl⟩
          refine ⟨?_, ?_, ?_⟩
          rotate_left
          · go_simp
            rfl
          iterate 2 ((with_reducible refine loose_one (v := ?_) (a' := ?_) ?_ ?_ (fun w' hC' hG' => ?_) ?_ ?_); rotate_left 2; (focus rfl); (focus rfl); (focus (obtain ⟨⟨x0, x1, x3⟩, y0, y1, y2, y3, y4⟩ := HX.out w' hC'; clear y4 hC' hG'; go_simp; rfl)); (focus (go_simp; rfl)))
          iterate 10 ((with_reducible refine loose_skip (a' := ?_) ?_ ?_ ?_); rotate_left 1; (focus rfl); (focus (go_simp; rfl)))
          iterate 1 ((with_reducible refine loose_one (v := ?_) (a' := ?_) ?_ ?_ (fun w' hC' hG' => ?_) ?_ ?_); rotate_left 2; (focus rfl); (focus rfl); (focus (obtain ⟨⟨x0, x1, x3⟩, y0, y1, y2, y3, y4⟩ := HX.out w' hC'; clear y4 hC' hG'; go_simp; rfl)); (focus (go_simp; rfl)))
          refine loose_done (fun w5 hC5 hG5 => ?_)
          have HB5 := hidden (HGW.out.of_below hC5)
          clear hC5 hG5 HX r0 r1 r3
          go_wp2_with fail
          go_ret
          exact ⟨retB HE.out.symm, HB5.out⟩
        · by_cases hln : (v.ns.length : Int) = L
          · have hne : ((v.ns.length : Int) != L) = false := by simpa using hln
            have HCO := hidden (show colB L v = true by unfold colB; rw [HFF.out, hln]; simp)
            clear hln
            go_wp2_with fail
            refine wp_region_loose (tabRs [(5, ConstV (.bool true))]) (by kernel_rfl) (by kernel_rfl) (tabRs_cons ConstV.lasts tabRs_nil) ?_
            iterate 5 ((with_reducible refine loose_one (v := ?_) (a' := ?_) ?_ ?_ (fun w' hC' hG' => ?_) ?_ ?_); rotate_left 2; (focus rfl); (focus rfl); (focus (obtain ⟨⟨x0, x1, x3⟩, y0, y1, y2, y3, y4⟩ := HX.out w' hC'; clear y4 hC' hG'; go_simp; rfl)); (focus (go_simp; rfl)))
            refine loose_call (R := ConstV (.bool true)) (f := 20) (args := #[.agg #[.int .i64 v.T, .slice A3 v.is.length c3, .slice A4 v.ts.length c4, .slice A5 v.ns.length c5]]) (by rfl) (by rfl) (fun _ => by go_simp) (fun w' hC' hG' => HC1.out w' hC') ?_
            rintro _ ⟨_, _, rfl⟩
            refine ⟨?_, ?_, ?_⟩
            rotate_left
            · go_simp
              rfl
            iterate 13 ((with_reducible refine loose_one (v := ?_) (a' := ?_) ?_ ?_ (fun w' hC' hG' => ?_) ?_ ?_); rotate_left 2; (focus rfl); (focus rfl); (focus (obtain ⟨⟨x0, x1, x3⟩, y0, y1, y2, y3, y4⟩ := HX.out w' hC'; clear y4 hC' hG'; go_simp; rfl)); (focus (go_simp; rfl)))
            refine loose_done (fun w5 hC5 hG5 => ?_)
            have HB5 := hidden (HB.out.of_below hC5)
            clear hC5 hG5 HX r0 r1 r3
            go_wp2_with fail
            go_roundw
            case rel => exact ⟨k + 1, HLT.out, by go_num, by rw [HTK.out, List.all_append, HALL.out]; simp [HCO.out], HB5.out⟩
            case measure => have := HLT.out; simp [intOf]; omega
          · have hne : ((v.ns.length : Int) != L) = true := by simpa using hln
            have HE := hidden (HNO.out (.inr (.inr (.inl (by
              cases h9 : cs.all (colB L)
              · rfl
              · have := (List.all_eq_true.1 h9) v HMEM.out
                unfold colB at this
                rw [Bool.and_eq_true] at this
                exact absurd (by simpa using this.2) hln)))))
            clear hln
            go_wp2_with fail
            refine wp_region_loose (tabRs [(5, ConstV (.bool true))]) (by kernel_rfl) (by kernel_rfl) (tabRs_cons ConstV.lasts tabRs_nil) ?_
            iterate 5 ((with_reducible refine loose_one (v := ?_) (a' := ?_) ?_ ?_ (fun w' hC' hG' => ?_) ?_ ?_); rotate_left 2; (focus rfl); (focus rfl); (focus (obtain ⟨⟨x0, x1, x3⟩, y0, y1, y2, y3, y4⟩ := HX.out w' hC'; clear y4 hC' hG'; go_simp; rfl)); (focus (go_simp; rfl)))
            refine loose_call (R := ConstV (.bool true)) (f := 20) (args := #[.agg #[.int .i64 v.T, .slice A3 v.is.length c3, .slice A4 v.ts.length c4, .slice A5 v.ns.length c5]]) (by rfl) (by rfl) (fun _ => by go_simp) (fun w' hC' hG' => HC1.out w' hC') ?_
            rintro _ ⟨_, _, rfl⟩
            refine ⟨?_, ?_, ?_⟩
            rotate_left
            · go_simp
              rfl
            iterate 13 ((with_reducible refine loose_one (v := ?_) (a' := ?_) ?_ ?_ (fun w' hC' hG' => ?_) ?_ ?_); rotate_left 2; (focus rfl); (focus rfl); (focus (obtain ⟨⟨x0, x1, x3⟩, y0, y1, y2, y3, y4⟩ := HX.out w' hC'; clear y4 hC' hG'; go_simp; rfl)); (focus (go_simp; rfl)))
            refine loose_done (fun w5 hC5 hG5 => ?_)
            have HB5 := hidden (HGW.out.of_below hC5)
            clear hC5 hG5 HX r0 r1 r3
            go_wp2_with fail
            go_ret
            exact ⟨retB HE.out.symm, HB5.out⟩
      · have hke : k = n := by omega
        have hd : decide (k < n) = false := by simpa using hlt
        have HCA := hidden (show cs.all (colB L) = true by have := HALL.out; rwa [hke, ← HN.out, List.take_length] at this)
        have HBK := HB
        generalize wr = wk at *
        clear hlt hk hke HB
        go_wp2_with fail
        clear r0 r1 r3
        go_loopw [4] (fun i wr => ∃ k : Nat, k ≤ m ∧ i = .int .i64 (k : Int) ∧ selsB L sel k = true ∧ Grows W0 wr) (fun i _ => m - (intOf i).toNat)
        case atStart => exact ⟨0, Nat.zero_le _, rfl, rfl, HBK.out⟩
        case round =>
          obtain ⟨k, hk, rfl, hsl, hb⟩ := hrel
          have HB := hidden hb
          have HSL := hidden hsl
          have HGX := hidden (HG0.out.of_below hb)
          obtain ⟨r0, r1, r3⟩ := HCL.out wr hb
          clear hb hsl
          by_cases hlt : k < m
          · have hd : decide (k < m) = true := by simpa using hlt
            have hk0 : (0 : Int) ≤ (k : Int) := by omega
            have hk1 : (k : Int) < (m : Int) := by omega
            have HLT := hidden hlt
            have hnb := HNB.out.2
            have hkl : k < sel.length := by rw [HM.out]; exact hlt
            rw [← HM.out] at HQ
            obtain ⟨b0, o0, rfl, ka⟩ := HQ.out.at_ hkl
            rw [HM.out] at HQ
            have eyy : ∃ s : Int, w.cell? ⟨b0, o0 + k, none⟩ = some (.int .i64 s) ∧ sel.getD k 0 = s := ⟨_, ka, by rw [List.getD_eq_getElem?_getD, List.getElem?_eq_getElem hkl]; rfl⟩
            clear ka
            obtain ⟨s, ka, hgs⟩ := eyy
            have HKA := hidden ka
            have HGS := hidden hgs
            have HX := hidden (fun X (h : Grows wr X) => And.intro (HCL.out X (HB.out.of_below h)) (((HGX.out.of_below h).cell (World.block_lt_of_cell? _ _ HKA.out)).trans HKA.out))
            clear ka hgs hlt hkl
            by_cases hs0 : s < 0
            · have e0 : decide (s < 0) = true := by simpa using hs0
              have HE := hidden (HNO.out (.inr (.inr (.inr (selsB_no HLT.out (by unfold okSel; rw [HGS.out]; simp; omega))))))
              clear hs0
              go_wp2_with fail
              refine wp_region_loose (tabRs []) (by kernel_rfl) (by kernel_rfl) tabRs_nil ?_
              iterate 7 ((with_reducible refine loose_one (v := ?_) (a' := ?_) ?_ ?_ (fun w' hC' hG' => ?_) ?_ ?_); rotate_left 2; (focus rfl); (focus rfl); (focus (obtain ⟨⟨x0, x1, x3⟩, y0⟩ := HX.out w' hC'; clear hC' hG'; go_simp; rfl)); (focus (go_simp; rfl)))
              iterate 8 ((with_reducible refine loose_skip (a' := ?_) ?_ ?_ ?_); rotate_left 1; (focus rfl); (focus (go_simp; rfl)))
              iterate 2 ((with_reducible refine loose_one (v := ?_) (a' := ?_) ?_ ?_ (fun w' hC' hG' => ?_) ?_ ?_); rotate_left 2; (focus rfl); (focus rfl); (focus (obtain ⟨⟨x0, x1, x3⟩, y0⟩ := HX.out w' hC'; clear hC' hG'; go_simp; rfl)); (focus (go_simp; rfl)))
              iterate 16 ((with_reducible refine loose_skip (a' := ?_) ?_ ?_ ?_); rotate_left 1; (focus rfl); (focus (go_simp; rfl)))
              iterate 1 ((with_reducible refine loose_one (v := ?_) (a' := ?_) ?_ ?_ (fun w' hC' hG' => ?_) ?_ ?_); rotate_left 2; (focus rfl); (focus rfl); (focus (obtain ⟨⟨x0, x1, x3⟩, y0⟩ := HX.out w' hC'; clear hC' hG'; go_simp; rfl)); (focus (go_simp; rfl)))
              refine loose_done (fun w5 hC5 hG5 => ?_)
              have HB5 := hidden (HGX.out.of_below hC5)
              clear hC5 hG5 HX r0 r1 r3
              go_wp2_with fail
              go_ret
              exact ⟨retB HE.out.symm, HB5.out⟩
            have e0 : decide (s < 0) = false := by simpa using hs0
            by_cases hsL : L ≤ s
            · have e1 : decide (L ≤ s) = true := by simpa using hsL
              have HE := hidden (HNO.out (.inr (.inr (.inr (selsB_no HLT.out (by unfold okSel; rw [HGS.out]; simp; omega))))))
              clear hs0 hsL
              go_wp2_with fail
              refine wp_region_loose (tabRs []) (by kernel_rfl) (by kernel_rfl) tabRs_nil ?_
              iterate 17 ((with_reducible refine loose_one (v := ?_) (a' := ?_) ?_ ?_ (fun w' hC' hG' => ?_) ?_ ?_); rotate_left 2; (focus rfl); (focus rfl); (focus (obtain ⟨⟨x0, x1, x3⟩, y0⟩ := HX.out w' hC'; clear hC' hG'; go_simp; rfl)); (focus (go_simp; rfl)))
              iterate 16 ((with_reducible refine loose_skip (a' := ?_) ?_ ?_ ?_); rotate_left 1; (focus rfl); (focus (go_simp; rfl)))
              iterate 1 ((with_reducible refine loose_one (v := ?_) (a' := ?_) ?_ ?_ (fun w' hC' hG' => ?_) ?_ ?_); rotate_left 2; (focus rfl); (focus rfl); (focus (obtain ⟨⟨x0, x1, x3⟩, y0⟩ := HX.out w' hC'; clear hC' hG'; go_simp; rfl)); (focus (go_simp; rfl)))
              refine loose_done (fun w5 hC5 hG5 => ?_)
              have HB5 := hidden (HGX.out.of_below hC5)
              clear hC5 hG5 HX r0 r1 r3
              go_wp2_with fail
              go_ret
              exact ⟨retB HE.out.symm, HB5.out⟩
            have e1 : decide (L ≤ s) = false := by simpa using hsL
            have HIN := hidden (show 0 ≤ s ∧ s < L by omega)
            clear hs0 hsL
            by_cases hkz : k = 0
            · subst hkz
              have hm0 : 0 < m := HLT.out
              simp only [Nat.add_zero] at HX
              have HOS := hidden (show okSel L sel 0 = true by unfold okSel; rw [HGS.out]; have := HIN.out; simp; omega)
              go_wp2_with fail
              refine wp_region_loose (tabRs []) (by kernel_rfl) (by kernel_rfl) tabRs_nil ?_
              iterate 20 ((with_reducible refine loose_one (v := ?_) (a' := ?_) ?_ ?_ (fun w' hC' hG' => ?_) ?_ ?_); rotate_left 2; (focus rfl); (focus rfl); (focus (obtain ⟨⟨x0, x1, x3⟩, y0⟩ := HX.out w' hC'; clear hC' hG'; go_simp; rfl)); (focus (go_simp; rfl)))
              iterate 12 ((with_reducible refine loose_skip (a' := ?_) ?_ ?_ ?_); rotate_left 1; (focus rfl); (focus (go_simp; rfl)))
              iterate 2 ((with_reducible refine loose_one (v := ?_) (a' := ?_) ?_ ?_ (fun w' hC' hG' => ?_) ?_ ?_); rotate_left 2; (focus rfl); (focus rfl); (focus (obtain ⟨⟨x0, x1, x3⟩, y0⟩ := HX.out w' hC'; clear hC' hG'; go_simp; rfl)); (focus (go_simp; rfl)))
              refine loose_done (fun w5 hC5 hG5 => ?_)
              have HB5 := hidden (HB.out.of_below hC5)
              clear hC5 hG5 HX r0 r1 r3
              go_wp2_with fail
              go_roundw
              case rel => exact ⟨1, HLT.out, by go_num, by rw [selsB, HOS.out]; rfl, HB5.out⟩
              case measure => have := HLT.out; simp [intOf]; omega
            obtain ⟨j, rfl⟩ : ∃ j, k = j + 1 := ⟨k - 1, by omega⟩
            have hjl : j < sel.length := by rw [HM.out]; have := HLT.out; omega
            rw [← HM.out] at HQ
            obtain ⟨b1, o1, he1, kb⟩ := HQ.out.at_ hjl
            rw [HM.out] at HQ
            injection he1 with he1
            injection he1 with he1 he2
            subst he1 he2
            have eyy : ∃ t : Int, w.cell? ⟨b0, o0 + j, none⟩ = some (.int .i64 t) ∧ sel.getD j 0 = t := ⟨_, kb, by rw [List.getD_eq_getElem?_getD, List.getElem?_eq_getElem hjl]; rfl⟩
            clear kb
            obtain ⟨t, kb, hgt⟩ := eyy
            have HKB := hidden kb
            have HGT := hidden hgt
            have HX2 := hidden (fun X (h : Grows wr X) => And.intro (HX.out X h) (((HGX.out.of_below h).cell (World.block_lt_of_cell? _ _ HKB.out)).trans HKB.out))
            have hj0 : (0 : Int) ≤ (j : Int) := by omega
            have hj1 : (j : Int) < (m : Int) := by have := HLT.out; omega
            have hwj : IntKind.i64.wrap (j : Int) = (j : Int) := by first | go_num | (simp [IntKind.wrap, IntKind.bits, IntKind.signed]; omega)
            clear kb hgt hjl hkz HX
            by_cases hst : s ≤ t
            · have e2 : decide (s ≤ t) = true := by simpa using hst
              have HE := hidden (HNO.out (.inr (.inr (.inr (selsB_no HLT.out (by unfold okSel; rw [HGS.out, Nat.add_sub_cancel, HGT.out]; simp; omega))))))
              clear hst
              go_wp2_with fail
              refine wp_region_loose (tabRs []) (by kernel_rfl) (by kernel_rfl) tabRs_nil ?_
              iterate 34 ((with_reducible refine loose_one (v := ?_) (a' := ?_) ?_ ?_ (fun w' hC' hG' => ?_) ?_ ?_); rotate_left 2; (focus rfl); (focus rfl); (focus (obtain ⟨⟨⟨x0, x1, x3⟩, y0⟩, y1⟩ := HX2.out w' hC'; clear hC' hG'; go_simp; rfl)); (focus (go_simp; rfl)))
              refine loose_done (fun w5 hC5 hG5 => ?_)
              have HB5 := hidden (HGX.out.of_below hC5)
              clear hC5 hG5 HX2 r0 r1 r3
              go_wp2_with fail
              go_ret
              exact ⟨retB HE.out.symm, HB5.out⟩
            · have e2 : decide (s ≤ t) = false := by simpa using hst
              have HOS := hidden (show okSel L sel (j + 1) = true by unfold okSel; rw [HGS.out, Nat.add_sub_cancel, HGT.out]; have := HIN.out; simp; omega)
              clear hst
              go_wp2_with fail
              refine wp_region_loose (tabRs []) (by kernel_rfl) (by kernel_rfl) tabRs_nil ?_
              iterate 34 ((with_reducible refine loose_one (v := ?_) (a' := ?_) ?_ ?_ (fun w' hC' hG' => ?_) ?_ ?_); rotate_left 2; (focus rfl); (focus rfl); (focus (obtain ⟨⟨⟨x0, x1, x3⟩, y0⟩, y1⟩ := HX2.out w' hC'; clear hC' hG'; go_simp; rfl)); (focus (go_simp; rfl)))
              refine loose_done (fun w5 hC5 hG5 => ?_)
              have HB5 := hidden (HB.out.of_below hC5)
              clear hC5 hG5 HX2 r0 r1 r3
              go_wp2_with fail
              go_roundw
              case rel => exact ⟨j + 1 + 1, HLT.out, by go_num, by rw [selsB, HSL.out, HOS.out]; rfl, HB5.out⟩
              case measure => have := HLT.out; simp [intOf]; omega
          · have hke : k = m := by omega
            have hd : decide (k < m) = false := by simpa using hlt
            have HE := hidden (HYES.out HL0.out HAL.out HCA.out (by rw [← hke]; exact HSL.out))
            clear hlt hk hke
            go_wp2_with fail
            go_ret
            exact ⟨retB HE.out.symm, HGX.out⟩
  · obtain ⟨rfl, hm0⟩ := hcase
    have y1 : decide (0 < m) = false := by simp; omega
    have y2 : decide ((0 : Int) < (m : Int)) = false := by simp; omega
    clear hm0
    go_enter Try.func22, Try.ntmps22
    go_wp2_with fail
    rw [← HW0.out]
    clear p1 p2 p3 y1 y2
    go_loopw [3] (fun i wr => ∃ k : Nat, k ≤ n ∧ i = .int .i64 (k : Int) ∧ (cs.take k).all (colB L) = true ∧ Grows W0 wr) (fun i _ => n - (intOf i).toNat)
    case atStart => exact ⟨0, Nat.zero_le _, rfl, rfl, Below.refl _ _⟩
    case round =>
      obtain ⟨k, hk, rfl, hall, hb⟩ := hrel
      have HB := hidden hb
      have HALL := hidden hall
      have HGW := hidden (HG0.out.of_below hb)
      obtain ⟨r0, r1, r3⟩ := HCL.out wr hb
      clear hb hall
      by_cases hlt : k < n
      · have hd : decide (k < n) = true := by simpa using hlt
        have hk0 : (0 : Int) ≤ (k : Int) := by omega
        have hk1 : (k : Int) < (n : Int) := by omega
        have HLT := hidden hlt
        have hnb := HNB.out.1
        have hkl : k < cs.length := by rw [HN.out]; exact hlt
        obtain ⟨b0, o0, A3, c3, A4, c4, A5, c5, rfl, ka⟩ := HP.out.at_ hkl
        have eyy : ∃ v : Vec, (∀ W, Grows w W → W.cell? ⟨b0, o0 + k * 4, none⟩ = some (.int .i64 v.T) ∧ W.cell? ⟨b0, o0 + k * 4 + 1, none⟩ = some (.slice A3 v.is.length c3) ∧ W.cell? ⟨b0, o0 + k * 4 + 2, none⟩ = some (.slice A4 v.ts.length c4) ∧ W.cell? ⟨b0, o0 + k * 4 + 3, none⟩ = some (.slice A5 v.ns.length c5) ∧ IsV W (.agg #[.int .i64 v.T, .slice A3 v.is.length c3, .slice A4 v.ts.length c4, .slice A5 v.ns.length c5]) v) ∧ v ∈ cs ∧ cs.take (k + 1) = cs.take k ++ [v] := ⟨_, ka, List.getElem_mem _, by rw [List.take_add_one, List.getElem?_eq_getElem hkl]; rfl⟩
        clear ka
        obtain ⟨v, ka, hmem, htk⟩ := eyy
        have HTK := hidden htk
        have HMEM := hidden hmem
        have HC1 := hidden (fun W (h : Grows wr W) => const_loose (rvalid17_any _ v W (ka W (HGW.out.of_below h)).2.2.2.2 (HF3.out v hmem)))
        have HX := hidden (fun X (h : Grows wr X) => And.intro (HCL.out X (HB.out.of_below h)) (ka X (HGW.out.of_below h)))
        obtain ⟨f, hf⟩ : ∃ f, f = validVB v := ⟨_, rfl⟩
        rw [← hf] at HC1
        have HFF := hidden hf.symm
        clear hlt ka hmem htk hf
        cases f
        · have HE := hidden (HNO.out (.inr (.inr (.inl (by
            cases h9 : cs.all (colB L)
            · rfl
            · have := (List.all_eq_true.1 h9) v HMEM.out
              unfold colB at this
              rw [HFF.out] at this
              simp at this)))))
          go_wp2_with fail
          refine wp_region_loose (tabRs [(5, ConstV (.bool false))]) (by kernel_rfl) (by kernel_rfl) (tabRs_cons ConstV.lasts tabRs_nil) ?_
          iterate 5 ((with_reducible refine loose_one (v := ?_) (a' := ?_) ?_ ?_ (fun w' hC' hG' => ?_) ?_ ?_); rotate_left 2; (focus rfl); (focus rfl); (focus (obtain ⟨⟨x0, x1, x3⟩, y0, y1, y2, y3, y4⟩ := HX.out w' hC'; clear y4 hC' hG'; go_simp; rfl)); (focus (go_simp; rfl)))
          refine loose_call (R := ConstV (.bool false)) (f := 20) (args := #[.agg #[.int .i64 v.T, .slice A3 v.is.length c3, .slice A4 v.ts.length c4, .slice A5 v.ns.length c5]]) (by rfl) (by rfl) (fun _ => by go_simp) (fun w' hC' hG' => HC1.out w' hC') ?_
          rintro _ ⟨_, _, rfl⟩
          refine ⟨?_, ?_, ?_⟩
          rotate_left
          · go_simp
            rfl
          iterate 2 ((with_reducible refine loose_one (v := ?_) (a' := ?_) ?_ ?_ (fun w' hC' hG' => ?_) ?_ ?_); rotate_left 2; (focus rfl); (focus rfl); (focus (obtain ⟨⟨x0, x1, x3⟩, y0, y1, y2, y3, y4⟩ := HX.out w' hC'; clear y4 hC' hG'; go_simp; rfl)); (focus (go_simp; rfl)))
          iterate 10 ((with_reducible refine loose_skip (a' := ?_) ?_ ?_ ?_); rotate_left 1; (focus rfl); (focus (go_simp; rfl)))
          iterate 1 ((with_reducible refine loose_one (v := ?_) (a' := ?_) ?_ ?_ (fun w' hC' hG' => ?_) ?_ ?_); rotate_left 2; (focus rfl); (focus rfl); (focus (obtain ⟨⟨x0, x1, x3⟩, y0, y1, y2, y3, y4⟩ := HX.out w' hC'; clear y4 hC' hG'; go_simp; rfl)); (focus (go_simp; rfl)))
          refine loose_done (fun w5 hC5 hG5 => ?_)
          have HB5 := hidden (HGW.out.of_below hC5)
          clear hC5 hG5 HX r0 r1 r3
          go_wp2_with fail
          go_ret
          exact ⟨retB HE.out.symm, HB5.out⟩
        · by_cases hln : (v.ns.length : Int) = L
          · have hne : ((v.ns.length : Int) != L) = false := by simpa using hln
            have HCO := hidden (show colB L v = true by unfold colB; rw [HFF.out, hln]; simp)
            clear hln
            go_wp2_with fail
            refine wp_region_loose (tabRs [(5, ConstV (.bool true))]) (by kernel_rfl) (by kernel_rfl) (tabRs_cons ConstV.lasts tabRs_nil) ?_
            iterate 5 ((with_reducible refine loose_one (v := ?_) (a' := ?_) ?_ ?_ (fun w' hC' hG' => ?_) ?_ ?_); rotate_left 2; (focus rfl); (focus rfl); (focus (obtain ⟨⟨x0, x1, x3⟩, y0, y1, y2, y3, y4⟩ := HX.out w' hC'; clear y4 hC' hG'; go_simp; rfl)); (focus (go_simp; rfl)))
            refine loose_call (R := ConstV (.bool true)) (f := 20) (args := #[.agg #[.int .i64 v.T, .slice A3 v.is.length c3, .slice A4 v.ts.length c4, .slice A5 v.ns.length c5]]) (by rfl) (by rfl) (fun _ => by go_simp) (fun w' hC' hG' => HC1.out w' hC') ?_
            rintro _ ⟨_, _, rfl⟩
            refine ⟨?_, ?_, ?_⟩
            rotate_left
            · go_simp
              rfl
            iterate 13 ((with_reducible refine loose_one (v := ?_) (a' := ?_) ?_ ?_ (fun w' hC' hG' => ?_) ?_ ?_); rotate_left 2; (focus rfl); (focus rfl); (focus (obtain ⟨⟨x0, x1, x3⟩, y0, y1, y2, y3, y4⟩ := HX.out w' hC'; clear y4 hC' hG'; go_simp; rfl)); (focus (go_simp; rfl)))
            refine loose_done (fun w5 hC5 hG5 => ?_)
            have HB5 := hidden (HB.out.of_below hC5)
            clear hC5 hG5 HX r0 r1 r3
            go_wp2_with fail
            go_roundw
            case rel => exact ⟨k + 1, HLT.out, by go_num, by rw [HTK.out, List.all_append, HALL.out]; simp [HCO.out], HB5.out⟩
            case measure => have := HLT.out; simp [intOf]; omega
          · have hne : ((v.ns.length : Int) != L) = true := by simpa using hln
            have HE := hidden (HNO.out (.inr (.inr (.inl (by
              cases h9 : cs.all (colB L)
              · rfl
              · have := (List.all_eq_true.1 h9) v HMEM.out
                unfold colB at this
                rw [Bool.and_eq_true] at this
                exact absurd (by simpa using this.2) hln)))))
            clear hln
            go_wp2_with fail
            refine wp_region_loose (tabRs [(5, ConstV (.bool true))]) (by kernel_rfl) (by kernel_rfl) (tabRs_cons ConstV.lasts tabRs_nil) ?_
            iterate 5 ((with_reducible refine loose_one (v := ?_) (a' := ?_) ?_ ?_ (fun w' hC' hG' => ?_) ?_ ?_); rotate_left 2; (focus rfl); (focus rfl); (focus (obtain ⟨⟨x0, x1, x3⟩, y0, y1, y2, y3, y4⟩ := HX.out w' hC'; clear y4 hC' hG'; go_simp; rfl)); (focus (go_simp; rfl)))
            refine loose_call (R := ConstV (.bool true)) (f := 20) (args := #[.agg #[.int .i64 v.T, .slice A3 v.is.length c3, .slice A4 v.ts.length c4, .slice A5 v.ns.length c5]]) (by rfl) (by rfl) (fun _ => by go_simp) (fun w' hC' hG' => HC1.out w' hC') ?_
            rintro _ ⟨_, _, rfl⟩
            refine ⟨?_, ?_, ?_⟩
            rotate_left
            · go_simp
              rfl
            iterate 13 ((with_reducible refine loose_one (v := ?_) (a' := ?_) ?_ ?_ (fun w' hC' hG' => ?_) ?_ ?_); rotate_left 2; (focus rfl); (focus rfl); (focus (obtain ⟨⟨x0, x1, x3⟩, y0, y1, y2, y3, y4⟩ := HX.out w' hC'; clear y4 hC' hG'; go_simp; rfl)); (focus (go_simp; rfl)))
            refine loose_done (fun w5 hC5 hG5 => ?_)
            have HB5 := hidden (HGW.out.of_below hC5)
            clear hC5 hG5 HX r0 r1 r3
            go_wp2_with fail
            go_ret
            exact ⟨retB HE.out.symm, HB5.out⟩
      · have hke : k = n := by omega
        have hd : decide (k < n) = false := by simpa using hlt
        have HCA := hidden (show cs.all (colB L) = true by have := HALL.out; rwa [hke, ← HN.out, List.take_length] at this)
        have HBK := HB
        generalize wr = wk at *
        clear hlt hk hke HB
        go_wp2_with fail
        clear r0 r1 r3
        go_loopw [4] (fun i wr => ∃ k : Nat, k ≤ m ∧ i = .int .i64 (k : Int) ∧ selsB L sel k = true ∧ Grows W0 wr) (fun i _ => m - (intOf i).toNat)
        case atStart => exact ⟨0, Nat.zero_le _, rfl, rfl, HBK.out⟩
        case round =>
          obtain ⟨k, hk, rfl, hsl, hb⟩ := hrel
          have HB := hidden hb
          have HSL := hidden hsl
          have HGX := hidden (HG0.out.of_below hb)
          obtain ⟨r0, r1, r3⟩ := HCL.out wr hb
          clear hb hsl
          by_cases hlt : k < m
          · have hd : decide (k < m) = true := by simpa using hlt
            have hk0 : (0 : Int) ≤ (k : Int) := by omega
            have hk1 : (k : Int) < (m : Int) := by omega
            have HLT := hidden hlt
            have hnb := HNB.out.2
            have hkl : k < sel.length := by rw [HM.out]; exact hlt
            rw [← HM.out] at HQ
            obtain ⟨b0, o0, rfl, ka⟩ := HQ.out.at_ hkl
            rw [HM.out] at HQ
            have eyy : ∃ s : Int, w.cell? ⟨b0, o0 + k, none⟩ = some (.int .i64 s) ∧ sel.getD k 0 = s := ⟨_, ka, by rw [List.getD_eq_getElem?_getD, List.getElem?_eq_getElem hkl]; rfl⟩
            clear ka
            obtain ⟨s, ka, hgs⟩ := eyy
            have HKA := hidden ka
            have HGS := hidden hgs
            have HX := hidden (fun X (h : Grows wr X) => And.intro (HCL.out X (HB.out.of_below h)) (((HGX.out.of_below h).cell (World.block_lt_of_cell? _ _ HKA.out)).trans HKA.out))
            clear ka hgs hlt hkl
            by_cases hs0 : s < 0
            · have e0 : decide (s < 0) = true := by simpa using hs0
              have HE := hidden (HNO.out (.inr (.inr (.inr (selsB_no HLT.out (by unfold okSel; rw [HGS.out]; simp; omega))))))
              clear hs0
              go_wp2_with fail
              refine wp_region_loose (tabRs []) (by kernel_rfl) (by kernel_rfl) tabRs_nil ?_
              iterate 7 ((with_reducible refine loose_one (v := ?_) (a' := ?_) ?_ ?_ (fun w' hC' hG' => ?_) ?_ ?_); rotate_left 2; (focus rfl); (focus rfl); (focus (obtain ⟨⟨x0, x1, x3⟩, y0⟩ := HX.out w' hC'; clear hC' hG'; go_simp; rfl)); (focus (go_simp; rfl)))
              iterate 8 ((with_reducible refine loose_skip (a' := ?_) ?_ ?_ ?_); rotate_left 1; (focus rfl); (focus (go_simp; rfl)))
              iterate 2 ((with_reducible refine loose_one (v := ?_) (a' := ?_) ?_ ?_ (fun w' hC' hG' => ?_) ?_ ?_); rotate_left 2; (focus rfl); (focus rfl); (focus (obtain ⟨⟨x0, x1, x3⟩, y0⟩ := HX.out w' hC'; clear hC' hG'; go_simp; rfl)); (focus (go_simp; rfl)))
              iterate 16 ((with_reducible refine loose_skip (a' := ?_) ?_ ?_ ?_); rotate_left 1; (focus rfl); (focus (go_simp; rfl)))
              iterate 1 ((with_reducible refine loose_one (v := ?_) (a' := ?_) ?_ ?_ (fun w' hC' hG' => ?_) ?_ ?_); rotate_left 2; (focus rfl); (focus rfl); (focus (obtain ⟨⟨x0, x1, x3⟩, y0⟩ := HX.out w' hC'; clear hC' hG'; go_simp; rfl)); (focus (go_simp; rfl)))
              refine loose_done (fun w5 hC5 hG5 => ?_)
              have HB5 := hidden (HGX.out.of_below hC5)
              clear hC5 hG5 HX r0 r1 r3
              go_wp2_with fail
              go_ret
              exact ⟨retB HE.out.symm, HB5.out⟩
            have e0 : decide (s < 0) = false := by simpa using hs0
            by_cases hsL : L ≤ s
            · have e1 : decide (L ≤ s) = true := by simpa using hsL
              have HE := hidden (HNO.out (.inr (.inr (.inr (selsB_no HLT.out (by unfold okSel; rw [HGS.out]; simp; omega))))))
              clear hs0 hsL
              go_wp2_with fail
              refine wp_region_loose (tabRs []) (by kernel_rfl) (by kernel_rfl) tabRs_nil ?_
              iterate 17 ((with_reducible refine loose_one (v := ?_) (a' := ?_) ?_ ?_ (fun w' hC' hG' => ?_) ?_ ?_); rotate_left 2; (focus rfl); (focus rfl); (focus (obtain ⟨⟨x0, x1, x3⟩, y0⟩ := HX.out w' hC'; clear hC' hG'; go_simp; rfl)); (focus (go_simp; rfl)))
              iterate 16 ((with_reducible refine loose_skip (a' := ?_) ?_ ?_ ?_); rotate_left 1; (focus rfl); (focus (go_simp; rfl)))
              iterate 1 ((with_reducible refine loose_one (v := ?_) (a' := ?_) ?_ ?_ (fun w' hC' hG' => ?_) ?_ ?_); rotate_left 2; (focus rfl); (focus rfl); (focus (obtain ⟨⟨x0, x1, x3⟩, y0⟩ := HX.out w' hC'; clear hC' hG'; go_simp; rfl)); (focus (go_simp; rfl)))
              refine loose_done (fun w5 hC5 hG5 => ?_)
              have HB5 := hidden (HGX.out.of_below hC5)
              clear hC5 hG5 HX r0 r1 r3
              go_wp2_with fail
              go_ret
              exact ⟨retB HE.out.symm, HB5.out⟩
            have e1 : decide (L ≤ s) = false := by simpa using hsL
            have HIN := hidden (show 0 ≤ s ∧ s < L by omega)
            clear hs0 hsL
            by_cases hkz : k = 0
            · subst hkz
              have hm0 : 0 < m := HLT.out
              simp only [Nat.add_zero] at HX
              have HOS := hidden (show okSel L sel 0 = true by unfold okSel; rw [HGS.out]; have := HIN.out; simp; omega)
              go_wp2_with fail
              refine wp_region_loose (tabRs []) (by kernel_rfl) (by kernel_rfl) tabRs_nil ?_
              iterate 20 ((with_reducible refine loose_one (v := ?_) (a' := ?_) ?_ ?_ (fun w' hC' hG' => ?_) ?_ ?_); rotate_left 2; (focus rfl); (focus rfl); (focus (obtain ⟨⟨x0, x1, x3⟩, y0⟩ := HX.out w' hC'; clear hC' hG'; go_simp; rfl)); (focus (go_simp; rfl)))
              iterate 12 ((with_reducible refine loose_skip (a' := ?_) ?_ ?_ ?_); rotate_left 1; (focus rfl); (focus (go_simp; rfl)))
              iterate 2 ((with_reducible refine loose_one (v := ?_) (a' := ?_) ?_ ?_ (fun w' hC' hG' => ?_) ?_ ?_); rotate_left 2; (focus rfl); (focus rfl); (focus (obtain ⟨⟨x0, x1, x3⟩, y0⟩ := HX.out w' hC'; clear hC' hG'; go_simp; rfl)); (focus (go_simp; rfl)))
              refine loose_done (fun w5 hC5 hG5 => ?_)
              have HB5 := hidden (HB.out.of_below hC5)
              clear hC5 hG5 HX r0 r1 r3
              go_wp2_with fail
              go_roundw
              case rel => exact ⟨1, HLT.out, by go_num, by rw [selsB, HOS.out]; rfl, HB5.out⟩
              case measure => have := HLT.out; simp [intOf]; omega
            obtain ⟨j, rfl⟩ : ∃ j, k = j + 1 := ⟨k - 1, by omega⟩
            have hjl : j < sel.length := by rw [HM.out]; have := HLT.out; omega
            rw [← HM.out] at HQ
            obtain ⟨b1, o1, he1, kb⟩ := HQ.out.at_ hjl
            rw [HM.out] at HQ
            injection he1 with he1
            injection he1 with he1 he2
            subst he1 he2
            have eyy : ∃ t : Int, w.cell? ⟨b0, o0 + j, none⟩ = some (.int .i64 t) ∧ sel.getD j 0 = t := ⟨_, kb, by rw [List.getD_eq_getElem?_getD, List.getElem?_eq_getElem hjl]; rfl⟩
            clear kb
            obtain ⟨t, kb, hgt⟩ := eyy
            have HKB := hidden kb
            have HGT := hidden hgt
            have HX2 := hidden (fun X (h : Grows wr X) => And.intro (HX.out X h) (((HGX.out.of_below h).cell (World.block_lt_of_cell? _ _ HKB.out)).trans HKB.out))
            have hj0 : (0 : Int) ≤ (j : Int) := by omega
            have hj1 : (j : Int) < (m : Int) := by have := HLT.out; omega
            have hwj : IntKind.i64.wrap (j : Int) = (j : Int) := by first | go_num | (simp [IntKind.wrap, IntKind.bits, IntKind.signed]; omega)
            clear kb hgt hjl hkz HX
            by_cases hst : s ≤ t
            · have e2 : decide (s ≤ t) = true := by simpa using hst
              have HE := hidden (HNO.out (.inr (.inr (.inr (selsB_no HLT.out (by unfold okSel; rw [HGS.out, Nat.add_sub_cancel, HGT.out]; simp; omega))))))
              clear hst
              go_wp2_with fail
              refine wp_region_loose (tabRs []) (by kernel_rfl) (by kernel_rfl) tabRs_nil ?_
              iterate 34 ((with_reducible refine loose_one (v := ?_) (a' := ?_) ?_ ?_ (fun w' hC' hG' => ?_) ?_ ?_); rotate_left 2; (focus rfl); (focus rfl); (focus (obtain ⟨⟨⟨x0, x1, x3⟩, y0⟩, y1⟩ := HX2.out w' hC'; clear hC' hG'; go_simp; rfl)); (focus (go_simp; rfl)))
              refine loose_done (fun w5 hC5 hG5 => ?_)
              have HB5 := hidden (HGX.out.of_below hC5)
              clear hC5 hG5 HX2 r0 r1 r3
              go_wp2_with fail
              go_ret
              exact ⟨retB HE.out.symm, HB5.out⟩
            · have e2 : decide (s ≤ t) = false := by simpa using hst
              have HOS := hidden (show okSel L sel (j + 1) = true by unfold okSel; rw [HGS.out, Nat.add_sub_cancel, HGT.out]; have := HIN.out; simp; omega)
              clear hst
              go_wp2_with fail
              refine wp_region_loose (tabRs []) (by kernel_rfl) (by kernel_rfl) tabRs_nil ?_
              iterate 34 ((with_reducible refine loose_one (v := ?_) (a' := ?_) ?_ ?_ (fun w' hC' hG' => ?_) ?_ ?_); rotate_left 2; (focus rfl); (focus rfl); (focus (obtain ⟨⟨⟨x0, x1, x3⟩, y0⟩, y1⟩ := HX2.out w' hC'; clear hC' hG'; go_simp; rfl)); (focus (go_simp; rfl)))
              refine loose_done (fun w5 hC5 hG5 => ?_)
              have HB5 := hidden (HB.out.of_below hC5)
              clear hC5 hG5 HX2 r0 r1 r3
              go_wp2_with fail
              go_roundw
              case rel => exact ⟨j + 1 + 1, HLT.out, by go_num, by rw [selsB, HSL.out, HOS.out]; rfl, HB5.out⟩
              case measure => have := HLT.out; simp [intOf]; omega
          · have hke : k = m := by omega
            have hd : decide (k < m) = false := by simpa using hlt
            have HE := hidden (HYES.out HL0.out HAL.out HCA.out (by rw [← hke]; exact HSL.out))
            clear hlt hk hke
            go_wp2_with fail
            go_ret
            exact ⟨retB HE.out.symm, HGX.out⟩
end Go.Proofs.Ytfjhahhkakfhmaa
/-
  Shaken: what the claims of this seat need of this text. No condition.
-/
namespace Go.Proofs.Ytfjhahhkakfhmaa
set_option maxRecDepth 8000
open Go.RowKit
set_option linter.unusedVariables false
set_option linter.unusedSimpArgs false
theorem getD_app_lt {α : Type} {l r : List α} {d : α} {i : Nat} (h : i < l.length) : (l ++ r).getD i d = l.getD i d := by
  rw [List.getD_eq_getElem?_getD, List.getD_eq_getElem?_getD, List.getElem?_append_left h]
theorem getD_app_eq {α : Type} {l : List α} {x d : α} {i : Nat} (h : i = l.length) : (l ++ [x]).getD i d = x := by
  subst h
  rw [List.getD_eq_getElem?_getD, List.getElem?_append_right (Nat.le_refl _)]
  simp
theorem validVB_iff {v : Vec} : validVB v = true ↔ isTypeB v.T = true ∧ v.is.length = nIv v ∧ v.ts.length = nTv v ∧ ∀ i, i < v.ns.length → entryB v i = true := by
  unfold validVB
  rw [Bool.and_eq_true, Bool.and_eq_true, Bool.and_eq_true, decide_eq_true_eq, decide_eq_true_eq, entriesB_iff]
  constructor
  · rintro ⟨⟨h1, h2, h3⟩, h4⟩; exact ⟨h1, h2, h3, h4⟩
  · rintro ⟨h1, h2, h3, h4⟩; exact ⟨⟨h1, h2, h3⟩, h4⟩
theorem isTypeB_iff {T : Int} : isTypeB T = true ↔ T = 0 ∨ T = 1 ∨ T = 2 ∨ T = 3 := by
  unfold isTypeB
  simp only [Bool.and_eq_true, decide_eq_true_eq]
  omega
theorem lens_of {v : Vec} (h2 : v.is.length = nIv v) (h3 : v.ts.length = nTv v) : (v.T = 1 ∨ v.T = 2 → v.is.length = v.ns.length) ∧ (v.T = 3 → v.ts.length = v.ns.length) := by
  refine ⟨fun h => ?_, fun h => ?_⟩
  · rw [h2]; exact if_pos h
  · rw [h3]; exact if_pos h
theorem okAt_of_valid {v : Vec} (h : validVB v = true) : OkAt v := by
  obtain ⟨h1, h2, h3, h4⟩ := validVB_iff.1 h
  obtain ⟨l1, l2⟩ := lens_of h2 h3
  refine ⟨l1, l2, fun i hi => ?_⟩
  rcases isTypeB_iff.1 h1 with h0 | h0 | h0 | h0
  · have := h4 i hi
    unfold entryB at this
    rw [if_pos h0, List.getD_eq_getElem?_getD, List.getElem?_eq_getElem hi] at this
    exact .inl (by simpa using this)
  · exact .inr (.inl h0)
  · exact .inr (.inr (.inl h0))
  · exact .inr (.inr (.inr h0))
def entF (T : Int) (b : Bool) (n : Int) (s : Str) : Bool :=
  if T = 0 then b else if T = 3 then decide (s.length ≤ 4096) && (!b || decide (s = [])) else if T = 1 then decide (n = 0) || (decide (n = 1) && !b) else decide (n = 0) || !b
theorem entryB_eq (v : Vec) (i : Nat) : entryB v i = entF v.T (v.ns.getD i false) (v.is.getD i 0) (v.ts.getD i []) := rfl
theorem toList_empty {t : ByteArray} (h : t.toList.isEmpty = true) : t.data.toList = [] := by
  rw [ByteArray.toList_eq] at h
  simpa using h
theorem bytes_nil17 {t : ByteArray} (h : t.data.toList = []) : t = ⟨#[]⟩ := by
  cases t with
  | mk d => simp at h; rw [h]
theorem ent_ok {T : Int} {y : Val} {n : Int} {s : Str} (h1 : isTypeB T = true) (hf : fitsB y T = true) (hy : validV y.k y.n y.t = true) (hn : T = 1 ∨ T = 2 → n = y.n) (hs : T = 3 → s = y.t.data.toList) : entF T (decide (y.k = 0)) n s = true := by
  obtain ⟨k, m, t⟩ := y
  dsimp only at *
  have hfk : k = 0 ∨ k = T := by
    unfold fitsB at hf
    simpa using hf
  unfold entF
  unfold validV at hy
  rcases isTypeB_iff.1 h1 with h0 | h0 | h0 | h0
  · subst h0
    have : k = 0 := by omega
    simp [this]
  · subst h0
    rw [hn (.inl rfl)]
    rcases hfk with rfl | rfl
    · simp at hy
      simp [hy.1]
    · simp at hy
      rcases hy.1 with h | h <;> simp [h]
  · subst h0
    rw [hn (.inr rfl)]
    rcases hfk with rfl | rfl
    · simp at hy
      simp [hy.1]
    · simp
  · subst h0
    rw [hs rfl]
    rcases hfk with rfl | rfl
    · simp only [if_pos, Bool.and_eq_true] at hy
      have := toList_empty hy.2
      simp [this]
    · simp at hy
      have e : t.size = t.data.size := rfl
      rw [e] at hy
      simp
      exact hy.2
theorem putV_valid {v : Vec} {y : Val} (hv : validVB v = true) (hf : fitsB y v.T = true) (hy : validV y.k y.n y.t = true) : validVB (putV v y) = true := by
  obtain ⟨h1, h2, h3, h4⟩ := validVB_iff.1 hv
  obtain ⟨l1, l2⟩ := lens_of h2 h3
  have eN : (putV v y).ns = v.ns ++ [decide (y.k = 0)] := rfl
  have eI : (putV v y).is = if v.T = 1 ∨ v.T = 2 then v.is ++ [y.n] else v.is := rfl
  have eS : (putV v y).ts = if v.T = 3 then v.ts ++ [y.t.data.toList] else v.ts := rfl
  have eT : (putV v y).T = v.T := rfl
  refine validVB_iff.2 ⟨h1, ?_, ?_, fun i hi => ?_⟩
  · unfold nIv at h2 ⊢
    rw [eI, eN, eT]
    split
    · rename_i h0
      rw [if_pos h0] at h2
      simp [h2]
    · rename_i h0
      rw [if_neg h0] at h2
      exact h2
  · unfold nTv at h3 ⊢
    rw [eS, eN, eT]
    split
    · rename_i h0
      rw [if_pos h0] at h3
      simp [h3]
    · rename_i h0
      rw [if_neg h0] at h3
      exact h3
  · rw [eN, List.length_append, List.length_singleton] at hi
    rw [entryB_eq, eT, eN, eI, eS]
    by_cases hlt : i < v.ns.length
    · have e1 : (v.ns ++ [decide (y.k = 0)]).getD i false = v.ns.getD i false := getD_app_lt hlt
      have e2 : (if v.T = 1 ∨ v.T = 2 then v.is ++ [y.n] else v.is).getD i 0 = v.is.getD i 0 := by
        split
        · rename_i h0; exact getD_app_lt (by rw [l1 h0]; exact hlt)
        · rfl
      have e3 : (if v.T = 3 then v.ts ++ [y.t.data.toList] else v.ts).getD i [] = v.ts.getD i [] := by
        split
        · rename_i h0; exact getD_app_lt (by rw [l2 h0]; exact hlt)
        · rfl
      rw [e1, e2, e3, ← entryB_eq]
      exact h4 i hlt
    · have hie : i = v.ns.length := by omega
      subst hie
      have e1 : (v.ns ++ [decide (y.k = 0)]).getD v.ns.length false = decide (y.k = 0) := getD_app_eq rfl
      rw [e1]
      refine ent_ok h1 hf hy (fun h0 => ?_) (fun h0 => ?_)
      · rw [if_pos h0]; exact getD_app_eq (l1 h0).symm
      · rw [if_pos h0]; exact getD_app_eq (l2 h0).symm
theorem nilV_valid {T : Int} (h : isTypeB T = true) : validVB ⟨T, [], [], []⟩ = true := by
  refine validVB_iff.2 ⟨h, ?_, ?_, fun i hi => by cases hi⟩
  · unfold nIv; split <;> rfl
  · unfold nTv; split <;> rfl
def okL (T : Int) (l : List Val) : Prop := ∀ y ∈ l, fitsB y T = true ∧ validV y.k y.n y.t = true
theorem foldl_valid : ∀ (l : List Val) (v : Vec), validVB v = true → okL v.T l → validVB (l.foldl putV v) = true
  | [], v, h, _ => h
  | y :: l, v, h, hl => foldl_valid l (putV v y) (putV_valid h (hl y (List.mem_cons_self ..)).1 (hl y (List.mem_cons_self ..)).2) (fun z hz => hl z (List.mem_cons_of_mem _ hz))
theorem buildV_valid {T : Int} {l : List Val} (h : isTypeB T = true) (hl : okL T l) : validVB (buildV T l) = true := foldl_valid l _ (nilV_valid h) hl
theorem vec0_valid : validVB vec0 = true := nilV_valid (by decide)
theorem fromV_valid {T : Int} {l : List Val} (hl : validL l = true) : validVB (fromV T l) = true := by
  unfold fromV
  split
  · rename_i h
    split
    · rename_i h2
      exact buildV_valid h (fun y hy => ⟨List.all_eq_true.1 h2 y hy, List.all_eq_true.1 hl y hy⟩)
    · exact vec0_valid
  · exact vec0_valid
end Go.Proofs.Ytfjhahhkakfhmaa
/-
  Shaken: what the claims of this seat need of this text. No condition.
-/
namespace Go.Proofs.Ytfjhahhkakfhmaa
set_option maxRecDepth 8000
open Go.RowKit
set_option linter.unusedVariables false
set_option linter.unusedSimpArgs false
theorem nul_fits (T : Int) : fitsB nulX T = true := by simp [fitsB, nulX]
theorem nul_valid : validV nulX.k nulX.n nulX.t = true := by simp [validV, nulX]
theorem vat_ok {v : Vec} (h : validVB v = true) {i : Nat} (hi : i < v.ns.length) : fitsB (vat v i) v.T = true ∧ validV (vat v i).k (vat v i).n (vat v i).t = true := by
  obtain ⟨h1, h2, h3, h4⟩ := validVB_iff.1 h
  obtain ⟨l1, l2⟩ := lens_of h2 h3
  have he := h4 i hi
  rw [entryB_eq] at he
  unfold vat
  split
  · exact ⟨nul_fits _, nul_valid⟩
  · rename_i hn
    have en : v.ns.getD i false = false := by
      rw [List.getD_eq_getElem?_getD, List.getElem?_eq_getElem hi] at hn ⊢
      simpa using hn
    rw [en] at he
    unfold entF at he
    split
    · rename_i h0
      rw [if_neg (by omega), if_pos h0] at he
      refine ⟨by simp [fitsB, h0], ?_⟩
      simp at he
      simp [validV, strOf_size, he]
    · rename_i h0
      refine ⟨by simp [fitsB], ?_⟩
      rcases isTypeB_iff.1 h1 with h5 | h5 | h5 | h5
      · rw [if_pos h5] at he; cases he
      · rw [if_neg (by omega), if_neg (by omega), if_pos h5] at he
        simp at he
        rw [h5]
        simp [validV]
        exact he
      · rw [h5]; simp [validV]
      · exact absurd h5 h0
theorem atI_ok {v : Vec} (h : validVB v = true) (i : Int) : fitsB (atI v i) v.T = true ∧ validV (atI v i).k (atI v i).n (atI v i).t = true := by
  unfold atI
  split
  · exact vat_ok h (by omega)
  · exact ⟨nul_fits _, nul_valid⟩
theorem okL_vals {v : Vec} (h : validVB v = true) : okL v.T (valsW v) := by
  intro y hy
  simp only [valsW, List.mem_map, List.mem_range] at hy
  obtain ⟨i, hi, rfl⟩ := hy
  exact vat_ok h hi
theorem okL_gather {v : Vec} (h : validVB v = true) (l : List Int) : okL v.T (l.map (atI v)) := by
  intro y hy
  simp only [List.mem_map] at hy
  obtain ⟨i, _, rfl⟩ := hy
  exact atI_ok h i
theorem gatherV_valid {v : Vec} (h : validVB v = true) (l : List Int) : validVB (gatherV v l) = true := buildV_valid (validVB_iff.1 h).1 (okL_gather h l)
theorem getD_take {α : Type} {l : List α} {d : α} {k : Nat} (h : k < l.length) : l.take (k + 1) = l.take k ++ [l.getD k d] := by
  rw [List.take_add_one, List.getElem?_eq_getElem h, List.getD_eq_getElem?_getD, List.getElem?_eq_getElem h]
  rfl
theorem build_take {v : Vec} (h : validVB v = true) : ∀ k, k ≤ v.ns.length → buildV v.T ((List.range k).map (vat v)) = ⟨v.T, if v.T = 1 ∨ v.T = 2 then v.is.take k else [], if v.T = 3 then v.ts.take k else [], v.ns.take k⟩
  | 0, _ => by simp [buildV_nil]
  | k + 1, hk => by
    obtain ⟨h1, h2, h3, h4⟩ := validVB_iff.1 h
    obtain ⟨l1, l2⟩ := lens_of h2 h3
    have hi : k < v.ns.length := by omega
    have he := h4 k hi
    rw [entryB_eq] at he
    rw [List.range_succ, List.map_append, List.map_singleton, buildV_snoc, build_take h k (by omega)]
    have en0 : v.ns.getD k true = v.ns.getD k false := by rw [List.getD_eq_getElem?_getD, List.getD_eq_getElem?_getD, List.getElem?_eq_getElem hi]; rfl
    have hnn : v.ns.take k ++ [decide ((vat v k).k = 0)] = v.ns.take (k + 1) := by
      rw [getD_take (d := false) hi]
      congr 2
      unfold vat
      rw [en0]
      cases hb : v.ns.getD k false
      · rw [if_neg (by simp)]
        rw [hb] at he
        unfold entF at he
        split
        · simp
        · rw [decide_eq_false_iff_not]
          intro h0
          dsimp only at h0
          rw [if_pos h0] at he
          cases he
      · simp [nulX]
    unfold putV
    dsimp only
    congr 1
    · split
      · rename_i h0
        have hki : k < v.is.length := by rw [l1 h0]; exact hi
        rw [getD_take (d := 0) hki]
        congr 2
        unfold vat
        rw [en0]
        cases hb : v.ns.getD k false
        · rw [if_neg (by simp), if_neg (by omega)]
        · rw [if_pos rfl]
          rw [hb] at he
          unfold entF at he
          rw [if_neg (by omega), if_neg (by omega)] at he
          show (0 : Int) = _
          split at he <;> simp at he <;> exact he.symm
      · rfl
    · split
      · rename_i h0
        have hki : k < v.ts.length := by rw [l2 h0]; exact hi
        rw [getD_take (d := []) hki]
        congr 2
        unfold vat
        rw [en0]
        cases hb : v.ns.getD k false
        · rw [if_neg (by simp), if_pos h0]
          simp [strOf]
        · rw [if_pos rfl]
          rw [hb] at he
          unfold entF at he
          rw [if_neg (by omega), if_pos h0] at he
          simp at he
          simp [nulX, he.2]
      · rfl
theorem build_vals {v : Vec} (h : validVB v = true) : buildV v.T (valsW v) = v := by
  obtain ⟨h1, h2, h3, h4⟩ := validVB_iff.1 h
  unfold valsW
  rw [build_take h _ (Nat.le_refl _)]
  obtain ⟨T, is, ts, ns⟩ := v
  unfold nIv nTv at *
  dsimp only at *
  congr 1
  · split
    · rename_i h0
      rw [if_pos h0] at h2
      rw [← h2, List.take_length]
    · rename_i h0
      rw [if_neg h0] at h2
      exact (List.eq_nil_of_length_eq_zero h2).symm
  · split
    · rename_i h0
      rw [if_pos h0] at h3
      rw [← h3, List.take_length]
    · rename_i h0
      rw [if_neg h0] at h3
      exact (List.eq_nil_of_length_eq_zero h3).symm
  · rw [List.take_length]
theorem vat_put_lt {v : Vec} {y : Val} (h : validVB v = true) {i : Nat} (hi : i < v.ns.length) : vat (putV v y) i = vat v i := by
  obtain ⟨h1, h2, h3, h4⟩ := validVB_iff.1 h
  obtain ⟨l1, l2⟩ := lens_of h2 h3
  have e1 : (putV v y).ns.getD i true = v.ns.getD i true := getD_app_lt hi
  have e2 : (putV v y).is.getD i 0 = v.is.getD i 0 := by
    show (if v.T = 1 ∨ v.T = 2 then v.is ++ [y.n] else v.is).getD i 0 = _
    split
    · rename_i h0; exact getD_app_lt (by rw [l1 h0]; exact hi)
    · rfl
  have e3 : (putV v y).ts.getD i [] = v.ts.getD i [] := by
    show (if v.T = 3 then v.ts ++ [y.t.data.toList] else v.ts).getD i [] = _
    split
    · rename_i h0; exact getD_app_lt (by rw [l2 h0]; exact hi)
    · rfl
  unfold vat
  rw [e1, e2, e3]
  rfl
theorem vat_put_eq {v : Vec} {y : Val} (h : validVB v = true) (hf : fitsB y v.T = true) (hy : validV y.k y.n y.t = true) : vat (putV v y) v.ns.length = y := by
  obtain ⟨h1, h2, h3, h4⟩ := validVB_iff.1 h
  obtain ⟨l1, l2⟩ := lens_of h2 h3
  obtain ⟨k, n, t⟩ := y
  have hfk : k = 0 ∨ k = v.T := by
    unfold fitsB at hf
    simpa using hf
  have e1 : (putV v ⟨k, n, t⟩).ns.getD v.ns.length true = decide (k = 0) := getD_app_eq rfl
  have eT : (putV v ⟨k, n, t⟩).T = v.T := rfl
  unfold vat
  rw [e1, eT]
  dsimp only at hy
  unfold validV at hy
  by_cases h0 : k = 0
  · subst h0
    rw [if_pos (by simp)]
    rw [if_pos rfl] at hy
    simp only [Bool.and_eq_true, beq_iff_eq] at hy
    obtain ⟨rfl, ht⟩ := hy
    rw [bytes_nil17 (toList_empty ht)]
    rfl
  · rw [if_neg (by simp [h0])]
    have hkT : k = v.T := by omega
    subst hkT
    rw [if_neg h0] at hy
    by_cases h5 : v.T = 3
    · rw [if_pos h5]
      have e3 : (putV v ⟨v.T, n, t⟩).ts.getD v.ns.length [] = t.data.toList := by
        show (if v.T = 3 then v.ts ++ [t.data.toList] else v.ts).getD v.ns.length [] = _
        rw [if_pos h5]
        exact getD_app_eq (l2 h5).symm
      rw [e3, strOf_toList]
      rw [if_neg (by omega), if_neg (by omega), if_pos h5] at hy
      simp only [Bool.and_eq_true, beq_iff_eq] at hy
      rw [h5, hy.1]
    · rw [if_neg h5]
      have h12 : v.T = 1 ∨ v.T = 2 := by rcases isTypeB_iff.1 h1 with h | h | h | h <;> omega
      have e2 : (putV v ⟨v.T, n, t⟩).is.getD v.ns.length 0 = n := by
        show (if v.T = 1 ∨ v.T = 2 then v.is ++ [n] else v.is).getD v.ns.length 0 = _
        rw [if_pos h12]
        exact getD_app_eq (l1 h12).symm
      rw [e2]
      have ht : t.toList.isEmpty = true := by
        rcases h12 with h | h
        · rw [if_pos h] at hy
          simp only [Bool.and_eq_true] at hy
          exact hy.2
        · rw [if_neg (by omega), if_pos h] at hy
          exact hy
      rw [bytes_nil17 (toList_empty ht)]
theorem vals_put {v : Vec} {y : Val} (h : validVB v = true) (hf : fitsB y v.T = true) (hy : validV y.k y.n y.t = true) : valsW (putV v y) = valsW v ++ [y] := by
  unfold valsW
  have e : (putV v y).ns.length = v.ns.length + 1 := by simp [putV]
  rw [e, List.range_succ, List.map_append, List.map_singleton, vat_put_eq h hf hy]
  congr 1
  exact List.map_congr_left (fun i hi => vat_put_lt h (List.mem_range.1 hi))
theorem vals_fold : ∀ (l : List Val) (v : Vec), validVB v = true → okL v.T l → valsW (l.foldl putV v) = valsW v ++ l
  | [], v, _, _ => by simp
  | y :: l, v, h, hl => by
    have h1 := (hl y (List.mem_cons_self ..)).1
    have h2 := (hl y (List.mem_cons_self ..)).2
    rw [List.foldl_cons, vals_fold l (putV v y) (putV_valid h h1 h2) (fun z hz => hl z (List.mem_cons_of_mem _ hz)), vals_put h h1 h2, List.append_assoc]
    rfl
theorem vals_build {T : Int} {l : List Val} (h : isTypeB T = true) (hl : okL T l) : valsW (buildV T l) = l := by
  unfold buildV
  rw [vals_fold l _ (nilV_valid h) hl]
  rfl
theorem vat_build {T : Int} {l : List Val} (h : isTypeB T = true) (hl : okL T l) {i : Nat} (hi : i < l.length) : vat (buildV T l) i = l[i] := by
  have e := vals_build h hl
  have h1 : (valsW (buildV T l))[i]? = some (l[i]) := by rw [e]; exact List.getElem?_eq_getElem hi
  unfold valsW at h1
  rw [List.getElem?_map, List.getElem?_range (by rw [(buildV_len T l).1]; exact hi)] at h1
  exact Option.some.inj h1
def compI (a : List Int) (i : Int) : Int := if 0 ≤ i ∧ i < (a.length : Int) then a.getD i.toNat 0 else -1
theorem gather_gather {v : Vec} (h : validVB v = true) (a b : List Int) : gatherV (gatherV v a) b = gatherV v (b.map (compI a)) := by
  have e1 : (gatherV v a).T = v.T := buildV_T _ _
  unfold gatherV at *
  rw [e1, List.map_map]
  congr 1
  refine List.map_congr_left (fun i _ => ?_)
  show atI (buildV v.T (a.map (atI v))) i = atI v (compI a i)
  have hok := okL_gather h a
  have hT := (validVB_iff.1 h).1
  unfold compI
  by_cases hi : 0 ≤ i ∧ i < (a.length : Int)
  · rw [if_pos hi]
    have hl : i.toNat < (a.map (atI v)).length := by rw [List.length_map]; omega
    have ha : i.toNat < a.length := by omega
    have e2 : atI (buildV v.T (a.map (atI v))) i = vat (buildV v.T (a.map (atI v))) i.toNat :=
      if_pos (c := 0 ≤ i ∧ i < ((buildV v.T (a.map (atI v))).ns.length : Int)) ⟨hi.1, by rw [(buildV_len v.T (a.map (atI v))).1, List.length_map]; exact hi.2⟩
    rw [e2, vat_build hT hok hl, List.getElem_map, List.getD_eq_getElem?_getD, List.getElem?_eq_getElem ha]
    rfl
  · rw [if_neg hi]
    exact (if_neg (c := 0 ≤ i ∧ i < ((buildV v.T (a.map (atI v))).ns.length : Int)) (by rw [(buildV_len v.T (a.map (atI v))).1, List.length_map]; exact hi)).trans (if_neg (c := 0 ≤ (-1 : Int) ∧ (-1 : Int) < (v.ns.length : Int)) (by omega)).symm
end Go.Proofs.Ytfjhahhkakfhmaa
/-
  Shaken: what the claims of this seat need of this text. No condition.
-/
namespace Go.Proofs.Ytfjhahhkakfhmaa
set_option maxRecDepth 8000
open Go.RowKit
set_option linter.unusedVariables false
set_option linter.unusedSimpArgs false
def VecIR (v : Vec) (c : Int) (w : World) (e : Ending) (w' : World) : Prop := ∃ x, e = .returned (.tuple #[x, .int .i64 c]) ∧ IsV w' x v ∧ Grows w w'
def VecI (v : Vec) (w : World) (e : Ending) (w' : World) : Prop := ∃ x, e = .returned x ∧ IsV w' x v ∧ Grows w w'
def ValsI (l : List Val) (w : World) (e : Ending) (w' : World) : Prop := ∃ u, e = .returned u ∧ ReadsV w' u l ∧ Grows w w'
def IntsI (l : List Int) (w : World) (e : Ending) (w' : World) : Prop := ∃ u, e = .returned u ∧ IsI w' u l ∧ Grows w w'
def RowsI (ls : List (List Val)) (w : World) (e : Ending) (w' : World) : Prop := ∃ u, e = .returned u ∧ IsRs w' u ls ∧ Grows w w'
def BatI (B : Bat) (w : World) (e : Ending) (w' : World) : Prop := ∃ x, e = .returned x ∧ IsB w' x B ∧ Grows w w'
def BatIR (B : Bat) (c : Int) (w : World) (e : Ending) (w' : World) : Prop := ∃ x, e = .returned (.tuple #[x, .int .i64 c]) ∧ IsB w' x B ∧ Grows w w'
def BatsIR (l : List Bat) (c : Int) (w : World) (e : Ending) (w' : World) : Prop := ∃ x, e = .returned (.tuple #[x, .int .i64 c]) ∧ IsBs w' x l ∧ Grows w w'
def batR (Ts : List Int) (rs : List (List Val)) : Bat := ⟨(List.range Ts.length).map (fun j => buildV (Ts.getD j 0) (rs.map (fun r => r.getD j nulX))), rs.length, true, []⟩
def fitR (Ts : List Int) (rs : List (List Val)) : Prop := (∀ T ∈ Ts, isTypeB T = true) ∧ ∀ r ∈ rs, r.length = Ts.length ∧ validL r = true ∧ ∀ j, j < Ts.length → fitsB (r.getD j nulX) (Ts.getD j 0) = true
def flatB (B : Bat) : Bat := batR (typesB B) (rowsB B)
def piecesF (size : Nat) : Nat → List (List Val) → List (List (List Val))
  | 0, _ => []
  | f + 1, rs => if rs = [] then [] else rs.take size :: piecesF size f (rs.drop size)
def splitB (Ts : List Int) (rs : List (List Val)) (size : Nat) : List Bat := (piecesF size rs.length rs).map (batR Ts)
structure Pack : Prop where
  from_ : ∀ (u : Value) (l : List Val) (T : Int) (w : World), ReadsV w u l → l.length ≤ 1000 → validL l = true → frIn T → Calls Try.prog 11 #[.int .i64 T, u] w (VecIR (fromV T l) (fromE T l) w)
  at_ : ∀ (x : Value) (v : Vec) (i : Int) (w : World), IsV w x v → validVB v = true → v.ns.length ≤ 1000 → frIn i → Calls Try.prog 14 #[x, .int .i64 i] w (VaR (atI v i) w)
  values : ∀ (x : Value) (v : Vec) (w : World), IsV w x v → validVB v = true → v.ns.length ≤ 1000 → Calls Try.prog 17 #[x] w (ValsI (valsW v) w)
  valid : ∀ (x : Value) (v : Vec) (w : World), IsV w x v → FitLen v → frIn v.T → Calls Try.prog 19 #[x] w fun e w' => e = .returned (.bool (validVB v)) ∧ Grows w w'
  validB : ∀ (x : Value) (B : Bat) (w : World), IsB w x B → FitB B → frIn B.len → (∀ v ∈ B.cs, frIn v.T) → (∀ i ∈ B.sel, frIn i) → Calls Try.prog 21 #[x] w fun e w' => e = .returned (.bool (validBB B)) ∧ Grows w w'
  gather : ∀ (x : Value) (v : Vec) (u : Value) (l : List Int) (w : World), IsV w x v → validVB v = true → v.ns.length ≤ 1000 → IsI w u l → l.length ≤ 1000 → (∀ i ∈ l, frIn i) → Calls Try.prog 24 #[x, u] w (VecI (gatherV v l) w)
  const : ∀ (T : Int) (y : Val) (n : Int) (w : World), validV y.k y.n y.t = true → frIn T → -9223372036854775808 ≤ n → n ≤ 1000 → Calls Try.prog 26 #[.int .i64 T, vV y, .int .i64 n] w (VecI (constVec T y n) w)
  concat : ∀ (u : Value) (l : List Vec) (w : World), IsVs w u l → l.length ≤ 100 → (∀ x ∈ l, validVB x = true ∧ x.ns.length ≤ 1000) → Calls Try.prog 28 #[u] w (VecIR (catV l) (catE l) w)
  rows : ∀ (x : Value) (B : Bat) (w : World), IsB w x B → validBB B = true → B.cs.length ≤ 100 → B.len ≤ 1000 → Calls Try.prog 31 #[x] w (RowsI (rowsB B) w)
  types : ∀ (x : Value) (B : Bat) (w : World), IsB w x B → validBB B = true → B.cs.length ≤ 100 → B.len ≤ 1000 → Calls Try.prog 34 #[x] w (IntsI (typesB B) w)
  flatten : ∀ (x : Value) (B : Bat) (w : World), IsB w x B → validBB B = true → B.cs.length ≤ 100 → B.len ≤ 1000 → Calls Try.prog 37 #[x] w (BatI (flatB B) w)
  allrows : ∀ (u : Value) (l : List Bat) (w : World), IsBs w u l → l.length ≤ 1000 → (∀ B ∈ l, validBB B = true ∧ B.cs.length ≤ 100 ∧ B.len ≤ 1000) → Calls Try.prog 39 #[u] w (RowsI (allRowsB l) w)
  fromRows : ∀ (u : Value) (Ts : List Int) (v : Value) (rs : List (List Val)) (w : World), IsI w u Ts → IsRs w v rs → fitR Ts rs → Ts.length ≤ 100 → rs.length ≤ 1000 → Calls Try.prog 41 #[u, v] w (BatIR (batR Ts rs) 0 w)
  split : ∀ (u : Value) (Ts : List Int) (v : Value) (rs : List (List Val)) (size : Nat) (w : World), IsI w u Ts → IsRs w v rs → fitR Ts rs → Ts.length ≤ 100 → rs.length ≤ 1000 → 1 ≤ size → size ≤ 1024 → Calls Try.prog 42 #[u, v, .int .i64 (size : Int)] w (BatsIR (splitB Ts rs size) 0 w)
end Go.Proofs.Ytfjhahhkakfhmaa
