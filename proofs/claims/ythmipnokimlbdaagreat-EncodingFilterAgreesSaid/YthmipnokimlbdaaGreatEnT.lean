/-
  Shaken: what the claims of this seat need of this text. No condition.
-/
import Derived.Test.YthmipnokimlbdaaGreatM24
import Derived.Test.YthmipnokimlbdaaGreatLooseX
namespace Go.Proofs.YthmipnokimlbdaaGreat
set_option maxRecDepth 8000
open Go.RowKit
set_option linter.unusedVariables false
set_option linter.unusedSimpArgs false
theorem cell_row {w : World} {b k : Nat} {u : Value} (h : w.cell? ⟨b, k, none⟩ = some u) : ∃ cs t m, w.heap[b]? = some (.cells cs t m) ∧ cs[k]? = some u := by
  unfold World.cell? at h
  split at h
  · rename_i cs t m hb
    exact ⟨cs, t, m, hb, by simpa using h⟩
  · cases h
def TurnB (B : Nat) (n : Int) (ws : List UInt64) (w w' : World) : Prop :=
  Below B w w' ∧ ∀ g cs t m, w.heap[g]? = some (.cells cs t m) → w'.heap[g]? = some (.cells cs t m) ∨
    (B ≤ g ∧ t = 54 ∧ (∃ a A k c, cs = #[.int .i64 a, .slice A k c]) ∧ ∃ A c, w'.heap[g]? = some (.cells #[.int .i64 n, .slice A ws.length c] t m) ∧ Reads w' (.slice A ws.length c) (ucells ws))
theorem TurnB.re (B : Nat) (n : Int) (ws : List UInt64) (w : World) : TurnB B n ws w w := ⟨Below.refl _ _, fun _ _ _ _ h => .inl h⟩
theorem TurnB.words {B : Nat} {n : Int} {ws : List UInt64} {w w' : World} (h : TurnB B n ws w w') {v : Value} {l : List UInt64} (hr : Reads w v (ucells l)) : Reads w' v (ucells l) := by
  obtain ⟨A, d, he, hle, hcell⟩ := hr
  refine ⟨A, d, he, hle, fun hl => ?_⟩
  obtain ⟨q, off, hA, hq⟩ := hcell hl
  refine ⟨q, off, hA, fun j hj => ?_⟩
  have hj1 := hq j hj
  have hjl : j < l.length := by rw [ucells_length] at hj; exact hj
  rw [ucells_get hjl] at hj1 ⊢
  obtain ⟨cs, t, m, hb, hk⟩ := cell_row hj1
  rcases h.2 q cs t m hb with h1 | ⟨_, _, ⟨a, A', k, c, rfl⟩, _⟩
  · rw [cell_of_row _ _ _ _ _ _ h1]; exact hk
  · match off + j, hk with
    | 0, hk => simp at hk
    | 1, hk => simp at hk
    | i + 2, hk => simp at hk
theorem TurnB.tr {B : Nat} {n : Int} {ws : List UInt64} {a b c : World} (h : TurnB B n ws a b) (k : TurnB B n ws b c) : TurnB B n ws a c := by
  refine ⟨h.1.trans k.1, fun g cs t m hg => ?_⟩
  rcases h.2 g cs t m hg with h1 | ⟨h1, h2, h3, A, d, h4, h5⟩
  · exact k.2 g cs t m h1
  · rcases k.2 g _ t m h4 with k1 | ⟨_, _, _, A', d', k4, k5⟩
    · exact .inr ⟨h1, h2, h3, A, d, k1, k.words h5⟩
    · exact .inr ⟨h1, h2, h3, A', d', k4, k5⟩
theorem TurnB.grows {B : Nat} {n : Int} {ws : List UInt64} {w w' : World} (hB : B ≤ w.heap.size) (h : Grows w w') : TurnB B n ws w w' := by
  refine ⟨h.mono hB, fun g cs t m hg => .inl ?_⟩
  rw [h.block g (Array.getElem?_eq_some_iff.1 hg).1]
  exact hg
theorem TurnB.dr (B : Nat) (n : Int) (ws : List UInt64) (w : World) : TurnB B n ws w { w with drawn := w.drawn + 1 } := ⟨⟨rfl, rfl, rfl, Nat.le_refl _, fun _ _ => rfl⟩, fun _ _ _ _ h => .inl h⟩
abbrev turnSte (B : Nat) (n : Int) (ws : List UInt64) : SteQ := ⟨TurnB B n ws, TurnB.re B n ws, TurnB.tr, TurnB.dr B n ws⟩
def RightB (H : Nat) (g : Nat) (n : Int) (ws : List UInt64) (w : World) : Prop := ∃ A c, Row w g 54 [.int .i64 n, .slice A ws.length c] ∧ Reads w (.slice A ws.length c) (ucells ws)
theorem RightB.lasts {B H g : Nat} {n : Int} {ws : List UInt64} {w w' : World} (h : RightB H g n ws w) (k : TurnB B n ws w w') : RightB H g n ws w' := by
  obtain ⟨A, c, h1, h2⟩ := h
  rcases k.2 g _ _ _ h1 with k1 | ⟨_, _, _, A', c', k1, k2⟩
  · exact ⟨A, c, k1, k.words h2⟩
  · exact ⟨A', c', k1, k2⟩
def FormB (H : Nat) : Value → World → Prop := fun v w => ∃ b a A k c, v = .pointer (some ⟨b, 0, none⟩) ∧ H ≤ b ∧ Row w b 54 [.int .i64 a, .slice A k c]
theorem FormB.lasts {B H : Nat} {n : Int} {ws : List UInt64} : ∀ v w w', FormB H v w → TurnB B n ws w w' → FormB H v w' := fun v w w' ⟨b, a, A, k, c, h1, h2, h3⟩ ht => by
  rcases ht.2 b _ _ _ h3 with k1 | ⟨_, _, _, A', c', k1, _⟩
  · exact ⟨b, a, A, k, c, h1, h2, k1⟩
  · exact ⟨b, n, A', ws.length, c', h1, h2, k1⟩
theorem TurnB.store {B g : Nat} {n : Int} {ws : List UInt64} {w : World} {a : Int} {A A' : Option Addr} {k c c' : Nat} (hB : B ≤ g) (h : Row w g 54 [.int .i64 a, .slice A k c]) (hr : Reads w (.slice A' ws.length c') (ucells ws)) :
    TurnB B n ws w (w.setRow g #[.int .i64 n, .slice A' ws.length c']) := by
  have hr' : Reads (w.setRow g #[.int .i64 n, .slice A' ws.length c']) (.slice A' ws.length c') (ucells ws) := by
    obtain ⟨A1, d, he, hle, hcell⟩ := hr
    refine ⟨A1, d, he, hle, fun hl => ?_⟩
    obtain ⟨q, off, hA, hq⟩ := hcell hl
    refine ⟨q, off, hA, fun j hj => ?_⟩
    have hj1 := hq j hj
    have hjl : j < ws.length := by rw [ucells_length] at hj; exact hj
    rw [ucells_get hjl] at hj1
    have hne : q ≠ g := by
      rintro rfl
      rw [h.cell (off + j)] at hj1
      match off + j, hj1 with
      | 0, hj1 => simp at hj1
      | 1, hj1 => simp at hj1
      | i + 2, hj1 => simp at hj1
    rw [ucells_get hjl, ← hj1]
    exact World.cell?_of_block (setRow_other w g q _ hne)
  refine ⟨below_setRow (Below.refl _ _) hB _, fun b cs t m hb => ?_⟩
  by_cases hbg : b = g
  · subst hbg
    have h0 : w.heap[b]? = some (.cells #[.int .i64 a, .slice A k c] 54 (0, 0)) := h
    rw [h0] at hb
    injection hb with hb
    injection hb with e1 e2 e3
    subst e1 e2 e3
    exact .inr ⟨hB, rfl, ⟨a, A, k, c, rfl⟩, A', c', setRow_heap w b _ _ _ _ h0, hr'⟩
  · exact .inl ((setRow_other w g b _ hbg).trans hb)
theorem store_run_bs {o : Oper} {a : Act} {w : World} (x y : Operand) (ho : o.op = .store 54 x y) (g : Nat) (n : Int) (A : Option Addr) (k c : Nat) (hx : a.eval x = .pointer (some ⟨g, 0, none⟩)) (hy : a.eval y = .agg #[.int .i64 n, .slice A k c])
    {a0 : Int} {A0 : Option Addr} {k0 c0 : Nat} (hr : Row w g 54 [.int .i64 a0, .slice A0 k0 c0]) : (execOp a.eval o).run Tryz.prog w = .ok .skip (w.setRow g #[.int .i64 n, .slice A k c]) := by
  unfold execOp
  simp only [ho, hx, hy, Instr.storeAt, Instr.sureAddr, Sem.run_bind, Sem.run_pure, Result.andThen_ok, run_storeVar_row (P := Tryz.prog) w g _ 54 _ #[.int .i64 n, .slice A k c] hr size_set rfl (by simp [Value.oneCell'])]
def tabX : List (Nat × (Value → Value → World → Prop)) → LooseX
  | [], _ => none
  | (j, R) :: L, i => if i = j then some R else tabX L i
theorem tabX_nil [SteQ] : (tabX []).lastsX := fun _ _ h => by cases h
theorem tabX_cons [SteQ] {j : Nat} {R : Value → Value → World → Prop} {L : List (Nat × (Value → Value → World → Prop))} (h : ∀ s v w w', R s v w → SteQ.T w w' → R s v w') (hL : (tabX L).lastsX) : (tabX ((j, R) :: L)).lastsX := fun i R' hR => by
  unfold tabX at hR
  split at hR
  · injection hR with hR; subst hR; exact h
  · exact hL i R' hR
end Go.Proofs.YthmipnokimlbdaaGreat
