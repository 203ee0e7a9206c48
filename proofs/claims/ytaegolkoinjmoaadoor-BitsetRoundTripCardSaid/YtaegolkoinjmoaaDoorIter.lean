/-
  An iterator that ranges over another iterator inside: what it says ('IterAll') and what a range over it owes ('wpIn_rangeAll'). The body of such a range goes on after every round; it keeps all blocks below H but B, all that is no row of cells, and all rows of one cell. No condition.
-/
import Derived.Test.YtaegolkoinjmoaaDoorBkBase
namespace Go.Proofs.YtaegolkoinjmoaaDoor
open Go.RowKit Go.Shelf

theorem depth_wide : Fence.wide.depth = none := rfl
theorem round_wide : Fence.wide.round = none := rfl
theorem room_free {F : Fence} (hd : F.depth = none) (k : Nat) : F.room k := fun d h => by rw [hd] at h; cases h
/-- a round at the wide fence is a round at any depth -/
theorem yield_any (m' : Nat) {m : Nat} {P : Program} {l : Nat} {args : Array Value} {W : World} {R : Ending → World → Prop} (h : YieldAt Fence.wide m P l args W R) : YieldAt Fence.wide m' P l args W R := by
  obtain ⟨fn, tmps, assign, body, hy, hR⟩ := h
  exact ⟨fn, tmps, assign, body, hy, ⟨hR.1, fun c cs _ => hR.2 c cs (room_free depth_wide _)⟩⟩

/-- rows of one cell from block s on lie as they lay -/
def Ones (s : Nat) (W W' : World) : Prop := ∀ k v t, s ≤ k → W.heap[k]? = some (.cells #[v] t (0, 0)) → W'.heap[k]? = some (.cells #[v] t (0, 0))
theorem Ones.refl (s : Nat) (W : World) : Ones s W W := fun _ _ _ _ h => h
theorem Ones.trans {s : Nat} {A B C : World} (h : Ones s A B) (k : Ones s B C) : Ones s A C := fun i v t hi hc => k i v t hi (h i v t hi hc)
theorem Ones.weak {s s' : Nat} {A B : World} (h : Ones s A B) (hs : s ≤ s') : Ones s' A B := fun i v t hi hc => h i v t (Nat.le_trans hs hi) hc
theorem Ones.putObj {s : Nat} {W : World} {l : Nat} {o : Obj} (o' : Obj) (hl : W.heap[l]? = some o) (hc : o.isCells = false) : Ones s W (W.putObj l o') := fun k v t _ h => by
  have e : k ≠ l := fun e => by subst e; rw [hl] at h; cases h; cases hc
  exact (World.putObj_heap_other e).trans h
theorem Ones.setCell {s : Nat} {W : World} {B : Nat} (hB : B < s) (v : Value) : Ones s W (W.setCell ⟨B, 0, none⟩ v) := fun k u t hk h => by
  exact (Below.heap_setCell _ _ _ _ (by show k ≠ B; omega)).trans h

/-- what a round keeps -/
structure Keeps (H B s : Nat) (W W' : World) : Prop where
  but : BelowBut H B W W'
  others : ∀ (k : Nat) (o : Obj), s ≤ k → W.heap[k]? = some o → o.isCells = false → W'.heap[k]? = some o
  ones : Ones s W W'
theorem Keeps.box {H B s : Nat} {W W' : World} (h : Keeps H B s W W') {k : Nat} {t : TypeId} {v : Value} (hk : s ≤ k) (hb : Boxed W k t v) : Boxed W' k t v := h.ones k v t hk hb

/-- the value hands over xs, all of it, where each round goes on -/
def IterAll (P : Program) (gf : Nat) (lb : Array Value) (xs : List Nat) (N H B : Nat) (w : World) : Prop :=
  ∀ (n l : Nat) (J : List Nat → World → Prop) (W : World), Below w.heap.size w W → OwnFrom W.heap.size J →
    (∀ (pre : List Nat) (x : Nat) W1, J pre W1 → pre.length < N → YieldAt Fence.wide n P l #[.int .i64 (x : Int)] W1 fun e W' => e = .returned (.bool true) ∧ J (pre ++ [x]) W' ∧ Keeps H B W.heap.size W1 W') →
    J [] W → CallsIn Fence.wide n P gf (#[.func (.yield l) #[] #[]] ++ lb) W fun e W' => (∃ v, e = .returned v) ∧ J xs W'

/-- how a round's body may be left -/
def onPost (H B s : Nat) (I : List Nat → World → Prop) (xs : List Nat) (W : World) (e : Exit) (_ : Act) (W' : World) : Prop :=
  e = .normal ∧ KeepsFrom s W W' ∧ BelowBut H B W W' ∧ Ones s W W' ∧ I xs W'

theorem BelowBut.putObj {H B : Nat} (W : World) {l : Nat} (hl : H ≤ l) (o' : Obj) : BelowBut H B W (W.putObj l o') :=
  ⟨rfl, rfl, rfl, by simp, fun k hk _ => World.putObj_heap_other (by omega)⟩

/-- a range over such a value -/
theorem wpIn_rangeAll {P : Program} {n : Nat} {g : Operand} {ps : Array Tmp} {assign body : Code} {Q : Exit → Act → World → Prop} {a : Act} {w : World} {gf : Nat} {lb : Array Value} {xs : List Nat} {N H B : Nat} {w0 : World}
    (hg : a.eval g = .func (.func gf) #[] lb) (eg : ∀ args w, (callFunc gf args).run P w = .ok (.enter gf args) w) (hit : IterAll P gf lb xs N H B w0) (hb0 : Below w0.heap.size w0 w) (hH : H ≤ w.heap.size) (hps : ps.size = 1)
    (I : List Nat → World → Prop) (hI : OwnFrom w.heap.size I) (h0 : I [] w) (a₁ : Nat → Act)
    (hassign : ∀ (l x : Nat) (W : World) (K : Act → World → Prop), K (a₁ x) W →
      assign.wpIn (Fence.wide.inRound l) n P (Exit.then K (fun _ _ _ => False)) { tmps := (ps.zip #[Value.int .i64 (x : Int)]).foldl (fun t (p, v) => t.setIfInBounds p v) a.tmps, defers := [] } W)
    (hbody : ∀ (l : Nat) (pre : List Nat) (x : Nat) (W : World), I pre W → pre.length < N → body.wpIn (Fence.wide.inRound l) n P (onPost H B w.heap.size I (pre ++ [x]) W) (a₁ x) W)
    (hdone : ∀ (D : Nat) (W : World), w.heap.size ≤ D → I xs W → W.heap[D]? = some (.deferred (some [])) → Q .normal { a with defers := { target := .collected D, args := #[] } :: a.defers } W) :
    (Code.rangeFunc g ps assign body).wpIn Fence.wide n P Q a w := by
  refine wpIn_rangeFunc fun fn hfn => ?_
  obtain ⟨r, hr⟩ : ∃ r : LoopState → Loop, r = fun st => { state := st, pending := none, fn, tmps := a.tmps, params := ps, assign, body, defers := w.heap.size } := ⟨_, rfl⟩
  have hrr : ∀ st, r st = { state := st, pending := none, fn, tmps := a.tmps, params := ps, assign, body, defers := w.heap.size } := fun st => by rw [hr]
  obtain ⟨W1, hW1⟩ : ∃ W1, W1 = (w.alloc (.deferred (some []))).alloc (.loop (r .ready)) := ⟨_, rfl⟩
  have hsz : W1.heap.size = w.heap.size + 2 := by rw [hW1]; simp
  have hl1 : W1.heap[w.heap.size + 1]? = some (.loop (r .ready)) := by
    rw [hW1]
    have h := World.alloc_heap_new (w.alloc (.deferred (some []))) (.loop (r .ready))
    rwa [World.size_alloc] at h
  have hd1 : W1.heap[w.heap.size]? = some (.deferred (some [])) := by
    rw [hW1]; exact (Below.heap_alloc _ _ _ (by simp)).trans (World.alloc_heap_new w _)
  have hi1 : I [] W1 := by rw [hW1]; exact hI.alloc _ (hI.alloc _ h0)
  have hb1 : Below w0.heap.size w0 W1 := by
    rw [hW1]; exact hb0.trans ((((Below.refl _ w).alloc (Nat.le_refl _) _).alloc (by simp) _).mono hb0.size)
  refine ⟨w.heap.size + 1, [{ target := .collected w.heap.size, args := #[] }], W1, { target := .fn (.func gf) lb, args := #[.func (.yield (w.heap.size + 1)) #[] #[]] }, W1, gf,
    #[.func (.yield (w.heap.size + 1)) #[] #[]] ++ lb, W1, ?_, ?_, fun _ _ => trivial, ?_, (fun h => by cases h), ?_⟩
  · rw [hW1, hrr]; exact run_enterLoop_outer _ _ _ _ _
  · simp only [resolve, hg]
    simp [go_sem]
  · simp [invoke, go_sem, eg]
  · refine (hit (n - 1) (w.heap.size + 1) (fun pre W => I pre W ∧ W.heap[w.heap.size + 1]? = some (.loop (r .ready)) ∧ W.heap[w.heap.size]? = some (.deferred (some []))) W1 hb1 ?_ ?_ ⟨hi1, hl1, hd1⟩).mono ?_
    · rintro s X Y row ⟨h1, h2, h3⟩ hg' hrow
      have ne : ∀ k, k < W1.heap.size → some k ≠ row := fun k hk e => by have := (hrow k e.symm).1; omega
      refine ⟨hI s X Y row h1 hg' fun k e => ⟨by have := (hrow k e).1; omega, (hrow k e).2⟩, ?_, ?_⟩
      · exact (hg'.block _ (Array.getElem?_eq_some_iff.1 h2).1 (ne _ (by omega))).trans h2
      · exact (hg'.block _ (Array.getElem?_eq_some_iff.1 h3).1 (ne _ (by omega))).trans h3
    · rintro pre x W ⟨hi, hl, hd⟩ hlen
      have hy := run_yield (P := P) (args := #[Value.int .i64 (x : Int)]) hl (by rw [hrr]; simp [hps])
      rw [hrr] at hy
      refine yield_any (n - 1) (m := n) ⟨fn, _, assign, body, hy, roundIn_of_wpIn hfn (hassign _ x W _ ⟨_, run_beginRound hl (by rw [hrr]), ?_⟩)⟩
      clear hy
      have hlt : w.heap.size + 1 < W.heap.size := (Array.getElem?_eq_some_iff.1 hl).1
      obtain ⟨W2, hW2⟩ : ∃ W2, W2 = W.putObj (w.heap.size + 1) (.loop { r .ready with state := .busy }) := ⟨_, rfl⟩
      have hl2 : W2.heap[w.heap.size + 1]? = some (.loop { r .ready with state := .busy }) := by rw [hW2]; exact World.putObj_heap_same hlt
      have hd2 : W2.heap[w.heap.size]? = some (.deferred (some [])) := by rw [hW2]; exact (World.putObj_heap_other (by omega)).trans hd
      have hi2 : I pre W2 := by rw [hW2]; exact hI.putObj _ hi (by omega) hl rfl
      rw [← hW2]
      refine wpIn_mono (hbody _ pre x W2 hi2 hlen) ?_
      rintro e a3 W3 ⟨rfl, hk, hbb, ho, hi3⟩
      have hl3 := hk.same _ _ (by omega) hl2 rfl
      have hd3 := hk.same _ _ (Nat.le_refl _) hd2 rfl
      have hend := run_endRound (P := P) none hl3
      refine ⟨_, _, hend, rfl, ⟨hI.putObj _ hi3 (by omega) hl3 rfl, ?_, (World.putObj_heap_other (by omega)).trans hd3⟩, ?_, ?_, ?_⟩
      · rw [World.putObj_heap_same (Array.getElem?_eq_some_iff.1 hl3).1]
        simp only [hrr]
        rfl
      · rw [hW2] at hbb
        exact ((BelowBut.putObj W (by omega) _).trans hbb).trans (BelowBut.putObj W3 (by omega) _)
      · intro k o hk1 hk2 hc
        have hne : k ≠ w.heap.size + 1 := by omega
        refine (World.putObj_heap_other hne).trans (hk.same k o (by omega) ?_ hc)
        rw [hW2]
        exact (World.putObj_heap_other hne).trans hk2
      · have h1 : Ones w.heap.size W W2 := by rw [hW2]; exact Ones.putObj _ hl rfl
        exact ((h1.trans ho).trans (Ones.putObj _ hl3 rfl)).weak (by omega)
    · rintro e W2 ⟨⟨v, rfl⟩, hi, hl, hd⟩
      have h := run_endLoop (P := P) hl (by rw [hrr]; simp)
      rw [hrr] at h
      exact ⟨none, _, h, hdone _ _ (Nat.le_refl _) (hI.putObj _ hi (by omega) hl rfl) ((World.putObj_heap_other (by omega)).trans hd)⟩
end Go.Proofs.YtaegolkoinjmoaaDoor
