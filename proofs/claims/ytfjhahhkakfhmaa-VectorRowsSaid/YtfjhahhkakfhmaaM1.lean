/-
  Texts that the claims of this seat share, put together (Num, Words, Row, Vec). No condition.
-/
import Derived.WalkKit
import Derived.Laws.BitsAll
import Derived.Below
import Derived.DataReads
import Derived.Laws.BytesArg
import Derived.Laws.OwnMore
import Derived.OwnWalk
/-
  Shaken: what the claims of this seat need of this text. No condition.
-/
namespace Go.Proofs.Ytfjhahhkakfhmaa
set_option maxRecDepth 8000
open Go.RowKit
theorem hidden {p : Prop} (h : p) : Hid p := h
theorem retB {a b : Bool} (h : a = b) : Ending.returned (.bool a) = .returned (.bool b) := by rw [h]
end Go.Proofs.Ytfjhahhkakfhmaa
/-
  Shaken: what the claims of this seat need of this text. No condition.
-/
namespace Go.Proofs.Ytfjhahhkakfhmaa
set_option maxRecDepth 8000
open Go.RowKit
abbrev Grows (w w' : World) : Prop := Below w.heap.size w w'
theorem Grows.of_below {w a b : World} (h : Grows w a) (k : Grows a b) : Grows w b := Below.trans h (Below.mono k h.size)
def bcells (l : List UInt8) : List Value := l.map fun c => .int .u8 (c.toNat : Int)
theorem bcells_length (l : List UInt8) : (bcells l).length = l.length := by simp [bcells]
def IsBytes (w : World) (v : Value) (l : List UInt8) : Prop :=
  ∃ A c, v = .slice A l.length c ∧ (0 < l.length → ∃ b off, A = some ⟨b, off, none⟩ ∧ ∀ j, (h : j < l.length) → w.cell? ⟨b, off + j, none⟩ = some (.int .u8 (l[j].toNat : Int)))
theorem IsBytes.grow {w w' : World} {v : Value} {l : List UInt8} (h : IsBytes w v l) (hb : Grows w w') : IsBytes w' v l := by
  obtain ⟨A, c, rfl, hc⟩ := h
  refine ⟨A, c, rfl, fun hl => ?_⟩
  obtain ⟨b, off, rfl, hcell⟩ := hc hl
  refine ⟨b, off, rfl, fun j hj => ?_⟩
  have h1 := hcell j hj
  exact (hb.cell (World.block_lt_of_cell? w _ h1)).trans h1
theorem IsBytes.nil_ (w : World) : IsBytes w (.slice none 0 0) [] := ⟨none, 0, rfl, fun h => absurd h (by simp)⟩
theorem IsBytes.of_own {w : World} {base : Nat} {e : TypeId} {v : Value} {n : Nat} {l : List UInt8} (h : w.ownsRow base e 1 v n (bcells l)) : IsBytes w v l := by
  have hlen : l.length = n := by have := h.1; rw [bcells_length] at this; omega
  rcases h.2 with ⟨rfl, h0⟩ | ⟨g, cap, cur, rfl, _, hg, hn, _, _, htake⟩
  · have : l = [] := List.eq_nil_of_length_eq_zero (by omega)
    subst this
    exact IsBytes.nil_ w
  · subst hlen
    refine ⟨_, cap, rfl, fun _ => ⟨g, 0, rfl, fun j hj => ?_⟩⟩
    have hc := h.cells (g := g) rfl j (.int .u8 (l[j].toNat : Int)) (by simp [bcells, hj])
    simpa [Addr.add_lit] using hc
theorem wf_i64 {z : Int} (h : (Lit.int .i64 z).wf = true) : -9223372036854775808 ≤ z ∧ z ≤ 9223372036854775807 := by
  simp [Lit.wf, IntKind.min, IntKind.max, IntKind.bits, IntKind.signed] at h
  omega
def strOf (l : List UInt8) : ByteArray := ⟨l.toArray⟩
def Row (w : World) (g : Nat) (e : TypeId) (xs : List Value) : Prop := w.heap[g]? = some (.cells xs.toArray e (0, 0))
theorem Row.lt {w : World} {g : Nat} {e : TypeId} {xs : List Value} (h : Row w g e xs) : g < w.heap.size := by
  rcases Nat.lt_or_ge g w.heap.size with hlt | hge
  · exact hlt
  · unfold Row at h; rw [Array.getElem?_eq_none hge] at h; cases h
theorem Row.cell {w : World} {g : Nat} {e : TypeId} {xs : List Value} (h : Row w g e xs) (i : Nat) : w.cell? ⟨g, i, none⟩ = xs[i]? := by
  have := cell_of_row w g i xs.toArray e (0, 0) h
  simpa using this
theorem Row.frozen {w : World} {g : Nat} {e : TypeId} {xs : List Value} (h : Row w g e xs) (i : Nat) : w.frozen? ⟨g, i, none⟩ = false := by
  unfold Row at h
  simp [World.frozen?, h]
theorem Row.new (w : World) (e : TypeId) (cs : Array Value) (xs : List Value) (h : cs = xs.toArray) : Row (w.alloc (.cells cs e)) w.heap.size e xs := by
  subst h; exact heap_alloc_new w _
theorem Row.at_ (w : World) (e : TypeId) (cs : Array Value) (xs : List Value) (h : cs = xs.toArray) (g : Nat) (hg : g = w.heap.size) : Row (w.alloc (.cells cs e)) g e xs := by
  subst hg; exact Row.new w e cs xs h
theorem Row.set_ {w : World} {g : Nat} {e : TypeId} {xs : List Value} (h : Row w g e xs) (i : Nat) (u : Value) : Row (w.setCell ⟨g, i, none⟩ u) g e (xs.set i u) := by
  unfold Row at h ⊢
  simp [World.setCell, Array.getElem?_modify, h]
theorem Row.own {w : World} {g base : Nat} {e : TypeId} {xs : List Value} (h : Row w g e xs) (hb : base ≤ g) (hm : xs.length ≤ maxLen) : w.ownsRow base e 1 (.slice (some ⟨g, 0, none⟩) xs.length xs.length) xs.length xs :=
  ⟨by omega, .inr ⟨g, xs.length, xs.toArray, rfl, hb, h, Nat.le_refl _, hm, by simp, by simp⟩⟩
theorem Row.grow {w w' : World} {g : Nat} {e : TypeId} {xs : List Value} (h : Row w g e xs) (hb : Grows w w') : Row w' g e xs := (hb.block g h.lt).trans h
theorem IsBytes.of_row {w : World} {g : Nat} {e : TypeId} {l : List UInt8} (h : Row w g e (bcells l)) (n c : Nat) (hn : n = l.length) : IsBytes w (.slice (some ⟨g, 0, none⟩) n c) l := by
  subst hn
  refine ⟨_, c, rfl, fun _ => ⟨g, 0, rfl, fun j hj => ?_⟩⟩
  have := h.cell j
  rw [Nat.zero_add, this]
  simp [bcells, hj]
end Go.Proofs.Ytfjhahhkakfhmaa
/-
  Shaken: what the claims of this seat need of this text. No condition.
-/
namespace Go.Proofs.Ytfjhahhkakfhmaa
set_option maxRecDepth 8000
open Go.RowKit
def Reads (w : World) (v : Value) (xs : List Value) : Prop :=
  ∃ A c, v = .slice A xs.length c ∧ xs.length ≤ c ∧ (0 < xs.length → ∃ b off, A = some ⟨b, off, none⟩ ∧ ∀ j, j < xs.length → w.cell? ⟨b, off + j, none⟩ = xs[j]?)
theorem Reads.grow {w w' : World} {v : Value} {xs : List Value} (h : Reads w v xs) (hb : Grows w w') : Reads w' v xs := by
  obtain ⟨A, c, rfl, hle, hc⟩ := h
  refine ⟨A, c, rfl, hle, fun hl => ?_⟩
  obtain ⟨b, off, rfl, hcell⟩ := hc hl
  refine ⟨b, off, rfl, fun j hj => ?_⟩
  have h1 := hcell j hj
  rw [List.getElem?_eq_getElem hj] at h1 ⊢
  exact (hb.cell (World.block_lt_of_cell? w _ h1)).trans h1
theorem Reads.nil_ (w : World) (c : Nat) : Reads w (.slice none 0 c) [] := ⟨none, c, rfl, Nat.zero_le _, fun h => absurd h (by simp)⟩
theorem Reads.slice_ {w : World} {v : Value} {xs : List Value} (h : Reads w v xs) : ∃ A c, v = .slice A xs.length c ∧ xs.length ≤ c := by
  obtain ⟨A, c, h1, h2, _⟩ := h; exact ⟨A, c, h1, h2⟩
theorem Reads.of_own {w : World} {base : Nat} {e : TypeId} {v : Value} {n : Nat} {xs : List Value} (h : w.ownsRow base e 1 v n xs) : Reads w v xs := by
  have hlen : xs.length = n := by have := h.1; omega
  rcases h.2 with ⟨rfl, h0⟩ | ⟨g, cap, cur, rfl, _, hg, hn, _, _, htake⟩
  · have : xs = [] := List.eq_nil_of_length_eq_zero (by omega)
    subst this
    exact Reads.nil_ w 0
  · subst hlen
    refine ⟨_, cap, rfl, hn, fun _ => ⟨g, 0, rfl, fun j hj => ?_⟩⟩
    have hc := h.cells (g := g) rfl j xs[j] (List.getElem?_eq_getElem hj)
    rw [List.getElem?_eq_getElem hj]
    simpa [Addr.add_lit] using hc
theorem Reads.of_row {w : World} {g : Nat} {e : TypeId} {xs : List Value} (h : Row w g e xs) (n c : Nat) (hn : n = xs.length) (hc : n ≤ c) : Reads w (.slice (some ⟨g, 0, none⟩) n c) xs := by
  subst hn
  refine ⟨_, c, rfl, hc, fun _ => ⟨g, 0, rfl, fun j hj => ?_⟩⟩
  rw [Nat.zero_add, h.cell j]
theorem Reads.bytes {w : World} {v : Value} {l : List UInt8} (h : Reads w v (bcells l)) : IsBytes w v l := by
  obtain ⟨A, c, rfl, _, hc⟩ := h
  rw [bcells_length] at hc ⊢
  refine ⟨A, c, rfl, fun hl => ?_⟩
  obtain ⟨b, off, rfl, hcell⟩ := hc hl
  refine ⟨b, off, rfl, fun j hj => ?_⟩
  rw [hcell j hj]
  simp [bcells, hj]
theorem ownsRow_base {w : World} {b b' : Nat} {e : TypeId} {size : Nat} {v : Value} {n : Nat} {xs : List Value} (h : w.ownsRow b e size v n xs) (hb : b' ≤ b) : w.ownsRow b' e size v n xs := by
  refine ⟨h.1, ?_⟩
  rcases h.2 with h0 | ⟨g, cap, cur, h1, h2, h3⟩
  · exact .inl h0
  · exact .inr ⟨g, cap, cur, h1, Nat.le_trans hb h2, h3⟩
def icells (l : List Int) : List Value := l.map (Value.int .i64)
def tcells (l : List Bool) : List Value := l.map Value.bool
theorem icells_length (l : List Int) : (icells l).length = l.length := by simp [icells]
theorem tcells_length (l : List Bool) : (tcells l).length = l.length := by simp [tcells]
theorem icells_get {l : List Int} {j : Nat} (h : j < l.length) : (icells l)[j]? = some (.int .i64 l[j]) := by simp [icells, h]
theorem tcells_get {l : List Bool} {j : Nat} (h : j < l.length) : (tcells l)[j]? = some (.bool l[j]) := by simp [tcells, h]
theorem tcells_set (l : List Bool) (j : Nat) (c : Bool) : (tcells l).set j (.bool c) = tcells (l.set j c) := by simp [tcells, List.map_set]
theorem icells_snoc (l : List Int) (c : Int) : icells (l ++ [c]) = icells l ++ [.int .i64 c] := by simp [icells]
theorem tcells_snoc (l : List Bool) (c : Bool) : tcells (l ++ [c]) = tcells l ++ [.bool c] := by simp [tcells]
end Go.Proofs.Ytfjhahhkakfhmaa
/-
  Shaken: what the claims of this seat need of this text. No condition.
-/
namespace Go.Proofs.Ytfjhahhkakfhmaa
set_option maxRecDepth 8000
open Go.RowKit
set_option linter.unusedVariables false
set_option linter.unusedSimpArgs false
abbrev Str := List UInt8
structure Vec where
  T : Int
  is : List Int
  ts : List Str
  ns : List Bool
def frIn (x : Int) : Prop := -9223372036854775808 ≤ x ∧ x ≤ 9223372036854775807
def scells (l : List Str) : List Value := l.map fun s => .string (strOf s)
theorem scells_length (l : List Str) : (scells l).length = l.length := by simp [scells]
theorem scells_get {l : List Str} {j : Nat} (h : j < l.length) : (scells l)[j]? = some (.string (strOf l[j])) := by simp [scells, h]
theorem scells_snoc (l : List Str) (s : Str) : scells (l ++ [s]) = scells l ++ [.string (strOf s)] := by simp [scells]
def IsS (w : World) (v : Value) (l : List Str) : Prop := Reads w v (scells l)
theorem IsS.grow {w w' : World} {v : Value} {l : List Str} (h : IsS w v l) (hb : Grows w w') : IsS w' v l := Reads.grow h hb
theorem IsS.slice_ {w : World} {v : Value} {l : List Str} (h : IsS w v l) : ∃ A c, v = .slice A l.length c := by
  obtain ⟨A, c, h1, h2⟩ := Reads.slice_ h
  rw [scells_length] at h1
  exact ⟨A, c, h1⟩
theorem IsS.at_ {w : World} {A : Option Addr} {c n : Nat} {l : List Str} (h : IsS w (.slice A n c) l) {k : Nat} (hk : k < l.length) : ∃ b f, A = some ⟨b, f, none⟩ ∧ w.cell? ⟨b, f + k, none⟩ = some (.string (strOf l[k])) := by
  obtain ⟨A', c', he, _, hc⟩ := h
  injection he with e1 e2 e3
  subst e1
  obtain ⟨b, f, rfl, hcell⟩ := hc (by rw [scells_length]; omega)
  refine ⟨b, f, rfl, ?_⟩
  rw [hcell k (by rw [scells_length]; exact hk), scells_get hk]
def IsI (w : World) (v : Value) (l : List Int) : Prop := Reads w v (icells l)
theorem IsI.grow {w w' : World} {v : Value} {l : List Int} (h : IsI w v l) (hb : Grows w w') : IsI w' v l := Reads.grow h hb
theorem IsI.slice_ {w : World} {v : Value} {l : List Int} (h : IsI w v l) : ∃ A c, v = .slice A l.length c := by
  obtain ⟨A, c, h1, h2⟩ := Reads.slice_ h
  rw [icells_length] at h1
  exact ⟨A, c, h1⟩
theorem IsI.at_ {w : World} {A : Option Addr} {c n : Nat} {l : List Int} (h : IsI w (.slice A n c) l) {k : Nat} (hk : k < l.length) : ∃ b f, A = some ⟨b, f, none⟩ ∧ w.cell? ⟨b, f + k, none⟩ = some (.int .i64 l[k]) := by
  obtain ⟨A', c', he, _, hc⟩ := h
  injection he with e1 e2 e3
  subst e1
  obtain ⟨b, f, rfl, hcell⟩ := hc (by rw [icells_length]; omega)
  refine ⟨b, f, rfl, ?_⟩
  rw [hcell k (by rw [icells_length]; exact hk), icells_get hk]
def IsT (w : World) (v : Value) (l : List Bool) : Prop := Reads w v (tcells l)
theorem IsT.grow {w w' : World} {v : Value} {l : List Bool} (h : IsT w v l) (hb : Grows w w') : IsT w' v l := Reads.grow h hb
theorem IsT.slice_ {w : World} {v : Value} {l : List Bool} (h : IsT w v l) : ∃ A c, v = .slice A l.length c := by
  obtain ⟨A, c, h1, h2⟩ := Reads.slice_ h
  rw [tcells_length] at h1
  exact ⟨A, c, h1⟩
theorem IsT.at_ {w : World} {A : Option Addr} {c n : Nat} {l : List Bool} (h : IsT w (.slice A n c) l) {k : Nat} (hk : k < l.length) : ∃ b f, A = some ⟨b, f, none⟩ ∧ w.cell? ⟨b, f + k, none⟩ = some (.bool l[k]) := by
  obtain ⟨A', c', he, _, hc⟩ := h
  injection he with e1 e2 e3
  subst e1
  obtain ⟨b, f, rfl, hcell⟩ := hc (by rw [tcells_length]; omega)
  refine ⟨b, f, rfl, ?_⟩
  rw [hcell k (by rw [tcells_length]; exact hk), tcells_get hk]
def IsV (w : World) (x : Value) (v : Vec) : Prop := ∃ a b c, x = .agg #[.int .i64 v.T, a, b, c] ∧ IsI w a v.is ∧ IsS w b v.ts ∧ IsT w c v.ns
theorem IsV.grow {w w' : World} {x : Value} {v : Vec} (h : IsV w x v) (hb : Grows w w') : IsV w' x v := by
  obtain ⟨a, b, c, h0, h1, h2, h3⟩ := h
  exact ⟨a, b, c, h0, h1.grow hb, h2.grow hb, h3.grow hb⟩
end Go.Proofs.Ytfjhahhkakfhmaa
