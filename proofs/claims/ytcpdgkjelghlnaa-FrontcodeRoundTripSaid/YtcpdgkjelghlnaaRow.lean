/-
  A slice that reads as a list of cells ('Reads'), whatever the cells are; it keeps reading so while the heap only grows. No condition.
-/
import Derived.Test.YtcpdgkjelghlnaaWords
namespace Go.Proofs.Ytcpdgkjelghlnaa
open Go.RowKit

/-- v is a slice that reads as the cells xs -/
def Reads (w : World) (v : Value) (xs : List Value) : Prop :=
  ∃ A c, v = .slice A xs.length c ∧ xs.length ≤ c ∧ (0 < xs.length → ∃ b off, A = some ⟨b, off, none⟩ ∧ ∀ j, j < xs.length → w.cell? ⟨b, off + j, none⟩ = xs[j]?)

theorem Reads.grow {w w' : World} {v : Value} {xs : List Value} (h : Reads w v xs) (hb : Grows w w') : Reads w' v xs := by
  obtain ⟨A, c, rfl, hle, hc⟩ := h
  refine ⟨A, c, rfl, hle, fun hl => ?_⟩
  obtain ⟨b, off, rfl, hcell⟩ := hc hl
  refine ⟨b, off, rfl, fun j hj => ?_⟩
  have h1 := hcell j hj
  rw [List.getElem?_eq_getElem hj] at h1 ⊢
  exact (hb.cell (World.block_lt_of_cell? w _ h1)).trans h1
theorem Reads.nil_ (w : World) (c : Nat) : Reads w (.slice none 0 c) [] := ⟨none, c, rfl, Nat.zero_le _, fun h => absurd h (by simp)⟩
theorem Reads.slice_ {w : World} {v : Value} {xs : List Value} (h : Reads w v xs) : ∃ A c, v = .slice A xs.length c ∧ xs.length ≤ c := by
  obtain ⟨A, c, h1, h2, _⟩ := h; exact ⟨A, c, h1, h2⟩
/-- a row of cells of one place each, made by the call -/
theorem Reads.of_own {w : World} {base : Nat} {e : TypeId} {v : Value} {n : Nat} {xs : List Value} (h : w.ownsRow base e 1 v n xs) : Reads w v xs := by
  have hlen : xs.length = n := by have := h.1; omega
  rcases h.2 with ⟨rfl, h0⟩ | ⟨g, cap, cur, rfl, _, hg, hn, _, _, htake⟩
  · have : xs = [] := List.eq_nil_of_length_eq_zero (by omega)
    subst this
    exact Reads.nil_ w 0
  · subst hlen
    refine ⟨_, cap, rfl, hn, fun _ => ⟨g, 0, rfl, fun j hj => ?_⟩⟩
    have hc := h.cells (g := g) rfl j xs[j] (List.getElem?_eq_getElem hj)
    rw [List.getElem?_eq_getElem hj]
    simpa [Addr.add_lit] using hc
theorem Reads.of_row {w : World} {g : Nat} {e : TypeId} {xs : List Value} (h : Row w g e xs) (n c : Nat) (hn : n = xs.length) (hc : n ≤ c) : Reads w (.slice (some ⟨g, 0, none⟩) n c) xs := by
  subst hn
  refine ⟨_, c, rfl, hc, fun _ => ⟨g, 0, rfl, fun j hj => ?_⟩⟩
  rw [Nat.zero_add, h.cell j]
theorem Reads.bytes {w : World} {v : Value} {l : List UInt8} (h : Reads w v (bcells l)) : IsBytes w v l := by
  obtain ⟨A, c, rfl, _, hc⟩ := h
  rw [bcells_length] at hc ⊢
  refine ⟨A, c, rfl, fun hl => ?_⟩
  obtain ⟨b, off, rfl, hcell⟩ := hc hl
  refine ⟨b, off, rfl, fun j hj => ?_⟩
  rw [hcell j hj]
  simp [bcells, hj]

theorem ownsRow_base {w : World} {b b' : Nat} {e : TypeId} {size : Nat} {v : Value} {n : Nat} {xs : List Value} (h : w.ownsRow b e size v n xs) (hb : b' ≤ b) : w.ownsRow b' e size v n xs := by
  refine ⟨h.1, ?_⟩
  rcases h.2 with h0 | ⟨g, cap, cur, h1, h2, h3⟩
  · exact .inl h0
  · exact .inr ⟨g, cap, cur, h1, Nat.le_trans hb h2, h3⟩

def ucells (l : List UInt64) : List Value := l.map fun c => .int .u64 (c.toNat : Int)
def icells (l : List Int) : List Value := l.map (Value.int .i64)
def ncells (l : List Nat) : List Value := l.map fun n : Nat => Value.int .i64 (n : Int)
def tcells (l : List Bool) : List Value := l.map Value.bool
theorem ucells_length (l : List UInt64) : (ucells l).length = l.length := by simp [ucells]
theorem icells_length (l : List Int) : (icells l).length = l.length := by simp [icells]
theorem ncells_length (l : List Nat) : (ncells l).length = l.length := by simp [ncells]
theorem tcells_length (l : List Bool) : (tcells l).length = l.length := by simp [tcells]
theorem ucells_get {l : List UInt64} {j : Nat} (h : j < l.length) : (ucells l)[j]? = some (.int .u64 (l[j].toNat : Int)) := by simp [ucells, h]
theorem icells_get {l : List Int} {j : Nat} (h : j < l.length) : (icells l)[j]? = some (.int .i64 l[j]) := by simp [icells, h]
theorem ncells_get {l : List Nat} {j : Nat} (h : j < l.length) : (ncells l)[j]? = some (.int .i64 (l[j] : Int)) := by simp [ncells, h]
theorem tcells_get {l : List Bool} {j : Nat} (h : j < l.length) : (tcells l)[j]? = some (.bool l[j]) := by simp [tcells, h]
theorem ucells_set (l : List UInt64) (j : Nat) (c : UInt64) : (ucells l).set j (.int .u64 (c.toNat : Int)) = ucells (l.set j c) := by simp [ucells, List.map_set]
theorem tcells_set (l : List Bool) (j : Nat) (c : Bool) : (tcells l).set j (.bool c) = tcells (l.set j c) := by simp [tcells, List.map_set]
theorem icells_snoc (l : List Int) (c : Int) : icells (l ++ [c]) = icells l ++ [.int .i64 c] := by simp [icells]
theorem ncells_snoc (l : List Nat) (c : Nat) : ncells (l ++ [c]) = ncells l ++ [.int .i64 (c : Int)] := by simp [ncells]
theorem tcells_snoc (l : List Bool) (c : Bool) : tcells (l ++ [c]) = tcells l ++ [.bool c] := by simp [tcells]
theorem made_ucells (n : Nat) : madeCells #[Value.int .u64 0] n = (ucells (List.replicate n 0)).toArray := by
  apply Array.toList_inj.1
  rw [toList_madeCells_one]
  simp [ucells]
theorem made_tcells (n : Nat) : madeCells #[Value.bool false] n = (tcells (List.replicate n false)).toArray := by
  apply Array.toList_inj.1
  rw [toList_madeCells_one]
  simp [tcells]

/-- what a slice of unsigned 64-bit numbers that came in reads as, as a shell of a proof has it -/
def toWords (zs : List Int) : List UInt64 := zs.map fun z => UInt64.ofNat z.toNat
theorem nat_u64 (z : Int) (h0 : 0 ≤ z) (h1 : z ≤ 18446744073709551615) : ((UInt64.ofNat z.toNat).toNat : Int) = z := by
  have : (UInt64.ofNat z.toNat).toNat = z.toNat := by
    rw [UInt64.toNat_ofNat']; exact Nat.mod_eq_of_lt (by omega)
  omega
theorem reads_of_words {w : World} {a : Option Addr} {len cap : Nat} {zs : List Int}
    (h : (a = none ∧ len = 0 ∧ cap = 0 ∧ zs = []) ∨ ∃ x, a = some x ∧ len ≤ cap ∧ cap ≤ maxLen ∧ zs.length = cap ∧ (∀ i, i < zs.length → w.cell? (x.add i) = some (.int .u64 (zs.getD i 0))) ∧ ∀ n ∈ zs, (Lit.int .u64 n).wf = true) :
    Reads w (.slice a len cap) (ucells (toWords (zs.take len))) ∧ (toWords (zs.take len)).length = len := by
  rcases h with ⟨rfl, rfl, rfl, rfl⟩ | ⟨x, rfl, hl, _, hz, hcell, hwz⟩
  · exact ⟨Reads.nil_ w 0, rfl⟩
  · have hlen : (toWords (zs.take len)).length = len := by simp [toWords]; omega
    refine ⟨⟨some x, cap, by rw [ucells_length, hlen], by rw [ucells_length, hlen]; exact hl, fun hpos => ?_⟩, hlen⟩
    rw [ucells_length, hlen] at hpos
    obtain ⟨b, off, spot⟩ := x
    have hc := hcell 0 (by omega)
    have hspot : spot = none := by simpa [Addr.add] using World.cell?_spot hc
    subst hspot
    refine ⟨b, off, rfl, fun j hj => ?_⟩
    have hj1 : j < (toWords (zs.take len)).length := by rw [ucells_length] at hj; exact hj
    rw [ucells_length, hlen] at hj
    have h1 := hcell j (by omega)
    rw [Addr.add_lit] at h1
    rw [h1, ucells_get hj1]
    have hmem : zs.getD j 0 ∈ zs := by
      have : j < zs.length := by omega
      simp [List.getD, List.getElem?_eq_getElem this]
    have hb := wf_u64 (hwz _ hmem)
    have hjl : j < zs.length := by omega
    have e : (toWords (zs.take len))[j] = UInt64.ofNat (zs.getD j 0).toNat := by
      simp [toWords, List.getD, List.getElem?_eq_getElem hjl]
    rw [e, nat_u64 _ hb.1 hb.2]

end Go.Proofs.Ytcpdgkjelghlnaa
