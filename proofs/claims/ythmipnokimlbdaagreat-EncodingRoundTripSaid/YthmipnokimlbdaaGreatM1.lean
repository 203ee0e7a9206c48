/-
  Texts that the claims of this seat share, put together (Num, Words, Row, BpNum, BpNum2, DecNum, RlNum, Fresh). No condition.
-/
import Derived.WalkKit
import Derived.Laws.BitsAll
import Derived.Below
import Derived.DataReads
import Derived.Laws.BytesArg
import Derived.Laws.OwnMore
import Derived.OwnWalk
/-
  Shaken: what the claims of this seat need of this text. No condition.
-/
namespace Go.Proofs.YthmipnokimlbdaaGreat
set_option maxRecDepth 8000
open Go.RowKit
theorem hidden {p : Prop} (h : p) : Hid p := h
theorem retU {k : IntKind} {a b : Int} (h : a = b) : Ending.returned (.int k a) = .returned (.int k b) := by rw [h]
theorem retB {a b : Bool} (h : a = b) : Ending.returned (.bool a) = .returned (.bool b) := by rw [h]
theorem not_u64 (x : Int) (h0 : 0 ≤ x) (h1 : x < 18446744073709551616) : bits .xor .u64 IntKind.u64.max x = 18446744073709551615 - x := by
  obtain ⟨X, rfl⟩ := Int.eq_ofNat_of_zero_le h0
  have hX : X < 18446744073709551616 := by omega
  have e : IntKind.u64.max = ((18446744073709551615 : Nat) : Int) := by decide
  have hx : (BitVec.ofInt 64 (X : Int)) = BitVec.ofNat 64 X := BitVec.ofInt_natCast ..
  rw [e]
  show IntKind.u64.wrap ((BitVec.ofInt 64 ((18446744073709551615 : Nat) : Int) ^^^ BitVec.ofInt 64 (X : Int)).toNat : Int) = _
  have ha : BitVec.ofInt 64 ((18446744073709551615 : Nat) : Int) = BitVec.allOnes 64 := by decide
  rw [ha, BitVec.allOnes_xor, BitVec.toNat_not, ofInt_u64 X hX, IntKind.wrap_u64]
  have : (2:Nat)^64 = 18446744073709551616 := by decide
  omega
theorem not_i64 (x : Int) (h0 : 0 ≤ x) (h1 : x < 9223372036854775808) : bits .xor .i64 (-1) x = -1 - x := by
  obtain ⟨X, rfl⟩ := Int.eq_ofNat_of_zero_le h0
  have hX : X < 18446744073709551616 := by omega
  show IntKind.i64.wrap ((BitVec.ofInt 64 (-1) ^^^ BitVec.ofInt 64 (X : Int)).toNat : Int) = _
  have ha : BitVec.ofInt 64 (-1) = BitVec.allOnes 64 := by decide
  rw [ha, BitVec.allOnes_xor, BitVec.toNat_not, ofInt_u64 X hX]
  have : (2:Nat)^64 = 18446744073709551616 := by decide
  rw [IntKind.wrap_i64]
  omega
theorem and1_u64 (x : Int) (h0 : 0 ≤ x) (h1 : x < 18446744073709551616) : bits .and .u64 x 1 = x % 2 := by
  rw [u64_and x 1 h0 h1 (by decide) (by decide)]
  obtain ⟨X, rfl⟩ := Int.eq_ofNat_of_zero_le h0
  have : (1 : Int).toNat = 1 := rfl
  rw [this, Int.toNat_natCast, nat_mask1]
  omega
end Go.Proofs.YthmipnokimlbdaaGreat
/-
  Shaken: what the claims of this seat need of this text. No condition.
-/
namespace Go.Proofs.YthmipnokimlbdaaGreat
set_option maxRecDepth 8000
open Go.RowKit
abbrev Grows (w w' : World) : Prop := Below w.heap.size w w'
theorem Grows.of_below {w a b : World} (h : Grows w a) (k : Grows a b) : Grows w b := Below.trans h (Below.mono k h.size)
def bcells (l : List UInt8) : List Value := l.map fun c => .int .u8 (c.toNat : Int)
theorem bcells_length (l : List UInt8) : (bcells l).length = l.length := by simp [bcells]
def IsBytes (w : World) (v : Value) (l : List UInt8) : Prop :=
  ∃ A c, v = .slice A l.length c ∧ (0 < l.length → ∃ b off, A = some ⟨b, off, none⟩ ∧ ∀ j, (h : j < l.length) → w.cell? ⟨b, off + j, none⟩ = some (.int .u8 (l[j].toNat : Int)))
theorem IsBytes.grow {w w' : World} {v : Value} {l : List UInt8} (h : IsBytes w v l) (hb : Grows w w') : IsBytes w' v l := by
  obtain ⟨A, c, rfl, hc⟩ := h
  refine ⟨A, c, rfl, fun hl => ?_⟩
  obtain ⟨b, off, rfl, hcell⟩ := hc hl
  refine ⟨b, off, rfl, fun j hj => ?_⟩
  have h1 := hcell j hj
  exact (hb.cell (World.block_lt_of_cell? w _ h1)).trans h1
theorem IsBytes.nil_ (w : World) : IsBytes w (.slice none 0 0) [] := ⟨none, 0, rfl, fun h => absurd h (by simp)⟩
theorem IsBytes.of_own {w : World} {base : Nat} {e : TypeId} {v : Value} {n : Nat} {l : List UInt8} (h : w.ownsRow base e 1 v n (bcells l)) : IsBytes w v l := by
  have hlen : l.length = n := by have := h.1; rw [bcells_length] at this; omega
  rcases h.2 with ⟨rfl, h0⟩ | ⟨g, cap, cur, rfl, _, hg, hn, _, _, htake⟩
  · have : l = [] := List.eq_nil_of_length_eq_zero (by omega)
    subst this
    exact IsBytes.nil_ w
  · subst hlen
    refine ⟨_, cap, rfl, fun _ => ⟨g, 0, rfl, fun j hj => ?_⟩⟩
    have hc := h.cells (g := g) rfl j (.int .u8 (l[j].toNat : Int)) (by simp [bcells, hj])
    simpa [Addr.add_lit] using hc
theorem nat_u8 (z : Int) (h0 : 0 ≤ z) (h1 : z ≤ 255) : ((UInt8.ofNat z.toNat).toNat : Int) = z := by
  have : (UInt8.ofNat z.toNat).toNat = z.toNat := by
    rw [UInt8.toNat_ofNat']; exact Nat.mod_eq_of_lt (by omega)
  omega
def toBytes (zs : List Int) : List UInt8 := zs.map fun z => UInt8.ofNat z.toNat
theorem wf_u8 {z : Int} (h : (Lit.int .u8 z).wf = true) : 0 ≤ z ∧ z ≤ 255 := by
  simp [Lit.wf, IntKind.min, IntKind.max, IntKind.bits, IntKind.signed] at h
  omega
theorem wf_i64 {z : Int} (h : (Lit.int .i64 z).wf = true) : -9223372036854775808 ≤ z ∧ z ≤ 9223372036854775807 := by
  simp [Lit.wf, IntKind.min, IntKind.max, IntKind.bits, IntKind.signed] at h
  omega
theorem isBytes_of_row {w : World} {a : Option Addr} {len cap : Nat} {zs : List Int}
    (h : (a = none ∧ len = 0 ∧ cap = 0 ∧ zs = []) ∨ ∃ x, a = some x ∧ len ≤ cap ∧ cap ≤ maxLen ∧ zs.length = cap ∧ (∀ i, i < zs.length → w.cell? (x.add i) = some (.int .u8 (zs.getD i 0))) ∧ ∀ n ∈ zs, (Lit.int .u8 n).wf = true) :
    IsBytes w (.slice a len cap) (toBytes (zs.take len)) ∧ (toBytes (zs.take len)).length = len ∧ len ≤ maxLen := by
  rcases h with ⟨rfl, rfl, rfl, rfl⟩ | ⟨x, rfl, hl, hm, hz, hcell, hwz⟩
  · exact ⟨IsBytes.nil_ w, rfl, by simp [maxLen]⟩
  · have hlen : (toBytes (zs.take len)).length = len := by simp [toBytes]; omega
    refine ⟨⟨some x, cap, by rw [hlen], fun hpos => ?_⟩, hlen, by omega⟩
    rw [hlen] at hpos
    obtain ⟨b, off, spot⟩ := x
    have hc := hcell 0 (by omega)
    have hspot : spot = none := by simpa [Addr.add] using World.cell?_spot hc
    subst hspot
    refine ⟨b, off, rfl, fun j hj => ?_⟩
    rw [hlen] at hj
    have h1 := hcell j (by omega)
    rw [Addr.add_lit] at h1
    rw [h1]
    have hmem : zs.getD j 0 ∈ zs := by
      have : j < zs.length := by omega
      simp [List.getD, List.getElem?_eq_getElem this]
    have hb := wf_u8 (hwz _ hmem)
    have hjl : j < zs.length := by omega
    have e : (toBytes (zs.take len))[j]'(by rw [hlen]; exact hj) = UInt8.ofNat (zs.getD j 0).toNat := by
      simp [toBytes, List.getD, List.getElem?_eq_getElem hjl]
    rw [e, nat_u8 _ hb.1 hb.2]
theorem bcells_append (l r : List UInt8) : bcells (l ++ r) = bcells l ++ bcells r := by simp [bcells]
theorem oneCell_bcells (l : List UInt8) : ∀ u ∈ bcells l, u.oneCell' = true := by
  intro u hu
  simp only [bcells, List.mem_map] at hu
  obtain ⟨c, _, rfl⟩ := hu
  rfl
def strOf (l : List UInt8) : ByteArray := ⟨l.toArray⟩
theorem run_string_bytes {P : Program} {w : World} {v : Value} {l : List UInt8} (h : IsBytes w v l) (src e : TypeId) (hs : P.underlying src = some (.slice e)) (he : P.underlying e = some (.int .u8)) (dst : TypeId)
    (hd : P.underlying dst = some .string) : (convert src dst v).run P w = .ok (.string (strOf l)) w := by
  obtain ⟨A, c, rfl, hc⟩ := h
  by_cases h0 : 0 < l.length
  · obtain ⟨b, off, rfl, hcell⟩ := hc h0
    have h1 := run_convert_bytes_arg (P := P) w src e hs he b off l.length c (l.map fun c => (c.toNat : Int)) (by simp) (fun i hi => by
      rw [hcell i hi]
      simp [List.getD, List.getElem?_eq_getElem hi]) dst hd
    rw [h1]
    congr 2
    simp only [strOfNums, strOf, List.map_map, ByteArray.mk.injEq]
    congr 1
    exact (List.map_congr_left (g := id) (fun c _ => by simp)).trans (List.map_id l)
  · have hl : l = [] := List.eq_nil_of_length_eq_zero (by omega)
    subst hl
    cases A with
    | none => exact run_convert_bytes_nil w src e hs he _ _ dst hd
    | some a =>
      have hld : (loadCells a ([] : List UInt8).length).run P w = .ok (([] : List Int).map (Value.int .u8)).toArray w := by
        simp [loadCells, loadCellsFrom]
      rw [run_convert_bytes_string w src dst e _ _ c hs he hd, run_bytesToString w a _ c [] hld]
      rfl
theorem run_make_bytes {P : Program} (t e : TypeId) (ht : P.underlying t = some (.slice e)) (hinfo : (P.info? e).map (fun i => (i.zero, i.size, i.bytes)) = some (some (.int .u8 0), 1, 1))
    (s : Nat) (hs : s ≤ 281474976710656) (W : World) :
    (Instr.makeSlice t (.int .i64 (s : Int)) (.int .i64 (s : Int))).run P W = .ok (.slice (some ⟨W.heap.size, 0, none⟩) s s) (W.alloc (.cells (madeCells #[.int .u8 0] s) e)) := by
  obtain ⟨i0, hi, hz0, hz1, hz2⟩ := info_parts hinfo
  have h := run_make (P := P) W t e i0 (.int .u8 0) ht hi hz0 .i64 .i64 (s : Int) (s : Int) (by omega) (by omega) (by rw [hz2]; omega) (by omega)
  rw [hz1, show (Value.int .u8 0).cells = #[Value.int .u8 0] from rfl] at h
  simpa using h
def Row (w : World) (g : Nat) (e : TypeId) (xs : List Value) : Prop := w.heap[g]? = some (.cells xs.toArray e (0, 0))
theorem Row.lt {w : World} {g : Nat} {e : TypeId} {xs : List Value} (h : Row w g e xs) : g < w.heap.size := by
  rcases Nat.lt_or_ge g w.heap.size with hlt | hge
  · exact hlt
  · unfold Row at h; rw [Array.getElem?_eq_none hge] at h; cases h
theorem Row.cell {w : World} {g : Nat} {e : TypeId} {xs : List Value} (h : Row w g e xs) (i : Nat) : w.cell? ⟨g, i, none⟩ = xs[i]? := by
  have := cell_of_row w g i xs.toArray e (0, 0) h
  simpa using this
theorem Row.frozen {w : World} {g : Nat} {e : TypeId} {xs : List Value} (h : Row w g e xs) (i : Nat) : w.frozen? ⟨g, i, none⟩ = false := by
  unfold Row at h
  simp [World.frozen?, h]
theorem Row.new (w : World) (e : TypeId) (cs : Array Value) (xs : List Value) (h : cs = xs.toArray) : Row (w.alloc (.cells cs e)) w.heap.size e xs := by
  subst h; exact heap_alloc_new w _
theorem Row.at_ (w : World) (e : TypeId) (cs : Array Value) (xs : List Value) (h : cs = xs.toArray) (g : Nat) (hg : g = w.heap.size) : Row (w.alloc (.cells cs e)) g e xs := by
  subst hg; exact Row.new w e cs xs h
theorem Row.set_ {w : World} {g : Nat} {e : TypeId} {xs : List Value} (h : Row w g e xs) (i : Nat) (u : Value) : Row (w.setCell ⟨g, i, none⟩ u) g e (xs.set i u) := by
  unfold Row at h ⊢
  simp [World.setCell, Array.getElem?_modify, h]
theorem Row.own {w : World} {g base : Nat} {e : TypeId} {xs : List Value} (h : Row w g e xs) (hb : base ≤ g) (hm : xs.length ≤ maxLen) : w.ownsRow base e 1 (.slice (some ⟨g, 0, none⟩) xs.length xs.length) xs.length xs :=
  ⟨by omega, .inr ⟨g, xs.length, xs.toArray, rfl, hb, h, Nat.le_refl _, hm, by simp, by simp⟩⟩
theorem Row.grow {w w' : World} {g : Nat} {e : TypeId} {xs : List Value} (h : Row w g e xs) (hb : Grows w w') : Row w' g e xs := (hb.block g h.lt).trans h
theorem IsBytes.of_row {w : World} {g : Nat} {e : TypeId} {l : List UInt8} (h : Row w g e (bcells l)) (n c : Nat) (hn : n = l.length) : IsBytes w (.slice (some ⟨g, 0, none⟩) n c) l := by
  subst hn
  refine ⟨_, c, rfl, fun _ => ⟨g, 0, rfl, fun j hj => ?_⟩⟩
  have := h.cell j
  rw [Nat.zero_add, this]
  simp [bcells, hj]
end Go.Proofs.YthmipnokimlbdaaGreat
/-
  Shaken: what the claims of this seat need of this text. No condition.
-/
namespace Go.Proofs.YthmipnokimlbdaaGreat
set_option maxRecDepth 8000
open Go.RowKit
def Reads (w : World) (v : Value) (xs : List Value) : Prop :=
  ∃ A c, v = .slice A xs.length c ∧ xs.length ≤ c ∧ (0 < xs.length → ∃ b off, A = some ⟨b, off, none⟩ ∧ ∀ j, j < xs.length → w.cell? ⟨b, off + j, none⟩ = xs[j]?)
theorem Reads.grow {w w' : World} {v : Value} {xs : List Value} (h : Reads w v xs) (hb : Grows w w') : Reads w' v xs := by
  obtain ⟨A, c, rfl, hle, hc⟩ := h
  refine ⟨A, c, rfl, hle, fun hl => ?_⟩
  obtain ⟨b, off, rfl, hcell⟩ := hc hl
  refine ⟨b, off, rfl, fun j hj => ?_⟩
  have h1 := hcell j hj
  rw [List.getElem?_eq_getElem hj] at h1 ⊢
  exact (hb.cell (World.block_lt_of_cell? w _ h1)).trans h1
theorem Reads.nil_ (w : World) (c : Nat) : Reads w (.slice none 0 c) [] := ⟨none, c, rfl, Nat.zero_le _, fun h => absurd h (by simp)⟩
theorem Reads.slice_ {w : World} {v : Value} {xs : List Value} (h : Reads w v xs) : ∃ A c, v = .slice A xs.length c ∧ xs.length ≤ c := by
  obtain ⟨A, c, h1, h2, _⟩ := h; exact ⟨A, c, h1, h2⟩
theorem Reads.of_own {w : World} {base : Nat} {e : TypeId} {v : Value} {n : Nat} {xs : List Value} (h : w.ownsRow base e 1 v n xs) : Reads w v xs := by
  have hlen : xs.length = n := by have := h.1; omega
  rcases h.2 with ⟨rfl, h0⟩ | ⟨g, cap, cur, rfl, _, hg, hn, _, _, htake⟩
  · have : xs = [] := List.eq_nil_of_length_eq_zero (by omega)
    subst this
    exact Reads.nil_ w 0
  · subst hlen
    refine ⟨_, cap, rfl, hn, fun _ => ⟨g, 0, rfl, fun j hj => ?_⟩⟩
    have hc := h.cells (g := g) rfl j xs[j] (List.getElem?_eq_getElem hj)
    rw [List.getElem?_eq_getElem hj]
    simpa [Addr.add_lit] using hc
theorem Reads.of_row {w : World} {g : Nat} {e : TypeId} {xs : List Value} (h : Row w g e xs) (n c : Nat) (hn : n = xs.length) (hc : n ≤ c) : Reads w (.slice (some ⟨g, 0, none⟩) n c) xs := by
  subst hn
  refine ⟨_, c, rfl, hc, fun _ => ⟨g, 0, rfl, fun j hj => ?_⟩⟩
  rw [Nat.zero_add, h.cell j]
theorem Reads.bytes {w : World} {v : Value} {l : List UInt8} (h : Reads w v (bcells l)) : IsBytes w v l := by
  obtain ⟨A, c, rfl, _, hc⟩ := h
  rw [bcells_length] at hc ⊢
  refine ⟨A, c, rfl, fun hl => ?_⟩
  obtain ⟨b, off, rfl, hcell⟩ := hc hl
  refine ⟨b, off, rfl, fun j hj => ?_⟩
  rw [hcell j hj]
  simp [bcells, hj]
theorem ownsRow_base {w : World} {b b' : Nat} {e : TypeId} {size : Nat} {v : Value} {n : Nat} {xs : List Value} (h : w.ownsRow b e size v n xs) (hb : b' ≤ b) : w.ownsRow b' e size v n xs := by
  refine ⟨h.1, ?_⟩
  rcases h.2 with h0 | ⟨g, cap, cur, h1, h2, h3⟩
  · exact .inl h0
  · exact .inr ⟨g, cap, cur, h1, Nat.le_trans hb h2, h3⟩
def ucells (l : List UInt64) : List Value := l.map fun c => .int .u64 (c.toNat : Int)
def icells (l : List Int) : List Value := l.map (Value.int .i64)
def ncells (l : List Nat) : List Value := l.map fun n : Nat => Value.int .i64 (n : Int)
def tcells (l : List Bool) : List Value := l.map Value.bool
theorem ucells_length (l : List UInt64) : (ucells l).length = l.length := by simp [ucells]
theorem icells_length (l : List Int) : (icells l).length = l.length := by simp [icells]
theorem ncells_length (l : List Nat) : (ncells l).length = l.length := by simp [ncells]
theorem tcells_length (l : List Bool) : (tcells l).length = l.length := by simp [tcells]
theorem ucells_get {l : List UInt64} {j : Nat} (h : j < l.length) : (ucells l)[j]? = some (.int .u64 (l[j].toNat : Int)) := by simp [ucells, h]
theorem icells_get {l : List Int} {j : Nat} (h : j < l.length) : (icells l)[j]? = some (.int .i64 l[j]) := by simp [icells, h]
theorem ncells_get {l : List Nat} {j : Nat} (h : j < l.length) : (ncells l)[j]? = some (.int .i64 (l[j] : Int)) := by simp [ncells, h]
theorem tcells_get {l : List Bool} {j : Nat} (h : j < l.length) : (tcells l)[j]? = some (.bool l[j]) := by simp [tcells, h]
theorem ucells_set (l : List UInt64) (j : Nat) (c : UInt64) : (ucells l).set j (.int .u64 (c.toNat : Int)) = ucells (l.set j c) := by simp [ucells, List.map_set]
theorem icells_snoc (l : List Int) (c : Int) : icells (l ++ [c]) = icells l ++ [.int .i64 c] := by simp [icells]
end Go.Proofs.YthmipnokimlbdaaGreat
/-
  Shaken: what the claims of this seat need of this text. No condition.
-/
namespace Go.Proofs.YthmipnokimlbdaaGreat
set_option maxRecDepth 8000
set_option linter.unusedVariables false
set_option linter.unusedSimpArgs false
def natOf (f : Nat → Bool) : Nat → Nat
  | 0 => 0
  | n + 1 => natOf f n + (if f n then 2 ^ n else 0)
theorem natOf_lt (f : Nat → Bool) : ∀ n, natOf f n < 2 ^ n
  | 0 => by simp [natOf]
  | n + 1 => by
    have ih := natOf_lt f n
    rw [natOf, Nat.pow_succ]
    split <;> omega
theorem natOf_testBit (f : Nat → Bool) : ∀ n k, (natOf f n).testBit k = (decide (k < n) && f k)
  | 0, k => by simp [natOf]
  | n + 1, k => by
    have ih := natOf_testBit f n
    have hlt := natOf_lt f n
    rw [natOf]
    by_cases hf : f n = true
    · rw [if_pos hf, Nat.add_comm]
      rcases Nat.lt_trichotomy k n with h | h | h
      · rw [Nat.testBit_two_pow_add_gt h, ih k]
        have e1 : decide (k < n) = true := by simpa using h
        have e2 : decide (k < n + 1) = true := by simp; omega
        rw [e1, e2]
      · subst h
        rw [Nat.testBit_two_pow_add_eq, Nat.testBit_lt_two_pow hlt, hf]
        simp
      · have h2 : 2 ^ n + natOf f n < 2 ^ k := by
          have h3 : 2 ^ n + natOf f n < 2 ^ (n + 1) := by rw [Nat.pow_succ]; omega
          exact Nat.lt_of_lt_of_le h3 (Nat.pow_le_pow_right (by decide) h)
        rw [Nat.testBit_lt_two_pow h2]
        have e2 : decide (k < n + 1) = false := by simp; omega
        rw [e2, Bool.false_and]
    · rw [if_neg hf, Nat.add_zero, ih k]
      rcases Nat.lt_trichotomy k n with h | h | h
      · have e1 : decide (k < n) = true := by simpa using h
        have e2 : decide (k < n + 1) = true := by simp; omega
        rw [e1, e2]
      · subst h
        simp [hf]
      · have e1 : decide (k < n) = false := by simp; omega
        have e2 : decide (k < n + 1) = false := by simp; omega
        rw [e1, e2]
theorem natOf_congr {f g : Nat → Bool} : ∀ n, (∀ k, k < n → f k = g k) → natOf f n = natOf g n
  | 0, _ => rfl
  | n + 1, h => by rw [natOf, natOf, natOf_congr n (fun k hk => h k (by omega)), h n (by omega)]
theorem natOf_bits (x : Nat) (n : Nat) : natOf x.testBit n = x % 2 ^ n := by
  apply Nat.eq_of_testBit_eq
  intro k
  rw [natOf_testBit, Nat.testBit_mod_two_pow]
theorem natOf_self {x n : Nat} (h : x < 2 ^ n) : natOf x.testBit n = x := by rw [natOf_bits, Nat.mod_eq_of_lt h]
def szB (n w : Nat) : Nat := (n * w + 7) / 8
theorem szB_le {n w : Nat} (hn : n ≤ 1048576) (hw : w ≤ 64) : szB n w ≤ 8388608 := by
  unfold szB
  have : n * w ≤ 1048576 * 64 := Nat.mul_le_mul hn hw
  omega
def vbit (l : List Nat) (w i : Nat) : Bool := decide (i < l.length * w) && (l.getD (i / w) 0).testBit (i % w)
def packL (l : List Nat) (w : Nat) : List UInt8 := (List.range (szB l.length w)).map fun j => UInt8.ofNat (natOf (fun k => vbit l w (8 * j + k)) 8)
def bbit (b : List UInt8) (i : Nat) : Bool := (b.getD (i / 8) 0).toNat.testBit (i % 8)
def numB (b : List UInt8) (w i : Nat) : Nat := natOf (fun k => bbit b (i * w + k)) w
def unpL (b : List UInt8) (n w : Nat) : List Nat := (List.range n).map (numB b w)
theorem packL_length (l : List Nat) (w : Nat) : (packL l w).length = szB l.length w := by simp [packL]
theorem unpL_length (b : List UInt8) (n w : Nat) : (unpL b n w).length = n := by simp [unpL]
theorem unpL_get {b : List UInt8} {n w i : Nat} (h : i < n) : (unpL b n w)[i]? = some (numB b w i) := by
  unfold unpL
  rw [List.getElem?_map, List.getElem?_range h]
  rfl
theorem packL_get {l : List Nat} {w j : Nat} (h : j < szB l.length w) : (packL l w)[j]? = some (UInt8.ofNat (natOf (fun k => vbit l w (8 * j + k)) 8)) := by
  unfold packL
  rw [List.getElem?_map, List.getElem?_range h]
  rfl
theorem byte_natOf (f : Nat → Bool) : (UInt8.ofNat (natOf f 8)).toNat = natOf f 8 := by
  rw [UInt8.toNat_ofNat']
  exact Nat.mod_eq_of_lt (natOf_lt f 8)
theorem bbit_pack {l : List Nat} {w i : Nat} (h : i < l.length * w) : bbit (packL l w) i = vbit l w i := by
  have hj : i / 8 < szB l.length w := by unfold szB; omega
  unfold bbit
  rw [List.getD_eq_getElem?_getD, packL_get hj, Option.getD_some, byte_natOf, natOf_testBit]
  have e1 : decide (i % 8 < 8) = true := by simp; omega
  rw [e1, Bool.true_and, show 8 * (i / 8) + i % 8 = i by omega]
theorem bbit_pack_out {l : List Nat} {w i : Nat} (h : l.length * w ≤ i) : bbit (packL l w) i = false := by
  unfold bbit
  by_cases hj : i / 8 < szB l.length w
  · rw [List.getD_eq_getElem?_getD, packL_get hj, Option.getD_some, byte_natOf, natOf_testBit, show 8 * (i / 8) + i % 8 = i by omega]
    unfold vbit
    have e1 : decide (i < l.length * w) = false := by simp; omega
    rw [e1, Bool.false_and, Bool.and_false]
  · rw [List.getD_eq_getElem?_getD, List.getElem?_eq_none (by rw [packL_length]; omega)]
    simp
theorem stream_div {w i k : Nat} (h : k < w) : (i * w + k) / w = i ∧ (i * w + k) % w = k := by
  have hw : 0 < w := by omega
  rw [Nat.mul_comm i w]
  exact ⟨by rw [Nat.mul_add_div hw, Nat.div_eq_of_lt h, Nat.add_zero], by rw [Nat.mul_add_mod, Nat.mod_eq_of_lt h]⟩
theorem stream_lt {n w i k : Nat} (hi : i < n) (h : k < w) : i * w + k < n * w := by
  have : (i + 1) * w ≤ n * w := Nat.mul_le_mul_right w hi
  rw [Nat.succ_mul] at this
  omega
theorem numB_pack {l : List Nat} {w i : Nat} (hi : i < l.length) : numB (packL l w) w i = l.getD i 0 % 2 ^ w := by
  unfold numB
  rw [← natOf_bits]
  refine natOf_congr w fun k hk => ?_
  obtain ⟨d1, d2⟩ := stream_div (i := i) hk
  rw [bbit_pack (stream_lt hi hk)]
  unfold vbit
  have e1 : decide (i * w + k < l.length * w) = true := by simpa using stream_lt hi hk
  rw [e1, Bool.true_and, d1, d2]
theorem packL_unpL {b : List UInt8} {n w : Nat} (hb : b.length = szB n w) (hz : ∀ i, n * w ≤ i → i < 8 * b.length → bbit b i = false) : packL (unpL b n w) w = b := by
  apply List.ext_getElem?
  intro j
  by_cases hj : j < b.length
  · rw [packL_get (by rw [unpL_length, ← hb]; exact hj), List.getElem?_eq_getElem hj]
    congr 1
    have e : natOf (fun k => vbit (unpL b n w) w (8 * j + k)) 8 = (b[j]).toNat := by
      rw [← natOf_self (x := (b[j]).toNat) (n := 8) (UInt8.toNat_lt _)]
      refine natOf_congr 8 fun k hk => ?_
      have hbb : bbit b (8 * j + k) = (b[j]).toNat.testBit k := by
        unfold bbit
        rw [show (8 * j + k) / 8 = j by omega, show (8 * j + k) % 8 = k by omega, List.getD_eq_getElem?_getD, List.getElem?_eq_getElem hj, Option.getD_some]
      rw [← hbb]
      unfold vbit
      rw [unpL_length]
      by_cases hi : 8 * j + k < n * w
      · have hw : 0 < w := by
          rcases Nat.eq_zero_or_pos w with h0 | h0
          · rw [h0] at hi; omega
          · exact h0
        have hq : (8 * j + k) / w < n := by rw [Nat.div_lt_iff_lt_mul hw]; exact hi
        have e1 : decide (8 * j + k < n * w) = true := by simpa using hi
        rw [e1, Bool.true_and, List.getD_eq_getElem?_getD, unpL_get hq, Option.getD_some]
        unfold numB
        rw [natOf_testBit]
        have e2 : decide ((8 * j + k) % w < w) = true := by simpa using Nat.mod_lt _ hw
        rw [e2, Bool.true_and]
        congr 1
        rw [Nat.mul_comm]
        exact Nat.div_add_mod _ w
      · have e1 : decide (8 * j + k < n * w) = false := by simpa using hi
        rw [e1, Bool.false_and]
        exact (hz _ (by omega) (by omega)).symm
    rw [e]
    exact UInt8.ofNat_toNat
  · rw [List.getElem?_eq_none (by rw [packL_length, unpL_length, ← hb]; omega), List.getElem?_eq_none (by omega)]
theorem numB_lt (b : List UInt8) (w i : Nat) : numB b w i < 2 ^ w := natOf_lt _ w
end Go.Proofs.YthmipnokimlbdaaGreat
/-
  Shaken: what the claims of this seat need of this text. No condition.
-/
namespace Go.Proofs.YthmipnokimlbdaaGreat
set_option maxRecDepth 8000
set_option linter.unusedVariables false
set_option linter.unusedSimpArgs false
def partB (l : List Nat) (w m : Nat) : List UInt8 := (List.range (szB l.length w)).map fun j => UInt8.ofNat (natOf (fun k => decide (8 * j + k < m) && vbit l w (8 * j + k)) 8)
theorem partB_length (l : List Nat) (w m : Nat) : (partB l w m).length = szB l.length w := by simp [partB]
theorem partB_get {l : List Nat} {w m j : Nat} (h : j < szB l.length w) : (partB l w m)[j]? = some (UInt8.ofNat (natOf (fun k => decide (8 * j + k < m) && vbit l w (8 * j + k)) 8)) := by
  unfold partB
  rw [List.getElem?_map, List.getElem?_range h]
  rfl
theorem natOf_none : ∀ n, natOf (fun _ => false) n = 0
  | 0 => rfl
  | n + 1 => by rw [natOf, natOf_none n]; simp
theorem partB_zero (l : List Nat) (w : Nat) : partB l w 0 = List.replicate (szB l.length w) 0 := by
  apply List.ext_getElem?
  intro j
  by_cases hj : j < szB l.length w
  · rw [partB_get hj, List.getElem?_replicate, if_pos hj, natOf_congr (g := fun _ => false) 8 (fun k _ => by simp), natOf_none]
    rfl
  · rw [List.getElem?_eq_none (by rw [partB_length]; omega), List.getElem?_eq_none (by simp; omega)]
theorem partB_all (l : List Nat) (w : Nat) : partB l w (l.length * w) = packL l w := by
  apply List.ext_getElem?
  intro j
  by_cases hj : j < szB l.length w
  · rw [partB_get hj, packL_get hj, natOf_congr (g := fun k => vbit l w (8 * j + k)) 8 (fun k _ => by
      unfold vbit
      by_cases h : 8 * j + k < l.length * w
      · have e1 : decide (8 * j + k < l.length * w) = true := by simpa using h
        rw [e1, Bool.true_and]
      · have e1 : decide (8 * j + k < l.length * w) = false := by simpa using h
        rw [e1, Bool.false_and, Bool.false_and])]
  · rw [List.getElem?_eq_none (by rw [partB_length]; omega), List.getElem?_eq_none (by rw [packL_length]; omega)]
end Go.Proofs.YthmipnokimlbdaaGreat
/-
  Shaken: what the claims of this seat need of this text. No condition.
-/
namespace Go.Proofs.YthmipnokimlbdaaGreat
set_option maxRecDepth 8000
open Go.RowKit
def dec : Nat → Nat → List UInt8 → Nat × Nat × Nat
  | _, _, [] => (0, 0, 2)
  | i, n, c :: r =>
    if (i = 9 ∧ 1 < c.toNat) ∨ (0 < i ∧ c.toNat = 0) then (0, 0, 4)
    else if c.toNat < 128 then (n + c.toNat % 128 * 128 ^ i, i + 1, 0)
    else dec (i + 1) (n + c.toNat % 128 * 128 ^ i) r
def dcd (l : List UInt8) (off : Int) : Int × Int × Int :=
  if off < 0 ∨ (l.length : Int) < off then (0, 0, 1)
  else match dec 0 0 (l.drop off.toNat) with
    | (n, k, e) => ((n : Int), if e = 0 then off + k else 0, (e : Int))
theorem dcd_bad {l : List UInt8} {off : Int} (h : off < 0 ∨ (l.length : Int) < off) : dcd l off = (0, 0, 1) := by unfold dcd; rw [if_pos h]
theorem dcd_ok {l : List UInt8} {off : Int} (h : ¬ (off < 0 ∨ (l.length : Int) < off)) {n k e : Nat} (hd : dec 0 0 (l.drop off.toNat) = (n, k, e)) :
    dcd l off = ((n : Int), if e = 0 then off + k else 0, (e : Int)) := by unfold dcd; rw [if_neg h, hd]
theorem dec_end (i n : Nat) : dec i n [] = (0, 0, 2) := rfl
theorem dec_bad {i n : Nat} {c : UInt8} {r : List UInt8} (h : (i = 9 ∧ 1 < c.toNat) ∨ (0 < i ∧ c.toNat = 0)) : dec i n (c :: r) = (0, 0, 4) := by
  rw [dec, if_pos h]
theorem dec_last {i n : Nat} {c : UInt8} {r : List UInt8} (h : ¬ ((i = 9 ∧ 1 < c.toNat) ∨ (0 < i ∧ c.toNat = 0))) (hc : c.toNat < 128) :
    dec i n (c :: r) = (n + c.toNat % 128 * 128 ^ i, i + 1, 0) := by rw [dec, if_neg h, if_pos hc]
theorem dec_more {i n : Nat} {c : UInt8} {r : List UInt8} (h : ¬ ((i = 9 ∧ 1 < c.toNat) ∨ (0 < i ∧ c.toNat = 0))) (hc : ¬ c.toNat < 128) :
    dec i n (c :: r) = dec (i + 1) (n + c.toNat % 128 * 128 ^ i) r := by rw [dec, if_neg h, if_neg hc]
theorem pow_step (i : Nat) : 128 ^ (i + 1) = 128 ^ i * 128 := Nat.pow_succ ..
theorem sum_lt {i n c : Nat} (hn : n < 128 ^ i) : n + c % 128 * 128 ^ i < 128 ^ (i + 1) := by
  rw [pow_step]
  have h1 : c % 128 ≤ 127 := by omega
  have h2 : c % 128 * 128 ^ i ≤ 127 * 128 ^ i := Nat.mul_le_mul_right _ h1
  omega
theorem sum_lt64 {i n c : Nat} (hi : i ≤ 9) (hn : n < 128 ^ i) (hc : i = 9 → c ≤ 1) : n + c % 128 * 128 ^ i < 18446744073709551616 := by
  by_cases h9 : i = 9
  · subst h9
    have := hc rfl
    have e : (128 : Nat) ^ 9 = 9223372036854775808 := by decide
    rw [e] at hn ⊢
    have h1 : c % 128 ≤ 1 := by omega
    have h2 : c % 128 * 9223372036854775808 ≤ 1 * 9223372036854775808 := Nat.mul_le_mul_right _ h1
    omega
  · have h1 := sum_lt (c := c) hn
    have h2 : 128 ^ (i + 1) ≤ 128 ^ 9 := Nat.pow_le_pow_right (by decide) (by omega)
    have e : (128 : Nat) ^ 9 = 9223372036854775808 := by decide
    omega
theorem round_or {i n : Nat} {c : UInt8} (hi : i ≤ 9) (hn : n < 128 ^ i) (hc : i = 9 → c.toNat ≤ 1) :
    bits .or .u64 (n : Int) (IntKind.u64.wrap (IntKind.u64.wrap (bits .andNot .u8 (c.toNat : Int) 128) * 2 ^ (7 * i))) = ((n + c.toNat % 128 * 128 ^ i : Nat) : Int) := by
  have hcl : c.toNat < 256 := c.toNat_lt
  have h1 : bits .andNot .u8 (c.toNat : Int) 128 = ((c.toNat % 128 : Nat) : Int) := by
    have := u8_andNot_nat c.toNat 128 (by omega) (by omega)
    rw [show ((128 : Nat) : Int) = 128 from rfl] at this
    rw [this, nat_mask7]
  have hs := sum_lt64 hi hn hc
  have hp : (2 : Nat) ^ (7 * i) = 128 ^ i := by rw [Nat.pow_mul]
  have h2 : IntKind.u64.wrap (IntKind.u64.wrap (bits .andNot .u8 (c.toNat : Int) 128) * 2 ^ (7 * i)) = ((c.toNat % 128 * 128 ^ i : Nat) : Int) := by
    have hw : IntKind.u64.wrap ((c.toNat % 128 : Nat) : Int) = ((c.toNat % 128 : Nat) : Int) := by rw [IntKind.wrap_u64]; omega
    rw [h1, hw, IntKind.wrap_u64]
    have e : (((c.toNat % 128 : Nat) : Int) * 2 ^ (7 * i)) = ((c.toNat % 128 * 128 ^ i : Nat) : Int) := by
      rw [← hp]; simp
    rw [e]
    omega
  rw [h2]
  have hn64 : n < 18446744073709551616 := by omega
  rw [u64_or_nat n _ hn64 (by omega)]
  have hj := nat_join (7 * i) (c.toNat % 128 * 128 ^ i) n (by rw [hp]; exact Nat.mul_mod_left _ _) (by rw [hp]; exact hn)
  rw [Nat.or_comm, hj, Nat.add_comm]
end Go.Proofs.YthmipnokimlbdaaGreat
/-
  Shaken: what the claims of this seat need of this text. No condition.
-/
namespace Go.Proofs.YthmipnokimlbdaaGreat
set_option maxRecDepth 8000
set_option linter.unusedVariables false
set_option linter.unusedSimpArgs false
abbrev Rn := Int × Int
def sumC (l : List Rn) : Int := (l.map Prod.snd).foldl (· + ·) 0
theorem foldl_add (l : List Int) : ∀ a : Int, l.foldl (· + ·) a = a + l.foldl (· + ·) 0 := by
  induction l with
  | nil => intro a; simp
  | cons x l ih => intro a; rw [List.foldl_cons, List.foldl_cons, ih (a + x), ih (0 + x)]; omega
theorem sumC_nil : sumC [] = 0 := rfl
theorem sumC_cons (x : Rn) (l : List Rn) : sumC (x :: l) = x.2 + sumC l := by
  unfold sumC
  rw [List.map_cons, List.foldl_cons, foldl_add]
  omega
theorem sumC_append (l r : List Rn) : sumC (l ++ r) = sumC l + sumC r := by
  induction l with
  | nil => simp [sumC_nil]
  | cons x l ih => rw [List.cons_append, sumC_cons, sumC_cons, ih]; omega
theorem sumC_snoc (l : List Rn) (x : Rn) : sumC (l ++ [x]) = sumC l + x.2 := by rw [sumC_append, sumC_cons, sumC_nil]; omega
theorem sumC_take {l : List Rn} {j : Nat} (h : j < l.length) : sumC (l.take (j + 1)) = sumC (l.take j) + l[j].2 := by rw [List.take_succ_eq_append_getElem h, sumC_snoc]
def okRun (l : List Rn) (j : Nat) : Bool :=
  match l[j]? with
  | some x => decide (1 ≤ x.2) && decide (x.2 ≤ 65536 - sumC (l.take j)) && (decide (j = 0) || decide ((l[j - 1]?).map Prod.fst ≠ some x.1))
  | none => true
def validR (l : List Rn) : Bool := (List.range l.length).all (okRun l)
theorem validR_iff {l : List Rn} : validR l = true ↔ ∀ j, j < l.length → okRun l j = true := by simp [validR, List.all_eq_true]
theorem okRun_iff {l : List Rn} {j : Nat} (h : j < l.length) : okRun l j = true ↔ 1 ≤ l[j].2 ∧ l[j].2 ≤ 65536 - sumC (l.take j) ∧ (0 < j → ∀ h2 : j - 1 < l.length, l[j - 1].1 ≠ l[j].1) := by
  unfold okRun
  rw [List.getElem?_eq_getElem h]
  simp only [Bool.and_eq_true, Bool.or_eq_true, decide_eq_true_eq]
  constructor
  · rintro ⟨⟨h1, h2⟩, h3⟩
    refine ⟨h1, h2, fun hj hl => ?_⟩
    rcases h3 with h3 | h3
    · omega
    · intro he
      apply h3
      rw [List.getElem?_eq_getElem hl, ← he]
      rfl
  · rintro ⟨h1, h2, h3⟩
    refine ⟨⟨h1, h2⟩, ?_⟩
    by_cases hj : j = 0
    · exact .inl hj
    · have hl : j - 1 < l.length := by omega
      refine .inr fun he => h3 (by omega) hl ?_
      rw [List.getElem?_eq_getElem hl] at he
      simpa using he
theorem valid_sum {l : List Rn} (h : validR l = true) : ∀ j, j ≤ l.length → 0 ≤ sumC (l.take j) ∧ sumC (l.take j) ≤ 65536 ∧ (j : Int) ≤ sumC (l.take j)
  | 0, _ => by rw [List.take_zero, sumC_nil]; omega
  | j + 1, hj => by
    have ih := valid_sum h j (by omega)
    have hlt : j < l.length := by omega
    have h1 := (okRun_iff hlt).1 (validR_iff.1 h j hlt)
    rw [sumC_take hlt]
    omega
theorem valid_count {l : List Rn} (h : validR l = true) {j : Nat} (hj : j < l.length) : 1 ≤ l[j].2 ∧ l[j].2 ≤ 65536 - sumC (l.take j) := by
  have h1 := (okRun_iff hj).1 (validR_iff.1 h j hj)
  exact ⟨h1.1, h1.2.1⟩
theorem valid_length {l : List Rn} (h : validR l = true) : l.length ≤ 65536 := by
  have := valid_sum h l.length (Nat.le_refl _)
  omega
def expR : List Rn → List Int
  | [] => []
  | x :: l => List.replicate x.2.toNat x.1 ++ expR l
theorem expR_append (l r : List Rn) : expR (l ++ r) = expR l ++ expR r := by
  induction l with
  | nil => rfl
  | cons x l ih => rw [List.cons_append, expR, expR, ih, List.append_assoc]
theorem expR_snoc (l : List Rn) (x : Rn) : expR (l ++ [x]) = expR l ++ List.replicate x.2.toNat x.1 := by rw [expR_append]; simp [expR]
theorem expR_take {l : List Rn} {j : Nat} (h : j < l.length) : expR (l.take (j + 1)) = expR (l.take j) ++ List.replicate l[j].2.toNat l[j].1 := by rw [List.take_succ_eq_append_getElem h, expR_snoc]
theorem expR_length {l : List Rn} (h : ∀ x ∈ l, 0 ≤ x.2) : ((expR l).length : Int) = sumC l := by
  induction l with
  | nil => rfl
  | cons x l ih =>
    rw [expR, List.length_append, List.length_replicate, sumC_cons]
    have h1 := ih fun y hy => h y (List.mem_cons_of_mem _ hy)
    have h2 := h x (List.mem_cons_self ..)
    omega
theorem valid_nonneg {l : List Rn} (h : validR l = true) : ∀ x ∈ l, 0 ≤ x.2 := by
  intro x hx
  obtain ⟨j, hj, rfl⟩ := List.getElem_of_mem hx
  have := valid_count h hj
  omega
theorem valid_expR {l : List Rn} (h : validR l = true) : (expR l).length ≤ 65536 := by
  have h1 := expR_length (valid_nonneg h)
  have h2 := valid_sum h l.length (Nat.le_refl _)
  rw [List.take_length] at h2
  omega
def pushR (out : List Rn) (v : Int) : List Rn :=
  match out.getLast? with
  | some x => if x.1 = v then out.dropLast ++ [(x.1, x.2 + 1)] else out ++ [(v, 1)]
  | none => out ++ [(v, 1)]
def runsR (vs : List Int) : List Rn := vs.foldl pushR []
theorem runsR_snoc (vs : List Int) (v : Int) : runsR (vs ++ [v]) = pushR (runsR vs) v := by simp [runsR]
theorem runsR_take {vs : List Int} {j : Nat} (h : j < vs.length) : runsR (vs.take (j + 1)) = pushR (runsR (vs.take j)) vs[j] := by rw [List.take_succ_eq_append_getElem h, runsR_snoc]
theorem last_split {out : List Rn} {x : Rn} (h : out.getLast? = some x) : out = out.dropLast ++ [x] := by
  have hne : out ≠ [] := by intro e; rw [e] at h; cases h
  rw [List.getLast?_eq_some_getLast hne] at h
  injection h with h
  rw [← h]
  exact (List.dropLast_concat_getLast hne).symm
theorem expR_push {out : List Rn} (h : ∀ x ∈ out, 0 ≤ x.2) (v : Int) : expR (pushR out v) = expR out ++ [v] := by
  unfold pushR
  cases hl : out.getLast? with
  | none => simp only [expR_snoc]; rfl
  | some x =>
    simp only
    split
    · rename_i he
      have hs := last_split hl
      have h0 : 0 ≤ x.2 := h x (by rw [hs]; simp)
      conv => rhs; rw [hs]
      rw [expR_snoc, expR_snoc]
      simp only
      rw [show (x.2 + 1).toNat = x.2.toNat + 1 by omega, List.replicate_succ', he, List.append_assoc]
    · rw [expR_snoc]; rfl
theorem pushR_pos {out : List Rn} (h : ∀ x ∈ out, 1 ≤ x.2) (v : Int) : ∀ x ∈ pushR out v, 1 ≤ x.2 := by
  intro y hy
  unfold pushR at hy
  cases hl : out.getLast? with
  | none =>
    rw [hl] at hy
    simp only [List.mem_append, List.mem_singleton] at hy
    rcases hy with hy | rfl
    · exact h y hy
    · show (1 : Int) ≤ 1; omega
  | some x =>
    rw [hl] at hy
    simp only at hy
    split at hy
    · simp only [List.mem_append, List.mem_singleton] at hy
      rcases hy with hy | rfl
      · exact h y (List.dropLast_subset _ hy)
      · have : 1 ≤ x.2 := h x (by rw [last_split hl]; simp)
        show (1 : Int) ≤ x.2 + 1
        omega
    · simp only [List.mem_append, List.mem_singleton] at hy
      rcases hy with hy | rfl
      · exact h y hy
      · show (1 : Int) ≤ 1; omega
theorem runsR_pos (vs : List Int) : ∀ j, ∀ x ∈ runsR (vs.take j), 1 ≤ x.2
  | 0 => by intro x hx; rw [List.take_zero] at hx; cases hx
  | j + 1 => by
    by_cases h : j < vs.length
    · rw [runsR_take h]; exact pushR_pos (runsR_pos vs j) _
    · rw [List.take_of_length_le (by omega)]
      have := runsR_pos vs j
      rwa [List.take_of_length_le (by omega)] at this
theorem runsR_pos' (vs : List Int) : ∀ x ∈ runsR vs, 1 ≤ x.2 := by have := runsR_pos vs vs.length; rwa [List.take_length] at this
theorem expR_runs_take (vs : List Int) : ∀ j, j ≤ vs.length → expR (runsR (vs.take j)) = vs.take j
  | 0, _ => rfl
  | j + 1, h => by
    have hlt : j < vs.length := by omega
    rw [runsR_take hlt, expR_push (fun x hx => by have := runsR_pos vs j x hx; omega), expR_runs_take vs j (by omega), ← List.take_succ_eq_append_getElem hlt]
theorem expR_runs (vs : List Int) : expR (runsR vs) = vs := by have := expR_runs_take vs vs.length (Nat.le_refl _); rwa [List.take_length] at this
def adjR : List Rn → Prop
  | x :: y :: l => x.1 ≠ y.1 ∧ adjR (y :: l)
  | _ => True
theorem adjR_get {l : List Rn} (h : adjR l) : ∀ j, (h1 : j + 1 < l.length) → l[j].1 ≠ l[j + 1].1 := by
  induction l with
  | nil => intro j h1; simp at h1
  | cons x l ih =>
    intro j h1
    cases l with
    | nil => simp at h1
    | cons y l =>
      cases j with
      | zero => exact h.1
      | succ j => exact ih h.2 j (by simpa using h1)
theorem adj_same : ∀ {o : List Rn} {x y : Rn}, adjR (o ++ [x]) → x.1 = y.1 → adjR (o ++ [y])
  | [], _, _, _, _ => trivial
  | [z], _, _, h, e => ⟨by rw [← e]; exact h.1, trivial⟩
  | z :: u :: o, _, _, h, e => ⟨h.1, adj_same (o := u :: o) h.2 e⟩
theorem adj_next : ∀ {o : List Rn} {x y : Rn}, adjR (o ++ [x]) → x.1 ≠ y.1 → adjR (o ++ [x] ++ [y])
  | [], _, _, _, e => ⟨e, trivial⟩
  | [z], _, _, h, e => ⟨h.1, e, trivial⟩
  | z :: u :: o, _, _, h, e => ⟨h.1, adj_next (o := u :: o) h.2 e⟩
theorem push_adj {out : List Rn} (h : adjR out) (v : Int) : adjR (pushR out v) := by
  unfold pushR
  cases hl : out.getLast? with
  | none =>
    have : out = [] := List.getLast?_eq_none_iff.1 hl
    subst this
    trivial
  | some x =>
    have hs := last_split hl
    simp only
    split
    · rw [hs] at h
      exact adj_same h rfl
    · rename_i he
      rw [hs] at h
      rw [hs]
      exact adj_next h he
theorem runs_adj (vs : List Int) : ∀ j, adjR (runsR (vs.take j))
  | 0 => trivial
  | j + 1 => by
    by_cases h : j < vs.length
    · rw [runsR_take h]; exact push_adj (runs_adj vs j) _
    · rw [List.take_of_length_le (by omega)]
      have := runs_adj vs j
      rwa [List.take_of_length_le (by omega)] at this
theorem runs_adj' (vs : List Int) : adjR (runsR vs) := by have := runs_adj vs vs.length; rwa [List.take_length] at this
theorem sumC_split (l : List Rn) (j : Nat) : sumC l = sumC (l.take j) + sumC (l.drop j) := by rw [← sumC_append, List.take_append_drop]
theorem sumC_nonneg {l : List Rn} (h : ∀ x ∈ l, 0 ≤ x.2) : 0 ≤ sumC l := by have := expR_length h; omega
theorem sumC_le {l : List Rn} (h : ∀ x ∈ l, 0 ≤ x.2) {j : Nat} (hj : j < l.length) : sumC (l.take j) + l[j].2 ≤ sumC l := by
  rw [← sumC_take hj, sumC_split l (j + 1)]
  have := sumC_nonneg (l := l.drop (j + 1)) fun x hx => h x (List.mem_of_mem_drop hx)
  omega
theorem runs_valid {vs : List Int} (h : vs.length ≤ 65536) : validR (runsR vs) = true := by
  rw [validR_iff]
  intro j hj
  rw [okRun_iff hj]
  have hp := runsR_pos' vs
  have hn : ∀ x ∈ runsR vs, 0 ≤ x.2 := fun x hx => by have := hp x hx; omega
  have hs := expR_length hn
  rw [expR_runs] at hs
  have h1 := sumC_le hn hj
  refine ⟨hp _ (List.getElem_mem hj), by omega, fun h0 h2 => ?_⟩
  have h3 := adjR_get (runs_adj' vs) (j - 1) (by omega)
  have h4 : j - 1 + 1 = j := by omega
  simp only [h4] at h3
  exact h3
end Go.Proofs.YthmipnokimlbdaaGreat
/-
  Shaken: what the claims of this seat need of this text. No condition.
-/
namespace Go.Proofs.YthmipnokimlbdaaGreat
set_option maxRecDepth 8000
open Go.RowKit
def FreshV (H : Nat) (v : Value) : Prop := ∀ b o s n c, v = .slice (some ⟨b, o, s⟩) n c → H ≤ b
theorem FreshV.none_ (H n c : Nat) : FreshV H (.slice none n c) := fun _ _ _ _ _ h => by cases h
theorem FreshV.mono {H H' : Nat} {v : Value} (h : FreshV H v) (hl : H' ≤ H) : FreshV H' v := fun b o s n c e => Nat.le_trans hl (h b o s n c e)
theorem FreshV.laid {H g : Nat} (h : H ≤ g) (o n c : Nat) : FreshV H (.slice (some ⟨g, o, none⟩) n c) := fun b o s n c e => by
  injection e with e
  injection e with e
  injection e with e
  omega
theorem FreshV.of_own {w : World} {base : Nat} {e : TypeId} {size : Nat} {v : Value} {n : Nat} {xs : List Value} (h : w.ownsRow base e size v n xs) : FreshV base v := by
  rcases h.2 with ⟨rfl, _⟩ | ⟨g, cap, cur, rfl, hb, _⟩
  · exact FreshV.none_ _ _ _
  · exact FreshV.laid hb _ _ _
def IntB (w : World) (v : Value) : Prop := ∀ b o s n c, v = .slice (some ⟨b, o, s⟩) n c → ∃ cs m, w.heap[b]? = some (.cells cs 2 m)
theorem IntB.none_ (w : World) (n c : Nat) : IntB w (.slice none n c) := fun _ _ _ _ _ h => by cases h
theorem IntB.grow {w w' : World} {v : Value} (h : IntB w v) (hg : Grows w w') : IntB w' v := fun b o s n c e => by
  obtain ⟨cs, m, h1⟩ := h b o s n c e
  exact ⟨cs, m, (hg.block b (Array.getElem?_eq_some_iff.1 h1).1).trans h1⟩
def FreshI (H : Nat) (w : World) (v : Value) : Prop := FreshV H v ∧ IntB w v
theorem FreshI.none_ (H : Nat) (w : World) (n c : Nat) : FreshI H w (.slice none n c) := ⟨FreshV.none_ _ _ _, IntB.none_ _ _ _⟩
theorem FreshI.mono {H H' : Nat} {w : World} {v : Value} (h : FreshI H w v) (hl : H' ≤ H) : FreshI H' w v := ⟨h.1.mono hl, h.2⟩
theorem FreshI.grow {H : Nat} {w w' : World} {v : Value} (h : FreshI H w v) (hg : Grows w w') : FreshI H w' v := ⟨h.1, h.2.grow hg⟩
theorem FreshI.laid {H g : Nat} {w : World} {xs : List Value} (h : H ≤ g) (hr : Row w g 2 xs) (o n c : Nat) : FreshI H w (.slice (some ⟨g, o, none⟩) n c) :=
  ⟨FreshV.laid h _ _ _, fun b o s n c e => by
    injection e with e
    injection e with e
    injection e with e
    subst e
    exact ⟨_, _, hr⟩⟩
theorem FreshI.of_own {w : World} {base : Nat} {size : Nat} {v : Value} {n : Nat} {xs : List Value} (h : w.ownsRow base 2 size v n xs) : FreshI base w v := by
  refine ⟨FreshV.of_own h, ?_⟩
  rcases h.2 with ⟨rfl, _⟩ | ⟨g, cap, cur, rfl, _, hg, _⟩
  · exact IntB.none_ _ _ _
  · intro b o s n c e
    injection e with e
    injection e with e
    injection e with e
    subst e
    exact ⟨_, _, hg⟩
theorem FreshI.same {H H' : Nat} {w w' : World} {v : Value} (h : FreshI H w v) (hl : H' ≤ H) (hs : ∀ b, H ≤ b → w'.heap[b]? = w.heap[b]?) : FreshI H' w' v := by
  refine ⟨h.1.mono hl, fun b o s n c e => ?_⟩
  obtain ⟨cs, m, h1⟩ := h.2 b o s n c e
  exact ⟨cs, m, (hs b (h.1 b o s n c e)).trans h1⟩
end Go.Proofs.YthmipnokimlbdaaGreat
