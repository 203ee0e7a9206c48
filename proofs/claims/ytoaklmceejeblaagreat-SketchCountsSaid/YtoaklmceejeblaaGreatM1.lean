/-
  Texts that the claims of this seat share, put together (Num, Words, Row, BpNum, BpNum2, DecNum, MixNum, Vec). No condition.
-/
import Derived.WalkKit
import Derived.Laws.BitsAll
import Derived.Below
import Derived.DataReads
import Derived.Laws.BytesArg
import Derived.Laws.OwnMore
import Derived.OwnWalk
/-
  Shaken: what the claims of this seat need of this text. No condition.
-/
namespace Go.Proofs.YtoaklmceejeblaaGreat
set_option maxRecDepth 8000
open Go.RowKit
theorem hidden {p : Prop} (h : p) : Hid p := h
theorem retU {k : IntKind} {a b : Int} (h : a = b) : Ending.returned (.int k a) = .returned (.int k b) := by rw [h]
theorem retB {a b : Bool} (h : a = b) : Ending.returned (.bool a) = .returned (.bool b) := by rw [h]
end Go.Proofs.YtoaklmceejeblaaGreat
/-
  Shaken: what the claims of this seat need of this text. No condition.
-/
namespace Go.Proofs.YtoaklmceejeblaaGreat
set_option maxRecDepth 8000
open Go.RowKit
abbrev Grows (w w' : World) : Prop := Below w.heap.size w w'
theorem Grows.of_below {w a b : World} (h : Grows w a) (k : Grows a b) : Grows w b := Below.trans h (Below.mono k h.size)
def bcells (l : List UInt8) : List Value := l.map fun c => .int .u8 (c.toNat : Int)
theorem bcells_length (l : List UInt8) : (bcells l).length = l.length := by simp [bcells]
def IsBytes (w : World) (v : Value) (l : List UInt8) : Prop :=
  ∃ A c, v = .slice A l.length c ∧ (0 < l.length → ∃ b off, A = some ⟨b, off, none⟩ ∧ ∀ j, (h : j < l.length) → w.cell? ⟨b, off + j, none⟩ = some (.int .u8 (l[j].toNat : Int)))
theorem IsBytes.grow {w w' : World} {v : Value} {l : List UInt8} (h : IsBytes w v l) (hb : Grows w w') : IsBytes w' v l := by
  obtain ⟨A, c, rfl, hc⟩ := h
  refine ⟨A, c, rfl, fun hl => ?_⟩
  obtain ⟨b, off, rfl, hcell⟩ := hc hl
  refine ⟨b, off, rfl, fun j hj => ?_⟩
  have h1 := hcell j hj
  exact (hb.cell (World.block_lt_of_cell? w _ h1)).trans h1
theorem IsBytes.nil_ (w : World) : IsBytes w (.slice none 0 0) [] := ⟨none, 0, rfl, fun h => absurd h (by simp)⟩
theorem IsBytes.of_own {w : World} {base : Nat} {e : TypeId} {v : Value} {n : Nat} {l : List UInt8} (h : w.ownsRow base e 1 v n (bcells l)) : IsBytes w v l := by
  have hlen : l.length = n := by have := h.1; rw [bcells_length] at this; omega
  rcases h.2 with ⟨rfl, h0⟩ | ⟨g, cap, cur, rfl, _, hg, hn, _, _, htake⟩
  · have : l = [] := List.eq_nil_of_length_eq_zero (by omega)
    subst this
    exact IsBytes.nil_ w
  · subst hlen
    refine ⟨_, cap, rfl, fun _ => ⟨g, 0, rfl, fun j hj => ?_⟩⟩
    have hc := h.cells (g := g) rfl j (.int .u8 (l[j].toNat : Int)) (by simp [bcells, hj])
    simpa [Addr.add_lit] using hc
theorem wf_i64 {z : Int} (h : (Lit.int .i64 z).wf = true) : -9223372036854775808 ≤ z ∧ z ≤ 9223372036854775807 := by
  simp [Lit.wf, IntKind.min, IntKind.max, IntKind.bits, IntKind.signed] at h
  omega
theorem wf_u64 {z : Int} (h : (Lit.int .u64 z).wf = true) : 0 ≤ z ∧ z ≤ 18446744073709551615 := by
  simp [Lit.wf, IntKind.min, IntKind.max, IntKind.bits, IntKind.signed] at h
  omega
theorem bcells_append (l r : List UInt8) : bcells (l ++ r) = bcells l ++ bcells r := by simp [bcells]
theorem oneCell_bcells (l : List UInt8) : ∀ u ∈ bcells l, u.oneCell' = true := by
  intro u hu
  simp only [bcells, List.mem_map] at hu
  obtain ⟨c, _, rfl⟩ := hu
  rfl
def strOf (l : List UInt8) : ByteArray := ⟨l.toArray⟩
def Row (w : World) (g : Nat) (e : TypeId) (xs : List Value) : Prop := w.heap[g]? = some (.cells xs.toArray e (0, 0))
theorem Row.lt {w : World} {g : Nat} {e : TypeId} {xs : List Value} (h : Row w g e xs) : g < w.heap.size := by
  rcases Nat.lt_or_ge g w.heap.size with hlt | hge
  · exact hlt
  · unfold Row at h; rw [Array.getElem?_eq_none hge] at h; cases h
theorem Row.cell {w : World} {g : Nat} {e : TypeId} {xs : List Value} (h : Row w g e xs) (i : Nat) : w.cell? ⟨g, i, none⟩ = xs[i]? := by
  have := cell_of_row w g i xs.toArray e (0, 0) h
  simpa using this
theorem Row.frozen {w : World} {g : Nat} {e : TypeId} {xs : List Value} (h : Row w g e xs) (i : Nat) : w.frozen? ⟨g, i, none⟩ = false := by
  unfold Row at h
  simp [World.frozen?, h]
theorem Row.new (w : World) (e : TypeId) (cs : Array Value) (xs : List Value) (h : cs = xs.toArray) : Row (w.alloc (.cells cs e)) w.heap.size e xs := by
  subst h; exact heap_alloc_new w _
theorem Row.at_ (w : World) (e : TypeId) (cs : Array Value) (xs : List Value) (h : cs = xs.toArray) (g : Nat) (hg : g = w.heap.size) : Row (w.alloc (.cells cs e)) g e xs := by
  subst hg; exact Row.new w e cs xs h
theorem Row.set_ {w : World} {g : Nat} {e : TypeId} {xs : List Value} (h : Row w g e xs) (i : Nat) (u : Value) : Row (w.setCell ⟨g, i, none⟩ u) g e (xs.set i u) := by
  unfold Row at h ⊢
  simp [World.setCell, Array.getElem?_modify, h]
theorem Row.own {w : World} {g base : Nat} {e : TypeId} {xs : List Value} (h : Row w g e xs) (hb : base ≤ g) (hm : xs.length ≤ maxLen) : w.ownsRow base e 1 (.slice (some ⟨g, 0, none⟩) xs.length xs.length) xs.length xs :=
  ⟨by omega, .inr ⟨g, xs.length, xs.toArray, rfl, hb, h, Nat.le_refl _, hm, by simp, by simp⟩⟩
theorem Row.grow {w w' : World} {g : Nat} {e : TypeId} {xs : List Value} (h : Row w g e xs) (hb : Grows w w') : Row w' g e xs := (hb.block g h.lt).trans h
theorem IsBytes.of_row {w : World} {g : Nat} {e : TypeId} {l : List UInt8} (h : Row w g e (bcells l)) (n c : Nat) (hn : n = l.length) : IsBytes w (.slice (some ⟨g, 0, none⟩) n c) l := by
  subst hn
  refine ⟨_, c, rfl, fun _ => ⟨g, 0, rfl, fun j hj => ?_⟩⟩
  have := h.cell j
  rw [Nat.zero_add, this]
  simp [bcells, hj]
end Go.Proofs.YtoaklmceejeblaaGreat
/-
  Shaken: what the claims of this seat need of this text. No condition.
-/
namespace Go.Proofs.YtoaklmceejeblaaGreat
set_option maxRecDepth 8000
open Go.RowKit
def Reads (w : World) (v : Value) (xs : List Value) : Prop :=
  ∃ A c, v = .slice A xs.length c ∧ xs.length ≤ c ∧ (0 < xs.length → ∃ b off, A = some ⟨b, off, none⟩ ∧ ∀ j, j < xs.length → w.cell? ⟨b, off + j, none⟩ = xs[j]?)
theorem Reads.grow {w w' : World} {v : Value} {xs : List Value} (h : Reads w v xs) (hb : Grows w w') : Reads w' v xs := by
  obtain ⟨A, c, rfl, hle, hc⟩ := h
  refine ⟨A, c, rfl, hle, fun hl => ?_⟩
  obtain ⟨b, off, rfl, hcell⟩ := hc hl
  refine ⟨b, off, rfl, fun j hj => ?_⟩
  have h1 := hcell j hj
  rw [List.getElem?_eq_getElem hj] at h1 ⊢
  exact (hb.cell (World.block_lt_of_cell? w _ h1)).trans h1
theorem Reads.nil_ (w : World) (c : Nat) : Reads w (.slice none 0 c) [] := ⟨none, c, rfl, Nat.zero_le _, fun h => absurd h (by simp)⟩
theorem Reads.slice_ {w : World} {v : Value} {xs : List Value} (h : Reads w v xs) : ∃ A c, v = .slice A xs.length c ∧ xs.length ≤ c := by
  obtain ⟨A, c, h1, h2, _⟩ := h; exact ⟨A, c, h1, h2⟩
theorem Reads.of_own {w : World} {base : Nat} {e : TypeId} {v : Value} {n : Nat} {xs : List Value} (h : w.ownsRow base e 1 v n xs) : Reads w v xs := by
  have hlen : xs.length = n := by have := h.1; omega
  rcases h.2 with ⟨rfl, h0⟩ | ⟨g, cap, cur, rfl, _, hg, hn, _, _, htake⟩
  · have : xs = [] := List.eq_nil_of_length_eq_zero (by omega)
    subst this
    exact Reads.nil_ w 0
  · subst hlen
    refine ⟨_, cap, rfl, hn, fun _ => ⟨g, 0, rfl, fun j hj => ?_⟩⟩
    have hc := h.cells (g := g) rfl j xs[j] (List.getElem?_eq_getElem hj)
    rw [List.getElem?_eq_getElem hj]
    simpa [Addr.add_lit] using hc
theorem Reads.of_row {w : World} {g : Nat} {e : TypeId} {xs : List Value} (h : Row w g e xs) (n c : Nat) (hn : n = xs.length) (hc : n ≤ c) : Reads w (.slice (some ⟨g, 0, none⟩) n c) xs := by
  subst hn
  refine ⟨_, c, rfl, hc, fun _ => ⟨g, 0, rfl, fun j hj => ?_⟩⟩
  rw [Nat.zero_add, h.cell j]
theorem Reads.bytes {w : World} {v : Value} {l : List UInt8} (h : Reads w v (bcells l)) : IsBytes w v l := by
  obtain ⟨A, c, rfl, _, hc⟩ := h
  rw [bcells_length] at hc ⊢
  refine ⟨A, c, rfl, fun hl => ?_⟩
  obtain ⟨b, off, rfl, hcell⟩ := hc hl
  refine ⟨b, off, rfl, fun j hj => ?_⟩
  rw [hcell j hj]
  simp [bcells, hj]
theorem ownsRow_base {w : World} {b b' : Nat} {e : TypeId} {size : Nat} {v : Value} {n : Nat} {xs : List Value} (h : w.ownsRow b e size v n xs) (hb : b' ≤ b) : w.ownsRow b' e size v n xs := by
  refine ⟨h.1, ?_⟩
  rcases h.2 with h0 | ⟨g, cap, cur, h1, h2, h3⟩
  · exact .inl h0
  · exact .inr ⟨g, cap, cur, h1, Nat.le_trans hb h2, h3⟩
def ucells (l : List UInt64) : List Value := l.map fun c => .int .u64 (c.toNat : Int)
def icells (l : List Int) : List Value := l.map (Value.int .i64)
def tcells (l : List Bool) : List Value := l.map Value.bool
theorem ucells_length (l : List UInt64) : (ucells l).length = l.length := by simp [ucells]
theorem icells_length (l : List Int) : (icells l).length = l.length := by simp [icells]
theorem tcells_length (l : List Bool) : (tcells l).length = l.length := by simp [tcells]
theorem ucells_get {l : List UInt64} {j : Nat} (h : j < l.length) : (ucells l)[j]? = some (.int .u64 (l[j].toNat : Int)) := by simp [ucells, h]
theorem icells_get {l : List Int} {j : Nat} (h : j < l.length) : (icells l)[j]? = some (.int .i64 l[j]) := by simp [icells, h]
theorem tcells_get {l : List Bool} {j : Nat} (h : j < l.length) : (tcells l)[j]? = some (.bool l[j]) := by simp [tcells, h]
def toWords (zs : List Int) : List UInt64 := zs.map fun z => UInt64.ofNat z.toNat
theorem nat_u64 (z : Int) (h0 : 0 ≤ z) (h1 : z ≤ 18446744073709551615) : ((UInt64.ofNat z.toNat).toNat : Int) = z := by
  have : (UInt64.ofNat z.toNat).toNat = z.toNat := by
    rw [UInt64.toNat_ofNat']; exact Nat.mod_eq_of_lt (by omega)
  omega
theorem reads_of_words {w : World} {a : Option Addr} {len cap : Nat} {zs : List Int}
    (h : (a = none ∧ len = 0 ∧ cap = 0 ∧ zs = []) ∨ ∃ x, a = some x ∧ len ≤ cap ∧ cap ≤ maxLen ∧ zs.length = cap ∧ (∀ i, i < zs.length → w.cell? (x.add i) = some (.int .u64 (zs.getD i 0))) ∧ ∀ n ∈ zs, (Lit.int .u64 n).wf = true) :
    Reads w (.slice a len cap) (ucells (toWords (zs.take len))) ∧ (toWords (zs.take len)).length = len := by
  rcases h with ⟨rfl, rfl, rfl, rfl⟩ | ⟨x, rfl, hl, _, hz, hcell, hwz⟩
  · exact ⟨Reads.nil_ w 0, rfl⟩
  · have hlen : (toWords (zs.take len)).length = len := by simp [toWords]; omega
    refine ⟨⟨some x, cap, by rw [ucells_length, hlen], by rw [ucells_length, hlen]; exact hl, fun hpos => ?_⟩, hlen⟩
    rw [ucells_length, hlen] at hpos
    obtain ⟨b, off, spot⟩ := x
    have hc := hcell 0 (by omega)
    have hspot : spot = none := by simpa [Addr.add] using World.cell?_spot hc
    subst hspot
    refine ⟨b, off, rfl, fun j hj => ?_⟩
    have hj1 : j < (toWords (zs.take len)).length := by rw [ucells_length] at hj; exact hj
    rw [ucells_length, hlen] at hj
    have h1 := hcell j (by omega)
    rw [Addr.add_lit] at h1
    rw [h1, ucells_get hj1]
    have hmem : zs.getD j 0 ∈ zs := by
      have : j < zs.length := by omega
      simp [List.getD, List.getElem?_eq_getElem this]
    have hb := wf_u64 (hwz _ hmem)
    have hjl : j < zs.length := by omega
    have e : (toWords (zs.take len))[j] = UInt64.ofNat (zs.getD j 0).toNat := by
      simp [toWords, List.getD, List.getElem?_eq_getElem hjl]
    rw [e, nat_u64 _ hb.1 hb.2]
end Go.Proofs.YtoaklmceejeblaaGreat
/-
  Shaken: what the claims of this seat need of this text. No condition.
-/
namespace Go.Proofs.YtoaklmceejeblaaGreat
set_option maxRecDepth 8000
set_option linter.unusedVariables false
set_option linter.unusedSimpArgs false
def natOf (f : Nat → Bool) : Nat → Nat
  | 0 => 0
  | n + 1 => natOf f n + (if f n then 2 ^ n else 0)
def szB (n w : Nat) : Nat := (n * w + 7) / 8
def vbit (l : List Nat) (w i : Nat) : Bool := decide (i < l.length * w) && (l.getD (i / w) 0).testBit (i % w)
end Go.Proofs.YtoaklmceejeblaaGreat
/-
  Shaken: what the claims of this seat need of this text. No condition.
-/
namespace Go.Proofs.YtoaklmceejeblaaGreat
set_option maxRecDepth 8000
set_option linter.unusedVariables false
set_option linter.unusedSimpArgs false
def partB (l : List Nat) (w m : Nat) : List UInt8 := (List.range (szB l.length w)).map fun j => UInt8.ofNat (natOf (fun k => decide (8 * j + k < m) && vbit l w (8 * j + k)) 8)
end Go.Proofs.YtoaklmceejeblaaGreat
/-
  Shaken: what the claims of this seat need of this text. No condition.
-/
namespace Go.Proofs.YtoaklmceejeblaaGreat
set_option maxRecDepth 8000
open Go.RowKit
end Go.Proofs.YtoaklmceejeblaaGreat
/-
  Shaken: what the claims of this seat need of this text. No condition.
-/
namespace Go.Proofs.YtoaklmceejeblaaGreat
set_option maxRecDepth 8000
open Go.RowKit
def xs (k x : Nat) : Nat := x ^^^ x / 2 ^ k
def mul64 (x c : Nat) : Nat := x * c % 18446744073709551616
def mix (n : Nat) : Nat := xs 31 (mul64 (xs 27 (mul64 (xs 30 n) 0xBF58476D1CE4E5B9)) 0x94D049BB133111EB)
theorem xs_lt {k x : Nat} (h : x < 18446744073709551616) : xs k x < 18446744073709551616 := by
  have h1 : x / 2 ^ k < 2 ^ 64 := Nat.lt_of_le_of_lt (Nat.div_le_self _ _) h
  exact Nat.xor_lt_two_pow (n := 64) h h1
theorem mul64_lt (x c : Nat) : mul64 x c < 18446744073709551616 := Nat.mod_lt _ (by decide)
theorem mix_lt {n : Nat} : mix n < 18446744073709551616 := xs_lt (mul64_lt _ _)
theorem go_xs (k : Nat) {x : Nat} (h : x < 18446744073709551616) (y : Int) (hy : y = ((x / 2 ^ k : Nat) : Int)) : bits .xor .u64 (x : Int) y = (xs k x : Int) := by
  subst hy
  exact bits_xor_u64_nat _ _ h (Nat.lt_of_le_of_lt (Nat.div_le_self _ _) h)
theorem go_mul (x c : Nat) (C : Int) (hC : C = (c : Int)) : IntKind.u64.wrap ((x : Int) * C) = (mul64 x c : Int) := by
  subst hC
  rw [IntKind.wrap_u64]
  unfold mul64
  rw [Int.natCast_emod, Int.natCast_mul]
  rfl
theorem div_cast (x k : Nat) (K : Int) (hK : K = ((2 ^ k : Nat) : Int)) : (x : Int) / K = ((x / 2 ^ k : Nat) : Int) := by
  subst hK; exact (Int.natCast_ediv x (2 ^ k)).symm
theorem mix_go {n : Nat} (h : n < 18446744073709551616) :
    bits .xor .u64 (IntKind.u64.wrap (bits .xor .u64 (IntKind.u64.wrap (bits .xor .u64 (n : Int) ((n : Int) / 1073741824) * 13787848793156543929)) (IntKind.u64.wrap (bits .xor .u64 (n : Int) ((n : Int) / 1073741824) * 13787848793156543929) / 134217728) * 10723151780598845931))
      (IntKind.u64.wrap (bits .xor .u64 (IntKind.u64.wrap (bits .xor .u64 (n : Int) ((n : Int) / 1073741824) * 13787848793156543929)) (IntKind.u64.wrap (bits .xor .u64 (n : Int) ((n : Int) / 1073741824) * 13787848793156543929) / 134217728) * 10723151780598845931) / 2147483648) = (mix n : Int) := by
  rw [go_xs 30 h _ (div_cast n 30 _ (by decide)), go_mul (xs 30 n) 0xBF58476D1CE4E5B9 _ (by decide), go_xs 27 (mul64_lt _ _) _ (div_cast _ 27 _ (by decide)), go_mul _ 0x94D049BB133111EB _ (by decide), go_xs 31 (mul64_lt _ _) _ (div_cast _ 31 _ (by decide))]
  rfl
end Go.Proofs.YtoaklmceejeblaaGreat
/-
  Shaken: what the claims of this seat need of this text. No condition.
-/
namespace Go.Proofs.YtoaklmceejeblaaGreat
set_option maxRecDepth 8000
open Go.RowKit
set_option linter.unusedVariables false
set_option linter.unusedSimpArgs false
abbrev Str := List UInt8
structure Vec where
  T : Int
  is : List Int
  ts : List Str
  ns : List Bool
def scells (l : List Str) : List Value := l.map fun s => .string (strOf s)
theorem scells_length (l : List Str) : (scells l).length = l.length := by simp [scells]
theorem scells_get {l : List Str} {j : Nat} (h : j < l.length) : (scells l)[j]? = some (.string (strOf l[j])) := by simp [scells, h]
def IsS (w : World) (v : Value) (l : List Str) : Prop := Reads w v (scells l)
theorem IsS.grow {w w' : World} {v : Value} {l : List Str} (h : IsS w v l) (hb : Grows w w') : IsS w' v l := Reads.grow h hb
theorem IsS.slice_ {w : World} {v : Value} {l : List Str} (h : IsS w v l) : ∃ A c, v = .slice A l.length c := by
  obtain ⟨A, c, h1, h2⟩ := Reads.slice_ h
  rw [scells_length] at h1
  exact ⟨A, c, h1⟩
theorem IsS.at_ {w : World} {A : Option Addr} {c n : Nat} {l : List Str} (h : IsS w (.slice A n c) l) {k : Nat} (hk : k < l.length) : ∃ b f, A = some ⟨b, f, none⟩ ∧ w.cell? ⟨b, f + k, none⟩ = some (.string (strOf l[k])) := by
  obtain ⟨A', c', he, _, hc⟩ := h
  injection he with e1 e2 e3
  subst e1
  obtain ⟨b, f, rfl, hcell⟩ := hc (by rw [scells_length]; omega)
  refine ⟨b, f, rfl, ?_⟩
  rw [hcell k (by rw [scells_length]; exact hk), scells_get hk]
def IsI (w : World) (v : Value) (l : List Int) : Prop := Reads w v (icells l)
theorem IsI.grow {w w' : World} {v : Value} {l : List Int} (h : IsI w v l) (hb : Grows w w') : IsI w' v l := Reads.grow h hb
theorem IsI.slice_ {w : World} {v : Value} {l : List Int} (h : IsI w v l) : ∃ A c, v = .slice A l.length c := by
  obtain ⟨A, c, h1, h2⟩ := Reads.slice_ h
  rw [icells_length] at h1
  exact ⟨A, c, h1⟩
theorem IsI.at_ {w : World} {A : Option Addr} {c n : Nat} {l : List Int} (h : IsI w (.slice A n c) l) {k : Nat} (hk : k < l.length) : ∃ b f, A = some ⟨b, f, none⟩ ∧ w.cell? ⟨b, f + k, none⟩ = some (.int .i64 l[k]) := by
  obtain ⟨A', c', he, _, hc⟩ := h
  injection he with e1 e2 e3
  subst e1
  obtain ⟨b, f, rfl, hcell⟩ := hc (by rw [icells_length]; omega)
  refine ⟨b, f, rfl, ?_⟩
  rw [hcell k (by rw [icells_length]; exact hk), icells_get hk]
def IsT (w : World) (v : Value) (l : List Bool) : Prop := Reads w v (tcells l)
theorem IsT.grow {w w' : World} {v : Value} {l : List Bool} (h : IsT w v l) (hb : Grows w w') : IsT w' v l := Reads.grow h hb
theorem IsT.slice_ {w : World} {v : Value} {l : List Bool} (h : IsT w v l) : ∃ A c, v = .slice A l.length c := by
  obtain ⟨A, c, h1, h2⟩ := Reads.slice_ h
  rw [tcells_length] at h1
  exact ⟨A, c, h1⟩
theorem IsT.at_ {w : World} {A : Option Addr} {c n : Nat} {l : List Bool} (h : IsT w (.slice A n c) l) {k : Nat} (hk : k < l.length) : ∃ b f, A = some ⟨b, f, none⟩ ∧ w.cell? ⟨b, f + k, none⟩ = some (.bool l[k]) := by
  obtain ⟨A', c', he, _, hc⟩ := h
  injection he with e1 e2 e3
  subst e1
  obtain ⟨b, f, rfl, hcell⟩ := hc (by rw [tcells_length]; omega)
  refine ⟨b, f, rfl, ?_⟩
  rw [hcell k (by rw [tcells_length]; exact hk), tcells_get hk]
def IsV (w : World) (x : Value) (v : Vec) : Prop := ∃ a b c, x = .agg #[.int .i64 v.T, a, b, c] ∧ IsI w a v.is ∧ IsS w b v.ts ∧ IsT w c v.ns
theorem IsV.grow {w w' : World} {x : Value} {v : Vec} (h : IsV w x v) (hb : Grows w w') : IsV w' x v := by
  obtain ⟨a, b, c, h0, h1, h2, h3⟩ := h
  exact ⟨a, b, c, h0, h1.grow hb, h2.grow hb, h3.grow hb⟩
end Go.Proofs.YtoaklmceejeblaaGreat
