/-
  Texts that the claims of this seat share, put together (Num, Words, Row, BpNum, BpNum2, DecNum, MixNum, Vec). No condition.
-/
import Derived.WalkKit
import Derived.Laws.BitsAll
import Derived.Below
import Derived.DataReads
import Derived.Laws.BytesArg
import Derived.Laws.OwnMore
import Derived.OwnWalk
/-
  Shaken: what the claims of this seat need of this text. No condition.
-/
namespace Go.Proofs.YtoaklmceejeblaaGreat
set_option maxRecDepth 8000
open Go.RowKit
theorem hidden {p : Prop} (h : p) : Hid p := h
theorem retU {k : IntKind} {a b : Int} (h : a = b) : Ending.returned (.int k a) = .returned (.int k b) := by rw [h]
theorem retB {a b : Bool} (h : a = b) : Ending.returned (.bool a) = .returned (.bool b) := by rw [h]
theorem not_i64 (x : Int) (h0 : 0 ≤ x) (h1 : x < 9223372036854775808) : bits .xor .i64 (-1) x = -1 - x := by
  obtain ⟨X, rfl⟩ := Int.eq_ofNat_of_zero_le h0
  have hX : X < 18446744073709551616 := by omega
  show IntKind.i64.wrap ((BitVec.ofInt 64 (-1) ^^^ BitVec.ofInt 64 (X : Int)).toNat : Int) = _
  have ha : BitVec.ofInt 64 (-1) = BitVec.allOnes 64 := by decide
  rw [ha, BitVec.allOnes_xor, BitVec.toNat_not, ofInt_u64 X hX]
  have : (2:Nat)^64 = 18446744073709551616 := by decide
  rw [IntKind.wrap_i64]
  omega
theorem and1_u64 (x : Int) (h0 : 0 ≤ x) (h1 : x < 18446744073709551616) : bits .and .u64 x 1 = x % 2 := by
  rw [u64_and x 1 h0 h1 (by decide) (by decide)]
  obtain ⟨X, rfl⟩ := Int.eq_ofNat_of_zero_le h0
  have : (1 : Int).toNat = 1 := rfl
  rw [this, Int.toNat_natCast, nat_mask1]
  omega
end Go.Proofs.YtoaklmceejeblaaGreat
/-
  Shaken: what the claims of this seat need of this text. No condition.
-/
namespace Go.Proofs.YtoaklmceejeblaaGreat
set_option maxRecDepth 8000
open Go.RowKit
abbrev Grows (w w' : World) : Prop := Below w.heap.size w w'
theorem Grows.of_below {w a b : World} (h : Grows w a) (k : Grows a b) : Grows w b := Below.trans h (Below.mono k h.size)
def bcells (l : List UInt8) : List Value := l.map fun c => .int .u8 (c.toNat : Int)
theorem bcells_length (l : List UInt8) : (bcells l).length = l.length := by simp [bcells]
def IsBytes (w : World) (v : Value) (l : List UInt8) : Prop :=
  ∃ A c, v = .slice A l.length c ∧ (0 < l.length → ∃ b off, A = some ⟨b, off, none⟩ ∧ ∀ j, (h : j < l.length) → w.cell? ⟨b, off + j, none⟩ = some (.int .u8 (l[j].toNat : Int)))
theorem IsBytes.grow {w w' : World} {v : Value} {l : List UInt8} (h : IsBytes w v l) (hb : Grows w w') : IsBytes w' v l := by
  obtain ⟨A, c, rfl, hc⟩ := h
  refine ⟨A, c, rfl, fun hl => ?_⟩
  obtain ⟨b, off, rfl, hcell⟩ := hc hl
  refine ⟨b, off, rfl, fun j hj => ?_⟩
  have h1 := hcell j hj
  exact (hb.cell (World.block_lt_of_cell? w _ h1)).trans h1
theorem IsBytes.nil_ (w : World) : IsBytes w (.slice none 0 0) [] := ⟨none, 0, rfl, fun h => absurd h (by simp)⟩
theorem IsBytes.of_own {w : World} {base : Nat} {e : TypeId} {v : Value} {n : Nat} {l : List UInt8} (h : w.ownsRow base e 1 v n (bcells l)) : IsBytes w v l := by
  have hlen : l.length = n := by have := h.1; rw [bcells_length] at this; omega
  rcases h.2 with ⟨rfl, h0⟩ | ⟨g, cap, cur, rfl, _, hg, hn, _, _, htake⟩
  · have : l = [] := List.eq_nil_of_length_eq_zero (by omega)
    subst this
    exact IsBytes.nil_ w
  · subst hlen
    refine ⟨_, cap, rfl, fun _ => ⟨g, 0, rfl, fun j hj => ?_⟩⟩
    have hc := h.cells (g := g) rfl j (.int .u8 (l[j].toNat : Int)) (by simp [bcells, hj])
    simpa [Addr.add_lit] using hc
theorem nat_u8 (z : Int) (h0 : 0 ≤ z) (h1 : z ≤ 255) : ((UInt8.ofNat z.toNat).toNat : Int) = z := by
  have : (UInt8.ofNat z.toNat).toNat = z.toNat := by
    rw [UInt8.toNat_ofNat']; exact Nat.mod_eq_of_lt (by omega)
  omega
def toBytes (zs : List Int) : List UInt8 := zs.map fun z => UInt8.ofNat z.toNat
theorem wf_u8 {z : Int} (h : (Lit.int .u8 z).wf = true) : 0 ≤ z ∧ z ≤ 255 := by
  simp [Lit.wf, IntKind.min, IntKind.max, IntKind.bits, IntKind.signed] at h
  omega
theorem wf_i64 {z : Int} (h : (Lit.int .i64 z).wf = true) : -9223372036854775808 ≤ z ∧ z ≤ 9223372036854775807 := by
  simp [Lit.wf, IntKind.min, IntKind.max, IntKind.bits, IntKind.signed] at h
  omega
theorem isBytes_of_row {w : World} {a : Option Addr} {len cap : Nat} {zs : List Int}
    (h : (a = none ∧ len = 0 ∧ cap = 0 ∧ zs = []) ∨ ∃ x, a = some x ∧ len ≤ cap ∧ cap ≤ maxLen ∧ zs.length = cap ∧ (∀ i, i < zs.length → w.cell? (x.add i) = some (.int .u8 (zs.getD i 0))) ∧ ∀ n ∈ zs, (Lit.int .u8 n).wf = true) :
    IsBytes w (.slice a len cap) (toBytes (zs.take len)) ∧ (toBytes (zs.take len)).length = len ∧ len ≤ maxLen := by
  rcases h with ⟨rfl, rfl, rfl, rfl⟩ | ⟨x, rfl, hl, hm, hz, hcell, hwz⟩
  · exact ⟨IsBytes.nil_ w, rfl, by simp [maxLen]⟩
  · have hlen : (toBytes (zs.take len)).length = len := by simp [toBytes]; omega
    refine ⟨⟨some x, cap, by rw [hlen], fun hpos => ?_⟩, hlen, by omega⟩
    rw [hlen] at hpos
    obtain ⟨b, off, spot⟩ := x
    have hc := hcell 0 (by omega)
    have hspot : spot = none := by simpa [Addr.add] using World.cell?_spot hc
    subst hspot
    refine ⟨b, off, rfl, fun j hj => ?_⟩
    rw [hlen] at hj
    have h1 := hcell j (by omega)
    rw [Addr.add_lit] at h1
    rw [h1]
    have hmem : zs.getD j 0 ∈ zs := by
      have : j < zs.length := by omega
      simp [List.getD, List.getElem?_eq_getElem this]
    have hb := wf_u8 (hwz _ hmem)
    have hjl : j < zs.length := by omega
    have e : (toBytes (zs.take len))[j]'(by rw [hlen]; exact hj) = UInt8.ofNat (zs.getD j 0).toNat := by
      simp [toBytes, List.getD, List.getElem?_eq_getElem hjl]
    rw [e, nat_u8 _ hb.1 hb.2]
theorem bcells_append (l r : List UInt8) : bcells (l ++ r) = bcells l ++ bcells r := by simp [bcells]
theorem oneCell_bcells (l : List UInt8) : ∀ u ∈ bcells l, u.oneCell' = true := by
  intro u hu
  simp only [bcells, List.mem_map] at hu
  obtain ⟨c, _, rfl⟩ := hu
  rfl
def strOf (l : List UInt8) : ByteArray := ⟨l.toArray⟩
theorem run_string_bytes {P : Program} {w : World} {v : Value} {l : List UInt8} (h : IsBytes w v l) (src e : TypeId) (hs : P.underlying src = some (.slice e)) (he : P.underlying e = some (.int .u8)) (dst : TypeId)
    (hd : P.underlying dst = some .string) : (convert src dst v).run P w = .ok (.string (strOf l)) w := by
  obtain ⟨A, c, rfl, hc⟩ := h
  by_cases h0 : 0 < l.length
  · obtain ⟨b, off, rfl, hcell⟩ := hc h0
    have h1 := run_convert_bytes_arg (P := P) w src e hs he b off l.length c (l.map fun c => (c.toNat : Int)) (by simp) (fun i hi => by
      rw [hcell i hi]
      simp [List.getD, List.getElem?_eq_getElem hi]) dst hd
    rw [h1]
    congr 2
    simp only [strOfNums, strOf, List.map_map, ByteArray.mk.injEq]
    congr 1
    exact (List.map_congr_left (g := id) (fun c _ => by simp)).trans (List.map_id l)
  · have hl : l = [] := List.eq_nil_of_length_eq_zero (by omega)
    subst hl
    cases A with
    | none => exact run_convert_bytes_nil w src e hs he _ _ dst hd
    | some a =>
      have hld : (loadCells a ([] : List UInt8).length).run P w = .ok (([] : List Int).map (Value.int .u8)).toArray w := by
        simp [loadCells, loadCellsFrom]
      rw [run_convert_bytes_string w src dst e _ _ c hs he hd, run_bytesToString w a _ c [] hld]
      rfl
def Row (w : World) (g : Nat) (e : TypeId) (xs : List Value) : Prop := w.heap[g]? = some (.cells xs.toArray e (0, 0))
theorem Row.lt {w : World} {g : Nat} {e : TypeId} {xs : List Value} (h : Row w g e xs) : g < w.heap.size := by
  rcases Nat.lt_or_ge g w.heap.size with hlt | hge
  · exact hlt
  · unfold Row at h; rw [Array.getElem?_eq_none hge] at h; cases h
theorem Row.cell {w : World} {g : Nat} {e : TypeId} {xs : List Value} (h : Row w g e xs) (i : Nat) : w.cell? ⟨g, i, none⟩ = xs[i]? := by
  have := cell_of_row w g i xs.toArray e (0, 0) h
  simpa using this
theorem Row.frozen {w : World} {g : Nat} {e : TypeId} {xs : List Value} (h : Row w g e xs) (i : Nat) : w.frozen? ⟨g, i, none⟩ = false := by
  unfold Row at h
  simp [World.frozen?, h]
theorem Row.new (w : World) (e : TypeId) (cs : Array Value) (xs : List Value) (h : cs = xs.toArray) : Row (w.alloc (.cells cs e)) w.heap.size e xs := by
  subst h; exact heap_alloc_new w _
theorem Row.at_ (w : World) (e : TypeId) (cs : Array Value) (xs : List Value) (h : cs = xs.toArray) (g : Nat) (hg : g = w.heap.size) : Row (w.alloc (.cells cs e)) g e xs := by
  subst hg; exact Row.new w e cs xs h
theorem Row.set_ {w : World} {g : Nat} {e : TypeId} {xs : List Value} (h : Row w g e xs) (i : Nat) (u : Value) : Row (w.setCell ⟨g, i, none⟩ u) g e (xs.set i u) := by
  unfold Row at h ⊢
  simp [World.setCell, Array.getElem?_modify, h]
theorem Row.own {w : World} {g base : Nat} {e : TypeId} {xs : List Value} (h : Row w g e xs) (hb : base ≤ g) (hm : xs.length ≤ maxLen) : w.ownsRow base e 1 (.slice (some ⟨g, 0, none⟩) xs.length xs.length) xs.length xs :=
  ⟨by omega, .inr ⟨g, xs.length, xs.toArray, rfl, hb, h, Nat.le_refl _, hm, by simp, by simp⟩⟩
theorem Row.grow {w w' : World} {g : Nat} {e : TypeId} {xs : List Value} (h : Row w g e xs) (hb : Grows w w') : Row w' g e xs := (hb.block g h.lt).trans h
theorem IsBytes.of_row {w : World} {g : Nat} {e : TypeId} {l : List UInt8} (h : Row w g e (bcells l)) (n c : Nat) (hn : n = l.length) : IsBytes w (.slice (some ⟨g, 0, none⟩) n c) l := by
  subst hn
  refine ⟨_, c, rfl, fun _ => ⟨g, 0, rfl, fun j hj => ?_⟩⟩
  have := h.cell j
  rw [Nat.zero_add, this]
  simp [bcells, hj]
end Go.Proofs.YtoaklmceejeblaaGreat
/-
  Shaken: what the claims of this seat need of this text. No condition.
-/
namespace Go.Proofs.YtoaklmceejeblaaGreat
set_option maxRecDepth 8000
open Go.RowKit
def Reads (w : World) (v : Value) (xs : List Value) : Prop :=
  ∃ A c, v = .slice A xs.length c ∧ xs.length ≤ c ∧ (0 < xs.length → ∃ b off, A = some ⟨b, off, none⟩ ∧ ∀ j, j < xs.length → w.cell? ⟨b, off + j, none⟩ = xs[j]?)
theorem Reads.grow {w w' : World} {v : Value} {xs : List Value} (h : Reads w v xs) (hb : Grows w w') : Reads w' v xs := by
  obtain ⟨A, c, rfl, hle, hc⟩ := h
  refine ⟨A, c, rfl, hle, fun hl => ?_⟩
  obtain ⟨b, off, rfl, hcell⟩ := hc hl
  refine ⟨b, off, rfl, fun j hj => ?_⟩
  have h1 := hcell j hj
  rw [List.getElem?_eq_getElem hj] at h1 ⊢
  exact (hb.cell (World.block_lt_of_cell? w _ h1)).trans h1
theorem Reads.nil_ (w : World) (c : Nat) : Reads w (.slice none 0 c) [] := ⟨none, c, rfl, Nat.zero_le _, fun h => absurd h (by simp)⟩
theorem Reads.of_own {w : World} {base : Nat} {e : TypeId} {v : Value} {n : Nat} {xs : List Value} (h : w.ownsRow base e 1 v n xs) : Reads w v xs := by
  have hlen : xs.length = n := by have := h.1; omega
  rcases h.2 with ⟨rfl, h0⟩ | ⟨g, cap, cur, rfl, _, hg, hn, _, _, htake⟩
  · have : xs = [] := List.eq_nil_of_length_eq_zero (by omega)
    subst this
    exact Reads.nil_ w 0
  · subst hlen
    refine ⟨_, cap, rfl, hn, fun _ => ⟨g, 0, rfl, fun j hj => ?_⟩⟩
    have hc := h.cells (g := g) rfl j xs[j] (List.getElem?_eq_getElem hj)
    rw [List.getElem?_eq_getElem hj]
    simpa [Addr.add_lit] using hc
theorem Reads.of_row {w : World} {g : Nat} {e : TypeId} {xs : List Value} (h : Row w g e xs) (n c : Nat) (hn : n = xs.length) (hc : n ≤ c) : Reads w (.slice (some ⟨g, 0, none⟩) n c) xs := by
  subst hn
  refine ⟨_, c, rfl, hc, fun _ => ⟨g, 0, rfl, fun j hj => ?_⟩⟩
  rw [Nat.zero_add, h.cell j]
theorem Reads.bytes {w : World} {v : Value} {l : List UInt8} (h : Reads w v (bcells l)) : IsBytes w v l := by
  obtain ⟨A, c, rfl, _, hc⟩ := h
  rw [bcells_length] at hc ⊢
  refine ⟨A, c, rfl, fun hl => ?_⟩
  obtain ⟨b, off, rfl, hcell⟩ := hc hl
  refine ⟨b, off, rfl, fun j hj => ?_⟩
  rw [hcell j hj]
  simp [bcells, hj]
theorem ownsRow_base {w : World} {b b' : Nat} {e : TypeId} {size : Nat} {v : Value} {n : Nat} {xs : List Value} (h : w.ownsRow b e size v n xs) (hb : b' ≤ b) : w.ownsRow b' e size v n xs := by
  refine ⟨h.1, ?_⟩
  rcases h.2 with h0 | ⟨g, cap, cur, h1, h2, h3⟩
  · exact .inl h0
  · exact .inr ⟨g, cap, cur, h1, Nat.le_trans hb h2, h3⟩
def icells (l : List Int) : List Value := l.map (Value.int .i64)
def tcells (l : List Bool) : List Value := l.map Value.bool
theorem icells_length (l : List Int) : (icells l).length = l.length := by simp [icells]
theorem tcells_length (l : List Bool) : (tcells l).length = l.length := by simp [tcells]
theorem icells_get {l : List Int} {j : Nat} (h : j < l.length) : (icells l)[j]? = some (.int .i64 l[j]) := by simp [icells, h]
theorem tcells_get {l : List Bool} {j : Nat} (h : j < l.length) : (tcells l)[j]? = some (.bool l[j]) := by simp [tcells, h]
end Go.Proofs.YtoaklmceejeblaaGreat
/-
  Shaken: what the claims of this seat need of this text. No condition.
-/
namespace Go.Proofs.YtoaklmceejeblaaGreat
set_option maxRecDepth 8000
set_option linter.unusedVariables false
set_option linter.unusedSimpArgs false
def natOf (f : Nat → Bool) : Nat → Nat
  | 0 => 0
  | n + 1 => natOf f n + (if f n then 2 ^ n else 0)
def szB (n w : Nat) : Nat := (n * w + 7) / 8
def vbit (l : List Nat) (w i : Nat) : Bool := decide (i < l.length * w) && (l.getD (i / w) 0).testBit (i % w)
end Go.Proofs.YtoaklmceejeblaaGreat
/-
  Shaken: what the claims of this seat need of this text. No condition.
-/
namespace Go.Proofs.YtoaklmceejeblaaGreat
set_option maxRecDepth 8000
set_option linter.unusedVariables false
set_option linter.unusedSimpArgs false
def partB (l : List Nat) (w m : Nat) : List UInt8 := (List.range (szB l.length w)).map fun j => UInt8.ofNat (natOf (fun k => decide (8 * j + k < m) && vbit l w (8 * j + k)) 8)
end Go.Proofs.YtoaklmceejeblaaGreat
/-
  Shaken: what the claims of this seat need of this text. No condition.
-/
namespace Go.Proofs.YtoaklmceejeblaaGreat
set_option maxRecDepth 8000
open Go.RowKit
def dec : Nat → Nat → List UInt8 → Nat × Nat × Nat
  | _, _, [] => (0, 0, 2)
  | i, n, c :: r =>
    if (i = 9 ∧ 1 < c.toNat) ∨ (0 < i ∧ c.toNat = 0) then (0, 0, 4)
    else if c.toNat < 128 then (n + c.toNat % 128 * 128 ^ i, i + 1, 0)
    else dec (i + 1) (n + c.toNat % 128 * 128 ^ i) r
def dcd (l : List UInt8) (off : Int) : Int × Int × Int :=
  if off < 0 ∨ (l.length : Int) < off then (0, 0, 1)
  else match dec 0 0 (l.drop off.toNat) with
    | (n, k, e) => ((n : Int), if e = 0 then off + k else 0, (e : Int))
theorem dcd_bad {l : List UInt8} {off : Int} (h : off < 0 ∨ (l.length : Int) < off) : dcd l off = (0, 0, 1) := by unfold dcd; rw [if_pos h]
theorem dcd_ok {l : List UInt8} {off : Int} (h : ¬ (off < 0 ∨ (l.length : Int) < off)) {n k e : Nat} (hd : dec 0 0 (l.drop off.toNat) = (n, k, e)) :
    dcd l off = ((n : Int), if e = 0 then off + k else 0, (e : Int)) := by unfold dcd; rw [if_neg h, hd]
theorem dec_end (i n : Nat) : dec i n [] = (0, 0, 2) := rfl
theorem dec_bad {i n : Nat} {c : UInt8} {r : List UInt8} (h : (i = 9 ∧ 1 < c.toNat) ∨ (0 < i ∧ c.toNat = 0)) : dec i n (c :: r) = (0, 0, 4) := by
  rw [dec, if_pos h]
theorem dec_last {i n : Nat} {c : UInt8} {r : List UInt8} (h : ¬ ((i = 9 ∧ 1 < c.toNat) ∨ (0 < i ∧ c.toNat = 0))) (hc : c.toNat < 128) :
    dec i n (c :: r) = (n + c.toNat % 128 * 128 ^ i, i + 1, 0) := by rw [dec, if_neg h, if_pos hc]
theorem dec_more {i n : Nat} {c : UInt8} {r : List UInt8} (h : ¬ ((i = 9 ∧ 1 < c.toNat) ∨ (0 < i ∧ c.toNat = 0))) (hc : ¬ c.toNat < 128) :
    dec i n (c :: r) = dec (i + 1) (n + c.toNat % 128 * 128 ^ i) r := by rw [dec, if_neg h, if_neg hc]
theorem pow_step (i : Nat) : 128 ^ (i + 1) = 128 ^ i * 128 := Nat.pow_succ ..
theorem sum_lt {i n c : Nat} (hn : n < 128 ^ i) : n + c % 128 * 128 ^ i < 128 ^ (i + 1) := by
  rw [pow_step]
  have h1 : c % 128 ≤ 127 := by omega
  have h2 : c % 128 * 128 ^ i ≤ 127 * 128 ^ i := Nat.mul_le_mul_right _ h1
  omega
theorem sum_lt64 {i n c : Nat} (hi : i ≤ 9) (hn : n < 128 ^ i) (hc : i = 9 → c ≤ 1) : n + c % 128 * 128 ^ i < 18446744073709551616 := by
  by_cases h9 : i = 9
  · subst h9
    have := hc rfl
    have e : (128 : Nat) ^ 9 = 9223372036854775808 := by decide
    rw [e] at hn ⊢
    have h1 : c % 128 ≤ 1 := by omega
    have h2 : c % 128 * 9223372036854775808 ≤ 1 * 9223372036854775808 := Nat.mul_le_mul_right _ h1
    omega
  · have h1 := sum_lt (c := c) hn
    have h2 : 128 ^ (i + 1) ≤ 128 ^ 9 := Nat.pow_le_pow_right (by decide) (by omega)
    have e : (128 : Nat) ^ 9 = 9223372036854775808 := by decide
    omega
theorem round_or {i n : Nat} {c : UInt8} (hi : i ≤ 9) (hn : n < 128 ^ i) (hc : i = 9 → c.toNat ≤ 1) :
    bits .or .u64 (n : Int) (IntKind.u64.wrap (IntKind.u64.wrap (bits .andNot .u8 (c.toNat : Int) 128) * 2 ^ (7 * i))) = ((n + c.toNat % 128 * 128 ^ i : Nat) : Int) := by
  have hcl : c.toNat < 256 := c.toNat_lt
  have h1 : bits .andNot .u8 (c.toNat : Int) 128 = ((c.toNat % 128 : Nat) : Int) := by
    have := u8_andNot_nat c.toNat 128 (by omega) (by omega)
    rw [show ((128 : Nat) : Int) = 128 from rfl] at this
    rw [this, nat_mask7]
  have hs := sum_lt64 hi hn hc
  have hp : (2 : Nat) ^ (7 * i) = 128 ^ i := by rw [Nat.pow_mul]
  have h2 : IntKind.u64.wrap (IntKind.u64.wrap (bits .andNot .u8 (c.toNat : Int) 128) * 2 ^ (7 * i)) = ((c.toNat % 128 * 128 ^ i : Nat) : Int) := by
    have hw : IntKind.u64.wrap ((c.toNat % 128 : Nat) : Int) = ((c.toNat % 128 : Nat) : Int) := by rw [IntKind.wrap_u64]; omega
    rw [h1, hw, IntKind.wrap_u64]
    have e : (((c.toNat % 128 : Nat) : Int) * 2 ^ (7 * i)) = ((c.toNat % 128 * 128 ^ i : Nat) : Int) := by
      rw [← hp]; simp
    rw [e]
    omega
  rw [h2]
  have hn64 : n < 18446744073709551616 := by omega
  rw [u64_or_nat n _ hn64 (by omega)]
  have hj := nat_join (7 * i) (c.toNat % 128 * 128 ^ i) n (by rw [hp]; exact Nat.mul_mod_left _ _) (by rw [hp]; exact hn)
  rw [Nat.or_comm, hj, Nat.add_comm]
theorem round_add {i n p : Nat} {c : UInt8} (hi : i ≤ 9) (hn : n < 128 ^ i) (hc : i = 9 → c.toNat ≤ 1) (hp : p = 128 ^ i) :
    IntKind.u64.wrap ((n : Int) + IntKind.u64.wrap ((c.toNat : Int) % 128 * (p : Int))) = ((n + c.toNat % 128 * 128 ^ i : Nat) : Int) := by
  have hs := sum_lt64 hi hn hc
  rw [hp, IntKind.wrap_u64, IntKind.wrap_u64]
  have e : ((c.toNat : Int) % 128 * ((128 ^ i : Nat) : Int)) = ((c.toNat % 128 * 128 ^ i : Nat) : Int) := by
    rw [Int.natCast_mul, Int.natCast_emod]; rfl
  rw [e]
  omega
end Go.Proofs.YtoaklmceejeblaaGreat
/-
  Shaken: what the claims of this seat need of this text. No condition.
-/
namespace Go.Proofs.YtoaklmceejeblaaGreat
set_option maxRecDepth 8000
open Go.RowKit
def xs (k x : Nat) : Nat := x ^^^ x / 2 ^ k
def mul64 (x c : Nat) : Nat := x * c % 18446744073709551616
def mix (n : Nat) : Nat := xs 31 (mul64 (xs 27 (mul64 (xs 30 n) 0xBF58476D1CE4E5B9)) 0x94D049BB133111EB)
theorem xs_lt {k x : Nat} (h : x < 18446744073709551616) : xs k x < 18446744073709551616 := by
  have h1 : x / 2 ^ k < 2 ^ 64 := Nat.lt_of_le_of_lt (Nat.div_le_self _ _) h
  exact Nat.xor_lt_two_pow (n := 64) h h1
theorem mul64_lt (x c : Nat) : mul64 x c < 18446744073709551616 := Nat.mod_lt _ (by decide)
theorem mix_lt {n : Nat} : mix n < 18446744073709551616 := xs_lt (mul64_lt _ _)
theorem go_xs (k : Nat) {x : Nat} (h : x < 18446744073709551616) (y : Int) (hy : y = ((x / 2 ^ k : Nat) : Int)) : bits .xor .u64 (x : Int) y = (xs k x : Int) := by
  subst hy
  exact bits_xor_u64_nat _ _ h (Nat.lt_of_le_of_lt (Nat.div_le_self _ _) h)
theorem go_mul (x c : Nat) (C : Int) (hC : C = (c : Int)) : IntKind.u64.wrap ((x : Int) * C) = (mul64 x c : Int) := by
  subst hC
  rw [IntKind.wrap_u64]
  unfold mul64
  rw [Int.natCast_emod, Int.natCast_mul]
  rfl
theorem div_cast (x k : Nat) (K : Int) (hK : K = ((2 ^ k : Nat) : Int)) : (x : Int) / K = ((x / 2 ^ k : Nat) : Int) := by
  subst hK; exact (Int.natCast_ediv x (2 ^ k)).symm
theorem mix_go {n : Nat} (h : n < 18446744073709551616) :
    bits .xor .u64 (IntKind.u64.wrap (bits .xor .u64 (IntKind.u64.wrap (bits .xor .u64 (n : Int) ((n : Int) / 1073741824) * 13787848793156543929)) (IntKind.u64.wrap (bits .xor .u64 (n : Int) ((n : Int) / 1073741824) * 13787848793156543929) / 134217728) * 10723151780598845931))
      (IntKind.u64.wrap (bits .xor .u64 (IntKind.u64.wrap (bits .xor .u64 (n : Int) ((n : Int) / 1073741824) * 13787848793156543929)) (IntKind.u64.wrap (bits .xor .u64 (n : Int) ((n : Int) / 1073741824) * 13787848793156543929) / 134217728) * 10723151780598845931) / 2147483648) = (mix n : Int) := by
  rw [go_xs 30 h _ (div_cast n 30 _ (by decide)), go_mul (xs 30 n) 0xBF58476D1CE4E5B9 _ (by decide), go_xs 27 (mul64_lt _ _) _ (div_cast _ 27 _ (by decide)), go_mul _ 0x94D049BB133111EB _ (by decide), go_xs 31 (mul64_lt _ _) _ (div_cast _ 31 _ (by decide))]
  rfl
end Go.Proofs.YtoaklmceejeblaaGreat
/-
  Shaken: what the claims of this seat need of this text. No condition.
-/
namespace Go.Proofs.YtoaklmceejeblaaGreat
set_option maxRecDepth 8000
open Go.RowKit
set_option linter.unusedVariables false
set_option linter.unusedSimpArgs false
abbrev Str := List UInt8
structure Vec where
  T : Int
  is : List Int
  ts : List Str
  ns : List Bool
def scells (l : List Str) : List Value := l.map fun s => .string (strOf s)
theorem scells_length (l : List Str) : (scells l).length = l.length := by simp [scells]
theorem scells_get {l : List Str} {j : Nat} (h : j < l.length) : (scells l)[j]? = some (.string (strOf l[j])) := by simp [scells, h]
def IsS (w : World) (v : Value) (l : List Str) : Prop := Reads w v (scells l)
theorem IsS.grow {w w' : World} {v : Value} {l : List Str} (h : IsS w v l) (hb : Grows w w') : IsS w' v l := Reads.grow h hb
theorem IsS.at_ {w : World} {A : Option Addr} {c n : Nat} {l : List Str} (h : IsS w (.slice A n c) l) {k : Nat} (hk : k < l.length) : ∃ b f, A = some ⟨b, f, none⟩ ∧ w.cell? ⟨b, f + k, none⟩ = some (.string (strOf l[k])) := by
  obtain ⟨A', c', he, _, hc⟩ := h
  injection he with e1 e2 e3
  subst e1
  obtain ⟨b, f, rfl, hcell⟩ := hc (by rw [scells_length]; omega)
  refine ⟨b, f, rfl, ?_⟩
  rw [hcell k (by rw [scells_length]; exact hk), scells_get hk]
def IsI (w : World) (v : Value) (l : List Int) : Prop := Reads w v (icells l)
theorem IsI.grow {w w' : World} {v : Value} {l : List Int} (h : IsI w v l) (hb : Grows w w') : IsI w' v l := Reads.grow h hb
theorem IsI.at_ {w : World} {A : Option Addr} {c n : Nat} {l : List Int} (h : IsI w (.slice A n c) l) {k : Nat} (hk : k < l.length) : ∃ b f, A = some ⟨b, f, none⟩ ∧ w.cell? ⟨b, f + k, none⟩ = some (.int .i64 l[k]) := by
  obtain ⟨A', c', he, _, hc⟩ := h
  injection he with e1 e2 e3
  subst e1
  obtain ⟨b, f, rfl, hcell⟩ := hc (by rw [icells_length]; omega)
  refine ⟨b, f, rfl, ?_⟩
  rw [hcell k (by rw [icells_length]; exact hk), icells_get hk]
def IsT (w : World) (v : Value) (l : List Bool) : Prop := Reads w v (tcells l)
theorem IsT.grow {w w' : World} {v : Value} {l : List Bool} (h : IsT w v l) (hb : Grows w w') : IsT w' v l := Reads.grow h hb
theorem IsT.at_ {w : World} {A : Option Addr} {c n : Nat} {l : List Bool} (h : IsT w (.slice A n c) l) {k : Nat} (hk : k < l.length) : ∃ b f, A = some ⟨b, f, none⟩ ∧ w.cell? ⟨b, f + k, none⟩ = some (.bool l[k]) := by
  obtain ⟨A', c', he, _, hc⟩ := h
  injection he with e1 e2 e3
  subst e1
  obtain ⟨b, f, rfl, hcell⟩ := hc (by rw [tcells_length]; omega)
  refine ⟨b, f, rfl, ?_⟩
  rw [hcell k (by rw [tcells_length]; exact hk), tcells_get hk]
def IsV (w : World) (x : Value) (v : Vec) : Prop := ∃ a b c, x = .agg #[.int .i64 v.T, a, b, c] ∧ IsI w a v.is ∧ IsS w b v.ts ∧ IsT w c v.ns
theorem IsV.grow {w w' : World} {x : Value} {v : Vec} (h : IsV w x v) (hb : Grows w w') : IsV w' x v := by
  obtain ⟨a, b, c, h0, h1, h2, h3⟩ := h
  exact ⟨a, b, c, h0, h1.grow hb, h2.grow hb, h3.grow hb⟩
end Go.Proofs.YtoaklmceejeblaaGreat
