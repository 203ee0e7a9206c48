/-
  The reference's New, build, bits, Of and Set return new sets ('FreshSet') of what the document says; nothing that was there is changed.
-/
import Derived.Test.YtnjmbhakfecdoaaBsRef1
import Derived.Laws.CopyOwn
namespace Go.Proofs.Ytnjmbhakfecdoaa
open Go.RowKit

/-- make([]T, s), T of one cell -/
theorem run_make_one {P : Program} (t e : TypeId) (z : Value) (bytes : Nat) (ht : P.underlying t = some (.slice e)) (hinfo : (P.info? e).map (fun i => (i.zero, i.size, i.bytes)) = some (some z, 1, bytes)) (hz : z.cells = #[z])
    (s : Nat) (hs : s ≤ 281474976710656) (hb : bytes * s ≤ 281474976710656) (W : World) :
    (Instr.makeSlice t (.int .i64 (s : Int)) (.int .i64 (s : Int))).run P W = .ok (.slice (some ⟨W.heap.size, 0, none⟩) s s) (W.alloc (.cells (madeCells #[z] s) e)) := by
  obtain ⟨i0, hi, hz0, hz1, hz2⟩ := info_parts hinfo
  have hbs : (i0.bytes : Int) * (s : Int) ≤ 281474976710656 := by
    rw [hz2]
    have : ((bytes * s : Nat) : Int) ≤ 281474976710656 := by omega
    rwa [Int.natCast_mul] at this
  have h := run_make (P := P) W t e i0 z ht hi hz0 .i64 .i64 (s : Int) (s : Int) (by omega) (by omega) hbs (by omega)
  rw [hz1, hz] at h
  simpa using h
theorem info_u64 : (Try.prog.info? 61).map (fun i => (i.zero, i.size, i.bytes)) = some (some (.int .u64 0), 1, 8) := by kernel_rfl
theorem info_bool : (Try.prog.info? 4).map (fun i => (i.zero, i.size, i.bytes)) = some (some (.bool false), 1, 1) := by kernel_rfl
theorem info_int : (Try.prog.info? 3).map (fun i => (i.zero, i.size, i.bytes)) = some (some (.int .i64 0), 1, 8) := by kernel_rfl

/-- a set whose words lie in a new block -/
def FreshSet (n : Nat) (ws : List UInt64) (w : World) (e : Ending) (w' : World) : Prop :=
  ∃ g, w.heap.size ≤ g ∧ e = .returned (.agg #[.int .i64 (n : Int), .slice (some ⟨g, 0, none⟩) ws.length ws.length]) ∧ Row w' g 61 (ucells ws) ∧ Grows w w'
theorem pack_none (n : Nat) : pack n (fun _ => false) = List.replicate (nw n) 0 := by
  apply List.ext_getElem?
  intro k
  by_cases hk : k < nw n
  · rw [pack_get hk, List.getElem?_replicate, if_pos hk]
    congr 1
    apply word_ext
    intro j hj
    rw [wbit_wordOf]
    have : wbit 0 j = false := by unfold wbit; simp
    simp [this]
  · rw [List.getElem?_eq_none (by rw [pack_length]; omega), List.getElem?_eq_none (by simp; omega)]
/-- N of New -/
def newN (n : Int) : Nat := if 0 ≤ n ∧ n ≤ 1048576 then n.toNat else 0
theorem newN_nat {n : Nat} (h : n ≤ 1048576) : newN (n : Int) = n := by unfold newN; rw [if_pos (by omega)]; simp
theorem newN_bad {n : Int} (h : n < 0 ∨ 1048576 < n) : newN n = 0 := by unfold newN; rw [if_neg (by omega)]
theorem newN_le (n : Int) : newN n ≤ 1048576 := by unfold newN; split <;> omega
theorem nw_cast (n : Nat) : ((n : Int) + 63) / 64 = ((nw n : Nat) : Int) := by unfold nw; omega

theorem size_set : (Try.prog.info? 39).map (·.size) = some 2 := by kernel_rfl
/-- a set lies in a cell of results -/
theorem results_set {fn : Func} {p : Tmp} (h : fn.results = #[.cell p 39]) (tmps : Array Value) (w : World) (g : Nat) (n v : Value) (hp : tmps.getD p undef = .pointer (some ⟨g, 0, none⟩)) (hg : Row w g 39 [n, v]) :
    (results fn tmps).run Try.prog w = .ok (.agg #[n, v]) w :=
  results_cell_row h tmps w g 39 #[n, v] (0, 0) _ hp hg Try.underlying39 rfl size_set

set_option maxHeartbeats 400000 in
theorem rnew_any (n : Int) (w : World) (h63 : -9223372036854775808 ≤ n) (h64 : n ≤ 9223372036854775807) :
    Calls Try.prog 33 #[.int .i64 n] w (FreshSet (newN n) (pack (newN n) fun _ => false) w) := by
  by_cases hb : n < 0 ∨ 1048576 < n
  · have HN := hidden (newN_bad hb)
    have HP := hidden (pack_none 0)
    have HL := hidden (pack_length 0 fun _ => false)
    have HM := hidden (made_ucells 0)
    have hmk : ∀ W, (Instr.makeSlice 37 (.int .i64 0) (.int .i64 0)).run Try.prog W = .ok (.slice (some ⟨W.heap.size, 0, none⟩) 0 0) (W.alloc (.cells (madeCells #[.int .u64 0] 0) 61)) :=
      fun W => run_make_one (P := Try.prog) 37 61 (.int .u64 0) 8 Try.underlying37 info_u64 rfl 0 (by omega) (by omega) W
    have hd2 : n < 0 → decide ((1048576 : Int) < n) = false := by intro h; simp; omega
    have fin : FreshSet (newN n) (pack (newN n) fun _ => false) w (.returned (.agg #[.int .i64 0, .slice (some ⟨w.heap.size + 1, 0, none⟩) 0 0]))
        ((w.alloc (.cells #[.int .i64 0, .slice (some ⟨w.heap.size + 1, 0, none⟩) 0 0] 39)).alloc (.cells (madeCells #[.int .u64 0] 0) 61)) := by
      refine ⟨w.heap.size + 1, Nat.le_succ _, ?_, ?_, ((Below.refl _ _).alloc (Nat.le_refl _) _).alloc (by simp) _⟩
      · rw [HN.out, HL.out]; rfl
      · rw [HN.out, HP.out]; exact Row.at_ _ _ _ _ HM.out _ (by simp)
    have res : Row ((w.alloc (.cells #[.int .i64 0, .slice (some ⟨w.heap.size + 1, 0, none⟩) 0 0] 39)).alloc (.cells (madeCells #[.int .u64 0] 0) 61)) w.heap.size 39 [.int .i64 0, .slice (some ⟨w.heap.size + 1, 0, none⟩) 0 0] :=
      (Row.new w _ _ _ rfl).grow ((Below.refl _ _).alloc (Nat.le_refl _) _)
    have FIN := hidden fin
    have RES := hidden res
    clear fin res
    by_cases h0 : n < 0
    · have hd1 : decide (n < 0) = true := by simpa using h0
      clear hb hd2
      go_enter Try.func33, Try.ntmps33
      go_wp2
      exact bodyPost_ret (results_set rfl _ _ _ _ _ rfl RES.out) rfl FIN.out
    · have hd1 : decide (n < 0) = false := by simpa using h0
      have hd3 : decide ((1048576 : Int) < n) = true := by simp; omega
      clear hb hd2 h0
      go_enter Try.func33, Try.ntmps33
      go_wp2
      exact bodyPost_ret (results_set rfl _ _ _ _ _ rfl RES.out) rfl FIN.out
  · obtain ⟨k, rfl⟩ := Int.eq_ofNat_of_zero_le (show 0 ≤ n by omega)
    have hk : k ≤ 1048576 := by omega
    have hnw := nw_cast k
    have hnl : nw k ≤ 20000 := by unfold nw; omega
    have hmk := fun W => run_make_one (P := Try.prog) 37 61 (.int .u64 0) 8 Try.underlying37 info_u64 rfl (nw k) (by omega) (by omega) W
    have HN := hidden (newN_nat hk)
    have HP := hidden (pack_none k)
    have HM := hidden (made_ucells (nw k))
    have HL := hidden (pack_length k fun _ => false)
    have hd1 : decide ((k : Int) < 0) = false := by simp
    have hd2 : decide ((1048576 : Int) < (k : Int)) = false := by simp; omega
    clear hb
    go_enter Try.func33, Try.ntmps33
    go_wp2
    refine bodyPost_ret (results_set rfl _ _ _ _ _ rfl ((Row.new w _ _ _ rfl).grow ((Below.refl _ _).alloc (Nat.le_refl _) _))) rfl ⟨w.heap.size + 1, Nat.le_succ _, ?_, ?_, ((Below.refl _ _).alloc (Nat.le_refl _) _).alloc (by simp) _⟩
    · rw [HN.out, HL.out]
    · rw [HN.out, HP.out]; exact Row.at_ _ _ _ _ HM.out _ (by simp)

theorem Row.set_other {w : World} {g : Nat} {e : TypeId} {xs : List Value} (h : Row w g e xs) {a : Addr} (ha : a.block ≠ g) (u : Value) : Row (w.setCell a u) g e xs := by
  unfold Row at h ⊢
  rw [Below.heap_setCell _ _ _ _ (Ne.symm ha)]
  exact h

/-- a new row of Bools -/
def FreshBools (l : List Bool) (w : World) (e : Ending) (w' : World) : Prop :=
  ∃ g, w.heap.size ≤ g ∧ e = .returned (.slice (some ⟨g, 0, none⟩) l.length l.length) ∧ Row w' g 4 (tcells l) ∧ Grows w w'
/-- the bits of f below n, those from k on still false -/
def upto (f : Nat → Bool) (k : Nat) : Nat → Bool := fun j => decide (j < k) && f j
theorem bitsOf_get {f : Nat → Bool} {n j : Nat} (h : j < n) : (bitsOf f n)[j]? = some (f j) := by simp [bitsOf, h]
theorem tcells_bits {f : Nat → Bool} {n j : Nat} (h : j < n) : (tcells (bitsOf f n))[j]? = some (.bool (f j)) := by unfold tcells; rw [List.getElem?_map, bitsOf_get h]; rfl
theorem bits_none (n : Nat) (f : Nat → Bool) : List.replicate n false = bitsOf (upto f 0) n := by
  apply List.ext_getElem?
  intro j
  by_cases h : j < n
  · rw [bitsOf_get h, List.getElem?_replicate, if_pos h]; simp [upto]
  · rw [List.getElem?_eq_none (by simp; omega), List.getElem?_eq_none (by rw [bitsOf_length]; omega)]
theorem bits_set {n k : Nat} {f : Nat → Bool} (h : k < n) : (bitsOf (upto f k) n).set k (f k) = bitsOf (upto f (k + 1)) n := by
  apply List.ext_getElem?
  intro j
  rw [List.getElem?_set, bitsOf_length]
  by_cases hj : j < n
  · rw [bitsOf_get hj, bitsOf_get hj]
    by_cases hkj : k = j
    · subst hkj; simp [h, upto]
    · rw [if_neg hkj]
      congr 1
      unfold upto
      congr 1
      rw [decide_eq_decide]; omega
  · rw [List.getElem?_eq_none (by rw [bitsOf_length]; omega), List.getElem?_eq_none (by rw [bitsOf_length]; omega), if_neg (by omega)]
theorem bits_all {n k : Nat} {f : Nat → Bool} (h : n ≤ k) : bitsOf (upto f k) n = bitsOf f n := by
  unfold bitsOf
  apply List.map_congr_left
  intro j hj
  rw [List.mem_range] at hj
  have : j < k := by omega
  simp [upto, this]

def BitsRel (w : World) (n : Nat) (v : Value) (f : Nat → Bool) (g : Nat) (i : Value) (wr : World) : Prop :=
  ∃ k : Nat, k ≤ n ∧ i = .int .i64 k ∧ Row wr w.heap.size 39 [.int .i64 (n : Int), v] ∧ Row wr g 4 (tcells (bitsOf (upto f k) n)) ∧ Below w.heap.size w wr

set_option maxHeartbeats 400000 in
theorem rbits_any (s : Value) (n : Nat) (ws : List UInt64) (w : World) (hs : IsSet w s n ws) :
    Calls Try.prog 44 #[s] w (FreshBools (bitsOf (mem n ws) n) w) := by
  have HS := hidden hs
  obtain ⟨v, rfl, hr, hn, hn2⟩ := hs
  obtain ⟨A, c, rfl, _⟩ := hr.slice_
  rw [ucells_length] at HS hr ⊢
  have hmk := fun W => run_make_one (P := Try.prog) 74 4 (.bool false) 1 Try.underlying74 info_bool rfl n (by omega) (by omega) W
  have HZ := hidden (made_tcells n)
  have HZ2 := hidden (bits_none n (mem n ws))
  have HL := hidden (bitsOf_length (mem n ws) n)
  clear hr
  go_enter Try.func44, Try.ntmps44
  go_wp2
  go_loopw [4] (fun i wr => BitsRel w n (.slice A ws.length c) (mem n ws) (w.heap.size + 1) i wr) (fun i _ => n - (intOf i).toNat)
  case atStart =>
    refine ⟨0, by omega, rfl, (Row.new w _ _ _ rfl).grow ((Below.refl _ _).alloc (Nat.le_refl _) _), Row.at_ _ _ _ _ ?_ _ (by simp), ((Below.refl _ _).alloc (Nat.le_refl _) _).alloc (by simp) _⟩
    rw [HZ.out, HZ2.out]
  case round =>
    obtain ⟨k, hk, rfl, r1, r2, hb⟩ := hrel
    have hc0 := r1.cell 0
    have hc1 := r1.cell 1
    simp only [List.getElem?_cons_zero, List.getElem?_cons_succ] at hc0 hc1
    have R1 := hidden r1
    have R2 := hidden r2
    have HB := hidden hb
    clear r1 r2 hb hmk
    by_cases hlt : k < n
    · have HC := hidden (rcontains_any _ n ws (k : Int) wr (HS.out.grow HB.out) (by omega) (by omega))
      have HM := hidden (memI_nat n ws k)
      go_wp2_with fail
      refine (Calls.mono HC.out ?_)
      rintro e w2 ⟨rfl, g2⟩
      have r3 := R2.out.grow g2
      have hcell := r3.cell k
      rw [tcells_bits hlt] at hcell
      have hfr := r3.frozen k
      have HR3 := hidden (r3.set_ k (.bool (mem n ws k)))
      have HR1 := hidden (R1.out.grow g2)
      have HG2 := hidden (HB.out.trans (g2.mono HB.out.size))
      clear g2 r3
      rw [HM.out]
      go_wp2
      go_roundw
      case rel =>
        refine ⟨k + 1, by omega, by go_num, HR1.out.set_other (by simp) _, ?_, HG2.out.setCell (by simp) _⟩
        have h := HR3.out
        rw [tcells_set, bits_set hlt] at h
        exact h
      case measure => simp [intOf]; omega
    · have hke : k = n := by omega
      have HA := hidden (bits_all (f := mem n ws) (Nat.le_of_eq hke.symm))
      clear hke
      go_wp2
      go_ret
      refine ⟨w.heap.size + 1, Nat.le_succ _, by rw [HL.out]; rfl, ?_, HB.out⟩
      have h := R2.out
      rw [HA.out] at h
      exact h

theorem Row.setRow_ {w : World} {g : Nat} {e : TypeId} {xs : List Value} (h : Row w g e xs) (ys : List Value) (_hl : xs.toArray.size = ys.toArray.size) : Row (w.setRow g ys.toArray) g e ys := by
  unfold Row at h ⊢
  simp [World.setRow, Array.getElem?_modify, h]
/-- a whole set into a variable -/
theorem wpList_store_set {w : World} {ops : Array Oper} {rest : List Oper} {o : Oper} {a : Act} {Q : Exit → Act → World → Prop} (hgd : o.guard = none) (x y : Operand) (ho : o.op = .store 39 x y)
    (g : Nat) (hx : a.eval x = .pointer (some ⟨g, 0, none⟩)) (k : IntKind) (n : Int) (A : Option Addr) (l c : Nat) (hy : a.eval y = .agg #[.int k n, .slice A l c]) {z1 z2 : Value} (hg : Row w g 39 [z1, z2])
    (h : wpList Try.prog ops Q rest (a.put o.dst undef) (w.setRow g #[.int k n, .slice A l c])) : wpList Try.prog ops Q (o :: rest) a w :=
  wpList_store_row hgd 39 x y ho g #[.int k n, .slice A l c] hx hy 39 #[z1, z2] hg size_set rfl (by simp [Value.oneCell']) h
theorem or_go {x : UInt64} {j : Nat} (hj : j < 64) : bits .or .u64 (x.toNat : Int) (IntKind.u64.wrap (1 * 2 ^ j)) = ((UInt64.ofNat (x.toNat ||| 2 ^ j)).toNat : Int) := by
  have hx := x.toNat_lt
  have hp : 2 ^ j < 18446744073709551616 := Nat.pow_lt_pow_right (n := 64) (by decide) hj
  have e : IntKind.u64.wrap (1 * 2 ^ j) = ((2 ^ j : Nat) : Int) := by
    rw [Int.one_mul, show ((2 : Int) ^ j) = ((2 ^ j : Nat) : Int) by simp, IntKind.wrap_u64]
    generalize 2 ^ j = y at *
    omega
  have hl : x.toNat ||| 2 ^ j < 2 ^ 64 := Nat.or_lt_two_pow hx hp
  rw [e, u64_or_nat x.toNat _ hx hp, UInt64.toNat_ofNat', Nat.mod_eq_of_lt hl]
theorem or_go' {x : UInt64} {j : Nat} (hj : j < 64) : bits .or .u64 (x.toNat : Int) (IntKind.u64.wrap (2 ^ j)) = ((UInt64.ofNat (x.toNat ||| 2 ^ j)).toNat : Int) := by
  rw [← or_go hj, Int.one_mul]
theorem bit_snoc {n k : Nat} {f : Nat → Bool} (hf : f k = true) : pack n (fun j => upto f k j || decide (j = k)) = pack n (upto f (k + 1)) := by
  apply pack_congr
  intro j _
  unfold upto
  by_cases h : j = k
  · subst h; simp [hf]
  · have : decide (j < k + 1) = decide (j < k) := by rw [decide_eq_decide]; omega
    simp [h, this]
theorem bit_miss {n k : Nat} {f : Nat → Bool} (hf : f k = false) : pack n (upto f k) = pack n (upto f (k + 1)) := by
  apply pack_congr
  intro j _
  unfold upto
  by_cases h : j = k
  · subst h; simp [hf]
  · have : decide (j < k + 1) = decide (j < k) := by rw [decide_eq_decide]; omega
    simp [this]
theorem pack_all {n k : Nat} {f : Nat → Bool} (h : n ≤ k) : pack n (upto f k) = pack n f := by
  apply pack_congr
  intro j hj
  have : j < k := by omega
  simp [upto, this]
theorem pack_zero (n : Nat) (f : Nat → Bool) : pack n (fun _ => false) = pack n (upto f 0) := by
  apply pack_congr
  intro j _
  simp [upto]

def BuildRel (w : World) (n : Nat) (f : Nat → Bool) (B g : Nat) (i : Value) (wr : World) : Prop :=
  ∃ k : Nat, k ≤ n ∧ i = .int .i64 k ∧ Row wr B 39 [.int .i64 (n : Int), .slice (some ⟨g, 0, none⟩) (nw n) (nw n)] ∧ Row wr g 61 (ucells (pack n (upto f k))) ∧ (∃ z1 z2, Row wr w.heap.size 39 [z1, z2]) ∧ Below w.heap.size w wr

set_option maxHeartbeats 1000000 in
theorem rbuild_any (v : Value) (n : Nat) (f : Nat → Bool) (w : World) (hv : Reads w v (tcells (bitsOf f n))) (hn : n ≤ 1048576) :
    Calls Try.prog 45 #[v] w (FreshSet n (pack n f) w) := by
  have HV := hidden hv
  obtain ⟨A, c, rfl, _⟩ := hv.slice_
  clear hv
  rw [tcells_length, bitsOf_length] at HV ⊢
  have HNN := hidden (newN_nat hn)
  have HL := hidden (pack_length n)
  have hnl : nw n ≤ 20000 := by unfold nw; omega
  go_enter Try.func45, Try.ntmps45
  go_wp2_with fail
  refine (rnew_any (n : Int) _ (by omega) (by omega)).mono ?_
  rintro e w1 ⟨g, hg, rfl, hrow, g1⟩
  rw [HNN.out] at hrow ⊢
  rw [HL.out]
  have hB : Grows w w1 := Grows.of_below ((Below.refl _ _).alloc (Nat.le_refl _) _) g1
  have hR0 : Row w1 w.heap.size 39 [.int .i64 0, .slice none 0 0] := (Row.new w _ _ _ rfl).grow g1
  have hg1 : w.heap.size + 1 ≤ g := by simpa using hg
  have hgl := hrow.lt
  have hR2 := hrow.grow (w' := w1.alloc (.cells #[.int .i64 (n : Int), .slice (some ⟨g, 0, none⟩) (nw n) (nw n)] 39)) ((Below.refl _ _).alloc (Nat.le_refl _) _)
  have hR3 := hR0.grow (w' := w1.alloc (.cells #[.int .i64 (n : Int), .slice (some ⟨g, 0, none⟩) (nw n) (nw n)] 39)) ((Below.refl _ _).alloc (Nat.le_refl _) _)
  have hR4 := Row.new w1 39 #[.int .i64 (n : Int), .slice (some ⟨g, 0, none⟩) (nw n) (nw n)] _ rfl
  have hB4 : Grows w (w1.alloc (.cells #[.int .i64 (n : Int), .slice (some ⟨g, 0, none⟩) (nw n) (nw n)] 39)) := hB.alloc hB.size _
  rw [pack_zero n f] at hR2
  have H2 := hidden hR2
  have H3 := hidden hR3
  have H4 := hidden hR4
  have HB4 := hidden hB4
  have hsz := hB.size
  clear hB hR0 hrow hR2 hR3 hR4 hB4 g1 hg
  go_wp2_with fail
  go_loopw [4] (fun i wr => BuildRel w n f w1.heap.size g i wr) (fun i _ => n - (intOf i).toNat)
  case atStart => exact ⟨0, by omega, rfl, H4.out, H2.out, ⟨_, _, H3.out⟩, HB4.out⟩
  case round =>
    obtain ⟨k, hk, rfl, r1, r2, ⟨z1, z2, r3⟩, hb⟩ := hrel
    have hc0 := r1.cell 0
    have hc1 := r1.cell 1
    simp only [List.getElem?_cons_zero, List.getElem?_cons_succ] at hc0 hc1
    have R1 := hidden r1
    have R2 := hidden r2
    have R3 := hidden r3
    have HB := hidden hb
    clear r1 r2 r3 hb
    by_cases hlt : k < n
    · obtain ⟨A', c', he, _, hcell⟩ := HV.out.grow HB.out
      injection he with e1 e2 e3
      subst e1 e3
      obtain ⟨b, off, rfl, hcell2⟩ := hcell (by rw [tcells_length, bitsOf_length]; omega)
      have hbit := hcell2 k (by rw [tcells_length, bitsOf_length]; omega)
      rw [tcells_bits hlt] at hbit
      clear hcell hcell2 e2
      by_cases hf : f k = true
      · rw [hf] at hbit
        have hkw : k / 64 < nw n := by unfold nw; omega
        have hkl : k / 64 < (pack n (upto f k)).length := by rw [HL.out]; exact hkw
        have hcw := R2.out.cell (k / 64)
        rw [ucells_get hkl] at hcw
        have hfr := R2.out.frozen (k / 64)
        have hps := pack_set (f := upto f k) hlt _ (List.getElem?_eq_getElem hkl)
        rw [bit_snoc hf] at hps
        have HR := hidden (R2.out.set_ (k / 64) (.int .u64 ((UInt64.ofNat ((pack n (upto f k))[k / 64].toNat ||| 2 ^ (k % 64))).toNat : Int)))
        have HPS := hidden hps
        have HO := hidden (or_go (x := (pack n (upto f k))[k / 64]) (j := k % 64) (by omega))
        have HO' := hidden (or_go' (x := (pack n (upto f k))[k / 64]) (j := k % 64) (by omega))
        have hxb : (pack n (upto f k))[k / 64].toNat < 18446744073709551616 := (pack n (upto f k))[k / 64].toNat_lt
        clear hps hf
        generalize (pack n (upto f k))[k / 64] = x at *
        go_wp2
        go_roundw
        case rel =>
          refine ⟨k + 1, by omega, by go_num, R1.out.set_other (by simp; omega) _, ?_, ⟨_, _, R3.out.set_other (by simp; omega) _⟩, HB.out.setCell (by simp; omega) _⟩
          have h := HR.out
          rw [ucells_set, HPS.out, ← HO'.out] at h
          exact h
        case measure => simp [intOf]; omega
      · have hff : f k = false := by simpa using hf
        rw [hff] at hbit
        have HM := hidden (bit_miss (n := n) hff)
        clear hf hff
        go_wp2
        go_roundw
        case rel => exact ⟨k + 1, by omega, by go_num, R1.out, by rw [← HM.out]; exact R2.out, ⟨_, _, R3.out⟩, HB.out⟩
        case measure => simp [intOf]; omega
    · have hke : k = n := by omega
      have HA := hidden (pack_all (f := f) (Nat.le_of_eq hke.symm))
      clear hke
      have HRS := hidden (R3.out.setRow_ [.int .i64 (n : Int), .slice (some ⟨g, 0, none⟩) (nw n) (nw n)] rfl)
      go_wp2_with (refine wpList_store_set rfl _ _ rfl w.heap.size rfl _ _ _ _ _ rfl R3.out ?_)
      refine bodyPost_ret (results_set rfl _ _ _ _ _ rfl HRS.out) rfl ⟨g, by omega, by rw [HL.out], ?_, below_setRow HB.out (Nat.le_refl _) _⟩
      have h := R2.out
      rw [HA.out] at h
      unfold Row at h ⊢
      rw [setRow_other _ _ _ _ (by omega)]
      exact h

/-- a new set is a set -/
theorem FreshSet.isSet {n : Nat} {f : Nat → Bool} {w w' : World} {e : Ending} (h : FreshSet n (pack n f) w e w') (hn : n ≤ 1048576) : ∃ s, e = .returned s ∧ IsSet w' s n (pack n f) ∧ Grows w w' := by
  obtain ⟨g, _, rfl, hr, hb⟩ := h
  refine ⟨_, rfl, ⟨_, rfl, Reads.of_row hr _ _ (by rw [ucells_length]) (Nat.le_refl _), ?_, hn⟩, hb⟩
  rw [pack_length]; unfold nw; omega

/-- 'i is on' laid over f -/
def onAt (f : Nat → Bool) (i : Int) (b : Bool) : Nat → Bool := fun j => if (j : Int) = i then b else f j
theorem bits_onAt {n k : Nat} {f : Nat → Bool} {b : Bool} (h : k < n) : (bitsOf f n).set k b = bitsOf (onAt f (k : Int) b) n := by
  apply List.ext_getElem?
  intro j
  rw [List.getElem?_set, bitsOf_length]
  by_cases hj : j < n
  · rw [bitsOf_get hj, bitsOf_get hj]
    by_cases hkj : k = j
    · subst hkj; simp [h, onAt]
    · rw [if_neg hkj]
      congr 1
      unfold onAt
      rw [if_neg (by omega)]
  · rw [List.getElem?_eq_none (by rw [bitsOf_length]; omega), List.getElem?_eq_none (by rw [bitsOf_length]; omega), if_neg (by omega)]
theorem onAt_out {n : Nat} {f : Nat → Bool} {i : Int} {b : Bool} (h : i < 0 ∨ (n : Int) ≤ i) : bitsOf (onAt f i b) n = bitsOf f n := by
  unfold bitsOf
  apply List.map_congr_left
  intro j hj
  rw [List.mem_range] at hj
  unfold onAt
  rw [if_neg (by omega)]

set_option maxHeartbeats 1000000 in
theorem rset_any (s : Value) (n : Nat) (ws : List UInt64) (i : Int) (b : Bool) (w : World) (hs : IsSet w s n ws) (h63 : -9223372036854775808 ≤ i) (h64 : i ≤ 9223372036854775807) :
    Calls Try.prog 34 #[s, .int .i64 i, .bool b] w (FreshSet n (pack n (onAt (mem n ws) i b)) w) := by
  have HS := hidden hs
  obtain ⟨v, rfl, hr, hn, hn2⟩ := hs
  obtain ⟨A, c, rfl, _⟩ := hr.slice_
  rw [ucells_length] at HS hr ⊢
  have HL := hidden (bitsOf_length (mem n ws) n)
  have hG : ∀ o p, Grows w ((w.alloc o).alloc p) := fun o p => ((Below.refl _ _).alloc (Nat.le_refl _) o).alloc (by simp) p
  have HG := hidden hG
  clear hr hG
  go_enter Try.func34, Try.ntmps34
  go_wp2_with fail
  refine (rbits_any _ n ws _ (HS.out.grow (HG.out _ _))).mono ?_
  rintro e w1 ⟨g, hg, rfl, hrow, g1⟩
  rw [HL.out]
  have hB1 : Grows w w1 := Grows.of_below (HG.out _ _) g1
  have hsz : w.heap.size + 2 ≤ g := by simpa using hg
  have hR0 : Row w1 (w.heap.size + 1) 39 [.int .i64 0, .slice none 0 0] := (Row.at_ _ _ _ _ rfl _ (by simp)).grow g1
  have H0 := hidden hR0
  have HB1 := hidden hB1
  have HROW := hidden hrow
  have hgl := hrow.lt
  clear hrow hR0 hB1 g1 hg
  have fin : ∀ w2 : World, Grows w w2 → Row w2 (w.heap.size + 1) 39 [.int .i64 0, .slice none 0 0] → ∀ f, Row w2 g 4 (tcells (bitsOf f n)) →
      Calls Try.prog 45 #[.slice (some ⟨g, 0, none⟩) n n] w2 fun e w3 => ∃ g3, w2.heap.size ≤ g3 ∧ e = .returned (.agg #[.int .i64 (n : Int), .slice (some ⟨g3, 0, none⟩) (nw n) (nw n)]) ∧ Row w3 g3 61 (ucells (pack n f)) ∧ Grows w w3 ∧ Row w3 (w.heap.size + 1) 39 [.int .i64 0, .slice none 0 0] := by
    intro w2 hb hr f hrow
    refine (rbuild_any _ n f w2 (Reads.of_row hrow _ _ (by rw [tcells_length, bitsOf_length]) (Nat.le_refl _)) hn2).mono ?_
    rintro e w3 ⟨g3, h1, rfl, h2, h3⟩
    exact ⟨g3, h1, by rw [pack_length], h2, hb.trans (h3.mono hb.size), hr.grow h3⟩
  have FIN := hidden fin
  have HPL := hidden (pack_length n)
  clear fin
  by_cases hin : 0 ≤ i ∧ i < (n : Int)
  · obtain ⟨k, rfl⟩ := Int.eq_ofNat_of_zero_le hin.1
    have hk : k < n := by omega
    have hcell := HROW.out.cell k
    rw [tcells_bits hk] at hcell
    have hfr := HROW.out.frozen k
    have hrow2 := HROW.out.set_ k (.bool b)
    rw [tcells_set, bits_onAt hk] at hrow2
    have HF := hidden (FIN.out _ (HB1.out.setCell (p := ⟨g, k, none⟩) (by simp; omega) (.bool b)) (H0.out.set_other (by simp; omega) _) _ hrow2)
    have hd : decide ((k : Int) < (n : Int)) = true := by simp; omega
    clear hrow2 hin
    go_wp2_with fail
    refine (Calls.mono HF.out ?_)
    rintro e w3 ⟨g3, hg3, rfl, hr3, hb3, hr0⟩
    have HR0 := hidden hr0
    have HR3 := hidden hr3
    have HB3 := hidden hb3
    have HRS := hidden (hr0.setRow_ [.int .i64 (n : Int), .slice (some ⟨g3, 0, none⟩) (nw n) (nw n)] rfl)
    have hg4 : w.heap.size + 2 ≤ g3 := by
      have h1 : (w1.setCell ⟨g, k, none⟩ (.bool b)).heap.size = w1.heap.size := by simp [World.setCell]
      omega
    clear hr0 hr3 hb3 hg3
    go_wp2_with (refine wpList_store_set rfl _ _ rfl (w.heap.size + 1) rfl _ _ _ _ _ rfl HR0.out ?_)
    refine bodyPost_ret (results_set rfl _ _ _ _ _ rfl HRS.out) rfl ⟨g3, by omega, by rw [HPL.out], ?_, below_setRow HB3.out (Nat.le_succ _) _⟩
    have h := HR3.out
    unfold Row at h ⊢
    rw [setRow_other _ _ _ _ (by omega)]
    exact h
  · have HOUT := hidden (onAt_out (n := n) (f := mem n ws) (i := i) (b := b) (by omega))
    have hrow2 := HROW.out
    rw [← HOUT.out] at hrow2
    have HF := hidden (FIN.out _ HB1.out H0.out _ hrow2)
    clear hrow2
    by_cases h0 : 0 ≤ i
    · have hd1 : decide (0 ≤ i) = true := by simpa using h0
      have hd2 : decide (i < (n : Int)) = false := by simp; omega
      clear hin
      go_wp2_with fail
      refine (Calls.mono HF.out ?_)
      rintro e w3 ⟨g3, hg3, rfl, hr3, hb3, hr0⟩
      have HR0 := hidden hr0
      have HR3 := hidden hr3
      have HB3 := hidden hb3
      have HRS := hidden (hr0.setRow_ [.int .i64 (n : Int), .slice (some ⟨g3, 0, none⟩) (nw n) (nw n)] rfl)
      have hg4 : w.heap.size + 2 ≤ g3 := by omega
      clear hr0 hr3 hb3 hg3
      go_wp2_with (refine wpList_store_set rfl _ _ rfl (w.heap.size + 1) rfl _ _ _ _ _ rfl HR0.out ?_)
      refine bodyPost_ret (results_set rfl _ _ _ _ _ rfl HRS.out) rfl ⟨g3, by omega, by rw [HPL.out], ?_, below_setRow HB3.out (Nat.le_succ _) _⟩
      have h := HR3.out
      unfold Row at h ⊢
      rw [setRow_other _ _ _ _ (by omega)]
      exact h
    · have hd1 : decide (0 ≤ i) = false := by simpa using h0
      clear hin
      go_wp2_with fail
      refine (Calls.mono HF.out ?_)
      rintro e w3 ⟨g3, hg3, rfl, hr3, hb3, hr0⟩
      have HR0 := hidden hr0
      have HR3 := hidden hr3
      have HB3 := hidden hb3
      have HRS := hidden (hr0.setRow_ [.int .i64 (n : Int), .slice (some ⟨g3, 0, none⟩) (nw n) (nw n)] rfl)
      have hg4 : w.heap.size + 2 ≤ g3 := by omega
      clear hr0 hr3 hb3 hg3
      go_wp2_with (refine wpList_store_set rfl _ _ rfl (w.heap.size + 1) rfl _ _ _ _ _ rfl HR0.out ?_)
      refine bodyPost_ret (results_set rfl _ _ _ _ _ rfl HRS.out) rfl ⟨g3, by omega, by rw [HPL.out], ?_, below_setRow HB3.out (Nat.le_succ _) _⟩
      have h := HR3.out
      unfold Row at h ⊢
      rw [setRow_other _ _ _ _ (by omega)]
      exact h

end Go.Proofs.Ytnjmbhakfecdoaa
