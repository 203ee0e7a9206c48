/-
  Texts that the claims of this seat share, put together (BsRef2, BsRef3, BsRef4, BsRef5, BsRef6, BsRef7). No condition.
-/
import Derived.Test.YtgegjoggiadgbaaBsRef1
import Derived.Laws.CopyOwn
import Derived.Deep.QuietTactic
import Derived.BigQuiet
import Derived.BigRegion
/-
  Shaken: what the claims of this seat need of this text. No condition.
-/
namespace Go.Proofs.Ytgegjoggiadgbaa
set_option maxRecDepth 8000
open Go.RowKit
theorem run_make_one {P : Program} (t e : TypeId) (z : Value) (bytes : Nat) (ht : P.underlying t = some (.slice e)) (hinfo : (P.info? e).map (fun i => (i.zero, i.size, i.bytes)) = some (some z, 1, bytes)) (hz : z.cells = #[z])
    (s : Nat) (hs : s ≤ 281474976710656) (hb : bytes * s ≤ 281474976710656) (W : World) :
    (Instr.makeSlice t (.int .i64 (s : Int)) (.int .i64 (s : Int))).run P W = .ok (.slice (some ⟨W.heap.size, 0, none⟩) s s) (W.alloc (.cells (madeCells #[z] s) e)) := by
  obtain ⟨i0, hi, hz0, hz1, hz2⟩ := info_parts hinfo
  have hbs : (i0.bytes : Int) * (s : Int) ≤ 281474976710656 := by
    rw [hz2]
    have : ((bytes * s : Nat) : Int) ≤ 281474976710656 := by omega
    rwa [Int.natCast_mul] at this
  have h := run_make (P := P) W t e i0 z ht hi hz0 .i64 .i64 (s : Int) (s : Int) (by omega) (by omega) hbs (by omega)
  rw [hz1, hz] at h
  simpa using h
theorem info_u64 : (Try.prog.info? 53).map (fun i => (i.zero, i.size, i.bytes)) = some (some (.int .u64 0), 1, 8) := by kernel_rfl
theorem info_bool : (Try.prog.info? 4).map (fun i => (i.zero, i.size, i.bytes)) = some (some (.bool false), 1, 1) := by kernel_rfl
theorem info_int : (Try.prog.info? 3).map (fun i => (i.zero, i.size, i.bytes)) = some (some (.int .i64 0), 1, 8) := by kernel_rfl
def FreshSet (n : Nat) (ws : List UInt64) (w : World) (e : Ending) (w' : World) : Prop :=
  ∃ g, w.heap.size ≤ g ∧ e = .returned (.agg #[.int .i64 (n : Int), .slice (some ⟨g, 0, none⟩) ws.length ws.length]) ∧ Row w' g 53 (ucells ws) ∧ Grows w w'
theorem pack_none (n : Nat) : pack n (fun _ => false) = List.replicate (nw n) 0 := by
  apply List.ext_getElem?
  intro k
  by_cases hk : k < nw n
  · rw [pack_get hk, List.getElem?_replicate, if_pos hk]
    congr 1
    apply word_ext
    intro j hj
    rw [wbit_wordOf]
    have : wbit 0 j = false := by unfold wbit; simp
    simp [this]
  · rw [List.getElem?_eq_none (by rw [pack_length]; omega), List.getElem?_eq_none (by simp; omega)]
def newN (n : Int) : Nat := if 0 ≤ n ∧ n ≤ 1048576 then n.toNat else 0
theorem newN_nat {n : Nat} (h : n ≤ 1048576) : newN (n : Int) = n := by unfold newN; rw [if_pos (by omega)]; simp
theorem newN_bad {n : Int} (h : n < 0 ∨ 1048576 < n) : newN n = 0 := by unfold newN; rw [if_neg (by omega)]
theorem newN_le (n : Int) : newN n ≤ 1048576 := by unfold newN; split <;> omega
theorem nw_cast (n : Nat) : ((n : Int) + 63) / 64 = ((nw n : Nat) : Int) := by unfold nw; omega
theorem size_set : (Try.prog.info? 30).map (·.size) = some 2 := by kernel_rfl
theorem results_set {fn : Func} {p : Tmp} (h : fn.results = #[.cell p 30]) (tmps : Array Value) (w : World) (g : Nat) (n v : Value) (hp : tmps.getD p undef = .pointer (some ⟨g, 0, none⟩)) (hg : Row w g 30 [n, v]) :
    (results fn tmps).run Try.prog w = .ok (.agg #[n, v]) w :=
  results_cell_row h tmps w g 30 #[n, v] (0, 0) _ hp hg Try.underlying30 rfl size_set
set_option maxHeartbeats 400000 in
theorem rnew_any (n : Int) (w : World) (h63 : -9223372036854775808 ≤ n) (h64 : n ≤ 9223372036854775807) :
    Calls Try.prog 28 #[.int .i64 n] w (FreshSet (newN n) (pack (newN n) fun _ => false) w) := by
  by_cases hb : n < 0 ∨ 1048576 < n
  · have HN := hidden (newN_bad hb)
    have HP := hidden (pack_none 0)
    have HL := hidden (pack_length 0 fun _ => false)
    have HM := hidden (made_ucells 0)
    have hmk : ∀ W, (Instr.makeSlice 28 (.int .i64 0) (.int .i64 0)).run Try.prog W = .ok (.slice (some ⟨W.heap.size, 0, none⟩) 0 0) (W.alloc (.cells (madeCells #[.int .u64 0] 0) 53)) :=
      fun W => run_make_one (P := Try.prog) 28 53 (.int .u64 0) 8 Try.underlying28 info_u64 rfl 0 (by omega) (by omega) W
    have hd2 : n < 0 → decide ((1048576 : Int) < n) = false := by intro h; simp; omega
    have fin : FreshSet (newN n) (pack (newN n) fun _ => false) w (.returned (.agg #[.int .i64 0, .slice (some ⟨w.heap.size + 1, 0, none⟩) 0 0]))
        ((w.alloc (.cells #[.int .i64 0, .slice (some ⟨w.heap.size + 1, 0, none⟩) 0 0] 30)).alloc (.cells (madeCells #[.int .u64 0] 0) 53)) := by
      refine ⟨w.heap.size + 1, Nat.le_succ _, ?_, ?_, ((Below.refl _ _).alloc (Nat.le_refl _) _).alloc (by simp) _⟩
      · rw [HN.out, HL.out]; rfl
      · rw [HN.out, HP.out]; exact Row.at_ _ _ _ _ HM.out _ (by simp)
    have res : Row ((w.alloc (.cells #[.int .i64 0, .slice (some ⟨w.heap.size + 1, 0, none⟩) 0 0] 30)).alloc (.cells (madeCells #[.int .u64 0] 0) 53)) w.heap.size 30 [.int .i64 0, .slice (some ⟨w.heap.size + 1, 0, none⟩) 0 0] :=
      (Row.new w _ _ _ rfl).grow ((Below.refl _ _).alloc (Nat.le_refl _) _)
    have FIN := hidden fin
    have RES := hidden res
    clear fin res
    by_cases h0 : n < 0
    · have hd1 : decide (n < 0) = true := by simpa using h0
      clear hb hd2
      go_enter Try.func28, Try.ntmps28
      go_wp2
      exact bodyPost_ret (results_set rfl _ _ _ _ _ rfl RES.out) rfl FIN.out
    · have hd1 : decide (n < 0) = false := by simpa using h0
      have hd3 : decide ((1048576 : Int) < n) = true := by simp; omega
      clear hb hd2 h0
      go_enter Try.func28, Try.ntmps28
      go_wp2
      exact bodyPost_ret (results_set rfl _ _ _ _ _ rfl RES.out) rfl FIN.out
  · obtain ⟨k, rfl⟩ := Int.eq_ofNat_of_zero_le (show 0 ≤ n by omega)
    have hk : k ≤ 1048576 := by omega
    have hnw := nw_cast k
    have hnl : nw k ≤ 20000 := by unfold nw; omega
    have hmk := fun W => run_make_one (P := Try.prog) 28 53 (.int .u64 0) 8 Try.underlying28 info_u64 rfl (nw k) (by omega) (by omega) W
    have HN := hidden (newN_nat hk)
    have HP := hidden (pack_none k)
    have HM := hidden (made_ucells (nw k))
    have HL := hidden (pack_length k fun _ => false)
    have hd1 : decide ((k : Int) < 0) = false := by simp
    have hd2 : decide ((1048576 : Int) < (k : Int)) = false := by simp; omega
    clear hb
    go_enter Try.func28, Try.ntmps28
    go_wp2
    refine bodyPost_ret (results_set rfl _ _ _ _ _ rfl ((Row.new w _ _ _ rfl).grow ((Below.refl _ _).alloc (Nat.le_refl _) _))) rfl ⟨w.heap.size + 1, Nat.le_succ _, ?_, ?_, ((Below.refl _ _).alloc (Nat.le_refl _) _).alloc (by simp) _⟩
    · rw [HN.out, HL.out]
    · rw [HN.out, HP.out]; exact Row.at_ _ _ _ _ HM.out _ (by simp)
theorem Row.set_other {w : World} {g : Nat} {e : TypeId} {xs : List Value} (h : Row w g e xs) {a : Addr} (ha : a.block ≠ g) (u : Value) : Row (w.setCell a u) g e xs := by
  unfold Row at h ⊢
  rw [Below.heap_setCell _ _ _ _ (Ne.symm ha)]
  exact h
def upto (f : Nat → Bool) (k : Nat) : Nat → Bool := fun j => decide (j < k) && f j
theorem bitsOf_get {f : Nat → Bool} {n j : Nat} (h : j < n) : (bitsOf f n)[j]? = some (f j) := by simp [bitsOf, h]
theorem tcells_bits {f : Nat → Bool} {n j : Nat} (h : j < n) : (tcells (bitsOf f n))[j]? = some (.bool (f j)) := by unfold tcells; rw [List.getElem?_map, bitsOf_get h]; rfl
theorem bits_none (n : Nat) (f : Nat → Bool) : List.replicate n false = bitsOf (upto f 0) n := by
  apply List.ext_getElem?
  intro j
  by_cases h : j < n
  · rw [bitsOf_get h, List.getElem?_replicate, if_pos h]; simp [upto]
  · rw [List.getElem?_eq_none (by simp; omega), List.getElem?_eq_none (by rw [bitsOf_length]; omega)]
theorem bits_set {n k : Nat} {f : Nat → Bool} (h : k < n) : (bitsOf (upto f k) n).set k (f k) = bitsOf (upto f (k + 1)) n := by
  apply List.ext_getElem?
  intro j
  rw [List.getElem?_set, bitsOf_length]
  by_cases hj : j < n
  · rw [bitsOf_get hj, bitsOf_get hj]
    by_cases hkj : k = j
    · subst hkj; simp [h, upto]
    · rw [if_neg hkj]
      congr 1
      unfold upto
      congr 1
      rw [decide_eq_decide]; omega
  · rw [List.getElem?_eq_none (by rw [bitsOf_length]; omega), List.getElem?_eq_none (by rw [bitsOf_length]; omega), if_neg (by omega)]
theorem bits_all {n k : Nat} {f : Nat → Bool} (h : n ≤ k) : bitsOf (upto f k) n = bitsOf f n := by
  unfold bitsOf
  apply List.map_congr_left
  intro j hj
  rw [List.mem_range] at hj
  have : j < k := by omega
  simp [upto, this]
theorem Row.setRow_ {w : World} {g : Nat} {e : TypeId} {xs : List Value} (h : Row w g e xs) (ys : List Value) (_hl : xs.toArray.size = ys.toArray.size) : Row (w.setRow g ys.toArray) g e ys := by
  unfold Row at h ⊢
  simp [World.setRow, Array.getElem?_modify, h]
theorem wpList_store_set {w : World} {ops : Array Oper} {rest : List Oper} {o : Oper} {a : Act} {Q : Exit → Act → World → Prop} (hgd : o.guard = none) (x y : Operand) (ho : o.op = .store 30 x y)
    (g : Nat) (hx : a.eval x = .pointer (some ⟨g, 0, none⟩)) (k : IntKind) (n : Int) (A : Option Addr) (l c : Nat) (hy : a.eval y = .agg #[.int k n, .slice A l c]) {z1 z2 : Value} (hg : Row w g 30 [z1, z2])
    (h : wpList Try.prog ops Q rest (a.put o.dst undef) (w.setRow g #[.int k n, .slice A l c])) : wpList Try.prog ops Q (o :: rest) a w :=
  wpList_store_row hgd 30 x y ho g #[.int k n, .slice A l c] hx hy 30 #[z1, z2] hg size_set rfl (by simp [Value.oneCell']) h
theorem or_go {x : UInt64} {j : Nat} (hj : j < 64) : bits .or .u64 (x.toNat : Int) (IntKind.u64.wrap (1 * 2 ^ j)) = ((UInt64.ofNat (x.toNat ||| 2 ^ j)).toNat : Int) := by
  have hx := x.toNat_lt
  have hp : 2 ^ j < 18446744073709551616 := Nat.pow_lt_pow_right (n := 64) (by decide) hj
  have e : IntKind.u64.wrap (1 * 2 ^ j) = ((2 ^ j : Nat) : Int) := by
    rw [Int.one_mul, show ((2 : Int) ^ j) = ((2 ^ j : Nat) : Int) by simp, IntKind.wrap_u64]
    generalize 2 ^ j = y at *
    omega
  have hl : x.toNat ||| 2 ^ j < 2 ^ 64 := Nat.or_lt_two_pow hx hp
  rw [e, u64_or_nat x.toNat _ hx hp, UInt64.toNat_ofNat', Nat.mod_eq_of_lt hl]
theorem or_go' {x : UInt64} {j : Nat} (hj : j < 64) : bits .or .u64 (x.toNat : Int) (IntKind.u64.wrap (2 ^ j)) = ((UInt64.ofNat (x.toNat ||| 2 ^ j)).toNat : Int) := by
  rw [← or_go hj, Int.one_mul]
theorem bit_snoc {n k : Nat} {f : Nat → Bool} (hf : f k = true) : pack n (fun j => upto f k j || decide (j = k)) = pack n (upto f (k + 1)) := by
  apply pack_congr
  intro j _
  unfold upto
  by_cases h : j = k
  · subst h; simp [hf]
  · have : decide (j < k + 1) = decide (j < k) := by rw [decide_eq_decide]; omega
    simp [h, this]
theorem bit_miss {n k : Nat} {f : Nat → Bool} (hf : f k = false) : pack n (upto f k) = pack n (upto f (k + 1)) := by
  apply pack_congr
  intro j _
  unfold upto
  by_cases h : j = k
  · subst h; simp [hf]
  · have : decide (j < k + 1) = decide (j < k) := by rw [decide_eq_decide]; omega
    simp [this]
theorem pack_all {n k : Nat} {f : Nat → Bool} (h : n ≤ k) : pack n (upto f k) = pack n f := by
  apply pack_congr
  intro j hj
  have : j < k := by omega
  simp [upto, this]
theorem pack_zero (n : Nat) (f : Nat → Bool) : pack n (fun _ => false) = pack n (upto f 0) := by
  apply pack_congr
  intro j _
  simp [upto]
def BuildRel (w : World) (n : Nat) (f : Nat → Bool) (B g : Nat) (i : Value) (wr : World) : Prop :=
  ∃ k : Nat, k ≤ n ∧ i = .int .i64 k ∧ Row wr B 30 [.int .i64 (n : Int), .slice (some ⟨g, 0, none⟩) (nw n) (nw n)] ∧ Row wr g 53 (ucells (pack n (upto f k))) ∧ (∃ z1 z2, Row wr w.heap.size 30 [z1, z2]) ∧ Below w.heap.size w wr
set_option maxHeartbeats 1000000 in
theorem rbuild_any (v : Value) (n : Nat) (f : Nat → Bool) (w : World) (hv : Reads w v (tcells (bitsOf f n))) (hn : n ≤ 1048576) :
    Calls Try.prog 61 #[v] w (FreshSet n (pack n f) w) := by
  have HV := hidden hv
  obtain ⟨A, c, rfl, _⟩ := hv.slice_
  clear hv
  rw [tcells_length, bitsOf_length] at HV ⊢
  have HNN := hidden (newN_nat hn)
  have HL := hidden (pack_length n)
  have hnl : nw n ≤ 20000 := by unfold nw; omega
  go_enter Try.func61, Try.ntmps61
  go_wp2_with fail
  refine (rnew_any (n : Int) _ (by omega) (by omega)).mono ?_
  rintro e w1 ⟨g, hg, rfl, hrow, g1⟩
  rw [HNN.out] at hrow ⊢
  rw [HL.out]
  have hB : Grows w w1 := Grows.of_below ((Below.refl _ _).alloc (Nat.le_refl _) _) g1
  have hR0 : Row w1 w.heap.size 30 [.int .i64 0, .slice none 0 0] := (Row.new w _ _ _ rfl).grow g1
  have hg1 : w.heap.size + 1 ≤ g := by simpa using hg
  have hgl := hrow.lt
  have hR2 := hrow.grow (w' := w1.alloc (.cells #[.int .i64 (n : Int), .slice (some ⟨g, 0, none⟩) (nw n) (nw n)] 30)) ((Below.refl _ _).alloc (Nat.le_refl _) _)
  have hR3 := hR0.grow (w' := w1.alloc (.cells #[.int .i64 (n : Int), .slice (some ⟨g, 0, none⟩) (nw n) (nw n)] 30)) ((Below.refl _ _).alloc (Nat.le_refl _) _)
  have hR4 := Row.new w1 30 #[.int .i64 (n : Int), .slice (some ⟨g, 0, none⟩) (nw n) (nw n)] _ rfl
  have hB4 : Grows w (w1.alloc (.cells #[.int .i64 (n : Int), .slice (some ⟨g, 0, none⟩) (nw n) (nw n)] 30)) := hB.alloc hB.size _
  rw [pack_zero n f] at hR2
  have H2 := hidden hR2
  have H3 := hidden hR3
  have H4 := hidden hR4
  have HB4 := hidden hB4
  have hsz := hB.size
  clear hB hR0 hrow hR2 hR3 hR4 hB4 g1 hg
  go_wp2_with fail
  go_loopw [4] (fun i wr => BuildRel w n f w1.heap.size g i wr) (fun i _ => n - (intOf i).toNat)
  case atStart => exact ⟨0, by omega, rfl, H4.out, H2.out, ⟨_, _, H3.out⟩, HB4.out⟩
  case round =>
    obtain ⟨k, hk, rfl, r1, r2, ⟨z1, z2, r3⟩, hb⟩ := hrel
    have hc0 := r1.cell 0
    have hc1 := r1.cell 1
    simp only [List.getElem?_cons_zero, List.getElem?_cons_succ] at hc0 hc1
    have R1 := hidden r1
    have R2 := hidden r2
    have R3 := hidden r3
    have HB := hidden hb
    clear r1 r2 r3 hb
    by_cases hlt : k < n
    · obtain ⟨A', c', he, _, hcell⟩ := HV.out.grow HB.out
      injection he with e1 e2 e3
      subst e1 e3
      obtain ⟨b, off, rfl, hcell2⟩ := hcell (by rw [tcells_length, bitsOf_length]; omega)
      have hbit := hcell2 k (by rw [tcells_length, bitsOf_length]; omega)
      rw [tcells_bits hlt] at hbit
      clear hcell hcell2 e2
      by_cases hf : f k = true
      · rw [hf] at hbit
        have hkw : k / 64 < nw n := by unfold nw; omega
        have hkl : k / 64 < (pack n (upto f k)).length := by rw [HL.out]; exact hkw
        have hcw := R2.out.cell (k / 64)
        rw [ucells_get hkl] at hcw
        have hfr := R2.out.frozen (k / 64)
        have hps := pack_set (f := upto f k) hlt _ (List.getElem?_eq_getElem hkl)
        rw [bit_snoc hf] at hps
        have HR := hidden (R2.out.set_ (k / 64) (.int .u64 ((UInt64.ofNat ((pack n (upto f k))[k / 64].toNat ||| 2 ^ (k % 64))).toNat : Int)))
        have HPS := hidden hps
        have HO := hidden (or_go (x := (pack n (upto f k))[k / 64]) (j := k % 64) (by omega))
        have HO' := hidden (or_go' (x := (pack n (upto f k))[k / 64]) (j := k % 64) (by omega))
        have hxb : (pack n (upto f k))[k / 64].toNat < 18446744073709551616 := (pack n (upto f k))[k / 64].toNat_lt
        clear hps hf
        generalize (pack n (upto f k))[k / 64] = x at *
        go_wp2
        go_roundw
        case rel =>
          refine ⟨k + 1, by omega, by go_num, R1.out.set_other (by simp; omega) _, ?_, ⟨_, _, R3.out.set_other (by simp; omega) _⟩, HB.out.setCell (by simp; omega) _⟩
          have h := HR.out
          rw [ucells_set, HPS.out, ← HO'.out] at h
          exact h
        case measure => simp [intOf]; omega
      · have hff : f k = false := by simpa using hf
        rw [hff] at hbit
        have HM := hidden (bit_miss (n := n) hff)
        clear hf hff
        go_wp2
        go_roundw
        case rel => exact ⟨k + 1, by omega, by go_num, R1.out, by rw [← HM.out]; exact R2.out, ⟨_, _, R3.out⟩, HB.out⟩
        case measure => simp [intOf]; omega
    · have hke : k = n := by omega
      have HA := hidden (pack_all (f := f) (Nat.le_of_eq hke.symm))
      clear hke
      have HRS := hidden (R3.out.setRow_ [.int .i64 (n : Int), .slice (some ⟨g, 0, none⟩) (nw n) (nw n)] rfl)
      go_wp2_with (refine wpList_store_set rfl _ _ rfl w.heap.size rfl _ _ _ _ _ rfl R3.out ?_)
      refine bodyPost_ret (results_set rfl _ _ _ _ _ rfl HRS.out) rfl ⟨g, by omega, by rw [HL.out], ?_, below_setRow HB.out (Nat.le_refl _) _⟩
      have h := R2.out
      rw [HA.out] at h
      unfold Row at h ⊢
      rw [setRow_other _ _ _ _ (by omega)]
      exact h
def onAt (f : Nat → Bool) (i : Int) (b : Bool) : Nat → Bool := fun j => if (j : Int) = i then b else f j
end Go.Proofs.Ytgegjoggiadgbaa
/-
  Shaken: what the claims of this seat need of this text. No condition.
-/
namespace Go.Proofs.Ytgegjoggiadgbaa
set_option maxRecDepth 8000
open Go.RowKit
def OwnInts (l : List Nat) (w : World) (e : Ending) (w' : World) : Prop :=
  ∃ v, e = .returned v ∧ w'.ownsRow w.heap.size 3 1 v l.length (ncells l) ∧ Below w.heap.size w w'
theorem wpList_append_int {wr : World} {ops : Array Oper} {rest : List Oper} {o : Oper} {a : Act} {Q : Exit → Act → World → Prop} (hgd : o.guard = none) (s x : Operand)
    (ho : o.op = .call { callee := .builtin .append, args := #[s, x], argTypes := #[55, 55] })
    (v : Value) (pre : List Nat) (hs : a.eval s = v) (base : Nat) (hown : wr.ownsRow base 3 1 v pre.length (ncells pre)) (w0 : World) (hb : Below base w0 wr) (hbase : base ≤ wr.heap.size)
    (z : Int) (c : Nat) (hz : z = (c : Int)) (hx : a.eval x = .slice (some ⟨wr.heap.size, 0, none⟩) 1 1) (hlen : pre.length + 1 ≤ 17592186044416)
    (h : ∀ v' w', w'.ownsRow base 3 1 v' (pre ++ [c]).length (ncells (pre ++ [c])) → Below base w0 w' → wpList Try.prog ops Q rest (a.put o.dst v') w') :
    wpList Try.prog ops Q (o :: rest) a (wr.alloc (.cells #[.int .i64 z] 3)) := by
  obtain ⟨i0, hi, hz0, hz1, hz2⟩ := info_parts info_int
  subst hz
  refine wpList_append_own _ hgd s x 55 ho base 3 i0 (.int .i64 0) 1 8 Try.underlying55 hi hz0 hz1 hz2 rfl (by decide) v pre.length (ncells pre) hs (hown.alloc _) ⟨wr.heap.size, 0, none⟩ 1 1 [.int .i64 (c : Int)] hx rfl ?_ ?_ ?_ ?_ ?_ ?_
  · intro j u hj
    match j, hj with
    | 0, hj => simp at hj; subst hj; simp [Addr.add]
  · intro u hu; simp at hu; subst hu; rfl
  · unfold maxLen; omega
  · omega
  · simp; omega
  · intro v' w' h1 h2 _
    rw [← ncells_snoc, show pre.length + 1 = (pre ++ [c]).length by simp] at h1
    exact h v' w' h1 ((hb.alloc hbase _).grown h2 (by simp; omega) (fun k hk => (hown.lt k hk).1))
end Go.Proofs.Ytgegjoggiadgbaa
/-
  Shaken: what the claims of this seat need of this text. No condition.
-/
namespace Go.Proofs.Ytgegjoggiadgbaa
set_option maxRecDepth 8000
open Go.RowKit
def OpRel (w : World) (m na nb : Nat) (va vb : Value) (f : Nat → Bool) (k : Value) (wr : World) : Prop :=
  ∃ j : Nat, j ≤ m ∧ k = .int .i64 j ∧ Row wr w.heap.size 30 [.int .i64 (na : Int), va] ∧ Row wr (w.heap.size + 1) 30 [.int .i64 (nb : Int), vb] ∧ Row wr (w.heap.size + 2) 30 [.int .i64 0, .slice none 0 0] ∧
    Row wr (w.heap.size + 3) 4 (tcells (bitsOf (upto f j) m)) ∧ Below w.heap.size w wr
end Go.Proofs.Ytgegjoggiadgbaa
/-
  Shaken: what the claims of this seat need of this text. No condition.
-/
namespace Go.Proofs.Ytgegjoggiadgbaa
set_option maxRecDepth 8000
open Go.RowKit
set_option maxHeartbeats 1000000 in
theorem ror_any (s t : Value) (na nb : Nat) (wa wb : List UInt64) (w : World) (hs : IsSet w s na wa) (ht : IsSet w t nb wb) :
    Calls Try.prog 39 #[s, t] w (FreshSet (max na nb) (pack (max na nb) fun j => mem na wa j || mem nb wb j) w) := by
  have HS := hidden hs
  have HT := hidden ht
  obtain ⟨v, rfl, hr, hn, hn2⟩ := hs
  obtain ⟨A, d, rfl, _⟩ := hr.slice_
  obtain ⟨u, rfl, hr', hn', hn2'⟩ := ht
  obtain ⟨B, d', rfl, _⟩ := hr'.slice_
  rw [ucells_length] at HS hr ⊢
  rw [ucells_length] at HT hr' ⊢
  obtain ⟨F, hF⟩ : ∃ F : Nat → Bool, F = fun j => mem na wa j || mem nb wb j := ⟨_, rfl⟩
  rw [← hF]
  clear hr hr'
  by_cases hab : na < nb
  · have hmax : max na nb = nb := by omega
    rw [hmax]
    clear hmax
    have HF := hidden hF
    clear hF
    have hF := fun j => congrFun HF.out j
    have HEQ := hidden hF
    clear hF
    have hmk := fun W => run_make_one (P := Try.prog) 88 4 (.bool false) 1 Try.underlying88 info_bool rfl nb (by omega) (by omega) W
    have HZ := hidden (made_tcells nb)
    have HZ2 := hidden (bits_none nb F)
    go_enter Try.func39, Try.ntmps39
    go_wp2_with fail
    go_loopw [6] (fun k wr => OpRel w nb na nb (.slice A wa.length d) (.slice B wb.length d') F k wr) (fun k _ => nb - (intOf k).toNat)
    case atStart =>
      refine ⟨0, by omega, rfl, (((Row.new w _ _ _ rfl).grow ((Below.refl _ _).alloc (Nat.le_refl _) _)).grow ((Below.refl _ _).alloc (Nat.le_refl _) _)).grow ((Below.refl _ _).alloc (Nat.le_refl _) _), ((Row.at_ _ _ _ _ rfl _ (by simp)).grow ((Below.refl _ _).alloc (Nat.le_refl _) _)).grow ((Below.refl _ _).alloc (Nat.le_refl _) _), (Row.at_ _ _ _ _ rfl _ (by simp)).grow ((Below.refl _ _).alloc (Nat.le_refl _) _), Row.at_ _ _ _ _ ?_ _ (by simp), ((((Below.refl _ _).alloc (Nat.le_refl _) _).alloc (by simp) _).alloc (by simp; omega) _).alloc (by simp; omega) _⟩
      rw [HZ.out, HZ2.out]
    case round =>
      obtain ⟨j, hj, rfl, r1, r2, r3, r4, hb⟩ := hrel
      have hc0 := r1.cell 0
      have hc1 := r1.cell 1
      simp only [List.getElem?_cons_zero, List.getElem?_cons_succ] at hc0 hc1
      have R1 := hidden r1
      have R2 := hidden r2
      have R3 := hidden r3
      have R4 := hidden r4
      have HB := hidden hb
      clear r1 r2 r3 r4 hb hmk
      by_cases hlt : j < nb
      · have HC1 := hidden (rcontains_any _ na wa (j : Int) wr (HS.out.grow HB.out) (by omega) (by omega))
        have hFj : F j = (mem na wa j || mem nb wb j) := by rw [HEQ.out]
        go_wp2_with fail
        refine (Calls.mono HC1.out ?_)
        rintro e w2 ⟨rfl, g2⟩
        rw [memI_nat]
        have r2b := R2.out.grow g2
        have hd0 := r2b.cell 0
        have hd1 := r2b.cell 1
        simp only [List.getElem?_cons_zero, List.getElem?_cons_succ] at hd0 hd1
        have HR1 := hidden (R1.out.grow g2)
        have HR2 := hidden r2b
        have HR3 := hidden (R3.out.grow g2)
        have HR4 := hidden (R4.out.grow g2)
        have HG := hidden (HB.out.trans (g2.mono HB.out.size))
        clear g2 r2b
        by_cases hm : mem na wa j = true
        · rw [hm] at hFj ⊢
          have HV : Hid (F j = true) := by show F j = true; rw [hFj]; rfl
          have hcell := HR4.out.cell j
          rw [tcells_bits hlt] at hcell
          have hfr := HR4.out.frozen j
          have HSET := hidden (HR4.out.set_ j (.bool true))
          have HSL : Hid ((tcells (bitsOf (upto F j) nb)).set j (.bool true) = tcells (bitsOf (upto F (j + 1)) nb)) := by
            show _ = _
            rw [← HV.out, tcells_set, bits_set hlt]
          go_wp2
          go_roundw
          case rel =>
            refine ⟨j + 1, by omega, by go_num, HR1.out.set_other (by show w.heap.size + 3 ≠ _; omega) _, HR2.out.set_other (by show w.heap.size + 3 ≠ _; omega) _, HR3.out.set_other (by show w.heap.size + 3 ≠ _; omega) _, ?_, HG.out.setCell (by show w.heap.size ≤ w.heap.size + 3; omega) _⟩
            have h := HSET.out
            rw [HSL.out] at h
            exact h
          case measure => simp [intOf]; omega
        · have hm' : mem na wa j = false := by simpa using hm
          rw [hm'] at hFj ⊢
          clear hm hm'
          have HC2 := hidden (rcontains_any _ nb wb (j : Int) w2 (HT.out.grow HG.out) (by omega) (by omega))
          go_wp2_with fail
          refine (Calls.mono HC2.out ?_)
          rintro e w4 ⟨rfl, g4⟩
          rw [memI_nat]
          have hsz2 : w.heap.size ≤ w2.heap.size := HG.out.size
          have HR1' := hidden (HR1.out.grow g4)
          have HR2' := hidden (HR2.out.grow g4)
          have HR3' := hidden (HR3.out.grow g4)
          have HR4' := hidden (HR4.out.grow g4)
          have HG' := hidden (HG.out.trans (g4.mono hsz2))
          clear g4 HR1 HR2 HR3 HR4 HG hd0 hd1
          have HR1 := HR1'
          have HR2 := HR2'
          have HR3 := HR3'
          have HR4 := HR4'
          have HG := HG'
          clear HR1' HR2' HR3' HR4' HG'
          generalize mem nb wb j = y at *
          have HV : Hid (F j = (y)) := by show F j = (y); rw [hFj]; cases y <;> rfl
          have hcell := HR4.out.cell j
          rw [tcells_bits hlt] at hcell
          have hfr := HR4.out.frozen j
          have HSET := hidden (HR4.out.set_ j (.bool (y)))
          have HSL : Hid ((tcells (bitsOf (upto F j) nb)).set j (.bool (y)) = tcells (bitsOf (upto F (j + 1)) nb)) := by
            show _ = _
            rw [← HV.out, tcells_set, bits_set hlt]
          go_wp2
          go_roundw
          case rel =>
            refine ⟨j + 1, by omega, by go_num, HR1.out.set_other (by show w.heap.size + 3 ≠ _; omega) _, HR2.out.set_other (by show w.heap.size + 3 ≠ _; omega) _, HR3.out.set_other (by show w.heap.size + 3 ≠ _; omega) _, ?_, HG.out.setCell (by show w.heap.size ≤ w.heap.size + 3; omega) _⟩
            have h := HSET.out
            rw [HSL.out] at h
            exact h
          case measure => simp [intOf]; omega
      · have hke : j = nb := by omega
        have HA := hidden (bits_all (f := F) (Nat.le_of_eq hke.symm))
        have hrow := R4.out
        rw [HA.out] at hrow
        have HBU := hidden (rbuild_any _ nb F wr (Reads.of_row hrow nb nb (by rw [tcells_length, bitsOf_length]) (Nat.le_refl _)) (by omega))
        have hnj : nb ≤ j := by omega
        clear hrow hke
        go_wp2_with fail
        refine (Calls.mono HBU.out ?_)
        rintro e w3 ⟨g3, hg3, rfl, hr3, hb3⟩
        have hr0 := R3.out.grow hb3
        have HR0 := hidden hr0
        have HRW := hidden hr3
        have HG3 := hidden (HB.out.trans (hb3.mono HB.out.size))
        have hg4 : w.heap.size + 2 < g3 := Nat.lt_of_lt_of_le (by have := R4.out.lt; omega) hg3
        rw [pack_length]
        have HRS := hidden (hr0.setRow_ [.int .i64 (nb : Int), .slice (some ⟨g3, 0, none⟩) (nw nb) (nw nb)] rfl)
        clear hr0 hr3 hb3 hg3
        go_wp2_with (refine wpList_store_set rfl _ _ rfl (w.heap.size + 2) rfl _ _ _ _ _ rfl HR0.out ?_)
        refine bodyPost_ret (results_set rfl _ _ _ _ _ rfl HRS.out) rfl ⟨g3, by omega, by rw [pack_length], ?_, below_setRow HG3.out (by omega) _⟩
        have h := HRW.out
        unfold Row at h ⊢
        rw [setRow_other _ _ _ _ (by omega)]
        exact h
  · have hmax : max na nb = na := by omega
    rw [hmax]
    clear hmax
    have HF := hidden hF
    clear hF
    have hF := fun j => congrFun HF.out j
    have HEQ := hidden hF
    clear hF
    have hmk := fun W => run_make_one (P := Try.prog) 88 4 (.bool false) 1 Try.underlying88 info_bool rfl na (by omega) (by omega) W
    have HZ := hidden (made_tcells na)
    have HZ2 := hidden (bits_none na F)
    go_enter Try.func39, Try.ntmps39
    go_wp2_with fail
    go_loopw [6] (fun k wr => OpRel w na na nb (.slice A wa.length d) (.slice B wb.length d') F k wr) (fun k _ => na - (intOf k).toNat)
    case atStart =>
      refine ⟨0, by omega, rfl, (((Row.new w _ _ _ rfl).grow ((Below.refl _ _).alloc (Nat.le_refl _) _)).grow ((Below.refl _ _).alloc (Nat.le_refl _) _)).grow ((Below.refl _ _).alloc (Nat.le_refl _) _), ((Row.at_ _ _ _ _ rfl _ (by simp)).grow ((Below.refl _ _).alloc (Nat.le_refl _) _)).grow ((Below.refl _ _).alloc (Nat.le_refl _) _), (Row.at_ _ _ _ _ rfl _ (by simp)).grow ((Below.refl _ _).alloc (Nat.le_refl _) _), Row.at_ _ _ _ _ ?_ _ (by simp), ((((Below.refl _ _).alloc (Nat.le_refl _) _).alloc (by simp) _).alloc (by simp; omega) _).alloc (by simp; omega) _⟩
      rw [HZ.out, HZ2.out]
    case round =>
      obtain ⟨j, hj, rfl, r1, r2, r3, r4, hb⟩ := hrel
      have hc0 := r1.cell 0
      have hc1 := r1.cell 1
      simp only [List.getElem?_cons_zero, List.getElem?_cons_succ] at hc0 hc1
      have R1 := hidden r1
      have R2 := hidden r2
      have R3 := hidden r3
      have R4 := hidden r4
      have HB := hidden hb
      clear r1 r2 r3 r4 hb hmk
      by_cases hlt : j < na
      · have HC1 := hidden (rcontains_any _ na wa (j : Int) wr (HS.out.grow HB.out) (by omega) (by omega))
        have hFj : F j = (mem na wa j || mem nb wb j) := by rw [HEQ.out]
        go_wp2_with fail
        refine (Calls.mono HC1.out ?_)
        rintro e w2 ⟨rfl, g2⟩
        rw [memI_nat]
        have r2b := R2.out.grow g2
        have hd0 := r2b.cell 0
        have hd1 := r2b.cell 1
        simp only [List.getElem?_cons_zero, List.getElem?_cons_succ] at hd0 hd1
        have HR1 := hidden (R1.out.grow g2)
        have HR2 := hidden r2b
        have HR3 := hidden (R3.out.grow g2)
        have HR4 := hidden (R4.out.grow g2)
        have HG := hidden (HB.out.trans (g2.mono HB.out.size))
        clear g2 r2b
        by_cases hm : mem na wa j = true
        · rw [hm] at hFj ⊢
          have HV : Hid (F j = true) := by show F j = true; rw [hFj]; rfl
          have hcell := HR4.out.cell j
          rw [tcells_bits hlt] at hcell
          have hfr := HR4.out.frozen j
          have HSET := hidden (HR4.out.set_ j (.bool true))
          have HSL : Hid ((tcells (bitsOf (upto F j) na)).set j (.bool true) = tcells (bitsOf (upto F (j + 1)) na)) := by
            show _ = _
            rw [← HV.out, tcells_set, bits_set hlt]
          go_wp2
          go_roundw
          case rel =>
            refine ⟨j + 1, by omega, by go_num, HR1.out.set_other (by show w.heap.size + 3 ≠ _; omega) _, HR2.out.set_other (by show w.heap.size + 3 ≠ _; omega) _, HR3.out.set_other (by show w.heap.size + 3 ≠ _; omega) _, ?_, HG.out.setCell (by show w.heap.size ≤ w.heap.size + 3; omega) _⟩
            have h := HSET.out
            rw [HSL.out] at h
            exact h
          case measure => simp [intOf]; omega
        · have hm' : mem na wa j = false := by simpa using hm
          rw [hm'] at hFj ⊢
          clear hm hm'
          have HC2 := hidden (rcontains_any _ nb wb (j : Int) w2 (HT.out.grow HG.out) (by omega) (by omega))
          go_wp2_with fail
          refine (Calls.mono HC2.out ?_)
          rintro e w4 ⟨rfl, g4⟩
          rw [memI_nat]
          have hsz2 : w.heap.size ≤ w2.heap.size := HG.out.size
          have HR1' := hidden (HR1.out.grow g4)
          have HR2' := hidden (HR2.out.grow g4)
          have HR3' := hidden (HR3.out.grow g4)
          have HR4' := hidden (HR4.out.grow g4)
          have HG' := hidden (HG.out.trans (g4.mono hsz2))
          clear g4 HR1 HR2 HR3 HR4 HG hd0 hd1
          have HR1 := HR1'
          have HR2 := HR2'
          have HR3 := HR3'
          have HR4 := HR4'
          have HG := HG'
          clear HR1' HR2' HR3' HR4' HG'
          generalize mem nb wb j = y at *
          have HV : Hid (F j = (y)) := by show F j = (y); rw [hFj]; cases y <;> rfl
          have hcell := HR4.out.cell j
          rw [tcells_bits hlt] at hcell
          have hfr := HR4.out.frozen j
          have HSET := hidden (HR4.out.set_ j (.bool (y)))
          have HSL : Hid ((tcells (bitsOf (upto F j) na)).set j (.bool (y)) = tcells (bitsOf (upto F (j + 1)) na)) := by
            show _ = _
            rw [← HV.out, tcells_set, bits_set hlt]
          go_wp2
          go_roundw
          case rel =>
            refine ⟨j + 1, by omega, by go_num, HR1.out.set_other (by show w.heap.size + 3 ≠ _; omega) _, HR2.out.set_other (by show w.heap.size + 3 ≠ _; omega) _, HR3.out.set_other (by show w.heap.size + 3 ≠ _; omega) _, ?_, HG.out.setCell (by show w.heap.size ≤ w.heap.size + 3; omega) _⟩
            have h := HSET.out
            rw [HSL.out] at h
            exact h
          case measure => simp [intOf]; omega
      · have hke : j = na := by omega
        have HA := hidden (bits_all (f := F) (Nat.le_of_eq hke.symm))
        have hrow := R4.out
        rw [HA.out] at hrow
        have HBU := hidden (rbuild_any _ na F wr (Reads.of_row hrow na na (by rw [tcells_length, bitsOf_length]) (Nat.le_refl _)) (by omega))
        have hnj : na ≤ j := by omega
        clear hrow hke
        go_wp2_with fail
        refine (Calls.mono HBU.out ?_)
        rintro e w3 ⟨g3, hg3, rfl, hr3, hb3⟩
        have hr0 := R3.out.grow hb3
        have HR0 := hidden hr0
        have HRW := hidden hr3
        have HG3 := hidden (HB.out.trans (hb3.mono HB.out.size))
        have hg4 : w.heap.size + 2 < g3 := Nat.lt_of_lt_of_le (by have := R4.out.lt; omega) hg3
        rw [pack_length]
        have HRS := hidden (hr0.setRow_ [.int .i64 (na : Int), .slice (some ⟨g3, 0, none⟩) (nw na) (nw na)] rfl)
        clear hr0 hr3 hb3 hg3
        go_wp2_with (refine wpList_store_set rfl _ _ rfl (w.heap.size + 2) rfl _ _ _ _ _ rfl HR0.out ?_)
        refine bodyPost_ret (results_set rfl _ _ _ _ _ rfl HRS.out) rfl ⟨g3, by omega, by rw [pack_length], ?_, below_setRow HG3.out (by omega) _⟩
        have h := HRW.out
        unfold Row at h ⊢
        rw [setRow_other _ _ _ _ (by omega)]
        exact h
end Go.Proofs.Ytgegjoggiadgbaa
/-
  Shaken: what the claims of this seat need of this text. No condition.
-/
namespace Go.Proofs.Ytgegjoggiadgbaa
set_option maxRecDepth 8000
open Go.RowKit
theorem below_draws {B : Nat} {a w : World} (h : Below B a w) (n : Nat) : Below B a (w.drewN n) := h.trans ⟨rfl, rfl, rfl, Nat.le_refl _, fun _ _ => rfl⟩
def IsPair (w : World) (s : Value) (n : Int) (ws : List UInt64) : Prop := ∃ v, s = .agg #[.int .i64 n, v] ∧ Reads w v (ucells ws) ∧ ws.length ≤ 9223372036854775807
theorem IsPair.grow {w w' : World} {s : Value} {n : Int} {ws : List UInt64} (h : IsPair w s n ws) (hb : Grows w w') : IsPair w' s n ws := by
  obtain ⟨v, h1, h2, h3⟩ := h
  exact ⟨v, h1, h2.grow hb, h3⟩
def pairEq (na nb : Int) (wa wb : List UInt64) : Bool := decide (na = nb ∧ wa = wb)
theorem pairEq_f {na nb : Int} {wa wb : List UInt64} (h : ¬ (na = nb ∧ wa = wb)) : pairEq na nb wa wb = false := by unfold pairEq; simpa using h
theorem pairEq_t {na nb : Int} {wa wb : List UInt64} (h : na = nb ∧ wa = wb) : pairEq na nb wa wb = true := by unfold pairEq; simpa using h
def EqRel (w : World) (na nb : Int) (va vb : Value) (wa wb : List UInt64) (k : Value) (wr : World) : Prop :=
  ∃ j : Nat, j ≤ wa.length ∧ k = .int .i64 j ∧ wa.take j = wb.take j ∧ Row wr w.heap.size 30 [.int .i64 na, va] ∧ Row wr (w.heap.size + 1) 30 [.int .i64 nb, vb] ∧ Below w.heap.size w wr
set_option maxHeartbeats 1000000 in
theorem rbsequal_any (s t : Value) (na nb : Int) (wa wb : List UInt64) (w : World) (hs : IsPair w s na wa) (ht : IsPair w t nb wb) :
    Calls Try.prog 31 #[s, t] w fun e w' => e = .returned (.bool (pairEq na nb wa wb)) ∧ Grows w w' := by
  have HS := hidden hs
  have HT := hidden ht
  obtain ⟨v, rfl, hr, hla⟩ := hs
  obtain ⟨A, d, rfl, _⟩ := hr.slice_
  obtain ⟨u, rfl, hr', hlb⟩ := ht
  obtain ⟨B, d', rfl, _⟩ := hr'.slice_
  rw [ucells_length] at HS hr ⊢
  rw [ucells_length] at HT hr' ⊢
  have HRA := hidden hr
  have HRB := hidden hr'
  have hG : ∀ o p, Grows w ((w.alloc o).alloc p) := fun o p => ((Below.refl _ _).alloc (Nat.le_refl _) o).alloc (by simp) p
  have HG := hidden hG
  clear hr hr' hG
  by_cases hne : na = nb ∧ wa.length = wb.length
  · obtain ⟨rfl, hlen⟩ := hne
    have hd1 : ((wa.length : Int) != (wb.length : Int)) = false := by simp; omega
    have HLN := hidden hlen
    clear hlen
    go_enter Try.func31, Try.ntmps31
    go_wp2_with fail
    go_loopw [5] (fun k wr => EqRel w na na (.slice A wa.length d) (.slice B wb.length d') wa wb k wr) (fun k _ => wa.length - (intOf k).toNat)
    case atStart => exact ⟨0, by omega, rfl, rfl, (Row.new w _ _ _ rfl).grow ((Below.refl _ _).alloc (Nat.le_refl _) _), Row.at_ _ _ _ _ rfl _ (by simp), HG.out _ _⟩
    case round =>
      obtain ⟨j, hj, rfl, hsame, r1, r2, hb⟩ := hrel
      have hc0 := r1.cell 0
      have hc1 := r1.cell 1
      have hd0 := r2.cell 0
      have he1 := r2.cell 1
      simp only [List.getElem?_cons_zero, List.getElem?_cons_succ] at hc0 hc1 hd0 he1
      have R1 := hidden r1
      have R2 := hidden r2
      have HB := hidden hb
      have HSM := hidden hsame
      have hlen := HLN.out
      clear r1 r2 hb hsame
      by_cases hlt : j < wa.length
      · have hlt2 : j < wb.length := by omega
        obtain ⟨A', c1, he, _, hca⟩ := HRA.out.grow HB.out
        injection he with e1 e2 e3
        subst e1 e3
        obtain ⟨B', c2, he', _, hcb⟩ := HRB.out.grow HB.out
        injection he' with f1 f2 f3
        subst f1 f3
        obtain ⟨b1, o1, rfl, hx1⟩ := hca (by rw [ucells_length]; omega)
        obtain ⟨b2, o2, rfl, hx2⟩ := hcb (by rw [ucells_length]; omega)
        have hy1 := hx1 j (by rw [ucells_length]; omega)
        have hy2 := hx2 j (by rw [ucells_length]; omega)
        rw [ucells_get hlt] at hy1
        rw [ucells_get hlt2] at hy2
        have HTA := hidden (List.take_succ_eq_append_getElem hlt)
        have HTB := hidden (List.take_succ_eq_append_getElem hlt2)
        clear hca hcb hx1 hx2 e2 f2 hlen
        by_cases heq : wa[j] = wb[j]
        · have hE : ((wa[j].toNat : Int) != (wb[j].toNat : Int)) = false := by rw [heq]; simp
          have HEQ := hidden heq
          clear heq
          go_wp2_with fail
          go_quiet (fail)
          go_wp2
          go_roundw
          case rel =>
            have hdr : ∀ m, Grows wr (wr.drewN m) := fun m => below_draws (Below.refl _ _) m
            refine ⟨j + 1, by omega, by go_num, ?_, R1.out.grow (hdr _), R2.out.grow (hdr _), below_draws HB.out _⟩
            rw [HTA.out, HTB.out, HSM.out, HEQ.out]
          case measure => simp [intOf]; omega
        · have hE : ((wa[j].toNat : Int) != (wb[j].toNat : Int)) = true := by
            simp
            intro h
            exact heq (UInt64.toNat_inj.1 (by omega))
          have HF := hidden (pairEq_f (na := na) (nb := na) (wa := wa) (wb := wb) (fun h => heq (by simp [h.2])))
          clear heq
          go_wp2_with fail
          go_quiet (fail)
          go_wp2
          go_ret
          exact ⟨retB (by rw [HF.out]), below_draws HB.out _⟩
      · have hje : j = wa.length := by omega
        have hsame := HSM.out
        rw [hje, List.take_length, hlen, List.take_length] at hsame
        have HT2 := hidden (pairEq_t (na := na) (nb := na) ⟨rfl, hsame⟩)
        have hnj : wa.length ≤ j := by omega
        clear hsame hje hlen
        go_wp2
        go_ret
        exact ⟨retB (by rw [HT2.out]), HB.out⟩
  · have HF := hidden (pairEq_f (na := na) (nb := nb) (wa := wa) (wb := wb) (fun h => hne ⟨h.1, by rw [h.2]⟩))
    by_cases hn : na = nb
    · subst hn
      have hd : ((wa.length : Int) != (wb.length : Int)) = true := by simp; omega
      clear hne
      go_enter Try.func31, Try.ntmps31
      go_wp2
      go_ret
      exact ⟨retB (by rw [HF.out]), HG.out _ _⟩
    · have hd : (na != nb) = true := by simpa using hn
      clear hne
      go_enter Try.func31, Try.ntmps31
      go_wp2
      go_ret
      exact ⟨retB (by rw [HF.out]), HG.out _ _⟩
def validP (n : Int) (ws : List UInt64) : Prop := 0 ≤ n ∧ n ≤ 1048576 ∧ okW n.toNat ws
open Classical in
noncomputable def validI (n : Int) (ws : List UInt64) : Bool := decide (validP n ws)
theorem validI_t {n : Int} {ws : List UInt64} (h : validP n ws) : validI n ws = true := by unfold validI; simpa using h
theorem validI_f {n : Int} {ws : List UInt64} (h : ¬ validP n ws) : validI n ws = false := by unfold validI; simpa using h
theorem validI_iff {n : Int} {ws : List UInt64} : validI n ws = true ↔ validP n ws := by unfold validI; simp
theorem okW_even {n : Nat} {ws : List UInt64} (h : n % 64 = 0) (hl : ws.length = nw n) : okW n ws := by
  refine ⟨hl, fun i hi => ?_⟩
  unfold wmem
  rw [List.getElem?_eq_none (by rw [hl]; unfold nw; omega)]
theorem okW_last {n : Nat} {ws : List UInt64} (h : n % 64 ≠ 0) (hl : ws.length = nw n) (hlt : ws.length - 1 < ws.length) : okW n ws ↔ ws[ws.length - 1].toNat / 2 ^ (n % 64) = 0 := by
  have hk : ws.length - 1 = n / 64 := by rw [hl]; unfold nw; omega
  have hm : ∀ j, j < 64 → wmem ws (64 * (n / 64) + j) = wbit ws[ws.length - 1] j := by
    intro j hj
    unfold wmem
    rw [show (64 * (n / 64) + j) / 64 = n / 64 by omega, show (64 * (n / 64) + j) % 64 = j by omega, ← hk, List.getElem?_eq_getElem hlt]
  constructor
  · intro ho
    apply Nat.eq_of_testBit_eq
    intro j
    rw [Nat.testBit_div_two_pow, Nat.zero_testBit]
    by_cases hj : j + n % 64 < 64
    · have := ho.2 (64 * (n / 64) + (j + n % 64)) (by omega)
      rw [hm _ hj] at this
      exact this
    · exact wbit_ge (w := ws[ws.length - 1]) (by omega)
  · intro hz
    refine ⟨hl, fun i hi => ?_⟩
    by_cases hi2 : i / 64 = n / 64
    · have e : i = 64 * (n / 64) + i % 64 := by omega
      rw [e, hm _ (by omega)]
      have h1 := congrArg (fun x => x.testBit (i % 64 - n % 64)) hz
      simp only [Nat.testBit_div_two_pow, Nat.zero_testBit] at h1
      rw [show i % 64 - n % 64 + n % 64 = i % 64 by omega] at h1
      exact h1
    · unfold wmem
      rw [List.getElem?_eq_none (by rw [hl]; unfold nw; omega)]
set_option maxHeartbeats 1000000 in
theorem rvalid_any (s : Value) (n : Int) (ws : List UInt64) (w : World) (hs : IsPair w s n ws) (h63 : -9223372036854775808 ≤ n) (h64 : n ≤ 9223372036854775807) :
    Calls Try.prog 37 #[s] w fun e w' => e = .returned (.bool (validI n ws)) ∧ Grows w w' := by
  obtain ⟨v, rfl, hr, hla⟩ := hs
  have hr2 := hr
  obtain ⟨A, d, rfl, _⟩ := hr.slice_
  rw [ucells_length] at hr hr2 ⊢
  have hG : ∀ o, Grows w (w.alloc o) := fun o => (Below.refl _ _).alloc (Nat.le_refl _) o
  have HG := hidden hG
  have HR := hidden hr2
  clear hr hr2 hG
  by_cases h0 : n < 0
  · have HF := hidden (validI_f (ws := ws) (fun h : validP n ws => by have := h.1; omega))
    have hd : decide (n < 0) = true := by simpa using h0
    go_enter Try.func37, Try.ntmps37
    go_wp2
    go_ret
    exact ⟨retB (by rw [HF.out]), HG.out _⟩
  · by_cases h1 : 1048576 < n
    · have HF := hidden (validI_f (ws := ws) (fun h : validP n ws => by have := h.2.1; omega))
      have hd1 : decide (n < 0) = false := by simpa using h0
      have hd : decide (1048576 < n) = true := by simpa using h1
      go_enter Try.func37, Try.ntmps37
      go_wp2
      go_ret
      exact ⟨retB (by rw [HF.out]), HG.out _⟩
    · obtain ⟨m, rfl⟩ := Int.eq_ofNat_of_zero_le (show 0 ≤ n by omega)
      have hm : m ≤ 1048576 := by omega
      have hnw := nw_cast m
      by_cases hl : ws.length = nw m
      · have hne : ((ws.length : Int) != ((nw m : Nat) : Int)) = false := by simp; omega
        by_cases hz : m % 64 = 0
        · have HT := hidden (validI_t (n := (m : Int)) (ws := ws) ⟨by omega, by omega, by rw [Int.toNat_natCast]; exact okW_even hz hl⟩)
          have hz2 : ((m : Int) % 64 == 0) = true := by simp; omega
          clear hz hl h0 h1
          go_enter Try.func37, Try.ntmps37
          go_wp2_with fail
          go_quiet (fail)
          go_wp2
          go_ret
          exact ⟨retB (by rw [HT.out]), below_draws (HG.out _) _⟩
        · have hpos : 0 < ws.length := by rw [hl]; unfold nw; omega
          have hlt : ws.length - 1 < ws.length := by omega
          obtain ⟨A', c', he, _, hcell⟩ := HR.out.grow (HG.out (.cells #[.int .i64 (m : Int), .slice A ws.length d] 30))
          injection he with e1 e2 e3
          subst e1 e3
          obtain ⟨b, off, rfl, hx⟩ := hcell (by rw [ucells_length]; omega)
          have hcl := hx (ws.length - 1) (by rw [ucells_length]; omega)
          rw [ucells_get hlt] at hcl
          have hz2 : ((m : Int) % 64 == 0) = false := by simp; omega
          have hsub : (ws.length : Int) - 1 = ((ws.length - 1 : Nat) : Int) := by omega
          have HOK := hidden (okW_last hz hl hlt)
          have hxb : ws[ws.length - 1].toNat < 18446744073709551616 := ws[ws.length - 1].toNat_lt
          have HV : Hid (validI (m : Int) ws = decide (ws[ws.length - 1].toNat / 2 ^ (m % 64) = 0)) := by
            show _ = _
            by_cases hq : ws[ws.length - 1].toNat / 2 ^ (m % 64) = 0
            · rw [validI_t ⟨by omega, by omega, by rw [Int.toNat_natCast]; exact HOK.out.2 hq⟩]; simp [hq]
            · rw [validI_f (fun h => hq (HOK.out.1 (by have := h.2.2; rwa [Int.toNat_natCast] at this)))]; simp [hq]
          have HLN : Hid (ws.length - 1 < ws.length) := hlt
          clear hz hl h0 h1 hx hcell e2 HOK
          generalize ws[ws.length - 1].toNat = x at *
          have HD : Hid (((x : Int) / 2 ^ (m % 64) == 0) = decide (x / 2 ^ (m % 64) = 0)) := by
            show _ = _
            have e : ((x : Int) / 2 ^ (m % 64)) = ((x / 2 ^ (m % 64) : Nat) : Int) := by simp
            rw [e]
            generalize x / 2 ^ (m % 64) = y
            by_cases hy : y = 0
            · subst hy; rfl
            · have h1 : ((y : Int) == 0) = false := by simp; omega
              rw [h1]; simp [hy]
          go_enter Try.func37, Try.ntmps37
          go_wp2_with fail
          go_quiet (fail)
          go_wp2
          go_ret
          exact ⟨retB (by rw [HV.out, ← HD.out]), below_draws (HG.out _) _⟩
      · have HF := hidden (validI_f (n := (m : Int)) (ws := ws) (fun h => hl (by have := h.2.2.1; rwa [Int.toNat_natCast] at this)))
        have hne : ((ws.length : Int) != ((nw m : Nat) : Int)) = true := by simp; omega
        clear hl h0 h1
        go_enter Try.func37, Try.ntmps37
        go_wp2
        go_ret
        exact ⟨retB (by rw [HF.out]), HG.out _⟩
end Go.Proofs.Ytgegjoggiadgbaa
/-
  Shaken: what the claims of this seat need of this text. No condition.
-/
namespace Go.Proofs.Ytgegjoggiadgbaa
set_option maxRecDepth 8000
open Go.RowKit
def inL (l : List Int) : Nat → Bool := fun j => decide ((j : Int) ∈ l)
theorem inL_nil : inL [] = fun _ => false := by funext j; simp [inL]
theorem inL_hit {n : Nat} {l : List Int} {k : Nat} : pack n (fun j => inL l j || decide (j = k)) = pack n (inL (l ++ [(k : Int)])) := by
  apply pack_congr
  intro j _
  unfold inL
  have e : ((j : Int) = (k : Int)) ↔ j = k := by omega
  by_cases h : (j : Int) ∈ l <;> by_cases h2 : j = k <;> simp [h, h2, e]
def OfRel (w : World) (n : Nat) (l : List Int) (B g : Nat) (k : Value) (wr : World) : Prop :=
  ∃ j : Nat, j ≤ l.length ∧ k = .int .i64 j ∧ Row wr B 30 [.int .i64 (n : Int), .slice (some ⟨g, 0, none⟩) (nw n) (nw n)] ∧ Row wr g 53 (ucells (pack n (inL (l.take j)))) ∧ (∃ z1 z2, Row wr w.heap.size 30 [z1, z2]) ∧ Below w.heap.size w wr
end Go.Proofs.Ytgegjoggiadgbaa
