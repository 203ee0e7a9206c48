/-
  Texts that the claims of this seat share, put together (BsRef2, Rm1). No condition.
-/
import Derived.Test.YtgmjoghgmcjebaaBsRef1
import Derived.Laws.CopyOwn
import Derived.Test.YtgmjoghgmcjebaaM9
/-
  The reference's New, build, bits, Of and Set return new sets ('FreshSet') of what the document says; nothing that was there is changed.
-/
namespace Go.Proofs.Ytgmjoghgmcjebaa
open Go.RowKit

/-- make([]T, s), T of one cell -/
theorem run_make_one {P : Program} (t e : TypeId) (z : Value) (bytes : Nat) (ht : P.underlying t = some (.slice e)) (hinfo : (P.info? e).map (fun i => (i.zero, i.size, i.bytes)) = some (some z, 1, bytes)) (hz : z.cells = #[z])
    (s : Nat) (hs : s ≤ 281474976710656) (hb : bytes * s ≤ 281474976710656) (W : World) :
    (Instr.makeSlice t (.int .i64 (s : Int)) (.int .i64 (s : Int))).run P W = .ok (.slice (some ⟨W.heap.size, 0, none⟩) s s) (W.alloc (.cells (madeCells #[z] s) e)) := by
  obtain ⟨i0, hi, hz0, hz1, hz2⟩ := info_parts hinfo
  have hbs : (i0.bytes : Int) * (s : Int) ≤ 281474976710656 := by
    rw [hz2]
    have : ((bytes * s : Nat) : Int) ≤ 281474976710656 := by omega
    rwa [Int.natCast_mul] at this
  have h := run_make (P := P) W t e i0 z ht hi hz0 .i64 .i64 (s : Int) (s : Int) (by omega) (by omega) hbs (by omega)
  rw [hz1, hz] at h
  simpa using h
theorem info_u64 : (Try.prog.info? 60).map (fun i => (i.zero, i.size, i.bytes)) = some (some (.int .u64 0), 1, 8) := by kernel_rfl
theorem info_bool : (Try.prog.info? 4).map (fun i => (i.zero, i.size, i.bytes)) = some (some (.bool false), 1, 1) := by kernel_rfl
theorem info_int : (Try.prog.info? 3).map (fun i => (i.zero, i.size, i.bytes)) = some (some (.int .i64 0), 1, 8) := by kernel_rfl

/-- a set whose words lie in a new block -/
def FreshSet (n : Nat) (ws : List UInt64) (w : World) (e : Ending) (w' : World) : Prop :=
  ∃ g, w.heap.size ≤ g ∧ e = .returned (.agg #[.int .i64 (n : Int), .slice (some ⟨g, 0, none⟩) ws.length ws.length]) ∧ Row w' g 60 (ucells ws) ∧ Grows w w'
theorem pack_none (n : Nat) : pack n (fun _ => false) = List.replicate (nw n) 0 := by
  apply List.ext_getElem?
  intro k
  by_cases hk : k < nw n
  · rw [pack_get hk, List.getElem?_replicate, if_pos hk]
    congr 1
    apply word_ext
    intro j hj
    rw [wbit_wordOf]
    have : wbit 0 j = false := by unfold wbit; simp
    simp [this]
  · rw [List.getElem?_eq_none (by rw [pack_length]; omega), List.getElem?_eq_none (by simp; omega)]
/-- N of New -/
def newN (n : Int) : Nat := if 0 ≤ n ∧ n ≤ 1048576 then n.toNat else 0
theorem newN_nat {n : Nat} (h : n ≤ 1048576) : newN (n : Int) = n := by unfold newN; rw [if_pos (by omega)]; simp
theorem newN_bad {n : Int} (h : n < 0 ∨ 1048576 < n) : newN n = 0 := by unfold newN; rw [if_neg (by omega)]
theorem newN_le (n : Int) : newN n ≤ 1048576 := by unfold newN; split <;> omega
theorem nw_cast (n : Nat) : ((n : Int) + 63) / 64 = ((nw n : Nat) : Int) := by unfold nw; omega

theorem Row.set_other {w : World} {g : Nat} {e : TypeId} {xs : List Value} (h : Row w g e xs) {a : Addr} (ha : a.block ≠ g) (u : Value) : Row (w.setCell a u) g e xs := by
  unfold Row at h ⊢
  rw [Below.heap_setCell _ _ _ _ (Ne.symm ha)]
  exact h

/-- a new row of Bools -/
def FreshBools (l : List Bool) (w : World) (e : Ending) (w' : World) : Prop :=
  ∃ g, w.heap.size ≤ g ∧ e = .returned (.slice (some ⟨g, 0, none⟩) l.length l.length) ∧ Row w' g 4 (tcells l) ∧ Grows w w'
/-- the bits of f below n, those from k on still false -/
def upto (f : Nat → Bool) (k : Nat) : Nat → Bool := fun j => decide (j < k) && f j
theorem bitsOf_get {f : Nat → Bool} {n j : Nat} (h : j < n) : (bitsOf f n)[j]? = some (f j) := by simp [bitsOf, h]
theorem tcells_bits {f : Nat → Bool} {n j : Nat} (h : j < n) : (tcells (bitsOf f n))[j]? = some (.bool (f j)) := by unfold tcells; rw [List.getElem?_map, bitsOf_get h]; rfl
theorem bits_none (n : Nat) (f : Nat → Bool) : List.replicate n false = bitsOf (upto f 0) n := by
  apply List.ext_getElem?
  intro j
  by_cases h : j < n
  · rw [bitsOf_get h, List.getElem?_replicate, if_pos h]; simp [upto]
  · rw [List.getElem?_eq_none (by simp; omega), List.getElem?_eq_none (by rw [bitsOf_length]; omega)]
theorem bits_set {n k : Nat} {f : Nat → Bool} (h : k < n) : (bitsOf (upto f k) n).set k (f k) = bitsOf (upto f (k + 1)) n := by
  apply List.ext_getElem?
  intro j
  rw [List.getElem?_set, bitsOf_length]
  by_cases hj : j < n
  · rw [bitsOf_get hj, bitsOf_get hj]
    by_cases hkj : k = j
    · subst hkj; simp [h, upto]
    · rw [if_neg hkj]
      congr 1
      unfold upto
      congr 1
      rw [decide_eq_decide]; omega
  · rw [List.getElem?_eq_none (by rw [bitsOf_length]; omega), List.getElem?_eq_none (by rw [bitsOf_length]; omega), if_neg (by omega)]
theorem bits_all {n k : Nat} {f : Nat → Bool} (h : n ≤ k) : bitsOf (upto f k) n = bitsOf f n := by
  unfold bitsOf
  apply List.map_congr_left
  intro j hj
  rw [List.mem_range] at hj
  have : j < k := by omega
  simp [upto, this]

theorem Row.setRow_ {w : World} {g : Nat} {e : TypeId} {xs : List Value} (h : Row w g e xs) (ys : List Value) (_hl : xs.toArray.size = ys.toArray.size) : Row (w.setRow g ys.toArray) g e ys := by
  unfold Row at h ⊢
  simp [World.setRow, Array.getElem?_modify, h]
theorem or_go {x : UInt64} {j : Nat} (hj : j < 64) : bits .or .u64 (x.toNat : Int) (IntKind.u64.wrap (1 * 2 ^ j)) = ((UInt64.ofNat (x.toNat ||| 2 ^ j)).toNat : Int) := by
  have hx := x.toNat_lt
  have hp : 2 ^ j < 18446744073709551616 := Nat.pow_lt_pow_right (n := 64) (by decide) hj
  have e : IntKind.u64.wrap (1 * 2 ^ j) = ((2 ^ j : Nat) : Int) := by
    rw [Int.one_mul, show ((2 : Int) ^ j) = ((2 ^ j : Nat) : Int) by simp, IntKind.wrap_u64]
    generalize 2 ^ j = y at *
    omega
  have hl : x.toNat ||| 2 ^ j < 2 ^ 64 := Nat.or_lt_two_pow hx hp
  rw [e, u64_or_nat x.toNat _ hx hp, UInt64.toNat_ofNat', Nat.mod_eq_of_lt hl]
theorem or_go' {x : UInt64} {j : Nat} (hj : j < 64) : bits .or .u64 (x.toNat : Int) (IntKind.u64.wrap (2 ^ j)) = ((UInt64.ofNat (x.toNat ||| 2 ^ j)).toNat : Int) := by
  rw [← or_go hj, Int.one_mul]
theorem bit_snoc {n k : Nat} {f : Nat → Bool} (hf : f k = true) : pack n (fun j => upto f k j || decide (j = k)) = pack n (upto f (k + 1)) := by
  apply pack_congr
  intro j _
  unfold upto
  by_cases h : j = k
  · subst h; simp [hf]
  · have : decide (j < k + 1) = decide (j < k) := by rw [decide_eq_decide]; omega
    simp [h, this]
theorem bit_miss {n k : Nat} {f : Nat → Bool} (hf : f k = false) : pack n (upto f k) = pack n (upto f (k + 1)) := by
  apply pack_congr
  intro j _
  unfold upto
  by_cases h : j = k
  · subst h; simp [hf]
  · have : decide (j < k + 1) = decide (j < k) := by rw [decide_eq_decide]; omega
    simp [this]
theorem pack_all {n k : Nat} {f : Nat → Bool} (h : n ≤ k) : pack n (upto f k) = pack n f := by
  apply pack_congr
  intro j hj
  have : j < k := by omega
  simp [upto, this]
theorem pack_zero (n : Nat) (f : Nat → Bool) : pack n (fun _ => false) = pack n (upto f 0) := by
  apply pack_congr
  intro j _
  simp [upto]

/-- a new set is a set -/
theorem FreshSet.isSet {n : Nat} {f : Nat → Bool} {w w' : World} {e : Ending} (h : FreshSet n (pack n f) w e w') (hn : n ≤ 1048576) : ∃ s, e = .returned s ∧ IsSet w' s n (pack n f) ∧ Grows w w' := by
  obtain ⟨g, _, rfl, hr, hb⟩ := h
  refine ⟨_, rfl, ⟨_, rfl, Reads.of_row hr _ _ (by rw [ucells_length]) (Nat.le_refl _), ?_, hn⟩, hb⟩
  rw [pack_length]; unfold nw; omega

/-- 'i is on' laid over f -/
def onAt (f : Nat → Bool) (i : Int) (b : Bool) : Nat → Bool := fun j => if (j : Int) = i then b else f j
theorem bits_onAt {n k : Nat} {f : Nat → Bool} {b : Bool} (h : k < n) : (bitsOf f n).set k b = bitsOf (onAt f (k : Int) b) n := by
  apply List.ext_getElem?
  intro j
  rw [List.getElem?_set, bitsOf_length]
  by_cases hj : j < n
  · rw [bitsOf_get hj, bitsOf_get hj]
    by_cases hkj : k = j
    · subst hkj; simp [h, onAt]
    · rw [if_neg hkj]
      congr 1
      unfold onAt
      rw [if_neg (by omega)]
  · rw [List.getElem?_eq_none (by rw [bitsOf_length]; omega), List.getElem?_eq_none (by rw [bitsOf_length]; omega), if_neg (by omega)]
theorem onAt_out {n : Nat} {f : Nat → Bool} {i : Int} {b : Bool} (h : i < 0 ∨ (n : Int) ≤ i) : bitsOf (onAt f i b) n = bitsOf f n := by
  unfold bitsOf
  apply List.map_congr_left
  intro j hj
  rw [List.mem_range] at hj
  unfold onAt
  rw [if_neg (by omega)]

end Go.Proofs.Ytgmjoghgmcjebaa
/-
  Package rle as it landed: length, Valid, At. Nothing that was there is changed.
-/
namespace Go.Proofs.Ytgmjoghgmcjebaa
open Go.RowKit
set_option linter.unusedVariables false
set_option linter.unusedSimpArgs false

theorem runGrow1 {w : World} (o : Obj) : Grows w (w.alloc o) := (Below.refl _ _).alloc (Nat.le_refl _) o
theorem size_run : (Try.prog.info? 87).map (·.size) = some 2 := by kernel_rfl
theorem runRow (w : World) (z1 z2 : Value) : Row (w.alloc (.cells #[z1, z2] 87)) w.heap.size 87 [z1, z2] := Row.new w 87 #[z1, z2] [z1, z2] rfl
theorem runCells {w : World} {g : Nat} {v n : Value} (h : Row w g 87 [v, n]) : w.cell? ⟨g, 0, none⟩ = some v ∧ w.cell? ⟨g, 1, none⟩ = some n := ⟨h.cell 0, h.cell 1⟩

def lenV (l : List Rn) : Int × Bool := if validR l then (sumC l, true) else (0, false)
theorem lenV_f {l : List Rn} (h : validR l = false) : lenV l = (0, false) := by unfold lenV; rw [h]; rfl
theorem lenV_t {l : List Rn} (h : validR l = true) : lenV l = (sumC l, true) := by unfold lenV; rw [h]; rfl
def RLenRel (w : World) (l : List Rn) (n i : Value) (wr : World) : Prop :=
  ∃ j : Nat, j ≤ l.length ∧ i = .int .i64 (j : Int) ∧ n = .int .i64 (sumC (l.take j)) ∧ (0 ≤ sumC (l.take j) ∧ sumC (l.take j) ≤ 65536) ∧ (∀ k, k < j → okRun l k = true) ∧ Below w.heap.size w wr
set_option maxHeartbeats 4000000 in
theorem llength_any (v : Value) (l : List Rn) (w : World) (hv : ReadsR w v l) (hl : l.length ≤ 9223372036854775806) :
    Calls Try.prog 105 #[v] w fun e w' => e = .returned (.tuple #[.int .i64 (lenV l).1, .bool (lenV l).2]) ∧ Grows w w' := by
  have HV := hidden hv
  obtain ⟨A, c, rfl⟩ := hv.slice_
  clear hv
  go_enter Try.func105, Try.ntmps105
  go_wp2_with fail
  go_loopw [4, 9] (fun n i wr => RLenRel w l n i wr) (fun _ i _ => l.length - (intOf i).toNat)
  case atStart => exact ⟨0, by omega, rfl, by rw [List.take_zero, sumC_nil], by rw [List.take_zero, sumC_nil]; omega, fun k hk => by omega, Below.refl _ _⟩
  case round =>
    obtain ⟨j, hj, rfl, rfl, hs, hok, hb⟩ := hrel
    have HB := hidden hb
    have HOK := hidden hok
    have HSS := hidden hs
    clear hb hok
    by_cases hlt : j < l.length
    · obtain ⟨b, off, hA, hc⟩ := (HV.out.grow HB.out).at_
      obtain rfl := hA (by omega)
      obtain ⟨c1, c2⟩ := hc j hlt
      have HOR := hidden (okRun_iff hlt)
      have HST := hidden (sumC_take hlt)
      have HP := hidden (fun h1 : j - 1 < l.length => (hc (j - 1) h1).1)
      obtain ⟨L, hL⟩ : ∃ L, L = sumC (l.take j) := ⟨_, rfl⟩
      rw [← hL] at HST hs ⊢
      have HL := hidden hL
      obtain ⟨x1, hx1⟩ : ∃ x, x = l[j].1 := ⟨_, rfl⟩
      obtain ⟨x2, hx2⟩ : ∃ x, x = l[j].2 := ⟨_, rfl⟩
      rw [← hx1] at c1
      rw [← hx2] at c2 HST
      have HX1 := hidden hx1
      have HX2 := hidden hx2
      clear hA hc hL hx1 hx2 HSS
      have HB1 := hidden (show ∀ d, Grows w ((wr.alloc (.cells #[.int .i64 x1, .int .i64 x2] 87)).drewN d) from fun d => draws_below (HB.out.alloc HB.out.size _) _)
      by_cases h0 : j = 0
      · have d3 : decide ((0 : Int) < (j : Int)) = false := by simp; omega
        have d3' : decide (0 < j) = false := by simp; omega
        have HJ0 := hidden h0
        clear h0
        by_cases h1 : x2 < 1
        · have d1 : decide (x2 < 1) = true := by simpa using h1
          have HF := hidden (lenV_f (validR_f hlt (by
            cases h : okRun l j
            · rfl
            · have := (HOR.out.1 h).1; rw [← HX2.out] at this; omega)))
          clear h1
          go_wp2_with fail
          go_quiet (fail)
          go_wp2
          go_ret2
          exact ⟨by rw [HF.out]; rfl, HB1.out _⟩
        have d1 : decide (x2 < 1) = false := by simpa using h1
        by_cases h2 : 65536 - L < x2
        · have d2 : decide (65536 - L < x2) = true := by simpa using h2
          have HF := hidden (lenV_f (validR_f hlt (by
            cases h : okRun l j
            · rfl
            · have := (HOR.out.1 h).2.1; rw [← HX2.out, ← HL.out] at this; omega)))
          clear h1 h2
          go_wp2_with fail
          go_quiet (fail)
          go_wp2
          go_ret2
          exact ⟨by rw [HF.out]; rfl, HB1.out _⟩
        have d2 : decide (65536 - L < x2) = false := by simpa using h2
        have hx : 1 ≤ x2 ∧ x2 ≤ 65536 - L := by omega
        have HNS := hidden (show 0 ≤ sumC (l.take (j + 1)) ∧ sumC (l.take (j + 1)) ≤ 65536 by have h3 := HST.out; omega)
        have HNO := hidden (show ∀ k, k < j + 1 → okRun l k = true from fun k hk => by
          have hkj : k = j := by have := HJ0.out; omega
          subst hkj
          exact HOR.out.2 ⟨by rw [← HX2.out]; exact hx.1, by rw [← HX2.out, ← HL.out]; exact hx.2, fun h => by have := HJ0.out; omega⟩)
        clear h1 h2
        go_wp2_with fail
        go_quiet (fail)
        go_wp2
        go_roundw
        case rel => exact ⟨j + 1, by omega, by go_num, by rw [HST.out], HNS.out, HNO.out, HB1.out _⟩
        case measure => simp [intOf]; omega
      · have hj1 : j - 1 < l.length := by omega
        have cp := HP.out hj1
        have d3 : decide ((0 : Int) < (j : Int)) = true := by simp; omega
        have d3' : decide (0 < j) = true := by simp; omega
        have b1 : (0 : Int) ≤ (j : Int) - 1 := by omega
        have b2 : (j : Int) - 1 < (l.length : Int) := by omega
        have b3 : ((j : Int) - 1).toNat = j - 1 := by omega
        obtain ⟨y1, hy1⟩ : ∃ y, y = l[j - 1].1 := ⟨_, rfl⟩
        rw [← hy1] at cp
        have HY1 := hidden hy1
        have cp2 := ((runGrow1 (w := wr) (.cells #[.int .i64 x1, .int .i64 x2] 87)).cell (World.block_lt_of_cell? _ _ cp)).trans cp
        clear hy1 cp
        by_cases he : x1 = y1
        · have d4 : (x1 == y1) = true := by simpa using he
          have HF := hidden (lenV_f (validR_f hlt (by
            cases h : okRun l j
            · rfl
            · exact absurd (by rw [← HX1.out, ← HY1.out]; exact he.symm) ((HOR.out.1 h).2.2 (by omega) hj1))))
          clear he h0
          go_wp2_with fail
          go_quiet (fail)
          go_wp2
          go_ret2
          exact ⟨by rw [HF.out]; rfl, HB1.out _⟩
        · have d4 : (x1 == y1) = false := by simpa using he
          by_cases h1 : x2 < 1
          · have d1 : decide (x2 < 1) = true := by simpa using h1
            have HF := hidden (lenV_f (validR_f hlt (by
              cases h : okRun l j
              · rfl
              · have := (HOR.out.1 h).1; rw [← HX2.out] at this; omega)))
            clear h1 he h0
            go_wp2_with fail
            go_quiet (fail)
            clear cp2
            go_wp2
            go_ret2
            exact ⟨by rw [HF.out]; rfl, HB1.out _⟩
          have d1 : decide (x2 < 1) = false := by simpa using h1
          by_cases h2 : 65536 - L < x2
          · have d2 : decide (65536 - L < x2) = true := by simpa using h2
            have HF := hidden (lenV_f (validR_f hlt (by
              cases h : okRun l j
              · rfl
              · have := (HOR.out.1 h).2.1; rw [← HX2.out, ← HL.out] at this; omega)))
            clear h1 h2 he h0
            go_wp2_with fail
            go_quiet (fail)
            clear cp2
            go_wp2
            go_ret2
            exact ⟨by rw [HF.out]; rfl, HB1.out _⟩
          have d2 : decide (65536 - L < x2) = false := by simpa using h2
          have hx : 1 ≤ x2 ∧ x2 ≤ 65536 - L := by omega
          have HNS := hidden (show 0 ≤ sumC (l.take (j + 1)) ∧ sumC (l.take (j + 1)) ≤ 65536 by have h3 := HST.out; omega)
          have HNO := hidden (show ∀ k, k < j + 1 → okRun l k = true from fun k hk => by
            by_cases hkj : k < j
            · exact HOK.out k hkj
            · have hkj : k = j := by omega
              subst hkj
              exact HOR.out.2 ⟨by rw [← HX2.out]; exact hx.1, by rw [← HX2.out, ← HL.out]; exact hx.2, fun _ h2 => by rw [← HX1.out, ← HY1.out]; exact fun e => he e.symm⟩)
          clear h1 h2 he h0
          go_wp2_with fail
          go_quiet (fail)
          clear cp2
          go_wp2
          go_roundw
          case rel => exact ⟨j + 1, by omega, by go_num, by rw [HST.out], HNS.out, HNO.out, HB1.out _⟩
          case measure => simp [intOf]; omega
    · have hke : j = l.length := by omega
      have HT := hidden (lenV_t (validR_t (l := l) (fun k hk => HOK.out k (by omega))))
      have d0 : decide (j < l.length) = false := by simp; omega
      have HS := hidden (show sumC (l.take j) = sumC l by rw [hke, List.take_length])
      clear hke hs
      go_wp2_with fail
      go_ret2
      exact ⟨by rw [HT.out, HS.out]; rfl, HB.out⟩
def LAtRel (w : World) (l : List Rn) (i0 : Int) (i k : Value) (wr : World) : Prop :=
  ∃ (j : Nat) (i' : Int), j ≤ l.length ∧ k = .int .i64 (j : Int) ∧ i = .int .i64 i' ∧ (0 ≤ i' ∧ i' ≤ i0) ∧ atR (l.drop j) i' = atR l i0 ∧ Below w.heap.size w wr
end Go.Proofs.Ytgmjoghgmcjebaa
