/-
  The table of checksum.go: crcTable returns the 256 numbers 'halfN 8 j'; update goes through it. Nothing that was there is changed.
-/
import Derived.Test.YtepahejeeajfbaaCkMix
import Derived.Deep.WholeRow
namespace Go.Proofs.Ytepahejeeajfbaa
open Go.RowKit

/-- the table after n entries -/
def tab (n : Nat) : List Value := (List.range 256).map fun j => if j < n then .int .u32 (halfN 8 j : Int) else .int .u32 0
theorem tab_length (n : Nat) : (tab n).length = 256 := by simp [tab]
theorem tab_get {n j : Nat} (h : j < 256) : (tab n)[j]? = some (if j < n then .int .u32 (halfN 8 j : Int) else .int .u32 0) := by simp [tab, h]
theorem tab_one : Array.replicate 256 (Value.int .u32 0) = (tab 1).toArray := by
  apply Array.toList_inj.1
  rw [Array.toList_replicate]
  show _ = tab 1
  apply List.ext_getElem?
  intro j
  rw [List.getElem?_replicate]
  by_cases h : j < 256
  · rw [tab_get h, if_pos h]
    by_cases h0 : j < 1
    · have : j = 0 := by omega
      subst this
      rw [if_pos h0, halfN_zero]; rfl
    · rw [if_neg h0]
  · rw [if_neg h]
    exact (List.getElem?_eq_none (by rw [tab_length]; omega)).symm
theorem tab_set {n : Nat} (h : n < 256) : (tab n).set n (.int .u32 (halfN 8 n : Int)) = tab (n + 1) := by
  apply List.ext_getElem?
  intro j
  rw [List.getElem?_set]
  by_cases hj : j < 256
  · rw [tab_get hj, tab_get hj, tab_length]
    by_cases hjk : n = j
    · subst hjk; simp [h]
    · rw [if_neg hjk]
      by_cases h2 : j < n
      · rw [if_pos h2, if_pos (by omega)]
      · rw [if_neg h2, if_neg (by omega)]
  · rw [List.getElem?_eq_none (by rw [tab_length]; omega), List.getElem?_eq_none (by rw [tab_length]; omega), if_neg (by omega)]
theorem tab_oneCell (n : Nat) : (tab n).toArray.all (·.oneCell') = true := by
  rw [Array.all_eq_true_iff_forall_mem]
  intro v hv
  simp only [tab, List.mem_toArray, List.mem_map] at hv
  obtain ⟨j, _, rfl⟩ := hv
  split <;> rfl
theorem halfN_join {k i : Nat} (h : i < 2 ^ k) : halfN 8 (2 ^ k) ^^^ halfN 8 i = halfN 8 (2 ^ k + i) := by
  have hp : 0 < 2 ^ k := Nat.two_pow_pos k
  have hl := low_high k (2 ^ k + i)
  rw [Nat.add_mod_left, Nat.mod_eq_of_lt h, Nat.add_div_left _ hp, Nat.div_eq_of_lt h, Nat.mul_one] at hl
  rw [hl, halfN_xor, Nat.xor_comm]

theorem Row.setRow_ {w : World} {g : Nat} {e : TypeId} {xs : List Value} (h : Row w g e xs) (ys : List Value) (_hl : xs.toArray.size = ys.toArray.size) : Row (w.setRow g ys.toArray) g e ys := by
  unfold Row at h ⊢
  simp [World.setRow, Array.getElem?_modify, h]
theorem below_setRow {B g : Nat} {a w : World} (h : Below B a w) (hg : B ≤ g) (cs : Array Value) : Below B a (w.setRow g cs) :=
  ⟨h.os, h.tape, h.output, by simpa [World.setRow] using h.size, fun k hk => (setRow_other w g k cs (by omega)).trans (h.block k hk)⟩
def TabO (w : World) (k : Value) (wr : World) : Prop :=
  ∃ j : Nat, j ≤ 8 ∧ k = .int .i64 j ∧ Row wr (w.heap.size + 1) 47 (tab (2 ^ j)) ∧ Row wr w.heap.size 47 (tab 1) ∧ Below w.heap.size w wr
def TabI (w : World) (m : Nat) (i : Value) (wr : World) : Prop :=
  ∃ j : Nat, j ≤ m ∧ i = .int .i64 j ∧ Row wr (w.heap.size + 1) 47 (tab (m + j)) ∧ Row wr w.heap.size 47 (tab 1) ∧ Below w.heap.size w wr

theorem zero256 : (Try.prog.info? 47).map (fun i => (i.zero, i.size)) = some (some (.agg (Array.replicate 256 (.int .u32 0))), 256) := by kernel_rfl

set_option maxHeartbeats 1000000 in
theorem crcTable_any (w : World) :
    Calls Try.prog 25 #[] w fun e w' => e = .returned (.agg (tab 256).toArray) ∧ Grows w w' := by
  obtain ⟨hz, hi⟩ := zero_of_info (P := Try.prog) zero256
  go_enter Try.func25, Try.ntmps25
  go_wp2
  rw [tab_one]
  have h1 := hidden (Row.at_ (w.alloc (.cells (tab 1).toArray 47)) 47 (tab 1).toArray (tab 1) rfl (w.heap.size + 1) (by simp))
  have h0 := hidden ((Row.new w 47 (tab 1).toArray (tab 1) rfl).grow (w' := (w.alloc (.cells (tab 1).toArray 47)).alloc (.cells (tab 1).toArray 47)) ((Below.refl _ _).alloc (Nat.le_refl _) _))
  have hb := hidden (((Below.refl w.heap.size w).alloc (Nat.le_refl _) (.cells (tab 1).toArray 47)).alloc (by simp) (.cells (tab 1).toArray 47))
  go_loopw [6] (fun k wr => TabO w k wr) (fun k _ => 8 - (intOf k).toNat)
  case atStart => exact ⟨0, by omega, rfl, h1.out, h0.out, hb.out⟩
  case round =>
    obtain ⟨k, hk, rfl, r1, r0, hbw⟩ := hrel
    by_cases hlt : k < 8
    · have hm1 : 1 ≤ 2 ^ k := Nat.one_le_two_pow
      have hm2 : 2 ^ k ≤ 128 := Nat.pow_le_pow_right (n := 2) (i := k) (j := 7) (by decide) (by omega)
      have HJ := hidden (fun (i : Nat) (h : i < 2 ^ k) => halfN_join h)
      have HP : Hid (2 ^ (k + 1) = 2 ^ k + 2 ^ k) := by show _ = _; rw [Nat.pow_succ]; omega
      have hpw : (2 : Int) ^ k = ((2 ^ k : Nat) : Int) := by simp
      have R1 := hidden r1
      have R0 := hidden r0
      have B0 := hidden hbw
      clear r1 r0 hbw
      generalize 2 ^ k = m at *
      go_wp2_with fail
      refine (shiftByte_any m _ (by omega)).mono ?_
      rintro e w' ⟨rfl, rfl⟩
      go_wp2_with fail
      go_loopw [15] (fun i wr => TabI w m i wr) (fun i _ => m - (intOf i).toNat)
      case atStart => exact ⟨0, by omega, rfl, R1.out, R0.out, B0.out⟩
      case round =>
        obtain ⟨i, hi2, rfl, r1, r0, hbw⟩ := hrel
        by_cases hlt2 : i < m
        · have hc1 := r1.cell i
          rw [tab_get (by omega), if_pos (by omega)] at hc1
          have hc2 := r1.cell (m + i)
          rw [tab_get (by omega), if_neg (by omega)] at hc2
          have hfr := r1.frozen (m + i)
          have hs := r1.set_ (m + i) (.int .u32 (halfN 8 (m + i) : Int))
          rw [tab_set (by omega)] at hs
          have HS := hidden hs
          have HR0 := hidden r0
          have HB := hidden hbw
          have h8 : halfN 8 m < 4294967296 := halfN_lt 8 (by omega)
          have h9 : halfN 8 i < 4294967296 := halfN_lt 8 (by omega)
          have HX : Hid (bits .xor .u32 (halfN 8 m : Int) (halfN 8 i : Int) = (halfN 8 (m + i) : Int)) := by
            show bits .xor .u32 (halfN 8 m : Int) (halfN 8 i : Int) = _
            rw [u32_xor_nat _ _ h8 h9, HJ.out i hlt2]
          clear r1 r0 hbw hs
          go_wp2
          go_roundw
          case rel =>
            refine ⟨i + 1, by omega, by go_num, ?_, ?_, HB.out.setCell (Nat.le_succ _) _⟩
            · rw [HX.out]; exact HS.out
            · have h2 := HR0.out
              unfold Row at h2 ⊢
              simp [World.setCell, Array.getElem?_modify, h2]
          case measure => simp [intOf]; omega
        · have hie : i = m := by omega
          subst hie
          have HR1 := hidden r1
          have HR0 := hidden r0
          have HB := hidden hbw
          clear r1 r0 hbw
          go_wp2
          exact ⟨⟨k + 1, by omega, by go_num, by rw [HP.out]; exact HR1.out, HR0.out, HB.out⟩, by simp [intOf]; omega⟩
    · have hke : k = 8 := by omega
      subst hke
      have hsz : (tab 256).toArray.size = 256 := by rw [List.size_toArray, tab_length]
      have hsz1 : (tab 1).toArray.size = (tab 256).toArray.size := by rw [List.size_toArray, List.size_toArray, tab_length, tab_length]
      have hR1 : wr.heap[w.heap.size + 1]? = some (.cells (tab 256).toArray 47 (0, 0)) := r1
      have hR0 : wr.heap[w.heap.size]? = some (.cells (tab 1).toArray 47 (0, 0)) := r0
      have HI := hidden (show (Try.prog.info? 47).map (·.size) = some (tab 256).toArray.size by rw [hi, hsz])
      have H1 := hidden hR1
      have H0 := hidden hR0
      have HS1 := hidden hsz1
      have HO := hidden (tab_oneCell 256)
      have HB := hidden hbw
      have hrow := hidden (Row.setRow_ r0 (tab 256) hsz1)
      clear hz hi r1 r0 hbw hlt hk hsz hsz1 hR1 hR0
      generalize hT : tab 256 = T at *
      have HT := hidden hT
      clear hT
      go_wp2_with (first | refine wpList_load_row rfl _ _ rfl _ rfl _ _ _ _ H1.out Try.underlying47 rfl HI.out ?_ | refine wpList_store_row rfl _ _ _ rfl _ _ rfl rfl _ _ H0.out HI.out HS1.out HO.out ?_)
      refine bodyPost_ret (v := .agg T.toArray) ?_ rfl ⟨by rw [HT.out], below_setRow HB.out (Nat.le_refl _) _⟩
      exact results_cell_row rfl _ _ _ _ _ _ _ rfl hrow.out Try.underlying47 rfl HI.out

end Go.Proofs.Ytepahejeeajfbaa
