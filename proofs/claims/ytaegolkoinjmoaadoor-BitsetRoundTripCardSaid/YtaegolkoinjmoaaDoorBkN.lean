/-
  bitset.New, Contains, within and word: for every set whose words reach N; nothing that was there is changed.
-/
import Derived.Test.YtaegolkoinjmoaaDoorBkW
namespace Go.Proofs.YtaegolkoinjmoaaDoor
open Go.RowKit

set_option maxHeartbeats 400000 in
theorem new_any (n : Int) (w : World) (h63 : -9223372036854775808 ≤ n) (h64 : n ≤ 9223372036854775807) :
    Calls Tryd.prog 14 #[.int .i64 n] w (FreshSet (newN n) (pack (newN n) fun _ => false) w) := by
  by_cases hb : n < 0 ∨ 1048576 < n
  · have HN := hidden (newN_bad hb)
    have HP := hidden (pack_none 0)
    have HL := hidden (pack_length 0 fun _ => false)
    have HM := hidden (made_ucells 0)
    have hmk : ∀ W, (Instr.makeSlice 24 (.int .i64 0) (.int .i64 0)).run Tryd.prog W = .ok (.slice (some ⟨W.heap.size, 0, none⟩) 0 0) (W.alloc (.cells (madeCells #[.int .u64 0] 0) 54)) :=
      fun W => run_make_one (P := Tryd.prog) 24 54 (.int .u64 0) 8 Tryd.underlying24 info_u64 rfl 0 (by omega) (by omega) W
    have HWC := hidden (wordCount_any 0)
    have fin : FreshSet (newN n) (pack (newN n) fun _ => false) w (.returned (.agg #[.int .i64 0, .slice (some ⟨w.heap.size + 1, 0, none⟩) 0 0]))
        ((w.alloc (.cells #[.int .i64 0, .slice (some ⟨w.heap.size + 1, 0, none⟩) 0 0] 26)).alloc (.cells (madeCells #[.int .u64 0] 0) 54)) := by
      refine ⟨w.heap.size + 1, Nat.le_succ _, ?_, ?_, ((Below.refl _ _).alloc (Nat.le_refl _) _).alloc (by simp) _⟩
      · rw [HN.out, HL.out]; rfl
      · rw [HN.out, HP.out]; exact Row.at_ _ _ _ _ HM.out _ (by simp)
    have res : Row ((w.alloc (.cells #[.int .i64 0, .slice (some ⟨w.heap.size + 1, 0, none⟩) 0 0] 26)).alloc (.cells (madeCells #[.int .u64 0] 0) 54)) w.heap.size 26 [.int .i64 0, .slice (some ⟨w.heap.size + 1, 0, none⟩) 0 0] :=
      (Row.new w _ _ _ rfl).grow ((Below.refl _ _).alloc (Nat.le_refl _) _)
    have FIN := hidden fin
    have RES := hidden res
    clear fin res
    by_cases h0 : n < 0
    · have hd1 : decide (n < 0) = true := by simpa using h0
      clear hb
      go_enter Tryd.func14, Tryd.ntmps14
      go_wp2_with fail
      refine (HWC.out _ (by omega)).mono ?_
      rintro e w1 ⟨rfl, rfl⟩
      rw [show ((nw 0 : Nat) : Int) = 0 by rfl]
      go_wp2
      exact bodyPost_ret (results_set rfl _ _ _ _ _ rfl RES.out) rfl FIN.out
    · have hd1 : decide (n < 0) = false := by simpa using h0
      have hd3 : decide ((1048576 : Int) < n) = true := by simp; omega
      clear hb h0
      go_enter Tryd.func14, Tryd.ntmps14
      go_wp2_with fail
      refine (HWC.out _ (by omega)).mono ?_
      rintro e w1 ⟨rfl, rfl⟩
      rw [show ((nw 0 : Nat) : Int) = 0 by rfl]
      go_wp2
      exact bodyPost_ret (results_set rfl _ _ _ _ _ rfl RES.out) rfl FIN.out
  · obtain ⟨k, rfl⟩ := Int.eq_ofNat_of_zero_le (show 0 ≤ n by omega)
    have hk : k ≤ 1048576 := by omega
    have hnl : nw k ≤ 20000 := by unfold nw; omega
    have hmk := fun W => run_make_one (P := Tryd.prog) 24 54 (.int .u64 0) 8 Tryd.underlying24 info_u64 rfl (nw k) (by omega) (by omega) W
    have HN := hidden (newN_nat hk)
    have HP := hidden (pack_none k)
    have HM := hidden (made_ucells (nw k))
    have HL := hidden (pack_length k fun _ => false)
    have hd1 : decide ((k : Int) < 0) = false := by simp
    have hd2 : decide ((1048576 : Int) < (k : Int)) = false := by simp; omega
    have HWC := hidden (wordCount_any k)
    clear hb
    go_enter Tryd.func14, Tryd.ntmps14
    go_wp2_with fail
    refine (HWC.out _ hk).mono ?_
    rintro e w1 ⟨rfl, rfl⟩
    go_wp2
    refine bodyPost_ret (results_set rfl _ _ _ _ _ rfl ((Row.new w _ _ _ rfl).grow ((Below.refl _ _).alloc (Nat.le_refl _) _))) rfl ⟨w.heap.size + 1, Nat.le_succ _, ?_, ?_, ((Below.refl _ _).alloc (Nat.le_refl _) _).alloc (by simp) _⟩
    · rw [HN.out, HL.out]
    · rw [HN.out, HP.out]; exact Row.at_ _ _ _ _ HM.out _ (by simp)

theorem within_t (v : Value) (n i : Int) (w : World) (h0 : 0 ≤ i) (h1 : i < n) :
    Calls Tryd.prog 49 #[.agg #[.int .i64 n, v], .int .i64 i] w fun e w' => e = .returned (.bool true) ∧ Grows w w' := by
  have hG : ∀ o, Grows w (w.alloc o) := fun o => (Below.refl _ _).alloc (Nat.le_refl _) _
  have HG := hidden hG
  clear hG
  have hd1 : decide (0 ≤ i) = true := by simpa using h0
  have hd2 : decide (i < n) = true := by simpa using h1
  go_enter Tryd.func49, Tryd.ntmps49
  go_wp2
  go_ret
  exact ⟨rfl, HG.out _⟩
theorem within_f (v : Value) (n i : Int) (w : World) (h : i < 0 ∨ n ≤ i) :
    Calls Tryd.prog 49 #[.agg #[.int .i64 n, v], .int .i64 i] w fun e w' => e = .returned (.bool false) ∧ Grows w w' := by
  have hG : ∀ o, Grows w (w.alloc o) := fun o => (Below.refl _ _).alloc (Nat.le_refl _) _
  have HG := hidden hG
  clear hG
  by_cases h0 : i < 0
  · have hd1 : decide (0 ≤ i) = false := by simp; omega
    clear h
    go_enter Tryd.func49, Tryd.ntmps49
    go_wp2
    go_ret
    exact ⟨rfl, HG.out _⟩
  · have h1 : n ≤ i := by omega
    have hd1 : decide (0 ≤ i) = true := by simp; omega
    have hd2 : decide (i < n) = false := by simp; omega
    clear h
    go_enter Tryd.func49, Tryd.ntmps49
    go_wp2
    go_ret
    exact ⟨rfl, HG.out _⟩

/-- word(s, k) -/
theorem word_any (v n : Value) (ws : List UInt64) (k : Nat) (w : World) (hr : Reads w v (ucells ws)) (hl : ws.length ≤ 9223372036854775807) :
    Calls Tryd.prog 50 #[.agg #[n, v], .int .i64 (k : Int)] w fun e w' => e = .returned (.int .u64 ((wAt ws k).toNat : Int)) ∧ Grows w w' := by
  have hG : ∀ o, Grows w (w.alloc o) := fun o => (Below.refl _ _).alloc (Nat.le_refl _) _
  have HG := hidden hG
  obtain ⟨A, c, rfl, hle, hc⟩ := hr
  rw [ucells_length] at hle hc ⊢
  clear hG
  by_cases hk : k < ws.length
  · have HW := hidden (wAt_lt hk)
    obtain ⟨b, off, rfl, hcell⟩ := hc (by omega)
    have hcl := hcell k hk
    rw [ucells_get hk] at hcl
    clear hc hcell
    generalize ws[k] = x at *
    have hb := (HG.out (.cells #[n, .slice (some ⟨b, off, none⟩) ws.length c] 26)).cell (World.block_lt_of_cell? w _ hcl)
    rw [hcl] at hb
    have hd : decide (ws.length ≤ k) = false := by simp; omega
    go_enter Tryd.func50, Tryd.ntmps50
    go_wp2
    go_ret
    exact ⟨retU (by rw [HW.out]), HG.out _⟩
  · have hk' : ws.length ≤ k := by omega
    have HW := hidden (wAt_ge hk')
    have hd : decide (ws.length ≤ k) = true := by simpa using hk'
    clear hc
    go_enter Tryd.func50, Tryd.ntmps50
    go_wp2
    go_ret
    exact ⟨retU (by rw [HW.out]; rfl), HG.out _⟩

theorem contains_go {n : Nat} {ws : List UInt64} {k : Nat} (h : k < n) : ((((wAt ws (k / 64) &&& bitW k).toNat : Int)) != 0) = mem n ws k := by
  rw [and_bit, ← wmem_at ws (Nat.mod_lt _ (by decide)), show 64 * (k / 64) + k % 64 = k by omega]
  simp [mem, h]
set_option maxHeartbeats 400000 in
theorem ck_contains (s : Value) (n : Nat) (ws : List UInt64) (i : Int) (w : World) (hs : IsSet w s n ws) (ho : okW n ws) (_h63 : -9223372036854775808 ≤ i) (_h64 : i ≤ 9223372036854775807) :
    Calls Tryd.prog 18 #[s, .int .i64 i] w fun e w' => e = .returned (.bool (memI n ws i)) ∧ Grows w w' := by
  obtain ⟨v, rfl, hr, hn, hn2⟩ := hs
  have hwl : ws.length ≤ 9223372036854775807 := by rw [ho.1]; unfold nw; omega
  have HR := hidden hr
  obtain ⟨A, c, rfl, hle⟩ := hr.slice_
  have HG := hidden (show Grows w (w.alloc (.cells #[.int .i64 (n : Int), .slice A (ucells ws).length c] 26)) from (Below.refl _ _).alloc (Nat.le_refl _) _)
  clear hr hle
  generalize (ucells ws).length = L at *
  have hrow := Row.new w 26 #[.int .i64 (n : Int), .slice A L c] [.int .i64 (n : Int), .slice A L c] rfl
  have HRW := hidden hrow
  clear hrow
  by_cases hi : 0 ≤ i ∧ i < n
  · obtain ⟨k, rfl⟩ := Int.eq_ofNat_of_zero_le hi.1
    have hk : k < n := by omega
    have HM := hidden ((memI_nat n ws k).trans (contains_go (ws := ws) hk).symm)
    have HA := hidden (go_and (wAt ws (k / 64)) (bitW k))
    clear hi
    go_enter Tryd.func18, Tryd.ntmps18
    go_wp2_with fail
    refine (within_t _ _ _ _ (by omega) (by omega)).mono ?_
    rintro e w1 ⟨rfl, g1⟩
    have r1 := HRW.out.grow g1
    have c0 := r1.cell 0
    have c1 := r1.cell 1
    simp only [List.getElem?_cons_zero, List.getElem?_cons_succ] at c0 c1
    have HR1 := hidden (HR.out.grow (HG.out.of_below g1))
    have HG1 := hidden (HG.out.of_below g1)
    clear g1 r1
    go_wp2_with fail
    refine (word_any _ _ ws (k / 64) _ HR1.out hwl).mono ?_
    rintro e w2 ⟨rfl, g2⟩
    have HG2 := hidden (HG1.out.of_below g2)
    clear g2 c0 c1
    generalize wAt ws (k / 64) = x at *
    go_wp2_with fail
    refine (bit_any k _ (by omega)).mono ?_
    rintro e w3 ⟨rfl, rfl⟩
    generalize bitW k = y at *
    go_wp2
    go_ret
    exact ⟨retB (by rw [HM.out, ← HA.out]), HG2.out⟩
  · have HM : Hid (memI n ws i = false) := by
      show memI n ws i = false
      unfold memI mem
      by_cases h0 : 0 ≤ i
      · have : ¬ i.toNat < n := by omega
        simp [this]
      · simp [h0]
    have hi' : i < 0 ∨ (n : Int) ≤ i := by omega
    clear hi
    go_enter Tryd.func18, Tryd.ntmps18
    go_wp2_with fail
    refine (within_f _ _ _ _ hi').mono ?_
    rintro e w1 ⟨rfl, g1⟩
    have HG1 := hidden (HG.out.of_below g1)
    clear g1 hi'
    go_wp2
    go_ret
    exact ⟨retB (by rw [HM.out]), HG1.out⟩
end Go.Proofs.YtaegolkoinjmoaaDoor
