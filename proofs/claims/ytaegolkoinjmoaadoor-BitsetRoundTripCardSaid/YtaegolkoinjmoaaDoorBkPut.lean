/-
  bitset.put adds an element to a set of the call's own, or removes it, in place: only the block of the words is changed.
-/
import Derived.Test.YtaegolkoinjmoaaDoorBkN
import Derived.StillTailTactics
namespace Go.Proofs.YtaegolkoinjmoaaDoor
open Go.RowKit

theorem pack_bit (n : Nat) (f : Nat → Bool) (k : Nat) {j : Nat} (hj : j < 64) : wbit (wAt (pack n f) k) j = (decide (64 * k + j < n) && f (64 * k + j)) := by
  rw [okW_bit (okW_pack n f) hj, mem_pack]
theorem pack_upd {n : Nat} {f g : Nat → Bool} {K : Nat} {x : UInt64} (_hK : K < nw n) (hx : ∀ j, j < 64 → wbit x j = (decide (64 * K + j < n) && g (64 * K + j))) (hg : ∀ i, i < n → i / 64 ≠ K → g i = f i) :
    (pack n f).set K x = pack n g := by
  apply List.ext_getElem?
  intro q
  rw [List.getElem?_set, pack_length]
  by_cases hq : q < nw n
  · rw [pack_get hq, pack_get hq]
    by_cases e : K = q
    · subst e
      rw [if_pos rfl, if_pos hq]
      congr 1
      apply word_ext
      intro j hj
      rw [hx j hj, wbit_wordOf]
      simp [hj]
    · rw [if_neg e]
      congr 1
      apply word_ext
      intro j hj
      rw [wbit_wordOf, wbit_wordOf]
      by_cases hi : 64 * q + j < n
      · rw [hg _ hi (by omega)]
      · simp [hi]
  · rw [List.getElem?_eq_none (by rw [pack_length]; omega), List.getElem?_eq_none (by rw [pack_length]; omega)]
    split
    · omega
    · rfl
theorem put_on {n k : Nat} {f : Nat → Bool} (hk : k < n) : (pack n f).set (k / 64) (wAt (pack n f) (k / 64) ||| bitW k) = pack n (onAt f (k : Int) true) := by
  refine pack_upd (by unfold nw; omega) (fun j hj => ?_) (fun i _ hne => ?_)
  · rw [wbit_or, pack_bit n f _ hj, wbit_bit]
    unfold onAt
    by_cases e : j = k % 64
    · have h1 : 64 * (k / 64) + j = k := by omega
      have h2 : ((64 * (k / 64) + j : Nat) : Int) = (k : Int) := by omega
      rw [if_pos h2]
      simp [e]
      omega
    · have h2 : ¬ (((64 * (k / 64) + j : Nat) : Int) = (k : Int)) := by omega
      rw [if_neg h2]
      simp [e]
  · unfold onAt
    rw [if_neg (by intro h; apply hne; omega)]
theorem put_off {n k : Nat} {f : Nat → Bool} (hk : k < n) : (pack n f).set (k / 64) (wAt (pack n f) (k / 64) &&& ~~~bitW k) = pack n (onAt f (k : Int) false) := by
  refine pack_upd (by unfold nw; omega) (fun j hj => ?_) (fun i _ hne => ?_)
  · rw [wbit_andNot, pack_bit n f _ hj, wbit_bit]
    unfold onAt
    by_cases e : j = k % 64
    · have h2 : ((64 * (k / 64) + j : Nat) : Int) = (k : Int) := by omega
      rw [if_pos h2]
      simp [e]
    · have h2 : ¬ (((64 * (k / 64) + j : Nat) : Int) = (k : Int)) := by omega
      rw [if_neg h2]
      simp [e]
  · unfold onAt
    rw [if_neg (by intro h; apply hne; omega)]
theorem put_out {n : Nat} {f : Nat → Bool} {i : Int} {b : Bool} (h : i < 0 ∨ (n : Int) ≤ i) : pack n f = pack n (onAt f i b) :=
  pack_congr fun j hj => by unfold onAt; rw [if_neg (by omega)]

/-- the words in block g are ws; all else that was there is as it was -/
def PutR (w : World) (g : Nat) (ws : List UInt64) (e : Ending) (w' : World) : Prop := (∃ v, e = .returned v) ∧ Row w' g 54 (ucells ws) ∧ BelowBut w.heap.size g w w'

theorem Row.but {w w' : World} {g : Nat} {e : TypeId} {xs : List Value} {H B : Nat} (h : Row w g e xs) (hb : BelowBut H B w w') (hg : g < H) (hne : g ≠ B) : Row w' g e xs := (hb.block g hg hne).trans h

theorem bit_still (i : Nat) (w : World) (hc : i ≤ 9223372036854775807) : Calls Tryd.prog 51 #[.int .i64 (i : Int)] w fun e w' => e = .returned (.int .u64 ((bitW i).toNat : Int)) ∧ w' = w := (bit_any i w hc).mono fun _ _ h => ⟨h.1, h.2.symm⟩
set_option maxHeartbeats 1000000 in
theorem put_any (n g : Nat) (f : Nat → Bool) (i : Int) (b : Bool) (w : World) (hrow : Row w g 54 (ucells (pack n f))) (hn : n ≤ 1048576) (_h63 : -9223372036854775808 ≤ i) (_h64 : i ≤ 9223372036854775807) :
    Calls Tryd.prog 45 #[.agg #[.int .i64 (n : Int), .slice (some ⟨g, 0, none⟩) (nw n) (nw n)], .int .i64 i, .bool b] w (PutR w g (pack n (onAt f i b))) := by
  have hgl := hrow.lt
  have HRW := hidden hrow
  have hG := hidden (show Grows w (w.alloc (.cells #[.int .i64 (n : Int), .slice (some ⟨g, 0, none⟩) (nw n) (nw n)] 26)) from (Below.refl _ _).alloc (Nat.le_refl _) _)
  have HBX := hidden (Row.new w 26 #[.int .i64 (n : Int), .slice (some ⟨g, 0, none⟩) (nw n) (nw n)] _ rfl)
  have hnl : nw n ≤ 20000 := by unfold nw; omega
  clear hrow
  by_cases hi : 0 ≤ i ∧ i < n
  · obtain ⟨k, rfl⟩ := Int.eq_ofNat_of_zero_le hi.1
    have hk : k < n := by omega
    have hkw : k / 64 < nw n := by unfold nw; omega
    have hkl : k / 64 < (pack n f).length := by rw [pack_length]; exact hkw
    clear hi
    cases b with
    | true =>
      go_enter Tryd.func45, Tryd.ntmps45
      go_wp2_with fail
      refine (within_t _ _ _ _ (by omega) (by omega)).mono ?_
      rintro e w1 ⟨rfl, g1⟩
      have r1 := HBX.out.grow g1
      have c0 := r1.cell 0
      have c1 := r1.cell 1
      simp only [List.getElem?_cons_zero, List.getElem?_cons_succ] at c0 c1
      have HG1 := hidden (hG.out.of_below g1)
      have r2 := HRW.out.grow (hG.out.of_below g1)
      have cw := r2.cell (k / 64)
      rw [ucells_get hkl, ← wAt_lt hkl] at cw
      have fw := r2.frozen (k / 64)
      have r3 : Row w1.drew g 54 (ucells (pack n f)) := r2.grow (Below.refl _ _).drew
      have HSET := hidden (r3.set_ (k / 64) (.int .u64 ((wAt (pack n f) (k / 64) ||| bitW k).toNat : Int)))
      have HO := hidden (go_or (wAt (pack n f) (k / 64)) (bitW k))
      have HPK := hidden (put_on (f := f) hk)
      clear g1 r1 r2 r3
      generalize wAt (pack n f) (k / 64) = x at *
      go_wp2_with fail
      refine wp_region_still_tail 10 (by kernel_rfl) (by kernel_rfl) ?_
      simp only [List.take_succ_cons, List.take_zero, List.drop_succ_cons, List.drop_zero]
      change wpStill _ _ w1.drew _ _ _
      have e64 : IntKind.i64.wrap ((k : Int) / 64) = (k : Int) / 64 := by rw [IntKind.wrap_i64]; omega
      have b0 : (0 : Int) ≤ (k : Int) / 64 := by omega
      have b1 : (k : Int) / 64 < (nw n : Int) := by omega
      have et : ((k : Int) / 64).toNat = k / 64 := by omega
      still_step
      still_step
      still_step
      still_step
      still_step
      still_step
      still_step
      still_call (bit_still k w1.drew (by omega))
      still_step
      still_step
      refine wpStill_nil ?_
      change wpList _ _ _ _ _ w1.drew
      clear e64 b0 b1 et
      go_wp2
      go_end0
      refine ⟨⟨_, rfl⟩, ?_, (BelowBut.of_below HG1.out.drew).setCell (p := ⟨g, k / 64, none⟩) rfl _⟩
      have h := HSET.out
      rw [ucells_set, HPK.out, ← HO.out] at h
      exact h
    | false =>
      go_enter Tryd.func45, Tryd.ntmps45
      go_wp2_with fail
      refine (within_t _ _ _ _ (by omega) (by omega)).mono ?_
      rintro e w1 ⟨rfl, g1⟩
      have r1 := HBX.out.grow g1
      have c0 := r1.cell 0
      have c1 := r1.cell 1
      simp only [List.getElem?_cons_zero, List.getElem?_cons_succ] at c0 c1
      have HG1 := hidden (hG.out.of_below g1)
      have r2 := HRW.out.grow (hG.out.of_below g1)
      have cw := r2.cell (k / 64)
      rw [ucells_get hkl, ← wAt_lt hkl] at cw
      have fw := r2.frozen (k / 64)
      have r3 : Row w1.drew g 54 (ucells (pack n f)) := r2.grow (Below.refl _ _).drew
      have HSET := hidden (r3.set_ (k / 64) (.int .u64 ((wAt (pack n f) (k / 64) &&& ~~~bitW k).toNat : Int)))
      have HO := hidden (go_andNot (wAt (pack n f) (k / 64)) (bitW k))
      have HPK := hidden (put_off (f := f) hk)
      clear g1 r1 r2 r3
      generalize wAt (pack n f) (k / 64) = x at *
      go_wp2_with fail
      refine wp_region_still_tail 10 (by kernel_rfl) (by kernel_rfl) ?_
      simp only [List.take_succ_cons, List.take_zero, List.drop_succ_cons, List.drop_zero]
      change wpStill _ _ w1.drew _ _ _
      have e64 : IntKind.i64.wrap ((k : Int) / 64) = (k : Int) / 64 := by rw [IntKind.wrap_i64]; omega
      have b0 : (0 : Int) ≤ (k : Int) / 64 := by omega
      have b1 : (k : Int) / 64 < (nw n : Int) := by omega
      have et : ((k : Int) / 64).toNat = k / 64 := by omega
      still_step
      still_step
      still_step
      still_step
      still_step
      still_step
      still_step
      still_call (bit_still k w1.drew (by omega))
      still_step
      still_step
      refine wpStill_nil ?_
      change wpList _ _ _ _ _ w1.drew
      clear e64 b0 b1 et
      go_wp2
      go_end0
      refine ⟨⟨_, rfl⟩, ?_, (BelowBut.of_below HG1.out.drew).setCell (p := ⟨g, k / 64, none⟩) rfl _⟩
      have h := HSET.out
      rw [ucells_set, HPK.out, ← HO.out] at h
      exact h
  · have hi' : i < 0 ∨ (n : Int) ≤ i := by omega
    have HP := hidden (put_out (n := n) (f := f) (i := i) (b := b) hi')
    go_enter Tryd.func45, Tryd.ntmps45
    go_wp2_with fail
    refine (within_f _ _ _ _ hi').mono ?_
    rintro e w1 ⟨rfl, g1⟩
    have HG1 := hidden (hG.out.of_below g1)
    clear g1 hi' hi
    go_wp2
    refine bodyPost_ret (results_none rfl _ _ _) rfl ?_
    exact ⟨⟨_, rfl⟩, by rw [← HP.out]; exact HRW.out.grow HG1.out, .of_below HG1.out⟩
end Go.Proofs.YtaegolkoinjmoaaDoor
