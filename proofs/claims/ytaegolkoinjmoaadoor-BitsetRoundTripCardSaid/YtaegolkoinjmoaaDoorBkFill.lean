/-
  bitset.fill adds a range of elements to a set of the call's own, in place: only the block of the words is changed.
-/
import Derived.Test.YtaegolkoinjmoaaDoorBkPut
namespace Go.Proofs.YtaegolkoinjmoaaDoor
open Go.RowKit

def fillF (f : Nat → Bool) (a b : Nat) : Nat → Bool := fun j => f j || (decide (a ≤ j) && decide (j < b))
theorem fill_none {n a : Nat} {f : Nat → Bool} : pack n f = pack n (fillF f a a) := pack_congr fun j _ => by
  unfold fillF
  by_cases h : a ≤ j
  · have : ¬ j < a := by omega
    simp [this]
  · simp [h]
theorem fill_step {n a s e k : Nat} {f : Nat → Bool} (hk : k = s / 64) (ha : a ≤ s) (hs : s < e) (he : e ≤ n) (he2 : e ≤ 64 * (k + 1)) :
    (pack n (fillF f a s)).set k (wAt (pack n (fillF f a s)) k ||| (lowW (e - 64 * k) &&& ~~~lowW (s - 64 * k))) = pack n (fillF f a e) := by
  refine pack_upd (by unfold nw; omega) (fun j hj => ?_) (fun i _ hne => ?_)
  · rw [wbit_or, pack_bit _ _ _ hj, wbit_andNot, wbit_low, wbit_low]
    unfold fillF
    by_cases h1 : s ≤ 64 * k + j
    · by_cases h2 : 64 * k + j < e
      · have e1 : j < min (e - 64 * k) 64 := by omega
        have e2 : ¬ j < min (s - 64 * k) 64 := by omega
        have e3 : a ≤ 64 * k + j := by omega
        have e4 : 64 * k + j < n := by omega
        simp [e1, e2, e3, e4, h2]
      · have e1 : ¬ j < min (e - 64 * k) 64 := by omega
        have e2 : ¬ 64 * k + j < s := by omega
        simp [e1, e2, h2]
    · have e1 : j < min (s - 64 * k) 64 := by omega
      have e2 : 64 * k + j < e := by omega
      have e3 : 64 * k + j < s := by omega
      simp [e1, e2, e3]
  · unfold fillF
    by_cases h1 : i < s
    · have : i < e := by omega
      simp [h1, this]
    · have h2 : ¬ i < e := by omega
      simp [h1, h2]
theorem lowBits_still (c : Nat) (w : World) (hc : c ≤ 9223372036854775807) : Calls Tryd.prog 53 #[.int .i64 (c : Int)] w fun e w' => e = .returned (.int .u64 ((lowW c).toNat : Int)) ∧ w' = w := (lowBits_any c w hc).mono fun _ _ h => ⟨h.1, h.2.symm⟩

def FillRel (w : World) (n g a b : Nat) (f : Nat → Bool) (i : Value) (wr : World) : Prop :=
  ∃ s : Nat, a ≤ s ∧ s ≤ b ∧ i = .int .i64 (s : Int) ∧ Row wr w.heap.size 26 [.int .i64 (n : Int), .slice (some ⟨g, 0, none⟩) (nw n) (nw n)] ∧ Row wr g 54 (ucells (pack n (fillF f a s))) ∧ BelowBut w.heap.size g w wr

set_option maxHeartbeats 1000000 in
theorem fill_any (n g a b : Nat) (f : Nat → Bool) (w : World) (hrow : Row w g 54 (ucells (pack n f))) (hn : n ≤ 1048576) (hab : a ≤ b) (hb : b ≤ n) :
    Calls Tryd.prog 59 #[.agg #[.int .i64 (n : Int), .slice (some ⟨g, 0, none⟩) (nw n) (nw n)], .int .i64 (a : Int), .int .i64 (b : Int)] w (PutR w g (pack n (fillF f a b))) := by
  have hgl := hrow.lt
  have hG := hidden (show Grows w (w.alloc (.cells #[.int .i64 (n : Int), .slice (some ⟨g, 0, none⟩) (nw n) (nw n)] 26)) from (Below.refl _ _).alloc (Nat.le_refl _) _)
  have HBX := hidden (Row.new w 26 #[.int .i64 (n : Int), .slice (some ⟨g, 0, none⟩) (nw n) (nw n)] _ rfl)
  have hnl : nw n ≤ 20000 := by unfold nw; omega
  rw [fill_none (a := a)] at hrow
  have HRW := hidden hrow
  clear hrow
  go_enter Tryd.func59, Tryd.ntmps59
  go_wp2_with fail
  go_loopw [1] (fun i wr => FillRel w n g a b f i wr) (fun i _ => b - (intOf i).toNat)
  case atStart => exact ⟨a, Nat.le_refl _, hab, rfl, HBX.out, HRW.out.grow hG.out, .of_below hG.out⟩
  case round =>
    obtain ⟨s, h1, h2, rfl, r1, r2, hbb⟩ := hrel
    by_cases hlt : s < b
    · obtain ⟨k, hk⟩ : ∃ k, k = s / 64 := ⟨_, rfl⟩
      obtain ⟨e, he⟩ : ∃ e, e = min b (64 * (k + 1)) := ⟨_, rfl⟩
      obtain ⟨p, hp⟩ : ∃ p, p = e - 64 * k := ⟨_, rfl⟩
      obtain ⟨q, hq⟩ : ∃ q, q = s - 64 * k := ⟨_, rfl⟩
      have hkw : k < nw n := by unfold nw; omega
      have hkl : k < (pack n (fillF f a s)).length := by rw [pack_length]; exact hkw
      have c0 := r1.cell 0
      have c1 := r1.cell 1
      simp only [List.getElem?_cons_zero, List.getElem?_cons_succ] at c0 c1
      have cw := r2.cell k
      rw [ucells_get hkl, ← wAt_lt hkl] at cw
      have fw := r2.frozen k
      have r3 : Row wr.drew g 54 (ucells (pack n (fillF f a s))) := r2.grow (Below.refl _ _).drew
      have HST := hidden (fill_step (n := n) (f := f) hk h1 (show s < e by omega) (show e ≤ n by omega) (show e ≤ 64 * (k + 1) by omega))
      rw [← hp, ← hq] at HST
      have HSET := hidden (r3.set_ k (.int .u64 ((wAt (pack n (fillF f a s)) k ||| (lowW p &&& ~~~lowW q)).toNat : Int)))
      have HA := hidden (go_andNot (lowW p) (lowW q))
      have HO := hidden (go_or (wAt (pack n (fillF f a s)) k) (lowW p &&& ~~~lowW q))
      have R1 := hidden r1
      have HBB := hidden hbb
      have HE := hidden (show s < e ∧ e ≤ b ∧ a ≤ e by omega)
      have HN := hidden (show g ≠ w.heap.size by omega)
      have ek : (s : Int) / 64 = (k : Int) := by omega
      have ee : min (b : Int) (64 * ((k : Int) + 1)) = (e : Int) := by omega
      have hkb : k ≤ 20000 := by omega
      have hpb : p ≤ 9223372036854775807 := by omega
      have hqb : q ≤ 9223372036854775807 := by omega
      have ep : IntKind.i64.wrap ((e : Int) - 64 * (k : Int)) = (p : Int) := by rw [IntKind.wrap_i64]; omega
      have eq : IntKind.i64.wrap ((s : Int) - 64 * (k : Int)) = (q : Int) := by rw [IntKind.wrap_i64]; omega
      have em : IntKind.i64.wrap (64 * (k : Int)) = 64 * (k : Int) := by rw [IntKind.wrap_i64]; omega
      have EK := hidden ek
      have EE := hidden ee
      have EP := hidden ep
      have EQ := hidden eq
      have EM := hidden em
      clear r1 r2 r3 hbb hp hq he hk ek ee ep eq em
      generalize wAt (pack n (fillF f a s)) k = x at *
      go_wp2_with fail
      rw [EK.out, EE.out]
      refine wp_region_still_tail 18 (by kernel_rfl) (by kernel_rfl) ?_
      simp only [List.take_succ_cons, List.take_zero, List.drop_succ_cons, List.drop_zero]
      change wpStill _ _ wr.drew _ _ _
      have ep := EP.out
      have eq := EQ.out
      have em := EM.out
      have b0 : (0 : Int) ≤ (k : Int) := by omega
      have b1 : (k : Int) < (nw n : Int) := by omega
      still_step
      still_step
      still_step
      still_step
      still_step
      still_step
      still_step
      still_step
      still_step
      still_call (lowBits_still p wr.drew hpb)
      still_step
      still_step
      still_step
      still_step
      still_call (lowBits_still q wr.drew hqb)
      still_step
      still_step
      still_step
      refine wpStill_nil ?_
      change wpList _ _ _ _ _ wr.drew
      clear ep eq em b0 b1
      go_wp2
      go_roundw
      case rel =>
        refine ⟨e, HE.out.2.2, HE.out.2.1, rfl, (R1.out.grow (Below.refl _ _).drew).set_other HN.out _, ?_, (HBB.out.trans (.of_below (Below.refl _ _).drew)).setCell (p := ⟨g, k, none⟩) rfl _⟩
        have h := HSET.out
        rw [ucells_set, HST.out, ← HO.out, ← HA.out] at h
        exact h
      case measure =>
        have := HE.out
        simp [intOf]
        omega
    · have hsb : s = b := by omega
      have hd : decide ((s : Int) < (b : Int)) = false := by simp; omega
      have HFIN := hidden (show PutR w g (pack n (fillF f a b)) (.returned (.tuple #[])) wr from ⟨⟨_, rfl⟩, by rw [← hsb]; exact r2, hbb⟩)
      clear r1 r2 hbb hsb
      go_wp2
      go_end0
      exact ⟨⟨_, rfl⟩, HFIN.out.2⟩
end Go.Proofs.YtaegolkoinjmoaaDoor
