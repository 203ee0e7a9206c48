/-
  Package rle as it landed: fill sets the bits from start to end in words of the call's own. Nothing else is changed.
-/
import Derived.Test.YtnjmbhakfecdoaaRm3
import Derived.Test.YtnjmbhakfecdoaaRl9
import Derived.StillTailTactics
namespace Go.Proofs.Ytnjmbhakfecdoaa
open Go.RowKit
set_option linter.unusedVariables false
set_option linter.unusedSimpArgs false

/-- what lay below block H lies as it lay, but for block B -/
structure BelowBut (H B : Nat) (w w' : World) : Prop where
  os : w'.os = w.os
  tape : w'.tape = w.tape
  output : w'.output = w.output
  size : w.heap.size ≤ w'.heap.size
  block : ∀ k, k < H → k ≠ B → w'.heap[k]? = w.heap[k]?
theorem BelowBut.refl (H B : Nat) (w : World) : BelowBut H B w w := ⟨rfl, rfl, rfl, Nat.le_refl _, fun _ _ _ => rfl⟩
theorem BelowBut.trans {H B : Nat} {a b c : World} (h : BelowBut H B a b) (k : BelowBut H B b c) : BelowBut H B a c :=
  ⟨k.os.trans h.os, k.tape.trans h.tape, k.output.trans h.output, Nat.le_trans h.size k.size, fun i hi hb => (k.block i hi hb).trans (h.block i hi hb)⟩
theorem BelowBut.of_below {H B : Nat} {a b : World} (h : Below H a b) : BelowBut H B a b := ⟨h.os, h.tape, h.output, h.size, fun k hk _ => h.block k hk⟩
theorem BelowBut.setCell {H B : Nat} {a b : World} (h : BelowBut H B a b) {p : Addr} (hp : p.block = B) (u : Value) : BelowBut H B a (b.setCell p u) :=
  h.trans ⟨rfl, rfl, rfl, by simp [World.setCell], fun k _ hb => Below.heap_setCell _ _ _ _ (by omega)⟩
theorem Row.but {w w' : World} {g : Nat} {e : TypeId} {xs : List Value} {H B : Nat} (h : Row w g e xs) (hb : BelowBut H B w w') (hg : g < H) (hne : g ≠ B) : Row w' g e xs := (hb.block g hg hne).trans h
def FillRel (w : World) (g n : Nat) (F : Nat → Bool) (s e : Nat) (i : Value) (wr : World) : Prop :=
  ∃ k : Nat, s ≤ k ∧ k ≤ e ∧ i = .int .i64 (k : Int) ∧ Row wr g 61 (ucells (pack n (upto F k))) ∧ BelowBut w.heap.size g w wr
set_option maxHeartbeats 2000000 in
theorem lfill_any (g n s e : Nat) (F : Nat → Bool) (w : World) (hrow : Row w g 61 (ucells (pack n (upto F s)))) (hse : s ≤ e) (hen : e ≤ n) (hn : n ≤ 65536) (hF : ∀ i, s ≤ i → i < e → F i = true) :
    Calls Try.prog 32 #[.slice (some ⟨g, 0, none⟩) (nw n) (nw n), .int .i64 (s : Int), .int .i64 (e : Int)] w fun en w' => (∃ v, en = .returned v) ∧ Row w' g 61 (ucells (pack n (upto F e))) ∧ BelowBut w.heap.size g w w' := by
  have HRW := hidden hrow
  have HF := hidden hF
  have HSE := hidden hse
  have hnl : nw n ≤ 1025 := by unfold nw; omega
  clear hrow hF
  go_enter Try.func32, Try.ntmps32
  go_wp2_with fail
  go_loopw [6] (fun i wr => FillRel w g n F s e i wr) (fun i _ => e - (intOf i).toNat)
  case atStart => exact ⟨s, Nat.le_refl _, HSE.out, rfl, HRW.out, BelowBut.refl _ _ _⟩
  case round =>
    obtain ⟨k, hsk, hke, rfl, hr, hb⟩ := hrel
    have HR := hidden hr
    have HB := hidden hb
    clear hr hb
    by_cases hlt : k < e
    · have hkn : k < n := by omega
      have hkw : k / 64 < nw n := by unfold nw; omega
      have hkl : k / 64 < (pack n (upto F k)).length := by rw [pack_length]; exact hkw
      have cw := HR.out.cell (k / 64)
      rw [ucells_get hkl] at cw
      have fw := HR.out.frozen (k / 64)
      have hps := pack_set (f := upto F k) hkn _ (List.getElem?_eq_getElem hkl)
      rw [bit_snoc (HF.out k hsk hlt)] at hps
      have r3 : Row wr.drew g 61 (ucells (pack n (upto F k))) := HR.out.grow (Below.refl _ _).drew
      have HSET := hidden (r3.set_ (k / 64) (.int .u64 ((UInt64.ofNat ((pack n (upto F k))[k / 64].toNat ||| 2 ^ (k % 64))).toNat : Int)))
      have HPS := hidden hps
      have HO := hidden (or_go (x := (pack n (upto F k))[k / 64]) (j := k % 64) (by omega))
      have HO' := hidden (or_go' (x := (pack n (upto F k))[k / 64]) (j := k % 64) (by omega))
      have hxb : (pack n (upto F k))[k / 64].toNat < 18446744073709551616 := (pack n (upto F k))[k / 64].toNat_lt
      clear hps r3
      generalize (pack n (upto F k))[k / 64] = x at *
      have d0 : decide (k < e) = true := by simpa using hlt
      have e64 : IntKind.i64.wrap ((k : Int) / 64) = (k : Int) / 64 := by rw [IntKind.wrap_i64]; omega
      have b0 : (0 : Int) ≤ (k : Int) / 64 := by omega
      have b1 : (k : Int) / 64 < (nw n : Int) := by omega
      have et : ((k : Int) / 64).toNat = k / 64 := by omega
      have hm0 : (0 : Int) ≤ (k : Int) % 64 := by omega
      have hmt : ((k : Int).tmod 64) = ((k % 64 : Nat) : Int) := by rw [Int.tmod_eq_emod_of_nonneg (by omega)]; omega
      have hm1 : ((k : Int) % 64).toNat = k % 64 := by omega
      go_wp2_with fail
      refine wp_region_still_tail 9 (by kernel_rfl) (by kernel_rfl) ?_
      simp only [List.take_succ_cons, List.take_zero, List.drop_succ_cons, List.drop_zero]
      change wpStill _ _ wr.drew _ _ _
      still_step
      still_step
      still_step
      still_step
      still_step
      still_step
      still_step
      still_step
      still_step
      refine wpStill_nil ?_
      change wpList _ _ _ _ _ wr.drew
      try rw [hm1]
      rw [HO'.out]
      clear HO HO'
      generalize UInt64.ofNat (x.toNat ||| 2 ^ (k % 64)) = y at *
      have hyl := y.toNat_lt
      have HY := hidden hyl
      clear e64 hm0 hm1 hmt
      go_wp2
      go_roundw
      case rel =>
        refine ⟨k + 1, by omega, by omega, by go_num, ?_, (HB.out.trans (BelowBut.of_below (Below.refl _ _).drew)).setCell (p := ⟨g, k / 64, none⟩) rfl _⟩
        have h := HSET.out
        rw [ucells_set, HPS.out] at h
        exact h
      case measure => simp [intOf]; omega
    · have HK := hidden (show k = e by omega)
      have d0 : decide (k < e) = false := by simpa using hlt
      go_wp2_with fail
      go_end0
      exact ⟨⟨_, rfl⟩, by have h := HR.out; rw [HK.out] at h; exact h, HB.out⟩
end Go.Proofs.Ytnjmbhakfecdoaa
