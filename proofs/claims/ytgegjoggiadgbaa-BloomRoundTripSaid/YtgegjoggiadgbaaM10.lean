/-
  Texts that the claims of this seat share, put together (BkPut, BkFill, BkOf, BkRank, BkValid). No condition.
-/
import Derived.Test.YtgegjoggiadgbaaM9
import Derived.StillTailTactics
/-
  Shaken: what the claims of this seat need of this text. No condition.
-/
namespace Go.Proofs.Ytgegjoggiadgbaa
set_option maxRecDepth 8000
open Go.RowKit
theorem pack_bit (n : Nat) (f : Nat → Bool) (k : Nat) {j : Nat} (hj : j < 64) : wbit (wAt (pack n f) k) j = (decide (64 * k + j < n) && f (64 * k + j)) := by
  rw [okW_bit (okW_pack n f) hj, mem_pack]
theorem pack_upd {n : Nat} {f g : Nat → Bool} {K : Nat} {x : UInt64} (_hK : K < nw n) (hx : ∀ j, j < 64 → wbit x j = (decide (64 * K + j < n) && g (64 * K + j))) (hg : ∀ i, i < n → i / 64 ≠ K → g i = f i) :
    (pack n f).set K x = pack n g := by
  apply List.ext_getElem?
  intro q
  rw [List.getElem?_set, pack_length]
  by_cases hq : q < nw n
  · rw [pack_get hq, pack_get hq]
    by_cases e : K = q
    · subst e
      rw [if_pos rfl, if_pos hq]
      congr 1
      apply word_ext
      intro j hj
      rw [hx j hj, wbit_wordOf]
      simp [hj]
    · rw [if_neg e]
      congr 1
      apply word_ext
      intro j hj
      rw [wbit_wordOf, wbit_wordOf]
      by_cases hi : 64 * q + j < n
      · rw [hg _ hi (by omega)]
      · simp [hi]
  · rw [List.getElem?_eq_none (by rw [pack_length]; omega), List.getElem?_eq_none (by rw [pack_length]; omega)]
    split
    · omega
    · rfl
theorem put_on {n k : Nat} {f : Nat → Bool} (hk : k < n) : (pack n f).set (k / 64) (wAt (pack n f) (k / 64) ||| bitW k) = pack n (onAt f (k : Int) true) := by
  refine pack_upd (by unfold nw; omega) (fun j hj => ?_) (fun i _ hne => ?_)
  · rw [wbit_or, pack_bit n f _ hj, wbit_bit]
    unfold onAt
    by_cases e : j = k % 64
    · have h1 : 64 * (k / 64) + j = k := by omega
      have h2 : ((64 * (k / 64) + j : Nat) : Int) = (k : Int) := by omega
      rw [if_pos h2]
      simp [e]
      omega
    · have h2 : ¬ (((64 * (k / 64) + j : Nat) : Int) = (k : Int)) := by omega
      rw [if_neg h2]
      simp [e]
  · unfold onAt
    rw [if_neg (by intro h; apply hne; omega)]
theorem put_off {n k : Nat} {f : Nat → Bool} (hk : k < n) : (pack n f).set (k / 64) (wAt (pack n f) (k / 64) &&& ~~~bitW k) = pack n (onAt f (k : Int) false) := by
  refine pack_upd (by unfold nw; omega) (fun j hj => ?_) (fun i _ hne => ?_)
  · rw [wbit_andNot, pack_bit n f _ hj, wbit_bit]
    unfold onAt
    by_cases e : j = k % 64
    · have h2 : ((64 * (k / 64) + j : Nat) : Int) = (k : Int) := by omega
      rw [if_pos h2]
      simp [e]
    · have h2 : ¬ (((64 * (k / 64) + j : Nat) : Int) = (k : Int)) := by omega
      rw [if_neg h2]
      simp [e]
  · unfold onAt
    rw [if_neg (by intro h; apply hne; omega)]
theorem put_out {n : Nat} {f : Nat → Bool} {i : Int} {b : Bool} (h : i < 0 ∨ (n : Int) ≤ i) : pack n f = pack n (onAt f i b) :=
  pack_congr fun j hj => by unfold onAt; rw [if_neg (by omega)]
def PutR (w : World) (g : Nat) (ws : List UInt64) (e : Ending) (w' : World) : Prop := (∃ v, e = .returned v) ∧ Row w' g 53 (ucells ws) ∧ BelowBut w.heap.size g w w'
theorem Row.but {w w' : World} {g : Nat} {e : TypeId} {xs : List Value} {H B : Nat} (h : Row w g e xs) (hb : BelowBut H B w w') (hg : g < H) (hne : g ≠ B) : Row w' g e xs := (hb.block g hg hne).trans h
theorem bit_still (i : Nat) (w : World) (hc : i ≤ 9223372036854775807) : Calls Try.prog 56 #[.int .i64 (i : Int)] w fun e w' => e = .returned (.int .u64 ((bitW i).toNat : Int)) ∧ w' = w := (bit_any i w hc).mono fun _ _ h => ⟨h.1, h.2.symm⟩
set_option maxHeartbeats 1000000 in
theorem put_any (n g : Nat) (f : Nat → Bool) (i : Int) (b : Bool) (w : World) (hrow : Row w g 53 (ucells (pack n f))) (hn : n ≤ 1048576) (_h63 : -9223372036854775808 ≤ i) (_h64 : i ≤ 9223372036854775807) :
    Calls Try.prog 52 #[.agg #[.int .i64 (n : Int), .slice (some ⟨g, 0, none⟩) (nw n) (nw n)], .int .i64 i, .bool b] w (PutR w g (pack n (onAt f i b))) := by
  have hgl := hrow.lt
  have HRW := hidden hrow
  have hG := hidden (show Grows w (w.alloc (.cells #[.int .i64 (n : Int), .slice (some ⟨g, 0, none⟩) (nw n) (nw n)] 30)) from (Below.refl _ _).alloc (Nat.le_refl _) _)
  have HBX := hidden (Row.new w 30 #[.int .i64 (n : Int), .slice (some ⟨g, 0, none⟩) (nw n) (nw n)] _ rfl)
  have hnl : nw n ≤ 20000 := by unfold nw; omega
  clear hrow
  by_cases hi : 0 ≤ i ∧ i < n
  · obtain ⟨k, rfl⟩ := Int.eq_ofNat_of_zero_le hi.1
    have hk : k < n := by omega
    have hkw : k / 64 < nw n := by unfold nw; omega
    have hkl : k / 64 < (pack n f).length := by rw [pack_length]; exact hkw
    clear hi
    cases b with
    | true =>
      go_enter Try.func52, Try.ntmps52
      go_wp2_with fail
      refine (within_t _ _ _ _ (by omega) (by omega)).mono ?_
      rintro e w1 ⟨rfl, g1⟩
      have r1 := HBX.out.grow g1
      have c0 := r1.cell 0
      have c1 := r1.cell 1
      simp only [List.getElem?_cons_zero, List.getElem?_cons_succ] at c0 c1
      have HG1 := hidden (hG.out.of_below g1)
      have r2 := HRW.out.grow (hG.out.of_below g1)
      have cw := r2.cell (k / 64)
      rw [ucells_get hkl, ← wAt_lt hkl] at cw
      have fw := r2.frozen (k / 64)
      have r3 : Row w1.drew g 53 (ucells (pack n f)) := r2.grow (Below.refl _ _).drew
      have HSET := hidden (r3.set_ (k / 64) (.int .u64 ((wAt (pack n f) (k / 64) ||| bitW k).toNat : Int)))
      have HO := hidden (go_or (wAt (pack n f) (k / 64)) (bitW k))
      have HPK := hidden (put_on (f := f) hk)
      clear g1 r1 r2 r3
      generalize wAt (pack n f) (k / 64) = x at *
      go_wp2_with fail
      refine wp_region_still_tail 10 (by kernel_rfl) (by kernel_rfl) ?_
      simp only [List.take_succ_cons, List.take_zero, List.drop_succ_cons, List.drop_zero]
      change wpStill _ _ w1.drew _ _ _
      have e64 : IntKind.i64.wrap ((k : Int) / 64) = (k : Int) / 64 := by rw [IntKind.wrap_i64]; omega
      have b0 : (0 : Int) ≤ (k : Int) / 64 := by omega
      have b1 : (k : Int) / 64 < (nw n : Int) := by omega
      have et : ((k : Int) / 64).toNat = k / 64 := by omega
      still_step
      still_step
      still_step
      still_step
      still_step
      still_step
      still_step
      still_call (bit_still k w1.drew (by omega))
      still_step
      still_step
      refine wpStill_nil ?_
      change wpList _ _ _ _ _ w1.drew
      clear e64 b0 b1 et
      go_wp2
      go_end0
      refine ⟨⟨_, rfl⟩, ?_, (BelowBut.of_below HG1.out.drew).setCell (p := ⟨g, k / 64, none⟩) rfl _⟩
      have h := HSET.out
      rw [ucells_set, HPK.out, ← HO.out] at h
      exact h
    | false =>
      go_enter Try.func52, Try.ntmps52
      go_wp2_with fail
      refine (within_t _ _ _ _ (by omega) (by omega)).mono ?_
      rintro e w1 ⟨rfl, g1⟩
      have r1 := HBX.out.grow g1
      have c0 := r1.cell 0
      have c1 := r1.cell 1
      simp only [List.getElem?_cons_zero, List.getElem?_cons_succ] at c0 c1
      have HG1 := hidden (hG.out.of_below g1)
      have r2 := HRW.out.grow (hG.out.of_below g1)
      have cw := r2.cell (k / 64)
      rw [ucells_get hkl, ← wAt_lt hkl] at cw
      have fw := r2.frozen (k / 64)
      have r3 : Row w1.drew g 53 (ucells (pack n f)) := r2.grow (Below.refl _ _).drew
      have HSET := hidden (r3.set_ (k / 64) (.int .u64 ((wAt (pack n f) (k / 64) &&& ~~~bitW k).toNat : Int)))
      have HO := hidden (go_andNot (wAt (pack n f) (k / 64)) (bitW k))
      have HPK := hidden (put_off (f := f) hk)
      clear g1 r1 r2 r3
      generalize wAt (pack n f) (k / 64) = x at *
      go_wp2_with fail
      refine wp_region_still_tail 10 (by kernel_rfl) (by kernel_rfl) ?_
      simp only [List.take_succ_cons, List.take_zero, List.drop_succ_cons, List.drop_zero]
      change wpStill _ _ w1.drew _ _ _
      have e64 : IntKind.i64.wrap ((k : Int) / 64) = (k : Int) / 64 := by rw [IntKind.wrap_i64]; omega
      have b0 : (0 : Int) ≤ (k : Int) / 64 := by omega
      have b1 : (k : Int) / 64 < (nw n : Int) := by omega
      have et : ((k : Int) / 64).toNat = k / 64 := by omega
      still_step
      still_step
      still_step
      still_step
      still_step
      still_step
      still_step
      still_call (bit_still k w1.drew (by omega))
      still_step
      still_step
      refine wpStill_nil ?_
      change wpList _ _ _ _ _ w1.drew
      clear e64 b0 b1 et
      go_wp2
      go_end0
      refine ⟨⟨_, rfl⟩, ?_, (BelowBut.of_below HG1.out.drew).setCell (p := ⟨g, k / 64, none⟩) rfl _⟩
      have h := HSET.out
      rw [ucells_set, HPK.out, ← HO.out] at h
      exact h
  · have hi' : i < 0 ∨ (n : Int) ≤ i := by omega
    have HP := hidden (put_out (n := n) (f := f) (i := i) (b := b) hi')
    go_enter Try.func52, Try.ntmps52
    go_wp2_with fail
    refine (within_f _ _ _ _ hi').mono ?_
    rintro e w1 ⟨rfl, g1⟩
    have HG1 := hidden (hG.out.of_below g1)
    clear g1 hi' hi
    go_wp2
    refine bodyPost_ret (results_none rfl _ _ _) rfl ?_
    exact ⟨⟨_, rfl⟩, by rw [← HP.out]; exact HRW.out.grow HG1.out, .of_below HG1.out⟩
end Go.Proofs.Ytgegjoggiadgbaa
/-
  Shaken: what the claims of this seat need of this text. No condition.
-/
namespace Go.Proofs.Ytgegjoggiadgbaa
set_option maxRecDepth 8000
open Go.RowKit
theorem lowBits_still (c : Nat) (w : World) (hc : c ≤ 9223372036854775807) : Calls Try.prog 58 #[.int .i64 (c : Int)] w fun e w' => e = .returned (.int .u64 ((lowW c).toNat : Int)) ∧ w' = w := (lowBits_any c w hc).mono fun _ _ h => ⟨h.1, h.2.symm⟩
end Go.Proofs.Ytgegjoggiadgbaa
/-
  Shaken: what the claims of this seat need of this text. No condition.
-/
namespace Go.Proofs.Ytgegjoggiadgbaa
set_option maxRecDepth 8000
open Go.RowKit
theorem inL_on {n : Nat} {l : List Int} {x : Int} : pack n (onAt (inL l) x true) = pack n (inL (l ++ [x])) := pack_congr fun j _ => by
  unfold onAt inL
  by_cases h : (j : Int) = x
  · rw [if_pos h]; simp [h]
  · rw [if_neg h]; simp [h]
theorem Row.but_ {w w' : World} {g : Nat} {e : TypeId} {xs : List Value} {B : Nat} (h : Row w g e xs) (hb : BelowBut w.heap.size B w w') (hne : g ≠ B) : Row w' g e xs := (hb.block g h.lt hne).trans h
theorem BelowBut.up {H B n₀ : Nat} {a b w : World} (h : BelowBut H B a b) (hw : Below n₀ w a) (h1 : n₀ ≤ H) (h2 : n₀ ≤ B) : Below n₀ w b := h.below hw h1 h2
set_option maxHeartbeats 1000000 in
theorem of_any (n : Int) (v : Value) (l : List Int) (w : World) (hv : Reads w v (icells l)) (hll : l.length ≤ 1048576) (hw : ∀ x ∈ l, -9223372036854775808 ≤ x ∧ x ≤ 9223372036854775807) (h63 : -9223372036854775808 ≤ n) (h64 : n ≤ 9223372036854775807) :
    Calls Try.prog 27 #[.int .i64 n, v] w (FreshSet (newN n) (pack (newN n) (inL l)) w) := by
  have HV := hidden hv
  have HW := hidden hw
  obtain ⟨A, c, rfl, _⟩ := hv.slice_
  clear hv hw
  rw [icells_length] at HV ⊢
  have HL := hidden (pack_length (newN n))
  have hn := newN_le n
  have hnl : nw (newN n) ≤ 20000 := by unfold nw; omega
  have HN0 := hidden (inL_nil)
  go_enter Try.func27, Try.ntmps27
  go_wp2_with fail
  refine (new_any n _ h63 h64).mono ?_
  rintro e w1 ⟨g, hg, rfl, hrow, g1⟩
  generalize newN n = N at *
  rw [HL.out]
  have hB : Grows w w1 := Grows.of_below ((Below.refl _ _).alloc (Nat.le_refl _) _) g1
  have hR0 : Row w1 w.heap.size 30 [.int .i64 0, .slice none 0 0] := (Row.new w _ _ _ rfl).grow g1
  have hg1 : w.heap.size + 1 ≤ g := by simpa using hg
  have hgl := hrow.lt
  have hR2 := hrow.grow (w' := w1.alloc (.cells #[.int .i64 (N : Int), .slice (some ⟨g, 0, none⟩) (nw N) (nw N)] 30)) ((Below.refl _ _).alloc (Nat.le_refl _) _)
  have hR3 := hR0.grow (w' := w1.alloc (.cells #[.int .i64 (N : Int), .slice (some ⟨g, 0, none⟩) (nw N) (nw N)] 30)) ((Below.refl _ _).alloc (Nat.le_refl _) _)
  have hR4 := Row.new w1 30 #[.int .i64 (N : Int), .slice (some ⟨g, 0, none⟩) (nw N) (nw N)] _ rfl
  have hB4 : Grows w (w1.alloc (.cells #[.int .i64 (N : Int), .slice (some ⟨g, 0, none⟩) (nw N) (nw N)] 30)) := hB.alloc hB.size _
  have H2 := hidden hR2
  have H3 := hidden hR3
  have H4 := hidden hR4
  have HB4 := hidden hB4
  have hsz := hB.size
  clear hB hR0 hrow hR2 hR3 hR4 hB4 g1 hg
  go_wp2_with fail
  go_loopw [12] (fun i wr => OfRel w N l w1.heap.size g i wr) (fun i _ => l.length - (intOf i).toNat)
  case atStart => exact ⟨0, by omega, rfl, H4.out, by rw [List.take_zero, HN0.out]; exact H2.out, ⟨_, _, H3.out⟩, HB4.out⟩
  case round =>
    obtain ⟨k, hk, rfl, r1, r2, ⟨z1, z2, r3⟩, hb⟩ := hrel
    have hc0 := r1.cell 0
    have hc1 := r1.cell 1
    simp only [List.getElem?_cons_zero, List.getElem?_cons_succ] at hc0 hc1
    have R1 := hidden r1
    have R2 := hidden r2
    have R3 := hidden r3
    have HB := hidden hb
    clear r1 r2 r3 hb
    by_cases hlt : k < l.length
    · obtain ⟨A', c', he, _, hcell⟩ := HV.out.grow HB.out
      injection he with e1 e2 e3
      subst e1 e3
      obtain ⟨b, off, rfl, hcell2⟩ := hcell (by rw [icells_length]; omega)
      have hbit := hcell2 k (by rw [icells_length]; omega)
      rw [icells_get hlt] at hbit
      have HTK := hidden (List.take_succ_eq_append_getElem hlt)
      have hx := HW.out _ (List.getElem_mem hlt)
      clear hcell hcell2 e2
      generalize l[k] = x at *
      have HON := hidden (inL_on (n := N) (l := l.take k) (x := x))
      have HX1 := hidden hx.1
      have HX2 := hidden hx.2
      clear hx
      go_wp2_with fail
      refine (put_any N g _ x true wr R2.out hn HX1.out HX2.out).mono ?_
      rintro e w2 ⟨⟨v, rfl⟩, p2, pb⟩
      have HP1 := hidden (R1.out.but_ pb (by omega))
      have HP2 := hidden p2
      have HP3 := hidden (R3.out.but_ pb (by omega))
      have HPB := hidden (pb.up HB.out HB.out.size (by omega))
      clear p2 pb hc0 hc1 hbit
      go_wp2
      go_roundw
      case rel => exact ⟨k + 1, by omega, by go_num, HP1.out, by rw [HTK.out, ← HON.out]; exact HP2.out, ⟨_, _, HP3.out⟩, HPB.out⟩
      case measure => simp [intOf]; omega
    · have hke : k = l.length := by omega
      have HTL : Hid (l.take k = l) := by show _ = _; rw [hke, List.take_length]
      have HRS := hidden (R3.out.setRow_ [.int .i64 (N : Int), .slice (some ⟨g, 0, none⟩) (nw N) (nw N)] rfl)
      have hnk : l.length ≤ k := by omega
      clear hke
      go_wp2_with (refine wpList_store_set rfl _ _ rfl w.heap.size rfl _ _ _ _ _ rfl R3.out ?_)
      refine bodyPost_ret (results_set rfl _ _ _ _ _ rfl HRS.out) rfl ⟨g, by omega, by rw [HL.out], ?_, below_setRow HB.out (Nat.le_refl _) _⟩
      have h := R2.out
      rw [HTL.out] at h
      unfold Row at h ⊢
      rw [setRow_other _ _ _ _ (by omega)]
      exact h
end Go.Proofs.Ytgegjoggiadgbaa
/-
  Shaken: what the claims of this seat need of this text. No condition.
-/
namespace Go.Proofs.Ytgegjoggiadgbaa
set_option maxRecDepth 8000
open Go.RowKit
end Go.Proofs.Ytgegjoggiadgbaa
/-
  Shaken: what the claims of this seat need of this text. No condition.
-/
namespace Go.Proofs.Ytgegjoggiadgbaa
set_option maxRecDepth 8000
open Go.RowKit
theorem wordCount_still (n : Nat) (w : World) (hc : n ≤ 1048576) : Calls Try.prog 57 #[.int .i64 (n : Int)] w fun e w' => e = .returned (.int .i64 ((nw n : Nat) : Int)) ∧ w' = w := (wordCount_any n w hc).mono fun _ _ h => ⟨h.1, h.2.symm⟩
theorem valid_last {m : Nat} {ws : List UInt64} (hl : ws.length = nw m) (hpos : 0 < ws.length) {p : Nat} (hp : p = m - 64 * (ws.length - 1)) :
    validI (m : Int) ws = ((((wAt ws (ws.length - 1) &&& ~~~lowW p).toNat : Int)) == 0) ∨ 1048576 < m := by
  by_cases hm : 1048576 < m
  · exact .inr hm
  refine .inl ?_
  have hK : ws.length - 1 = (m - 1) / 64 := by rw [hl]; unfold nw; omega
  have hm1 : 1 ≤ m := by rw [hl] at hpos; unfold nw at hpos; omega
  have key : okW m ws ↔ wAt ws (ws.length - 1) &&& ~~~lowW p = 0 := by
    constructor
    · intro ho
      apply word_ext
      intro j hj
      rw [wbit_andNot, wbit_low, wbit_zero, okW_bit ho hj]
      by_cases h1 : j < min p 64
      · simp [h1]
      · rw [mem_ge (by omega)]; rfl
    · intro hz
      refine ⟨hl, fun i hi => ?_⟩
      obtain ⟨q, r, hr, rfl⟩ : ∃ q r, r < 64 ∧ i = 64 * q + r := ⟨i / 64, i % 64, by omega, by omega⟩
      rw [wmem_at ws hr]
      by_cases hq : q = ws.length - 1
      · subst hq
        have := congrArg (fun y => wbit y r) hz
        simp only [wbit_andNot, wbit_low, wbit_zero] at this
        have h1 : ¬ r < min p 64 := by omega
        simpa [h1] using this
      · rw [wAt_ge (by omega), wbit_zero]
  by_cases hz : wAt ws (ws.length - 1) &&& ~~~lowW p = 0
  · rw [validI_t ⟨by omega, by omega, by rw [Int.toNat_natCast]; exact key.2 hz⟩, hz]; rfl
  · rw [validI_f fun h => hz (key.1 (by have := h.2.2; rwa [Int.toNat_natCast] at this))]
    have h1 : (wAt ws (ws.length - 1) &&& ~~~lowW p).toNat ≠ 0 := fun e => hz (UInt64.toNat_inj.1 e)
    generalize (wAt ws (ws.length - 1) &&& ~~~lowW p).toNat = y at *
    simp; omega
theorem q_add {P : Program} {f : FuncId} {args : Array Value} {w : World} {a n : Nat} {v : Value} (h : Calls P f args (w.drewN (a + n)) fun e w' => e = .returned v ∧ w' = w.drewN (a + n)) :
    Calls P f args (w.drewN (a + n)) fun e w'' => e = .returned v ∧ ∃ m, w'' = w.drewN (a + m) := h.mono fun _ _ ⟨he, hm⟩ => ⟨he, n, hm⟩
set_option maxHeartbeats 1000000 in
theorem ck_valid (s : Value) (n : Int) (ws : List UInt64) (w : World) (hs : IsPair w s n ws) (h63 : -9223372036854775808 ≤ n) (h64 : n ≤ 9223372036854775807) :
    Calls Try.prog 35 #[s] w fun e w' => e = .returned (.bool (validI n ws)) ∧ Grows w w' := by
  obtain ⟨v, rfl, hr, hla⟩ := hs
  have hr2 := hr
  obtain ⟨A, d, rfl, _⟩ := hr.slice_
  rw [ucells_length] at hr hr2 ⊢
  have HG := hidden (show ∀ o, Grows w (w.alloc o) from fun o => (Below.refl _ _).alloc (Nat.le_refl _) o)
  have HR := hidden hr2
  clear hr hr2
  by_cases h0 : n < 0
  · have HF := hidden (validI_f (ws := ws) (fun h : validP n ws => by have := h.1; omega))
    have hd : decide (n < 0) = true := by simpa using h0
    go_enter Try.func35, Try.ntmps35
    go_wp2_with fail
    go_quiet (fail)
    go_wp2
    go_ret
    exact ⟨retB (by rw [HF.out]), below_draws (HG.out _) _⟩
  · by_cases h1 : 1048576 < n
    · have HF := hidden (validI_f (ws := ws) (fun h : validP n ws => by have := h.2.1; omega))
      have hd1 : decide (n < 0) = false := by simpa using h0
      have hd : decide (1048576 < n) = true := by simpa using h1
      go_enter Try.func35, Try.ntmps35
      go_wp2_with fail
      go_quiet (fail)
      go_wp2
      go_ret
      exact ⟨retB (by rw [HF.out]), below_draws (HG.out _) _⟩
    · obtain ⟨m, rfl⟩ := Int.eq_ofNat_of_zero_le (show 0 ≤ n by omega)
      have hm : m ≤ 1048576 := by omega
      have hd1 : decide ((m : Int) < 0) = false := by simp
      have hd : decide (1048576 < (m : Int)) = false := by simp; omega
      by_cases hl : ws.length = nw m
      · have hne : ((ws.length : Int) != ((nw m : Nat) : Int)) = false := by simp; omega
        by_cases hpos : 0 < ws.length
        · obtain ⟨K, hK⟩ : ∃ K, K = ws.length - 1 := ⟨_, rfl⟩
          obtain ⟨p, hp⟩ : ∃ p, p = m - 64 * K := ⟨_, rfl⟩
          have HV : Hid (validI (m : Int) ws = ((((wAt ws K &&& ~~~lowW p).toNat : Int)) == 0)) := by
            show _ = _
            rcases valid_last hl hpos (p := p) (by rw [hp, hK]) with h | h
            · rw [hK]; exact h
            · omega
          have HA := hidden (go_andNot (wAt ws K) (lowW p))
          have hlt : K < ws.length := by omega
          obtain ⟨A', c', he, _, hcell⟩ := HR.out.grow (HG.out (.cells #[.int .i64 (m : Int), .slice A ws.length d] 30))
          rw [ucells_length] at he hcell
          injection he with e1 e2 e3
          subst e1 e3
          obtain ⟨b, off, rfl, hx⟩ := hcell (by omega)
          have hcl := hx K hlt
          rw [ucells_get hlt, ← wAt_lt hlt] at hcl
          have HKK := hidden (show (ws.length : Int) - 1 = (K : Int) by omega)
          have hnl : ws.length ≤ 20000 := by rw [hl]; unfold nw; omega
          have hKb : K ≤ 20000 := by omega
          have hpb : p ≤ 9223372036854775807 := by omega
          have E1 := hidden (show IntKind.i64.wrap (64 * (K : Int)) = 64 * (K : Int) by rw [IntKind.wrap_i64]; omega)
          have E2 := hidden (show IntKind.i64.wrap ((m : Int) - 64 * (K : Int)) = (p : Int) by rw [IntKind.wrap_i64]; unfold nw at hl; omega)
          clear hx hcell e2 hK hp hl h0 h1 hpos
          generalize wAt ws K = x at *
          go_enter Try.func35, Try.ntmps35
          go_wp2_with fail
          go_quiet ((go_at_call 57; exact Calls.quiet_of_same (wordCount_still m _ hm)))
          go_wp2_with fail
          rw [HKK.out]
          have hd0 : decide ((K : Int) < 0) = false := by simp
          go_wp2_with fail
          have e1 := E1.out
          have e2 := E2.out
          have b0 : (0 : Int) ≤ (K : Int) := by omega
          have b1 : (K : Int) < (ws.length : Int) := by omega
          go_quiet ((go_at_call 58; exact q_add (lowBits_still p _ hpb)))
          clear e1 e2 b0 b1
          go_wp2
          go_ret
          exact ⟨retB (by rw [HV.out, ← HA.out]), below_draws (below_draws (HG.out _) _) _⟩
        · have h00 : ws.length = 0 := by omega
          have hm0 : m = 0 := by rw [h00] at hl; unfold nw at hl; omega
          have HT := hidden (validI_t (n := (m : Int)) (ws := ws) ⟨by omega, by omega, by rw [Int.toNat_natCast]; exact okW_even (by omega) hl⟩)
          have HKK := hidden (show (ws.length : Int) - 1 = -1 by omega)
          have hd0 : decide ((-1 : Int) < 0) = true := by decide
          have hnl : ws.length ≤ 20000 := by omega
          clear hl h0 h1 hpos h00 hm0
          go_enter Try.func35, Try.ntmps35
          go_wp2_with fail
          go_quiet ((go_at_call 57; exact Calls.quiet_of_same (wordCount_still m _ hm)))
          go_wp2_with fail
          rw [HKK.out]
          go_quiet (fail)
          go_wp2
          go_ret
          exact ⟨retB (by rw [HT.out]), below_draws (below_draws (HG.out _) _) _⟩
      · have HF := hidden (validI_f (n := (m : Int)) (ws := ws) (fun h => hl (by have := h.2.2.1; rwa [Int.toNat_natCast] at this)))
        have hne : ((ws.length : Int) != ((nw m : Nat) : Int)) = true := by simp; omega
        clear hl h0 h1
        go_enter Try.func35, Try.ntmps35
        go_wp2_with fail
        go_quiet ((go_at_call 57; exact Calls.quiet_of_same (wordCount_still m _ hm)))
        go_wp2
        go_ret
        exact ⟨retB (by rw [HF.out]), below_draws (HG.out _) _⟩
end Go.Proofs.Ytgegjoggiadgbaa
