/-
  Texts that the claims of this seat share, put together (BwNum, PopNum, BkW, BkN). No condition.
-/
import Derived.Test.YtgegjoggiadgbaaM8
import Derived.Shelf.Spec.TrailingZeros
/-
  Shaken: what the claims of this seat need of this text. No condition.
-/
namespace Go.Proofs.Ytgegjoggiadgbaa
set_option maxRecDepth 8000
open Go.RowKit
def wAt (ws : List UInt64) (k : Nat) : UInt64 := ws.getD k 0
theorem wAt_lt {ws : List UInt64} {k : Nat} (h : k < ws.length) : wAt ws k = ws[k] := by simp [wAt, h]
theorem wAt_ge {ws : List UInt64} {k : Nat} (h : ws.length ≤ k) : wAt ws k = 0 := by simp [wAt, h]
theorem wbit_zero (j : Nat) : wbit 0 j = false := by unfold wbit; simp
theorem wmem_at (ws : List UInt64) {k j : Nat} (hj : j < 64) : wmem ws (64 * k + j) = wbit (wAt ws k) j := by
  unfold wmem
  rw [show (64 * k + j) / 64 = k by omega, show (64 * k + j) % 64 = j by omega]
  by_cases h : k < ws.length
  · rw [List.getElem?_eq_getElem h, wAt_lt h]
  · rw [List.getElem?_eq_none (by omega), wAt_ge (by omega), wbit_zero]
theorem okW_bit {n : Nat} {ws : List UInt64} (h : okW n ws) {k j : Nat} (hj : j < 64) : wbit (wAt ws k) j = mem n ws (64 * k + j) := by
  rw [← wmem_at ws hj]
  unfold mem
  by_cases hi : 64 * k + j < n
  · simp [hi]
  · rw [h.2 _ (by omega)]; simp
theorem wbit_and (a b : UInt64) (j : Nat) : wbit (a &&& b) j = (wbit a j && wbit b j) := by unfold wbit; rw [UInt64.toNat_and, Nat.testBit_and]
theorem wbit_or (a b : UInt64) (j : Nat) : wbit (a ||| b) j = (wbit a j || wbit b j) := by unfold wbit; rw [UInt64.toNat_or, Nat.testBit_or]
theorem toNat_not64 (a : UInt64) : (~~~a).toNat = 18446744073709551615 - a.toNat := by
  rw [UInt64.toNat_not]; rfl
theorem wbit_not (a : UInt64) {j : Nat} (hj : j < 64) : wbit (~~~a) j = !wbit a j := by
  unfold wbit
  rw [toNat_not64, show 18446744073709551615 - a.toNat = 2 ^ 64 - (a.toNat + 1) by omega, Nat.testBit_two_pow_sub_succ a.toNat_lt]
  simp [hj]
theorem wbit_andNot (a b : UInt64) (j : Nat) : wbit (a &&& ~~~b) j = (wbit a j && !wbit b j) := by
  rw [wbit_and]
  by_cases hj : j < 64
  · rw [wbit_not b hj]
  · rw [wbit_ge (w := a) (by omega)]; rfl
theorem go_and (a b : UInt64) : bits .and .u64 (a.toNat : Int) (b.toNat : Int) = ((a &&& b).toNat : Int) := by
  rw [bits_and_u64_nat _ _ a.toNat_lt b.toNat_lt, UInt64.toNat_and]
theorem go_or (a b : UInt64) : bits .or .u64 (a.toNat : Int) (b.toNat : Int) = ((a ||| b).toNat : Int) := by
  rw [bits_or_u64_nat _ _ a.toNat_lt b.toNat_lt, UInt64.toNat_or]
theorem go_andNot (a b : UInt64) : bits .andNot .u64 (a.toNat : Int) (b.toNat : Int) = ((a &&& ~~~b).toNat : Int) := by
  rw [u64_andNot_nat _ _ a.toNat_lt b.toNat_lt, UInt64.toNat_and, toNat_not64]
def lowW (c : Nat) : UInt64 := UInt64.ofNat (2 ^ min c 64 - 1)
theorem lowW_toNat (c : Nat) : (lowW c).toNat = 2 ^ min c 64 - 1 := by
  unfold lowW
  rw [UInt64.toNat_ofNat']
  have : 2 ^ min c 64 ≤ 2 ^ 64 := Nat.pow_le_pow_right (by decide) (by omega)
  exact Nat.mod_eq_of_lt (by have := Nat.two_pow_pos (min c 64); omega)
theorem wbit_low (c j : Nat) : wbit (lowW c) j = decide (j < min c 64) := by unfold wbit; rw [lowW_toNat, Nat.testBit_two_pow_sub_one]
theorem go_low (c : Nat) : IntKind.u64.wrap (IntKind.u64.wrap (2 ^ min c 64) - 1) = ((lowW c).toNat : Int) := by
  rw [lowW_toNat, IntKind.wrap_u64, IntKind.wrap_u64]
  by_cases h : 64 ≤ c
  · rw [show min c 64 = 64 by omega]; decide
  · have h1 : 2 ^ min c 64 ≤ 2 ^ 63 := Nat.pow_le_pow_right (by decide) (by omega)
    have h2 := Nat.two_pow_pos (min c 64)
    have e : (2 : Int) ^ min c 64 = ((2 ^ min c 64 : Nat) : Int) := by simp
    rw [e]
    generalize 2 ^ min c 64 = p at *
    omega
def bitW (i : Nat) : UInt64 := UInt64.ofNat (2 ^ (i % 64))
theorem bitW_toNat (i : Nat) : (bitW i).toNat = 2 ^ (i % 64) := by
  unfold bitW
  rw [UInt64.toNat_ofNat']
  exact Nat.mod_eq_of_lt (Nat.pow_lt_pow_right (by decide) (by omega))
theorem wbit_bit (i j : Nat) : wbit (bitW i) j = decide (j = i % 64) := by
  unfold wbit
  rw [bitW_toNat, Nat.testBit_two_pow, decide_eq_decide]
  exact ⟨Eq.symm, Eq.symm⟩
theorem go_bit (i : Nat) : IntKind.u64.wrap (2 ^ (i % 64)) = ((bitW i).toNat : Int) := by
  rw [bitW_toNat, IntKind.wrap_u64]
  have : 2 ^ (i % 64) < 2 ^ 64 := Nat.pow_lt_pow_right (by decide) (by omega)
  have e : (2 : Int) ^ (i % 64) = ((2 ^ (i % 64) : Nat) : Int) := by simp
  rw [e]
  generalize 2 ^ (i % 64) = p at *
  omega
theorem and_bit (x : UInt64) (i : Nat) : ((((x &&& bitW i).toNat : Int)) != 0) = wbit x (i % 64) := by
  have key : (x &&& bitW i = 0) ↔ wbit x (i % 64) = false := by
    constructor
    · intro h
      have := congrArg (fun y => wbit y (i % 64)) h
      simpa [wbit_and, wbit_bit, wbit_zero] using this
    · intro h
      apply word_ext
      intro j _
      rw [wbit_and, wbit_bit, wbit_zero]
      by_cases e : j = i % 64
      · subst e; rw [h]; rfl
      · simp [e]
  cases hb : wbit x (i % 64) with
  | false => rw [key.2 hb]; rfl
  | true =>
    have : (x &&& bitW i).toNat ≠ 0 := fun h => by
      have := key.1 (UInt64.toNat_inj.1 h)
      rw [hb] at this; cases this
    generalize (x &&& bitW i).toNat = y at *
    simp; omega
def ones (x : UInt64) : List Nat := elems (wbit x) 64
end Go.Proofs.Ytgegjoggiadgbaa
/-
  Shaken: what the claims of this seat need of this text. No condition.
-/
namespace Go.Proofs.Ytgegjoggiadgbaa
set_option maxRecDepth 8000
open Go.RowKit
def msk (b : Nat) : Nat → Nat
  | 0 => 0
  | n + 1 => b + 256 * msk b n
def p1 (n x : Nat) : Nat := (x / 2 &&& msk 85 n) + (x &&& msk 85 n)
def p2 (n x : Nat) : Nat := (x / 4 &&& msk 51 n) + (x &&& msk 51 n)
def p3 (n x : Nat) : Nat := (x / 16 + x) &&& msk 15 n
end Go.Proofs.Ytgegjoggiadgbaa
/-
  Shaken: what the claims of this seat need of this text. No condition.
-/
namespace Go.Proofs.Ytgegjoggiadgbaa
set_option maxRecDepth 8000
open Go.RowKit
theorem lowBits_any (c : Nat) (w : World) (_hc : c ≤ 9223372036854775807) :
    Calls Try.prog 58 #[.int .i64 (c : Int)] w fun e w' => e = .returned (.int .u64 ((lowW c).toNat : Int)) ∧ w = w' := by
  have H := hidden (go_low c)
  go_enter Try.func58, Try.ntmps58
  go_wp2
  go_ret
  exact ⟨retU H.out, rfl⟩
theorem bit_any (i : Nat) (w : World) (_hc : i ≤ 9223372036854775807) :
    Calls Try.prog 56 #[.int .i64 (i : Int)] w fun e w' => e = .returned (.int .u64 ((bitW i).toNat : Int)) ∧ w = w' := by
  have H := hidden (go_bit i)
  go_enter Try.func56, Try.ntmps56
  go_wp2
  go_ret
  exact ⟨retU H.out, rfl⟩
theorem wc_go (n : Nat) : ((n : Int) + 64 - 1) / 64 = ((nw n : Nat) : Int) := by unfold nw; omega
theorem wordCount_any (n : Nat) (w : World) (hc : n ≤ 1048576) :
    Calls Try.prog 57 #[.int .i64 (n : Int)] w fun e w' => e = .returned (.int .i64 ((nw n : Nat) : Int)) ∧ w = w' := by
  have H := hidden (wc_go n)
  go_enter Try.func57, Try.ntmps57
  go_wp2
  go_ret
  exact ⟨retU H.out, rfl⟩
def Tab (w : World) : Prop := TabAt 0 Lib.deBruijn64tab w
theorem Tab.grow {w w' : World} (h : Tab w) (hb : Grows w w') : Tab w' := fun j hj => by
  have h1 := h j hj
  exact (hb.cell (World.block_lt_of_cell? w _ h1)).trans h1
end Go.Proofs.Ytgegjoggiadgbaa
/-
  Shaken: what the claims of this seat need of this text. No condition.
-/
namespace Go.Proofs.Ytgegjoggiadgbaa
set_option maxRecDepth 8000
open Go.RowKit
set_option maxHeartbeats 400000 in
theorem new_any (n : Int) (w : World) (h63 : -9223372036854775808 ≤ n) (h64 : n ≤ 9223372036854775807) :
    Calls Try.prog 51 #[.int .i64 n] w (FreshSet (newN n) (pack (newN n) fun _ => false) w) := by
  by_cases hb : n < 0 ∨ 1048576 < n
  · have HN := hidden (newN_bad hb)
    have HP := hidden (pack_none 0)
    have HL := hidden (pack_length 0 fun _ => false)
    have HM := hidden (made_ucells 0)
    have hmk : ∀ W, (Instr.makeSlice 28 (.int .i64 0) (.int .i64 0)).run Try.prog W = .ok (.slice (some ⟨W.heap.size, 0, none⟩) 0 0) (W.alloc (.cells (madeCells #[.int .u64 0] 0) 53)) :=
      fun W => run_make_one (P := Try.prog) 28 53 (.int .u64 0) 8 Try.underlying28 info_u64 rfl 0 (by omega) (by omega) W
    have HWC := hidden (wordCount_any 0)
    have fin : FreshSet (newN n) (pack (newN n) fun _ => false) w (.returned (.agg #[.int .i64 0, .slice (some ⟨w.heap.size + 1, 0, none⟩) 0 0]))
        ((w.alloc (.cells #[.int .i64 0, .slice (some ⟨w.heap.size + 1, 0, none⟩) 0 0] 30)).alloc (.cells (madeCells #[.int .u64 0] 0) 53)) := by
      refine ⟨w.heap.size + 1, Nat.le_succ _, ?_, ?_, ((Below.refl _ _).alloc (Nat.le_refl _) _).alloc (by simp) _⟩
      · rw [HN.out, HL.out]; rfl
      · rw [HN.out, HP.out]; exact Row.at_ _ _ _ _ HM.out _ (by simp)
    have res : Row ((w.alloc (.cells #[.int .i64 0, .slice (some ⟨w.heap.size + 1, 0, none⟩) 0 0] 30)).alloc (.cells (madeCells #[.int .u64 0] 0) 53)) w.heap.size 30 [.int .i64 0, .slice (some ⟨w.heap.size + 1, 0, none⟩) 0 0] :=
      (Row.new w _ _ _ rfl).grow ((Below.refl _ _).alloc (Nat.le_refl _) _)
    have FIN := hidden fin
    have RES := hidden res
    clear fin res
    by_cases h0 : n < 0
    · have hd1 : decide (n < 0) = true := by simpa using h0
      clear hb
      go_enter Try.func51, Try.ntmps51
      go_wp2_with fail
      refine (HWC.out _ (by omega)).mono ?_
      rintro e w1 ⟨rfl, rfl⟩
      rw [show ((nw 0 : Nat) : Int) = 0 by rfl]
      go_wp2
      exact bodyPost_ret (results_set rfl _ _ _ _ _ rfl RES.out) rfl FIN.out
    · have hd1 : decide (n < 0) = false := by simpa using h0
      have hd3 : decide ((1048576 : Int) < n) = true := by simp; omega
      clear hb h0
      go_enter Try.func51, Try.ntmps51
      go_wp2_with fail
      refine (HWC.out _ (by omega)).mono ?_
      rintro e w1 ⟨rfl, rfl⟩
      rw [show ((nw 0 : Nat) : Int) = 0 by rfl]
      go_wp2
      exact bodyPost_ret (results_set rfl _ _ _ _ _ rfl RES.out) rfl FIN.out
  · obtain ⟨k, rfl⟩ := Int.eq_ofNat_of_zero_le (show 0 ≤ n by omega)
    have hk : k ≤ 1048576 := by omega
    have hnl : nw k ≤ 20000 := by unfold nw; omega
    have hmk := fun W => run_make_one (P := Try.prog) 28 53 (.int .u64 0) 8 Try.underlying28 info_u64 rfl (nw k) (by omega) (by omega) W
    have HN := hidden (newN_nat hk)
    have HP := hidden (pack_none k)
    have HM := hidden (made_ucells (nw k))
    have HL := hidden (pack_length k fun _ => false)
    have hd1 : decide ((k : Int) < 0) = false := by simp
    have hd2 : decide ((1048576 : Int) < (k : Int)) = false := by simp; omega
    have HWC := hidden (wordCount_any k)
    clear hb
    go_enter Try.func51, Try.ntmps51
    go_wp2_with fail
    refine (HWC.out _ hk).mono ?_
    rintro e w1 ⟨rfl, rfl⟩
    go_wp2
    refine bodyPost_ret (results_set rfl _ _ _ _ _ rfl ((Row.new w _ _ _ rfl).grow ((Below.refl _ _).alloc (Nat.le_refl _) _))) rfl ⟨w.heap.size + 1, Nat.le_succ _, ?_, ?_, ((Below.refl _ _).alloc (Nat.le_refl _) _).alloc (by simp) _⟩
    · rw [HN.out, HL.out]
    · rw [HN.out, HP.out]; exact Row.at_ _ _ _ _ HM.out _ (by simp)
theorem within_t (v : Value) (n i : Int) (w : World) (h0 : 0 ≤ i) (h1 : i < n) :
    Calls Try.prog 54 #[.agg #[.int .i64 n, v], .int .i64 i] w fun e w' => e = .returned (.bool true) ∧ Grows w w' := by
  have hG : ∀ o, Grows w (w.alloc o) := fun o => (Below.refl _ _).alloc (Nat.le_refl _) _
  have HG := hidden hG
  clear hG
  have hd1 : decide (0 ≤ i) = true := by simpa using h0
  have hd2 : decide (i < n) = true := by simpa using h1
  go_enter Try.func54, Try.ntmps54
  go_wp2
  go_ret
  exact ⟨rfl, HG.out _⟩
theorem within_f (v : Value) (n i : Int) (w : World) (h : i < 0 ∨ n ≤ i) :
    Calls Try.prog 54 #[.agg #[.int .i64 n, v], .int .i64 i] w fun e w' => e = .returned (.bool false) ∧ Grows w w' := by
  have hG : ∀ o, Grows w (w.alloc o) := fun o => (Below.refl _ _).alloc (Nat.le_refl _) _
  have HG := hidden hG
  clear hG
  by_cases h0 : i < 0
  · have hd1 : decide (0 ≤ i) = false := by simp; omega
    clear h
    go_enter Try.func54, Try.ntmps54
    go_wp2
    go_ret
    exact ⟨rfl, HG.out _⟩
  · have h1 : n ≤ i := by omega
    have hd1 : decide (0 ≤ i) = true := by simp; omega
    have hd2 : decide (i < n) = false := by simp; omega
    clear h
    go_enter Try.func54, Try.ntmps54
    go_wp2
    go_ret
    exact ⟨rfl, HG.out _⟩
theorem word_any (v n : Value) (ws : List UInt64) (k : Nat) (w : World) (hr : Reads w v (ucells ws)) (hl : ws.length ≤ 9223372036854775807) :
    Calls Try.prog 55 #[.agg #[n, v], .int .i64 (k : Int)] w fun e w' => e = .returned (.int .u64 ((wAt ws k).toNat : Int)) ∧ Grows w w' := by
  have hG : ∀ o, Grows w (w.alloc o) := fun o => (Below.refl _ _).alloc (Nat.le_refl _) _
  have HG := hidden hG
  obtain ⟨A, c, rfl, hle, hc⟩ := hr
  rw [ucells_length] at hle hc ⊢
  clear hG
  by_cases hk : k < ws.length
  · have HW := hidden (wAt_lt hk)
    obtain ⟨b, off, rfl, hcell⟩ := hc (by omega)
    have hcl := hcell k hk
    rw [ucells_get hk] at hcl
    clear hc hcell
    generalize ws[k] = x at *
    have hb := (HG.out (.cells #[n, .slice (some ⟨b, off, none⟩) ws.length c] 30)).cell (World.block_lt_of_cell? w _ hcl)
    rw [hcl] at hb
    have hd : decide (ws.length ≤ k) = false := by simp; omega
    go_enter Try.func55, Try.ntmps55
    go_wp2
    go_ret
    exact ⟨retU (by rw [HW.out]), HG.out _⟩
  · have hk' : ws.length ≤ k := by omega
    have HW := hidden (wAt_ge hk')
    have hd : decide (ws.length ≤ k) = true := by simpa using hk'
    clear hc
    go_enter Try.func55, Try.ntmps55
    go_wp2
    go_ret
    exact ⟨retU (by rw [HW.out]; rfl), HG.out _⟩
theorem contains_go {n : Nat} {ws : List UInt64} {k : Nat} (h : k < n) : ((((wAt ws (k / 64) &&& bitW k).toNat : Int)) != 0) = mem n ws k := by
  rw [and_bit, ← wmem_at ws (Nat.mod_lt _ (by decide)), show 64 * (k / 64) + k % 64 = k by omega]
  simp [mem, h]
set_option maxHeartbeats 400000 in
theorem ck_contains (s : Value) (n : Nat) (ws : List UInt64) (i : Int) (w : World) (hs : IsSet w s n ws) (ho : okW n ws) (_h63 : -9223372036854775808 ≤ i) (_h64 : i ≤ 9223372036854775807) :
    Calls Try.prog 32 #[s, .int .i64 i] w fun e w' => e = .returned (.bool (memI n ws i)) ∧ Grows w w' := by
  obtain ⟨v, rfl, hr, hn, hn2⟩ := hs
  have hwl : ws.length ≤ 9223372036854775807 := by rw [ho.1]; unfold nw; omega
  have HR := hidden hr
  obtain ⟨A, c, rfl, hle⟩ := hr.slice_
  have HG := hidden (show Grows w (w.alloc (.cells #[.int .i64 (n : Int), .slice A (ucells ws).length c] 30)) from (Below.refl _ _).alloc (Nat.le_refl _) _)
  clear hr hle
  generalize (ucells ws).length = L at *
  have hrow := Row.new w 30 #[.int .i64 (n : Int), .slice A L c] [.int .i64 (n : Int), .slice A L c] rfl
  have HRW := hidden hrow
  clear hrow
  by_cases hi : 0 ≤ i ∧ i < n
  · obtain ⟨k, rfl⟩ := Int.eq_ofNat_of_zero_le hi.1
    have hk : k < n := by omega
    have HM := hidden ((memI_nat n ws k).trans (contains_go (ws := ws) hk).symm)
    have HA := hidden (go_and (wAt ws (k / 64)) (bitW k))
    clear hi
    go_enter Try.func32, Try.ntmps32
    go_wp2_with fail
    refine (within_t _ _ _ _ (by omega) (by omega)).mono ?_
    rintro e w1 ⟨rfl, g1⟩
    have r1 := HRW.out.grow g1
    have c0 := r1.cell 0
    have c1 := r1.cell 1
    simp only [List.getElem?_cons_zero, List.getElem?_cons_succ] at c0 c1
    have HR1 := hidden (HR.out.grow (HG.out.of_below g1))
    have HG1 := hidden (HG.out.of_below g1)
    clear g1 r1
    go_wp2_with fail
    refine (word_any _ _ ws (k / 64) _ HR1.out hwl).mono ?_
    rintro e w2 ⟨rfl, g2⟩
    have HG2 := hidden (HG1.out.of_below g2)
    clear g2 c0 c1
    generalize wAt ws (k / 64) = x at *
    go_wp2_with fail
    refine (bit_any k _ (by omega)).mono ?_
    rintro e w3 ⟨rfl, rfl⟩
    generalize bitW k = y at *
    go_wp2
    go_ret
    exact ⟨retB (by rw [HM.out, ← HA.out]), HG2.out⟩
  · have HM : Hid (memI n ws i = false) := by
      show memI n ws i = false
      unfold memI mem
      by_cases h0 : 0 ≤ i
      · have : ¬ i.toNat < n := by omega
        simp [this]
      · simp [h0]
    have hi' : i < 0 ∨ (n : Int) ≤ i := by omega
    clear hi
    go_enter Try.func32, Try.ntmps32
    go_wp2_with fail
    refine (within_f _ _ _ _ hi').mono ?_
    rintro e w1 ⟨rfl, g1⟩
    have HG1 := hidden (HG.out.of_below g1)
    clear g1 hi'
    go_wp2
    go_ret
    exact ⟨retB (by rw [HM.out]), HG1.out⟩
end Go.Proofs.Ytgegjoggiadgbaa
