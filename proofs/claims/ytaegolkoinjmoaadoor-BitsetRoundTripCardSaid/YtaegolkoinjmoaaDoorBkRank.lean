/-
  bitset.Rank and Count: for every valid set; nothing that was there is changed.
-/
import Derived.Test.YtaegolkoinjmoaaDoorBkOf
namespace Go.Proofs.YtaegolkoinjmoaaDoor
open Go.RowKit

theorem cnt_over {f : Nat → Bool} {n : Nat} (h : ∀ i, n ≤ i → f i = false) : ∀ m, cnt f m = cnt f (min n m)
  | 0 => by simp
  | m + 1 => by
    by_cases e : n ≤ m
    · rw [cnt, cnt_over h m, h m e, show min n (m + 1) = min n m by omega]; simp
    · rw [show min n (m + 1) = m + 1 by omega]
theorem cnt_cut {g : Nat → Bool} {m : Nat} : ∀ {n}, m ≤ n → cnt (fun j => g j && decide (j < m)) n = cnt g m
  | 0, h => by obtain rfl : m = 0 := by omega
               rfl
  | n + 1, h => by
    by_cases e : m = n + 1
    · subst e
      exact cnt_congr fun i hi => by simp [hi]
    · rw [cnt, cnt_cut (n := n) (by omega)]
      have : ¬ n < m := by omega
      simp [this]
theorem rank_word {n : Nat} {ws : List UInt64} (ho : okW n ws) {k I c : Nat} (hc : c = I - 64 * k) (hI : 64 * k < I) :
    cnt (mem n ws) (min (64 * (k + 1)) I) = cnt (mem n ws) (min (64 * k) I) + cnt (wbit (wAt ws k &&& lowW c)) 64 := by
  rw [show min (64 * k) I = 64 * k by omega, show min (64 * (k + 1)) I = 64 * k + min c 64 by omega, cnt_split]
  congr 1
  have h1 : cnt (wbit (wAt ws k &&& lowW c)) 64 = cnt (fun j => wbit (wAt ws k) j && decide (j < min c 64)) 64 := cnt_congr fun i _ => by rw [wbit_and, wbit_low]
  have h2 : cnt (fun j => wbit (wAt ws k) j && decide (j < min c 64)) 64 = cnt (wbit (wAt ws k)) (min c 64) := cnt_cut (by omega)
  rw [h1, h2]
  exact cnt_congr fun i hi => (okW_bit ho (by omega)).symm
theorem rank_end {n : Nat} {ws : List UInt64} {i : Int} {m : Nat} (h : min n m = min n i.toNat) : cnt (mem n ws) m = rankI n (mem n ws) i := by
  unfold rankI
  rw [cnt_over (n := n) (fun i hi => mem_ge hi) m, h]
def RkRel (n : Nat) (ws : List UInt64) (i : Int) (r k : Value) : Prop :=
  ∃ j : Nat, j ≤ ws.length ∧ k = .int .i64 (j : Int) ∧ r = .int .i64 (cnt (mem n ws) (min (64 * j) i.toNat) : Int)

set_option maxHeartbeats 1000000 in
theorem ck_rank (s : Value) (n : Nat) (ws : List UInt64) (i : Int) (w : World) (hs : IsSet w s n ws) (ho : okW n ws) (h63 : -9223372036854775808 ≤ i) (h64 : i ≤ 9223372036854775807) :
    Calls Tryd.prog 22 #[s, .int .i64 i] w fun e w' => e = .returned (.int .i64 (rankI n (mem n ws) i : Int)) ∧ Grows w w' := by
  obtain ⟨v, rfl, hr, hn, hn2⟩ := hs
  have hL : ws.length ≤ 20000 := by rw [ho.1]; unfold nw; omega
  have HNL := hidden (show n ≤ 64 * ws.length from hn)
  have HG := hidden (show ∀ o, Grows w (w.alloc o) from fun o => (Below.refl _ _).alloc (Nat.le_refl _) _)
  have HR := hidden hr
  have HO := hidden ho
  obtain ⟨A, c, rfl, hle⟩ := hr.slice_
  rw [ucells_length] at HR hle ⊢
  clear hr ho hn
  go_enter Tryd.func22, Tryd.ntmps22
  go_wp2_with fail
  go_loop [5, 11] (fun r k => RkRel n ws i r k) (fun _ k => ws.length - (intOf k).toNat)
  case atStart => exact ⟨0, Nat.zero_le _, rfl, by simp [cnt]⟩
  case round =>
    obtain ⟨k, hk, rfl, rfl⟩ := hrel
    have hcb : cnt (mem n ws) (min (64 * k) i.toNat) ≤ 64 * k := Nat.le_trans (cnt_le _ _) (by omega)
    by_cases hlt : k < ws.length
    · obtain ⟨A', c', he, _, hcell⟩ := HR.out.grow (HG.out (.cells #[.int .i64 (n : Int), .slice A ws.length c] 26))
      rw [ucells_length] at he hcell
      injection he with e1 e2 e3
      subst e1 e3
      obtain ⟨b, off, rfl, hcell2⟩ := hcell (by omega)
      have hcw := hcell2 k hlt
      rw [ucells_get hlt, ← wAt_lt hlt] at hcw
      clear hcell hcell2 e2
      by_cases hi : i ≤ 64 * (k : Int)
      · have HE := hidden (rank_end (n := n) (ws := ws) (i := i) (m := min (64 * k) i.toNat) (by omega))
        have hd : decide (i ≤ 64 * (k : Int)) = true := by simpa using hi
        generalize cnt (mem n ws) (min (64 * k) i.toNat) = r at *
        generalize wAt ws k = x at *
        go_wp2
        go_ret
        exact ⟨retU (by rw [HE.out]), HG.out _⟩
      · obtain ⟨I, rfl⟩ := Int.eq_ofNat_of_zero_le (show 0 ≤ i by omega)
        have hi2 : 64 * k < I := by omega
        have hd : decide ((I : Int) ≤ 64 * (k : Int)) = false := by simp; omega
        obtain ⟨p, hp⟩ : ∃ p, p = I - 64 * k := ⟨_, rfl⟩
        have HP := hidden (show (I : Int) - 64 * (k : Int) = (p : Int) by omega)
        have hpb : p ≤ 9223372036854775807 := by omega
        have HW := hidden (rank_word HO.out hp hi2)
        have HA := hidden (go_and (wAt ws k) (lowW p))
        rw [Int.toNat_natCast] at hcb ⊢
        have hpop : cnt (wbit (wAt ws k &&& lowW p)) 64 ≤ 64 := cnt_le _ _
        have HPOP := hidden (onesCount_any (wAt ws k &&& lowW p))
        clear hp hi
        generalize cnt (mem n ws) (min (64 * k) I) = r at *
        generalize wAt ws k = x at *
        go_wp2_with fail
        rw [HP.out]
        refine (lowBits_any p _ hpb).mono ?_
        rintro e w1 ⟨rfl, rfl⟩
        go_wp2_with fail
        rw [HA.out]
        refine (HPOP.out _).mono ?_
        rintro e w1 ⟨rfl, rfl⟩
        generalize cnt (wbit (x &&& lowW p)) 64 = q at *
        go_wp2
        go_round
        case rel => exact ⟨k + 1, by omega, by go_num, by rw [Int.toNat_natCast, HW.out]; go_num⟩
        case measure => simp [intOf]; omega
    · have hke : k = ws.length := by omega
      have HE := hidden (rank_end (n := n) (ws := ws) (i := i) (m := min (64 * k) i.toNat) (by have := HNL.out; omega))
      have hd : decide (k < ws.length) = false := by simp; omega
      clear hke hlt
      generalize cnt (mem n ws) (min (64 * k) i.toNat) = r at *
      go_wp2
      go_ret
      exact ⟨retU (by rw [HE.out]), HG.out _⟩
theorem rank_all (n : Nat) (f : Nat → Bool) : rankI n f (n : Int) = cnt f n := by unfold rankI; rw [Int.toNat_natCast, Nat.min_self]
theorem ck_count (s : Value) (n : Nat) (ws : List UInt64) (w : World) (hs : IsSet w s n ws) (ho : okW n ws) :
    Calls Tryd.prog 20 #[s] w fun e w' => e = .returned (.int .i64 (cnt (mem n ws) n : Int)) ∧ Grows w w' := by
  have HS := hidden hs
  obtain ⟨v, rfl, hr, hn, hn2⟩ := hs
  obtain ⟨A, c, rfl, hle⟩ := hr.slice_
  rw [ucells_length] at HS hle hr ⊢
  have HG := hidden (show Grows w (w.alloc (.cells #[.int .i64 (n : Int), .slice A ws.length c] 26)) from (Below.refl _ _).alloc (Nat.le_refl _) _)
  have HO := hidden ho
  have HRA := hidden (rank_all n (mem n ws))
  clear hr hle ho
  go_enter Tryd.func20, Tryd.ntmps20
  go_wp2_with fail
  refine (ck_rank _ n ws (n : Int) _ (HS.out.grow HG.out) HO.out (by omega) (by omega)).mono ?_
  rintro e w1 ⟨rfl, g1⟩
  have HG1 := hidden (HG.out.of_below g1)
  rw [HRA.out]
  clear g1
  go_wp2
  go_ret
  exact ⟨rfl, HG1.out⟩
end Go.Proofs.YtaegolkoinjmoaaDoor
