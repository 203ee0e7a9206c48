/-
  bitset.Select: for every valid set, where the table of math/bits lies as the program lays it; nothing that was there is changed.
-/
import Derived.Test.YtaegolkoinjmoaaDoorBkRank
import Derived.Test.YtaegolkoinjmoaaDoorBkAll
namespace Go.Proofs.YtaegolkoinjmoaaDoor
open Go.RowKit

theorem ones_get {x : UInt64} {k r : Nat} (h : (ones x)[k]? = some r) : lowest (dropN x k) = r ∧ k < 64 := by
  have hl := ones_length_le x
  obtain ⟨hk, he⟩ := List.getElem?_eq_some_iff.1 h
  exact ⟨(ones_at hk).2.trans he, by omega⟩
set_option maxHeartbeats 400000 in
theorem selectBit_any (x : UInt64) (k r : Nat) (w : World) (hr : lowest (dropN x k) = r) (hk64 : k < 64) (hT : Tab w) :
    Calls Tryd.prog 54 #[.int .u64 (x.toNat : Int), .int .i64 (k : Int)] w fun e w' => e = .returned (.int .i64 (r : Int)) ∧ w = w' := by
  have HR := hidden hr
  have HT := hidden hT
  have H0 := hidden (show dropN x 0 = x from rfl)
  clear hr hT
  have hx0 : (x.toNat : Int) = ((dropN x 0).toNat : Int) := by rw [H0.out]
  rw [hx0]
  have HX := hidden hx0
  clear hx0
  go_enter Tryd.func54, Tryd.ntmps54
  go_wp2_with fail
  go_loop [0, 6] (fun v i => ∃ j : Nat, j ≤ k ∧ i = .int .i64 (j : Int) ∧ v = .int .u64 ((dropN x j).toNat : Int)) (fun _ i => k - (intOf i).toNat)
  case atStart => exact ⟨0, Nat.zero_le _, rfl, rfl⟩
  case round =>
    obtain ⟨j, hj, rfl, rfl⟩ := hrel
    by_cases hlt : j < k
    · have HD := hidden (go_drop_any (dropN x j))
      have HS := hidden (show dropN x (j + 1) = dropLow (dropN x j) from rfl)
      generalize dropN x j = y at *
      go_wp2
      go_round
      case rel => exact ⟨j + 1, by omega, by go_num, by rw [HS.out, ← HD.out]⟩
      case measure => simp [intOf]; omega
    · obtain rfl : j = k := by omega
      have HTZ := hidden (tz_any (dropN x j))
      generalize dropN x j = y at *
      have hd : decide (j < j) = false := by simp
      go_wp2_with fail
      refine (HTZ.out w HT.out).mono ?_
      rintro e w1 ⟨rfl, rfl⟩
      go_wp2
      go_ret
      exact ⟨retU (by rw [HR.out]), rfl⟩

theorem sel_hit {n : Nat} {ws : List UInt64} (ho : okW n ws) {j K c r : Nat} (hj : j < ws.length) (hc : cnt (mem n ws) (64 * j) = c) (hcK : c ≤ K) (h : (ones (wAt ws j))[K - c]? = some r) :
    selI n (mem n ws) (K : Int) = 64 * (j : Int) + (r : Int) := by
  have h1 : (elems (mem n ws) (64 * (j + 1)))[K]? = some (64 * j + r) := by
    rw [elems_word ho, List.getElem?_append_right (by rw [elems_length, hc]; exact hcK), elems_length, hc, List.getElem?_map, h]
    rfl
  have h2 : elems (mem n ws) (64 * (j + 1)) <+: elems (mem n ws) n := by
    rw [← elems_words ho]; exact elems_mono _ (by omega)
  obtain ⟨t, ht⟩ := h2
  have hl : K < (elems (mem n ws) (64 * (j + 1))).length := (List.getElem?_eq_some_iff.1 h1).1
  have h3 : (elems (mem n ws) n)[K]? = some (64 * j + r) := by rw [← ht, List.getElem?_append_left hl]; exact h1
  unfold selI
  rw [if_pos (by omega), Int.toNat_natCast, h3]
  simp
theorem sel_more {n : Nat} {ws : List UInt64} (ho : okW n ws) (j : Nat) : cnt (mem n ws) (64 * (j + 1)) = cnt (mem n ws) (64 * j) + (ones (wAt ws j)).length := by
  rw [← elems_length, elems_word ho, List.length_append, List.length_map, elems_length]
theorem sel_miss {n : Nat} {ws : List UInt64} (ho : okW n ws) {K : Nat} (h : cnt (mem n ws) (64 * ws.length) ≤ K) : selI n (mem n ws) (K : Int) = -1 := by
  refine selI_out ?_
  rw [← elems_words ho, elems_length]; exact h
def SelRel (n : Nat) (ws : List UInt64) (K : Nat) (k i : Value) : Prop :=
  ∃ j c : Nat, j ≤ ws.length ∧ cnt (mem n ws) (64 * j) = c ∧ c ≤ K ∧ i = .int .i64 (j : Int) ∧ k = .int .i64 ((K : Int) - (c : Int))

set_option maxHeartbeats 1000000 in
theorem ck_select (s : Value) (n : Nat) (ws : List UInt64) (k : Int) (w : World) (hs : IsSet w s n ws) (ho : okW n ws) (hT : Tab w) (h63 : -9223372036854775808 ≤ k) (h64 : k ≤ 9223372036854775807) :
    Calls Tryd.prog 24 #[s, .int .i64 k] w fun e w' => e = .returned (.int .i64 (selI n (mem n ws) k)) ∧ Grows w w' := by
  obtain ⟨v, rfl, hr, hn, hn2⟩ := hs
  have hL : ws.length ≤ 20000 := by rw [ho.1]; unfold nw; omega
  have HG := hidden (show ∀ o, Grows w (w.alloc o) from fun o => (Below.refl _ _).alloc (Nat.le_refl _) _)
  have HR := hidden hr
  have HO := hidden ho
  have HT := hidden hT
  obtain ⟨A, c, rfl, hle⟩ := hr.slice_
  rw [ucells_length] at HR hle ⊢
  clear hr ho hn hT
  by_cases hk0 : k < 0
  · have HN := hidden (selI_neg (n := n) (f := mem n ws) hk0)
    have hd : decide (k < 0) = true := by simpa using hk0
    go_enter Tryd.func24, Tryd.ntmps24
    go_wp2
    go_ret
    exact ⟨retU (by rw [HN.out]), HG.out _⟩
  · obtain ⟨K, rfl⟩ := Int.eq_ofNat_of_zero_le (show 0 ≤ k by omega)
    have hd : decide ((K : Int) < 0) = false := by simp
    clear hk0
    go_enter Tryd.func24, Tryd.ntmps24
    go_wp2_with fail
    go_loop [1, 13] (fun k i => SelRel n ws K k i) (fun _ i => ws.length - (intOf i).toNat)
    case atStart => exact ⟨0, 0, Nat.zero_le _, rfl, Nat.zero_le _, rfl, by simp⟩
    case round =>
      obtain ⟨j, c1, hj, hc1, hcK, rfl, rfl⟩ := hrel
      by_cases hlt : j < ws.length
      · obtain ⟨A', c', he, _, hcell⟩ := HR.out.grow (HG.out (.cells #[.int .i64 (n : Int), .slice A ws.length c] 26))
        rw [ucells_length] at he hcell
        injection he with e1 e2 e3
        subst e1 e3
        obtain ⟨b, off, rfl, hcell2⟩ := hcell (by omega)
        have hcw := hcell2 j hlt
        rw [ucells_get hlt, ← wAt_lt hlt] at hcw
        clear hcell hcell2 e2
        have HPOP := hidden (onesCount_any (wAt ws j))
        have HC1 := hidden hc1
        obtain ⟨q, hq⟩ : ∃ q, q = cnt (wbit (wAt ws j)) 64 := ⟨_, rfl⟩
        have hql : (ones (wAt ws j)).length = q := by rw [hq]; exact elems_length _ _
        have hq64 : q ≤ 64 := by rw [← hql]; exact ones_length_le _
        rw [← hq] at HPOP
        clear hq hc1
        by_cases hin : K - c1 < q
        · obtain ⟨r, hr⟩ : ∃ r, (ones (wAt ws j))[K - c1]? = some r := by
            rw [← hql] at hin
            exact ⟨_, List.getElem?_eq_getElem hin⟩
          have HS := hidden (sel_hit HO.out hlt HC1.out hcK hr)
          obtain ⟨hlow, hk64⟩ := ones_get hr
          have hr64 : r ≤ 64 := by
            have := elems_lt (f := wbit (wAt ws j)) (n := 64) r (List.mem_of_getElem? hr)
            omega
          obtain ⟨m, hm⟩ : ∃ m, m = K - c1 := ⟨_, rfl⟩
          have HM := hidden (show (K : Int) - (c1 : Int) = (m : Int) by omega)
          have HSB := hidden (selectBit_any (wAt ws j) m r)
          rw [← hm] at hlow hk64
          have HLOW := hidden hlow
          have hd2 : decide (m < q) = true := by simp; omega
          clear hr hql hm hin hlow
          generalize wAt ws j = x at *
          rw [HM.out]
          go_wp2_with fail
          refine (HPOP.out _).mono ?_
          rintro e w1 ⟨rfl, rfl⟩
          go_wp2_with fail
          refine (HSB.out _ HLOW.out hk64 (HT.out.grow (HG.out _))).mono ?_
          rintro e w1 ⟨rfl, rfl⟩
          go_wp2
          go_ret
          exact ⟨retU (by rw [HS.out]), HG.out _⟩
        · have HMORE := hidden (sel_more HO.out j)
          have HQL := hidden hql
          have hd2 : decide ((K : Int) - (c1 : Int) < (q : Int)) = false := by simp; omega
          have hb : (0 : Int) ≤ (K : Int) - (c1 : Int) := by omega
          clear hql
          generalize wAt ws j = x at *
          go_wp2_with fail
          refine (HPOP.out _).mono ?_
          rintro e w1 ⟨rfl, rfl⟩
          go_wp2
          go_round
          case rel => exact ⟨j + 1, c1 + q, by omega, by rw [HMORE.out, HC1.out, HQL.out], by omega, by go_num, by go_num⟩
          case measure => simp [intOf]; omega
      · have hje : j = ws.length := by omega
        have HE := hidden (sel_miss HO.out (K := K) (by rw [← hje, hc1]; exact hcK))
        have hd2 : decide (j < ws.length) = false := by simp; omega
        clear hje hc1 hlt
        go_wp2
        go_ret
        exact ⟨retU (by rw [HE.out]), HG.out _⟩
end Go.Proofs.YtaegolkoinjmoaaDoor
