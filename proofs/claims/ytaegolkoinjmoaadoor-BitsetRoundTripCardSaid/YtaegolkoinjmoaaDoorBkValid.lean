/-
  bitset.Valid says of any pair of N and words whether it is a valid set; nothing that was there is changed.
-/
import Derived.Test.YtaegolkoinjmoaaDoorBkRank
namespace Go.Proofs.YtaegolkoinjmoaaDoor
open Go.RowKit

theorem wordCount_still (n : Nat) (w : World) (hc : n ≤ 1048576) : Calls Tryd.prog 46 #[.int .i64 (n : Int)] w fun e w' => e = .returned (.int .i64 ((nw n : Nat) : Int)) ∧ w' = w := (wordCount_any n w hc).mono fun _ _ h => ⟨h.1, h.2.symm⟩
theorem valid_last {m : Nat} {ws : List UInt64} (hl : ws.length = nw m) (hpos : 0 < ws.length) {p : Nat} (hp : p = m - 64 * (ws.length - 1)) :
    validI (m : Int) ws = ((((wAt ws (ws.length - 1) &&& ~~~lowW p).toNat : Int)) == 0) ∨ 1048576 < m := by
  by_cases hm : 1048576 < m
  · exact .inr hm
  refine .inl ?_
  have hK : ws.length - 1 = (m - 1) / 64 := by rw [hl]; unfold nw; omega
  have hm1 : 1 ≤ m := by rw [hl] at hpos; unfold nw at hpos; omega
  have key : okW m ws ↔ wAt ws (ws.length - 1) &&& ~~~lowW p = 0 := by
    constructor
    · intro ho
      apply word_ext
      intro j hj
      rw [wbit_andNot, wbit_low, wbit_zero, okW_bit ho hj]
      by_cases h1 : j < min p 64
      · simp [h1]
      · rw [mem_ge (by omega)]; rfl
    · intro hz
      refine ⟨hl, fun i hi => ?_⟩
      obtain ⟨q, r, hr, rfl⟩ : ∃ q r, r < 64 ∧ i = 64 * q + r := ⟨i / 64, i % 64, by omega, by omega⟩
      rw [wmem_at ws hr]
      by_cases hq : q = ws.length - 1
      · subst hq
        have := congrArg (fun y => wbit y r) hz
        simp only [wbit_andNot, wbit_low, wbit_zero] at this
        have h1 : ¬ r < min p 64 := by omega
        simpa [h1] using this
      · rw [wAt_ge (by omega), wbit_zero]
  by_cases hz : wAt ws (ws.length - 1) &&& ~~~lowW p = 0
  · rw [validI_t ⟨by omega, by omega, by rw [Int.toNat_natCast]; exact key.2 hz⟩, hz]; rfl
  · rw [validI_f fun h => hz (key.1 (by have := h.2.2; rwa [Int.toNat_natCast] at this))]
    have h1 : (wAt ws (ws.length - 1) &&& ~~~lowW p).toNat ≠ 0 := fun e => hz (UInt64.toNat_inj.1 e)
    generalize (wAt ws (ws.length - 1) &&& ~~~lowW p).toNat = y at *
    simp; omega

theorem q_add {P : Program} {f : FuncId} {args : Array Value} {w : World} {a n : Nat} {v : Value} (h : Calls P f args (w.drewN (a + n)) fun e w' => e = .returned v ∧ w' = w.drewN (a + n)) :
    Calls P f args (w.drewN (a + n)) fun e w'' => e = .returned v ∧ ∃ m, w'' = w.drewN (a + m) := h.mono fun _ _ ⟨he, hm⟩ => ⟨he, n, hm⟩

set_option maxHeartbeats 1000000 in
theorem ck_valid (s : Value) (n : Int) (ws : List UInt64) (w : World) (hs : IsPair w s n ws) (h63 : -9223372036854775808 ≤ n) (h64 : n ≤ 9223372036854775807) :
    Calls Tryd.prog 38 #[s] w fun e w' => e = .returned (.bool (validI n ws)) ∧ Grows w w' := by
  obtain ⟨v, rfl, hr, hla⟩ := hs
  have hr2 := hr
  obtain ⟨A, d, rfl, _⟩ := hr.slice_
  rw [ucells_length] at hr hr2 ⊢
  have HG := hidden (show ∀ o, Grows w (w.alloc o) from fun o => (Below.refl _ _).alloc (Nat.le_refl _) o)
  have HR := hidden hr2
  clear hr hr2
  by_cases h0 : n < 0
  · have HF := hidden (validI_f (ws := ws) (fun h : validP n ws => by have := h.1; omega))
    have hd : decide (n < 0) = true := by simpa using h0
    go_enter Tryd.func38, Tryd.ntmps38
    go_wp2_with fail
    go_quiet (fail)
    go_wp2
    go_ret
    exact ⟨retB (by rw [HF.out]), below_draws (HG.out _) _⟩
  · by_cases h1 : 1048576 < n
    · have HF := hidden (validI_f (ws := ws) (fun h : validP n ws => by have := h.2.1; omega))
      have hd1 : decide (n < 0) = false := by simpa using h0
      have hd : decide (1048576 < n) = true := by simpa using h1
      go_enter Tryd.func38, Tryd.ntmps38
      go_wp2_with fail
      go_quiet (fail)
      go_wp2
      go_ret
      exact ⟨retB (by rw [HF.out]), below_draws (HG.out _) _⟩
    · obtain ⟨m, rfl⟩ := Int.eq_ofNat_of_zero_le (show 0 ≤ n by omega)
      have hm : m ≤ 1048576 := by omega
      have hd1 : decide ((m : Int) < 0) = false := by simp
      have hd : decide (1048576 < (m : Int)) = false := by simp; omega
      by_cases hl : ws.length = nw m
      · have hne : ((ws.length : Int) != ((nw m : Nat) : Int)) = false := by simp; omega
        by_cases hpos : 0 < ws.length
        · obtain ⟨K, hK⟩ : ∃ K, K = ws.length - 1 := ⟨_, rfl⟩
          obtain ⟨p, hp⟩ : ∃ p, p = m - 64 * K := ⟨_, rfl⟩
          have HV : Hid (validI (m : Int) ws = ((((wAt ws K &&& ~~~lowW p).toNat : Int)) == 0)) := by
            show _ = _
            rcases valid_last hl hpos (p := p) (by rw [hp, hK]) with h | h
            · rw [hK]; exact h
            · omega
          have HA := hidden (go_andNot (wAt ws K) (lowW p))
          have hlt : K < ws.length := by omega
          obtain ⟨A', c', he, _, hcell⟩ := HR.out.grow (HG.out (.cells #[.int .i64 (m : Int), .slice A ws.length d] 26))
          rw [ucells_length] at he hcell
          injection he with e1 e2 e3
          subst e1 e3
          obtain ⟨b, off, rfl, hx⟩ := hcell (by omega)
          have hcl := hx K hlt
          rw [ucells_get hlt, ← wAt_lt hlt] at hcl
          have HKK := hidden (show (ws.length : Int) - 1 = (K : Int) by omega)
          have hnl : ws.length ≤ 20000 := by rw [hl]; unfold nw; omega
          have hKb : K ≤ 20000 := by omega
          have hpb : p ≤ 9223372036854775807 := by omega
          have E1 := hidden (show IntKind.i64.wrap (64 * (K : Int)) = 64 * (K : Int) by rw [IntKind.wrap_i64]; omega)
          have E2 := hidden (show IntKind.i64.wrap ((m : Int) - 64 * (K : Int)) = (p : Int) by rw [IntKind.wrap_i64]; unfold nw at hl; omega)
          clear hx hcell e2 hK hp hl h0 h1 hpos
          generalize wAt ws K = x at *
          go_enter Tryd.func38, Tryd.ntmps38
          go_wp2_with fail
          go_quiet ((go_at_call 46; exact Calls.quiet_of_same (wordCount_still m _ hm)))
          go_wp2_with fail
          rw [HKK.out]
          have hd0 : decide ((K : Int) < 0) = false := by simp
          go_wp2_with fail
          have e1 := E1.out
          have e2 := E2.out
          have b0 : (0 : Int) ≤ (K : Int) := by omega
          have b1 : (K : Int) < (ws.length : Int) := by omega
          go_quiet ((go_at_call 53; exact q_add (lowBits_still p _ hpb)))
          clear e1 e2 b0 b1
          go_wp2
          go_ret
          exact ⟨retB (by rw [HV.out, ← HA.out]), below_draws (below_draws (HG.out _) _) _⟩
        · have h00 : ws.length = 0 := by omega
          have hm0 : m = 0 := by rw [h00] at hl; unfold nw at hl; omega
          have HT := hidden (validI_t (n := (m : Int)) (ws := ws) ⟨by omega, by omega, by rw [Int.toNat_natCast]; exact okW_even (by omega) hl⟩)
          have HKK := hidden (show (ws.length : Int) - 1 = -1 by omega)
          have hd0 : decide ((-1 : Int) < 0) = true := by decide
          have hnl : ws.length ≤ 20000 := by omega
          clear hl h0 h1 hpos h00 hm0
          go_enter Tryd.func38, Tryd.ntmps38
          go_wp2_with fail
          go_quiet ((go_at_call 46; exact Calls.quiet_of_same (wordCount_still m _ hm)))
          go_wp2_with fail
          rw [HKK.out]
          go_quiet (fail)
          go_wp2
          go_ret
          exact ⟨retB (by rw [HT.out]), below_draws (below_draws (HG.out _) _) _⟩
      · have HF := hidden (validI_f (n := (m : Int)) (ws := ws) (fun h => hl (by have := h.2.2.1; rwa [Int.toNat_natCast] at this)))
        have hne : ((ws.length : Int) != ((nw m : Nat) : Int)) = true := by simp; omega
        clear hl h0 h1
        go_enter Tryd.func38, Tryd.ntmps38
        go_wp2_with fail
        go_quiet ((go_at_call 46; exact Calls.quiet_of_same (wordCount_still m _ hm)))
        go_wp2
        go_ret
        exact ⟨retB (by rw [HF.out]), below_draws (HG.out _) _⟩
end Go.Proofs.YtaegolkoinjmoaaDoor
