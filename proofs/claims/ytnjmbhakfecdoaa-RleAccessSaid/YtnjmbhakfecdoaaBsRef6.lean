/-
  The reference's Not, Equal, Valid and Of return what the document says; nothing that was there is changed.
-/
import Derived.Test.YtnjmbhakfecdoaaBsRef5
import Derived.Deep.QuietTactic
import Derived.BigQuiet
namespace Go.Proofs.Ytnjmbhakfecdoaa
open Go.RowKit

theorem below_draws {B : Nat} {a w : World} (h : Below B a w) (n : Nat) : Below B a (w.drewN n) := h.trans ⟨rfl, rfl, rfl, Nat.le_refl _, fun _ _ => rfl⟩

def NotRel (w : World) (n : Nat) (v : Value) (f : Nat → Bool) (k : Value) (wr : World) : Prop :=
  ∃ j : Nat, j ≤ n ∧ k = .int .i64 j ∧ Row wr w.heap.size 39 [.int .i64 (n : Int), v] ∧ Row wr (w.heap.size + 1) 39 [.int .i64 0, .slice none 0 0] ∧
    Row wr (w.heap.size + 2) 4 (tcells (bitsOf (upto f j) n)) ∧ Below w.heap.size w wr

/-- any pair of N and words -/
def IsPair (w : World) (s : Value) (n : Int) (ws : List UInt64) : Prop := ∃ v, s = .agg #[.int .i64 n, v] ∧ Reads w v (ucells ws) ∧ ws.length ≤ 9223372036854775807
theorem IsPair.grow {w w' : World} {s : Value} {n : Int} {ws : List UInt64} (h : IsPair w s n ws) (hb : Grows w w') : IsPair w' s n ws := by
  obtain ⟨v, h1, h2, h3⟩ := h
  exact ⟨v, h1, h2.grow hb, h3⟩
theorem IsSet.pair {w : World} {s : Value} {n : Nat} {ws : List UInt64} (h : IsSet w s n ws) (hl : ws.length ≤ 9223372036854775807) : IsPair w s (n : Int) ws := by
  obtain ⟨v, h1, h2, _⟩ := h
  exact ⟨v, h1, h2, hl⟩

def pairEq (na nb : Int) (wa wb : List UInt64) : Bool := decide (na = nb ∧ wa = wb)
theorem pairEq_f {na nb : Int} {wa wb : List UInt64} (h : ¬ (na = nb ∧ wa = wb)) : pairEq na nb wa wb = false := by unfold pairEq; simpa using h
theorem pairEq_t {na nb : Int} {wa wb : List UInt64} (h : na = nb ∧ wa = wb) : pairEq na nb wa wb = true := by unfold pairEq; simpa using h

def EqRel (w : World) (na nb : Int) (va vb : Value) (wa wb : List UInt64) (k : Value) (wr : World) : Prop :=
  ∃ j : Nat, j ≤ wa.length ∧ k = .int .i64 j ∧ wa.take j = wb.take j ∧ Row wr w.heap.size 39 [.int .i64 na, va] ∧ Row wr (w.heap.size + 1) 39 [.int .i64 nb, vb] ∧ Below w.heap.size w wr

/-- what Valid says -/
def validP (n : Int) (ws : List UInt64) : Prop := 0 ≤ n ∧ n ≤ 1048576 ∧ okW n.toNat ws
open Classical in
noncomputable def validI (n : Int) (ws : List UInt64) : Bool := decide (validP n ws)
theorem validI_t {n : Int} {ws : List UInt64} (h : validP n ws) : validI n ws = true := by unfold validI; simpa using h
theorem validI_f {n : Int} {ws : List UInt64} (h : ¬ validP n ws) : validI n ws = false := by unfold validI; simpa using h
theorem validI_iff {n : Int} {ws : List UInt64} : validI n ws = true ↔ validP n ws := by unfold validI; simp
theorem okW_even {n : Nat} {ws : List UInt64} (h : n % 64 = 0) (hl : ws.length = nw n) : okW n ws := by
  refine ⟨hl, fun i hi => ?_⟩
  unfold wmem
  rw [List.getElem?_eq_none (by rw [hl]; unfold nw; omega)]
theorem okW_last {n : Nat} {ws : List UInt64} (h : n % 64 ≠ 0) (hl : ws.length = nw n) (hlt : ws.length - 1 < ws.length) : okW n ws ↔ ws[ws.length - 1].toNat / 2 ^ (n % 64) = 0 := by
  have hk : ws.length - 1 = n / 64 := by rw [hl]; unfold nw; omega
  have hm : ∀ j, j < 64 → wmem ws (64 * (n / 64) + j) = wbit ws[ws.length - 1] j := by
    intro j hj
    unfold wmem
    rw [show (64 * (n / 64) + j) / 64 = n / 64 by omega, show (64 * (n / 64) + j) % 64 = j by omega, ← hk, List.getElem?_eq_getElem hlt]
  constructor
  · intro ho
    apply Nat.eq_of_testBit_eq
    intro j
    rw [Nat.testBit_div_two_pow, Nat.zero_testBit]
    by_cases hj : j + n % 64 < 64
    · have := ho.2 (64 * (n / 64) + (j + n % 64)) (by omega)
      rw [hm _ hj] at this
      exact this
    · exact wbit_ge (w := ws[ws.length - 1]) (by omega)
  · intro hz
    refine ⟨hl, fun i hi => ?_⟩
    by_cases hi2 : i / 64 = n / 64
    · have e : i = 64 * (n / 64) + i % 64 := by omega
      rw [e, hm _ (by omega)]
      have h1 := congrArg (fun x => x.testBit (i % 64 - n % 64)) hz
      simp only [Nat.testBit_div_two_pow, Nat.zero_testBit] at h1
      rw [show i % 64 - n % 64 + n % 64 = i % 64 by omega] at h1
      exact h1
    · unfold wmem
      rw [List.getElem?_eq_none (by rw [hl]; unfold nw; omega)]

set_option maxHeartbeats 1000000 in
theorem rvalid_any (s : Value) (n : Int) (ws : List UInt64) (w : World) (hs : IsPair w s n ws) (h63 : -9223372036854775808 ≤ n) (h64 : n ≤ 9223372036854775807) :
    Calls Try.prog 29 #[s] w fun e w' => e = .returned (.bool (validI n ws)) ∧ Grows w w' := by
  obtain ⟨v, rfl, hr, hla⟩ := hs
  have hr2 := hr
  obtain ⟨A, d, rfl, _⟩ := hr.slice_
  rw [ucells_length] at hr hr2 ⊢
  have hG : ∀ o, Grows w (w.alloc o) := fun o => (Below.refl _ _).alloc (Nat.le_refl _) o
  have HG := hidden hG
  have HR := hidden hr2
  clear hr hr2 hG
  by_cases h0 : n < 0
  · have HF := hidden (validI_f (ws := ws) (fun h : validP n ws => by have := h.1; omega))
    have hd : decide (n < 0) = true := by simpa using h0
    go_enter Try.func29, Try.ntmps29
    go_wp2
    go_ret
    exact ⟨retB (by rw [HF.out]), HG.out _⟩
  · by_cases h1 : 1048576 < n
    · have HF := hidden (validI_f (ws := ws) (fun h : validP n ws => by have := h.2.1; omega))
      have hd1 : decide (n < 0) = false := by simpa using h0
      have hd : decide (1048576 < n) = true := by simpa using h1
      go_enter Try.func29, Try.ntmps29
      go_wp2
      go_ret
      exact ⟨retB (by rw [HF.out]), HG.out _⟩
    · obtain ⟨m, rfl⟩ := Int.eq_ofNat_of_zero_le (show 0 ≤ n by omega)
      have hm : m ≤ 1048576 := by omega
      have hnw := nw_cast m
      by_cases hl : ws.length = nw m
      · have hne : ((ws.length : Int) != ((nw m : Nat) : Int)) = false := by simp; omega
        by_cases hz : m % 64 = 0
        · have HT := hidden (validI_t (n := (m : Int)) (ws := ws) ⟨by omega, by omega, by rw [Int.toNat_natCast]; exact okW_even hz hl⟩)
          have hz2 : ((m : Int) % 64 == 0) = true := by simp; omega
          clear hz hl h0 h1
          go_enter Try.func29, Try.ntmps29
          go_wp2_with fail
          go_quiet (fail)
          go_wp2
          go_ret
          exact ⟨retB (by rw [HT.out]), below_draws (HG.out _) _⟩
        · have hpos : 0 < ws.length := by rw [hl]; unfold nw; omega
          have hlt : ws.length - 1 < ws.length := by omega
          obtain ⟨A', c', he, _, hcell⟩ := HR.out.grow (HG.out (.cells #[.int .i64 (m : Int), .slice A ws.length d] 39))
          injection he with e1 e2 e3
          subst e1 e3
          obtain ⟨b, off, rfl, hx⟩ := hcell (by rw [ucells_length]; omega)
          have hcl := hx (ws.length - 1) (by rw [ucells_length]; omega)
          rw [ucells_get hlt] at hcl
          have hz2 : ((m : Int) % 64 == 0) = false := by simp; omega
          have hsub : (ws.length : Int) - 1 = ((ws.length - 1 : Nat) : Int) := by omega
          have HOK := hidden (okW_last hz hl hlt)
          have hxb : ws[ws.length - 1].toNat < 18446744073709551616 := ws[ws.length - 1].toNat_lt
          have HV : Hid (validI (m : Int) ws = decide (ws[ws.length - 1].toNat / 2 ^ (m % 64) = 0)) := by
            show _ = _
            by_cases hq : ws[ws.length - 1].toNat / 2 ^ (m % 64) = 0
            · rw [validI_t ⟨by omega, by omega, by rw [Int.toNat_natCast]; exact HOK.out.2 hq⟩]; simp [hq]
            · rw [validI_f (fun h => hq (HOK.out.1 (by have := h.2.2; rwa [Int.toNat_natCast] at this)))]; simp [hq]
          have HLN : Hid (ws.length - 1 < ws.length) := hlt
          clear hz hl h0 h1 hx hcell e2 HOK
          generalize ws[ws.length - 1].toNat = x at *
          have HD : Hid (((x : Int) / 2 ^ (m % 64) == 0) = decide (x / 2 ^ (m % 64) = 0)) := by
            show _ = _
            have e : ((x : Int) / 2 ^ (m % 64)) = ((x / 2 ^ (m % 64) : Nat) : Int) := by simp
            rw [e]
            generalize x / 2 ^ (m % 64) = y
            by_cases hy : y = 0
            · subst hy; rfl
            · have h1 : ((y : Int) == 0) = false := by simp; omega
              rw [h1]; simp [hy]
          go_enter Try.func29, Try.ntmps29
          go_wp2_with fail
          go_quiet (fail)
          go_wp2
          go_ret
          exact ⟨retB (by rw [HV.out, ← HD.out]), below_draws (HG.out _) _⟩
      · have HF := hidden (validI_f (n := (m : Int)) (ws := ws) (fun h => hl (by have := h.2.2.1; rwa [Int.toNat_natCast] at this)))
        have hne : ((ws.length : Int) != ((nw m : Nat) : Int)) = true := by simp; omega
        clear hl h0 h1
        go_enter Try.func29, Try.ntmps29
        go_wp2
        go_ret
        exact ⟨retB (by rw [HF.out]), HG.out _⟩

end Go.Proofs.Ytnjmbhakfecdoaa
