/-
  The reference's Not, Equal, Valid and Of return what the document says; nothing that was there is changed.
-/
import Derived.Test.YtaegolkoinjmoaaDoorBsRef5
import Derived.Deep.QuietTactic
import Derived.BigQuiet
namespace Go.Proofs.YtaegolkoinjmoaaDoor
open Go.RowKit

theorem below_draws {B : Nat} {a w : World} (h : Below B a w) (n : Nat) : Below B a (w.drewN n) := h.trans ⟨rfl, rfl, rfl, Nat.le_refl _, fun _ _ => rfl⟩

def NotRel (w : World) (n : Nat) (v : Value) (f : Nat → Bool) (k : Value) (wr : World) : Prop :=
  ∃ j : Nat, j ≤ n ∧ k = .int .i64 j ∧ Row wr w.heap.size 26 [.int .i64 (n : Int), v] ∧ Row wr (w.heap.size + 1) 26 [.int .i64 0, .slice none 0 0] ∧
    Row wr (w.heap.size + 2) 4 (tcells (bitsOf (upto f j) n)) ∧ Below w.heap.size w wr

set_option maxHeartbeats 1000000 in
theorem rnot_any (s : Value) (n : Nat) (ws : List UInt64) (w : World) (hs : IsSet w s n ws) :
    Calls Tryd.prog 37 #[s] w (FreshSet n (pack n fun j => !mem n ws j) w) := by
  have HS := hidden hs
  obtain ⟨v, rfl, hr, hn, hn2⟩ := hs
  obtain ⟨A, d, rfl, _⟩ := hr.slice_
  rw [ucells_length] at HS hr ⊢
  obtain ⟨F, hF⟩ : ∃ F : Nat → Bool, F = fun j => !mem n ws j := ⟨_, rfl⟩
  rw [← hF]
  have HEQ := hidden (fun j => congrFun hF j)
  have hmk := fun W => run_make_one (P := Tryd.prog) 57 4 (.bool false) 1 Tryd.underlying57 info_bool rfl n (by omega) (by omega) W
  have HZ := hidden (made_tcells n)
  have HZ2 := hidden (bits_none n F)
  clear hr hF
  go_enter Tryd.func37, Tryd.ntmps37
  go_wp2_with fail
  go_loopw [4] (fun k wr => NotRel w n (.slice A ws.length d) F k wr) (fun k _ => n - (intOf k).toNat)
  case atStart =>
    refine ⟨0, by omega, rfl, ((Row.new w _ _ _ rfl).grow ((Below.refl _ _).alloc (Nat.le_refl _) _)).grow ((Below.refl _ _).alloc (Nat.le_refl _) _), (Row.at_ _ _ _ _ rfl _ (by simp)).grow ((Below.refl _ _).alloc (Nat.le_refl _) _), Row.at_ _ _ _ _ ?_ _ (by simp), (((Below.refl _ _).alloc (Nat.le_refl _) _).alloc (by simp) _).alloc (by simp; omega) _⟩
    rw [HZ.out, HZ2.out]
  case round =>
    obtain ⟨j, hj, rfl, r1, r3, r4, hb⟩ := hrel
    have hc0 := r1.cell 0
    have hc1 := r1.cell 1
    simp only [List.getElem?_cons_zero, List.getElem?_cons_succ] at hc0 hc1
    have R1 := hidden r1
    have R3 := hidden r3
    have R4 := hidden r4
    have HB := hidden hb
    clear r1 r3 r4 hb hmk
    by_cases hlt : j < n
    · have HC1 := hidden (rcontains_any _ n ws (j : Int) wr (HS.out.grow HB.out) (by omega) (by omega))
      have HV : Hid (F j = !mem n ws j) := by show _ = _; rw [HEQ.out]
      go_wp2_with fail
      refine (Calls.mono HC1.out ?_)
      rintro e w2 ⟨rfl, g2⟩
      rw [memI_nat]
      have HR1 := hidden (R1.out.grow g2)
      have HR3 := hidden (R3.out.grow g2)
      have HR4 := hidden (R4.out.grow g2)
      have HG := hidden (HB.out.trans (g2.mono HB.out.size))
      clear g2
      generalize mem n ws j = y at *
      have hcell := HR4.out.cell j
      rw [tcells_bits hlt] at hcell
      have hfr := HR4.out.frozen j
      have HSET := hidden (HR4.out.set_ j (.bool (!y)))
      have HSL : Hid ((tcells (bitsOf (upto F j) n)).set j (.bool (!y)) = tcells (bitsOf (upto F (j + 1)) n)) := by
        show _ = _
        rw [← HV.out, tcells_set, bits_set hlt]
      go_wp2
      go_roundw
      case rel =>
        refine ⟨j + 1, by omega, by go_num, HR1.out.set_other (by show w.heap.size + 2 ≠ _; omega) _, HR3.out.set_other (by show w.heap.size + 2 ≠ _; omega) _, ?_, HG.out.setCell (by show w.heap.size ≤ w.heap.size + 2; omega) _⟩
        have h := HSET.out
        rw [HSL.out] at h
        exact h
      case measure => simp [intOf]; omega
    · have hke : j = n := by omega
      have HA := hidden (bits_all (f := F) (Nat.le_of_eq hke.symm))
      have hrow := R4.out
      rw [HA.out] at hrow
      have HBU := hidden (rbuild_any _ n F wr (Reads.of_row hrow n n (by rw [tcells_length, bitsOf_length]) (Nat.le_refl _)) (by omega))
      have hnj : n ≤ j := by omega
      clear hrow hke
      go_wp2_with fail
      refine (Calls.mono HBU.out ?_)
      rintro e w3 ⟨g3, hg3, rfl, hr3, hb3⟩
      have hr0 := R3.out.grow hb3
      have HR0 := hidden hr0
      have HRW := hidden hr3
      have HG3 := hidden (HB.out.trans (hb3.mono HB.out.size))
      have hg4 : w.heap.size + 2 < g3 := Nat.lt_of_lt_of_le (by have := R4.out.lt; omega) hg3
      rw [pack_length]
      have HRS := hidden (hr0.setRow_ [.int .i64 (n : Int), .slice (some ⟨g3, 0, none⟩) (nw n) (nw n)] rfl)
      clear hr0 hr3 hb3 hg3
      go_wp2_with (refine wpList_store_set rfl _ _ rfl (w.heap.size + 1) rfl _ _ _ _ _ rfl HR0.out ?_)
      refine bodyPost_ret (results_set rfl _ _ _ _ _ rfl HRS.out) rfl ⟨g3, by omega, by rw [pack_length], ?_, below_setRow HG3.out (by omega) _⟩
      have h := HRW.out
      unfold Row at h ⊢
      rw [setRow_other _ _ _ _ (by omega)]
      exact h

/-- any pair of N and words -/
def IsPair (w : World) (s : Value) (n : Int) (ws : List UInt64) : Prop := ∃ v, s = .agg #[.int .i64 n, v] ∧ Reads w v (ucells ws) ∧ ws.length ≤ 9223372036854775807
theorem IsPair.grow {w w' : World} {s : Value} {n : Int} {ws : List UInt64} (h : IsPair w s n ws) (hb : Grows w w') : IsPair w' s n ws := by
  obtain ⟨v, h1, h2, h3⟩ := h
  exact ⟨v, h1, h2.grow hb, h3⟩
theorem IsSet.pair {w : World} {s : Value} {n : Nat} {ws : List UInt64} (h : IsSet w s n ws) (hl : ws.length ≤ 9223372036854775807) : IsPair w s (n : Int) ws := by
  obtain ⟨v, h1, h2, _⟩ := h
  exact ⟨v, h1, h2, hl⟩

def pairEq (na nb : Int) (wa wb : List UInt64) : Bool := decide (na = nb ∧ wa = wb)
theorem pairEq_f {na nb : Int} {wa wb : List UInt64} (h : ¬ (na = nb ∧ wa = wb)) : pairEq na nb wa wb = false := by unfold pairEq; simpa using h
theorem pairEq_t {na nb : Int} {wa wb : List UInt64} (h : na = nb ∧ wa = wb) : pairEq na nb wa wb = true := by unfold pairEq; simpa using h

def EqRel (w : World) (na nb : Int) (va vb : Value) (wa wb : List UInt64) (k : Value) (wr : World) : Prop :=
  ∃ j : Nat, j ≤ wa.length ∧ k = .int .i64 j ∧ wa.take j = wb.take j ∧ Row wr w.heap.size 26 [.int .i64 na, va] ∧ Row wr (w.heap.size + 1) 26 [.int .i64 nb, vb] ∧ Below w.heap.size w wr

set_option maxHeartbeats 1000000 in
theorem requal_any (s t : Value) (na nb : Int) (wa wb : List UInt64) (w : World) (hs : IsPair w s na wa) (ht : IsPair w t nb wb) :
    Calls Tryd.prog 13 #[s, t] w fun e w' => e = .returned (.bool (pairEq na nb wa wb)) ∧ Grows w w' := by
  have HS := hidden hs
  have HT := hidden ht
  obtain ⟨v, rfl, hr, hla⟩ := hs
  obtain ⟨A, d, rfl, _⟩ := hr.slice_
  obtain ⟨u, rfl, hr', hlb⟩ := ht
  obtain ⟨B, d', rfl, _⟩ := hr'.slice_
  rw [ucells_length] at HS hr ⊢
  rw [ucells_length] at HT hr' ⊢
  have HRA := hidden hr
  have HRB := hidden hr'
  have hG : ∀ o p, Grows w ((w.alloc o).alloc p) := fun o p => ((Below.refl _ _).alloc (Nat.le_refl _) o).alloc (by simp) p
  have HG := hidden hG
  clear hr hr' hG
  by_cases hne : na = nb ∧ wa.length = wb.length
  · obtain ⟨rfl, hlen⟩ := hne
    have hd1 : ((wa.length : Int) != (wb.length : Int)) = false := by simp; omega
    have HLN := hidden hlen
    clear hlen
    go_enter Tryd.func13, Tryd.ntmps13
    go_wp2_with fail
    go_loopw [5] (fun k wr => EqRel w na na (.slice A wa.length d) (.slice B wb.length d') wa wb k wr) (fun k _ => wa.length - (intOf k).toNat)
    case atStart => exact ⟨0, by omega, rfl, rfl, (Row.new w _ _ _ rfl).grow ((Below.refl _ _).alloc (Nat.le_refl _) _), Row.at_ _ _ _ _ rfl _ (by simp), HG.out _ _⟩
    case round =>
      obtain ⟨j, hj, rfl, hsame, r1, r2, hb⟩ := hrel
      have hc0 := r1.cell 0
      have hc1 := r1.cell 1
      have hd0 := r2.cell 0
      have he1 := r2.cell 1
      simp only [List.getElem?_cons_zero, List.getElem?_cons_succ] at hc0 hc1 hd0 he1
      have R1 := hidden r1
      have R2 := hidden r2
      have HB := hidden hb
      have HSM := hidden hsame
      have hlen := HLN.out
      clear r1 r2 hb hsame
      by_cases hlt : j < wa.length
      · have hlt2 : j < wb.length := by omega
        obtain ⟨A', c1, he, _, hca⟩ := HRA.out.grow HB.out
        injection he with e1 e2 e3
        subst e1 e3
        obtain ⟨B', c2, he', _, hcb⟩ := HRB.out.grow HB.out
        injection he' with f1 f2 f3
        subst f1 f3
        obtain ⟨b1, o1, rfl, hx1⟩ := hca (by rw [ucells_length]; omega)
        obtain ⟨b2, o2, rfl, hx2⟩ := hcb (by rw [ucells_length]; omega)
        have hy1 := hx1 j (by rw [ucells_length]; omega)
        have hy2 := hx2 j (by rw [ucells_length]; omega)
        rw [ucells_get hlt] at hy1
        rw [ucells_get hlt2] at hy2
        have HTA := hidden (List.take_succ_eq_append_getElem hlt)
        have HTB := hidden (List.take_succ_eq_append_getElem hlt2)
        clear hca hcb hx1 hx2 e2 f2 hlen
        by_cases heq : wa[j] = wb[j]
        · have hE : ((wa[j].toNat : Int) != (wb[j].toNat : Int)) = false := by rw [heq]; simp
          have HEQ := hidden heq
          clear heq
          go_wp2_with fail
          go_quiet (fail)
          go_wp2
          go_roundw
          case rel =>
            have hdr : ∀ m, Grows wr (wr.drewN m) := fun m => below_draws (Below.refl _ _) m
            refine ⟨j + 1, by omega, by go_num, ?_, R1.out.grow (hdr _), R2.out.grow (hdr _), below_draws HB.out _⟩
            rw [HTA.out, HTB.out, HSM.out, HEQ.out]
          case measure => simp [intOf]; omega
        · have hE : ((wa[j].toNat : Int) != (wb[j].toNat : Int)) = true := by
            simp
            intro h
            exact heq (UInt64.toNat_inj.1 (by omega))
          have HF := hidden (pairEq_f (na := na) (nb := na) (wa := wa) (wb := wb) (fun h => heq (by simp [h.2])))
          clear heq
          go_wp2_with fail
          go_quiet (fail)
          go_wp2
          go_ret
          exact ⟨retB (by rw [HF.out]), below_draws HB.out _⟩
      · have hje : j = wa.length := by omega
        have hsame := HSM.out
        rw [hje, List.take_length, hlen, List.take_length] at hsame
        have HT2 := hidden (pairEq_t (na := na) (nb := na) ⟨rfl, hsame⟩)
        have hnj : wa.length ≤ j := by omega
        clear hsame hje hlen
        go_wp2
        go_ret
        exact ⟨retB (by rw [HT2.out]), HB.out⟩
  · have HF := hidden (pairEq_f (na := na) (nb := nb) (wa := wa) (wb := wb) (fun h => hne ⟨h.1, by rw [h.2]⟩))
    by_cases hn : na = nb
    · subst hn
      have hd : ((wa.length : Int) != (wb.length : Int)) = true := by simp; omega
      clear hne
      go_enter Tryd.func13, Tryd.ntmps13
      go_wp2
      go_ret
      exact ⟨retB (by rw [HF.out]), HG.out _ _⟩
    · have hd : (na != nb) = true := by simpa using hn
      clear hne
      go_enter Tryd.func13, Tryd.ntmps13
      go_wp2
      go_ret
      exact ⟨retB (by rw [HF.out]), HG.out _ _⟩

/-- what Valid says -/
def validP (n : Int) (ws : List UInt64) : Prop := 0 ≤ n ∧ n ≤ 1048576 ∧ okW n.toNat ws
open Classical in
noncomputable def validI (n : Int) (ws : List UInt64) : Bool := decide (validP n ws)
theorem validI_t {n : Int} {ws : List UInt64} (h : validP n ws) : validI n ws = true := by unfold validI; simpa using h
theorem validI_f {n : Int} {ws : List UInt64} (h : ¬ validP n ws) : validI n ws = false := by unfold validI; simpa using h
theorem validI_iff {n : Int} {ws : List UInt64} : validI n ws = true ↔ validP n ws := by unfold validI; simp
theorem okW_even {n : Nat} {ws : List UInt64} (h : n % 64 = 0) (hl : ws.length = nw n) : okW n ws := by
  refine ⟨hl, fun i hi => ?_⟩
  unfold wmem
  rw [List.getElem?_eq_none (by rw [hl]; unfold nw; omega)]
theorem okW_last {n : Nat} {ws : List UInt64} (h : n % 64 ≠ 0) (hl : ws.length = nw n) (hlt : ws.length - 1 < ws.length) : okW n ws ↔ ws[ws.length - 1].toNat / 2 ^ (n % 64) = 0 := by
  have hk : ws.length - 1 = n / 64 := by rw [hl]; unfold nw; omega
  have hm : ∀ j, j < 64 → wmem ws (64 * (n / 64) + j) = wbit ws[ws.length - 1] j := by
    intro j hj
    unfold wmem
    rw [show (64 * (n / 64) + j) / 64 = n / 64 by omega, show (64 * (n / 64) + j) % 64 = j by omega, ← hk, List.getElem?_eq_getElem hlt]
  constructor
  · intro ho
    apply Nat.eq_of_testBit_eq
    intro j
    rw [Nat.testBit_div_two_pow, Nat.zero_testBit]
    by_cases hj : j + n % 64 < 64
    · have := ho.2 (64 * (n / 64) + (j + n % 64)) (by omega)
      rw [hm _ hj] at this
      exact this
    · exact wbit_ge (w := ws[ws.length - 1]) (by omega)
  · intro hz
    refine ⟨hl, fun i hi => ?_⟩
    by_cases hi2 : i / 64 = n / 64
    · have e : i = 64 * (n / 64) + i % 64 := by omega
      rw [e, hm _ (by omega)]
      have h1 := congrArg (fun x => x.testBit (i % 64 - n % 64)) hz
      simp only [Nat.testBit_div_two_pow, Nat.zero_testBit] at h1
      rw [show i % 64 - n % 64 + n % 64 = i % 64 by omega] at h1
      exact h1
    · unfold wmem
      rw [List.getElem?_eq_none (by rw [hl]; unfold nw; omega)]

set_option maxHeartbeats 1000000 in
theorem rvalid_any (s : Value) (n : Int) (ws : List UInt64) (w : World) (hs : IsPair w s n ws) (h63 : -9223372036854775808 ≤ n) (h64 : n ≤ 9223372036854775807) :
    Calls Tryd.prog 39 #[s] w fun e w' => e = .returned (.bool (validI n ws)) ∧ Grows w w' := by
  obtain ⟨v, rfl, hr, hla⟩ := hs
  have hr2 := hr
  obtain ⟨A, d, rfl, _⟩ := hr.slice_
  rw [ucells_length] at hr hr2 ⊢
  have hG : ∀ o, Grows w (w.alloc o) := fun o => (Below.refl _ _).alloc (Nat.le_refl _) o
  have HG := hidden hG
  have HR := hidden hr2
  clear hr hr2 hG
  by_cases h0 : n < 0
  · have HF := hidden (validI_f (ws := ws) (fun h : validP n ws => by have := h.1; omega))
    have hd : decide (n < 0) = true := by simpa using h0
    go_enter Tryd.func39, Tryd.ntmps39
    go_wp2
    go_ret
    exact ⟨retB (by rw [HF.out]), HG.out _⟩
  · by_cases h1 : 1048576 < n
    · have HF := hidden (validI_f (ws := ws) (fun h : validP n ws => by have := h.2.1; omega))
      have hd1 : decide (n < 0) = false := by simpa using h0
      have hd : decide (1048576 < n) = true := by simpa using h1
      go_enter Tryd.func39, Tryd.ntmps39
      go_wp2
      go_ret
      exact ⟨retB (by rw [HF.out]), HG.out _⟩
    · obtain ⟨m, rfl⟩ := Int.eq_ofNat_of_zero_le (show 0 ≤ n by omega)
      have hm : m ≤ 1048576 := by omega
      have hnw := nw_cast m
      by_cases hl : ws.length = nw m
      · have hne : ((ws.length : Int) != ((nw m : Nat) : Int)) = false := by simp; omega
        by_cases hz : m % 64 = 0
        · have HT := hidden (validI_t (n := (m : Int)) (ws := ws) ⟨by omega, by omega, by rw [Int.toNat_natCast]; exact okW_even hz hl⟩)
          have hz2 : ((m : Int) % 64 == 0) = true := by simp; omega
          clear hz hl h0 h1
          go_enter Tryd.func39, Tryd.ntmps39
          go_wp2_with fail
          go_quiet (fail)
          go_wp2
          go_ret
          exact ⟨retB (by rw [HT.out]), below_draws (HG.out _) _⟩
        · have hpos : 0 < ws.length := by rw [hl]; unfold nw; omega
          have hlt : ws.length - 1 < ws.length := by omega
          obtain ⟨A', c', he, _, hcell⟩ := HR.out.grow (HG.out (.cells #[.int .i64 (m : Int), .slice A ws.length d] 26))
          injection he with e1 e2 e3
          subst e1 e3
          obtain ⟨b, off, rfl, hx⟩ := hcell (by rw [ucells_length]; omega)
          have hcl := hx (ws.length - 1) (by rw [ucells_length]; omega)
          rw [ucells_get hlt] at hcl
          have hz2 : ((m : Int) % 64 == 0) = false := by simp; omega
          have hsub : (ws.length : Int) - 1 = ((ws.length - 1 : Nat) : Int) := by omega
          have HOK := hidden (okW_last hz hl hlt)
          have hxb : ws[ws.length - 1].toNat < 18446744073709551616 := ws[ws.length - 1].toNat_lt
          have HV : Hid (validI (m : Int) ws = decide (ws[ws.length - 1].toNat / 2 ^ (m % 64) = 0)) := by
            show _ = _
            by_cases hq : ws[ws.length - 1].toNat / 2 ^ (m % 64) = 0
            · rw [validI_t ⟨by omega, by omega, by rw [Int.toNat_natCast]; exact HOK.out.2 hq⟩]; simp [hq]
            · rw [validI_f (fun h => hq (HOK.out.1 (by have := h.2.2; rwa [Int.toNat_natCast] at this)))]; simp [hq]
          have HLN : Hid (ws.length - 1 < ws.length) := hlt
          clear hz hl h0 h1 hx hcell e2 HOK
          generalize ws[ws.length - 1].toNat = x at *
          have HD : Hid (((x : Int) / 2 ^ (m % 64) == 0) = decide (x / 2 ^ (m % 64) = 0)) := by
            show _ = _
            have e : ((x : Int) / 2 ^ (m % 64)) = ((x / 2 ^ (m % 64) : Nat) : Int) := by simp
            rw [e]
            generalize x / 2 ^ (m % 64) = y
            by_cases hy : y = 0
            · subst hy; rfl
            · have h1 : ((y : Int) == 0) = false := by simp; omega
              rw [h1]; simp [hy]
          go_enter Tryd.func39, Tryd.ntmps39
          go_wp2_with fail
          go_quiet (fail)
          go_wp2
          go_ret
          exact ⟨retB (by rw [HV.out, ← HD.out]), below_draws (HG.out _) _⟩
      · have HF := hidden (validI_f (n := (m : Int)) (ws := ws) (fun h => hl (by have := h.2.2.1; rwa [Int.toNat_natCast] at this)))
        have hne : ((ws.length : Int) != ((nw m : Nat) : Int)) = true := by simp; omega
        clear hl h0 h1
        go_enter Tryd.func39, Tryd.ntmps39
        go_wp2
        go_ret
        exact ⟨retB (by rw [HF.out]), HG.out _⟩

end Go.Proofs.YtaegolkoinjmoaaDoor
