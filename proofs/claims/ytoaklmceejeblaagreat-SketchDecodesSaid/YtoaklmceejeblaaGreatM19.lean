/-
  Texts that the claims of this seat share, put together (SqD, SqE, SqG, SqF, SqH, SqI, SqJ, SqK). No condition.
-/
import Derived.Test.YtoaklmceejeblaaGreatM18
import Derived.ChangeKeysEq
/-
  Shaken: what the claims of this seat need of this text. No condition.
-/
namespace Go.Proofs.YtoaklmceejeblaaGreat
set_option maxRecDepth 8000
open Go.RowKit
set_option linter.unusedVariables false
set_option linter.unusedSimpArgs false
def prvP (rk : List Int) (i : Nat) : Int := if i = 0 then 0 else rk.getD (2 * i - 2) 0
def prvQ (rk : List Int) (i : Nat) : Int := if i = 0 then 0 else rk.getD (2 * i - 1) 0
def rkOk (rk : List Int) (n : Int) (i : Nat) : Prop := max (prvP rk i) (prvQ rk i) ≤ rk.getD (2 * i) 0 ∧ prvQ rk i ≤ rk.getD (2 * i + 1) 0 ∧ rk.getD (2 * i) 0 ≤ n ∧ (i = 0 → rk.getD (2 * i) 0 ≤ 0)
def vrkP (n : Int) (rk : List Int) (m : Nat) : Prop := rk.length = 2 * m ∧ (∀ i, i < m → rkOk rk n i) ∧ prvQ rk m = n
open Classical in
noncomputable def vrkB (n : Int) (rk : List Int) (m : Nat) : Bool := decide (vrkP n rk m)
theorem vrkB_t {n : Int} {rk : List Int} {m : Nat} (h : vrkP n rk m) : vrkB n rk m = true := by unfold vrkB; simpa using h
theorem vrkB_f {n : Int} {rk : List Int} {m : Nat} (h : ¬ vrkP n rk m) : vrkB n rk m = false := by unfold vrkB; simpa using h
def VrkRel (W : World) (rk : List Int) (n : Int) (m : Nat) (p q i : Value) (wr : World) : Prop := ∃ k : Nat, k ≤ m ∧ i = .int .i64 (k : Int) ∧ p = .int .i64 (prvP rk k) ∧ q = .int .i64 (prvQ rk k) ∧ (∀ j, j < k → rkOk rk n j) ∧ Grows W wr
set_option maxHeartbeats 8000000 in
theorem qvalidRanks_any (v : Value) (s : Sk) (n : Int) (w : World) (hk : IsK w v s) (hl : s.fs.length ≤ 100000) (hrl : s.rk.length ≤ 1000000) :
    Calls Tryz.prog 71 #[v, .int .i64 n] w fun e w' => e = .returned (.bool (vrkB n s.rk s.fs.length)) ∧ Grows w w' := by
  obtain ⟨A1, A2, A3, A4, c1, c2, c3, c4, rfl, -, -, -, h4⟩ := hk
  obtain ⟨W0, hW0⟩ : ∃ W, W = (w.alloc (.cells #[.int .i64 s.rows, .int .i64 s.nulls, .slice A1 s.hs.length c1, .bool s.ok, .slice A2 s.cm.length c2, .slice A3 s.fs.length c3, .slice A4 s.rk.length c4] 29)) := ⟨_, rfl⟩
  have HW := hidden hW0
  have HG0 := hidden (show Grows w W0 by rw [hW0]; exact growK _ _)
  have HS0 := hidden (show Row W0 w.heap.size 29 [.int .i64 s.rows, .int .i64 s.nulls, .slice A1 s.hs.length c1, .bool s.ok, .slice A2 s.cm.length c2, .slice A3 s.fs.length c3, .slice A4 s.rk.length c4] by rw [hW0]; exact skrow_new _ _ _ _ _ _ _ _)
  have H4 := hidden (fun X (h : Grows W0 X) => h4.grow (HG0.out.of_below h))
  have HVT := hidden (fun h : vrkP n s.rk s.fs.length => vrkB_t h)
  have HVF := hidden (fun h : ¬ vrkP n s.rk s.fs.length => vrkB_f h)
  have HRK := hidden (show s.rk = s.rk from rfl)
  generalize vrkB n s.rk s.fs.length = out at *
  obtain ⟨m, hm⟩ : ∃ m, m = s.fs.length := ⟨_, rfl⟩
  obtain ⟨L, hL⟩ : ∃ L, L = s.rk.length := ⟨_, rfl⟩
  rw [← hm] at HVT HVF HS0 HW hl ⊢
  rw [← hL] at HS0 HW hrl ⊢
  have HL := hidden hL
  have hwm : wrap64 (2 * (m : Int)) = 2 * (m : Int) := by unfold wrap64; omega
  have hwm2 : IntKind.i64.wrap (2 * (m : Int)) = 2 * (m : Int) := by rw [IntKind.wrap_i64]; omega
  clear h4 hW0 hm hL
  by_cases hlen : L = 2 * m
  case neg =>
    have HO := hidden (HVF.out (fun h => hlen (HL.out.trans h.1)))
    have d1 : (L == 2 * m) = false := by simpa using hlen
    have d2 : ((L : Int) == 2 * (m : Int)) = false := by simp; omega
    have d3 : ¬ (L : Int) = 2 * (m : Int) := by omega
    clear hlen HVT HVF
    go_enter Tryz.func71, Tryz.ntmps71
    go_wp2_with fail
    go_ret
    exact ⟨by rw [HO.out]; first | done | rfl, by rw [← HW.out]; exact HG0.out⟩
  case pos =>
    have d1 : (L == 2 * m) = true := by simpa using hlen
    have d2 : ((L : Int) == 2 * (m : Int)) = true := by simp; omega
    have d3 : (L : Int) = 2 * (m : Int) := by omega
    have HLM := hidden hlen
    clear hlen
    go_enter Tryz.func71, Tryz.ntmps71
    go_wp2_with fail
    rw [← HW.out]
    clear d1 d2 d3 hwm hwm2
    go_loopw [5, 6, 7, 8, 9, 21] (fun p q _ _ _ i wr => VrkRel W0 s.rk n m p q i wr) (fun _ _ _ _ _ i _ => m - (intOf i).toNat)
    case atStart => exact ⟨0, Nat.zero_le _, rfl, rfl, rfl, fun j hj => absurd hj (by omega), Below.refl _ _⟩
    case round =>
      obtain ⟨k, hk, rfl, rfl, rfl, hok, hb⟩ := hrel
      have HB := hidden hb
      have HOK := hidden hok
      clear hb hok
      by_cases hlt : k < m
      · have HLT := hidden hlt
        have hd : decide (k < m) = true := by simpa using hlt
        have hd2 : decide ((k : Int) < (m : Int)) = true := by simpa using hlt
        obtain ⟨A', c', he, _, hcell⟩ := H4.out wr HB.out
        rw [icells_length, ← HL.out] at he
        injection he with e1 e2 e3
        subst e1 e3
        obtain ⟨bb, off, rfl, hcell2⟩ := hcell (by rw [icells_length, ← HL.out, HLM.out]; omega)
        have hi1 : 2 * k < s.rk.length := by rw [← HL.out, HLM.out]; omega
        have hi2 : 2 * k + 1 < s.rk.length := by rw [← HL.out, HLM.out]; omega
        have g1 := hcell2 (2 * k) (by rw [icells_length]; exact hi1)
        have g2 := hcell2 (2 * k + 1) (by rw [icells_length]; exact hi2)
        rw [icells_get hi1] at g1
        rw [icells_get hi2] at g2
        have ex : s.rk.getD (2 * k) 0 = s.rk[2 * k] := by rw [List.getD_eq_getElem?_getD, List.getElem?_eq_getElem hi1]; rfl
        have ey : s.rk.getD (2 * k + 1) 0 = s.rk[2 * k + 1] := by rw [List.getD_eq_getElem?_getD, List.getElem?_eq_getElem hi2]; rfl
        have HPP := hidden (show prvP s.rk (k + 1) = s.rk.getD (2 * k) 0 by unfold prvP; rw [if_neg (by omega), show 2 * (k + 1) - 2 = 2 * k by omega])
        have HQQ := hidden (show prvQ s.rk (k + 1) = s.rk.getD (2 * k + 1) 0 by unfold prvQ; rw [if_neg (by omega), show 2 * (k + 1) - 1 = 2 * k + 1 by omega])
        have HRO := hidden (show rkOk s.rk n k ↔ (max (prvP s.rk k) (prvQ s.rk k) ≤ s.rk.getD (2 * k) 0 ∧ prvQ s.rk k ≤ s.rk.getD (2 * k + 1) 0 ∧ s.rk.getD (2 * k) 0 ≤ n ∧ (k = 0 → s.rk.getD (2 * k) 0 ≤ 0)) from Iff.rfl)
        rw [ex] at HPP HRO
        rw [ey] at HQQ HRO
        generalize s.rk[2 * k] = x at *
        generalize s.rk[2 * k + 1] = y at *
        generalize prvP s.rk k = p at *
        generalize prvQ s.rk k = q at *
        have HY := hidden (fun X (h : Grows wr X) => show X.cell? ⟨w.heap.size, 6, none⟩ = some (.slice (some ⟨bb, off, none⟩) L c4) ∧ X.cell? ⟨bb, off + 2 * k, none⟩ = some (.int .i64 x) ∧ X.cell? ⟨bb, off + (2 * k + 1), none⟩ = some (.int .i64 y) from ⟨(HS0.out.grow (HB.out.of_below h)).cell 6, (h.cell (World.block_lt_of_cell? _ _ g1)).trans g1, (h.cell (World.block_lt_of_cell? _ _ g2)).trans g2⟩)
        have HFL := hidden (fun (h : ¬ rkOk s.rk n k) => HVF.out (fun hv => h (hv.2.1 k HLT.out)))
        have b0 : (0 : Int) ≤ 2 * (k : Int) := by omega
        have b1 : 2 * (k : Int) < (L : Int) := by have := HLM.out; omega
        have b2 : 2 * (k : Int) + 1 < (L : Int) := by have := HLM.out; omega
        have b3 : (0 : Int) ≤ 2 * (k : Int) + 1 := by omega
        have b4 : IntKind.i64.wrap (2 * (k : Int)) = 2 * (k : Int) := by rw [IntKind.wrap_i64]; omega
        have b5 : IntKind.i64.wrap (2 * (k : Int) + 1) = 2 * (k : Int) + 1 := by rw [IntKind.wrap_i64]; omega
        have b6 : (2 * (k : Int)).toNat = 2 * k := by omega
        have b7 : (2 * (k : Int) + 1).toNat = 2 * k + 1 := by omega
        clear hcell hcell2 e2 hi1 hi2 g1 g2 ex ey
        go_wp2_with fail
        refine wp_region_loose (tabRs []) (by kernel_rfl) (by kernel_rfl) tabRs_nil ?_
        iterate 15 ((with_reducible refine loose_one (v := ?_) (a' := ?_) ?_ ?_ (fun w' hC' hG' => ?_) ?_ ?_); rotate_left 2; (focus rfl); (focus rfl); (focus (obtain ⟨p6, k1, k2⟩ := HY.out w' hC'; clear hC' hG'; go_simp; rfl)); (focus (go_simp; rfl)))
        refine loose_done (fun w5 hC5 hG5 => ?_)
        have HB5 := hidden (HB.out.of_below hC5)
        clear hC5 hG5 b0 b1 b2 b3 b4 b5 b6 b7
        by_cases hf1 : x < max p q
        · have f1 : decide (x < max p q) = true := decide_eq_true hf1
          have HO := hidden (HFL.out (fun h => by have := (HRO.out.1 h).1; omega))
          clear hf1 hlt hk
          go_wp2_with fail
          go_ret
          exact ⟨by rw [HO.out]; first | done | rfl, HG0.out.of_below HB5.out⟩
        have f1 : decide (x < max p q) = false := decide_eq_false hf1
        by_cases hf2 : y < q
        · have f2 : decide (y < q) = true := decide_eq_true hf2
          have HO := hidden (HFL.out (fun h => by have := (HRO.out.1 h).2.1; omega))
          clear hf2 hf1 hlt hk
          go_wp2_with fail
          go_ret
          exact ⟨by rw [HO.out]; first | done | rfl, HG0.out.of_below HB5.out⟩
        have f2 : decide (y < q) = false := decide_eq_false hf2
        by_cases hf3 : n < x
        · have f3 : decide (n < x) = true := decide_eq_true hf3
          have HO := hidden (HFL.out (fun h => by have := (HRO.out.1 h).2.2.1; omega))
          clear hf3 hf2 hf1 hlt hk
          go_wp2_with fail
          go_ret
          exact ⟨by rw [HO.out]; first | done | rfl, HG0.out.of_below HB5.out⟩
        have f3 : decide (n < x) = false := decide_eq_false hf3
        by_cases h0 : k = 0
        · by_cases hx0 : 0 < x
          · have f4 : decide (0 < x) = true := decide_eq_true hx0
            have f5 : (k == 0) = true := by simpa using h0
            have f6 : ((k : Int) == 0) = true := by simp; omega
            have HO := hidden (HFL.out (fun h => by have := (HRO.out.1 h).2.2.2 h0; omega))
            clear hx0 h0 hf3 hf2 hf1 hlt hk
            go_wp2_with fail
            go_ret
            exact ⟨by rw [HO.out]; first | done | rfl, HG0.out.of_below HB5.out⟩
          · have f4 : decide (0 < x) = false := decide_eq_false hx0
            have f5 : (k == 0) = true := by simpa using h0
            have f6 : ((k : Int) == 0) = true := by simp; omega
            have HN := hidden (show ∀ j, j < k + 1 → rkOk s.rk n j from fun j hj => by
              rcases Nat.lt_succ_iff_lt_or_eq.1 hj with h | h
              · exact HOK.out j h
              · rw [h]; exact HRO.out.2 ⟨by omega, by omega, by omega, fun _ => by omega⟩)
            clear hx0 h0 hf1 hf2 hf3 HRO HFL
            go_wp2_with fail
            go_roundw
            case rel => exact ⟨k + 1, HLT.out, by go_num, by rw [HPP.out], by rw [HQQ.out], HN.out, HB5.out⟩
            case measure => have := HLT.out; simp [intOf]; omega
        · have f5 : (k == 0) = false := by simpa using h0
          have f6 : ((k : Int) == 0) = false := by simp; omega
          have HN := hidden (show ∀ j, j < k + 1 → rkOk s.rk n j from fun j hj => by
            rcases Nat.lt_succ_iff_lt_or_eq.1 hj with h | h
            · exact HOK.out j h
            · rw [h]; exact HRO.out.2 ⟨by omega, by omega, by omega, fun h => absurd h h0⟩)
          clear h0 hf1 hf2 hf3 HRO HFL
          go_wp2_with fail
          go_roundw
          case rel => exact ⟨k + 1, HLT.out, by go_num, by rw [HPP.out], by rw [HQQ.out], HN.out, HB5.out⟩
          case measure => have := HLT.out; simp [intOf]; omega
      · have hd : decide (k < m) = false := by simpa using hlt
        have hd2 : decide ((k : Int) < (m : Int)) = false := by simpa using hlt
        have hke : k = m := by omega
        subst hke
        by_cases hq : prvQ s.rk k = n
        · have HO := hidden (HVT.out ⟨by rw [← HL.out]; exact HLM.out, HOK.out, hq⟩)
          have d1 : (prvQ s.rk k == n) = true := by simpa using hq
          clear hq hk hlt
          generalize prvQ s.rk k = q at *
          go_wp2_with fail
          go_ret
          exact ⟨by rw [HO.out]; first | done | rfl | simp [d1], HG0.out.of_below HB.out⟩
        · have HO := hidden (HVF.out (fun h => hq h.2.2))
          have d1 : (prvQ s.rk k == n) = false := by simpa using hq
          clear hq hk hlt
          generalize prvQ s.rk k = q at *
          go_wp2_with fail
          go_ret
          exact ⟨by rw [HO.out]; first | done | rfl | simp [d1], HG0.out.of_below HB.out⟩
end Go.Proofs.YtoaklmceejeblaaGreat
/-
  Shaken: what the claims of this seat need of this text. No condition.
-/
namespace Go.Proofs.YtoaklmceejeblaaGreat
set_option maxRecDepth 8000
open Go.RowKit
set_option linter.unusedVariables false
set_option linter.unusedSimpArgs false
def fnOk (f : Val) (k0 : Int) : Prop := f.k ≠ 0 ∧ f.k = k0 ∧ validV f.k f.n f.t = true
def vfnP (n : Int) (fs : List Val) : Prop := fs.length ≤ 17 ∧ (fs.length = 0 ↔ n = 0) ∧ (∀ (i : Nat) (f : Val), fs[i]? = some f → fnOk f (kindK fs)) ∧ adjB (fun i => lcX (fs.getD i ⟨0, 0, .empty⟩) (fs.getD (i + 1) ⟨0, 0, .empty⟩)) fs.length = true
open Classical in
noncomputable def vfnB (n : Int) (fs : List Val) : Bool := decide (vfnP n fs)
theorem vfnB_t {n : Int} {fs : List Val} (h : vfnP n fs) : vfnB n fs = true := by unfold vfnB; simpa using h
theorem vfnB_f {n : Int} {fs : List Val} (h : ¬ vfnP n fs) : vfnB n fs = false := by unfold vfnB; simpa using h
def VfnRel (w : World) (fs : List Val) (i : Value) (wr : World) : Prop := ∃ k : Nat, k ≤ fs.length ∧ i = .int .i64 (k : Int) ∧ (∀ (j : Nat) (f : Val), j < k → fs[j]? = some f → fnOk f (kindK fs)) ∧ Grows w wr
set_option maxHeartbeats 8000000 in
theorem qvalidFences_any (v : Value) (fs : List Val) (n : Int) (w : World) (hv : ReadsV w v fs) (hl : fs.length ≤ 100000) :
    Calls Tryz.prog 70 #[v, .int .i64 n] w fun e w' => e = .returned (.bool (vfnB n fs)) ∧ Grows w w' := by
  have HV := hidden (fun X (h : Grows w X) => hv.grow h)
  have HI := hidden (fun X (h : Grows w X) => qincV_any v fs (fun i => lcX (fs.getD i ⟨0, 0, .empty⟩) (fs.getD (i + 1) ⟨0, 0, .empty⟩)) X (hv.grow h) (by omega) (fun _ => rfl))
  have HVT := hidden (fun h : vfnP n fs => vfnB_t h)
  have HVF := hidden (fun h : ¬ vfnP n fs => vfnB_f h)
  generalize vfnB n fs = out at *
  obtain ⟨A, c, rfl, -⟩ := id hv
  clear hv
  by_cases h17 : 17 < fs.length
  · have HO := hidden (HVF.out (fun h => by have := h.1; omega))
    have d1 : decide (17 < fs.length) = true := by simpa using h17
    have d2 : decide ((17 : Int) < (fs.length : Int)) = true := decide_eq_true (by omega)
    generalize fs.length = L at *
    go_enter Tryz.func70, Tryz.ntmps70
    go_wp2_with fail
    go_ret
    exact ⟨by rw [HO.out]; first | done | rfl, Below.refl _ _⟩
  have d1 : decide (17 < fs.length) = false := by simpa using h17
  have d2 : decide ((17 : Int) < (fs.length : Int)) = false := decide_eq_false (by omega)
  by_cases hz : (fs.length = 0 ↔ n = 0)
  case neg =>
    have HO := hidden (HVF.out (fun h => hz h.2.1))
    by_cases hL : fs.length = 0
    · have hn : n ≠ 0 := fun h => hz (iff_of_true hL h)
      have e1 : (n == 0) = false := by simpa using hn
      have e2 : (fs.length == 0) = true := by simpa using hL
      have e3 : ((fs.length : Int) == 0) = true := by rw [hL]; rfl
      generalize fs.length = L at *
      go_enter Tryz.func70, Tryz.ntmps70
      go_wp2_with fail
      go_ret
      exact ⟨by rw [HO.out]; first | done | rfl, Below.refl _ _⟩
    · have hn : n = 0 := Decidable.byContradiction fun h => hz (iff_of_false hL h)
      have e1 : (n == 0) = true := by simpa using hn
      have e2 : (fs.length == 0) = false := by simpa using hL
      have e3 : ((fs.length : Int) == 0) = false := beq_eq_false_iff_ne.2 (by omega)
      generalize fs.length = L at *
      go_enter Tryz.func70, Tryz.ntmps70
      go_wp2_with fail
      go_ret
      exact ⟨by rw [HO.out]; first | done | rfl, Below.refl _ _⟩
  case pos =>
    have HZ := hidden hz
    have e1 : (n == 0) = (fs.length == 0) := by
      by_cases h : fs.length = 0
      · rw [beq_iff_eq.2 h, beq_iff_eq.2 (hz.1 h)]
      · rw [beq_eq_false_iff_ne.2 h, beq_eq_false_iff_ne.2 (fun h2 => h (hz.2 h2))]
    have e2 : ((fs.length : Int) == 0) = (fs.length == 0) := by
      by_cases h : fs.length = 0
      · rw [h]; rfl
      · rw [beq_eq_false_iff_ne.2 h]; exact beq_eq_false_iff_ne.2 (by omega)
    have H17 := hidden h17
    clear hz h17
    go_enter Tryz.func70, Tryz.ntmps70
    go_wp2_with fail
    clear e1 e2 d1 d2
    go_loopw [6, 20] (fun _ i wr => VfnRel w fs i wr) (fun _ i _ => fs.length - (intOf i).toNat)
    case atStart => exact ⟨0, Nat.zero_le _, rfl, fun j f hj => absurd hj (by omega), Below.refl _ _⟩
    case round =>
      obtain ⟨k, hk, rfl, hok, hb⟩ := hrel
      have HB := hidden hb
      have HOK := hidden hok
      clear hb hok
      by_cases hlt : k < fs.length
      · have HLT := hidden hlt
        have hd : decide (k < fs.length) = true := by simpa using hlt
        have hd2 : decide ((k : Int) < (fs.length : Int)) = true := by simpa using hlt
        have hk0 : (0 : Int) ≤ (k : Int) := by omega
        have hk2 : (k : Int) < (fs.length : Int) := by omega
        have hk3 : (0 : Int) < (fs.length : Int) := by omega
        have hk4 : 0 < fs.length := by omega
        obtain ⟨A', c', he, _, hcell⟩ := HV.out wr HB.out
        injection he with e1 e2 e3
        subst e1 e3
        obtain ⟨bb, off, rfl, hcell2⟩ := hcell (by omega)
        obtain ⟨f, hf⟩ : ∃ f, fs[k]? = some f := ⟨_, List.getElem?_eq_getElem hlt⟩
        obtain ⟨g, hg0⟩ : ∃ g, fs[0]? = some g := ⟨_, List.getElem?_eq_getElem (by omega)⟩
        have HKK := hidden (show kindK fs = g.k by
          cases hfs : fs with
          | nil => rw [hfs] at hg0; simp at hg0
          | cons a r => rw [hfs] at hg0; simp at hg0; rw [hg0]; rfl)
        have a0 := (hcell2 0 g hg0).1
        rw [Nat.zero_mul, Nat.add_zero] at a0
        obtain ⟨a1, a2, a3⟩ := hcell2 k f hf
        have HB1 := hidden (HB.out.of_below (growK wr (.cells #[.int .i64 f.k, .int .i64 f.n, .string f.t] 35)))
        have HRW := hidden (Row.new wr 35 #[.int .i64 f.k, .int .i64 f.n, .string f.t] [.int .i64 f.k, .int .i64 f.n, .string f.t] rfl)
        have HX := hidden (fun X (h : Grows (wr.alloc (.cells #[.int .i64 f.k, .int .i64 f.n, .string f.t] 35)) X) => show X.cell? ⟨wr.heap.size, 0, none⟩ = some (.int .i64 f.k) ∧ X.cell? ⟨wr.heap.size, 1, none⟩ = some (.int .i64 f.n) ∧ X.cell? ⟨wr.heap.size, 2, none⟩ = some (.string f.t) ∧ X.cell? ⟨bb, off, none⟩ = some (.int .i64 g.k) from ⟨(HRW.out.grow h).cell 0, (HRW.out.grow h).cell 1, (HRW.out.grow h).cell 2, by
          have hh := (growK wr (.cells #[.int .i64 f.k, .int .i64 f.n, .string f.t] 35)).of_below h
          exact (hh.cell (World.block_lt_of_cell? _ _ a0)).trans a0⟩)
        have HFF := hidden hf
        have HFL := hidden (fun (h : ¬ fnOk f g.k) => HVF.out (fun hv => h (by rw [← HKK.out]; exact hv.2.2.1 k f hf)))
        have HNU := hidden (fun X => const_loose16 (qisNull_any f.k f.n f.t X))
        have HVA := hidden (fun X => const_loose16 (lvalid_any f.k f.n f.t X))
        clear hcell hcell2 e2 hf hg0 a0
        by_cases hk1 : f.k = 0
        · have b1 : (f.k == 0) = true := by simpa using hk1
          have HO := hidden (HFL.out (fun h => h.1 hk1))
          rw [b1] at HNU
          clear hk1
          go_wp2_with fail
          refine wp_region_loose (tabRs [(1, ConstV (.bool true))]) (by kernel_rfl) (by kernel_rfl) (tabRs_cons ConstV.lasts tabRs_nil) ?_
          iterate 1 ((with_reducible refine loose_one (v := ?_) (a' := ?_) ?_ ?_ (fun w' hC' hG' => ?_) ?_ ?_); rotate_left 2; (focus rfl); (focus rfl); (focus (obtain ⟨k1, k2, k3, k0⟩ := HX.out w' hC'; clear hC' hG'; go_simp; rfl)); (focus (go_simp; rfl)))
          refine loose_call (R := ConstV (.bool true)) (f := 40) (args := #[.agg #[.int .i64 f.k, .int .i64 f.n, .string f.t]]) (by rfl) (by rfl) (fun _ => by go_simp) (fun w' hC' hG' => HNU.out w') ?_
          rintro _ ⟨_, _, rfl⟩
          refine ⟨?_, ?_, ?_⟩
          rotate_left
          · go_simp
            rfl
          iterate 1 ((with_reducible refine loose_one (v := ?_) (a' := ?_) ?_ ?_ (fun w' hC' hG' => ?_) ?_ ?_); rotate_left 2; (focus rfl); (focus rfl); (focus (obtain ⟨k1, k2, k3, k0⟩ := HX.out w' hC'; clear hC' hG'; go_simp; rfl)); (focus (go_simp; rfl)))
          iterate 7 ((with_reducible refine loose_skip (a' := ?_) ?_ ?_ ?_); rotate_left 1; (focus rfl); (focus (go_simp; rfl)))
          iterate 2 ((with_reducible refine loose_one (v := ?_) (a' := ?_) ?_ ?_ (fun w' hC' hG' => ?_) ?_ ?_); rotate_left 2; (focus rfl); (focus rfl); (focus (obtain ⟨k1, k2, k3, k0⟩ := HX.out w' hC'; clear hC' hG'; go_simp; rfl)); (focus (go_simp; rfl)))
          iterate 3 ((with_reducible refine loose_skip (a' := ?_) ?_ ?_ ?_); rotate_left 1; (focus rfl); (focus (go_simp; rfl)))
          iterate 1 ((with_reducible refine loose_one (v := ?_) (a' := ?_) ?_ ?_ (fun w' hC' hG' => ?_) ?_ ?_); rotate_left 2; (focus rfl); (focus rfl); (focus (obtain ⟨k1, k2, k3, k0⟩ := HX.out w' hC'; clear hC' hG'; go_simp; rfl)); (focus (go_simp; rfl)))
          refine loose_done (fun w5 hC5 hG5 => ?_)
          have HB5 := hidden (HB1.out.of_below hC5)
          clear hC5 hG5
          go_wp2_with fail
          go_ret
          exact ⟨by rw [HO.out]; first | done | rfl, HB5.out⟩
        have b1 : (f.k == 0) = false := by simpa using hk1
        rw [b1] at HNU
        by_cases hkk : f.k = g.k
        · have b2 : (f.k == g.k) = true := by simpa using hkk
          rw [← hkk] at HX
          cases hvb : validV f.k f.n f.t with
          | false =>
            rw [hvb] at HVA
            have HO := hidden (HFL.out (fun h => by have := h.2.2; rw [hvb] at this; cases this))
            clear hk1 hkk
            go_wp2_with fail
            refine wp_region_loose (tabRs [(1, ConstV (.bool false)), (13, ConstV (.bool false))]) (by kernel_rfl) (by kernel_rfl) (tabRs_cons ConstV.lasts (tabRs_cons ConstV.lasts tabRs_nil)) ?_
            iterate 1 ((with_reducible refine loose_one (v := ?_) (a' := ?_) ?_ ?_ (fun w' hC' hG' => ?_) ?_ ?_); rotate_left 2; (focus rfl); (focus rfl); (focus (obtain ⟨k1, k2, k3, k0⟩ := HX.out w' hC'; clear hC' hG'; go_simp; rfl)); (focus (go_simp; rfl)))
            refine loose_call (R := ConstV (.bool false)) (f := 40) (args := #[.agg #[.int .i64 f.k, .int .i64 f.n, .string f.t]]) (by rfl) (by rfl) (fun _ => by go_simp) (fun w' hC' hG' => HNU.out w') ?_
            rintro _ ⟨_, _, rfl⟩
            refine ⟨?_, ?_, ?_⟩
            rotate_left
            · go_simp
              rfl
            iterate 11 ((with_reducible refine loose_one (v := ?_) (a' := ?_) ?_ ?_ (fun w' hC' hG' => ?_) ?_ ?_); rotate_left 2; (focus rfl); (focus rfl); (focus (obtain ⟨k1, k2, k3, k0⟩ := HX.out w' hC'; clear hC' hG'; go_simp; rfl)); (focus (go_simp; rfl)))
            refine loose_call (R := ConstV (.bool false)) (f := 124) (args := #[.agg #[.int .i64 f.k, .int .i64 f.n, .string f.t]]) (by rfl) (by rfl) (fun _ => by go_simp) (fun w' hC' hG' => HVA.out w') ?_
            rintro _ ⟨_, _, rfl⟩
            refine ⟨?_, ?_, ?_⟩
            rotate_left
            · go_simp
              rfl
            iterate 2 ((with_reducible refine loose_one (v := ?_) (a' := ?_) ?_ ?_ (fun w' hC' hG' => ?_) ?_ ?_); rotate_left 2; (focus rfl); (focus rfl); (focus (obtain ⟨k1, k2, k3, k0⟩ := HX.out w' hC'; clear hC' hG'; go_simp; rfl)); (focus (go_simp; rfl)))
            refine loose_done (fun w5 hC5 hG5 => ?_)
            have HB5 := hidden (HB1.out.of_below hC5)
            clear hC5 hG5
            go_wp2_with fail
            go_ret
            exact ⟨by rw [HO.out]; first | done | rfl, HB5.out⟩
          | true =>
            rw [hvb] at HVA
            have HN := hidden (show ∀ (j : Nat) (f : Val), j < k + 1 → fs[j]? = some f → fnOk f (kindK fs) from fun j f' hj hf' => by
              rcases Nat.lt_succ_iff_lt_or_eq.1 hj with h | h
              · exact HOK.out j f' h hf'
              · rw [h, HFF.out] at hf'
                injection hf' with hf'
                subst hf'
                exact ⟨hk1, hkk.trans HKK.out.symm, hvb⟩)
            clear hk1 hkk
            go_wp2_with fail
            refine wp_region_loose (tabRs [(1, ConstV (.bool false)), (13, ConstV (.bool true))]) (by kernel_rfl) (by kernel_rfl) (tabRs_cons ConstV.lasts (tabRs_cons ConstV.lasts tabRs_nil)) ?_
            iterate 1 ((with_reducible refine loose_one (v := ?_) (a' := ?_) ?_ ?_ (fun w' hC' hG' => ?_) ?_ ?_); rotate_left 2; (focus rfl); (focus rfl); (focus (obtain ⟨k1, k2, k3, k0⟩ := HX.out w' hC'; clear hC' hG'; go_simp; rfl)); (focus (go_simp; rfl)))
            refine loose_call (R := ConstV (.bool false)) (f := 40) (args := #[.agg #[.int .i64 f.k, .int .i64 f.n, .string f.t]]) (by rfl) (by rfl) (fun _ => by go_simp) (fun w' hC' hG' => HNU.out w') ?_
            rintro _ ⟨_, _, rfl⟩
            refine ⟨?_, ?_, ?_⟩
            rotate_left
            · go_simp
              rfl
            iterate 11 ((with_reducible refine loose_one (v := ?_) (a' := ?_) ?_ ?_ (fun w' hC' hG' => ?_) ?_ ?_); rotate_left 2; (focus rfl); (focus rfl); (focus (obtain ⟨k1, k2, k3, k0⟩ := HX.out w' hC'; clear hC' hG'; go_simp; rfl)); (focus (go_simp; rfl)))
            refine loose_call (R := ConstV (.bool true)) (f := 124) (args := #[.agg #[.int .i64 f.k, .int .i64 f.n, .string f.t]]) (by rfl) (by rfl) (fun _ => by go_simp) (fun w' hC' hG' => HVA.out w') ?_
            rintro _ ⟨_, _, rfl⟩
            refine ⟨?_, ?_, ?_⟩
            rotate_left
            · go_simp
              rfl
            iterate 2 ((with_reducible refine loose_one (v := ?_) (a' := ?_) ?_ ?_ (fun w' hC' hG' => ?_) ?_ ?_); rotate_left 2; (focus rfl); (focus rfl); (focus (obtain ⟨k1, k2, k3, k0⟩ := HX.out w' hC'; clear hC' hG'; go_simp; rfl)); (focus (go_simp; rfl)))
            refine loose_done (fun w5 hC5 hG5 => ?_)
            have HB5 := hidden (HB1.out.of_below hC5)
            clear hC5 hG5
            go_wp2_with fail
            go_roundw
            case rel => exact ⟨k + 1, HLT.out, by go_num, HN.out, HB5.out⟩
            case measure => have := HLT.out; simp [intOf]; omega
        · have b2 : (f.k == g.k) = false := by simpa using hkk
          have b3 : (f.k != g.k) = true := by simpa using hkk
          have b4 : ¬ f.k = g.k := hkk
          have HO := hidden (HFL.out (fun h => hkk h.2.1))
          clear hk1 hkk
          go_wp2_with fail
          refine wp_region_loose (tabRs [(1, ConstV (.bool false))]) (by kernel_rfl) (by kernel_rfl) (tabRs_cons ConstV.lasts tabRs_nil) ?_
          iterate 1 ((with_reducible refine loose_one (v := ?_) (a' := ?_) ?_ ?_ (fun w' hC' hG' => ?_) ?_ ?_); rotate_left 2; (focus rfl); (focus rfl); (focus (obtain ⟨k1, k2, k3, k0⟩ := HX.out w' hC'; clear hC' hG'; go_simp; rfl)); (focus (go_simp; rfl)))
          refine loose_call (R := ConstV (.bool false)) (f := 40) (args := #[.agg #[.int .i64 f.k, .int .i64 f.n, .string f.t]]) (by rfl) (by rfl) (fun _ => by go_simp) (fun w' hC' hG' => HNU.out w') ?_
          rintro _ ⟨_, _, rfl⟩
          refine ⟨?_, ?_, ?_⟩
          rotate_left
          · go_simp
            rfl
          iterate 10 ((with_reducible refine loose_one (v := ?_) (a' := ?_) ?_ ?_ (fun w' hC' hG' => ?_) ?_ ?_); rotate_left 2; (focus rfl); (focus rfl); (focus (obtain ⟨k1, k2, k3, k0⟩ := HX.out w' hC'; clear hC' hG'; go_simp; rfl)); (focus (go_simp; rfl)))
          iterate 3 ((with_reducible refine loose_skip (a' := ?_) ?_ ?_ ?_); rotate_left 1; (focus rfl); (focus (go_simp; rfl)))
          iterate 1 ((with_reducible refine loose_one (v := ?_) (a' := ?_) ?_ ?_ (fun w' hC' hG' => ?_) ?_ ?_); rotate_left 2; (focus rfl); (focus rfl); (focus (obtain ⟨k1, k2, k3, k0⟩ := HX.out w' hC'; clear hC' hG'; go_simp; rfl)); (focus (go_simp; rfl)))
          refine loose_done (fun w5 hC5 hG5 => ?_)
          have HB5 := hidden (HB1.out.of_below hC5)
          clear hC5 hG5
          go_wp2_with fail
          go_ret
          exact ⟨by rw [HO.out]; first | done | rfl, HB5.out⟩
      · have hd : decide (k < fs.length) = false := by simpa using hlt
        have hd2 : decide ((k : Int) < (fs.length : Int)) = false := by simpa using hlt
        have HIW := hidden (HI.out wr HB.out)
        have HO := hidden (show out = adjB (fun i => lcX (fs.getD i ⟨0, 0, .empty⟩) (fs.getD (i + 1) ⟨0, 0, .empty⟩)) fs.length by
          cases ha : adjB (fun i => lcX (fs.getD i ⟨0, 0, .empty⟩) (fs.getD (i + 1) ⟨0, 0, .empty⟩)) fs.length with
          | true => exact HVT.out ⟨by have := H17.out; omega, HZ.out, fun i f hf => HOK.out i f (by have := (List.getElem?_eq_some_iff.1 hf).1; omega) hf, ha⟩
          | false => exact HVF.out (fun h => by rw [h.2.2.2] at ha; cases ha))
        generalize adjB (fun i => lcX (fs.getD i ⟨0, 0, .empty⟩) (fs.getD (i + 1) ⟨0, 0, .empty⟩)) fs.length = adj at *
        clear hlt hk
        go_wp2_with (go_at_call 125; refine (HIW.out).mono ?_; rintro e w2 ⟨rfl, g2⟩; have HG2 := hidden (HB.out.of_below g2); clear g2)
        go_ret
        exact ⟨by rw [HO.out]; first | done | rfl, HG2.out⟩
end Go.Proofs.YtoaklmceejeblaaGreat
/-
  Shaken: what the claims of this seat need of this text. No condition.
-/
namespace Go.Proofs.YtoaklmceejeblaaGreat
set_option maxRecDepth 8000
open Go.RowKit
set_option linter.unusedVariables false
set_option linter.unusedSimpArgs false
noncomputable def validKB (s : Sk) : Bool := decide (0 ≤ s.nulls) && decide (s.nulls ≤ s.rows) && validHB (s.rows - s.nulls) s.hs s.ok && validCB (s.rows - s.nulls) s.cm && vfnB (s.rows - s.nulls) s.fs && vrkB (s.rows - s.nulls) s.rk s.fs.length
set_option maxHeartbeats 8000000 in
theorem qValid_of (v : Value) (s : Sk) (w : World) (hk : IsK w v s) (hh : s.hs.length ≤ 1000000) (hl : s.fs.length ≤ 100000) (hrl : s.rk.length ≤ 1000000) (hrow : s.rows ≤ 9223372036854775807)
    (hvc : ∀ (X : World) (u : Value) (n : Int), 0 ≤ n → n ≤ 9223372036854775807 → Reads X u (icells s.cm) → Calls Tryz.prog 69 #[u, .int .i64 n] X fun e w' => e = .returned (.bool (validCB n s.cm)) ∧ Grows X w') :
    Calls Tryz.prog 18 #[v] w fun e w' => e = .returned (.bool (validKB s)) ∧ Grows w w' := by
  have HIK := hidden hk
  obtain ⟨A1, A2, A3, A4, c1, c2, c3, c4, rfl, -, h2, h3, -⟩ := hk
  obtain ⟨W0, hW0⟩ : ∃ W, W = (w.alloc (.cells #[.int .i64 s.rows, .int .i64 s.nulls, .slice A1 s.hs.length c1, .bool s.ok, .slice A2 s.cm.length c2, .slice A3 s.fs.length c3, .slice A4 s.rk.length c4] 29)) := ⟨_, rfl⟩
  have HW := hidden hW0
  have HG0 := hidden (show Grows w W0 by rw [hW0]; exact growK _ _)
  have HS0 := hidden (show Row W0 w.heap.size 29 [.int .i64 s.rows, .int .i64 s.nulls, .slice A1 s.hs.length c1, .bool s.ok, .slice A2 s.cm.length c2, .slice A3 s.fs.length c3, .slice A4 s.rk.length c4] by rw [hW0]; exact skrow_new _ _ _ _ _ _ _ _)
  have HX : Hid (∀ X, Grows W0 X → X.cell? ⟨w.heap.size, 0, none⟩ = some (.int .i64 s.rows) ∧ X.cell? ⟨w.heap.size, 1, none⟩ = some (.int .i64 s.nulls) ∧ X.cell? ⟨w.heap.size, 2, none⟩ = some (.slice A1 s.hs.length c1) ∧ X.cell? ⟨w.heap.size, 3, none⟩ = some (.bool s.ok) ∧ X.cell? ⟨w.heap.size, 4, none⟩ = some (.slice A2 s.cm.length c2) ∧ X.cell? ⟨w.heap.size, 5, none⟩ = some (.slice A3 s.fs.length c3) ∧ X.cell? ⟨w.heap.size, 6, none⟩ = some (.slice A4 s.rk.length c4)) := hidden fun X h => ⟨(HS0.out.grow h).cell 0, (HS0.out.grow h).cell 1, (HS0.out.grow h).cell 2, (HS0.out.grow h).cell 3, (HS0.out.grow h).cell 4, (HS0.out.grow h).cell 5, (HS0.out.grow h).cell 6⟩
  have HOUT := hidden (show validKB s = (decide (0 ≤ s.nulls) && decide (s.nulls ≤ s.rows) && validHB (s.rows - s.nulls) s.hs s.ok && validCB (s.rows - s.nulls) s.cm && vfnB (s.rows - s.nulls) s.fs && vrkB (s.rows - s.nulls) s.rk s.fs.length) from rfl)
  generalize validKB s = out at *
  by_cases hn0 : s.nulls < 0
  · have d1 : decide (s.nulls < 0) = true := decide_eq_true hn0
    have HO := hidden (show out = false by rw [HOUT.out, decide_eq_false (show ¬ 0 ≤ s.nulls by omega)]; simp)
    clear hn0 h2 h3 hW0
    go_enter Tryz.func18, Tryz.ntmps18
    go_wp2_with fail
    go_ret
    exact ⟨by rw [HO.out]; first | done | rfl, by rw [← HW.out]; exact HG0.out⟩
  have d1 : decide (s.nulls < 0) = false := decide_eq_false hn0
  by_cases hnr : s.rows < s.nulls
  · have d2 : decide (s.rows < s.nulls) = true := decide_eq_true hnr
    have HO := hidden (show out = false by rw [HOUT.out, decide_eq_false (show ¬ s.nulls ≤ s.rows by omega)]; simp)
    clear hn0 hnr h2 h3 hW0
    go_enter Tryz.func18, Tryz.ntmps18
    go_wp2_with fail
    go_ret
    exact ⟨by rw [HO.out]; first | done | rfl, by rw [← HW.out]; exact HG0.out⟩
  have d2 : decide (s.rows < s.nulls) = false := decide_eq_false hnr
  rw [decide_eq_true (show 0 ≤ s.nulls by omega), decide_eq_true (show s.nulls ≤ s.rows by omega)] at HOUT
  have HP := hidden (fun X (_ : Grows W0 X) => qpresent_any s.rows s.nulls A1 A2 A3 A4 s.hs.length c1 s.cm.length c2 s.fs.length c3 s.rk.length c4 s.ok X ⟨by omega, by omega⟩)
  have H68 := hidden (fun X (h : Grows W0 X) => qvalidHashes_any (.agg #[.int .i64 s.rows, .int .i64 s.nulls, .slice A1 s.hs.length c1, .bool s.ok, .slice A2 s.cm.length c2, .slice A3 s.fs.length c3, .slice A4 s.rk.length c4]) s (s.rows - s.nulls) X (HIK.out.grow (HG0.out.of_below h)) hh)
  have h2' : ∀ X, Grows W0 X → Reads X (.slice A2 s.cm.length c2) (icells s.cm) := fun X h => h2.grow (HG0.out.of_below h)
  have H69 := hidden (fun X (h : Grows W0 X) => hvc X (.slice A2 s.cm.length c2) (s.rows - s.nulls) (by omega) (by omega) (h2' X h))
  have H70 := hidden (fun X (h : Grows W0 X) => qvalidFences_any (.slice A3 s.fs.length c3) s.fs (s.rows - s.nulls) X (h3.grow (HG0.out.of_below h)) hl)
  have H71 := hidden (fun X (h : Grows W0 X) => qvalidRanks_any (.agg #[.int .i64 s.rows, .int .i64 s.nulls, .slice A1 s.hs.length c1, .bool s.ok, .slice A2 s.cm.length c2, .slice A3 s.fs.length c3, .slice A4 s.rk.length c4]) s (s.rows - s.nulls) X (HIK.out.grow (HG0.out.of_below h)) hl hrl)
  generalize validHB (s.rows - s.nulls) s.hs s.ok = vh at *
  generalize validCB (s.rows - s.nulls) s.cm = vc at *
  generalize vfnB (s.rows - s.nulls) s.fs = vf at *
  generalize vrkB (s.rows - s.nulls) s.rk s.fs.length = vr at *
  generalize s.rows - s.nulls = n at *
  clear hn0 hnr h2 h3 h2' hvc hW0
  have HC0 : Hid (Grows W0 W0) := hidden (Below.refl _ _)
  have HCW0 := HC0
  cases vh with
  | false =>
    have HO := hidden (show out = false by rw [HOUT.out]; simp)
    clear HOUT
    go_enter Tryz.func18, Tryz.ntmps18
    go_wp2_with fail
    rw [← HW.out]
    refine (HP.out W0 HC0.out).mono ?_
    rintro e w1 ⟨rfl, gg⟩
    have HCw1 : Hid (Grows W0 w1) := hidden gg
    clear gg
    obtain ⟨s0, s1, s2, s3, s4, s5, s6⟩ := HX.out w1 HCw1.out
    go_wp2_with (go_at_call 68; refine (H68.out w1 HCw1.out).mono ?_; rintro e w2 ⟨rfl, gg⟩; have HCw2 := hidden (HCw1.out.of_below gg); clear gg s0 s1 s2 s3 s4 s5 s6; obtain ⟨s0, s1, s2, s3, s4, s5, s6⟩ := HX.out w2 HCw2.out)
    go_ret
    exact ⟨by rw [HO.out]; first | done | rfl, HG0.out.of_below HCw2.out⟩
  | true =>
  cases vc with
  | false =>
    have HO := hidden (show out = false by rw [HOUT.out]; simp)
    clear HOUT
    go_enter Tryz.func18, Tryz.ntmps18
    go_wp2_with fail
    rw [← HW.out]
    refine (HP.out W0 HC0.out).mono ?_
    rintro e w1 ⟨rfl, gg⟩
    have HCw1 : Hid (Grows W0 w1) := hidden gg
    clear gg
    obtain ⟨s0, s1, s2, s3, s4, s5, s6⟩ := HX.out w1 HCw1.out
    go_wp2_with (first | (go_at_call 68; refine (H68.out w1 HCw1.out).mono ?_; rintro e w2 ⟨rfl, gg⟩; have HCw2 := hidden (HCw1.out.of_below gg); clear gg s0 s1 s2 s3 s4 s5 s6; obtain ⟨s0, s1, s2, s3, s4, s5, s6⟩ := HX.out w2 HCw2.out) | (go_at_call 69; refine (H69.out w2 HCw2.out).mono ?_; rintro e w3 ⟨rfl, gg⟩; have HCw3 := hidden (HCw2.out.of_below gg); clear gg s0 s1 s2 s3 s4 s5 s6; obtain ⟨s0, s1, s2, s3, s4, s5, s6⟩ := HX.out w3 HCw3.out))
    go_ret
    exact ⟨by rw [HO.out]; first | done | rfl, HG0.out.of_below HCw3.out⟩
  | true =>
  cases vf with
  | false =>
    have HO := hidden (show out = false by rw [HOUT.out]; simp)
    clear HOUT
    go_enter Tryz.func18, Tryz.ntmps18
    go_wp2_with fail
    rw [← HW.out]
    refine (HP.out W0 HC0.out).mono ?_
    rintro e w1 ⟨rfl, gg⟩
    have HCw1 : Hid (Grows W0 w1) := hidden gg
    clear gg
    obtain ⟨s0, s1, s2, s3, s4, s5, s6⟩ := HX.out w1 HCw1.out
    go_wp2_with (first | (go_at_call 68; refine (H68.out w1 HCw1.out).mono ?_; rintro e w2 ⟨rfl, gg⟩; have HCw2 := hidden (HCw1.out.of_below gg); clear gg s0 s1 s2 s3 s4 s5 s6; obtain ⟨s0, s1, s2, s3, s4, s5, s6⟩ := HX.out w2 HCw2.out) | (go_at_call 69; refine (H69.out w2 HCw2.out).mono ?_; rintro e w3 ⟨rfl, gg⟩; have HCw3 := hidden (HCw2.out.of_below gg); clear gg s0 s1 s2 s3 s4 s5 s6; obtain ⟨s0, s1, s2, s3, s4, s5, s6⟩ := HX.out w3 HCw3.out) | (go_at_call 70; refine (H70.out w3 HCw3.out).mono ?_; rintro e w4 ⟨rfl, gg⟩; have HCw4 := hidden (HCw3.out.of_below gg); clear gg s0 s1 s2 s3 s4 s5 s6; obtain ⟨s0, s1, s2, s3, s4, s5, s6⟩ := HX.out w4 HCw4.out))
    go_ret
    exact ⟨by rw [HO.out]; first | done | rfl, HG0.out.of_below HCw4.out⟩
  | true =>
    have HO := hidden (show out = vr by rw [HOUT.out]; simp)
    clear HOUT
    go_enter Tryz.func18, Tryz.ntmps18
    go_wp2_with fail
    rw [← HW.out]
    refine (HP.out W0 HC0.out).mono ?_
    rintro e w1 ⟨rfl, gg⟩
    have HCw1 : Hid (Grows W0 w1) := hidden gg
    clear gg
    obtain ⟨s0, s1, s2, s3, s4, s5, s6⟩ := HX.out w1 HCw1.out
    go_wp2_with (first | (go_at_call 68; refine (H68.out w1 HCw1.out).mono ?_; rintro e w2 ⟨rfl, gg⟩; have HCw2 := hidden (HCw1.out.of_below gg); clear gg s0 s1 s2 s3 s4 s5 s6; obtain ⟨s0, s1, s2, s3, s4, s5, s6⟩ := HX.out w2 HCw2.out) | (go_at_call 69; refine (H69.out w2 HCw2.out).mono ?_; rintro e w3 ⟨rfl, gg⟩; have HCw3 := hidden (HCw2.out.of_below gg); clear gg s0 s1 s2 s3 s4 s5 s6; obtain ⟨s0, s1, s2, s3, s4, s5, s6⟩ := HX.out w3 HCw3.out) | (go_at_call 70; refine (H70.out w3 HCw3.out).mono ?_; rintro e w4 ⟨rfl, gg⟩; have HCw4 := hidden (HCw3.out.of_below gg); clear gg s0 s1 s2 s3 s4 s5 s6; obtain ⟨s0, s1, s2, s3, s4, s5, s6⟩ := HX.out w4 HCw4.out) | (go_at_call 71; refine (H71.out w4 HCw4.out).mono ?_; rintro e w5 ⟨rfl, gg⟩; have HCw5 := hidden (HCw4.out.of_below gg); clear gg s0 s1 s2 s3 s4 s5 s6; obtain ⟨s0, s1, s2, s3, s4, s5, s6⟩ := HX.out w5 HCw5.out))
    go_ret
    exact ⟨by rw [HO.out]; first | done | rfl, HG0.out.of_below HCw5.out⟩
end Go.Proofs.YtoaklmceejeblaaGreat
/-
  Shaken: what the claims of this seat need of this text. No condition.
-/
namespace Go.Proofs.YtoaklmceejeblaaGreat
set_option maxRecDepth 8000
open Go.RowKit
set_option linter.unusedVariables false
set_option linter.unusedSimpArgs false
theorem wpList_index_64 {wr : World} {ops : Array Oper} {rest : List Oper} {o : Oper} {a : Act} {Q : Exit → Act → World → Prop} (hgd : o.guard = none) (x y : Operand) (ho : o.op = .index 65 x y)
    (l : List Int) (hx : a.eval x = .agg (icells l).toArray) (hl : l.length = 64) (k : Nat) (hk : k < 64) (hy : a.eval y = .int .i64 (k : Int)) (c : Int) (hc : l[k]? = some c)
    (h : wpList Tryz.prog ops Q rest (a.put o.dst (.int .i64 c)) wr) : wpList Tryz.prog ops Q (o :: rest) a wr := by
  refine wpList_plain hgd fun K hK => ?_
  unfold Oper.wp execOp
  simp only [ho, hx, hy]
  simp only [Instr.index, asIntOf, Sem.run_bind, Sem.run_pure, Result.andThen_ok, run_underlying Tryz.underlying65]
  rw [if_pos (⟨by omega, by omega⟩ : (0 : Int) ≤ (k : Int) ∧ (k : Int) < ((64 : Nat) : Int))]
  have hs : (sizeOf 3).run Tryz.prog wr = .ok 1 wr := by first | rfl | kernel_rfl
  have hp : (part 3 (icells l).toArray k).run Tryz.prog wr = .ok (.int .i64 c) wr := run_part_plain wr (by kernel_rfl) (by simp [icells, hc])
  simp only [Sem.run_bind, hs, Result.andThen_ok, Int.toNat_natCast, Nat.mul_one, hp]
  exact hK _ _ h
theorem at_idx64 {wr : World} {ops : Array Oper} {rest : List Oper} {o : Oper} {a : Act} {Q : Exit → Act → World → Prop} (hgd : o.guard = none) (x y : Operand) (ho : o.op = .index 65 x y) (h : wpList Tryz.prog ops Q (o :: rest) a wr) : wpList Tryz.prog ops Q (o :: rest) a wr := h
theorem at_idx256 {wr : World} {ops : Array Oper} {rest : List Oper} {o : Oper} {a : Act} {Q : Exit → Act → World → Prop} (hgd : o.guard = none) (x y : Operand) (ho : o.op = .index 67 x y) (h : wpList Tryz.prog ops Q (o :: rest) a wr) : wpList Tryz.prog ops Q (o :: rest) a wr := h
theorem wpList_index_256 {wr : World} {ops : Array Oper} {rest : List Oper} {o : Oper} {a : Act} {Q : Exit → Act → World → Prop} (hgd : o.guard = none) (x y : Operand) (ho : o.op = .index 67 x y)
    (l : List Int) (hx : a.eval x = .agg (icells l).toArray) (k : Nat) (hk : k < 4) (hy : a.eval y = .int .i64 (k : Int))
    (h : wpList Tryz.prog ops Q rest (a.put o.dst (.agg (icells ((l.drop (64 * k)).take 64)).toArray)) wr) : wpList Tryz.prog ops Q (o :: rest) a wr := by
  refine wpList_plain hgd fun K hK => ?_
  unfold Oper.wp execOp
  simp only [ho, hx, hy]
  simp only [Instr.index, asIntOf, Sem.run_bind, Sem.run_pure, Result.andThen_ok, run_underlying Tryz.underlying67]
  rw [if_pos (⟨by omega, by omega⟩ : (0 : Int) ≤ (k : Int) ∧ (k : Int) < ((4 : Nat) : Int))]
  have hs : (sizeOf 65).run Tryz.prog wr = .ok 64 wr := by first | rfl | kernel_rfl
  have ha : (isAgg 65).run Tryz.prog wr = .ok true wr := by first | rfl | kernel_rfl
  have he : (icells l).toArray.extract (k * 64) (k * 64 + 64) = (icells ((l.drop (64 * k)).take 64)).toArray := by
    rw [List.extract_toArray, List.extract_eq_take_drop, Nat.add_sub_cancel_left, Nat.mul_comm k 64]
    simp [icells]
  have hp : (part 65 (icells l).toArray (k * 64)).run Tryz.prog wr = .ok (.agg (icells ((l.drop (64 * k)).take 64)).toArray) wr := by
    unfold part
    simp only [Sem.run_bind, ha, hs, Result.andThen_ok, if_true, Sem.run_pure, he]
  simp only [Sem.run_bind, hs, Result.andThen_ok, Int.toNat_natCast, hp]
  exact hK _ _ h
end Go.Proofs.YtoaklmceejeblaaGreat
/-
  Shaken: what the claims of this seat need of this text. No condition.
-/
namespace Go.Proofs.YtoaklmceejeblaaGreat
open Go.RowKit
set_option linter.unusedVariables false
set_option linter.unusedSimpArgs false
set_option maxRecDepth 20000 in
theorem zero64 : (Tryz.prog.info? 65).map (fun i => (i.zero, i.size)) = some (some (.agg (Array.replicate 64 (.int .i64 0))), 64) := by kernel_rfl
theorem at_row64 {wr : World} {ops : Array Oper} {rest : List Oper} {op : Oper} {a : Act} {Q : Exit → Act → World → Prop} (hgd : op.guard = none) (x y : Operand) (ho : op.op = .store 65 x y) (h : wpList Tryz.prog ops Q (op :: rest) a wr) : wpList Tryz.prog ops Q (op :: rest) a wr := h
theorem at_ld64 {wr : World} {ops : Array Oper} {rest : List Oper} {op : Oper} {a : Act} {Q : Exit → Act → World → Prop} (hgd : op.guard = none) (x : Operand) (ho : op.op = .load 65 x) (h : wpList Tryz.prog ops Q (op :: rest) a wr) : wpList Tryz.prog ops Q (op :: rest) a wr := h
theorem wpList_store_64 {wr : World} {ops : Array Oper} {rest : List Oper} {o : Oper} {a : Act} {Q : Exit → Act → World → Prop} (hgd : o.guard = none) (x y : Operand) (ho : o.op = .store 65 x y)
    (g : Nat) (hx : a.eval x = .pointer (some ⟨g, 0, none⟩)) (T : List Value) (hy : a.eval y = .agg T.toArray) (hl : T.length = 64) (h1 : ∀ v ∈ T, v.oneCell' = true) (zs : List Value) (hr : Row wr g 65 zs) (hz : zs.length = 64)
    (hk : ∀ W, Row W g 65 T → (∀ w0, Grows w0 wr → w0.heap.size ≤ g → Grows w0 W) → wpList Tryz.prog ops Q rest (a.put o.dst undef) W) : wpList Tryz.prog ops Q (o :: rest) a wr := by
  have hi := (zero_of_info (P := Tryz.prog) zero64).2
  refine wpList_store_row hgd _ x y ho g T.toArray hx hy 65 zs.toArray hr (by rw [hi, List.size_toArray, hl]) (by rw [List.size_toArray, List.size_toArray, hl, hz]) ?_ (hk _ (hr.setRowK T) (fun w0 h0 hg => below_setRowK h0 hg _))
  rw [Array.all_eq_true_iff_forall_mem]
  intro v hv
  exact h1 v (by simpa using hv)
theorem row_640 (w : World) : Row (w.alloc (.cells (Array.replicate 64 (.int .i64 0)) 65)) w.heap.size 65 (List.replicate 64 (.int .i64 0)) := by
  rw [show Array.replicate 64 (Value.int .i64 0) = (List.replicate 64 (Value.int .i64 0)).toArray by rw [List.toArray_replicate]]
  exact Row.new w 65 (List.replicate 64 (Value.int .i64 0)).toArray (List.replicate 64 (Value.int .i64 0)) rfl
def VcoRel (w : World) (n : Int) (cm : List Int) (i : Value) (wr : World) : Prop := ∃ k : Nat, k ≤ 4 ∧ i = .int .i64 (k : Int) ∧ (∀ r, r < k → rowP n cm r) ∧ Grows w wr
def VciRel (w : World) (n : Int) (cm : List Int) (k : Nat) (l i : Value) (wr : World) : Prop := ∃ j : Nat, j ≤ 64 ∧ i = .int .i64 (j : Int) ∧ l = .int .i64 (n - sumF cm (64 * k) j) ∧ 0 ≤ n - sumF cm (64 * k) j ∧ 0 ≤ sumF cm (64 * k) j ∧ (∀ c, c < j → 0 ≤ cm.getD (64 * k + c) 0) ∧ Grows w wr
set_option maxRecDepth 8000 in
set_option maxHeartbeats 8000000 in
theorem qvalidCounters_any (cm : List Int) (X : World) (u : Value) (n : Int) (hn0 : 0 ≤ n) (hn1 : n ≤ 9223372036854775807) (hv : Reads X u (icells cm)) :
    Calls Tryz.prog 69 #[u, .int .i64 n] X fun e w' => e = .returned (.bool (validCB n cm)) ∧ Grows X w' := by
  obtain ⟨hz, hi⟩ := zero_of_info (P := Tryz.prog) zero64
  have HV := hidden hv
  have HVT := hidden (fun h : validCP n cm => validCB_t h)
  have HVF := hidden (fun h : ¬ validCP n cm => validCB_f h)
  generalize validCB n cm = out at *
  obtain ⟨A, c, rfl, -⟩ := hv
  rw [icells_length] at HV ⊢
  by_cases hl : cm.length = 256
  case neg =>
    have HO := hidden (HVF.out (fun h => hl h.1))
    have d1 : (cm.length == 256) = false := by simpa using hl
    have d2 : ((cm.length : Int) == 256) = false := beq_eq_false_iff_ne.2 (by omega)
    have d3 : ¬ (cm.length : Int) = 256 := by omega
    generalize cm.length = L at *
    go_enter Tryz.func69, Tryz.ntmps69
    go_wp2_with fail
    go_ret
    exact ⟨by rw [HO.out]; first | done | rfl, Below.refl _ _⟩
  case pos =>
    have HL := hidden hl
    have HCO := hidden (qcountersOf_any (.slice A cm.length c) cm X HV.out hl)
    rw [hl] at HCO ⊢
    clear hl HV
    go_enter Tryz.func69, Tryz.ntmps69
    go_wp2_with fail
    refine (HCO.out).mono ?_
    rintro e w1 ⟨rfl, g1⟩
    have HG1 := hidden g1
    clear g1 HCO
    go_wp2_with fail
    go_loopw [15] (fun i wr => VcoRel X n cm i wr) (fun i _ => 4 - (intOf i).toNat)
    case atStart => exact ⟨0, Nat.zero_le _, rfl, fun r hr => absurd hr (by omega), HG1.out⟩
    case round =>
      obtain ⟨k, hk, rfl, hok, hb⟩ := hrel
      have HB := hidden hb
      have HOK := hidden hok
      clear hb hok
      by_cases hlt : k < 4
      · have HLT := hidden hlt
        have hd : decide (k < 4) = true := by simpa using hlt
        have hd2 : decide ((k : Int) < 4) = true := decide_eq_true (by omega)
        have HFL := hidden (fun (h : ¬ rowP n cm k) => HVF.out (fun hv => h (hv.2 k HLT.out)))
        have HRL := hidden (show ((cm.drop (64 * k)).take 64).length = 64 by rw [List.length_take, List.length_drop, HL.out]; omega)
        have HRG := hidden (show ∀ j, j < 64 → ((cm.drop (64 * k)).take 64)[j]? = some (cm.getD (64 * k + j) 0) from fun j hj => by
          rw [List.getElem?_take, if_pos hj, List.getElem?_drop, List.getD_eq_getElem?_getD, List.getElem?_eq_getElem (by rw [HL.out]; omega)]
          rfl)
        have HIL := hidden (show (icells ((cm.drop (64 * k)).take 64)).length = 64 by rw [icells_length, HRL.out])
        have HOC := hidden (icells_oneCell_mem ((cm.drop (64 * k)).take 64))
        rename World => wo
        go_wp2_with (first | ((with_reducible refine at_idx256 rfl _ _ rfl ?_); refine wpList_index_256 rfl _ _ rfl cm rfl k HLT.out rfl ?_) | ((with_reducible refine at_row64 rfl _ _ rfl ?_); refine wpList_store_64 rfl _ _ rfl wo.heap.size rfl (icells ((cm.drop (64 * k)).take 64)) rfl HIL.out HOC.out (List.replicate 64 (.int .i64 0)) (row_640 wo) (List.length_replicate ..) ?_; intro w2 hr hg; have HR2 := hidden hr; have HB2 := hidden (HB.out.of_below (hg wo (growK _ _) (Nat.le_refl _))); clear hr hg) | ((with_reducible refine at_ld64 rfl _ rfl ?_); refine wpList_load_row rfl _ _ rfl wo.heap.size rfl 65 (icells ((cm.drop (64 * k)).take 64)).toArray (0, 0) _ HR2.out Tryz.underlying65 rfl (by rw [hi, List.size_toArray, HIL.out]) ?_))
        go_loopw [7, 9, 20] (fun l _ i wr => VciRel X n cm k l i wr) (fun _ _ i _ => 64 - (intOf i).toNat)
        case atStart => exact ⟨0, Nat.zero_le _, rfl, by simp [sumF], by simpa [sumF] using hn0, by simp [sumF], fun c hc => absurd hc (by omega), HB2.out⟩
        case round =>
          obtain ⟨j, hj, rfl, rfl, h0, h1, hp, hb⟩ := hrel
          have HBJ := hidden hb
          have HPJ := hidden hp
          clear hb hp
          by_cases hjl : j < 64
          · have HJ := hidden hjl
            have hd3 : decide (j < 64) = true := by simpa using hjl
            have hd4 : decide ((j : Int) < 64) = true := decide_eq_true (by omega)
            have HXJ := hidden (HRG.out j hjl)
            have HSS := hidden (show sumF cm (64 * k) (j + 1) = sumF cm (64 * k) j + cm.getD (64 * k + j) 0 from rfl)
            have HNG := hidden (fun h : cm.getD (64 * k + j) 0 < 0 => row_neg (n := n) hjl h)
            have HBG := hidden (fun h : n - sumF cm (64 * k) j < cm.getD (64 * k + j) 0 => row_big (n := n) hjl h)
            have HXX := hidden (show cm.getD (64 * k + j) 0 = cm.getD (64 * k + j) 0 from rfl)
            obtain ⟨x, hx⟩ : ∃ x, x = cm.getD (64 * k + j) 0 := ⟨_, rfl⟩
            obtain ⟨S, hS⟩ : ∃ S, S = sumF cm (64 * k) j := ⟨_, rfl⟩
            rw [← hx] at HXJ HSS HNG HBG
            rw [← hS] at HSS HBG h0 h1 ⊢
            have HXE := hidden hx
            clear hx hS HXX
            by_cases hx0 : x < 0
            · have f1 : decide (x < 0) = true := decide_eq_true hx0
              have HO := hidden (HFL.out (HNG.out hx0))
              clear hx0 hjl hlt
              go_wp2_with ((with_reducible refine at_idx64 rfl _ _ rfl ?_); refine wpList_index_64 rfl _ _ rfl ((cm.drop (64 * k)).take 64) rfl HRL.out j HJ.out rfl x HXJ.out ?_)
              go_ret
              exact ⟨by rw [HO.out]; first | done | rfl, HBJ.out⟩
            have f1 : decide (x < 0) = false := decide_eq_false hx0
            by_cases hx1 : n - S < x
            · have f2 : decide (n - S < x) = true := decide_eq_true hx1
              have HO := hidden (HFL.out (HBG.out hx1))
              clear hx0 hx1 hjl hlt
              go_wp2_with ((with_reducible refine at_idx64 rfl _ _ rfl ?_); refine wpList_index_64 rfl _ _ rfl ((cm.drop (64 * k)).take 64) rfl HRL.out j HJ.out rfl x HXJ.out ?_)
              go_ret
              exact ⟨by rw [HO.out]; first | done | rfl, HBJ.out⟩
            have f2 : decide (n - S < x) = false := decide_eq_false hx1
            have f3 : IntKind.i64.wrap (n - S - x) = n - S - x := by rw [IntKind.wrap_i64]; omega
            have HNN := hidden (show ∀ c, c < j + 1 → 0 ≤ cm.getD (64 * k + c) 0 from fun c hc => by
              rcases Nat.lt_succ_iff_lt_or_eq.1 hc with h | h
              · exact HPJ.out c h
              · rw [h, ← HXE.out]; omega)
            have HQ1 := hidden (show 0 ≤ n - S - x by omega)
            have HQ2 := hidden (show 0 ≤ S + x by omega)
            clear hx0 hx1 hjl hlt
            go_wp2_with ((with_reducible refine at_idx64 rfl _ _ rfl ?_); refine wpList_index_64 rfl _ _ rfl ((cm.drop (64 * k)).take 64) rfl HRL.out j HJ.out rfl x HXJ.out ?_)
            go_roundw
            case rel => exact ⟨j + 1, HJ.out, by go_num, by rw [HSS.out, Int.sub_sub], by rw [HSS.out]; have := HQ1.out; omega, by rw [HSS.out]; exact HQ2.out, HNN.out, HBJ.out⟩
            case measure => have := HJ.out; simp [intOf]; omega
          · have hj64 : j = 64 := by omega
            subst hj64
            have HRP := hidden (show rowP n cm k ↔ ((∀ c, c < 64 → 0 ≤ cm.getD (64 * k + c) 0) ∧ sumF cm (64 * k) 64 = n) from Iff.rfl)
            generalize sumF cm (64 * k) 64 = S at *
            by_cases hS : 0 < n - S
            · have f1 : decide (0 < n - S) = true := decide_eq_true hS
              have f2 : S < n := by omega
              have f3 : decide (S < n) = true := decide_eq_true f2
              have HO := hidden (HFL.out (fun h => by have := (HRP.out.1 h).2; omega))
              clear hS hlt hjl hj
              go_wp2_with fail
              go_ret
              exact ⟨by rw [HO.out]; first | done | rfl, HBJ.out⟩
            · have f1 : decide (0 < n - S) = false := decide_eq_false hS
              have f2 : ¬ S < n := by omega
              have f3 : decide (S < n) = false := decide_eq_false f2
              have HN := hidden (show ∀ r, r < k + 1 → rowP n cm r from fun r hr => by
                rcases Nat.lt_succ_iff_lt_or_eq.1 hr with h | h
                · exact HOK.out r h
                · rw [h]; exact HRP.out.2 ⟨HPJ.out, by omega⟩)
              clear hS hlt hjl hj
              go_wp2_with fail
              go_roundw
              case rel => exact ⟨k + 1, HLT.out, by go_num, HN.out, HBJ.out⟩
              case measure => have := HLT.out; simp [intOf]; omega
      · have hd : decide (k < 4) = false := by simpa using hlt
        have hd2 : decide ((k : Int) < 4) = false := decide_eq_false (by omega)
        have HO := hidden (HVT.out ⟨HL.out, fun r hr => HOK.out r (by omega)⟩)
        clear hlt hk
        go_wp2_with fail
        go_ret
        exact ⟨by rw [HO.out]; first | done | rfl, HB.out⟩
end Go.Proofs.YtoaklmceejeblaaGreat
/-
  Shaken: what the claims of this seat need of this text. No condition.
-/
namespace Go.Proofs.YtoaklmceejeblaaGreat
set_option maxRecDepth 8000
open Go.RowKit
set_option linter.unusedVariables false
set_option linter.unusedSimpArgs false
theorem qValid_any (v : Value) (s : Sk) (w : World) (hk : IsK w v s) (hh : s.hs.length ≤ 1000000) (hl : s.fs.length ≤ 100000) (hrl : s.rk.length ≤ 1000000) (hrow : s.rows ≤ 9223372036854775807) :
    Calls Tryz.prog 18 #[v] w fun e w' => e = .returned (.bool (validKB s)) ∧ Grows w w' :=
  qValid_of v s w hk hh hl hrl hrow (fun X u n h0 h1 hv => qvalidCounters_any s.cm X u n h0 h1 hv)
#print axioms qValid_any
end Go.Proofs.YtoaklmceejeblaaGreat
/-
  Shaken: what the claims of this seat need of this text. No condition.
-/
namespace Go.Proofs.YtoaklmceejeblaaGreat
set_option maxRecDepth 8000
open Go.RowKit
set_option linter.unusedVariables false
set_option linter.unusedSimpArgs false
def idxNull (l : List Val) : Int := match l.findIdx? (fun x => x.k == 0) with | some i => (i : Int) | none => -1
theorem idxNull_some {l : List Val} {k : Nat} {f : Val} (h : l[k]? = some f) (hf : f.k = 0) (hn : ∀ (j : Nat) (x : Val), j < k → l[j]? = some x → x.k ≠ 0) : idxNull l = (k : Int) := by
  unfold idxNull
  have e : l.findIdx? (fun x => x.k == 0) = some k := by
    obtain ⟨h1, h2⟩ := List.getElem?_eq_some_iff.1 h
    rw [List.findIdx?_eq_some_iff_getElem]
    refine ⟨h1, by rw [h2]; simpa using hf, fun j hj => ?_⟩
    have := hn j l[j] hj (List.getElem?_eq_getElem (by omega))
    simpa using this
  rw [e]
theorem idxNull_none {l : List Val} (hn : ∀ (j : Nat) (x : Val), l[j]? = some x → x.k ≠ 0) : idxNull l = -1 := by
  unfold idxNull
  have e : l.findIdx? (fun x => x.k == 0) = none := by
    rw [List.findIdx?_eq_none_iff]
    intro x hx
    obtain ⟨j, hj⟩ := List.getElem?_of_mem hx
    simpa using hn j x hj
  rw [e]
def IfnRel (w : World) (l : List Val) (i : Value) (wr : World) : Prop := ∃ k : Nat, k ≤ l.length ∧ i = .int .i64 (k : Int) ∧ (∀ (j : Nat) (x : Val), j < k → l[j]? = some x → x.k ≠ 0) ∧ Grows w wr
set_option maxHeartbeats 4000000 in
theorem qindexFunc_any (v : Value) (l : List Val) (w : World) (hv : ReadsV w v l) (hl : l.length ≤ 1000000) :
    Calls Tryz.prog 103 #[v, .func (.func 40) #[] #[]] w fun e w' => e = .returned (.int .i64 (idxNull l)) ∧ Grows w w' := by
  have HV := hidden (fun X (h : Grows w X) => hv.grow h)
  have HS := hidden (fun k f h hf hn => idxNull_some (l := l) (k := k) (f := f) h hf hn)
  have HNO := hidden (fun hn => idxNull_none (l := l) hn)
  generalize idxNull l = out at *
  obtain ⟨A, c, rfl, -⟩ := id hv
  clear hv
  go_enter Tryz.func103, Tryz.ntmps103
  go_wp2_with fail
  go_loopw [5, 8] (fun _ i wr => IfnRel w l i wr) (fun _ i _ => l.length - (intOf i).toNat)
  case atStart => exact ⟨0, Nat.zero_le _, rfl, fun j x hj => absurd hj (by omega), Below.refl _ _⟩
  case round =>
    obtain ⟨k, hk, rfl, hni, hb⟩ := hrel
    have HNI := hidden hni
    have HB := hidden hb
    clear hni hb
    by_cases hlt : k < l.length
    · have HLT := hidden hlt
      have hd : decide (k < l.length) = true := by simpa using hlt
      have hd2 : decide ((k : Int) < (l.length : Int)) = true := by simpa using hlt
      have hk0 : (0 : Int) ≤ (k : Int) := by omega
      have hk2 : (k : Int) < (l.length : Int) := by omega
      obtain ⟨A', c', he, _, hcell⟩ := HV.out wr HB.out
      injection he with e1 e2 e3
      subst e1 e3
      obtain ⟨bb, off, rfl, hcell2⟩ := hcell (by omega)
      obtain ⟨f, hf⟩ : ∃ f, l[k]? = some f := ⟨_, List.getElem?_eq_getElem hlt⟩
      obtain ⟨a1, a2, a3⟩ := hcell2 k f hf
      have HFF := hidden hf
      have HNU := hidden (fun X => qisNull_any f.k f.n f.t X)
      clear hcell hcell2 e2 hf
      by_cases h0 : f.k = 0
      · have HO := hidden (HS.out k f HFF.out h0 HNI.out)
        rw [show (f.k == 0) = true by simpa using h0] at HNU
        clear h0 hlt hk
        go_wp2_with (go_at_call 40; refine (HNU.out _).mono ?_; rintro e w2 ⟨rfl, g2⟩; have HG2 := hidden (HB.out.of_below g2); clear g2)
        go_ret
        exact ⟨by rw [HO.out]; first | done | rfl, HG2.out⟩
      · have HN := hidden (show ∀ (j : Nat) (x : Val), j < k + 1 → l[j]? = some x → x.k ≠ 0 from fun j x hj hx => by
          rcases Nat.lt_succ_iff_lt_or_eq.1 hj with h | h
          · exact HNI.out j x h hx
          · rw [h, HFF.out] at hx
            injection hx with hx
            rw [← hx]
            exact h0)
        rw [show (f.k == 0) = false by simpa using h0] at HNU
        clear h0 hlt hk
        go_wp2_with (go_at_call 40; refine (HNU.out _).mono ?_; rintro e w2 ⟨rfl, g2⟩; have HG2 := hidden (HB.out.of_below g2); clear g2)
        go_roundw
        case rel => exact ⟨k + 1, HLT.out, by go_num, HN.out, HG2.out⟩
        case measure => have := HLT.out; simp [intOf]; omega
    · have hd : decide (k < l.length) = false := by simpa using hlt
      have hd2 : decide ((k : Int) < (l.length : Int)) = false := by simpa using hlt
      have HO := hidden (HNO.out (fun j x hx => HNI.out j x (by have := (List.getElem?_eq_some_iff.1 hx).1; omega) hx))
      clear hlt hk
      go_wp2_with fail
      go_ret
      exact ⟨by rw [HO.out]; first | done | rfl, HB.out⟩
end Go.Proofs.YtoaklmceejeblaaGreat
/-
  Shaken: what the claims of this seat need of this text. No condition.
-/
namespace Go.Proofs.YtoaklmceejeblaaGreat
set_option maxRecDepth 8000
open Go.RowKit
set_option linter.unusedVariables false
set_option linter.unusedSimpArgs false
set_option maxHeartbeats 4000000 in
theorem qranks_any (b1 : Nat) (A : Option Addr) (c : Nat) (L : List Val) (x : Val) (r2 r1 : Nat) (w : World) (hn : L.length ≤ 1000000) (h1 : w.cell? ⟨b1, 0, none⟩ = some (.slice A L.length c)) (hL : ReadsV w (.slice A L.length c) L)
    (hr2 : r2 ≤ L.length) (hlo2 : ∀ k y, k < r2 → L[k]? = some y → ¬ 0 ≤ lcX y x) (hhi2 : ∀ k y, r2 ≤ k → L[k]? = some y → 0 ≤ lcX y x)
    (hr1 : r1 ≤ L.length) (hlo1 : ∀ k y, k < r1 → L[k]? = some y → ¬ 0 < lcX y x) (hhi1 : ∀ k y, r1 ≤ k → L[k]? = some y → 0 < lcX y x) :
    Calls Tryz.prog 48 #[.agg #[.int .i64 x.k, .int .i64 x.n, .string x.t], .pointer (some ⟨b1, 0, none⟩)] w fun e w' => e = .returned (.tuple #[.int .i64 (r2 : Int), .int .i64 (r1 : Int)]) ∧ Grows w w' := by
  have HG0 := hidden (show Grows w (w.alloc (.cells #[.int .i64 x.k, .int .i64 x.n, .string x.t] 35)) from growK _ _)
  have HRX := hidden (Row.new w 35 #[.int .i64 x.k, .int .i64 x.n, .string x.t] [.int .i64 x.k, .int .i64 x.n, .string x.t] rfl)
  have HX := hidden (fun X (h : Grows (w.alloc (.cells #[.int .i64 x.k, .int .i64 x.n, .string x.t] 35)) X) => show X.cell? ⟨b1, 0, none⟩ = some (.slice A L.length c) ∧ X.cell? ⟨w.heap.size, 0, none⟩ = some (.int .i64 x.k) ∧ X.cell? ⟨w.heap.size, 1, none⟩ = some (.int .i64 x.n) ∧ X.cell? ⟨w.heap.size, 2, none⟩ = some (.string x.t) from ⟨((HG0.out.of_below h).cell (World.block_lt_of_cell? _ _ h1)).trans h1, (HRX.out.grow h).cell 0, (HRX.out.grow h).cell 1, (HRX.out.grow h).cell 2⟩)
  have HC2 := hidden (fun X (h : Grows (w.alloc (.cells #[.int .i64 x.k, .int .i64 x.n, .string x.t] 35)) X) => const_loose16 (qfirst_n (.slice A L.length c) L x r2 X (hL.grow (HG0.out.of_below h)) hn hr2 hlo2 hhi2))
  have HC1 := hidden (fun X (h : Grows (w.alloc (.cells #[.int .i64 x.k, .int .i64 x.n, .string x.t] 35)) X) => const_loose16 (qfirst_g (.slice A L.length c) L x r1 X (hL.grow (HG0.out.of_below h)) hn hr1 hlo1 hhi1))
  clear h1 hL hr2 hlo2 hhi2 hr1 hlo1 hhi1
  go_enter Tryz.func48, Tryz.ntmps48
  go_wp2_with fail
  refine wp_region_loose (tabRs [(2, ConstV (.int .i64 (r2 : Int))), (5, ConstV (.int .i64 (r1 : Int)))]) (by kernel_rfl) (by kernel_rfl) (tabRs_cons ConstV.lasts (tabRs_cons ConstV.lasts tabRs_nil)) ?_
  iterate 2 ((with_reducible refine loose_one (v := ?_) (a' := ?_) ?_ ?_ (fun w' hC' hG' => ?_) ?_ ?_); rotate_left 2; (focus rfl); (focus rfl); (focus (obtain ⟨p1, x0, x1, x2⟩ := HX.out w' hC'; clear hC' hG'; go_simp; rfl)); (focus (go_simp; rfl)))
  refine loose_call (R := ConstV (.int .i64 (r2 : Int))) (f := 49) (args := #[.slice A L.length c, .agg #[.int .i64 x.k, .int .i64 x.n, .string x.t]]) (by rfl) (by rfl) (fun _ => by go_simp) (fun w' hC' hG' => HC2.out w' hC') ?_
  rintro _ ⟨_, _, rfl⟩
  refine ⟨?_, ?_, ?_⟩
  rotate_left
  · go_simp
    rfl
  iterate 2 ((with_reducible refine loose_one (v := ?_) (a' := ?_) ?_ ?_ (fun w' hC' hG' => ?_) ?_ ?_); rotate_left 2; (focus rfl); (focus rfl); (focus (obtain ⟨p1, x0, x1, x2⟩ := HX.out w' hC'; clear hC' hG'; go_simp; rfl)); (focus (go_simp; rfl)))
  refine loose_call (R := ConstV (.int .i64 (r1 : Int))) (f := 50) (args := #[.slice A L.length c, .agg #[.int .i64 x.k, .int .i64 x.n, .string x.t]]) (by rfl) (by rfl) (fun _ => by go_simp) (fun w' hC' hG' => HC1.out w' hC') ?_
  rintro _ ⟨_, _, rfl⟩
  refine ⟨?_, ?_, ?_⟩
  rotate_left
  · go_simp
    rfl
  iterate 2 ((with_reducible refine loose_one (v := ?_) (a' := ?_) ?_ ?_ (fun w' hC' hG' => ?_) ?_ ?_); rotate_left 2; (focus rfl); (focus rfl); (focus (obtain ⟨p1, x0, x1, x2⟩ := HX.out w' hC'; clear hC' hG'; go_simp; rfl)); (focus (go_simp; rfl)))
  refine loose_done (fun w5 hC5 hG5 => ?_)
  have HB5 := hidden (HG0.out.of_below hC5)
  clear hC5 hG5
  go_wp2_with fail
  go_ret2
  exact ⟨rfl, HB5.out⟩
end Go.Proofs.YtoaklmceejeblaaGreat
