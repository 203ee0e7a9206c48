/-
  Texts that the claims of this seat share, put together (Sk2, Sk3, Sk4, Sk5, Sk6, Sk7, Sk8). No condition.
-/
import Derived.Test.YtoaklmceejeblaaGreatSk1
import Derived.Test.YtoaklmceejeblaaGreatM13
import Derived.Test.YtoaklmceejeblaaGreatM8
/-
  Shaken: what the claims of this seat need of this text. No condition.
-/
namespace Go.Proofs.YtoaklmceejeblaaGreat
set_option maxRecDepth 8000
open Go.RowKit
set_option linter.unusedVariables false
set_option linter.unusedSimpArgs false
def IsK (w : World) (v : Value) (s : Sk) : Prop := ∃ (A1 A2 A3 A4 : Option Addr) (c1 c2 c3 c4 : Nat), v = .agg #[.int .i64 s.rows, .int .i64 s.nulls, .slice A1 s.hs.length c1, .bool s.ok, .slice A2 s.cm.length c2, .slice A3 s.fs.length c3, .slice A4 s.rk.length c4] ∧ IsW w (.slice A1 s.hs.length c1) s.hs ∧ Reads w (.slice A2 s.cm.length c2) (icells s.cm) ∧ ReadsV w (.slice A3 s.fs.length c3) s.fs ∧ Reads w (.slice A4 s.rk.length c4) (icells s.rk)
theorem IsK.grow {w w' : World} {v : Value} {s : Sk} (h : IsK w v s) (hb : Grows w w') : IsK w' v s := by
  obtain ⟨A1, A2, A3, A4, c1, c2, c3, c4, h0, h1, h2, h3, h4⟩ := h
  exact ⟨A1, A2, A3, A4, c1, c2, c3, c4, h0, h1.grow hb, h2.grow hb, h3.grow hb, h4.grow hb⟩
theorem skrow_new (w : World) (a b c d e f g : Value) : Row (w.alloc (.cells #[a, b, c, d, e, f, g] 29)) w.heap.size 29 [a, b, c, d, e, f, g] := Row.new w 29 #[a, b, c, d, e, f, g] _ rfl
theorem const_loose16 {f : FuncId} {args : Array Value} {w : World} {u : Value} (h : Calls Tryz.prog f args w fun e w' => e = .returned u ∧ Grows w w') : Calls Tryz.prog f args w fun e w' => ∃ v, e = .returned v ∧ Grows w w' ∧ ConstV u v w' :=
  h.mono fun _ _ ⟨he, hw⟩ => ⟨_, he, hw, rfl⟩
end Go.Proofs.YtoaklmceejeblaaGreat
/-
  Shaken: what the claims of this seat need of this text. No condition.
-/
namespace Go.Proofs.YtoaklmceejeblaaGreat
set_option maxRecDepth 8000
open Go.RowKit
set_option linter.unusedVariables false
set_option linter.unusedSimpArgs false
theorem readsV_one (W : World) (x : Val) : ReadsV (W.alloc (.cells #[.int .i64 x.k, .int .i64 x.n, .string x.t] 35)) (.slice (some ⟨W.heap.size, 0, none⟩) 1 1) [x] := by
  have hr := Row.new W 35 #[.int .i64 x.k, .int .i64 x.n, .string x.t] [.int .i64 x.k, .int .i64 x.n, .string x.t] rfl
  refine ⟨_, 1, rfl, by simp, fun _ => ⟨W.heap.size, 0, rfl, fun j y hj => ?_⟩⟩
  have hj0 : j = 0 := by
    rcases Nat.lt_or_ge j 1 with h | h
    · omega
    · rw [List.getElem?_eq_none (by simpa using h)] at hj; cases hj
  subst hj0
  have hy : x = y := by simpa using hj
  subst hy
  exact ⟨hr.cell 0, hr.cell 1, hr.cell 2⟩
theorem size_bounds : (Tryz.prog.info? 40).map (·.size) = some 2 := by kernel_rfl
end Go.Proofs.YtoaklmceejeblaaGreat
/-
  Shaken: what the claims of this seat need of this text. No condition.
-/
namespace Go.Proofs.YtoaklmceejeblaaGreat
set_option maxRecDepth 8000
open Go.RowKit
set_option linter.unusedVariables false
set_option linter.unusedSimpArgs false
def incP (l : List Nat) : Prop := ∀ i, i + 1 < l.length → l.getD i 0 < l.getD (i + 1) 0
def validHP (n : Int) (hs : List Nat) (ok : Bool) : Prop := hs.length ≤ 32 ∧ (hs.length : Int) ≤ n ∧ (0 < n → hs.length ≠ 0) ∧ (ok = true ∨ hs.length = 32) ∧ incP hs
open Classical in
noncomputable def validHB (n : Int) (hs : List Nat) (ok : Bool) : Bool := decide (validHP n hs ok)
theorem validHB_t {n : Int} {hs : List Nat} {ok : Bool} (h : validHP n hs ok) : validHB n hs ok = true := by unfold validHB; simpa using h
theorem validHB_f {n : Int} {hs : List Nat} {ok : Bool} (h : ¬ validHP n hs ok) : validHB n hs ok = false := by unfold validHB; simpa using h
def VhRel (W : World) (l : List Nat) (i : Value) (wr : World) : Prop := ∃ m : Nat, (m + 1 ≤ l.length ∨ m = 0) ∧ i = .int .i64 ((m : Int) + 1) ∧ (∀ j, j < m → l.getD j 0 < l.getD (j + 1) 0) ∧ Grows W wr
set_option maxHeartbeats 4000000 in
theorem rvalidHashes_any (v : Value) (s : Sk) (w : World) (hk : IsK w v s) (hl : s.hs.length ≤ 4611686018427387903) (hn : 0 ≤ s.rows - s.nulls ∧ s.rows - s.nulls ≤ 9223372036854775807) :
    Calls Tryz.prog 72 #[v] w fun e w' => e = .returned (.bool (validHB (s.rows - s.nulls) s.hs s.ok)) ∧ Grows w w' := by
  obtain ⟨A1, A2, A3, A4, c1, c2, c3, c4, rfl, h1, -, -, -⟩ := hk
  have HR1 := hidden h1
  have HG0 := hidden (growK w (.cells #[.int .i64 s.rows, .int .i64 s.nulls, .slice A1 s.hs.length c1, .bool s.ok, .slice A2 s.cm.length c2, .slice A3 s.fs.length c3, .slice A4 s.rk.length c4] 29))
  have HS0 := hidden (skrow_new w (.int .i64 s.rows) (.int .i64 s.nulls) (.slice A1 s.hs.length c1) (.bool s.ok) (.slice A2 s.cm.length c2) (.slice A3 s.fs.length c3) (.slice A4 s.rk.length c4))
  have HV := hidden (fun W => rvalues_any s.rows s.nulls A1 A2 A3 A4 s.hs.length c1 s.cm.length c2 s.fs.length c3 s.rk.length c4 s.ok W ⟨by omega, hn.2⟩)
  clear h1
  obtain ⟨r, n0, hs, ok, cm, fs, rk⟩ := s
  simp only [] at *
  obtain ⟨n, hnn⟩ : ∃ n, n = r - n0 := ⟨_, rfl⟩
  rw [← hnn] at HV hn
  rw [← hnn]
  obtain ⟨hn1, hn2⟩ := hn
  clear hnn
  by_cases h1 : 32 < hs.length
  · have d1 : decide (32 < (hs.length : Int)) = true := by simp; omega
    have HF := hidden (validHB_f (n := n) (hs := hs) (ok := ok) (fun h => absurd h.1 (by omega)))
    clear hn1 hn2 HR1
    go_enter Tryz.func72, Tryz.ntmps72
    go_wp2_with (go_at_call 85; refine (HV.out _).mono ?_; rintro e w2 ⟨rfl, g2⟩; have HG2 := hidden (HG0.out.of_below g2); have HS2 := hidden (HS0.out.grow g2); clear g2; have q2 := HS2.out.cell 2; have q3 := HS2.out.cell 3; simp only [List.getElem?_cons_succ, List.getElem?_cons_zero] at q2 q3)
    go_ret
    exact ⟨by rw [HF.out]; first | done | rfl, HG2.out⟩
  have d1 : decide (32 < (hs.length : Int)) = false := by simp; omega
  by_cases h2 : n < (hs.length : Int)
  · have d2 : decide (n < (hs.length : Int)) = true := by simpa using h2
    have HF := hidden (validHB_f (n := n) (hs := hs) (ok := ok) (fun h => absurd h.2.1 (by omega)))
    clear hn1 hn2 HR1
    go_enter Tryz.func72, Tryz.ntmps72
    go_wp2_with (go_at_call 85; refine (HV.out _).mono ?_; rintro e w2 ⟨rfl, g2⟩; have HG2 := hidden (HG0.out.of_below g2); have HS2 := hidden (HS0.out.grow g2); clear g2; have q2 := HS2.out.cell 2; have q3 := HS2.out.cell 3; simp only [List.getElem?_cons_succ, List.getElem?_cons_zero] at q2 q3)
    go_ret
    exact ⟨by rw [HF.out]; first | done | rfl, HG2.out⟩
  have d2 : decide (n < (hs.length : Int)) = false := by simpa using h2
  by_cases h3 : 0 < n
  · have d3 : decide (0 < n) = true := by simpa using h3
    have d3b : 0 < n := h3
    by_cases h4 : hs.length = 0
    · have d4 : (hs.length == 0) = true := by simpa using h4
      have d4b : decide (hs.length = 0) = true := by simpa using h4
      have d4c : ((hs.length : Int) == 0) = true := by rw [h4]; rfl
      have d4d : hs.isEmpty = true := by rw [List.length_eq_zero_iff.1 h4]; rfl
      have HF := hidden (validHB_f (n := n) (hs := hs) (ok := ok) (fun h => absurd (h.2.2.1 h3) (by omega)))
      clear h4 hn1 hn2 HR1
      go_enter Tryz.func72, Tryz.ntmps72
      go_wp2_with (go_at_call 85; refine (HV.out _).mono ?_; rintro e w2 ⟨rfl, g2⟩; have HG2 := hidden (HG0.out.of_below g2); have HS2 := hidden (HS0.out.grow g2); clear g2; have q2 := HS2.out.cell 2; have q3 := HS2.out.cell 3; simp only [List.getElem?_cons_succ, List.getElem?_cons_zero] at q2 q3)
      go_ret
      exact ⟨by rw [HF.out]; first | done | rfl, HG2.out⟩
    have d4 : (hs.length == 0) = false := by simpa using h4
    have d4b : decide (hs.length = 0) = false := by simpa using h4
    have d4c : ((hs.length : Int) == 0) = false := beq_eq_false_iff_ne.2 (by omega)
    have d4d : hs.isEmpty = false := by cases hs; exact absurd rfl h4; rfl
    have d4e : ¬ hs = [] := fun h => h4 (by rw [h]; rfl)
    cases ok
    · by_cases h5 : hs.length = 32
      · have d5 : (hs.length == 32) = true := by simpa using h5
        have d5b : ((hs.length : Int) == 32) = true := by simp; omega
        have d5c : ((hs.length : Int) != 32) = false := by simp; omega
        have HVT := hidden (fun (hi : incP hs) => validHB_t (n := n) (hs := hs) (ok := false) ⟨by omega, by omega, fun h => by omega, .inr h5, hi⟩)
        have HVF := hidden (fun (hi : ¬ incP hs) => validHB_f (n := n) (hs := hs) (ok := false) (fun h => hi h.2.2.2.2))
        have HL32 := hidden (show hs.length ≤ 32 by omega)
        clear h1 h2 h3 h4 h5 hn1 hn2
        go_enter Tryz.func72, Tryz.ntmps72
        go_wp2_with (go_at_call 85; refine (HV.out _).mono ?_; rintro e w2 ⟨rfl, g2⟩; have HG2 := hidden (HG0.out.of_below g2); have HS2 := hidden (HS0.out.grow g2); clear g2; have q2 := HS2.out.cell 2; have q3 := HS2.out.cell 3; simp only [List.getElem?_cons_succ, List.getElem?_cons_zero] at q2 q3)
        clear d1 d2 d3 d3b d4 d4b d4c d4d d4e d5 d5b d5c
        go_loopw [4] (fun i wr => VhRel w2 hs i wr) (fun i _ => hs.length - (intOf i).toNat)
        case atStart => exact ⟨0, .inr rfl, rfl, fun j hj => by omega, Below.refl _ _⟩
        case round =>
          obtain ⟨m, hm, rfl, hinc, hb⟩ := hrel
          have HB := hidden hb
          have HIN := hidden hinc
          have HM := hidden hm
          have HLE := HL32.out
          clear hb hinc hm q2 q3
          have q2 := (HS2.out.grow HB.out).cell 2
          simp only [List.getElem?_cons_succ, List.getElem?_cons_zero] at q2
          by_cases hlt : m + 1 < hs.length
          · obtain ⟨b, off, hA, hcy⟩ := IsW.at_ (HR1.out.grow (HG2.out.of_below HB.out)) hlt
            obtain ⟨b', off', hA', hcz⟩ := IsW.at_ (HR1.out.grow (HG2.out.of_below HB.out)) (show m < hs.length by omega)
            subst hA
            injection hA' with hA'
            injection hA' with e1 e2
            subst e1 e2
            obtain ⟨y, hy⟩ : ∃ y, y = hs[m + 1] := ⟨_, rfl⟩
            obtain ⟨z, hz⟩ : ∃ z, z = hs[m]'(by omega) := ⟨_, rfl⟩
            rw [← hy] at hcy
            rw [← hz] at hcz
            have hd : decide ((m : Int) + 1 < (hs.length : Int)) = true := by simp; omega
            have hm0 : (0 : Int) ≤ (m : Int) + 1 := by omega
            have hm1 : (m : Int) + 1 < (hs.length : Int) := by omega
            have hm2 : (m : Int) < (hs.length : Int) := by omega
            have hm3 : (0 : Int) ≤ (m : Int) := by omega
            have hmt : ((m : Int) + 1).toNat = m + 1 := by omega
            have hmw : IntKind.i64.wrap (m : Int) = (m : Int) := by rw [IntKind.wrap_i64]; omega
            have HY := hidden (show hs.getD (m + 1) 0 = y by rw [hy, List.getD_eq_getElem?_getD, List.getElem?_eq_getElem hlt]; rfl)
            have HZ := hidden (show hs.getD m 0 = z by rw [hz, List.getD_eq_getElem?_getD, List.getElem?_eq_getElem (by omega)]; rfl)
            have HLT := hidden hlt
            have HX := hidden (fun X (h : Grows wr X) => (⟨((HS2.out.grow HB.out).grow h).cell 2, (h.cell (World.block_lt_of_cell? _ _ hcy)).trans hcy, (h.cell (World.block_lt_of_cell? _ _ hcz)).trans hcz⟩ : X.cell? ⟨w.heap.size, 2, none⟩ = some (.slice (some ⟨b, off, none⟩) hs.length c1) ∧ _ ∧ _))
            clear hy hz hcy hcz hlt
            go_wp2_with fail
            refine wp_region_loose (tabRs []) (by kernel_rfl) (by kernel_rfl) tabRs_nil ?_
            iterate 12 ((with_reducible refine loose_one (v := ?_) (a' := ?_) ?_ ?_ (fun w' hC' hG' => ?_) ?_ ?_); rotate_left 2; (focus rfl); (focus rfl); (focus (obtain ⟨q2, ky, kz⟩ := HX.out w' hC'; clear hC' hG'; go_simp; rfl)); (focus (go_simp; rfl)))
            refine loose_done (fun w5 hC5 hG5 => ?_)
            have HB5 := hidden (HB.out.of_below hC5)
            clear hC5 hG5 HX q2
            by_cases hyz : y ≤ z
            · have d1 : decide (y ≤ z) = true := by simpa using hyz
              have d1b : decide (z < y) = false := by simp; omega
              have d1c : ¬ z < y := by omega
              have HF := hidden (HVF.out (fun hi => by have := hi m HLT.out; rw [HY.out, HZ.out] at this; omega))
              clear hyz
              go_wp2_with fail
              go_ret
              exact ⟨by rw [HF.out]; first | done | rfl, HG2.out.of_below HB5.out⟩
            · have d1 : decide (y ≤ z) = false := by simpa using hyz
              have d1b : decide (z < y) = true := by simp; omega
              have d1c : z < y := by omega
              have HN := hidden (show ∀ j, j < m + 1 → hs.getD j 0 < hs.getD (j + 1) 0 from fun j hj => by
                rcases Nat.lt_or_ge j m with h | h
                · exact HIN.out j h
                · rw [show j = m by omega, HY.out, HZ.out]; omega)
              clear hyz
              go_wp2_with fail
              go_roundw
              case rel => exact ⟨m + 1, .inl (by have := HLT.out; omega), by go_num, HN.out, HB5.out⟩
              case measure => have := HLT.out; simp [intOf]; omega
          · have hd : decide ((m : Int) + 1 < (hs.length : Int)) = false := by simp; omega
            have HT := hidden (HVT.out (fun i hi => HIN.out i (by have := HM.out; omega)))
            clear hlt
            go_wp2_with fail
            go_ret
            exact ⟨by rw [HT.out]; first | done | rfl, HG2.out.of_below HB.out⟩
      · have d5 : (hs.length == 32) = false := by simpa using h5
        have d5b : ((hs.length : Int) == 32) = false := by simp; omega
        have d5c : ((hs.length : Int) != 32) = true := by simp; omega
        have HF := hidden (validHB_f (n := n) (hs := hs) (ok := false) (fun h => by rcases h.2.2.2.1 with h | h; cases h; omega))
        clear hn1 hn2 HR1
        go_enter Tryz.func72, Tryz.ntmps72
        go_wp2_with (go_at_call 85; refine (HV.out _).mono ?_; rintro e w2 ⟨rfl, g2⟩; have HG2 := hidden (HG0.out.of_below g2); have HS2 := hidden (HS0.out.grow g2); clear g2; have q2 := HS2.out.cell 2; have q3 := HS2.out.cell 3; simp only [List.getElem?_cons_succ, List.getElem?_cons_zero] at q2 q3)
        go_ret
        exact ⟨by rw [HF.out]; first | done | rfl, HG2.out⟩
    · skip
      have HVT := hidden (fun (hi : incP hs) => validHB_t (n := n) (hs := hs) (ok := true) ⟨by omega, by omega, fun h => by omega, .inl rfl, hi⟩)
      have HVF := hidden (fun (hi : ¬ incP hs) => validHB_f (n := n) (hs := hs) (ok := true) (fun h => hi h.2.2.2.2))
      have HL32 := hidden (show hs.length ≤ 32 by omega)
      clear h1 h2 h3 h4  hn1 hn2
      go_enter Tryz.func72, Tryz.ntmps72
      go_wp2_with (go_at_call 85; refine (HV.out _).mono ?_; rintro e w2 ⟨rfl, g2⟩; have HG2 := hidden (HG0.out.of_below g2); have HS2 := hidden (HS0.out.grow g2); clear g2; have q2 := HS2.out.cell 2; have q3 := HS2.out.cell 3; simp only [List.getElem?_cons_succ, List.getElem?_cons_zero] at q2 q3)
      clear d1 d2 d3 d3b d4 d4b d4c d4d d4e
      go_loopw [4] (fun i wr => VhRel w2 hs i wr) (fun i _ => hs.length - (intOf i).toNat)
      case atStart => exact ⟨0, .inr rfl, rfl, fun j hj => by omega, Below.refl _ _⟩
      case round =>
        obtain ⟨m, hm, rfl, hinc, hb⟩ := hrel
        have HB := hidden hb
        have HIN := hidden hinc
        have HM := hidden hm
        have HLE := HL32.out
        clear hb hinc hm q2 q3
        have q2 := (HS2.out.grow HB.out).cell 2
        simp only [List.getElem?_cons_succ, List.getElem?_cons_zero] at q2
        by_cases hlt : m + 1 < hs.length
        · obtain ⟨b, off, hA, hcy⟩ := IsW.at_ (HR1.out.grow (HG2.out.of_below HB.out)) hlt
          obtain ⟨b', off', hA', hcz⟩ := IsW.at_ (HR1.out.grow (HG2.out.of_below HB.out)) (show m < hs.length by omega)
          subst hA
          injection hA' with hA'
          injection hA' with e1 e2
          subst e1 e2
          obtain ⟨y, hy⟩ : ∃ y, y = hs[m + 1] := ⟨_, rfl⟩
          obtain ⟨z, hz⟩ : ∃ z, z = hs[m]'(by omega) := ⟨_, rfl⟩
          rw [← hy] at hcy
          rw [← hz] at hcz
          have hd : decide ((m : Int) + 1 < (hs.length : Int)) = true := by simp; omega
          have hm0 : (0 : Int) ≤ (m : Int) + 1 := by omega
          have hm1 : (m : Int) + 1 < (hs.length : Int) := by omega
          have hm2 : (m : Int) < (hs.length : Int) := by omega
          have hm3 : (0 : Int) ≤ (m : Int) := by omega
          have hmt : ((m : Int) + 1).toNat = m + 1 := by omega
          have hmw : IntKind.i64.wrap (m : Int) = (m : Int) := by rw [IntKind.wrap_i64]; omega
          have HY := hidden (show hs.getD (m + 1) 0 = y by rw [hy, List.getD_eq_getElem?_getD, List.getElem?_eq_getElem hlt]; rfl)
          have HZ := hidden (show hs.getD m 0 = z by rw [hz, List.getD_eq_getElem?_getD, List.getElem?_eq_getElem (by omega)]; rfl)
          have HLT := hidden hlt
          have HX := hidden (fun X (h : Grows wr X) => (⟨((HS2.out.grow HB.out).grow h).cell 2, (h.cell (World.block_lt_of_cell? _ _ hcy)).trans hcy, (h.cell (World.block_lt_of_cell? _ _ hcz)).trans hcz⟩ : X.cell? ⟨w.heap.size, 2, none⟩ = some (.slice (some ⟨b, off, none⟩) hs.length c1) ∧ _ ∧ _))
          clear hy hz hcy hcz hlt
          go_wp2_with fail
          refine wp_region_loose (tabRs []) (by kernel_rfl) (by kernel_rfl) tabRs_nil ?_
          iterate 12 ((with_reducible refine loose_one (v := ?_) (a' := ?_) ?_ ?_ (fun w' hC' hG' => ?_) ?_ ?_); rotate_left 2; (focus rfl); (focus rfl); (focus (obtain ⟨q2, ky, kz⟩ := HX.out w' hC'; clear hC' hG'; go_simp; rfl)); (focus (go_simp; rfl)))
          refine loose_done (fun w5 hC5 hG5 => ?_)
          have HB5 := hidden (HB.out.of_below hC5)
          clear hC5 hG5 HX q2
          by_cases hyz : y ≤ z
          · have d1 : decide (y ≤ z) = true := by simpa using hyz
            have d1b : decide (z < y) = false := by simp; omega
            have d1c : ¬ z < y := by omega
            have HF := hidden (HVF.out (fun hi => by have := hi m HLT.out; rw [HY.out, HZ.out] at this; omega))
            clear hyz
            go_wp2_with fail
            go_ret
            exact ⟨by rw [HF.out]; first | done | rfl, HG2.out.of_below HB5.out⟩
          · have d1 : decide (y ≤ z) = false := by simpa using hyz
            have d1b : decide (z < y) = true := by simp; omega
            have d1c : z < y := by omega
            have HN := hidden (show ∀ j, j < m + 1 → hs.getD j 0 < hs.getD (j + 1) 0 from fun j hj => by
              rcases Nat.lt_or_ge j m with h | h
              · exact HIN.out j h
              · rw [show j = m by omega, HY.out, HZ.out]; omega)
            clear hyz
            go_wp2_with fail
            go_roundw
            case rel => exact ⟨m + 1, .inl (by have := HLT.out; omega), by go_num, HN.out, HB5.out⟩
            case measure => have := HLT.out; simp [intOf]; omega
        · have hd : decide ((m : Int) + 1 < (hs.length : Int)) = false := by simp; omega
          have HT := hidden (HVT.out (fun i hi => HIN.out i (by have := HM.out; omega)))
          clear hlt
          go_wp2_with fail
          go_ret
          exact ⟨by rw [HT.out]; first | done | rfl, HG2.out.of_below HB.out⟩
  · have d3 : decide (0 < n) = false := by simpa using h3
    have d3b : ¬ 0 < n := h3
    cases ok
    · by_cases h5 : hs.length = 32
      · have d5 : (hs.length == 32) = true := by simpa using h5
        have d5b : ((hs.length : Int) == 32) = true := by simp; omega
        have d5c : ((hs.length : Int) != 32) = false := by simp; omega
        have HVT := hidden (fun (hi : incP hs) => validHB_t (n := n) (hs := hs) (ok := false) ⟨by omega, by omega, fun h => by omega, .inr h5, hi⟩)
        have HVF := hidden (fun (hi : ¬ incP hs) => validHB_f (n := n) (hs := hs) (ok := false) (fun h => hi h.2.2.2.2))
        have HL32 := hidden (show hs.length ≤ 32 by omega)
        clear h1 h2 h3 h5 hn1 hn2
        go_enter Tryz.func72, Tryz.ntmps72
        go_wp2_with (go_at_call 85; refine (HV.out _).mono ?_; rintro e w2 ⟨rfl, g2⟩; have HG2 := hidden (HG0.out.of_below g2); have HS2 := hidden (HS0.out.grow g2); clear g2; have q2 := HS2.out.cell 2; have q3 := HS2.out.cell 3; simp only [List.getElem?_cons_succ, List.getElem?_cons_zero] at q2 q3)
        clear d1 d2 d3 d3b d5 d5b d5c
        go_loopw [4] (fun i wr => VhRel w2 hs i wr) (fun i _ => hs.length - (intOf i).toNat)
        case atStart => exact ⟨0, .inr rfl, rfl, fun j hj => by omega, Below.refl _ _⟩
        case round =>
          obtain ⟨m, hm, rfl, hinc, hb⟩ := hrel
          have HB := hidden hb
          have HIN := hidden hinc
          have HM := hidden hm
          have HLE := HL32.out
          clear hb hinc hm q2 q3
          have q2 := (HS2.out.grow HB.out).cell 2
          simp only [List.getElem?_cons_succ, List.getElem?_cons_zero] at q2
          by_cases hlt : m + 1 < hs.length
          · obtain ⟨b, off, hA, hcy⟩ := IsW.at_ (HR1.out.grow (HG2.out.of_below HB.out)) hlt
            obtain ⟨b', off', hA', hcz⟩ := IsW.at_ (HR1.out.grow (HG2.out.of_below HB.out)) (show m < hs.length by omega)
            subst hA
            injection hA' with hA'
            injection hA' with e1 e2
            subst e1 e2
            obtain ⟨y, hy⟩ : ∃ y, y = hs[m + 1] := ⟨_, rfl⟩
            obtain ⟨z, hz⟩ : ∃ z, z = hs[m]'(by omega) := ⟨_, rfl⟩
            rw [← hy] at hcy
            rw [← hz] at hcz
            have hd : decide ((m : Int) + 1 < (hs.length : Int)) = true := by simp; omega
            have hm0 : (0 : Int) ≤ (m : Int) + 1 := by omega
            have hm1 : (m : Int) + 1 < (hs.length : Int) := by omega
            have hm2 : (m : Int) < (hs.length : Int) := by omega
            have hm3 : (0 : Int) ≤ (m : Int) := by omega
            have hmt : ((m : Int) + 1).toNat = m + 1 := by omega
            have hmw : IntKind.i64.wrap (m : Int) = (m : Int) := by rw [IntKind.wrap_i64]; omega
            have HY := hidden (show hs.getD (m + 1) 0 = y by rw [hy, List.getD_eq_getElem?_getD, List.getElem?_eq_getElem hlt]; rfl)
            have HZ := hidden (show hs.getD m 0 = z by rw [hz, List.getD_eq_getElem?_getD, List.getElem?_eq_getElem (by omega)]; rfl)
            have HLT := hidden hlt
            have HX := hidden (fun X (h : Grows wr X) => (⟨((HS2.out.grow HB.out).grow h).cell 2, (h.cell (World.block_lt_of_cell? _ _ hcy)).trans hcy, (h.cell (World.block_lt_of_cell? _ _ hcz)).trans hcz⟩ : X.cell? ⟨w.heap.size, 2, none⟩ = some (.slice (some ⟨b, off, none⟩) hs.length c1) ∧ _ ∧ _))
            clear hy hz hcy hcz hlt
            go_wp2_with fail
            refine wp_region_loose (tabRs []) (by kernel_rfl) (by kernel_rfl) tabRs_nil ?_
            iterate 12 ((with_reducible refine loose_one (v := ?_) (a' := ?_) ?_ ?_ (fun w' hC' hG' => ?_) ?_ ?_); rotate_left 2; (focus rfl); (focus rfl); (focus (obtain ⟨q2, ky, kz⟩ := HX.out w' hC'; clear hC' hG'; go_simp; rfl)); (focus (go_simp; rfl)))
            refine loose_done (fun w5 hC5 hG5 => ?_)
            have HB5 := hidden (HB.out.of_below hC5)
            clear hC5 hG5 HX q2
            by_cases hyz : y ≤ z
            · have d1 : decide (y ≤ z) = true := by simpa using hyz
              have d1b : decide (z < y) = false := by simp; omega
              have d1c : ¬ z < y := by omega
              have HF := hidden (HVF.out (fun hi => by have := hi m HLT.out; rw [HY.out, HZ.out] at this; omega))
              clear hyz
              go_wp2_with fail
              go_ret
              exact ⟨by rw [HF.out]; first | done | rfl, HG2.out.of_below HB5.out⟩
            · have d1 : decide (y ≤ z) = false := by simpa using hyz
              have d1b : decide (z < y) = true := by simp; omega
              have d1c : z < y := by omega
              have HN := hidden (show ∀ j, j < m + 1 → hs.getD j 0 < hs.getD (j + 1) 0 from fun j hj => by
                rcases Nat.lt_or_ge j m with h | h
                · exact HIN.out j h
                · rw [show j = m by omega, HY.out, HZ.out]; omega)
              clear hyz
              go_wp2_with fail
              go_roundw
              case rel => exact ⟨m + 1, .inl (by have := HLT.out; omega), by go_num, HN.out, HB5.out⟩
              case measure => have := HLT.out; simp [intOf]; omega
          · have hd : decide ((m : Int) + 1 < (hs.length : Int)) = false := by simp; omega
            have HT := hidden (HVT.out (fun i hi => HIN.out i (by have := HM.out; omega)))
            clear hlt
            go_wp2_with fail
            go_ret
            exact ⟨by rw [HT.out]; first | done | rfl, HG2.out.of_below HB.out⟩
      · have d5 : (hs.length == 32) = false := by simpa using h5
        have d5b : ((hs.length : Int) == 32) = false := by simp; omega
        have d5c : ((hs.length : Int) != 32) = true := by simp; omega
        have HF := hidden (validHB_f (n := n) (hs := hs) (ok := false) (fun h => by rcases h.2.2.2.1 with h | h; cases h; omega))
        clear hn1 hn2 HR1
        go_enter Tryz.func72, Tryz.ntmps72
        go_wp2_with (go_at_call 85; refine (HV.out _).mono ?_; rintro e w2 ⟨rfl, g2⟩; have HG2 := hidden (HG0.out.of_below g2); have HS2 := hidden (HS0.out.grow g2); clear g2; have q2 := HS2.out.cell 2; have q3 := HS2.out.cell 3; simp only [List.getElem?_cons_succ, List.getElem?_cons_zero] at q2 q3)
        go_ret
        exact ⟨by rw [HF.out]; first | done | rfl, HG2.out⟩
    · skip
      have HVT := hidden (fun (hi : incP hs) => validHB_t (n := n) (hs := hs) (ok := true) ⟨by omega, by omega, fun h => by omega, .inl rfl, hi⟩)
      have HVF := hidden (fun (hi : ¬ incP hs) => validHB_f (n := n) (hs := hs) (ok := true) (fun h => hi h.2.2.2.2))
      have HL32 := hidden (show hs.length ≤ 32 by omega)
      clear h1 h2 h3  hn1 hn2
      go_enter Tryz.func72, Tryz.ntmps72
      go_wp2_with (go_at_call 85; refine (HV.out _).mono ?_; rintro e w2 ⟨rfl, g2⟩; have HG2 := hidden (HG0.out.of_below g2); have HS2 := hidden (HS0.out.grow g2); clear g2; have q2 := HS2.out.cell 2; have q3 := HS2.out.cell 3; simp only [List.getElem?_cons_succ, List.getElem?_cons_zero] at q2 q3)
      clear d1 d2 d3 d3b
      go_loopw [4] (fun i wr => VhRel w2 hs i wr) (fun i _ => hs.length - (intOf i).toNat)
      case atStart => exact ⟨0, .inr rfl, rfl, fun j hj => by omega, Below.refl _ _⟩
      case round =>
        obtain ⟨m, hm, rfl, hinc, hb⟩ := hrel
        have HB := hidden hb
        have HIN := hidden hinc
        have HM := hidden hm
        have HLE := HL32.out
        clear hb hinc hm q2 q3
        have q2 := (HS2.out.grow HB.out).cell 2
        simp only [List.getElem?_cons_succ, List.getElem?_cons_zero] at q2
        by_cases hlt : m + 1 < hs.length
        · obtain ⟨b, off, hA, hcy⟩ := IsW.at_ (HR1.out.grow (HG2.out.of_below HB.out)) hlt
          obtain ⟨b', off', hA', hcz⟩ := IsW.at_ (HR1.out.grow (HG2.out.of_below HB.out)) (show m < hs.length by omega)
          subst hA
          injection hA' with hA'
          injection hA' with e1 e2
          subst e1 e2
          obtain ⟨y, hy⟩ : ∃ y, y = hs[m + 1] := ⟨_, rfl⟩
          obtain ⟨z, hz⟩ : ∃ z, z = hs[m]'(by omega) := ⟨_, rfl⟩
          rw [← hy] at hcy
          rw [← hz] at hcz
          have hd : decide ((m : Int) + 1 < (hs.length : Int)) = true := by simp; omega
          have hm0 : (0 : Int) ≤ (m : Int) + 1 := by omega
          have hm1 : (m : Int) + 1 < (hs.length : Int) := by omega
          have hm2 : (m : Int) < (hs.length : Int) := by omega
          have hm3 : (0 : Int) ≤ (m : Int) := by omega
          have hmt : ((m : Int) + 1).toNat = m + 1 := by omega
          have hmw : IntKind.i64.wrap (m : Int) = (m : Int) := by rw [IntKind.wrap_i64]; omega
          have HY := hidden (show hs.getD (m + 1) 0 = y by rw [hy, List.getD_eq_getElem?_getD, List.getElem?_eq_getElem hlt]; rfl)
          have HZ := hidden (show hs.getD m 0 = z by rw [hz, List.getD_eq_getElem?_getD, List.getElem?_eq_getElem (by omega)]; rfl)
          have HLT := hidden hlt
          have HX := hidden (fun X (h : Grows wr X) => (⟨((HS2.out.grow HB.out).grow h).cell 2, (h.cell (World.block_lt_of_cell? _ _ hcy)).trans hcy, (h.cell (World.block_lt_of_cell? _ _ hcz)).trans hcz⟩ : X.cell? ⟨w.heap.size, 2, none⟩ = some (.slice (some ⟨b, off, none⟩) hs.length c1) ∧ _ ∧ _))
          clear hy hz hcy hcz hlt
          go_wp2_with fail
          refine wp_region_loose (tabRs []) (by kernel_rfl) (by kernel_rfl) tabRs_nil ?_
          iterate 12 ((with_reducible refine loose_one (v := ?_) (a' := ?_) ?_ ?_ (fun w' hC' hG' => ?_) ?_ ?_); rotate_left 2; (focus rfl); (focus rfl); (focus (obtain ⟨q2, ky, kz⟩ := HX.out w' hC'; clear hC' hG'; go_simp; rfl)); (focus (go_simp; rfl)))
          refine loose_done (fun w5 hC5 hG5 => ?_)
          have HB5 := hidden (HB.out.of_below hC5)
          clear hC5 hG5 HX q2
          by_cases hyz : y ≤ z
          · have d1 : decide (y ≤ z) = true := by simpa using hyz
            have d1b : decide (z < y) = false := by simp; omega
            have d1c : ¬ z < y := by omega
            have HF := hidden (HVF.out (fun hi => by have := hi m HLT.out; rw [HY.out, HZ.out] at this; omega))
            clear hyz
            go_wp2_with fail
            go_ret
            exact ⟨by rw [HF.out]; first | done | rfl, HG2.out.of_below HB5.out⟩
          · have d1 : decide (y ≤ z) = false := by simpa using hyz
            have d1b : decide (z < y) = true := by simp; omega
            have d1c : z < y := by omega
            have HN := hidden (show ∀ j, j < m + 1 → hs.getD j 0 < hs.getD (j + 1) 0 from fun j hj => by
              rcases Nat.lt_or_ge j m with h | h
              · exact HIN.out j h
              · rw [show j = m by omega, HY.out, HZ.out]; omega)
            clear hyz
            go_wp2_with fail
            go_roundw
            case rel => exact ⟨m + 1, .inl (by have := HLT.out; omega), by go_num, HN.out, HB5.out⟩
            case measure => have := HLT.out; simp [intOf]; omega
        · have hd : decide ((m : Int) + 1 < (hs.length : Int)) = false := by simp; omega
          have HT := hidden (HVT.out (fun i hi => HIN.out i (by have := HM.out; omega)))
          clear hlt
          go_wp2_with fail
          go_ret
          exact ⟨by rw [HT.out]; first | done | rfl, HG2.out.of_below HB.out⟩
end Go.Proofs.YtoaklmceejeblaaGreat
/-
  Shaken: what the claims of this seat need of this text. No condition.
-/
namespace Go.Proofs.YtoaklmceejeblaaGreat
set_option maxRecDepth 8000
open Go.RowKit
set_option linter.unusedVariables false
set_option linter.unusedSimpArgs false
def sumF (cm : List Int) (p : Nat) : Nat → Int
  | 0 => 0
  | j + 1 => sumF cm p j + cm.getD (p + j) 0
theorem sumF_mono {cm : List Int} {p : Nat} (h : ∀ c, c < 64 → 0 ≤ cm.getD (p + c) 0) : ∀ {j k : Nat}, j ≤ k → k ≤ 64 → sumF cm p j ≤ sumF cm p k
  | j, 0, hj, _ => by rw [show j = 0 by omega]; exact Int.le_refl _
  | j, k + 1, hj, hk => by
    rcases Nat.lt_or_ge j (k + 1) with h1 | h1
    · have ih := sumF_mono h (j := j) (k := k) (by omega) (by omega)
      have := h k (by omega)
      rw [sumF]
      omega
    · rw [show j = k + 1 by omega]; exact Int.le_refl _
def rowP (n : Int) (cm : List Int) (r : Nat) : Prop := (∀ c, c < 64 → 0 ≤ cm.getD (64 * r + c) 0) ∧ sumF cm (64 * r) 64 = n
def validCP (n : Int) (cm : List Int) : Prop := cm.length = 256 ∧ ∀ r, r < 4 → rowP n cm r
open Classical in
noncomputable def validCB (n : Int) (cm : List Int) : Bool := decide (validCP n cm)
theorem validCB_t {n : Int} {cm : List Int} (h : validCP n cm) : validCB n cm = true := by unfold validCB; simpa using h
theorem validCB_f {n : Int} {cm : List Int} (h : ¬ validCP n cm) : validCB n cm = false := by unfold validCB; simpa using h
theorem row_neg {n : Int} {cm : List Int} {r j : Nat} (hj : j < 64) (h : cm.getD (64 * r + j) 0 < 0) : ¬ rowP n cm r := fun hr => by have := hr.1 j hj; omega
theorem row_big {n : Int} {cm : List Int} {r j : Nat} (hj : j < 64) (h : n - sumF cm (64 * r) j < cm.getD (64 * r + j) 0) : ¬ rowP n cm r := fun hr => by
  have h1 := sumF_mono hr.1 (j := j + 1) (k := 64) (by omega) (by omega)
  rw [sumF, hr.2] at h1
  omega
def VcRel (W : World) (n : Int) (cm : List Int) (i : Value) (wr : World) : Prop := ∃ r : Nat, r ≤ 4 ∧ i = .int .i64 (r : Int) ∧ (∀ q, q < r → rowP n cm q) ∧ Grows W wr
def VdRel (W : World) (n : Int) (cm : List Int) (r : Nat) (a i : Value) (wr : World) : Prop := ∃ j : Nat, j ≤ 64 ∧ i = .int .i64 (j : Int) ∧ a = .int .i64 (n - sumF cm (64 * r) j) ∧ 0 ≤ n - sumF cm (64 * r) j ∧ n - sumF cm (64 * r) j ≤ n ∧ (∀ c, c < j → 0 ≤ cm.getD (64 * r + c) 0) ∧ Grows W wr
set_option maxHeartbeats 4000000 in
theorem rvalidCounters_any (v : Value) (s : Sk) (w : World) (hk : IsK w v s) (hl : s.cm.length ≤ 4611686018427387903) (hn : 0 ≤ s.rows - s.nulls ∧ s.rows - s.nulls ≤ 9223372036854775807) :
    Calls Tryz.prog 73 #[v] w fun e w' => e = .returned (.bool (validCB (s.rows - s.nulls) s.cm)) ∧ Grows w w' := by
  obtain ⟨A1, A2, A3, A4, c1, c2, c3, c4, rfl, -, h1, -, -⟩ := hk
  have HR1 := hidden h1
  have HG0 := hidden (growK w (.cells #[.int .i64 s.rows, .int .i64 s.nulls, .slice A1 s.hs.length c1, .bool s.ok, .slice A2 s.cm.length c2, .slice A3 s.fs.length c3, .slice A4 s.rk.length c4] 29))
  have HS0 := hidden (skrow_new w (.int .i64 s.rows) (.int .i64 s.nulls) (.slice A1 s.hs.length c1) (.bool s.ok) (.slice A2 s.cm.length c2) (.slice A3 s.fs.length c3) (.slice A4 s.rk.length c4))
  have HV := hidden (fun W => rvalues_any s.rows s.nulls A1 A2 A3 A4 s.hs.length c1 s.cm.length c2 s.fs.length c3 s.rk.length c4 s.ok W ⟨by omega, hn.2⟩)
  clear h1
  obtain ⟨r, n0, hs, ok, cm, fs, rk⟩ := s
  simp only [] at *
  obtain ⟨n, hnn⟩ : ∃ n, n = r - n0 := ⟨_, rfl⟩
  rw [← hnn] at HV hn
  rw [← hnn]
  obtain ⟨hn1, hn2⟩ := hn
  clear hnn
  by_cases h6 : cm.length = 256
  · have HL := hidden h6
    rw [h6] at HR1 HG0 HS0 HV ⊢
    have q4 := HS0.out.cell 4
    simp only [List.getElem?_cons_succ, List.getElem?_cons_zero] at q4
    clear hl h6
    go_enter Tryz.func73, Tryz.ntmps73
    go_wp2_with fail
    obtain ⟨W0, hW0⟩ : ∃ W, W = w.alloc (.cells #[.int .i64 r, .int .i64 n0, .slice A1 hs.length c1, .bool ok, .slice A2 256 c2, .slice A3 fs.length c3, .slice A4 rk.length c4] 29) := ⟨_, rfl⟩
    rw [← hW0] at HG0 HS0
    rw [← hW0]
    clear hW0 q4
    go_loopw [3] (fun i wr => VcRel W0 n cm i wr) (fun i _ => 4 - (intOf i).toNat)
    case atStart => exact ⟨0, by omega, rfl, fun q hq => by omega, Below.refl _ _⟩
    case round =>
      obtain ⟨p, hp, rfl, hrows, hb⟩ := hrel
      have HB := hidden hb
      have HRW := hidden hrows
      clear hb hrows
      by_cases hlt : p < 4
      · have d1 : decide ((p : Int) < 4) = true := by simp; omega
        have HPL := hidden hlt
        have q0 := (HS0.out.grow HB.out).cell 0
        have q1 := (HS0.out.grow HB.out).cell 1
        have q2 := (HS0.out.grow HB.out).cell 2
        have q3 := (HS0.out.grow HB.out).cell 3
        have q4 := (HS0.out.grow HB.out).cell 4
        have q5 := (HS0.out.grow HB.out).cell 5
        have q6 := (HS0.out.grow HB.out).cell 6
        simp only [List.getElem?_cons_succ, List.getElem?_cons_zero] at q0 q1 q2 q3 q4 q5 q6
        have hp3 : p ≤ 3 := by omega
        clear hlt hp
        go_wp2_with (go_at_call 85; refine (HV.out _).mono ?_; rintro e w2 ⟨rfl, g2⟩; have HG2 := hidden (HB.out.of_below g2); clear g2 q0 q1 q2 q3 q4 q5 q6)
        go_loopw [4, 5] (fun a i wr => VdRel w2 n cm p a i wr) (fun _ i _ => 64 - (intOf i).toNat)
        case atStart => exact ⟨0, by omega, rfl, by simp [sumF], by simp [sumF]; omega, by simp [sumF], fun c hc => by omega, Below.refl _ _⟩
        case round =>
          obtain ⟨j, hj, rfl, rfl, l1, l2, hpos, hb⟩ := hrel
          have HBI := hidden (HG2.out.of_below hb)
          have HBJ := hidden hb
          have HPO := hidden hpos
          clear hb hpos
          by_cases hlj : j < 64
          · have d2 : decide ((j : Int) < 64) = true := by simp; omega
            have hix : 64 * p + j < cm.length := by rw [HL.out]; omega
            obtain ⟨A', c', he, _, hcell⟩ := HR1.out.grow (HG0.out.of_below HBI.out)
            injection he with e1 e2 e3
            subst e1 e3
            obtain ⟨b, off, rfl, hc⟩ := hcell (by rw [icells_length]; omega)
            have hck := hc (64 * p + j) (by rw [icells_length]; exact hix)
            rw [icells_get hix] at hck
            obtain ⟨y, hy⟩ : ∃ y, y = cm[64 * p + j] := ⟨_, rfl⟩
            rw [← hy] at hck
            have HY := hidden (show cm.getD (64 * p + j) 0 = y by rw [hy, List.getD_eq_getElem?_getD, List.getElem?_eq_getElem hix]; rfl)
            have q4 := (HS0.out.grow HBI.out).cell 4
            simp only [List.getElem?_cons_succ, List.getElem?_cons_zero] at q4
            have hi0 : (0 : Int) ≤ (p : Int) * 64 + (j : Int) := by omega
            have hi1 : (p : Int) * 64 + (j : Int) < 256 := by omega
            have hit : ((p : Int) * 64 + (j : Int)).toNat = 64 * p + j := by omega
            have HSU := hidden (show sumF cm (64 * p) (j + 1) = sumF cm (64 * p) j + y by rw [sumF, HY.out])
            have HNE := hidden (show y < 0 → ¬ rowP n cm p from fun h => row_neg (j := j) hlj (by rw [HY.out]; exact h))
            have HBG := hidden (show n - sumF cm (64 * p) j < y → ¬ rowP n cm p from fun h => row_big (j := j) hlj (by rw [HY.out]; exact h))
            have HVF := hidden (show ¬ rowP n cm p → validCB n cm = false from fun h => validCB_f (fun hv => h (hv.2 p HPL.out)))
            have HLJ := hidden hlj
            have HPO2 := hidden (show 0 ≤ y → ∀ c, c < j + 1 → 0 ≤ cm.getD (64 * p + c) 0 from fun h c hc => by
              rcases Nat.lt_or_ge c j with h1 | h1
              · exact HPO.out c h1
              · rw [show c = j by omega, HY.out]; exact h)
            obtain ⟨S, hS⟩ : ∃ S, S = n - sumF cm (64 * p) j := ⟨_, rfl⟩
            have HSS := hidden hS
            rw [← hS] at l1 l2 HBG
            rw [← hS]
            clear hcell hc e2 hy hix hlj hS
            by_cases h1 : y < 0
            · have d3 : decide (y < 0) = true := by simpa using h1
              have HF := hidden (HVF.out (HNE.out h1))
              clear h1
              go_wp2_with fail
              go_ret
              exact ⟨by rw [HF.out]; first | done | rfl, HG0.out.of_below HBI.out⟩
            · have d3 : decide (y < 0) = false := by simpa using h1
              by_cases h2 : S < y
              · have d4 : decide (S < y) = true := by simpa using h2
                have HF := hidden (HVF.out (HBG.out h2))
                clear h1 h2
                go_wp2_with fail
                go_ret
                exact ⟨by rw [HF.out]; first | done | rfl, HG0.out.of_below HBI.out⟩
              · have d4 : decide (S < y) = false := by simpa using h2
                have HP3 := hidden (HPO2.out (by omega))
                have hy0 : 0 ≤ y := by omega
                have hy1 : y ≤ S := by omega
                clear h1 h2
                go_wp2_with fail
                go_roundw
                case rel => exact ⟨j + 1, HLJ.out, by go_num, by rw [HSU.out]; have := HSS.out; go_num, by rw [HSU.out]; have := HSS.out; omega, by rw [HSU.out]; have := HSS.out; omega, HP3.out, HBJ.out⟩
                case measure => have := HLJ.out; simp [intOf]; omega
          · have hke : j = 64 := by omega
            have d2 : decide ((j : Int) < 64) = false := by simp; omega
            subst hke
            obtain ⟨S, hS⟩ : ∃ S, S = n - sumF cm (64 * p) 64 := ⟨_, rfl⟩
            have HSS := hidden hS
            rw [← hS]
            clear hS hlj l1 l2
            by_cases h0 : S = 0
            · have HRP := hidden (show ∀ q, q < p + 1 → rowP n cm q from fun q hq => by
                rcases Nat.lt_or_ge q p with h | h
                · exact HRW.out q h
                · rw [show q = p by omega]
                  exact ⟨HPO.out, by have := HSS.out; omega⟩)
              subst h0
              go_wp2_with fail
              go_roundw
              case rel => exact ⟨p + 1, by have := HPL.out; omega, by go_num, HRP.out, HBI.out⟩
              case measure => have := HPL.out; simp [intOf]; omega
            · have d5 : (S == 0) = false := by simpa using h0
              have d6 : (S != 0) = true := by simpa using h0
              have HF := hidden (validCB_f (n := n) (cm := cm) (fun hv => h0 (by have := (hv.2 p HPL.out).2; have := HSS.out; omega)))
              clear h0
              go_wp2_with fail
              go_ret
              exact ⟨by rw [HF.out]; first | done | rfl, HG0.out.of_below HBI.out⟩
      · have hke : p = 4 := by omega
        have d1 : decide ((p : Int) < 4) = false := by simp; omega
        subst hke
        have HT := hidden (validCB_t (n := n) (cm := cm) ⟨HL.out, HRW.out⟩)
        clear hlt
        go_wp2_with fail
        go_ret
        exact ⟨by rw [HT.out]; first | done | rfl, HG0.out.of_below HB.out⟩
  · have HF := hidden (validCB_f (n := n) (cm := cm) (fun h => h6 h.1))
    have d1 : (cm.length == 256) = false := by simpa using h6
    have d2 : ((cm.length : Int) == 256) = false := beq_eq_false_iff_ne.2 (by omega)
    have d3 : ((cm.length : Int) != 256) = true := by simp; omega
    have q4 := HS0.out.cell 4
    simp only [List.getElem?_cons_succ, List.getElem?_cons_zero] at q4
    clear h6
    go_enter Tryz.func73, Tryz.ntmps73
    go_wp2_with fail
    go_ret
    exact ⟨by rw [HF.out]; first | done | rfl, HG0.out⟩
end Go.Proofs.YtoaklmceejeblaaGreat
/-
  Shaken: what the claims of this seat need of this text. No condition.
-/
namespace Go.Proofs.YtoaklmceejeblaaGreat
set_option maxRecDepth 8000
open Go.RowKit
set_option linter.unusedVariables false
set_option linter.unusedSimpArgs false
end Go.Proofs.YtoaklmceejeblaaGreat
/-
  Shaken: what the claims of this seat need of this text. No condition.
-/
namespace Go.Proofs.YtoaklmceejeblaaGreat
set_option maxRecDepth 8000
open Go.RowKit
set_option linter.unusedVariables false
set_option linter.unusedSimpArgs false
theorem Row.setRowK {w : World} {g : Nat} {e : TypeId} {xs : List Value} (h : Row w g e xs) (ys : List Value) : Row (w.setRow g ys.toArray) g e ys := by
  unfold Row at h ⊢
  simp [World.setRow, Array.getElem?_modify, h]
theorem below_setRowK {B g : Nat} {a w : World} (h : Below B a w) (hg : B ≤ g) (cs : Array Value) : Below B a (w.setRow g cs) :=
  ⟨h.os, h.tape, h.output, by simpa [World.setRow] using h.size, fun k hk => (setRow_other w g k cs (by omega)).trans (h.block k hk)⟩
theorem wpList_store_bd {wr : World} {ops : Array Oper} {rest : List Oper} {o : Oper} {a : Act} {Q : Exit → Act → World → Prop} (hgd : o.guard = none) (x y : Operand) (ho : o.op = .store 40 x y)
    (W0 : World) (hw : wr = W0) (g : Nat) (hx : a.eval x = .pointer (some ⟨g, 0, none⟩)) (m n : Int) (hy : a.eval y = .agg #[.int .i64 m, .int .i64 n]) (z1 z2 : Value) (hr : Row W0 g 40 [z1, z2])
    (hk : ∀ W, Row W g 40 [.int .i64 m, .int .i64 n] → (∀ w0, Grows w0 W0 → w0.heap.size ≤ g → Grows w0 W) → wpList Tryz.prog ops Q rest (a.put o.dst undef) W) : wpList Tryz.prog ops Q (o :: rest) a wr := by
  subst hw
  exact wpList_store_row hgd _ x y ho g #[.int .i64 m, .int .i64 n] hx hy 40 #[z1, z2] hr size_bounds rfl (by simp [Value.oneCell']) (hk _ (hr.setRowK [.int .i64 m, .int .i64 n]) (fun w0 h0 hg => below_setRowK h0 hg _))
theorem at_bd {wr : World} {ops : Array Oper} {rest : List Oper} {op : Oper} {a : Act} {Q : Exit → Act → World → Prop} (hgd : op.guard = none) (x y : Operand) (ho : op.op = .store 40 x y) (h : wpList Tryz.prog ops Q (op :: rest) a wr) : wpList Tryz.prog ops Q (op :: rest) a wr := h
theorem results_bd {fn : Func} {p : Tmp} (h : fn.results = #[.cell p 40]) (tmps : Array Value) (w : World) (g : Nat) (a b : Value) (hp : tmps.getD p undef = .pointer (some ⟨g, 0, none⟩)) (hg : Row w g 40 [a, b]) :
    (results fn tmps).run Tryz.prog w = .ok (.agg #[a, b]) w := results_cell_row h _ _ _ _ _ _ _ hp hg Tryz.underlying40 rfl size_bounds
end Go.Proofs.YtoaklmceejeblaaGreat
/-
  Shaken: what the claims of this seat need of this text. No condition.
-/
namespace Go.Proofs.YtoaklmceejeblaaGreat
open Go.RowKit
set_option linter.unusedVariables false
set_option linter.unusedSimpArgs false
def EqkRel (W : World) (n : Nat) (i : Value) (wr : World) : Prop := ∃ k : Nat, k ≤ n ∧ i = .int .i64 (k : Int) ∧ Grows W wr
set_option maxRecDepth 8000 in
set_option maxHeartbeats 8000000 in
theorem rEqual16_self (v u : Value) (s : Sk) (w : World) (hk : IsK w v s) (hu : IsK w u s) (hl : s.hs.length ≤ 1000000 ∧ s.cm.length ≤ 1000000 ∧ s.fs.length ≤ 1000000 ∧ s.rk.length ≤ 1000000) :
    Calls Tryz.prog 13 #[v, u] w fun e w' => e = .returned (.bool true) ∧ Grows w w' := by
  obtain ⟨A1, A2, A3, A4, c1, c2, c3, c4, rfl, a1, a2, a3, a4⟩ := hk
  obtain ⟨B1, B2, B3, B4, d1, d2, d3, d4, rfl, b1, b2, b3, b4⟩ := hu
  obtain ⟨l1, l2, l3, l4⟩ := hl
  have HA1 := hidden a1
  have HA2 := hidden a2
  have HA3 := hidden a3
  have HA4 := hidden a4
  have HB1 := hidden b1
  have HB2 := hidden b2
  have HB3 := hidden b3
  have HB4 := hidden b4
  clear a1 a2 a3 a4 b1 b2 b3 b4
  obtain ⟨W0, hW0⟩ : ∃ W, W = ((w.alloc (.cells #[.int .i64 s.rows, .int .i64 s.nulls, .slice A1 s.hs.length c1, .bool s.ok, .slice A2 s.cm.length c2, .slice A3 s.fs.length c3, .slice A4 s.rk.length c4] 29)).alloc (.cells #[.int .i64 s.rows, .int .i64 s.nulls, .slice B1 s.hs.length d1, .bool s.ok, .slice B2 s.cm.length d2, .slice B3 s.fs.length d3, .slice B4 s.rk.length d4] 29)) := ⟨_, rfl⟩
  have HG0 := hidden (show Grows w W0 by rw [hW0]; exact (growK _ _).of_below (growK _ _))
  have HS0 := hidden (show Row W0 w.heap.size 29 [.int .i64 s.rows, .int .i64 s.nulls, .slice A1 s.hs.length c1, .bool s.ok, .slice A2 s.cm.length c2, .slice A3 s.fs.length c3, .slice A4 s.rk.length c4] by rw [hW0]; exact (skrow_new _ _ _ _ _ _ _ _).grow (growK _ _))
  have HT0 := hidden (show Row W0 (w.heap.size + 1) 29 [.int .i64 s.rows, .int .i64 s.nulls, .slice B1 s.hs.length d1, .bool s.ok, .slice B2 s.cm.length d2, .slice B3 s.fs.length d3, .slice B4 s.rk.length d4] by
    rw [hW0]
    have h := skrow_new (w.alloc (.cells #[.int .i64 s.rows, .int .i64 s.nulls, .slice A1 s.hs.length c1, .bool s.ok, .slice A2 s.cm.length c2, .slice A3 s.fs.length c3, .slice A4 s.rk.length c4] 29)) (.int .i64 s.rows) (.int .i64 s.nulls) (.slice B1 s.hs.length d1) (.bool s.ok) (.slice B2 s.cm.length d2) (.slice B3 s.fs.length d3) (.slice B4 s.rk.length d4)
    have e : (w.alloc (.cells #[.int .i64 s.rows, .int .i64 s.nulls, .slice A1 s.hs.length c1, .bool s.ok, .slice A2 s.cm.length c2, .slice A3 s.fs.length c3, .slice A4 s.rk.length c4] 29)).heap.size = w.heap.size + 1 := by simp
    rwa [e] at h)
  have p0 := HS0.out.cell 0
  have q0 := HT0.out.cell 0
  have p1 := HS0.out.cell 1
  have q1 := HT0.out.cell 1
  have p2 := HS0.out.cell 2
  have q2 := HT0.out.cell 2
  have p3 := HS0.out.cell 3
  have q3 := HT0.out.cell 3
  have p4 := HS0.out.cell 4
  have q4 := HT0.out.cell 4
  have p5 := HS0.out.cell 5
  have q5 := HT0.out.cell 5
  have p6 := HS0.out.cell 6
  have q6 := HT0.out.cell 6
  simp only [List.getElem?_cons_succ, List.getElem?_cons_zero] at p0 q0 p1 q1 p2 q2 p3 q3 p4 q4 p5 q5 p6 q6
  rw [hW0] at p0 q0 p1 q1 p2 q2 p3 q3 p4 q4 p5 q5 p6 q6
  go_enter Tryz.func13, Tryz.ntmps13
  go_wp2_with fail
  rw [← hW0]
  clear hW0 p0 q0 p1 q1 p2 q2 p3 q3 p4 q4 p5 q5 p6 q6
  go_loopw [5] (fun i wr => EqkRel W0 s.hs.length i wr) (fun i _ => s.hs.length - (intOf i).toNat)
  case atStart => exact ⟨0, Nat.zero_le _, rfl, Below.refl _ _⟩
  case round =>
    obtain ⟨k, hk, rfl, hb⟩ := hrel
    have HBW := hidden hb
    have HB := hidden (hb)
    clear hb
    have q2 := (HS0.out.grow HB.out).cell 2
    simp only [List.getElem?_cons_succ, List.getElem?_cons_zero] at q2
    by_cases hlt : k < s.hs.length
    · have hd : decide (k < s.hs.length) = true := by simpa using hlt
      have hk0 : (0 : Int) ≤ (k : Int) := by omega
      have hk1 : (k : Int) < (s.hs.length : Int) := by omega
      have HLT := hidden hlt
      obtain ⟨b, off, rfl, ka⟩ := IsW.at_ (HA1.out.grow (HG0.out.of_below HB.out)) hlt
      obtain ⟨b', off', rfl, kb⟩ := IsW.at_ (HB1.out.grow (HG0.out.of_below HB.out)) hlt
      have hyy : ∃ y : Nat, wr.cell? ⟨b, off + k, none⟩ = some (.int .u64 (y : Int)) ∧ wr.cell? ⟨b', off' + k, none⟩ = some (.int .u64 (y : Int)) := ⟨_, ka, kb⟩
      clear ka kb
      obtain ⟨y, ka, kb⟩ := hyy
      have HX := hidden (fun X (h : Grows wr X) => (⟨((HS0.out.grow HB.out).grow h).cell 2, ((HT0.out.grow HB.out).grow h).cell 2, (h.cell (World.block_lt_of_cell? _ _ ka)).trans ka, (h.cell (World.block_lt_of_cell? _ _ kb)).trans kb⟩ : X.cell? ⟨w.heap.size, 2, none⟩ = some (.slice (some ⟨b, off, none⟩) s.hs.length c1) ∧ X.cell? ⟨w.heap.size + 1, 2, none⟩ = some (.slice (some ⟨b', off', none⟩) s.hs.length d1) ∧ _ ∧ _))
      clear hlt ka kb
      go_wp2_with fail
      refine wp_region_loose (tabRs []) (by kernel_rfl) (by kernel_rfl) tabRs_nil ?_
      iterate 11 ((with_reducible refine loose_one (v := ?_) (a' := ?_) ?_ ?_ (fun w' hC' hG' => ?_) ?_ ?_); rotate_left 2; (focus rfl); (focus rfl); (focus (obtain ⟨xa, xb, ka, kb⟩ := HX.out w' hC'; clear hC' hG'; go_simp; rfl)); (focus (go_simp; rfl)))
      refine loose_done (fun w5 hC5 hG5 => ?_)
      have HB5 := hidden (HBW.out.of_below hC5)
      clear hC5 hG5 HX q2
      go_wp2_with fail
      go_roundw
      case rel => exact ⟨k + 1, HLT.out, by go_num, HB5.out⟩
      case measure => have := HLT.out; simp [intOf]; omega
    · have hke : k = s.hs.length := by omega
      have hd : decide (k < s.hs.length) = false := by simpa using hlt
      subst hke
      have HBq1 := hidden HB.out
      generalize wr = wq1 at *
      clear HB HBW
      go_wp2_with fail
      clear q2 hd hlt
      go_loopw [6] (fun i wr => EqkRel wq1 s.cm.length i wr) (fun i _ => s.cm.length - (intOf i).toNat)
      case atStart => exact ⟨0, Nat.zero_le _, rfl, Below.refl _ _⟩
      case round =>
        obtain ⟨k, hk, rfl, hb⟩ := hrel
        have HBW := hidden hb
        have HB := hidden (HBq1.out.of_below hb)
        clear hb
        have q4 := (HS0.out.grow HB.out).cell 4
        simp only [List.getElem?_cons_succ, List.getElem?_cons_zero] at q4
        by_cases hlt : k < s.cm.length
        · have hd : decide (k < s.cm.length) = true := by simpa using hlt
          have hk0 : (0 : Int) ≤ (k : Int) := by omega
          have hk1 : (k : Int) < (s.cm.length : Int) := by omega
          have HLT := hidden hlt
          obtain ⟨A', c', he, _, hcell⟩ := HA2.out.grow (HG0.out.of_below HB.out)
          injection he with e1 e2 e3
          subst e1 e3
          obtain ⟨ba, offa, rfl, hc⟩ := hcell (by rw [icells_length]; omega)
          have ka := hc k (by rw [icells_length]; exact hlt)
          rw [icells_get hlt] at ka
          clear hcell hc e2
          obtain ⟨A', c', he, _, hcell⟩ := HB2.out.grow (HG0.out.of_below HB.out)
          injection he with e1 e2 e3
          subst e1 e3
          obtain ⟨bb, offb, rfl, hc⟩ := hcell (by rw [icells_length]; omega)
          have kb := hc k (by rw [icells_length]; exact hlt)
          rw [icells_get hlt] at kb
          clear hcell hc e2
          have hyy : ∃ y : Int, wr.cell? ⟨ba, offa + k, none⟩ = some (.int .i64 y) ∧ wr.cell? ⟨bb, offb + k, none⟩ = some (.int .i64 y) := ⟨_, ka, kb⟩
          clear ka kb
          obtain ⟨y, ka, kb⟩ := hyy
          have HX := hidden (fun X (h : Grows wr X) => (⟨((HS0.out.grow HB.out).grow h).cell 4, ((HT0.out.grow HB.out).grow h).cell 4, (h.cell (World.block_lt_of_cell? _ _ ka)).trans ka, (h.cell (World.block_lt_of_cell? _ _ kb)).trans kb⟩ : X.cell? ⟨w.heap.size, 4, none⟩ = some (.slice (some ⟨ba, offa, none⟩) s.cm.length c2) ∧ X.cell? ⟨w.heap.size + 1, 4, none⟩ = some (.slice (some ⟨bb, offb, none⟩) s.cm.length d2) ∧ _ ∧ _))
          clear hlt ka kb
          go_wp2_with fail
          refine wp_region_loose (tabRs []) (by kernel_rfl) (by kernel_rfl) tabRs_nil ?_
          iterate 11 ((with_reducible refine loose_one (v := ?_) (a' := ?_) ?_ ?_ (fun w' hC' hG' => ?_) ?_ ?_); rotate_left 2; (focus rfl); (focus rfl); (focus (obtain ⟨xa, xb, ka, kb⟩ := HX.out w' hC'; clear hC' hG'; go_simp; rfl)); (focus (go_simp; rfl)))
          refine loose_done (fun w5 hC5 hG5 => ?_)
          have HB5 := hidden (HBW.out.of_below hC5)
          clear hC5 hG5 HX q4
          go_wp2_with fail
          go_roundw
          case rel => exact ⟨k + 1, HLT.out, by go_num, HB5.out⟩
          case measure => have := HLT.out; simp [intOf]; omega
        · have hke : k = s.cm.length := by omega
          have hd : decide (k < s.cm.length) = false := by simpa using hlt
          subst hke
          have HBq2 := hidden HB.out
          generalize wr = wq2 at *
          clear HB HBW
          go_wp2_with fail
          clear q4 hd hlt
          go_loopw [7] (fun i wr => EqkRel wq2 s.fs.length i wr) (fun i _ => s.fs.length - (intOf i).toNat)
          case atStart => exact ⟨0, Nat.zero_le _, rfl, Below.refl _ _⟩
          case round =>
            obtain ⟨k, hk, rfl, hb⟩ := hrel
            have HBW := hidden hb
            have HB := hidden (HBq2.out.of_below hb)
            clear hb
            have q5 := (HS0.out.grow HB.out).cell 5
            simp only [List.getElem?_cons_succ, List.getElem?_cons_zero] at q5
            by_cases hlt : k < s.fs.length
            · have hd : decide (k < s.fs.length) = true := by simpa using hlt
              have hk0 : (0 : Int) ≤ (k : Int) := by omega
              have hk1 : (k : Int) < (s.fs.length : Int) := by omega
              have HLT := hidden hlt
              obtain ⟨y, hy⟩ : ∃ y, s.fs[k]? = some y := ⟨_, List.getElem?_eq_getElem hlt⟩
              obtain ⟨A', c', he, _, hcell⟩ := HA3.out.grow (HG0.out.of_below HB.out)
              injection he with e1 e2 e3
              subst e1 e3
              obtain ⟨ba, offa, rfl, hc⟩ := hcell (by omega)
              obtain ⟨ka, ka1, ka2⟩ := hc k y hy
              clear hcell hc e2
              obtain ⟨A', c', he, _, hcell⟩ := HB3.out.grow (HG0.out.of_below HB.out)
              injection he with e1 e2 e3
              subst e1 e3
              obtain ⟨bb, offb, rfl, hc⟩ := hcell (by omega)
              obtain ⟨kb, kb1, kb2⟩ := hc k y hy
              clear hcell hc e2
              clear hy
              have HX := hidden (fun X (h : Grows wr X) => (⟨((HS0.out.grow HB.out).grow h).cell 5, ((HT0.out.grow HB.out).grow h).cell 5, (h.cell (World.block_lt_of_cell? _ _ ka)).trans ka, (h.cell (World.block_lt_of_cell? _ _ ka1)).trans ka1, (h.cell (World.block_lt_of_cell? _ _ ka2)).trans ka2, (h.cell (World.block_lt_of_cell? _ _ kb)).trans kb, (h.cell (World.block_lt_of_cell? _ _ kb1)).trans kb1, (h.cell (World.block_lt_of_cell? _ _ kb2)).trans kb2⟩ : X.cell? ⟨w.heap.size, 5, none⟩ = some (.slice (some ⟨ba, offa, none⟩) s.fs.length c3) ∧ X.cell? ⟨w.heap.size + 1, 5, none⟩ = some (.slice (some ⟨bb, offb, none⟩) s.fs.length d3) ∧ _ ∧ _ ∧ _ ∧ _ ∧ _ ∧ _))
              clear hlt ka ka1 ka2 kb kb1 kb2
              go_wp2_with fail
              refine wp_region_loose (tabRs []) (by kernel_rfl) (by kernel_rfl) tabRs_nil ?_
              iterate 11 ((with_reducible refine loose_one (v := ?_) (a' := ?_) ?_ ?_ (fun w' hC' hG' => ?_) ?_ ?_); rotate_left 2; (focus rfl); (focus rfl); (focus (obtain ⟨xa, xb, ka, ka1, ka2, kb, kb1, kb2⟩ := HX.out w' hC'; clear hC' hG'; go_simp; rfl)); (focus (go_simp; rfl)))
              refine loose_done (fun w5 hC5 hG5 => ?_)
              have HB5 := hidden (HBW.out.of_below hC5)
              clear hC5 hG5 HX q5
              go_wp2_with fail
              go_roundw
              case rel => exact ⟨k + 1, HLT.out, by go_num, HB5.out⟩
              case measure => have := HLT.out; simp [intOf]; omega
            · have hke : k = s.fs.length := by omega
              have hd : decide (k < s.fs.length) = false := by simpa using hlt
              subst hke
              have HBq3 := hidden HB.out
              generalize wr = wq3 at *
              clear HB HBW
              go_wp2_with fail
              clear q5 hd hlt
              go_loopw [8] (fun i wr => EqkRel wq3 s.rk.length i wr) (fun i _ => s.rk.length - (intOf i).toNat)
              case atStart => exact ⟨0, Nat.zero_le _, rfl, Below.refl _ _⟩
              case round =>
                obtain ⟨k, hk, rfl, hb⟩ := hrel
                have HBW := hidden hb
                have HB := hidden (HBq3.out.of_below hb)
                clear hb
                have q6 := (HS0.out.grow HB.out).cell 6
                simp only [List.getElem?_cons_succ, List.getElem?_cons_zero] at q6
                by_cases hlt : k < s.rk.length
                · have hd : decide (k < s.rk.length) = true := by simpa using hlt
                  have hk0 : (0 : Int) ≤ (k : Int) := by omega
                  have hk1 : (k : Int) < (s.rk.length : Int) := by omega
                  have HLT := hidden hlt
                  obtain ⟨A', c', he, _, hcell⟩ := HA4.out.grow (HG0.out.of_below HB.out)
                  injection he with e1 e2 e3
                  subst e1 e3
                  obtain ⟨ba, offa, rfl, hc⟩ := hcell (by rw [icells_length]; omega)
                  have ka := hc k (by rw [icells_length]; exact hlt)
                  rw [icells_get hlt] at ka
                  clear hcell hc e2
                  obtain ⟨A', c', he, _, hcell⟩ := HB4.out.grow (HG0.out.of_below HB.out)
                  injection he with e1 e2 e3
                  subst e1 e3
                  obtain ⟨bb, offb, rfl, hc⟩ := hcell (by rw [icells_length]; omega)
                  have kb := hc k (by rw [icells_length]; exact hlt)
                  rw [icells_get hlt] at kb
                  clear hcell hc e2
                  have hyy : ∃ y : Int, wr.cell? ⟨ba, offa + k, none⟩ = some (.int .i64 y) ∧ wr.cell? ⟨bb, offb + k, none⟩ = some (.int .i64 y) := ⟨_, ka, kb⟩
                  clear ka kb
                  obtain ⟨y, ka, kb⟩ := hyy
                  have HX := hidden (fun X (h : Grows wr X) => (⟨((HS0.out.grow HB.out).grow h).cell 6, ((HT0.out.grow HB.out).grow h).cell 6, (h.cell (World.block_lt_of_cell? _ _ ka)).trans ka, (h.cell (World.block_lt_of_cell? _ _ kb)).trans kb⟩ : X.cell? ⟨w.heap.size, 6, none⟩ = some (.slice (some ⟨ba, offa, none⟩) s.rk.length c4) ∧ X.cell? ⟨w.heap.size + 1, 6, none⟩ = some (.slice (some ⟨bb, offb, none⟩) s.rk.length d4) ∧ _ ∧ _))
                  clear hlt ka kb
                  go_wp2_with fail
                  refine wp_region_loose (tabRs []) (by kernel_rfl) (by kernel_rfl) tabRs_nil ?_
                  iterate 11 ((with_reducible refine loose_one (v := ?_) (a' := ?_) ?_ ?_ (fun w' hC' hG' => ?_) ?_ ?_); rotate_left 2; (focus rfl); (focus rfl); (focus (obtain ⟨xa, xb, ka, kb⟩ := HX.out w' hC'; clear hC' hG'; go_simp; rfl)); (focus (go_simp; rfl)))
                  refine loose_done (fun w5 hC5 hG5 => ?_)
                  have HB5 := hidden (HBW.out.of_below hC5)
                  clear hC5 hG5 HX q6
                  go_wp2_with fail
                  go_roundw
                  case rel => exact ⟨k + 1, HLT.out, by go_num, HB5.out⟩
                  case measure => have := HLT.out; simp [intOf]; omega
                · have hke : k = s.rk.length := by omega
                  have hd : decide (k < s.rk.length) = false := by simpa using hlt
                  subst hke
                  go_wp2_with fail
                  go_ret
                  exact ⟨rfl, HG0.out.of_below HB.out⟩
end Go.Proofs.YtoaklmceejeblaaGreat
