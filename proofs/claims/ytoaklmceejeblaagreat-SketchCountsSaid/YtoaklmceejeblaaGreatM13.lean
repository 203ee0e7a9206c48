/-
  Texts that the claims of this seat share, put together (Sk5, Sk6, Sk7, Sk8). No condition.
-/
import Derived.Test.YtoaklmceejeblaaGreatM12
/-
  Shaken: what the claims of this seat need of this text. No condition.
-/
namespace Go.Proofs.YtoaklmceejeblaaGreat
set_option maxRecDepth 8000
open Go.RowKit
set_option linter.unusedVariables false
set_option linter.unusedSimpArgs false
def sumF (cm : List Int) (p : Nat) : Nat → Int
  | 0 => 0
  | j + 1 => sumF cm p j + cm.getD (p + j) 0
theorem sumF_mono {cm : List Int} {p : Nat} (h : ∀ c, c < 64 → 0 ≤ cm.getD (p + c) 0) : ∀ {j k : Nat}, j ≤ k → k ≤ 64 → sumF cm p j ≤ sumF cm p k
  | j, 0, hj, _ => by rw [show j = 0 by omega]; exact Int.le_refl _
  | j, k + 1, hj, hk => by
    rcases Nat.lt_or_ge j (k + 1) with h1 | h1
    · have ih := sumF_mono h (j := j) (k := k) (by omega) (by omega)
      have := h k (by omega)
      rw [sumF]
      omega
    · rw [show j = k + 1 by omega]; exact Int.le_refl _
def rowP (n : Int) (cm : List Int) (r : Nat) : Prop := (∀ c, c < 64 → 0 ≤ cm.getD (64 * r + c) 0) ∧ sumF cm (64 * r) 64 = n
def validCP (n : Int) (cm : List Int) : Prop := cm.length = 256 ∧ ∀ r, r < 4 → rowP n cm r
open Classical in
noncomputable def validCB (n : Int) (cm : List Int) : Bool := decide (validCP n cm)
theorem validCB_t {n : Int} {cm : List Int} (h : validCP n cm) : validCB n cm = true := by unfold validCB; simpa using h
theorem validCB_f {n : Int} {cm : List Int} (h : ¬ validCP n cm) : validCB n cm = false := by unfold validCB; simpa using h
theorem validCB_iff {n : Int} {cm : List Int} : validCB n cm = true ↔ validCP n cm := by unfold validCB; simp
theorem row_neg {n : Int} {cm : List Int} {r j : Nat} (hj : j < 64) (h : cm.getD (64 * r + j) 0 < 0) : ¬ rowP n cm r := fun hr => by have := hr.1 j hj; omega
theorem row_big {n : Int} {cm : List Int} {r j : Nat} (hj : j < 64) (h : n - sumF cm (64 * r) j < cm.getD (64 * r + j) 0) : ¬ rowP n cm r := fun hr => by
  have h1 := sumF_mono hr.1 (j := j + 1) (k := 64) (by omega) (by omega)
  rw [sumF, hr.2] at h1
  omega
def VcRel (W : World) (n : Int) (cm : List Int) (i : Value) (wr : World) : Prop := ∃ r : Nat, r ≤ 4 ∧ i = .int .i64 (r : Int) ∧ (∀ q, q < r → rowP n cm q) ∧ Grows W wr
def VdRel (W : World) (n : Int) (cm : List Int) (r : Nat) (a i : Value) (wr : World) : Prop := ∃ j : Nat, j ≤ 64 ∧ i = .int .i64 (j : Int) ∧ a = .int .i64 (n - sumF cm (64 * r) j) ∧ 0 ≤ n - sumF cm (64 * r) j ∧ n - sumF cm (64 * r) j ≤ n ∧ (∀ c, c < j → 0 ≤ cm.getD (64 * r + c) 0) ∧ Grows W wr
set_option maxHeartbeats 4000000 in
theorem rvalidCounters_any (v : Value) (s : Sk) (w : World) (hk : IsK w v s) (hl : s.cm.length ≤ 4611686018427387903) (hn : 0 ≤ s.rows - s.nulls ∧ s.rows - s.nulls ≤ 9223372036854775807) :
    Calls Tryz.prog 73 #[v] w fun e w' => e = .returned (.bool (validCB (s.rows - s.nulls) s.cm)) ∧ Grows w w' := by
  obtain ⟨A1, A2, A3, A4, c1, c2, c3, c4, rfl, -, h1, -, -⟩ := hk
  have HR1 := hidden h1
  have HG0 := hidden (growK w (.cells #[.int .i64 s.rows, .int .i64 s.nulls, .slice A1 s.hs.length c1, .bool s.ok, .slice A2 s.cm.length c2, .slice A3 s.fs.length c3, .slice A4 s.rk.length c4] 29))
  have HS0 := hidden (skrow_new w (.int .i64 s.rows) (.int .i64 s.nulls) (.slice A1 s.hs.length c1) (.bool s.ok) (.slice A2 s.cm.length c2) (.slice A3 s.fs.length c3) (.slice A4 s.rk.length c4))
  have HV := hidden (fun W => rvalues_any s.rows s.nulls A1 A2 A3 A4 s.hs.length c1 s.cm.length c2 s.fs.length c3 s.rk.length c4 s.ok W ⟨by omega, hn.2⟩)
  clear h1
  obtain ⟨r, n0, hs, ok, cm, fs, rk⟩ := s
  simp only [] at *
  obtain ⟨n, hnn⟩ : ∃ n, n = r - n0 := ⟨_, rfl⟩
  rw [← hnn] at HV hn
  rw [← hnn]
  obtain ⟨hn1, hn2⟩ := hn
  clear hnn
  by_cases h6 : cm.length = 256
  · have HL := hidden h6
    rw [h6] at HR1 HG0 HS0 HV ⊢
    have q4 := HS0.out.cell 4
    simp only [List.getElem?_cons_succ, List.getElem?_cons_zero] at q4
    clear hl h6
    go_enter Tryz.func73, Tryz.ntmps73
    go_wp2_with fail
    obtain ⟨W0, hW0⟩ : ∃ W, W = w.alloc (.cells #[.int .i64 r, .int .i64 n0, .slice A1 hs.length c1, .bool ok, .slice A2 256 c2, .slice A3 fs.length c3, .slice A4 rk.length c4] 29) := ⟨_, rfl⟩
    rw [← hW0] at HG0 HS0
    rw [← hW0]
    clear hW0 q4
    go_loopw [3] (fun i wr => VcRel W0 n cm i wr) (fun i _ => 4 - (intOf i).toNat)
    case atStart => exact ⟨0, by omega, rfl, fun q hq => by omega, Below.refl _ _⟩
    case round =>
      obtain ⟨p, hp, rfl, hrows, hb⟩ := hrel
      have HB := hidden hb
      have HRW := hidden hrows
      clear hb hrows
      by_cases hlt : p < 4
      · have d1 : decide ((p : Int) < 4) = true := by simp; omega
        have HPL := hidden hlt
        have q0 := (HS0.out.grow HB.out).cell 0
        have q1 := (HS0.out.grow HB.out).cell 1
        have q2 := (HS0.out.grow HB.out).cell 2
        have q3 := (HS0.out.grow HB.out).cell 3
        have q4 := (HS0.out.grow HB.out).cell 4
        have q5 := (HS0.out.grow HB.out).cell 5
        have q6 := (HS0.out.grow HB.out).cell 6
        simp only [List.getElem?_cons_succ, List.getElem?_cons_zero] at q0 q1 q2 q3 q4 q5 q6
        have hp3 : p ≤ 3 := by omega
        clear hlt hp
        go_wp2_with (go_at_call 85; refine (HV.out _).mono ?_; rintro e w2 ⟨rfl, g2⟩; have HG2 := hidden (HB.out.of_below g2); clear g2 q0 q1 q2 q3 q4 q5 q6)
        go_loopw [4, 5] (fun a i wr => VdRel w2 n cm p a i wr) (fun _ i _ => 64 - (intOf i).toNat)
        case atStart => exact ⟨0, by omega, rfl, by simp [sumF], by simp [sumF]; omega, by simp [sumF], fun c hc => by omega, Below.refl _ _⟩
        case round =>
          obtain ⟨j, hj, rfl, rfl, l1, l2, hpos, hb⟩ := hrel
          have HBI := hidden (HG2.out.of_below hb)
          have HBJ := hidden hb
          have HPO := hidden hpos
          clear hb hpos
          by_cases hlj : j < 64
          · have d2 : decide ((j : Int) < 64) = true := by simp; omega
            have hix : 64 * p + j < cm.length := by rw [HL.out]; omega
            obtain ⟨A', c', he, _, hcell⟩ := HR1.out.grow (HG0.out.of_below HBI.out)
            injection he with e1 e2 e3
            subst e1 e3
            obtain ⟨b, off, rfl, hc⟩ := hcell (by rw [icells_length]; omega)
            have hck := hc (64 * p + j) (by rw [icells_length]; exact hix)
            rw [icells_get hix] at hck
            obtain ⟨y, hy⟩ : ∃ y, y = cm[64 * p + j] := ⟨_, rfl⟩
            rw [← hy] at hck
            have HY := hidden (show cm.getD (64 * p + j) 0 = y by rw [hy, List.getD_eq_getElem?_getD, List.getElem?_eq_getElem hix]; rfl)
            have q4 := (HS0.out.grow HBI.out).cell 4
            simp only [List.getElem?_cons_succ, List.getElem?_cons_zero] at q4
            have hi0 : (0 : Int) ≤ (p : Int) * 64 + (j : Int) := by omega
            have hi1 : (p : Int) * 64 + (j : Int) < 256 := by omega
            have hit : ((p : Int) * 64 + (j : Int)).toNat = 64 * p + j := by omega
            have HSU := hidden (show sumF cm (64 * p) (j + 1) = sumF cm (64 * p) j + y by rw [sumF, HY.out])
            have HNE := hidden (show y < 0 → ¬ rowP n cm p from fun h => row_neg (j := j) hlj (by rw [HY.out]; exact h))
            have HBG := hidden (show n - sumF cm (64 * p) j < y → ¬ rowP n cm p from fun h => row_big (j := j) hlj (by rw [HY.out]; exact h))
            have HVF := hidden (show ¬ rowP n cm p → validCB n cm = false from fun h => validCB_f (fun hv => h (hv.2 p HPL.out)))
            have HLJ := hidden hlj
            have HPO2 := hidden (show 0 ≤ y → ∀ c, c < j + 1 → 0 ≤ cm.getD (64 * p + c) 0 from fun h c hc => by
              rcases Nat.lt_or_ge c j with h1 | h1
              · exact HPO.out c h1
              · rw [show c = j by omega, HY.out]; exact h)
            obtain ⟨S, hS⟩ : ∃ S, S = n - sumF cm (64 * p) j := ⟨_, rfl⟩
            have HSS := hidden hS
            rw [← hS] at l1 l2 HBG
            rw [← hS]
            clear hcell hc e2 hy hix hlj hS
            by_cases h1 : y < 0
            · have d3 : decide (y < 0) = true := by simpa using h1
              have HF := hidden (HVF.out (HNE.out h1))
              clear h1
              go_wp2_with fail
              go_ret
              exact ⟨by rw [HF.out]; first | done | rfl, HG0.out.of_below HBI.out⟩
            · have d3 : decide (y < 0) = false := by simpa using h1
              by_cases h2 : S < y
              · have d4 : decide (S < y) = true := by simpa using h2
                have HF := hidden (HVF.out (HBG.out h2))
                clear h1 h2
                go_wp2_with fail
                go_ret
                exact ⟨by rw [HF.out]; first | done | rfl, HG0.out.of_below HBI.out⟩
              · have d4 : decide (S < y) = false := by simpa using h2
                have HP3 := hidden (HPO2.out (by omega))
                have hy0 : 0 ≤ y := by omega
                have hy1 : y ≤ S := by omega
                clear h1 h2
                go_wp2_with fail
                go_roundw
                case rel => exact ⟨j + 1, HLJ.out, by go_num, by rw [HSU.out]; have := HSS.out; go_num, by rw [HSU.out]; have := HSS.out; omega, by rw [HSU.out]; have := HSS.out; omega, HP3.out, HBJ.out⟩
                case measure => have := HLJ.out; simp [intOf]; omega
          · have hke : j = 64 := by omega
            have d2 : decide ((j : Int) < 64) = false := by simp; omega
            subst hke
            obtain ⟨S, hS⟩ : ∃ S, S = n - sumF cm (64 * p) 64 := ⟨_, rfl⟩
            have HSS := hidden hS
            rw [← hS]
            clear hS hlj l1 l2
            by_cases h0 : S = 0
            · have HRP := hidden (show ∀ q, q < p + 1 → rowP n cm q from fun q hq => by
                rcases Nat.lt_or_ge q p with h | h
                · exact HRW.out q h
                · rw [show q = p by omega]
                  exact ⟨HPO.out, by have := HSS.out; omega⟩)
              subst h0
              go_wp2_with fail
              go_roundw
              case rel => exact ⟨p + 1, by have := HPL.out; omega, by go_num, HRP.out, HBI.out⟩
              case measure => have := HPL.out; simp [intOf]; omega
            · have d5 : (S == 0) = false := by simpa using h0
              have d6 : (S != 0) = true := by simpa using h0
              have HF := hidden (validCB_f (n := n) (cm := cm) (fun hv => h0 (by have := (hv.2 p HPL.out).2; have := HSS.out; omega)))
              clear h0
              go_wp2_with fail
              go_ret
              exact ⟨by rw [HF.out]; first | done | rfl, HG0.out.of_below HBI.out⟩
      · have hke : p = 4 := by omega
        have d1 : decide ((p : Int) < 4) = false := by simp; omega
        subst hke
        have HT := hidden (validCB_t (n := n) (cm := cm) ⟨HL.out, HRW.out⟩)
        clear hlt
        go_wp2_with fail
        go_ret
        exact ⟨by rw [HT.out]; first | done | rfl, HG0.out.of_below HB.out⟩
  · have HF := hidden (validCB_f (n := n) (cm := cm) (fun h => h6 h.1))
    have d1 : (cm.length == 256) = false := by simpa using h6
    have d2 : ((cm.length : Int) == 256) = false := beq_eq_false_iff_ne.2 (by omega)
    have d3 : ((cm.length : Int) != 256) = true := by simp; omega
    have q4 := HS0.out.cell 4
    simp only [List.getElem?_cons_succ, List.getElem?_cons_zero] at q4
    clear h6
    go_enter Tryz.func73, Tryz.ntmps73
    go_wp2_with fail
    go_ret
    exact ⟨by rw [HF.out]; first | done | rfl, HG0.out⟩
end Go.Proofs.YtoaklmceejeblaaGreat
/-
  Shaken: what the claims of this seat need of this text. No condition.
-/
namespace Go.Proofs.YtoaklmceejeblaaGreat
set_option maxRecDepth 8000
open Go.RowKit
set_option linter.unusedVariables false
set_option linter.unusedSimpArgs false
def foreignB (fs : List Val) (x : Val) : Bool := x.k == 0 || (match fs with | [] => true | f :: _ => f.k != x.k)
set_option maxHeartbeats 4000000 in
theorem rforeign_any (v : Value) (s : Sk) (x : Val) (w : World) (hk : IsK w v s) :
    Calls Tryz.prog 78 #[v, .agg #[.int .i64 x.k, .int .i64 x.n, .string x.t]] w fun e w' => e = .returned (.bool (foreignB s.fs x)) ∧ Grows w w' := by
  obtain ⟨A1, A2, A3, A4, c1, c2, c3, c4, rfl, -, -, h3, -⟩ := hk
  obtain ⟨W0, hW0⟩ : ∃ W, W = ((w.alloc (.cells #[.int .i64 s.rows, .int .i64 s.nulls, .slice A1 s.hs.length c1, .bool s.ok, .slice A2 s.cm.length c2, .slice A3 s.fs.length c3, .slice A4 s.rk.length c4] 29)).alloc (.cells #[.int .i64 x.k, .int .i64 x.n, .string x.t] 35)) := ⟨_, rfl⟩
  have hg0 : Grows w W0 := by rw [hW0]; exact (growK _ _).of_below (growK _ _)
  have HG0 := hidden hg0
  have HS0 := hidden (show Row W0 w.heap.size 29 [.int .i64 s.rows, .int .i64 s.nulls, .slice A1 s.hs.length c1, .bool s.ok, .slice A2 s.cm.length c2, .slice A3 s.fs.length c3, .slice A4 s.rk.length c4] by rw [hW0]; exact (skrow_new _ _ _ _ _ _ _ _).grow (growK _ _))
  have HX0 := hidden (show Row W0 (w.heap.size + 1) 35 [.int .i64 x.k, .int .i64 x.n, .string x.t] by
    rw [hW0]
    have h := Row.new (w.alloc (.cells #[.int .i64 s.rows, .int .i64 s.nulls, .slice A1 s.hs.length c1, .bool s.ok, .slice A2 s.cm.length c2, .slice A3 s.fs.length c3, .slice A4 s.rk.length c4] 29)) 35 #[.int .i64 x.k, .int .i64 x.n, .string x.t] [.int .i64 x.k, .int .i64 x.n, .string x.t] rfl
    have e : (w.alloc (.cells #[.int .i64 s.rows, .int .i64 s.nulls, .slice A1 s.hs.length c1, .bool s.ok, .slice A2 s.cm.length c2, .slice A3 s.fs.length c3, .slice A4 s.rk.length c4] 29)).heap.size = w.heap.size + 1 := by simp
    rwa [e] at h)
  have HX : Hid (∀ X, Grows W0 X → X.cell? ⟨w.heap.size + 1, 0, none⟩ = some (.int .i64 x.k) ∧ X.cell? ⟨w.heap.size + 1, 1, none⟩ = some (.int .i64 x.n) ∧ X.cell? ⟨w.heap.size, 5, none⟩ = some (.slice A3 s.fs.length c3)) := hidden fun X h => ⟨(HX0.out.grow h).cell 0, (HX0.out.grow h).cell 1, (HS0.out.grow h).cell 5⟩
  by_cases hx : x.k = 0
  · have HF := hidden (show foreignB s.fs x = true by unfold foreignB; rw [hx]; rfl)
    have d1 : (x.k == 0) = true := by simpa using hx
    clear hx h3 hg0
    go_enter Tryz.func78, Tryz.ntmps78
    go_wp2_with fail
    rw [← hW0]
    clear hW0
    refine wp_region_loose (tabRs []) (by kernel_rfl) (by kernel_rfl) tabRs_nil ?_
    iterate 4 ((with_reducible refine loose_one (v := ?_) (a' := ?_) ?_ ?_ (fun w' hC' hG' => ?_) ?_ ?_); rotate_left 2; (focus rfl); (focus rfl); (focus (obtain ⟨x0, x1, p5⟩ := HX.out w' hC'; clear hC' hG'; go_simp; rfl)); (focus (go_simp; rfl)))
    iterate 4 ((with_reducible refine loose_skip (a' := ?_) ?_ ?_ ?_); rotate_left 1; (focus rfl); (focus (go_simp; rfl)))
    iterate 2 ((with_reducible refine loose_one (v := ?_) (a' := ?_) ?_ ?_ (fun w' hC' hG' => ?_) ?_ ?_); rotate_left 2; (focus rfl); (focus rfl); (focus (obtain ⟨x0, x1, p5⟩ := HX.out w' hC'; clear hC' hG'; go_simp; rfl)); (focus (go_simp; rfl)))
    iterate 8 ((with_reducible refine loose_skip (a' := ?_) ?_ ?_ ?_); rotate_left 1; (focus rfl); (focus (go_simp; rfl)))
    iterate 2 ((with_reducible refine loose_one (v := ?_) (a' := ?_) ?_ ?_ (fun w' hC' hG' => ?_) ?_ ?_); rotate_left 2; (focus rfl); (focus rfl); (focus (obtain ⟨x0, x1, p5⟩ := HX.out w' hC'; clear hC' hG'; go_simp; rfl)); (focus (go_simp; rfl)))
    refine loose_done (fun w9 hC' hG' => ?_)
    have HGE := hidden (HG0.out.of_below hC')
    clear hC' hG'
    go_wp2_with fail
    go_ret
    exact ⟨by rw [HF.out]; first | done | rfl, HGE.out⟩
  have d1 : (x.k == 0) = false := by simpa using hx
  obtain ⟨sr, sn, hs, ok, cm, fs, rk⟩ := s
  simp only [] at *
  cases fs with
  | nil =>
    have HF := hidden (show foreignB [] x = true by unfold foreignB; rw [d1]; rfl)
    simp only [List.length_nil] at *
    clear hx h3 hg0
    go_enter Tryz.func78, Tryz.ntmps78
    go_wp2_with fail
    rw [← hW0]
    clear hW0
    refine wp_region_loose (tabRs []) (by kernel_rfl) (by kernel_rfl) tabRs_nil ?_
    iterate 10 ((with_reducible refine loose_one (v := ?_) (a' := ?_) ?_ ?_ (fun w' hC' hG' => ?_) ?_ ?_); rotate_left 2; (focus rfl); (focus rfl); (focus (obtain ⟨x0, x1, p5⟩ := HX.out w' hC'; clear hC' hG'; go_simp; rfl)); (focus (go_simp; rfl)))
    iterate 8 ((with_reducible refine loose_skip (a' := ?_) ?_ ?_ ?_); rotate_left 1; (focus rfl); (focus (go_simp; rfl)))
    iterate 2 ((with_reducible refine loose_one (v := ?_) (a' := ?_) ?_ ?_ (fun w' hC' hG' => ?_) ?_ ?_); rotate_left 2; (focus rfl); (focus rfl); (focus (obtain ⟨x0, x1, p5⟩ := HX.out w' hC'; clear hC' hG'; go_simp; rfl)); (focus (go_simp; rfl)))
    refine loose_done (fun w9 hC' hG' => ?_)
    have HGE := hidden (HG0.out.of_below hC')
    clear hC' hG'
    go_wp2_with fail
    go_ret
    exact ⟨by rw [HF.out]; first | done | rfl, HGE.out⟩
  | cons f r =>
    have HF := hidden (show foreignB (f :: r) x = (f.k != x.k) by unfold foreignB; rw [d1]; rfl)
    obtain ⟨A', c', he, _, hcell⟩ := h3.grow hg0
    injection he with e1 e2 e3
    subst e1 e3
    obtain ⟨b, off, rfl, hcell2⟩ := hcell (by simp)
    obtain ⟨k1, k2, k3⟩ := hcell2 0 f rfl
    rw [Nat.zero_mul, Nat.add_zero] at k1
    obtain ⟨L, hL⟩ : ∃ L, L = (f :: r).length := ⟨_, rfl⟩
    have hpos : 0 < L := by rw [hL]; simp
    rw [← hL] at HX HS0 hW0 ⊢
    have HX1 := hidden HX.out
    replace HX := hidden (fun X (h : Grows W0 X) => (⟨(HX1.out X h).1, (HX1.out X h).2.1, (HX1.out X h).2.2, (h.cell (World.block_lt_of_cell? _ _ k1)).trans k1⟩ : _ ∧ _ ∧ _ ∧ _))
    have d2 : ((L : Int) == 0) = false := beq_eq_false_iff_ne.2 (by omega)
    have d3 : (L == 0) = false := beq_eq_false_iff_ne.2 (by omega)
    have d4 : (0 : Int) < (L : Int) := by omega
    clear hx hg0 hcell hcell2 e2 hL k1 k2 k3 HX1 h3
    go_enter Tryz.func78, Tryz.ntmps78
    go_wp2_with fail
    rw [← hW0]
    clear hW0
    refine wp_region_loose (tabRs []) (by kernel_rfl) (by kernel_rfl) tabRs_nil ?_
    iterate 20 ((with_reducible refine loose_one (v := ?_) (a' := ?_) ?_ ?_ (fun w' hC' hG' => ?_) ?_ ?_); rotate_left 2; (focus rfl); (focus rfl); (focus (obtain ⟨x0, x1, p5, k1⟩ := HX.out w' hC'; clear hC' hG'; go_simp; rfl)); (focus (go_simp; rfl)))
    refine loose_done (fun w9 hC' hG' => ?_)
    have HGE := hidden (HG0.out.of_below hC')
    clear hC' hG'
    go_wp2_with fail
    go_ret
    exact ⟨by rw [HF.out]; first | done | rfl, HGE.out⟩
end Go.Proofs.YtoaklmceejeblaaGreat
/-
  Shaken: what the claims of this seat need of this text. No condition.
-/
namespace Go.Proofs.YtoaklmceejeblaaGreat
set_option maxRecDepth 8000
open Go.RowKit
set_option linter.unusedVariables false
set_option linter.unusedSimpArgs false
theorem Row.setRowK {w : World} {g : Nat} {e : TypeId} {xs : List Value} (h : Row w g e xs) (ys : List Value) : Row (w.setRow g ys.toArray) g e ys := by
  unfold Row at h ⊢
  simp [World.setRow, Array.getElem?_modify, h]
theorem below_setRowK {B g : Nat} {a w : World} (h : Below B a w) (hg : B ≤ g) (cs : Array Value) : Below B a (w.setRow g cs) :=
  ⟨h.os, h.tape, h.output, by simpa [World.setRow] using h.size, fun k hk => (setRow_other w g k cs (by omega)).trans (h.block k hk)⟩
theorem wpList_store_bd {wr : World} {ops : Array Oper} {rest : List Oper} {o : Oper} {a : Act} {Q : Exit → Act → World → Prop} (hgd : o.guard = none) (x y : Operand) (ho : o.op = .store 40 x y)
    (W0 : World) (hw : wr = W0) (g : Nat) (hx : a.eval x = .pointer (some ⟨g, 0, none⟩)) (m n : Int) (hy : a.eval y = .agg #[.int .i64 m, .int .i64 n]) (z1 z2 : Value) (hr : Row W0 g 40 [z1, z2])
    (hk : ∀ W, Row W g 40 [.int .i64 m, .int .i64 n] → (∀ w0, Grows w0 W0 → w0.heap.size ≤ g → Grows w0 W) → wpList Tryz.prog ops Q rest (a.put o.dst undef) W) : wpList Tryz.prog ops Q (o :: rest) a wr := by
  subst hw
  exact wpList_store_row hgd _ x y ho g #[.int .i64 m, .int .i64 n] hx hy 40 #[z1, z2] hr size_bounds rfl (by simp [Value.oneCell']) (hk _ (hr.setRowK [.int .i64 m, .int .i64 n]) (fun w0 h0 hg => below_setRowK h0 hg _))
theorem at_bd {wr : World} {ops : Array Oper} {rest : List Oper} {op : Oper} {a : Act} {Q : Exit → Act → World → Prop} (hgd : op.guard = none) (x y : Operand) (ho : op.op = .store 40 x y) (h : wpList Tryz.prog ops Q (op :: rest) a wr) : wpList Tryz.prog ops Q (op :: rest) a wr := h
theorem results_bd {fn : Func} {p : Tmp} (h : fn.results = #[.cell p 40]) (tmps : Array Value) (w : World) (g : Nat) (a b : Value) (hp : tmps.getD p undef = .pointer (some ⟨g, 0, none⟩)) (hg : Row w g 40 [a, b]) :
    (results fn tmps).run Tryz.prog w = .ok (.agg #[a, b]) w := results_cell_row h _ _ _ _ _ _ _ hp hg Tryz.underlying40 rfl size_bounds
def lessLo (s : Sk) (x : Val) : Int := if x.k = 0 then 0 else lessMinF x false 0 s.fs s.rk
def lessHi (s : Sk) (x : Val) : Int := if x.k = 0 then 0 else lessMaxF (s.rows - s.nulls) x false s.fs s.rk
set_option maxHeartbeats 4000000 in
theorem rCountLess_any (v : Value) (s : Sk) (x : Val) (w : World) (hk : IsK w v s) (hl : s.fs.length ≤ 100000) (hr : s.rk.length = 2 * s.fs.length) (hn : -9223372036854775808 ≤ s.rows - s.nulls ∧ s.rows - s.nulls ≤ 9223372036854775807) :
    Calls Tryz.prog 24 #[v, .agg #[.int .i64 x.k, .int .i64 x.n, .string x.t]] w fun e w' => e = .returned (.agg #[.int .i64 (lessLo s x), .int .i64 (lessHi s x)]) ∧ Grows w w' := by
  have HIK := hidden hk
  obtain ⟨A1, A2, A3, A4, c1, c2, c3, c4, rfl, -⟩ := hk
  obtain ⟨W0, hW0⟩ : ∃ W, W = (((w.alloc (.cells #[.int .i64 s.rows, .int .i64 s.nulls, .slice A1 s.hs.length c1, .bool s.ok, .slice A2 s.cm.length c2, .slice A3 s.fs.length c3, .slice A4 s.rk.length c4] 29)).alloc (.cells #[.int .i64 x.k, .int .i64 x.n, .string x.t] 35)).alloc (.cells #[.int .i64 0, .int .i64 0] 40)) := ⟨_, rfl⟩
  have hg0 : Grows w W0 := by rw [hW0]; exact ((growK _ _).of_below (growK _ _)).of_below (growK _ _)
  have HG0 := hidden hg0
  have HS0 := hidden (show Row W0 w.heap.size 29 [.int .i64 s.rows, .int .i64 s.nulls, .slice A1 s.hs.length c1, .bool s.ok, .slice A2 s.cm.length c2, .slice A3 s.fs.length c3, .slice A4 s.rk.length c4] by rw [hW0]; exact ((skrow_new _ _ _ _ _ _ _ _).grow (growK _ _)).grow (growK _ _))
  have HX0 := hidden (show Row W0 (w.heap.size + 1) 35 [.int .i64 x.k, .int .i64 x.n, .string x.t] by
    rw [hW0]
    have h := (Row.new (w.alloc (.cells #[.int .i64 s.rows, .int .i64 s.nulls, .slice A1 s.hs.length c1, .bool s.ok, .slice A2 s.cm.length c2, .slice A3 s.fs.length c3, .slice A4 s.rk.length c4] 29)) 35 #[.int .i64 x.k, .int .i64 x.n, .string x.t] [.int .i64 x.k, .int .i64 x.n, .string x.t] rfl).grow (growK _ (.cells #[.int .i64 0, .int .i64 0] 40))
    have e : (w.alloc (.cells #[.int .i64 s.rows, .int .i64 s.nulls, .slice A1 s.hs.length c1, .bool s.ok, .slice A2 s.cm.length c2, .slice A3 s.fs.length c3, .slice A4 s.rk.length c4] 29)).heap.size = w.heap.size + 1 := by simp
    rwa [e] at h)
  have HB0 := hidden (show Row W0 (w.heap.size + 1 + 1) 40 [.int .i64 0, .int .i64 0] by
    rw [hW0]
    have h := Row.new ((w.alloc (.cells #[.int .i64 s.rows, .int .i64 s.nulls, .slice A1 s.hs.length c1, .bool s.ok, .slice A2 s.cm.length c2, .slice A3 s.fs.length c3, .slice A4 s.rk.length c4] 29)).alloc (.cells #[.int .i64 x.k, .int .i64 x.n, .string x.t] 35)) 40 #[.int .i64 0, .int .i64 0] [.int .i64 0, .int .i64 0] rfl
    have e : ((w.alloc (.cells #[.int .i64 s.rows, .int .i64 s.nulls, .slice A1 s.hs.length c1, .bool s.ok, .slice A2 s.cm.length c2, .slice A3 s.fs.length c3, .slice A4 s.rk.length c4] 29)).alloc (.cells #[.int .i64 x.k, .int .i64 x.n, .string x.t] 35)).heap.size = w.heap.size + 1 + 1 := by simp
    rwa [e] at h)
  have HX : Hid (∀ X, Grows W0 X → X.cell? ⟨w.heap.size, 0, none⟩ = some (.int .i64 s.rows) ∧ X.cell? ⟨w.heap.size, 1, none⟩ = some (.int .i64 s.nulls) ∧ X.cell? ⟨w.heap.size, 2, none⟩ = some (.slice A1 s.hs.length c1) ∧ X.cell? ⟨w.heap.size, 3, none⟩ = some (.bool s.ok) ∧ X.cell? ⟨w.heap.size, 4, none⟩ = some (.slice A2 s.cm.length c2) ∧ X.cell? ⟨w.heap.size, 5, none⟩ = some (.slice A3 s.fs.length c3) ∧ X.cell? ⟨w.heap.size, 6, none⟩ = some (.slice A4 s.rk.length c4) ∧ X.cell? ⟨w.heap.size + 1, 0, none⟩ = some (.int .i64 x.k) ∧ X.cell? ⟨w.heap.size + 1, 1, none⟩ = some (.int .i64 x.n) ∧ X.cell? ⟨w.heap.size + 1, 2, none⟩ = some (.string x.t)) := hidden fun X h => ⟨(HS0.out.grow h).cell 0, (HS0.out.grow h).cell 1, (HS0.out.grow h).cell 2, (HS0.out.grow h).cell 3, (HS0.out.grow h).cell 4, (HS0.out.grow h).cell 5, (HS0.out.grow h).cell 6, (HX0.out.grow h).cell 0, (HX0.out.grow h).cell 1, (HX0.out.grow h).cell 2⟩
  have HSP := hidden (fun a b W => rspan_any a b W)
  have HMX := hidden (fun W (h : Grows w W) => rLessMax_any _ s x false W (HIK.out.grow h) hl hr hn)
  have HMN := hidden (fun W (h : Grows w W) => rLessMin_any _ s x false W (HIK.out.grow h) hl hr)
  have hpx : (((w.alloc (.cells #[.int .i64 s.rows, .int .i64 s.nulls, .slice A1 s.hs.length c1, .bool s.ok, .slice A2 s.cm.length c2, .slice A3 s.fs.length c3, .slice A4 s.rk.length c4] 29)).alloc (.cells #[.int .i64 x.k, .int .i64 x.n, .string x.t] 35)).alloc (.cells #[.int .i64 0, .int .i64 0] 40)).cell? ⟨w.heap.size + 1, 0, none⟩ = some (.int .i64 x.k) := by rw [← hW0]; exact HX0.out.cell 0
  by_cases hx : x.k = 0
  · have HF1 := hidden (show lessLo s x = 0 from if_pos hx)
    have HF2 := hidden (show lessHi s x = 0 from if_pos hx)
    have d1 : (x.k == 0) = true := by simpa using hx
    have HW := hidden hW0
    clear hx hg0 hl hr hn hW0
    go_enter Tryz.func24, Tryz.ntmps24
    go_wp2_with (first | (go_at_call 80; rw [← HW.out]; refine (HSP.out 0 0 _).mono ?_; rintro e w1 ⟨rfl, g1⟩; have HG1 := hidden (HG0.out.of_below g1); have HB1 := hidden (HB0.out.grow g1); clear g1 hpx) | ((with_reducible refine at_bd rfl _ _ rfl ?_); refine wpList_store_bd rfl _ _ rfl w1 rfl (w.heap.size + 1 + 1) rfl 0 0 rfl _ _ HB1.out ?_; intro W hr hg; have HRR := hidden hr; have HGG := hidden (hg w HG1.out (by omega)); clear hr hg))
    refine bodyPost_ret (results_bd rfl _ _ _ _ _ rfl HRR.out) rfl ⟨?_, HGG.out⟩
    rw [HF1.out, HF2.out]
  · have HF1 := hidden (show lessLo s x = lessMinF x false 0 s.fs s.rk from if_neg hx)
    have HF2 := hidden (show lessHi s x = lessMaxF (s.rows - s.nulls) x false s.fs s.rk from if_neg hx)
    have d1 : (x.k == 0) = false := by simpa using hx
    clear hx hg0 hl hr hn
    go_enter Tryz.func24, Tryz.ntmps24
    go_wp2_with fail
    rw [← hW0]
    clear hW0 hpx
    obtain ⟨lo, hlo⟩ : ∃ lo, lo = lessMinF x false 0 s.fs s.rk := ⟨_, rfl⟩
    obtain ⟨hi, hhi⟩ : ∃ hi, hi = lessMaxF (s.rows - s.nulls) x false s.fs s.rk := ⟨_, rfl⟩
    rw [← hlo] at HF1 HMN
    rw [← hhi] at HF2 HMX
    clear hlo hhi
    have HC1 := hidden (fun W (h : Grows W0 W) => const_loose16 (HMN.out W (HG0.out.of_below h)))
    have HC2 := hidden (fun W (h : Grows W0 W) => const_loose16 (HMX.out W (HG0.out.of_below h)))
    have HC3 := hidden (fun W (h : Grows W0 W) => const_loose16 (HSP.out lo hi W))
    refine wp_region_loose_tail 7 (tabRs [(2, ConstV (.int .i64 lo)), (5, ConstV (.int .i64 hi)), (6, ConstV (.agg #[.int .i64 lo, .int .i64 hi]))]) (by kernel_rfl) (by kernel_rfl) (tabRs_cons ConstV.lasts (tabRs_cons ConstV.lasts (tabRs_cons ConstV.lasts tabRs_nil))) ?_
    simp only [List.take_succ_cons, List.take_zero, List.drop_succ_cons, List.drop_zero]
    iterate 2 ((with_reducible refine loose_one (v := ?_) (a' := ?_) ?_ ?_ (fun w' hC' hG' => ?_) ?_ ?_); rotate_left 2; (focus rfl); (focus rfl); (focus (obtain ⟨s0, s1, s2, s3, s4, s5, s6, x0, x1, x2⟩ := HX.out w' hC'; clear hC' hG'; go_simp; rfl)); (focus (go_simp; rfl)))
    refine loose_call (R := ConstV (.int .i64 lo)) (f := 58) (args := #[.agg #[.int .i64 s.rows, .int .i64 s.nulls, .slice A1 s.hs.length c1, .bool s.ok, .slice A2 s.cm.length c2, .slice A3 s.fs.length c3, .slice A4 s.rk.length c4], .agg #[.int .i64 x.k, .int .i64 x.n, .string x.t], .bool false]) (by rfl) (by rfl) (fun _ => by go_simp) (fun w' hC' hG' => HC1.out w' hC') ?_
    rintro _ ⟨_, _, rfl⟩
    refine ⟨?_, ?_, ?_⟩
    rotate_left
    · go_simp
      rfl
    iterate 2 ((with_reducible refine loose_one (v := ?_) (a' := ?_) ?_ ?_ (fun w' hC' hG' => ?_) ?_ ?_); rotate_left 2; (focus rfl); (focus rfl); (focus (obtain ⟨s0, s1, s2, s3, s4, s5, s6, x0, x1, x2⟩ := HX.out w' hC'; clear hC' hG'; go_simp; rfl)); (focus (go_simp; rfl)))
    refine loose_call (R := ConstV (.int .i64 hi)) (f := 57) (args := #[.agg #[.int .i64 s.rows, .int .i64 s.nulls, .slice A1 s.hs.length c1, .bool s.ok, .slice A2 s.cm.length c2, .slice A3 s.fs.length c3, .slice A4 s.rk.length c4], .agg #[.int .i64 x.k, .int .i64 x.n, .string x.t], .bool false]) (by rfl) (by rfl) (fun _ => by go_simp) (fun w' hC' hG' => HC2.out w' hC') ?_
    rintro _ ⟨_, _, rfl⟩
    refine ⟨?_, ?_, ?_⟩
    rotate_left
    · go_simp
      rfl
    refine loose_call (R := ConstV (.agg #[.int .i64 lo, .int .i64 hi])) (f := 80) (args := #[.int .i64 lo, .int .i64 hi]) (by rfl) (by rfl) (fun _ => by go_simp) (fun w' hC' hG' => HC3.out w' hC') ?_
    rintro _ ⟨_, _, rfl⟩
    refine ⟨?_, ?_, ?_⟩
    rotate_left
    · go_simp
      rfl
    refine loose_done (fun w9 hC' hG' => ?_)
    have HG9 := hidden (HG0.out.of_below hC')
    have HB9 := hidden (HB0.out.grow hC')
    clear hC' hG'
    refine wpList_store_bd rfl _ _ rfl w9 rfl (w.heap.size + 1 + 1) rfl lo hi rfl _ _ HB9.out ?_
    intro W hr hg
    have HRR := hidden hr
    have HGG := hidden (hg w HG9.out (by omega))
    clear hr hg
    go_wp2_with fail
    refine bodyPost_ret (results_bd rfl _ _ _ _ _ rfl HRR.out) rfl ⟨?_, HGG.out⟩
    rw [HF1.out, HF2.out]
end Go.Proofs.YtoaklmceejeblaaGreat
/-
  Shaken: what the claims of this seat need of this text. No condition.
-/
namespace Go.Proofs.YtoaklmceejeblaaGreat
open Go.RowKit
set_option linter.unusedVariables false
set_option linter.unusedSimpArgs false
end Go.Proofs.YtoaklmceejeblaaGreat
