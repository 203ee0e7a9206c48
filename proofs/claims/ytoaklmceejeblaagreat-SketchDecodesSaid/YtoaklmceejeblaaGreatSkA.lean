/-
  Shaken: what the claims of this seat need of this text. No condition.
-/
import Derived.Test.YtoaklmceejeblaaGreatSk9
import Derived.Test.YtoaklmceejeblaaGreatSq1
namespace Go.Proofs.YtoaklmceejeblaaGreat
set_option maxRecDepth 8000
open Go.RowKit
set_option linter.unusedVariables false
set_option linter.unusedSimpArgs false
def fenR (fs : List Val) (i : Nat) : Prop := validV (fs.getD i nulX).k (fs.getD i nulX).n (fs.getD i nulX).t = true ∧ (fs.getD i nulX).k ≠ 0 ∧ (fs.getD i nulX).k = kindK fs ∧ (0 < i → cmpX (fs.getD (i - 1) nulX) (fs.getD i nulX) < 0)
def rnkR (n : Int) (rk : List Int) (m i : Nat) : Prop := 0 ≤ rk.getD (2 * i) 0 ∧ rk.getD (2 * i) 0 ≤ n ∧ 0 ≤ rk.getD (2 * i + 1) 0 ∧ rk.getD (2 * i + 1) 0 ≤ n ∧ (i = 0 → rk.getD (2 * i) 0 = 0) ∧ (i + 1 = m → rk.getD (2 * i + 1) 0 = n) ∧ (0 < i → rk.getD (2 * i - 2) 0 ≤ rk.getD (2 * i) 0 ∧ rk.getD (2 * i - 1) 0 ≤ rk.getD (2 * i + 1) 0 ∧ rk.getD (2 * i - 1) 0 ≤ rk.getD (2 * i) 0)
def rvfP (n : Int) (fs : List Val) (rk : List Int) : Prop := fs.length ≤ 17 ∧ (fs.length = 0 ↔ n = 0) ∧ rk.length = 2 * fs.length ∧ ∀ i, i < fs.length → fenR fs i ∧ rnkR n rk fs.length i
open Classical in
noncomputable def rvfB (n : Int) (fs : List Val) (rk : List Int) : Bool := decide (rvfP n fs rk)
theorem rvfB_t {n : Int} {fs : List Val} {rk : List Int} (h : rvfP n fs rk) : rvfB n fs rk = true := by unfold rvfB; simpa using h
theorem rvfB_f {n : Int} {fs : List Val} {rk : List Int} (h : ¬ rvfP n fs rk) : rvfB n fs rk = false := by unfold rvfB; simpa using h
def RvfRel (W : World) (n : Int) (fs : List Val) (rk : List Int) (i : Value) (wr : World) : Prop := ∃ k : Nat, k ≤ fs.length ∧ i = .int .i64 (k : Int) ∧ (∀ j, j < k → fenR fs j ∧ rnkR n rk fs.length j) ∧ Grows W wr
set_option maxHeartbeats 64000000 in
theorem rvalidFences_any (v : Value) (s : Sk) (w : World) (hk : IsK w v s) (hl : s.fs.length ≤ 4611686018427387903) (hrl : s.rk.length ≤ 4611686018427387903) (hn : 0 ≤ s.rows - s.nulls ∧ s.rows - s.nulls ≤ 9223372036854775807) :
    Calls Tryz.prog 74 #[v] w fun e w' => e = .returned (.bool (rvfB (s.rows - s.nulls) s.fs s.rk)) ∧ Grows w w' := by
  obtain ⟨A1, A2, A3, A4, c1, c2, c3, c4, rfl, -, -, h3, h4⟩ := hk
  obtain ⟨r, n0, hs, ok, cm, fs, rk⟩ := s
  simp only [] at *
  obtain ⟨m, hm⟩ : ∃ m, m = fs.length := ⟨_, rfl⟩
  obtain ⟨rl, hrl2⟩ : ∃ rl, rl = rk.length := ⟨_, rfl⟩
  have HM := hidden hm
  have HRL := hidden hrl2
  have HR3 := hidden (fun X (h : Grows w X) => h3.grow h)
  have HR4 := hidden (fun X (h : Grows w X) => h4.grow h)
  rw [← hm] at HR3 hl ⊢
  rw [← hrl2] at HR4 hrl ⊢
  clear h3 h4 hm hrl2
  obtain ⟨W0, hW0⟩ : ∃ W, W = w.alloc (.cells #[.int .i64 r, .int .i64 n0, .slice A1 hs.length c1, .bool ok, .slice A2 cm.length c2, .slice A3 m c3, .slice A4 rl c4] 29) := ⟨_, rfl⟩
  have HG0 := hidden (show Grows w W0 by rw [hW0]; exact growK _ _)
  have hS0 : Row W0 w.heap.size 29 [.int .i64 r, .int .i64 n0, .slice A1 hs.length c1, .bool ok, .slice A2 cm.length c2, .slice A3 m c3, .slice A4 rl c4] := by rw [hW0]; exact skrow_new w (.int .i64 r) (.int .i64 n0) (.slice A1 hs.length c1) (.bool ok) (.slice A2 cm.length c2) (.slice A3 m c3) (.slice A4 rl c4)
  have HX0 : Hid (∀ X, Grows W0 X → X.cell? ⟨w.heap.size, 0, none⟩ = some (.int .i64 r) ∧ X.cell? ⟨w.heap.size, 1, none⟩ = some (.int .i64 n0) ∧ X.cell? ⟨w.heap.size, 2, none⟩ = some (.slice A1 hs.length c1) ∧ X.cell? ⟨w.heap.size, 3, none⟩ = some (.bool ok) ∧ X.cell? ⟨w.heap.size, 4, none⟩ = some (.slice A2 cm.length c2) ∧ X.cell? ⟨w.heap.size, 5, none⟩ = some (.slice A3 m c3) ∧ X.cell? ⟨w.heap.size, 6, none⟩ = some (.slice A4 rl c4)) := hidden fun X h => ⟨(hS0.grow h).cell 0, (hS0.grow h).cell 1, (hS0.grow h).cell 2, (hS0.grow h).cell 3, (hS0.grow h).cell 4, (hS0.grow h).cell 5, (hS0.grow h).cell 6⟩
  have HV := hidden (fun W => const_loose16 (rvalues_any r n0 A1 A2 A3 A4 hs.length c1 cm.length c2 m c3 rl c4 ok W ⟨by omega, hn.2⟩))
  obtain ⟨n, hnn⟩ : ∃ n, n = r - n0 := ⟨_, rfl⟩
  rw [← hnn] at HV hn ⊢
  obtain ⟨hn1, hn2⟩ := hn
  have HNB := hidden (And.intro hn1 hn2)
  have HVT := hidden (fun h => rvfB_t (n := n) (fs := fs) (rk := rk) h)
  have HVF := hidden (fun h => rvfB_f (n := n) (fs := fs) (rk := rk) h)
  generalize rvfB n fs rk = out at *
  clear hnn hS0
  by_cases q1 : 17 < m
  · have d1 : decide (17 < m) = true := decide_eq_true q1
    have d1b : decide (17 < (m : Int)) = true := decide_eq_true (by omega)
    have HO := hidden (HVF.out (fun h => by have := h.1; have := HM.out; omega))
    clear hn1 hn2
    go_enter Tryz.func74, Tryz.ntmps74
    go_wp2_with fail
    rw [← hW0]
    clear hW0
    refine wp_region_loose (tabRs [(1, ConstV (.int .i64 n))]) (by kernel_rfl) (by kernel_rfl) (tabRs_cons ConstV.lasts tabRs_nil) ?_
    iterate 1 ((with_reducible refine loose_one (v := ?_) (a' := ?_) ?_ ?_ (fun w' hC' hG' => ?_) ?_ ?_); rotate_left 2; (focus rfl); (focus rfl); (focus (obtain ⟨s0, s1, s2, s3, s4, s5, s6⟩ := HX0.out w' hC'; clear hC' hG'; go_simp; rfl)); (focus (go_simp; rfl)))
    refine loose_call (R := ConstV (.int .i64 n)) (f := 85) (args := #[.agg #[.int .i64 r, .int .i64 n0, .slice A1 hs.length c1, .bool ok, .slice A2 cm.length c2, .slice A3 m c3, .slice A4 rl c4]]) (by rfl) (by rfl) (fun _ => by go_simp) (fun w' hC' hG' => HV.out w') ?_
    rintro _ ⟨_, _, rfl⟩
    refine ⟨?_, ?_, ?_⟩
    rotate_left
    · go_simp
      rfl
    iterate 5 ((with_reducible refine loose_one (v := ?_) (a' := ?_) ?_ ?_ (fun w' hC' hG' => ?_) ?_ ?_); rotate_left 2; (focus rfl); (focus rfl); (focus (obtain ⟨s0, s1, s2, s3, s4, s5, s6⟩ := HX0.out w' hC'; clear hC' hG'; go_simp; rfl)); (focus (go_simp; rfl)))
    refine loose_done (fun w1 hC1 hG1 => ?_)
    have HG1 := hidden hC1
    obtain ⟨s0, s1, s2, s3, s4, s5, s6⟩ := HX0.out w1 hC1
    clear hC1 hG1 s0 s1 s2 s3 s4
    go_wp2_with fail
    go_ret
    exact ⟨by rw [HO.out]; first | done | rfl, HG0.out.of_below HG1.out⟩
  have d1 : decide (17 < m) = false := decide_eq_false q1
  have d1b : decide (17 < (m : Int)) = false := decide_eq_false (by omega)
  by_cases q2 : (m = 0 ↔ n = 0)
  rotate_left
  · have HO := hidden (HVF.out (fun h => q2 (by rw [HM.out]; exact h.2.1)))
    rcases (show (m = 0 ∧ n ≠ 0) ∨ (m ≠ 0 ∧ n = 0) by
      by_cases a : m = 0
      · exact .inl ⟨a, fun b => q2 ⟨fun _ => b, fun _ => a⟩⟩
      · exact .inr ⟨a, Classical.byContradiction fun b => q2 ⟨fun c => absurd c a, fun c => absurd c b⟩⟩) with ⟨qa, qb⟩ | ⟨qa, qb⟩
    · have d2 : (m == 0) = true := beq_iff_eq.2 qa
      have d2b : ((m : Int) == 0) = true := beq_iff_eq.2 (by omega)
      have d3 : (n == 0) = false := beq_eq_false_iff_ne.2 qb
      clear hn1 hn2 q2 qa qb
      go_enter Tryz.func74, Tryz.ntmps74
      go_wp2_with fail
      rw [← hW0]
      clear hW0
      refine wp_region_loose (tabRs [(1, ConstV (.int .i64 n))]) (by kernel_rfl) (by kernel_rfl) (tabRs_cons ConstV.lasts tabRs_nil) ?_
      iterate 1 ((with_reducible refine loose_one (v := ?_) (a' := ?_) ?_ ?_ (fun w' hC' hG' => ?_) ?_ ?_); rotate_left 2; (focus rfl); (focus rfl); (focus (obtain ⟨s0, s1, s2, s3, s4, s5, s6⟩ := HX0.out w' hC'; clear hC' hG'; go_simp; rfl)); (focus (go_simp; rfl)))
      refine loose_call (R := ConstV (.int .i64 n)) (f := 85) (args := #[.agg #[.int .i64 r, .int .i64 n0, .slice A1 hs.length c1, .bool ok, .slice A2 cm.length c2, .slice A3 m c3, .slice A4 rl c4]]) (by rfl) (by rfl) (fun _ => by go_simp) (fun w' hC' hG' => HV.out w') ?_
      rintro _ ⟨_, _, rfl⟩
      refine ⟨?_, ?_, ?_⟩
      rotate_left
      · go_simp
        rfl
      iterate 5 ((with_reducible refine loose_one (v := ?_) (a' := ?_) ?_ ?_ (fun w' hC' hG' => ?_) ?_ ?_); rotate_left 2; (focus rfl); (focus rfl); (focus (obtain ⟨s0, s1, s2, s3, s4, s5, s6⟩ := HX0.out w' hC'; clear hC' hG'; go_simp; rfl)); (focus (go_simp; rfl)))
      refine loose_done (fun w1 hC1 hG1 => ?_)
      have HG1 := hidden hC1
      obtain ⟨s0, s1, s2, s3, s4, s5, s6⟩ := HX0.out w1 hC1
      clear hC1 hG1 s0 s1 s2 s3 s4
      go_wp2_with fail
      go_ret
      exact ⟨by rw [HO.out]; first | done | rfl, HG0.out.of_below HG1.out⟩
    · have d2 : (m == 0) = false := beq_eq_false_iff_ne.2 qa
      have d2b : ((m : Int) == 0) = false := beq_eq_false_iff_ne.2 (by omega)
      have d3 : (n == 0) = true := beq_iff_eq.2 qb
      clear hn1 hn2 q2 qa qb
      go_enter Tryz.func74, Tryz.ntmps74
      go_wp2_with fail
      rw [← hW0]
      clear hW0
      refine wp_region_loose (tabRs [(1, ConstV (.int .i64 n))]) (by kernel_rfl) (by kernel_rfl) (tabRs_cons ConstV.lasts tabRs_nil) ?_
      iterate 1 ((with_reducible refine loose_one (v := ?_) (a' := ?_) ?_ ?_ (fun w' hC' hG' => ?_) ?_ ?_); rotate_left 2; (focus rfl); (focus rfl); (focus (obtain ⟨s0, s1, s2, s3, s4, s5, s6⟩ := HX0.out w' hC'; clear hC' hG'; go_simp; rfl)); (focus (go_simp; rfl)))
      refine loose_call (R := ConstV (.int .i64 n)) (f := 85) (args := #[.agg #[.int .i64 r, .int .i64 n0, .slice A1 hs.length c1, .bool ok, .slice A2 cm.length c2, .slice A3 m c3, .slice A4 rl c4]]) (by rfl) (by rfl) (fun _ => by go_simp) (fun w' hC' hG' => HV.out w') ?_
      rintro _ ⟨_, _, rfl⟩
      refine ⟨?_, ?_, ?_⟩
      rotate_left
      · go_simp
        rfl
      iterate 5 ((with_reducible refine loose_one (v := ?_) (a' := ?_) ?_ ?_ (fun w' hC' hG' => ?_) ?_ ?_); rotate_left 2; (focus rfl); (focus rfl); (focus (obtain ⟨s0, s1, s2, s3, s4, s5, s6⟩ := HX0.out w' hC'; clear hC' hG'; go_simp; rfl)); (focus (go_simp; rfl)))
      refine loose_done (fun w1 hC1 hG1 => ?_)
      have HG1 := hidden hC1
      obtain ⟨s0, s1, s2, s3, s4, s5, s6⟩ := HX0.out w1 hC1
      clear hC1 hG1 s0 s1 s2 s3 s4
      go_wp2_with fail
      go_ret
      exact ⟨by rw [HO.out]; first | done | rfl, HG0.out.of_below HG1.out⟩
  obtain ⟨bz, d2⟩ : ∃ bz, (m == 0) = bz := ⟨_, rfl⟩
  have d2b : ((m : Int) == 0) = bz := by
    rw [← d2]
    by_cases a : m = 0
    · rw [a]; rfl
    · rw [beq_eq_false_iff_ne.2 a]; exact beq_eq_false_iff_ne.2 (by omega)
  have d3 : (n == 0) = bz := by
    rw [← d2]
    by_cases a : m = 0
    · rw [beq_iff_eq.2 a]; exact beq_iff_eq.2 (q2.1 a)
    · rw [beq_eq_false_iff_ne.2 a]; exact beq_eq_false_iff_ne.2 (fun b => a (q2.2 b))
  have w2 : wrap64 (2 * (m : Int)) = 2 * (m : Int) := by unfold wrap64; omega
  by_cases q4 : rl = 2 * m
  · have d4 : ((rl : Int) == 2 * (m : Int)) = true := beq_iff_eq.2 (by omega)
    have d4b : ((rl : Int) != 2 * (m : Int)) = false := by simp; omega
    have HRM := hidden q4
    have HQ := hidden (And.intro q1 q2)
    clear hn1 hn2 q1 q2 q4
    go_enter Tryz.func74, Tryz.ntmps74
    go_wp2_with fail
    rw [← hW0]
    clear hW0
    refine wp_region_loose (tabRs [(1, ConstV (.int .i64 n))]) (by kernel_rfl) (by kernel_rfl) (tabRs_cons ConstV.lasts tabRs_nil) ?_
    iterate 1 ((with_reducible refine loose_one (v := ?_) (a' := ?_) ?_ ?_ (fun w' hC' hG' => ?_) ?_ ?_); rotate_left 2; (focus rfl); (focus rfl); (focus (obtain ⟨s0, s1, s2, s3, s4, s5, s6⟩ := HX0.out w' hC'; clear hC' hG'; go_simp; rfl)); (focus (go_simp; rfl)))
    refine loose_call (R := ConstV (.int .i64 n)) (f := 85) (args := #[.agg #[.int .i64 r, .int .i64 n0, .slice A1 hs.length c1, .bool ok, .slice A2 cm.length c2, .slice A3 m c3, .slice A4 rl c4]]) (by rfl) (by rfl) (fun _ => by go_simp) (fun w' hC' hG' => HV.out w') ?_
    rintro _ ⟨_, _, rfl⟩
    refine ⟨?_, ?_, ?_⟩
    rotate_left
    · go_simp
      rfl
    iterate 5 ((with_reducible refine loose_one (v := ?_) (a' := ?_) ?_ ?_ (fun w' hC' hG' => ?_) ?_ ?_); rotate_left 2; (focus rfl); (focus rfl); (focus (obtain ⟨s0, s1, s2, s3, s4, s5, s6⟩ := HX0.out w' hC'; clear hC' hG'; go_simp; rfl)); (focus (go_simp; rfl)))
    refine loose_done (fun w1 hC1 hG1 => ?_)
    have HG1 := hidden hC1
    obtain ⟨s0, s1, s2, s3, s4, s5, s6⟩ := HX0.out w1 hC1
    clear hC1 hG1 s0 s1 s2 s3 s4
    go_wp2_with fail
    clear d1 d1b d2 d2b d3 d4 d4b w2 s5 s6
    go_loopw [5, 6, 7, 8] (fun i _ _ _ wr => RvfRel w1 n fs rk i wr) (fun i _ _ _ _ => fs.length - (intOf i).toNat)
    case atStart => exact ⟨0, Nat.zero_le _, rfl, fun j hj => absurd hj (by omega), Below.refl _ _⟩
    case round =>
      obtain ⟨k, hk, rfl, hall, hb⟩ := hrel
      have HALL := hidden hall
      have HB := hidden hb
      have hmb : m ≤ 17 := by have := HQ.out.1; omega
      clear hall hb
      by_cases hlt : k < m
      · have HLT := hidden hlt
        have hd : decide (k < m) = true := decide_eq_true hlt
        have hd2 : decide ((k : Int) < (m : Int)) = true := decide_eq_true (by omega)
        have hi0 : (0 : Int) ≤ (k : Int) := by omega
        have hi1 : (k : Int) < (m : Int) := by omega
        have hi2 : (0 : Int) < (m : Int) := by omega
        have hi3 : 0 < m := by omega
        have hi4 : k < m := hlt
        obtain ⟨f, hf⟩ : ∃ f, fs[k]? = some f := ⟨_, List.getElem?_eq_getElem (by rw [← HM.out]; exact hlt)⟩
        obtain ⟨f0, hf0⟩ : ∃ f, fs[0]? = some f := ⟨_, List.getElem?_eq_getElem (by rw [← HM.out]; omega)⟩
        have hgf : fs.getD k nulX = f := by rw [List.getD_eq_getElem?_getD, hf]; rfl
        have hkk : kindK fs = f0.k := by
          cases hfs : fs with
          | nil => rw [hfs] at hf0; cases hf0
          | cons a l => rw [hfs] at hf0; simp at hf0; rw [← hf0]; rfl
        obtain ⟨A', c', he, _, hcell⟩ := HR3.out wr (HG0.out.of_below (HG1.out.of_below HB.out))
        injection he with e1 e2 e3
        clear e2
        subst e1 e3
        obtain ⟨b3, o3, rfl, hcell2⟩ := hcell (by rw [← HM.out]; omega)
        obtain ⟨a1, a2, a3⟩ := hcell2 k f hf
        have z1 := (hcell2 0 f0 hf0).1
        rw [Nat.zero_mul, Nat.add_zero] at z1
        clear hcell
        obtain ⟨A', c', he, _, hcell⟩ := HR4.out wr (HG0.out.of_below (HG1.out.of_below HB.out))
        rw [icells_length, ← HRL.out] at he hcell
        injection he with e1 e2 e3
        subst e1 e3
        obtain ⟨b4, o4, rfl, hrkc⟩ := hcell (by rw [HRM.out]; omega)
        have hrk : ∀ j, j < rl → wr.cell? ⟨b4, o4 + j, none⟩ = some (.int .i64 (rk.getD j 0)) := fun j hj => by
          rw [hrkc j hj, icells_get (by rw [← HRL.out]; exact hj)]
          congr 3
          rw [List.getD_eq_getElem?_getD, List.getElem?_eq_getElem (by rw [← HRL.out]; exact hj)]
          rfl
        have HRK := hidden hrk
        obtain ⟨ls, hls⟩ : ∃ ls, rk.getD (2 * k) 0 = ls := ⟨_, rfl⟩
        obtain ⟨ms, hms⟩ : ∃ ms, rk.getD (2 * k + 1) 0 = ms := ⟨_, rfl⟩
        have y1 := hrk (2 * k) (by rw [HRM.out]; omega)
        have y2 := hrk (2 * k + 1) (by rw [HRM.out]; omega)
        rw [hls] at y1
        rw [hms] at y2
        have HY1 := hidden y1
        have HY2 := hidden y2
        have HLS := hidden hls
        have HMS := hidden hms
        clear hls hms y1 y2
        have HVD := hidden (fun (hh : ¬ (fenR fs k ∧ rnkR n rk m k)) => HVF.out (fun h => hh (by have := h.2.2.2 k (by rw [← HM.out]; exact hlt); rwa [← HM.out] at this)))
        have HBA := hidden (HB.out.of_below (growK wr (.cells #[.int .i64 f.k, .int .i64 f.n, .string f.t] 35)))
        have HRW := hidden (Row.new wr 35 #[.int .i64 f.k, .int .i64 f.n, .string f.t] [.int .i64 f.k, .int .i64 f.n, .string f.t] rfl)
        have HGA := hidden (growK wr (.cells #[.int .i64 f.k, .int .i64 f.n, .string f.t] 35))
        obtain ⟨s0, s1, s2, s3, s4, s5, s6⟩ := HX0.out wr (HG1.out.of_below HB.out)
        clear s0 s1 s2 s3 s4
        have hkb : k ≤ 17 := by omega
        have HFG := hidden hgf
        have HKK := hidden hkk
        clear hcell hcell2 hrkc e2 hf0 hgf hkk hlt hk hrk hf
        have HX := hidden (fun X (h : Grows (wr.alloc (.cells #[.int .i64 f.k, .int .i64 f.n, .string f.t] 35)) X) => show (X.cell? ⟨w.heap.size, 0, none⟩ = some (.int .i64 r) ∧ X.cell? ⟨w.heap.size, 1, none⟩ = some (.int .i64 n0) ∧ X.cell? ⟨w.heap.size, 2, none⟩ = some (.slice A1 hs.length c1) ∧ X.cell? ⟨w.heap.size, 3, none⟩ = some (.bool ok) ∧ X.cell? ⟨w.heap.size, 4, none⟩ = some (.slice A2 cm.length c2) ∧ X.cell? ⟨w.heap.size, 5, none⟩ = some (.slice (some ⟨b3, o3, none⟩) m c3) ∧ X.cell? ⟨w.heap.size, 6, none⟩ = some (.slice (some ⟨b4, o4, none⟩) rl c4)) ∧ (X.cell? ⟨wr.heap.size, 0, none⟩ = some (.int .i64 f.k) ∧ X.cell? ⟨wr.heap.size, 1, none⟩ = some (.int .i64 f.n) ∧ X.cell? ⟨wr.heap.size, 2, none⟩ = some (.string f.t)) ∧ X.cell? ⟨b3, o3, none⟩ = some (.int .i64 f0.k) ∧ X.cell? ⟨b4, o4 + 2 * k, none⟩ = some (.int .i64 ls) ∧ X.cell? ⟨b4, o4 + (2 * k + 1), none⟩ = some (.int .i64 ms) from ⟨HX0.out X (HG1.out.of_below (HBA.out.of_below h)), ⟨(HRW.out.grow h).cell 0, (HRW.out.grow h).cell 1, (HRW.out.grow h).cell 2⟩, ((HGA.out.of_below h).cell (World.block_lt_of_cell? _ _ z1)).trans z1, ((HGA.out.of_below h).cell (World.block_lt_of_cell? _ _ HY1.out)).trans HY1.out, ((HGA.out.of_below h).cell (World.block_lt_of_cell? _ _ HY2.out)).trans HY2.out⟩)
        by_cases hva : validV f.k f.n f.t = true
        · have HVA := hidden (fun X => const_loose16 (rvvalid_any f.k f.n f.t X))
          rw [hva] at HVA
          have HVV := hidden hva
          clear hva
          by_cases hz : f.k = 0
          · have b1 : (f.k == 0) = true := by simpa using hz
            have HO := hidden (HVD.out (fun h => h.1.2.1 (by rw [HFG.out]; exact hz)))
            clear hz
            go_wp2_with fail
            refine wp_region_loose (tabRs [(1, ConstV (.bool true))]) (by kernel_rfl) (by kernel_rfl) ((tabRs_cons ConstV.lasts tabRs_nil)) ?_
            iterate 1 ((with_reducible refine loose_one (v := ?_) (a' := ?_) ?_ ?_ (fun w' hC' hG' => ?_) ?_ ?_); rotate_left 2; (focus rfl); (focus rfl); (focus (obtain ⟨⟨s0, s1, s2, s3, s4, s5, s6⟩, ⟨v0, v1, v2⟩, k0, q1, q2⟩ := HX.out w' hC'; clear hC' hG'; go_simp; rfl)); (focus (go_simp; rfl)))
            refine loose_call (R := ConstV (.bool true)) (f := 20) (args := #[.agg #[.int .i64 f.k, .int .i64 f.n, .string f.t]]) (by rfl) (by rfl) (fun _ => by go_simp) (fun w' hC' hG' => HVA.out w') ?_
            rintro _ ⟨_, _, rfl⟩
            refine ⟨?_, ?_, ?_⟩
            rotate_left
            · go_simp
              rfl
            iterate 2 ((with_reducible refine loose_one (v := ?_) (a' := ?_) ?_ ?_ (fun w' hC' hG' => ?_) ?_ ?_); rotate_left 2; (focus rfl); (focus rfl); (focus (obtain ⟨⟨s0, s1, s2, s3, s4, s5, s6⟩, ⟨v0, v1, v2⟩, k0, q1, q2⟩ := HX.out w' hC'; clear hC' hG'; go_simp; rfl)); (focus (go_simp; rfl)))
            iterate 3 ((with_reducible refine loose_one (v := ?_) (a' := ?_) ?_ ?_ (fun w' hC' hG' => ?_) ?_ ?_); rotate_left 2; (focus rfl); (focus rfl); (focus (obtain ⟨⟨s0, s1, s2, s3, s4, s5, s6⟩, ⟨v0, v1, v2⟩, k0, q1, q2⟩ := HX.out w' hC'; clear hC' hG'; go_simp; rfl)); (focus (go_simp; rfl)))
            iterate 2 ((with_reducible refine loose_one (v := ?_) (a' := ?_) ?_ ?_ (fun w' hC' hG' => ?_) ?_ ?_); rotate_left 2; (focus rfl); (focus rfl); (focus (obtain ⟨⟨s0, s1, s2, s3, s4, s5, s6⟩, ⟨v0, v1, v2⟩, k0, q1, q2⟩ := HX.out w' hC'; clear hC' hG'; go_simp; rfl)); (focus (go_simp; rfl)))
            iterate 8 ((with_reducible refine loose_skip (a' := ?_) ?_ ?_ ?_); rotate_left 1; (focus rfl); (focus (go_simp; rfl)))
            iterate 2 ((with_reducible refine loose_one (v := ?_) (a' := ?_) ?_ ?_ (fun w' hC' hG' => ?_) ?_ ?_); rotate_left 2; (focus rfl); (focus rfl); (focus (obtain ⟨⟨s0, s1, s2, s3, s4, s5, s6⟩, ⟨v0, v1, v2⟩, k0, q1, q2⟩ := HX.out w' hC'; clear hC' hG'; go_simp; rfl)); (focus (go_simp; rfl)))
            iterate 13 ((with_reducible refine loose_skip (a' := ?_) ?_ ?_ ?_); rotate_left 1; (focus rfl); (focus (go_simp; rfl)))
            iterate 1 ((with_reducible refine loose_one (v := ?_) (a' := ?_) ?_ ?_ (fun w' hC' hG' => ?_) ?_ ?_); rotate_left 2; (focus rfl); (focus rfl); (focus (obtain ⟨⟨s0, s1, s2, s3, s4, s5, s6⟩, ⟨v0, v1, v2⟩, k0, q1, q2⟩ := HX.out w' hC'; clear hC' hG'; go_simp; rfl)); (focus (go_simp; rfl)))
            refine loose_done (fun w5 hC5 hG5 => ?_)
            have HB5 := hidden (HBA.out.of_below hC5)
            have HC5 := hidden hC5
            clear hC5 hG5
            go_wp2_with fail
            go_ret
            exact ⟨by rw [HO.out]; first | done | rfl, HG0.out.of_below (HG1.out.of_below HB5.out)⟩
          have b1 : (f.k == 0) = false := by simpa using hz
          have HZ := hidden hz
          clear hz
          by_cases hkq : f.k = f0.k
          · have b2 : (f.k == f0.k) = true := by simpa using hkq
            have b2b : (f.k != f0.k) = false := by simp [hkq]
            have HKQ := hidden hkq
            clear hkq
            by_cases hk0 : k = 0
            · have HK0 := hidden hk0
              have dk : decide ((0 : Int) < (k : Int)) = false := decide_eq_false (by omega)
              have dk2 : decide (0 < k) = false := decide_eq_false (by omega)
              have dk3 : ((k : Int) == 0) = true := beq_iff_eq.2 (by omega)
              have dk4 : (k == 0) = true := beq_iff_eq.2 hk0
              clear hk0
              go_wp2_with fail
              refine wp_region_loose (tabRs [(1, ConstV (.bool true))]) (by kernel_rfl) (by kernel_rfl) ((tabRs_cons ConstV.lasts tabRs_nil)) ?_
              iterate 1 ((with_reducible refine loose_one (v := ?_) (a' := ?_) ?_ ?_ (fun w' hC' hG' => ?_) ?_ ?_); rotate_left 2; (focus rfl); (focus rfl); (focus (obtain ⟨⟨s0, s1, s2, s3, s4, s5, s6⟩, ⟨v0, v1, v2⟩, k0, q1, q2⟩ := HX.out w' hC'; clear hC' hG'; go_simp; rfl)); (focus (go_simp; rfl)))
              refine loose_call (R := ConstV (.bool true)) (f := 20) (args := #[.agg #[.int .i64 f.k, .int .i64 f.n, .string f.t]]) (by rfl) (by rfl) (fun _ => by go_simp) (fun w' hC' hG' => HVA.out w') ?_
              rintro _ ⟨_, _, rfl⟩
              refine ⟨?_, ?_, ?_⟩
              rotate_left
              · go_simp
                rfl
              iterate 2 ((with_reducible refine loose_one (v := ?_) (a' := ?_) ?_ ?_ (fun w' hC' hG' => ?_) ?_ ?_); rotate_left 2; (focus rfl); (focus rfl); (focus (obtain ⟨⟨s0, s1, s2, s3, s4, s5, s6⟩, ⟨v0, v1, v2⟩, k0, q1, q2⟩ := HX.out w' hC'; clear hC' hG'; go_simp; rfl)); (focus (go_simp; rfl)))
              iterate 3 ((with_reducible refine loose_one (v := ?_) (a' := ?_) ?_ ?_ (fun w' hC' hG' => ?_) ?_ ?_); rotate_left 2; (focus rfl); (focus rfl); (focus (obtain ⟨⟨s0, s1, s2, s3, s4, s5, s6⟩, ⟨v0, v1, v2⟩, k0, q1, q2⟩ := HX.out w' hC'; clear hC' hG'; go_simp; rfl)); (focus (go_simp; rfl)))
              iterate 2 ((with_reducible refine loose_one (v := ?_) (a' := ?_) ?_ ?_ (fun w' hC' hG' => ?_) ?_ ?_); rotate_left 2; (focus rfl); (focus rfl); (focus (obtain ⟨⟨s0, s1, s2, s3, s4, s5, s6⟩, ⟨v0, v1, v2⟩, k0, q1, q2⟩ := HX.out w' hC'; clear hC' hG'; go_simp; rfl)); (focus (go_simp; rfl)))
              iterate 8 ((with_reducible refine loose_one (v := ?_) (a' := ?_) ?_ ?_ (fun w' hC' hG' => ?_) ?_ ?_); rotate_left 2; (focus rfl); (focus rfl); (focus (obtain ⟨⟨s0, s1, s2, s3, s4, s5, s6⟩, ⟨v0, v1, v2⟩, k0, q1, q2⟩ := HX.out w' hC'; clear hC' hG'; go_simp; rfl)); (focus (go_simp; rfl)))
              iterate 2 ((with_reducible refine loose_one (v := ?_) (a' := ?_) ?_ ?_ (fun w' hC' hG' => ?_) ?_ ?_); rotate_left 2; (focus rfl); (focus rfl); (focus (obtain ⟨⟨s0, s1, s2, s3, s4, s5, s6⟩, ⟨v0, v1, v2⟩, k0, q1, q2⟩ := HX.out w' hC'; clear hC' hG'; go_simp; rfl)); (focus (go_simp; rfl)))
              iterate 3 ((with_reducible refine loose_one (v := ?_) (a' := ?_) ?_ ?_ (fun w' hC' hG' => ?_) ?_ ?_); rotate_left 2; (focus rfl); (focus rfl); (focus (obtain ⟨⟨s0, s1, s2, s3, s4, s5, s6⟩, ⟨v0, v1, v2⟩, k0, q1, q2⟩ := HX.out w' hC'; clear hC' hG'; go_simp; rfl)); (focus (go_simp; rfl)))
              iterate 9 ((with_reducible refine loose_skip (a' := ?_) ?_ ?_ ?_); rotate_left 1; (focus rfl); (focus (go_simp; rfl)))
              iterate 2 ((with_reducible refine loose_one (v := ?_) (a' := ?_) ?_ ?_ (fun w' hC' hG' => ?_) ?_ ?_); rotate_left 2; (focus rfl); (focus rfl); (focus (obtain ⟨⟨s0, s1, s2, s3, s4, s5, s6⟩, ⟨v0, v1, v2⟩, k0, q1, q2⟩ := HX.out w' hC'; clear hC' hG'; go_simp; rfl)); (focus (go_simp; rfl)))
              refine loose_done (fun w5 hC5 hG5 => ?_)
              have HB5 := hidden (HBA.out.of_below hC5)
              have HC5 := hidden hC5
              clear hC5 hG5
              have hwa : IntKind.i64.wrap (2 * (k : Int)) = 2 * (k : Int) := by rw [IntKind.wrap_i64]; omega
              have hwb : IntKind.i64.wrap (2 * (k : Int) + 1) = 2 * (k : Int) + 1 := by rw [IntKind.wrap_i64]; omega
              have hta : (2 * (k : Int)).toNat = 2 * k := by omega
              have htb : (2 * (k : Int) + 1).toNat = 2 * k + 1 := by omega
              have hra : (0 : Int) ≤ 2 * (k : Int) := by omega
              have hrb : 2 * (k : Int) < (rl : Int) := by have := HRM.out; omega
              have hrc : (0 : Int) ≤ 2 * (k : Int) + 1 := by omega
              have hrd : 2 * (k : Int) + 1 < (rl : Int) := by have := HRM.out; omega
              have hre : 2 * k < rl := by have := HRM.out; omega
              have hrf : 2 * k + 1 < rl := by have := HRM.out; omega
              go_wp2_with fail
              refine wp_region_loose (tabRs []) (by kernel_rfl) (by kernel_rfl) tabRs_nil ?_
              iterate 15 ((with_reducible refine loose_one (v := ?_) (a' := ?_) ?_ ?_ (fun w' hC' hG' => ?_) ?_ ?_); rotate_left 2; (focus rfl); (focus rfl); (focus (obtain ⟨⟨s0, s1, s2, s3, s4, s5, s6⟩, ⟨v0, v1, v2⟩, k0, q1, q2⟩ := HX.out w' (HC5.out.of_below hC'); clear hC' hG'; go_simp; rfl)); (focus (go_simp; rfl)))
              refine loose_done (fun w6 hC6 hG6 => ?_)
              have HB6 := hidden (HB5.out.of_below hC6)
              obtain ⟨⟨s0, s1, s2, s3, s4, s5, s6⟩, ⟨v0, v1, v2⟩, k0, q1, q2⟩ := HX.out w6 (HC5.out.of_below hC6)
              clear hC6 hG6 hwa hwb hta htb hra hrb hrc hrd hre hrf s0 s1 s2 s3 s4 s5 v0 v1 v2 k0
              by_cases t1 : ls < 0
              · have dt1 : decide (ls < 0) = true := decide_eq_true t1
                have HO := hidden (HVD.out (fun h => by have h := h.2; unfold rnkR at h; simp only [HLS.out, HMS.out] at h; omega))
                clear HALL
                go_wp2_with fail
                go_ret
                exact ⟨by rw [HO.out]; first | done | rfl, HG0.out.of_below (HG1.out.of_below HB6.out)⟩
              have dt1 : decide (ls < 0) = false := decide_eq_false t1
              by_cases t2 : n < ls
              · have dt2 : decide (n < ls) = true := decide_eq_true t2
                have HO := hidden (HVD.out (fun h => by have h := h.2; unfold rnkR at h; simp only [HLS.out, HMS.out] at h; omega))
                clear HALL
                go_wp2_with fail
                go_ret
                exact ⟨by rw [HO.out]; first | done | rfl, HG0.out.of_below (HG1.out.of_below HB6.out)⟩
              have dt2 : decide (n < ls) = false := decide_eq_false t2
              by_cases t3 : ms < 0
              · have dt3 : decide (ms < 0) = true := decide_eq_true t3
                have HO := hidden (HVD.out (fun h => by have h := h.2; unfold rnkR at h; simp only [HLS.out, HMS.out] at h; omega))
                clear HALL
                go_wp2_with fail
                go_ret
                exact ⟨by rw [HO.out]; first | done | rfl, HG0.out.of_below (HG1.out.of_below HB6.out)⟩
              have dt3 : decide (ms < 0) = false := decide_eq_false t3
              by_cases t4 : n < ms
              · have dt4 : decide (n < ms) = true := decide_eq_true t4
                have HO := hidden (HVD.out (fun h => by have h := h.2; unfold rnkR at h; simp only [HLS.out, HMS.out] at h; omega))
                clear HALL
                go_wp2_with fail
                go_ret
                exact ⟨by rw [HO.out]; first | done | rfl, HG0.out.of_below (HG1.out.of_below HB6.out)⟩
              have dt4 : decide (n < ms) = false := decide_eq_false t4
              by_cases t5 : ls ≠ 0
              · have d5 : (ls != 0) = true := by simpa using t5
                have d5b : (ls == 0) = false := beq_eq_false_iff_ne.2 t5
                have HO := hidden (HVD.out (fun h => by have h := h.2; unfold rnkR at h; simp only [HLS.out, HMS.out] at h; exact t5 (h.2.2.2.2.1 HK0.out)))
                clear HALL
                go_wp2_with fail
                go_ret
                exact ⟨by rw [HO.out]; first | done | rfl, HG0.out.of_below (HG1.out.of_below HB6.out)⟩
              have t5 : ls = 0 := Classical.byContradiction t5
              have d5 : (ls != 0) = false := by simp [t5]
              have d5b : (ls == 0) = true := beq_iff_eq.2 t5
              by_cases t6 : k + 1 = m ∧ ms ≠ n
              · have dl : ((k : Int) == (m : Int) - 1) = true := beq_iff_eq.2 (by omega)
                have dm : (ms != n) = true := by simpa using t6.2
                have dm2 : (ms == n) = false := beq_eq_false_iff_ne.2 t6.2
                have HO := hidden (HVD.out (fun h => by have h := h.2; unfold rnkR at h; simp only [HLS.out, HMS.out] at h; exact t6.2 (h.2.2.2.2.2.1 t6.1)))
                clear HALL
                go_wp2_with fail
                go_ret
                exact ⟨by rw [HO.out]; first | done | rfl, HG0.out.of_below (HG1.out.of_below HB6.out)⟩
              have HT6 := hidden t6
              have HNEW := hidden (show ∀ j, j < k + 1 → fenR fs j ∧ rnkR n rk fs.length j from fun j hj => by
                rcases Nat.lt_or_ge j k with h | h
                · exact HALL.out j h
                · have e : j = k := by omega
                  subst e
                  refine ⟨⟨by rw [HFG.out]; exact HVV.out, by rw [HFG.out]; exact HZ.out, by rw [HFG.out, HKK.out]; exact HKQ.out, fun h => absurd HK0.out (by omega)⟩, ?_⟩
                  rw [← HM.out]
                  unfold rnkR
                  simp only [HLS.out, HMS.out]
                  exact ⟨by omega, by omega, by omega, by omega, fun _ => t5, fun h => Classical.byContradiction fun e => HT6.out ⟨h, e⟩, fun h => absurd HK0.out (by omega)⟩)
              clear t1 t2 t3 t4 t5 t6
              have hkm : k + 1 = m ∨ ¬ k + 1 = m := Classical.em _
              rcases hkm with hkm | hkm
              · have dl : ((k : Int) == (m : Int) - 1) = true := beq_iff_eq.2 (by omega)
                have hmn : ms = n := Classical.byContradiction fun e => HT6.out ⟨hkm, e⟩
                have dm : (ms != n) = false := by simp [hmn]
                have dm2 : (ms == n) = true := beq_iff_eq.2 hmn
                clear hmn hkm
                go_wp2_with fail
                go_roundw
                case rel => exact ⟨k + 1, by have := HLT.out; have := HM.out; omega, by go_num, HNEW.out, HB6.out⟩
                case measure => have := HLT.out; have := HM.out; simp [intOf]; omega
              · have dl : ((k : Int) == (m : Int) - 1) = false := beq_eq_false_iff_ne.2 (by omega)
                clear hkm
                go_wp2_with fail
                go_roundw
                case rel => exact ⟨k + 1, by have := HLT.out; have := HM.out; omega, by go_num, HNEW.out, HB6.out⟩
                case measure => have := HLT.out; have := HM.out; simp [intOf]; omega
            · obtain ⟨p, hp⟩ : ∃ p, p = k - 1 := ⟨_, rfl⟩
              have HPK := hidden (show p + 1 = k by omega)
              have HKP := hidden (show 0 < k by omega)
              have dk : decide ((0 : Int) < (k : Int)) = true := decide_eq_true (by omega)
              have dk2 : decide (0 < k) = true := decide_eq_true (by omega)
              have dk3 : ((k : Int) == 0) = false := beq_eq_false_iff_ne.2 (by omega)
              have dk4 : (k == 0) = false := beq_eq_false_iff_ne.2 hk0
              obtain ⟨g, hg⟩ : ∃ g, fs[p]? = some g := ⟨_, List.getElem?_eq_getElem (by rw [← HM.out]; have := HLT.out; omega)⟩
              have HGP := hidden (show fs.getD (k - 1) nulX = g by rw [← hp, List.getD_eq_getElem?_getD, hg]; rfl)
              obtain ⟨A', c', he, _, hcell⟩ := HR3.out wr (HG0.out.of_below (HG1.out.of_below HB.out))
              injection he with e1 e2 e3
              subst e1 e3
              obtain ⟨b3', o3', he', hcell2⟩ := hcell (by rw [← HM.out]; have := HLT.out; omega)
              injection he' with he'
              injection he' with he1 he2 _
              subst he1 he2
              obtain ⟨g1, g2, g3⟩ := hcell2 p g hg
              obtain ⟨pl, hpl⟩ : ∃ pl, rk.getD (2 * p) 0 = pl := ⟨_, rfl⟩
              obtain ⟨pm, hpm⟩ : ∃ pm, rk.getD (2 * p + 1) 0 = pm := ⟨_, rfl⟩
              have z2 := HRK.out (2 * p) (by rw [HRM.out]; have := HLT.out; omega)
              have z3 := HRK.out (2 * p + 1) (by rw [HRM.out]; have := HLT.out; omega)
              rw [hpl] at z2
              rw [hpm] at z3
              have HPL := hidden (show rk.getD (2 * k - 2) 0 = pl by rw [show 2 * k - 2 = 2 * p by have := HPK.out; omega]; exact hpl)
              have HPM := hidden (show rk.getD (2 * k - 1) 0 = pm by rw [show 2 * k - 1 = 2 * p + 1 by have := HPK.out; omega]; exact hpm)
              clear HX hpl hpm
              have HX := hidden (fun X (h : Grows (wr.alloc (.cells #[.int .i64 f.k, .int .i64 f.n, .string f.t] 35)) X) => show (X.cell? ⟨w.heap.size, 0, none⟩ = some (.int .i64 r) ∧ X.cell? ⟨w.heap.size, 1, none⟩ = some (.int .i64 n0) ∧ X.cell? ⟨w.heap.size, 2, none⟩ = some (.slice A1 hs.length c1) ∧ X.cell? ⟨w.heap.size, 3, none⟩ = some (.bool ok) ∧ X.cell? ⟨w.heap.size, 4, none⟩ = some (.slice A2 cm.length c2) ∧ X.cell? ⟨w.heap.size, 5, none⟩ = some (.slice (some ⟨b3, o3, none⟩) m c3) ∧ X.cell? ⟨w.heap.size, 6, none⟩ = some (.slice (some ⟨b4, o4, none⟩) rl c4)) ∧ (X.cell? ⟨wr.heap.size, 0, none⟩ = some (.int .i64 f.k) ∧ X.cell? ⟨wr.heap.size, 1, none⟩ = some (.int .i64 f.n) ∧ X.cell? ⟨wr.heap.size, 2, none⟩ = some (.string f.t)) ∧ X.cell? ⟨b3, o3, none⟩ = some (.int .i64 f0.k) ∧ X.cell? ⟨b4, o4 + 2 * k, none⟩ = some (.int .i64 ls) ∧ X.cell? ⟨b4, o4 + (2 * k + 1), none⟩ = some (.int .i64 ms) ∧ (X.cell? ⟨b3, o3 + p * 3, none⟩ = some (.int .i64 g.k) ∧ X.cell? ⟨b3, o3 + p * 3 + 1, none⟩ = some (.int .i64 g.n) ∧ X.cell? ⟨b3, o3 + p * 3 + 2, none⟩ = some (.string g.t)) ∧ X.cell? ⟨b4, o4 + 2 * p, none⟩ = some (.int .i64 pl) ∧ X.cell? ⟨b4, o4 + (2 * p + 1), none⟩ = some (.int .i64 pm) from ⟨HX0.out X (HG1.out.of_below (HBA.out.of_below h)), ⟨(HRW.out.grow h).cell 0, (HRW.out.grow h).cell 1, (HRW.out.grow h).cell 2⟩, ((HGA.out.of_below h).cell (World.block_lt_of_cell? _ _ z1)).trans z1, ((HGA.out.of_below h).cell (World.block_lt_of_cell? _ _ HY1.out)).trans HY1.out, ((HGA.out.of_below h).cell (World.block_lt_of_cell? _ _ HY2.out)).trans HY2.out, ⟨((HGA.out.of_below h).cell (World.block_lt_of_cell? _ _ g1)).trans g1, ((HGA.out.of_below h).cell (World.block_lt_of_cell? _ _ g2)).trans g2, ((HGA.out.of_below h).cell (World.block_lt_of_cell? _ _ g3)).trans g3⟩, ((HGA.out.of_below h).cell (World.block_lt_of_cell? _ _ z2)).trans z2, ((HGA.out.of_below h).cell (World.block_lt_of_cell? _ _ z3)).trans z3⟩)
              obtain ⟨cc, hcc⟩ : ∃ cc, cmpX g f = cc := ⟨_, rfl⟩
              have HCE := hidden hcc
              have HCC := hidden (fun W => const_loose16 (show Calls Tryz.prog 33 #[.agg #[.int .i64 g.k, .int .i64 g.n, .string g.t], .agg #[.int .i64 f.k, .int .i64 f.n, .string f.t]] W fun e w' => e = .returned (.int .i64 cc) ∧ Grows W w' by rw [← hcc]; exact rcompareX_any g f W))
              have hwp : IntKind.i64.wrap ((k : Int) - 1) = (p : Int) := by rw [IntKind.wrap_i64]; omega
              have hp0 : (0 : Int) ≤ (p : Int) := by omega
              have hp1 : (p : Int) < (m : Int) := by omega
              have hp2 : p < m := by omega
              clear hcell hcell2 e2 hp hg hcc hk0 g1 g2 g3 z2 z3
              by_cases hcl : cc < 0
              · have dc : decide (0 ≤ cc) = false := decide_eq_false (by omega)
                have HCL := hidden (show cmpX g f < 0 by rw [HCE.out]; exact hcl)
                clear hcl
                go_wp2_with fail
                refine wp_region_loose (tabRs [(1, ConstV (.bool true)), (29, ConstV (.int .i64 cc))]) (by kernel_rfl) (by kernel_rfl) ((tabRs_cons ConstV.lasts (tabRs_cons ConstV.lasts tabRs_nil))) ?_
                iterate 1 ((with_reducible refine loose_one (v := ?_) (a' := ?_) ?_ ?_ (fun w' hC' hG' => ?_) ?_ ?_); rotate_left 2; (focus rfl); (focus rfl); (focus (obtain ⟨⟨s0, s1, s2, s3, s4, s5, s6⟩, ⟨v0, v1, v2⟩, k0, q1, q2, ⟨p0, p1, p2⟩, r1, r2⟩ := HX.out w' hC'; clear hC' hG'; go_simp; rfl)); (focus (go_simp; rfl)))
                refine loose_call (R := ConstV (.bool true)) (f := 20) (args := #[.agg #[.int .i64 f.k, .int .i64 f.n, .string f.t]]) (by rfl) (by rfl) (fun _ => by go_simp) (fun w' hC' hG' => HVA.out w') ?_
                rintro _ ⟨_, _, rfl⟩
                refine ⟨?_, ?_, ?_⟩
                rotate_left
                · go_simp
                  rfl
                iterate 2 ((with_reducible refine loose_one (v := ?_) (a' := ?_) ?_ ?_ (fun w' hC' hG' => ?_) ?_ ?_); rotate_left 2; (focus rfl); (focus rfl); (focus (obtain ⟨⟨s0, s1, s2, s3, s4, s5, s6⟩, ⟨v0, v1, v2⟩, k0, q1, q2, ⟨p0, p1, p2⟩, r1, r2⟩ := HX.out w' hC'; clear hC' hG'; go_simp; rfl)); (focus (go_simp; rfl)))
                iterate 3 ((with_reducible refine loose_one (v := ?_) (a' := ?_) ?_ ?_ (fun w' hC' hG' => ?_) ?_ ?_); rotate_left 2; (focus rfl); (focus rfl); (focus (obtain ⟨⟨s0, s1, s2, s3, s4, s5, s6⟩, ⟨v0, v1, v2⟩, k0, q1, q2, ⟨p0, p1, p2⟩, r1, r2⟩ := HX.out w' hC'; clear hC' hG'; go_simp; rfl)); (focus (go_simp; rfl)))
                iterate 2 ((with_reducible refine loose_one (v := ?_) (a' := ?_) ?_ ?_ (fun w' hC' hG' => ?_) ?_ ?_); rotate_left 2; (focus rfl); (focus rfl); (focus (obtain ⟨⟨s0, s1, s2, s3, s4, s5, s6⟩, ⟨v0, v1, v2⟩, k0, q1, q2, ⟨p0, p1, p2⟩, r1, r2⟩ := HX.out w' hC'; clear hC' hG'; go_simp; rfl)); (focus (go_simp; rfl)))
                iterate 8 ((with_reducible refine loose_one (v := ?_) (a' := ?_) ?_ ?_ (fun w' hC' hG' => ?_) ?_ ?_); rotate_left 2; (focus rfl); (focus rfl); (focus (obtain ⟨⟨s0, s1, s2, s3, s4, s5, s6⟩, ⟨v0, v1, v2⟩, k0, q1, q2, ⟨p0, p1, p2⟩, r1, r2⟩ := HX.out w' hC'; clear hC' hG'; go_simp; rfl)); (focus (go_simp; rfl)))
                iterate 2 ((with_reducible refine loose_one (v := ?_) (a' := ?_) ?_ ?_ (fun w' hC' hG' => ?_) ?_ ?_); rotate_left 2; (focus rfl); (focus rfl); (focus (obtain ⟨⟨s0, s1, s2, s3, s4, s5, s6⟩, ⟨v0, v1, v2⟩, k0, q1, q2, ⟨p0, p1, p2⟩, r1, r2⟩ := HX.out w' hC'; clear hC' hG'; go_simp; rfl)); (focus (go_simp; rfl)))
                iterate 3 ((with_reducible refine loose_one (v := ?_) (a' := ?_) ?_ ?_ (fun w' hC' hG' => ?_) ?_ ?_); rotate_left 2; (focus rfl); (focus rfl); (focus (obtain ⟨⟨s0, s1, s2, s3, s4, s5, s6⟩, ⟨v0, v1, v2⟩, k0, q1, q2, ⟨p0, p1, p2⟩, r1, r2⟩ := HX.out w' hC'; clear hC' hG'; go_simp; rfl)); (focus (go_simp; rfl)))
                iterate 7 ((with_reducible refine loose_one (v := ?_) (a' := ?_) ?_ ?_ (fun w' hC' hG' => ?_) ?_ ?_); rotate_left 2; (focus rfl); (focus rfl); (focus (obtain ⟨⟨s0, s1, s2, s3, s4, s5, s6⟩, ⟨v0, v1, v2⟩, k0, q1, q2, ⟨p0, p1, p2⟩, r1, r2⟩ := HX.out w' hC'; clear hC' hG'; go_simp; rfl)); (focus (go_simp; rfl)))
                refine loose_call (R := ConstV (.int .i64 cc)) (f := 33) (args := #[.agg #[.int .i64 g.k, .int .i64 g.n, .string g.t], .agg #[.int .i64 f.k, .int .i64 f.n, .string f.t]]) (by rfl) (by rfl) (fun _ => by go_simp) (fun w' hC' hG' => HCC.out w') ?_
                rintro _ ⟨_, _, rfl⟩
                refine ⟨?_, ?_, ?_⟩
                rotate_left
                · go_simp
                  rfl
                iterate 3 ((with_reducible refine loose_one (v := ?_) (a' := ?_) ?_ ?_ (fun w' hC' hG' => ?_) ?_ ?_); rotate_left 2; (focus rfl); (focus rfl); (focus (obtain ⟨⟨s0, s1, s2, s3, s4, s5, s6⟩, ⟨v0, v1, v2⟩, k0, q1, q2, ⟨p0, p1, p2⟩, r1, r2⟩ := HX.out w' hC'; clear hC' hG'; go_simp; rfl)); (focus (go_simp; rfl)))
                refine loose_done (fun w5 hC5 hG5 => ?_)
                have HB5 := hidden (HBA.out.of_below hC5)
                have HC5 := hidden hC5
                clear hC5 hG5
                clear hwp hp0 hp1 hp2 dc
                have hwa : IntKind.i64.wrap (2 * (k : Int)) = 2 * (k : Int) := by rw [IntKind.wrap_i64]; omega
                have hwb : IntKind.i64.wrap (2 * (k : Int) + 1) = 2 * (k : Int) + 1 := by rw [IntKind.wrap_i64]; omega
                have hta : (2 * (k : Int)).toNat = 2 * k := by omega
                have htb : (2 * (k : Int) + 1).toNat = 2 * k + 1 := by omega
                have hra : (0 : Int) ≤ 2 * (k : Int) := by omega
                have hrb : 2 * (k : Int) < (rl : Int) := by have := HRM.out; omega
                have hrc : (0 : Int) ≤ 2 * (k : Int) + 1 := by omega
                have hrd : 2 * (k : Int) + 1 < (rl : Int) := by have := HRM.out; omega
                have hre : 2 * k < rl := by have := HRM.out; omega
                have hrf : 2 * k + 1 < rl := by have := HRM.out; omega
                go_wp2_with fail
                refine wp_region_loose (tabRs []) (by kernel_rfl) (by kernel_rfl) tabRs_nil ?_
                iterate 15 ((with_reducible refine loose_one (v := ?_) (a' := ?_) ?_ ?_ (fun w' hC' hG' => ?_) ?_ ?_); rotate_left 2; (focus rfl); (focus rfl); (focus (obtain ⟨⟨s0, s1, s2, s3, s4, s5, s6⟩, ⟨v0, v1, v2⟩, k0, q1, q2, ⟨p0, p1, p2⟩, r1, r2⟩ := HX.out w' (HC5.out.of_below hC'); clear hC' hG'; go_simp; rfl)); (focus (go_simp; rfl)))
                refine loose_done (fun w6 hC6 hG6 => ?_)
                have HB6 := hidden (HB5.out.of_below hC6)
                obtain ⟨⟨s0, s1, s2, s3, s4, s5, s6⟩, ⟨v0, v1, v2⟩, k0, q1, q2, ⟨p0, p1, p2⟩, r1, r2⟩ := HX.out w6 (HC5.out.of_below hC6)
                clear hC6 hG6 hwa hwb hta htb hra hrb hrc hrd hre hrf s0 s1 s2 s3 s4 s5 v0 v1 v2 k0
                clear p0 p1 p2
                have hya : wrap64 (2 * (k : Int) - 2) = ((2 * p : Nat) : Int) := by have := HPK.out; unfold wrap64; omega
                have hyb : wrap64 (2 * (k : Int) - 1) = ((2 * p + 1 : Nat) : Int) := by have := HPK.out; unfold wrap64; omega
                have hyc : wrap64 (2 * (k : Int)) = 2 * (k : Int) := by unfold wrap64; omega
                have HYW := hidden (And.intro hya (And.intro hyb hyc))
                clear hya hyb hyc
                have hyd : (p : Int) * 2 < (rl : Int) := by have := HRM.out; have := HPK.out; omega
                have hyt1 : (2 * (k : Int) - 2).toNat = 2 * p := by have := HPK.out; omega
                have hyt2 : (2 * (k : Int) - 1).toNat = 2 * p + 1 := by have := HPK.out; omega
                have hy1 : (0 : Int) ≤ 2 * (k : Int) - 2 := by have := HPK.out; omega
                have hy2 : 2 * (k : Int) - 2 < (rl : Int) := by have := HRM.out; have := HPK.out; omega
                have hy3 : (0 : Int) ≤ 2 * (k : Int) - 1 := by have := HPK.out; omega
                have hy4 : 2 * (k : Int) - 1 < (rl : Int) := by have := HRM.out; have := HPK.out; omega
                have hy5 : 2 * p < rl := by have := HRM.out; have := HPK.out; omega
                have hy6 : 2 * p + 1 < rl := by have := HRM.out; have := HPK.out; omega
                by_cases t1 : ls < 0
                · have dt1 : decide (ls < 0) = true := decide_eq_true t1
                  have HO := hidden (HVD.out (fun h => by have h := h.2; unfold rnkR at h; simp only [HLS.out, HMS.out, HPL.out, HPM.out] at h; omega))
                  clear HALL
                  go_wp2_with fail
                  go_ret
                  exact ⟨by rw [HO.out]; first | done | rfl, HG0.out.of_below (HG1.out.of_below HB6.out)⟩
                have dt1 : decide (ls < 0) = false := decide_eq_false t1
                by_cases t2 : n < ls
                · have dt2 : decide (n < ls) = true := decide_eq_true t2
                  have HO := hidden (HVD.out (fun h => by have h := h.2; unfold rnkR at h; simp only [HLS.out, HMS.out, HPL.out, HPM.out] at h; omega))
                  clear HALL
                  go_wp2_with fail
                  go_ret
                  exact ⟨by rw [HO.out]; first | done | rfl, HG0.out.of_below (HG1.out.of_below HB6.out)⟩
                have dt2 : decide (n < ls) = false := decide_eq_false t2
                by_cases t3 : ms < 0
                · have dt3 : decide (ms < 0) = true := decide_eq_true t3
                  have HO := hidden (HVD.out (fun h => by have h := h.2; unfold rnkR at h; simp only [HLS.out, HMS.out, HPL.out, HPM.out] at h; omega))
                  clear HALL
                  go_wp2_with fail
                  go_ret
                  exact ⟨by rw [HO.out]; first | done | rfl, HG0.out.of_below (HG1.out.of_below HB6.out)⟩
                have dt3 : decide (ms < 0) = false := decide_eq_false t3
                by_cases t4 : n < ms
                · have dt4 : decide (n < ms) = true := decide_eq_true t4
                  have HO := hidden (HVD.out (fun h => by have h := h.2; unfold rnkR at h; simp only [HLS.out, HMS.out, HPL.out, HPM.out] at h; omega))
                  clear HALL
                  go_wp2_with fail
                  go_ret
                  exact ⟨by rw [HO.out]; first | done | rfl, HG0.out.of_below (HG1.out.of_below HB6.out)⟩
                have dt4 : decide (n < ms) = false := decide_eq_false t4
                by_cases t6 : k + 1 = m ∧ ms ≠ n
                · have dl : ((k : Int) == (m : Int) - 1) = true := beq_iff_eq.2 (by omega)
                  have dm : (ms != n) = true := by simpa using t6.2
                  have dm2 : (ms == n) = false := beq_eq_false_iff_ne.2 t6.2
                  have HO := hidden (HVD.out (fun h => by have h := h.2; unfold rnkR at h; simp only [HLS.out, HMS.out, HPL.out, HPM.out] at h; exact t6.2 (h.2.2.2.2.2.1 t6.1)))
                  clear HALL
                  go_wp2_with fail
                  go_ret
                  exact ⟨by rw [HO.out]; first | done | rfl, HG0.out.of_below (HG1.out.of_below HB6.out)⟩
                have HT6 := hidden t6
                by_cases t7 : ls < pl
                · have dt7 : decide (ls < pl) = true := decide_eq_true t7
                  have HO := hidden (HVD.out (fun h => by have h := h.2; unfold rnkR at h; simp only [HLS.out, HMS.out, HPL.out, HPM.out] at h; have := (h.2.2.2.2.2.2 HKP.out).1; omega))
                  clear HALL
                  rcases Classical.em (k + 1 = m) with hkm | hkm
                  · have dl : ((k : Int) == (m : Int) - 1) = true := beq_iff_eq.2 (by omega)
                    have hmn : ms = n := Classical.byContradiction fun e => HT6.out ⟨hkm, e⟩
                    have dm : (ms != n) = false := by simp [hmn]
                    have dm2 : (ms == n) = true := beq_iff_eq.2 hmn
                    clear hmn hkm t6
                    go_wp2_with fail
                    go_ret
                    exact ⟨by rw [HO.out]; first | done | rfl, HG0.out.of_below (HG1.out.of_below HB6.out)⟩
                  · have dl : ((k : Int) == (m : Int) - 1) = false := beq_eq_false_iff_ne.2 (by omega)
                    clear hkm t6
                    go_wp2_with fail
                    go_ret
                    exact ⟨by rw [HO.out]; first | done | rfl, HG0.out.of_below (HG1.out.of_below HB6.out)⟩
                have dt7 : decide (ls < pl) = false := decide_eq_false t7
                by_cases t8 : ms < pm
                · have dt8 : decide (ms < pm) = true := decide_eq_true t8
                  have HO := hidden (HVD.out (fun h => by have h := h.2; unfold rnkR at h; simp only [HLS.out, HMS.out, HPL.out, HPM.out] at h; have := (h.2.2.2.2.2.2 HKP.out).2.1; omega))
                  clear HALL
                  rcases Classical.em (k + 1 = m) with hkm | hkm
                  · have dl : ((k : Int) == (m : Int) - 1) = true := beq_iff_eq.2 (by omega)
                    have hmn : ms = n := Classical.byContradiction fun e => HT6.out ⟨hkm, e⟩
                    have dm : (ms != n) = false := by simp [hmn]
                    have dm2 : (ms == n) = true := beq_iff_eq.2 hmn
                    clear hmn hkm t6
                    go_wp2_with fail
                    go_ret
                    exact ⟨by rw [HO.out]; first | done | rfl, HG0.out.of_below (HG1.out.of_below HB6.out)⟩
                  · have dl : ((k : Int) == (m : Int) - 1) = false := beq_eq_false_iff_ne.2 (by omega)
                    clear hkm t6
                    go_wp2_with fail
                    go_ret
                    exact ⟨by rw [HO.out]; first | done | rfl, HG0.out.of_below (HG1.out.of_below HB6.out)⟩
                have dt8 : decide (ms < pm) = false := decide_eq_false t8
                by_cases t9 : ls < pm
                · have dt9 : decide (ls < pm) = true := decide_eq_true t9
                  have HO := hidden (HVD.out (fun h => by have h := h.2; unfold rnkR at h; simp only [HLS.out, HMS.out, HPL.out, HPM.out] at h; have := (h.2.2.2.2.2.2 HKP.out).2.2; omega))
                  clear HALL
                  rcases Classical.em (k + 1 = m) with hkm | hkm
                  · have dl : ((k : Int) == (m : Int) - 1) = true := beq_iff_eq.2 (by omega)
                    have hmn : ms = n := Classical.byContradiction fun e => HT6.out ⟨hkm, e⟩
                    have dm : (ms != n) = false := by simp [hmn]
                    have dm2 : (ms == n) = true := beq_iff_eq.2 hmn
                    clear hmn hkm t6
                    go_wp2_with fail
                    go_ret
                    exact ⟨by rw [HO.out]; first | done | rfl, HG0.out.of_below (HG1.out.of_below HB6.out)⟩
                  · have dl : ((k : Int) == (m : Int) - 1) = false := beq_eq_false_iff_ne.2 (by omega)
                    clear hkm t6
                    go_wp2_with fail
                    go_ret
                    exact ⟨by rw [HO.out]; first | done | rfl, HG0.out.of_below (HG1.out.of_below HB6.out)⟩
                have dt9 : decide (ls < pm) = false := decide_eq_false t9
                have HNEW := hidden (show ∀ j, j < k + 1 → fenR fs j ∧ rnkR n rk fs.length j from fun j hj => by
                  rcases Nat.lt_or_ge j k with h | h
                  · exact HALL.out j h
                  · have e : j = k := by omega
                    subst e
                    refine ⟨⟨by rw [HFG.out]; exact HVV.out, by rw [HFG.out]; exact HZ.out, by rw [HFG.out, HKK.out]; exact HKQ.out, fun _ => by rw [HFG.out, HGP.out]; exact HCL.out⟩, ?_⟩
                    rw [← HM.out]
                    unfold rnkR
                    simp only [HLS.out, HMS.out, HPL.out, HPM.out]
                    exact ⟨by omega, by omega, by omega, by omega, fun h => absurd HKP.out (by omega), fun h => Classical.byContradiction fun e => HT6.out ⟨h, e⟩, fun _ => ⟨by omega, by omega, by omega⟩⟩)
                clear t1 t2 t3 t4 t6 t7 t8 t9
                have hkm : k + 1 = m ∨ ¬ k + 1 = m := Classical.em _
                rcases hkm with hkm | hkm
                · have dl : ((k : Int) == (m : Int) - 1) = true := beq_iff_eq.2 (by omega)
                  have hmn : ms = n := Classical.byContradiction fun e => HT6.out ⟨hkm, e⟩
                  have dm : (ms != n) = false := by simp [hmn]
                  have dm2 : (ms == n) = true := beq_iff_eq.2 hmn
                  clear hmn hkm
                  go_wp2_with fail
                  go_roundw
                  case rel => exact ⟨k + 1, by have := HLT.out; have := HM.out; omega, by go_num, HNEW.out, HB6.out⟩
                  case measure => have := HLT.out; have := HM.out; simp [intOf]; omega
                · have dl : ((k : Int) == (m : Int) - 1) = false := beq_eq_false_iff_ne.2 (by omega)
                  clear hkm
                  go_wp2_with fail
                  go_roundw
                  case rel => exact ⟨k + 1, by have := HLT.out; have := HM.out; omega, by go_num, HNEW.out, HB6.out⟩
                  case measure => have := HLT.out; have := HM.out; simp [intOf]; omega
              · have dc : decide (0 ≤ cc) = true := decide_eq_true (by omega)
                have HO := hidden (HVD.out (fun h => hcl (by rw [← HCE.out, ← HFG.out, ← HGP.out]; exact h.1.2.2.2 HKP.out)))
                clear hcl
                go_wp2_with fail
                refine wp_region_loose (tabRs [(1, ConstV (.bool true)), (29, ConstV (.int .i64 cc))]) (by kernel_rfl) (by kernel_rfl) ((tabRs_cons ConstV.lasts (tabRs_cons ConstV.lasts tabRs_nil))) ?_
                iterate 1 ((with_reducible refine loose_one (v := ?_) (a' := ?_) ?_ ?_ (fun w' hC' hG' => ?_) ?_ ?_); rotate_left 2; (focus rfl); (focus rfl); (focus (obtain ⟨⟨s0, s1, s2, s3, s4, s5, s6⟩, ⟨v0, v1, v2⟩, k0, q1, q2, ⟨p0, p1, p2⟩, r1, r2⟩ := HX.out w' hC'; clear hC' hG'; go_simp; rfl)); (focus (go_simp; rfl)))
                refine loose_call (R := ConstV (.bool true)) (f := 20) (args := #[.agg #[.int .i64 f.k, .int .i64 f.n, .string f.t]]) (by rfl) (by rfl) (fun _ => by go_simp) (fun w' hC' hG' => HVA.out w') ?_
                rintro _ ⟨_, _, rfl⟩
                refine ⟨?_, ?_, ?_⟩
                rotate_left
                · go_simp
                  rfl
                iterate 2 ((with_reducible refine loose_one (v := ?_) (a' := ?_) ?_ ?_ (fun w' hC' hG' => ?_) ?_ ?_); rotate_left 2; (focus rfl); (focus rfl); (focus (obtain ⟨⟨s0, s1, s2, s3, s4, s5, s6⟩, ⟨v0, v1, v2⟩, k0, q1, q2, ⟨p0, p1, p2⟩, r1, r2⟩ := HX.out w' hC'; clear hC' hG'; go_simp; rfl)); (focus (go_simp; rfl)))
                iterate 3 ((with_reducible refine loose_one (v := ?_) (a' := ?_) ?_ ?_ (fun w' hC' hG' => ?_) ?_ ?_); rotate_left 2; (focus rfl); (focus rfl); (focus (obtain ⟨⟨s0, s1, s2, s3, s4, s5, s6⟩, ⟨v0, v1, v2⟩, k0, q1, q2, ⟨p0, p1, p2⟩, r1, r2⟩ := HX.out w' hC'; clear hC' hG'; go_simp; rfl)); (focus (go_simp; rfl)))
                iterate 2 ((with_reducible refine loose_one (v := ?_) (a' := ?_) ?_ ?_ (fun w' hC' hG' => ?_) ?_ ?_); rotate_left 2; (focus rfl); (focus rfl); (focus (obtain ⟨⟨s0, s1, s2, s3, s4, s5, s6⟩, ⟨v0, v1, v2⟩, k0, q1, q2, ⟨p0, p1, p2⟩, r1, r2⟩ := HX.out w' hC'; clear hC' hG'; go_simp; rfl)); (focus (go_simp; rfl)))
                iterate 8 ((with_reducible refine loose_one (v := ?_) (a' := ?_) ?_ ?_ (fun w' hC' hG' => ?_) ?_ ?_); rotate_left 2; (focus rfl); (focus rfl); (focus (obtain ⟨⟨s0, s1, s2, s3, s4, s5, s6⟩, ⟨v0, v1, v2⟩, k0, q1, q2, ⟨p0, p1, p2⟩, r1, r2⟩ := HX.out w' hC'; clear hC' hG'; go_simp; rfl)); (focus (go_simp; rfl)))
                iterate 2 ((with_reducible refine loose_one (v := ?_) (a' := ?_) ?_ ?_ (fun w' hC' hG' => ?_) ?_ ?_); rotate_left 2; (focus rfl); (focus rfl); (focus (obtain ⟨⟨s0, s1, s2, s3, s4, s5, s6⟩, ⟨v0, v1, v2⟩, k0, q1, q2, ⟨p0, p1, p2⟩, r1, r2⟩ := HX.out w' hC'; clear hC' hG'; go_simp; rfl)); (focus (go_simp; rfl)))
                iterate 3 ((with_reducible refine loose_one (v := ?_) (a' := ?_) ?_ ?_ (fun w' hC' hG' => ?_) ?_ ?_); rotate_left 2; (focus rfl); (focus rfl); (focus (obtain ⟨⟨s0, s1, s2, s3, s4, s5, s6⟩, ⟨v0, v1, v2⟩, k0, q1, q2, ⟨p0, p1, p2⟩, r1, r2⟩ := HX.out w' hC'; clear hC' hG'; go_simp; rfl)); (focus (go_simp; rfl)))
                iterate 7 ((with_reducible refine loose_one (v := ?_) (a' := ?_) ?_ ?_ (fun w' hC' hG' => ?_) ?_ ?_); rotate_left 2; (focus rfl); (focus rfl); (focus (obtain ⟨⟨s0, s1, s2, s3, s4, s5, s6⟩, ⟨v0, v1, v2⟩, k0, q1, q2, ⟨p0, p1, p2⟩, r1, r2⟩ := HX.out w' hC'; clear hC' hG'; go_simp; rfl)); (focus (go_simp; rfl)))
                refine loose_call (R := ConstV (.int .i64 cc)) (f := 33) (args := #[.agg #[.int .i64 g.k, .int .i64 g.n, .string g.t], .agg #[.int .i64 f.k, .int .i64 f.n, .string f.t]]) (by rfl) (by rfl) (fun _ => by go_simp) (fun w' hC' hG' => HCC.out w') ?_
                rintro _ ⟨_, _, rfl⟩
                refine ⟨?_, ?_, ?_⟩
                rotate_left
                · go_simp
                  rfl
                iterate 3 ((with_reducible refine loose_one (v := ?_) (a' := ?_) ?_ ?_ (fun w' hC' hG' => ?_) ?_ ?_); rotate_left 2; (focus rfl); (focus rfl); (focus (obtain ⟨⟨s0, s1, s2, s3, s4, s5, s6⟩, ⟨v0, v1, v2⟩, k0, q1, q2, ⟨p0, p1, p2⟩, r1, r2⟩ := HX.out w' hC'; clear hC' hG'; go_simp; rfl)); (focus (go_simp; rfl)))
                refine loose_done (fun w5 hC5 hG5 => ?_)
                have HB5 := hidden (HBA.out.of_below hC5)
                have HC5 := hidden hC5
                clear hC5 hG5
                clear hwp hp0 hp1 hp2
                go_wp2_with fail
                go_ret
                exact ⟨by rw [HO.out]; first | done | rfl, HG0.out.of_below (HG1.out.of_below HB5.out)⟩
          · have b2 : (f.k == f0.k) = false := by simpa using hkq
            have b2b : (f.k != f0.k) = true := by simpa using hkq
            have HO := hidden (HVD.out (fun h => hkq (by rw [← HFG.out, ← HKK.out]; exact h.1.2.2.1)))
            clear hkq
            go_wp2_with fail
            refine wp_region_loose (tabRs [(1, ConstV (.bool true))]) (by kernel_rfl) (by kernel_rfl) ((tabRs_cons ConstV.lasts tabRs_nil)) ?_
            iterate 1 ((with_reducible refine loose_one (v := ?_) (a' := ?_) ?_ ?_ (fun w' hC' hG' => ?_) ?_ ?_); rotate_left 2; (focus rfl); (focus rfl); (focus (obtain ⟨⟨s0, s1, s2, s3, s4, s5, s6⟩, ⟨v0, v1, v2⟩, k0, q1, q2⟩ := HX.out w' hC'; clear hC' hG'; go_simp; rfl)); (focus (go_simp; rfl)))
            refine loose_call (R := ConstV (.bool true)) (f := 20) (args := #[.agg #[.int .i64 f.k, .int .i64 f.n, .string f.t]]) (by rfl) (by rfl) (fun _ => by go_simp) (fun w' hC' hG' => HVA.out w') ?_
            rintro _ ⟨_, _, rfl⟩
            refine ⟨?_, ?_, ?_⟩
            rotate_left
            · go_simp
              rfl
            iterate 2 ((with_reducible refine loose_one (v := ?_) (a' := ?_) ?_ ?_ (fun w' hC' hG' => ?_) ?_ ?_); rotate_left 2; (focus rfl); (focus rfl); (focus (obtain ⟨⟨s0, s1, s2, s3, s4, s5, s6⟩, ⟨v0, v1, v2⟩, k0, q1, q2⟩ := HX.out w' hC'; clear hC' hG'; go_simp; rfl)); (focus (go_simp; rfl)))
            iterate 3 ((with_reducible refine loose_one (v := ?_) (a' := ?_) ?_ ?_ (fun w' hC' hG' => ?_) ?_ ?_); rotate_left 2; (focus rfl); (focus rfl); (focus (obtain ⟨⟨s0, s1, s2, s3, s4, s5, s6⟩, ⟨v0, v1, v2⟩, k0, q1, q2⟩ := HX.out w' hC'; clear hC' hG'; go_simp; rfl)); (focus (go_simp; rfl)))
            iterate 2 ((with_reducible refine loose_one (v := ?_) (a' := ?_) ?_ ?_ (fun w' hC' hG' => ?_) ?_ ?_); rotate_left 2; (focus rfl); (focus rfl); (focus (obtain ⟨⟨s0, s1, s2, s3, s4, s5, s6⟩, ⟨v0, v1, v2⟩, k0, q1, q2⟩ := HX.out w' hC'; clear hC' hG'; go_simp; rfl)); (focus (go_simp; rfl)))
            iterate 8 ((with_reducible refine loose_one (v := ?_) (a' := ?_) ?_ ?_ (fun w' hC' hG' => ?_) ?_ ?_); rotate_left 2; (focus rfl); (focus rfl); (focus (obtain ⟨⟨s0, s1, s2, s3, s4, s5, s6⟩, ⟨v0, v1, v2⟩, k0, q1, q2⟩ := HX.out w' hC'; clear hC' hG'; go_simp; rfl)); (focus (go_simp; rfl)))
            iterate 2 ((with_reducible refine loose_one (v := ?_) (a' := ?_) ?_ ?_ (fun w' hC' hG' => ?_) ?_ ?_); rotate_left 2; (focus rfl); (focus rfl); (focus (obtain ⟨⟨s0, s1, s2, s3, s4, s5, s6⟩, ⟨v0, v1, v2⟩, k0, q1, q2⟩ := HX.out w' hC'; clear hC' hG'; go_simp; rfl)); (focus (go_simp; rfl)))
            iterate 13 ((with_reducible refine loose_skip (a' := ?_) ?_ ?_ ?_); rotate_left 1; (focus rfl); (focus (go_simp; rfl)))
            iterate 1 ((with_reducible refine loose_one (v := ?_) (a' := ?_) ?_ ?_ (fun w' hC' hG' => ?_) ?_ ?_); rotate_left 2; (focus rfl); (focus rfl); (focus (obtain ⟨⟨s0, s1, s2, s3, s4, s5, s6⟩, ⟨v0, v1, v2⟩, k0, q1, q2⟩ := HX.out w' hC'; clear hC' hG'; go_simp; rfl)); (focus (go_simp; rfl)))
            refine loose_done (fun w5 hC5 hG5 => ?_)
            have HB5 := hidden (HBA.out.of_below hC5)
            have HC5 := hidden hC5
            clear hC5 hG5
            go_wp2_with fail
            go_ret
            exact ⟨by rw [HO.out]; first | done | rfl, HG0.out.of_below (HG1.out.of_below HB5.out)⟩
        · have hva2 : validV f.k f.n f.t = false := by simpa using hva
          have HVA := hidden (fun X => const_loose16 (rvvalid_any f.k f.n f.t X))
          rw [hva2] at HVA
          have HO := hidden (HVD.out (fun h => hva (by rw [← HFG.out]; exact h.1.1)))
          clear hva hva2
          go_wp2_with fail
          refine wp_region_loose (tabRs [(1, ConstV (.bool false))]) (by kernel_rfl) (by kernel_rfl) ((tabRs_cons ConstV.lasts tabRs_nil)) ?_
          iterate 1 ((with_reducible refine loose_one (v := ?_) (a' := ?_) ?_ ?_ (fun w' hC' hG' => ?_) ?_ ?_); rotate_left 2; (focus rfl); (focus rfl); (focus (obtain ⟨⟨s0, s1, s2, s3, s4, s5, s6⟩, ⟨v0, v1, v2⟩, k0, q1, q2⟩ := HX.out w' hC'; clear hC' hG'; go_simp; rfl)); (focus (go_simp; rfl)))
          refine loose_call (R := ConstV (.bool false)) (f := 20) (args := #[.agg #[.int .i64 f.k, .int .i64 f.n, .string f.t]]) (by rfl) (by rfl) (fun _ => by go_simp) (fun w' hC' hG' => HVA.out w') ?_
          rintro _ ⟨_, _, rfl⟩
          refine ⟨?_, ?_, ?_⟩
          rotate_left
          · go_simp
            rfl
          iterate 2 ((with_reducible refine loose_one (v := ?_) (a' := ?_) ?_ ?_ (fun w' hC' hG' => ?_) ?_ ?_); rotate_left 2; (focus rfl); (focus rfl); (focus (obtain ⟨⟨s0, s1, s2, s3, s4, s5, s6⟩, ⟨v0, v1, v2⟩, k0, q1, q2⟩ := HX.out w' hC'; clear hC' hG'; go_simp; rfl)); (focus (go_simp; rfl)))
          iterate 3 ((with_reducible refine loose_skip (a' := ?_) ?_ ?_ ?_); rotate_left 1; (focus rfl); (focus (go_simp; rfl)))
          iterate 2 ((with_reducible refine loose_one (v := ?_) (a' := ?_) ?_ ?_ (fun w' hC' hG' => ?_) ?_ ?_); rotate_left 2; (focus rfl); (focus rfl); (focus (obtain ⟨⟨s0, s1, s2, s3, s4, s5, s6⟩, ⟨v0, v1, v2⟩, k0, q1, q2⟩ := HX.out w' hC'; clear hC' hG'; go_simp; rfl)); (focus (go_simp; rfl)))
          iterate 8 ((with_reducible refine loose_skip (a' := ?_) ?_ ?_ ?_); rotate_left 1; (focus rfl); (focus (go_simp; rfl)))
          iterate 2 ((with_reducible refine loose_one (v := ?_) (a' := ?_) ?_ ?_ (fun w' hC' hG' => ?_) ?_ ?_); rotate_left 2; (focus rfl); (focus rfl); (focus (obtain ⟨⟨s0, s1, s2, s3, s4, s5, s6⟩, ⟨v0, v1, v2⟩, k0, q1, q2⟩ := HX.out w' hC'; clear hC' hG'; go_simp; rfl)); (focus (go_simp; rfl)))
          iterate 13 ((with_reducible refine loose_skip (a' := ?_) ?_ ?_ ?_); rotate_left 1; (focus rfl); (focus (go_simp; rfl)))
          iterate 1 ((with_reducible refine loose_one (v := ?_) (a' := ?_) ?_ ?_ (fun w' hC' hG' => ?_) ?_ ?_); rotate_left 2; (focus rfl); (focus rfl); (focus (obtain ⟨⟨s0, s1, s2, s3, s4, s5, s6⟩, ⟨v0, v1, v2⟩, k0, q1, q2⟩ := HX.out w' hC'; clear hC' hG'; go_simp; rfl)); (focus (go_simp; rfl)))
          refine loose_done (fun w5 hC5 hG5 => ?_)
          have HB5 := hidden (HBA.out.of_below hC5)
          have HC5 := hidden hC5
          clear hC5 hG5
          go_wp2_with fail
          go_ret
          exact ⟨by rw [HO.out]; first | done | rfl, HG0.out.of_below (HG1.out.of_below HB5.out)⟩
      · have hke : k = m := by have := HM.out; omega
        subst hke
        have hd : decide (k < k) = false := decide_eq_false hlt
        have hd2 : decide ((k : Int) < (k : Int)) = false := decide_eq_false (by omega)
        have HO := hidden (HVT.out ⟨by rw [← HM.out]; exact hmb, by rw [← HM.out]; exact HQ.out.2, by rw [← HM.out, ← HRL.out]; exact HRM.out, fun i hi => HALL.out i (by rw [HM.out]; exact hi)⟩)
        clear hlt hk hmb
        go_wp2_with fail
        go_ret
        exact ⟨by rw [HO.out]; first | done | rfl, HG0.out.of_below (HG1.out.of_below HB.out)⟩
  · have d4 : ((rl : Int) == 2 * (m : Int)) = false := beq_eq_false_iff_ne.2 (by omega)
    have d4b : ((rl : Int) != 2 * (m : Int)) = true := by simp; omega
    have HO := hidden (HVF.out (fun h => q4 (by have := h.2.2.1; have := HM.out; have := HRL.out; omega)))
    clear hn1 hn2 q1 q2 q4
    go_enter Tryz.func74, Tryz.ntmps74
    go_wp2_with fail
    rw [← hW0]
    clear hW0
    refine wp_region_loose (tabRs [(1, ConstV (.int .i64 n))]) (by kernel_rfl) (by kernel_rfl) (tabRs_cons ConstV.lasts tabRs_nil) ?_
    iterate 1 ((with_reducible refine loose_one (v := ?_) (a' := ?_) ?_ ?_ (fun w' hC' hG' => ?_) ?_ ?_); rotate_left 2; (focus rfl); (focus rfl); (focus (obtain ⟨s0, s1, s2, s3, s4, s5, s6⟩ := HX0.out w' hC'; clear hC' hG'; go_simp; rfl)); (focus (go_simp; rfl)))
    refine loose_call (R := ConstV (.int .i64 n)) (f := 85) (args := #[.agg #[.int .i64 r, .int .i64 n0, .slice A1 hs.length c1, .bool ok, .slice A2 cm.length c2, .slice A3 m c3, .slice A4 rl c4]]) (by rfl) (by rfl) (fun _ => by go_simp) (fun w' hC' hG' => HV.out w') ?_
    rintro _ ⟨_, _, rfl⟩
    refine ⟨?_, ?_, ?_⟩
    rotate_left
    · go_simp
      rfl
    iterate 5 ((with_reducible refine loose_one (v := ?_) (a' := ?_) ?_ ?_ (fun w' hC' hG' => ?_) ?_ ?_); rotate_left 2; (focus rfl); (focus rfl); (focus (obtain ⟨s0, s1, s2, s3, s4, s5, s6⟩ := HX0.out w' hC'; clear hC' hG'; go_simp; rfl)); (focus (go_simp; rfl)))
    refine loose_done (fun w1 hC1 hG1 => ?_)
    have HG1 := hidden hC1
    obtain ⟨s0, s1, s2, s3, s4, s5, s6⟩ := HX0.out w1 hC1
    clear hC1 hG1 s0 s1 s2 s3 s4
    go_wp2_with fail
    go_ret
    exact ⟨by rw [HO.out]; first | done | rfl, HG0.out.of_below HG1.out⟩
end Go.Proofs.YtoaklmceejeblaaGreat
