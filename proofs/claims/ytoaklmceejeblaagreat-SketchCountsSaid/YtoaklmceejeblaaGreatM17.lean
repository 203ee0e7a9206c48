/-
  Texts that the claims of this seat share, put together (SqB, SqC, SqD, SqE). No condition.
-/
import Derived.Test.YtoaklmceejeblaaGreatM16
/-
  Shaken: what the claims of this seat need of this text. No condition.
-/
namespace Go.Proofs.YtoaklmceejeblaaGreat
set_option maxRecDepth 8000
open Go.RowKit
set_option linter.unusedVariables false
set_option linter.unusedSimpArgs false
theorem qisNaN_any (a : Int) (w : World) : Calls Tryz.prog 158 #[.int .u64 a] w fun e w' => e = .returned (.bool false) ∧ w' = w := by
  go_enter Tryz.func158, Tryz.ntmps158
  go_wp2_with fail
  go_ret
  exact ⟨by simp, rfl⟩
def ucmp (a b : Nat) : Int := if a < b then -1 else if b < a then 1 else 0
theorem qucmp_any (a b : Nat) (w : World) : Calls Tryz.prog 123 #[.int .u64 (a : Int), .int .u64 (b : Int)] w fun e w' => e = .returned (.int .i64 (ucmp a b)) ∧ w' = w := by
  have HI := hidden (fun c W => qisNaN_any c W)
  by_cases h1 : a < b
  · have d1 : decide ((a : Int) < (b : Int)) = true := by simpa using h1
    have d2 : decide (a < b) = true := by simpa using h1
    have HU := hidden (show ucmp a b = -1 from if_pos h1)
    clear h1
    go_enter Tryz.func123, Tryz.ntmps123
    go_wp2_with (go_at_call 158; refine (HI.out _ _).mono ?_; rintro e w2 ⟨rfl, rfl⟩)
    go_ret
    exact ⟨by rw [HU.out]; first | done | rfl, rfl⟩
  · have d1 : decide ((a : Int) < (b : Int)) = false := by simpa using h1
    have d2 : decide (a < b) = false := by simpa using h1
    by_cases h2 : b < a
    · have d3 : decide ((b : Int) < (a : Int)) = true := by simpa using h2
      have d4 : decide (b < a) = true := by simpa using h2
      have HU := hidden (show ucmp a b = 1 by unfold ucmp; rw [if_neg h1, if_pos h2])
      clear h1 h2
      go_enter Tryz.func123, Tryz.ntmps123
      go_wp2_with (go_at_call 158; refine (HI.out _ _).mono ?_; rintro e w2 ⟨rfl, rfl⟩)
      go_ret
      exact ⟨by rw [HU.out]; first | done | rfl, rfl⟩
    · have d3 : decide ((b : Int) < (a : Int)) = false := by simpa using h2
      have d4 : decide (b < a) = false := by simpa using h2
      have HU := hidden (show ucmp a b = 0 by unfold ucmp; rw [if_neg h1, if_neg h2])
      clear h1 h2
      go_enter Tryz.func123, Tryz.ntmps123
      go_wp2_with (go_at_call 158; refine (HI.out _ _).mono ?_; rintro e w2 ⟨rfl, rfl⟩)
      go_ret
      exact ⟨by rw [HU.out]; first | done | rfl, rfl⟩
def adjB (c : Nat → Int) (n : Nat) : Bool := (List.range (n - 1)).all fun i => decide (c i < 0)
theorem adjB_false {c : Nat → Int} {n i : Nat} (h : i + 1 < n) (hc : ¬ c i < 0) : adjB c n = false := by
  unfold adjB
  rw [List.all_eq_false]
  exact ⟨i, List.mem_range.2 (by omega), by simpa using hc⟩
theorem adjB_succ {c : Nat → Int} {k : Nat} (h : 1 ≤ k) (hk : adjB c k = true) (hc : c (k - 1) < 0) : adjB c (k + 1) = true := by
  unfold adjB at *
  rw [show k + 1 - 1 = (k - 1) + 1 by omega, List.range_succ, List.all_append, hk]
  simpa using hc
def IncRelU (w : World) (c : Nat → Int) (n : Nat) (i : Value) (wr : World) : Prop := ∃ k : Nat, 1 ≤ k ∧ (k ≤ n ∨ k = 1) ∧ i = .int .i64 (k : Int) ∧ adjB c k = true ∧ Grows w wr
set_option maxHeartbeats 4000000 in
theorem qincU_any (v : Value) (l : List Nat) (c : Nat → Int) (w : World) (hv : IsW w v l) (hl : l.length ≤ 1000000) (hc : ∀ i, c i = ucmp (l.getD i 0) (l.getD (i + 1) 0)) :
    Calls Tryz.prog 122 #[v, .func (.func 123) #[] #[]] w fun e w' => e = .returned (.bool (adjB c l.length)) ∧ Grows w w' := by
  have HV := hidden (fun X (h : Grows w X) => hv.grow h)
  obtain ⟨A, ca, rfl⟩ : ∃ A c, v = .slice A l.length c := by
    obtain ⟨A, c, h1, -⟩ := hv
    exact ⟨A, c, by rw [h1, wcells_length]⟩
  clear hv
  go_enter Tryz.func122, Tryz.ntmps122
  go_wp2_with fail
  go_loopw [5] (fun i wr => IncRelU w c l.length i wr) (fun i _ => l.length + 1 - (intOf i).toNat)
  case atStart => exact ⟨1, Nat.le_refl _, .inr rfl, rfl, rfl, Below.refl _ _⟩
  case round =>
    obtain ⟨k, hk1, hkn, rfl, had, hb⟩ := hrel
    by_cases hlt : k < l.length
    · have hd : decide (k < l.length) = true := by simpa using hlt
      have hd2 : decide ((k : Int) < (l.length : Int)) = true := by simpa using hlt
      obtain ⟨b, off, rfl, hck⟩ := IsW.at_ (HV.out wr hb) hlt
      obtain ⟨b', off', he', hck'⟩ := IsW.at_ (HV.out wr hb) (show k - 1 < l.length by omega)
      injection he' with he'
      injection he' with e1 e2
      subst e1 e2
      have hcc : c (k - 1) = ucmp l[k - 1] l[k] := by
        rw [hc, List.getD_eq_getElem?_getD, List.getD_eq_getElem?_getD, show k - 1 + 1 = k by omega, List.getElem?_eq_getElem (show k - 1 < l.length by omega), List.getElem?_eq_getElem hlt]; rfl
      generalize l[k - 1] = y at *
      generalize l[k] = z at *
      have HX := hidden (fun X (h : Grows wr X) => show X.cell? ⟨b, off + (k - 1), none⟩ = some (.int .u64 (y : Int)) ∧ X.cell? ⟨b, off + k, none⟩ = some (.int .u64 (z : Int)) from ⟨(h.cell (World.block_lt_of_cell? _ _ hck')).trans hck', (h.cell (World.block_lt_of_cell? _ _ hck)).trans hck⟩)
      have HCM := hidden (fun W => const_loose16 ((qucmp_any y z W).mono fun e w' ⟨h1, h2⟩ => (⟨h1, by rw [h2]; exact Below.refl _ _⟩ : e = .returned (.int .i64 (ucmp y z)) ∧ Grows W w')))
      rw [← hcc] at HCM
      have HAD := hidden had
      have HB := hidden hb
      have HLT := hidden hlt
      have HK1 := hidden hk1
      obtain ⟨m, hm⟩ : ∃ m, k = m + 1 := ⟨k - 1, by omega⟩
      subst hm
      rw [Nat.add_sub_cancel] at HX HCM hcc
      have hk0 : (0 : Int) ≤ ((m + 1 : Nat) : Int) := by omega
      have hk2 : ((m + 1 : Nat) : Int) < (l.length : Int) := by omega
      have g1 : ((m : Int) + 1) < (l.length : Int) := by omega
      have g2 : (m : Int) < (l.length : Int) := by omega
      have g3 : ((m + 1 : Nat) : Int) = (m : Int) + 1 := by omega
      have g4 : (m : Int) + 1 - 1 = (m : Int) := by omega
      have g5 : IntKind.i64.wrap (m : Int) = (m : Int) := by rw [IntKind.wrap_i64]; omega
      have g6 : ((m : Int) + 1).toNat = m + 1 := by omega
      have g7 : (0 : Int) ≤ (m : Int) + 1 := by omega
      clear had hb hlt hk1 hkn
      obtain ⟨cc, hcce⟩ : ∃ cc, cc = c m := ⟨_, rfl⟩
      rw [← hcce] at HCM
      have HCE := hidden hcce
      clear hcce hcc
      go_wp2_with fail
      refine wp_region_loose (tabRs [(10, ConstV (.int .i64 cc))]) (by kernel_rfl) (by kernel_rfl) (tabRs_cons ConstV.lasts tabRs_nil) ?_
      iterate 10 ((with_reducible refine loose_one (v := ?_) (a' := ?_) ?_ ?_ (fun w' hC' hG' => ?_) ?_ ?_); rotate_left 2; (focus rfl); (focus rfl); (focus (obtain ⟨k1, k2⟩ := HX.out w' hC'; clear hC' hG'; go_simp; rfl)); (focus (go_simp; rfl)))
      refine loose_call (R := ConstV (.int .i64 cc)) (f := 123) (args := #[.int .u64 (y : Int), .int .u64 (z : Int)]) (by rfl) (by rfl) (fun _ => by go_simp) (fun w' hC' hG' => HCM.out w') ?_
      rintro _ ⟨_, _, rfl⟩
      refine ⟨?_, ?_, ?_⟩
      rotate_left
      · go_simp
        rfl
      iterate 1 ((with_reducible refine loose_one (v := ?_) (a' := ?_) ?_ ?_ (fun w' hC' hG' => ?_) ?_ ?_); rotate_left 2; (focus rfl); (focus rfl); (focus (obtain ⟨k1, k2⟩ := HX.out w' hC'; clear hC' hG'; go_simp; rfl)); (focus (go_simp; rfl)))
      refine loose_done (fun w5 hC5 hG5 => ?_)
      have HB5 := hidden (HB.out.of_below hC5)
      clear hC5 hG5
      by_cases h0 : cc < 0
      · have d1 : decide (0 ≤ cc) = false := by simp; omega
        have d2 : ¬ 0 ≤ cc := by omega
        have HN := hidden (adjB_succ HK1.out HAD.out (by rw [Nat.add_sub_cancel, ← HCE.out]; exact h0))
        clear h0
        go_wp2_with fail
        exact ⟨⟨m + 2, by omega, .inl HLT.out, by congr 1, HN.out, HB5.out⟩, by have := HLT.out; simp only [intOf]; omega⟩
      · have d1 : decide (0 ≤ cc) = true := by simp; omega
        have d2 : 0 ≤ cc := by omega
        have HN := hidden (adjB_false (c := c) HLT.out (by rw [← HCE.out]; exact h0))
        clear h0
        go_wp2_with fail
        go_ret
        exact ⟨by rw [HN.out]; first | done | rfl, HB5.out⟩
    · have hd : decide (k < l.length) = false := by simpa using hlt
      have hd2 : decide ((k : Int) < (l.length : Int)) = false := by simpa using hlt
      have HE := hidden (show adjB c l.length = true by
        rcases hkn with h | h
        · rw [show l.length = k by omega]; exact had
        · subst h
          unfold adjB
          rw [show l.length - 1 = 0 by omega]
          rfl)
      have HB := hidden hb
      clear had hb hkn hk1 hlt
      go_wp2_with fail
      go_ret
      exact ⟨by rw [HE.out]; first | done | rfl, HB.out⟩
def IncRelV (w : World) (c : Nat → Int) (n : Nat) (i : Value) (wr : World) : Prop := ∃ k : Nat, 1 ≤ k ∧ (k ≤ n ∨ k = 1) ∧ i = .int .i64 (k : Int) ∧ adjB c k = true ∧ Grows w wr
set_option maxHeartbeats 4000000 in
theorem qincV_any (v : Value) (l : List Val) (c : Nat → Int) (w : World) (hv : ReadsV w v l) (hl : l.length ≤ 1000000) (hc : ∀ i, c i = lcX (l.getD i ⟨0, 0, .empty⟩) (l.getD (i + 1) ⟨0, 0, .empty⟩)) :
    Calls Tryz.prog 125 #[v, .func (.func 42) #[] #[]] w fun e w' => e = .returned (.bool (adjB c l.length)) ∧ Grows w w' := by
  have HV := hidden (fun X (h : Grows w X) => hv.grow h)
  obtain ⟨A, ca, rfl, -⟩ := id hv
  clear hv
  go_enter Tryz.func125, Tryz.ntmps125
  go_wp2_with fail
  go_loopw [5] (fun i wr => IncRelV w c l.length i wr) (fun i _ => l.length + 1 - (intOf i).toNat)
  case atStart => exact ⟨1, Nat.le_refl _, .inr rfl, rfl, rfl, Below.refl _ _⟩
  case round =>
    obtain ⟨k, hk1, hkn, rfl, had, hb⟩ := hrel
    by_cases hlt : k < l.length
    · have hd : decide (k < l.length) = true := by simpa using hlt
      have hd2 : decide ((k : Int) < (l.length : Int)) = true := by simpa using hlt
      obtain ⟨A', c', he, _, hcell⟩ := HV.out wr hb
      injection he with e1 e2 e3
      subst e1 e3
      obtain ⟨b, off, rfl, hcell2⟩ := hcell (by omega)
      obtain ⟨y, hy⟩ : ∃ y, l[k - 1]? = some y := ⟨_, List.getElem?_eq_getElem (by omega)⟩
      obtain ⟨z, hz⟩ : ∃ z, l[k]? = some z := ⟨_, List.getElem?_eq_getElem hlt⟩
      have hcc : c (k - 1) = lcX y z := by
        rw [hc, List.getD_eq_getElem?_getD, List.getD_eq_getElem?_getD, show k - 1 + 1 = k by omega, hy, hz]; rfl
      obtain ⟨a1, a2, a3⟩ := hcell2 (k - 1) y hy
      obtain ⟨b1, b2, b3⟩ := hcell2 k z hz
      have HX := hidden (fun X (h : Grows wr X) => show X.cell? ⟨b, off + (k - 1) * 3, none⟩ = some (.int .i64 y.k) ∧ X.cell? ⟨b, off + (k - 1) * 3 + 1, none⟩ = some (.int .i64 y.n) ∧ X.cell? ⟨b, off + (k - 1) * 3 + 2, none⟩ = some (.string y.t) ∧ X.cell? ⟨b, off + k * 3, none⟩ = some (.int .i64 z.k) ∧ X.cell? ⟨b, off + k * 3 + 1, none⟩ = some (.int .i64 z.n) ∧ X.cell? ⟨b, off + k * 3 + 2, none⟩ = some (.string z.t) from ⟨(h.cell (World.block_lt_of_cell? _ _ a1)).trans a1, (h.cell (World.block_lt_of_cell? _ _ a2)).trans a2, (h.cell (World.block_lt_of_cell? _ _ a3)).trans a3, (h.cell (World.block_lt_of_cell? _ _ b1)).trans b1, (h.cell (World.block_lt_of_cell? _ _ b2)).trans b2, (h.cell (World.block_lt_of_cell? _ _ b3)).trans b3⟩)
      have HCM := hidden (fun W => const_loose16 (show Calls Tryz.prog 42 #[.agg #[.int .i64 y.k, .int .i64 y.n, .string y.t], .agg #[.int .i64 z.k, .int .i64 z.n, .string z.t]] W fun e w' => e = .returned (.int .i64 (c (k - 1))) ∧ Grows W w' by rw [hcc]; exact lcompare_any y.k y.n z.k z.n y.t z.t W))
      clear hcell hcell2 e2 hy hz a1 a2 a3 b1 b2 b3
      have HAD := hidden had
      have HB := hidden hb
      have HLT := hidden hlt
      have HK1 := hidden hk1
      obtain ⟨m, hm⟩ : ∃ m, k = m + 1 := ⟨k - 1, by omega⟩
      subst hm
      rw [Nat.add_sub_cancel] at HX HCM hcc
      have hk0 : (0 : Int) ≤ ((m + 1 : Nat) : Int) := by omega
      have hk2 : ((m + 1 : Nat) : Int) < (l.length : Int) := by omega
      have g1 : ((m : Int) + 1) < (l.length : Int) := by omega
      have g2 : (m : Int) < (l.length : Int) := by omega
      have g3 : ((m + 1 : Nat) : Int) = (m : Int) + 1 := by omega
      have g4 : (m : Int) + 1 - 1 = (m : Int) := by omega
      have g5 : IntKind.i64.wrap (m : Int) = (m : Int) := by rw [IntKind.wrap_i64]; omega
      have g6 : ((m : Int) + 1).toNat = m + 1 := by omega
      have g7 : (0 : Int) ≤ (m : Int) + 1 := by omega
      clear had hb hlt hk1 hkn
      obtain ⟨cc, hcce⟩ : ∃ cc, cc = c m := ⟨_, rfl⟩
      rw [← hcce] at HCM
      have HCE := hidden hcce
      clear hcce hcc
      go_wp2_with fail
      refine wp_region_loose (tabRs [(10, ConstV (.int .i64 cc))]) (by kernel_rfl) (by kernel_rfl) (tabRs_cons ConstV.lasts tabRs_nil) ?_
      iterate 10 ((with_reducible refine loose_one (v := ?_) (a' := ?_) ?_ ?_ (fun w' hC' hG' => ?_) ?_ ?_); rotate_left 2; (focus rfl); (focus rfl); (focus (obtain ⟨k1, k2, k3, k4, k5, k6⟩ := HX.out w' hC'; clear hC' hG'; go_simp; rfl)); (focus (go_simp; rfl)))
      refine loose_call (R := ConstV (.int .i64 cc)) (f := 42) (args := #[.agg #[.int .i64 y.k, .int .i64 y.n, .string y.t], .agg #[.int .i64 z.k, .int .i64 z.n, .string z.t]]) (by rfl) (by rfl) (fun _ => by go_simp) (fun w' hC' hG' => HCM.out w') ?_
      rintro _ ⟨_, _, rfl⟩
      refine ⟨?_, ?_, ?_⟩
      rotate_left
      · go_simp
        rfl
      iterate 1 ((with_reducible refine loose_one (v := ?_) (a' := ?_) ?_ ?_ (fun w' hC' hG' => ?_) ?_ ?_); rotate_left 2; (focus rfl); (focus rfl); (focus (obtain ⟨k1, k2, k3, k4, k5, k6⟩ := HX.out w' hC'; clear hC' hG'; go_simp; rfl)); (focus (go_simp; rfl)))
      refine loose_done (fun w5 hC5 hG5 => ?_)
      have HB5 := hidden (HB.out.of_below hC5)
      clear hC5 hG5
      by_cases h0 : cc < 0
      · have d1 : decide (0 ≤ cc) = false := by simp; omega
        have d2 : ¬ 0 ≤ cc := by omega
        have HN := hidden (adjB_succ HK1.out HAD.out (by rw [Nat.add_sub_cancel, ← HCE.out]; exact h0))
        clear h0
        go_wp2_with fail
        exact ⟨⟨m + 2, by omega, .inl HLT.out, by congr 1, HN.out, HB5.out⟩, by have := HLT.out; simp only [intOf]; omega⟩
      · have d1 : decide (0 ≤ cc) = true := by simp; omega
        have d2 : 0 ≤ cc := by omega
        have HN := hidden (adjB_false (c := c) HLT.out (by rw [← HCE.out]; exact h0))
        clear h0
        go_wp2_with fail
        go_ret
        exact ⟨by rw [HN.out]; first | done | rfl, HB5.out⟩
    · have hd : decide (k < l.length) = false := by simpa using hlt
      have hd2 : decide ((k : Int) < (l.length : Int)) = false := by simpa using hlt
      have HE := hidden (show adjB c l.length = true by
        rcases hkn with h | h
        · rw [show l.length = k by omega]; exact had
        · subst h
          unfold adjB
          rw [show l.length - 1 = 0 by omega]
          rfl)
      have HB := hidden hb
      clear had hb hkn hk1 hlt
      go_wp2_with fail
      go_ret
      exact ⟨by rw [HE.out]; first | done | rfl, HB.out⟩
end Go.Proofs.YtoaklmceejeblaaGreat
/-
  Shaken: what the claims of this seat need of this text. No condition.
-/
namespace Go.Proofs.YtoaklmceejeblaaGreat
set_option maxRecDepth 8000
open Go.RowKit
set_option linter.unusedVariables false
set_option linter.unusedSimpArgs false
theorem adjU_iff (hs : List Nat) : adjB (fun i => ucmp (hs.getD i 0) (hs.getD (i + 1) 0)) hs.length = true ↔ ∀ j, j + 1 < hs.length → hs.getD j 0 < hs.getD (j + 1) 0 := by
  unfold adjB
  rw [List.all_eq_true]
  have e : ∀ a b : Nat, ucmp a b < 0 ↔ a < b := fun a b => by
    unfold ucmp
    split
    · omega
    · split <;> omega
  constructor
  · intro h j hj
    have := h j (List.mem_range.2 (by omega))
    simpa [e] using this
  · intro h j hj
    have := h j (by have := List.mem_range.1 hj; omega)
    simpa [e] using this
set_option maxHeartbeats 4000000 in
theorem qvalidHashes_any (v : Value) (s : Sk) (n : Int) (w : World) (hk : IsK w v s) (hh : s.hs.length ≤ 1000000) :
    Calls Tryz.prog 68 #[v, .int .i64 n] w fun e w' => e = .returned (.bool (validHB n s.hs s.ok)) ∧ Grows w w' := by
  obtain ⟨A1, A2, A3, A4, c1, c2, c3, c4, rfl, h1, -, -, -⟩ := hk
  have HG0 := hidden (show Grows w (w.alloc (.cells #[.int .i64 s.rows, .int .i64 s.nulls, .slice A1 s.hs.length c1, .bool s.ok, .slice A2 s.cm.length c2, .slice A3 s.fs.length c3, .slice A4 s.rk.length c4] 29)) from growK _ _)
  have HI := hidden (qincU_any (.slice A1 s.hs.length c1) s.hs (fun i => ucmp (s.hs.getD i 0) (s.hs.getD (i + 1) 0)) (w.alloc (.cells #[.int .i64 s.rows, .int .i64 s.nulls, .slice A1 s.hs.length c1, .bool s.ok, .slice A2 s.cm.length c2, .slice A3 s.fs.length c3, .slice A4 s.rk.length c4] 29)) (h1.grow HG0.out) hh (fun _ => rfl))
  have HA := hidden (adjU_iff s.hs)
  generalize adjB (fun i => ucmp (s.hs.getD i 0) (s.hs.getD (i + 1) 0)) s.hs.length = adj at *
  have HVB := hidden (show ∀ p : Bool, (p = true ↔ validHP n s.hs s.ok) → validHB n s.hs s.ok = p from fun p hp => by
    cases p with
    | true => exact validHB_t (hp.1 rfl)
    | false => exact validHB_f (fun h => by have := hp.2 h; simp at this))
  generalize validHB n s.hs s.ok = out at *
  clear h1
  obtain ⟨L, hL⟩ : ∃ L, L = s.hs.length := ⟨_, rfl⟩
  rw [← hL] at HI HA HG0 ⊢
  generalize s.ok = ok at *
  unfold validHP incP at HVB
  rw [← hL] at HVB
  have HVB2 := hidden (show (out = (decide (L ≤ 32) && decide ((L : Int) ≤ n) && (!decide (0 < n) || decide (L ≠ 0)) && (ok || decide (L = 32)) && adj)) from HVB.out _ (by
    have h := HA.out
    simp only [Bool.and_eq_true, decide_eq_true_eq, Bool.or_eq_true, Bool.not_eq_true', decide_eq_false_iff_not]
    rw [h]
    constructor
    · rintro ⟨⟨⟨⟨h1, h2⟩, h3⟩, h4⟩, h5⟩
      exact ⟨h1, h2, fun hn => h3.resolve_left (fun h => h hn), h4, h5⟩
    · rintro ⟨h1, h2, h3, h4, h5⟩
      refine ⟨⟨⟨⟨h1, h2⟩, ?_⟩, h4⟩, h5⟩
      by_cases hn : 0 < n
      · exact .inr (h3 hn)
      · exact .inl hn))
  clear HVB HA hL
  by_cases hm : min n 32 < (L : Int)
  · have d1 : decide (min n 32 < (L : Int)) = true := by simpa using hm
    have HO := hidden (show out = false by
      rw [HVB2.out]
      rcases Nat.lt_or_ge 32 L with h | h
      · rw [decide_eq_false (show ¬ L ≤ 32 by omega)]; simp
      · rw [decide_eq_false (show ¬ (L : Int) ≤ n by omega)]; simp)
    clear HVB2
    go_enter Tryz.func68, Tryz.ntmps68
    go_wp2_with (go_at_call 122; refine (HI.out).mono ?_; rintro e w2 ⟨rfl, g2⟩; have HG2 := hidden (HG0.out.of_below g2); clear g2)
    go_ret
    exact ⟨by rw [HO.out]; first | done | rfl, by first | exact HG0.out | exact HG2.out⟩
  have d1 : decide (min n 32 < (L : Int)) = false := by simpa using hm
  have h32 : L ≤ 32 := by omega
  have hLn : (L : Int) ≤ n := by omega
  by_cases h0 : L = 0
  · subst h0
    by_cases hn : 0 < n
    · have d2 : decide (0 < n) = true := by simpa using hn
      have HO := hidden (show out = false by rw [HVB2.out, d2]; simp)
      clear HVB2
      go_enter Tryz.func68, Tryz.ntmps68
      go_wp2_with (go_at_call 122; refine (HI.out).mono ?_; rintro e w2 ⟨rfl, g2⟩; have HG2 := hidden (HG0.out.of_below g2); clear g2)
      go_ret
      exact ⟨by rw [HO.out]; first | done | rfl, by first | exact HG0.out | exact HG2.out⟩
    · have d2 : decide (0 < n) = false := by simpa using hn
      cases ok with
      | true =>
        have HO := hidden (show out = adj by rw [HVB2.out, d2, decide_eq_true hLn]; simp)
        clear HVB2
        go_enter Tryz.func68, Tryz.ntmps68
        go_wp2_with (go_at_call 122; refine (HI.out).mono ?_; rintro e w2 ⟨rfl, g2⟩; have HG2 := hidden (HG0.out.of_below g2); clear g2)
        go_ret
        exact ⟨by rw [HO.out]; first | done | rfl, by first | exact HG2.out | exact HG0.out⟩
      | false =>
        have HO := hidden (show out = false by rw [HVB2.out]; simp)
        clear HVB2
        go_enter Tryz.func68, Tryz.ntmps68
        go_wp2_with (go_at_call 122; refine (HI.out).mono ?_; rintro e w2 ⟨rfl, g2⟩; have HG2 := hidden (HG0.out.of_below g2); clear g2)
        go_ret
        exact ⟨by rw [HO.out]; first | done | rfl, by first | exact HG0.out | exact HG2.out⟩
  · have d2 : (L == 0) = false := by simpa using h0
    have d3 : ((L : Int) == 0) = false := by simp; omega
    cases ok with
    | true =>
      have HO := hidden (show out = adj by rw [HVB2.out, decide_eq_true hLn, decide_eq_true h32, decide_eq_true (show L ≠ 0 from h0)]; simp)
      clear HVB2
      go_enter Tryz.func68, Tryz.ntmps68
      go_wp2_with (go_at_call 122; refine (HI.out).mono ?_; rintro e w2 ⟨rfl, g2⟩; have HG2 := hidden (HG0.out.of_below g2); clear g2)
      go_ret
      exact ⟨by rw [HO.out]; first | done | rfl, by first | exact HG2.out | exact HG0.out⟩
    | false =>
      by_cases he : L = 32
      · subst he
        have HO := hidden (show out = adj by rw [HVB2.out, decide_eq_true hLn]; simp)
        clear HVB2
        go_enter Tryz.func68, Tryz.ntmps68
        go_wp2_with (go_at_call 122; refine (HI.out).mono ?_; rintro e w2 ⟨rfl, g2⟩; have HG2 := hidden (HG0.out.of_below g2); clear g2)
        go_ret
        exact ⟨by rw [HO.out]; first | done | rfl, by first | exact HG2.out | exact HG0.out⟩
      · have d4 : (L == 32) = false := by simpa using he
        have d5 : ((L : Int) == 32) = false := by simp; omega
        have HO := hidden (show out = false by rw [HVB2.out, decide_eq_false he]; simp)
        clear HVB2
        go_enter Tryz.func68, Tryz.ntmps68
        go_wp2_with (go_at_call 122; refine (HI.out).mono ?_; rintro e w2 ⟨rfl, g2⟩; have HG2 := hidden (HG0.out.of_below g2); clear g2)
        go_ret
        exact ⟨by rw [HO.out]; first | done | rfl, by first | exact HG0.out | exact HG2.out⟩
end Go.Proofs.YtoaklmceejeblaaGreat
/-
  Shaken: what the claims of this seat need of this text. No condition.
-/
namespace Go.Proofs.YtoaklmceejeblaaGreat
set_option maxRecDepth 8000
open Go.RowKit
set_option linter.unusedVariables false
set_option linter.unusedSimpArgs false
def prvP (rk : List Int) (i : Nat) : Int := if i = 0 then 0 else rk.getD (2 * i - 2) 0
def prvQ (rk : List Int) (i : Nat) : Int := if i = 0 then 0 else rk.getD (2 * i - 1) 0
def rkOk (rk : List Int) (n : Int) (i : Nat) : Prop := max (prvP rk i) (prvQ rk i) ≤ rk.getD (2 * i) 0 ∧ prvQ rk i ≤ rk.getD (2 * i + 1) 0 ∧ rk.getD (2 * i) 0 ≤ n ∧ (i = 0 → rk.getD (2 * i) 0 ≤ 0)
def vrkP (n : Int) (rk : List Int) (m : Nat) : Prop := rk.length = 2 * m ∧ (∀ i, i < m → rkOk rk n i) ∧ prvQ rk m = n
open Classical in
noncomputable def vrkB (n : Int) (rk : List Int) (m : Nat) : Bool := decide (vrkP n rk m)
theorem vrkB_t {n : Int} {rk : List Int} {m : Nat} (h : vrkP n rk m) : vrkB n rk m = true := by unfold vrkB; simpa using h
theorem vrkB_f {n : Int} {rk : List Int} {m : Nat} (h : ¬ vrkP n rk m) : vrkB n rk m = false := by unfold vrkB; simpa using h
def VrkRel (W : World) (rk : List Int) (n : Int) (m : Nat) (p q i : Value) (wr : World) : Prop := ∃ k : Nat, k ≤ m ∧ i = .int .i64 (k : Int) ∧ p = .int .i64 (prvP rk k) ∧ q = .int .i64 (prvQ rk k) ∧ (∀ j, j < k → rkOk rk n j) ∧ Grows W wr
set_option maxHeartbeats 8000000 in
theorem qvalidRanks_any (v : Value) (s : Sk) (n : Int) (w : World) (hk : IsK w v s) (hl : s.fs.length ≤ 100000) (hrl : s.rk.length ≤ 1000000) :
    Calls Tryz.prog 71 #[v, .int .i64 n] w fun e w' => e = .returned (.bool (vrkB n s.rk s.fs.length)) ∧ Grows w w' := by
  obtain ⟨A1, A2, A3, A4, c1, c2, c3, c4, rfl, -, -, -, h4⟩ := hk
  obtain ⟨W0, hW0⟩ : ∃ W, W = (w.alloc (.cells #[.int .i64 s.rows, .int .i64 s.nulls, .slice A1 s.hs.length c1, .bool s.ok, .slice A2 s.cm.length c2, .slice A3 s.fs.length c3, .slice A4 s.rk.length c4] 29)) := ⟨_, rfl⟩
  have HW := hidden hW0
  have HG0 := hidden (show Grows w W0 by rw [hW0]; exact growK _ _)
  have HS0 := hidden (show Row W0 w.heap.size 29 [.int .i64 s.rows, .int .i64 s.nulls, .slice A1 s.hs.length c1, .bool s.ok, .slice A2 s.cm.length c2, .slice A3 s.fs.length c3, .slice A4 s.rk.length c4] by rw [hW0]; exact skrow_new _ _ _ _ _ _ _ _)
  have H4 := hidden (fun X (h : Grows W0 X) => h4.grow (HG0.out.of_below h))
  have HVT := hidden (fun h : vrkP n s.rk s.fs.length => vrkB_t h)
  have HVF := hidden (fun h : ¬ vrkP n s.rk s.fs.length => vrkB_f h)
  have HRK := hidden (show s.rk = s.rk from rfl)
  generalize vrkB n s.rk s.fs.length = out at *
  obtain ⟨m, hm⟩ : ∃ m, m = s.fs.length := ⟨_, rfl⟩
  obtain ⟨L, hL⟩ : ∃ L, L = s.rk.length := ⟨_, rfl⟩
  rw [← hm] at HVT HVF HS0 HW hl ⊢
  rw [← hL] at HS0 HW hrl ⊢
  have HL := hidden hL
  have hwm : wrap64 (2 * (m : Int)) = 2 * (m : Int) := by unfold wrap64; omega
  have hwm2 : IntKind.i64.wrap (2 * (m : Int)) = 2 * (m : Int) := by rw [IntKind.wrap_i64]; omega
  clear h4 hW0 hm hL
  by_cases hlen : L = 2 * m
  case neg =>
    have HO := hidden (HVF.out (fun h => hlen (HL.out.trans h.1)))
    have d1 : (L == 2 * m) = false := by simpa using hlen
    have d2 : ((L : Int) == 2 * (m : Int)) = false := by simp; omega
    have d3 : ¬ (L : Int) = 2 * (m : Int) := by omega
    clear hlen HVT HVF
    go_enter Tryz.func71, Tryz.ntmps71
    go_wp2_with fail
    go_ret
    exact ⟨by rw [HO.out]; first | done | rfl, by rw [← HW.out]; exact HG0.out⟩
  case pos =>
    have d1 : (L == 2 * m) = true := by simpa using hlen
    have d2 : ((L : Int) == 2 * (m : Int)) = true := by simp; omega
    have d3 : (L : Int) = 2 * (m : Int) := by omega
    have HLM := hidden hlen
    clear hlen
    go_enter Tryz.func71, Tryz.ntmps71
    go_wp2_with fail
    rw [← HW.out]
    clear d1 d2 d3 hwm hwm2
    go_loopw [5, 6, 7, 8, 9, 21] (fun p q _ _ _ i wr => VrkRel W0 s.rk n m p q i wr) (fun _ _ _ _ _ i _ => m - (intOf i).toNat)
    case atStart => exact ⟨0, Nat.zero_le _, rfl, rfl, rfl, fun j hj => absurd hj (by omega), Below.refl _ _⟩
    case round =>
      obtain ⟨k, hk, rfl, rfl, rfl, hok, hb⟩ := hrel
      have HB := hidden hb
      have HOK := hidden hok
      clear hb hok
      by_cases hlt : k < m
      · have HLT := hidden hlt
        have hd : decide (k < m) = true := by simpa using hlt
        have hd2 : decide ((k : Int) < (m : Int)) = true := by simpa using hlt
        obtain ⟨A', c', he, _, hcell⟩ := H4.out wr HB.out
        rw [icells_length, ← HL.out] at he
        injection he with e1 e2 e3
        subst e1 e3
        obtain ⟨bb, off, rfl, hcell2⟩ := hcell (by rw [icells_length, ← HL.out, HLM.out]; omega)
        have hi1 : 2 * k < s.rk.length := by rw [← HL.out, HLM.out]; omega
        have hi2 : 2 * k + 1 < s.rk.length := by rw [← HL.out, HLM.out]; omega
        have g1 := hcell2 (2 * k) (by rw [icells_length]; exact hi1)
        have g2 := hcell2 (2 * k + 1) (by rw [icells_length]; exact hi2)
        rw [icells_get hi1] at g1
        rw [icells_get hi2] at g2
        have ex : s.rk.getD (2 * k) 0 = s.rk[2 * k] := by rw [List.getD_eq_getElem?_getD, List.getElem?_eq_getElem hi1]; rfl
        have ey : s.rk.getD (2 * k + 1) 0 = s.rk[2 * k + 1] := by rw [List.getD_eq_getElem?_getD, List.getElem?_eq_getElem hi2]; rfl
        have HPP := hidden (show prvP s.rk (k + 1) = s.rk.getD (2 * k) 0 by unfold prvP; rw [if_neg (by omega), show 2 * (k + 1) - 2 = 2 * k by omega])
        have HQQ := hidden (show prvQ s.rk (k + 1) = s.rk.getD (2 * k + 1) 0 by unfold prvQ; rw [if_neg (by omega), show 2 * (k + 1) - 1 = 2 * k + 1 by omega])
        have HRO := hidden (show rkOk s.rk n k ↔ (max (prvP s.rk k) (prvQ s.rk k) ≤ s.rk.getD (2 * k) 0 ∧ prvQ s.rk k ≤ s.rk.getD (2 * k + 1) 0 ∧ s.rk.getD (2 * k) 0 ≤ n ∧ (k = 0 → s.rk.getD (2 * k) 0 ≤ 0)) from Iff.rfl)
        rw [ex] at HPP HRO
        rw [ey] at HQQ HRO
        generalize s.rk[2 * k] = x at *
        generalize s.rk[2 * k + 1] = y at *
        generalize prvP s.rk k = p at *
        generalize prvQ s.rk k = q at *
        have HY := hidden (fun X (h : Grows wr X) => show X.cell? ⟨w.heap.size, 6, none⟩ = some (.slice (some ⟨bb, off, none⟩) L c4) ∧ X.cell? ⟨bb, off + 2 * k, none⟩ = some (.int .i64 x) ∧ X.cell? ⟨bb, off + (2 * k + 1), none⟩ = some (.int .i64 y) from ⟨(HS0.out.grow (HB.out.of_below h)).cell 6, (h.cell (World.block_lt_of_cell? _ _ g1)).trans g1, (h.cell (World.block_lt_of_cell? _ _ g2)).trans g2⟩)
        have HFL := hidden (fun (h : ¬ rkOk s.rk n k) => HVF.out (fun hv => h (hv.2.1 k HLT.out)))
        have b0 : (0 : Int) ≤ 2 * (k : Int) := by omega
        have b1 : 2 * (k : Int) < (L : Int) := by have := HLM.out; omega
        have b2 : 2 * (k : Int) + 1 < (L : Int) := by have := HLM.out; omega
        have b3 : (0 : Int) ≤ 2 * (k : Int) + 1 := by omega
        have b4 : IntKind.i64.wrap (2 * (k : Int)) = 2 * (k : Int) := by rw [IntKind.wrap_i64]; omega
        have b5 : IntKind.i64.wrap (2 * (k : Int) + 1) = 2 * (k : Int) + 1 := by rw [IntKind.wrap_i64]; omega
        have b6 : (2 * (k : Int)).toNat = 2 * k := by omega
        have b7 : (2 * (k : Int) + 1).toNat = 2 * k + 1 := by omega
        clear hcell hcell2 e2 hi1 hi2 g1 g2 ex ey
        go_wp2_with fail
        refine wp_region_loose (tabRs []) (by kernel_rfl) (by kernel_rfl) tabRs_nil ?_
        iterate 15 ((with_reducible refine loose_one (v := ?_) (a' := ?_) ?_ ?_ (fun w' hC' hG' => ?_) ?_ ?_); rotate_left 2; (focus rfl); (focus rfl); (focus (obtain ⟨p6, k1, k2⟩ := HY.out w' hC'; clear hC' hG'; go_simp; rfl)); (focus (go_simp; rfl)))
        refine loose_done (fun w5 hC5 hG5 => ?_)
        have HB5 := hidden (HB.out.of_below hC5)
        clear hC5 hG5 b0 b1 b2 b3 b4 b5 b6 b7
        by_cases hf1 : x < max p q
        · have f1 : decide (x < max p q) = true := decide_eq_true hf1
          have HO := hidden (HFL.out (fun h => by have := (HRO.out.1 h).1; omega))
          clear hf1 hlt hk
          go_wp2_with fail
          go_ret
          exact ⟨by rw [HO.out]; first | done | rfl, HG0.out.of_below HB5.out⟩
        have f1 : decide (x < max p q) = false := decide_eq_false hf1
        by_cases hf2 : y < q
        · have f2 : decide (y < q) = true := decide_eq_true hf2
          have HO := hidden (HFL.out (fun h => by have := (HRO.out.1 h).2.1; omega))
          clear hf2 hf1 hlt hk
          go_wp2_with fail
          go_ret
          exact ⟨by rw [HO.out]; first | done | rfl, HG0.out.of_below HB5.out⟩
        have f2 : decide (y < q) = false := decide_eq_false hf2
        by_cases hf3 : n < x
        · have f3 : decide (n < x) = true := decide_eq_true hf3
          have HO := hidden (HFL.out (fun h => by have := (HRO.out.1 h).2.2.1; omega))
          clear hf3 hf2 hf1 hlt hk
          go_wp2_with fail
          go_ret
          exact ⟨by rw [HO.out]; first | done | rfl, HG0.out.of_below HB5.out⟩
        have f3 : decide (n < x) = false := decide_eq_false hf3
        by_cases h0 : k = 0
        · by_cases hx0 : 0 < x
          · have f4 : decide (0 < x) = true := decide_eq_true hx0
            have f5 : (k == 0) = true := by simpa using h0
            have f6 : ((k : Int) == 0) = true := by simp; omega
            have HO := hidden (HFL.out (fun h => by have := (HRO.out.1 h).2.2.2 h0; omega))
            clear hx0 h0 hf3 hf2 hf1 hlt hk
            go_wp2_with fail
            go_ret
            exact ⟨by rw [HO.out]; first | done | rfl, HG0.out.of_below HB5.out⟩
          · have f4 : decide (0 < x) = false := decide_eq_false hx0
            have f5 : (k == 0) = true := by simpa using h0
            have f6 : ((k : Int) == 0) = true := by simp; omega
            have HN := hidden (show ∀ j, j < k + 1 → rkOk s.rk n j from fun j hj => by
              rcases Nat.lt_succ_iff_lt_or_eq.1 hj with h | h
              · exact HOK.out j h
              · rw [h]; exact HRO.out.2 ⟨by omega, by omega, by omega, fun _ => by omega⟩)
            clear hx0 h0 hf1 hf2 hf3 HRO HFL
            go_wp2_with fail
            go_roundw
            case rel => exact ⟨k + 1, HLT.out, by go_num, by rw [HPP.out], by rw [HQQ.out], HN.out, HB5.out⟩
            case measure => have := HLT.out; simp [intOf]; omega
        · have f5 : (k == 0) = false := by simpa using h0
          have f6 : ((k : Int) == 0) = false := by simp; omega
          have HN := hidden (show ∀ j, j < k + 1 → rkOk s.rk n j from fun j hj => by
            rcases Nat.lt_succ_iff_lt_or_eq.1 hj with h | h
            · exact HOK.out j h
            · rw [h]; exact HRO.out.2 ⟨by omega, by omega, by omega, fun h => absurd h h0⟩)
          clear h0 hf1 hf2 hf3 HRO HFL
          go_wp2_with fail
          go_roundw
          case rel => exact ⟨k + 1, HLT.out, by go_num, by rw [HPP.out], by rw [HQQ.out], HN.out, HB5.out⟩
          case measure => have := HLT.out; simp [intOf]; omega
      · have hd : decide (k < m) = false := by simpa using hlt
        have hd2 : decide ((k : Int) < (m : Int)) = false := by simpa using hlt
        have hke : k = m := by omega
        subst hke
        by_cases hq : prvQ s.rk k = n
        · have HO := hidden (HVT.out ⟨by rw [← HL.out]; exact HLM.out, HOK.out, hq⟩)
          have d1 : (prvQ s.rk k == n) = true := by simpa using hq
          clear hq hk hlt
          generalize prvQ s.rk k = q at *
          go_wp2_with fail
          go_ret
          exact ⟨by rw [HO.out]; first | done | rfl | simp [d1], HG0.out.of_below HB.out⟩
        · have HO := hidden (HVF.out (fun h => hq h.2.2))
          have d1 : (prvQ s.rk k == n) = false := by simpa using hq
          clear hq hk hlt
          generalize prvQ s.rk k = q at *
          go_wp2_with fail
          go_ret
          exact ⟨by rw [HO.out]; first | done | rfl | simp [d1], HG0.out.of_below HB.out⟩
end Go.Proofs.YtoaklmceejeblaaGreat
/-
  Shaken: what the claims of this seat need of this text. No condition.
-/
namespace Go.Proofs.YtoaklmceejeblaaGreat
set_option maxRecDepth 8000
open Go.RowKit
set_option linter.unusedVariables false
set_option linter.unusedSimpArgs false
def fnOk (f : Val) (k0 : Int) : Prop := f.k ≠ 0 ∧ f.k = k0 ∧ validV f.k f.n f.t = true
def vfnP (n : Int) (fs : List Val) : Prop := fs.length ≤ 17 ∧ (fs.length = 0 ↔ n = 0) ∧ (∀ (i : Nat) (f : Val), fs[i]? = some f → fnOk f (kindK fs)) ∧ adjB (fun i => lcX (fs.getD i ⟨0, 0, .empty⟩) (fs.getD (i + 1) ⟨0, 0, .empty⟩)) fs.length = true
open Classical in
noncomputable def vfnB (n : Int) (fs : List Val) : Bool := decide (vfnP n fs)
theorem vfnB_t {n : Int} {fs : List Val} (h : vfnP n fs) : vfnB n fs = true := by unfold vfnB; simpa using h
theorem vfnB_f {n : Int} {fs : List Val} (h : ¬ vfnP n fs) : vfnB n fs = false := by unfold vfnB; simpa using h
def VfnRel (w : World) (fs : List Val) (i : Value) (wr : World) : Prop := ∃ k : Nat, k ≤ fs.length ∧ i = .int .i64 (k : Int) ∧ (∀ (j : Nat) (f : Val), j < k → fs[j]? = some f → fnOk f (kindK fs)) ∧ Grows w wr
set_option maxHeartbeats 8000000 in
theorem qvalidFences_any (v : Value) (fs : List Val) (n : Int) (w : World) (hv : ReadsV w v fs) (hl : fs.length ≤ 100000) :
    Calls Tryz.prog 70 #[v, .int .i64 n] w fun e w' => e = .returned (.bool (vfnB n fs)) ∧ Grows w w' := by
  have HV := hidden (fun X (h : Grows w X) => hv.grow h)
  have HI := hidden (fun X (h : Grows w X) => qincV_any v fs (fun i => lcX (fs.getD i ⟨0, 0, .empty⟩) (fs.getD (i + 1) ⟨0, 0, .empty⟩)) X (hv.grow h) (by omega) (fun _ => rfl))
  have HVT := hidden (fun h : vfnP n fs => vfnB_t h)
  have HVF := hidden (fun h : ¬ vfnP n fs => vfnB_f h)
  generalize vfnB n fs = out at *
  obtain ⟨A, c, rfl, -⟩ := id hv
  clear hv
  by_cases h17 : 17 < fs.length
  · have HO := hidden (HVF.out (fun h => by have := h.1; omega))
    have d1 : decide (17 < fs.length) = true := by simpa using h17
    have d2 : decide ((17 : Int) < (fs.length : Int)) = true := decide_eq_true (by omega)
    generalize fs.length = L at *
    go_enter Tryz.func70, Tryz.ntmps70
    go_wp2_with fail
    go_ret
    exact ⟨by rw [HO.out]; first | done | rfl, Below.refl _ _⟩
  have d1 : decide (17 < fs.length) = false := by simpa using h17
  have d2 : decide ((17 : Int) < (fs.length : Int)) = false := decide_eq_false (by omega)
  by_cases hz : (fs.length = 0 ↔ n = 0)
  case neg =>
    have HO := hidden (HVF.out (fun h => hz h.2.1))
    by_cases hL : fs.length = 0
    · have hn : n ≠ 0 := fun h => hz (iff_of_true hL h)
      have e1 : (n == 0) = false := by simpa using hn
      have e2 : (fs.length == 0) = true := by simpa using hL
      have e3 : ((fs.length : Int) == 0) = true := by rw [hL]; rfl
      generalize fs.length = L at *
      go_enter Tryz.func70, Tryz.ntmps70
      go_wp2_with fail
      go_ret
      exact ⟨by rw [HO.out]; first | done | rfl, Below.refl _ _⟩
    · have hn : n = 0 := Decidable.byContradiction fun h => hz (iff_of_false hL h)
      have e1 : (n == 0) = true := by simpa using hn
      have e2 : (fs.length == 0) = false := by simpa using hL
      have e3 : ((fs.length : Int) == 0) = false := beq_eq_false_iff_ne.2 (by omega)
      generalize fs.length = L at *
      go_enter Tryz.func70, Tryz.ntmps70
      go_wp2_with fail
      go_ret
      exact ⟨by rw [HO.out]; first | done | rfl, Below.refl _ _⟩
  case pos =>
    have HZ := hidden hz
    have e1 : (n == 0) = (fs.length == 0) := by
      by_cases h : fs.length = 0
      · rw [beq_iff_eq.2 h, beq_iff_eq.2 (hz.1 h)]
      · rw [beq_eq_false_iff_ne.2 h, beq_eq_false_iff_ne.2 (fun h2 => h (hz.2 h2))]
    have e2 : ((fs.length : Int) == 0) = (fs.length == 0) := by
      by_cases h : fs.length = 0
      · rw [h]; rfl
      · rw [beq_eq_false_iff_ne.2 h]; exact beq_eq_false_iff_ne.2 (by omega)
    have H17 := hidden h17
    clear hz h17
    go_enter Tryz.func70, Tryz.ntmps70
    go_wp2_with fail
    clear e1 e2 d1 d2
    go_loopw [6, 20] (fun _ i wr => VfnRel w fs i wr) (fun _ i _ => fs.length - (intOf i).toNat)
    case atStart => exact ⟨0, Nat.zero_le _, rfl, fun j f hj => absurd hj (by omega), Below.refl _ _⟩
    case round =>
      obtain ⟨k, hk, rfl, hok, hb⟩ := hrel
      have HB := hidden hb
      have HOK := hidden hok
      clear hb hok
      by_cases hlt : k < fs.length
      · have HLT := hidden hlt
        have hd : decide (k < fs.length) = true := by simpa using hlt
        have hd2 : decide ((k : Int) < (fs.length : Int)) = true := by simpa using hlt
        have hk0 : (0 : Int) ≤ (k : Int) := by omega
        have hk2 : (k : Int) < (fs.length : Int) := by omega
        have hk3 : (0 : Int) < (fs.length : Int) := by omega
        have hk4 : 0 < fs.length := by omega
        obtain ⟨A', c', he, _, hcell⟩ := HV.out wr HB.out
        injection he with e1 e2 e3
        subst e1 e3
        obtain ⟨bb, off, rfl, hcell2⟩ := hcell (by omega)
        obtain ⟨f, hf⟩ : ∃ f, fs[k]? = some f := ⟨_, List.getElem?_eq_getElem hlt⟩
        obtain ⟨g, hg0⟩ : ∃ g, fs[0]? = some g := ⟨_, List.getElem?_eq_getElem (by omega)⟩
        have HKK := hidden (show kindK fs = g.k by
          cases hfs : fs with
          | nil => rw [hfs] at hg0; simp at hg0
          | cons a r => rw [hfs] at hg0; simp at hg0; rw [hg0]; rfl)
        have a0 := (hcell2 0 g hg0).1
        rw [Nat.zero_mul, Nat.add_zero] at a0
        obtain ⟨a1, a2, a3⟩ := hcell2 k f hf
        have HB1 := hidden (HB.out.of_below (growK wr (.cells #[.int .i64 f.k, .int .i64 f.n, .string f.t] 35)))
        have HRW := hidden (Row.new wr 35 #[.int .i64 f.k, .int .i64 f.n, .string f.t] [.int .i64 f.k, .int .i64 f.n, .string f.t] rfl)
        have HX := hidden (fun X (h : Grows (wr.alloc (.cells #[.int .i64 f.k, .int .i64 f.n, .string f.t] 35)) X) => show X.cell? ⟨wr.heap.size, 0, none⟩ = some (.int .i64 f.k) ∧ X.cell? ⟨wr.heap.size, 1, none⟩ = some (.int .i64 f.n) ∧ X.cell? ⟨wr.heap.size, 2, none⟩ = some (.string f.t) ∧ X.cell? ⟨bb, off, none⟩ = some (.int .i64 g.k) from ⟨(HRW.out.grow h).cell 0, (HRW.out.grow h).cell 1, (HRW.out.grow h).cell 2, by
          have hh := (growK wr (.cells #[.int .i64 f.k, .int .i64 f.n, .string f.t] 35)).of_below h
          exact (hh.cell (World.block_lt_of_cell? _ _ a0)).trans a0⟩)
        have HFF := hidden hf
        have HFL := hidden (fun (h : ¬ fnOk f g.k) => HVF.out (fun hv => h (by rw [← HKK.out]; exact hv.2.2.1 k f hf)))
        have HNU := hidden (fun X => const_loose16 (qisNull_any f.k f.n f.t X))
        have HVA := hidden (fun X => const_loose16 (lvalid_any f.k f.n f.t X))
        clear hcell hcell2 e2 hf hg0 a0
        by_cases hk1 : f.k = 0
        · have b1 : (f.k == 0) = true := by simpa using hk1
          have HO := hidden (HFL.out (fun h => h.1 hk1))
          rw [b1] at HNU
          clear hk1
          go_wp2_with fail
          refine wp_region_loose (tabRs [(1, ConstV (.bool true))]) (by kernel_rfl) (by kernel_rfl) (tabRs_cons ConstV.lasts tabRs_nil) ?_
          iterate 1 ((with_reducible refine loose_one (v := ?_) (a' := ?_) ?_ ?_ (fun w' hC' hG' => ?_) ?_ ?_); rotate_left 2; (focus rfl); (focus rfl); (focus (obtain ⟨k1, k2, k3, k0⟩ := HX.out w' hC'; clear hC' hG'; go_simp; rfl)); (focus (go_simp; rfl)))
          refine loose_call (R := ConstV (.bool true)) (f := 40) (args := #[.agg #[.int .i64 f.k, .int .i64 f.n, .string f.t]]) (by rfl) (by rfl) (fun _ => by go_simp) (fun w' hC' hG' => HNU.out w') ?_
          rintro _ ⟨_, _, rfl⟩
          refine ⟨?_, ?_, ?_⟩
          rotate_left
          · go_simp
            rfl
          iterate 1 ((with_reducible refine loose_one (v := ?_) (a' := ?_) ?_ ?_ (fun w' hC' hG' => ?_) ?_ ?_); rotate_left 2; (focus rfl); (focus rfl); (focus (obtain ⟨k1, k2, k3, k0⟩ := HX.out w' hC'; clear hC' hG'; go_simp; rfl)); (focus (go_simp; rfl)))
          iterate 7 ((with_reducible refine loose_skip (a' := ?_) ?_ ?_ ?_); rotate_left 1; (focus rfl); (focus (go_simp; rfl)))
          iterate 2 ((with_reducible refine loose_one (v := ?_) (a' := ?_) ?_ ?_ (fun w' hC' hG' => ?_) ?_ ?_); rotate_left 2; (focus rfl); (focus rfl); (focus (obtain ⟨k1, k2, k3, k0⟩ := HX.out w' hC'; clear hC' hG'; go_simp; rfl)); (focus (go_simp; rfl)))
          iterate 3 ((with_reducible refine loose_skip (a' := ?_) ?_ ?_ ?_); rotate_left 1; (focus rfl); (focus (go_simp; rfl)))
          iterate 1 ((with_reducible refine loose_one (v := ?_) (a' := ?_) ?_ ?_ (fun w' hC' hG' => ?_) ?_ ?_); rotate_left 2; (focus rfl); (focus rfl); (focus (obtain ⟨k1, k2, k3, k0⟩ := HX.out w' hC'; clear hC' hG'; go_simp; rfl)); (focus (go_simp; rfl)))
          refine loose_done (fun w5 hC5 hG5 => ?_)
          have HB5 := hidden (HB1.out.of_below hC5)
          clear hC5 hG5
          go_wp2_with fail
          go_ret
          exact ⟨by rw [HO.out]; first | done | rfl, HB5.out⟩
        have b1 : (f.k == 0) = false := by simpa using hk1
        rw [b1] at HNU
        by_cases hkk : f.k = g.k
        · have b2 : (f.k == g.k) = true := by simpa using hkk
          rw [← hkk] at HX
          cases hvb : validV f.k f.n f.t with
          | false =>
            rw [hvb] at HVA
            have HO := hidden (HFL.out (fun h => by have := h.2.2; rw [hvb] at this; cases this))
            clear hk1 hkk
            go_wp2_with fail
            refine wp_region_loose (tabRs [(1, ConstV (.bool false)), (13, ConstV (.bool false))]) (by kernel_rfl) (by kernel_rfl) (tabRs_cons ConstV.lasts (tabRs_cons ConstV.lasts tabRs_nil)) ?_
            iterate 1 ((with_reducible refine loose_one (v := ?_) (a' := ?_) ?_ ?_ (fun w' hC' hG' => ?_) ?_ ?_); rotate_left 2; (focus rfl); (focus rfl); (focus (obtain ⟨k1, k2, k3, k0⟩ := HX.out w' hC'; clear hC' hG'; go_simp; rfl)); (focus (go_simp; rfl)))
            refine loose_call (R := ConstV (.bool false)) (f := 40) (args := #[.agg #[.int .i64 f.k, .int .i64 f.n, .string f.t]]) (by rfl) (by rfl) (fun _ => by go_simp) (fun w' hC' hG' => HNU.out w') ?_
            rintro _ ⟨_, _, rfl⟩
            refine ⟨?_, ?_, ?_⟩
            rotate_left
            · go_simp
              rfl
            iterate 11 ((with_reducible refine loose_one (v := ?_) (a' := ?_) ?_ ?_ (fun w' hC' hG' => ?_) ?_ ?_); rotate_left 2; (focus rfl); (focus rfl); (focus (obtain ⟨k1, k2, k3, k0⟩ := HX.out w' hC'; clear hC' hG'; go_simp; rfl)); (focus (go_simp; rfl)))
            refine loose_call (R := ConstV (.bool false)) (f := 124) (args := #[.agg #[.int .i64 f.k, .int .i64 f.n, .string f.t]]) (by rfl) (by rfl) (fun _ => by go_simp) (fun w' hC' hG' => HVA.out w') ?_
            rintro _ ⟨_, _, rfl⟩
            refine ⟨?_, ?_, ?_⟩
            rotate_left
            · go_simp
              rfl
            iterate 2 ((with_reducible refine loose_one (v := ?_) (a' := ?_) ?_ ?_ (fun w' hC' hG' => ?_) ?_ ?_); rotate_left 2; (focus rfl); (focus rfl); (focus (obtain ⟨k1, k2, k3, k0⟩ := HX.out w' hC'; clear hC' hG'; go_simp; rfl)); (focus (go_simp; rfl)))
            refine loose_done (fun w5 hC5 hG5 => ?_)
            have HB5 := hidden (HB1.out.of_below hC5)
            clear hC5 hG5
            go_wp2_with fail
            go_ret
            exact ⟨by rw [HO.out]; first | done | rfl, HB5.out⟩
          | true =>
            rw [hvb] at HVA
            have HN := hidden (show ∀ (j : Nat) (f : Val), j < k + 1 → fs[j]? = some f → fnOk f (kindK fs) from fun j f' hj hf' => by
              rcases Nat.lt_succ_iff_lt_or_eq.1 hj with h | h
              · exact HOK.out j f' h hf'
              · rw [h, HFF.out] at hf'
                injection hf' with hf'
                subst hf'
                exact ⟨hk1, hkk.trans HKK.out.symm, hvb⟩)
            clear hk1 hkk
            go_wp2_with fail
            refine wp_region_loose (tabRs [(1, ConstV (.bool false)), (13, ConstV (.bool true))]) (by kernel_rfl) (by kernel_rfl) (tabRs_cons ConstV.lasts (tabRs_cons ConstV.lasts tabRs_nil)) ?_
            iterate 1 ((with_reducible refine loose_one (v := ?_) (a' := ?_) ?_ ?_ (fun w' hC' hG' => ?_) ?_ ?_); rotate_left 2; (focus rfl); (focus rfl); (focus (obtain ⟨k1, k2, k3, k0⟩ := HX.out w' hC'; clear hC' hG'; go_simp; rfl)); (focus (go_simp; rfl)))
            refine loose_call (R := ConstV (.bool false)) (f := 40) (args := #[.agg #[.int .i64 f.k, .int .i64 f.n, .string f.t]]) (by rfl) (by rfl) (fun _ => by go_simp) (fun w' hC' hG' => HNU.out w') ?_
            rintro _ ⟨_, _, rfl⟩
            refine ⟨?_, ?_, ?_⟩
            rotate_left
            · go_simp
              rfl
            iterate 11 ((with_reducible refine loose_one (v := ?_) (a' := ?_) ?_ ?_ (fun w' hC' hG' => ?_) ?_ ?_); rotate_left 2; (focus rfl); (focus rfl); (focus (obtain ⟨k1, k2, k3, k0⟩ := HX.out w' hC'; clear hC' hG'; go_simp; rfl)); (focus (go_simp; rfl)))
            refine loose_call (R := ConstV (.bool true)) (f := 124) (args := #[.agg #[.int .i64 f.k, .int .i64 f.n, .string f.t]]) (by rfl) (by rfl) (fun _ => by go_simp) (fun w' hC' hG' => HVA.out w') ?_
            rintro _ ⟨_, _, rfl⟩
            refine ⟨?_, ?_, ?_⟩
            rotate_left
            · go_simp
              rfl
            iterate 2 ((with_reducible refine loose_one (v := ?_) (a' := ?_) ?_ ?_ (fun w' hC' hG' => ?_) ?_ ?_); rotate_left 2; (focus rfl); (focus rfl); (focus (obtain ⟨k1, k2, k3, k0⟩ := HX.out w' hC'; clear hC' hG'; go_simp; rfl)); (focus (go_simp; rfl)))
            refine loose_done (fun w5 hC5 hG5 => ?_)
            have HB5 := hidden (HB1.out.of_below hC5)
            clear hC5 hG5
            go_wp2_with fail
            go_roundw
            case rel => exact ⟨k + 1, HLT.out, by go_num, HN.out, HB5.out⟩
            case measure => have := HLT.out; simp [intOf]; omega
        · have b2 : (f.k == g.k) = false := by simpa using hkk
          have b3 : (f.k != g.k) = true := by simpa using hkk
          have b4 : ¬ f.k = g.k := hkk
          have HO := hidden (HFL.out (fun h => hkk h.2.1))
          clear hk1 hkk
          go_wp2_with fail
          refine wp_region_loose (tabRs [(1, ConstV (.bool false))]) (by kernel_rfl) (by kernel_rfl) (tabRs_cons ConstV.lasts tabRs_nil) ?_
          iterate 1 ((with_reducible refine loose_one (v := ?_) (a' := ?_) ?_ ?_ (fun w' hC' hG' => ?_) ?_ ?_); rotate_left 2; (focus rfl); (focus rfl); (focus (obtain ⟨k1, k2, k3, k0⟩ := HX.out w' hC'; clear hC' hG'; go_simp; rfl)); (focus (go_simp; rfl)))
          refine loose_call (R := ConstV (.bool false)) (f := 40) (args := #[.agg #[.int .i64 f.k, .int .i64 f.n, .string f.t]]) (by rfl) (by rfl) (fun _ => by go_simp) (fun w' hC' hG' => HNU.out w') ?_
          rintro _ ⟨_, _, rfl⟩
          refine ⟨?_, ?_, ?_⟩
          rotate_left
          · go_simp
            rfl
          iterate 10 ((with_reducible refine loose_one (v := ?_) (a' := ?_) ?_ ?_ (fun w' hC' hG' => ?_) ?_ ?_); rotate_left 2; (focus rfl); (focus rfl); (focus (obtain ⟨k1, k2, k3, k0⟩ := HX.out w' hC'; clear hC' hG'; go_simp; rfl)); (focus (go_simp; rfl)))
          iterate 3 ((with_reducible refine loose_skip (a' := ?_) ?_ ?_ ?_); rotate_left 1; (focus rfl); (focus (go_simp; rfl)))
          iterate 1 ((with_reducible refine loose_one (v := ?_) (a' := ?_) ?_ ?_ (fun w' hC' hG' => ?_) ?_ ?_); rotate_left 2; (focus rfl); (focus rfl); (focus (obtain ⟨k1, k2, k3, k0⟩ := HX.out w' hC'; clear hC' hG'; go_simp; rfl)); (focus (go_simp; rfl)))
          refine loose_done (fun w5 hC5 hG5 => ?_)
          have HB5 := hidden (HB1.out.of_below hC5)
          clear hC5 hG5
          go_wp2_with fail
          go_ret
          exact ⟨by rw [HO.out]; first | done | rfl, HB5.out⟩
      · have hd : decide (k < fs.length) = false := by simpa using hlt
        have hd2 : decide ((k : Int) < (fs.length : Int)) = false := by simpa using hlt
        have HIW := hidden (HI.out wr HB.out)
        have HO := hidden (show out = adjB (fun i => lcX (fs.getD i ⟨0, 0, .empty⟩) (fs.getD (i + 1) ⟨0, 0, .empty⟩)) fs.length by
          cases ha : adjB (fun i => lcX (fs.getD i ⟨0, 0, .empty⟩) (fs.getD (i + 1) ⟨0, 0, .empty⟩)) fs.length with
          | true => exact HVT.out ⟨by have := H17.out; omega, HZ.out, fun i f hf => HOK.out i f (by have := (List.getElem?_eq_some_iff.1 hf).1; omega) hf, ha⟩
          | false => exact HVF.out (fun h => by rw [h.2.2.2] at ha; cases ha))
        generalize adjB (fun i => lcX (fs.getD i ⟨0, 0, .empty⟩) (fs.getD (i + 1) ⟨0, 0, .empty⟩)) fs.length = adj at *
        clear hlt hk
        go_wp2_with (go_at_call 125; refine (HIW.out).mono ?_; rintro e w2 ⟨rfl, g2⟩; have HG2 := hidden (HB.out.of_below g2); clear g2)
        go_ret
        exact ⟨by rw [HO.out]; first | done | rfl, HG2.out⟩
end Go.Proofs.YtoaklmceejeblaaGreat
