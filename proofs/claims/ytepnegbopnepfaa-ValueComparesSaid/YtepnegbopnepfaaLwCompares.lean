/-
  The walk of the law ValueCompares: it returns true for every two rows; nothing that was there is changed.
-/
import Derived.Test.YtepnegbopnepfaaLwHashes
import Derived.Test.YtepnegbopnepfaaLv6
namespace Go.Proofs.Ytepnegbopnepfaa
open Go.RowKit
set_option linter.unusedVariables false
set_option linter.unusedSimpArgs false

def LCmpRel (w : World) (l m : List Val) (i : Value) (wr : World) : Prop := ∃ j : Nat, j ≤ l.length ∧ j ≤ m.length ∧ i = .int .i64 (j : Int) ∧ Grows w wr
set_option maxHeartbeats 4000000 in
theorem law_compares (v u : Value) (l m : List Val) (w : World) (hr : ReadsV w v l) (hs : ReadsV w u m) (hl : l.length ≤ 9223372036854775806) (hm : m.length ≤ 9223372036854775806) : Calls Try.prog 4 #[v, u] w fun e w' => e = .returned (.bool true) ∧ Grows w w' := by
  have HR := hidden hr
  have HQ := hidden hs
  have HV := hidden (fun w h => lawvalid_any v l w h hl)
  have HU := hidden (fun w h => lawvalid_any u m w h hm)
  obtain ⟨A, c, rfl, hle, hxx⟩ := hr
  clear hxx
  obtain ⟨A2, d, rfl, hle2, hxx⟩ := hs
  clear hxx
  cases hb : validL l
  · rw [hb] at HV
    clear hb
    go_enter Try.func4, Try.ntmps4
    go_wp2_with fail
    refine (HV.out _ HR.out).mono ?_
    rintro e w2 ⟨rfl, g2⟩
    have HG2 := hidden g2
    clear g2
    go_wp2_with fail
    refine (awake_any _).mono ?_
    rintro e w8 ⟨rfl, g8⟩
    have HG8 := hidden (HG2.out.of_below g8)
    clear g8
    go_wp2_with fail
    go_ret
    exact ⟨rfl, HG8.out⟩
  have hvl := hb
  rw [hb] at HV
  clear hb
  cases hb : validL m
  · rw [hb] at HU
    clear hb hvl
    go_enter Try.func4, Try.ntmps4
    go_wp2_with fail
    refine (HV.out _ HR.out).mono ?_
    rintro e w2 ⟨rfl, g2⟩
    have HG2 := hidden g2
    clear g2
    go_wp2_with fail
    refine (HU.out _ (HQ.out.grow HG2.out)).mono ?_
    rintro e w3 ⟨rfl, g3⟩
    have HG3 := hidden (HG2.out.of_below g3)
    clear g3
    go_wp2_with fail
    refine (awake_any _).mono ?_
    rintro e w8 ⟨rfl, g8⟩
    have HG8 := hidden (HG3.out.of_below g8)
    clear g8
    go_wp2_with fail
    go_ret
    exact ⟨rfl, HG8.out⟩
  have hvm := hb
  rw [hb] at HU
  clear hb
  have HVL := hidden hvl
  have HVM := hidden hvm
  have H1 := hidden (fun w h h' => lcmprows_any (.slice A l.length c) (.slice A2 m.length d) l m w h h' hl hm hvl hvm)
  have H2 := hidden (fun w h h' => rcmprows_any (.slice A l.length c) (.slice A2 m.length d) l m w h h' hl hm)
  generalize cmpR l m = z at *
  clear hvl hvm
  go_enter Try.func4, Try.ntmps4
  go_wp2_with fail
  refine (HV.out _ HR.out).mono ?_
  rintro e w2 ⟨rfl, g2⟩
  have HG2 := hidden g2
  clear g2
  go_wp2_with fail
  refine (HU.out _ (HQ.out.grow HG2.out)).mono ?_
  rintro e w3 ⟨rfl, g3⟩
  have HG3 := hidden (HG2.out.of_below g3)
  clear g3
  go_wp2_with fail
  refine (H1.out _ (HR.out.grow HG3.out) (HQ.out.grow HG3.out)).mono ?_
  rintro e w4 ⟨rfl, g4⟩
  have HG4 := hidden (HG3.out.of_below g4)
  clear g4
  go_wp2_with fail
  refine (H2.out _ (HR.out.grow HG4.out) (HQ.out.grow HG4.out)).mono ?_
  rintro e w5 ⟨rfl, g5⟩
  have HG5 := hidden (HG4.out.of_below g5)
  clear g5
  go_wp2_with fail
  go_loopw [5] (fun i wr => LCmpRel w l m i wr) (fun i _ => l.length - (intOf i).toNat)
  case atStart => exact ⟨0, Nat.zero_le _, Nat.zero_le _, rfl, HG5.out⟩
  case round =>
    obtain ⟨j, hj, hj2, rfl, hb⟩ := hrel
    have HB := hidden hb
    clear hb
    by_cases hlt : j < l.length ∧ j < m.length
    · obtain ⟨hl1, hl2⟩ := hlt
      obtain ⟨A', c', he, _, hcell⟩ := HR.out.grow HB.out
      injection he with e1 e2 e3
      subst e1 e3
      obtain ⟨b, off, rfl, hcell2⟩ := hcell (by omega)
      obtain ⟨A', d', he, _, hcell⟩ := HQ.out.grow HB.out
      injection he with e1 e2 e3
      subst e1 e3
      obtain ⟨b2, off2, rfl, hcell3⟩ := hcell (by omega)
      obtain ⟨x, hx⟩ : ∃ x, l[j]? = some x := ⟨_, List.getElem?_eq_getElem hl1⟩
      obtain ⟨y, hy⟩ : ∃ y, m[j]? = some y := ⟨_, List.getElem?_eq_getElem hl2⟩
      obtain ⟨c1, c2, c3⟩ := hcell2 j x hx
      obtain ⟨d1, d2, d3⟩ := hcell3 j y hy
      have HCD : Hid (∀ X, Grows wr X → X.cell? ⟨b, off + j * 3, none⟩ = some (.int .i64 x.k) ∧ X.cell? ⟨b, off + j * 3 + 1, none⟩ = some (.int .i64 x.n) ∧ X.cell? ⟨b, off + j * 3 + 2, none⟩ = some (.string x.t) ∧
          X.cell? ⟨b2, off2 + j * 3, none⟩ = some (.int .i64 y.k) ∧ X.cell? ⟨b2, off2 + j * 3 + 1, none⟩ = some (.int .i64 y.n) ∧ X.cell? ⟨b2, off2 + j * 3 + 2, none⟩ = some (.string y.t)) := fun X g =>
        ⟨(g.cell (World.block_lt_of_cell? _ _ c1)).trans c1, (g.cell (World.block_lt_of_cell? _ _ c2)).trans c2, (g.cell (World.block_lt_of_cell? _ _ c3)).trans c3,
         (g.cell (World.block_lt_of_cell? _ _ d1)).trans d1, (g.cell (World.block_lt_of_cell? _ _ d2)).trans d2, (g.cell (World.block_lt_of_cell? _ _ d3)).trans d3⟩
      have hvx := validL_at HVL.out hx
      have hvy := validL_at HVM.out hy
      have K1 := hidden (fun w => lcompare_any x.k x.n y.k y.n x.t y.t w)
      have K2 := hidden (fun w => rcompare_any x.k x.n y.k y.n x.t y.t w)
      have K3 := hidden (fun w => lequal_any x.k x.n y.k y.n x.t y.t w)
      have K4 := hidden (fun w => requal4_any x.k x.n y.k y.n x.t y.t w)
      rw [lcmpV_eq hvx hvy] at K1 K3
      generalize cmpV x.k x.n x.t y.k y.n y.t = q at *
      generalize hqq : (q == 0) = q0 at *
      have hj0 : (0 : Int) ≤ (j : Int) := by omega
      have hj1 : (j : Int) < (l.length : Int) := by omega
      have hj3 : (j : Int) < (m.length : Int) := by omega
      have hd : decide (j < l.length) = true := by simpa using hl1
      have hd2 : decide (j < m.length) = true := by simpa using hl2
      clear hcell hcell2 hcell3 e2 hx hy c1 c2 c3 d1 d2 d3 hvx hvy hqq
      go_wp2_with fail
      refine wp_region_loose (constRs [(8, .int .i64 q), (17, .int .i64 q), (28, .bool q0), (37, .bool q0)]) (by kernel_rfl) (by kernel_rfl) (constRs_lasts _) ?_
      iterate 8 ((with_reducible refine loose_one (v := ?_) (a' := ?_) ?_ ?_ (fun w' hC' hG' => ?_) ?_ ?_); rotate_left 2; (focus rfl); (focus rfl); (focus (obtain ⟨c1, c2, c3, d1, d2, d3⟩ := HCD.out w' hC'; clear hC' hG'; go_simp; rfl)); (focus (go_simp; rfl)))
      refine loose_call (R := ConstV (.int .i64 q)) (f := 17) (args := #[.agg #[.int .i64 x.k, .int .i64 x.n, .string x.t], .agg #[.int .i64 y.k, .int .i64 y.n, .string y.t]]) (by rfl) (by rfl) (fun _ => by go_simp) (fun w' hC' hG' => const_loose (K1.out w')) ?_
      rintro _ ⟨_, _, rfl⟩
      refine ⟨?_, ?_, ?_⟩
      rotate_left
      · go_simp
        rfl
      iterate 8 ((with_reducible refine loose_one (v := ?_) (a' := ?_) ?_ ?_ (fun w' hC' hG' => ?_) ?_ ?_); rotate_left 2; (focus rfl); (focus rfl); (focus (obtain ⟨c1, c2, c3, d1, d2, d3⟩ := HCD.out w' hC'; clear hC' hG'; go_simp; rfl)); (focus (go_simp; rfl)))
      refine loose_call (R := ConstV (.int .i64 q)) (f := 18) (args := #[.agg #[.int .i64 x.k, .int .i64 x.n, .string x.t], .agg #[.int .i64 y.k, .int .i64 y.n, .string y.t]]) (by rfl) (by rfl) (fun _ => by go_simp) (fun w' hC' hG' => const_loose (K2.out w')) ?_
      rintro _ ⟨_, _, rfl⟩
      refine ⟨?_, ?_, ?_⟩
      rotate_left
      · go_simp
        rfl
      iterate 10 ((with_reducible refine loose_one (v := ?_) (a' := ?_) ?_ ?_ (fun w' hC' hG' => ?_) ?_ ?_); rotate_left 2; (focus rfl); (focus rfl); (focus (obtain ⟨c1, c2, c3, d1, d2, d3⟩ := HCD.out w' hC'; clear hC' hG'; go_simp; rfl)); (focus (go_simp; rfl)))
      refine loose_call (R := ConstV (.bool q0)) (f := 19) (args := #[.agg #[.int .i64 x.k, .int .i64 x.n, .string x.t], .agg #[.int .i64 y.k, .int .i64 y.n, .string y.t]]) (by rfl) (by rfl) (fun _ => by go_simp) (fun w' hC' hG' => const_loose (K3.out w')) ?_
      rintro _ ⟨_, _, rfl⟩
      refine ⟨?_, ?_, ?_⟩
      rotate_left
      · go_simp
        rfl
      iterate 8 ((with_reducible refine loose_one (v := ?_) (a' := ?_) ?_ ?_ (fun w' hC' hG' => ?_) ?_ ?_); rotate_left 2; (focus rfl); (focus rfl); (focus (obtain ⟨c1, c2, c3, d1, d2, d3⟩ := HCD.out w' hC'; clear hC' hG'; go_simp; rfl)); (focus (go_simp; rfl)))
      refine loose_call (R := ConstV (.bool q0)) (f := 20) (args := #[.agg #[.int .i64 x.k, .int .i64 x.n, .string x.t], .agg #[.int .i64 y.k, .int .i64 y.n, .string y.t]]) (by rfl) (by rfl) (fun _ => by go_simp) (fun w' hC' hG' => const_loose (K4.out w')) ?_
      rintro _ ⟨_, _, rfl⟩
      refine ⟨?_, ?_, ?_⟩
      rotate_left
      · go_simp
        rfl
      iterate 2 ((with_reducible refine loose_one (v := ?_) (a' := ?_) ?_ ?_ (fun w' hC' hG' => ?_) ?_ ?_); rotate_left 2; (focus rfl); (focus rfl); (focus (obtain ⟨c1, c2, c3, d1, d2, d3⟩ := HCD.out w' hC'; clear hC' hG'; go_simp; rfl)); (focus (go_simp; rfl)))
      refine loose_done (fun w6 hC' hG' => ?_)
      clear hG'
      have HB2 := hidden (HB.out.of_below hC')
      clear hC'
      go_wp2_with fail
      go_roundw
      case rel => exact ⟨j + 1, by omega, by omega, by go_num, HB2.out⟩
      case measure => simp [intOf]; omega
    · by_cases hl1 : j < l.length
      · have hl2 : ¬ j < m.length := fun h => hlt ⟨hl1, h⟩
        have hd : decide (j < l.length) = true := by simpa using hl1
        have hd2 : decide (j < m.length) = false := by simpa using hl2
        clear hlt
        go_wp2_with fail
        refine (awake_any _).mono ?_
        rintro e w8 ⟨rfl, g8⟩
        have HG8 := hidden (HB.out.of_below g8)
        clear g8
        go_wp2_with fail
        go_ret
        exact ⟨rfl, HG8.out⟩
      · have hd : decide (j < l.length) = false := by simpa using hl1
        clear hlt
        go_wp2_with fail
        refine (awake_any _).mono ?_
        rintro e w8 ⟨rfl, g8⟩
        have HG8 := hidden (HB.out.of_below g8)
        clear g8
        go_wp2_with fail
        go_ret
        exact ⟨rfl, HG8.out⟩
end Go.Proofs.Ytepnegbopnepfaa
