/-
  The walk of the law ValueEncodes: it returns true for every row of at most 2^20 values; nothing that was there is changed.
-/
import Derived.Test.YtepnegbopnepfaaDoorLw0
import Derived.Test.YtepnegbopnepfaaDoorLr2
namespace Go.Proofs.YtepnegbopnepfaaDoor
open Go.RowKit
set_option linter.unusedVariables false
set_option linter.unusedSimpArgs false

theorem lawvalid_any (v : Value) (l : List Val) (w : World) (hr : ReadsV w v l) (hl : l.length ≤ 9223372036854775806) : Calls Tryd.prog 5 #[v] w fun e w' => e = .returned (.bool (validL l)) ∧ Grows w w' := by
  have HV := hidden (rvrow_any v l w hr hl)
  generalize validL l = b at *
  obtain ⟨A, c, rfl, hle, hxx⟩ := hr
  clear hxx
  go_enter Tryd.func5, Tryd.ntmps5
  go_wp2_with fail
  refine HV.out.mono ?_
  rintro e w2 ⟨rfl, g2⟩
  have HG := hidden g2
  clear g2
  go_wp2_with fail
  go_ret
  exact ⟨rfl, HG.out⟩
/-- what is at cell ⟨0, 0⟩ stays -/
theorem cell0_grow {w w' : World} {m : Int} (h : w.cell? ⟨0, 0, none⟩ = some (.int .i64 m)) (g : Grows w w') : w'.cell? ⟨0, 0, none⟩ = some (.int .i64 m) := (g.cell (World.block_lt_of_cell? w _ h)).trans h
def ERel (w : World) (l : List Val) (i : Value) (wr : World) : Prop := ∃ j : Nat, j ≤ l.length ∧ i = .int .i64 (j : Int) ∧ Grows w wr
set_option maxHeartbeats 4000000 in
theorem law_encodes (v : Value) (l : List Val) (w : World) (m : Int) (hr : ReadsV w v l) (hl : l.length ≤ 1048576) (hbd : ∀ x ∈ l, -9223372036854775808 ≤ x.n ∧ x.n < 9223372036854775808) (hm : w.cell? ⟨0, 0, none⟩ = some (.int .i64 m)) :
    Calls Tryd.prog 3 #[v] w fun e w' => e = .returned (.bool true) ∧ Grows w w' := by
  have HR := hidden hr
  have HV := hidden (lawvalid_any v l w hr (by omega))
  have HM := hidden hm
  have HBD := hidden hbd
  have HK := hidden (fun w h vl hm => lsortkey_any v l w m h hl vl hbd hm)
  have HQ := hidden (fun w h vl => rsortkey_any v l w h hl vl hbd)
  obtain ⟨A, c, rfl, hle, hxx⟩ := hr
  clear hxx hm hbd
  cases hb : validL l
  · rw [hb] at HV
    clear hb HK HQ
    go_enter Tryd.func3, Tryd.ntmps3
    go_wp2_with fail
    refine HV.out.mono ?_
    rintro e w2 ⟨rfl, g2⟩
    have HG2 := hidden g2
    clear g2
    go_wp2_with fail
    refine (awake_any _).mono ?_
    rintro e w3 ⟨rfl, g3⟩
    have HG3 := hidden (HG2.out.of_below g3)
    clear g3
    go_wp2_with fail
    go_ret
    exact ⟨rfl, HG3.out⟩
  · rw [hb] at HV
    have HVL := hidden hb
    have HK2 := hidden (fun w h hm => HK.out w h HVL.out hm)
    have HQ2 := hidden (fun w h => HQ.out w h HVL.out)
    clear hb HK HQ
    generalize keyL l = K9 at *
    go_enter Tryd.func3, Tryd.ntmps3
    go_wp2_with fail
    refine HV.out.mono ?_
    rintro e w2 ⟨rfl, g2⟩
    have HG2 := hidden g2
    clear g2
    go_wp2_with fail
    go_loopw [3] (fun i wr => ERel w l i wr) (fun i _ => l.length - (intOf i).toNat)
    case atStart => exact ⟨0, Nat.zero_le _, rfl, HG2.out⟩
    case round =>
      obtain ⟨j, hj, rfl, hb⟩ := hrel
      have HB := hidden hb
      clear hb
      by_cases hlt : j < l.length
      · obtain ⟨A', c', he, _, hcell⟩ := HR.out.grow HB.out
        injection he with e1 e2 e3
        subst e1 e3
        obtain ⟨b, off, rfl, hcell2⟩ := hcell (by omega)
        obtain ⟨x, hx⟩ : ∃ x, l[j]? = some x := ⟨_, List.getElem?_eq_getElem hlt⟩
        have hj0 : (0 : Int) ≤ (j : Int) := by omega
        have hj1 : (j : Int) < (l.length : Int) := by omega
        have hd : decide (j < l.length) = true := by simpa using hlt
        have hv := validL_at HVL.out hx
        have hn := HBD.out x (List.mem_of_getElem? hx)
        obtain ⟨q1, q2, q3⟩ := hcell2 j x hx
        have HC : Hid (∀ w', Grows wr w' → w'.cell? ⟨b, off + j * 3, none⟩ = some (.int .i64 x.k) ∧ w'.cell? ⟨b, off + j * 3 + 1, none⟩ = some (.int .i64 x.n) ∧ w'.cell? ⟨b, off + j * 3 + 2, none⟩ = some (.string x.t)) := fun w' g =>
          ⟨(g.cell (World.block_lt_of_cell? wr _ q1)).trans q1, (g.cell (World.block_lt_of_cell? wr _ q2)).trans q2, (g.cell (World.block_lt_of_cell? wr _ q3)).trans q3⟩
        have HE := hidden (fun w => lencode_any x.k x.n x.t w hv hn.1 hn.2)
        have HF := hidden (fun w => rencodev_any x.k x.n x.t w hv hn.1 hn.2)
        obtain ⟨k, n, t⟩ := x
        simp only at HC HE HF
        generalize encV k n t = s9 at *
        clear hcell hcell2 e2 hx q1 q2 q3 hv hn
        go_wp2_with fail
        refine wp_region_loose (tabRs [(4, BytesL s9), (10, BytesL s9)]) (by kernel_rfl) (by kernel_rfl) (tabRs_cons BytesL.lasts (tabRs_cons BytesL.lasts tabRs_nil)) ?_
        iterate 4 ((with_reducible refine loose_one (v := ?_) (a' := ?_) ?_ ?_ (fun w' hC' hG' => ?_) ?_ ?_); rotate_left 2; (focus rfl); (focus rfl); (focus (obtain ⟨k1, k2, k3⟩ := HC.out w' hC'; clear hC' hG'; go_simp; rfl)); (focus (go_simp; rfl)))
        refine loose_call (R := BytesL s9) (f := 7) (args := #[.agg #[.int .i64 k, .int .i64 n, .string t]]) (by rfl) (by rfl) (fun _ => by go_simp) (fun w' hC' hG' => HE.out w') ?_
        intro v4 _
        refine ⟨?_, ?_, ?_⟩
        rotate_left
        · go_simp
          rfl
        refine loose_one (v := ?_) (a' := ?_) (by rfl) (by rfl) (fun w' hC' hG' => ?_) ?_ ?_
        rotate_left 2
        · have hr := run_string_bytes (P := Tryd.prog) (BytesL.is ((hG' 4 (by kernel_rfl)).2 rfl)) 25 5 Tryd.underlying25 Tryd.underlying5 9 Tryd.underlying9
          clear hC' hG'
          go_simp
          rfl
        · go_simp
          rfl
        iterate 4 ((with_reducible refine loose_one (v := ?_) (a' := ?_) ?_ ?_ (fun w' hC' hG' => ?_) ?_ ?_); rotate_left 2; (focus rfl); (focus rfl); (focus (obtain ⟨k1, k2, k3⟩ := HC.out w' hC'; clear hC' hG'; go_simp; rfl)); (focus (go_simp; rfl)))
        refine loose_call (R := BytesL s9) (f := 8) (args := #[.agg #[.int .i64 k, .int .i64 n, .string t]]) (by rfl) (by rfl) (fun _ => by go_simp) (fun w' hC' hG' => HF.out w') ?_
        intro v10 _
        refine ⟨?_, ?_, ?_⟩
        rotate_left
        · go_simp
          rfl
        refine loose_one (v := ?_) (a' := ?_) (by rfl) (by rfl) (fun w' hC' hG' => ?_) ?_ ?_
        rotate_left 2
        · have hr := run_string_bytes (P := Tryd.prog) (BytesL.is ((hG' 10 (by kernel_rfl)).2 rfl)) 25 5 Tryd.underlying25 Tryd.underlying5 9 Tryd.underlying9
          clear hC' hG'
          go_simp
          rfl
        · go_simp
          rfl
        iterate 1 ((with_reducible refine loose_one (v := ?_) (a' := ?_) ?_ ?_ (fun w' hC' hG' => ?_) ?_ ?_); rotate_left 2; (focus rfl); (focus rfl); (focus (obtain ⟨k1, k2, k3⟩ := HC.out w' hC'; clear hC' hG'; go_simp; rfl)); (focus (go_simp; rfl)))
        refine loose_done (fun w5 hC' hG' => ?_)
        clear hG'
        have HB5 := hidden (HB.out.of_below hC')
        clear hC'
        go_wp2_with fail
        go_roundw
        case rel => exact ⟨j + 1, by omega, by go_num, HB5.out⟩
        case measure => simp [intOf]; omega
      · have hd : decide (j < l.length) = false := by simpa using hlt
        go_wp2_with fail
        refine wp_region_loose (tabRs [(1, BytesL K9), (4, BytesL K9), (8, ConstV (.bool true))]) (by kernel_rfl) (by kernel_rfl) (tabRs_cons BytesL.lasts (tabRs_cons BytesL.lasts (tabRs_cons ConstV.lasts tabRs_nil))) ?_
        iterate 1 ((with_reducible refine loose_one (v := ?_) (a' := ?_) ?_ ?_ (fun w' hC' hG' => ?_) ?_ ?_); rotate_left 2; (focus rfl); (focus rfl); (focus (clear hC' hG'; go_simp; rfl)); (focus (go_simp; rfl)))
        refine loose_call (R := BytesL K9) (f := 9) (args := #[.slice A l.length c]) (by rfl) (by rfl) (fun _ => by go_simp) (fun w' hC' hG' => (HK2.out w' (HR.out.grow (HB.out.of_below hC')) (cell0_grow HM.out (HB.out.of_below hC'))).mono fun _ _ h => made_give h) ?_
        intro v1 _
        refine ⟨?_, ?_, ?_⟩
        rotate_left
        · go_simp
          rfl
        refine loose_one (v := ?_) (a' := ?_) (by rfl) (by rfl) (fun w' hC' hG' => ?_) ?_ ?_
        rotate_left 2
        · have hr := run_string_bytes (P := Tryd.prog) (BytesL.is ((hG' 1 (by kernel_rfl)).2 rfl)) 25 5 Tryd.underlying25 Tryd.underlying5 9 Tryd.underlying9
          clear hC' hG'
          go_simp
          rfl
        · go_simp
          rfl
        iterate 1 ((with_reducible refine loose_one (v := ?_) (a' := ?_) ?_ ?_ (fun w' hC' hG' => ?_) ?_ ?_); rotate_left 2; (focus rfl); (focus rfl); (focus (clear hC' hG'; go_simp; rfl)); (focus (go_simp; rfl)))
        refine loose_call (R := BytesL K9) (f := 10) (args := #[.slice A l.length c]) (by rfl) (by rfl) (fun _ => by go_simp) (fun w' hC' hG' => (HQ2.out w' (HR.out.grow (HB.out.of_below hC'))).mono fun _ _ h => made_give h) ?_
        intro v4 _
        refine ⟨?_, ?_, ?_⟩
        rotate_left
        · go_simp
          rfl
        refine loose_one (v := ?_) (a' := ?_) (by rfl) (by rfl) (fun w' hC' hG' => ?_) ?_ ?_
        rotate_left 2
        · have hr := run_string_bytes (P := Tryd.prog) (BytesL.is ((hG' 4 (by kernel_rfl)).2 rfl)) 25 5 Tryd.underlying25 Tryd.underlying5 9 Tryd.underlying9
          clear hC' hG'
          go_simp
          rfl
        · go_simp
          rfl
        iterate 2 ((with_reducible refine loose_one (v := ?_) (a' := ?_) ?_ ?_ (fun w' hC' hG' => ?_) ?_ ?_); rotate_left 2; (focus rfl); (focus rfl); (focus (clear hC' hG'; go_simp; rfl)); (focus (go_simp; rfl)))
        refine loose_call (R := ConstV (.bool true)) (f := 6) (args := #[]) (by rfl) (by rfl) (fun _ => by go_simp) (fun w' hC' hG' => const_loose (awake_any w')) ?_
        rintro _ ⟨_, _, rfl⟩
        refine ⟨?_, ?_, ?_⟩
        rotate_left
        · go_simp
          rfl
        iterate 2 ((with_reducible refine loose_one (v := ?_) (a' := ?_) ?_ ?_ (fun w' hC' hG' => ?_) ?_ ?_); rotate_left 2; (focus rfl); (focus rfl); (focus (clear hC' hG'; go_simp; rfl)); (focus (go_simp; rfl)))
        refine loose_done (fun w5 hC' hG' => ?_)
        clear hG'
        go_wp2_with fail
        all_goals (go_ret; exact ⟨rfl, HB.out.of_below hC'⟩)
end Go.Proofs.YtepnegbopnepfaaDoor
