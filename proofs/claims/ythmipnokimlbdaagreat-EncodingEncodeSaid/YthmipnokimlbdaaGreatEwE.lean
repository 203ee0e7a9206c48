/-
  Shaken: what the claims of this seat need of this text. No condition.
-/
import Derived.Test.YthmipnokimlbdaaGreatEr5
import Derived.Test.YthmipnokimlbdaaGreatM20
namespace Go.Proofs.YthmipnokimlbdaaGreat
open Go.RowKit
set_option linter.unusedVariables false
set_option linter.unusedSimpArgs false
def CostsV (v : Vec) : Value → World → Prop := fun u w => ∃ A c, u = .slice A 6 c ∧ ReadsR w u (costL v)
theorem CostsV.lasts {v : Vec} : ∀ u w w', CostsV v u w → Grows w w' → CostsV v u w' := fun _ _ _ ⟨A, c, h1, h2⟩ hg => ⟨A, c, h1, h2.grow hg⟩
theorem costs_loose {f : FuncId} {args : Array Value} {w : World} {v : Vec} (h : Calls Tryz.prog f args w fun e w' => ∃ u, e = .returned u ∧ Grows w w' ∧ ReadsR w' u (costL v)) : Calls Tryz.prog f args w fun e w' => ∃ u, e = .returned u ∧ Grows w w' ∧ CostsV v u w' :=
  h.mono fun _ _ ⟨u, he, hg, hr⟩ => ⟨u, he, hg, by obtain ⟨A, c, h⟩ := hr.slice_; rw [costL_length] at h; exact ⟨A, c, h, hr⟩⟩
def EwRel (w2 : World) (i : Value) (wr : World) : Prop := ∃ k : Nat, k ≤ 6 ∧ i = .int .i64 (k : Int) ∧ Grows w2 wr
set_option maxRecDepth 20000 in
set_option maxHeartbeats 8000000 in
theorem law_encode12 (x : Value) (v : Vec) (k : Int) (w : World) (hx : IsV w x v) (hs : Small v) :
    Calls Tryz.prog 3 #[x, .int .i64 k] w fun e w' => e = .returned (.bool true) ∧ Below w.heap.size w w' := by
  have HSM := hidden (fun W (h : Grows w W) => small12_any x v W (hx.grow h) hs)
  have HED := hidden (fun W (h : Grows w W) => rencodable_any x v W (hx.grow h) hs)
  have HLV := hidden (fun W => lives_any W)
  have HEN := hidden (fun W (h : Grows w W) => eEncode_any x v k W (hx.grow h) hs)
  have HRE := hidden (fun W (h : Grows w W) => rEncode12_any k x v W (hx.grow h) hs)
  have HCO := hidden (fun (hok : okV v = true) W (h : Grows w W) => eCosts_any x v W (hx.grow h) hs hok)
  have HCR := hidden (fun (hok : okV v = true) W (h : Grows w W) => rCosts12_any x v W (hx.grow h) hs hok)
  have HCH := hidden (fun (hok : okV v = true) W (h : Grows w W) => eChoose_any x v W (hx.grow h) hs hok)
  have HCI := hidden (fun (hok : okV v = true) W (h : Grows w W) => rChoose12_any x v W (hx.grow h) hs hok)
  obtain ⟨a1, a2, a3, rfl, i1, i2, i3⟩ := hx
  obtain ⟨A1, c1, rfl⟩ := i1.slice_
  obtain ⟨A2, c2, rfl⟩ := i2.slice_
  obtain ⟨A3, c3, rfl⟩ := i3.slice_
  obtain ⟨T, hT⟩ : ∃ T, v.T = T := ⟨_, rfl⟩
  obtain ⟨n1, hn1⟩ : ∃ n, v.is.length = n := ⟨_, rfl⟩
  obtain ⟨n2, hn2⟩ : ∃ n, v.ts.length = n := ⟨_, rfl⟩
  obtain ⟨n3, hn3⟩ : ∃ n, v.ns.length = n := ⟨_, rfl⟩
  rw [hT, hn1, hn2, hn3] at HSM HED HEN HRE HCO HCR HCH HCI ⊢
  obtain ⟨L, f, hr⟩ : ∃ L f, encFV v k = (L, f) := ⟨_, _, rfl⟩
  rw [hr] at HEN HRE
  have HG1 := hidden (growB w (.cells #[.int .i64 T, .slice A1 n1 c1, .slice A2 n2 c2, .slice A3 n3 c3] 26))
  have HR := hidden (Row.new w 26 #[.int .i64 T, .slice A1 n1 c1, .slice A2 n2 c2, .slice A3 n3 c3] [.int .i64 T, .slice A1 n1 c1, .slice A2 n2 c2, .slice A3 n3 c3] rfl)
  clear i1 i2 i3 hs hn1 hn2 hn3 hT hr
  go_enter Tryz.func3, Tryz.ntmps3
  go_wp2_with fail
  refine (HSM.out _ HG1.out).mono ?_
  rintro e w1 ⟨sm, rfl, g1⟩
  have HG2 := hidden (HG1.out.of_below g1)
  have HR2 := hidden (HR.out.grow g1)
  have x0 := HR2.out.cell 0
  have x1 := HR2.out.cell 1
  have x2 := HR2.out.cell 2
  have x3 := HR2.out.cell 3
  simp only [List.getElem?_cons_succ, List.getElem?_cons_zero] at x0 x1 x2 x3
  clear g1
  cases sm
  · go_wp2_with ((go_at_call 10; refine (HLV.out _).mono ?_; rintro e w3 ⟨rfl, g3⟩; have HG3 := hidden (HG2.out.of_below g3); clear g3))
    go_ret
    exact ⟨rfl, HG3.out⟩
  go_wp2_with fail
  refine (HEN.out _ HG2.out).mono ?_
  rintro e w3 ⟨u3, rfl, g3, hu3⟩
  obtain ⟨A4, d4, rfl, _, hby3⟩ := hu3
  have HG3 := hidden (HG2.out.of_below g3)
  have HR3 := hidden (HR2.out.grow g3)
  have HY3 := hidden hby3
  have x0 := HR3.out.cell 0
  have x1 := HR3.out.cell 1
  have x2 := HR3.out.cell 2
  have x3 := HR3.out.cell 3
  simp only [List.getElem?_cons_succ, List.getElem?_cons_zero] at x0 x1 x2 x3
  clear g3 hby3
  go_wp2_with fail
  refine (HRE.out _ HG3.out).mono ?_
  rintro e w4 ⟨u4, rfl, g4, hby4⟩
  have HG4 := hidden (HG3.out.of_below g4)
  have HR4 := hidden (HR3.out.grow g4)
  have hr1 := run_string_bytes (P := Tryz.prog) (HY3.out.grow g4) 29 5 Tryz.underlying29 Tryz.underlying5 9 Tryz.underlying9
  have hr2 := run_string_bytes (P := Tryz.prog) hby4 29 5 Tryz.underlying29 Tryz.underlying5 9 Tryz.underlying9
  have x0 := HR4.out.cell 0
  have x1 := HR4.out.cell 1
  have x2 := HR4.out.cell 2
  have x3 := HR4.out.cell 3
  simp only [List.getElem?_cons_succ, List.getElem?_cons_zero] at x0 x1 x2 x3
  clear g4 hby4
  generalize strOf L = st at *
  obtain ⟨ok, hok⟩ : ∃ b, okV v = b := ⟨_, rfl⟩
  rw [hok] at HED
  cases ok
  · clear hok
    go_wp2_with (first
      | (go_at_call 13; refine (HED.out _ HG4.out).mono ?_; rintro e w5 ⟨rfl, g5⟩; have HG5 := hidden (HG4.out.of_below g5); clear g5 hr1 hr2)
      | (go_at_call 10; refine (HLV.out _).mono ?_; rintro e w6 ⟨rfl, g6⟩; have HG6 := hidden (HG5.out.of_below g6); clear g6))
    go_ret
    exact ⟨rfl, HG6.out⟩
  have HOK := hidden hok
  clear hok
  go_wp2_with ((go_at_call 13; refine (HED.out _ HG4.out).mono ?_; rintro e w6 ⟨rfl, g5⟩; have HG6 := hidden (HG4.out.of_below g5); have HR6 := hidden (HR4.out.grow g5); clear g5 hr1 hr2 x0 x1 x2 x3))
  refine wp_region_loose (tabRs [(1, CostsV v), (3, CostsV v)]) (by kernel_rfl) (by kernel_rfl) (tabRs_cons CostsV.lasts (tabRs_cons CostsV.lasts tabRs_nil)) ?_
  iterate 1 ((with_reducible refine loose_one (v := ?_) (a' := ?_) ?_ ?_ (fun w' hC' hG' => ?_) ?_ ?_); rotate_left 2; (focus rfl); (focus rfl); (focus (have f0 := (HR6.out.grow hC').cell 0; have f1 := (HR6.out.grow hC').cell 1; have f2 := (HR6.out.grow hC').cell 2; have f3 := (HR6.out.grow hC').cell 3; simp only [List.getElem?_cons_succ, List.getElem?_cons_zero] at f0 f1 f2 f3; clear hC' hG'; go_simp; rfl)); (focus (go_simp; rfl)))
  refine loose_call (R := CostsV v) (f := 14) (args := #[.agg #[.int .i64 T, .slice A1 n1 c1, .slice A2 n2 c2, .slice A3 n3 c3]]) (by rfl) (by rfl) (fun _ => by go_simp) (fun w' hC' hG' => costs_loose (HCO.out HOK.out w' (HG6.out.of_below hC'))) ?_
  rintro _ ⟨_, _, P1, p1, rfl, _⟩
  refine ⟨?_, ?_, ?_⟩
  rotate_left
  · go_simp
    rfl
  iterate 1 ((with_reducible refine loose_one (v := ?_) (a' := ?_) ?_ ?_ (fun w' hC' hG' => ?_) ?_ ?_); rotate_left 2; (focus rfl); (focus rfl); (focus (have f0 := (HR6.out.grow hC').cell 0; have f1 := (HR6.out.grow hC').cell 1; have f2 := (HR6.out.grow hC').cell 2; have f3 := (HR6.out.grow hC').cell 3; simp only [List.getElem?_cons_succ, List.getElem?_cons_zero] at f0 f1 f2 f3; clear hC' hG'; go_simp; rfl)); (focus (go_simp; rfl)))
  refine loose_call (R := CostsV v) (f := 15) (args := #[.agg #[.int .i64 T, .slice A1 n1 c1, .slice A2 n2 c2, .slice A3 n3 c3]]) (by rfl) (by rfl) (fun _ => by go_simp) (fun w' hC' hG' => costs_loose (HCR.out HOK.out w' (HG6.out.of_below hC'))) ?_
  rintro _ ⟨_, _, P2, p2, rfl, _⟩
  refine ⟨?_, ?_, ?_⟩
  rotate_left
  · go_simp
    rfl
  iterate 2 ((with_reducible refine loose_one (v := ?_) (a' := ?_) ?_ ?_ (fun w' hC' hG' => ?_) ?_ ?_); rotate_left 2; (focus rfl); (focus rfl); (focus (clear hC' hG'; go_simp; rfl)); (focus (go_simp; rfl)))
  refine loose_done (fun w7 hC' hG' => ?_)
  obtain ⟨_, _, e1, hrA⟩ : CostsV v (.slice P1 6 p1) w7 := (hG' 1).1.2 rfl
  obtain ⟨_, _, e2, hrB⟩ : CostsV v (.slice P2 6 p2) w7 := (hG' 3).2 rfl
  obtain ⟨b1, f1, hA1, hcA⟩ := hrA.at_
  obtain ⟨b2, f2, hA2, hcB⟩ := hrB.at_
  obtain rfl := hA1 (by rw [costL_length]; omega)
  obtain rfl := hA2 (by rw [costL_length]; omega)
  have hk6 : ∀ k, k < 6 → k < (costL v).length := fun k hk => by rw [costL_length]; exact hk
  have HCA := hidden (fun W (h : Grows w7 W) (k : Nat) (hk : k < 6) => (⟨(h.cell (World.block_lt_of_cell? _ _ (hcA k (hk6 k hk)).1)).trans (hcA k (hk6 k hk)).1, (h.cell (World.block_lt_of_cell? _ _ (hcA k (hk6 k hk)).2)).trans (hcA k (hk6 k hk)).2, (h.cell (World.block_lt_of_cell? _ _ (hcB k (hk6 k hk)).1)).trans (hcB k (hk6 k hk)).1, (h.cell (World.block_lt_of_cell? _ _ (hcB k (hk6 k hk)).2)).trans (hcB k (hk6 k hk)).2⟩ :
    W.cell? ⟨b1, f1 + k * 2, none⟩ = some (.int .i64 ((costL v)[k]'(hk6 k hk)).1) ∧ W.cell? ⟨b1, f1 + k * 2 + 1, none⟩ = some (.int .i64 ((costL v)[k]'(hk6 k hk)).2) ∧ W.cell? ⟨b2, f2 + k * 2, none⟩ = some (.int .i64 ((costL v)[k]'(hk6 k hk)).1) ∧ W.cell? ⟨b2, f2 + k * 2 + 1, none⟩ = some (.int .i64 ((costL v)[k]'(hk6 k hk)).2)))
  have HG7 := hidden (HG6.out.of_below hC')
  have HR7 := hidden (HR6.out.grow hC')
  clear hG' hC' e1 e2 hrA hrB hcA hcB hA1 hA2
  go_wp2_with fail
  go_loopw [11] (fun i wr => EwRel w7 i wr) (fun i _ => 6 - (intOf i).toNat)
  case atStart => exact ⟨0, by omega, rfl, Below.refl _ _⟩
  case round =>
    obtain ⟨k, hk, rfl, hb⟩ := hrel
    have HB := hidden hb
    clear hb
    by_cases hlt : k < 6
    · obtain ⟨y0, y1, z0, z1⟩ := HCA.out wr HB.out k hlt
      generalize ((costL v)[k]'(by rw [costL_length]; exact hlt)).1 = q1 at *
      generalize ((costL v)[k]'(by rw [costL_length]; exact hlt)).2 = q2 at *
      go_wp2_with fail
      go_quiet (fail)
      go_wp2_with fail
      go_roundw
      case rel => exact ⟨k + 1, by omega, by go_num, drewN_g HB.out _⟩
      case measure => simp [intOf]; omega
    · have HR8 := hidden (HR7.out.grow HB.out)
      have HG8 := hidden (HG7.out.of_below HB.out)
      go_wp2_with fail
      refine wp_region_loose (tabRs [(1, ConstV (.int .i64 (chooseV v : Int))), (3, ConstV (.int .i64 (chooseV v : Int))), (6, ConstV (.bool true))]) (by kernel_rfl) (by kernel_rfl) (tabRs_cons ConstV.lasts (tabRs_cons ConstV.lasts (tabRs_cons ConstV.lasts tabRs_nil))) ?_
      iterate 1 ((with_reducible refine loose_one (v := ?_) (a' := ?_) ?_ ?_ (fun w' hC' hG' => ?_) ?_ ?_); rotate_left 2; (focus rfl); (focus rfl); (focus (have f0 := (HR8.out.grow hC').cell 0; have f1 := (HR8.out.grow hC').cell 1; have f2 := (HR8.out.grow hC').cell 2; have f3 := (HR8.out.grow hC').cell 3; simp only [List.getElem?_cons_succ, List.getElem?_cons_zero] at f0 f1 f2 f3; clear hC' hG'; go_simp; rfl)); (focus (go_simp; rfl)))
      refine loose_call (R := ConstV (.int .i64 (chooseV v : Int))) (f := 16) (args := #[.agg #[.int .i64 T, .slice A1 n1 c1, .slice A2 n2 c2, .slice A3 n3 c3]]) (by rfl) (by rfl) (fun _ => by go_simp) (fun w' hC' hG' => const_loose (HCH.out HOK.out w' (HG8.out.of_below hC'))) ?_
      rintro _ ⟨_, _, rfl⟩
      refine ⟨?_, ?_, ?_⟩
      rotate_left
      · go_simp
        rfl
      iterate 1 ((with_reducible refine loose_one (v := ?_) (a' := ?_) ?_ ?_ (fun w' hC' hG' => ?_) ?_ ?_); rotate_left 2; (focus rfl); (focus rfl); (focus (have f0 := (HR8.out.grow hC').cell 0; have f1 := (HR8.out.grow hC').cell 1; have f2 := (HR8.out.grow hC').cell 2; have f3 := (HR8.out.grow hC').cell 3; simp only [List.getElem?_cons_succ, List.getElem?_cons_zero] at f0 f1 f2 f3; clear hC' hG'; go_simp; rfl)); (focus (go_simp; rfl)))
      refine loose_call (R := ConstV (.int .i64 (chooseV v : Int))) (f := 17) (args := #[.agg #[.int .i64 T, .slice A1 n1 c1, .slice A2 n2 c2, .slice A3 n3 c3]]) (by rfl) (by rfl) (fun _ => by go_simp) (fun w' hC' hG' => const_loose (HCI.out HOK.out w' (HG8.out.of_below hC'))) ?_
      rintro _ ⟨_, _, rfl⟩
      refine ⟨?_, ?_, ?_⟩
      rotate_left
      · go_simp
        rfl
      iterate 2 ((with_reducible refine loose_one (v := ?_) (a' := ?_) ?_ ?_ (fun w' hC' hG' => ?_) ?_ ?_); rotate_left 2; (focus rfl); (focus rfl); (focus (clear hC' hG'; go_simp; rfl)); (focus (go_simp; rfl)))
      refine loose_call (R := ConstV (.bool true)) (f := 10) (args := #[]) (by rfl) (by rfl) (fun _ => by go_simp) (fun w' hC' hG' => const_loose (HLV.out w')) ?_
      rintro _ ⟨_, _, rfl⟩
      refine ⟨?_, ?_, ?_⟩
      rotate_left
      · go_simp
        rfl
      iterate 2 ((with_reducible refine loose_one (v := ?_) (a' := ?_) ?_ ?_ (fun w' hC' hG' => ?_) ?_ ?_); rotate_left 2; (focus rfl); (focus rfl); (focus (clear hC' hG'; go_simp; rfl)); (focus (go_simp; rfl)))
      refine loose_done (fun w9 hC' hG' => ?_)
      have HG9 := hidden (HG8.out.of_below hC')
      clear hG' hC'
      go_wp2_with fail
      go_ret
      exact ⟨rfl, HG9.out⟩
end Go.Proofs.YthmipnokimlbdaaGreat
