/-
  Shaken: what the claims of this seat need of this text. No condition.
-/
import Derived.Test.YthmipnokimlbdaaGreatEr4
import Derived.Test.YthmipnokimlbdaaGreatM20
import Derived.Test.YthmipnokimlbdaaGreatM24
namespace Go.Proofs.YthmipnokimlbdaaGreat
set_option maxRecDepth 8000
open Go.RowKit
set_option linter.unusedVariables false
set_option linter.unusedSimpArgs false
theorem info_cst : (Tryz.prog.info? 38).map (fun i => (i.zero, i.size, i.bytes)) = some (some (.agg #[.int .i64 0, .int .i64 0]), 2, 16) := by kernel_rfl
theorem wpList_append_cst {wr : World} {ops : Array Oper} {rest : List Oper} {o : Oper} {a : Act} {Q : Exit → Act → World → Prop} (hgd : o.guard = none) (s x : Operand)
    (ho : o.op = .call { callee := .builtin .append, args := #[s, x], argTypes := #[35, 35] })
    (v : Value) (pre : List Rn) (hs : a.eval s = v) (base : Nat) (hown : wr.ownsRow base 38 2 v pre.length (rcells pre)) (w0 : World) (hb : Below base w0 wr) (hbase : base ≤ wr.heap.size)
    (z1 z2 : Int) (hx : a.eval x = .slice (some ⟨wr.heap.size, 0, none⟩) 1 1) (hlen : pre.length + 1 ≤ 8796093022208)
    (h : ∀ v' w', w'.ownsRow base 38 2 v' (pre ++ [(z1, z2)]).length (rcells (pre ++ [(z1, z2)])) → Below base w0 w' → wpList Tryz.prog ops Q rest (a.put o.dst v') w') :
    wpList Tryz.prog ops Q (o :: rest) a (wr.alloc (.cells #[.int .i64 z1, .int .i64 z2] 38)) := by
  obtain ⟨i0, hi, hz0, hz1, hz2⟩ := info_parts info_cst
  refine wpList_append_own _ hgd s x 35 ho base 38 i0 (.agg #[.int .i64 0, .int .i64 0]) 2 16 Tryz.underlying35 hi hz0 hz1 hz2 rfl (by decide) v pre.length (rcells pre) hs (hown.alloc _) ⟨wr.heap.size, 0, none⟩ 1 1 [.int .i64 z1, .int .i64 z2] hx rfl ?_ ?_ ?_ ?_ ?_ ?_
  · intro j u hj
    match j, hj with
    | 0, hj => simp at hj; subst hj; simp [Addr.add]
    | 1, hj => simp at hj; subst hj; simp [Addr.add]
  · intro u hu
    simp at hu
    rcases hu with rfl | rfl <;> rfl
  · unfold maxLen; omega
  · omega
  · simp; omega
  · intro v' w' h1 h2 _
    have e : rcells pre ++ [.int .i64 z1, .int .i64 z2] = rcells (pre ++ [(z1, z2)]) := by rw [rcells_append]; rfl
    rw [e, show pre.length + 1 = (pre ++ [(z1, z2)]).length by simp] at h1
    exact h v' w' h1 ((hb.alloc hbase _).grown h2 (by simp; omega) (fun k hk => (hown.lt k hk).1))
theorem reads_ownC {w : World} {base : Nat} {v : Value} {l : List Rn} (h : w.ownsRow base 38 2 v l.length (rcells l)) : ReadsR w v l := by
  rcases h.2 with ⟨rfl, h0⟩ | ⟨g, cap, cur, rfl, _, hg, hn, _, _, htake⟩
  · have : l = [] := List.eq_nil_of_length_eq_zero h0
    subst this
    exact ReadsR.nil_ w 0
  · refine ⟨_, cap, rfl, hn, fun _ => ⟨g, 0, rfl, fun j x hj => ?_⟩⟩
    obtain ⟨h1, h2⟩ := rcells_get hj
    have c1 := h.cells (g := g) rfl _ _ h1
    have c2 := h.cells (g := g) rfl _ _ h2
    rw [Addr.add_lit] at c1 c2
    rw [Nat.zero_add] at *
    exact ⟨c1, c2⟩
def costP (v : Vec) (k : Nat) : List Rn := (List.range k).map fun (j : Nat) => ((j : Int), cost v j)
theorem costP_succ (v : Vec) (k : Nat) : costP v (k + 1) = costP v k ++ [((k : Int), cost v k)] := by unfold costP; rw [List.range_succ, List.map_append]; rfl
theorem costP_length (v : Vec) (k : Nat) : (costP v k).length = k := by simp [costP]
def RCoRel (w1 : World) (v : Vec) (out i : Value) (wr : World) : Prop :=
  ∃ k : Nat, k ≤ 6 ∧ i = .int .i64 (k : Int) ∧ wr.ownsRow w1.heap.size 38 2 out (costP v k).length (rcells (costP v k)) ∧ Below w1.heap.size w1 wr
set_option maxHeartbeats 4000000 in
theorem rCosts12_any (x : Value) (v : Vec) (w : World) (hx : IsV w x v) (hs : Small v) (hok : okV v = true) :
    Calls Tryz.prog 15 #[x] w fun e w' => ∃ u, e = .returned u ∧ Grows w w' ∧ ReadsR w' u (costL v) := by
  have hE := okV_iff.1 hok
  have HFO := hidden (fun (n : Nat) W (h : Grows w W) (ha : apl n v.T = true) => rform12_any n x v W (hx.grow h) (hs.fine hE) hE ha)
  have HAP := hidden (fun (k : Nat) W => rapplies_any v.T (k : Int) W)
  have HPL := hidden (fun k => pay_len (k := k) (hs.fine hE))
  simp only [aplR_eq hE.t] at HAP
  have HC1 := hidden (fun (k : Nat) ha => cost_ap (k := k) hok ha)
  have HC0 := hidden (fun (k : Nat) ha => cost_no (v := v) (k := k) ha)
  obtain ⟨a1, a2, a3, rfl, i1, i2, i3⟩ := hx
  obtain ⟨A1, c1, rfl⟩ := i1.slice_
  obtain ⟨A2, c2, rfl⟩ := i2.slice_
  obtain ⟨A3, c3, rfl⟩ := i3.slice_
  obtain ⟨T, hT⟩ : ∃ T, v.T = T := ⟨_, rfl⟩
  obtain ⟨n1, hn1⟩ : ∃ n, v.is.length = n := ⟨_, rfl⟩
  obtain ⟨n2, hn2⟩ : ∃ n, v.ts.length = n := ⟨_, rfl⟩
  obtain ⟨n3, hn3⟩ : ∃ n, v.ns.length = n := ⟨_, rfl⟩
  rw [hT, hn1, hn2, hn3] at HFO ⊢
  rw [hT] at HAP HC1 HC0
  have HG1 := hidden (growB w (.cells #[.int .i64 T, .slice A1 n1 c1, .slice A2 n2 c2, .slice A3 n3 c3] 26))
  have HR := hidden (Row.new w 26 #[.int .i64 T, .slice A1 n1 c1, .slice A2 n2 c2, .slice A3 n3 c3] [.int .i64 T, .slice A1 n1 c1, .slice A2 n2 c2, .slice A3 n3 c3] rfl)
  clear i1 i2 i3 hs hn1 hn2 hn3 hT hok hE
  go_enter Tryz.func15, Tryz.ntmps15
  go_wp2_with fail
  go_loopw [3, 4, 5] (fun out i _ wr => RCoRel (w.alloc (.cells #[.int .i64 T, .slice A1 n1 c1, .slice A2 n2 c2, .slice A3 n3 c3] 26)) v out i wr) (fun _ i _ _ => 6 - (intOf i).toNat)
  case atStart => exact ⟨0, by omega, rfl, World.ownsRow_nil _ _ _ _, Below.refl _ _⟩
  case round =>
    obtain ⟨k, hk, rfl, hown, hb⟩ := hrel
    have HB := hidden hb
    have HO := hidden hown
    have HRW := hidden (HR.out.grow hb)
    have x0 := HRW.out.cell 0
    have x1 := HRW.out.cell 1
    have x2 := HRW.out.cell 2
    have x3 := HRW.out.cell 3
    simp only [List.getElem?_cons_succ, List.getElem?_cons_zero] at x0 x1 x2 x3
    clear hb hown
    by_cases hlt : k < 6
    · have HSU := hidden (costP_succ v k)
      have HLN := hidden (costP_length v k)
      have HAPK := hidden (HAP.out k)
      have hsz := HB.out.size
      obtain ⟨ap, hap⟩ : ∃ b, apl k T = b := ⟨_, rfl⟩
      rw [hap] at HAPK
      cases ap
      · rw [HC0.out k hap] at HSU
        generalize costP v k = ps at *
        clear hap
        go_wp2_with (first
          | (go_at_call 25; refine (HAPK.out _).mono ?_; rintro e w2 ⟨rfl, rfl⟩)
          | (at_builtin; go_loud (refine wpList_append_cst rfl _ _ rfl _ ps (by rfl) _ HO.out _ HB.out hsz _ _ (by rfl) (by rw [HLN.out]; omega) ?_); intro v3 w3 hown3 hb3; have HO3 := hidden hown3; have HB3 := hidden hb3; clear hown3 hb3))
        go_roundw
        case rel => exact ⟨k + 1, by omega, by go_num, by rw [HSU.out]; exact HO3.out, HB3.out⟩
        case measure => simp [intOf]; omega
      · have HFK := hidden (fun W h => HFO.out k W h hap)
        rw [HC1.out k hap] at HSU
        have HPK := hidden (HPL.out k)
        have HFL := hidden (show (formE k v).length = (pay k v).length + 1 from by unfold formE; rw [List.length_cons])
        generalize formE k v = L at *
        generalize (pay k v).length = pl at *
        generalize costP v k = ps at *
        clear hap
        go_wp2_with (first
          | (go_at_call 25; refine (HAPK.out _).mono ?_; rintro e w2 ⟨rfl, rfl⟩)
          | (go_at_call 36; refine (HFK.out _ (HG1.out.of_below HB.out)).mono ?_; rintro e w4 ⟨v4, rfl, g4, hb4⟩; obtain ⟨A4, d4, rfl, _⟩ := hb4; have HB4 := hidden (HB.out.trans (g4.mono HB.out.size)); have HO4 := hidden (own_growS HO.out g4); have hsz4 := HB4.out.size; clear g4)
          | (at_builtin; go_loud (refine wpList_append_cst rfl _ _ rfl _ ps (by rfl) _ HO4.out _ HB4.out hsz4 _ _ (by rfl) (by rw [HLN.out]; omega) ?_); intro v3 w3 hown3 hb3; have HO3 := hidden hown3; have HB3 := hidden hb3; clear hown3 hb3))
        go_roundw
        case rel => exact ⟨k + 1, by omega, by go_num, by rw [HSU.out]; exact HO3.out, HB3.out⟩
        case measure => simp [intOf]; omega
    · have hke : k = 6 := by omega
      subst hke
      have HRD := hidden (show ReadsR wr u3 (costL v) from reads_ownC HO.out)
      go_wp2_with fail
      go_ret
      exact ⟨_, rfl, HG1.out.of_below HB.out, HRD.out⟩
theorem cost_pos {v : Vec} {k : Nat} (h : cost v k ≠ -1) : 0 ≤ cost v k := by
  unfold cost at h ⊢
  split
  · omega
  · rename_i hn; rw [if_neg hn] at h; exact absurd rfl h
def RChRel (w2 : World) (v : Vec) (b i : Value) (wr : World) : Prop := ∃ k : Nat, 1 ≤ k ∧ k ≤ 6 ∧ i = .int .i64 (k : Int) ∧ b = .int .i64 (bestK v k : Int) ∧ Grows w2 wr
set_option maxHeartbeats 4000000 in
theorem rChoose12_any (x : Value) (v : Vec) (w : World) (hx : IsV w x v) (hs : Small v) (hok : okV v = true) :
    Calls Tryz.prog 17 #[x] w fun e w' => e = .returned (.int .i64 (chooseV v : Int)) ∧ Grows w w' := by
  have HCS := hidden (fun W (h : Grows w W) => rCosts12_any x v W (hx.grow h) hs hok)
  have HC0 := hidden (cost_zero hok)
  obtain ⟨a1, a2, a3, rfl, i1, i2, i3⟩ := hx
  obtain ⟨A1, c1, rfl⟩ := i1.slice_
  obtain ⟨A2, c2, rfl⟩ := i2.slice_
  obtain ⟨A3, c3, rfl⟩ := i3.slice_
  generalize v.T = T at *
  generalize v.is.length = n1 at *
  generalize v.ts.length = n2 at *
  generalize v.ns.length = n3 at *
  have HG0 := hidden (growB w (.cells #[.int .i64 T, .slice A1 n1 c1, .slice A2 n2 c2, .slice A3 n3 c3] 26))
  clear i1 i2 i3 hs hok
  go_enter Tryz.func17, Tryz.ntmps17
  go_wp2_with fail
  refine (HCS.out _ HG0.out).mono ?_
  rintro e w2 ⟨u, rfl, g2, hu⟩
  obtain ⟨AU, cu, rfl⟩ := hu.slice_
  rw [costL_length] at hu ⊢
  obtain ⟨bu, fu, hAU, hcu⟩ := hu.at_
  obtain rfl := hAU (by rw [costL_length]; omega)
  have HCU := hidden (fun W (h : Grows w2 W) (k : Nat) (hk : k < 6) => show W.cell? ⟨bu, fu + k * 2, none⟩ = some (.int .i64 (k : Int)) ∧ W.cell? ⟨bu, fu + k * 2 + 1, none⟩ = some (.int .i64 (cost v k)) by
    have hl : k < (costL v).length := by rw [costL_length]; exact hk
    obtain ⟨h1, h2⟩ := hcu k hl
    rw [costL_get hl] at h1 h2
    exact ⟨(h.cell (World.block_lt_of_cell? _ _ h1)).trans h1, (h.cell (World.block_lt_of_cell? _ _ h2)).trans h2⟩)
  have HG2 := hidden (HG0.out.of_below g2)
  clear hu hcu hAU g2
  go_wp2_with fail
  go_loopw [4, 5] (fun b i wr => RChRel w2 v b i wr) (fun _ i _ => 6 - (intOf i).toNat)
  case atStart => exact ⟨1, by omega, by omega, rfl, rfl, Below.refl _ _⟩
  case round =>
    obtain ⟨k, hk1, hk, rfl, rfl, hb⟩ := hrel
    have HB := hidden hb
    clear hb
    by_cases hlt : k < 6
    · obtain ⟨hk0, hkc⟩ := HCU.out wr HB.out k hlt
      have hbl := bestK_lt v k hk
      obtain ⟨hb0, hbc⟩ := HCU.out wr HB.out (bestK v k) hbl
      have HST := hidden (bestK_step (v := v) HC0.out (k := k))
      have HCP := hidden (cost_pos (v := v) (k := k))
      obtain ⟨c, hc⟩ : ∃ c, cost v k = c := ⟨_, rfl⟩
      obtain ⟨bb, hbb⟩ : ∃ b, bestK v k = b := ⟨_, rfl⟩
      obtain ⟨cb, hcb⟩ : ∃ c, cost v bb = c := ⟨_, rfl⟩
      rw [hbb] at hb0 hbc hbl HST
      rw [hbb]
      rw [hcb] at hbc HST
      rw [hc] at hkc HST HCP
      clear hc hbb hcb
      by_cases h0 : 0 ≤ c
      · have d0 : decide (0 ≤ c) = true := by simpa using h0
        by_cases h1 : c < cb
        · have d1 : decide (c < cb) = true := by simpa using h1
          have HE := hidden (show bestK v (k + 1) = k by rw [HST.out, if_pos ⟨by omega, h1⟩])
          clear h0 h1
          go_wp2_with fail
          go_quiet (fail)
          go_wp2_with fail
          go_roundw
          case rel => exact ⟨k + 1, by omega, by omega, by go_num, by rw [HE.out], drewN_g HB.out _⟩
          case measure => simp [intOf]; omega
        · have d1 : decide (c < cb) = false := by simpa using h1
          have HE := hidden (show bestK v (k + 1) = bb by rw [HST.out, if_neg fun h => h1 h.2])
          clear h0 h1
          go_wp2_with fail
          go_quiet (fail)
          go_wp2_with fail
          go_roundw
          case rel => exact ⟨k + 1, by omega, by omega, by go_num, by rw [HE.out], drewN_g HB.out _⟩
          case measure => simp [intOf]; omega
      · have d0 : decide (0 ≤ c) = false := by simpa using h0
        have HE := hidden (show bestK v (k + 1) = bb by rw [HST.out, if_neg fun h => h0 (HCP.out h.1)])
        clear h0
        go_wp2_with fail
        go_quiet (fail)
        go_wp2_with fail
        go_roundw
        case rel => exact ⟨k + 1, by omega, by omega, by go_num, by rw [HE.out], drewN_g HB.out _⟩
        case measure => simp [intOf]; omega
    · have hke : k = 6 := by omega
      subst hke
      have HE := hidden (show (bestK v 6 : Int) = (chooseV v : Int) from rfl)
      generalize bestK v 6 = b6 at *
      go_wp2_with fail
      go_ret
      exact ⟨ret_eq HE.out, HG2.out.of_below HB.out⟩
end Go.Proofs.YthmipnokimlbdaaGreat
