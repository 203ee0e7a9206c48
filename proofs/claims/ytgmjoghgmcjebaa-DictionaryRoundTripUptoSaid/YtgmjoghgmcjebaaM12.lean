/-
  Texts that the claims of this seat share, put together (Rm3, Rm2). No condition.
-/
import Derived.Test.YtgmjoghgmcjebaaM8
import Derived.Test.YtgmjoghgmcjebaaM11
/-
  Package rle as it landed: Expand. Nothing that was there is changed.
-/
namespace Go.Proofs.Ytgmjoghgmcjebaa
open Go.RowKit
set_option linter.unusedVariables false
set_option linter.unusedSimpArgs false

theorem row_keeps {wr w' : World} {b g n sz : Nat} {e E : TypeId} {v : Value} {xs ys : List Value} (hown : wr.ownsRow b e sz v n xs) (hg : wr.grownBy w' v.ownBlock) (hr : Row wr g E ys) (hne : E ≠ e) : Row w' g E ys := by
  refine (hg.block g hr.lt ?_).trans hr
  intro he
  rcases hown.2 with ⟨rfl, _⟩ | ⟨g', cap, cur, rfl, _, h1, _⟩
  · cases he
  · simp only [Value.ownBlock, Option.some.injEq] at he
    subst he
    unfold Row at hr
    rw [h1] at hr
    injection hr with hr
    injection hr with _ h2 _
    exact hne h2.symm
/-- rows of another type than e are what they were -/
def KeepsRow (e : TypeId) (w w' : World) : Prop := ∀ g E ys, E ≠ e → Row w g E ys → Row w' g E ys
theorem wpList_append_ik {wr : World} {ops : Array Oper} {rest : List Oper} {o : Oper} {a : Act} {Q : Exit → Act → World → Prop} (hgd : o.guard = none) (s x : Operand)
    (ho : o.op = .call { callee := .builtin .append, args := #[s, x], argTypes := #[64, 64] })
    (v : Value) (pre : List Int) (hs : a.eval s = v) (base : Nat) (hown : wr.ownsRow base 2 1 v pre.length (icells pre)) (w0 : World) (hb : Below base w0 wr) (hbase : base ≤ wr.heap.size)
    (z : Int) (hx : a.eval x = .slice (some ⟨wr.heap.size, 0, none⟩) 1 1) (hlen : pre.length + 1 ≤ 17592186044416)
    (h : ∀ v' w', w'.ownsRow base 2 1 v' (pre ++ [z]).length (icells (pre ++ [z])) → Below base w0 w' → KeepsRow 2 wr w' → wpList Try.prog ops Q rest (a.put o.dst v') w') :
    wpList Try.prog ops Q (o :: rest) a (wr.alloc (.cells #[.int .i64 z] 2)) := by
  obtain ⟨i0, hi, hz0, hz1, hz2⟩ := info_parts info_i64
  refine wpList_append_own _ hgd s x 64 ho base 2 i0 (.int .i64 0) 1 8 Try.underlying64 hi hz0 hz1 hz2 rfl (by decide) v pre.length (icells pre) hs (hown.alloc _) ⟨wr.heap.size, 0, none⟩ 1 1 [.int .i64 z] hx rfl ?_ ?_ ?_ ?_ ?_ ?_
  · intro j u hj
    match j, hj with
    | 0, hj => simp at hj; subst hj; simp [Addr.add]
  · intro u hu; simp at hu; subst hu; rfl
  · unfold maxLen; omega
  · omega
  · simp; omega
  · intro v' w' h1 h2 _
    rw [← icells_snoc, show pre.length + 1 = (pre ++ [z]).length by simp] at h1
    exact h v' w' h1 ((hb.alloc hbase _).grown h2 (by simp; omega) (fun k hk => (hown.lt k hk).1))
      (fun g E ys hne hr => row_keeps (hown.alloc _) h2 (hr.grow (runGrow1 _)) hne)
theorem run_make_room (N : Nat) (hN : N ≤ 65536) (W : World) :
    (Instr.makeSlice 64 (.int .i64 0) (.int .i64 (N : Int))).run Try.prog W = .ok (.slice (some ⟨W.heap.size, 0, none⟩) 0 N) (W.alloc (.cells (madeCells #[.int .i64 0] N) 2)) := by
  obtain ⟨i0, hi, hz0, hz1, hz2⟩ := info_parts info_i64
  have hbs : (i0.bytes : Int) * (N : Int) ≤ 281474976710656 := by rw [hz2]; omega
  have h := run_make (P := Try.prog) W 64 2 i0 (.int .i64 0) Try.underlying64 hi hz0 .i64 .i64 0 (N : Int) (by omega) (by omega) hbs (by omega)
  rw [hz1] at h
  simpa [Value.cells] using h
theorem own_room (w : World) (N : Nat) (hN : N ≤ 65536) : (w.alloc (.cells (madeCells #[Value.int .i64 0] N) 2)).ownsRow w.heap.size 2 1 (.slice (some ⟨w.heap.size, 0, none⟩) 0 N) 0 [] := by
  refine ⟨by simp, .inr ⟨w.heap.size, N, madeCells #[Value.int .i64 0] N, rfl, Nat.le_refl _, by show (w.heap.push _)[w.heap.size]? = _; simp, Nat.zero_le _, by unfold maxLen; omega, ?_, by simp⟩⟩
  have h : (madeCells #[Value.int .i64 0] N).toList.length = N := by rw [toList_madeCells_one]; simp
  rw [Array.length_toList] at h
  omega
def LExRel (w : World) (l : List Rn) (out i : Value) (wr : World) : Prop :=
  ∃ j : Nat, j ≤ l.length ∧ i = .int .i64 (j : Int) ∧ wr.ownsRow w.heap.size 2 1 out (expR (l.take j)).length (icells (expR (l.take j))) ∧ Below w.heap.size w wr
def LExIn (w : World) (g : Nat) (pre : List Int) (x : Int) (n : Nat) (out k : Value) (wr : World) : Prop :=
  ∃ j : Nat, j ≤ n ∧ k = .int .i64 (j : Int) ∧ Row wr g 87 [.int .i64 x, .int .i64 (n : Int)] ∧ wr.ownsRow w.heap.size 2 1 out (pre ++ List.replicate j x).length (icells (pre ++ List.replicate j x)) ∧ Below w.heap.size w wr
set_option maxHeartbeats 2000000 in
theorem lexpand_any (v : Value) (l : List Rn) (w : World) (hv : ReadsR w v l) (hl : l.length ≤ 9223372036854775806) :
    Calls Try.prog 87 #[v] w (ExR (expI l) (expE l) w) := by
  have HV := hidden hv
  have HVA := hidden (llength_any v l w hv hl)
  obtain ⟨A, c, rfl⟩ := hv.slice_
  clear hv
  cases hval : validR l
  · have HE := hidden (show expI l = [] by unfold expI; rw [hval]; rfl)
    have HE2 := hidden (show expE l = 4 by unfold expE; rw [hval]; rfl)
    rw [lenV_f hval] at HVA
    clear hval
    go_enter Try.func87, Try.ntmps87
    go_wp2_with ((go_at_call 105; refine HVA.out.mono ?_; rintro e w2 ⟨rfl, g2⟩; have HG2 := hidden g2; clear g2))
    go_ret2
    exact ⟨_, by rw [HE2.out]; rfl, HG2.out, by rw [HE.out]; exact Reads.nil_ _ 0⟩
  · have HE := hidden (show expI l = expR l by unfold expI; rw [hval]; rfl)
    have HE2 := hidden (show expE l = 0 by unfold expE; rw [hval]; rfl)
    have HVL := hidden hval
    have hsum := valid_sum hval l.length (Nat.le_refl _)
    rw [List.take_length] at hsum
    obtain ⟨N, hN⟩ := Int.eq_ofNat_of_zero_le hsum.1
    have hN6 : N ≤ 65536 := by omega
    rw [lenV_t hval, hN] at HVA
    have hmk := fun W => run_make_room N hN6 W
    have HN6 := hidden hN6
    clear hval hsum hN hN6
    go_enter Try.func87, Try.ntmps87
    go_wp2_with ((go_at_call 105; refine HVA.out.mono ?_; rintro e w2 ⟨rfl, g2⟩; have HG2 := hidden g2; clear g2))
    clear hmk
    go_loopw [6, 20] (fun out i wr => LExRel w l out i wr) (fun _ i _ => l.length - (intOf i).toNat)
    case atStart =>
      refine ⟨0, by omega, rfl, ?_, HG2.out.alloc HG2.out.size _⟩
      exact ownsRow_base (own_room w2 N HN6.out) HG2.out.size
    case round =>
      obtain ⟨j, hj, rfl, hown, hb⟩ := hrel
      have HB := hidden hb
      have HOW := hidden hown
      clear hown hb
      by_cases hlt : j < l.length
      · have HTK := hidden (expR_take hlt)
        have hcn := valid_count HVL.out hlt
        have hpre := valid_pre HVL.out (j := j + 1) (by omega)
        rw [HTK.out, List.length_append, List.length_replicate] at hpre
        obtain ⟨b, off, hA, hc⟩ := (HV.out.grow HB.out).at_
        obtain rfl := hA (by omega)
        obtain ⟨c1, c2⟩ := hc j hlt
        obtain ⟨x, hx⟩ : ∃ x, x = l[j].1 := ⟨_, rfl⟩
        obtain ⟨n, hn⟩ : ∃ n : Nat, (n : Int) = l[j].2 := ⟨l[j].2.toNat, by omega⟩
        rw [← hn] at c2 hcn HTK
        rw [← hn] at hpre
        rw [← hx] at c1 HTK
        rw [Int.toNat_natCast] at hpre HTK
        clear hx hn hA hc
        have HBA := hidden (show Below w.heap.size w (wr.alloc (.cells #[.int .i64 x, .int .i64 (n : Int)] 87)) from HB.out.alloc HB.out.size _)
        have HOA := hidden (show (wr.alloc (.cells #[.int .i64 x, .int .i64 (n : Int)] 87)).ownsRow w.heap.size 2 1 u6 (expR (l.take j)).length (icells (expR (l.take j))) from HOW.out.alloc _)
        have HRA := hidden (runRow wr (.int .i64 x) (.int .i64 (n : Int)))
        go_wp2_with fail
        go_loopw [6, 26] (fun out k wr2 => LExIn w wr.heap.size (expR (l.take j)) x n out k wr2) (fun _ k _ => n - (intOf k).toNat)
        case atStart => exact ⟨0, by omega, rfl, HRA.out, by simpa using HOA.out, HBA.out⟩
        case round =>
          obtain ⟨k, hk, rfl, hrow, hown2, hb2⟩ := hrel
          have HB2 := hidden hb2
          have HOW2 := hidden hown2
          have HR2 := hidden hrow
          obtain ⟨k1, k2⟩ := runCells hrow
          clear hown2 hb2 hrow c1 c2
          by_cases hkn : k < n
          · have HRS := hidden (rep_snoc k x (expR (l.take j)))
            have hlen : (expR (l.take j) ++ List.replicate k x).length + 1 ≤ 17592186044416 := by rw [List.length_append, List.length_replicate]; omega
            have HLN := hidden hlen
            have hsz := HB2.out.size
            clear hlen
            go_wp2_with ((at_builtin; go_loud (refine wpList_append_ik rfl _ _ rfl _ (expR (l.take j) ++ List.replicate k x) (by rfl) w.heap.size HOW2.out _ HB2.out hsz _ (by rfl) HLN.out ?_); intro v' w3 hown3 hb3 hk3; have HO3 := hidden hown3; have HB3 := hidden hb3; have HR3 := hidden (hk3 _ _ _ (by decide) HR2.out); clear hown3 hb3 hk3 k1 k2))
            refine ⟨⟨k + 1, by omega, by go_num, HR3.out, ?_, HB3.out⟩, by simp [intOf]; omega⟩
            rw [HRS.out]
            exact HO3.out
          · have hke : k = n := by omega
            subst hke
            go_wp2_with fail
            refine ⟨⟨j + 1, by omega, by go_num, ?_, HB2.out⟩, by simp [intOf]; omega⟩
            rw [HTK.out]
            exact HOW2.out
      · have hke : j = l.length := by omega
        subst hke
        have HT := hidden (List.take_length (l := l))
        go_wp2_with fail
        go_ret2
        refine ⟨_, by rw [HE2.out]; rfl, HB.out, ?_⟩
        rw [HE.out]
        have h := HOW.out
        rw [HT.out] at h
        exact Reads.of_own h
end Go.Proofs.Ytgmjoghgmcjebaa
/-
  Package rle as it landed: Runs. Nothing that was there is changed.
-/
namespace Go.Proofs.Ytgmjoghgmcjebaa
open Go.RowKit
set_option linter.unusedVariables false
set_option linter.unusedSimpArgs false

theorem last_push (out : List Rn) (v : Int) : ∃ c, (pushR out v).getLast? = some (v, c) := by
  unfold pushR
  cases hl : out.getLast? with
  | none => exact ⟨1, by simp⟩
  | some x =>
    simp only
    split
    · rename_i h; exact ⟨x.2 + 1, by simp [h]⟩
    · exact ⟨1, by simp⟩
theorem last_runs {vs : List Int} {j : Nat} (h0 : 0 < j) (h1 : j - 1 < vs.length) : ∃ c, (runsR (vs.take j)).getLast? = some (vs[j - 1], c) := by
  obtain ⟨k, rfl⟩ : ∃ k, j = k + 1 := ⟨j - 1, by omega⟩
  simp only [Nat.add_sub_cancel] at h1 ⊢
  rw [runsR_take h1]
  exact last_push _ _
theorem push_same {o : List Rn} {y c : Int} (h : o.getLast? = some (y, c)) : pushR o y = o.dropLast ++ [(y, c + 1)] := by unfold pushR; rw [h]; simp
theorem push_new {o : List Rn} {y : Int} (h : o.getLast? = none ∨ ∃ x c, o.getLast? = some (x, c) ∧ x ≠ y) : pushR o y = o ++ [(y, 1)] := by
  unfold pushR
  rcases h with h | ⟨x, c, h, hne⟩
  · rw [h]
  · rw [h]; simp [hne]
theorem own_empty (w : World) (base : Nat) (e : TypeId) (size : Nat) (h : base ≤ w.heap.size) : (w.alloc (.cells #[] e)).ownsRow base e size (.slice (some ⟨w.heap.size, 0, none⟩) 0 0) 0 [] := by
  refine ⟨by simp, .inr ⟨w.heap.size, 0, #[], rfl, h, by show (w.heap.push _)[w.heap.size]? = _; simp, Nat.le_refl _, Nat.zero_le _, by simp, by simp⟩⟩
theorem own_len {o : List Rn} {x : Rn} {w : World} {base : Nat} {v : Value} (h : w.ownsRow base 87 2 v (o ++ [x]).length (rcells (o ++ [x]))) : ∃ m, m = (o ++ [x]).length ∧ 0 < m ∧ (o ++ [x])[m - 1]? = some x := ⟨_, rfl, by simp, by simp⟩
/-- the last run's count is set, in a row of the call's own -/
theorem own_bump {p : List Rn} {x : Rn} {m : Nat} (hm : m = (p ++ [x]).length) {w : World} {base g cap : Nat} (h : w.ownsRow base 87 2 (.slice (some ⟨g, 0, none⟩) m cap) m (rcells (p ++ [x]))) (c : Int) :
    (w.setCell ⟨g, (m - 1) * 2 + 1, none⟩ (.int .i64 c)).ownsRow base 87 2 (.slice (some ⟨g, 0, none⟩) m cap) (p ++ [(x.1, c)]).length (rcells (p ++ [(x.1, c)])) := by
  have hl : m = p.length + 1 := by rw [hm]; simp
  have h1 := own_set h ((m - 1) * 2 + 1) (by omega) (.int .i64 c)
  have e := rcells_bump p x c
  rw [show p.length * 2 + 1 = (m - 1) * 2 + 1 by omega] at e
  rw [e] at h1
  have e2 : (p ++ [(x.1, c)]).length = m := by rw [hl]; simp
  rw [e2]
  exact h1
def LRunRel (w : World) (vs : List Int) (out i : Value) (wr : World) : Prop :=
  ∃ j : Nat, j ≤ vs.length ∧ i = .int .i64 (j : Int) ∧ wr.ownsRow w.heap.size 87 2 out (runsR (vs.take j)).length (rcells (runsR (vs.take j))) ∧ Below w.heap.size w wr
set_option maxHeartbeats 2000000 in
theorem lruns_any (v : Value) (vs : List Int) (w : World) (hv : IsI w v vs) (hl : vs.length ≤ 1000000000) :
    Calls Try.prog 62 #[v] w fun e w' => ∃ u, e = .returned u ∧ Grows w w' ∧ ReadsR w' u (runsR vs) := by
  have HV := hidden hv
  obtain ⟨A, c, rfl⟩ := hv.slice_
  clear hv
  go_enter Try.func62, Try.ntmps62
  go_wp2_with fail
  go_loopw [3, 9] (fun out i wr => LRunRel w vs out i wr) (fun _ i _ => vs.length - (intOf i).toNat)
  case atStart => exact ⟨0, by omega, rfl, own_empty w _ _ _ (Nat.le_refl _), runGrow1 _⟩
  case round =>
    obtain ⟨j, hj, rfl, hown, hb⟩ := hrel
    have HB := hidden hb
    have HOW := hidden hown
    clear hown hb
    by_cases hlt : j < vs.length
    · obtain ⟨b, f, rfl, hcell⟩ := (HV.out.grow HB.out).at_ hlt
      have HTK := hidden (runsR_take hlt)
      obtain ⟨hcnt, hlen⟩ := runsR_len vs hj
      have HPV := hidden (fun h0 : 0 < j => (HV.out.grow HB.out).at_ (show j - 1 < vs.length by omega))
      have HLAST := hidden (fun h0 : 0 < j => last_runs (vs := vs) h0 (show j - 1 < vs.length by omega))
      have HNIL := hidden (show j = 0 → (runsR (vs.take j)).getLast? = none by intro h; subst h; rfl)
      obtain ⟨o, ho⟩ : ∃ o, o = runsR (vs.take j) := ⟨_, rfl⟩
      rw [← ho] at HOW HTK hcnt hlen HLAST HNIL
      obtain ⟨y, hy⟩ : ∃ y, y = vs[j] := ⟨_, rfl⟩
      rw [← hy] at hcell HTK
      have hopos : ∀ x ∈ o, 1 ≤ x.2 := by rw [ho]; exact runsR_pos vs j
      have HOP := hidden hopos
      clear ho hy hopos
      have hsz := HB.out.size
      have HCN := hidden hcnt
      have hn9 : o.length ≤ 1000000000 := by omega
      have HN9 := hidden hn9
      clear hcnt hn9 hlen
      by_cases h0 : j = 0
      · have HP := hidden (push_new (y := y) (.inl (HNIL.out h0)))
        have HLN := hidden (show o.length + 1 ≤ 8796093022208 by have := HN9.out; omega)
        have HO0 := hidden (show o = [] from List.getLast?_eq_none_iff.1 (HNIL.out h0))
        have hw := HOW.out
        rw [HO0.out] at hw
        obtain ⟨A2, cap2, rfl⟩ : ∃ A cap, u3 = .slice A 0 cap := by
          obtain ⟨A, c, h1, _⟩ := ReadsR.of_own HOW.out
          rw [HO0.out] at h1
          exact ⟨A, c, h1⟩
        have hj0 : ((j : Int) == 0) = true := by simpa using h0
        have HJ0 := hidden h0
        have HBM := hidden (show rcells ((o ++ [(y, (0 : Int))]).set (o.length) (y, 1)) = rcells (pushR o y) by rw [HP.out]; simp)
        clear h0 hw
        go_wp2_with ((at_builtin; go_loud (refine wpList_append_r rfl _ _ rfl _ o (by rfl) w.heap.size HOW.out _ HB.out hsz _ _ (by rfl) HLN.out ?_); intro v' w3 hown3 hb3; have HB3 := hidden hb3; have HM := own_len hown3; obtain ⟨m, hm1, hm2, hm3⟩ := HM; rw [← hm1] at hown3; have HO3 := hidden hown3; obtain ⟨g, cap, rfl, hbg, hgl, hfz⟩ := own_shape hown3 hm2; have hq := rcells_get hm3; have k2 := hown3.cells (g := g) rfl _ _ hq.2; have f2 := hfz ((m - 1) * 2 + 1) (by omega); have HBG := hidden hbg; rw [Addr.add_lit, Nat.zero_add] at k2; have b1 : (0 : Int) ≤ (m : Int) - 1 := (by omega); have b2 : (m : Int) - 1 < (m : Int) := (by omega); have b3 : ((m : Int) - 1).toNat = m - 1 := (by omega); have HM1 := hidden hm1; have HN9b := HN9.out; have hm9 : m ≤ 1000000001 := (by rw [hm1, List.length_append]; simpa using HN9b); clear hm1 hm3 HN9b hq hfz hgl hown3 hb3))
        refine ⟨⟨j + 1, by omega, by go_num, ?_, HB3.out.setCell (p := ⟨g, (m - 1) * 2 + 1, none⟩) HBG.out _⟩, by simp [intOf]; omega⟩
        rw [HTK.out, HP.out]
        exact own_bump HM1.out HO3.out 1
      · have hj1 : j - 1 < vs.length := by omega
        obtain ⟨cl, hlast⟩ := HLAST.out (by omega)
        obtain ⟨b2, f3, hA, hprev⟩ := HPV.out (by omega)
        injection hA with hA
        injection hA with hA1 hA2
        subst hA1 hA2
        obtain ⟨p, hp⟩ : ∃ p, p = vs[j - 1] := ⟨_, rfl⟩
        rw [← hp] at hlast hprev
        have hj0 : ((j : Int) == 0) = false := by simpa using h0
        have b4 : (0 : Int) ≤ (j : Int) - 1 := by omega
        have b5 : (j : Int) - 1 < (vs.length : Int) := by omega
        have b6 : ((j : Int) - 1).toNat = j - 1 := by omega
        have HS := hidden (last_split hlast)
        obtain ⟨m0, hm0⟩ : ∃ m, m = o.length := ⟨_, rfl⟩
        have hpos : 0 < m0 := by rw [hm0, HS.out]; simp
        have HM0 := hidden hm0
        have hoo := HOW.out
        rw [← hm0] at hoo
        have HOO := hidden hoo
        obtain ⟨g0, cap0, rfl, hbg0, hgl0, hfz0⟩ := own_shape hoo hpos
        by_cases he : y = p
        · have d4 : (y != p) = false := by simpa using he
          have HP := hidden (push_same (y := y) (c := cl) (by rw [he]; exact hlast))
          have HBG := hidden hbg0
          have hget : o[m0 - 1]? = some (p, cl) := by rw [hm0, ← List.getLast?_eq_getElem?]; exact hlast
          have k2 := hoo.cells (g := g0) rfl _ _ (rcells_get hget).2
          rw [Addr.add_lit, Nat.zero_add] at k2
          have f2 := hfz0 ((m0 - 1) * 2 + 1) (by omega)
          have hcl := HCN.out (p, cl) (by rw [HS.out]; simp)
          have hcl1 := HOP.out (p, cl) (by rw [HS.out]; simp)
          have hm9 : m0 ≤ 1000000001 := by have := HN9.out; omega
          have b1 : (0 : Int) ≤ (m0 : Int) - 1 := by omega
          have b2 : (m0 : Int) - 1 < (m0 : Int) := by omega
          have b3 : ((m0 : Int) - 1).toNat = m0 - 1 := by omega
          have hw64 : wrap64 (cl + 1) = cl + 1 := by unfold wrap64; simp only at hcl hcl1; omega
          simp only at hcl hcl1 k2
          have HB4 := hidden (fun d => own_bump (p := o.dropLast) (x := (p, cl)) (m := m0) (by rw [← HS.out]; exact HM0.out) (w := wr) (base := w.heap.size) (g := g0) (cap := cap0) (by rw [← HS.out]; exact HOO.out) d)
          have HE := hidden he
          clear he hoo hlast hp hm0 hget hfz0 hgl0
          go_wp2_with fail
          try rw [hw64]
          refine ⟨⟨j + 1, by omega, by go_num, ?_, HB.out.setCell (p := ⟨g0, (m0 - 1) * 2 + 1, none⟩) HBG.out _⟩, by simp [intOf]; omega⟩
          rw [HTK.out, HP.out, HE.out]
          exact HB4.out _
        · have d4 : (y != p) = true := by simpa using he
          have HP := hidden (push_new (o := o) (y := y) (.inr ⟨p, cl, hlast, fun e => he e.symm⟩))
          have HLN := hidden (show o.length + 1 ≤ 8796093022208 by have := HN9.out; omega)
          clear he hoo hlast hp hm0 hfz0 hgl0
          go_wp2_with ((at_builtin; go_loud (refine wpList_append_r rfl _ _ rfl _ o (by rfl) w.heap.size HOW.out _ HB.out hsz _ _ (by rfl) HLN.out ?_); intro v' w3 hown3 hb3; have HB3 := hidden hb3; have HM := own_len hown3; obtain ⟨m, hm1, hm2, hm3⟩ := HM; rw [← hm1] at hown3; have HO3 := hidden hown3; obtain ⟨g, cap, rfl, hbg, hgl, hfz⟩ := own_shape hown3 hm2; have hq := rcells_get hm3; have k2 := hown3.cells (g := g) rfl _ _ hq.2; have f2 := hfz ((m - 1) * 2 + 1) (by omega); have HBG := hidden hbg; rw [Addr.add_lit, Nat.zero_add] at k2; have b1 : (0 : Int) ≤ (m : Int) - 1 := (by omega); have b2 : (m : Int) - 1 < (m : Int) := (by omega); have b3 : ((m : Int) - 1).toNat = m - 1 := (by omega); have HM1 := hidden hm1; have HN9b := HN9.out; have hm9 : m ≤ 1000000001 := (by rw [hm1, List.length_append]; simpa using HN9b); clear hm1 hm3 HN9b hq hfz hgl hown3 hb3))
          refine ⟨⟨j + 1, by omega, by go_num, ?_, HB3.out.setCell (p := ⟨g, (m - 1) * 2 + 1, none⟩) HBG.out _⟩, by simp [intOf]; omega⟩
          rw [HTK.out, HP.out]
          exact own_bump HM1.out HO3.out 1
    · have hke : j = vs.length := by omega
      subst hke
      have h := HOW.out
      rw [List.take_length] at h
      have HH := hidden h
      clear h
      go_wp2_with fail
      go_ret
      exact ⟨_, rfl, HB.out, ReadsR.of_own HH.out⟩
end Go.Proofs.Ytgmjoghgmcjebaa
