/-
  Package rle as it landed: Runs. Nothing that was there is changed.
-/
import Derived.Test.YtnjmbhakfecdoaaRm1
import Derived.Test.YtnjmbhakfecdoaaRl5
namespace Go.Proofs.Ytnjmbhakfecdoaa
open Go.RowKit
set_option linter.unusedVariables false
set_option linter.unusedSimpArgs false

theorem last_push (out : List Rn) (v : Int) : ∃ c, (pushR out v).getLast? = some (v, c) := by
  unfold pushR
  cases hl : out.getLast? with
  | none => exact ⟨1, by simp⟩
  | some x =>
    simp only
    split
    · rename_i h; exact ⟨x.2 + 1, by simp [h]⟩
    · exact ⟨1, by simp⟩
theorem last_runs {vs : List Int} {j : Nat} (h0 : 0 < j) (h1 : j - 1 < vs.length) : ∃ c, (runsR (vs.take j)).getLast? = some (vs[j - 1], c) := by
  obtain ⟨k, rfl⟩ : ∃ k, j = k + 1 := ⟨j - 1, by omega⟩
  simp only [Nat.add_sub_cancel] at h1 ⊢
  rw [runsR_take h1]
  exact last_push _ _
theorem push_same {o : List Rn} {y c : Int} (h : o.getLast? = some (y, c)) : pushR o y = o.dropLast ++ [(y, c + 1)] := by unfold pushR; rw [h]; simp
theorem push_new {o : List Rn} {y : Int} (h : o.getLast? = none ∨ ∃ x c, o.getLast? = some (x, c) ∧ x ≠ y) : pushR o y = o ++ [(y, 1)] := by
  unfold pushR
  rcases h with h | ⟨x, c, h, hne⟩
  · rw [h]
  · rw [h]; simp [hne]
theorem own_empty (w : World) (base : Nat) (e : TypeId) (size : Nat) (h : base ≤ w.heap.size) : (w.alloc (.cells #[] e)).ownsRow base e size (.slice (some ⟨w.heap.size, 0, none⟩) 0 0) 0 [] := by
  refine ⟨by simp, .inr ⟨w.heap.size, 0, #[], rfl, h, by show (w.heap.push _)[w.heap.size]? = _; simp, Nat.le_refl _, Nat.zero_le _, by simp, by simp⟩⟩
theorem own_len {o : List Rn} {x : Rn} {w : World} {base : Nat} {v : Value} (h : w.ownsRow base 59 2 v (o ++ [x]).length (rcells (o ++ [x]))) : ∃ m, m = (o ++ [x]).length ∧ 0 < m ∧ (o ++ [x])[m - 1]? = some x := ⟨_, rfl, by simp, by simp⟩
/-- the last run's count is set, in a row of the call's own -/
theorem own_bump {p : List Rn} {x : Rn} {m : Nat} (hm : m = (p ++ [x]).length) {w : World} {base g cap : Nat} (h : w.ownsRow base 59 2 (.slice (some ⟨g, 0, none⟩) m cap) m (rcells (p ++ [x]))) (c : Int) :
    (w.setCell ⟨g, (m - 1) * 2 + 1, none⟩ (.int .i64 c)).ownsRow base 59 2 (.slice (some ⟨g, 0, none⟩) m cap) (p ++ [(x.1, c)]).length (rcells (p ++ [(x.1, c)])) := by
  have hl : m = p.length + 1 := by rw [hm]; simp
  have h1 := own_set h ((m - 1) * 2 + 1) (by omega) (.int .i64 c)
  have e := rcells_bump p x c
  rw [show p.length * 2 + 1 = (m - 1) * 2 + 1 by omega] at e
  rw [e] at h1
  have e2 : (p ++ [(x.1, c)]).length = m := by rw [hl]; simp
  rw [e2]
  exact h1
def LRunRel (w : World) (vs : List Int) (out i : Value) (wr : World) : Prop :=
  ∃ j : Nat, j ≤ vs.length ∧ i = .int .i64 (j : Int) ∧ wr.ownsRow w.heap.size 59 2 out (runsR (vs.take j)).length (rcells (runsR (vs.take j))) ∧ Below w.heap.size w wr
set_option maxHeartbeats 2000000 in
theorem lruns_any (v : Value) (vs : List Int) (w : World) (hv : IsI w v vs) (hl : vs.length ≤ 1000000000) :
    Calls Try.prog 11 #[v] w fun e w' => ∃ u, e = .returned u ∧ Grows w w' ∧ ReadsR w' u (runsR vs) := by
  have HV := hidden hv
  obtain ⟨A, c, rfl⟩ := hv.slice_
  clear hv
  go_enter Try.func11, Try.ntmps11
  go_wp2_with fail
  go_loopw [3, 9] (fun out i wr => LRunRel w vs out i wr) (fun _ i _ => vs.length - (intOf i).toNat)
  case atStart => exact ⟨0, by omega, rfl, own_empty w _ _ _ (Nat.le_refl _), runGrow1 _⟩
  case round =>
    obtain ⟨j, hj, rfl, hown, hb⟩ := hrel
    have HB := hidden hb
    have HOW := hidden hown
    clear hown hb
    by_cases hlt : j < vs.length
    · obtain ⟨b, f, rfl, hcell⟩ := (HV.out.grow HB.out).at_ hlt
      have HTK := hidden (runsR_take hlt)
      obtain ⟨hcnt, hlen⟩ := runsR_len vs hj
      have HPV := hidden (fun h0 : 0 < j => (HV.out.grow HB.out).at_ (show j - 1 < vs.length by omega))
      have HLAST := hidden (fun h0 : 0 < j => last_runs (vs := vs) h0 (show j - 1 < vs.length by omega))
      have HNIL := hidden (show j = 0 → (runsR (vs.take j)).getLast? = none by intro h; subst h; rfl)
      obtain ⟨o, ho⟩ : ∃ o, o = runsR (vs.take j) := ⟨_, rfl⟩
      rw [← ho] at HOW HTK hcnt hlen HLAST HNIL
      obtain ⟨y, hy⟩ : ∃ y, y = vs[j] := ⟨_, rfl⟩
      rw [← hy] at hcell HTK
      have hopos : ∀ x ∈ o, 1 ≤ x.2 := by rw [ho]; exact runsR_pos vs j
      have HOP := hidden hopos
      clear ho hy hopos
      have hsz := HB.out.size
      have HCN := hidden hcnt
      have hn9 : o.length ≤ 1000000000 := by omega
      have HN9 := hidden hn9
      clear hcnt hn9 hlen
      by_cases h0 : j = 0
      · have HP := hidden (push_new (y := y) (.inl (HNIL.out h0)))
        have HLN := hidden (show o.length + 1 ≤ 8796093022208 by have := HN9.out; omega)
        have HO0 := hidden (show o = [] from List.getLast?_eq_none_iff.1 (HNIL.out h0))
        have hw := HOW.out
        rw [HO0.out] at hw
        obtain ⟨A2, cap2, rfl⟩ : ∃ A cap, u3 = .slice A 0 cap := by
          obtain ⟨A, c, h1, _⟩ := ReadsR.of_own HOW.out
          rw [HO0.out] at h1
          exact ⟨A, c, h1⟩
        have hj0 : ((j : Int) == 0) = true := by simpa using h0
        have HJ0 := hidden h0
        have HBM := hidden (show rcells ((o ++ [(y, (0 : Int))]).set (o.length) (y, 1)) = rcells (pushR o y) by rw [HP.out]; simp)
        clear h0 hw
        go_wp2_with ((at_builtin; go_loud (refine wpList_append_r rfl _ _ rfl _ o (by rfl) w.heap.size HOW.out _ HB.out hsz _ _ (by rfl) HLN.out ?_); intro v' w3 hown3 hb3; have HB3 := hidden hb3; have HM := own_len hown3; obtain ⟨m, hm1, hm2, hm3⟩ := HM; rw [← hm1] at hown3; have HO3 := hidden hown3; obtain ⟨g, cap, rfl, hbg, hgl, hfz⟩ := own_shape hown3 hm2; have hq := rcells_get hm3; have k2 := hown3.cells (g := g) rfl _ _ hq.2; have f2 := hfz ((m - 1) * 2 + 1) (by omega); have HBG := hidden hbg; rw [Addr.add_lit, Nat.zero_add] at k2; have b1 : (0 : Int) ≤ (m : Int) - 1 := (by omega); have b2 : (m : Int) - 1 < (m : Int) := (by omega); have b3 : ((m : Int) - 1).toNat = m - 1 := (by omega); have HM1 := hidden hm1; have HN9b := HN9.out; have hm9 : m ≤ 1000000001 := (by rw [hm1, List.length_append]; simpa using HN9b); clear hm1 hm3 HN9b hq hfz hgl hown3 hb3))
        refine ⟨⟨j + 1, by omega, by go_num, ?_, HB3.out.setCell (p := ⟨g, (m - 1) * 2 + 1, none⟩) HBG.out _⟩, by simp [intOf]; omega⟩
        rw [HTK.out, HP.out]
        exact own_bump HM1.out HO3.out 1
      · have hj1 : j - 1 < vs.length := by omega
        obtain ⟨cl, hlast⟩ := HLAST.out (by omega)
        obtain ⟨b2, f3, hA, hprev⟩ := HPV.out (by omega)
        injection hA with hA
        injection hA with hA1 hA2
        subst hA1 hA2
        obtain ⟨p, hp⟩ : ∃ p, p = vs[j - 1] := ⟨_, rfl⟩
        rw [← hp] at hlast hprev
        have hj0 : ((j : Int) == 0) = false := by simpa using h0
        have b4 : (0 : Int) ≤ (j : Int) - 1 := by omega
        have b5 : (j : Int) - 1 < (vs.length : Int) := by omega
        have b6 : ((j : Int) - 1).toNat = j - 1 := by omega
        have HS := hidden (last_split hlast)
        obtain ⟨m0, hm0⟩ : ∃ m, m = o.length := ⟨_, rfl⟩
        have hpos : 0 < m0 := by rw [hm0, HS.out]; simp
        have HM0 := hidden hm0
        have hoo := HOW.out
        rw [← hm0] at hoo
        have HOO := hidden hoo
        obtain ⟨g0, cap0, rfl, hbg0, hgl0, hfz0⟩ := own_shape hoo hpos
        by_cases he : y = p
        · have d4 : (y != p) = false := by simpa using he
          have HP := hidden (push_same (y := y) (c := cl) (by rw [he]; exact hlast))
          have HBG := hidden hbg0
          have hget : o[m0 - 1]? = some (p, cl) := by rw [hm0, ← List.getLast?_eq_getElem?]; exact hlast
          have k2 := hoo.cells (g := g0) rfl _ _ (rcells_get hget).2
          rw [Addr.add_lit, Nat.zero_add] at k2
          have f2 := hfz0 ((m0 - 1) * 2 + 1) (by omega)
          have hcl := HCN.out (p, cl) (by rw [HS.out]; simp)
          have hcl1 := HOP.out (p, cl) (by rw [HS.out]; simp)
          have hm9 : m0 ≤ 1000000001 := by have := HN9.out; omega
          have b1 : (0 : Int) ≤ (m0 : Int) - 1 := by omega
          have b2 : (m0 : Int) - 1 < (m0 : Int) := by omega
          have b3 : ((m0 : Int) - 1).toNat = m0 - 1 := by omega
          have hw64 : wrap64 (cl + 1) = cl + 1 := by unfold wrap64; simp only at hcl hcl1; omega
          simp only at hcl hcl1 k2
          have HB4 := hidden (fun d => own_bump (p := o.dropLast) (x := (p, cl)) (m := m0) (by rw [← HS.out]; exact HM0.out) (w := wr) (base := w.heap.size) (g := g0) (cap := cap0) (by rw [← HS.out]; exact HOO.out) d)
          have HE := hidden he
          clear he hoo hlast hp hm0 hget hfz0 hgl0
          go_wp2_with fail
          try rw [hw64]
          refine ⟨⟨j + 1, by omega, by go_num, ?_, HB.out.setCell (p := ⟨g0, (m0 - 1) * 2 + 1, none⟩) HBG.out _⟩, by simp [intOf]; omega⟩
          rw [HTK.out, HP.out, HE.out]
          exact HB4.out _
        · have d4 : (y != p) = true := by simpa using he
          have HP := hidden (push_new (o := o) (y := y) (.inr ⟨p, cl, hlast, fun e => he e.symm⟩))
          have HLN := hidden (show o.length + 1 ≤ 8796093022208 by have := HN9.out; omega)
          clear he hoo hlast hp hm0 hfz0 hgl0
          go_wp2_with ((at_builtin; go_loud (refine wpList_append_r rfl _ _ rfl _ o (by rfl) w.heap.size HOW.out _ HB.out hsz _ _ (by rfl) HLN.out ?_); intro v' w3 hown3 hb3; have HB3 := hidden hb3; have HM := own_len hown3; obtain ⟨m, hm1, hm2, hm3⟩ := HM; rw [← hm1] at hown3; have HO3 := hidden hown3; obtain ⟨g, cap, rfl, hbg, hgl, hfz⟩ := own_shape hown3 hm2; have hq := rcells_get hm3; have k2 := hown3.cells (g := g) rfl _ _ hq.2; have f2 := hfz ((m - 1) * 2 + 1) (by omega); have HBG := hidden hbg; rw [Addr.add_lit, Nat.zero_add] at k2; have b1 : (0 : Int) ≤ (m : Int) - 1 := (by omega); have b2 : (m : Int) - 1 < (m : Int) := (by omega); have b3 : ((m : Int) - 1).toNat = m - 1 := (by omega); have HM1 := hidden hm1; have HN9b := HN9.out; have hm9 : m ≤ 1000000001 := (by rw [hm1, List.length_append]; simpa using HN9b); clear hm1 hm3 HN9b hq hfz hgl hown3 hb3))
          refine ⟨⟨j + 1, by omega, by go_num, ?_, HB3.out.setCell (p := ⟨g, (m - 1) * 2 + 1, none⟩) HBG.out _⟩, by simp [intOf]; omega⟩
          rw [HTK.out, HP.out]
          exact own_bump HM1.out HO3.out 1
    · have hke : j = vs.length := by omega
      subst hke
      have h := HOW.out
      rw [List.take_length] at h
      have HH := hidden h
      clear h
      go_wp2_with fail
      go_ret
      exact ⟨_, rfl, HB.out, ReadsR.of_own HH.out⟩
end Go.Proofs.Ytnjmbhakfecdoaa
