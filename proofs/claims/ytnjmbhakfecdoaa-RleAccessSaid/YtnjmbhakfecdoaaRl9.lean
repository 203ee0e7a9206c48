/-
  The reference's Matching over runs. Nothing that was there is changed.
-/
import Derived.Test.YtnjmbhakfecdoaaRl4
import Derived.Test.YtnjmbhakfecdoaaBsRef2
namespace Go.Proofs.Ytnjmbhakfecdoaa
open Go.RowKit
set_option linter.unusedVariables false
set_option linter.unusedSimpArgs false

/-- the comparison that an operator means: 1 equal, 3 less, 5 greater -/
def prd (op n v : Int) : Bool := if op = 1 then v == n else if op = 3 then decide (v < n) else decide (n < v)
def selF (op n : Int) (vs : List Int) : Nat → Bool := fun j => prd op n (vs.getD j 0)
theorem sel_on {n k : Nat} {F : Nat → Bool} (hk : k < n) (hF : F k = true) : pack n (onAt (mem n (pack n (upto F k))) (k : Int) true) = pack n (upto F (k + 1)) := by
  apply pack_congr
  intro j hj
  unfold onAt
  by_cases e : (j : Int) = (k : Int)
  · rw [if_pos e]
    have : j = k := by omega
    subst this
    simp [upto, hF]
  · rw [if_neg e, mem_pack]
    unfold upto
    have h1 : decide (j < n) = true := by simpa using hj
    have h2 : decide (j < k + 1) = decide (j < k) := by rw [decide_eq_decide]; omega
    rw [h1, h2, Bool.true_and]
theorem sel_off {n k : Nat} {F : Nat → Bool} (hF : F k = false) : pack n (upto F k) = pack n (upto F (k + 1)) := bit_miss hF
def MtRel (w w1 : World) (B N : Nat) (F : Nat → Bool) (i : Value) (wr : World) : Prop :=
  ∃ (k g : Nat), k ≤ N ∧ i = .int .i64 (k : Int) ∧ (g ≠ B ∧ w1.heap.size ≤ g) ∧ Row wr B 39 [.int .i64 (N : Int), .slice (some ⟨g, 0, none⟩) (nw N) (nw N)] ∧ Row wr g 61 (ucells (pack N (upto F k))) ∧ Below w1.heap.size w1 wr ∧ B < wr.heap.size
theorem setRow_below {B g : Nat} {a w : World} (h : Below B a w) (hg : B ≤ g) (cs : Array Value) : Below B a (w.setRow g cs) := below_setRow h hg cs
set_option maxHeartbeats 2000000 in
theorem rlmatching_any (v : Value) (l : List Rn) (op n : Int) (w : World) (hv : ReadsR w v l) (hval : validR l = true) (hop : op = 1 ∨ op = 3 ∨ op = 5) :
    Calls Try.prog 23 #[v, .int .i64 op, .int .i64 n] w (FreshSet (expR l).length (pack (expR l).length (selF op n (expR l))) w) := by
  have hll := valid_length hval
  have hel := valid_expR hval
  have HG0 := hidden (show Grows w (w.alloc (.cells #[.int .i64 0, .slice none 0 0] 39)) from (Below.refl _ _).alloc (Nat.le_refl _) _)
  have HR0 := hidden (Row.new w 39 #[.int .i64 0, .slice none 0 0] [.int .i64 0, .slice none 0 0] rfl)
  have HEX := hidden (rlexpand_any v l _ (hv.grow HG0.out) (by omega))
  have HE1 := hidden (show expI l = expR l by unfold expI; rw [hval]; rfl)
  have HE2 := hidden (show expE l = 0 by unfold expE; rw [hval]; rfl)
  obtain ⟨A, c, rfl⟩ := hv.slice_
  generalize expR l = vs at *
  go_enter Try.func23, Try.ntmps23
  go_wp2_with fail
  refine HEX.out.mono ?_
  rintro e w1 ⟨u, rfl, g1, hu⟩
  rw [HE1.out] at hu
  rw [HE2.out]
  have HU := hidden hu
  obtain ⟨A1, c1, rfl⟩ := hu.slice_
  have HG1 := hidden (HG0.out.of_below g1)
  have HR1 := hidden (HR0.out.grow g1)
  clear g1 hu
  go_wp2_with fail
  refine (rnew_any (vs.length : Int) w1 (by omega) (by omega)).mono ?_
  rintro e w2 ⟨g, hg, rfl, hrow, g2⟩
  rw [newN_nat (by omega)] at hrow ⊢
  rw [pack_length]
  rw [pack_zero _ (selF op n vs)] at hrow
  have hgl := hrow.lt
  have HG2 := hidden (g2.alloc g2.size (.cells #[.int .i64 (vs.length : Int), .slice (some ⟨g, 0, none⟩) (nw vs.length) (nw vs.length)] 39))
  have HR2 := hidden (hrow.grow ((Below.refl w2.heap.size w2).alloc (Nat.le_refl _) (.cells #[.int .i64 (vs.length : Int), .slice (some ⟨g, 0, none⟩) (nw vs.length) (nw vs.length)] 39)))
  have HB2 := hidden (Row.new w2 39 #[.int .i64 (vs.length : Int), .slice (some ⟨g, 0, none⟩) (nw vs.length) (nw vs.length)] _ rfl)
  clear hrow g2
  have hgB : g ≠ w2.heap.size := by omega
  have hw12 : w1.heap.size ≤ w2.heap.size := by have := HG2.out.size; simp at this; omega
  have HH := hidden (And.intro hgB (And.intro hg hw12))
  have hF : ∀ k, (h : k < vs.length) → selF op n vs k = prd op n vs[k] := fun k h => by unfold selF; rw [List.getD_eq_getElem?_getD, List.getElem?_eq_getElem h]; rfl
  have HF := hidden hF
  generalize selF op n vs = F at *
  clear hF
  go_wp2_with fail
  go_loopw [10] (fun i wr => MtRel w w1 w2.heap.size vs.length F i wr) (fun i _ => vs.length - (intOf i).toNat)
  case atStart => exact ⟨0, g, by omega, rfl, ⟨hgB, hg⟩, HB2.out, HR2.out, HG2.out, by simp⟩
  case round =>
    obtain ⟨k, g', hk, rfl, ⟨hg1, hg2⟩, hrb, hrg, hb, hsz⟩ := hrel
    have HRB := hidden hrb
    have HRG := hidden hrg
    have HB := hidden hb
    have cb0 := hrb.cell 0
    have cb1 := hrb.cell 1
    simp only [List.getElem?_cons_zero, List.getElem?_cons_succ] at cb0 cb1
    clear hrb hrg hb
    by_cases hlt : k < vs.length
    · obtain ⟨b, f, rfl, hcell⟩ := (HU.out.grow HB.out).at_ hlt
      have HFK := hidden (HF.out k hlt)
      generalize vs[k] = y at *
      cases hp : F k
      · have HOFF := hidden (sel_off (n := vs.length) hp)
        have hpr := HFK.out.symm.trans hp
        clear hp
        rcases hop with rfl | rfl | rfl
        · have d : (y == n) = false := hpr
          go_wp2_with fail
          exact ⟨⟨k + 1, g', by omega, by go_num, ⟨hg1, hg2⟩, HRB.out, by rw [← HOFF.out]; exact HRG.out, HB.out, hsz⟩, by simp [intOf]; omega⟩
        · have d : decide (y < n) = false := hpr
          go_wp2_with fail
          exact ⟨⟨k + 1, g', by omega, by go_num, ⟨hg1, hg2⟩, HRB.out, by rw [← HOFF.out]; exact HRG.out, HB.out, hsz⟩, by simp [intOf]; omega⟩
        · have d : decide (n < y) = false := hpr
          go_wp2_with fail
          exact ⟨⟨k + 1, g', by omega, by go_num, ⟨hg1, hg2⟩, HRB.out, by rw [← HOFF.out]; exact HRG.out, HB.out, hsz⟩, by simp [intOf]; omega⟩
      · have HON := hidden (sel_on (n := vs.length) hlt hp)
        have hpr := HFK.out.symm.trans hp
        have HIS := hidden (show IsSet wr (.agg #[.int .i64 (vs.length : Int), .slice (some ⟨g', 0, none⟩) (nw vs.length) (nw vs.length)]) vs.length (pack vs.length (upto F k)) from
          ⟨_, rfl, Reads.of_row HRG.out _ _ (by rw [ucells_length, pack_length]) (Nat.le_refl _), by rw [pack_length]; unfold nw; omega, by omega⟩)
        have HST := hidden (rset_any _ vs.length (pack vs.length (upto F k)) (k : Int) true wr HIS.out (by omega) (by omega))
        clear hp
        rcases hop with rfl | rfl | rfl
        · have d : (y == n) = true := hpr
          go_wp2_with fail
          refine (Calls.mono HST.out ?_)
          rintro e w3 ⟨g3, hg3, rfl, hr3, hb3⟩
          rw [HON.out] at hr3
          rw [pack_length]
          have HRB3 := hidden (HRB.out.grow hb3)
          have HRS := hidden (HRB3.out.setRow_ [.int .i64 (vs.length : Int), .slice (some ⟨g3, 0, none⟩) (nw vs.length) (nw vs.length)] rfl)
          have hb13 := HB.out.trans (hb3.mono HB.out.size)
          have hne : g3 ≠ w2.heap.size := by omega
          have HRG3 := hidden (show Row (w3.setRow w2.heap.size #[.int .i64 (vs.length : Int), .slice (some ⟨g3, 0, none⟩) (nw vs.length) (nw vs.length)]) g3 61 (ucells (pack vs.length (upto F (k + 1)))) from by
            unfold Row at hr3 ⊢
            rw [setRow_other _ _ _ _ hne]
            exact hr3)
          have HB3 := hidden (below_setRow hb13 (g := w2.heap.size) HH.out.2.2 #[.int .i64 (vs.length : Int), .slice (some ⟨g3, 0, none⟩) (nw vs.length) (nw vs.length)])
          have hs3 := hb3.size
          have HFIN := hidden (show g3 ≠ w2.heap.size ∧ w1.heap.size ≤ g3 by have := HB.out.size; omega)
          have HS3 := hidden (show w2.heap.size < (w3.setRow w2.heap.size #[.int .i64 (vs.length : Int), .slice (some ⟨g3, 0, none⟩) (nw vs.length) (nw vs.length)]).heap.size by simp [World.setRow]; omega)
          clear hr3 hb3 hb13 hg3 hs3 cb0 cb1
          go_wp2_with (refine wpList_store_set rfl _ _ rfl w2.heap.size rfl _ _ _ _ _ rfl HRB3.out ?_)
          exact ⟨⟨k + 1, g3, by omega, by go_num, HFIN.out, HRS.out, HRG3.out, HB3.out, HS3.out⟩, by simp [intOf]; omega⟩
        · have d : decide (y < n) = true := hpr
          go_wp2_with fail
          refine (Calls.mono HST.out ?_)
          rintro e w3 ⟨g3, hg3, rfl, hr3, hb3⟩
          rw [HON.out] at hr3
          rw [pack_length]
          have HRB3 := hidden (HRB.out.grow hb3)
          have HRS := hidden (HRB3.out.setRow_ [.int .i64 (vs.length : Int), .slice (some ⟨g3, 0, none⟩) (nw vs.length) (nw vs.length)] rfl)
          have hb13 := HB.out.trans (hb3.mono HB.out.size)
          have hne : g3 ≠ w2.heap.size := by omega
          have HRG3 := hidden (show Row (w3.setRow w2.heap.size #[.int .i64 (vs.length : Int), .slice (some ⟨g3, 0, none⟩) (nw vs.length) (nw vs.length)]) g3 61 (ucells (pack vs.length (upto F (k + 1)))) from by
            unfold Row at hr3 ⊢
            rw [setRow_other _ _ _ _ hne]
            exact hr3)
          have HB3 := hidden (below_setRow hb13 (g := w2.heap.size) HH.out.2.2 #[.int .i64 (vs.length : Int), .slice (some ⟨g3, 0, none⟩) (nw vs.length) (nw vs.length)])
          have hs3 := hb3.size
          have HFIN := hidden (show g3 ≠ w2.heap.size ∧ w1.heap.size ≤ g3 by have := HB.out.size; omega)
          have HS3 := hidden (show w2.heap.size < (w3.setRow w2.heap.size #[.int .i64 (vs.length : Int), .slice (some ⟨g3, 0, none⟩) (nw vs.length) (nw vs.length)]).heap.size by simp [World.setRow]; omega)
          clear hr3 hb3 hb13 hg3 hs3 cb0 cb1
          go_wp2_with (refine wpList_store_set rfl _ _ rfl w2.heap.size rfl _ _ _ _ _ rfl HRB3.out ?_)
          exact ⟨⟨k + 1, g3, by omega, by go_num, HFIN.out, HRS.out, HRG3.out, HB3.out, HS3.out⟩, by simp [intOf]; omega⟩
        · have d : decide (n < y) = true := hpr
          go_wp2_with fail
          refine (Calls.mono HST.out ?_)
          rintro e w3 ⟨g3, hg3, rfl, hr3, hb3⟩
          rw [HON.out] at hr3
          rw [pack_length]
          have HRB3 := hidden (HRB.out.grow hb3)
          have HRS := hidden (HRB3.out.setRow_ [.int .i64 (vs.length : Int), .slice (some ⟨g3, 0, none⟩) (nw vs.length) (nw vs.length)] rfl)
          have hb13 := HB.out.trans (hb3.mono HB.out.size)
          have hne : g3 ≠ w2.heap.size := by omega
          have HRG3 := hidden (show Row (w3.setRow w2.heap.size #[.int .i64 (vs.length : Int), .slice (some ⟨g3, 0, none⟩) (nw vs.length) (nw vs.length)]) g3 61 (ucells (pack vs.length (upto F (k + 1)))) from by
            unfold Row at hr3 ⊢
            rw [setRow_other _ _ _ _ hne]
            exact hr3)
          have HB3 := hidden (below_setRow hb13 (g := w2.heap.size) HH.out.2.2 #[.int .i64 (vs.length : Int), .slice (some ⟨g3, 0, none⟩) (nw vs.length) (nw vs.length)])
          have hs3 := hb3.size
          have HFIN := hidden (show g3 ≠ w2.heap.size ∧ w1.heap.size ≤ g3 by have := HB.out.size; omega)
          have HS3 := hidden (show w2.heap.size < (w3.setRow w2.heap.size #[.int .i64 (vs.length : Int), .slice (some ⟨g3, 0, none⟩) (nw vs.length) (nw vs.length)]).heap.size by simp [World.setRow]; omega)
          clear hr3 hb3 hb13 hg3 hs3 cb0 cb1
          go_wp2_with (refine wpList_store_set rfl _ _ rfl w2.heap.size rfl _ _ _ _ _ rfl HRB3.out ?_)
          exact ⟨⟨k + 1, g3, by omega, by go_num, HFIN.out, HRS.out, HRG3.out, HB3.out, HS3.out⟩, by simp [intOf]; omega⟩
    · have hke : k = vs.length := by omega
      subst hke
      have hr1 := HR1.out.grow HB.out
      have HRR := hidden hr1
      have hr1l := HR1.out.lt
      have HRS := hidden (hr1.setRow_ [.int .i64 (vs.length : Int), .slice (some ⟨g', 0, none⟩) (nw vs.length) (nw vs.length)] rfl)
      have HALL := hidden (pack_all (n := vs.length) (f := F) (Nat.le_refl vs.length))
      have HGW := hidden (HG1.out.of_below HB.out)
      have hw01 := HG1.out.size
      have HNE := hidden (show w.heap.size ≤ g' ∧ g' ≠ w.heap.size by omega)
      clear hr1
      go_wp2_with (refine wpList_store_set rfl _ _ rfl w.heap.size rfl _ _ _ _ _ rfl HRR.out ?_)
      refine bodyPost_ret (results_set rfl _ _ _ _ _ rfl HRS.out) rfl ⟨g', HNE.out.1, by rw [pack_length], ?_, below_setRow HGW.out (Nat.le_refl _) _⟩
      have h := HRG.out
      rw [HALL.out] at h
      unfold Row at h ⊢
      rw [setRow_other _ _ _ _ HNE.out.2]
      exact h
end Go.Proofs.Ytnjmbhakfecdoaa
