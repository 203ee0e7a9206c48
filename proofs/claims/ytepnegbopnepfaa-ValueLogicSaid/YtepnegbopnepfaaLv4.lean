/-
  Package value as it landed: decide, And, Or over a row of values. Nothing that was there is changed.
-/
import Derived.Test.YtepnegbopnepfaaLv1
import Derived.Test.YtepnegbopnepfaaVLogic
namespace Go.Proofs.Ytepnegbopnepfaa
open Go.RowKit
set_option linter.unusedVariables false
set_option linter.unusedSimpArgs false

/-- a value into a variable just made -/
theorem wpList_store_new {W0 : World} {ops : Array Oper} {rest : List Oper} {o : Oper} {a : Act} {Q : Exit → Act → World → Prop} (hgd : o.guard = none) (x y : Operand) (ho : o.op = .store 23 x y)
    (w : World) {z1 z2 z3 : Value} (hW : W0 = w.alloc (.cells #[z1, z2, z3] 23)) (hx : a.eval x = .pointer (some ⟨w.heap.size, 0, none⟩)) (k n : Int) (t : ByteArray) (hy : a.eval y = .agg #[.int .i64 k, .int .i64 n, .string t])
    (h : ∀ W, Row W w.heap.size 23 [.int .i64 k, .int .i64 n, .string t] → Grows w W → W.heap.size = w.heap.size + 1 → wpList Try.prog ops Q rest (a.put o.dst undef) W) : wpList Try.prog ops Q (o :: rest) a W0 := by
  subst hW
  exact wpList_store_val hgd x y ho w.heap.size hx k n t hy (valRow w z1 z2 z3)
    (h _ (valSet_row (valRow w z1 z2 z3) [.int .i64 k, .int .i64 n, .string t]) (valSet_below (grow1 _) (Nat.le_refl _) _) (by simp [World.setRow]))
theorem rowCells {w : World} {g : Nat} {k n t : Value} (h : Row w g 23 [k, n, t]) : w.cell? ⟨g, 0, none⟩ = some k ∧ w.cell? ⟨g, 1, none⟩ = some n ∧ w.cell? ⟨g, 2, none⟩ = some t := ⟨h.cell 0, h.cell 1, h.cell 2⟩

theorem rowSet_other {w : World} {g g' : Nat} {e : TypeId} {xs : List Value} {cs : Array Value} (h : Row w g e xs) (hne : g ≠ g') : Row (w.setRow g' cs) g e xs := by
  unfold Row at h ⊢
  simp only [World.setRow]
  rw [Array.getElem?_modify, if_neg (by omega)]
  exact h
def decHit (d : Int) (x : Val) : Bool := x.k == 1 && x.n == d
def nonB (x : Val) : Bool := x.k != 1
def resK (u : Bool) : Int := if u then 0 else 1
def resN (d : Int) (u : Bool) : Int := if u then 0 else if d == 0 then 1 else 0
def decL (d : Int) (l : List Val) : Value :=
  if l.any (decHit d) then .agg #[.int .i64 1, .int .i64 d, .string ⟨#[]⟩] else .agg #[.int .i64 (resK (l.any nonB)), .int .i64 (resN d (l.any nonB)), .string ⟨#[]⟩]
def DecRel (w : World) (g : Nat) (d : Int) (l : List Val) (i : Value) (wr : World) : Prop :=
  ∃ j : Nat, j ≤ l.length ∧ i = .int .i64 (j : Int) ∧ (l.take j).any (decHit d) = false ∧ Row wr w.heap.size 23 [.int .i64 1, .int .i64 d, .string ⟨#[]⟩] ∧
    (∃ z1 z2 z3, Row wr (w.heap.size + 1) 23 [z1, z2, z3]) ∧ Row wr g 23 [.int .i64 (resK ((l.take j).any nonB)), .int .i64 (resN d ((l.take j).any nonB)), .string ⟨#[]⟩] ∧ Grows w wr
set_option maxHeartbeats 2000000 in
theorem ldecide_any (d : Int) (v : Value) (l : List Val) (w : World) (hr : ReadsV w v l) (hl : l.length ≤ 9223372036854775806) :
    Calls Try.prog 62 #[.agg #[.int .i64 1, .int .i64 d, .string ⟨#[]⟩], v] w fun e w' => e = .returned (decL d l) ∧ Grows w w' := by
  have HR := hidden hr
  obtain ⟨A, c, rfl, hle, hxx⟩ := hr
  clear hxx
  have HN := hidden (fun w => lnot_any 1 d ⟨#[]⟩ w)
  have HNE := hidden (show notV 1 d = .agg #[.int .i64 1, .int .i64 (resN d false), .string ⟨#[]⟩] from rfl)
  rw [HNE.out] at HN
  go_enter Try.func62, Try.ntmps62
  go_wp2_with fail
  refine (HN.out _).mono ?_
  rintro e w2 ⟨rfl, g2⟩
  have HB0 := hidden ((valRow _ _ _ _).grow g2)
  have HR1 := hidden (((valRow w (.int .i64 1) (.int .i64 d) (.string ⟨#[]⟩)).grow (grow1 _)).grow g2)
  have HR2 := hidden (valRow2 w w2 _ _ _ _ g2)
  have HG2 := hidden ((grow2 _ _).of_below g2)
  have HG3 := hidden (show w.heap.size + 1 < w2.heap.size by have := (valRow2 w w2 _ _ _ _ g2).lt; omega)
  clear HB0 g2
  go_wp2_with (refine wpList_store_new rfl _ _ rfl _ rfl rfl _ _ _ rfl ?_; intro W hrW hgW hsW)
  have HS := hidden hsW
  have HRW := hidden hrW
  have HQ1 := hidden (HR1.out.grow hgW)
  have HQ2 := hidden (HR2.out.grow hgW)
  have HGW := hidden (HG2.out.of_below hgW)
  clear hrW hgW hsW
  go_loopw [12] (fun i wr => DecRel w w2.heap.size d l i wr) (fun i _ => l.length - (intOf i).toNat)
  case atStart => exact ⟨0, Nat.zero_le _, rfl, rfl, HQ1.out, ⟨_, _, _, HQ2.out⟩, HRW.out, HGW.out⟩
  case round =>
    obtain ⟨j, hj, rfl, hv, r1, ⟨z1, z2, z3, r2⟩, r3, hb⟩ := hrel
    have HV := hidden hv
    have HB := hidden hb
    have H1 := hidden r1
    have H2 := hidden r2
    have H3 := hidden r3
    have HSZ := hidden (HG2.out.size)
    clear hv hb r1 r2 r3
    by_cases hlt : j < l.length
    · obtain ⟨A', c', he, _, hcell⟩ := HR.out.grow HB.out
      injection he with e1 e2 e3
      subst e1 e3
      obtain ⟨b, off, rfl, hcell2⟩ := hcell (by omega)
      obtain ⟨x, hx⟩ : ∃ x, l[j]? = some x := ⟨_, List.getElem?_eq_getElem hlt⟩
      obtain ⟨c1, c2, c3⟩ := hcell2 j x hx
      have HX := hidden hx
      have HSP := hidden (any_step (p := decHit d) hx)
      have HSQ := hidden (any_step (p := nonB) hx)
      have hj0 : (0 : Int) ≤ (j : Int) := by omega
      have hj1 : (j : Int) < (l.length : Int) := by omega
      have hd : decide (j < l.length) = true := by simpa using hlt
      clear hcell hcell2 e2 hx
      generalize (l.take j).any nonB = uu at *
      by_cases hk : x.k = 1
      · have hkn : (x.k != 1) = false := by simpa using hk
        by_cases hn : x.n = d
        · have hnn : (x.n == d) = true := by simpa using hn
          have HE := hidden (show decL d l = .agg #[.int .i64 1, .int .i64 d, .string ⟨#[]⟩] by unfold decL; rw [if_pos (any_hit HX.out (by simp [decHit, hk, hn]))])
          clear hk hn
          go_wp2_with (first | (refine wpList_store_new rfl _ _ rfl _ rfl rfl _ _ _ rfl ?_; intro W1 hrW hgW hsW; have k1 := (rowCells hrW).1; have k2 := (rowCells hrW).2.1; have q1 := (rowCells (H1.out.grow hgW)).1; have q2 := (rowCells (H1.out.grow hgW)).2.1; have q3 := (rowCells (H1.out.grow hgW)).2.2; have HW1 := hidden hgW; clear hrW hgW hsW c1 c2 c3) | (refine wpList_store_val rfl _ _ rfl (w.heap.size + 1) rfl _ _ _ rfl (H2.out.grow HW1.out) ?_))
          exact bodyPost_ret (results_val rfl _ _ _ _ _ _ rfl (valSet_row (H2.out.grow HW1.out) [.int .i64 1, .int .i64 d, .string ⟨#[]⟩])) rfl ⟨by rw [HE.out], valSet_below (HB.out.of_below HW1.out) (by omega) _⟩
        · have hnn : (x.n == d) = false := by simpa using hn
          have HH := hidden (show decHit d x = false by simp [decHit, hn])
          have HU := hidden (show nonB x = false by simp [nonB, hk])
          clear hk hn
          go_wp2_with (first | (refine wpList_store_new rfl _ _ rfl _ rfl rfl _ _ _ rfl ?_; intro W1 hrW hgW hsW; have k1 := (rowCells hrW).1; have k2 := (rowCells hrW).2.1; have q1 := (rowCells (H1.out.grow hgW)).1; have q2 := (rowCells (H1.out.grow hgW)).2.1; have q3 := (rowCells (H1.out.grow hgW)).2.2; have HW1 := hidden hgW; clear hrW hgW hsW c1 c2 c3) | fail)
          go_roundw
          case rel => exact ⟨j + 1, by omega, by go_num, by rw [HSP.out, HV.out, HH.out]; rfl, H1.out.grow HW1.out, ⟨_, _, _, H2.out.grow HW1.out⟩, by rw [HSQ.out, HU.out, Bool.or_false]; exact H3.out.grow HW1.out, HB.out.of_below HW1.out⟩
          case measure => simp [intOf]; omega
      · have hkn : (x.k != 1) = true := by simpa using hk
        have HH := hidden (show decHit d x = false by simp [decHit, hk])
        have HU := hidden (show nonB x = true by simp [nonB, hk])
        clear hk
        go_wp2_with (first | (refine wpList_store_new rfl _ _ rfl _ rfl rfl _ _ _ rfl ?_; intro W1 hrW hgW hsW; have k1 := (rowCells hrW).1; have k2 := (rowCells hrW).2.1; have q1 := (rowCells (H1.out.grow hgW)).1; have q2 := (rowCells (H1.out.grow hgW)).2.1; have q3 := (rowCells (H1.out.grow hgW)).2.2; have HW1 := hidden hgW; clear hrW hgW hsW c1 c2 c3) | (refine wpList_store_val rfl _ _ rfl w2.heap.size rfl _ _ _ rfl (H3.out.grow HW1.out) ?_))
        go_roundw
        case rel =>
          refine ⟨j + 1, by omega, by go_num, by rw [HSP.out, HV.out, HH.out]; rfl, rowSet_other (H1.out.grow HW1.out) ?_, ⟨_, _, _, rowSet_other (H2.out.grow HW1.out) ?_⟩, ?_, valSet_below (HB.out.of_below HW1.out) ?_ _⟩
          · have := HSZ.out; have := HG3.out; omega
          · have := HSZ.out; have := HG3.out; omega
          · rw [HSQ.out, HU.out, Bool.or_true]; exact valSet_row (H3.out.grow HW1.out) [.int .i64 0, .int .i64 0, .string ⟨#[]⟩]
          · exact HSZ.out
        case measure => simp [intOf]; omega
    · have hd : decide (j < l.length) = false := by simpa using hlt
      have htk : l.take j = l := List.take_of_length_le (by omega)
      rw [htk] at HV H3
      have HE := hidden (show decL d l = .agg #[.int .i64 (resK (l.any nonB)), .int .i64 (resN d (l.any nonB)), .string ⟨#[]⟩] by unfold decL; rw [HV.out]; rfl)
      have q1 := (rowCells H3.out).1
      have q2 := (rowCells H3.out).2.1
      have q3 := (rowCells H3.out).2.2
      generalize resK (l.any nonB) = rk at *
      generalize resN d (l.any nonB) = rn at *
      clear htk
      go_wp2_with (refine wpList_store_val rfl _ _ rfl (w.heap.size + 1) rfl _ _ _ rfl H2.out ?_)
      exact bodyPost_ret (results_val rfl _ _ _ _ _ _ rfl (valSet_row H2.out [.int .i64 rk, .int .i64 rn, .string ⟨#[]⟩])) rfl ⟨by rw [HE.out], valSet_below HB.out (by omega) _⟩
end Go.Proofs.Ytepnegbopnepfaa
