/-
  Package literal as it landed: FormatRow. Nothing that was there is changed; the listed variables lie as the program's text lays them ('Fit').
-/
import Derived.Test.YtaiphocnfkkigaaDoorLb2
import Derived.Test.YtaiphocnfkkigaaDoorLtR
import Derived.Test.YtaiphocnfkkigaaDoorMk
namespace Go.Proofs.YtaiphocnfkkigaaDoor
open Go.RowKit
set_option linter.unusedVariables false
set_option linter.unusedSimpArgs false

theorem wpList_store_new {W0 : World} {ops : Array Oper} {rest : List Oper} {o : Oper} {a : Act} {Q : Exit → Act → World → Prop} (hgd : o.guard = none) (x y : Operand) (ho : o.op = .store 37 x y)
    (w : World) {z1 z2 z3 : Value} (hW : W0 = w.alloc (.cells #[z1, z2, z3] 37)) (hx : a.eval x = .pointer (some ⟨w.heap.size, 0, none⟩)) (k n : Int) (t : ByteArray) (hy : a.eval y = .agg #[.int .i64 k, .int .i64 n, .string t])
    (h : ∀ W, Row W w.heap.size 37 [.int .i64 k, .int .i64 n, .string t] → Grows w W → W.heap.size = w.heap.size + 1 → wpList Tryd.prog ops Q rest (a.put o.dst undef) W) : wpList Tryd.prog ops Q (o :: rest) a W0 := by
  subst hW
  exact wpList_store_val hgd x y ho w.heap.size hx k n t hy (valRow w z1 z2 z3)
    (h _ (valSet_row (valRow w z1 z2 z3) [.int .i64 k, .int .i64 n, .string t]) (valSet_below (grow1 _) (Nat.le_refl _) _) (by simp [World.setRow]))
theorem rowCells {w : World} {g : Nat} {k n t : Value} (h : Row w g 37 [k, n, t]) : w.cell? ⟨g, 0, none⟩ = some k ∧ w.cell? ⟨g, 1, none⟩ = some n ∧ w.cell? ⟨g, 2, none⟩ = some t := ⟨h.cell 0, h.cell 1, h.cell 2⟩
/-- a Bool is false or true -/
def boolV1 (x : Val) : Prop := x.k = 1 → x.n = 0 ∨ x.n = 1
def frow (l : List Val) (j : Nat) : List Value := (List.range l.length).map fun i => match l[i]? with | some x => if i < j then .string (strOf (litV x)) else .string ⟨#[]⟩ | none => .string ⟨#[]⟩
theorem frow_length (l : List Val) (j : Nat) : (frow l j).length = l.length := by simp [frow]
theorem frow_get {l : List Val} {j i : Nat} {x : Val} (h : l[i]? = some x) : (frow l j)[i]? = some (if i < j then .string (strOf (litV x)) else .string ⟨#[]⟩) := by
  have hlt : i < l.length := by
    rcases Nat.lt_or_ge i l.length with h1 | h1
    · exact h1
    · rw [List.getElem?_eq_none h1] at h; cases h
  unfold frow
  rw [List.getElem?_map, List.getElem?_range hlt]
  simp [h]
theorem frow_zero (l : List Val) : frow l 0 = List.replicate l.length (Value.string ⟨#[]⟩) := by
  apply List.ext_getElem?
  intro i
  by_cases hi : i < l.length
  · rw [frow_get (List.getElem?_eq_getElem hi), if_neg (by omega), List.getElem?_replicate, if_pos hi]
  · rw [List.getElem?_eq_none (by rw [frow_length]; omega), List.getElem?_eq_none (by simp; omega)]
theorem frow_set {l : List Val} {j : Nat} {x : Val} (h : l[j]? = some x) : (frow l j).set j (.string (strOf (litV x))) = frow l (j + 1) := by
  have hjl : j < l.length := by
    rcases Nat.lt_or_ge j l.length with h1 | h1
    · exact h1
    · rw [List.getElem?_eq_none h1] at h; cases h
  apply List.ext_getElem?
  intro i
  by_cases hi : i < l.length
  · have hy := List.getElem?_eq_getElem hi
    rw [List.getElem?_set, frow_get hy, frow_get hy, frow_length]
    by_cases e : j = i
    · subst e
      have e2 : l[j]'hi = x := by rw [hy] at h; injection h
      rw [if_pos rfl, if_pos hi, if_pos (by omega), e2]
    · rw [if_neg e]
      by_cases hl : i < j
      · rw [if_pos hl, if_pos (by omega)]
      · rw [if_neg hl, if_neg (by omega)]
  · rw [List.getElem?_eq_none (by rw [List.length_set, frow_length]; omega), List.getElem?_eq_none (by rw [frow_length]; omega)]
theorem frow_all (l : List Val) : frow l l.length = (l.map litV).map fun p => Value.string (strOf p) := by
  apply List.ext_getElem?
  intro i
  by_cases hi : i < l.length
  · rw [frow_get (List.getElem?_eq_getElem hi), if_pos hi, List.getElem?_map, List.getElem?_map, List.getElem?_eq_getElem hi]
    rfl
  · rw [List.getElem?_eq_none (by rw [frow_length]; omega), List.getElem?_eq_none (by simp; omega)]
def LFRel (w : World) (l : List Val) (i : Value) (wr : World) : Prop := ∃ j : Nat, j ≤ l.length ∧ i = .int .i64 (j : Int) ∧ Row wr w.heap.size 9 (frow l j) ∧ Grows w wr
set_option maxHeartbeats 4000000 in
theorem lformatrow_any (v : Value) (l : List Val) (w : World) (hf : Fit w) (hr : ReadsV w v l) (hs : ∀ x ∈ l, smallV x ∧ boolV1 x) (hl : l.length ≤ 1048576) : Calls Tryd.prog 26 #[v] w fun e w' => e = .returned (.string (strOf (rowL l))) ∧ Grows w w' := by
  have HR := hidden hr
  have HS := hidden hs
  have HF := hidden (fun w2 (g : Grows w w2) => hf.grow g)
  obtain ⟨A, c, rfl, hle, hxx⟩ := hr
  clear hxx hs hf
  have hmk := fun W => run_make_one (P := Tryd.prog) 59 9 (.string ⟨#[]⟩) 16 Tryd.underlying59 info_str rfl l.length (by omega) (by omega) W
  have HZ := hidden (frow_zero l)
  go_enter Tryd.func26, Tryd.ntmps26
  go_wp2_with fail
  clear hmk
  go_loopw [11] (fun i wr => LFRel w l i wr) (fun i _ => l.length - (intOf i).toNat)
  case atStart => exact ⟨0, Nat.zero_le _, rfl, Row.new _ _ _ _ (by rw [HZ.out]; simp), (Below.refl _ _).alloc (Nat.le_refl _) _⟩
  case round =>
    obtain ⟨j, hj, rfl, hrow, hb⟩ := hrel
    have HRW := hidden hrow
    have HB := hidden hb
    clear hrow hb
    by_cases hlt : j < l.length
    · obtain ⟨A', c', he, _, hcell⟩ := HR.out.grow HB.out
      injection he with e1 e2 e3
      subst e1 e3
      obtain ⟨b, off, rfl, hcell2⟩ := hcell (by omega)
      obtain ⟨x, hx⟩ : ∃ x, l[j]? = some x := ⟨_, List.getElem?_eq_getElem hlt⟩
      obtain ⟨c1, c2, c3⟩ := hcell2 j x hx
      have HX := hidden hx
      have hj0 : (0 : Int) ≤ (j : Int) := by omega
      have hj1 : (j : Int) < (l.length : Int) := by omega
      have hd : decide (j < l.length) = true := by simpa using hlt
      have HSM := hidden (HS.out x (List.mem_of_getElem? hx))
      have HFM := hidden (fun w2 (g : Grows w w2) => lformatv_any x.k x.n x.t.data.toList w2 (HF.out w2 g) HSM.out.1.1.1 (by have := HSM.out.1.1.2; omega) HSM.out.2 (by have h1 := HSM.out.1.2; have h2 : x.t.data.toList.length = x.t.size := rfl; omega))
      have HST := hidden (frow_set hx)
      clear hcell hcell2 e2 hx
      go_wp2_with (first
        | (refine wpList_store_new rfl (.tmp 5) _ rfl _ rfl rfl _ _ _ rfl ?_; intro W1 hrW hgW hsW; have k1 := (rowCells hrW).1; have k2 := (rowCells hrW).2.1; have k3 := (rowCells hrW).2.2; have HRW1 := hidden (HRW.out.grow hgW); have HB1 := hidden (HB.out.of_below hgW); clear hrW hgW hsW c1 c2 c3))
      refine (HFM.out _ HB1.out).mono ?_
      rintro e w2 ⟨rfl, g2⟩
      have hrow2 := HRW1.out.grow g2
      have HR2 := hidden hrow2
      have HB2 := hidden (HB1.out.of_below g2)
      have hcl := hrow2.cell j
      rw [frow_get HX.out] at hcl
      have hfr := hrow2.frozen j
      clear g2 k1 k2 k3 hrow2
      go_wp2_with fail
      go_roundw
      case rel =>
        refine ⟨j + 1, by omega, by go_num, ?_, HB2.out.setCell (Nat.le_refl _) _⟩
        have h := HR2.out.set_ j (.string (strOf (litV x)))
        rw [HST.out] at h
        exact h
      case measure => simp [intOf]; omega
    · have hd : decide (j < l.length) = false := by simpa using hlt
      have HJ := hidden (show j = l.length by omega)
      have HRX := hidden (show Row wr w.heap.size 9 ((l.map litV).map fun p => Value.string (strOf p)) by have h := HRW.out; rw [HJ.out, frow_all] at h; exact h)
      have HJN := hidden (lib_join w.heap.size l.length (l.map litV) wr HRX.out HRX.out.lt (by rw [List.length_map]; exact hl) (by rw [List.length_map]; exact Nat.le_refl _) (by
        have h := rowL_length (fun x hx => (HS.out x hx).1) l.length (Nat.le_refl _)
        rw [List.take_of_length_le (Nat.le_refl _)] at h
        unfold rowL at h
        omega))
      rw [List.length_map] at HJN
      go_wp2_with ((go_at_call 42; refine HJN.out.mono ?_; rintro e w3 ⟨rfl, g3⟩; have HG3 := hidden (HB.out.of_below g3); clear g3))
      go_ret
      exact ⟨rfl, HG3.out⟩
end Go.Proofs.YtaiphocnfkkigaaDoor
