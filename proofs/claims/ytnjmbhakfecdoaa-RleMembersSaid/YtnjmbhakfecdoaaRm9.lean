/-
  The laws' sameBits and their two function literals. Nothing that was there is changed, but for the counter of calls.
-/
import Derived.Test.YtnjmbhakfecdoaaRm5
import Derived.Test.YtnjmbhakfecdoaaBsRef6
namespace Go.Proofs.Ytnjmbhakfecdoaa
open Go.RowKit
set_option linter.unusedVariables false
set_option linter.unusedSimpArgs false

def SbRel (w : World) (na nb : Int) (va vb : Value) (wa wb : List UInt64) (k : Value) (wr : World) : Prop :=
  ∃ j : Nat, j ≤ wa.length ∧ k = .int .i64 j ∧ wa.take j = wb.take j ∧ Row wr w.heap.size 39 [.int .i64 na, va] ∧ Row wr (w.heap.size + 1) 39 [.int .i64 nb, vb] ∧ Below w.heap.size w wr

set_option maxHeartbeats 1000000 in
theorem sameBits_any (s t : Value) (na nb : Int) (wa wb : List UInt64) (w : World) (hs : IsPair w s na wa) (ht : IsPair w t nb wb) :
    Calls Try.prog 22 #[s, t] w fun e w' => e = .returned (.bool (pairEq na nb wa wb)) ∧ Grows w w' := by
  have HS := hidden hs
  have HT := hidden ht
  obtain ⟨v, rfl, hr, hla⟩ := hs
  obtain ⟨A, d, rfl, _⟩ := hr.slice_
  obtain ⟨u, rfl, hr', hlb⟩ := ht
  obtain ⟨B, d', rfl, _⟩ := hr'.slice_
  rw [ucells_length] at HS hr ⊢
  rw [ucells_length] at HT hr' ⊢
  have HRA := hidden hr
  have HRB := hidden hr'
  have hG : ∀ o p, Grows w ((w.alloc o).alloc p) := fun o p => ((Below.refl _ _).alloc (Nat.le_refl _) o).alloc (by simp) p
  have HG := hidden hG
  clear hr hr' hG
  by_cases hne : na = nb ∧ wa.length = wb.length
  · obtain ⟨rfl, hlen⟩ := hne
    have hd1 : ((wa.length : Int) != (wb.length : Int)) = false := by simp; omega
    have HLN := hidden hlen
    clear hlen
    go_enter Try.func22, Try.ntmps22
    go_wp2_with fail
    go_loopw [5] (fun k wr => SbRel w na na (.slice A wa.length d) (.slice B wb.length d') wa wb k wr) (fun k _ => wa.length - (intOf k).toNat)
    case atStart => exact ⟨0, by omega, rfl, rfl, (Row.new w _ _ _ rfl).grow ((Below.refl _ _).alloc (Nat.le_refl _) _), Row.at_ _ _ _ _ rfl _ (by simp), HG.out _ _⟩
    case round =>
      obtain ⟨j, hj, rfl, hsame, r1, r2, hb⟩ := hrel
      have hc0 := r1.cell 0
      have hc1 := r1.cell 1
      have hd0 := r2.cell 0
      have he1 := r2.cell 1
      simp only [List.getElem?_cons_zero, List.getElem?_cons_succ] at hc0 hc1 hd0 he1
      have R1 := hidden r1
      have R2 := hidden r2
      have HB := hidden hb
      have HSM := hidden hsame
      have hlen := HLN.out
      clear r1 r2 hb hsame
      by_cases hlt : j < wa.length
      · have hlt2 : j < wb.length := by omega
        obtain ⟨A', c1, he, _, hca⟩ := HRA.out.grow HB.out
        injection he with e1 e2 e3
        subst e1 e3
        obtain ⟨B', c2, he', _, hcb⟩ := HRB.out.grow HB.out
        injection he' with f1 f2 f3
        subst f1 f3
        obtain ⟨b1, o1, rfl, hx1⟩ := hca (by rw [ucells_length]; omega)
        obtain ⟨b2, o2, rfl, hx2⟩ := hcb (by rw [ucells_length]; omega)
        have hy1 := hx1 j (by rw [ucells_length]; omega)
        have hy2 := hx2 j (by rw [ucells_length]; omega)
        rw [ucells_get hlt] at hy1
        rw [ucells_get hlt2] at hy2
        have HTA := hidden (List.take_succ_eq_append_getElem hlt)
        have HTB := hidden (List.take_succ_eq_append_getElem hlt2)
        clear hca hcb hx1 hx2 e2 f2 hlen
        by_cases heq : wa[j] = wb[j]
        · have hE : ((wa[j].toNat : Int) != (wb[j].toNat : Int)) = false := by rw [heq]; simp
          have HEQ := hidden heq
          clear heq
          go_wp2_with fail
          go_quiet (fail)
          go_wp2
          go_roundw
          case rel =>
            have hdr : ∀ m, Grows wr (wr.drewN m) := fun m => below_draws (Below.refl _ _) m
            refine ⟨j + 1, by omega, by go_num, ?_, R1.out.grow (hdr _), R2.out.grow (hdr _), below_draws HB.out _⟩
            rw [HTA.out, HTB.out, HSM.out, HEQ.out]
          case measure => simp [intOf]; omega
        · have hE : ((wa[j].toNat : Int) != (wb[j].toNat : Int)) = true := by
            simp
            intro h
            exact heq (UInt64.toNat_inj.1 (by omega))
          have HF := hidden (pairEq_f (na := na) (nb := na) (wa := wa) (wb := wb) (fun h => heq (by simp [h.2])))
          clear heq
          go_wp2_with fail
          go_quiet (fail)
          go_wp2
          go_ret
          exact ⟨retB (by rw [HF.out]), below_draws HB.out _⟩
      · have hje : j = wa.length := by omega
        have hsame := HSM.out
        rw [hje, List.take_length, hlen, List.take_length] at hsame
        have HT2 := hidden (pairEq_t (na := na) (nb := na) ⟨rfl, hsame⟩)
        have hnj : wa.length ≤ j := by omega
        clear hsame hje hlen
        go_wp2
        go_ret
        exact ⟨retB (by rw [HT2.out]), HB.out⟩
  · have HF := hidden (pairEq_f (na := na) (nb := nb) (wa := wa) (wb := wb) (fun h => hne ⟨h.1, by rw [h.2]⟩))
    by_cases hn : na = nb
    · subst hn
      have hd : ((wa.length : Int) != (wb.length : Int)) = true := by simp; omega
      clear hne
      go_enter Try.func22, Try.ntmps22
      go_wp2
      go_ret
      exact ⟨retB (by rw [HF.out]), HG.out _ _⟩
    · have hd : (na != nb) = true := by simpa using hn
      clear hne
      go_enter Try.func22, Try.ntmps22
      go_wp2
      go_ret
      exact ⟨retB (by rw [HF.out]), HG.out _ _⟩


theorem Row.other {w : World} {g : Nat} {e : TypeId} {xs : List Value} (h : Row w g e xs) {a : Addr} (ha : a.block ≠ g) (u : Value) : Row (w.setCell a u) g e xs := by
  unfold Row at h ⊢
  rw [Below.heap_setCell _ _ _ _ (Ne.symm ha)]
  exact h
/-- what lies in the variables that the literal of RleAccess captures after k calls -/
structure AccSt (bc bo bn : Nat) (op n : Int) (k : Nat) (w : World) : Prop where
  cnt : Row w bc 3 [.int .i64 (k : Int)]
  opr : Row w bo 3 [.int .i64 op]
  num : Row w bn 2 [.int .i64 n]
theorem AccSt.keep {bc bo bn H : Nat} {op n : Int} {k : Nat} {w w' : World} (h : AccSt bc bo bn op n k w) (hb : Below H w w') (h1 : bc < H) (h2 : bo < H) (h3 : bn < H) : AccSt bc bo bn op n k w' :=
  ⟨(hb.block _ h1).trans h.cnt, (hb.block _ h2).trans h.opr, (hb.block _ h3).trans h.num⟩
set_option maxHeartbeats 1000000 in
theorem acc_any (bc bo bn : Nat) (op n x : Int) (k : Nat) (w : World) (h : AccSt bc bo bn op n k w) (hop : op = 1 ∨ op = 3 ∨ op = 5) (hk : k ≤ 1000000) (h1 : bc ≠ bo) (h2 : bc ≠ bn) :
    Calls Try.prog 21 #[.int .i64 x, .pointer (some ⟨bc, 0, none⟩), .pointer (some ⟨bo, 0, none⟩), .pointer (some ⟨bn, 0, none⟩)] w fun e w' =>
      e = .returned (.bool (prd op n x)) ∧ AccSt bc bo bn op n (k + 1) w' ∧ w' = w.setCell ⟨bc, 0, none⟩ (.int .i64 ((k : Int) + 1)) := by
  have HH := hidden h
  have cc := h.cnt.cell 0
  have fc := h.cnt.frozen 0
  have ho2 := (h.opr.other (a := ⟨bc, 0, none⟩) h1 (.int .i64 ((k : Int) + 1))).cell 0
  have hn2 := (h.num.other (a := ⟨bc, 0, none⟩) h2 (.int .i64 ((k : Int) + 1))).cell 0
  simp only [List.getElem?_cons_zero] at cc ho2 hn2
  have hkk : ((k + 1 : Nat) : Int) = (k : Int) + 1 := by omega
  have HST := hidden (show AccSt bc bo bn op n (k + 1) (w.setCell ⟨bc, 0, none⟩ (.int .i64 ((k : Int) + 1))) from
    ⟨by have h3 := h.cnt.set_ 0 (.int .i64 ((k : Int) + 1)); rw [hkk]; exact h3, h.opr.other h1 _, h.num.other h2 _⟩)
  clear h hkk
  rcases hop with rfl | rfl | rfl
  · have HP := hidden (show prd 1 n x = (x == n) from rfl)
    go_enter Try.func21, Try.ntmps21
    go_wp2_with fail
    all_goals go_ret
    all_goals exact ⟨retB (by rw [HP.out] <;> simp_all), HST.out, rfl⟩
  · have HP := hidden (show prd 3 n x = decide (x < n) from rfl)
    go_enter Try.func21, Try.ntmps21
    go_wp2_with fail
    all_goals go_ret
    all_goals exact ⟨retB (by rw [HP.out] <;> simp_all), HST.out, rfl⟩
  · have HP := hidden (show prd 5 n x = decide (n < x) from rfl)
    go_enter Try.func21, Try.ntmps21
    go_wp2_with fail
    all_goals go_ret
    all_goals exact ⟨retB (by rw [HP.out] <;> simp_all), HST.out, rfl⟩
theorem mem_lit_any (bn : Nat) (n x : Int) (w : World) (h : Row w bn 2 [.int .i64 n]) :
    Calls Try.prog 28 #[.int .i64 x, .pointer (some ⟨bn, 0, none⟩)] w fun e w' => e = .returned (.bool (decide (x < n))) ∧ w' = w := by
  have c0 := h.cell 0
  simp only [List.getElem?_cons_zero] at c0
  clear h
  go_enter Try.func28, Try.ntmps28
  go_wp2_with fail
  go_ret
  exact ⟨rfl, rfl⟩
end Go.Proofs.Ytnjmbhakfecdoaa
