/-
  The law's 'small' over runs: they represent at most 5000 values. Nothing that was there is changed.
-/
import Derived.Test.YtnjmbhakfecdoaaRl2
namespace Go.Proofs.Ytnjmbhakfecdoaa
open Go.RowKit
set_option linter.unusedVariables false
set_option linter.unusedSimpArgs false

/-- counts from 1 on, the sum at most 5000 -/
def smallR (l : List Rn) : Bool := (List.range l.length).all fun j => match l[j]? with
  | some x => decide (1 ≤ x.2) && decide (x.2 ≤ 5000 - sumC (l.take j))
  | none => true
def smAt (l : List Rn) (j : Nat) : Bool := match l[j]? with
  | some x => decide (1 ≤ x.2) && decide (x.2 ≤ 5000 - sumC (l.take j))
  | none => true
theorem smallR_iff {l : List Rn} : smallR l = true ↔ ∀ j, j < l.length → smAt l j = true := by simp [smallR, smAt, List.all_eq_true]
theorem smAt_iff {l : List Rn} {j : Nat} (h : j < l.length) : smAt l j = true ↔ 1 ≤ l[j].2 ∧ l[j].2 ≤ 5000 - sumC (l.take j) := by
  unfold smAt
  rw [List.getElem?_eq_getElem h]
  simp
theorem smallR_f {l : List Rn} {j : Nat} (hj : j < l.length) (h : ¬ (1 ≤ l[j].2 ∧ l[j].2 ≤ 5000 - sumC (l.take j))) : smallR l = false := by
  cases hv : smallR l
  · rfl
  · exact absurd ((smAt_iff hj).1 (smallR_iff.1 hv j hj)) h
def RSmRel (w : World) (l : List Rn) (left i : Value) (wr : World) : Prop :=
  ∃ j : Nat, j ≤ l.length ∧ i = .int .i64 (j : Int) ∧ left = .int .i64 (5000 - sumC (l.take j)) ∧ (0 ≤ sumC (l.take j) ∧ sumC (l.take j) ≤ 5000) ∧ (∀ k, k < j → smAt l k = true) ∧ w = wr
set_option maxHeartbeats 1000000 in
theorem rlsmall_any (v : Value) (l : List Rn) (w : World) (hv : ReadsR w v l) (hl : l.length ≤ 9223372036854775806) :
    Calls Try.prog 16 #[v] w fun e w' => e = .returned (.bool (smallR l)) ∧ w = w' := by
  have HV := hidden hv
  obtain ⟨A, c, rfl⟩ := hv.slice_
  clear hv
  go_enter Try.func16, Try.ntmps16
  go_wp2_with fail
  go_loopw [3, 4] (fun left i wr => RSmRel w l left i wr) (fun _ i _ => l.length - (intOf i).toNat)
  case atStart => exact ⟨0, by omega, rfl, by rw [List.take_zero, sumC_nil]; rfl, by rw [List.take_zero, sumC_nil]; omega, fun k hk => by omega, rfl⟩
  case round =>
    obtain ⟨j, hj, rfl, rfl, hs, hok, rfl⟩ := hrel
    have HOK := hidden hok
    clear hok
    by_cases hlt : j < l.length
    · obtain ⟨b, off, hA, hc⟩ := HV.out.at_
      obtain rfl := hA (by omega)
      obtain ⟨c1, c2⟩ := hc j hlt
      have HF := hidden (smallR_f hlt)
      have HT := hidden (smAt_iff hlt)
      have HST := hidden (sumC_take hlt)
      obtain ⟨L, hL⟩ : ∃ L, L = 5000 - sumC (l.take j) := ⟨_, rfl⟩
      rw [← hL] at HF HT ⊢
      have hL0 : 0 ≤ L ∧ L ≤ 5000 := by omega
      obtain ⟨x2, hx2⟩ : ∃ x, x = l[j].2 := ⟨_, rfl⟩
      rw [← hx2] at c2 HF HT HST
      have HNX := hidden (show 5000 - sumC (l.take (j + 1)) = L - x2 by rw [HST.out]; omega)
      have HSS := hidden (show 1 ≤ x2 → x2 ≤ L → 0 ≤ sumC (l.take (j + 1)) ∧ sumC (l.take (j + 1)) ≤ 5000 by rw [HST.out]; omega)
      clear hA hc hL hx2 hs
      by_cases h2 : L < x2
      · have d2 : decide (L < x2) = true := by simpa using h2
        have HE := hidden (HF.out (by omega))
        clear h2
        go_wp2_with fail
        go_ret
        exact ⟨retB HE.out.symm, rfl⟩
      · have d2 : decide (L < x2) = false := by simpa using h2
        by_cases h1 : x2 < 1
        · have d1 : decide (x2 < 1) = true := by simpa using h1
          have HE := hidden (HF.out (by omega))
          clear h1 h2
          go_wp2_with fail
          go_ret
          exact ⟨retB HE.out.symm, rfl⟩
        · have d1 : decide (x2 < 1) = false := by simpa using h1
          have HNO := hidden (show ∀ k, k < j + 1 → smAt l k = true from fun k hk => by
            by_cases hkj : k < j
            · exact HOK.out k hkj
            · have hkj : k = j := by omega
              subst hkj
              exact HT.out.2 ⟨by omega, by omega⟩)
          have HS2 := hidden (HSS.out (by omega) (by omega))
          go_wp2_with fail
          exact ⟨⟨j + 1, by omega, by go_num, by rw [HNX.out], HS2.out, HNO.out, rfl⟩, by simp [intOf]; omega⟩
    · have HE := hidden (show smallR l = true from smallR_iff.2 fun k hk => HOK.out k (by omega))
      have d0 : decide (j < l.length) = false := by simp; omega
      clear hs
      go_wp2_with fail
      go_ret
      exact ⟨retB HE.out.symm, rfl⟩
end Go.Proofs.Ytnjmbhakfecdoaa
