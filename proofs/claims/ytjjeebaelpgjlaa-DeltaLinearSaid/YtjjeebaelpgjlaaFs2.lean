/-
  Package frameref as it landed: exceptionsSize. Nothing that was there is changed.
-/
import Derived.Test.YtjjeebaelpgjlaaFrT
namespace Go.Proofs.Ytjjeebaelpgjlaa
open Go.RowKit
set_option linter.unusedVariables false
set_option linter.unusedSimpArgs false

/-- v is a slice of n tallies that reads as C and X -/
def ReadsT (w : World) (v : Value) (n : Nat) (C X : Nat → Nat) : Prop :=
  ∃ A c, v = .slice A n c ∧ (0 < n → ∃ b f, A = some ⟨b, f, none⟩ ∧ ∀ j, j < n → w.cell? ⟨b, f + j * 2, none⟩ = some (.int .i64 (C j : Int)) ∧ w.cell? ⟨b, f + j * 2 + 1, none⟩ = some (.int .i64 (X j : Int)))
theorem ReadsT.grow {w w' : World} {v : Value} {n : Nat} {C X : Nat → Nat} (h : ReadsT w v n C X) (hb : Grows w w') : ReadsT w' v n C X := by
  obtain ⟨A, c, rfl, hc⟩ := h
  refine ⟨A, c, rfl, fun hn => ?_⟩
  obtain ⟨b, f, rfl, hcell⟩ := hc hn
  refine ⟨b, f, rfl, fun j hj => ?_⟩
  obtain ⟨h1, h2⟩ := hcell j hj
  exact ⟨(hb.cell (World.block_lt_of_cell? w _ h1)).trans h1, (hb.cell (World.block_lt_of_cell? w _ h2)).trans h2⟩
theorem sumF_le {f : Nat → Nat} {k : Nat} : ∀ n, k ≤ n → sumF f k ≤ sumF f n
  | 0, h => by
    have : k = 0 := by omega
    subst this
    exact Nat.le_refl _
  | n + 1, h => by
    rcases Nat.lt_or_ge n k with h1 | h1
    · have : k = n + 1 := by omega
      subst this
      exact Nat.le_refl _
    · have := sumF_le (f := f) n h1
      rw [sumF]
      omega
def ESRel (w : World) (n : Nat) (C X : Nat → Nat) (c s i : Value) (wr : World) : Prop :=
  ∃ k : Nat, k ≤ n ∧ i = .int .i64 (k : Int) ∧ c = .int .i64 ((sumF C k : Nat) : Int) ∧ s = .int .i64 ((sumF (fun j => X j + C j * vsw (j + 1)) k : Nat) : Int) ∧ Below w.heap.size w wr
set_option maxRecDepth 8000 in
set_option maxHeartbeats 4000000 in
theorem excSize_any (v : Value) (n : Nat) (C X : Nat → Nat) (w : World) (hv : ReadsT w v n C X) (hn : n ≤ 65) (hC : sumF C n ≤ 65536) (hS : sumF (fun j => X j + C j * vsw (j + 1)) n ≤ 2000000) :
    Calls Try.prog 70 #[v] w fun e w' => e = .returned (.int .i64 ((excSz C X n : Nat) : Int)) ∧ Grows w w' := by
  have HV := hidden hv
  obtain ⟨A, c, rfl, _⟩ := id hv
  have HCC := hidden hC
  have HSS := hidden hS
  have HES := hidden (show excSz C X n = esz (sumF C n) + sumF (fun j => X j + C j * vsw (j + 1)) n from rfl)
  clear hv hC hS
  go_enter Try.func70, Try.ntmps70
  go_wp2_with fail
  go_loopw [3, 4, 9] (fun c s i wr => ESRel w n C X c s i wr) (fun _ _ i _ => n - (intOf i).toNat)
  case atStart => exact ⟨0, by omega, rfl, rfl, rfl, Below.refl _ _⟩
  case round =>
    obtain ⟨k, hk, rfl, rfl, rfl, hb⟩ := hrel
    have HB := hidden hb
    clear hb
    by_cases hlt : k < n
    · obtain ⟨A', c', he, hc⟩ := HV.out.grow HB.out
      have hAc : A = A' ∧ c = c' := by simpa using he
      obtain ⟨rfl, rfl⟩ := hAc
      obtain ⟨b, f, rfl, hcell⟩ := hc (by omega)
      obtain ⟨y1, y2⟩ := hcell k hlt
      have hq1 : sumF C (k + 1) ≤ sumF C n := sumF_le n hlt
      have hq2 : sumF (fun j => X j + C j * vsw (j + 1)) (k + 1) ≤ sumF (fun j => X j + C j * vsw (j + 1)) n := sumF_le n hlt
      have HQ1 := hidden (show sumF C (k + 1) = sumF C k + C k from rfl)
      have HQ2 := hidden (show sumF (fun j => X j + C j * vsw (j + 1)) (k + 1) = sumF (fun j => X j + C j * vsw (j + 1)) k + (X k + C k * vsw (k + 1)) from rfl)
      have HSW := hidden (fun w' => sizeOfWidth_any (k + 1) w' (by omega))
      rw [show (((k + 1 : Nat) : Int)) = (k : Int) + 1 by omega] at HSW
      rw [HQ1.out] at hq1
      rw [HQ2.out] at hq2
      have hcc := HCC.out
      have hss := HSS.out
      generalize sumF (fun j => X j + C j * vsw (j + 1)) k = sk at *
      generalize sumF (fun j => X j + C j * vsw (j + 1)) n = sn at *
      generalize sumF C k = ck at *
      generalize sumF C n = cn at *
      generalize vsw (k + 1) = s at *
      generalize C k = y at *
      generalize X k = x at *
      obtain ⟨m, hm⟩ : ∃ m, m = y * s := ⟨_, rfl⟩
      have hmul : (y : Int) * (s : Int) = (m : Int) := by rw [hm]; simp
      rw [← hm] at hq2 HQ2
      have HBA := hidden (show Below w.heap.size w (wr.alloc (.cells #[.int .i64 (y : Int), .int .i64 (x : Int)] 90)) from HB.out.alloc HB.out.size _)
      have HX : Hid (∀ w', Grows (wr.alloc (.cells #[.int .i64 (y : Int), .int .i64 (x : Int)] 90)) w' → w'.cell? ⟨wr.heap.size, 0, none⟩ = some (.int .i64 (y : Int)) ∧ w'.cell? ⟨wr.heap.size, 1, none⟩ = some (.int .i64 (x : Int))) := fun w' h => by
        have hr := Row.grow (Row.new wr 90 #[.int .i64 (y : Int), .int .i64 (x : Int)] [.int .i64 (y : Int), .int .i64 (x : Int)] rfl) h
        exact ⟨hr.cell 0, hr.cell 1⟩
      have w1 : IntKind.i64.wrap ((k : Int) + 1) = (k : Int) + 1 := by rw [IntKind.wrap_i64]; omega
      have w2 : IntKind.i64.wrap (m : Int) = (m : Int) := by rw [IntKind.wrap_i64]; omega
      have w3 : IntKind.i64.wrap ((x : Int) + (m : Int)) = (x : Int) + (m : Int) := by rw [IntKind.wrap_i64]; omega
      have w4 : IntKind.i64.wrap ((sk : Int) + ((x : Int) + (m : Int))) = (sk : Int) + ((x : Int) + (m : Int)) := by rw [IntKind.wrap_i64]; omega
      have hck : ck + y ≤ 65536 := by omega
      clear hm hc hcell hcc hss
      go_wp2_with fail
      refine wp_region_loose (tabRs [(7, ConstV (.int .i64 (s : Int)))]) (by kernel_rfl) (by kernel_rfl) (tabRs_cons ConstV.lasts tabRs_nil) ?_
      iterate 7 ((with_reducible refine loose_one (v := ?_) (a' := ?_) ?_ ?_ (fun w' hC' hG' => ?_) ?_ ?_); rotate_left 2; (focus rfl); (focus rfl); (focus (obtain ⟨x0, x1⟩ := HX.out w' hC'; clear hC' hG'; go_simp; rfl)); (focus (go_simp; rfl)))
      refine loose_call (R := ConstV (.int .i64 (s : Int))) (f := 77) (args := #[.int .i64 ((k : Int) + 1)]) (by rfl) (by rfl) (fun _ => by go_simp) (fun w' hC' hG' => const_loose0 (HSW.out w')) ?_
      rintro _ ⟨_, _, rfl⟩
      refine ⟨?_, ?_, ?_⟩
      rotate_left
      · go_simp
        rfl
      iterate 4 ((with_reducible refine loose_one (v := ?_) (a' := ?_) ?_ ?_ (fun w' hC' hG' => ?_) ?_ ?_); rotate_left 2; (focus rfl); (focus rfl); (focus (obtain ⟨x0, x1⟩ := HX.out w' hC'; clear hC' hG'; go_simp; rfl)); (focus (go_simp; rfl)))
      refine loose_done (fun w6 hC' hG' => ?_)
      clear hG'
      have HB6 := hidden (Grows.of_below HBA.out hC')
      clear hC'
      go_wp2_with fail
      refine ⟨⟨k + 1, by omega, by go_num, ?_, ?_, HB6.out⟩, by simp [intOf]; omega⟩
      · rw [HQ1.out]; go_num
      · rw [HQ2.out]; go_num
    · have hke : k = n := by omega
      subst hke
      have hcc := HCC.out
      have hss := HSS.out
      have HVS := hidden (fun w' => varintSize_any (sumF C k) w' (by omega))
      have hes : esz (sumF C k) ≤ 10 := (esz_bd (n := sumF C k) (by omega)).2
      generalize sumF (fun j => X j + C j * vsw (j + 1)) k = sk at *
      generalize sumF C k = ck at *
      have hwk : IntKind.u64.wrap (ck : Int) = (ck : Int) := by rw [IntKind.wrap_u64]; omega
      go_wp2_with fail
      refine (HVS.out wr).mono ?_
      rintro e w' ⟨rfl, rfl⟩
      go_wp2_with fail
      go_ret
      refine ⟨retI ?_, HB.out⟩
      rw [HES.out]
      omega
end Go.Proofs.Ytjjeebaelpgjlaa
