/-
  The law LiteralValues, walked: it returns true. Nothing that was there is changed.
-/
import Derived.Test.YtaiphocnfkkigaaDoorLa0
import Derived.Test.YtaiphocnfkkigaaDoorLitInv2
import Derived.Test.YtaiphocnfkkigaaDoorLaRows
namespace Go.Proofs.YtaiphocnfkkigaaDoor
open Go.RowKit
set_option linter.unusedVariables false
set_option linter.unusedSimpArgs false

def ConstV (u : Value) : Value → World → Prop := fun v _ => v = u
def constRs : List (Nat × Value) → Loose
  | [], _ => none
  | (j, u) :: L, i => if i = j then some (ConstV u) else constRs L i
theorem constRs_lasts : ∀ L, (constRs L).lasts
  | [] => fun _ _ h => by cases h
  | (j, u) :: L => fun i R h => by
    unfold constRs at h
    split at h
    · injection h with h; subst h; exact fun _ _ _ h _ => h
    · exact constRs_lasts L i R h
theorem const_loose {f : FuncId} {args : Array Value} {w : World} {u : Value} (h : Calls Tryd.prog f args w fun e w' => e = .returned u ∧ Grows w w') : Calls Tryd.prog f args w fun e w' => ∃ v, e = .returned v ∧ Grows w w' ∧ ConstV u v w' :=
  h.mono fun _ _ ⟨he, hw⟩ => ⟨_, he, hw, rfl⟩
theorem valid_size {k n : Int} {t : ByteArray} (h : validV k n t = true) : t.size ≤ 4096 := by
  have hemp : t.toList.isEmpty = true → t.size ≤ 4096 := fun h => by
    rw [ByteArray.toList_eq] at h
    have : t.data.toList = [] := by simpa using h
    have e : t.data.toList.length = t.size := rfl
    rw [this] at e
    simp at e
    omega
  unfold validV at h
  split at h
  · rw [Bool.and_eq_true] at h; exact hemp h.2
  · split at h
    · rw [Bool.and_eq_true] at h; exact hemp h.2
    · split at h
      · exact hemp h
      · split at h
        · rw [Bool.and_eq_true, decide_eq_true_eq] at h; exact h.2
        · cases h
theorem prsV_length (l : List UInt8) : (prsV l).t.length ≤ l.length := by
  unfold prsV
  split
  · simp
  · split
    · simp
    · split
      · simp
      · split
        · unfold txtR
          split
          · simp
          · split
            · simp
            · exact unqL_length l
        · unfold intR
          split <;> simp
set_option maxRecDepth 8000 in
set_option maxHeartbeats 8000000 in
theorem law_values (x : Val) (l : List UInt8) (w : World) (hf : Fit w) (hx : inV x) (hl : l.length ≤ 4611686018427387900) :
    Calls Tryd.prog 6 #[.agg #[.int .i64 x.k, .int .i64 x.n, .string x.t], .string (strOf l)] w fun e w' => e = .returned (.bool true) ∧ Grows w w' := by
  obtain ⟨k, n, t⟩ := x
  obtain ⟨T, hT⟩ : ∃ T, t = strOf T := ⟨t.data.toList, rfl⟩
  subst hT
  have hxn : -9223372036854775808 ≤ n ∧ n ≤ 9223372036854775807 := hx.2
  clear hx
  show Calls Tryd.prog 6 #[.agg #[.int .i64 k, .int .i64 n, .string (strOf T)], .string (strOf l)] w fun e w' => e = .returned (.bool true) ∧ Grows w w'
  have HA := hidden (fun w2 (g : Grows w w2) => awake_any w2 (hf.grow g))
  have HV := hidden (fun w2 => rvvalid_any k n (strOf T) w2)
  have HG1 := hidden (fun o : Obj => grow1 (w := w) o)
  have hsl : (strOf l).size = l.length := rfl
  cases hv : validV k n (strOf T)
  · rw [hv] at HV
    clear hf hv
    go_enter Tryd.func6, Tryd.ntmps6
    go_wp2_with (first
      | (go_at_call 21; refine (HV.out _).mono ?_; rintro e w2 ⟨rfl, g2⟩; have HG2 := hidden ((HG1.out _).of_below g2); clear g2)
      | (go_at_call 12; refine (HA.out _ HG2.out).mono ?_; rintro e w4 ⟨rfl, g4⟩; have HG4 := hidden (HG2.out.of_below g4); clear g4))
    go_ret
    exact ⟨rfl, HG4.out⟩
  rw [hv] at HV
  by_cases h5 : 5000 < l.length
  · have hd : decide ((5000 : Int) < (l.length : Int)) = true := by simp; omega
    clear hf hv
    go_enter Tryd.func6, Tryd.ntmps6
    go_wp2_with (first
      | (go_at_call 21; refine (HV.out _).mono ?_; rintro e w2 ⟨rfl, g2⟩; have HG2 := hidden ((HG1.out _).of_below g2); clear g2)
      | (go_at_call 12; refine (HA.out _ HG2.out).mono ?_; rintro e w4 ⟨rfl, g4⟩; have HG4 := hidden (HG2.out.of_below g4); clear g4))
    go_ret
    exact ⟨rfl, HG4.out⟩
  have hd : decide ((5000 : Int) < (l.length : Int)) = false := by simp; omega
  have hTs : T.length ≤ 4096 := valid_size hv
  have HP := hidden (fun w2 (g : Grows w w2) => lparsev_any l w2 (hf.grow g) (by omega))
  have HRP := hidden (fun w2 => rparsev_any l w2 (by omega))
  have HF := hidden (fun w2 (g : Grows w w2) => lformatv_any k n T w2 (hf.grow g) hxn.1 hxn.2 (bool_of_valid (x := ⟨k, n, strOf T⟩) hv) (by omega))
  have HRF := hidden (fun w2 => rformatv_any k n T w2 hxn.1 (by omega) (by omega))
  have hINV : prsV (fmtV k n T) = ⟨k, n, T, 0⟩ := prsV_fmtV hv hxn.1 (by omega)
  have hfl : (fmtV k n T).length ≤ 1048576 := by
    have := litV_length (x := ⟨k, n, strOf T⟩) ⟨⟨hxn.1, by show n < _; omega⟩, by show T.length ≤ _; omega⟩
    unfold litV at this
    exact Nat.le_trans this (by decide)
  have HP2 := hidden (fun w2 (g : Grows w w2) => lparsev_any (fmtV k n T) w2 (hf.grow g) hfl)
  rw [hINV] at HP2
  have hplen := prsV_length l
  have hpi := fun h => fmtV_prsV (l := l) h
  have HFX := hidden (fun (he : (prsV l).e = 0) w2 (g : Grows w w2) => lformatv_any (prsV l).k (prsV l).n (prsV l).t w2 (hf.grow g) (hpi he).2.1.1 (hpi he).2.1.2 (hpi he).2.2 (by omega))
  have HFE := hidden (fun (he : (prsV l).e = 0) => (hpi he).1)
  generalize fmtV k n T = fv at *
  clear hINV hfl hplen hpi hf hTs hv h5
  generalize prsV l = p at *
  obtain ⟨pk, pn, pt, pe⟩ := p
  unfold PV.v at HP HRP HP2
  simp only at HP HRP HP2 HFX HFE
  by_cases he : pe = 0
  · subst he
    have HFX2 := hidden (HFX.out rfl)
    rw [HFE.out rfl] at HFX2
    clear HFX HFE
    have HFX := hidden HFX2.out
    clear HFX2
    go_enter Tryd.func6, Tryd.ntmps6
    go_wp2_with (first
      | (go_at_call 21; refine (HV.out _).mono ?_; rintro e w2 ⟨rfl, g2⟩; have HR2 := hidden ((valRow w (.int .i64 k) (.int .i64 n) (.string (strOf T))).grow g2); have HG2 := hidden ((HG1.out _).of_below g2); clear g2)
      | (go_at_call 22; refine (HP.out _ HG2.out).mono ?_; rintro e w3 ⟨rfl, g3⟩; have HR3 := hidden (HR2.out.grow g3); have HG3 := hidden (HG2.out.of_below g3); clear g3)
      | (refine wpList_store_new rfl (.tmp 5) _ rfl _ rfl rfl _ _ _ rfl ?_; intro W1 hrW hgW hsW; have HX4 := hidden hrW; have HR4 := hidden (HR3.out.grow hgW); have HG4 := hidden (HG3.out.of_below hgW); clear hrW hgW hsW)
      | (go_at_call 23; refine (HRP.out _).mono ?_; rintro e w5 ⟨rfl, g5⟩; have HX5 := hidden (HX4.out.grow g5); have HR5 := hidden (HR4.out.grow g5); have HG5 := hidden (HG4.out.of_below g5); clear g5)
      | (refine wpList_store_new rfl (.tmp 7) _ rfl _ rfl rfl _ _ _ rfl ?_; intro W2 hrW hgW hsW; have HQ2 := hidden (fun w' (h : Grows W2 w') => rowCells (hrW.grow h)); have HQ1 := hidden (fun w' (h : Grows W2 w') => rowCells ((HX5.out.grow hgW).grow h)); have HQ0 := hidden (fun w' (h : Grows W2 w') => rowCells ((HR5.out.grow hgW).grow h)); have HR6 := hidden (HR5.out.grow hgW); have HG6 := hidden (HG5.out.of_below hgW); clear hrW hgW hsW))
    refine wp_region_loose (constRs [(1, .string (strOf fv)), (3, .string (strOf fv)), (20, .string (strOf l))]) (by kernel_rfl) (by kernel_rfl) (constRs_lasts _) ?_
    iterate 1 ((with_reducible refine loose_one (v := ?_) (a' := ?_) ?_ ?_ (fun w' hC' hG' => ?_) ?_ ?_); rotate_left 2; (focus rfl); (focus rfl); (focus (obtain ⟨q1, q2, q3⟩ := HQ0.out w' hC'; obtain ⟨r1, r2, r3⟩ := HQ1.out w' hC'; obtain ⟨u1, u2, u3⟩ := HQ2.out w' hC'; clear hC' hG'; go_simp; rfl)); (focus (go_simp; rfl)))
    refine loose_call (R := ConstV (.string (strOf fv))) (f := 24) (args := #[.agg #[.int .i64 k, .int .i64 n, .string (strOf T)]]) (by rfl) (by rfl) (fun _ => by go_simp) (fun w' hC' hG' => const_loose (HF.out w' (HG6.out.of_below hC'))) ?_
    rintro _ ⟨_, _, rfl⟩
    refine ⟨?_, ?_, ?_⟩
    rotate_left
    · go_simp
      rfl
    iterate 1 ((with_reducible refine loose_one (v := ?_) (a' := ?_) ?_ ?_ (fun w' hC' hG' => ?_) ?_ ?_); rotate_left 2; (focus rfl); (focus rfl); (focus (obtain ⟨q1, q2, q3⟩ := HQ0.out w' hC'; obtain ⟨r1, r2, r3⟩ := HQ1.out w' hC'; obtain ⟨u1, u2, u3⟩ := HQ2.out w' hC'; clear hC' hG'; go_simp; rfl)); (focus (go_simp; rfl)))
    refine loose_call (R := ConstV (.string (strOf fv))) (f := 25) (args := #[.agg #[.int .i64 k, .int .i64 n, .string (strOf T)]]) (by rfl) (by rfl) (fun _ => by go_simp) (fun w' hC' hG' => const_loose (HRF.out w')) ?_
    rintro _ ⟨_, _, rfl⟩
    refine ⟨?_, ?_, ?_⟩
    rotate_left
    · go_simp
      rfl
    iterate 16 ((with_reducible refine loose_one (v := ?_) (a' := ?_) ?_ ?_ (fun w' hC' hG' => ?_) ?_ ?_); rotate_left 2; (focus rfl); (focus rfl); (focus (obtain ⟨q1, q2, q3⟩ := HQ0.out w' hC'; obtain ⟨r1, r2, r3⟩ := HQ1.out w' hC'; obtain ⟨u1, u2, u3⟩ := HQ2.out w' hC'; clear hC' hG'; go_simp; rfl)); (focus (go_simp; rfl)))
    refine loose_call (R := ConstV (.string (strOf l))) (f := 24) (args := #[.agg #[.int .i64 pk, .int .i64 pn, .string (strOf pt)]]) (by rfl) (by rfl) (fun _ => by go_simp) (fun w' hC' hG' => const_loose (HFX.out w' (HG6.out.of_below hC'))) ?_
    rintro _ ⟨_, _, rfl⟩
    refine ⟨?_, ?_, ?_⟩
    rotate_left
    · go_simp
      rfl
    iterate 4 ((with_reducible refine loose_one (v := ?_) (a' := ?_) ?_ ?_ (fun w' hC' hG' => ?_) ?_ ?_); rotate_left 2; (focus rfl); (focus rfl); (focus (obtain ⟨q1, q2, q3⟩ := HQ0.out w' hC'; obtain ⟨r1, r2, r3⟩ := HQ1.out w' hC'; obtain ⟨u1, u2, u3⟩ := HQ2.out w' hC'; clear hC' hG'; go_simp; rfl)); (focus (go_simp; rfl)))
    refine loose_done (fun w7 hC' hG' => ?_)
    clear hG'
    obtain ⟨q1, q2, q3⟩ := HQ0.out w7 hC'
    have HR7 := hidden (HR6.out.grow hC')
    have HG7 := hidden (HG6.out.of_below hC')
    clear hC'
    go_wp2_with (first
      | (go_at_call 24; refine (HF.out _ HG7.out).mono ?_; rintro e w8 ⟨rfl, g8⟩; have HR8 := hidden (HR7.out.grow g8); have HG8 := hidden (HG7.out.of_below g8); clear g8 q1 q2 q3)
      | (go_at_call 22; refine (HP2.out _ HG8.out).mono ?_; rintro e w9 ⟨rfl, g9⟩; have HR9 := hidden (HR8.out.grow g9); have HG9 := hidden (HG8.out.of_below g9); clear g9)
      | (refine wpList_store_new rfl (.tmp 9) _ rfl _ rfl rfl _ _ _ rfl ?_; intro W3 hrW hgW hsW; have s1 := (rowCells hrW).1; have s2 := (rowCells hrW).2.1; have s3 := (rowCells hrW).2.2; have q1 := (rowCells (HR9.out.grow hgW)).1; have q2 := (rowCells (HR9.out.grow hgW)).2.1; have q3 := (rowCells (HR9.out.grow hgW)).2.2; have HG10 := hidden (HG9.out.of_below hgW); clear hrW hgW hsW)
      | (go_at_call 12; refine (HA.out _ HG10.out).mono ?_; rintro e w11 ⟨rfl, g11⟩; have HG11 := hidden (HG10.out.of_below g11); clear g11))
    go_ret
    exact ⟨rfl, HG11.out⟩
  · have hen : (pe == 0) = false := by simpa using he
    clear HFX HFE he
    go_enter Tryd.func6, Tryd.ntmps6
    go_wp2_with (first
      | (go_at_call 21; refine (HV.out _).mono ?_; rintro e w2 ⟨rfl, g2⟩; have HR2 := hidden ((valRow w (.int .i64 k) (.int .i64 n) (.string (strOf T))).grow g2); have HG2 := hidden ((HG1.out _).of_below g2); clear g2)
      | (go_at_call 22; refine (HP.out _ HG2.out).mono ?_; rintro e w3 ⟨rfl, g3⟩; have HR3 := hidden (HR2.out.grow g3); have HG3 := hidden (HG2.out.of_below g3); clear g3)
      | (refine wpList_store_new rfl (.tmp 5) _ rfl _ rfl rfl _ _ _ rfl ?_; intro W1 hrW hgW hsW; have HX4 := hidden hrW; have HR4 := hidden (HR3.out.grow hgW); have HG4 := hidden (HG3.out.of_below hgW); clear hrW hgW hsW)
      | (go_at_call 23; refine (HRP.out _).mono ?_; rintro e w5 ⟨rfl, g5⟩; have HX5 := hidden (HX4.out.grow g5); have HR5 := hidden (HR4.out.grow g5); have HG5 := hidden (HG4.out.of_below g5); clear g5)
      | (refine wpList_store_new rfl (.tmp 7) _ rfl _ rfl rfl _ _ _ rfl ?_; intro W2 hrW hgW hsW; have HQ2 := hidden (fun w' (h : Grows W2 w') => rowCells (hrW.grow h)); have HQ1 := hidden (fun w' (h : Grows W2 w') => rowCells ((HX5.out.grow hgW).grow h)); have HQ0 := hidden (fun w' (h : Grows W2 w') => rowCells ((HR5.out.grow hgW).grow h)); have HR6 := hidden (HR5.out.grow hgW); have HG6 := hidden (HG5.out.of_below hgW); clear hrW hgW hsW))
    refine wp_region_loose (constRs [(1, .string (strOf fv)), (3, .string (strOf fv))]) (by kernel_rfl) (by kernel_rfl) (constRs_lasts _) ?_
    iterate 1 ((with_reducible refine loose_one (v := ?_) (a' := ?_) ?_ ?_ (fun w' hC' hG' => ?_) ?_ ?_); rotate_left 2; (focus rfl); (focus rfl); (focus (obtain ⟨q1, q2, q3⟩ := HQ0.out w' hC'; obtain ⟨r1, r2, r3⟩ := HQ1.out w' hC'; obtain ⟨u1, u2, u3⟩ := HQ2.out w' hC'; clear hC' hG'; go_simp; rfl)); (focus (go_simp; rfl)))
    refine loose_call (R := ConstV (.string (strOf fv))) (f := 24) (args := #[.agg #[.int .i64 k, .int .i64 n, .string (strOf T)]]) (by rfl) (by rfl) (fun _ => by go_simp) (fun w' hC' hG' => const_loose (HF.out w' (HG6.out.of_below hC'))) ?_
    rintro _ ⟨_, _, rfl⟩
    refine ⟨?_, ?_, ?_⟩
    rotate_left
    · go_simp
      rfl
    iterate 1 ((with_reducible refine loose_one (v := ?_) (a' := ?_) ?_ ?_ (fun w' hC' hG' => ?_) ?_ ?_); rotate_left 2; (focus rfl); (focus rfl); (focus (obtain ⟨q1, q2, q3⟩ := HQ0.out w' hC'; obtain ⟨r1, r2, r3⟩ := HQ1.out w' hC'; obtain ⟨u1, u2, u3⟩ := HQ2.out w' hC'; clear hC' hG'; go_simp; rfl)); (focus (go_simp; rfl)))
    refine loose_call (R := ConstV (.string (strOf fv))) (f := 25) (args := #[.agg #[.int .i64 k, .int .i64 n, .string (strOf T)]]) (by rfl) (by rfl) (fun _ => by go_simp) (fun w' hC' hG' => const_loose (HRF.out w')) ?_
    rintro _ ⟨_, _, rfl⟩
    refine ⟨?_, ?_, ?_⟩
    rotate_left
    · go_simp
      rfl
    iterate 15 ((with_reducible refine loose_one (v := ?_) (a' := ?_) ?_ ?_ (fun w' hC' hG' => ?_) ?_ ?_); rotate_left 2; (focus rfl); (focus rfl); (focus (obtain ⟨q1, q2, q3⟩ := HQ0.out w' hC'; obtain ⟨r1, r2, r3⟩ := HQ1.out w' hC'; obtain ⟨u1, u2, u3⟩ := HQ2.out w' hC'; clear hC' hG'; go_simp; rfl)); (focus (go_simp; rfl)))
    iterate 1 ((with_reducible refine loose_skip (a' := ?_) ?_ ?_ ?_); rotate_left 1; (focus rfl); (focus (go_simp; rfl)))
    iterate 1 ((with_reducible refine loose_skip (a' := ?_) ?_ ?_ ?_); rotate_left 1; (focus rfl); (focus (go_simp; rfl)))
    iterate 1 ((with_reducible refine loose_skip (a' := ?_) ?_ ?_ ?_); rotate_left 1; (focus rfl); (focus (go_simp; rfl)))
    iterate 1 ((with_reducible refine loose_skip (a' := ?_) ?_ ?_ ?_); rotate_left 1; (focus rfl); (focus (go_simp; rfl)))
    iterate 2 ((with_reducible refine loose_one (v := ?_) (a' := ?_) ?_ ?_ (fun w' hC' hG' => ?_) ?_ ?_); rotate_left 2; (focus rfl); (focus rfl); (focus (obtain ⟨q1, q2, q3⟩ := HQ0.out w' hC'; obtain ⟨r1, r2, r3⟩ := HQ1.out w' hC'; obtain ⟨u1, u2, u3⟩ := HQ2.out w' hC'; clear hC' hG'; go_simp; rfl)); (focus (go_simp; rfl)))
    refine loose_done (fun w7 hC' hG' => ?_)
    clear hG'
    obtain ⟨q1, q2, q3⟩ := HQ0.out w7 hC'
    have HR7 := hidden (HR6.out.grow hC')
    have HG7 := hidden (HG6.out.of_below hC')
    clear hC'
    go_wp2_with (first
      | (go_at_call 24; refine (HF.out _ HG7.out).mono ?_; rintro e w8 ⟨rfl, g8⟩; have HR8 := hidden (HR7.out.grow g8); have HG8 := hidden (HG7.out.of_below g8); clear g8 q1 q2 q3)
      | (go_at_call 22; refine (HP2.out _ HG8.out).mono ?_; rintro e w9 ⟨rfl, g9⟩; have HR9 := hidden (HR8.out.grow g9); have HG9 := hidden (HG8.out.of_below g9); clear g9)
      | (refine wpList_store_new rfl (.tmp 9) _ rfl _ rfl rfl _ _ _ rfl ?_; intro W3 hrW hgW hsW; have s1 := (rowCells hrW).1; have s2 := (rowCells hrW).2.1; have s3 := (rowCells hrW).2.2; have q1 := (rowCells (HR9.out.grow hgW)).1; have q2 := (rowCells (HR9.out.grow hgW)).2.1; have q3 := (rowCells (HR9.out.grow hgW)).2.2; have HG10 := hidden (HG9.out.of_below hgW); clear hrW hgW hsW)
      | (go_at_call 12; refine (HA.out _ HG10.out).mono ?_; rintro e w11 ⟨rfl, g11⟩; have HG11 := hidden (HG10.out.of_below g11); clear g11))
    go_ret
    exact ⟨rfl, HG11.out⟩
end Go.Proofs.YtaiphocnfkkigaaDoor
