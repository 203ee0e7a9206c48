/-
  The reference's Hash over a row of valid values. Nothing that was there is changed.
-/
import Derived.Test.YtepnegbopnepfaaLv7
import Derived.Test.YtepnegbopnepfaaLv5
namespace Go.Proofs.Ytepnegbopnepfaa
open Go.RowKit
set_option linter.unusedVariables false
set_option linter.unusedSimpArgs false

def tabRs : List (Nat × (Value → World → Prop)) → Loose
  | [], _ => none
  | (j, R) :: L, i => if i = j then some R else tabRs L i
theorem tabRs_nil : (tabRs []).lasts := fun _ _ h => by cases h
theorem tabRs_cons {j : Nat} {R : Value → World → Prop} {L : List (Nat × (Value → World → Prop))} (h : ∀ v w w', R v w → Grows w w' → R v w') (hL : (tabRs L).lasts) : (tabRs ((j, R) :: L)).lasts := fun i R' hR => by
  unfold tabRs at hR
  split at hR
  · injection hR with hR; subst hR; exact h
  · exact hL i R' hR
theorem ConstV.lasts {u : Value} : ∀ v w w', ConstV u v w → Grows w w' → ConstV u v w' := fun _ _ _ h _ => h
theorem strB_loose {P : Program} (w : World) (src dst e : TypeId) (s : ByteArray) (hs : P.underlying src = some .string) (hd : P.underlying dst = some (.slice e)) (he : P.underlying e = some (.int .u8)) :
    ∃ v W, (convert src dst (.string s)).run P w = .ok v W ∧ Grows w W ∧ StrB s.data.toList v W := str_bytes w src dst e s hs hd he
set_option maxHeartbeats 4000000 in
theorem rhashv_any (s : Nat) (v : Value) (l : List Val) (w : World) (hs : s < 18446744073709551616) (hr : ReadsV w v l) (hl : l.length ≤ 9223372036854775806) (hv : validL l = true) :
    Calls Try.prog 38 #[.int .u64 (s : Int), v] w fun e w' => e = .returned (.int .u64 (hashR (mix s) l : Int)) ∧ Grows w w' := by
  have HR := hidden hr
  have HVL := hidden hv
  obtain ⟨A, c, rfl, hle, hxx⟩ := hr
  clear hxx hv
  have HM := hidden (fun w => rmix_any s w hs)
  have hml := mix_lt (n := s)
  generalize mix s = m at *
  have HML := hidden hml
  clear hml hs
  go_enter Try.func38, Try.ntmps38
  go_wp2_with fail
  refine (HM.out _).mono ?_
  rintro e w3 ⟨rfl, rfl⟩
  go_wp2_with fail
  go_loopw [5, 6] (fun h i wr => HashRelV w m l h i wr) (fun _ i _ => l.length - (intOf i).toNat)
  case atStart => exact ⟨0, Nat.zero_le _, rfl, by rw [List.take_zero, hashR_nil], Below.refl _ _⟩
  case round =>
    obtain ⟨j, hj, rfl, rfl, hb⟩ := hrel
    have HB := hidden hb
    clear hb
    by_cases hlt : j < l.length
    · obtain ⟨A', c', he, _, hcell⟩ := HR.out.grow HB.out
      injection he with e1 e2 e3
      subst e1 e3
      obtain ⟨b, off, rfl, hcell2⟩ := hcell (by omega)
      obtain ⟨x, hx⟩ : ∃ x, l[j]? = some x := ⟨_, List.getElem?_eq_getElem hlt⟩
      obtain ⟨c1, c2, c3⟩ := hcell2 j x hx
      have hj0 : (0 : Int) ≤ (j : Int) := by omega
      have hj1 : (j : Int) < (l.length : Int) := by omega
      have hd : decide (j < l.length) = true := by simpa using hlt
      have HT := hidden (hashR_take m hx)
      have hval := validL_at HVL.out hx
      have hhl := hashR_lt m HML.out (l.take j)
      obtain ⟨hn, hHN⟩ : ∃ hn, hn = hashR m (l.take (j + 1)) := ⟨_, rfl⟩
      rw [← hHN] at HT
      have HN := hidden hHN
      clear hHN
      generalize hashR m (l.take j) = hh at *
      clear hcell hcell2 e2 hx
      obtain ⟨k, n, t⟩ := x
      simp only at c1 c2 c3 hval
      by_cases h0 : k = 0
      · subst h0
        rw [hashV_0] at HT
        have HX := hidden (bits_xor_u64_nat hh 1 hhl (by omega))
        have HM1 := hidden (fun w => rmix_any (hh ^^^ 1) w (xor_small hhl (by omega)))
        rw [← HX.out] at HM1
        generalize mix (hh ^^^ 1) = m1 at *
        have HT2 := hidden (show m1 = hashR m (l.take (j + 1)) by rw [← HN.out, HT.out])
        clear hval hhl HX HT HN
        go_wp2_with (refine wpList_store_new rfl _ _ rfl _ rfl rfl _ _ _ rfl ?_; intro W1 hrW hgW hsW; have k1 := (rowCells hrW).1; have k2 := (rowCells hrW).2.1; have k3 := (rowCells hrW).2.2; have HR1 := hidden hrW; have HW1 := hidden (HB.out.of_below hgW); clear hrW hgW hsW c1 c2 c3)
        refine (HM1.out _).mono ?_
        rintro e w5 ⟨rfl, rfl⟩
        clear k1 k2 k3
        go_wp2_with fail
        go_roundw
        case rel => exact ⟨j + 1, by omega, by go_num, by rw [HT2.out], HW1.out⟩
        case measure => simp [intOf]; omega
      by_cases h1 : k = 1
      · subst h1
        clear h0
        rw [hashV_1] at HT
        have HX := hidden (bits_xor_u64_nat hh 2 hhl (by omega))
        have HM1 := hidden (fun w => rmix_any (hh ^^^ 2) w (xor_small hhl (by omega)))
        rw [← HX.out] at HM1
        have HUL := hidden (u64N_lt n)
        have HX2 := hidden (bits_xor_u64_nat (mix (hh ^^^ 2)) (u64N n) mix_lt HUL.out)
        have HM2 := hidden (fun w => rmix_any (mix (hh ^^^ 2) ^^^ u64N n) w (xor_small mix_lt HUL.out))
        rw [← HX2.out, ← u64N_wrap] at HM2
        clear HX2 HUL
        generalize mix (mix (hh ^^^ 2) ^^^ u64N n) = m2 at *
        generalize mix (hh ^^^ 2) = m1 at *
        have HT2 := hidden (show m2 = hashR m (l.take (j + 1)) by rw [← HN.out, HT.out])
        clear hval hhl HX HT HN
        go_wp2_with (refine wpList_store_new rfl _ _ rfl _ rfl rfl _ _ _ rfl ?_; intro W1 hrW hgW hsW; have k1 := (rowCells hrW).1; have k2 := (rowCells hrW).2.1; have k3 := (rowCells hrW).2.2; have HR1 := hidden hrW; have HW1 := hidden (HB.out.of_below hgW); clear hrW hgW hsW c1 c2 c3)
        clear k1 k2 k3
        refine wp_region_loose (constRs [(2, .int .u64 (m1 : Int)), (7, .int .u64 (m2 : Int))]) (by kernel_rfl) (by kernel_rfl) (constRs_lasts _) ?_
        iterate 2 ((with_reducible refine loose_one (v := ?_) (a' := ?_) ?_ ?_ (fun w' hC' hG' => ?_) ?_ ?_); rotate_left 2; (focus rfl); (focus rfl); (focus (obtain ⟨q1, q2, q3⟩ := rowCells (HR1.out.grow hC'); clear hC' hG'; go_simp; rfl)); (focus (go_simp; rfl)))
        refine loose_call (f := 67) (args := #[.int .u64 (bits .xor .u64 (hh : Int) 2)]) (by rfl) (by rfl) (fun _ => by go_simp) (fun w' hC' hG' => const_loose0 (HM1.out w')) ?_
        rintro _ ⟨_, _, rfl⟩
        refine ⟨?_, ?_, ?_⟩
        rotate_left
        · go_simp
          rfl
        iterate 4 ((with_reducible refine loose_one (v := ?_) (a' := ?_) ?_ ?_ (fun w' hC' hG' => ?_) ?_ ?_); rotate_left 2; (focus rfl); (focus rfl); (focus (obtain ⟨q1, q2, q3⟩ := rowCells (HR1.out.grow hC'); clear hC' hG'; go_simp; rfl)); (focus (go_simp; rfl)))
        refine loose_call (f := 67) (args := #[.int .u64 (bits .xor .u64 (m1 : Int) (IntKind.u64.wrap n))]) (by rfl) (by rfl) (fun _ => by go_simp) (fun w' hC' hG' => const_loose0 (HM2.out w')) ?_
        rintro _ ⟨_, _, rfl⟩
        refine ⟨?_, ?_, ?_⟩
        rotate_left
        · go_simp
          rfl
        iterate 1 ((with_reducible refine loose_one (v := ?_) (a' := ?_) ?_ ?_ (fun w' hC' hG' => ?_) ?_ ?_); rotate_left 2; (focus rfl); (focus rfl); (focus (obtain ⟨q1, q2, q3⟩ := rowCells (HR1.out.grow hC'); clear hC' hG'; go_simp; rfl)); (focus (go_simp; rfl)))
        refine loose_done (fun w5 hC' hG' => ?_)
        clear hG'
        have HB2 := hidden (HW1.out.of_below hC')
        clear hC'
        go_wp2_with fail
        go_roundw
        case rel => exact ⟨j + 1, by omega, by go_num, by rw [HT2.out], HB2.out⟩
        case measure => simp [intOf]; omega
      by_cases h2 : k = 2
      · subst h2
        clear h0 h1
        rw [hashV_2] at HT
        have HX := hidden (bits_xor_u64_nat hh 3 hhl (by omega))
        have HM1 := hidden (fun w => rmix_any (hh ^^^ 3) w (xor_small hhl (by omega)))
        rw [← HX.out] at HM1
        have HUL := hidden (u64N_lt n)
        have HX2 := hidden (bits_xor_u64_nat (mix (hh ^^^ 3)) (u64N n) mix_lt HUL.out)
        have HM2 := hidden (fun w => rmix_any (mix (hh ^^^ 3) ^^^ u64N n) w (xor_small mix_lt HUL.out))
        rw [← HX2.out, ← u64N_wrap] at HM2
        clear HX2 HUL
        generalize mix (mix (hh ^^^ 3) ^^^ u64N n) = m2 at *
        generalize mix (hh ^^^ 3) = m1 at *
        have HT2 := hidden (show m2 = hashR m (l.take (j + 1)) by rw [← HN.out, HT.out])
        clear hval hhl HX HT HN
        go_wp2_with (refine wpList_store_new rfl _ _ rfl _ rfl rfl _ _ _ rfl ?_; intro W1 hrW hgW hsW; have k1 := (rowCells hrW).1; have k2 := (rowCells hrW).2.1; have k3 := (rowCells hrW).2.2; have HR1 := hidden hrW; have HW1 := hidden (HB.out.of_below hgW); clear hrW hgW hsW c1 c2 c3)
        clear k1 k2 k3
        refine wp_region_loose (constRs [(2, .int .u64 (m1 : Int)), (7, .int .u64 (m2 : Int))]) (by kernel_rfl) (by kernel_rfl) (constRs_lasts _) ?_
        iterate 2 ((with_reducible refine loose_one (v := ?_) (a' := ?_) ?_ ?_ (fun w' hC' hG' => ?_) ?_ ?_); rotate_left 2; (focus rfl); (focus rfl); (focus (obtain ⟨q1, q2, q3⟩ := rowCells (HR1.out.grow hC'); clear hC' hG'; go_simp; rfl)); (focus (go_simp; rfl)))
        refine loose_call (f := 67) (args := #[.int .u64 (bits .xor .u64 (hh : Int) 3)]) (by rfl) (by rfl) (fun _ => by go_simp) (fun w' hC' hG' => const_loose0 (HM1.out w')) ?_
        rintro _ ⟨_, _, rfl⟩
        refine ⟨?_, ?_, ?_⟩
        rotate_left
        · go_simp
          rfl
        iterate 4 ((with_reducible refine loose_one (v := ?_) (a' := ?_) ?_ ?_ (fun w' hC' hG' => ?_) ?_ ?_); rotate_left 2; (focus rfl); (focus rfl); (focus (obtain ⟨q1, q2, q3⟩ := rowCells (HR1.out.grow hC'); clear hC' hG'; go_simp; rfl)); (focus (go_simp; rfl)))
        refine loose_call (f := 67) (args := #[.int .u64 (bits .xor .u64 (m1 : Int) (IntKind.u64.wrap n))]) (by rfl) (by rfl) (fun _ => by go_simp) (fun w' hC' hG' => const_loose0 (HM2.out w')) ?_
        rintro _ ⟨_, _, rfl⟩
        refine ⟨?_, ?_, ?_⟩
        rotate_left
        · go_simp
          rfl
        iterate 1 ((with_reducible refine loose_one (v := ?_) (a' := ?_) ?_ ?_ (fun w' hC' hG' => ?_) ?_ ?_); rotate_left 2; (focus rfl); (focus rfl); (focus (obtain ⟨q1, q2, q3⟩ := rowCells (HR1.out.grow hC'); clear hC' hG'; go_simp; rfl)); (focus (go_simp; rfl)))
        refine loose_done (fun w5 hC' hG' => ?_)
        clear hG'
        have HB2 := hidden (HW1.out.of_below hC')
        clear hC'
        go_wp2_with fail
        go_roundw
        case rel => exact ⟨j + 1, by omega, by go_num, by rw [HT2.out], HB2.out⟩
        case measure => simp [intOf]; omega
      by_cases h3 : k = 3
      · subst h3
        clear h0 h1 h2
        rw [hashV_3] at HT
        have HX := hidden (bits_xor_u64_nat hh 4 hhl (by omega))
        have HM1 := hidden (fun w => rmix_any (hh ^^^ 4) w (xor_small hhl (by omega)))
        rw [← HX.out] at HM1
        have hsz : t.data.toList.length ≤ 4096 := by
          unfold validV at hval
          simp at hval
          have e : t.data.toList.length = t.size := by simp
          omega
        have HH := hidden (fun v w h => rhash_any (mix (hh ^^^ 4)) v t.data.toList w mix_lt h (by omega))
        generalize hashOf (mix (hh ^^^ 4)) t.data.toList = m2 at *
        generalize mix (hh ^^^ 4) = m1 at *
        have HT2 := hidden (show m2 = hashR m (l.take (j + 1)) by rw [← HN.out, HT.out])
        clear hval hhl HX HT HN
        go_wp2_with (refine wpList_store_new rfl _ _ rfl _ rfl rfl _ _ _ rfl ?_; intro W1 hrW hgW hsW; have k1 := (rowCells hrW).1; have k2 := (rowCells hrW).2.1; have k3 := (rowCells hrW).2.2; have HR1 := hidden hrW; have HW1 := hidden (HB.out.of_below hgW); clear hrW hgW hsW c1 c2 c3)
        clear k1 k2 k3
        refine wp_region_loose (tabRs [(2, ConstV (.int .u64 (m1 : Int))), (5, StrB t.data.toList), (6, ConstV (.int .u64 (m2 : Int)))]) (by kernel_rfl) (by kernel_rfl) (tabRs_cons ConstV.lasts (tabRs_cons StrB.lasts (tabRs_cons ConstV.lasts tabRs_nil))) ?_
        iterate 2 ((with_reducible refine loose_one (v := ?_) (a' := ?_) ?_ ?_ (fun w' hC' hG' => ?_) ?_ ?_); rotate_left 2; (focus rfl); (focus rfl); (focus (obtain ⟨q1, q2, q3⟩ := rowCells (HR1.out.grow hC'); clear hC' hG'; go_simp; rfl)); (focus (go_simp; rfl)))
        refine loose_call (f := 67) (args := #[.int .u64 (bits .xor .u64 (hh : Int) 4)]) (by rfl) (by rfl) (fun _ => by go_simp) (fun w' hC' hG' => const_loose0 (HM1.out w')) ?_
        rintro _ ⟨_, _, rfl⟩
        refine ⟨?_, ?_, ?_⟩
        rotate_left
        · go_simp
          rfl
        iterate 2 ((with_reducible refine loose_one (v := ?_) (a' := ?_) ?_ ?_ (fun w' hC' hG' => ?_) ?_ ?_); rotate_left 2; (focus rfl); (focus rfl); (focus (obtain ⟨q1, q2, q3⟩ := rowCells (HR1.out.grow hC'); clear hC' hG'; go_simp; rfl)); (focus (go_simp; rfl)))
        refine loose_new (R := StrB t.data.toList) (by rfl) (by rfl) (fun w' hC' _ => ?_) ?_
        · obtain ⟨v, W, h1, h2, h3⟩ := str_bytes (P := Try.prog) w' 9 50 5 t Try.underlying9 Try.underlying50 Try.underlying5
          refine ⟨v, W, ?_, h2, h3⟩
          go_simp
        intro v5 _
        refine ⟨?_, ?_, ?_⟩
        rotate_left
        · go_simp
          rfl
        refine loose_call (f := 68) (args := #[.int .u64 (m1 : Int), v5]) (by rfl) (by rfl) (fun _ => by go_simp) (fun w' hC' hG' => const_loose0 (by obtain ⟨A5, c5, rfl, _, h5⟩ := (hG' 5 (by kernel_rfl)).2 rfl; exact HH.out _ w' h5)) ?_
        rintro _ ⟨_, _, rfl⟩
        refine ⟨?_, ?_, ?_⟩
        rotate_left
        · go_simp
          rfl
        iterate 1 ((with_reducible refine loose_one (v := ?_) (a' := ?_) ?_ ?_ (fun w' hC' hG' => ?_) ?_ ?_); rotate_left 2; (focus rfl); (focus rfl); (focus (obtain ⟨q1, q2, q3⟩ := rowCells (HR1.out.grow hC'); clear hC' hG'; go_simp; rfl)); (focus (go_simp; rfl)))
        refine loose_done (fun w5 hC' hG' => ?_)
        clear hG'
        have HB2 := hidden (HW1.out.of_below hC')
        clear hC'
        go_wp2_with fail
        go_roundw
        case rel => exact ⟨j + 1, by omega, by go_num, by rw [HT2.out], HB2.out⟩
        case measure => simp [intOf]; omega
      · exfalso
        unfold validV at hval
        rw [if_neg h0, if_neg h1, if_neg h2, if_neg h3] at hval
        cases hval
    · have hd : decide (j < l.length) = false := by simpa using hlt
      have htk : l.take j = l := List.take_of_length_le (by omega)
      rw [htk]
      clear htk
      obtain ⟨hr, hHR⟩ : ∃ hr, hr = hashR m l := ⟨_, rfl⟩
      rw [← hHR]
      have HHR := hidden hHR
      clear hHR
      go_wp2_with fail
      go_ret
      exact ⟨by rw [← HHR.out]; rfl, HB.out⟩
end Go.Proofs.Ytepnegbopnepfaa
