/-
  The walk of the law RleEncodes: it returns true for all runs, and bytes whose lengths are at most 1048576; nothing that was there is changed.
-/
import Derived.Test.YtnjmbhakfecdoaaRmT
import Derived.Test.YtnjmbhakfecdoaaRm7
namespace Go.Proofs.Ytnjmbhakfecdoaa
open Go.RowKit
set_option linter.unusedVariables false
set_option linter.unusedSimpArgs false

set_option maxHeartbeats 4000000 in
theorem law_encodes (u : Value) (l : List Rn) (A : Option Addr) (c : Nat) (bl : List UInt8) (B : Option Addr) (d : Nat) (al : List UInt8) (w : World) (hu : ReadsR w u l) (hin : ∀ x ∈ l, in64 x.1) (hl : l.length ≤ 140737488351232)
    (hbv : IsBytes w (.slice A bl.length c) bl) (hav : IsBytes w (.slice B al.length d) al) (hbl : bl.length ≤ 1048576) (hal : al.length ≤ 1048576) :
    Calls Try.prog 5 #[u, .slice A bl.length c, .slice B al.length d] w fun e w' => e = .returned (.bool true) ∧ Below w.heap.size w w' := by
  have HU := hidden hu
  have HBV := hidden hbv
  have HAV := hidden hav
  have HG := hidden (show Grows w w from Below.refl _ _)
  have HRV := hidden (rlvalid_any u l w hu (by omega))
  clear hu hbv hav
  cases hval : validR l
  · rw [hval] at HRV
    clear hval
    go_enter Try.func5, Try.ntmps5
    go_wp2_with (first
      | (go_at_call 9; refine HRV.out.mono ?_; rintro e w2 ⟨rfl, g2⟩; have HG := hidden (HG.out.of_below g2); clear g2)
      | (go_at_call 10; refine (rlawake_any _).mono ?_; rintro e w2 ⟨rfl, g2⟩; have HG := hidden (HG.out.of_below g2); clear g2))
    go_ret
    exact ⟨rfl, HG.out⟩
  have hll := valid_length hval
  have hcnt : ∀ x ∈ l, 0 ≤ x.2 ∧ x.2 ≤ 9223372036854775807 := fun x hx => by obtain ⟨j, hj, rfl⟩ := List.getElem_of_mem hx; have h1 := valid_count hval hj; have h2 := (valid_sum hval j (by omega)).1; omega
  have HEN := hidden (fun w' (h : Grows w w') => lencode_any u l w' (HU.out.grow h) hin hcnt (by omega))
  have HRN := hidden (fun w' (h : Grows w w') => rlencode_any u l w' (HU.out.grow h) hin hcnt (by omega))
  have hel := encR_len_le l
  have HDC := hidden (fun w' v' (h : IsBytes w' v' (bl ++ (encR l ++ al))) => ldecode_any v' (bl ++ (encR l ++ al)) (bl.length : Int) w' h (by rw [List.length_append, List.length_append]; omega) (by omega) (by omega))
  rw [dcR_enc hval hin bl al] at HDC
  rw [hval] at HRV
  have HSS := hidden (sameR_self l)
  generalize encR l = E at *
  have HEL := hidden hel
  clear hval hin hcnt
  go_enter Try.func5, Try.ntmps5
  go_wp2_with ((go_at_call 9; refine HRV.out.mono ?_; rintro e w2 ⟨rfl, g2⟩; have HG := hidden (HG.out.of_below g2); clear g2))
  refine (HEN.out _ HG.out).mono ?_
  rintro e w3 ⟨v3, rfl, hown3, hb3⟩
  have HV3 := hidden (IsBytes.of_own hown3)
  obtain ⟨A3, d3, rfl, _⟩ := IsBytes.of_own hown3
  have HG := hidden (HG.out.of_below hb3)
  clear hown3 hb3
  go_wp2_with fail
  have HSE := hidden (strOf_self E)
  refine wp_region_loose (tabRs [(3, BytesV E)]) (by kernel_rfl) (by kernel_rfl) (tabRs_cons BytesV.lasts tabRs_nil) ?_
  iterate 1 ((with_reducible refine loose_one (v := ?_) (a' := ?_) ?_ ?_ (fun w' hC' hG' => ?_) ?_ ?_); rotate_left 2; (focus rfl); (focus rfl); (focus (clear hC' hG'; go_simp; rfl)); (focus (go_simp; rfl)))
  refine loose_one (v := ?_) (a' := ?_) (by rfl) (by rfl) (fun w' hC' hG' => ?_) ?_ ?_
  rotate_left 2
  · have hr := run_string_bytes (P := Try.prog) (HV3.out.grow hC') 45 5 Try.underlying45 Try.underlying5 9 Try.underlying9
    clear hC' hG'
    go_simp
    rfl
  · go_simp
    rfl
  iterate 1 ((with_reducible refine loose_one (v := ?_) (a' := ?_) ?_ ?_ (fun w' hC' hG' => ?_) ?_ ?_); rotate_left 2; (focus rfl); (focus rfl); (focus (clear hC' hG'; go_simp; rfl)); (focus (go_simp; rfl)))
  refine loose_call (R := BytesV E) (f := 25) (args := #[u]) (by rfl) (by rfl) (fun _ => by go_simp) (fun w' hC' hG' => made_loose (HRN.out w' (HG.out.of_below hC'))) ?_
  intro v4 _
  refine ⟨?_, ?_, ?_⟩
  rotate_left
  · go_simp
    rfl
  refine loose_one (v := ?_) (a' := ?_) (by rfl) (by rfl) (fun w' hC' hG' => ?_) ?_ ?_
  rotate_left 2
  · have hr := run_string_bytes (P := Try.prog) ((show IsBytes w' _ E from (hG' 3 (by kernel_rfl)).2 rfl)) 45 5 Try.underlying45 Try.underlying5 9 Try.underlying9
    clear hC' hG'
    go_simp
    rfl
  · go_simp
    rfl
  iterate 1 ((with_reducible refine loose_one (v := ?_) (a' := ?_) ?_ ?_ (fun w' hC' hG' => ?_) ?_ ?_); rotate_left 2; (focus rfl); (focus rfl); (focus (clear hC' hG'; go_simp; rfl)); (focus (go_simp; rfl)))
  refine loose_done (fun w5 hC' hG' => ?_)
  clear hG'
  have HV3 := hidden (HV3.out.grow hC')
  have HG := hidden (HG.out.of_below hC')
  have HX := hidden (show Grows w5 w5 from Below.refl _ _)
  clear hC'
  go_wp2_with (first
    | (at_builtin; (refine wpList_append_bytes (w := w5) rfl _ _ 45 rfl 5 Try.underlying45 info_u8 _ [] (by rfl) ⟨rfl, .inl ⟨rfl, rfl⟩⟩ HX.out _ bl (by rfl) (HBV.out.grow (HG.out.of_below HX.out)) (by simp; omega) ?_); intro v6 w6 hown hb; have HO6 := hidden hown; have HX := hidden hb; clear hown hb)
    | (at_builtin; (refine wpList_append_bytes (w := w5) rfl _ _ 45 rfl 5 Try.underlying45 info_u8 _ ([] ++ bl) (by rfl) HO6.out HX.out _ E (by rfl) (HV3.out.grow HX.out) (by simp; omega) ?_); intro v7 w7 hown hb; have HO7 := hidden hown; have HX := hidden hb; clear hown hb)
    | (at_builtin; (refine wpList_append_bytes (w := w5) rfl _ _ 45 rfl 5 Try.underlying45 info_u8 _ ([] ++ bl ++ E) (by rfl) HO7.out HX.out _ al (by rfl) (HAV.out.grow (HG.out.of_below HX.out)) (by simp; omega) ?_); intro v8 w8 hown hb; have HO8 := hidden hown; have HX := hidden hb; clear hown hb))
  have HB8 := hidden (show IsBytes w8 v8 (bl ++ (E ++ al)) from by have h := IsBytes.of_own HO8.out; simpa [List.append_assoc] using h)
  have HG := hidden (HG.out.of_below HX.out)
  have hla : ((bl.length + E.length : Nat) : Int) = (bl.length : Int) + (E.length : Int) := by omega
  have HDC := hidden (HDC.out w8 v8 HB8.out)
  rw [hla] at HDC
  clear hla HO8 HO7 HO6 HX
  refine HDC.out.mono ?_
  rintro e w9 ⟨u9, rfl, g9, hu9⟩
  have HG := hidden (HG.out.of_below g9)
  have HEQ := hidden (rlequal_any u9 u l l w9 hu9 (HU.out.grow HG.out) (by omega) (by omega))
  rw [HSS.out] at HEQ
  clear g9 hu9
  have hEl : E.length ≤ 10000000 := by omega
  go_wp2_with (first
    | (go_at_call 13; refine HEQ.out.mono ?_; rintro e w10 ⟨rfl, g10⟩; have HG := hidden (HG.out.of_below g10); clear g10)
    | (go_at_call 10; refine (rlawake_any _).mono ?_; rintro e w2 ⟨rfl, g2⟩; have HG := hidden (HG.out.of_below g2); clear g2))
  go_ret
  exact ⟨rfl, HG.out⟩
end Go.Proofs.Ytnjmbhakfecdoaa
