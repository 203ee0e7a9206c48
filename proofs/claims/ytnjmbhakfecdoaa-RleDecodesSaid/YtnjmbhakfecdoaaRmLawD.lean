/-
  The walk of the law RleDecodes: it returns true for all bytes and offsets; nothing that was there is changed.
-/
import Derived.Test.YtnjmbhakfecdoaaRmT
import Derived.Test.YtnjmbhakfecdoaaRm7
namespace Go.Proofs.Ytnjmbhakfecdoaa
open Go.RowKit
set_option linter.unusedVariables false
set_option linter.unusedSimpArgs false

set_option maxHeartbeats 4000000 in
theorem law_decodes (A : Option Addr) (c : Nat) (b : List UInt8) (off : Int) (w : World) (hv : IsBytes w (.slice A b.length c) b) (hl : b.length ≤ 1000000000000000) (hlc : b.length ≤ c) (h63 : -9223372036854775808 ≤ off) (h64 : off ≤ 9223372036854775807) :
    Calls Try.prog 6 #[.slice A b.length c, .int .i64 off] w fun e w' => e = .returned (.bool true) ∧ Below w.heap.size w w' := by
  have HV := hidden hv
  have HPD := hidden (fun w' (h : Grows w w') => ldecode_any (.slice A b.length c) b off w' (hv.grow h) hl h63 h64)
  have HRD := hidden (fun w' (h : Grows w w') => rldecode_any (.slice A b.length c) b off w' (hv.grow h) hl h63 h64)
  have HER := hidden (dcR_err b off)
  have HAC := hidden (fun h => dcR_acc (b := b) (off := off) h)
  have HG := hidden (show Grows w w from Below.refl _ _)
  generalize dcR b off = d at *
  obtain ⟨l, at_, er⟩ := d
  simp only at HER HAC
  clear hv
  by_cases he : er = 0
  case neg =>
    obtain ⟨rfl, rfl⟩ := HER.out he
    have hen : (er != 0) = true := by simpa using he
    clear HER HAC he
    go_enter Try.func6, Try.ntmps6
    go_wp2_with fail
    refine (HPD.out _ HG.out).mono ?_
    rintro e w2 ⟨u1, rfl, g2, hu1⟩
    have HU1 := hidden hu1
    have HG := hidden (HG.out.of_below g2)
    clear g2 hu1
    go_wp2_with fail
    refine (HRD.out _ HG.out).mono ?_
    rintro e w3 ⟨u2, rfl, g3, hu2⟩
    have HEQ := hidden (rlequal_any u1 u2 [] [] w3 (HU1.out.grow g3) hu2 (by simp) (by simp))
    rw [sameR_self] at HEQ
    have HG := hidden (HG.out.of_below g3)
    clear g3 hu2
    go_wp2_with ((go_at_call 13; refine HEQ.out.mono ?_; rintro e w5 ⟨rfl, g5⟩; have HG := hidden (HG.out.of_below g5); clear g5))
    refine wp_region_loose (tabRs [(18, ConstV (.bool true))]) (by kernel_rfl) (by kernel_rfl) (tabRs_cons ConstV.lasts tabRs_nil) ?_
    iterate 3 ((with_reducible refine loose_one (v := ?_) (a' := ?_) ?_ ?_ (fun w' hC' hG' => ?_) ?_ ?_); rotate_left 2; (focus rfl); (focus rfl); (focus (clear hC' hG'; go_simp; rfl)); (focus (go_simp; rfl)))
    iterate 1 ((with_reducible refine loose_skip (a' := ?_) ?_ ?_ ?_); rotate_left 1; (focus rfl); (focus (go_simp; rfl)))
    iterate 1 ((with_reducible refine loose_skip (a' := ?_) ?_ ?_ ?_); rotate_left 1; (focus rfl); (focus (go_simp; rfl)))
    iterate 1 ((with_reducible refine loose_skip (a' := ?_) ?_ ?_ ?_); rotate_left 1; (focus rfl); (focus (go_simp; rfl)))
    iterate 1 ((with_reducible refine loose_skip (a' := ?_) ?_ ?_ ?_); rotate_left 1; (focus rfl); (focus (go_simp; rfl)))
    iterate 1 ((with_reducible refine loose_skip (a' := ?_) ?_ ?_ ?_); rotate_left 1; (focus rfl); (focus (go_simp; rfl)))
    iterate 1 ((with_reducible refine loose_skip (a' := ?_) ?_ ?_ ?_); rotate_left 1; (focus rfl); (focus (go_simp; rfl)))
    iterate 1 ((with_reducible refine loose_skip (a' := ?_) ?_ ?_ ?_); rotate_left 1; (focus rfl); (focus (go_simp; rfl)))
    iterate 1 ((with_reducible refine loose_skip (a' := ?_) ?_ ?_ ?_); rotate_left 1; (focus rfl); (focus (go_simp; rfl)))
    iterate 1 ((with_reducible refine loose_skip (a' := ?_) ?_ ?_ ?_); rotate_left 1; (focus rfl); (focus (go_simp; rfl)))
    iterate 1 ((with_reducible refine loose_skip (a' := ?_) ?_ ?_ ?_); rotate_left 1; (focus rfl); (focus (go_simp; rfl)))
    iterate 1 ((with_reducible refine loose_skip (a' := ?_) ?_ ?_ ?_); rotate_left 1; (focus rfl); (focus (go_simp; rfl)))
    iterate 1 ((with_reducible refine loose_skip (a' := ?_) ?_ ?_ ?_); rotate_left 1; (focus rfl); (focus (go_simp; rfl)))
    iterate 1 ((with_reducible refine loose_skip (a' := ?_) ?_ ?_ ?_); rotate_left 1; (focus rfl); (focus (go_simp; rfl)))
    iterate 2 ((with_reducible refine loose_one (v := ?_) (a' := ?_) ?_ ?_ (fun w' hC' hG' => ?_) ?_ ?_); rotate_left 2; (focus rfl); (focus rfl); (focus (clear hC' hG'; go_simp; rfl)); (focus (go_simp; rfl)))
    refine loose_call (R := ConstV (.bool true)) (f := 10) (args := #[]) (by rfl) (by rfl) (fun _ => by go_simp) (fun w' hC' hG' => const_loose (rlawake_any w')) ?_
    rintro _ ⟨_, _, rfl⟩
    refine ⟨?_, ?_, ?_⟩
    rotate_left
    · go_simp
      rfl
    iterate 2 ((with_reducible refine loose_one (v := ?_) (a' := ?_) ?_ ?_ (fun w' hC' hG' => ?_) ?_ ?_); rotate_left 2; (focus rfl); (focus rfl); (focus (clear hC' hG'; go_simp; rfl)); (focus (go_simp; rfl)))
    refine loose_done (fun w6 hC' hG' => ?_)
    clear hG'
    go_wp2_with fail
    all_goals (go_ret; exact ⟨rfl, HG.out.of_below hC'⟩)
  obtain ⟨o, k, rfl, hp, hok, hval, hin, henc⟩ := HAC.out he
  subst he
  subst hp
  have hll := valid_length hval
  obtain ⟨p, hp⟩ : ∃ p, p = o + k := ⟨_, rfl⟩
  rw [← hp] at hok HPD HRD
  rw [show k = p - o by omega] at henc
  have hop : o ≤ p := by omega
  have HRV := hidden (fun w' u (h : ReadsR w' u l) => rlvalid_any u l w' h (by omega))
  rw [hval] at HRV
  have HEN := hidden (fun w' u (h : ReadsR w' u l) => lencode_any u l w' h hin (fun x hx => by obtain ⟨j, hj, rfl⟩ := List.getElem_of_mem hx; have h1 := valid_count hval hj; have h2 := (valid_sum hval j (by omega)).1; omega) (by omega))
  rw [henc] at HEN
  have HS := hidden (fun w (h : IsBytes w (.slice A b.length c) b) => slice_reads2 h hop hok hlc)
  have hoI : (o : Int) ≤ (p : Int) := by omega
  have hpI : (p : Int) ≤ (c : Int) := by omega
  clear henc hval hin HER HAC hp
  go_enter Try.func6, Try.ntmps6
  go_wp2_with fail
  refine (HPD.out _ HG.out).mono ?_
  rintro e w2 ⟨u1, rfl, g2, hu1⟩
  have HU1 := hidden hu1
  have HG := hidden (HG.out.of_below g2)
  clear g2 hu1
  go_wp2_with fail
  refine (HRD.out _ HG.out).mono ?_
  rintro e w3 ⟨u2, rfl, g3, hu2⟩
  have HU1 := hidden (HU1.out.grow g3)
  have HU2 := hidden hu2
  have HEQ := hidden (rlequal_any u1 u2 l l w3 HU1.out hu2 (by omega) (by omega))
  rw [sameR_self] at HEQ
  have HG := hidden (HG.out.of_below g3)
  clear g3 hu2
  go_wp2_with ((go_at_call 13; refine HEQ.out.mono ?_; rintro e w5 ⟨rfl, g5⟩; have HU1 := hidden (HU1.out.grow g5); have HU2 := hidden (HU2.out.grow g5); have HG := hidden (HG.out.of_below g5); clear g5))
  have HSL := hidden (strOf_self ((b.drop o).take (p - o)))
  generalize hs9 : (b.drop o).take (p - o) = s9 at *
  refine wp_region_loose (tabRs [(4, ConstV (.bool true)), (7, BytesV s9), (18, ConstV (.bool true))]) (by kernel_rfl) (by kernel_rfl) (tabRs_cons ConstV.lasts (tabRs_cons BytesV.lasts (tabRs_cons ConstV.lasts tabRs_nil))) ?_
  iterate 4 ((with_reducible refine loose_one (v := ?_) (a' := ?_) ?_ ?_ (fun w' hC' hG' => ?_) ?_ ?_); rotate_left 2; (focus rfl); (focus rfl); (focus (clear hC' hG'; go_simp; rfl)); (focus (go_simp; rfl)))
  refine loose_call (R := ConstV (.bool true)) (f := 9) (args := #[u2]) (by rfl) (by rfl) (fun _ => by go_simp) (fun w' hC' hG' => const_loose (HRV.out w' u2 (HU2.out.grow hC'))) ?_
  rintro _ ⟨_, _, rfl⟩
  refine ⟨?_, ?_, ?_⟩
  rotate_left
  · go_simp
    rfl
  iterate 2 ((with_reducible refine loose_one (v := ?_) (a' := ?_) ?_ ?_ (fun w' hC' hG' => ?_) ?_ ?_); rotate_left 2; (focus rfl); (focus rfl); (focus (clear hC' hG'; go_simp; rfl)); (focus (go_simp; rfl)))
  refine loose_call (R := BytesV s9) (f := 24) (args := #[u1]) (by rfl) (by rfl) (fun _ => by go_simp) (fun w' hC' hG' => made_loose (HEN.out w' u1 (HU1.out.grow hC'))) ?_
  intro v7 _
  refine ⟨?_, ?_, ?_⟩
  rotate_left
  · go_simp
    rfl
  refine loose_one (v := ?_) (a' := ?_) (by rfl) (by rfl) (fun w' hC' hG' => ?_) ?_ ?_
  rotate_left 2
  · have hr := run_string_bytes (P := Try.prog) ((show IsBytes w' _ s9 from (hG' 7 (by kernel_rfl)).2 rfl)) 45 5 Try.underlying45 Try.underlying5 9 Try.underlying9
    clear hC' hG'
    go_simp
    rfl
  · go_simp
    rfl
  iterate 4 ((with_reducible refine loose_one (v := ?_) (a' := ?_) ?_ ?_ (fun w' hC' hG' => ?_) ?_ ?_); rotate_left 2; (focus rfl); (focus rfl); (focus (clear hC' hG'; go_simp; rfl)); (focus (go_simp; rfl)))
  refine loose_one (v := ?_) (a' := ?_) (by rfl) (by rfl) (fun w' hC' hG' => ?_) ?_ ?_
  rotate_left 2
  · have hr := run_string_bytes (P := Try.prog) (HS.out w' (HV.out.grow (HG.out.of_below hC'))) 45 5 Try.underlying45 Try.underlying5 9 Try.underlying9
    clear hC' hG'
    go_simp
    rfl
  · go_simp
    rfl
  iterate 4 ((with_reducible refine loose_one (v := ?_) (a' := ?_) ?_ ?_ (fun w' hC' hG' => ?_) ?_ ?_); rotate_left 2; (focus rfl); (focus rfl); (focus (clear hC' hG'; go_simp; rfl)); (focus (go_simp; rfl)))
  refine loose_call (R := ConstV (.bool true)) (f := 10) (args := #[]) (by rfl) (by rfl) (fun _ => by go_simp) (fun w' hC' hG' => const_loose (rlawake_any w')) ?_
  rintro _ ⟨_, _, rfl⟩
  refine ⟨?_, ?_, ?_⟩
  rotate_left
  · go_simp
    rfl
  iterate 2 ((with_reducible refine loose_one (v := ?_) (a' := ?_) ?_ ?_ (fun w' hC' hG' => ?_) ?_ ?_); rotate_left 2; (focus rfl); (focus rfl); (focus (clear hC' hG'; go_simp; rfl)); (focus (go_simp; rfl)))
  refine loose_done (fun w6 hC' hG' => ?_)
  clear hG'
  go_wp2_with fail
  all_goals (go_ret; exact ⟨rfl, HG.out.of_below hC'⟩)
end Go.Proofs.Ytnjmbhakfecdoaa
