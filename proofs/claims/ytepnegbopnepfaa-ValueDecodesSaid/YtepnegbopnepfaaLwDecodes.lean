/-
  The walk of the law ValueDecodes: it returns true for all bytes and offsets; nothing that was there is changed.
-/
import Derived.Test.YtepnegbopnepfaaLwDecNum
namespace Go.Proofs.Ytepnegbopnepfaa
open Go.RowKit
set_option linter.unusedVariables false
set_option linter.unusedSimpArgs false

theorem strOf_self (s : List UInt8) : ((strOf s).toList == (strOf s).toList) = true := by simp
theorem slice_reads {w : World} {A : Option Addr} {c o p : Nat} {l : List UInt8} (h : IsBytes w (.slice A l.length c) l) (hop : o ≤ p) (hpl : p ≤ l.length) (hlc : l.length ≤ c) :
    (Instr.sliceAt 50 (.slice A l.length c) (some (.int .i64 (o : Int))) (some (.int .i64 (p : Int))) none).run Try.prog w = .ok (sliced A o p c 1) w ∧ IsBytes w (sliced A o p c 1) ((l.drop o).take (p - o)) := by
  have hel : Try.prog.elem 50 = 5 := by kernel_rfl
  have hrun := run_slice_lh (P := Try.prog) (w := w) 50 A l.length c (by rw [hel]; exact Try.underlying50) .i64 .i64 (o : Int) (p : Int) (by omega) (by omega) (by omega)
  have hs : (sizeOf (Try.prog.elem 50)).run Try.prog w = .ok 1 w := by
    rw [hel]
    have hsz : (Try.prog.info? 5).map (·.size) = some 1 := by kernel_rfl
    cases hi : Try.prog.info? 5 with
    | none => rw [hi] at hsz; cases hsz
    | some y =>
      rw [hi] at hsz
      have h1 : y.size = 1 := by simpa using hsz
      simp [sizeOf, typeInfo, hi, h1]
  rw [hs] at hrun
  simp only [Result.andThen_ok, Int.toNat_natCast] at hrun
  refine ⟨by rw [run_sliceAt_slice (h := by rw [hel]; exact Try.underlying50)]; exact hrun, ?_⟩
  unfold sliced
  have hempty : p = o → IsBytes w (.slice (if c = o then A else A.map (·.add (o * 1))) (p - o) (c - o)) ((l.drop o).take (p - o)) := fun hpo => by
    have e1 : p - o = 0 := by omega
    rw [e1, List.take_zero]
    exact ⟨_, _, rfl, fun h0 => absurd h0 (by simp)⟩
  by_cases hpo : p = o
  · exact hempty hpo
  · obtain ⟨A', c', he, hc⟩ := h
    injection he with e1 e2 e3
    subst e1
    obtain ⟨b, f, rfl, hcell⟩ := hc (by omega)
    rw [if_neg (by omega), Option.map_some, Nat.mul_one, Addr.add_lit]
    exact IsBytes.sub ⟨some ⟨b, f, none⟩, c, rfl, fun _ => ⟨b, f, rfl, hcell⟩⟩ o (p - o) (c - o) (by omega)
theorem slice_reads2 {w : World} {A : Option Addr} {c o p : Nat} {l : List UInt8} (h : IsBytes w (.slice A l.length c) l) (hop : o ≤ p) (hpl : p ≤ l.length) (hlc : l.length ≤ c) :
    IsBytes w (.slice (if c = o then A else Option.map (fun x => x.add o) A) (p - o) (c - o)) ((l.drop o).take (p - o)) := by
  have h1 := (slice_reads h hop hpl hlc).2
  unfold sliced at h1
  rw [Nat.mul_one] at h1
  exact h1
set_option maxHeartbeats 4000000 in
theorem law_decodes (A : Option Addr) (c : Nat) (l : List UInt8) (off : Int) (w : World) (hv : IsBytes w (.slice A l.length c) l) (hl : l.length ≤ 4611686018427387904) (hlc : l.length ≤ c) :
    Calls Try.prog 9 #[.slice A l.length c, .int .i64 off] w fun e w' => e = .returned (.bool true) ∧ Grows w w' := by
  have HV := hidden hv
  have HA := hidden (fun w h => ldecode_any A c l off w h hl hlc)
  have HB := hidden (fun w h => rdecodev_any A c l off w h hl hlc)
  have HE := hidden (fun h => dec_is_enc (l := l) (off := off) h)
  unfold DecO.v at HA HB
  generalize decO l off = d at *
  obtain ⟨dk, dn, dt, dp, de⟩ := d
  simp only at HA HB HE
  clear hv
  by_cases he : de = 0
  case neg =>
    have hen : (de != 0) = true := by simpa using he
    clear HE he
    go_enter Try.func9, Try.ntmps9
    go_wp2_with fail
    refine (HA.out _ HV.out).mono ?_
    rintro e w2 ⟨rfl, g2⟩
    have HG2 := hidden g2
    clear g2
    go_wp2_with (refine wpList_store_new rfl _ _ rfl _ rfl rfl _ _ _ rfl ?_; intro W1 hrW hgW hsW; have HR1 := hidden hrW; have HW1 := hidden (HG2.out.of_below hgW); clear hrW hgW hsW)
    refine (HB.out _ (HV.out.grow HW1.out)).mono ?_
    rintro e w3 ⟨rfl, g3⟩
    have HR3 := hidden (HR1.out.grow g3)
    have HG3 := hidden (HW1.out.of_below g3)
    clear g3
    go_wp2_with (refine wpList_store_new rfl _ _ rfl _ rfl rfl _ _ _ rfl ?_; intro W2 hrW hgW hsW; have HQ1 := hidden (fun w' (h : Grows W2 w') => rowCells ((HR3.out.grow hgW).grow h)); have k1 := (rowCells (HR3.out.grow hgW)).1; have k2 := (rowCells (HR3.out.grow hgW)).2.1; have k3 := (rowCells (HR3.out.grow hgW)).2.2; have q1 := (rowCells hrW).1; have q2 := (rowCells hrW).2.1; have q3 := (rowCells hrW).2.2; have HW2 := hidden (HG3.out.of_below hgW); clear hrW hgW hsW)
    clear k1 k2 k3 q1 q2 q3
    refine wp_region_loose (constRs [(14, .bool true)]) (by kernel_rfl) (by kernel_rfl) (constRs_lasts _) ?_
    iterate 3 ((with_reducible refine loose_one (v := ?_) (a' := ?_) ?_ ?_ (fun w' hC' hG' => ?_) ?_ ?_); rotate_left 2; (focus rfl); (focus rfl); (focus (clear hC' hG'; go_simp; rfl)); (focus (go_simp; rfl)))
    iterate 1 ((with_reducible refine loose_skip (a' := ?_) ?_ ?_ ?_); rotate_left 1; (focus rfl); (focus (go_simp; rfl)))
    iterate 1 ((with_reducible refine loose_skip (a' := ?_) ?_ ?_ ?_); rotate_left 1; (focus rfl); (focus (go_simp; rfl)))
    iterate 1 ((with_reducible refine loose_skip (a' := ?_) ?_ ?_ ?_); rotate_left 1; (focus rfl); (focus (go_simp; rfl)))
    iterate 1 ((with_reducible refine loose_skip (a' := ?_) ?_ ?_ ?_); rotate_left 1; (focus rfl); (focus (go_simp; rfl)))
    iterate 1 ((with_reducible refine loose_skip (a' := ?_) ?_ ?_ ?_); rotate_left 1; (focus rfl); (focus (go_simp; rfl)))
    iterate 1 ((with_reducible refine loose_skip (a' := ?_) ?_ ?_ ?_); rotate_left 1; (focus rfl); (focus (go_simp; rfl)))
    iterate 1 ((with_reducible refine loose_skip (a' := ?_) ?_ ?_ ?_); rotate_left 1; (focus rfl); (focus (go_simp; rfl)))
    iterate 1 ((with_reducible refine loose_skip (a' := ?_) ?_ ?_ ?_); rotate_left 1; (focus rfl); (focus (go_simp; rfl)))
    iterate 1 ((with_reducible refine loose_skip (a' := ?_) ?_ ?_ ?_); rotate_left 1; (focus rfl); (focus (go_simp; rfl)))
    iterate 2 ((with_reducible refine loose_one (v := ?_) (a' := ?_) ?_ ?_ (fun w' hC' hG' => ?_) ?_ ?_); rotate_left 2; (focus rfl); (focus rfl); (focus (clear hC' hG'; go_simp; rfl)); (focus (go_simp; rfl)))
    refine loose_call (R := ConstV (.bool true)) (f := 13) (args := #[]) (by rfl) (by rfl) (fun _ => by go_simp) (fun w' hC' hG' => const_loose (awake_any w')) ?_
    rintro _ ⟨_, _, rfl⟩
    refine ⟨?_, ?_, ?_⟩
    rotate_left
    · go_simp
      rfl
    iterate 2 ((with_reducible refine loose_one (v := ?_) (a' := ?_) ?_ ?_ (fun w' hC' hG' => ?_) ?_ ?_); rotate_left 2; (focus rfl); (focus rfl); (focus (clear hC' hG'; go_simp; rfl)); (focus (go_simp; rfl)))
    refine loose_done (fun w5 hC' hG' => ?_)
    clear hG'
    go_wp2_with fail
    all_goals (go_ret; exact ⟨rfl, HW2.out.of_below hC'⟩)
  obtain ⟨o, p, rfl, hp, hop, hpl, hval, hin, henc⟩ := HE.out he
  subst he
  subst hp
  have HN := hidden (fun w => lencode_any dk dn dt w hval hin.1 hin.2)
  rw [henc] at HN
  have HS := hidden (fun w (h : IsBytes w (.slice A l.length c) l) => slice_reads2 h hop hpl hlc)
  have HSL := hidden (strOf_self ((l.drop o).take (p - o)))
  clear henc hval hin HE
  go_enter Try.func9, Try.ntmps9
  go_wp2_with fail
  refine (HA.out _ HV.out).mono ?_
  rintro e w2 ⟨rfl, g2⟩
  have HG2 := hidden g2
  clear g2
  go_wp2_with (refine wpList_store_new rfl _ _ rfl _ rfl rfl _ _ _ rfl ?_; intro W1 hrW hgW hsW; have HR1 := hidden hrW; have HW1 := hidden (HG2.out.of_below hgW); clear hrW hgW hsW)
  refine (HB.out _ (HV.out.grow HW1.out)).mono ?_
  rintro e w3 ⟨rfl, g3⟩
  have HR3 := hidden (HR1.out.grow g3)
  have HG3 := hidden (HW1.out.of_below g3)
  clear g3
  go_wp2_with (refine wpList_store_new rfl _ _ rfl _ rfl rfl _ _ _ rfl ?_; intro W2 hrW hgW hsW; have HQ1 := hidden (fun w' (h : Grows W2 w') => rowCells ((HR3.out.grow hgW).grow h)); have k1 := (rowCells (HR3.out.grow hgW)).1; have k2 := (rowCells (HR3.out.grow hgW)).2.1; have k3 := (rowCells (HR3.out.grow hgW)).2.2; have q1 := (rowCells hrW).1; have q2 := (rowCells hrW).2.1; have q3 := (rowCells hrW).2.2; have HW2 := hidden (HG3.out.of_below hgW); clear hrW hgW hsW)
  clear k1 k2 k3 q1 q2 q3
  generalize hs9 : (l.drop o).take (p - o) = s9 at *
  refine wp_region_loose (tabRs [(4, BytesL s9), (14, ConstV (.bool true))]) (by kernel_rfl) (by kernel_rfl) (tabRs_cons BytesL.lasts (tabRs_cons ConstV.lasts tabRs_nil)) ?_
  iterate 4 ((with_reducible refine loose_one (v := ?_) (a' := ?_) ?_ ?_ (fun w' hC' hG' => ?_) ?_ ?_); rotate_left 2; (focus rfl); (focus rfl); (focus (obtain ⟨k1, k2, k3⟩ := HQ1.out w' hC'; clear hC' hG'; go_simp; rfl)); (focus (go_simp; rfl)))
  refine loose_call (R := BytesL s9) (f := 41) (args := #[.agg #[.int .i64 dk, .int .i64 dn, .string dt]]) (by rfl) (by rfl) (fun _ => by go_simp) (fun w' hC' hG' => HN.out w') ?_
  intro v4 _
  refine ⟨?_, ?_, ?_⟩
  rotate_left
  · go_simp
    rfl
  refine loose_one (v := ?_) (a' := ?_) (by rfl) (by rfl) (fun w' hC' hG' => ?_) ?_ ?_
  rotate_left 2
  · have hr := run_string_bytes (P := Try.prog) (BytesL.is ((hG' 4 (by kernel_rfl)).2 rfl)) 50 5 Try.underlying50 Try.underlying5 9 Try.underlying9
    clear hC' hG'
    go_simp
    rfl
  · go_simp
    rfl
  iterate 3 ((with_reducible refine loose_one (v := ?_) (a' := ?_) ?_ ?_ (fun w' hC' hG' => ?_) ?_ ?_); rotate_left 2; (focus rfl); (focus rfl); (focus (obtain ⟨k1, k2, k3⟩ := HQ1.out w' hC'; clear hC' hG'; go_simp; rfl)); (focus (go_simp; rfl)))
  have hoI : (o : Int) ≤ (p : Int) := by omega
  have hpI : (p : Int) ≤ (c : Int) := by omega
  iterate 1 ((with_reducible refine loose_one (v := ?_) (a' := ?_) ?_ ?_ (fun w' hC' hG' => ?_) ?_ ?_); rotate_left 2; (focus rfl); (focus rfl); (focus (clear hC' hG'; go_simp; rfl)); (focus (go_simp; rfl)))
  refine loose_one (v := ?_) (a' := ?_) (by rfl) (by rfl) (fun w' hC' hG' => ?_) ?_ ?_
  rotate_left 2
  · have hr := run_string_bytes (P := Try.prog) (HS.out w' (HV.out.grow (HW2.out.of_below hC'))) 50 5 Try.underlying50 Try.underlying5 9 Try.underlying9
    clear hC' hG'
    go_simp
    rfl
  · go_simp
    rfl
  iterate 3 ((with_reducible refine loose_one (v := ?_) (a' := ?_) ?_ ?_ (fun w' hC' hG' => ?_) ?_ ?_); rotate_left 2; (focus rfl); (focus rfl); (focus (clear hC' hG'; go_simp; rfl)); (focus (go_simp; rfl)))
  refine loose_call (R := ConstV (.bool true)) (f := 13) (args := #[]) (by rfl) (by rfl) (fun _ => by go_simp) (fun w' hC' hG' => const_loose (awake_any w')) ?_
  rintro _ ⟨_, _, rfl⟩
  refine ⟨?_, ?_, ?_⟩
  rotate_left
  · go_simp
    rfl
  iterate 2 ((with_reducible refine loose_one (v := ?_) (a' := ?_) ?_ ?_ (fun w' hC' hG' => ?_) ?_ ?_); rotate_left 2; (focus rfl); (focus rfl); (focus (clear hC' hG'; go_simp; rfl)); (focus (go_simp; rfl)))
  refine loose_done (fun w5 hC' hG' => ?_)
  clear hG'
  go_wp2_with fail
  all_goals (go_ret; exact ⟨rfl, HW2.out.of_below hC'⟩)
end Go.Proofs.Ytepnegbopnepfaa
