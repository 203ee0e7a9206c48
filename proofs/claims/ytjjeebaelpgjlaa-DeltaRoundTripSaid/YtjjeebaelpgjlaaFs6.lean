/-
  Package frameref as it landed: readFrame. Nothing that was there is changed.
-/
import Derived.Test.YtjjeebaelpgjlaaFs5
namespace Go.Proofs.Ytjjeebaelpgjlaa
open Go.RowKit
set_option linter.unusedVariables false
set_option linter.unusedSimpArgs false

/-- what readFrame hands back -/
def FrR (b : List UInt8) (n : Int) (r : Int × Int × Int × Int × Int) (w : World) (e : Ending) (w' : World) : Prop :=
  Grows w w' ∧ ((r.2.2.2.2 ≠ 0 ∧ e = .returned (.tuple #[.agg #[.int .i64 0, .int .i64 0, .int .i64 0, .slice none 0 0], .int .i64 0, .int .i64 r.2.2.2.2])) ∨
    (r.2.2.2.2 = 0 ∧ ∃ A c, IsBytes w (.slice A (packedD b r.2.2.2.1 n.toNat r.2.1.toNat).length c) (packedD b r.2.2.2.1 n.toNat r.2.1.toNat) ∧
      e = .returned (.tuple #[.agg #[.int .i64 (uz r.1), .int .i64 r.2.1, .int .i64 r.2.2.1, .slice A (packedD b r.2.2.2.1 n.toNat r.2.1.toNat).length c], .int .i64 (r.2.2.2.1 + (szB n.toNat r.2.1.toNat : Nat)), .int .i64 0])))
theorem FrR.err {b : List UInt8} {n : Int} {r : Int × Int × Int × Int × Int} {f : Int} {w w' : World} (h : r = (0, 0, 0, 0, f) ∧ f ≠ 0) (hb : Grows w w') : FrR b n r w (.returned (.tuple #[.agg #[.int .i64 0, .int .i64 0, .int .i64 0, .slice none 0 0], .int .i64 0, .int .i64 f])) w' := by
  obtain ⟨rfl, hf⟩ := h
  exact ⟨hb, .inl ⟨hf, rfl⟩⟩
theorem lszB_65 {n W : Nat} (hn : n ≤ 65536) (hW : W ≤ 64) : szB n W ≤ 600000 := by
  have h5 : n * W ≤ n * 64 := Nat.mul_le_mul_left _ hW
  unfold szB
  omega
/-- a frame that was laid behind H -/
def NewF (H : Nat) : Value → World → Prop := fun v w => ∃ b, v = .pointer (some ⟨b, 0, none⟩) ∧ H ≤ b ∧ Row w b 63 [.int .i64 0, .int .i64 0, .int .i64 0, .slice none 0 0]
theorem NewF.lasts {H : Nat} : ∀ v w w', NewF H v w → Grows w w' → NewF H v w' := fun _ _ _ ⟨b, h1, h2, h3⟩ hg => ⟨b, h1, h2, h3.grow hg⟩
theorem numD_bd {b : List UInt8} {o lim x q e : Int} (h : numD b o lim = (x, q, e)) : e = 0 → 0 ≤ x ∧ x ≤ lim ∧ 0 ≤ o ∧ o ≤ q ∧ q ≤ (b.length : Int) := by
  intro he
  subst he
  obtain ⟨y, r, f, hd⟩ : ∃ y r f, dcd b o = (y, r, f) := ⟨_, _, _, rfl⟩
  have hb := dcd_bd2 hd
  by_cases hf : f = 0
  · subst hf
    obtain ⟨a1, a2, a3⟩ := hb.2.2.1 rfl
    by_cases hx : lim < y
    · rw [numD_f hd hx] at h
      simp only [Prod.mk.injEq] at h
      omega
    · rw [numD_ok hd hx] at h
      simp only [Prod.mk.injEq] at h
      obtain ⟨rfl, rfl, _⟩ := h
      exact ⟨hb.1, by omega, a1, a2, a3⟩
  · rw [numD_e hd hf] at h
    simp only [Prod.mk.injEq] at h
    exact absurd h.2.2 hf
set_option maxRecDepth 20000 in
set_option maxHeartbeats 8000000 in
theorem readFrame_any (A : Option Addr) (c : Nat) (b : List UInt8) (o n : Int) (w : World) (hb : IsBytes w (.slice A b.length c) b) (hlc : b.length ≤ c) (hl : b.length ≤ 1048576) (h63 : -9223372036854775808 ≤ o) (h64 : o ≤ 9223372036854775807) :
    Calls Try.prog 43 #[.slice A b.length c, .int .i64 o, .int .i64 n] w (FrR b n (frD b o n) w) := by
  have HG := hidden (show Grows w (w.alloc (.cells #[.int .i64 0, .int .i64 0, .int .i64 0, .slice none 0 0] 63)) from (Below.refl _ _).alloc (Nat.le_refl _) _)
  have HR := hidden (Row.new w 63 #[.int .i64 0, .int .i64 0, .int .i64 0, .slice none 0 0] [.int .i64 0, .int .i64 0, .int .i64 0, .slice none 0 0] rfl)
  have HRW : Hid ((w.alloc (.cells #[.int .i64 0, .int .i64 0, .int .i64 0, .slice none 0 0] 63)).heap[w.heap.size]? = some (.cells #[.int .i64 0, .int .i64 0, .int .i64 0, .slice none 0 0] 63 (0, 0))) := HR.out
  have HRS := hidden (Row.setRow_ HR.out [.int .i64 0, .int .i64 0, .int .i64 0, .slice none 0 0] rfl)
  have hs1 := World.size_alloc w (.cells #[.int .i64 0, .int .i64 0, .int .i64 0, .slice none 0 0] 63)
  have HV := hidden (hb.grow HG.out)
  have HV0 := hidden hb
  have HSZ1 := hidden hs1
  clear hb hs1
  by_cases h1 : n < 0
  · have HE := hidden (show frD b o n = (0, 0, 0, 0, 1) ∧ (1 : Int) ≠ 0 from ⟨frD_a (.inl h1), by decide⟩)
    have hd : decide (n < 0) = true := by simpa using h1
    clear h1
    go_enter Try.func43, Try.ntmps43
    go_wp2_with (refine wpList_store_row rfl _ _ _ rfl _ #[.int .i64 0, .int .i64 0, .int .i64 0, .slice none 0 0] rfl rfl _ _ HRW.out sizeFr rfl (by simp [Value.oneCell']) ?_)
    exact bodyPost_ret (results_fr3 rfl _ _ _ _ _ _ _ (.int .i64 0) (.int .i64 1) rfl HRS.out rfl rfl) rfl (FrR.err HE.out (below_setRow HG.out (Nat.le_refl _) _))
  have d1 : decide (n < 0) = false := by simpa using h1
  by_cases h2 : 65536 < n
  · have HE := hidden (show frD b o n = (0, 0, 0, 0, 1) ∧ (1 : Int) ≠ 0 from ⟨frD_a (.inr h2), by decide⟩)
    have hd : decide (65536 < n) = true := by simpa using h2
    clear h2
    go_enter Try.func43, Try.ntmps43
    go_wp2_with (refine wpList_store_row rfl _ _ _ rfl _ #[.int .i64 0, .int .i64 0, .int .i64 0, .slice none 0 0] rfl rfl _ _ HRW.out sizeFr rfl (by simp [Value.oneCell']) ?_)
    exact bodyPost_ret (results_fr3 rfl _ _ _ _ _ _ _ (.int .i64 0) (.int .i64 1) rfl HRS.out rfl rfl) rfl (FrR.err HE.out (below_setRow HG.out (Nat.le_refl _) _))
  have d2 : decide (65536 < n) = false := by simpa using h2
  have HN := hidden (show ¬ (n < 0 ∨ 65536 < n) by omega)
  obtain ⟨z, p1, e1, hd1⟩ : ∃ z p1 e1, dcd b o = (z, p1, e1) := ⟨_, _, _, rfl⟩
  have hb1 := dcd_bd2 hd1
  have HC1 := hidden (decode_any (.slice A b.length c) b o _ HV.out (by unfold maxLen; omega) h63 h64)
  rw [hd1] at HC1
  have HD1 := hidden hd1
  clear hd1
  by_cases he1 : e1 = 0
  rotate_left
  · have HE := hidden (show frD b o n = (0, 0, 0, 0, e1) ∧ e1 ≠ 0 from ⟨frD_b HN.out HD1.out he1, he1⟩)
    have hd : (e1 != 0) = true := by simpa using he1
    clear he1 hb1
    go_enter Try.func43, Try.ntmps43
    go_wp2_with fail
    refine HC1.out.mono ?_
    rintro e' w2 ⟨rfl, rfl⟩
    go_wp2_with (refine wpList_store_row rfl _ _ _ rfl _ #[.int .i64 0, .int .i64 0, .int .i64 0, .slice none 0 0] rfl rfl _ _ HRW.out sizeFr rfl (by simp [Value.oneCell']) ?_)
    exact bodyPost_ret (results_fr3 rfl _ _ _ _ _ _ _ (.int .i64 0) (.int .i64 e1) rfl HRS.out rfl rfl) rfl (FrR.err HE.out (below_setRow HG.out (Nat.le_refl _) _))
  subst he1
  obtain ⟨ha1, ha2, ha3⟩ := hb1.2.2.1 rfl
  have hz0 := hb1.1
  have hz1 := hb1.2.1
  obtain ⟨W, p2, e2, hd2⟩ : ∃ W p2 e2, numD b p1 64 = (W, p2, e2) := ⟨_, _, _, rfl⟩
  have hb2 := numD_bd hd2
  have HC2 := hidden (readNumber_any A c b p1 64 _ HV.out hl (by omega) (by omega) (by omega) (by omega))
  rw [hd2] at HC2
  have HD2 := hidden hd2
  clear hd2 hb1
  by_cases he2 : e2 = 0
  rotate_left
  · have HE := hidden (show frD b o n = (0, 0, 0, 0, e2) ∧ e2 ≠ 0 from ⟨frD_c HN.out HD1.out HD2.out he2, he2⟩)
    have hd : (e2 != 0) = true := by simpa using he2
    clear he2 hb2
    go_enter Try.func43, Try.ntmps43
    go_wp2_with fail
    refine HC1.out.mono ?_
    rintro e' w2 ⟨rfl, rfl⟩
    go_wp2_with fail
    refine HC2.out.mono ?_
    rintro e' w2 ⟨rfl, rfl⟩
    go_wp2_with (refine wpList_store_row rfl _ _ _ rfl _ #[.int .i64 0, .int .i64 0, .int .i64 0, .slice none 0 0] rfl rfl _ _ HRW.out sizeFr rfl (by simp [Value.oneCell']) ?_)
    exact bodyPost_ret (results_fr3 rfl _ _ _ _ _ _ _ (.int .i64 0) (.int .i64 e2) rfl HRS.out rfl rfl) rfl (FrR.err HE.out (below_setRow HG.out (Nat.le_refl _) _))
  subst he2
  obtain ⟨hw0, hw1, hc1, hc2, hc3⟩ := hb2 rfl
  obtain ⟨m, p3, e3, hd3⟩ : ∃ m p3 e3, numD b p2 n = (m, p3, e3) := ⟨_, _, _, rfl⟩
  have hb3 := numD_bd hd3
  have HC3 := hidden (readNumber_any A c b p2 n _ HV.out hl (by omega) (by omega) (by omega) (by omega))
  rw [hd3] at HC3
  have HD3 := hidden hd3
  clear hd3 hb2
  by_cases he3 : e3 = 0
  rotate_left
  · have HE := hidden (show frD b o n = (0, 0, 0, 0, e3) ∧ e3 ≠ 0 from ⟨frD_e HN.out HD1.out HD2.out HD3.out he3, he3⟩)
    have hd : (e3 != 0) = true := by simpa using he3
    clear he3 hb3
    go_enter Try.func43, Try.ntmps43
    go_wp2_with fail
    refine HC1.out.mono ?_
    rintro e' w2 ⟨rfl, rfl⟩
    go_wp2_with fail
    refine HC2.out.mono ?_
    rintro e' w2 ⟨rfl, rfl⟩
    go_wp2_with fail
    refine HC3.out.mono ?_
    rintro e' w2 ⟨rfl, rfl⟩
    go_wp2_with (refine wpList_store_row rfl _ _ _ rfl _ #[.int .i64 0, .int .i64 0, .int .i64 0, .slice none 0 0] rfl rfl _ _ HRW.out sizeFr rfl (by simp [Value.oneCell']) ?_)
    exact bodyPost_ret (results_fr3 rfl _ _ _ _ _ _ _ (.int .i64 0) (.int .i64 e3) rfl HRS.out rfl rfl) rfl (FrR.err HE.out (below_setRow HG.out (Nat.le_refl _) _))
  subst he3
  obtain ⟨hm0, hm1, hc4, hc5, hc6⟩ := hb3 rfl
  clear hb3
  obtain ⟨N, rfl⟩ := Int.eq_ofNat_of_zero_le (a := n) (by omega)
  obtain ⟨V, rfl⟩ := Int.eq_ofNat_of_zero_le hw0
  have HSZ := hidden (size_any (N : Int) (V : Int) (w.alloc (.cells #[.int .i64 0, .int .i64 0, .int .i64 0, .slice none 0 0] 63)))
  rw [sizeI_nat (n := N) (m := V) (by omega) (by omega)] at HSZ
  have hsB := lszB_65 (n := N) (W := V) (by omega) (by omega)
  have HFN := hidden (fun h => frD_g (b := b) HN.out HD1.out HD2.out HD3.out h)
  have HFO := hidden (fun h => frD_ok (b := b) HN.out HD1.out HD2.out HD3.out h)
  rw [Int.toNat_natCast, Int.toNat_natCast] at HFN HFO
  obtain ⟨s, hs⟩ : ∃ s, s = szB N V := ⟨_, rfl⟩
  rw [← hs] at HSZ hsB HFN HFO
  have HS := hidden hs
  clear hs
  by_cases h7 : (b.length : Int) - p3 < (s : Int)
  · have HE := hidden (show frD b o (N : Int) = (0, 0, 0, 0, 2) ∧ (2 : Int) ≠ 0 from ⟨HFN.out h7, by decide⟩)
    have hd : decide ((b.length : Int) - p3 < (s : Int)) = true := by simpa using h7
    clear h7
    go_enter Try.func43, Try.ntmps43
    go_wp2_with fail
    refine HC1.out.mono ?_
    rintro e' w2 ⟨rfl, rfl⟩
    go_wp2_with fail
    refine HC2.out.mono ?_
    rintro e' w2 ⟨rfl, rfl⟩
    go_wp2_with fail
    refine HC3.out.mono ?_
    rintro e' w2 ⟨rfl, rfl⟩
    go_wp2_with fail
    refine HSZ.out.mono ?_
    rintro e' w2 ⟨rfl, rfl⟩
    go_wp2_with (refine wpList_store_row rfl _ _ _ rfl _ #[.int .i64 0, .int .i64 0, .int .i64 0, .slice none 0 0] rfl rfl _ _ HRW.out sizeFr rfl (by simp [Value.oneCell']) ?_)
    exact bodyPost_ret (results_fr3 rfl _ _ _ _ _ _ _ (.int .i64 0) (.int .i64 2) rfl HRS.out rfl rfl) rfl (FrR.err HE.out (below_setRow HG.out (Nat.le_refl _) _))
  have d7 : decide ((b.length : Int) - p3 < (s : Int)) = false := by simpa using h7
  have HF := hidden (HFO.out h7)
  clear HFN HFO
  obtain ⟨P3, rfl⟩ := Int.eq_ofNat_of_zero_le (a := p3) (by omega)
  have hPs : P3 + s ≤ b.length := by omega
  have HPK := hidden (show (b.drop P3).take (P3 + s - P3) = packedD b (P3 : Int) N V by
    unfold packedD
    rw [Int.toNat_natCast, ← HS.out, show P3 + s - P3 = s by omega])
  have HPL := hidden (show (packedD b (P3 : Int) N V).length = s by rw [← HPK.out, List.length_take, List.length_drop]; omega)
  generalize hpkg : packedD b (P3 : Int) N V = pk at *
  have HPKG := hidden hpkg
  have HUZ := hidden (fun w' => unzigzag_any z w' hz0 (by omega))
  have huz := uz_bd z hz0 (by omega)
  have hwE : IntKind.i64.wrap ((P3 : Int) + (s : Int)) = (P3 : Int) + (s : Int) := by rw [IntKind.wrap_i64]; omega
  obtain ⟨AK, hAK, hsa⟩ : ∃ AK, (∀ w', IsBytes w' (.slice A b.length c) b → IsBytes w' (.slice AK s (c - P3)) pk) ∧
      ∀ w', (Instr.sliceAt 27 (.slice A b.length c) (some (.int .i64 (P3 : Int))) (some (.int .i64 ((P3 : Int) + (s : Int)))) none).run Try.prog w' = .ok (.slice AK s (c - P3)) w' := by
    refine ⟨if c = P3 then A else Option.map (fun x => x.add P3) A, fun w' hv => ?_, fun w' => ?_⟩
    · have h := slice_reads2 hv (o := P3) (p := P3 + s) (by omega) hPs hlc
      rw [HPK.out, show P3 + s - P3 = s by omega] at h
      exact h
    · have ht : Try.prog.underlying 27 = some (.slice (Try.prog.elem 27)) := by kernel_rfl
      have hs1 : (sizeOf (Try.prog.elem 27)).run Try.prog w' = .ok 1 w' := by
        have hi : (Try.prog.info? (Try.prog.elem 27)).map (·.size) = some 1 := by kernel_rfl
        cases h : Try.prog.info? (Try.prog.elem 27) with
        | none => rw [h] at hi; cases hi
        | some y =>
          rw [h] at hi
          have h1 : y.size = 1 := by simpa using hi
          simp [sizeOf, typeInfo, h, h1]
      rw [run_sliceAt_slice (P := Try.prog) (w := w') 27 (.slice A b.length c) (some (.int .i64 (P3 : Int))) (some (.int .i64 ((P3 : Int) + (s : Int)))) none ht]
      have h := run_slice_lh (P := Try.prog) (w := w') 27 A b.length c ht .i64 .i64 (P3 : Int) ((P3 : Int) + (s : Int)) (by omega) (by omega) (by omega)
      rw [h, hs1]
      simp only [Result.andThen_ok, sliced, Int.toNat_natCast, Nat.mul_one, show ((P3 : Int) + (s : Int)).toNat = P3 + s by omega, show P3 + s - P3 = s by omega]
  have HAK := hidden hAK
  clear hAK hpkg h1 h2 h7
  go_enter Try.func43, Try.ntmps43
  go_wp2_with fail
  refine HC1.out.mono ?_
  rintro e' w2 ⟨rfl, rfl⟩
  go_wp2_with fail
  refine HC2.out.mono ?_
  rintro e' w2 ⟨rfl, rfl⟩
  go_wp2_with fail
  refine HC3.out.mono ?_
  rintro e' w2 ⟨rfl, rfl⟩
  go_wp2_with fail
  refine HSZ.out.mono ?_
  rintro e' w2 ⟨rfl, rfl⟩
  go_wp2_with fail
  generalize w.alloc (.cells #[.int .i64 0, .int .i64 0, .int .i64 0, .slice none 0 0] 63) = w1 at *
  refine wp_region_loose_tail 12 (tabRs [(1, ConstV (.int .i64 (uz z))), (11, NewF w1.heap.size)]) (by kernel_rfl) (by kernel_rfl) (tabRs_cons ConstV.lasts (tabRs_cons NewF.lasts tabRs_nil)) ?_
  simp only [List.take_succ_cons, List.take_zero, List.drop_succ_cons, List.drop_zero]
  iterate 1 ((with_reducible refine loose_one (v := ?_) (a' := ?_) ?_ ?_ (fun w' hC' hG' => ?_) ?_ ?_); rotate_left 2; (focus rfl); (focus rfl); (focus (clear hC' hG'; go_simp; rfl)); (focus (go_simp; rfl)))
  refine loose_call (R := ConstV (.int .i64 (uz z))) (f := 42) (args := #[.int .u64 z]) (by rfl) (by rfl) (fun _ => by go_simp) (fun w' hC' hG' => const_loose0 (HUZ.out w')) ?_
  rintro _ ⟨_, _, rfl⟩
  refine ⟨?_, ?_, ?_⟩
  rotate_left
  · go_simp
    rfl
  iterate 9 ((with_reducible refine loose_one (v := ?_) (a' := ?_) ?_ ?_ (fun w' hC' hG' => ?_) ?_ ?_); rotate_left 2; (focus rfl); (focus rfl); (focus (clear hC' hG'; go_simp; rfl)); (focus (go_simp; rfl)))
  refine loose_new (R := NewF w1.heap.size) (by rfl) (by rfl) (fun w' hC' hG' => ?_) ?_
  · exact ⟨.pointer (some ⟨w'.heap.size, 0, none⟩), w'.alloc (.cells #[.int .i64 0, .int .i64 0, .int .i64 0, .slice none 0 0] 63), by first | rfl | go_simp, (Below.refl _ _).alloc (Nat.le_refl _) _, w'.heap.size, rfl, hC'.size, Row.new w' 63 #[.int .i64 0, .int .i64 0, .int .i64 0, .slice none 0 0] [.int .i64 0, .int .i64 0, .int .i64 0, .slice none 0 0] rfl⟩
  rintro _ ⟨_, _, b11, rfl, hb11, _⟩
  refine ⟨?_, ?_, ?_⟩
  rotate_left
  · go_simp
    rfl
  refine loose_done (fun w7 hC' hG' => ?_)
  obtain ⟨b12, hbe, hb12, hrow⟩ := (hG' 11).2 rfl
  clear hG'
  have hbb : b12 = b11 := by injection hbe with hbe; injection hbe with hbe; injection hbe with hbe; exact hbe.symm
  rw [hbb] at hrow
  clear hbb hbe hb12
  have hbw : w.heap.size < b11 := by have := HSZ1.out; omega
  have HROW : Hid (w7.heap[b11]? = some (.cells #[.int .i64 0, .int .i64 0, .int .i64 0, .slice none 0 0] 63 (0, 0))) := hrow
  have hrow8 := Row.setRow_ hrow [.int .i64 (uz z), .int .i64 (V : Int), .int .i64 m, .slice AK s (c - P3)] rfl
  have HROW8 : Hid ((w7.setRow b11 #[.int .i64 (uz z), .int .i64 (V : Int), .int .i64 m, .slice AK s (c - P3)]).heap[b11]? = some (.cells #[.int .i64 (uz z), .int .i64 (V : Int), .int .i64 m, .slice AK s (c - P3)] 63 (0, 0))) := hrow8
  have HG8 := hidden (below_setRow (Grows.of_below HG.out hC') (show w.heap.size ≤ b11 by omega) #[.int .i64 (uz z), .int .i64 (V : Int), .int .i64 m, .slice AK s (c - P3)])
  have hr8 : Row (w7.setRow b11 #[.int .i64 (uz z), .int .i64 (V : Int), .int .i64 m, .slice AK s (c - P3)]) w.heap.size 63 [.int .i64 0, .int .i64 0, .int .i64 0, .slice none 0 0] := by
    have h := Row.grow HR.out hC'
    unfold Row at h ⊢
    rw [setRow_other _ _ _ _ (by omega)]
    exact h
  have HRW8 : Hid ((w7.setRow b11 #[.int .i64 (uz z), .int .i64 (V : Int), .int .i64 m, .slice AK s (c - P3)]).heap[w.heap.size]? = some (.cells #[.int .i64 0, .int .i64 0, .int .i64 0, .slice none 0 0] 63 (0, 0))) := hr8
  have HRS8 := hidden (Row.setRow_ hr8 [.int .i64 (uz z), .int .i64 (V : Int), .int .i64 m, .slice AK s (c - P3)] rfl)
  clear hC' hr8 hrow hrow8 hb11
  refine wpList_store_row rfl _ _ _ rfl b11 #[.int .i64 (uz z), .int .i64 (V : Int), .int .i64 m, .slice AK s (c - P3)] rfl rfl _ _ HROW.out sizeFr rfl (by simp [Value.oneCell']) ?_
  go_wp2_with (first | refine wpList_load_row rfl _ _ rfl _ rfl _ _ _ _ HROW8.out Try.underlying63 rfl sizeFr ?_ | refine wpList_store_row rfl _ _ _ rfl w.heap.size #[.int .i64 (uz z), .int .i64 (V : Int), .int .i64 m, .slice AK s (c - P3)] rfl rfl _ _ HRW8.out sizeFr rfl (by simp [Value.oneCell']) ?_)
  refine bodyPost_ret (results_fr3 rfl _ _ _ _ _ _ _ (.int .i64 ((P3 : Int) + (s : Int))) (.int .i64 0) rfl HRS8.out rfl rfl) rfl ?_
  unfold FrR
  rw [HF.out]
  simp only [Int.toNat_natCast]
  have hbs := below_setRow HG8.out (Nat.le_refl _) #[.int .i64 (uz z), .int .i64 (V : Int), .int .i64 m, .slice AK s (c - P3)]
  refine ⟨hbs, .inr ⟨trivial, AK, c - P3, ?_, ?_⟩⟩
  · rw [HPKG.out, HPL.out]
    exact HAK.out _ HV0.out
  · rw [HPKG.out, HPL.out, ← HS.out]
end Go.Proofs.Ytjjeebaelpgjlaa
