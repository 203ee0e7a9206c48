/-
  Shaken: what the claims of this seat need of this text. No condition.
-/
import Derived.Test.YtgegjoggiadgbaaBmW3
namespace Go.Proofs.Ytgegjoggiadgbaa
open Go.RowKit
set_option linter.unusedVariables false
set_option linter.unusedSimpArgs false
theorem IsBytes.take15 {w : World} {A : Option Addr} {n c : Nat} {l : List UInt8} (h : IsBytes w (.slice A n c) l) {k : Nat} (hk : k ≤ l.length) (c' : Nat) : IsBytes w (.slice A k c') (l.take k) := by
  obtain ⟨A', c0, hA, hc⟩ := h
  injection hA with e1 e2 e3
  subst e1
  have hl : (l.take k).length = k := by rw [List.length_take]; omega
  refine ⟨A, c', by rw [hl], fun hp => ?_⟩
  rw [hl] at hp
  obtain ⟨b, off, rfl, hcell⟩ := hc (by omega)
  refine ⟨b, off, rfl, fun j hj => ?_⟩
  rw [hl] at hj
  rw [hcell j (by omega)]
  simp
set_option maxRecDepth 20000 in
set_option maxHeartbeats 8000000 in
theorem law_roundtrip15 (A B : Option Addr) (c d : Nat) (h n : Int) (ws : List UInt64) (b : List UInt8) (w : World) (ra : Reads w (.slice A ws.length c) (ucells ws)) (la : ws.length ≤ 9223372036854775807) (rb : IsBytes w (.slice B b.length d) b) (lbd : b.length ≤ d)
    (ih : I64 h) (jn : I64 n) :
    Calls Try.prog 7 #[.agg #[.int .i64 h, .int .i64 n, .slice A ws.length c], .slice B b.length d] w fun e w' => e = .returned (.bool true) ∧ Below w.heap.size w w' := by
  have HLV := hidden (fun W => lives15_any W)
  by_cases h1 : 2000 < ws.length
  · have d1 : decide ((2000 : Int) < (ws.length : Int)) = true := by simp; omega
    have HG0 := hidden (growB w (.cells #[.int .i64 h, .int .i64 n, .slice A ws.length c] 32))
    have HA0 := hidden (agg_new w (.int .i64 h) (.int .i64 n) (.slice A ws.length c))
    have HR0 := hidden (fun W (hg : Grows (w.alloc (.cells #[.int .i64 h, .int .i64 n, .slice A ws.length c] 32)) W) => ra.grow ((growB w (.cells #[.int .i64 h, .int .i64 n, .slice A ws.length c] 32)).of_below hg))
    have p0 := HA0.out.cell 0
    have p1 := HA0.out.cell 1
    have p2 := HA0.out.cell 2
    simp only [List.getElem?_cons_succ, List.getElem?_cons_zero] at p0 p1 p2
    clear ra la rb lbd h1 ih jn HR0
    go_enter Try.func7, Try.ntmps7
    go_wp2_with (go_at_call 10; refine (HLV.out _).mono ?_; rintro e w2 ⟨rfl, g2⟩; have HG2 := hidden (HG0.out.of_below g2); clear g2)
    go_ret
    exact ⟨rfl, HG2.out⟩
  have d1 : decide ((2000 : Int) < (ws.length : Int)) = false := by simp; omega
  clear h1
  obtain ⟨va, hva⟩ : ∃ x, validFB h n ws = x := ⟨_, rfl⟩
  cases va
  · skip
    have HG0 := hidden (growB w (.cells #[.int .i64 h, .int .i64 n, .slice A ws.length c] 32))
    have HA0 := hidden (agg_new w (.int .i64 h) (.int .i64 n) (.slice A ws.length c))
    have HR0 := hidden (fun W (hg : Grows (w.alloc (.cells #[.int .i64 h, .int .i64 n, .slice A ws.length c] 32)) W) => ra.grow ((growB w (.cells #[.int .i64 h, .int .i64 n, .slice A ws.length c] 32)).of_below hg))
    have p0 := HA0.out.cell 0
    have p1 := HA0.out.cell 1
    have p2 := HA0.out.cell 2
    simp only [List.getElem?_cons_succ, List.getElem?_cons_zero] at p0 p1 p2
    have HVA := hidden (fun W (hg : Grows (w.alloc (.cells #[.int .i64 h, .int .i64 n, .slice A ws.length c] 32)) W) => rbvalid_any (.agg #[.int .i64 h, .int .i64 n, .slice A ws.length c]) h n ws W ⟨_, rfl, HR0.out W hg, la⟩ ih jn)
    rw [hva] at HVA
    clear ra la rb lbd ih jn HR0 hva
    go_enter Try.func7, Try.ntmps7
    go_wp2_with (first | (go_at_call 17; refine (HVA.out _ (Below.refl _ _)).mono ?_; rintro e w1 ⟨rfl, g1⟩; have HG1 := hidden (HG0.out.of_below g1); have HA1 := hidden (HA0.out.grow g1); clear p0 p1 p2 g1) | (go_at_call 10; refine (HLV.out _).mono ?_; rintro e w2 ⟨rfl, g2⟩; have HG2 := hidden (HG1.out.of_below g2); clear g2))
    go_ret
    exact ⟨rfl, HG2.out⟩
  obtain ⟨H, N, rfl, rfl, hH, hN, -, -, hok, hnw, hws⟩ := valid_parts hva
  have HG0 := hidden (growB w (.cells #[.int .i64 (H : Int), .int .i64 (N : Int), .slice A ws.length c] 32))
  have HA0 := hidden (agg_new w (.int .i64 (H : Int)) (.int .i64 (N : Int)) (.slice A ws.length c))
  have HR0 := hidden (fun W (hg : Grows (w.alloc (.cells #[.int .i64 (H : Int), .int .i64 (N : Int), .slice A ws.length c] 32)) W) => ra.grow ((growB w (.cells #[.int .i64 (H : Int), .int .i64 (N : Int), .slice A ws.length c] 32)).of_below hg))
  have p0 := HA0.out.cell 0
  have p1 := HA0.out.cell 1
  have p2 := HA0.out.cell 2
  simp only [List.getElem?_cons_succ, List.getElem?_cons_zero] at p0 p1 p2
  have HVA := hidden (fun W (hg : Grows (w.alloc (.cells #[.int .i64 (H : Int), .int .i64 (N : Int), .slice A ws.length c] 32)) W) => rbvalid_any (.agg #[.int .i64 (H : Int), .int .i64 (N : Int), .slice A ws.length c]) H N ws W ⟨_, rfl, HR0.out W hg, la⟩ ih jn)
  rw [hva] at HVA
  by_cases h2 : 1000 < b.length
  · have d2 : decide ((1000 : Int) < (b.length : Int)) = true := by simp; omega
    clear ra la rb lbd ih jn HR0 hva h2 hH hN hws hok hnw
    go_enter Try.func7, Try.ntmps7
    go_wp2_with (first | (go_at_call 17; refine (HVA.out _ (Below.refl _ _)).mono ?_; rintro e w1 ⟨rfl, g1⟩; have HG1 := hidden (HG0.out.of_below g1); have HA1 := hidden (HA0.out.grow g1); clear p0 p1 p2 g1) | (go_at_call 10; refine (HLV.out _).mono ?_; rintro e w2 ⟨rfl, g2⟩; have HG2 := hidden (HG1.out.of_below g2); clear g2))
    go_ret
    exact ⟨rfl, HG2.out⟩
  have d2 : decide ((1000 : Int) < (b.length : Int)) = false := by simp; omega
  have HE1 := hidden (fun W (hg : Grows (w.alloc (.cells #[.int .i64 (H : Int), .int .i64 (N : Int), .slice A ws.length c] 32)) W) => bencode_any (.agg #[.int .i64 (H : Int), .int .i64 (N : Int), .slice A ws.length c]) H N ws W ⟨_, rfl, HR0.out W hg, la⟩ hH hN (by omega))
  have HDE := hidden (dec_enc15 (h := H) (n := N) (ws := ws) b hok hnw)
  have HEL := hidden (show (encF15 H N ws).length ≤ 20000 by
    unfold encF15
    rw [List.length_append, List.length_append, encW_length]
    have := enc_le10 (n := H) (by omega)
    have := enc_le10 (n := N) (by omega)
    omega)
  obtain ⟨E, hE⟩ : ∃ E, encF15 H N ws = E := ⟨_, rfl⟩
  rw [hE] at HE1 HDE HEL
  have HB := hidden rb
  have HLA := hidden la
  have HR1 := hidden (HR0.out)
  have hbl : b.length ≤ 1000 := by omega
  have HBL := hidden hbl
  have HBD := hidden lbd
  have HD2 := hidden (fun W (hg : Grows w W) => bdecode_any (.slice B b.length d) b 0 W (rb.grow hg) (by omega) ⟨by decide, by decide⟩)
  have HAC := hidden (fun h n q ws (x : decF15 b 0 = (h, n, ws, q, 0)) => dec_acc15 x)
  obtain ⟨R, hR⟩ : ∃ R, decF15 b 0 = R := ⟨_, rfl⟩
  rw [hR] at HD2 HAC
  clear hR
  obtain ⟨h3, n3, w3, p3, e3⟩ := R
  unfold DecR15 at HD2
  simp only [] at HD2
  clear ra la rb lbd ih jn HR0 hva h2 hbl hH hN hws hE hok hnw
  go_enter Try.func7, Try.ntmps7
  go_wp2_with (go_at_call 17; refine (HVA.out _ (Below.refl _ _)).mono ?_; rintro e w1 ⟨rfl, g1⟩; have HG1 := hidden (HG0.out.of_below g1); have HA1 := hidden (HA0.out.grow g1); have HW1 := hidden g1; clear p0 p1 p2 g1; have p0 := HA1.out.cell 0; have p1 := HA1.out.cell 1; have p2 := HA1.out.cell 2; simp only [List.getElem?_cons_succ, List.getElem?_cons_zero] at p0 p1 p2)
  refine (HE1.out _ HW1.out).mono ?_
  rintro e w2 ⟨v2, rfl, hown2, g2⟩
  have HV2 := hidden (IsBytes.of_own hown2)
  have HG2 := hidden (HG1.out.of_below g2)
  have HA2 := hidden (HA1.out.grow g2)
  have HW2 := hidden (HW1.out.of_below g2)
  obtain ⟨A2, c2, rfl⟩ : ∃ A c, v2 = .slice A E.length c := by obtain ⟨A', c', h1, _⟩ := HV2.out; exact ⟨A', c', h1⟩
  clear g2 hown2 p0 p1 p2
  have HO : Hid ((w2.alloc (.cells #[] 5)).ownsRow w2.heap.size 5 1 (.slice (some ⟨w2.heap.size, 0, none⟩) 0 0) ([] : List UInt8).length (bcells [])) := (Row.new w2 5 #[] [] rfl).own (Nat.le_refl _) (by simp [maxLen])
  have HB0 : Hid (Below w2.heap.size w2 (w2.alloc (.cells #[] 5))) := (Below.refl _ _).alloc (Nat.le_refl _) _
  have HP1 : Hid (([] : List UInt8).length + E.length ≤ 140737488355328) := by show _ ≤ _; have := HEL.out; simp; omega
  have HP2 : Hid (E.length + b.length ≤ 140737488355328) := by show _ ≤ _; have := HEL.out; have := HBL.out; omega
  have HBB := hidden (HV2.out.grow HB0.out)
  go_wp2_with (first | (at_builtin; (refine wpList_append_bytes (w := w2) (wr := w2.alloc (.cells #[] 5)) rfl _ _ 43 rfl 5 Try.underlying43 info_u8 _ [] (by rfl) HO.out HB0.out _ E (by rfl) HBB.out HP1.out ?_); intro v3 wx3 hown3 hnx3; rw [List.nil_append] at hown3; have HO3 := hidden hown3; have HN3 := hidden hnx3; clear hown3 hnx3) | (at_builtin; (refine wpList_append_bytes (w := w2) (wr := wx3) rfl _ _ 43 rfl 5 Try.underlying43 info_u8 _ E (by rfl) HO3.out HN3.out _ b (by rfl) ((HB.out.grow HG2.out).grow HN3.out) HP2.out ?_); intro v4 w4 hown4 hnx4; have HO4 := hidden hown4; have HN4 := hidden hnx4; clear hown4 hnx4))
  have HALL := hidden (IsBytes.of_own HO4.out)
  have HG4 := hidden (HG2.out.of_below HN4.out)
  have HA4 := hidden (HA2.out.grow HN4.out)
  have HW4 := hidden (HW2.out.of_below HN4.out)
  refine (bdecode_any v4 (E ++ b) 0 w4 HALL.out (by have := HEL.out; have := HBL.out; rw [List.length_append]; omega) ⟨by decide, by decide⟩).mono ?_
  rintro e w5 ⟨v5, rfl, hi5, g5⟩
  rw [HDE.out] at hi5 ⊢
  simp only [] at hi5 ⊢
  obtain ⟨u5, rfl, r5, l5⟩ := hi5
  obtain ⟨A5, c5, rfl, _⟩ := r5.slice_
  rw [ucells_length] at r5 ⊢
  have HF5 := hidden (show IsF w5 (.agg #[.int .i64 (H : Int), .int .i64 (N : Int), .slice A5 ws.length c5]) H N ws from ⟨_, rfl, r5, l5⟩)
  have HG5 := hidden (HG4.out.of_below g5)
  have HA5 := hidden (HA4.out.grow g5)
  have HW5 := hidden (HW4.out.of_below g5)
  have HU5 := hidden (agg_new w5 (.int .i64 (H : Int)) (.int .i64 (N : Int)) (.slice A5 ws.length c5))
  have hga := growB w5 (.cells #[.int .i64 (H : Int), .int .i64 (N : Int), .slice A5 ws.length c5] 32)
  clear r5 l5 g5 HALL HO4 HO3 HN3 HN4 HO HB0 HP1 HP2 HBB HV2 HDE HE1
  generalize E.length = q at *
  go_wp2_with fail
  refine (HD2.out _ (HG5.out.of_below hga)).mono ?_
  rintro e w6 ⟨v6, rfl, ⟨u6, rfl, r6, l6⟩, g6⟩
  obtain ⟨A6, c6, rfl, _⟩ := r6.slice_
  rw [ucells_length] at r6 ⊢
  have hgb := growB w6 (.cells #[.int .i64 h3, .int .i64 n3, .slice A6 w3.length c6] 32)
  have hg56 := hga.of_below g6
  have HF66 := hidden (show IsF (w6.alloc (.cells #[.int .i64 h3, .int .i64 n3, .slice A6 w3.length c6] 32)) (.agg #[.int .i64 h3, .int .i64 n3, .slice A6 w3.length c6]) h3 n3 w3 from ⟨_, rfl, r6.grow hgb, l6⟩)
  have HF56 := hidden (HF5.out.grow (hg56.of_below hgb))
  have HA6 := hidden (HA5.out.grow (hg56.of_below hgb))
  have HU6 := hidden ((HU5.out.grow g6).grow hgb)
  have HV6 := hidden (agg_new w6 (.int .i64 h3) (.int .i64 n3) (.slice A6 w3.length c6))
  have HG6 := hidden ((HG5.out.of_below hg56).of_below hgb)
  have HW6 := hidden ((HW5.out.of_below hg56).of_below hgb)
  clear r6 g6 hga hgb hg56
  have HL6 := hidden l6
  clear l6
  by_cases he3 : e3 = 0
  · skip
    subst he3
    obtain ⟨h', n', k, rfl, rfl, rfl, hk, hok3, hnw3, henc⟩ := HAC.out h3 n3 p3 w3 rfl
    have hs3 := okP_spec hok3
    have hw3 : w3.length ≤ 2000 := by rw [hnw3]; unfold nw; omega
    have hd1 : decide ((k : Int) < 0) = false := decide_eq_false (by omega)
    have hd2 : decide (b.length < k) = false := by simp; omega
    have hk0 : (0 : Int) ≤ (k : Int) := by omega
    have hkd : k ≤ d := by have := HBD.out; omega
    have HEN := hidden (fun W (hg : Grows (w6.alloc (.cells #[.int .i64 (h' : Int), .int .i64 (n' : Int), .slice A6 w3.length c6] 32)) W) => bytes_loose15 (bencode_any (.agg #[.int .i64 (h' : Int), .int .i64 (n' : Int), .slice A6 w3.length c6]) h' n' w3 W (HF66.out.grow hg) (by omega) (by omega) (by omega)))
    rw [henc] at HEN
    have HK := hidden hk
    clear hok3 hnw3 henc hs3 hw3 hk
    go_wp2_with fail
    obtain ⟨W7, hW7⟩ : ∃ W, W = w6.alloc (.cells #[.int .i64 (h' : Int), .int .i64 (n' : Int), .slice A6 w3.length c6] 32) := ⟨_, rfl⟩
    rw [← hW7] at HF66 HF56 HA6 HU6 HV6 HG6 HW6 HEN
    rw [← hW7]
    have HEQ := hidden (fun W (hg : Grows W7 W) => const_loose15 (req15_any (.agg #[.int .i64 (H : Int), .int .i64 (N : Int), .slice A ws.length c]) (.agg #[.int .i64 (H : Int), .int .i64 (N : Int), .slice A5 ws.length c5]) H H N N ws ws W ⟨_, rfl, HR1.out W (HW6.out.of_below hg), HLA.out⟩ (HF56.out.grow hg)))
    rw [eqF_self] at HEQ
    have HL5 := hidden (fun W (h : Grows W7 W) => const_loose15 (lives15_any W))
    have HX : Hid (∀ X, Grows W7 X → X.cell? ⟨w.heap.size, 0, none⟩ = some (.int .i64 (H : Int)) ∧ X.cell? ⟨w.heap.size, 1, none⟩ = some (.int .i64 (N : Int)) ∧ X.cell? ⟨w.heap.size, 2, none⟩ = some (.slice A ws.length c) ∧ X.cell? ⟨w5.heap.size, 0, none⟩ = some (.int .i64 (H : Int)) ∧ X.cell? ⟨w5.heap.size, 1, none⟩ = some (.int .i64 (N : Int)) ∧ X.cell? ⟨w5.heap.size, 2, none⟩ = some (.slice A5 ws.length c5) ∧ X.cell? ⟨w6.heap.size, 0, none⟩ = some (.int .i64 (h' : Int)) ∧ X.cell? ⟨w6.heap.size, 1, none⟩ = some (.int .i64 (n' : Int)) ∧ X.cell? ⟨w6.heap.size, 2, none⟩ = some (.slice A6 w3.length c6)) := hidden fun X h => ⟨(HA6.out.grow h).cell 0, (HA6.out.grow h).cell 1, (HA6.out.grow h).cell 2, (HU6.out.grow h).cell 0, (HU6.out.grow h).cell 1, (HU6.out.grow h).cell 2, (HV6.out.grow h).cell 0, (HV6.out.grow h).cell 1, (HV6.out.grow h).cell 2⟩
    refine wp_region_loose (tabRs [(11, ConstV (.bool true)), (18, BytesW (b.take k)), (28, ConstV (.bool true))]) (by kernel_rfl) (by kernel_rfl) (tabRs_cons ConstV.lasts (tabRs_cons BytesW.lasts (tabRs_cons ConstV.lasts tabRs_nil))) ?_
    iterate 11 ((with_reducible refine loose_one (v := ?_) (a' := ?_) ?_ ?_ (fun w' hC' hG' => ?_) ?_ ?_); rotate_left 2; (focus rfl); (focus rfl); (focus (obtain ⟨x0a, x1a, x2a, x0b, x1b, x2b, x0c, x1c, x2c⟩ := HX.out w' hC'; clear hC' hG'; go_simp; rfl)); (focus (go_simp; rfl)))
    refine loose_call (R := ConstV (.bool true)) (f := 13) (args := #[.agg #[.int .i64 (H : Int), .int .i64 (N : Int), .slice A ws.length c], .agg #[.int .i64 (H : Int), .int .i64 (N : Int), .slice A5 ws.length c5]]) (by rfl) (by rfl) (fun _ => by go_simp) (fun w' hC' hG' => HEQ.out w' hC') ?_
    rintro _ ⟨_, _, rfl⟩
    refine ⟨?_, ?_, ?_⟩
    rotate_left
    · go_simp
      rfl
    iterate 6 ((with_reducible refine loose_one (v := ?_) (a' := ?_) ?_ ?_ (fun w' hC' hG' => ?_) ?_ ?_); rotate_left 2; (focus rfl); (focus rfl); (focus (obtain ⟨x0a, x1a, x2a, x0b, x1b, x2b, x0c, x1c, x2c⟩ := HX.out w' hC'; clear hC' hG'; go_simp; rfl)); (focus (go_simp; rfl)))
    refine loose_call (f := 22) (args := #[.agg #[.int .i64 (h' : Int), .int .i64 (n' : Int), .slice A6 w3.length c6]]) (by rfl) (by rfl) (fun _ => by go_simp) (fun w' hC' hG' => HEN.out w' hC') ?_
    intro v18 _
    refine ⟨?_, ?_, ?_⟩
    rotate_left
    · go_simp
      rfl
    refine loose_one (v := ?_) (a' := ?_) (by rfl) (by rfl) (fun w' hC' hG' => ?_) ?_ ?_
    rotate_left 2
    · have hr := run_string_bytes (P := Try.prog) ((hG' 18 (by kernel_rfl)).2 rfl) 43 5 Try.underlying43 Try.underlying5 9 Try.underlying9
      clear hC' hG'
      go_simp
      rfl
    · go_simp
      rfl
    iterate 3 ((with_reducible refine loose_one (v := ?_) (a' := ?_) ?_ ?_ (fun w' hC' hG' => ?_) ?_ ?_); rotate_left 2; (focus rfl); (focus rfl); (focus (obtain ⟨x0a, x1a, x2a, x0b, x1b, x2b, x0c, x1c, x2c⟩ := HX.out w' hC'; clear hC' hG'; go_simp; rfl)); (focus (go_simp; rfl)))
    refine loose_one (v := ?_) (a' := ?_) (by rfl) (by rfl) (fun w' hC' hG' => ?_) ?_ ?_
    rotate_left 2
    · have hr := run_string_bytes (P := Try.prog) ((HB.out.grow (HG6.out.of_below hC')).take15 HK.out d) 43 5 Try.underlying43 Try.underlying5 9 Try.underlying9
      clear hC' hG'
      go_simp
      rfl
    · go_simp
      rfl
    iterate 4 ((with_reducible refine loose_one (v := ?_) (a' := ?_) ?_ ?_ (fun w' hC' hG' => ?_) ?_ ?_); rotate_left 2; (focus rfl); (focus rfl); (focus (obtain ⟨x0a, x1a, x2a, x0b, x1b, x2b, x0c, x1c, x2c⟩ := HX.out w' hC'; clear hC' hG'; go_simp; rfl)); (focus (go_simp; rfl)))
    refine loose_call (R := ConstV (.bool true)) (f := 10) (args := #[]) (by rfl) (by rfl) (fun _ => by go_simp) (fun w' hC' hG' => HL5.out w' hC') ?_
    rintro _ ⟨_, _, rfl⟩
    refine ⟨?_, ?_, ?_⟩
    rotate_left
    · go_simp
      rfl
    iterate 2 ((with_reducible refine loose_one (v := ?_) (a' := ?_) ?_ ?_ (fun w' hC' hG' => ?_) ?_ ?_); rotate_left 2; (focus rfl); (focus rfl); (focus (obtain ⟨x0a, x1a, x2a, x0b, x1b, x2b, x0c, x1c, x2c⟩ := HX.out w' hC'; clear hC' hG'; go_simp; rfl)); (focus (go_simp; rfl)))
    refine loose_done (fun w9 hC' hG' => ?_)
    have HGE := hidden (HG6.out.of_below hC')
    clear hC' hG'
    go_wp2_with fail
    go_ret
    exact ⟨rfl, HGE.out⟩
  · skip
    have hne : (e3 == 0) = false := by simpa using he3
    have hne2 : (e3 != 0) = true := by simpa using he3
    go_wp2_with fail
    obtain ⟨W7, hW7⟩ : ∃ W, W = w6.alloc (.cells #[.int .i64 h3, .int .i64 n3, .slice A6 w3.length c6] 32) := ⟨_, rfl⟩
    rw [← hW7] at HF66 HF56 HA6 HU6 HV6 HG6 HW6
    rw [← hW7]
    have HEQ := hidden (fun W (hg : Grows W7 W) => const_loose15 (req15_any (.agg #[.int .i64 (H : Int), .int .i64 (N : Int), .slice A ws.length c]) (.agg #[.int .i64 (H : Int), .int .i64 (N : Int), .slice A5 ws.length c5]) H H N N ws ws W ⟨_, rfl, HR1.out W (HW6.out.of_below hg), HLA.out⟩ (HF56.out.grow hg)))
    rw [eqF_self] at HEQ
    have HL5 := hidden (fun W (h : Grows W7 W) => const_loose15 (lives15_any W))
    have HX : Hid (∀ X, Grows W7 X → X.cell? ⟨w.heap.size, 0, none⟩ = some (.int .i64 (H : Int)) ∧ X.cell? ⟨w.heap.size, 1, none⟩ = some (.int .i64 (N : Int)) ∧ X.cell? ⟨w.heap.size, 2, none⟩ = some (.slice A ws.length c) ∧ X.cell? ⟨w5.heap.size, 0, none⟩ = some (.int .i64 (H : Int)) ∧ X.cell? ⟨w5.heap.size, 1, none⟩ = some (.int .i64 (N : Int)) ∧ X.cell? ⟨w5.heap.size, 2, none⟩ = some (.slice A5 ws.length c5) ∧ X.cell? ⟨w6.heap.size, 0, none⟩ = some (.int .i64 h3) ∧ X.cell? ⟨w6.heap.size, 1, none⟩ = some (.int .i64 n3) ∧ X.cell? ⟨w6.heap.size, 2, none⟩ = some (.slice A6 w3.length c6)) := hidden fun X h => ⟨(HA6.out.grow h).cell 0, (HA6.out.grow h).cell 1, (HA6.out.grow h).cell 2, (HU6.out.grow h).cell 0, (HU6.out.grow h).cell 1, (HU6.out.grow h).cell 2, (HV6.out.grow h).cell 0, (HV6.out.grow h).cell 1, (HV6.out.grow h).cell 2⟩
    refine wp_region_loose (tabRs [(11, ConstV (.bool true)), (28, ConstV (.bool true))]) (by kernel_rfl) (by kernel_rfl) (tabRs_cons ConstV.lasts (tabRs_cons ConstV.lasts tabRs_nil)) ?_
    iterate 11 ((with_reducible refine loose_one (v := ?_) (a' := ?_) ?_ ?_ (fun w' hC' hG' => ?_) ?_ ?_); rotate_left 2; (focus rfl); (focus rfl); (focus (obtain ⟨x0a, x1a, x2a, x0b, x1b, x2b, x0c, x1c, x2c⟩ := HX.out w' hC'; clear hC' hG'; go_simp; rfl)); (focus (go_simp; rfl)))
    refine loose_call (R := ConstV (.bool true)) (f := 13) (args := #[.agg #[.int .i64 (H : Int), .int .i64 (N : Int), .slice A ws.length c], .agg #[.int .i64 (H : Int), .int .i64 (N : Int), .slice A5 ws.length c5]]) (by rfl) (by rfl) (fun _ => by go_simp) (fun w' hC' hG' => HEQ.out w' hC') ?_
    rintro _ ⟨_, _, rfl⟩
    refine ⟨?_, ?_, ?_⟩
    rotate_left
    · go_simp
      rfl
    iterate 5 ((with_reducible refine loose_one (v := ?_) (a' := ?_) ?_ ?_ (fun w' hC' hG' => ?_) ?_ ?_); rotate_left 2; (focus rfl); (focus rfl); (focus (obtain ⟨x0a, x1a, x2a, x0b, x1b, x2b, x0c, x1c, x2c⟩ := HX.out w' hC'; clear hC' hG'; go_simp; rfl)); (focus (go_simp; rfl)))
    iterate 8 ((with_reducible refine loose_skip (a' := ?_) ?_ ?_ ?_); rotate_left 1; (focus rfl); (focus (go_simp; rfl)))
    iterate 3 ((with_reducible refine loose_one (v := ?_) (a' := ?_) ?_ ?_ (fun w' hC' hG' => ?_) ?_ ?_); rotate_left 2; (focus rfl); (focus rfl); (focus (obtain ⟨x0a, x1a, x2a, x0b, x1b, x2b, x0c, x1c, x2c⟩ := HX.out w' hC'; clear hC' hG'; go_simp; rfl)); (focus (go_simp; rfl)))
    refine loose_call (R := ConstV (.bool true)) (f := 10) (args := #[]) (by rfl) (by rfl) (fun _ => by go_simp) (fun w' hC' hG' => HL5.out w' hC') ?_
    rintro _ ⟨_, _, rfl⟩
    refine ⟨?_, ?_, ?_⟩
    rotate_left
    · go_simp
      rfl
    iterate 2 ((with_reducible refine loose_one (v := ?_) (a' := ?_) ?_ ?_ (fun w' hC' hG' => ?_) ?_ ?_); rotate_left 2; (focus rfl); (focus rfl); (focus (obtain ⟨x0a, x1a, x2a, x0b, x1b, x2b, x0c, x1c, x2c⟩ := HX.out w' hC'; clear hC' hG'; go_simp; rfl)); (focus (go_simp; rfl)))
    refine loose_done (fun w9 hC' hG' => ?_)
    have HGE := hidden (HG6.out.of_below hC')
    clear hC' hG'
    go_wp2_with fail
    go_ret
    exact ⟨rfl, HGE.out⟩
end Go.Proofs.Ytgegjoggiadgbaa
