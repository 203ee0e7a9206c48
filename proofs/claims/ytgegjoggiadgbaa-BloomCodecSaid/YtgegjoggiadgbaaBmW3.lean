/-
  Shaken: what the claims of this seat need of this text. No condition.
-/
import Derived.Test.YtgegjoggiadgbaaM22
namespace Go.Proofs.Ytgegjoggiadgbaa
open Go.RowKit
set_option linter.unusedVariables false
set_option linter.unusedSimpArgs false
def BytesW (l : List UInt8) (v : Value) (w : World) : Prop := IsBytes w v l
theorem BytesW.lasts {l : List UInt8} : ∀ v w w', BytesW l v w → Grows w w' → BytesW l v w' := fun _ _ _ h hb => IsBytes.grow h hb
theorem bytes_loose15 {f : FuncId} {args : Array Value} {w : World} {l : List UInt8} (h : Calls Try.prog f args w (Out15 l w)) : Calls Try.prog f args w fun e w' => ∃ v, e = .returned v ∧ Grows w w' ∧ BytesW l v w' :=
  h.mono fun _ _ ⟨v, he, ho, hb⟩ => ⟨v, he, hb, IsBytes.of_own ho⟩
set_option maxRecDepth 20000 in
set_option maxHeartbeats 8000000 in
theorem law_codec15 (A B : Option Addr) (c d : Nat) (h n : Int) (ws : List UInt64) (b : List UInt8) (off : Int) (w : World) (ra : Reads w (.slice A ws.length c) (ucells ws)) (la : ws.length ≤ 9223372036854775807) (rb : IsBytes w (.slice B b.length d) b)
    (ih : I64 h) (jn : I64 n) (io : I64 off) :
    Calls Try.prog 5 #[.agg #[.int .i64 h, .int .i64 n, .slice A ws.length c], .slice B b.length d, .int .i64 off] w fun e w' => e = .returned (.bool true) ∧ Below w.heap.size w w' := by
  have HLV := hidden (fun W => lives15_any W)
  by_cases h1 : 2000 < ws.length
  · have d1 : decide ((2000 : Int) < (ws.length : Int)) = true := by simp; omega
    have HG0 := hidden (growB w (.cells #[.int .i64 h, .int .i64 n, .slice A ws.length c] 32))
    have HA0 := hidden (agg_new w (.int .i64 h) (.int .i64 n) (.slice A ws.length c))
    have HR0 := hidden (fun W (hg : Grows (w.alloc (.cells #[.int .i64 h, .int .i64 n, .slice A ws.length c] 32)) W) => ra.grow ((growB w (.cells #[.int .i64 h, .int .i64 n, .slice A ws.length c] 32)).of_below hg))
    have p0 := HA0.out.cell 0
    have p1 := HA0.out.cell 1
    have p2 := HA0.out.cell 2
    simp only [List.getElem?_cons_succ, List.getElem?_cons_zero] at p0 p1 p2
    clear ra la rb h1 ih jn io HR0
    go_enter Try.func5, Try.ntmps5
    go_wp2_with (go_at_call 10; refine (HLV.out _).mono ?_; rintro e w2 ⟨rfl, g2⟩; have HG2 := hidden (HG0.out.of_below g2); clear g2)
    go_ret
    exact ⟨rfl, HG2.out⟩
  have d1 : decide ((2000 : Int) < (ws.length : Int)) = false := by simp; omega
  clear h1
  obtain ⟨va, hva⟩ : ∃ x, validFB h n ws = x := ⟨_, rfl⟩
  cases va
  · skip
    have HG0 := hidden (growB w (.cells #[.int .i64 h, .int .i64 n, .slice A ws.length c] 32))
    have HA0 := hidden (agg_new w (.int .i64 h) (.int .i64 n) (.slice A ws.length c))
    have HR0 := hidden (fun W (hg : Grows (w.alloc (.cells #[.int .i64 h, .int .i64 n, .slice A ws.length c] 32)) W) => ra.grow ((growB w (.cells #[.int .i64 h, .int .i64 n, .slice A ws.length c] 32)).of_below hg))
    have p0 := HA0.out.cell 0
    have p1 := HA0.out.cell 1
    have p2 := HA0.out.cell 2
    simp only [List.getElem?_cons_succ, List.getElem?_cons_zero] at p0 p1 p2
    have HVA := hidden (fun W (hg : Grows (w.alloc (.cells #[.int .i64 h, .int .i64 n, .slice A ws.length c] 32)) W) => rbvalid_any (.agg #[.int .i64 h, .int .i64 n, .slice A ws.length c]) h n ws W ⟨_, rfl, HR0.out W hg, la⟩ ih jn)
    rw [hva] at HVA
    clear ra la rb ih jn io HR0 hva
    go_enter Try.func5, Try.ntmps5
    go_wp2_with (first | (go_at_call 17; refine (HVA.out _ (Below.refl _ _)).mono ?_; rintro e w1 ⟨rfl, g1⟩; have HG1 := hidden (HG0.out.of_below g1); have HA1 := hidden (HA0.out.grow g1); clear p0 p1 p2 g1) | (go_at_call 10; refine (HLV.out _).mono ?_; rintro e w2 ⟨rfl, g2⟩; have HG2 := hidden (HG1.out.of_below g2); clear g2))
    go_ret
    exact ⟨rfl, HG2.out⟩
  obtain ⟨H, N, rfl, rfl, hH, hN, -, -, -, -, hws⟩ := valid_parts hva
  have HG0 := hidden (growB w (.cells #[.int .i64 (H : Int), .int .i64 (N : Int), .slice A ws.length c] 32))
  have HA0 := hidden (agg_new w (.int .i64 (H : Int)) (.int .i64 (N : Int)) (.slice A ws.length c))
  have HR0 := hidden (fun W (hg : Grows (w.alloc (.cells #[.int .i64 (H : Int), .int .i64 (N : Int), .slice A ws.length c] 32)) W) => ra.grow ((growB w (.cells #[.int .i64 (H : Int), .int .i64 (N : Int), .slice A ws.length c] 32)).of_below hg))
  have p0 := HA0.out.cell 0
  have p1 := HA0.out.cell 1
  have p2 := HA0.out.cell 2
  simp only [List.getElem?_cons_succ, List.getElem?_cons_zero] at p0 p1 p2
  have HVA := hidden (fun W (hg : Grows (w.alloc (.cells #[.int .i64 (H : Int), .int .i64 (N : Int), .slice A ws.length c] 32)) W) => rbvalid_any (.agg #[.int .i64 (H : Int), .int .i64 (N : Int), .slice A ws.length c]) H N ws W ⟨_, rfl, HR0.out W hg, la⟩ ih jn)
  rw [hva] at HVA
  by_cases h2 : 10000 < b.length
  · have d2 : decide ((10000 : Int) < (b.length : Int)) = true := by simp; omega
    clear ra la rb ih jn io HR0 hva h2 hH hN hws
    go_enter Try.func5, Try.ntmps5
    go_wp2_with (first | (go_at_call 17; refine (HVA.out _ (Below.refl _ _)).mono ?_; rintro e w1 ⟨rfl, g1⟩; have HG1 := hidden (HG0.out.of_below g1); have HA1 := hidden (HA0.out.grow g1); clear p0 p1 p2 g1) | (go_at_call 10; refine (HLV.out _).mono ?_; rintro e w2 ⟨rfl, g2⟩; have HG2 := hidden (HG1.out.of_below g2); clear g2))
    go_ret
    exact ⟨rfl, HG2.out⟩
  have d2 : decide ((10000 : Int) < (b.length : Int)) = false := by simp; omega
  have HD1 := hidden (fun W (hg : Grows w W) => bdecode_any (.slice B b.length d) b off W (rb.grow hg) (by omega) io)
  have HD2 := hidden (fun W (hg : Grows w W) => rbdecode_any (.slice B b.length d) b off W (rb.grow hg) (by omega) io)
  obtain ⟨R, hR⟩ : ∃ R, decF15 b off = R := ⟨_, rfl⟩
  rw [hR] at HD1 HD2
  clear hR
  obtain ⟨h3, n3, w3, p3, e3⟩ := R
  unfold DecR15 at HD1 HD2
  simp only [] at HD1 HD2
  have HE1 := hidden (fun W (hg : Grows (w.alloc (.cells #[.int .i64 (H : Int), .int .i64 (N : Int), .slice A ws.length c] 32)) W) => bytes_loose15 (bencode_any (.agg #[.int .i64 (H : Int), .int .i64 (N : Int), .slice A ws.length c]) H N ws W ⟨_, rfl, HR0.out W hg, la⟩ hH hN (by omega)))
  have HE2 := hidden (fun W (hg : Grows (w.alloc (.cells #[.int .i64 (H : Int), .int .i64 (N : Int), .slice A ws.length c] 32)) W) => bytes_loose15 (rbencode_any (.agg #[.int .i64 (H : Int), .int .i64 (N : Int), .slice A ws.length c]) H N ws W ⟨_, rfl, HR0.out W hg, la⟩ hH hN (by omega)))
  obtain ⟨E, hE⟩ : ∃ E, encF15 H N ws = E := ⟨_, rfl⟩
  rw [hE] at HE1 HE2
  clear ra la rb ih jn io HR0 hva h2 hH hN hws hE
  go_enter Try.func5, Try.ntmps5
  go_wp2_with (go_at_call 17; refine (HVA.out _ (Below.refl _ _)).mono ?_; rintro e w1 ⟨rfl, g1⟩; have HG1 := hidden (HG0.out.of_below g1); have HA1 := hidden (HA0.out.grow g1); have HW1 := hidden g1; clear p0 p1 p2 g1)
  refine (HD1.out _ HG1.out).mono ?_
  rintro e w4 ⟨v4, rfl, ⟨u4, rfl, r4, l4⟩, g4⟩
  obtain ⟨A4, c4, rfl, _⟩ := r4.slice_
  rw [ucells_length] at r4 ⊢
  have HF4 := hidden (show IsF w4 (.agg #[.int .i64 h3, .int .i64 n3, .slice A4 w3.length c4]) h3 n3 w3 from ⟨_, rfl, r4, l4⟩)
  have HG4 := hidden (HG1.out.of_below g4)
  have hgA := (show Grows (w.alloc (.cells #[.int .i64 (H : Int), .int .i64 (N : Int), .slice A ws.length c] 32)) w4 from HW1.out.of_below g4)
  have HA4 := hidden (HA1.out.grow g4)
  have HU4 := hidden (agg_new w4 (.int .i64 h3) (.int .i64 n3) (.slice A4 w3.length c4))
  have hga := growB w4 (.cells #[.int .i64 h3, .int .i64 n3, .slice A4 w3.length c4] 32)
  clear r4 l4 g4
  go_wp2_with fail
  refine (HD2.out _ (HG4.out.of_below hga)).mono ?_
  rintro e w5 ⟨v5, rfl, ⟨u5, rfl, r5, l5⟩, g5⟩
  obtain ⟨A5, c5, rfl, _⟩ := r5.slice_
  rw [ucells_length] at r5 ⊢
  have HF5 := hidden (show IsF w5 (.agg #[.int .i64 h3, .int .i64 n3, .slice A5 w3.length c5]) h3 n3 w3 from ⟨_, rfl, r5, l5⟩)
  have hg45 := hga.of_below g5
  have hgb := growB w5 (.cells #[.int .i64 h3, .int .i64 n3, .slice A5 w3.length c5] 32)
  have HF45 := hidden (HF4.out.grow (hg45.of_below hgb))
  have HF55 := hidden (HF5.out.grow hgb)
  have HG6 := hidden ((HG4.out.of_below hg45).of_below hgb)
  have HA6 := hidden (HA4.out.grow (hg45.of_below hgb))
  have HU6 := hidden ((HU4.out.grow g5).grow hgb)
  have HV6 := hidden (agg_new w5 (.int .i64 h3) (.int .i64 n3) (.slice A5 w3.length c5))
  have HWG := hidden (show Grows (w.alloc (.cells #[.int .i64 (H : Int), .int .i64 (N : Int), .slice A ws.length c] 32)) (w5.alloc (.cells #[.int .i64 h3, .int .i64 n3, .slice A5 w3.length c5] 32)) from hgA.of_below (hg45.of_below hgb))
  clear r5 l5 g5 hga hgb hg45 hgA
  go_wp2_with fail
  obtain ⟨W6, hW6⟩ : ∃ W, W = (w5.alloc (.cells #[.int .i64 h3, .int .i64 n3, .slice A5 w3.length c5] 32)) := ⟨_, rfl⟩
  rw [← hW6] at HF45 HF55 HG6 HA6 HU6 HV6 HWG
  rw [← hW6]
  have HEQ := hidden (fun W (hg : Grows W6 W) => const_loose15 (req15_any (.agg #[.int .i64 h3, .int .i64 n3, .slice A4 w3.length c4]) (.agg #[.int .i64 h3, .int .i64 n3, .slice A5 w3.length c5]) h3 h3 n3 n3 w3 w3 W (HF45.out.grow hg) (HF55.out.grow hg)))
  rw [eqF_self] at HEQ
  have HE3 := hidden (fun W (hg : Grows W6 W) => HE1.out W (HWG.out.of_below hg))
  have HE4 := hidden (fun W (hg : Grows W6 W) => HE2.out W (HWG.out.of_below hg))
  have HL5 := hidden (fun W (h : Grows W6 W) => const_loose15 (lives15_any W))
  have HX : Hid (∀ X, Grows W6 X → X.cell? ⟨w.heap.size, 0, none⟩ = some (.int .i64 (H : Int)) ∧ X.cell? ⟨w.heap.size, 1, none⟩ = some (.int .i64 (N : Int)) ∧ X.cell? ⟨w.heap.size, 2, none⟩ = some (.slice A ws.length c) ∧ X.cell? ⟨w4.heap.size, 0, none⟩ = some (.int .i64 h3) ∧ X.cell? ⟨w4.heap.size, 1, none⟩ = some (.int .i64 n3) ∧ X.cell? ⟨w4.heap.size, 2, none⟩ = some (.slice A4 w3.length c4) ∧ X.cell? ⟨w5.heap.size, 0, none⟩ = some (.int .i64 h3) ∧ X.cell? ⟨w5.heap.size, 1, none⟩ = some (.int .i64 n3) ∧ X.cell? ⟨w5.heap.size, 2, none⟩ = some (.slice A5 w3.length c5)) := hidden fun X h => ⟨(HA6.out.grow h).cell 0, (HA6.out.grow h).cell 1, (HA6.out.grow h).cell 2, (HU6.out.grow h).cell 0, (HU6.out.grow h).cell 1, (HU6.out.grow h).cell 2, (HV6.out.grow h).cell 0, (HV6.out.grow h).cell 1, (HV6.out.grow h).cell 2⟩
  clear hW6 HF45 HF55 HWG HE1 HE2 HD1 HD2 HVA HG0 HG1 HG4 HA0 HA1 HA4 HA6 HU4 HU6 HV6 HW1 HF4 HF5 d1 d2 HLV
  refine wp_region_loose (tabRs [(1, BytesW E), (4, BytesW E), (10, ConstV (.bool true)), (23, ConstV (.bool true))]) (by kernel_rfl) (by kernel_rfl) (tabRs_cons BytesW.lasts (tabRs_cons BytesW.lasts (tabRs_cons ConstV.lasts (tabRs_cons ConstV.lasts tabRs_nil)))) ?_
  iterate 1 ((with_reducible refine loose_one (v := ?_) (a' := ?_) ?_ ?_ (fun w' hC' hG' => ?_) ?_ ?_); rotate_left 2; (focus rfl); (focus rfl); (focus (obtain ⟨x0a, x1a, x2a, x0b, x1b, x2b, x0c, x1c, x2c⟩ := HX.out w' hC'; clear hC' hG'; go_simp; rfl)); (focus (go_simp; rfl)))
  refine loose_call (f := 22) (args := #[.agg #[.int .i64 (H : Int), .int .i64 (N : Int), .slice A ws.length c]]) (by rfl) (by rfl) (fun _ => by go_simp) (fun w' hC' hG' => HE3.out w' hC') ?_
  intro v1 _
  refine ⟨?_, ?_, ?_⟩
  rotate_left
  · go_simp
    rfl
  refine loose_one (v := ?_) (a' := ?_) (by rfl) (by rfl) (fun w' hC' hG' => ?_) ?_ ?_
  rotate_left 2
  · have hr := run_string_bytes (P := Try.prog) ((hG' 1 (by kernel_rfl)).2 rfl) 43 5 Try.underlying43 Try.underlying5 9 Try.underlying9
    clear hC' hG'
    go_simp
    rfl
  · go_simp
    rfl
  iterate 1 ((with_reducible refine loose_one (v := ?_) (a' := ?_) ?_ ?_ (fun w' hC' hG' => ?_) ?_ ?_); rotate_left 2; (focus rfl); (focus rfl); (focus (obtain ⟨x0a, x1a, x2a, x0b, x1b, x2b, x0c, x1c, x2c⟩ := HX.out w' hC'; clear hC' hG'; go_simp; rfl)); (focus (go_simp; rfl)))
  refine loose_call (f := 23) (args := #[.agg #[.int .i64 (H : Int), .int .i64 (N : Int), .slice A ws.length c]]) (by rfl) (by rfl) (fun _ => by go_simp) (fun w' hC' hG' => HE4.out w' hC') ?_
  intro v4 _
  refine ⟨?_, ?_, ?_⟩
  rotate_left
  · go_simp
    rfl
  refine loose_one (v := ?_) (a' := ?_) (by rfl) (by rfl) (fun w' hC' hG' => ?_) ?_ ?_
  rotate_left 2
  · have hr := run_string_bytes (P := Try.prog) ((hG' 4 (by kernel_rfl)).2 rfl) 43 5 Try.underlying43 Try.underlying5 9 Try.underlying9
    clear hC' hG'
    go_simp
    rfl
  · go_simp
    rfl
  iterate 4 ((with_reducible refine loose_one (v := ?_) (a' := ?_) ?_ ?_ (fun w' hC' hG' => ?_) ?_ ?_); rotate_left 2; (focus rfl); (focus rfl); (focus (obtain ⟨x0a, x1a, x2a, x0b, x1b, x2b, x0c, x1c, x2c⟩ := HX.out w' hC'; clear hC' hG'; go_simp; rfl)); (focus (go_simp; rfl)))
  refine loose_call (R := ConstV (.bool true)) (f := 13) (args := #[.agg #[.int .i64 h3, .int .i64 n3, .slice A4 w3.length c4], .agg #[.int .i64 h3, .int .i64 n3, .slice A5 w3.length c5]]) (by rfl) (by rfl) (fun _ => by go_simp) (fun w' hC' hG' => HEQ.out w' hC') ?_
  rintro _ ⟨_, _, rfl⟩
  refine ⟨?_, ?_, ?_⟩
  rotate_left
  · go_simp
    rfl
  iterate 12 ((with_reducible refine loose_one (v := ?_) (a' := ?_) ?_ ?_ (fun w' hC' hG' => ?_) ?_ ?_); rotate_left 2; (focus rfl); (focus rfl); (focus (obtain ⟨x0a, x1a, x2a, x0b, x1b, x2b, x0c, x1c, x2c⟩ := HX.out w' hC'; clear hC' hG'; go_simp; rfl)); (focus (go_simp; rfl)))
  refine loose_call (R := ConstV (.bool true)) (f := 10) (args := #[]) (by rfl) (by rfl) (fun _ => by go_simp) (fun w' hC' hG' => HL5.out w' hC') ?_
  rintro _ ⟨_, _, rfl⟩
  refine ⟨?_, ?_, ?_⟩
  rotate_left
  · go_simp
    rfl
  iterate 2 ((with_reducible refine loose_one (v := ?_) (a' := ?_) ?_ ?_ (fun w' hC' hG' => ?_) ?_ ?_); rotate_left 2; (focus rfl); (focus rfl); (focus (obtain ⟨x0a, x1a, x2a, x0b, x1b, x2b, x0c, x1c, x2c⟩ := HX.out w' hC'; clear hC' hG'; go_simp; rfl)); (focus (go_simp; rfl)))
  refine loose_done (fun w9 hC' hG' => ?_)
  have HGE := hidden (HG6.out.of_below hC')
  clear hC' hG'
  go_wp2_with fail
  go_ret
  exact ⟨rfl, HGE.out⟩
end Go.Proofs.Ytgegjoggiadgbaa
