/-
  Shaken: what the claims of this seat need of this text. No condition.
-/
import Derived.Test.YtgegjoggiadgbaaBmW3
namespace Go.Proofs.Ytgegjoggiadgbaa
open Go.RowKit
set_option linter.unusedVariables false
set_option linter.unusedSimpArgs false
def CtRel (W : World) (n : Nat) (i : Value) (wr : World) : Prop := ∃ j : Nat, j ≤ n ∧ i = .int .i64 (j : Int) ∧ Grows W wr
set_option maxRecDepth 20000 in
set_option maxHeartbeats 8000000 in
theorem law_contains15 (v u : Value) (l m : List Val) (bits : Int) (w : World) (rl : ReadsV w v l) (rm : ReadsV w u m) (nl : l.length ≤ 140737488351232) (nm : m.length ≤ 140737488351232) (hb : I64 bits) :
    Calls Try.prog 6 #[v, u, .int .i64 bits] w fun e w' => e = .returned (.bool true) ∧ Below w.heap.size w w' := by
  have HLV := hidden (fun W => lives15_any W)
  have HVL := hidden (fun W (h : Grows w W) => valid15_any v l W (rl.grow h) (by omega))
  have HVM := hidden (fun W (h : Grows w W) => valid15_any u m W (rm.grow h) (by omega))
  obtain ⟨vl, hvl⟩ : ∃ x, (validL l && decide (l.length ≤ 200)) = x := ⟨_, rfl⟩
  obtain ⟨vm, hvm⟩ : ∃ x, (validL m && decide (m.length ≤ 200)) = x := ⟨_, rfl⟩
  rw [hvl] at HVL
  rw [hvm] at HVM
  cases vl
  · clear rl rm nl nm hb hvl hvm
    go_enter Try.func6, Try.ntmps6
    go_wp2_with (first | (go_at_call 8; refine (HVL.out _ (Below.refl _ _)).mono ?_; rintro e w1 ⟨rfl, g1⟩; have HG1 := hidden g1; clear g1) | (go_at_call 10; refine (HLV.out _).mono ?_; rintro e w3 ⟨rfl, g3⟩; have HG3 := hidden (HG1.out.of_below g3); clear g3))
    go_ret
    exact ⟨rfl, HG3.out⟩
  cases vm
  · clear rl rm nl nm hb hvl hvm
    go_enter Try.func6, Try.ntmps6
    go_wp2_with (first | (go_at_call 8; refine (HVM.out _ HG1.out).mono ?_; rintro e w2 ⟨rfl, g2⟩; have HG2 := hidden (HG1.out.of_below g2); clear g2) | (go_at_call 8; refine (HVL.out _ (Below.refl _ _)).mono ?_; rintro e w1 ⟨rfl, g1⟩; have HG1 := hidden g1; clear g1) | (go_at_call 10; refine (HLV.out _).mono ?_; rintro e w3 ⟨rfl, g3⟩; have HG3 := hidden (HG2.out.of_below g3); clear g3))
    go_ret
    exact ⟨rfl, HG3.out⟩
  rw [Bool.and_eq_true] at hvl hvm
  have hl2 : l.length ≤ 200 := by simpa using hvl.2
  have hm2 : m.length ≤ 200 := by simpa using hvm.2
  have hvl := hvl.1
  have hvm := hvm.1
  have HVX := hidden (fun (x : Val) (hx : x ∈ l ∨ x ∈ m) => show validV x.k x.n x.t = true from hx.elim (fun h => List.all_eq_true.1 hvl x h) (fun h => List.all_eq_true.1 hvm x h))
  have HB1 := hidden (fun W (h : Grows w W) => bbuild_any v l bits W (rl.grow h) hvl (by omega) hb)
  have HB2 := hidden (fun W (h : Grows w W) => bbuild_any u m bits W (rm.grow h) hvm (by omega) hb)
  unfold BldR at HB1 HB2
  have hpl := built_parts bits l
  have hpm := built_parts bits m
  have hml := built_may bits l
  have hmm := built_may bits m
  have HRL := hidden rl
  have HRM := hidden rm
  obtain ⟨Al, cl, rfl, _⟩ := rl
  obtain ⟨Am, cm, rfl, _⟩ := rm
  generalize buildH bits = H at *
  generalize buildN bits l.length = N at *
  generalize buildN bits m.length = M at *
  generalize buildW bits l = ws at *
  generalize buildW bits m = us at *
  obtain ⟨hH, hN, hN0, hkw, hpw, hvw, hlw⟩ := hpl
  obtain ⟨_, hM, hM0, hku, hpu, hvu, hlu⟩ := hpm
  obtain ⟨h6, n6, w6s, e6, hun, hcase⟩ : ∃ (h6 : Int) (n6 : Nat) (w6s : List UInt64) (e6 : Int), (∀ W x y, IsF W x (H : Int) (N : Int) ws → IsF W y (H : Int) (M : Int) us → Calls Try.prog 18 #[x, y] W (FilR h6 n6 w6s e6 W)) ∧
      ((e6 = 0 ∧ N = M ∧ ∀ W y, IsF W y h6 n6 w6s → ∀ x, (x ∈ l ∨ x ∈ m) → Calls Try.prog 14 #[y, x.v] W fun e w' => e = .returned (.bool true) ∧ Grows W w') ∨ (e6 = 1 ∧ N ≠ M)) := by
    by_cases he : N = M
    · refine ⟨(H : Int), N, _, 0, fun W x y hx hy => (bunion_any x y H H N M ws us W hx hy hkw hku hN hM).mono fun _ _ h => h.1 ⟨rfl, he⟩, .inl ⟨rfl, he, fun W y hy x hx => ?_⟩⟩
      subst he
      have hmx : mayB H N (pack N fun j => mem N ws j || mem N us j) x = true := hx.elim (fun h => may_or_left (hml x h)) (fun h => may_or_right (hmm x h))
      have h := bmay_any y H N _ x W hy hH hN hN0 (validFB_iff.2 ⟨hpw, by omega, by omega, by rw [Int.toNat_natCast]; exact okW_pack _ _⟩) (okW_pack _ _) (HVX.out x hx)
      rwa [hmx] at h
    · exact ⟨0, 0, [], 1, fun W x y hx hy => (bunion_any x y H H N M ws us W hx hy hkw hku hN hM).mono fun _ _ h => h.2 (fun h => he h.2), .inr ⟨rfl, he⟩⟩
  have HUN := hidden hun
  have HMA := hidden (fun W y (hy : IsF W y (H : Int) (N : Int) ws) (x : Val) (hx : x ∈ l) => (show Calls Try.prog 14 #[y, x.v] W fun e w' => e = .returned (.bool true) ∧ Grows W w' by
    have h := bmay_any y H N ws x W hy hH hN hN0 hvw hkw (HVX.out x (.inl hx))
    rwa [hml x hx] at h))
  have HVF := hidden (fun W y (hy : IsF W y (H : Int) (N : Int) ws) => (show Calls Try.prog 16 #[y] W fun e w' => e = .returned (.bool true) ∧ Grows W w' by
    have h := bvalid_any y H N ws W hy ⟨by omega, by omega⟩ ⟨by omega, by omega⟩
    rwa [hvw] at h))
  have HEN := hidden (fun W y (hy : IsF W y (H : Int) (N : Int) ws) => bencode_any y H N ws W hy hH hN (by rw [hlw]; unfold nw; omega))
  have HDE := hidden (show decF15 (encF15 H N ws) 0 = ((H : Int), (N : Int), ws, ((encF15 H N ws).length : Int), 0) by
    have h := dec_enc15 (h := H) (n := N) (ws := ws) [] hpw hlw
    rwa [List.append_nil] at h)
  have HEL := hidden (show (encF15 H N ws).length ≤ 20000 by
    unfold encF15
    rw [List.length_append, List.length_append, encW_length, hlw]
    have := enc_le10 (n := H) (by omega)
    have := enc_le10 (n := N) (by omega)
    unfold nw
    omega)
  generalize encF15 H N ws = E at *
  clear nl nm hb hvl hvm hun hH hN hN0 hkw hpw hvw hlw hM hM0 hku hpu hvu hlu hml hmm
  go_enter Try.func6, Try.ntmps6
  go_wp2_with (first | (go_at_call 8; refine (HVM.out _ HG1.out).mono ?_; rintro e w2 ⟨rfl, g2⟩; have HG2 := hidden (HG1.out.of_below g2); clear g2) | (go_at_call 8; refine (HVL.out _ (Below.refl _ _)).mono ?_; rintro e w1 ⟨rfl, g1⟩; have HG1 := hidden g1; clear g1))
  refine (HB1.out _ HG2.out).mono ?_
  rintro e w3 ⟨v3, rfl, ⟨u3, rfl, r3, l3⟩, g3⟩
  obtain ⟨A3, c3, rfl, _⟩ := r3.slice_
  rw [ucells_length] at r3 ⊢
  have HF3 := hidden (show IsF w3 (.agg #[.int .i64 (H : Int), .int .i64 (N : Int), .slice A3 ws.length c3]) H N ws from ⟨_, rfl, r3, l3⟩)
  have HG3 := hidden (HG2.out.of_below g3)
  clear r3 l3 g3
  go_wp2_with fail
  refine (HB2.out _ HG3.out).mono ?_
  rintro e w4 ⟨v4, rfl, ⟨u4, rfl, r4, l4⟩, g4⟩
  obtain ⟨A4, c4, rfl, _⟩ := r4.slice_
  rw [ucells_length] at r4 ⊢
  have hg45 : Grows w4 ((w4.alloc (.cells #[.int .i64 (H : Int), .int .i64 (N : Int), .slice A3 ws.length c3] 32)).alloc (.cells #[.int .i64 (H : Int), .int .i64 (M : Int), .slice A4 us.length c4] 32)) := (growB _ _).of_below (growB _ _)
  have HF45 := hidden (show IsF ((w4.alloc (.cells #[.int .i64 (H : Int), .int .i64 (N : Int), .slice A3 ws.length c3] 32)).alloc (.cells #[.int .i64 (H : Int), .int .i64 (M : Int), .slice A4 us.length c4] 32)) (.agg #[.int .i64 (H : Int), .int .i64 (M : Int), .slice A4 us.length c4]) H M us from ⟨_, rfl, r4.grow hg45, l4⟩)
  have HF35 := hidden (HF3.out.grow (Grows.of_below g4 hg45))
  have HG5 := hidden ((HG3.out.of_below g4).of_below hg45)
  have HA5 := hidden (show Row ((w4.alloc (.cells #[.int .i64 (H : Int), .int .i64 (N : Int), .slice A3 ws.length c3] 32)).alloc (.cells #[.int .i64 (H : Int), .int .i64 (M : Int), .slice A4 us.length c4] 32)) w4.heap.size 32 [.int .i64 (H : Int), .int .i64 (N : Int), .slice A3 ws.length c3] from (agg_new _ _ _ _).grow (growB _ _))
  have HB5 := hidden (show Row ((w4.alloc (.cells #[.int .i64 (H : Int), .int .i64 (N : Int), .slice A3 ws.length c3] 32)).alloc (.cells #[.int .i64 (H : Int), .int .i64 (M : Int), .slice A4 us.length c4] 32)) (w4.heap.size + 1) 32 [.int .i64 (H : Int), .int .i64 (M : Int), .slice A4 us.length c4] by
    have h := agg_new (w4.alloc (.cells #[.int .i64 (H : Int), .int .i64 (N : Int), .slice A3 ws.length c3] 32)) (.int .i64 (H : Int)) (.int .i64 (M : Int)) (.slice A4 us.length c4)
    have e : (w4.alloc (.cells #[.int .i64 (H : Int), .int .i64 (N : Int), .slice A3 ws.length c3] 32)).heap.size = w4.heap.size + 1 := by simp
    rwa [e] at h)
  clear r4 l4 g4 hg45
  have p0 := HA5.out.cell 0
  have p1 := HA5.out.cell 1
  have p2 := HA5.out.cell 2
  have q0 := HB5.out.cell 0
  have q1 := HB5.out.cell 1
  have q2 := HB5.out.cell 2
  simp only [List.getElem?_cons_succ, List.getElem?_cons_zero] at p0 p1 p2 q0 q1 q2
  go_wp2_with fail
  refine (HUN.out _ _ _ HF35.out HF45.out).mono ?_
  rintro e w6 ⟨v6, rfl, ⟨u6, rfl, r6, l6⟩, g6⟩
  obtain ⟨A6, c6, rfl, _⟩ := r6.slice_
  rw [ucells_length] at r6 ⊢
  have hgb := growB w6 (.cells #[.int .i64 h6, .int .i64 (n6 : Int), .slice A6 w6s.length c6] 32)
  have HF66 := hidden (show IsF (w6.alloc (.cells #[.int .i64 h6, .int .i64 (n6 : Int), .slice A6 w6s.length c6] 32)) (.agg #[.int .i64 h6, .int .i64 (n6 : Int), .slice A6 w6s.length c6]) h6 n6 w6s from ⟨_, rfl, r6.grow hgb, l6⟩)
  have HF36 := hidden ((HF35.out.grow g6).grow hgb)
  have HG6 := hidden ((HG5.out.of_below g6).of_below hgb)
  have HA6 := hidden ((HA5.out.grow g6).grow hgb)
  have HB6 := hidden ((HB5.out.grow g6).grow hgb)
  have HU6 := hidden (agg_new w6 (.int .i64 h6) (.int .i64 (n6 : Int)) (.slice A6 w6s.length c6))
  clear r6 l6 g6 hgb p0 p1 p2 q0 q1 q2
  have p0 := HA6.out.cell 0
  have p1 := HA6.out.cell 1
  have p2 := HA6.out.cell 2
  have q0 := HB6.out.cell 0
  have q1 := HB6.out.cell 1
  have q2 := HB6.out.cell 2
  simp only [List.getElem?_cons_succ, List.getElem?_cons_zero] at p0 p1 p2 q0 q1 q2
  go_wp2_with fail
  refine (HEN.out _ _ HF36.out).mono ?_
  rintro e w7 ⟨v7, rfl, hown7, g7⟩
  have HV7 := hidden (IsBytes.of_own hown7)
  clear p0 p1 p2 q0 q1 q2
  go_wp2_with fail
  refine (bdecode_any v7 E 0 w7 HV7.out (by have := HEL.out; omega) ⟨by decide, by decide⟩).mono ?_
  rintro e w8 ⟨v8, rfl, hi8, g8⟩
  rw [HDE.out] at hi8 ⊢
  simp only [] at hi8 ⊢
  obtain ⟨u8, rfl, r8, l8⟩ := hi8
  obtain ⟨A8, c8, rfl, _⟩ := r8.slice_
  rw [ucells_length] at r8 ⊢
  have hgc := growB w8 (.cells #[.int .i64 (H : Int), .int .i64 (N : Int), .slice A8 ws.length c8] 32)
  have hg78 := Grows.of_below (Grows.of_below g7 g8) hgc
  have HF88 := hidden (show IsF (w8.alloc (.cells #[.int .i64 (H : Int), .int .i64 (N : Int), .slice A8 ws.length c8] 32)) (.agg #[.int .i64 (H : Int), .int .i64 (N : Int), .slice A8 ws.length c8]) H N ws from ⟨_, rfl, r8.grow hgc, l8⟩)
  have HF38 := hidden (HF36.out.grow hg78)
  have HF68 := hidden (HF66.out.grow hg78)
  have HG8 := hidden (HG6.out.of_below hg78)
  have HA8 := hidden (HA6.out.grow hg78)
  have HB8 := hidden (HB6.out.grow hg78)
  have HU8 := hidden (HU6.out.grow hg78)
  have HV8 := hidden (agg_new w8 (.int .i64 (H : Int)) (.int .i64 (N : Int)) (.slice A8 ws.length c8))
  clear r8 l8 g7 g8 hgc hg78 hown7
  have p0 := HA8.out.cell 0
  have p1 := HA8.out.cell 1
  have p2 := HA8.out.cell 2
  have q0 := HB8.out.cell 0
  have q1 := HB8.out.cell 1
  have q2 := HB8.out.cell 2
  simp only [List.getElem?_cons_succ, List.getElem?_cons_zero] at p0 p1 p2 q0 q1 q2
  rcases hcase with ⟨he6, hNM, hmu⟩ | ⟨he6, hNM⟩
  · skip
    subst hNM
    subst he6
    go_wp2_with (go_at_call 16; refine (HVF.out _ _ HF38.out).mono ?_; rintro e W9 ⟨rfl, g9⟩; have HG9 := hidden (HG8.out.of_below g9); have HA9 := hidden (HA8.out.grow g9); have HU9 := hidden (HU8.out.grow g9); have HV9 := hidden (HV8.out.grow g9); have HF39 := hidden (HF38.out.grow g9); have HF69 := hidden (HF68.out.grow g9); have HF89 := hidden (HF88.out.grow g9); clear g9 p0 p1 p2 q0 q1 q2)
    have HX0 : Hid (∀ X, Grows W9 X → X.cell? ⟨w4.heap.size, 0, none⟩ = some (.int .i64 (H : Int)) ∧ X.cell? ⟨w4.heap.size, 1, none⟩ = some (.int .i64 (N : Int)) ∧ X.cell? ⟨w4.heap.size, 2, none⟩ = some (.slice A3 ws.length c3) ∧ X.cell? ⟨w6.heap.size, 0, none⟩ = some (.int .i64 h6) ∧ X.cell? ⟨w6.heap.size, 1, none⟩ = some (.int .i64 (n6 : Int)) ∧ X.cell? ⟨w6.heap.size, 2, none⟩ = some (.slice A6 w6s.length c6) ∧ X.cell? ⟨w8.heap.size, 0, none⟩ = some (.int .i64 (H : Int)) ∧ X.cell? ⟨w8.heap.size, 1, none⟩ = some (.int .i64 (N : Int)) ∧ X.cell? ⟨w8.heap.size, 2, none⟩ = some (.slice A8 ws.length c8)) := hidden fun X h => ⟨(HA9.out.grow h).cell 0, (HA9.out.grow h).cell 1, (HA9.out.grow h).cell 2, (HU9.out.grow h).cell 0, (HU9.out.grow h).cell 1, (HU9.out.grow h).cell 2, (HV9.out.grow h).cell 0, (HV9.out.grow h).cell 1, (HV9.out.grow h).cell 2⟩
    have HMF := hidden (fun W (h : Grows W9 W) x hx => HMA.out W _ (HF39.out.grow h) x hx)
    have HMH := hidden (fun W (h : Grows W9 W) x hx => HMA.out W _ (HF89.out.grow h) x hx)
    have HMU := hidden (fun W (h : Grows W9 W) x hx => hmu W _ (HF69.out.grow h) x hx)
    clear hmu
    clear HB1 HB2 HVL HVM HUN HMA HVF HEN HDE HEL HV7 HG1 HG2 HG3 HG5 HG6 HG8 HF3 HF35 HF45 HF36 HF66 HF38 HF68 HF88 HF39 HF69 HF89 HA5 HB5 HA6 HB6 HA8 HB8 HU6 HU8 HV8 HA9 HU9 HV9 HVX
    go_wp2_with fail
    go_loopw [14] (fun i wr => CtRel W9 l.length i wr) (fun i _ => l.length - (intOf i).toNat)
    case atStart => exact ⟨0, Nat.zero_le _, rfl, Below.refl _ _⟩
    case round =>
      obtain ⟨j, hj, rfl, hb⟩ := hrel
      have HB := hidden (hb)
      have HBW := hidden hb
      clear hb
      by_cases hlt : j < l.length
      · obtain ⟨A', c', he, _, hcell⟩ := HRL.out.grow (HG9.out.of_below HB.out)
        injection he with e1 e2 e3
        subst e1 e3
        obtain ⟨b, off, rfl, hcell2⟩ := hcell (by omega)
        obtain ⟨x, hx⟩ : ∃ x, l[j]? = some x := ⟨_, List.getElem?_eq_getElem hlt⟩
        obtain ⟨c1, c2, c3'⟩ := hcell2 j x hx
        have hd : decide (j < l.length) = true := by simpa using hlt
        have hj0 : (0 : Int) ≤ (j : Int) := by omega
        have hj1 : (j : Int) < (l.length : Int) := by omega
        have hmem := List.mem_of_getElem? hx
        have HX := hidden (fun X (h : Grows wr X) => (⟨HX0.out X (HB.out.of_below h), (h.cell (World.block_lt_of_cell? _ _ c1)).trans c1, (h.cell (World.block_lt_of_cell? _ _ c2)).trans c2, (h.cell (World.block_lt_of_cell? _ _ c3')).trans c3'⟩ : _ ∧ _ ∧ _ ∧ _))
        have HM1 := hidden (fun W (h : Grows wr W) => const_loose15 (HMF.out W (HB.out.of_below h) x hmem))
        have HM2 := hidden (fun W (h : Grows wr W) => const_loose15 (HMH.out W (HB.out.of_below h) x hmem))
        unfold Val.v at HM1 HM2
        have HM3 := hidden (fun W (h : Grows wr W) => const_loose15 (HMU.out W (HB.out.of_below h) x (.inl hmem)))
        unfold Val.v at HM3
        have HLT := hidden hlt
        clear hcell hcell2 e2 hx hmem c1 c2 c3'
        go_wp2_with fail
        refine wp_region_loose (tabRs [(5, ConstV (.bool true)), (13, ConstV (.bool true)), (25, ConstV (.bool true))]) (by kernel_rfl) (by kernel_rfl) (tabRs_cons ConstV.lasts (tabRs_cons ConstV.lasts (tabRs_cons ConstV.lasts tabRs_nil))) ?_
        iterate 5 ((with_reducible refine loose_one (v := ?_) (a' := ?_) ?_ ?_ (fun w' hC' hG' => ?_) ?_ ?_); rotate_left 2; (focus rfl); (focus rfl); (focus (obtain ⟨⟨x0a, x1a, x2a, x0b, x1b, x2b, x0c, x1c, x2c⟩, k1, k2, k3⟩ := HX.out w' hC'; clear hC' hG'; go_simp; rfl)); (focus (go_simp; rfl)))
        refine loose_call (R := ConstV (.bool true)) (f := 14) (args := #[.agg #[.int .i64 (H : Int), .int .i64 (N : Int), .slice A3 ws.length c3], .agg #[.int .i64 x.k, .int .i64 x.n, .string x.t]]) (by rfl) (by rfl) (fun _ => by go_simp) (fun w' hC' hG' => HM1.out w' hC') ?_
        rintro _ ⟨_, _, rfl⟩
        refine ⟨?_, ?_, ?_⟩
        rotate_left
        · go_simp
          rfl
        iterate 7 ((with_reducible refine loose_one (v := ?_) (a' := ?_) ?_ ?_ (fun w' hC' hG' => ?_) ?_ ?_); rotate_left 2; (focus rfl); (focus rfl); (focus (obtain ⟨⟨x0a, x1a, x2a, x0b, x1b, x2b, x0c, x1c, x2c⟩, k1, k2, k3⟩ := HX.out w' hC'; clear hC' hG'; go_simp; rfl)); (focus (go_simp; rfl)))
        refine loose_call (R := ConstV (.bool true)) (f := 14) (args := #[.agg #[.int .i64 (H : Int), .int .i64 (N : Int), .slice A8 ws.length c8], .agg #[.int .i64 x.k, .int .i64 x.n, .string x.t]]) (by rfl) (by rfl) (fun _ => by go_simp) (fun w' hC' hG' => HM2.out w' hC') ?_
        rintro _ ⟨_, _, rfl⟩
        refine ⟨?_, ?_, ?_⟩
        rotate_left
        · go_simp
          rfl
        iterate 11 ((with_reducible refine loose_one (v := ?_) (a' := ?_) ?_ ?_ (fun w' hC' hG' => ?_) ?_ ?_); rotate_left 2; (focus rfl); (focus rfl); (focus (obtain ⟨⟨x0a, x1a, x2a, x0b, x1b, x2b, x0c, x1c, x2c⟩, k1, k2, k3⟩ := HX.out w' hC'; clear hC' hG'; go_simp; rfl)); (focus (go_simp; rfl)))
        refine loose_call (R := ConstV (.bool true)) (f := 14) (args := #[.agg #[.int .i64 h6, .int .i64 (n6 : Int), .slice A6 w6s.length c6], .agg #[.int .i64 x.k, .int .i64 x.n, .string x.t]]) (by rfl) (by rfl) (fun _ => by go_simp) (fun w' hC' hG' => HM3.out w' hC') ?_
        rintro _ ⟨_, _, rfl⟩
        refine ⟨?_, ?_, ?_⟩
        rotate_left
        · go_simp
          rfl
        iterate 3 ((with_reducible refine loose_one (v := ?_) (a' := ?_) ?_ ?_ (fun w' hC' hG' => ?_) ?_ ?_); rotate_left 2; (focus rfl); (focus rfl); (focus (obtain ⟨⟨x0a, x1a, x2a, x0b, x1b, x2b, x0c, x1c, x2c⟩, k1, k2, k3⟩ := HX.out w' hC'; clear hC' hG'; go_simp; rfl)); (focus (go_simp; rfl)))
        refine loose_done (fun w' hC' hG' => ?_)
        have HGE := hidden (HBW.out.of_below hC')
        clear hC' hG'
        go_wp2_with fail
        go_roundw
        case rel => exact ⟨j + 1, HLT.out, by go_num, HGE.out⟩
        case measure => have := HLT.out; simp [intOf]; omega
      · have hke : j = l.length := by omega
        have hd : decide (j < l.length) = false := by simpa using hlt
        subst hke
        have HBq := hidden HB.out
        generalize wr = wq at *
        clear HB HBW
        go_wp2_with fail
        go_loopw [15] (fun i wr => CtRel wq m.length i wr) (fun i _ => m.length - (intOf i).toNat)
        case atStart => exact ⟨0, Nat.zero_le _, rfl, Below.refl _ _⟩
        case round =>
          obtain ⟨j, hj, rfl, hb⟩ := hrel
          have HB := hidden (HBq.out.of_below hb)
          have HBW := hidden hb
          clear hb
          by_cases hlt : j < m.length
          · obtain ⟨A', c', he, _, hcell⟩ := HRM.out.grow (HG9.out.of_below HB.out)
            injection he with e1 e2 e3
            subst e1 e3
            obtain ⟨b, off, rfl, hcell2⟩ := hcell (by omega)
            obtain ⟨x, hx⟩ : ∃ x, m[j]? = some x := ⟨_, List.getElem?_eq_getElem hlt⟩
            obtain ⟨c1, c2, c3'⟩ := hcell2 j x hx
            have hd : decide (j < m.length) = true := by simpa using hlt
            have hj0 : (0 : Int) ≤ (j : Int) := by omega
            have hj1 : (j : Int) < (m.length : Int) := by omega
            have hmem := List.mem_of_getElem? hx
            have HX := hidden (fun X (h : Grows wr X) => (⟨HX0.out X (HB.out.of_below h), (h.cell (World.block_lt_of_cell? _ _ c1)).trans c1, (h.cell (World.block_lt_of_cell? _ _ c2)).trans c2, (h.cell (World.block_lt_of_cell? _ _ c3')).trans c3'⟩ : _ ∧ _ ∧ _ ∧ _))
            have HM3 := hidden (fun W (h : Grows wr W) => const_loose15 (HMU.out W (HB.out.of_below h) x (.inr hmem)))
            unfold Val.v at HM3
            have HLT := hidden hlt
            clear hcell hcell2 e2 hx hmem c1 c2 c3'
            go_wp2_with fail
            refine wp_region_loose (tabRs [(8, ConstV (.bool true))]) (by kernel_rfl) (by kernel_rfl) (tabRs_cons ConstV.lasts tabRs_nil) ?_
            iterate 8 ((with_reducible refine loose_one (v := ?_) (a' := ?_) ?_ ?_ (fun w' hC' hG' => ?_) ?_ ?_); rotate_left 2; (focus rfl); (focus rfl); (focus (obtain ⟨⟨x0a, x1a, x2a, x0b, x1b, x2b, x0c, x1c, x2c⟩, k1, k2, k3⟩ := HX.out w' hC'; clear hC' hG'; go_simp; rfl)); (focus (go_simp; rfl)))
            refine loose_call (R := ConstV (.bool true)) (f := 14) (args := #[.agg #[.int .i64 h6, .int .i64 (n6 : Int), .slice A6 w6s.length c6], .agg #[.int .i64 x.k, .int .i64 x.n, .string x.t]]) (by rfl) (by rfl) (fun _ => by go_simp) (fun w' hC' hG' => HM3.out w' hC') ?_
            rintro _ ⟨_, _, rfl⟩
            refine ⟨?_, ?_, ?_⟩
            rotate_left
            · go_simp
              rfl
            iterate 2 ((with_reducible refine loose_one (v := ?_) (a' := ?_) ?_ ?_ (fun w' hC' hG' => ?_) ?_ ?_); rotate_left 2; (focus rfl); (focus rfl); (focus (obtain ⟨⟨x0a, x1a, x2a, x0b, x1b, x2b, x0c, x1c, x2c⟩, k1, k2, k3⟩ := HX.out w' hC'; clear hC' hG'; go_simp; rfl)); (focus (go_simp; rfl)))
            refine loose_done (fun w' hC' hG' => ?_)
            have HGE := hidden (HBW.out.of_below hC')
            clear hC' hG'
            go_wp2_with fail
            go_roundw
            case rel => exact ⟨j + 1, HLT.out, by go_num, HGE.out⟩
            case measure => have := HLT.out; simp [intOf]; omega
          · have hke : j = m.length := by omega
            have hd : decide (j < m.length) = false := by simpa using hlt
            go_wp2_with (go_at_call 10; refine (HLV.out _).mono ?_; rintro e wz ⟨rfl, gz⟩; have HGZ := hidden ((HG9.out.of_below HB.out).of_below gz); clear gz)
            go_ret
            exact ⟨rfl, HGZ.out⟩
  · skip
    subst he6
    have hn1 : (N == M) = false := by simpa using hNM
    have hn2 : decide (N = M) = false := by simpa using hNM
    have hn3 : decide ((N : Int) = (M : Int)) = false := by simp; omega
    have hn4 : ((N : Int) == (M : Int)) = false := by simp; omega
    go_wp2_with (go_at_call 16; refine (HVF.out _ _ HF38.out).mono ?_; rintro e W9 ⟨rfl, g9⟩; have HG9 := hidden (HG8.out.of_below g9); have HA9 := hidden (HA8.out.grow g9); have HU9 := hidden (HU8.out.grow g9); have HV9 := hidden (HV8.out.grow g9); have HF39 := hidden (HF38.out.grow g9); have HF69 := hidden (HF68.out.grow g9); have HF89 := hidden (HF88.out.grow g9); clear g9 p0 p1 p2 q0 q1 q2)
    have HX0 : Hid (∀ X, Grows W9 X → X.cell? ⟨w4.heap.size, 0, none⟩ = some (.int .i64 (H : Int)) ∧ X.cell? ⟨w4.heap.size, 1, none⟩ = some (.int .i64 (N : Int)) ∧ X.cell? ⟨w4.heap.size, 2, none⟩ = some (.slice A3 ws.length c3) ∧ X.cell? ⟨w6.heap.size, 0, none⟩ = some (.int .i64 h6) ∧ X.cell? ⟨w6.heap.size, 1, none⟩ = some (.int .i64 (n6 : Int)) ∧ X.cell? ⟨w6.heap.size, 2, none⟩ = some (.slice A6 w6s.length c6) ∧ X.cell? ⟨w8.heap.size, 0, none⟩ = some (.int .i64 (H : Int)) ∧ X.cell? ⟨w8.heap.size, 1, none⟩ = some (.int .i64 (N : Int)) ∧ X.cell? ⟨w8.heap.size, 2, none⟩ = some (.slice A8 ws.length c8)) := hidden fun X h => ⟨(HA9.out.grow h).cell 0, (HA9.out.grow h).cell 1, (HA9.out.grow h).cell 2, (HU9.out.grow h).cell 0, (HU9.out.grow h).cell 1, (HU9.out.grow h).cell 2, (HV9.out.grow h).cell 0, (HV9.out.grow h).cell 1, (HV9.out.grow h).cell 2⟩
    have HMF := hidden (fun W (h : Grows W9 W) x hx => HMA.out W _ (HF39.out.grow h) x hx)
    have HMH := hidden (fun W (h : Grows W9 W) x hx => HMA.out W _ (HF89.out.grow h) x hx)
    clear HB1 HB2 HVL HVM HUN HMA HVF HEN HDE HEL HV7 HG1 HG2 HG3 HG5 HG6 HG8 HF3 HF35 HF45 HF36 HF66 HF38 HF68 HF88 HF39 HF69 HF89 HA5 HB5 HA6 HB6 HA8 HB8 HU6 HU8 HV8 HA9 HU9 HV9 HVX hn1 hn2 hn3 hn4 hNM
    go_wp2_with fail
    go_loopw [14] (fun i wr => CtRel W9 l.length i wr) (fun i _ => l.length - (intOf i).toNat)
    case atStart => exact ⟨0, Nat.zero_le _, rfl, Below.refl _ _⟩
    case round =>
      obtain ⟨j, hj, rfl, hb⟩ := hrel
      have HB := hidden (hb)
      have HBW := hidden hb
      clear hb
      by_cases hlt : j < l.length
      · obtain ⟨A', c', he, _, hcell⟩ := HRL.out.grow (HG9.out.of_below HB.out)
        injection he with e1 e2 e3
        subst e1 e3
        obtain ⟨b, off, rfl, hcell2⟩ := hcell (by omega)
        obtain ⟨x, hx⟩ : ∃ x, l[j]? = some x := ⟨_, List.getElem?_eq_getElem hlt⟩
        obtain ⟨c1, c2, c3'⟩ := hcell2 j x hx
        have hd : decide (j < l.length) = true := by simpa using hlt
        have hj0 : (0 : Int) ≤ (j : Int) := by omega
        have hj1 : (j : Int) < (l.length : Int) := by omega
        have hmem := List.mem_of_getElem? hx
        have HX := hidden (fun X (h : Grows wr X) => (⟨HX0.out X (HB.out.of_below h), (h.cell (World.block_lt_of_cell? _ _ c1)).trans c1, (h.cell (World.block_lt_of_cell? _ _ c2)).trans c2, (h.cell (World.block_lt_of_cell? _ _ c3')).trans c3'⟩ : _ ∧ _ ∧ _ ∧ _))
        have HM1 := hidden (fun W (h : Grows wr W) => const_loose15 (HMF.out W (HB.out.of_below h) x hmem))
        have HM2 := hidden (fun W (h : Grows wr W) => const_loose15 (HMH.out W (HB.out.of_below h) x hmem))
        unfold Val.v at HM1 HM2
        have HLT := hidden hlt
        clear hcell hcell2 e2 hx hmem c1 c2 c3'
        go_wp2_with fail
        refine wp_region_loose (tabRs [(5, ConstV (.bool true)), (13, ConstV (.bool true))]) (by kernel_rfl) (by kernel_rfl) (tabRs_cons ConstV.lasts (tabRs_cons ConstV.lasts tabRs_nil)) ?_
        iterate 5 ((with_reducible refine loose_one (v := ?_) (a' := ?_) ?_ ?_ (fun w' hC' hG' => ?_) ?_ ?_); rotate_left 2; (focus rfl); (focus rfl); (focus (obtain ⟨⟨x0a, x1a, x2a, x0b, x1b, x2b, x0c, x1c, x2c⟩, k1, k2, k3⟩ := HX.out w' hC'; clear hC' hG'; go_simp; rfl)); (focus (go_simp; rfl)))
        refine loose_call (R := ConstV (.bool true)) (f := 14) (args := #[.agg #[.int .i64 (H : Int), .int .i64 (N : Int), .slice A3 ws.length c3], .agg #[.int .i64 x.k, .int .i64 x.n, .string x.t]]) (by rfl) (by rfl) (fun _ => by go_simp) (fun w' hC' hG' => HM1.out w' hC') ?_
        rintro _ ⟨_, _, rfl⟩
        refine ⟨?_, ?_, ?_⟩
        rotate_left
        · go_simp
          rfl
        iterate 7 ((with_reducible refine loose_one (v := ?_) (a' := ?_) ?_ ?_ (fun w' hC' hG' => ?_) ?_ ?_); rotate_left 2; (focus rfl); (focus rfl); (focus (obtain ⟨⟨x0a, x1a, x2a, x0b, x1b, x2b, x0c, x1c, x2c⟩, k1, k2, k3⟩ := HX.out w' hC'; clear hC' hG'; go_simp; rfl)); (focus (go_simp; rfl)))
        refine loose_call (R := ConstV (.bool true)) (f := 14) (args := #[.agg #[.int .i64 (H : Int), .int .i64 (N : Int), .slice A8 ws.length c8], .agg #[.int .i64 x.k, .int .i64 x.n, .string x.t]]) (by rfl) (by rfl) (fun _ => by go_simp) (fun w' hC' hG' => HM2.out w' hC') ?_
        rintro _ ⟨_, _, rfl⟩
        refine ⟨?_, ?_, ?_⟩
        rotate_left
        · go_simp
          rfl
        iterate 6 ((with_reducible refine loose_one (v := ?_) (a' := ?_) ?_ ?_ (fun w' hC' hG' => ?_) ?_ ?_); rotate_left 2; (focus rfl); (focus rfl); (focus (obtain ⟨⟨x0a, x1a, x2a, x0b, x1b, x2b, x0c, x1c, x2c⟩, k1, k2, k3⟩ := HX.out w' hC'; clear hC' hG'; go_simp; rfl)); (focus (go_simp; rfl)))
        iterate 7 ((with_reducible refine loose_skip (a' := ?_) ?_ ?_ ?_); rotate_left 1; (focus rfl); (focus (go_simp; rfl)))
        iterate 2 ((with_reducible refine loose_one (v := ?_) (a' := ?_) ?_ ?_ (fun w' hC' hG' => ?_) ?_ ?_); rotate_left 2; (focus rfl); (focus rfl); (focus (obtain ⟨⟨x0a, x1a, x2a, x0b, x1b, x2b, x0c, x1c, x2c⟩, k1, k2, k3⟩ := HX.out w' hC'; clear hC' hG'; go_simp; rfl)); (focus (go_simp; rfl)))
        refine loose_done (fun w' hC' hG' => ?_)
        have HGE := hidden (HBW.out.of_below hC')
        clear hC' hG'
        go_wp2_with fail
        go_roundw
        case rel => exact ⟨j + 1, HLT.out, by go_num, HGE.out⟩
        case measure => have := HLT.out; simp [intOf]; omega
      · have hke : j = l.length := by omega
        have hd : decide (j < l.length) = false := by simpa using hlt
        subst hke
        have HBq := hidden HB.out
        generalize wr = wq at *
        clear HB HBW
        go_wp2_with fail
        go_loopw [15] (fun i wr => CtRel wq m.length i wr) (fun i _ => m.length - (intOf i).toNat)
        case atStart => exact ⟨0, Nat.zero_le _, rfl, Below.refl _ _⟩
        case round =>
          obtain ⟨j, hj, rfl, hb⟩ := hrel
          have HB := hidden (HBq.out.of_below hb)
          have HBW := hidden hb
          clear hb
          by_cases hlt : j < m.length
          · obtain ⟨A', c', he, _, hcell⟩ := HRM.out.grow (HG9.out.of_below HB.out)
            injection he with e1 e2 e3
            subst e1 e3
            obtain ⟨b, off, rfl, hcell2⟩ := hcell (by omega)
            obtain ⟨x, hx⟩ : ∃ x, m[j]? = some x := ⟨_, List.getElem?_eq_getElem hlt⟩
            obtain ⟨c1, c2, c3'⟩ := hcell2 j x hx
            have hd : decide (j < m.length) = true := by simpa using hlt
            have hj0 : (0 : Int) ≤ (j : Int) := by omega
            have hj1 : (j : Int) < (m.length : Int) := by omega
            have hmem := List.mem_of_getElem? hx
            have HX := hidden (fun X (h : Grows wr X) => (⟨HX0.out X (HB.out.of_below h), (h.cell (World.block_lt_of_cell? _ _ c1)).trans c1, (h.cell (World.block_lt_of_cell? _ _ c2)).trans c2, (h.cell (World.block_lt_of_cell? _ _ c3')).trans c3'⟩ : _ ∧ _ ∧ _ ∧ _))
            have HLT := hidden hlt
            clear hcell hcell2 e2 hx hmem c1 c2 c3'
            go_wp2_with fail
            refine wp_region_loose (tabRs []) (by kernel_rfl) (by kernel_rfl) tabRs_nil ?_
            iterate 3 ((with_reducible refine loose_one (v := ?_) (a' := ?_) ?_ ?_ (fun w' hC' hG' => ?_) ?_ ?_); rotate_left 2; (focus rfl); (focus rfl); (focus (obtain ⟨⟨x0a, x1a, x2a, x0b, x1b, x2b, x0c, x1c, x2c⟩, k1, k2, k3⟩ := HX.out w' hC'; clear hC' hG'; go_simp; rfl)); (focus (go_simp; rfl)))
            iterate 7 ((with_reducible refine loose_skip (a' := ?_) ?_ ?_ ?_); rotate_left 1; (focus rfl); (focus (go_simp; rfl)))
            iterate 1 ((with_reducible refine loose_one (v := ?_) (a' := ?_) ?_ ?_ (fun w' hC' hG' => ?_) ?_ ?_); rotate_left 2; (focus rfl); (focus rfl); (focus (obtain ⟨⟨x0a, x1a, x2a, x0b, x1b, x2b, x0c, x1c, x2c⟩, k1, k2, k3⟩ := HX.out w' hC'; clear hC' hG'; go_simp; rfl)); (focus (go_simp; rfl)))
            refine loose_done (fun w' hC' hG' => ?_)
            have HGE := hidden (HBW.out.of_below hC')
            clear hC' hG'
            go_wp2_with fail
            go_roundw
            case rel => exact ⟨j + 1, HLT.out, by go_num, HGE.out⟩
            case measure => have := HLT.out; simp [intOf]; omega
          · have hke : j = m.length := by omega
            have hd : decide (j < m.length) = false := by simpa using hlt
            go_wp2_with (go_at_call 10; refine (HLV.out _).mono ?_; rintro e wz ⟨rfl, gz⟩; have HGZ := hidden ((HG9.out.of_below HB.out).of_below gz); clear gz)
            go_ret
            exact ⟨rfl, HGZ.out⟩
end Go.Proofs.Ytgegjoggiadgbaa
