/-
  The walk of the law BitsetRoundTrip: it returns true for every pair of N and words and all byte slices; nothing that was there is changed.
-/
import Derived.Test.YtaegolkoinjmoaaDoorBkLawCodec
namespace Go.Proofs.YtaegolkoinjmoaaDoor
open Go.RowKit
set_option linter.unusedVariables false
set_option linter.unusedSimpArgs false

theorem mem_at_bits {n : Nat} {f : Nat → Bool} : pack n (bitAt (bitsOf f n)) = pack n f := by
  apply pack_congr
  intro i hi
  unfold bitAt
  rw [bitsOf_get hi]; rfl
theorem encS_length {n : Nat} {f : Nat → Bool} (hn : n ≤ 1048576) : (encS n f).length ≤ 10 * n + 20 := by
  have h1 := enc_length (n := n) (by omega)
  have h2 := (esz_bd (n := n) (by omega)).2
  have h3 := encs_length (rs := runs f n) (fun x hx => by have := runs_le f n x hx; omega)
  have h4 := runs_length_le (f := f) (n := n)
  unfold encS
  rw [List.length_append]
  omega

theorem IsBytes.take {w : World} {A : Option Addr} {n c : Nat} {l : List UInt8} (h : IsBytes w (.slice A n c) l) {k : Nat} (hk : k ≤ l.length) (c' : Nat) : IsBytes w (.slice A k c') (l.take k) := by
  obtain ⟨A', c0, hA, hc⟩ := h
  injection hA with e1 e2 e3
  subst e1
  have hl : (l.take k).length = k := by rw [List.length_take]; omega
  refine ⟨A, c', by rw [hl], fun hp => ?_⟩
  rw [hl] at hp
  obtain ⟨b, off, rfl, hcell⟩ := hc (by omega)
  refine ⟨b, off, rfl, fun j hj => ?_⟩
  rw [hl] at hj
  rw [hcell j (by omega)]
  simp
theorem mem_pack_bitAt {n : Nat} {o : List Bool} (h : o.length = n) : mem n (pack n (bitAt o)) = bitAt o := by
  funext i
  rw [mem_pack]
  unfold bitAt
  by_cases hi : i < n
  · simp [hi]
  · rw [List.getElem?_eq_none (by omega)]; simp
def rtRs (l : List UInt8) : Loose := fun i =>
  match i with
  | 9 => some (BytesVR l)
  | 18 => some (BoolR true)
  | _ => none
theorem rtRs_lasts (l : List UInt8) : (rtRs l).lasts := by
  intro i R h
  unfold rtRs at h
  split at h <;> first
    | (injection h with h; subst h; exact fun _ _ _ h _ => h)
    | (injection h with h; subst h; exact fun _ _ _ h hb => IsBytes.grow h hb)
    | (cases h)

set_option maxRecDepth 100000 in
set_option maxHeartbeats 4000000 in
theorem law_rt (A B C : Option Addr) (c d d2 : Nat) (n0 : Int) (ws : List UInt64) (lb la : List UInt8) (w : World) (hra : Reads w (.slice A ws.length c) (ucells ws)) (hla : ws.length ≤ 9223372036854775807) (hb : IsBytes w (.slice B lb.length d) lb) (ha : IsBytes w (.slice C la.length d2) la)
    (hd2 : la.length ≤ d2) (hTb : Tab w) (hn3 : -9223372036854775808 ≤ n0) (hn4 : n0 ≤ 9223372036854775807) :
    Calls Tryd.prog 9 #[.agg #[.int .i64 n0, .slice A ws.length c], .slice B lb.length d, .slice C la.length d2] w fun e w' => e = .returned (.bool true) ∧ Below w.heap.size w w' := by
  have HG := hidden (show Grows w (w.alloc (.cells #[.int .i64 n0, .slice A ws.length c] 26)) from (Below.refl _ _).alloc (Nat.le_refl _) _)
  have HRW := hidden (Row.new w 26 #[.int .i64 n0, .slice A ws.length c] [.int .i64 n0, .slice A ws.length c] rfl)
  have HPA := hidden (show IsPair w (.agg #[.int .i64 n0, .slice A ws.length c]) n0 ws from ⟨_, rfl, hra, hla⟩)
  have HRA := hidden hra
  have HB := hidden hb
  have HC := hidden ha
  have HTB := hidden hTb
  clear hra hb ha hTb
  go_enter Tryd.func9, Tryd.ntmps9
  go_wp2_with fail
  refine (small_any _ n0 ws _ (HPA.out.grow HG.out) hn3 hn4).mono ?_
  rintro e w1 ⟨rfl, g1⟩
  have HG1 := hidden (HG.out.of_below g1)
  have HRW1 := hidden (HRW.out.grow g1)
  clear g1
  by_cases hsa : smallB n0 ws
  · rw [smallI_t hsa]
    by_cases hbl : lb.length ≤ 100
    · have hdb : decide ((100 : Int) < (lb.length : Int)) = false := by simp; omega
      by_cases hal : la.length ≤ 100
      · have hda : decide ((100 : Int) < (la.length : Int)) = false := by simp; omega
        obtain ⟨n, rfl⟩ := Int.eq_ofNat_of_zero_le hsa.2.1
        have hn2 : n ≤ 3000 := by have := hsa.1; omega
        have hoa : okW n ws := by have := hsa.2.2.2; rwa [Int.toNat_natCast] at this
        have HA1 := hidden (show IsSet w1 (.agg #[.int .i64 (n : Int), .slice A ws.length c]) n ws from ⟨_, rfl, HRA.out.grow HG1.out, by rw [hoa.1]; unfold nw; omega, by omega⟩)
        have HOA := hidden hoa
        have r1 := HRW1.out
        have hc0 := r1.cell 0
        have hc1 := r1.cell 1
        simp only [List.getElem?_cons_zero, List.getElem?_cons_succ] at hc0 hc1
        clear hsa hoa r1
        go_wp2_with fail
        refine (ck_encode _ n ws w1 HA1.out HOA.out (HTB.out.grow HG1.out)).mono ?_
        rintro e w2 ⟨v2, rfl, hown2, g2⟩
        have HV2 := hidden (IsBytes.of_own hown2)
        have HG2 := hidden (HG1.out.of_below g2)
        have HRW2 := hidden (HRW1.out.grow g2)
        have HA2 := hidden (HA1.out.grow g2)
        have HEL := hidden (encS_length (n := n) (f := mem n ws) (by omega))
        obtain ⟨A2, c2, rfl⟩ : ∃ A c, v2 = .slice A (encS n (mem n ws)).length c := by obtain ⟨A', c', h1, _⟩ := HV2.out; exact ⟨A', c', h1⟩
        have HDS := hidden (fun l hl => decS_encS (l := l) (a := lb) (r := la) (n := n) (f := mem n ws) (by omega) hl)
        clear g2 hown2 hc0 hc1
        generalize encS n (mem n ws) = E at *
        have HO : Hid ((w2.alloc (.cells #[] 5)).ownsRow w2.heap.size 5 1 (.slice (some ⟨w2.heap.size, 0, none⟩) 0 0) ([] : List UInt8).length (bcells [])) := (Row.new w2 5 #[] [] rfl).own (Nat.le_refl _) (by simp [maxLen])
        have HB0 : Hid (Below w2.heap.size w2 (w2.alloc (.cells #[] 5))) := (Below.refl _ _).alloc (Nat.le_refl _) _
        have HP1 : Hid (([] : List UInt8).length + lb.length ≤ 140737488355328) := by show _ ≤ _; simp; omega
        have HP2 : Hid (lb.length + E.length ≤ 140737488355328) := by show _ ≤ _; have := HEL.out; omega
        have HP3 : Hid ((lb ++ E).length + la.length ≤ 140737488355328) := by show _ ≤ _; have := HEL.out; rw [List.length_append]; omega
        have HBB := hidden ((HB.out.grow HG2.out).grow HB0.out)
        go_wp2_with (first
          | (at_builtin; (refine wpList_append_bytes (w := w2) (wr := w2.alloc (.cells #[] 5)) rfl _ _ 41 rfl 5 Tryd.underlying41 info_u8 _ [] (by rfl) HO.out HB0.out _ lb (by rfl) HBB.out HP1.out ?_); intro v3 w3 hown3 hnx3; rw [List.nil_append] at hown3; have HO3 := hidden hown3; have HN3 := hidden hnx3; clear hown3 hnx3)
          | (at_builtin; (refine wpList_append_bytes (w := w2) (wr := w3) rfl _ _ 41 rfl 5 Tryd.underlying41 info_u8 _ lb (by rfl) HO3.out HN3.out _ E (by rfl) (HV2.out.grow HN3.out) HP2.out ?_); intro v4 w4 hown4 hnx4; have HO4 := hidden hown4; have HN4 := hidden hnx4; clear hown4 hnx4)
          | (at_builtin; (refine wpList_append_bytes (w := w2) (wr := w4) rfl _ _ 41 rfl 5 Tryd.underlying41 info_u8 _ (lb ++ E) (by rfl) HO4.out HN4.out _ la (by rfl) ((HC.out.grow HG2.out).grow HN4.out) HP3.out ?_); intro v5 w5 hown5 hnx5; have HO5 := hidden hown5; have HN5 := hidden hnx5; clear hown5 hnx5))
        have HALL := hidden (IsBytes.of_own HO5.out)
        have HG5 := hidden (HG2.out.of_below HN5.out)
        have HRW5 := hidden (HRW2.out.grow HN5.out)
        have HA5 := hidden (HA2.out.grow HN5.out)
        have HD5 := hidden (HDS.out (lb ++ E ++ la) (by rw [List.append_assoc]))
        have hln : (lb ++ E ++ la).length ≤ 1048576 := by have := HEL.out; simp; omega
        have HLN := hidden hln
        clear hln
        refine (ck_decode v5 (lb ++ E ++ la) (lb.length : Int) w5 HALL.out HLN.out (by omega) (by omega)).mono ?_
        rintro e w6 ⟨s6, rfl, hs6, g6⟩
        rw [HD5.out] at hs6 ⊢
        simp only at hs6 ⊢
        rw [mem_at_bits, pack_mem HOA.out] at hs6
        have HS6 := hidden hs6
        obtain ⟨v6, rfl, hr6, hq1, hq2⟩ := hs6
        obtain ⟨A6, c6, rfl, hq3⟩ := hr6.slice_
        rw [ucells_length] at HS6 hr6 ⊢
        clear hq1 hq2 hq3
        have HG6 := hidden (HG5.out.of_below g6)
        have HRW6 := hidden (HRW5.out.grow g6)
        have HA6 := hidden (HA5.out.grow g6)
        clear hr6 g6
        have hg7 : Grows w6 (w6.alloc (.cells #[.int .i64 (n : Int), .slice A6 ws.length c6] 26)) := (Below.refl _ _).alloc (Nat.le_refl _) _
        have r7 := HRW6.out
        have hlt7 := r7.lt
        have hc0 := r7.cell 0
        have hc1 := r7.cell 1
        simp only [List.getElem?_cons_zero, List.getElem?_cons_succ] at hc0 hc1
        have HG7 := hidden (HG6.out.of_below hg7)
        have HPS := hidden (IsSet.pair (HA6.out.grow hg7) (by omega))
        have HPT := hidden (IsSet.pair (HS6.out.grow hg7) (by omega))
        have hne0 : (((lb ++ E).length : Int) != (lb.length : Int) + (E.length : Int)) = false := by rw [List.length_append]; simp
        have hq100 := HEL.out
        clear HD5 HDS HLN HALL HO5 HO4 HO3 HP1 HP2 HP3 HO HBB HN3 HN4 HN5 HB0 HV2 HB
        generalize (lb ++ E).length = T at *
        generalize lb.length = p at *
        generalize E.length = q at *
        clear hg7 r7 hn3 hn4
        go_wp2_with fail
        refine (requal_any _ _ (n : Int) (n : Int) ws ws _ HPS.out HPT.out).mono ?_
        rintro e w8 ⟨rfl, g8⟩
        rw [pairEq_t ⟨rfl, rfl⟩]
        have HG8 := hidden (HG7.out.of_below g8)
        clear g8 hc0 hc1 hlt7
        go_wp2_with fail
        refine (ck_decode _ la 0 w8 (HC.out.grow HG8.out) (by omega) (by omega) (by omega)).mono ?_
        rintro e w9 ⟨s9, rfl, hs9, g9⟩
        have HED := hidden (fun n o q (h : decS la 0 = (n, o, q, 0)) => encS_decS h)
        generalize decS la 0 = R at *
        obtain ⟨N, O, q, ec⟩ := R
        simp only at hs9 HED ⊢
        have HS9 := hidden hs9
        obtain ⟨v9, rfl, hr9, _, hN⟩ := hs9
        obtain ⟨A9, c9, rfl, _⟩ := hr9.slice_
        generalize hL9 : (ucells (pack N (bitAt O))).length = L9 at *
        have HG9 := hidden (HG8.out.of_below g9)
        clear hr9 g9 hL9
        have hg10 : Grows w9 (w9.alloc (.cells #[.int .i64 (N : Int), .slice A9 L9 c9] 26)) := (Below.refl _ _).alloc (Nat.le_refl _) _
        have HG10 := hidden (HG9.out.of_below hg10)
        have HS10 := hidden (HS9.out.grow hg10)
        have HX : Hid (∀ X, Grows (w9.alloc (.cells #[.int .i64 (N : Int), .slice A9 L9 c9] 26)) X → X.cell? ⟨w9.heap.size, 0, none⟩ = some (.int .i64 (N : Int)) ∧ X.cell? ⟨w9.heap.size, 1, none⟩ = some (.slice A9 L9 c9)) := by
          intro X g
          have r := (Row.new w9 26 #[.int .i64 (N : Int), .slice A9 L9 c9] [.int .i64 (N : Int), .slice A9 L9 c9] rfl).grow g
          exact ⟨r.cell 0, r.cell 1⟩
        clear hg10
        by_cases hec : ec = 0
        · subst hec
          obtain ⟨m, rfl, hm, hNm, hOl, hEE⟩ := HED.out N O q rfl
          have HEE := hidden hEE
          have HVA := hidden (validI_t (n := (N : Int)) (ws := pack N (bitAt O)) ⟨by omega, by omega, by rw [Int.toNat_natCast]; exact okW_pack N _⟩)
          clear hEE
          go_wp2_with fail
          have HVP := hidden (IsSet.pair HS10.out (by rw [pack_length]; unfold nw; omega))
          have hda2 : decide (la.length < m) = false := by simp; omega
          have hm0 : (0 : Int) ≤ (m : Int) := by omega
          have HMB := hidden (mem_pack_bitAt (n := N) (o := O) hOl)
          have HNM := hidden hNm
          have HMD := hidden hm
          clear hOl
          refine (rvalid_any _ (N : Int) _ _ HVP.out (by omega) (by omega)).mono ?_
          rintro e w11 ⟨rfl, g11⟩
          rw [HVA.out]
          have HXV := hidden (fun X g => HX.out X (g11.of_below g))
          have HGV := hidden (HG10.out.of_below g11)
          have HSV := hidden (HS10.out.grow g11)
          have HCV := hidden (HC.out.grow HGV.out)
          clear g11
          obtain ⟨x0, x1⟩ := HXV.out w11 (Below.refl _ _)
          go_wp2_with fail
          by_cases hN3 : N ≤ 3000
          · have hdn : decide ((3000 : Int) < (N : Int)) = false := by simp; omega
            have hmd : m ≤ d2 := by omega
            refine wp_region_loose (rtRs (la.take m)) (by kernel_rfl) (by kernel_rfl) (rtRs_lasts _) ?_
            iterate 3 ((with_reducible refine loose_one (v := ?_) (a' := ?_) ?_ ?_ (fun w' hC' hG' => ?_) ?_ ?_); rotate_left 2; (focus rfl); (focus rfl); (focus (obtain ⟨x0, x1⟩ := HXV.out w' hC'; clear hC' hG'; go_simp; rfl)); (focus (go_simp; rfl)))
            iterate 3 ((with_reducible refine loose_one (v := ?_) (a' := ?_) ?_ ?_ (fun w' hC' hG' => ?_) ?_ ?_); rotate_left 2; (focus rfl); (focus rfl); (focus (obtain ⟨x0, x1⟩ := HXV.out w' hC'; clear hC' hG'; go_simp; rfl)); (focus (go_simp; rfl)))
            iterate 2 ((with_reducible refine loose_one (v := ?_) (a' := ?_) ?_ ?_ (fun w' hC' hG' => ?_) ?_ ?_); rotate_left 2; (focus rfl); (focus rfl); (focus (obtain ⟨x0, x1⟩ := HXV.out w' hC'; clear hC' hG'; go_simp; rfl)); (focus (go_simp; rfl)))
            iterate 1 ((with_reducible refine loose_one (v := ?_) (a' := ?_) ?_ ?_ (fun w' hC' hG' => ?_) ?_ ?_); rotate_left 2; (focus rfl); (focus rfl); (focus (obtain ⟨x0, x1⟩ := HXV.out w' hC'; clear hC' hG'; go_simp; rfl)); (focus (go_simp; rfl)))
            refine loose_call (f := 42) (args := #[.agg #[.int .i64 (N : Int), .slice A9 L9 c9]]) (by rfl) (by rfl) (fun _ => by go_simp) (fun w' hC' hG' => bytes_loose (by have h := ck_encode _ N _ w' (HSV.out.grow hC') (okW_pack _ _) (HTB.out.grow (HGV.out.of_below hC')); rw [HMB.out] at h; rw [← HEE.out]; exact h)) ?_
            intro v9 _
            refine ⟨?_, ?_, ?_⟩
            rotate_left
            · go_simp
              rfl
            refine loose_one (v := ?_) (a' := ?_) (by rfl) (by rfl) (fun w' hC' hG' => ?_) ?_ ?_
            rotate_left 2
            · have hr := run_string_bytes (P := Tryd.prog) ((hG' 9 (by kernel_rfl)).2 rfl) 41 5 Tryd.underlying41 Tryd.underlying5 9 Tryd.underlying9
              clear hC' hG'
              go_simp
              rfl
            · go_simp
              rfl
            iterate 3 ((with_reducible refine loose_one (v := ?_) (a' := ?_) ?_ ?_ (fun w' hC' hG' => ?_) ?_ ?_); rotate_left 2; (focus rfl); (focus rfl); (focus (obtain ⟨x0, x1⟩ := HXV.out w' hC'; clear hC' hG'; go_simp; rfl)); (focus (go_simp; rfl)))
            refine loose_one (v := ?_) (a' := ?_) (by rfl) (by rfl) (fun w' hC' hG' => ?_) ?_ ?_
            rotate_left 2
            · have hr := run_string_bytes (P := Tryd.prog) ((HCV.out.grow hC').take HMD.out d2) 41 5 Tryd.underlying41 Tryd.underlying5 9 Tryd.underlying9
              clear hC' hG'
              go_simp
              rfl
            · go_simp
              rfl
            iterate 1 ((with_reducible refine loose_one (v := ?_) (a' := ?_) ?_ ?_ (fun w' hC' hG' => ?_) ?_ ?_); rotate_left 2; (focus rfl); (focus rfl); (focus (obtain ⟨x0, x1⟩ := HXV.out w' hC'; clear hC' hG'; go_simp; rfl)); (focus (go_simp; rfl)))
            iterate 2 ((with_reducible refine loose_one (v := ?_) (a' := ?_) ?_ ?_ (fun w' hC' hG' => ?_) ?_ ?_); rotate_left 2; (focus rfl); (focus rfl); (focus (obtain ⟨x0, x1⟩ := HXV.out w' hC'; clear hC' hG'; go_simp; rfl)); (focus (go_simp; rfl)))
            refine loose_call (f := 10) (args := #[]) (by rfl) (by rfl) (fun _ => by go_simp) (fun w' hC' hG' => bool_loose (lives_any w' (HTB.out.grow (HGV.out.of_below hC')))) ?_
            rintro _ ⟨_, _, rfl⟩
            refine ⟨?_, ?_, ?_⟩
            rotate_left
            · go_simp
              rfl
            iterate 2 ((with_reducible refine loose_one (v := ?_) (a' := ?_) ?_ ?_ (fun w' hC' hG' => ?_) ?_ ?_); rotate_left 2; (focus rfl); (focus rfl); (focus (obtain ⟨x0, x1⟩ := HXV.out w' hC'; clear hC' hG'; go_simp; rfl)); (focus (go_simp; rfl)))
            refine loose_done (fun w' hC' hG' => ?_)
            clear hG'
            have hC2 := HGV.out.of_below hC'
            go_wp2_with fail
            go_ret
            exact ⟨rfl, hC2⟩
          · have hdn : decide ((3000 : Int) < (N : Int)) = true := by simp; omega
            refine wp_region_loose (rtRs (la.take m)) (by kernel_rfl) (by kernel_rfl) (rtRs_lasts _) ?_
            iterate 8 ((with_reducible refine loose_one (v := ?_) (a' := ?_) ?_ ?_ (fun w' hC' hG' => ?_) ?_ ?_); rotate_left 2; (focus rfl); (focus rfl); (focus (obtain ⟨x0, x1⟩ := HXV.out w' hC'; clear hC' hG'; go_simp; rfl)); (focus (go_simp; rfl)))
            iterate 8 ((with_reducible refine loose_skip (a' := ?_) ?_ ?_ ?_); rotate_left 1; (focus rfl); (focus (go_simp; rfl)))
            iterate 2 ((with_reducible refine loose_one (v := ?_) (a' := ?_) ?_ ?_ (fun w' hC' hG' => ?_) ?_ ?_); rotate_left 2; (focus rfl); (focus rfl); (focus (obtain ⟨x0, x1⟩ := HXV.out w' hC'; clear hC' hG'; go_simp; rfl)); (focus (go_simp; rfl)))
            refine loose_call (f := 10) (args := #[]) (by rfl) (by rfl) (fun _ => by go_simp) (fun w' hC' hG' => bool_loose (lives_any w' (HTB.out.grow (HGV.out.of_below hC')))) ?_
            rintro _ ⟨_, _, rfl⟩
            refine ⟨?_, ?_, ?_⟩
            rotate_left
            · go_simp
              rfl
            iterate 2 ((with_reducible refine loose_one (v := ?_) (a' := ?_) ?_ ?_ (fun w' hC' hG' => ?_) ?_ ?_); rotate_left 2; (focus rfl); (focus rfl); (focus (obtain ⟨x0, x1⟩ := HXV.out w' hC'; clear hC' hG'; go_simp; rfl)); (focus (go_simp; rfl)))
            refine loose_done (fun w' hC' hG' => ?_)
            clear hG'
            have hC2 := HGV.out.of_below hC'
            go_wp2_with fail
            go_ret
            exact ⟨rfl, hC2⟩
        · have hne : (ec != 0) = true := by simpa using hec
          have heq : (ec == 0) = false := by simpa using hec
          clear hec
          go_wp2_with fail
          have HXV := HX
          have HGV := HG10
          refine wp_region_loose (rtRs (la)) (by kernel_rfl) (by kernel_rfl) (rtRs_lasts _) ?_
          iterate 3 ((with_reducible refine loose_one (v := ?_) (a' := ?_) ?_ ?_ (fun w' hC' hG' => ?_) ?_ ?_); rotate_left 2; (focus rfl); (focus rfl); (focus (obtain ⟨x0, x1⟩ := HXV.out w' hC'; clear hC' hG'; go_simp; rfl)); (focus (go_simp; rfl)))
          iterate 3 ((with_reducible refine loose_skip (a' := ?_) ?_ ?_ ?_); rotate_left 1; (focus rfl); (focus (go_simp; rfl)))
          iterate 2 ((with_reducible refine loose_one (v := ?_) (a' := ?_) ?_ ?_ (fun w' hC' hG' => ?_) ?_ ?_); rotate_left 2; (focus rfl); (focus rfl); (focus (obtain ⟨x0, x1⟩ := HXV.out w' hC'; clear hC' hG'; go_simp; rfl)); (focus (go_simp; rfl)))
          iterate 8 ((with_reducible refine loose_skip (a' := ?_) ?_ ?_ ?_); rotate_left 1; (focus rfl); (focus (go_simp; rfl)))
          iterate 2 ((with_reducible refine loose_one (v := ?_) (a' := ?_) ?_ ?_ (fun w' hC' hG' => ?_) ?_ ?_); rotate_left 2; (focus rfl); (focus rfl); (focus (obtain ⟨x0, x1⟩ := HXV.out w' hC'; clear hC' hG'; go_simp; rfl)); (focus (go_simp; rfl)))
          refine loose_call (f := 10) (args := #[]) (by rfl) (by rfl) (fun _ => by go_simp) (fun w' hC' hG' => bool_loose (lives_any w' (HTB.out.grow (HGV.out.of_below hC')))) ?_
          rintro _ ⟨_, _, rfl⟩
          refine ⟨?_, ?_, ?_⟩
          rotate_left
          · go_simp
            rfl
          iterate 2 ((with_reducible refine loose_one (v := ?_) (a' := ?_) ?_ ?_ (fun w' hC' hG' => ?_) ?_ ?_); rotate_left 2; (focus rfl); (focus rfl); (focus (obtain ⟨x0, x1⟩ := HXV.out w' hC'; clear hC' hG'; go_simp; rfl)); (focus (go_simp; rfl)))
          refine loose_done (fun w' hC' hG' => ?_)
          clear hG'
          have hC2 := HGV.out.of_below hC'
          go_wp2_with fail
          go_ret
          exact ⟨rfl, hC2⟩
      · have hda : decide ((100 : Int) < (la.length : Int)) = true := by simp; omega
        clear hsa
        go_wp2_with fail
        refine (lives_any _ (HTB.out.grow HG1.out)).mono ?_
        rintro e w3 ⟨rfl, g3⟩
        have hC2 := HG1.out.of_below g3
        go_wp2_with fail
        go_ret
        exact ⟨rfl, hC2⟩
    · have hdb : decide ((100 : Int) < (lb.length : Int)) = true := by simp; omega
      clear hsa
      go_wp2_with fail
      refine (lives_any _ (HTB.out.grow HG1.out)).mono ?_
      rintro e w3 ⟨rfl, g3⟩
      have hC2 := HG1.out.of_below g3
      go_wp2_with fail
      go_ret
      exact ⟨rfl, hC2⟩
  · rw [smallI_f hsa]
    clear hsa
    go_wp2_with fail
    refine (lives_any _ (HTB.out.grow HG1.out)).mono ?_
    rintro e w3 ⟨rfl, g3⟩
    have hC2 := HG1.out.of_below g3
    go_wp2_with fail
    go_ret
    exact ⟨rfl, hC2⟩

end Go.Proofs.YtaegolkoinjmoaaDoor
