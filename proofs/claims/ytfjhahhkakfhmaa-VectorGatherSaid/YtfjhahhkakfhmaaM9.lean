/-
  Texts that the claims of this seat share, put together (VdJ, VcW1, VcW2, VcW3, VcW4, VcR, VcW5, VcW6). No condition.
-/
import Derived.Test.YtfjhahhkakfhmaaM8
/-
  Shaken: what the claims of this seat need of this text. No condition.
-/
namespace Go.Proofs.Ytfjhahhkakfhmaa
set_option maxRecDepth 8000
open Go.RowKit
set_option linter.unusedVariables false
set_option linter.unusedSimpArgs false
theorem wpList_append_v4x {wr : World} {ops : Array Oper} {rest : List Oper} {o : Oper} {a : Act} {Q : Exit → Act → World → Prop} (hgd : o.guard = none) (s x : Operand)
    (ho : o.op = .call { callee := .builtin .append, args := #[s, x], argTypes := #[42, 42] })
    (v : Value) (n : Nat) (pre : List Value) (hs : a.eval s = v) (base : Nat) (hown : wr.ownsRow base 29 4 v n pre) (hbase : base ≤ wr.heap.size)
    (p q r t : Value) (h1 : (#[p, q, r, t] : Array Value).all (·.oneCell') = true) (N : Nat) (hx : a.eval x = .slice (some ⟨N, 0, none⟩) 1 1) (hrow : Row wr N 29 [p, q, r, t]) (hlen : n + 1 ≤ 1000000000)
    (h : ∀ v' w', w'.ownsRow base 29 4 v' (n + 1) (pre ++ [p, q, r, t]) → Only (fun k => v.ownBlock = some k) wr w' → wpList Try.prog ops Q rest (a.put o.dst v') w') :
    wpList Try.prog ops Q (o :: rest) a wr := by
  obtain ⟨i0, hi, hz0, hs1, hs2⟩ := info_parts infoV17p
  refine wpList_append_own_at _ hgd s x 42 ho base 29 i0 _ 4 80 Try.underlying42 hi hz0 hs1 hs2 rfl (by decide) v n pre hs hown ⟨N, 0, none⟩ 1 1 [p, q, r, t] hx rfl ?_ ?_ (by unfold maxLen; omega) (by omega) hbase ?_
  · intro j y hj
    rw [Addr.add_lit, Nat.zero_add, hrow.cell]
    exact hj
  · intro y hy
    simp only [List.all_toArray, List.all_cons, List.all_nil, Bool.and_true, Bool.and_eq_true] at h1
    simp at hy
    rcases hy with rfl | rfl | rfl | rfl
    · exact h1.1
    · exact h1.2.1
    · exact h1.2.2.1
    · exact h1.2.2.2
  · intro v' w' h2 h3 _ _
    exact h v' w' h2 (Only.by_ h3)
def OwnVR (base : Nat) (u : Vec) : Value → World → Prop := fun x w => OwnV base w x u
theorem OwnVR.lasts {base : Nat} {u : Vec} : ∀ v w w', OwnVR base u v w → Grows w w' → OwnVR base u v w' := fun _ _ _ h hg => OwnV.only h (Only.of_grows hg (fun _ => False)) (fun _ _ => id)
def NewVR (base : Nat) (u : Vec) : Value → World → Prop := fun y w => ∃ g p q r t, y = .slice (some ⟨g, 0, none⟩) 1 1 ∧ Row w g 29 [p, q, r, t] ∧ OwnV base w (.agg #[p, q, r, t]) u
theorem NewVR.lasts {base : Nat} {u : Vec} : ∀ v w w', NewVR base u v w → Grows w w' → NewVR base u v w' := fun _ _ _ ⟨g, p, q, r, t, h1, h2, h3⟩ hg => ⟨g, p, q, r, t, h1, h2.grow hg, OwnVR.lasts _ _ _ h3 hg⟩
def FlRel (w w1 : World) (cs : List Vec) (ix : List Int) (d g n : Nat) (S : List Value) (i : Value) (wr : World) : Prop :=
  ∃ (k : Nat) (v : Value) (xs : List Value), k ≤ cs.length ∧ i = .int .i64 (k : Int) ∧ BatW w1 d g n v xs ((cs.take k).map (fun y => gatherV y ix)) wr ∧ Row wr w.heap.size 45 S
set_option maxHeartbeats 16000000 in
theorem vflatten_any (x : Value) (B : Bat) (w : World) (hx : IsB w x B) (hv : ∀ y ∈ B.cs, validVB y = true) (h0 : 0 ≤ B.len) (h1 : B.len ≤ 1000000000) (hc : B.cs.length ≤ 1000) (hi : (idxB B).length ≤ 1000000000) :
    Calls Try.prog 37 #[x] w (BatI (flatB B) w) := by
  rw [flatB_eq]
  have HIX := hidden (fun W (h : Grows w W) => rowIndices_any x B W (hx.grow h) h0 h1)
  obtain ⟨cs, L, al, sel⟩ := B
  obtain ⟨p, q, rfl, hp, hq⟩ := hx
  dsimp only at *
  have HP := hidden hp
  have HVV := hidden hv
  obtain ⟨A, c, rfl⟩ := hp.slice_
  obtain ⟨E, d, rfl⟩ := hq.slice_
  generalize idxB ⟨cs, L, al, sel⟩ = ix at *
  obtain ⟨m, hm⟩ : ∃ m, cs.length = m := ⟨_, rfl⟩
  have HM := hidden hm
  obtain ⟨n, hn⟩ : ∃ n, ix.length = n := ⟨_, rfl⟩
  have HN := hidden hn
  have HMB := hidden (show m ≤ 1000 ∧ n ≤ 1000000000 by omega)
  generalize sel.length = sl at *
  rw [hm] at HP HIX ⊢
  rw [hn]
  obtain ⟨W0, hW0⟩ : ∃ W0, W0 = (w.alloc (.cells #[.slice A m c, .int .i64 L, .bool al, .slice E sl d] 45)).alloc (.cells #[.slice none 0 0, .int .i64 0, .bool false, .slice none 0 0] 45) := ⟨_, rfl⟩
  have HG0 := hidden (show Grows w W0 by rw [hW0]; exact (grow1 _).of_below (grow1 _))
  have HR0 := hidden (show Row W0 w.heap.size 45 [.slice A m c, .int .i64 L, .bool al, .slice E sl d] by rw [hW0]; exact (Row.new w 45 _ _ rfl).grow (grow1 _))
  have HD0 := hidden (show Row W0 (w.heap.size + 1) 45 [.slice none 0 0, .int .i64 0, .bool false, .slice none 0 0] by rw [hW0]; exact Row.at_ _ _ _ _ rfl _ (by simp))
  have HSZ := hidden (show W0.heap.size = w.heap.size + 2 by rw [hW0]; simp)
  have p0 := HR0.out.cell 0
  have p1 := HR0.out.cell 1
  have p2 := HR0.out.cell 2
  have p3 := HR0.out.cell 3
  simp only [List.getElem?_cons_succ, List.getElem?_cons_zero] at p0 p1 p2 p3
  rw [hW0] at p0 p1 p2 p3
  have HW := hidden hW0
  clear hW0 hp hq hv h0 h1 hc hi hm hn
  go_enter Try.func37, Try.ntmps37
  go_wp2_with (first | (go_at_call 66; rw [← HW.out]; refine (HIX.out _ HG0.out).mono ?_; rintro e w1 ⟨IA, IC, rfl, hi1, g1⟩; rw [HN.out] at hi1; have HI1 := hidden hi1; have HG1 := hidden (HG0.out.of_below g1); have HB1 := hidden (HR0.out.grow g1); have HD1 := hidden (HD0.out.grow g1); have HS1 := hidden g1.size; have r0 := HB1.out.cell 0; have r1 := (HB1.out.grow (grow1 (.cells #[.slice none 0 0, .int .i64 (n : Int), .bool true, .slice none 0 0] 45))).cell 0; simp only [List.getElem?_cons_succ, List.getElem?_cons_zero] at r0 r1; rw [HN.out]; clear hi1 g1 p0 p1 p2 p3))
  have HBW0 := hidden (show BatW w1 (w.heap.size + 1) w1.heap.size n (.slice none 0 0) [] ((cs.take 0).map (fun y => gatherV y ix)) (w1.alloc (.cells #[.slice none 0 0, .int .i64 (n : Int), .bool true, .slice none 0 0] 45)) from
    ⟨ColsW.nil_ _ _, Row.new w1 _ _ _ rfl, HD1.out.grow (grow1 _), Nat.le_refl _, by have := HS1.out; have := HSZ.out; omega, grow1 _⟩)
  have HBX0 := hidden (HB1.out.grow (grow1 (.cells #[.slice none 0 0, .int .i64 (n : Int), .bool true, .slice none 0 0] 45)))
  clear r0 r1
  go_loopw [15] (fun i wr => FlRel w w1 cs ix (w.heap.size + 1) w1.heap.size n [.slice A m c, .int .i64 L, .bool al, .slice E sl d] i wr) (fun i _ => m - (intOf i).toNat)
  case atStart => exact ⟨0, _, _, Nat.zero_le _, rfl, HBW0.out, HBX0.out⟩
  case round =>
    obtain ⟨k, vc, xs, hk, rfl, hst, hbx⟩ := hrel
    rw [HM.out] at hk
    have HS := hidden hst
    have HBX := hidden hbx
    clear hst hbx HBW0 HBX0
    have hmb : m ≤ 1000 := HMB.out.1
    by_cases hlt : k < m
    · have hkl : k < cs.length := by rw [HM.out]; exact hlt
      have hP := HP.out
      rw [← HM.out] at hP
      obtain ⟨b0, off, B1, d1, B2, d2, B3, d3, rfl, hcc⟩ := hP.at_ hkl
      have ey : ∃ y, y = cs[k] := ⟨_, rfl⟩
      obtain ⟨y, hy⟩ := ey
      have HTK := hidden (show (cs.take (k + 1)).map (fun y => gatherV y ix) = (cs.take k).map (fun y => gatherV y ix) ++ [gatherV y ix] by rw [List.take_add_one, List.getElem?_eq_getElem hkl, ← hy, List.map_append]; rfl)
      have HVY := hidden (HVV.out y (by rw [hy]; exact List.getElem_mem _))
      rw [← hy] at hcc
      have HC := hidden hcc
      obtain ⟨t0, t1, t2, t3, -⟩ := HC.out wr (HG1.out.of_below HS.out.grows)
      obtain ⟨s0, s1, s2, s3, -⟩ := HC.out (wr.alloc (.cells #[.int .i64 0, .slice none 0 0, .slice none 0 0, .slice none 0 0] 29)) ((HG1.out.of_below HS.out.grows).of_below (grow1 _))
      obtain ⟨WA, hWA⟩ : ∃ WA, WA = wr.alloc (.cells #[.int .i64 y.T, .slice B1 y.is.length d1, .slice B2 y.ts.length d2, .slice B3 y.ns.length d3] 29) := ⟨_, rfl⟩
      have HGA := hidden (show Grows wr WA by rw [hWA]; exact grow1 _)
      have HRA := hidden (show Row WA wr.heap.size 29 [.int .i64 y.T, .slice B1 y.is.length d1, .slice B2 y.ts.length d2, .slice B3 y.ns.length d3] by rw [hWA]; exact Row.new wr _ _ _ rfl)
      have HW2 := hidden hWA
      have HCX := hidden (fun X (h : Grows WA X) => And.intro ((HS.out.row.grow (HGA.out.of_below h)).cell 0) (And.intro ((HRA.out.grow h).cell 0) (And.intro ((HRA.out.grow h).cell 1) (And.intro ((HRA.out.grow h).cell 2) ((HRA.out.grow h).cell 3)))))
      simp only [List.getElem?_cons_succ, List.getElem?_cons_zero] at HCX
      have HGWA := hidden (HS.out.grows.of_below HGA.out)
      obtain ⟨gv, hgv⟩ : ∃ gv, gv = gatherV y ix := ⟨_, rfl⟩
      have HC1 := hidden (fun W (h : Grows WA W) => show Calls Try.prog 24 #[.agg #[.int .i64 y.T, .slice B1 y.is.length d1, .slice B2 y.ts.length d2, .slice B3 y.ns.length d3], .slice IA n IC] W (fun e w' => ∃ v, e = .returned v ∧ Grows W w' ∧ OwnVR w1.heap.size gv v w') from
        (vgather_any _ y (.slice IA n IC) ix W (HC.out W (HG1.out.of_below (HGWA.out.of_below h))).2.2.2.2 HVY.out (HI1.out.grow (HGWA.out.of_below h)) (by have := HMB.out; have := HN.out; omega)).mono fun e w' ⟨v, he, ho, hg⟩ => ⟨v, he, hg, by rw [hgv]; exact ho.base_ (HGWA.out.of_below h).size⟩)
      rw [← hgv] at HTK
      have HLV := hidden (show ((cs.take k).map (fun y => gatherV y ix)).length = k by rw [List.length_map, List.length_take]; omega)
      have hd : decide (k < m) = true := by simpa using hlt
      have hk0 : (0 : Int) ≤ (k : Int) := by omega
      have hk1 : (k : Int) < (m : Int) := by omega
      have hmm : m - (k + 1) < m - k := by omega
      have HK1 := hidden (show k + 1 ≤ cs.length by omega)
      have HKB := hidden (show k + 1 ≤ 1000000000 by omega)
      have HNW := hidden (show w.heap.size < w1.heap.size from HB1.out.lt)
      generalize (cs.take k).map (fun y => gatherV y ix) = VS at *
      clear hlt hk hkl hP hcc hy hWA hgv
      go_wp2_with fail
      rw [← HW2.out]
      refine wp_region_loose_tail 6 (tabRs [(4, OwnVR w1.heap.size gv), (5, NewVR w1.heap.size gv)]) (by kernel_rfl) (by kernel_rfl) (tabRs_cons OwnVR.lasts (tabRs_cons NewVR.lasts tabRs_nil)) ?_
      simp only [List.take_succ_cons, List.take_zero, List.drop_succ_cons, List.drop_zero]
      iterate 4 ((with_reducible refine loose_one (v := ?_) (a' := ?_) ?_ ?_ (fun w' hC' hG' => ?_) ?_ ?_); rotate_left 2; (focus rfl); (focus rfl); (focus (obtain ⟨f0, f1, f2, f3, f4⟩ := HCX.out w' hC'; clear hC' hG'; go_simp; rfl)); (focus (go_simp; rfl)))
      refine loose_call (R := OwnVR w1.heap.size gv) (f := 24) (args := #[.agg #[.int .i64 y.T, .slice B1 y.is.length d1, .slice B2 y.ts.length d2, .slice B3 y.ns.length d3], .slice IA n IC]) (by rfl) (by rfl) (fun _ => by go_simp) (fun w' hC' hG' => HC1.out w' hC') ?_
      rintro r ⟨w5, w6, hr5⟩
      obtain ⟨x1, x2, x3, rfl, y1, y2, y3⟩ := id hr5
      obtain ⟨U1, N1, C1, rfl⟩ := ownsRow_slice y1
      obtain ⟨U2, N2, C2, rfl⟩ := ownsRow_slice y2
      obtain ⟨U3, N3, C3, rfl⟩ := ownsRow_slice y3
      refine ⟨?_, ?_, ?_⟩
      rotate_left
      · go_simp
        rfl
      refine loose_new (R := NewVR w1.heap.size gv) (by rfl) (by rfl) (fun w' hC' hG' => ?_) ?_
      · have h7 : OwnVR w1.heap.size gv (.agg #[.int .i64 gv.T, .slice U1 N1 C1, .slice U2 N2 C2, .slice U3 N3 C3]) w' := (hG' 4 (by kernel_rfl)).2 rfl
        exact ⟨.slice (some ⟨w'.heap.size, 0, none⟩) 1 1, w'.alloc (.cells #[.int .i64 gv.T, .slice U1 N1 C1, .slice U2 N2 C2, .slice U3 N3 C3] 29), by first | rfl | go_simp, grow1 _, w'.heap.size, _, _, _, _, rfl, Row.new w' _ _ _ rfl, OwnVR.lasts _ _ _ h7 (grow1 _)⟩
      rintro _ ⟨_, _, g8, p8, q8, r8, t8, rfl, _, _⟩
      refine ⟨?_, ?_, ?_⟩
      rotate_left
      · go_simp
        rfl
      refine loose_done (fun w9 hC' hG' => ?_)
      obtain ⟨g9, p9, q9, r9, t9', e9, hrow9, hown9⟩ : NewVR w1.heap.size gv (.slice (some ⟨g8, 0, none⟩) 1 1) w9 := (hG' 5).2 rfl
      injection e9 with e9
      injection e9 with e9
      injection e9 with e9
      subst e9
      have HR9 := hidden hrow9
      have HO9 := hidden hown9
      have HQ9 := hidden hown9.ones
      have HG9 := hidden (HGA.out.of_below hC')
      have HS9 := hidden (HS.out.grow HG9.out)
      have HB9 := hidden (HBX.out.grow HG9.out)
      clear hC' hG' w6 hr5 y1 y2 y3 hrow9 hown9
      go_wp2_with (first
        | (at_builtin; go_loud (refine wpList_append_v4x rfl _ _ rfl vc VS.length (quads xs) (by rfl) w1.heap.size HS9.out.cols.row HS9.out.grows.size _ _ _ _ HQ9.out g8 (by rfl) HR9.out (by rw [HLV.out]; exact HKB.out) ?_); intro v' Y5 hown5 hon5; obtain ⟨PA, PN, PC, rfl⟩ := ownsRow_slice hown5; have HOW5 := hidden hown5; have HON5 := hidden hon5; have HRY := hidden (HS9.out.keepRow hon5 HS9.out.row (by decide)); have HBY := hidden (HS9.out.keepRow hon5 HB9.out (by decide)); clear hown5 hon5)
        | (refine wpList_store_c rfl 42 _ _ rfl (by kernel_rfl) w1.heap.size 0 rfl (.slice PA PN PC) rfl rfl _ _ HRY.out (by simp) ?_; intro W6 hr6 ho6; have HS6 := hidden (HS9.out.push HO9.out HOW5.out HON5.out ho6 hr6); have HB6 := hidden (ho6.row HBY.out (by have := HNW.out; omega)); clear hr6 ho6))
      go_roundw
      case rel => exact ⟨k + 1, _, _, HK1.out, by go_num, by rw [HTK.out]; exact HS6.out, HB6.out⟩
      case measure => simpa [intOf] using hmm
    · have hke : k = m := by omega
      have hd : decide (k < m) = false := by simpa using hlt
      have HTK := hidden (show cs.take k = cs by rw [hke, ← HM.out, List.take_length])
      rw [HTK.out] at HS
      clear hke hlt hk
      go_wp2_with (first
        | (refine wpList_load_bat rfl _ rfl w1.heap.size rfl _ _ _ _ HS.out.row ?_)
        | (refine wpList_store_bat rfl _ _ rfl (w.heap.size + 1) rfl _ _ _ _ rfl HS.out.ones HS.out.res ?_; intro W4 hr4 ho4; have HR4 := hidden hr4; have HE4 := hidden (HS.out.result HG1.out ho4 (by omega)); clear hr4 ho4))
      exact bodyPost_ret (results_batP rfl _ _ _ _ _ _ _ rfl HR4.out) rfl ⟨_, rfl, HE4.out.1.isB _, HE4.out.2⟩
end Go.Proofs.Ytfjhahhkakfhmaa
/-
  Shaken: what the claims of this seat need of this text. No condition.
-/
namespace Go.Proofs.Ytfjhahhkakfhmaa
open Go.RowKit
set_option linter.unusedVariables false
set_option linter.unusedSimpArgs false
def ValsV (l : List Val) : Value → World → Prop := fun u w => ReadsV w u l
theorem ValsV.lasts {l : List Val} : ∀ v w w', ValsV l v w → Grows w w' → ValsV l v w' := fun _ _ _ h hg => ReadsV.grow h hg
def IsVv (v : Vec) : Value → World → Prop := fun x w => IsV w x v
theorem IsVv.lasts {v : Vec} : ∀ x w w', IsVv v x w → Grows w w' → IsVv v x w' := fun _ _ _ h hg => IsV.grow h hg
theorem fromV_len (T : Int) (l : List Val) : (fromV T l).ns.length ≤ l.length := by
  unfold fromV
  split
  · split
    · rw [(buildV_len T l).1]; exact Nat.le_refl _
    · exact Nat.zero_le _
  · exact Nat.zero_le _
theorem fromV_fit {T : Int} {l : List Val} (h : l.length ≤ 1000000000) : FitLen (fromV T l) := by
  unfold fromV
  split
  · split
    · exact buildV_fit T l h
    · exact ⟨Nat.zero_le _, Nat.zero_le _, Nat.zero_le _⟩
  · exact ⟨Nat.zero_le _, Nat.zero_le _, Nat.zero_le _⟩
set_option maxRecDepth 20000 in
set_option maxHeartbeats 8000000 in
theorem law_from17 (K : Pack) (T i : Int) (u : Value) (l : List Val) (w : World) (hu : ReadsV w u l) (hl : l.length ≤ 140737488355328) (hT : frIn T) (hi : frIn i) :
    Calls Try.prog 3 #[.int .i64 T, u, .int .i64 i] w fun e w' => e = .returned (.bool true) ∧ Grows w w' := by
  have HAW := hidden (fun W => awake17_any K W)
  have HK := hidden K
  have HU := hidden hu
  have HSM := hidden (small17_any u l w hu hl)
  obtain ⟨A, c, rfl, _, _⟩ := id hu
  obtain ⟨sm, hsm⟩ : ∃ b, smallL l = b := ⟨_, rfl⟩
  rw [hsm] at HSM
  cases sm
  · clear hu hl hT hi hsm K
    go_enter Try.func3, Try.ntmps3
    go_wp2_with (first | (go_at_call 9; refine HSM.out.mono ?_; rintro e w1 ⟨rfl, g1⟩; have HG1 := hidden g1; clear g1) | (go_at_call 10; refine (HAW.out _).mono ?_; rintro e w9 ⟨rfl, g9⟩; have HG9 := hidden (HG1.out.of_below g9); clear g9))
    go_ret
    exact ⟨rfl, HG9.out⟩
  have hlv : l.length ≤ 200 ∧ validL l = true := by
    unfold smallL at hsm
    simpa using hsm
  have HLV := hidden hlv
  have HTI := hidden (And.intro hT hi)
  clear hu hl hT hi hsm K hlv
  go_enter Try.func3, Try.ntmps3
  go_wp2_with (first | (go_at_call 9; refine HSM.out.mono ?_; rintro e w1 ⟨rfl, g1⟩; have HG1 := hidden g1; clear g1))
  refine (HK.out.from_ _ l T w1 (HU.out.grow HG1.out) (by have := HLV.out.1; omega) HLV.out.2 HTI.out.1).mono ?_
  rintro e w2 ⟨x2, rfl, hx2, g2⟩
  have HVD := hidden (fromV_valid (T := T) HLV.out.2)
  have HVN := hidden (show (fromV T l).ns.length ≤ 200 from Nat.le_trans (fromV_len T l) HLV.out.1)
  have HVF := hidden (fromV_fit (T := T) (l := l) (by have := HLV.out.1; omega))
  have HFR := hidden (fun W (h : Grows w W) => rfrom_any _ l T W (HU.out.grow h) (by have := HLV.out.1; omega))
  generalize fromV T l = v at *
  generalize fromE T l = ec at *
  obtain ⟨Pp, Pq, Pr, rfl, j1, j2, j3⟩ := id hx2
  obtain ⟨P1, m1, rfl⟩ := j1.slice_
  obtain ⟨P2, m2, rfl⟩ := j2.slice_
  obtain ⟨P3, m3, rfl⟩ := j3.slice_
  have HX2 := hidden hx2
  have HG2 := hidden (HG1.out.of_below g2)
  clear g2 hx2 j1 j2 j3
  go_wp2_with (first
    | (refine wpList_store_vc rfl _ _ rfl w2.heap.size rfl _ _ _ _ rfl (all4 rfl rfl rfl rfl) (Row.new w2 29 #[.int .i64 0, .slice none 0 0, .slice none 0 0, .slice none 0 0] [.int .i64 0, .slice none 0 0, .slice none 0 0, .slice none 0 0] rfl) ?_; intro W3 hR hO; have HR3 := hidden hR; have HG3 := hidden (HG2.out.of_below hO.grows_old); have HX3 := hidden (HX2.out.grow hO.grows_old); clear hR hO))
  refine (HFR.out W3 HG3.out).mono ?_
  rintro e w4 ⟨x4, rfl, ho4, g4⟩
  have hx4 := ho4.isV
  obtain ⟨Qp, Qq, Qr, rfl, j1, j2, j3⟩ := id hx4
  obtain ⟨Q1, n1, rfl⟩ := j1.slice_
  obtain ⟨Q2, n2, rfl⟩ := j2.slice_
  obtain ⟨Q3, n3, rfl⟩ := j3.slice_
  have HX4 := hidden hx4
  have HY4 := hidden (HX3.out.grow g4)
  have HR4 := hidden (HR3.out.grow g4)
  have HG4 := hidden (HG3.out.of_below g4)
  clear g4 hx4 ho4 j1 j2 j3
  go_wp2_with (first
    | (refine wpList_store_vc rfl _ _ rfl w4.heap.size rfl _ _ _ _ rfl (all4 rfl rfl rfl rfl) (Row.new w4 29 #[.int .i64 0, .slice none 0 0, .slice none 0 0, .slice none 0 0] [.int .i64 0, .slice none 0 0, .slice none 0 0, .slice none 0 0] rfl) ?_; intro W5 hR hO; have HS5 := hidden hR; have HG5 := hidden (HG4.out.of_below hO.grows_old); have HX5 := hidden (HX4.out.grow hO.grows_old); have HY5 := hidden (HY4.out.grow hO.grows_old); have HR5 := hidden (hO.row (HR4.out.grow (grow1 _)) (by have := HR4.out.lt; omega)); clear hR hO))
  have HX := hidden (fun X (h : Grows W5 X) => (⟨(HR5.out.grow h).cell 0, (HR5.out.grow h).cell 1, (HR5.out.grow h).cell 2, (HR5.out.grow h).cell 3, (HS5.out.grow h).cell 0, (HS5.out.grow h).cell 1, (HS5.out.grow h).cell 2, (HS5.out.grow h).cell 3⟩ : X.cell? ⟨w2.heap.size, 0, none⟩ = some (.int .i64 v.T) ∧ X.cell? ⟨w2.heap.size, 1, none⟩ = some (.slice P1 v.is.length m1) ∧ X.cell? ⟨w2.heap.size, 2, none⟩ = some (.slice P2 v.ts.length m2) ∧ X.cell? ⟨w2.heap.size, 3, none⟩ = some (.slice P3 v.ns.length m3) ∧ X.cell? ⟨w4.heap.size, 0, none⟩ = some (.int .i64 v.T) ∧ X.cell? ⟨w4.heap.size, 1, none⟩ = some (.slice Q1 v.is.length n1) ∧ X.cell? ⟨w4.heap.size, 2, none⟩ = some (.slice Q2 v.ts.length n2) ∧ X.cell? ⟨w4.heap.size, 3, none⟩ = some (.slice Q3 v.ns.length n3)))
  have HC1 := hidden (fun W (h : Grows W5 W) => const_loose (rEqual17_self _ _ v W (HY5.out.grow h) (HX5.out.grow h) HVF.out))
  have HC2 := hidden (fun W (h : Grows W5 W) => const_loose (HK.out.at_ _ v i W (HX5.out.grow h) HVD.out (by have := HVN.out; omega) HTI.out.2))
  have HC3 := hidden (fun W (h : Grows W5 W) => const_loose (rat17_any _ v i W (HX5.out.grow h) (by have := HVN.out; omega) (okAt_of_valid HVD.out)))
  have HC4 : Hid (∀ W, Grows W5 W → Calls Try.prog 17 #[.agg #[.int .i64 v.T, .slice Q1 v.is.length n1, .slice Q2 v.ts.length n2, .slice Q3 v.ns.length n3]] W fun e w' => ∃ u, e = .returned u ∧ Grows W w' ∧ ValsV (valsW v) u w') := hidden fun W h => (HK.out.values _ v W (HX5.out.grow h) HVD.out (by have := HVN.out; omega)).mono fun e w' ⟨u, he, hr, hg⟩ => ⟨u, he, hg, hr⟩
  have HC5 : Hid (∀ W, Grows W5 W → Calls Try.prog 18 #[.agg #[.int .i64 v.T, .slice Q1 v.is.length n1, .slice Q2 v.ts.length n2, .slice Q3 v.ns.length n3]] W fun e w' => ∃ u, e = .returned u ∧ Grows W w' ∧ ValsV (valsW v) u w') := hidden fun W h => (rvalues17_any _ v W (HX5.out.grow h) (okAt_of_valid HVD.out) (by have := HVN.out; omega)).mono fun e w' ⟨u, he, ho, hg⟩ => ⟨u, he, hg, ReadsV.of_own ho⟩
  have HC6 := hidden (fun (a b : Value) W (h1 : ReadsV W a (valsW v)) (h2 : ReadsV W b (valsW v)) => const_loose (sameValues_self a b (valsW v) W h1 h2 (by have := HVN.out; simp [valsW]; omega)))
  have HC7 := hidden (fun W => const_loose (HAW.out W))
  obtain ⟨⟨yk, yn, yt⟩, hy⟩ : ∃ y, y = atI v i := ⟨_, rfl⟩
  rw [← hy] at HC2 HC3
  have HYE := hidden hy
  clear hy
  refine wp_region_loose (tabRs [(6, ConstV (.bool true)), (11, ConstV (.agg #[.int .i64 yk, .int .i64 yn, .string yt])), (14, ConstV (.agg #[.int .i64 yk, .int .i64 yn, .string yt])), (19, ValsV (valsW v)), (21, ValsV (valsW v)), (22, ConstV (.bool true)), (25, ConstV (.bool true))]) (by kernel_rfl) (by kernel_rfl) (tabRs_cons ConstV.lasts (tabRs_cons ConstV.lasts (tabRs_cons ConstV.lasts (tabRs_cons ValsV.lasts (tabRs_cons ValsV.lasts (tabRs_cons ConstV.lasts (tabRs_cons ConstV.lasts tabRs_nil))))))) ?_
  iterate 6 ((with_reducible refine loose_one (v := ?_) (a' := ?_) ?_ ?_ (fun w' hC' hG' => ?_) ?_ ?_); rotate_left 2; (focus rfl); (focus rfl); (focus (obtain ⟨x0, x1, x2, x3, y0, y1, y2, y3⟩ := HX.out w' hC'; clear hC' hG'; go_simp; rfl)); (focus (go_simp; rfl)))
  refine loose_call (R := ConstV (.bool true)) (f := 13) (args := #[.agg #[.int .i64 v.T, .slice P1 v.is.length m1, .slice P2 v.ts.length m2, .slice P3 v.ns.length m3], .agg #[.int .i64 v.T, .slice Q1 v.is.length n1, .slice Q2 v.ts.length n2, .slice Q3 v.ns.length n3]]) (by rfl) (by rfl) (fun _ => by go_simp) (fun w' hC' hG' => HC1.out w' hC') ?_
  rintro _ ⟨_, _, rfl⟩
  refine ⟨?_, ?_, ?_⟩
  rotate_left
  · go_simp
    rfl
  iterate 4 ((with_reducible refine loose_one (v := ?_) (a' := ?_) ?_ ?_ (fun w' hC' hG' => ?_) ?_ ?_); rotate_left 2; (focus rfl); (focus rfl); (focus (obtain ⟨x0, x1, x2, x3, y0, y1, y2, y3⟩ := HX.out w' hC'; clear hC' hG'; go_simp; rfl)); (focus (go_simp; rfl)))
  refine loose_call (R := ConstV (.agg #[.int .i64 yk, .int .i64 yn, .string yt])) (f := 14) (args := #[.agg #[.int .i64 v.T, .slice Q1 v.is.length n1, .slice Q2 v.ts.length n2, .slice Q3 v.ns.length n3], .int .i64 i]) (by rfl) (by rfl) (fun _ => by go_simp) (fun w' hC' hG' => HC2.out w' hC') ?_
  rintro _ ⟨_, _, rfl⟩
  refine ⟨?_, ?_, ?_⟩
  rotate_left
  · go_simp
    rfl
  iterate 2 ((with_reducible refine loose_one (v := ?_) (a' := ?_) ?_ ?_ (fun w' hC' hG' => ?_) ?_ ?_); rotate_left 2; (focus rfl); (focus rfl); (focus (obtain ⟨x0, x1, x2, x3, y0, y1, y2, y3⟩ := HX.out w' hC'; clear hC' hG'; go_simp; rfl)); (focus (go_simp; rfl)))
  refine loose_call (R := ConstV (.agg #[.int .i64 yk, .int .i64 yn, .string yt])) (f := 15) (args := #[.agg #[.int .i64 v.T, .slice Q1 v.is.length n1, .slice Q2 v.ts.length n2, .slice Q3 v.ns.length n3], .int .i64 i]) (by rfl) (by rfl) (fun _ => by go_simp) (fun w' hC' hG' => HC3.out w' hC') ?_
  rintro _ ⟨_, _, rfl⟩
  refine ⟨?_, ?_, ?_⟩
  rotate_left
  · go_simp
    rfl
  iterate 4 ((with_reducible refine loose_one (v := ?_) (a' := ?_) ?_ ?_ (fun w' hC' hG' => ?_) ?_ ?_); rotate_left 2; (focus rfl); (focus rfl); (focus (obtain ⟨x0, x1, x2, x3, y0, y1, y2, y3⟩ := HX.out w' hC'; clear hC' hG'; go_simp; rfl)); (focus (go_simp; rfl)))
  refine loose_call (R := ValsV (valsW v)) (f := 17) (args := #[.agg #[.int .i64 v.T, .slice Q1 v.is.length n1, .slice Q2 v.ts.length n2, .slice Q3 v.ns.length n3]]) (by rfl) (by rfl) (fun _ => by go_simp) (fun w' hC' hG' => HC4.out w' hC') ?_
  rintro u19 ⟨_, _, _⟩
  refine ⟨?_, ?_, ?_⟩
  rotate_left
  · go_simp
    rfl
  iterate 1 ((with_reducible refine loose_one (v := ?_) (a' := ?_) ?_ ?_ (fun w' hC' hG' => ?_) ?_ ?_); rotate_left 2; (focus rfl); (focus rfl); (focus (obtain ⟨x0, x1, x2, x3, y0, y1, y2, y3⟩ := HX.out w' hC'; clear hC' hG'; go_simp; rfl)); (focus (go_simp; rfl)))
  refine loose_call (R := ValsV (valsW v)) (f := 18) (args := #[.agg #[.int .i64 v.T, .slice Q1 v.is.length n1, .slice Q2 v.ts.length n2, .slice Q3 v.ns.length n3]]) (by rfl) (by rfl) (fun _ => by go_simp) (fun w' hC' hG' => HC5.out w' hC') ?_
  rintro u21 ⟨_, _, _⟩
  refine ⟨?_, ?_, ?_⟩
  rotate_left
  · go_simp
    rfl
  refine loose_call (R := ConstV (.bool true)) (f := 16) (args := #[u19, u21]) (by rfl) (by rfl) (fun _ => by go_simp) (fun w' hC' hG' => HC6.out u19 u21 w' ((hG' 19 (by kernel_rfl)).1.2 rfl) ((hG' 21 (by kernel_rfl)).2 rfl)) ?_
  rintro _ ⟨_, _, rfl⟩
  refine ⟨?_, ?_, ?_⟩
  rotate_left
  · go_simp
    rfl
  iterate 2 ((with_reducible refine loose_one (v := ?_) (a' := ?_) ?_ ?_ (fun w' hC' hG' => ?_) ?_ ?_); rotate_left 2; (focus rfl); (focus rfl); (focus (obtain ⟨x0, x1, x2, x3, y0, y1, y2, y3⟩ := HX.out w' hC'; clear hC' hG'; go_simp; rfl)); (focus (go_simp; rfl)))
  refine loose_call (R := ConstV (.bool true)) (f := 10) (args := #[]) (by rfl) (by rfl) (fun _ => by go_simp) (fun w' hC' hG' => HC7.out w') ?_
  rintro _ ⟨_, _, rfl⟩
  refine ⟨?_, ?_, ?_⟩
  rotate_left
  · go_simp
    rfl
  iterate 2 ((with_reducible refine loose_one (v := ?_) (a' := ?_) ?_ ?_ (fun w' hC' hG' => ?_) ?_ ?_); rotate_left 2; (focus rfl); (focus rfl); (focus (obtain ⟨x0, x1, x2, x3, y0, y1, y2, y3⟩ := HX.out w' hC'; clear hC' hG'; go_simp; rfl)); (focus (go_simp; rfl)))
  refine loose_done (fun w9 hC' hG' => ?_)
  have HG9 := hidden (HG5.out.of_below hC')
  clear hC' hG'
  go_wp2_with fail
  go_ret
  exact ⟨rfl, HG9.out⟩
end Go.Proofs.Ytfjhahhkakfhmaa
/-
  Shaken: what the claims of this seat need of this text. No condition.
-/
namespace Go.Proofs.Ytfjhahhkakfhmaa
open Go.RowKit
set_option linter.unusedVariables false
set_option linter.unusedSimpArgs false
theorem gatherV_len (v : Vec) (l : List Int) : (gatherV v l).ns.length = l.length := by unfold gatherV; rw [(buildV_len _ _).1, List.length_map]
theorem gatherV_fit (v : Vec) (l : List Int) (h : l.length ≤ 1000000000) : FitLen (gatherV v l) := buildV_fit _ _ (by rw [List.length_map]; exact h)
theorem constVec_fit (T : Int) (y : Val) (n : Int) (h : n ≤ 1000000) : FitLen (constVec T y n) := buildV_fit _ _ (by rw [List.length_replicate]; omega)
set_option maxRecDepth 20000 in
set_option maxHeartbeats 8000000 in
theorem law_gather17 (K : Pack) (x : Value) (v : Vec) (u : Value) (l : List Int) (T : Int) (y : Val) (n : Int) (w : World) (hx : IsV w x v) (hf : FitArg v) (hvT : frIn v.T) (hu : IsI w u l) (hl : l.length ≤ 140737488355328) (hli : ∀ i ∈ l, frIn i) (hT : frIn T) (hn : frIn n) :
    Calls Try.prog 5 #[x, u, .int .i64 T, vV y, .int .i64 n] w fun e w' => e = .returned (.bool true) ∧ Grows w w' := by
  have HAW := hidden (fun W => awake17_any K W)
  have HK := hidden K
  have HXV := hidden hx
  have HU := hidden hu
  have HRV := hidden (fun W (h : Grows w W) => rvalid17_any x v W (hx.grow h) hf)
  have HYV := hidden (fun W => rvvalid_any y.k y.n y.t W)
  obtain ⟨A, c, rfl⟩ := hu.slice_
  obtain ⟨Pp, Pq, Pr, rfl, j1, j2, j3⟩ := id hx
  obtain ⟨P1, m1, rfl⟩ := j1.slice_
  obtain ⟨P2, m2, rfl⟩ := j2.slice_
  obtain ⟨P3, m3, rfl⟩ := j3.slice_
  have HA := hidden (And.intro hvT (And.intro hli (And.intro hT hn)))
  obtain ⟨W0, hW0⟩ : ∃ W, W = (w.alloc (.cells #[.int .i64 v.T, .slice P1 v.is.length m1, .slice P2 v.ts.length m2, .slice P3 v.ns.length m3] 29)).alloc (.cells #[.int .i64 y.k, .int .i64 y.n, .string y.t] 37) := ⟨_, rfl⟩
  have HG0 := hidden (show Grows w W0 by rw [hW0]; exact (grow1 _).of_below (grow1 _))
  have HR0 := hidden (show Row W0 w.heap.size 29 [.int .i64 v.T, .slice P1 v.is.length m1, .slice P2 v.ts.length m2, .slice P3 v.ns.length m3] by rw [hW0]; exact (Row.new w _ _ _ rfl).grow (grow1 _))
  have HS0 := hidden (show Row W0 (w.heap.size + 1) 37 [.int .i64 y.k, .int .i64 y.n, .string y.t] by rw [hW0]; exact Row.at_ _ _ _ _ rfl _ (by simp))
  have HW0 := hidden hW0
  have HCL := hidden (fun X (h : Grows W0 X) => (⟨(HR0.out.grow h).cell 0, (HR0.out.grow h).cell 1, (HR0.out.grow h).cell 2, (HR0.out.grow h).cell 3, (HS0.out.grow h).cell 0, (HS0.out.grow h).cell 1, (HS0.out.grow h).cell 2⟩ : X.cell? ⟨w.heap.size, 0, none⟩ = some (.int .i64 v.T) ∧ X.cell? ⟨w.heap.size, 1, none⟩ = some (.slice P1 v.is.length m1) ∧ X.cell? ⟨w.heap.size, 2, none⟩ = some (.slice P2 v.ts.length m2) ∧ X.cell? ⟨w.heap.size, 3, none⟩ = some (.slice P3 v.ns.length m3) ∧ X.cell? ⟨w.heap.size + 1, 0, none⟩ = some (.int .i64 y.k) ∧ X.cell? ⟨w.heap.size + 1, 1, none⟩ = some (.int .i64 y.n) ∧ X.cell? ⟨w.heap.size + 1, 2, none⟩ = some (.string y.t)))
  obtain ⟨x0, x1, x2, x3, y0, y1, y2⟩ := HCL.out W0 (Below.refl _ _)
  rw [hW0] at x0 x1 x2 x3 y0 y1 y2
  obtain ⟨vb, hvb⟩ : ∃ b, validVB v = b := ⟨_, rfl⟩
  rw [hvb] at HRV
  have HVB := hidden hvb
  obtain ⟨yb, hyb⟩ : ∃ b, validV y.k y.n y.t = b := ⟨_, rfl⟩
  rw [hyb] at HYV
  have HYB := hidden hyb
  clear hvb hyb hx hu hvT hli hT hn j1 j2 j3 K hW0
  by_cases q1 : 200 < v.ns.length
  · have d1 : decide (200 < v.ns.length) = true := by simpa using q1
    have e1 : decide ((200 : Int) < (v.ns.length : Int)) = true := by simp; omega
    clear q1
    go_enter Try.func5, Try.ntmps5
    go_wp2_with (first | (go_at_call 10; refine (HAW.out _).mono ?_; rintro e w9 ⟨rfl, g9⟩; have HG9 := hidden (show Grows w w9 from (show Grows w _ by rw [← HW0.out]; exact HG0.out).of_below g9); clear g9))
    go_ret
    exact ⟨rfl, HG9.out⟩
  have d1 : decide (200 < v.ns.length) = false := by simpa using q1
  have e1 : decide ((200 : Int) < (v.ns.length : Int)) = false := by simp; omega
  by_cases q2 : 200 < l.length
  · have d2 : decide (200 < l.length) = true := by simpa using q2
    have e2 : decide ((200 : Int) < (l.length : Int)) = true := by simp; omega
    clear q2
    go_enter Try.func5, Try.ntmps5
    go_wp2_with (first | (go_at_call 10; refine (HAW.out _).mono ?_; rintro e w9 ⟨rfl, g9⟩; have HG9 := hidden (show Grows w w9 from (show Grows w _ by rw [← HW0.out]; exact HG0.out).of_below g9); clear g9))
    go_ret
    exact ⟨rfl, HG9.out⟩
  have d2 : decide (200 < l.length) = false := by simpa using q2
  have e2 : decide ((200 : Int) < (l.length : Int)) = false := by simp; omega
  by_cases q3 : 200 < n
  · have d3 : decide (200 < n) = true := by simpa using q3
    clear q3
    go_enter Try.func5, Try.ntmps5
    go_wp2_with (first | (go_at_call 10; refine (HAW.out _).mono ?_; rintro e w9 ⟨rfl, g9⟩; have HG9 := hidden (show Grows w w9 from (show Grows w _ by rw [← HW0.out]; exact HG0.out).of_below g9); clear g9))
    go_ret
    exact ⟨rfl, HG9.out⟩
  have d3 : decide (200 < n) = false := by simpa using q3
  have HQ := hidden (show v.ns.length ≤ 200 ∧ l.length ≤ 200 ∧ n ≤ 200 by omega)
  clear q1 q2 q3
  cases vb
  · go_enter Try.func5, Try.ntmps5
    go_wp2_with (first | (go_at_call 20; rw [← HW0.out]; refine (HRV.out _ HG0.out).mono ?_; rintro e w1 ⟨rfl, g1⟩; have HG1 := hidden g1; clear x0 x1 x2 x3 y0 y1 y2; obtain ⟨x0, x1, x2, x3, y0, y1, y2⟩ := HCL.out w1 g1; clear g1) | (go_at_call 10; refine (HAW.out _).mono ?_; rintro e w9 ⟨rfl, g9⟩; have HG9 := hidden (show Grows w w9 from (HG0.out.of_below HG1.out).of_below g9); clear g9))
    go_ret
    exact ⟨rfl, HG9.out⟩
  cases yb
  · go_enter Try.func5, Try.ntmps5
    go_wp2_with (first | (go_at_call 20; rw [← HW0.out]; refine (HRV.out _ HG0.out).mono ?_; rintro e w1 ⟨rfl, g1⟩; have HG1 := hidden g1; clear x0 x1 x2 x3 y0 y1 y2; obtain ⟨x0, x1, x2, x3, y0, y1, y2⟩ := HCL.out w1 g1; clear g1) | (go_at_call 23; refine (HYV.out _).mono ?_; rintro e w3 ⟨rfl, g3⟩; have HG3 := hidden (HG1.out.of_below g3); clear x0 x1 x2 x3 y0 y1 y2; obtain ⟨x0, x1, x2, x3, y0, y1, y2⟩ := HCL.out w3 HG3.out; clear g3) | (go_at_call 10; refine (HAW.out _).mono ?_; rintro e w9 ⟨rfl, g9⟩; have HG9 := hidden (show Grows w w9 from (HG0.out.of_below HG3.out).of_below g9); clear g9))
    go_ret
    exact ⟨rfl, HG9.out⟩
  go_enter Try.func5, Try.ntmps5
  go_wp2_with (first | (go_at_call 20; rw [← HW0.out]; refine (HRV.out _ HG0.out).mono ?_; rintro e w1 ⟨rfl, g1⟩; have HG1 := hidden g1; clear x0 x1 x2 x3 y0 y1 y2; obtain ⟨x0, x1, x2, x3, y0, y1, y2⟩ := HCL.out w1 g1; clear g1) | (go_at_call 23; refine (HYV.out _).mono ?_; rintro e w3 ⟨rfl, g3⟩; have HG3 := hidden (HG1.out.of_below g3); clear x0 x1 x2 x3 y0 y1 y2; obtain ⟨x0, x1, x2, x3, y0, y1, y2⟩ := HCL.out w3 HG3.out; clear g3) )
  clear x0 x1 x2 x3 y0 y1 y2
  have HGW := hidden (HG0.out.of_below HG3.out)
  have HX := hidden (fun X (h : Grows w3 X) => HCL.out X (HG3.out.of_below h))
  have HC1 : Hid (∀ W, Grows w3 W → Calls Try.prog 24 #[.agg #[.int .i64 v.T, .slice P1 v.is.length m1, .slice P2 v.ts.length m2, .slice P3 v.ns.length m3], .slice A l.length c] W fun e w' => ∃ u, e = .returned u ∧ Grows W w' ∧ IsVv (gatherV v l) u w') := hidden fun W h => (HK.out.gather _ v _ l W (HXV.out.grow (HGW.out.of_below h)) HVB.out (by have := HQ.out; omega) (HU.out.grow (HGW.out.of_below h)) (by have := HQ.out; omega) HA.out.2.1).mono fun e w' ⟨u, he, hr, hg⟩ => ⟨u, he, hg, hr⟩
  have HC2 : Hid (∀ W, Grows w3 W → Calls Try.prog 25 #[.agg #[.int .i64 v.T, .slice P1 v.is.length m1, .slice P2 v.ts.length m2, .slice P3 v.ns.length m3], .slice A l.length c] W fun e w' => ∃ u, e = .returned u ∧ Grows W w' ∧ IsVv (gatherV v l) u w') := hidden fun W h => (rgather_any _ v _ l W (HXV.out.grow (HGW.out.of_below h)) (okAt_of_valid HVB.out) (by have := HQ.out; omega) (HU.out.grow (HGW.out.of_below h)) (by have := HQ.out; omega)).mono fun e w' ⟨u, he, ho, hg⟩ => ⟨u, he, hg, ho.isV⟩
  have HC3 := hidden (fun (a b : Value) (g : Vec) W (h1 : IsV W a g) (h2 : IsV W b g) (h3 : FitLen g) => const_loose (rEqual17_self a b g W h1 h2 h3))
  have HC4 : Hid (∀ W, Calls Try.prog 26 #[.int .i64 T, .agg #[.int .i64 y.k, .int .i64 y.n, .string y.t], .int .i64 n] W fun e w' => ∃ u, e = .returned u ∧ Grows W w' ∧ IsVv (constVec T y n) u w') := hidden fun W => (HK.out.const T y n W HYB.out HA.out.2.2.1 HA.out.2.2.2.1 (by have := HQ.out; omega)).mono fun e w' ⟨u, he, hr, hg⟩ => ⟨u, he, hg, hr⟩
  have HC5 : Hid (∀ W, Calls Try.prog 27 #[.int .i64 T, .agg #[.int .i64 y.k, .int .i64 y.n, .string y.t], .int .i64 n] W fun e w' => ∃ u, e = .returned u ∧ Grows W w' ∧ IsVv (constVec T y n) u w') := hidden fun W => (rconst_any T y n W (by have := HQ.out; omega) HA.out.2.2.2.1).mono fun e w' ⟨u, he, ho, hg⟩ => ⟨u, he, hg, ho.isV⟩
  have HF1 := hidden (gatherV_fit v l (by have := HQ.out; omega))
  have HF2 := hidden (constVec_fit T y n (by have := HQ.out; omega))
  have HC7 := hidden (fun W => const_loose (HAW.out W))
  generalize gatherV v l = gv at *
  generalize constVec T y n = cv at *
  refine wp_region_loose (tabRs [(2, IsVv gv), (5, IsVv gv), (6, ConstV (.bool true)), (11, IsVv cv), (15, IsVv cv), (16, ConstV (.bool true)), (19, ConstV (.bool true))]) (by kernel_rfl) (by kernel_rfl) (tabRs_cons IsVv.lasts (tabRs_cons IsVv.lasts (tabRs_cons ConstV.lasts (tabRs_cons IsVv.lasts (tabRs_cons IsVv.lasts (tabRs_cons ConstV.lasts (tabRs_cons ConstV.lasts tabRs_nil))))))) ?_
  iterate 2 ((with_reducible refine loose_one (v := ?_) (a' := ?_) ?_ ?_ (fun w' hC' hG' => ?_) ?_ ?_); rotate_left 2; (focus rfl); (focus rfl); (focus (obtain ⟨x0, x1, x2, x3, y0, y1, y2⟩ := HX.out w' hC'; clear hC' hG'; go_simp; rfl)); (focus (go_simp; rfl)))
  refine loose_call (R := IsVv gv) (f := 24) (args := #[.agg #[.int .i64 v.T, .slice P1 v.is.length m1, .slice P2 v.ts.length m2, .slice P3 v.ns.length m3], .slice A l.length c]) (by rfl) (by rfl) (fun _ => by go_simp) (fun w' hC' hG' => HC1.out w' hC') ?_
  rintro u2 ⟨_, _, _⟩
  refine ⟨?_, ?_, ?_⟩
  rotate_left
  · go_simp
    rfl
  iterate 2 ((with_reducible refine loose_one (v := ?_) (a' := ?_) ?_ ?_ (fun w' hC' hG' => ?_) ?_ ?_); rotate_left 2; (focus rfl); (focus rfl); (focus (obtain ⟨x0, x1, x2, x3, y0, y1, y2⟩ := HX.out w' hC'; clear hC' hG'; go_simp; rfl)); (focus (go_simp; rfl)))
  refine loose_call (R := IsVv gv) (f := 25) (args := #[.agg #[.int .i64 v.T, .slice P1 v.is.length m1, .slice P2 v.ts.length m2, .slice P3 v.ns.length m3], .slice A l.length c]) (by rfl) (by rfl) (fun _ => by go_simp) (fun w' hC' hG' => HC2.out w' hC') ?_
  rintro u5 ⟨_, _, _⟩
  refine ⟨?_, ?_, ?_⟩
  rotate_left
  · go_simp
    rfl
  refine loose_call (R := ConstV (.bool true)) (f := 13) (args := #[u2, u5]) (by rfl) (by rfl) (fun _ => by go_simp) (fun w' hC' hG' => HC3.out u2 u5 gv w' ((hG' 2 (by kernel_rfl)).1.2 rfl) ((hG' 5 (by kernel_rfl)).2 rfl) HF1.out) ?_
  rintro _ ⟨_, _, rfl⟩
  refine ⟨?_, ?_, ?_⟩
  rotate_left
  · go_simp
    rfl
  iterate 4 ((with_reducible refine loose_one (v := ?_) (a' := ?_) ?_ ?_ (fun w' hC' hG' => ?_) ?_ ?_); rotate_left 2; (focus rfl); (focus rfl); (focus (obtain ⟨x0, x1, x2, x3, y0, y1, y2⟩ := HX.out w' hC'; clear hC' hG'; go_simp; rfl)); (focus (go_simp; rfl)))
  refine loose_call (R := IsVv cv) (f := 26) (args := #[.int .i64 T, .agg #[.int .i64 y.k, .int .i64 y.n, .string y.t], .int .i64 n]) (by rfl) (by rfl) (fun _ => by go_simp) (fun w' hC' hG' => HC4.out w') ?_
  rintro u11 ⟨_, _, _⟩
  refine ⟨?_, ?_, ?_⟩
  rotate_left
  · go_simp
    rfl
  iterate 3 ((with_reducible refine loose_one (v := ?_) (a' := ?_) ?_ ?_ (fun w' hC' hG' => ?_) ?_ ?_); rotate_left 2; (focus rfl); (focus rfl); (focus (obtain ⟨x0, x1, x2, x3, y0, y1, y2⟩ := HX.out w' hC'; clear hC' hG'; go_simp; rfl)); (focus (go_simp; rfl)))
  refine loose_call (R := IsVv cv) (f := 27) (args := #[.int .i64 T, .agg #[.int .i64 y.k, .int .i64 y.n, .string y.t], .int .i64 n]) (by rfl) (by rfl) (fun _ => by go_simp) (fun w' hC' hG' => HC5.out w') ?_
  rintro u15 ⟨_, _, _⟩
  refine ⟨?_, ?_, ?_⟩
  rotate_left
  · go_simp
    rfl
  refine loose_call (R := ConstV (.bool true)) (f := 13) (args := #[u11, u15]) (by rfl) (by rfl) (fun _ => by go_simp) (fun w' hC' hG' => HC3.out u11 u15 cv w' ((hG' 11 (by kernel_rfl)).1.2 rfl) ((hG' 15 (by kernel_rfl)).2 rfl) HF2.out) ?_
  rintro _ ⟨_, _, rfl⟩
  refine ⟨?_, ?_, ?_⟩
  rotate_left
  · go_simp
    rfl
  iterate 2 ((with_reducible refine loose_one (v := ?_) (a' := ?_) ?_ ?_ (fun w' hC' hG' => ?_) ?_ ?_); rotate_left 2; (focus rfl); (focus rfl); (focus (obtain ⟨x0, x1, x2, x3, y0, y1, y2⟩ := HX.out w' hC'; clear hC' hG'; go_simp; rfl)); (focus (go_simp; rfl)))
  refine loose_call (R := ConstV (.bool true)) (f := 10) (args := #[]) (by rfl) (by rfl) (fun _ => by go_simp) (fun w' hC' hG' => HC7.out w') ?_
  rintro _ ⟨_, _, rfl⟩
  refine ⟨?_, ?_, ?_⟩
  rotate_left
  · go_simp
    rfl
  iterate 2 ((with_reducible refine loose_one (v := ?_) (a' := ?_) ?_ ?_ (fun w' hC' hG' => ?_) ?_ ?_); rotate_left 2; (focus rfl); (focus rfl); (focus (obtain ⟨x0, x1, x2, x3, y0, y1, y2⟩ := HX.out w' hC'; clear hC' hG'; go_simp; rfl)); (focus (go_simp; rfl)))
  refine loose_done (fun w9 hC' hG' => ?_)
  have HG9 := hidden (HGW.out.of_below hC')
  clear hC' hG'
  go_wp2_with fail
  go_ret
  exact ⟨rfl, HG9.out⟩
end Go.Proofs.Ytfjhahhkakfhmaa
/-
  Shaken: what the claims of this seat need of this text. No condition.
-/
namespace Go.Proofs.Ytfjhahhkakfhmaa
open Go.RowKit
set_option linter.unusedVariables false
set_option linter.unusedSimpArgs false
theorem catV_fit {l : List Vec} (h : l.length ≤ 1000) (hx : ∀ x ∈ l, x.ns.length ≤ 1000) : FitLen (catV l) := by
  have h0 : FitLen vec0 := ⟨Nat.zero_le _, Nat.zero_le _, Nat.zero_le _⟩
  unfold catV
  split
  · exact h0
  · split
    · refine buildV_fit _ _ ?_
      have h1 := flatMap_le (l := l) (m := 1000) hx
      have h2 : l.length * 1000 ≤ 1000 * 1000 := Nat.mul_le_mul_right _ h
      omega
    · exact h0
set_option maxRecDepth 20000 in
set_option maxHeartbeats 8000000 in
theorem law_concat17 (K : Pack) (u : Value) (l : List Vec) (w : World) (hu : IsVs w u l) (hl : l.length ≤ 140737488355328) (hf : ∀ x ∈ l, FitArg x) :
    Calls Try.prog 6 #[u] w fun e w' => e = .returned (.bool true) ∧ Grows w w' := by
  have HAW := hidden (fun W => awake17_any K W)
  have HK := hidden K
  have HU := hidden hu
  have HFA := hidden hf
  obtain ⟨A, c, rfl⟩ := hu.slice_
  obtain ⟨n, hn⟩ : ∃ n, l.length = n := ⟨_, rfl⟩
  rw [hn] at HU ⊢
  have HN := hidden hn
  have hlb : n ≤ 140737488355328 := by omega
  clear hn hu hf K hl
  by_cases q1 : 10 < n
  · have d1 : decide (10 < n) = true := by simpa using q1
    have e1 : decide ((10 : Int) < (n : Int)) = true := by simp; omega
    clear q1
    go_enter Try.func6, Try.ntmps6
    go_wp2_with (first | (go_at_call 10; refine (HAW.out _).mono ?_; rintro e w9 ⟨rfl, g9⟩; have HG9 := hidden (show Grows w w9 from (show Grows w w from Below.refl _ _).of_below g9); clear g9))
    go_ret
    exact ⟨rfl, HG9.out⟩
  have d1 : decide (10 < n) = false := by simpa using q1
  have e1 : decide ((10 : Int) < (n : Int)) = false := by simp; omega
  have HNB := hidden (show n ≤ 10 by omega)
  clear q1
  go_enter Try.func6, Try.ntmps6
  go_wp2_with fail
  go_loopw [15] (fun i wr => ∃ k : Nat, k ≤ n ∧ i = .int .i64 (k : Int) ∧ (∀ x ∈ l.take k, validVB x = true ∧ x.ns.length ≤ 100) ∧ Grows w wr) (fun i _ => n - (intOf i).toNat)
  case atStart => exact ⟨0, Nat.zero_le _, rfl, by simp, Below.refl _ _⟩
  case round =>
    obtain ⟨k, hk, rfl, hall, hb⟩ := hrel
    have HB := hidden hb
    have HALL := hidden hall
    clear hb hall
    by_cases hlt : k < n
    · have hd : decide (k < n) = true := by simpa using hlt
      have hk0 : (0 : Int) ≤ (k : Int) := by omega
      have hk1 : (k : Int) < (n : Int) := by omega
      have HLT := hidden hlt
      have hkl : k < l.length := by rw [HN.out]; exact hlt
      obtain ⟨b0, off, R1, k1, R2, k2, R3, k3, rfl, hcc⟩ := HU.out.at_ hkl
      have ey : ∃ v : Vec, (∀ W, Grows w W → W.cell? ⟨b0, off + k * 4, none⟩ = some (.int .i64 v.T) ∧ W.cell? ⟨b0, off + k * 4 + 1, none⟩ = some (.slice R1 v.is.length k1) ∧ W.cell? ⟨b0, off + k * 4 + 2, none⟩ = some (.slice R2 v.ts.length k2) ∧ W.cell? ⟨b0, off + k * 4 + 3, none⟩ = some (.slice R3 v.ns.length k3) ∧ IsV W (.agg #[.int .i64 v.T, .slice R1 v.is.length k1, .slice R2 v.ts.length k2, .slice R3 v.ns.length k3]) v) ∧ v ∈ l ∧ l.take (k + 1) = l.take k ++ [v] :=
        ⟨_, hcc, List.getElem_mem _, by rw [List.take_add_one, List.getElem?_eq_getElem hkl]; rfl⟩
      obtain ⟨v, hc, hmem, htk⟩ := ey
      have HTK := hidden htk
      have HIV := hidden (fun W (h : Grows w W) => (hc W h).2.2.2.2)
      have HRV := hidden (fun W (h : Grows w W) => rvalid17_any _ v W (hc W h).2.2.2.2 (HFA.out v hmem))
      obtain ⟨c0, c1, c2, c3, -⟩ := hc wr HB.out
      obtain ⟨vb, hvb⟩ : ∃ b, validVB v = b := ⟨_, rfl⟩
      rw [hvb] at HRV
      have HVB := hidden hvb
      clear hlt hkl hcc hc hmem htk hvb
      by_cases q2 : 100 < v.ns.length
      · have d2 : decide (100 < v.ns.length) = true := by simpa using q2
        have e2 : decide ((100 : Int) < (v.ns.length : Int)) = true := by simp; omega
        clear q2
        go_wp2_with (first
          | (refine wpList_store_vc rfl _ _ rfl wr.heap.size rfl _ _ _ _ rfl (all4 rfl rfl rfl rfl) (Row.new wr 29 #[.int .i64 0, .slice none 0 0, .slice none 0 0, .slice none 0 0] [.int .i64 0, .slice none 0 0, .slice none 0 0, .slice none 0 0] rfl) ?_; intro W1 hR hO; have HG1 := hidden (HB.out.of_below hO.grows_old); have r3 := hR.cell 3; have r1 := hR.cell 1; have r0 := hR.cell 0; have r2 := hR.cell 2; simp only [List.getElem?_cons_succ, List.getElem?_cons_zero] at r0 r1 r2 r3; clear hR hO c0 c1 c2 c3)
          | (go_at_call 10; refine (HAW.out _).mono ?_; rintro e w9 ⟨rfl, g9⟩; have HG9 := hidden (show Grows w w9 from HG1.out.of_below g9); clear g9))
        go_ret
        exact ⟨rfl, HG9.out⟩
      have d2 : decide (100 < v.ns.length) = false := by simpa using q2
      have e2 : decide ((100 : Int) < (v.ns.length : Int)) = false := by simp; omega
      have HQ2 := hidden (show v.ns.length ≤ 100 by omega)
      clear q2
      cases vb
      · go_wp2_with (first
          | (refine wpList_store_vc rfl _ _ rfl wr.heap.size rfl _ _ _ _ rfl (all4 rfl rfl rfl rfl) (Row.new wr 29 #[.int .i64 0, .slice none 0 0, .slice none 0 0, .slice none 0 0] [.int .i64 0, .slice none 0 0, .slice none 0 0, .slice none 0 0] rfl) ?_; intro W1 hR hO; have HG1 := hidden (HB.out.of_below hO.grows_old); have r3 := hR.cell 3; have r1 := hR.cell 1; have r0 := hR.cell 0; have r2 := hR.cell 2; simp only [List.getElem?_cons_succ, List.getElem?_cons_zero] at r0 r1 r2 r3; clear hR hO c0 c1 c2 c3)
          | (go_at_call 20; refine (HRV.out _ HG1.out).mono ?_; rintro e w3 ⟨rfl, g3⟩; have HG3 := hidden (HG1.out.of_below g3); clear g3 r0 r1 r2 r3)
          | (go_at_call 10; refine (HAW.out _).mono ?_; rintro e w9 ⟨rfl, g9⟩; have HG9 := hidden (show Grows w w9 from HG3.out.of_below g9); clear g9))
        go_ret
        exact ⟨rfl, HG9.out⟩
      · go_wp2_with (first
          | (refine wpList_store_vc rfl _ _ rfl wr.heap.size rfl _ _ _ _ rfl (all4 rfl rfl rfl rfl) (Row.new wr 29 #[.int .i64 0, .slice none 0 0, .slice none 0 0, .slice none 0 0] [.int .i64 0, .slice none 0 0, .slice none 0 0, .slice none 0 0] rfl) ?_; intro W1 hR hO; have HG1 := hidden (HB.out.of_below hO.grows_old); have r3 := hR.cell 3; have r1 := hR.cell 1; have r0 := hR.cell 0; have r2 := hR.cell 2; simp only [List.getElem?_cons_succ, List.getElem?_cons_zero] at r0 r1 r2 r3; clear hR hO c0 c1 c2 c3)
          | (go_at_call 20; refine (HRV.out _ HG1.out).mono ?_; rintro e w3 ⟨rfl, g3⟩; have HG3 := hidden (HG1.out.of_below g3); clear g3 r0 r1 r2 r3))
        go_roundw
        case rel => exact ⟨k + 1, HLT.out, by go_num, by rw [HTK.out]; intro x hx; rcases List.mem_append.1 hx with h | h; exact HALL.out x h; simp at h; rw [h]; exact ⟨HVB.out, HQ2.out⟩, HG3.out⟩
        case measure => have := HLT.out; simp [intOf]; omega
    · have hke : k = n := by omega
      have hd : decide (k < n) = false := by simpa using hlt
      have HOK := hidden (show ∀ x ∈ l, validVB x = true ∧ x.ns.length ≤ 100 by have := HALL.out; rwa [hke, ← HN.out, List.take_length] at this)
      have HFR := hidden (fun W (h : Grows w W) => rconcat_any _ l W (HU.out.grow h) (by have := HN.out; have := HNB.out; omega) (fun x hx => ⟨okAt_of_valid (HOK.out x hx).1, by have := (HOK.out x hx).2; omega⟩))
      have HPC := hidden (fun W (h : Grows w W) => HK.out.concat _ l W (HU.out.grow h) (by have := HN.out; have := HNB.out; omega) (fun x hx => ⟨(HOK.out x hx).1, by have := (HOK.out x hx).2; omega⟩))
      have HVF := hidden (catV_fit (l := l) (by have := HN.out; have := HNB.out; omega) (fun x hx => by have := (HOK.out x hx).2; omega))
      generalize catV l = v at *
      generalize catE l = ec at *
      clear hlt hke hk
      go_wp2_with fail
      refine (HPC.out wr HB.out).mono ?_
      rintro e w2 ⟨x2, rfl, hx2, g2⟩
      obtain ⟨Pp, Pq, Pr, rfl, j1, j2, j3⟩ := id hx2
      obtain ⟨P1, m1, rfl⟩ := j1.slice_
      obtain ⟨P2, m2, rfl⟩ := j2.slice_
      obtain ⟨P3, m3, rfl⟩ := j3.slice_
      have HX2 := hidden hx2
      have HG2 := hidden (HB.out.of_below g2)
      clear g2 hx2 j1 j2 j3
      go_wp2_with (first
        | (refine wpList_store_vc rfl _ _ rfl w2.heap.size rfl _ _ _ _ rfl (all4 rfl rfl rfl rfl) (Row.new w2 29 #[.int .i64 0, .slice none 0 0, .slice none 0 0, .slice none 0 0] [.int .i64 0, .slice none 0 0, .slice none 0 0, .slice none 0 0] rfl) ?_; intro W3 hR hO; have HR3 := hidden hR; have HG3 := hidden (HG2.out.of_below hO.grows_old); have HX3 := hidden (HX2.out.grow hO.grows_old); clear hR hO))
      refine (HFR.out W3 HG3.out).mono ?_
      rintro e w4 ⟨x4, rfl, ho4, g4⟩
      have hx4 := ho4.isV
      obtain ⟨Qp, Qq, Qr, rfl, j1, j2, j3⟩ := id hx4
      obtain ⟨Q1, nn1, rfl⟩ := j1.slice_
      obtain ⟨Q2, nn2, rfl⟩ := j2.slice_
      obtain ⟨Q3, nn3, rfl⟩ := j3.slice_
      have HX4 := hidden hx4
      have HY4 := hidden (HX3.out.grow g4)
      have HR4 := hidden (HR3.out.grow g4)
      have HG4 := hidden (HG3.out.of_below g4)
      clear g4 hx4 ho4 j1 j2 j3
      have HC1 := hidden (fun W (h1 : IsV W _ v) (h2 : IsV W _ v) => rEqual17_self (.agg #[.int .i64 v.T, .slice P1 v.is.length m1, .slice P2 v.ts.length m2, .slice P3 v.ns.length m3]) (.agg #[.int .i64 v.T, .slice Q1 v.is.length nn1, .slice Q2 v.ts.length nn2, .slice Q3 v.ns.length nn3]) v W h1 h2 HVF.out)
      go_wp2_with (first
        | (refine wpList_store_vc rfl _ _ rfl w4.heap.size rfl _ _ _ _ rfl (all4 rfl rfl rfl rfl) (Row.new w4 29 #[.int .i64 0, .slice none 0 0, .slice none 0 0, .slice none 0 0] [.int .i64 0, .slice none 0 0, .slice none 0 0, .slice none 0 0] rfl) ?_; intro W5 hR hO; have HS5 := hidden hR; have HG5 := hidden (HG4.out.of_below hO.grows_old); have HX5 := hidden (HX4.out.grow hO.grows_old); have HY5 := hidden (HY4.out.grow hO.grows_old); have HR5 := hidden (hO.row (HR4.out.grow (grow1 _)) (by have := HR4.out.lt; omega)); have x0 := HR5.out.cell 0; have x1 := HR5.out.cell 1; have x2 := HR5.out.cell 2; have x3 := HR5.out.cell 3; have y0 := HS5.out.cell 0; have y1 := HS5.out.cell 1; have y2 := HS5.out.cell 2; have y3 := HS5.out.cell 3; simp only [List.getElem?_cons_succ, List.getElem?_cons_zero] at x0 x1 x2 x3 y0 y1 y2 y3; clear hR hO)
        | (go_at_call 13; refine (HC1.out _ HY5.out HX5.out).mono ?_; rintro e w6 ⟨rfl, g6⟩; have HG6 := hidden (HG5.out.of_below g6); clear g6 x0 x1 x2 x3 y0 y1 y2 y3)
        | (go_at_call 10; refine (HAW.out _).mono ?_; rintro e w9 ⟨rfl, g9⟩; have HG9 := hidden (show Grows w w9 from HG6.out.of_below g9); clear g9))
      go_ret
      exact ⟨rfl, HG9.out⟩
end Go.Proofs.Ytfjhahhkakfhmaa
/-
  Shaken: what the claims of this seat need of this text. No condition.
-/
namespace Go.Proofs.Ytfjhahhkakfhmaa
open Go.RowKit
set_option linter.unusedVariables false
set_option linter.unusedSimpArgs false
def FitBA' (B : Bat) : Prop := B.cs.length ≤ 1000000000000000 ∧ B.sel.length ≤ 1000000000000000 ∧ ∀ v ∈ B.cs, FitArg v
set_option maxRecDepth 20000 in
set_option maxHeartbeats 8000000 in
theorem law_valid17 (K : Pack) (xv xb : Value) (v : Vec) (B : Bat) (w : World) (hx : IsV w xv v) (hy : IsB w xb B) (hf : FitArg v) (hvT : frIn v.T) (hB : FitBA' B) (hbl : frIn B.len) (hbT : ∀ x ∈ B.cs, frIn x.T) (hbs : ∀ i ∈ B.sel, frIn i) :
    Calls Try.prog 4 #[xv, xb] w fun e w' => e = .returned (.bool true) ∧ Grows w w' := by
  have HAW := hidden (fun W => awake17_any K W)
  have HK := hidden K
  have HXV := hidden hx
  have HXB := hidden hy
  obtain ⟨pb, qb, rfl, hpb, hqb⟩ := id hy
  have HPB := hidden hpb
  obtain ⟨A, c, rfl⟩ := hpb.slice_
  obtain ⟨E, d, rfl⟩ := hqb.slice_
  obtain ⟨Pp, Pq, Pr, rfl, j1, j2, j3⟩ := id hx
  obtain ⟨P1, m1, rfl⟩ := j1.slice_
  obtain ⟨P2, m2, rfl⟩ := j2.slice_
  obtain ⟨P3, m3, rfl⟩ := j3.slice_
  obtain ⟨n, hn⟩ : ∃ n, B.cs.length = n := ⟨_, rfl⟩
  obtain ⟨m, hm⟩ : ∃ m, B.sel.length = m := ⟨_, rfl⟩
  rw [hn] at HXB HPB ⊢
  rw [hm] at HXB ⊢
  have HN := hidden hn
  have HA := hidden (And.intro hvT (And.intro hbl (And.intro hbT hbs)))
  have HFA := hidden (And.intro hf hB)
  have hnb := hB.1
  have hmb := hB.2.1
  rw [hn] at hnb
  rw [hm] at hmb
  obtain ⟨W0, hW0⟩ : ∃ W, W = (w.alloc (.cells #[.int .i64 v.T, .slice P1 v.is.length m1, .slice P2 v.ts.length m2, .slice P3 v.ns.length m3] 29)).alloc (.cells #[.slice A n c, .int .i64 B.len, .bool B.all, .slice E m d] 45) := ⟨_, rfl⟩
  have HG0 := hidden (show Grows w W0 by rw [hW0]; exact (grow1 _).of_below (grow1 _))
  have HR0 := hidden (show Row W0 w.heap.size 29 [.int .i64 v.T, .slice P1 v.is.length m1, .slice P2 v.ts.length m2, .slice P3 v.ns.length m3] by rw [hW0]; exact (Row.new w _ _ _ rfl).grow (grow1 _))
  have HS0 := hidden (show Row W0 (w.heap.size + 1) 45 [.slice A n c, .int .i64 B.len, .bool B.all, .slice E m d] by rw [hW0]; exact Row.at_ _ _ _ _ rfl _ (by simp))
  have HW0 := hidden hW0
  have HCL := hidden (fun X (h : Grows W0 X) => (⟨(HR0.out.grow h).cell 0, (HR0.out.grow h).cell 1, (HR0.out.grow h).cell 2, (HR0.out.grow h).cell 3, (HS0.out.grow h).cell 0, (HS0.out.grow h).cell 1, (HS0.out.grow h).cell 2, (HS0.out.grow h).cell 3⟩ : X.cell? ⟨w.heap.size, 0, none⟩ = some (.int .i64 v.T) ∧ X.cell? ⟨w.heap.size, 1, none⟩ = some (.slice P1 v.is.length m1) ∧ X.cell? ⟨w.heap.size, 2, none⟩ = some (.slice P2 v.ts.length m2) ∧ X.cell? ⟨w.heap.size, 3, none⟩ = some (.slice P3 v.ns.length m3) ∧ X.cell? ⟨w.heap.size + 1, 0, none⟩ = some (.slice A n c) ∧ X.cell? ⟨w.heap.size + 1, 1, none⟩ = some (.int .i64 B.len) ∧ X.cell? ⟨w.heap.size + 1, 2, none⟩ = some (.bool B.all) ∧ X.cell? ⟨w.heap.size + 1, 3, none⟩ = some (.slice E m d)))
  obtain ⟨x0, x1, x2, x3, y0, y1, y2, y3⟩ := HCL.out W0 (Below.refl _ _)
  rw [hW0] at x0 x1 x2 x3 y0 y1 y2 y3
  have HM := hidden hm
  clear hx hy hvT hbl hbT hbs hf hB j1 j2 j3 K hW0 hpb hqb hn hm
  by_cases q1 : 200 < v.ns.length
  · have d1 : decide (200 < v.ns.length) = true := by simpa using q1
    have e1 : decide ((200 : Int) < (v.ns.length : Int)) = true := by simp; omega
    clear q1
    go_enter Try.func4, Try.ntmps4
    go_wp2_with (first | (go_at_call 10; refine (HAW.out _).mono ?_; rintro e w9 ⟨rfl, g9⟩; have HG9 := hidden (show Grows w w9 from (show Grows w _ by rw [← HW0.out]; exact HG0.out).of_below g9); clear g9))
    go_ret
    exact ⟨rfl, HG9.out⟩
  have d1 : decide (200 < v.ns.length) = false := by simpa using q1
  have e1 : decide ((200 : Int) < (v.ns.length : Int)) = false := by simp; omega
  by_cases q2 : 200 < v.is.length
  · have d2 : decide (200 < v.is.length) = true := by simpa using q2
    have e2 : decide ((200 : Int) < (v.is.length : Int)) = true := by simp; omega
    clear q2
    go_enter Try.func4, Try.ntmps4
    go_wp2_with (first | (go_at_call 10; refine (HAW.out _).mono ?_; rintro e w9 ⟨rfl, g9⟩; have HG9 := hidden (show Grows w w9 from (show Grows w _ by rw [← HW0.out]; exact HG0.out).of_below g9); clear g9))
    go_ret
    exact ⟨rfl, HG9.out⟩
  have d2 : decide (200 < v.is.length) = false := by simpa using q2
  have e2 : decide ((200 : Int) < (v.is.length : Int)) = false := by simp; omega
  by_cases q3 : 200 < v.ts.length
  · have d3 : decide (200 < v.ts.length) = true := by simpa using q3
    have e3 : decide ((200 : Int) < (v.ts.length : Int)) = true := by simp; omega
    clear q3
    go_enter Try.func4, Try.ntmps4
    go_wp2_with (first | (go_at_call 10; refine (HAW.out _).mono ?_; rintro e w9 ⟨rfl, g9⟩; have HG9 := hidden (show Grows w w9 from (show Grows w _ by rw [← HW0.out]; exact HG0.out).of_below g9); clear g9))
    go_ret
    exact ⟨rfl, HG9.out⟩
  have d3 : decide (200 < v.ts.length) = false := by simpa using q3
  have e3 : decide ((200 : Int) < (v.ts.length : Int)) = false := by simp; omega
  by_cases q4 : 10 < n
  · have d4 : decide (10 < n) = true := by simpa using q4
    have e4 : decide ((10 : Int) < (n : Int)) = true := by simp; omega
    clear q4
    go_enter Try.func4, Try.ntmps4
    go_wp2_with (first | (go_at_call 10; refine (HAW.out _).mono ?_; rintro e w9 ⟨rfl, g9⟩; have HG9 := hidden (show Grows w w9 from (show Grows w _ by rw [← HW0.out]; exact HG0.out).of_below g9); clear g9))
    go_ret
    exact ⟨rfl, HG9.out⟩
  have d4 : decide (10 < n) = false := by simpa using q4
  have e4 : decide ((10 : Int) < (n : Int)) = false := by simp; omega
  by_cases q5 : 200 < m
  · have d5 : decide (200 < m) = true := by simpa using q5
    have e5 : decide ((200 : Int) < (m : Int)) = true := by simp; omega
    clear q5
    go_enter Try.func4, Try.ntmps4
    go_wp2_with (first | (go_at_call 10; refine (HAW.out _).mono ?_; rintro e w9 ⟨rfl, g9⟩; have HG9 := hidden (show Grows w w9 from (show Grows w _ by rw [← HW0.out]; exact HG0.out).of_below g9); clear g9))
    go_ret
    exact ⟨rfl, HG9.out⟩
  have d5 : decide (200 < m) = false := by simpa using q5
  have e5 : decide ((200 : Int) < (m : Int)) = false := by simp; omega
  have HQ := hidden (show v.ns.length ≤ 200 ∧ v.is.length ≤ 200 ∧ v.ts.length ≤ 200 ∧ n ≤ 10 ∧ m ≤ 200 by omega)
  clear q1 q2 q3 q4 q5
  go_enter Try.func4, Try.ntmps4
  go_wp2_with fail
  rw [← HW0.out]
  clear x0 x1 x2 x3 y0 y1 y2 y3 d1 d2 d3 d4 d5 e1 e2 e3 e4 e5
  go_loopw [39] (fun i wr => ∃ k : Nat, k ≤ n ∧ i = .int .i64 (k : Int) ∧ (∀ x ∈ B.cs.take k, x.ns.length ≤ 200 ∧ x.is.length ≤ 200 ∧ x.ts.length ≤ 200) ∧ Grows W0 wr) (fun i _ => n - (intOf i).toNat)
  case atStart => exact ⟨0, Nat.zero_le _, rfl, by simp, Below.refl _ _⟩
  case round =>
    obtain ⟨k, hk, rfl, hall, hb⟩ := hrel
    have HB := hidden hb
    have HALL := hidden hall
    have HGW := hidden (HG0.out.of_below hb)
    clear hb hall
    by_cases hlt : k < n
    · have hd : decide (k < n) = true := by simpa using hlt
      have hk0 : (0 : Int) ≤ (k : Int) := by omega
      have hk1 : (k : Int) < (n : Int) := by omega
      have HLT := hidden hlt
      have hn10 := HQ.out.2.2.2.1
      have hkl : k < B.cs.length := by rw [HN.out]; exact hlt
      obtain ⟨b0, off, R1, k1, R2, k2, R3, k3, rfl, hcc⟩ := HPB.out.at_ hkl
      have ey : ∃ x : Vec, (∀ W, Grows w W → W.cell? ⟨b0, off + k * 4, none⟩ = some (.int .i64 x.T) ∧ W.cell? ⟨b0, off + k * 4 + 1, none⟩ = some (.slice R1 x.is.length k1) ∧ W.cell? ⟨b0, off + k * 4 + 2, none⟩ = some (.slice R2 x.ts.length k2) ∧ W.cell? ⟨b0, off + k * 4 + 3, none⟩ = some (.slice R3 x.ns.length k3) ∧ IsV W (.agg #[.int .i64 x.T, .slice R1 x.is.length k1, .slice R2 x.ts.length k2, .slice R3 x.ns.length k3]) x) ∧ B.cs.take (k + 1) = B.cs.take k ++ [x] :=
        ⟨_, hcc, by rw [List.take_add_one, List.getElem?_eq_getElem hkl]; rfl⟩
      obtain ⟨x, hc, htk⟩ := ey
      have HTK := hidden htk
      obtain ⟨c0, c1, c2, c3, -⟩ := hc wr HGW.out
      clear hlt hkl hcc hc htk
      by_cases q6 : 200 < x.ns.length
      · have d6 : decide (200 < x.ns.length) = true := by simpa using q6
        have e6 : decide ((200 : Int) < (x.ns.length : Int)) = true := by simp; omega
        clear q6
        go_wp2_with (first
          | (refine wpList_store_vc rfl _ _ rfl wr.heap.size rfl _ _ _ _ rfl (all4 rfl rfl rfl rfl) (Row.new wr 29 #[.int .i64 0, .slice none 0 0, .slice none 0 0, .slice none 0 0] [.int .i64 0, .slice none 0 0, .slice none 0 0, .slice none 0 0] rfl) ?_; intro W1 hR hO; have HG1 := hidden (HB.out.of_below hO.grows_old); have r3 := hR.cell 3; have r1 := hR.cell 1; have r0 := hR.cell 0; have r2 := hR.cell 2; simp only [List.getElem?_cons_succ, List.getElem?_cons_zero] at r0 r1 r2 r3; clear hR hO c0 c1 c2 c3)
          | (go_at_call 10; refine (HAW.out _).mono ?_; rintro e w9 ⟨rfl, g9⟩; have HG9 := hidden (show Grows w w9 from (HG0.out.of_below HG1.out).of_below g9); clear g9))
        go_ret
        exact ⟨rfl, HG9.out⟩
      have d6 : decide (200 < x.ns.length) = false := by simpa using q6
      have e6 : decide ((200 : Int) < (x.ns.length : Int)) = false := by simp; omega
      by_cases q7 : 200 < x.is.length
      · have d7 : decide (200 < x.is.length) = true := by simpa using q7
        have e7 : decide ((200 : Int) < (x.is.length : Int)) = true := by simp; omega
        clear q7
        go_wp2_with (first
          | (refine wpList_store_vc rfl _ _ rfl wr.heap.size rfl _ _ _ _ rfl (all4 rfl rfl rfl rfl) (Row.new wr 29 #[.int .i64 0, .slice none 0 0, .slice none 0 0, .slice none 0 0] [.int .i64 0, .slice none 0 0, .slice none 0 0, .slice none 0 0] rfl) ?_; intro W1 hR hO; have HG1 := hidden (HB.out.of_below hO.grows_old); have r3 := hR.cell 3; have r1 := hR.cell 1; have r0 := hR.cell 0; have r2 := hR.cell 2; simp only [List.getElem?_cons_succ, List.getElem?_cons_zero] at r0 r1 r2 r3; clear hR hO c0 c1 c2 c3)
          | (go_at_call 10; refine (HAW.out _).mono ?_; rintro e w9 ⟨rfl, g9⟩; have HG9 := hidden (show Grows w w9 from (HG0.out.of_below HG1.out).of_below g9); clear g9))
        go_ret
        exact ⟨rfl, HG9.out⟩
      have d7 : decide (200 < x.is.length) = false := by simpa using q7
      have e7 : decide ((200 : Int) < (x.is.length : Int)) = false := by simp; omega
      by_cases q8 : 200 < x.ts.length
      · have d8 : decide (200 < x.ts.length) = true := by simpa using q8
        have e8 : decide ((200 : Int) < (x.ts.length : Int)) = true := by simp; omega
        clear q8
        go_wp2_with (first
          | (refine wpList_store_vc rfl _ _ rfl wr.heap.size rfl _ _ _ _ rfl (all4 rfl rfl rfl rfl) (Row.new wr 29 #[.int .i64 0, .slice none 0 0, .slice none 0 0, .slice none 0 0] [.int .i64 0, .slice none 0 0, .slice none 0 0, .slice none 0 0] rfl) ?_; intro W1 hR hO; have HG1 := hidden (HB.out.of_below hO.grows_old); have r3 := hR.cell 3; have r1 := hR.cell 1; have r0 := hR.cell 0; have r2 := hR.cell 2; simp only [List.getElem?_cons_succ, List.getElem?_cons_zero] at r0 r1 r2 r3; clear hR hO c0 c1 c2 c3)
          | (go_at_call 10; refine (HAW.out _).mono ?_; rintro e w9 ⟨rfl, g9⟩; have HG9 := hidden (show Grows w w9 from (HG0.out.of_below HG1.out).of_below g9); clear g9))
        go_ret
        exact ⟨rfl, HG9.out⟩
      have d8 : decide (200 < x.ts.length) = false := by simpa using q8
      have e8 : decide ((200 : Int) < (x.ts.length : Int)) = false := by simp; omega
      have HQ2 := hidden (show x.ns.length ≤ 200 ∧ x.is.length ≤ 200 ∧ x.ts.length ≤ 200 by omega)
      clear q6 q7 q8
      go_wp2_with (first
        | (refine wpList_store_vc rfl _ _ rfl wr.heap.size rfl _ _ _ _ rfl (all4 rfl rfl rfl rfl) (Row.new wr 29 #[.int .i64 0, .slice none 0 0, .slice none 0 0, .slice none 0 0] [.int .i64 0, .slice none 0 0, .slice none 0 0, .slice none 0 0] rfl) ?_; intro W1 hR hO; have HG1 := hidden (HB.out.of_below hO.grows_old); have r3 := hR.cell 3; have r1 := hR.cell 1; have r0 := hR.cell 0; have r2 := hR.cell 2; simp only [List.getElem?_cons_succ, List.getElem?_cons_zero] at r0 r1 r2 r3; clear hR hO c0 c1 c2 c3))
      go_roundw
      case rel => exact ⟨k + 1, HLT.out, by go_num, by rw [HTK.out]; intro z hz; rcases List.mem_append.1 hz with h | h; exact HALL.out z h; simp at h; rw [h]; exact HQ2.out, HG1.out⟩
      case measure => have := HLT.out; simp [intOf]; omega
    · have hke : k = n := by omega
      have hd : decide (k < n) = false := by simpa using hlt
      have HOK := hidden (show ∀ x ∈ B.cs, x.ns.length ≤ 200 ∧ x.is.length ≤ 200 ∧ x.ts.length ≤ 200 by have := HALL.out; rwa [hke, ← HN.out, List.take_length] at this)
      have HFB := hidden (show FitB B from ⟨by rw [HN.out]; have := HQ.out; omega, by rw [HM.out]; have := HQ.out; omega, fun x hx => by have := HOK.out x hx; unfold FitLen; omega⟩)
      have HFL := hidden (show FitLen v by have := HQ.out; unfold FitLen; omega)
      have HX := hidden (fun X (h : Grows wr X) => HCL.out X (HB.out.of_below h))
      have HC1 := hidden (fun W (h : Grows wr W) => const_loose (HK.out.valid _ v W (HXV.out.grow (HGW.out.of_below h)) HFL.out HA.out.1))
      have HC2 := hidden (fun W (h : Grows wr W) => const_loose (rvalid17_any _ v W (HXV.out.grow (HGW.out.of_below h)) HFA.out.1))
      have HC3 := hidden (fun W (h : Grows wr W) => const_loose (HK.out.validB _ B W (HXB.out.grow (HGW.out.of_below h)) HFB.out HA.out.2.1 HA.out.2.2.1 HA.out.2.2.2))
      have HC4 := hidden (fun W (h : Grows wr W) => const_loose (rvalidB_any _ B W (HXB.out.grow (HGW.out.of_below h)) ⟨HFB.out.1, by have := HFB.out.2.1; omega, fun x hx => (HFB.out.2.2 x hx).arg⟩ HA.out.2.1))
      have HC7 := hidden (fun W => const_loose (HAW.out W))
      generalize validVB v = q1 at *
      generalize validBB B = q2 at *
      clear hlt hke hk
      go_wp2_with fail
      refine wp_region_loose (tabRs [(1, ConstV (.bool q1)), (3, ConstV (.bool q1)), (7, ConstV (.bool q2)), (9, ConstV (.bool q2)), (13, ConstV (.bool true))]) (by kernel_rfl) (by kernel_rfl) (tabRs_cons ConstV.lasts (tabRs_cons ConstV.lasts (tabRs_cons ConstV.lasts (tabRs_cons ConstV.lasts (tabRs_cons ConstV.lasts tabRs_nil))))) ?_
      iterate 1 ((with_reducible refine loose_one (v := ?_) (a' := ?_) ?_ ?_ (fun w' hC' hG' => ?_) ?_ ?_); rotate_left 2; (focus rfl); (focus rfl); (focus (obtain ⟨x0, x1, x2, x3, y0, y1, y2, y3⟩ := HX.out w' hC'; clear hC' hG'; go_simp; rfl)); (focus (go_simp; rfl)))
      refine loose_call (R := ConstV (.bool q1)) (f := 19) (args := #[.agg #[.int .i64 v.T, .slice P1 v.is.length m1, .slice P2 v.ts.length m2, .slice P3 v.ns.length m3]]) (by rfl) (by rfl) (fun _ => by go_simp) (fun w' hC' hG' => HC1.out w' hC') ?_
      rintro _ ⟨_, _, rfl⟩
      refine ⟨?_, ?_, ?_⟩
      rotate_left
      · go_simp
        rfl
      iterate 1 ((with_reducible refine loose_one (v := ?_) (a' := ?_) ?_ ?_ (fun w' hC' hG' => ?_) ?_ ?_); rotate_left 2; (focus rfl); (focus rfl); (focus (obtain ⟨x0, x1, x2, x3, y0, y1, y2, y3⟩ := HX.out w' hC'; clear hC' hG'; go_simp; rfl)); (focus (go_simp; rfl)))
      refine loose_call (R := ConstV (.bool q1)) (f := 20) (args := #[.agg #[.int .i64 v.T, .slice P1 v.is.length m1, .slice P2 v.ts.length m2, .slice P3 v.ns.length m3]]) (by rfl) (by rfl) (fun _ => by go_simp) (fun w' hC' hG' => HC2.out w' hC') ?_
      rintro _ ⟨_, _, rfl⟩
      refine ⟨?_, ?_, ?_⟩
      rotate_left
      · go_simp
        rfl
      iterate 3 ((with_reducible refine loose_one (v := ?_) (a' := ?_) ?_ ?_ (fun w' hC' hG' => ?_) ?_ ?_); rotate_left 2; (focus rfl); (focus rfl); (focus (obtain ⟨x0, x1, x2, x3, y0, y1, y2, y3⟩ := HX.out w' hC'; clear hC' hG'; go_simp; rfl)); (focus (go_simp; rfl)))
      refine loose_call (R := ConstV (.bool q2)) (f := 21) (args := #[.agg #[.slice A n c, .int .i64 B.len, .bool B.all, .slice E m d]]) (by rfl) (by rfl) (fun _ => by go_simp) (fun w' hC' hG' => HC3.out w' hC') ?_
      rintro _ ⟨_, _, rfl⟩
      refine ⟨?_, ?_, ?_⟩
      rotate_left
      · go_simp
        rfl
      iterate 1 ((with_reducible refine loose_one (v := ?_) (a' := ?_) ?_ ?_ (fun w' hC' hG' => ?_) ?_ ?_); rotate_left 2; (focus rfl); (focus rfl); (focus (obtain ⟨x0, x1, x2, x3, y0, y1, y2, y3⟩ := HX.out w' hC'; clear hC' hG'; go_simp; rfl)); (focus (go_simp; rfl)))
      refine loose_call (R := ConstV (.bool q2)) (f := 22) (args := #[.agg #[.slice A n c, .int .i64 B.len, .bool B.all, .slice E m d]]) (by rfl) (by rfl) (fun _ => by go_simp) (fun w' hC' hG' => HC4.out w' hC') ?_
      rintro _ ⟨_, _, rfl⟩
      refine ⟨?_, ?_, ?_⟩
      rotate_left
      · go_simp
        rfl
      iterate 3 ((with_reducible refine loose_one (v := ?_) (a' := ?_) ?_ ?_ (fun w' hC' hG' => ?_) ?_ ?_); rotate_left 2; (focus rfl); (focus rfl); (focus (obtain ⟨x0, x1, x2, x3, y0, y1, y2, y3⟩ := HX.out w' hC'; clear hC' hG'; go_simp; rfl)); (focus (go_simp; rfl)))
      refine loose_call (R := ConstV (.bool true)) (f := 10) (args := #[]) (by rfl) (by rfl) (fun _ => by go_simp) (fun w' hC' hG' => HC7.out w') ?_
      rintro _ ⟨_, _, rfl⟩
      refine ⟨?_, ?_, ?_⟩
      rotate_left
      · go_simp
        rfl
      iterate 2 ((with_reducible refine loose_one (v := ?_) (a' := ?_) ?_ ?_ (fun w' hC' hG' => ?_) ?_ ?_); rotate_left 2; (focus rfl); (focus rfl); (focus (obtain ⟨x0, x1, x2, x3, y0, y1, y2, y3⟩ := HX.out w' hC'; clear hC' hG'; go_simp; rfl)); (focus (go_simp; rfl)))
      refine loose_done (fun w9 hC' hG' => ?_)
      have HG9 := hidden (HGW.out.of_below hC')
      clear hC' hG'
      go_wp2_with fail
      go_ret
      exact ⟨rfl, HG9.out⟩
end Go.Proofs.Ytfjhahhkakfhmaa
/-
  Shaken: what the claims of this seat need of this text. No condition.
-/
namespace Go.Proofs.Ytfjhahhkakfhmaa
set_option maxRecDepth 8000
open Go.RowKit
set_option linter.unusedVariables false
set_option linter.unusedSimpArgs false
def colR (Ts : List Int) (rs : List (List Val)) (j : Nat) : Vec := buildV (Ts.getD j 0) (rs.map (fun r => r.getD j nulX))
theorem getD_mem {α : Type} {l : List α} {d : α} {j : Nat} (h : j < l.length) : l.getD j d ∈ l := by
  rw [List.getD_eq_getElem?_getD, List.getElem?_eq_getElem h]
  exact List.getElem_mem _
theorem okL_col {Ts : List Int} {rs : List (List Val)} (h : fitR Ts rs) {j : Nat} (hj : j < Ts.length) : okL (Ts.getD j 0) (rs.map (fun r => r.getD j nulX)) := by
  intro y hy
  simp only [List.mem_map] at hy
  obtain ⟨r, hr, rfl⟩ := hy
  obtain ⟨h1, h2, h3⟩ := h.2 r hr
  refine ⟨h3 j hj, ?_⟩
  exact List.all_eq_true.1 h2 _ (getD_mem (by rw [h1]; exact hj))
theorem colR_valid {Ts : List Int} {rs : List (List Val)} (h : fitR Ts rs) {j : Nat} (hj : j < Ts.length) : validVB (colR Ts rs j) = true :=
  buildV_valid (h.1 _ (getD_mem hj)) (okL_col h hj)
theorem colR_len (Ts : List Int) (rs : List (List Val)) (j : Nat) : (colR Ts rs j).ns.length = rs.length := by
  unfold colR
  rw [(buildV_len _ _).1, List.length_map]
theorem batR_valid {Ts : List Int} {rs : List (List Val)} (h : fitR Ts rs) : validBB (batR Ts rs) = true := by
  refine validBB_of (by show (0 : Int) ≤ (rs.length : Int); omega) (fun hc => by have := hc.2; simp [batR] at this) (List.all_eq_true.2 (fun v hv => ?_)) rfl
  simp only [batR, List.mem_map, List.mem_range] at hv
  obtain ⟨j, hj, rfl⟩ := hv
  unfold colB
  rw [Bool.and_eq_true]
  exact ⟨colR_valid h hj, by have := colR_len Ts rs j; unfold colR at this; rw [this]; simp [batR]⟩
theorem atI_col {Ts : List Int} {rs : List (List Val)} (h : fitR Ts rs) {j i : Nat} (hj : j < Ts.length) (hi : i < rs.length) : atI (colR Ts rs j) (i : Int) = (rs[i]).getD j nulX := by
  rw [atI_nat (by rw [colR_len]; exact hi)]
  have hl : i < (rs.map (fun r => r.getD j nulX)).length := by rw [List.length_map]; exact hi
  unfold colR
  rw [vat_build (h.1 _ (getD_mem hj)) (okL_col h hj) hl, List.getElem_map]
theorem range_getD {α : Type} {l : List α} {d : α} {n : Nat} (h : l.length = n) : (List.range n).map (fun j => l.getD j d) = l := by
  subst h
  apply List.ext_getElem?
  intro j
  by_cases hj : j < l.length
  · simp [List.getElem?_map, List.getElem?_range hj, List.getD_eq_getElem?_getD, List.getElem?_eq_getElem hj]
  · rw [List.getElem?_eq_none (by simp; omega), List.getElem?_eq_none (by omega)]
theorem rowV_batR {Ts : List Int} {rs : List (List Val)} (h : fitR Ts rs) {i : Nat} (hi : i < rs.length) : rowV (batR Ts rs) (i : Int) = rs[i] := by
  have h1 := (h.2 rs[i] (List.getElem_mem _)).1
  unfold rowV batR
  dsimp only
  rw [List.map_map]
  refine Eq.trans ?_ (range_getD (d := nulX) h1)
  exact List.map_congr_left (fun j hj => atI_col h (List.mem_range.1 hj) hi)
theorem rows_batR {Ts : List Int} {rs : List (List Val)} (h : fitR Ts rs) : rowsB (batR Ts rs) = rs := by
  have e : rowsB (batR Ts rs) = (List.range rs.length).map (fun i : Nat => rowV (batR Ts rs) (i : Int)) := by
    unfold rowsB
    rw [if_pos (show (batR Ts rs).all = true from rfl)]
    rfl
  rw [e]
  apply List.ext_getElem?
  intro i
  by_cases hi : i < rs.length
  · rw [List.getElem?_map, List.getElem?_range hi, List.getElem?_eq_getElem hi]
    show some (rowV (batR Ts rs) (i : Int)) = _
    rw [rowV_batR h hi]
  · rw [List.getElem?_eq_none (by simp; omega), List.getElem?_eq_none (by omega)]
theorem pieces_flat (size : Nat) (hs : 1 ≤ size) : ∀ (f : Nat) (rs : List (List Val)), rs.length ≤ f → (piecesF size f rs).flatten = rs
  | 0, rs, h => by
    have : rs = [] := List.eq_nil_of_length_eq_zero (by omega)
    subst this
    rfl
  | f + 1, rs, h => by
    unfold piecesF
    split
    · rename_i h0; rw [h0]; rfl
    · rename_i h0
      have hp := List.length_pos_iff.2 h0
      rw [List.flatten_cons, pieces_flat size hs f (rs.drop size) (by rw [List.length_drop]; omega), List.take_append_drop]
theorem pieces_sub (size : Nat) : ∀ (f : Nat) (rs : List (List Val)), ∀ p ∈ piecesF size f rs, (∀ r ∈ p, r ∈ rs) ∧ p.length ≤ rs.length
  | 0, rs, p, hp => by simp [piecesF] at hp
  | f + 1, rs, p, hp => by
    unfold piecesF at hp
    split at hp
    · cases hp
    · rcases List.mem_cons.1 hp with rfl | hp
      · exact ⟨fun r hr => List.mem_of_mem_take hr, by rw [List.length_take]; omega⟩
      · obtain ⟨h1, h2⟩ := pieces_sub size f (rs.drop size) p hp
        exact ⟨fun r hr => List.mem_of_mem_drop (h1 r hr), by rw [List.length_drop] at h2; omega⟩
theorem pieces_len (size : Nat) (hs : 1 ≤ size) : ∀ (f : Nat) (rs : List (List Val)), (piecesF size f rs).length ≤ rs.length
  | 0, rs => Nat.zero_le _
  | f + 1, rs => by
    unfold piecesF
    split
    · exact Nat.zero_le _
    · rename_i h0
      have hp := List.length_pos_iff.2 h0
      rw [List.length_cons]
      have := pieces_len size hs f (rs.drop size)
      rw [List.length_drop] at this
      omega
theorem fitR_sub {Ts : List Int} {rs p : List (List Val)} (h : fitR Ts rs) (hp : ∀ r ∈ p, r ∈ rs) : fitR Ts p := ⟨h.1, fun r hr => h.2 r (hp r hr)⟩
theorem batR_cs (Ts : List Int) (rs : List (List Val)) : (batR Ts rs).cs.length = Ts.length := by simp [batR]
theorem split_ok {Ts : List Int} {rs : List (List Val)} {size : Nat} (h : fitR Ts rs) (hT : Ts.length ≤ 100) (hr : rs.length ≤ 1000) : ∀ B ∈ splitB Ts rs size, validBB B = true ∧ B.cs.length ≤ 100 ∧ B.len ≤ 1000 := by
  intro B hB
  simp only [splitB, List.mem_map] at hB
  obtain ⟨p, hp, rfl⟩ := hB
  obtain ⟨h1, h2⟩ := pieces_sub size rs.length rs p hp
  exact ⟨batR_valid (fitR_sub h h1), by rw [batR_cs]; exact hT, by show (p.length : Int) ≤ 1000; omega⟩
theorem split_rows {Ts : List Int} {rs : List (List Val)} {size : Nat} (h : fitR Ts rs) (hs : 1 ≤ size) : allRowsB (splitB Ts rs size) = rs := by
  unfold allRowsB splitB
  rw [List.flatMap_map]
  have e : ∀ l : List (List (List Val)), (∀ p ∈ l, ∀ r ∈ p, r ∈ rs) → l.flatMap (fun p => rowsB (batR Ts p)) = l.flatten := by
    intro l hl
    induction l with
    | nil => rfl
    | cons p r ih =>
      rw [List.flatMap_cons, List.flatten_cons, rows_batR (fitR_sub h (hl p (List.mem_cons_self ..))), ih (fun q hq => hl q (List.mem_cons_of_mem _ hq))]
  have e2 := e (piecesF size rs.length rs) (fun p hp => (pieces_sub size rs.length rs p hp).1)
  exact e2.trans (pieces_flat size hs rs.length rs (Nat.le_refl _))
def mirR (l : List Val) : List (List Val) := (List.range l.length).map (fun i => [l.getD i nulX, l.getD (l.length - 1 - i) nulX])
theorem mirR_len (l : List Val) : (mirR l).length = l.length := by simp [mirR]
theorem mirR_fit {T : Int} {l : List Val} (hT : isTypeB T = true) (h : okL T l) : fitR [T, T] (mirR l) := by
  refine ⟨fun S hS => by simp at hS; rw [hS]; exact hT, fun r hr => ?_⟩
  simp only [mirR, List.mem_map, List.mem_range] at hr
  obtain ⟨i, hi, rfl⟩ := hr
  have h1 := h _ (getD_mem (d := nulX) hi)
  have h2 := h _ (getD_mem (d := nulX) (show l.length - 1 - i < l.length by omega))
  refine ⟨rfl, ?_, fun j hj => ?_⟩
  · unfold validL
    simp only [List.all_cons, List.all_nil, Bool.and_true, Bool.and_eq_true]
    exact ⟨h1.2, h2.2⟩
  · have : j = 0 ∨ j = 1 := by simp at hj; omega
    rcases this with rfl | rfl
    · exact h1.1
    · exact h2.1
end Go.Proofs.Ytfjhahhkakfhmaa
/-
  Shaken: what the claims of this seat need of this text. No condition.
-/
namespace Go.Proofs.Ytfjhahhkakfhmaa
open Go.RowKit
set_option linter.unusedVariables false
set_option linter.unusedSimpArgs false
theorem vals_len (v : Vec) : (valsW v).length = v.ns.length := by simp [valsW]
theorem from_vals {v : Vec} (h : validVB v = true) : fromV v.T (valsW v) = v ∧ fromE v.T (valsW v) = 0 := by
  have hT := (validVB_iff.1 h).1
  have hf : (valsW v).all (fitsB · v.T) = true := List.all_eq_true.2 (fun y hy => (okL_vals h y hy).1)
  unfold fromV fromE
  rw [if_pos hT, if_pos hT, if_pos hf, if_pos hf]
  exact ⟨build_vals h, rfl⟩
theorem validL_vals {v : Vec} (h : validVB v = true) : validL (valsW v) = true := List.all_eq_true.2 (fun y hy => (okL_vals h y hy).2)
theorem compI_fr {la : List Int} (h : ∀ i ∈ la, frIn i) (i : Int) : frIn (compI la i) := by
  unfold compI
  split
  · rename_i hi; exact h _ (getD_mem (by omega))
  · unfold frIn; omega
theorem ownRow_new2 (w : World) (base : Nat) (y z : Val) (hb : base ≤ w.heap.size) : OwnRow base [y, z] (.slice (some ⟨w.heap.size, 0, none⟩) 2 2) (w.alloc (.cells #[.int .i64 y.k, .int .i64 y.n, .string y.t, .int .i64 z.k, .int .i64 z.n, .string z.t] 37)) :=
  ⟨rfl, .inr ⟨w.heap.size, 2, _, rfl, hb, heap_alloc_new w _, Nat.le_refl _, by unfold maxLen; omega, rfl, rfl⟩⟩
theorem IsBs_grow {w w' : World} {v : Value} {l : List Bat} (h : IsBs w v l) (hg : Grows w w') : IsBs w' v l := by
  obtain ⟨A, c, rfl, hc, hcell⟩ := h
  refine ⟨A, c, rfl, hc, fun hl => ?_⟩
  obtain ⟨b, off, rfl, hcc⟩ := hcell hl
  refine ⟨b, off, rfl, fun j x hj => ?_⟩
  obtain ⟨p, q, h0, h1, h2, h3, h4⟩ := hcc j x hj
  have up : ∀ {a : Addr} {u : Value}, w.cell? a = some u → w'.cell? a = some u := fun h => (hg.cell (World.block_lt_of_cell? _ _ h)).trans h
  exact ⟨p, q, up h0, up h1, up h2, up h3, h4.grow hg⟩
set_option maxRecDepth 20000 in
set_option maxHeartbeats 16000000 in
theorem law_trip17 (K : Pack) (xv : Value) (v : Vec) (ua ub : Value) (la lb : List Int) (sz : Int) (w : World) (hx : IsV w xv v) (hf : FitArg v) (hvT : frIn v.T) (ha : IsI w ua la) (hb : IsI w ub lb) (hla : la.length ≤ 140737488355328) (hlb : lb.length ≤ 140737488355328) (hai : ∀ i ∈ la, frIn i) (hbi : ∀ i ∈ lb, frIn i) (hsz : 0 ≤ sz ∧ sz ≤ 255) :
    Calls Try.prog 8 #[xv, ua, ub, .int .u8 sz] w fun e w' => e = .returned (.bool true) ∧ Grows w w' := by
  have HAW := hidden (fun W => awake17_any K W)
  have HK := hidden K
  have HXV := hidden hx
  have HUA := hidden ha
  have HUB := hidden hb
  have HRV := hidden (fun W (h : Grows w W) => rvalid17_any xv v W (hx.grow h) hf)
  obtain ⟨A, c, rfl⟩ := ha.slice_
  obtain ⟨B, d, rfl⟩ := hb.slice_
  obtain ⟨Pp, Pq, Pr, rfl, j1, j2, j3⟩ := id hx
  obtain ⟨P1, m1, rfl⟩ := j1.slice_
  obtain ⟨P2, m2, rfl⟩ := j2.slice_
  obtain ⟨P3, m3, rfl⟩ := j3.slice_
  obtain ⟨na, hna⟩ : ∃ n, la.length = n := ⟨_, rfl⟩
  obtain ⟨nb, hnb⟩ : ∃ n, lb.length = n := ⟨_, rfl⟩
  rw [hna] at HUA ⊢
  rw [hnb] at HUB ⊢
  have HNA := hidden hna
  have HNB := hidden hnb
  have HFR := hidden (And.intro hvT (And.intro hai (And.intro hbi hsz)))
  have hla' : na ≤ 140737488355328 := by omega
  have hlb' : nb ≤ 140737488355328 := by omega
  obtain ⟨W0, hW0⟩ : ∃ W, W = w.alloc (.cells #[.int .i64 v.T, .slice P1 v.is.length m1, .slice P2 v.ts.length m2, .slice P3 v.ns.length m3] 29) := ⟨_, rfl⟩
  have HG0 := hidden (show Grows w W0 by rw [hW0]; exact grow1 _)
  have HR0 := hidden (show Row W0 w.heap.size 29 [.int .i64 v.T, .slice P1 v.is.length m1, .slice P2 v.ts.length m2, .slice P3 v.ns.length m3] by rw [hW0]; exact Row.new w _ _ _ rfl)
  have HW0 := hidden hW0
  have HCL := hidden (fun X (h : Grows W0 X) => (⟨(HR0.out.grow h).cell 0, (HR0.out.grow h).cell 1, (HR0.out.grow h).cell 2, (HR0.out.grow h).cell 3⟩ : X.cell? ⟨w.heap.size, 0, none⟩ = some (.int .i64 v.T) ∧ X.cell? ⟨w.heap.size, 1, none⟩ = some (.slice P1 v.is.length m1) ∧ X.cell? ⟨w.heap.size, 2, none⟩ = some (.slice P2 v.ts.length m2) ∧ X.cell? ⟨w.heap.size, 3, none⟩ = some (.slice P3 v.ns.length m3)))
  obtain ⟨x0, x1, x2, x3⟩ := HCL.out W0 (Below.refl _ _)
  rw [hW0] at x0 x1 x2 x3
  obtain ⟨vb, hvb⟩ : ∃ b, validVB v = b := ⟨_, rfl⟩
  rw [hvb] at HRV
  have HVB := hidden hvb
  clear hvb hx ha hb hvT hai hbi hsz j1 j2 j3 K hW0 hna hnb hla hlb hf
  by_cases q1 : 100 < v.ns.length
  · have d1 : decide (100 < v.ns.length) = true := by simpa using q1
    have e1 : decide ((100 : Int) < (v.ns.length : Int)) = true := by simp; omega
    clear q1
    go_enter Try.func8, Try.ntmps8
    go_wp2_with (first | (go_at_call 10; refine (HAW.out _).mono ?_; rintro e w9 ⟨rfl, g9⟩; have HG9 := hidden (show Grows w w9 from (show Grows w _ by rw [← HW0.out]; exact HG0.out).of_below g9); clear g9))
    go_ret
    exact ⟨rfl, HG9.out⟩
  have d1 : decide (100 < v.ns.length) = false := by simpa using q1
  have e1 : decide ((100 : Int) < (v.ns.length : Int)) = false := by simp; omega
  by_cases q2 : 100 < na
  · have d2 : decide (100 < na) = true := by simpa using q2
    have e2 : decide ((100 : Int) < (na : Int)) = true := by simp; omega
    clear q2
    go_enter Try.func8, Try.ntmps8
    go_wp2_with (first | (go_at_call 10; refine (HAW.out _).mono ?_; rintro e w9 ⟨rfl, g9⟩; have HG9 := hidden (show Grows w w9 from (show Grows w _ by rw [← HW0.out]; exact HG0.out).of_below g9); clear g9))
    go_ret
    exact ⟨rfl, HG9.out⟩
  have d2 : decide (100 < na) = false := by simpa using q2
  have e2 : decide ((100 : Int) < (na : Int)) = false := by simp; omega
  by_cases q3 : 100 < nb
  · have d3 : decide (100 < nb) = true := by simpa using q3
    have e3 : decide ((100 : Int) < (nb : Int)) = true := by simp; omega
    clear q3
    go_enter Try.func8, Try.ntmps8
    go_wp2_with (first | (go_at_call 10; refine (HAW.out _).mono ?_; rintro e w9 ⟨rfl, g9⟩; have HG9 := hidden (show Grows w w9 from (show Grows w _ by rw [← HW0.out]; exact HG0.out).of_below g9); clear g9))
    go_ret
    exact ⟨rfl, HG9.out⟩
  have d3 : decide (100 < nb) = false := by simpa using q3
  have e3 : decide ((100 : Int) < (nb : Int)) = false := by simp; omega
  have HQ := hidden (show v.ns.length ≤ 100 ∧ na ≤ 100 ∧ nb ≤ 100 by omega)
  clear q1 q2 q3
  cases vb
  · go_enter Try.func8, Try.ntmps8
    go_wp2_with (first | (go_at_call 20; rw [← HW0.out]; refine (HRV.out _ HG0.out).mono ?_; rintro e w1 ⟨rfl, g1⟩; have HG1 := hidden (HG0.out.of_below g1); have HL1 := hidden g1; clear x0 x1 x2 x3; obtain ⟨x0, x1, x2, x3⟩ := HCL.out w1 g1; clear g1) | (go_at_call 10; refine (HAW.out _).mono ?_; rintro e w9 ⟨rfl, g9⟩; have HG9 := hidden (show Grows w w9 from HG1.out.of_below g9); clear g9))
    go_ret
    exact ⟨rfl, HG9.out⟩
  go_enter Try.func8, Try.ntmps8
  go_wp2_with (first | (go_at_call 20; rw [← HW0.out]; refine (HRV.out _ HG0.out).mono ?_; rintro e w1 ⟨rfl, g1⟩; have HG1 := hidden (HG0.out.of_below g1); have HL1 := hidden g1; clear x0 x1 x2 x3; obtain ⟨x0, x1, x2, x3⟩ := HCL.out w1 g1; clear g1))
  clear d1 d2 d3 e1 e2 e3
  -- Values
  refine (HK.out.values _ v w1 (HXV.out.grow HG1.out) HVB.out (by have := HQ.out; omega)).mono ?_
  rintro e w2 ⟨u9, rfl, hu9, g2⟩
  obtain ⟨A9, c9, rfl⟩ : ∃ A c, u9 = .slice A v.ns.length c := by obtain ⟨A, c, h, _⟩ := hu9; exact ⟨A, c, by rw [h, vals_len]⟩
  have HU9 := hidden hu9
  have HG2 := hidden (HG1.out.of_below g2)
  have HL2 := hidden (HL1.out.of_below g2)
  clear g2 hu9 x0 x1 x2 x3
  obtain ⟨x0, x1, x2, x3⟩ := HCL.out w2 HL2.out
  go_wp2_with fail
  clear x0 x1 x2 x3
  -- FromValues
  refine (HK.out.from_ _ (valsW v) v.T w2 HU9.out (by rw [vals_len]; have := HQ.out; omega) (validL_vals HVB.out) HFR.out.1).mono ?_
  rintro e w3 ⟨x3v, rfl, hx3, g3⟩
  rw [(from_vals HVB.out).1] at hx3
  rw [(from_vals HVB.out).2]
  obtain ⟨Qp, Qq, Qr, rfl, j1, j2, j3⟩ := id hx3
  obtain ⟨Q1, n1, rfl⟩ := j1.slice_
  obtain ⟨Q2, n2, rfl⟩ := j2.slice_
  obtain ⟨Q3, n3, rfl⟩ := j3.slice_
  have HX3 := hidden hx3
  have HG3 := hidden (HG2.out.of_below g3)
  have HL3 := hidden (HL2.out.of_below g3)
  have HU3 := hidden (HU9.out.grow g3)
  have HV3 := hidden ((HR0.out.grow HL2.out).grow g3)
  clear g3 hx3 j1 j2 j3
  have HEQ := hidden (fun W (h1 : IsV W (.agg #[.int .i64 v.T, .slice Q1 v.is.length n1, .slice Q2 v.ts.length n2, .slice Q3 v.ns.length n3]) v) (h2 : IsV W (.agg #[.int .i64 v.T, .slice P1 v.is.length m1, .slice P2 v.ts.length m2, .slice P3 v.ns.length m3]) v) (h3 : FitLen v) => rEqual17_self _ _ v W h1 h2 h3)
  have HVL := hidden (show FitLen v by
    obtain ⟨-, h2, h3, -⟩ := validVB_iff.1 HVB.out
    have h4 : nIv v ≤ v.ns.length := by unfold nIv; split <;> omega
    have h5 : nTv v ≤ v.ns.length := by unfold nTv; split <;> omega
    have := HQ.out
    unfold FitLen
    omega)
  have hxp : ∀ W, Grows w W → IsV W (.agg #[.int .i64 v.T, .slice P1 v.is.length m1, .slice P2 v.ts.length m2, .slice P3 v.ns.length m3]) v := fun W h => HXV.out.grow h
  have HXP := hidden hxp
  clear hxp
  go_wp2_with (first
    | (refine wpList_store_vc rfl _ _ rfl w3.heap.size rfl _ _ _ _ rfl (all4 rfl rfl rfl rfl) (Row.new w3 29 #[.int .i64 0, .slice none 0 0, .slice none 0 0, .slice none 0 0] [.int .i64 0, .slice none 0 0, .slice none 0 0, .slice none 0 0] rfl) ?_; intro W4 hR hO; have HZ4 := hidden hR; have HL4 := hidden (HL3.out.of_below hO.grows_old); have HG4 := hidden (HG0.out.of_below HL4.out); have HX4 := hidden (HX3.out.grow hO.grows_old); have HU4 := hidden (HU3.out.grow hO.grows_old); have y0 := hR.cell 0; have y1 := hR.cell 1; have y2 := hR.cell 2; have y3 := hR.cell 3; simp only [List.getElem?_cons_succ, List.getElem?_cons_zero] at y0 y1 y2 y3; obtain ⟨x0, x1, x2, x3⟩ := HCL.out W4 HL4.out; clear hR hO)
    | (go_at_call 13; refine (HEQ.out _ HX4.out (HXP.out _ HG4.out) HVL.out).mono ?_; rintro e w5 ⟨rfl, g5⟩; have HL5 := hidden (HL4.out.of_below g5); have HU5 := hidden (HU4.out.grow g5); clear x0 x1 x2 x3 y0 y1 y2 y3; obtain ⟨x0, x1, x2, x3⟩ := HCL.out w5 HL5.out; clear g5))
  clear x0 x1 x2 x3
  go_loopw [12, 69] (fun out i wr => ∃ k : Nat, k ≤ nb ∧ i = .int .i64 (k : Int) ∧ wr.ownsRow w5.heap.size 3 1 out ((lb.take k).map (compI la)).length (icells ((lb.take k).map (compI la))) ∧ Grows w5 wr) (fun _ i _ => nb - (intOf i).toNat)
  case atStart => exact ⟨0, Nat.zero_le _, rfl, World.ownsRow_nil _ _ _ _, Below.refl _ _⟩
  case round =>
    obtain ⟨k, hk, rfl, hown, hb⟩ := hrel
    have HB := hidden hb
    have HO := hidden hown
    clear hb hown
    by_cases hlt : k < nb
    · have hd : decide (k < nb) = true := by simpa using hlt
      have hk0 : (0 : Int) ≤ (k : Int) := by omega
      have hk1 : (k : Int) < (nb : Int) := by omega
      have HLT := hidden hlt
      have hnb := HQ.out.2.2
      have hkl : k < lb.length := by rw [HNB.out]; exact hlt
      have HWK := hidden ((HG0.out.of_below HL5.out).of_below HB.out)
      rw [← HNB.out] at HUB
      obtain ⟨b0, off, rfl, ka⟩ := (HUB.out.grow HWK.out).at_ hkl
      rw [HNB.out] at HUB
      have ey : ∃ i : Int, wr.cell? ⟨b0, off + k, none⟩ = some (.int .i64 i) ∧ lb.take (k + 1) = lb.take k ++ [i] ∧ i ∈ lb := ⟨_, ka, by rw [List.take_add_one, List.getElem?_eq_getElem hkl]; rfl, List.getElem_mem _⟩
      clear ka
      obtain ⟨i, ka, htk, hmem⟩ := ey
      have HTK := hidden htk
      have hib := HFR.out.2.2.1 i hmem
      unfold frIn at hib
      have hsz2 : w5.heap.size ≤ wr.heap.size := HB.out.size
      have HLN := hidden (show ((lb.take k).map (compI la)).length + 1 ≤ 1000 by rw [List.length_map, List.length_take]; have := HQ.out; omega)
      clear hlt hkl htk hmem
      by_cases hi : 0 ≤ i ∧ i < (na : Int)
      · have f0 : decide (i < 0) = false := by simp; omega
        have f1 : decide ((na : Int) ≤ i) = false := by simp; omega
        have hil : i.toNat < la.length := by rw [HNA.out]; omega
        rw [← HNA.out] at HUA
        obtain ⟨b1, off1, rfl, kb⟩ := (HUA.out.grow HWK.out).at_ hil
        rw [HNA.out] at HUA
        have ez : ∃ z : Int, wr.cell? ⟨b1, off1 + i.toNat, none⟩ = some (.int .i64 z) ∧ compI la i = z := ⟨_, kb, by unfold compI; rw [if_pos (by rw [HNA.out]; exact hi), List.getD_eq_getElem?_getD, List.getElem?_eq_getElem hil]; rfl⟩
        clear kb
        obtain ⟨z, kb, hz⟩ := ez
        obtain ⟨j, rfl⟩ := Int.eq_ofNat_of_zero_le hi.1
        have HZ := hidden (show (lb.take (k + 1)).map (compI la) = (lb.take k).map (compI la) ++ [z] by rw [HTK.out, List.map_append, ← hz]; rfl)
        have hj1 : (j : Int) < (na : Int) := hi.2
        have hj0 : (0 : Int) ≤ (j : Int) := by omega
        simp only [Int.toNat_natCast] at kb
        clear hi hil hz
        go_wp2_with ((at_builtin; go_loud (refine wpList_append_c rfl _ _ 43 rfl 3 (.int .i64 0) 8 Try.underlying43 infoN17 rfl _ (icells ((lb.take k).map (compI la))) (by rfl) w5.heap.size _ HO.out hsz2 (.int .i64 z) rfl _ (by rfl) (by simp) (by have := HLN.out; omega) (by have := HLN.out; omega) ?_); intro v' w6 hown6 hon6 hbk6; have HO6 := hidden hown6; have HB6 := hidden (hon6.below HB.out (fun i hi => (HO.out.lt i hi).1)); clear hown6 hon6 hbk6))
        go_roundw
        case rel => exact ⟨k + 1, HLT.out, by go_num, by rw [HZ.out, icells_snoc, List.length_append]; exact HO6.out, HB6.out⟩
        case measure => have := HLT.out; simp [intOf]; omega
      · have HZ := hidden (show (lb.take (k + 1)).map (compI la) = (lb.take k).map (compI la) ++ [-1] by rw [HTK.out, List.map_append]; show _ ++ [compI la i] = _; unfold compI; rw [if_neg (by rw [HNA.out]; exact hi)])
        by_cases hi0 : i < 0
        · have f0 : decide (i < 0) = true := by simpa using hi0
          clear hi hi0
          go_wp2_with ((at_builtin; go_loud (refine wpList_append_c rfl _ _ 43 rfl 3 (.int .i64 0) 8 Try.underlying43 infoN17 rfl _ (icells ((lb.take k).map (compI la))) (by rfl) w5.heap.size _ HO.out hsz2 (.int .i64 (-1)) rfl _ (by rfl) (by simp) (by have := HLN.out; omega) (by have := HLN.out; omega) ?_); intro v' w6 hown6 hon6 hbk6; have HO6 := hidden hown6; have HB6 := hidden (hon6.below HB.out (fun i hi => (HO.out.lt i hi).1)); clear hown6 hon6 hbk6))
          go_roundw
          case rel => exact ⟨k + 1, HLT.out, by go_num, by rw [HZ.out, icells_snoc, List.length_append]; exact HO6.out, HB6.out⟩
          case measure => have := HLT.out; simp [intOf]; omega
        · have f0 : decide (i < 0) = false := by simpa using hi0
          have f1 : decide ((na : Int) ≤ i) = true := by simp; omega
          clear hi hi0
          go_wp2_with ((at_builtin; go_loud (refine wpList_append_c rfl _ _ 43 rfl 3 (.int .i64 0) 8 Try.underlying43 infoN17 rfl _ (icells ((lb.take k).map (compI la))) (by rfl) w5.heap.size _ HO.out hsz2 (.int .i64 (-1)) rfl _ (by rfl) (by simp) (by have := HLN.out; omega) (by have := HLN.out; omega) ?_); intro v' w6 hown6 hon6 hbk6; have HO6 := hidden hown6; have HB6 := hidden (hon6.below HB.out (fun i hi => (HO.out.lt i hi).1)); clear hown6 hon6 hbk6))
          go_roundw
          case rel => exact ⟨k + 1, HLT.out, by go_num, by rw [HZ.out, icells_snoc, List.length_append]; exact HO6.out, HB6.out⟩
          case measure => have := HLT.out; simp [intOf]; omega
    · have hke : k = nb := by omega
      have hd : decide (k < nb) = false := by simpa using hlt
      have HCI := hidden (show IsI wr _ (lb.map (compI la)) by have h1 := Reads.of_own HO.out; rw [hke, ← HNB.out, List.take_length] at h1; exact h1)
      obtain ⟨AC, cC, he⟩ := HCI.out.slice_
      rw [List.length_map, HNB.out] at he
      subst he
      have HL6 := hidden (HL5.out.of_below HB.out)
      have HG6 := hidden (HG0.out.of_below HL6.out)
      have HU6 := hidden (HU5.out.grow HB.out)
      obtain ⟨x0, x1, x2, x3⟩ := HCL.out wr HL6.out
      clear hlt hke hk HO HB
      generalize wr = w6 at *
      go_wp2_with fail
      clear x0 x1 x2 x3
      refine (HK.out.gather _ v _ la w6 (HXP.out _ HG6.out) HVB.out (by have := HQ.out; omega) (HUA.out.grow HG6.out) (by rw [HNA.out]; have := HQ.out; omega) HFR.out.2.1).mono ?_
      rintro e w7 ⟨x7, rfl, hx7, g7⟩
      have HX7 := hidden hx7
      have HL7 := hidden (HL6.out.of_below g7)
      have HG7 := hidden (HG6.out.of_below g7)
      have HU7 := hidden (HU6.out.grow g7)
      have HC7 := hidden (HCI.out.grow g7)
      clear g7 hx7
      go_wp2_with fail
      refine (HK.out.gather _ (gatherV v la) _ lb w7 HX7.out (gatherV_valid HVB.out la) (by rw [gatherV_len, HNA.out]; have := HQ.out; omega) (HUB.out.grow HG7.out) (by rw [HNB.out]; have := HQ.out; omega) HFR.out.2.2.1).mono ?_
      rintro e w8 ⟨x8, rfl, hx8, g8⟩
      rw [gather_gather HVB.out] at hx8
      have HGV := hidden (gatherV_valid HVB.out (lb.map (compI la)))
      have HGF := hidden (gatherV_fit v (lb.map (compI la)) (by rw [List.length_map, HNB.out]; have := HQ.out; omega))
      have HGT := hidden (show frIn (gatherV v (lb.map (compI la))).T by unfold gatherV; rw [buildV_T]; exact HFR.out.1)
      have HCG : Hid (∀ W, Grows w8 W → Calls Try.prog 24 #[.agg #[.int .i64 v.T, .slice P1 v.is.length m1, .slice P2 v.ts.length m2, .slice P3 v.ns.length m3], .slice AC nb cC] W fun e w' => ∃ u, e = .returned u ∧ Grows W w' ∧ IsVv (gatherV v (lb.map (compI la))) u w') := hidden fun W h =>
        (HK.out.gather _ v _ (lb.map (compI la)) W (HXP.out _ ((HG7.out.of_below g8).of_below h)) HVB.out (by have := HQ.out; omega) ((HC7.out.grow g8).grow h) (by rw [List.length_map, HNB.out]; have := HQ.out; omega) (fun i hi => by
          obtain ⟨j, _, rfl⟩ := List.mem_map.1 hi
          exact compI_fr HFR.out.2.1 j)).mono fun e w' ⟨u, he, hr, hg⟩ => ⟨u, he, hg, hr⟩
      generalize gatherV v (lb.map (compI la)) = gv at *
      obtain ⟨Gp, Gq, Gr, rfl, j1, j2, j3⟩ := id hx8
      obtain ⟨G1, g1, rfl⟩ := j1.slice_
      obtain ⟨G2, g2, rfl⟩ := j2.slice_
      obtain ⟨G3, g3, rfl⟩ := j3.slice_
      have HX8 := hidden hx8
      have HL8 := hidden (HL7.out.of_below g8)
      have HU8 := hidden (HU7.out.grow g8)
      clear g8 hx8 j1 j2 j3 HC7 HX7
      go_wp2_with (first
        | (refine wpList_store_vc rfl _ _ rfl w8.heap.size rfl _ _ _ _ rfl (all4 rfl rfl rfl rfl) (Row.new w8 29 #[.int .i64 0, .slice none 0 0, .slice none 0 0, .slice none 0 0] [.int .i64 0, .slice none 0 0, .slice none 0 0, .slice none 0 0] rfl) ?_; intro W9 hR hO; have HZ9 := hidden hR; have HG9w := hidden hO.grows_old; have HL9 := hidden (HL8.out.of_below hO.grows_old); have HX9 := hidden (HX8.out.grow hO.grows_old); have HU9w := hidden (HU8.out.grow hO.grows_old); clear hR hO))
      have HX := hidden (fun X (h : Grows W9 X) => And.intro (HCL.out X (HL9.out.of_below h)) (⟨(HZ9.out.grow h).cell 0, (HZ9.out.grow h).cell 1, (HZ9.out.grow h).cell 2, (HZ9.out.grow h).cell 3⟩ : X.cell? ⟨w8.heap.size, 0, none⟩ = some (.int .i64 gv.T) ∧ X.cell? ⟨w8.heap.size, 1, none⟩ = some (.slice G1 gv.is.length g1) ∧ X.cell? ⟨w8.heap.size, 2, none⟩ = some (.slice G2 gv.ts.length g2) ∧ X.cell? ⟨w8.heap.size, 3, none⟩ = some (.slice G3 gv.ns.length g3)))
      have HE1 := hidden (fun (a b : Value) W (h1 : IsV W a gv) (h2 : IsV W b gv) => const_loose (rEqual17_self a b gv W h1 h2 HGF.out))
      have HV1 := hidden (fun W (h : Grows W9 W) => const_loose (HK.out.valid _ gv W (HX9.out.grow h) HGF.out HGT.out))
      rw [HGV.out] at HV1
      refine wp_region_loose (tabRs [(3, IsVv gv), (4, ConstV (.bool true)), (8, ConstV (.bool true))]) (by kernel_rfl) (by kernel_rfl) (tabRs_cons IsVv.lasts (tabRs_cons ConstV.lasts (tabRs_cons ConstV.lasts tabRs_nil))) ?_
      iterate 3 ((with_reducible refine loose_one (v := ?_) (a' := ?_) ?_ ?_ (fun w' hC' hG' => ?_) ?_ ?_); rotate_left 2; (focus rfl); (focus rfl); (focus (obtain ⟨⟨x0, x1, x2, x3⟩, y0, y1, y2, y3⟩ := HX.out w' hC'; clear hC' hG'; go_simp; rfl)); (focus (go_simp; rfl)))
      refine loose_call (R := IsVv gv) (f := 24) (args := #[.agg #[.int .i64 v.T, .slice P1 v.is.length m1, .slice P2 v.ts.length m2, .slice P3 v.ns.length m3], .slice AC nb cC]) (by rfl) (by rfl) (fun _ => by go_simp) (fun w' hC' hG' => HCG.out w' (HG9w.out.of_below hC')) ?_
      rintro u3 ⟨_, _, _⟩
      refine ⟨?_, ?_, ?_⟩
      rotate_left
      · go_simp
        rfl
      refine loose_call (R := ConstV (.bool true)) (f := 13) (args := #[.agg #[.int .i64 gv.T, .slice G1 gv.is.length g1, .slice G2 gv.ts.length g2, .slice G3 gv.ns.length g3], u3]) (by rfl) (by rfl) (fun _ => by go_simp) (fun w' hC' hG' => HE1.out _ u3 w' (HX9.out.grow hC') ((hG' 3 (by kernel_rfl)).2 rfl)) ?_
      rintro _ ⟨_, _, rfl⟩
      refine ⟨?_, ?_, ?_⟩
      rotate_left
      · go_simp
        rfl
      iterate 3 ((with_reducible refine loose_one (v := ?_) (a' := ?_) ?_ ?_ (fun w' hC' hG' => ?_) ?_ ?_); rotate_left 2; (focus rfl); (focus rfl); (focus (obtain ⟨⟨x0, x1, x2, x3⟩, y0, y1, y2, y3⟩ := HX.out w' hC'; clear hC' hG'; go_simp; rfl)); (focus (go_simp; rfl)))
      refine loose_call (R := ConstV (.bool true)) (f := 19) (args := #[.agg #[.int .i64 gv.T, .slice G1 gv.is.length g1, .slice G2 gv.ts.length g2, .slice G3 gv.ns.length g3]]) (by rfl) (by rfl) (fun _ => by go_simp) (fun w' hC' hG' => HV1.out w' hC') ?_
      rintro _ ⟨_, _, rfl⟩
      refine ⟨?_, ?_, ?_⟩
      rotate_left
      · go_simp
        rfl
      iterate 2 ((with_reducible refine loose_one (v := ?_) (a' := ?_) ?_ ?_ (fun w' hC' hG' => ?_) ?_ ?_); rotate_left 2; (focus rfl); (focus rfl); (focus (obtain ⟨⟨x0, x1, x2, x3⟩, y0, y1, y2, y3⟩ := HX.out w' hC'; clear hC' hG'; go_simp; rfl)); (focus (go_simp; rfl)))
      refine loose_done (fun w10 hC' hG' => ?_)
      have HL10 := hidden (HL9.out.of_below hC')
      have HU10 := hidden (HU9w.out.grow hC')
      clear hC' hG' HX HE1 HV1
      go_wp2_with fail
      go_loopw [16, 110] (fun out i wr => ∃ k : Nat, k ≤ v.ns.length ∧ i = .int .i64 (k : Int) ∧ OwnRs w10.heap.size wr out ((List.range k).map (fun i => [(valsW v).getD i nulX, (valsW v).getD (v.ns.length - 1 - i) nulX])) ∧ Grows w10 wr) (fun _ i _ => v.ns.length - (intOf i).toNat)
      case atStart => exact ⟨0, Nat.zero_le _, rfl, OwnRs.nil_ _ _, Below.refl _ _⟩
      case round =>
        obtain ⟨k, hk, rfl, hown, hb⟩ := hrel
        have HB := hidden hb
        have HO := hidden hown
        clear hb hown
        by_cases hlt : k < v.ns.length
        · have hd : decide (k < v.ns.length) = true := by simpa using hlt
          have hk0 : (0 : Int) ≤ (k : Int) := by omega
          have hk1 : (k : Int) < (v.ns.length : Int) := by omega
          have HLT := hidden hlt
          have hnb := HQ.out.1
          obtain ⟨j, hj⟩ : ∃ j, j = v.ns.length - 1 - k := ⟨_, rfl⟩
          have hj0 : (0 : Int) ≤ (j : Int) := by omega
          have hj1 : (j : Int) < (v.ns.length : Int) := by omega
          have hw1 : IntKind.i64.wrap ((v.ns.length : Int) - 1) = (v.ns.length : Int) - 1 := by first | go_num | (simp [IntKind.wrap, IntKind.bits, IntKind.signed]; omega)
          have hw2 : IntKind.i64.wrap ((v.ns.length : Int) - 1 - (k : Int)) = (j : Int) := by simp [IntKind.wrap, IntKind.bits, IntKind.signed]; omega
          have hkl : k < (valsW v).length := by rw [vals_len]; exact hlt
          have hjl : j < (valsW v).length := by rw [vals_len]; omega
          obtain ⟨b0, off, rfl, ka⟩ := HU10.out.at_ hkl
          obtain ⟨b0', off', he0, kb⟩ := HU10.out.at_ hjl
          injection he0 with he0
          injection he0 with he1 he2
          subst he1 he2
          have ey : ∃ y z : Val, (∀ W, Grows w10 W → W.cell? ⟨b0, off + k * 3, none⟩ = some (.int .i64 y.k) ∧ W.cell? ⟨b0, off + k * 3 + 1, none⟩ = some (.int .i64 y.n) ∧ W.cell? ⟨b0, off + k * 3 + 2, none⟩ = some (.string y.t)) ∧ (∀ W, Grows w10 W → W.cell? ⟨b0, off + j * 3, none⟩ = some (.int .i64 z.k) ∧ W.cell? ⟨b0, off + j * 3 + 1, none⟩ = some (.int .i64 z.n) ∧ W.cell? ⟨b0, off + j * 3 + 2, none⟩ = some (.string z.t)) ∧ (valsW v).getD k nulX = y ∧ (valsW v).getD j nulX = z :=
            ⟨_, _, ka, kb, by rw [List.getD_eq_getElem?_getD, List.getElem?_eq_getElem hkl]; rfl, by rw [List.getD_eq_getElem?_getD, List.getElem?_eq_getElem hjl]; rfl⟩
          clear ka kb
          obtain ⟨y, z, ka, kb, hy, hz⟩ := ey
          have HTK := hidden (show (List.range (k + 1)).map (fun i => [(valsW v).getD i nulX, (valsW v).getD (v.ns.length - 1 - i) nulX]) = (List.range k).map (fun i => [(valsW v).getD i nulX, (valsW v).getD (v.ns.length - 1 - i) nulX]) ++ [[y, z]] by rw [List.range_succ, List.map_append, ← hy, ← hz, hj]; rfl)
          have HX := hidden (fun X (h : Grows wr X) => And.intro (ka X (HB.out.of_below h)) (kb X (HB.out.of_below h)))
          have HLN := hidden (show ((List.range k).map (fun i => [(valsW v).getD i nulX, (valsW v).getD (v.ns.length - 1 - i) nulX])).length + 1 ≤ 1000001 by simp; omega)
          clear ka kb hy hz hkl hjl hj hlt hk
          go_wp2_with fail
          refine wp_region_loose_tail 15 (tabRs [(13, OwnRow w10.heap.size [y, z]), (14, NewRow w10.heap.size [y, z])]) (by kernel_rfl) (by kernel_rfl) (tabRs_cons OwnRow.lasts (tabRs_cons NewRow.lasts tabRs_nil)) ?_
          simp only [List.take_succ_cons, List.take_zero, List.drop_succ_cons, List.drop_zero]
          iterate 13 ((with_reducible refine loose_one (v := ?_) (a' := ?_) ?_ ?_ (fun w' hC' hG' => ?_) ?_ ?_); rotate_left 2; (focus rfl); (focus rfl); (focus (obtain ⟨⟨x0, x1, x2⟩, y0, y1, y2⟩ := HX.out w' hC'; clear hC' hG'; go_simp; rfl)); (focus (go_simp; rfl)))
          refine loose_new (R := OwnRow w10.heap.size [y, z]) (by rfl) (by rfl) (fun w' hC' hG' => ?_) ?_
          · exact ⟨.slice (some ⟨w'.heap.size, 0, none⟩) 2 2, w'.alloc (.cells #[.int .i64 y.k, .int .i64 y.n, .string y.t, .int .i64 z.k, .int .i64 z.n, .string z.t] 37), by first | rfl | go_simp, grow1 _, ownRow_new2 w' _ y z (Nat.le_trans HB.out.size hC'.size)⟩
          rintro u ⟨w5x, w6x, hu5⟩
          obtain ⟨UA, UN, UC, rfl⟩ := ownsRow_slice hu5
          refine ⟨?_, ?_, ?_⟩
          rotate_left
          · go_simp
            rfl
          refine loose_new (R := NewRow w10.heap.size [y, z]) (by rfl) (by rfl) (fun w' hC' hG' => ?_) ?_
          · have h7 : OwnRow w10.heap.size [y, z] (.slice UA UN UC) w' := (hG' 13 (by kernel_rfl)).2 rfl
            exact ⟨.slice (some ⟨w'.heap.size, 0, none⟩) 1 1, w'.alloc (.cells #[.slice UA UN UC] 65), by first | rfl | go_simp, grow1 _, w'.heap.size, _, rfl, (Row.new w' 65 _ [.slice UA UN UC] rfl).cell 0, ownsRow_grow h7 (grow1 _)⟩
          rintro _ ⟨_, _, g8x, u8x, rfl, _, _⟩
          refine ⟨?_, ?_, ?_⟩
          rotate_left
          · go_simp
            rfl
          refine loose_done (fun w11 hC' hG' => ?_)
          obtain ⟨g9x, u9x, e9x, hc9, hu9⟩ : NewRow w10.heap.size [y, z] (.slice (some ⟨g8x, 0, none⟩) 1 1) w11 := (hG' 14).2 rfl
          injection e9x with e9x
          injection e9x with e9x
          injection e9x with e9x
          subst e9x
          have HU11 := hidden hu9
          have HC11 := hidden hc9
          obtain ⟨vs, hvs0⟩ := HO.out.grow hC'
          have HVS := hidden hvs0
          have HB11 := hidden (HB.out.of_below hC')
          have hsz : w10.heap.size ≤ w11.heap.size := HB11.out.size
          clear hC' hG' w6x hu5 hvs0 hu9 hc9 HX
          go_wp2_with (first
            | (at_builtin; go_loud (refine wpList_append_cx rfl _ _ 57 rfl 65 (.slice none 0 0) 24 Try.underlying57 infoR17 rfl _ vs (by rfl) w10.heap.size _ HVS.out.2.1 hsz u9x (ownsRow_one HU11.out) g8x (by rfl) HC11.out (by have := HLN.out; omega) (by have := HLN.out; omega) ?_); intro v' w12 hown3 hon3 hbk3; have HO3 := hidden (OwnRsC.snoc HVS.out HU11.out hown3 hon3); have HG3x := hidden (hon3.below HB11.out (fun i hi => (HVS.out.2.1.lt i hi).1)); clear hown3 hon3 hbk3))
          go_roundw
          case rel => exact ⟨k + 1, HLT.out, by go_num, by rw [HTK.out]; exact HO3.out, HG3x.out⟩
          case measure => have := HLT.out; simp [intOf]; omega
        · have hke : k = v.ns.length := by omega
          have hd : decide (k < v.ns.length) = false := by simpa using hlt
          have HRS := hidden (show IsRs wr _ (mirR (valsW v)) by have h1 := HO.out.isRs; rw [hke] at h1; unfold mirR; rw [vals_len]; exact h1)
          obtain ⟨AR, cR, he⟩ := HRS.out.slice_
          rw [mirR_len, vals_len] at he
          subst he
          have HL12 := hidden (HL10.out.of_below HB.out)
          have HG12 := hidden (HG0.out.of_below HL12.out)
          have HMF := hidden (mirR_fit (validVB_iff.1 HVB.out).1 (okL_vals HVB.out))
          have HML := hidden (show (mirR (valsW v)).length ≤ 100 by rw [mirR_len, vals_len]; exact HQ.out.1)
          obtain ⟨x0, x1, x2, x3⟩ := HCL.out wr HL12.out
          clear hlt hke hk HO HB
          generalize wr = w12 at *
          have hs0 := HFR.out.2.2.2
          obtain ⟨sn, rfl⟩ := Int.eq_ofNat_of_zero_le hs0.1
          have HSN := hidden (show sn ≤ 255 by omega)
          clear hs0
          go_wp2_with fail
          clear x0 x1 x2 x3
          obtain ⟨W13, hW13⟩ : ∃ W, W = w12.alloc (.cells #[.int .i64 v.T, .int .i64 v.T] 3) := ⟨_, rfl⟩
          have hg13 : Grows w12 W13 := by rw [hW13]; exact grow1 _
          have HT13 := hidden (show IsI W13 (.slice (some ⟨w12.heap.size, 0, none⟩) 2 2) [v.T, v.T] from Reads.of_row (show Row W13 w12.heap.size 3 (icells [v.T, v.T]) by rw [hW13]; exact Row.new _ _ _ _ rfl) 2 2 rfl (Nat.le_refl _))
          have HS13 := hidden (HRS.out.grow hg13)
          have HL13 := hidden (HL12.out.of_below hg13)
          rw [← hW13]
          clear hW13 hg13
          refine (HK.out.fromRows _ [v.T, v.T] _ (mirR (valsW v)) W13 HT13.out HS13.out HMF.out (by simp) (by have := HML.out; omega)).mono ?_
          rintro e w14 ⟨x14, rfl, hx14, g14⟩
          have HBV := hidden (batR_valid HMF.out)
          have HBR := hidden (rows_batR HMF.out)
          have HBC := hidden (show (batR [v.T, v.T] (mirR (valsW v))).cs.length ≤ 100 by rw [batR_cs]; simp)
          have HBL := hidden (show (batR [v.T, v.T] (mirR (valsW v))).len ≤ 1000 ∧ frIn (batR [v.T, v.T] (mirR (valsW v))).len by
            have h1 := HML.out
            have e1 : (batR [v.T, v.T] (mirR (valsW v))).len = ((mirR (valsW v)).length : Int) := rfl
            rw [e1]
            unfold frIn
            omega)
          have HBS := hidden (show (batR [v.T, v.T] (mirR (valsW v))).sel = [] from rfl)
          have HBX := hidden (show ∀ x ∈ (batR [v.T, v.T] (mirR (valsW v))).cs, FitLen x ∧ frIn x.T by
            intro x hx
            simp only [batR, List.mem_map, List.mem_range] at hx
            obtain ⟨j, hj, rfl⟩ := hx
            refine ⟨buildV_fit _ _ (by rw [List.length_map]; have := HML.out; omega), ?_⟩
            rw [buildV_T]
            have : ∀ T ∈ [v.T, v.T], frIn T := fun T hT => by simp at hT; rw [hT]; exact HFR.out.1
            exact this _ (getD_mem hj))
          generalize batR [v.T, v.T] (mirR (valsW v)) = bt at *
          obtain ⟨pb, qb, rfl, jb1, jb2⟩ := id hx14
          obtain ⟨F1, f1, rfl⟩ := jb1.slice_
          obtain ⟨F2, f2, rfl⟩ := jb2.slice_
          have HB14 := hidden hx14
          have HL14 := hidden (HL13.out.of_below g14)
          have HS14 := hidden (HS13.out.grow g14)
          clear g14 hx14 jb1 jb2
          go_wp2_with (first
            | (refine wpList_store_bat rfl _ _ rfl w14.heap.size rfl _ _ _ _ rfl (all4 rfl rfl rfl rfl) (Row.new w14 45 #[.slice none 0 0, .int .i64 0, .bool false, .slice none 0 0] [.slice none 0 0, .int .i64 0, .bool false, .slice none 0 0] rfl) ?_; intro W15 hR hO; have HZ15 := hidden hR; have HB15 := hidden (HB14.out.grow hO.grows_old); have HL15 := hidden (HL14.out.of_below hO.grows_old); have HS15 := hidden (HS14.out.grow hO.grows_old); obtain ⟨x0, x1, x2, x3⟩ := HCL.out W15 HL15.out; clear hR hO))
          clear x0 x1 x2 x3
          obtain ⟨W16, hW16⟩ : ∃ W, W = W15.alloc (.cells #[.int .i64 v.T, .int .i64 v.T] 3) := ⟨_, rfl⟩
          have hg16 : Grows W15 W16 := by rw [hW16]; exact grow1 _
          have HT16 := hidden (show IsI W16 (.slice (some ⟨W15.heap.size, 0, none⟩) 2 2) [v.T, v.T] from Reads.of_row (show Row W16 W15.heap.size 3 (icells [v.T, v.T]) by rw [hW16]; exact Row.new _ _ _ _ rfl) 2 2 rfl (Nat.le_refl _))
          have HS16 := hidden (HS15.out.grow hg16)
          have HL16 := hidden (HL15.out.of_below hg16)
          have HZ16 := hidden (HZ15.out.grow hg16)
          have HB16 := hidden (HB15.out.grow hg16)
          rw [← hW16]
          clear hW16 hg16
          have hsp := HK.out.split _ [v.T, v.T] _ (mirR (valsW v)) (1 + sn) W16 HT16.out HS16.out HMF.out (by simp) (by have := HML.out; omega) (by omega) (by have := HSN.out; omega)
          have ecast : ((1 + sn : Nat) : Int) = 1 + (sn : Int) := by omega
          rw [ecast] at hsp
          have hsn := HSN.out
          have e3 : wrap64 (1 + wrap64 (sn : Int)) = 1 + (sn : Int) := by first | go_num | (unfold wrap64; omega) | (simp [wrap64]; omega)
          rw [e3]
          clear e3 hsn
          refine hsp.mono ?_
          rintro e w17 ⟨x17, rfl, hx17, g17⟩
          obtain ⟨D1, D3, eD, -⟩ := id hx17
          generalize hdl : (splitB [v.T, v.T] (mirR (valsW v)) (1 + sn)).length = D2 at *
          subst eD
          have HS17 := hidden (HS16.out.grow g17)
          have HL17 := hidden (HL16.out.of_below g17)
          have HG17 := hidden (HG0.out.of_below HL17.out)
          have HZ17 := hidden (HZ16.out.grow g17)
          have HB17 := hidden (HB16.out.grow g17)
          have HX17 := hidden hx17
          have HDL := hidden hdl
          clear g17 hx17 hsp ecast hdl
          have y0 := HZ17.out.cell 0
          have y1 := HZ17.out.cell 1
          have y2 := HZ17.out.cell 2
          have y3 := HZ17.out.cell 3
          simp only [List.getElem?_cons_succ, List.getElem?_cons_zero] at y0 y1 y2 y3
          go_wp2_with fail
          refine (HK.out.validB _ bt w17 HB17.out ⟨by have := HBC.out; omega, by rw [HBS.out]; simp, fun x hx => (HBX.out x hx).1⟩ HBL.out.2 (fun x hx => (HBX.out x hx).2) (by rw [HBS.out]; simp)).mono ?_
          rintro e w18 ⟨rfl, g18⟩
          rw [HBV.out]
          have HZ18 := hidden (HZ17.out.grow g18)
          have HB18 := hidden (HB17.out.grow g18)
          have HS18 := hidden (HS17.out.grow g18)
          have HX18 := hidden (IsBs_grow HX17.out g18)
          have HG18 := hidden (HG17.out.of_below g18)
          clear g18 y0 y1 y2 y3
          have y0 := HZ18.out.cell 0
          have y1 := HZ18.out.cell 1
          have y2 := HZ18.out.cell 2
          have y3 := HZ18.out.cell 3
          simp only [List.getElem?_cons_succ, List.getElem?_cons_zero] at y0 y1 y2 y3
          go_wp2_with fail
          clear y0 y1 y2 y3
          refine (HK.out.rows _ bt w18 HB18.out HBV.out HBC.out HBL.out.1).mono ?_
          rintro e w19 ⟨u19, rfl, hu19, g19⟩
          rw [HBR.out] at hu19
          have HU19 := hidden hu19
          have HS19 := hidden (HS18.out.grow g19)
          have HX19 := hidden (IsBs_grow HX18.out g19)
          have HG19 := hidden (HG18.out.of_below g19)
          clear g19 hu19
          have HMM := hidden (show ∀ r ∈ mirR (valsW v), r.length ≤ 1000000000 from fun r hr => by rw [(HMF.out.2 r hr).1]; simp)
          go_wp2_with fail
          refine (sameRows_self _ _ (mirR (valsW v)) w19 HU19.out HS19.out (by have := HML.out; omega) HMM.out).mono ?_
          rintro e w20 ⟨rfl, g20⟩
          have HS20 := hidden (HS19.out.grow g20)
          have HX20 := hidden (IsBs_grow HX19.out g20)
          have HG20 := hidden (HG19.out.of_below g20)
          clear g20
          go_wp2_with fail
          refine (HK.out.allrows _ (splitB [v.T, v.T] (mirR (valsW v)) (1 + sn)) w20 HX20.out (by
            unfold splitB
            rw [List.length_map]
            have := pieces_len (1 + sn) (by omega) (mirR (valsW v)).length (mirR (valsW v))
            have := HML.out
            omega) (split_ok HMF.out (by simp) (by have := HML.out; omega))).mono ?_
          rintro e w21 ⟨u21, rfl, hu21, g21⟩
          rw [split_rows HMF.out (by omega)] at hu21
          have HU21 := hidden hu21
          have HS21 := hidden (HS20.out.grow g21)
          have HG21 := hidden (HG20.out.of_below g21)
          clear g21 hu21
          go_wp2_with fail
          refine (sameRows_self _ _ (mirR (valsW v)) w21 HU21.out HS21.out (by have := HML.out; omega) HMM.out).mono ?_
          rintro e w22 ⟨rfl, g22⟩
          have HG22 := hidden (HG21.out.of_below g22)
          clear g22
          go_wp2_with fail
          refine (HAW.out w22).mono ?_
          rintro e w23 ⟨rfl, g23⟩
          have HG23 := hidden (HG22.out.of_below g23)
          clear g23
          go_wp2_with fail
          go_ret
          exact ⟨rfl, HG23.out⟩
end Go.Proofs.Ytfjhahhkakfhmaa
/-
  Shaken: what the claims of this seat need of this text. No condition.
-/
namespace Go.Proofs.Ytfjhahhkakfhmaa
open Go.RowKit
set_option linter.unusedVariables false
set_option linter.unusedSimpArgs false
theorem sel_ge {len : Int} {sel : List Int} : ∀ {m : Nat}, selsB len sel m = true → ∀ i, i < m → (i : Int) ≤ sel.getD i 0 ∧ sel.getD i 0 < len := by
  intro m h i
  have hall := selsB_iff.1 h
  induction i with
  | zero =>
    intro hi
    have := hall 0 hi
    unfold okSel at this
    simp only [Bool.and_eq_true, decide_eq_true_eq] at this
    exact ⟨this.1, this.2.1⟩
  | succ j ih =>
    intro hi
    have h1 := ih (by omega)
    have := hall (j + 1) hi
    unfold okSel at this
    simp only [Bool.and_eq_true, decide_eq_true_eq, Bool.or_eq_true, Nat.add_sub_cancel] at this
    obtain ⟨h2, h3, h4⟩ := this
    refine ⟨?_, h3⟩
    rcases h4 with h4 | h4
    · omega
    · omega
theorem valid_parts17 {B : Bat} (h : validBB B = true) : 0 ≤ B.len ∧ (∀ v ∈ B.cs, validVB v = true ∧ (v.ns.length : Int) = B.len) ∧ (B.sel.length : Int) ≤ B.len := by
  unfold validBB at h
  simp only [Bool.and_eq_true, decide_eq_true_eq] at h
  obtain ⟨h0, _, h2, h3⟩ := h
  refine ⟨h0, fun v hv => ?_, ?_⟩
  · have := List.all_eq_true.1 h2 v hv
    unfold colB at this
    simpa using this
  · by_cases hs : B.sel.length = 0
    · omega
    · have := sel_ge h3 (B.sel.length - 1) (by omega)
      omega
theorem okB_of {B : Bat} (h : validBB B = true) (hc : B.cs.length ≤ 1000) (hl : B.len ≤ 1000000) : OkB B := by
  obtain ⟨h0, h1, h2⟩ := valid_parts17 h
  exact ⟨hc, by omega, hl, fun v hv => ⟨okAt_of_valid (h1 v hv).1, by have := (h1 v hv).2; omega⟩⟩
def RowsV (ls : List (List Val)) : Value → World → Prop := fun u w => IsRs w u ls
theorem RowsV.lasts {ls : List (List Val)} : ∀ v w w', RowsV ls v w → Grows w w' → RowsV ls v w' := fun _ _ _ h hg => IsRs.grow h hg
def IntsV (l : List Int) : Value → World → Prop := fun u w => IsI w u l
theorem IntsV.lasts {l : List Int} : ∀ v w w', IntsV l v w → Grows w w' → IntsV l v w' := fun _ _ _ h hg => IsI.grow h hg
def BatV (B : Bat) : Value → World → Prop := fun u w => IsB w u B
theorem BatV.lasts {B : Bat} : ∀ v w w', BatV B v w → Grows w w' → BatV B v w' := fun _ _ _ h hg => IsB.grow h hg
def BatsV (l : List Bat) : Value → World → Prop := fun u w => IsBs w u l
theorem BatsV.lasts {l : List Bat} : ∀ v w w', BatsV l v w → Grows w w' → BatsV l v w' := fun _ _ _ h hg => IsBs_grow h hg
end Go.Proofs.Ytfjhahhkakfhmaa
