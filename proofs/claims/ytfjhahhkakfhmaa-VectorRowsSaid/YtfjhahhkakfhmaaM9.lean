/-
  Texts that the claims of this seat share, put together (VdJ, VcW1, VcW2, VcW3, VcW4, VcR, VcW5, VcW6, VcS1). No condition.
-/
import Derived.Test.YtfjhahhkakfhmaaM8
import Derived.Test.YtfjhahhkakfhmaaM2
/-
  Shaken: what the claims of this seat need of this text. No condition.
-/
namespace Go.Proofs.Ytfjhahhkakfhmaa
set_option maxRecDepth 8000
open Go.RowKit
set_option linter.unusedVariables false
set_option linter.unusedSimpArgs false
theorem wpList_append_v4x {wr : World} {ops : Array Oper} {rest : List Oper} {o : Oper} {a : Act} {Q : Exit → Act → World → Prop} (hgd : o.guard = none) (s x : Operand)
    (ho : o.op = .call { callee := .builtin .append, args := #[s, x], argTypes := #[42, 42] })
    (v : Value) (n : Nat) (pre : List Value) (hs : a.eval s = v) (base : Nat) (hown : wr.ownsRow base 29 4 v n pre) (hbase : base ≤ wr.heap.size)
    (p q r t : Value) (h1 : (#[p, q, r, t] : Array Value).all (·.oneCell') = true) (N : Nat) (hx : a.eval x = .slice (some ⟨N, 0, none⟩) 1 1) (hrow : Row wr N 29 [p, q, r, t]) (hlen : n + 1 ≤ 1000000000)
    (h : ∀ v' w', w'.ownsRow base 29 4 v' (n + 1) (pre ++ [p, q, r, t]) → Only (fun k => v.ownBlock = some k) wr w' → wpList Try.prog ops Q rest (a.put o.dst v') w') :
    wpList Try.prog ops Q (o :: rest) a wr := by
  obtain ⟨i0, hi, hz0, hs1, hs2⟩ := info_parts infoV17p
  refine wpList_append_own_at _ hgd s x 42 ho base 29 i0 _ 4 80 Try.underlying42 hi hz0 hs1 hs2 rfl (by decide) v n pre hs hown ⟨N, 0, none⟩ 1 1 [p, q, r, t] hx rfl ?_ ?_ (by unfold maxLen; omega) (by omega) hbase ?_
  · intro j y hj
    rw [Addr.add_lit, Nat.zero_add, hrow.cell]
    exact hj
  · intro y hy
    simp only [List.all_toArray, List.all_cons, List.all_nil, Bool.and_true, Bool.and_eq_true] at h1
    simp at hy
    rcases hy with rfl | rfl | rfl | rfl
    · exact h1.1
    · exact h1.2.1
    · exact h1.2.2.1
    · exact h1.2.2.2
  · intro v' w' h2 h3 _ _
    exact h v' w' h2 (Only.by_ h3)
def OwnVR (base : Nat) (u : Vec) : Value → World → Prop := fun x w => OwnV base w x u
theorem OwnVR.lasts {base : Nat} {u : Vec} : ∀ v w w', OwnVR base u v w → Grows w w' → OwnVR base u v w' := fun _ _ _ h hg => OwnV.only h (Only.of_grows hg (fun _ => False)) (fun _ _ => id)
def NewVR (base : Nat) (u : Vec) : Value → World → Prop := fun y w => ∃ g p q r t, y = .slice (some ⟨g, 0, none⟩) 1 1 ∧ Row w g 29 [p, q, r, t] ∧ OwnV base w (.agg #[p, q, r, t]) u
theorem NewVR.lasts {base : Nat} {u : Vec} : ∀ v w w', NewVR base u v w → Grows w w' → NewVR base u v w' := fun _ _ _ ⟨g, p, q, r, t, h1, h2, h3⟩ hg => ⟨g, p, q, r, t, h1, h2.grow hg, OwnVR.lasts _ _ _ h3 hg⟩
def FlRel (w w1 : World) (cs : List Vec) (ix : List Int) (d g n : Nat) (S : List Value) (i : Value) (wr : World) : Prop :=
  ∃ (k : Nat) (v : Value) (xs : List Value), k ≤ cs.length ∧ i = .int .i64 (k : Int) ∧ BatW w1 d g n v xs ((cs.take k).map (fun y => gatherV y ix)) wr ∧ Row wr w.heap.size 45 S
set_option maxHeartbeats 16000000 in
theorem vflatten_any (x : Value) (B : Bat) (w : World) (hx : IsB w x B) (hv : ∀ y ∈ B.cs, validVB y = true) (h0 : 0 ≤ B.len) (h1 : B.len ≤ 1000000000) (hc : B.cs.length ≤ 1000) (hi : (idxB B).length ≤ 1000000000) :
    Calls Try.prog 37 #[x] w (BatI (flatB B) w) := by
  rw [flatB_eq]
  have HIX := hidden (fun W (h : Grows w W) => rowIndices_any x B W (hx.grow h) h0 h1)
  obtain ⟨cs, L, al, sel⟩ := B
  obtain ⟨p, q, rfl, hp, hq⟩ := hx
  dsimp only at *
  have HP := hidden hp
  have HVV := hidden hv
  obtain ⟨A, c, rfl⟩ := hp.slice_
  obtain ⟨E, d, rfl⟩ := hq.slice_
  generalize idxB ⟨cs, L, al, sel⟩ = ix at *
  obtain ⟨m, hm⟩ : ∃ m, cs.length = m := ⟨_, rfl⟩
  have HM := hidden hm
  obtain ⟨n, hn⟩ : ∃ n, ix.length = n := ⟨_, rfl⟩
  have HN := hidden hn
  have HMB := hidden (show m ≤ 1000 ∧ n ≤ 1000000000 by omega)
  generalize sel.length = sl at *
  rw [hm] at HP HIX ⊢
  rw [hn]
  obtain ⟨W0, hW0⟩ : ∃ W0, W0 = (w.alloc (.cells #[.slice A m c, .int .i64 L, .bool al, .slice E sl d] 45)).alloc (.cells #[.slice none 0 0, .int .i64 0, .bool false, .slice none 0 0] 45) := ⟨_, rfl⟩
  have HG0 := hidden (show Grows w W0 by rw [hW0]; exact (grow1 _).of_below (grow1 _))
  have HR0 := hidden (show Row W0 w.heap.size 45 [.slice A m c, .int .i64 L, .bool al, .slice E sl d] by rw [hW0]; exact (Row.new w 45 _ _ rfl).grow (grow1 _))
  have HD0 := hidden (show Row W0 (w.heap.size + 1) 45 [.slice none 0 0, .int .i64 0, .bool false, .slice none 0 0] by rw [hW0]; exact Row.at_ _ _ _ _ rfl _ (by simp))
  have HSZ := hidden (show W0.heap.size = w.heap.size + 2 by rw [hW0]; simp)
  have p0 := HR0.out.cell 0
  have p1 := HR0.out.cell 1
  have p2 := HR0.out.cell 2
  have p3 := HR0.out.cell 3
  simp only [List.getElem?_cons_succ, List.getElem?_cons_zero] at p0 p1 p2 p3
  rw [hW0] at p0 p1 p2 p3
  have HW := hidden hW0
  clear hW0 hp hq hv h0 h1 hc hi hm hn
  go_enter Try.func37, Try.ntmps37
  go_wp2_with (first | (go_at_call 66; rw [← HW.out]; refine (HIX.out _ HG0.out).mono ?_; rintro e w1 ⟨IA, IC, rfl, hi1, g1⟩; rw [HN.out] at hi1; have HI1 := hidden hi1; have HG1 := hidden (HG0.out.of_below g1); have HB1 := hidden (HR0.out.grow g1); have HD1 := hidden (HD0.out.grow g1); have HS1 := hidden g1.size; have r0 := HB1.out.cell 0; have r1 := (HB1.out.grow (grow1 (.cells #[.slice none 0 0, .int .i64 (n : Int), .bool true, .slice none 0 0] 45))).cell 0; simp only [List.getElem?_cons_succ, List.getElem?_cons_zero] at r0 r1; rw [HN.out]; clear hi1 g1 p0 p1 p2 p3))
  have HBW0 := hidden (show BatW w1 (w.heap.size + 1) w1.heap.size n (.slice none 0 0) [] ((cs.take 0).map (fun y => gatherV y ix)) (w1.alloc (.cells #[.slice none 0 0, .int .i64 (n : Int), .bool true, .slice none 0 0] 45)) from
    ⟨ColsW.nil_ _ _, Row.new w1 _ _ _ rfl, HD1.out.grow (grow1 _), Nat.le_refl _, by have := HS1.out; have := HSZ.out; omega, grow1 _⟩)
  have HBX0 := hidden (HB1.out.grow (grow1 (.cells #[.slice none 0 0, .int .i64 (n : Int), .bool true, .slice none 0 0] 45)))
  clear r0 r1
  go_loopw [15] (fun i wr => FlRel w w1 cs ix (w.heap.size + 1) w1.heap.size n [.slice A m c, .int .i64 L, .bool al, .slice E sl d] i wr) (fun i _ => m - (intOf i).toNat)
  case atStart => exact ⟨0, _, _, Nat.zero_le _, rfl, HBW0.out, HBX0.out⟩
  case round =>
    obtain ⟨k, vc, xs, hk, rfl, hst, hbx⟩ := hrel
    rw [HM.out] at hk
    have HS := hidden hst
    have HBX := hidden hbx
    clear hst hbx HBW0 HBX0
    have hmb : m ≤ 1000 := HMB.out.1
    by_cases hlt : k < m
    · have hkl : k < cs.length := by rw [HM.out]; exact hlt
      have hP := HP.out
      rw [← HM.out] at hP
      obtain ⟨b0, off, B1, d1, B2, d2, B3, d3, rfl, hcc⟩ := hP.at_ hkl
      have ey : ∃ y, y = cs[k] := ⟨_, rfl⟩
      obtain ⟨y, hy⟩ := ey
      have HTK := hidden (show (cs.take (k + 1)).map (fun y => gatherV y ix) = (cs.take k).map (fun y => gatherV y ix) ++ [gatherV y ix] by rw [List.take_add_one, List.getElem?_eq_getElem hkl, ← hy, List.map_append]; rfl)
      have HVY := hidden (HVV.out y (by rw [hy]; exact List.getElem_mem _))
      rw [← hy] at hcc
      have HC := hidden hcc
      obtain ⟨t0, t1, t2, t3, -⟩ := HC.out wr (HG1.out.of_below HS.out.grows)
      obtain ⟨s0, s1, s2, s3, -⟩ := HC.out (wr.alloc (.cells #[.int .i64 0, .slice none 0 0, .slice none 0 0, .slice none 0 0] 29)) ((HG1.out.of_below HS.out.grows).of_below (grow1 _))
      obtain ⟨WA, hWA⟩ : ∃ WA, WA = wr.alloc (.cells #[.int .i64 y.T, .slice B1 y.is.length d1, .slice B2 y.ts.length d2, .slice B3 y.ns.length d3] 29) := ⟨_, rfl⟩
      have HGA := hidden (show Grows wr WA by rw [hWA]; exact grow1 _)
      have HRA := hidden (show Row WA wr.heap.size 29 [.int .i64 y.T, .slice B1 y.is.length d1, .slice B2 y.ts.length d2, .slice B3 y.ns.length d3] by rw [hWA]; exact Row.new wr _ _ _ rfl)
      have HW2 := hidden hWA
      have HCX := hidden (fun X (h : Grows WA X) => And.intro ((HS.out.row.grow (HGA.out.of_below h)).cell 0) (And.intro ((HRA.out.grow h).cell 0) (And.intro ((HRA.out.grow h).cell 1) (And.intro ((HRA.out.grow h).cell 2) ((HRA.out.grow h).cell 3)))))
      simp only [List.getElem?_cons_succ, List.getElem?_cons_zero] at HCX
      have HGWA := hidden (HS.out.grows.of_below HGA.out)
      obtain ⟨gv, hgv⟩ : ∃ gv, gv = gatherV y ix := ⟨_, rfl⟩
      have HC1 := hidden (fun W (h : Grows WA W) => show Calls Try.prog 24 #[.agg #[.int .i64 y.T, .slice B1 y.is.length d1, .slice B2 y.ts.length d2, .slice B3 y.ns.length d3], .slice IA n IC] W (fun e w' => ∃ v, e = .returned v ∧ Grows W w' ∧ OwnVR w1.heap.size gv v w') from
        (vgather_any _ y (.slice IA n IC) ix W (HC.out W (HG1.out.of_below (HGWA.out.of_below h))).2.2.2.2 HVY.out (HI1.out.grow (HGWA.out.of_below h)) (by have := HMB.out; have := HN.out; omega)).mono fun e w' ⟨v, he, ho, hg⟩ => ⟨v, he, hg, by rw [hgv]; exact ho.base_ (HGWA.out.of_below h).size⟩)
      rw [← hgv] at HTK
      have HLV := hidden (show ((cs.take k).map (fun y => gatherV y ix)).length = k by rw [List.length_map, List.length_take]; omega)
      have hd : decide (k < m) = true := by simpa using hlt
      have hk0 : (0 : Int) ≤ (k : Int) := by omega
      have hk1 : (k : Int) < (m : Int) := by omega
      have hmm : m - (k + 1) < m - k := by omega
      have HK1 := hidden (show k + 1 ≤ cs.length by omega)
      have HKB := hidden (show k + 1 ≤ 1000000000 by omega)
      have HNW := hidden (show w.heap.size < w1.heap.size from HB1.out.lt)
      generalize (cs.take k).map (fun y => gatherV y ix) = VS at *
      clear hlt hk hkl hP hcc hy hWA hgv
      go_wp2_with fail
      rw [← HW2.out]
      refine wp_region_loose_tail 6 (tabRs [(4, OwnVR w1.heap.size gv), (5, NewVR w1.heap.size gv)]) (by kernel_rfl) (by kernel_rfl) (tabRs_cons OwnVR.lasts (tabRs_cons NewVR.lasts tabRs_nil)) ?_
      simp only [List.take_succ_cons, List.take_zero, List.drop_succ_cons, List.drop_zero]
      iterate 4 ((with_reducible refine loose_one (v := ?_) (a' := ?_) ?_ ?_ (fun w' hC' hG' => ?_) ?_ ?_); rotate_left 2; (focus rfl); (focus rfl); (focus (obtain ⟨f0, f1, f2, f3, f4⟩ := HCX.out w' hC'; clear hC' hG'; go_simp; rfl)); (focus (go_simp; rfl)))
      refine loose_call (R := OwnVR w1.heap.size gv) (f := 24) (args := #[.agg #[.int .i64 y.T, .slice B1 y.is.length d1, .slice B2 y.ts.length d2, .slice B3 y.ns.length d3], .slice IA n IC]) (by rfl) (by rfl) (fun _ => by go_simp) (fun w' hC' hG' => HC1.out w' hC') ?_
      rintro r ⟨w5, w6, hr5⟩
      obtain ⟨x1, x2, x3, rfl, y1, y2, y3⟩ := id hr5
      obtain ⟨U1, N1, C1, rfl⟩ := ownsRow_slice y1
      obtain ⟨U2, N2, C2, rfl⟩ := ownsRow_slice y2
      obtain ⟨U3, N3, C3, rfl⟩ := ownsRow_slice y3
      refine ⟨?_, ?_, ?_⟩
      rotate_left
      · go_simp
        rfl
      refine loose_new (R := NewVR w1.heap.size gv) (by rfl) (by rfl) (fun w' hC' hG' => ?_) ?_
      · have h7 : OwnVR w1.heap.size gv (.agg #[.int .i64 gv.T, .slice U1 N1 C1, .slice U2 N2 C2, .slice U3 N3 C3]) w' := (hG' 4 (by kernel_rfl)).2 rfl
        exact ⟨.slice (some ⟨w'.heap.size, 0, none⟩) 1 1, w'.alloc (.cells #[.int .i64 gv.T, .slice U1 N1 C1, .slice U2 N2 C2, .slice U3 N3 C3] 29), by first | rfl | go_simp, grow1 _, w'.heap.size, _, _, _, _, rfl, Row.new w' _ _ _ rfl, OwnVR.lasts _ _ _ h7 (grow1 _)⟩
      rintro _ ⟨_, _, g8, p8, q8, r8, t8, rfl, _, _⟩
      refine ⟨?_, ?_, ?_⟩
      rotate_left
      · go_simp
        rfl
      refine loose_done (fun w9 hC' hG' => ?_)
      obtain ⟨g9, p9, q9, r9, t9', e9, hrow9, hown9⟩ : NewVR w1.heap.size gv (.slice (some ⟨g8, 0, none⟩) 1 1) w9 := (hG' 5).2 rfl
      injection e9 with e9
      injection e9 with e9
      injection e9 with e9
      subst e9
      have HR9 := hidden hrow9
      have HO9 := hidden hown9
      have HQ9 := hidden hown9.ones
      have HG9 := hidden (HGA.out.of_below hC')
      have HS9 := hidden (HS.out.grow HG9.out)
      have HB9 := hidden (HBX.out.grow HG9.out)
      clear hC' hG' w6 hr5 y1 y2 y3 hrow9 hown9
      go_wp2_with (first
        | (at_builtin; go_loud (refine wpList_append_v4x rfl _ _ rfl vc VS.length (quads xs) (by rfl) w1.heap.size HS9.out.cols.row HS9.out.grows.size _ _ _ _ HQ9.out g8 (by rfl) HR9.out (by rw [HLV.out]; exact HKB.out) ?_); intro v' Y5 hown5 hon5; obtain ⟨PA, PN, PC, rfl⟩ := ownsRow_slice hown5; have HOW5 := hidden hown5; have HON5 := hidden hon5; have HRY := hidden (HS9.out.keepRow hon5 HS9.out.row (by decide)); have HBY := hidden (HS9.out.keepRow hon5 HB9.out (by decide)); clear hown5 hon5)
        | (refine wpList_store_c rfl 42 _ _ rfl (by kernel_rfl) w1.heap.size 0 rfl (.slice PA PN PC) rfl rfl _ _ HRY.out (by simp) ?_; intro W6 hr6 ho6; have HS6 := hidden (HS9.out.push HO9.out HOW5.out HON5.out ho6 hr6); have HB6 := hidden (ho6.row HBY.out (by have := HNW.out; omega)); clear hr6 ho6))
      go_roundw
      case rel => exact ⟨k + 1, _, _, HK1.out, by go_num, by rw [HTK.out]; exact HS6.out, HB6.out⟩
      case measure => simpa [intOf] using hmm
    · have hke : k = m := by omega
      have hd : decide (k < m) = false := by simpa using hlt
      have HTK := hidden (show cs.take k = cs by rw [hke, ← HM.out, List.take_length])
      rw [HTK.out] at HS
      clear hke hlt hk
      go_wp2_with (first
        | (refine wpList_load_bat rfl _ rfl w1.heap.size rfl _ _ _ _ HS.out.row ?_)
        | (refine wpList_store_bat rfl _ _ rfl (w.heap.size + 1) rfl _ _ _ _ rfl HS.out.ones HS.out.res ?_; intro W4 hr4 ho4; have HR4 := hidden hr4; have HE4 := hidden (HS.out.result HG1.out ho4 (by omega)); clear hr4 ho4))
      exact bodyPost_ret (results_batP rfl _ _ _ _ _ _ _ rfl HR4.out) rfl ⟨_, rfl, HE4.out.1.isB _, HE4.out.2⟩
end Go.Proofs.Ytfjhahhkakfhmaa
/-
  Shaken: what the claims of this seat need of this text. No condition.
-/
namespace Go.Proofs.Ytfjhahhkakfhmaa
open Go.RowKit
set_option linter.unusedVariables false
set_option linter.unusedSimpArgs false
def ValsV (l : List Val) : Value → World → Prop := fun u w => ReadsV w u l
theorem ValsV.lasts {l : List Val} : ∀ v w w', ValsV l v w → Grows w w' → ValsV l v w' := fun _ _ _ h hg => ReadsV.grow h hg
def IsVv (v : Vec) : Value → World → Prop := fun x w => IsV w x v
theorem IsVv.lasts {v : Vec} : ∀ x w w', IsVv v x w → Grows w w' → IsVv v x w' := fun _ _ _ h hg => IsV.grow h hg
end Go.Proofs.Ytfjhahhkakfhmaa
/-
  Shaken: what the claims of this seat need of this text. No condition.
-/
namespace Go.Proofs.Ytfjhahhkakfhmaa
open Go.RowKit
set_option linter.unusedVariables false
set_option linter.unusedSimpArgs false
end Go.Proofs.Ytfjhahhkakfhmaa
/-
  Shaken: what the claims of this seat need of this text. No condition.
-/
namespace Go.Proofs.Ytfjhahhkakfhmaa
open Go.RowKit
set_option linter.unusedVariables false
set_option linter.unusedSimpArgs false
end Go.Proofs.Ytfjhahhkakfhmaa
/-
  Shaken: what the claims of this seat need of this text. No condition.
-/
namespace Go.Proofs.Ytfjhahhkakfhmaa
open Go.RowKit
set_option linter.unusedVariables false
set_option linter.unusedSimpArgs false
def FitBA' (B : Bat) : Prop := B.cs.length ≤ 1000000000000000 ∧ B.sel.length ≤ 1000000000000000 ∧ ∀ v ∈ B.cs, FitArg v
end Go.Proofs.Ytfjhahhkakfhmaa
/-
  Shaken: what the claims of this seat need of this text. No condition.
-/
namespace Go.Proofs.Ytfjhahhkakfhmaa
set_option maxRecDepth 8000
open Go.RowKit
set_option linter.unusedVariables false
set_option linter.unusedSimpArgs false
theorem fitR_sub {Ts : List Int} {rs p : List (List Val)} (h : fitR Ts rs) (hp : ∀ r ∈ p, r ∈ rs) : fitR Ts p := ⟨h.1, fun r hr => h.2 r (hp r hr)⟩
theorem batR_cs (Ts : List Int) (rs : List (List Val)) : (batR Ts rs).cs.length = Ts.length := by simp [batR]
end Go.Proofs.Ytfjhahhkakfhmaa
/-
  Shaken: what the claims of this seat need of this text. No condition.
-/
namespace Go.Proofs.Ytfjhahhkakfhmaa
open Go.RowKit
set_option linter.unusedVariables false
set_option linter.unusedSimpArgs false
theorem IsBs_grow {w w' : World} {v : Value} {l : List Bat} (h : IsBs w v l) (hg : Grows w w') : IsBs w' v l := by
  obtain ⟨A, c, rfl, hc, hcell⟩ := h
  refine ⟨A, c, rfl, hc, fun hl => ?_⟩
  obtain ⟨b, off, rfl, hcc⟩ := hcell hl
  refine ⟨b, off, rfl, fun j x hj => ?_⟩
  obtain ⟨p, q, h0, h1, h2, h3, h4⟩ := hcc j x hj
  have up : ∀ {a : Addr} {u : Value}, w.cell? a = some u → w'.cell? a = some u := fun h => (hg.cell (World.block_lt_of_cell? _ _ h)).trans h
  exact ⟨p, q, up h0, up h1, up h2, up h3, h4.grow hg⟩
end Go.Proofs.Ytfjhahhkakfhmaa
/-
  Shaken: what the claims of this seat need of this text. No condition.
-/
namespace Go.Proofs.Ytfjhahhkakfhmaa
open Go.RowKit
set_option linter.unusedVariables false
set_option linter.unusedSimpArgs false
def RFlat : Prop := ∀ (x : Value) (B : Bat) (w : World), IsB w x B → validBB B = true → B.cs.length ≤ 100 → B.len ≤ 1000 → Calls Try.prog 38 #[x] w (BatI (flatB B) w)
theorem sel_ge {len : Int} {sel : List Int} : ∀ {m : Nat}, selsB len sel m = true → ∀ i, i < m → (i : Int) ≤ sel.getD i 0 ∧ sel.getD i 0 < len := by
  intro m h i
  have hall := selsB_iff.1 h
  induction i with
  | zero =>
    intro hi
    have := hall 0 hi
    unfold okSel at this
    simp only [Bool.and_eq_true, decide_eq_true_eq] at this
    exact ⟨this.1, this.2.1⟩
  | succ j ih =>
    intro hi
    have h1 := ih (by omega)
    have := hall (j + 1) hi
    unfold okSel at this
    simp only [Bool.and_eq_true, decide_eq_true_eq, Bool.or_eq_true, Nat.add_sub_cancel] at this
    obtain ⟨h2, h3, h4⟩ := this
    refine ⟨?_, h3⟩
    rcases h4 with h4 | h4
    · omega
    · omega
theorem valid_parts17 {B : Bat} (h : validBB B = true) : 0 ≤ B.len ∧ (∀ v ∈ B.cs, validVB v = true ∧ (v.ns.length : Int) = B.len) ∧ (B.sel.length : Int) ≤ B.len := by
  unfold validBB at h
  simp only [Bool.and_eq_true, decide_eq_true_eq] at h
  obtain ⟨h0, _, h2, h3⟩ := h
  refine ⟨h0, fun v hv => ?_, ?_⟩
  · have := List.all_eq_true.1 h2 v hv
    unfold colB at this
    simpa using this
  · by_cases hs : B.sel.length = 0
    · omega
    · have := sel_ge h3 (B.sel.length - 1) (by omega)
      omega
theorem okB_of {B : Bat} (h : validBB B = true) (hc : B.cs.length ≤ 1000) (hl : B.len ≤ 1000000) : OkB B := by
  obtain ⟨h0, h1, h2⟩ := valid_parts17 h
  exact ⟨hc, by omega, hl, fun v hv => ⟨okAt_of_valid (h1 v hv).1, by have := (h1 v hv).2; omega⟩⟩
theorem row_len {B : Bat} {r : List Val} (h : r ∈ rowsB B) : r.length = B.cs.length := by
  unfold rowsB at h
  split at h
  · obtain ⟨i, _, rfl⟩ := List.mem_map.1 h
    simp [rowV]
  · obtain ⟨i, _, rfl⟩ := List.mem_map.1 h
    simp [rowV]
theorem flat_fit {B : Bat} (h : OkB B) : FitB (flatB B) := by
  refine ⟨?_, ?_, fun v hv => ?_⟩
  · show (batR (typesB B) (rowsB B)).cs.length ≤ 1000000
    rw [batR_cs, typesB, List.length_map]
    have := h.1
    omega
  · show ([] : List Int).length ≤ 1000000000
    simp
  · simp only [flatB, batR, List.mem_map, List.mem_range] at hv
    obtain ⟨j, _, rfl⟩ := hv
    exact buildV_fit _ _ (by rw [List.length_map]; have := rowsB_len B h; omega)
def RowsV (ls : List (List Val)) : Value → World → Prop := fun u w => IsRs w u ls
theorem RowsV.lasts {ls : List (List Val)} : ∀ v w w', RowsV ls v w → Grows w w' → RowsV ls v w' := fun _ _ _ h hg => IsRs.grow h hg
def IntsV (l : List Int) : Value → World → Prop := fun u w => IsI w u l
theorem IntsV.lasts {l : List Int} : ∀ v w w', IntsV l v w → Grows w w' → IntsV l v w' := fun _ _ _ h hg => IsI.grow h hg
def BatV (B : Bat) : Value → World → Prop := fun u w => IsB w u B
theorem BatV.lasts {B : Bat} : ∀ v w w', BatV B v w → Grows w w' → BatV B v w' := fun _ _ _ h hg => IsB.grow h hg
def BatsV (l : List Bat) : Value → World → Prop := fun u w => IsBs w u l
theorem BatsV.lasts {l : List Bat} : ∀ v w w', BatsV l v w → Grows w w' → BatsV l v w' := fun _ _ _ h hg => IsBs_grow h hg
theorem isBs_row2 {w : World} {g : Nat} {e : TypeId} {B : Bat} {p q : Value} (h : Row w g e [p, .int .i64 B.len, .bool B.all, q, p, .int .i64 B.len, .bool B.all, q]) (hx : IsB w (.agg #[p, .int .i64 B.len, .bool B.all, q]) B) :
    IsBs w (.slice (some ⟨g, 0, none⟩) 2 2) [B, B] := by
  refine ⟨_, 2, rfl, Nat.le_refl _, fun _ => ⟨g, 0, rfl, fun j v hj => ?_⟩⟩
  match j, hj with
  | 0, hj => simp at hj; subst hj; exact ⟨p, q, by rw [h.cell]; rfl, by rw [h.cell]; rfl, by rw [h.cell]; rfl, by rw [h.cell]; rfl, hx⟩
  | 1, hj => simp at hj; subst hj; exact ⟨p, q, by rw [h.cell]; rfl, by rw [h.cell]; rfl, by rw [h.cell]; rfl, by rw [h.cell]; rfl, hx⟩
set_option maxRecDepth 20000 in
set_option maxHeartbeats 16000000 in
theorem law_rows17 (K : Pack) (F : RFlat) (xb : Value) (B : Bat) (w : World) (hy : IsB w xb B) (hB : FitBA' B) (hbl : frIn B.len) :
    Calls Try.prog 7 #[xb] w fun e w' => e = .returned (.bool true) ∧ Grows w w' := by
  have HAW := hidden (fun W => awake17_any K W)
  have HK := hidden K
  have HF := hidden F
  have HXB := hidden hy
  obtain ⟨pb, qb, rfl, hpb, hqb⟩ := id hy
  obtain ⟨A, c, rfl⟩ := hpb.slice_
  obtain ⟨E, d, rfl⟩ := hqb.slice_
  have HFA := hidden hB
  have HBL := hidden hbl
  have HRV := hidden (fun W (h : Grows w W) (hc : B.cs.length ≤ 1000000) => rvalidB_any _ B W (hy.grow h) ⟨hc, hB.2.1, hB.2.2⟩ hbl)
  obtain ⟨n, hn⟩ : ∃ n, B.cs.length = n := ⟨_, rfl⟩
  obtain ⟨m, hm⟩ : ∃ m, B.sel.length = m := ⟨_, rfl⟩
  have hnb := hB.1
  rw [hn] at hnb
  rw [hn, hm] at HXB HRV ⊢
  have HN := hidden hn
  obtain ⟨W0, hW0⟩ : ∃ W, W = w.alloc (.cells #[.slice A n c, .int .i64 B.len, .bool B.all, .slice E m d] 45) := ⟨_, rfl⟩
  have HG0 := hidden (show Grows w W0 by rw [hW0]; exact grow1 _)
  have HS0 := hidden (show Row W0 w.heap.size 45 [.slice A n c, .int .i64 B.len, .bool B.all, .slice E m d] by rw [hW0]; exact Row.new w _ _ _ rfl)
  have HW0 := hidden hW0
  have HCL := hidden (fun X (h : Grows W0 X) => (⟨(HS0.out.grow h).cell 0, (HS0.out.grow h).cell 1, (HS0.out.grow h).cell 2, (HS0.out.grow h).cell 3⟩ : X.cell? ⟨w.heap.size, 0, none⟩ = some (.slice A n c) ∧ X.cell? ⟨w.heap.size, 1, none⟩ = some (.int .i64 B.len) ∧ X.cell? ⟨w.heap.size, 2, none⟩ = some (.bool B.all) ∧ X.cell? ⟨w.heap.size, 3, none⟩ = some (.slice E m d)))
  obtain ⟨x0, x1, x2, x3⟩ := HCL.out W0 (Below.refl _ _)
  rw [hW0] at x0 x1 x2 x3
  obtain ⟨vb, hvb⟩ : ∃ b, validBB B = b := ⟨_, rfl⟩
  rw [hvb] at HRV
  have HVB := hidden hvb
  clear hvb hy hB hbl K F hW0 hpb hqb hn hm
  by_cases q1 : 200 < B.len
  · have d1 : decide (200 < B.len) = true := by simpa using q1
    clear q1
    go_enter Try.func7, Try.ntmps7
    go_wp2_with (first | (go_at_call 10; refine (HAW.out _).mono ?_; rintro e w9 ⟨rfl, g9⟩; have HG9 := hidden (show Grows w w9 from (show Grows w _ by rw [← HW0.out]; exact HG0.out).of_below g9); clear g9))
    go_ret
    exact ⟨rfl, HG9.out⟩
  have d1 : decide (200 < B.len) = false := by simpa using q1
  by_cases q2 : 10 < n
  · have d2 : decide (10 < n) = true := by simpa using q2
    have e2 : decide ((10 : Int) < (n : Int)) = true := by simp; omega
    clear q1 q2
    go_enter Try.func7, Try.ntmps7
    go_wp2_with (first | (go_at_call 10; refine (HAW.out _).mono ?_; rintro e w9 ⟨rfl, g9⟩; have HG9 := hidden (show Grows w w9 from (show Grows w _ by rw [← HW0.out]; exact HG0.out).of_below g9); clear g9))
    go_ret
    exact ⟨rfl, HG9.out⟩
  have d2 : decide (10 < n) = false := by simpa using q2
  have e2 : decide ((10 : Int) < (n : Int)) = false := by simp; omega
  have HQ := hidden (show B.len ≤ 200 ∧ n ≤ 10 by omega)
  clear q1 q2
  cases vb
  · go_enter Try.func7, Try.ntmps7
    go_wp2_with (first | (go_at_call 22; rw [← HW0.out]; refine (HRV.out _ HG0.out (by have := HQ.out; omega)).mono ?_; rintro e w1 ⟨rfl, g1⟩; have HG1 := hidden (HG0.out.of_below g1); clear g1 x0 x1 x2 x3) | (go_at_call 10; refine (HAW.out _).mono ?_; rintro e w9 ⟨rfl, g9⟩; have HG9 := hidden (show Grows w w9 from HG1.out.of_below g9); clear g9))
    go_ret
    exact ⟨rfl, HG9.out⟩
  go_enter Try.func7, Try.ntmps7
  go_wp2_with (first | (go_at_call 22; rw [← HW0.out]; refine (HRV.out _ HG0.out (by have := HQ.out; omega)).mono ?_; rintro e w1 ⟨rfl, g1⟩; have HL1 := hidden g1; have HG1 := hidden (HG0.out.of_below g1); clear g1 x0 x1 x2 x3))
  have HOB := hidden (okB_of HVB.out (by rw [HN.out]; have := HQ.out; omega) (by have := HQ.out; omega))
  have HCS := hidden (show B.cs.length ≤ 10 by rw [HN.out]; exact HQ.out.2)
  have HX := hidden (fun X (h : Grows w1 X) => HCL.out X (HL1.out.of_below h))
  have HIB := hidden (fun X (h : Grows w1 X) => HXB.out.grow (HG1.out.of_below h))
  have HRL := hidden (rowsB_len B HOB.out)
  have HRM := hidden (show ∀ r ∈ rowsB B, r.length ≤ 1000000000 from fun r hr => by rw [row_len hr]; have := HCS.out; omega)
  have H1 : Hid (∀ W, Grows w1 W → Calls Try.prog 31 #[.agg #[.slice A n c, .int .i64 B.len, .bool B.all, .slice E m d]] W fun e w' => ∃ u, e = .returned u ∧ Grows W w' ∧ RowsV (rowsB B) u w') := hidden fun W h => (HK.out.rows _ B W (HIB.out W h) HVB.out (by have := HCS.out; omega) (by have := HQ.out; omega)).mono fun e w' ⟨u, he, hr, hg⟩ => ⟨u, he, hg, hr⟩
  have H3 : Hid (∀ W, Grows w1 W → Calls Try.prog 32 #[.agg #[.slice A n c, .int .i64 B.len, .bool B.all, .slice E m d]] W fun e w' => ∃ u, e = .returned u ∧ Grows W w' ∧ RowsV (rowsB B) u w') := hidden fun W h => (rrows_any _ B W (HIB.out W h) HOB.out).mono fun e w' ⟨u, he, hr, hg⟩ => ⟨u, he, hg, hr.isRs⟩
  have H4 := hidden (fun (a b : Value) (ls : List (List Val)) W (h1 : IsRs W a ls) (h2 : IsRs W b ls) (h3 : ls.length ≤ 1000000000) (h4 : ∀ l ∈ ls, l.length ≤ 1000000000) => const_loose (sameRows_self a b ls W h1 h2 h3 h4))
  have H7 : Hid (∀ W, Grows w1 W → Calls Try.prog 34 #[.agg #[.slice A n c, .int .i64 B.len, .bool B.all, .slice E m d]] W fun e w' => ∃ u, e = .returned u ∧ Grows W w' ∧ IntsV (typesB B) u w') := hidden fun W h => (HK.out.types _ B W (HIB.out W h) HVB.out (by have := HCS.out; omega) (by have := HQ.out; omega)).mono fun e w' ⟨u, he, hr, hg⟩ => ⟨u, he, hg, hr⟩
  have H9 : Hid (∀ W, Grows w1 W → Calls Try.prog 35 #[.agg #[.slice A n c, .int .i64 B.len, .bool B.all, .slice E m d]] W fun e w' => ∃ u, e = .returned u ∧ Grows W w' ∧ IntsV (typesB B) u w') := hidden fun W h => (rtypes_any _ B W (HIB.out W h) HOB.out).mono fun e w' ⟨u, he, hr, hg⟩ => ⟨u, he, hg, Reads.of_own hr⟩
  have H10 := hidden (fun (a b : Value) W (h1 : IsI W a (typesB B)) (h2 : IsI W b (typesB B)) => const_loose (rInts_self a b (typesB B) W h1 h2 (by unfold typesB; rw [List.length_map]; have := HCS.out; omega)))
  have H14 : Hid (∀ W, Grows w1 W → Calls Try.prog 37 #[.agg #[.slice A n c, .int .i64 B.len, .bool B.all, .slice E m d]] W fun e w' => ∃ u, e = .returned u ∧ Grows W w' ∧ BatV (flatB B) u w') := hidden fun W h => (HK.out.flatten _ B W (HIB.out W h) HVB.out (by have := HCS.out; omega) (by have := HQ.out; omega)).mono fun e w' ⟨u, he, hr, hg⟩ => ⟨u, he, hg, hr⟩
  have H16 : Hid (∀ W, Grows w1 W → Calls Try.prog 38 #[.agg #[.slice A n c, .int .i64 B.len, .bool B.all, .slice E m d]] W fun e w' => ∃ u, e = .returned u ∧ Grows W w' ∧ BatV (flatB B) u w') := hidden fun W h => (HF.out _ B W (HIB.out W h) HVB.out (by have := HCS.out; omega) (by have := HQ.out; omega)).mono fun e w' ⟨u, he, hr, hg⟩ => ⟨u, he, hg, hr⟩
  have H17 := hidden (fun (a b : Value) W (h1 : IsB W a (flatB B)) (h2 : IsB W b (flatB B)) => const_loose (rEqualB_self a b (flatB B) W h1 h2 (flat_fit HOB.out)))
  have HARL := hidden (show (allRowsB [B, B]).length ≤ 1000000000 ∧ ∀ l ∈ allRowsB [B, B], l.length ≤ 1000000000 by
    have e : allRowsB [B, B] = rowsB B ++ rowsB B := by simp [allRowsB]
    rw [e, List.length_append]
    refine ⟨by have := HRL.out; omega, fun l hl => ?_⟩
    rcases List.mem_append.1 hl with h | h
    · exact HRM.out l h
    · exact HRM.out l h)
  have H23 : Hid (∀ (u : Value) W, IsBs W u [B, B] → Calls Try.prog 39 #[u] W fun e w' => ∃ u, e = .returned u ∧ Grows W w' ∧ RowsV (allRowsB [B, B]) u w') := hidden fun u W h => (HK.out.allrows u [B, B] W h (by simp) (fun b hb => by simp at hb; subst hb; exact ⟨HVB.out, by have := HCS.out; omega, by have := HQ.out; omega⟩)).mono fun e w' ⟨u, he, hr, hg⟩ => ⟨u, he, hg, hr⟩
  have H27 : Hid (∀ (u : Value) W, IsBs W u [B, B] → Calls Try.prog 40 #[u] W fun e w' => ∃ u, e = .returned u ∧ Grows W w' ∧ RowsV (allRowsB [B, B]) u w') := hidden fun u W h => (rallrows_any u [B, B] W h (by simp) (fun b hb => by simp at hb; subst hb; exact HOB.out)).mono fun e w' ⟨u, he, hr, hg⟩ => ⟨u, he, hg, hr.isRs⟩
  have H31 := hidden (fun W => const_loose (HAW.out W))
  refine wp_region_loose (tabRs [(1, RowsV (rowsB B)), (3, RowsV (rowsB B)), (4, ConstV (.bool true)), (7, IntsV (typesB B)), (9, IntsV (typesB B)), (10, ConstV (.bool true)), (14, BatV (flatB B)), (16, BatV (flatB B)), (17, ConstV (.bool true)), (22, BatsV [B, B]), (23, RowsV (allRowsB [B, B])), (26, BatsV [B, B]), (27, RowsV (allRowsB [B, B])), (28, ConstV (.bool true)), (31, ConstV (.bool true))]) (by kernel_rfl) (by kernel_rfl) (tabRs_cons RowsV.lasts (tabRs_cons RowsV.lasts (tabRs_cons ConstV.lasts (tabRs_cons IntsV.lasts (tabRs_cons IntsV.lasts (tabRs_cons ConstV.lasts (tabRs_cons BatV.lasts (tabRs_cons BatV.lasts (tabRs_cons ConstV.lasts (tabRs_cons BatsV.lasts (tabRs_cons RowsV.lasts (tabRs_cons BatsV.lasts (tabRs_cons RowsV.lasts (tabRs_cons ConstV.lasts (tabRs_cons ConstV.lasts tabRs_nil))))))))))))))) ?_
  iterate 1 ((with_reducible refine loose_one (v := ?_) (a' := ?_) ?_ ?_ (fun w' hC' hG' => ?_) ?_ ?_); rotate_left 2; (focus rfl); (focus rfl); (focus (obtain ⟨x0, x1, x2, x3⟩ := HX.out w' hC'; clear hC' hG'; go_simp; rfl)); (focus (go_simp; rfl)))
  refine loose_call (R := RowsV (rowsB B)) (f := 31) (args := #[.agg #[.slice A n c, .int .i64 B.len, .bool B.all, .slice E m d]]) (by rfl) (by rfl) (fun _ => by go_simp) (fun w' hC' hG' => H1.out w' hC') ?_
  rintro u1 ⟨_, _, _⟩
  refine ⟨?_, ?_, ?_⟩
  rotate_left
  · go_simp
    rfl
  iterate 1 ((with_reducible refine loose_one (v := ?_) (a' := ?_) ?_ ?_ (fun w' hC' hG' => ?_) ?_ ?_); rotate_left 2; (focus rfl); (focus rfl); (focus (obtain ⟨x0, x1, x2, x3⟩ := HX.out w' hC'; clear hC' hG'; go_simp; rfl)); (focus (go_simp; rfl)))
  refine loose_call (R := RowsV (rowsB B)) (f := 32) (args := #[.agg #[.slice A n c, .int .i64 B.len, .bool B.all, .slice E m d]]) (by rfl) (by rfl) (fun _ => by go_simp) (fun w' hC' hG' => H3.out w' hC') ?_
  rintro u3 ⟨_, _, _⟩
  refine ⟨?_, ?_, ?_⟩
  rotate_left
  · go_simp
    rfl
  refine loose_call (R := ConstV (.bool true)) (f := 30) (args := #[u1, u3]) (by rfl) (by rfl) (fun _ => by go_simp) (fun w' hC' hG' => H4.out u1 u3 (rowsB B) w' ((hG' 1 (by kernel_rfl)).1.2 rfl) ((hG' 3 (by kernel_rfl)).2 rfl) (by have := HRL.out; omega) HRM.out) ?_
  rintro _ ⟨_, _, rfl⟩
  refine ⟨?_, ?_, ?_⟩
  rotate_left
  · go_simp
    rfl
  iterate 1 ((with_reducible refine loose_one (v := ?_) (a' := ?_) ?_ ?_ (fun w' hC' hG' => ?_) ?_ ?_); rotate_left 2; (focus rfl); (focus rfl); (focus (obtain ⟨x0, x1, x2, x3⟩ := HX.out w' hC'; clear hC' hG'; go_simp; rfl)); (focus (go_simp; rfl)))
  iterate 1 ((with_reducible refine loose_one (v := ?_) (a' := ?_) ?_ ?_ (fun w' hC' hG' => ?_) ?_ ?_); rotate_left 2; (focus rfl); (focus rfl); (focus (obtain ⟨x0, x1, x2, x3⟩ := HX.out w' hC'; clear hC' hG'; go_simp; rfl)); (focus (go_simp; rfl)))
  refine loose_call (R := IntsV (typesB B)) (f := 34) (args := #[.agg #[.slice A n c, .int .i64 B.len, .bool B.all, .slice E m d]]) (by rfl) (by rfl) (fun _ => by go_simp) (fun w' hC' hG' => H7.out w' hC') ?_
  rintro u7 ⟨_, _, _⟩
  refine ⟨?_, ?_, ?_⟩
  rotate_left
  · go_simp
    rfl
  iterate 1 ((with_reducible refine loose_one (v := ?_) (a' := ?_) ?_ ?_ (fun w' hC' hG' => ?_) ?_ ?_); rotate_left 2; (focus rfl); (focus rfl); (focus (obtain ⟨x0, x1, x2, x3⟩ := HX.out w' hC'; clear hC' hG'; go_simp; rfl)); (focus (go_simp; rfl)))
  refine loose_call (R := IntsV (typesB B)) (f := 35) (args := #[.agg #[.slice A n c, .int .i64 B.len, .bool B.all, .slice E m d]]) (by rfl) (by rfl) (fun _ => by go_simp) (fun w' hC' hG' => H9.out w' hC') ?_
  rintro u9 ⟨_, _, _⟩
  refine ⟨?_, ?_, ?_⟩
  rotate_left
  · go_simp
    rfl
  refine loose_call (R := ConstV (.bool true)) (f := 33) (args := #[u7, u9]) (by rfl) (by rfl) (fun _ => by go_simp) (fun w' hC' hG' => H10.out u7 u9 w' ((hG' 7 (by kernel_rfl)).1.2 rfl) ((hG' 9 (by kernel_rfl)).2 rfl)) ?_
  rintro _ ⟨_, _, rfl⟩
  refine ⟨?_, ?_, ?_⟩
  rotate_left
  · go_simp
    rfl
  iterate 2 ((with_reducible refine loose_one (v := ?_) (a' := ?_) ?_ ?_ (fun w' hC' hG' => ?_) ?_ ?_); rotate_left 2; (focus rfl); (focus rfl); (focus (obtain ⟨x0, x1, x2, x3⟩ := HX.out w' hC'; clear hC' hG'; go_simp; rfl)); (focus (go_simp; rfl)))
  iterate 1 ((with_reducible refine loose_one (v := ?_) (a' := ?_) ?_ ?_ (fun w' hC' hG' => ?_) ?_ ?_); rotate_left 2; (focus rfl); (focus rfl); (focus (obtain ⟨x0, x1, x2, x3⟩ := HX.out w' hC'; clear hC' hG'; go_simp; rfl)); (focus (go_simp; rfl)))
  refine loose_call (R := BatV (flatB B)) (f := 37) (args := #[.agg #[.slice A n c, .int .i64 B.len, .bool B.all, .slice E m d]]) (by rfl) (by rfl) (fun _ => by go_simp) (fun w' hC' hG' => H14.out w' hC') ?_
  rintro u14 ⟨_, _, _⟩
  refine ⟨?_, ?_, ?_⟩
  rotate_left
  · go_simp
    rfl
  iterate 1 ((with_reducible refine loose_one (v := ?_) (a' := ?_) ?_ ?_ (fun w' hC' hG' => ?_) ?_ ?_); rotate_left 2; (focus rfl); (focus rfl); (focus (obtain ⟨x0, x1, x2, x3⟩ := HX.out w' hC'; clear hC' hG'; go_simp; rfl)); (focus (go_simp; rfl)))
  refine loose_call (R := BatV (flatB B)) (f := 38) (args := #[.agg #[.slice A n c, .int .i64 B.len, .bool B.all, .slice E m d]]) (by rfl) (by rfl) (fun _ => by go_simp) (fun w' hC' hG' => H16.out w' hC') ?_
  rintro u16 ⟨_, _, _⟩
  refine ⟨?_, ?_, ?_⟩
  rotate_left
  · go_simp
    rfl
  refine loose_call (R := ConstV (.bool true)) (f := 36) (args := #[u14, u16]) (by rfl) (by rfl) (fun _ => by go_simp) (fun w' hC' hG' => H17.out u14 u16 w' ((hG' 14 (by kernel_rfl)).1.2 rfl) ((hG' 16 (by kernel_rfl)).2 rfl)) ?_
  rintro _ ⟨_, _, rfl⟩
  refine ⟨?_, ?_, ?_⟩
  rotate_left
  · go_simp
    rfl
  iterate 4 ((with_reducible refine loose_one (v := ?_) (a' := ?_) ?_ ?_ (fun w' hC' hG' => ?_) ?_ ?_); rotate_left 2; (focus rfl); (focus rfl); (focus (obtain ⟨x0, x1, x2, x3⟩ := HX.out w' hC'; clear hC' hG'; go_simp; rfl)); (focus (go_simp; rfl)))
  refine loose_new (R := BatsV [B, B]) (by rfl) (by rfl) (fun w' hC' hG' => ?_) ?_
  · exact ⟨.slice (some ⟨w'.heap.size, 0, none⟩) 2 2, w'.alloc (.cells #[.slice A n c, .int .i64 B.len, .bool B.all, .slice E m d, .slice A n c, .int .i64 B.len, .bool B.all, .slice E m d] 45), by first | rfl | go_simp, grow1 _, isBs_row2 (Row.new w' _ _ _ rfl) (HIB.out _ (hC'.of_below (grow1 _)))⟩
  rintro u22 ⟨_, _, _⟩
  refine ⟨?_, ?_, ?_⟩
  rotate_left
  · go_simp
    rfl
  refine loose_call (R := RowsV (allRowsB [B, B])) (f := 39) (args := #[u22]) (by rfl) (by rfl) (fun _ => by go_simp) (fun w' hC' hG' => H23.out u22 w' ((hG' 22 (by kernel_rfl)).2 rfl)) ?_
  rintro u23 ⟨_, _, _⟩
  refine ⟨?_, ?_, ?_⟩
  rotate_left
  · go_simp
    rfl
  iterate 2 ((with_reducible refine loose_one (v := ?_) (a' := ?_) ?_ ?_ (fun w' hC' hG' => ?_) ?_ ?_); rotate_left 2; (focus rfl); (focus rfl); (focus (obtain ⟨x0, x1, x2, x3⟩ := HX.out w' hC'; clear hC' hG'; go_simp; rfl)); (focus (go_simp; rfl)))
  refine loose_new (R := BatsV [B, B]) (by rfl) (by rfl) (fun w' hC' hG' => ?_) ?_
  · exact ⟨.slice (some ⟨w'.heap.size, 0, none⟩) 2 2, w'.alloc (.cells #[.slice A n c, .int .i64 B.len, .bool B.all, .slice E m d, .slice A n c, .int .i64 B.len, .bool B.all, .slice E m d] 45), by first | rfl | go_simp, grow1 _, isBs_row2 (Row.new w' _ _ _ rfl) (HIB.out _ (hC'.of_below (grow1 _)))⟩
  rintro u26 ⟨_, _, _⟩
  refine ⟨?_, ?_, ?_⟩
  rotate_left
  · go_simp
    rfl
  refine loose_call (R := RowsV (allRowsB [B, B])) (f := 40) (args := #[u26]) (by rfl) (by rfl) (fun _ => by go_simp) (fun w' hC' hG' => H27.out u26 w' ((hG' 26 (by kernel_rfl)).2 rfl)) ?_
  rintro u27 ⟨_, _, _⟩
  refine ⟨?_, ?_, ?_⟩
  rotate_left
  · go_simp
    rfl
  refine loose_call (R := ConstV (.bool true)) (f := 30) (args := #[u23, u27]) (by rfl) (by rfl) (fun _ => by go_simp) (fun w' hC' hG' => H4.out u23 u27 (allRowsB [B, B]) w' ((hG' 23 (by kernel_rfl)).1.1.2 rfl) ((hG' 27 (by kernel_rfl)).2 rfl) HARL.out.1 HARL.out.2) ?_
  rintro _ ⟨_, _, rfl⟩
  refine ⟨?_, ?_, ?_⟩
  rotate_left
  · go_simp
    rfl
  iterate 2 ((with_reducible refine loose_one (v := ?_) (a' := ?_) ?_ ?_ (fun w' hC' hG' => ?_) ?_ ?_); rotate_left 2; (focus rfl); (focus rfl); (focus (obtain ⟨x0, x1, x2, x3⟩ := HX.out w' hC'; clear hC' hG'; go_simp; rfl)); (focus (go_simp; rfl)))
  refine loose_call (R := ConstV (.bool true)) (f := 10) (args := #[]) (by rfl) (by rfl) (fun _ => by go_simp) (fun w' hC' hG' => H31.out w') ?_
  rintro _ ⟨_, _, rfl⟩
  refine ⟨?_, ?_, ?_⟩
  rotate_left
  · go_simp
    rfl
  iterate 2 ((with_reducible refine loose_one (v := ?_) (a' := ?_) ?_ ?_ (fun w' hC' hG' => ?_) ?_ ?_); rotate_left 2; (focus rfl); (focus rfl); (focus (obtain ⟨x0, x1, x2, x3⟩ := HX.out w' hC'; clear hC' hG'; go_simp; rfl)); (focus (go_simp; rfl)))
  refine loose_done (fun w9 hC' hG' => ?_)
  have HG9 := hidden (HG1.out.of_below hC')
  clear hC' hG'
  go_wp2_with fail
  go_ret
  exact ⟨rfl, HG9.out⟩
end Go.Proofs.Ytfjhahhkakfhmaa
/-
  Shaken: what the claims of this seat need of this text. No condition.
-/
namespace Go.Proofs.Ytfjhahhkakfhmaa
set_option maxRecDepth 8000
open Go.RowKit
set_option linter.unusedVariables false
set_option linter.unusedSimpArgs false
def cell4 : Value → List Value
  | .agg cs => cs.toList
  | _ => []
def cells4 (xs : List Value) : List Value := xs.flatMap cell4
theorem cells4_length : ∀ (xs : List Value), (∀ x ∈ xs, (cell4 x).length = 4) → (cells4 xs).length = xs.length * 4
  | [], _ => rfl
  | x :: xs, h => by
    have e : cells4 (x :: xs) = cell4 x ++ cells4 xs := by simp [cells4]
    rw [e, List.length_append, h x (by simp), cells4_length xs (fun y hy => h y (by simp [hy])), List.length_cons]
    omega
theorem cells4_get : ∀ (xs : List Value), (∀ x ∈ xs, (cell4 x).length = 4) → ∀ (j i : Nat) (x : Value), xs[j]? = some x → i < 4 → (cells4 xs)[j * 4 + i]? = (cell4 x)[i]?
  | [], _, j, _, x, h, _ => by simp at h
  | y :: xs, hall, 0, i, x, h, hi => by
    have e : cells4 (y :: xs) = cell4 y ++ cells4 xs := by simp [cells4]
    simp at h
    subst h
    rw [e, List.getElem?_append_left (by rw [hall y (by simp)]; omega), Nat.zero_mul, Nat.zero_add]
  | y :: xs, hall, j + 1, i, x, h, hi => by
    have e : cells4 (y :: xs) = cell4 y ++ cells4 xs := by simp [cells4]
    rw [e, List.getElem?_append_right (by rw [hall y (by simp)]; omega), hall y (by simp), show (j + 1) * 4 + i - 4 = j * 4 + i by omega]
    exact cells4_get xs (fun z hz => hall z (by simp [hz])) j i x (by simpa using h) hi
theorem cells4_set : ∀ (xs : List Value) (j : Nat) (p q r s : Value), (∀ x ∈ xs, (cell4 x).length = 4) → j < xs.length → ((((cells4 xs).set (j * 4) p).set (j * 4 + 1) q).set (j * 4 + 2) r).set (j * 4 + 3) s = cells4 (xs.set j (.agg #[p, q, r, s]))
  | [], j, _, _, _, _, _, h => by simp at h
  | y :: xs, 0, p, q, r, s, hall, _ => by
    have e : cells4 (y :: xs) = cell4 y ++ cells4 xs := by simp [cells4]
    have hy := hall y (by simp)
    obtain ⟨a, b, c, d, hd⟩ : ∃ a b c d, cell4 y = [a, b, c, d] := by
      match cell4 y, hy with
      | [a, b, c, d], _ => exact ⟨a, b, c, d, rfl⟩
    rw [e, hd]
    simp [cells4, cell4]
  | y :: xs, j + 1, p, q, r, s, hall, h => by
    have e : cells4 (y :: xs) = cell4 y ++ cells4 xs := by simp [cells4]
    have hy := hall y (by simp)
    have ih := cells4_set xs j p q r s (fun z hz => hall z (by simp [hz])) (by simpa using h)
    have e2 : cells4 ((y :: xs).set (j + 1) (.agg #[p, q, r, s])) = cell4 y ++ cells4 (xs.set j (.agg #[p, q, r, s])) := by simp [cells4]
    rw [e, e2, ← ih]
    rw [List.set_append_right _ _ (by omega), List.set_append_right _ _ (by omega), List.set_append_right _ _ (by omega), List.set_append_right _ _ (by omega), hy]
    congr 1
    rw [show (j + 1) * 4 - 4 = j * 4 by omega, show (j + 1) * 4 + 1 - 4 = j * 4 + 1 by omega, show (j + 1) * 4 + 2 - 4 = j * 4 + 2 by omega, show (j + 1) * 4 + 3 - 4 = j * 4 + 3 by omega]
theorem ownsRow_set {w : World} {base : Nat} {e : TypeId} {size : Nat} {v : Value} {n : Nat} {xs : List Value} (h : w.ownsRow base e size v n xs) {g k : Nat} (hg : v.ownBlock = some g) (hk : k < xs.length) (u : Value) :
    (w.setCell ⟨g, k, none⟩ u).ownsRow base e size v n (xs.set k u) := by
  refine ⟨by rw [List.length_set]; exact h.1, ?_⟩
  rcases h.2 with ⟨rfl, h0⟩ | ⟨g', cap, cur, rfl, h1, h2, h3, h4, h5, h6⟩
  · simp [Value.ownBlock] at hg
  · simp [Value.ownBlock] at hg
    subst hg
    refine .inr ⟨g', cap, cur.setIfInBounds k u, rfl, h1, ?_, h3, h4, by simpa using h5, ?_⟩
    · simp [World.setCell, Array.getElem?_modify, h2]
    · rw [← h6, Array.toList_setIfInBounds, List.take_set]
structure ColsSt (base : Nat) (X : World) (v : Value) (xs : List Value) (vs : List Vec) : Prop where
  row : X.ownsRow base 29 4 v vs.length (cells4 xs)
  len : xs.length = vs.length
  own : ∀ (j : Nat) (x : Value) (u : Vec), xs[j]? = some x → vs[j]? = some u → OwnV base X x u
  apart : ∀ (j k : Nat) (x y : Value), j ≠ k → xs[j]? = some x → xs[k]? = some y → ∀ i, blocksV x i → ¬ blocksV y i
theorem OwnV.four {base : Nat} {w : World} {x : Value} {v : Vec} (h : OwnV base w x v) : (cell4 x).length = 4 := by
  obtain ⟨a, b, c, rfl, _⟩ := h
  rfl
theorem ColsSt.four {base : Nat} {X : World} {v : Value} {xs : List Value} {vs : List Vec} (h : ColsSt base X v xs vs) : ∀ x ∈ xs, (cell4 x).length = 4 := by
  intro x hx
  obtain ⟨j, hj, rfl⟩ := List.getElem_of_mem hx
  exact (h.own j _ _ (List.getElem?_eq_getElem hj) (List.getElem?_eq_getElem (by have := h.len; omega))).four
theorem ColsSt.nil_ (base : Nat) (X : World) : ColsSt base X (.slice none 0 0) [] [] :=
  ⟨World.ownsRow_nil _ _ _ _, rfl, fun j x u h => by simp at h, fun j k x y _ h => by simp at h⟩
theorem ColsSt.rowApart {base : Nat} {X : World} {v : Value} {xs : List Value} {vs : List Vec} (h : ColsSt base X v xs vs) {j : Nat} {x : Value} (hj : xs[j]? = some x) : ∀ k, blocksV x k → ¬ v.ownBlock = some k := by
  have hl : j < xs.length := by rcases Nat.lt_or_ge j xs.length with h | h; exact h; rw [List.getElem?_eq_none h] at hj; cases hj
  obtain ⟨a, b, c, rfl, h1, h2, h3⟩ := h.own j x _ hj (List.getElem?_eq_getElem (by have := h.len; omega))
  intro k hk
  rcases hk with hk | hk | hk
  · exact ownsRow_apart h1 h.row (by decide) k hk
  · exact ownsRow_apart h2 h.row (by decide) k hk
  · exact ownsRow_apart h3 h.row (by decide) k hk
theorem ColsSt.only {B : Nat → Prop} {base : Nat} {X Y : World} {v : Value} {xs : List Value} {vs : List Vec} (h : ColsSt base X v xs vs) (hb : Only B X Y) (hn : ∀ k, v.ownBlock = some k → ¬ B k) (hx : ∀ x ∈ xs, ∀ k, blocksV x k → ¬ B k) : ColsSt base Y v xs vs :=
  ⟨ownsRow_only h.row hb hn, h.len, fun j x u h1 h2 => (h.own j x u h1 h2).only hb (hx x (List.mem_of_getElem? h1)), h.apart⟩
theorem ColsSt.mem_own {base : Nat} {X : World} {v : Value} {xs : List Value} {vs : List Vec} (h : ColsSt base X v xs vs) : ∀ x ∈ xs, ∀ k, blocksV x k → base ≤ k ∧ k < X.heap.size := by
  intro x hx
  obtain ⟨j, hj, rfl⟩ := List.getElem_of_mem hx
  exact (h.own j _ _ (List.getElem?_eq_getElem hj) (List.getElem?_eq_getElem (by have := h.len; omega))).blocks
theorem ColsSt.snoc {base : Nat} {X Y : World} {v v' : Value} {xs : List Value} {vs : List Vec} {T : Int} (h : ColsSt base X v xs vs)
    (hr : Y.ownsRow base 29 4 v' (vs.length + 1) (cells4 xs ++ [.int .i64 T, .slice none 0 0, .slice none 0 0, .slice none 0 0])) (ho : Only (fun k => v.ownBlock = some k) X Y) :
    ColsSt base Y v' (xs ++ [.agg #[.int .i64 T, .slice none 0 0, .slice none 0 0, .slice none 0 0]]) (vs ++ [⟨T, [], [], []⟩]) := by
  refine ⟨?_, by simp [h.len], fun j x u h1 h2 => ?_, fun j k x y hjk h1 h2 => ?_⟩
  · have e : cells4 (xs ++ [.agg #[.int .i64 T, .slice none 0 0, .slice none 0 0, .slice none 0 0]]) = cells4 xs ++ [.int .i64 T, .slice none 0 0, .slice none 0 0, .slice none 0 0] := by simp [cells4, cell4]
    rw [e, List.length_append]
    exact hr
  · rcases Nat.lt_or_ge j xs.length with hj | hj
    · rw [List.getElem?_append_left hj] at h1
      rw [List.getElem?_append_left (by have := h.len; omega)] at h2
      exact (h.own j x u h1 h2).only ho (h.rowApart h1)
    · rw [List.getElem?_append_right hj] at h1
      rw [List.getElem?_append_right (by have := h.len; omega), ← h.len] at h2
      have h0 : j - xs.length = 0 := by
        rcases Nat.eq_zero_or_pos (j - xs.length) with h0 | h0
        · exact h0
        · rw [List.getElem?_eq_none (by simp; omega)] at h1; cases h1
      rw [h0] at h1 h2
      simp at h1 h2
      subst h1 h2
      exact OwnV.nil_ _ _ _
  · have nil_ : ∀ i, ¬ blocksV (.agg #[.int .i64 T, .slice none 0 0, .slice none 0 0, .slice none 0 0]) i := fun i hi => by
      rcases hi with hi | hi | hi <;> cases hi
    have last : ∀ j x, xs.length ≤ j → (xs ++ [.agg #[.int .i64 T, .slice none 0 0, .slice none 0 0, .slice none 0 0]])[j]? = some x → ∀ i, ¬ blocksV x i := fun j x hj hx => by
      rw [List.getElem?_append_right hj] at hx
      have h0 : j - xs.length = 0 := by
        rcases Nat.eq_zero_or_pos (j - xs.length) with h0 | h0
        · exact h0
        · rw [List.getElem?_eq_none (by simp; omega)] at hx; cases hx
      rw [h0] at hx
      simp at hx
      subst hx
      exact nil_
    intro i hi
    rcases Nat.lt_or_ge j xs.length with hj | hj
    · rcases Nat.lt_or_ge k xs.length with hk | hk
      · rw [List.getElem?_append_left hj] at h1
        rw [List.getElem?_append_left hk] at h2
        exact h.apart j k x y hjk h1 h2 i hi
      · exact last k y hk h2 i
    · exact absurd hi (last j x hj h1 i)
theorem ColsSt.put {base : Nat} {X Y Z : World} {v x' : Value} {xs : List Value} {vs : List Vec} {u' : Vec} {j : Nat} {x : Value} (h : ColsSt base X v xs vs) (hj : xs[j]? = some x)
    (hx : OwnV base Y x' u') (ho : Only (blocksV x) X Y) (hb : ∀ k, blocksV x' k → blocksV x k ∨ X.heap.size ≤ k)
    (hr : Z.ownsRow base 29 4 v vs.length (cells4 (xs.set j x'))) (hz : Only (fun k => v.ownBlock = some k) Y Z) :
    ColsSt base Z v (xs.set j x') (vs.set j u') := by
  have hjl : j < xs.length := by rcases Nat.lt_or_ge j xs.length with h | h; exact h; rw [List.getElem?_eq_none h] at hj; cases hj
  have hrow : Y.ownsRow base 29 4 v vs.length (cells4 xs) := ownsRow_only h.row ho (fun k hk hbk => h.rowApart hj k hbk hk)
  have others : ∀ k y, k ≠ j → xs[k]? = some y → ∀ i, blocksV y i → ¬ blocksV x' i := fun k y hk hy i hi hi' => by
    have hkl : k < xs.length := by rcases Nat.lt_or_ge k xs.length with h | h; exact h; rw [List.getElem?_eq_none h] at hy; cases hy
    rcases hb i hi' with hb' | hb'
    · exact h.apart k j y x hk hy hj i hi hb'
    · have := (h.mem_own y (List.mem_of_getElem? hy) i hi).2
      omega
  have newRow : ∀ k, blocksV x' k → ¬ v.ownBlock = some k := by
    obtain ⟨a, b, c, rfl, h1, h2, h3⟩ := hx
    intro k hk
    rcases hk with hk | hk | hk
    · exact ownsRow_apart h1 hrow (by decide) k hk
    · exact ownsRow_apart h2 hrow (by decide) k hk
    · exact ownsRow_apart h3 hrow (by decide) k hk
  refine ⟨by rw [List.length_set]; exact hr, by simp [h.len], fun k y u h1 h2 => ?_, fun k l y z hkl h1 h2 => ?_⟩
  · by_cases hk : k = j
    · subst hk
      rw [List.getElem?_set_self (by omega)] at h1
      rw [List.getElem?_set_self (by have := h.len; omega)] at h2
      injection h1 with h1
      injection h2 with h2
      subst h1 h2
      exact hx.only hz newRow
    · rw [List.getElem?_set_ne (Ne.symm hk)] at h1 h2
      exact ((h.own k y u h1 h2).only ho (fun i hi hi' => h.apart k j y x hk h1 hj i hi hi')).only hz (h.rowApart h1)
  · intro i hi
    by_cases hk : k = j
    · subst hk
      rw [List.getElem?_set_self (by omega)] at h1
      injection h1 with h1
      subst h1
      rw [List.getElem?_set_ne hkl] at h2
      exact fun hi' => others l z (Ne.symm hkl) h2 i hi' hi
    · rw [List.getElem?_set_ne (Ne.symm hk)] at h1
      by_cases hl : l = j
      · subst hl
        rw [List.getElem?_set_self (by omega)] at h2
        injection h2 with h2
        subst h2
        exact others k y hk h1 i hi
      · rw [List.getElem?_set_ne (Ne.symm hl)] at h2
        exact h.apart k l y z hkl h1 h2 i hi
end Go.Proofs.Ytfjhahhkakfhmaa
