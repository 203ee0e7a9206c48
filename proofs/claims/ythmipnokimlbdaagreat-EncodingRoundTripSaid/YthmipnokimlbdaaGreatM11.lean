/-
  Texts that the claims of this seat share, put together (Fc4, Fc5). No condition.
-/
import Derived.Test.YthmipnokimlbdaaGreatFc1
import Derived.Lib.BufferWrite
import Derived.Laws.CopyOwn
import Derived.Test.YthmipnokimlbdaaGreatM5
/-
  Shaken: what the claims of this seat need of this text. No condition.
-/
namespace Go.Proofs.YthmipnokimlbdaaGreat
set_option maxRecDepth 8000
open Go.RowKit
set_option linter.unusedVariables false
set_option linter.unusedSimpArgs false
theorem byteCells_b (l : List UInt8) : Lib.byteCells l = bcells l := rfl
theorem wpList_copy_str {P : Program} {w : World} {ops : Array Oper} {rest : List Oper} {o : Oper} {a : Act} {Q : Exit → Act → World → Prop} (hgd : o.guard = none) (d s : Operand) (dT sT : TypeId)
    (ho : o.op = .call { callee := .builtin .copy, args := #[d, s], argTypes := #[dT, sT] }) (elem : TypeId) (hu : P.underlying dT = some (.slice elem)) (hsz : (P.info? elem).map (·.size) = some 1)
    (g off dLen dCap : Nat) (hd : a.eval d = .slice (some ⟨g, off, none⟩) dLen dCap) (t : List UInt8) (hs : a.eval s = .string (strOf t))
    (cur : List Value) (T : TypeId) (hg : w.heap[g]? = some (.cells cur.toArray T (0, 0))) (hle : t.length ≤ dLen)
    (hfit : off + t.length ≤ cur.length) (B : Nat) (w0 : World) (hb : Below B w0 w) (hBg : B ≤ g)
    (h : ∀ w', Hid (w'.heap[g]? = some (.cells (splice cur off (bcells t)).toArray T (0, 0))) → Below B w0 w' → wpList P ops Q rest (a.put o.dst (goInt t.length)) w') :
    wpList P ops Q (o :: rest) a w := by
  refine wpList_plain hgd fun K hK => ?_
  have hz : (strOf t).size = t.length := rfl
  have hrun := Lib.run_copy_row_string (P := P) w dT sT o.type elem g off dLen dCap (strOf t) cur.toArray T hu hsz hg (by rw [hz]; exact hle) (by rw [hz]; simpa using hfit)
  unfold Oper.wp
  simp [execOp, ho, resolve, invoke, builtin, hd, hs, hrun, Result.andThen]
  refine hK _ _ (h _ ?_ ?_)
  · have h2 := setRow_heap w g cur.toArray (cur.toArray.toList.take off ++ Lib.byteCells (strOf t).data.toList ++ cur.toArray.toList.drop (off + (strOf t).size)).toArray T (0, 0) (by simpa using hg)
    show _ = _
    have hz2 : ({ data := t.toArray } : ByteArray).size = t.length := rfl
    simpa [splice, byteCells_b, bcells_length, strOf, hz2] using h2
  · exact below_setRow hb hBg _
theorem splice_nil_ {α : Type} (L : List α) (o : Nat) : splice L o [] = L := by simp [splice]
theorem splice2 (Z X Y : List Value) (k : Nat) (hk : X.length = k) (hZ : Z.length = k + Y.length) : splice (splice Z 0 X) k Y = X ++ Y := by
  have h := splice_splice_splice Z X Y [] k Y.length hk rfl (by simpa using hZ)
  rw [splice_nil_] at h
  rw [h, List.append_nil]
set_option maxHeartbeats 2000000 in
theorem assemble_any (p r : List UInt8) (AO : Option Addr) (c : Nat) (w : World) (hv : IsBytes w (.slice AO r.length c) r) (hp : p.length ≤ 1000000000) (hr : r.length ≤ 1000000000) :
    Calls Tryz.prog 225 #[.string (strOf p), .slice AO r.length c] w fun e w' => e = .returned (.string (strOf (p ++ r))) ∧ Grows w w' := by
  have HV := hidden hv
  obtain ⟨n, hn⟩ : ∃ n, n = p.length := ⟨_, rfl⟩
  obtain ⟨m, hm⟩ : ∃ m, m = r.length := ⟨_, rfl⟩
  obtain ⟨N, hN⟩ : ∃ N, N = n + m := ⟨_, rfl⟩
  have hsz : (strOf p).size = n := by rw [hn]; rfl
  have hadd : (n : Int) + (m : Int) = (N : Int) := by omega
  have hmk := fun W => run_make_oneM (P := Tryz.prog) 29 5 (.int .u8 0) 1 Tryz.underlying29 info_u8 rfl N (by omega) (by omega) W
  have HZL := hidden (show (List.replicate N (Value.int .u8 0)).length = N from List.length_replicate)
  generalize List.replicate N (Value.int .u8 0) = Z at *
  have HR0 : Hid ((w.alloc (.cells Z.toArray 5)).heap[w.heap.size]? = some (.cells Z.toArray 5 (0, 0))) := heap_alloc_new w _
  have HB0 : Hid (Below w.heap.size w (w.alloc (.cells Z.toArray 5))) := (Below.refl _ _).alloc (Nat.le_refl _) _
  have HI := hidden (show (Tryz.prog.info? 5).map (·.size) = some 1 by kernel_rfl)
  have H1 := hidden (oneCell_bcells r)
  have HSP := hidden (show splice (splice Z 0 (bcells p)) n (bcells r) = bcells (p ++ r) by
    rw [bcells_append]
    exact splice2 Z _ _ n (by rw [bcells_length, hn]) (by rw [bcells_length, ← hm, HZL.out, hN]))
  have HNL := hidden (show N = (p ++ r).length by rw [List.length_append, hN, hn, hm])
  have HLP := hidden (show p.length = n from hn.symm)
  have HLR := hidden (show (bcells r).length = m by rw [bcells_length, hm])
  have HLS := hidden (show (splice Z 0 (bcells p)).length = N by rw [length_splice _ _ _ (by rw [bcells_length, HZL.out]; omega), HZL.out])
  have hNl : N ≤ 2000000000 := by omega
  have hnN : n ≤ N := by omega
  have hsub : N - n = m := by omega
  rw [← hm] at HV
  have HHN := hidden hN
  have HSRC := hidden (show 0 < m → ∃ ad, AO = some ad ∧ ∀ W, Grows w W → ∀ j v, (bcells r)[j]? = some v → W.cell? (ad.add j) = some v from fun h0 => by
    obtain ⟨A', c', he, hcell⟩ := HV.out
    injection he with e1 e2 e3
    obtain ⟨b, f, rfl, hc⟩ := hcell (by omega)
    subst e1
    refine ⟨_, rfl, fun W hW j v hj => ?_⟩
    have hjl : j < r.length := by
      rcases Nat.lt_or_ge j r.length with h | h
      · exact h
      · rw [List.getElem?_eq_none (by rw [bcells_length]; exact h)] at hj; cases hj
    have h1 := hc j hjl
    rw [Addr.add_lit, hW.cell (World.block_lt_of_cell? w _ h1), h1]
    simpa [bcells, hjl] using hj)
  rw [← hm]
  clear hv hn hm hp hr hN
  by_cases hm0 : N = n
  case' pos =>
    have HM0 := hidden (show m = 0 by have := HHN.out; omega)
    have hm0' := hm0.symm
    clear hm0
    subst hm0'
  case' neg => have HM0 := hidden (show 0 < m by have := HHN.out; omega)
  all_goals go_enter Tryz.func225, Tryz.ntmps225
  all_goals go_wp2_with (first
    | (refine wpList_copy_str (w := w.alloc (.cells Z.toArray 5)) rfl _ _ 29 9 rfl 5 Tryz.underlying29 HI.out w.heap.size 0 _ _ rfl p rfl Z 5 HR0.out (by rw [HLP.out]; exact hnN) (by rw [HLP.out, HZL.out]; omega) w.heap.size w HB0.out (Nat.le_refl _) ?_; intro w2 hg2 hb2; have HB2 := hidden hb2; clear hb2)
    | (refine wpList_copy_splice rfl (.tmp 18) (.tmp 19) 29 29 rfl 5 Tryz.underlying29 HI.out _ _ m m m c (by rfl) (by rfl) w.heap.size n (splice Z 0 (bcells p)) 5 hg2.out (bcells r) (by rw [HLR.out]; exact (Nat.min_self m).symm) (by intro h0; rw [HLR.out] at h0; first | (obtain ⟨ad, hA, hc⟩ := HSRC.out h0; exact ⟨rfl, ad, hA, hc _ HB2.out⟩) | (exfalso; have := HM0.out; omega)) (by rw [HLR.out, HLS.out, ← HHN.out]; exact Nat.le_refl _) H1.out w.heap.size w HB2.out (Nat.le_refl _) ?_; intro w3 hg3 hb3; have HB3 := hidden hb3; clear hb3)
    | (refine wpList_tostring rfl _ 29 9 5 rfl Tryz.underlying29 Tryz.underlying5 Tryz.underlying9 _ (p ++ r) rfl (IsBytes.of_row (show Row w3 w.heap.size 5 (bcells (p ++ r)) from by rw [← HSP.out]; exact hg3.out) _ _ HNL.out) ?_))
  all_goals (go_ret; exact ⟨rfl, HB3.out⟩)
end Go.Proofs.YthmipnokimlbdaaGreat
/-
  Shaken: what the claims of this seat need of this text. No condition.
-/
namespace Go.Proofs.YthmipnokimlbdaaGreat
open Go.RowKit
set_option linter.unusedVariables false
set_option linter.unusedSimpArgs false
def RsF (r : Str × Int × Int) (w : World) (e : Ending) (w' : World) : Prop := e = .returned (.tuple #[.string (strOf r.1), .int .i64 r.2.1, .int .i64 r.2.2]) ∧ Grows w w'
theorem cut_run (A : Option Addr) (c : Nat) (b : List UInt8) {O Q : Nat} (hOQ : O ≤ Q) (hQb : Q ≤ b.length) (hlc : b.length ≤ c) (hl : b.length ≤ 1000000000) :
    ∃ AO, (∀ w', IsBytes w' (.slice A b.length c) b → IsBytes w' (.slice AO (Q - O) (c - O)) (cutF b O (Q - O))) ∧
      ∀ w', (Instr.sliceAt 29 (.slice A b.length c) (some (.int .i64 (O : Int))) (some (.int .i64 (Q : Int))) none).run Tryz.prog w' = .ok (.slice AO (Q - O) (c - O)) w' := by
  refine ⟨if c = O then A else Option.map (fun x => x.add O) A, fun w' hv => slice_reads2 hv (o := O) (p := Q) hOQ hQb hlc, fun w' => ?_⟩
  have ht : Tryz.prog.underlying 29 = some (.slice (Tryz.prog.elem 29)) := by kernel_rfl
  have hs1 : (sizeOf (Tryz.prog.elem 29)).run Tryz.prog w' = .ok 1 w' := by
    have hi : (Tryz.prog.info? (Tryz.prog.elem 29)).map (·.size) = some 1 := by kernel_rfl
    cases h : Tryz.prog.info? (Tryz.prog.elem 29) with
    | none => rw [h] at hi; cases hi
    | some y =>
      rw [h] at hi
      have h1 : y.size = 1 := by simpa using hi
      simp [sizeOf, typeInfo, h, h1]
  rw [run_sliceAt_slice (P := Tryz.prog) (w := w') 29 (.slice A b.length c) (some (.int .i64 (O : Int))) (some (.int .i64 (Q : Int))) none ht]
  have h := run_slice_lh (P := Tryz.prog) (w := w') 29 A b.length c ht .i64 .i64 (O : Int) (Q : Int) (by omega) (by omega) (by omega)
  rw [h, hs1]
  simp only [Result.andThen_ok, sliced, Int.toNat_natCast, Nat.mul_one]
def cutS (l : List Str) (k n : Nat) : List Str := l.take k ++ List.replicate (n - k) []
theorem asm_cut {p b : List UInt8} {sp : ByteArray} {n q m : Nat} {A : Option Addr} {c2 N2 : Nat} (hsp : sp = strOf p) (hn : n ≤ p.length) (hp : p.length ≤ 1000000000) (hm : m ≤ 1000000000) (hq : q + m ≤ b.length) (hN : N2 = m) {W : World} (hv : IsBytes W (.slice A N2 c2) (cutF b q m)) :
    Calls Tryz.prog 225 #[.string (sp.extract 0 n), .slice A N2 c2] W fun e w' => e = .returned (.string (strOf (p.take n ++ cutF b q m))) ∧ Grows W w' := by
  subst hN hsp
  have hl := cutF_length hq
  rw [strOf_extract, List.drop_zero, Nat.sub_zero]
  have h := assemble_any (p.take n) (cutF b q N2) A c2 W (by rw [hl]; exact hv) (by rw [List.length_take]; omega) (by omega)
  rw [hl] at h
  exact h
set_option maxRecDepth 8000 in
set_option maxHeartbeats 8000000 in
theorem readString_any (A : Option Addr) (c : Nat) (b : List UInt8) (q : Nat) (prev : Str) (rs : Bool) (w : World) (hb : IsBytes w (.slice A b.length c) b) (hlc : b.length ≤ c) (hl : b.length ≤ 1000000000) (hq : q ≤ b.length) (hpl : prev.length ≤ 1000000000) :
    Calls Tryz.prog 215 #[.slice A b.length c, .int .i64 (q : Int), .string (strOf prev), .bool rs] w (RsF (rdF b q (if rs then [] else prev)) w) := by
  have HV := hidden hb
  have HDC := hidden (fun (o : Nat) (W : World) (ho : o ≤ b.length) (hW : Grows w W) => decode_any (.slice A b.length c) b o W (hb.grow hW) (by unfold maxLen; omega) (by omega) (by omega))
  obtain ⟨p, hp⟩ : ∃ p, p = if rs then [] else prev := ⟨_, rfl⟩
  rw [← hp]
  have hpl2 : p.length ≤ 1000000000 := by rw [hp]; cases rs <;> simp <;> omega
  have HQ := hidden hq
  have HLC := hidden hlc
  clear hb hq hlc
  cases rs
  case' false =>
    replace hp : p = prev := by simpa using hp
    subst hp
    go_enter Tryz.func215, Tryz.ntmps215
    go_wp2_with fail
    generalize hsp : strOf p = sp at *
    have HS0 := hidden (rfl : (ByteArray.mk #[]) = ByteArray.mk #[])
  case' true =>
    replace hp : p = [] := by simpa using hp
    go_enter Tryz.func215, Tryz.ntmps215
    go_wp2_with fail
    generalize hsp : (ByteArray.mk #[]) = sp at *
    have HS0 := hidden hsp
    replace hsp : strOf p = sp := by rw [hp, ← hsp]; rfl
    clear hp hpl
  all_goals
    have HSP := hidden hsp.symm
    have hsz : sp.size = p.length := by rw [← hsp]; rfl
    have HD1 := hidden (HDC.out q w HQ.out (Below.refl _ _))
    clear hsp
    by_cases h1 : (dcd b q).2.2 = 0
    · obtain ⟨n, k, hd, hk, hk1, _, hn64⟩ := dcd_acc11 HQ.out h1
      rw [hd] at HD1
      obtain ⟨q2, hq2⟩ : ∃ q2, q2 = q + k := ⟨_, rfl⟩
      rw [← hq2] at hd HD1 hk
      have HN64 := hidden hn64
      refine HD1.out.mono ?_
      rintro e w1 ⟨rfl, rfl⟩
      clear HD1 hk1 hq2 h1
      by_cases h2 : n ≤ p.length
      · have HE0 := hidden (rdF_g hd h2)
        have hd2 : decide (p.length < n) = false := by simp; omega
        have HK := hidden hk
        have HD2 := hidden (HDC.out q2 w hk (Below.refl _ _))
        clear hd hk
        go_wp2_with fail
        by_cases h3 : (dcd b q2).2.2 = 0
        · obtain ⟨m, k2, hd, hk, hk1, _, hm64⟩ := dcd_acc11 HK.out h3
          rw [hd] at HD2
          obtain ⟨q3, hq3⟩ : ∃ q3, q3 = q2 + k2 := ⟨_, rfl⟩
          rw [← hq3] at hd HD2 hk
          refine HD2.out.mono ?_
          rintro e w2 ⟨rfl, rfl⟩
          obtain ⟨R, hR⟩ : ∃ R : Nat, R = b.length - q3 := ⟨_, rfl⟩
          have hR1 : (b.length : Int) - (q3 : Int) = (R : Int) := by omega
          have hRl : R ≤ 1000000000 := by omega
          clear HD2 hk1 hq3 h3
          by_cases h4 : q3 + m ≤ b.length
          · have HE1 := hidden (HE0.out.trans (rdG_h (n := n) (prev := p) hd h4))
            obtain ⟨E, hE⟩ : ∃ E, E = q3 + m := ⟨_, rfl⟩
            have hPE : (q3 : Int) + (m : Int) = (E : Int) := by omega
            have hPL : q3 ≤ E := by omega
            have hEl : E ≤ b.length := by omega
            have hEN : E - q3 = m := by omega
            have hml : m ≤ 1000000000 := by omega
            have hd3 : decide (R < m) = false := by simp; omega
            obtain ⟨AO, hAO, hsa⟩ := cut_run A c b (O := q3) (Q := E) hPL hEl HLC.out hl
            rw [hEN] at hAO
            obtain ⟨S, hS⟩ : ∃ S, S = p.take n ++ cutF b q3 m := ⟨_, rfl⟩
            have hSl : S.length ≤ 2000000000 := by
              rw [hS, List.length_append, cutF_length h4, List.length_take]; omega
            have HAS := hidden (fun (W : World) (hW : Grows w W) => asm_cut (A := AO) (c2 := c - q3) (N2 := E - q3) HSP.out h2 hpl2 hml h4 hEN (W := W) (by rw [hEN]; exact hAO W (HV.out.grow hW)))
            rw [← hS] at HAS
            obtain ⟨C, hC⟩ : ∃ C, C = cp p S := ⟨_, rfl⟩
            have hCl : C ≤ 1000000000 := by rw [hC]; have := (cp_le p S).1; omega
            have HCP := hidden (fun W => show Calls Tryz.prog 173 #[.string sp, .string (strOf S)] W (fun e w' => e = .returned (.int .i64 (C : Int)) ∧ Grows W w') from by rw [hC, HSP.out]; exact cp_grow p S W (by omega) (by omega))
            have HEE := hidden (show rdF b q p = if n < C then ([], 0, 4) else (S, (E : Int), 0) by
              rw [HE1.out]
              unfold rdH
              rw [← hS, ← hC, ← hE])
            have HS := hidden hS
            generalize hss : strOf S = ss at *
            have HSS := hidden hss
            have HSL := hidden hSl
            have HEN := hidden hEN
            clear hd hk hR hE hS hC hAO HE1 HE0 hss hSl h4 hEN
            go_wp2_with fail
            refine wp_region_loose (tabRs [(7, ConstV (.string ss))]) (by kernel_rfl) (by kernel_rfl) (tabRs_cons ConstV.lasts tabRs_nil) ?_
            iterate 7 ((with_reducible refine loose_one (v := ?_) (a' := ?_) ?_ ?_ (fun w' hC' hG' => ?_) ?_ ?_); rotate_left 2; (focus rfl); (focus rfl); (focus (clear hC' hG'; go_simp; rfl)); (focus (go_simp; rfl)))
            refine loose_call (R := ConstV (.string ss)) (f := 225) (args := #[.string (sp.extract 0 n), .slice AO (E - q3) (c - q3)]) (by rfl) (by rfl) (fun _ => by go_simp) (fun w' hC' hG' => const_loose (HAS.out w' hC')) ?_
            rintro _ ⟨_, _, rfl⟩
            refine ⟨?_, ?_, ?_⟩
            rotate_left
            · go_simp
              rfl
            iterate 1 ((with_reducible refine loose_one (v := ?_) (a' := ?_) ?_ ?_ (fun w' hC' hG' => ?_) ?_ ?_); rotate_left 2; (focus rfl); (focus rfl); (focus (clear hC' hG'; go_simp; rfl)); (focus (go_simp; rfl)))
            refine loose_done (fun w12 hC' hG' => ?_)
            clear hG' hsa
            have HG := hidden (show Grows w w12 from hC')
            clear hC'
            go_wp2_with fail
            refine (HCP.out w12).mono ?_
            rintro e w13 ⟨rfl, g13⟩
            have HG3 := hidden (HG.out.of_below g13)
            clear g13
            by_cases h5 : n < C
            · have hd5 : decide (n < C) = true := by simpa using h5
              have HE9 := hidden (show rdF b q p = ([], 0, 4) by rw [HEE.out, if_pos h5])
              clear h5
              go_wp2_with fail
              go_ret3
              exact ⟨by rw [HE9.out]; first | rfl | (rw [← HS0.out]; rfl), HG3.out⟩
            · have hd5 : decide (n < C) = false := by simpa using h5
              have HE9 := hidden (show rdF b q p = (S, (E : Int), 0) by rw [HEE.out, if_neg h5])
              clear h5
              go_wp2_with fail
              go_ret3
              exact ⟨by rw [HE9.out, ← HSS.out]; rfl, HG3.out⟩
          · have HE1 := hidden (HE0.out.trans (rdG_s (n := n) (prev := p) (by rw [hd]) (by rw [hd]; simp only []; omega)))
            have hd3 : decide (R < m) = true := by simp; omega
            have HHM := hidden hm64
            clear hd hk hR HE0
            go_wp2_with fail
            go_ret3
            exact ⟨by rw [HE1.out]; first | rfl | (rw [← HS0.out]; rfl), Below.refl _ _⟩
        · have HE1 := hidden (HE0.out.trans (rdG_e (n := n) (prev := p) h3))
          have hne : ((dcd b q2).2.2 != 0) = true := by simpa using h3
          generalize dcd b q2 = r at *
          obtain ⟨r1, r2, r3⟩ := r
          simp only [] at hne HD2 HE1
          clear h3
          refine HD2.out.mono ?_
          rintro e w2 ⟨rfl, rfl⟩
          go_wp2_with fail
          go_ret3
          exact ⟨by rw [HE1.out]; first | rfl | (rw [← HS0.out]; rfl), Below.refl _ _⟩
      · have HE1 := hidden (rdF_p (b := b) (p := q) (prev := p) (by rw [hd]) (by rw [hd]; simp only []; omega))
        have hd2 : decide (p.length < n) = true := by simp; omega
        clear hd hk
        go_wp2_with fail
        go_ret3
        exact ⟨by rw [HE1.out]; first | rfl | (rw [← HS0.out]; rfl), Below.refl _ _⟩
    · have HE1 := hidden (rdF_e (prev := p) h1)
      have hne : ((dcd b q).2.2 != 0) = true := by simpa using h1
      generalize dcd b q = r at *
      obtain ⟨r1, r2, r3⟩ := r
      simp only [] at hne HD1 HE1
      clear h1
      refine HD1.out.mono ?_
      rintro e w2 ⟨rfl, rfl⟩
      go_wp2_with fail
      go_ret3
      exact ⟨by rw [HE1.out]; first | rfl | (rw [← HS0.out]; rfl), Below.refl _ _⟩
end Go.Proofs.YthmipnokimlbdaaGreat
