/-
  Shaken: what the claims of this seat need of this text. No condition.
-/
import Derived.Test.YthmipnokimlbdaaGreatEh5
import Derived.Test.YthmipnokimlbdaaGreatEr3
import Derived.Test.YthmipnokimlbdaaGreatEnT
namespace Go.Proofs.YthmipnokimlbdaaGreat
set_option maxRecDepth 8000
open Go.RowKit
set_option linter.unusedVariables false
set_option linter.unusedSimpArgs false
def NewBs (H : Nat) : Value → World → Prop := fun v w => ∃ b, v = .pointer (some ⟨b, 0, none⟩) ∧ H ≤ b ∧ Row w b 54 [.int .i64 0, .slice none 0 0]
theorem NewBs.lasts {H : Nat} : ∀ v w w', NewBs H v w → Grows w w' → NewBs H v w' := fun _ _ _ ⟨b, h1, h2, h3⟩ hg => ⟨b, h1, h2, h3.grow hg⟩
def FilV (r : (Int × List UInt64) × Int) : Value → World → Prop := fun v w => ∃ A c, v = .tuple #[.agg #[.int .i64 r.1.1, .slice A r.1.2.length c], .int .i64 r.2] ∧ Reads w (.slice A r.1.2.length c) (ucells r.1.2) ∧ r.1.2.length ≤ 9223372036854775807
theorem FilV.lasts {r : (Int × List UInt64) × Int} : ∀ v w w', FilV r v w → Grows w w' → FilV r v w' := fun _ _ _ ⟨A, c, h1, h2, h3⟩ hg => ⟨A, c, h1, h2.grow hg, h3⟩
theorem fil_loose {f : FuncId} {args : Array Value} {w : World} {r : (Int × List UInt64) × Int} (h : Calls Tryz.prog f args w (FilR r w)) : Calls Tryz.prog f args w fun e w' => ∃ v, e = .returned v ∧ Grows w w' ∧ FilV r v w' :=
  h.mono fun _ _ ⟨x, he, ⟨v, hx, hr, hl⟩, hg⟩ => by
    subst hx
    obtain ⟨A, c, rfl, _⟩ := id hr
    rw [ucells_length] at *
    exact ⟨_, he, hg, A, c, rfl, hr, hl⟩
theorem Reads.not_bs {w : World} {A : Option Addr} {n c : Nat} {l : List UInt64} (h : Reads w (.slice A n c) (ucells l)) {g : Nat} {N : Int} {A' : Option Addr} {n' c' : Nat} (h0 : Row w g 54 [.int .i64 N, .slice A' n' c']) (cs : Array Value) : Reads (w.setRow g cs) (.slice A n c) (ucells l) := by
  obtain ⟨A1, d, he, hle, hcell⟩ := h
  refine ⟨A1, d, he, hle, fun hl => ?_⟩
  obtain ⟨q, off, hA, hq⟩ := hcell hl
  refine ⟨q, off, hA, fun j hj => ?_⟩
  have hj1 := hq j hj
  have hjl : j < l.length := by rw [ucells_length] at hj; exact hj
  rw [ucells_get hjl] at hj1
  have hne : q ≠ g := by
    rintro rfl
    rw [h0.cell (off + j)] at hj1
    match off + j, hj1 with
    | 0, hj1 => simp at hj1
    | 1, hj1 => simp at hj1
    | k + 2, hj1 => simp at hj1
  rw [ucells_get hjl, ← hj1]
  exact World.cell?_of_block (setRow_other w g q cs hne)
def AgRel (w2 : World) (g n : Nat) (ws : List UInt64) (met i : Value) (wr : World) : Prop :=
  ∃ j : Nat, j ≤ 6 ∧ i = .int .i64 (j : Int) ∧ Grows w2 wr ∧
    ((j = 0 ∧ met = .bool false ∧ Row wr g 54 [.int .i64 0, .slice none 0 0]) ∨
     (0 < j ∧ met = .bool true ∧ ∃ A c, Row wr g 54 [.int .i64 (n : Int), .slice A ws.length c] ∧ Reads wr (.slice A ws.length c) (ucells ws)))
def AgRel2 (w4 : World) (n : Nat) (i : Value) (wr : World) : Prop := ∃ j : Nat, j ≤ n ∧ i = .int .i64 (j : Int) ∧ Grows w4 wr
set_option maxHeartbeats 16000000 in
theorem law_agrees (x : Value) (v : Vec) (col op k' n' : Int) (t' : ByteArray) (w : World) (hx : IsV w x v) (hs : Small v) :
    Calls Tryz.prog 7 #[x, .agg #[.int .i64 col, .int .i64 op, .int .i64 k', .int .i64 n', .string t']] w fun e w' => e = .returned (.bool true) ∧ Below w.heap.size w w' := by
  have HSM := hidden (fun W (h : Grows w W) => small12_if x v W (hx.grow h) hs)
  have HED := hidden (fun W (h : Grows w W) => rencodable_any x v W (hx.grow h) hs)
  have HPV := hidden (fun W => rvvalid_any k' n' t' W)
  have HLV := hidden (fun W => lives_any W)
  have HLN := hidden (fun W (h : Grows w W) => rlen_any x v W (hx.grow h))
  have HEN := hidden (fun k W (h : Grows w W) => eEncode_any x v k W (hx.grow h) hs)
  have HAT := hidden (fun i W (h : Grows w W) hi hl => r12at_any x v i W (hx.grow h) hi hl)
  have HHO := hidden (fun a W => r12holds_any col op a (k', n', t') W)
  obtain ⟨a1, a2, a3, rfl, i1, i2, i3⟩ := hx
  obtain ⟨A1, c1, rfl⟩ := i1.slice_
  obtain ⟨A2, c2, rfl⟩ := i2.slice_
  obtain ⟨A3, c3, rfl⟩ := i3.slice_
  obtain ⟨T, hT⟩ : ∃ T, v.T = T := ⟨_, rfl⟩
  obtain ⟨n1, hn1⟩ : ∃ n, v.is.length = n := ⟨_, rfl⟩
  obtain ⟨n2, hn2⟩ : ∃ n, v.ts.length = n := ⟨_, rfl⟩
  obtain ⟨n3, hn3⟩ : ∃ n, v.ns.length = n := ⟨_, rfl⟩
  rw [hT, hn1, hn2, hn3] at HSM HED HEN HAT ⊢
  rw [hT, hn1, hn2, hn3] at HLN
  simp only [prV, Vl.v] at HHO
  have HG0 := hidden ((growB w (.cells #[.int .i64 T, .slice A1 n1 c1, .slice A2 n2 c2, .slice A3 n3 c3] 26)).of_below (growB _ (.cells #[.int .i64 col, .int .i64 op, .int .i64 k', .int .i64 n', .string t'] 50)))
  have HR0 := hidden ((Row.new w 26 #[.int .i64 T, .slice A1 n1 c1, .slice A2 n2 c2, .slice A3 n3 c3] [.int .i64 T, .slice A1 n1 c1, .slice A2 n2 c2, .slice A3 n3 c3] rfl).grow (growB _ (.cells #[.int .i64 col, .int .i64 op, .int .i64 k', .int .i64 n', .string t'] 50)))
  have HP0 := hidden (Row.at_ (w.alloc (.cells #[.int .i64 T, .slice A1 n1 c1, .slice A2 n2 c2, .slice A3 n3 c3] 26)) 50 #[.int .i64 col, .int .i64 op, .int .i64 k', .int .i64 n', .string t'] [.int .i64 col, .int .i64 op, .int .i64 k', .int .i64 n', .string t'] rfl (w.heap.size + 1) (by rw [World.size_alloc]))
  have HSS := hidden hs
  clear i1 i2 i3 hn1 hn2 hs
  go_enter Tryz.func7, Tryz.ntmps7
  go_wp2_with fail
  refine (HSM.out _ HG0.out).mono ?_
  rintro e w1 ⟨sm, rfl, hsm, g1⟩
  have HSI := hidden hsm
  clear hsm
  have HG1 := hidden (HG0.out.of_below g1)
  have HR1 := hidden (HR0.out.grow g1)
  have HP1 := hidden (HP0.out.grow g1)
  have x0 := HR1.out.cell 0
  have x1 := HR1.out.cell 1
  have x2 := HR1.out.cell 2
  have x3 := HR1.out.cell 3
  simp only [List.getElem?_cons_succ, List.getElem?_cons_zero] at x0 x1 x2 x3
  clear g1
  obtain ⟨ok, hok⟩ : ∃ b, okV v = b := ⟨_, rfl⟩
  rw [hok] at HED
  cases sm
  · go_wp2_with (first
      | (go_at_call 10; refine (HLV.out _).mono ?_; rintro e w2 ⟨rfl, g2⟩; have HG2 := hidden (HG1.out.of_below g2); clear g2))
    go_ret
    exact ⟨rfl, HG2.out⟩
  cases ok
  · go_wp2_with (first
      | (go_at_call 13; refine (HED.out _ HG1.out).mono ?_; rintro e w2 ⟨rfl, g2⟩; have HG2 := hidden (HG1.out.of_below g2); clear g2)
      | (go_at_call 10; refine (HLV.out _).mono ?_; rintro e w3 ⟨rfl, g3⟩; have HG3 := hidden (HG2.out.of_below g3); clear g3))
    go_ret
    exact ⟨rfl, HG3.out⟩
  obtain ⟨vb, hvb⟩ : ∃ b, validV k' n' t' = b := ⟨_, rfl⟩
  rw [hvb] at HPV
  cases vb
  · go_wp2_with (first
      | (go_at_call 13; refine (HED.out _ HG1.out).mono ?_; rintro e w2 ⟨rfl, g2⟩; have HG2 := hidden (HG1.out.of_below g2); have HP2 := hidden (HP1.out.grow g2); have p0 := HP2.out.cell 0; have p1 := HP2.out.cell 1; have p2 := HP2.out.cell 2; have p3 := HP2.out.cell 3; have p4 := HP2.out.cell 4; simp only [List.getElem?_cons_succ, List.getElem?_cons_zero] at p0 p1 p2 p3 p4; clear g2)
      | (go_at_call 21; refine (HPV.out _).mono ?_; rintro e w3 ⟨rfl, g3⟩; have HG3 := hidden (HG2.out.of_below g3); clear g3)
      | (go_at_call 10; refine (HLV.out _).mono ?_; rintro e w4 ⟨rfl, g4⟩; have HG4 := hidden (HG3.out.of_below g4); clear g4))
    go_ret
    exact ⟨rfl, HG4.out⟩
  go_wp2_with (first
    | (go_at_call 13; refine (HED.out _ HG1.out).mono ?_; rintro e w2 ⟨rfl, g2⟩; have HG2 := hidden (HG1.out.of_below g2); have HR2 := hidden (HR1.out.grow g2); have HP2 := hidden (HP1.out.grow g2); have p0 := HP2.out.cell 0; have p1 := HP2.out.cell 1; have p2 := HP2.out.cell 2; have p3 := HP2.out.cell 3; have p4 := HP2.out.cell 4; simp only [List.getElem?_cons_succ, List.getElem?_cons_zero] at p0 p1 p2 p3 p4; clear g2)
    | (go_at_call 21; refine (HPV.out _).mono ?_; rintro e w3 ⟨rfl, g3⟩; have HG3 := hidden (HG2.out.of_below g3); have HR3 := hidden (HR2.out.grow g3); have HP3 := hidden (HP2.out.grow g3); clear g3))
  have hE := okV_iff.1 hok
  have hz : szV v ≤ 10000 := of_decide_eq_true (HSI.out hE).symm
  have hfine := HSS.out.fine hE
  have hb3 : n3 ≤ 65536 := by rw [← hn3]; exact hE.len
  have hle3 : lenE v = n3 := by
    unfold lenE
    by_cases h3 : v.T = 3
    · rw [if_pos h3, ← hn3]; exact (hE.lt h3).1
    · rw [if_neg h3, ← hn3]; exact (hE.li h3).1
  have HDX := hidden (fun k (ha : apl k v.T = true) => show decF (formE k v) T (n3 : Int) = (v, ((formE k v).length : Int), 0) from by
    have h := decF_enc hE ha HSS.out.2.2.2 []
    rwa [List.append_nil, hn3, hT] at h)
  have HFI := hidden (fun k A c W hb hlc => eFilter_any A c (formE k v) T (n3 : Int) col op (k', n', t') W hb hlc (by have := pay_small (k := k) hfine hz; omega))
  simp only [prV] at HFI
  obtain ⟨ws, hws⟩ : ∃ ws, ws = pack n3 fun i => lhold op (atVec v i) (k', n', t') := ⟨_, rfl⟩
  obtain ⟨R, hRE, hRC⟩ : ∃ R, (∀ k, apl k v.T = true → filtF (formE k v) T (n3 : Int) op (k', n', t') = R) ∧ (R = ((0, []), 1) ∨ R = (((n3 : Int), ws), 0)) := by
    by_cases ho : okOp op = true
    · exact ⟨_, fun k ha => by rw [filtF_ok ho (HDX.out k ha), ← hws], .inr rfl⟩
    · exact ⟨_, fun k ha => filtF_a (by simpa using ho), .inl rfl⟩
  have HRE := hidden hRE
  have HRC := hidden hRC
  have HWL := hidden (show ws.length = nw n3 by rw [hws, pack_length])
  have HVW := hidden (show validI (n3 : Int) ws = true from by rw [hws]; unfold validI; simp only [decide_eq_true_eq]; exact ⟨by omega, by omega, okW_pack n3 _⟩)
  have HIN := hidden (fun i (hi : i < n3) => show memI n3 ws (i : Int) = rhold op (atVec v i) (k', n', t') from by
    unfold memI
    rw [Int.toNat_natCast, hws, mem_pack, decide_eq_true hi, Bool.true_and, lhold_eq (at_valid hE (by rw [hle3]; exact hi)) hvb]
    simp)
  have HAT := hidden (fun (i : Nat) W (h : Grows w W) (hi : i < n3) => HAT.out i W h (by rw [hle3]; exact hi) (by rw [hle3]; omega))
  have HAP := hidden (fun (k : Nat) (hk : k < 6) => (⟨fun ha => encF_ap hok hk ha, fun ha => encF_no hok hk ha⟩ : (apl k v.T = true → encFV v k = (formE k v, 0)) ∧ (apl k v.T = false → encFV v k = ([], 7))))
  have ha0 : apl 0 v.T = true := by
    have h := okT_in hE.t
    unfold apl
    split
    · rfl
    · rw [if_pos (by omega)]; rfl
  clear hws hRE hRC hE hz hfine hle3 x0 x1 x2 x3 p0 p1 p2 p3 p4 HDX HSI HSS HSM HED HPV
  have HG4 := hidden (HG3.out.of_below (growB w3 (.cells #[.int .i64 0, .slice none 0 0] 54)))
  have HB4 := hidden (Row.new w3 54 #[.int .i64 0, .slice none 0 0] [.int .i64 0, .slice none 0 0] rfl)
  go_loopw [6, 7, 8, 9, 10, 11] (fun met i _ _ _ _ wr => AgRel w3 w3.heap.size n3 ws met i wr) (fun _ i _ _ _ _ _ => 6 - (intOf i).toNat)
  case atStart => exact ⟨0, by omega, rfl, growB _ _, .inl ⟨rfl, rfl, HB4.out⟩⟩
  case round =>
    obtain ⟨k, hk, rfl, hb, hst⟩ := hrel
    have HB := hidden hb
    have HST := hidden hst
    have HGW := hidden (HG3.out.of_below hb)
    have HRW := hidden (HR3.out.grow hb)
    have HPW := hidden (HP3.out.grow hb)
    have x0 := HRW.out.cell 0
    have x1 := HRW.out.cell 1
    have x2 := HRW.out.cell 2
    have x3 := HRW.out.cell 3
    simp only [List.getElem?_cons_succ, List.getElem?_cons_zero] at x0 x1 x2 x3
    clear hb hst
    by_cases hlt : k < 6
    · have HENK := hidden (HEN.out (k : Int) wr HGW.out)
      have HLT := hidden hlt
      obtain ⟨ap, hap⟩ : ∃ b, apl k v.T = b := ⟨_, rfl⟩
      cases ap
      · rw [(HAP.out k hlt).2 hap] at HENK
        have HNZ := hidden (show 0 < k from by
          rcases Nat.eq_zero_or_pos k with h | h
          · subst h; rw [ha0] at hap; cases hap
          · exact h)
        clear hap
        go_wp2_with fail
        refine HENK.out.mono ?_
        rintro e w5 ⟨u5, rfl, g5, A5, c5, rfl, _, _⟩
        have HB5 := hidden (HB.out.of_below g5)
        have HG5 := hidden g5
        simp only [List.length_nil]
        clear g5
        go_wp2_with fail
        go_roundw
        case rel =>
          refine ⟨k + 1, by omega, by go_num, HB5.out, .inr ⟨by omega, ?_⟩⟩
          rcases HST.out with ⟨h0, _, _⟩ | ⟨_, hm, A, c, hrow, hrd⟩
          · have := HNZ.out; omega
          · exact ⟨hm, A, c, hrow.grow HG5.out, hrd.grow HG5.out⟩
        case measure => simp [intOf]; omega
      · rw [(HAP.out k hlt).1 hap] at HENK
        have HREK := hidden (HRE.out k hap)
        have HFIK := hidden (HFI.out k)
        rw [HREK.out] at HFIK
        obtain ⟨fk, hfk⟩ : ∃ f, formE k v = f := ⟨_, rfl⟩
        rw [hfk] at HENK HFIK
        clear hap hfk HREK
        go_wp2_with fail
        refine HENK.out.mono ?_
        rintro e w5 ⟨u5, rfl, g5, A5, c5, rfl, hl5, hb5⟩
        simp only [] at hl5 hb5 ⊢
        have HFW := hidden (fun W (h : Grows w5 W) => HFIK.out A5 c5 W (hb5.grow h) hl5)
        have HB5 := hidden (HB.out.of_below g5)
        have HG5 := hidden g5
        have HGW5 := hidden (HGW.out.of_below g5)
        have HRW5 := hidden (HRW.out.grow g5)
        have HPW5 := hidden (HPW.out.grow g5)
        clear g5 hl5 hb5 x0 x1 x2 x3 HFIK
        go_wp2_with fail
        letI : SteQ := turnSte w5.heap.size R.1.1 R.1.2
        refine wp_region_looseX (tabX [(4, fun _ => ConstV (.int .i64 (n3 : Int))), (6, fun _ => FilV R), (10, fun _ => FormB w5.heap.size), (11, fun s _ w' => ∀ b, s = .pointer (some ⟨b, 0, none⟩) → RightB 0 b R.1.1 R.1.2 w')]) (by kernel_rfl) (by kernel_rfl)
          (tabX_cons (fun _ _ _ _ h _ => h) (tabX_cons (fun _ _ w w' ⟨A, c, h1, h2, h3⟩ ht => ⟨A, c, h1, (show TurnB w5.heap.size R.1.1 R.1.2 w w' from ht).words h2, h3⟩) (tabX_cons (fun _ => FormB.lasts) (tabX_cons (fun s v w w' h ht b hb => (h b hb).lasts ht) tabX_nil)))) ?_
        iterate 4 ((with_reducible refine loose_oneX (v := ?_) (a' := ?_) ?_ ?_ (fun w' hC' hG' => ?_) ?_ ?_); rotate_left 2; (focus rfl); (focus rfl); (focus (have hT := (show TurnB w5.heap.size R.1.1 R.1.2 w5 w' from hC'); have f0 := (HRW5.out.grow hT.1).cell 0; have f1 := (HRW5.out.grow hT.1).cell 1; have f2 := (HRW5.out.grow hT.1).cell 2; have f3 := (HRW5.out.grow hT.1).cell 3; have p0 := (HPW5.out.grow hT.1).cell 0; have p1 := (HPW5.out.grow hT.1).cell 1; have p2 := (HPW5.out.grow hT.1).cell 2; have p3 := (HPW5.out.grow hT.1).cell 3; have p4 := (HPW5.out.grow hT.1).cell 4; simp only [List.getElem?_cons_succ, List.getElem?_cons_zero] at f0 f1 f2 f3 p0 p1 p2 p3 p4; clear hC' hG' hT; go_simp; rfl)); (focus (go_simp; rfl)))
        refine loose_callX (R := fun _ => ConstV (.int .i64 (n3 : Int))) (f := 26) (args := #[.agg #[.int .i64 T, .slice A1 n1 c1, .slice A2 n2 c2, .slice A3 n3 c3]]) (by rfl) (by rfl) (fun _ => by go_simp) (fun w' hC' hG' => (const_loose (HLN.out w' (HGW5.out.of_below (show TurnB w5.heap.size R.1.1 R.1.2 w5 w' from hC').1))).mono fun _ _ ⟨v, he, hg, hr⟩ => ⟨v, he, TurnB.grows (show TurnB w5.heap.size R.1.1 R.1.2 w5 w' from hC').1.size hg, hr⟩) ?_
        rintro _ ⟨_, _, rfl⟩
        refine ⟨?_, ?_, ?_⟩
        rotate_left
        · go_simp
          rfl
        iterate 1 ((with_reducible refine loose_oneX (v := ?_) (a' := ?_) ?_ ?_ (fun w' hC' hG' => ?_) ?_ ?_); rotate_left 2; (focus rfl); (focus rfl); (focus (have hT := (show TurnB w5.heap.size R.1.1 R.1.2 w5 w' from hC'); have f0 := (HRW5.out.grow hT.1).cell 0; have f1 := (HRW5.out.grow hT.1).cell 1; have f2 := (HRW5.out.grow hT.1).cell 2; have f3 := (HRW5.out.grow hT.1).cell 3; have p0 := (HPW5.out.grow hT.1).cell 0; have p1 := (HPW5.out.grow hT.1).cell 1; have p2 := (HPW5.out.grow hT.1).cell 2; have p3 := (HPW5.out.grow hT.1).cell 3; have p4 := (HPW5.out.grow hT.1).cell 4; simp only [List.getElem?_cons_succ, List.getElem?_cons_zero] at f0 f1 f2 f3 p0 p1 p2 p3 p4; clear hC' hG' hT; go_simp; rfl)); (focus (go_simp; rfl)))
        refine loose_callX (R := fun _ => FilV R) (f := 22) (args := #[.slice A5 fk.length c5, .int .i64 T, .int .i64 (n3 : Int), .agg #[.int .i64 col, .int .i64 op, .int .i64 k', .int .i64 n', .string t']]) (by rfl) (by rfl) (fun _ => by go_simp) (fun w' hC' hG' => (fil_loose (HFW.out w' (show TurnB w5.heap.size R.1.1 R.1.2 w5 w' from hC').1)).mono fun _ _ ⟨v, he, hg, hr⟩ => ⟨v, he, TurnB.grows (show TurnB w5.heap.size R.1.1 R.1.2 w5 w' from hC').1.size hg, hr⟩) ?_
        rintro _ ⟨_, _, A6, c6, rfl, _, _⟩
        refine ⟨?_, ?_, ?_⟩
        rotate_left
        · go_simp
          rfl
        iterate 3 ((with_reducible refine loose_oneX (v := ?_) (a' := ?_) ?_ ?_ (fun w' hC' hG' => ?_) ?_ ?_); rotate_left 2; (focus rfl); (focus rfl); (focus (have hT := (show TurnB w5.heap.size R.1.1 R.1.2 w5 w' from hC'); have f0 := (HRW5.out.grow hT.1).cell 0; have f1 := (HRW5.out.grow hT.1).cell 1; have f2 := (HRW5.out.grow hT.1).cell 2; have f3 := (HRW5.out.grow hT.1).cell 3; have p0 := (HPW5.out.grow hT.1).cell 0; have p1 := (HPW5.out.grow hT.1).cell 1; have p2 := (HPW5.out.grow hT.1).cell 2; have p3 := (HPW5.out.grow hT.1).cell 3; have p4 := (HPW5.out.grow hT.1).cell 4; simp only [List.getElem?_cons_succ, List.getElem?_cons_zero] at f0 f1 f2 f3 p0 p1 p2 p3 p4; clear hC' hG' hT; go_simp; rfl)); (focus (go_simp; rfl)))
        refine loose_newX (R := fun _ => FormB w5.heap.size) (by rfl) (by rfl) (fun w' hC' hG' => ?_) ?_
        · have hT := (show TurnB w5.heap.size R.1.1 R.1.2 w5 w' from hC')
          exact ⟨.pointer (some ⟨w'.heap.size, 0, none⟩), w'.alloc (.cells #[.int .i64 0, .slice none 0 0] 54), by first | rfl | go_simp, TurnB.grows hT.1.size (growB _ _), w'.heap.size, 0, none, 0, 0, rfl, hT.1.size, Row.new w' 54 #[.int .i64 0, .slice none 0 0] [.int .i64 0, .slice none 0 0] rfl⟩
        rintro _ ⟨_, _, b10, z10, A10, k10, c10, rfl, hb10, _⟩
        refine ⟨?_, ?_, ?_⟩
        rotate_left
        · go_simp
          rfl
        refine loose_storeX (R := fun s _ w' => ∀ b, s = .pointer (some ⟨b, 0, none⟩) → RightB 0 b R.1.1 R.1.2 w') (by rfl) (by rfl) (fun w' hC' hG' => ?_) ?_
        · have hT := (show TurnB w5.heap.size R.1.1 R.1.2 w5 w' from hC')
          have h10 : FormB w5.heap.size (.pointer (some ⟨b10, 0, none⟩)) w' := (hG' 10 (by kernel_rfl)).2 rfl
          have h6 : FilV R (.tuple #[.agg #[.int .i64 R.1.1, .slice A6 R.1.2.length c6], .int .i64 R.2]) w' := (hG' 6 (by kernel_rfl)).1.2 rfl
          obtain ⟨b', z', A', q', c', e1, _, hrow⟩ := h10
          obtain ⟨A7, c7, e2, hrd, _⟩ := h6
          have e3 : b10 = b' := by simpa using e1
          have e4 : A6 = A7 ∧ c6 = c7 := by simpa using e2
          obtain ⟨e5, e6⟩ := e4
          subst e3 e5 e6
          have hst := TurnB.store (n := R.1.1) hb10 hrow hrd
          refine ⟨w'.setRow b10 #[.int .i64 R.1.1, .slice A6 R.1.2.length c6], store_run_bs _ _ rfl b10 _ _ _ _ (by rfl) (by rfl) hrow, hst, fun b hb => ?_⟩
          have e7 : b10 = b := by
            have h : Value.pointer (some ⟨b10, 0, none⟩) = .pointer (some ⟨b, 0, none⟩) := hb
            simpa using h
          subst e7
          exact ⟨A6, c6, Row.setRow_ hrow [.int .i64 R.1.1, .slice A6 R.1.2.length c6] rfl, hst.words hrd⟩
        intro v11 _
        refine ⟨?_, ?_, ?_⟩
        rotate_left
        · go_simp
          rfl
        iterate 1 ((with_reducible refine loose_oneX (v := ?_) (a' := ?_) ?_ ?_ (fun w' hC' hG' => ?_) ?_ ?_); rotate_left 2; (focus rfl); (focus rfl); (focus (have hT := (show TurnB w5.heap.size R.1.1 R.1.2 w5 w' from hC'); have f0 := (HRW5.out.grow hT.1).cell 0; have f1 := (HRW5.out.grow hT.1).cell 1; have f2 := (HRW5.out.grow hT.1).cell 2; have f3 := (HRW5.out.grow hT.1).cell 3; have p0 := (HPW5.out.grow hT.1).cell 0; have p1 := (HPW5.out.grow hT.1).cell 1; have p2 := (HPW5.out.grow hT.1).cell 2; have p3 := (HPW5.out.grow hT.1).cell 3; have p4 := (HPW5.out.grow hT.1).cell 4; simp only [List.getElem?_cons_succ, List.getElem?_cons_zero] at f0 f1 f2 f3 p0 p1 p2 p3 p4; clear hC' hG' hT; go_simp; rfl)); (focus (go_simp; rfl)))
        refine loose_doneX (fun w7 hC' hG' => ?_)
        obtain ⟨A8, c8, hrow8, hrd8⟩ : RightB 0 b10 R.1.1 R.1.2 w7 := (hG' 11).2 rfl b10 rfl
        have HG7 := hidden (show TurnB w5.heap.size R.1.1 R.1.2 w5 w7 from hC').1
        have HROW8 := hidden hrow8
        have HRD8 := hidden hrd8
        have HBG := hidden hb10
        clear hC' hG' hrow8 hrd8 hb10
        have HGX := hidden (HGW5.out.of_below HG7.out)
        have HBX := hidden (HB5.out.of_below HG7.out)
        have hrc := HRC.out
        clear HRC HRE HFW
        rcases hrc with hR | hR
        · subst hR
          go_wp2_with (go_at_call 10; refine (HLV.out _).mono ?_; rintro e w9 ⟨rfl, g9⟩; have HG9 := hidden (HGX.out.of_below g9); clear g9)
          go_ret
          exact ⟨rfl, HG9.out⟩
        · subst hR
          rcases HST.out with ⟨h0, hm, hrow0⟩ | ⟨hk0, hm, A9, c9, hrow9, hrd9⟩
          · subst hm
            have HRG := hidden ((hrow0.grow HG5.out).grow HG7.out)
            have HWG : Hid (w7.heap[w3.heap.size]? = some (.cells #[.int .i64 0, .slice none 0 0] 54 (0, 0))) := HRG.out
            have HWS : Hid (w7.heap[b10]? = some (.cells #[.int .i64 (n3 : Int), .slice A8 ws.length c8] 54 (0, 0))) := HROW8.out
            have HF := hidden (Row.setRow_ HRG.out [.int .i64 (n3 : Int), .slice A8 ws.length c8] rfl)
            have HFR := hidden (Reads.not_bs HRD8.out HRG.out #[.int .i64 (n3 : Int), .slice A8 ws.length c8])
            have HFB := hidden (below_setRow HBX.out (Nat.le_refl _) #[.int .i64 (n3 : Int), .slice A8 ws.length c8])
            clear hrow0 h0
            go_wp2_with (first
              | (refine wpList_store_row rfl _ _ _ rfl w3.heap.size #[.int .i64 (n3 : Int), .slice A8 ws.length c8] rfl rfl _ _ HWG.out size_set rfl (by simp [Value.oneCell']) ?_)
              | (refine wpList_load_row rfl _ _ rfl _ rfl _ _ _ _ HWS.out Tryz.underlying54 rfl size_set ?_))
            go_roundw
            case rel => exact ⟨k + 1, by omega, by go_num, HFB.out, .inr ⟨by omega, rfl, A8, c8, HF.out, HFR.out⟩⟩
            case measure => simp [intOf]; omega
          · subst hm
            have HEQ := hidden (rbsequal_any (.agg #[.int .i64 (n3 : Int), .slice A9 ws.length c9]) (.agg #[.int .i64 (n3 : Int), .slice A8 ws.length c8]) n3 n3 ws ws w7 ⟨_, rfl, (hrd9.grow HG5.out).grow HG7.out, by have := HWL.out; unfold nw at this; omega⟩ ⟨_, rfl, HRD8.out, by have := HWL.out; unfold nw at this; omega⟩)
            rw [pairEq_t ⟨rfl, rfl⟩] at HEQ
            have HRG := hidden ((hrow9.grow HG5.out).grow HG7.out)
            have HWG : Hid (w7.heap[w3.heap.size]? = some (.cells #[.int .i64 (n3 : Int), .slice A9 ws.length c9] 54 (0, 0))) := HRG.out
            have HWS : Hid (w7.heap[b10]? = some (.cells #[.int .i64 (n3 : Int), .slice A8 ws.length c8] 54 (0, 0))) := HROW8.out
            have z0 := HRG.out.cell 0
            have z1 := HRG.out.cell 1
            have y0 := HROW8.out.cell 0
            have y1 := HROW8.out.cell 1
            simp only [List.getElem?_cons_succ, List.getElem?_cons_zero] at z0 z1 y0 y1
            clear hrow9 hrd9 hk0
            go_wp2_with (first
              | (go_at_call 24
                 refine HEQ.out.mono ?_
                 rintro e w9 ⟨rfl, g9⟩
                 have HRG := hidden (HRG.out.grow g9)
                 have HWG : Hid (w9.heap[w3.heap.size]? = some (.cells #[.int .i64 (n3 : Int), .slice A9 ws.length c9] 54 (0, 0))) := HRG.out
                 have HWS : Hid (w9.heap[b10]? = some (.cells #[.int .i64 (n3 : Int), .slice A8 ws.length c8] 54 (0, 0))) := HROW8.out.grow g9
                 have HF := hidden (Row.setRow_ HRG.out [.int .i64 (n3 : Int), .slice A8 ws.length c8] rfl)
                 have HFR := hidden (Reads.not_bs (HRD8.out.grow g9) HRG.out #[.int .i64 (n3 : Int), .slice A8 ws.length c8])
                 have HFB := hidden (below_setRow (HBX.out.of_below g9) (Nat.le_refl _) #[.int .i64 (n3 : Int), .slice A8 ws.length c8])
                 clear g9)
              | (refine wpList_store_row rfl _ _ _ rfl w3.heap.size #[.int .i64 (n3 : Int), .slice A8 ws.length c8] rfl rfl _ _ HWG.out size_set rfl (by simp [Value.oneCell']) ?_)
              | (refine wpList_load_row rfl _ _ rfl _ rfl _ _ _ _ HWS.out Tryz.underlying54 rfl size_set ?_)
              | (refine wpList_load_row rfl _ _ rfl _ rfl _ _ _ _ HWG.out Tryz.underlying54 rfl size_set ?_))
            go_roundw
            case rel => exact ⟨k + 1, by omega, by go_num, HFB.out, .inr ⟨by omega, rfl, A8, c8, HF.out, HFR.out⟩⟩
            case measure => simp [intOf]; omega
    · obtain ⟨AF, cF, hm, hrowF, hrdF⟩ : ∃ A c, u6 = .bool true ∧ Row wr w3.heap.size 54 [.int .i64 (n3 : Int), .slice A ws.length c] ∧ Reads wr (.slice A ws.length c) (ucells ws) := by
        rcases HST.out with ⟨h0, _, _⟩ | ⟨_, hm, A, c, h1, h2⟩
        · omega
        · exact ⟨A, c, hm, h1, h2⟩
      subst hm
      have HF := hidden hrowF
      have hwl3 : n3 ≤ 64 * ws.length := by have := HWL.out; unfold nw at this; omega
      have HPR := hidden (fun W (h : Grows wr W) => (⟨_, rfl, hrdF.grow h, by have := HWL.out; unfold nw at this; omega⟩ : IsPair W (.agg #[.int .i64 (n3 : Int), .slice AF ws.length cF]) (n3 : Int) ws))
      have HSR := hidden (fun W (h : Grows wr W) => (⟨_, rfl, hrdF.grow h, hwl3, by omega⟩ : IsSet W (.agg #[.int .i64 (n3 : Int), .slice AF ws.length cF]) n3 ws))
      have HVA := hidden (fun W (h : Grows wr W) => rvalid_any (.agg #[.int .i64 (n3 : Int), .slice AF ws.length cF]) (n3 : Int) ws W (HPR.out W h) (by omega) (by omega))
      have HCT := hidden (fun (i : Nat) W (h : Grows wr W) (hi : i < n3) => rcontains_any (.agg #[.int .i64 (n3 : Int), .slice AF ws.length cF]) n3 ws (i : Int) W (HSR.out W h) (by omega) (by omega))
      simp only [HVW.out] at HVA
      clear hrowF hrdF hwl3 x0 x1 x2 x3
      go_wp2_with fail
      refine wp_region_loose (tabRs [(6, ConstV (.int .i64 (n3 : Int))), (11, ConstV (.bool true))]) (by kernel_rfl) (by kernel_rfl) (tabRs_cons ConstV.lasts (tabRs_cons ConstV.lasts tabRs_nil)) ?_
      iterate 6 ((with_reducible refine loose_one (v := ?_) (a' := ?_) ?_ ?_ (fun w' hC' hG' => ?_) ?_ ?_); rotate_left 2; (focus rfl); (focus rfl); (focus (have f0 := (HRW.out.grow hC').cell 0; have f1 := (HRW.out.grow hC').cell 1; have f2 := (HRW.out.grow hC').cell 2; have f3 := (HRW.out.grow hC').cell 3; have z0 := (HF.out.grow hC').cell 0; have z1 := (HF.out.grow hC').cell 1; simp only [List.getElem?_cons_succ, List.getElem?_cons_zero] at f0 f1 f2 f3 z0 z1; clear hC' hG'; go_simp; rfl)); (focus (go_simp; rfl)))
      refine loose_call (R := ConstV (.int .i64 (n3 : Int))) (f := 26) (args := #[.agg #[.int .i64 T, .slice A1 n1 c1, .slice A2 n2 c2, .slice A3 n3 c3]]) (by rfl) (by rfl) (fun _ => by go_simp) (fun w' hC' hG' => const_loose (HLN.out w' (HGW.out.of_below hC'))) ?_
      rintro _ ⟨_, _, rfl⟩
      refine ⟨?_, ?_, ?_⟩
      rotate_left
      · go_simp
        rfl
      iterate 4 ((with_reducible refine loose_one (v := ?_) (a' := ?_) ?_ ?_ (fun w' hC' hG' => ?_) ?_ ?_); rotate_left 2; (focus rfl); (focus rfl); (focus (have z0 := (HF.out.grow hC').cell 0; have z1 := (HF.out.grow hC').cell 1; simp only [List.getElem?_cons_succ, List.getElem?_cons_zero] at z0 z1; clear hC' hG'; go_simp; rfl)); (focus (go_simp; rfl)))
      refine loose_call (R := ConstV (.bool true)) (f := 27) (args := #[.agg #[.int .i64 (n3 : Int), .slice AF ws.length cF]]) (by rfl) (by rfl) (fun _ => by go_simp) (fun w' hC' hG' => const_loose (HVA.out w' hC')) ?_
      rintro _ ⟨_, _, rfl⟩
      refine ⟨?_, ?_, ?_⟩
      rotate_left
      · go_simp
        rfl
      iterate 2 ((with_reducible refine loose_one (v := ?_) (a' := ?_) ?_ ?_ (fun w' hC' hG' => ?_) ?_ ?_); rotate_left 2; (focus rfl); (focus rfl); (focus (clear hC' hG'; go_simp; rfl)); (focus (go_simp; rfl)))
      refine loose_done (fun w4 hC' hG' => ?_)
      have HG34 := hidden hC'
      clear hG' hC'
      go_wp2_with fail
      go_loopw [12] (fun i wr' => AgRel2 w4 n3 i wr') (fun i _ => n3 - (intOf i).toNat)
      case atStart => exact ⟨0, by omega, rfl, Below.refl _ _⟩
      case round =>
        obtain ⟨j, hj, rfl, hb2⟩ := hrel
        have HB2 := hidden (HG34.out.of_below hb2)
        have HBL := hidden hb2
        have HRX := hidden (HRW.out.grow HB2.out)
        have HPX := hidden (HPW.out.grow HB2.out)
        have HFX := hidden (HF.out.grow HB2.out)
        have x0 := HRX.out.cell 0
        have x1 := HRX.out.cell 1
        have x2 := HRX.out.cell 2
        have x3 := HRX.out.cell 3
        simp only [List.getElem?_cons_succ, List.getElem?_cons_zero] at x0 x1 x2 x3
        clear hb2
        by_cases hlt2 : j < n3
        · have HINJ := hidden (HIN.out j hlt2)
          have HATJ := hidden (fun W (h : Grows w W) => HAT.out j W h hlt2)
          have HCTJ := hidden (fun W h => HCT.out j W h hlt2)
          have HHOJ := hidden (fun W => HHO.out (atVec v j) W)
          simp only [HINJ.out] at HCTJ
          obtain ⟨q, hq⟩ : ∃ q, atVec v j = q := ⟨_, rfl⟩
          rw [hq] at HATJ HHOJ HCTJ
          obtain ⟨q1, q2, q3⟩ := q
          simp only [Vl.v] at HATJ HHOJ
          obtain ⟨rh, hrh⟩ : ∃ b, rhold op (q1, q2, q3) (k', n', t') = b := ⟨_, rfl⟩
          rw [hrh] at HHOJ HCTJ
          clear hq hrh HINJ
          go_wp2_with ((go_at_call 26; refine (HLN.out _ (HGW.out.of_below HB2.out)).mono ?_; rintro e w5 ⟨rfl, g5⟩; have HB5 := hidden (HB2.out.of_below g5); have HBL5 := hidden (HBL.out.of_below g5); have HRY := hidden (HRX.out.grow g5); have HPY := hidden (HPX.out.grow g5); have HFY := hidden (HFX.out.grow g5); clear g5 x0 x1 x2 x3))
          refine wp_region_loose (tabRs [(2, ConstV (.bool rh)), (6, ConstV (.agg #[.int .i64 q1, .int .i64 q2, .string q3])), (7, ConstV (.bool rh))]) (by kernel_rfl) (by kernel_rfl) (tabRs_cons ConstV.lasts (tabRs_cons ConstV.lasts (tabRs_cons ConstV.lasts tabRs_nil))) ?_
          iterate 2 ((with_reducible refine loose_one (v := ?_) (a' := ?_) ?_ ?_ (fun w' hC' hG' => ?_) ?_ ?_); rotate_left 2; (focus rfl); (focus rfl); (focus (have z0 := (HFY.out.grow hC').cell 0; have z1 := (HFY.out.grow hC').cell 1; simp only [List.getElem?_cons_succ, List.getElem?_cons_zero] at z0 z1; clear hC' hG'; go_simp; rfl)); (focus (go_simp; rfl)))
          refine loose_call (R := ConstV (.bool rh)) (f := 28) (args := #[.agg #[.int .i64 (n3 : Int), .slice AF ws.length cF], .int .i64 (j : Int)]) (by rfl) (by rfl) (fun _ => by go_simp) (fun w' hC' hG' => const_loose (HCTJ.out w' (HB5.out.of_below hC'))) ?_
          rintro _ ⟨_, _, rfl⟩
          refine ⟨?_, ?_, ?_⟩
          rotate_left
          · go_simp
            rfl
          iterate 3 ((with_reducible refine loose_one (v := ?_) (a' := ?_) ?_ ?_ (fun w' hC' hG' => ?_) ?_ ?_); rotate_left 2; (focus rfl); (focus rfl); (focus (have f0 := (HRY.out.grow hC').cell 0; have f1 := (HRY.out.grow hC').cell 1; have f2 := (HRY.out.grow hC').cell 2; have f3 := (HRY.out.grow hC').cell 3; have p0 := (HPY.out.grow hC').cell 0; have p1 := (HPY.out.grow hC').cell 1; have p2 := (HPY.out.grow hC').cell 2; have p3 := (HPY.out.grow hC').cell 3; have p4 := (HPY.out.grow hC').cell 4; simp only [List.getElem?_cons_succ, List.getElem?_cons_zero] at f0 f1 f2 f3 p0 p1 p2 p3 p4; clear hC' hG'; go_simp; rfl)); (focus (go_simp; rfl)))
          refine loose_call (R := ConstV (.agg #[.int .i64 q1, .int .i64 q2, .string q3])) (f := 30) (args := #[.agg #[.int .i64 T, .slice A1 n1 c1, .slice A2 n2 c2, .slice A3 n3 c3], .int .i64 (j : Int)]) (by rfl) (by rfl) (fun _ => by go_simp) (fun w' hC' hG' => const_loose (HATJ.out w' ((HGW.out.of_below HB5.out).of_below hC'))) ?_
          rintro _ ⟨_, _, rfl⟩
          refine ⟨?_, ?_, ?_⟩
          rotate_left
          · go_simp
            rfl
          refine loose_call (R := ConstV (.bool rh)) (f := 29) (args := #[.agg #[.int .i64 col, .int .i64 op, .int .i64 k', .int .i64 n', .string t'], .agg #[.int .i64 q1, .int .i64 q2, .string q3]]) (by rfl) (by rfl) (fun _ => by go_simp) (fun w' hC' hG' => const_loose (HHOJ.out w')) ?_
          rintro _ ⟨_, _, rfl⟩
          refine ⟨?_, ?_, ?_⟩
          rotate_left
          · go_simp
            rfl
          iterate 1 ((with_reducible refine loose_one (v := ?_) (a' := ?_) ?_ ?_ (fun w' hC' hG' => ?_) ?_ ?_); rotate_left 2; (focus rfl); (focus rfl); (focus (clear hC' hG'; go_simp; rfl)); (focus (go_simp; rfl)))
          refine loose_done (fun w6 hC' hG' => ?_)
          have HB6 := hidden (HBL5.out.of_below hC')
          clear hG' hC'
          cases rh <;> go_wp2_with fail
          all_goals
            go_roundw
            case rel => exact ⟨j + 1, by omega, by go_num, HB6.out⟩
            case measure => simp [intOf]; omega
        · go_wp2_with (first | (go_at_call 26; refine (HLN.out _ (HGW.out.of_below HB2.out)).mono ?_; rintro e w5 ⟨rfl, g5⟩; have HB5 := hidden ((HGW.out.of_below HB2.out).of_below g5); clear g5) | (go_at_call 10; refine (HLV.out _).mono ?_; rintro e w9 ⟨rfl, g9⟩; have HG9 := hidden (HB5.out.of_below g9); clear g9))
          go_ret
          exact ⟨rfl, HG9.out⟩
end Go.Proofs.YthmipnokimlbdaaGreat
