/-
  Package rle as it landed: Filter, handed one of the laws' function literals: it asks for each run once, in order, and gives the set of the elements that are accepted.
-/
import Derived.Test.YtnjmbhakfecdoaaRm4
import Derived.Test.YtnjmbhakfecdoaaRlEnc
namespace Go.Proofs.Ytnjmbhakfecdoaa
open Go.RowKit
set_option linter.unusedVariables false
set_option linter.unusedSimpArgs false

theorem size_set' : (Try.prog.info? 39).map (·.size) = some 2 := by kernel_rfl
/-- blocks from H on that were there are as they were -/
def KeepFrom (H : Nat) (w w' : World) : Prop := w.heap.size ≤ w'.heap.size ∧ ∀ b, H ≤ b → b < w.heap.size → w'.heap[b]? = w.heap[b]?
theorem KeepFrom.row {H : Nat} {w w' : World} (h : KeepFrom H w w') {g : Nat} {e : TypeId} {xs : List Value} (hg : H ≤ g) (hr : Row w g e xs) : Row w' g e xs := (h.2 g hg hr.lt).trans hr
theorem BelowBut.low {K H B : Nat} {w w' : World} (h : BelowBut H B w w') (h1 : K ≤ H) (h2 : K ≤ B) : Below K w w' := ⟨h.os, h.tape, h.output, h.size, fun k hk => h.block k (by omega) (by omega)⟩
def accF (p : Int → Bool) (vs : List Int) : Nat → Bool := fun j => p (vs.getD j 0)
theorem expR_split {l : List Rn} {j : Nat} (h : j < l.length) : expR l = expR (l.take j) ++ (List.replicate l[j].2.toNat l[j].1 ++ expR (l.drop (j + 1))) := by
  have h1 : l = l.take j ++ l[j] :: l.drop (j + 1) := by rw [← List.drop_eq_getElem_cons h, List.take_append_drop]
  conv => lhs; rw [h1]
  rw [expR_append, expR]
theorem accF_run (p : Int → Bool) {l : List Rn} {j : Nat} (h : j < l.length) (i : Nat) (h1 : (expR (l.take j)).length ≤ i) (h2 : i < (expR (l.take j)).length + l[j].2.toNat) : accF p (expR l) i = p l[j].1 := by
  unfold accF
  rw [List.getD_eq_getElem?_getD, expR_split h, List.getElem?_append_right h1, List.getElem?_append_left (by rw [List.length_replicate]; omega), List.getElem?_replicate, if_pos (by omega)]
  rfl
theorem pack_skip {n s : Nat} {F : Nat → Bool} : ∀ d, (∀ i, s ≤ i → i < s + d → F i = false) → pack n (upto F s) = pack n (upto F (s + d))
  | 0, _ => rfl
  | d + 1, h => by
    rw [pack_skip d fun i h1 h2 => h i h1 (by omega)]
    exact bit_miss (h (s + d) (by omega) (by omega))
theorem exp_take_len {l : List Rn} (hval : validR l = true) {j : Nat} (h : j < l.length) : (expR (l.take (j + 1))).length = (expR (l.take j)).length + l[j].2.toNat ∧ (expR (l.take j)).length + l[j].2.toNat ≤ (expR l).length := by
  constructor
  · rw [expR_take h, List.length_append, List.length_replicate]
  · have h1 := congrArg List.length (expR_split h)
    rw [List.length_append, List.length_append, List.length_replicate] at h1
    omega
/-- what lies in Filter's blocks while the first j runs are asked -/
structure FltSt (w0 : World) (H B g n : Nat) (F : Nat → Bool) (s : Nat) (wr : World) : Prop where
  gr : Grows w0 wr
  res : ∃ z1 z2, Row wr H 39 [z1, z2]
  var : Row wr B 39 [.int .i64 (n : Int), .slice (some ⟨g, 0, none⟩) (nw n) (nw n)]
  row : Row wr g 61 (ucells (pack n (upto F s)))
def FltRel (w0 : World) (H B g : Nat) (l : List Rn) (p : Int → Bool) (St : Nat → World → Prop) (s i : Value) (wr : World) : Prop :=
  ∃ j : Nat, j ≤ l.length ∧ i = .int .i64 (j : Int) ∧ s = .int .i64 (((expR (l.take j)).length : Nat) : Int) ∧ St j wr ∧ FltSt w0 H B g (expR l).length (accF p (expR l)) (expR (l.take j)).length wr
def FltR (w0 : World) (H : Nat) (l : List Rn) (p : Int → Bool) (St : Nat → World → Prop) (e : Ending) (w' : World) : Prop :=
  ∃ g, H ≤ g ∧ e = .returned (.agg #[.int .i64 (((expR l).length : Nat) : Int), .slice (some ⟨g, 0, none⟩) (nw (expR l).length) (nw (expR l).length)]) ∧ Row w' g 61 (ucells (pack (expR l).length (accF p (expR l)))) ∧ St l.length w' ∧ Grows w0 w'
set_option maxHeartbeats 4000000 in
theorem lfilter_three (v : Value) (l : List Rn) (w0 w : World) (c1 c2 c3 : Value) (p : Int → Bool) (St : Nat → World → Prop) (hv : ReadsR w0 v l) (hval : validR l = true) (hg : Grows w0 w) (hst : St 0 w)
    (hkeep : ∀ k W W', St k W → Below w.heap.size W W' → St k W')
    (hcall : ∀ k W x, k < l.length → in64 x → St k W → Grows w0 W → w.heap.size ≤ W.heap.size → Calls Try.prog 21 #[.int .i64 x, c1, c2, c3] W fun e W' => e = .returned (.bool (p x)) ∧ St (k + 1) W' ∧ Grows w0 W' ∧ KeepFrom w.heap.size W W')
    (hin : ∀ x ∈ l, in64 x.1) :
    Calls Try.prog 20 #[v, .func (.func 21) #[] #[c1, c2, c3]] w (FltR w0 w.heap.size l p St) := by
  have hll := valid_length hval
  have hel := valid_expR hval
  have HV := hidden hv
  have HVAL := hidden hval
  have HIN := hidden hin
  have HKEEP := hidden hkeep
  have HCALL := hidden hcall
  have HST0 := hidden hst
  have HG := hidden hg
  have hgs := hg.size
  have HG0 := hidden (show Grows w (w.alloc (.cells #[.int .i64 0, .slice none 0 0] 39)) from runGrow1 _)
  have HR0 := hidden (Row.new w 39 #[.int .i64 0, .slice none 0 0] [.int .i64 0, .slice none 0 0] rfl)
  have HLEN := hidden (llength_any v l _ (hv.grow (hg.of_below HG0.out)) (by omega))
  rw [lenV_t hval] at HLEN
  have hsum : sumC l = (((expR l).length : Nat) : Int) := (expR_length (valid_nonneg hval)).symm
  rw [hsum] at HLEN
  obtain ⟨N, hN⟩ : ∃ N, N = (expR l).length := ⟨_, rfl⟩
  rw [← hN] at HLEN hel
  have hmk : ∀ W, (Instr.makeSlice 37 (.int .i64 (((N : Int) + 64 - 1) / 64)) (.int .i64 (((N : Int) + 64 - 1) / 64))).run Try.prog W = .ok (.slice (some ⟨W.heap.size, 0, none⟩) (nw N) (nw N)) (W.alloc (.cells (madeCells #[.int .u64 0] (nw N)) 61)) := fun W => by
    rw [show ((N : Int) + 64 - 1) / 64 = ((nw N : Nat) : Int) from by unfold nw; omega]
    exact run_make_one (P := Try.prog) 37 61 (.int .u64 0) 8 Try.underlying37 info_u64 rfl (nw N) (by unfold nw; omega) (by unfold nw; omega) W
  have HNWC := hidden (show ((N : Int) + 63) / 64 = ((nw N : Nat) : Int) from nw_cast N)
  have HNN := hidden hN
  have hfn : ∀ W, Sem.run Try.prog (binOp BinOp.eql 41 (.func (.func 21) #[] #[c1, c2, c3]) .nilFunc) W = .ok (.bool false) W := fun W => by rfl
  obtain ⟨A, c, rfl⟩ := hv.slice_
  clear hv hkeep hcall hst hg hval hsum hN hin
  go_enter Try.func20, Try.ntmps20
  go_wp2_with ((go_at_call 31; refine HLEN.out.mono ?_; rintro e w2 ⟨rfl, g2⟩; have HG2 := hidden (HG0.out.of_below g2); have HR2 := hidden (HR0.out.grow g2); clear g2))
  have HSZ := hidden (show w.heap.size < w2.heap.size from HR2.out.lt)
  have HR3 := hidden (Row.new w2 61 (madeCells #[.int .u64 0] (nw N)) (ucells (pack N (upto (accF p (expR l)) 0))) (by rw [made_ucells, ← pack_none, pack_zero N (accF p (expR l))]))
  have HB3 := hidden (Row.at_ (w2.alloc (.cells (madeCells #[.int .u64 0] (nw N)) 61)) 39 #[.int .i64 (N : Int), .slice (some ⟨w2.heap.size, 0, none⟩) (nw N) (nw N)] [.int .i64 (N : Int), .slice (some ⟨w2.heap.size, 0, none⟩) (nw N) (nw N)] rfl (w2.heap.size + 1) (by simp))
  clear hmk hfn
  go_loopw [8, 33] (fun s i wr => FltRel w0 w.heap.size (w2.heap.size + 1) w2.heap.size l p St s i wr) (fun _ i _ => l.length - (intOf i).toNat)
  case atStart =>
    have hb := (HG2.out.alloc HG2.out.size (.cells (madeCells #[.int .u64 0] (nw N)) 61)).alloc (by have := HSZ.out; simp; omega) (.cells #[.int .i64 (N : Int), .slice (some ⟨w2.heap.size, 0, none⟩) (nw N) (nw N)] 39)
    refine ⟨0, by omega, rfl, rfl, HKEEP.out 0 _ _ HST0.out hb, ⟨HG.out.of_below hb, ⟨_, _, (HR2.out.grow (runGrow1 _)).grow (runGrow1 _)⟩, ?_, ?_⟩⟩
    · rw [← HNN.out]; exact HB3.out
    · rw [← HNN.out]; exact HR3.out.grow (runGrow1 _)
  case round =>
    obtain ⟨j, hj, rfl, rfl, hst, hgr, ⟨z1, z2, hres⟩, hvar, hrow⟩ := hrel
    rw [← HNN.out] at hvar hrow
    have hwr : w.heap.size < wr.heap.size := hres.lt
    have HWR := hidden hwr
    have HST := hidden hst
    have HGR := hidden hgr
    have HRES := hidden hres
    have HVAR := hidden hvar
    have HROW := hidden hrow
    clear hst hgr hres hrow hwr
    obtain ⟨s, hs⟩ : ∃ s, s = (expR (l.take j)).length := ⟨_, rfl⟩
    have HS := hidden hs
    rw [← hs] at HROW ⊢
    clear hs
    by_cases hlt : j < l.length
    · obtain ⟨b, off, hA, hc⟩ := (HV.out.grow HGR.out).at_
      obtain rfl := hA (by omega)
      obtain ⟨e1, e2⟩ := hc j hlt
      have hcn := valid_count HVAL.out hlt
      obtain ⟨hl1, hl2⟩ := exp_take_len HVAL.out hlt
      have hacc := accF_run p hlt
      have hx64 := HIN.out _ (List.getElem_mem hlt)
      rw [← HS.out] at hl1 hl2 hacc
      rw [← HNN.out] at hl2
      obtain ⟨x1, hx1⟩ : ∃ x, x = l[j].1 := ⟨_, rfl⟩
      obtain ⟨n, hn⟩ : ∃ n : Nat, (n : Int) = l[j].2 := ⟨l[j].2.toNat, by omega⟩
      rw [← hx1] at e1 hacc hx64
      rw [← hn] at e2 hcn hl1 hl2 hacc
      rw [Int.toNat_natCast] at hl1 hl2 hacc
      have HL1 := hidden hl1
      have HL2 := hidden hl2
      have HACC := hidden hacc
      have HCL := hidden (HCALL.out j (wr.alloc (.cells #[.int .i64 x1, .int .i64 (n : Int)] 59)) x1 hlt hx64 (HKEEP.out j _ _ HST.out ((Below.refl _ _).alloc (Nat.le_of_lt HWR.out) _)) (HGR.out.of_below (runGrow1 _)) (by have := HWR.out; simp; omega))
      clear hA hc hx1 hn hl1 hacc hx64
      go_wp2_with fail
      refine HCL.out.mono ?_
      rintro e w5 ⟨rfl, hst5, hgr5, hkf⟩
      have HST5 := hidden hst5
      have HGR5 := hidden hgr5
      have hsz5 : wr.heap.size + 1 ≤ w5.heap.size := by have := hkf.1; simpa using this
      have hres5 := hkf.row (Nat.le_refl _) (HRES.out.grow (runGrow1 _))
      have hvar5 := hkf.row (by have := HSZ.out; omega) (HVAR.out.grow (runGrow1 _))
      have hrow5 := hkf.row (by have := HSZ.out; omega) (HROW.out.grow (runGrow1 _))
      have HRES5 := hidden hres5
      have HVAR5 := hidden hvar5
      have HROW5 := hidden hrow5
      have hv1 := hvar5.cell 1
      simp only [List.getElem?_cons_zero, List.getElem?_cons_succ] at hv1
      clear hst5 hgr5 hkf hres5 hrow5 hvar5 e1 e2 hvar
      cases hp : p x1
      · have HSK := hidden (pack_skip (n := N) (s := s) (F := accF p (expR l)) n (fun i h1 h2 => (HACC.out i h1 h2).trans hp))
        clear hp
        go_wp2_with fail
        go_roundw
        case rel =>
          refine ⟨j + 1, by omega, by go_num, by rw [HL1.out]; simp, HST5.out, HGR5.out, ⟨_, _, HRES5.out⟩, ?_, ?_⟩
          · rw [← HNN.out]; exact HVAR5.out
          · rw [HL1.out, ← HNN.out, ← HSK.out]; exact HROW5.out
        case measure => simp [intOf]; omega
      · have HFL := hidden (lfill_any w2.heap.size N s (s + n) (accF p (expR l)) w5 HROW5.out (by omega) HL2.out (by omega) (fun i h1 h2 => (HACC.out i h1 h2).trans hp))
        have hsn : ((s + n : Nat) : Int) = (s : Int) + (n : Int) := by omega
        rw [hsn] at HFL
        clear hp hsn
        go_wp2_with fail
        refine HFL.out.mono ?_
        rintro e w6 ⟨⟨v6, rfl⟩, hrow6, hbb⟩
        have HROW6 := hidden hrow6
        have HBB := hidden hbb
        clear hrow6 hbb hv1
        go_wp2_with fail
        go_roundw
        case rel =>
          have h1 := HGR5.out
          have h2 := HG.out.size
          have h3 := HSZ.out
          have h4 := HWR.out
          refine ⟨j + 1, by omega, by go_num, by rw [HL1.out]; simp, HKEEP.out _ _ _ HST5.out (HBB.out.low (by omega) (by omega)), h1.trans (HBB.out.low (by omega) (by omega)), ⟨_, _, HRES5.out.but HBB.out (by omega) (by omega)⟩, ?_, ?_⟩
          · rw [← HNN.out]; exact HVAR5.out.but HBB.out HVAR5.out.lt (by omega)
          · rw [HL1.out, ← HNN.out]; exact HROW6.out
        case measure => simp [intOf]; omega
    · have hje : j = l.length := by omega
      have hsN : s = N := by rw [HS.out, HNN.out, hje, List.take_length]
      have HALL := hidden (pack_all (n := N) (f := accF p (expR l)) (Nat.le_refl N))
      have v0 := hvar.cell 0
      have v1 := hvar.cell 1
      simp only [List.getElem?_cons_zero, List.getElem?_cons_succ] at v0 v1
      have HRS := hidden (HRES.out.setRow_ [.int .i64 (N : Int), .slice (some ⟨w2.heap.size, 0, none⟩) (nw N) (nw N)] rfl)
      have HJE := hidden hje
      have HSN := hidden hsN
      clear hvar hje hsN
      go_wp2_with (refine wpList_store_set rfl _ _ rfl w.heap.size rfl _ _ _ _ _ rfl HRES.out ?_)
      refine bodyPost_ret (results_set rfl _ _ _ _ _ rfl HRS.out) rfl ⟨w2.heap.size, Nat.le_of_lt HSZ.out, by rw [← HNN.out], ?_, ?_, ?_⟩
      · have h := HROW.out
        rw [HSN.out, HALL.out] at h
        rw [← HNN.out]
        unfold Row at h ⊢
        rw [setRow_other _ _ _ _ (Nat.ne_of_gt HSZ.out)]
        exact h
      · rw [← HJE.out]
        exact HKEEP.out _ _ _ HST.out (below_setRow (Below.refl _ _) (Nat.le_refl _) _)
      · exact below_setRow HGR.out HG.out.size _
set_option maxHeartbeats 4000000 in
theorem lfilter_one (v : Value) (l : List Rn) (w0 w : World) (c1 : Value) (p : Int → Bool) (St : Nat → World → Prop) (hv : ReadsR w0 v l) (hval : validR l = true) (hg : Grows w0 w) (hst : St 0 w)
    (hkeep : ∀ k W W', St k W → Below w.heap.size W W' → St k W')
    (hcall : ∀ k W x, k < l.length → in64 x → St k W → Grows w0 W → w.heap.size ≤ W.heap.size → Calls Try.prog 28 #[.int .i64 x, c1] W fun e W' => e = .returned (.bool (p x)) ∧ St (k + 1) W' ∧ Grows w0 W' ∧ KeepFrom w.heap.size W W')
    (hin : ∀ x ∈ l, in64 x.1) :
    Calls Try.prog 20 #[v, .func (.func 28) #[] #[c1]] w (FltR w0 w.heap.size l p St) := by
  have hll := valid_length hval
  have hel := valid_expR hval
  have HV := hidden hv
  have HVAL := hidden hval
  have HIN := hidden hin
  have HKEEP := hidden hkeep
  have HCALL := hidden hcall
  have HST0 := hidden hst
  have HG := hidden hg
  have hgs := hg.size
  have HG0 := hidden (show Grows w (w.alloc (.cells #[.int .i64 0, .slice none 0 0] 39)) from runGrow1 _)
  have HR0 := hidden (Row.new w 39 #[.int .i64 0, .slice none 0 0] [.int .i64 0, .slice none 0 0] rfl)
  have HLEN := hidden (llength_any v l _ (hv.grow (hg.of_below HG0.out)) (by omega))
  rw [lenV_t hval] at HLEN
  have hsum : sumC l = (((expR l).length : Nat) : Int) := (expR_length (valid_nonneg hval)).symm
  rw [hsum] at HLEN
  obtain ⟨N, hN⟩ : ∃ N, N = (expR l).length := ⟨_, rfl⟩
  rw [← hN] at HLEN hel
  have hmk : ∀ W, (Instr.makeSlice 37 (.int .i64 (((N : Int) + 64 - 1) / 64)) (.int .i64 (((N : Int) + 64 - 1) / 64))).run Try.prog W = .ok (.slice (some ⟨W.heap.size, 0, none⟩) (nw N) (nw N)) (W.alloc (.cells (madeCells #[.int .u64 0] (nw N)) 61)) := fun W => by
    rw [show ((N : Int) + 64 - 1) / 64 = ((nw N : Nat) : Int) from by unfold nw; omega]
    exact run_make_one (P := Try.prog) 37 61 (.int .u64 0) 8 Try.underlying37 info_u64 rfl (nw N) (by unfold nw; omega) (by unfold nw; omega) W
  have HNWC := hidden (show ((N : Int) + 63) / 64 = ((nw N : Nat) : Int) from nw_cast N)
  have HNN := hidden hN
  have hfn : ∀ W, Sem.run Try.prog (binOp BinOp.eql 41 (.func (.func 28) #[] #[c1]) .nilFunc) W = .ok (.bool false) W := fun W => by rfl
  obtain ⟨A, c, rfl⟩ := hv.slice_
  clear hv hkeep hcall hst hg hval hsum hN hin
  go_enter Try.func20, Try.ntmps20
  go_wp2_with ((go_at_call 31; refine HLEN.out.mono ?_; rintro e w2 ⟨rfl, g2⟩; have HG2 := hidden (HG0.out.of_below g2); have HR2 := hidden (HR0.out.grow g2); clear g2))
  have HSZ := hidden (show w.heap.size < w2.heap.size from HR2.out.lt)
  have HR3 := hidden (Row.new w2 61 (madeCells #[.int .u64 0] (nw N)) (ucells (pack N (upto (accF p (expR l)) 0))) (by rw [made_ucells, ← pack_none, pack_zero N (accF p (expR l))]))
  have HB3 := hidden (Row.at_ (w2.alloc (.cells (madeCells #[.int .u64 0] (nw N)) 61)) 39 #[.int .i64 (N : Int), .slice (some ⟨w2.heap.size, 0, none⟩) (nw N) (nw N)] [.int .i64 (N : Int), .slice (some ⟨w2.heap.size, 0, none⟩) (nw N) (nw N)] rfl (w2.heap.size + 1) (by simp))
  clear hmk hfn
  go_loopw [8, 33] (fun s i wr => FltRel w0 w.heap.size (w2.heap.size + 1) w2.heap.size l p St s i wr) (fun _ i _ => l.length - (intOf i).toNat)
  case atStart =>
    have hb := (HG2.out.alloc HG2.out.size (.cells (madeCells #[.int .u64 0] (nw N)) 61)).alloc (by have := HSZ.out; simp; omega) (.cells #[.int .i64 (N : Int), .slice (some ⟨w2.heap.size, 0, none⟩) (nw N) (nw N)] 39)
    refine ⟨0, by omega, rfl, rfl, HKEEP.out 0 _ _ HST0.out hb, ⟨HG.out.of_below hb, ⟨_, _, (HR2.out.grow (runGrow1 _)).grow (runGrow1 _)⟩, ?_, ?_⟩⟩
    · rw [← HNN.out]; exact HB3.out
    · rw [← HNN.out]; exact HR3.out.grow (runGrow1 _)
  case round =>
    obtain ⟨j, hj, rfl, rfl, hst, hgr, ⟨z1, z2, hres⟩, hvar, hrow⟩ := hrel
    rw [← HNN.out] at hvar hrow
    have hwr : w.heap.size < wr.heap.size := hres.lt
    have HWR := hidden hwr
    have HST := hidden hst
    have HGR := hidden hgr
    have HRES := hidden hres
    have HVAR := hidden hvar
    have HROW := hidden hrow
    clear hst hgr hres hrow hwr
    obtain ⟨s, hs⟩ : ∃ s, s = (expR (l.take j)).length := ⟨_, rfl⟩
    have HS := hidden hs
    rw [← hs] at HROW ⊢
    clear hs
    by_cases hlt : j < l.length
    · obtain ⟨b, off, hA, hc⟩ := (HV.out.grow HGR.out).at_
      obtain rfl := hA (by omega)
      obtain ⟨e1, e2⟩ := hc j hlt
      have hcn := valid_count HVAL.out hlt
      obtain ⟨hl1, hl2⟩ := exp_take_len HVAL.out hlt
      have hacc := accF_run p hlt
      have hx64 := HIN.out _ (List.getElem_mem hlt)
      rw [← HS.out] at hl1 hl2 hacc
      rw [← HNN.out] at hl2
      obtain ⟨x1, hx1⟩ : ∃ x, x = l[j].1 := ⟨_, rfl⟩
      obtain ⟨n, hn⟩ : ∃ n : Nat, (n : Int) = l[j].2 := ⟨l[j].2.toNat, by omega⟩
      rw [← hx1] at e1 hacc hx64
      rw [← hn] at e2 hcn hl1 hl2 hacc
      rw [Int.toNat_natCast] at hl1 hl2 hacc
      have HL1 := hidden hl1
      have HL2 := hidden hl2
      have HACC := hidden hacc
      have HCL := hidden (HCALL.out j (wr.alloc (.cells #[.int .i64 x1, .int .i64 (n : Int)] 59)) x1 hlt hx64 (HKEEP.out j _ _ HST.out ((Below.refl _ _).alloc (Nat.le_of_lt HWR.out) _)) (HGR.out.of_below (runGrow1 _)) (by have := HWR.out; simp; omega))
      clear hA hc hx1 hn hl1 hacc hx64
      go_wp2_with fail
      refine HCL.out.mono ?_
      rintro e w5 ⟨rfl, hst5, hgr5, hkf⟩
      have HST5 := hidden hst5
      have HGR5 := hidden hgr5
      have hsz5 : wr.heap.size + 1 ≤ w5.heap.size := by have := hkf.1; simpa using this
      have hres5 := hkf.row (Nat.le_refl _) (HRES.out.grow (runGrow1 _))
      have hvar5 := hkf.row (by have := HSZ.out; omega) (HVAR.out.grow (runGrow1 _))
      have hrow5 := hkf.row (by have := HSZ.out; omega) (HROW.out.grow (runGrow1 _))
      have HRES5 := hidden hres5
      have HVAR5 := hidden hvar5
      have HROW5 := hidden hrow5
      have hv1 := hvar5.cell 1
      simp only [List.getElem?_cons_zero, List.getElem?_cons_succ] at hv1
      clear hst5 hgr5 hkf hres5 hrow5 hvar5 e1 e2 hvar
      cases hp : p x1
      · have HSK := hidden (pack_skip (n := N) (s := s) (F := accF p (expR l)) n (fun i h1 h2 => (HACC.out i h1 h2).trans hp))
        clear hp
        go_wp2_with fail
        go_roundw
        case rel =>
          refine ⟨j + 1, by omega, by go_num, by rw [HL1.out]; simp, HST5.out, HGR5.out, ⟨_, _, HRES5.out⟩, ?_, ?_⟩
          · rw [← HNN.out]; exact HVAR5.out
          · rw [HL1.out, ← HNN.out, ← HSK.out]; exact HROW5.out
        case measure => simp [intOf]; omega
      · have HFL := hidden (lfill_any w2.heap.size N s (s + n) (accF p (expR l)) w5 HROW5.out (by omega) HL2.out (by omega) (fun i h1 h2 => (HACC.out i h1 h2).trans hp))
        have hsn : ((s + n : Nat) : Int) = (s : Int) + (n : Int) := by omega
        rw [hsn] at HFL
        clear hp hsn
        go_wp2_with fail
        refine HFL.out.mono ?_
        rintro e w6 ⟨⟨v6, rfl⟩, hrow6, hbb⟩
        have HROW6 := hidden hrow6
        have HBB := hidden hbb
        clear hrow6 hbb hv1
        go_wp2_with fail
        go_roundw
        case rel =>
          have h1 := HGR5.out
          have h2 := HG.out.size
          have h3 := HSZ.out
          have h4 := HWR.out
          refine ⟨j + 1, by omega, by go_num, by rw [HL1.out]; simp, HKEEP.out _ _ _ HST5.out (HBB.out.low (by omega) (by omega)), h1.trans (HBB.out.low (by omega) (by omega)), ⟨_, _, HRES5.out.but HBB.out (by omega) (by omega)⟩, ?_, ?_⟩
          · rw [← HNN.out]; exact HVAR5.out.but HBB.out HVAR5.out.lt (by omega)
          · rw [HL1.out, ← HNN.out]; exact HROW6.out
        case measure => simp [intOf]; omega
    · have hje : j = l.length := by omega
      have hsN : s = N := by rw [HS.out, HNN.out, hje, List.take_length]
      have HALL := hidden (pack_all (n := N) (f := accF p (expR l)) (Nat.le_refl N))
      have v0 := hvar.cell 0
      have v1 := hvar.cell 1
      simp only [List.getElem?_cons_zero, List.getElem?_cons_succ] at v0 v1
      have HRS := hidden (HRES.out.setRow_ [.int .i64 (N : Int), .slice (some ⟨w2.heap.size, 0, none⟩) (nw N) (nw N)] rfl)
      have HJE := hidden hje
      have HSN := hidden hsN
      clear hvar hje hsN
      go_wp2_with (refine wpList_store_set rfl _ _ rfl w.heap.size rfl _ _ _ _ _ rfl HRES.out ?_)
      refine bodyPost_ret (results_set rfl _ _ _ _ _ rfl HRS.out) rfl ⟨w2.heap.size, Nat.le_of_lt HSZ.out, by rw [← HNN.out], ?_, ?_, ?_⟩
      · have h := HROW.out
        rw [HSN.out, HALL.out] at h
        rw [← HNN.out]
        unfold Row at h ⊢
        rw [setRow_other _ _ _ _ (Nat.ne_of_gt HSZ.out)]
        exact h
      · rw [← HJE.out]
        exact HKEEP.out _ _ _ HST.out (below_setRow (Below.refl _ _) (Nat.le_refl _) _)
      · exact below_setRow HGR.out HG.out.size _
end Go.Proofs.Ytnjmbhakfecdoaa
