/-
  Shaken: what the claims of this seat need of this text. No condition.
-/
import Derived.Test.YtoaklmceejeblaaGreatSkO
import Derived.Test.YtoaklmceejeblaaGreatM21
import Derived.Deep.AppendLies
import Derived.Deep.CutRange
namespace Go.Proofs.YtoaklmceejeblaaGreat
open Go.RowKit
set_option linter.unusedVariables false
set_option linter.unusedSimpArgs false
theorem step_call16 {P : Program} {ops : Array Oper} {o : Oper} {a : Act} {w : World} {K : Act → World → Prop} {Q : Exit → Act → World → Prop} {E : Prop} {f : FuncId} {args : Array Value} {xs : Array Operand} {ts : Array TypeId} {R : Ending → World → Prop} (hg : o.guard = none)
    (_hop : o.op = .call { callee := .value (.func f), args := xs, argTypes := ts }) (he : (execOp a.eval o).run P w = .ok (.enter f args) w) (hc : Calls P f args w R) (hK : ∀ e w', R e w' → ∃ v, e = .returned v ∧ K (a.put o.dst v) w') :
    if Region.wanted o (yielded ops a.tmps) = true then Oper.wp P o a w K Q else E := by
  have hw : Region.wanted o (yielded ops a.tmps) = true := by simp [Region.wanted, hg]
  rw [if_pos hw]
  unfold Oper.wp
  rw [he]
  simp only [Oper.upon]
  exact hc.mono fun e w' hR => by obtain ⟨v, hv, hk⟩ := hK e w' hR; subst hv; exact hk
theorem own_of_row16 {w : World} {B : Nat} {e : TypeId} {xs : List Value} {n : Nat} (h : Row w B e xs) (hn : xs.length = n) (hm : n ≤ maxLen) : w.ownsRow B e 1 (.slice (some ⟨B, 0, none⟩) n n) n xs :=
  ⟨by simp [hn], .inr ⟨B, n, xs.toArray, rfl, Nat.le_refl _, h, Nat.le_refl _, hm, by simp [hn], by simp [List.take_of_length_le (Nat.le_of_eq hn)]⟩⟩
structure FsSt (g b3 : Nat) (sl : Value) (z : List Value) (W7 : World) (s : RS) (fs : List Val) (rk : List Int) (v5 v6 : Value) (X : World) : Prop where
  only : Only (fun j => j = g ∨ j = b3) W7 X
  rd : RdRow 108 g sl s X
  row : Row X b3 29 (z ++ [v5, v6])
  ofs : X.ownsRow W7.heap.size 35 3 v5 fs.length (vcells fs)
  ork : X.ownsRow W7.heap.size 3 1 v6 rk.length (icells rk)
theorem FsSt.size {g b3 : Nat} {sl : Value} {z : List Value} {W7 : World} {s : RS} {fs : List Val} {rk : List Int} {v5 v6 : Value} {X : World} (h : FsSt g b3 sl z W7 s fs rk v5 v6 X) : W7.heap.size ≤ X.heap.size := h.only.size
theorem FsSt.read {g b3 : Nat} {sl : Value} {z : List Value} {W7 : World} {s s' : RS} {fs : List Val} {rk : List Int} {v5 v6 : Value} {X Y : World} (h : FsSt g b3 sl z W7 s fs rk v5 v6 X) (hg : g < W7.heap.size) (hne : b3 ≠ g) (ho : Only (fun j => j = g) X Y) (hr : RdRow 108 g sl s' Y) : FsSt g b3 sl z W7 s' fs rk v5 v6 Y :=
  ⟨h.only.trans ho (fun i hi => .inl (.inl hi)), hr, ho.row h.row hne, ownsRow_only h.ofs ho (fun k hk e => by have := (h.ofs.lt k hk).1; omega), ownsRow_only h.ork ho (fun k hk e => by have := (h.ork.lt k hk).1; omega)⟩
theorem FsSt.fence {g b3 : Nat} {sl : Value} {z : List Value} {W7 : World} {s : RS} {fs : List Val} {rk : List Int} {v5 v6 v5' : Value} {X Y : World} {x : Val} (h : FsSt g b3 sl z W7 s fs rk v5 v6 X) (hg : g < W7.heap.size) (hb : b3 < W7.heap.size) (hne : b3 ≠ g) (hz : z.length = 5)
    (ho : Only (fun j => v5.ownBlock = some j) X Y) (hy : Y.ownsRow W7.heap.size 35 3 v5' (fs ++ [x]).length (vcells (fs ++ [x]))) : FsSt g b3 sl z W7 s (fs ++ [x]) rk v5' v6 (Y.setCell ⟨b3, 5, none⟩ v5') := by
  have n1 : ∀ k, v5.ownBlock = some k → W7.heap.size ≤ k := fun k hk => (h.ofs.lt k hk).1
  have o1 : Only (fun j => j = g ∨ j = b3) W7 Y := h.only.trans ho (fun i hi => .inr (n1 i hi))
  have r1 := ho.row h.row (fun e => by have := n1 _ e; omega)
  have k1 := ownsRow_only h.ork ho (ownsRow_apart h.ork h.ofs (by decide))
  refine ⟨o1.trans (Only.set Y b3 5 v5') (fun i hi => .inl (.inr hi)), (h.rd.only ho (fun e => by have := n1 _ e; omega)).only (Only.set _ _ _ _) (fun e => hne e.symm), ?_, ownsRow_only hy (Only.set _ _ _ _) (fun k hk e => by have := (hy.lt k hk).1; omega), ownsRow_only k1 (Only.set _ _ _ _) (fun k hk e => by have := (k1.lt k hk).1; omega)⟩
  have h2 := r1.set_m 5 v5'
  have e : (z ++ [v5, v6]).set 5 v5' = z ++ [v5', v6] := by rw [List.set_append_right _ _ (by omega), hz]; rfl
  rwa [e] at h2
theorem FsSt.ranks {g b3 : Nat} {sl : Value} {z : List Value} {W7 : World} {s : RS} {fs : List Val} {rk ys : List Int} {v5 v6 v6' : Value} {X Y : World} (h : FsSt g b3 sl z W7 s fs rk v5 v6 X) (hg : g < W7.heap.size) (hb : b3 < W7.heap.size) (hne : b3 ≠ g) (hz : z.length = 5)
    (ho : Only (fun j => v6.ownBlock = some j) X Y) (hy : Y.ownsRow W7.heap.size 3 1 v6' (rk ++ ys).length (icells (rk ++ ys))) : FsSt g b3 sl z W7 s fs (rk ++ ys) v5 v6' (Y.setCell ⟨b3, 6, none⟩ v6') := by
  have n1 : ∀ k, v6.ownBlock = some k → W7.heap.size ≤ k := fun k hk => (h.ork.lt k hk).1
  have o1 : Only (fun j => j = g ∨ j = b3) W7 Y := h.only.trans ho (fun i hi => .inr (n1 i hi))
  have r1 := ho.row h.row (fun e => by have := n1 _ e; omega)
  have k1 := ownsRow_only h.ofs ho (ownsRow_apart h.ofs h.ork (by decide))
  refine ⟨o1.trans (Only.set Y b3 6 v6') (fun i hi => .inl (.inr hi)), (h.rd.only ho (fun e => by have := n1 _ e; omega)).only (Only.set _ _ _ _) (fun e => hne e.symm), ?_, ownsRow_only k1 (Only.set _ _ _ _) (fun k hk e => by have := (k1.lt k hk).1; omega), ownsRow_only hy (Only.set _ _ _ _) (fun k hk e => by have := (hy.lt k hk).1; omega)⟩
  have h2 := r1.set_m 6 v6'
  have e : (z ++ [v5, v6]).set 6 v6' = z ++ [v5, v6'] := by rw [List.set_append_right _ _ (by omega), hz]; rfl
  rwa [e] at h2
theorem own_slice16 {w : World} {base : Nat} {e : TypeId} {size : Nat} {v : Value} {n : Nat} {xs : List Value} (h : w.ownsRow base e size v n xs) : ∃ A c, v = .slice A n c := by
  rcases h.2 with ⟨rfl, h0⟩ | ⟨g, cap, cur, rfl, _⟩
  · exact ⟨none, 0, by rw [h0]⟩
  · exact ⟨_, cap, rfl⟩
def OwnK (base : Nat) (w : World) (v : Value) (s : Sk) : Prop := ∃ a b c d, v = .agg #[.int .i64 s.rows, .int .i64 s.nulls, a, .bool s.ok, b, c, d] ∧ w.ownsRow base 56 1 a s.hs.length (wcells s.hs) ∧ w.ownsRow base 3 1 b s.cm.length (icells s.cm) ∧ w.ownsRow base 35 3 c s.fs.length (vcells s.fs) ∧ w.ownsRow base 3 1 d s.rk.length (icells s.rk)
theorem OwnK.isK {base : Nat} {w : World} {v : Value} {s : Sk} (h : OwnK base w v s) : IsK w v s := by
  obtain ⟨a, b, c, d, rfl, h1, h2, h3, h4⟩ := h
  obtain ⟨A1, c1, e1⟩ := own_slice16 h1
  obtain ⟨A2, c2, e2⟩ := own_slice16 h2
  obtain ⟨A3, c3, e3⟩ := own_slice16 h3
  obtain ⟨A4, c4, e4⟩ := own_slice16 h4
  subst e1 e2 e3 e4
  exact ⟨A1, A2, A3, A4, c1, c2, c3, c4, rfl, Reads.of_own h1, Reads.of_own h2, ReadsV.of_own h3, Reads.of_own h4⟩
theorem OwnK.only {B : Nat → Prop} {base : Nat} {w w' : World} {v : Value} {s : Sk} (h : OwnK base w v s) (ho : Only B w w') (hB : ∀ k, base ≤ k → ¬ B k) : OwnK base w' v s := by
  obtain ⟨a, b, c, d, rfl, h1, h2, h3, h4⟩ := h
  exact ⟨a, b, c, d, rfl, ownsRow_only h1 ho (fun k hk => hB k (h1.lt k hk).1), ownsRow_only h2 ho (fun k hk => hB k (h2.lt k hk).1), ownsRow_only h3 ho (fun k hk => hB k (h3.lt k hk).1), ownsRow_only h4 ho (fun k hk => hB k (h4.lt k hk).1)⟩
theorem OwnK.base {base base' : Nat} {w : World} {v : Value} {s : Sk} (h : OwnK base w v s) (hb : base' ≤ base) : OwnK base' w v s := by
  obtain ⟨a, b, c, d, rfl, h1, h2, h3, h4⟩ := h
  exact ⟨a, b, c, d, rfl, ownsRow_base h1 hb, ownsRow_base h2 hb, ownsRow_base h3 hb, ownsRow_base h4 hb⟩
theorem info_intP : (Tryz.prog.info? 3).map (fun i => (i.zero, i.size, i.bytes)) = some (some (.int .i64 0), 1, 8) := by kernel_rfl
set_option maxRecDepth 8000 in
set_option maxHeartbeats 8000000 in
theorem qsketch_any (g : Nat) (A : Option Addr) (c : Nat) (l : List UInt8) (off : Int) (w : World) (hr : Rdr 108 g A c l ⟨off, 0⟩ w) (hl : l.length ≤ 4611686018427387904) (hlc : l.length ≤ c) :
    Calls Tryz.prog 93 #[.pointer (some ⟨g, 0, none⟩)] w fun e w' => ∃ v, e = .returned v ∧ OwnK w.heap.size w' v (rdSk l off).1 ∧ Only (fun k => k = g) w w' ∧ RdRow 108 g (.slice A l.length c) (rdSk l off).2 w' := by
  have HR := hidden hr
  have HL := hidden hl
  have HLC := hidden hlc
  have HGL := hidden hr.row.lt
  have HSP : Hid (rdSk l off = (let s1 := rdNm l ⟨off, 0⟩; let s2 := rdNm l s1.2; let s3 := rdCt l 32 s2.2; let s4 := rdHs l s3.2 s3.1.toNat; let s5 := rdFl l s4.2.2; let s6 := rdNs l s5.2 256; let s7 := rdCt l 17 s6.2; let s8 := rdFs l s7.2 s7.1.toNat; (⟨s1.1, s2.1, s4.1, s5.1, s6.1, s8.1, s8.2.1⟩, s8.2.2))) := hidden rfl
  generalize rdSk l off = SKR at *
  obtain ⟨W0, hW0⟩ : ∃ W, W = (w.alloc (.cells #[.int .i64 0, .int .i64 0, .slice none 0 0, .bool false, .slice none 0 0, .slice none 0 0, .slice none 0 0] 29)).alloc (.cells #[.int .i64 0, .int .i64 0, .slice none 0 0, .bool false, .slice none 0 0, .slice none 0 0, .slice none 0 0] 29) := ⟨_, rfl⟩
  have HG0 := hidden (show Grows w W0 by rw [hW0]; exact (growK _ _).of_below (growK _ _))
  have HT0 := hidden (show Row W0 w.heap.size 29 [.int .i64 0, .int .i64 0, .slice none 0 0, .bool false, .slice none 0 0, .slice none 0 0, .slice none 0 0] by rw [hW0]; exact (skrow_new _ _ _ _ _ _ _ _).grow (growK _ _))
  have HS0 := hidden (show Row W0 (w.heap.size + 1) 29 [.int .i64 0, .int .i64 0, .slice none 0 0, .bool false, .slice none 0 0, .slice none 0 0, .slice none 0 0] by
    rw [hW0]
    have h := skrow_new (w.alloc (.cells #[.int .i64 0, .int .i64 0, .slice none 0 0, .bool false, .slice none 0 0, .slice none 0 0, .slice none 0 0] 29)) (.int .i64 0) (.int .i64 0) (.slice none 0 0) (.bool false) (.slice none 0 0) (.slice none 0 0) (.slice none 0 0)
    have e : (w.alloc (.cells #[.int .i64 0, .int .i64 0, .slice none 0 0, .bool false, .slice none 0 0, .slice none 0 0, .slice none 0 0] 29)).heap.size = w.heap.size + 1 := by simp
    rwa [e] at h)
  have HNE := hidden (show w.heap.size + 1 ≠ g by have := HGL.out; omega)
  have HNT := hidden (show w.heap.size ≠ g by have := HGL.out; omega)
  have HO0 := hidden (Only.of_grows HG0.out (fun k => k = g))
  have HD0 := hidden (HR.out.row.grow HG0.out)
  clear hr hl hlc
  go_enter Tryz.func93, Tryz.ntmps93
  go_wp2_with fail
  rw [← hW0]
  clear hW0
  refine (qnumber_any g A c l ⟨off, 0⟩ W0 (HR.out.step HO0.out HD0.out) HL.out).mono ?_
  rintro e x1 ⟨rfl, ho1, hr1⟩
  generalize rdNm l ⟨off, 0⟩ = d at *
  obtain ⟨n1, s1⟩ := d
  simp only [] at HSP hr1 ⊢
  have HOx := hidden (HO0.out.after ho1)
  have HSx := hidden (ho1.row HS0.out HNE.out)
  have HTx := hidden (ho1.row HT0.out HNT.out)
  have HDx := hidden hr1
  have HQ1 := hidden ho1
  have cx := HSx.out.cell 0
  have fx := HSx.out.frozen 0
  simp only [List.getElem?_cons_succ, List.getElem?_cons_zero] at cx
  clear ho1 hr1
  go_wp2_with fail
  obtain ⟨X1, hX⟩ : ∃ X, X = x1.setCell ⟨w.heap.size + 1, 0, none⟩ (.int .i64 n1) := ⟨_, rfl⟩
  rw [← hX]
  have HO1 := hidden (show Only (fun j => j = g) w X1 by rw [hX]; exact HOx.out.trans (Only.set _ _ _ _) (fun i hi => .inr (by omega)))
  have HS1 := hidden (show Row X1 (w.heap.size + 1) 29 [.int .i64 n1, .int .i64 0, .slice none 0 0, .bool false, .slice none 0 0, .slice none 0 0, .slice none 0 0] by rw [hX]; exact HSx.out.set_m 0 (.int .i64 n1))
  have HT1 := hidden (show Row X1 w.heap.size 29 [.int .i64 0, .int .i64 0, .slice none 0 0, .bool false, .slice none 0 0, .slice none 0 0, .slice none 0 0] by rw [hX]; exact (Only.set _ _ _ _).row HTx.out (by omega))
  have HD1 := hidden (show RdRow 108 g (.slice A l.length c) s1 X1 by rw [hX]; exact HDx.out.only (Only.set _ _ _ _) (fun e => HNE.out e.symm))
  clear hX cx fx HOx HSx HTx HDx HQ1
  refine (qnumber_any g A c l s1 X1 (HR.out.step HO1.out HD1.out) HL.out).mono ?_
  rintro e x1 ⟨rfl, ho1, hr1⟩
  generalize rdNm l s1 = d at *
  obtain ⟨n2, s2⟩ := d
  simp only [] at HSP hr1 ⊢
  have HOx := hidden (HO1.out.after ho1)
  have HSx := hidden (ho1.row HS1.out HNE.out)
  have HTx := hidden (ho1.row HT1.out HNT.out)
  have HDx := hidden hr1
  have HQ1 := hidden ho1
  have cx := HSx.out.cell 1
  have fx := HSx.out.frozen 1
  simp only [List.getElem?_cons_succ, List.getElem?_cons_zero] at cx
  clear ho1 hr1
  go_wp2_with fail
  obtain ⟨X2, hX⟩ : ∃ X, X = x1.setCell ⟨w.heap.size + 1, 1, none⟩ (.int .i64 n2) := ⟨_, rfl⟩
  rw [← hX]
  have HO2 := hidden (show Only (fun j => j = g) w X2 by rw [hX]; exact HOx.out.trans (Only.set _ _ _ _) (fun i hi => .inr (by omega)))
  have HS2 := hidden (show Row X2 (w.heap.size + 1) 29 [.int .i64 n1, .int .i64 n2, .slice none 0 0, .bool false, .slice none 0 0, .slice none 0 0, .slice none 0 0] by rw [hX]; exact HSx.out.set_m 1 (.int .i64 n2))
  have HT2 := hidden (show Row X2 w.heap.size 29 [.int .i64 0, .int .i64 0, .slice none 0 0, .bool false, .slice none 0 0, .slice none 0 0, .slice none 0 0] by rw [hX]; exact (Only.set _ _ _ _).row HTx.out (by omega))
  have HD2 := hidden (show RdRow 108 g (.slice A l.length c) s2 X2 by rw [hX]; exact HDx.out.only (Only.set _ _ _ _) (fun e => HNE.out e.symm))
  clear hX cx fx HOx HSx HTx HDx HQ1
  refine (qhashes_any g A c l s2 X2 (HR.out.step HO2.out HD2.out) HL.out).mono ?_
  rintro e x1 ⟨Ba, rfl, hBa, ho1, hr1, hrw⟩
  have HCA := hidden (rdCt_all l 32 s2 (by decide))
  have HOT := hidden (rdCt_ok (l := l) (m := 32) (s := s2))
  generalize rdCt l 32 s2 = d at *
  obtain ⟨n3, t3⟩ := d
  simp only [] at HSP HCA HOT hr1 hrw ⊢
  have HHL := hidden (rdHs_len l t3 n3.toNat)
  have HOK := hidden (rdHs_ok (l := l) (s := t3) HOT.out n3.toNat)
  generalize rdHs l t3 n3.toNat = d at *
  obtain ⟨hs, lst, s3⟩ := d
  simp only [] at HSP hr1 hrw HHL HOK ⊢
  obtain ⟨N3, hN3⟩ : ∃ N, N = n3.toNat := ⟨_, rfl⟩
  rw [← hN3] at HHL ⊢
  have HN3 := hidden (show N3 ≤ 32 by have := HCA.out; omega)
  clear hN3
  have HKax := hidden hrw
  have HKGa := hidden (show Ba ≠ g by have := HGL.out; have := HO2.out.size; omega)
  have HLa := hidden (show w.heap.size ≤ Ba by have := HO2.out.size; omega)
  have HKTa := hidden (show Ba ≠ w.heap.size by have := HO2.out.size; have := HS2.out.lt; omega)
  have HKBa := hidden (show Ba ≠ w.heap.size + 1 by have := HO2.out.size; have := HS2.out.lt; omega)
  clear hBa hrw
  have HOx := hidden (HO2.out.after ho1)
  have HSx := hidden (ho1.row HS2.out HNE.out)
  have HTx := hidden (ho1.row HT2.out HNT.out)
  have HDx := hidden hr1
  have HQ1 := hidden ho1
  have cx := HSx.out.cell 2
  have fx := HSx.out.frozen 2
  simp only [List.getElem?_cons_succ, List.getElem?_cons_zero] at cx
  clear ho1 hr1
  go_wp2_with fail
  obtain ⟨X3, hX⟩ : ∃ X, X = x1.setCell ⟨w.heap.size + 1, 2, none⟩ (.slice (some ⟨Ba, 0, none⟩) N3 N3) := ⟨_, rfl⟩
  rw [← hX]
  have HO3 := hidden (show Only (fun j => j = g) w X3 by rw [hX]; exact HOx.out.trans (Only.set _ _ _ _) (fun i hi => .inr (by omega)))
  have HS3 := hidden (show Row X3 (w.heap.size + 1) 29 [.int .i64 n1, .int .i64 n2, .slice (some ⟨Ba, 0, none⟩) N3 N3, .bool false, .slice none 0 0, .slice none 0 0, .slice none 0 0] by rw [hX]; exact HSx.out.set_m 2 (.slice (some ⟨Ba, 0, none⟩) N3 N3))
  have HT3 := hidden (show Row X3 w.heap.size 29 [.int .i64 0, .int .i64 0, .slice none 0 0, .bool false, .slice none 0 0, .slice none 0 0, .slice none 0 0] by rw [hX]; exact (Only.set _ _ _ _).row HTx.out (by omega))
  have HKa3 := hidden (show Row X3 Ba 56 (wcells hs) by rw [hX]; exact (Only.set _ _ _ _).row HKax.out HKBa.out)
  have HD3 := hidden (show RdRow 108 g (.slice A l.length c) s3 X3 by rw [hX]; exact HDx.out.only (Only.set _ _ _ _) (fun e => HNE.out e.symm))
  clear hX cx fx HOx HSx HTx HDx HQ1
  refine (qflag_any g A c l s3 X3 (HR.out.step HO3.out HD3.out) HL.out HOK.out).mono ?_
  rintro e x1 ⟨rfl, ho1, hr1⟩
  generalize rdFl l s3 = d at *
  obtain ⟨ok, s4⟩ := d
  simp only [] at HSP hr1 ⊢
  have HOx := hidden (HO3.out.after ho1)
  have HSx := hidden (ho1.row HS3.out HNE.out)
  have HTx := hidden (ho1.row HT3.out HNT.out)
  have HDx := hidden hr1
  have HQ1 := hidden ho1
  have HKax := hidden (ho1.row HKa3.out HKGa.out)
  have cx := HSx.out.cell 3
  have fx := HSx.out.frozen 3
  simp only [List.getElem?_cons_succ, List.getElem?_cons_zero] at cx
  clear ho1 hr1
  go_wp2_with fail
  obtain ⟨X4, hX⟩ : ∃ X, X = x1.setCell ⟨w.heap.size + 1, 3, none⟩ (.bool ok) := ⟨_, rfl⟩
  rw [← hX]
  have HO4 := hidden (show Only (fun j => j = g) w X4 by rw [hX]; exact HOx.out.trans (Only.set _ _ _ _) (fun i hi => .inr (by omega)))
  have HS4 := hidden (show Row X4 (w.heap.size + 1) 29 [.int .i64 n1, .int .i64 n2, .slice (some ⟨Ba, 0, none⟩) N3 N3, .bool ok, .slice none 0 0, .slice none 0 0, .slice none 0 0] by rw [hX]; exact HSx.out.set_m 3 (.bool ok))
  have HT4 := hidden (show Row X4 w.heap.size 29 [.int .i64 0, .int .i64 0, .slice none 0 0, .bool false, .slice none 0 0, .slice none 0 0, .slice none 0 0] by rw [hX]; exact (Only.set _ _ _ _).row HTx.out (by omega))
  have HD4 := hidden (show RdRow 108 g (.slice A l.length c) s4 X4 by rw [hX]; exact HDx.out.only (Only.set _ _ _ _) (fun e => HNE.out e.symm))
  have HKa4 := hidden (show Row X4 Ba 56 (wcells hs) by rw [hX]; exact (Only.set _ _ _ _).row HKax.out HKBa.out)
  clear hX cx fx HOx HSx HTx HDx HQ1
  refine (qnumbers_any g A c l s4 256 X4 (HR.out.step HO4.out HD4.out) HL.out (by decide)).mono ?_
  rintro e x1 ⟨Bb, rfl, hBb, ho1, hr1, hrw⟩
  have HCL := hidden (rdNs_len l s4 256)
  generalize rdNs l s4 256 = d at *
  obtain ⟨cm, s5⟩ := d
  simp only [] at HSP hr1 hrw HCL ⊢
  have HKbx := hidden hrw
  have HKGb := hidden (show Bb ≠ g by have := HGL.out; have := HO4.out.size; omega)
  have HLb := hidden (show w.heap.size ≤ Bb by have := HO4.out.size; omega)
  have HKTb := hidden (show Bb ≠ w.heap.size by have := HO4.out.size; have := HS4.out.lt; omega)
  have HKBb := hidden (show Bb ≠ w.heap.size + 1 by have := HO4.out.size; have := HS4.out.lt; omega)
  clear hBb hrw
  have HOx := hidden (HO4.out.after ho1)
  have HSx := hidden (ho1.row HS4.out HNE.out)
  have HTx := hidden (ho1.row HT4.out HNT.out)
  have HDx := hidden hr1
  have HQ1 := hidden ho1
  have HKax := hidden (ho1.row HKa4.out HKGa.out)
  have cx := HSx.out.cell 4
  have fx := HSx.out.frozen 4
  simp only [List.getElem?_cons_succ, List.getElem?_cons_zero] at cx
  clear ho1 hr1
  go_wp2_with fail
  obtain ⟨X5, hX⟩ : ∃ X, X = x1.setCell ⟨w.heap.size + 1, 4, none⟩ (.slice (some ⟨Bb, 0, none⟩) 256 256) := ⟨_, rfl⟩
  rw [← hX]
  have HO5 := hidden (show Only (fun j => j = g) w X5 by rw [hX]; exact HOx.out.trans (Only.set _ _ _ _) (fun i hi => .inr (by omega)))
  have HS5 := hidden (show Row X5 (w.heap.size + 1) 29 [.int .i64 n1, .int .i64 n2, .slice (some ⟨Ba, 0, none⟩) N3 N3, .bool ok, .slice (some ⟨Bb, 0, none⟩) 256 256, .slice none 0 0, .slice none 0 0] by rw [hX]; exact HSx.out.set_m 4 (.slice (some ⟨Bb, 0, none⟩) 256 256))
  have HT5 := hidden (show Row X5 w.heap.size 29 [.int .i64 0, .int .i64 0, .slice none 0 0, .bool false, .slice none 0 0, .slice none 0 0, .slice none 0 0] by rw [hX]; exact (Only.set _ _ _ _).row HTx.out (by omega))
  have HKb5 := hidden (show Row X5 Bb 3 (icells cm) by rw [hX]; exact (Only.set _ _ _ _).row HKbx.out HKBb.out)
  have HD5 := hidden (show RdRow 108 g (.slice A l.length c) s5 X5 by rw [hX]; exact HDx.out.only (Only.set _ _ _ _) (fun e => HNE.out e.symm))
  have HKa5 := hidden (show Row X5 Ba 56 (wcells hs) by rw [hX]; exact (Only.set _ _ _ _).row HKax.out HKBa.out)
  clear hX cx fx HOx HSx HTx HDx HQ1
  refine (qcount_any g A c l s5 17 X5 (HR.out.step HO5.out HD5.out) HL.out).mono ?_
  rintro e W7 ⟨rfl, ho1, hr1⟩
  have HCB := hidden (rdCt_all l 17 s5 (by decide))
  generalize rdCt l 17 s5 = d at *
  obtain ⟨n7, s7⟩ := d
  simp only [] at HSP HCB hr1 ⊢
  obtain ⟨m, hm⟩ : ∃ m : Nat, n7 = (m : Int) := ⟨n7.toNat, by have := HCB.out; omega⟩
  subst hm
  rw [Int.toNat_natCast] at HSP
  have HM := hidden (show m ≤ 17 by have := HCB.out; omega)
  have HO7 := hidden (HO5.out.after ho1)
  have HS7 := hidden (ho1.row HS5.out HNE.out)
  have HT7 := hidden (ho1.row HT5.out HNT.out)
  have HKa7 := hidden (ho1.row HKa5.out HKGa.out)
  have HKb7 := hidden (ho1.row HKb5.out HKGb.out)
  have HD7 := hidden hr1
  have HGW := hidden (show g < W7.heap.size by have := HGL.out; have := HO7.out.size; omega)
  have HBW := hidden (show w.heap.size + 1 < W7.heap.size from HS7.out.lt)
  have HST0 := hidden (show FsSt g (w.heap.size + 1) (.slice A l.length c) [.int .i64 n1, .int .i64 n2, .slice (some ⟨Ba, 0, none⟩) N3 N3, .bool ok, .slice (some ⟨Bb, 0, none⟩) 256 256] W7 s7 [] [] (.slice none 0 0) (.slice none 0 0) W7 from ⟨Only.refl _ _, hr1, HS7.out, ⟨by simp [vcells], .inl ⟨rfl, rfl⟩⟩, ⟨by simp [icells], .inl ⟨rfl, rfl⟩⟩⟩)
  clear ho1 hr1 HCB HCA HO0 HO1 HO2 HO3 HO4 HO5 HS0 HS1 HS2 HS3 HS4 HS5 HT0 HT1 HT2 HT3 HT4 HT5 HD0 HD1 HD2 HD3 HD4 HD5 HKa3 HKa4 HKa5 HKb5
  go_wp2_with fail
  go_loopw [22] (fun i wr => ∃ k : Nat, ∃ v5 v6 : Value, k ≤ m ∧ i = .int .i64 (k : Int) ∧ FsSt g (w.heap.size + 1) (.slice A l.length c) [.int .i64 n1, .int .i64 n2, .slice (some ⟨Ba, 0, none⟩) N3 N3, .bool ok, .slice (some ⟨Bb, 0, none⟩) 256 256] W7 (rdFs l s7 k).2.2 (rdFs l s7 k).1 (rdFs l s7 k).2.1 v5 v6 wr) (fun i _ => m - (intOf i).toNat)
  case atStart => exact ⟨0, _, _, Nat.zero_le _, rfl, HST0.out⟩
  case round =>
    obtain ⟨k, v5, v6, hk, rfl, hst⟩ := hrel
    have HST := hidden hst
    clear hst
    by_cases hlt : k < m
    · have HLT := hidden hlt
      have hd : decide (k < m) = true := decide_eq_true hlt
      have hi1 : (k : Int) < (m : Int) := by omega
      have hkb : k ≤ 17 := by have := HM.out; omega
      have HLE := hidden (rdFs_len l s7 k)
      have HOGW := hidden (show Only (fun j => j = g) w wr from HO7.out.trans HST.out.only (fun i hi => by rcases hi with h | h; exact .inl h; exact .inr (by omega)))
      have HRK := hidden (show rdFs l s7 (k + 1) = ((rdFs l s7 k).1 ++ [(rdVl l (rdFs l s7 k).2.2).1], (rdFs l s7 k).2.1 ++ (rdNs l (rdVl l (rdFs l s7 k).2.2).2 2).1, (rdNs l (rdVl l (rdFs l s7 k).2.2).2 2).2) from rfl)
      generalize rdFs l s7 k = d at *
      obtain ⟨fs, rk, s8⟩ := d
      simp only [] at HST HLE HRK
      clear hlt hk
      go_upto_region 9 with fail
      go_cut [24] from 24 to 30 (fun _ wx => ∃ v5' : Value, FsSt g (w.heap.size + 1) (.slice A l.length c) [.int .i64 n1, .int .i64 n2, .slice (some ⟨Ba, 0, none⟩) N3 N3, .bool ok, .slice (some ⟨Bb, 0, none⟩) 256 256] W7 (rdVl l s8).2 (fs ++ [(rdVl l s8).1]) rk v5' v6 wx)
      case first =>
        have HGD := hidden (show Grows wr wr.drew from ⟨rfl, rfl, rfl, Nat.le_refl _, fun _ _ => rfl⟩)
        have HSD := hidden (show FsSt g (w.heap.size + 1) (.slice A l.length c) [.int .i64 n1, .int .i64 n2, .slice (some ⟨Ba, 0, none⟩) N3 N3, .bool ok, .slice (some ⟨Bb, 0, none⟩) 256 256] W7 s8 fs rk v5 v6 wr.drew from HST.out.read HGW.out HNE.out (Only.of_grows HGD.out _) (HST.out.rd.grow HGD.out))
        have HVL := hidden (qvalue_any g A c l s8 wr.drew (HR.out.step (HOGW.out.afterG HGD.out) HSD.out.rd) HL.out HLC.out)
        generalize rdVl l s8 = d at *
        obtain ⟨x, s9⟩ := d
        simp only [] at HVL ⊢
        obtain ⟨i0, hi, hz0, hs1, hs2⟩ := info_parts info_valT
        have r0 := HSD.out.row.cell 5
        have r00 := HST.out.row.cell 5
        simp only [List.cons_append, List.nil_append, List.getElem?_cons_succ, List.getElem?_cons_zero] at r0 r00
        go_region_law (first
          | (refine step_call16 (f := 138) (args := #[.pointer (some ⟨g, 0, none⟩)]) rfl rfl ?_ HVL.out ?_; (focus go_simp); rintro e w3 ⟨rfl, ho3, hr3⟩
             have HS3 := hidden (HSD.out.read HGW.out HNE.out ho3 hr3)
             have r3 := HS3.out.row.cell 5
             have r3a := (HS3.out.row.grow (growK w3 (.cells #[.int .i64 x.k, .int .i64 x.n, .string x.t] 35))).cell 5
             simp only [List.cons_append, List.nil_append, List.getElem?_cons_succ, List.getElem?_cons_zero] at r3 r3a
             clear ho3 hr3
             refine ⟨_, rfl, ?_⟩)
          | (refine step_append_lies _ (by rfl) _ _ 22 (by rfl) W7.heap.size 35 i0 _ 3 32 Tryz.underlying22 hi hz0 hs1 hs2 rfl (by decide) v5 fs.length (vcells fs) (by rfl) (HS3.out.ofs.alloc _)
               ⟨w3.heap.size, 0, none⟩ 1 1 [.int .i64 x.k, .int .i64 x.n, .string x.t] (by rfl) (by rfl) (World.news_of_block (cs := #[.int .i64 x.k, .int .i64 x.n, .string x.t]) (t := 35) (fr := (0, 0)) (heap_alloc_new w3 _)) (by simp [Value.oneCell'])
               (by omega) (by have := HLE.out.1; unfold maxLen; omega) (by have := HLE.out.1; omega) (by have := HS3.out.size; simp; omega) (w3.heap.size + 1) (by simp) ?_; intro gg cap w4 hown4 hgrow hat hlt4
             have HO4 := hidden (show Only (fun j => v5.ownBlock = some j) w3 w4 from (Only.of_grows (B := fun j => v5.ownBlock = some j) (growK w3 (.cells #[.int .i64 x.k, .int .i64 x.n, .string x.t] 35))).trans (Only.by_ hgrow) (fun i hi => .inl hi))
             have HOW4 := hidden hown4
             have HF4 := hidden (HO4.out.row HS3.out.row (fun e => by have := (HS3.out.ofs.lt _ e).1; have := HBW.out; omega))
             have r4 := HF4.out.cell 5
             have f4 := HF4.out.frozen 5
             simp only [List.cons_append, List.nil_append, List.getElem?_cons_succ, List.getElem?_cons_zero] at r4
             clear hown4 hgrow hat hlt4))
        all_goals
         focus
          have HFIN := hidden (HS3.out.fence (x := x) HGW.out HBW.out HNE.out rfl HO4.out (by have h := HOW4.out; rw [vcells_append, List.length_append]; exact h))
          clear r0 r00 r3 r3a r4 f4
          go_wp2_with fail
          go_meet
          exact ⟨_, HFIN.out⟩
      case rest =>
        rename World => wx
        obtain ⟨v5', hst⟩ := hcut
        have HST2 := hidden hst
        clear hst HST
        generalize rdVl l s8 = d at *
        obtain ⟨x, s9⟩ := d
        simp only [] at HST2 HRK
        go_upto_region 10 with fail
        have HOG2 := hidden (show Only (fun j => j = g) w wx from HO7.out.trans HST2.out.only (fun i hi => by rcases hi with h | h; exact .inl h; exact .inr (by omega)))
        have HGD := hidden (show Grows wx wx.drew from ⟨rfl, rfl, rfl, Nat.le_refl _, fun _ _ => rfl⟩)
        have HSD := hidden (show FsSt g (w.heap.size + 1) (.slice A l.length c) [.int .i64 n1, .int .i64 n2, .slice (some ⟨Ba, 0, none⟩) N3 N3, .bool ok, .slice (some ⟨Bb, 0, none⟩) 256 256] W7 s9 (fs ++ [x]) rk v5' v6 wx.drew from HST2.out.read HGW.out HNE.out (Only.of_grows HGD.out _) (HST2.out.rd.grow HGD.out))
        have HVL := hidden (qnumbers_any g A c l s9 2 wx.drew (HR.out.step (HOG2.out.afterG HGD.out) HSD.out.rd) HL.out (by decide))
        have HNL := hidden (rdNs_len l s9 2)
        generalize rdNs l s9 2 = d at *
        obtain ⟨ys, s10⟩ := d
        simp only [] at HVL HNL ⊢
        obtain ⟨i0, hi, hz0, hs1, hs2⟩ := info_parts info_intP
        have r0 := HSD.out.row.cell 6
        have r00 := HST2.out.row.cell 6
        simp only [List.cons_append, List.nil_append, List.getElem?_cons_succ, List.getElem?_cons_zero] at r0 r00
        go_region_law (first
          | (refine step_call16 (f := 136) (args := #[.pointer (some ⟨g, 0, none⟩), .int .i64 2]) rfl rfl ?_ HVL.out ?_; (focus go_simp); rintro e w3 ⟨Bq, rfl, hBq, ho3, hr3, hrow3⟩
             have HS3 := hidden (HSD.out.read HGW.out HNE.out ho3 hr3)
             have HRW3 := hidden hrow3
             have r3 := HS3.out.row.cell 6
             simp only [List.cons_append, List.nil_append, List.getElem?_cons_succ, List.getElem?_cons_zero] at r3
             clear ho3 hr3 hBq hrow3
             refine ⟨_, rfl, ?_⟩)
          | (refine step_append_lies _ (by rfl) _ _ 27 (by rfl) W7.heap.size 3 i0 _ 1 8 Tryz.underlying27 hi hz0 hs1 hs2 rfl (by decide) v6 rk.length (icells rk) (by rfl) HS3.out.ork
               ⟨Bq, 0, none⟩ 2 2 (icells ys) (by rfl) (by rw [icells_length, HNL.out]) (World.news_of_block (cs := (icells ys).toArray) (t := 3) (fr := (0, 0)) HRW3.out) (by intro u hu; obtain ⟨y, -, rfl⟩ := List.mem_map.1 hu; rfl)
               (by omega) (by have := HLE.out.2; unfold maxLen; omega) (by have := HLE.out.2; omega) HS3.out.size w3.heap.size rfl ?_; intro gg cap w4 hown4 hgrow hat hlt4
             have HO4 := hidden (show Only (fun j => v6.ownBlock = some j) w3 w4 from (Only.by_ hgrow).mono (fun i hi => .inl hi))
             have HOW4 := hidden hown4
             have HF4 := hidden (HO4.out.row HS3.out.row (fun e => by have := (HS3.out.ork.lt _ e).1; have := HBW.out; omega))
             have r4 := HF4.out.cell 6
             have f4 := HF4.out.frozen 6
             simp only [List.cons_append, List.nil_append, List.getElem?_cons_succ, List.getElem?_cons_zero] at r4
             clear hown4 hgrow hat hlt4))
        all_goals
         focus
          have HFIN := hidden (HS3.out.ranks (ys := ys) HGW.out HBW.out HNE.out rfl HO4.out (by have h := HOW4.out; rw [show icells (rk ++ ys) = icells rk ++ icells ys by simp [icells], List.length_append, HNL.out]; exact h))
          clear r0 r00 r3 r4 f4
          have hkb2 : k ≤ 17 := hkb
          go_wp2_with fail
          go_roundw
          case rel => exact ⟨k + 1, v5', _, HLT.out, by go_num, by rw [HRK.out]; exact HFIN.out⟩
          case measure => have := HLT.out; simp [intOf]; omega
    · have hke : k = m := by omega
      subst hke
      have hd : decide (k < k) = false := decide_eq_false hlt
      clear hlt hk
      have HLE := hidden (rdFs_len l s7 k)
      generalize rdFs l s7 k = d at *
      obtain ⟨fs, rk, s8⟩ := d
      simp only [] at HST HLE HSP
      have HOGW := hidden (show Only (fun j => j = g) w wr from HO7.out.trans HST.out.only (fun i hi => by rcases hi with h | h; exact .inl h; exact .inr (by omega)))
      have HTW := hidden (HST.out.only.row HT7.out (by rintro (h | h); exact HNT.out h; omega))
      have HKaW := hidden (HST.out.only.row HKa7.out (by rintro (h | h); exact HKGa.out h; exact HKBa.out h))
      have HKbW := hidden (HST.out.only.row HKb7.out (by rintro (h | h); exact HKGb.out h; exact HKBb.out h))
      obtain ⟨A5, c5, e5⟩ : ∃ A5 c5, v5 = .slice A5 fs.length c5 := own_slice16 HST.out.ofs
      obtain ⟨A6, c6, e6⟩ : ∃ A6 c6, v6 = .slice A6 rk.length c6 := own_slice16 HST.out.ork
      subst e5 e6
      have t0 := HST.out.row.cell 0
      have t1 := HST.out.row.cell 1
      have t2 := HST.out.row.cell 2
      have t3 := HST.out.row.cell 3
      have t4 := HST.out.row.cell 4
      have t5 := HST.out.row.cell 5
      have t6 := HST.out.row.cell 6
      simp only [List.cons_append, List.nil_append, List.getElem?_cons_succ, List.getElem?_cons_zero] at t0 t1 t2 t3 t4 t5 t6
      obtain ⟨F5, hF5⟩ : ∃ n, n = fs.length := ⟨_, rfl⟩
      obtain ⟨F6, hF6⟩ : ∃ n, n = rk.length := ⟨_, rfl⟩
      have HF56 := hidden (And.intro hF5 hF6)
      rw [← hF5] at t5
      rw [← hF6] at t6
      clear hF5 hF6
      go_wp2_with ((with_reducible refine at_sk rfl _ _ rfl ?_); refine wpList_store_sk rfl _ _ rfl w.heap.size rfl (.int .i64 n1) (.int .i64 n2) (.slice (some ⟨Ba, 0, none⟩) N3 N3) (.bool ok) (.slice (some ⟨Bb, 0, none⟩) 256 256) (.slice A5 F5 c5) (.slice A6 F6 c6) rfl (by simp [Value.oneCell']) _ _ _ _ _ _ _ HTW.out ?_; intro W9 hr9 ho9; have HR9 := hidden hr9; have HO9 := hidden ho9; clear hr9 ho9)
      refine bodyPost_ret (results_sk rfl _ _ _ _ _ _ _ _ _ _ rfl HR9.out) rfl ⟨_, rfl, ?_, HOGW.out.trans HO9.out (fun i hi => .inr (by omega)), ?_⟩
      · rw [HSP.out]
        obtain ⟨hF5, hF6⟩ := HF56.out
        subst hF5 hF6
        have k1 := HO9.out.row HKaW.out HKTa.out
        have k2 := HO9.out.row HKbW.out HKTb.out
        have k5 := ownsRow_only HST.out.ofs HO9.out (fun k hk e => by have := (HST.out.ofs.lt k hk).1; have := HBW.out; omega)
        have k6 := ownsRow_only HST.out.ork HO9.out (fun k hk e => by have := (HST.out.ork.lt k hk).1; have := HBW.out; omega)
        refine ⟨_, _, _, _, rfl, ?_, ?_, ownsRow_base k5 (by have := HO7.out.size; omega), ownsRow_base k6 (by have := HO7.out.size; omega)⟩
        · have h := own_of_row16 (n := N3) k1 (by rw [wcells_length16, HHL.out]) (by have := HN3.out; unfold maxLen; omega)
          show W9.ownsRow w.heap.size 56 1 _ hs.length (wcells hs)
          rw [HHL.out]
          exact ownsRow_base h HLa.out
        · have h := own_of_row16 (n := 256) k2 (by rw [icells_length, HCL.out]) (by decide)
          show W9.ownsRow w.heap.size 3 1 _ cm.length (icells cm)
          rw [HCL.out]
          exact ownsRow_base h HLb.out
      · rw [HSP.out]
        exact HST.out.rd.only HO9.out (fun e => HNT.out e.symm)
end Go.Proofs.YtoaklmceejeblaaGreat
