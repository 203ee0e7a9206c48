/-
  Shaken: what the claims of this seat need of this text. No condition.
-/
import Derived.Test.YtoaklmceejeblaaGreatSkP
import Derived.Test.YtoaklmceejeblaaGreatM9
namespace Go.Proofs.YtoaklmceejeblaaGreat
open Go.RowKit
set_option linter.unusedVariables false
set_option linter.unusedSimpArgs false
def zeroSk : Sk := ⟨0, 0, [], false, [], [], []⟩
noncomputable def decSk (l : List UInt8) (off : Int) : Sk × Int × Int :=
  if (rdSk l off).2.e ≠ 0 then (zeroSk, 0, (rdSk l off).2.e) else if validKB (rdSk l off).1 = true then ((rdSk l off).1, (rdSk l off).2.p, 0) else (zeroSk, 0, 4)
theorem isK_zero (w : World) : IsK w (.agg #[.int .i64 0, .int .i64 0, .slice none 0 0, .bool false, .slice none 0 0, .slice none 0 0, .slice none 0 0]) zeroSk := ⟨none, none, none, none, 0, 0, 0, 0, rfl, by unfold IsW; exact Reads.nil_ _ 0, Reads.nil_ _ 0, ⟨none, 0, rfl, Nat.le_refl _, fun h => absurd h (by simp [zeroSk])⟩, Reads.nil_ _ 0⟩
theorem rdSk_parts (l : List UInt8) (off : Int) : (rdSk l off).1.hs.length ≤ 32 ∧ (rdSk l off).1.fs.length ≤ 17 ∧ (rdSk l off).1.rk.length = 2 * (rdSk l off).1.fs.length ∧ (rdSk l off).1.cm.length = 256 ∧ (rdSk l off).1.rows ≤ 2147483647 ∧ 0 ≤ (rdSk l off).1.rows := by
  unfold rdSk
  simp only []
  have h1 := rdCt_all l 32 (rdNm l (rdNm l ⟨off, 0⟩).2).2 (by decide)
  refine ⟨?_, ?_, ?_, ?_, (rdNm_all l _).2, (rdNm_all l _).1⟩
  · rw [rdHs_len]; omega
  · rw [(rdFs_len l _ _).1]
    have h2 := rdCt_all l 17 (rdNs l (rdFl l (rdHs l (rdCt l 32 (rdNm l (rdNm l ⟨off, 0⟩).2).2).2 (rdCt l 32 (rdNm l (rdNm l ⟨off, 0⟩).2).2).1.toNat).2.2).2 256).2 (by decide)
    omega
  · rw [(rdFs_len l _ _).1, (rdFs_len l _ _).2]
  · exact rdNs_len l _ 256
theorem results_sk3 {fn : Func} {p q r : Tmp} (h : fn.results = #[.cell p 29, .tmp q, .tmp r]) (tmps : Array Value) (w : World) (g : Nat) (z0 z1 z2 z3 z4 z5 z6 x y : Value) (hp : tmps.getD p undef = .pointer (some ⟨g, 0, none⟩)) (hg : Row w g 29 [z0, z1, z2, z3, z4, z5, z6])
    (hx : tmps.getD q undef = x) (hy : tmps.getD r undef = y) : (results fn tmps).run Tryz.prog w = .ok (.tuple #[.agg #[z0, z1, z2, z3, z4, z5, z6], x, y]) w := by
  have hp' : tmps[p]?.getD undef = .pointer (some ⟨g, 0, none⟩) := by simpa using hp
  have hx' : tmps[q]?.getD undef = x := by simpa using hx
  have hy' : tmps[r]?.getD undef = y := by simpa using hy
  simp [results, h, hp', hx', hy', asAddr, run_loadVar_row w g 29 29 #[z0, z1, z2, z3, z4, z5, z6] (0, 0) _ hg Tryz.underlying29 rfl size_sk]
def IsSkR (w : World) (g : Nat) : Prop := ∃ a b c d e f h, Row w g 29 [a, b, c, d, e, f, h]
structure SkT (g : Nat) (xs : List Value) (a b : World) : Prop where
  only : Only (fun k => k = g) a b
  row : IsSkR a g → IsSkR b g
  done : Row a g 29 xs → Row b g 29 xs
theorem SkT.of_grows {g : Nat} {xs : List Value} {w w' : World} (h : Grows w w') : SkT g xs w w' := ⟨Only.of_grows h _, fun ⟨a, b, c, d, e, f, k, hr⟩ => ⟨a, b, c, d, e, f, k, hr.grow h⟩, fun hr => hr.grow h⟩
theorem SkT.re (g : Nat) (xs : List Value) (w : World) : SkT g xs w w := SkT.of_grows (Below.refl _ _)
theorem SkT.tr {g : Nat} {xs : List Value} {a b c : World} (h : SkT g xs a b) (k : SkT g xs b c) : SkT g xs a c := ⟨h.only.after k.only, fun hr => k.row (h.row hr), fun hr => k.done (h.done hr)⟩
theorem SkT.dr (g : Nat) (xs : List Value) (w : World) : SkT g xs w { w with drawn := w.drawn + 1 } := SkT.of_grows ⟨rfl, rfl, rfl, Nat.le_refl _, fun _ _ => rfl⟩
abbrev skSte (g : Nat) (xs : List Value) : SteQ := ⟨SkT g xs, SkT.re g xs, SkT.tr, SkT.dr g xs⟩
theorem SkT.store {g : Nat} {w : World} {z0 z1 z2 z3 z4 z5 z6 y0 y1 y2 y3 y4 y5 y6 : Value} (hr : Row w g 29 [y0, y1, y2, y3, y4, y5, y6]) :
    SkT g [z0, z1, z2, z3, z4, z5, z6] w (w.setRow g #[z0, z1, z2, z3, z4, z5, z6]) ∧ Row (w.setRow g #[z0, z1, z2, z3, z4, z5, z6]) g 29 [z0, z1, z2, z3, z4, z5, z6] := by
  have hnew : Row (w.setRow g #[z0, z1, z2, z3, z4, z5, z6]) g 29 [z0, z1, z2, z3, z4, z5, z6] := hr.setRowK [z0, z1, z2, z3, z4, z5, z6]
  exact ⟨⟨only_setRow16 _ _ _, fun _ => ⟨_, _, _, _, _, _, _, hnew⟩, fun _ => hnew⟩, hnew⟩
theorem store_run_sk {o : Oper} {a : Act} {w : World} (x y : Operand) (ho : o.op = .store 29 x y) (g : Nat) (z0 z1 z2 z3 z4 z5 z6 : Value) (hx : a.eval x = .pointer (some ⟨g, 0, none⟩)) (hy : a.eval y = .agg #[z0, z1, z2, z3, z4, z5, z6]) (h1 : (#[z0, z1, z2, z3, z4, z5, z6] : Array Value).all (·.oneCell') = true)
    {y0 y1 y2 y3 y4 y5 y6 : Value} (hr : Row w g 29 [y0, y1, y2, y3, y4, y5, y6]) : (execOp a.eval o).run Tryz.prog w = .ok .skip (w.setRow g #[z0, z1, z2, z3, z4, z5, z6]) := by
  unfold execOp
  simp only [ho, hx, hy, Instr.storeAt, Instr.sureAddr, Sem.run_bind, Sem.run_pure, Result.andThen_ok, run_storeVar_row (P := Tryz.prog) w g _ 29 _ #[z0, z1, z2, z3, z4, z5, z6] hr size_sk rfl h1]
set_option maxRecDepth 8000 in
set_option maxHeartbeats 8000000 in
theorem qDecode_any (A : Option Addr) (c : Nat) (l : List UInt8) (off : Int) (w : World) (hb : IsBytes w (.slice A l.length c) l) (hl : l.length ≤ 4611686018427387904) (hlc : l.length ≤ c) (h63 : -9223372036854775808 ≤ off) (h64 : off ≤ 9223372036854775807) :
    Calls Tryz.prog 31 #[.slice A l.length c, .int .i64 off] w fun e w' => ∃ v, e = .returned (.tuple #[v, .int .i64 (decSk l off).2.1, .int .i64 (decSk l off).2.2]) ∧ IsK w' v (decSk l off).1 ∧ Grows w w' := by
  have HPA := hidden (rdSk_parts l off)
  have HDE : Hid (decSk l off = if (rdSk l off).2.e ≠ 0 then (zeroSk, 0, (rdSk l off).2.e) else if validKB (rdSk l off).1 = true then ((rdSk l off).1, (rdSk l off).2.p, 0) else (zeroSk, 0, 4)) := hidden rfl
  obtain ⟨W0, hW0⟩ : ∃ W, W = (w.alloc (.cells #[.int .i64 0, .int .i64 0, .slice none 0 0, .bool false, .slice none 0 0, .slice none 0 0, .slice none 0 0] 29)).alloc (.cells #[.slice A l.length c, .int .i64 off, .int .i64 0] 108) := ⟨_, rfl⟩
  have HG0 := hidden (show Grows w W0 by rw [hW0]; exact (growK _ _).of_below (growK _ _))
  have HT0 := hidden (show Row W0 w.heap.size 29 [.int .i64 0, .int .i64 0, .slice none 0 0, .bool false, .slice none 0 0, .slice none 0 0, .slice none 0 0] by rw [hW0]; exact (skrow_new _ _ _ _ _ _ _ _).grow (growK _ _))
  have HR0 := hidden (show Row W0 (w.heap.size + 1) 108 [.slice A l.length c, .int .i64 off, .int .i64 0] by
    rw [hW0]
    have h := Row.new (w.alloc (.cells #[.int .i64 0, .int .i64 0, .slice none 0 0, .bool false, .slice none 0 0, .slice none 0 0, .slice none 0 0] 29)) 108 #[.slice A l.length c, .int .i64 off, .int .i64 0] [.slice A l.length c, .int .i64 off, .int .i64 0] rfl
    have e : (w.alloc (.cells #[.int .i64 0, .int .i64 0, .slice none 0 0, .bool false, .slice none 0 0, .slice none 0 0, .slice none 0 0] 29)).heap.size = w.heap.size + 1 := by simp
    rwa [e] at h)
  have HSZ := hidden (show W0.heap.size = w.heap.size + 2 by rw [hW0]; simp)
  have HQ := hidden (qsketch_any (w.heap.size + 1) A c l off W0 ⟨⟨off, HR0.out, fun _ => rfl, h63, h64⟩, hb.grow HG0.out⟩ hl hlc)
  have HLL := hidden hl
  generalize rdSk l off = d at *
  obtain ⟨sk, st⟩ := d
  simp only [] at HPA HDE HQ
  have HKZ := hidden (fun W => isK_zero W)
  generalize decSk l off = out at *
  clear hb hl hlc h63 h64
  go_enter Tryz.func31, Tryz.ntmps31
  go_wp2_with fail
  rw [← hW0]
  clear hW0
  refine HQ.out.mono ?_
  rintro e X1 ⟨v, rfl, hown, ho1, hr1⟩
  have HOW1 := hidden hown
  have HO1 := hidden ho1
  have HT1 := hidden (ho1.row HT0.out (by omega))
  obtain ⟨p, hrow, hpe, hpb⟩ := hr1
  have HR1 := hidden hrow
  have HPB := hidden (And.intro hpe hpb)
  obtain ⟨qa, qb, qc, qd, rfl, k1, k2, k3, k4⟩ := hown
  obtain ⟨A1, u1, e1⟩ := own_slice16 k1
  obtain ⟨A2, u2, e2⟩ := own_slice16 k2
  obtain ⟨A3, u3, e3⟩ := own_slice16 k3
  obtain ⟨A4, u4, e4⟩ := own_slice16 k4
  subst e1 e2 e3 e4
  have HONE := hidden (show (#[.int .i64 sk.rows, .int .i64 sk.nulls, (.slice A1 sk.hs.length u1), .bool sk.ok, (.slice A2 sk.cm.length u2), (.slice A3 sk.fs.length u3), (.slice A4 sk.rk.length u4)] : Array Value).all (·.oneCell') = true by simp [Value.oneCell'])
  clear k1 k2 k3 k4
  obtain ⟨X2, hX2⟩ : ∃ X, X = X1.alloc (.cells #[.int .i64 sk.rows, .int .i64 sk.nulls, (.slice A1 sk.hs.length u1), .bool sk.ok, (.slice A2 sk.cm.length u2), (.slice A3 sk.fs.length u3), (.slice A4 sk.rk.length u4)] 29) := ⟨_, rfl⟩
  have HG2 := hidden (show Grows X1 X2 by rw [hX2]; exact growK _ _)
  have HS2 := hidden (show Row X2 X1.heap.size 29 [.int .i64 sk.rows, .int .i64 sk.nulls, (.slice A1 sk.hs.length u1), .bool sk.ok, (.slice A2 sk.cm.length u2), (.slice A3 sk.fs.length u3), (.slice A4 sk.rk.length u4)] by rw [hX2]; exact skrow_new _ _ _ _ _ _ _ _)
  have HR2 := hidden (HR1.out.grow HG2.out)
  have HT2 := hidden (HT1.out.grow HG2.out)
  have HOW2 := hidden (HOW1.out.only (Only.of_grows HG2.out (fun _ => False)) (fun _ _ h => h))
  have HGW := hidden (show Grows w X2 from (HO1.out.below HG0.out (fun i hi => by omega)).of_below HG2.out)
  have q2 := HR2.out.cell 2
  simp only [List.getElem?_cons_succ, List.getElem?_cons_zero] at q2
  rw [hX2] at q2
  clear ho1 hrow hpe hpb
  by_cases he : st.e = 0
  · have d1 : (st.e == 0) = true := beq_iff_eq.2 he
    rw [he] at q2 HR2 HR1
    have HQV := hidden (fun Y (h : Grows X2 Y) => qValid_any _ sk Y (HOW2.out.isK.grow h) (by have := HPA.out.1; omega) (by have := HPA.out.2.1; omega) (by have := HPA.out.2.1; have := HPA.out.2.2.1; omega) (by have := HPA.out.2.2.2.2.1; omega))
    have HPE := hidden (HPB.out.1 he)
    cases hvb : validKB sk with
    | true =>
      rw [hvb] at HQV
      have HE := hidden (show out = (sk, st.p, 0) by rw [HDE.out, if_neg (by simpa using he), if_pos hvb])
      clear hvb he
      go_wp2_with fail
      rw [← hX2]
      refine (HQV.out X2 (Below.refl _ _)).mono ?_
      rintro e X3 ⟨rfl, g3⟩
      have HG3 := hidden g3
      have HRX := hidden (HR2.out.grow g3)
      have HSX := hidden (HS2.out.grow g3)
      have HTX := hidden (HT2.out.grow g3)
      have HGX := hidden (HGW.out.of_below g3)
      have y2 := HRX.out.cell 2
      simp only [List.getElem?_cons_succ, List.getElem?_cons_zero] at y2
      clear g3 q2
      go_wp2_with fail
      clear y2
      have HX := hidden (fun Y (h : Only (fun k => k = w.heap.size) X3 Y) => show (Y.cell? ⟨w.heap.size + 1, 1, none⟩ = some (.int .i64 p) ∧ Y.cell? ⟨w.heap.size + 1, 2, none⟩ = some (.int .i64 0)) ∧ Y.cell? ⟨X1.heap.size, 0, none⟩ = some (.int .i64 sk.rows) ∧ Y.cell? ⟨X1.heap.size, 1, none⟩ = some (.int .i64 sk.nulls) ∧ Y.cell? ⟨X1.heap.size, 2, none⟩ = some (.slice A1 sk.hs.length u1) ∧ Y.cell? ⟨X1.heap.size, 3, none⟩ = some (.bool sk.ok) ∧ Y.cell? ⟨X1.heap.size, 4, none⟩ = some (.slice A2 sk.cm.length u2) ∧ Y.cell? ⟨X1.heap.size, 5, none⟩ = some (.slice A3 sk.fs.length u3) ∧ Y.cell? ⟨X1.heap.size, 6, none⟩ = some (.slice A4 sk.rk.length u4) from
        have e1 : w.heap.size + 1 ≠ w.heap.size := by omega
        have e2 : X1.heap.size ≠ w.heap.size := by have := HO1.out.size; have := HSZ.out; omega
        have r1 := h.row HRX.out e1
        have r2 := h.row HSX.out e2
        ⟨⟨r1.cell 1, r1.cell 2⟩, r2.cell 0, r2.cell 1, r2.cell 2, r2.cell 3, r2.cell 4, r2.cell 5, r2.cell 6⟩)
      have HIS := hidden (show IsSkR X3 w.heap.size from ⟨_, _, _, _, _, _, _, HTX.out⟩)
      letI : SteQ := skSte w.heap.size [(.int .i64 sk.rows), (.int .i64 sk.nulls), (.slice A1 sk.hs.length u1), (.bool sk.ok), (.slice A2 sk.cm.length u2), (.slice A3 sk.fs.length u3), (.slice A4 sk.rk.length u4)]
      refine wp_region_looseX (tabX [(3, fun _ _ w' => Row w' w.heap.size 29 [(.int .i64 sk.rows), (.int .i64 sk.nulls), (.slice A1 sk.hs.length u1), (.bool sk.ok), (.slice A2 sk.cm.length u2), (.slice A3 sk.fs.length u3), (.slice A4 sk.rk.length u4)])]) (by kernel_rfl) (by kernel_rfl) (tabX_cons (fun s v w w' hr ht => (show SkT _ _ _ _ from ht).done hr) tabX_nil) ?_
      iterate 3 ((with_reducible refine loose_oneX (v := ?_) (a' := ?_) ?_ ?_ (fun w' hC' hG' => ?_) ?_ ?_); rotate_left 2; (focus rfl); (focus rfl); (focus (obtain ⟨⟨y1, y2⟩, s0, s1, s2, s3, s4, s5, s6⟩ := HX.out w' (show SkT _ _ X3 w' from hC').only; clear hC' hG'; go_simp; rfl)); (focus (go_simp; rfl)))
      refine loose_storeX (R := fun _ _ w' => Row w' w.heap.size 29 [(.int .i64 sk.rows), (.int .i64 sk.nulls), (.slice A1 sk.hs.length u1), (.bool sk.ok), (.slice A2 sk.cm.length u2), (.slice A3 sk.fs.length u3), (.slice A4 sk.rk.length u4)]) (by rfl) (by rfl) (fun w' hC' hG' => ?_) ?_
      · obtain ⟨r0, r1, r2, r3, r4, r5, r6, hrr⟩ := (show SkT _ _ X3 w' from hC').row HIS.out
        have hst := SkT.store (z0 := (.int .i64 sk.rows)) (z1 := (.int .i64 sk.nulls)) (z2 := (.slice A1 sk.hs.length u1)) (z3 := (.bool sk.ok)) (z4 := (.slice A2 sk.cm.length u2)) (z5 := (.slice A3 sk.fs.length u3)) (z6 := (.slice A4 sk.rk.length u4)) hrr
        exact ⟨_, store_run_sk _ _ rfl w.heap.size (.int .i64 sk.rows) (.int .i64 sk.nulls) (.slice A1 sk.hs.length u1) (.bool sk.ok) (.slice A2 sk.cm.length u2) (.slice A3 sk.fs.length u3) (.slice A4 sk.rk.length u4) rfl (by rfl) HONE.out hrr, hst.1, hst.2⟩
      intro v8 _
      refine ⟨?_, ?_, ?_⟩
      rotate_left
      · go_simp
        rfl
      iterate 2 ((with_reducible refine loose_oneX (v := ?_) (a' := ?_) ?_ ?_ (fun w' hC' hG' => ?_) ?_ ?_); rotate_left 2; (focus rfl); (focus rfl); (focus (clear hC' hG'; go_simp; rfl)); (focus (go_simp; rfl)))
      refine loose_doneX (fun w9 hC' hG' => ?_)
      have HR9 := hidden ((hG' 3).2 rfl)
      have HO9 := hidden (show SkT _ _ X3 w9 from hC').only
      clear hC' hG'
      go_wp2_with fail
      refine bodyPost_ret (results_sk3 rfl _ _ _ _ _ _ _ _ _ _ _ _ rfl HR9.out rfl rfl) rfl ⟨.agg #[.int .i64 sk.rows, .int .i64 sk.nulls, (.slice A1 sk.hs.length u1), .bool sk.ok, (.slice A2 sk.cm.length u2), (.slice A3 sk.fs.length u3), (.slice A4 sk.rk.length u4)], ?_, ?_, HO9.out.below HGX.out (fun i hi => by omega)⟩
      · rw [HE.out, ← HPE.out]
        first | done | rfl
      · rw [HE.out]
        exact ((HOW2.out.only (Only.of_grows HG3.out (fun _ => False)) (fun _ _ h => h)).only HO9.out (fun k hk h => by have := HSZ.out; omega)).isK
    | false =>
      rw [hvb] at HQV
      have HE := hidden (show out = (zeroSk, 0, 4) by rw [HDE.out, if_neg (by simpa using he), if_neg (by rw [hvb]; decide)])
      have HKZ2 := hidden (show ∀ W, IsK W (.agg #[.int .i64 0, .int .i64 0, .slice none 0 0, .bool false, .slice none 0 0, .slice none 0 0, .slice none 0 0]) out.1 from fun W => by rw [HE.out]; exact HKZ.out W)
      clear hvb he
      go_wp2_with fail
      rw [← hX2]
      refine (HQV.out X2 (Below.refl _ _)).mono ?_
      rintro e X3 ⟨rfl, g3⟩
      have HG3 := hidden g3
      have HR3 := hidden (HR2.out.grow g3)
      have c2 := HR3.out.cell 2
      have f2 := HR3.out.frozen 2
      simp only [List.getElem?_cons_succ, List.getElem?_cons_zero] at c2
      obtain ⟨X5, hX5⟩ : ∃ X, X = X3.setCell ⟨w.heap.size + 1, 2, none⟩ (.int .i64 4) := ⟨_, rfl⟩
      have HRX := hidden (show Row (X3.setCell ⟨w.heap.size + 1, 2, none⟩ (.int .i64 4)) (w.heap.size + 1) 108 [.slice A l.length c, .int .i64 p, .int .i64 4] from HR3.out.set_m 2 (.int .i64 4))
      have HSX := hidden ((Only.set X3 (w.heap.size + 1) 2 (.int .i64 4)).row (HS2.out.grow g3) (by have := HO1.out.size; have := HSZ.out; omega))
      have HTX := hidden ((Only.set X3 (w.heap.size + 1) 2 (.int .i64 4)).row (HT2.out.grow g3) (by omega))
      have HGX := hidden (show Grows w (X3.setCell ⟨w.heap.size + 1, 2, none⟩ (.int .i64 4)) from (Only.set X3 (w.heap.size + 1) 2 (.int .i64 4)).below (HGW.out.of_below g3) (fun i hi => by omega))
      have c4 := HRX.out.cell 2
      simp only [List.getElem?_cons_succ, List.getElem?_cons_zero] at c4
      clear g3 q2
      go_wp2_with fail
      rw [← hX5] at HRX HSX HTX HGX
      rw [← hX5]
      clear hX5 c2 f2 c4
      have HX := hidden (fun Y (h : Only (fun k => k = w.heap.size) X5 Y) => show (Y.cell? ⟨w.heap.size + 1, 1, none⟩ = some (.int .i64 p) ∧ Y.cell? ⟨w.heap.size + 1, 2, none⟩ = some (.int .i64 4)) ∧ Y.cell? ⟨X1.heap.size, 0, none⟩ = some (.int .i64 sk.rows) ∧ Y.cell? ⟨X1.heap.size, 1, none⟩ = some (.int .i64 sk.nulls) ∧ Y.cell? ⟨X1.heap.size, 2, none⟩ = some (.slice A1 sk.hs.length u1) ∧ Y.cell? ⟨X1.heap.size, 3, none⟩ = some (.bool sk.ok) ∧ Y.cell? ⟨X1.heap.size, 4, none⟩ = some (.slice A2 sk.cm.length u2) ∧ Y.cell? ⟨X1.heap.size, 5, none⟩ = some (.slice A3 sk.fs.length u3) ∧ Y.cell? ⟨X1.heap.size, 6, none⟩ = some (.slice A4 sk.rk.length u4) from
        have e1 : w.heap.size + 1 ≠ w.heap.size := by omega
        have e2 : X1.heap.size ≠ w.heap.size := by have := HO1.out.size; have := HSZ.out; omega
        have r1 := h.row HRX.out e1
        have r2 := h.row HSX.out e2
        ⟨⟨r1.cell 1, r1.cell 2⟩, r2.cell 0, r2.cell 1, r2.cell 2, r2.cell 3, r2.cell 4, r2.cell 5, r2.cell 6⟩)
      have HIS := hidden (show IsSkR X5 w.heap.size from ⟨_, _, _, _, _, _, _, HTX.out⟩)
      letI : SteQ := skSte w.heap.size [(.int .i64 0), (.int .i64 0), (.slice none 0 0), (.bool false), (.slice none 0 0), (.slice none 0 0), (.slice none 0 0)]
      refine wp_region_looseX (tabX [(3, fun _ _ w' => Row w' w.heap.size 29 [(.int .i64 0), (.int .i64 0), (.slice none 0 0), (.bool false), (.slice none 0 0), (.slice none 0 0), (.slice none 0 0)])]) (by kernel_rfl) (by kernel_rfl) (tabX_cons (fun s v w w' hr ht => (show SkT _ _ _ _ from ht).done hr) tabX_nil) ?_
      iterate 3 ((with_reducible refine loose_oneX (v := ?_) (a' := ?_) ?_ ?_ (fun w' hC' hG' => ?_) ?_ ?_); rotate_left 2; (focus rfl); (focus rfl); (focus (obtain ⟨⟨y1, y2⟩, s0, s1, s2, s3, s4, s5, s6⟩ := HX.out w' (show SkT _ _ X5 w' from hC').only; clear hC' hG'; go_simp; rfl)); (focus (go_simp; rfl)))
      refine loose_storeX (R := fun _ _ w' => Row w' w.heap.size 29 [(.int .i64 0), (.int .i64 0), (.slice none 0 0), (.bool false), (.slice none 0 0), (.slice none 0 0), (.slice none 0 0)]) (by rfl) (by rfl) (fun w' hC' hG' => ?_) ?_
      · obtain ⟨r0, r1, r2, r3, r4, r5, r6, hrr⟩ := (show SkT _ _ X5 w' from hC').row HIS.out
        have hst := SkT.store (z0 := (.int .i64 0)) (z1 := (.int .i64 0)) (z2 := (.slice none 0 0)) (z3 := (.bool false)) (z4 := (.slice none 0 0)) (z5 := (.slice none 0 0)) (z6 := (.slice none 0 0)) hrr
        exact ⟨_, store_run_sk _ _ rfl w.heap.size (.int .i64 0) (.int .i64 0) (.slice none 0 0) (.bool false) (.slice none 0 0) (.slice none 0 0) (.slice none 0 0) rfl (by rfl) (by simp [Value.oneCell']) hrr, hst.1, hst.2⟩
      intro v8 _
      refine ⟨?_, ?_, ?_⟩
      rotate_left
      · go_simp
        rfl
      iterate 2 ((with_reducible refine loose_oneX (v := ?_) (a' := ?_) ?_ ?_ (fun w' hC' hG' => ?_) ?_ ?_); rotate_left 2; (focus rfl); (focus rfl); (focus (clear hC' hG'; go_simp; rfl)); (focus (go_simp; rfl)))
      refine loose_doneX (fun w9 hC' hG' => ?_)
      have HR9 := hidden ((hG' 3).2 rfl)
      have HO9 := hidden (show SkT _ _ X5 w9 from hC').only
      clear hC' hG'
      go_wp2_with fail
      refine bodyPost_ret (results_sk3 rfl _ _ _ _ _ _ _ _ _ _ _ _ rfl HR9.out rfl rfl) rfl ⟨.agg #[.int .i64 0, .int .i64 0, .slice none 0 0, .bool false, .slice none 0 0, .slice none 0 0, .slice none 0 0], ?_, HKZ2.out _, HO9.out.below HGX.out (fun i hi => by omega)⟩
      rw [HE.out]
      first | done | rfl
  · have d1 : (st.e == 0) = false := beq_eq_false_iff_ne.2 he
    have HE := hidden (show out = (zeroSk, 0, st.e) by rw [HDE.out, if_pos he])
    have HKZ2 := hidden (show ∀ W, IsK W (.agg #[.int .i64 0, .int .i64 0, .slice none 0 0, .bool false, .slice none 0 0, .slice none 0 0, .slice none 0 0]) out.1 from fun W => by rw [HE.out]; exact HKZ.out W)
    have HRX := HR2
    have HSX := HS2
    have HTX := HT2
    have HGX := HGW
    clear he
    go_wp2_with fail
    rw [← hX2]
    clear q2
    clear hX2
    have HX := hidden (fun Y (h : Only (fun k => k = w.heap.size) X2 Y) => show (Y.cell? ⟨w.heap.size + 1, 1, none⟩ = some (.int .i64 p) ∧ Y.cell? ⟨w.heap.size + 1, 2, none⟩ = some (.int .i64 st.e)) ∧ Y.cell? ⟨X1.heap.size, 0, none⟩ = some (.int .i64 sk.rows) ∧ Y.cell? ⟨X1.heap.size, 1, none⟩ = some (.int .i64 sk.nulls) ∧ Y.cell? ⟨X1.heap.size, 2, none⟩ = some (.slice A1 sk.hs.length u1) ∧ Y.cell? ⟨X1.heap.size, 3, none⟩ = some (.bool sk.ok) ∧ Y.cell? ⟨X1.heap.size, 4, none⟩ = some (.slice A2 sk.cm.length u2) ∧ Y.cell? ⟨X1.heap.size, 5, none⟩ = some (.slice A3 sk.fs.length u3) ∧ Y.cell? ⟨X1.heap.size, 6, none⟩ = some (.slice A4 sk.rk.length u4) from
      have e1 : w.heap.size + 1 ≠ w.heap.size := by omega
      have e2 : X1.heap.size ≠ w.heap.size := by have := HO1.out.size; have := HSZ.out; omega
      have r1 := h.row HRX.out e1
      have r2 := h.row HSX.out e2
      ⟨⟨r1.cell 1, r1.cell 2⟩, r2.cell 0, r2.cell 1, r2.cell 2, r2.cell 3, r2.cell 4, r2.cell 5, r2.cell 6⟩)
    have HIS := hidden (show IsSkR X2 w.heap.size from ⟨_, _, _, _, _, _, _, HTX.out⟩)
    letI : SteQ := skSte w.heap.size [(.int .i64 0), (.int .i64 0), (.slice none 0 0), (.bool false), (.slice none 0 0), (.slice none 0 0), (.slice none 0 0)]
    refine wp_region_looseX (tabX [(3, fun _ _ w' => Row w' w.heap.size 29 [(.int .i64 0), (.int .i64 0), (.slice none 0 0), (.bool false), (.slice none 0 0), (.slice none 0 0), (.slice none 0 0)])]) (by kernel_rfl) (by kernel_rfl) (tabX_cons (fun s v w w' hr ht => (show SkT _ _ _ _ from ht).done hr) tabX_nil) ?_
    iterate 3 ((with_reducible refine loose_oneX (v := ?_) (a' := ?_) ?_ ?_ (fun w' hC' hG' => ?_) ?_ ?_); rotate_left 2; (focus rfl); (focus rfl); (focus (obtain ⟨⟨y1, y2⟩, s0, s1, s2, s3, s4, s5, s6⟩ := HX.out w' (show SkT _ _ X2 w' from hC').only; clear hC' hG'; go_simp; rfl)); (focus (go_simp; rfl)))
    refine loose_storeX (R := fun _ _ w' => Row w' w.heap.size 29 [(.int .i64 0), (.int .i64 0), (.slice none 0 0), (.bool false), (.slice none 0 0), (.slice none 0 0), (.slice none 0 0)]) (by rfl) (by rfl) (fun w' hC' hG' => ?_) ?_
    · obtain ⟨r0, r1, r2, r3, r4, r5, r6, hrr⟩ := (show SkT _ _ X2 w' from hC').row HIS.out
      have hst := SkT.store (z0 := (.int .i64 0)) (z1 := (.int .i64 0)) (z2 := (.slice none 0 0)) (z3 := (.bool false)) (z4 := (.slice none 0 0)) (z5 := (.slice none 0 0)) (z6 := (.slice none 0 0)) hrr
      exact ⟨_, store_run_sk _ _ rfl w.heap.size (.int .i64 0) (.int .i64 0) (.slice none 0 0) (.bool false) (.slice none 0 0) (.slice none 0 0) (.slice none 0 0) rfl (by rfl) (by simp [Value.oneCell']) hrr, hst.1, hst.2⟩
    intro v8 _
    refine ⟨?_, ?_, ?_⟩
    rotate_left
    · go_simp
      rfl
    iterate 2 ((with_reducible refine loose_oneX (v := ?_) (a' := ?_) ?_ ?_ (fun w' hC' hG' => ?_) ?_ ?_); rotate_left 2; (focus rfl); (focus rfl); (focus (clear hC' hG'; go_simp; rfl)); (focus (go_simp; rfl)))
    refine loose_doneX (fun w9 hC' hG' => ?_)
    have HR9 := hidden ((hG' 3).2 rfl)
    have HO9 := hidden (show SkT _ _ X2 w9 from hC').only
    clear hC' hG'
    go_wp2_with fail
    refine bodyPost_ret (results_sk3 rfl _ _ _ _ _ _ _ _ _ _ _ _ rfl HR9.out rfl rfl) rfl ⟨.agg #[.int .i64 0, .int .i64 0, .slice none 0 0, .bool false, .slice none 0 0, .slice none 0 0, .slice none 0 0], ?_, HKZ2.out _, HO9.out.below HGX.out (fun i hi => by omega)⟩
    rw [HE.out]
    first | done | rfl
end Go.Proofs.YtoaklmceejeblaaGreat
