/-
  Texts that the claims of this seat share, put together (Sk2, Sk3, Sk4). No condition.
-/
import Derived.Test.YtoaklmceejeblaaGreatSk1
import Derived.Test.YtoaklmceejeblaaGreatM10
import Derived.Test.YtoaklmceejeblaaGreatM6
/-
  Shaken: what the claims of this seat need of this text. No condition.
-/
namespace Go.Proofs.YtoaklmceejeblaaGreat
set_option maxRecDepth 8000
open Go.RowKit
set_option linter.unusedVariables false
set_option linter.unusedSimpArgs false
def IsK (w : World) (v : Value) (s : Sk) : Prop := ∃ (A1 A2 A3 A4 : Option Addr) (c1 c2 c3 c4 : Nat), v = .agg #[.int .i64 s.rows, .int .i64 s.nulls, .slice A1 s.hs.length c1, .bool s.ok, .slice A2 s.cm.length c2, .slice A3 s.fs.length c3, .slice A4 s.rk.length c4] ∧ IsW w (.slice A1 s.hs.length c1) s.hs ∧ Reads w (.slice A2 s.cm.length c2) (icells s.cm) ∧ ReadsV w (.slice A3 s.fs.length c3) s.fs ∧ Reads w (.slice A4 s.rk.length c4) (icells s.rk)
theorem IsK.grow {w w' : World} {v : Value} {s : Sk} (h : IsK w v s) (hb : Grows w w') : IsK w' v s := by
  obtain ⟨A1, A2, A3, A4, c1, c2, c3, c4, h0, h1, h2, h3, h4⟩ := h
  exact ⟨A1, A2, A3, A4, c1, c2, c3, c4, h0, h1.grow hb, h2.grow hb, h3.grow hb, h4.grow hb⟩
theorem skrow_new (w : World) (a b c d e f g : Value) : Row (w.alloc (.cells #[a, b, c, d, e, f, g] 29)) w.heap.size 29 [a, b, c, d, e, f, g] := Row.new w 29 #[a, b, c, d, e, f, g] _ rfl
theorem const_loose16 {f : FuncId} {args : Array Value} {w : World} {u : Value} (h : Calls Tryz.prog f args w fun e w' => e = .returned u ∧ Grows w w') : Calls Tryz.prog f args w fun e w' => ∃ v, e = .returned v ∧ Grows w w' ∧ ConstV u v w' :=
  h.mono fun _ _ ⟨he, hw⟩ => ⟨_, he, hw, rfl⟩
theorem lessMaxF_drop {n : Int} {v f : Val} {b : Bool} {fs : List Val} {rk : List Int} {k : Nat} (hf : fs[k]? = some f) : lessMaxF n v b (fs.drop k) (rk.drop (2 * k)) = if 0 < cmpX f v ∨ (cmpX f v = 0 ∧ b = false) then (rk.drop (2 * k)).headD 0 else lessMaxF n v b (fs.drop (k + 1)) (rk.drop (2 * (k + 1))) := by
  obtain ⟨h1, h2⟩ := List.getElem?_eq_some_iff.1 hf
  rw [List.drop_eq_getElem_cons h1, h2, lessMaxF, List.drop_drop]
  rfl
theorem headD_drop {l : List Int} {i : Nat} (h : i < l.length) : (l.drop i).headD 0 = l[i] := by
  rw [List.drop_eq_getElem_cons h]
  rfl
def LmxRel (W : World) (n : Int) (v : Val) (b : Bool) (fs : List Val) (rk : List Int) (i : Value) (wr : World) : Prop :=
  ∃ k : Nat, k ≤ fs.length ∧ i = .int .i64 (k : Int) ∧ lessMaxF n v b fs rk = lessMaxF n v b (fs.drop k) (rk.drop (2 * k)) ∧ Grows W wr
def LmnRel (W : World) (v : Val) (b : Bool) (fs : List Val) (rk : List Int) (a i : Value) (wr : World) : Prop :=
  ∃ k : Nat, k ≤ fs.length ∧ i = .int .i64 (k : Int) ∧ a = .int .i64 (lessMinF v b 0 (fs.take k) rk) ∧ Grows W wr
set_option maxHeartbeats 4000000 in
theorem rLessMax_any (v : Value) (s : Sk) (x : Val) (b : Bool) (w : World) (hk : IsK w v s) (hl : s.fs.length ≤ 100000) (hr : s.rk.length = 2 * s.fs.length) (hn : -9223372036854775808 ≤ s.rows - s.nulls ∧ s.rows - s.nulls ≤ 9223372036854775807) :
    Calls Tryz.prog 57 #[v, .agg #[.int .i64 x.k, .int .i64 x.n, .string x.t], .bool b] w fun e w' => e = .returned (.int .i64 (lessMaxF (s.rows - s.nulls) x b s.fs s.rk)) ∧ Grows w w' := by
  obtain ⟨A1, A2, A3, A4, c1, c2, c3, c4, rfl, -, -, h3, h4⟩ := hk
  have HR3 := hidden h3
  have HR4 := hidden h4
  have HLR := hidden hr
  obtain ⟨W0, hW0⟩ : ∃ W, W = ((w.alloc (.cells #[.int .i64 s.rows, .int .i64 s.nulls, .slice A1 s.hs.length c1, .bool s.ok, .slice A2 s.cm.length c2, .slice A3 s.fs.length c3, .slice A4 s.rk.length c4] 29)).alloc (.cells #[.int .i64 x.k, .int .i64 x.n, .string x.t] 35)) := ⟨_, rfl⟩
  have HG0 := hidden (show Grows w W0 by rw [hW0]; exact (growK _ _).of_below (growK _ _))
  have HS0 := hidden (show Row W0 w.heap.size 29 [.int .i64 s.rows, .int .i64 s.nulls, .slice A1 s.hs.length c1, .bool s.ok, .slice A2 s.cm.length c2, .slice A3 s.fs.length c3, .slice A4 s.rk.length c4] by rw [hW0]; exact (skrow_new _ _ _ _ _ _ _ _).grow (growK _ _))
  have HX0 := hidden (show Row W0 (w.heap.size + 1) 35 [.int .i64 x.k, .int .i64 x.n, .string x.t] by
    rw [hW0]
    have h := Row.new (w.alloc (.cells #[.int .i64 s.rows, .int .i64 s.nulls, .slice A1 s.hs.length c1, .bool s.ok, .slice A2 s.cm.length c2, .slice A3 s.fs.length c3, .slice A4 s.rk.length c4] 29)) 35 #[.int .i64 x.k, .int .i64 x.n, .string x.t] [.int .i64 x.k, .int .i64 x.n, .string x.t] rfl
    have e : (w.alloc (.cells #[.int .i64 s.rows, .int .i64 s.nulls, .slice A1 s.hs.length c1, .bool s.ok, .slice A2 s.cm.length c2, .slice A3 s.fs.length c3, .slice A4 s.rk.length c4] 29)).heap.size = w.heap.size + 1 := by simp
    rwa [e] at h)
  have HV := hidden (fun W => rvalues_any s.rows s.nulls A1 A2 A3 A4 s.hs.length c1 s.cm.length c2 s.fs.length c3 s.rk.length c4 s.ok W hn)
  clear h3 h4 hr hn
  go_enter Tryz.func57, Tryz.ntmps57
  go_wp2_with fail
  rw [← hW0]
  clear hW0
  go_loopw [7] (fun i wr => LmxRel W0 (s.rows - s.nulls) x b s.fs s.rk i wr) (fun i _ => s.fs.length - (intOf i).toNat)
  case atStart => exact ⟨0, Nat.zero_le _, rfl, rfl, Below.refl _ _⟩
  case round =>
    obtain ⟨k, hk, rfl, hlm, hb⟩ := hrel
    have HB := hidden hb
    clear hb
    have q5 := (HS0.out.grow HB.out).cell 5
    simp only [List.getElem?_cons_succ, List.getElem?_cons_zero] at q5
    by_cases hlt : k < s.fs.length
    · obtain ⟨A', c', he, _, hcell⟩ := HR3.out.grow (HG0.out.of_below HB.out)
      injection he with e1 e2 e3
      subst e1 e3
      obtain ⟨bb, off, rfl, hcell2⟩ := hcell (by omega)
      obtain ⟨f, hf⟩ : ∃ f, s.fs[k]? = some f := ⟨_, List.getElem?_eq_getElem hlt⟩
      obtain ⟨k1, k2, k3⟩ := hcell2 k f hf
      have hd : decide (k < s.fs.length) = true := by simpa using hlt
      have hk0 : (0 : Int) ≤ (k : Int) := by omega
      have hk1 : (k : Int) < (s.fs.length : Int) := by omega
      have HX := hidden (fun X (h : Grows wr X) => (⟨((HS0.out.grow HB.out).grow h).cell 5, ((HS0.out.grow HB.out).grow h).cell 6, ((HX0.out.grow HB.out).grow h).cell 0, ((HX0.out.grow HB.out).grow h).cell 1, ((HX0.out.grow HB.out).grow h).cell 2, (h.cell (World.block_lt_of_cell? _ _ k1)).trans k1, (h.cell (World.block_lt_of_cell? _ _ k2)).trans k2, (h.cell (World.block_lt_of_cell? _ _ k3)).trans k3⟩ :
        X.cell? ⟨w.heap.size, 5, none⟩ = some (.slice (some ⟨bb, off, none⟩) s.fs.length c3) ∧ X.cell? ⟨w.heap.size, 6, none⟩ = some (.slice A4 s.rk.length c4) ∧ X.cell? ⟨w.heap.size + 1, 0, none⟩ = some (.int .i64 x.k) ∧ X.cell? ⟨w.heap.size + 1, 1, none⟩ = some (.int .i64 x.n) ∧ X.cell? ⟨w.heap.size + 1, 2, none⟩ = some (.string x.t) ∧ _ ∧ _ ∧ _))
      have HCM := hidden (fun W (h : Grows wr W) => const_loose16 (show Calls Tryz.prog 33 #[.agg #[.int .i64 f.k, .int .i64 f.n, .string f.t], .agg #[.int .i64 x.k, .int .i64 x.n, .string x.t]] W fun e w' => e = .returned (.int .i64 (cmpX f x)) ∧ Grows W w' from rcompare_any f.k f.n x.k x.n f.t x.t W))
      obtain ⟨cc, hcc⟩ : ∃ cc, cmpX f x = cc := ⟨_, rfl⟩
      rw [hcc] at HCM
      have HST := hidden (lessMaxF_drop (n := s.rows - s.nulls) (v := x) (b := b) (rk := s.rk) hf)
      rw [hcc] at HST
      have HLM := hidden hlm
      have HLT := hidden hlt
      clear hcell hcell2 e2 hf hcc k1 k2 k3 hlm
      go_wp2_with fail
      refine wp_region_loose (tabRs [(6, ConstV (.int .i64 cc))]) (by kernel_rfl) (by kernel_rfl) (tabRs_cons ConstV.lasts tabRs_nil) ?_
      iterate 6 ((with_reducible refine loose_one (v := ?_) (a' := ?_) ?_ ?_ (fun w' hC' hG' => ?_) ?_ ?_); rotate_left 2; (focus rfl); (focus rfl); (focus (obtain ⟨p5, p6, x0, x1, x2, k1, k2, k3⟩ := HX.out w' hC'; clear hC' hG'; go_simp; rfl)); (focus (go_simp; rfl)))
      refine loose_call (R := ConstV (.int .i64 cc)) (f := 33) (args := #[.agg #[.int .i64 f.k, .int .i64 f.n, .string f.t], .agg #[.int .i64 x.k, .int .i64 x.n, .string x.t]]) (by rfl) (by rfl) (fun _ => by go_simp) (fun w' hC' hG' => HCM.out w' hC') ?_
      rintro _ ⟨_, _, rfl⟩
      refine ⟨?_, ?_, ?_⟩
      rotate_left
      · go_simp
        rfl
      iterate 1 ((with_reducible refine loose_one (v := ?_) (a' := ?_) ?_ ?_ (fun w' hC' hG' => ?_) ?_ ?_); rotate_left 2; (focus rfl); (focus rfl); (focus (obtain ⟨p5, p6, x0, x1, x2, k1, k2, k3⟩ := HX.out w' hC'; clear hC' hG'; go_simp; rfl)); (focus (go_simp; rfl)))
      refine loose_done (fun w5 hC5 hG5 => ?_)
      have HB5 := hidden (HB.out.of_below hC5)
      have HG5 := hidden (HG0.out.of_below HB5.out)
      obtain ⟨p5, p6, -, -, -, -, -, -⟩ := HX.out w5 hC5
      clear hC5 hG5 q5 HX HCM
      have hri : 2 * k < s.rk.length := by have := HLR.out; have := HLT.out; omega
      obtain ⟨A'', c'', he, _, hcell⟩ := HR4.out.grow HG5.out
      injection he with e1 e2 e3
      subst e1 e3
      obtain ⟨b4, o4, rfl, hcell2⟩ := hcell (by rw [icells_length]; omega)
      have hck := hcell2 (2 * k) (by rw [icells_length]; exact hri)
      rw [icells_get hri] at hck
      obtain ⟨y, hy⟩ : ∃ y, y = s.rk[2 * k] := ⟨_, rfl⟩
      rw [← hy] at hck
      have HHD := hidden (show (s.rk.drop (2 * k)).headD 0 = y by rw [headD_drop hri, hy])
      have hi0 : (0 : Int) ≤ 2 * (k : Int) := by omega
      have hi1 : 2 * (k : Int) < (s.rk.length : Int) := by omega
      have hit : (2 * (k : Int)).toNat = 2 * k := by omega
      have hiw : wrap64 (2 * (k : Int)) = 2 * (k : Int) := by unfold wrap64; omega
      clear hcell hcell2 e2 hy hri
      rcases (show 0 < cc ∨ cc = 0 ∨ cc < 0 by omega) with h1 | h1 | h1
      · skip
        have HR := hidden (show lessMaxF (s.rows - s.nulls) x b s.fs s.rk = y by rw [HLM.out, HST.out, if_pos (.inl h1), HHD.out])
        have d1 : decide (0 < cc) = true := by simpa using h1
        have d2 : decide (cc < 0) = false := by simp; omega
        have d3 : (cc == 0) = false := by simp; omega
        clear h1
        go_wp2_with fail
        go_ret
        exact ⟨by rw [HR.out]; first | done | rfl, HG5.out⟩
      · subst h1
        cases b
        · skip
          have HR := hidden (show lessMaxF (s.rows - s.nulls) x false s.fs s.rk = y by rw [HLM.out, HST.out, if_pos (by simp), HHD.out])
          go_wp2_with fail
          go_ret
          exact ⟨by rw [HR.out]; first | done | rfl, HG5.out⟩
        · skip
          have HR := hidden (show lessMaxF (s.rows - s.nulls) x true s.fs s.rk = lessMaxF (s.rows - s.nulls) x true (s.fs.drop (k + 1)) (s.rk.drop (2 * (k + 1))) by rw [HLM.out, HST.out, if_neg (by simp)])
          go_wp2_with fail
          go_roundw
          case rel => exact ⟨k + 1, HLT.out, by go_num, HR.out, HB5.out⟩
          case measure => have := HLT.out; simp [intOf]; omega
      · skip
        have HR := hidden (show lessMaxF (s.rows - s.nulls) x b s.fs s.rk = lessMaxF (s.rows - s.nulls) x b (s.fs.drop (k + 1)) (s.rk.drop (2 * (k + 1))) by rw [HLM.out, HST.out, if_neg (by rintro (h | ⟨h, _⟩) <;> omega)])
        have d1 : decide (0 < cc) = false := by simp; omega
        have d2 : decide (cc < 0) = true := by simpa using h1
        have d3 : (cc == 0) = false := by simp; omega
        clear h1
        go_wp2_with fail
        go_roundw
        case rel => exact ⟨k + 1, HLT.out, by go_num, HR.out, HB5.out⟩
        case measure => have := HLT.out; simp [intOf]; omega
    · have hke : k = s.fs.length := by omega
      have hd : decide (k < s.fs.length) = false := by simpa using hlt
      have HR := hidden (show lessMaxF (s.rows - s.nulls) x b s.fs s.rk = s.rows - s.nulls by rw [hlm, hke, List.drop_length]; rfl)
      clear hlm hke hlt
      have z0 := (HS0.out.grow HB.out).cell 0
      have z1 := (HS0.out.grow HB.out).cell 1
      have z2 := (HS0.out.grow HB.out).cell 2
      have z3 := (HS0.out.grow HB.out).cell 3
      have z4 := (HS0.out.grow HB.out).cell 4
      have z6 := (HS0.out.grow HB.out).cell 6
      simp only [List.getElem?_cons_succ, List.getElem?_cons_zero] at z0 z1 z2 z3 z4 z6
      go_wp2_with (go_at_call 85; refine (HV.out _).mono ?_; rintro e w7 ⟨rfl, g7⟩; have HG7 := hidden ((HG0.out.of_below HB.out).of_below g7); clear g7)
      go_ret
      exact ⟨by rw [HR.out]; first | done | rfl, HG7.out⟩
set_option maxHeartbeats 4000000 in
theorem rLessMin_any (v : Value) (s : Sk) (x : Val) (b : Bool) (w : World) (hk : IsK w v s) (hl : s.fs.length ≤ 100000) (hr : s.rk.length = 2 * s.fs.length) :
    Calls Tryz.prog 58 #[v, .agg #[.int .i64 x.k, .int .i64 x.n, .string x.t], .bool b] w fun e w' => e = .returned (.int .i64 (lessMinF x b 0 s.fs s.rk)) ∧ Grows w w' := by
  obtain ⟨A1, A2, A3, A4, c1, c2, c3, c4, rfl, -, -, h3, h4⟩ := hk
  have HR3 := hidden h3
  have HR4 := hidden h4
  have HLR := hidden hr
  obtain ⟨W0, hW0⟩ : ∃ W, W = ((w.alloc (.cells #[.int .i64 s.rows, .int .i64 s.nulls, .slice A1 s.hs.length c1, .bool s.ok, .slice A2 s.cm.length c2, .slice A3 s.fs.length c3, .slice A4 s.rk.length c4] 29)).alloc (.cells #[.int .i64 x.k, .int .i64 x.n, .string x.t] 35)) := ⟨_, rfl⟩
  have HG0 := hidden (show Grows w W0 by rw [hW0]; exact (growK _ _).of_below (growK _ _))
  have HS0 := hidden (show Row W0 w.heap.size 29 [.int .i64 s.rows, .int .i64 s.nulls, .slice A1 s.hs.length c1, .bool s.ok, .slice A2 s.cm.length c2, .slice A3 s.fs.length c3, .slice A4 s.rk.length c4] by rw [hW0]; exact (skrow_new _ _ _ _ _ _ _ _).grow (growK _ _))
  have HX0 := hidden (show Row W0 (w.heap.size + 1) 35 [.int .i64 x.k, .int .i64 x.n, .string x.t] by
    rw [hW0]
    have h := Row.new (w.alloc (.cells #[.int .i64 s.rows, .int .i64 s.nulls, .slice A1 s.hs.length c1, .bool s.ok, .slice A2 s.cm.length c2, .slice A3 s.fs.length c3, .slice A4 s.rk.length c4] 29)) 35 #[.int .i64 x.k, .int .i64 x.n, .string x.t] [.int .i64 x.k, .int .i64 x.n, .string x.t] rfl
    have e : (w.alloc (.cells #[.int .i64 s.rows, .int .i64 s.nulls, .slice A1 s.hs.length c1, .bool s.ok, .slice A2 s.cm.length c2, .slice A3 s.fs.length c3, .slice A4 s.rk.length c4] 29)).heap.size = w.heap.size + 1 := by simp
    rwa [e] at h)
  clear h3 h4 hr
  go_enter Tryz.func58, Tryz.ntmps58
  go_wp2_with fail
  rw [← hW0]
  clear hW0
  go_loopw [7, 8] (fun a i wr => LmnRel W0 x b s.fs s.rk a i wr) (fun _ i _ => s.fs.length - (intOf i).toNat)
  case atStart => exact ⟨0, Nat.zero_le _, rfl, rfl, Below.refl _ _⟩
  case round =>
    obtain ⟨k, hk, rfl, rfl, hb⟩ := hrel
    have HB := hidden hb
    clear hb
    have q5 := (HS0.out.grow HB.out).cell 5
    simp only [List.getElem?_cons_succ, List.getElem?_cons_zero] at q5
    by_cases hlt : k < s.fs.length
    · obtain ⟨A', c', he, _, hcell⟩ := HR3.out.grow (HG0.out.of_below HB.out)
      injection he with e1 e2 e3
      subst e1 e3
      obtain ⟨bb, off, rfl, hcell2⟩ := hcell (by omega)
      obtain ⟨f, hf⟩ : ∃ f, s.fs[k]? = some f := ⟨_, List.getElem?_eq_getElem hlt⟩
      obtain ⟨k1, k2, k3⟩ := hcell2 k f hf
      have hd : decide (k < s.fs.length) = true := by simpa using hlt
      have hk0 : (0 : Int) ≤ (k : Int) := by omega
      have hk1 : (k : Int) < (s.fs.length : Int) := by omega
      have HX := hidden (fun X (h : Grows wr X) => (⟨((HS0.out.grow HB.out).grow h).cell 5, ((HS0.out.grow HB.out).grow h).cell 6, ((HX0.out.grow HB.out).grow h).cell 0, ((HX0.out.grow HB.out).grow h).cell 1, ((HX0.out.grow HB.out).grow h).cell 2, (h.cell (World.block_lt_of_cell? _ _ k1)).trans k1, (h.cell (World.block_lt_of_cell? _ _ k2)).trans k2, (h.cell (World.block_lt_of_cell? _ _ k3)).trans k3⟩ :
        X.cell? ⟨w.heap.size, 5, none⟩ = some (.slice (some ⟨bb, off, none⟩) s.fs.length c3) ∧ X.cell? ⟨w.heap.size, 6, none⟩ = some (.slice A4 s.rk.length c4) ∧ X.cell? ⟨w.heap.size + 1, 0, none⟩ = some (.int .i64 x.k) ∧ X.cell? ⟨w.heap.size + 1, 1, none⟩ = some (.int .i64 x.n) ∧ X.cell? ⟨w.heap.size + 1, 2, none⟩ = some (.string x.t) ∧ _ ∧ _ ∧ _))
      have HCM := hidden (fun W (h : Grows wr W) => const_loose16 (show Calls Tryz.prog 33 #[.agg #[.int .i64 f.k, .int .i64 f.n, .string f.t], .agg #[.int .i64 x.k, .int .i64 x.n, .string x.t]] W fun e w' => e = .returned (.int .i64 (cmpX f x)) ∧ Grows W w' from rcompare_any f.k f.n x.k x.n f.t x.t W))
      obtain ⟨cc, hcc⟩ : ∃ cc, cmpX f x = cc := ⟨_, rfl⟩
      rw [hcc] at HCM
      have HST := hidden (show lessMinF x b 0 (s.fs.take (k + 1)) s.rk = if cc < 0 ∨ (cc = 0 ∧ b = true) then (s.rk.drop (2 * k + 1)).headD 0 else lessMinF x b 0 (s.fs.take k) s.rk by
        rw [List.take_add_one, hf, ← hcc]
        show lessMinF x b 0 (s.fs.take k ++ [f]) s.rk = _
        rw [lessMinF_snoc, List.length_take, Nat.min_eq_left (by omega)])
      have HLT := hidden hlt
      clear hcell hcell2 e2 hf hcc k1 k2 k3
      go_wp2_with fail
      refine wp_region_loose (tabRs [(6, ConstV (.int .i64 cc))]) (by kernel_rfl) (by kernel_rfl) (tabRs_cons ConstV.lasts tabRs_nil) ?_
      iterate 6 ((with_reducible refine loose_one (v := ?_) (a' := ?_) ?_ ?_ (fun w' hC' hG' => ?_) ?_ ?_); rotate_left 2; (focus rfl); (focus rfl); (focus (obtain ⟨p5, p6, x0, x1, x2, k1, k2, k3⟩ := HX.out w' hC'; clear hC' hG'; go_simp; rfl)); (focus (go_simp; rfl)))
      refine loose_call (R := ConstV (.int .i64 cc)) (f := 33) (args := #[.agg #[.int .i64 f.k, .int .i64 f.n, .string f.t], .agg #[.int .i64 x.k, .int .i64 x.n, .string x.t]]) (by rfl) (by rfl) (fun _ => by go_simp) (fun w' hC' hG' => HCM.out w' hC') ?_
      rintro _ ⟨_, _, rfl⟩
      refine ⟨?_, ?_, ?_⟩
      rotate_left
      · go_simp
        rfl
      iterate 1 ((with_reducible refine loose_one (v := ?_) (a' := ?_) ?_ ?_ (fun w' hC' hG' => ?_) ?_ ?_); rotate_left 2; (focus rfl); (focus rfl); (focus (obtain ⟨p5, p6, x0, x1, x2, k1, k2, k3⟩ := HX.out w' hC'; clear hC' hG'; go_simp; rfl)); (focus (go_simp; rfl)))
      refine loose_done (fun w5 hC5 hG5 => ?_)
      have HB5 := hidden (HB.out.of_below hC5)
      have HG5 := hidden (HG0.out.of_below HB5.out)
      obtain ⟨p5, p6, -, -, -, -, -, -⟩ := HX.out w5 hC5
      clear hC5 hG5 q5 HX HCM
      have hri : 2 * k + 1 < s.rk.length := by have := HLR.out; have := HLT.out; omega
      obtain ⟨A'', c'', he, _, hcell⟩ := HR4.out.grow HG5.out
      injection he with e1 e2 e3
      subst e1 e3
      obtain ⟨b4, o4, rfl, hcell2⟩ := hcell (by rw [icells_length]; omega)
      have hck := hcell2 (2 * k + 1) (by rw [icells_length]; exact hri)
      rw [icells_get hri] at hck
      obtain ⟨y, hy⟩ : ∃ y, y = s.rk[2 * k + 1] := ⟨_, rfl⟩
      rw [← hy] at hck
      have HHD := hidden (show (s.rk.drop (2 * k + 1)).headD 0 = y by rw [headD_drop hri, hy])
      have hi0 : (0 : Int) ≤ 2 * (k : Int) + 1 := by omega
      have hi1 : 2 * (k : Int) + 1 < (s.rk.length : Int) := by omega
      have hit : (2 * (k : Int) + 1).toNat = 2 * k + 1 := by omega
      have hiw : wrap64 (2 * (k : Int)) = 2 * (k : Int) := by unfold wrap64; omega
      clear hcell hcell2 e2 hy hri
      rcases (show 0 < cc ∨ cc = 0 ∨ cc < 0 by omega) with h1 | h1 | h1
      · skip
        have HR := hidden (show lessMinF x b 0 (s.fs.take (k + 1)) s.rk = lessMinF x b 0 (s.fs.take k) s.rk by rw [HST.out, if_neg (by rintro (h | ⟨h, _⟩) <;> omega)])
        have d1 : decide (0 < cc) = true := by simpa using h1
        have d2 : decide (cc < 0) = false := by simp; omega
        have d3 : (cc == 0) = false := by simp; omega
        clear h1
        go_wp2_with fail
        go_roundw
        case rel => exact ⟨k + 1, HLT.out, by go_num, by rw [HR.out]; first | done | rfl, HB5.out⟩
        case measure => have := HLT.out; simp [intOf]; omega
      · subst h1
        cases b
        · skip
          have HR := hidden (show lessMinF x false 0 (s.fs.take (k + 1)) s.rk = lessMinF x false 0 (s.fs.take k) s.rk by rw [HST.out, if_neg (by simp)])
          go_wp2_with fail
          go_roundw
          case rel => exact ⟨k + 1, HLT.out, by go_num, by rw [HR.out]; first | done | rfl, HB5.out⟩
          case measure => have := HLT.out; simp [intOf]; omega
        · skip
          have HR := hidden (show lessMinF x true 0 (s.fs.take (k + 1)) s.rk = y by rw [HST.out, if_pos (by simp), HHD.out])
          go_wp2_with fail
          go_roundw
          case rel => exact ⟨k + 1, HLT.out, by go_num, by rw [HR.out]; first | done | rfl, HB5.out⟩
          case measure => have := HLT.out; simp [intOf]; omega
      · skip
        have HR := hidden (show lessMinF x b 0 (s.fs.take (k + 1)) s.rk = y by rw [HST.out, if_pos (.inl h1), HHD.out])
        have d1 : decide (0 < cc) = false := by simp; omega
        have d2 : decide (cc < 0) = true := by simpa using h1
        have d3 : (cc == 0) = false := by simp; omega
        clear h1
        go_wp2_with fail
        go_roundw
        case rel => exact ⟨k + 1, HLT.out, by go_num, by rw [HR.out]; first | done | rfl, HB5.out⟩
        case measure => have := HLT.out; simp [intOf]; omega
    · have hke : k = s.fs.length := by omega
      have hd : decide (k < s.fs.length) = false := by simpa using hlt
      have HR := hidden (show lessMinF x b 0 (s.fs.take k) s.rk = lessMinF x b 0 s.fs s.rk by rw [hke, List.take_length])
      clear hke hlt
      go_wp2_with fail
      go_ret
      exact ⟨by rw [HR.out]; first | done | rfl, HG0.out.of_below HB.out⟩
end Go.Proofs.YtoaklmceejeblaaGreat
/-
  Shaken: what the claims of this seat need of this text. No condition.
-/
namespace Go.Proofs.YtoaklmceejeblaaGreat
set_option maxRecDepth 8000
open Go.RowKit
set_option linter.unusedVariables false
set_option linter.unusedSimpArgs false
theorem readsV_one (W : World) (x : Val) : ReadsV (W.alloc (.cells #[.int .i64 x.k, .int .i64 x.n, .string x.t] 35)) (.slice (some ⟨W.heap.size, 0, none⟩) 1 1) [x] := by
  have hr := Row.new W 35 #[.int .i64 x.k, .int .i64 x.n, .string x.t] [.int .i64 x.k, .int .i64 x.n, .string x.t] rfl
  refine ⟨_, 1, rfl, by simp, fun _ => ⟨W.heap.size, 0, rfl, fun j y hj => ?_⟩⟩
  have hj0 : j = 0 := by
    rcases Nat.lt_or_ge j 1 with h | h
    · omega
    · rw [List.getElem?_eq_none (by simpa using h)] at hj; cases hj
  subst hj0
  have hy : x = y := by simpa using hj
  subst hy
  exact ⟨hr.cell 0, hr.cell 1, hr.cell 2⟩
def cellN (r : Nat) (x : Val) : Nat := 64 * r + hashR (mix (4 + r)) [x] % 64
set_option maxHeartbeats 2000000 in
theorem rCell_any (r : Nat) (x : Val) (w : World) (hr : r ≤ 3) (hv : validV x.k x.n x.t = true) :
    Calls Tryz.prog 54 #[.int .i64 (r : Int), .agg #[.int .i64 x.k, .int .i64 x.n, .string x.t]] w fun e w' => e = .returned (.int .i64 (cellN r x : Int)) ∧ Grows w w' := by
  have HG := hidden ((growK w (.cells #[.int .i64 x.k, .int .i64 x.n, .string x.t] 35)).of_below (growK _ (.cells #[.int .i64 x.k, .int .i64 x.n, .string x.t] 35)))
  have HRV := hidden (show ReadsV ((w.alloc (.cells #[.int .i64 x.k, .int .i64 x.n, .string x.t] 35)).alloc (.cells #[.int .i64 x.k, .int .i64 x.n, .string x.t] 35)) (.slice (some ⟨w.heap.size + 1, 0, none⟩) 1 1) [x] by
    have h := readsV_one (w.alloc (.cells #[.int .i64 x.k, .int .i64 x.n, .string x.t] 35)) x
    have e : (w.alloc (.cells #[.int .i64 x.k, .int .i64 x.n, .string x.t] 35)).heap.size = w.heap.size + 1 := by simp
    rwa [e] at h)
  have HH := hidden (fun (s : Nat) W v (hs : s < 18446744073709551616) (hr : ReadsV W v [x]) => rhashv_any s v [x] W hs hr (by simp) (by simp [validL, hv]))
  have HLT := hidden (fun (s : Nat) => hashR_lt (mix s) mix_lt [x])
  clear hv
  have hrr : r = 0 ∨ r = 1 ∨ r = 2 ∨ r = 3 := by omega
  clear hr
  rcases hrr with rfl | rfl | rfl | rfl
  · have HC := hidden (show 64 * 0 + hashR (mix 4) [x] % 64 = cellN 0 x from rfl)
    have HM := hidden (show Nat.mod (hashR (mix 4) [x]) 64 < 64 from Nat.mod_lt _ (by decide))
    go_enter Tryz.func54, Tryz.ntmps54
    go_wp2_with fail
    refine (HH.out 4 _ _ (by decide) HRV.out).mono ?_
    rintro e w2 ⟨rfl, g2⟩
    have HG2 := hidden (HG.out.of_below g2)
    clear g2
    obtain ⟨hh, hhe⟩ : ∃ hh, hh = hashR (mix 4) [x] := ⟨_, rfl⟩
    have hhl : hh < 18446744073709551616 := by rw [hhe]; exact HLT.out 4
    rw [← hhe] at HC
    rw [← hhe]
    clear hhe
    go_wp2_with fail
    go_ret
    refine ⟨?_, HG2.out⟩
    rw [← HC.out]
    have e : ((64 * 0 + hh % 64 : Nat) : Int) = (hh : Int) % 64 := by omega
    rw [e]
    rfl
  · have HC := hidden (show 64 * 1 + hashR (mix 5) [x] % 64 = cellN 1 x from rfl)
    have HM := hidden (show Nat.mod (hashR (mix 5) [x]) 64 < 64 from Nat.mod_lt _ (by decide))
    go_enter Tryz.func54, Tryz.ntmps54
    go_wp2_with fail
    refine (HH.out 5 _ _ (by decide) HRV.out).mono ?_
    rintro e w2 ⟨rfl, g2⟩
    have HG2 := hidden (HG.out.of_below g2)
    clear g2
    obtain ⟨hh, hhe⟩ : ∃ hh, hh = hashR (mix 5) [x] := ⟨_, rfl⟩
    have hhl : hh < 18446744073709551616 := by rw [hhe]; exact HLT.out 5
    rw [← hhe] at HC
    rw [← hhe]
    clear hhe
    go_wp2_with fail
    go_ret
    refine ⟨?_, HG2.out⟩
    rw [← HC.out]
    have e : ((64 * 1 + hh % 64 : Nat) : Int) = 64 + (hh : Int) % 64 := by omega
    rw [e]
    rfl
  · have HC := hidden (show 64 * 2 + hashR (mix 6) [x] % 64 = cellN 2 x from rfl)
    have HM := hidden (show Nat.mod (hashR (mix 6) [x]) 64 < 64 from Nat.mod_lt _ (by decide))
    go_enter Tryz.func54, Tryz.ntmps54
    go_wp2_with fail
    refine (HH.out 6 _ _ (by decide) HRV.out).mono ?_
    rintro e w2 ⟨rfl, g2⟩
    have HG2 := hidden (HG.out.of_below g2)
    clear g2
    obtain ⟨hh, hhe⟩ : ∃ hh, hh = hashR (mix 6) [x] := ⟨_, rfl⟩
    have hhl : hh < 18446744073709551616 := by rw [hhe]; exact HLT.out 6
    rw [← hhe] at HC
    rw [← hhe]
    clear hhe
    go_wp2_with fail
    go_ret
    refine ⟨?_, HG2.out⟩
    rw [← HC.out]
    have e : ((64 * 2 + hh % 64 : Nat) : Int) = 128 + (hh : Int) % 64 := by omega
    rw [e]
    rfl
  · have HC := hidden (show 64 * 3 + hashR (mix 7) [x] % 64 = cellN 3 x from rfl)
    have HM := hidden (show Nat.mod (hashR (mix 7) [x]) 64 < 64 from Nat.mod_lt _ (by decide))
    go_enter Tryz.func54, Tryz.ntmps54
    go_wp2_with fail
    refine (HH.out 7 _ _ (by decide) HRV.out).mono ?_
    rintro e w2 ⟨rfl, g2⟩
    have HG2 := hidden (HG.out.of_below g2)
    clear g2
    obtain ⟨hh, hhe⟩ : ∃ hh, hh = hashR (mix 7) [x] := ⟨_, rfl⟩
    have hhl : hh < 18446744073709551616 := by rw [hhe]; exact HLT.out 7
    rw [← hhe] at HC
    rw [← hhe]
    clear hhe
    go_wp2_with fail
    go_ret
    refine ⟨?_, HG2.out⟩
    rw [← HC.out]
    have e : ((64 * 3 + hh % 64 : Nat) : Int) = 192 + (hh : Int) % 64 := by omega
    rw [e]
    rfl
theorem size_bounds : (Tryz.prog.info? 40).map (·.size) = some 2 := by kernel_rfl
theorem rspan_any (a b : Int) (w : World) : Calls Tryz.prog 80 #[.int .i64 a, .int .i64 b] w fun e w' => e = .returned (.agg #[.int .i64 a, .int .i64 b]) ∧ Grows w w' := by
  go_enter Tryz.func80, Tryz.ntmps80
  go_wp2_with fail
  exact bodyPost_ret (results_cell_row rfl _ _ w.heap.size 40 #[.int .i64 a, .int .i64 b] (0, 0) _ rfl (Row.new w 40 #[.int .i64 a, .int .i64 b] _ rfl) Tryz.underlying40 rfl size_bounds) rfl ⟨rfl, growK _ _⟩
def HsdRel (W : World) (h : Nat) (l : List Nat) (i : Value) (wr : World) : Prop := ∃ k : Nat, k ≤ l.length ∧ i = .int .i64 (k : Int) ∧ ¬ h ∈ l.take k ∧ Grows W wr
set_option maxHeartbeats 4000000 in
theorem rhashed_any (v : Value) (s : Sk) (x : Val) (w : World) (hk : IsK w v s) (hl : s.hs.length ≤ 100000) (hv : validV x.k x.n x.t = true) :
    Calls Tryz.prog 79 #[v, .agg #[.int .i64 x.k, .int .i64 x.n, .string x.t]] w fun e w' => e = .returned (.bool (decide (hashR (mix 3) [x] ∈ s.hs))) ∧ Grows w w' := by
  obtain ⟨A1, A2, A3, A4, c1, c2, c3, c4, rfl, h1, -, -, -⟩ := hk
  have HR1 := hidden h1
  have HG0 := hidden (show Grows w (((w.alloc (.cells #[.int .i64 s.rows, .int .i64 s.nulls, .slice A1 s.hs.length c1, .bool s.ok, .slice A2 s.cm.length c2, .slice A3 s.fs.length c3, .slice A4 s.rk.length c4] 29)).alloc (.cells #[.int .i64 x.k, .int .i64 x.n, .string x.t] 35)).alloc (.cells #[.int .i64 x.k, .int .i64 x.n, .string x.t] 35)) from ((growK _ _).of_below (growK _ _)).of_below (growK _ _))
  have HS0 := hidden (show Row (((w.alloc (.cells #[.int .i64 s.rows, .int .i64 s.nulls, .slice A1 s.hs.length c1, .bool s.ok, .slice A2 s.cm.length c2, .slice A3 s.fs.length c3, .slice A4 s.rk.length c4] 29)).alloc (.cells #[.int .i64 x.k, .int .i64 x.n, .string x.t] 35)).alloc (.cells #[.int .i64 x.k, .int .i64 x.n, .string x.t] 35)) w.heap.size 29 [.int .i64 s.rows, .int .i64 s.nulls, .slice A1 s.hs.length c1, .bool s.ok, .slice A2 s.cm.length c2, .slice A3 s.fs.length c3, .slice A4 s.rk.length c4] from ((skrow_new _ _ _ _ _ _ _ _).grow (growK _ _)).grow (growK _ _))
  have HRV := hidden (show ReadsV (((w.alloc (.cells #[.int .i64 s.rows, .int .i64 s.nulls, .slice A1 s.hs.length c1, .bool s.ok, .slice A2 s.cm.length c2, .slice A3 s.fs.length c3, .slice A4 s.rk.length c4] 29)).alloc (.cells #[.int .i64 x.k, .int .i64 x.n, .string x.t] 35)).alloc (.cells #[.int .i64 x.k, .int .i64 x.n, .string x.t] 35)) (.slice (some ⟨w.heap.size + 1 + 1, 0, none⟩) 1 1) [x] by
    have h := readsV_one ((w.alloc (.cells #[.int .i64 s.rows, .int .i64 s.nulls, .slice A1 s.hs.length c1, .bool s.ok, .slice A2 s.cm.length c2, .slice A3 s.fs.length c3, .slice A4 s.rk.length c4] 29)).alloc (.cells #[.int .i64 x.k, .int .i64 x.n, .string x.t] 35)) x
    have e : ((w.alloc (.cells #[.int .i64 s.rows, .int .i64 s.nulls, .slice A1 s.hs.length c1, .bool s.ok, .slice A2 s.cm.length c2, .slice A3 s.fs.length c3, .slice A4 s.rk.length c4] 29)).alloc (.cells #[.int .i64 x.k, .int .i64 x.n, .string x.t] 35)).heap.size = w.heap.size + 1 + 1 := by simp
    rwa [e] at h)
  have HH := hidden (fun W v (hr : ReadsV W v [x]) => rhashv_any 3 v [x] W (by decide) hr (by simp) (by simp [validL, hv]))
  obtain ⟨h, hhe⟩ : ∃ h, h = hashR (mix 3) [x] := ⟨_, rfl⟩
  rw [← hhe] at HH
  rw [← hhe]
  clear h1 hv hhe
  go_enter Tryz.func79, Tryz.ntmps79
  go_wp2_with fail
  refine (HH.out _ _ HRV.out).mono ?_
  rintro e W2 ⟨rfl, g2⟩
  have HG2 := hidden (HG0.out.of_below g2)
  have HS2 := hidden (HS0.out.grow g2)
  clear g2 HG0 HS0 HRV HH
  go_wp2_with fail
  go_loopw [6] (fun i wr => HsdRel W2 h s.hs i wr) (fun i _ => s.hs.length - (intOf i).toNat)
  case atStart => exact ⟨0, Nat.zero_le _, rfl, by simp, Below.refl _ _⟩
  case round =>
    obtain ⟨k, hk, rfl, hni, hb⟩ := hrel
    have HB := hidden hb
    have HNI := hidden hni
    clear hb hni
    have q2 := (HS2.out.grow HB.out).cell 2
    simp only [List.getElem?_cons_succ, List.getElem?_cons_zero] at q2
    by_cases hlt : k < s.hs.length
    · obtain ⟨b, off, rfl, hck⟩ := IsW.at_ (HR1.out.grow (HG2.out.of_below HB.out)) hlt
      obtain ⟨y, hy⟩ : ∃ y, y = s.hs[k] := ⟨_, rfl⟩
      rw [← hy] at hck
      have hd : decide (k < s.hs.length) = true := by simpa using hlt
      have hk0 : (0 : Int) ≤ (k : Int) := by omega
      have hk1 : (k : Int) < (s.hs.length : Int) := by omega
      have HTK := hidden (show s.hs.take (k + 1) = s.hs.take k ++ [y] by rw [List.take_add_one, List.getElem?_eq_getElem hlt, hy]; rfl)
      have HMM := hidden (show y ∈ s.hs by rw [hy]; exact List.getElem_mem hlt)
      have HLT := hidden hlt
      clear hy hlt
      by_cases he : y = h
      · subst he
        have HD := hidden (show decide (y ∈ s.hs) = true by simpa using HMM.out)
        go_wp2_with fail
        go_ret
        exact ⟨by rw [HD.out]; first | done | rfl, HG2.out.of_below HB.out⟩
      · have d1 : (y == h) = false := by simpa using he
        have HN := hidden (show ¬ h ∈ s.hs.take (k + 1) by rw [HTK.out]; simp only [List.mem_append, List.mem_singleton]; rintro (h1 | h1); exact HNI.out h1; exact he h1.symm)
        clear he
        go_wp2_with fail
        go_roundw
        case rel => exact ⟨k + 1, HLT.out, by go_num, HN.out, HB.out⟩
        case measure => have := HLT.out; simp [intOf]; omega
    · have hke : k = s.hs.length := by omega
      have hd : decide (k < s.hs.length) = false := by simpa using hlt
      have HD := hidden (show decide (h ∈ s.hs) = false by have := HNI.out; rw [hke, List.take_length] at this; simpa using this)
      clear hke hlt
      go_wp2_with fail
      go_ret
      exact ⟨by rw [HD.out]; first | done | rfl, HG2.out.of_below HB.out⟩
end Go.Proofs.YtoaklmceejeblaaGreat
/-
  Shaken: what the claims of this seat need of this text. No condition.
-/
namespace Go.Proofs.YtoaklmceejeblaaGreat
set_option maxRecDepth 8000
open Go.RowKit
set_option linter.unusedVariables false
set_option linter.unusedSimpArgs false
def incP (l : List Nat) : Prop := ∀ i, i + 1 < l.length → l.getD i 0 < l.getD (i + 1) 0
def validHP (n : Int) (hs : List Nat) (ok : Bool) : Prop := hs.length ≤ 32 ∧ (hs.length : Int) ≤ n ∧ (0 < n → hs.length ≠ 0) ∧ (ok = true ∨ hs.length = 32) ∧ incP hs
open Classical in
noncomputable def validHB (n : Int) (hs : List Nat) (ok : Bool) : Bool := decide (validHP n hs ok)
theorem validHB_t {n : Int} {hs : List Nat} {ok : Bool} (h : validHP n hs ok) : validHB n hs ok = true := by unfold validHB; simpa using h
theorem validHB_f {n : Int} {hs : List Nat} {ok : Bool} (h : ¬ validHP n hs ok) : validHB n hs ok = false := by unfold validHB; simpa using h
theorem validHB_iff {n : Int} {hs : List Nat} {ok : Bool} : validHB n hs ok = true ↔ validHP n hs ok := by unfold validHB; simp
def VhRel (W : World) (l : List Nat) (i : Value) (wr : World) : Prop := ∃ m : Nat, (m + 1 ≤ l.length ∨ m = 0) ∧ i = .int .i64 ((m : Int) + 1) ∧ (∀ j, j < m → l.getD j 0 < l.getD (j + 1) 0) ∧ Grows W wr
set_option maxHeartbeats 4000000 in
theorem rvalidHashes_any (v : Value) (s : Sk) (w : World) (hk : IsK w v s) (hl : s.hs.length ≤ 4611686018427387903) (hn : 0 ≤ s.rows - s.nulls ∧ s.rows - s.nulls ≤ 9223372036854775807) :
    Calls Tryz.prog 72 #[v] w fun e w' => e = .returned (.bool (validHB (s.rows - s.nulls) s.hs s.ok)) ∧ Grows w w' := by
  obtain ⟨A1, A2, A3, A4, c1, c2, c3, c4, rfl, h1, -, -, -⟩ := hk
  have HR1 := hidden h1
  have HG0 := hidden (growK w (.cells #[.int .i64 s.rows, .int .i64 s.nulls, .slice A1 s.hs.length c1, .bool s.ok, .slice A2 s.cm.length c2, .slice A3 s.fs.length c3, .slice A4 s.rk.length c4] 29))
  have HS0 := hidden (skrow_new w (.int .i64 s.rows) (.int .i64 s.nulls) (.slice A1 s.hs.length c1) (.bool s.ok) (.slice A2 s.cm.length c2) (.slice A3 s.fs.length c3) (.slice A4 s.rk.length c4))
  have HV := hidden (fun W => rvalues_any s.rows s.nulls A1 A2 A3 A4 s.hs.length c1 s.cm.length c2 s.fs.length c3 s.rk.length c4 s.ok W ⟨by omega, hn.2⟩)
  clear h1
  obtain ⟨r, n0, hs, ok, cm, fs, rk⟩ := s
  simp only [] at *
  obtain ⟨n, hnn⟩ : ∃ n, n = r - n0 := ⟨_, rfl⟩
  rw [← hnn] at HV hn
  rw [← hnn]
  obtain ⟨hn1, hn2⟩ := hn
  clear hnn
  by_cases h1 : 32 < hs.length
  · have d1 : decide (32 < (hs.length : Int)) = true := by simp; omega
    have HF := hidden (validHB_f (n := n) (hs := hs) (ok := ok) (fun h => absurd h.1 (by omega)))
    clear hn1 hn2 HR1
    go_enter Tryz.func72, Tryz.ntmps72
    go_wp2_with (go_at_call 85; refine (HV.out _).mono ?_; rintro e w2 ⟨rfl, g2⟩; have HG2 := hidden (HG0.out.of_below g2); have HS2 := hidden (HS0.out.grow g2); clear g2; have q2 := HS2.out.cell 2; have q3 := HS2.out.cell 3; simp only [List.getElem?_cons_succ, List.getElem?_cons_zero] at q2 q3)
    go_ret
    exact ⟨by rw [HF.out]; first | done | rfl, HG2.out⟩
  have d1 : decide (32 < (hs.length : Int)) = false := by simp; omega
  by_cases h2 : n < (hs.length : Int)
  · have d2 : decide (n < (hs.length : Int)) = true := by simpa using h2
    have HF := hidden (validHB_f (n := n) (hs := hs) (ok := ok) (fun h => absurd h.2.1 (by omega)))
    clear hn1 hn2 HR1
    go_enter Tryz.func72, Tryz.ntmps72
    go_wp2_with (go_at_call 85; refine (HV.out _).mono ?_; rintro e w2 ⟨rfl, g2⟩; have HG2 := hidden (HG0.out.of_below g2); have HS2 := hidden (HS0.out.grow g2); clear g2; have q2 := HS2.out.cell 2; have q3 := HS2.out.cell 3; simp only [List.getElem?_cons_succ, List.getElem?_cons_zero] at q2 q3)
    go_ret
    exact ⟨by rw [HF.out]; first | done | rfl, HG2.out⟩
  have d2 : decide (n < (hs.length : Int)) = false := by simpa using h2
  by_cases h3 : 0 < n
  · have d3 : decide (0 < n) = true := by simpa using h3
    have d3b : 0 < n := h3
    by_cases h4 : hs.length = 0
    · have d4 : (hs.length == 0) = true := by simpa using h4
      have d4b : decide (hs.length = 0) = true := by simpa using h4
      have d4c : ((hs.length : Int) == 0) = true := by rw [h4]; rfl
      have d4d : hs.isEmpty = true := by rw [List.length_eq_zero_iff.1 h4]; rfl
      have HF := hidden (validHB_f (n := n) (hs := hs) (ok := ok) (fun h => absurd (h.2.2.1 h3) (by omega)))
      clear h4 hn1 hn2 HR1
      go_enter Tryz.func72, Tryz.ntmps72
      go_wp2_with (go_at_call 85; refine (HV.out _).mono ?_; rintro e w2 ⟨rfl, g2⟩; have HG2 := hidden (HG0.out.of_below g2); have HS2 := hidden (HS0.out.grow g2); clear g2; have q2 := HS2.out.cell 2; have q3 := HS2.out.cell 3; simp only [List.getElem?_cons_succ, List.getElem?_cons_zero] at q2 q3)
      go_ret
      exact ⟨by rw [HF.out]; first | done | rfl, HG2.out⟩
    have d4 : (hs.length == 0) = false := by simpa using h4
    have d4b : decide (hs.length = 0) = false := by simpa using h4
    have d4c : ((hs.length : Int) == 0) = false := beq_eq_false_iff_ne.2 (by omega)
    have d4d : hs.isEmpty = false := by cases hs; exact absurd rfl h4; rfl
    have d4e : ¬ hs = [] := fun h => h4 (by rw [h]; rfl)
    cases ok
    · by_cases h5 : hs.length = 32
      · have d5 : (hs.length == 32) = true := by simpa using h5
        have d5b : ((hs.length : Int) == 32) = true := by simp; omega
        have d5c : ((hs.length : Int) != 32) = false := by simp; omega
        have HVT := hidden (fun (hi : incP hs) => validHB_t (n := n) (hs := hs) (ok := false) ⟨by omega, by omega, fun h => by omega, .inr h5, hi⟩)
        have HVF := hidden (fun (hi : ¬ incP hs) => validHB_f (n := n) (hs := hs) (ok := false) (fun h => hi h.2.2.2.2))
        have HL32 := hidden (show hs.length ≤ 32 by omega)
        clear h1 h2 h3 h4 h5 hn1 hn2
        go_enter Tryz.func72, Tryz.ntmps72
        go_wp2_with (go_at_call 85; refine (HV.out _).mono ?_; rintro e w2 ⟨rfl, g2⟩; have HG2 := hidden (HG0.out.of_below g2); have HS2 := hidden (HS0.out.grow g2); clear g2; have q2 := HS2.out.cell 2; have q3 := HS2.out.cell 3; simp only [List.getElem?_cons_succ, List.getElem?_cons_zero] at q2 q3)
        clear d1 d2 d3 d3b d4 d4b d4c d4d d4e d5 d5b d5c
        go_loopw [4] (fun i wr => VhRel w2 hs i wr) (fun i _ => hs.length - (intOf i).toNat)
        case atStart => exact ⟨0, .inr rfl, rfl, fun j hj => by omega, Below.refl _ _⟩
        case round =>
          obtain ⟨m, hm, rfl, hinc, hb⟩ := hrel
          have HB := hidden hb
          have HIN := hidden hinc
          have HM := hidden hm
          have HLE := HL32.out
          clear hb hinc hm q2 q3
          have q2 := (HS2.out.grow HB.out).cell 2
          simp only [List.getElem?_cons_succ, List.getElem?_cons_zero] at q2
          by_cases hlt : m + 1 < hs.length
          · obtain ⟨b, off, hA, hcy⟩ := IsW.at_ (HR1.out.grow (HG2.out.of_below HB.out)) hlt
            obtain ⟨b', off', hA', hcz⟩ := IsW.at_ (HR1.out.grow (HG2.out.of_below HB.out)) (show m < hs.length by omega)
            subst hA
            injection hA' with hA'
            injection hA' with e1 e2
            subst e1 e2
            obtain ⟨y, hy⟩ : ∃ y, y = hs[m + 1] := ⟨_, rfl⟩
            obtain ⟨z, hz⟩ : ∃ z, z = hs[m]'(by omega) := ⟨_, rfl⟩
            rw [← hy] at hcy
            rw [← hz] at hcz
            have hd : decide ((m : Int) + 1 < (hs.length : Int)) = true := by simp; omega
            have hm0 : (0 : Int) ≤ (m : Int) + 1 := by omega
            have hm1 : (m : Int) + 1 < (hs.length : Int) := by omega
            have hm2 : (m : Int) < (hs.length : Int) := by omega
            have hm3 : (0 : Int) ≤ (m : Int) := by omega
            have hmt : ((m : Int) + 1).toNat = m + 1 := by omega
            have hmw : IntKind.i64.wrap (m : Int) = (m : Int) := by rw [IntKind.wrap_i64]; omega
            have HY := hidden (show hs.getD (m + 1) 0 = y by rw [hy, List.getD_eq_getElem?_getD, List.getElem?_eq_getElem hlt]; rfl)
            have HZ := hidden (show hs.getD m 0 = z by rw [hz, List.getD_eq_getElem?_getD, List.getElem?_eq_getElem (by omega)]; rfl)
            have HLT := hidden hlt
            have HX := hidden (fun X (h : Grows wr X) => (⟨((HS2.out.grow HB.out).grow h).cell 2, (h.cell (World.block_lt_of_cell? _ _ hcy)).trans hcy, (h.cell (World.block_lt_of_cell? _ _ hcz)).trans hcz⟩ : X.cell? ⟨w.heap.size, 2, none⟩ = some (.slice (some ⟨b, off, none⟩) hs.length c1) ∧ _ ∧ _))
            clear hy hz hcy hcz hlt
            go_wp2_with fail
            refine wp_region_loose (tabRs []) (by kernel_rfl) (by kernel_rfl) tabRs_nil ?_
            iterate 12 ((with_reducible refine loose_one (v := ?_) (a' := ?_) ?_ ?_ (fun w' hC' hG' => ?_) ?_ ?_); rotate_left 2; (focus rfl); (focus rfl); (focus (obtain ⟨q2, ky, kz⟩ := HX.out w' hC'; clear hC' hG'; go_simp; rfl)); (focus (go_simp; rfl)))
            refine loose_done (fun w5 hC5 hG5 => ?_)
            have HB5 := hidden (HB.out.of_below hC5)
            clear hC5 hG5 HX q2
            by_cases hyz : y ≤ z
            · have d1 : decide (y ≤ z) = true := by simpa using hyz
              have d1b : decide (z < y) = false := by simp; omega
              have d1c : ¬ z < y := by omega
              have HF := hidden (HVF.out (fun hi => by have := hi m HLT.out; rw [HY.out, HZ.out] at this; omega))
              clear hyz
              go_wp2_with fail
              go_ret
              exact ⟨by rw [HF.out]; first | done | rfl, HG2.out.of_below HB5.out⟩
            · have d1 : decide (y ≤ z) = false := by simpa using hyz
              have d1b : decide (z < y) = true := by simp; omega
              have d1c : z < y := by omega
              have HN := hidden (show ∀ j, j < m + 1 → hs.getD j 0 < hs.getD (j + 1) 0 from fun j hj => by
                rcases Nat.lt_or_ge j m with h | h
                · exact HIN.out j h
                · rw [show j = m by omega, HY.out, HZ.out]; omega)
              clear hyz
              go_wp2_with fail
              go_roundw
              case rel => exact ⟨m + 1, .inl (by have := HLT.out; omega), by go_num, HN.out, HB5.out⟩
              case measure => have := HLT.out; simp [intOf]; omega
          · have hd : decide ((m : Int) + 1 < (hs.length : Int)) = false := by simp; omega
            have HT := hidden (HVT.out (fun i hi => HIN.out i (by have := HM.out; omega)))
            clear hlt
            go_wp2_with fail
            go_ret
            exact ⟨by rw [HT.out]; first | done | rfl, HG2.out.of_below HB.out⟩
      · have d5 : (hs.length == 32) = false := by simpa using h5
        have d5b : ((hs.length : Int) == 32) = false := by simp; omega
        have d5c : ((hs.length : Int) != 32) = true := by simp; omega
        have HF := hidden (validHB_f (n := n) (hs := hs) (ok := false) (fun h => by rcases h.2.2.2.1 with h | h; cases h; omega))
        clear hn1 hn2 HR1
        go_enter Tryz.func72, Tryz.ntmps72
        go_wp2_with (go_at_call 85; refine (HV.out _).mono ?_; rintro e w2 ⟨rfl, g2⟩; have HG2 := hidden (HG0.out.of_below g2); have HS2 := hidden (HS0.out.grow g2); clear g2; have q2 := HS2.out.cell 2; have q3 := HS2.out.cell 3; simp only [List.getElem?_cons_succ, List.getElem?_cons_zero] at q2 q3)
        go_ret
        exact ⟨by rw [HF.out]; first | done | rfl, HG2.out⟩
    · skip
      have HVT := hidden (fun (hi : incP hs) => validHB_t (n := n) (hs := hs) (ok := true) ⟨by omega, by omega, fun h => by omega, .inl rfl, hi⟩)
      have HVF := hidden (fun (hi : ¬ incP hs) => validHB_f (n := n) (hs := hs) (ok := true) (fun h => hi h.2.2.2.2))
      have HL32 := hidden (show hs.length ≤ 32 by omega)
      clear h1 h2 h3 h4  hn1 hn2
      go_enter Tryz.func72, Tryz.ntmps72
      go_wp2_with (go_at_call 85; refine (HV.out _).mono ?_; rintro e w2 ⟨rfl, g2⟩; have HG2 := hidden (HG0.out.of_below g2); have HS2 := hidden (HS0.out.grow g2); clear g2; have q2 := HS2.out.cell 2; have q3 := HS2.out.cell 3; simp only [List.getElem?_cons_succ, List.getElem?_cons_zero] at q2 q3)
      clear d1 d2 d3 d3b d4 d4b d4c d4d d4e
      go_loopw [4] (fun i wr => VhRel w2 hs i wr) (fun i _ => hs.length - (intOf i).toNat)
      case atStart => exact ⟨0, .inr rfl, rfl, fun j hj => by omega, Below.refl _ _⟩
      case round =>
        obtain ⟨m, hm, rfl, hinc, hb⟩ := hrel
        have HB := hidden hb
        have HIN := hidden hinc
        have HM := hidden hm
        have HLE := HL32.out
        clear hb hinc hm q2 q3
        have q2 := (HS2.out.grow HB.out).cell 2
        simp only [List.getElem?_cons_succ, List.getElem?_cons_zero] at q2
        by_cases hlt : m + 1 < hs.length
        · obtain ⟨b, off, hA, hcy⟩ := IsW.at_ (HR1.out.grow (HG2.out.of_below HB.out)) hlt
          obtain ⟨b', off', hA', hcz⟩ := IsW.at_ (HR1.out.grow (HG2.out.of_below HB.out)) (show m < hs.length by omega)
          subst hA
          injection hA' with hA'
          injection hA' with e1 e2
          subst e1 e2
          obtain ⟨y, hy⟩ : ∃ y, y = hs[m + 1] := ⟨_, rfl⟩
          obtain ⟨z, hz⟩ : ∃ z, z = hs[m]'(by omega) := ⟨_, rfl⟩
          rw [← hy] at hcy
          rw [← hz] at hcz
          have hd : decide ((m : Int) + 1 < (hs.length : Int)) = true := by simp; omega
          have hm0 : (0 : Int) ≤ (m : Int) + 1 := by omega
          have hm1 : (m : Int) + 1 < (hs.length : Int) := by omega
          have hm2 : (m : Int) < (hs.length : Int) := by omega
          have hm3 : (0 : Int) ≤ (m : Int) := by omega
          have hmt : ((m : Int) + 1).toNat = m + 1 := by omega
          have hmw : IntKind.i64.wrap (m : Int) = (m : Int) := by rw [IntKind.wrap_i64]; omega
          have HY := hidden (show hs.getD (m + 1) 0 = y by rw [hy, List.getD_eq_getElem?_getD, List.getElem?_eq_getElem hlt]; rfl)
          have HZ := hidden (show hs.getD m 0 = z by rw [hz, List.getD_eq_getElem?_getD, List.getElem?_eq_getElem (by omega)]; rfl)
          have HLT := hidden hlt
          have HX := hidden (fun X (h : Grows wr X) => (⟨((HS2.out.grow HB.out).grow h).cell 2, (h.cell (World.block_lt_of_cell? _ _ hcy)).trans hcy, (h.cell (World.block_lt_of_cell? _ _ hcz)).trans hcz⟩ : X.cell? ⟨w.heap.size, 2, none⟩ = some (.slice (some ⟨b, off, none⟩) hs.length c1) ∧ _ ∧ _))
          clear hy hz hcy hcz hlt
          go_wp2_with fail
          refine wp_region_loose (tabRs []) (by kernel_rfl) (by kernel_rfl) tabRs_nil ?_
          iterate 12 ((with_reducible refine loose_one (v := ?_) (a' := ?_) ?_ ?_ (fun w' hC' hG' => ?_) ?_ ?_); rotate_left 2; (focus rfl); (focus rfl); (focus (obtain ⟨q2, ky, kz⟩ := HX.out w' hC'; clear hC' hG'; go_simp; rfl)); (focus (go_simp; rfl)))
          refine loose_done (fun w5 hC5 hG5 => ?_)
          have HB5 := hidden (HB.out.of_below hC5)
          clear hC5 hG5 HX q2
          by_cases hyz : y ≤ z
          · have d1 : decide (y ≤ z) = true := by simpa using hyz
            have d1b : decide (z < y) = false := by simp; omega
            have d1c : ¬ z < y := by omega
            have HF := hidden (HVF.out (fun hi => by have := hi m HLT.out; rw [HY.out, HZ.out] at this; omega))
            clear hyz
            go_wp2_with fail
            go_ret
            exact ⟨by rw [HF.out]; first | done | rfl, HG2.out.of_below HB5.out⟩
          · have d1 : decide (y ≤ z) = false := by simpa using hyz
            have d1b : decide (z < y) = true := by simp; omega
            have d1c : z < y := by omega
            have HN := hidden (show ∀ j, j < m + 1 → hs.getD j 0 < hs.getD (j + 1) 0 from fun j hj => by
              rcases Nat.lt_or_ge j m with h | h
              · exact HIN.out j h
              · rw [show j = m by omega, HY.out, HZ.out]; omega)
            clear hyz
            go_wp2_with fail
            go_roundw
            case rel => exact ⟨m + 1, .inl (by have := HLT.out; omega), by go_num, HN.out, HB5.out⟩
            case measure => have := HLT.out; simp [intOf]; omega
        · have hd : decide ((m : Int) + 1 < (hs.length : Int)) = false := by simp; omega
          have HT := hidden (HVT.out (fun i hi => HIN.out i (by have := HM.out; omega)))
          clear hlt
          go_wp2_with fail
          go_ret
          exact ⟨by rw [HT.out]; first | done | rfl, HG2.out.of_below HB.out⟩
  · have d3 : decide (0 < n) = false := by simpa using h3
    have d3b : ¬ 0 < n := h3
    cases ok
    · by_cases h5 : hs.length = 32
      · have d5 : (hs.length == 32) = true := by simpa using h5
        have d5b : ((hs.length : Int) == 32) = true := by simp; omega
        have d5c : ((hs.length : Int) != 32) = false := by simp; omega
        have HVT := hidden (fun (hi : incP hs) => validHB_t (n := n) (hs := hs) (ok := false) ⟨by omega, by omega, fun h => by omega, .inr h5, hi⟩)
        have HVF := hidden (fun (hi : ¬ incP hs) => validHB_f (n := n) (hs := hs) (ok := false) (fun h => hi h.2.2.2.2))
        have HL32 := hidden (show hs.length ≤ 32 by omega)
        clear h1 h2 h3 h5 hn1 hn2
        go_enter Tryz.func72, Tryz.ntmps72
        go_wp2_with (go_at_call 85; refine (HV.out _).mono ?_; rintro e w2 ⟨rfl, g2⟩; have HG2 := hidden (HG0.out.of_below g2); have HS2 := hidden (HS0.out.grow g2); clear g2; have q2 := HS2.out.cell 2; have q3 := HS2.out.cell 3; simp only [List.getElem?_cons_succ, List.getElem?_cons_zero] at q2 q3)
        clear d1 d2 d3 d3b d5 d5b d5c
        go_loopw [4] (fun i wr => VhRel w2 hs i wr) (fun i _ => hs.length - (intOf i).toNat)
        case atStart => exact ⟨0, .inr rfl, rfl, fun j hj => by omega, Below.refl _ _⟩
        case round =>
          obtain ⟨m, hm, rfl, hinc, hb⟩ := hrel
          have HB := hidden hb
          have HIN := hidden hinc
          have HM := hidden hm
          have HLE := HL32.out
          clear hb hinc hm q2 q3
          have q2 := (HS2.out.grow HB.out).cell 2
          simp only [List.getElem?_cons_succ, List.getElem?_cons_zero] at q2
          by_cases hlt : m + 1 < hs.length
          · obtain ⟨b, off, hA, hcy⟩ := IsW.at_ (HR1.out.grow (HG2.out.of_below HB.out)) hlt
            obtain ⟨b', off', hA', hcz⟩ := IsW.at_ (HR1.out.grow (HG2.out.of_below HB.out)) (show m < hs.length by omega)
            subst hA
            injection hA' with hA'
            injection hA' with e1 e2
            subst e1 e2
            obtain ⟨y, hy⟩ : ∃ y, y = hs[m + 1] := ⟨_, rfl⟩
            obtain ⟨z, hz⟩ : ∃ z, z = hs[m]'(by omega) := ⟨_, rfl⟩
            rw [← hy] at hcy
            rw [← hz] at hcz
            have hd : decide ((m : Int) + 1 < (hs.length : Int)) = true := by simp; omega
            have hm0 : (0 : Int) ≤ (m : Int) + 1 := by omega
            have hm1 : (m : Int) + 1 < (hs.length : Int) := by omega
            have hm2 : (m : Int) < (hs.length : Int) := by omega
            have hm3 : (0 : Int) ≤ (m : Int) := by omega
            have hmt : ((m : Int) + 1).toNat = m + 1 := by omega
            have hmw : IntKind.i64.wrap (m : Int) = (m : Int) := by rw [IntKind.wrap_i64]; omega
            have HY := hidden (show hs.getD (m + 1) 0 = y by rw [hy, List.getD_eq_getElem?_getD, List.getElem?_eq_getElem hlt]; rfl)
            have HZ := hidden (show hs.getD m 0 = z by rw [hz, List.getD_eq_getElem?_getD, List.getElem?_eq_getElem (by omega)]; rfl)
            have HLT := hidden hlt
            have HX := hidden (fun X (h : Grows wr X) => (⟨((HS2.out.grow HB.out).grow h).cell 2, (h.cell (World.block_lt_of_cell? _ _ hcy)).trans hcy, (h.cell (World.block_lt_of_cell? _ _ hcz)).trans hcz⟩ : X.cell? ⟨w.heap.size, 2, none⟩ = some (.slice (some ⟨b, off, none⟩) hs.length c1) ∧ _ ∧ _))
            clear hy hz hcy hcz hlt
            go_wp2_with fail
            refine wp_region_loose (tabRs []) (by kernel_rfl) (by kernel_rfl) tabRs_nil ?_
            iterate 12 ((with_reducible refine loose_one (v := ?_) (a' := ?_) ?_ ?_ (fun w' hC' hG' => ?_) ?_ ?_); rotate_left 2; (focus rfl); (focus rfl); (focus (obtain ⟨q2, ky, kz⟩ := HX.out w' hC'; clear hC' hG'; go_simp; rfl)); (focus (go_simp; rfl)))
            refine loose_done (fun w5 hC5 hG5 => ?_)
            have HB5 := hidden (HB.out.of_below hC5)
            clear hC5 hG5 HX q2
            by_cases hyz : y ≤ z
            · have d1 : decide (y ≤ z) = true := by simpa using hyz
              have d1b : decide (z < y) = false := by simp; omega
              have d1c : ¬ z < y := by omega
              have HF := hidden (HVF.out (fun hi => by have := hi m HLT.out; rw [HY.out, HZ.out] at this; omega))
              clear hyz
              go_wp2_with fail
              go_ret
              exact ⟨by rw [HF.out]; first | done | rfl, HG2.out.of_below HB5.out⟩
            · have d1 : decide (y ≤ z) = false := by simpa using hyz
              have d1b : decide (z < y) = true := by simp; omega
              have d1c : z < y := by omega
              have HN := hidden (show ∀ j, j < m + 1 → hs.getD j 0 < hs.getD (j + 1) 0 from fun j hj => by
                rcases Nat.lt_or_ge j m with h | h
                · exact HIN.out j h
                · rw [show j = m by omega, HY.out, HZ.out]; omega)
              clear hyz
              go_wp2_with fail
              go_roundw
              case rel => exact ⟨m + 1, .inl (by have := HLT.out; omega), by go_num, HN.out, HB5.out⟩
              case measure => have := HLT.out; simp [intOf]; omega
          · have hd : decide ((m : Int) + 1 < (hs.length : Int)) = false := by simp; omega
            have HT := hidden (HVT.out (fun i hi => HIN.out i (by have := HM.out; omega)))
            clear hlt
            go_wp2_with fail
            go_ret
            exact ⟨by rw [HT.out]; first | done | rfl, HG2.out.of_below HB.out⟩
      · have d5 : (hs.length == 32) = false := by simpa using h5
        have d5b : ((hs.length : Int) == 32) = false := by simp; omega
        have d5c : ((hs.length : Int) != 32) = true := by simp; omega
        have HF := hidden (validHB_f (n := n) (hs := hs) (ok := false) (fun h => by rcases h.2.2.2.1 with h | h; cases h; omega))
        clear hn1 hn2 HR1
        go_enter Tryz.func72, Tryz.ntmps72
        go_wp2_with (go_at_call 85; refine (HV.out _).mono ?_; rintro e w2 ⟨rfl, g2⟩; have HG2 := hidden (HG0.out.of_below g2); have HS2 := hidden (HS0.out.grow g2); clear g2; have q2 := HS2.out.cell 2; have q3 := HS2.out.cell 3; simp only [List.getElem?_cons_succ, List.getElem?_cons_zero] at q2 q3)
        go_ret
        exact ⟨by rw [HF.out]; first | done | rfl, HG2.out⟩
    · skip
      have HVT := hidden (fun (hi : incP hs) => validHB_t (n := n) (hs := hs) (ok := true) ⟨by omega, by omega, fun h => by omega, .inl rfl, hi⟩)
      have HVF := hidden (fun (hi : ¬ incP hs) => validHB_f (n := n) (hs := hs) (ok := true) (fun h => hi h.2.2.2.2))
      have HL32 := hidden (show hs.length ≤ 32 by omega)
      clear h1 h2 h3  hn1 hn2
      go_enter Tryz.func72, Tryz.ntmps72
      go_wp2_with (go_at_call 85; refine (HV.out _).mono ?_; rintro e w2 ⟨rfl, g2⟩; have HG2 := hidden (HG0.out.of_below g2); have HS2 := hidden (HS0.out.grow g2); clear g2; have q2 := HS2.out.cell 2; have q3 := HS2.out.cell 3; simp only [List.getElem?_cons_succ, List.getElem?_cons_zero] at q2 q3)
      clear d1 d2 d3 d3b
      go_loopw [4] (fun i wr => VhRel w2 hs i wr) (fun i _ => hs.length - (intOf i).toNat)
      case atStart => exact ⟨0, .inr rfl, rfl, fun j hj => by omega, Below.refl _ _⟩
      case round =>
        obtain ⟨m, hm, rfl, hinc, hb⟩ := hrel
        have HB := hidden hb
        have HIN := hidden hinc
        have HM := hidden hm
        have HLE := HL32.out
        clear hb hinc hm q2 q3
        have q2 := (HS2.out.grow HB.out).cell 2
        simp only [List.getElem?_cons_succ, List.getElem?_cons_zero] at q2
        by_cases hlt : m + 1 < hs.length
        · obtain ⟨b, off, hA, hcy⟩ := IsW.at_ (HR1.out.grow (HG2.out.of_below HB.out)) hlt
          obtain ⟨b', off', hA', hcz⟩ := IsW.at_ (HR1.out.grow (HG2.out.of_below HB.out)) (show m < hs.length by omega)
          subst hA
          injection hA' with hA'
          injection hA' with e1 e2
          subst e1 e2
          obtain ⟨y, hy⟩ : ∃ y, y = hs[m + 1] := ⟨_, rfl⟩
          obtain ⟨z, hz⟩ : ∃ z, z = hs[m]'(by omega) := ⟨_, rfl⟩
          rw [← hy] at hcy
          rw [← hz] at hcz
          have hd : decide ((m : Int) + 1 < (hs.length : Int)) = true := by simp; omega
          have hm0 : (0 : Int) ≤ (m : Int) + 1 := by omega
          have hm1 : (m : Int) + 1 < (hs.length : Int) := by omega
          have hm2 : (m : Int) < (hs.length : Int) := by omega
          have hm3 : (0 : Int) ≤ (m : Int) := by omega
          have hmt : ((m : Int) + 1).toNat = m + 1 := by omega
          have hmw : IntKind.i64.wrap (m : Int) = (m : Int) := by rw [IntKind.wrap_i64]; omega
          have HY := hidden (show hs.getD (m + 1) 0 = y by rw [hy, List.getD_eq_getElem?_getD, List.getElem?_eq_getElem hlt]; rfl)
          have HZ := hidden (show hs.getD m 0 = z by rw [hz, List.getD_eq_getElem?_getD, List.getElem?_eq_getElem (by omega)]; rfl)
          have HLT := hidden hlt
          have HX := hidden (fun X (h : Grows wr X) => (⟨((HS2.out.grow HB.out).grow h).cell 2, (h.cell (World.block_lt_of_cell? _ _ hcy)).trans hcy, (h.cell (World.block_lt_of_cell? _ _ hcz)).trans hcz⟩ : X.cell? ⟨w.heap.size, 2, none⟩ = some (.slice (some ⟨b, off, none⟩) hs.length c1) ∧ _ ∧ _))
          clear hy hz hcy hcz hlt
          go_wp2_with fail
          refine wp_region_loose (tabRs []) (by kernel_rfl) (by kernel_rfl) tabRs_nil ?_
          iterate 12 ((with_reducible refine loose_one (v := ?_) (a' := ?_) ?_ ?_ (fun w' hC' hG' => ?_) ?_ ?_); rotate_left 2; (focus rfl); (focus rfl); (focus (obtain ⟨q2, ky, kz⟩ := HX.out w' hC'; clear hC' hG'; go_simp; rfl)); (focus (go_simp; rfl)))
          refine loose_done (fun w5 hC5 hG5 => ?_)
          have HB5 := hidden (HB.out.of_below hC5)
          clear hC5 hG5 HX q2
          by_cases hyz : y ≤ z
          · have d1 : decide (y ≤ z) = true := by simpa using hyz
            have d1b : decide (z < y) = false := by simp; omega
            have d1c : ¬ z < y := by omega
            have HF := hidden (HVF.out (fun hi => by have := hi m HLT.out; rw [HY.out, HZ.out] at this; omega))
            clear hyz
            go_wp2_with fail
            go_ret
            exact ⟨by rw [HF.out]; first | done | rfl, HG2.out.of_below HB5.out⟩
          · have d1 : decide (y ≤ z) = false := by simpa using hyz
            have d1b : decide (z < y) = true := by simp; omega
            have d1c : z < y := by omega
            have HN := hidden (show ∀ j, j < m + 1 → hs.getD j 0 < hs.getD (j + 1) 0 from fun j hj => by
              rcases Nat.lt_or_ge j m with h | h
              · exact HIN.out j h
              · rw [show j = m by omega, HY.out, HZ.out]; omega)
            clear hyz
            go_wp2_with fail
            go_roundw
            case rel => exact ⟨m + 1, .inl (by have := HLT.out; omega), by go_num, HN.out, HB5.out⟩
            case measure => have := HLT.out; simp [intOf]; omega
        · have hd : decide ((m : Int) + 1 < (hs.length : Int)) = false := by simp; omega
          have HT := hidden (HVT.out (fun i hi => HIN.out i (by have := HM.out; omega)))
          clear hlt
          go_wp2_with fail
          go_ret
          exact ⟨by rw [HT.out]; first | done | rfl, HG2.out.of_below HB.out⟩
end Go.Proofs.YtoaklmceejeblaaGreat
