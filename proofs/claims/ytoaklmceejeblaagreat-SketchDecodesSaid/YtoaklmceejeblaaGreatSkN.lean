/-
  Shaken: what the claims of this seat need of this text. No condition.
-/
import Derived.Test.YtoaklmceejeblaaGreatSkM
import Derived.Test.YtoaklmceejeblaaGreatSkB
import Derived.Test.YtoaklmceejeblaaGreatVc1
import Derived.Test.YtoaklmceejeblaaGreatM12
import Derived.Test.YtoaklmceejeblaaGreatM4
import Derived.Test.YtoaklmceejeblaaGreatM9
namespace Go.Proofs.YtoaklmceejeblaaGreat
open Go.RowKit
set_option linter.unusedVariables false
set_option linter.unusedSimpArgs false
def RdRow (T : TypeId) (g : Nat) (sl : Value) (s : RS) (w : World) : Prop := ∃ p : Int, Row w g T [sl, .int .i64 p, .int .i64 s.e] ∧ (s.e = 0 → p = s.p) ∧ -9223372036854775808 ≤ p ∧ p ≤ 9223372036854775807
def RdC (T : TypeId) (g : Nat) (sl : Value) (w : World) (v : Value) (s : RS) (e : Ending) (w' : World) : Prop := e = .returned v ∧ Only (fun k => k = g) w w' ∧ RdRow T g sl s w'
theorem RdRow.only {T : TypeId} {g : Nat} {sl : Value} {s : RS} {w w' : World} {B : Nat → Prop} (h : RdRow T g sl s w) (ho : Only B w w') (hn : ¬ B g) : RdRow T g sl s w' := by
  obtain ⟨p, h1, h2⟩ := h
  exact ⟨p, ho.row h1 hn, h2⟩
theorem RdRow.grow {T : TypeId} {g : Nat} {sl : Value} {s : RS} {w w' : World} (h : RdRow T g sl s w) (ho : Grows w w') : RdRow T g sl s w' := by
  obtain ⟨p, h1, h2⟩ := h
  exact ⟨p, h1.grow ho, h2⟩
theorem RdRow.lt {T : TypeId} {g : Nat} {sl : Value} {s : RS} {w : World} (h : RdRow T g sl s w) : g < w.heap.size := by
  obtain ⟨p, h1, h2⟩ := h
  exact h1.lt
theorem Only.after {g : Nat} {a b c : World} (h : Only (fun k => k = g) a b) (k : Only (fun k => k = g) b c) : Only (fun k => k = g) a c := h.trans k (fun i hi => .inl hi)
theorem Only.afterG {g : Nat} {a b c : World} (h : Only (fun k => k = g) a b) (k : Grows b c) : Only (fun k => k = g) a c := h.trans (Only.of_grows k (fun _ => False)) (fun i hi => hi.elim)
theorem bytes_apart {w : World} {l : List UInt8} {A : Option Addr} {c g : Nat} {T : TypeId} {A' : Option Addr} {n c' : Nat} {p e : Int} (h : IsBytes w (.slice A l.length c) l) (hr : Row w g T [.slice A' n c', .int .i64 p, .int .i64 e]) : ∀ b f, 0 < l.length → A = some ⟨b, f, none⟩ → b ≠ g := by
  intro b f hpos hA hbg
  obtain ⟨A2, c2, he, hcell⟩ := h
  injection he with e1 e2 e3
  subst e1 e3
  obtain ⟨b2, f2, hA2, hc⟩ := hcell hpos
  rw [hA] at hA2
  injection hA2 with hA2
  injection hA2 with h1 h2
  subst h1 h2 hbg
  have h0 := hc 0 hpos
  rw [Nat.add_zero, hr.cell] at h0
  rcases f with _ | _ | _ | f
  · simp at h0
  · simp at h0
  · simp at h0
  · simp at h0
theorem isBytes_only {w w' : World} {l : List UInt8} {A : Option Addr} {c g : Nat} {T : TypeId} {A' : Option Addr} {n c' : Nat} {p e : Int} (h : IsBytes w (.slice A l.length c) l) (hr : Row w g T [.slice A' n c', .int .i64 p, .int .i64 e]) (ho : Only (fun k => k = g) w w') : IsBytes w' (.slice A l.length c) l := by
  have hap := bytes_apart h hr
  obtain ⟨A2, c2, he, hcell⟩ := h
  injection he with e1 e2 e3
  subst e1 e3
  refine ⟨A, c, rfl, fun hpos => ?_⟩
  obtain ⟨b, f, hA, hc⟩ := hcell hpos
  refine ⟨b, f, hA, fun j hj => ?_⟩
  exact ho.cell (hc j hj) (hap b f hpos hA)
structure Rdr (T : TypeId) (g : Nat) (A : Option Addr) (c : Nat) (l : List UInt8) (s : RS) (w : World) : Prop where
  row : RdRow T g (.slice A l.length c) s w
  bytes : IsBytes w (.slice A l.length c) l
theorem Rdr.step {T : TypeId} {g : Nat} {A : Option Addr} {c : Nat} {l : List UInt8} {s s' : RS} {w w' : World} (h : Rdr T g A c l s w) (ho : Only (fun k => k = g) w w') (hr : RdRow T g (.slice A l.length c) s' w') : Rdr T g A c l s' w' := by
  obtain ⟨⟨p, h1, h2⟩, h3⟩ := h
  exact ⟨hr, isBytes_only h3 h1 ho⟩
theorem Rdr.grow {T : TypeId} {g : Nat} {A : Option Addr} {c : Nat} {l : List UInt8} {s : RS} {w w' : World} (h : Rdr T g A c l s w) (ho : Grows w w') : Rdr T g A c l s w' := ⟨h.row.grow ho, h.bytes.grow ho⟩
set_option maxRecDepth 8000 in
set_option maxHeartbeats 4000000 in
theorem qvarint_any (g : Nat) (A : Option Addr) (c : Nat) (l : List UInt8) (s : RS) (w : World) (hr : Rdr 108 g A c l s w) (hl : l.length ≤ 4611686018427387904) :
    Calls Tryz.prog 159 #[.pointer (some ⟨g, 0, none⟩)] w (RdC 108 g (.slice A l.length c) w (.int .u64 (rdV l s).1) ((rdV l s).2)) := by
  have HRR := hidden hr
  obtain ⟨⟨p, hrow, hp, hp1, hp2⟩, hby⟩ := hr
  have HROW := hidden hrow
  have HBY := hidden hby
  clear hrow hby
  have q2 := HROW.out.cell 2
  simp only [List.getElem?_cons_succ, List.getElem?_cons_zero] at q2
  by_cases he : s.e = 0
  · have hps := hp he
    subst hps
    have HE := hidden (show rdV l s = ((dcd l s.p).1, ⟨(dcd l s.p).2.1, (dcd l s.p).2.2⟩) from if_neg (fun h => h he))
    have HD := hidden (dcd_all l s.p)
    have HLN := hidden hl
    have HX := hidden (fun X (h : Grows w X) => show X.cell? ⟨g, 0, none⟩ = some (.slice A l.length c) ∧ X.cell? ⟨g, 1, none⟩ = some (.int .i64 s.p) from ⟨(HROW.out.grow h).cell 0, (HROW.out.grow h).cell 1⟩)
    have HC := hidden (fun X (h : Grows w X) => const_loose0 (decode_any (.slice A l.length c) l s.p X (HBY.out.grow h) (by unfold maxLen; omega) hp1 hp2))
    have d1 : (s.e == 0) = true := beq_iff_eq.2 he
    rw [he] at q2
    generalize dcd l s.p = d at *
    obtain ⟨n, p2, e2⟩ := d
    simp only [] at HE HD HC
    clear hp hp1 hp2 he hl
    go_enter Tryz.func159, Tryz.ntmps159
    go_wp2_with fail
    refine wp_region_loose (tabRs [(8, ConstV (.tuple #[.int .u64 n, .int .i64 p2, .int .i64 e2]))]) (by kernel_rfl) (by kernel_rfl) (tabRs_cons ConstV.lasts tabRs_nil) ?_
    iterate 8 ((with_reducible refine loose_one (v := ?_) (a' := ?_) ?_ ?_ (fun w' hC' hG' => ?_) ?_ ?_); rotate_left 2; (focus rfl); (focus rfl); (focus (obtain ⟨y0, y1⟩ := HX.out w' hC'; clear hC' hG'; go_simp; rfl)); (focus (go_simp; rfl)))
    refine loose_call (R := ConstV (.tuple #[.int .u64 n, .int .i64 p2, .int .i64 e2])) (f := 179) (args := #[.slice A l.length c, .int .i64 s.p]) (by rfl) (by rfl) (fun _ => by go_simp) (fun w' hC' hG' => HC.out w' hC') ?_
    rintro _ ⟨_, _, rfl⟩
    refine ⟨?_, ?_, ?_⟩
    rotate_left
    · go_simp
      rfl
    iterate 7 ((with_reducible refine loose_one (v := ?_) (a' := ?_) ?_ ?_ (fun w' hC' hG' => ?_) ?_ ?_); rotate_left 2; (focus rfl); (focus rfl); (focus (clear hC' hG'; go_simp; rfl)); (focus (go_simp; rfl)))
    refine loose_done (fun w1 hC' hG' => ?_)
    have HG1 := hidden hC'
    have HR1 := hidden (HROW.out.grow hC')
    clear hC' hG' q2
    have c1 := HR1.out.cell 1
    have f1 := HR1.out.frozen 1
    have c2 := (HR1.out.set_m 1 (.int .i64 p2)).cell 2
    have f2 := (HR1.out.set_m 1 (.int .i64 p2)).frozen 2
    simp only [List.set_cons_succ, List.set_cons_zero, List.getElem?_cons_succ, List.getElem?_cons_zero] at c1 c2
    go_wp2_with fail
    go_ret
    refine ⟨by rw [HE.out]; first | done | rfl, (Only.of_grows HG1.out _).after ((Only.set _ _ _ _).after (Only.set _ _ _ _)), ?_⟩
    rw [HE.out]
    refine ⟨p2, by have h := (HR1.out.set_m 1 (.int .i64 p2)).set_m 2 (.int .i64 e2); simpa using h, fun _ => rfl, ?_⟩
    have h := HD.out
    have hl := HLN.out
    by_cases h0 : e2 = 0
    · have := h.2.2.1 h0; omega
    · have := (h.2.2.2.2.2 h0).2; omega
  · have HE := hidden (show rdV l s = (0, s) from if_pos he)
    have d1 : (s.e == 0) = false := beq_eq_false_iff_ne.2 he
    clear hp he hl
    go_enter Tryz.func159, Tryz.ntmps159
    go_wp2_with fail
    go_ret
    refine ⟨by rw [HE.out]; first | done | rfl, Only.refl _ _, ?_⟩
    rw [HE.out]
    exact HRR.out.row
set_option maxRecDepth 8000 in
set_option maxHeartbeats 4000000 in
theorem qnumber_any (g : Nat) (A : Option Addr) (c : Nat) (l : List UInt8) (s : RS) (w : World) (hr : Rdr 108 g A c l s w) (hl : l.length ≤ 4611686018427387904) :
    Calls Tryz.prog 133 #[.pointer (some ⟨g, 0, none⟩)] w (RdC 108 g (.slice A l.length c) w (.int .i64 (rdNm l s).1) ((rdNm l s).2)) := by
  have HRR := hidden hr
  have HV := hidden (qvarint_any g A c l s w hr hl)
  have HA := hidden (rdV_all l s)
  have HD : Hid (rdNm l s = if 2147483647 < (rdV l s).1 then (0, ⟨(rdV l s).2.p, 6⟩) else rdV l s) := hidden rfl
  generalize rdV l s = d at *
  obtain ⟨n, s1⟩ := d
  simp only [] at HV HA HD
  clear hr hl
  go_enter Tryz.func133, Tryz.ntmps133
  go_wp2_with fail
  refine HV.out.mono ?_
  rintro e w1 ⟨rfl, ho1, hr1⟩
  obtain ⟨p1, hrow1, hp1, hb1⟩ := hr1
  have HO1 := hidden ho1
  have HR1 := hidden hrow1
  have HP1 := hidden (And.intro hp1 hb1)
  clear ho1 hrow1 hp1 hb1
  by_cases hn : 2147483647 < n
  · have d1 : decide (2147483647 < n) = true := decide_eq_true hn
    have HE := hidden (show rdNm l s = (0, ⟨s1.p, 6⟩) by rw [HD.out, if_pos hn])
    clear hn
    have c2 := HR1.out.cell 2
    have f2 := HR1.out.frozen 2
    simp only [List.getElem?_cons_succ, List.getElem?_cons_zero] at c2
    go_wp2_with fail
    go_ret
    refine ⟨by rw [HE.out]; first | done | rfl, HO1.out.after (Only.set _ _ _ _), ?_⟩
    rw [HE.out]
    exact ⟨p1, by have h := HR1.out.set_m 2 (.int .i64 6); simpa using h, fun h => absurd h (by show ¬ (6 : Int) = 0; decide), HP1.out.2⟩
  · have d1 : decide (2147483647 < n) = false := decide_eq_false hn
    have HE := hidden (show rdNm l s = (n, s1) by rw [HD.out, if_neg hn])
    have hw : IntKind.i64.wrap n = n := by have := HA.out; rw [IntKind.wrap_i64]; omega
    have hw2 : wrap64 n = n := by have := HA.out; unfold wrap64; omega
    clear hn
    go_wp2_with fail
    go_ret
    refine ⟨by rw [HE.out]; first | done | rfl, HO1.out, ?_⟩
    rw [HE.out]
    exact ⟨p1, HR1.out, HP1.out.1, HP1.out.2⟩
set_option maxRecDepth 8000 in
set_option maxHeartbeats 4000000 in
theorem qcount_any (g : Nat) (A : Option Addr) (c : Nat) (l : List UInt8) (s : RS) (m : Int) (w : World) (hr : Rdr 108 g A c l s w) (hl : l.length ≤ 4611686018427387904) :
    Calls Tryz.prog 137 #[.pointer (some ⟨g, 0, none⟩), .int .i64 m] w (RdC 108 g (.slice A l.length c) w (.int .i64 (rdCt l m s).1) ((rdCt l m s).2)) := by
  have HRR := hidden hr
  have HV := hidden (qnumber_any g A c l s w hr hl)
  have HD : Hid (rdCt l m s = if m < (rdNm l s).1 then (0, ⟨(rdNm l s).2.p, 18⟩) else rdNm l s) := hidden rfl
  generalize rdNm l s = d at *
  obtain ⟨n, s1⟩ := d
  simp only [] at HV HD
  clear hr hl
  go_enter Tryz.func137, Tryz.ntmps137
  go_wp2_with fail
  refine HV.out.mono ?_
  rintro e w1 ⟨rfl, ho1, hr1⟩
  obtain ⟨p1, hrow1, hp1, hb1⟩ := hr1
  have HO1 := hidden ho1
  have HR1 := hidden hrow1
  have HP1 := hidden (And.intro hp1 hb1)
  clear ho1 hrow1 hp1 hb1
  by_cases hn : m < n
  · have d1 : decide (m < n) = true := decide_eq_true hn
    have HE := hidden (show rdCt l m s = (0, ⟨s1.p, 18⟩) by rw [HD.out, if_pos hn])
    clear hn
    have c2 := HR1.out.cell 2
    have f2 := HR1.out.frozen 2
    simp only [List.getElem?_cons_succ, List.getElem?_cons_zero] at c2
    go_wp2_with fail
    go_ret
    refine ⟨by rw [HE.out]; first | done | rfl, HO1.out.after (Only.set _ _ _ _), ?_⟩
    rw [HE.out]
    exact ⟨p1, by have h := HR1.out.set_m 2 (.int .i64 18); simpa using h, fun h => absurd h (by show ¬ (18 : Int) = 0; decide), HP1.out.2⟩
  · have d1 : decide (m < n) = false := decide_eq_false hn
    have HE := hidden (show rdCt l m s = (n, s1) by rw [HD.out, if_neg hn])
    clear hn
    go_wp2_with fail
    go_ret
    refine ⟨by rw [HE.out]; first | done | rfl, HO1.out, ?_⟩
    rw [HE.out]
    exact ⟨p1, HR1.out, HP1.out.1, HP1.out.2⟩
set_option maxRecDepth 8000 in
set_option maxHeartbeats 4000000 in
theorem qflag_any (g : Nat) (A : Option Addr) (c : Nat) (l : List UInt8) (s : RS) (w : World) (hr : Rdr 108 g A c l s w) (hl : l.length ≤ 4611686018427387904) (hok : OkS l s) :
    Calls Tryz.prog 135 #[.pointer (some ⟨g, 0, none⟩)] w (RdC 108 g (.slice A l.length c) w (.bool (rdFl l s).1) ((rdFl l s).2)) := by
  have HRR := hidden hr
  obtain ⟨⟨p, hrow, hp, hp1, hp2⟩, hby⟩ := hr
  have HROW := hidden hrow
  have HBY := hidden hby
  clear hrow hby
  have q0 := HROW.out.cell 0
  have q1 := HROW.out.cell 1
  have q2 := HROW.out.cell 2
  simp only [List.getElem?_cons_succ, List.getElem?_cons_zero] at q0 q1 q2
  by_cases he : s.e = 0
  · have hps := hp he
    subst hps
    obtain ⟨hk0, hk1⟩ := hok he
    have HD := hidden (show rdFl l s = if s.p = (l.length : Int) then (false, ⟨s.p, 2⟩) else if 1 < byteAt l s.p.toNat then (false, ⟨s.p, 4⟩) else (byteAt l s.p.toNat == 1, ⟨s.p + 1, 0⟩) from if_neg (fun h => h he))
    rw [he] at q2 HROW
    have d1 : (s.e == 0) = true := beq_iff_eq.2 he
    clear hp he hok
    obtain ⟨j, hj⟩ : ∃ j : Nat, s.p = (j : Int) := ⟨s.p.toNat, by omega⟩
    rw [hj] at q1 HROW HD hk0 hk1 hp1 hp2
    rw [Int.toNat_natCast] at HD
    obtain ⟨L, hL⟩ : ∃ L, L = l.length := ⟨_, rfl⟩
    have HLE := hidden hL
    have HJ := hidden hj
    rw [← hL] at q0 HROW HD hk1 hl ⊢
    have HX := hidden (fun X (h : Grows w X) => show X.cell? ⟨g, 0, none⟩ = some (.slice A L c) ∧ X.cell? ⟨g, 1, none⟩ = some (.int .i64 (j : Int)) ∧ X.cell? ⟨g, 2, none⟩ = some (.int .i64 0) from ⟨(HROW.out.grow h).cell 0, (HROW.out.grow h).cell 1, (HROW.out.grow h).cell 2⟩)
    clear hL hj
    by_cases hend : j = L
    · have HE := hidden (show rdFl l s = (false, ⟨(j : Int), 2⟩) by rw [HD.out, if_pos (by omega)])
      have d2 : ((j : Int) == (L : Int)) = true := beq_iff_eq.2 (by omega)
      have d3 : (j == L) = true := beq_iff_eq.2 hend
      clear hend
      go_enter Tryz.func135, Tryz.ntmps135
      go_wp2_with fail
      refine wp_region_loose (tabRs []) (by kernel_rfl) (by kernel_rfl) tabRs_nil ?_
      iterate 10 ((with_reducible refine loose_one (v := ?_) (a' := ?_) ?_ ?_ (fun w' hC' hG' => ?_) ?_ ?_); rotate_left 2; (focus rfl); (focus rfl); (focus (obtain ⟨y0, y1, y2⟩ := HX.out w' hC'; clear hC' hG'; go_simp; rfl)); (focus (go_simp; rfl)))
      refine loose_done (fun w1 hC' hG' => ?_)
      have HG1 := hidden hC'
      have HR1 := hidden (HROW.out.grow hC')
      clear hC' hG' q0 q1 q2
      have c2 := HR1.out.cell 2
      have f2 := HR1.out.frozen 2
      simp only [List.getElem?_cons_succ, List.getElem?_cons_zero] at c2
      go_wp2_with fail
      go_ret
      refine ⟨by rw [HE.out]; first | done | rfl, (Only.of_grows HG1.out _).after (Only.set _ _ _ _), ?_⟩
      rw [HE.out]
      exact ⟨j, by have h := HR1.out.set_m 2 (.int .i64 2); simpa using h, fun h => absurd h (by show ¬ (2 : Int) = 0; decide), hp1, hp2⟩
    · have d2 : ((j : Int) == (L : Int)) = false := beq_eq_false_iff_ne.2 (by omega)
      have d3 : (j == L) = false := beq_eq_false_iff_ne.2 hend
      have hjL : j < L := by omega
      obtain ⟨A', c', hea, hcell⟩ := HBY.out
      injection hea with e1 e2 e3
      subst e1 e3
      obtain ⟨bb, ff, rfl, hcc⟩ := hcell (by rw [← HLE.out]; omega)
      have hcj := hcc j (by rw [← HLE.out]; exact hjL)
      obtain ⟨y, hy⟩ : ∃ y : UInt8, y = l[j]'(by rw [← HLE.out]; exact hjL) := ⟨_, rfl⟩
      have hyb : byteAt l j = y.toNat := by
        unfold byteAt
        rw [List.getD_eq_getElem?_getD, List.getElem?_eq_getElem (by rw [← HLE.out]; exact hjL), hy]
        rfl
      have HCB := hidden (show ∀ X, Grows w X → X.cell? ⟨bb, ff + j, none⟩ = some (.int .u8 (y.toNat : Int)) from fun X h => by
        rw [h.cell (World.block_lt_of_cell? _ _ hcj), hcj, ← hy])
      rw [hyb] at HD
      have hi0 : (0 : Int) ≤ (j : Int) := by omega
      have hi1 : (j : Int) < (L : Int) := by omega
      generalize y.toNat = yn at *
      clear hcell hcc hcj hy hyb e2 hend
      by_cases hb : 1 < yn
      · have HE := hidden (show rdFl l s = (false, ⟨(j : Int), 4⟩) by rw [HD.out, if_neg (by omega), if_pos hb])
        have d4 : decide (1 < yn) = true := decide_eq_true hb
        have d5 : decide ((1 : Int) < (yn : Int)) = true := decide_eq_true (by omega)
        clear hb
        go_enter Tryz.func135, Tryz.ntmps135
        go_wp2_with fail
        refine wp_region_loose (tabRs []) (by kernel_rfl) (by kernel_rfl) tabRs_nil ?_
        iterate 10 ((with_reducible refine loose_one (v := ?_) (a' := ?_) ?_ ?_ (fun w' hC' hG' => ?_) ?_ ?_); rotate_left 2; (focus rfl); (focus rfl); (focus (obtain ⟨y0, y1, y2⟩ := HX.out w' hC'; clear hC' hG'; go_simp; rfl)); (focus (go_simp; rfl)))
        refine loose_done (fun w1 hC' hG' => ?_)
        have HG1 := hidden hC'
        have HR1 := hidden (HROW.out.grow hC')
        clear hC' hG' q0 q1 q2
        go_wp2_with fail
        refine wp_region_loose (tabRs []) (by kernel_rfl) (by kernel_rfl) tabRs_nil ?_
        iterate 11 ((with_reducible refine loose_one (v := ?_) (a' := ?_) ?_ ?_ (fun w' hC' hG' => ?_) ?_ ?_); rotate_left 2; (focus rfl); (focus rfl); (focus (obtain ⟨y0, y1, y2⟩ := HX.out w' (HG1.out.of_below hC'); have cb := HCB.out w' (HG1.out.of_below hC'); clear hC' hG'; go_simp; rfl)); (focus (go_simp; rfl)))
        refine loose_done (fun w2 hC' hG' => ?_)
        have HG2 := hidden (HG1.out.of_below hC')
        have HR2 := hidden (HR1.out.grow hC')
        clear hC' hG'
        have c2 := HR2.out.cell 2
        have f2 := HR2.out.frozen 2
        simp only [List.getElem?_cons_succ, List.getElem?_cons_zero] at c2
        go_wp2_with fail
        go_ret
        refine ⟨by rw [HE.out]; first | done | rfl, (Only.of_grows HG2.out _).after (Only.set _ _ _ _), ?_⟩
        rw [HE.out]
        exact ⟨j, by have h := HR2.out.set_m 2 (.int .i64 4); simpa using h, fun h => absurd h (by show ¬ (4 : Int) = 0; decide), hp1, hp2⟩
      · have HE := hidden (show rdFl l s = (yn == 1, ⟨(j : Int) + 1, 0⟩) by rw [HD.out, if_neg (by omega), if_neg hb])
        have d4 : decide (1 < yn) = false := decide_eq_false hb
        have d5 : decide ((1 : Int) < (yn : Int)) = false := decide_eq_false (by omega)
        have d6 : ((yn : Int) == 1) = (yn == 1) := by
          by_cases h : yn = 1
          · rw [h]; rfl
          · rw [beq_eq_false_iff_ne.2 h]; exact beq_eq_false_iff_ne.2 (by omega)
        have hjb : j ≤ 4611686018427387904 := by omega
        clear hb
        go_enter Tryz.func135, Tryz.ntmps135
        go_wp2_with fail
        refine wp_region_loose (tabRs []) (by kernel_rfl) (by kernel_rfl) tabRs_nil ?_
        iterate 10 ((with_reducible refine loose_one (v := ?_) (a' := ?_) ?_ ?_ (fun w' hC' hG' => ?_) ?_ ?_); rotate_left 2; (focus rfl); (focus rfl); (focus (obtain ⟨y0, y1, y2⟩ := HX.out w' hC'; clear hC' hG'; go_simp; rfl)); (focus (go_simp; rfl)))
        refine loose_done (fun w1 hC' hG' => ?_)
        have HG1 := hidden hC'
        have HR1 := hidden (HROW.out.grow hC')
        clear hC' hG' q0 q1 q2
        go_wp2_with fail
        refine wp_region_loose (tabRs []) (by kernel_rfl) (by kernel_rfl) tabRs_nil ?_
        iterate 11 ((with_reducible refine loose_one (v := ?_) (a' := ?_) ?_ ?_ (fun w' hC' hG' => ?_) ?_ ?_); rotate_left 2; (focus rfl); (focus rfl); (focus (obtain ⟨y0, y1, y2⟩ := HX.out w' (HG1.out.of_below hC'); have cb := HCB.out w' (HG1.out.of_below hC'); clear hC' hG'; go_simp; rfl)); (focus (go_simp; rfl)))
        refine loose_done (fun w2 hC' hG' => ?_)
        have HG2 := hidden (HG1.out.of_below hC')
        have HR2 := hidden (HR1.out.grow hC')
        clear hC' hG'
        obtain ⟨bq, hbq⟩ : ∃ b, (yn == 1) = b := ⟨_, rfl⟩
        rw [hbq] at HE d6
        clear hbq
        have q1 := HR2.out.cell 1
        simp only [List.getElem?_cons_succ, List.getElem?_cons_zero] at q1
        have f1 := HR2.out.frozen 1
        go_wp2_with fail
        go_ret
        refine ⟨by rw [HE.out]; first | done | rfl, (Only.of_grows HG2.out _).after (Only.set _ _ _ _), ?_⟩
        rw [HE.out]
        exact ⟨(j : Int) + 1, by have h := HR2.out.set_m 1 (.int .i64 ((j : Int) + 1)); simpa using h, fun _ => rfl, by omega, by omega⟩
  · have HE := hidden (show rdFl l s = (false, s) from if_pos he)
    have d1 : (s.e == 0) = false := beq_eq_false_iff_ne.2 he
    clear hp he hl hok
    go_enter Tryz.func135, Tryz.ntmps135
    go_wp2_with fail
    go_ret
    refine ⟨by rw [HE.out]; first | done | rfl, Only.refl _ _, ?_⟩
    rw [HE.out]
    exact HRR.out.row
def IsVlR (w : World) (g : Nat) : Prop := ∃ p q r, Row w g 35 [p, q, r]
structure VlT (H : Nat) (xs : List Value) (w w' : World) : Prop where
  only : Only (fun k => H ≤ k ∧ IsVlR w k) w w'
  val : ∀ g, H ≤ g → IsVlR w g → IsVlR w' g
  done : ∀ g, H ≤ g → Row w g 35 xs → Row w' g 35 xs
theorem VlT.of_grows {H : Nat} {xs : List Value} {w w' : World} (h : Grows w w') : VlT H xs w w' :=
  ⟨Only.of_grows h _, fun g _ ⟨p, q, r, hr⟩ => ⟨p, q, r, hr.grow h⟩, fun g _ hr => hr.grow h⟩
theorem VlT.re (H : Nat) (xs : List Value) (w : World) : VlT H xs w w := VlT.of_grows (Below.refl _ _)
theorem VlT.tr {H : Nat} {xs : List Value} {a b c : World} (h : VlT H xs a b) (k : VlT H xs b c) : VlT H xs a c :=
  ⟨h.only.trans k.only (fun i ⟨hi, hb⟩ => by
    by_cases ha : IsVlR a i
    · exact .inl ⟨hi, ha⟩
    · right
      rcases Nat.lt_or_ge i a.heap.size with hlt | hge
      · exfalso
        obtain ⟨p, q, r, hr⟩ := hb
        exact ha ⟨p, q, r, ((h.only.block i hlt (fun x => ha x.2)).symm.trans hr)⟩
      · exact hge), fun g hg hb => k.val g hg (h.val g hg hb), fun g hg hd => k.done g hg (h.done g hg hd)⟩
theorem VlT.dr (H : Nat) (xs : List Value) (w : World) : VlT H xs w { w with drawn := w.drawn + 1 } := VlT.of_grows ⟨rfl, rfl, rfl, Nat.le_refl _, fun _ _ => rfl⟩
abbrev vlSte (H : Nat) (xs : List Value) : SteQ := ⟨VlT H xs, VlT.re H xs, VlT.tr, VlT.dr H xs⟩
theorem only_setRow16 (w : World) (g : Nat) (cs : Array Value) : Only (fun i => i = g) w (w.setRow g cs) :=
  ⟨rfl, rfl, rfl, by simp [World.setRow], fun k _ hn => by
    simp only [World.setRow]
    rw [Array.getElem?_modify, if_neg (Ne.symm hn)]⟩
theorem wpList_store_vlO {wr : World} {ops : Array Oper} {rest : List Oper} {o : Oper} {a : Act} {Q : Exit → Act → World → Prop} (hgd : o.guard = none) (x y : Operand) (ho : o.op = .store 35 x y)
    (g : Nat) (hx : a.eval x = .pointer (some ⟨g, 0, none⟩)) (k n : Int) (t : ByteArray) (hy : a.eval y = .agg #[.int .i64 k, .int .i64 n, .string t]) (z1 z2 z3 : Value) (hr : Row wr g 35 [z1, z2, z3])
    (hk : ∀ W, Row W g 35 [.int .i64 k, .int .i64 n, .string t] → Only (fun i => i = g) wr W → wpList Tryz.prog ops Q rest (a.put o.dst undef) W) : wpList Tryz.prog ops Q (o :: rest) a wr :=
  wpList_store_row hgd _ x y ho g #[.int .i64 k, .int .i64 n, .string t] hx hy 35 #[z1, z2, z3] hr size_val rfl (by simp [Value.oneCell']) (hk _ (hr.setRowK [.int .i64 k, .int .i64 n, .string t]) (only_setRow16 _ _ _))
theorem at_vl {wr : World} {ops : Array Oper} {rest : List Oper} {op : Oper} {a : Act} {Q : Exit → Act → World → Prop} (hgd : op.guard = none) (x y : Operand) (ho : op.op = .store 35 x y) (h : wpList Tryz.prog ops Q (op :: rest) a wr) : wpList Tryz.prog ops Q (op :: rest) a wr := h
theorem VlT.store {H : Nat} {w : World} {g : Nat} {a b c p q r : Value} (hg : H ≤ g) (hr : Row w g 35 [p, q, r]) :
    VlT H [a, b, c] w (w.setRow g #[a, b, c]) ∧ Row (w.setRow g #[a, b, c]) g 35 [a, b, c] := by
  have ho := only_setRow16 w g #[a, b, c]
  have hnew : Row (w.setRow g #[a, b, c]) g 35 [a, b, c] := hr.setRowK [a, b, c]
  refine ⟨⟨ho.mono (fun i hi => .inl (by rw [hi]; exact ⟨hg, _, _, _, hr⟩)), fun g' hg' ⟨p', q', r', hr'⟩ => ?_, fun g' hg' hr' => ?_⟩, hnew⟩
  · by_cases he : g' = g
    · subst he; exact ⟨_, _, _, hnew⟩
    · exact ⟨_, _, _, ho.row hr' he⟩
  · by_cases he : g' = g
    · subst he; exact hnew
    · exact ho.row hr' he
theorem store_run_vl16 {o : Oper} {a : Act} {w : World} (x y : Operand) (ho : o.op = .store 35 x y) (g : Nat) (k n : Int) (t : ByteArray) (hx : a.eval x = .pointer (some ⟨g, 0, none⟩)) (hy : a.eval y = .agg #[.int .i64 k, .int .i64 n, .string t])
    {p q r : Value} (hr : Row w g 35 [p, q, r]) : (execOp a.eval o).run Tryz.prog w = .ok .skip (w.setRow g #[.int .i64 k, .int .i64 n, .string t]) := by
  unfold execOp
  simp only [ho, hx, hy, Instr.storeAt, Instr.sureAddr, Sem.run_bind, Sem.run_pure, Result.andThen_ok, run_storeVar_row (P := Tryz.prog) w g _ 35 _ #[.int .i64 k, .int .i64 n, .string t] hr size_val rfl (by simp [Value.oneCell'])]
def NewVX (H : Nat) : Value → World → Prop := fun v w => ∃ b, v = .pointer (some ⟨b, 0, none⟩) ∧ H ≤ b ∧ IsVlR w b
theorem NewVX.lasts {H : Nat} {xs : List Value} : ∀ (s v : Value) w w', NewVX H v w → VlT H xs w w' → NewVX H v w' := fun _ _ _ _ ⟨b, h1, h2, h3⟩ ht => ⟨b, h1, h2, ht.val b h2 h3⟩
set_option maxRecDepth 8000 in
set_option maxHeartbeats 4000000 in
theorem qvalue_any (g : Nat) (A : Option Addr) (c : Nat) (l : List UInt8) (s : RS) (w : World) (hr : Rdr 108 g A c l s w) (hl : l.length ≤ 4611686018427387904) (hlc : l.length ≤ c) :
    Calls Tryz.prog 138 #[.pointer (some ⟨g, 0, none⟩)] w (RdC 108 g (.slice A l.length c) w (.agg #[.int .i64 (rdVl l s).1.k, .int .i64 (rdVl l s).1.n, .string (rdVl l s).1.t]) ((rdVl l s).2)) := by
  have HRR := hidden hr
  obtain ⟨⟨p, hrow, hp, hp1, hp2⟩, hby⟩ := hr
  have HROW := hidden hrow
  have HBY := hidden hby
  clear hrow hby
  obtain ⟨W0, hW0⟩ : ∃ W, W = w.alloc (.cells #[.int .i64 0, .int .i64 0, .string ⟨#[]⟩] 35) := ⟨_, rfl⟩
  have HG0 := hidden (show Grows w W0 by rw [hW0]; exact growK _ _)
  have HR0 := hidden (show Row W0 w.heap.size 35 [.int .i64 0, .int .i64 0, .string ⟨#[]⟩] by rw [hW0]; exact Row.new w 35 #[.int .i64 0, .int .i64 0, .string ⟨#[]⟩] [.int .i64 0, .int .i64 0, .string ⟨#[]⟩] rfl)
  have q2 := (HROW.out.grow HG0.out).cell 2
  simp only [List.getElem?_cons_succ, List.getElem?_cons_zero] at q2
  have HGL := hidden HROW.out.lt
  have HS0 := hidden (show W0.heap.size = w.heap.size + 1 by rw [hW0]; simp)
  by_cases he : s.e = 0
  · have hps := hp he
    subst hps
    have HE := hidden (show rdVl l s = (⟨(decO l s.p).k, (decO l s.p).n, (decO l s.p).t⟩, ⟨(decO l s.p).p, (decO l s.p).e⟩) from if_neg (fun h => h he))
    have HD := hidden (decO_all l s.p)
    have HLN := hidden hl
    have HX := hidden (fun X (h : Grows W0 X) => show X.cell? ⟨g, 0, none⟩ = some (.slice A l.length c) ∧ X.cell? ⟨g, 1, none⟩ = some (.int .i64 s.p) from ⟨(HROW.out.grow (HG0.out.of_below h)).cell 0, (HROW.out.grow (HG0.out.of_below h)).cell 1⟩)
    have HC := hidden (fun X (h : IsBytes X (.slice A l.length c) l) => ldecode_any A c l s.p X h hl hlc)
    have d1 : (s.e == 0) = true := beq_iff_eq.2 he
    rw [he] at q2
    generalize decO l s.p = d at *
    clear hp hp1 hp2 he hl hlc
    rw [hW0] at q2
    go_enter Tryz.func138, Tryz.ntmps138
    go_wp2_with fail
    rw [← hW0]
    rw [← hW0] at q2
    letI : SteQ := vlSte W0.heap.size [.int .i64 d.k, .int .i64 d.n, .string d.t]
    have HXX := hidden (fun X (h : VlT W0.heap.size [.int .i64 d.k, .int .i64 d.n, .string d.t] W0 X) => HX.out X (h.only.grows fun i hi => hi.1))
    have HCX := hidden (fun X (h : VlT W0.heap.size [.int .i64 d.k, .int .i64 d.n, .string d.t] W0 X) => HC.out X (HBY.out.grow (HG0.out.of_below (h.only.grows fun i hi => hi.1))))
    refine wp_region_looseX (tabX [(8, fun _ v _ => v = .tuple #[.agg #[.int .i64 d.k, .int .i64 d.n, .string d.t], .int .i64 d.p, .int .i64 d.e]), (13, fun _ => NewVX W0.heap.size), (14, fun s _ w' => ∀ b, s = .pointer (some ⟨b, 0, none⟩) → Row w' b 35 [.int .i64 d.k, .int .i64 d.n, .string d.t] ∧ W0.heap.size ≤ b)]) (by kernel_rfl) (by kernel_rfl) ?_ ?_
    · exact tabX_cons (fun _ _ _ _ h _ => h) (tabX_cons NewVX.lasts (tabX_cons (fun s v w w' hr ht b hb => ⟨(show VlT _ _ _ _ from ht).done b (hr b hb).2 (hr b hb).1, (hr b hb).2⟩) tabX_nil))
    iterate 8 ((with_reducible refine loose_oneX (v := ?_) (a' := ?_) ?_ ?_ (fun w' hC' hG' => ?_) ?_ ?_); rotate_left 2; (focus rfl); (focus rfl); (focus (obtain ⟨y0, y1⟩ := HXX.out w' hC'; clear hC' hG'; go_simp; rfl)); (focus (go_simp; rfl)))
    refine loose_callX (R := fun _ v _ => v = .tuple #[.agg #[.int .i64 d.k, .int .i64 d.n, .string d.t], .int .i64 d.p, .int .i64 d.e]) (f := 160) (args := #[.slice A l.length c, .int .i64 s.p]) (by rfl) (by rfl) (fun _ => by go_simp) (fun w' hC' hG' => (HCX.out w' hC').mono fun e w2 ⟨he, hg⟩ => ⟨_, he, VlT.of_grows hg, rfl⟩) ?_
    rintro _ ⟨_, _, rfl⟩
    refine ⟨?_, ?_, ?_⟩
    rotate_left
    · go_simp
      rfl
    iterate 4 ((with_reducible refine loose_oneX (v := ?_) (a' := ?_) ?_ ?_ (fun w' hC' hG' => ?_) ?_ ?_); rotate_left 2; (focus rfl); (focus rfl); (focus (clear hC' hG'; go_simp; rfl)); (focus (go_simp; rfl)))
    refine loose_newX (R := fun _ => NewVX W0.heap.size) (by rfl) (by rfl) (fun w' hC' hG' => ?_) ?_
    · exact ⟨.pointer (some ⟨w'.heap.size, 0, none⟩), w'.alloc (.cells #[.int .i64 0, .int .i64 0, .string ⟨#[]⟩] 35), by first | rfl | go_simp, VlT.of_grows (growK _ _), w'.heap.size, rfl, (show VlT _ _ W0 w' from hC').only.size, _, _, _, Row.new w' 35 #[.int .i64 0, .int .i64 0, .string ⟨#[]⟩] [.int .i64 0, .int .i64 0, .string ⟨#[]⟩] rfl⟩
    rintro _ ⟨_, _, g8, rfl, _, _⟩
    refine ⟨?_, ?_, ?_⟩
    rotate_left
    · go_simp
      rfl
    refine loose_storeX (R := fun s _ w' => ∀ b, s = .pointer (some ⟨b, 0, none⟩) → Row w' b 35 [.int .i64 d.k, .int .i64 d.n, .string d.t] ∧ W0.heap.size ≤ b) (by rfl) (by rfl) (fun w' hC' hG' => ?_) ?_
    · have h8 : NewVX W0.heap.size (.pointer (some ⟨g8, 0, none⟩)) w' := (hG' 13 (by kernel_rfl)).2 rfl
      obtain ⟨g9, e9, hg9, p9, q9, r9, hr9⟩ := h8
      injection e9 with e9
      injection e9 with e9
      injection e9 with e9
      subst e9
      have hst := VlT.store (a := .int .i64 d.k) (b := .int .i64 d.n) (c := .string d.t) hg9 hr9
      refine ⟨_, store_run_vl16 _ _ rfl g8 d.k d.n d.t rfl (by rfl) hr9, hst.1, fun b hb => ?_⟩
      have e : g8 = b := by
        have e1 : (Value.pointer (some ⟨g8, 0, none⟩)) = .pointer (some ⟨b, 0, none⟩) := hb
        injection e1 with e1
        injection e1 with e1
        injection e1 with e1
      subst e
      exact ⟨hst.2, hg9⟩
    intro v8 _
    refine ⟨?_, ?_, ?_⟩
    rotate_left
    · go_simp
      rfl
    iterate 2 ((with_reducible refine loose_oneX (v := ?_) (a' := ?_) ?_ ?_ (fun w' hC' hG' => ?_) ?_ ?_); rotate_left 2; (focus rfl); (focus rfl); (focus (clear hC' hG'; go_simp; rfl)); (focus (go_simp; rfl)))
    refine loose_doneX (fun w1 hC' hG' => ?_)
    have hT := (show VlT _ _ W0 w1 from hC')
    obtain ⟨hr8, hb8⟩ : Row w1 g8 35 [.int .i64 d.k, .int .i64 d.n, .string d.t] ∧ W0.heap.size ≤ g8 := (hG' 14).2 rfl g8 rfl
    have hg1 : Grows W0 w1 := hT.only.grows fun i hi => hi.1
    have HG1 := hidden (HG0.out.of_below hg1)
    have HR1 := hidden (HROW.out.grow HG1.out)
    have HR8 := hidden hr8
    have HB8 := hidden hb8
    have HRV := hidden (HR0.out.grow hg1)
    have HNE := hidden (show g8 ≠ g by have := HS0.out; have := HGL.out; omega)
    have HNV := hidden (show w.heap.size ≠ g by have := HGL.out; omega)
    have HN8 := hidden (show g8 ≠ w.heap.size by have := HS0.out; omega)
    clear hT hC' hG' hr8 hb8 hg1 q2
    have c1 := HR1.out.cell 1
    have f1 := HR1.out.frozen 1
    have c2 := (HR1.out.set_m 1 (.int .i64 d.p)).cell 2
    have f2 := (HR1.out.set_m 1 (.int .i64 d.p)).frozen 2
    simp only [List.set_cons_succ, List.set_cons_zero, List.getElem?_cons_succ, List.getElem?_cons_zero] at c1 c2
    have HR3 := hidden ((HR1.out.set_m 1 (.int .i64 d.p)).set_m 2 (.int .i64 d.e))
    have HO3 := hidden ((Only.set w1 g 1 (.int .i64 d.p)).after (Only.set (w1.setCell ⟨g, 1, none⟩ (.int .i64 d.p)) g 2 (.int .i64 d.e)))
    have HV3 := hidden (HO3.out.row HR8.out HNE.out)
    have HW3 := hidden (HO3.out.row HRV.out HNV.out)
    have v0 := HV3.out.cell 0
    have v1 := HV3.out.cell 1
    have v2 := HV3.out.cell 2
    simp only [List.getElem?_cons_succ, List.getElem?_cons_zero] at v0 v1 v2
    go_wp2_with ((with_reducible refine at_vl rfl _ _ rfl ?_); refine wpList_store_vlO rfl _ _ rfl w.heap.size rfl d.k d.n d.t rfl _ _ _ HW3.out ?_; intro W4 hr4 hk4; have HR4 := hidden hr4; have HG4 := hidden (hk4.row HR3.out (Ne.symm HNV.out)); have HO4 := hidden (show Only (fun k => k = g) w W4 from ((Only.of_grows HG1.out (fun k => k = g)).after HO3.out).trans hk4 (fun i hi => .inr (by rw [hi]; exact Nat.le_refl _))); clear hr4 hk4)
    refine bodyPost_ret (results_cell_row rfl _ _ _ _ _ _ _ rfl HR4.out Tryz.underlying35 rfl size_val) rfl ⟨by rw [HE.out]; first | done | rfl, HO4.out, ?_⟩
    rw [HE.out]
    refine ⟨d.p, by have h := HG4.out; simpa using h, fun _ => rfl, ?_⟩
    have h := HD.out
    have hl := HLN.out
    by_cases h0 : d.e = 0
    · have := h.1 h0; omega
    · have h1 := h.2.2.2 h0
      rw [h1]; exact ⟨by show -9223372036854775808 ≤ (0 : Int); decide, by show (0 : Int) ≤ _; decide⟩
  · have HE := hidden (show rdVl l s = (nulX, s) from if_pos he)
    have d1 : (s.e == 0) = false := beq_eq_false_iff_ne.2 he
    clear hp he hl hlc
    rw [hW0] at q2
    go_enter Tryz.func138, Tryz.ntmps138
    go_wp2_with fail
    have HRZ := hidden (Row.new w 35 #[.int .i64 0, .int .i64 0, .string ⟨#[]⟩] [.int .i64 0, .int .i64 0, .string ⟨#[]⟩] rfl)
    refine bodyPost_ret (results_cell_row rfl _ _ _ _ _ _ _ rfl HRZ.out Tryz.underlying35 rfl size_val) rfl ⟨by rw [HE.out]; first | done | rfl, Only.of_grows (growK _ _) _, ?_⟩
    rw [HE.out]
    exact HRR.out.row.grow (growK _ _)
end Go.Proofs.YtoaklmceejeblaaGreat
