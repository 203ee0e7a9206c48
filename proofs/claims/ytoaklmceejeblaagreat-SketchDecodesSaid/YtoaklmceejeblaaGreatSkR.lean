/-
  Shaken: what the claims of this seat need of this text. No condition.
-/
import Derived.Test.YtoaklmceejeblaaGreatSkQ
import Derived.Test.YtoaklmceejeblaaGreatM12
namespace Go.Proofs.YtoaklmceejeblaaGreat
open Go.RowKit
set_option linter.unusedVariables false
set_option linter.unusedSimpArgs false
theorem rdV_err0 {l : List UInt8} {s : RS} (h : (rdV l s).2.e ≠ 0) : (rdV l s).1 = 0 := by
  unfold rdV at h ⊢
  by_cases he : s.e = 0
  · rw [if_neg (by simpa using he)] at h ⊢
    exact ((dcd_all l s.p).2.2.2.2.2 h).1
  · rw [if_pos he]
theorem rdNm_err0 {l : List UInt8} {s : RS} (h : (rdNm l s).2.e ≠ 0) : (rdNm l s).1 = 0 := by
  unfold rdNm at h ⊢
  split
  · rfl
  · rename_i hn
    rw [if_neg hn] at h
    exact rdV_err0 h
set_option maxRecDepth 8000 in
set_option maxHeartbeats 4000000 in
theorem rfail16_any (g : Nat) (A : Option Addr) (c : Nat) (l : List UInt8) (s : RS) (k : Int) (w : World) (hr : Rdr 112 g A c l s w) (hk : k ≠ 0) :
    Calls Tryz.prog 99 #[.pointer (some ⟨g, 0, none⟩), .int .i64 k] w (RdC 112 g (.slice A l.length c) w (.tuple #[]) (if s.e = 0 then ⟨s.p, k⟩ else s)) := by
  have HRR := hidden hr
  obtain ⟨⟨p, hrow, hp, hp1, hp2⟩, hby⟩ := hr
  have HROW := hidden hrow
  have HBY := hidden hby
  clear hrow hby
  have q2 := HROW.out.cell 2
  have f2 := HROW.out.frozen 2
  simp only [List.getElem?_cons_succ, List.getElem?_cons_zero] at q2
  by_cases he : s.e = 0
  · have d1 : (s.e == 0) = true := beq_iff_eq.2 he
    rw [if_pos he]
    rw [he] at q2
    have HK := hidden hk
    clear he hp hk
    go_enter Tryz.func99, Tryz.ntmps99
    go_wp2_with fail
    refine bodyPost_ret (results_none rfl _ _ _) rfl ?_
    exact ⟨rfl, Only.set _ _ _ _, p, by have h := HROW.out.set_m 2 (.int .i64 k); simpa using h, fun h => absurd h HK.out, hp1, hp2⟩
  · have d1 : (s.e == 0) = false := beq_eq_false_iff_ne.2 he
    rw [if_neg he]
    clear he hp hk
    go_enter Tryz.func99, Tryz.ntmps99
    go_wp2_with fail
    refine bodyPost_ret (results_none rfl _ _ _) rfl ?_
    exact ⟨rfl, Only.refl _ _, HRR.out.row⟩
set_option maxRecDepth 8000 in
set_option maxHeartbeats 4000000 in
theorem rnumber16_any (g : Nat) (A : Option Addr) (c : Nat) (l : List UInt8) (s : RS) (w : World) (hr : Rdr 112 g A c l s w) (hl : l.length ≤ 4611686018427387904) :
    Calls Tryz.prog 96 #[.pointer (some ⟨g, 0, none⟩)] w (RdC 112 g (.slice A l.length c) w (.int .u64 (rdV l s).1) ((rdV l s).2)) := by
  have HRR := hidden hr
  obtain ⟨⟨p, hrow, hp, hp1, hp2⟩, hby⟩ := hr
  have HROW := hidden hrow
  have HBY := hidden hby
  clear hrow hby
  have q2 := HROW.out.cell 2
  simp only [List.getElem?_cons_succ, List.getElem?_cons_zero] at q2
  by_cases he : s.e = 0
  · have hps := hp he
    subst hps
    have HE := hidden (show rdV l s = ((dcd l s.p).1, ⟨(dcd l s.p).2.1, (dcd l s.p).2.2⟩) from if_neg (fun h => h he))
    have HD := hidden (dcd_all l s.p)
    have HLN := hidden hl
    have HX := hidden (fun X (h : Grows w X) => show X.cell? ⟨g, 0, none⟩ = some (.slice A l.length c) ∧ X.cell? ⟨g, 1, none⟩ = some (.int .i64 s.p) from ⟨(HROW.out.grow h).cell 0, (HROW.out.grow h).cell 1⟩)
    have HC := hidden (fun X (h : Grows w X) => const_loose0 (rdecode_any (.slice A l.length c) l s.p X (HBY.out.grow h) (by unfold maxLen; omega) hp1 hp2))
    have HF := hidden (fun k X (h : Rdr 112 g A c l s X) (hk : k ≠ 0) => rfail16_any g A c l s k X h hk)
    have HSE := hidden he
    have d1 : (s.e == 0) = true := beq_iff_eq.2 he
    rw [he] at q2
    generalize dcd l s.p = d at *
    obtain ⟨n, p2, e2⟩ := d
    simp only [] at HE HD HC
    have HPB := hidden (And.intro hp1 hp2)
    clear hp hp1 hp2 he hl
    go_enter Tryz.func96, Tryz.ntmps96
    go_wp2_with fail
    refine wp_region_loose (tabRs [(8, ConstV (.tuple #[.int .u64 n, .int .i64 p2, .int .i64 e2]))]) (by kernel_rfl) (by kernel_rfl) (tabRs_cons ConstV.lasts tabRs_nil) ?_
    iterate 8 ((with_reducible refine loose_one (v := ?_) (a' := ?_) ?_ ?_ (fun w' hC' hG' => ?_) ?_ ?_); rotate_left 2; (focus rfl); (focus rfl); (focus (obtain ⟨y0, y1⟩ := HX.out w' hC'; clear hC' hG'; go_simp; rfl)); (focus (go_simp; rfl)))
    refine loose_call (R := ConstV (.tuple #[.int .u64 n, .int .i64 p2, .int .i64 e2])) (f := 139) (args := #[.slice A l.length c, .int .i64 s.p]) (by rfl) (by rfl) (fun _ => by go_simp) (fun w' hC' hG' => HC.out w' hC') ?_
    rintro _ ⟨_, _, rfl⟩
    refine ⟨?_, ?_, ?_⟩
    rotate_left
    · go_simp
      rfl
    iterate 7 ((with_reducible refine loose_one (v := ?_) (a' := ?_) ?_ ?_ (fun w' hC' hG' => ?_) ?_ ?_); rotate_left 2; (focus rfl); (focus rfl); (focus (clear hC' hG'; go_simp; rfl)); (focus (go_simp; rfl)))
    refine loose_done (fun w1 hC' hG' => ?_)
    have HG1 := hidden hC'
    have HR1 := hidden (HRR.out.grow hC')
    have HW1 := hidden (HROW.out.grow hC')
    clear hC' hG' q2
    by_cases h0 : e2 = 0
    · have d2 : (e2 == 0) = true := beq_iff_eq.2 h0
      have c1 := HW1.out.cell 1
      have f1 := HW1.out.frozen 1
      simp only [List.getElem?_cons_succ, List.getElem?_cons_zero] at c1
      have HE0 := hidden h0
      clear h0
      go_wp2_with fail
      go_ret
      refine ⟨by rw [HE.out]; first | done | rfl, (Only.of_grows HG1.out _).after (Only.set _ _ _ _), ?_⟩
      rw [HE.out]
      refine ⟨p2, by have h := HW1.out.set_m 1 (.int .i64 p2); rw [HSE.out] at h; simpa [HE0.out] using h, fun _ => rfl, ?_⟩
      have h := HD.out.2.2.1 HE0.out
      have hl := HLN.out
      omega
    · have d2 : (e2 == 0) = false := beq_eq_false_iff_ne.2 h0
      have HN0 := hidden (HD.out.2.2.2.2.2 h0).1
      have HNE := hidden h0
      clear h0
      go_wp2_with fail
      refine (HF.out e2 w1 HR1.out HNE.out).mono ?_
      rintro e w2 ⟨rfl, ho2, hr2⟩
      rw [if_pos HSE.out] at hr2
      have HO2 := hidden ho2
      have HR2 := hidden hr2
      clear ho2 hr2
      go_wp2_with fail
      go_ret
      refine ⟨by rw [HE.out, HN0.out]; first | done | rfl, (Only.of_grows HG1.out _).after HO2.out, ?_⟩
      rw [HE.out]
      obtain ⟨q, h1, h2, h3⟩ := HR2.out
      exact ⟨q, h1, fun h => absurd h HNE.out, h3⟩
  · have HE := hidden (show rdV l s = (0, s) from if_pos he)
    have d1 : (s.e == 0) = false := beq_eq_false_iff_ne.2 he
    clear hp he hl
    go_enter Tryz.func96, Tryz.ntmps96
    go_wp2_with fail
    go_ret
    refine ⟨by rw [HE.out]; first | done | rfl, Only.refl _ _, ?_⟩
    rw [HE.out]
    exact HRR.out.row
set_option maxRecDepth 8000 in
set_option maxHeartbeats 4000000 in
theorem rsmall16_any (g : Nat) (A : Option Addr) (c : Nat) (l : List UInt8) (s : RS) (w : World) (hr : Rdr 112 g A c l s w) (hl : l.length ≤ 4611686018427387904) :
    Calls Tryz.prog 94 #[.pointer (some ⟨g, 0, none⟩)] w (RdC 112 g (.slice A l.length c) w (.int .i64 (rdNm l s).1) ((rdNm l s).2)) := by
  have HRR := hidden hr
  have HV := hidden (rnumber16_any g A c l s w hr hl)
  have HA := hidden (rdV_all l s)
  have HZ := hidden (fun h => rdV_err0 (l := l) (s := s) h)
  have HF := hidden (fun s X (h : Rdr 112 g A c l s X) => rfail16_any g A c l s 6 X h (by decide))
  have HD : Hid (rdNm l s = if 2147483647 < (rdV l s).1 then (0, ⟨(rdV l s).2.p, 6⟩) else rdV l s) := hidden rfl
  generalize rdV l s = d at *
  obtain ⟨n, s1⟩ := d
  simp only [] at HV HA HD HZ
  clear hl
  go_enter Tryz.func94, Tryz.ntmps94
  go_wp2_with fail
  refine HV.out.mono ?_
  rintro e w1 ⟨rfl, ho1, hr1⟩
  have HO1 := hidden ho1
  have HR1 := hidden (HRR.out.step ho1 hr1)
  clear ho1 hr1
  by_cases hn : 2147483647 < n
  · have d1 : decide (2147483647 < n) = true := decide_eq_true hn
    have HE := hidden (show rdNm l s = (0, ⟨s1.p, 6⟩) by rw [HD.out, if_pos hn])
    have HS0 := hidden (show s1.e = 0 from Classical.byContradiction fun h => by have := HZ.out h; omega)
    clear hn
    go_wp2_with fail
    refine (HF.out s1 w1 HR1.out).mono ?_
    rintro e w2 ⟨rfl, ho2, hr2⟩
    rw [if_pos HS0.out] at hr2
    have HO2 := hidden ho2
    have HR2 := hidden hr2
    clear ho2 hr2
    go_wp2_with fail
    go_ret
    refine ⟨by rw [HE.out]; first | done | rfl, HO1.out.after HO2.out, ?_⟩
    rw [HE.out]
    exact HR2.out
  · have d1 : decide (2147483647 < n) = false := decide_eq_false hn
    have HE := hidden (show rdNm l s = (n, s1) by rw [HD.out, if_neg hn])
    have hw : IntKind.i64.wrap n = n := by have := HA.out; rw [IntKind.wrap_i64]; omega
    have hw2 : wrap64 n = n := by have := HA.out; unfold wrap64; omega
    clear hn
    go_wp2_with fail
    go_ret
    refine ⟨by rw [HE.out]; first | done | rfl, HO1.out, ?_⟩
    rw [HE.out]
    exact HR1.out.row
set_option maxRecDepth 8000 in
set_option maxHeartbeats 4000000 in
theorem rcount16_any (g : Nat) (A : Option Addr) (c : Nat) (l : List UInt8) (s : RS) (m : Int) (w : World) (hr : Rdr 112 g A c l s w) (hl : l.length ≤ 4611686018427387904) (hm : 0 ≤ m) :
    Calls Tryz.prog 95 #[.pointer (some ⟨g, 0, none⟩), .int .i64 m] w (RdC 112 g (.slice A l.length c) w (.int .i64 (rdCt l m s).1) ((rdCt l m s).2)) := by
  have HRR := hidden hr
  have HV := hidden (rsmall16_any g A c l s w hr hl)
  have HA := hidden (rdNm_all l s)
  have HZ := hidden (fun h => rdNm_err0 (l := l) (s := s) h)
  have HF := hidden (fun s X (h : Rdr 112 g A c l s X) => rfail16_any g A c l s 18 X h (by decide))
  have HD : Hid (rdCt l m s = if m < (rdNm l s).1 then (0, ⟨(rdNm l s).2.p, 18⟩) else rdNm l s) := hidden rfl
  generalize rdNm l s = d at *
  obtain ⟨n, s1⟩ := d
  simp only [] at HV HA HD HZ
  clear hl
  go_enter Tryz.func95, Tryz.ntmps95
  go_wp2_with fail
  refine HV.out.mono ?_
  rintro e w1 ⟨rfl, ho1, hr1⟩
  have HO1 := hidden ho1
  have HR1 := hidden (HRR.out.step ho1 hr1)
  clear ho1 hr1
  by_cases hn : m < n
  · have d1 : decide (m < n) = true := decide_eq_true hn
    have HE := hidden (show rdCt l m s = (0, ⟨s1.p, 18⟩) by rw [HD.out, if_pos hn])
    have HS0 := hidden (show s1.e = 0 from Classical.byContradiction fun h => by have := HZ.out h; omega)
    clear hn
    go_wp2_with fail
    refine (HF.out s1 w1 HR1.out).mono ?_
    rintro e w2 ⟨rfl, ho2, hr2⟩
    rw [if_pos HS0.out] at hr2
    have HO2 := hidden ho2
    have HR2 := hidden hr2
    clear ho2 hr2
    go_wp2_with fail
    go_ret
    refine ⟨by rw [HE.out]; first | done | rfl, HO1.out.after HO2.out, ?_⟩
    rw [HE.out]
    exact HR2.out
  · have d1 : decide (m < n) = false := decide_eq_false hn
    have HE := hidden (show rdCt l m s = (n, s1) by rw [HD.out, if_neg hn])
    clear hn
    go_wp2_with fail
    go_ret
    refine ⟨by rw [HE.out]; first | done | rfl, HO1.out, ?_⟩
    rw [HE.out]
    exact HR1.out.row
set_option maxRecDepth 8000 in
set_option maxHeartbeats 4000000 in
theorem rflag16_any (g : Nat) (A : Option Addr) (c : Nat) (l : List UInt8) (s : RS) (w : World) (hr : Rdr 112 g A c l s w) (hl : l.length ≤ 4611686018427387904) (hok : OkS l s) :
    Calls Tryz.prog 97 #[.pointer (some ⟨g, 0, none⟩)] w (RdC 112 g (.slice A l.length c) w (.bool (rdFl l s).1) ((rdFl l s).2)) := by
  have HRR := hidden hr
  obtain ⟨⟨p, hrow, hp, hp1, hp2⟩, hby⟩ := hr
  have HROW := hidden hrow
  have HBY := hidden hby
  clear hrow hby
  have q0 := HROW.out.cell 0
  have q1 := HROW.out.cell 1
  have q2 := HROW.out.cell 2
  simp only [List.getElem?_cons_succ, List.getElem?_cons_zero] at q0 q1 q2
  have HF := hidden (fun k X (h : Rdr 112 g A c l s X) (hk : k ≠ 0) => rfail16_any g A c l s k X h hk)
  by_cases he : s.e = 0
  · have hps := hp he
    subst hps
    have HSE := hidden he
    obtain ⟨hk0, hk1⟩ := hok he
    have HD := hidden (show rdFl l s = if s.p = (l.length : Int) then (false, ⟨s.p, 2⟩) else if 1 < byteAt l s.p.toNat then (false, ⟨s.p, 4⟩) else (byteAt l s.p.toNat == 1, ⟨s.p + 1, 0⟩) from if_neg (fun h => h he))
    rw [he] at q2 HROW
    have d1 : (s.e == 0) = true := beq_iff_eq.2 he
    clear hp he hok
    obtain ⟨j, hj⟩ : ∃ j : Nat, s.p = (j : Int) := ⟨s.p.toNat, by omega⟩
    rw [hj] at q1 HROW hk0 hk1 hp1 hp2
    have HJ := hidden hj
    obtain ⟨L, hL⟩ : ∃ L, L = l.length := ⟨_, rfl⟩
    have HLE := hidden hL
    have HD2 := hidden (show rdFl l s = if (j : Int) = (L : Int) then (false, ⟨s.p, 2⟩) else if 1 < byteAt l j then (false, ⟨s.p, 4⟩) else (byteAt l j == 1, ⟨s.p + 1, 0⟩) by rw [HD.out, hj, hL, Int.toNat_natCast])
    rw [← hL] at q0 HROW hk1 hl HF ⊢
    have HX := hidden (fun X (h : Grows w X) => show X.cell? ⟨g, 0, none⟩ = some (.slice A L c) ∧ X.cell? ⟨g, 1, none⟩ = some (.int .i64 (j : Int)) ∧ X.cell? ⟨g, 2, none⟩ = some (.int .i64 0) from ⟨(HROW.out.grow h).cell 0, (HROW.out.grow h).cell 1, (HROW.out.grow h).cell 2⟩)
    clear hL hj HD
    by_cases hend : j = L
    · have HE := hidden (show rdFl l s = (false, ⟨s.p, 2⟩) by rw [HD2.out, if_pos (by omega)])
      have d2 : ((j : Int) == (L : Int)) = true := beq_iff_eq.2 (by omega)
      have d3 : (j == L) = true := beq_iff_eq.2 hend
      clear hend
      go_enter Tryz.func97, Tryz.ntmps97
      go_wp2_with fail
      refine wp_region_loose (tabRs []) (by kernel_rfl) (by kernel_rfl) tabRs_nil ?_
      iterate 10 ((with_reducible refine loose_one (v := ?_) (a' := ?_) ?_ ?_ (fun w' hC' hG' => ?_) ?_ ?_); rotate_left 2; (focus rfl); (focus rfl); (focus (obtain ⟨y0, y1, y2⟩ := HX.out w' hC'; clear hC' hG'; go_simp; rfl)); (focus (go_simp; rfl)))
      refine loose_done (fun w1 hC' hG' => ?_)
      have HG1 := hidden hC'
      have HW1 := hidden (HROW.out.grow hC')
      have HR1 := hidden (HRR.out.grow hC')
      clear hC' hG' q0 q1 q2
      go_wp2_with fail
      refine (HF.out 2 w1 HR1.out (by decide)).mono ?_
      rintro e w7 ⟨rfl, ho7, hr7⟩
      rw [if_pos HSE.out] at hr7
      have HO7 := hidden ho7
      have HR7 := hidden hr7
      clear ho7 hr7
      go_wp2_with fail
      go_ret
      refine ⟨by rw [HE.out]; first | done | rfl, (Only.of_grows HG1.out _).after HO7.out, ?_⟩
      rw [HE.out]
      exact HR7.out
    · have d2 : ((j : Int) == (L : Int)) = false := beq_eq_false_iff_ne.2 (by omega)
      have d3 : (j == L) = false := beq_eq_false_iff_ne.2 hend
      have hjL : j < L := by omega
      obtain ⟨A', c', hea, hcell⟩ := HBY.out
      injection hea with e1 e2 e3
      subst e1 e3
      obtain ⟨bb, ff, rfl, hcc⟩ := hcell (by rw [← HLE.out]; omega)
      have hcj := hcc j (by rw [← HLE.out]; exact hjL)
      obtain ⟨y, hy⟩ : ∃ y : UInt8, y = l[j]'(by rw [← HLE.out]; exact hjL) := ⟨_, rfl⟩
      have hyb : byteAt l j = y.toNat := by
        unfold byteAt
        rw [List.getD_eq_getElem?_getD, List.getElem?_eq_getElem (by rw [← HLE.out]; exact hjL), hy]
        rfl
      have HCB := hidden (show ∀ X, Grows w X → X.cell? ⟨bb, ff + j, none⟩ = some (.int .u8 (y.toNat : Int)) from fun X h => by
        rw [h.cell (World.block_lt_of_cell? _ _ hcj), hcj, ← hy])
      rw [hyb] at HD2
      have hi0 : (0 : Int) ≤ (j : Int) := by omega
      have hi1 : (j : Int) < (L : Int) := by omega
      generalize y.toNat = yn at *
      clear hcell hcc hcj hy hyb e2 hend
      by_cases hb : 1 < yn
      · have HE := hidden (show rdFl l s = (false, ⟨s.p, 4⟩) by rw [HD2.out, if_neg (by omega), if_pos hb])
        have d4 : decide (1 < yn) = true := decide_eq_true hb
        have d5 : decide ((1 : Int) < (yn : Int)) = true := decide_eq_true (by omega)
        clear hb
        go_enter Tryz.func97, Tryz.ntmps97
        go_wp2_with fail
        refine wp_region_loose (tabRs []) (by kernel_rfl) (by kernel_rfl) tabRs_nil ?_
        iterate 10 ((with_reducible refine loose_one (v := ?_) (a' := ?_) ?_ ?_ (fun w' hC' hG' => ?_) ?_ ?_); rotate_left 2; (focus rfl); (focus rfl); (focus (obtain ⟨y0, y1, y2⟩ := HX.out w' hC'; clear hC' hG'; go_simp; rfl)); (focus (go_simp; rfl)))
        refine loose_done (fun w1 hC' hG' => ?_)
        have HG1 := hidden hC'
        have HW1 := hidden (HROW.out.grow hC')
        have HR1 := hidden (HRR.out.grow hC')
        clear hC' hG' q0 q1 q2
        go_wp2_with fail
        refine wp_region_loose (tabRs []) (by kernel_rfl) (by kernel_rfl) tabRs_nil ?_
        iterate 11 ((with_reducible refine loose_one (v := ?_) (a' := ?_) ?_ ?_ (fun w' hC' hG' => ?_) ?_ ?_); rotate_left 2; (focus rfl); (focus rfl); (focus (obtain ⟨y0, y1, y2⟩ := HX.out w' (HG1.out.of_below hC'); have cb := HCB.out w' (HG1.out.of_below hC'); clear hC' hG'; go_simp; rfl)); (focus (go_simp; rfl)))
        refine loose_done (fun w2 hC' hG' => ?_)
        have HG2 := hidden (HG1.out.of_below hC')
        have HW2 := hidden (HW1.out.grow hC')
        have HR2 := hidden (HR1.out.grow hC')
        clear hC' hG'
        go_wp2_with fail
        refine (HF.out 4 w2 HR2.out (by decide)).mono ?_
        rintro e w7 ⟨rfl, ho7, hr7⟩
        rw [if_pos HSE.out] at hr7
        have HO7 := hidden ho7
        have HR7 := hidden hr7
        clear ho7 hr7
        go_wp2_with fail
        go_ret
        refine ⟨by rw [HE.out]; first | done | rfl, (Only.of_grows HG2.out _).after HO7.out, ?_⟩
        rw [HE.out]
        exact HR7.out
      · have HE := hidden (show rdFl l s = (yn == 1, ⟨s.p + 1, 0⟩) by rw [HD2.out, if_neg (by omega), if_neg hb])
        have d4 : decide (1 < yn) = false := decide_eq_false hb
        have d5 : decide ((1 : Int) < (yn : Int)) = false := decide_eq_false (by omega)
        have d6 : ((yn : Int) == 1) = (yn == 1) := by
          by_cases h : yn = 1
          · rw [h]; rfl
          · rw [beq_eq_false_iff_ne.2 h]; exact beq_eq_false_iff_ne.2 (by omega)
        have hjb : j ≤ 4611686018427387904 := by omega
        clear hb
        go_enter Tryz.func97, Tryz.ntmps97
        go_wp2_with fail
        refine wp_region_loose (tabRs []) (by kernel_rfl) (by kernel_rfl) tabRs_nil ?_
        iterate 10 ((with_reducible refine loose_one (v := ?_) (a' := ?_) ?_ ?_ (fun w' hC' hG' => ?_) ?_ ?_); rotate_left 2; (focus rfl); (focus rfl); (focus (obtain ⟨y0, y1, y2⟩ := HX.out w' hC'; clear hC' hG'; go_simp; rfl)); (focus (go_simp; rfl)))
        refine loose_done (fun w1 hC' hG' => ?_)
        have HG1 := hidden hC'
        have HW1 := hidden (HROW.out.grow hC')
        have HR1 := hidden (HRR.out.grow hC')
        clear hC' hG' q0 q1 q2
        go_wp2_with fail
        refine wp_region_loose (tabRs []) (by kernel_rfl) (by kernel_rfl) tabRs_nil ?_
        iterate 11 ((with_reducible refine loose_one (v := ?_) (a' := ?_) ?_ ?_ (fun w' hC' hG' => ?_) ?_ ?_); rotate_left 2; (focus rfl); (focus rfl); (focus (obtain ⟨y0, y1, y2⟩ := HX.out w' (HG1.out.of_below hC'); have cb := HCB.out w' (HG1.out.of_below hC'); clear hC' hG'; go_simp; rfl)); (focus (go_simp; rfl)))
        refine loose_done (fun w2 hC' hG' => ?_)
        have HG2 := hidden (HG1.out.of_below hC')
        have HW2 := hidden (HW1.out.grow hC')
        have HR2 := hidden (HR1.out.grow hC')
        clear hC' hG'
        obtain ⟨bq, hbq⟩ : ∃ b, (yn == 1) = b := ⟨_, rfl⟩
        rw [hbq] at HE d6
        clear hbq
        have q1 := HW2.out.cell 1
        have f1 := HW2.out.frozen 1
        simp only [List.getElem?_cons_succ, List.getElem?_cons_zero] at q1
        go_wp2_with fail
        go_ret
        refine ⟨by rw [HE.out]; first | done | rfl, (Only.of_grows HG2.out _).after (Only.set _ _ _ _), ?_⟩
        rw [HE.out]
        exact ⟨(j : Int) + 1, by have h := HW2.out.set_m 1 (.int .i64 ((j : Int) + 1)); simpa using h, fun _ => by rw [HJ.out], by omega, by omega⟩
  · have HE := hidden (show rdFl l s = (false, s) from if_pos he)
    have d1 : (s.e == 0) = false := beq_eq_false_iff_ne.2 he
    clear hp he hl hok
    go_enter Tryz.func97, Tryz.ntmps97
    go_wp2_with fail
    go_ret
    refine ⟨by rw [HE.out]; first | done | rfl, Only.refl _ _, ?_⟩
    rw [HE.out]
    exact HRR.out.row
set_option maxRecDepth 8000 in
set_option maxHeartbeats 4000000 in
theorem rvalue16_any (g : Nat) (A : Option Addr) (c : Nat) (l : List UInt8) (s : RS) (w : World) (hr : Rdr 112 g A c l s w) (hl : l.length ≤ 4611686018427387904) (hlc : l.length ≤ c) :
    Calls Tryz.prog 98 #[.pointer (some ⟨g, 0, none⟩)] w (RdC 112 g (.slice A l.length c) w (.agg #[.int .i64 (rdVl l s).1.k, .int .i64 (rdVl l s).1.n, .string (rdVl l s).1.t]) ((rdVl l s).2)) := by
  have HRR := hidden hr
  obtain ⟨⟨p, hrow, hp, hp1, hp2⟩, hby⟩ := hr
  have HROW := hidden hrow
  have HBY := hidden hby
  clear hrow hby
  obtain ⟨W0, hW0⟩ : ∃ W, W = w.alloc (.cells #[.int .i64 0, .int .i64 0, .string ⟨#[]⟩] 35) := ⟨_, rfl⟩
  have HG0 := hidden (show Grows w W0 by rw [hW0]; exact growK _ _)
  have HR0 := hidden (show Row W0 w.heap.size 35 [.int .i64 0, .int .i64 0, .string ⟨#[]⟩] by rw [hW0]; exact Row.new w 35 #[.int .i64 0, .int .i64 0, .string ⟨#[]⟩] [.int .i64 0, .int .i64 0, .string ⟨#[]⟩] rfl)
  have q2 := (HROW.out.grow HG0.out).cell 2
  simp only [List.getElem?_cons_succ, List.getElem?_cons_zero] at q2
  have HGL := hidden HROW.out.lt
  have HS0 := hidden (show W0.heap.size = w.heap.size + 1 by rw [hW0]; simp)
  by_cases he : s.e = 0
  · have hps := hp he
    subst hps
    have HE := hidden (show rdVl l s = (⟨(decO l s.p).k, (decO l s.p).n, (decO l s.p).t⟩, ⟨(decO l s.p).p, (decO l s.p).e⟩) from if_neg (fun h => h he))
    have HD := hidden (decO_all l s.p)
    have HLN := hidden hl
    have HSE := hidden he
    have HF := hidden (fun k X (h : Rdr 112 g A c l s X) (hk : k ≠ 0) => rfail16_any g A c l s k X h hk)
    have HX := hidden (fun X (h : Grows W0 X) => show X.cell? ⟨g, 0, none⟩ = some (.slice A l.length c) ∧ X.cell? ⟨g, 1, none⟩ = some (.int .i64 s.p) from ⟨(HROW.out.grow (HG0.out.of_below h)).cell 0, (HROW.out.grow (HG0.out.of_below h)).cell 1⟩)
    have HC := hidden (fun X (h : IsBytes X (.slice A l.length c) l) => rdecodev_any A c l s.p X h hl hlc)
    have d1 : (s.e == 0) = true := beq_iff_eq.2 he
    rw [he] at q2
    generalize decO l s.p = d at *
    clear hp hp1 hp2 he hl hlc
    rw [hW0] at q2
    go_enter Tryz.func98, Tryz.ntmps98
    go_wp2_with fail
    rw [← hW0]
    rw [← hW0] at q2
    letI : SteQ := vlSte W0.heap.size [.int .i64 d.k, .int .i64 d.n, .string d.t]
    have HXX := hidden (fun X (h : VlT W0.heap.size [.int .i64 d.k, .int .i64 d.n, .string d.t] W0 X) => HX.out X (h.only.grows fun i hi => hi.1))
    have HCX := hidden (fun X (h : VlT W0.heap.size [.int .i64 d.k, .int .i64 d.n, .string d.t] W0 X) => HC.out X (HBY.out.grow (HG0.out.of_below (h.only.grows fun i hi => hi.1))))
    refine wp_region_looseX (tabX [(8, fun _ v _ => v = .tuple #[.agg #[.int .i64 d.k, .int .i64 d.n, .string d.t], .int .i64 d.p, .int .i64 d.e]), (13, fun _ => NewVX W0.heap.size), (14, fun s _ w' => ∀ b, s = .pointer (some ⟨b, 0, none⟩) → Row w' b 35 [.int .i64 d.k, .int .i64 d.n, .string d.t] ∧ W0.heap.size ≤ b)]) (by kernel_rfl) (by kernel_rfl) ?_ ?_
    · exact tabX_cons (fun _ _ _ _ h _ => h) (tabX_cons NewVX.lasts (tabX_cons (fun s v w w' hr ht b hb => ⟨(show VlT _ _ _ _ from ht).done b (hr b hb).2 (hr b hb).1, (hr b hb).2⟩) tabX_nil))
    iterate 8 ((with_reducible refine loose_oneX (v := ?_) (a' := ?_) ?_ ?_ (fun w' hC' hG' => ?_) ?_ ?_); rotate_left 2; (focus rfl); (focus rfl); (focus (obtain ⟨y0, y1⟩ := HXX.out w' hC'; clear hC' hG'; go_simp; rfl)); (focus (go_simp; rfl)))
    refine loose_callX (R := fun _ v _ => v = .tuple #[.agg #[.int .i64 d.k, .int .i64 d.n, .string d.t], .int .i64 d.p, .int .i64 d.e]) (f := 140) (args := #[.slice A l.length c, .int .i64 s.p]) (by rfl) (by rfl) (fun _ => by go_simp) (fun w' hC' hG' => (HCX.out w' hC').mono fun e w2 ⟨he, hg⟩ => ⟨_, he, VlT.of_grows hg, rfl⟩) ?_
    rintro _ ⟨_, _, rfl⟩
    refine ⟨?_, ?_, ?_⟩
    rotate_left
    · go_simp
      rfl
    iterate 4 ((with_reducible refine loose_oneX (v := ?_) (a' := ?_) ?_ ?_ (fun w' hC' hG' => ?_) ?_ ?_); rotate_left 2; (focus rfl); (focus rfl); (focus (clear hC' hG'; go_simp; rfl)); (focus (go_simp; rfl)))
    refine loose_newX (R := fun _ => NewVX W0.heap.size) (by rfl) (by rfl) (fun w' hC' hG' => ?_) ?_
    · exact ⟨.pointer (some ⟨w'.heap.size, 0, none⟩), w'.alloc (.cells #[.int .i64 0, .int .i64 0, .string ⟨#[]⟩] 35), by first | rfl | go_simp, VlT.of_grows (growK _ _), w'.heap.size, rfl, (show VlT _ _ W0 w' from hC').only.size, _, _, _, Row.new w' 35 #[.int .i64 0, .int .i64 0, .string ⟨#[]⟩] [.int .i64 0, .int .i64 0, .string ⟨#[]⟩] rfl⟩
    rintro _ ⟨_, _, g8, rfl, _, _⟩
    refine ⟨?_, ?_, ?_⟩
    rotate_left
    · go_simp
      rfl
    refine loose_storeX (R := fun s _ w' => ∀ b, s = .pointer (some ⟨b, 0, none⟩) → Row w' b 35 [.int .i64 d.k, .int .i64 d.n, .string d.t] ∧ W0.heap.size ≤ b) (by rfl) (by rfl) (fun w' hC' hG' => ?_) ?_
    · have h8 : NewVX W0.heap.size (.pointer (some ⟨g8, 0, none⟩)) w' := (hG' 13 (by kernel_rfl)).2 rfl
      obtain ⟨g9, e9, hg9, p9, q9, r9, hr9⟩ := h8
      injection e9 with e9
      injection e9 with e9
      injection e9 with e9
      subst e9
      have hst := VlT.store (a := .int .i64 d.k) (b := .int .i64 d.n) (c := .string d.t) hg9 hr9
      refine ⟨_, store_run_vl16 _ _ rfl g8 d.k d.n d.t rfl (by rfl) hr9, hst.1, fun b hb => ?_⟩
      have e : g8 = b := by
        have e1 : (Value.pointer (some ⟨g8, 0, none⟩)) = .pointer (some ⟨b, 0, none⟩) := hb
        injection e1 with e1
        injection e1 with e1
        injection e1 with e1
      subst e
      exact ⟨hst.2, hg9⟩
    intro v8 _
    refine ⟨?_, ?_, ?_⟩
    rotate_left
    · go_simp
      rfl
    iterate 2 ((with_reducible refine loose_oneX (v := ?_) (a' := ?_) ?_ ?_ (fun w' hC' hG' => ?_) ?_ ?_); rotate_left 2; (focus rfl); (focus rfl); (focus (clear hC' hG'; go_simp; rfl)); (focus (go_simp; rfl)))
    refine loose_doneX (fun w1 hC' hG' => ?_)
    have hT := (show VlT _ _ W0 w1 from hC')
    obtain ⟨hr8, hb8⟩ : Row w1 g8 35 [.int .i64 d.k, .int .i64 d.n, .string d.t] ∧ W0.heap.size ≤ g8 := (hG' 14).2 rfl g8 rfl
    have hg1 : Grows W0 w1 := hT.only.grows fun i hi => hi.1
    have HG1 := hidden (HG0.out.of_below hg1)
    have HR1 := hidden (HROW.out.grow HG1.out)
    have HR8 := hidden hr8
    have HB8 := hidden hb8
    have HRV := hidden (HR0.out.grow hg1)
    have HNE := hidden (show g8 ≠ g by have := HS0.out; have := HGL.out; omega)
    have HNV := hidden (show w.heap.size ≠ g by have := HGL.out; omega)
    have HN8 := hidden (show g8 ≠ w.heap.size by have := HS0.out; omega)
    clear hT hC' hG' hr8 hb8 hg1 q2
    have HRW := hidden (HRR.out.grow HG1.out)
    by_cases h0 : d.e = 0
    · have d2 : (d.e == 0) = true := beq_iff_eq.2 h0
      have c1 := HR1.out.cell 1
      have f1 := HR1.out.frozen 1
      have HR3 := hidden (HR1.out.set_m 1 (.int .i64 d.p))
      have HO3 := hidden (Only.set w1 g 1 (.int .i64 d.p))
      have HV3 := hidden (HO3.out.row HR8.out HNE.out)
      have HW3 := hidden (HO3.out.row HRV.out HNV.out)
      have v0 := HV3.out.cell 0
      have v1 := HV3.out.cell 1
      have v2 := HV3.out.cell 2
      simp only [List.getElem?_cons_succ, List.getElem?_cons_zero] at v0 v1 v2 c1
      have HE0 := hidden h0
      clear h0
      go_wp2_with ((with_reducible refine at_vl rfl _ _ rfl ?_); refine wpList_store_vlO rfl _ _ rfl w.heap.size rfl d.k d.n d.t rfl _ _ _ HW3.out ?_; intro W4 hr4 hk4; have HR4 := hidden hr4; have HG4 := hidden (hk4.row HR3.out (Ne.symm HNV.out)); have HO4 := hidden (show Only (fun k => k = g) w W4 from ((Only.of_grows HG1.out (fun k => k = g)).after HO3.out).trans hk4 (fun i hi => .inr (by rw [hi]; exact Nat.le_refl _))); clear hr4 hk4)
      refine bodyPost_ret (results_cell_row rfl _ _ _ _ _ _ _ rfl HR4.out Tryz.underlying35 rfl size_val) rfl ⟨by rw [HE.out]; first | done | rfl, HO4.out, ?_⟩
      rw [HE.out]
      refine ⟨d.p, by have h := HG4.out; rw [HSE.out] at h; simpa [HE0.out] using h, fun _ => rfl, ?_⟩
      have h := HD.out.1 HE0.out
      have hl := HLN.out
      omega
    · have d2 : (d.e == 0) = false := beq_eq_false_iff_ne.2 h0
      have HZ := hidden (HD.out.2.2.2 h0)
      have HNE0 := hidden h0
      clear h0
      go_wp2_with fail
      refine (HF.out d.e w1 HRW.out HNE0.out).mono ?_
      rintro e w2 ⟨rfl, ho2, hr2⟩
      rw [if_pos HSE.out] at hr2
      have HO2 := hidden ho2
      have HR2 := hidden hr2
      have HW2 := hidden (ho2.row HRV.out HNV.out)
      clear ho2 hr2
      go_wp2_with ((with_reducible refine at_vl rfl _ _ rfl ?_); refine wpList_store_vlO rfl _ _ rfl w.heap.size rfl 0 0 ⟨#[]⟩ rfl _ _ _ HW2.out ?_; intro W4 hr4 hk4; have HR4 := hidden hr4; have HG4 := hidden (hk4.mono (fun i hi => .inl hi) : Only (fun i => i = w.heap.size) w2 W4); have HO4 := hidden (show Only (fun k => k = g) w W4 from ((Only.of_grows HG1.out (fun k => k = g)).after HO2.out).trans hk4 (fun i hi => .inr (by rw [hi]; exact Nat.le_refl _))); clear hr4 hk4)
      refine bodyPost_ret (results_cell_row rfl _ _ _ _ _ _ _ rfl HR4.out Tryz.underlying35 rfl size_val) rfl ⟨by rw [HE.out]; show _ = Ending.returned (.agg #[.int .i64 d.k, .int .i64 d.n, .string d.t]); rw [HZ.out]; rfl, HO4.out, ?_⟩
      rw [HE.out]
      obtain ⟨q, h1, h2, h3⟩ := HR2.out.only HG4.out (Ne.symm HNV.out)
      exact ⟨q, h1, fun h => absurd h HNE0.out, h3⟩
  · have HE := hidden (show rdVl l s = (nulX, s) from if_pos he)
    have d1 : (s.e == 0) = false := beq_eq_false_iff_ne.2 he
    clear hp he hl hlc
    rw [hW0] at q2
    go_enter Tryz.func98, Tryz.ntmps98
    go_wp2_with fail
    have HRZ := hidden (Row.new w 35 #[.int .i64 0, .int .i64 0, .string ⟨#[]⟩] [.int .i64 0, .int .i64 0, .string ⟨#[]⟩] rfl)
    refine bodyPost_ret (results_cell_row rfl _ _ _ _ _ _ _ rfl HRZ.out Tryz.underlying35 rfl size_val) rfl ⟨by rw [HE.out]; first | done | rfl, Only.of_grows (growK _ _) _, ?_⟩
    rw [HE.out]
    exact HRR.out.row.grow (growK _ _)
end Go.Proofs.YtoaklmceejeblaaGreat
