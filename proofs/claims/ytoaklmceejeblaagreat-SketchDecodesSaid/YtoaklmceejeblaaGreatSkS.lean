/-
  Shaken: what the claims of this seat need of this text. No condition.
-/
import Derived.Test.YtoaklmceejeblaaGreatSkR
import Derived.Test.YtoaklmceejeblaaGreatSqU
namespace Go.Proofs.YtoaklmceejeblaaGreat
open Go.RowKit
set_option linter.unusedVariables false
set_option linter.unusedSimpArgs false
theorem rdCt_err {l : List UInt8} {s : RS} {m : Int} (hm : 0 ≤ m) (h : s.e ≠ 0) : rdCt l m s = (0, s) := by
  unfold rdCt
  rw [rdNm_err h, if_neg (show ¬ m < 0 by omega)]
theorem rdHs_err {l : List UInt8} {s : RS} (h : s.e ≠ 0) : ∀ k, (rdHs l s k).2.2 = s
  | 0 => rfl
  | k + 1 => by
    show (rdV l (rdHs l s k).2.2).2 = s
    rw [rdHs_err h k]
    unfold rdV
    rw [if_pos h]
theorem rdFl_err {l : List UInt8} {s : RS} (h : s.e ≠ 0) : rdFl l s = (false, s) := if_pos h
theorem rdVl_err {l : List UInt8} {s : RS} (h : s.e ≠ 0) : rdVl l s = (nulX, s) := if_pos h
theorem rdNs_err0 {l : List UInt8} {s : RS} (h : s.e ≠ 0) (k : Nat) : (rdNs l s k).2 = s := by
  have := rdNs_err (l := l) (s := s) (k := 0) h k
  rwa [Nat.zero_add] at this
theorem rdFs_err {l : List UInt8} {s : RS} (h : s.e ≠ 0) : ∀ k, (rdFs l s k).2.2 = s
  | 0 => rfl
  | k + 1 => by
    show (rdNs l (rdVl l (rdFs l s k).2.2).2 2).2 = s
    rw [rdFs_err h k, rdVl_err h, rdNs_err0 h]
theorem decSk_bad {l : List UInt8} {off : Int} (h : off < 0 ∨ (l.length : Int) < off) : decSk l off = (zeroSk, 0, 1) := by
  have e1 : rdNm l ⟨off, 0⟩ = (0, ⟨0, 1⟩) := by
    have e0 : rdV l ⟨off, 0⟩ = (0, ⟨0, 1⟩) := by
      unfold rdV
      rw [if_neg (by simp)]
      show ((dcd l off).1, (⟨(dcd l off).2.1, (dcd l off).2.2⟩ : RS)) = _
      rw [dcd_bad h]
    unfold rdNm
    rw [e0, if_neg (show ¬ (2147483647 : Int) < 0 by decide)]
  have h1 : (⟨0, 1⟩ : RS).e ≠ 0 := by decide
  have h2 : (rdSk l off).2.e = 1 := by
    unfold rdSk
    simp only []
    rw [e1]
    simp only []
    rw [rdNm_err h1]
    simp only []
    rw [rdCt_err (by decide) h1]
    simp only []
    rw [rdHs_err h1, rdFl_err h1]
    simp only []
    rw [rdNs_err0 h1, rdCt_err (by decide) h1]
    simp only []
    rw [rdFs_err h1]
  unfold decSk
  rw [if_pos (by rw [h2]; decide), h2]
structure OneSt (g b8 k : Nat) (sl : Value) (z : List Value) (et : TypeId) (W1 : World) (s : RS) (xs : List Value) (v : Value) (X : World) : Prop where
  only : Only (fun j => j = g ∨ j = b8) W1 X
  rd : RdRow 112 g sl s X
  row : Row X b8 29 (z.set k v)
  own : X.ownsRow W1.heap.size et 1 v xs.length xs
theorem OneSt.read {g b8 k : Nat} {sl : Value} {z : List Value} {et : TypeId} {W1 : World} {s s' : RS} {xs : List Value} {v : Value} {X Y : World} (h : OneSt g b8 k sl z et W1 s xs v X) (hg : g < W1.heap.size) (hne : b8 ≠ g) (ho : Only (fun j => j = g) X Y) (hr : RdRow 112 g sl s' Y) : OneSt g b8 k sl z et W1 s' xs v Y :=
  ⟨h.only.trans ho (fun i hi => .inl (.inl hi)), hr, ho.row h.row hne, ownsRow_only h.own ho (fun k hk e => by have := (h.own.lt k hk).1; omega)⟩
theorem OneSt.put {g b8 k : Nat} {sl : Value} {z : List Value} {et : TypeId} {W1 : World} {s : RS} {xs ys : List Value} {v v' : Value} {X Y : World} (h : OneSt g b8 k sl z et W1 s xs v X) (hg : g < W1.heap.size) (hb : b8 < W1.heap.size) (hne : b8 ≠ g)
    (ho : Only (fun j => v.ownBlock = some j) X Y) (hy : Y.ownsRow W1.heap.size et 1 v' ys.length ys) : OneSt g b8 k sl z et W1 s ys v' (Y.setCell ⟨b8, k, none⟩ v') := by
  have n1 : ∀ k, v.ownBlock = some k → W1.heap.size ≤ k := fun k hk => (h.own.lt k hk).1
  have o1 : Only (fun j => j = g ∨ j = b8) W1 Y := h.only.trans ho (fun i hi => .inr (n1 i hi))
  have r1 := ho.row h.row (fun e => by have := n1 _ e; omega)
  refine ⟨o1.trans (Only.set Y b8 k v') (fun i hi => .inl (.inr hi)), (h.rd.only ho (fun e => by have := n1 _ e; omega)).only (Only.set _ _ _ _) (fun e => hne e.symm), ?_, ownsRow_only hy (Only.set _ _ _ _) (fun k hk e => by have := (hy.lt k hk).1; omega)⟩
  have h2 := r1.set_m k v'
  rwa [List.set_set] at h2
structure FsStR (g b3 : Nat) (sl : Value) (z : List Value) (W7 : World) (s : RS) (fs : List Val) (rk : List Int) (v5 v6 : Value) (X : World) : Prop where
  only : Only (fun j => j = g ∨ j = b3) W7 X
  rd : RdRow 112 g sl s X
  row : Row X b3 29 (z ++ [v5, v6])
  ofs : X.ownsRow W7.heap.size 35 3 v5 fs.length (vcells fs)
  ork : X.ownsRow W7.heap.size 3 1 v6 rk.length (icells rk)
theorem FsStR.size {g b3 : Nat} {sl : Value} {z : List Value} {W7 : World} {s : RS} {fs : List Val} {rk : List Int} {v5 v6 : Value} {X : World} (h : FsStR g b3 sl z W7 s fs rk v5 v6 X) : W7.heap.size ≤ X.heap.size := h.only.size
theorem FsStR.read {g b3 : Nat} {sl : Value} {z : List Value} {W7 : World} {s s' : RS} {fs : List Val} {rk : List Int} {v5 v6 : Value} {X Y : World} (h : FsStR g b3 sl z W7 s fs rk v5 v6 X) (hg : g < W7.heap.size) (hne : b3 ≠ g) (ho : Only (fun j => j = g) X Y) (hr : RdRow 112 g sl s' Y) : FsStR g b3 sl z W7 s' fs rk v5 v6 Y :=
  ⟨h.only.trans ho (fun i hi => .inl (.inl hi)), hr, ho.row h.row hne, ownsRow_only h.ofs ho (fun k hk e => by have := (h.ofs.lt k hk).1; omega), ownsRow_only h.ork ho (fun k hk e => by have := (h.ork.lt k hk).1; omega)⟩
theorem FsStR.fence {g b3 : Nat} {sl : Value} {z : List Value} {W7 : World} {s : RS} {fs : List Val} {rk : List Int} {v5 v6 v5' : Value} {X Y : World} {x : Val} (h : FsStR g b3 sl z W7 s fs rk v5 v6 X) (hg : g < W7.heap.size) (hb : b3 < W7.heap.size) (hne : b3 ≠ g) (hz : z.length = 5)
    (ho : Only (fun j => v5.ownBlock = some j) X Y) (hy : Y.ownsRow W7.heap.size 35 3 v5' (fs ++ [x]).length (vcells (fs ++ [x]))) : FsStR g b3 sl z W7 s (fs ++ [x]) rk v5' v6 (Y.setCell ⟨b3, 5, none⟩ v5') := by
  have n1 : ∀ k, v5.ownBlock = some k → W7.heap.size ≤ k := fun k hk => (h.ofs.lt k hk).1
  have o1 : Only (fun j => j = g ∨ j = b3) W7 Y := h.only.trans ho (fun i hi => .inr (n1 i hi))
  have r1 := ho.row h.row (fun e => by have := n1 _ e; omega)
  have k1 := ownsRow_only h.ork ho (ownsRow_apart h.ork h.ofs (by decide))
  refine ⟨o1.trans (Only.set Y b3 5 v5') (fun i hi => .inl (.inr hi)), (h.rd.only ho (fun e => by have := n1 _ e; omega)).only (Only.set _ _ _ _) (fun e => hne e.symm), ?_, ownsRow_only hy (Only.set _ _ _ _) (fun k hk e => by have := (hy.lt k hk).1; omega), ownsRow_only k1 (Only.set _ _ _ _) (fun k hk e => by have := (k1.lt k hk).1; omega)⟩
  have h2 := r1.set_m 5 v5'
  have e : (z ++ [v5, v6]).set 5 v5' = z ++ [v5', v6] := by rw [List.set_append_right _ _ (by omega), hz]; rfl
  rwa [e] at h2
theorem FsStR.ranks {g b3 : Nat} {sl : Value} {z : List Value} {W7 : World} {s : RS} {fs : List Val} {rk ys : List Int} {v5 v6 v6' : Value} {X Y : World} (h : FsStR g b3 sl z W7 s fs rk v5 v6 X) (hg : g < W7.heap.size) (hb : b3 < W7.heap.size) (hne : b3 ≠ g) (hz : z.length = 5)
    (ho : Only (fun j => v6.ownBlock = some j) X Y) (hy : Y.ownsRow W7.heap.size 3 1 v6' (rk ++ ys).length (icells (rk ++ ys))) : FsStR g b3 sl z W7 s fs (rk ++ ys) v5 v6' (Y.setCell ⟨b3, 6, none⟩ v6') := by
  have n1 : ∀ k, v6.ownBlock = some k → W7.heap.size ≤ k := fun k hk => (h.ork.lt k hk).1
  have o1 : Only (fun j => j = g ∨ j = b3) W7 Y := h.only.trans ho (fun i hi => .inr (n1 i hi))
  have r1 := ho.row h.row (fun e => by have := n1 _ e; omega)
  have k1 := ownsRow_only h.ofs ho (ownsRow_apart h.ofs h.ork (by decide))
  refine ⟨o1.trans (Only.set Y b3 6 v6') (fun i hi => .inl (.inr hi)), (h.rd.only ho (fun e => by have := n1 _ e; omega)).only (Only.set _ _ _ _) (fun e => hne e.symm), ?_, ownsRow_only k1 (Only.set _ _ _ _) (fun k hk e => by have := (k1.lt k hk).1; omega), ownsRow_only hy (Only.set _ _ _ _) (fun k hk e => by have := (hy.lt k hk).1; omega)⟩
  have h2 := r1.set_m 6 v6'
  have e : (z ++ [v5, v6]).set 6 v6' = z ++ [v5, v6'] := by rw [List.set_append_right _ _ (by omega), hz]; rfl
  rwa [e] at h2
theorem info_u64S : (Tryz.prog.info? 56).map (fun i => (i.zero, i.size, i.bytes)) = some (some (.int .u64 0), 1, 8) := by kernel_rfl
set_option maxRecDepth 8000 in
set_option maxHeartbeats 16000000 in
theorem rDecode16_any (A : Option Addr) (c : Nat) (l : List UInt8) (off : Int) (w : World) (hb : IsBytes w (.slice A l.length c) l) (hl : l.length ≤ 4611686018427387904) (hlc : l.length ≤ c) (h63 : -9223372036854775808 ≤ off) (h64 : off ≤ 9223372036854775807) :
    Calls Tryz.prog 32 #[.slice A l.length c, .int .i64 off] w fun e w' => ∃ v, e = .returned (.tuple #[v, .int .i64 (decSk l off).2.1, .int .i64 (decSk l off).2.2]) ∧ IsK w' v (decSk l off).1 ∧ Grows w w' := by
  have HKZ := hidden (fun W => isK_zero W)
  by_cases hbad : off < 0 ∨ (l.length : Int) < off
  · have HDE := hidden (decSk_bad hbad)
    have HZR := hidden (skrow_new w (.int .i64 0) (.int .i64 0) (.slice none 0 0) (.bool false) (.slice none 0 0) (.slice none 0 0) (.slice none 0 0))
    rcases (show off < 0 ∨ ((l.length : Int) < off ∧ ¬ off < 0) by omega) with h1 | ⟨h1, h2⟩
    · have d1 : decide (off < 0) = true := decide_eq_true h1
      clear hb hl hlc h63 h64 hbad h1
      go_enter Tryz.func32, Tryz.ntmps32
      go_wp2_with fail
      refine bodyPost_ret (results_sk3 rfl _ _ _ _ _ _ _ _ _ _ _ _ rfl HZR.out rfl rfl) rfl ⟨.agg #[.int .i64 0, .int .i64 0, .slice none 0 0, .bool false, .slice none 0 0, .slice none 0 0, .slice none 0 0], by rw [HDE.out]; first | done | rfl, by rw [HDE.out]; exact HKZ.out _, growK _ _⟩
    · have d1 : decide (off < 0) = false := decide_eq_false h2
      have d2 : decide ((l.length : Int) < off) = true := decide_eq_true h1
      clear hb hl hlc h63 h64 hbad h1 h2
      go_enter Tryz.func32, Tryz.ntmps32
      go_wp2_with fail
      refine bodyPost_ret (results_sk3 rfl _ _ _ _ _ _ _ _ _ _ _ _ rfl HZR.out rfl rfl) rfl ⟨.agg #[.int .i64 0, .int .i64 0, .slice none 0 0, .bool false, .slice none 0 0, .slice none 0 0, .slice none 0 0], by rw [HDE.out]; first | done | rfl, by rw [HDE.out]; exact HKZ.out _, growK _ _⟩
  have d1 : decide (off < 0) = false := decide_eq_false (by omega)
  have d2 : decide ((l.length : Int) < off) = false := decide_eq_false (by omega)
  have HPA := hidden (rdSk_parts l off)
  have HDE : Hid (decSk l off = if (rdSk l off).2.e ≠ 0 then (zeroSk, 0, (rdSk l off).2.e) else if validKB (rdSk l off).1 = true then ((rdSk l off).1, (rdSk l off).2.p, 0) else (zeroSk, 0, 4)) := hidden rfl
  have HSP : Hid (rdSk l off = (let s1 := rdNm l ⟨off, 0⟩; let s2 := rdNm l s1.2; let s3 := rdCt l 32 s2.2; let s4 := rdHs l s3.2 s3.1.toNat; let s5 := rdFl l s4.2.2; let s6 := rdNs l s5.2 256; let s7 := rdCt l 17 s6.2; let s8 := rdFs l s7.2 s7.1.toNat; (⟨s1.1, s2.1, s4.1, s5.1, s6.1, s8.1, s8.2.1⟩, s8.2.2))) := hidden rfl
  generalize rdSk l off = SKR at *
  generalize decSk l off = out at *
  have HL := hidden hl
  have HLC := hidden hlc
  obtain ⟨W0, hW0⟩ : ∃ W, W = (w.alloc (.cells #[.int .i64 0, .int .i64 0, .slice none 0 0, .bool false, .slice none 0 0, .slice none 0 0, .slice none 0 0] 29)).alloc (.cells #[.slice A l.length c, .int .i64 off, .int .i64 0] 112) := ⟨_, rfl⟩
  have HG0 := hidden (show Grows w W0 by rw [hW0]; exact (growK _ _).of_below (growK _ _))
  have HT0 := hidden (show Row W0 w.heap.size 29 [.int .i64 0, .int .i64 0, .slice none 0 0, .bool false, .slice none 0 0, .slice none 0 0, .slice none 0 0] by rw [hW0]; exact (skrow_new _ _ _ _ _ _ _ _).grow (growK _ _))
  have HC0 := hidden (show Row W0 (w.heap.size + 1) 112 [.slice A l.length c, .int .i64 off, .int .i64 0] by
    rw [hW0]
    have h := Row.new (w.alloc (.cells #[.int .i64 0, .int .i64 0, .slice none 0 0, .bool false, .slice none 0 0, .slice none 0 0, .slice none 0 0] 29)) 112 #[.slice A l.length c, .int .i64 off, .int .i64 0] [.slice A l.length c, .int .i64 off, .int .i64 0] rfl
    have e : (w.alloc (.cells #[.int .i64 0, .int .i64 0, .slice none 0 0, .bool false, .slice none 0 0, .slice none 0 0, .slice none 0 0] 29)).heap.size = w.heap.size + 1 := by simp
    rwa [e] at h)
  have HSZ := hidden (show W0.heap.size = w.heap.size + 2 by rw [hW0]; simp)
  have HR := hidden (show Rdr 112 (w.heap.size + 1) A c l ⟨off, 0⟩ W0 from ⟨⟨off, HC0.out, fun _ => rfl, h63, h64⟩, hb.grow HG0.out⟩)
  clear hb hl hlc h63 h64 hbad
  go_enter Tryz.func32, Tryz.ntmps32
  go_wp2_with fail
  rw [← hW0]
  clear hW0 d1 d2
  refine (rsmall16_any (w.heap.size + 1) A c l ⟨off, 0⟩ W0 HR.out HL.out).mono ?_
  rintro e X1 ⟨rfl, ho1, hr1⟩
  generalize rdNm l ⟨off, 0⟩ = d at *
  obtain ⟨n1, s1⟩ := d
  simp only [] at HSP hr1 ⊢
  obtain ⟨Y1, hY1⟩ : ∃ X, X = X1.alloc (.cells #[.int .i64 n1, .int .i64 0, .slice none 0 0, .bool false, .slice none 0 0, .slice none 0 0, .slice none 0 0] 29) := ⟨_, rfl⟩
  obtain ⟨b8, hb8⟩ : ∃ b, b = X1.heap.size := ⟨_, rfl⟩
  have HO1 := hidden (show Only (fun j => j = w.heap.size + 1) W0 Y1 by rw [hY1]; exact ho1.afterG (growK _ _))
  have HS1 := hidden (show Row Y1 b8 29 [.int .i64 n1, .int .i64 0, .slice none 0 0, .bool false, .slice none 0 0, .slice none 0 0, .slice none 0 0] by rw [hY1, hb8]; exact skrow_new _ _ _ _ _ _ _ _)
  have HT1 := hidden (show Row Y1 w.heap.size 29 [.int .i64 0, .int .i64 0, .slice none 0 0, .bool false, .slice none 0 0, .slice none 0 0, .slice none 0 0] by rw [hY1]; exact (ho1.row HT0.out (by omega)).grow (growK _ _))
  have HD1 := hidden (show RdRow 112 (w.heap.size + 1) (.slice A l.length c) s1 Y1 by rw [hY1]; exact hr1.grow (growK _ _))
  have HB8 := hidden (show W0.heap.size ≤ b8 by rw [hb8]; exact ho1.size)
  have HNE := hidden (show b8 ≠ w.heap.size + 1 by have := HB8.out; have := HSZ.out; omega)
  have HNT := hidden (show b8 ≠ w.heap.size by have := HB8.out; have := HSZ.out; omega)
  clear ho1 hr1
  go_wp2_with fail
  rw [← hY1, ← hb8]
  clear hY1 hb8
  refine (rsmall16_any (w.heap.size + 1) A c l s1 Y1 (HR.out.step HO1.out HD1.out) HL.out).mono ?_
  rintro e X2 ⟨rfl, ho1, hr1⟩
  generalize rdNm l s1 = d at *
  obtain ⟨n2, s2⟩ := d
  simp only [] at HSP hr1 ⊢
  have HSx := hidden (ho1.row HS1.out HNE.out)
  have cx := HSx.out.cell 1
  have fx := HSx.out.frozen 1
  simp only [List.getElem?_cons_succ, List.getElem?_cons_zero] at cx
  obtain ⟨Y2, hY2⟩ : ∃ X, X = X2.setCell ⟨b8, 1, none⟩ (.int .i64 n2) := ⟨_, rfl⟩
  have HO2 := hidden (show Only (fun j => j = w.heap.size + 1) W0 Y2 by rw [hY2]; exact (HO1.out.after ho1).trans (Only.set _ _ _ _) (fun i hi => .inr (by have := HB8.out; omega)))
  have HS2 := hidden (show Row Y2 b8 29 [.int .i64 n1, .int .i64 n2, .slice none 0 0, .bool false, .slice none 0 0, .slice none 0 0, .slice none 0 0] by rw [hY2]; exact HSx.out.set_m 1 (.int .i64 n2))
  have HT2 := hidden (show Row Y2 w.heap.size 29 [.int .i64 0, .int .i64 0, .slice none 0 0, .bool false, .slice none 0 0, .slice none 0 0, .slice none 0 0] by rw [hY2]; exact (Only.set _ _ _ _).row (ho1.row HT1.out (by omega)) (fun e => HNT.out e.symm))
  have HD2 := hidden (show RdRow 112 (w.heap.size + 1) (.slice A l.length c) s2 Y2 by rw [hY2]; exact hr1.only (Only.set _ _ _ _) (fun e => HNE.out e.symm))
  clear ho1 hr1
  go_wp2_with fail
  rw [← hY2]
  clear hY2 cx fx HSx
  refine (rcount16_any (w.heap.size + 1) A c l s2 32 Y2 (HR.out.step HO2.out HD2.out) HL.out (by decide)).mono ?_
  rintro e W1 ⟨rfl, ho1, hr1⟩
  have HCA := hidden (rdCt_all l 32 s2 (by decide))
  have HOT := hidden (rdCt_ok (l := l) (m := 32) (s := s2))
  generalize rdCt l 32 s2 = d at *
  obtain ⟨n3, t3⟩ := d
  simp only [] at HSP HCA HOT hr1 ⊢
  obtain ⟨m3, hm⟩ : ∃ m : Nat, n3 = (m : Int) := ⟨n3.toNat, by have := HCA.out; omega⟩
  subst hm
  rw [Int.toNat_natCast] at HSP
  have HM3 := hidden (show m3 ≤ 32 by have := HCA.out; omega)
  have HO3 := hidden (HO2.out.after ho1)
  have HS3 := hidden (ho1.row HS2.out HNE.out)
  have HT3 := hidden (ho1.row HT2.out (by omega))
  have HGW1 := hidden (show w.heap.size + 1 < W1.heap.size by have := HO3.out.size; have := HSZ.out; omega)
  have HBW1 := hidden (show b8 < W1.heap.size from HS3.out.lt)
  have HST0 := hidden (show OneSt (w.heap.size + 1) b8 2 (.slice A l.length c) [.int .i64 n1, .int .i64 n2, .slice none 0 0, .bool false, .slice none 0 0, .slice none 0 0, .slice none 0 0] 56 W1 t3 [] (.slice none 0 0) W1 from ⟨Only.refl _ _, hr1, HS3.out, ⟨rfl, .inl ⟨rfl, rfl⟩⟩⟩)
  clear ho1 hr1 HCA HO1 HO2 HS1 HS2 HT1 HT2 HD1 HD2
  go_wp2_with fail
  go_loopw [10, 11] (fun h i wr => ∃ k : Nat, ∃ v : Value, k ≤ m3 ∧ i = .int .i64 (k : Int) ∧ h = .int .u64 ((rdHs l t3 k).2.1 : Int) ∧ OneSt (w.heap.size + 1) b8 2 (.slice A l.length c) [.int .i64 n1, .int .i64 n2, .slice none 0 0, .bool false, .slice none 0 0, .slice none 0 0, .slice none 0 0] 56 W1 (rdHs l t3 k).2.2 (wcells (rdHs l t3 k).1) v wr) (fun _ i _ => m3 - (intOf i).toNat)
  case atStart => exact ⟨0, _, Nat.zero_le _, rfl, rfl, HST0.out⟩
  case round =>
    obtain ⟨k, v, hk, rfl, rfl, hst⟩ := hrel
    have HST := hidden hst
    clear hst
    have HOGW := hidden (show Only (fun j => j = w.heap.size + 1) W0 wr from HO3.out.trans HST.out.only (fun i hi => by rcases hi with h | h; exact .inl h; exact .inr (by have := HB8.out; omega)))
    by_cases hlt : k < m3
    · have HLT := hidden hlt
      have hd : decide (k < m3) = true := decide_eq_true hlt
      have hi1 : (k : Int) < (m3 : Int) := by omega
      have hkb : k ≤ 32 := by have := HM3.out; omega
      have HLN := hidden (rdHs_len l t3 k)
      have HVA := hidden (rdV_all l (rdHs l t3 k).2.2)
      have HHL := hidden (rdHs_lt (l := l) (s := t3) (k := k)).1
      obtain ⟨hx, hhx⟩ : ∃ n, n = ((rdHs l t3 k).2.1 + (rdV l (rdHs l t3 k).2.2).1.toNat) % 18446744073709551616 := ⟨_, rfl⟩
      have HE1 := hidden (show (rdHs l t3 (k + 1)).1 = (rdHs l t3 k).1 ++ [hx] by rw [hhx]; rfl)
      have HE2 := hidden (show (rdHs l t3 (k + 1)).2.1 = hx by rw [hhx]; rfl)
      have HE3 := hidden (show (rdHs l t3 (k + 1)).2.2 = (rdV l (rdHs l t3 k).2.2).2 from rfl)
      have hwx : IntKind.u64.wrap (((rdHs l t3 k).2.1 : Int) + (rdV l (rdHs l t3 k).2.2).1) = (hx : Int) := by rw [IntKind.wrap_u64, hhx]; have := HVA.out; omega
      have HQ := hidden (rnumber16_any (w.heap.size + 1) A c l (rdHs l t3 k).2.2 wr (HR.out.step HOGW.out HST.out.rd) HL.out)
      generalize rdV l (rdHs l t3 k).2.2 = d at *
      obtain ⟨vx, s9⟩ := d
      simp only [] at HQ HVA hwx HE3 hhx
      generalize (rdHs l t3 k).2.1 = px at *
      generalize (rdHs l t3 k).1 = hs at *
      have hvs := own_slice16 HST.out.own
      rw [wcells_length16, HLN.out] at hvs
      obtain ⟨Av, cv, rfl⟩ := hvs
      clear hhx hk
      go_wp2_with fail
      refine HQ.out.mono ?_
      rintro e w2 ⟨rfl, ho2, hr2⟩
      have HS9 := hidden (HST.out.read HGW1.out HNE.out ho2 hr2)
      have c2 := HS9.out.row.cell 2
      have ca2 := (HS9.out.row.grow (growK w2 (.cells #[.int .u64 (hx : Int)] 56))).cell 2
      simp only [List.set_cons_succ, List.set_cons_zero, List.getElem?_cons_succ, List.getElem?_cons_zero] at c2 ca2
      clear ho2 hr2
      go_wp2_with (at_builtin; (refine wpList_append_c rfl _ _ _ rfl 56 (.int .u64 0) 8 Tryz.underlying26 info_u64S rfl (.slice Av k cv) (wcells hs) rfl W1.heap.size k (by have h := HS9.out.own; rwa [wcells_length16, HLN.out] at h) HS9.out.only.size (.int .u64 (hx : Int)) rfl w2.heap.size rfl rfl (by omega) (by omega) ?_); intro v4 w4 hown4 ho4 hb4; obtain ⟨Aw, cw, rfl⟩ := own_slice16 hown4; have HO4 := hidden ho4; have HOW4 := hidden hown4; have HF4 := hidden (ho4.row HS9.out.row (fun e => by have := (HS9.out.own.lt _ e).1; have := HBW1.out; omega)); have r4 := HF4.out.cell 2; have f4 := HF4.out.frozen 2; simp only [List.set_cons_succ, List.set_cons_zero, List.getElem?_cons_succ, List.getElem?_cons_zero] at r4; clear hown4 ho4 hb4 c2 ca2)
      have HFIN := hidden (HS9.out.put (ys := wcells (hs ++ [hx])) HGW1.out HBW1.out HNE.out HO4.out (by have h := HOW4.out; rw [show wcells (hs ++ [hx]) = wcells hs ++ [.int .u64 (hx : Int)] by simp [wcells], List.length_append, wcells_length16, HLN.out]; exact h))
      go_wp2_with fail
      go_roundw
      case rel => exact ⟨k + 1, _, HLT.out, by go_num, by rw [HE2.out], by rw [HE1.out, HE3.out]; exact HFIN.out⟩
      case measure => have := HLT.out; simp [intOf]; omega
    · have hke : k = m3 := by omega
      subst hke
      have hd : decide (k < k) = false := decide_eq_false hlt
      have HLN := hidden (rdHs_len l t3 k)
      have HOK := hidden (rdHs_ok (l := l) (s := t3) HOT.out k)
      generalize rdHs l t3 k = d at *
      obtain ⟨hs, lst, s3⟩ := d
      simp only [] at HSP HST HLN HOK ⊢
      clear hlt hk HST0
      have HT4 := hidden (HST.out.only.row HT3.out (by rintro (h | h); omega; exact HNT.out h.symm))
      obtain ⟨A1, u1, e1⟩ := own_slice16 HST.out.own
      subst e1
      obtain ⟨L1, hL1⟩ : ∃ n, n = (wcells hs).length := ⟨_, rfl⟩
      have HL1 := hidden hL1
      have HOH := hidden HST.out.own
      have HS4 := hidden HST.out.row
      have HD4 := hidden HST.out.rd
      simp only [List.set_cons_succ, List.set_cons_zero] at HS4
      rw [← hL1] at HS4 HOH
      clear hL1
      go_wp2_with fail
      refine (rflag16_any (w.heap.size + 1) A c l s3 wr (HR.out.step HOGW.out HD4.out) HL.out HOK.out).mono ?_
      rintro e X4 ⟨rfl, ho1, hr1⟩
      generalize rdFl l s3 = d at *
      obtain ⟨ok, s4⟩ := d
      simp only [] at HSP hr1 ⊢
      have HSx := hidden (ho1.row HS4.out HNE.out)
      have cx := HSx.out.cell 3
      have fx := HSx.out.frozen 3
      simp only [List.getElem?_cons_succ, List.getElem?_cons_zero] at cx
      obtain ⟨W2, hW2⟩ : ∃ X, X = X4.setCell ⟨b8, 3, none⟩ (.bool ok) := ⟨_, rfl⟩
      have HO5 := hidden (show Only (fun j => j = w.heap.size + 1) W0 W2 by rw [hW2]; exact (HOGW.out.after ho1).trans (Only.set _ _ _ _) (fun i hi => .inr (by have := HB8.out; omega)))
      have HS5 := hidden (show Row W2 b8 29 [.int .i64 n1, .int .i64 n2, .slice A1 L1 u1, .bool ok, .slice none 0 0, .slice none 0 0, .slice none 0 0] by rw [hW2]; exact HSx.out.set_m 3 (.bool ok))
      have HT5 := hidden (show Row W2 w.heap.size 29 [.int .i64 0, .int .i64 0, .slice none 0 0, .bool false, .slice none 0 0, .slice none 0 0, .slice none 0 0] by rw [hW2]; exact (Only.set _ _ _ _).row (ho1.row HT4.out (by omega)) (fun e => HNT.out e.symm))
      have HD5 := hidden (show RdRow 112 (w.heap.size + 1) (.slice A l.length c) s4 W2 by rw [hW2]; exact hr1.only (Only.set _ _ _ _) (fun e => HNE.out e.symm))
      have HOH5 := hidden (show W2.ownsRow W1.heap.size 56 1 (.slice A1 L1 u1) L1 (wcells hs) by
        rw [hW2]
        have h1 := ownsRow_only HOH.out ho1 (fun k hk e => by have := (HOH.out.lt k hk).1; have := HGW1.out; omega)
        exact ownsRow_only h1 (Only.set _ _ _ _) (fun k hk e => by have := (h1.lt k hk).1; have := HBW1.out; omega))
      have HW12x := hidden (show W1.heap.size ≤ W2.heap.size by have := HOH5.out; rw [hW2]; have h1 := HST.out.only.size; have h2 := ho1.size; simp [World.setCell]; omega)
      have HGW2 := hidden (show w.heap.size + 1 < W2.heap.size by have := HO5.out.size; have := HSZ.out; omega)
      have HBW2 := hidden (show b8 < W2.heap.size from HS5.out.lt)
      have HST2 := hidden (show OneSt (w.heap.size + 1) b8 4 (.slice A l.length c) [.int .i64 n1, .int .i64 n2, .slice A1 L1 u1, .bool ok, .slice none 0 0, .slice none 0 0, .slice none 0 0] 3 W2 s4 [] (.slice none 0 0) W2 from ⟨Only.refl _ _, HD5.out, HS5.out, ⟨rfl, .inl ⟨rfl, rfl⟩⟩⟩)
      clear ho1 hr1
      go_wp2_with fail
      rw [← hW2]
      clear hW2 cx fx HSx HOH HST HOGW HT3 HS3 HO3 HS4 HT4 HD4
      go_loopw [12] (fun i wr => ∃ k : Nat, ∃ v : Value, k ≤ 256 ∧ i = .int .i64 (k : Int) ∧ OneSt (w.heap.size + 1) b8 4 (.slice A l.length c) [.int .i64 n1, .int .i64 n2, .slice A1 L1 u1, .bool ok, .slice none 0 0, .slice none 0 0, .slice none 0 0] 3 W2 (rdNs l s4 k).2 (icells (rdNs l s4 k).1) v wr) (fun i _ => 256 - (intOf i).toNat)
      case atStart => exact ⟨0, _, Nat.zero_le _, rfl, HST2.out⟩
      case round =>
        obtain ⟨k2, v, hk, rfl, hst⟩ := hrel
        have HST := hidden hst
        clear hst
        have HOGW := hidden (show Only (fun j => j = w.heap.size + 1) W0 wr from HO5.out.trans HST.out.only (fun i hi => by rcases hi with h | h; exact .inl h; exact .inr (by have := HB8.out; omega)))
        obtain ⟨pq, hrq, -⟩ := HST.out.rd
        have HRQ := hidden hrq
        have q2 := HRQ.out.cell 2
        simp only [List.getElem?_cons_succ, List.getElem?_cons_zero] at q2
        clear hrq
        by_cases hgo : k2 < 256 ∧ (rdNs l s4 k2).2.e = 0
        · obtain ⟨hlt2, he2⟩ := hgo
          have HLT := hidden hlt2
          have d3 : decide ((k2 : Int) < 256) = true := decide_eq_true (by omega)
          have d4 : decide (k2 < 256) = true := decide_eq_true hlt2
          have d5 : ((rdNs l s4 k2).2.e == 0) = true := beq_iff_eq.2 he2
          have HLN2 := hidden (rdNs_len l s4 k2)
          have HEN := hidden (show rdNs l s4 (k2 + 1) = ((rdNs l s4 k2).1 ++ [(rdNm l (rdNs l s4 k2).2).1], (rdNm l (rdNs l s4 k2).2).2) from rfl)
          have hkb2 : k2 ≤ 256 := hk
          generalize rdNs l s4 k2 = d at *
          obtain ⟨cm, s5⟩ := d
          simp only [] at HST HLN2 HEN d5 q2 HRQ
          clear hlt2 hk he2
          go_upto_region 17 with fail
          have HGD := hidden (show Grows wr wr.drew from ⟨rfl, rfl, rfl, Nat.le_refl _, fun _ _ => rfl⟩)
          have HSD := hidden (HST.out.read HGW2.out HNE.out (Only.of_grows HGD.out _) (HST.out.rd.grow HGD.out))
          have HVL := hidden (rsmall16_any (w.heap.size + 1) A c l s5 wr.drew (HR.out.step (HOGW.out.afterG HGD.out) HSD.out.rd) HL.out)
          generalize rdNm l s5 = d at *
          obtain ⟨y, s6⟩ := d
          simp only [] at HVL HEN ⊢
          obtain ⟨i0, hi, hz0, hs1, hs2⟩ := info_parts info_intP
          have r0 := HSD.out.row.cell 4
          have r00 := HST.out.row.cell 4
          simp only [List.set_cons_succ, List.set_cons_zero, List.getElem?_cons_succ, List.getElem?_cons_zero] at r0 r00
          go_region_law (first
            | (refine step_call16 (f := 94) (args := #[.pointer (some ⟨w.heap.size + 1, 0, none⟩)]) rfl rfl ?_ HVL.out ?_; (focus go_simp); rintro e w3 ⟨rfl, ho3, hr3⟩
               have HS3 := hidden (HSD.out.read HGW2.out HNE.out ho3 hr3)
               have r3 := HS3.out.row.cell 4
               have r3a := (HS3.out.row.grow (growK w3 (.cells #[.int .i64 y] 3))).cell 4
               simp only [List.set_cons_succ, List.set_cons_zero, List.getElem?_cons_succ, List.getElem?_cons_zero] at r3 r3a
               clear ho3 hr3
               refine ⟨_, rfl, ?_⟩)
            | (refine step_append_lies _ (by rfl) _ _ 27 (by rfl) W2.heap.size 3 i0 _ 1 8 Tryz.underlying27 hi hz0 hs1 hs2 rfl (by decide) v cm.length (icells cm) (by rfl) (by have h := HS3.out.own.alloc (.cells #[.int .i64 y] 3); rw [icells_length] at h; exact h)
                 ⟨w3.heap.size, 0, none⟩ 1 1 [.int .i64 y] (by rfl) (by rfl) (World.news_of_block (cs := #[.int .i64 y]) (t := 3) (fr := (0, 0)) (heap_alloc_new w3 _)) (by simp [Value.oneCell'])
                 (by omega) (by have := HLN2.out; unfold maxLen; omega) (by have := HLN2.out; omega) (by have := HS3.out.only.size; simp; omega) (w3.heap.size + 1) (by simp) ?_; intro gg cap w4 hown4 hgrow hat hlt4
               have HO4 := hidden (show Only (fun j => v.ownBlock = some j) w3 w4 from (Only.of_grows (B := fun j => v.ownBlock = some j) (growK w3 (.cells #[.int .i64 y] 3))).trans (Only.by_ hgrow) (fun i hi => .inl hi))
               have HOW4 := hidden hown4
               have HF4 := hidden (HO4.out.row HS3.out.row (fun e => by have := (HS3.out.own.lt _ e).1; have := HBW2.out; omega))
               have r4 := HF4.out.cell 4
               have f4 := HF4.out.frozen 4
               simp only [List.set_cons_succ, List.set_cons_zero, List.getElem?_cons_succ, List.getElem?_cons_zero] at r4
               clear hown4 hgrow hat hlt4))
          all_goals
           focus
            have HFIN := hidden (HS3.out.put (ys := icells (cm ++ [y])) HGW2.out HBW2.out HNE.out HO4.out (by have h := HOW4.out; rw [show icells (cm ++ [y]) = icells cm ++ [.int .i64 y] by simp [icells], List.length_append, icells_length]; exact h))
            clear r0 r00 r3 r3a r4 f4 q2
            go_wp2_with fail
            go_roundw
            case rel => exact ⟨k2 + 1, _, HLT.out, by go_num, by rw [HEN.out]; exact HFIN.out⟩
            case measure => have := HLT.out; simp [intOf]; omega
        · have HK2 := hidden (show (rdNs l s4 k2).2.e = 0 → k2 = 256 from fun h => by
            apply Classical.byContradiction
            intro hn
            exact hgo ⟨by omega, h⟩)
          have HEQ := hidden (show (rdNs l s4 256).2 = (rdNs l s4 k2).2 by
            by_cases h : (rdNs l s4 k2).2.e = 0
            · rw [HK2.out h]
            · have := rdNs_err (l := l) (s := s4) (k := k2) h (256 - k2)
              rwa [show k2 + (256 - k2) = 256 by omega] at this)
          have HCM := hidden (show (rdNs l s4 k2).2.e = 0 → (rdNs l s4 256).1 = (rdNs l s4 k2).1 from fun h => by rw [HK2.out h])
          have HLN2 := hidden (rdNs_len l s4 256)
          have HOKN := hidden (fun h => rdNs_ok (l := l) (s := s4) h 256)
          generalize rdNs l s4 256 = d at *
          obtain ⟨cmF, s5⟩ := d
          simp only [] at HSP HEQ HCM HLN2 HOKN
          generalize rdNs l s4 k2 = d at *
          obtain ⟨cm, s5b⟩ := d
          simp only [] at HST HK2 HEQ HCM HRQ q2 hgo
          have heq := HEQ.out
          subst heq
          have HT6 := hidden (HST.out.only.row HT5.out (by rintro (h | h); omega; exact HNT.out h.symm))
          have HOH6 := hidden (ownsRow_only HOH5.out HST.out.only (fun k hk e => by have := (HOH5.out.lt k hk).1; have := HGW1.out; have := HBW1.out; rcases e with h | h <;> omega))
          obtain ⟨A2, u2, e2⟩ := own_slice16 HST.out.own
          subst e2
          obtain ⟨L2, hL2⟩ : ∃ n, n = (icells cm).length := ⟨_, rfl⟩
          have HL2 := hidden hL2
          have HOC := hidden HST.out.own
          have HS6 := hidden HST.out.row
          have HD6 := hidden HST.out.rd
          simp only [List.set_cons_succ, List.set_cons_zero] at HS6
          rw [← hL2] at HS6 HOC
          clear hL2
          have HGO := hidden hgo
          clear hgo hk HST2
          by_cases h1 : k2 < 256
          · have d3 : decide ((k2 : Int) < 256) = true := decide_eq_true (by omega)
            have d4 : decide (k2 < 256) = true := decide_eq_true h1
            have d5 : (s5.e == 0) = false := beq_eq_false_iff_ne.2 (fun h => HGO.out ⟨h1, h⟩)
            clear h1
            go_wp2_with fail
            refine (rcount16_any (w.heap.size + 1) A c l s5 17 wr (HR.out.step HOGW.out HD6.out) HL.out (by decide)).mono ?_
            rintro e W7 ⟨rfl, ho1, hr1⟩
            have HCB := hidden (rdCt_all l 17 s5 (by decide))
            have HCT5 := hidden (fun h => congrArg Prod.snd (rdCt_err (l := l) (s := s5) (m := 17) (by decide) h))
            generalize rdCt l 17 s5 = d at *
            obtain ⟨n7, s7⟩ := d
            simp only [] at HSP HCB HCT5 hr1 ⊢
            obtain ⟨m, hm⟩ : ∃ m : Nat, n7 = (m : Int) := ⟨n7.toNat, by have := HCB.out; omega⟩
            subst hm
            rw [Int.toNat_natCast] at HSP
            have HM := hidden (show m ≤ 17 by have := HCB.out; omega)
            have HO7 := hidden (HOGW.out.after ho1)
            have HS7 := hidden (ho1.row HS6.out HNE.out)
            have HT7 := hidden (ho1.row HT6.out (by omega))
            have HOH7 := hidden (ownsRow_only HOH6.out ho1 (fun k hk e => by have := (HOH6.out.lt k hk).1; have := HGW1.out; omega))
            have HOC7 := hidden (ownsRow_only HOC.out ho1 (fun k hk e => by have := (HOC.out.lt k hk).1; have := HGW2.out; omega))
            have HGW := hidden (show w.heap.size + 1 < W7.heap.size by have := HO7.out.size; have := HSZ.out; omega)
            have HBW := hidden (show b8 < W7.heap.size from HS7.out.lt)
            have HST7 := hidden (show FsStR (w.heap.size + 1) b8 (.slice A l.length c) [.int .i64 n1, .int .i64 n2, .slice A1 L1 u1, .bool ok, .slice A2 L2 u2] W7 s7 [] [] (.slice none 0 0) (.slice none 0 0) W7 from ⟨Only.refl _ _, hr1, HS7.out, ⟨by simp [vcells], .inl ⟨rfl, rfl⟩⟩, ⟨by simp [icells], .inl ⟨rfl, rfl⟩⟩⟩)
            have HW12 := hidden (show W1.heap.size ≤ W2.heap.size from HW12x.out)
            have HW17 := hidden (show W1.heap.size ≤ W7.heap.size by have := HW12.out; have := HST.out.only.size; have := ho1.size; omega)
            have HE57 := hidden (show s5.e ≠ 0 → s7.e ≠ 0 from fun h => by have := HCT5.out h; rw [this]; exact h)
            clear ho1 hr1 HCB HST
            go_wp2_with fail
            go_loopw [14] (fun i wr => ∃ k : Nat, ∃ v5 v6 : Value, k ≤ m ∧ i = .int .i64 (k : Int) ∧ FsStR (w.heap.size + 1) b8 (.slice A l.length c) [.int .i64 n1, .int .i64 n2, .slice A1 L1 u1, .bool ok, .slice A2 L2 u2] W7 (rdFs l s7 k).2.2 (rdFs l s7 k).1 (rdFs l s7 k).2.1 v5 v6 wr) (fun i _ => m - (intOf i).toNat)
            case atStart => exact ⟨0, _, _, Nat.zero_le _, rfl, HST7.out⟩
            case round =>
              obtain ⟨k, v5, v6, hk, rfl, hst⟩ := hrel
              have HST := hidden hst
              clear hst HST7
              have HOGX := hidden (show Only (fun j => j = w.heap.size + 1) W0 wr from HO7.out.trans HST.out.only (fun i hi => by rcases hi with h | h; exact .inl h; exact .inr (by have := HB8.out; omega)))
              by_cases hlt : k < m
              · have HLT := hidden hlt
                have hd : decide (k < m) = true := decide_eq_true hlt
                have hi1 : (k : Int) < (m : Int) := by omega
                have hkb : k ≤ 17 := by have := HM.out; omega
                have HLE := hidden (rdFs_len l s7 k)
                have HRK := hidden (show rdFs l s7 (k + 1) = ((rdFs l s7 k).1 ++ [(rdVl l (rdFs l s7 k).2.2).1], (rdFs l s7 k).2.1 ++ [(rdNm l (rdVl l (rdFs l s7 k).2.2).2).1, (rdNm l (rdNm l (rdVl l (rdFs l s7 k).2.2).2).2).1], (rdNm l (rdNm l (rdVl l (rdFs l s7 k).2.2).2).2).2) from rfl)
                generalize rdFs l s7 k = d at *
                obtain ⟨fs, rk, s8⟩ := d
                simp only [] at HST HLE HRK
                clear hlt hk
                go_upto_region 22 with fail
                go_cut [79] from 79 to 85 (fun _ wx => ∃ v5' : Value, FsStR (w.heap.size + 1) b8 (.slice A l.length c) [.int .i64 n1, .int .i64 n2, .slice A1 L1 u1, .bool ok, .slice A2 L2 u2] W7 (rdVl l s8).2 (fs ++ [(rdVl l s8).1]) rk v5' v6 wx)
                case first =>
                  have HGD := hidden (show Grows wr wr.drew from ⟨rfl, rfl, rfl, Nat.le_refl _, fun _ _ => rfl⟩)
                  have HSD := hidden (show FsStR (w.heap.size + 1) b8 (.slice A l.length c) [.int .i64 n1, .int .i64 n2, .slice A1 L1 u1, .bool ok, .slice A2 L2 u2] W7 s8 fs rk v5 v6 wr.drew from HST.out.read HGW.out HNE.out (Only.of_grows HGD.out _) (HST.out.rd.grow HGD.out))
                  have HVL := hidden (rvalue16_any (w.heap.size + 1) A c l s8 wr.drew (HR.out.step (HOGX.out.afterG HGD.out) HSD.out.rd) HL.out HLC.out)
                  generalize rdVl l s8 = d at *
                  obtain ⟨x, s9⟩ := d
                  simp only [] at HVL ⊢
                  obtain ⟨i0, hi, hz0, hs1, hs2⟩ := info_parts info_valT
                  have r0 := HSD.out.row.cell 5
                  have r00 := HST.out.row.cell 5
                  simp only [List.cons_append, List.nil_append, List.getElem?_cons_succ, List.getElem?_cons_zero] at r0 r00
                  go_region_law (first
                    | (refine step_call16 (f := 98) (args := #[.pointer (some ⟨w.heap.size + 1, 0, none⟩)]) rfl rfl ?_ HVL.out ?_; (focus go_simp); rintro e w3 ⟨rfl, ho3, hr3⟩
                       have HS3 := hidden (HSD.out.read HGW.out HNE.out ho3 hr3)
                       have r3 := HS3.out.row.cell 5
                       have r3a := (HS3.out.row.grow (growK w3 (.cells #[.int .i64 x.k, .int .i64 x.n, .string x.t] 35))).cell 5
                       simp only [List.cons_append, List.nil_append, List.getElem?_cons_succ, List.getElem?_cons_zero] at r3 r3a
                       clear ho3 hr3
                       refine ⟨_, rfl, ?_⟩)
                    | (refine step_append_lies _ (by rfl) _ _ 22 (by rfl) W7.heap.size 35 i0 _ 3 32 Tryz.underlying22 hi hz0 hs1 hs2 rfl (by decide) v5 fs.length (vcells fs) (by rfl) (HS3.out.ofs.alloc _)
                         ⟨w3.heap.size, 0, none⟩ 1 1 [.int .i64 x.k, .int .i64 x.n, .string x.t] (by rfl) (by rfl) (World.news_of_block (cs := #[.int .i64 x.k, .int .i64 x.n, .string x.t]) (t := 35) (fr := (0, 0)) (heap_alloc_new w3 _)) (by simp [Value.oneCell'])
                         (by omega) (by have := HLE.out.1; unfold maxLen; omega) (by have := HLE.out.1; omega) (by have := HS3.out.size; simp; omega) (w3.heap.size + 1) (by simp) ?_; intro gg cap w4 hown4 hgrow hat hlt4
                       have HO4 := hidden (show Only (fun j => v5.ownBlock = some j) w3 w4 from (Only.of_grows (B := fun j => v5.ownBlock = some j) (growK w3 (.cells #[.int .i64 x.k, .int .i64 x.n, .string x.t] 35))).trans (Only.by_ hgrow) (fun i hi => .inl hi))
                       have HOW4 := hidden hown4
                       have HF4 := hidden (HO4.out.row HS3.out.row (fun e => by have := (HS3.out.ofs.lt _ e).1; have := HBW.out; omega))
                       have r4 := HF4.out.cell 5
                       have f4 := HF4.out.frozen 5
                       simp only [List.cons_append, List.nil_append, List.getElem?_cons_succ, List.getElem?_cons_zero] at r4
                       clear hown4 hgrow hat hlt4))
                  all_goals
                   focus
                    have HFIN := hidden (HS3.out.fence (x := x) HGW.out HBW.out HNE.out rfl HO4.out (by have h := HOW4.out; rw [vcells_append, List.length_append]; exact h))
                    clear r0 r00 r3 r3a r4 f4
                    go_wp2_with fail
                    go_meet
                    exact ⟨_, HFIN.out⟩
                case rest =>
                  rename World => wx
                  obtain ⟨v5', hst⟩ := hcut
                  have HST2 := hidden hst
                  clear hst HST
                  generalize rdVl l s8 = d at *
                  obtain ⟨x, s9⟩ := d
                  simp only [] at HST2 HRK
                  go_upto_region 23 with fail
                  go_cut [86] from 86 to 92 (fun _ wx => ∃ v6' : Value, FsStR (w.heap.size + 1) b8 (.slice A l.length c) [.int .i64 n1, .int .i64 n2, .slice A1 L1 u1, .bool ok, .slice A2 L2 u2] W7 (rdNm l s9).2 (fs ++ [x]) (rk ++ [(rdNm l s9).1]) v5' v6' wx)
                  case first =>
                    have HOG2 := hidden (show Only (fun j => j = w.heap.size + 1) W0 wx from HO7.out.trans HST2.out.only (fun i hi => by rcases hi with h | h; exact .inl h; exact .inr (by have := HB8.out; omega)))
                    have HGD := hidden (show Grows wx wx.drew from ⟨rfl, rfl, rfl, Nat.le_refl _, fun _ _ => rfl⟩)
                    have HSD := hidden (HST2.out.read HGW.out HNE.out (Only.of_grows HGD.out _) (HST2.out.rd.grow HGD.out))
                    have HVL := hidden (rsmall16_any (w.heap.size + 1) A c l s9 wx.drew (HR.out.step (HOG2.out.afterG HGD.out) HSD.out.rd) HL.out)
                    generalize rdNm l s9 = d at *
                    obtain ⟨y1, s10⟩ := d
                    simp only [] at HVL HRK ⊢
                    obtain ⟨i0, hi, hz0, hs1, hs2⟩ := info_parts info_intP
                    have r0 := HSD.out.row.cell 6
                    have r00 := HST2.out.row.cell 6
                    simp only [List.cons_append, List.nil_append, List.getElem?_cons_succ, List.getElem?_cons_zero] at r0 r00
                    go_region_law (first
                      | (refine step_call16 (f := 94) (args := #[.pointer (some ⟨w.heap.size + 1, 0, none⟩)]) rfl rfl ?_ HVL.out ?_; (focus go_simp); rintro e w3 ⟨rfl, ho3, hr3⟩
                         have HS3 := hidden (HSD.out.read HGW.out HNE.out ho3 hr3)
                         have r3 := HS3.out.row.cell 6
                         have r3a := (HS3.out.row.grow (growK w3 (.cells #[.int .i64 y1] 3))).cell 6
                         simp only [List.cons_append, List.nil_append, List.getElem?_cons_succ, List.getElem?_cons_zero] at r3 r3a
                         clear ho3 hr3
                         refine ⟨_, rfl, ?_⟩)
                      | (refine step_append_lies _ (by rfl) _ _ 27 (by rfl) W7.heap.size 3 i0 _ 1 8 Tryz.underlying27 hi hz0 hs1 hs2 rfl (by decide) v6 rk.length (icells rk) (by rfl) (HS3.out.ork.alloc _)
                           ⟨w3.heap.size, 0, none⟩ 1 1 [.int .i64 y1] (by rfl) (by rfl) (World.news_of_block (cs := #[.int .i64 y1]) (t := 3) (fr := (0, 0)) (heap_alloc_new w3 _)) (by simp [Value.oneCell'])
                           (by omega) (by have := HLE.out.2; unfold maxLen; omega) (by have := HLE.out.2; omega) (by have := HS3.out.size; simp; omega) (w3.heap.size + 1) (by simp) ?_; intro gg cap w4 hown4 hgrow hat hlt4
                         have HO4 := hidden (show Only (fun j => v6.ownBlock = some j) w3 w4 from (Only.of_grows (B := fun j => v6.ownBlock = some j) (growK w3 (.cells #[.int .i64 y1] 3))).trans (Only.by_ hgrow) (fun i hi => .inl hi))
                         have HOW4 := hidden hown4
                         have HF4 := hidden (HO4.out.row HS3.out.row (fun e => by have := (HS3.out.ork.lt _ e).1; have := HBW.out; omega))
                         have r4 := HF4.out.cell 6
                         have f4 := HF4.out.frozen 6
                         simp only [List.cons_append, List.nil_append, List.getElem?_cons_succ, List.getElem?_cons_zero] at r4
                         clear hown4 hgrow hat hlt4))
                    all_goals
                     focus
                      have HFIN := hidden (HS3.out.ranks (ys := [y1]) HGW.out HBW.out HNE.out rfl HO4.out (by have h := HOW4.out; rw [show icells (rk ++ [y1]) = icells rk ++ [.int .i64 y1] by simp [icells], List.length_append]; exact h))
                      clear r0 r00 r3 r3a r4 f4
                      go_wp2_with fail
                      go_meet
                      exact ⟨_, HFIN.out⟩
                  case rest =>
                    rename World => wy
                    obtain ⟨v6', hst⟩ := hcut
                    have HST3 := hidden hst
                    clear hst HST2
                    generalize rdNm l s9 = d at *
                    obtain ⟨y1, s10⟩ := d
                    simp only [] at HST3 HRK
                    obtain ⟨rk1, hrk1⟩ : ∃ r, r = rk ++ [y1] := ⟨_, rfl⟩
                    have HRKE := hidden (show ∀ z, rk ++ [y1, z] = rk1 ++ [z] from fun z => by rw [hrk1]; simp)
                    have HLE2 := hidden (show rk1.length = 2 * k + 1 by rw [hrk1, List.length_append, HLE.out.2]; rfl)
                    rw [← hrk1] at HST3
                    clear hrk1
                    go_upto_region 24 with fail
                    have HOG2 := hidden (show Only (fun j => j = w.heap.size + 1) W0 wy from HO7.out.trans HST3.out.only (fun i hi => by rcases hi with h | h; exact .inl h; exact .inr (by have := HB8.out; omega)))
                    have HGD := hidden (show Grows wy wy.drew from ⟨rfl, rfl, rfl, Nat.le_refl _, fun _ _ => rfl⟩)
                    have HSD := hidden (HST3.out.read HGW.out HNE.out (Only.of_grows HGD.out _) (HST3.out.rd.grow HGD.out))
                    have HVL := hidden (rsmall16_any (w.heap.size + 1) A c l s10 wy.drew (HR.out.step (HOG2.out.afterG HGD.out) HSD.out.rd) HL.out)
                    generalize rdNm l s10 = d at *
                    obtain ⟨y2, s11⟩ := d
                    simp only [] at HVL HRK ⊢
                    obtain ⟨i0, hi, hz0, hs1, hs2⟩ := info_parts info_intP
                    have r0 := HSD.out.row.cell 6
                    have r00 := HST3.out.row.cell 6
                    simp only [List.cons_append, List.nil_append, List.getElem?_cons_succ, List.getElem?_cons_zero] at r0 r00
                    go_region_law (first
                      | (refine step_call16 (f := 94) (args := #[.pointer (some ⟨w.heap.size + 1, 0, none⟩)]) rfl rfl ?_ HVL.out ?_; (focus go_simp); rintro e w3 ⟨rfl, ho3, hr3⟩
                         have HS3 := hidden (HSD.out.read HGW.out HNE.out ho3 hr3)
                         have r3 := HS3.out.row.cell 6
                         have r3a := (HS3.out.row.grow (growK w3 (.cells #[.int .i64 y2] 3))).cell 6
                         simp only [List.cons_append, List.nil_append, List.getElem?_cons_succ, List.getElem?_cons_zero] at r3 r3a
                         clear ho3 hr3
                         refine ⟨_, rfl, ?_⟩)
                      | (refine step_append_lies _ (by rfl) _ _ 27 (by rfl) W7.heap.size 3 i0 _ 1 8 Tryz.underlying27 hi hz0 hs1 hs2 rfl (by decide) v6' rk1.length (icells rk1) (by rfl) (HS3.out.ork.alloc _)
                           ⟨w3.heap.size, 0, none⟩ 1 1 [.int .i64 y2] (by rfl) (by rfl) (World.news_of_block (cs := #[.int .i64 y2]) (t := 3) (fr := (0, 0)) (heap_alloc_new w3 _)) (by simp [Value.oneCell'])
                           (by omega) (by have := HLE2.out; unfold maxLen; omega) (by have := HLE2.out; omega) (by have := HS3.out.size; simp; omega) (w3.heap.size + 1) (by simp) ?_; intro gg cap w4 hown4 hgrow hat hlt4
                         have HO4 := hidden (show Only (fun j => v6'.ownBlock = some j) w3 w4 from (Only.of_grows (B := fun j => v6'.ownBlock = some j) (growK w3 (.cells #[.int .i64 y2] 3))).trans (Only.by_ hgrow) (fun i hi => .inl hi))
                         have HOW4 := hidden hown4
                         have HF4 := hidden (HO4.out.row HS3.out.row (fun e => by have := (HS3.out.ork.lt _ e).1; have := HBW.out; omega))
                         have r4 := HF4.out.cell 6
                         have f4 := HF4.out.frozen 6
                         simp only [List.cons_append, List.nil_append, List.getElem?_cons_succ, List.getElem?_cons_zero] at r4
                         clear hown4 hgrow hat hlt4))
                    all_goals
                     focus
                      have HFIN := hidden (HS3.out.ranks (ys := [y2]) HGW.out HBW.out HNE.out rfl HO4.out (by have h := HOW4.out; rw [show icells (rk1 ++ [y2]) = icells rk1 ++ [.int .i64 y2] by simp [icells], List.length_append]; exact h))
                      clear r0 r00 r3 r3a r4 f4
                      have hkb2 : k ≤ 17 := hkb
                      go_wp2_with fail
                      go_roundw
                      case rel => exact ⟨k + 1, v5', _, HLT.out, by go_num, by rw [HRK.out, HRKE.out]; exact HFIN.out⟩
                      case measure => have := HLT.out; simp [intOf]; omega
              · have hke : k = m := by omega
                subst hke
                have hd : decide (k < k) = false := decide_eq_false hlt
                clear hlt hk
                have HLE := hidden (rdFs_len l s7 k)
                have HE78 := hidden (show s7.e ≠ 0 → (rdFs l s7 k).2.2.e ≠ 0 from fun h => by rw [rdFs_err h]; exact h)
                generalize rdFs l s7 k = d at *
                obtain ⟨fs, rk, s8⟩ := d
                simp only [] at HST HLE HSP HE78
                obtain ⟨sk, st⟩ := SKR
                simp only [Prod.mk.injEq] at HSP
                obtain ⟨hsk, hst8⟩ := HSP.out
                have hst9 := hst8.symm
                subst hst9
                have HSK := hidden hsk
                simp only [] at HDE HPA
                have HTW := hidden (HST.out.only.row HT7.out (by rintro (h | h); omega; exact HNT.out h.symm))
                have HOHW := hidden (ownsRow_only HOH7.out HST.out.only (fun k hk e => by have := (HOH7.out.lt k hk).1; have := HGW1.out; have := HBW1.out; rcases e with h | h <;> omega))
                have HOCW := hidden (ownsRow_only HOC7.out HST.out.only (fun k hk e => by have := (HOC7.out.lt k hk).1; have := HGW2.out; have := HBW2.out; rcases e with h | h <;> omega))
                obtain ⟨A3, u3, e5⟩ := own_slice16 HST.out.ofs
                obtain ⟨A4, u4, e6⟩ := own_slice16 HST.out.ork
                subst e5 e6
                obtain ⟨F5, hF5⟩ : ∃ n, n = fs.length := ⟨_, rfl⟩
                obtain ⟨F6, hF6⟩ : ∃ n, n = rk.length := ⟨_, rfl⟩
                have HSX := hidden (show Row wr b8 29 [.int .i64 n1, .int .i64 n2, .slice A1 L1 u1, .bool ok, .slice A2 L2 u2, .slice A3 F5 u3, .slice A4 F6 u4] by rw [hF5, hF6]; exact HST.out.row)
                have HF56 := hidden (And.intro hF5 hF6)
                have HGX := hidden (show Grows w wr from HOGX.out.below HG0.out (fun i hi => by omega))
                have HTX := HTW
                obtain ⟨pz, hrz, hpz, hpb⟩ := HST.out.rd
                have HRX := hidden hrz
                have HPZ := hidden hpz
                have q2 := HRX.out.cell 2
                have t0 := HSX.out.cell 0
                have t1 := HSX.out.cell 1
                have t2 := HSX.out.cell 2
                have t3 := HSX.out.cell 3
                have t4 := HSX.out.cell 4
                have t5 := HSX.out.cell 5
                have t6 := HSX.out.cell 6
                simp only [List.getElem?_cons_succ, List.getElem?_cons_zero] at q2 t0 t1 t2 t3 t4 t5 t6
                clear hF5 hF6 hrz hpz hpb hsk
                by_cases he : s8.e = 0
                · have d1 : (s8.e == 0) = true := beq_iff_eq.2 he
                  rw [he] at q2 HRX
                  have HPE := hidden (HPZ.out he)
                  have HS8 := hidden he
                  have HCE := hidden (show s5.e = 0 from Classical.byContradiction fun h => by
                    have h1 := HE57.out h
                    have h2 := HE78.out h1
                    exact h2 he)
                  have hcm := HCM.out HCE.out
                  have HOWN := hidden (show OwnK W1.heap.size wr (.agg #[.int .i64 n1, .int .i64 n2, .slice A1 L1 u1, .bool ok, .slice A2 L2 u2, .slice A3 F5 u3, .slice A4 F6 u4]) sk by
                    rw [HSK.out]
                    obtain ⟨hF5, hF6⟩ := HF56.out
                    have hL1 := HL1.out
                    have hL2 := HL2.out
                    rw [wcells_length16] at hL1
                    rw [icells_length] at hL2
                    subst hF5 hF6 hL1 hL2
                    subst hcm
                    exact ⟨_, _, _, _, rfl, HOHW.out, ownsRow_base HOCW.out (by have := HW12.out; omega), ownsRow_base HST.out.ofs (by have := HW17.out; omega), ownsRow_base HST.out.ork (by have := HW17.out; omega)⟩)
                  have HQV := hidden (fun Y (h : Grows wr Y) => rValid_any _ sk Y (HOWN.out.isK.grow h) (by have := HPA.out.1; omega) (by have := HPA.out.2.2.2.1; omega) (by have := HPA.out.2.1; omega) (by have := HPA.out.2.1; have := HPA.out.2.2.1; omega) (by have := HPA.out.2.2.2.2.1; omega))
                  rw [valid_same] at HQV
                  clear hcm
                  cases hvb : validKB sk with
                  | true =>
                    rw [hvb] at HQV
                    have HE := hidden (show out = (sk, s8.p, 0) by rw [HDE.out, if_neg (by simpa using he), if_pos hvb])
                    clear hvb he
                    go_wp2_with fail
                    refine (HQV.out wr (Below.refl _ _)).mono ?_
                    rintro e X3 ⟨rfl, g3⟩
                    have HG3 := hidden g3
                    have HRX := hidden (HRX.out.grow g3)
                    have HSX := hidden (HSX.out.grow g3)
                    have HTX := hidden (HTX.out.grow g3)
                    have HGX := hidden (HGX.out.of_below g3)
                    have q2 := HRX.out.cell 2
                    simp only [List.getElem?_cons_succ, List.getElem?_cons_zero] at q2
                    clear g3 t0 t1 t2 t3 t4 t5 t6
                    go_wp2_with fail
                    clear q2
                    have HX := hidden (fun Y (h : Only (fun k => k = w.heap.size) X3 Y) => show (Y.cell? ⟨w.heap.size + 1, 1, none⟩ = some (.int .i64 pz) ∧ Y.cell? ⟨w.heap.size + 1, 2, none⟩ = some (.int .i64 0)) ∧ Y.cell? ⟨b8, 0, none⟩ = some (.int .i64 n1) ∧ Y.cell? ⟨b8, 1, none⟩ = some (.int .i64 n2) ∧ Y.cell? ⟨b8, 2, none⟩ = some (.slice A1 L1 u1) ∧ Y.cell? ⟨b8, 3, none⟩ = some (.bool ok) ∧ Y.cell? ⟨b8, 4, none⟩ = some (.slice A2 L2 u2) ∧ Y.cell? ⟨b8, 5, none⟩ = some (.slice A3 F5 u3) ∧ Y.cell? ⟨b8, 6, none⟩ = some (.slice A4 F6 u4) from
                      have e1 : w.heap.size + 1 ≠ w.heap.size := by omega
                      have r1 := h.row HRX.out e1
                      have r2 := h.row HSX.out HNT.out
                      ⟨⟨r1.cell 1, r1.cell 2⟩, r2.cell 0, r2.cell 1, r2.cell 2, r2.cell 3, r2.cell 4, r2.cell 5, r2.cell 6⟩)
                    have HIS := hidden (show IsSkR X3 w.heap.size from ⟨_, _, _, _, _, _, _, HTX.out⟩)
                    letI : SteQ := skSte w.heap.size [(.int .i64 n1), (.int .i64 n2), (.slice A1 L1 u1), (.bool ok), (.slice A2 L2 u2), (.slice A3 F5 u3), (.slice A4 F6 u4)]
                    refine wp_region_looseX (tabX [(5, fun _ _ w' => Row w' w.heap.size 29 [(.int .i64 n1), (.int .i64 n2), (.slice A1 L1 u1), (.bool ok), (.slice A2 L2 u2), (.slice A3 F5 u3), (.slice A4 F6 u4)])]) (by kernel_rfl) (by kernel_rfl) (tabX_cons (fun s v w w' hr ht => (show SkT _ _ _ _ from ht).done hr) tabX_nil) ?_
                    iterate 5 ((with_reducible refine loose_oneX (v := ?_) (a' := ?_) ?_ ?_ (fun w' hC' hG' => ?_) ?_ ?_); rotate_left 2; (focus rfl); (focus rfl); (focus (obtain ⟨⟨y1, y2⟩, s0, s1, s2, s3, s4, s5, s6⟩ := HX.out w' (show SkT _ _ X3 w' from hC').only; clear hC' hG'; go_simp; rfl)); (focus (go_simp; rfl)))
                    refine loose_storeX (R := fun _ _ w' => Row w' w.heap.size 29 [(.int .i64 n1), (.int .i64 n2), (.slice A1 L1 u1), (.bool ok), (.slice A2 L2 u2), (.slice A3 F5 u3), (.slice A4 F6 u4)]) (by rfl) (by rfl) (fun w' hC' hG' => ?_) ?_
                    · obtain ⟨r0, r1, r2, r3, r4, r5, r6, hrr⟩ := (show SkT _ _ X3 w' from hC').row HIS.out
                      have hst := SkT.store (z0 := (.int .i64 n1)) (z1 := (.int .i64 n2)) (z2 := (.slice A1 L1 u1)) (z3 := (.bool ok)) (z4 := (.slice A2 L2 u2)) (z5 := (.slice A3 F5 u3)) (z6 := (.slice A4 F6 u4)) hrr
                      exact ⟨_, store_run_sk _ _ rfl w.heap.size (.int .i64 n1) (.int .i64 n2) (.slice A1 L1 u1) (.bool ok) (.slice A2 L2 u2) (.slice A3 F5 u3) (.slice A4 F6 u4) rfl (by rfl) (by simp [Value.oneCell']) hrr, hst.1, hst.2⟩
                    intro v8 _
                    refine ⟨?_, ?_, ?_⟩
                    rotate_left
                    · go_simp
                      rfl
                    iterate 2 ((with_reducible refine loose_oneX (v := ?_) (a' := ?_) ?_ ?_ (fun w' hC' hG' => ?_) ?_ ?_); rotate_left 2; (focus rfl); (focus rfl); (focus (clear hC' hG'; go_simp; rfl)); (focus (go_simp; rfl)))
                    refine loose_doneX (fun w9 hC' hG' => ?_)
                    have HR9 := hidden ((hG' 5).2 rfl)
                    have HO9 := hidden (show SkT _ _ X3 w9 from hC').only
                    clear hC' hG'
                    go_wp2_with fail
                    refine bodyPost_ret (results_sk3 rfl _ _ _ _ _ _ _ _ _ _ _ _ rfl HR9.out rfl rfl) rfl ⟨.agg #[.int .i64 n1, .int .i64 n2, .slice A1 L1 u1, .bool ok, .slice A2 L2 u2, .slice A3 F5 u3, .slice A4 F6 u4], ?_, ?_, HO9.out.below HGX.out (fun i hi => by omega)⟩
                    · rw [HE.out, ← HPE.out]
                      first | done | rfl
                    · rw [HE.out]
                      exact ((HOWN.out.only (Only.of_grows HG3.out (fun _ => False)) (fun _ _ h => h)).only HO9.out (fun k hk h => by have := HGW1.out; omega)).isK
                  | false =>
                    rw [hvb] at HQV
                    have HE := hidden (show out = (zeroSk, 0, 4) by rw [HDE.out, if_neg (by simpa using he), if_neg (by rw [hvb]; decide)])
                    have HKZ2 := hidden (show ∀ W, IsK W (.agg #[.int .i64 0, .int .i64 0, .slice none 0 0, .bool false, .slice none 0 0, .slice none 0 0, .slice none 0 0]) out.1 from fun W => by rw [HE.out]; exact HKZ.out W)
                    clear hvb he
                    go_wp2_with fail
                    refine (HQV.out wr (Below.refl _ _)).mono ?_
                    rintro e X3 ⟨rfl, g3⟩
                    have HR3 := hidden (show Rdr 112 (w.heap.size + 1) A c l s8 X3 from HR.out.step (HOGX.out.afterG g3) (HST.out.rd.grow g3))
                    have HSX3 := hidden (HSX.out.grow g3)
                    have HTX3 := hidden (HTX.out.grow g3)
                    have HGX3 := hidden (HGX.out.of_below g3)
                    clear g3 t0 t1 t2 t3 t4 t5 t6 q2
                    go_wp2_with fail
                    refine (rfail16_any (w.heap.size + 1) A c l s8 4 X3 HR3.out (by decide)).mono ?_
                    rintro e X6 ⟨rfl, ho6, hr6⟩
                    rw [if_pos HS8.out] at hr6
                    obtain ⟨pz6, hrz6, -⟩ := hr6
                    have HRX := hidden hrz6
                    have HSX := hidden (ho6.row HSX3.out HNE.out)
                    have HTX := hidden (ho6.row HTX3.out (by omega))
                    have HGX := hidden (show Grows w X6 from ho6.below HGX3.out (fun i hi => by omega))
                    have q2 := HRX.out.cell 2
                    simp only [List.getElem?_cons_succ, List.getElem?_cons_zero] at q2
                    clear ho6 hrz6
                    go_wp2_with fail
                    clear q2
                    have HX := hidden (fun Y (h : Only (fun k => k = w.heap.size) X6 Y) => show (Y.cell? ⟨w.heap.size + 1, 1, none⟩ = some (.int .i64 pz6) ∧ Y.cell? ⟨w.heap.size + 1, 2, none⟩ = some (.int .i64 4)) ∧ Y.cell? ⟨b8, 0, none⟩ = some (.int .i64 n1) ∧ Y.cell? ⟨b8, 1, none⟩ = some (.int .i64 n2) ∧ Y.cell? ⟨b8, 2, none⟩ = some (.slice A1 L1 u1) ∧ Y.cell? ⟨b8, 3, none⟩ = some (.bool ok) ∧ Y.cell? ⟨b8, 4, none⟩ = some (.slice A2 L2 u2) ∧ Y.cell? ⟨b8, 5, none⟩ = some (.slice A3 F5 u3) ∧ Y.cell? ⟨b8, 6, none⟩ = some (.slice A4 F6 u4) from
                      have e1 : w.heap.size + 1 ≠ w.heap.size := by omega
                      have r1 := h.row HRX.out e1
                      have r2 := h.row HSX.out HNT.out
                      ⟨⟨r1.cell 1, r1.cell 2⟩, r2.cell 0, r2.cell 1, r2.cell 2, r2.cell 3, r2.cell 4, r2.cell 5, r2.cell 6⟩)
                    have HIS := hidden (show IsSkR X6 w.heap.size from ⟨_, _, _, _, _, _, _, HTX.out⟩)
                    letI : SteQ := skSte w.heap.size [(.int .i64 0), (.int .i64 0), (.slice none 0 0), (.bool false), (.slice none 0 0), (.slice none 0 0), (.slice none 0 0)]
                    refine wp_region_looseX (tabX [(5, fun _ _ w' => Row w' w.heap.size 29 [(.int .i64 0), (.int .i64 0), (.slice none 0 0), (.bool false), (.slice none 0 0), (.slice none 0 0), (.slice none 0 0)])]) (by kernel_rfl) (by kernel_rfl) (tabX_cons (fun s v w w' hr ht => (show SkT _ _ _ _ from ht).done hr) tabX_nil) ?_
                    iterate 5 ((with_reducible refine loose_oneX (v := ?_) (a' := ?_) ?_ ?_ (fun w' hC' hG' => ?_) ?_ ?_); rotate_left 2; (focus rfl); (focus rfl); (focus (obtain ⟨⟨y1, y2⟩, s0, s1, s2, s3, s4, s5, s6⟩ := HX.out w' (show SkT _ _ X6 w' from hC').only; clear hC' hG'; go_simp; rfl)); (focus (go_simp; rfl)))
                    refine loose_storeX (R := fun _ _ w' => Row w' w.heap.size 29 [(.int .i64 0), (.int .i64 0), (.slice none 0 0), (.bool false), (.slice none 0 0), (.slice none 0 0), (.slice none 0 0)]) (by rfl) (by rfl) (fun w' hC' hG' => ?_) ?_
                    · obtain ⟨r0, r1, r2, r3, r4, r5, r6, hrr⟩ := (show SkT _ _ X6 w' from hC').row HIS.out
                      have hst := SkT.store (z0 := (.int .i64 0)) (z1 := (.int .i64 0)) (z2 := (.slice none 0 0)) (z3 := (.bool false)) (z4 := (.slice none 0 0)) (z5 := (.slice none 0 0)) (z6 := (.slice none 0 0)) hrr
                      exact ⟨_, store_run_sk _ _ rfl w.heap.size (.int .i64 0) (.int .i64 0) (.slice none 0 0) (.bool false) (.slice none 0 0) (.slice none 0 0) (.slice none 0 0) rfl (by rfl) (by simp [Value.oneCell']) hrr, hst.1, hst.2⟩
                    intro v8 _
                    refine ⟨?_, ?_, ?_⟩
                    rotate_left
                    · go_simp
                      rfl
                    iterate 2 ((with_reducible refine loose_oneX (v := ?_) (a' := ?_) ?_ ?_ (fun w' hC' hG' => ?_) ?_ ?_); rotate_left 2; (focus rfl); (focus rfl); (focus (clear hC' hG'; go_simp; rfl)); (focus (go_simp; rfl)))
                    refine loose_doneX (fun w9 hC' hG' => ?_)
                    have HR9 := hidden ((hG' 5).2 rfl)
                    have HO9 := hidden (show SkT _ _ X6 w9 from hC').only
                    clear hC' hG'
                    go_wp2_with fail
                    refine bodyPost_ret (results_sk3 rfl _ _ _ _ _ _ _ _ _ _ _ _ rfl HR9.out rfl rfl) rfl ⟨.agg #[.int .i64 0, .int .i64 0, .slice none 0 0, .bool false, .slice none 0 0, .slice none 0 0, .slice none 0 0], ?_, HKZ2.out _, HO9.out.below HGX.out (fun i hi => by omega)⟩
                    rw [HE.out]
                    first | done | rfl
                · have d1 : (s8.e == 0) = false := beq_eq_false_iff_ne.2 he
                  have HE := hidden (show out = (zeroSk, 0, s8.e) by rw [HDE.out, if_pos he])
                  have HKZ2 := hidden (show ∀ W, IsK W (.agg #[.int .i64 0, .int .i64 0, .slice none 0 0, .bool false, .slice none 0 0, .slice none 0 0, .slice none 0 0]) out.1 from fun W => by rw [HE.out]; exact HKZ.out W)
                  clear he
                  go_wp2_with fail
                  clear q2 t0 t1 t2 t3 t4 t5 t6
                  have HX := hidden (fun Y (h : Only (fun k => k = w.heap.size) wr Y) => show (Y.cell? ⟨w.heap.size + 1, 1, none⟩ = some (.int .i64 pz) ∧ Y.cell? ⟨w.heap.size + 1, 2, none⟩ = some (.int .i64 s8.e)) ∧ Y.cell? ⟨b8, 0, none⟩ = some (.int .i64 n1) ∧ Y.cell? ⟨b8, 1, none⟩ = some (.int .i64 n2) ∧ Y.cell? ⟨b8, 2, none⟩ = some (.slice A1 L1 u1) ∧ Y.cell? ⟨b8, 3, none⟩ = some (.bool ok) ∧ Y.cell? ⟨b8, 4, none⟩ = some (.slice A2 L2 u2) ∧ Y.cell? ⟨b8, 5, none⟩ = some (.slice A3 F5 u3) ∧ Y.cell? ⟨b8, 6, none⟩ = some (.slice A4 F6 u4) from
                    have e1 : w.heap.size + 1 ≠ w.heap.size := by omega
                    have r1 := h.row HRX.out e1
                    have r2 := h.row HSX.out HNT.out
                    ⟨⟨r1.cell 1, r1.cell 2⟩, r2.cell 0, r2.cell 1, r2.cell 2, r2.cell 3, r2.cell 4, r2.cell 5, r2.cell 6⟩)
                  have HIS := hidden (show IsSkR wr w.heap.size from ⟨_, _, _, _, _, _, _, HTX.out⟩)
                  letI : SteQ := skSte w.heap.size [(.int .i64 0), (.int .i64 0), (.slice none 0 0), (.bool false), (.slice none 0 0), (.slice none 0 0), (.slice none 0 0)]
                  refine wp_region_looseX (tabX [(5, fun _ _ w' => Row w' w.heap.size 29 [(.int .i64 0), (.int .i64 0), (.slice none 0 0), (.bool false), (.slice none 0 0), (.slice none 0 0), (.slice none 0 0)])]) (by kernel_rfl) (by kernel_rfl) (tabX_cons (fun s v w w' hr ht => (show SkT _ _ _ _ from ht).done hr) tabX_nil) ?_
                  iterate 5 ((with_reducible refine loose_oneX (v := ?_) (a' := ?_) ?_ ?_ (fun w' hC' hG' => ?_) ?_ ?_); rotate_left 2; (focus rfl); (focus rfl); (focus (obtain ⟨⟨y1, y2⟩, s0, s1, s2, s3, s4, s5, s6⟩ := HX.out w' (show SkT _ _ wr w' from hC').only; clear hC' hG'; go_simp; rfl)); (focus (go_simp; rfl)))
                  refine loose_storeX (R := fun _ _ w' => Row w' w.heap.size 29 [(.int .i64 0), (.int .i64 0), (.slice none 0 0), (.bool false), (.slice none 0 0), (.slice none 0 0), (.slice none 0 0)]) (by rfl) (by rfl) (fun w' hC' hG' => ?_) ?_
                  · obtain ⟨r0, r1, r2, r3, r4, r5, r6, hrr⟩ := (show SkT _ _ wr w' from hC').row HIS.out
                    have hst := SkT.store (z0 := (.int .i64 0)) (z1 := (.int .i64 0)) (z2 := (.slice none 0 0)) (z3 := (.bool false)) (z4 := (.slice none 0 0)) (z5 := (.slice none 0 0)) (z6 := (.slice none 0 0)) hrr
                    exact ⟨_, store_run_sk _ _ rfl w.heap.size (.int .i64 0) (.int .i64 0) (.slice none 0 0) (.bool false) (.slice none 0 0) (.slice none 0 0) (.slice none 0 0) rfl (by rfl) (by simp [Value.oneCell']) hrr, hst.1, hst.2⟩
                  intro v8 _
                  refine ⟨?_, ?_, ?_⟩
                  rotate_left
                  · go_simp
                    rfl
                  iterate 2 ((with_reducible refine loose_oneX (v := ?_) (a' := ?_) ?_ ?_ (fun w' hC' hG' => ?_) ?_ ?_); rotate_left 2; (focus rfl); (focus rfl); (focus (clear hC' hG'; go_simp; rfl)); (focus (go_simp; rfl)))
                  refine loose_doneX (fun w9 hC' hG' => ?_)
                  have HR9 := hidden ((hG' 5).2 rfl)
                  have HO9 := hidden (show SkT _ _ wr w9 from hC').only
                  clear hC' hG'
                  go_wp2_with fail
                  refine bodyPost_ret (results_sk3 rfl _ _ _ _ _ _ _ _ _ _ _ _ rfl HR9.out rfl rfl) rfl ⟨.agg #[.int .i64 0, .int .i64 0, .slice none 0 0, .bool false, .slice none 0 0, .slice none 0 0, .slice none 0 0], ?_, HKZ2.out _, HO9.out.below HGX.out (fun i hi => by omega)⟩
                  rw [HE.out]
                  first | done | rfl
          · have d3 : decide ((k2 : Int) < 256) = false := decide_eq_false (by omega)
            have d4 : decide (k2 < 256) = false := decide_eq_false h1
            clear h1
            go_wp2_with fail
            refine (rcount16_any (w.heap.size + 1) A c l s5 17 wr (HR.out.step HOGW.out HD6.out) HL.out (by decide)).mono ?_
            rintro e W7 ⟨rfl, ho1, hr1⟩
            have HCB := hidden (rdCt_all l 17 s5 (by decide))
            have HCT5 := hidden (fun h => congrArg Prod.snd (rdCt_err (l := l) (s := s5) (m := 17) (by decide) h))
            generalize rdCt l 17 s5 = d at *
            obtain ⟨n7, s7⟩ := d
            simp only [] at HSP HCB HCT5 hr1 ⊢
            obtain ⟨m, hm⟩ : ∃ m : Nat, n7 = (m : Int) := ⟨n7.toNat, by have := HCB.out; omega⟩
            subst hm
            rw [Int.toNat_natCast] at HSP
            have HM := hidden (show m ≤ 17 by have := HCB.out; omega)
            have HO7 := hidden (HOGW.out.after ho1)
            have HS7 := hidden (ho1.row HS6.out HNE.out)
            have HT7 := hidden (ho1.row HT6.out (by omega))
            have HOH7 := hidden (ownsRow_only HOH6.out ho1 (fun k hk e => by have := (HOH6.out.lt k hk).1; have := HGW1.out; omega))
            have HOC7 := hidden (ownsRow_only HOC.out ho1 (fun k hk e => by have := (HOC.out.lt k hk).1; have := HGW2.out; omega))
            have HGW := hidden (show w.heap.size + 1 < W7.heap.size by have := HO7.out.size; have := HSZ.out; omega)
            have HBW := hidden (show b8 < W7.heap.size from HS7.out.lt)
            have HST7 := hidden (show FsStR (w.heap.size + 1) b8 (.slice A l.length c) [.int .i64 n1, .int .i64 n2, .slice A1 L1 u1, .bool ok, .slice A2 L2 u2] W7 s7 [] [] (.slice none 0 0) (.slice none 0 0) W7 from ⟨Only.refl _ _, hr1, HS7.out, ⟨by simp [vcells], .inl ⟨rfl, rfl⟩⟩, ⟨by simp [icells], .inl ⟨rfl, rfl⟩⟩⟩)
            have HW12 := hidden (show W1.heap.size ≤ W2.heap.size from HW12x.out)
            have HW17 := hidden (show W1.heap.size ≤ W7.heap.size by have := HW12.out; have := HST.out.only.size; have := ho1.size; omega)
            have HE57 := hidden (show s5.e ≠ 0 → s7.e ≠ 0 from fun h => by have := HCT5.out h; rw [this]; exact h)
            clear ho1 hr1 HCB HST
            go_wp2_with fail
            go_loopw [14] (fun i wr => ∃ k : Nat, ∃ v5 v6 : Value, k ≤ m ∧ i = .int .i64 (k : Int) ∧ FsStR (w.heap.size + 1) b8 (.slice A l.length c) [.int .i64 n1, .int .i64 n2, .slice A1 L1 u1, .bool ok, .slice A2 L2 u2] W7 (rdFs l s7 k).2.2 (rdFs l s7 k).1 (rdFs l s7 k).2.1 v5 v6 wr) (fun i _ => m - (intOf i).toNat)
            case atStart => exact ⟨0, _, _, Nat.zero_le _, rfl, HST7.out⟩
            case round =>
              obtain ⟨k, v5, v6, hk, rfl, hst⟩ := hrel
              have HST := hidden hst
              clear hst HST7
              have HOGX := hidden (show Only (fun j => j = w.heap.size + 1) W0 wr from HO7.out.trans HST.out.only (fun i hi => by rcases hi with h | h; exact .inl h; exact .inr (by have := HB8.out; omega)))
              by_cases hlt : k < m
              · have HLT := hidden hlt
                have hd : decide (k < m) = true := decide_eq_true hlt
                have hi1 : (k : Int) < (m : Int) := by omega
                have hkb : k ≤ 17 := by have := HM.out; omega
                have HLE := hidden (rdFs_len l s7 k)
                have HRK := hidden (show rdFs l s7 (k + 1) = ((rdFs l s7 k).1 ++ [(rdVl l (rdFs l s7 k).2.2).1], (rdFs l s7 k).2.1 ++ [(rdNm l (rdVl l (rdFs l s7 k).2.2).2).1, (rdNm l (rdNm l (rdVl l (rdFs l s7 k).2.2).2).2).1], (rdNm l (rdNm l (rdVl l (rdFs l s7 k).2.2).2).2).2) from rfl)
                generalize rdFs l s7 k = d at *
                obtain ⟨fs, rk, s8⟩ := d
                simp only [] at HST HLE HRK
                clear hlt hk
                go_upto_region 22 with fail
                go_cut [79] from 79 to 85 (fun _ wx => ∃ v5' : Value, FsStR (w.heap.size + 1) b8 (.slice A l.length c) [.int .i64 n1, .int .i64 n2, .slice A1 L1 u1, .bool ok, .slice A2 L2 u2] W7 (rdVl l s8).2 (fs ++ [(rdVl l s8).1]) rk v5' v6 wx)
                case first =>
                  have HGD := hidden (show Grows wr wr.drew from ⟨rfl, rfl, rfl, Nat.le_refl _, fun _ _ => rfl⟩)
                  have HSD := hidden (show FsStR (w.heap.size + 1) b8 (.slice A l.length c) [.int .i64 n1, .int .i64 n2, .slice A1 L1 u1, .bool ok, .slice A2 L2 u2] W7 s8 fs rk v5 v6 wr.drew from HST.out.read HGW.out HNE.out (Only.of_grows HGD.out _) (HST.out.rd.grow HGD.out))
                  have HVL := hidden (rvalue16_any (w.heap.size + 1) A c l s8 wr.drew (HR.out.step (HOGX.out.afterG HGD.out) HSD.out.rd) HL.out HLC.out)
                  generalize rdVl l s8 = d at *
                  obtain ⟨x, s9⟩ := d
                  simp only [] at HVL ⊢
                  obtain ⟨i0, hi, hz0, hs1, hs2⟩ := info_parts info_valT
                  have r0 := HSD.out.row.cell 5
                  have r00 := HST.out.row.cell 5
                  simp only [List.cons_append, List.nil_append, List.getElem?_cons_succ, List.getElem?_cons_zero] at r0 r00
                  go_region_law (first
                    | (refine step_call16 (f := 98) (args := #[.pointer (some ⟨w.heap.size + 1, 0, none⟩)]) rfl rfl ?_ HVL.out ?_; (focus go_simp); rintro e w3 ⟨rfl, ho3, hr3⟩
                       have HS3 := hidden (HSD.out.read HGW.out HNE.out ho3 hr3)
                       have r3 := HS3.out.row.cell 5
                       have r3a := (HS3.out.row.grow (growK w3 (.cells #[.int .i64 x.k, .int .i64 x.n, .string x.t] 35))).cell 5
                       simp only [List.cons_append, List.nil_append, List.getElem?_cons_succ, List.getElem?_cons_zero] at r3 r3a
                       clear ho3 hr3
                       refine ⟨_, rfl, ?_⟩)
                    | (refine step_append_lies _ (by rfl) _ _ 22 (by rfl) W7.heap.size 35 i0 _ 3 32 Tryz.underlying22 hi hz0 hs1 hs2 rfl (by decide) v5 fs.length (vcells fs) (by rfl) (HS3.out.ofs.alloc _)
                         ⟨w3.heap.size, 0, none⟩ 1 1 [.int .i64 x.k, .int .i64 x.n, .string x.t] (by rfl) (by rfl) (World.news_of_block (cs := #[.int .i64 x.k, .int .i64 x.n, .string x.t]) (t := 35) (fr := (0, 0)) (heap_alloc_new w3 _)) (by simp [Value.oneCell'])
                         (by omega) (by have := HLE.out.1; unfold maxLen; omega) (by have := HLE.out.1; omega) (by have := HS3.out.size; simp; omega) (w3.heap.size + 1) (by simp) ?_; intro gg cap w4 hown4 hgrow hat hlt4
                       have HO4 := hidden (show Only (fun j => v5.ownBlock = some j) w3 w4 from (Only.of_grows (B := fun j => v5.ownBlock = some j) (growK w3 (.cells #[.int .i64 x.k, .int .i64 x.n, .string x.t] 35))).trans (Only.by_ hgrow) (fun i hi => .inl hi))
                       have HOW4 := hidden hown4
                       have HF4 := hidden (HO4.out.row HS3.out.row (fun e => by have := (HS3.out.ofs.lt _ e).1; have := HBW.out; omega))
                       have r4 := HF4.out.cell 5
                       have f4 := HF4.out.frozen 5
                       simp only [List.cons_append, List.nil_append, List.getElem?_cons_succ, List.getElem?_cons_zero] at r4
                       clear hown4 hgrow hat hlt4))
                  all_goals
                   focus
                    have HFIN := hidden (HS3.out.fence (x := x) HGW.out HBW.out HNE.out rfl HO4.out (by have h := HOW4.out; rw [vcells_append, List.length_append]; exact h))
                    clear r0 r00 r3 r3a r4 f4
                    go_wp2_with fail
                    go_meet
                    exact ⟨_, HFIN.out⟩
                case rest =>
                  rename World => wx
                  obtain ⟨v5', hst⟩ := hcut
                  have HST2 := hidden hst
                  clear hst HST
                  generalize rdVl l s8 = d at *
                  obtain ⟨x, s9⟩ := d
                  simp only [] at HST2 HRK
                  go_upto_region 23 with fail
                  go_cut [86] from 86 to 92 (fun _ wx => ∃ v6' : Value, FsStR (w.heap.size + 1) b8 (.slice A l.length c) [.int .i64 n1, .int .i64 n2, .slice A1 L1 u1, .bool ok, .slice A2 L2 u2] W7 (rdNm l s9).2 (fs ++ [x]) (rk ++ [(rdNm l s9).1]) v5' v6' wx)
                  case first =>
                    have HOG2 := hidden (show Only (fun j => j = w.heap.size + 1) W0 wx from HO7.out.trans HST2.out.only (fun i hi => by rcases hi with h | h; exact .inl h; exact .inr (by have := HB8.out; omega)))
                    have HGD := hidden (show Grows wx wx.drew from ⟨rfl, rfl, rfl, Nat.le_refl _, fun _ _ => rfl⟩)
                    have HSD := hidden (HST2.out.read HGW.out HNE.out (Only.of_grows HGD.out _) (HST2.out.rd.grow HGD.out))
                    have HVL := hidden (rsmall16_any (w.heap.size + 1) A c l s9 wx.drew (HR.out.step (HOG2.out.afterG HGD.out) HSD.out.rd) HL.out)
                    generalize rdNm l s9 = d at *
                    obtain ⟨y1, s10⟩ := d
                    simp only [] at HVL HRK ⊢
                    obtain ⟨i0, hi, hz0, hs1, hs2⟩ := info_parts info_intP
                    have r0 := HSD.out.row.cell 6
                    have r00 := HST2.out.row.cell 6
                    simp only [List.cons_append, List.nil_append, List.getElem?_cons_succ, List.getElem?_cons_zero] at r0 r00
                    go_region_law (first
                      | (refine step_call16 (f := 94) (args := #[.pointer (some ⟨w.heap.size + 1, 0, none⟩)]) rfl rfl ?_ HVL.out ?_; (focus go_simp); rintro e w3 ⟨rfl, ho3, hr3⟩
                         have HS3 := hidden (HSD.out.read HGW.out HNE.out ho3 hr3)
                         have r3 := HS3.out.row.cell 6
                         have r3a := (HS3.out.row.grow (growK w3 (.cells #[.int .i64 y1] 3))).cell 6
                         simp only [List.cons_append, List.nil_append, List.getElem?_cons_succ, List.getElem?_cons_zero] at r3 r3a
                         clear ho3 hr3
                         refine ⟨_, rfl, ?_⟩)
                      | (refine step_append_lies _ (by rfl) _ _ 27 (by rfl) W7.heap.size 3 i0 _ 1 8 Tryz.underlying27 hi hz0 hs1 hs2 rfl (by decide) v6 rk.length (icells rk) (by rfl) (HS3.out.ork.alloc _)
                           ⟨w3.heap.size, 0, none⟩ 1 1 [.int .i64 y1] (by rfl) (by rfl) (World.news_of_block (cs := #[.int .i64 y1]) (t := 3) (fr := (0, 0)) (heap_alloc_new w3 _)) (by simp [Value.oneCell'])
                           (by omega) (by have := HLE.out.2; unfold maxLen; omega) (by have := HLE.out.2; omega) (by have := HS3.out.size; simp; omega) (w3.heap.size + 1) (by simp) ?_; intro gg cap w4 hown4 hgrow hat hlt4
                         have HO4 := hidden (show Only (fun j => v6.ownBlock = some j) w3 w4 from (Only.of_grows (B := fun j => v6.ownBlock = some j) (growK w3 (.cells #[.int .i64 y1] 3))).trans (Only.by_ hgrow) (fun i hi => .inl hi))
                         have HOW4 := hidden hown4
                         have HF4 := hidden (HO4.out.row HS3.out.row (fun e => by have := (HS3.out.ork.lt _ e).1; have := HBW.out; omega))
                         have r4 := HF4.out.cell 6
                         have f4 := HF4.out.frozen 6
                         simp only [List.cons_append, List.nil_append, List.getElem?_cons_succ, List.getElem?_cons_zero] at r4
                         clear hown4 hgrow hat hlt4))
                    all_goals
                     focus
                      have HFIN := hidden (HS3.out.ranks (ys := [y1]) HGW.out HBW.out HNE.out rfl HO4.out (by have h := HOW4.out; rw [show icells (rk ++ [y1]) = icells rk ++ [.int .i64 y1] by simp [icells], List.length_append]; exact h))
                      clear r0 r00 r3 r3a r4 f4
                      go_wp2_with fail
                      go_meet
                      exact ⟨_, HFIN.out⟩
                  case rest =>
                    rename World => wy
                    obtain ⟨v6', hst⟩ := hcut
                    have HST3 := hidden hst
                    clear hst HST2
                    generalize rdNm l s9 = d at *
                    obtain ⟨y1, s10⟩ := d
                    simp only [] at HST3 HRK
                    obtain ⟨rk1, hrk1⟩ : ∃ r, r = rk ++ [y1] := ⟨_, rfl⟩
                    have HRKE := hidden (show ∀ z, rk ++ [y1, z] = rk1 ++ [z] from fun z => by rw [hrk1]; simp)
                    have HLE2 := hidden (show rk1.length = 2 * k + 1 by rw [hrk1, List.length_append, HLE.out.2]; rfl)
                    rw [← hrk1] at HST3
                    clear hrk1
                    go_upto_region 24 with fail
                    have HOG2 := hidden (show Only (fun j => j = w.heap.size + 1) W0 wy from HO7.out.trans HST3.out.only (fun i hi => by rcases hi with h | h; exact .inl h; exact .inr (by have := HB8.out; omega)))
                    have HGD := hidden (show Grows wy wy.drew from ⟨rfl, rfl, rfl, Nat.le_refl _, fun _ _ => rfl⟩)
                    have HSD := hidden (HST3.out.read HGW.out HNE.out (Only.of_grows HGD.out _) (HST3.out.rd.grow HGD.out))
                    have HVL := hidden (rsmall16_any (w.heap.size + 1) A c l s10 wy.drew (HR.out.step (HOG2.out.afterG HGD.out) HSD.out.rd) HL.out)
                    generalize rdNm l s10 = d at *
                    obtain ⟨y2, s11⟩ := d
                    simp only [] at HVL HRK ⊢
                    obtain ⟨i0, hi, hz0, hs1, hs2⟩ := info_parts info_intP
                    have r0 := HSD.out.row.cell 6
                    have r00 := HST3.out.row.cell 6
                    simp only [List.cons_append, List.nil_append, List.getElem?_cons_succ, List.getElem?_cons_zero] at r0 r00
                    go_region_law (first
                      | (refine step_call16 (f := 94) (args := #[.pointer (some ⟨w.heap.size + 1, 0, none⟩)]) rfl rfl ?_ HVL.out ?_; (focus go_simp); rintro e w3 ⟨rfl, ho3, hr3⟩
                         have HS3 := hidden (HSD.out.read HGW.out HNE.out ho3 hr3)
                         have r3 := HS3.out.row.cell 6
                         have r3a := (HS3.out.row.grow (growK w3 (.cells #[.int .i64 y2] 3))).cell 6
                         simp only [List.cons_append, List.nil_append, List.getElem?_cons_succ, List.getElem?_cons_zero] at r3 r3a
                         clear ho3 hr3
                         refine ⟨_, rfl, ?_⟩)
                      | (refine step_append_lies _ (by rfl) _ _ 27 (by rfl) W7.heap.size 3 i0 _ 1 8 Tryz.underlying27 hi hz0 hs1 hs2 rfl (by decide) v6' rk1.length (icells rk1) (by rfl) (HS3.out.ork.alloc _)
                           ⟨w3.heap.size, 0, none⟩ 1 1 [.int .i64 y2] (by rfl) (by rfl) (World.news_of_block (cs := #[.int .i64 y2]) (t := 3) (fr := (0, 0)) (heap_alloc_new w3 _)) (by simp [Value.oneCell'])
                           (by omega) (by have := HLE2.out; unfold maxLen; omega) (by have := HLE2.out; omega) (by have := HS3.out.size; simp; omega) (w3.heap.size + 1) (by simp) ?_; intro gg cap w4 hown4 hgrow hat hlt4
                         have HO4 := hidden (show Only (fun j => v6'.ownBlock = some j) w3 w4 from (Only.of_grows (B := fun j => v6'.ownBlock = some j) (growK w3 (.cells #[.int .i64 y2] 3))).trans (Only.by_ hgrow) (fun i hi => .inl hi))
                         have HOW4 := hidden hown4
                         have HF4 := hidden (HO4.out.row HS3.out.row (fun e => by have := (HS3.out.ork.lt _ e).1; have := HBW.out; omega))
                         have r4 := HF4.out.cell 6
                         have f4 := HF4.out.frozen 6
                         simp only [List.cons_append, List.nil_append, List.getElem?_cons_succ, List.getElem?_cons_zero] at r4
                         clear hown4 hgrow hat hlt4))
                    all_goals
                     focus
                      have HFIN := hidden (HS3.out.ranks (ys := [y2]) HGW.out HBW.out HNE.out rfl HO4.out (by have h := HOW4.out; rw [show icells (rk1 ++ [y2]) = icells rk1 ++ [.int .i64 y2] by simp [icells], List.length_append]; exact h))
                      clear r0 r00 r3 r3a r4 f4
                      have hkb2 : k ≤ 17 := hkb
                      go_wp2_with fail
                      go_roundw
                      case rel => exact ⟨k + 1, v5', _, HLT.out, by go_num, by rw [HRK.out, HRKE.out]; exact HFIN.out⟩
                      case measure => have := HLT.out; simp [intOf]; omega
              · have hke : k = m := by omega
                subst hke
                have hd : decide (k < k) = false := decide_eq_false hlt
                clear hlt hk
                have HLE := hidden (rdFs_len l s7 k)
                have HE78 := hidden (show s7.e ≠ 0 → (rdFs l s7 k).2.2.e ≠ 0 from fun h => by rw [rdFs_err h]; exact h)
                generalize rdFs l s7 k = d at *
                obtain ⟨fs, rk, s8⟩ := d
                simp only [] at HST HLE HSP HE78
                obtain ⟨sk, st⟩ := SKR
                simp only [Prod.mk.injEq] at HSP
                obtain ⟨hsk, hst8⟩ := HSP.out
                have hst9 := hst8.symm
                subst hst9
                have HSK := hidden hsk
                simp only [] at HDE HPA
                have HTW := hidden (HST.out.only.row HT7.out (by rintro (h | h); omega; exact HNT.out h.symm))
                have HOHW := hidden (ownsRow_only HOH7.out HST.out.only (fun k hk e => by have := (HOH7.out.lt k hk).1; have := HGW1.out; have := HBW1.out; rcases e with h | h <;> omega))
                have HOCW := hidden (ownsRow_only HOC7.out HST.out.only (fun k hk e => by have := (HOC7.out.lt k hk).1; have := HGW2.out; have := HBW2.out; rcases e with h | h <;> omega))
                obtain ⟨A3, u3, e5⟩ := own_slice16 HST.out.ofs
                obtain ⟨A4, u4, e6⟩ := own_slice16 HST.out.ork
                subst e5 e6
                obtain ⟨F5, hF5⟩ : ∃ n, n = fs.length := ⟨_, rfl⟩
                obtain ⟨F6, hF6⟩ : ∃ n, n = rk.length := ⟨_, rfl⟩
                have HSX := hidden (show Row wr b8 29 [.int .i64 n1, .int .i64 n2, .slice A1 L1 u1, .bool ok, .slice A2 L2 u2, .slice A3 F5 u3, .slice A4 F6 u4] by rw [hF5, hF6]; exact HST.out.row)
                have HF56 := hidden (And.intro hF5 hF6)
                have HGX := hidden (show Grows w wr from HOGX.out.below HG0.out (fun i hi => by omega))
                have HTX := HTW
                obtain ⟨pz, hrz, hpz, hpb⟩ := HST.out.rd
                have HRX := hidden hrz
                have HPZ := hidden hpz
                have q2 := HRX.out.cell 2
                have t0 := HSX.out.cell 0
                have t1 := HSX.out.cell 1
                have t2 := HSX.out.cell 2
                have t3 := HSX.out.cell 3
                have t4 := HSX.out.cell 4
                have t5 := HSX.out.cell 5
                have t6 := HSX.out.cell 6
                simp only [List.getElem?_cons_succ, List.getElem?_cons_zero] at q2 t0 t1 t2 t3 t4 t5 t6
                clear hF5 hF6 hrz hpz hpb hsk
                by_cases he : s8.e = 0
                · have d1 : (s8.e == 0) = true := beq_iff_eq.2 he
                  rw [he] at q2 HRX
                  have HPE := hidden (HPZ.out he)
                  have HS8 := hidden he
                  have HCE := hidden (show s5.e = 0 from Classical.byContradiction fun h => by
                    have h1 := HE57.out h
                    have h2 := HE78.out h1
                    exact h2 he)
                  have hcm := HCM.out HCE.out
                  have HOWN := hidden (show OwnK W1.heap.size wr (.agg #[.int .i64 n1, .int .i64 n2, .slice A1 L1 u1, .bool ok, .slice A2 L2 u2, .slice A3 F5 u3, .slice A4 F6 u4]) sk by
                    rw [HSK.out]
                    obtain ⟨hF5, hF6⟩ := HF56.out
                    have hL1 := HL1.out
                    have hL2 := HL2.out
                    rw [wcells_length16] at hL1
                    rw [icells_length] at hL2
                    subst hF5 hF6 hL1 hL2
                    subst hcm
                    exact ⟨_, _, _, _, rfl, HOHW.out, ownsRow_base HOCW.out (by have := HW12.out; omega), ownsRow_base HST.out.ofs (by have := HW17.out; omega), ownsRow_base HST.out.ork (by have := HW17.out; omega)⟩)
                  have HQV := hidden (fun Y (h : Grows wr Y) => rValid_any _ sk Y (HOWN.out.isK.grow h) (by have := HPA.out.1; omega) (by have := HPA.out.2.2.2.1; omega) (by have := HPA.out.2.1; omega) (by have := HPA.out.2.1; have := HPA.out.2.2.1; omega) (by have := HPA.out.2.2.2.2.1; omega))
                  rw [valid_same] at HQV
                  clear hcm
                  cases hvb : validKB sk with
                  | true =>
                    rw [hvb] at HQV
                    have HE := hidden (show out = (sk, s8.p, 0) by rw [HDE.out, if_neg (by simpa using he), if_pos hvb])
                    clear hvb he
                    go_wp2_with fail
                    refine (HQV.out wr (Below.refl _ _)).mono ?_
                    rintro e X3 ⟨rfl, g3⟩
                    have HG3 := hidden g3
                    have HRX := hidden (HRX.out.grow g3)
                    have HSX := hidden (HSX.out.grow g3)
                    have HTX := hidden (HTX.out.grow g3)
                    have HGX := hidden (HGX.out.of_below g3)
                    have q2 := HRX.out.cell 2
                    simp only [List.getElem?_cons_succ, List.getElem?_cons_zero] at q2
                    clear g3 t0 t1 t2 t3 t4 t5 t6
                    go_wp2_with fail
                    clear q2
                    have HX := hidden (fun Y (h : Only (fun k => k = w.heap.size) X3 Y) => show (Y.cell? ⟨w.heap.size + 1, 1, none⟩ = some (.int .i64 pz) ∧ Y.cell? ⟨w.heap.size + 1, 2, none⟩ = some (.int .i64 0)) ∧ Y.cell? ⟨b8, 0, none⟩ = some (.int .i64 n1) ∧ Y.cell? ⟨b8, 1, none⟩ = some (.int .i64 n2) ∧ Y.cell? ⟨b8, 2, none⟩ = some (.slice A1 L1 u1) ∧ Y.cell? ⟨b8, 3, none⟩ = some (.bool ok) ∧ Y.cell? ⟨b8, 4, none⟩ = some (.slice A2 L2 u2) ∧ Y.cell? ⟨b8, 5, none⟩ = some (.slice A3 F5 u3) ∧ Y.cell? ⟨b8, 6, none⟩ = some (.slice A4 F6 u4) from
                      have e1 : w.heap.size + 1 ≠ w.heap.size := by omega
                      have r1 := h.row HRX.out e1
                      have r2 := h.row HSX.out HNT.out
                      ⟨⟨r1.cell 1, r1.cell 2⟩, r2.cell 0, r2.cell 1, r2.cell 2, r2.cell 3, r2.cell 4, r2.cell 5, r2.cell 6⟩)
                    have HIS := hidden (show IsSkR X3 w.heap.size from ⟨_, _, _, _, _, _, _, HTX.out⟩)
                    letI : SteQ := skSte w.heap.size [(.int .i64 n1), (.int .i64 n2), (.slice A1 L1 u1), (.bool ok), (.slice A2 L2 u2), (.slice A3 F5 u3), (.slice A4 F6 u4)]
                    refine wp_region_looseX (tabX [(5, fun _ _ w' => Row w' w.heap.size 29 [(.int .i64 n1), (.int .i64 n2), (.slice A1 L1 u1), (.bool ok), (.slice A2 L2 u2), (.slice A3 F5 u3), (.slice A4 F6 u4)])]) (by kernel_rfl) (by kernel_rfl) (tabX_cons (fun s v w w' hr ht => (show SkT _ _ _ _ from ht).done hr) tabX_nil) ?_
                    iterate 5 ((with_reducible refine loose_oneX (v := ?_) (a' := ?_) ?_ ?_ (fun w' hC' hG' => ?_) ?_ ?_); rotate_left 2; (focus rfl); (focus rfl); (focus (obtain ⟨⟨y1, y2⟩, s0, s1, s2, s3, s4, s5, s6⟩ := HX.out w' (show SkT _ _ X3 w' from hC').only; clear hC' hG'; go_simp; rfl)); (focus (go_simp; rfl)))
                    refine loose_storeX (R := fun _ _ w' => Row w' w.heap.size 29 [(.int .i64 n1), (.int .i64 n2), (.slice A1 L1 u1), (.bool ok), (.slice A2 L2 u2), (.slice A3 F5 u3), (.slice A4 F6 u4)]) (by rfl) (by rfl) (fun w' hC' hG' => ?_) ?_
                    · obtain ⟨r0, r1, r2, r3, r4, r5, r6, hrr⟩ := (show SkT _ _ X3 w' from hC').row HIS.out
                      have hst := SkT.store (z0 := (.int .i64 n1)) (z1 := (.int .i64 n2)) (z2 := (.slice A1 L1 u1)) (z3 := (.bool ok)) (z4 := (.slice A2 L2 u2)) (z5 := (.slice A3 F5 u3)) (z6 := (.slice A4 F6 u4)) hrr
                      exact ⟨_, store_run_sk _ _ rfl w.heap.size (.int .i64 n1) (.int .i64 n2) (.slice A1 L1 u1) (.bool ok) (.slice A2 L2 u2) (.slice A3 F5 u3) (.slice A4 F6 u4) rfl (by rfl) (by simp [Value.oneCell']) hrr, hst.1, hst.2⟩
                    intro v8 _
                    refine ⟨?_, ?_, ?_⟩
                    rotate_left
                    · go_simp
                      rfl
                    iterate 2 ((with_reducible refine loose_oneX (v := ?_) (a' := ?_) ?_ ?_ (fun w' hC' hG' => ?_) ?_ ?_); rotate_left 2; (focus rfl); (focus rfl); (focus (clear hC' hG'; go_simp; rfl)); (focus (go_simp; rfl)))
                    refine loose_doneX (fun w9 hC' hG' => ?_)
                    have HR9 := hidden ((hG' 5).2 rfl)
                    have HO9 := hidden (show SkT _ _ X3 w9 from hC').only
                    clear hC' hG'
                    go_wp2_with fail
                    refine bodyPost_ret (results_sk3 rfl _ _ _ _ _ _ _ _ _ _ _ _ rfl HR9.out rfl rfl) rfl ⟨.agg #[.int .i64 n1, .int .i64 n2, .slice A1 L1 u1, .bool ok, .slice A2 L2 u2, .slice A3 F5 u3, .slice A4 F6 u4], ?_, ?_, HO9.out.below HGX.out (fun i hi => by omega)⟩
                    · rw [HE.out, ← HPE.out]
                      first | done | rfl
                    · rw [HE.out]
                      exact ((HOWN.out.only (Only.of_grows HG3.out (fun _ => False)) (fun _ _ h => h)).only HO9.out (fun k hk h => by have := HGW1.out; omega)).isK
                  | false =>
                    rw [hvb] at HQV
                    have HE := hidden (show out = (zeroSk, 0, 4) by rw [HDE.out, if_neg (by simpa using he), if_neg (by rw [hvb]; decide)])
                    have HKZ2 := hidden (show ∀ W, IsK W (.agg #[.int .i64 0, .int .i64 0, .slice none 0 0, .bool false, .slice none 0 0, .slice none 0 0, .slice none 0 0]) out.1 from fun W => by rw [HE.out]; exact HKZ.out W)
                    clear hvb he
                    go_wp2_with fail
                    refine (HQV.out wr (Below.refl _ _)).mono ?_
                    rintro e X3 ⟨rfl, g3⟩
                    have HR3 := hidden (show Rdr 112 (w.heap.size + 1) A c l s8 X3 from HR.out.step (HOGX.out.afterG g3) (HST.out.rd.grow g3))
                    have HSX3 := hidden (HSX.out.grow g3)
                    have HTX3 := hidden (HTX.out.grow g3)
                    have HGX3 := hidden (HGX.out.of_below g3)
                    clear g3 t0 t1 t2 t3 t4 t5 t6 q2
                    go_wp2_with fail
                    refine (rfail16_any (w.heap.size + 1) A c l s8 4 X3 HR3.out (by decide)).mono ?_
                    rintro e X6 ⟨rfl, ho6, hr6⟩
                    rw [if_pos HS8.out] at hr6
                    obtain ⟨pz6, hrz6, -⟩ := hr6
                    have HRX := hidden hrz6
                    have HSX := hidden (ho6.row HSX3.out HNE.out)
                    have HTX := hidden (ho6.row HTX3.out (by omega))
                    have HGX := hidden (show Grows w X6 from ho6.below HGX3.out (fun i hi => by omega))
                    have q2 := HRX.out.cell 2
                    simp only [List.getElem?_cons_succ, List.getElem?_cons_zero] at q2
                    clear ho6 hrz6
                    go_wp2_with fail
                    clear q2
                    have HX := hidden (fun Y (h : Only (fun k => k = w.heap.size) X6 Y) => show (Y.cell? ⟨w.heap.size + 1, 1, none⟩ = some (.int .i64 pz6) ∧ Y.cell? ⟨w.heap.size + 1, 2, none⟩ = some (.int .i64 4)) ∧ Y.cell? ⟨b8, 0, none⟩ = some (.int .i64 n1) ∧ Y.cell? ⟨b8, 1, none⟩ = some (.int .i64 n2) ∧ Y.cell? ⟨b8, 2, none⟩ = some (.slice A1 L1 u1) ∧ Y.cell? ⟨b8, 3, none⟩ = some (.bool ok) ∧ Y.cell? ⟨b8, 4, none⟩ = some (.slice A2 L2 u2) ∧ Y.cell? ⟨b8, 5, none⟩ = some (.slice A3 F5 u3) ∧ Y.cell? ⟨b8, 6, none⟩ = some (.slice A4 F6 u4) from
                      have e1 : w.heap.size + 1 ≠ w.heap.size := by omega
                      have r1 := h.row HRX.out e1
                      have r2 := h.row HSX.out HNT.out
                      ⟨⟨r1.cell 1, r1.cell 2⟩, r2.cell 0, r2.cell 1, r2.cell 2, r2.cell 3, r2.cell 4, r2.cell 5, r2.cell 6⟩)
                    have HIS := hidden (show IsSkR X6 w.heap.size from ⟨_, _, _, _, _, _, _, HTX.out⟩)
                    letI : SteQ := skSte w.heap.size [(.int .i64 0), (.int .i64 0), (.slice none 0 0), (.bool false), (.slice none 0 0), (.slice none 0 0), (.slice none 0 0)]
                    refine wp_region_looseX (tabX [(5, fun _ _ w' => Row w' w.heap.size 29 [(.int .i64 0), (.int .i64 0), (.slice none 0 0), (.bool false), (.slice none 0 0), (.slice none 0 0), (.slice none 0 0)])]) (by kernel_rfl) (by kernel_rfl) (tabX_cons (fun s v w w' hr ht => (show SkT _ _ _ _ from ht).done hr) tabX_nil) ?_
                    iterate 5 ((with_reducible refine loose_oneX (v := ?_) (a' := ?_) ?_ ?_ (fun w' hC' hG' => ?_) ?_ ?_); rotate_left 2; (focus rfl); (focus rfl); (focus (obtain ⟨⟨y1, y2⟩, s0, s1, s2, s3, s4, s5, s6⟩ := HX.out w' (show SkT _ _ X6 w' from hC').only; clear hC' hG'; go_simp; rfl)); (focus (go_simp; rfl)))
                    refine loose_storeX (R := fun _ _ w' => Row w' w.heap.size 29 [(.int .i64 0), (.int .i64 0), (.slice none 0 0), (.bool false), (.slice none 0 0), (.slice none 0 0), (.slice none 0 0)]) (by rfl) (by rfl) (fun w' hC' hG' => ?_) ?_
                    · obtain ⟨r0, r1, r2, r3, r4, r5, r6, hrr⟩ := (show SkT _ _ X6 w' from hC').row HIS.out
                      have hst := SkT.store (z0 := (.int .i64 0)) (z1 := (.int .i64 0)) (z2 := (.slice none 0 0)) (z3 := (.bool false)) (z4 := (.slice none 0 0)) (z5 := (.slice none 0 0)) (z6 := (.slice none 0 0)) hrr
                      exact ⟨_, store_run_sk _ _ rfl w.heap.size (.int .i64 0) (.int .i64 0) (.slice none 0 0) (.bool false) (.slice none 0 0) (.slice none 0 0) (.slice none 0 0) rfl (by rfl) (by simp [Value.oneCell']) hrr, hst.1, hst.2⟩
                    intro v8 _
                    refine ⟨?_, ?_, ?_⟩
                    rotate_left
                    · go_simp
                      rfl
                    iterate 2 ((with_reducible refine loose_oneX (v := ?_) (a' := ?_) ?_ ?_ (fun w' hC' hG' => ?_) ?_ ?_); rotate_left 2; (focus rfl); (focus rfl); (focus (clear hC' hG'; go_simp; rfl)); (focus (go_simp; rfl)))
                    refine loose_doneX (fun w9 hC' hG' => ?_)
                    have HR9 := hidden ((hG' 5).2 rfl)
                    have HO9 := hidden (show SkT _ _ X6 w9 from hC').only
                    clear hC' hG'
                    go_wp2_with fail
                    refine bodyPost_ret (results_sk3 rfl _ _ _ _ _ _ _ _ _ _ _ _ rfl HR9.out rfl rfl) rfl ⟨.agg #[.int .i64 0, .int .i64 0, .slice none 0 0, .bool false, .slice none 0 0, .slice none 0 0, .slice none 0 0], ?_, HKZ2.out _, HO9.out.below HGX.out (fun i hi => by omega)⟩
                    rw [HE.out]
                    first | done | rfl
                · have d1 : (s8.e == 0) = false := beq_eq_false_iff_ne.2 he
                  have HE := hidden (show out = (zeroSk, 0, s8.e) by rw [HDE.out, if_pos he])
                  have HKZ2 := hidden (show ∀ W, IsK W (.agg #[.int .i64 0, .int .i64 0, .slice none 0 0, .bool false, .slice none 0 0, .slice none 0 0, .slice none 0 0]) out.1 from fun W => by rw [HE.out]; exact HKZ.out W)
                  clear he
                  go_wp2_with fail
                  clear q2 t0 t1 t2 t3 t4 t5 t6
                  have HX := hidden (fun Y (h : Only (fun k => k = w.heap.size) wr Y) => show (Y.cell? ⟨w.heap.size + 1, 1, none⟩ = some (.int .i64 pz) ∧ Y.cell? ⟨w.heap.size + 1, 2, none⟩ = some (.int .i64 s8.e)) ∧ Y.cell? ⟨b8, 0, none⟩ = some (.int .i64 n1) ∧ Y.cell? ⟨b8, 1, none⟩ = some (.int .i64 n2) ∧ Y.cell? ⟨b8, 2, none⟩ = some (.slice A1 L1 u1) ∧ Y.cell? ⟨b8, 3, none⟩ = some (.bool ok) ∧ Y.cell? ⟨b8, 4, none⟩ = some (.slice A2 L2 u2) ∧ Y.cell? ⟨b8, 5, none⟩ = some (.slice A3 F5 u3) ∧ Y.cell? ⟨b8, 6, none⟩ = some (.slice A4 F6 u4) from
                    have e1 : w.heap.size + 1 ≠ w.heap.size := by omega
                    have r1 := h.row HRX.out e1
                    have r2 := h.row HSX.out HNT.out
                    ⟨⟨r1.cell 1, r1.cell 2⟩, r2.cell 0, r2.cell 1, r2.cell 2, r2.cell 3, r2.cell 4, r2.cell 5, r2.cell 6⟩)
                  have HIS := hidden (show IsSkR wr w.heap.size from ⟨_, _, _, _, _, _, _, HTX.out⟩)
                  letI : SteQ := skSte w.heap.size [(.int .i64 0), (.int .i64 0), (.slice none 0 0), (.bool false), (.slice none 0 0), (.slice none 0 0), (.slice none 0 0)]
                  refine wp_region_looseX (tabX [(5, fun _ _ w' => Row w' w.heap.size 29 [(.int .i64 0), (.int .i64 0), (.slice none 0 0), (.bool false), (.slice none 0 0), (.slice none 0 0), (.slice none 0 0)])]) (by kernel_rfl) (by kernel_rfl) (tabX_cons (fun s v w w' hr ht => (show SkT _ _ _ _ from ht).done hr) tabX_nil) ?_
                  iterate 5 ((with_reducible refine loose_oneX (v := ?_) (a' := ?_) ?_ ?_ (fun w' hC' hG' => ?_) ?_ ?_); rotate_left 2; (focus rfl); (focus rfl); (focus (obtain ⟨⟨y1, y2⟩, s0, s1, s2, s3, s4, s5, s6⟩ := HX.out w' (show SkT _ _ wr w' from hC').only; clear hC' hG'; go_simp; rfl)); (focus (go_simp; rfl)))
                  refine loose_storeX (R := fun _ _ w' => Row w' w.heap.size 29 [(.int .i64 0), (.int .i64 0), (.slice none 0 0), (.bool false), (.slice none 0 0), (.slice none 0 0), (.slice none 0 0)]) (by rfl) (by rfl) (fun w' hC' hG' => ?_) ?_
                  · obtain ⟨r0, r1, r2, r3, r4, r5, r6, hrr⟩ := (show SkT _ _ wr w' from hC').row HIS.out
                    have hst := SkT.store (z0 := (.int .i64 0)) (z1 := (.int .i64 0)) (z2 := (.slice none 0 0)) (z3 := (.bool false)) (z4 := (.slice none 0 0)) (z5 := (.slice none 0 0)) (z6 := (.slice none 0 0)) hrr
                    exact ⟨_, store_run_sk _ _ rfl w.heap.size (.int .i64 0) (.int .i64 0) (.slice none 0 0) (.bool false) (.slice none 0 0) (.slice none 0 0) (.slice none 0 0) rfl (by rfl) (by simp [Value.oneCell']) hrr, hst.1, hst.2⟩
                  intro v8 _
                  refine ⟨?_, ?_, ?_⟩
                  rotate_left
                  · go_simp
                    rfl
                  iterate 2 ((with_reducible refine loose_oneX (v := ?_) (a' := ?_) ?_ ?_ (fun w' hC' hG' => ?_) ?_ ?_); rotate_left 2; (focus rfl); (focus rfl); (focus (clear hC' hG'; go_simp; rfl)); (focus (go_simp; rfl)))
                  refine loose_doneX (fun w9 hC' hG' => ?_)
                  have HR9 := hidden ((hG' 5).2 rfl)
                  have HO9 := hidden (show SkT _ _ wr w9 from hC').only
                  clear hC' hG'
                  go_wp2_with fail
                  refine bodyPost_ret (results_sk3 rfl _ _ _ _ _ _ _ _ _ _ _ _ rfl HR9.out rfl rfl) rfl ⟨.agg #[.int .i64 0, .int .i64 0, .slice none 0 0, .bool false, .slice none 0 0, .slice none 0 0, .slice none 0 0], ?_, HKZ2.out _, HO9.out.below HGX.out (fun i hi => by omega)⟩
                  rw [HE.out]
                  first | done | rfl
end Go.Proofs.YtoaklmceejeblaaGreat
