/-
  Texts that the claims of this seat share, put together (Ld1, Ld2, Ld3, Ld4). No condition.
-/
import Derived.Test.YtoaklmceejeblaaGreatM11
import Derived.Test.YtoaklmceejeblaaGreatM4
import Derived.Test.YtoaklmceejeblaaGreatM8
/-
  Shaken: what the claims of this seat need of this text. No condition.
-/
namespace Go.Proofs.YtoaklmceejeblaaGreat
set_option maxRecDepth 8000
open Go.RowKit
set_option linter.unusedVariables false
set_option linter.unusedSimpArgs false
theorem results_val3 {fn : Func} {p q r : Tmp} (h : fn.results = #[.cell p 35, .tmp q, .tmp r]) (tmps : Array Value) (w : World) (g : Nat) (k n t : Value) (hp : tmps.getD p undef = .pointer (some ⟨g, 0, none⟩)) (hg : Row w g 35 [k, n, t]) :
    (results fn tmps).run Tryz.prog w = .ok (.tuple #[.agg #[k, n, t], tmps.getD q undef, tmps.getD r undef]) w := by
  have hp' : tmps[p]?.getD undef = .pointer (some ⟨g, 0, none⟩) := by simpa using hp
  have hr := run_loadVar_row w g 35 35 #[k, n, t] (0, 0) _ hg Tryz.underlying35 rfl size_val
  simp [results, h, hp', asAddr, hr]
theorem byte_of {w : World} {A : Option Addr} {c : Nat} {l : List UInt8} (h : IsBytes w (.slice A l.length c) l) {o : Nat} (ho : o < l.length) : ∃ b f, A = some ⟨b, f, none⟩ ∧ w.cell? ⟨b, f + o, none⟩ = some (.int .u8 (byteAt l o : Int)) := by
  obtain ⟨A', c', he, hc⟩ := h
  injection he with e1 e2 e3
  subst e1
  obtain ⟨b, f, rfl, hcell⟩ := hc (by omega)
  refine ⟨b, f, rfl, ?_⟩
  rw [hcell o ho]
  unfold byteAt
  rw [List.getD_eq_getElem?_getD, List.getElem?_eq_getElem ho]
  rfl
set_option maxHeartbeats 1000000 in
theorem ldecBool_any (A : Option Addr) (c : Nat) (l : List UInt8) (o : Nat) (w : World) (hv : IsBytes w (.slice A l.length c) l) (hl : l.length ≤ 4611686018427387904) (ho : o ≤ l.length) :
    Calls Tryz.prog 180 #[.slice A l.length c, .int .i64 (o : Int)] w fun e w' => e = .returned (dBoolO l o).v ∧ Grows w w' := by
  by_cases h1 : o = l.length
  · have HE := hidden (show dBoolO l o = dErr 2 from if_pos h1)
    have ht : ((o : Int) == (l.length : Int)) = true := by simp [h1]
    go_enter Tryz.func180, Tryz.ntmps180
    go_wp2_with (refine wpList_store_val rfl _ _ rfl w.heap.size rfl _ _ _ rfl (valRow w _ _ _) ?_)
    exact bodyPost_ret (results_val3 rfl _ _ _ _ _ _ rfl (valSet_row (valRow w _ _ _) [.int .i64 0, .int .i64 0, .string ⟨#[]⟩])) rfl ⟨by rw [HE.out]; rfl, valSet_below (grow1 _) (Nat.le_refl _) _⟩
  have h2 : o < l.length := by omega
  obtain ⟨b, f, rfl, hc0⟩ := byte_of hv h2
  have hc := fun ob => ((grow1 (w := w) ob).cell (World.block_lt_of_cell? _ _ hc0)).trans hc0
  clear hc0
  have hne : ((o : Int) == (l.length : Int)) = false := by simp; omega
  have hb : byteAt l o < 256 := UInt8.toNat_lt _
  generalize hB : byteAt l o = B at *
  have HB := hidden hB
  clear hB hv
  by_cases h3 : 1 < B
  · have HE := hidden (show dBoolO l o = dErr 4 by unfold dBoolO; rw [if_neg h1, HB.out, if_pos h3])
    have hd : decide ((1 : Int) < (B : Int)) = true := by simp; omega
    go_enter Tryz.func180, Tryz.ntmps180
    go_wp2_with (refine wpList_store_val rfl _ _ rfl w.heap.size rfl _ _ _ rfl (valRow w _ _ _) ?_)
    exact bodyPost_ret (results_val3 rfl _ _ _ _ _ _ rfl (valSet_row (valRow w _ _ _) [.int .i64 0, .int .i64 0, .string ⟨#[]⟩])) rfl ⟨by rw [HE.out]; rfl, valSet_below (grow1 _) (Nat.le_refl _) _⟩
  · have HE := hidden (show dBoolO l o = ⟨1, if B = 1 then 1 else 0, ⟨#[]⟩, (o : Int) + 1, 0⟩ by unfold dBoolO; rw [if_neg h1, HB.out, if_neg h3])
    have hd : decide ((1 : Int) < (B : Int)) = false := by simp; omega
    have HI := hidden (fun b w => lboolean_any b w)
    unfold boolV at HI
    have HX := hidden (show (if ((B : Int) == 1) = true then (1 : Int) else 0) = (if B = 1 then 1 else 0) by
      by_cases hB1 : B = 1
      · subst hB1; rfl
      · have e : ((B : Int) == 1) = false := by simp; omega
        rw [e, if_neg hB1, if_neg (by decide)])
    generalize (if B = 1 then (1 : Int) else 0) = x at *
    go_enter Tryz.func180, Tryz.ntmps180
    go_wp2_with fail
    refine (HI.out ((B : Int) == 1) _).mono ?_
    rintro e w2 ⟨rfl, g2⟩
    rw [HX.out]
    have HR := hidden ((valRow w (.int .i64 0) (.int .i64 0) (.string ⟨#[]⟩)).grow g2)
    have HG := hidden ((grow1 _).of_below g2)
    clear g2
    go_wp2_with (refine wpList_store_val rfl _ _ rfl w.heap.size rfl _ _ _ rfl HR.out ?_)
    exact bodyPost_ret (results_val3 rfl _ _ _ _ _ _ rfl (valSet_row HR.out [.int .i64 1, .int .i64 x, .string ⟨#[]⟩])) rfl ⟨by rw [HE.out]; rfl, valSet_below HG.out (Nat.le_refl _) _⟩
theorem dInt_form (l : List UInt8) (o : Nat) : (dcd l o).2.2 = 0 → dIntO l o = ⟨2, uz (dcd l o).1, ⟨#[]⟩, (dcd l o).2.1, 0⟩ := fun h => by
  unfold dIntO; rw [if_neg (fun hn => hn h)]
set_option maxHeartbeats 1000000 in
theorem ldecInt_any (A : Option Addr) (c : Nat) (l : List UInt8) (o : Nat) (w : World) (hv : IsBytes w (.slice A l.length c) l) (hl : l.length ≤ 4611686018427387904) (ho : o ≤ l.length) :
    Calls Tryz.prog 181 #[.slice A l.length c, .int .i64 (o : Int)] w fun e w' => e = .returned (dIntO l o).v ∧ Grows w w' := by
  have HD := hidden (fun w h => decode_any (.slice A l.length c) l (o : Int) w h (by unfold maxLen; omega) (by omega) (by omega))
  have HV := hidden hv
  obtain ⟨hb1, hb2, hb3, hb4, hb5⟩ := dcd_bd l o ho
  have HF := hidden (dInt_form l o)
  have HF2 := hidden (show (dcd l o).2.2 ≠ 0 → dIntO l o = dErr (dcd l o).2.2 from fun h => if_pos h)
  generalize (dcd l o).1 = n at *
  generalize (dcd l o).2.1 = p at *
  generalize (dcd l o).2.2 = e at *
  have HG0 := hidden (grow1 (w := w) (.cells #[.int .i64 0, .int .i64 0, .string ⟨#[]⟩] 35))
  clear hv
  by_cases he : e = 0
  · have HE := hidden (HF.out he)
    subst he
    have HU := hidden (fun w => unzigzag_any n w hb1 (by omega))
    have HI := hidden (fun w => linteger_any (uz n) w)
    unfold intV at HI
    clear hb1 hb2 hb3 hb4 hb5 HF HF2
    generalize uz n = x at *
    go_enter Tryz.func181, Tryz.ntmps181
    go_wp2_with fail
    refine (HD.out _ (HV.out.grow HG0.out)).mono ?_
    rintro e w2 ⟨rfl, rfl⟩
    go_wp2_with fail
    refine (HU.out _).mono ?_
    rintro e w3 ⟨rfl, rfl⟩
    go_wp2_with fail
    refine (HI.out _).mono ?_
    rintro e w4 ⟨rfl, g2⟩
    have HR := hidden ((valRow w (.int .i64 0) (.int .i64 0) (.string ⟨#[]⟩)).grow g2)
    have HG := hidden ((grow1 _).of_below g2)
    clear g2
    go_wp2_with (refine wpList_store_val rfl _ _ rfl w.heap.size rfl _ _ _ rfl HR.out ?_)
    exact bodyPost_ret (results_val3 rfl _ _ _ _ _ _ rfl (valSet_row HR.out [.int .i64 2, .int .i64 x, .string ⟨#[]⟩])) rfl ⟨by rw [HE.out]; rfl, valSet_below HG.out (Nat.le_refl _) _⟩
  · have HE := hidden (HF2.out he)
    have hen : (e != 0) = true := by simpa using he
    clear hb1 hb2 hb3 hb4 hb5 HF HF2 he
    go_enter Tryz.func181, Tryz.ntmps181
    go_wp2_with fail
    refine (HD.out _ (HV.out.grow HG0.out)).mono ?_
    rintro e w2 ⟨rfl, rfl⟩
    go_wp2_with (refine wpList_store_val rfl _ _ rfl w.heap.size rfl _ _ _ rfl (valRow w _ _ _) ?_)
    exact bodyPost_ret (results_val3 rfl _ _ _ _ _ _ rfl (valSet_row (valRow w _ _ _) [.int .i64 0, .int .i64 0, .string ⟨#[]⟩])) rfl ⟨by rw [HE.out]; rfl, valSet_below (grow1 _) (Nat.le_refl _) _⟩
end Go.Proofs.YtoaklmceejeblaaGreat
/-
  Shaken: what the claims of this seat need of this text. No condition.
-/
namespace Go.Proofs.YtoaklmceejeblaaGreat
set_option maxRecDepth 8000
open Go.RowKit
set_option linter.unusedVariables false
set_option linter.unusedSimpArgs false
set_option maxHeartbeats 1000000 in
theorem ldecText_any (b f : Nat) (c : Nat) (l : List UInt8) (o : Nat) (w : World) (hv : IsBytes w (.slice (some ⟨b, f, none⟩) l.length c) l) (hl : l.length ≤ 4611686018427387904) (hlc : l.length ≤ c) (ho : o ≤ l.length) :
    Calls Tryz.prog 182 #[.slice (some ⟨b, f, none⟩) l.length c, .int .i64 (o : Int)] w fun e w' => e = .returned (dTextO l o).v ∧ Grows w w' := by
  have HD := hidden (fun w h => decode_any (.slice (some ⟨b, f, none⟩) l.length c) l (o : Int) w h (by unfold maxLen; omega) (by omega) (by omega))
  have HV := hidden hv
  obtain ⟨hb1, hb2, hb3, hb4, hb5⟩ := dcd_bd l o (by omega)
  have HF0 := hidden (show (dcd l o).2.2 ≠ 0 → dTextO l o = dErr (dcd l o).2.2 from fun h => if_pos h)
  have HF1 := hidden (show (dcd l o).2.2 = 0 → 4096 < (dcd l o).1 → dTextO l o = dErr 3 from fun h h1 => by unfold dTextO; rw [if_neg (fun hn => hn h), if_pos h1])
  have HF2 := hidden (show (dcd l o).2.2 = 0 → ¬ 4096 < (dcd l o).1 → (l.length : Int) < (dcd l o).2.1 + (dcd l o).1 → dTextO l o = dErr 2 from fun h h1 h2 => by unfold dTextO; rw [if_neg (fun hn => hn h), if_neg h1, if_pos h2])
  have HF3 := hidden (show (dcd l o).2.2 = 0 → ¬ 4096 < (dcd l o).1 → ¬ (l.length : Int) < (dcd l o).2.1 + (dcd l o).1 → dTextO l o = ⟨3, 0, strOf ((l.drop (dcd l o).2.1.toNat).take (dcd l o).1.toNat), (dcd l o).2.1 + (dcd l o).1, 0⟩ from fun h h1 h2 => by unfold dTextO; rw [if_neg (fun hn => hn h), if_neg h1, if_neg h2])
  generalize (dcd l o).1 = n at *
  generalize (dcd l o).2.1 = p at *
  generalize (dcd l o).2.2 = e at *
  have HG0 := hidden (grow1 (w := w) (.cells #[.int .i64 0, .int .i64 0, .string ⟨#[]⟩] 35))
  clear hv
  by_cases he : e = 0
  case neg =>
    have HE := hidden (HF0.out he)
    have hen : (e != 0) = true := by simpa using he
    clear hb1 hb2 hb3 hb4 hb5 HF0 HF1 HF2 HF3 he
    go_enter Tryz.func182, Tryz.ntmps182
    go_wp2_with fail
    refine (HD.out _ (HV.out.grow HG0.out)).mono ?_
    rintro e w2 ⟨rfl, rfl⟩
    go_wp2_with (refine wpList_store_val rfl _ _ rfl w.heap.size rfl _ _ _ rfl (valRow w _ _ _) ?_)
    exact bodyPost_ret (results_val3 rfl _ _ _ _ _ _ rfl (valSet_row (valRow w _ _ _) [.int .i64 0, .int .i64 0, .string ⟨#[]⟩])) rfl ⟨by rw [HE.out]; rfl, valSet_below (grow1 _) (Nat.le_refl _) _⟩
  have HF1' := hidden (HF1.out he)
  have HF2' := hidden (HF2.out he)
  have HF3' := hidden (HF3.out he)
  obtain ⟨hp1, hp2⟩ := hb3 he
  subst he
  clear hb3 hb4 hb5 HF0 HF1 HF2 HF3
  by_cases h1 : 4096 < n
  · have HE := hidden (HF1'.out h1)
    have hd : decide ((4096 : Int) < n) = true := by simpa using h1
    clear HF1' HF2' HF3' hp1 hp2
    go_enter Tryz.func182, Tryz.ntmps182
    go_wp2_with fail
    refine (HD.out _ (HV.out.grow HG0.out)).mono ?_
    rintro e w2 ⟨rfl, rfl⟩
    go_wp2_with (refine wpList_store_val rfl _ _ rfl w.heap.size rfl _ _ _ rfl (valRow w _ _ _) ?_)
    exact bodyPost_ret (results_val3 rfl _ _ _ _ _ _ rfl (valSet_row (valRow w _ _ _) [.int .i64 0, .int .i64 0, .string ⟨#[]⟩])) rfl ⟨by rw [HE.out]; rfl, valSet_below (grow1 _) (Nat.le_refl _) _⟩
  obtain ⟨N, rfl⟩ := Int.eq_ofNat_of_zero_le hb1
  obtain ⟨P, rfl⟩ := Int.eq_ofNat_of_zero_le (show 0 ≤ p by omega)
  have hd : decide ((4096 : Int) < (N : Int)) = false := by simpa using h1
  obtain ⟨E, hE⟩ : ∃ E, E = P + N := ⟨_, rfl⟩
  have hsum : (P : Int) + (N : Int) = (E : Int) := by omega
  rw [hsum] at HF2' HF3'
  have hPE : P ≤ E := by omega
  have hEN := hidden (show E - P = N by omega)
  have hEl : E < 9223372036854775808 := by omega
  clear hE
  by_cases h2 : (l.length : Int) < (E : Int)
  · have HX := hidden (HF2'.out h1 h2)
    have hd2 : decide (l.length < E) = true := by simp; omega
    have hd3 : decide ((l.length : Int) < (E : Int)) = true := by simp; omega
    clear HF1' HF2' HF3' h1 h2 hb1 hb2 hp1 hp2 ho hl
    go_enter Tryz.func182, Tryz.ntmps182
    go_wp2_with fail
    refine (HD.out _ (HV.out.grow HG0.out)).mono ?_
    rintro e w2 ⟨rfl, rfl⟩
    go_wp2_with (refine wpList_store_val rfl _ _ rfl w.heap.size rfl _ _ _ rfl (valRow w _ _ _) ?_)
    exact bodyPost_ret (results_val3 rfl _ _ _ _ _ _ rfl (valSet_row (valRow w _ _ _) [.int .i64 0, .int .i64 0, .string ⟨#[]⟩])) rfl ⟨by rw [HX.out]; rfl, valSet_below (grow1 _) (Nat.le_refl _) _⟩
  · have HX := hidden (HF3'.out h1 h2)
    have hd2 : decide (l.length < E) = false := by simp; omega
    have hd3 : decide ((l.length : Int) < (E : Int)) = false := by simp; omega
    have hElc : l.length ≤ c := hlc
    have HEL := hidden (show E ≤ l.length by omega)
    clear HF1' HF2' HF3' h1 h2 hb1 hb2 hp1 hp2 ho hl hlc
    go_enter Tryz.func182, Tryz.ntmps182
    go_wp2_with fail
    refine (HD.out _ (HV.out.grow HG0.out)).mono ?_
    rintro e w2 ⟨rfl, rfl⟩
    go_wp2_with (first
      | (refine wpList_slice_bytes rfl _ _ _ 45 5 rfl Tryz.underlying45 (by kernel_rfl) (by kernel_rfl) b f l c rfl (HV.out.grow HG0.out) P E rfl rfl hPE HEL.out hElc ?_; intro v9 hv9; have HV9 := hidden hv9; clear hv9)
      | (refine wpList_tostring rfl _ 45 9 5 rfl Tryz.underlying45 Tryz.underlying5 Tryz.underlying9 v9 _ rfl HV9.out ?_))
    rw [hEN.out]
    have HI := hidden (fun w => ltext_any (strOf ((l.drop P).take N)) w)
    have HX2 := hidden (show dTextO l o = ⟨3, 0, strOf ((l.drop P).take N), (E : Int), 0⟩ from HX.out)
    unfold textV at HI
    generalize strOf ((l.drop P).take N) = s at *
    refine (HI.out _).mono ?_
    rintro e w4 ⟨rfl, g2⟩
    have HR := hidden ((valRow w (.int .i64 0) (.int .i64 0) (.string ⟨#[]⟩)).grow g2)
    have HG := hidden ((grow1 _).of_below g2)
    clear g2
    go_wp2_with (refine wpList_store_val rfl _ _ rfl w.heap.size rfl _ _ _ rfl HR.out ?_)
    exact bodyPost_ret (results_val3 rfl _ _ _ _ _ _ rfl (valSet_row HR.out [.int .i64 3, .int .i64 0, .string s])) rfl ⟨by rw [HX2.out]; rfl, valSet_below HG.out (Nat.le_refl _) _⟩
end Go.Proofs.YtoaklmceejeblaaGreat
/-
  Shaken: what the claims of this seat need of this text. No condition.
-/
namespace Go.Proofs.YtoaklmceejeblaaGreat
set_option maxRecDepth 8000
open Go.RowKit
set_option linter.unusedVariables false
set_option linter.unusedSimpArgs false
set_option maxHeartbeats 2000000 in
theorem ldecode_any (A : Option Addr) (c : Nat) (l : List UInt8) (off : Int) (w : World) (hv : IsBytes w (.slice A l.length c) l) (hl : l.length ≤ 4611686018427387904) (hlc : l.length ≤ c) :
    Calls Tryz.prog 160 #[.slice A l.length c, .int .i64 off] w fun e w' => e = .returned (decO l off).v ∧ Grows w w' := by
  by_cases h0 : off < 0
  · have HE := hidden (show decO l off = dErr 1 from if_pos (.inl h0))
    go_enter Tryz.func160, Tryz.ntmps160
    go_wp2_with (refine wpList_store_val rfl _ _ rfl w.heap.size rfl _ _ _ rfl (valRow w _ _ _) ?_)
    exact bodyPost_ret (results_val3 rfl _ _ _ _ _ _ rfl (valSet_row (valRow w _ _ _) [.int .i64 0, .int .i64 0, .string ⟨#[]⟩])) rfl ⟨by rw [HE.out]; rfl, valSet_below (grow1 _) (Nat.le_refl _) _⟩
  by_cases h1 : (l.length : Int) < off
  · have HE := hidden (show decO l off = dErr 1 from if_pos (.inr h1))
    have hd0 : decide (off < 0) = false := by simpa using h0
    have hd1 : decide ((l.length : Int) < off) = true := by simpa using h1
    go_enter Tryz.func160, Tryz.ntmps160
    go_wp2_with (refine wpList_store_val rfl _ _ rfl w.heap.size rfl _ _ _ rfl (valRow w _ _ _) ?_)
    exact bodyPost_ret (results_val3 rfl _ _ _ _ _ _ rfl (valSet_row (valRow w _ _ _) [.int .i64 0, .int .i64 0, .string ⟨#[]⟩])) rfl ⟨by rw [HE.out]; rfl, valSet_below (grow1 _) (Nat.le_refl _) _⟩
  have hbad : ¬ (off < 0 ∨ (l.length : Int) < off) := by omega
  obtain ⟨o, rfl⟩ := Int.eq_ofNat_of_zero_le (show 0 ≤ off by omega)
  have hd0 : decide ((o : Int) < 0) = false := by simp
  have hd1 : decide ((l.length : Int) < (o : Int)) = false := by simpa using h1
  have hd2 : decide (l.length < o) = false := by simp; omega
  by_cases h2 : o = l.length
  · have HE := hidden (show decO l (o : Int) = dErr 2 by unfold decO; rw [if_neg hbad, if_pos (by omega)])
    have ht : ((o : Int) == (l.length : Int)) = true := by simp [h2]
    clear hbad
    subst h2
    go_enter Tryz.func160, Tryz.ntmps160
    go_wp2_with (refine wpList_store_val rfl _ _ rfl w.heap.size rfl _ _ _ rfl (valRow w _ _ _) ?_)
    exact bodyPost_ret (results_val3 rfl _ _ _ _ _ _ rfl (valSet_row (valRow w _ _ _) [.int .i64 0, .int .i64 0, .string ⟨#[]⟩])) rfl ⟨by rw [HE.out]; rfl, valSet_below (grow1 _) (Nat.le_refl _) _⟩
  have h3 : o < l.length := by omega
  have ht : ((o : Int) == (l.length : Int)) = false := by simp; omega
  have HN : Hid (decO l (o : Int) = if byteAt l o = 0 then ⟨0, 0, ⟨#[]⟩, (o : Int) + 1, 0⟩ else if byteAt l o = 1 then dBoolO l (o + 1) else if byteAt l o = 2 then dIntO l (o + 1) else if byteAt l o = 3 then dTextO l (o + 1) else dErr 4) := by
    show _ = _
    unfold decO
    rw [if_neg hbad, if_neg (by omega), Int.toNat_natCast]
  obtain ⟨b, f, rfl, hc0⟩ := byte_of hv h3
  have hc := fun ob => ((grow1 (w := w) ob).cell (World.block_lt_of_cell? _ _ hc0)).trans hc0
  have hb : byteAt l o < 256 := UInt8.toNat_lt _
  have HG0 := hidden (grow1 (w := w) (.cells #[.int .i64 0, .int .i64 0, .string ⟨#[]⟩] 35))
  have HV := hidden (hv.grow HG0.out)
  have HDB := hidden (ldecBool_any (some ⟨b, f, none⟩) c l (o + 1) _ HV.out hl (by omega))
  have HDI := hidden (ldecInt_any (some ⟨b, f, none⟩) c l (o + 1) _ HV.out hl (by omega))
  generalize byteAt l o = B at *
  clear hbad hc0 hv h0 h1 h2
  by_cases b0 : B = 0
  · have HE := hidden (show decO l (o : Int) = ⟨0, 0, ⟨#[]⟩, (o : Int) + 1, 0⟩ by rw [HN.out, if_pos b0])
    subst b0
    clear HDB HDI HN
    go_enter Tryz.func160, Tryz.ntmps160
    go_wp2_with (refine wpList_store_val rfl _ _ rfl w.heap.size rfl _ _ _ rfl (valRow w _ _ _) ?_)
    exact bodyPost_ret (results_val3 rfl _ _ _ _ _ _ rfl (valSet_row (valRow w _ _ _) [.int .i64 0, .int .i64 0, .string ⟨#[]⟩])) rfl ⟨by rw [HE.out]; rfl, valSet_below (grow1 _) (Nat.le_refl _) _⟩
  by_cases b1 : B = 1
  · have HE := hidden (show decO l (o : Int) = dBoolO l (o + 1) by rw [HN.out, if_neg b0, if_pos b1])
    subst b1
    unfold DecO.v at HDB
    generalize dBoolO l (o + 1) = d at *
    obtain ⟨dk, dn, dt, dp, de⟩ := d
    have HX := hidden (congrArg DecO.v HE.out)
    simp only at HDB
    clear HE HN
    go_enter Tryz.func160, Tryz.ntmps160
    go_wp2_with fail
    rw [show (o : Int) + 1 = ((o + 1 : Nat) : Int) by omega]
    refine HDB.out.mono ?_
    rintro e w4 ⟨rfl, g2⟩
    have HR := hidden ((valRow w (.int .i64 0) (.int .i64 0) (.string ⟨#[]⟩)).grow g2)
    have HG := hidden ((grow1 _).of_below g2)
    clear g2
    go_wp2_with (refine wpList_store_val rfl _ _ rfl w.heap.size rfl _ _ _ rfl HR.out ?_)
    exact bodyPost_ret (results_val3 rfl _ _ _ _ _ _ rfl (valSet_row HR.out [.int .i64 dk, .int .i64 dn, .string dt])) rfl ⟨by rw [HX.out]; rfl, valSet_below HG.out (Nat.le_refl _) _⟩
  by_cases b2 : B = 2
  · have HE := hidden (show decO l (o : Int) = dIntO l (o + 1) by rw [HN.out, if_neg b0, if_neg b1, if_pos b2])
    subst b2
    unfold DecO.v at HDI
    generalize dIntO l (o + 1) = d at *
    obtain ⟨dk, dn, dt, dp, de⟩ := d
    have HX := hidden (congrArg DecO.v HE.out)
    simp only at HDI
    clear HE HN
    go_enter Tryz.func160, Tryz.ntmps160
    go_wp2_with fail
    rw [show (o : Int) + 1 = ((o + 1 : Nat) : Int) by omega]
    refine HDI.out.mono ?_
    rintro e w4 ⟨rfl, g2⟩
    have HR := hidden ((valRow w (.int .i64 0) (.int .i64 0) (.string ⟨#[]⟩)).grow g2)
    have HG := hidden ((grow1 _).of_below g2)
    clear g2
    go_wp2_with (refine wpList_store_val rfl _ _ rfl w.heap.size rfl _ _ _ rfl HR.out ?_)
    exact bodyPost_ret (results_val3 rfl _ _ _ _ _ _ rfl (valSet_row HR.out [.int .i64 dk, .int .i64 dn, .string dt])) rfl ⟨by rw [HX.out]; rfl, valSet_below HG.out (Nat.le_refl _) _⟩
  by_cases b3 : B = 3
  · have HE := hidden (show decO l (o : Int) = dTextO l (o + 1) by rw [HN.out, if_neg b0, if_neg b1, if_neg b2, if_pos b3])
    subst b3
    have HDT := hidden (ldecText_any b f c l (o + 1) _ HV.out hl hlc (by omega))
    unfold DecO.v at HDT
    generalize dTextO l (o + 1) = d at *
    obtain ⟨dk, dn, dt, dp, de⟩ := d
    have HX := hidden (congrArg DecO.v HE.out)
    simp only at HDT
    clear HE HN
    go_enter Tryz.func160, Tryz.ntmps160
    go_wp2_with fail
    rw [show (o : Int) + 1 = ((o + 1 : Nat) : Int) by omega]
    refine HDT.out.mono ?_
    rintro e w4 ⟨rfl, g2⟩
    have HR := hidden ((valRow w (.int .i64 0) (.int .i64 0) (.string ⟨#[]⟩)).grow g2)
    have HG := hidden ((grow1 _).of_below g2)
    clear g2
    go_wp2_with (refine wpList_store_val rfl _ _ rfl w.heap.size rfl _ _ _ rfl HR.out ?_)
    exact bodyPost_ret (results_val3 rfl _ _ _ _ _ _ rfl (valSet_row HR.out [.int .i64 dk, .int .i64 dn, .string dt])) rfl ⟨by rw [HX.out]; rfl, valSet_below HG.out (Nat.le_refl _) _⟩
  · have HE := hidden (show decO l (o : Int) = dErr 4 by rw [HN.out, if_neg b0, if_neg b1, if_neg b2, if_neg b3])
    have t0 : ((B : Int) == 0) = false := by simp; omega
    have t1 : ((B : Int) == 1) = false := by simp; omega
    have t2 : ((B : Int) == 2) = false := by simp; omega
    have t3 : ((B : Int) == 3) = false := by simp; omega
    clear HDB HDI HN
    go_enter Tryz.func160, Tryz.ntmps160
    go_wp2_with (refine wpList_store_val rfl _ _ rfl w.heap.size rfl _ _ _ rfl (valRow w _ _ _) ?_)
    exact bodyPost_ret (results_val3 rfl _ _ _ _ _ _ rfl (valSet_row (valRow w _ _ _) [.int .i64 0, .int .i64 0, .string ⟨#[]⟩])) rfl ⟨by rw [HE.out]; rfl, valSet_below (grow1 _) (Nat.le_refl _) _⟩
end Go.Proofs.YtoaklmceejeblaaGreat
/-
  Shaken: what the claims of this seat need of this text. No condition.
-/
namespace Go.Proofs.YtoaklmceejeblaaGreat
set_option maxRecDepth 8000
open Go.RowKit
set_option linter.unusedVariables false
set_option linter.unusedSimpArgs false
set_option maxHeartbeats 4000000 in
theorem rdecodev_any (A : Option Addr) (c : Nat) (l : List UInt8) (off : Int) (w : World) (hv : IsBytes w (.slice A l.length c) l) (hl : l.length ≤ 4611686018427387904) (hlc : l.length ≤ c) :
    Calls Tryz.prog 140 #[.slice A l.length c, .int .i64 off] w fun e w' => e = .returned (decO l off).v ∧ Grows w w' := by
  by_cases h0 : off < 0
  · have HE := hidden (show decO l off = dErr 1 from if_pos (.inl h0))
    go_enter Tryz.func140, Tryz.ntmps140
    go_wp2_with (refine wpList_store_val rfl _ _ rfl w.heap.size rfl _ _ _ rfl (valRow w _ _ _) ?_)
    exact bodyPost_ret (results_val3 rfl _ _ _ _ _ _ rfl (valSet_row (valRow w _ _ _) [.int .i64 0, .int .i64 0, .string ⟨#[]⟩])) rfl ⟨by rw [HE.out]; rfl, valSet_below (grow1 _) (Nat.le_refl _) _⟩
  by_cases h1 : (l.length : Int) < off
  · have HE := hidden (show decO l off = dErr 1 from if_pos (.inr h1))
    have hd0 : decide (off < 0) = false := by simpa using h0
    have hd1 : decide ((l.length : Int) < off) = true := by simpa using h1
    go_enter Tryz.func140, Tryz.ntmps140
    go_wp2_with (refine wpList_store_val rfl _ _ rfl w.heap.size rfl _ _ _ rfl (valRow w _ _ _) ?_)
    exact bodyPost_ret (results_val3 rfl _ _ _ _ _ _ rfl (valSet_row (valRow w _ _ _) [.int .i64 0, .int .i64 0, .string ⟨#[]⟩])) rfl ⟨by rw [HE.out]; rfl, valSet_below (grow1 _) (Nat.le_refl _) _⟩
  have hbad : ¬ (off < 0 ∨ (l.length : Int) < off) := by omega
  obtain ⟨o, rfl⟩ := Int.eq_ofNat_of_zero_le (show 0 ≤ off by omega)
  have hd0 : decide ((o : Int) < 0) = false := by simp
  have hd1 : decide ((l.length : Int) < (o : Int)) = false := by simpa using h1
  have hd2 : decide (l.length < o) = false := by simp; omega
  by_cases h2 : o = l.length
  · have HE := hidden (show decO l (o : Int) = dErr 2 by unfold decO; rw [if_neg hbad, if_pos (by omega)])
    have ht : ((o : Int) == (l.length : Int)) = true := by simp [h2]
    clear hbad
    subst h2
    go_enter Tryz.func140, Tryz.ntmps140
    go_wp2_with (refine wpList_store_val rfl _ _ rfl w.heap.size rfl _ _ _ rfl (valRow w _ _ _) ?_)
    exact bodyPost_ret (results_val3 rfl _ _ _ _ _ _ rfl (valSet_row (valRow w _ _ _) [.int .i64 0, .int .i64 0, .string ⟨#[]⟩])) rfl ⟨by rw [HE.out]; rfl, valSet_below (grow1 _) (Nat.le_refl _) _⟩
  have h3 : o < l.length := by omega
  have ht : ((o : Int) == (l.length : Int)) = false := by simp; omega
  have HN : Hid (decO l (o : Int) = if byteAt l o = 0 then ⟨0, 0, ⟨#[]⟩, (o : Int) + 1, 0⟩ else if byteAt l o = 1 then dBoolO l (o + 1) else if byteAt l o = 2 then dIntO l (o + 1) else if byteAt l o = 3 then dTextO l (o + 1) else dErr 4) := by
    show _ = _
    unfold decO
    rw [if_neg hbad, if_neg (by omega), Int.toNat_natCast]
  obtain ⟨b, f, rfl, hc0⟩ := byte_of hv h3
  have hc := fun ob => ((grow1 (w := w) ob).cell (World.block_lt_of_cell? _ _ hc0)).trans hc0
  have hb : byteAt l o < 256 := UInt8.toNat_lt _
  have HG0 := hidden (grow1 (w := w) (.cells #[.int .i64 0, .int .i64 0, .string ⟨#[]⟩] 35))
  have HV := hidden (hv.grow HG0.out)
  have HV0 := hidden hv
  generalize byteAt l o = B at *
  clear hbad hc0 hv h0 h1 h2
  by_cases b0 : B = 0
  · have HE := hidden (show decO l (o : Int) = ⟨0, 0, ⟨#[]⟩, (o : Int) + 1, 0⟩ by rw [HN.out, if_pos b0])
    subst b0
    clear HN
    go_enter Tryz.func140, Tryz.ntmps140
    go_wp2_with (refine wpList_store_val rfl _ _ rfl w.heap.size rfl _ _ _ rfl (valRow w _ _ _) ?_)
    exact bodyPost_ret (results_val3 rfl _ _ _ _ _ _ rfl (valSet_row (valRow w _ _ _) [.int .i64 0, .int .i64 0, .string ⟨#[]⟩])) rfl ⟨by rw [HE.out]; rfl, valSet_below (grow1 _) (Nat.le_refl _) _⟩
  by_cases b4 : 3 < B
  · have HE := hidden (show decO l (o : Int) = dErr 4 by rw [HN.out, if_neg b0, if_neg (by omega), if_neg (by omega), if_neg (by omega)])
    have t4 : decide ((3 : Int) < (B : Int)) = true := by simp; omega
    clear HN
    go_enter Tryz.func140, Tryz.ntmps140
    go_wp2_with (refine wpList_store_val rfl _ _ rfl w.heap.size rfl _ _ _ rfl (valRow w _ _ _) ?_)
    exact bodyPost_ret (results_val3 rfl _ _ _ _ _ _ rfl (valSet_row (valRow w _ _ _) [.int .i64 0, .int .i64 0, .string ⟨#[]⟩])) rfl ⟨by rw [HE.out]; rfl, valSet_below (grow1 _) (Nat.le_refl _) _⟩
  have t4 : decide ((3 : Int) < (B : Int)) = false := by simp; omega
  have t0 : ((B : Int) == 0) = false := by simp; omega
  by_cases b1 : B = 1
  · have HE0 := hidden (show decO l (o : Int) = dBoolO l (o + 1) by rw [HN.out, if_neg b0, if_pos b1])
    subst b1
    clear HN
    by_cases h5 : o + 1 = l.length
    · have HE := hidden (show decO l (o : Int) = dErr 2 by rw [HE0.out]; exact if_pos h5)
      have t5 : ((o : Int) + 1 == (l.length : Int)) = true := by simp; omega
      go_enter Tryz.func140, Tryz.ntmps140
      go_wp2_with (refine wpList_store_val rfl _ _ rfl w.heap.size rfl _ _ _ rfl (valRow w _ _ _) ?_)
      exact bodyPost_ret (results_val3 rfl _ _ _ _ _ _ rfl (valSet_row (valRow w _ _ _) [.int .i64 0, .int .i64 0, .string ⟨#[]⟩])) rfl ⟨by rw [HE.out]; rfl, valSet_below (grow1 _) (Nat.le_refl _) _⟩
    · have t5 : ((o : Int) + 1 == (l.length : Int)) = false := by simp; omega
      obtain ⟨b2, f2, hbe, hq0⟩ := byte_of HV0.out (o := o + 1) (by omega)
      injection hbe with hbe
      injection hbe with hbe1 hbe2 _
      subst hbe1 hbe2
      have hq := fun ob => ((grow1 (w := w) ob).cell (World.block_lt_of_cell? _ _ hq0)).trans hq0
      have hC := UInt8.toNat_lt (l.getD (o + 1) 0)
      have HEB := hidden (show dBoolO l (o + 1) = (if 1 < byteAt l (o + 1) then dErr 4 else ⟨1, if byteAt l (o + 1) = 1 then 1 else 0, ⟨#[]⟩, ((o + 1 : Nat) : Int) + 1, 0⟩) from if_neg h5)
      rw [show (l.getD (o + 1) 0).toNat = byteAt l (o + 1) from rfl] at hC
      generalize byteAt l (o + 1) = C at *
      clear hq0
      have h6 : o + 1 < l.length := by omega
      have h6' : (o : Int) + 1 < (l.length : Int) := by omega
      by_cases h7 : 1 < C
      · have HE := hidden (show decO l (o : Int) = dErr 4 by rw [HE0.out, HEB.out, if_pos h7])
        have t7 : decide ((1 : Int) < (C : Int)) = true := by simp; omega
        go_enter Tryz.func140, Tryz.ntmps140
        go_wp2_with (refine wpList_store_val rfl _ _ rfl w.heap.size rfl _ _ _ rfl (valRow w _ _ _) ?_)
        exact bodyPost_ret (results_val3 rfl _ _ _ _ _ _ rfl (valSet_row (valRow w _ _ _) [.int .i64 0, .int .i64 0, .string ⟨#[]⟩])) rfl ⟨by rw [HE.out]; rfl, valSet_below (grow1 _) (Nat.le_refl _) _⟩
      · have HE := hidden (show decO l (o : Int) = ⟨1, if C = 1 then 1 else 0, ⟨#[]⟩, (o : Int) + 2, 0⟩ by rw [HE0.out, HEB.out, if_neg h7, show ((o + 1 : Nat) : Int) + 1 = (o : Int) + 2 by omega])
        have t7 : decide ((1 : Int) < (C : Int)) = false := by simp; omega
        have HI := hidden (fun b w => rboolean_any b w)
        unfold boolV at HI
        have HX := hidden (show (if ((C : Int) == 1) = true then (1 : Int) else 0) = (if C = 1 then 1 else 0) by
          by_cases hB1 : C = 1
          · subst hB1; rfl
          · have e : ((C : Int) == 1) = false := by simp; omega
            rw [e, if_neg hB1, if_neg (by decide)])
        generalize (if C = 1 then (1 : Int) else 0) = x at *
        go_enter Tryz.func140, Tryz.ntmps140
        go_wp2_with fail
        refine (HI.out ((C : Int) == 1) _).mono ?_
        rintro e w2 ⟨rfl, g2⟩
        rw [HX.out]
        have HR := hidden ((valRow w (.int .i64 0) (.int .i64 0) (.string ⟨#[]⟩)).grow g2)
        have HG := hidden ((grow1 _).of_below g2)
        clear g2
        go_wp2_with (refine wpList_store_val rfl _ _ rfl w.heap.size rfl _ _ _ rfl HR.out ?_)
        exact bodyPost_ret (results_val3 rfl _ _ _ _ _ _ rfl (valSet_row HR.out [.int .i64 1, .int .i64 x, .string ⟨#[]⟩])) rfl ⟨by rw [HE.out]; rfl, valSet_below HG.out (Nat.le_refl _) _⟩
  have t1 : ((B : Int) == 1) = false := by simp; omega
  have HD := hidden (rdecode_any (.slice (some ⟨b, f, none⟩) l.length c) l ((o + 1 : Nat) : Int) _ HV.out (by unfold maxLen; omega) (by omega) (by omega))
  obtain ⟨hb1, hb2, hb3, hb4, hb5⟩ := dcd_bd l (o + 1) (by omega)
  have HT0 := hidden (show (dcd l ((o + 1 : Nat) : Int)).2.2 ≠ 0 → decO l (o : Int) = dErr (dcd l ((o + 1 : Nat) : Int)).2.2 from fun h => by
    rw [HN.out, if_neg b0, if_neg b1]
    by_cases b2 : B = 2
    · rw [if_pos b2]; exact if_pos h
    · rw [if_neg b2, if_pos (by omega)]; exact if_pos h)
  have HI0 := hidden (show B = 2 → (dcd l ((o + 1 : Nat) : Int)).2.2 = 0 → decO l (o : Int) = ⟨2, uz (dcd l ((o + 1 : Nat) : Int)).1, ⟨#[]⟩, (dcd l ((o + 1 : Nat) : Int)).2.1, 0⟩ from fun b2 h => by
    rw [HN.out, if_neg b0, if_neg b1, if_pos b2]; exact if_neg (fun hn => hn h))
  have HTX := hidden (show B ≠ 2 → decO l (o : Int) = dTextO l (o + 1) from fun b2 => by rw [HN.out, if_neg b0, if_neg b1, if_neg b2, if_pos (by omega)])
  have HF1 := hidden (show (dcd l ((o + 1 : Nat) : Int)).2.2 = 0 → 4096 < (dcd l ((o + 1 : Nat) : Int)).1 → dTextO l (o + 1) = dErr 3 from fun h h1 => by unfold dTextO; rw [if_neg (fun hn => hn h), if_pos h1])
  have HF2 := hidden (show (dcd l ((o + 1 : Nat) : Int)).2.2 = 0 → ¬ 4096 < (dcd l ((o + 1 : Nat) : Int)).1 → (l.length : Int) < (dcd l ((o + 1 : Nat) : Int)).2.1 + (dcd l ((o + 1 : Nat) : Int)).1 → dTextO l (o + 1) = dErr 2 from fun h h1 h2 => by unfold dTextO; rw [if_neg (fun hn => hn h), if_neg h1, if_pos h2])
  have HF3 := hidden (show (dcd l ((o + 1 : Nat) : Int)).2.2 = 0 → ¬ 4096 < (dcd l ((o + 1 : Nat) : Int)).1 → ¬ (l.length : Int) < (dcd l ((o + 1 : Nat) : Int)).2.1 + (dcd l ((o + 1 : Nat) : Int)).1 → dTextO l (o + 1) = ⟨3, 0, strOf ((l.drop (dcd l ((o + 1 : Nat) : Int)).2.1.toNat).take (dcd l ((o + 1 : Nat) : Int)).1.toNat), (dcd l ((o + 1 : Nat) : Int)).2.1 + (dcd l ((o + 1 : Nat) : Int)).1, 0⟩ from fun h h1 h2 => by unfold dTextO; rw [if_neg (fun hn => hn h), if_neg h1, if_neg h2])
  clear HN
  generalize (dcd l ((o + 1 : Nat) : Int)).1 = n at *
  generalize (dcd l ((o + 1 : Nat) : Int)).2.1 = p at *
  generalize (dcd l ((o + 1 : Nat) : Int)).2.2 = e at *
  have he1 : ((o + 1 : Nat) : Int) = (o : Int) + 1 := by omega
  rw [he1] at HD
  clear he1
  by_cases he : e = 0
  case neg =>
    have HE := hidden (HT0.out he)
    have hen : (e != 0) = true := by simpa using he
    clear hb1 hb2 hb3 hb4 hb5 HT0 HI0 HTX HF1 HF2 HF3 he
    go_enter Tryz.func140, Tryz.ntmps140
    go_wp2_with fail
    refine HD.out.mono ?_
    rintro e w2 ⟨rfl, rfl⟩
    go_wp2_with (refine wpList_store_val rfl _ _ rfl w.heap.size rfl _ _ _ rfl (valRow w _ _ _) ?_)
    exact bodyPost_ret (results_val3 rfl _ _ _ _ _ _ rfl (valSet_row (valRow w _ _ _) [.int .i64 0, .int .i64 0, .string ⟨#[]⟩])) rfl ⟨by rw [HE.out]; rfl, valSet_below (grow1 _) (Nat.le_refl _) _⟩
  by_cases b2 : B = 2
  · have HE := hidden (HI0.out b2 he)
    subst he b2
    have HU := hidden (fun w => runzigzag_any n w hb1 (by omega))
    have HI := hidden (fun w => rinteger_any (uz n) w)
    unfold intV at HI
    clear hb1 hb2 hb3 hb4 hb5 HT0 HI0 HTX HF1 HF2 HF3
    generalize uz n = x at *
    go_enter Tryz.func140, Tryz.ntmps140
    go_wp2_with fail
    refine HD.out.mono ?_
    rintro e w2 ⟨rfl, rfl⟩
    go_wp2_with fail
    refine (HU.out _).mono ?_
    rintro e w3 ⟨rfl, rfl⟩
    go_wp2_with fail
    refine (HI.out _).mono ?_
    rintro e w4 ⟨rfl, g2⟩
    have HR := hidden ((valRow w (.int .i64 0) (.int .i64 0) (.string ⟨#[]⟩)).grow g2)
    have HG := hidden ((grow1 _).of_below g2)
    clear g2
    go_wp2_with (refine wpList_store_val rfl _ _ rfl w.heap.size rfl _ _ _ rfl HR.out ?_)
    exact bodyPost_ret (results_val3 rfl _ _ _ _ _ _ rfl (valSet_row HR.out [.int .i64 2, .int .i64 x, .string ⟨#[]⟩])) rfl ⟨by rw [HE.out]; rfl, valSet_below HG.out (Nat.le_refl _) _⟩
  have t2 : ((B : Int) == 2) = false := by simp; omega
  have HTE := hidden (HTX.out b2)
  have HF1' := hidden (HF1.out he)
  have HF2' := hidden (HF2.out he)
  have HF3' := hidden (HF3.out he)
  obtain ⟨hp1, hp2⟩ := hb3 he
  subst he
  clear hb3 hb4 hb5 HT0 HI0 HTX HF1 HF2 HF3
  by_cases h1 : 4096 < n
  · have HE := hidden (HTE.out.trans (HF1'.out h1))
    have hd : decide ((4096 : Int) < n) = true := by simpa using h1
    clear HF1' HF2' HF3' hp1 hp2 HTE
    go_enter Tryz.func140, Tryz.ntmps140
    go_wp2_with fail
    refine HD.out.mono ?_
    rintro e w2 ⟨rfl, rfl⟩
    go_wp2_with (refine wpList_store_val rfl _ _ rfl w.heap.size rfl _ _ _ rfl (valRow w _ _ _) ?_)
    exact bodyPost_ret (results_val3 rfl _ _ _ _ _ _ rfl (valSet_row (valRow w _ _ _) [.int .i64 0, .int .i64 0, .string ⟨#[]⟩])) rfl ⟨by rw [HE.out]; rfl, valSet_below (grow1 _) (Nat.le_refl _) _⟩
  obtain ⟨N, rfl⟩ := Int.eq_ofNat_of_zero_le hb1
  obtain ⟨P, rfl⟩ := Int.eq_ofNat_of_zero_le (show 0 ≤ p by omega)
  have hd : decide ((4096 : Int) < (N : Int)) = false := by simpa using h1
  obtain ⟨E, hE⟩ : ∃ E, E = P + N := ⟨_, rfl⟩
  have hsum : (P : Int) + (N : Int) = (E : Int) := by omega
  rw [hsum] at HF2' HF3'
  have hPE : P ≤ E := by omega
  have hEN := hidden (show E - P = N by omega)
  have hEl : E < 9223372036854775808 := by omega
  obtain ⟨D, hD⟩ : ∃ D, D + P = l.length := ⟨l.length - P, by omega⟩
  have hdif : (l.length : Int) - (P : Int) = (D : Int) := by omega
  have HDN := hidden (show D < N ↔ l.length < E by omega)
  clear hE hD
  by_cases h2 : (l.length : Int) < (E : Int)
  · have HX := hidden (HTE.out.trans (HF2'.out h1 h2))
    have hd2 : decide (D < N) = true := by simp; exact HDN.out.2 (by omega)
    have hd3 : decide ((D : Int) < (N : Int)) = true := by simp; exact HDN.out.2 (by omega)
    clear HF1' HF2' HF3' h1 h2 hb1 hb2 hp1 hp2 HTE
    go_enter Tryz.func140, Tryz.ntmps140
    go_wp2_with fail
    refine HD.out.mono ?_
    rintro e w2 ⟨rfl, rfl⟩
    go_wp2_with (refine wpList_store_val rfl _ _ rfl w.heap.size rfl _ _ _ rfl (valRow w _ _ _) ?_)
    exact bodyPost_ret (results_val3 rfl _ _ _ _ _ _ rfl (valSet_row (valRow w _ _ _) [.int .i64 0, .int .i64 0, .string ⟨#[]⟩])) rfl ⟨by rw [HX.out]; rfl, valSet_below (grow1 _) (Nat.le_refl _) _⟩
  · have HX := hidden (HTE.out.trans (HF3'.out h1 h2))
    have hd2 : decide (D < N) = false := by simp; exact Nat.le_of_not_lt fun h => h2 (by have := HDN.out.1 h; omega)
    have hd3 : decide ((D : Int) < (N : Int)) = false := by simp; exact Nat.le_of_not_lt fun h => h2 (by have := HDN.out.1 h; omega)
    have hElc : l.length ≤ c := hlc
    have HEL := hidden (show E ≤ l.length by omega)
    clear HF1' HF2' HF3' h1 h2 hb1 hb2 hp1 hp2 hlc HTE
    go_enter Tryz.func140, Tryz.ntmps140
    go_wp2_with fail
    refine HD.out.mono ?_
    rintro e w2 ⟨rfl, rfl⟩
    have HX2 := hidden (show decO l (o : Int) = ⟨3, 0, strOf ((l.drop P).take N), (E : Int), 0⟩ from HX.out)
    go_wp2_with (first
      | (refine wpList_slice_bytes rfl _ _ _ 45 5 rfl Tryz.underlying45 (by kernel_rfl) (by kernel_rfl) b f l c rfl HV.out P E rfl rfl hPE HEL.out hElc ?_; rw [hEN.out]; intro v9 hv9; have HV9 := hidden hv9; clear hv9; generalize hs9 : (l.drop P).take N = s9 at *; have HS9 := hidden hs9; clear hs9)
      | (refine wpList_tostring rfl _ 45 9 5 rfl Tryz.underlying45 Tryz.underlying5 Tryz.underlying9 v9 _ rfl HV9.out ?_)
      | (refine wpList_store_val rfl _ _ rfl w.heap.size rfl _ _ _ rfl (valRow w _ _ _) ?_))
    exact bodyPost_ret (results_val3 rfl _ _ _ _ _ _ rfl (valSet_row (valRow w _ _ _) [.int .i64 3, .int .i64 0, .string (strOf s9)])) rfl ⟨by rw [HX2.out]; rfl, valSet_below (grow1 _) (Nat.le_refl _) _⟩
end Go.Proofs.YtoaklmceejeblaaGreat
