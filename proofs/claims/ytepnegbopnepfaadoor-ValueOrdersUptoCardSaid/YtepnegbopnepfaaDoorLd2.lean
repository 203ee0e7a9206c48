/-
  Package value as it landed: decodeText, Decode. Nothing that was there is changed.
-/
import Derived.Test.YtepnegbopnepfaaDoorLd1
import Derived.Test.YtepnegbopnepfaaDoorLstr
namespace Go.Proofs.YtepnegbopnepfaaDoor
open Go.RowKit
set_option linter.unusedVariables false
set_option linter.unusedSimpArgs false

set_option maxHeartbeats 1000000 in
theorem ldecText_any (b f : Nat) (c : Nat) (l : List UInt8) (o : Nat) (w : World) (hv : IsBytes w (.slice (some ⟨b, f, none⟩) l.length c) l) (hl : l.length ≤ 4611686018427387904) (hlc : l.length ≤ c) (ho : o ≤ l.length) :
    Calls Tryd.prog 35 #[.slice (some ⟨b, f, none⟩) l.length c, .int .i64 (o : Int)] w fun e w' => e = .returned (dTextO l o).v ∧ Grows w w' := by
  have HD := hidden (fun w h => decode_any (.slice (some ⟨b, f, none⟩) l.length c) l (o : Int) w h (by unfold maxLen; omega) (by omega) (by omega))
  have HV := hidden hv
  obtain ⟨hb1, hb2, hb3, hb4, hb5⟩ := dcd_bd l o (by omega)
  have HF0 := hidden (show (dcd l o).2.2 ≠ 0 → dTextO l o = dErr (dcd l o).2.2 from fun h => if_pos h)
  have HF1 := hidden (show (dcd l o).2.2 = 0 → 4096 < (dcd l o).1 → dTextO l o = dErr 3 from fun h h1 => by unfold dTextO; rw [if_neg (fun hn => hn h), if_pos h1])
  have HF2 := hidden (show (dcd l o).2.2 = 0 → ¬ 4096 < (dcd l o).1 → (l.length : Int) < (dcd l o).2.1 + (dcd l o).1 → dTextO l o = dErr 2 from fun h h1 h2 => by unfold dTextO; rw [if_neg (fun hn => hn h), if_neg h1, if_pos h2])
  have HF3 := hidden (show (dcd l o).2.2 = 0 → ¬ 4096 < (dcd l o).1 → ¬ (l.length : Int) < (dcd l o).2.1 + (dcd l o).1 → dTextO l o = ⟨3, 0, strOf ((l.drop (dcd l o).2.1.toNat).take (dcd l o).1.toNat), (dcd l o).2.1 + (dcd l o).1, 0⟩ from fun h h1 h2 => by unfold dTextO; rw [if_neg (fun hn => hn h), if_neg h1, if_neg h2])
  generalize (dcd l o).1 = n at *
  generalize (dcd l o).2.1 = p at *
  generalize (dcd l o).2.2 = e at *
  have HG0 := hidden (grow1 (w := w) (.cells #[.int .i64 0, .int .i64 0, .string ⟨#[]⟩] 28))
  clear hv
  by_cases he : e = 0
  case neg =>
    have HE := hidden (HF0.out he)
    have hen : (e != 0) = true := by simpa using he
    clear hb1 hb2 hb3 hb4 hb5 HF0 HF1 HF2 HF3 he
    go_enter Tryd.func35, Tryd.ntmps35
    go_wp2_with fail
    refine (HD.out _ (HV.out.grow HG0.out)).mono ?_
    rintro e w2 ⟨rfl, rfl⟩
    go_wp2_with (refine wpList_store_val rfl _ _ rfl w.heap.size rfl _ _ _ rfl (valRow w _ _ _) ?_)
    exact bodyPost_ret (results_val3 rfl _ _ _ _ _ _ rfl (valSet_row (valRow w _ _ _) [.int .i64 0, .int .i64 0, .string ⟨#[]⟩])) rfl ⟨by rw [HE.out]; rfl, valSet_below (grow1 _) (Nat.le_refl _) _⟩
  have HF1' := hidden (HF1.out he)
  have HF2' := hidden (HF2.out he)
  have HF3' := hidden (HF3.out he)
  obtain ⟨hp1, hp2⟩ := hb3 he
  subst he
  clear hb3 hb4 hb5 HF0 HF1 HF2 HF3
  by_cases h1 : 4096 < n
  · have HE := hidden (HF1'.out h1)
    have hd : decide ((4096 : Int) < n) = true := by simpa using h1
    clear HF1' HF2' HF3' hp1 hp2
    go_enter Tryd.func35, Tryd.ntmps35
    go_wp2_with fail
    refine (HD.out _ (HV.out.grow HG0.out)).mono ?_
    rintro e w2 ⟨rfl, rfl⟩
    go_wp2_with (refine wpList_store_val rfl _ _ rfl w.heap.size rfl _ _ _ rfl (valRow w _ _ _) ?_)
    exact bodyPost_ret (results_val3 rfl _ _ _ _ _ _ rfl (valSet_row (valRow w _ _ _) [.int .i64 0, .int .i64 0, .string ⟨#[]⟩])) rfl ⟨by rw [HE.out]; rfl, valSet_below (grow1 _) (Nat.le_refl _) _⟩
  obtain ⟨N, rfl⟩ := Int.eq_ofNat_of_zero_le hb1
  obtain ⟨P, rfl⟩ := Int.eq_ofNat_of_zero_le (show 0 ≤ p by omega)
  have hd : decide ((4096 : Int) < (N : Int)) = false := by simpa using h1
  obtain ⟨E, hE⟩ : ∃ E, E = P + N := ⟨_, rfl⟩
  have hsum : (P : Int) + (N : Int) = (E : Int) := by omega
  rw [hsum] at HF2' HF3'
  have hPE : P ≤ E := by omega
  have hEN := hidden (show E - P = N by omega)
  have hEl : E < 9223372036854775808 := by omega
  clear hE
  by_cases h2 : (l.length : Int) < (E : Int)
  · have HX := hidden (HF2'.out h1 h2)
    have hd2 : decide (l.length < E) = true := by simp; omega
    have hd3 : decide ((l.length : Int) < (E : Int)) = true := by simp; omega
    clear HF1' HF2' HF3' h1 h2 hb1 hb2 hp1 hp2 ho hl
    go_enter Tryd.func35, Tryd.ntmps35
    go_wp2_with fail
    refine (HD.out _ (HV.out.grow HG0.out)).mono ?_
    rintro e w2 ⟨rfl, rfl⟩
    go_wp2_with (refine wpList_store_val rfl _ _ rfl w.heap.size rfl _ _ _ rfl (valRow w _ _ _) ?_)
    exact bodyPost_ret (results_val3 rfl _ _ _ _ _ _ rfl (valSet_row (valRow w _ _ _) [.int .i64 0, .int .i64 0, .string ⟨#[]⟩])) rfl ⟨by rw [HX.out]; rfl, valSet_below (grow1 _) (Nat.le_refl _) _⟩
  · have HX := hidden (HF3'.out h1 h2)
    have hd2 : decide (l.length < E) = false := by simp; omega
    have hd3 : decide ((l.length : Int) < (E : Int)) = false := by simp; omega
    have hElc : l.length ≤ c := hlc
    have HEL := hidden (show E ≤ l.length by omega)
    clear HF1' HF2' HF3' h1 h2 hb1 hb2 hp1 hp2 ho hl hlc
    go_enter Tryd.func35, Tryd.ntmps35
    go_wp2_with fail
    refine (HD.out _ (HV.out.grow HG0.out)).mono ?_
    rintro e w2 ⟨rfl, rfl⟩
    go_wp2_with (first
      | (refine wpList_slice_bytes rfl _ _ _ 25 5 rfl Tryd.underlying25 (by kernel_rfl) (by kernel_rfl) b f l c rfl (HV.out.grow HG0.out) P E rfl rfl hPE HEL.out hElc ?_; intro v9 hv9; have HV9 := hidden hv9; clear hv9)
      | (refine wpList_tostring rfl _ 25 9 5 rfl Tryd.underlying25 Tryd.underlying5 Tryd.underlying9 v9 _ rfl HV9.out ?_))
    rw [hEN.out]
    have HI := hidden (fun w => ltext_any (strOf ((l.drop P).take N)) w)
    have HX2 := hidden (show dTextO l o = ⟨3, 0, strOf ((l.drop P).take N), (E : Int), 0⟩ from HX.out)
    unfold textV at HI
    generalize strOf ((l.drop P).take N) = s at *
    refine (HI.out _).mono ?_
    rintro e w4 ⟨rfl, g2⟩
    have HR := hidden ((valRow w (.int .i64 0) (.int .i64 0) (.string ⟨#[]⟩)).grow g2)
    have HG := hidden ((grow1 _).of_below g2)
    clear g2
    go_wp2_with (refine wpList_store_val rfl _ _ rfl w.heap.size rfl _ _ _ rfl HR.out ?_)
    exact bodyPost_ret (results_val3 rfl _ _ _ _ _ _ rfl (valSet_row HR.out [.int .i64 3, .int .i64 0, .string s])) rfl ⟨by rw [HX2.out]; rfl, valSet_below HG.out (Nat.le_refl _) _⟩

end Go.Proofs.YtepnegbopnepfaaDoor
