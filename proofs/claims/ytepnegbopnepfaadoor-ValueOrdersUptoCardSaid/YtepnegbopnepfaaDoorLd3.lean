/-
  Package value as it landed: Decode. Nothing that was there is changed.
-/
import Derived.Test.YtepnegbopnepfaaDoorLd2
namespace Go.Proofs.YtepnegbopnepfaaDoor
open Go.RowKit
set_option linter.unusedVariables false
set_option linter.unusedSimpArgs false

set_option maxHeartbeats 2000000 in
theorem ldecode_any (A : Option Addr) (c : Nat) (l : List UInt8) (off : Int) (w : World) (hv : IsBytes w (.slice A l.length c) l) (hl : l.length ≤ 4611686018427387904) (hlc : l.length ≤ c) :
    Calls Tryd.prog 13 #[.slice A l.length c, .int .i64 off] w fun e w' => e = .returned (decO l off).v ∧ Grows w w' := by
  by_cases h0 : off < 0
  · have HE := hidden (show decO l off = dErr 1 from if_pos (.inl h0))
    go_enter Tryd.func13, Tryd.ntmps13
    go_wp2_with (refine wpList_store_val rfl _ _ rfl w.heap.size rfl _ _ _ rfl (valRow w _ _ _) ?_)
    exact bodyPost_ret (results_val3 rfl _ _ _ _ _ _ rfl (valSet_row (valRow w _ _ _) [.int .i64 0, .int .i64 0, .string ⟨#[]⟩])) rfl ⟨by rw [HE.out]; rfl, valSet_below (grow1 _) (Nat.le_refl _) _⟩
  by_cases h1 : (l.length : Int) < off
  · have HE := hidden (show decO l off = dErr 1 from if_pos (.inr h1))
    have hd0 : decide (off < 0) = false := by simpa using h0
    have hd1 : decide ((l.length : Int) < off) = true := by simpa using h1
    go_enter Tryd.func13, Tryd.ntmps13
    go_wp2_with (refine wpList_store_val rfl _ _ rfl w.heap.size rfl _ _ _ rfl (valRow w _ _ _) ?_)
    exact bodyPost_ret (results_val3 rfl _ _ _ _ _ _ rfl (valSet_row (valRow w _ _ _) [.int .i64 0, .int .i64 0, .string ⟨#[]⟩])) rfl ⟨by rw [HE.out]; rfl, valSet_below (grow1 _) (Nat.le_refl _) _⟩
  have hbad : ¬ (off < 0 ∨ (l.length : Int) < off) := by omega
  obtain ⟨o, rfl⟩ := Int.eq_ofNat_of_zero_le (show 0 ≤ off by omega)
  have hd0 : decide ((o : Int) < 0) = false := by simp
  have hd1 : decide ((l.length : Int) < (o : Int)) = false := by simpa using h1
  have hd2 : decide (l.length < o) = false := by simp; omega
  by_cases h2 : o = l.length
  · have HE := hidden (show decO l (o : Int) = dErr 2 by unfold decO; rw [if_neg hbad, if_pos (by omega)])
    have ht : ((o : Int) == (l.length : Int)) = true := by simp [h2]
    clear hbad
    subst h2
    go_enter Tryd.func13, Tryd.ntmps13
    go_wp2_with (refine wpList_store_val rfl _ _ rfl w.heap.size rfl _ _ _ rfl (valRow w _ _ _) ?_)
    exact bodyPost_ret (results_val3 rfl _ _ _ _ _ _ rfl (valSet_row (valRow w _ _ _) [.int .i64 0, .int .i64 0, .string ⟨#[]⟩])) rfl ⟨by rw [HE.out]; rfl, valSet_below (grow1 _) (Nat.le_refl _) _⟩
  have h3 : o < l.length := by omega
  have ht : ((o : Int) == (l.length : Int)) = false := by simp; omega
  have HN : Hid (decO l (o : Int) = if byteAt l o = 0 then ⟨0, 0, ⟨#[]⟩, (o : Int) + 1, 0⟩ else if byteAt l o = 1 then dBoolO l (o + 1) else if byteAt l o = 2 then dIntO l (o + 1) else if byteAt l o = 3 then dTextO l (o + 1) else dErr 4) := by
    show _ = _
    unfold decO
    rw [if_neg hbad, if_neg (by omega), Int.toNat_natCast]
  obtain ⟨b, f, rfl, hc0⟩ := byte_of hv h3
  have hc := fun ob => ((grow1 (w := w) ob).cell (World.block_lt_of_cell? _ _ hc0)).trans hc0
  have hb : byteAt l o < 256 := UInt8.toNat_lt _
  have HG0 := hidden (grow1 (w := w) (.cells #[.int .i64 0, .int .i64 0, .string ⟨#[]⟩] 28))
  have HV := hidden (hv.grow HG0.out)
  have HDB := hidden (ldecBool_any (some ⟨b, f, none⟩) c l (o + 1) _ HV.out hl (by omega))
  have HDI := hidden (ldecInt_any (some ⟨b, f, none⟩) c l (o + 1) _ HV.out hl (by omega))
  generalize byteAt l o = B at *
  clear hbad hc0 hv h0 h1 h2
  by_cases b0 : B = 0
  · have HE := hidden (show decO l (o : Int) = ⟨0, 0, ⟨#[]⟩, (o : Int) + 1, 0⟩ by rw [HN.out, if_pos b0])
    subst b0
    clear HDB HDI HN
    go_enter Tryd.func13, Tryd.ntmps13
    go_wp2_with (refine wpList_store_val rfl _ _ rfl w.heap.size rfl _ _ _ rfl (valRow w _ _ _) ?_)
    exact bodyPost_ret (results_val3 rfl _ _ _ _ _ _ rfl (valSet_row (valRow w _ _ _) [.int .i64 0, .int .i64 0, .string ⟨#[]⟩])) rfl ⟨by rw [HE.out]; rfl, valSet_below (grow1 _) (Nat.le_refl _) _⟩
  by_cases b1 : B = 1
  · have HE := hidden (show decO l (o : Int) = dBoolO l (o + 1) by rw [HN.out, if_neg b0, if_pos b1])
    subst b1
    unfold DecO.v at HDB
    generalize dBoolO l (o + 1) = d at *
    obtain ⟨dk, dn, dt, dp, de⟩ := d
    have HX := hidden (congrArg DecO.v HE.out)
    simp only at HDB
    clear HE HN
    go_enter Tryd.func13, Tryd.ntmps13
    go_wp2_with fail
    rw [show (o : Int) + 1 = ((o + 1 : Nat) : Int) by omega]
    refine HDB.out.mono ?_
    rintro e w4 ⟨rfl, g2⟩
    have HR := hidden ((valRow w (.int .i64 0) (.int .i64 0) (.string ⟨#[]⟩)).grow g2)
    have HG := hidden ((grow1 _).of_below g2)
    clear g2
    go_wp2_with (refine wpList_store_val rfl _ _ rfl w.heap.size rfl _ _ _ rfl HR.out ?_)
    exact bodyPost_ret (results_val3 rfl _ _ _ _ _ _ rfl (valSet_row HR.out [.int .i64 dk, .int .i64 dn, .string dt])) rfl ⟨by rw [HX.out]; rfl, valSet_below HG.out (Nat.le_refl _) _⟩
  by_cases b2 : B = 2
  · have HE := hidden (show decO l (o : Int) = dIntO l (o + 1) by rw [HN.out, if_neg b0, if_neg b1, if_pos b2])
    subst b2
    unfold DecO.v at HDI
    generalize dIntO l (o + 1) = d at *
    obtain ⟨dk, dn, dt, dp, de⟩ := d
    have HX := hidden (congrArg DecO.v HE.out)
    simp only at HDI
    clear HE HN
    go_enter Tryd.func13, Tryd.ntmps13
    go_wp2_with fail
    rw [show (o : Int) + 1 = ((o + 1 : Nat) : Int) by omega]
    refine HDI.out.mono ?_
    rintro e w4 ⟨rfl, g2⟩
    have HR := hidden ((valRow w (.int .i64 0) (.int .i64 0) (.string ⟨#[]⟩)).grow g2)
    have HG := hidden ((grow1 _).of_below g2)
    clear g2
    go_wp2_with (refine wpList_store_val rfl _ _ rfl w.heap.size rfl _ _ _ rfl HR.out ?_)
    exact bodyPost_ret (results_val3 rfl _ _ _ _ _ _ rfl (valSet_row HR.out [.int .i64 dk, .int .i64 dn, .string dt])) rfl ⟨by rw [HX.out]; rfl, valSet_below HG.out (Nat.le_refl _) _⟩
  by_cases b3 : B = 3
  · have HE := hidden (show decO l (o : Int) = dTextO l (o + 1) by rw [HN.out, if_neg b0, if_neg b1, if_neg b2, if_pos b3])
    subst b3
    have HDT := hidden (ldecText_any b f c l (o + 1) _ HV.out hl hlc (by omega))
    unfold DecO.v at HDT
    generalize dTextO l (o + 1) = d at *
    obtain ⟨dk, dn, dt, dp, de⟩ := d
    have HX := hidden (congrArg DecO.v HE.out)
    simp only at HDT
    clear HE HN
    go_enter Tryd.func13, Tryd.ntmps13
    go_wp2_with fail
    rw [show (o : Int) + 1 = ((o + 1 : Nat) : Int) by omega]
    refine HDT.out.mono ?_
    rintro e w4 ⟨rfl, g2⟩
    have HR := hidden ((valRow w (.int .i64 0) (.int .i64 0) (.string ⟨#[]⟩)).grow g2)
    have HG := hidden ((grow1 _).of_below g2)
    clear g2
    go_wp2_with (refine wpList_store_val rfl _ _ rfl w.heap.size rfl _ _ _ rfl HR.out ?_)
    exact bodyPost_ret (results_val3 rfl _ _ _ _ _ _ rfl (valSet_row HR.out [.int .i64 dk, .int .i64 dn, .string dt])) rfl ⟨by rw [HX.out]; rfl, valSet_below HG.out (Nat.le_refl _) _⟩
  · have HE := hidden (show decO l (o : Int) = dErr 4 by rw [HN.out, if_neg b0, if_neg b1, if_neg b2, if_neg b3])
    have t0 : ((B : Int) == 0) = false := by simp; omega
    have t1 : ((B : Int) == 1) = false := by simp; omega
    have t2 : ((B : Int) == 2) = false := by simp; omega
    have t3 : ((B : Int) == 3) = false := by simp; omega
    clear HDB HDI HN
    go_enter Tryd.func13, Tryd.ntmps13
    go_wp2_with (refine wpList_store_val rfl _ _ rfl w.heap.size rfl _ _ _ rfl (valRow w _ _ _) ?_)
    exact bodyPost_ret (results_val3 rfl _ _ _ _ _ _ rfl (valSet_row (valRow w _ _ _) [.int .i64 0, .int .i64 0, .string ⟨#[]⟩])) rfl ⟨by rw [HE.out]; rfl, valSet_below (grow1 _) (Nat.le_refl _) _⟩
end Go.Proofs.YtepnegbopnepfaaDoor
