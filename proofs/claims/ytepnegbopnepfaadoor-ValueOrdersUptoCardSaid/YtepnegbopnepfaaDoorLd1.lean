/-
  Package value as it landed: decodeBool, decodeInt, decodeText, Decode. Nothing that was there is changed.
-/
import Derived.Test.YtepnegbopnepfaaDoorLv4
import Derived.Test.YtepnegbopnepfaaDoorLdNum
import Derived.Test.YtepnegbopnepfaaDoorDec
namespace Go.Proofs.YtepnegbopnepfaaDoor
open Go.RowKit
set_option linter.unusedVariables false
set_option linter.unusedSimpArgs false

/-- results: a value in a cell, and two numbers -/
theorem results_val3 {fn : Func} {p q r : Tmp} (h : fn.results = #[.cell p 28, .tmp q, .tmp r]) (tmps : Array Value) (w : World) (g : Nat) (k n t : Value) (hp : tmps.getD p undef = .pointer (some ⟨g, 0, none⟩)) (hg : Row w g 28 [k, n, t]) :
    (results fn tmps).run Tryd.prog w = .ok (.tuple #[.agg #[k, n, t], tmps.getD q undef, tmps.getD r undef]) w := by
  have hp' : tmps[p]?.getD undef = .pointer (some ⟨g, 0, none⟩) := by simpa using hp
  have hr := run_loadVar_row w g 28 28 #[k, n, t] (0, 0) _ hg Tryd.underlying28 rfl size_val
  simp [results, h, hp', asAddr, hr]
theorem decV_err (e : Int) : (dErr e).v = .tuple #[.agg #[.int .i64 0, .int .i64 0, .string ⟨#[]⟩], .int .i64 0, .int .i64 e] := rfl
theorem byte_of {w : World} {A : Option Addr} {c : Nat} {l : List UInt8} (h : IsBytes w (.slice A l.length c) l) {o : Nat} (ho : o < l.length) : ∃ b f, A = some ⟨b, f, none⟩ ∧ w.cell? ⟨b, f + o, none⟩ = some (.int .u8 (byteAt l o : Int)) := by
  obtain ⟨A', c', he, hc⟩ := h
  injection he with e1 e2 e3
  subst e1
  obtain ⟨b, f, rfl, hcell⟩ := hc (by omega)
  refine ⟨b, f, rfl, ?_⟩
  rw [hcell o ho]
  unfold byteAt
  rw [List.getD_eq_getElem?_getD, List.getElem?_eq_getElem ho]
  rfl
set_option maxHeartbeats 1000000 in
theorem ldecBool_any (A : Option Addr) (c : Nat) (l : List UInt8) (o : Nat) (w : World) (hv : IsBytes w (.slice A l.length c) l) (hl : l.length ≤ 4611686018427387904) (ho : o ≤ l.length) :
    Calls Tryd.prog 33 #[.slice A l.length c, .int .i64 (o : Int)] w fun e w' => e = .returned (dBoolO l o).v ∧ Grows w w' := by
  by_cases h1 : o = l.length
  · have HE := hidden (show dBoolO l o = dErr 2 from if_pos h1)
    have ht : ((o : Int) == (l.length : Int)) = true := by simp [h1]
    go_enter Tryd.func33, Tryd.ntmps33
    go_wp2_with (refine wpList_store_val rfl _ _ rfl w.heap.size rfl _ _ _ rfl (valRow w _ _ _) ?_)
    exact bodyPost_ret (results_val3 rfl _ _ _ _ _ _ rfl (valSet_row (valRow w _ _ _) [.int .i64 0, .int .i64 0, .string ⟨#[]⟩])) rfl ⟨by rw [HE.out]; rfl, valSet_below (grow1 _) (Nat.le_refl _) _⟩
  have h2 : o < l.length := by omega
  obtain ⟨b, f, rfl, hc0⟩ := byte_of hv h2
  have hc := fun ob => ((grow1 (w := w) ob).cell (World.block_lt_of_cell? _ _ hc0)).trans hc0
  clear hc0
  have hne : ((o : Int) == (l.length : Int)) = false := by simp; omega
  have hb : byteAt l o < 256 := UInt8.toNat_lt _
  generalize hB : byteAt l o = B at *
  have HB := hidden hB
  clear hB hv
  by_cases h3 : 1 < B
  · have HE := hidden (show dBoolO l o = dErr 4 by unfold dBoolO; rw [if_neg h1, HB.out, if_pos h3])
    have hd : decide ((1 : Int) < (B : Int)) = true := by simp; omega
    go_enter Tryd.func33, Tryd.ntmps33
    go_wp2_with (refine wpList_store_val rfl _ _ rfl w.heap.size rfl _ _ _ rfl (valRow w _ _ _) ?_)
    exact bodyPost_ret (results_val3 rfl _ _ _ _ _ _ rfl (valSet_row (valRow w _ _ _) [.int .i64 0, .int .i64 0, .string ⟨#[]⟩])) rfl ⟨by rw [HE.out]; rfl, valSet_below (grow1 _) (Nat.le_refl _) _⟩
  · have HE := hidden (show dBoolO l o = ⟨1, if B = 1 then 1 else 0, ⟨#[]⟩, (o : Int) + 1, 0⟩ by unfold dBoolO; rw [if_neg h1, HB.out, if_neg h3])
    have hd : decide ((1 : Int) < (B : Int)) = false := by simp; omega
    have HI := hidden (fun b w => lboolean_any b w)
    unfold boolV at HI
    have HX := hidden (show (if ((B : Int) == 1) = true then (1 : Int) else 0) = (if B = 1 then 1 else 0) by
      by_cases hB1 : B = 1
      · subst hB1; rfl
      · have e : ((B : Int) == 1) = false := by simp; omega
        rw [e, if_neg hB1, if_neg (by decide)])
    generalize (if B = 1 then (1 : Int) else 0) = x at *
    go_enter Tryd.func33, Tryd.ntmps33
    go_wp2_with fail
    refine (HI.out ((B : Int) == 1) _).mono ?_
    rintro e w2 ⟨rfl, g2⟩
    rw [HX.out]
    have HR := hidden ((valRow w (.int .i64 0) (.int .i64 0) (.string ⟨#[]⟩)).grow g2)
    have HG := hidden ((grow1 _).of_below g2)
    clear g2
    go_wp2_with (refine wpList_store_val rfl _ _ rfl w.heap.size rfl _ _ _ rfl HR.out ?_)
    exact bodyPost_ret (results_val3 rfl _ _ _ _ _ _ rfl (valSet_row HR.out [.int .i64 1, .int .i64 x, .string ⟨#[]⟩])) rfl ⟨by rw [HE.out]; rfl, valSet_below HG.out (Nat.le_refl _) _⟩
theorem dInt_form (l : List UInt8) (o : Nat) : (dcd l o).2.2 = 0 → dIntO l o = ⟨2, uz (dcd l o).1, ⟨#[]⟩, (dcd l o).2.1, 0⟩ := fun h => by
  unfold dIntO; rw [if_neg (fun hn => hn h)]
set_option maxHeartbeats 1000000 in
theorem ldecInt_any (A : Option Addr) (c : Nat) (l : List UInt8) (o : Nat) (w : World) (hv : IsBytes w (.slice A l.length c) l) (hl : l.length ≤ 4611686018427387904) (ho : o ≤ l.length) :
    Calls Tryd.prog 34 #[.slice A l.length c, .int .i64 (o : Int)] w fun e w' => e = .returned (dIntO l o).v ∧ Grows w w' := by
  have HD := hidden (fun w h => decode_any (.slice A l.length c) l (o : Int) w h (by unfold maxLen; omega) (by omega) (by omega))
  have HV := hidden hv
  obtain ⟨hb1, hb2, hb3, hb4, hb5⟩ := dcd_bd l o ho
  have HF := hidden (dInt_form l o)
  have HF2 := hidden (show (dcd l o).2.2 ≠ 0 → dIntO l o = dErr (dcd l o).2.2 from fun h => if_pos h)
  generalize (dcd l o).1 = n at *
  generalize (dcd l o).2.1 = p at *
  generalize (dcd l o).2.2 = e at *
  have HG0 := hidden (grow1 (w := w) (.cells #[.int .i64 0, .int .i64 0, .string ⟨#[]⟩] 28))
  clear hv
  by_cases he : e = 0
  · have HE := hidden (HF.out he)
    subst he
    have HU := hidden (fun w => unzigzag_any n w hb1 (by omega))
    have HI := hidden (fun w => linteger_any (uz n) w)
    unfold intV at HI
    clear hb1 hb2 hb3 hb4 hb5 HF HF2
    generalize uz n = x at *
    go_enter Tryd.func34, Tryd.ntmps34
    go_wp2_with fail
    refine (HD.out _ (HV.out.grow HG0.out)).mono ?_
    rintro e w2 ⟨rfl, rfl⟩
    go_wp2_with fail
    refine (HU.out _).mono ?_
    rintro e w3 ⟨rfl, rfl⟩
    go_wp2_with fail
    refine (HI.out _).mono ?_
    rintro e w4 ⟨rfl, g2⟩
    have HR := hidden ((valRow w (.int .i64 0) (.int .i64 0) (.string ⟨#[]⟩)).grow g2)
    have HG := hidden ((grow1 _).of_below g2)
    clear g2
    go_wp2_with (refine wpList_store_val rfl _ _ rfl w.heap.size rfl _ _ _ rfl HR.out ?_)
    exact bodyPost_ret (results_val3 rfl _ _ _ _ _ _ rfl (valSet_row HR.out [.int .i64 2, .int .i64 x, .string ⟨#[]⟩])) rfl ⟨by rw [HE.out]; rfl, valSet_below HG.out (Nat.le_refl _) _⟩
  · have HE := hidden (HF2.out he)
    have hen : (e != 0) = true := by simpa using he
    clear hb1 hb2 hb3 hb4 hb5 HF HF2 he
    go_enter Tryd.func34, Tryd.ntmps34
    go_wp2_with fail
    refine (HD.out _ (HV.out.grow HG0.out)).mono ?_
    rintro e w2 ⟨rfl, rfl⟩
    go_wp2_with (refine wpList_store_val rfl _ _ rfl w.heap.size rfl _ _ _ rfl (valRow w _ _ _) ?_)
    exact bodyPost_ret (results_val3 rfl _ _ _ _ _ _ rfl (valSet_row (valRow w _ _ _) [.int .i64 0, .int .i64 0, .string ⟨#[]⟩])) rfl ⟨by rw [HE.out]; rfl, valSet_below (grow1 _) (Nat.le_refl _) _⟩
end Go.Proofs.YtepnegbopnepfaaDoor
