/-
  The reference's And and Or over a row of values. Nothing that was there is changed.
-/
import Derived.Test.YtepnegbopnepfaaVRow
namespace Go.Proofs.Ytepnegbopnepfaa
open Go.RowKit
set_option linter.unusedVariables false
set_option linter.unusedSimpArgs false

def Val.tru (x : Val) : Bool := x.k == 1 && x.n == 1
def Val.fal (x : Val) : Bool := x.k == 1 && x.n == 0
def andL (l : List Val) : Value := if l.any Val.fal then boolV false else if l.any (fun x => !x.tru) then nullV else boolV true
def orL (l : List Val) : Value := if l.any Val.tru then boolV true else if l.any (fun x => !x.fal) then nullV else boolV false
theorem any_step {p : Val → Bool} {l : List Val} {j : Nat} {x : Val} (h : l[j]? = some x) : (l.take (j + 1)).any p = ((l.take j).any p || p x) := by
  rw [List.take_add_one, h]
  simp
theorem any_hit {p : Val → Bool} {l : List Val} {j : Nat} {x : Val} (h : l[j]? = some x) (hp : p x = true) : l.any p = true := List.any_eq_true.2 ⟨x, List.mem_of_getElem? h, hp⟩
def LogRel (W0 : World) (p q : Val → Bool) (l : List Val) (u i : Value) (wr : World) : Prop :=
  ∃ j : Nat, j ≤ l.length ∧ i = .int .i64 (j : Int) ∧ u = .bool ((l.take j).any q) ∧ (l.take j).any p = false ∧ Grows W0 wr
set_option maxHeartbeats 1000000 in
theorem rand4_any (v : Value) (l : List Val) (w : World) (hr : ReadsV w v l) (hl : l.length ≤ 9223372036854775806) : Calls Try.prog 30 #[v] w fun e w' => e = .returned (andL l) ∧ Grows w w' := by
  have HR := hidden hr
  obtain ⟨A, c, rfl, hle, hxx⟩ := hr
  clear hxx
  obtain ⟨W0, hW0⟩ : ∃ W0, W0 = w.alloc (.cells #[.int .i64 0, .int .i64 0, .string ⟨#[]⟩] 23) := ⟨_, rfl⟩
  have HW0 := hidden hW0
  have HGW := hidden (show Grows w W0 by rw [hW0]; exact grow1 _)
  have HRW := hidden (show Row W0 w.heap.size 23 [.int .i64 0, .int .i64 0, .string ⟨#[]⟩] by rw [hW0]; exact valRow w _ _ _)
  have HB1 := hidden (fun w => rboolean_any false w)
  have HB2 := hidden (fun w => rboolean_any true w)
  unfold boolV at HB1 HB2
  clear hW0
  go_enter Try.func30, Try.ntmps30
  go_wp2_with fail
  rw [← HW0.out]
  go_loopw [3, 4] (fun u i wr => LogRel W0 Val.fal (fun x => !x.tru) l u i wr) (fun _ i _ => l.length - (intOf i).toNat)
  case atStart => exact ⟨0, Nat.zero_le _, rfl, rfl, rfl, Below.refl _ _⟩
  case round =>
    obtain ⟨j, hj, rfl, rfl, hv, hb⟩ := hrel
    have HV := hidden hv
    have HB := hidden hb
    have HRB := hidden (HRW.out.grow hb)
    clear hv hb
    by_cases hlt : j < l.length
    · obtain ⟨A', c', he, _, hcell⟩ := (HR.out.grow HGW.out).grow HB.out
      injection he with e1 e2 e3
      subst e1 e3
      obtain ⟨b, off, rfl, hcell2⟩ := hcell (by omega)
      obtain ⟨x, hx⟩ : ∃ x, l[j]? = some x := ⟨_, List.getElem?_eq_getElem hlt⟩
      obtain ⟨c1, c2, c3⟩ := hcell2 j x hx
      have HX := hidden hx
      have HF := hidden (fun w => risfalse_any x.k x.n x.t w)
      have HT := hidden (fun w => ristrue_any x.k x.n x.t w)
      have HSP := hidden (any_step (p := Val.fal) hx)
      have HSQ := hidden (any_step (p := (fun x => !x.tru)) hx)
      have hj0 : (0 : Int) ≤ (j : Int) := by omega
      have hj1 : (j : Int) < (l.length : Int) := by omega
      have hd : decide (j < l.length) = true := by simpa using hlt
      have HCC := hidden (show ∀ X, Grows wr X → X.cell? ⟨b, off + j * 3, none⟩ = some (.int .i64 x.k) ∧ X.cell? ⟨b, off + j * 3 + 1, none⟩ = some (.int .i64 x.n) ∧ X.cell? ⟨b, off + j * 3 + 2, none⟩ = some (.string x.t) from fun X g =>
        ⟨(g.cell (World.block_lt_of_cell? _ _ c1)).trans c1, (g.cell (World.block_lt_of_cell? _ _ c2)).trans c2, (g.cell (World.block_lt_of_cell? _ _ c3)).trans c3⟩)
      clear hcell hcell2 e2 hx
      generalize (l.take j).any (fun x => !x.tru) = uu at *
      go_wp2_with fail
      refine (HF.out _).mono ?_
      rintro e w2 ⟨rfl, g2⟩
      have HG2 := hidden g2
      clear c1 c2 c3
      by_cases hf : Val.fal x = true
      · have hf' : (x.k == 1 && x.n == 0) = true := hf
        have HE := hidden (show andL l = boolV false by unfold andL; rw [if_pos (any_hit HX.out hf)])
        rw [hf']
        clear hf hf' g2
        go_wp2_with fail
        refine (HB1.out _).mono ?_
        rintro e w3 ⟨rfl, g3⟩
        have HR3 := hidden ((HRB.out.grow HG2.out).grow g3)
        have HG3 := hidden (((HGW.out.of_below HB.out).of_below HG2.out).of_below g3)
        clear g3
        go_wp2_with (refine wpList_store_val rfl _ _ rfl w.heap.size rfl _ _ _ rfl HR3.out ?_)
        exact bodyPost_ret (results_val rfl _ _ _ _ _ _ rfl (valSet_row HR3.out [.int .i64 1, .int .i64 0, .string ⟨#[]⟩])) rfl ⟨by rw [HE.out]; rfl, valSet_below HG3.out (Nat.le_refl _) _⟩
      · have hf' : (x.k == 1 && x.n == 0) = false := show Val.fal x = false by simpa using hf
        have HPF := hidden (show Val.fal x = false by simpa using hf)
        rw [show (x.k == 1 && x.n == 0) = false from HPF.out]
        obtain ⟨c1, c2, c3⟩ := HCC.out w2 g2
        clear hf hf' g2
        go_wp2_with fail
        refine (HT.out _).mono ?_
        rintro e w3 ⟨rfl, g3⟩
        have HB3 := hidden ((HB.out.of_below HG2.out).of_below g3)
        clear g3 c1 c2 c3
        by_cases hq : (fun x => !x.tru) x = true
        · rw [show (x.k == 1 && x.n == 1) = false from (show x.tru = false by simpa using hq)]
          have HQ2 := hidden hq
          clear hq
          go_wp2_with fail
          go_roundw
          case rel => exact ⟨j + 1, by omega, by go_num, by rw [HSQ.out, HQ2.out]; simp, by rw [HSP.out, HV.out, HPF.out]; rfl, HB3.out⟩
          case measure => simp [intOf]; omega
        · have HQ2 := hidden (show (fun x => !x.tru) x = false by simpa using hq)
          rw [show (x.k == 1 && x.n == 1) = true from (show x.tru = true by simpa using HQ2.out)]
          clear hq
          go_wp2_with fail
          go_roundw
          case rel => exact ⟨j + 1, by omega, by go_num, by rw [HSQ.out, HQ2.out]; simp, by rw [HSP.out, HV.out, HPF.out]; rfl, HB3.out⟩
          case measure => simp [intOf]; omega
    · have hd : decide (j < l.length) = false := by simpa using hlt
      have htk : l.take j = l := List.take_of_length_le (by omega)
      rw [htk] at HV ⊢
      have HV2 := hidden HV.out
      by_cases hu : l.any (fun x => !x.tru) = true
      · have HE := hidden (show andL l = nullV by unfold andL; rw [HV2.out, hu]; rfl)
        rw [hu]
        clear hlt htk hu
        go_wp2_with (refine wpList_store_val rfl _ _ rfl w.heap.size rfl _ _ _ rfl HRB.out ?_)
        exact bodyPost_ret (results_val rfl _ _ _ _ _ _ rfl (valSet_row HRB.out [.int .i64 0, .int .i64 0, .string ⟨#[]⟩])) rfl ⟨by rw [HE.out]; rfl, valSet_below (HGW.out.of_below HB.out) (Nat.le_refl _) _⟩
      · have hu' : l.any (fun x => !x.tru) = false := by simpa using hu
        have HE := hidden (show andL l = boolV true by unfold andL; rw [HV2.out, hu']; rfl)
        rw [hu']
        clear hlt htk hu hu'
        go_wp2_with fail
        refine (HB2.out _).mono ?_
        rintro e w3 ⟨rfl, g3⟩
        have HR3 := hidden (HRB.out.grow g3)
        have HG3 := hidden ((HGW.out.of_below HB.out).of_below g3)
        clear g3
        go_wp2_with (refine wpList_store_val rfl _ _ rfl w.heap.size rfl _ _ _ rfl HR3.out ?_)
        exact bodyPost_ret (results_val rfl _ _ _ _ _ _ rfl (valSet_row HR3.out [.int .i64 1, .int .i64 1, .string ⟨#[]⟩])) rfl ⟨by rw [HE.out]; rfl, valSet_below HG3.out (Nat.le_refl _) _⟩
set_option maxHeartbeats 1000000 in
theorem ror4_any (v : Value) (l : List Val) (w : World) (hr : ReadsV w v l) (hl : l.length ≤ 9223372036854775806) : Calls Try.prog 32 #[v] w fun e w' => e = .returned (orL l) ∧ Grows w w' := by
  have HR := hidden hr
  obtain ⟨A, c, rfl, hle, hxx⟩ := hr
  clear hxx
  obtain ⟨W0, hW0⟩ : ∃ W0, W0 = w.alloc (.cells #[.int .i64 0, .int .i64 0, .string ⟨#[]⟩] 23) := ⟨_, rfl⟩
  have HW0 := hidden hW0
  have HGW := hidden (show Grows w W0 by rw [hW0]; exact grow1 _)
  have HRW := hidden (show Row W0 w.heap.size 23 [.int .i64 0, .int .i64 0, .string ⟨#[]⟩] by rw [hW0]; exact valRow w _ _ _)
  have HB1 := hidden (fun w => rboolean_any true w)
  have HB2 := hidden (fun w => rboolean_any false w)
  unfold boolV at HB1 HB2
  clear hW0
  go_enter Try.func32, Try.ntmps32
  go_wp2_with fail
  rw [← HW0.out]
  go_loopw [3, 4] (fun u i wr => LogRel W0 Val.tru (fun x => !x.fal) l u i wr) (fun _ i _ => l.length - (intOf i).toNat)
  case atStart => exact ⟨0, Nat.zero_le _, rfl, rfl, rfl, Below.refl _ _⟩
  case round =>
    obtain ⟨j, hj, rfl, rfl, hv, hb⟩ := hrel
    have HV := hidden hv
    have HB := hidden hb
    have HRB := hidden (HRW.out.grow hb)
    clear hv hb
    by_cases hlt : j < l.length
    · obtain ⟨A', c', he, _, hcell⟩ := (HR.out.grow HGW.out).grow HB.out
      injection he with e1 e2 e3
      subst e1 e3
      obtain ⟨b, off, rfl, hcell2⟩ := hcell (by omega)
      obtain ⟨x, hx⟩ : ∃ x, l[j]? = some x := ⟨_, List.getElem?_eq_getElem hlt⟩
      obtain ⟨c1, c2, c3⟩ := hcell2 j x hx
      have HX := hidden hx
      have HF := hidden (fun w => ristrue_any x.k x.n x.t w)
      have HT := hidden (fun w => risfalse_any x.k x.n x.t w)
      have HSP := hidden (any_step (p := Val.tru) hx)
      have HSQ := hidden (any_step (p := (fun x => !x.fal)) hx)
      have hj0 : (0 : Int) ≤ (j : Int) := by omega
      have hj1 : (j : Int) < (l.length : Int) := by omega
      have hd : decide (j < l.length) = true := by simpa using hlt
      have HCC := hidden (show ∀ X, Grows wr X → X.cell? ⟨b, off + j * 3, none⟩ = some (.int .i64 x.k) ∧ X.cell? ⟨b, off + j * 3 + 1, none⟩ = some (.int .i64 x.n) ∧ X.cell? ⟨b, off + j * 3 + 2, none⟩ = some (.string x.t) from fun X g =>
        ⟨(g.cell (World.block_lt_of_cell? _ _ c1)).trans c1, (g.cell (World.block_lt_of_cell? _ _ c2)).trans c2, (g.cell (World.block_lt_of_cell? _ _ c3)).trans c3⟩)
      clear hcell hcell2 e2 hx
      generalize (l.take j).any (fun x => !x.fal) = uu at *
      go_wp2_with fail
      refine (HF.out _).mono ?_
      rintro e w2 ⟨rfl, g2⟩
      have HG2 := hidden g2
      clear c1 c2 c3
      by_cases hf : Val.tru x = true
      · have hf' : (x.k == 1 && x.n == 1) = true := hf
        have HE := hidden (show orL l = boolV true by unfold orL; rw [if_pos (any_hit HX.out hf)])
        rw [hf']
        clear hf hf' g2
        go_wp2_with fail
        refine (HB1.out _).mono ?_
        rintro e w3 ⟨rfl, g3⟩
        have HR3 := hidden ((HRB.out.grow HG2.out).grow g3)
        have HG3 := hidden (((HGW.out.of_below HB.out).of_below HG2.out).of_below g3)
        clear g3
        go_wp2_with (refine wpList_store_val rfl _ _ rfl w.heap.size rfl _ _ _ rfl HR3.out ?_)
        exact bodyPost_ret (results_val rfl _ _ _ _ _ _ rfl (valSet_row HR3.out [.int .i64 1, .int .i64 1, .string ⟨#[]⟩])) rfl ⟨by rw [HE.out]; rfl, valSet_below HG3.out (Nat.le_refl _) _⟩
      · have hf' : (x.k == 1 && x.n == 1) = false := show Val.tru x = false by simpa using hf
        have HPF := hidden (show Val.tru x = false by simpa using hf)
        rw [show (x.k == 1 && x.n == 1) = false from HPF.out]
        obtain ⟨c1, c2, c3⟩ := HCC.out w2 g2
        clear hf hf' g2
        go_wp2_with fail
        refine (HT.out _).mono ?_
        rintro e w3 ⟨rfl, g3⟩
        have HB3 := hidden ((HB.out.of_below HG2.out).of_below g3)
        clear g3 c1 c2 c3
        by_cases hq : (fun x => !x.fal) x = true
        · rw [show (x.k == 1 && x.n == 0) = false from (show x.fal = false by simpa using hq)]
          have HQ2 := hidden hq
          clear hq
          go_wp2_with fail
          go_roundw
          case rel => exact ⟨j + 1, by omega, by go_num, by rw [HSQ.out, HQ2.out]; simp, by rw [HSP.out, HV.out, HPF.out]; rfl, HB3.out⟩
          case measure => simp [intOf]; omega
        · have HQ2 := hidden (show (fun x => !x.fal) x = false by simpa using hq)
          rw [show (x.k == 1 && x.n == 0) = true from (show x.fal = true by simpa using HQ2.out)]
          clear hq
          go_wp2_with fail
          go_roundw
          case rel => exact ⟨j + 1, by omega, by go_num, by rw [HSQ.out, HQ2.out]; simp, by rw [HSP.out, HV.out, HPF.out]; rfl, HB3.out⟩
          case measure => simp [intOf]; omega
    · have hd : decide (j < l.length) = false := by simpa using hlt
      have htk : l.take j = l := List.take_of_length_le (by omega)
      rw [htk] at HV ⊢
      have HV2 := hidden HV.out
      by_cases hu : l.any (fun x => !x.fal) = true
      · have HE := hidden (show orL l = nullV by unfold orL; rw [HV2.out, hu]; rfl)
        rw [hu]
        clear hlt htk hu
        go_wp2_with (refine wpList_store_val rfl _ _ rfl w.heap.size rfl _ _ _ rfl HRB.out ?_)
        exact bodyPost_ret (results_val rfl _ _ _ _ _ _ rfl (valSet_row HRB.out [.int .i64 0, .int .i64 0, .string ⟨#[]⟩])) rfl ⟨by rw [HE.out]; rfl, valSet_below (HGW.out.of_below HB.out) (Nat.le_refl _) _⟩
      · have hu' : l.any (fun x => !x.fal) = false := by simpa using hu
        have HE := hidden (show orL l = boolV false by unfold orL; rw [HV2.out, hu']; rfl)
        rw [hu']
        clear hlt htk hu hu'
        go_wp2_with fail
        refine (HB2.out _).mono ?_
        rintro e w3 ⟨rfl, g3⟩
        have HR3 := hidden (HRB.out.grow g3)
        have HG3 := hidden ((HGW.out.of_below HB.out).of_below g3)
        clear g3
        go_wp2_with (refine wpList_store_val rfl _ _ rfl w.heap.size rfl _ _ _ rfl HR3.out ?_)
        exact bodyPost_ret (results_val rfl _ _ _ _ _ _ rfl (valSet_row HR3.out [.int .i64 1, .int .i64 0, .string ⟨#[]⟩])) rfl ⟨by rw [HE.out]; rfl, valSet_below HG3.out (Nat.le_refl _) _⟩
end Go.Proofs.Ytepnegbopnepfaa
