/-
  Package literal as it landed: Format, parseText, Parse. Nothing that was there is changed; the listed variables lie as the program's text lays them ('Fit').
-/
import Derived.Test.YtaiphocnfkkigaaDoorLb1
import Derived.Test.YtaiphocnfkkigaaDoorLtP
namespace Go.Proofs.YtaiphocnfkkigaaDoor
open Go.RowKit
set_option linter.unusedVariables false
set_option linter.unusedSimpArgs false

set_option maxHeartbeats 2000000 in
theorem lformatv_any (k n : Int) (t : List UInt8) (w : World) (hf : Fit w) (h0 : -9223372036854775808 ≤ n) (h1 : n ≤ 9223372036854775807) (hv : k = 1 → n = 0 ∨ n = 1) (hl : t.length ≤ 1048576) :
    Calls Tryd.prog 24 #[.agg #[.int .i64 k, .int .i64 n, .string (strOf t)]] w fun e w' => e = .returned (.string (strOf (fmtV k n t))) ∧ Grows w w' := by
  have HG := hidden (fun o : Obj => fgrow (w := w) o)
  by_cases k1 : k = 1
  · subst k1
    rcases hv rfl with n1 | n1
    · subst n1
      go_enter Tryd.func24, Tryd.ntmps24
      go_wp2_with fail
      go_ret
      exact ⟨rfl, HG.out _⟩
    · subst n1
      go_enter Tryd.func24, Tryd.ntmps24
      go_wp2_with fail
      go_ret
      exact ⟨rfl, HG.out _⟩
  · by_cases k2 : k = 2
    · subst k2
      have HF := hidden (fun w2 (g : Grows w w2) => lformat_any n w2 (hf.grow g) h0 h1)
      have HE := hidden (show fmtV 2 n t = fmtI n by unfold fmtV; rw [if_neg k1, if_pos rfl])
      clear k1 hv hf
      go_enter Tryd.func24, Tryd.ntmps24
      go_wp2_with ((go_at_call 15; refine (HF.out _ (HG.out _)).mono ?_; rintro e w2 ⟨rfl, g2⟩; have HG2 := hidden ((HG.out _).of_below g2); clear g2))
      go_ret
      exact ⟨by rw [HE.out]; rfl, HG2.out⟩
    · by_cases k3 : k = 3
      · subst k3
        have HQ := hidden (fun w2 (g : Grows w w2) => lquote_any t w2 (hf.grow g) hl)
        have HE := hidden (show fmtV 3 n t = quoteL t by unfold fmtV; rw [if_neg k1, if_neg k2, if_pos rfl])
        clear k1 k2 hv hf
        go_enter Tryd.func24, Tryd.ntmps24
        go_wp2_with ((go_at_call 19; refine (HQ.out _ (HG.out _)).mono ?_; rintro e w2 ⟨rfl, g2⟩; have HG2 := hidden ((HG.out _).of_below g2); clear g2))
        go_ret
        exact ⟨by rw [HE.out]; rfl, HG2.out⟩
      · have HE := hidden (show fmtV k n t = [110, 117, 108, 108] by unfold fmtV; rw [if_neg k1, if_neg k2, if_neg k3])
        have b1 : (k == 1) = false := by simpa using k1
        have b2 : (k == 2) = false := by simpa using k2
        have b3 : (k == 3) = false := by simpa using k3
        clear hv
        go_enter Tryd.func24, Tryd.ntmps24
        go_wp2_with fail
        go_ret
        exact ⟨by rw [HE.out]; rfl, HG.out _⟩
def NewV (w : World) (k n : Int) (t : ByteArray) (W : World) : Prop := Row W w.heap.size 37 [.int .i64 k, .int .i64 n, .string t] ∧ Grows w W
set_option maxHeartbeats 2000000 in
theorem lparsetext_any (l : List UInt8) (w : World) (hf : Fit w) (hl : l.length ≤ 1048576) : Calls Tryd.prog 41 #[.string (strOf l)] w fun e w' => e = .returned (txtR (unqL l)).v ∧ Grows w w' := by
  have HU := hidden (fun w2 (g : Grows w w2) => lunquote_any l w2 (hf.grow g) hl)
  have HLT := hidden (unqL_length l)
  have HG := hidden (fun o : Obj => grow1 (w := w) o)
  unfold twoS at HU
  rcases hTE : unqL l with ⟨T, E⟩
  rw [hTE] at HU HLT
  clear hTE hf
  by_cases he : E = 0
  · subst he
    have hs : (strOf T).size = T.length := rfl
    by_cases hT : 4096 < T.length
    · have HE := hidden (show txtR (T, 0) = ⟨0, 0, [], 3⟩ by unfold txtR; rw [if_neg (by simp), if_pos hT])
      have hd : decide ((4096 : Int) < (T.length : Int)) = true := by simp; omega
      go_enter Tryd.func41, Tryd.ntmps41
      go_wp2_with (first
        | (go_at_call 17; refine (HU.out _ (HG.out _)).mono ?_; rintro e w2 ⟨rfl, g2⟩; have HR2 := hidden ((valRow w (.int .i64 0) (.int .i64 0) (.string ⟨#[]⟩)).grow g2); have HG2 := hidden ((HG.out _).of_below g2); clear g2)
        | (refine wpList_store_val rfl _ _ rfl w.heap.size rfl _ _ _ rfl HR2.out ?_))
      exact bodyPost_ret (results_val2 rfl _ _ _ _ _ _ rfl (valSet_row HR2.out [.int .i64 0, .int .i64 0, .string ⟨#[]⟩])) rfl ⟨by rw [HE.out]; rfl, valSet_below HG2.out (Nat.le_refl _) _⟩
    · have HE := hidden (show txtR (T, 0) = ⟨3, 0, T, 0⟩ by unfold txtR; rw [if_neg (by simp), if_neg hT])
      have hd : decide ((4096 : Int) < (T.length : Int)) = false := by simp; omega
      go_enter Tryd.func41, Tryd.ntmps41
      go_wp2_with (first
        | (go_at_call 17; refine (HU.out _ (HG.out _)).mono ?_; rintro e w2 ⟨rfl, g2⟩; have HR2 := hidden ((valRow w (.int .i64 0) (.int .i64 0) (.string ⟨#[]⟩)).grow g2); have HG2 := hidden ((HG.out _).of_below g2); clear g2)
        | (refine wpList_store_val rfl _ _ rfl w.heap.size rfl _ _ _ rfl HR2.out ?_))
      exact bodyPost_ret (results_val2 rfl _ _ _ _ _ _ rfl (valSet_row HR2.out [.int .i64 3, .int .i64 0, .string (strOf T)])) rfl ⟨by rw [HE.out]; rfl, valSet_below HG2.out (Nat.le_refl _) _⟩
  · have HE := hidden (show txtR (T, E) = ⟨0, 0, [], E⟩ by unfold txtR; rw [if_pos he])
    have hen : (E == 0) = false := by simpa using he
    clear he
    go_enter Tryd.func41, Tryd.ntmps41
    go_wp2_with (first
      | (go_at_call 17; refine (HU.out _ (HG.out _)).mono ?_; rintro e w2 ⟨rfl, g2⟩; have HR2 := hidden ((valRow w (.int .i64 0) (.int .i64 0) (.string ⟨#[]⟩)).grow g2); have HG2 := hidden ((HG.out _).of_below g2); clear g2)
      | (refine wpList_store_val rfl _ _ rfl w.heap.size rfl _ _ _ rfl HR2.out ?_))
    exact bodyPost_ret (results_val2 rfl _ _ _ _ _ _ rfl (valSet_row HR2.out [.int .i64 0, .int .i64 0, .string ⟨#[]⟩])) rfl ⟨by rw [HE.out]; rfl, valSet_below HG2.out (Nat.le_refl _) _⟩
set_option maxHeartbeats 2000000 in
theorem lparsev_any (l : List UInt8) (w : World) (hf : Fit w) (hl : l.length ≤ 1048576) : Calls Tryd.prog 22 #[.string (strOf l)] w fun e w' => e = .returned (prsV l).v ∧ Grows w w' := by
  have HG := hidden (fun o : Obj => grow1 (w := w) o)
  by_cases h1 : l = [110, 117, 108, 108]
  · have HE := hidden (show prsV l = ⟨0, 0, [], 0⟩ from if_pos h1)
    have b1 := str_is h1
    clear h1 hl hf
    go_enter Tryd.func22, Tryd.ntmps22
    go_wp2_with (refine wpList_store_val rfl _ _ rfl w.heap.size rfl _ _ _ rfl (valRow w _ _ _) ?_)
    exact bodyPost_ret (results_val2 rfl _ _ _ _ _ _ rfl (valSet_row (valRow w _ _ _) [.int .i64 0, .int .i64 0, .string ⟨#[]⟩])) rfl ⟨by rw [HE.out]; rfl, valSet_below (HG.out _) (Nat.le_refl _) _⟩
  have b1 := str_not h1
  by_cases h2 : l = [116, 114, 117, 101]
  · have HE := hidden (show prsV l = ⟨1, 1, [], 0⟩ by unfold prsV; rw [if_neg h1, if_pos h2])
    have b2 := str_is h2
    clear h1 h2 hl hf
    go_enter Tryd.func22, Tryd.ntmps22
    go_wp2_with (refine wpList_store_val rfl _ _ rfl w.heap.size rfl _ _ _ rfl (valRow w _ _ _) ?_)
    exact bodyPost_ret (results_val2 rfl _ _ _ _ _ _ rfl (valSet_row (valRow w _ _ _) [.int .i64 1, .int .i64 1, .string ⟨#[]⟩])) rfl ⟨by rw [HE.out]; rfl, valSet_below (HG.out _) (Nat.le_refl _) _⟩
  have b2 := str_not h2
  by_cases h3 : l = [102, 97, 108, 115, 101]
  · have HE := hidden (show prsV l = ⟨1, 0, [], 0⟩ by unfold prsV; rw [if_neg h1, if_neg h2, if_pos h3])
    have b3 := str_is h3
    clear h1 h2 h3 hl hf
    go_enter Tryd.func22, Tryd.ntmps22
    go_wp2_with (refine wpList_store_val rfl _ _ rfl w.heap.size rfl _ _ _ rfl (valRow w _ _ _) ?_)
    exact bodyPost_ret (results_val2 rfl _ _ _ _ _ _ rfl (valSet_row (valRow w _ _ _) [.int .i64 1, .int .i64 0, .string ⟨#[]⟩])) rfl ⟨by rw [HE.out]; rfl, valSet_below (HG.out _) (Nat.le_refl _) _⟩
  have b3 := str_not h3
  have HPF := hidden (fun w => lib_hasPrefix l [39] w)
  rw [pre_quote] at HPF
  by_cases h4 : l.head? = some 39
  · have HE := hidden (show prsV l = txtR (unqL l) by unfold prsV; rw [if_neg h1, if_neg h2, if_neg h3, if_pos h4])
    have HT := hidden (fun w2 (g : Grows w w2) => lparsetext_any l w2 (hf.grow g) hl)
    rw [show (l[0]? == some 39) = true by rw [← List.head?_eq_getElem?, h4]; rfl] at HPF
    clear h1 h2 h3 h4 hf
    generalize txtR (unqL l) = p at *
    obtain ⟨k, n, t, e0⟩ := p
    unfold PV.v at HT
    have HT2 := hidden (show ∀ w2, Grows w w2 → Calls Tryd.prog 41 #[.string (strOf l)] w2 fun e w' => e = .returned (.tuple #[.agg #[.int .i64 k, .int .i64 n, .string (strOf t)], .int .i64 e0]) ∧ Grows w2 w' from HT.out)
    clear HT
    go_enter Tryd.func22, Tryd.ntmps22
    go_wp2_with (first
      | (go_at_call 37; refine (HPF.out _).mono ?_; rintro e w2 ⟨rfl, rfl⟩)
      | (go_at_call 41; refine (HT2.out _ (HG.out _)).mono ?_; rintro e w2 ⟨rfl, g2⟩; have HR2 := hidden ((valRow w (.int .i64 0) (.int .i64 0) (.string ⟨#[]⟩)).grow g2); have HG2 := hidden ((HG.out _).of_below g2); clear g2)
      | (refine wpList_store_val rfl _ _ rfl w.heap.size rfl _ _ _ rfl HR2.out ?_))
    exact bodyPost_ret (results_val2 rfl _ _ _ _ _ _ rfl (valSet_row HR2.out [.int .i64 k, .int .i64 n, .string (strOf t)])) rfl ⟨by rw [HE.out]; rfl, valSet_below HG2.out (Nat.le_refl _) _⟩
  · have HE0 := hidden (show prsV l = intR (prsI l) by unfold prsV; rw [if_neg h1, if_neg h2, if_neg h3, if_neg h4])
    have HP := hidden (fun w2 (g : Grows w w2) => lparse_any l w2 (hf.grow g) hl)
    rw [show (l[0]? == some 39) = false by rw [← List.head?_eq_getElem?]; simpa using h4] at HPF
    unfold two at HP
    rcases hNE : prsI l with ⟨n, E⟩
    rw [hNE] at HE0 HP
    clear hNE h1 h2 h3 h4 hf
    by_cases he : E = 0
    · subst he
      have HE := hidden (show prsV l = ⟨2, n, [], 0⟩ by rw [HE0.out]; unfold intR; rw [if_neg (by simp)])
      go_enter Tryd.func22, Tryd.ntmps22
      go_wp2_with (first
        | (go_at_call 37; refine (HPF.out _).mono ?_; rintro e w2 ⟨rfl, rfl⟩)
        | (go_at_call 13; refine (HP.out _ (HG.out _)).mono ?_; rintro e w2 ⟨rfl, g2⟩; have HR2 := hidden ((valRow w (.int .i64 0) (.int .i64 0) (.string ⟨#[]⟩)).grow g2); have HG2 := hidden ((HG.out _).of_below g2); clear g2)
        | (refine wpList_store_val rfl _ _ rfl w.heap.size rfl _ _ _ rfl HR2.out ?_))
      exact bodyPost_ret (results_val2 rfl _ _ _ _ _ _ rfl (valSet_row HR2.out [.int .i64 2, .int .i64 n, .string ⟨#[]⟩])) rfl ⟨by rw [HE.out]; rfl, valSet_below HG2.out (Nat.le_refl _) _⟩
    · have HE := hidden (show prsV l = ⟨0, 0, [], E⟩ by rw [HE0.out]; unfold intR; rw [if_pos he])
      have hen : (E == 0) = false := by simpa using he
      clear he
      go_enter Tryd.func22, Tryd.ntmps22
      go_wp2_with (first
        | (go_at_call 37; refine (HPF.out _).mono ?_; rintro e w2 ⟨rfl, rfl⟩)
        | (go_at_call 13; refine (HP.out _ (HG.out _)).mono ?_; rintro e w2 ⟨rfl, g2⟩; have HR2 := hidden ((valRow w (.int .i64 0) (.int .i64 0) (.string ⟨#[]⟩)).grow g2); have HG2 := hidden ((HG.out _).of_below g2); clear g2)
        | (refine wpList_store_val rfl _ _ rfl w.heap.size rfl _ _ _ rfl HR2.out ?_))
      exact bodyPost_ret (results_val2 rfl _ _ _ _ _ _ rfl (valSet_row HR2.out [.int .i64 0, .int .i64 0, .string ⟨#[]⟩])) rfl ⟨by rw [HE.out]; rfl, valSet_below HG2.out (Nat.le_refl _) _⟩
end Go.Proofs.YtaiphocnfkkigaaDoor
