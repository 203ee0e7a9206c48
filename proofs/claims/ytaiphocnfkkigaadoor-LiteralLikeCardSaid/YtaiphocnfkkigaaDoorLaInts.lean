/-
  The laws LiteralInts, LiteralQuotes and LiteralLike, walked: they return true. Nothing that was there is changed.
-/
import Derived.Test.YtaiphocnfkkigaaDoorLa0
import Derived.Test.YtaiphocnfkkigaaDoorLitInv2
import Derived.Test.YtaiphocnfkkigaaDoorLtL
import Derived.Test.YtaiphocnfkkigaaDoorLtR
namespace Go.Proofs.YtaiphocnfkkigaaDoor
open Go.RowKit
set_option linter.unusedVariables false
set_option linter.unusedSimpArgs false

set_option maxRecDepth 8000 in
set_option maxHeartbeats 4000000 in
theorem law_ints (n : Int) (l : List UInt8) (w : World) (hf : Fit w) (h0 : -9223372036854775808 ≤ n) (h1 : n ≤ 9223372036854775807) (hl : l.length ≤ 4611686018427387900) :
    Calls Tryd.prog 4 #[.int .i64 n, .string (strOf l)] w fun e w' => e = .returned (.bool true) ∧ Grows w w' := by
  have HFit := hidden (fun w2 (g : Grows w w2) => hf.grow g)
  have HA := hidden (fun w2 (g : Grows w w2) => awake_any w2 (hf.grow g))
  have HG0 := hidden (show Grows w w from Below.refl _ _)
  have hs : (strOf l).size = l.length := rfl
  by_cases h300 : 300 < l.length
  · have hd : decide ((300 : Int) < (l.length : Int)) = true := by simp; omega
    clear hf
    go_enter Tryd.func4, Tryd.ntmps4
    go_wp2_with ((go_at_call 12; refine (HA.out _ HG0.out).mono ?_; rintro e w4 ⟨rfl, g4⟩; have HG4 := hidden g4; clear g4))
    go_ret
    exact ⟨rfl, HG4.out⟩
  · have hd : decide ((300 : Int) < (l.length : Int)) = false := by simp; omega
    have HP := hidden (fun w2 (g : Grows w w2) => lparse_any l w2 (hf.grow g) (by omega))
    have HRP := hidden (fun w2 => rparse_any l w2 (by omega))
    have HF := hidden (fun w2 (g : Grows w w2) => lformat_any n w2 (hf.grow g) h0 h1)
    have HRF := hidden (fun w2 => rformat_any n w2 h0 (by omega))
    have HINV := hidden (prsI_fmtI n h0 (by omega))
    have HFL := hidden (show (fmtI n).length ≤ 1048576 by
      unfold fmtI
      have := decP_length 20 n.natAbs (by omega)
      split
      · simp
      · split
        · simp; omega
        · omega)
    have HP2 := hidden (fun w2 (g : Grows w w2) => lparse_any (fmtI n) w2 (hf.grow g) HFL.out)
    rw [HINV.out] at HP2
    rcases hpe : prsI l with ⟨v, e0⟩
    rw [hpe] at HP HRP
    unfold two at HP HRP HP2
    by_cases he : e0 = 0
    · subst he
      obtain ⟨f1, f2, f3⟩ := fmtI_prsI hpe
      have HFV := hidden (fun w2 (g : Grows w w2) => lformat_any v w2 (hf.grow g) f2 f3)
      rw [f1] at HFV
      generalize fmtI n = fn at *
      clear hf hpe f1 f2 f3
      go_enter Tryd.func4, Tryd.ntmps4
      go_wp2_with (first
        | (go_at_call_of 13 (Value.string (strOf l)); refine (HP.out _ HG0.out).mono ?_; rintro e w1 ⟨rfl, g⟩; have HGN := hidden (Grows.of_below HG0.out g); clear HG0; have HG0 := hidden (show Grows w _ from HGN.out); clear HGN g)
        | (go_at_call_of 13 (Value.string (strOf fn)); refine (HP2.out _ HG0.out).mono ?_; rintro e w1 ⟨rfl, g⟩; have HGN := hidden (Grows.of_below HG0.out g); clear HG0; have HG0 := hidden (show Grows w _ from HGN.out); clear HGN g)
        | (go_at_call 14; refine (HRP.out _).mono ?_; rintro e w2 ⟨rfl, rfl⟩)
        | (go_at_call_of 15 (Value.int IntKind.i64 n); refine (HF.out _ HG0.out).mono ?_; rintro e w1 ⟨rfl, g⟩; have HGN := hidden (Grows.of_below HG0.out g); clear HG0; have HG0 := hidden (show Grows w _ from HGN.out); clear HGN g)
        | (go_at_call_of 15 (Value.int IntKind.i64 v); refine (HFV.out _ HG0.out).mono ?_; rintro e w1 ⟨rfl, g⟩; have HGN := hidden (Grows.of_below HG0.out g); clear HG0; have HG0 := hidden (show Grows w _ from HGN.out); clear HGN g)
        | (go_at_call 16; refine (HRF.out _).mono ?_; rintro e w2 ⟨rfl, rfl⟩)
        | (go_at_call 12; refine (HA.out _ HG0.out).mono ?_; rintro e w1 ⟨rfl, g⟩; have HGN := hidden (Grows.of_below HG0.out g); clear HG0; have HG0 := hidden (show Grows w _ from HGN.out); clear HGN g))
      go_ret
      exact ⟨rfl, HG0.out⟩
    · have hen : (e0 == 0) = false := by simpa using he
      generalize fmtI n = fn at *
      clear hf hpe he
      go_enter Tryd.func4, Tryd.ntmps4
      go_wp2_with (first
        | (go_at_call_of 13 (Value.string (strOf l)); refine (HP.out _ HG0.out).mono ?_; rintro e w1 ⟨rfl, g⟩; have HGN := hidden (Grows.of_below HG0.out g); clear HG0; have HG0 := hidden (show Grows w _ from HGN.out); clear HGN g)
        | (go_at_call_of 13 (Value.string (strOf fn)); refine (HP2.out _ HG0.out).mono ?_; rintro e w1 ⟨rfl, g⟩; have HGN := hidden (Grows.of_below HG0.out g); clear HG0; have HG0 := hidden (show Grows w _ from HGN.out); clear HGN g)
        | (go_at_call 14; refine (HRP.out _).mono ?_; rintro e w2 ⟨rfl, rfl⟩)
        | (go_at_call_of 15 (Value.int IntKind.i64 n); refine (HF.out _ HG0.out).mono ?_; rintro e w1 ⟨rfl, g⟩; have HGN := hidden (Grows.of_below HG0.out g); clear HG0; have HG0 := hidden (show Grows w _ from HGN.out); clear HGN g)
        | (go_at_call 16; refine (HRF.out _).mono ?_; rintro e w2 ⟨rfl, rfl⟩)
        | (go_at_call 12; refine (HA.out _ HG0.out).mono ?_; rintro e w1 ⟨rfl, g⟩; have HGN := hidden (Grows.of_below HG0.out g); clear HG0; have HG0 := hidden (show Grows w _ from HGN.out); clear HGN g))
      go_ret
      exact ⟨rfl, HG0.out⟩
set_option maxRecDepth 8000 in
set_option maxHeartbeats 4000000 in
theorem law_quotes (l : List UInt8) (w : World) (hf : Fit w) (hl : l.length ≤ 4611686018427387900) :
    Calls Tryd.prog 5 #[.string (strOf l)] w fun e w' => e = .returned (.bool true) ∧ Grows w w' := by
  have HA := hidden (fun w2 (g : Grows w w2) => awake_any w2 (hf.grow g))
  have HG0 := hidden (show Grows w w from Below.refl _ _)
  have hs : (strOf l).size = l.length := rfl
  by_cases h300 : 300 < l.length
  · have hd : decide ((300 : Int) < (l.length : Int)) = true := by simp; omega
    clear hf
    go_enter Tryd.func5, Tryd.ntmps5
    go_wp2_with ((go_at_call 12; refine (HA.out _ HG0.out).mono ?_; rintro e w4 ⟨rfl, g4⟩; have HG4 := hidden g4; clear g4))
    go_ret
    exact ⟨rfl, HG4.out⟩
  · have hd : decide ((300 : Int) < (l.length : Int)) = false := by simp; omega
    have HP := hidden (fun w2 (g : Grows w w2) => lunquote_any l w2 (hf.grow g) (by omega))
    have HRP := hidden (fun w2 => runquote_any l w2 (by omega))
    have HF := hidden (fun w2 (g : Grows w w2) => lquote_any l w2 (hf.grow g) (by omega))
    have HRF := hidden (fun w2 => rquote_any l w2 (by omega))
    have HINV := hidden (unqL_quoteL l)
    have HFL := hidden (show (quoteL l).length ≤ 1048576 by have := quoteL_length l; omega)
    have HP2 := hidden (fun w2 (g : Grows w w2) => lunquote_any (quoteL l) w2 (hf.grow g) HFL.out)
    rw [HINV.out] at HP2
    have hvl := unqL_length l
    rcases hpe : unqL l with ⟨v, e0⟩
    rw [hpe] at HP HRP hvl
    unfold twoS at HP HRP HP2
    by_cases he : e0 = 0
    · subst he
      have HFV := hidden (fun w2 (g : Grows w w2) => lquote_any v w2 (hf.grow g) (by show v.length ≤ _; have : v.length ≤ l.length := hvl; omega))
      rw [quoteL_unqL hpe] at HFV
      generalize quoteL l = ql at *
      clear hf hpe hvl
      go_enter Tryd.func5, Tryd.ntmps5
      go_wp2_with (first
        | (go_at_call_of 17 (Value.string (strOf l)); refine (HP.out _ HG0.out).mono ?_; rintro e w1 ⟨rfl, g⟩; have HGN := hidden (Grows.of_below HG0.out g); clear HG0; have HG0 := hidden (show Grows w _ from HGN.out); clear HGN g)
        | (go_at_call_of 17 (Value.string (strOf ql)); refine (HP2.out _ HG0.out).mono ?_; rintro e w1 ⟨rfl, g⟩; have HGN := hidden (Grows.of_below HG0.out g); clear HG0; have HG0 := hidden (show Grows w _ from HGN.out); clear HGN g)
        | (go_at_call 18; refine (HRP.out _).mono ?_; rintro e w2 ⟨rfl, rfl⟩)
        | (go_at_call_of 19 (Value.string (strOf l)); refine (HF.out _ HG0.out).mono ?_; rintro e w1 ⟨rfl, g⟩; have HGN := hidden (Grows.of_below HG0.out g); clear HG0; have HG0 := hidden (show Grows w _ from HGN.out); clear HGN g)
        | (go_at_call_of 19 (Value.string (strOf v)); refine (HFV.out _ HG0.out).mono ?_; rintro e w1 ⟨rfl, g⟩; have HGN := hidden (Grows.of_below HG0.out g); clear HG0; have HG0 := hidden (show Grows w _ from HGN.out); clear HGN g)
        | (go_at_call 20; refine (HRF.out _).mono ?_; rintro e w2 ⟨rfl, rfl⟩)
        | (go_at_call 12; refine (HA.out _ HG0.out).mono ?_; rintro e w1 ⟨rfl, g⟩; have HGN := hidden (Grows.of_below HG0.out g); clear HG0; have HG0 := hidden (show Grows w _ from HGN.out); clear HGN g))
      go_ret
      exact ⟨rfl, HG0.out⟩
    · have hen : (e0 == 0) = false := by simpa using he
      generalize quoteL l = ql at *
      clear hf hpe he hvl
      go_enter Tryd.func5, Tryd.ntmps5
      go_wp2_with (first
        | (go_at_call_of 17 (Value.string (strOf l)); refine (HP.out _ HG0.out).mono ?_; rintro e w1 ⟨rfl, g⟩; have HGN := hidden (Grows.of_below HG0.out g); clear HG0; have HG0 := hidden (show Grows w _ from HGN.out); clear HGN g)
        | (go_at_call_of 17 (Value.string (strOf ql)); refine (HP2.out _ HG0.out).mono ?_; rintro e w1 ⟨rfl, g⟩; have HGN := hidden (Grows.of_below HG0.out g); clear HG0; have HG0 := hidden (show Grows w _ from HGN.out); clear HGN g)
        | (go_at_call 18; refine (HRP.out _).mono ?_; rintro e w2 ⟨rfl, rfl⟩)
        | (go_at_call_of 19 (Value.string (strOf l)); refine (HF.out _ HG0.out).mono ?_; rintro e w1 ⟨rfl, g⟩; have HGN := hidden (Grows.of_below HG0.out g); clear HG0; have HG0 := hidden (show Grows w _ from HGN.out); clear HGN g)
        | (go_at_call 20; refine (HRF.out _).mono ?_; rintro e w2 ⟨rfl, rfl⟩)
        | (go_at_call 12; refine (HA.out _ HG0.out).mono ?_; rintro e w1 ⟨rfl, g⟩; have HGN := hidden (Grows.of_below HG0.out g); clear HG0; have HG0 := hidden (show Grows w _ from HGN.out); clear HGN g))
      go_ret
      exact ⟨rfl, HG0.out⟩
set_option maxRecDepth 8000 in
set_option maxHeartbeats 4000000 in
theorem law_like (p s : List UInt8) (w : World) (hf : Fit w) (hp : p.length ≤ 4611686018427387900) (hs : s.length ≤ 4611686018427387900) :
    Calls Tryd.prog 8 #[.string (strOf p), .string (strOf s)] w fun e w' => e = .returned (.bool true) ∧ Grows w w' := by
  have HA := hidden (fun w2 (g : Grows w w2) => awake_any w2 (hf.grow g))
  have HG0 := hidden (show Grows w w from Below.refl _ _)
  have hsp : (strOf p).size = p.length := rfl
  have hss : (strOf s).size = s.length := rfl
  by_cases h1 : 100 < p.length
  · have hd : decide ((100 : Int) < (p.length : Int)) = true := by simp; omega
    clear hf
    go_enter Tryd.func8, Tryd.ntmps8
    go_wp2_with ((go_at_call 12; refine (HA.out _ HG0.out).mono ?_; rintro e w4 ⟨rfl, g4⟩; have HG4 := hidden g4; clear g4))
    go_ret
    exact ⟨rfl, HG4.out⟩
  · have hd : decide ((100 : Int) < (p.length : Int)) = false := by simp; omega
    by_cases h2 : 100 < s.length
    · have hd2 : decide ((100 : Int) < (s.length : Int)) = true := by simp; omega
      clear hf
      go_enter Tryd.func8, Tryd.ntmps8
      go_wp2_with ((go_at_call 12; refine (HA.out _ HG0.out).mono ?_; rintro e w4 ⟨rfl, g4⟩; have HG4 := hidden g4; clear g4))
      go_ret
      exact ⟨rfl, HG4.out⟩
    · have hd2 : decide ((100 : Int) < (s.length : Int)) = false := by simp; omega
      have HL := hidden (llike_any p s w hf (by omega) (by omega))
      have HR := hidden (fun w2 => rlike_any p s w2 (by omega) (by omega))
      generalize likeM p s = b at *
      clear hf
      go_enter Tryd.func8, Tryd.ntmps8
      go_wp2_with (first
        | (go_at_call 28; refine HL.out.mono ?_; rintro e w1 ⟨rfl, g⟩; have HGN := hidden (Grows.of_below HG0.out g); clear HG0; have HG0 := hidden (show Grows w _ from HGN.out); clear HGN g)
        | (go_at_call 29; refine (HR.out _).mono ?_; rintro e w1 ⟨rfl, g⟩; have HGN := hidden (Grows.of_below HG0.out g); clear HG0; have HG0 := hidden (show Grows w _ from HGN.out); clear HGN g)
        | (go_at_call 12; refine (HA.out _ HG0.out).mono ?_; rintro e w1 ⟨rfl, g⟩; have HGN := hidden (Grows.of_below HG0.out g); clear HG0; have HG0 := hidden (show Grows w _ from HGN.out); clear HGN g))
      go_ret
      exact ⟨rfl, HG0.out⟩
end Go.Proofs.YtaiphocnfkkigaaDoor
