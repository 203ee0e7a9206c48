/-
  The reference of package literal: Format. Nothing that was there is changed.
-/
import Derived.Test.YtaiphocnfkkigaaDoorLit3
namespace Go.Proofs.YtaiphocnfkkigaaDoor
open Go.RowKit
set_option linter.unusedVariables false
set_option linter.unusedSimpArgs false

def fmtV (k n : Int) (t : List UInt8) : List UInt8 :=
  if k = 1 then (if n = 1 then [116, 114, 117, 101] else [102, 97, 108, 115, 101]) else if k = 2 then fmtI n else if k = 3 then quoteL t else [110, 117, 108, 108]
theorem fgrow {w : World} (o : Obj) : Grows w (w.alloc o) := (Below.refl _ _).alloc (Nat.le_refl _) o
set_option maxHeartbeats 1000000 in
theorem rformatv_any (k n : Int) (t : List UInt8) (w : World) (h0 : -9223372036854775808 ≤ n) (h1 : n < 9223372036854775808) (hl : t.length ≤ 4611686018427387900) :
    Calls Tryd.prog 25 #[.agg #[.int .i64 k, .int .i64 n, .string (strOf t)]] w fun e w' => e = .returned (.string (strOf (fmtV k n t))) ∧ Grows w w' := by
  by_cases k1 : k = 1
  · subst k1
    by_cases n1 : n = 1
    · subst n1
      go_enter Tryd.func25, Tryd.ntmps25
      go_wp2_with fail
      go_ret
      exact ⟨rfl, fgrow _⟩
    · have HE := hidden (show fmtV 1 n t = [102, 97, 108, 115, 101] by unfold fmtV; rw [if_pos rfl, if_neg n1])
      have hn : (n == 1) = false := by simpa using n1
      go_enter Tryd.func25, Tryd.ntmps25
      go_wp2_with fail
      go_ret
      exact ⟨by rw [HE.out]; rfl, fgrow _⟩
  · by_cases k2 : k = 2
    · subst k2
      have HF := hidden (fun w => rformat_any n w h0 h1)
      have HE := hidden (show fmtV 2 n t = fmtI n by unfold fmtV; rw [if_neg k1, if_pos rfl])
      clear k1
      go_enter Tryd.func25, Tryd.ntmps25
      go_wp2_with fail
      refine (HF.out _).mono ?_
      rintro e w2 ⟨rfl, rfl⟩
      go_wp2_with fail
      go_ret
      exact ⟨by rw [HE.out]; rfl, fgrow _⟩
    · by_cases k3 : k = 3
      · subst k3
        have HQ := hidden (fun w => rquote_any t w hl)
        have HE := hidden (show fmtV 3 n t = quoteL t by unfold fmtV; rw [if_neg k1, if_neg k2, if_pos rfl])
        clear k1 k2
        go_enter Tryd.func25, Tryd.ntmps25
        go_wp2_with fail
        refine (HQ.out _).mono ?_
        rintro e w2 ⟨rfl, rfl⟩
        go_wp2_with fail
        go_ret
        exact ⟨by rw [HE.out]; rfl, fgrow _⟩
      · have HE := hidden (show fmtV k n t = [110, 117, 108, 108] by unfold fmtV; rw [if_neg k1, if_neg k2, if_neg k3])
        have b1 : (k == 1) = false := by simpa using k1
        have b2 : (k == 2) = false := by simpa using k2
        have b3 : (k == 3) = false := by simpa using k3
        go_enter Tryd.func25, Tryd.ntmps25
        go_wp2_with fail
        go_ret
        exact ⟨by rw [HE.out]; rfl, fgrow _⟩
end Go.Proofs.YtaiphocnfkkigaaDoor
