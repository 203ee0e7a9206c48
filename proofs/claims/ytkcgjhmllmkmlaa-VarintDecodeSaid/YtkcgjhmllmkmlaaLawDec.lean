/-
  The walk of the law VarintDecode: it returns true for every byte slice and every offset; nothing that was there is changed.
-/
import Derived.Test.YtkcgjhmllmkmlaaAwake
namespace Go.Proofs.Ytkcgjhmllmkmlaa
open Go.RowKit

theorem law_decode (v : Value) (l : List UInt8) (off : Int) (w : World) (hv : IsBytes w v l) (hl : l.length ≤ maxLen) (h63 : -9223372036854775808 ≤ off) (h64 : off ≤ 9223372036854775807) :
    Calls Try.prog 5 #[v, .int .i64 off] w fun e w' => e = .returned (.bool true) ∧ Below w.heap.size w w' := by
  have H1 := hidden (decode_any v l off w hv hl h63 h64)
  have H2 := hidden (rdecode_any v l off w hv hl h63 h64)
  generalize (dcd l off).1 = x at *
  generalize (dcd l off).2.1 = y at *
  generalize (dcd l off).2.2 = z at *
  go_enter Try.func5, Try.ntmps5
  go_wp2_with fail
  refine (Calls.mono H1.out ?_)
  rintro e w' ⟨rfl, rfl⟩
  go_wp2_with fail
  refine (Calls.mono H2.out ?_)
  rintro e w' ⟨rfl, rfl⟩
  go_wp2_with (go_at_call 12; refine (awake_any _).mono ?_; rintro e w1 ⟨rfl, hb⟩)
  go_ret
  exact ⟨rfl, hb⟩

end Go.Proofs.Ytkcgjhmllmkmlaa
