/-
  Shaken: what the claims of this seat need of this text. No condition.
-/
import Derived.Test.YtoaklmceejeblaaGreatProg
import Derived.Test.YtoaklmceejeblaaGreatM3
import Derived.WalkKit
import Derived.Lib.Strings
import Derived.Lib.Slices
import Derived.Lib.Small
import Derived.Lib.Walk
namespace Go.Proofs.YtoaklmceejeblaaGreat
open Go.RowKit
set_option maxRecDepth 100000 in
theorem tab_size : Lib.len8tab.size = 256 := by decide
theorem tab_fin : ∀ i : Fin 256, (Lib.len8tab[i.val]'(by rw [tab_size]; exact i.isLt)).toNat = Lib.bitLen i.val := by decide +kernel
theorem tab_get (i : Nat) (h : i < Lib.len8tab.size) : (Lib.len8tab[i]'h).toNat = Lib.bitLen i := tab_fin ⟨i, by rw [tab_size] at h; exact h⟩
theorem len_close (k : Nat) (K x Y : Int) (h0 : 0 ≤ x) (h1 : x ≤ 18446744073709551615) (hK : K = (k : Int)) (hk : 2 ^ k ≤ x.toNat) (e : Y.toNat = x.toNat / 2 ^ k) :
    wrap64 (K + wrap64 (Lib.bitLen Y.toNat : Int)) = (Lib.bitLen x.toNat : Int) := by
  have hs := Lib.bitLen_shift k x.toNat hk (by omega)
  have hb := bitLen_bd (n := x.toNat) (by omega)
  rw [← e] at hs
  simp only [wrap64]
  omega
theorem len_close0 (x : Int) (h1 : x ≤ 18446744073709551615) : wrap64 (wrap64 (Lib.bitLen x.toNat : Int)) = (Lib.bitLen x.toNat : Int) := by
  have hb := bitLen_bd (n := x.toNat) (by omega)
  simp only [wrap64]
  omega
set_option maxHeartbeats 4000000 in
set_option maxRecDepth 100000 in
theorem len64_any (x : Int) (w : World) (h0 : 0 ≤ x) (h1 : x ≤ 18446744073709551615) :
    Calls Tryz.prog 150 #[.int .u64 x] w fun e w' => e = .returned (.int .i64 (Lib.bitLen x.toNat)) ∧ w = w' := by
  have hsz : (256 : Int) ≤ (Lib.len8tab.size : Int) := by rw [tab_size]; decide
  go_enter Tryz.func150, Tryz.ntmps150
  go_wp2
  all_goals (go_ret; refine ⟨congrArg Ending.returned (congrArg (Value.int IntKind.i64) ?_), rfl⟩)
  all_goals rw [tab_get]
  all_goals first
    | exact len_close 56 56 x _ h0 h1 rfl (by omega) (by omega)
    | exact len_close 48 48 x _ h0 h1 rfl (by omega) (by omega)
    | exact len_close 40 40 x _ h0 h1 rfl (by omega) (by omega)
    | exact len_close 32 32 x _ h0 h1 rfl (by omega) (by omega)
    | exact len_close 24 24 x _ h0 h1 rfl (by omega) (by omega)
    | exact len_close 16 16 x _ h0 h1 rfl (by omega) (by omega)
    | exact len_close 8 8 x _ h0 h1 rfl (by omega) (by omega)
    | exact len_close0 x h1
end Go.Proofs.YtoaklmceejeblaaGreat
