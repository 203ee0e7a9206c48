/-
  checksum.Mix and Unmix return 'mix' and 'unmix': for every uint64; the world is as it was. One byte of the table: 'halfN 8'.
-/
import Derived.Test.YtepnegbopnepfaaRMix
import Derived.Test.YtepnegbopnepfaaRCrc
namespace Go.Proofs.Ytepnegbopnepfaa
open Go.RowKit

set_option maxHeartbeats 400000 in
theorem mix_any (n : Nat) (w : World) (h : n < 18446744073709551616) :
    Calls Try.prog 65 #[.int .u64 (n : Int)] w fun e w' => e = .returned (.int .u64 (mix n : Int)) ∧ w = w' := by
  go_enter Try.func65, Try.ntmps65
  go_wp2
  go_ret
  refine ⟨retN ?_, rfl⟩
  exact mix_go h

theorem ux_go {n k : Nat} (h : n < 18446744073709551616) (hk : 22 ≤ k) (a b : Int) (ha : a = ((n / 2 ^ k : Nat) : Int)) (hb : b = ((n / 2 ^ k / 2 ^ k : Nat) : Int)) :
    bits .xor .u64 (bits .xor .u64 (n : Int) a) b = (ux k n : Int) := by
  subst ha hb
  have _ := hk
  have h1 : n / 2 ^ k < 18446744073709551616 := Nat.lt_of_le_of_lt (Nat.div_le_self _ _) h
  have h2 : n / 2 ^ k / 2 ^ k < 18446744073709551616 := Nat.lt_of_le_of_lt (Nat.div_le_self _ _) h1
  rw [bits_xor_u64_nat n _ h h1, bits_xor_u64_nat _ _ (Nat.xor_lt_two_pow (n := 64) h h1) h2]
  unfold ux
  rw [Nat.xor_assoc]

end Go.Proofs.Ytepnegbopnepfaa
