/-
  The contracts of package checksum over the landed code: CRC, Update, Seal, Open, Mix, Unmix and Hash return what chapter 2 says, for byte slices of up to 2^20 bytes; nothing that was there is changed.
-/
import Derived.Test.YtepahejeeajfbaaCkOpen
import Derived.Test.YtepahejeeajfbaaCkHash
namespace Go.Proofs.Ytepahejeeajfbaa
open Go.RowKit

theorem ck_mix (n : Nat) (w : World) (h : n < 18446744073709551616) : Calls Try.prog 19 #[.int .u64 (n : Int)] w fun e w' => e = .returned (.int .u64 (mix n : Int)) ∧ Grows w w' := by
  refine (mix_any n w h).mono ?_
  rintro e w' ⟨rfl, rfl⟩
  exact ⟨rfl, Below.refl _ _⟩
theorem ck_unmix (n : Nat) (w : World) (h : n < 18446744073709551616) : Calls Try.prog 21 #[.int .u64 (n : Int)] w fun e w' => e = .returned (.int .u64 (unmix n : Int)) ∧ Grows w w' := unmix_any n w h

end Go.Proofs.Ytepahejeeajfbaa
