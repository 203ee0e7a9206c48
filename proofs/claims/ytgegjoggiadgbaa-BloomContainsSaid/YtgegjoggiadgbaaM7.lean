/-
  Texts that the claims of this seat share, put together (BsRef8, BsRef9). No condition.
-/
import Derived.Test.YtgegjoggiadgbaaM4
import Derived.Test.YtgegjoggiadgbaaM5
import Derived.Test.YtgegjoggiadgbaaM2
import Derived.Test.YtgegjoggiadgbaaM6
/-
  Shaken: what the claims of this seat need of this text. No condition.
-/
namespace Go.Proofs.Ytgegjoggiadgbaa
set_option maxRecDepth 8000
open Go.RowKit
end Go.Proofs.Ytgegjoggiadgbaa
/-
  Shaken: what the claims of this seat need of this text. No condition.
-/
namespace Go.Proofs.Ytgegjoggiadgbaa
set_option maxRecDepth 8000
open Go.RowKit
def bitAt (o : List Bool) : Nat → Bool := fun i => o[i]?.getD false
def RDec (l : List UInt8) (off : Int) (w : World) (e : Ending) (w' : World) : Prop :=
  ∃ s, e = .returned (.tuple #[s, .int .i64 (decS l off).2.2.1, .int .i64 (decS l off).2.2.2]) ∧ IsSet w' s (decS l off).1 (pack (decS l off).1 (bitAt (decS l off).2.1)) ∧ Grows w w'
theorem isSet_zero (w : World) : IsSet w (.agg #[.int .i64 0, .slice none 0 0]) 0 (pack 0 (bitAt [])) := ⟨_, rfl, Reads.nil_ w 0, by simp, by omega⟩
theorem RDec.err {l : List UInt8} {off c : Int} {w w' : World} (h : decS l off = (0, [], 0, c)) (hb : Grows w w') : RDec l off w (.returned (.tuple #[.agg #[.int .i64 0, .slice none 0 0], .int .i64 0, .int .i64 c])) w' := by
  unfold RDec
  rw [h]
  exact ⟨_, rfl, isSet_zero w', hb⟩
def lenOf : Value → Nat | .slice _ n _ => n | _ => 0
end Go.Proofs.Ytgegjoggiadgbaa
