/-
  varint.ReadFixed returns 'rdf': for all arguments; the world is as it was.
-/
import Derived.Test.YtcpdgkjelghlnaaVFix
namespace Go.Proofs.Ytcpdgkjelghlnaa
open Go.RowKit

theorem validOffset_t (A : Option Addr) (n c : Nat) (off : Int) (w : World) (_hn : n ≤ maxLen) (h0 : 0 ≤ off) (h1 : off ≤ n) :
    Calls Try.prog 36 #[.slice A n c, .int .i64 off] w fun e w' => e = .returned (.bool true) ∧ w = w' := by
  go_enter Try.func36, Try.ntmps36
  go_wp2
  go_ret
  exact ⟨rfl, rfl⟩

theorem validOffset_f (A : Option Addr) (n c : Nat) (off : Int) (w : World) (_hn : n ≤ maxLen) (h : off < 0 ∨ (n : Int) < off) :
    Calls Try.prog 36 #[.slice A n c, .int .i64 off] w fun e w' => e = .returned (.bool false) ∧ w = w' := by
  by_cases h0 : off < 0
  · clear h
    go_enter Try.func36, Try.ntmps36
    go_wp2
    go_ret
    exact ⟨rfl, rfl⟩
  · have h1 : (n : Int) < off := by omega
    have h2 : 0 ≤ off := by omega
    have hd : decide (off ≤ (n : Int)) = false := by simpa using h1
    clear h h0
    go_enter Try.func36, Try.ntmps36
    go_wp2
    go_ret
    exact ⟨rfl, rfl⟩

theorem ret2_eq {k1 k2 : IntKind} {a b a' b' : Int} (h1 : a = a') (h2 : b = b') :
    Ending.returned (.tuple #[.int k1 a, .int k2 b]) = .returned (.tuple #[.int k1 a', .int k2 b']) := by rw [h1, h2]

def ReadRel (l : List UInt8) (o s : Nat) (n i : Value) : Prop :=
  ∃ k x : Nat, k ≤ s ∧ i = .int .i64 k ∧ n = .int .u64 x ∧ x = le ((l.drop o).take k)

end Go.Proofs.Ytcpdgkjelghlnaa
