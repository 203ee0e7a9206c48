/-
  Texts that the claims of this seat share, put together (Bp1, Bp2, Zig). No condition.
-/
import Derived.Test.YthmipnokimlbdaaGreatProg
import Derived.Test.YthmipnokimlbdaaGreatM1
import Derived.OwnWalk
import Derived.WalkKit
/-
  Shaken: what the claims of this seat need of this text. No condition.
-/
namespace Go.Proofs.YthmipnokimlbdaaGreat
set_option maxRecDepth 8000
open Go.RowKit
set_option linter.unusedVariables false
set_option linter.unusedSimpArgs false
def okB (n w : Int) : Bool := decide (0 ≤ n) && decide (n ≤ 1048576) && decide (0 ≤ w) && decide (w ≤ 64)
theorem okB_true {n m : Int} (h : okB n m = true) : (0 ≤ n ∧ n ≤ 1048576) ∧ 0 ≤ m ∧ m ≤ 64 := by
  unfold okB at h
  simp at h
  omega
def sizeI (n m : Int) : Int := if okB n m then ((szB n.toNat m.toNat : Nat) : Int) else 0
end Go.Proofs.YthmipnokimlbdaaGreat
/-
  Shaken: what the claims of this seat need of this text. No condition.
-/
namespace Go.Proofs.YthmipnokimlbdaaGreat
set_option maxRecDepth 8000
open Go.RowKit
set_option linter.unusedVariables false
set_option linter.unusedSimpArgs false
theorem byte_at {w : World} {A : Option Addr} {c : Nat} {l : List UInt8} (h : IsBytes w (.slice A l.length c) l) {o : Nat} (ho : o < l.length) : ∃ b f, A = some ⟨b, f, none⟩ ∧ w.cell? ⟨b, f + o, none⟩ = some (.int .u8 ((l.getD o 0).toNat : Int)) := by
  obtain ⟨A', c', he, hc⟩ := h
  injection he with e1 e2 e3
  subst e1
  obtain ⟨b, f, rfl, hcell⟩ := hc (by omega)
  refine ⟨b, f, rfl, ?_⟩
  rw [hcell o ho, List.getD_eq_getElem?_getD, List.getElem?_eq_getElem ho]
  rfl
def atB (b : List UInt8) (i m : Int) : Nat := if (1 ≤ m ∧ m ≤ 64) ∧ 0 ≤ i ∧ i < 8 * (b.length : Int) / m then numB b m.toNat i.toNat else 0
end Go.Proofs.YthmipnokimlbdaaGreat
/-
  Shaken: what the claims of this seat need of this text. No condition.
-/
namespace Go.Proofs.YthmipnokimlbdaaGreat
set_option maxRecDepth 8000
open Go.RowKit
def zz (n : Int) : Int := if n < 0 then -2 * n - 1 else 2 * n
def uz (u : Int) : Int := if u % 2 = 1 then -1 - u / 2 else u / 2
theorem zz_bd (n : Int) (h0 : -9223372036854775808 ≤ n) (h1 : n < 9223372036854775808) : 0 ≤ zz n ∧ zz n < 18446744073709551616 := by unfold zz; split <;> omega
theorem uz_bd (u : Int) (h0 : 0 ≤ u) (h1 : u < 18446744073709551616) : -9223372036854775808 ≤ uz u ∧ uz u < 9223372036854775808 := by unfold uz; split <;> omega
theorem uz_zz (n : Int) : uz (zz n) = n := by unfold uz zz; split <;> split <;> omega
theorem zz_uz (u : Int) (h0 : 0 ≤ u) : zz (uz u) = u := by unfold uz zz; split <;> split <;> omega
theorem ret_eq {k : IntKind} {a b : Int} (h : a = b) : Ending.returned (.int k a) = .returned (.int k b) := by rw [h]
theorem shl1_neg (n : Int) (h0 : -9223372036854775808 ≤ n) (h1 : n < 0) : IntKind.u64.wrap (IntKind.u64.wrap n * 2) = 18446744073709551616 + 2 * n := by
  rw [IntKind.wrap_u64, IntKind.wrap_u64]; omega
theorem zigzag_any (n : Int) (w : World) (h0 : -9223372036854775808 ≤ n) (h1 : n < 9223372036854775808) :
    Calls Tryz.prog 150 #[.int .i64 n] w fun e w' => e = .returned (.int .u64 (zz n)) ∧ w = w' := by
  by_cases hn : n < 0
  · have e1 := hidden (shl1_neg n h0 hn)
    have ez : Hid (zz n = -2 * n - 1) := by unfold zz; rw [if_pos hn]; exact rfl
    go_enter Tryz.func150, Tryz.ntmps150
    go_wp2
    go_ret
    refine ⟨ret_eq ?_, rfl⟩
    have e2 := e1.out
    rw [ez.out, e2, not_u64 _ (by omega) (by omega)]
    omega
  · have hn' : 0 ≤ n := by omega
    have ez : Hid (zz n = 2 * n) := by unfold zz; rw [if_neg hn]; exact rfl
    go_enter Tryz.func150, Tryz.ntmps150
    go_wp2
    go_ret
    refine ⟨ret_eq ?_, rfl⟩
    rw [ez.out]
    omega
theorem unzigzag_any (u : Int) (w : World) (h0 : 0 ≤ u) (h1 : u < 18446744073709551616) :
    Calls Tryz.prog 198 #[.int .u64 u] w fun e w' => e = .returned (.int .i64 (uz u)) ∧ w = w' := by
  have ea := and1_u64 u h0 h1
  have en := not_i64 (u / 2) (by omega) (by omega)
  by_cases hn : u % 2 = 1
  · have ez : Hid (uz u = -1 - u / 2) := by unfold uz; rw [if_pos hn]; exact rfl
    have ht : (bits .and .u64 u 1 == 1) = true := by rw [ea, hn]; rfl
    have eh := hidden en
    clear ea en hn
    go_enter Tryz.func198, Tryz.ntmps198
    go_wp2
    go_ret
    refine ⟨ret_eq ?_, rfl⟩
    rw [ez.out, eh.out]
  · have ez : Hid (uz u = u / 2) := by unfold uz; rw [if_neg hn]; exact rfl
    have ht : (bits .and .u64 u 1 == 1) = false := by rw [ea]; simpa using hn
    clear ea en hn
    go_enter Tryz.func198, Tryz.ntmps198
    go_wp2
    go_ret
    refine ⟨ret_eq ?_, rfl⟩
    rw [ez.out]
end Go.Proofs.YthmipnokimlbdaaGreat
