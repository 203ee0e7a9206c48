/-
  Shaken: what the claims of this seat need of this text. No condition.
-/
import Derived.Test.YtoaklmceejeblaaGreatM4
import Derived.StillTailTactics
namespace Go.Proofs.YtoaklmceejeblaaGreat
set_option maxRecDepth 8000
open Go.RowKit
set_option linter.unusedVariables false
set_option linter.unusedSimpArgs false
theorem Row.other {w : World} {g : Nat} {e : TypeId} {xs : List Value} (h : Row w g e xs) {a : Addr} (ha : a.block ≠ g) (u : Value) : Row (w.setCell a u) g e xs := by
  unfold Row at h ⊢
  rw [Below.heap_setCell _ _ _ _ (Ne.symm ha)]
  exact h
theorem bcells_set (l : List UInt8) (j : Nat) (c : UInt8) : (bcells l).set j (.int .u8 (c.toNat : Int)) = bcells (l.set j c) := by simp [bcells, List.map_set]
structure PackSt (w : World) (bw bp bb g : Nat) (l : List Nat) (m p : Nat) : Prop where
  wid : Row w bw 3 [.int .i64 (m : Int)]
  pos : Row w bp 3 [.int .i64 (p : Int)]
  ptr : Row w bb 45 [.slice (some ⟨g, 0, none⟩) (szB l.length m) (szB l.length m)]
  row : Row w g 5 (bcells (partB l m p))
structure Apart (B bw bp bb g : Nat) : Prop where
  lp : B ≤ bp
  lg : B ≤ g
  wp : bp ≠ bw
  pb : bp ≠ bb
  gp : bp ≠ g
  gw : g ≠ bw
  gb : g ≠ bb
theorem PackSt.put {w : World} {B bw bp bb g : Nat} {l : List Nat} {m p c q k : Nat} {x : UInt8} (h : PackSt w bw bp bb g l m p) (ha : Apart B bw bp bb g) (hx : (partB l m p).set k x = partB l m (p + c)) (hq : q = p + c) :
    PackSt ((w.setCell ⟨g, k, none⟩ (.int .u8 (x.toNat : Int))).setCell ⟨bp, 0, none⟩ (.int .i64 (q : Int))) bw bp bb g l m q := by
  subst hq
  have h4 := h.row.set_ k (.int .u8 (x.toNat : Int))
  rw [bcells_set, hx] at h4
  exact ⟨(h.wid.other ha.gw _).other ha.wp _, (h.pos.other ha.gp.symm _).set_ 0 _, (h.ptr.other ha.gb _).other ha.pb _, h4.other ha.gp _⟩
end Go.Proofs.YtoaklmceejeblaaGreat
