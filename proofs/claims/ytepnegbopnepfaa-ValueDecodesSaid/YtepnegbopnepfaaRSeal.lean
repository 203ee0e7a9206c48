/-
  The reference's Seal and Open return 'sealOf' and 'openOf': for every byte slice of up to 2^46 bytes; nothing that was there is changed.
-/
import Derived.Test.YtepnegbopnepfaaRCrc
import Derived.Test.YtepnegbopnepfaaHashNum
import Derived.OwnWalk
namespace Go.Proofs.Ytepnegbopnepfaa
open Go.RowKit

theorem info8 : (Try.prog.info? 5).map (fun i => (i.zero, i.size, i.bytes)) = some (some (.int .u8 0), 1, 1) := by kernel_rfl
def MadeB (l : List UInt8) (w : World) (e : Ending) (w' : World) : Prop :=
  ∃ v, e = .returned v ∧ w'.ownsRow w.heap.size 5 1 v l.length (bcells l) ∧ Below w.heap.size w w'

def RSealRel (w : World) (l : List UInt8) (out i : Value) (wr : World) : Prop :=
  ∃ k : Nat, k ≤ 4 ∧ i = .int .i64 k ∧ wr.ownsRow w.heap.size 5 1 out (l ++ fixb (crcOf 0 l) k).length (bcells (l ++ fixb (crcOf 0 l) k)) ∧ Below w.heap.size w wr

theorem IsBytes.cut {w : World} {A : Option Addr} {n c : Nat} {l : List UInt8} (h : IsBytes w (.slice A n c) l) {k : Nat} (hk : k ≤ l.length) (c' : Nat) : IsBytes w (.slice A k c') (l.take k) := by
  obtain ⟨A', c0, hA, hc⟩ := h
  injection hA with e1 e2 e3
  subst e1
  have hl : (l.take k).length = k := by rw [List.length_take]; omega
  refine ⟨A, c', by rw [hl], fun hp => ?_⟩
  rw [hl] at hp
  obtain ⟨b, off, rfl, hcell⟩ := hc (by omega)
  refine ⟨b, off, rfl, fun j hj => ?_⟩
  rw [hl] at hj
  rw [hcell j (by omega)]
  simp

/-- a slice and an error -/
def MadeE (r : List UInt8 × Nat) (w : World) (e : Ending) (w' : World) : Prop :=
  ∃ v, e = .returned (.tuple #[v, .int .i64 (r.2 : Int)]) ∧ w'.ownsRow w.heap.size 5 1 v r.1.length (bcells r.1) ∧ Below w.heap.size w w'

def ROpenRel (l : List UInt8) (n c : Nat) (i : Value) : Prop := ∃ k : Nat, k ≤ 4 ∧ i = .int .i64 k ∧ (l.drop n).take k = fixb c k

end Go.Proofs.Ytepnegbopnepfaa
