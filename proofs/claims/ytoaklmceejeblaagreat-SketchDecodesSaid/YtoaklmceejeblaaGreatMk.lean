/-
  Shaken: what the claims of this seat need of this text. No condition.
-/
import Derived.Test.YtoaklmceejeblaaGreatProg
import Derived.Test.YtoaklmceejeblaaGreatM1
import Derived.Laws.CopyOwn
namespace Go.Proofs.YtoaklmceejeblaaGreat
set_option maxRecDepth 8000
open Go.RowKit
theorem run_make_oneM {P : Program} (t e : TypeId) (z : Value) (bytes : Nat) (ht : P.underlying t = some (.slice e)) (hinfo : (P.info? e).map (fun i => (i.zero, i.size, i.bytes)) = some (some z, 1, bytes)) (hz : z.cells = #[z])
    (s : Nat) (hs : s ≤ 281474976710656) (hb : bytes * s ≤ 281474976710656) (W : World) :
    (Instr.makeSlice t (.int .i64 (s : Int)) (.int .i64 (s : Int))).run P W = .ok (.slice (some ⟨W.heap.size, 0, none⟩) s s) (W.alloc (.cells (List.replicate s z).toArray e)) := by
  obtain ⟨i0, hi, hz0, hz1, hz2⟩ := info_parts hinfo
  have hbs : (i0.bytes : Int) * (s : Int) ≤ 281474976710656 := by
    rw [hz2]
    have : ((bytes * s : Nat) : Int) ≤ 281474976710656 := by omega
    rwa [Int.natCast_mul] at this
  have h := run_make (P := P) W t e i0 z ht hi hz0 .i64 .i64 (s : Int) (s : Int) (by omega) (by omega) hbs (by omega)
  rw [hz1, hz] at h
  have e1 : madeCells #[z] s = (List.replicate s z).toArray := by
    apply Array.toList_inj.1
    rw [toList_madeCells_one]
  simpa [e1] using h
end Go.Proofs.YtoaklmceejeblaaGreat
