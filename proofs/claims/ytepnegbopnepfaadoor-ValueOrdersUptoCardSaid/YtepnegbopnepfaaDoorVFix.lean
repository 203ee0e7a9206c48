/-
  varint.Fixed returns an own slice that reads as 'fixs': for all arguments; nothing that was there is changed.
-/
import Derived.Test.YtepnegbopnepfaaDoorProg
import Derived.Test.YtepnegbopnepfaaDoorWords
import Derived.Test.YtepnegbopnepfaaDoorFixNum
import Derived.WalkKit
import Derived.Outline
import Derived.OwnWalk
namespace Go.Proofs.YtepnegbopnepfaaDoor
open Go.RowKit

theorem info_u8 : (Tryd.prog.info? 5).map (fun i => (i.zero, i.size, i.bytes)) = some (some (.int .u8 0), 1, 1) := by kernel_rfl

def Made (l : List UInt8) (w : World) (e : Ending) (w' : World) : Prop :=
  ∃ v, e = .returned v ∧ w'.ownsRow w.heap.size 5 1 v l.length (bcells l) ∧ Below w.heap.size w w'

theorem validSize_t (n : Int) (w : World) (h0 : 1 ≤ n) (h1 : n ≤ 8) : Calls Tryd.prog 58 #[.int .i64 n] w fun e w' => e = .returned (.bool true) ∧ w = w' := by
  go_enter Tryd.func58, Tryd.ntmps58
  go_wp2
  go_ret
  exact ⟨rfl, rfl⟩
theorem validSize_f (n : Int) (w : World) (h : n < 1 ∨ 8 < n) : Calls Tryd.prog 58 #[.int .i64 n] w fun e w' => e = .returned (.bool false) ∧ w = w' := by
  by_cases h0 : n < 1
  · clear h
    go_enter Tryd.func58, Tryd.ntmps58
    go_wp2
    go_ret
    exact ⟨rfl, rfl⟩
  · have h1 : 8 < n := by omega
    have h2 : 1 ≤ n := by omega
    have hd : decide (n ≤ 8) = false := by simpa using h1
    clear h h0
    go_enter Tryd.func58, Tryd.ntmps58
    go_wp2
    go_ret
    exact ⟨rfl, rfl⟩

theorem Made.nil_ {w : World} : Made [] w (.returned (.slice none 0 0)) w := ⟨_, rfl, World.ownsRow_nil _ _ _ _, Below.refl _ _⟩

def FixRel (w : World) (n s : Nat) (i : Value) (wr : World) : Prop :=
  ∃ k : Nat, k ≤ s ∧ i = .int .i64 k ∧ Row wr w.heap.size 5 (fixRow n s k) ∧ Below w.heap.size w wr

set_option maxHeartbeats 400000 in
theorem fixed_any (x size : Int) (w : World) (h0 : 0 ≤ x) (h1 : x ≤ 18446744073709551615) :
    Calls Tryd.prog 46 #[.int .u64 x, .int .i64 size] w (Made (fixs x.toNat size) w) := by
  by_cases hs : size < 1 ∨ 8 < size
  · rw [fixs_bad hs]
    go_enter Tryd.func46, Tryd.ntmps46
    go_wp2_with ((go_at_call 58; refine (validSize_f _ _ hs).mono ?_; rintro e w' ⟨rfl, rfl⟩))
    go_ret
    exact Made.nil_
  · obtain ⟨n, rfl⟩ := Int.eq_ofNat_of_zero_le h0
    obtain ⟨s, rfl⟩ := Int.eq_ofNat_of_zero_le (show 0 ≤ size by omega)
    have hs1 : 1 ≤ s := by omega
    have hs8 : s ≤ 8 := by omega
    clear hs
    rw [fixs_ok hs1 hs8, Int.toNat_natCast]
    have hmk := run_make_bytes (P := Tryd.prog) 25 5 Tryd.underlying25 info_u8 s (by omega)
    have hz := hidden (fixRow_zero n s)
    go_enter Tryd.func46, Tryd.ntmps46
    go_wp2_with ((go_at_call 58; refine (validSize_t _ _ (by omega) (by omega)).mono ?_; rintro e w' ⟨rfl, rfl⟩))
    clear hmk
    go_loopw [13] (fun i wr => FixRel w n s i wr) (fun i _ => s - (intOf i).toNat)
    case atStart => exact ⟨0, by omega, rfl, Row.new _ _ _ _ hz.out, (Below.refl _ _).alloc (Nat.le_refl _) _⟩
    case round =>
      obtain ⟨k, hk, rfl, hrow, hnx⟩ := hrel
      by_cases hlt : k < s
      · have hcell := hrow.cell k
        rw [fixRow_get hlt, if_neg (by omega)] at hcell
        have hfr := hrow.frozen k
        have hor := hidden (fix_byte n k)
        go_wp2
        go_roundw
        case rel =>
          refine ⟨k + 1, by omega, by go_num, ?_, hnx.setCell (Nat.le_refl _) _⟩
          have h1 := hrow.set_ k (.int .u8 ((n / 256 ^ k % 256 : Nat) : Int))
          rw [fixRow_set hlt, ← hor.out] at h1
          exact h1
        case measure => simp [intOf]; omega
      · have hke : k = s := by omega
        have hrow' : Row wr w.heap.size 5 (bcells (fixb n s)) := by have h := hrow; rw [hke, fixRow_done] at h; exact h
        have h2 := hrow'.own (base := w.heap.size) (Nat.le_refl _) (by rw [bcells_length, fixb_length]; unfold maxLen; omega)
        have HO := hidden h2
        have HF := hidden (fixb_length n s)
        clear hke hrow h2 hrow'
        go_wp2
        go_ret
        have h3 := HO.out
        rw [bcells_length] at h3
        refine ⟨_, ?_, h3, hnx⟩
        rw [HF.out]; rfl

end Go.Proofs.YtepnegbopnepfaaDoor
