/-
  Shaken: what the claims of this seat need of this text. No condition.
-/
import Derived.Test.YtgegjoggiadgbaaM6
import Derived.Test.YtgegjoggiadgbaaM2
namespace Go.Proofs.Ytgegjoggiadgbaa
set_option maxRecDepth 8000
open Go.RowKit
def CatRel1 (ls : List (List UInt8)) (n i : Value) : Prop := ∃ k : Nat, k ≤ ls.length ∧ i = .int .i64 k ∧ n = .int .i64 (total (ls.take k) : Int)
def CatRel2 (w : World) (ls : List (List UInt8)) (all i : Value) (wr : World) : Prop :=
  ∃ k : Nat, k ≤ ls.length ∧ i = .int .i64 k ∧ wr.ownsRow w.heap.size 5 1 all (ls.take k).flatten.length (bcells (ls.take k).flatten) ∧ Below w.heap.size w wr
set_option maxHeartbeats 400000 in
theorem concat_any (v : Value) (ls : List (List UInt8)) (w : World) (hv : IsParts w v ls) (hl : ls.length ≤ maxLen) (ht : total ls ≤ 140737488355328) :
    Calls Try.prog 44 #[v] w (Made ls.flatten w) := by
  have hv0 := hv
  obtain ⟨A, c, rfl, hc⟩ := hv
  have HV := hidden hv0
  have HC := hidden hc
  clear hc hv0
  unfold maxLen at hl
  obtain ⟨i0, hi, hz0, hz1, hz2⟩ := info_parts info_u8
  have Hi := hidden hi
  have Hz0 := hidden hz0
  have Hz1 := hidden hz1
  have Hz2 := hidden hz2
  clear hi hz0 hz1 hz2
  go_enter Try.func44, Try.ntmps44
  go_wp2
  go_loop [3, 11] (CatRel1 ls) (fun _ i => ls.length - (intOf i).toNat)
  case atStart => exact ⟨0, by omega, rfl, rfl⟩
  case round =>
    obtain ⟨k, hk, rfl, rfl⟩ := hrel
    by_cases hlt : k < ls.length
    · obtain ⟨b, off, rfl, hcell⟩ := HC.out (by omega)
      obtain ⟨B, d, hcl, _⟩ := hcell k hlt
      have HT := hidden (total_take hlt)
      have hb1 := total_le ls k
      have hb2 := total_le ls (k + 1)
      have hb3 : total (ls.take k) + ls[k].length ≤ 140737488355328 := by rw [← HT.out]; omega
      clear hcell
      generalize hlk : ls[k].length = m at *
      clear hlk
      go_wp2
      go_round
      case rel => exact ⟨k + 1, by omega, by go_num, by rw [HT.out]; go_num⟩
      case measure => simp [intOf]; omega
    · have hke : k = ls.length := by omega
      subst hke
      have htk : total (ls.take ls.length) = total ls := by rw [List.take_length]
      rw [htk]
      clear hk hlt htk
      have hbb : i0.bytes * total ls ≤ 281474976710656 := by rw [Hz2.out]; omega
      have hml : total ls ≤ maxLen := by unfold maxLen; omega
      go_wp2_with ((at_make; refine wpList_make_own _ rfl _ (.tmp 20) 43 rfl w.heap.size 5 i0 (.int .u8 0) 1 Try.underlying43 Hi.out Hz0.out Hz1.out .i64 .i64 _ (total ls) (by rfl) (by rfl) rfl hbb hml (Nat.le_refl _) ?_; intro w1 hown1 hg1))
      have hb1 : Below w.heap.size w w1 := (Below.refl _ _).grown hg1 (Nat.le_refl _) (fun _ h => by cases h)
      have HB1 := hidden hb1
      have HO1 := hidden hown1
      clear hb1 hown1 hg1
      go_loopw [6, 24] (fun all i wr => CatRel2 w ls all i wr) (fun _ i _ => ls.length - (intOf i).toNat)
      case atStart => exact ⟨0, by omega, rfl, by simpa [bcells] using HO1.out, HB1.out⟩
      case round =>
        obtain ⟨k, hk, rfl, hown, hnx⟩ := hrel
        by_cases hlt : k < ls.length
        · obtain ⟨A', c', hA', hc'⟩ := (HV.out.grow (show Grows w wr from hnx))
          injection hA' with e1 e2 e3
          subst e1 e3
          obtain ⟨b, off, rfl, hcell⟩ := hc' (by omega)
          obtain ⟨B, d, hcl, hby⟩ := hcell k hlt
          have HT := hidden (flatten_take hlt)
          have hpl := part_le' hlt
          have hsz : (ls.take k).flatten.length + ls[k].length ≤ 140737488355328 := by omega
          clear hcell hc' e2
          have HBY := hidden hby
          clear hby
          go_wp2_with ((at_builtin; refine wpList_append_bytes (w := w) (wr := wr) rfl _ _ 43 rfl 5 Try.underlying43 info_u8 _ (ls.take k).flatten (by rfl) hown hnx _ ls[k] (by rfl) HBY.out hsz ?_; intro v' w2 hown2 hnx2))
          go_roundw
          case rel =>
            refine ⟨k + 1, by omega, by go_num, ?_, hnx2⟩
            rw [HT.out]; exact hown2
          case measure => simp [intOf]; omega
        · have hke : k = ls.length := by omega
          have hfl : (ls.take k).flatten = ls.flatten := by rw [hke, List.take_length]
          rw [hfl] at hown
          have HO := hidden hown
          clear hown hfl hke
          go_wp2
          go_ret
          exact ⟨_, rfl, HO.out, hnx⟩
end Go.Proofs.Ytgegjoggiadgbaa
