/-
  Shaken: what the claims of this seat need of this text. No condition.
-/
import Derived.Test.YtoaklmceejeblaaGreatBp3
import Derived.Sort.WalkA
namespace Go.Proofs.YtoaklmceejeblaaGreat
open Go.RowKit
set_option linter.unusedVariables false
set_option linter.unusedSimpArgs false
theorem unan_any (x : Int) (w : World) : Calls Tryz.prog 158 #[.int .u64 x] w fun e w' => e = .returned (.bool false) ∧ w' = w := by
  go_enter Tryz.func158, Tryz.ntmps158
  go_wp2
  go_ret
  exact ⟨by simp, rfl⟩
theorem uless_any (x y : Int) (w : World) : Calls Tryz.prog 176 #[.int .u64 x, .int .u64 y] w fun e w' => e = .returned (.bool (Go.Sort.ltInt x y)) ∧ w' = w := by
  go_enter Tryz.func176, Tryz.ntmps176
  go_wp2_with (go_at_call 158; refine (unan_any _ _).mono ?_; rintro e w' ⟨rfl, rfl⟩)
  go_ret
  exact ⟨rfl, rfl⟩
theorem urow_cells {w : World} {blk off m : Nat} {d dj : Array Int} (hH : Go.Sort.Holds (Value.int .u64) w blk off d) (hs : dj.size = d.size) {W : World} (hW : W = Go.Sort.putRow (Value.int .u64) (Go.Sort.ahead w m) blk off dj) :
    (∀ t, t < d.size → W.cell? ⟨blk, off + t, none⟩ = some (.int .u64 dj[t]!)) ∧ (∀ t, t < d.size → W.frozen? ⟨blk, off + t, none⟩ = false) := by
  subst hW
  refine ⟨fun t ht => Go.Sort.cell?_putRow _ _ _ _ d dj (Go.Sort.holds_ahead _ _ _ _ _ _ hH) hs t (by omega), fun t ht => ?_⟩
  rw [Go.Sort.frozen?_putRow]
  exact ((Go.Sort.holds_ahead _ _ m _ _ _ hH) t ht).2
def UOut (w : World) (blk off a b : Nat) (d : Array Int) (vi : Value) (wr : World) : Prop :=
  ∃ (i n : Nat) (dk : Array Int), vi = .int .i64 (i : Int) ∧ a < i ∧ i ≤ b + 1 ∧ dk.size = d.size ∧ wr = Go.Sort.putRow (Value.int .u64) (Go.Sort.ahead w n) blk off dk ∧ Go.Sort.insOuter Go.Sort.ltInt a b i dk = Go.Sort.insertionSort Go.Sort.ltInt d a b
def UInn (w : World) (blk off a i : Nat) (d : Array Int) (R : Array Int) (vj : Value) (wr : World) : Prop :=
  ∃ (j m : Nat) (dj : Array Int), vj = .int .i64 (j : Int) ∧ a ≤ j ∧ j ≤ i ∧ dj.size = d.size ∧ wr = Go.Sort.putRow (Value.int .u64) (Go.Sort.ahead w m) blk off dj ∧ Go.Sort.insInner Go.Sort.ltInt a j dj = R
set_option maxHeartbeats 16000000 in
set_option maxRecDepth 1000000 in
theorem uins_any (blk off cap a b : Nat) (d : Array Int) (w : World) (hH : Go.Sort.Holds (Value.int .u64) w blk off d) (hab : a ≤ b) (hb : b ≤ d.size) (hsz : d.size < 4611686018427387904) :
    Calls Tryz.prog 170 #[.slice (some ⟨blk, off, none⟩) d.size cap, .int .i64 (a : Int), .int .i64 (b : Int)] w fun e w' =>
      e = .returned (.tuple #[]) ∧ ∃ n, w' = Go.Sort.putRow (Value.int .u64) (Go.Sort.ahead w n) blk off (Go.Sort.insertionSort Go.Sort.ltInt d a b) := by
  have HH := hidden hH
  have HFIN := hidden (fun i dk (h : ¬ i < b) => insOuter_stop Go.Sort.ltInt a b i dk h)
  go_enter Tryz.func170, Tryz.ntmps170
  go_wp2
  go_loopw [6] (fun vi wr => UOut w blk off a b d vi wr) (fun vi _ => b + 1 - (intOf vi).toNat)
  case atStart => exact ⟨a + 1, 0, d, by go_num, by omega, by omega, rfl, (Go.Sort.putRow_self _ _ _ _ _ hH).symm, rfl⟩
  case round =>
    obtain ⟨i, n, dk, rfl, hai, hib, hsk, hwr, hO⟩ := hrel
    have HO := hidden hO
    have HW0 := hidden hwr
    clear hO hwr hH
    go_wp2
    · have hlt : i < b := by assumption
      go_loopw [7] (fun vj wr => UInn w blk off a i d (Go.Sort.insInner Go.Sort.ltInt a i dk) vj wr) (fun vj _ => (intOf vj).toNat)
      case atStart => exact ⟨i, n, dk, rfl, by omega, Nat.le_refl _, hsk, HW0.out, rfl⟩
      case round =>
        obtain ⟨j, m, dj, rfl, haj, hji, hsj, hw2, hI⟩ := hrel
        have HI := hidden hI
        have HW := hidden hw2
        obtain ⟨hcw0, hfw⟩ := urow_cells HH.out hsj hw2
        obtain ⟨G, hG⟩ : ∃ G : Nat → Int, ∀ t, G t = dj[t]! := ⟨fun t => dj[t]!, fun _ => rfl⟩
        have hcw : ∀ t, t < d.size → wr.cell? ⟨blk, off + t, none⟩ = some (.int .u64 (G t)) := fun t ht => by rw [hG]; exact hcw0 t ht
        have HG := hidden hG
        have HEND := hidden (show (j ≤ a ∨ Go.Sort.ltInt (G j) (G (j - 1)) = false) → ∀ q, UOut w blk off a b d (.int .i64 ((i : Int) + 1)) (wr.drewN q) from fun hs q =>
          ⟨i + 1, m + q, dj, by go_num, by omega, by omega, hsj, by rw [HW.out]; exact putRow_drewN _ _ _ _ _ _ _, by
            rw [← HO.out, insOuter_go _ _ _ _ _ hlt, ← HI.out, insInner_stop _ _ _ _ (by rw [← HG.out, ← HG.out]; exact hs)]⟩)
        clear hI hw2 hG hcw0
        go_wp2
        by_cases hja : a < j
        · go_quiet (first | (go_at_call 176; refine Calls.quiet_of_same (uless_any _ _ _)))
          go_wp2
          · have hl : Go.Sort.ltInt (G j) (G (j - 1)) = true := by assumption
            go_region
            all_goals go_wp2
            go_roundw
            case rel =>
              refine ⟨j - 1, m + (nq + 1), Go.Sort.swp dj j (j - 1), by congr 1; omega, by omega, by omega, by rw [Go.Sort.size_swp]; exact hsj, ?_, ?_⟩
              · rw [HW.out, HG.out, HG.out]
                exact swap_worldA _ w m (nq + 1) blk off dj j (j - 1) (by omega) (by omega)
              · rw [← HI.out, insInner_go Go.Sort.ltInt a j dj hja (by rw [← HG.out, ← HG.out]; exact hl)]
            case measure => simp [intOf]; omega
          · have hl : Go.Sort.ltInt (G j) (G (j - 1)) = false := by assumption
            go_roundw
            case rel => exact HEND.out (.inr hl) nq
            case measure => simp [intOf]; omega
        · go_quiet (first | (go_at_call 176; refine Calls.quiet_of_same (uless_any _ _ _)))
          go_wp2
          go_roundw
          case rel => exact HEND.out (.inl (by omega)) nq
          case measure => simp [intOf]; omega
    · have hge : ¬ i < b := by assumption
      go_end0
      exact ⟨rfl, n, by rw [← HO.out, HFIN.out i dk hge]; exact HW0.out⟩
end Go.Proofs.YtoaklmceejeblaaGreat
