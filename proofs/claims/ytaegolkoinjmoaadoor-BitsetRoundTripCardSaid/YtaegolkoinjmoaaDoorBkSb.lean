/-
  setBits and the value that it hands back: the positions of the ones of x, in their order; each round keeps what lies in block 0 (the table of math/bits).
-/
import Derived.Test.YtaegolkoinjmoaaDoorBkN
import Derived.Test.YtaegolkoinjmoaaDoorIter
namespace Go.Proofs.YtaegolkoinjmoaaDoor
open Go.RowKit Go.Shelf
attribute [local go_sem] Oper.semAt_some

theorem setBits_any (x : UInt64) (w : World) :
    Calls Tryd.prog 69 #[.int .u64 (x.toNat : Int)] w fun e w' => e = .returned (.func (.func 74) #[] #[.pointer (some ⟨w.heap.size, 0, none⟩)]) ∧ w' = w.alloc (.cells #[.int .u64 (x.toNat : Int)] 54) := by
  generalize x.toNat = c at *
  go_enter Tryd.func69, Tryd.ntmps69
  go_wp2
  go_ret
  exact ⟨rfl, rfl⟩

theorem Tab.below {w w' : World} (h : Tab w) (hb : Below 1 w w') : Tab w' := fun j hj => (hb.cell (p := ⟨0, j, none⟩) (by simp)).trans (h j hj)
def SbRel (x : UInt64) (J : List Nat → World → Prop) (r : Value) (wr : World) : Prop := ∃ k : Nat, k ≤ (ones x).length ∧ r = .int .u64 ((dropN x k).toNat : Int) ∧ J ((ones x).take k) wr ∧ Tab wr
def sbLeft (r : Value) : Nat := (ones (UInt64.ofNat (intOf r).toNat)).length
theorem sbLeft_at (x : UInt64) (k : Nat) : sbLeft (.int .u64 ((dropN x k).toNat : Int)) = (ones x).length - k := by
  unfold sbLeft
  have : (UInt64.ofNat (intOf (Value.int .u64 ((dropN x k).toNat : Int))).toNat) = dropN x k := by simp [intOf]
  rw [this, ones_dropN, List.length_drop]

set_option maxRecDepth 100000 in
set_option maxHeartbeats 1000000 in
theorem setBits1_in (n l bx : Nat) (x : UInt64) (J Jx : List Nat → World → Prop)
    (hY : ∀ (pre : List Nat) (j : Nat) W, j < 64 → J pre W → pre.length < 64 → YieldAt Fence.wide (n - 1) Tryd.prog l #[.int .i64 (j : Int)] W fun e W' =>
      (e = .returned (.bool true) ∧ J (pre ++ [j]) W' ∧ Below 1 W W') ∨ (e = .returned (.bool false) ∧ Jx (pre ++ [j]) W'))
    (W : World) (hx : W.cell? ⟨bx, 0, none⟩ = some (.int .u64 (x.toNat : Int))) (hT : Tab W) (h0 : J [] W) :
    CallsIn Fence.wide n Tryd.prog 74 #[.func (.yield l) #[] #[], .pointer (some ⟨bx, 0, none⟩)] W fun e W' => (∃ v, e = .returned v) ∧
      ((∃ ys, ys = ones x ∧ J ys W') ∨ (∃ pre, pre <+: ones x ∧ Jx pre W')) := by
  refine callsIn_of_wp Tryd.func74 rfl trivial ?_ rfl
  simp only [Tryd.ntmps74, List.size_toArray, List.length_cons, List.length_nil, Nat.reduceAdd, Nat.reduceSub, Array.replicate_succ, Array.replicate_zero, List.push_toArray, List.append_toArray, List.nil_append, List.cons_append]
  gi_wp2
  gi_loopw [3] (fun r wr => SbRel x J r wr) (fun r _ => sbLeft r)
  case atStart => exact ⟨0, Nat.zero_le _, rfl, h0, hT⟩
  case round =>
    obtain ⟨k, hk, rfl, hJ, hT1⟩ := hrel
    have HM := hidden (sbLeft_at x k)
    by_cases hlt : k < (ones x).length
    · obtain ⟨hne, hat⟩ := ones_at hlt
      have HJ := hidden hJ
      have HT := hidden hT1
      have hn0 : ((dropN x k).toNat : Int) ≠ 0 := fun e => hne (UInt64.toNat_inj.1 (by simpa using e))
      have hd : (((dropN x k).toNat : Int) != 0) = true := by simpa using hn0
      have HD := hidden (go_drop_any (dropN x k))
      have HM2 := hidden (sbLeft_at x (k + 1))
      have hTZ := hidden (tz_any (dropN x k) wr hT1)
      have hlen : ((ones x).take k).length < 64 := by rw [List.length_take]; have := ones_length_le x; omega
      have htk : (ones x).take k ++ [lowest (dropN x k)] = (ones x).take (k + 1) := by rw [hat, List.take_succ_eq_append_getElem hlt]
      obtain ⟨fn, tmps, assign, body, hy, hR⟩ := hY _ (lowest (dropN x k)) wr (low_parts hne).1 hJ hlen
      rw [htk] at hR
      have HR := hidden hR
      have HDN := hidden (show dropN x (k + 1) = dropLow (dropN x k) from rfl)
      clear hJ hT1 hR hne hat htk hn0 hlen
      generalize dropN x k = y at *
      gi_wp2_with fail
      refine ⟨trivial, (fun h => by cases h), (callsIn_wide.2 hTZ.out).mono ?_⟩
      rintro e w1 ⟨rfl, rfl⟩
      gi_wp2
      refine ⟨(fun h => by cases h), HR.out.mono ?_⟩
      rintro e W3 (⟨rfl, hJ3, hk3⟩ | ⟨rfl, hJx3⟩)
      · gi_wp2
        go_roundw
        case rel => exact ⟨k + 1, hlt, by rw [HDN.out, HD.out], hJ3, HT.out.below hk3⟩
        case measure =>
          have h1 := HM.out
          have h2 := HM2.out
          rw [HDN.out, ← HD.out] at h2
          simp at h1 h2 ⊢
          omega
      · gi_wp2
        refine bodyPost_ret (results_none rfl _ _ _) rfl ?_
        exact ⟨⟨_, rfl⟩, .inr ⟨_, List.take_prefix _ _, hJx3⟩⟩
    · have hke : k = (ones x).length := by omega
      have hz : (dropN x k).toNat = 0 := by
        have h0 : dropN x k = 0 := ones_nil (by rw [ones_dropN, hke, List.drop_length])
        rw [h0]; rfl
      have HJ : Hid (J (ones x) wr) := by
        show J (ones x) wr
        rw [hke, List.take_length] at hJ
        exact hJ
      clear HM hJ hT1 hke hlt hk hY h0 hT hx
      generalize (dropN x k).toNat = c at *
      subst hz
      gi_wp2
      go_end0
      exact ⟨⟨_, rfl⟩, .inl ⟨_, rfl, HJ.out⟩⟩
theorem setBits1_stops (n bx : Nat) (x : UInt64) (w : World) (hb : bx < w.heap.size) (h1 : 1 ≤ w.heap.size) (hx : w.cell? ⟨bx, 0, none⟩ = some (.int .u64 (x.toNat : Int))) (hT : Tab w) :
    SeqStopsK Fence.wide n Tryd.prog 74 #[.pointer (some ⟨bx, 0, none⟩)] (fun j : Fin 64 => #[Value.int .i64 (j.val : Int)]) (Below 1) (fun ys => ys.map Fin.val = ones x) (fun _ => True) 64 w := fun l J Jx W hW _ _ hY h0 => by
  refine (setBits1_in n l bx x (fun pre W => ∃ lf : List (Fin 64), lf.map Fin.val = pre ∧ J lf W) (fun pre W => ∃ lf : List (Fin 64), lf.map Fin.val = pre ∧ Jx lf W) ?_ W ((hW.cell (p := ⟨bx, 0, none⟩) hb).trans hx) (hT.below (hW.mono h1)) ⟨[], rfl, h0⟩).mono ?_
  · rintro pre j W1 hj ⟨lf, rfl, hJ⟩ hlen
    rw [List.length_map] at hlen
    refine (hY lf ⟨j, hj⟩ W1 hJ hlen).mono ?_
    rintro e W' (⟨he, h1, h2⟩ | ⟨he, h1⟩)
    · exact .inl ⟨he, ⟨_, by rw [List.map_append]; rfl, h1⟩, h2⟩
    · exact .inr ⟨he, ⟨_, by rw [List.map_append]; rfl, h1⟩⟩
  · generalize ones x = o at *
    rintro e W' ⟨hv, (⟨ys, hy, lf, hl, hJ⟩ | ⟨pre, _, lf, _, hJ⟩)⟩
    · exact ⟨hv, .inl ⟨lf, hl.trans hy, hJ⟩⟩
    · exact ⟨hv, .inr ⟨lf, trivial, hJ⟩⟩
end Go.Proofs.YtaegolkoinjmoaaDoor
