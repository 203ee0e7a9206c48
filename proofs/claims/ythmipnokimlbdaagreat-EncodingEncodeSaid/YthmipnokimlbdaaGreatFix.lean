/-
  Shaken: what the claims of this seat need of this text. No condition.
-/
import Derived.Test.YthmipnokimlbdaaGreatM6
import Derived.Test.YthmipnokimlbdaaGreatM5
import Derived.Test.YthmipnokimlbdaaGreatM4
namespace Go.Proofs.YthmipnokimlbdaaGreat
set_option maxRecDepth 8000
open Go.RowKit
def RFixRel (w : World) (n s : Nat) (x out i : Value) (wr : World) : Prop :=
  ∃ k : Nat, k ≤ s ∧ i = .int .i64 k ∧ x = .int .u64 ((n / 256 ^ k : Nat) : Int) ∧ wr.ownsRow w.heap.size 5 1 out (fixb n k).length (bcells (fixb n k)) ∧ Below w.heap.size w wr
set_option maxHeartbeats 400000 in
theorem rfixed_any (x size : Int) (w : World) (h0 : 0 ≤ x) (h1 : x ≤ 18446744073709551615) :
    Calls Tryz.prog 106 #[.int .u64 x, .int .i64 size] w (Made (fixs x.toNat size) w) := by
  by_cases hs : size < 1
  · rw [fixs_bad (.inl hs)]
    go_enter Tryz.func106, Tryz.ntmps106
    go_wp2
    go_ret
    exact Made.nil_
  · by_cases hb : 8 < size
    · rw [fixs_bad (.inr hb)]
      have hs' : 1 ≤ size := by omega
      clear hs
      go_enter Tryz.func106, Tryz.ntmps106
      go_wp2
      go_ret
      exact Made.nil_
    · obtain ⟨n, rfl⟩ := Int.eq_ofNat_of_zero_le h0
      obtain ⟨s, rfl⟩ := Int.eq_ofNat_of_zero_le (show 0 ≤ size by omega)
      have hs1 : 1 ≤ s := by omega
      have hs8 : s ≤ 8 := by omega
      have hn : n < 18446744073709551616 := by omega
      clear hs hb
      rw [fixs_ok hs1 hs8, Int.toNat_natCast]
      have hd1 : decide ((s : Int) < 1) = false := by simp; omega
      have hd2 : decide ((8 : Int) < (s : Int)) = false := by simp; omega
      go_enter Tryz.func106, Tryz.ntmps106
      go_wp2
      go_loopw [0, 5, 6] (fun x out i wr => RFixRel w n s x out i wr) (fun _ _ i _ => s - (intOf i).toNat)
      case atStart => exact ⟨0, by omega, rfl, by simp, World.ownsRow_nil _ _ _ _, Below.refl _ _⟩
      case round =>
        obtain ⟨k, hk, rfl, rfl, hown, hnx⟩ := hrel
        have HF := hidden (fixb_succ n k)
        have HLn := hidden (fixb_length n k)
        have hq : n / 256 ^ k < 18446744073709551616 := Nat.lt_of_le_of_lt (Nat.div_le_self _ _) hn
        have HQ : Hid (n / 256 ^ (k + 1) = n / 256 ^ k / 256) := by
          show n / 256 ^ (k + 1) = _
          rw [Nat.div_div_eq_div_mul, Nat.pow_succ]
        have hz : Hid (((n / 256 ^ k : Nat) : Int) % 256 = ((UInt8.ofNat (n / 256 ^ k % 256)).toNat : Int)) := by
          show ((n / 256 ^ k : Nat) : Int) % 256 = _
          rw [ofNat_toNat (by omega)]; omega
        by_cases hlt : k < s
        · have hpl : (fixb n k).length + 1 ≤ 140737488355328 := by rw [HLn.out]; omega
          generalize fixb n k = pre at *
          generalize n / 256 ^ k = q at *
          go_wp2_with ((at_builtin; refine wpList_append_byte (w := w) (wr := wr) rfl _ _ 29 rfl 5 Tryz.underlying29 info_u8 _ pre (by rfl) hown hnx _ (UInt8.ofNat (q % 256)) hz.out (by rfl) hpl ?_; intro v' w1 hown1 hnx1))
          go_roundw
          case rel =>
            refine ⟨k + 1, by omega, by go_num, ?_, ?_, hnx1⟩
            · rw [HQ.out]; go_num
            · rw [HF.out]; exact hown1
          case measure => simp [intOf]; omega
        · have hke : k = s := by omega
          subst hke
          go_wp2
          go_ret
          exact ⟨_, rfl, hown, hnx⟩
end Go.Proofs.YthmipnokimlbdaaGreat
