/-
  varint.ReadFixed returns 'rdf': for all arguments; the world is as it was.
-/
import Derived.Test.YtepahejeeajfbaaVFix
namespace Go.Proofs.Ytepahejeeajfbaa
open Go.RowKit

theorem validOffset_t (A : Option Addr) (n c : Nat) (off : Int) (w : World) (_hn : n ≤ maxLen) (h0 : 0 ≤ off) (h1 : off ≤ n) :
    Calls Try.prog 38 #[.slice A n c, .int .i64 off] w fun e w' => e = .returned (.bool true) ∧ w = w' := by
  go_enter Try.func38, Try.ntmps38
  go_wp2
  go_ret
  exact ⟨rfl, rfl⟩

theorem validOffset_f (A : Option Addr) (n c : Nat) (off : Int) (w : World) (_hn : n ≤ maxLen) (h : off < 0 ∨ (n : Int) < off) :
    Calls Try.prog 38 #[.slice A n c, .int .i64 off] w fun e w' => e = .returned (.bool false) ∧ w = w' := by
  by_cases h0 : off < 0
  · clear h
    go_enter Try.func38, Try.ntmps38
    go_wp2
    go_ret
    exact ⟨rfl, rfl⟩
  · have h1 : (n : Int) < off := by omega
    have h2 : 0 ≤ off := by omega
    have hd : decide (off ≤ (n : Int)) = false := by simpa using h1
    clear h h0
    go_enter Try.func38, Try.ntmps38
    go_wp2
    go_ret
    exact ⟨rfl, rfl⟩

theorem ret2_eq {k1 k2 : IntKind} {a b a' b' : Int} (h1 : a = a') (h2 : b = b') :
    Ending.returned (.tuple #[.int k1 a, .int k2 b]) = .returned (.tuple #[.int k1 a', .int k2 b']) := by rw [h1, h2]

def ReadRel (l : List UInt8) (o s : Nat) (n i : Value) : Prop :=
  ∃ k x : Nat, k ≤ s ∧ i = .int .i64 k ∧ n = .int .u64 x ∧ x = le ((l.drop o).take k)

set_option maxHeartbeats 400000 in
set_option maxRecDepth 100000 in
theorem readFixed_any (v : Value) (l : List UInt8) (off size : Int) (w : World) (hv : IsBytes w v l) (hl : l.length ≤ maxLen) (h63 : -9223372036854775808 ≤ off) (h64 : off ≤ 9223372036854775807) :
    Calls Try.prog 30 #[v, .int .i64 off, .int .i64 size] w fun e w' => e = .returned (.tuple #[.int .u64 (rdf l off size).1, .int .i64 (rdf l off size).2]) ∧ w = w' := by
  obtain ⟨A, c, rfl, hc⟩ := hv
  by_cases hs : size < 1 ∨ 8 < size
  · have HD := hidden (rdf_arg (l := l) (off := off) (.inl hs))
    go_enter Try.func30, Try.ntmps30
    go_wp2_with ((go_at_call 37; refine (validSize_f _ _ hs).mono ?_; rintro e w' ⟨rfl, rfl⟩))
    go_ret2
    rw [HD.out]
    exact ⟨rfl, rfl⟩
  · by_cases ho : off < 0 ∨ (l.length : Int) < off
    · have HD := hidden (rdf_arg (l := l) (off := off) (size := size) (.inr ho))
      go_enter Try.func30, Try.ntmps30
      go_wp2_with (first | (go_at_call 37; refine (validSize_t _ _ (by omega) (by omega)).mono ?_; rintro e w' ⟨rfl, rfl⟩) | (go_at_call 38; refine (validOffset_f A l.length c off _ hl ho).mono ?_; rintro e w' ⟨rfl, rfl⟩))
      go_ret2
      rw [HD.out]
      exact ⟨rfl, rfl⟩
    · have h0 : 0 ≤ off := by omega
      have h1 : off ≤ (l.length : Int) := by omega
      have hs1 : 1 ≤ size := by omega
      have hs8 : size ≤ 8 := by omega
      have hl' := hl
      unfold maxLen at hl'
      by_cases hsh : (l.length : Int) - off < size
      · have HD := hidden (rdf_short (l := l) (off := off) (size := size) (by omega) hsh)
        clear hs ho
        go_enter Try.func30, Try.ntmps30
        go_wp2_with (first | (go_at_call 37; refine (validSize_t _ _ (by omega) (by omega)).mono ?_; rintro e w' ⟨rfl, rfl⟩) | (go_at_call 38; refine (validOffset_t A l.length c off _ (by unfold maxLen; omega) h0 h1).mono ?_; rintro e w' ⟨rfl, rfl⟩))
        go_ret2
        rw [HD.out]
        exact ⟨rfl, rfl⟩
      · obtain ⟨o, rfl⟩ := Int.eq_ofNat_of_zero_le h0
        obtain ⟨s, rfl⟩ := Int.eq_ofNat_of_zero_le (show 0 ≤ size by omega)
        have HD := hidden (rdf_ok (l := l) (o := o) (s := s) (by omega) (by omega) (by omega))
        have hos : o + s ≤ l.length := by omega
        obtain ⟨b, f, rfl, hcell⟩ := hc (by omega)
        have HC := hidden hcell
        have hnsh : decide ((l.length : Int) - (o : Int) < (s : Int)) = false := by simpa using hsh
        clear hs ho hc hcell
        go_enter Try.func30, Try.ntmps30
        go_wp2_with (first | (go_at_call 37; refine (validSize_t _ _ (by omega) (by omega)).mono ?_; rintro e w' ⟨rfl, rfl⟩) | (go_at_call 38; refine (validOffset_t _ l.length c o _ (by unfold maxLen; omega) (by omega) (by omega)).mono ?_; rintro e w' ⟨rfl, rfl⟩))
        go_loop [8, 26] (ReadRel l o s) (fun _ i => s - (intOf i).toNat)
        case atStart => exact ⟨0, 0, by omega, rfl, rfl, by simp [le]⟩
        case round =>
          obtain ⟨k, x, hk, rfl, rfl, hx⟩ := hrel
          have HX := hidden hx
          clear hx
          by_cases hlt : k < s
          · have hcl := HC.out (o + k) (by omega)
            have hts := take_snoc' (l := l) (o := o) (k := k) (by omega)
            have hlen : ((l.drop o).take k).length = k := by rw [List.length_take, List.length_drop]; omega
            have hxl : Hid (x < 256 ^ k) := by
              show x < 256 ^ k
              have := le_lt ((l.drop o).take k)
              rw [hlen] at this
              rw [HX.out]; exact this
            generalize hcc : l[o + k] = cc at hcl hts
            have HN : Hid (x + cc.toNat * 256 ^ k = le ((l.drop o).take (k + 1))) := by
              show x + cc.toNat * 256 ^ k = _
              rw [hts, le_snoc, hlen, ← HX.out]
            have HO := hidden (read_or (c := cc) (show k < 8 by omega) hxl.out)
            have hcb : cc.toNat < 256 := cc.toNat_lt
            clear hcc hts hlen HX
            go_wp2
            go_round
            case rel => exact ⟨k + 1, x + cc.toNat * 256 ^ k, by omega, by go_num, by rw [HO.out], HN.out⟩
            case measure => simp [intOf]; omega
          · have hke : k = s := by omega
            subst hke
            go_wp2
            go_ret2
            rw [HD.out]
            exact ⟨ret2_eq (by rw [HX.out]) rfl, rfl⟩

end Go.Proofs.Ytepahejeeajfbaa
