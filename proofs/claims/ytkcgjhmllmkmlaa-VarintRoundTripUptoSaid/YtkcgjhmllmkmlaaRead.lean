/-
  varint.ReadFixed and the reference's ReadFixed return 'rdf': for all arguments; the world is as it was.
-/
import Derived.Test.YtkcgjhmllmkmlaaFix
namespace Go.Proofs.Ytkcgjhmllmkmlaa
open Go.RowKit

theorem ret2_eq {k1 k2 : IntKind} {a b a' b' : Int} (h1 : a = a') (h2 : b = b') :
    Ending.returned (.tuple #[.int k1 a, .int k2 b]) = .returned (.tuple #[.int k1 a', .int k2 b']) := by rw [h1, h2]

def ReadRel (l : List UInt8) (o s : Nat) (n i : Value) : Prop :=
  ∃ k x : Nat, k ≤ s ∧ i = .int .i64 k ∧ n = .int .u64 x ∧ x = le ((l.drop o).take k)

set_option maxHeartbeats 400000 in
set_option maxRecDepth 100000 in
theorem readFixed_any (v : Value) (l : List UInt8) (off size : Int) (w : World) (hv : IsBytes w v l) (hl : l.length ≤ maxLen) (h63 : -9223372036854775808 ≤ off) (h64 : off ≤ 9223372036854775807) :
    Calls Try.prog 8 #[v, .int .i64 off, .int .i64 size] w fun e w' => e = .returned (.tuple #[.int .u64 (rdf l off size).1, .int .i64 (rdf l off size).2]) ∧ w = w' := by
  obtain ⟨A, c, rfl, hc⟩ := hv
  by_cases hs : size < 1 ∨ 8 < size
  · have HD := hidden (rdf_arg (l := l) (off := off) (.inl hs))
    go_enter Try.func8, Try.ntmps8
    go_wp2_with ((go_at_call 25; refine (validSize_f _ _ hs).mono ?_; rintro e w' ⟨rfl, rfl⟩))
    go_ret2
    rw [HD.out]
    exact ⟨rfl, rfl⟩
  · by_cases ho : off < 0 ∨ (l.length : Int) < off
    · have HD := hidden (rdf_arg (l := l) (off := off) (size := size) (.inr ho))
      go_enter Try.func8, Try.ntmps8
      go_wp2_with (first | (go_at_call 25; refine (validSize_t _ _ (by omega) (by omega)).mono ?_; rintro e w' ⟨rfl, rfl⟩) | (go_at_call 26; refine (validOffset_f A l.length c off _ hl ho).mono ?_; rintro e w' ⟨rfl, rfl⟩))
      go_ret2
      rw [HD.out]
      exact ⟨rfl, rfl⟩
    · have h0 : 0 ≤ off := by omega
      have h1 : off ≤ (l.length : Int) := by omega
      have hs1 : 1 ≤ size := by omega
      have hs8 : size ≤ 8 := by omega
      have hl' := hl
      unfold maxLen at hl'
      by_cases hsh : (l.length : Int) - off < size
      · have HD := hidden (rdf_short (l := l) (off := off) (size := size) (by omega) hsh)
        clear hs ho
        go_enter Try.func8, Try.ntmps8
        go_wp2_with (first | (go_at_call 25; refine (validSize_t _ _ (by omega) (by omega)).mono ?_; rintro e w' ⟨rfl, rfl⟩) | (go_at_call 26; refine (validOffset_t A l.length c off _ (by unfold maxLen; omega) h0 h1).mono ?_; rintro e w' ⟨rfl, rfl⟩))
        go_ret2
        rw [HD.out]
        exact ⟨rfl, rfl⟩
      · obtain ⟨o, rfl⟩ := Int.eq_ofNat_of_zero_le h0
        obtain ⟨s, rfl⟩ := Int.eq_ofNat_of_zero_le (show 0 ≤ size by omega)
        have HD := hidden (rdf_ok (l := l) (o := o) (s := s) (by omega) (by omega) (by omega))
        have hos : o + s ≤ l.length := by omega
        obtain ⟨b, f, rfl, hcell⟩ := hc (by omega)
        have HC := hidden hcell
        have hnsh : decide ((l.length : Int) - (o : Int) < (s : Int)) = false := by simpa using hsh
        clear hs ho hc hcell
        go_enter Try.func8, Try.ntmps8
        go_wp2_with (first | (go_at_call 25; refine (validSize_t _ _ (by omega) (by omega)).mono ?_; rintro e w' ⟨rfl, rfl⟩) | (go_at_call 26; refine (validOffset_t _ l.length c o _ (by unfold maxLen; omega) (by omega) (by omega)).mono ?_; rintro e w' ⟨rfl, rfl⟩))
        go_loop [8, 26] (ReadRel l o s) (fun _ i => s - (intOf i).toNat)
        case atStart => exact ⟨0, 0, by omega, rfl, rfl, by simp [le]⟩
        case round =>
          obtain ⟨k, x, hk, rfl, rfl, hx⟩ := hrel
          have HX := hidden hx
          clear hx
          by_cases hlt : k < s
          · have hcl := HC.out (o + k) (by omega)
            have hts := take_snoc' (l := l) (o := o) (k := k) (by omega)
            have hlen : ((l.drop o).take k).length = k := by rw [List.length_take, List.length_drop]; omega
            have hxl : Hid (x < 256 ^ k) := by
              show x < 256 ^ k
              have := le_lt ((l.drop o).take k)
              rw [hlen] at this
              rw [HX.out]; exact this
            generalize hcc : l[o + k] = cc at hcl hts
            have HN : Hid (x + cc.toNat * 256 ^ k = le ((l.drop o).take (k + 1))) := by
              show x + cc.toNat * 256 ^ k = _
              rw [hts, le_snoc, hlen, ← HX.out]
            have HO := hidden (read_or (c := cc) (show k < 8 by omega) hxl.out)
            have hcb : cc.toNat < 256 := cc.toNat_lt
            clear hcc hts hlen HX
            go_wp2
            go_round
            case rel => exact ⟨k + 1, x + cc.toNat * 256 ^ k, by omega, by go_num, by rw [HO.out], HN.out⟩
            case measure => simp [intOf]; omega
          · have hke : k = s := by omega
            subst hke
            go_wp2
            go_ret2
            rw [HD.out]
            exact ⟨ret2_eq (by rw [HX.out]) rfl, rfl⟩

def RReadRel (l : List UInt8) (o s : Nat) (n i : Value) : Prop :=
  ∃ m x : Nat, m ≤ s ∧ i = .int .i64 ((m : Int) - 1) ∧ n = .int .u64 x ∧ x = le ((l.drop (o + m)).take (s - m))

theorem rread_step {l : List UInt8} {o s m : Nat} {c : UInt8} (hm : m + 1 ≤ s) (h : o + m < l.length) (hc : l[o + m] = c) :
    le ((l.drop (o + m)).take (s - m)) = le ((l.drop (o + (m + 1))).take (s - (m + 1))) * 256 + c.toNat := by
  rw [List.drop_eq_getElem_cons h, hc, show s - m = (s - (m + 1)) + 1 by omega, List.take_succ_cons, le]
  rw [show o + (m + 1) = o + m + 1 by omega]
  omega

set_option maxHeartbeats 400000 in
set_option maxRecDepth 100000 in
theorem rreadFixed_any (v : Value) (l : List UInt8) (off size : Int) (w : World) (hv : IsBytes w v l) (hl : l.length ≤ maxLen) (h63 : -9223372036854775808 ≤ off) (h64 : off ≤ 9223372036854775807) :
    Calls Try.prog 9 #[v, .int .i64 off, .int .i64 size] w fun e w' => e = .returned (.tuple #[.int .u64 (rdf l off size).1, .int .i64 (rdf l off size).2]) ∧ w = w' := by
  obtain ⟨A, c, rfl, hc⟩ := hv
  have hl' := hl
  unfold maxLen at hl'
  by_cases hs : size < 1
  · have HD := hidden (rdf_arg (l := l) (off := off) (.inl (.inl hs)))
    go_enter Try.func9, Try.ntmps9
    go_wp2
    go_ret2
    rw [HD.out]
    exact ⟨rfl, rfl⟩
  · have hs1 : 1 ≤ size := by omega
    have hd1 : decide (size < 1) = false := by simpa using hs
    clear hs
    by_cases hb : 8 < size
    · have HD := hidden (rdf_arg (l := l) (off := off) (.inl (.inr hb)))
      go_enter Try.func9, Try.ntmps9
      go_wp2
      go_ret2
      rw [HD.out]
      exact ⟨rfl, rfl⟩
    · have hs8 : size ≤ 8 := by omega
      have hd2 : decide (8 < size) = false := by simpa using hb
      clear hb
      by_cases ho : off < 0
      · have HD := hidden (rdf_arg (l := l) (off := off) (size := size) (.inr (.inl ho)))
        go_enter Try.func9, Try.ntmps9
        go_wp2
        go_ret2
        rw [HD.out]
        exact ⟨rfl, rfl⟩
      · have h0 : 0 ≤ off := by omega
        have hd3 : decide (off < 0) = false := by simpa using ho
        clear ho
        by_cases ho2 : (l.length : Int) < off
        · have HD := hidden (rdf_arg (l := l) (off := off) (size := size) (.inr (.inr ho2)))
          go_enter Try.func9, Try.ntmps9
          go_wp2
          go_ret2
          rw [HD.out]
          exact ⟨rfl, rfl⟩
        · have h1 : off ≤ (l.length : Int) := by omega
          have hd4 : decide ((l.length : Int) < off) = false := by simpa using ho2
          clear ho2
          by_cases hsh : (l.length : Int) - off < size
          · have HD := hidden (rdf_short (l := l) (off := off) (size := size) (by omega) hsh)
            go_enter Try.func9, Try.ntmps9
            go_wp2
            go_ret2
            rw [HD.out]
            exact ⟨rfl, rfl⟩
          · obtain ⟨o, rfl⟩ := Int.eq_ofNat_of_zero_le h0
            obtain ⟨s, rfl⟩ := Int.eq_ofNat_of_zero_le (show 0 ≤ size by omega)
            have HD := hidden (rdf_ok (l := l) (o := o) (s := s) (by omega) (by omega) (by omega))
            have hos : o + s ≤ l.length := by omega
            obtain ⟨b, f, rfl, hcell⟩ := hc (by omega)
            have HC := hidden hcell
            have hnsh : decide ((l.length : Int) - (o : Int) < (s : Int)) = false := by simpa using hsh
            clear hc hcell
            go_enter Try.func9, Try.ntmps9
            go_wp2
            go_loop [8, 9] (RReadRel l o s) (fun _ i => (intOf i + 1).toNat)
            case atStart => exact ⟨s, 0, by omega, rfl, rfl, by simp [le]⟩
            case round =>
              obtain ⟨m, x, hm, rfl, rfl, hx⟩ := hrel
              cases m with
              | zero =>
                have HX := hidden hx
                clear hx
                go_wp2
                go_ret2
                rw [HD.out]
                have h1 := HX.out
                simp only [Nat.add_zero, Nat.sub_zero] at h1
                exact ⟨ret2_eq (by rw [h1]) rfl, rfl⟩
              | succ m =>
                have hcl := HC.out (o + m) (by omega)
                generalize hcc : l[o + m] = cc at hcl
                have hst := rread_step hm (show o + m < l.length by omega) hcc
                rw [← hx] at hst
                have HN := hidden hst
                have hcb : cc.toNat < 256 := cc.toNat_lt
                have hxb : x * 256 + cc.toNat < 18446744073709551616 := by
                  rw [← hst]
                  exact le_lt64 (by rw [List.length_take]; omega)
                have e1 : Hid ((((m + 1 : Nat) : Int) - 1) = (m : Int)) := by
                  show (((m + 1 : Nat) : Int) - 1) = (m : Int)
                  omega
                clear hcc hst hx
                rw [e1.out]
                go_wp2
                go_round
                case rel => exact ⟨m, x * 256 + cc.toNat, by omega, rfl, by go_num, HN.out.symm⟩
                case measure => simp [intOf]

end Go.Proofs.Ytkcgjhmllmkmlaa
