/-
  varint.Encode and the reference's Encode return an own slice that reads as 'enc n': for every uint64; nothing that was there is changed.
-/
import Derived.Test.YtcpdgkjelghlnaaWidth
import Derived.Test.YtcpdgkjelghlnaaVFix
import Derived.Outline
import Derived.OwnWalk
namespace Go.Proofs.Ytcpdgkjelghlnaa
open Go.RowKit

def REncRel (w : World) (n : Nat) (out x : Value) (wr : World) : Prop :=
  ∃ (f m : Nat) (pre : List UInt8), x = .int .u64 m ∧ m < 128 ^ (f + 1) ∧ m < 18446744073709551616 ∧ pre.length + f ≤ 9 ∧ pre ++ encF (f + 1) m = enc n ∧
    wr.ownsRow w.heap.size 5 1 out pre.length (bcells pre) ∧ Below w.heap.size w wr

set_option maxHeartbeats 400000 in
theorem rencode_any (x : Int) (w : World) (h0 : 0 ≤ x) (h1 : x ≤ 18446744073709551615) :
    Calls Try.prog 24 #[.int .u64 x] w (Made (enc x.toNat) w) := by
  obtain ⟨n, rfl⟩ := Int.eq_ofNat_of_zero_le h0
  rw [Int.toNat_natCast]
  go_enter Try.func24, Try.ntmps24
  go_wp2
  go_loopw [0, 3] (fun x out wr => REncRel w n out x wr) (fun x _ _ => (intOf x).toNat)
  case atStart => exact ⟨9, n, [], rfl, by omega, by omega, by simp, rfl, World.ownsRow_nil _ _ _ _, Below.refl _ _⟩
  case round =>
    obtain ⟨f, m, pre, rfl, hm, hm64, hf, henc, hown, hnx⟩ := hrel
    have HE := hidden henc
    have HM := hidden hm
    clear henc hm
    by_cases hlt : 127 < m
    · have hz : Hid ((128 : Int) + (m : Int) % 128 = ((UInt8.ofNat (128 + m % 128)).toNat : Int)) := by
        show (128 : Int) + (m : Int) % 128 = _
        rw [ofNat_toNat (by omega)]; omega
      have hpl : pre.length + 1 ≤ 140737488355328 := by omega
      go_wp2_with ((at_builtin; go_loud (refine wpList_append_byte (w := w) (wr := wr) rfl _ _ 26 rfl 5 Try.underlying26 info_u8 _ pre (by rfl) hown hnx _ (UInt8.ofNat (128 + m % 128)) hz.out (by rfl) hpl ?_); intro v' w1 hown1 hnx1))
      go_roundw
      case rel =>
        cases f with
        | zero => have := HM.out; omega
        | succ f =>
          refine ⟨f, m / 128, pre ++ [UInt8.ofNat (128 + m % 128)], by go_num, ?_, by omega, by simp; omega, ?_, hown1, hnx1⟩
          · have := HM.out; rw [Nat.pow_succ] at this; omega
          · rw [List.append_assoc, ← HE.out, encF_more (f := f + 1) (n := m) (by omega)]; rfl
      case measure => simp [intOf]; omega
    · have hz : Hid ((m : Int) = ((UInt8.ofNat m).toNat : Int)) := by
        show (m : Int) = _
        rw [ofNat_toNat (by omega)]
      have hpl : pre.length + 1 ≤ 140737488355328 := by omega
      go_wp2_with ((at_builtin; go_loud (refine wpList_append_byte (w := w) (wr := wr) rfl _ _ 26 rfl 5 Try.underlying26 info_u8 _ pre (by rfl) hown hnx _ (UInt8.ofNat m) hz.out (by rfl) hpl ?_); intro v' w1 hown1 hnx1))
      go_ret
      have he : pre ++ [UInt8.ofNat m] = enc n := by rw [← HE.out, encF_last (by omega)]
      rw [he] at hown1
      exact ⟨_, rfl, hown1, hnx1⟩

def EncRel (w : World) (n : Nat) (i : Value) (wr : World) : Prop :=
  ∃ k : Nat, k ≤ esz n ∧ i = .int .i64 k ∧ Row wr w.heap.size 5 (encRow n (esz n) k) ∧ Below w.heap.size w wr

set_option maxHeartbeats 400000 in
theorem encode_any (x : Int) (w : World) (h0 : 0 ≤ x) (h1 : x ≤ 18446744073709551615) :
    Calls Try.prog 22 #[.int .u64 x] w (Made (enc x.toNat) w) := by
  obtain ⟨n, rfl⟩ := Int.eq_ofNat_of_zero_le h0
  have hn : n < 18446744073709551616 := by omega
  rw [Int.toNat_natCast]
  have hb := bitLen_bd hn
  obtain ⟨hs1, hs2⟩ := esz_bd hn
  have hmx : max (1 : Int) ((((Lib.bitLen n : Nat) : Int) + 7 - 1) / 7) = (esz n : Int) := by
    unfold esz; omega
  have hbw := fun W => bitWidth_any (n : Int) W h0 h1
  rw [Int.toNat_natCast] at hbw
  have HD := hidden (encRow_done hn)
  have HL := hidden (enc_length hn)
  generalize Lib.bitLen n = L at *
  have HB := hidden hbw
  clear hbw
  have hmk := run_make_bytes (P := Try.prog) 26 5 Try.underlying26 info_u8 (esz n) (by omega)
  have hz := hidden (encRow_zero n (esz n))
  go_enter Try.func22, Try.ntmps22
  go_wp2_with ((go_at_call 30; refine (HB.out _).mono ?_; rintro e w' ⟨rfl, rfl⟩))
  clear hmk
  have HX := hidden hmx
  clear hmx
  go_loopw [15] (fun i wr => EncRel w n i wr) (fun i _ => esz n - (intOf i).toNat)
  case atStart => exact ⟨0, by omega, rfl, Row.new _ _ _ _ hz.out, (Below.refl _ _).alloc (Nat.le_refl _) _⟩
  case round =>
    obtain ⟨k, hk, rfl, hrow, hnx⟩ := hrel
    by_cases hlt : k < esz n
    · have hcell := hrow.cell k
      rw [encRow_get hlt, if_neg (by omega)] at hcell
      have hfr := hrow.frozen k
      have hor := hidden (enc_or (n := n) (k := k))
      go_wp2
      go_roundw
      case rel =>
        refine ⟨k + 1, by omega, by go_num, ?_, hnx.setCell (Nat.le_refl _) _⟩
        have h1 := hrow.set_ k (.int .u8 ((128 + n / 128 ^ k % 128 : Nat) : Int))
        rw [encRow_set hlt, ← hor.out] at h1
        exact h1
      case measure => simp [intOf]; omega
    · have hke : k = esz n := by omega
      have hrow' : Row wr w.heap.size 5 (encRow n (esz n) (esz n)) := by have h := hrow; rw [hke] at h; exact h
      have hix : ((esz n : Int) - 1).toNat = esz n - 1 := by omega
      have hcell := hrow'.cell (esz n - 1)
      rw [encRow_get (by omega), if_pos (by omega)] at hcell
      have hfr := hrow'.frozen (esz n - 1)
      have han := hidden (enc_andNot (n / 128 ^ (esz n - 1) % 128) (by omega))
      have hke' := hidden hke
      clear hke hrow
      have hv : Hid (bits .andNot .u8 (128 + (n : Int) / 128 ^ (esz n - 1) % 128) 128 = ((n / 128 ^ (esz n - 1) % 128 : Nat) : Int)) := by
        show bits .andNot .u8 (128 + (n : Int) / 128 ^ (esz n - 1) % 128) 128 = _
        rw [← han.out]; simp
      clear han
      go_wp2
      go_ret
      rw [hv.out]
      have h1 := hrow'.set_ (esz n - 1) (.int .u8 ((n / 128 ^ (esz n - 1) % 128 : Nat) : Int))
      rw [HD.out] at h1
      have h2 := h1.own (base := w.heap.size) (Nat.le_refl _) (by rw [bcells_length, HL.out]; unfold maxLen; omega)
      rw [bcells_length] at h2
      refine ⟨_, ?_, h2, hnx.setCell (Nat.le_refl _) _⟩
      rw [HL.out]; rfl

end Go.Proofs.Ytcpdgkjelghlnaa
