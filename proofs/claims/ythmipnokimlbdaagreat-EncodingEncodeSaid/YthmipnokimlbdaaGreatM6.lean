/-
  Texts that the claims of this seat share, put together (Width, Enc). No condition.
-/
import Derived.Test.YthmipnokimlbdaaGreatProg
import Derived.Test.YthmipnokimlbdaaGreatM4
import Derived.WalkKit
import Derived.Lib.Strings
import Derived.Lib.Slices
import Derived.Lib.Small
import Derived.Lib.Walk
import Derived.Test.YthmipnokimlbdaaGreatM5
import Derived.Outline
import Derived.OwnWalk
/-
  Shaken: what the claims of this seat need of this text. No condition.
-/
namespace Go.Proofs.YthmipnokimlbdaaGreat
open Go.RowKit
set_option maxRecDepth 100000 in
theorem tab_size : Lib.len8tab.size = 256 := by decide
theorem tab_fin : ∀ i : Fin 256, (Lib.len8tab[i.val]'(by rw [tab_size]; exact i.isLt)).toNat = Lib.bitLen i.val := by decide +kernel
theorem tab_get (i : Nat) (h : i < Lib.len8tab.size) : (Lib.len8tab[i]'h).toNat = Lib.bitLen i := tab_fin ⟨i, by rw [tab_size] at h; exact h⟩
theorem ret_eq' {k : IntKind} {a b : Int} (h : a = b) : Ending.returned (.int k a) = .returned (.int k b) := by rw [h]
theorem len_close (k : Nat) (K x Y : Int) (h0 : 0 ≤ x) (h1 : x ≤ 18446744073709551615) (hK : K = (k : Int)) (hk : 2 ^ k ≤ x.toNat) (e : Y.toNat = x.toNat / 2 ^ k) :
    wrap64 (K + wrap64 (Lib.bitLen Y.toNat : Int)) = (Lib.bitLen x.toNat : Int) := by
  have hs := Lib.bitLen_shift k x.toNat hk (by omega)
  have hb := bitLen_bd (n := x.toNat) (by omega)
  rw [← e] at hs
  simp only [wrap64]
  omega
theorem len_close0 (x : Int) (h1 : x ≤ 18446744073709551615) : wrap64 (wrap64 (Lib.bitLen x.toNat : Int)) = (Lib.bitLen x.toNat : Int) := by
  have hb := bitLen_bd (n := x.toNat) (by omega)
  simp only [wrap64]
  omega
set_option maxHeartbeats 4000000 in
set_option maxRecDepth 100000 in
theorem len64_any (x : Int) (w : World) (h0 : 0 ≤ x) (h1 : x ≤ 18446744073709551615) :
    Calls Tryz.prog 219 #[.int .u64 x] w fun e w' => e = .returned (.int .i64 (Lib.bitLen x.toNat)) ∧ w = w' := by
  have hsz : (256 : Int) ≤ (Lib.len8tab.size : Int) := by rw [tab_size]; decide
  go_enter Tryz.func219, Tryz.ntmps219
  go_wp2
  all_goals (go_ret; refine ⟨congrArg Ending.returned (congrArg (Value.int IntKind.i64) ?_), rfl⟩)
  all_goals rw [tab_get]
  all_goals first
    | exact len_close 56 56 x _ h0 h1 rfl (by omega) (by omega)
    | exact len_close 48 48 x _ h0 h1 rfl (by omega) (by omega)
    | exact len_close 40 40 x _ h0 h1 rfl (by omega) (by omega)
    | exact len_close 32 32 x _ h0 h1 rfl (by omega) (by omega)
    | exact len_close 24 24 x _ h0 h1 rfl (by omega) (by omega)
    | exact len_close 16 16 x _ h0 h1 rfl (by omega) (by omega)
    | exact len_close 8 8 x _ h0 h1 rfl (by omega) (by omega)
    | exact len_close0 x h1
theorem bitWidth_any (x : Int) (w : World) (h0 : 0 ≤ x) (h1 : x ≤ 18446744073709551615) :
    Calls Tryz.prog 200 #[.int .u64 x] w fun e w' => e = .returned (.int .i64 (Lib.bitLen x.toNat)) ∧ w = w' := by
  go_enter Tryz.func200, Tryz.ntmps200
  go_wp2_with ((go_at_call 219; refine (len64_any x _ h0 h1).mono ?_; rintro e w' ⟨rfl, rfl⟩))
  go_ret
  exact ⟨rfl, rfl⟩
def RWidthRel (X : Nat) (w n : Value) : Prop := ∃ k y : Nat, w = .int .i64 k ∧ n = .int .u64 y ∧ k + Lib.bitLen y = Lib.bitLen X ∧ y < 18446744073709551616
theorem width_step {y : Nat} (h : y ≠ 0) (hy : y < 18446744073709551616) : Lib.bitLen y = 1 + Lib.bitLen (y / 2) := Lib.bitLen_half y h (by omega)
theorem rbitWidth_any (x : Int) (w : World) (h0 : 0 ≤ x) (h1 : x ≤ 18446744073709551615) :
    Calls Tryz.prog 183 #[.int .u64 x] w fun e w' => e = .returned (.int .i64 (Lib.bitLen x.toNat)) ∧ w = w' := by
  obtain ⟨X, rfl⟩ := Int.eq_ofNat_of_zero_le h0
  have hX := bitLen_bd (n := X) (by omega)
  rw [Int.toNat_natCast]
  go_enter Tryz.func183, Tryz.ntmps183
  go_wp2
  go_loop [0, 3] (fun n v => RWidthRel X v n) (fun n _ => (intOf n).toNat)
  case atStart => exact ⟨0, X, rfl, rfl, by omega, by omega⟩
  case round =>
    obtain ⟨k, y, rfl, rfl, hk, hy⟩ := hrel
    have HK := hidden hk
    have hkle : k ≤ 64 := by omega
    clear hk
    by_cases h : y = 0
    · subst h
      go_wp2
      go_ret
      have := HK.out
      rw [bitLen_zero] at this
      exact ⟨ret_eq' (by omega), rfl⟩
    · have hs := hidden (width_step h hy)
      have hpos : 0 < y := by omega
      clear h
      go_wp2
      go_round
      case rel =>
        have h1 := HK.out
        have h2 := hs.out
        exact ⟨k + 1, y / 2, by go_num, by go_num, by omega, by omega⟩
      case measure => simp [intOf]; omega
end Go.Proofs.YthmipnokimlbdaaGreat
/-
  Shaken: what the claims of this seat need of this text. No condition.
-/
namespace Go.Proofs.YthmipnokimlbdaaGreat
set_option maxRecDepth 8000
open Go.RowKit
def REncRel (w : World) (n : Nat) (out x : Value) (wr : World) : Prop :=
  ∃ (f m : Nat) (pre : List UInt8), x = .int .u64 m ∧ m < 128 ^ (f + 1) ∧ m < 18446744073709551616 ∧ pre.length + f ≤ 9 ∧ pre ++ encF (f + 1) m = enc n ∧
    wr.ownsRow w.heap.size 5 1 out pre.length (bcells pre) ∧ Below w.heap.size w wr
set_option maxHeartbeats 400000 in
theorem rencode_any (x : Int) (w : World) (h0 : 0 ≤ x) (h1 : x ≤ 18446744073709551615) :
    Calls Tryz.prog 107 #[.int .u64 x] w (Made (enc x.toNat) w) := by
  obtain ⟨n, rfl⟩ := Int.eq_ofNat_of_zero_le h0
  rw [Int.toNat_natCast]
  go_enter Tryz.func107, Tryz.ntmps107
  go_wp2
  go_loopw [0, 3] (fun x out wr => REncRel w n out x wr) (fun x _ _ => (intOf x).toNat)
  case atStart => exact ⟨9, n, [], rfl, by omega, by omega, by simp, rfl, World.ownsRow_nil _ _ _ _, Below.refl _ _⟩
  case round =>
    obtain ⟨f, m, pre, rfl, hm, hm64, hf, henc, hown, hnx⟩ := hrel
    have HE := hidden henc
    have HM := hidden hm
    clear henc hm
    by_cases hlt : 127 < m
    · have hz : Hid ((128 : Int) + (m : Int) % 128 = ((UInt8.ofNat (128 + m % 128)).toNat : Int)) := by
        show (128 : Int) + (m : Int) % 128 = _
        rw [ofNat_toNat (by omega)]; omega
      have hpl : pre.length + 1 ≤ 140737488355328 := by omega
      go_wp2_with ((at_builtin; go_loud (refine wpList_append_byte (w := w) (wr := wr) rfl _ _ 29 rfl 5 Tryz.underlying29 info_u8 _ pre (by rfl) hown hnx _ (UInt8.ofNat (128 + m % 128)) hz.out (by rfl) hpl ?_); intro v' w1 hown1 hnx1))
      go_roundw
      case rel =>
        cases f with
        | zero => have := HM.out; omega
        | succ f =>
          refine ⟨f, m / 128, pre ++ [UInt8.ofNat (128 + m % 128)], by go_num, ?_, by omega, by simp; omega, ?_, hown1, hnx1⟩
          · have := HM.out; rw [Nat.pow_succ] at this; omega
          · rw [List.append_assoc, ← HE.out, encF_more (f := f + 1) (n := m) (by omega)]; rfl
      case measure => simp [intOf]; omega
    · have hz : Hid ((m : Int) = ((UInt8.ofNat m).toNat : Int)) := by
        show (m : Int) = _
        rw [ofNat_toNat (by omega)]
      have hpl : pre.length + 1 ≤ 140737488355328 := by omega
      go_wp2_with ((at_builtin; go_loud (refine wpList_append_byte (w := w) (wr := wr) rfl _ _ 29 rfl 5 Tryz.underlying29 info_u8 _ pre (by rfl) hown hnx _ (UInt8.ofNat m) hz.out (by rfl) hpl ?_); intro v' w1 hown1 hnx1))
      go_ret
      have he : pre ++ [UInt8.ofNat m] = enc n := by rw [← HE.out, encF_last (by omega)]
      rw [he] at hown1
      exact ⟨_, rfl, hown1, hnx1⟩
def EncRel (w : World) (n : Nat) (i : Value) (wr : World) : Prop :=
  ∃ k : Nat, k ≤ esz n ∧ i = .int .i64 k ∧ Row wr w.heap.size 5 (encRow n (esz n) k) ∧ Below w.heap.size w wr
set_option maxHeartbeats 400000 in
theorem encode_any (x : Int) (w : World) (h0 : 0 ≤ x) (h1 : x ≤ 18446744073709551615) :
    Calls Tryz.prog 149 #[.int .u64 x] w (Made (enc x.toNat) w) := by
  obtain ⟨n, rfl⟩ := Int.eq_ofNat_of_zero_le h0
  have hn : n < 18446744073709551616 := by omega
  rw [Int.toNat_natCast]
  have hb := bitLen_bd hn
  obtain ⟨hs1, hs2⟩ := esz_bd hn
  have hmx : max (1 : Int) ((((Lib.bitLen n : Nat) : Int) + 7 - 1) / 7) = (esz n : Int) := by
    unfold esz; omega
  have hbw := fun W => bitWidth_any (n : Int) W h0 h1
  rw [Int.toNat_natCast] at hbw
  have HD := hidden (encRow_done hn)
  have HL := hidden (enc_length hn)
  generalize Lib.bitLen n = L at *
  have HB := hidden hbw
  clear hbw
  have hmk := run_make_bytes (P := Tryz.prog) 29 5 Tryz.underlying29 info_u8 (esz n) (by omega)
  have hz := hidden (encRow_zero n (esz n))
  go_enter Tryz.func149, Tryz.ntmps149
  go_wp2_with ((go_at_call 200; refine (HB.out _).mono ?_; rintro e w' ⟨rfl, rfl⟩))
  clear hmk
  have HX := hidden hmx
  clear hmx
  go_loopw [15] (fun i wr => EncRel w n i wr) (fun i _ => esz n - (intOf i).toNat)
  case atStart => exact ⟨0, by omega, rfl, Row.new _ _ _ _ hz.out, (Below.refl _ _).alloc (Nat.le_refl _) _⟩
  case round =>
    obtain ⟨k, hk, rfl, hrow, hnx⟩ := hrel
    by_cases hlt : k < esz n
    · have hcell := hrow.cell k
      rw [encRow_get hlt, if_neg (by omega)] at hcell
      have hfr := hrow.frozen k
      have hor := hidden (enc_or (n := n) (k := k))
      go_wp2
      go_roundw
      case rel =>
        refine ⟨k + 1, by omega, by go_num, ?_, hnx.setCell (Nat.le_refl _) _⟩
        have h1 := hrow.set_ k (.int .u8 ((128 + n / 128 ^ k % 128 : Nat) : Int))
        rw [encRow_set hlt, ← hor.out] at h1
        exact h1
      case measure => simp [intOf]; omega
    · have hke : k = esz n := by omega
      have hrow' : Row wr w.heap.size 5 (encRow n (esz n) (esz n)) := by have h := hrow; rw [hke] at h; exact h
      have hix : ((esz n : Int) - 1).toNat = esz n - 1 := by omega
      have hcell := hrow'.cell (esz n - 1)
      rw [encRow_get (by omega), if_pos (by omega)] at hcell
      have hfr := hrow'.frozen (esz n - 1)
      have han := hidden (enc_andNot (n / 128 ^ (esz n - 1) % 128) (by omega))
      have hke' := hidden hke
      clear hke hrow
      have hv : Hid (bits .andNot .u8 (128 + (n : Int) / 128 ^ (esz n - 1) % 128) 128 = ((n / 128 ^ (esz n - 1) % 128 : Nat) : Int)) := by
        show bits .andNot .u8 (128 + (n : Int) / 128 ^ (esz n - 1) % 128) 128 = _
        rw [← han.out]; simp
      clear han
      go_wp2
      go_ret
      rw [hv.out]
      have h1 := hrow'.set_ (esz n - 1) (.int .u8 ((n / 128 ^ (esz n - 1) % 128 : Nat) : Int))
      rw [HD.out] at h1
      have h2 := h1.own (base := w.heap.size) (Nat.le_refl _) (by rw [bcells_length, HL.out]; unfold maxLen; omega)
      rw [bcells_length] at h2
      refine ⟨_, ?_, h2, hnx.setCell (Nat.le_refl _) _⟩
      rw [HL.out]; rfl
end Go.Proofs.YthmipnokimlbdaaGreat
