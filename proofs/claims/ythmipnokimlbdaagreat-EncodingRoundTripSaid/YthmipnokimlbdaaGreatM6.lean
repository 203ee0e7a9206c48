/-
  Texts that the claims of this seat share, put together (Width, Enc). No condition.
-/
import Derived.Test.YthmipnokimlbdaaGreatProg
import Derived.Test.YthmipnokimlbdaaGreatM4
import Derived.WalkKit
import Derived.Lib.Strings
import Derived.Lib.Slices
import Derived.Lib.Small
import Derived.Lib.Walk
import Derived.Test.YthmipnokimlbdaaGreatM5
import Derived.Outline
import Derived.OwnWalk
/-
  Shaken: what the claims of this seat need of this text. No condition.
-/
namespace Go.Proofs.YthmipnokimlbdaaGreat
open Go.RowKit
set_option maxRecDepth 100000 in
theorem tab_size : Lib.len8tab.size = 256 := by decide
theorem tab_fin : ∀ i : Fin 256, (Lib.len8tab[i.val]'(by rw [tab_size]; exact i.isLt)).toNat = Lib.bitLen i.val := by decide +kernel
theorem tab_get (i : Nat) (h : i < Lib.len8tab.size) : (Lib.len8tab[i]'h).toNat = Lib.bitLen i := tab_fin ⟨i, by rw [tab_size] at h; exact h⟩
theorem len_close (k : Nat) (K x Y : Int) (h0 : 0 ≤ x) (h1 : x ≤ 18446744073709551615) (hK : K = (k : Int)) (hk : 2 ^ k ≤ x.toNat) (e : Y.toNat = x.toNat / 2 ^ k) :
    wrap64 (K + wrap64 (Lib.bitLen Y.toNat : Int)) = (Lib.bitLen x.toNat : Int) := by
  have hs := Lib.bitLen_shift k x.toNat hk (by omega)
  have hb := bitLen_bd (n := x.toNat) (by omega)
  rw [← e] at hs
  simp only [wrap64]
  omega
theorem len_close0 (x : Int) (h1 : x ≤ 18446744073709551615) : wrap64 (wrap64 (Lib.bitLen x.toNat : Int)) = (Lib.bitLen x.toNat : Int) := by
  have hb := bitLen_bd (n := x.toNat) (by omega)
  simp only [wrap64]
  omega
set_option maxHeartbeats 4000000 in
set_option maxRecDepth 100000 in
theorem len64_any (x : Int) (w : World) (h0 : 0 ≤ x) (h1 : x ≤ 18446744073709551615) :
    Calls Tryz.prog 219 #[.int .u64 x] w fun e w' => e = .returned (.int .i64 (Lib.bitLen x.toNat)) ∧ w = w' := by
  have hsz : (256 : Int) ≤ (Lib.len8tab.size : Int) := by rw [tab_size]; decide
  go_enter Tryz.func219, Tryz.ntmps219
  go_wp2
  all_goals (go_ret; refine ⟨congrArg Ending.returned (congrArg (Value.int IntKind.i64) ?_), rfl⟩)
  all_goals rw [tab_get]
  all_goals first
    | exact len_close 56 56 x _ h0 h1 rfl (by omega) (by omega)
    | exact len_close 48 48 x _ h0 h1 rfl (by omega) (by omega)
    | exact len_close 40 40 x _ h0 h1 rfl (by omega) (by omega)
    | exact len_close 32 32 x _ h0 h1 rfl (by omega) (by omega)
    | exact len_close 24 24 x _ h0 h1 rfl (by omega) (by omega)
    | exact len_close 16 16 x _ h0 h1 rfl (by omega) (by omega)
    | exact len_close 8 8 x _ h0 h1 rfl (by omega) (by omega)
    | exact len_close0 x h1
theorem bitWidth_any (x : Int) (w : World) (h0 : 0 ≤ x) (h1 : x ≤ 18446744073709551615) :
    Calls Tryz.prog 200 #[.int .u64 x] w fun e w' => e = .returned (.int .i64 (Lib.bitLen x.toNat)) ∧ w = w' := by
  go_enter Tryz.func200, Tryz.ntmps200
  go_wp2_with ((go_at_call 219; refine (len64_any x _ h0 h1).mono ?_; rintro e w' ⟨rfl, rfl⟩))
  go_ret
  exact ⟨rfl, rfl⟩
end Go.Proofs.YthmipnokimlbdaaGreat
/-
  Shaken: what the claims of this seat need of this text. No condition.
-/
namespace Go.Proofs.YthmipnokimlbdaaGreat
set_option maxRecDepth 8000
open Go.RowKit
def EncRel (w : World) (n : Nat) (i : Value) (wr : World) : Prop :=
  ∃ k : Nat, k ≤ esz n ∧ i = .int .i64 k ∧ Row wr w.heap.size 5 (encRow n (esz n) k) ∧ Below w.heap.size w wr
set_option maxHeartbeats 400000 in
theorem encode_any (x : Int) (w : World) (h0 : 0 ≤ x) (h1 : x ≤ 18446744073709551615) :
    Calls Tryz.prog 149 #[.int .u64 x] w (Made (enc x.toNat) w) := by
  obtain ⟨n, rfl⟩ := Int.eq_ofNat_of_zero_le h0
  have hn : n < 18446744073709551616 := by omega
  rw [Int.toNat_natCast]
  have hb := bitLen_bd hn
  obtain ⟨hs1, hs2⟩ := esz_bd hn
  have hmx : max (1 : Int) ((((Lib.bitLen n : Nat) : Int) + 7 - 1) / 7) = (esz n : Int) := by
    unfold esz; omega
  have hbw := fun W => bitWidth_any (n : Int) W h0 h1
  rw [Int.toNat_natCast] at hbw
  have HD := hidden (encRow_done hn)
  have HL := hidden (enc_length hn)
  generalize Lib.bitLen n = L at *
  have HB := hidden hbw
  clear hbw
  have hmk := run_make_bytes (P := Tryz.prog) 29 5 Tryz.underlying29 info_u8 (esz n) (by omega)
  have hz := hidden (encRow_zero n (esz n))
  go_enter Tryz.func149, Tryz.ntmps149
  go_wp2_with ((go_at_call 200; refine (HB.out _).mono ?_; rintro e w' ⟨rfl, rfl⟩))
  clear hmk
  have HX := hidden hmx
  clear hmx
  go_loopw [15] (fun i wr => EncRel w n i wr) (fun i _ => esz n - (intOf i).toNat)
  case atStart => exact ⟨0, by omega, rfl, Row.new _ _ _ _ hz.out, (Below.refl _ _).alloc (Nat.le_refl _) _⟩
  case round =>
    obtain ⟨k, hk, rfl, hrow, hnx⟩ := hrel
    by_cases hlt : k < esz n
    · have hcell := hrow.cell k
      rw [encRow_get hlt, if_neg (by omega)] at hcell
      have hfr := hrow.frozen k
      have hor := hidden (enc_or (n := n) (k := k))
      go_wp2
      go_roundw
      case rel =>
        refine ⟨k + 1, by omega, by go_num, ?_, hnx.setCell (Nat.le_refl _) _⟩
        have h1 := hrow.set_ k (.int .u8 ((128 + n / 128 ^ k % 128 : Nat) : Int))
        rw [encRow_set hlt, ← hor.out] at h1
        exact h1
      case measure => simp [intOf]; omega
    · have hke : k = esz n := by omega
      have hrow' : Row wr w.heap.size 5 (encRow n (esz n) (esz n)) := by have h := hrow; rw [hke] at h; exact h
      have hix : ((esz n : Int) - 1).toNat = esz n - 1 := by omega
      have hcell := hrow'.cell (esz n - 1)
      rw [encRow_get (by omega), if_pos (by omega)] at hcell
      have hfr := hrow'.frozen (esz n - 1)
      have han := hidden (enc_andNot (n / 128 ^ (esz n - 1) % 128) (by omega))
      have hke' := hidden hke
      clear hke hrow
      have hv : Hid (bits .andNot .u8 (128 + (n : Int) / 128 ^ (esz n - 1) % 128) 128 = ((n / 128 ^ (esz n - 1) % 128 : Nat) : Int)) := by
        show bits .andNot .u8 (128 + (n : Int) / 128 ^ (esz n - 1) % 128) 128 = _
        rw [← han.out]; simp
      clear han
      go_wp2
      go_ret
      rw [hv.out]
      have h1 := hrow'.set_ (esz n - 1) (.int .u8 ((n / 128 ^ (esz n - 1) % 128 : Nat) : Int))
      rw [HD.out] at h1
      have h2 := h1.own (base := w.heap.size) (Nat.le_refl _) (by rw [bcells_length, HL.out]; unfold maxLen; omega)
      rw [bcells_length] at h2
      refine ⟨_, ?_, h2, hnx.setCell (Nat.le_refl _) _⟩
      rw [HL.out]; rfl
end Go.Proofs.YthmipnokimlbdaaGreat
