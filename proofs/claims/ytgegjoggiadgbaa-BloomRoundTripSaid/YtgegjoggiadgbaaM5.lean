/-
  Texts that the claims of this seat share, put together (Width, Enc, Fix, Read). No condition.
-/
import Derived.Test.YtgegjoggiadgbaaProg
import Derived.Test.YtgegjoggiadgbaaM3
import Derived.WalkKit
import Derived.Lib.Strings
import Derived.Lib.Slices
import Derived.Lib.Small
import Derived.Lib.Walk
import Derived.Test.YtgegjoggiadgbaaM6
import Derived.Outline
import Derived.OwnWalk
/-
  Shaken: what the claims of this seat need of this text. No condition.
-/
namespace Go.Proofs.Ytgegjoggiadgbaa
open Go.RowKit
set_option maxRecDepth 100000 in
theorem tab_size : Lib.len8tab.size = 256 := by decide
theorem tab_fin : ∀ i : Fin 256, (Lib.len8tab[i.val]'(by rw [tab_size]; exact i.isLt)).toNat = Lib.bitLen i.val := by decide +kernel
theorem tab_get (i : Nat) (h : i < Lib.len8tab.size) : (Lib.len8tab[i]'h).toNat = Lib.bitLen i := tab_fin ⟨i, by rw [tab_size] at h; exact h⟩
theorem len_close (k : Nat) (K x Y : Int) (h0 : 0 ≤ x) (h1 : x ≤ 18446744073709551615) (hK : K = (k : Int)) (hk : 2 ^ k ≤ x.toNat) (e : Y.toNat = x.toNat / 2 ^ k) :
    wrap64 (K + wrap64 (Lib.bitLen Y.toNat : Int)) = (Lib.bitLen x.toNat : Int) := by
  have hs := Lib.bitLen_shift k x.toNat hk (by omega)
  have hb := bitLen_bd (n := x.toNat) (by omega)
  rw [← e] at hs
  simp only [wrap64]
  omega
theorem len_close0 (x : Int) (h1 : x ≤ 18446744073709551615) : wrap64 (wrap64 (Lib.bitLen x.toNat : Int)) = (Lib.bitLen x.toNat : Int) := by
  have hb := bitLen_bd (n := x.toNat) (by omega)
  simp only [wrap64]
  omega
set_option maxHeartbeats 4000000 in
set_option maxRecDepth 100000 in
theorem len64_any (x : Int) (w : World) (h0 : 0 ≤ x) (h1 : x ≤ 18446744073709551615) :
    Calls Try.prog 71 #[.int .u64 x] w fun e w' => e = .returned (.int .i64 (Lib.bitLen x.toNat)) ∧ w = w' := by
  have hsz : (256 : Int) ≤ (Lib.len8tab.size : Int) := by rw [tab_size]; decide
  go_enter Try.func71, Try.ntmps71
  go_wp2
  all_goals (go_ret; refine ⟨congrArg Ending.returned (congrArg (Value.int IntKind.i64) ?_), rfl⟩)
  all_goals rw [tab_get]
  all_goals first
    | exact len_close 56 56 x _ h0 h1 rfl (by omega) (by omega)
    | exact len_close 48 48 x _ h0 h1 rfl (by omega) (by omega)
    | exact len_close 40 40 x _ h0 h1 rfl (by omega) (by omega)
    | exact len_close 32 32 x _ h0 h1 rfl (by omega) (by omega)
    | exact len_close 24 24 x _ h0 h1 rfl (by omega) (by omega)
    | exact len_close 16 16 x _ h0 h1 rfl (by omega) (by omega)
    | exact len_close 8 8 x _ h0 h1 rfl (by omega) (by omega)
    | exact len_close0 x h1
theorem bitWidth_any (x : Int) (w : World) (h0 : 0 ≤ x) (h1 : x ≤ 18446744073709551615) :
    Calls Try.prog 65 #[.int .u64 x] w fun e w' => e = .returned (.int .i64 (Lib.bitLen x.toNat)) ∧ w = w' := by
  go_enter Try.func65, Try.ntmps65
  go_wp2_with ((go_at_call 71; refine (len64_any x _ h0 h1).mono ?_; rintro e w' ⟨rfl, rfl⟩))
  go_ret
  exact ⟨rfl, rfl⟩
end Go.Proofs.Ytgegjoggiadgbaa
/-
  Shaken: what the claims of this seat need of this text. No condition.
-/
namespace Go.Proofs.Ytgegjoggiadgbaa
set_option maxRecDepth 8000
open Go.RowKit
def REncRel (w : World) (n : Nat) (out x : Value) (wr : World) : Prop :=
  ∃ (f m : Nat) (pre : List UInt8), x = .int .u64 m ∧ m < 128 ^ (f + 1) ∧ m < 18446744073709551616 ∧ pre.length + f ≤ 9 ∧ pre ++ encF (f + 1) m = enc n ∧
    wr.ownsRow w.heap.size 5 1 out pre.length (bcells pre) ∧ Below w.heap.size w wr
set_option maxHeartbeats 400000 in
theorem rencode_any (x : Int) (w : World) (h0 : 0 ≤ x) (h1 : x ≤ 18446744073709551615) :
    Calls Try.prog 47 #[.int .u64 x] w (Made (enc x.toNat) w) := by
  obtain ⟨n, rfl⟩ := Int.eq_ofNat_of_zero_le h0
  rw [Int.toNat_natCast]
  go_enter Try.func47, Try.ntmps47
  go_wp2
  go_loopw [0, 3] (fun x out wr => REncRel w n out x wr) (fun x _ _ => (intOf x).toNat)
  case atStart => exact ⟨9, n, [], rfl, by omega, by omega, by simp, rfl, World.ownsRow_nil _ _ _ _, Below.refl _ _⟩
  case round =>
    obtain ⟨f, m, pre, rfl, hm, hm64, hf, henc, hown, hnx⟩ := hrel
    have HE := hidden henc
    have HM := hidden hm
    clear henc hm
    by_cases hlt : 127 < m
    · have hz : Hid ((128 : Int) + (m : Int) % 128 = ((UInt8.ofNat (128 + m % 128)).toNat : Int)) := by
        show (128 : Int) + (m : Int) % 128 = _
        rw [ofNat_toNat (by omega)]; omega
      have hpl : pre.length + 1 ≤ 140737488355328 := by omega
      go_wp2_with ((at_builtin; go_loud (refine wpList_append_byte (w := w) (wr := wr) rfl _ _ 43 rfl 5 Try.underlying43 info_u8 _ pre (by rfl) hown hnx _ (UInt8.ofNat (128 + m % 128)) hz.out (by rfl) hpl ?_); intro v' w1 hown1 hnx1))
      go_roundw
      case rel =>
        cases f with
        | zero => have := HM.out; omega
        | succ f =>
          refine ⟨f, m / 128, pre ++ [UInt8.ofNat (128 + m % 128)], by go_num, ?_, by omega, by simp; omega, ?_, hown1, hnx1⟩
          · have := HM.out; rw [Nat.pow_succ] at this; omega
          · rw [List.append_assoc, ← HE.out, encF_more (f := f + 1) (n := m) (by omega)]; rfl
      case measure => simp [intOf]; omega
    · have hz : Hid ((m : Int) = ((UInt8.ofNat m).toNat : Int)) := by
        show (m : Int) = _
        rw [ofNat_toNat (by omega)]
      have hpl : pre.length + 1 ≤ 140737488355328 := by omega
      go_wp2_with ((at_builtin; go_loud (refine wpList_append_byte (w := w) (wr := wr) rfl _ _ 43 rfl 5 Try.underlying43 info_u8 _ pre (by rfl) hown hnx _ (UInt8.ofNat m) hz.out (by rfl) hpl ?_); intro v' w1 hown1 hnx1))
      go_ret
      have he : pre ++ [UInt8.ofNat m] = enc n := by rw [← HE.out, encF_last (by omega)]
      rw [he] at hown1
      exact ⟨_, rfl, hown1, hnx1⟩
def EncRel (w : World) (n : Nat) (i : Value) (wr : World) : Prop :=
  ∃ k : Nat, k ≤ esz n ∧ i = .int .i64 k ∧ Row wr w.heap.size 5 (encRow n (esz n) k) ∧ Below w.heap.size w wr
set_option maxHeartbeats 400000 in
theorem encode_any (x : Int) (w : World) (h0 : 0 ≤ x) (h1 : x ≤ 18446744073709551615) :
    Calls Try.prog 45 #[.int .u64 x] w (Made (enc x.toNat) w) := by
  obtain ⟨n, rfl⟩ := Int.eq_ofNat_of_zero_le h0
  have hn : n < 18446744073709551616 := by omega
  rw [Int.toNat_natCast]
  have hb := bitLen_bd hn
  obtain ⟨hs1, hs2⟩ := esz_bd hn
  have hmx : max (1 : Int) ((((Lib.bitLen n : Nat) : Int) + 7 - 1) / 7) = (esz n : Int) := by
    unfold esz; omega
  have hbw := fun W => bitWidth_any (n : Int) W h0 h1
  rw [Int.toNat_natCast] at hbw
  have HD := hidden (encRow_done hn)
  have HL := hidden (enc_length hn)
  generalize Lib.bitLen n = L at *
  have HB := hidden hbw
  clear hbw
  have hmk := run_make_bytes (P := Try.prog) 43 5 Try.underlying43 info_u8 (esz n) (by omega)
  have hz := hidden (encRow_zero n (esz n))
  go_enter Try.func45, Try.ntmps45
  go_wp2_with ((go_at_call 65; refine (HB.out _).mono ?_; rintro e w' ⟨rfl, rfl⟩))
  clear hmk
  have HX := hidden hmx
  clear hmx
  go_loopw [15] (fun i wr => EncRel w n i wr) (fun i _ => esz n - (intOf i).toNat)
  case atStart => exact ⟨0, by omega, rfl, Row.new _ _ _ _ hz.out, (Below.refl _ _).alloc (Nat.le_refl _) _⟩
  case round =>
    obtain ⟨k, hk, rfl, hrow, hnx⟩ := hrel
    by_cases hlt : k < esz n
    · have hcell := hrow.cell k
      rw [encRow_get hlt, if_neg (by omega)] at hcell
      have hfr := hrow.frozen k
      have hor := hidden (enc_or (n := n) (k := k))
      go_wp2
      go_roundw
      case rel =>
        refine ⟨k + 1, by omega, by go_num, ?_, hnx.setCell (Nat.le_refl _) _⟩
        have h1 := hrow.set_ k (.int .u8 ((128 + n / 128 ^ k % 128 : Nat) : Int))
        rw [encRow_set hlt, ← hor.out] at h1
        exact h1
      case measure => simp [intOf]; omega
    · have hke : k = esz n := by omega
      have hrow' : Row wr w.heap.size 5 (encRow n (esz n) (esz n)) := by have h := hrow; rw [hke] at h; exact h
      have hix : ((esz n : Int) - 1).toNat = esz n - 1 := by omega
      have hcell := hrow'.cell (esz n - 1)
      rw [encRow_get (by omega), if_pos (by omega)] at hcell
      have hfr := hrow'.frozen (esz n - 1)
      have han := hidden (enc_andNot (n / 128 ^ (esz n - 1) % 128) (by omega))
      have hke' := hidden hke
      clear hke hrow
      have hv : Hid (bits .andNot .u8 (128 + (n : Int) / 128 ^ (esz n - 1) % 128) 128 = ((n / 128 ^ (esz n - 1) % 128 : Nat) : Int)) := by
        show bits .andNot .u8 (128 + (n : Int) / 128 ^ (esz n - 1) % 128) 128 = _
        rw [← han.out]; simp
      clear han
      go_wp2
      go_ret
      rw [hv.out]
      have h1 := hrow'.set_ (esz n - 1) (.int .u8 ((n / 128 ^ (esz n - 1) % 128 : Nat) : Int))
      rw [HD.out] at h1
      have h2 := h1.own (base := w.heap.size) (Nat.le_refl _) (by rw [bcells_length, HL.out]; unfold maxLen; omega)
      rw [bcells_length] at h2
      refine ⟨_, ?_, h2, hnx.setCell (Nat.le_refl _) _⟩
      rw [HL.out]; rfl
end Go.Proofs.Ytgegjoggiadgbaa
/-
  Shaken: what the claims of this seat need of this text. No condition.
-/
namespace Go.Proofs.Ytgegjoggiadgbaa
set_option maxRecDepth 8000
open Go.RowKit
def RFixRel (w : World) (n s : Nat) (x out i : Value) (wr : World) : Prop :=
  ∃ k : Nat, k ≤ s ∧ i = .int .i64 k ∧ x = .int .u64 ((n / 256 ^ k : Nat) : Int) ∧ wr.ownsRow w.heap.size 5 1 out (fixb n k).length (bcells (fixb n k)) ∧ Below w.heap.size w wr
set_option maxHeartbeats 400000 in
theorem rfixed_any (x size : Int) (w : World) (h0 : 0 ≤ x) (h1 : x ≤ 18446744073709551615) :
    Calls Try.prog 48 #[.int .u64 x, .int .i64 size] w (Made (fixs x.toNat size) w) := by
  by_cases hs : size < 1
  · rw [fixs_bad (.inl hs)]
    go_enter Try.func48, Try.ntmps48
    go_wp2
    go_ret
    exact Made.nil_
  · by_cases hb : 8 < size
    · rw [fixs_bad (.inr hb)]
      have hs' : 1 ≤ size := by omega
      clear hs
      go_enter Try.func48, Try.ntmps48
      go_wp2
      go_ret
      exact Made.nil_
    · obtain ⟨n, rfl⟩ := Int.eq_ofNat_of_zero_le h0
      obtain ⟨s, rfl⟩ := Int.eq_ofNat_of_zero_le (show 0 ≤ size by omega)
      have hs1 : 1 ≤ s := by omega
      have hs8 : s ≤ 8 := by omega
      have hn : n < 18446744073709551616 := by omega
      clear hs hb
      rw [fixs_ok hs1 hs8, Int.toNat_natCast]
      have hd1 : decide ((s : Int) < 1) = false := by simp; omega
      have hd2 : decide ((8 : Int) < (s : Int)) = false := by simp; omega
      go_enter Try.func48, Try.ntmps48
      go_wp2
      go_loopw [0, 5, 6] (fun x out i wr => RFixRel w n s x out i wr) (fun _ _ i _ => s - (intOf i).toNat)
      case atStart => exact ⟨0, by omega, rfl, by simp, World.ownsRow_nil _ _ _ _, Below.refl _ _⟩
      case round =>
        obtain ⟨k, hk, rfl, rfl, hown, hnx⟩ := hrel
        have HF := hidden (fixb_succ n k)
        have HLn := hidden (fixb_length n k)
        have hq : n / 256 ^ k < 18446744073709551616 := Nat.lt_of_le_of_lt (Nat.div_le_self _ _) hn
        have HQ : Hid (n / 256 ^ (k + 1) = n / 256 ^ k / 256) := by
          show n / 256 ^ (k + 1) = _
          rw [Nat.div_div_eq_div_mul, Nat.pow_succ]
        have hz : Hid (((n / 256 ^ k : Nat) : Int) % 256 = ((UInt8.ofNat (n / 256 ^ k % 256)).toNat : Int)) := by
          show ((n / 256 ^ k : Nat) : Int) % 256 = _
          rw [ofNat_toNat (by omega)]; omega
        by_cases hlt : k < s
        · have hpl : (fixb n k).length + 1 ≤ 140737488355328 := by rw [HLn.out]; omega
          generalize fixb n k = pre at *
          generalize n / 256 ^ k = q at *
          go_wp2_with ((at_builtin; refine wpList_append_byte (w := w) (wr := wr) rfl _ _ 43 rfl 5 Try.underlying43 info_u8 _ pre (by rfl) hown hnx _ (UInt8.ofNat (q % 256)) hz.out (by rfl) hpl ?_; intro v' w1 hown1 hnx1))
          go_roundw
          case rel =>
            refine ⟨k + 1, by omega, by go_num, ?_, ?_, hnx1⟩
            · rw [HQ.out]; go_num
            · rw [HF.out]; exact hown1
          case measure => simp [intOf]; omega
        · have hke : k = s := by omega
          subst hke
          go_wp2
          go_ret
          exact ⟨_, rfl, hown, hnx⟩
end Go.Proofs.Ytgegjoggiadgbaa
/-
  Shaken: what the claims of this seat need of this text. No condition.
-/
namespace Go.Proofs.Ytgegjoggiadgbaa
open Go.RowKit
def RReadRel (l : List UInt8) (o s : Nat) (n i : Value) : Prop :=
  ∃ m x : Nat, m ≤ s ∧ i = .int .i64 ((m : Int) - 1) ∧ n = .int .u64 x ∧ x = le ((l.drop (o + m)).take (s - m))
theorem rread_step {l : List UInt8} {o s m : Nat} {c : UInt8} (hm : m + 1 ≤ s) (h : o + m < l.length) (hc : l[o + m] = c) :
    le ((l.drop (o + m)).take (s - m)) = le ((l.drop (o + (m + 1))).take (s - (m + 1))) * 256 + c.toNat := by
  rw [List.drop_eq_getElem_cons h, hc, show s - m = (s - (m + 1)) + 1 by omega, List.take_succ_cons, le]
  rw [show o + (m + 1) = o + m + 1 by omega]
  omega
set_option maxHeartbeats 400000 in
set_option maxRecDepth 100000 in
theorem rreadFixed_any (v : Value) (l : List UInt8) (off size : Int) (w : World) (hv : IsBytes w v l) (hl : l.length ≤ maxLen) (h63 : -9223372036854775808 ≤ off) (h64 : off ≤ 9223372036854775807) :
    Calls Try.prog 43 #[v, .int .i64 off, .int .i64 size] w fun e w' => e = .returned (.tuple #[.int .u64 (rdf l off size).1, .int .i64 (rdf l off size).2]) ∧ w = w' := by
  obtain ⟨A, c, rfl, hc⟩ := hv
  have hl' := hl
  unfold maxLen at hl'
  by_cases hs : size < 1
  · have HD := hidden (rdf_arg (l := l) (off := off) (.inl (.inl hs)))
    go_enter Try.func43, Try.ntmps43
    go_wp2
    go_ret2
    rw [HD.out]
    exact ⟨rfl, rfl⟩
  · have hs1 : 1 ≤ size := by omega
    have hd1 : decide (size < 1) = false := by simpa using hs
    clear hs
    by_cases hb : 8 < size
    · have HD := hidden (rdf_arg (l := l) (off := off) (.inl (.inr hb)))
      go_enter Try.func43, Try.ntmps43
      go_wp2
      go_ret2
      rw [HD.out]
      exact ⟨rfl, rfl⟩
    · have hs8 : size ≤ 8 := by omega
      have hd2 : decide (8 < size) = false := by simpa using hb
      clear hb
      by_cases ho : off < 0
      · have HD := hidden (rdf_arg (l := l) (off := off) (size := size) (.inr (.inl ho)))
        go_enter Try.func43, Try.ntmps43
        go_wp2
        go_ret2
        rw [HD.out]
        exact ⟨rfl, rfl⟩
      · have h0 : 0 ≤ off := by omega
        have hd3 : decide (off < 0) = false := by simpa using ho
        clear ho
        by_cases ho2 : (l.length : Int) < off
        · have HD := hidden (rdf_arg (l := l) (off := off) (size := size) (.inr (.inr ho2)))
          go_enter Try.func43, Try.ntmps43
          go_wp2
          go_ret2
          rw [HD.out]
          exact ⟨rfl, rfl⟩
        · have h1 : off ≤ (l.length : Int) := by omega
          have hd4 : decide ((l.length : Int) < off) = false := by simpa using ho2
          clear ho2
          by_cases hsh : (l.length : Int) - off < size
          · have HD := hidden (rdf_short (l := l) (off := off) (size := size) (by omega) hsh)
            go_enter Try.func43, Try.ntmps43
            go_wp2
            go_ret2
            rw [HD.out]
            exact ⟨rfl, rfl⟩
          · obtain ⟨o, rfl⟩ := Int.eq_ofNat_of_zero_le h0
            obtain ⟨s, rfl⟩ := Int.eq_ofNat_of_zero_le (show 0 ≤ size by omega)
            have HD := hidden (rdf_ok (l := l) (o := o) (s := s) (by omega) (by omega) (by omega))
            have hos : o + s ≤ l.length := by omega
            obtain ⟨b, f, rfl, hcell⟩ := hc (by omega)
            have HC := hidden hcell
            have hnsh : decide ((l.length : Int) - (o : Int) < (s : Int)) = false := by simpa using hsh
            clear hc hcell
            go_enter Try.func43, Try.ntmps43
            go_wp2
            go_loop [8, 9] (RReadRel l o s) (fun _ i => (intOf i + 1).toNat)
            case atStart => exact ⟨s, 0, by omega, rfl, rfl, by simp [le]⟩
            case round =>
              obtain ⟨m, x, hm, rfl, rfl, hx⟩ := hrel
              cases m with
              | zero =>
                have HX := hidden hx
                clear hx
                go_wp2
                go_ret2
                rw [HD.out]
                have h1 := HX.out
                simp only [Nat.add_zero, Nat.sub_zero] at h1
                exact ⟨ret2_eq (by rw [h1]) rfl, rfl⟩
              | succ m =>
                have hcl := HC.out (o + m) (by omega)
                generalize hcc : l[o + m] = cc at hcl
                have hst := rread_step hm (show o + m < l.length by omega) hcc
                rw [← hx] at hst
                have HN := hidden hst
                have hcb : cc.toNat < 256 := cc.toNat_lt
                have hxb : x * 256 + cc.toNat < 18446744073709551616 := by
                  rw [← hst]
                  exact le_lt64 (by rw [List.length_take]; omega)
                have e1 : Hid ((((m + 1 : Nat) : Int) - 1) = (m : Int)) := by
                  show (((m + 1 : Nat) : Int) - 1) = (m : Int)
                  omega
                clear hcc hst hx
                rw [e1.out]
                go_wp2
                go_round
                case rel => exact ⟨m, x * 256 + cc.toNat, by omega, rfl, by go_num, HN.out.symm⟩
                case measure => simp [intOf]
end Go.Proofs.Ytgegjoggiadgbaa
