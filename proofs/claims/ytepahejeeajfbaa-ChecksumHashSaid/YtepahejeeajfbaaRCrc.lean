/-
  The reference's Update and CRC return 'crcOf'; its Same says whether two byte slices are equal: for all arguments; the world is as it was.
-/
import Derived.Test.YtepahejeeajfbaaProg
import Derived.Test.YtepahejeeajfbaaCrcNum
import Derived.Test.YtepahejeeajfbaaApp
import Derived.WalkKit
import Derived.Outline
import Derived.Deep.QuietTactic
import Derived.BigQuiet
namespace Go.Proofs.Ytepahejeeajfbaa
open Go.RowKit

theorem retU {k : IntKind} {a b : Int} (h : a = b) : Ending.returned (.int k a) = .returned (.int k b) := by rw [h]

theorem and1_u32 (x : Nat) (h : x < 4294967296) : bits .and .u32 (x : Int) 1 = ((x % 2 : Nat) : Int) := by
  have h1 := u32_and_nat x 1 h (by decide)
  rw [show ((1 : Nat) : Int) = 1 from rfl] at h1
  rw [h1, nat_mask1]
theorem half_odd {x : Nat} (h : x < 4294967296) (ho : x % 2 = 1) : bits .xor .u32 ((x : Int) / 2) 2197175160 = (half x : Int) := by
  have e : ((x : Int) / 2) = ((x / 2 : Nat) : Int) := by omega
  have h1 := u32_xor_nat (x / 2) 2197175160 (by omega) (by decide)
  rw [e, show (2197175160 : Int) = ((2197175160 : Nat) : Int) from rfl, h1]
  unfold half
  rw [if_pos ho]; rfl
theorem half_even {x : Nat} (ho : ¬ x % 2 = 1) : ((x : Int) / 2) = (half x : Int) := by
  unfold half
  rw [if_neg ho]; omega

def StepRel (t : Nat) (c i : Value) : Prop := ∃ k x : Nat, k ≤ 8 ∧ x < 4294967296 ∧ i = .int .i64 k ∧ c = .int .u32 x ∧ halfN (8 - k) x = t

set_option maxHeartbeats 400000 in
theorem rstep_any (c b : Nat) (w : World) (hc : c < 4294967296) (hb : b < 256) :
    Calls Try.prog 27 #[.int .u32 (c : Int), .int .u8 (b : Int)] w fun e w' => e = .returned (.int .u32 (step8 c b : Int)) ∧ w = w' := by
  have hx : Hid (bits .xor .u32 (c : Int) (b : Int) = ((c ^^^ b : Nat) : Int)) := u32_xor_nat c b hc (by omega)
  have hlt : c ^^^ b < 4294967296 := Nat.xor_lt_two_pow (n := 32) hc (by omega)
  go_enter Try.func27, Try.ntmps27
  go_wp2
  rw [hx.out]
  go_loop [0, 5] (StepRel (step8 c b)) (fun _ i => 8 - (intOf i).toNat)
  case atStart => exact ⟨0, c ^^^ b, by omega, hlt, rfl, rfl, rfl⟩
  case round =>
    obtain ⟨k, x, hk, hx1, rfl, rfl, hh⟩ := hrel
    have HH := hidden hh
    clear hh
    by_cases hlt8 : k < 8
    · have ha := hidden (and1_u32 x hx1)
      have hhl : half x < 4294967296 := half_lt hx1
      have hn : Hid (halfN (8 - (k + 1)) (half x) = step8 c b) := by
        show halfN (8 - (k + 1)) (half x) = _
        rw [← HH.out, show 8 - k = (8 - (k + 1)) + 1 by omega]; rfl
      by_cases ho : x % 2 = 1
      · have ht : (bits .and .u32 (x : Int) 1 == 1) = true := by rw [ha.out, ho]; rfl
        have hv := hidden (half_odd hx1 ho)
        clear ho
        go_wp2
        go_round
        case rel => exact ⟨k + 1, half x, by omega, hhl, by go_num, by rw [hv.out], hn.out⟩
        case measure => simp [intOf]; omega
      · have ht : (bits .and .u32 (x : Int) 1 == 1) = false := by rw [ha.out]; simp; omega
        have hv := hidden (half_even ho)
        clear ho
        go_wp2
        go_round
        case rel => exact ⟨k + 1, half x, by omega, hhl, by go_num, by rw [hv.out], hn.out⟩
        case measure => simp [intOf]; omega
    · have hke : k = 8 := by omega
      subst hke
      go_wp2
      go_ret
      have h9 : x = step8 c b := HH.out
      exact ⟨retU (by rw [h9]), rfl⟩

theorem not_u32 (x : Nat) (h : x < 4294967296) : bits .xor .u32 IntKind.u32.max (x : Int) = (not32 x : Int) := by
  have e : IntKind.u32.max = ((4294967295 : Nat) : Int) := by decide
  have ha : BitVec.ofInt 32 ((4294967295 : Nat) : Int) = BitVec.allOnes 32 := by decide
  rw [e]
  show IntKind.u32.wrap ((BitVec.ofInt 32 ((4294967295 : Nat) : Int) ^^^ BitVec.ofInt 32 (x : Int)).toNat : Int) = _
  rw [ha, BitVec.allOnes_xor, BitVec.toNat_not, ofInt_u32 x h, IntKind.wrap_u32']
  have : (2:Nat)^32 = 4294967296 := by decide
  unfold not32
  omega

def UpdRel (l : List UInt8) (c0 : Nat) (c i : Value) : Prop := ∃ k : Nat, k ≤ l.length ∧ i = .int .i64 k ∧ c = .int .u32 (upd c0 (l.take k) : Int)
theorem upd_take {l : List UInt8} {k : Nat} (c : Nat) (h : k < l.length) : upd c (l.take (k + 1)) = step8 (upd c (l.take k)) l[k].toNat := by
  rw [List.take_succ_eq_append_getElem h, upd_snoc]

set_option maxHeartbeats 400000 in
theorem rupdate_any (c : Nat) (v : Value) (l : List UInt8) (w : World) (hc : c < 4294967296) (hv : IsBytes w v l) (hl : l.length ≤ maxLen) :
    Calls Try.prog 13 #[.int .u32 (c : Int), v] w fun e w' => e = .returned (.int .u32 (crcOf c l : Int)) ∧ w = w' := by
  obtain ⟨A, d, rfl, hc'⟩ := hv
  have HC := hidden hc'
  have hnx := hidden (not_u32 c hc)
  have hn := not32_lt' c
  unfold maxLen at hl
  have HR : Hid (crcOf c l = not32 (upd (not32 c) l)) := by show _ = _; rfl
  clear hc'
  go_enter Try.func13, Try.ntmps13
  go_wp2
  rw [hnx.out]
  generalize not32 c = c0 at *
  go_loop [0, 5] (UpdRel l c0) (fun _ i => l.length - (intOf i).toNat)
  case atStart => exact ⟨0, by omega, rfl, rfl⟩
  case round =>
    obtain ⟨k, hk, rfl, rfl⟩ := hrel
    by_cases hlt : k < l.length
    · obtain ⟨b, off, rfl, hcell⟩ := HC.out (by omega)
      have hcl := hcell k hlt
      have ht := hidden (upd_take c0 hlt)
      have hu : upd c0 (l.take k) < 4294967296 := upd_lt' _ hn
      have hb : l[k].toNat < 256 := l[k].toNat_lt
      clear hcell
      generalize upd c0 (l.take k) = x at *
      generalize l[k].toNat = y at *
      go_wp2_with (go_at_call 27; refine (rstep_any x y _ hu hb).mono ?_; rintro e w' ⟨rfl, rfl⟩)
      go_round
      case rel => exact ⟨k + 1, by omega, by go_num, by rw [ht.out]⟩
      case measure => simp [intOf]; omega
    · have hke : k = l.length := by omega
      have ht : upd c0 (l.take k) = upd c0 l := by rw [hke, List.take_length]
      rw [ht]
      have hu : upd c0 l < 4294967296 := upd_lt' _ hn
      have hnn := hidden (not_u32 _ hu)
      clear hke ht
      generalize upd c0 l = x at *
      go_wp2
      go_ret
      exact ⟨retU (by rw [HR.out, hnn.out]), rfl⟩

/-- the checksum of several parts -/
def crcParts (ls : List (List UInt8)) : Nat := crcOf 0 ls.flatten
theorem crcOf_take {ls : List (List UInt8)} {k : Nat} (h : k < ls.length) : crcOf 0 (ls.take (k + 1)).flatten = crcOf (crcOf 0 (ls.take k).flatten) ls[k] := by
  rw [flatten_take h, crcOf_append]
def CrcRel (ls : List (List UInt8)) (c i : Value) : Prop := ∃ k : Nat, k ≤ ls.length ∧ i = .int .i64 k ∧ c = .int .u32 (crcOf 0 (ls.take k).flatten : Int)

set_option maxHeartbeats 400000 in
theorem rcrc_any (v : Value) (ls : List (List UInt8)) (w : World) (hv : IsParts w v ls) (hl : ls.length ≤ maxLen) (hp : ∀ l ∈ ls, l.length ≤ maxLen) :
    Calls Try.prog 11 #[v] w fun e w' => e = .returned (.int .u32 (crcParts ls : Int)) ∧ w = w' := by
  obtain ⟨A, d, rfl, hc'⟩ := hv
  have HC := hidden hc'
  have HP := hidden hp
  have HR : Hid (crcParts ls = crcOf 0 ls.flatten) := by show _ = _; rfl
  unfold maxLen at hl
  clear hc' hp
  go_enter Try.func11, Try.ntmps11
  go_wp2
  go_loop [3, 4] (CrcRel ls) (fun _ i => ls.length - (intOf i).toNat)
  case atStart => exact ⟨0, by omega, rfl, by rw [List.take_zero, List.flatten_nil, crcOf_nil (by decide)]; rfl⟩
  case round =>
    obtain ⟨k, hk, rfl, rfl⟩ := hrel
    by_cases hlt : k < ls.length
    · obtain ⟨b, off, rfl, hcell⟩ := HC.out (by omega)
      obtain ⟨B, e, hcl, hby⟩ := hcell k hlt
      have ht := hidden (crcOf_take hlt)
      have hcb : crcOf 0 (ls.take k).flatten < 4294967296 := crcOf_lt _ _
      have HB := hidden hby
      have HM := hidden (HP.out _ (List.getElem_mem hlt))
      clear hcell hby
      generalize crcOf 0 (ls.take k).flatten = x at *
      go_wp2_with (go_at_call 13; refine (rupdate_any x _ _ _ hcb HB.out HM.out).mono ?_; rintro e w' ⟨rfl, rfl⟩)
      go_round
      case rel => exact ⟨k + 1, by omega, by go_num, by rw [ht.out]⟩
      case measure => simp [intOf]; omega
    · have hke : k = ls.length := by omega
      have ht : crcOf 0 (ls.take k).flatten = crcOf 0 ls.flatten := by rw [hke, List.take_length]
      rw [ht]
      clear hke ht
      go_wp2
      go_ret
      exact ⟨retU (by rw [HR.out]), rfl⟩

theorem Grows.drewN {w a : World} (h : Grows w a) (n : Nat) : Grows w (a.drewN n) := ⟨h.os, h.tape, h.output, h.size, h.block⟩

def SameRel (l r : List UInt8) (w : World) (i : Value) (wr : World) : Prop := ∃ k : Nat, k ≤ l.length ∧ i = .int .i64 k ∧ l.take k = r.take k ∧ Grows w wr
def sameB (l r : List UInt8) : Bool := decide (l = r)
theorem sameB_f {l r : List UInt8} (h : l ≠ r) : sameB l r = false := by simpa [sameB] using h
theorem sameB_t {l r : List UInt8} (h : l = r) : sameB l r = true := by simpa [sameB] using h

set_option maxHeartbeats 400000 in
theorem same_any (v u : Value) (l r : List UInt8) (w : World) (hv : IsBytes w v l) (hu : IsBytes w u r) (hl : l.length ≤ maxLen) (hr : r.length ≤ maxLen) :
    Calls Try.prog 14 #[v, u] w fun e w' => e = .returned (.bool (sameB l r)) ∧ Grows w w' := by
  have HV := hidden hv
  have HU := hidden hu
  obtain ⟨A, d, rfl, hc⟩ := hv
  obtain ⟨B, e, rfl, hd⟩ := hu
  unfold maxLen at hl hr
  clear hc hd
  by_cases hlen : l.length = r.length
  · have HL := hidden hlen
    have hne : ((l.length : Int) != (r.length : Int)) = false := by rw [hlen]; simp
    have hle : (r.length : Int) ≤ (l.length : Int) := by omega
    have hle2 : (l.length : Int) ≤ (r.length : Int) := by omega
    clear hlen
    go_enter Try.func14, Try.ntmps14
    go_wp2
    go_loopw [5] (fun i wr => SameRel l r w i wr) (fun i _ => l.length - (intOf i).toNat)
    case atStart => exact ⟨0, by omega, rfl, rfl, Below.refl _ _⟩
    case round =>
      obtain ⟨k, hk, rfl, hsame, hg⟩ := hrel
      have HS := hidden hsame
      have HG := hidden hg
      clear hsame
      by_cases hlt : k < l.length
      · have hlt2 : k < r.length := by omega
        obtain ⟨A', d', hA, hcA⟩ := HV.out.grow hg
        injection hA with e1 e2 e3
        subst e1 e3
        obtain ⟨B', e', hB, hcB⟩ := HU.out.grow hg
        injection hB with e4 e5 e6
        subst e4 e6
        obtain ⟨b, off, rfl, hcell⟩ := hcA (by omega)
        obtain ⟨b2, off2, rfl, hcell2⟩ := hcB (by omega)
        have hcl := hcell k hlt
        have hcl2 := hcell2 k hlt2
        clear hcell hcell2 hcA hcB e2 e5 hg
        have hi0 : (0 : Int) ≤ (k : Int) := by omega
        have hi1 : (k : Int) < (l.length : Int) := by omega
        have hi2 : (k : Int) < (r.length : Int) := by omega
        by_cases heq : l[k] = r[k]
        · have HN : Hid (l.take (k + 1) = r.take (k + 1)) := by
            show _ = _
            rw [List.take_succ_eq_append_getElem hlt, List.take_succ_eq_append_getElem hlt2, HS.out, heq]
          have ht : ((l[k].toNat : Int) != (r[k].toNat : Int)) = false := by rw [heq]; simp
          clear heq
          generalize l[k].toNat = x at *
          generalize r[k].toNat = y at *
          go_wp2_with fail
          go_quiet (fail)
          go_wp2
          go_roundw
          case rel => exact ⟨k + 1, by omega, by go_num, HN.out, HG.out.drewN _⟩
          case measure => simp [intOf]; omega
        · have HF : Hid (sameB l r = false) := sameB_f (fun h => by subst h; exact heq rfl)
          have ht : ((l[k].toNat : Int) != (r[k].toNat : Int)) = true := by
            have : l[k].toNat ≠ r[k].toNat := fun h => heq (UInt8.toNat_inj.1 h)
            simp; omega
          clear heq
          generalize l[k].toNat = x at *
          generalize r[k].toNat = y at *
          go_wp2_with fail
          go_quiet (fail)
          go_wp2
          go_ret
          rw [HF.out]
          exact ⟨rfl, HG.out.drewN _⟩
      · have HF : Hid (sameB l r = true) := by
          have h1 := HS.out
          rw [List.take_of_length_le (by omega), List.take_of_length_le (by omega)] at h1
          exact sameB_t h1
        clear hg
        go_wp2
        go_ret
        rw [HF.out]
        exact ⟨rfl, HG.out⟩
  · have HF : Hid (sameB l r = false) := sameB_f (fun h => by subst h; exact hlen rfl)
    have hne : ((l.length : Int) != (r.length : Int)) = true := by simp; omega
    clear hlen
    go_enter Try.func14, Try.ntmps14
    go_wp2
    go_ret
    rw [HF.out]
    exact ⟨rfl, Below.refl _ _⟩

end Go.Proofs.Ytepahejeeajfbaa
