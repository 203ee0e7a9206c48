/-
  Texts that the claims of this seat share, put together (RCrc, CkMix, RSeal, RHash). No condition.
-/
import Derived.Test.YtoaklmceejeblaaGreatProg
import Derived.Test.YtoaklmceejeblaaGreatM3
import Derived.Test.YtoaklmceejeblaaGreatApp
import Derived.WalkKit
import Derived.Outline
import Derived.Deep.QuietTactic
import Derived.BigQuiet
import Derived.Test.YtoaklmceejeblaaGreatM2
import Derived.OwnWalk
/-
  Shaken: what the claims of this seat need of this text. No condition.
-/
namespace Go.Proofs.YtoaklmceejeblaaGreat
set_option maxRecDepth 8000
open Go.RowKit
theorem Grows.drewN {w a : World} (h : Grows w a) (n : Nat) : Grows w (a.drewN n) := ⟨h.os, h.tape, h.output, h.size, h.block⟩
end Go.Proofs.YtoaklmceejeblaaGreat
/-
  Shaken: what the claims of this seat need of this text. No condition.
-/
namespace Go.Proofs.YtoaklmceejeblaaGreat
set_option maxRecDepth 8000
open Go.RowKit
set_option maxHeartbeats 400000 in
theorem mix_any (n : Nat) (w : World) (h : n < 18446744073709551616) :
    Calls Tryz.prog 109 #[.int .u64 (n : Int)] w fun e w' => e = .returned (.int .u64 (mix n : Int)) ∧ w = w' := by
  go_enter Tryz.func109, Tryz.ntmps109
  go_wp2
  go_ret
  refine ⟨retN ?_, rfl⟩
  exact mix_go h
end Go.Proofs.YtoaklmceejeblaaGreat
/-
  Shaken: what the claims of this seat need of this text. No condition.
-/
namespace Go.Proofs.YtoaklmceejeblaaGreat
set_option maxRecDepth 8000
open Go.RowKit
end Go.Proofs.YtoaklmceejeblaaGreat
/-
  Shaken: what the claims of this seat need of this text. No condition.
-/
namespace Go.Proofs.YtoaklmceejeblaaGreat
set_option maxRecDepth 8000
open Go.RowKit
def WordRel (l : List UInt8) (i : Nat) (x k : Value) : Prop :=
  ∃ m y : Nat, m ≤ 8 ∧ k = .int .i64 ((m : Int) - 1) ∧ x = .int .u64 y ∧ y = le ((l.drop (i + m)).take (8 - m))
theorem word_in {l : List UInt8} {i m : Nat} {c : UInt8} (hm : m + 1 ≤ 8) (h : i + m < l.length) (hc : l[i + m] = c) :
    le ((l.drop (i + m)).take (8 - m)) = le ((l.drop (i + (m + 1))).take (8 - (m + 1))) * 256 + c.toNat := by
  rw [List.drop_eq_getElem_cons h, hc, show 8 - m = (8 - (m + 1)) + 1 by omega, List.take_succ_cons, le]
  rw [show i + (m + 1) = i + m + 1 by omega]
  omega
theorem word_out {l : List UInt8} {i m : Nat} (h : l.length ≤ i + m) (k : Nat) : le ((l.drop (i + m)).take k) = 0 := by
  rw [List.drop_eq_nil_of_le h]; simp [le]
theorem word_lt {l : List UInt8} {i m : Nat} (hm : m + 1 ≤ 8) : le ((l.drop (i + (m + 1))).take (8 - (m + 1))) < 72057594037927936 := by
  have h1 := le_lt ((l.drop (i + (m + 1))).take (8 - (m + 1)))
  have h2 : 256 ^ ((l.drop (i + (m + 1))).take (8 - (m + 1))).length ≤ 256 ^ 7 := Nat.pow_le_pow_right (by decide) (by rw [List.length_take]; omega)
  have e : (256 : Nat) ^ 7 = 72057594037927936 := by decide
  omega
theorem word_or {y c : Nat} (hy : y < 72057594037927936) (hc : c < 256) : bits .or .u64 ((y : Int) * 256) (c : Int) = ((y * 256 + c : Nat) : Int) := by
  have h1 := u64_or_nat (y * 256) c (by omega) (by omega)
  rw [show ((y : Int) * 256) = ((y * 256 : Nat) : Int) by simp, h1, nat_join 8 _ _ (by simp) (by simpa using hc)]
set_option maxHeartbeats 400000 in
theorem rword_any (v : Value) (l : List UInt8) (i : Nat) (w : World) (hv : IsBytes w v l) (hl : l.length ≤ 4611686018427387904) (hi : i ≤ 4611686018427387904) :
    Calls Tryz.prog 157 #[v, .int .i64 (i : Int)] w fun e w' => e = .returned (.int .u64 (le ((l.drop i).take 8) : Int)) ∧ w = w' := by
  obtain ⟨A, d, rfl, hc⟩ := hv
  have HC := hidden hc
  clear hc
  go_enter Tryz.func157, Tryz.ntmps157
  go_wp2
  go_loop [5, 6] (WordRel l i) (fun _ k => (intOf k + 1).toNat)
  case atStart => exact ⟨8, 0, by omega, rfl, rfl, by simp [le]⟩
  case round =>
    obtain ⟨m, y, hm, rfl, rfl, hy⟩ := hrel
    cases m with
    | zero =>
      have HY := hidden hy
      clear hy
      go_wp2
      go_ret
      have h1 := HY.out
      simp only [Nat.add_zero, Nat.sub_zero] at h1
      exact ⟨retU (by rw [h1]), rfl⟩
    | succ m =>
      have e1 : Hid ((((m + 1 : Nat) : Int) - 1) = (m : Int)) := by
        show (((m + 1 : Nat) : Int) - 1) = (m : Int)
        omega
      have hyl : y < 72057594037927936 := by rw [hy]; exact word_lt hm
      by_cases hlt : i + m < l.length
      · obtain ⟨b, off, rfl, hcell⟩ := HC.out (by omega)
        have hcl := hcell (i + m) hlt
        generalize hcc : l[i + m] = cc at hcl
        have hst := word_in hm hlt hcc
        rw [← hy] at hst
        have HN := hidden hst
        have hcb : cc.toNat < 256 := cc.toNat_lt
        have HO := hidden (word_or hyl hcb)
        clear hcc hst hy hcell
        rw [e1.out]
        go_wp2
        go_round
        case rel => exact ⟨m, y * 256 + cc.toNat, by omega, rfl, by rw [HO.out], HN.out.symm⟩
        case measure => simp [intOf]
      · have hy0 : y = 0 := by rw [hy]; exact word_out (by omega) _
        have HN := hidden (word_out (l := l) (i := i) (m := m) (by omega) (8 - m))
        subst hy0
        clear hy
        rw [e1.out]
        go_wp2
        go_round
        case rel => exact ⟨m, 0, by omega, rfl, by go_num, HN.out.symm⟩
        case measure => simp [intOf]
def HashRel (l : List UInt8) (t : Nat) (h i : Value) : Prop :=
  ∃ j f x : Nat, j ≤ l.length + 7 ∧ l.length ≤ j + f ∧ i = .int .i64 j ∧ h = .int .u64 x ∧ x < 18446744073709551616 ∧ hashL f x (l.drop j) = t
theorem xor64_lt {a b : Nat} (ha : a < 18446744073709551616) (hb : b < 18446744073709551616) : a ^^^ b < 18446744073709551616 := Nat.xor_lt_two_pow (n := 64) ha hb
set_option maxHeartbeats 400000 in
theorem rhash_any (s : Nat) (v : Value) (l : List UInt8) (w : World) (hs : s < 18446744073709551616) (hv : IsBytes w v l) (hl : l.length ≤ 1048576) :
    Calls Tryz.prog 119 #[.int .u64 (s : Int), v] w fun e w' => e = .returned (.int .u64 (hashOf s l : Int)) ∧ w = w' := by
  have hv0 := hv
  obtain ⟨A, d, rfl, hc⟩ := hv
  have HV := hidden hv0
  have hll : l.length < 18446744073709551616 := by omega
  have hx : Hid (bits .xor .u64 (s : Int) (l.length : Int) = ((s ^^^ l.length : Nat) : Int)) := bits_xor_u64_nat s l.length hs hll
  have hxl := xor64_lt hs hll
  have HH : Hid (hashOf s l = hashL l.length (mix (s ^^^ l.length)) l) := by show _ = _; rfl
  clear hc hv0
  go_enter Tryz.func119, Tryz.ntmps119
  go_wp2_with fail
  rw [hx.out]
  refine (rmix_any _ _ hxl).mono ?_
  rintro e w' ⟨rfl, rfl⟩
  generalize s ^^^ l.length = x0 at *
  go_wp2_with fail
  go_loop [5, 6] (HashRel l (hashOf s l)) (fun _ i => l.length + 8 - (intOf i).toNat)
  case atStart => exact ⟨0, l.length, mix x0, by omega, by omega, rfl, rfl, mix_lt, by rw [HH.out]; rfl⟩
  case round =>
    obtain ⟨j, f, x, hj, hf, rfl, rfl, hxb, ht⟩ := hrel
    have HT := hidden ht
    clear ht
    by_cases hlt : j < l.length
    · have h8 := le8_lt (l.drop j)
      have hne : l.drop j ≠ [] := by
        intro h0
        have := congrArg List.length h0
        rw [List.length_drop] at this
        simp at this; omega
      have hx2 : Hid (bits .xor .u64 (x : Int) (le ((l.drop j).take 8) : Int) = ((x ^^^ le ((l.drop j).take 8) : Nat) : Int)) := bits_xor_u64_nat _ _ hxb h8
      have hxl2 := xor64_lt hxb h8
      cases f with
      | zero => omega
      | succ f =>
        have HN : Hid (hashL f (mix (x ^^^ le ((l.drop j).take 8))) (l.drop (j + 8)) = hashOf s l) := by
          show _ = _
          rw [← HT.out, hashL_cons hne, List.drop_drop]
        have HW := hidden (rword_any _ l j w HV.out (by omega) (by omega))
        clear hne h8 HT
        generalize le ((l.drop j).take 8) = q at *
        go_wp2_with fail
        refine (Calls.mono HW.out ?_)
        rintro e w' ⟨rfl, rfl⟩
        go_wp2_with fail
        rw [hx2.out]
        refine (rmix_any _ _ hxl2).mono ?_
        rintro e w' ⟨rfl, rfl⟩
        go_wp2
        go_round
        case rel => exact ⟨j + 8, f, mix (x ^^^ q), by omega, by omega, by go_num, rfl, mix_lt, HN.out⟩
        case measure => simp [intOf]; omega
    · have hd : l.drop j = [] := List.drop_eq_nil_of_le (by omega)
      have HE : Hid (x = hashOf s l) := by
        show _ = _
        have := HT.out
        rw [hd, hashL_nil] at this
        exact this
      clear hd
      go_wp2
      go_ret
      exact ⟨retU (by rw [HE.out]), rfl⟩
end Go.Proofs.YtoaklmceejeblaaGreat
