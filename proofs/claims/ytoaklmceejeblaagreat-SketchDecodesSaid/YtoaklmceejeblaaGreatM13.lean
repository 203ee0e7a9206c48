/-
  Texts that the claims of this seat share, put together (Lv7, Lv8). No condition.
-/
import Derived.Test.YtoaklmceejeblaaGreatM11
import Derived.Test.YtoaklmceejeblaaGreatCkHash
import Derived.Test.YtoaklmceejeblaaGreatM8
/-
  Shaken: what the claims of this seat need of this text. No condition.
-/
namespace Go.Proofs.YtoaklmceejeblaaGreat
set_option maxRecDepth 8000
open Go.RowKit
set_option linter.unusedVariables false
set_option linter.unusedSimpArgs false
def u64N (n : Int) : Nat := (n % 18446744073709551616).toNat
theorem u64N_wrap (n : Int) : IntKind.u64.wrap n = (u64N n : Int) := by
  rw [IntKind.wrap_u64]
  unfold u64N
  omega
theorem u64N_lt (n : Int) : u64N n < 18446744073709551616 := by unfold u64N; omega
def hashV (h : Nat) (x : Val) : Nat :=
  if x.k = 0 then mix (h ^^^ 1) else if x.k = 1 then mix (mix (h ^^^ 2) ^^^ u64N x.n) else if x.k = 2 then mix (mix (h ^^^ 3) ^^^ u64N x.n) else hashOf (mix (h ^^^ 4)) x.t.data.toList
theorem hashOf_lt (s : Nat) (l : List UInt8) : hashOf s l < 18446744073709551616 := hashL_lt _ _ _ mix_lt
theorem hashV_lt (h : Nat) (x : Val) : hashV h x < 18446744073709551616 := by
  unfold hashV
  split
  · exact mix_lt
  split
  · exact mix_lt
  split
  · exact mix_lt
  · exact hashOf_lt _ _
theorem xor_small {s k : Nat} (hs : s < 18446744073709551616) (hk : k < 18446744073709551616) : s ^^^ k < 18446744073709551616 := xor64_lt hs hk
theorem hashV_0 (s : Nat) (n : Int) (t : ByteArray) : hashV s ⟨0, n, t⟩ = mix (s ^^^ 1) := by
  unfold hashV
  rw [if_pos (show (0 : Int) = 0 by decide)]
theorem hashV_1 (s : Nat) (n : Int) (t : ByteArray) : hashV s ⟨1, n, t⟩ = mix (mix (s ^^^ 2) ^^^ u64N n) := by
  unfold hashV
  rw [if_neg (show ¬ (1 : Int) = 0 by decide), if_pos (show (1 : Int) = 1 by decide)]
theorem hashV_2 (s : Nat) (n : Int) (t : ByteArray) : hashV s ⟨2, n, t⟩ = mix (mix (s ^^^ 3) ^^^ u64N n) := by
  unfold hashV
  rw [if_neg (show ¬ (2 : Int) = 0 by decide), if_neg (show ¬ (2 : Int) = 1 by decide), if_pos (show (2 : Int) = 2 by decide)]
theorem hashV_3 (s : Nat) (n : Int) (t : ByteArray) : hashV s ⟨3, n, t⟩ = hashOf (mix (s ^^^ 4)) t.data.toList := by
  unfold hashV
  rw [if_neg (show ¬ (3 : Int) = 0 by decide), if_neg (show ¬ (3 : Int) = 1 by decide), if_neg (show ¬ (3 : Int) = 2 by decide)]
set_option maxHeartbeats 1000000 in
theorem lupdate_any (s : Nat) (x : Val) (w : World) (hs : s < 18446744073709551616) (hv : validV x.k x.n x.t = true) : Calls Tryz.prog 110 #[.int .u64 (s : Int), .agg #[.int .i64 x.k, .int .i64 x.n, .string x.t]] w fun e w' => e = .returned (.int .u64 (hashV s x : Int)) ∧ Grows w w' := by
  obtain ⟨k, n, t⟩ := x
  simp only at hv ⊢
  by_cases h0 : k = 0
  · subst h0
    rw [hashV_0]
    have HT := hidden (fun w => ltag_any 0 n t w (by omega) (by omega))
    have HX := hidden (bits_xor_u64_nat s 1 hs (by omega))
    have HM1 := hidden (fun w => mix_any (s ^^^ 1) w (xor_small hs (by omega)))
    generalize mix (s ^^^ 1) = m1 at *
    generalize s ^^^ 1 = x1 at *
    clear hv
    go_enter Tryz.func110, Tryz.ntmps110
    go_wp2_with fail
    refine (HT.out _).mono ?_
    rintro e w2 ⟨rfl, g2⟩
    have q := rowCells ((valRow w (.int .i64 0) (.int .i64 n) (.string t)).grow g2)
    have HG2 := hidden ((grow1 _).of_below g2)
    obtain ⟨q1, q2, q3⟩ := q
    clear g2
    go_wp2_with fail
    rw [show bits BinOp.xor IntKind.u64 (s : Int) 1 = _ from HX.out]
    refine (HM1.out _).mono ?_
    rintro e w3 ⟨rfl, rfl⟩
    go_wp2_with fail
    go_ret
    exact ⟨rfl, HG2.out⟩
  by_cases h1 : k = 1
  · subst h1
    clear h0
    rw [hashV_1]
    have HT := hidden (fun w => ltag_any 1 n t w (by omega) (by omega))
    have HX := hidden (bits_xor_u64_nat s 2 hs (by omega))
    have HM1 := hidden (fun w => mix_any (s ^^^ 2) w (xor_small hs (by omega)))
    have HU := hidden (u64N_wrap n)
    have HUL := hidden (u64N_lt n)
    generalize u64N n = un at *
    have HX2 := hidden (bits_xor_u64_nat (mix (s ^^^ 2)) un mix_lt HUL.out)
    have HM2 := hidden (fun w => mix_any (mix (s ^^^ 2) ^^^ un) w (xor_small mix_lt HUL.out))
    generalize mix (mix (s ^^^ 2) ^^^ un) = m2 at *
    generalize mix (s ^^^ 2) = m1 at *
    generalize m1 ^^^ un = x2 at *
    generalize s ^^^ 2 = x1 at *
    clear hv
    go_enter Tryz.func110, Tryz.ntmps110
    go_wp2_with fail
    refine (HT.out _).mono ?_
    rintro e w2 ⟨rfl, g2⟩
    have q := rowCells ((valRow w (.int .i64 1) (.int .i64 n) (.string t)).grow g2)
    have HG2 := hidden ((grow1 _).of_below g2)
    obtain ⟨q1, q2, q3⟩ := q
    clear g2
    go_wp2_with fail
    rw [show bits BinOp.xor IntKind.u64 (s : Int) 2 = _ from HX.out]
    refine (HM1.out _).mono ?_
    rintro e w3 ⟨rfl, rfl⟩
    go_wp2_with fail
    rw [HU.out, HX2.out]
    refine (HM2.out _).mono ?_
    rintro e w3 ⟨rfl, rfl⟩
    go_wp2_with fail
    go_ret
    exact ⟨rfl, HG2.out⟩
  by_cases h2 : k = 2
  · subst h2
    clear h0 h1
    rw [hashV_2]
    have HT := hidden (fun w => ltag_any 2 n t w (by omega) (by omega))
    have HX := hidden (bits_xor_u64_nat s 3 hs (by omega))
    have HM1 := hidden (fun w => mix_any (s ^^^ 3) w (xor_small hs (by omega)))
    have HU := hidden (u64N_wrap n)
    have HUL := hidden (u64N_lt n)
    generalize u64N n = un at *
    have HX2 := hidden (bits_xor_u64_nat (mix (s ^^^ 3)) un mix_lt HUL.out)
    have HM2 := hidden (fun w => mix_any (mix (s ^^^ 3) ^^^ un) w (xor_small mix_lt HUL.out))
    generalize mix (mix (s ^^^ 3) ^^^ un) = m2 at *
    generalize mix (s ^^^ 3) = m1 at *
    generalize m1 ^^^ un = x2 at *
    generalize s ^^^ 3 = x1 at *
    clear hv
    go_enter Tryz.func110, Tryz.ntmps110
    go_wp2_with fail
    refine (HT.out _).mono ?_
    rintro e w2 ⟨rfl, g2⟩
    have q := rowCells ((valRow w (.int .i64 2) (.int .i64 n) (.string t)).grow g2)
    have HG2 := hidden ((grow1 _).of_below g2)
    obtain ⟨q1, q2, q3⟩ := q
    clear g2
    go_wp2_with fail
    rw [show bits BinOp.xor IntKind.u64 (s : Int) 3 = _ from HX.out]
    refine (HM1.out _).mono ?_
    rintro e w3 ⟨rfl, rfl⟩
    go_wp2_with fail
    rw [HU.out, HX2.out]
    refine (HM2.out _).mono ?_
    rintro e w3 ⟨rfl, rfl⟩
    go_wp2_with fail
    go_ret
    exact ⟨rfl, HG2.out⟩
  by_cases h3 : k = 3
  · subst h3
    clear h0 h1 h2
    rw [hashV_3]
    have HT := hidden (fun w => ltag_any 3 n t w (by omega) (by omega))
    have HX := hidden (bits_xor_u64_nat s 4 hs (by omega))
    have HM1 := hidden (fun w => mix_any (s ^^^ 4) w (xor_small hs (by omega)))
    have hsz : t.data.toList.length ≤ 4096 := by
      unfold validV at hv
      simp at hv
      have e : t.data.toList.length = t.size := by simp
      omega
    have HH := hidden (fun A c w h1 h2 => ck_hash (mix (s ^^^ 4)) A c t.data.toList w mix_lt h1 (by omega) h2)
    generalize hashOf (mix (s ^^^ 4)) t.data.toList = m2 at *
    generalize mix (s ^^^ 4) = m1 at *
    generalize s ^^^ 4 = x1 at *
    clear hv
    go_enter Tryz.func110, Tryz.ntmps110
    go_wp2_with fail
    refine (HT.out _).mono ?_
    rintro e w2 ⟨rfl, g2⟩
    have q := rowCells ((valRow w (.int .i64 3) (.int .i64 n) (.string t)).grow g2)
    have HG2 := hidden ((grow1 _).of_below g2)
    obtain ⟨q1, q2, q3⟩ := q
    clear g2
    go_wp2_with fail
    rw [show bits BinOp.xor IntKind.u64 (s : Int) 4 = _ from HX.out]
    refine (HM1.out _).mono ?_
    rintro e w3 ⟨rfl, rfl⟩
    go_wp2_with (refine wpList_bytes rfl _ 9 45 5 rfl Tryz.underlying9 Tryz.underlying45 Tryz.underlying5 t rfl ?_; rintro _ W ⟨A, c, rfl, hlc, hby⟩ hgW; have HBY := hidden hby; have HGW := hidden (HG2.out.of_below hgW); clear hby hgW)
    refine (HH.out A c _ HBY.out hlc).mono ?_
    rintro e w5 ⟨rfl, g5⟩
    have HG5 := hidden (HGW.out.of_below g5)
    clear g5
    go_wp2_with fail
    go_ret
    exact ⟨rfl, HG5.out⟩
  · exfalso
    unfold validV at hv
    rw [if_neg h0, if_neg h1, if_neg h2, if_neg h3] at hv
    cases hv
def hashR (h : Nat) (l : List Val) : Nat := l.foldl hashV h
theorem hashR_nil (h : Nat) : hashR h [] = h := rfl
theorem hashR_take {l : List Val} {j : Nat} {x : Val} (h : Nat) (hx : l[j]? = some x) : hashR h (l.take (j + 1)) = hashV (hashR h (l.take j)) x := by
  unfold hashR
  rw [List.take_add_one, hx]
  simp
theorem hashR_lt (h : Nat) (hh : h < 18446744073709551616) : ∀ l : List Val, hashR h l < 18446744073709551616 := by
  intro l
  induction l generalizing h with
  | nil => exact hh
  | cons x l ih => exact ih _ (hashV_lt _ _)
def HashRelV (w : World) (m : Nat) (l : List Val) (h i : Value) (wr : World) : Prop := ∃ j : Nat, j ≤ l.length ∧ i = .int .i64 (j : Int) ∧ h = .int .u64 (hashR m (l.take j) : Int) ∧ Grows w wr
set_option maxHeartbeats 1000000 in
theorem lhash_any (s : Nat) (v : Value) (l : List Val) (w : World) (hs : s < 18446744073709551616) (hr : ReadsV w v l) (hl : l.length ≤ 9223372036854775806) (hv : validL l = true) :
    Calls Tryz.prog 43 #[.int .u64 (s : Int), v] w fun e w' => e = .returned (.int .u64 (hashR (mix s) l : Int)) ∧ Grows w w' := by
  have HR := hidden hr
  have HVL := hidden hv
  obtain ⟨A, c, rfl, hle, hxx⟩ := hr
  clear hxx hv
  have HM := hidden (fun w => mix_any s w hs)
  have hml := mix_lt (n := s)
  generalize mix s = m at *
  have HML := hidden hml
  clear hml hs
  go_enter Tryz.func43, Tryz.ntmps43
  go_wp2_with fail
  refine (HM.out _).mono ?_
  rintro e w3 ⟨rfl, rfl⟩
  go_wp2_with fail
  go_loopw [5, 12] (fun h i wr => HashRelV w m l h i wr) (fun _ i _ => l.length - (intOf i).toNat)
  case atStart => exact ⟨0, Nat.zero_le _, rfl, by rw [List.take_zero, hashR_nil], Below.refl _ _⟩
  case round =>
    obtain ⟨j, hj, rfl, rfl, hb⟩ := hrel
    have HB := hidden hb
    clear hb
    by_cases hlt : j < l.length
    · obtain ⟨A', c', he, _, hcell⟩ := HR.out.grow HB.out
      injection he with e1 e2 e3
      subst e1 e3
      obtain ⟨b, off, rfl, hcell2⟩ := hcell (by omega)
      obtain ⟨x, hx⟩ : ∃ x, l[j]? = some x := ⟨_, List.getElem?_eq_getElem hlt⟩
      obtain ⟨c1, c2, c3⟩ := hcell2 j x hx
      have hj0 : (0 : Int) ≤ (j : Int) := by omega
      have hj1 : (j : Int) < (l.length : Int) := by omega
      have hd : decide (j < l.length) = true := by simpa using hlt
      have HT := hidden (hashR_take m hx)
      have HU := hidden (fun w => lupdate_any (hashR m (l.take j)) x w (hashR_lt _ HML.out _) (validL_at HVL.out hx))
      rw [← HT.out] at HU
      obtain ⟨hn, hHN⟩ : ∃ hn, hn = hashR m (l.take (j + 1)) := ⟨_, rfl⟩
      rw [← hHN] at HU
      have HN := hidden hHN
      clear hHN
      generalize hashR m (l.take j) = hh at *
      clear hcell hcell2 e2 hx HT
      go_wp2_with (refine wpList_store_new rfl _ _ rfl _ rfl rfl _ _ _ rfl ?_; intro W1 hrW hgW hsW; have k1 := (rowCells hrW).1; have k2 := (rowCells hrW).2.1; have k3 := (rowCells hrW).2.2; have HW1 := hidden (HB.out.of_below hgW); clear hrW hgW hsW c1 c2 c3)
      refine (HU.out _).mono ?_
      rintro e w5 ⟨rfl, g5⟩
      have HB5 := hidden (HW1.out.of_below g5)
      clear g5 k1 k2 k3
      go_wp2_with fail
      go_roundw
      case rel => exact ⟨j + 1, by omega, by go_num, by rw [HN.out], HB5.out⟩
      case measure => simp [intOf]; omega
    · have hd : decide (j < l.length) = false := by simpa using hlt
      have htk : l.take j = l := List.take_of_length_le (by omega)
      rw [htk]
      clear htk
      obtain ⟨hr, hHR⟩ : ∃ hr, hr = hashR m l := ⟨_, rfl⟩
      rw [← hHR]
      have HHR := hidden hHR
      clear hHR
      go_wp2_with fail
      go_ret
      exact ⟨by rw [← HHR.out]; rfl, HB.out⟩
end Go.Proofs.YtoaklmceejeblaaGreat
/-
  Shaken: what the claims of this seat need of this text. No condition.
-/
namespace Go.Proofs.YtoaklmceejeblaaGreat
set_option maxRecDepth 8000
open Go.RowKit
set_option linter.unusedVariables false
set_option linter.unusedSimpArgs false
end Go.Proofs.YtoaklmceejeblaaGreat
