/-
  Shaken: what the claims of this seat need of this text. No condition.
-/
import Derived.Test.YthmipnokimlbdaaGreatFc1
import Derived.Test.YthmipnokimlbdaaGreatM6
namespace Go.Proofs.YthmipnokimlbdaaGreat
open Go.RowKit
set_option linter.unusedVariables false
set_option linter.unusedSimpArgs false
theorem isRestart_any (k : Nat) (w : World) (hk : k ≤ 4611686018427387900) : Calls Tryz.prog 172 #[.int .i64 (k : Int)] w fun e w' => e = .returned (.bool (decide (k % 16 = 0))) ∧ w = w' := by
  have h1 : ((k : Int) % 16 == 0) = decide (k % 16 = 0) := by
    rw [Bool.eq_iff_iff]; simp; omega
  have h2 : ((k : Int).tmod 16) = (k : Int) % 16 := Int.tmod_eq_emod_of_nonneg (by omega)
  go_enter Tryz.func172, Tryz.ntmps172
  go_wp2_with fail
  go_ret
  exact ⟨retB (by first | exact h1 | (rw [← h1]; rfl) | (rw [← h1, ← h2])), rfl⟩
def okF (n off m : Int) : Bool := decide (0 ≤ off ∧ off ≤ n ∧ 0 ≤ m ∧ m ≤ 65536)
theorem validArguments_any (A : Option Addr) (n c : Nat) (off m : Int) (w : World) (hn : n ≤ 4611686018427387900) : Calls Tryz.prog 174 #[.slice A n c, .int .i64 off, .int .i64 m] w fun e w' => e = .returned (.bool (okF n off m)) ∧ w = w' := by
  go_enter Tryz.func174, Tryz.ntmps174
  by_cases h1 : 0 ≤ off
  · have d1 : decide ((0 : Int) ≤ off) = true := by simpa using h1
    by_cases h2 : off ≤ n
    · have d2 : decide (off ≤ (n : Int)) = true := by simpa using h2
      by_cases h3 : 0 ≤ m
      · have d3 : decide ((0 : Int) ≤ m) = true := by simpa using h3
        have HF := hidden (show okF n off m = decide (m ≤ 65536) by unfold okF; simp [h1, h2, h3])
        go_wp2_with fail
        go_ret
        exact ⟨retB HF.out.symm, rfl⟩
      · have d3 : decide ((0 : Int) ≤ m) = false := by simpa using h3
        have HF := hidden (show okF n off m = false by unfold okF; simp [h3])
        go_wp2_with fail
        go_ret
        exact ⟨retB HF.out.symm, rfl⟩
    · have d2 : decide (off ≤ (n : Int)) = false := by simpa using h2
      have HF := hidden (show okF n off m = false by unfold okF; simp [h2])
      go_wp2_with fail
      go_ret
      exact ⟨retB HF.out.symm, rfl⟩
  · have d1 : decide ((0 : Int) ≤ off) = false := by simpa using h1
    have HF := hidden (show okF n off m = false by unfold okF; simp [h1])
    go_wp2_with fail
    go_ret
    exact ⟨retB HF.out.symm, rfl⟩
theorem own_emptyB (w : World) {base : Nat} (hb : base ≤ w.heap.size) : (w.alloc (.cells #[] 5)).ownsRow base 5 1 (.slice (some ⟨w.heap.size, 0, none⟩) 0 0) ([] : List UInt8).length (bcells []) :=
  (Row.new w 5 #[] [] rfl).own hb (by simp [maxLen])
def FERel (w : World) (l : List Str) (b p i : Value) (wr : World) : Prop :=
  ∃ (k : Nat) (q : Str), k ≤ l.length ∧ i = .int .i64 (k : Int) ∧ p = .string (strOf q) ∧ q.length ≤ 1000000 ∧ (k % 16 ≠ 0 → q = prvAt l k) ∧ wr.ownsRow w.heap.size 5 1 b (encK l k).length (bcells (encK l k)) ∧ Below w.heap.size w wr
theorem prvAt_next {l : List Str} {k : Nat} (hk : k < l.length) (h : (k + 1) % 16 ≠ 0) : l[k] = prvAt l (k + 1) := by
  unfold prvAt
  rw [if_neg h, Nat.add_sub_cancel, List.getD_eq_getElem?_getD, List.getElem?_eq_getElem hk]
  rfl
theorem strOf_drop (s : Str) (n : Nat) : (strOf s).extract n s.length = strOf (s.drop n) := by
  rw [strOf_extract, List.take_of_length_le (by rw [List.length_drop]; omega)]
set_option maxRecDepth 8000 in
set_option maxHeartbeats 4000000 in
theorem fencode_any (v : Value) (l : List Str) (w : World) (hv : IsS w v l) (hl : l.length ≤ 1000000) (hs : ∀ s ∈ l, s.length ≤ 1000000) :
    Calls Tryz.prog 101 #[v] w (Made (fcEnc l) w) := by
  obtain ⟨A, c, rfl⟩ := hv.slice_
  have HV := hidden hv
  have HSL := hidden hs
  clear hv hs
  go_enter Tryz.func101, Tryz.ntmps101
  go_wp2_with fail
  go_loopw [3, 4, 11] (fun b p i wr => FERel w l b p i wr) (fun _ _ i _ => l.length - (intOf i).toNat)
  case atStart => exact ⟨0, [], by omega, rfl, rfl, by simp, fun h => absurd rfl h, own_emptyB w (Nat.le_refl _), growA _⟩
  case round =>
    obtain ⟨k, q, hk, rfl, rfl, hq, hqp, hown, hb⟩ := hrel
    have HO := hidden hown
    have HB := hidden hb
    have HQP := hidden hqp
    clear hown hb hqp
    by_cases hlt : k < l.length
    · obtain ⟨b, f, rfl, hck⟩ := (HV.out.grow HB.out).at_ hlt
      have hsl := HSL.out _ (List.getElem_mem hlt)
      have hgd : l.getD k [] = l[k] := by rw [List.getD_eq_getElem?_getD, List.getElem?_eq_getElem hlt]; rfl
      have HES := hidden (show encK l (k + 1) = encK l k ++ itm (prvAt l k) l[k] by rw [encK_succ, hgd])
      have HPN := hidden (prvAt_next hlt)
      have HWL := hidden (show (encK l k).length ≤ 100000000000000 by
        have h1 := encK_len (M := 1000000) HSL.out (by omega) k
        have h2 : (1000000 + 20) * k ≤ 1000020 * 1000000 := Nat.mul_le_mul_left _ (by omega)
        omega)
      have HRS := hidden (isRestart_any k wr (by omega))
      have HPV := hidden (show k % 16 = 0 → prvAt l k = [] from fun h => by unfold prvAt; rw [if_pos h])
      have hsz : (strOf l[k]).size = l[k].length := rfl
      clear hgd
      generalize l[k] = s at *
      generalize encK l k = P at *
      by_cases hr : k % 16 = 0
      · rw [HPV.out hr] at HES
        rw [decide_eq_true hr] at HRS
        obtain ⟨n, hn⟩ : ∃ n, n = cp [] s := ⟨_, rfl⟩
        have HIT := hidden (show P ++ itm [] s = P ++ enc n ++ enc (s.length - n) ++ s.drop n by unfold itm; rw [← hn]; simp)
        have hns : n ≤ s.length := by rw [hn]; exact (cp_le _ _).2
        have HCP := hidden (fun W => show Calls Tryz.prog 173 #[.string ⟨#[]⟩, .string (strOf s)] W (fun e w' => e = .returned (.int .i64 (n : Int)) ∧ Grows W w') from by rw [hn]; exact cp_grow [] s W (by first | simp | omega) (by omega))
        have HE1 := hidden (fun W => encode_any (n : Int) W (by omega) (by omega))
        obtain ⟨m, hm⟩ : ∃ m, m = s.length - n := ⟨_, rfl⟩
        rw [← hm] at HIT
        have hmi : (s.length : Int) - (n : Int) = (m : Int) := by omega
        have HE2 := hidden (fun W => encode_any (m : Int) W (by omega) (by omega))
        have HD := hidden (strOf_drop s n)
        have HL1 := hidden (enc_len11 (n := n) (by omega))
        have HL2 := hidden (enc_len11 (n := m) (by omega))
        have HL3 := hidden (show (s.drop n).length ≤ 1000000 by rw [List.length_drop]; omega)
        simp only [Int.toNat_natCast] at HE1 HE2
        generalize enc n = E1 at *
        generalize enc m = E2 at *
        generalize hT : s.drop n = T at *
        clear hn hm hT hr
        go_wp2_with fail
        refine HRS.out.mono ?_
        rintro e w2 ⟨rfl, rfl⟩
        go_wp2_with fail
        refine (HCP.out wr).mono ?_
        rintro e w3 ⟨rfl, g3⟩
        have HO3 := hidden (own_growS HO.out g3)
        have HB3 := hidden (HB.out.trans (g3.mono HB.out.size))
        clear g3
        go_wp2_with fail
        refine (HE1.out w3).mono ?_
        rintro e w4 ⟨v4, rfl, hown4, g4⟩
        have HO4 := hidden (own_growS HO3.out g4)
        have HB4 := hidden (HB3.out.trans (g4.mono HB3.out.size))
        have HBY4 := hidden (IsBytes.of_own hown4)
        clear hown4 g4
        have hw1 := HWL.out
        have hw2 := HL1.out
        have hw3 := HL2.out
        have hw4 := HL3.out
        go_wp2_with (first
          | (at_builtin; refine wpList_append_bytes (w := w) rfl _ _ 29 rfl 5 Tryz.underlying29 info_u8 _ P (by rfl) HO4.out HB4.out _ E1 (by rfl) HBY4.out (by omega) ?_; intro v5 w5 hown5 hb5; have HO5 := hidden hown5; have HB5 := hidden hb5; clear hown5 hb5))
        refine (HE2.out _).mono ?_
        rintro e w6 ⟨v6, rfl, hown6, g6⟩
        have HO6 := hidden (own_growS HO5.out g6)
        have HB6 := hidden (HB5.out.trans (g6.mono HB5.out.size))
        have HBY6 := hidden (IsBytes.of_own hown6)
        clear hown6 g6
        go_wp2_with (first
          | (at_builtin; refine wpList_append_bytes (w := w) rfl _ _ 29 rfl 5 Tryz.underlying29 info_u8 _ (P ++ E1) (by rfl) HO6.out HB6.out _ E2 (by rfl) HBY6.out (by rw [List.length_append]; omega) ?_; intro v7 w7 hown7 hb7; have HO7 := hidden hown7; have HB7 := hidden hb7; clear hown7 hb7)
          | (at_builtin; refine wpList_append_str (w := w) rfl _ _ 29 9 rfl 5 Tryz.underlying29 Tryz.underlying9 info_u8 _ (P ++ E1 ++ E2) (by rfl) HO7.out HB7.out T (by first | rfl | exact congrArg Value.string HD.out) (by rw [List.length_append, List.length_append]; omega) ?_; intro v8 w8 hown8 hb8; have HO8 := hidden hown8; have HB8 := hidden hb8; clear hown8 hb8))
        first
          | exact ⟨⟨k + 1, s, by omega, by go_num, rfl, hsl, HPN.out, by rw [HES.out, HIT.out]; exact HO8.out, HB8.out⟩, by simp [intOf]; omega⟩
          | (go_roundw; (case rel => exact ⟨k + 1, s, by omega, by go_num, rfl, hsl, HPN.out, by rw [HES.out, HIT.out]; exact HO8.out, HB8.out⟩); (case measure => simp [intOf]; omega))
      · have hqe := HQP.out hr
        rw [← hqe] at HES
        rw [decide_eq_false hr] at HRS
        clear hqe
        obtain ⟨n, hn⟩ : ∃ n, n = cp q s := ⟨_, rfl⟩
        have HIT := hidden (show P ++ itm q s = P ++ enc n ++ enc (s.length - n) ++ s.drop n by unfold itm; rw [← hn]; simp)
        have hns : n ≤ s.length := by rw [hn]; exact (cp_le _ _).2
        have HCP := hidden (fun W => show Calls Tryz.prog 173 #[.string (strOf q), .string (strOf s)] W (fun e w' => e = .returned (.int .i64 (n : Int)) ∧ Grows W w') from by rw [hn]; exact cp_grow q s W (by first | simp | omega) (by omega))
        have HE1 := hidden (fun W => encode_any (n : Int) W (by omega) (by omega))
        obtain ⟨m, hm⟩ : ∃ m, m = s.length - n := ⟨_, rfl⟩
        rw [← hm] at HIT
        have hmi : (s.length : Int) - (n : Int) = (m : Int) := by omega
        have HE2 := hidden (fun W => encode_any (m : Int) W (by omega) (by omega))
        have HD := hidden (strOf_drop s n)
        have HL1 := hidden (enc_len11 (n := n) (by omega))
        have HL2 := hidden (enc_len11 (n := m) (by omega))
        have HL3 := hidden (show (s.drop n).length ≤ 1000000 by rw [List.length_drop]; omega)
        simp only [Int.toNat_natCast] at HE1 HE2
        generalize enc n = E1 at *
        generalize enc m = E2 at *
        generalize hT : s.drop n = T at *
        clear hn hm hT hr
        go_wp2_with fail
        refine HRS.out.mono ?_
        rintro e w2 ⟨rfl, rfl⟩
        go_wp2_with fail
        refine (HCP.out wr).mono ?_
        rintro e w3 ⟨rfl, g3⟩
        have HO3 := hidden (own_growS HO.out g3)
        have HB3 := hidden (HB.out.trans (g3.mono HB.out.size))
        clear g3
        go_wp2_with fail
        refine (HE1.out w3).mono ?_
        rintro e w4 ⟨v4, rfl, hown4, g4⟩
        have HO4 := hidden (own_growS HO3.out g4)
        have HB4 := hidden (HB3.out.trans (g4.mono HB3.out.size))
        have HBY4 := hidden (IsBytes.of_own hown4)
        clear hown4 g4
        have hw1 := HWL.out
        have hw2 := HL1.out
        have hw3 := HL2.out
        have hw4 := HL3.out
        go_wp2_with (first
          | (at_builtin; refine wpList_append_bytes (w := w) rfl _ _ 29 rfl 5 Tryz.underlying29 info_u8 _ P (by rfl) HO4.out HB4.out _ E1 (by rfl) HBY4.out (by omega) ?_; intro v5 w5 hown5 hb5; have HO5 := hidden hown5; have HB5 := hidden hb5; clear hown5 hb5))
        refine (HE2.out _).mono ?_
        rintro e w6 ⟨v6, rfl, hown6, g6⟩
        have HO6 := hidden (own_growS HO5.out g6)
        have HB6 := hidden (HB5.out.trans (g6.mono HB5.out.size))
        have HBY6 := hidden (IsBytes.of_own hown6)
        clear hown6 g6
        go_wp2_with (first
          | (at_builtin; refine wpList_append_bytes (w := w) rfl _ _ 29 rfl 5 Tryz.underlying29 info_u8 _ (P ++ E1) (by rfl) HO6.out HB6.out _ E2 (by rfl) HBY6.out (by rw [List.length_append]; omega) ?_; intro v7 w7 hown7 hb7; have HO7 := hidden hown7; have HB7 := hidden hb7; clear hown7 hb7)
          | (at_builtin; refine wpList_append_str (w := w) rfl _ _ 29 9 rfl 5 Tryz.underlying29 Tryz.underlying9 info_u8 _ (P ++ E1 ++ E2) (by rfl) HO7.out HB7.out T (by first | rfl | exact congrArg Value.string HD.out) (by rw [List.length_append, List.length_append]; omega) ?_; intro v8 w8 hown8 hb8; have HO8 := hidden hown8; have HB8 := hidden hb8; clear hown8 hb8))
        first
          | exact ⟨⟨k + 1, s, by omega, by go_num, rfl, hsl, HPN.out, by rw [HES.out, HIT.out]; exact HO8.out, HB8.out⟩, by simp [intOf]; omega⟩
          | (go_roundw; (case rel => exact ⟨k + 1, s, by omega, by go_num, rfl, hsl, HPN.out, by rw [HES.out, HIT.out]; exact HO8.out, HB8.out⟩); (case measure => simp [intOf]; omega))
    · have hke : k = l.length := by omega
      rw [hke] at HO
      have HOE := hidden (show wr.ownsRow w.heap.size 5 1 u3 (fcEnc l).length (bcells (fcEnc l)) from HO.out)
      clear hke HO
      go_wp2_with fail
      go_ret
      exact ⟨_, rfl, HOE.out, HB.out⟩
set_option maxHeartbeats 2000000 in
theorem fsize_any (v : Value) (l : List Str) (w : World) (hv : IsS w v l) (hl : l.length ≤ 1000000) (hs : ∀ s ∈ l, s.length ≤ 1000000) :
    Calls Tryz.prog 102 #[v] w fun e w' => e = .returned (.int .i64 ((fcEnc l).length : Int)) ∧ Grows w w' := by
  have HE := hidden (fencode_any v l w hv hl hs)
  generalize fcEnc l = E at *
  clear hv hs
  go_enter Tryz.func102, Tryz.ntmps102
  go_wp2_with fail
  refine HE.out.mono ?_
  rintro e w3 ⟨v3, rfl, hown, g3⟩
  obtain ⟨A, c, rfl⟩ := own_sliceB hown
  clear hown
  go_wp2_with fail
  go_ret
  exact ⟨rfl, g3⟩
end Go.Proofs.YthmipnokimlbdaaGreat
