/-
  Package literal as it landed: isIntLiteral, FormatInt, ParseInt, Quote, Unquote. Nothing that was there is changed; the listed variables lie as the program's text lays them ('Fit').
-/
import Derived.Test.YtaiphocnfkkigaaDoorLb0
import Derived.Test.YtaiphocnfkkigaaDoorLib
import Derived.Test.YtaiphocnfkkigaaDoorLit4
import Derived.Test.YtaiphocnfkkigaaDoorLit5
namespace Go.Proofs.YtaiphocnfkkigaaDoor
open Go.RowKit
set_option linter.unusedVariables false
set_option linter.unusedSimpArgs false

theorem trim_litDs (l : List UInt8) : Lib.trimPrefix l [45] = litDs l := by
  unfold Lib.trimPrefix Lib.hasPrefix
  cases l with
  | nil => rfl
  | cons c r =>
    show _ = if c = 45 then r else c :: r
    by_cases h : c = 45
    · rw [if_pos h, h]; simp [List.isPrefixOf]
    · rw [if_neg h]; simp [List.isPrefixOf, Ne.symm h]
def LDgRel (w : World) (ds : List UInt8) (wr : World) : Prop := ∃ pos : Nat, pos ≤ ds.length ∧ (ds.take pos).all isDig = true ∧ wr = w.iter (strOf ds) pos
theorem all_at {l : List UInt8} {p : UInt8 → Bool} {j : Nat} {b : UInt8} (hb : l[j]? = some b) : (l.take (j + 1)).all p = ((l.take j).all p && p b) := by rw [List.take_add_one, hb]; simp
theorem all_not {l : List UInt8} {p : UInt8 → Bool} {j : Nat} {b : UInt8} (hb : l[j]? = some b) (h : p b = false) : l.all p = false := by
  rw [List.all_eq_false]
  exact ⟨b, List.mem_of_getElem? hb, by simp [h]⟩
set_option maxHeartbeats 4000000 in
theorem lisint_any (l : List UInt8) (w : World) (hl : l.length ≤ 1048576) : Calls Tryd.prog 34 #[.string (strOf l)] w fun e w' => e = .returned (.bool (isLitL l)) ∧ Grows w w' := by
  have HI := hidden (fun pos => iter_grows w (strOf (litDs l)) pos)
  have HT := hidden (fun w => lib_trimPrefix l [45] w)
  rw [trim_litDs] at HT
  have HE0 := hidden (show isLitL l = ((litDs l).all isDig && (l == [48] || !(litDs l).isEmpty && !((litDs l).head? == some 48))) from rfl)
  have HDL := hidden (show (litDs l).length ≤ 1048576 by
    cases l with
    | nil => simp [litDs]
    | cons c r =>
      show (if c = 45 then r else c :: r).length ≤ _
      split
      · simp at hl; omega
      · exact hl)
  generalize litDs l = ds at *
  go_enter Tryd.func34, Tryd.ntmps34
  go_wp2_with ((go_at_call 46; refine (HT.out _).mono ?_; rintro e w2 ⟨rfl, rfl⟩))
  go_loopw [] (fun wr => LDgRel w ds wr) (fun wr => ds.length - wr.iterPos w.heap.size)
  case atStart => exact ⟨0, Nat.zero_le _, rfl, rfl⟩
  case round =>
    obtain ⟨pos, hp, hall, rfl⟩ := hrel
    have HALL := hidden hall
    clear hall
    by_cases hlt : pos < ds.length
    · obtain ⟨b, hb⟩ := at_of_lt hlt
      obtain ⟨z, d, hd1, hz, hlo, hhi, htl, hnx⟩ := rune_step Tryd.prog w hb
      have HDG := hidden (fun w => ldigit_any (z : Int) w)
      rw [rune_dig (fun h => (hlo h).1) hhi] at HDG
      have HLO := hidden hlo
      have HB := hidden hb
      clear hlo hhi htl hb
      cases hdb : isDig b
      · have HN := hidden (show isLitL l = false by rw [HE0.out, all_not HB.out hdb]; rfl)
        rw [hdb] at HDG
        clear hdb
        go_wp2_with ((go_at_call 31; refine (HDG.out _).mono ?_; rintro e w2 ⟨rfl, rfl⟩))
        go_ret
        exact ⟨retB HN.out.symm, HI.out _⟩
      · have HD1 := hidden ((HLO.out (by unfold isDig at hdb; simp at hdb; omega)).2)
        have HN := hidden (show (ds.take (pos + 1)).all isDig = true by rw [all_at HB.out, HALL.out, hdb]; rfl)
        rw [hdb] at HDG
        clear hdb
        go_wp2_with ((go_at_call 31; refine (HDG.out _).mono ?_; rintro e w2 ⟨rfl, rfl⟩))
        go_roundw
        case rel => exact ⟨pos + 1, by omega, HN.out, by rw [HD1.out]⟩
        case measure => simp; omega
    · have hnx := rune_end Tryd.prog w (l := ds) (pos := pos) (by omega)
      have HA := hidden (show ds.all isDig = true by have h := HALL.out; rwa [List.take_of_length_le (by omega)] at h)
      by_cases h48 : l = [48]
      · have HE := hidden (show isLitL l = true by rw [HE0.out, HA.out, h48]; rfl)
        have b1 : ((strOf l).toList == [48]) = true := by rw [strOf_toList, h48]; rfl
        clear h48
        go_wp2_with fail
        go_ret
        exact ⟨retB HE.out.symm, HI.out _⟩
      · have b1 : ((strOf l).toList == [48]) = false := by rw [strOf_toList]; simpa using h48
        have h48b : (l == [48]) = false := by simpa using h48
        cases ds with
        | nil =>
          have HE := hidden (show isLitL l = false by rw [HE0.out, h48b]; rfl)
          have hle : (strOf []).toList.isEmpty = true := by rw [strOf_toList]; rfl
          clear h48 h48b
          go_wp2_with fail
          go_ret
          exact ⟨retB HE.out.symm, HI.out _⟩
        | cons c r =>
          have hle : (strOf (c :: r)).toList.isEmpty = false := by rw [strOf_toList]; rfl
          have hg0 : ∀ h : 0 < (strOf (c :: r)).size, (strOf (c :: r))[0]'h = c := strOf_get (l := c :: r) (j := 0) (b := c) rfl
          have hs0 : 0 < (strOf (c :: r)).size := by show 0 < r.length + 1; omega
          have HE1 := hidden (show isLitL l = !(c == 48) by rw [HE0.out, HA.out, h48b]; simp)
          by_cases hc : c = 48
          · have HE := hidden (show isLitL l = false by rw [HE1.out, hc]; rfl)
            have hcz : ((c.toNat : Int) == 48) = true := by rw [hc]; rfl
            have hcn : (c.toNat : Int) = 48 := by rw [hc]; rfl
            clear h48 h48b hc
            go_wp2_with fail
            go_ret
            exact ⟨retB HE.out.symm, HI.out _⟩
          · have HE := hidden (show isLitL l = true by rw [HE1.out]; simpa using hc)
            have hcn : ¬ (c.toNat = 48) := fun he => hc (UInt8.toNat_inj.1 (by rw [he]; rfl))
            have hcz : ((c.toNat : Int) == 48) = false := by simp; omega
            clear h48 h48b hc
            go_wp2_with fail
            go_ret
            exact ⟨retB (by rw [HE.out]; simp; omega), HI.out _⟩
theorem lformat_any (n : Int) (w : World) (h : Fit w) (h0 : -9223372036854775808 ≤ n) (h1 : n ≤ 9223372036854775807) : Calls Tryd.prog 15 #[.int .i64 n] w fun e w' => e = .returned (.string (strOf (fmtI n))) ∧ Grows w w' := by
  have HF := hidden (lib_format n w h h0 h1)
  go_enter Tryd.func15, Tryd.ntmps15
  go_wp2_with ((go_at_call 36; refine HF.out.mono ?_; rintro e w2 ⟨rfl, g2⟩))
  go_ret
  exact ⟨rfl, g2⟩
set_option maxHeartbeats 2000000 in
theorem lparse_any (l : List UInt8) (w : World) (h : Fit w) (hl : l.length ≤ 1048576) : Calls Tryd.prog 13 #[.string (strOf l)] w fun e w' => e = two (prsI l) ∧ Grows w w' := by
  by_cases h0 : l = []
  · subst h0
    have hle : (strOf []).toList.isEmpty = true := by rw [strOf_toList]; rfl
    have HE := hidden (show prsI [] = (0, 2) from rfl)
    have HG := hidden (Below.refl w.heap.size w)
    go_enter Tryd.func13, Tryd.ntmps13
    go_wp2_with fail
    go_ret2
    exact ⟨by rw [HE.out]; rfl, HG.out⟩
  · have hle : (strOf l).toList.isEmpty = false := by rw [strOf_toList]; cases l with | nil => exact absurd rfl h0 | cons a r => rfl
    have HL := hidden (lisint_any l w hl)
    cases hlit : isLitL l
    · have HE := hidden (parse_bad h0 hlit)
      rw [hlit] at HL
      clear hlit h0
      go_enter Tryd.func13, Tryd.ntmps13
      go_wp2_with ((go_at_call 34; refine HL.out.mono ?_; rintro e w2 ⟨rfl, g2⟩))
      go_ret2
      exact ⟨by rw [HE.out]; rfl, g2⟩
    · have HP := hidden (parse_lit hlit)
      rw [hlit] at HL
      have HFit := hidden (fun w2 (g : Grows w w2) => h.grow g)
      clear hlit h0
      rcases HP.out with ⟨v, hok, hE⟩ | ⟨hrg, hE⟩
      · have HOK := hidden (fun w => lib_parse_ok l v w hl hok)
        have HE := hidden hE
        clear hok hE HP
        go_enter Tryd.func13, Tryd.ntmps13
        go_wp2_with (first
          | (go_at_call 34; refine HL.out.mono ?_; rintro e w2 ⟨rfl, g2⟩; have HG2 := hidden g2; clear g2)
          | (go_at_call 35; refine (HOK.out _).mono ?_; rintro e w3 ⟨rfl, g3⟩; have HG3 := hidden (HG2.out.of_below g3); clear g3))
        go_ret2
        exact ⟨by rw [HE.out]; rfl, HG3.out⟩
      · have HRG := hidden (fun w2 (g : Grows w w2) => lib_parse_range l w2 (h.grow g) hl hrg)
        have HE := hidden hE
        clear hrg hE HP
        go_enter Tryd.func13, Tryd.ntmps13
        go_wp2_with (first
          | (go_at_call 34; refine HL.out.mono ?_; rintro e w2 ⟨rfl, g2⟩; have HG2 := hidden g2; clear g2)
          | (go_at_call 35; refine (HRG.out _ HG2.out).mono ?_; rintro e w3 ⟨v, t, p, rfl, g3⟩; have HG3 := hidden (HG2.out.of_below g3); clear g3))
        go_ret2
        exact ⟨by rw [HE.out]; rfl, HG3.out⟩
theorem lquote_any (l : List UInt8) (w : World) (h : Fit w) (hl : l.length ≤ 1048576) : Calls Tryd.prog 19 #[.string (strOf l)] w fun e w' => e = .returned (.string (strOf (quoteL l))) ∧ Grows w w' := by
  have HR := hidden (lib_replace l [39] [39, 39] w h hl (by decide) (by decide))
  rw [replaceAll_quote] at HR
  have HLN := hidden (show (dblQ l).length ≤ 2097152 by have := dblQ_length l; omega)
  have HQ := hidden (show ([39] ++ dblQ l) ++ [39] = quoteL l from rfl)
  go_enter Tryd.func19, Tryd.ntmps19
  go_wp2_with (first
    | (go_at_call 40; refine HR.out.mono ?_; rintro e w2 ⟨rfl, g2⟩; have HG2 := hidden g2; clear g2)
    | (refine wpList_add_l rfl _ _ 9 rfl [39] (dblQ l) rfl rfl (by have := HLN.out; simp only [List.length_cons, List.length_nil]; omega) ?_)
    | (refine wpList_add_l rfl _ _ 9 rfl ([39] ++ dblQ l) [39] rfl rfl (by have := HLN.out; simp only [List.length_append, List.length_cons, List.length_nil]; omega) ?_))
  go_ret
  exact ⟨by rfl, HG2.out⟩
theorem pre_quote (l : List UInt8) : ([39] : List UInt8).isPrefixOf l = (l[0]? == some 39) := by
  cases l with
  | nil => rfl
  | cons c r =>
    have e1 : ([39] : List UInt8).isPrefixOf (c :: r) = ((39 : UInt8) == c) := by simp [List.isPrefixOf]
    have e2 : (c :: r)[0]? = some c := rfl
    rw [e1, e2]
    by_cases h : c = 39
    · subst h; rfl
    · have a : ((39 : UInt8) == c) = false := by simpa using Ne.symm h
      have b : (some c == some (39 : UInt8)) = false := by simpa using h
      rw [a, b]
theorem suf_quote (l : List UInt8) (h : l ≠ []) : ([39] : List UInt8).isSuffixOf l = (l[l.length - 1]? == some 39) := by
  unfold List.isSuffixOf
  show ([39] : List UInt8).isPrefixOf l.reverse = _
  rw [pre_quote, List.getElem?_reverse (by cases l with | nil => exact absurd rfl h | cons a r => simp)]
  rw [Nat.sub_zero]
set_option maxRecDepth 8000 in
set_option maxHeartbeats 2000000 in
theorem lunquote_any (l : List UInt8) (w : World) (h : Fit w) (hl : l.length ≤ 1048576) : Calls Tryd.prog 17 #[.string (strOf l)] w fun e w' => e = twoS (unqL l) ∧ Grows w w' := by
  have hs : (strOf l).size = l.length := rfl
  have HG := hidden (Below.refl w.heap.size w)
  by_cases h2 : 2 ≤ l.length
  · have HPF := hidden (fun w => lib_hasPrefix l [39] w)
    have HSF := hidden (fun w => lib_hasSuffix l [39] w (by omega))
    rw [pre_quote] at HPF
    rw [suf_quote l (by intro e; rw [e] at h2; simp at h2)] at HSF
    have hd2 : decide ((l.length : Int) < 2) = false := by simp; omega
    have hd2n : decide (l.length < 2) = false := by simp; omega
    by_cases ha : l[0]? = some 39
    · by_cases hb : l[l.length - 1]? = some 39
      · have HE0 := hidden (show unqL l = unqR (unqM ((l.drop 1).take (l.length - 2))) by unfold unqL; rw [if_pos ⟨h2, ha, hb⟩])
        rw [show (l[0]? == some 39) = true by simpa using ha] at HPF
        rw [show (l[l.length - 1]? == some 39) = true by simpa using hb] at HSF
        obtain ⟨m, hm0⟩ : ∃ m, m = (l.drop 1).take (l.length - 2) := ⟨_, rfl⟩
        have HSL := hidden (show (l.drop 1).take (l.length - 1 - 1) = m by rw [hm0, Nat.sub_sub])
        have HML := hidden (show m.length ≤ 1048576 by rw [hm0, List.length_take, List.length_drop]; omega)
        rw [← hm0] at HE0
        clear hm0
        have HQ := hidden (lquotes_any m w (by have := HML.out; omega))
        rw [qd_unqM m.length m (Nat.le_refl _)] at HQ
        clear ha hb
        cases hm : unqM m with
        | none =>
          rw [hm] at HE0 HQ
          clear hm
          go_enter Tryd.func17, Tryd.ntmps17
          go_wp2_with (first
            | (go_at_call 37; refine (HPF.out _).mono ?_; rintro e w2 ⟨rfl, rfl⟩)
            | (go_at_call 38; refine (HSF.out _).mono ?_; rintro e w2 ⟨rfl, rfl⟩)
            | (go_at_call 39; refine HQ.out.mono ?_; rintro e w2 ⟨rfl, g2⟩; have HG2 := hidden g2; clear g2)
            | (refine wpList_slice_l rfl _ _ _ 9 rfl Tryd.underlying9 l 1 (l.length - 1) rfl rfl (by show Value.int IntKind.i64 ((l.length : Int) - 1) = _; congr 1; omega) (by omega) (by omega) m HSL.out ?_))
          go_ret2
          exact ⟨by rw [HE0.out]; rfl, HG2.out⟩
        | some t =>
          have HR := hidden (fun w2 (g : Grows w w2) => lib_replace m [39, 39] [39] w2 (h.grow g) HML.out (by decide) (by decide))
          rw [replaceAll_pairs hm] at HR
          rw [hm] at HE0 HQ
          clear hm
          go_enter Tryd.func17, Tryd.ntmps17
          go_wp2_with (first
            | (go_at_call 37; refine (HPF.out _).mono ?_; rintro e w2 ⟨rfl, rfl⟩)
            | (go_at_call 38; refine (HSF.out _).mono ?_; rintro e w2 ⟨rfl, rfl⟩)
            | (go_at_call 39; refine HQ.out.mono ?_; rintro e w2 ⟨rfl, g2⟩; have HG2 := hidden g2; clear g2)
            | (go_at_call 40; refine (HR.out _ HG2.out).mono ?_; rintro e w3 ⟨rfl, g3⟩; have HG3 := hidden (HG2.out.of_below g3); clear g3)
            | (refine wpList_slice_l rfl _ _ _ 9 rfl Tryd.underlying9 l 1 (l.length - 1) rfl rfl (by show Value.int IntKind.i64 ((l.length : Int) - 1) = _; congr 1; omega) (by omega) (by omega) m HSL.out ?_))
          go_ret2
          exact ⟨by rw [HE0.out]; rfl, HG3.out⟩
      · have HE := hidden (show unqL l = ([], 4) by unfold unqL; rw [if_neg (fun h => hb h.2.2)])
        rw [show (l[0]? == some 39) = true by simpa using ha] at HPF
        rw [show (l[l.length - 1]? == some 39) = false by simpa using hb] at HSF
        clear ha hb
        go_enter Tryd.func17, Tryd.ntmps17
        go_wp2_with (first
          | (go_at_call 37; refine (HPF.out _).mono ?_; rintro e w2 ⟨rfl, rfl⟩)
          | (go_at_call 38; refine (HSF.out _).mono ?_; rintro e w2 ⟨rfl, rfl⟩))
        go_ret2
        exact ⟨by rw [HE.out]; rfl, HG.out⟩
    · have HE := hidden (show unqL l = ([], 4) by unfold unqL; rw [if_neg (fun h => ha h.2.1)])
      rw [show (l[0]? == some 39) = false by simpa using ha] at HPF
      clear ha
      go_enter Tryd.func17, Tryd.ntmps17
      go_wp2_with (first
        | (go_at_call 37; refine (HPF.out _).mono ?_; rintro e w2 ⟨rfl, rfl⟩))
      go_ret2
      exact ⟨by rw [HE.out]; rfl, HG.out⟩
  · have HE := hidden (show unqL l = ([], 4) by unfold unqL; rw [if_neg (fun h => h2 h.1)])
    have hd2 : decide ((l.length : Int) < 2) = true := by simp; omega
    have hlt : (l.length : Int) < 2 := by omega
    go_enter Tryd.func17, Tryd.ntmps17
    go_wp2_with fail
    go_ret2
    exact ⟨by rw [HE.out]; rfl, HG.out⟩
end Go.Proofs.YtaiphocnfkkigaaDoor
