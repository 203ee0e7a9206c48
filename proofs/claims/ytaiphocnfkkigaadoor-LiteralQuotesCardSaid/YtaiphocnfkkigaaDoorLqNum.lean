/-
  What package literal asks of the library: replaced quotes, pieces at '%', numerals read and written, quotes that stand in pairs. Lists and arithmetic; no walk.
-/
import Derived.Test.YtaiphocnfkkigaaDoorLitNum
import Derived.Test.YtaiphocnfkkigaaDoorLitUnq
import Derived.Lib.Replace
import Derived.Lib.Split
import Derived.Lib.ItoaNum
import Derived.Lib.ParseIntB
import Derived.Lib.Join
namespace Go.Proofs.YtaiphocnfkkigaaDoor
set_option linter.unusedVariables false
set_option linter.unusedSimpArgs false

theorem index_skip {c : UInt8} {l old : List UInt8} (h : old.isPrefixOf (c :: l) = false) : Lib.index (c :: l) old = if Lib.index l old == -1 then -1 else Lib.index l old + 1 := by
  rw [Lib.index, h]; simp
theorem count_skip {c : UInt8} {l old : List UInt8} (h1 : old ≠ []) (h : old.isPrefixOf (c :: l) = false) : Lib.count (c :: l) old = Lib.count l old := by
  have hix := index_skip h
  by_cases hm : Lib.index l old = -1
  · rw [hm] at hix
    rw [Lib.count_miss hm, Lib.count_miss (by rw [hix]; rfl)]
  · have hge := Lib.index_ge l old
    obtain ⟨i, hi⟩ := Int.eq_ofNat_of_zero_le (show 0 ≤ Lib.index l old by omega)
    have hi2 : Lib.index (c :: l) old = ((i + 1 : Nat) : Int) := by
      rw [hix, hi, if_neg (by intro e; have := beq_iff_eq.1 e; omega)]
      omega
    rw [Lib.count_hit h1 hi, Lib.count_hit h1 hi2, show i + 1 + old.length = (i + old.length) + 1 by omega, List.drop_succ_cons]
theorem replaceK_skip {c : UInt8} {l old new : List UInt8} (h1 : old ≠ []) (h : old.isPrefixOf (c :: l) = false) : Lib.replaceK old new (Lib.count (c :: l) old) (c :: l) = c :: Lib.replaceK old new (Lib.count l old) l := by
  rw [count_skip h1 h]
  cases hk : Lib.count l old with
  | zero => unfold Lib.replaceK; rfl
  | succ k =>
    obtain ⟨i, hi⟩ := Lib.index_of_count (s := l) (old := old) (by omega)
    have hi2 : Lib.index (c :: l) old = ((i + 1 : Nat) : Int) := by
      rw [index_skip h, hi, if_neg (by intro e; have := beq_iff_eq.1 e; omega)]
      omega
    rw [Lib.replaceK_hit _ _ _ _ i hi, Lib.replaceK_hit _ _ _ _ (i + 1) hi2, show i + 1 + old.length = (i + old.length) + 1 by omega, List.drop_succ_cons]
    simp
theorem replaceK_here {l old new : List UInt8} (h1 : old ≠ []) : Lib.replaceK old new (Lib.count (old ++ l) old) (old ++ l) = new ++ Lib.replaceK old new (Lib.count l old) l := by
  have hix : Lib.index (old ++ l) old = ((0 : Nat) : Int) := by
    cases old with
    | nil => exact absurd rfl h1
    | cons a t =>
      show Lib.index (a :: (t ++ l)) (a :: t) = 0
      rw [Lib.index, if_pos (by rw [← List.cons_append]; simp)]
  rw [Lib.count_hit h1 hix, Nat.add_comm, Lib.replaceK_hit _ _ _ _ 0 hix, Nat.zero_add, List.drop_left]
  simp
theorem replaceK_nil (old new : List UInt8) (h1 : old ≠ []) : Lib.replaceK old new (Lib.count [] old) [] = [] := by
  have : Lib.index [] old = -1 := by
    cases old with
    | nil => exact absurd rfl h1
    | cons a t => rfl
  rw [Lib.count_miss this]
  rfl
theorem dblQ_nil : dblQ [] = [] := rfl
theorem dblQ_cons1 (c : UInt8) (l : List UInt8) : dblQ (c :: l) = (if c = 39 then [39, 39] else [c]) ++ dblQ l := by unfold dblQ; rw [List.flatMap_cons]
/-- each quote doubled -/
theorem replaceAll_quote (s : List UInt8) : Lib.replaceAll s [39] [39, 39] = dblQ s := by
  unfold Lib.replaceAll Lib.replace
  rw [if_neg (by decide)]
  unfold Lib.replaceNum
  rw [if_pos (.inl (by decide))]
  induction s with
  | nil => rw [replaceK_nil _ _ (by decide)]; rfl
  | cons c l ih =>
    by_cases h : c = 39
    · subst h
      have := replaceK_here (l := l) (old := [39]) (new := [39, 39]) (by decide)
      rw [List.singleton_append] at this
      rw [this, ih, dblQ_cons1, if_pos rfl]
    · rw [replaceK_skip (by decide) (by simp [List.isPrefixOf, Ne.symm h]), ih, dblQ_cons1, if_neg h]
      rfl
theorem replaceK_pairs : ∀ (k : Nat) (m t : List UInt8), m.length ≤ k → unqM m = some t → Lib.replaceK [39, 39] [39] (Lib.count m [39, 39]) m = t
  | _, [], t, _, h => by
    have e : [] = t := by injection h
    rw [replaceK_nil _ _ (by decide), e]
  | 0, _ :: _, _, h, _ => by simp at h
  | k + 1, c :: r, t, hk, h => by
    by_cases hc : c = 39
    · subst hc
      cases r with
      | nil => rw [unqM_q] at h; cases h
      | cons d r =>
        by_cases hd : d = 39
        · subst hd
          rw [unqM_qq] at h
          cases hr : unqM r with
          | none => rw [hr] at h; cases h
          | some u =>
            rw [hr] at h
            have e : 39 :: u = t := by injection h
            have := replaceK_here (l := r) (old := [39, 39]) (new := [39]) (by decide)
            rw [show [39, 39] ++ r = 39 :: 39 :: r from rfl] at this
            rw [this, replaceK_pairs k r u (by simp at hk; omega) hr, ← e]
            rfl
        · rw [unqM_qn hd] at h; cases h
    · rw [unqM_ne hc] at h
      cases hr : unqM r with
      | none => rw [hr] at h; cases h
      | some u =>
        rw [hr] at h
        have e : c :: u = t := by injection h
        rw [replaceK_skip (by decide) (by simp [List.isPrefixOf, Ne.symm hc]), replaceK_pairs k r u (by simp at hk; omega) hr, ← e]
/-- each pair of quotes replaced by one -/
theorem replaceAll_pairs {m t : List UInt8} (h : unqM m = some t) : Lib.replaceAll m [39, 39] [39] = t := by
  unfold Lib.replaceAll Lib.replace
  rw [if_neg (by decide)]
  unfold Lib.replaceNum
  rw [if_pos (.inl (by decide))]
  exact replaceK_pairs m.length m t (Nat.le_refl _) h
/-- quotes stand in pairs; 'q': the quotes just before are odd in number -/
def qd : Bool → List UInt8 → Bool
  | q, [] => !q
  | q, c :: r => if c = 39 then qd (!q) r else if q then false else qd false r
theorem qd_quote (q : Bool) (r : List UInt8) : qd q (39 :: r) = qd (!q) r := by rw [qd, if_pos rfl]
theorem qd_odd {c : UInt8} (h : c ≠ 39) (r : List UInt8) : qd true (c :: r) = false := by rw [qd, if_neg h, if_pos rfl]
theorem qd_even {c : UInt8} (h : c ≠ 39) (r : List UInt8) : qd false (c :: r) = qd false r := by rw [qd, if_neg h]; rfl
theorem qd_unqM : ∀ (k : Nat) (m : List UInt8), m.length ≤ k → qd false m = (unqM m).isSome
  | _, [], _ => rfl
  | 0, _ :: _, h => by simp at h
  | k + 1, c :: r, hk => by
    by_cases hc : c = 39
    · subst hc
      cases r with
      | nil => rw [unqM_q]; rfl
      | cons d r =>
        by_cases hd : d = 39
        · subst hd
          rw [unqM_qq, qd_quote, qd_quote]
          show qd false r = _
          rw [qd_unqM k r (by simp at hk; omega), Option.isSome_map]
        · rw [unqM_qn hd, qd_quote]
          show qd true (d :: r) = _
          rw [qd_odd hd]
          rfl
    · rw [unqM_ne hc, qd_even hc, qd_unqM k r (by simpa using hk), Option.isSome_map]
/-- what lies between the percent signs -/
def pieces : List UInt8 → List (List UInt8)
  | [] => [[]]
  | c :: r => if c = 37 then [] :: pieces r else match pieces r with | [] => [[c]] | h :: t => (c :: h) :: t
theorem splitK_pieces : ∀ l : List UInt8, Lib.splitK [37] 0 (Lib.count l [37]) l = pieces l
  | [] => by
    rw [Lib.count_miss (by rfl)]; rfl
  | c :: l => by
    have ih := splitK_pieces l
    by_cases h : c = 37
    · subst h
      have hix : Lib.index (37 :: l) [37] = ((0 : Nat) : Int) := by rw [Lib.index]; simp [List.isPrefixOf]
      rw [Lib.count_hit (by decide) hix, Nat.add_comm, Lib.splitK, if_neg (by rw [hix]; decide), hix]
      show List.take 0 (37 :: l) :: Lib.splitK [37] 0 (Lib.count l [37]) l = _
      rw [ih, pieces, if_pos rfl]
      rfl
    · have hp : ([37] : List UInt8).isPrefixOf (c :: l) = false := by simp [List.isPrefixOf, Ne.symm h]
      rw [count_skip (by decide) hp, pieces, if_neg h, ← ih]
      cases hk : Lib.count l [37] with
      | zero => rfl
      | succ k =>
        obtain ⟨i, hi⟩ := Lib.index_of_count (s := l) (old := [37]) (by omega)
        have hi2 : Lib.index (c :: l) [37] = ((i + 1 : Nat) : Int) := by
          rw [index_skip hp, hi, if_neg (by intro e; have := beq_iff_eq.1 e; omega)]
          omega
        rw [Lib.splitK, if_neg (by rw [hi2]; intro e; have := beq_iff_eq.1 e; omega), hi2, Lib.splitK, if_neg (by rw [hi]; intro e; have := beq_iff_eq.1 e; omega), hi]
        simp only [Int.toNat_natCast, Nat.add_zero]
        show _ = (c :: List.take i l) :: _
        rw [show i + 1 + [(37 : UInt8)].length = (i + 1) + 1 by rfl, List.drop_succ_cons, List.take_succ_cons]
        rfl
/-- the library's numerals are the reference's -/
theorem decDigits_decP : ∀ (k u : Nat), u < 10 ^ k → 0 < u → Lib.decDigits u = decP u
  | 0, u, h, h0 => by simp at h; omega
  | k + 1, u, h, h0 => by
    rw [Lib.decDigits]
    by_cases h9 : u < 10
    · rw [dif_pos h9, decP_pos h0, Nat.div_eq_of_lt h9, decP_zero, Nat.mod_eq_of_lt h9]
      rfl
    · rw [dif_neg h9, decP_pos h0, decDigits_decP k (u / 10) (by rw [Nat.pow_succ] at h; omega) (by omega)]
theorem itoa_fmtI (n : Int) (h0 : -9223372036854775808 ≤ n) (h1 : n ≤ 9223372036854775807) : Lib.itoa n = fmtI n := by
  unfold Lib.itoa fmtI
  by_cases hz : n = 0
  · subst hz
    rw [if_neg (by omega), if_pos rfl]
    show Lib.decDigits 0 = [48]
    rw [Lib.decDigits, dif_pos (by decide)]
    rfl
  · rw [if_neg hz]
    by_cases hn : n < 0
    · rw [if_pos hn, if_pos hn, decDigits_decP 20 _ (by omega) (by omega)]
    · rw [if_neg hn, if_neg hn, show n.toNat = n.natAbs by omega, decDigits_decP 20 _ (by omega) (by omega)]
theorem parseUintM_digits (M : Nat) (hM : M ≤ 18446744073709551615) : ∀ (l : List UInt8) (acc : Nat), l.all isDig = true →
    Lib.parseUintM M acc l = if l = [] ∨ l.foldl (fun a c => a * 10 + (c.toNat - 48)) acc ≤ M then .ok (l.foldl (fun a c => a * 10 + (c.toNat - 48)) acc) else .range
  | [], acc, _ => by rw [Lib.parseUintM, if_pos (.inl rfl)]; rfl
  | c :: r, acc, h => by
    rw [List.all_cons, Bool.and_eq_true] at h
    have hc := h.1
    unfold isDig at hc
    rw [Bool.and_eq_true, decide_eq_true_eq, decide_eq_true_eq] at hc
    have hmono : ∀ (m : List UInt8) (a : Nat), a ≤ m.foldl (fun a c => a * 10 + (c.toNat - 48)) a := by
      intro m
      induction m with
      | nil => intro a; exact Nat.le_refl _
      | cons c m ih => intro a; rw [List.foldl_cons]; have := ih (a * 10 + (c.toNat - 48)); omega
    rw [Lib.parseUintM, if_pos hc, List.foldl_cons]
    have h1 := hmono r (acc * 10 + (c.toNat - 48))
    by_cases hb : 1844674407370955162 ≤ acc
    · rw [if_pos hb, if_neg (by rintro (h | h); · cases h
                                · omega)]
    · rw [if_neg hb]
      by_cases hg : M < acc * 10 + (c.toNat - 48)
      · rw [if_pos hg, if_neg (by rintro (h | h); · cases h
                                  · omega)]
      · rw [if_neg hg, parseUintM_digits M hM r _ h.2]
        by_cases hr : r = []
        · subst hr
          rw [if_pos (.inl rfl), if_pos (.inr (by simpa using Nat.le_of_not_lt hg))]
        · by_cases hle : r.foldl (fun a c => a * 10 + (c.toNat - 48)) (acc * 10 + (c.toNat - 48)) ≤ M
          · rw [if_pos (.inr hle), if_pos (.inr hle)]
          · rw [if_neg (by rintro (h | h); · exact hr h
                           · exact hle h), if_neg (by rintro (h | h); · cases h
                                                      · exact hle h)]
/-- the form of an integer literal: digits behind a minus sign or none, no zero ahead of others -/
def litDs (l : List UInt8) : List UInt8 := match l with | [] => [] | c :: r => if c = 45 then r else c :: r
def isLitL (l : List UInt8) : Bool := (litDs l).all isDig && (l == [48] || !(litDs l).isEmpty && !((litDs l).head? == some 48))
/-- what strconv.ParseInt answers of a literal of that form -/
theorem parse_lit {l : List UInt8} (h : isLitL l = true) : (∃ v, Lib.parseIntB 64 l = .ok v ∧ prsI l = (v, 0)) ∨ (Lib.parseIntB 64 l = .range ∧ prsI l = (0, 6)) := by
  unfold isLitL at h
  rw [Bool.and_eq_true] at h
  obtain ⟨hall, hform⟩ := h
  have hne : litDs l ≠ [] := fun e => by
    rw [e] at hform
    simp at hform
    rw [hform] at e
    exact absurd e (by decide)
  have hhead : ¬ ((litDs l).head? = some 48 ∧ l ≠ [48]) := fun ⟨h1, h2⟩ => by
    rw [h1] at hform
    simp at hform
    exact h2 hform
  have hU : ∀ ds : List UInt8, ds ≠ [] → ds.all isDig = true → Lib.parseUintB 64 ds = if decV ds ≤ 18446744073709551615 then .ok (decV ds) else .range := fun ds h1 h2 => by
    unfold Lib.parseUintB
    rw [if_neg h1, parseUintM_digits _ (by decide) ds 0 h2]
    unfold decV
    by_cases hle : ds.foldl (fun a c => a * 10 + (c.toNat - 48)) 0 ≤ 18446744073709551615
    · rw [if_pos hle, if_pos (.inr (by exact hle))]
    · rw [if_neg hle, if_neg (by rintro (h | h); · exact h1 h
                                 · exact hle h)]
  cases l with
  | nil => exact absurd rfl hne
  | cons c r =>
    by_cases hc : c = 45
    · subst hc
      have e : litDs (45 :: r) = r := by show (if (45 : UInt8) = 45 then r else 45 :: r) = r; rw [if_pos rfl]
      rw [e] at hne hall hhead
      have hp : prsI (45 :: r) = if decV r ≤ 9223372036854775808 then (-(decV r : Int), 0) else (0, 6) := by
        show (if (45 : UInt8) = 45 then prsD true (45 :: r) r else prsD false (45 :: r) (45 :: r)) = _
        rw [if_pos rfl]
        unfold prsD
        rw [if_neg (by rintro (h | h); · exact hne h
                       · exact hhead h), if_neg (by rw [hall]; decide), if_pos rfl]
      have hB : Lib.parseIntB 64 (45 :: r) = if decV r ≤ 9223372036854775808 then .ok (-(decV r : Int)) else .range := by
        unfold Lib.parseIntB
        simp only [show (45 : UInt8).toNat = 45 from rfl, or_true, if_true, not_true, false_and, if_false, true_and]
        rw [hU r hne hall]
        by_cases hb : decV r ≤ 18446744073709551615
        · rw [if_pos hb]
          by_cases hs : decV r ≤ 9223372036854775808
          · simp only [if_pos hs]
            rw [if_neg (by show ¬ 2 ^ 63 < decV r; omega)]
          · simp only [if_neg hs]
            rw [if_pos (by show 2 ^ 63 < decV r; omega)]
        · rw [if_neg hb, if_neg (by omega)]
      rw [hp, hB]
      by_cases hs : decV r ≤ 9223372036854775808
      · rw [if_pos hs, if_pos hs]; exact .inl ⟨_, rfl, rfl⟩
      · rw [if_neg hs, if_neg hs]; exact .inr ⟨rfl, rfl⟩
    · have e : litDs (c :: r) = c :: r := by show (if c = 45 then r else c :: r) = _; rw [if_neg hc]
      rw [e] at hall hhead
      have hp : prsI (c :: r) = if decV (c :: r) < 9223372036854775808 then ((decV (c :: r) : Int), 0) else (0, 6) := by
        show (if c = 45 then prsD true (c :: r) r else prsD false (c :: r) (c :: r)) = _
        rw [if_neg hc]
        unfold prsD
        rw [if_neg (by rintro (h | h); · cases h
                       · exact hhead h), if_neg (by rw [hall]; decide), if_neg (by decide)]
      have hd := hall
      rw [List.all_cons, Bool.and_eq_true] at hd
      have hcd := hd.1
      unfold isDig at hcd
      rw [Bool.and_eq_true, decide_eq_true_eq, decide_eq_true_eq] at hcd
      have n43 : ¬ (c.toNat = 43 ∨ c.toNat = 45) := by omega
      have n45 : ¬ (c.toNat = 45) := by omega
      have hB : Lib.parseIntB 64 (c :: r) = if decV (c :: r) < 9223372036854775808 then .ok ((decV (c :: r) : Int)) else .range := by
        unfold Lib.parseIntB
        simp only [if_neg n43]
        rw [hU (c :: r) (by simp) hall]
        by_cases hb : decV (c :: r) ≤ 18446744073709551615
        · rw [if_pos hb]
          by_cases hs : decV (c :: r) < 9223372036854775808
          · simp only [if_pos hs, n45, not_false_eq_true, true_and, false_and, if_false]
            rw [if_neg (by show ¬ 2 ^ 63 ≤ decV (c :: r); omega)]
          · simp only [if_neg hs, n45, not_false_eq_true, true_and, false_and, if_false]
            rw [if_pos (by show 2 ^ 63 ≤ decV (c :: r); omega)]
        · rw [if_neg hb, if_neg (by omega)]
      rw [hp, hB]
      by_cases hs : decV (c :: r) < 9223372036854775808
      · rw [if_pos hs, if_pos hs]; exact .inl ⟨_, rfl, rfl⟩
      · rw [if_neg hs, if_neg hs]; exact .inr ⟨rfl, rfl⟩
theorem parse_bad {l : List UInt8} (h0 : l ≠ []) (h : isLitL l = false) : prsI l = (0, 4) := by
  have key : ∀ (neg : Bool) (ds : List UInt8), litDs l = ds → prsD neg l ds = (0, 4) := fun neg ds e => by
    unfold isLitL at h
    rw [e] at h
    unfold prsD
    by_cases hb : ds = [] ∨ (ds.head? = some 48 ∧ l ≠ [48])
    · rw [if_pos hb]
    · rw [if_neg hb]
      by_cases ha : ds.all isDig = false
      · rw [if_pos ha]
      · exfalso
        have ha : ds.all isDig = true := by simpa using ha
        rw [ha, Bool.true_and, Bool.or_eq_false_iff] at h
        have hb1 : ¬ ds = [] := fun h => hb (.inl h)
        have hb2 : ¬ (ds.head? = some 48 ∧ l ≠ [48]) := fun h => hb (.inr h)
        have hl : l ≠ [48] := by have := h.1; simpa using this
        have hh : ¬ ds.head? = some 48 := fun e => hb2 ⟨e, hl⟩
        have h2 := h.2
        simp [hb1, hh] at h2
  cases l with
  | nil => exact absurd rfl h0
  | cons c r =>
    show (if c = 45 then prsD true (c :: r) r else prsD false (c :: r) (c :: r)) = _
    by_cases hc : c = 45
    · rw [if_pos hc]; exact key true r (by show (if c = 45 then r else c :: r) = r; rw [if_pos hc])
    · rw [if_neg hc]; exact key false (c :: r) (by show (if c = 45 then r else c :: r) = _; rw [if_neg hc])
end Go.Proofs.YtaiphocnfkkigaaDoor
