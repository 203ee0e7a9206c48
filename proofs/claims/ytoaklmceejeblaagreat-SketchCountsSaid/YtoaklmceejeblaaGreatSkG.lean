/-
  Shaken: what the claims of this seat need of this text. No condition.
-/
import Derived.Test.YtoaklmceejeblaaGreatSkF
namespace Go.Proofs.YtoaklmceejeblaaGreat
set_option maxRecDepth 8000
open Go.RowKit
set_option linter.unusedVariables false
set_option linter.unusedSimpArgs false
def leastK (fs : List Val) (rk : List Int) (x : Val) : Nat → Int
  | 0 => 0
  | k + 1 => if cmpX (fs.getD k nulX) x = 0 then max 0 (rk.getD (2 * k + 1) 0 - rk.getD (2 * k) 0) else leastK fs rk x k
def mostK (cm : List Int) (x : Val) (m : Int) : Nat → Int
  | 0 => m
  | r + 1 => min (mostK cm x m r) (cm.getD (cellN r x) 0)
def outsB (fs : List Val) (x : Val) : Bool := decide (cmpX x (fs.getD 0 nulX) < 0) || decide (0 < cmpX x (fs.getD (fs.length - 1) nulX))
def rceqOut (s : Sk) (x : Val) : Bool := foreignB s.fs x || outsB s.fs x || ceqOut s x
def rceqLo (s : Sk) (x : Val) : Int := if rceqOut s x = true then 0 else leastK s.fs s.rk x s.fs.length
def rceqHi (s : Sk) (x : Val) : Int := if rceqOut s x = true then 0 else mostK s.cm x (lessMaxF (s.rows - s.nulls) x true s.fs s.rk - lessMinF x false 0 s.fs s.rk) 4
theorem mostK_four (cm : List Int) (x : Val) (m : Int) : mostK cm x m 4 = min m (minL [ctrC cm 0 x, ctrC cm 1 x, ctrC cm 2 x, ctrC cm 3 x]) := by
  show min (min (min (min m (ctrC cm 0 x)) (ctrC cm 1 x)) (ctrC cm 2 x)) (ctrC cm 3 x) = min m (min (min (min (ctrC cm 0 x) (ctrC cm 1 x)) (ctrC cm 2 x)) (ctrC cm 3 x))
  omega
theorem leastK_none {fs : List Val} {rk : List Int} {x : Val} : ∀ k, (∀ j, j < k → cmpX (fs.getD j nulX) x ≠ 0) → leastK fs rk x k = 0
  | 0, _ => rfl
  | k + 1, h => by rw [leastK, if_neg (h k (Nat.lt_succ_self k))]; exact leastK_none k fun j hj => h j (Nat.lt_succ_of_lt hj)
theorem leastK_at {fs : List Val} {rk : List Int} {x : Val} {p : Nat} (hp : cmpX (fs.getD p nulX) x = 0) : ∀ k, p < k → (∀ j, j < k → p < j → cmpX (fs.getD j nulX) x ≠ 0) → leastK fs rk x k = max 0 (rk.getD (2 * p + 1) 0 - rk.getD (2 * p) 0)
  | 0, h, _ => absurd h (Nat.not_lt_zero _)
  | k + 1, h, hn => by
    rw [leastK]
    by_cases e : p = k
    · subst e; rw [if_pos hp]
    · rw [if_neg (hn k (Nat.lt_succ_self k) (by omega))]; exact leastK_at hp k (by omega) fun j hj => hn j (Nat.lt_succ_of_lt hj)
theorem getD_some {fs : List Val} {i : Nat} (h : i < fs.length) : fs[i]? = some (fs.getD i nulX) := by rw [List.getD_eq_getElem?_getD, List.getElem?_eq_getElem h]; rfl
theorem cmpX_kind {y x : Val} (hk : y.k ≠ x.k) : cmpX y x = if y.k < x.k then -1 else 1 := by
  unfold cmpX cmpV
  rw [if_neg hk]
  by_cases hl : y.k < x.k
  · simp [hl, sgnV]
  · have : x.k < y.k := by omega
    simp [hl, sgnV, this]
theorem cut_out {s : Sk} {x : Val} {r1 r2 : Nat} (hf : rvfP (s.rows - s.nulls) s.fs s.rk) (hx : okX x)
    (hr1 : r1 ≤ s.fs.length) (hlo1 : ∀ (k : Nat) (y : Val), k < r1 → s.fs[k]? = some y → ¬ 0 < lcX y x) (hhi1 : ∀ (k : Nat) (y : Val), r1 ≤ k → s.fs[k]? = some y → 0 < lcX y x)
    (hr2 : r2 ≤ s.fs.length) (hlo2 : ∀ (k : Nat) (y : Val), k < r2 → s.fs[k]? = some y → ¬ 0 ≤ lcX y x) (hhi2 : ∀ (k : Nat) (y : Val), r2 ≤ k → s.fs[k]? = some y → 0 ≤ lcX y x)
    (ho : foreignB s.fs x = true ∨ outsB s.fs x = true) : (r1 = 0 ∧ r2 = 0) ∨ (r1 = s.fs.length ∧ r2 = s.fs.length) := by
  obtain ⟨ha, hok⟩ := asc_of hf
  have c : ∀ (k : Nat) (y : Val), s.fs[k]? = some y → lcX y x = cmpX y x := fun k y hy => lcX_cmpX (okAll hok hy) hx
  -- all fences lie behind x, or all ahead of it
  have key : (∀ (k : Nat) (y : Val), s.fs[k]? = some y → 0 < cmpX y x) ∨ (∀ (k : Nat) (y : Val), s.fs[k]? = some y → cmpX y x < 0) := by
    rcases Nat.eq_zero_or_pos s.fs.length with h0 | h0
    · refine .inl fun k y hy => ?_
      rw [List.length_eq_zero_iff.1 h0] at hy
      simp at hy
    have hfen : ∀ i, i < s.fs.length → fenR s.fs i := fun i hi => (hf.2.2.2 i hi).1
    have hkind : ∀ (k : Nat) (y : Val), s.fs[k]? = some y → y.k ≠ 0 ∧ y.k = (s.fs.getD 0 nulX).k := fun k y hy => by
      obtain ⟨hk, -⟩ := List.getElem?_eq_some_iff.1 hy
      have h1 := hfen k hk
      have h2 := hfen 0 h0
      rw [fenR, getD_of_some hy] at h1
      exact ⟨h1.2.1, h1.2.2.1.trans h2.2.2.1.symm⟩
    have hfor : (s.fs.getD 0 nulX).k ≠ x.k → (∀ (k : Nat) (y : Val), s.fs[k]? = some y → 0 < cmpX y x) ∨ (∀ (k : Nat) (y : Val), s.fs[k]? = some y → cmpX y x < 0) := fun hne => by
      by_cases hl : (s.fs.getD 0 nulX).k < x.k
      · refine .inr fun k y hy => ?_
        have h := (hkind k y hy).2
        rw [cmpX_kind (by rw [h]; exact hne), h, if_pos hl]
        decide
      · refine .inl fun k y hy => ?_
        have h := (hkind k y hy).2
        rw [cmpX_kind (by rw [h]; exact hne), h, if_neg hl]
        decide
    by_cases hne : (s.fs.getD 0 nulX).k = x.k
    case neg => exact hfor hne
    have hnf : foreignB s.fs x = false := by
      have h1 := (hkind 0 _ (getD_some h0)).1
      unfold foreignB
      match hm : s.fs, h0 with
      | f :: r, _ =>
        rw [hm] at hne h1
        have e : f.k = x.k := hne
        have e2 : f.k ≠ 0 := h1
        simp [← e, e2]
    have ho := ho.resolve_left (by rw [hnf]; decide)
    unfold outsB at ho
    simp only [Bool.or_eq_true, decide_eq_true_eq] at ho
    rcases ho with h | h
    · refine .inl fun k y hy => ?_
      have h1 : 0 < cmpX (s.fs.getD 0 nulX) x := by have := cmpX_anti hne; omega
      rcases Nat.eq_zero_or_pos k with e | e
      · subst e; rw [← getD_of_some hy]; exact h1
      · exact (asc_up ha hx e (getD_some h0) hy (by omega)).1 hne
    · have hL := getD_some (show s.fs.length - 1 < s.fs.length by omega)
      generalize s.fs.getD (s.fs.length - 1) nulX = z at hL h
      have hzk : z.k = x.k := ((hkind _ z hL).2).trans hne
      have h1 : cmpX z x < 0 := by have := cmpX_anti hzk; omega
      refine .inr fun k y hy => ?_
      obtain ⟨hk, -⟩ := List.getElem?_eq_some_iff.1 hy
      have hyk : y.k = x.k := ((hkind k y hy).2).trans hne
      rcases Nat.lt_or_ge k (s.fs.length - 1) with e | e
      · have h2 := (ha k (s.fs.length - 1) y z e hy hL).2.2.2
        exact cmpX_lt_trans (hyk.trans hzk.symm) hzk (okAll hok hy) (okAll hok hL) hx h2 (by omega)
      · rw [show k = s.fs.length - 1 by omega, hL] at hy
        rw [← Option.some.inj hy]; exact h1
  rcases key with key | key
  · refine .inl ⟨?_, ?_⟩
    · apply Classical.byContradiction
      intro hn
      have h0 : 0 < r1 := Nat.pos_of_ne_zero hn
      have hy := getD_some (fs := s.fs) (i := 0) (by omega)
      have := hlo1 0 _ h0 hy
      rw [c 0 _ hy] at this
      exact this (key 0 _ hy)
    · apply Classical.byContradiction
      intro hn
      have h0 : 0 < r2 := Nat.pos_of_ne_zero hn
      have hy := getD_some (fs := s.fs) (i := 0) (by omega)
      have := hlo2 0 _ h0 hy
      rw [c 0 _ hy] at this
      exact this (Int.le_of_lt (key 0 _ hy))
  · refine .inr ⟨?_, ?_⟩
    · apply Classical.byContradiction
      intro hn
      have hy := getD_some (fs := s.fs) (i := r1) (by omega)
      have := hhi1 r1 _ (Nat.le_refl _) hy
      rw [c r1 _ hy] at this
      have := key r1 _ hy
      omega
    · apply Classical.byContradiction
      intro hn
      have hy := getD_some (fs := s.fs) (i := r2) (by omega)
      have := hhi2 r2 _ (Nat.le_refl _) hy
      rw [c r2 _ hy] at this
      have := key r2 _ hy
      omega
theorem ceq_same {s : Sk} {x : Val} {r1 r2 : Nat} (hf : rvfP (s.rows - s.nulls) s.fs s.rk) (hc : ∀ r, 0 ≤ ctrC s.cm r x) (hx : okX x)
    (hr1 : r1 ≤ s.fs.length) (hlo1 : ∀ (k : Nat) (y : Val), k < r1 → s.fs[k]? = some y → ¬ 0 < lcX y x) (hhi1 : ∀ (k : Nat) (y : Val), r1 ≤ k → s.fs[k]? = some y → 0 < lcX y x)
    (hr2 : r2 ≤ s.fs.length) (hlo2 : ∀ (k : Nat) (y : Val), k < r2 → s.fs[k]? = some y → ¬ 0 ≤ lcX y x) (hhi2 : ∀ (k : Nat) (y : Val), r2 ≤ k → s.fs[k]? = some y → 0 ≤ lcX y x)
    (hM : lessMaxF (s.rows - s.nulls) x true s.fs s.rk = bfHi s r1) (hm : lessMinF x false 0 s.fs s.rk = bfLo s r2) : rceqLo s x = ceqLo s x r1 r2 ∧ rceqHi s x = ceqHi s x r1 r2 := by
  obtain ⟨ha, hok⟩ := asc_of hf
  unfold rceqLo rceqHi ceqLo ceqHi
  cases hco : ceqOut s x with
  | true =>
    have : rceqOut s x = true := by unfold rceqOut; rw [hco, Bool.or_true]
    rw [this]; simp
  | false =>
    have hmn : 0 ≤ minL [ctrC s.cm 0 x, ctrC s.cm 1 x, ctrC s.cm 2 x, ctrC s.cm 3 x] := by
      have h0 := hc 0; have h1 := hc 1; have h2 := hc 2; have h3 := hc 3
      show 0 ≤ min (min (min (ctrC s.cm 0 x) (ctrC s.cm 1 x)) (ctrC s.cm 2 x)) (ctrC s.cm 3 x)
      omega
    cases ho : rceqOut s x with
    | true =>
      have ho2 : foreignB s.fs x = true ∨ outsB s.fs x = true := by
        unfold rceqOut at ho
        rw [hco, Bool.or_false] at ho
        simpa using ho
      rw [if_pos rfl, if_pos rfl, if_neg (by decide), if_neg (by decide)]
      rcases cut_out hf hx hr1 hlo1 hhi1 hr2 hlo2 hhi2 ho2 with ⟨e1, e2⟩ | ⟨e1, e2⟩
      · rw [e1, e2, (rank_first hf).1, (rank_first hf).2]; omega
      · rw [e1, e2, (rank_last hf).1, (rank_last hf).2]; omega
    | false =>
      rw [if_neg (by decide), if_neg (by decide), if_neg (by decide), if_neg (by decide)]
      refine ⟨?_, by rw [mostK_four, hM, hm]⟩
      unfold rceqOut at ho
      rw [hco, Bool.or_false] at ho
      have hoo := Bool.or_eq_false_iff.1 ho
      have hpos : 0 < s.fs.length := by
        rcases Nat.eq_zero_or_pos s.fs.length with h0 | h0
        · have : foreignB s.fs x = true := by rw [List.length_eq_zero_iff.1 h0]; unfold foreignB; simp
          rw [this] at hoo; exact absurd hoo.1 (by decide)
        · exact h0
      have hkx : (s.fs.getD 0 nulX).k = x.k := by
        have h := hoo.1
        unfold foreignB at h
        match hm : s.fs, hpos with
        | f :: r, _ =>
          rw [hm] at h
          simp at h
          exact h.2
      have hkind : ∀ (k : Nat) (y : Val), s.fs[k]? = some y → y.k = x.k := fun k y hy => by
        obtain ⟨hk, -⟩ := List.getElem?_eq_some_iff.1 hy
        have h1 := (hf.2.2.2 k hk).1
        have h2 := (hf.2.2.2 0 hpos).1
        rw [fenR, getD_of_some hy] at h1
        exact (h1.2.2.1.trans h2.2.2.1.symm).trans hkx
      have c : ∀ (k : Nat) (y : Val), s.fs[k]? = some y → lcX y x = cmpX y x := fun k y hy => lcX_cmpX (okAll hok hy) hx
      have hin := hoo.2
      unfold outsB at hin
      simp only [Bool.or_eq_false_iff, decide_eq_false_iff_not] at hin
      have hy0 := getD_some (fs := s.fs) (i := 0) hpos
      have hyL := getD_some (fs := s.fs) (i := s.fs.length - 1) (by omega)
      have hfirst : cmpX (s.fs.getD 0 nulX) x ≤ 0 := by have := cmpX_anti hkx; omega
      have hlast : 0 ≤ cmpX (s.fs.getD (s.fs.length - 1) nulX) x := by have := cmpX_anti (hkind _ _ hyL); omega
      rcases cut_both ha hok hx hr1 hlo1 hhi1 hr2 hlo2 hhi2 with ⟨e, hne⟩ | ⟨e, y, hy, h0⟩
      · rw [leastK_none _ fun j hj => hne j _ (getD_some hj)]
        have h0 : 0 < r1 := by
          apply Nat.pos_of_ne_zero
          intro h
          have := hhi1 0 _ (by omega) hy0
          rw [c 0 _ hy0] at this
          omega
        have h1 : r1 < s.fs.length := by
          apply Nat.lt_of_le_of_ne hr1
          intro h
          have := hlo2 (s.fs.length - 1) _ (by omega) hyL
          rw [c _ _ hyL] at this
          omega
        have := rank_mid hf h0 h1
        subst e
        omega
      · have hlt : r2 < s.fs.length := (List.getElem?_eq_some_iff.1 hy).1
        rw [leastK_at (p := r2) (by rw [getD_of_some hy]; exact h0) _ hlt fun j hj hpj => by
          have hj2 := getD_some hj
          have := hhi1 j _ (by omega) hj2
          rw [c j _ hj2] at this
          omega]
        subst e
        unfold bfLo bfHi
        rw [if_pos (Nat.succ_pos _), if_pos hlt, show 2 * (r2 + 1) - 1 = 2 * r2 + 1 by omega]
def cmP (o nulls n : Int) (fo : Bool) (el eh ll lh al ah : Int) : Int × Int :=
  if o = 20 then (nulls, nulls) else if o = 21 then (n, n) else if fo = true then (0, 0)
  else if o = 1 then (el, eh) else if o = 2 then (n - eh, n - el) else if o = 3 then (ll, lh) else if o = 4 then (al, ah)
  else if o = 5 then (n - ah, n - al) else if o = 6 then (n - lh, n - ll) else (0, 0)
theorem kindK_foreign {fs : List Val} {x : Val} : (x.k == 0 || x.k != kindK fs) = foreignB fs x := by
  unfold kindK foreignB
  cases fs with
  | nil => by_cases h : x.k = 0 <;> simp [h]
  | cons f r =>
    by_cases h : x.k = 0
    · simp [h]
    · have e : (x.k != f.k) = (f.k != x.k) := by rw [bne_comm]
      simp [e]
theorem less_null {s : Sk} {x : Val} {r2 : Nat} (hf : rvfP (s.rows - s.nulls) s.fs s.rk) (hx : okX x) (h0 : x.k = 0)
    (hr2 : r2 ≤ s.fs.length) (hlo2 : ∀ (k : Nat) (y : Val), k < r2 → s.fs[k]? = some y → ¬ 0 ≤ lcX y x) : r2 = 0 := by
  obtain ⟨ha, hok⟩ := asc_of hf
  apply Classical.byContradiction
  intro hn
  have hp : 0 < r2 := Nat.pos_of_ne_zero hn
  have hy := getD_some (fs := s.fs) (i := 0) (by omega)
  have h := hlo2 0 _ hp hy
  rw [lcX_cmpX (okAll hok hy) hx] at h
  have h1 := (hf.2.2.2 0 (by omega)).1
  unfold fenR at h1
  have hk : (s.fs.getD 0 nulX).k ≠ x.k := by rw [h0]; exact h1.2.1
  have hpk := valid_k h1.1
  rw [cmpX_kind hk] at h
  have : ¬ (s.fs.getD 0 nulX).k < x.k := by omega
  rw [if_neg this] at h
  exact h (by decide)
theorem less_same {s : Sk} {x : Val} {r2 : Nat} (hf : rvfP (s.rows - s.nulls) s.fs s.rk) (hx : okX x)
    (hr2 : r2 ≤ s.fs.length) (hlo2 : ∀ (k : Nat) (y : Val), k < r2 → s.fs[k]? = some y → ¬ 0 ≤ lcX y x)
    (h1 : lessMinF x false 0 s.fs s.rk = bfLo s r2) (h2 : lessMaxF (s.rows - s.nulls) x false s.fs s.rk = bfHi s r2) : lessLo s x = bfLo s r2 ∧ lessHi s x = bfHi s r2 := by
  unfold lessLo lessHi
  by_cases h0 : x.k = 0
  · rw [if_pos h0, if_pos h0, less_null hf hx h0 hr2 hlo2, (rank_first hf).1, (rank_first hf).2]
    exact ⟨rfl, rfl⟩
  · rw [if_neg h0, if_neg h0]
    exact ⟨h1, h2⟩
end Go.Proofs.YtoaklmceejeblaaGreat
