/-
  Pure: the words of a list of strings (sorted, each once), the code of a string, and the range of a comparison.
-/
import Derived.Test.YtgmjoghgmcjebaaM1
import Derived.Sort.KeysCollected
import Derived.Sort.Walk0
namespace Go.Proofs.Ytgmjoghgmcjebaa
open Go.RowKit
set_option linter.unusedVariables false

abbrev Str := List UInt8
theorem slt_irrefl (a : Str) : ¬ a < a := List.lt_irrefl a
theorem slt_trans {a b c : Str} (h : a < b) (k : b < c) : a < c := List.lt_trans h k
theorem slt_tri (a b : Str) : a < b ∨ a = b ∨ b < a := by
  by_cases h : a < b
  · exact .inl h
  · by_cases k : b < a
    · exact .inr (.inr k)
    · exact .inr (.inl (List.le_antisymm (List.not_lt.1 k) (List.not_lt.1 h)))
theorem slt_asymm {a b : Str} (h : a < b) : ¬ b < a := fun k => slt_irrefl a (slt_trans h k)
theorem slt_ne {a b : Str} (h : a < b) : a ≠ b := fun e => slt_irrefl b (e ▸ h)
theorem sle_iff {a b : Str} : a ≤ b ↔ a < b ∨ a = b := by
  constructor
  · intro h
    rcases slt_tri a b with k | k | k
    · exact .inl k
    · exact .inr k
    · exact absurd k (List.not_lt.2 h)
  · rintro (h | rfl)
    · exact List.not_lt.1 (slt_asymm h)
    · exact List.not_lt.1 (slt_irrefl a)
theorem strOf_toList (a : Str) : (strOf a).toList = a := by rw [Lib.toList_data]; rfl
theorem strOf_size' (a : Str) : (strOf a).size = a.length := by simp [strOf, ByteArray.size]
theorem lessS (a b : Str) : Op.bytesLess (strOf a).toList (strOf b).toList = decide (a < b) := by rw [bytesLess_eq, strOf_toList, strOf_toList]
theorem eqS (a b : Str) : ((strOf a).toList == (strOf b).toList) = decide (a = b) := by
  rw [strOf_toList, strOf_toList]
  by_cases h : a = b
  · simp [h]
  · simp [h]
theorem leS (a b : Str) : (Op.bytesLess (strOf a).toList (strOf b).toList || (strOf a).toList == (strOf b).toList) = !decide (b < a) := by
  rw [lessS, eqS]
  rcases slt_tri a b with h | rfl | h
  · simp [h, slt_asymm h]
  · simp [slt_irrefl a]
  · simp [h, slt_asymm h, (slt_ne h).symm]

def insW : List Str → Str → List Str
  | [], s => [s]
  | w :: r, s => if w < s then w :: insW r s else if w = s then w :: r else s :: w :: r
def wordsOf (vs : List Str) : List Str := vs.foldl insW []
abbrev RisingL (ws : List Str) : Prop := ws.Pairwise (· < ·)
theorem mem_insW {x s : Str} : ∀ {ws : List Str}, x ∈ insW ws s ↔ x ∈ ws ∨ x = s
  | [] => by simp [insW]
  | w :: r => by
    unfold insW
    by_cases h : w < s
    · rw [if_pos h, List.mem_cons, mem_insW, List.mem_cons, or_assoc]
    · rw [if_neg h]
      by_cases h2 : w = s
      · rw [if_pos h2, List.mem_cons, h2]; constructor
        · intro hx; exact .inl hx
        · rintro (hx | hx)
          · exact hx
          · exact .inl hx
      · rw [if_neg h2]
        simp only [List.mem_cons]
        constructor
        · rintro (h | h | h)
          · exact .inr h
          · exact .inl (.inl h)
          · exact .inl (.inr h)
        · rintro ((h | h) | h)
          · exact .inr (.inl h)
          · exact .inr (.inr h)
          · exact .inl h
theorem insW_rising {s : Str} : ∀ {ws : List Str}, RisingL ws → RisingL (insW ws s)
  | [], _ => by simp [insW]
  | w :: r, h => by
    obtain ⟨h1, h2⟩ := List.pairwise_cons.1 h
    unfold insW
    by_cases k : w < s
    · rw [if_pos k]
      refine List.pairwise_cons.2 ⟨fun x hx => ?_, insW_rising h2⟩
      rcases mem_insW.1 hx with hx | rfl
      · exact h1 x hx
      · exact k
    · rw [if_neg k]
      by_cases k2 : w = s
      · rw [if_pos k2]; exact h
      · rw [if_neg k2]
        have hsw : s < w := by
          rcases slt_tri w s with e | e | e
          · exact absurd e k
          · exact absurd e k2
          · exact e
        refine List.pairwise_cons.2 ⟨fun x hx => ?_, h⟩
        rcases List.mem_cons.1 hx with rfl | hx
        · exact hsw
        · exact slt_trans hsw (h1 x hx)
theorem insW_same {s : Str} : ∀ {ws : List Str}, RisingL ws → s ∈ ws → insW ws s = ws
  | w :: r, h, hm => by
    obtain ⟨h1, h2⟩ := List.pairwise_cons.1 h
    unfold insW
    by_cases k : w < s
    · rw [if_pos k]
      rcases List.mem_cons.1 hm with rfl | hm
      · exact absurd k (slt_irrefl _)
      · rw [insW_same h2 hm]
    · rw [if_neg k]
      rcases List.mem_cons.1 hm with rfl | hm
      · rw [if_pos rfl]
      · exact absurd (h1 s hm) k
theorem insW_split {s : Str} : ∀ {ws : List Str} (k : Nat), k ≤ ws.length → (∀ j, (h : j < ws.length) → j < k → ws[j] < s) → (∀ j, (h : j < ws.length) → k ≤ j → s < ws[j]) → insW ws s = ws.take k ++ s :: ws.drop k
  | [], k, _, _, _ => by simp [insW]
  | w :: r, 0, _, _, h2 => by
    have h := h2 0 (by simp) (by omega)
    simp only [List.getElem_cons_zero] at h
    unfold insW
    rw [if_neg (slt_asymm h), if_neg (slt_ne h).symm]; rfl
  | w :: r, k + 1, hk, h1, h2 => by
    have h := h1 0 (by simp) (by omega)
    simp only [List.getElem_cons_zero] at h
    unfold insW
    rw [if_pos h, insW_split (ws := r) k (by simp at hk; omega) (fun j hj hjk => by have := h1 (j + 1) (by simp; omega) (by omega); simpa using this) (fun j hj hjk => by have := h2 (j + 1) (by simp; omega) (by omega); simpa using this)]
    rfl
theorem fold_rising : ∀ (vs ws : List Str), RisingL ws → RisingL (vs.foldl insW ws)
  | [], _, h => h
  | v :: vs, ws, h => fold_rising vs _ (insW_rising h)
theorem fold_mem {x : Str} : ∀ (vs ws : List Str), x ∈ vs.foldl insW ws ↔ x ∈ ws ∨ x ∈ vs
  | [], ws => by simp
  | v :: vs, ws => by rw [List.foldl_cons, fold_mem vs, mem_insW, List.mem_cons, or_assoc]
theorem wordsOf_rising (vs : List Str) : RisingL (wordsOf vs) := fold_rising vs [] List.Pairwise.nil
theorem mem_wordsOf {x : Str} {vs : List Str} : x ∈ wordsOf vs ↔ x ∈ vs := by unfold wordsOf; rw [fold_mem]; simp
theorem insW_length : ∀ (ws : List Str) (s : Str), (insW ws s).length ≤ ws.length + 1
  | [], _ => by simp [insW]
  | w :: r, s => by
    have := insW_length r s
    unfold insW
    split
    · simp; omega
    · split <;> simp
theorem fold_length : ∀ (vs ws : List Str), (vs.foldl insW ws).length ≤ ws.length + vs.length
  | [], ws => by simp
  | v :: vs, ws => by
    have h1 := fold_length vs (insW ws v)
    have h2 := insW_length ws v
    rw [List.foldl_cons, List.length_cons]; omega
theorem wordsOf_length (vs : List Str) : (wordsOf vs).length ≤ vs.length := by have := fold_length vs []; unfold wordsOf; simpa using this
theorem wordsOf_snoc (vs : List Str) (s : Str) : wordsOf (vs ++ [s]) = insW (wordsOf vs) s := by unfold wordsOf; rw [List.foldl_append]; rfl
theorem wordsOf_take {vs : List Str} {k : Nat} (h : k < vs.length) : wordsOf (vs.take (k + 1)) = insW (wordsOf (vs.take k)) vs[k] := by
  rw [List.take_succ_eq_append_getElem h, wordsOf_snoc]
theorem rising_nodup {ws : List Str} (h : RisingL ws) : ws.Nodup := h.imp fun {a b} hab => slt_ne hab
theorem rising_get {ws : List Str} (h : RisingL ws) {i j : Nat} (hi : i < ws.length) (hj : j < ws.length) (hij : i < j) : ws[i] < ws[j] := List.pairwise_iff_getElem.1 h i j hi hj hij
theorem rising_ext : ∀ {a b : List Str}, RisingL a → RisingL b → (∀ x, x ∈ a ↔ x ∈ b) → a = b
  | [], [], _, _, _ => rfl
  | [], y :: b, _, _, h => by have := (h y).2 (by simp); cases this
  | x :: a, [], _, _, h => by have := (h x).1 (by simp); cases this
  | x :: a, y :: b, ha, hb, h => by
    obtain ⟨a1, a2⟩ := List.pairwise_cons.1 ha
    obtain ⟨b1, b2⟩ := List.pairwise_cons.1 hb
    have hxy : x = y := by
      rcases List.mem_cons.1 ((h x).1 (by simp)) with e | e
      · exact e
      · rcases List.mem_cons.1 ((h y).2 (by simp)) with e2 | e2
        · exact e2.symm
        · exact absurd (b1 x e) (slt_asymm (a1 y e2))
    subst hxy
    rw [rising_ext a2 b2 fun z => ?_]
    constructor
    · intro hz
      rcases List.mem_cons.1 ((h z).1 (by simp [hz])) with rfl | e
      · exact absurd (a1 z hz) (slt_irrefl z)
      · exact e
    · intro hz
      rcases List.mem_cons.1 ((h z).2 (by simp [hz])) with rfl | e
      · exact absurd (b1 z hz) (slt_irrefl z)
      · exact e
theorem sorted_words {ss vs : List Str} (hnd : ss.Nodup) (hm : ∀ x, x ∈ ss ↔ x ∈ vs) : ss.mergeSort (fun x y => decide (x ≤ y)) = wordsOf vs := by
  have tr : ∀ a b c : Str, decide (a ≤ b) = true → decide (b ≤ c) = true → decide (a ≤ c) = true := fun a b c h1 h2 => by simp only [decide_eq_true_eq] at *; exact List.le_trans h1 h2
  have to : ∀ a b : Str, (decide (a ≤ b) || decide (b ≤ a)) = true := fun a b => by simp only [Bool.or_eq_true, decide_eq_true_eq]; exact List.le_total a b
  have hp := List.mergeSort_perm ss (fun x y => decide (x ≤ y))
  refine rising_ext ?_ (wordsOf_rising vs) fun x => by rw [hp.mem_iff, mem_wordsOf, hm]
  have hs := List.pairwise_mergeSort tr to ss
  have hn : (ss.mergeSort (fun x y => decide (x ≤ y))).Nodup := hp.nodup_iff.2 hnd
  have := hs.and hn
  refine this.imp fun {a b} h => ?_
  simp only [decide_eq_true_eq] at h
  rcases sle_iff.1 h.1 with e | e
  · exact e
  · exact absurd e h.2

/-- the code of a string -/
def codeW (ws : List Str) (s : Str) : Nat := ws.idxOf s
def codesW (ws vs : List Str) : List Nat := vs.map (codeW ws)
theorem codeW_lt {ws : List Str} {s : Str} (h : s ∈ ws) : codeW ws s < ws.length := List.idxOf_lt_length_iff.2 h
theorem codeW_get {ws : List Str} {s : Str} (h : s ∈ ws) : ws[codeW ws s]'(codeW_lt h) = s := List.getElem_idxOf (codeW_lt h)
theorem nodup_get {α : Type} {l : List α} (h : l.Nodup) {i j : Nat} (hi : i < l.length) (hj : j < l.length) (e : l[i] = l[j]) : i = j := by
  rcases Nat.lt_trichotomy i j with k | k | k
  · exact absurd e (List.pairwise_iff_getElem.1 h i j hi hj k)
  · exact k
  · exact absurd e.symm (List.pairwise_iff_getElem.1 h j i hj hi k)
theorem codeW_at {ws : List Str} (h : RisingL ws) {i : Nat} (hi : i < ws.length) : codeW ws ws[i] = i :=
  nodup_get (rising_nodup h) (codeW_lt (List.getElem_mem hi)) hi (codeW_get (List.getElem_mem hi))
def findV (ws : List Str) (s : Str) : Nat × Bool := if s ∈ ws then (codeW ws s, true) else (0, false)
theorem findV_in {ws : List Str} {s : Str} (h : s ∈ ws) : findV ws s = (codeW ws s, true) := if_pos h
theorem findV_out {ws : List Str} {s : Str} (h : ¬ s ∈ ws) : findV ws s = (0, false) := if_neg h
/-- how many words are less than s; how many are not greater -/
def loW (ws : List Str) (s : Str) : Nat := ws.countP fun w => decide (w < s)
def hiW (ws : List Str) (s : Str) : Nat := ws.countP fun w => !decide (s < w)
theorem loW_le (ws : List Str) (s : Str) : loW ws s ≤ ws.length := List.countP_le_length
theorem hiW_le (ws : List Str) (s : Str) : hiW ws s ≤ ws.length := List.countP_le_length
theorem count_head (p : Str → Bool) : ∀ {ws : List Str}, (∀ i j, (hi : i < ws.length) → (hj : j < ws.length) → i < j → p ws[j] = true → p ws[i] = true) → ∀ i, (hi : i < ws.length) → (p ws[i] = true ↔ i < ws.countP p)
  | [], _, i, hi => by simp at hi
  | w :: r, h, i, hi => by
    have ih := count_head p (ws := r) fun i j hi hj hij hp => by
      have := h (i + 1) (j + 1) (by simp; omega) (by simp; omega) (by omega) (by simpa using hp)
      simpa using this
    by_cases hw : p w = true
    · rw [List.countP_cons_of_pos hw]
      match i, hi with
      | 0, _ => simp [hw]
      | i + 1, hi =>
        have := ih i (by simp at hi; omega)
        simp only [List.getElem_cons_succ, this]; omega
    · have h0 : ∀ x ∈ r, ¬ p x = true := by
        intro x hx hpx
        obtain ⟨j, hj, e⟩ := List.getElem_of_mem hx
        exact hw (by have := h 0 (j + 1) (by simp) (by simp; omega) (by omega) (by simpa [e] using hpx); simpa using this)
      rw [List.countP_cons_of_neg hw, List.countP_eq_zero.2 h0]
      match i, hi with
      | 0, _ => simp [hw]
      | i + 1, hi => simp only [List.getElem_cons_succ]; exact ⟨fun k => absurd k (h0 _ (List.getElem_mem _)), fun k => by omega⟩
theorem loW_iff {ws : List Str} (h : RisingL ws) (s : Str) {i : Nat} (hi : i < ws.length) : ws[i] < s ↔ i < loW ws s := by
  have := count_head (fun w => decide (w < s)) (ws := ws) (fun i j hi hj hij hp => by
    simp only [decide_eq_true_eq] at hp ⊢
    exact slt_trans (rising_get h hi hj hij) hp) i hi
  simpa [loW] using this
theorem hiW_iff {ws : List Str} (h : RisingL ws) (s : Str) {i : Nat} (hi : i < ws.length) : ¬ s < ws[i] ↔ i < hiW ws s := by
  have := count_head (fun w => !decide (s < w)) (ws := ws) (fun i j hi hj hij hp => by
    simp only [Bool.not_eq_true', decide_eq_false_iff_not] at hp ⊢
    exact fun k => hp (slt_trans k (rising_get h hi hj hij))) i hi
  simpa [hiW] using this
theorem loW_in {ws : List Str} (h : RisingL ws) {s : Str} (hs : s ∈ ws) : loW ws s = codeW ws s ∧ hiW ws s = loW ws s + 1 := by
  obtain ⟨i, hi, rfl⟩ := List.getElem_of_mem hs
  have e : loW ws ws[i] = i := by
    have h1 : ¬ i < loW ws ws[i] := fun k => slt_irrefl _ ((loW_iff h ws[i] hi).2 k)
    rcases Nat.lt_or_ge (loW ws ws[i]) i with k | k
    · have k2 : loW ws ws[i] < ws.length := by omega
      exact absurd ((loW_iff h ws[i] k2).1 (rising_get h k2 hi k)) (Nat.lt_irrefl _)
    · omega
  refine ⟨by rw [e, codeW_at h hi], ?_⟩
  have h1 : i < hiW ws ws[i] := (hiW_iff h ws[i] hi).1 (slt_irrefl _)
  have h2 : ¬ i + 1 < hiW ws ws[i] := fun k => by
    have k2 : i + 1 < ws.length := Nat.lt_of_lt_of_le k (hiW_le _ _)
    exact (hiW_iff h ws[i] k2).2 k (rising_get h hi k2 (by omega))
  omega
theorem hiW_out {ws : List Str} {s : Str} (hs : ¬ s ∈ ws) : hiW ws s = loW ws s := by
  unfold hiW loW
  refine List.countP_congr fun x hx => ?_
  have hne : x ≠ s := fun e => hs (e ▸ hx)
  rcases slt_tri x s with k | k | k
  · simp [k, slt_asymm k]
  · exact absurd k hne
  · simp [k, slt_asymm k]
theorem loW_found {ws : List Str} (h : RisingL ws) (s : Str) : (∃ hl : loW ws s < ws.length, ws[loW ws s] = s) ↔ s ∈ ws := by
  constructor
  · rintro ⟨hl, e⟩
    exact e ▸ List.getElem_mem hl
  · intro hs
    obtain ⟨e, _⟩ := loW_in h hs
    have hl : loW ws s < ws.length := by rw [e]; exact codeW_lt hs
    refine ⟨hl, ?_⟩
    have := codeW_get hs
    simp only [← e] at this
    exact this
def rangeV (ws : List Str) (op : Int) (s : Str) : Nat × Nat :=
  if op = 1 then (loW ws s, hiW ws s) else if op = 3 then (0, loW ws s) else if op = 4 then (0, hiW ws s) else if op = 5 then (hiW ws s, ws.length) else if op = 6 then (loW ws s, ws.length) else (0, 0)
theorem count_take {p : Str → Bool} {ws : List Str} {k : Nat} (h : k < ws.length) : (ws.take (k + 1)).countP p = (ws.take k).countP p + if p ws[k] then 1 else 0 := by
  rw [List.take_succ_eq_append_getElem h, List.countP_append, List.countP_singleton]

end Go.Proofs.Ytgmjoghgmcjebaa
