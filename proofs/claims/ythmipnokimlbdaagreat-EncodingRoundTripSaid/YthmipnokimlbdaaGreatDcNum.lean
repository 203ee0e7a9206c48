/-
  Shaken: what the claims of this seat need of this text. No condition.
-/
import Derived.Test.YthmipnokimlbdaaGreatM5
import Derived.Test.YthmipnokimlbdaaGreatM10
import Derived.Test.YthmipnokimlbdaaGreatM1
import Derived.Sort.KeysCollected
import Derived.Sort.Walk0
namespace Go.Proofs.YthmipnokimlbdaaGreat
set_option maxRecDepth 8000
open Go.RowKit
set_option linter.unusedVariables false
theorem slt_irrefl (a : Str) : ¬ a < a := List.lt_irrefl a
theorem slt_trans {a b c : Str} (h : a < b) (k : b < c) : a < c := List.lt_trans h k
theorem slt_tri (a b : Str) : a < b ∨ a = b ∨ b < a := by
  by_cases h : a < b
  · exact .inl h
  · by_cases k : b < a
    · exact .inr (.inr k)
    · exact .inr (.inl (List.le_antisymm (List.not_lt.1 k) (List.not_lt.1 h)))
theorem slt_asymm {a b : Str} (h : a < b) : ¬ b < a := fun k => slt_irrefl a (slt_trans h k)
theorem slt_ne {a b : Str} (h : a < b) : a ≠ b := fun e => slt_irrefl b (e ▸ h)
theorem sle_iff {a b : Str} : a ≤ b ↔ a < b ∨ a = b := by
  constructor
  · intro h
    rcases slt_tri a b with k | k | k
    · exact .inl k
    · exact .inr k
    · exact absurd k (List.not_lt.2 h)
  · rintro (h | rfl)
    · exact List.not_lt.1 (slt_asymm h)
    · exact List.not_lt.1 (slt_irrefl a)
theorem lessS (a b : Str) : Op.bytesLess (strOf a).toList (strOf b).toList = decide (a < b) := by rw [bytesLess_eq, strOf_toList, strOf_toList]
theorem leS (a b : Str) : (Op.bytesLess (strOf a).toList (strOf b).toList || (strOf a).toList == (strOf b).toList) = !decide (b < a) := by
  rw [lessS, eqS]
  rcases slt_tri a b with h | rfl | h
  · simp [h, slt_asymm h]
  · simp [slt_irrefl a]
  · simp [h, slt_asymm h, (slt_ne h).symm]
def insW : List Str → Str → List Str
  | [], s => [s]
  | w :: r, s => if w < s then w :: insW r s else if w = s then w :: r else s :: w :: r
def wordsOf (vs : List Str) : List Str := vs.foldl insW []
abbrev RisingL (ws : List Str) : Prop := ws.Pairwise (· < ·)
theorem mem_insW {x s : Str} : ∀ {ws : List Str}, x ∈ insW ws s ↔ x ∈ ws ∨ x = s
  | [] => by simp [insW]
  | w :: r => by
    unfold insW
    by_cases h : w < s
    · rw [if_pos h, List.mem_cons, mem_insW, List.mem_cons, or_assoc]
    · rw [if_neg h]
      by_cases h2 : w = s
      · rw [if_pos h2, List.mem_cons, h2]; constructor
        · intro hx; exact .inl hx
        · rintro (hx | hx)
          · exact hx
          · exact .inl hx
      · rw [if_neg h2]
        simp only [List.mem_cons]
        constructor
        · rintro (h | h | h)
          · exact .inr h
          · exact .inl (.inl h)
          · exact .inl (.inr h)
        · rintro ((h | h) | h)
          · exact .inr (.inl h)
          · exact .inr (.inr h)
          · exact .inl h
theorem insW_rising {s : Str} : ∀ {ws : List Str}, RisingL ws → RisingL (insW ws s)
  | [], _ => by simp [insW]
  | w :: r, h => by
    obtain ⟨h1, h2⟩ := List.pairwise_cons.1 h
    unfold insW
    by_cases k : w < s
    · rw [if_pos k]
      refine List.pairwise_cons.2 ⟨fun x hx => ?_, insW_rising h2⟩
      rcases mem_insW.1 hx with hx | rfl
      · exact h1 x hx
      · exact k
    · rw [if_neg k]
      by_cases k2 : w = s
      · rw [if_pos k2]; exact h
      · rw [if_neg k2]
        have hsw : s < w := by
          rcases slt_tri w s with e | e | e
          · exact absurd e k
          · exact absurd e k2
          · exact e
        refine List.pairwise_cons.2 ⟨fun x hx => ?_, h⟩
        rcases List.mem_cons.1 hx with rfl | hx
        · exact hsw
        · exact slt_trans hsw (h1 x hx)
theorem fold_rising : ∀ (vs ws : List Str), RisingL ws → RisingL (vs.foldl insW ws)
  | [], _, h => h
  | v :: vs, ws, h => fold_rising vs _ (insW_rising h)
theorem fold_mem {x : Str} : ∀ (vs ws : List Str), x ∈ vs.foldl insW ws ↔ x ∈ ws ∨ x ∈ vs
  | [], ws => by simp
  | v :: vs, ws => by rw [List.foldl_cons, fold_mem vs, mem_insW, List.mem_cons, or_assoc]
theorem wordsOf_rising (vs : List Str) : RisingL (wordsOf vs) := fold_rising vs [] List.Pairwise.nil
theorem mem_wordsOf {x : Str} {vs : List Str} : x ∈ wordsOf vs ↔ x ∈ vs := by unfold wordsOf; rw [fold_mem]; simp
theorem insW_length : ∀ (ws : List Str) (s : Str), (insW ws s).length ≤ ws.length + 1
  | [], _ => by simp [insW]
  | w :: r, s => by
    have := insW_length r s
    unfold insW
    split
    · simp; omega
    · split <;> simp
theorem fold_length : ∀ (vs ws : List Str), (vs.foldl insW ws).length ≤ ws.length + vs.length
  | [], ws => by simp
  | v :: vs, ws => by
    have h1 := fold_length vs (insW ws v)
    have h2 := insW_length ws v
    rw [List.foldl_cons, List.length_cons]; omega
theorem wordsOf_length (vs : List Str) : (wordsOf vs).length ≤ vs.length := by have := fold_length vs []; unfold wordsOf; simpa using this
theorem rising_nodup {ws : List Str} (h : RisingL ws) : ws.Nodup := h.imp fun {a b} hab => slt_ne hab
theorem rising_get {ws : List Str} (h : RisingL ws) {i j : Nat} (hi : i < ws.length) (hj : j < ws.length) (hij : i < j) : ws[i] < ws[j] := List.pairwise_iff_getElem.1 h i j hi hj hij
theorem rising_ext : ∀ {a b : List Str}, RisingL a → RisingL b → (∀ x, x ∈ a ↔ x ∈ b) → a = b
  | [], [], _, _, _ => rfl
  | [], y :: b, _, _, h => by have := (h y).2 (by simp); cases this
  | x :: a, [], _, _, h => by have := (h x).1 (by simp); cases this
  | x :: a, y :: b, ha, hb, h => by
    obtain ⟨a1, a2⟩ := List.pairwise_cons.1 ha
    obtain ⟨b1, b2⟩ := List.pairwise_cons.1 hb
    have hxy : x = y := by
      rcases List.mem_cons.1 ((h x).1 (by simp)) with e | e
      · exact e
      · rcases List.mem_cons.1 ((h y).2 (by simp)) with e2 | e2
        · exact e2.symm
        · exact absurd (b1 x e) (slt_asymm (a1 y e2))
    subst hxy
    rw [rising_ext a2 b2 fun z => ?_]
    constructor
    · intro hz
      rcases List.mem_cons.1 ((h z).1 (by simp [hz])) with rfl | e
      · exact absurd (a1 z hz) (slt_irrefl z)
      · exact e
    · intro hz
      rcases List.mem_cons.1 ((h z).2 (by simp [hz])) with rfl | e
      · exact absurd (b1 z hz) (slt_irrefl z)
      · exact e
theorem sorted_words {ss vs : List Str} (hnd : ss.Nodup) (hm : ∀ x, x ∈ ss ↔ x ∈ vs) : ss.mergeSort (fun x y => decide (x ≤ y)) = wordsOf vs := by
  have tr : ∀ a b c : Str, decide (a ≤ b) = true → decide (b ≤ c) = true → decide (a ≤ c) = true := fun a b c h1 h2 => by simp only [decide_eq_true_eq] at *; exact List.le_trans h1 h2
  have to : ∀ a b : Str, (decide (a ≤ b) || decide (b ≤ a)) = true := fun a b => by simp only [Bool.or_eq_true, decide_eq_true_eq]; exact List.le_total a b
  have hp := List.mergeSort_perm ss (fun x y => decide (x ≤ y))
  refine rising_ext ?_ (wordsOf_rising vs) fun x => by rw [hp.mem_iff, mem_wordsOf, hm]
  have hs := List.pairwise_mergeSort tr to ss
  have hn : (ss.mergeSort (fun x y => decide (x ≤ y))).Nodup := hp.nodup_iff.2 hnd
  have := hs.and hn
  refine this.imp fun {a b} h => ?_
  simp only [decide_eq_true_eq] at h
  rcases sle_iff.1 h.1 with e | e
  · exact e
  · exact absurd e h.2
def codeW (ws : List Str) (s : Str) : Nat := ws.idxOf s
def codesW (ws vs : List Str) : List Nat := vs.map (codeW ws)
theorem codeW_lt {ws : List Str} {s : Str} (h : s ∈ ws) : codeW ws s < ws.length := List.idxOf_lt_length_iff.2 h
theorem codeW_get {ws : List Str} {s : Str} (h : s ∈ ws) : ws[codeW ws s]'(codeW_lt h) = s := List.getElem_idxOf (codeW_lt h)
end Go.Proofs.YthmipnokimlbdaaGreat
