/-
  Shaken: what the claims of this seat need of this text. No condition.
-/
import Derived.Test.YthmipnokimlbdaaGreatEh4
namespace Go.Proofs.YthmipnokimlbdaaGreat
set_option maxRecDepth 8000
open Go.RowKit
set_option linter.unusedVariables false
set_option linter.unusedSimpArgs false
def sumL (l : List Str) : Nat := (l.map List.length).sum
theorem tl_all (l : List Str) : tl l l.length = sumL l := by unfold tl sumL; rw [List.take_length]
theorem words_sum : ∀ (l : List Str), (∀ s ∈ l, s.length ≤ 4096) → (wordsL l).length ≤ 10 * l.length + sumL l
  | [], _ => by simp [wordsL]
  | w :: r, hs => by
    have e : wordsL (w :: r) = wordL w ++ wordsL r := rfl
    have e2 : sumL (w :: r) = w.length + sumL r := by simp [sumL]
    have h1 := words_sum r fun s h => hs s (by simp [h])
    have h2 := hs w (by simp)
    have h3 := enc_len10 (n := w.length) (by omega)
    rw [e, e2, List.length_append, List.length_cons]
    unfold wordL
    rw [List.length_append]
    omega
theorem encK_sum (l : List Str) (hs : ∀ s ∈ l, s.length ≤ 4096) : ∀ k, k ≤ l.length → (encK l k).length ≤ 20 * k + tl l k
  | 0, _ => by simp [encK]
  | k + 1, hk => by
    have hk' : k < l.length := by omega
    have h1 := encK_sum l hs k (by omega)
    have h2 := tl_succ hk'
    have h3 := hs _ (List.getElem_mem hk')
    have e : l.getD k [] = l[k] := by rw [List.getD_eq_getElem?_getD, List.getElem?_eq_getElem hk']; rfl
    have h4 := itm_len (prev := prvAt l k) (s := l[k]) (M := l[k].length) (Nat.le_refl _) (by omega)
    rw [encK_succ, List.length_append, e]
    omega
theorem sumL_cons (w : Str) (r : List Str) : sumL (w :: r) = w.length + sumL r := by simp [sumL]
theorem ins_sum (s : Str) : ∀ l : List Str, sumL (insW l s) ≤ s.length + sumL l
  | [] => by simp [insW, sumL]
  | x :: r => by
    have h := ins_sum s r
    unfold insW
    by_cases h1 : x < s
    · rw [if_pos h1, sumL_cons, sumL_cons]; omega
    · rw [if_neg h1]
      by_cases h2 : x = s
      · rw [if_pos h2, sumL_cons]; omega
      · rw [if_neg h2, sumL_cons, sumL_cons]; omega
theorem fold_sum : ∀ (vs ws : List Str), sumL (vs.foldl insW ws) ≤ sumL ws + sumL vs
  | [], ws => by simp [sumL]
  | v :: r, ws => by
    have h1 := fold_sum r (insW ws v)
    have h2 := ins_sum v ws
    rw [List.foldl_cons, sumL_cons]
    omega
theorem wordsOf_sum (vs : List Str) : sumL (wordsOf vs) ≤ sumL vs := by
  have h := fold_sum vs []
  have e : sumL ([] : List Str) = 0 := rfl
  unfold wordsOf
  omega
theorem encT_small {vs : List Str} (h : vs.length ≤ 10000) (hs : ∀ s ∈ vs, s.length ≤ 4096) (hsum : sumL vs ≤ 10000) : (encT vs).length ≤ 600000 := by
  have h0 := wordsOf_length vs
  have h2 := words_sum (wordsOf vs) fun w hw => hs w (mem_wordsOf.1 hw)
  have h3 := enc_len10 (n := (wordsOf vs).length) (by omega)
  have h4 := runs_len (codesW (wordsOf vs) vs)
  have h5 : (codesW (wordsOf vs) vs).length = vs.length := by simp [codesW]
  have h6 := packL_length (codesW (wordsOf vs) vs) (widW (wordsOf vs).length)
  have h7 : szB (codesW (wordsOf vs) vs).length (widW (wordsOf vs).length) ≤ 90000 := by
    have h8 := widW_le (k := (wordsOf vs).length) (by omega)
    have h9 : (codesW (wordsOf vs) vs).length * widW (wordsOf vs).length ≤ 10000 * 64 := Nat.mul_le_mul (by omega) h8
    unfold szB
    omega
  have h10 : (codesB (wordsOf vs).length (codesW (wordsOf vs) vs)).length ≤ 300000 := by
    unfold codesB
    split <;> simp <;> omega
  have h11 := wordsOf_sum vs
  unfold encT bytesW
  rw [List.length_append, List.length_append]
  omega
theorem pay_small {k : Nat} {v : Vec} (h : Fine v) (hz : szV v ≤ 10000) : (formE k v).length ≤ 800000 := by
  have h1 := h.li
  have h2 := h.lt
  unfold szV at hz
  rw [tl_all] at hz
  have hw : (pay k v).length ≤ 700000 := by
    unfold pay
    split
    · unfold payT
      split
      · have := words_sum v.ts h.ss; omega
      · split
        · have := encT_small (vs := v.ts) (by omega) h.ss (by omega); omega
        · have h1 := encK_sum v.ts h.ss v.ts.length (Nat.le_refl _); rw [tl_all] at h1; unfold fcEnc; omega
    · unfold payI
      split
      · split
        · rw [plB_length]; unfold szB; omega
        · rw [plI_length]; omega
      · split
        · have h3 := encR_len_le (runsR v.is)
          have h4 := (runsR_len v.is (Nat.le_refl _)).2
          rw [List.take_length] at h4
          omega
        · split
          · have := encV_len v.is; omega
          · have := dlEnc_le v.is; omega
  unfold formE
  rw [List.length_cons]
  omega
end Go.Proofs.YthmipnokimlbdaaGreat
