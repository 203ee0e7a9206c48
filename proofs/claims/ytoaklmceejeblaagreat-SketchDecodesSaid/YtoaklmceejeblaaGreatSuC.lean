/-
  Shaken: what the claims of this seat need of this text. No condition.
-/
import Derived.Test.YtoaklmceejeblaaGreatM14
import Derived.Lib.SlicesCompact
namespace Go.Proofs.YtoaklmceejeblaaGreat
set_option maxRecDepth 8000
open Go.RowKit
set_option linter.unusedVariables false
set_option linter.unusedSimpArgs false
theorem compact_upto {l : List Nat} (h : l.Pairwise (· ≤ ·)) : ∀ m, m ≤ l.length → ∃ u : List Nat, Lib.compactUpTo (l.map Int.ofNat).toArray m = u.map Int.ofNat ∧ u.Pairwise (· < ·) ∧ ∀ x, x ∈ u ↔ x ∈ l.take m
  | 0, _ => ⟨[], rfl, List.Pairwise.nil, fun x => by simp⟩
  | m + 1, hm => by
    obtain ⟨u, e, hp, hmem⟩ := compact_upto h m (by omega)
    rw [Lib.compactUpTo_succ, e]
    have hml : m < l.length := hm
    have g : ∀ j (hj : j < l.length), (l.map Int.ofNat).toArray[j]! = Int.ofNat l[j] := fun j hj => by rw [getElem!_pos _ j (by simpa using hj)]; simp
    have htk : l.take (m + 1) = l.take m ++ [l[m]] := by rw [List.take_add_one, List.getElem?_eq_getElem hml]; rfl
    by_cases hk : m = 0 ∨ l[m] ≠ l[m - 1]
    · have hkk : Lib.keeps (l.map Int.ofNat).toArray m = true := by
        unfold Lib.keeps
        refine decide_eq_true ?_
        rcases hk with h0 | h0
        · exact .inl h0
        · refine .inr ?_
          rw [g m hml, g (m - 1) (by omega)]
          intro e
          exact h0 (Int.ofNat.inj e)
      rw [if_pos hkk, g m hml]
      refine ⟨u ++ [l[m]], by simp, ?_, fun x => by rw [htk, List.mem_append, List.mem_append, hmem]⟩
      rw [List.pairwise_append]
      refine ⟨hp, List.pairwise_singleton _ _, fun a ha b hb => ?_⟩
      rw [List.mem_singleton.1 hb]
      have ha2 := (hmem a).1 ha
      obtain ⟨j, hj⟩ := List.getElem?_of_mem ha2
      rw [List.getElem?_take] at hj
      split at hj
      · rename_i hjm
        rw [List.getElem?_eq_getElem (by omega)] at hj
        injection hj with hj
        have hpw := List.pairwise_iff_getElem.1 h
        rcases hk with h0 | h0
        · omega
        · have h1 : l[m - 1] ≤ l[m] := by
            have := hpw (m - 1) m (by omega) hml (by omega)
            exact this
          have h2 : l[j] ≤ l[m - 1] := by
            rcases Nat.lt_or_ge j (m - 1) with h3 | h3
            · exact hpw j (m - 1) (by omega) (by omega) h3
            · have : j = m - 1 := by omega
              subst this
              exact Nat.le_refl _
          omega
      · cases hj
    · have hm0 : m ≠ 0 := fun e => hk (.inl e)
      have heq : l[m] = l[m - 1] := Classical.byContradiction fun e => hk (.inr e)
      have hkk : Lib.keeps (l.map Int.ofNat).toArray m = false := Lib.keeps_neg (by omega) (by rw [g m hml, g (m - 1) (by omega), heq])
      rw [hkk, if_neg (by simp), List.append_nil]
      refine ⟨u, rfl, hp, fun x => ?_⟩
      rw [htk, List.mem_append, hmem]
      constructor
      · exact .inl
      · rintro (h1 | h1)
        · exact h1
        · rw [List.mem_singleton.1 h1, heq]
          refine List.mem_of_getElem? (i := m - 1) ?_
          rw [List.getElem?_take, if_pos (by omega), List.getElem?_eq_getElem (by omega)]
theorem compact_sorted {l l' : List Nat} (hp : l'.Perm l) (h : l'.Pairwise (· ≤ ·)) : Lib.compactUpTo (l'.map Int.ofNat).toArray (l'.map Int.ofNat).toArray.size = (insAll [] l).map Int.ofNat := by
  have hs : (l'.map Int.ofNat).toArray.size = l'.length := by simp
  rw [hs]
  obtain ⟨u, e, h1, h2⟩ := compact_upto h l'.length (Nat.le_refl _)
  rw [e]
  congr 1
  refine inc_ext h1 (insAll_inc List.Pairwise.nil) fun x => ?_
  rw [h2, List.take_length, insAll_mem, hp.mem_iff]
  simp
end Go.Proofs.YtoaklmceejeblaaGreat
