/-
  A range over a string: one step, at any bytes: what the rune tells of the byte, and that a longer character holds no byte under 128. No program, no condition.
-/
import Derived.Test.YtaiphocnfkkigaaDoorStr
import Derived.Test.YtaiphocnfkkigaaDoorLitNum
import Derived.Test.YtaiphocnfkkigaaDoorLitUnq
import Derived.Test.YtaiphocnfkkigaaDoorLqNum
import Derived.Laws.RangeAny
import Derived.LoopTactic
namespace Go.Proofs.YtaiphocnfkkigaaDoor
open Go.RowKit
set_option linter.unusedVariables false
set_option linter.unusedSimpArgs false

theorem get_bang {l : List UInt8} {j : Nat} {b : UInt8} (hb : l[j]? = some b) : (strOf l).get! j = b := by
  have hlt : j < l.length := by
    rcases Nat.lt_or_ge j l.length with h | h
    · exact h
    · rw [List.getElem?_eq_none h] at hb; cases hb
  have h1 : j < (strOf l).size := hlt
  have h2 : (strOf l).get! j = (strOf l)[j]'h1 := by
    simp [ByteArray.get!, getElem!_pos, h1]
    rfl
  rw [h2, strOf_get hb h1]
theorem at_of_lt {l : List UInt8} {j : Nat} (h : j < l.length) : ∃ c, l[j]? = some c := ⟨_, List.getElem?_eq_getElem h⟩
theorem decode_tail {l : List UInt8} {pos : Nat} {b : UInt8} (hb : l[pos]? = some b) (h8 : 128 ≤ b.toNat) : ∀ j, j < (Utf8.decode (strOf l) pos).2 → ∃ c, l[pos + j]? = some c ∧ 128 ≤ c.toNat := by
  have hcont : ∀ k, (pos + k < (strOf l).size ∧ ((strOf l).get! (pos + k)).toNat / 64 = 2) → ∃ c, l[pos + k]? = some c ∧ 128 ≤ c.toNat := fun k ⟨h1, h2⟩ => by
    obtain ⟨c, hc⟩ := at_of_lt (l := l) (j := pos + k) h1
    refine ⟨c, hc, ?_⟩
    rw [get_bang hc] at h2
    omega
  have h0 : ∃ c, l[pos + 0]? = some c ∧ 128 ≤ c.toNat := ⟨b, hb, h8⟩
  have hget : ((strOf l).get! (pos + 0)).toNat = b.toNat := by rw [get_bang (show l[pos + 0]? = some b from hb)]
  have hn : ¬ b.toNat < 128 := by omega
  intro j
  simp only [Utf8.decode, hget, hn, if_false]
  split
  · rename_i h
    simp only [Bool.and_eq_true, decide_eq_true_eq, beq_iff_eq] at h
    split
    · intro hj
      obtain rfl | rfl : j = 0 ∨ j = 1 := by simp at hj; omega
      · exact h0
      · exact hcont 1 h.2
    · intro hj
      obtain rfl : j = 0 := by simp at hj; omega
      exact h0
  · split
    · rename_i h
      simp only [Bool.and_eq_true, decide_eq_true_eq, beq_iff_eq] at h
      split
      · intro hj
        obtain rfl | rfl | rfl : j = 0 ∨ j = 1 ∨ j = 2 := by simp at hj; omega
        · exact h0
        · exact hcont 1 h.1.2
        · exact hcont 2 h.2
      · intro hj
        obtain rfl : j = 0 := by simp at hj; omega
        exact h0
    · split
      · rename_i h
        simp only [Bool.and_eq_true, decide_eq_true_eq, beq_iff_eq] at h
        split
        · intro hj
          obtain rfl | rfl | rfl | rfl : j = 0 ∨ j = 1 ∨ j = 2 ∨ j = 3 := by simp at hj; omega
          · exact h0
          · exact hcont 1 h.1.1.2
          · exact hcont 2 h.1.2
          · exact hcont 3 h.2
        · intro hj
          obtain rfl : j = 0 := by simp at hj; omega
          exact h0
      · intro hj
        obtain rfl : j = 0 := by simp at hj; omega
        exact h0
/-- one step of the range: the rune z, the width d -/
theorem rune_step (P : Program) (w : World) {l : List UInt8} {pos : Nat} {b : UInt8} (hb : l[pos]? = some b) : ∃ z d : Nat, 1 ≤ d ∧ z ≤ 2147483647 ∧ (b.toNat < 128 → z = b.toNat ∧ d = 1) ∧ (128 ≤ b.toNat → 128 ≤ z) ∧ (128 ≤ b.toNat → ∀ j, j < d → ∃ c, l[pos + j]? = some c ∧ 128 ≤ c.toNat) ∧
    ∀ ty, (Instr.next (.pointer (some ⟨w.heap.size, 0, none⟩)) true ty).run P (w.iter (strOf l) pos) = .ok (.tuple #[.bool true, .int .i64 (pos : Int), .int .i32 (z : Int)]) (w.iter (strOf l) (pos + d)) := by
  have hlt : pos < l.length := by
    rcases Nat.lt_or_ge pos l.length with h | h
    · exact h
    · rw [List.getElem?_eq_none h] at hb; cases hb
  have hs : pos < (strOf l).size := hlt
  have hget : (strOf l)[pos]'hs = b := strOf_get hb hs
  refine ⟨(Utf8.decode (strOf l) pos).1, (Utf8.decode (strOf l) pos).2, ?_, decode_le _ _, fun h => ?_, fun h => ?_, fun h => decode_tail hb h, fun ty => run_next_any w (strOf l) pos ty hs⟩
  · by_cases h : b.toNat < 128
    · rw [decode_ascii _ _ hs (by rw [hget]; exact h)]
      exact Nat.le_refl _
    · exact (decode_high _ _ hs (by rw [hget]; omega)).2
  · rw [decode_ascii _ _ hs (by rw [hget]; exact h), hget]
    exact ⟨rfl, rfl⟩
  · exact (decode_high _ _ hs (by rw [hget]; exact h)).1
theorem rune_end (P : Program) (w : World) {l : List UInt8} {pos : Nat} (h : l.length ≤ pos) : ∀ ty, (Instr.next (.pointer (some ⟨w.heap.size, 0, none⟩)) true ty).run P (w.iter (strOf l) pos) = .ok (.tuple #[.bool false]) (w.iter (strOf l) pos) :=
  fun ty => run_next_end w (strOf l) pos ty (by show ¬ pos < l.length; omega)
theorem iter_grows (w : World) (s : ByteArray) (pos : Nat) : Grows w (w.iter s pos) := (Below.refl _ _).alloc (Nat.le_refl _) _
theorem drop_at {l : List UInt8} {j : Nat} {b : UInt8} (hb : l[j]? = some b) : l.drop j = b :: l.drop (j + 1) := by
  have hlt : j < l.length := by
    rcases Nat.lt_or_ge j l.length with h | h
    · exact h
    · rw [List.getElem?_eq_none h] at hb; cases hb
  rw [List.drop_eq_getElem_cons hlt]
  congr 1
  rw [List.getElem?_eq_getElem hlt] at hb
  injection hb
theorem lt_of_at {l : List UInt8} {j : Nat} {b : UInt8} (hb : l[j]? = some b) : j < l.length := by
  rcases Nat.lt_or_ge j l.length with h | h
  · exact h
  · rw [List.getElem?_eq_none h] at hb; cases hb
/-- bytes that are no quotes change nothing between pairs of quotes -/
theorem qd_over {l : List UInt8} : ∀ (d pos : Nat), (∀ j, j < d → ∃ c, l[pos + j]? = some c ∧ 128 ≤ c.toNat) → qd false (l.drop pos) = qd false (l.drop (pos + d))
  | 0, pos, _ => rfl
  | d + 1, pos, h => by
    obtain ⟨c, hc, h8⟩ := h 0 (by omega)
    rw [drop_at (show l[pos]? = some c from hc), qd_even (fun e => by rw [e] at h8; exact absurd h8 (by decide)), qd_over d (pos + 1) (fun j hj => by have := h (j + 1) (by omega); rwa [show pos + (j + 1) = pos + 1 + j by omega] at this), show pos + 1 + d = pos + (d + 1) by omega]
end Go.Proofs.YtaiphocnfkkigaaDoor
