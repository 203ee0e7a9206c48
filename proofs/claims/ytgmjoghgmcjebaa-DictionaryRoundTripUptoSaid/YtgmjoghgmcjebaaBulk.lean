/-
  What the bound on the bulk of the arguments gives: the lengths of the slices that came in. No condition.
-/
import Derived.Test.YtgmjoghgmcjebaaRows
import Derived.ChangeSlices
namespace Go.Proofs.Ytgmjoghgmcjebaa

theorem bulk_pos {H : Type} (d : DataW H) : 1 ≤ Rows.uptoBulk d := by
  rcases d with l | _ | d | ⟨e, s⟩ | p | ⟨t, d⟩ | m | h
  · cases l <;> simp [Rows.uptoBulk]
  all_goals simp [Rows.uptoBulk]
theorem bulk_length {H : Type} : ∀ l : List (DataW H), l.length ≤ Rows.uptoBulkAll l
  | [] => by simp [Rows.uptoBulkAll]
  | d :: l => by
    have h1 := bulk_pos d
    have h2 := bulk_length l
    simp only [Rows.uptoBulkAll, List.length_cons]; omega
theorem bulk_nil {H : Type} : 0 + 1 ≤ Rows.uptoBulk (DataW.nil (H := H)) := by simp [Rows.uptoBulk]
theorem bulk_slice {H : Type} (l r : List (DataW H)) (len : Nat) (h : len ≤ l.length) : len + 1 ≤ Rows.uptoBulk (.slice l r) := by
  have h1 := bulk_length l
  simp only [Rows.uptoBulk]; omega
theorem bulk_ints {H : Type} (k : IntKind) (zs ys : List Int) (len : Nat) (h : len ≤ zs.length) : len + 1 ≤ Rows.uptoBulk (DataW.slice (H := H) (ChangeShapes.lits k zs) (ChangeShapes.lits k ys)) :=
  bulk_slice _ _ _ (by simpa [ChangeShapes.lits] using h)
theorem bulk_bound {H : Type} {l : List (DataW H)} (h : Rows.uptoSmall H l = true) : Rows.uptoBulkAll l ≤ 1048576 := of_decide_eq_true h

end Go.Proofs.Ytgmjoghgmcjebaa
