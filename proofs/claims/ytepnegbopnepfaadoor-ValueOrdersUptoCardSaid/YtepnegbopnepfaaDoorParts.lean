/-
  Rows of one and of two byte slices that have just been laid read as slices of byte slices. No condition.
-/
import Derived.Test.YtepnegbopnepfaaDoorApp
namespace Go.Proofs.YtepnegbopnepfaaDoor
open Go.RowKit

theorem IsParts.new1 {w : World} {A : Option Addr} {n c : Nat} {la : List UInt8} (ha : IsBytes w (.slice A n c) la) (E : TypeId) (k : Nat) (g : Nat) (hg : g = w.heap.size) :
    IsParts (w.alloc (.cells #[.slice A n c] E)) (.slice (some ⟨g, 0, none⟩) 1 k) [la] := by
  subst hg
  have hn : n = la.length := by
    obtain ⟨A', c', he, _⟩ := ha
    injection he
  subst hn
  have hb : Grows w (w.alloc (.cells #[.slice A la.length c] E)) := (Below.refl _ _).alloc (Nat.le_refl _) _
  refine ⟨_, k, rfl, fun _ => ⟨w.heap.size, 0, rfl, fun j hj => ?_⟩⟩
  have hj0 : j = 0 := by simp at hj; omega
  subst hj0
  exact ⟨A, c, by rw [World.cell?_alloc_mark]; rfl, ha.grow hb⟩

theorem IsParts.none_ (w : World) : IsParts w (.slice none 0 0) [] := ⟨none, 0, rfl, fun h => absurd h (by simp)⟩

theorem IsParts.new2 {w : World} {A B : Option Addr} {c d : Nat} {la lb : List UInt8} (ha : IsBytes w (.slice A la.length c) la) (hb : IsBytes w (.slice B lb.length d) lb) (E : TypeId) :
    IsParts (w.alloc (.cells #[.slice A la.length c, .slice B lb.length d] E)) (.slice (some ⟨w.heap.size, 0, none⟩) 2 2) [la, lb] := by
  have hg : Grows w (w.alloc (.cells #[.slice A la.length c, .slice B lb.length d] E)) := (Below.refl _ _).alloc (Nat.le_refl _) _
  refine ⟨_, 2, rfl, fun _ => ⟨w.heap.size, 0, rfl, fun j hj => ?_⟩⟩
  match j, hj with
  | 0, _ => exact ⟨A, c, by rw [World.cell?_alloc_mark]; rfl, ha.grow hg⟩
  | 1, _ => exact ⟨B, d, by rw [World.cell?_alloc_mark]; rfl, hb.grow hg⟩
theorem two_le {la lb : List UInt8} {n : Nat} (ha : la.length ≤ n) (hb : lb.length ≤ n) : ∀ l ∈ [la, lb], l.length ≤ n := by
  intro l h
  simp at h
  rcases h with rfl | rfl <;> assumption

end Go.Proofs.YtepnegbopnepfaaDoor
