/-
  The laws' encoded: bytes, an encoding, bytes. Nothing that was there is changed.
-/
import Derived.Test.YtolpcoajkjlfeaaFw0
namespace Go.Proofs.Ytolpcoajkjlfeaa
open Go.RowKit
set_option linter.unusedVariables false
set_option linter.unusedSimpArgs false

/-- a slice of its own length that reads as L -/
def Laid8 (L : List UInt8) (w : World) (e : Ending) (w' : World) : Prop := ∃ A c, e = .returned (.slice A L.length c) ∧ L.length ≤ c ∧ IsBytes w' (.slice A L.length c) L ∧ Grows w w'
set_option maxRecDepth 20000 in
set_option maxHeartbeats 4000000 in
theorem encoded_any (A B : Option Addr) (c d : Nat) (p q : List UInt8) (v : Value) (l : List Int) (w : World) (hp : IsBytes w (.slice A p.length c) p) (hv : IsI w v l) (hq : IsBytes w (.slice B q.length d) q) (hpl : p.length ≤ 300) (hql : q.length ≤ 300) (hl : l.length ≤ 65536) (hin : ∀ x ∈ l, frIn x) :
    Calls Try.prog 18 #[.slice A p.length c, v, .slice B q.length d] w (Laid8 (p ++ (encV l ++ q)) w) := by
  have HP := hidden hp
  have HQ := hidden hq
  have HV := hidden hv
  have HPL := hidden hpl
  have HQL := hidden hql
  have HEN := hidden (fun w' hv' => lencodeF_any v l w' hv' hl hin)
  have HEL := hidden (show (encV l).length ≤ 31 + 28 * 65536 by have := encV_len l; omega)
  have HO0 := hidden (show w.ownsRow w.heap.size 5 1 (.slice none 0 0) ([] : List UInt8).length (bcells []) from ⟨rfl, .inl ⟨rfl, rfl⟩⟩)
  clear hp hq hv hpl hql
  generalize encV l = E at *
  go_enter Try.func18, Try.ntmps18
  go_wp2_with ((at_builtin; go_loud (refine wpList_append_bytes (w := w) rfl _ _ 26 rfl 5 Try.underlying26 info_u8 _ [] (by rfl) HO0.out (Below.refl _ _) _ p (by rfl) HP.out (by have := HPL.out; rw [List.length_nil]; omega) ?_); intro v1 w1 hown1 hb1; have HO1 := hidden hown1; have HB1 := hidden hb1; clear hown1 hb1))
  refine (HEN.out w1 (IsI.grow HV.out HB1.out)).mono ?_
  rintro e w2 ⟨v2, rfl, hb2, hu2⟩
  have HU2 := hidden hu2
  have HB2 := hidden (HB1.out.trans (hb2.mono HB1.out.size))
  have HO2 := hidden (own_grow HO1.out hb2)
  rw [List.nil_append] at HO2
  clear hb2 hu2
  go_wp2_with (first | (at_builtin; go_loud (refine wpList_append_bytes (w := w) rfl _ _ 26 rfl 5 Try.underlying26 info_u8 _ p (by rfl) HO2.out HB2.out _ E (by rfl) HU2.out (by have := HPL.out; have := HEL.out; omega) ?_); intro v3 w3 hown3 hb3; have HO3 := hidden hown3; have HB3 := hidden hb3; have HQ3 := hidden (HQ.out.grow hb3); clear hown3 hb3) | (at_builtin; go_loud (refine wpList_append_bytes (w := w) rfl _ _ 26 rfl 5 Try.underlying26 info_u8 _ (p ++ E) (by rfl) HO3.out HB3.out _ q (by rfl) HQ3.out (by have := HPL.out; have := HEL.out; have := HQL.out; rw [List.length_append]; omega) ?_); intro v4 w4 hown4 hb4; have HO4 := hidden hown4; have HB4 := hidden hb4; clear hown4 hb4))
  go_ret
  have ho := HO4.out
  rw [List.append_assoc] at ho
  have hu := IsBytes.of_own ho
  rcases ho.2 with ⟨h1, h2⟩ | ⟨g, cap, cur, h1, _, _, h3, _⟩
  · subst h1
    exact ⟨none, 0, by rw [h2]; rfl, by rw [h2]; exact Nat.le_refl _, by rw [h2]; exact hu, HB4.out⟩
  · subst h1
    exact ⟨_, cap, rfl, h3, hu, HB4.out⟩
end Go.Proofs.Ytolpcoajkjlfeaa
