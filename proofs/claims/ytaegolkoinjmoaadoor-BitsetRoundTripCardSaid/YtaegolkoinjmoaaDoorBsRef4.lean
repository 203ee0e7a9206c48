/-
  The reference's Select, And, Or, AndNot and Not return what the document says; nothing that was there is changed.
-/
import Derived.Test.YtaegolkoinjmoaaDoorBsRef3
namespace Go.Proofs.YtaegolkoinjmoaaDoor
open Go.RowKit

def selI (n : Nat) (f : Nat → Bool) (k : Int) : Int := if 0 ≤ k then (match (elems f n)[k.toNat]? with | some i => (i : Int) | none => -1) else -1
theorem selI_neg {n : Nat} {f : Nat → Bool} {k : Int} (h : k < 0) : selI n f k = -1 := by unfold selI; rw [if_neg (by omega)]
theorem selI_out {n : Nat} {f : Nat → Bool} {k : Nat} (h : (elems f n).length ≤ k) : selI n f (k : Int) = -1 := by unfold selI; rw [if_pos (by omega), Int.toNat_natCast, List.getElem?_eq_none h]
theorem selI_at {n : Nat} {f : Nat → Bool} {k : Nat} (h : k < (elems f n).length) : selI n f (k : Int) = ((elems f n)[k] : Int) := by unfold selI; rw [if_pos (by omega), Int.toNat_natCast, List.getElem?_eq_getElem h]

set_option maxHeartbeats 400000 in
theorem rselect_any (s : Value) (n : Nat) (ws : List UInt64) (k : Int) (w : World) (hs : IsSet w s n ws) (h63 : -9223372036854775808 ≤ k) (h64 : k ≤ 9223372036854775807) :
    Calls Tryd.prog 25 #[s, .int .i64 k] w fun e w' => e = .returned (.int .i64 (selI n (mem n ws) k)) ∧ Grows w w' := by
  have HS := hidden hs
  obtain ⟨v, rfl, hr, hn, hn2⟩ := hs
  obtain ⟨A, d, rfl, _⟩ := hr.slice_
  rw [ucells_length] at HS hr ⊢
  have hG : ∀ o, Grows w (w.alloc o) := fun o => (Below.refl _ _).alloc (Nat.le_refl _) o
  have HG := hidden hG
  clear hr hG
  go_enter Tryd.func25, Tryd.ntmps25
  go_wp2_with fail
  refine (relements_any _ n ws _ (HS.out.grow (HG.out _))).mono ?_
  rintro e w1 ⟨v1, rfl, hown, g1⟩
  have HG1 := hidden (Grows.of_below (HG.out _) g1)
  have hrd := Reads.of_own hown
  have HNEG := hidden (fun h => selI_neg (n := n) (f := mem n ws) (k := k) h)
  have HOUT := hidden (fun (j : Nat) h => selI_out (n := n) (f := mem n ws) (k := j) h)
  have HAT := hidden (fun (j : Nat) h => selI_at (n := n) (f := mem n ws) (k := j) h)
  have hll := cnt_le (mem n ws) n
  rw [← elems_length] at hll
  clear g1 hown
  generalize elems (mem n ws) n = l at *
  obtain ⟨A1, d1, rfl, _, hc⟩ := hrd
  rw [ncells_length] at hc ⊢
  by_cases h0 : k < 0
  · have HE := hidden (HNEG.out h0)
    have hd : decide (k < 0) = true := by simpa using h0
    clear h0 hc
    go_wp2
    go_ret
    exact ⟨retU (by rw [HE.out]), HG1.out⟩
  · obtain ⟨j, rfl⟩ := Int.eq_ofNat_of_zero_le (show 0 ≤ k by omega)
    by_cases hj : j < l.length
    · have HE := hidden (HAT.out j hj)
      obtain ⟨b, off, rfl, hcell⟩ := hc (by omega)
      have hcl := hcell j hj
      rw [ncells_get hj] at hcl
      clear hc hcell h0
      generalize l[j] = x at *
      go_wp2
      go_ret
      exact ⟨retU (by rw [HE.out]), HG1.out⟩
    · have HE := hidden (HOUT.out j (by omega))
      clear hc h0
      go_wp2
      go_ret
      exact ⟨retU (by rw [HE.out]), HG1.out⟩

def OpRel (w : World) (m na nb : Nat) (va vb : Value) (f : Nat → Bool) (k : Value) (wr : World) : Prop :=
  ∃ j : Nat, j ≤ m ∧ k = .int .i64 j ∧ Row wr w.heap.size 26 [.int .i64 (na : Int), va] ∧ Row wr (w.heap.size + 1) 26 [.int .i64 (nb : Int), vb] ∧ Row wr (w.heap.size + 2) 26 [.int .i64 0, .slice none 0 0] ∧
    Row wr (w.heap.size + 3) 4 (tcells (bitsOf (upto f j) m)) ∧ Below w.heap.size w wr

end Go.Proofs.YtaegolkoinjmoaaDoor
