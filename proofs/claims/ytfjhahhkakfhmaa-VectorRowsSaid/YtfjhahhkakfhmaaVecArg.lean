/-
  Shaken: what the claims of this seat need of this text. No condition.
-/
import Derived.Test.YtfjhahhkakfhmaaVArg
import Derived.Test.YtfjhahhkakfhmaaRows
import Derived.Test.YtfjhahhkakfhmaaM1
import Derived.ProofKit
import Derived.OpenShut
import Derived.SizedLaws
import Derived.Lib.SmallJoins
import Derived.Deep.Slices
import Derived.Deep.Strs
import Derived.Deep.Grids
import Derived.ChangeSame
namespace Go.Proofs.Ytfjhahhkakfhmaa
open Go.ChangeShapes Go.WideShapes Go.ChangeAt Go.RowKit Go.Joins Go.Deep
set_option linter.unusedVariables false
set_option linter.unusedSimpArgs false
set_option maxRecDepth 100000
theorem bytesStr : Try.prog.bytesOf 9 = 16 := by kernel_rfl
theorem bytesI64 : Try.prog.bytesOf 2 = 8 := by kernel_rfl
theorem bytesBool : Try.prog.bytesOf 4 = 1 := by kernel_rfl
theorem cellsVec : Try.prog.cellsOf 29 = 4 := by kernel_rfl
theorem strOf_data (s : ByteArray) : strOf s.data.toList = s := by
  cases s with
  | mk d => cases d; rfl
section
variable {H : Type} {enc : TypeId × Value → H} {W : World}
def LenD {α : Type} (l : List α) (d : DataW H) : Prop := l = [] ∨ ∃ e s, d = .slice e s ∧ l.length = e.length
theorem ints_of_cell {m : Nat} {v : Value} {y : DataW H × List MemPlace} (h : DataW.trod enc Try.prog W 0 (fun _ => true) true m 25 [v] = some y) :
    ∃ l : List Int, IsI W v l ∧ (∀ x ∈ l, frIn x) ∧ LenD l y.1 := by
  rcases open_ints Try.underlying25 Try.underlying2 (by kernel_rfl) h with ⟨hcs, _⟩ | ⟨x, len0, cap0, zs, hcs, _, hl, hm, hz, hx, hcell, hwz⟩
  · simp at hcs
    subst hcs
    exact ⟨[], Reads.nil_ _ 0, by simp, .inl rfl⟩
  · simp at hcs
    subst hcs
    have hz' : zs.length = cap0 := by simpa using hz
    have hlen : (zs.take len0).length = len0 := by rw [List.length_take]; omega
    refine ⟨zs.take len0, ?_, fun z hz => wf_i64 (hwz z (List.mem_of_mem_take hz)), .inr ⟨_, _, by rw [hx], by rw [hlen]; simp [lits]; omega⟩⟩
    refine ⟨some x, cap0, by rw [icells_length, hlen], by rw [icells_length, hlen]; exact hl, fun hpos => ?_⟩
    rw [icells_length, hlen] at hpos
    obtain ⟨b, off, spot⟩ := x
    have hc := hcell 0 (by omega)
    have hspot : spot = none := by simpa [Addr.add] using World.cell?_spot hc
    subst hspot
    refine ⟨b, off, rfl, fun j hj => ?_⟩
    rw [icells_length, hlen] at hj
    have h1 := hcell j (by omega)
    rw [Addr.add_lit] at h1
    have hjz : j < zs.length := by omega
    rw [h1, icells_get (by rw [hlen]; exact hj), List.getElem_take, List.getD_eq_getElem?_getD, List.getElem?_eq_getElem hjz]
    rfl
theorem strs_of_cell {m : Nat} {v : Value} {y : DataW H × List MemPlace} (h : DataW.trod enc Try.prog W 0 (fun _ => true) true m 26 [v] = some y) :
    ∃ l : List Str, IsS W v l ∧ LenD l y.1 := by
  rcases open_strs Try.underlying26 Try.underlying9 cellsStr h with ⟨hcs, _⟩ | ⟨x, len0, cap0, m, Sx, hcs, _, hl, hm, hmm, hx, hcell⟩
  · simp at hcs
    subst hcs
    exact ⟨[], Reads.nil_ _ 0, .inl rfl⟩
  · simp at hcs
    subst hcs
    have hml : len0 ≤ m := by rw [hmm]; simp; exact hl
    have hlen : ((List.range len0).map fun i => (Sx i).data.toList).length = len0 := by simp
    refine ⟨(List.range len0).map fun i => (Sx i).data.toList, ?_, .inr ⟨_, _, by rw [hx], by simp⟩⟩
    refine ⟨some x, cap0, by rw [scells_length, hlen], by rw [scells_length, hlen]; exact hl, fun hpos => ?_⟩
    rw [scells_length, hlen] at hpos
    obtain ⟨b, off, spot⟩ := x
    have hc := (hcell 0 (by omega)).1
    have hspot : spot = none := by simpa [Addr.add] using World.cell?_spot hc
    subst hspot
    refine ⟨b, off, rfl, fun j hj => ?_⟩
    rw [scells_length, hlen] at hj
    have h1 := (hcell j (by omega)).1
    rw [Addr.add_lit] at h1
    rw [h1, scells_get (by rw [hlen]; exact hj)]
    simp only [List.getElem_map, List.getElem_range, strOf_data]
theorem bools_of_cell {m : Nat} {v : Value} {y : DataW H × List MemPlace} (h : DataW.trod enc Try.prog W 0 (fun _ => true) true m 27 [v] = some y) :
    ∃ l : List Bool, IsT W v l ∧ LenD l y.1 := by
  rcases open_bools Try.underlying27 Try.underlying4 cellsBool h with ⟨hcs, _⟩ | ⟨x, len0, cap0, Bx, hcs, _, hl, hm, hx, hcell⟩
  · simp at hcs
    subst hcs
    exact ⟨[], Reads.nil_ _ 0, .inl rfl⟩
  · simp at hcs
    subst hcs
    have hlen : ((List.range len0).map Bx).length = len0 := by simp
    refine ⟨(List.range len0).map Bx, ?_, .inr ⟨_, _, by rw [hx]; rfl, by simp⟩⟩
    refine ⟨some x, cap0, by rw [tcells_length, hlen], by rw [tcells_length, hlen]; exact hl, fun hpos => ?_⟩
    rw [tcells_length, hlen] at hpos
    obtain ⟨b, off, spot⟩ := x
    have hc := hcell 0 (by omega)
    have hspot : spot = none := by simpa [Addr.add] using World.cell?_spot hc
    subst hspot
    refine ⟨b, off, rfl, fun j hj => ?_⟩
    rw [tcells_length, hlen] at hj
    have h1 := hcell j (by omega)
    rw [Addr.add_lit] at h1
    rw [h1, tcells_get (by rw [hlen]; exact hj)]
    simp only [List.getElem_map, List.getElem_range]
theorem LenD.le {α : Type} {l : List α} {d : DataW H} (hl : LenD l d) {t e : TypeId} (hu : Try.prog.underlying t = some (.slice e)) (hb : 1 ≤ Try.prog.bytesOf e) (hw : ∀ n ∈ d.weights Try.prog t, n ≤ reachBytes) : l.length ≤ 1000000000000000 := by
  rcases hl with rfl | ⟨a, s, rfl, hl⟩
  · simp
  · have h1 := hw ((a.length + s.length) * Try.prog.bytesOf e) (by simp [DataW.weights, hu])
    rw [show reachBytes = 140737488351232 from rfl] at h1
    have h2 : a.length * 1 ≤ (a.length + s.length) * Try.prog.bytesOf e := Nat.mul_le_mul (by omega) hb
    omega
theorem cellsInt12 : Try.prog.cellsOf 3 = 1 := by kernel_rfl
theorem weights_at {ts : List TypeId} {ds : List (DataW H)} (h : (DataW.weightsEach Try.prog ts ds).all (· ≤ reachBytes) = true) {j : Nat} {t : TypeId} {d : DataW H} (ht : ts[j]? = some t) (hd : ds[j]? = some d) : ∀ n ∈ d.weights Try.prog t, n ≤ reachBytes := fun n hn => by
  have := List.all_eq_true.1 h _ (DataW.weights_mem_each ht hd n hn)
  simpa using this
end
end Go.Proofs.Ytfjhahhkakfhmaa
