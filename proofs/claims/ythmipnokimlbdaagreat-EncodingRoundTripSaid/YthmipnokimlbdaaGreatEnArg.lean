/-
  Shaken: what the claims of this seat need of this text. No condition.
-/
import Derived.Test.YthmipnokimlbdaaGreatRows
import Derived.Test.YthmipnokimlbdaaGreatM16
import Derived.ProofKit
import Derived.OpenShut
import Derived.SizedLaws
import Derived.Lib.SmallJoins
import Derived.Deep.Slices
import Derived.Deep.Strs
import Derived.Deep.Grids
import Derived.ChangeSame
namespace Go.Proofs.YthmipnokimlbdaaGreat
open Go.ChangeShapes Go.WideShapes Go.ChangeAt Go.RowKit Go.Joins Go.Deep
set_option linter.unusedVariables false
set_option linter.unusedSimpArgs false
set_option maxRecDepth 100000
theorem own : ownKnob Tryz.prog.godebug = none := by kernel_rfl
theorem laidOut : laidOutB Tryz.prog = true := by kernel_rfl
theorem cellsStr : Tryz.prog.cellsOf 9 = 1 := by kernel_rfl
theorem bytesStr : Tryz.prog.bytesOf 9 = 16 := by kernel_rfl
theorem bytesU8 : Tryz.prog.bytesOf 5 = 1 := by kernel_rfl
theorem bytesI64 : Tryz.prog.bytesOf 2 = 8 := by kernel_rfl
theorem bytesBool : Tryz.prog.bytesOf 4 = 1 := by kernel_rfl
theorem cellsBool : Tryz.prog.cellsOf 4 = 1 := by kernel_rfl
theorem cellsVec : Tryz.prog.cellsOf 26 = 4 := by kernel_rfl
theorem strOf_data (s : ByteArray) : strOf s.data.toList = s := by
  cases s with
  | mk d => cases d; rfl
section
variable {H : Type} {enc : TypeId × Value → H} {W : World}
def LenD {α : Type} (l : List α) (d : DataW H) : Prop := l = [] ∨ ∃ e s, d = .slice e s ∧ l.length = e.length
theorem ints_of_cell {m : Nat} {v : Value} {y : DataW H × List MemPlace} (h : DataW.trod enc Tryz.prog W 0 (fun _ => true) true m 22 [v] = some y) :
    ∃ l : List Int, IsI W v l ∧ (∀ x ∈ l, frIn x) ∧ LenD l y.1 := by
  rcases open_ints Tryz.underlying22 Tryz.underlying2 (by kernel_rfl) h with ⟨hcs, _⟩ | ⟨x, len0, cap0, zs, hcs, _, hl, hm, hz, hx, hcell, hwz⟩
  · simp at hcs
    subst hcs
    exact ⟨[], Reads.nil_ _ 0, by simp, .inl rfl⟩
  · simp at hcs
    subst hcs
    have hz' : zs.length = cap0 := by simpa using hz
    have hlen : (zs.take len0).length = len0 := by rw [List.length_take]; omega
    refine ⟨zs.take len0, ?_, fun z hz => wf_i64 (hwz z (List.mem_of_mem_take hz)), .inr ⟨_, _, by rw [hx], by rw [hlen]; simp [lits]; omega⟩⟩
    refine ⟨some x, cap0, by rw [icells_length, hlen], by rw [icells_length, hlen]; exact hl, fun hpos => ?_⟩
    rw [icells_length, hlen] at hpos
    obtain ⟨b, off, spot⟩ := x
    have hc := hcell 0 (by omega)
    have hspot : spot = none := by simpa [Addr.add] using World.cell?_spot hc
    subst hspot
    refine ⟨b, off, rfl, fun j hj => ?_⟩
    rw [icells_length, hlen] at hj
    have h1 := hcell j (by omega)
    rw [Addr.add_lit] at h1
    have hjz : j < zs.length := by omega
    rw [h1, icells_get (by rw [hlen]; exact hj), List.getElem_take, List.getD_eq_getElem?_getD, List.getElem?_eq_getElem hjz]
    rfl
theorem strs_of_cell {m : Nat} {v : Value} {y : DataW H × List MemPlace} (h : DataW.trod enc Tryz.prog W 0 (fun _ => true) true m 23 [v] = some y) :
    ∃ l : List Str, IsS W v l ∧ LenD l y.1 := by
  rcases open_strs Tryz.underlying23 Tryz.underlying9 cellsStr h with ⟨hcs, _⟩ | ⟨x, len0, cap0, m, Sx, hcs, _, hl, hm, hmm, hx, hcell⟩
  · simp at hcs
    subst hcs
    exact ⟨[], Reads.nil_ _ 0, .inl rfl⟩
  · simp at hcs
    subst hcs
    have hml : len0 ≤ m := by rw [hmm]; simp; exact hl
    have hlen : ((List.range len0).map fun i => (Sx i).data.toList).length = len0 := by simp
    refine ⟨(List.range len0).map fun i => (Sx i).data.toList, ?_, .inr ⟨_, _, by rw [hx], by simp⟩⟩
    refine ⟨some x, cap0, by rw [scells_length, hlen], by rw [scells_length, hlen]; exact hl, fun hpos => ?_⟩
    rw [scells_length, hlen] at hpos
    obtain ⟨b, off, spot⟩ := x
    have hc := (hcell 0 (by omega)).1
    have hspot : spot = none := by simpa [Addr.add] using World.cell?_spot hc
    subst hspot
    refine ⟨b, off, rfl, fun j hj => ?_⟩
    rw [scells_length, hlen] at hj
    have h1 := (hcell j (by omega)).1
    rw [Addr.add_lit] at h1
    rw [h1, scells_get (by rw [hlen]; exact hj)]
    simp only [List.getElem_map, List.getElem_range, strOf_data]
theorem bools_of_cell {m : Nat} {v : Value} {y : DataW H × List MemPlace} (h : DataW.trod enc Tryz.prog W 0 (fun _ => true) true m 24 [v] = some y) :
    ∃ l : List Bool, IsT W v l ∧ LenD l y.1 := by
  rcases open_bools Tryz.underlying24 Tryz.underlying4 cellsBool h with ⟨hcs, _⟩ | ⟨x, len0, cap0, Bx, hcs, _, hl, hm, hx, hcell⟩
  · simp at hcs
    subst hcs
    exact ⟨[], Reads.nil_ _ 0, .inl rfl⟩
  · simp at hcs
    subst hcs
    have hlen : ((List.range len0).map Bx).length = len0 := by simp
    refine ⟨(List.range len0).map Bx, ?_, .inr ⟨_, _, by rw [hx]; rfl, by simp⟩⟩
    refine ⟨some x, cap0, by rw [tcells_length, hlen], by rw [tcells_length, hlen]; exact hl, fun hpos => ?_⟩
    rw [tcells_length, hlen] at hpos
    obtain ⟨b, off, spot⟩ := x
    have hc := hcell 0 (by omega)
    have hspot : spot = none := by simpa [Addr.add] using World.cell?_spot hc
    subst hspot
    refine ⟨b, off, rfl, fun j hj => ?_⟩
    rw [tcells_length, hlen] at hj
    have h1 := hcell j (by omega)
    rw [Addr.add_lit] at h1
    rw [h1, tcells_get (by rw [hlen]; exact hj)]
    simp only [List.getElem_map, List.getElem_range]
theorem LenD.le {α : Type} {l : List α} {d : DataW H} (hl : LenD l d) {t e : TypeId} (hu : Tryz.prog.underlying t = some (.slice e)) (hb : 1 ≤ Tryz.prog.bytesOf e) (hw : ∀ n ∈ d.weights Tryz.prog t, n ≤ reachBytes) : l.length ≤ 1000000000000000 := by
  rcases hl with rfl | ⟨a, s, rfl, hl⟩
  · simp
  · have h1 := hw ((a.length + s.length) * Tryz.prog.bytesOf e) (by simp [DataW.weights, hu])
    rw [show reachBytes = 140737488351232 from rfl] at h1
    have h2 : a.length * 1 ≤ (a.length + s.length) * Tryz.prog.bytesOf e := Nat.mul_le_mul (by omega) hb
    omega
theorem vec_of_arg {base : Nat} {v : Value} {d : DataW H} {p : List MemPlace}
    (hv : Value.okWide Tryz.prog W .any base 26 v) (h : DataW.Trod enc Tryz.prog W 0 (fun _ => true) true 26 v d p) (hw : ∀ n ∈ d.weights Tryz.prog 26, n ≤ reachBytes) :
    ∃ u : Vec, IsV W v u ∧ Small u := by
  obtain ⟨c0, c1, c2, c3, y0, y1, y2, y3, m, rfl, rfl, _, hy0, hy1, hy2, hy3⟩ := open_agg4 Tryz.underlying26 (by kernel_rfl) cellsVec hv h
  obtain ⟨T, e0, _, wa⟩ := DataW.trod_int Tryz.underlying3 hy0
  simp at e0
  subst e0
  obtain ⟨is, i1, i2, i3⟩ := ints_of_cell hy1
  obtain ⟨ts, s1, s2⟩ := strs_of_cell hy2
  obtain ⟨ns, n1, n2⟩ := bools_of_cell hy3
  simp only [DataW.weights, Tryz.underlying26, List.map_cons, List.map_nil, DataW.weightsEach, List.mem_append] at hw
  exact ⟨⟨T, is, ts, ns⟩, ⟨_, _, _, rfl, i1, s1, n1⟩, i3.le Tryz.underlying22 (by rw [bytesI64]; decide) (fun n hn => hw n (.inr (.inl hn))),
    s2.le Tryz.underlying23 (by rw [bytesStr]; decide) (fun n hn => hw n (.inr (.inr (.inl hn)))), n2.le Tryz.underlying24 (by rw [bytesBool]; decide) (fun n hn => hw n (.inr (.inr (.inr (.inl hn))))), i2⟩
theorem weights_at {ts : List TypeId} {ds : List (DataW H)} (h : (DataW.weightsEach Tryz.prog ts ds).all (· ≤ reachBytes) = true) {j : Nat} {t : TypeId} {d : DataW H} (ht : ts[j]? = some t) (hd : ds[j]? = some d) : ∀ n ∈ d.weights Tryz.prog t, n ≤ reachBytes := fun n hn => by
  have := List.all_eq_true.1 h _ (DataW.weights_mem_each ht hd n hn)
  simpa using this
end
theorem bytes_of_arg {H : Type} {enc : TypeId × Value → H} {W : World} {base : Nat} {v : Value} {d : DataW H} {p : List MemPlace}
    (hv : Value.okWide Tryz.prog W .any base 29 v) (h : DataW.Trod enc Tryz.prog W 0 (fun _ => true) true 29 v d p) :
    ∃ (A : Option Addr) (c : Nat) (l : List UInt8), v = .slice A l.length c ∧ IsBytes W (.slice A l.length c) l ∧ l.length ≤ c ∧ (l = [] ∨ ∃ e s, d = .slice e s ∧ l.length = e.length) := by
  obtain ⟨a0, len0, cap0, rfl⟩ := okWide_slice Tryz.underlying29 hv
  obtain ⟨fuel, hf⟩ := h
  rcases open_ints Tryz.underlying29 Tryz.underlying5 (by kernel_rfl) hf with ⟨hcs, _⟩ | ⟨x, len, c, zs, hcs, _, hl, hm, hz, hx, hcell, hwz⟩
  · simp [Value.cells] at hcs
    obtain ⟨rfl, rfl, rfl⟩ := hcs
    exact ⟨none, 0, [], rfl, IsBytes.nil_ _, Nat.le_refl _, .inl rfl⟩
  · simp [Value.cells] at hcs
    obtain ⟨rfl, rfl, rfl⟩ := hcs
    have hz' : zs.length = cap0 := by simpa using hz
    obtain ⟨h1, h2, h3⟩ := isBytes_of_row (.inr ⟨_, rfl, hl, hm, hz', hcell, hwz⟩)
    exact ⟨some x, cap0, toBytes (zs.take len0), by rw [h2], by rw [h2]; exact h1, by rw [h2]; exact hl, .inr ⟨_, _, (Prod.mk.inj hx).1, by rw [h2]; simp [lits]; omega⟩⟩
theorem trod_lt_all {H : Type} {enc : TypeId × Value → H} {W : World} {t : TypeId} {v : Value} {d : DataW H} {p : List MemPlace} (h : DataW.Trod enc Tryz.prog W 0 (fun _ => true) true t v d p) : ∀ x ∈ p, x.block < W.heap.size := by obtain ⟨m, hm⟩ := h; exact DataW.trod_lt m _ _ _ hm
theorem reach_eq : reachBytes = 140737488351232 := rfl
theorem len_of_reach {H : Type} {ts : List TypeId} {ds : List (DataW H)} (h : (DataW.weightsEach Tryz.prog ts ds).all (· ≤ reachBytes) = true) {j : Nat} {t e : TypeId} {d : DataW H} (ht : ts[j]? = some t) (hd : ds[j]? = some d) (hu : Tryz.prog.underlying t = some (.slice e)) (hb : 1 ≤ Tryz.prog.bytesOf e) {α : Type} {l : List α}
    (hl : l = [] ∨ ∃ (a s : List (DataW H)), d = .slice a s ∧ l.length = a.length) : l.length ≤ 140737488351232 := by
  rcases hl with rfl | ⟨a, s, rfl, hl⟩
  · simp
  · have h1 := sized_slice h ht hd hu
    rw [reach_eq] at h1
    have h2 : a.length * 1 ≤ (a.length + s.length) * Tryz.prog.bytesOf e := Nat.mul_le_mul (by omega) hb
    omega
end Go.Proofs.YthmipnokimlbdaaGreat
