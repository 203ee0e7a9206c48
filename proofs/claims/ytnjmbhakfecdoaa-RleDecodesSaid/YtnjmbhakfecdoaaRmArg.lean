/-
  What an argument that came in is told as in the walks: a slice of runs, of 64-bit integers, of bytes. No condition.
-/
import Derived.Test.YtnjmbhakfecdoaaRows
import Derived.Test.YtnjmbhakfecdoaaRl2
import Derived.ProofKit
import Derived.OpenShut
import Derived.SizedLaws
import Derived.Lib.SmallJoins
import Derived.Deep.Slices
import Derived.Deep.Strs
namespace Go.Proofs.Ytnjmbhakfecdoaa
open Go.ChangeShapes Go.WideShapes Go.ChangeAt Go.RowKit Go.Joins Go.Deep
set_option linter.unusedVariables false
set_option linter.unusedSimpArgs false
set_option maxRecDepth 100000

theorem own : ownKnob Try.prog.godebug = none := by kernel_rfl
theorem laidOut : laidOutB Try.prog = true := by kernel_rfl
theorem cellsRun : Try.prog.cellsOf 59 = 2 := by kernel_rfl
theorem bytesRun : Try.prog.bytesOf 59 = 16 := by kernel_rfl
theorem cellsInt : Try.prog.cellsOf 3 = 1 := by kernel_rfl
theorem cellsI64 : Try.prog.cellsOf 2 = 1 := by kernel_rfl
theorem bytesI64 : Try.prog.bytesOf 2 = 8 := by kernel_rfl
theorem bytesU8 : Try.prog.bytesOf 5 = 1 := by kernel_rfl
def inR (x : Rn) : Prop := (-9223372036854775808 ≤ x.1 ∧ x.1 ≤ 9223372036854775807) ∧ (-9223372036854775808 ≤ x.2 ∧ x.2 ≤ 9223372036854775807)
theorem runs_of_arg {H : Type} {enc : TypeId × Value → H} {W : World} {base : Nat} {v : Value} {d : DataW H} {p : List MemPlace}
    (hv : Value.okWide Try.prog W .any base 23 v) (h : DataW.Trod enc Try.prog W 0 (fun _ => true) true 23 v d p) :
    ∃ l : List Rn, ReadsR W v l ∧ (∀ x ∈ l, inR x) ∧ (l = [] ∨ ∃ e s, d = .slice e s ∧ l.length = e.length) := by
  obtain ⟨a0, len0, cap0, rfl⟩ := okWide_slice Try.underlying23 hv
  obtain ⟨fuel, hf⟩ := h
  rcases open_slice Try.underlying23 hf with ⟨hcs, _⟩ | ⟨a, len, cap, m, n, D, Pl, hcs, _, hl, hm, hmm, hx, hel⟩
  · simp [Value.cells] at hcs
    obtain ⟨rfl, rfl, rfl⟩ := hcs
    exact ⟨[], ⟨none, 0, rfl, Nat.le_refl _, fun h => absurd h (by simp)⟩, by simp, .inl rfl⟩
  · simp [Value.cells] at hcs
    obtain ⟨rfl, rfl, rfl⟩ := hcs
    simp only [if_true] at hmm
    subst hmm
    rw [cellsRun] at hel
    have hone : ∀ i, i < len0 → ∃ x : Rn, W.cell? (a.add (i * 2)) = some (.int .i64 x.1) ∧ W.cell? ((a.add (i * 2)).add 1) = some (.int .i64 x.2) ∧ inR x := by
      intro i hi
      obtain ⟨cs', h1, h2⟩ := hel i (by omega)
      obtain ⟨_, hlen, hcell⟩ := World.cells?_some h1
      obtain ⟨y0, y1, k, _, _, hy0, hy1⟩ := trod_struct2 Try.underlying59 h2
      match cs', hlen with
      | [c0, c1], _ =>
        simp only [cellsInt, cellsI64] at hy0 hy1
        obtain ⟨u0, e0, _, wa⟩ := DataW.trod_int Try.underlying2 hy0
        obtain ⟨u1, e1, _, wb⟩ := DataW.trod_int Try.underlying3 hy1
        simp at e0 e1
        subst e0 e1
        have q0 := hcell 0 (by omega)
        have q1 := hcell 1 (by omega)
        refine ⟨(u0, u1), ?_, q1, wf_i64 wa, wf_i64 wb⟩
        simpa [Addr.add] using q0
    have : Inhabited Rn := ⟨(0, 0)⟩
    obtain ⟨X, hX⟩ := choose_lt hone
    have hlen : ((List.range len0).map X).length = len0 := by simp
    refine ⟨(List.range len0).map X, ⟨some a, m, by rw [hlen], by rw [hlen]; exact hl, fun hpos => ?_⟩, ?_, .inr ⟨_, _, (Prod.mk.inj hx).1, by simp⟩⟩
    · rw [hlen] at hpos
      obtain ⟨h1, _⟩ := hX 0 hpos
      obtain ⟨b, off, spot⟩ := a
      have hspot : spot = none := by simpa [Addr.add] using World.cell?_spot h1
      subst hspot
      refine ⟨b, off, rfl, fun j x hj => ?_⟩
      have hjl : j < len0 := by
        rcases Nat.lt_or_ge j len0 with h | h
        · exact h
        · rw [List.getElem?_eq_none (by rw [hlen]; exact h)] at hj; cases hj
      have hxj : x = X j := by
        rw [List.getElem?_map, List.getElem?_range hjl] at hj
        simpa using hj.symm
      subst hxj
      obtain ⟨q0, q1, _⟩ := hX j hjl
      rw [Addr.add_lit] at q0
      rw [Addr.add_lit, Addr.add_lit] at q1
      exact ⟨q0, q1⟩
    · intro x hx
      obtain ⟨i, hi, rfl⟩ := List.mem_map.1 hx
      exact (hX i (List.mem_range.1 hi)).2.2
theorem ints_of_arg {H : Type} {enc : TypeId × Value → H} {W : World} {base : Nat} {v : Value} {d : DataW H} {p : List MemPlace}
    (hv : Value.okWide Try.prog W .any base 22 v) (h : DataW.Trod enc Try.prog W 0 (fun _ => true) true 22 v d p) :
    ∃ l : List Int, IsI W v l ∧ (∀ x ∈ l, -9223372036854775808 ≤ x ∧ x ≤ 9223372036854775807) ∧ (l = [] ∨ ∃ e s, d = .slice e s ∧ l.length = e.length) := by
  obtain ⟨a0, len0, cap0, rfl⟩ := okWide_slice Try.underlying22 hv
  obtain ⟨fuel, hf⟩ := h
  rcases open_ints Try.underlying22 Try.underlying2 (by kernel_rfl) hf with ⟨hcs, _⟩ | ⟨x, len, c, zs, hcs, _, hl, hm, hz, hx, hcell, hwz⟩
  · simp [Value.cells] at hcs
    obtain ⟨rfl, rfl, rfl⟩ := hcs
    exact ⟨[], Reads.nil_ _ 0, by simp, .inl rfl⟩
  · simp [Value.cells] at hcs
    obtain ⟨rfl, rfl, rfl⟩ := hcs
    have hz' : zs.length = cap0 := by simpa using hz
    have hlen : (zs.take len0).length = len0 := by rw [List.length_take]; omega
    refine ⟨zs.take len0, ?_, fun z hz => wf_i64 (hwz z (List.mem_of_mem_take hz)), .inr ⟨_, _, (Prod.mk.inj hx).1, by rw [hlen]; simp [lits]; omega⟩⟩
    refine ⟨some x, cap0, by rw [icells_length, hlen], by rw [icells_length, hlen]; exact hl, fun hpos => ?_⟩
    rw [icells_length, hlen] at hpos
    obtain ⟨b, off, spot⟩ := x
    have hc := hcell 0 (by omega)
    have hspot : spot = none := by simpa [Addr.add] using World.cell?_spot hc
    subst hspot
    refine ⟨b, off, rfl, fun j hj => ?_⟩
    rw [icells_length, hlen] at hj
    have h1 := hcell j (by omega)
    rw [Addr.add_lit] at h1
    have hjz : j < zs.length := by omega
    rw [h1, icells_get (by rw [hlen]; exact hj), List.getElem_take, List.getD_eq_getElem?_getD, List.getElem?_eq_getElem hjz]
    rfl
theorem bytes_of_arg {H : Type} {enc : TypeId × Value → H} {W : World} {base : Nat} {v : Value} {d : DataW H} {p : List MemPlace}
    (hv : Value.okWide Try.prog W .any base 45 v) (h : DataW.Trod enc Try.prog W 0 (fun _ => true) true 45 v d p) :
    ∃ (A : Option Addr) (c : Nat) (l : List UInt8), v = .slice A l.length c ∧ IsBytes W (.slice A l.length c) l ∧ l.length ≤ c ∧ (l = [] ∨ ∃ e s, d = .slice e s ∧ l.length = e.length) := by
  obtain ⟨a0, len0, cap0, rfl⟩ := okWide_slice Try.underlying45 hv
  obtain ⟨fuel, hf⟩ := h
  rcases open_ints Try.underlying45 Try.underlying5 (by kernel_rfl) hf with ⟨hcs, _⟩ | ⟨x, len, c, zs, hcs, _, hl, hm, hz, hx, hcell, hwz⟩
  · simp [Value.cells] at hcs
    obtain ⟨rfl, rfl, rfl⟩ := hcs
    exact ⟨none, 0, [], rfl, IsBytes.nil_ _, Nat.le_refl _, .inl rfl⟩
  · simp [Value.cells] at hcs
    obtain ⟨rfl, rfl, rfl⟩ := hcs
    have hz' : zs.length = cap0 := by simpa using hz
    obtain ⟨h1, h2, h3⟩ := isBytes_of_row (.inr ⟨_, rfl, hl, hm, hz', hcell, hwz⟩)
    exact ⟨some x, cap0, toBytes (zs.take len0), by rw [h2], by rw [h2]; exact h1, by rw [h2]; exact hl, .inr ⟨_, _, (Prod.mk.inj hx).1, by rw [h2]; simp [lits]; omega⟩⟩
theorem trod_lt_all {H : Type} {enc : TypeId × Value → H} {W : World} {t : TypeId} {v : Value} {d : DataW H} {p : List MemPlace} (h : DataW.Trod enc Try.prog W 0 (fun _ => true) true t v d p) : ∀ x ∈ p, x.block < W.heap.size := by obtain ⟨m, hm⟩ := h; exact DataW.trod_lt m _ _ _ hm
theorem reach_eq : reachBytes = 140737488351232 := rfl
/-- the form's own reach, at a slice that is an argument -/
theorem len_of_reach {H : Type} {ts : List TypeId} {ds : List (DataW H)} (h : (DataW.weightsEach Try.prog ts ds).all (· ≤ reachBytes) = true) {j : Nat} {t e : TypeId} {d : DataW H} (ht : ts[j]? = some t) (hd : ds[j]? = some d) (hu : Try.prog.underlying t = some (.slice e)) (hb : 1 ≤ Try.prog.bytesOf e) {α : Type} {l : List α}
    (hl : l = [] ∨ ∃ (a s : List (DataW H)), d = .slice a s ∧ l.length = a.length) : l.length ≤ 140737488351232 := by
  rcases hl with rfl | ⟨a, s, rfl, hl⟩
  · simp
  · have h1 := sized_slice h ht hd hu
    rw [reach_eq] at h1
    have h2 : a.length * 1 ≤ (a.length + s.length) * Try.prog.bytesOf e := Nat.mul_le_mul (by omega) hb
    omega
end Go.Proofs.Ytnjmbhakfecdoaa
