/-
  What an argument that came in is told as in the walks: a slice of strings, of bytes; a string; an array of two numbers. No condition.
-/
import Derived.Test.YtcpdgkjelghlnaaRows
import Derived.Test.YtcpdgkjelghlnaaFcS
import Derived.ProofKit
import Derived.OpenShut
import Derived.SizedLaws
import Derived.Lib.SmallJoins
import Derived.Deep.Slices
import Derived.Deep.Strs
import Derived.ChangeSame
namespace Go.Proofs.Ytcpdgkjelghlnaa
open Go.ChangeShapes Go.WideShapes Go.ChangeAt Go.RowKit Go.Joins Go.Deep
set_option linter.unusedVariables false
set_option linter.unusedSimpArgs false
set_option maxRecDepth 100000

theorem own : ownKnob Try.prog.godebug = none := by kernel_rfl
theorem laidOut : laidOutB Try.prog = true := by kernel_rfl
theorem cellsStr : Try.prog.cellsOf 9 = 1 := by kernel_rfl
theorem bytesStr : Try.prog.bytesOf 9 = 16 := by kernel_rfl
theorem bytesU8 : Try.prog.bytesOf 5 = 1 := by kernel_rfl
theorem strOf_data (s : ByteArray) : strOf s.data.toList = s := by
  cases s with
  | mk d => cases d; rfl
theorem strs_of_arg {H : Type} {enc : TypeId × Value → H} {W : World} {base : Nat} {v : Value} {d : DataW H} {p : List MemPlace}
    (hv : Value.okWide Try.prog W .any base 22 v) (h : DataW.Trod enc Try.prog W 0 (fun _ => true) true 22 v d p) :
    ∃ l : List Str, IsS W v l ∧ (l = [] ∨ ∃ e s, d = .slice e s ∧ l.length = e.length) := by
  obtain ⟨a0, len0, cap0, rfl⟩ := okWide_slice Try.underlying22 hv
  obtain ⟨fuel, hf⟩ := h
  rcases open_strs Try.underlying22 Try.underlying9 cellsStr hf with ⟨hcs, _⟩ | ⟨x, len, c, m, Sx, hcs, _, hl, hm, hmm, hx, hcell⟩
  · simp [Value.cells] at hcs
    obtain ⟨rfl, rfl, rfl⟩ := hcs
    exact ⟨[], Reads.nil_ _ 0, .inl rfl⟩
  · simp [Value.cells] at hcs
    obtain ⟨rfl, rfl, rfl⟩ := hcs
    have hml : len0 ≤ m := by rw [hmm]; simp; exact hl
    have hlen : ((List.range len0).map fun i => (Sx i).data.toList).length = len0 := by simp
    refine ⟨(List.range len0).map fun i => (Sx i).data.toList, ?_, .inr ⟨_, _, (Prod.mk.inj hx).1, by simp⟩⟩
    refine ⟨some x, cap0, by rw [scells_length, hlen], by rw [scells_length, hlen]; exact hl, fun hpos => ?_⟩
    rw [scells_length, hlen] at hpos
    obtain ⟨b, off, spot⟩ := x
    have hc := (hcell 0 (by omega)).1
    have hspot : spot = none := by simpa [Addr.add] using World.cell?_spot hc
    subst hspot
    refine ⟨b, off, rfl, fun j hj => ?_⟩
    rw [scells_length, hlen] at hj
    have h1 := (hcell j (by omega)).1
    rw [Addr.add_lit] at h1
    rw [h1, scells_get (by rw [hlen]; exact hj)]
    simp only [List.getElem_map, List.getElem_range, strOf_data]
theorem bytes_of_arg {H : Type} {enc : TypeId × Value → H} {W : World} {base : Nat} {v : Value} {d : DataW H} {p : List MemPlace}
    (hv : Value.okWide Try.prog W .any base 26 v) (h : DataW.Trod enc Try.prog W 0 (fun _ => true) true 26 v d p) :
    ∃ (A : Option Addr) (c : Nat) (l : List UInt8), v = .slice A l.length c ∧ IsBytes W (.slice A l.length c) l ∧ l.length ≤ c ∧ (l = [] ∨ ∃ e s, d = .slice e s ∧ l.length = e.length) := by
  obtain ⟨a0, len0, cap0, rfl⟩ := okWide_slice Try.underlying26 hv
  obtain ⟨fuel, hf⟩ := h
  rcases open_ints Try.underlying26 Try.underlying5 (by kernel_rfl) hf with ⟨hcs, _⟩ | ⟨x, len, c, zs, hcs, _, hl, hm, hz, hx, hcell, hwz⟩
  · simp [Value.cells] at hcs
    obtain ⟨rfl, rfl, rfl⟩ := hcs
    exact ⟨none, 0, [], rfl, IsBytes.nil_ _, Nat.le_refl _, .inl rfl⟩
  · simp [Value.cells] at hcs
    obtain ⟨rfl, rfl, rfl⟩ := hcs
    have hz' : zs.length = cap0 := by simpa using hz
    obtain ⟨h1, h2, h3⟩ := isBytes_of_row (.inr ⟨_, rfl, hl, hm, hz', hcell, hwz⟩)
    exact ⟨some x, cap0, toBytes (zs.take len0), by rw [h2], by rw [h2]; exact h1, by rw [h2]; exact hl, .inr ⟨_, _, (Prod.mk.inj hx).1, by rw [h2]; simp [lits]; omega⟩⟩
theorem trod_lt_all {H : Type} {enc : TypeId × Value → H} {W : World} {t : TypeId} {v : Value} {d : DataW H} {p : List MemPlace} (h : DataW.Trod enc Try.prog W 0 (fun _ => true) true t v d p) : ∀ x ∈ p, x.block < W.heap.size := by obtain ⟨m, hm⟩ := h; exact DataW.trod_lt m _ _ _ hm
theorem reach_eq : reachBytes = 140737488351232 := rfl
/-- the form's own reach, at a slice that is an argument -/
theorem len_of_reach {H : Type} {ts : List TypeId} {ds : List (DataW H)} (h : (DataW.weightsEach Try.prog ts ds).all (· ≤ reachBytes) = true) {j : Nat} {t e : TypeId} {d : DataW H} (ht : ts[j]? = some t) (hd : ds[j]? = some d) (hu : Try.prog.underlying t = some (.slice e)) (hb : 1 ≤ Try.prog.bytesOf e) {α : Type} {l : List α}
    (hl : l = [] ∨ ∃ (a s : List (DataW H)), d = .slice a s ∧ l.length = a.length) : l.length ≤ 140737488351232 := by
  rcases hl with rfl | ⟨a, s, rfl, hl⟩
  · simp
  · have h1 := sized_slice h ht hd hu
    rw [reach_eq] at h1
    have h2 : a.length * 1 ≤ (a.length + s.length) * Try.prog.bytesOf e := Nat.mul_le_mul (by omega) hb
    omega
theorem cellsInt : Try.prog.cellsOf 3 = 1 := by kernel_rfl
theorem cellsArr2 : Try.prog.cellsOf 37 = 2 := by kernel_rfl
/-- what each of two cells of an array reads as -/
theorem two_read {H : Type} {enc : TypeId × Value → H} {W : World} {m : Nat} {c0 c1 : Value} {x : DataW H × List MemPlace} (h : DataW.trod enc Try.prog W 0 (fun _ => true) true (m + 1) 37 [c0, c1] = some x) :
    (∃ y, DataW.trod enc Try.prog W 0 (fun _ => true) true m 3 [c0] = some y) ∧ ∃ y, DataW.trod enc Try.prog W 0 (fun _ => true) true m 3 [c1] = some y := by
  rw [DataW.trod_step] at h
  unfold DataW.trodStep at h
  simp only [Try.underlying37] at h
  split at h
  · rw [Option.map_eq_some_iff] at h
    obtain ⟨ys, hy, _⟩ := h
    rw [show List.range 2 = 0 :: [1] from rfl, List.mapM_cons] at hy
    simp only [bind, Option.bind_eq_some_iff, List.mapM_cons] at hy
    obtain ⟨y0, h0, z, ⟨y1, h1, _⟩, _⟩ := hy
    exact ⟨⟨y0, by simpa [cellsInt] using h0⟩, ⟨y1, by simpa [cellsInt] using h1⟩⟩
  · cases h
theorem two_of {α : Type} (cs : Array α) (h : cs.size = 2) : ∃ a b, cs = #[a, b] := by
  obtain ⟨l⟩ := cs
  match l, h with
  | [a, b], _ => exact ⟨a, b, rfl⟩
/-- an array of two numbers -/
theorem two_of_arg {H : Type} {enc : TypeId × Value → H} {W : World} {base : Nat} {v : Value} {d : DataW H} {p : List MemPlace}
    (hv : Value.okWide Try.prog W .any base 37 v) (h : DataW.Trod enc Try.prog W 0 (fun _ => true) true 37 v d p) :
    ∃ a b : Int, v = .agg #[.int .i64 a, .int .i64 b] := by
  obtain ⟨cs, rfl, hsz, _⟩ : ∃ cs, v = .agg cs ∧ cs.size = Try.prog.cellsOf 37 ∧ Row.okWide Try.prog W .any base 37 cs := by
    simpa [Value.okWide, Try.underlying37] using hv
  rw [cellsArr2] at hsz
  obtain ⟨c0, c1, rfl⟩ := two_of cs hsz
  obtain ⟨fuel, hf⟩ := h
  cases fuel with
  | zero => simp [DataW.trod] at hf
  | succ m =>
  obtain ⟨⟨y0, hy0⟩, y1, hy1⟩ := two_read hf
  obtain ⟨x0, e0, rfl, w0⟩ := DataW.trod_int Try.underlying3 hy0
  obtain ⟨x1, e1, rfl, w1⟩ := DataW.trod_int Try.underlying3 hy1
  simp at e0 e1
  subst e0 e1
  exact ⟨_, _, rfl⟩
end Go.Proofs.Ytcpdgkjelghlnaa
