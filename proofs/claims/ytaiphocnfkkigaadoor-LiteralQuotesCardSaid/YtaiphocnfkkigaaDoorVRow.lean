/-
  A slice of api.Value that reads as a list; the reference's ValidRow, CompareRows. Nothing that was there is changed.
-/
import Derived.Test.YtaiphocnfkkigaaDoorVal2
import Derived.Test.YtaiphocnfkkigaaDoorLoose
namespace Go.Proofs.YtaiphocnfkkigaaDoor
open Go.RowKit
set_option linter.unusedVariables false
set_option linter.unusedSimpArgs false

structure Val where
  k : Int
  n : Int
  t : ByteArray
def Val.cells (x : Val) : List Value := [.int .i64 x.k, .int .i64 x.n, .string x.t]
def Val.v (x : Val) : Value := .agg #[.int .i64 x.k, .int .i64 x.n, .string x.t]
/-- v is a slice of values that reads as l -/
def ReadsV (w : World) (v : Value) (l : List Val) : Prop :=
  ∃ A c, v = .slice A l.length c ∧ l.length ≤ c ∧ (0 < l.length → ∃ b off, A = some ⟨b, off, none⟩ ∧ ∀ j x, l[j]? = some x →
    w.cell? ⟨b, off + j * 3, none⟩ = some (.int .i64 x.k) ∧ w.cell? ⟨b, off + j * 3 + 1, none⟩ = some (.int .i64 x.n) ∧ w.cell? ⟨b, off + j * 3 + 2, none⟩ = some (.string x.t))
theorem ReadsV.grow {w w' : World} {v : Value} {l : List Val} (h : ReadsV w v l) (hb : Grows w w') : ReadsV w' v l := by
  obtain ⟨A, c, rfl, hle, hc⟩ := h
  refine ⟨A, c, rfl, hle, fun hl => ?_⟩
  obtain ⟨b, off, rfl, hcell⟩ := hc hl
  refine ⟨b, off, rfl, fun j x hj => ?_⟩
  obtain ⟨h1, h2, h3⟩ := hcell j x hj
  exact ⟨(hb.cell (World.block_lt_of_cell? w _ h1)).trans h1, (hb.cell (World.block_lt_of_cell? w _ h2)).trans h2, (hb.cell (World.block_lt_of_cell? w _ h3)).trans h3⟩
def validL (l : List Val) : Bool := l.all fun x => validV x.k x.n x.t
def VRowRel (w : World) (l : List Val) (i : Value) (wr : World) : Prop := ∃ j : Nat, j ≤ l.length ∧ i = .int .i64 (j : Int) ∧ validL (l.take j) = true ∧ Grows w wr
theorem validL_step {l : List Val} {j : Nat} {x : Val} (h : l[j]? = some x) : validL (l.take (j + 1)) = (validL (l.take j) && validV x.k x.n x.t) := by
  unfold validL
  rw [List.take_add_one, h]
  simp
theorem validL_not {l : List Val} {j : Nat} {x : Val} (h : l[j]? = some x) (hv : validV x.k x.n x.t = false) : validL l = false := by
  unfold validL
  rw [List.all_eq_false]
  exact ⟨x, List.mem_of_getElem? h, by simp [hv]⟩

def cmpR : List Val → List Val → Int
  | [], [] => 0
  | [], _ :: _ => -1
  | _ :: _, [] => 1
  | x :: l, y :: m => if cmpV x.k x.n x.t y.k y.n y.t = 0 then cmpR l m else cmpV x.k x.n x.t y.k y.n y.t
theorem cmpR_drop {l m : List Val} {j : Nat} {x y : Val} (hx : l[j]? = some x) (hy : m[j]? = some y) :
    cmpR (l.drop j) (m.drop j) = if cmpV x.k x.n x.t y.k y.n y.t = 0 then cmpR (l.drop (j + 1)) (m.drop (j + 1)) else cmpV x.k x.n x.t y.k y.n y.t := by
  obtain ⟨h1, h2⟩ := List.getElem?_eq_some_iff.1 hx
  obtain ⟨h3, h4⟩ := List.getElem?_eq_some_iff.1 hy
  rw [List.drop_eq_getElem_cons h1, List.drop_eq_getElem_cons h3, h2, h4, cmpR]
theorem cmpR_end {l m : List Val} {j : Nat} (h : ¬ (j < l.length ∧ j < m.length)) (hj : j ≤ l.length ∧ j ≤ m.length) : cmpR (l.drop j) (m.drop j) = sgnV (decide (l.length < m.length)) (decide (m.length < l.length)) := by
  rcases Nat.lt_or_ge j l.length with h1 | h1
  · have h2 : m.length = j := by omega
    rw [List.drop_of_length_le (Nat.le_of_eq h2), List.drop_eq_getElem_cons h1, cmpR]
    have h3 : ¬ l.length < m.length := by omega
    have h4 : m.length < l.length := by omega
    simp [sgnV, h3, h4]
  · have h2 : l.length = j := by omega
    rw [List.drop_of_length_le (Nat.le_of_eq h2)]
    rcases Nat.lt_or_ge j m.length with h5 | h5
    · rw [List.drop_eq_getElem_cons h5, cmpR]
      have h3 : l.length < m.length := by omega
      simp [sgnV, h3]
    · rw [List.drop_of_length_le h5, cmpR]
      have h3 : ¬ l.length < m.length := by omega
      have h4 : ¬ m.length < l.length := by omega
      simp [sgnV, h3, h4]
def CRowRel (w : World) (l m : List Val) (i _c : Value) (wr : World) : Prop := ∃ j : Nat, j ≤ l.length ∧ j ≤ m.length ∧ i = .int .i64 (j : Int) ∧ cmpR (l.drop j) (m.drop j) = cmpR l m ∧ Grows w wr
def IntVR (n : Int) (v : Value) (_ : World) : Prop := v = .int .i64 n
theorem int_loose {f : FuncId} {args : Array Value} {w : World} {n : Int} (h : Calls Tryd.prog f args w fun e w' => e = .returned (.int .i64 n) ∧ Grows w w') : Calls Tryd.prog f args w fun e w' => ∃ v, e = .returned v ∧ Grows w w' ∧ IntVR n v w' :=
  h.mono fun _ _ ⟨he, hw⟩ => ⟨_, he, hw, rfl⟩
def crowRs (n : Int) : Loose := fun i =>
  match i with
  | 8 => some (IntVR n)
  | _ => none
theorem crowRs_lasts (n : Int) : (crowRs n).lasts := by
  intro i R h
  unfold crowRs at h
  split at h <;> first
    | (injection h with h; subst h; exact fun _ _ _ h _ => h)
    | (cases h)
end Go.Proofs.YtaiphocnfkkigaaDoor
