/-
  A slice of api.Value that reads as a list; the reference's ValidRow, CompareRows. Nothing that was there is changed.
-/
import Derived.Test.YtepnegbopnepfaaDoorVal2
import Derived.Test.YtepnegbopnepfaaDoorLoose
namespace Go.Proofs.YtepnegbopnepfaaDoor
open Go.RowKit
set_option linter.unusedVariables false
set_option linter.unusedSimpArgs false

structure Val where
  k : Int
  n : Int
  t : ByteArray
def Val.cells (x : Val) : List Value := [.int .i64 x.k, .int .i64 x.n, .string x.t]
def Val.v (x : Val) : Value := .agg #[.int .i64 x.k, .int .i64 x.n, .string x.t]
/-- v is a slice of values that reads as l -/
def ReadsV (w : World) (v : Value) (l : List Val) : Prop :=
  ∃ A c, v = .slice A l.length c ∧ l.length ≤ c ∧ (0 < l.length → ∃ b off, A = some ⟨b, off, none⟩ ∧ ∀ j x, l[j]? = some x →
    w.cell? ⟨b, off + j * 3, none⟩ = some (.int .i64 x.k) ∧ w.cell? ⟨b, off + j * 3 + 1, none⟩ = some (.int .i64 x.n) ∧ w.cell? ⟨b, off + j * 3 + 2, none⟩ = some (.string x.t))
theorem ReadsV.grow {w w' : World} {v : Value} {l : List Val} (h : ReadsV w v l) (hb : Grows w w') : ReadsV w' v l := by
  obtain ⟨A, c, rfl, hle, hc⟩ := h
  refine ⟨A, c, rfl, hle, fun hl => ?_⟩
  obtain ⟨b, off, rfl, hcell⟩ := hc hl
  refine ⟨b, off, rfl, fun j x hj => ?_⟩
  obtain ⟨h1, h2, h3⟩ := hcell j x hj
  exact ⟨(hb.cell (World.block_lt_of_cell? w _ h1)).trans h1, (hb.cell (World.block_lt_of_cell? w _ h2)).trans h2, (hb.cell (World.block_lt_of_cell? w _ h3)).trans h3⟩
def validL (l : List Val) : Bool := l.all fun x => validV x.k x.n x.t
def VRowRel (w : World) (l : List Val) (i : Value) (wr : World) : Prop := ∃ j : Nat, j ≤ l.length ∧ i = .int .i64 (j : Int) ∧ validL (l.take j) = true ∧ Grows w wr
theorem validL_step {l : List Val} {j : Nat} {x : Val} (h : l[j]? = some x) : validL (l.take (j + 1)) = (validL (l.take j) && validV x.k x.n x.t) := by
  unfold validL
  rw [List.take_add_one, h]
  simp
theorem validL_not {l : List Val} {j : Nat} {x : Val} (h : l[j]? = some x) (hv : validV x.k x.n x.t = false) : validL l = false := by
  unfold validL
  rw [List.all_eq_false]
  exact ⟨x, List.mem_of_getElem? h, by simp [hv]⟩

theorem rvrow_any (v : Value) (l : List Val) (w : World) (hr : ReadsV w v l) (hl : l.length ≤ 9223372036854775806) : Calls Tryd.prog 12 #[v] w fun e w' => e = .returned (.bool (validL l)) ∧ Grows w w' := by
  have HR := hidden hr
  obtain ⟨A, c, rfl, hle, hxx⟩ := hr
  clear hxx
  go_enter Tryd.func12, Tryd.ntmps12
  go_wp2_with fail
  go_loopw [3] (fun i wr => VRowRel w l i wr) (fun i _ => l.length - (intOf i).toNat)
  case atStart => exact ⟨0, Nat.zero_le _, rfl, rfl, Below.refl _ _⟩
  case round =>
    obtain ⟨j, hj, rfl, hv, hb⟩ := hrel
    have HV := hidden hv
    have HB := hidden hb
    clear hv hb
    by_cases hlt : j < l.length
    · obtain ⟨A', c', he, _, hcell⟩ := HR.out.grow HB.out
      injection he with e1 e2 e3
      subst e1 e3
      obtain ⟨b, off, rfl, hcell2⟩ := hcell (by omega)
      obtain ⟨x, hx⟩ : ∃ x, l[j]? = some x := ⟨_, List.getElem?_eq_getElem hlt⟩
      obtain ⟨c1, c2, c3⟩ := hcell2 j x hx
      have HX := hidden hx
      have hj0 : (0 : Int) ≤ (j : Int) := by omega
      have hj1 : (j : Int) < (l.length : Int) := by omega
      have hd : decide (j < l.length) = true := by simpa using hlt
      clear hcell hcell2 e2 hx
      have HRV := hidden (fun w => rvvalid_any x.k x.n x.t w)
      go_wp2_with fail
      refine (HRV.out _).mono ?_
      rintro e w2 ⟨rfl, g2⟩
      have HB2 := hidden (HB.out.of_below g2)
      clear g2 c1 c2 c3
      cases hvx : validV x.k x.n x.t
      · have HN := hidden (validL_not HX.out hvx)
        clear hvx
        go_wp2_with fail
        go_ret
        exact ⟨retB HN.out.symm, HB2.out⟩
      · have HS := hidden (validL_step HX.out)
        have HVX := hidden hvx
        clear hvx
        go_wp2_with fail
        go_roundw
        case rel => exact ⟨j + 1, by omega, by go_num, by rw [HS.out, HV.out, HVX.out]; rfl, HB2.out⟩
        case measure => simp [intOf]; omega
    · have hd : decide (j < l.length) = false := by simpa using hlt
      have HE := hidden (show validL l = true by have h := HV.out; rwa [List.take_of_length_le (by omega)] at h)
      clear hlt
      go_wp2_with fail
      go_ret
      exact ⟨retB HE.out.symm, HB.out⟩
def cmpR : List Val → List Val → Int
  | [], [] => 0
  | [], _ :: _ => -1
  | _ :: _, [] => 1
  | x :: l, y :: m => if cmpV x.k x.n x.t y.k y.n y.t = 0 then cmpR l m else cmpV x.k x.n x.t y.k y.n y.t
theorem cmpR_drop {l m : List Val} {j : Nat} {x y : Val} (hx : l[j]? = some x) (hy : m[j]? = some y) :
    cmpR (l.drop j) (m.drop j) = if cmpV x.k x.n x.t y.k y.n y.t = 0 then cmpR (l.drop (j + 1)) (m.drop (j + 1)) else cmpV x.k x.n x.t y.k y.n y.t := by
  obtain ⟨h1, h2⟩ := List.getElem?_eq_some_iff.1 hx
  obtain ⟨h3, h4⟩ := List.getElem?_eq_some_iff.1 hy
  rw [List.drop_eq_getElem_cons h1, List.drop_eq_getElem_cons h3, h2, h4, cmpR]
theorem cmpR_end {l m : List Val} {j : Nat} (h : ¬ (j < l.length ∧ j < m.length)) (hj : j ≤ l.length ∧ j ≤ m.length) : cmpR (l.drop j) (m.drop j) = sgnV (decide (l.length < m.length)) (decide (m.length < l.length)) := by
  rcases Nat.lt_or_ge j l.length with h1 | h1
  · have h2 : m.length = j := by omega
    rw [List.drop_of_length_le (Nat.le_of_eq h2), List.drop_eq_getElem_cons h1, cmpR]
    have h3 : ¬ l.length < m.length := by omega
    have h4 : m.length < l.length := by omega
    simp [sgnV, h3, h4]
  · have h2 : l.length = j := by omega
    rw [List.drop_of_length_le (Nat.le_of_eq h2)]
    rcases Nat.lt_or_ge j m.length with h5 | h5
    · rw [List.drop_eq_getElem_cons h5, cmpR]
      have h3 : l.length < m.length := by omega
      simp [sgnV, h3]
    · rw [List.drop_of_length_le h5, cmpR]
      have h3 : ¬ l.length < m.length := by omega
      have h4 : ¬ m.length < l.length := by omega
      simp [sgnV, h3, h4]
def CRowRel (w : World) (l m : List Val) (i _c : Value) (wr : World) : Prop := ∃ j : Nat, j ≤ l.length ∧ j ≤ m.length ∧ i = .int .i64 (j : Int) ∧ cmpR (l.drop j) (m.drop j) = cmpR l m ∧ Grows w wr
def IntVR (n : Int) (v : Value) (_ : World) : Prop := v = .int .i64 n
theorem int_loose {f : FuncId} {args : Array Value} {w : World} {n : Int} (h : Calls Tryd.prog f args w fun e w' => e = .returned (.int .i64 n) ∧ Grows w w') : Calls Tryd.prog f args w fun e w' => ∃ v, e = .returned v ∧ Grows w w' ∧ IntVR n v w' :=
  h.mono fun _ _ ⟨he, hw⟩ => ⟨_, he, hw, rfl⟩
def crowRs (n : Int) : Loose := fun i =>
  match i with
  | 8 => some (IntVR n)
  | _ => none
theorem crowRs_lasts (n : Int) : (crowRs n).lasts := by
  intro i R h
  unfold crowRs at h
  split at h <;> first
    | (injection h with h; subst h; exact fun _ _ _ h _ => h)
    | (cases h)
end Go.Proofs.YtepnegbopnepfaaDoor
