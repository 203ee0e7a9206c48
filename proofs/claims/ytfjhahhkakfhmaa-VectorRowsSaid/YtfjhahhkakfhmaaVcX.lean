/-
  Shaken: what the claims of this seat need of this text. No condition.
-/
import Derived.Test.YtfjhahhkakfhmaaVecArg
import Derived.Test.YtfjhahhkakfhmaaM9
namespace Go.Proofs.Ytfjhahhkakfhmaa
open Go.ChangeShapes Go.WideShapes Go.ChangeAt Go.RowKit Go.Joins Go.Deep
set_option linter.unusedVariables false
set_option linter.unusedSimpArgs false
set_option maxRecDepth 100000
theorem bytesInt17 : Try.prog.bytesOf 3 = 8 := by kernel_rfl
section
variable {H : Type} {enc : TypeId × Value → H} {W : World}
theorem nints_of_cell {m : Nat} {v : Value} {y : DataW H × List MemPlace} (h : DataW.trod enc Try.prog W 0 (fun _ => true) true m 43 [v] = some y) :
    ∃ l : List Int, IsI W v l ∧ (∀ x ∈ l, frIn x) ∧ LenD l y.1 := by
  rcases open_ints Try.underlying43 Try.underlying3 (by kernel_rfl) h with ⟨hcs, _⟩ | ⟨x, len0, cap0, zs, hcs, _, hl, hm, hz, hx, hcell, hwz⟩
  · simp at hcs
    subst hcs
    exact ⟨[], Reads.nil_ _ 0, by simp, .inl rfl⟩
  · simp at hcs
    subst hcs
    have hz' : zs.length = cap0 := by simpa using hz
    have hlen : (zs.take len0).length = len0 := by rw [List.length_take]; omega
    refine ⟨zs.take len0, ?_, fun z hz => wf_i64 (hwz z (List.mem_of_mem_take hz)), .inr ⟨_, _, by rw [hx], by rw [hlen]; simp [lits]; omega⟩⟩
    refine ⟨some x, cap0, by rw [icells_length, hlen], by rw [icells_length, hlen]; exact hl, fun hpos => ?_⟩
    rw [icells_length, hlen] at hpos
    obtain ⟨b, off, spot⟩ := x
    have hc := hcell 0 (by omega)
    have hspot : spot = none := by simpa [Addr.add] using World.cell?_spot hc
    subst hspot
    refine ⟨b, off, rfl, fun j hj => ?_⟩
    rw [icells_length, hlen] at hj
    have h1 := hcell j (by omega)
    rw [Addr.add_lit] at h1
    have hjz : j < zs.length := by omega
    rw [h1, icells_get (by rw [hlen]; exact hj), List.getElem_take, List.getD_eq_getElem?_getD, List.getElem?_eq_getElem hjz]
    rfl
theorem weightsAll_mem {P : Program} {e : TypeId} {d : DataW H} : ∀ {l : List (DataW H)}, d ∈ l → ∀ n ∈ d.weights P e, n ∈ DataW.weightsAll P e l
  | x :: r, hd, n, hn => by
    rw [DataW.weightsAll]
    rcases List.mem_cons.1 hd with rfl | h
    · exact List.mem_append_left _ hn
    · exact List.mem_append_right _ (weightsAll_mem h n hn)
theorem vec_of_cells {m : Nat} {c0 c1 c2 c3 : Value} {y : DataW H × List MemPlace} (h : DataW.trod enc Try.prog W 0 (fun _ => true) true m 29 [c0, c1, c2, c3] = some y) (hw : ∀ n ∈ y.1.weights Try.prog 29, n ≤ reachBytes) :
    ∃ u : Vec, c0 = .int .i64 u.T ∧ IsV W (.agg #[.int .i64 u.T, c1, c2, c3]) u ∧ FitArg u ∧ frIn u.T ∧ ∀ x ∈ u.is, frIn x := by
  obtain ⟨y0, y1, y2, y3, k, rfl, _, h0, h1, h2, h3⟩ := trod_struct4 Try.underlying29 h
  have g0 : DataW.trod enc Try.prog W 0 (fun _ => true) true k 3 [c0] = some y0 := by simpa [cellsInt12] using h0
  have g1 : DataW.trod enc Try.prog W 0 (fun _ => true) true k 25 [c1] = some y1 := by simpa [show Try.prog.cellsOf 25 = 1 by kernel_rfl] using h1
  have g2 : DataW.trod enc Try.prog W 0 (fun _ => true) true k 26 [c2] = some y2 := by simpa [show Try.prog.cellsOf 26 = 1 by kernel_rfl] using h2
  have g3 : DataW.trod enc Try.prog W 0 (fun _ => true) true k 27 [c3] = some y3 := by simpa [show Try.prog.cellsOf 27 = 1 by kernel_rfl] using h3
  obtain ⟨T, e0, _, wa⟩ := DataW.trod_int Try.underlying3 g0
  simp at e0
  subst e0
  obtain ⟨is, i1, i2, i3⟩ := ints_of_cell g1
  obtain ⟨ts, s1, s2⟩ := strs_of_cell g2
  obtain ⟨ns, n1, n2⟩ := bools_of_cell g3
  simp only [DataW.weights, Try.underlying29, List.map_cons, List.map_nil, DataW.weightsEach, List.mem_append] at hw
  exact ⟨⟨T, is, ts, ns⟩, rfl, ⟨_, _, _, rfl, i1, s1, n1⟩, ⟨i3.le Try.underlying25 (by rw [bytesI64]; decide) (fun n hn => hw n (.inr (.inl hn))),
    s2.le Try.underlying26 (by rw [bytesStr]; decide) (fun n hn => hw n (.inr (.inr (.inl hn)))), n2.le Try.underlying27 (by rw [bytesBool]; decide) (fun n hn => hw n (.inr (.inr (.inr (.inl hn)))))⟩, wf_i64 wa, i2⟩
theorem vecs_of_cell {fuel : Nat} {v : Value} {y : DataW H × List MemPlace} (hf : DataW.trod enc Try.prog W 0 (fun _ => true) true fuel 42 [v] = some y) (hw : ∀ n ∈ y.1.weights Try.prog 42, n ≤ reachBytes) :
    ∃ l : List Vec, IsVs W v l ∧ (∀ x ∈ l, FitArg x ∧ frIn x.T) ∧ LenD l y.1 := by
  rcases open_slice Try.underlying42 hf with ⟨hcs, _⟩ | ⟨a, len, cap, m, n, D, Pl, hcs, _, hl, hm, hmm, hx, hel⟩
  · simp at hcs
    subst hcs
    exact ⟨[], ⟨none, 0, rfl, Nat.le_refl _, fun h => absurd h (by simp)⟩, by simp, .inl rfl⟩
  · simp at hcs
    subst hcs
    simp only [if_true] at hmm
    subst hmm
    rw [cellsVec] at hel
    have hd := congrArg Prod.fst hx
    dsimp only at hd
    rw [hd] at hw
    have hone : ∀ i, i < len → ∃ u : Vec, ∃ p q r : Value, W.cell? (a.add (i * 4)) = some (.int .i64 u.T) ∧ W.cell? ((a.add (i * 4)).add 1) = some p ∧ W.cell? ((a.add (i * 4)).add 2) = some q ∧ W.cell? ((a.add (i * 4)).add 3) = some r ∧ IsV W (.agg #[.int .i64 u.T, p, q, r]) u ∧ FitArg u ∧ frIn u.T := by
      intro i hi
      obtain ⟨cs', h1, h2⟩ := hel i (by omega)
      obtain ⟨_, hlen, hcell⟩ := World.cells?_some h1
      match cs', hlen with
      | [c0, c1, c2, c3], _ =>
        obtain ⟨u, rfl, hu, hfa, hfr, _⟩ := vec_of_cells h2 (fun n hn => hw n (by
          simp only [DataW.weights, Try.underlying42]
          refine List.mem_cons_of_mem _ (List.mem_append_left _ (weightsAll_mem ?_ n hn))
          exact List.mem_map.2 ⟨i, List.mem_range.2 hi, rfl⟩))
        exact ⟨u, c1, c2, c3, by simpa [Addr.add] using hcell 0 (by omega), hcell 1 (by omega), hcell 2 (by omega), hcell 3 (by omega), hu, hfa, hfr⟩
    have : Inhabited Vec := ⟨⟨0, [], [], []⟩⟩
    obtain ⟨X, hX⟩ := choose_lt hone
    have hlen : ((List.range len).map X).length = len := by simp
    refine ⟨(List.range len).map X, ⟨some a, m, by rw [hlen], by rw [hlen]; exact hl, fun hpos => ?_⟩, ?_, .inr ⟨_, _, hd, by simp⟩⟩
    · rw [hlen] at hpos
      obtain ⟨_, _, _, h1, _⟩ := hX 0 hpos
      obtain ⟨b, off, spot⟩ := a
      have hspot : spot = none := by simpa [Addr.add] using World.cell?_spot h1
      subst hspot
      refine ⟨b, off, rfl, fun j x hj => ?_⟩
      have hjl : j < len := by
        rcases Nat.lt_or_ge j len with h | h
        · exact h
        · rw [List.getElem?_eq_none (by rw [hlen]; exact h)] at hj; cases hj
      have hxj : x = X j := by
        rw [List.getElem?_map, List.getElem?_range hjl] at hj
        simpa using hj.symm
      subst hxj
      obtain ⟨p, q, r, q0, q1, q2, q3, hv, _⟩ := hX j hjl
      rw [Addr.add_lit] at q0
      rw [Addr.add_lit, Addr.add_lit] at q1 q2 q3
      exact ⟨p, q, r, q0, q1, q2, q3, hv⟩
    · intro x hx'
      obtain ⟨i, hi, rfl⟩ := List.mem_map.1 hx'
      obtain ⟨_, _, _, _, _, _, _, _, h1, h2⟩ := hX i (List.mem_range.1 hi)
      exact ⟨h1, h2⟩
theorem cellsBat : Try.prog.cellsOf 45 = 4 := by kernel_rfl
theorem bytesVec17 : 1 ≤ Try.prog.bytesOf 29 := by rw [show Try.prog.bytesOf 29 = 80 by kernel_rfl]; omega
theorem bat_of_arg {base : Nat} {v : Value} {d : DataW H} {p : List MemPlace} (hv : Value.okWide Try.prog W .any base 45 v) (h : DataW.Trod enc Try.prog W 0 (fun _ => true) true 45 v d p) (hw : ∀ n ∈ d.weights Try.prog 45, n ≤ reachBytes) :
    ∃ B : Bat, IsB W v B ∧ FitBA' B ∧ frIn B.len ∧ (∀ x ∈ B.cs, frIn x.T) ∧ (∀ i ∈ B.sel, frIn i) := by
  obtain ⟨c0, c1, c2, c3, y0, y1, y2, y3, m, rfl, rfl, _, hy0, hy1, hy2, hy3⟩ := open_agg4 Try.underlying45 (by kernel_rfl) cellsBat hv h
  simp only [DataW.weights, Try.underlying45, List.map_cons, List.map_nil, DataW.weightsEach, List.mem_append] at hw
  obtain ⟨cs, i1, i2, i3⟩ := vecs_of_cell hy0 (fun n hn => hw n (.inl hn))
  obtain ⟨L, e1, _, wl⟩ := DataW.trod_int Try.underlying3 hy1
  obtain ⟨b, e2, _⟩ := DataW.trod_bool Try.underlying4 hy2
  obtain ⟨sel, s1, s2, s3⟩ := nints_of_cell hy3
  simp at e1 e2
  subst e1 e2
  exact ⟨⟨cs, L, b, sel⟩, ⟨_, _, rfl, i1, s1⟩, ⟨i3.le Try.underlying42 bytesVec17 (fun n hn => hw n (.inl hn)), s3.le Try.underlying43 (by rw [bytesInt17]; decide) (fun n hn => hw n (.inr (.inr (.inr (.inl hn))))), fun x hx => (i2 x hx).1⟩, wf_i64 wl, fun x hx => (i2 x hx).2, s2⟩
end
end Go.Proofs.Ytfjhahhkakfhmaa
