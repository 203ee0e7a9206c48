/-
  Shaken: what the claims of this seat need of this text. No condition.
-/
import Derived.Test.YtoaklmceejeblaaGreatSkArg
import Derived.ChangeSame
namespace Go.Proofs.YtoaklmceejeblaaGreat
open Go.ChangeShapes Go.WideShapes Go.ChangeAt Go.RowKit Go.Joins Go.Deep
set_option linter.unusedVariables false
set_option linter.unusedSimpArgs false
set_option maxRecDepth 100000
def LenL {H α : Type} (l : List α) (d : DataW H) : Prop := l = [] ∨ ∃ (a s : List (DataW H)), d = .slice a s ∧ l.length = a.length
theorem LenL.le {H α : Type} {l : List α} {d : DataW H} (hl : LenL l d) {t e : TypeId} (hu : Tryz.prog.underlying t = some (.slice e)) (hb : 1 ≤ Tryz.prog.bytesOf e) (hw : ∀ n ∈ d.weights Tryz.prog t, n ≤ reachBytes) : l.length ≤ 140737488351232 := by
  rcases hl with rfl | ⟨a, s, rfl, hl⟩
  · simp
  · have h1 := hw ((a.length + s.length) * Tryz.prog.bytesOf e) (by simp [DataW.weights, hu])
    rw [show reachBytes = 140737488351232 from rfl] at h1
    have h2 : a.length * 1 ≤ (a.length + s.length) * Tryz.prog.bytesOf e := Nat.mul_le_mul (by omega) hb
    omega
theorem bytesU6416 : Tryz.prog.bytesOf 56 = 8 := by kernel_rfl
theorem bytesInt16 : Tryz.prog.bytesOf 3 = 8 := by kernel_rfl
theorem bytesVal16 : 1 ≤ Tryz.prog.bytesOf 35 := of_decide_eq_true (by kernel_rfl)
section
variable {H : Type} {enc : TypeId × Value → H} {W : World}
theorem ints_cellL {m : Nat} {v : Value} {y : DataW H × List MemPlace} (h : DataW.trod enc Tryz.prog W 0 (fun _ => true) true m 27 [v] = some y) :
    ∃ l : List Int, Reads W v (icells l) ∧ (∀ x ∈ l, in16 x) ∧ LenL l y.1 := by
  rcases open_ints Tryz.underlying27 Tryz.underlying3 (by kernel_rfl) h with ⟨hcs, _⟩ | ⟨x, len0, cap0, zs, hcs, _, hl, hm, hz, hx, hcell, hwz⟩
  · simp at hcs
    subst hcs
    exact ⟨[], Reads.nil_ _ 0, by simp, .inl rfl⟩
  · simp at hcs
    subst hcs
    have hz' : zs.length = cap0 := by simpa using hz
    have hlen : (zs.take len0).length = len0 := by rw [List.length_take]; omega
    refine ⟨zs.take len0, ?_, fun z hz => wf_i64 (hwz z (List.mem_of_mem_take hz)), .inr ⟨_, _, by rw [hx], by simp [lits]⟩⟩
    refine ⟨some x, cap0, by rw [icells_length, hlen], by rw [icells_length, hlen]; exact hl, fun hpos => ?_⟩
    rw [icells_length, hlen] at hpos
    obtain ⟨b, off, spot⟩ := x
    have hc := hcell 0 (by omega)
    have hspot : spot = none := by simpa [Addr.add] using World.cell?_spot hc
    subst hspot
    refine ⟨b, off, rfl, fun j hj => ?_⟩
    rw [icells_length, hlen] at hj
    have h1 := hcell j (by omega)
    rw [Addr.add_lit] at h1
    have hjz : j < zs.length := by omega
    rw [h1, icells_get (by rw [hlen]; exact hj), List.getElem_take, List.getD_eq_getElem?_getD, List.getElem?_eq_getElem hjz]
    rfl
theorem words_cellL {m : Nat} {v : Value} {y : DataW H × List MemPlace} (h : DataW.trod enc Tryz.prog W 0 (fun _ => true) true m 26 [v] = some y) :
    ∃ l : List Nat, IsW W v l ∧ U64 l ∧ LenL l y.1 := by
  rcases open_ints Tryz.underlying26 Tryz.underlying56 (by kernel_rfl) h with ⟨hcs, _⟩ | ⟨x, l, c, zs, hcs, _, hl, hm, hz, hx, hcell, hwz⟩
  · simp at hcs
    subst hcs
    exact ⟨[], by unfold IsW; exact Reads.nil_ _ 0, by simp [U64], .inl rfl⟩
  · simp at hcs
    subst hcs
    have hz' : zs.length = c := by simpa using hz
    obtain ⟨hr, hl2⟩ := reads_of_words (a := some x) (.inr ⟨_, rfl, hl, hm, by simpa using hz, hcell, hwz⟩)
    refine ⟨(toWords (zs.take l)).map UInt64.toNat, ?_, U64_words _, .inr ⟨_, _, by rw [hx], by rw [List.length_map, hl2]; simp [lits, hz']; omega⟩⟩
    unfold IsW
    rw [← wcells_words]
    exact hr
theorem vals_cellL {fuel : Nat} {v : Value} {y : DataW H × List MemPlace} (hf : DataW.trod enc Tryz.prog W 0 (fun _ => true) true fuel 22 [v] = some y) :
    ∃ l : List Val, ReadsV W v l ∧ (∀ x ∈ l, inV x) ∧ LenL l y.1 := by
  rcases open_slice Tryz.underlying22 hf with ⟨hcs, _⟩ | ⟨a, len0, cap0, m, n, D, Pl, hcs, _, hl, hm, hmm, hx, hel⟩
  · simp at hcs
    subst hcs
    exact ⟨[], ⟨none, 0, rfl, Nat.le_refl _, fun h => absurd h (by simp)⟩, by simp, .inl rfl⟩
  · simp at hcs
    subst hcs
    simp only [if_true] at hmm
    subst hmm
    rw [cellsVal] at hel
    have hone : ∀ i, i < len0 → ∃ x : Val, W.cell? (a.add (i * 3)) = some (.int .i64 x.k) ∧ W.cell? ((a.add (i * 3)).add 1) = some (.int .i64 x.n) ∧ W.cell? ((a.add (i * 3)).add 2) = some (.string x.t) ∧ inV x := by
      intro i hi
      obtain ⟨cs', h1, h2⟩ := hel i (by omega)
      obtain ⟨_, hlen, hcell⟩ := World.cells?_some h1
      obtain ⟨y0, y1, y2, k, _, _, hy0, hy1, hy2⟩ := trod_struct3 Tryz.underlying35 h2
      match cs', hlen with
      | [c0, c1, c2], _ =>
        simp only [cellsInt, cellsI64, cellsStr] at hy0 hy1 hy2
        obtain ⟨u0, e0, _, wa⟩ := DataW.trod_int Tryz.underlying3 hy0
        obtain ⟨u1, e1, _, wb⟩ := DataW.trod_int Tryz.underlying2 hy1
        obtain ⟨s, e2, _, ws⟩ := DataW.trod_string Tryz.underlying9 hy2
        simp at e0 e1 e2
        subst e0 e1 e2
        have q0 := hcell 0 (by omega)
        have q1 := hcell 1 (by omega)
        have q2 := hcell 2 (by omega)
        refine ⟨⟨u0, u1, s⟩, ?_, q1, q2, wf_i64 wa, wf_i64 wb⟩
        simpa [Addr.add] using q0
    have : Inhabited Val := ⟨⟨0, 0, ⟨#[]⟩⟩⟩
    obtain ⟨X, hX⟩ := choose_lt hone
    have hlen : ((List.range len0).map X).length = len0 := by simp
    refine ⟨(List.range len0).map X, ⟨some a, m, by rw [hlen], by rw [hlen]; exact hl, fun hpos => ?_⟩, ?_, .inr ⟨_, _, by rw [hx], by simp⟩⟩
    · rw [hlen] at hpos
      obtain ⟨h1, _⟩ := hX 0 hpos
      obtain ⟨b, off, spot⟩ := a
      have hspot : spot = none := by simpa [Addr.add] using World.cell?_spot h1
      subst hspot
      refine ⟨b, off, rfl, fun j x hj => ?_⟩
      have hjl : j < len0 := by
        rcases Nat.lt_or_ge j len0 with h | h
        · exact h
        · rw [List.getElem?_eq_none (by rw [hlen]; exact h)] at hj; cases hj
      have hxj : x = X j := by
        rw [List.getElem?_map, List.getElem?_range hjl] at hj
        simpa using hj.symm
      subst hxj
      obtain ⟨q0, q1, q2, _⟩ := hX j hjl
      rw [Addr.add_lit] at q0
      rw [Addr.add_lit, Addr.add_lit] at q1 q2
      exact ⟨q0, q1, q2⟩
    · intro x hx
      obtain ⟨i, hi, rfl⟩ := List.mem_map.1 hx
      exact (hX i (List.mem_range.1 hi)).2.2.2
theorem sk_of_argL {base : Nat} {v : Value} {d : DataW H} {p : List MemPlace}
    (hv : Value.okWide Tryz.prog W .any base 29 v) (h : DataW.Trod enc Tryz.prog W 0 (fun _ => true) true 29 v d p) (hw : ∀ n ∈ d.weights Tryz.prog 29, n ≤ reachBytes) :
    ∃ s : Sk, IsK W v s ∧ in16 s.rows ∧ in16 s.nulls ∧ U64 s.hs ∧ (∀ x ∈ s.cm, in16 x) ∧ (∀ x ∈ s.fs, inV x) ∧ (∀ x ∈ s.rk, in16 x) ∧ (s.hs.length ≤ 140737488351232 ∧ s.cm.length ≤ 140737488351232 ∧ s.fs.length ≤ 140737488351232 ∧ s.rk.length ≤ 140737488351232) := by
  obtain ⟨cs, rfl, hsz⟩ := okWide_struct Tryz.underlying29 hv
  obtain ⟨c0, c1, c2, c3, c4, c5, c6, rfl⟩ := array7 (hsz.trans cellsSk16)
  obtain ⟨fuel, hf⟩ := h
  obtain ⟨xs, n, _, HD, hl, hlen, hff⟩ := DataW.trod_struct Tryz.underlying29 hf
  match xs, hlen with
  | [y0, y1, y2, y3, y4, y5, y6], _ =>
    obtain ⟨hd1, -⟩ := Prod.mk.inj HD
    subst hd1
    simp only [DataW.weights, Tryz.underlying29, List.map_cons, List.map_nil, DataW.weightsEach, List.mem_append] at hw
    have g0 : DataW.trod enc Tryz.prog W 0 (fun _ => true) true n 3 [c0] = some y0 := by simpa [Value.cells, cellsInt] using hff 0 _ rfl
    have g1 : DataW.trod enc Tryz.prog W 0 (fun _ => true) true n 3 [c1] = some y1 := by simpa [Value.cells, cellsInt] using hff 1 _ rfl
    have g2 : DataW.trod enc Tryz.prog W 0 (fun _ => true) true n 26 [c2] = some y2 := by simpa [Value.cells, cellsWs16] using hff 2 _ rfl
    have g3 : DataW.trod enc Tryz.prog W 0 (fun _ => true) true n 4 [c3] = some y3 := by simpa [Value.cells, cellsBool16] using hff 3 _ rfl
    have g4 : DataW.trod enc Tryz.prog W 0 (fun _ => true) true n 27 [c4] = some y4 := by simpa [Value.cells, cellsIs16] using hff 4 _ rfl
    have g5 : DataW.trod enc Tryz.prog W 0 (fun _ => true) true n 22 [c5] = some y5 := by simpa [Value.cells, cellsVs16] using hff 5 _ rfl
    have g6 : DataW.trod enc Tryz.prog W 0 (fun _ => true) true n 27 [c6] = some y6 := by simpa [Value.cells, cellsIs16] using hff 6 _ rfl
    obtain ⟨a0, e0, _, w0⟩ := DataW.trod_int Tryz.underlying3 g0
    obtain ⟨a1, e1, _, w1⟩ := DataW.trod_int Tryz.underlying3 g1
    obtain ⟨b3, e3, _⟩ := DataW.trod_bool Tryz.underlying4 g3
    simp at e0 e1 e3
    subst e0 e1 e3
    obtain ⟨hs, r2, k2, z2⟩ := words_cellL g2
    obtain ⟨cm, r4, k4, z4⟩ := ints_cellL g4
    obtain ⟨fs, r5, k5, z5⟩ := vals_cellL g5
    obtain ⟨rk, r6, k6, z6⟩ := ints_cellL g6
    obtain ⟨A2, q2, rfl⟩ := r2.slice_
    obtain ⟨A4, q4, h4, -⟩ := id r4
    obtain ⟨A5, q5, h5, -⟩ := id r5
    obtain ⟨A6, q6, h6, -⟩ := id r6
    rw [icells_length] at h4 h6
    subst h4 h5 h6
    exact ⟨⟨a0, a1, hs, b3, cm, fs, rk⟩, ⟨A2, A4, A5, A6, q2, q4, q5, q6, rfl, r2, r4, r5, r6⟩, wf_i64 w0, wf_i64 w1, k2, k4, k5, k6, z2.le Tryz.underlying26 (by rw [bytesU6416]; decide) (fun n hn => hw n (.inr (.inr (.inl hn)))), z4.le Tryz.underlying27 (by rw [bytesInt16]; decide) (fun n hn => hw n (.inr (.inr (.inr (.inr (.inl hn)))))), z5.le Tryz.underlying22 bytesVal16 (fun n hn => hw n (.inr (.inr (.inr (.inr (.inr (.inl hn))))))), z6.le Tryz.underlying27 (by rw [bytesInt16]; decide) (fun n hn => hw n (.inr (.inr (.inr (.inr (.inr (.inr (.inl hn))))))))⟩
theorem cellsStrL : Tryz.prog.cellsOf 9 = 1 := by kernel_rfl
theorem cellsPredL : Tryz.prog.cellsOf 37 = 5 := by kernel_rfl
theorem cellsVal12L : Tryz.prog.cellsOf 35 = 3 := by kernel_rfl
theorem cellsInt12L : Tryz.prog.cellsOf 3 = 1 := by kernel_rfl
theorem cellsI6412L : Tryz.prog.cellsOf 2 = 1 := by kernel_rfl
theorem array5L {α : Type} {cs : Array α} (h : cs.size = 5) : ∃ c0 c1 c2 c3 c4, cs = #[c0, c1, c2, c3, c4] := by
  obtain ⟨l⟩ := cs
  match l, h with
  | [c0, c1, c2, c3, c4], _ => exact ⟨c0, c1, c2, c3, c4, rfl⟩
theorem pred_of_argL {base : Nat} {v : Value} {d : DataW H} {p : List MemPlace}
    (hv : Value.okWide Tryz.prog W .any base 37 v) (h : DataW.Trod enc Tryz.prog W 0 (fun _ => true) true 37 v d p) :
    ∃ (col op k n : Int) (t : ByteArray), v = .agg #[.int .i64 col, .int .i64 op, .int .i64 k, .int .i64 n, .string t] ∧ (Lit.int .i64 col).wf = true ∧ (Lit.int .i64 op).wf = true := by
  obtain ⟨cs, rfl, hsz⟩ := okWide_struct Tryz.underlying37 hv
  obtain ⟨c0, c1, c2, c3, c4, rfl⟩ := array5L (hsz.trans cellsPredL)
  obtain ⟨fuel, hf⟩ := h
  obtain ⟨y0, y1, y2, m, _, _, h0, h1, h2⟩ := trod_struct3 Tryz.underlying37 hf
  have g0 : DataW.trod enc Tryz.prog W 0 (fun _ => true) true m 3 [c0] = some y0 := by simpa [Value.cells, cellsInt12L] using h0
  have g1 : DataW.trod enc Tryz.prog W 0 (fun _ => true) true m 3 [c1] = some y1 := by simpa [Value.cells, cellsInt12L] using h1
  have g2 : DataW.trod enc Tryz.prog W 0 (fun _ => true) true m 35 [c2, c3, c4] = some y2 := by simpa [Value.cells, cellsVal12L] using h2
  obtain ⟨z0, z1, z2, q, _, _, k0, k1, k2⟩ := trod_struct3 Tryz.underlying35 g2
  have j0 : DataW.trod enc Tryz.prog W 0 (fun _ => true) true q 3 [c2] = some z0 := by simpa [cellsInt12L] using k0
  have j1 : DataW.trod enc Tryz.prog W 0 (fun _ => true) true q 2 [c3] = some z1 := by simpa [cellsI6412L] using k1
  have j2 : DataW.trod enc Tryz.prog W 0 (fun _ => true) true q 9 [c4] = some z2 := by simpa [cellsStrL] using k2
  obtain ⟨a0, e0, _, w0⟩ := DataW.trod_int Tryz.underlying3 g0
  obtain ⟨a1, e1, _, w1⟩ := DataW.trod_int Tryz.underlying3 g1
  obtain ⟨a2, e2, _, w2⟩ := DataW.trod_int Tryz.underlying3 j0
  obtain ⟨a3, e3, _, w3⟩ := DataW.trod_int Tryz.underlying2 j1
  obtain ⟨a4, e4, _, w4⟩ := DataW.trod_string Tryz.underlying9 j2
  simp at e0 e1 e2 e3 e4
  subst e0 e1 e2 e3 e4
  exact ⟨a0, a1, a2, a3, a4, rfl, w0, w1⟩
theorem weights_atL {ts : List TypeId} {ds : List (DataW H)} (h : (DataW.weightsEach Tryz.prog ts ds).all (· ≤ reachBytes) = true) {j : Nat} {t : TypeId} {d : DataW H} (ht : ts[j]? = some t) (hd : ds[j]? = some d) : ∀ n ∈ d.weights Tryz.prog t, n ≤ reachBytes := fun n hn => by
  have := List.all_eq_true.1 h _ (DataW.weights_mem_each ht hd n hn)
  simpa using this
end
end Go.Proofs.YtoaklmceejeblaaGreat
