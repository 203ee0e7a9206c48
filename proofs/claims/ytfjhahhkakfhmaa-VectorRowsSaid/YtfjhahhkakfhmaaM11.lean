/-
  Texts that the claims of this seat share, put together (VcS2, VcS3, VcS4). No condition.
-/
import Derived.Test.YtfjhahhkakfhmaaM9
import Derived.Deep.RegionLaw
import Derived.Deep.AppendLies
import Derived.Test.YtfjhahhkakfhmaaM8
import Derived.Test.YtfjhahhkakfhmaaM2
/-
  Shaken: what the claims of this seat need of this text. No condition.
-/
namespace Go.Proofs.Ytfjhahhkakfhmaa
set_option maxRecDepth 8000
open Go.RowKit
set_option linter.unusedVariables false
set_option linter.unusedSimpArgs false
theorem infoV17 : (Try.prog.info? 29).map (fun i => (i.zero, i.size, i.bytes)) = some (some (.agg #[.int .i64 0, .slice none 0 0, .slice none 0 0, .slice none 0 0]), 4, 80) := by kernel_rfl
def noneV (Ts : List Int) : List Vec := Ts.map (fun T => ⟨T, [], [], []⟩)
structure BatSt (w : World) (n : Nat) (v : Value) (xs : List Value) (vs : List Vec) (X : World) : Prop where
  cols : ColsSt (w.heap.size + 2) X v xs vs
  row : Row X (w.heap.size + 1) 45 [v, .int .i64 (n : Int), .bool true, .slice none 0 0]
  res : Row X w.heap.size 45 [.slice none 0 0, .int .i64 0, .bool false, .slice none 0 0]
  grows : Grows w X
  size : w.heap.size + 2 ≤ X.heap.size
theorem BatSt.snoc {w : World} {n : Nat} {v v' : Value} {xs : List Value} {vs : List Vec} {X Y : World} {T : Int} (h : BatSt w n v xs vs X)
    (hr : Y.ownsRow (w.heap.size + 2) 29 4 v' (vs.length + 1) (cells4 xs ++ [.int .i64 T, .slice none 0 0, .slice none 0 0, .slice none 0 0])) (ho : Only (fun k => v.ownBlock = some k) X Y) :
    BatSt w n v' (xs ++ [.agg #[.int .i64 T, .slice none 0 0, .slice none 0 0, .slice none 0 0]]) (vs ++ [⟨T, [], [], []⟩]) (Y.setCell ⟨w.heap.size + 1, 0, none⟩ v') := by
  have hb : ∀ k, v.ownBlock = some k → w.heap.size + 2 ≤ k := fun k hk => (h.cols.row.lt k hk).1
  have hrow := ho.row h.row (fun hk => by have := hb _ hk; omega)
  have hc := h.cols.snoc hr ho
  have hset : Only (fun i => i = w.heap.size + 1) Y (Y.setCell ⟨w.heap.size + 1, 0, none⟩ v') := Only.set Y _ 0 v'
  refine ⟨hc.only hset (fun k hk e => by have := (hr.lt k hk).1; omega) (fun x hx k hk e => by have := (hc.mem_own x hx k hk).1; omega), ?_, ?_, ?_, ?_⟩
  · have := hrow.set_m 0 v'
    simpa using this
  · exact hset.row (ho.row h.res (fun hk => by have := hb _ hk; omega)) (by omega)
  · exact hset.below (ho.below h.grows (fun i hi => by have := hb i hi; omega)) (fun i hi => by omega)
  · have := ho.size
    have := hset.size
    have := h.size
    omega
def FrRel1 (w : World) (Ts : List Int) (n : Nat) (i : Value) (wr : World) : Prop :=
  ∃ (k : Nat) (v : Value) (xs : List Value), i = .int .i64 (k : Int) ∧ k ≤ Ts.length ∧ BatSt w n v xs (noneV (Ts.take k)) wr
def InR (Ts : List Int) (rs : List (List Val)) : Prop := (∀ T ∈ Ts, isTypeB T = true) ∧ ∀ r ∈ rs, r.length = Ts.length ∧ ∀ j, j < Ts.length → fitsB (r.getD j nulX) (Ts.getD j 0) = true
def colV (Ts : List Int) (rs : List (List Val)) (k i : Nat) : Vec := buildV (Ts.getD i 0) ((rs.take k).map (fun r => r.getD i nulX))
def mixV (Ts : List Int) (rs : List (List Val)) (k j : Nat) : List Vec := (List.range Ts.length).map (fun i => colV Ts rs (if i < j then k + 1 else k) i)
theorem mixV_len (Ts : List Int) (rs : List (List Val)) (k j : Nat) : (mixV Ts rs k j).length = Ts.length := by simp [mixV]
theorem mixV_start (Ts : List Int) (rs : List (List Val)) : mixV Ts rs 0 0 = noneV Ts := by
  refine List.ext_getElem (by simp [mixV, noneV]) fun i h1 h2 => ?_
  have hi : i < Ts.length := by simpa [mixV] using h1
  simp [mixV, noneV, colV, buildV, hi]
theorem mixV_next (Ts : List Int) (rs : List (List Val)) (k : Nat) : mixV Ts rs k Ts.length = mixV Ts rs (k + 1) 0 := by
  refine List.ext_getElem (by simp [mixV]) fun i h1 h2 => ?_
  have hi : i < Ts.length := by simpa [mixV] using h1
  simp [mixV, hi]
theorem mixV_done (Ts : List Int) (rs : List (List Val)) : mixV Ts rs rs.length 0 = (batR Ts rs).cs := by
  refine List.ext_getElem (by simp [mixV, batR]) fun i h1 h2 => ?_
  simp [mixV, batR, colV]
theorem mixV_set (Ts : List Int) (rs : List (List Val)) {k j : Nat} (hk : k < rs.length) (hj : j < Ts.length) : mixV Ts rs k (j + 1) = (mixV Ts rs k j).set j (putV (colV Ts rs k j) (rs[k].getD j nulX)) := by
  refine List.ext_getElem (by simp [mixV]) fun i h1 h2 => ?_
  have hi : i < Ts.length := by simpa [mixV] using h1
  by_cases hij : i = j
  · subst hij
    rw [List.getElem_set_self]
    simp only [mixV, List.getElem_map, List.getElem_range, if_pos (Nat.lt_succ_self i)]
    unfold colV
    rw [List.take_add_one, List.getElem?_eq_getElem hk]
    simp only [Option.toList_some, List.map_append, List.map_cons, List.map_nil]
    rw [buildV_snoc]
  · rw [List.getElem_set_ne (Ne.symm hij)]
    simp only [mixV, List.getElem_map, List.getElem_range]
    by_cases h : i < j
    · rw [if_pos h, if_pos (by omega)]
    · rw [if_neg h, if_neg (by omega)]
theorem mixV_at (Ts : List Int) (rs : List (List Val)) {k j : Nat} (hj : j < Ts.length) : (mixV Ts rs k j)[j]? = some (colV Ts rs k j) := by
  rw [List.getElem?_eq_getElem (by rw [mixV_len]; exact hj)]
  simp [mixV]
theorem BatSt.put {w : World} {n : Nat} {v x x' : Value} {xs : List Value} {vs : List Vec} {X Y : World} {u' : Vec} {g j : Nat} {p q r s : Value} (h : BatSt w n v xs vs X) (hv : v.ownBlock = some g) (hj : xs[j]? = some x)
    (hx : OwnV (w.heap.size + 2) Y x' u') (ho : Only (blocksV x) X Y) (hb : ∀ k, blocksV x' k → blocksV x k ∨ X.heap.size ≤ k) (he : x' = .agg #[p, q, r, s]) :
    BatSt w n v (xs.set j x') (vs.set j u') ((((Y.setCell ⟨g, j * 4, none⟩ p).setCell ⟨g, j * 4 + 1, none⟩ q).setCell ⟨g, j * 4 + 2, none⟩ r).setCell ⟨g, j * 4 + 3, none⟩ s) := by
  have hjl : j < xs.length := by rcases Nat.lt_or_ge j xs.length with h | h; exact h; rw [List.getElem?_eq_none h] at hj; cases hj
  have hrow := ownsRow_only h.cols.row ho (fun k hk hbk => h.cols.rowApart hj k hbk hk)
  have hlen := cells4_length xs h.cols.four
  have h1 := ownsRow_set hrow hv (k := j * 4) (by omega) p
  have h2 := ownsRow_set h1 hv (k := j * 4 + 1) (by rw [List.length_set]; omega) q
  have h3 := ownsRow_set h2 hv (k := j * 4 + 2) (by rw [List.length_set, List.length_set]; omega) r
  have h4 := ownsRow_set h3 hv (k := j * 4 + 3) (by rw [List.length_set, List.length_set, List.length_set]; omega) s
  rw [cells4_set xs j p q r s h.cols.four hjl, ← he] at h4
  have hg : w.heap.size + 2 ≤ g := (h.cols.row.lt g hv).1
  have hz : ∀ Z a, Only (fun k => k = g) Y Z → a.block = g → ∀ u, Only (fun k => k = g) Y (Z.setCell a u) := fun Z a hZ ha u => hZ.trans (by have := Only.set Z a.block 0 u; exact ⟨rfl, rfl, rfl, by simp [World.setCell], fun i hi hn => by simp only [World.setCell]; rw [Array.getElem?_modify, if_neg (by omega)]⟩) (fun i hi => .inl hi)
  have hset := hz _ ⟨g, j * 4 + 3, none⟩ (hz _ ⟨g, j * 4 + 2, none⟩ (hz _ ⟨g, j * 4 + 1, none⟩ (hz _ ⟨g, j * 4, none⟩ (⟨rfl, rfl, rfl, Nat.le_refl _, fun _ _ _ => rfl⟩) rfl p) rfl q) rfl r) rfl s
  have hset' : Only (fun k => v.ownBlock = some k) Y _ := ⟨hset.os, hset.tape, hset.output, hset.size, fun i hi hn => hset.block i hi (fun e => hn (by rw [hv, e]))⟩
  have hbx : ∀ k, blocksV x k → w.heap.size + 2 ≤ k := fun k hk => (h.cols.mem_own x (List.mem_of_getElem? hj) k hk).1
  refine ⟨h.cols.put hj hx ho hb h4 hset', ?_, ?_, ?_, ?_⟩
  · exact hset.row (ho.row h.row (fun hk => by have := hbx _ hk; omega)) (by omega)
  · exact hset.row (ho.row h.res (fun hk => by have := hbx _ hk; omega)) (by omega)
  · exact hset.below (ho.below h.grows (fun i hi => by have := hbx i hi; omega)) (fun i hi => by omega)
  · have := ho.size
    have := hset.size
    have := h.size
    omega
def FrRel2 (w : World) (Ts : List Int) (rs : List (List Val)) (n : Nat) (i : Value) (wr : World) : Prop :=
  ∃ (k : Nat) (v : Value) (xs : List Value), i = .int .i64 (k : Int) ∧ k ≤ rs.length ∧ BatSt w n v xs (mixV Ts rs k 0) wr
def FrRel3 (w : World) (Ts : List Int) (rs : List (List Val)) (n k : Nat) (i : Value) (wr : World) : Prop :=
  ∃ (j : Nat) (v : Value) (xs : List Value), i = .int .i64 (j : Int) ∧ j ≤ Ts.length ∧ BatSt w n v xs (mixV Ts rs k j) wr
end Go.Proofs.Ytfjhahhkakfhmaa
/-
  Shaken: what the claims of this seat need of this text. No condition.
-/
namespace Go.Proofs.Ytfjhahhkakfhmaa
set_option maxRecDepth 8000
open Go.RowKit
set_option linter.unusedVariables false
set_option linter.unusedSimpArgs false
theorem results_bat2 {fn : Func} {p q : Tmp} (h : fn.results = #[.cell p 45, .tmp q]) (tmps : Array Value) (w : World) (g : Nat) (a b c d x : Value) (hp : tmps.getD p undef = .pointer (some ⟨g, 0, none⟩)) (hg : Row w g 45 [a, b, c, d])
    (hx : tmps.getD q undef = x) : (results fn tmps).run Try.prog w = .ok (.tuple #[.agg #[a, b, c, d], x]) w := by
  have hp' : tmps[p]?.getD undef = .pointer (some ⟨g, 0, none⟩) := by simpa using hp
  have hx' : tmps[q]?.getD undef = x := by simpa using hx
  simp [results, h, hp', hx', asAddr, run_loadVar_row w g 45 45 #[a, b, c, d] (0, 0) _ hg Try.underlying45 rfl sizeB]
theorem ColsSt.isVs {base : Nat} {X : World} {v : Value} {xs : List Value} {vs : List Vec} (h : ColsSt base X v xs vs) : IsVs X v vs := by
  have hrow := h.row
  rcases id hrow.2 with ⟨hv, h0⟩ | ⟨g, cap, cur, hv, hb, hg, hn, hc, hs, ht⟩
  · exact ⟨none, 0, by rw [hv, h0], by omega, fun hp => by omega⟩
  · refine ⟨_, cap, hv, hn, fun _ => ⟨g, 0, rfl, fun j u hj => ?_⟩⟩
    have hjl : j < vs.length := by rcases Nat.lt_or_ge j vs.length with h | h; exact h; rw [List.getElem?_eq_none h] at hj; cases hj
    have hx := List.getElem?_eq_getElem (l := xs) (i := j) (by have := h.len; omega)
    have ho := h.own j _ _ hx hj
    obtain ⟨a, b, c, he, h1, h2, h3⟩ := id ho
    rw [he] at hx ho
    have cell : ∀ i z, i < 4 → [Value.int .i64 u.T, a, b, c][i]? = some z → X.cell? ⟨g, j * 4 + i, none⟩ = some z := fun i z hi hz => by
      have := hrow.cells (g := g) (by rw [hv]; rfl) (j * 4 + i) z (by rw [cells4_get xs h.four j i _ hx hi]; exact hz)
      rwa [Addr.add_lit, Nat.zero_add] at this
    rw [Nat.zero_add]
    exact ⟨a, b, c, by simpa using cell 0 _ (by omega) rfl, cell 1 _ (by omega) rfl, cell 2 _ (by omega) rfl, cell 3 _ (by omega) rfl, ho.isV⟩
theorem step_call17 {P : Program} {ops : Array Oper} {o : Oper} {a : Act} {w : World} {K : Act → World → Prop} {Q : Exit → Act → World → Prop} {E : Prop} {f : FuncId} {args : Array Value} {xs : Array Operand} {ts : Array TypeId} {R : Ending → World → Prop} (hg : o.guard = none)
    (_hop : o.op = .call { callee := .value (.func f), args := xs, argTypes := ts }) (he : (execOp a.eval o).run P w = .ok (.enter f args) w) (hc : Calls P f args w R) (hK : ∀ e w', R e w' → ∃ v, e = .returned v ∧ K (a.put o.dst v) w') :
    if Region.wanted o (yielded ops a.tmps) = true then Oper.wp P o a w K Q else E := by
  have hw : Region.wanted o (yielded ops a.tmps) = true := by simp [Region.wanted, hg]
  rw [if_pos hw]
  unfold Oper.wp
  rw [he]
  simp only [Oper.upon]
  exact hc.mono fun e w' hR => by obtain ⟨v, hv, hk⟩ := hK e w' hR; subst hv; exact hk
theorem BatSt.grow {w : World} {n : Nat} {v : Value} {xs : List Value} {vs : List Vec} {X Y : World} (h : BatSt w n v xs vs X) (hg : Grows X Y) : BatSt w n v xs vs Y :=
  ⟨h.cols.only (Only.of_grows hg (fun _ => False)) (fun _ _ h => h) (fun _ _ _ _ h => h), h.row.grow hg, h.res.grow hg, h.grows.of_below hg, Nat.le_trans h.size hg.size⟩
theorem BatSt.at_ {w : World} {n : Nat} {v : Value} {xs : List Value} {vs : List Vec} {X : World} {j : Nat} {u : Vec} (h : BatSt w n v xs vs X) (hj : vs[j]? = some u) :
    ∃ g cap a b c, v = .slice (some ⟨g, 0, none⟩) vs.length cap ∧ xs[j]? = some (.agg #[.int .i64 u.T, a, b, c]) ∧ OwnV (w.heap.size + 2) X (.agg #[.int .i64 u.T, a, b, c]) u ∧
      ∀ Y, Only (blocksV (.agg #[.int .i64 u.T, a, b, c])) X Y → Y.cell? ⟨g, j * 4, none⟩ = some (.int .i64 u.T) ∧ Y.cell? ⟨g, j * 4 + 1, none⟩ = some a ∧ Y.cell? ⟨g, j * 4 + 2, none⟩ = some b ∧ Y.cell? ⟨g, j * 4 + 3, none⟩ = some c ∧ (∀ o, Y.frozen? ⟨g, o, none⟩ = false) ∧ Y.cell? ⟨w.heap.size + 1, 0, none⟩ = some v := by
  have hjl : j < vs.length := by rcases Nat.lt_or_ge j vs.length with h | h; exact h; rw [List.getElem?_eq_none h] at hj; cases hj
  have hx := List.getElem?_eq_getElem (l := xs) (i := j) (by have := h.cols.len; omega)
  have ho := h.cols.own j _ _ hx hj
  obtain ⟨a, b, c, he, h1, h2, h3⟩ := id ho
  rw [he] at hx ho
  have hrow := h.cols.row
  rcases id hrow.2 with ⟨_, h0⟩ | ⟨g, cap, cur, hv, hb, hg, hn, hc, hs, ht⟩
  · omega
  refine ⟨g, cap, a, b, c, hv, hx, ho, fun Y hY => ?_⟩
  have hrY := ownsRow_only hrow hY (fun k hk hbk => h.cols.rowApart hx k hbk hk)
  have cell : ∀ i z, i < 4 → [Value.int .i64 u.T, a, b, c][i]? = some z → Y.cell? ⟨g, j * 4 + i, none⟩ = some z := fun i z hi hz => by
    have := hrY.cells (g := g) (by rw [hv]; rfl) (j * 4 + i) z (by rw [cells4_get xs h.cols.four j i _ hx hi]; exact hz)
    rwa [Addr.add_lit, Nat.zero_add] at this
  have hbx : ∀ k, blocksV (.agg #[.int .i64 u.T, a, b, c]) k → w.heap.size + 2 ≤ k := fun k hk => (h.cols.mem_own _ (List.mem_of_getElem? hx) k hk).1
  have hR := (hY.row h.row (fun hk => by have := hbx _ hk; omega)).cell 0
  have hgY := hY.block g (Array.getElem?_eq_some_iff.1 hg).1 (fun hk => h.cols.rowApart hx g hk (by rw [hv]; rfl))
  refine ⟨by simpa using cell 0 _ (by omega) rfl, cell 1 _ (by omega) rfl, cell 2 _ (by omega) rfl, cell 3 _ (by omega) rfl, fun o => ?_, by simpa using hR⟩
  unfold World.frozen?
  rw [hgY, hg]
  simp
def RBatC (vs : List Vec) (n : Nat) (w : World) (e : Ending) (w' : World) : Prop := ∃ v xs base, e = .returned (.tuple #[.agg #[v, .int .i64 (n : Int), .bool true, .slice none 0 0], .int .i64 0]) ∧ ColsSt base w' v xs vs ∧ Grows w w'
set_option maxHeartbeats 4000000 in
theorem rfromrows_any (tv rv : Value) (Ts : List Int) (rs : List (List Val)) (w : World) (ht : IsI w tv Ts) (hr : IsRs w rv rs) (hlt : Ts.length ≤ 1000) (hlr : rs.length ≤ 1000000) (hf : InR Ts rs) :
    Calls Try.prog 68 #[tv, rv] w (RBatC (batR Ts rs).cs rs.length w) := by
  have HTV := hidden ht
  have HRV := hidden hr
  obtain ⟨A, c, rfl⟩ := ht.slice_
  obtain ⟨E, d, rfl⟩ := hr.slice_
  clear ht hr
  obtain ⟨m, hm⟩ : ∃ m, Ts.length = m := ⟨_, rfl⟩
  obtain ⟨n, hn⟩ : ∃ n, rs.length = n := ⟨_, rfl⟩
  rw [hm] at HTV ⊢
  rw [hn] at HRV ⊢
  have HM := hidden hm
  have HN := hidden hn
  have HLM := hidden (show m ≤ 1000 by omega)
  have HLN := hidden (show n ≤ 1000000 by omega)
  have HF := hidden hf
  have HIT := hidden (fun T W => rIsType_any T W)
  clear hm hn hlt hlr hf
  go_enter Try.func68, Try.ntmps68
  go_wp2_with (first
    | (refine wpList_store_bat rfl _ _ rfl (w.heap.size + 1) rfl _ _ _ _ rfl (all4 rfl rfl rfl rfl) (Row.at_ _ 45 #[.slice none 0 0, .int .i64 0, .bool false, .slice none 0 0] [.slice none 0 0, .int .i64 0, .bool false, .slice none 0 0] rfl (w.heap.size + 1) (by simp)) ?_; intro W1 hr1 ho1; have HR1 := hidden hr1; have HO1 := hidden ho1; clear hr1 ho1))
  have HS1 := hidden (show BatSt w n (.slice none 0 0) [] (noneV (Ts.take 0)) W1 from
    ⟨by simpa [noneV] using ColsSt.nil_ _ _, HR1.out, HO1.out.row (Row.grow (Row.new w 45 #[.slice none 0 0, .int .i64 0, .bool false, .slice none 0 0] [.slice none 0 0, .int .i64 0, .bool false, .slice none 0 0] rfl) (grow1 _)) (by omega), HO1.out.below ((grow1 (w := w) _).of_below (grow1 _)) (fun i hi => by omega), by have := HO1.out.size; simp at this; omega⟩)
  clear HR1 HO1
  go_loopw [7] (fun i wr => FrRel1 w Ts n i wr) (fun i _ => m - (intOf i).toNat)
  case atStart => exact ⟨0, _, _, rfl, Nat.zero_le _, HS1.out⟩
  case round =>
    obtain ⟨k, v, xs, rfl, hk, hst⟩ := hrel
    rw [HM.out] at hk
    have HST := hidden hst
    clear hst HS1
    by_cases hlt : k < m
    · have hkl : k < Ts.length := by rw [HM.out]; exact hlt
      obtain ⟨T, hT⟩ : ∃ T, T = Ts[k] := ⟨_, rfl⟩
      obtain ⟨b0, off, rfl, hc⟩ : ∃ b0 off, A = some ⟨b0, off, none⟩ ∧ ∀ W, Grows w W → W.cell? ⟨b0, off + k, none⟩ = some (.int .i64 T) := by
        obtain ⟨b0, off, he, hcc⟩ := HTV.out.at_ hkl
        exact ⟨b0, off, he, fun W hW => by rw [hT]; exact (hW.cell (World.block_lt_of_cell? _ _ hcc)).trans hcc⟩
      have HC := hidden hc
      have HTK := hidden (show Ts.take (k + 1) = Ts.take k ++ [T] by rw [List.take_add_one, List.getElem?_eq_getElem hkl, hT]; rfl)
      have HTT := hidden (show (decide (0 ≤ T) && decide (T ≤ 3)) = true from HF.out.1 T (by rw [hT]; exact List.getElem_mem _))
      have HTI := hidden (fun W => HIT.out T W)
      rw [HTT.out] at HTI
      have hk0 : (0 : Int) ≤ (k : Int) := by omega
      have hk1 : (k : Int) < (m : Int) := by omega
      have hd : decide (k < m) = true := by simpa using hlt
      have hm2 : m - (k + 1) < m - k := by omega
      have HK1 := hidden (show k + 1 ≤ Ts.length by omega)
      clear hT hkl hlt hk hc
      have c0 := HC.out wr HST.out.grows
      go_wp2_with (first
        | (go_at_call 48; refine (HTI.out _).mono ?_; rintro e w2 ⟨rfl, rfl⟩))
      have HOWN := hidden HST.out.cols.row
      have HNV := hidden (show (noneV (Ts.take k)).length = k by unfold noneV; rw [List.length_map, List.length_take]; have := HK1.out; omega)
      rw [HNV.out] at HOWN
      obtain ⟨i0, hi, hz0, hs1, hs2⟩ := info_parts infoV17
      have r0 := HST.out.row.cell 0
      have f0 := HST.out.row.frozen 0
      simp only [List.getElem?_cons_zero] at r0
      have ra : (w2.alloc (.cells #[.int .i64 T, .slice none 0 0, .slice none 0 0, .slice none 0 0] 29)).cell? ⟨w.heap.size + 1, 0, none⟩ = some v := ((grow1 (w := w2) _).cell (World.block_lt_of_cell? _ _ r0)).trans r0
      have HSZ := hidden HST.out.size
      have HLM2 := hidden (show k + 1 ≤ 1000 by have := HLM.out; have := HK1.out; have := HM.out; omega)
      go_wp2_with fail
      go_region_law (first
        | (refine step_append_lies _ (by rfl) _ _ 42 (by rfl) (w.heap.size + 2) 29 i0 _ 4 80 Try.underlying42 hi hz0 hs1 hs2 rfl (by decide) v k (cells4 xs) (by rfl) ((HOWN.out.alloc _).drew)
            ⟨w2.heap.size, 0, none⟩ 1 1 [.int .i64 T, .slice none 0 0, .slice none 0 0, .slice none 0 0] (by rfl) (by rfl) (World.news_of_block (cs := #[.int .i64 T, .slice none 0 0, .slice none 0 0, .slice none 0 0]) (t := 29) (fr := (0, 0)) (heap_alloc_new w2 _)) (by simp [Value.oneCell'])
            (by omega) (by have := HLM2.out; unfold maxLen; omega) (by have := HLM2.out; omega) (by have := HSZ.out; simp; omega) (w2.heap.size + 1) (by simp) ?_; intro gg cap w3 hown1 hgrow hat hlt
           have HO3 := hidden (show Only (fun j => v.ownBlock = some j) w2 w3 from (Only.of_grows (B := fun j => v.ownBlock = some j) (show Grows w2 (w2.alloc (.cells #[.int .i64 T, .slice none 0 0, .slice none 0 0, .slice none 0 0] 29)) from grow1 _)).trans (⟨hgrow.os, hgrow.tape, hgrow.output, hgrow.size, fun i hi hn => hgrow.block i hi (fun e => hn e.symm)⟩) (fun i hi => .inl hi))
           have HRW3 := hidden (HO3.out.row HST.out.row (fun hk => by have := (HST.out.cols.row.lt _ hk).1; omega))
           have HOWN3 := hidden hown1
           have r3 := HRW3.out.cell 0
           have f3 := HRW3.out.frozen 0
           simp only [List.getElem?_cons_zero] at r3
           clear hown1 hgrow hat hlt))
      all_goals
       focus
        clear ra r0 f0 r3 f3
        have HS4 := hidden (HST.out.snoc (by rw [HNV.out]; exact HOWN3.out) HO3.out)
        have hmb : m ≤ 1000 := HLM.out
        have hk6 : k + 1 ≤ m := by rw [← HM.out]; exact HK1.out
        go_wp2_with fail
        go_roundw
        case rel => exact ⟨k + 1, _, _, by go_num, HK1.out, by rw [HTK.out]; unfold noneV; rw [List.map_append]; exact HS4.out⟩
        case measure => simpa [intOf] using hm2
    · have hke : k = m := by omega
      have hd : decide (k < m) = false := by simpa using hlt
      have HTK := hidden (show noneV (Ts.take k) = mixV Ts rs 0 0 by rw [mixV_start, hke, ← HM.out, List.take_length])
      rw [HTK.out] at HST
      clear hke hlt hk
      go_wp2_with fail
      go_loopw [8] (fun i w5 => FrRel2 w Ts rs n i w5) (fun i _ => n - (intOf i).toNat)
      case atStart => exact ⟨0, _, _, rfl, Nat.zero_le _, HST.out⟩
      case round =>
        obtain ⟨k, v2, xs2, rfl, hk, hst⟩ := hrel
        rw [HN.out] at hk
        clear HST HTK
        have HST := hidden hst
        clear hst
        by_cases hlt : k < n
        · have hkl : k < rs.length := by rw [HN.out]; exact hlt
          have HKL := hidden hkl
          obtain ⟨bE, oE, uR, rfl, hcR0⟩ := HRV.out.at_ hkl
          have hrl0 : rs[k].length = m := ((HF.out.2 _ (List.getElem_mem hkl)).1).trans HM.out
          obtain ⟨l, hl⟩ : ∃ l, l = rs[k] := ⟨_, rfl⟩
          have hcR : ∀ W, Grows w W → W.cell? ⟨bE, oE + k, none⟩ = some uR ∧ ReadsV W uR l := fun W h => by rw [hl]; exact hcR0 W h
          have hrl : l.length = m := by rw [hl]; exact hrl0
          obtain ⟨AR, cR, huR, -, -⟩ := id (hcR w (Below.refl _ _)).2
          rw [hrl] at huR
          subst huR
          have HCR := hidden hcR
          have HRL := hidden hrl
          have HL := hidden hl
          have hk0 : (0 : Int) ≤ (k : Int) := by omega
          have hk1 : (k : Int) < (n : Int) := by omega
          have hd : decide (k < n) = true := by simpa using hlt
          have hm2 : n - (k + 1) < n - k := by omega
          have HK1 := hidden (show k + 1 ≤ rs.length by omega)
          clear hcR hrl hl hcR0 hrl0 hkl hlt hk
          have e0 := (HCR.out _ HST.out.grows).1
          go_wp2_with fail
          go_loopw [9] (fun i w6 => FrRel3 w Ts rs n k i w6) (fun i _ => m - (intOf i).toNat)
          case atStart => exact ⟨0, _, _, rfl, Nat.zero_le _, HST.out⟩
          case round =>
            obtain ⟨j, v3, xs3, rfl, hj, hst⟩ := hrel
            rw [HM.out] at hj
            have HST3 := hidden hst
            clear hst HST e0
            by_cases hlt : j < m
            · have hjl : j < Ts.length := by rw [HM.out]; exact hlt
              have HJL := hidden hjl
              have hd3 : decide (j < m) = true := by simpa using hlt
              have hjl2 : j < l.length := by rw [HRL.out]; exact hlt
              obtain ⟨y, hy⟩ : ∃ y, y = l[j] := ⟨_, rfl⟩
              obtain ⟨T, hT⟩ : ∃ T, T = Ts[j] := ⟨_, rfl⟩
              have HY := hidden (show l.getD j nulX = y by rw [hy]; simp [List.getD_eq_getElem?_getD, hjl2])
              have HYK := hidden (fun (h : k < rs.length) => (show (rs[k]'h).getD j nulX = y by rw [← HY.out]; exact congrArg (fun z => List.getD z j nulX) HL.out.symm))
              have HTJ := hidden (show Ts.getD j 0 = T by rw [hT, List.getD_eq_getElem?_getD, List.getElem?_eq_getElem hjl]; rfl)
              have HFY := hidden (show fitsB y T = true by have h1 := (HF.out.2 l (by rw [HL.out]; exact List.getElem_mem _)).2 j hjl; rw [HY.out, HTJ.out] at h1; exact h1)
              obtain ⟨bR, oR, rfl, hcV⟩ : ∃ bR oR, AR = some ⟨bR, oR, none⟩ ∧ ∀ W, Grows w W → W.cell? ⟨bR, oR + j * 3, none⟩ = some (.int .i64 y.k) ∧ W.cell? ⟨bR, oR + j * 3 + 1, none⟩ = some (.int .i64 y.n) ∧ W.cell? ⟨bR, oR + j * 3 + 2, none⟩ = some (.string y.t) := by
                obtain ⟨A', c', he, _, hcell⟩ := (HCR.out w (Below.refl _ _)).2
                injection he with e1 e2 e3
                subst e1
                obtain ⟨b1, o1, rfl, hcc⟩ := hcell (by omega)
                refine ⟨b1, o1, rfl, fun W hW => ?_⟩
                have := hcc j y (by rw [hy, List.getElem?_eq_getElem hjl2])
                exact ⟨(hW.cell (World.block_lt_of_cell? _ _ this.1)).trans this.1, (hW.cell (World.block_lt_of_cell? _ _ this.2.1)).trans this.2.1, (hW.cell (World.block_lt_of_cell? _ _ this.2.2)).trans this.2.2⟩
              obtain ⟨bT, oT, rfl, hcT⟩ : ∃ bT oT, A = some ⟨bT, oT, none⟩ ∧ ∀ W, Grows w W → W.cell? ⟨bT, oT + j, none⟩ = some (.int .i64 T) := by
                obtain ⟨b1, o1, he, hcc⟩ := HTV.out.at_ hjl
                exact ⟨b1, o1, he, fun W hW => by rw [hT]; exact (hW.cell (World.block_lt_of_cell? _ _ hcc)).trans hcc⟩
              have HX := hidden (fun X (h : Grows w X) => (⟨(HCR.out X h).1, (hcV X h).1, (hcV X h).2.1, (hcV X h).2.2, hcT X h⟩ : X.cell? ⟨bE, oE + k, none⟩ = some (.slice (some ⟨bR, oR, none⟩) m cR) ∧ X.cell? ⟨bR, oR + j * 3, none⟩ = some (.int .i64 y.k) ∧ X.cell? ⟨bR, oR + j * 3 + 1, none⟩ = some (.int .i64 y.n) ∧ X.cell? ⟨bR, oR + j * 3 + 2, none⟩ = some (.string y.t) ∧ X.cell? ⟨bT, oT + j, none⟩ = some (.int .i64 T)))
              have HFT := hidden (fun W => const_loose (rfits_any y T W))
              rw [HFY.out] at HFT
              have hj0 : (0 : Int) ≤ (j : Int) := by omega
              have hj1 : (j : Int) < (m : Int) := by omega
              have hm3 : m - (j + 1) < m - j := by omega
              have HJ1 := hidden (show j + 1 ≤ Ts.length by omega)
              clear hy hT hcV hcT hjl hjl2 hlt hj
              go_wp2_with fail
              have HG := hidden HST3.out.grows
              refine wp_region_loose (tabRs [(11, ConstV (.bool true))]) (by kernel_rfl) (by kernel_rfl) (tabRs_cons ConstV.lasts tabRs_nil) ?_
              iterate 11 ((with_reducible refine loose_one (v := ?_) (a' := ?_) ?_ ?_ (fun w' hC' hG' => ?_) ?_ ?_); rotate_left 2; (focus rfl); (focus rfl); (focus (obtain ⟨x0, x1, x2, x3, x4⟩ := HX.out w' (HG.out.of_below hC'); clear hC' hG'; go_simp; rfl)); (focus (go_simp; rfl)))
              refine loose_call (R := ConstV (.bool true)) (f := 49) (args := #[vV y, .int .i64 T]) (by rfl) (by rfl) (fun _ => by unfold vV; go_simp) (fun w' hC' hG' => HFT.out w') ?_
              rintro _ ⟨_, _, rfl⟩
              refine ⟨?_, ?_, ?_⟩
              rotate_left
              · go_simp
                rfl
              iterate 1 ((with_reducible refine loose_one (v := ?_) (a' := ?_) ?_ ?_ (fun w' hC' hG' => ?_) ?_ ?_); rotate_left 2; (focus rfl); (focus rfl); (focus (obtain ⟨x0, x1, x2, x3, x4⟩ := HX.out w' (HG.out.of_below hC'); clear hC' hG'; go_simp; rfl)); (focus (go_simp; rfl)))
              refine loose_done (fun w9 hC' hG' => ?_)
              clear HG
              have HSG := hidden hC'
              clear hC' hG'
              go_wp2_with fail
              have HS9 := hidden (HST3.out.grow HSG.out)
              have HGX := hidden (HST3.out.grows.of_below HSG.out)
              obtain ⟨g, cap, a, b, c', hv, hxj, hox, hcell⟩ := HS9.out.at_ (mixV_at Ts rs (k := k) HJL.out)
              rw [mixV_len, HM.out] at hv
              subst hv
              have hTc : (colV Ts rs k j).T = T := by unfold colV; rw [buildV_T]; exact HTJ.out
              rw [hTc] at hxj hox hcell
              have HTT := hidden (show (putV (colV Ts rs k j) y).T = T from hTc)
              obtain ⟨Aa, Ab, Ac, hea, ha1, ha2, ha3⟩ := id hox
              have HOX := hidden hox
              have HXJ := hidden hxj
              have HCELL := hidden hcell
              have HGD := hidden (show Grows w9 w9.drew from ⟨rfl, rfl, rfl, Nat.le_refl _, fun _ _ => rfl⟩)
              have HPT := hidden (rput_any (w.heap.size + 2) _ _ y w9.drew (hox.only (Only.of_grows HGD.out (fun _ => False)) (fun _ _ h => h)) HS9.out.size (buildV_fit _ _ (by rw [List.length_map, List.length_take]; have := HLN.out; have := HN.out; omega)))
              clear hea ha1 ha2 ha3 hTc hxj hox hcell
              obtain ⟨x0, x1, x2, x3, x4⟩ := HX.out w9 HGX.out
              obtain ⟨q0, q1, q2, q3, fz, r0⟩ := HCELL.out w9 (Only.refl _ _)
              go_region_law (first
                | (refine step_call17 (f := 50) (args := #[.agg #[.int .i64 T, a, b, c'], vV y]) rfl rfl ?_ HPT.out ?_; (focus (unfold vV; go_simp)); rintro e w3 ⟨x', rfl, ho3, hon3, hbk3⟩
                   obtain ⟨p', q', r', hx', hq1, hq2, hq3⟩ := id ho3
                   rw [HTT.out] at hx'
                   subst hx'
                   obtain ⟨A1, k1, c1, rfl⟩ := ownsRow_slice hq1
                   obtain ⟨A2, k2, c2, rfl⟩ := ownsRow_slice hq2
                   obtain ⟨A3, k3, c3, rfl⟩ := ownsRow_slice hq3
                   have HON3 := hidden ((Only.of_grows HGD.out _).trans hon3 (fun i hi => .inl hi))
                   have HO3 := hidden ho3
                   have HBK3 := hidden hbk3
                   obtain ⟨y0, y1, y2, y3, fy, ry⟩ := HCELL.out w3 HON3.out
                   have fy0 := fy (j * 4)
                   have fy1 := fy (j * 4 + 1)
                   have fy2 := fy (j * 4 + 2)
                   have fy3 := fy (j * 4 + 3)
                   clear ho3 hon3 hbk3 hq1 hq2 hq3 fy
                   refine ⟨_, rfl, ?_⟩))
              all_goals
               focus
                have HS4 := hidden (HS9.out.put rfl HXJ.out HO3.out HON3.out HBK3.out rfl)
                clear x0 x1 x2 x3 x4 q0 q1 q2 q3 fz r0 y0 y1 y2 y3 fy0 fy1 fy2 fy3 ry
                rw [← HYK.out HKL.out, ← mixV_set Ts rs HKL.out HJL.out] at HS4
                generalize ((((w3.setCell ⟨g, j * 4, none⟩ (.int .i64 T)).setCell ⟨g, j * 4 + 1, none⟩ (.slice A1 k1 c1)).setCell ⟨g, j * 4 + 2, none⟩ (.slice A2 k2 c2)).setCell ⟨g, j * 4 + 3, none⟩ (.slice A3 k3 c3)) = w4 at HS4 ⊢
                have hmb : m ≤ 1000 := HLM.out
                have hj6 : j + 1 ≤ m := by rw [← HM.out]; exact HJ1.out
                go_wp2_with fail
                go_roundw
                case rel => exact ⟨j + 1, _, _, by go_num, HJ1.out, HS4.out⟩
                case measure => simpa [intOf] using hm3
            · have hje : j = m := by omega
              have hd3 : decide (j < m) = false := by simpa using hlt
              have hnb : n ≤ 1000000 := HLN.out
              have hk6 : k + 1 ≤ n := by rw [← HN.out]; exact HK1.out
              have HS5 := hidden (show BatSt w n v3 xs3 (mixV Ts rs (k + 1) 0) _ by rw [← mixV_next, HM.out, ← hje]; exact HST3.out)
              clear hje hlt hj
              go_wp2_with fail
              go_roundw
              case rel => exact ⟨k + 1, _, _, by go_num, HK1.out, HS5.out⟩
              case measure => simpa [intOf] using hm2
        · have hke : k = n := by omega
          have hd : decide (k < n) = false := by simpa using hlt
          have ecs : mixV Ts rs k 0 = (batR Ts rs).cs := by rw [hke, ← HN.out, mixV_done]
          have HS5 := hidden (show BatSt w n v2 xs2 (batR Ts rs).cs wr from ecs ▸ HST.out)
          clear ecs
          clear hke hlt hk HST
          have HO2 := hidden (all4 (ownsRow_one HS5.out.cols.row) (q := .int .i64 (n : Int)) rfl (r := .bool true) rfl (s := .slice none 0 0) rfl)
          go_wp2_with (first
            | (refine wpList_load_bat rfl _ rfl (w.heap.size + 1) rfl _ _ _ _ HS5.out.row ?_)
            | (refine wpList_store_bat rfl _ _ rfl w.heap.size rfl _ _ _ _ rfl HO2.out HS5.out.res ?_; intro W4 hr4 ho4; have HR4 := hidden hr4; have HO4 := hidden ho4; clear hr4 ho4))
          refine bodyPost_ret (results_bat2 rfl _ _ _ _ _ _ _ _ rfl HR4.out rfl) rfl ?_
          exact ⟨v2, _, _, rfl, HS5.out.cols.only HO4.out (fun i hi e => by have := (HS5.out.cols.row.lt i hi).1; omega) (fun x hx i hi e => by have := (HS5.out.cols.mem_own x hx i hi).1; omega), HO4.out.below HS5.out.grows (fun i hi => by omega)⟩
end Go.Proofs.Ytfjhahhkakfhmaa
/-
  Shaken: what the claims of this seat need of this text. No condition.
-/
namespace Go.Proofs.Ytfjhahhkakfhmaa
set_option maxRecDepth 8000
open Go.RowKit
set_option linter.unusedVariables false
set_option linter.unusedSimpArgs false
def IsBatR (w : World) (g : Nat) : Prop := ∃ p q r s, Row w g 45 [p, q, r, s]
def DoneB (n : Nat) (vs : List Vec) (w : World) (g : Nat) : Prop := ∃ v xs base, Row w g 45 [v, .int .i64 (n : Int), .bool true, .slice none 0 0] ∧ ColsSt base w v xs vs
structure FlT (H n : Nat) (vs : List Vec) (w w' : World) : Prop where
  only : Only (fun k => H ≤ k ∧ IsBatR w k) w w'
  bat : ∀ g, H ≤ g → IsBatR w g → IsBatR w' g
  done : ∀ g, H ≤ g → DoneB n vs w g → DoneB n vs w' g
theorem colsSt_only {P : Nat → Prop} {base : Nat} {X Y : World} {v : Value} {xs : List Value} {vs : List Vec} (h : ColsSt base X v xs vs) (ho : Only P X Y) (hP : ∀ k, P k → IsBatR X k) : ColsSt base Y v xs vs := by
  refine h.only ho (fun k hk hp => ?_) (fun x hx k hk hp => ?_)
  · obtain ⟨p, q, r, s, hr⟩ := hP k hp
    exact ownsRow_row_apart h.row hr (by decide) hk
  · obtain ⟨p, q, r, s, hr⟩ := hP k hp
    obtain ⟨j, hj, rfl⟩ := List.getElem_of_mem hx
    exact ownV_apart (h.own j _ _ (List.getElem?_eq_getElem hj) (List.getElem?_eq_getElem (by have := h.len; omega))) hr (by decide) (by decide) (by decide) k hk rfl
theorem FlT.of_grows {H n : Nat} {vs : List Vec} {w w' : World} (h : Grows w w') : FlT H n vs w w' :=
  ⟨Only.of_grows h _, fun g _ ⟨p, q, r, s, hr⟩ => ⟨p, q, r, s, hr.grow h⟩, fun g _ ⟨v, xs, base, hr, hc⟩ => ⟨v, xs, base, hr.grow h, colsSt_only hc (Only.of_grows h (fun _ => False)) (fun _ h => h.elim)⟩⟩
theorem FlT.re (H n : Nat) (vs : List Vec) (w : World) : FlT H n vs w w := FlT.of_grows (Below.refl _ _)
theorem FlT.tr {H n : Nat} {vs : List Vec} {a b c : World} (h : FlT H n vs a b) (k : FlT H n vs b c) : FlT H n vs a c :=
  ⟨h.only.trans k.only (fun i ⟨hi, hb⟩ => by
    by_cases ha : IsBatR a i
    · exact .inl ⟨hi, ha⟩
    · right
      rcases Nat.lt_or_ge i a.heap.size with hlt | hge
      · exfalso
        obtain ⟨p, q, r, s, hr⟩ := hb
        exact ha ⟨p, q, r, s, ((h.only.block i hlt (fun x => ha x.2)).symm.trans hr)⟩
      · exact hge), fun g hg hb => k.bat g hg (h.bat g hg hb), fun g hg hd => k.done g hg (h.done g hg hd)⟩
theorem FlT.dr (H n : Nat) (vs : List Vec) (w : World) : FlT H n vs w { w with drawn := w.drawn + 1 } := FlT.of_grows ⟨rfl, rfl, rfl, Nat.le_refl _, fun _ _ => rfl⟩
abbrev flSte (H n : Nat) (vs : List Vec) : SteQ := ⟨FlT H n vs, FlT.re H n vs, FlT.tr, FlT.dr H n vs⟩
theorem only_setRow17 (w : World) (g : Nat) (cs : Array Value) : Only (fun i => i = g) w (w.setRow g cs) :=
  ⟨rfl, rfl, rfl, by simp [World.setRow], fun k _ hn => by
    simp only [World.setRow]
    rw [Array.getElem?_modify, if_neg (Ne.symm hn)]⟩
theorem FlT.store {H n : Nat} {vs : List Vec} {w : World} {g base : Nat} {v : Value} {xs : List Value} {p q r s : Value} (hg : H ≤ g) (hr : Row w g 45 [p, q, r, s]) (hc : ColsSt base w v xs vs) :
    FlT H n vs w (w.setRow g #[v, .int .i64 (n : Int), .bool true, .slice none 0 0]) ∧ DoneB n vs (w.setRow g #[v, .int .i64 (n : Int), .bool true, .slice none 0 0]) g := by
  have ho := only_setRow17 w g #[v, .int .i64 (n : Int), .bool true, .slice none 0 0]
  have hnew : Row (w.setRow g #[v, .int .i64 (n : Int), .bool true, .slice none 0 0]) g 45 [v, .int .i64 (n : Int), .bool true, .slice none 0 0] := valSet_row hr [v, .int .i64 (n : Int), .bool true, .slice none 0 0]
  have keep : ∀ {b : Nat} {z : Value} {ys : List Value}, ColsSt b w z ys vs → ColsSt b (w.setRow g #[v, .int .i64 (n : Int), .bool true, .slice none 0 0]) z ys vs := fun hz => colsSt_only hz ho (fun k hk => by rw [hk]; exact ⟨_, _, _, _, hr⟩)
  refine ⟨⟨ho.mono (fun i hi => .inl (by rw [hi]; exact ⟨hg, _, _, _, _, hr⟩)), fun g' hg' ⟨p', q', r', s', hr'⟩ => ?_, fun g' hg' ⟨v', xs', base', hr', hc'⟩ => ?_⟩, ⟨v, xs, base, hnew, keep hc⟩⟩
  · by_cases he : g' = g
    · subst he; exact ⟨_, _, _, _, hnew⟩
    · exact ⟨_, _, _, _, ho.row hr' he⟩
  · by_cases he : g' = g
    · subst he; exact ⟨v, xs, base, hnew, keep hc⟩
    · exact ⟨v', xs', base', ho.row hr' he, keep hc'⟩
theorem store_run_bat17 {o : Oper} {a : Act} {w : World} (x y : Operand) (ho : o.op = .store 45 x y) (g : Nat) (v : Value) (n : Nat) (h1 : v.oneCell' = true) (hx : a.eval x = .pointer (some ⟨g, 0, none⟩)) (hy : a.eval y = .agg #[v, .int .i64 (n : Int), .bool true, .slice none 0 0])
    {p q r s : Value} (hr : Row w g 45 [p, q, r, s]) : (execOp a.eval o).run Try.prog w = .ok .skip (w.setRow g #[v, .int .i64 (n : Int), .bool true, .slice none 0 0]) := by
  unfold execOp
  simp only [ho, hx, hy, Instr.storeAt, Instr.sureAddr, Sem.run_bind, Sem.run_pure, Result.andThen_ok, run_storeVar_row (P := Try.prog) w g _ 45 _ #[v, .int .i64 (n : Int), .bool true, .slice none 0 0] hr sizeB rfl (all4 h1 rfl rfl rfl)]
theorem inR_flat {B : Bat} (h : validBB B = true) : InR (typesB B) (rowsB B) := by
  obtain ⟨h0, h1, h2⟩ := valid_parts17 h
  have hl : (typesB B).length = B.cs.length := by simp [typesB]
  refine ⟨fun T hT => ?_, fun r hr => ?_⟩
  · obtain ⟨v, hv, rfl⟩ := List.mem_map.1 hT
    exact (validVB_iff.1 (h1 v hv).1).1
  · rw [rowsB_idx] at hr
    obtain ⟨i, _, rfl⟩ := List.mem_map.1 hr
    refine ⟨by rw [hl]; simp [rowV], fun j hj => ?_⟩
    rw [hl] at hj
    have e1 : (rowV B i).getD j nulX = atI B.cs[j] i := by
      unfold rowV
      rw [List.getD_eq_getElem?_getD, List.getElem?_map, List.getElem?_eq_getElem hj]; rfl
    have e2 : (typesB B).getD j 0 = (B.cs[j]).T := by
      unfold typesB
      rw [List.getD_eq_getElem?_getD, List.getElem?_map, List.getElem?_eq_getElem hj]; rfl
    rw [e1, e2]
    exact (atI_ok (h1 _ (List.getElem_mem hj)).1 i).1
def IntsX (l : List Int) : Value → World → Prop := fun v w => ∃ base, w.ownsRow base 3 1 v l.length (icells l)
def RowsX (ls : List (List Val)) : Value → World → Prop := fun v w => ∃ base, OwnRs base w v ls
def TupX (n : Nat) (vs : List Vec) : Value → World → Prop := fun v w => ∃ vc xs base, v = .tuple #[.agg #[vc, .int .i64 (n : Int), .bool true, .slice none 0 0], .int .i64 0] ∧ ColsSt base w vc xs vs
def NewX (H : Nat) : Value → World → Prop := fun v w => ∃ g, v = .pointer (some ⟨g, 0, none⟩) ∧ H ≤ g ∧ IsBatR w g
theorem own_flT {H n : Nat} {vs : List Vec} {w w' : World} {base : Nat} {e : TypeId} {sz m : Nat} {v : Value} {xs : List Value} (h : w.ownsRow base e sz v m xs) (ht : FlT H n vs w w') (he : e ≠ 45) : w'.ownsRow base e sz v m xs :=
  ownsRow_only h ht.only (fun k hk ⟨_, p, q, r, s, hr⟩ => ownsRow_row_apart h hr he hk)
theorem ownRs_flT {H n : Nat} {vs : List Vec} {w w' : World} {base : Nat} {v : Value} {ls : List (List Val)} (h : OwnRs base w v ls) (ht : FlT H n vs w w') : OwnRs base w' v ls := by
  obtain ⟨us, h1, h2, h3⟩ := h
  exact ⟨us, h1, own_flT h2 ht (by decide), fun j u l e1 e2 => own_flT (h3 j u l e1 e2) ht (by decide)⟩
set_option maxHeartbeats 8000000 in
theorem flat17 : RFlat := by
  intro x B w hx hvB hcs hln
  have hok := okB_of hvB (by omega) (by omega)
  have HT := hidden (fun W (h : Grows w W) => rtypes_any x B W (hx.grow h) hok)
  have HR := hidden (fun W (h : Grows w W) => rrows_any x B W (hx.grow h) hok)
  have HIN := hidden (inR_flat hvB)
  have HF := hidden (fun tv rv W (h1 : IsI W tv (typesB B)) (h2 : IsRs W rv (rowsB B)) => rfromrows_any tv rv (typesB B) (rowsB B) W h1 h2 (by rw [typesB, List.length_map]; omega) (rowsB_len B hok) HIN.out)
  have HB := hidden (show flatB B = ⟨(batR (typesB B) (rowsB B)).cs, ((rowsB B).length : Int), true, []⟩ from rfl)
  rw [HB.out]
  generalize (batR (typesB B) (rowsB B)).cs = VS at *
  generalize typesB B = Ts at *
  generalize rowsB B = Rs at *
  obtain ⟨n, hn⟩ : ∃ n, Rs.length = n := ⟨_, rfl⟩
  rw [hn] at HF ⊢
  obtain ⟨PA, PN, PC, QA, QN, QC, rfl⟩ := hx.shape
  generalize B.len = L at *
  generalize B.all = al at *
  obtain ⟨W0, hW0⟩ : ∃ W0, W0 = (w.alloc (.cells #[.slice PA PN PC, .int .i64 L, .bool al, .slice QA QN QC] 45)).alloc (.cells #[.slice none 0 0, .int .i64 0, .bool false, .slice none 0 0] 45) := ⟨_, rfl⟩
  have HG0 := hidden (show Grows w W0 by rw [hW0]; exact (grow1 _).of_below (grow1 _))
  have HB0 := hidden (show Row W0 w.heap.size 45 [.slice PA PN PC, .int .i64 L, .bool al, .slice QA QN QC] by rw [hW0]; exact (Row.new w 45 _ _ rfl).grow (grow1 _))
  have HD0 := hidden (show Row W0 (w.heap.size + 1) 45 [.slice none 0 0, .int .i64 0, .bool false, .slice none 0 0] by rw [hW0]; exact Row.at_ _ _ _ _ rfl _ (by simp))
  have HSZ := hidden (show W0.heap.size = w.heap.size + 2 by rw [hW0]; simp)
  have HW := hidden hW0
  have HBX := hidden (fun X (h : FlT W0.heap.size n VS W0 X) => And.intro ((h.only.row HB0.out (fun hk => by have := HSZ.out; omega)).cell 0) (And.intro ((h.only.row HB0.out (fun hk => by have := HSZ.out; omega)).cell 1) (And.intro ((h.only.row HB0.out (fun hk => by have := HSZ.out; omega)).cell 2) ((h.only.row HB0.out (fun hk => by have := HSZ.out; omega)).cell 3))))
  simp only [List.getElem?_cons_succ, List.getElem?_cons_zero] at HBX
  have HGX := hidden (fun X (h : FlT W0.heap.size n VS W0 X) => show Grows w X from h.only.below HG0.out (fun i hi => by have := HSZ.out; omega))
  clear hW0 hx hvB hcs hln hok hn
  go_enter Try.func38, Try.ntmps38
  go_wp2_with fail
  rw [← HW.out]
  letI : SteQ := flSte W0.heap.size n VS
  refine wp_region_looseX (tabX [(1, fun _ v w => IntsX Ts v w), (3, fun _ v w => RowsX Rs v w), (4, fun _ v w => TupX n VS v w), (8, fun _ v w => NewX W0.heap.size v w), (9, fun s _ w' => ∀ g, s = .pointer (some ⟨g, 0, none⟩) → DoneB n VS w' g ∧ W0.heap.size ≤ g)]) (by kernel_rfl) (by kernel_rfl)
    (tabX_cons (fun s v w w' ⟨b, h⟩ ht => ⟨b, own_flT h ht (by decide)⟩) (tabX_cons (fun s v w w' ⟨b, h⟩ ht => ⟨b, ownRs_flT h ht⟩) (tabX_cons (fun s v w w' ⟨vc, xs, b, he, h⟩ ht => ⟨vc, xs, b, he, colsSt_only h ht.only (fun k hk => hk.2)⟩)
      (tabX_cons (fun s v w w' ⟨g, he, hg, h⟩ ht => ⟨g, he, hg, ht.bat g hg h⟩) (tabX_cons (fun s v w w' h ht g hs => ⟨ht.done g (h g hs).2 (h g hs).1, (h g hs).2⟩) tabX_nil))))) ?_
  iterate 1 ((with_reducible refine loose_oneX (v := ?_) (a' := ?_) ?_ ?_ (fun w' hC' hG' => ?_) ?_ ?_); rotate_left 2; (focus rfl); (focus rfl); (focus (obtain ⟨f0, f1, f2, f3⟩ := HBX.out w' hC'; clear hC' hG'; go_simp; rfl)); (focus (go_simp; rfl)))
  refine loose_callX (R := fun _ v w => IntsX Ts v w) (f := 35) (args := #[.agg #[.slice PA PN PC, .int .i64 L, .bool al, .slice QA QN QC]]) (by rfl) (by rfl) (fun _ => by go_simp) (fun w' hC' hG' => (HT.out w' (HGX.out w' hC')).mono fun e w2 ⟨v, he, ho, hg⟩ => ⟨v, he, FlT.of_grows hg, _, ho⟩) ?_
  rintro u1 ⟨x1, x2, b1, hu1⟩
  obtain ⟨U1, N1, C1, rfl⟩ := ownsRow_slice hu1
  refine ⟨?_, ?_, ?_⟩
  rotate_left
  · go_simp
    rfl
  iterate 1 ((with_reducible refine loose_oneX (v := ?_) (a' := ?_) ?_ ?_ (fun w' hC' hG' => ?_) ?_ ?_); rotate_left 2; (focus rfl); (focus rfl); (focus (obtain ⟨f0, f1, f2, f3⟩ := HBX.out w' hC'; clear hC' hG'; go_simp; rfl)); (focus (go_simp; rfl)))
  refine loose_callX (R := fun _ v w => RowsX Rs v w) (f := 32) (args := #[.agg #[.slice PA PN PC, .int .i64 L, .bool al, .slice QA QN QC]]) (by rfl) (by rfl) (fun _ => by go_simp) (fun w' hC' hG' => (HR.out w' (HGX.out w' hC')).mono fun e w2 ⟨v, he, ho, hg⟩ => ⟨v, he, FlT.of_grows hg, _, ho⟩) ?_
  rintro u2 ⟨x3, x4, b2, us, hu2⟩
  obtain ⟨U2, N2, C2, rfl⟩ := ownsRow_slice hu2.2.1
  refine ⟨?_, ?_, ?_⟩
  rotate_left
  · go_simp
    rfl
  refine loose_callX (R := fun _ v w => TupX n VS v w) (f := 68) (args := #[.slice U1 N1 C1, .slice U2 N2 C2]) (by rfl) (by rfl) (fun _ => by go_simp) (fun w' hC' hG' => ?_) ?_
  · have h3 : RowsX Rs (.slice U2 N2 C2) w' := (hG' 3 (by kernel_rfl)).2 rfl
    have h1 : IntsX Ts (.slice U1 N1 C1) w' := (hG' 1 (by kernel_rfl)).1.2 rfl
    obtain ⟨q1, h1⟩ := h1
    obtain ⟨q3, h3⟩ := h3
    exact (HF.out _ _ w' (Reads.of_own h1) h3.isRs).mono fun e w2 ⟨v, xs, base, he, ho, hg⟩ => ⟨_, he, FlT.of_grows hg, v, xs, base, rfl, ho⟩
  rintro u3 ⟨x5, x6, vc, xs0, b3, rfl, hu3⟩
  obtain ⟨U3, N3, C3, rfl⟩ := ownsRow_slice hu3.row
  refine ⟨?_, ?_, ?_⟩
  rotate_left
  · go_simp
    rfl
  iterate 3 ((with_reducible refine loose_oneX (v := ?_) (a' := ?_) ?_ ?_ (fun w' hC' hG' => ?_) ?_ ?_); rotate_left 2; (focus rfl); (focus rfl); (focus (obtain ⟨f0, f1, f2, f3⟩ := HBX.out w' hC'; clear hC' hG'; go_simp; rfl)); (focus (go_simp; rfl)))
  refine loose_newX (R := fun _ v w => NewX W0.heap.size v w) (by rfl) (by rfl) (fun w' hC' hG' => ?_) ?_
  · exact ⟨.pointer (some ⟨w'.heap.size, 0, none⟩), w'.alloc (.cells #[.slice none 0 0, .int .i64 0, .bool false, .slice none 0 0] 45), by first | rfl | go_simp, FlT.of_grows (grow1 _), w'.heap.size, rfl, (show FlT _ _ _ W0 w' from hC').only.size, _, _, _, _, Row.new w' _ _ _ rfl⟩
  rintro _ ⟨_, _, g8, rfl, _, _⟩
  refine ⟨?_, ?_, ?_⟩
  rotate_left
  · go_simp
    rfl
  refine loose_storeX (R := fun s _ w' => ∀ g, s = .pointer (some ⟨g, 0, none⟩) → DoneB n VS w' g ∧ W0.heap.size ≤ g) (by rfl) (by rfl) (fun w' hC' hG' => ?_) ?_
  · have h8 : NewX W0.heap.size (.pointer (some ⟨g8, 0, none⟩)) w' := (hG' 8 (by kernel_rfl)).2 rfl
    have h4 : TupX n VS (.tuple #[.agg #[.slice U3 N3 C3, .int .i64 (n : Int), .bool true, .slice none 0 0], .int .i64 0]) w' := (hG' 4 (by kernel_rfl)).1.2 rfl
    obtain ⟨g9, e9, hg9, p9, q9, r9, s9, hr9⟩ := h8
    injection e9 with e9
    injection e9 with e9
    injection e9 with e9
    subst e9
    obtain ⟨v4, xs4, b4, e4, h4⟩ := h4
    injection e4 with e4
    simp only [Array.mk.injEq, List.cons.injEq, and_true, Value.agg.injEq] at e4
    obtain ⟨rfl, -⟩ := e4
    have hst := FlT.store (n := n) hg9 hr9 h4
    refine ⟨_, store_run_bat17 _ _ rfl g8 (.slice U3 N3 C3) n rfl (by rfl) (by rfl) hr9, hst.1, fun g hg => ?_⟩
    have e : g8 = g := by
      have e1 : (Value.pointer (some ⟨g8, 0, none⟩)) = .pointer (some ⟨g, 0, none⟩) := hg
      injection e1 with e1
      injection e1 with e1
      injection e1 with e1
    subst e
    exact ⟨hst.2, hg9⟩
  intro v8 _
  refine ⟨?_, ?_, ?_⟩
  rotate_left
  · go_simp
    rfl
  iterate 1 ((with_reducible refine loose_oneX (v := ?_) (a' := ?_) ?_ ?_ (fun w' hC' hG' => ?_) ?_ ?_); rotate_left 2; (focus rfl); (focus rfl); (focus (obtain ⟨f0, f1, f2, f3⟩ := HBX.out w' hC'; clear hC' hG'; go_simp; rfl)); (focus (go_simp; rfl)))
  refine loose_doneX (fun w9 hC' hG' => ?_)
  have hT : FlT W0.heap.size n VS W0 w9 := hC'
  obtain ⟨⟨v, xs, base, hrow, hcols⟩, hg8⟩ := (hG' 9).2 rfl g8 rfl
  obtain ⟨VA, VN, VC, rfl⟩ := ownsRow_slice hcols.row
  have HROW := hidden hrow
  have HCOL := hidden hcols
  have HD9 := hidden (hT.only.row HD0.out (fun hk => by have := HSZ.out; omega))
  have HG9 := hidden (HGX.out w9 hT)
  clear hC' hG' hT hrow hcols
  go_wp2_with (first
    | (refine wpList_load_bat rfl _ rfl g8 rfl _ _ _ _ HROW.out ?_)
    | (refine wpList_store_bat rfl _ _ rfl (w.heap.size + 1) rfl _ _ _ _ rfl (all4 rfl rfl rfl rfl) HD9.out ?_; intro W4 hr4 ho4; have HR4 := hidden hr4; have HO4 := hidden ho4; clear hr4 ho4))
  refine bodyPost_ret (results_batP rfl _ _ _ _ _ _ _ rfl HR4.out) rfl ⟨_, rfl, ⟨_, _, rfl, ?_, none, 0, rfl, Nat.le_refl _, fun h => by simp [icells] at h⟩, HO4.out.below HG9.out (fun i hi => by omega)⟩
  exact (colsSt_only HCOL.out HO4.out (fun k hk => by rw [hk]; exact ⟨_, _, _, _, HD9.out⟩)).isVs
end Go.Proofs.Ytfjhahhkakfhmaa
