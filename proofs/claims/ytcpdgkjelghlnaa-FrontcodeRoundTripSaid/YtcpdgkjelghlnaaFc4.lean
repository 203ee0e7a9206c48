/-
  assemble: the string of a shared prefix and the remaining bytes. Nothing that was there is changed.
-/
import Derived.Test.YtcpdgkjelghlnaaFc1
import Derived.Lib.BufferWrite
import Derived.Laws.CopyOwn
namespace Go.Proofs.Ytcpdgkjelghlnaa
open Go.RowKit
set_option linter.unusedVariables false
set_option linter.unusedSimpArgs false

theorem byteCells_b (l : List UInt8) : Lib.byteCells l = bcells l := rfl
theorem wpList_copy_str {P : Program} {w : World} {ops : Array Oper} {rest : List Oper} {o : Oper} {a : Act} {Q : Exit → Act → World → Prop} (hgd : o.guard = none) (d s : Operand) (dT sT : TypeId)
    (ho : o.op = .call { callee := .builtin .copy, args := #[d, s], argTypes := #[dT, sT] }) (elem : TypeId) (hu : P.underlying dT = some (.slice elem)) (hsz : (P.info? elem).map (·.size) = some 1)
    (g off dLen dCap : Nat) (hd : a.eval d = .slice (some ⟨g, off, none⟩) dLen dCap) (t : List UInt8) (hs : a.eval s = .string (strOf t))
    (cur : List Value) (T : TypeId) (hg : w.heap[g]? = some (.cells cur.toArray T (0, 0))) (hle : t.length ≤ dLen)
    (hfit : off + t.length ≤ cur.length) (B : Nat) (w0 : World) (hb : Below B w0 w) (hBg : B ≤ g)
    (h : ∀ w', Hid (w'.heap[g]? = some (.cells (splice cur off (bcells t)).toArray T (0, 0))) → Below B w0 w' → wpList P ops Q rest (a.put o.dst (goInt t.length)) w') :
    wpList P ops Q (o :: rest) a w := by
  refine wpList_plain hgd fun K hK => ?_
  have hz : (strOf t).size = t.length := rfl
  have hrun := Lib.run_copy_row_string (P := P) w dT sT o.type elem g off dLen dCap (strOf t) cur.toArray T hu hsz hg (by rw [hz]; exact hle) (by rw [hz]; simpa using hfit)
  unfold Oper.wp
  simp [execOp, ho, resolve, invoke, builtin, hd, hs, hrun, Result.andThen]
  refine hK _ _ (h _ ?_ ?_)
  · have h2 := setRow_heap w g cur.toArray (cur.toArray.toList.take off ++ Lib.byteCells (strOf t).data.toList ++ cur.toArray.toList.drop (off + (strOf t).size)).toArray T (0, 0) (by simpa using hg)
    show _ = _
    have hz2 : ({ data := t.toArray } : ByteArray).size = t.length := rfl
    simpa [splice, byteCells_b, bcells_length, strOf, hz2] using h2
  · exact below_setRow hb hBg _
theorem splice_nil_ {α : Type} (L : List α) (o : Nat) : splice L o [] = L := by simp [splice]
theorem splice2 (Z X Y : List Value) (k : Nat) (hk : X.length = k) (hZ : Z.length = k + Y.length) : splice (splice Z 0 X) k Y = X ++ Y := by
  have h := splice_splice_splice Z X Y [] k Y.length hk rfl (by simpa using hZ)
  rw [splice_nil_] at h
  rw [h, List.append_nil]
set_option maxHeartbeats 2000000 in
theorem assemble_any (p r : List UInt8) (AO : Option Addr) (c : Nat) (w : World) (hv : IsBytes w (.slice AO r.length c) r) (hp : p.length ≤ 1000000000) (hr : r.length ≤ 1000000000) :
    Calls Try.prog 35 #[.string (strOf p), .slice AO r.length c] w fun e w' => e = .returned (.string (strOf (p ++ r))) ∧ Grows w w' := by
  have HV := hidden hv
  obtain ⟨n, hn⟩ : ∃ n, n = p.length := ⟨_, rfl⟩
  obtain ⟨m, hm⟩ : ∃ m, m = r.length := ⟨_, rfl⟩
  obtain ⟨N, hN⟩ : ∃ N, N = n + m := ⟨_, rfl⟩
  have hsz : (strOf p).size = n := by rw [hn]; rfl
  have hadd : (n : Int) + (m : Int) = (N : Int) := by omega
  have hmk := fun W => run_make_oneM (P := Try.prog) 26 5 (.int .u8 0) 1 Try.underlying26 info_u8 rfl N (by omega) (by omega) W
  have HZL := hidden (show (List.replicate N (Value.int .u8 0)).length = N from List.length_replicate)
  generalize List.replicate N (Value.int .u8 0) = Z at *
  have HR0 : Hid ((w.alloc (.cells Z.toArray 5)).heap[w.heap.size]? = some (.cells Z.toArray 5 (0, 0))) := heap_alloc_new w _
  have HB0 : Hid (Below w.heap.size w (w.alloc (.cells Z.toArray 5))) := (Below.refl _ _).alloc (Nat.le_refl _) _
  have HI := hidden (show (Try.prog.info? 5).map (·.size) = some 1 by kernel_rfl)
  have H1 := hidden (oneCell_bcells r)
  have HSP := hidden (show splice (splice Z 0 (bcells p)) n (bcells r) = bcells (p ++ r) by
    rw [bcells_append]
    exact splice2 Z _ _ n (by rw [bcells_length, hn]) (by rw [bcells_length, ← hm, HZL.out, hN]))
  have HNL := hidden (show N = (p ++ r).length by rw [List.length_append, hN, hn, hm])
  have HLP := hidden (show p.length = n from hn.symm)
  have HLR := hidden (show (bcells r).length = m by rw [bcells_length, hm])
  have HLS := hidden (show (splice Z 0 (bcells p)).length = N by rw [length_splice _ _ _ (by rw [bcells_length, HZL.out]; omega), HZL.out])
  have hNl : N ≤ 2000000000 := by omega
  have hnN : n ≤ N := by omega
  have hsub : N - n = m := by omega
  rw [← hm] at HV
  have HHN := hidden hN
  have HSRC := hidden (show 0 < m → ∃ ad, AO = some ad ∧ ∀ W, Grows w W → ∀ j v, (bcells r)[j]? = some v → W.cell? (ad.add j) = some v from fun h0 => by
    obtain ⟨A', c', he, hcell⟩ := HV.out
    injection he with e1 e2 e3
    obtain ⟨b, f, rfl, hc⟩ := hcell (by omega)
    subst e1
    refine ⟨_, rfl, fun W hW j v hj => ?_⟩
    have hjl : j < r.length := by
      rcases Nat.lt_or_ge j r.length with h | h
      · exact h
      · rw [List.getElem?_eq_none (by rw [bcells_length]; exact h)] at hj; cases hj
    have h1 := hc j hjl
    rw [Addr.add_lit, hW.cell (World.block_lt_of_cell? w _ h1), h1]
    simpa [bcells, hjl] using hj)
  rw [← hm]
  clear hv hn hm hp hr hN
  by_cases hm0 : N = n
  case' pos =>
    have HM0 := hidden (show m = 0 by have := HHN.out; omega)
    have hm0' := hm0.symm
    clear hm0
    subst hm0'
  case' neg => have HM0 := hidden (show 0 < m by have := HHN.out; omega)
  all_goals go_enter Try.func35, Try.ntmps35
  all_goals go_wp2_with (first
    | (refine wpList_copy_str (w := w.alloc (.cells Z.toArray 5)) rfl _ _ 26 9 rfl 5 Try.underlying26 HI.out w.heap.size 0 _ _ rfl p rfl Z 5 HR0.out (by rw [HLP.out]; exact hnN) (by rw [HLP.out, HZL.out]; omega) w.heap.size w HB0.out (Nat.le_refl _) ?_; intro w2 hg2 hb2; have HB2 := hidden hb2; clear hb2)
    | (refine wpList_copy_splice rfl (.tmp 18) (.tmp 19) 26 26 rfl 5 Try.underlying26 HI.out _ _ m m m c (by rfl) (by rfl) w.heap.size n (splice Z 0 (bcells p)) 5 hg2.out (bcells r) (by rw [HLR.out]; exact (Nat.min_self m).symm) (by intro h0; rw [HLR.out] at h0; first | (obtain ⟨ad, hA, hc⟩ := HSRC.out h0; exact ⟨rfl, ad, hA, hc _ HB2.out⟩) | (exfalso; have := HM0.out; omega)) (by rw [HLR.out, HLS.out, ← HHN.out]; exact Nat.le_refl _) H1.out w.heap.size w HB2.out (Nat.le_refl _) ?_; intro w3 hg3 hb3; have HB3 := hidden hb3; clear hb3)
    | (refine wpList_tostring rfl _ 26 9 5 rfl Try.underlying26 Try.underlying5 Try.underlying9 _ (p ++ r) rfl (IsBytes.of_row (show Row w3 w.heap.size 5 (bcells (p ++ r)) from by rw [← HSP.out]; exact hg3.out) _ _ HNL.out) ?_))
  all_goals (go_ret; exact ⟨rfl, HB3.out⟩)
end Go.Proofs.Ytcpdgkjelghlnaa
