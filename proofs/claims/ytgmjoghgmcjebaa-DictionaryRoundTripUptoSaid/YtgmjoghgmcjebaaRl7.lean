/-
  The reference's Encode of runs. Nothing that was there is changed.
-/
import Derived.Test.YtgmjoghgmcjebaaRl6
import Derived.Test.YtgmjoghgmcjebaaM6
import Derived.Test.YtgmjoghgmcjebaaCat
namespace Go.Proofs.Ytgmjoghgmcjebaa
open Go.RowKit
set_option linter.unusedVariables false
set_option linter.unusedSimpArgs false

theorem own_grow {w w' : World} {base : Nat} {e : TypeId} {size : Nat} {v : Value} {n : Nat} {xs : List Value} (h : w.ownsRow base e size v n xs) (hb : Grows w w') : w'.ownsRow base e size v n xs := by
  refine ⟨h.1, ?_⟩
  rcases h.2 with h0 | ⟨g, cap, cur, h1, h2, h3, h4⟩
  · exact .inl h0
  · exact .inr ⟨g, cap, cur, h1, h2, (hb.block g (Array.getElem?_eq_some_iff.1 h3).1).trans h3, h4⟩
/-- a row of byte slices of the call's own, each of the call's own -/
def PP (w : World) (base : Nat) (u : Value) (ps : List (List UInt8)) : Prop :=
  ∃ xs, w.ownsRow base 40 1 u ps.length xs ∧ ∀ j, (h : j < ps.length) → ∃ v, xs[j]? = some v ∧ w.ownsRow base 5 1 v ps[j].length (bcells ps[j])
theorem PP.grow {w w' : World} {base : Nat} {u : Value} {ps : List (List UInt8)} (h : PP w base u ps) (hb : Grows w w') : PP w' base u ps := by
  obtain ⟨xs, h1, h2⟩ := h
  refine ⟨xs, own_grow h1 hb, fun j hj => ?_⟩
  obtain ⟨v, h3, h4⟩ := h2 j hj
  exact ⟨v, h3, own_grow h4 hb⟩
theorem PP.shape {w : World} {base : Nat} {u : Value} {ps : List (List UInt8)} (h : PP w base u ps) : ∃ A c, u = .slice A ps.length c := by
  obtain ⟨xs, h1, _⟩ := h
  rcases h1.2 with ⟨rfl, h0⟩ | ⟨g, cap, cur, rfl, _⟩
  · exact ⟨none, 0, by rw [h0]⟩
  · exact ⟨_, cap, rfl⟩
theorem PP.parts {w : World} {base : Nat} {u : Value} {ps : List (List UInt8)} (h : PP w base u ps) : IsParts w u ps := by
  obtain ⟨xs, h1, h2⟩ := h
  have h0 := h1.2
  rcases h0 with ⟨rfl, h0⟩ | ⟨g, cap, cur, rfl, _⟩
  · exact ⟨none, 0, by rw [h0], fun h => by omega⟩
  · refine ⟨_, cap, rfl, fun _ => ⟨g, 0, rfl, fun j hj => ?_⟩⟩
    obtain ⟨v, h3, h4⟩ := h2 j hj
    have hc := h1.cells (g := g) rfl j v h3
    have hv := IsBytes.of_own h4
    obtain ⟨B, d, rfl, _⟩ := id hv
    refine ⟨B, d, ?_, hv⟩
    rw [Addr.add_lit] at hc
    exact hc
theorem one_own {w : World} {base : Nat} {e : TypeId} {v : Value} {n : Nat} {xs : List Value} (h : w.ownsRow base e 1 v n xs) : v.oneCell' = true := by
  rcases h.2 with ⟨rfl, _⟩ | ⟨g, cap, cur, rfl, _⟩ <;> rfl
theorem PP.one {w : World} {base : Nat} {z : Value} {p : List UInt8} (hz : w.ownsRow base 5 1 z p.length (bcells p)) (hb : base ≤ w.heap.size) :
    PP (w.alloc (.cells #[z] 40)) base (.slice (some ⟨w.heap.size, 0, none⟩) 1 1) [p] := by
  refine ⟨[z], (Row.new w 40 #[z] [z] rfl).own hb (by simp [maxLen]), fun j hj => ?_⟩
  match j, hj with
  | 0, _ => exact ⟨z, rfl, hz.alloc _⟩
theorem info_bytes : (Try.prog.info? 40).map (fun i => (i.zero, i.size, i.bytes)) = some (some (.slice none 0 0), 1, 24) := by kernel_rfl
theorem wpList_append_p {w0 wr : World} {ops : Array Oper} {rest : List Oper} {o : Oper} {a : Act} {Q : Exit → Act → World → Prop} (hgd : o.guard = none) (s x : Operand)
    (ho : o.op = .call { callee := .builtin .append, args := #[s, x], argTypes := #[61, 61] })
    (v : Value) (ps : List (List UInt8)) (base : Nat) (hs : a.eval s = v) (hpp : PP wr base v ps) (z : Value) (p : List UInt8) (hz : wr.ownsRow base 5 1 z p.length (bcells p)) (hb : Below base w0 wr) (hbase : base ≤ wr.heap.size)
    (hx : a.eval x = .slice (some ⟨wr.heap.size, 0, none⟩) 1 1) (hlen : ps.length + 1 ≤ 1000000000000)
    (h : ∀ v' w', PP w' base v' (ps ++ [p]) → Below base w0 w' → wpList Try.prog ops Q rest (a.put o.dst v') w') :
    wpList Try.prog ops Q (o :: rest) a (wr.alloc (.cells #[z] 40)) := by
  obtain ⟨i0, hi, hz0, hz1, hz2⟩ := info_parts info_bytes
  obtain ⟨xs, h1, h2⟩ := hpp
  have hown : (wr.alloc (.cells #[z] 40)).ownsRow base 40 1 v ps.length xs := h1.alloc _
  refine wpList_append_own _ hgd s x 61 ho base 40 i0 (.slice none 0 0) 1 24 Try.underlying61 hi hz0 hz1 hz2 rfl (by decide) v ps.length xs hs hown ⟨wr.heap.size, 0, none⟩ 1 1 [z] hx rfl ?_ ?_ ?_ ?_ ?_ ?_
  · intro j u hj
    match j, hj with
    | 0, hj => simp at hj; subst hj; simp [Addr.add]
  · intro u hu; simp at hu; subst hu; exact one_own hz
  · unfold maxLen; omega
  · omega
  · simp; omega
  · intro v' w' h3 h4 _
    refine h v' w' ⟨xs ++ [z], by rw [List.length_append]; exact h3, fun j hj => ?_⟩ ((hb.alloc hbase _).grown h4 (by simp; omega) (fun k hk => (h1.lt k hk).1))
    have hxl : xs.length = ps.length := by have := h1.1; omega
    have hne : ∀ {u : Value} {q : List UInt8}, wr.ownsRow base 5 1 u q.length (bcells q) → w'.ownsRow base 5 1 u q.length (bcells q) := fun hq =>
      (hq.alloc (.cells #[z] 40)).kept h4 (ownsRow_ne (hq.alloc _) hown (by decide))
    by_cases hj2 : j < ps.length
    · obtain ⟨u, h5, h6⟩ := h2 j hj2
      refine ⟨u, by rw [List.getElem?_append_left (by omega)]; exact h5, ?_⟩
      rw [List.getElem_append_left hj2]
      exact hne h6
    · have e : j = ps.length := by rw [List.length_append, List.length_singleton] at hj; omega
      subst e
      refine ⟨z, by rw [List.getElem?_append_right (by omega), hxl, Nat.sub_self]; rfl, ?_⟩
      rw [List.getElem_append_right (Nat.le_refl _)]
      simp only [Nat.sub_self, List.getElem_cons_zero]
      exact hne hz
/-- the parts of an encoding -/
def ptsR : Int → List Rn → List (List UInt8)
  | _, [] => []
  | last, x :: l => enc (zd x.1 last) :: enc x.2.toNat :: ptsR x.1 l
theorem pts_flat : ∀ (l : List Rn) (last : Int), (ptsR last l).flatten = encRs last l
  | [], _ => rfl
  | x :: l, last => by rw [ptsR, encRs, List.flatten_cons, List.flatten_cons, pts_flat l x.1]
def lastV (last : Int) : List Rn → Int
  | [] => last
  | x :: l => lastV x.1 l
theorem pts_snoc : ∀ (l : List Rn) (last : Int) (x : Rn), ptsR last (l ++ [x]) = ptsR last l ++ [enc (zd x.1 (lastV last l))] ++ [enc x.2.toNat]
  | [], _, _ => rfl
  | y :: l, last, x => by rw [List.cons_append, ptsR, ptsR, pts_snoc l y.1 x, lastV]; rfl
theorem lastV_snoc : ∀ (l : List Rn) (last : Int) (x : Rn), lastV last (l ++ [x]) = x.1
  | [], _, _ => rfl
  | y :: l, last, x => by rw [List.cons_append, lastV, lastV_snoc l y.1 x]
theorem lastV_in : ∀ (l : List Rn) (last : Int), in64 last → (∀ x ∈ l, in64 x.1) → in64 (lastV last l)
  | [], _, h, _ => h
  | y :: l, last, _, h => lastV_in l y.1 (h y (List.mem_cons_self ..)) fun x hx => h x (List.mem_cons_of_mem _ hx)
theorem pts_length : ∀ (l : List Rn) (last : Int), (ptsR last l).length = 2 * l.length
  | [], _ => rfl
  | x :: l, last => by rw [ptsR, List.length_cons, List.length_cons, pts_length l x.1, List.length_cons]; omega
def prtR (n : Nat) (l : List Rn) : List (List UInt8) := enc n :: ptsR 0 l
def REnRel (w : World) (l : List Rn) (out last i : Value) (wr : World) : Prop :=
  ∃ k : Nat, k ≤ l.length ∧ i = .int .i64 (k : Int) ∧ last = .int .i64 (lastV 0 (l.take k)) ∧ PP wr w.heap.size out (prtR l.length (l.take k)) ∧ Below w.heap.size w wr
set_option maxRecDepth 8000 in
set_option maxHeartbeats 4000000 in
theorem rlencode_any (v : Value) (l : List Rn) (w : World) (hv : ReadsR w v l) (hin : ∀ x ∈ l, in64 x.1) (hn : ∀ x ∈ l, 0 ≤ x.2 ∧ x.2 ≤ 9223372036854775807) (hl : l.length ≤ 1000000) :
    Calls Try.prog 37 #[v] w (Made (encR l) w) := by
  have HV := hidden hv
  have HIN := hidden hin
  have HNN := hidden hn
  obtain ⟨A, c, rfl⟩ := hv.slice_
  have HE0 := hidden (rencode_any (l.length : Int) w (by omega) (by omega))
  rw [Int.toNat_natCast] at HE0
  clear hv hin hn
  go_enter Try.func37, Try.ntmps37
  go_wp2_with fail
  refine HE0.out.mono ?_
  rintro e w1 ⟨v1, rfl, hown1, hb1⟩
  obtain ⟨A1, d1, rfl, _⟩ := IsBytes.of_own hown1
  have HP1 := hidden (PP.one hown1 hb1.size)
  have HB1 := hidden (hb1.alloc hb1.size (.cells #[.slice A1 (enc l.length).length d1] 40))
  clear hown1 hb1 HE0
  go_wp2_with fail
  go_loopw [3, 4, 5] (fun out last i wr => REnRel w l out last i wr) (fun _ _ i _ => l.length - (intOf i).toNat)
  case atStart => exact ⟨0, by omega, rfl, rfl, HP1.out, HB1.out⟩
  case round =>
    obtain ⟨k, hk, rfl, rfl, hpp, hb⟩ := hrel
    have HB := hidden hb
    have HPP := hidden hpp
    clear hpp hb
    by_cases hlt : k < l.length
    · have HAT := hidden (show ∃ b off, A = some ⟨b, off, none⟩ ∧ ∀ W, Grows w W → W.cell? ⟨b, off + k * 2, none⟩ = some (.int .i64 l[k].1) ∧ W.cell? ⟨b, off + k * 2 + 1, none⟩ = some (.int .i64 l[k].2) by
        obtain ⟨b, off, hA, _⟩ := HV.out.at_
        have hA' := hA (by omega)
        refine ⟨b, off, hA', fun W h => ?_⟩
        obtain ⟨b2, off2, hA2, hc2⟩ := (HV.out.grow h).at_
        have h3 := hA2 (by omega)
        rw [hA'] at h3
        injection h3 with h3
        injection h3 with h4 h5
        subst h4 h5
        exact hc2 k hlt)
      obtain ⟨b, off, rfl, hcells⟩ := HAT.out
      have HTK := hidden (show prtR l.length (l.take (k + 1)) = prtR l.length (l.take k) ++ [enc (zd l[k].1 (lastV 0 (l.take k)))] ++ [enc l[k].2.toNat] by
        unfold prtR
        rw [List.take_succ_eq_append_getElem hlt, pts_snoc]
        rfl)
      have HLV := hidden (show lastV 0 (l.take (k + 1)) = l[k].1 by rw [List.take_succ_eq_append_getElem hlt, lastV_snoc])
      have hla := lastV_in (l.take k) 0 (by unfold in64; omega) (fun x hx => HIN.out x (List.mem_of_mem_take hx))
      have hx1 := HIN.out _ (List.getElem_mem hlt)
      have hx2 := HNN.out _ (List.getElem_mem hlt)
      have HPL := hidden (show (prtR l.length (l.take k)).length ≤ 10000000 by unfold prtR; rw [List.length_cons, pts_length, List.length_take]; omega)
      obtain ⟨x1, e1⟩ : ∃ x, x = l[k].1 := ⟨_, rfl⟩
      obtain ⟨x2, e2⟩ : ∃ x, x = l[k].2 := ⟨_, rfl⟩
      rw [← e1] at hcells hx1 HTK HLV
      rw [← e2] at hcells hx2 HTK
      generalize lastV 0 (l.take k) = la at *
      generalize prtR l.length (l.take k) = ps at *
      have HCL := hidden hcells
      obtain ⟨c1, c2⟩ := hcells wr HB.out
      have hdf := difR_in x1 la
      have HZZ := hidden (fun W => rzigzag_any (difR x1 la) W hdf.1 (by have := hdf.2; omega))
      obtain ⟨hz1, hz2⟩ := zd_bd x1 la
      rw [hz1] at HZZ
      have HDF := hidden (show wrap64 (x1 - la) = difR x1 la from rfl)
      have HE1 := hidden (rencode_any ((zd x1 la : Nat) : Int) wr (by omega) (by omega))
      rw [Int.toNat_natCast] at HE1
      generalize zd x1 la = z at *
      have hsz := HB.out.size
      clear hcells e1 e2 hz1 hdf HAT
      go_wp2_with ((go_at_call 58; refine (HZZ.out _).mono ?_; rintro e w3 ⟨rfl, rfl⟩))
      refine HE1.out.mono ?_
      rintro e w2 ⟨v2, rfl, hown2, hb2⟩
      have HO2 := hidden (ownsRow_base hown2 hsz)
      have HPP2 := hidden (HPP.out.grow hb2)
      have HB2 := hidden (HB.out.trans (hb2.mono hsz))
      have hsz2 := HB2.out.size
      obtain ⟨A2, d2, rfl, _⟩ := IsBytes.of_own hown2
      obtain ⟨y1, y2⟩ := HCL.out w2 HB2.out
      clear hown2 hb2 c1 c2
      go_wp2_with ((at_builtin; go_loud (refine wpList_append_p rfl _ _ rfl _ ps w.heap.size (by rfl) HPP2.out _ (enc z) HO2.out HB2.out hsz2 (by rfl) (by have := HPL.out; omega) ?_); intro v3 w3 hp3 hb3; have HP3 := hidden hp3; have HB3 := hidden hb3; have q1 := (HCL.out w3 hb3).1; have q2 := (HCL.out w3 hb3).2; clear hp3 hb3 y1 y2))
      have hsz3 := HB3.out.size
      have HE4 := hidden (rencode_any x2 w3 hx2.1 (by omega))
      refine HE4.out.mono ?_
      rintro e w4 ⟨v4, rfl, hown4, hb4⟩
      have HO4 := hidden (ownsRow_base hown4 hsz3)
      have HPP4 := hidden (HP3.out.grow hb4)
      have HB4 := hidden (HB3.out.trans (hb4.mono hsz3))
      have hsz4 := HB4.out.size
      obtain ⟨A4, d4, rfl, _⟩ := IsBytes.of_own hown4
      obtain ⟨y1, y2⟩ := HCL.out w4 HB4.out
      clear hown4 hb4 q1 q2
      go_wp2_with ((at_builtin; go_loud (refine wpList_append_p rfl _ _ rfl _ (ps ++ [enc z]) w.heap.size (by rfl) HPP4.out _ (enc x2.toNat) HO4.out HB4.out hsz4 (by rfl) (by have := HPL.out; rw [List.length_append, List.length_singleton]; omega) ?_); intro v5 w5 hp5 hb5; have HP5 := hidden hp5; have HB5 := hidden hb5; have q1 := (HCL.out w5 hb5).1; have q2 := (HCL.out w5 hb5).2; clear hp5 hb5 y1 y2))
      refine ⟨⟨k + 1, by omega, by go_num, by rw [HLV.out], ?_, HB5.out⟩, by simp [intOf]; omega⟩
      rw [HTK.out]
      exact HP5.out
    · have hke : k = l.length := by omega
      subst hke
      have hpp := HPP.out
      rw [List.take_length] at hpp
      have hparts := hpp.parts
      have HPT := hidden hparts
      have hflat : (prtR l.length l).flatten = encR l := by unfold prtR encR; rw [List.flatten_cons, pts_flat]
      have htot : total (prtR l.length l) ≤ 140737488355328 := by unfold total; rw [hflat]; have := encR_len_le l; omega
      have hpl : (prtR l.length l).length ≤ maxLen := by unfold prtR maxLen; rw [List.length_cons, pts_length]; omega
      have HC := hidden (rconcat_any _ _ wr hparts hpl htot)
      rw [hflat] at HC
      have hsz := HB.out.size
      clear hpp hparts hflat htot hpl
      rw [List.take_length]
      go_wp2_with ((go_at_call 39; refine HC.out.mono ?_; rintro e w2 ⟨v2, rfl, hown2, hb2⟩; have HO2 := hidden (ownsRow_base hown2 hsz); have HB2 := hidden (HB.out.trans (hb2.mono hsz)); clear hown2 hb2))
      go_ret
      exact ⟨_, rfl, HO2.out, HB2.out⟩
end Go.Proofs.Ytgmjoghgmcjebaa
