/-
  Shaken: what the claims of this seat need of this text. No condition.
-/
import Derived.Test.YthmipnokimlbdaaGreatM16
import Derived.Test.YthmipnokimlbdaaGreatDcPack
namespace Go.Proofs.YthmipnokimlbdaaGreat
set_option maxRecDepth 20000
open Go.RowKit
set_option linter.unusedVariables false
set_option linter.unusedSimpArgs false
theorem wpList_append_gen {wr : World} {ops : Array Oper} {rest : List Oper} {o : Oper} {a : Act} {Q : Exit → Act → World → Prop} (hgd : o.guard = none) (s x : Operand) (t : TypeId)
    (ho : o.op = .call { callee := .builtin .append, args := #[s, x], argTypes := #[t, t] })
    (e : TypeId) (z0 : Value) (ht : Tryz.prog.underlying t = some (.slice e)) (hinfo : (Tryz.prog.info? e).map (fun i => (i.zero, i.size, i.bytes)) = some (some z0, 1, 8)) (hc : z0.cells.size = 1)
    (v : Value) (n : Nat) (xs : List Value) (hs : a.eval s = v) (base : Nat) (hown : wr.ownsRow base e 1 v n xs) (w0 : World) (hb : Below base w0 wr) (hbase : base ≤ wr.heap.size)
    (z : Value) (hone : z.oneCell' = true) (hx : a.eval x = .slice (some ⟨wr.heap.size, 0, none⟩) 1 1) (hlen : n + 1 ≤ 1000000000000)
    (h : ∀ v' w', w'.ownsRow base e 1 v' (n + 1) (xs ++ [z]) → Below base w0 w' → KeepsRows e wr w' → wpList Tryz.prog ops Q rest (a.put o.dst v') w') :
    wpList Tryz.prog ops Q (o :: rest) a (wr.alloc (.cells #[z] e)) := by
  obtain ⟨i0, hi, hz0, hz1, hz2⟩ := info_parts hinfo
  refine wpList_append_own _ hgd s x t ho base e i0 z0 1 8 ht hi hz0 hz1 hz2 hc (by decide) v n xs hs (hown.alloc _) ⟨wr.heap.size, 0, none⟩ 1 1 [z] hx rfl ?_ ?_ ?_ ?_ ?_ ?_
  · intro j u hj
    match j, hj with
    | 0, hj => simp at hj; subst hj; simp [Addr.add]
  · intro u hu; simp at hu; subst hu; exact hone
  · unfold maxLen; omega
  · omega
  · simp; omega
  · intro v' w' h1 h2 _
    exact h v' w' h1 ((hb.alloc hbase _).grown h2 (by simp; omega) (fun k hk => (hown.lt k hk).1))
      (fun b e' s' v2 n2 xs2 he hx2 => (hx2.alloc (.cells #[z] e)).kept h2 (ownsRow_ne (hx2.alloc (.cells #[z] e)) (hown.alloc (.cells #[z] e)) he))
theorem wpList_append_pk {w0 wr : World} {ops : Array Oper} {rest : List Oper} {o : Oper} {a : Act} {Q : Exit → Act → World → Prop} (hgd : o.guard = none) (s x : Operand)
    (ho : o.op = .call { callee := .builtin .append, args := #[s, x], argTypes := #[91, 91] })
    (v : Value) (ps : List (List UInt8)) (base : Nat) (hs : a.eval s = v) (hpp : PP wr base v ps) (z : Value) (p : List UInt8) (hz : wr.ownsRow base 5 1 z p.length (bcells p)) (hb : Below base w0 wr) (hbase : base ≤ wr.heap.size)
    (N : Nat) (hN : N = wr.heap.size) (hx : a.eval x = .slice (some ⟨N, 0, none⟩) 1 1) (hlen : ps.length + 1 ≤ 1000000000000)
    (h : ∀ v' w', PP w' base v' (ps ++ [p]) → Below base w0 w' → KeepsRows 29 wr w' → wpList Tryz.prog ops Q rest (a.put o.dst v') w') :
    wpList Tryz.prog ops Q (o :: rest) a (wr.alloc (.cells #[z] 29)) := by
  subst hN
  obtain ⟨i0, hi, hz0, hz1, hz2⟩ := info_parts info_bytes
  obtain ⟨xs, h1, h2⟩ := hpp
  have hown : (wr.alloc (.cells #[z] 29)).ownsRow base 29 1 v ps.length xs := h1.alloc _
  refine wpList_append_own _ hgd s x 91 ho base 29 i0 (.slice none 0 0) 1 24 Tryz.underlying91 hi hz0 hz1 hz2 rfl (by decide) v ps.length xs hs hown ⟨wr.heap.size, 0, none⟩ 1 1 [z] hx rfl ?_ ?_ ?_ ?_ ?_ ?_
  · intro j u hj
    match j, hj with
    | 0, hj => simp at hj; subst hj; simp [Addr.add]
  · intro u hu; simp at hu; subst hu; exact one_own hz
  · unfold maxLen; omega
  · omega
  · simp; omega
  · intro v' w' h3 h4 _
    refine h v' w' ⟨xs ++ [z], by rw [List.length_append]; exact h3, fun j hj => ?_⟩ ((hb.alloc hbase _).grown h4 (by simp; omega) (fun k hk => (h1.lt k hk).1))
      (fun b e' s' v2 n2 xs2 he hx2 => (hx2.alloc (.cells #[z] 29)).kept h4 (ownsRow_ne (hx2.alloc (.cells #[z] 29)) hown he))
    have hxl : xs.length = ps.length := by have := h1.1; omega
    have hne : ∀ {u : Value} {q : List UInt8}, wr.ownsRow base 5 1 u q.length (bcells q) → w'.ownsRow base 5 1 u q.length (bcells q) := fun hq =>
      (hq.alloc (.cells #[z] 29)).kept h4 (ownsRow_ne (hq.alloc _) hown (by decide))
    by_cases hj2 : j < ps.length
    · obtain ⟨u, h5, h6⟩ := h2 j hj2
      refine ⟨u, by rw [List.getElem?_append_left (by omega)]; exact h5, ?_⟩
      rw [List.getElem_append_left hj2]
      exact hne h6
    · have e : j = ps.length := by rw [List.length_append, List.length_singleton] at hj; omega
      subst e
      refine ⟨z, by rw [List.getElem?_append_right (by omega), hxl, Nat.sub_self]; rfl, ?_⟩
      rw [List.getElem_append_right (Nat.le_refl _)]
      simp only [Nat.sub_self, List.getElem_cons_zero]
      exact hne hz
def RE1Rel (w : World) (ws : List Str) (u i : Value) (wr : World) : Prop :=
  ∃ k : Nat, k ≤ ws.length ∧ i = .int .i64 (k : Int) ∧ PP wr w.heap.size u (enc ws.length :: (ws.take k).map wordL) ∧ Below w.heap.size w wr
def RE2Rel (w : World) (cs : List Nat) (u1 u2 i : Value) (wr : World) : Prop :=
  ∃ k : Nat, k ≤ cs.length ∧ i = .int .i64 (k : Int) ∧ wr.ownsRow w.heap.size 85 1 u1 k (wcells (cs.take k)) ∧ wr.ownsRow w.heap.size 2 1 u2 k (ncells (cs.take k)) ∧ Below w.heap.size w wr
set_option maxRecDepth 20000 in
set_option maxHeartbeats 8000000 in
theorem rencode10_any (v : Value) (vs : List Str) (w : World) (hv : IsS w v vs) (hl : vs.length ≤ 1000000) (hs : ∀ s ∈ vs, s.length ≤ 1000000) :
    Calls Tryz.prog 56 #[v] w (Made (encT vs) w) := by
  have HBU := hidden (rbuild10_any v vs w hv hl)
  obtain ⟨A, c, rfl⟩ := hv.slice_
  have hwl := wordsOf_length vs
  have HWS := hidden (fun s (h : s ∈ wordsOf vs) => hs s (mem_wordsOf.1 h))
  have HCB := hidden (show ∀ x ∈ codesW (wordsOf vs) vs, x ≤ 4611686018427387903 from fun x hx => by
    obtain ⟨s, hs1, rfl⟩ := List.mem_map.1 hx
    have := codeW_lt (mem_wordsOf.2 hs1)
    omega)
  have HCL := hidden (show (codesW (wordsOf vs) vs).length ≤ 1000000 by simp [codesW]; exact hl)
  have HET := hidden (show bytesW (wordsOf vs) ++ codesB (wordsOf vs).length (codesW (wordsOf vs) vs) = encT vs from rfl)
  have HEL := hidden (encT_len hl hs)
  generalize encT vs = E at *
  generalize hcs : codesW (wordsOf vs) vs = cs at *
  generalize hws : wordsOf vs = ws at *
  have HCS := hidden hcs
  have HWW := hidden hws
  have hcl := HCL.out
  clear hv hs hcs hws
  go_enter Tryz.func56, Tryz.ntmps56
  go_wp2_with fail
  refine HBU.out.mono ?_
  rintro e w1 ⟨v1, c1, rfl, g1, hS, hN⟩
  rw [HWW.out] at hS hN
  rw [HCS.out] at hN
  have HG1 := hidden g1
  have HN := hidden hN
  have HS := hidden hS
  have HE1 := hidden (rencode_any (ws.length : Int) w1 (by omega) (by omega))
  rw [Int.toNat_natCast] at HE1
  obtain ⟨A1, d1, rfl⟩ := hS.slice_
  obtain ⟨A9, d9, rfl⟩ := hN.slice_
  clear hS hN g1
  go_wp2_with fail
  refine HE1.out.mono ?_
  rintro e w2 ⟨v2, rfl, hown2, g2⟩
  obtain ⟨A2, d2, rfl⟩ := own_sliceB hown2
  have HP2 := hidden (PP.one hown2 g2.size)
  have HB2 := hidden (g2.alloc g2.size (.cells #[.slice A2 (enc ws.length).length d2] 29))
  clear hown2 g2
  go_wp2_with fail
  go_loopw [5, 6] (fun u i wr => RE1Rel w1 ws u i wr) (fun _ i _ => ws.length - (intOf i).toNat)
  case atStart => exact ⟨0, by omega, rfl, by simpa using HP2.out, HB2.out⟩
  case round =>
    obtain ⟨k, hk, rfl, hpp, hb⟩ := hrel
    have HPP := hidden hpp
    have HB := hidden hb
    obtain ⟨A3, d3, rfl⟩ := hpp.shape
    clear hpp hb
    by_cases hlt : k < ws.length
    · obtain ⟨b, f, rfl, hck⟩ := (HS.out.grow (show Grows w1 wr from HB.out)).at_ hlt
      have hsl := HWS.out _ (List.getElem_mem hlt)
      have HTX := hidden (rtext10_any ws[k] wr hsl)
      have HTK := hidden (show enc ws.length :: (ws.take (k + 1)).map wordL = (enc ws.length :: (ws.take k).map wordL) ++ [wordL ws[k]] by
        rw [List.take_succ_eq_append_getElem hlt, List.map_append]; rfl)
      have HPL := hidden (show (enc ws.length :: (ws.take k).map wordL).length + 1 ≤ 1000000000000 by simp; omega)
      generalize enc ws.length :: (ws.take k).map wordL = ps at *
      have hsz := HB.out.size
      generalize wordL ws[k] = wl at *
      generalize ws[k] = s at *
      go_wp2_with fail
      refine HTX.out.mono ?_
      rintro e w3 ⟨v3, rfl, hown3, g3⟩
      have HO3 := hidden (ownsRow_base hown3 hsz)
      have HPP3 := hidden (HPP.out.grow (show Grows wr w3 from g3))
      have HB3 := hidden (HB.out.trans (g3.mono hsz))
      have hsz3 := HB3.out.size
      obtain ⟨A4, d4, rfl⟩ := own_sliceB hown3
      clear hown3 g3 hck
      go_wp2_with ((at_builtin; go_loud (refine wpList_append_p rfl _ _ rfl _ ps w1.heap.size (by rfl) HPP3.out _ wl HO3.out HB3.out hsz3 (by rfl) HPL.out ?_); intro v5 w5 hp5 hb5; have HP5 := hidden hp5; have HB5 := hidden hb5; clear hp5 hb5))
      first
        | (go_roundw; (case rel => exact ⟨k + 1, by omega, by go_num, by rw [HTK.out]; exact HP5.out, HB5.out⟩); (case measure => simp [intOf]; omega))
        | exact ⟨⟨k + 1, by omega, by go_num, by rw [HTK.out]; exact HP5.out, HB5.out⟩, by simp [intOf]; omega⟩
    · have hke : k = ws.length := by omega
      have hps : enc ws.length :: (ws.take k).map wordL = enc ws.length :: ws.map wordL := by rw [hke, List.take_length]
      have HPL := hidden (show (enc ws.length :: (ws.take k).map wordL).length ≤ 2000000 by rw [hps]; simp; omega)
      have HPF := hidden (show (enc ws.length :: (ws.take k).map wordL).flatten = bytesW ws by rw [hps]; simp [bytesW, wordsL])
      clear hps
      generalize enc ws.length :: (ws.take k).map wordL = ps at *
      obtain ⟨wo, rfl⟩ : ∃ wo : World, wo = wr := ⟨_, rfl⟩
      clear hke
      have HGO := hidden (show Grows w1 wo from HB.out)
      have HCC := hidden (show 0 < cs.length → ∃ b f, A9 = some ⟨b, f, none⟩ ∧ ∀ W, Grows wo W → ∀ k, (hk : k < cs.length) → W.cell? ⟨b, f + k, none⟩ = some (.int .i64 (cs[k] : Int)) from fun h0 => by
        obtain ⟨b, f, he, _⟩ := HN.out.at_ h0
        refine ⟨b, f, he, fun W hW k hk => ?_⟩
        obtain ⟨b2, f2, he2, hc⟩ := (HN.out.grow (HGO.out.of_below hW)).at_ hk
        rw [he] at he2
        injection he2 with he2
        injection he2 with e1 e2
        subst e1 e2
        exact hc)
      go_wp2_with fail
      go_loopw [7, 8, 9] (fun u1 u2 i wr => RE2Rel wo cs u1 u2 i wr) (fun _ _ i _ => cs.length - (intOf i).toNat)
      case atStart => exact ⟨0, by omega, rfl, ⟨rfl, .inl ⟨rfl, rfl⟩⟩, ⟨rfl, .inl ⟨rfl, rfl⟩⟩, Below.refl _ _⟩
      case round =>
        obtain ⟨j, hj, rfl, ho1, ho2, hb⟩ := hrel
        have HB2 := hidden (show Grows wo wr from hb)
        have HO1 := hidden ho1
        have HO2 := hidden ho2
        clear ho1 ho2 hb
        by_cases hlt2 : j < cs.length
        · obtain ⟨b, f, rfl, hcell⟩ := HCC.out (by omega)
          have HCL2 := hidden (show ∀ W, Grows wo W → W.cell? ⟨b, f + j, none⟩ = some (.int .i64 (cs[j] : Int)) from fun W hW => hcell W hW j hlt2)
          have hcx := HCB.out _ (List.getElem_mem hlt2)
          have HTU := hidden (show wcells (cs.take (j + 1)) = wcells (cs.take j) ++ [.int .u64 (cs[j] : Int)] by rw [List.take_succ_eq_append_getElem hlt2, wcells_snoc])
          have HTI := hidden (show ncells (cs.take (j + 1)) = ncells (cs.take j) ++ [.int .i64 (cs[j] : Int)] by rw [List.take_succ_eq_append_getElem hlt2, ncells_snoc])
          generalize cs[j] = x at *
          have c1 := HCL2.out wr HB2.out
          have hsz := HB2.out.size
          clear hcell
          go_wp2_with (first
            | (at_builtin; refine wpList_append_gen rfl _ _ 52 rfl 85 (.int .u64 0) Tryz.underlying52 (by kernel_rfl) rfl _ j (wcells (cs.take j)) (by rfl) wo.heap.size HO1.out wo HB2.out hsz _ rfl (by rfl) (by omega) ?_; intro v3 w3 hown3 hb3 hk3; have HO3 := hidden hown3; have HB3 := hidden hb3; have HO23 := hidden (hk3 _ _ _ _ _ _ (by decide) HO2.out); have c3 := HCL2.out w3 hb3; have hsz3 := hb3.size; clear hown3 hb3 hk3 c1)
            | (at_builtin; refine wpList_append_gen rfl _ _ 22 rfl 2 (.int .i64 0) Tryz.underlying22 (by kernel_rfl) rfl _ j (ncells (cs.take j)) (by rfl) wo.heap.size HO23.out wo HB3.out hsz3 _ rfl (by rfl) (by omega) ?_; intro v4 w4 hown4 hb4 hk4; have HO4 := hidden hown4; have HB4 := hidden hb4; have HO34 := hidden (hk4 _ _ _ _ _ _ (by decide) HO3.out); clear hown4 hb4 hk4))
          first
            | (go_roundw; (case rel => exact ⟨j + 1, by omega, by go_num, by rw [HTU.out]; exact HO34.out, by rw [HTI.out]; exact HO4.out, HB4.out⟩); (case measure => simp [intOf]; omega))
            | exact ⟨⟨j + 1, by omega, by go_num, by rw [HTU.out]; exact HO34.out, by rw [HTI.out]; exact HO4.out, HB4.out⟩, by simp [intOf]; omega⟩
        · have hje : j = cs.length := by omega
          have HIW := hidden (show IsW wr u7 cs by
            have h := HO1.out
            rw [hje, List.take_length] at h
            exact Reads.of_own h)
          have HII := hidden (show IsI wr u8 (intsL cs) by
            have h := HO2.out
            rw [hje, List.take_length, show ncells cs = icells (intsL cs) by simp [ncells, icells, intsL]] at h
            exact Reads.of_own h)
          obtain ⟨m, hm⟩ : ∃ m, m = widW ws.length := ⟨_, rfl⟩
          have HM64 := hidden (show m ≤ 64 from hm ▸ widW_le (by omega))
          have HRW := hidden (rwidth10_any ws.length wr (by omega))
          have HCB0 := hidden (show codesB ws.length cs = if (encR (runsR (intsL cs))).length < (packL cs (widW ws.length)).length then 1 :: encR (runsR (intsL cs)) else 0 :: packL cs (widW ws.length) from rfl)
          have HPLN := hidden (packL_len (cs := cs) (m := widW ws.length) (by omega) (widW_le (by omega)))
          rw [← hm] at HRW HCB0 HPLN
          have HPK := hidden (rpackM_any u7 cs (m : Int) wr HIW.out (fun x hx => by have := HCB.out x hx; omega) (by omega))
          have HPE := hidden (show packI cs (m : Int) = packL cs m by unfold packI; rw [okB_t (by omega) HM64.out, Int.toNat_natCast]; rfl)
          rw [HPE.out] at HPK
          have HRU := hidden (fun W (h : Grows wr W) => rlruns_any u8 (intsL cs) W (HII.out.grow h) (by rw [intsL_length]; omega))
          have HRE := hidden (fun W u (hu : ReadsR W u (runsR (intsL cs))) => rlencode_any u (runsR (intsL cs)) W hu (runs_inI HCB.out) (runs_cnt cs (by omega)) (by
            have h2 := (runsR_len (intsL cs) (Nat.le_refl _)).2
            rw [List.take_length, intsL_length] at h2
            omega))
          have HRL := hidden (runs_len cs)
          generalize packL cs m = P at *
          generalize encR (runsR (intsL cs)) = E1 at *
          have HBW := hidden (HB.out.trans (HB2.out.mono HB.out.size))
          clear hje hm
          go_wp2_with fail
          refine HRW.out.mono ?_
          rintro e w4 ⟨rfl, rfl⟩
          go_wp2_with fail
          refine HPK.out.mono ?_
          rintro e w5 ⟨v5, rfl, hown5, g5⟩
          have HO5 := hidden hown5
          have HG5 := hidden (show Grows wr w5 from g5)
          have HRU5 := hidden (HRU.out w5 g5)
          obtain ⟨A5, d5, rfl⟩ := own_sliceB hown5
          clear hown5 g5
          go_wp2_with fail
          refine HRU5.out.mono ?_
          rintro e w6 ⟨u6', rfl, g6, hr6⟩
          have HG6 := hidden (HG5.out.of_below g6)
          have HO6 := hidden (own_growS HO5.out g6)
          have HRE6 := hidden (HRE.out w6 u6' hr6)
          clear g6 hr6
          go_wp2_with fail
          refine HRE6.out.mono ?_
          rintro e w7 ⟨v7, rfl, hown7, g7⟩
          have HG7 := hidden (HG6.out.of_below (show Grows w6 w7 from g7))
          have HSW := hidden (show w1.heap.size ≤ wr.heap.size from HBW.out.size)
          have HS6 := hidden (show w1.heap.size ≤ w6.heap.size by have := HSW.out; have := HG6.out.size; omega)
          have HOP := hidden (ownsRow_base (own_growS HO6.out (show Grows w6 w7 from g7)) HSW.out)
          have HOE := hidden (ownsRow_base hown7 HS6.out)
          have HPP7 := hidden (HPP.out.grow (HB2.out.of_below HG7.out))
          have HB7 := hidden (HBW.out.trans (HG7.out.mono HSW.out))
          have HS7 := hidden HB7.out.size
          obtain ⟨A7, d7, rfl⟩ := own_sliceB hown7
          clear hown7 g7
          by_cases hsh : E1.length < P.length
          · have HCB1 := hidden (show codesB ws.length cs = 1 :: E1 by rw [HCB0.out, if_pos hsh])
            have HZ1 := hidden (show (w7.alloc (.cells #[.int .u8 1] 5)).ownsRow w1.heap.size 5 1 (.slice (some ⟨w7.heap.size, 0, none⟩) 1 1) ([1] : List UInt8).length (bcells [1]) from (Row.new w7 5 #[.int .u8 1] (bcells [1]) rfl).own HS7.out (by simp [maxLen, bcells]))
            have HPP8 := hidden (HPP7.out.grow (growA (.cells #[.int .u8 1] 5)))
            have HB8 := hidden (HB7.out.trans ((growA (.cells #[.int .u8 1] 5)).mono HS7.out))
            have HS8 := hidden HB8.out.size
            have HO8 := hidden (HOE.out.alloc (.cells #[.int .u8 1] 5))
            have hd8 : decide (E1.length < P.length) = true := by simp; omega
            have tok1 : True := trivial
            go_wp2_with (first
              | (at_builtin; have _t := tok1; refine wpList_append_pk rfl _ _ rfl _ ps w1.heap.size (by rfl) HPP8.out _ [1] HZ1.out HB8.out HS8.out (w7.heap.size + 1) (World.size_alloc _ _).symm (by rfl) (by have := HPL.out; omega) ?_; intro v9 w9 hp9 hb9 hk9; have HP9 := hidden hp9; have HB9 := hidden hb9; have HO9 := hidden (hk9 _ _ _ _ _ _ (by decide) HO8.out); have HS9 := hidden hb9.size; clear hp9 hb9 hk9 tok1)
              | (at_builtin; refine wpList_append_pk rfl _ _ rfl _ (ps ++ [[1]]) w1.heap.size (by rfl) HP9.out _ E1 HO9.out HB9.out HS9.out _ rfl (by rfl) (by have := HPL.out; rw [List.length_append, List.length_singleton]; omega) ?_; intro v10 w10 hp10 hb10 _; have HP10 := hidden hp10; have HB10 := hidden hb10; clear hp10 hb10))
            have HFL := hidden (show (ps ++ [[1]] ++ [E1]).flatten = E by rw [← HET.out, HCB1.out]; simp [HPF.out])
            have HCC2 := hidden (rconcat_any v10 (ps ++ [[1]] ++ [E1]) w10 HP10.out.parts (by have := HPL.out; simp only [List.length_append, List.length_singleton]; unfold maxLen; omega) (by unfold total; rw [HFL.out]; have := HEL.out; omega))
            refine HCC2.out.mono ?_
            rintro e w11 ⟨v11, rfl, hown11, g11⟩
            have HO11 := hidden hown11
            have HG11 := hidden (Grows.of_below (HG1.out.of_below (show Grows w1 w10 from HB10.out)) (show Grows w10 w11 from g11))
            have HSZ11 := hidden (show w.heap.size ≤ w10.heap.size by have := HG1.out.size; have := HB10.out.size; omega)
            clear hown11 g11
            go_wp2_with fail
            go_ret
            have h := HO11.out
            rw [HFL.out] at h
            exact ⟨_, rfl, ownsRow_base h HSZ11.out, HG11.out⟩
          · have HCB1 := hidden (show codesB ws.length cs = 0 :: P by rw [HCB0.out, if_neg hsh])
            have HZ1 := hidden (show (w7.alloc (.cells #[.int .u8 0] 5)).ownsRow w1.heap.size 5 1 (.slice (some ⟨w7.heap.size, 0, none⟩) 1 1) ([0] : List UInt8).length (bcells [0]) from (Row.new w7 5 #[.int .u8 0] (bcells [0]) rfl).own HS7.out (by simp [maxLen, bcells]))
            have HPP8 := hidden (HPP7.out.grow (growA (.cells #[.int .u8 0] 5)))
            have HB8 := hidden (HB7.out.trans ((growA (.cells #[.int .u8 0] 5)).mono HS7.out))
            have HS8 := hidden HB8.out.size
            have HO8 := hidden (HOP.out.alloc (.cells #[.int .u8 0] 5))
            have hd8 : decide (E1.length < P.length) = false := by simp; omega
            have tok1 : True := trivial
            go_wp2_with (first
              | (at_builtin; have _t := tok1; refine wpList_append_pk rfl _ _ rfl _ ps w1.heap.size (by rfl) HPP8.out _ [0] HZ1.out HB8.out HS8.out (w7.heap.size + 1) (World.size_alloc _ _).symm (by rfl) (by have := HPL.out; omega) ?_; intro v9 w9 hp9 hb9 hk9; have HP9 := hidden hp9; have HB9 := hidden hb9; have HO9 := hidden (hk9 _ _ _ _ _ _ (by decide) HO8.out); have HS9 := hidden hb9.size; clear hp9 hb9 hk9 tok1)
              | (at_builtin; refine wpList_append_pk rfl _ _ rfl _ (ps ++ [[0]]) w1.heap.size (by rfl) HP9.out _ P HO9.out HB9.out HS9.out _ rfl (by rfl) (by have := HPL.out; rw [List.length_append, List.length_singleton]; omega) ?_; intro v10 w10 hp10 hb10 _; have HP10 := hidden hp10; have HB10 := hidden hb10; clear hp10 hb10))
            have HFL := hidden (show (ps ++ [[0]] ++ [P]).flatten = E by rw [← HET.out, HCB1.out]; simp [HPF.out])
            have HCC2 := hidden (rconcat_any v10 (ps ++ [[0]] ++ [P]) w10 HP10.out.parts (by have := HPL.out; simp only [List.length_append, List.length_singleton]; unfold maxLen; omega) (by unfold total; rw [HFL.out]; have := HEL.out; omega))
            refine HCC2.out.mono ?_
            rintro e w11 ⟨v11, rfl, hown11, g11⟩
            have HO11 := hidden hown11
            have HG11 := hidden (Grows.of_below (HG1.out.of_below (show Grows w1 w10 from HB10.out)) (show Grows w10 w11 from g11))
            have HSZ11 := hidden (show w.heap.size ≤ w10.heap.size by have := HG1.out.size; have := HB10.out.size; omega)
            clear hown11 g11
            go_wp2_with fail
            go_ret
            have h := HO11.out
            rw [HFL.out] at h
            exact ⟨_, rfl, ownsRow_base h HSZ11.out, HG11.out⟩
end Go.Proofs.YthmipnokimlbdaaGreat
