/-
  Texts that the claims of this seat share, put together (DcShelf, DcBuild, DcRB). No condition.
-/
import Derived.Test.YthmipnokimlbdaaGreatDcLay
import Derived.Test.YthmipnokimlbdaaGreatDcS
import Derived.Test.YthmipnokimlbdaaGreatM10
import Derived.Maps.OwnOps
import Derived.Maps.Range
import Derived.Maps.Views
/-
  Shaken: what the claims of this seat need of this text. No condition.
-/
namespace Go.Proofs.YthmipnokimlbdaaGreat
set_option maxRecDepth 8000
open Go.RowKit Go.Maps Go.Sort Go.Shelf
set_option linter.unusedVariables false
set_option linter.unusedSimpArgs false
theorem lib_keys (mb : Option Nat) (W : World) : Calls Tryz.prog 210 #[.map mb] W fun e w' => e = .returned (.func (.func 224) #[] #[.pointer (some ⟨W.heap.size, 0, none⟩)]) ∧ w' = W.alloc (.cells #[.map mb] 219) :=
  callsIn_wide.1 (Tryz.maps_Keys_210 mb W)
theorem lib_sorted {H : Type} (b nn : Nat) (D0 : DataW H) (R : Value → Option (DataW H × List MemPlace)) (w : World) (hown : w.ownsMap Tryz.prog 9 R b nn D0) (hmax : Maps.size D0 ≤ maxLen) (hbytes : Maps.size D0 * 16 ≤ 140737488355328) (vs : List Str)
    (hkeys : ∀ ss : List Str, ss.Perm (strKeys D0) → ss.Nodup ∧ ∀ x, x ∈ ss ↔ x ∈ vs) :
    Calls Tryz.prog 209 #[.func (.func 224) #[] #[.pointer (some ⟨w.heap.size, 0, none⟩)]] (w.alloc (.cells #[.map (some b)] 219)) fun e w' => ∃ v, e = .returned v ∧
      IsS w' v (wordsOf vs) ∧ Grows (w.alloc (.cells #[.map (some b)] 219)) w' := by
  refine (callsIn_wide.1 (Tryz.slices_Sorted_keys_209_210 b nn D0 R w hown hmax hbytes)).mono ?_
  rintro e w' ⟨v, ss, rfl, hp, hrow, _, hb⟩
  obtain ⟨h1, h2⟩ := hkeys ss hp
  refine ⟨v, rfl, ?_, hb⟩
  rw [sorted_words h1 h2] at hrow
  exact Reads.of_own hrow
end Go.Proofs.YthmipnokimlbdaaGreat
/-
  Shaken: what the claims of this seat need of this text. No condition.
-/
namespace Go.Proofs.YthmipnokimlbdaaGreat
set_option maxRecDepth 20000
open Go.RowKit Go.Maps
set_option linter.unusedVariables false
set_option linter.unusedSimpArgs false
theorem run_make_rep {P : Program} (t e : TypeId) (z : Value) (bytes : Nat) (ht : P.underlying t = some (.slice e)) (hinfo : (P.info? e).map (fun i => (i.zero, i.size, i.bytes)) = some (some z, 1, bytes)) (hz : z.cells = #[z])
    (s : Nat) (hs : s ≤ 281474976710656) (hb : bytes * s ≤ 281474976710656) (W : World) :
    (Instr.makeSlice t (.int .i64 (s : Int)) (.int .i64 (s : Int))).run P W = .ok (.slice (some ⟨W.heap.size, 0, none⟩) s s) (W.alloc (.cells (List.replicate s z).toArray e)) := by
  obtain ⟨i0, hi, hz0, hz1, hz2⟩ := info_parts hinfo
  have hbs : (i0.bytes : Int) * (s : Int) ≤ 281474976710656 := by
    rw [hz2]
    have : ((bytes * s : Nat) : Int) ≤ 281474976710656 := by omega
    rwa [Int.natCast_mul] at this
  have h := run_make (P := P) W t e i0 z ht hi hz0 .i64 .i64 (s : Int) (s : Int) (by omega) (by omega) hbs (by omega)
  rw [hz1, hz] at h
  have e1 : madeCells #[z] s = (List.replicate s z).toArray := by
    apply Array.toList_inj.1
    rw [toList_madeCells_one]
  simpa [e1] using h
theorem info_strD : (Tryz.prog.info? 9).map (fun i => (i.zero, i.size, i.bytes)) = some (some (.string ⟨#[]⟩), 1, 16) := by kernel_rfl
abbrev DU := DataW Unit
theorem lawStr : Keyed Tryz.prog 9 := string_keyed Tryz.underlying9
theorem zeroInt (w : World) : (zeroValue 3).run Tryz.prog w = .ok (.int .i64 0) w := by kernel_rfl
theorem keyS {s : Str} (h : s.length ≤ maxLen) : keyOf Tryz.prog 9 (.string (strOf s)) = some (.string s) := Go.WideMaps.keyOf_string_mk (s := strOf s) Tryz.underlying9 (by rw [strOf_size']; exact h)
theorem isKeyS (s : Str) : WideAt.IsKeyLit (.string s) := trivial
theorem lit_ne {s t : Str} (h : s ≠ t) : (Lit.string s) ≠ .string t := fun e => h (by injection e)
theorem ownsMap_grow {w w' : World} {P : Program} {k : TypeId} {R : Value → Option (DU × List MemPlace)} {b n : Nat} {D : DU} (h : w.ownsMap P k R b n D) (hb : Grows w w') : w'.ownsMap P k R b n D := by
  have hlt := h.lt
  obtain ⟨es, clock, h1, h2⟩ := h
  exact ⟨es, clock, (hb.block b hlt).trans h1, h2⟩
theorem Reads.keepMap {w w' : World} {P : Program} {k : TypeId} {R : Value → Option (DU × List MemPlace)} {b n : Nat} {D : DU} {v : Value} {xs : List Value} (h : Reads w v xs) (hm : w.ownsMap P k R b n D) (hg : w.grownBy w' (some b)) : Reads w' v xs := by
  obtain ⟨A, c, rfl, hle, hc⟩ := h
  refine ⟨A, c, rfl, hle, fun hl => ?_⟩
  obtain ⟨b2, off, rfl, hcell⟩ := hc hl
  refine ⟨b2, off, rfl, fun j hj => ?_⟩
  have h1 := hcell j hj
  rw [List.getElem?_eq_getElem hj] at h1 ⊢
  have hlt := World.block_lt_of_cell? w _ h1
  have hne : b2 ≠ b := by
    rintro rfl
    obtain ⟨es, clock, hb, _⟩ := hm
    simp [World.cell?, hb] at h1
  have hbl := hg.block b2 hlt (fun e => hne (by injection e))
  simp only [World.cell?, hbl] at h1 ⊢
  exact h1
theorem Row.keepMap {w w' : World} {P : Program} {k : TypeId} {R : Value → Option (DU × List MemPlace)} {b n : Nat} {D : DU} {g : Nat} {e : TypeId} {xs : List Value} (h : Row w g e xs) (hm : w.ownsMap P k R b n D) (hg : w.grownBy w' (some b)) : Row w' g e xs := by
  have hne : g ≠ b := by
    rintro rfl
    obtain ⟨es, clock, hb, _⟩ := hm
    unfold Row at h
    rw [hb] at h
    cases h
  exact (hg.block g h.lt (fun e => hne (by injection e))).trans h
theorem size_of_owns {w : World} {P : Program} {k : TypeId} {R : Value → Option (DU × List MemPlace)} {b n : Nat} {D : DU} (h : w.ownsMap P k R b n D) : Maps.size D ≤ n := by
  obtain ⟨es, clock, _, _, hs, rfl⟩ := h
  rw [size_eq, length_sorted]
  simpa using hs
def mapD (vs : List Str) : DU := setOf (.lit (.int .i64 0)) (vs.map Lit.string)
theorem mapD_snoc (vs : List Str) (s : Str) : mapD (vs ++ [s]) = (mapD vs).put (.string s) (.lit (.int .i64 0)) := by
  unfold mapD
  rw [List.map_append, List.map_cons, List.map_nil, setOf_snoc]
theorem mapD_key (vs : List Str) : ∀ x ∈ vs.map Lit.string, WideAt.IsKeyLit x := by
  intro x hx
  obtain ⟨s, _, rfl⟩ := List.mem_map.1 hx
  trivial
theorem mapD_has (vs : List Str) (s : Str) : Maps.has (mapD vs) (.string s) = true ↔ s ∈ vs := by
  unfold mapD
  rw [has_setOf _ _ _ (mapD_key vs), List.any_eq_true]
  constructor
  · rintro ⟨x, hx, hk⟩
    obtain ⟨t, ht, rfl⟩ := List.mem_map.1 hx
    rcases Classical.em (t = s) with rfl | hne
    · exact ht
    · rw [sameKey_ne (lit_ne hne)] at hk; cases hk
  · intro h
    refine ⟨.string s, List.mem_map.2 ⟨s, h, rfl⟩, ?_⟩
    simp [Lit.sameKey]
theorem mapD_keys {w : World} {b n : Nat} {vs : List Str} (h : w.ownsMap Tryz.prog 9 (plainElem Tryz.prog 3) b n (mapD vs)) (ss : List Str) (hp : ss.Perm (strKeys (mapD vs))) : ss.Nodup ∧ ∀ x, x ∈ ss ↔ x ∈ vs := by
  obtain ⟨es, hD, hpw, _⟩ := h.entries lawStr
  obtain ⟨es', hD', hks⟩ := h.keysOf
  rw [hD] at hD'
  injection hD' with hD'
  subst hD'
  have hwp : (wordsOf vs).Perm (strKeys (mapD vs)) := by
    rw [hD]
    refine perm_strKeys hpw (fun p hp => ?_) (rising_nodup (wordsOf_rising vs)) fun x => ?_
    · obtain ⟨v, hv⟩ := hks p hp
      obtain ⟨x, _, hx, _⟩ := keyOf_str Tryz.underlying9 hv
      exact ⟨x, hx⟩
    · rw [← hD, mapD_has, mem_wordsOf]
  have h2 := hp.trans hwp.symm
  exact ⟨h2.nodup_iff.2 (rising_nodup (wordsOf_rising vs)), fun x => by rw [h2.mem_iff, mem_wordsOf]⟩
def CodeD (D : DU) (ws : List Str) (j : Nat) : Prop := IsMap D ∧ ∀ i, (h : i < ws.length) → i < j → ∀ z, D.atKey (.string ws[i]) z = .lit (.int .i64 (i : Int))
theorem CodeD.step {D : DU} {ws : List Str} {j : Nat} (h : CodeD D ws j) (hr : RisingL ws) (hj : j < ws.length) : CodeD (D.put (.string ws[j]) (.lit (.int .i64 (j : Int)))) ws (j + 1) := by
  refine ⟨h.1.put _ _, fun i hi hij z => ?_⟩
  rcases Nat.lt_or_ge i j with q | q
  · rw [atKey_put_other (lit_ne (slt_ne (rising_get hr hi hj q)))]
    exact h.2 i hi q z
  · obtain rfl : i = j := by omega
    exact atKey_put_same h.1 (isKeyS _) _ _
theorem CodeD.code {D : DU} {ws : List Str} (h : CodeD D ws ws.length) {s : Str} (hs : s ∈ ws) (z : DU) : D.atKey (.string s) z = .lit (.int .i64 (codeW ws s : Int)) := by
  have h1 := h.2 _ (codeW_lt hs) (codeW_lt hs) z
  rwa [codeW_get hs] at h1
set_option maxHeartbeats 1000000 in
theorem look_any (b0 b1 n : Nat) (D : DU) (s : Str) (c : Int) (w : World) (hrow : Row w b1 219 [.map (some b0)]) (hown : w.ownsMap Tryz.prog 9 (plainElem Tryz.prog 3) b0 n D) (hs : s.length ≤ maxLen) (hat : ∀ z, D.atKey (.string s) z = .lit (.int .i64 c)) :
    Calls Tryz.prog 211 #[.string (strOf s), .pointer (some ⟨b1, 0, none⟩)] w fun e w' => e = .returned (.int .i64 c) ∧ w = w' := by
  have hc := hrow.cell 0
  simp only [List.getElem?_cons_zero] at hc
  have HAT := hidden hat
  have HOWN := hidden hown
  have hkey := keyS hs
  have HKEY := hidden hkey
  clear hrow hat hown hs hkey
  go_enter Tryz.func211, Tryz.ntmps211
  go_wp2_with ((at_lookup; refine wpList_lookup_own_int _ rfl _ _ 219 rfl 9 3 .i64 lawStr Tryz.underlying219 Tryz.underlying3 (zeroInt _) b0 n _ rfl HOWN.out _ _ rfl HKEY.out ?_; intro c' hat' hwc'; have HA' := hidden hat'; clear hat'))
  go_ret
  have h1 := HA'.out
  rw [HAT.out] at h1
  injection h1 with h1
  injection h1 with _ h1
  exact ⟨by rw [h1]; rfl, rfl⟩
theorem info_intD : (Tryz.prog.info? 3).map (fun i => (i.zero, i.size, i.bytes)) = some (some (.int .i64 0), 1, 8) := by kernel_rfl
def BuildR (vs : List Str) (w : World) (e : Ending) (w' : World) : Prop :=
  ∃ v c, e = .returned (.tuple #[v, c]) ∧ Grows w w' ∧ IsS w' v (wordsOf vs) ∧ IsN w' c (codesW (wordsOf vs) vs)
def B1Rel (w : World) (vs : List Str) (i : Value) (wr : World) : Prop :=
  ∃ k : Nat, k ≤ vs.length ∧ i = .int .i64 (k : Int) ∧ wr.ownsMap Tryz.prog 9 (plainElem Tryz.prog 3) w.heap.size k (mapD (vs.take k)) ∧ Row wr (w.heap.size + 1) 219 [.map (some w.heap.size)] ∧ Below w.heap.size w wr
def B2Rel (w : World) (ws : List Str) (n0 : Nat) (u : Value) (i : Value) (wr : World) : Prop :=
  ∃ k : Nat, ∃ D : DU, k ≤ ws.length ∧ i = .int .i64 (k : Int) ∧ wr.ownsMap Tryz.prog 9 (plainElem Tryz.prog 3) w.heap.size (n0 + k) D ∧ CodeD D ws k ∧ Row wr (w.heap.size + 1) 219 [.map (some w.heap.size)] ∧ IsS wr u ws ∧ Below w.heap.size w wr
def cutN (l : List Nat) (k n : Nat) : List Nat := l.take k ++ List.replicate (n - k) 0
theorem cutN_zero (l : List Nat) (n : Nat) : cutN l 0 n = List.replicate n 0 := by simp [cutN]
theorem cutN_all (l : List Nat) : cutN l l.length l.length = l := by simp [cutN]
theorem cutN_length {l : List Nat} {k n : Nat} (h : k ≤ l.length) (hn : n = l.length) : (cutN l k n).length = n := by simp [cutN]; omega
theorem cutN_set {l : List Nat} {k n : Nat} (h : k < l.length) (hn : n = l.length) : (cutN l k n).set k l[k] = cutN l (k + 1) n := by
  subst hn
  unfold cutN
  have e : List.replicate (l.length - k) 0 = 0 :: List.replicate (l.length - (k + 1)) 0 := by
    rw [show l.length - k = (l.length - (k + 1)) + 1 by omega, List.replicate_succ]
  rw [e, List.take_succ_eq_append_getElem h, List.append_assoc]
  have hl : (l.take k).length = k := by rw [List.length_take]; omega
  rw [List.set_append_right _ _ (by omega), hl, Nat.sub_self]
  rfl
theorem ncells_set (l : List Nat) (j c : Nat) : (ncells l).set j (.int .i64 (c : Int)) = ncells (l.set j c) := by simp [ncells, List.map_set]
theorem made_ncells (n : Nat) : List.replicate n (Value.int .i64 0) = ncells (List.replicate n 0) := by simp [ncells]
def B3Rel (w : World) (cs : List Nat) (g : Nat) (i : Value) (wr : World) : Prop :=
  ∃ k : Nat, k ≤ cs.length ∧ i = .int .i64 (k : Int) ∧ Row wr g 3 (ncells (cutN cs k cs.length)) ∧ Grows w wr
set_option maxRecDepth 20000 in
set_option maxHeartbeats 4000000 in
theorem build10_any (v : Value) (vs : List Str) (w : World) (hv : IsS w v vs) (hl : vs.length ≤ 1000000) (hs : ∀ s ∈ vs, s.length ≤ maxLen) :
    Calls Tryz.prog 166 #[v] w (BuildR vs w) := by
  obtain ⟨A, c, rfl⟩ := hv.slice_
  have HV := hidden hv
  have HSL := hidden hs
  have hmm := @run_makeMap Tryz.prog
  have hmk := fun W => run_make_rep (P := Tryz.prog) 130 3 (.int .i64 0) 8 Tryz.underlying130 info_intD rfl vs.length (by omega) (by omega) W
  have HMK := hidden hmk
  have HWL := hidden (wordsOf_length vs)
  clear hv hs hmk
  go_enter Tryz.func166, Tryz.ntmps166
  go_wp2_with fail
  go_loopw [15] (fun i wr => B1Rel w vs i wr) (fun i _ => vs.length - (intOf i).toNat)
  case atStart =>
    refine ⟨0, by omega, rfl, ?_, ?_, ((Below.refl _ _).alloc (Nat.le_refl _) _).alloc (by simp) _⟩
    · exact (World.ownsMap_made w _ _ _).alloc _
    · exact Row.at_ _ _ _ _ rfl _ (by simp)
  case round =>
    obtain ⟨k, hk, rfl, hown, hrow, hb⟩ := hrel
    have hc0 := hrow.cell 0
    simp only [List.getElem?_cons_zero] at hc0
    have HB := hidden hb
    have HROW := hidden hrow
    have HOWN := hidden hown
    clear hrow hown hb
    by_cases hlt : k < vs.length
    · obtain ⟨b, f, rfl, hck⟩ := (HV.out.grow HB.out).at_ hlt
      have HSK := hidden (keyS (HSL.out _ (List.getElem_mem hlt)))
      have HTK := hidden (show mapD (vs.take (k + 1)) = (mapD (vs.take k)).put (.string vs[k]) (.lit (.int .i64 0)) by rw [List.take_succ_eq_append_getElem hlt, mapD_snoc])
      generalize vs[k] = s at *
      clear hmm
      go_wp2_with ((at_mapUpdate; refine wpList_mapUpdate_own _ rfl _ _ _ 219 rfl 9 3 lawStr Tryz.underlying219 _ w.heap.size k _ rfl HOWN.out (by unfold maxLen; omega) _ _ _ rfl rfl HSK.out _ [] (plainElem_int Tryz.underlying3 rfl) ?_; intro w1 hown1 hgrow1; have HO1 := hidden hown1; have HG1 := hidden hgrow1; clear hown1 hgrow1))
      go_roundw
      case rel => exact ⟨k + 1, by omega, by go_num, by rw [HTK.out]; exact HO1.out, HROW.out.keepMap HOWN.out HG1.out, HB.out.grown HG1.out HB.out.size (fun j hj => by cases hj; exact Nat.le_refl _)⟩
      case measure => simp [intOf]; omega
    · have hke : k = vs.length := by omega
      rw [hke, List.take_length] at HOWN
      have hsz := size_of_owns HOWN.out
      have HKS := hidden (lib_keys (some w.heap.size) wr)
      have HSO := hidden (lib_sorted w.heap.size vs.length (mapD vs) _ wr HOWN.out (by unfold maxLen; omega) (by omega) vs (mapD_keys HOWN.out))
      have HWR := hidden (wordsOf_rising vs)
      have HMW := hidden (fun s (hs : s ∈ vs) => mem_wordsOf.2 hs)
      obtain ⟨ws, hws⟩ : ∃ ws, ws = wordsOf vs := ⟨_, rfl⟩
      rw [← hws] at HSO HWR HWL HMW
      have HWS := hidden hws
      have hwl := HWL.out
      have HWSL := hidden (show ∀ s ∈ ws, s.length ≤ maxLen by rw [hws]; exact fun s h => HSL.out s (mem_wordsOf.1 h))
      clear hsz hmm hws hke
      go_wp2_with (first
        | (go_at_call 210; refine HKS.out.mono ?_; rintro e w2 ⟨rfl, rfl⟩)
        | (go_at_call 209; refine HSO.out.mono ?_; rintro e w2 ⟨u, rfl, hIS, hg2⟩; obtain ⟨A2, c2, rfl⟩ := hIS.slice_; have HIS := hidden hIS; have HG2 := hidden hg2; clear hIS hg2))
      have hsz := HB.out.size
      have HB2 := hidden ((HB.out.alloc hsz (.cells #[.map (some w.heap.size)] 219)).trans (HG2.out.mono (by simp; omega)))
      have HOW2 := hidden (ownsMap_grow (HOWN.out.alloc _) HG2.out)
      have HRO2 := hidden ((HROW.out.grow (growA _)).grow HG2.out)
      clear hsz hc0
      go_loopw [27] (fun i wr => B2Rel w ws vs.length (.slice A2 ws.length c2) i wr) (fun i _ => ws.length - (intOf i).toNat)
      case atStart =>
        refine ⟨0, mapD vs, by omega, rfl, HOW2.out, ⟨?_, fun i hi h => by omega⟩, HRO2.out, HIS.out, HB2.out⟩
        obtain ⟨es, he, _⟩ := HOW2.out.entries lawStr
        exact ⟨es, he⟩
      case round =>
        obtain ⟨j, D, hj, rfl, hown, hcd, hrow, his, hb⟩ := hrel
        have hc0 := hrow.cell 0
        simp only [List.getElem?_cons_zero] at hc0
        have HB := hidden hb
        have HROW := hidden hrow
        have HOWN := hidden hown
        have HIS := hidden his
        have HCD := hidden hcd
        clear hrow hown hb his hcd
        by_cases hlt : j < ws.length
        · obtain ⟨b, f, rfl, hck⟩ := HIS.out.at_ hlt
          have HSK := hidden (keyS (HWSL.out _ (List.getElem_mem hlt)))
          have HTK := hidden (HCD.out.step HWR.out hlt)
          generalize ws[j] = s at *
          go_wp2_with ((at_mapUpdate; refine wpList_mapUpdate_own _ rfl _ _ _ 219 rfl 9 3 lawStr Tryz.underlying219 _ w.heap.size (vs.length + j) _ rfl HOWN.out (by unfold maxLen; omega) _ _ _ rfl rfl HSK.out _ [] (plainElem_int Tryz.underlying3 (by simp [Lit.wf, IntKind.min, IntKind.max, IntKind.bits, IntKind.signed]; omega)) ?_; intro w1 hown1 hgrow1; have HO1 := hidden hown1; have HG1 := hidden hgrow1; clear hown1 hgrow1))
          go_roundw
          case rel => exact ⟨j + 1, _, by omega, by go_num, HO1.out, HTK.out, HROW.out.keepMap HOWN.out HG1.out, Reads.keepMap HIS.out HOWN.out HG1.out, HB.out.grown HG1.out HB.out.size (fun j hj => by cases hj; exact Nat.le_refl _)⟩
          case measure => simp [intOf]; omega
        · have hje : j = ws.length := by omega
          have HCD2 := hidden (show CodeD D ws ws.length from hje ▸ HCD.out)
          clear hje
          have hmk := HMK.out
          go_wp2_with fail
          obtain ⟨cs, hcs⟩ : ∃ cs, cs = codesW ws vs := ⟨_, rfl⟩
          have HCS := hidden hcs
          have HCL := hidden (show cs.length = vs.length by rw [hcs]; simp [codesW])
          obtain ⟨wo, rfl⟩ : ∃ wo : World, wo = wr := ⟨_, rfl⟩
          have HSZ := hidden HB.out.size
          clear hmk hcs
          go_loopw [42] (fun i wr => B3Rel wo cs wo.heap.size i wr) (fun i _ => vs.length - (intOf i).toNat)
          case atStart =>
            refine ⟨0, by omega, rfl, ?_, growA _⟩
            rw [cutN_zero, ← made_ncells, HCL.out]
            exact Row.at_ _ _ _ _ rfl _ rfl
          case round =>
            obtain ⟨k, hk, rfl, hrow3, hb3⟩ := hrel
            have HB3 := hidden hb3
            have HR3 := hidden hrow3
            have HBW := hidden (HB.out.trans (hb3.mono HSZ.out))
            rw [HCL.out] at hk
            by_cases hlt3 : k < vs.length
            · obtain ⟨b, f, rfl, hck⟩ := (HV.out.grow HBW.out).at_ hlt3
              have hkc : k < cs.length := by rw [HCL.out]; exact hlt3
              have HCK := hidden (show cs[k] = codeW ws vs[k] by
                have := HCS.out
                subst this
                simp [codesW])
              have HLK := hidden (look_any w.heap.size (w.heap.size + 1) (vs.length + j) D vs[k] (cs[k] : Int) wr (HROW.out.grow hb3) (ownsMap_grow HOWN.out hb3) (HSL.out _ (List.getElem_mem hlt3)) (fun z => by rw [HCK.out]; exact HCD2.out.code (HMW.out _ (List.getElem_mem hlt3)) z))
              have HSET := hidden (cutN_set hkc rfl)
              have hcell := hrow3.cell k
              have hlen3 : k < (cutN cs k cs.length).length := by rw [cutN_length (by omega) rfl]; exact hkc
              rw [ncells_get hlen3] at hcell
              have frow := hrow3.frozen k
              generalize cs[k] = ck at *
              generalize vs[k] = s at *
              generalize (cutN cs k cs.length)[k] = old at *
              clear hrow3 hb3 hc0 HCK hlen3
              go_wp2_with ((go_at_call 211; refine HLK.out.mono ?_; rintro e w2 ⟨rfl, rfl⟩))
              go_roundw
              case rel =>
                refine ⟨k + 1, by omega, by go_num, ?_, ?_⟩
                · rw [← HSET.out, ← ncells_set]
                  exact HR3.out.set_ k _
                · exact Below.setCell HB3.out (p := ⟨wo.heap.size, k, none⟩) (Nat.le_refl _) _
              case measure => simp [intOf]; omega
            · have hke : k = vs.length := by omega
              have HCN := hidden (cutN_all cs)
              rw [hke, ← HCL.out] at HR3
              clear hrow3 hb3 hc0 hke
              go_wp2_with fail
              go_ret2
              refine ⟨_, _, rfl, HBW.out, ?_, ?_⟩
              · rw [← HWS.out]; exact HIS.out.grow HB3.out
              · rw [← HWS.out, ← HCS.out]
                have h := HR3.out
                rw [HCN.out] at h
                exact Reads.of_row h _ _ (by rw [ncells_length, HCL.out]) (Nat.le_refl _)
end Go.Proofs.YthmipnokimlbdaaGreat
/-
  Shaken: what the claims of this seat need of this text. No condition.
-/
namespace Go.Proofs.YthmipnokimlbdaaGreat
set_option maxRecDepth 20000
open Go.RowKit
set_option linter.unusedVariables false
set_option linter.unusedSimpArgs false
theorem scells_set (l : List Str) (j : Nat) (s : Str) : (scells l).set j (.string (strOf s)) = scells (l.set j s) := by simp [scells, List.map_set]
end Go.Proofs.YthmipnokimlbdaaGreat
