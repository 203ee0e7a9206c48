/-
  bitset.Of and Set return new sets of what the document says; nothing that was there is changed.
-/
import Derived.Test.YtaegolkoinjmoaaDoorBkFill
namespace Go.Proofs.YtaegolkoinjmoaaDoor
open Go.RowKit

theorem inL_on {n : Nat} {l : List Int} {x : Int} : pack n (onAt (inL l) x true) = pack n (inL (l ++ [x])) := pack_congr fun j _ => by
  unfold onAt inL
  by_cases h : (j : Int) = x
  · rw [if_pos h]; simp [h]
  · rw [if_neg h]; simp [h]
theorem Row.but_ {w w' : World} {g : Nat} {e : TypeId} {xs : List Value} {B : Nat} (h : Row w g e xs) (hb : BelowBut w.heap.size B w w') (hne : g ≠ B) : Row w' g e xs := (hb.block g h.lt hne).trans h
theorem BelowBut.up {H B n₀ : Nat} {a b w : World} (h : BelowBut H B a b) (hw : Below n₀ w a) (h1 : n₀ ≤ H) (h2 : n₀ ≤ B) : Below n₀ w b := h.below hw h1 h2

set_option maxHeartbeats 1000000 in
theorem of_any (n : Int) (v : Value) (l : List Int) (w : World) (hv : Reads w v (icells l)) (hll : l.length ≤ 1048576) (hw : ∀ x ∈ l, -9223372036854775808 ≤ x ∧ x ≤ 9223372036854775807) (h63 : -9223372036854775808 ≤ n) (h64 : n ≤ 9223372036854775807) :
    Calls Tryd.prog 11 #[.int .i64 n, v] w (FreshSet (newN n) (pack (newN n) (inL l)) w) := by
  have HV := hidden hv
  have HW := hidden hw
  obtain ⟨A, c, rfl, _⟩ := hv.slice_
  clear hv hw
  rw [icells_length] at HV ⊢
  have HL := hidden (pack_length (newN n))
  have hn := newN_le n
  have hnl : nw (newN n) ≤ 20000 := by unfold nw; omega
  have HN0 := hidden (inL_nil)
  go_enter Tryd.func11, Tryd.ntmps11
  go_wp2_with fail
  refine (new_any n _ h63 h64).mono ?_
  rintro e w1 ⟨g, hg, rfl, hrow, g1⟩
  generalize newN n = N at *
  rw [HL.out]
  have hB : Grows w w1 := Grows.of_below ((Below.refl _ _).alloc (Nat.le_refl _) _) g1
  have hR0 : Row w1 w.heap.size 26 [.int .i64 0, .slice none 0 0] := (Row.new w _ _ _ rfl).grow g1
  have hg1 : w.heap.size + 1 ≤ g := by simpa using hg
  have hgl := hrow.lt
  have hR2 := hrow.grow (w' := w1.alloc (.cells #[.int .i64 (N : Int), .slice (some ⟨g, 0, none⟩) (nw N) (nw N)] 26)) ((Below.refl _ _).alloc (Nat.le_refl _) _)
  have hR3 := hR0.grow (w' := w1.alloc (.cells #[.int .i64 (N : Int), .slice (some ⟨g, 0, none⟩) (nw N) (nw N)] 26)) ((Below.refl _ _).alloc (Nat.le_refl _) _)
  have hR4 := Row.new w1 26 #[.int .i64 (N : Int), .slice (some ⟨g, 0, none⟩) (nw N) (nw N)] _ rfl
  have hB4 : Grows w (w1.alloc (.cells #[.int .i64 (N : Int), .slice (some ⟨g, 0, none⟩) (nw N) (nw N)] 26)) := hB.alloc hB.size _
  have H2 := hidden hR2
  have H3 := hidden hR3
  have H4 := hidden hR4
  have HB4 := hidden hB4
  have hsz := hB.size
  clear hB hR0 hrow hR2 hR3 hR4 hB4 g1 hg
  go_wp2_with fail
  go_loopw [12] (fun i wr => OfRel w N l w1.heap.size g i wr) (fun i _ => l.length - (intOf i).toNat)
  case atStart => exact ⟨0, by omega, rfl, H4.out, by rw [List.take_zero, HN0.out]; exact H2.out, ⟨_, _, H3.out⟩, HB4.out⟩
  case round =>
    obtain ⟨k, hk, rfl, r1, r2, ⟨z1, z2, r3⟩, hb⟩ := hrel
    have hc0 := r1.cell 0
    have hc1 := r1.cell 1
    simp only [List.getElem?_cons_zero, List.getElem?_cons_succ] at hc0 hc1
    have R1 := hidden r1
    have R2 := hidden r2
    have R3 := hidden r3
    have HB := hidden hb
    clear r1 r2 r3 hb
    by_cases hlt : k < l.length
    · obtain ⟨A', c', he, _, hcell⟩ := HV.out.grow HB.out
      injection he with e1 e2 e3
      subst e1 e3
      obtain ⟨b, off, rfl, hcell2⟩ := hcell (by rw [icells_length]; omega)
      have hbit := hcell2 k (by rw [icells_length]; omega)
      rw [icells_get hlt] at hbit
      have HTK := hidden (List.take_succ_eq_append_getElem hlt)
      have hx := HW.out _ (List.getElem_mem hlt)
      clear hcell hcell2 e2
      generalize l[k] = x at *
      have HON := hidden (inL_on (n := N) (l := l.take k) (x := x))
      have HX1 := hidden hx.1
      have HX2 := hidden hx.2
      clear hx
      go_wp2_with fail
      refine (put_any N g _ x true wr R2.out hn HX1.out HX2.out).mono ?_
      rintro e w2 ⟨⟨v, rfl⟩, p2, pb⟩
      have HP1 := hidden (R1.out.but_ pb (by omega))
      have HP2 := hidden p2
      have HP3 := hidden (R3.out.but_ pb (by omega))
      have HPB := hidden (pb.up HB.out HB.out.size (by omega))
      clear p2 pb hc0 hc1 hbit
      go_wp2
      go_roundw
      case rel => exact ⟨k + 1, by omega, by go_num, HP1.out, by rw [HTK.out, ← HON.out]; exact HP2.out, ⟨_, _, HP3.out⟩, HPB.out⟩
      case measure => simp [intOf]; omega
    · have hke : k = l.length := by omega
      have HTL : Hid (l.take k = l) := by show _ = _; rw [hke, List.take_length]
      have HRS := hidden (R3.out.setRow_ [.int .i64 (N : Int), .slice (some ⟨g, 0, none⟩) (nw N) (nw N)] rfl)
      have hnk : l.length ≤ k := by omega
      clear hke
      go_wp2_with (refine wpList_store_set rfl _ _ rfl w.heap.size rfl _ _ _ _ _ rfl R3.out ?_)
      refine bodyPost_ret (results_set rfl _ _ _ _ _ rfl HRS.out) rfl ⟨g, by omega, by rw [HL.out], ?_, below_setRow HB.out (Nat.le_refl _) _⟩
      have h := R2.out
      rw [HTL.out] at h
      unfold Row at h ⊢
      rw [setRow_other _ _ _ _ (by omega)]
      exact h
theorem ck_new (n : Int) (w : World) (h63 : -9223372036854775808 ≤ n) (h64 : n ≤ 9223372036854775807) :
    Calls Tryd.prog 14 #[.int .i64 n] w (SetR (newN n) (fun _ => false) w) := (new_any n w h63 h64).mono fun _ _ h => h.setR (newN_le n)
theorem ck_of (n : Int) (v : Value) (l : List Int) (w : World) (hv : Reads w v (icells l)) (hl : l.length ≤ 1000) (hw : ∀ x ∈ l, -9223372036854775808 ≤ x ∧ x ≤ 9223372036854775807) (h63 : -9223372036854775808 ≤ n) (h64 : n ≤ 9223372036854775807) :
    Calls Tryd.prog 11 #[.int .i64 n, v] w (SetR (newN n) (inL l) w) := (of_any n v l w hv (by omega) hw h63 h64).mono fun _ _ h => h.setR (newN_le n)

/-- copy(d, s), both of n cells: d reads as s; all else is as it was -/
theorem wpList_copy_all {P : Program} {w : World} {ops : Array Oper} {rest : List Oper} {o : Oper} {a : Act} {Q : Exit → Act → World → Prop} (hgd : o.guard = none) (d s : Operand) (dT sT : TypeId)
    (ho : o.op = .call { callee := .builtin .copy, args := #[d, s], argTypes := #[dT, sT] }) (elem : TypeId) (hu : P.underlying dT = some (.slice elem)) (hsz : (P.info? elem).map (·.size) = some 1)
    (g n dCap sCap : Nat) (sp : Option Addr) (hd : a.eval d = .slice (some ⟨g, 0, none⟩) n dCap) (hs : a.eval s = .slice sp n sCap) (t : TypeId) (cur cs : List Value) (hg : Row w g t cur) (hcur : cur.length = n) (hcs : cs.length = n)
    (hsrc : 0 < n → ∃ ad, sp = some ad ∧ ∀ j v, cs[j]? = some v → w.cell? (ad.add j) = some v) (h1 : ∀ v ∈ cs, v.oneCell' = true)
    (h : ∀ w', Row w' g t cs → BelowBut w.heap.size g w w' → wpList P ops Q rest (a.put o.dst (goInt n)) w') : wpList P ops Q (o :: rest) a w := by
  by_cases h0 : n = 0
  · subst h0
    refine wpList_copy_nothing hgd d s dT sT ho elem hu hsz _ sp 0 dCap 0 sCap hd hs (by simp) ?_
    refine h w ?_ (BelowBut.refl _ _ _)
    rw [List.eq_nil_of_length_eq_zero hcs, ← List.eq_nil_of_length_eq_zero hcur]
    exact hg
  · obtain ⟨ad, rfl, hc⟩ := hsrc (by omega)
    refine wpList_copy_own hgd d s dT sT ho elem hu hsz g 0 n dCap ad n sCap hd hs cur.toArray t hg cs (by simp [hcs]) hc (by simp; omega) h1 ?_
    have e : (cur.toArray.toList.take 0 ++ (cs ++ cur.toArray.toList.drop (0 + cs.length))).toArray = cs.toArray := by
      rw [List.take_zero, List.nil_append, List.drop_of_length_le (by simp; omega), List.append_nil]
    rw [e, hcs]
    exact h _ (hg.setRow_ cs (by simp; omega)) ⟨rfl, rfl, rfl, by simp [World.setRow], fun k _ hk => setRow_other _ _ _ _ hk⟩
theorem size_u64 : (Tryd.prog.info? 54).map (·.size) = some 1 := by kernel_rfl

set_option maxHeartbeats 1000000 in
theorem ck_set (s : Value) (n : Nat) (ws : List UInt64) (i : Int) (b : Bool) (w : World) (hs : IsSet w s n ws) (ho : okW n ws) (h63 : -9223372036854775808 ≤ i) (h64 : i ≤ 9223372036854775807) :
    Calls Tryd.prog 16 #[s, .int .i64 i, .bool b] w (SetR n (onAt (mem n ws) i b) w) := by
  have hn0 : n ≤ 1048576 := by obtain ⟨_, _, _, _, h⟩ := hs; exact h
  refine Calls.mono (R := FreshSet n (pack n (onAt (mem n ws) i b)) w) ?_ fun _ _ h => h.setR hn0
  obtain ⟨v, rfl, hr, hn, hn2⟩ := hs
  have HR := hidden hr
  obtain ⟨A, c, rfl, hle⟩ := hr.slice_
  rw [ucells_length, ho.1] at HR ⊢
  have HNN := hidden (newN_nat hn0)
  have HL := hidden (pack_length n)
  have hnl : nw n ≤ 20000 := by unfold nw; omega
  have HPM := hidden (pack_mem ho)
  have HLW := hidden ho.1
  clear hr hle hn ho
  have HB0 := hidden (Row.new w 26 #[.int .i64 (n : Int), .slice A (nw n) c] [.int .i64 (n : Int), .slice A (nw n) c] rfl)
  have HG0 := hidden (show Grows w (w.alloc (.cells #[.int .i64 (n : Int), .slice A (nw n) c] 26)) from (Below.refl _ _).alloc (Nat.le_refl _) _)
  have hG1 : Grows w ((w.alloc (.cells #[.int .i64 (n : Int), .slice A (nw n) c] 26)).alloc (.cells #[.int .i64 0, .slice none 0 0] 26)) := HG0.out.alloc HG0.out.size _
  have hB1 := HB0.out.grow (w' := (w.alloc (.cells #[.int .i64 (n : Int), .slice A (nw n) c] 26)).alloc (.cells #[.int .i64 0, .slice none 0 0] 26)) ((Below.refl _ _).alloc (Nat.le_refl _) _)
  have hR1 := Row.at_ (w.alloc (.cells #[.int .i64 (n : Int), .slice A (nw n) c] 26)) 26 #[.int .i64 0, .slice none 0 0] [.int .i64 0, .slice none 0 0] rfl (w.heap.size + 1) (by simp)
  have c0 := hB1.cell 0
  simp only [List.getElem?_cons_zero] at c0
  have HB1 := hidden hB1
  have HR1 := hidden hR1
  have HG1 := hidden hG1
  clear hB1 hR1 hG1
  go_enter Tryd.func16, Tryd.ntmps16
  go_wp2_with fail
  refine (new_any (n : Int) _ (by omega) (by omega)).mono ?_
  rintro e w1 ⟨g, hg, rfl, hrow, g1⟩
  rw [HNN.out] at hrow ⊢
  rw [HL.out]
  have hg1 : w.heap.size + 2 ≤ g := by simpa using hg
  have hgl := hrow.lt
  have hgr : Grows w1 (w1.alloc (.cells #[.int .i64 (n : Int), .slice (some ⟨g, 0, none⟩) (nw n) (nw n)] 26)) := (Below.refl _ _).alloc (Nat.le_refl _) _
  have hG2 : Grows w w1 := HG1.out.of_below g1
  have hb2 := (HB1.out.grow g1).grow hgr
  have b1 := hb2.cell 1
  have hbx := Row.new w1 26 #[.int .i64 (n : Int), .slice (some ⟨g, 0, none⟩) (nw n) (nw n)] [.int .i64 (n : Int), .slice (some ⟨g, 0, none⟩) (nw n) (nw n)] rfl
  simp only [List.getElem?_cons_zero, List.getElem?_cons_succ] at b1
  have HBX := hidden hbx
  have HRES := hidden ((HR1.out.grow g1).grow hgr)
  have HROW := hidden (hrow.grow hgr)
  have HG2 := hidden (hG2.of_below hgr)
  have hsz := hG2.size
  have HSRC : Hid (0 < nw n → ∃ ad, A = some ad ∧ ∀ j v, (ucells ws)[j]? = some v → (w1.alloc (.cells #[.int .i64 (n : Int), .slice (some ⟨g, 0, none⟩) (nw n) (nw n)] 26)).cell? (ad.add j) = some v) := by
    intro hpos
    obtain ⟨A', c', he, _, hcell⟩ := HR.out.grow (hG2.of_below hgr)
    rw [ucells_length, HLW.out] at he hcell
    injection he with e1 e2 e3
    subst e1
    obtain ⟨b', off, rfl, hcell2⟩ := hcell hpos
    refine ⟨_, rfl, fun j v hj => ?_⟩
    have hjl : j < nw n := by
      rcases Nat.lt_or_ge j (nw n) with h | h
      · exact h
      · rw [List.getElem?_eq_none (by rw [ucells_length, HLW.out]; exact h)] at hj; cases hj
    rw [Addr.add_lit, hcell2 j hjl]
    exact hj
  have HC1 := hidden (show (ucells (pack n fun _ => false)).length = nw n by rw [ucells_length, pack_length])
  have HC2 := hidden (show (ucells ws).length = nw n by rw [ucells_length, HLW.out])
  have H1C := hidden (show ∀ v ∈ ucells ws, v.oneCell' = true from fun u hu => by
    simp only [ucells, List.mem_map] at hu
    obtain ⟨x, _, rfl⟩ := hu
    rfl)
  clear hrow g1 hg hG2 hb2 hbx hgr c0
  go_wp2_with (with_reducible refine wpList_copy_all rfl (.tmp 12) (.tmp 14) 24 24 rfl 54 Tryd.underlying24 size_u64 g (nw n) (nw n) c A rfl rfl 54 _ _ HROW.out HC1.out HC2.out HSRC.out H1C.out ?_; intro w3 hr3 hb3; have hx3 := HBX.out.but_ hb3 (by omega); have q0 := hx3.cell 0; have q1 := hx3.cell 1; simp only [List.getElem?_cons_zero, List.getElem?_cons_succ] at q0 q1; have HX3 := hidden hx3; have HR3 := hidden hr3; have HRS3 := hidden (HRES.out.but_ hb3 (by omega)); have HG3 := hidden (hb3.up HG2.out HG2.out.size (by omega)); clear hr3 hb3 hx3)
  have hr3 := HR3.out
  rw [← HPM.out] at hr3
  refine (put_any n g (mem n ws) i b w3 hr3 hn2 h63 h64).mono ?_
  clear hr3
  rintro e w4 ⟨⟨v, rfl⟩, p2, pb⟩
  have hx4 := HX3.out.but_ pb (by omega)
  have d0 := hx4.cell 0
  have d1 := hx4.cell 1
  simp only [List.getElem?_cons_zero, List.getElem?_cons_succ] at d0 d1
  have HR4 := hidden p2
  have HRS4 := hidden (HRS3.out.but_ pb (by omega))
  have HG4 := hidden (pb.up HG3.out HG3.out.size (by omega))
  have HRS := hidden (HRS4.out.setRow_ [.int .i64 (n : Int), .slice (some ⟨g, 0, none⟩) (nw n) (nw n)] rfl)
  clear p2 pb q0 q1 b1 hx4
  go_wp2_with (refine wpList_store_set rfl _ _ rfl (w.heap.size + 1) rfl _ _ _ _ _ rfl HRS4.out ?_)
  refine bodyPost_ret (results_set rfl _ _ _ _ _ rfl HRS.out) rfl ⟨g, by omega, by rw [HL.out], ?_, below_setRow HG4.out (by omega) _⟩
  have h := HR4.out
  unfold Row at h ⊢
  rw [setRow_other _ _ _ _ (by omega)]
  exact h
end Go.Proofs.YtaegolkoinjmoaaDoor
