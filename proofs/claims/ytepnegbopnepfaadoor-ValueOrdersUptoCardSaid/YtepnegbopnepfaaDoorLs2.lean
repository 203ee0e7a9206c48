/-
  Package value as it landed: SortKey of a row of valid values. Nothing that was there is changed.
-/
import Derived.Test.YtepnegbopnepfaaDoorLs1
import Derived.Test.YtepnegbopnepfaaDoorTabs
import Derived.Test.YtepnegbopnepfaaDoorLv6
import Derived.Test.YtepnegbopnepfaaDoorLe1
import Derived.Test.YtepnegbopnepfaaDoorApp
import Derived.Test.YtepnegbopnepfaaDoorRepl
import Derived.Lib.AppendStr
namespace Go.Proofs.YtepnegbopnepfaaDoor
open Go.RowKit
set_option linter.unusedVariables false
set_option linter.unusedSimpArgs false

theorem own_grow {w w' : World} {base : Nat} {e : TypeId} {size : Nat} {v : Value} {n : Nat} {xs : List Value} (h : w.ownsRow base e size v n xs) (hb : Grows w w') : w'.ownsRow base e size v n xs := by
  refine ⟨h.1, ?_⟩
  rcases h.2 with h0 | ⟨g, cap, cur, rfl, hbg, hg, h1⟩
  · exact .inl h0
  · refine .inr ⟨g, cap, cur, rfl, hbg, ?_, h1⟩
    have hlt : g < w.heap.size := by
      rcases Nat.lt_or_ge g w.heap.size with h | h
      · exact h
      · rw [Array.getElem?_eq_none h] at hg; cases hg
    rw [hb.block g hlt]
    exact hg
theorem row_keeps {wr w' : World} {b g n : Nat} {e E : TypeId} {v : Value} {xs ys : List Value} (hown : wr.ownsRow b e 1 v n xs) (hg : wr.grownBy w' v.ownBlock) (hr : Row wr g E ys) (hne : E ≠ e) : Row w' g E ys := by
  refine (hg.block g hr.lt ?_).trans hr
  intro he
  rcases hown.2 with ⟨rfl, _⟩ | ⟨g', cap, cur, rfl, _, h1, _⟩
  · cases he
  · simp only [Value.ownBlock, Option.some.injEq] at he
    subst he
    unfold Row at hr
    rw [h1] at hr
    injection hr with hr
    injection hr with _ h2 _
    exact hne h2.symm
/-- rows of another type than e are what they were -/
def KeepsRow (e : TypeId) (w w' : World) : Prop := ∀ g E ys, E ≠ e → Row w g E ys → Row w' g E ys
theorem KeepsRows.row {e : TypeId} {w w' : World} (h : KeepsRows e w w') {g : Nat} {E : TypeId} {ys : List Value} (hne : E ≠ e) (hl : ys.length ≤ maxLen) (hr : Row w g E ys) : Row w' g E ys := by
  have h1 := h 0 E 1 _ _ _ hne (hr.own (base := 0) (Nat.zero_le _) hl)
  rcases h1.2 with ⟨h2, _⟩ | ⟨g', cap, cur, he, _, h3, _, _, h4, h5⟩
  · cases h2
  · injection he with e1 e2 e3
    injection e1 with e1
    injection e1 with e1 _ _
    subst e1
    subst e3
    unfold Row
    rw [h3]
    have : cur = ys.toArray := by
      apply Array.ext'
      rw [← h5, List.take_of_length_le]
      rw [Array.length_toList, h4]
      omega
    rw [this]
theorem wpList_append_byte_k {P : Program} {w wr : World} {ops : Array Oper} {rest : List Oper} {o : Oper} {a : Act} {Q : Exit → Act → World → Prop} (hgd : o.guard = none) (s x : Operand) (t : TypeId)
    (ho : o.op = .call { callee := .builtin .append, args := #[s, x], argTypes := #[t, t] })
    (e : TypeId) (ht : P.underlying t = some (.slice e)) (hinfo : (P.info? e).map (fun i => (i.zero, i.size, i.bytes)) = some (some (.int .u8 0), 1, 1))
    (v : Value) (pre : List UInt8) (hs : a.eval s = v) (hown : wr.ownsRow w.heap.size e 1 v pre.length (bcells pre)) (hb : Below w.heap.size w wr)
    (z : Int) (c : UInt8) (hz : z = (c.toNat : Int)) (hx : a.eval x = .slice (some ⟨wr.heap.size, 0, none⟩) 1 1) (hlen : pre.length + 1 ≤ 140737488355328)
    (h : ∀ v' w', w'.ownsRow w.heap.size e 1 v' (pre ++ [c]).length (bcells (pre ++ [c])) → Below w.heap.size w w' → KeepsRow e wr w' → wpList P ops Q rest (a.put o.dst v') w') :
    wpList P ops Q (o :: rest) a (wr.alloc (.cells #[.int .u8 z] e)) := by
  obtain ⟨i0, hi, hz0, hz1, hz2⟩ := info_parts hinfo
  subst hz
  refine wpList_append_own _ hgd s x t ho w.heap.size e i0 (.int .u8 0) 1 1 ht hi hz0 hz1 hz2 rfl (by decide) v pre.length (bcells pre) hs (hown.alloc _) ⟨wr.heap.size, 0, none⟩ 1 1 [.int .u8 (c.toNat : Int)] hx rfl ?_ ?_ ?_ ?_ ?_ ?_
  · intro j u hj
    match j, hj with
    | 0, hj => simp at hj; subst hj; simp [Addr.add]
  · intro u hu; simp at hu; subst hu; rfl
  · unfold maxLen; omega
  · omega
  · have := hb.size; simp; omega
  · intro v' w' h1 h2 _
    rw [← bcells_snoc, show pre.length + 1 = (pre ++ [c]).length by simp] at h1
    exact h v' w' h1 ((hb.alloc hb.size _).grown h2 (by have := hb.size; simp; omega) (fun k hk => (hown.lt k hk).1))
      (fun g E ys hne hr => row_keeps (hown.alloc _) h2 (hr.grow ((Below.refl _ _).alloc (Nat.le_refl _) _)) hne)
theorem strCells_bcells (s : ByteArray) : Lib.strCells s = bcells s.data.toList := rfl
theorem wpList_append_str_k {P : Program} {w wr : World} {ops : Array Oper} {rest : List Oper} {o : Oper} {a : Act} {Q : Exit → Act → World → Prop} (hgd : o.guard = none) (sl x : Operand) (t u : TypeId)
    (ho : o.op = .call { callee := .builtin .append, args := #[sl, x], argTypes := #[t, u] })
    (e : TypeId) (ht : P.underlying t = some (.slice e)) (hu : P.underlying u = some .string) (hinfo : (P.info? e).map (fun i => (i.zero, i.size, i.bytes)) = some (some (.int .u8 0), 1, 1))
    (v : Value) (pre : List UInt8) (hs : a.eval sl = v) (hown : wr.ownsRow w.heap.size e 1 v pre.length (bcells pre)) (hb : Below w.heap.size w wr)
    (s : ByteArray) (l : List UInt8) (hl : s.data.toList = l) (hx : a.eval x = .string s) (hlen : pre.length + l.length ≤ 140737488355328)
    (h : ∀ v' w', w'.ownsRow w.heap.size e 1 v' (pre ++ l).length (bcells (pre ++ l)) → Below w.heap.size w w' → KeepsRow e wr w' → wpList P ops Q rest (a.put o.dst v') w') :
    wpList P ops Q (o :: rest) a wr := by
  obtain ⟨i0, hi, hz0, hz1, hz2⟩ := info_parts hinfo
  have hsz : s.size = l.length := by rw [← hl]; simp
  refine Lib.wpList_append_own_string _ hgd sl x t u ho w.heap.size e i0 ht hu hi hz0 hz1 hz2 v pre.length (bcells pre) hs hown s hx (by rw [hsz]; unfold maxLen; omega) (by rw [hsz]; exact hlen) hb.size ?_
  intro v' w' h1 h2 _
  rw [strCells_bcells, hl, ← bcells_append, hsz, ← List.length_append] at h1
  exact h v' w' h1 (hb.grown h2 hb.size (fun k hk => (hown.lt k hk).1)) (fun g E ys hne hr => row_keeps hown h2 hr hne)

/-- the sort key of a value, of a row -/
def keyV (k n : Int) (t : ByteArray) : List UInt8 :=
  UInt8.ofNat (k + 1).toNat :: (if k = 1 then [UInt8.ofNat n.toNat] else if k = 2 then be8 (n + 9223372036854775808).toNat else if k = 3 then esc t.data.toList ++ [0, 0] else [])
def keyL (l : List Val) : List UInt8 := l.flatMap fun x => keyV x.k x.n x.t
theorem keyL_take {l : List Val} {j : Nat} {x : Val} (h : l[j]? = some x) : keyL (l.take (j + 1)) = keyL (l.take j) ++ keyV x.k x.n x.t := by
  unfold keyL
  rw [List.take_add_one, h]
  simp
theorem keyV_0 (n : Int) (t : ByteArray) : keyV 0 n t = [1] := rfl
theorem keyV_1 (n : Int) (t : ByteArray) : keyV 1 n t = [2, UInt8.ofNat n.toNat] := rfl
theorem keyV_2 (n : Int) (t : ByteArray) : keyV 2 n t = 3 :: be8 (n + 9223372036854775808).toNat := by
  unfold keyV
  rw [if_neg (show ¬ (2 : Int) = 1 by decide), if_pos (show (2 : Int) = 2 by decide)]
  rfl
theorem keyV_3 (n : Int) (t : ByteArray) : keyV 3 n t = 4 :: (esc t.data.toList ++ [0, 0]) := by
  unfold keyV
  rw [if_neg (show ¬ (3 : Int) = 1 by decide), if_neg (show ¬ (3 : Int) = 2 by decide), if_pos (show (3 : Int) = 3 by decide)]
  rfl
theorem keyV_len {k n : Int} {t : ByteArray} (h : validV k n t = true) : (keyV k n t).length ≤ 8195 := by
  rcases valid_kinds h with rfl | rfl | rfl | rfl
  · rw [keyV_0]; simp
  · rw [keyV_1]; simp
  · rw [keyV_2, List.length_cons, be8_length]; omega
  · rw [keyV_3]
    have h1 := (valid_3 h).2
    have h2 := esc_length t.data.toList
    simp only [List.length_cons, List.length_append, List.length_nil]
    omega
theorem keyL_len {l : List Val} (h : validL l = true) : ∀ j, (keyL (l.take j)).length ≤ 8195 * j
  | 0 => by simp [keyL]
  | j + 1 => by
    have ih := keyL_len h j
    cases hx : l[j]? with
    | none =>
      have hle : l.length ≤ j := List.getElem?_eq_none_iff.1 hx
      rw [List.take_of_length_le hle] at ih
      rw [List.take_of_length_le (by omega)]
      omega
    | some x =>
      have h1 := keyV_len (validL_at h hx)
      rw [keyL_take hx, List.length_append]
      omega
def SKRel (w : World) (l : List Val) (key i : Value) (wr : World) : Prop :=
  ∃ j : Nat, j ≤ l.length ∧ i = .int .i64 (j : Int) ∧ wr.ownsRow w.heap.size 5 1 key (keyL (l.take j)).length (bcells (keyL (l.take j))) ∧ Below w.heap.size w wr
theorem valLen (a b c : Value) : ([a, b, c] : List Value).length ≤ maxLen := by simp [maxLen]

set_option maxHeartbeats 4000000 in
theorem lsortkey_any (v : Value) (l : List Val) (w : World) (m : Int) (hr : ReadsV w v l) (hl : l.length ≤ 1048576) (vl : validL l = true) (hbd : ∀ x ∈ l, -9223372036854775808 ≤ x.n ∧ x.n < 9223372036854775808) (hm : w.cell? ⟨0, 0, none⟩ = some (.int .i64 m)) :
    Calls Tryd.prog 9 #[v] w (Made (keyL l) w) := by
  have HR := hidden hr
  have HVL := hidden vl
  have HBD := hidden hbd
  have HM := hidden hm
  obtain ⟨A, c, rfl, hle, hxx⟩ := hr
  clear hxx vl hbd hm
  go_enter Tryd.func9, Tryd.ntmps9
  go_wp2_with fail
  go_loopw [3, 8] (fun key i wr => SKRel w l key i wr) (fun _ i _ => l.length - (intOf i).toNat)
  case atStart => exact ⟨0, Nat.zero_le _, rfl, World.ownsRow_nil _ _ _ _, Below.refl _ _⟩
  case round =>
    obtain ⟨j, hj, rfl, hown, hb⟩ := hrel
    have HO := hidden hown
    have HB := hidden (show Grows w wr from hb)
    clear hown hb
    by_cases hlt : j < l.length
    · obtain ⟨A', c', he, _, hcell⟩ := HR.out.grow HB.out
      injection he with e1 e2 e3
      subst e1 e3
      obtain ⟨b, off, rfl, hcell2⟩ := hcell (by omega)
      obtain ⟨x, hx⟩ : ∃ x, l[j]? = some x := ⟨_, List.getElem?_eq_getElem hlt⟩
      obtain ⟨c1, c2, c3⟩ := hcell2 j x hx
      have hj0 : (0 : Int) ≤ (j : Int) := by omega
      have hj1 : (j : Int) < (l.length : Int) := by omega
      have hd : decide (j < l.length) = true := by simpa using hlt
      have hv := validL_at HVL.out hx
      have HT := hidden (keyL_take hx)
      have HPL := hidden (show (keyL (l.take j)).length ≤ 8593080320 by have := keyL_len HVL.out j; omega)
      have hn := HBD.out x (List.mem_of_getElem? hx)
      obtain ⟨k, n, t⟩ := x
      simp only at c1 c2 c3 hv hn
      have HT2 : Hid (keyL (l.take (j + 1)) = keyL (l.take j) ++ keyV k n t) := HT
      clear HT
      clear hcell hcell2 e2 hx
      generalize keyL (l.take j) = pre at *
      rcases valid_kinds hv with rfl | rfl | rfl | rfl
      · rw [keyV_0] at HT2
        have HG := hidden (fun w => ltag_any 0 n t w (by omega) (by omega))
        clear hv hn
        go_wp2_with (refine wpList_store_new rfl _ _ rfl _ rfl rfl _ _ _ rfl ?_; intro W1 hrW hgW hsW; have k1 := (rowCells hrW).1; have k2 := (rowCells hrW).2.1; have k3 := (rowCells hrW).2.2; have HRW := hidden hrW; have HW1 := hidden hgW; clear hrW hgW hsW c1 c2 c3)
        refine (HG.out _).mono ?_
        rintro e w5 ⟨rfl, g5⟩
        have HR5 := hidden (HRW.out.grow g5)
        have HO5 := hidden (own_grow HO.out (HW1.out.of_below g5))
        have HB5 := hidden (HB.out.of_below (HW1.out.of_below g5))
        clear g5 k1 k2 k3
        go_wp2_with (at_builtin; refine wpList_append_byte_k (w := w) (wr := w5) rfl _ _ 25 rfl 5 Tryd.underlying25 info_u8 _ pre (by rfl) HO5.out HB5.out _ 1 rfl (by rfl) (by have := HPL.out; omega) ?_; intro v6 w6 hown6 hb6 hk6; have HO6 := hidden hown6; have HB6 := hidden (show Grows w w6 from hb6); have HR6 := hidden (hk6 _ _ _ (by decide) HR5.out); have k1 := (rowCells HR6.out).1; have k2 := (rowCells HR6.out).2.1; have k3 := (rowCells HR6.out).2.2; clear hown6 hb6 hk6)
        go_roundw
        case rel => exact ⟨j + 1, by omega, by go_num, by rw [HT2.out]; exact HO6.out, HB6.out⟩
        case measure => simp [intOf]; omega
      · rw [keyV_1] at HT2
        have HG := hidden (fun w => ltag_any 1 n t w (by omega) (by omega))
        have hn1 := valid_1 hv
        have hz2 := hidden (show n = ((UInt8.ofNat n.toNat).toNat : Int) by rcases hn1 with rfl | rfl <;> rfl)
        have hn0 : 0 ≤ n := by omega
        have hn2 : n ≤ 255 := by omega
        clear hv hn hn1
        go_wp2_with (refine wpList_store_new rfl _ _ rfl _ rfl rfl _ _ _ rfl ?_; intro W1 hrW hgW hsW; have k1 := (rowCells hrW).1; have k2 := (rowCells hrW).2.1; have k3 := (rowCells hrW).2.2; have HRW := hidden hrW; have HW1 := hidden hgW; clear hrW hgW hsW c1 c2 c3)
        refine (HG.out _).mono ?_
        rintro e w5 ⟨rfl, g5⟩
        have HR5 := hidden (HRW.out.grow g5)
        have HO5 := hidden (own_grow HO.out (HW1.out.of_below g5))
        have HB5 := hidden (HB.out.of_below (HW1.out.of_below g5))
        clear g5 k1 k2 k3
        go_wp2_with (first | (at_builtin; refine wpList_append_byte_k (w := w) (wr := w5) rfl _ _ 25 rfl 5 Tryd.underlying25 info_u8 _ pre (by rfl) HO5.out HB5.out _ 2 rfl (by rfl) (by have := HPL.out; omega) ?_; intro v6 w6 hown6 hb6 hk6; have HO6 := hidden hown6; have HB6 := hidden (show Grows w w6 from hb6); have HR6 := hidden (hk6 _ _ _ (by decide) HR5.out); have k1 := (rowCells HR6.out).1; have k2 := (rowCells HR6.out).2.1; have k3 := (rowCells HR6.out).2.2; clear hown6 hb6 hk6) | (clear k1 k2 k3; at_builtin; refine wpList_append_byte_k (w := w) (wr := w6) rfl _ _ 25 rfl 5 Tryd.underlying25 info_u8 _ (pre ++ [2]) (by rfl) HO6.out HB6.out _ (UInt8.ofNat n.toNat) hz2.out (by rfl) (by have := HPL.out; rw [List.length_append]; simp only [List.length_cons, List.length_nil]; omega) ?_; intro v7 w7 hown7 hb7 hk7; have HO7 := hidden hown7; have HB7 := hidden (show Grows w w7 from hb7); have HR7 := hidden (hk7 _ _ _ (by decide) HR6.out); have k1 := (rowCells HR7.out).1; have k2 := (rowCells HR7.out).2.1; have k3 := (rowCells HR7.out).2.2; clear hown7 hb7 hk7))
        go_roundw
        case rel => exact ⟨j + 1, by omega, by go_num, by rw [HT2.out]; rw [show pre ++ [2, UInt8.ofNat n.toNat] = pre ++ [2] ++ [UInt8.ofNat n.toNat] by simp]; exact HO7.out, HB7.out⟩
        case measure => simp [intOf]; omega
      · rw [keyV_2] at HT2
        have HG := hidden (fun w => ltag_any 2 n t w (by omega) (by omega))
        have HS := hidden (fun w => sortable_any n w hn.1 hn.2)
        have HBL := hidden (be8_length (n + 9223372036854775808).toNat)
        generalize be8 (n + 9223372036854775808).toNat = BE at *
        clear hv hn
        go_wp2_with (refine wpList_store_new rfl _ _ rfl _ rfl rfl _ _ _ rfl ?_; intro W1 hrW hgW hsW; have k1 := (rowCells hrW).1; have k2 := (rowCells hrW).2.1; have k3 := (rowCells hrW).2.2; have HRW := hidden hrW; have HW1 := hidden hgW; clear hrW hgW hsW c1 c2 c3)
        refine (HG.out _).mono ?_
        rintro e w5 ⟨rfl, g5⟩
        have HR5 := hidden (HRW.out.grow g5)
        have HO5 := hidden (own_grow HO.out (HW1.out.of_below g5))
        have HB5 := hidden (HB.out.of_below (HW1.out.of_below g5))
        clear g5 k1 k2 k3
        go_wp2_with (at_builtin; refine wpList_append_byte_k (w := w) (wr := w5) rfl _ _ 25 rfl 5 Tryd.underlying25 info_u8 _ pre (by rfl) HO5.out HB5.out _ 3 rfl (by rfl) (by have := HPL.out; omega) ?_; intro v6 w6 hown6 hb6 hk6; have HO6 := hidden hown6; have HB6 := hidden (show Grows w w6 from hb6); have HR6 := hidden (hk6 _ _ _ (by decide) HR5.out); have k1 := (rowCells HR6.out).1; have k2 := (rowCells HR6.out).2.1; have k3 := (rowCells HR6.out).2.2; clear hown6 hb6 hk6)
        refine (HS.out _).mono ?_
        rintro e w8 hm8
        obtain ⟨v8, rfl, hown8, g8⟩ := hm8
        have HBE8 := hidden (IsBytes.of_own hown8)
        have HR8 := hidden (HR6.out.grow g8)
        have HO8 := hidden (own_grow HO6.out g8)
        have HB8 := hidden (HB6.out.of_below g8)
        clear g8 hown8 k1 k2 k3
        go_wp2_with (at_builtin; refine wpList_append_bytes_k (w := w) (wr := w8) rfl _ _ 25 rfl 5 Tryd.underlying25 info_u8 _ (pre ++ [3]) (by rfl) HO8.out HB8.out _ BE (by rfl) HBE8.out (by have := HPL.out; have := HBL.out; rw [List.length_append]; simp only [List.length_cons, List.length_nil]; omega) ?_; intro v9 w9 hown9 hb9 hk9; have HO9 := hidden hown9; have HB9 := hidden (show Grows w w9 from hb9); have HR9 := hidden (hk9.row (by decide) (valLen _ _ _) HR8.out); have k1 := (rowCells HR9.out).1; have k2 := (rowCells HR9.out).2.1; have k3 := (rowCells HR9.out).2.2; clear hown9 hb9 hk9)
        go_roundw
        case rel => exact ⟨j + 1, by omega, by go_num, by rw [HT2.out]; rw [show pre ++ 3 :: BE = pre ++ [3] ++ BE by simp]; exact HO9.out, HB9.out⟩
        case measure => simp [intOf]; omega
      · rw [keyV_3] at HT2
        have HG := hidden (fun w => ltag_any 3 n t w (by omega) (by omega))
        obtain ⟨hn3, hlt3⟩ := valid_3 hv
        have hsz3 : t.size ≤ 1048576 := by have e : t.data.toList.length = t.size := by simp
                                           omega
        have HS := hidden (fun w h => escape_any t m w hsz3 h)
        have HEL := hidden (show (esc t.data.toList).length ≤ 8192 by have := esc_length t.data.toList; omega)
        generalize esc t.data.toList = ES at *
        clear hv hn hn3 hlt3 hsz3
        go_wp2_with (refine wpList_store_new rfl _ _ rfl _ rfl rfl _ _ _ rfl ?_; intro W1 hrW hgW hsW; have k1 := (rowCells hrW).1; have k2 := (rowCells hrW).2.1; have k3 := (rowCells hrW).2.2; have HRW := hidden hrW; have HW1 := hidden hgW; clear hrW hgW hsW c1 c2 c3)
        refine (HG.out _).mono ?_
        rintro e w5 ⟨rfl, g5⟩
        have HR5 := hidden (HRW.out.grow g5)
        have HO5 := hidden (own_grow HO.out (HW1.out.of_below g5))
        have HB5 := hidden (HB.out.of_below (HW1.out.of_below g5))
        clear g5 k1 k2 k3
        go_wp2_with (at_builtin; refine wpList_append_byte_k (w := w) (wr := w5) rfl _ _ 25 rfl 5 Tryd.underlying25 info_u8 _ pre (by rfl) HO5.out HB5.out _ 4 rfl (by rfl) (by have := HPL.out; omega) ?_; intro v6 w6 hown6 hb6 hk6; have HO6 := hidden hown6; have HB6 := hidden (show Grows w w6 from hb6); have HR6 := hidden (hk6 _ _ _ (by decide) HR5.out); have k1 := (rowCells HR6.out).1; have k2 := (rowCells HR6.out).2.1; have k3 := (rowCells HR6.out).2.2; clear hown6 hb6 hk6)
        refine (HS.out _ ((HB6.out.cell (World.block_lt_of_cell? w _ HM.out)).trans HM.out)).mono ?_
        rintro e w8 ⟨rfl, g8⟩
        have HR8 := hidden (HR6.out.grow g8)
        have HO8 := hidden (own_grow HO6.out g8)
        have HB8 := hidden (HB6.out.of_below g8)
        clear g8 k1 k2 k3
        go_wp2_with (first | (at_builtin; refine wpList_append_str_k (w := w) (wr := w8) rfl _ _ 25 9 rfl 5 Tryd.underlying25 Tryd.underlying9 info_u8 _ (pre ++ [4]) (by rfl) HO8.out HB8.out ⟨ES.toArray⟩ ES (by simp) (by rfl) (by have := HPL.out; have := HEL.out; rw [List.length_append]; simp only [List.length_cons, List.length_nil]; omega) ?_; intro v9 w9 hown9 hb9 hk9; have HO9 := hidden hown9; have HB9 := hidden (show Grows w w9 from hb9); have HR9 := hidden (hk9 _ _ _ (by decide) HR8.out); have k1 := (rowCells HR9.out).1; have k2 := (rowCells HR9.out).2.1; have k3 := (rowCells HR9.out).2.2; clear hown9 hb9 hk9) | (clear k1 k2 k3; at_builtin; refine wpList_append_str_k (w := w) (wr := w9) rfl _ _ 25 9 rfl 5 Tryd.underlying25 Tryd.underlying9 info_u8 _ (pre ++ [4] ++ ES) (by rfl) HO9.out HB9.out ⟨#[0, 0]⟩ [0, 0] rfl (by rfl) (by have := HPL.out; have := HEL.out; rw [List.length_append, List.length_append]; simp only [List.length_cons, List.length_nil]; omega) ?_; intro v10 w10 hown10 hb10 hk10; have HO10 := hidden hown10; have HB10 := hidden (show Grows w w10 from hb10); have HR10 := hidden (hk10 _ _ _ (by decide) HR9.out); have k1 := (rowCells HR10.out).1; have k2 := (rowCells HR10.out).2.1; have k3 := (rowCells HR10.out).2.2; clear hown10 hb10 hk10))
        go_roundw
        case rel => exact ⟨j + 1, by omega, by go_num, by rw [HT2.out]; rw [show pre ++ 4 :: (ES ++ [0, 0]) = pre ++ [4] ++ ES ++ [0, 0] by simp]; exact HO10.out, HB10.out⟩
        case measure => simp [intOf]; omega
    · have hd : decide (j < l.length) = false := by simpa using hlt
      have htk : l.take j = l := List.take_of_length_le (by omega)
      rw [htk] at HO
      clear htk
      go_wp2_with fail
      go_ret
      exact ⟨_, rfl, HO.out, HB.out⟩
end Go.Proofs.YtepnegbopnepfaaDoor
