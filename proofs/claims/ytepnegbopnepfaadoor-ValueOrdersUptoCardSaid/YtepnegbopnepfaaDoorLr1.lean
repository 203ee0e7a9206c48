/-
  The reference of package value: SortKey of a row of valid values. Nothing that was there is changed.
-/
import Derived.Test.YtepnegbopnepfaaDoorLs2
import Derived.Test.YtepnegbopnepfaaDoorFix
namespace Go.Proofs.YtepnegbopnepfaaDoor
open Go.RowKit
set_option linter.unusedVariables false
set_option linter.unusedSimpArgs false

theorem xor_top (r : Nat) (h : r < 2 ^ 63) : r ^^^ 2 ^ 63 = 2 ^ 63 + r := by
  have h1 : 2 ^ 63 + r = 2 ^ 63 ||| r := by
    have := Nat.two_pow_add_eq_or_of_lt h 1
    rwa [Nat.mul_one] at this
  apply Nat.eq_of_testBit_eq
  intro i
  rw [h1, Nat.testBit_xor, Nat.testBit_or, Nat.testBit_two_pow]
  by_cases hi : 63 = i
  · subst hi
    rw [Nat.testBit_lt_two_pow h]
    simp
  · simp [hi]
theorem xor_top2 (r : Nat) (h : r < 2 ^ 63) : (2 ^ 63 + r) ^^^ 2 ^ 63 = r := by
  rw [← xor_top r h, Nat.xor_assoc, Nat.xor_self, Nat.xor_zero]
theorem xor_sign (n : Int) (h1 : -9223372036854775808 ≤ n) (h2 : n < 9223372036854775808) : bits .xor .u64 (IntKind.u64.wrap n) 9223372036854775808 = n + 9223372036854775808 := by
  obtain ⟨X, hX⟩ : ∃ X : Nat, IntKind.u64.wrap n = (X : Int) := ⟨(n % 18446744073709551616).toNat, by rw [IntKind.wrap_u64]; omega⟩
  have hXl : X < 18446744073709551616 := by have := IntKind.wrap_u64 n; omega
  have hXe : (X : Int) = n % 18446744073709551616 := by rw [← hX, IntKind.wrap_u64]
  rw [hX]
  show IntKind.u64.wrap ((BitVec.ofInt 64 (X : Int) ^^^ BitVec.ofInt 64 9223372036854775808).toNat : Int) = _
  have hb : (BitVec.ofInt 64 9223372036854775808).toNat = 2 ^ 63 := by decide
  rw [BitVec.toNat_xor, ofInt_u64 X hXl, hb, IntKind.wrap_u64]
  by_cases h : X < 2 ^ 63
  · rw [xor_top X h]
    omega
  · have e := xor_top2 (X - 2 ^ 63) (by omega)
    rw [show 2 ^ 63 + (X - 2 ^ 63) = X by omega] at e
    rw [e]
    omega
/-- s[i] in a walk -/
theorem wpList_index_str {P : Program} {w : World} {ops : Array Oper} {rest : List Oper} {o : Oper} {a : Act} {Q : Exit → Act → World → Prop} (hgd : o.guard = none) (x i : Operand) (t : TypeId)
    (ho : o.op = .index t x i) (ht : P.underlying t = some .string) (s : ByteArray) (c : Nat) (b : UInt8) (hx : a.eval x = .string s) (hi : a.eval i = .int .i64 (c : Int)) (hb : s.data.toList[c]? = some b) (z : Int) (hz : z = (b.toNat : Int))
    (h : wpList P ops Q rest (a.put o.dst (.int .u8 z)) w) : wpList P ops Q (o :: rest) a w := by
  subst hz
  refine wpList_plain hgd fun K hK => ?_
  have hlt : c < s.data.toList.length := by
    rcases Nat.lt_or_ge c s.data.toList.length with h | h
    · exact h
    · rw [List.getElem?_eq_none h] at hb; cases hb
  have hsz : s.data.toList.length = s.size := by simp
  have hrun := run_index_string (P := P) w t s .i64 (c : Int) ht
  rw [dif_pos (by omega)] at hrun
  have hget : s[(c : Int).toNat]'(by omega) = b := by
    have h1 : s.data.toList[c]'hlt = b := by
      rw [List.getElem?_eq_getElem hlt] at hb
      injection hb
    rw [← h1]
    simp
    rfl
  rw [hget] at hrun
  unfold Oper.wp execOp
  simp only [ho, Sem.run_bind, Sem.run_pure, Result.andThen_ok, hx, hi, hrun]
  exact hK _ _ h
/-- append(out, c): one byte; blocks that are not out's own are what they were, and out's new block is none of them -/
theorem wpList_append_byte_f {P : Program} {w wr : World} {ops : Array Oper} {rest : List Oper} {o : Oper} {a : Act} {Q : Exit → Act → World → Prop} (hgd : o.guard = none) (s x : Operand) (t : TypeId)
    (ho : o.op = .call { callee := .builtin .append, args := #[s, x], argTypes := #[t, t] })
    (e : TypeId) (ht : P.underlying t = some (.slice e)) (hinfo : (P.info? e).map (fun i => (i.zero, i.size, i.bytes)) = some (some (.int .u8 0), 1, 1))
    (v : Value) (pre : List UInt8) (hs : a.eval s = v) (hown : wr.ownsRow w.heap.size e 1 v pre.length (bcells pre)) (hb : Below w.heap.size w wr)
    (z : Int) (c : UInt8) (hz : z = (c.toNat : Int)) (hx : a.eval x = .slice (some ⟨wr.heap.size, 0, none⟩) 1 1) (hlen : pre.length + 1 ≤ 140737488355328)
    (h : ∀ v' w', w'.ownsRow w.heap.size e 1 v' (pre ++ [c]).length (bcells (pre ++ [c])) → Below w.heap.size w w' → (∀ F, v.ownBlock ≠ some F → F < wr.heap.size → v'.ownBlock ≠ some F ∧ w'.heap[F]? = wr.heap[F]? ∧ F < w'.heap.size) → wpList P ops Q rest (a.put o.dst v') w') :
    wpList P ops Q (o :: rest) a (wr.alloc (.cells #[.int .u8 z] e)) := by
  obtain ⟨i0, hi, hz0, hz1, hz2⟩ := info_parts hinfo
  subst hz
  refine wpList_append_own_at _ hgd s x t ho w.heap.size e i0 (.int .u8 0) 1 1 ht hi hz0 hz1 hz2 rfl (by decide) v pre.length (bcells pre) hs (hown.alloc _) ⟨wr.heap.size, 0, none⟩ 1 1 [.int .u8 (c.toNat : Int)] hx rfl ?_ ?_ ?_ ?_ ?_ ?_
  · intro j u hj
    match j, hj with
    | 0, hj => simp at hj; subst hj; simp [Addr.add]
  · intro u hu; simp at hu; subst hu; rfl
  · unfold maxLen; omega
  · omega
  · have := hb.size; simp; omega
  · intro v' w' h1 h2 _ hat
    rw [← bcells_snoc, show pre.length + 1 = (pre ++ [c]).length by simp] at h1
    refine h v' w' h1 ((hb.alloc hb.size _).grown h2 (by have := hb.size; simp; omega) (fun k hk => (hown.lt k hk).1)) (fun F hF hlt => ?_)
    have hsz : (wr.alloc (.cells #[.int .u8 (c.toNat : Int)] e)).heap.size = wr.heap.size + 1 := by simp
    refine ⟨?_, ?_, ?_⟩
    · rcases hat with hat | hat
      · rw [hat]; exact hF
      · rw [hat, hsz]
        intro he
        injection he with he
        omega
    · rw [h2.block F (by omega) (fun he => hF he.symm)]
      exact (show Grows wr (wr.alloc (.cells #[.int .u8 (c.toNat : Int)] e)) from (Below.refl _ _).alloc (Nat.le_refl _) _).block F hlt
    · have := h2.size
      omega
theorem be8_get {N c : Nat} (h : c < 8) : ∃ b, (be8 N)[c]? = some b ∧ (fixb N 8)[7 - c]? = some b ∧ (be8 N).take (c + 1) = (be8 N).take c ++ [b] := by
  have hl : c < (be8 N).length := by rw [be8_length]; exact h
  refine ⟨(be8 N)[c], List.getElem?_eq_getElem hl, ?_, by rw [List.take_succ_eq_append_getElem hl]⟩
  have h1 : (be8 N)[c]? = some (be8 N)[c] := List.getElem?_eq_getElem hl
  unfold be8 at h1 ⊢
  rw [List.getElem?_reverse (by rw [fixb_length]; exact h), fixb_length] at h1
  exact h1
def RK2 (w : World) (F : Nat) (N : Nat) (pre : List UInt8) (key kk : Value) (wr : World) : Prop :=
  ∃ c : Nat, c ≤ 8 ∧ kk = .int .i64 (7 - (c : Int)) ∧ wr.ownsRow w.heap.size 5 1 key (pre ++ (be8 N).take c).length (bcells (pre ++ (be8 N).take c)) ∧ Grows w wr ∧
    key.ownBlock ≠ some F ∧ F < wr.heap.size ∧ ∀ j b, (fixb N 8)[j]? = some b → wr.cell? ⟨F, j, none⟩ = some (.int .u8 (b.toNat : Int))
def RK3 (w : World) (g : Nat) (t : ByteArray) (pre : List UInt8) (key ix : Value) (wr : World) : Prop :=
  ∃ c : Nat, c ≤ t.data.toList.length ∧ ix = .int .i64 (c : Int) ∧ wr.ownsRow w.heap.size 5 1 key (pre ++ esc (t.data.toList.take c)).length (bcells (pre ++ esc (t.data.toList.take c))) ∧ Grows w wr ∧
    Row wr g 28 [.int .i64 3, .int .i64 0, .string t]
set_option maxRecDepth 8000 in
set_option maxHeartbeats 4000000 in
theorem rsortkey_any (v : Value) (l : List Val) (w : World) (hr : ReadsV w v l) (hl : l.length ≤ 1048576) (vl : validL l = true) (hbd : ∀ x ∈ l, -9223372036854775808 ≤ x.n ∧ x.n < 9223372036854775808) :
    Calls Tryd.prog 10 #[v] w (Made (keyL l) w) := by
  have HR := hidden hr
  have HVL := hidden vl
  have HBD := hidden hbd
  obtain ⟨A, c, rfl, hle, hxx⟩ := hr
  clear hxx vl hbd
  go_enter Tryd.func10, Tryd.ntmps10
  go_wp2_with fail
  go_loopw [3, 4] (fun key i wr => SKRel w l key i wr) (fun _ i _ => l.length - (intOf i).toNat)
  case atStart => exact ⟨0, Nat.zero_le _, rfl, World.ownsRow_nil _ _ _ _, Below.refl _ _⟩
  case round =>
    obtain ⟨j, hj, rfl, hown, hb⟩ := hrel
    have HO := hidden hown
    have HB := hidden (show Grows w wr from hb)
    clear hown hb
    by_cases hlt : j < l.length
    · obtain ⟨A', c', he, _, hcell⟩ := HR.out.grow HB.out
      injection he with e1 e2 e3
      subst e1 e3
      obtain ⟨b, off, rfl, hcell2⟩ := hcell (by omega)
      obtain ⟨x, hx⟩ : ∃ x, l[j]? = some x := ⟨_, List.getElem?_eq_getElem hlt⟩
      obtain ⟨c1, c2, c3⟩ := hcell2 j x hx
      have hj0 : (0 : Int) ≤ (j : Int) := by omega
      have hj1 : (j : Int) < (l.length : Int) := by omega
      have hd : decide (j < l.length) = true := by simpa using hlt
      have hv := validL_at HVL.out hx
      have HT := hidden (keyL_take hx)
      have HPL := hidden (show (keyL (l.take j)).length ≤ 8593080320 by have := keyL_len HVL.out j; omega)
      have hn := HBD.out x (List.mem_of_getElem? hx)
      obtain ⟨k, n, t⟩ := x
      simp only at c1 c2 c3 hv hn
      have HT2 : Hid (keyL (l.take (j + 1)) = keyL (l.take j) ++ keyV k n t) := HT
      clear HT
      clear hcell hcell2 e2 hx
      generalize keyL (l.take j) = pre at *
      rcases valid_kinds hv with rfl | rfl | rfl | rfl
      · rw [keyV_0] at HT2
        clear hv hn
        go_wp2_with (first | (refine wpList_store_new rfl _ _ rfl _ rfl rfl _ _ _ rfl ?_; intro W1 hrW hgW hsW; have k1 := (rowCells hrW).1; have k2 := (rowCells hrW).2.1; have k3 := (rowCells hrW).2.2; have HR5 := hidden hrW; have HO5 := hidden (own_grow HO.out hgW); have HB5 := hidden (HB.out.of_below hgW); clear hrW hgW hsW c1 c2 c3) | (clear k1 k2 k3; at_builtin; refine wpList_append_byte_k (w := w) (wr := W1) rfl _ _ 25 rfl 5 Tryd.underlying25 info_u8 _ pre (by rfl) HO5.out HB5.out _ 1 rfl (by rfl) (by have := HPL.out; omega) ?_; intro v6 w6 hown6 hb6 hk6; have HO6 := hidden hown6; have HB6 := hidden (show Grows w w6 from hb6); have HR6 := hidden (hk6 _ _ _ (by decide) HR5.out); have k1 := (rowCells HR6.out).1; have k2 := (rowCells HR6.out).2.1; have k3 := (rowCells HR6.out).2.2; clear hown6 hb6 hk6))
        go_roundw
        case rel => exact ⟨j + 1, by omega, by go_num, by rw [HT2.out]; exact HO6.out, HB6.out⟩
        case measure => simp [intOf]; omega
      · rw [keyV_1] at HT2
        have hn1 := valid_1 hv
        have hz2 := hidden (show n = ((UInt8.ofNat n.toNat).toNat : Int) by rcases hn1 with rfl | rfl <;> rfl)
        have hn0 : 0 ≤ n := by omega
        have hn2 : n ≤ 255 := by omega
        clear hv hn hn1
        go_wp2_with (first | (refine wpList_store_new rfl _ _ rfl _ rfl rfl _ _ _ rfl ?_; intro W1 hrW hgW hsW; have k1 := (rowCells hrW).1; have k2 := (rowCells hrW).2.1; have k3 := (rowCells hrW).2.2; have HR5 := hidden hrW; have HO5 := hidden (own_grow HO.out hgW); have HB5 := hidden (HB.out.of_below hgW); clear hrW hgW hsW c1 c2 c3) | (clear k1 k2 k3; at_builtin; refine wpList_append_byte_k (w := w) (wr := W1) rfl _ _ 25 rfl 5 Tryd.underlying25 info_u8 _ pre (by rfl) HO5.out HB5.out _ 2 rfl (by rfl) (by have := HPL.out; omega) ?_; intro v6 w6 hown6 hb6 hk6; have HO6 := hidden hown6; have HB6 := hidden (show Grows w w6 from hb6); have HR6 := hidden (hk6 _ _ _ (by decide) HR5.out); have k1 := (rowCells HR6.out).1; have k2 := (rowCells HR6.out).2.1; have k3 := (rowCells HR6.out).2.2; clear hown6 hb6 hk6) | (clear k1 k2 k3; at_builtin; refine wpList_append_byte_k (w := w) (wr := w6) rfl _ _ 25 rfl 5 Tryd.underlying25 info_u8 _ (pre ++ [2]) (by rfl) HO6.out HB6.out _ (UInt8.ofNat n.toNat) hz2.out (by rfl) (by have := HPL.out; rw [List.length_append]; simp only [List.length_cons, List.length_nil]; omega) ?_; intro v7 w7 hown7 hb7 hk7; have HO7 := hidden hown7; have HB7 := hidden (show Grows w w7 from hb7); have HR7 := hidden (hk7 _ _ _ (by decide) HR6.out); have k1 := (rowCells HR7.out).1; have k2 := (rowCells HR7.out).2.1; have k3 := (rowCells HR7.out).2.2; clear hown7 hb7 hk7))
        go_roundw
        case rel => exact ⟨j + 1, by omega, by go_num, by rw [HT2.out]; rw [show pre ++ [2, UInt8.ofNat n.toNat] = pre ++ [2] ++ [UInt8.ofNat n.toNat] by simp]; exact HO7.out, HB7.out⟩
        case measure => simp [intOf]; omega
      · rw [keyV_2] at HT2
        have HX := xor_sign n hn.1 hn.2
        obtain ⟨N, hN⟩ : ∃ N : Nat, n + 9223372036854775808 = (N : Int) := ⟨(n + 9223372036854775808).toNat, by omega⟩
        have HF := hidden (fun w => rfixed_any (N : Int) 8 w (by omega) (by omega))
        rw [hN] at HX HT2
        rw [Int.toNat_natCast] at HF HT2
        rw [show fixs N 8 = fixb N 8 from fixs_ok (s := 8) (by omega) (by omega)] at HF
        clear hv hn hN
        go_wp2_with (first | (refine wpList_store_new rfl _ _ rfl _ rfl rfl _ _ _ rfl ?_; intro W1 hrW hgW hsW; have k1 := (rowCells hrW).1; have k2 := (rowCells hrW).2.1; have k3 := (rowCells hrW).2.2; have HR5 := hidden hrW; have HO5 := hidden (own_grow HO.out hgW); have HB5 := hidden (HB.out.of_below hgW); clear hrW hgW hsW c1 c2 c3) | (clear k1 k2 k3; at_builtin; refine wpList_append_byte_k (w := w) (wr := W1) rfl _ _ 25 rfl 5 Tryd.underlying25 info_u8 _ pre (by rfl) HO5.out HB5.out _ 3 rfl (by rfl) (by have := HPL.out; omega) ?_; intro v6 w6 hown6 hb6 hk6; have HO6 := hidden hown6; have HB6 := hidden (show Grows w w6 from hb6); have HR6 := hidden (hk6 _ _ _ (by decide) HR5.out); have k1 := (rowCells HR6.out).1; have k2 := (rowCells HR6.out).2.1; have k3 := (rowCells HR6.out).2.2; clear hown6 hb6 hk6))
        refine (HF.out _).mono ?_
        rintro e w8 ⟨v8, rfl, hown8, g8⟩
        clear HX
        rw [fixb_length] at hown8
        rcases hown8.2 with ⟨_, h0⟩ | ⟨F, cap, cur, rfl, hF, hcur, hcap1, hcap2, hcap3, hcap4⟩
        · exact absurd h0 (by decide)
        have hFlt : F < w8.heap.size := (hown8.lt F rfl).2
        have hFc : ∀ j b, (fixb N 8)[j]? = some b → w8.cell? ⟨F, j, none⟩ = some (.int .u8 (b.toNat : Int)) := by
          intro j b hjb
          have h := hown8.cells rfl j (.int .u8 (b.toNat : Int)) (by unfold bcells; rw [List.getElem?_map, hjb]; rfl)
          rwa [Addr.add_lit, Nat.zero_add] at h
        have hne : v6.ownBlock ≠ some F := fun he => by have := (HO6.out.lt F he).2; omega
        have HO8 := hidden (own_grow HO6.out g8)
        have HB8 := hidden (HB6.out.of_below g8)
        have HFLT := hidden hFlt
        have HFC := hidden hFc
        have HNE := hidden hne
        clear g8 hown8 hF hcur hcap2 hcap3 hcap4 hFlt hFc hne k1 k2 k3
        go_wp2_with fail
        go_loopw [3, 7] (fun key kk wr2 => RK2 w F N (pre ++ [3]) key kk wr2) (fun _ kk _ => (intOf kk + 1).toNat)
        case atStart => exact ⟨0, by omega, rfl, by rw [List.take_zero, List.append_nil]; exact HO8.out, HB8.out, HNE.out, HFLT.out, HFC.out⟩
        case round =>
          obtain ⟨c2, hc8, rfl, hownK, hbK, hneK, hltK, hcK⟩ := hrel
          have HOK := hidden hownK
          have HBK := hidden hbK
          have HNEK := hidden hneK
          have HLTK := hidden hltK
          have HCK := hidden hcK
          clear hownK hbK hneK hltK hcK HO6 HB6 HO8 HB8 HR6 HO5 HB5 HR5 HO HB
          by_cases hc : c2 < 8
          · obtain ⟨bt, hb1, hb2, hb3⟩ := be8_get (N := N) hc
            have hcl := HCK.out (7 - c2) bt hb2
            obtain ⟨mm, hm⟩ : ∃ mm : Nat, mm = 7 - c2 := ⟨_, rfl⟩
            have hmi : (7 - (c2 : Int)) = (mm : Int) := by omega
            rw [hmi]
            rw [← hm] at hcl
            have hm8 : mm < 8 := by omega
            have HMM := hidden (show (mm : Int) - 1 = 7 - ((c2 + 1 : Nat) : Int) by omega)
            have HB3 := hidden hb3
            have hbt := bt.toNat_lt
            have HLEN := hidden (show (pre ++ [3] ++ (be8 N).take c2).length + 1 ≤ 140737488355328 by have := HPL.out; rw [List.length_append, List.length_append, List.length_take]; simp only [List.length_cons, List.length_nil]; omega)
            clear hb1 hb2 hb3 hm hmi
            go_wp2_with (at_builtin; refine wpList_append_byte_f (w := w) (wr := wr) rfl _ _ 25 rfl 5 Tryd.underlying25 info_u8 _ (pre ++ [3] ++ (be8 N).take c2) (by rfl) HOK.out HBK.out _ bt rfl (by rfl) HLEN.out ?_; intro v9 w9 hown9 hb9 hF9; have HO9 := hidden hown9; have HB9 := hidden (show Grows w w9 from hb9); have HF9 := hidden (hF9 F HNEK.out HLTK.out); clear hown9 hb9 hF9 hcl)
            go_roundw
            case rel => exact ⟨c2 + 1, by omega, by rw [HMM.out], by rw [HB3.out, ← List.append_assoc]; exact HO9.out, HB9.out, HF9.out.1, HF9.out.2.2, fun j b hjb => (World.cell?_of_block HF9.out.2.1).trans (HCK.out j b hjb)⟩
            case measure => (simp [intOf]; try omega)
          · have hce : c2 = 8 := by omega
            subst hce
            have HE := hidden (show pre ++ 3 :: be8 N = pre ++ [3] ++ (be8 N).take 8 by rw [List.take_of_length_le (by rw [be8_length]; exact Nat.le_refl _)]; simp)
            rw [show (7 - ((8 : Nat) : Int)) = -1 from rfl]
            clear hc hc8
            go_wp2_with fail
            exact ⟨⟨j + 1, by omega, by go_num, by rw [HT2.out, HE.out]; exact HOK.out, HBK.out⟩, by simp [intOf]; omega⟩
      · rw [keyV_3] at HT2
        obtain ⟨hn3, hlt3⟩ := valid_3 hv
        subst hn3
        have hsz3 : t.data.toList.length = t.size := by simp
        have hsz4 : t.size ≤ 4096 := by omega
        have HSZ := hidden hsz3
        clear hv hn hlt3 hsz3
        go_wp2_with (first | (refine wpList_store_new rfl _ _ rfl _ rfl rfl _ _ _ rfl ?_; intro W1 hrW hgW hsW; have k1 := (rowCells hrW).1; have k2 := (rowCells hrW).2.1; have k3 := (rowCells hrW).2.2; have HR5 := hidden hrW; have HO5 := hidden (own_grow HO.out hgW); have HB5 := hidden (HB.out.of_below hgW); clear hrW hgW hsW c1 c2 c3) | (clear k1 k2 k3; at_builtin; refine wpList_append_byte_k (w := w) (wr := W1) rfl _ _ 25 rfl 5 Tryd.underlying25 info_u8 _ pre (by rfl) HO5.out HB5.out _ 4 rfl (by rfl) (by have := HPL.out; omega) ?_; intro v6 w6 hown6 hb6 hk6; have HO6 := hidden hown6; have HB6 := hidden (show Grows w w6 from hb6); have HR6 := hidden (hk6 _ _ _ (by decide) HR5.out); have k1 := (rowCells HR6.out).1; have k2 := (rowCells HR6.out).2.1; have k3 := (rowCells HR6.out).2.2; clear hown6 hb6 hk6))
        clear k1 k2 k3
        go_loopw [3, 8] (fun key ix wr2 => RK3 w wr.heap.size t (pre ++ [4]) key ix wr2) (fun _ ix _ => t.size - (intOf ix).toNat)
        case atStart => exact ⟨0, by omega, rfl, by rw [List.take_zero, esc_nil, List.append_nil]; exact HO6.out, HB6.out, HR6.out⟩
        case round =>
          obtain ⟨c2, hc2, rfl, hownK, hbK, hrowK⟩ := hrel
          have HOK := hidden hownK
          have HBK := hidden hbK
          have HRK := hidden hrowK
          have k1 := (rowCells hrowK).1
          have k2 := (rowCells hrowK).2.1
          have k3 := (rowCells hrowK).2.2
          rw [HSZ.out] at hc2
          have HEL := hidden (show (esc (t.data.toList.take c2)).length ≤ 8192 by have := esc_length (t.data.toList.take c2); rw [List.length_take] at this; omega)
          clear hownK hbK hrowK HO6 HB6 HR6 HO5 HB5 HR5 HO HB
          by_cases hc : c2 < t.size
          · obtain ⟨bt, hbt⟩ : ∃ bt, t.data.toList[c2]? = some bt := ⟨_, List.getElem?_eq_getElem (by rw [HSZ.out]; exact hc)⟩
            have HTK := hidden (show t.data.toList.take (c2 + 1) = t.data.toList.take c2 ++ [bt] by rw [List.take_add_one, hbt]; rfl)
            have HBT := hidden hbt
            have hci : (c2 : Int) < (t.size : Int) := by omega
            have hci0 : (0 : Int) ≤ (c2 : Int) := by omega
            have hdc : decide (c2 < t.size) = true := by simpa using hc
            clear hbt
            by_cases hz : bt = 0
            · subst hz
              go_wp2_with (first | (refine wpList_index_str rfl _ _ 9 rfl Tryd.underlying9 t c2 0 rfl rfl HBT.out 0 rfl ?_) | (clear k1 k2 k3; at_builtin; refine wpList_append_byte_k (w := w) (wr := wr) rfl _ _ 25 rfl 5 Tryd.underlying25 info_u8 _ (pre ++ [4] ++ esc (t.data.toList.take c2)) (by rfl) HOK.out HBK.out _ 0 rfl (by rfl) (by have := HPL.out; have := HEL.out; simp only [List.length_append, List.length_cons, List.length_nil]; omega) ?_; intro v20 w20 hown20 hb20 hk20; have HO20 := hidden hown20; have HB20 := hidden (show Grows w w20 from hb20); have HR20 := hidden (hk20 _ _ _ (by decide) HRK.out); have k1 := (rowCells HR20.out).1; have k2 := (rowCells HR20.out).2.1; have k3 := (rowCells HR20.out).2.2; clear hown20 hb20 hk20) | (clear k1 k2 k3; at_builtin; refine wpList_append_byte_k (w := w) (wr := w20) rfl _ _ 25 rfl 5 Tryd.underlying25 info_u8 _ (pre ++ [4] ++ esc (t.data.toList.take c2) ++ [0]) (by rfl) HO20.out HB20.out _ 255 rfl (by rfl) (by have := HPL.out; have := HEL.out; simp only [List.length_append, List.length_cons, List.length_nil]; omega) ?_; intro v21 w21 hown21 hb21 hk21; have HO21 := hidden hown21; have HB21 := hidden (show Grows w w21 from hb21); have HR21 := hidden (hk21 _ _ _ (by decide) HR20.out); have k1 := (rowCells HR21.out).1; have k2 := (rowCells HR21.out).2.1; have k3 := (rowCells HR21.out).2.2; clear hown21 hb21 hk21))
              go_roundw
              case rel => exact ⟨c2 + 1, by rw [HSZ.out]; omega, by go_num, by rw [HTK.out, esc_snoc, if_pos rfl, ← List.append_assoc, show ∀ l : List UInt8, l ++ [0, 255] = l ++ [0] ++ [255] from fun l => by simp]; exact HO21.out, HB21.out, HR21.out⟩
              case measure => simp [intOf]; omega
            · obtain ⟨z, hzz⟩ : ∃ z : Int, z = (bt.toNat : Int) := ⟨_, rfl⟩
              have hz0 : 0 ≤ z := by omega
              have hz1 : z < 256 := by have := bt.toNat_lt; omega
              have hz2 : z ≠ 0 := fun he => hz (UInt8.toNat_inj.1 (by rw [show bt.toNat = 0 by omega]; rfl))
              have hz3 : (z == 0) = false := by simpa using hz2
              have HZ := hidden hzz
              have HNZ := hidden hz
              clear hzz hz hz2
              go_wp2_with (first | (refine wpList_index_str rfl _ _ 9 rfl Tryd.underlying9 t c2 bt rfl rfl HBT.out z HZ.out ?_) | (clear k1 k2 k3; at_builtin; refine wpList_append_byte_k (w := w) (wr := wr) rfl _ _ 25 rfl 5 Tryd.underlying25 info_u8 _ (pre ++ [4] ++ esc (t.data.toList.take c2)) (by rfl) HOK.out HBK.out _ bt HZ.out (by rfl) (by have := HPL.out; have := HEL.out; simp only [List.length_append, List.length_cons, List.length_nil]; omega) ?_; intro v20 w20 hown20 hb20 hk20; have HO20 := hidden hown20; have HB20 := hidden (show Grows w w20 from hb20); have HR20 := hidden (hk20 _ _ _ (by decide) HRK.out); have k1 := (rowCells HR20.out).1; have k2 := (rowCells HR20.out).2.1; have k3 := (rowCells HR20.out).2.2; clear hown20 hb20 hk20))
              go_roundw
              case rel => exact ⟨c2 + 1, by rw [HSZ.out]; omega, by go_num, by rw [HTK.out, esc_snoc, if_neg HNZ.out, ← List.append_assoc]; exact HO20.out, HB20.out, HR20.out⟩
              case measure => simp [intOf]; omega
          · have hce : c2 = t.size := by omega
            have hdc : decide (c2 < t.size) = false := by simpa using hc
            have HE := hidden (show pre ++ 4 :: (esc t.data.toList ++ [0, 0]) = pre ++ [4] ++ esc (t.data.toList.take c2) ++ [0] ++ [0] by rw [List.take_of_length_le (by rw [HSZ.out]; omega)]; simp)
            clear hce
            go_wp2_with (first | (clear k1 k2 k3; at_builtin; refine wpList_append_byte_k (w := w) (wr := wr) rfl _ _ 25 rfl 5 Tryd.underlying25 info_u8 _ (pre ++ [4] ++ esc (t.data.toList.take c2)) (by rfl) HOK.out HBK.out _ 0 rfl (by rfl) (by have := HPL.out; have := HEL.out; simp only [List.length_append, List.length_cons, List.length_nil]; omega) ?_; intro v20 w20 hown20 hb20 hk20; have HO20 := hidden hown20; have HB20 := hidden (show Grows w w20 from hb20); have HR20 := hidden (hk20 _ _ _ (by decide) HRK.out); have k1 := (rowCells HR20.out).1; have k2 := (rowCells HR20.out).2.1; have k3 := (rowCells HR20.out).2.2; clear hown20 hb20 hk20) | (clear k1 k2 k3; at_builtin; refine wpList_append_byte_k (w := w) (wr := w20) rfl _ _ 25 rfl 5 Tryd.underlying25 info_u8 _ (pre ++ [4] ++ esc (t.data.toList.take c2) ++ [0]) (by rfl) HO20.out HB20.out _ 0 rfl (by rfl) (by have := HPL.out; have := HEL.out; simp only [List.length_append, List.length_cons, List.length_nil]; omega) ?_; intro v21 w21 hown21 hb21 hk21; have HO21 := hidden hown21; have HB21 := hidden (show Grows w w21 from hb21); have HR21 := hidden (hk21 _ _ _ (by decide) HR20.out); have k1 := (rowCells HR21.out).1; have k2 := (rowCells HR21.out).2.1; have k3 := (rowCells HR21.out).2.2; clear hown21 hb21 hk21))
            exact ⟨⟨j + 1, by omega, by go_num, by rw [HT2.out, HE.out]; exact HO21.out, HB21.out⟩, by simp [intOf]; omega⟩
    · have hd : decide (j < l.length) = false := by simpa using hlt
      have htk : l.take j = l := List.take_of_length_le (by omega)
      rw [htk] at HO
      clear htk
      go_wp2_with fail
      go_ret
      exact ⟨_, rfl, HO.out, HB.out⟩
end Go.Proofs.YtepnegbopnepfaaDoor
