/-
  Package value as it landed: Encode of a valid value. Nothing that was there is changed.
-/
import Derived.Test.YtepnegbopnepfaaDoorTabs
import Derived.Test.YtepnegbopnepfaaDoorLstr
import Derived.Test.YtepnegbopnepfaaDoorEnc
import Derived.Test.YtepnegbopnepfaaDoorZig
import Derived.Test.YtepnegbopnepfaaDoorVCat
import Derived.Test.YtepnegbopnepfaaDoorParts
namespace Go.Proofs.YtepnegbopnepfaaDoor
open Go.RowKit
set_option linter.unusedVariables false
set_option linter.unusedSimpArgs false

def BytesL (l : List UInt8) (v : Value) (w : World) : Prop := ∃ A c, v = .slice A l.length c ∧ IsBytes w (.slice A l.length c) l
theorem BytesL.lasts {l : List UInt8} : ∀ v w w', BytesL l v w → Grows w w' → BytesL l v w' := fun _ _ _ ⟨A, c, h1, h2⟩ hb => ⟨A, c, h1, h2.grow hb⟩
theorem BytesL.of {l : List UInt8} {v : Value} {w : World} (h : IsBytes w v l) : BytesL l v w := by
  obtain ⟨A, c, rfl, hc⟩ := h
  exact ⟨A, c, rfl, A, c, rfl, hc⟩
theorem BytesL.is {l : List UInt8} {v : Value} {w : World} (h : BytesL l v w) : IsBytes w v l := by
  obtain ⟨A, c, rfl, h⟩ := h
  exact h
def GiveB (l : List UInt8) (w : World) (e : Ending) (w' : World) : Prop := ∃ v, e = .returned v ∧ Grows w w' ∧ BytesL l v w'
theorem made_give {l : List UInt8} {w : World} {e : Ending} {w' : World} (h : Made l w e w') : GiveB l w e w' := by
  obtain ⟨v, he, hown, hb⟩ := h
  exact ⟨v, he, hb, BytesL.of (IsBytes.of_own hown)⟩
theorem IsParts.three {w : World} {A B C : Option Addr} {c d f : Nat} {la lb lc : List UInt8} (ha : IsBytes w (.slice A la.length c) la) (hb : IsBytes w (.slice B lb.length d) lb) (hc : IsBytes w (.slice C lc.length f) lc) (E : TypeId) :
    IsParts (w.alloc (.cells #[.slice A la.length c, .slice B lb.length d, .slice C lc.length f] E)) (.slice (some ⟨w.heap.size, 0, none⟩) 3 3) [la, lb, lc] := by
  have hr : Row (w.alloc (.cells #[.slice A la.length c, .slice B lb.length d, .slice C lc.length f] E)) w.heap.size E [.slice A la.length c, .slice B lb.length d, .slice C lc.length f] := Row.new w E _ _ rfl
  have hg : Grows w (w.alloc (.cells #[.slice A la.length c, .slice B lb.length d, .slice C lc.length f] E)) := (Below.refl _ _).alloc (Nat.le_refl _) _
  refine ⟨_, 3, rfl, fun _ => ⟨w.heap.size, 0, rfl, fun j hj => ?_⟩⟩
  have hc' := hr.cell (0 + j)
  match j, hj with
  | 0, _ => exact ⟨A, c, hc', ha.grow hg⟩
  | 1, _ => exact ⟨B, d, hc', hb.grow hg⟩
  | 2, _ => exact ⟨C, f, hc', hc.grow hg⟩
def PartsL (ls : List (List UInt8)) (v : Value) (w : World) : Prop := ∃ A c, v = .slice A ls.length c ∧ IsParts w (.slice A ls.length c) ls
theorem PartsL.lasts {ls : List (List UInt8)} : ∀ v w w', PartsL ls v w → Grows w w' → PartsL ls v w' := fun _ _ _ ⟨A, c, h1, h2⟩ hb => ⟨A, c, h1, h2.grow hb⟩
/-- the encoding of a value -/
def encV (k n : Int) (t : ByteArray) : List UInt8 :=
  if k = 1 then [1, UInt8.ofNat n.toNat] else if k = 2 then 2 :: enc (zz n).toNat else if k = 3 then 3 :: (enc t.data.toList.length ++ t.data.toList) else [0]
theorem encV_0 (n : Int) (t : ByteArray) : encV 0 n t = [0] := rfl
theorem encV_1 (n : Int) (t : ByteArray) : encV 1 n t = [1, UInt8.ofNat n.toNat] := rfl
theorem encV_2 (n : Int) (t : ByteArray) : encV 2 n t = 2 :: enc (zz n).toNat := by
  unfold encV
  rw [if_neg (show ¬ (2 : Int) = 1 by decide), if_pos (show (2 : Int) = 2 by decide)]
theorem encV_3 (n : Int) (t : ByteArray) : encV 3 n t = 3 :: (enc t.data.toList.length ++ t.data.toList) := by
  unfold encV
  rw [if_neg (show ¬ (3 : Int) = 1 by decide), if_neg (show ¬ (3 : Int) = 2 by decide), if_pos (show (3 : Int) = 3 by decide)]
theorem valid_kinds {k n : Int} {t : ByteArray} (h : validV k n t = true) : k = 0 ∨ k = 1 ∨ k = 2 ∨ k = 3 := by
  by_cases h0 : k = 0
  · exact .inl h0
  by_cases h1 : k = 1
  · exact .inr (.inl h1)
  by_cases h2 : k = 2
  · exact .inr (.inr (.inl h2))
  by_cases h3 : k = 3
  · exact .inr (.inr (.inr h3))
  unfold validV at h
  rw [if_neg h0, if_neg h1, if_neg h2, if_neg h3] at h
  cases h
theorem valid_1 {n : Int} {t : ByteArray} (h : validV 1 n t = true) : n = 0 ∨ n = 1 := by
  unfold validV at h
  rw [if_neg (by decide), if_pos rfl] at h
  simp at h
  exact h.1
theorem valid_3 {n : Int} {t : ByteArray} (h : validV 3 n t = true) : n = 0 ∧ t.data.toList.length ≤ 4096 := by
  unfold validV at h
  simp at h
  have e : t.data.toList.length = t.size := by simp
  exact ⟨h.1, by omega⟩
theorem enc_le10 (n : Nat) (h : n < 18446744073709551616) : (enc n).length ≤ 10 := by
  rw [enc_length h]
  exact (esz_bd h).2
theorem kind_row (w : World) (o : Obj) (k : Int) (c : UInt8) (hk : k = (c.toNat : Int)) : ((w.alloc o).alloc (.cells #[.int .u8 k] 5)).ownsRow w.heap.size 5 1 (.slice (some ⟨w.heap.size + 1, 0, none⟩) 1 1) [c].length (bcells [c]) := by
  subst hk
  have h := Row.own (Row.at_ (w.alloc o) 5 #[.int .u8 (c.toNat : Int)] (bcells [c]) rfl (w.heap.size + 1) (by simp)) (base := w.heap.size) (by omega) (by simp [bcells, maxLen])
  exact h
set_option maxHeartbeats 2000000 in
theorem lencode_any (k n : Int) (t : ByteArray) (w : World) (hv : validV k n t = true) (h1 : -9223372036854775808 ≤ n) (h2 : n < 9223372036854775808) : Calls Tryd.prog 7 #[.agg #[.int .i64 k, .int .i64 n, .string t]] w (GiveB (encV k n t) w) := by
  rcases valid_kinds hv with rfl | rfl | rfl | rfl
  · rw [encV_0]
    clear hv h1 h2
    go_enter Tryd.func7, Tryd.ntmps7
    go_wp2_with fail
    go_ret
    exact ⟨_, rfl, grow2 _ _, BytesL.of (IsBytes.of_own (kind_row w _ 0 0 rfl))⟩
  · rw [encV_1]
    have hn := valid_1 hv
    have hz : n = ((UInt8.ofNat n.toNat).toNat : Int) := by rcases hn with rfl | rfl <;> rfl
    have hz2 := hidden hz
    have hn0 : 0 ≤ n := by omega
    have hn1 : n ≤ 255 := by omega
    have HO := hidden (kind_row w (.cells #[.int .i64 1, .int .i64 n, .string t] 28) 1 1 rfl)
    have HB := hidden (show Below w.heap.size w ((w.alloc (.cells #[.int .i64 1, .int .i64 n, .string t] 28)).alloc (.cells #[.int .u8 1] 5)) from grow2 _ _)
    clear hv h1 h2 hn hz
    go_enter Tryd.func7, Tryd.ntmps7
    go_wp2_with (at_builtin; refine wpList_append_byte (w := w) (pre := [1]) rfl _ _ 25 rfl 5 Tryd.underlying25 info_u8 _ rfl HO.out HB.out n (UInt8.ofNat n.toNat) hz2.out (by show Value.slice (some ⟨w.heap.size + 1 + 1, 0, none⟩) 1 1 = _; simp) (by simp) ?_; intro v' w2 hown hb; have HOW := hidden hown; have HBW := hidden hb; clear hown hb)
    go_ret
    exact ⟨_, rfl, HBW.out, BytesL.of (IsBytes.of_own HOW.out)⟩
  · rw [encV_2]
    have HZ := hidden (fun w => zigzag_any n w h1 h2)
    have hz := zz_bd n h1 h2
    have HE := hidden (fun w => encode_any (zz n) w hz.1 (by omega))
    have HL := hidden (enc_le10 (zz n).toNat (by omega))
    generalize enc (zz n).toNat = E at *
    generalize zz n = z at *
    have HO := hidden (kind_row w (.cells #[.int .i64 2, .int .i64 n, .string t] 28) 2 2 rfl)
    clear hv h1 h2 hz
    go_enter Tryd.func7, Tryd.ntmps7
    go_wp2_with fail
    refine (HZ.out _).mono ?_
    rintro e w2 ⟨rfl, rfl⟩
    go_wp2_with fail
    refine (HE.out _).mono ?_
    rintro e w3 hm
    obtain ⟨v, rfl, g3, A, c, rfl, hby⟩ := made_give hm
    have HA := hidden ((IsBytes.of_own HO.out).grow g3)
    have HBY := hidden hby
    have HG3 := hidden ((grow2 _ _).of_below g3)
    clear hm hby g3
    go_wp2_with fail
    refine (concat_any _ [[2], E] _ (IsParts.new2 (la := [2]) HA.out HBY.out _) (by simp [maxLen]) (by have := HL.out; simp [total]; omega)).mono ?_
    rintro e w4 hm
    obtain ⟨v, rfl, g4, A4, c4, rfl, hby⟩ := made_give hm
    have HBY4 := hidden hby
    have HG4 := hidden ((HG3.out.of_below (grow1 _)).of_below g4)
    clear hm hby g4
    go_wp2_with fail
    go_ret
    refine ⟨_, rfl, HG4.out, _, _, rfl, ?_⟩
    have h := HBY4.out
    simp only [List.flatten_cons, List.flatten_nil, List.append_nil] at h
    exact h
  · rw [encV_3]
    obtain ⟨hn, hlt⟩ := valid_3 hv
    subst hn
    have HE := hidden (fun w => encode_any ((t.data.toList.length : Nat) : Int) w (by omega) (by omega))
    have HL := hidden (enc_le10 t.data.toList.length (by omega))
    rw [Int.toNat_natCast] at HE
    have hsz : t.data.toList.length = t.size := by simp
    rw [hsz] at HE HL hlt ⊢
    have hw : IntKind.u64.wrap (t.size : Int) = (t.size : Int) := by rw [IntKind.wrap_u64]; omega
    rw [← hw] at HE
    clear hw
    generalize enc t.size = E at *
    have HO := hidden (kind_row w (.cells #[.int .i64 3, .int .i64 0, .string t] 28) 3 3 rfl)
    have HSZ := hidden hsz
    have HLT := hidden hlt
    clear hv h1 h2 hsz
    go_enter Tryd.func7, Tryd.ntmps7
    go_wp2_with fail
    have HC := hidden (fun w' (h : Grows ((w.alloc (.cells #[.int .i64 3, .int .i64 0, .string t] 28)).alloc (.cells #[.int .u8 3] 5)) w') => rowCells (((valRow w (.int .i64 3) (.int .i64 0) (.string t)).grow (grow1 _)).grow h))
    have HA := hidden (IsBytes.of_own HO.out)
    refine wp_region_loose (tabRs [(5, BytesL E), (8, StrB t.data.toList), (9, PartsL [[3], E, t.data.toList]), (10, BytesL (3 :: (E ++ t.data.toList)))]) (by kernel_rfl) (by kernel_rfl) (tabRs_cons BytesL.lasts (tabRs_cons StrB.lasts (tabRs_cons PartsL.lasts (tabRs_cons BytesL.lasts tabRs_nil)))) ?_
    iterate 5 ((with_reducible refine loose_one (v := ?_) (a' := ?_) ?_ ?_ (fun w' hC' hG' => ?_) ?_ ?_); rotate_left 2; (focus rfl); (focus rfl); (focus (obtain ⟨q1, q2, q3⟩ := HC.out w' hC'; clear hC' hG'; go_simp; rfl)); (focus (go_simp; rfl)))
    refine loose_call (f := 21) (args := #[.int .u64 (IntKind.u64.wrap (t.size : Int))]) (by rfl) (by rfl) (fun _ => by go_simp) (fun w' hC' hG' => (HE.out w').mono fun _ _ h => made_give h) ?_
    rintro _ ⟨_, _, A5, c5, rfl, _⟩
    refine ⟨?_, ?_, ?_⟩
    rotate_left
    · go_simp
      rfl
    iterate 2 ((with_reducible refine loose_one (v := ?_) (a' := ?_) ?_ ?_ (fun w' hC' hG' => ?_) ?_ ?_); rotate_left 2; (focus rfl); (focus rfl); (focus (obtain ⟨q1, q2, q3⟩ := HC.out w' hC'; clear hC' hG'; go_simp; rfl)); (focus (go_simp; rfl)))
    refine loose_new (R := StrB t.data.toList) (by rfl) (by rfl) (fun w' hC' _ => ?_) ?_
    · obtain ⟨v, W, h1, h2, h3⟩ := str_bytes (P := Tryd.prog) w' 9 25 5 t Tryd.underlying9 Tryd.underlying25 Tryd.underlying5
      refine ⟨v, W, ?_, h2, h3⟩
      go_simp
    rintro _ ⟨_, _, A8, c8, rfl, _, _⟩
    refine ⟨?_, ?_, ?_⟩
    rotate_left
    · go_simp
      rfl
    refine loose_new (R := PartsL [[3], E, t.data.toList]) (by rfl) (by rfl) (fun w' hC' hG' => ?_) ?_
    · obtain ⟨A5', c5', he5, f5⟩ := (hG' 5 (by kernel_rfl)).1.2 rfl
      obtain ⟨A8', c8', he8, _, f8⟩ := (hG' 8 (by kernel_rfl)).2 rfl
      injection he5 with e1 e2 e3
      injection he8 with e4 e5 e6
      subst e1 e3 e4 e6
      refine ⟨.slice (some ⟨w'.heap.size, 0, none⟩) 3 3, w'.alloc (.cells #[.slice (some ⟨w.heap.size + 1, 0, none⟩) 1 1, .slice A5 E.length c5, .slice A8 t.data.toList.length c8] 25), ?_, (Below.refl _ _).alloc (Nat.le_refl _) _, _, _, rfl, IsParts.three (la := [3]) (HA.out.grow hC') f5 f8 _⟩
      clear hC' hG'
      go_simp
    rintro _ ⟨_, _, A9, c9, rfl, _⟩
    refine ⟨?_, ?_, ?_⟩
    rotate_left
    · go_simp
      rfl
    refine loose_call (f := 20) (args := #[.slice A9 ([[3], E, t.data.toList] : List (List UInt8)).length c9]) (by rfl) (by rfl) (fun _ => by go_simp) (fun w' hC' hG' => ?_) ?_
    · obtain ⟨A9', c9', he9, f9⟩ := (hG' 9 (by kernel_rfl)).2 rfl
      injection he9 with e1 e2 e3
      subst e1 e3
      refine (concat_any _ [[3], E, t.data.toList] w' f9 (by simp [maxLen]) (by have := HL.out; have := HLT.out; have := HSZ.out; simp only [total, List.flatten_cons, List.flatten_nil, List.append_nil, List.length_append, List.length_cons, List.length_nil]; omega)).mono fun _ _ h => ?_
      have h2 := made_give h
      simp only [List.flatten_cons, List.flatten_nil, List.append_nil] at h2
      exact h2
    rintro _ ⟨_, _, A10, c10, rfl, _⟩
    refine ⟨?_, ?_, ?_⟩
    rotate_left
    · go_simp
      rfl
    iterate 1 ((with_reducible refine loose_one (v := ?_) (a' := ?_) ?_ ?_ (fun w' hC' hG' => ?_) ?_ ?_); rotate_left 2; (focus rfl); (focus rfl); (focus (clear hC' hG'; go_simp; rfl)); (focus (go_simp; rfl)))
    refine loose_done (fun w5 hC' hG' => ?_)
    have f10 := ((hG' 10).2 rfl)
    clear hG'
    have HG := hidden ((grow2 _ _).of_below hC')
    have HF := hidden f10
    clear hC' f10
    go_wp2_with fail
    go_ret
    have hlen : (3 :: (E ++ t.data.toList)).length = E.length + t.size + 1 := by simp
    have h := HF.out
    rw [hlen] at h
    exact ⟨_, rfl, HG.out, h⟩
end Go.Proofs.YtepnegbopnepfaaDoor
