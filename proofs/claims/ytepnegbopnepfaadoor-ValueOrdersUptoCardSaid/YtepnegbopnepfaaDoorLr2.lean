/-
  The reference of package value: Text, Encode of a valid value. Nothing that was there is changed.
-/
import Derived.Test.YtepnegbopnepfaaDoorLr1
import Derived.Test.YtepnegbopnepfaaDoorCat
namespace Go.Proofs.YtepnegbopnepfaaDoor
open Go.RowKit
set_option linter.unusedVariables false
set_option linter.unusedSimpArgs false

set_option maxHeartbeats 2000000 in
theorem rtext_any (t : ByteArray) (w : World) (ht : t.data.toList.length ≤ 4096) : Calls Tryd.prog 26 #[.string t] w (GiveB (enc t.data.toList.length ++ t.data.toList) w) := by
  have HE := hidden (fun w => rencode_any ((t.data.toList.length : Nat) : Int) w (by omega) (by omega))
  have HL := hidden (enc_le10 t.data.toList.length (by omega))
  rw [Int.toNat_natCast] at HE
  have hsz : t.data.toList.length = t.size := by simp
  rw [hsz] at HE HL ht ⊢
  have hw : IntKind.u64.wrap (t.size : Int) = (t.size : Int) := by rw [IntKind.wrap_u64]; omega
  rw [← hw] at HE
  clear hw
  generalize enc t.size = E at *
  have HSZ := hidden hsz
  have HLT := hidden ht
  clear hsz ht
  go_enter Tryd.func26, Tryd.ntmps26
  go_wp2_with fail
  refine (HE.out _).mono ?_
  rintro e w3 hm
  obtain ⟨v, rfl, g3, A, c, rfl, hby⟩ := made_give hm
  have HBY := hidden hby
  have HG3 := hidden g3
  clear hm hby g3
  go_wp2_with (refine wpList_bytes rfl _ 9 25 5 rfl Tryd.underlying9 Tryd.underlying25 Tryd.underlying5 t rfl ?_; rintro v5 W5 ⟨A5, c5, rfl, _, h5⟩ g5; have H5 := hidden h5; have HBY5 := hidden (HBY.out.grow g5); have HG5 := hidden (HG3.out.of_below g5); clear h5 g5)
  refine (rconcat_any _ [E, t.data.toList] _ (IsParts.new2 HBY5.out H5.out _) (by simp [maxLen]) (by have := HL.out; have := HLT.out; have := HSZ.out; simp only [total, List.flatten_cons, List.flatten_nil, List.append_nil, List.length_append]; omega)).mono ?_
  rintro e w6 hm
  obtain ⟨v, rfl, g6, A6, c6, rfl, hby⟩ := made_give hm
  have HBY6 := hidden hby
  have HG6 := hidden ((HG5.out.of_below (grow1 _)).of_below g6)
  clear hm hby g6
  go_wp2_with fail
  go_ret
  have h := HBY6.out
  simp only [List.flatten_cons, List.flatten_nil, List.append_nil] at h
  refine ⟨_, rfl, HG6.out, A6, c6, ?_, h⟩
  simp
set_option maxHeartbeats 2000000 in
theorem rencodev_any (k n : Int) (t : ByteArray) (w : World) (hv : validV k n t = true) (h1 : -9223372036854775808 ≤ n) (h2 : n < 9223372036854775808) : Calls Tryd.prog 8 #[.agg #[.int .i64 k, .int .i64 n, .string t]] w (GiveB (encV k n t) w) := by
  rcases valid_kinds hv with rfl | rfl | rfl | rfl
  · rw [encV_0]
    clear hv h1 h2
    go_enter Tryd.func8, Tryd.ntmps8
    go_wp2_with fail
    go_ret
    exact ⟨_, rfl, grow2 _ _, BytesL.of (IsBytes.of_own (kind_row w _ 0 0 rfl))⟩
  · rw [encV_1]
    have hn := valid_1 hv
    have HR := hidden (Row.at_ (w.alloc (.cells #[.int .i64 1, .int .i64 n, .string t] 28)) 5 #[.int .u8 1, .int .u8 n] (bcells [1, UInt8.ofNat n.toNat]) (by rcases hn with rfl | rfl <;> rfl) (w.heap.size + 1) (by simp))
    have hn0 : 0 ≤ n := by omega
    have hn1 : n ≤ 255 := by omega
    clear hv h1 h2 hn
    go_enter Tryd.func8, Tryd.ntmps8
    go_wp2_with fail
    go_ret
    exact ⟨_, rfl, grow2 _ _, BytesL.of (IsBytes.of_row HR.out 2 2 rfl)⟩
  · rw [encV_2]
    have HZ := hidden (fun w => rzigzag_any n w h1 h2)
    have hz := zz_bd n h1 h2
    have HE := hidden (fun w => rencode_any (zz n) w hz.1 (by omega))
    have HL := hidden (enc_le10 (zz n).toNat (by omega))
    generalize enc (zz n).toNat = E at *
    generalize zz n = z at *
    have HO := hidden (kind_row w (.cells #[.int .i64 2, .int .i64 n, .string t] 28) 2 2 rfl)
    clear hv h1 h2 hz
    go_enter Tryd.func8, Tryd.ntmps8
    go_wp2_with fail
    refine (HZ.out _).mono ?_
    rintro e w2 ⟨rfl, rfl⟩
    go_wp2_with fail
    refine (HE.out _).mono ?_
    rintro e w3 hm
    obtain ⟨v, rfl, g3, A, c, rfl, hby⟩ := made_give hm
    have HA := hidden ((IsBytes.of_own HO.out).grow g3)
    have HBY := hidden hby
    have HG3 := hidden ((grow2 _ _).of_below g3)
    clear hm hby g3
    go_wp2_with fail
    refine (rconcat_any _ [[2], E] _ (IsParts.new2 (la := [2]) HA.out HBY.out _) (by simp [maxLen]) (by have := HL.out; simp [total]; omega)).mono ?_
    rintro e w4 hm
    obtain ⟨v, rfl, g4, A4, c4, rfl, hby⟩ := made_give hm
    have HBY4 := hidden hby
    have HG4 := hidden ((HG3.out.of_below (grow1 _)).of_below g4)
    clear hm hby g4
    go_wp2_with fail
    go_ret
    refine ⟨_, rfl, HG4.out, _, _, rfl, ?_⟩
    have h := HBY4.out
    simp only [List.flatten_cons, List.flatten_nil, List.append_nil] at h
    exact h
  · rw [encV_3]
    obtain ⟨hn, hlt⟩ := valid_3 hv
    subst hn
    have HT := hidden (fun w => rtext_any t w hlt)
    have HLL := hidden (show (enc t.data.toList.length ++ t.data.toList).length ≤ 4106 by have := enc_le10 t.data.toList.length (by omega); rw [List.length_append]; omega)
    generalize enc t.data.toList.length ++ t.data.toList = E at *
    have HO := hidden (kind_row w (.cells #[.int .i64 3, .int .i64 0, .string t] 28) 3 3 rfl)
    clear hv h1 h2 hlt
    go_enter Tryd.func8, Tryd.ntmps8
    go_wp2_with fail
    refine (HT.out _).mono ?_
    rintro e w3 ⟨v, rfl, g3, A, c, rfl, hby⟩
    have HA := hidden ((IsBytes.of_own HO.out).grow g3)
    have HBY := hidden hby
    have HG3 := hidden ((grow2 _ _).of_below g3)
    clear hby g3
    go_wp2_with fail
    refine (rconcat_any _ [[3], E] _ (IsParts.new2 (la := [3]) HA.out HBY.out _) (by simp [maxLen]) (by have := HLL.out; simp [total]; omega)).mono ?_
    rintro e w4 hm
    obtain ⟨v, rfl, g4, A4, c4, rfl, hby⟩ := made_give hm
    have HBY4 := hidden hby
    have HG4 := hidden ((HG3.out.of_below (grow1 _)).of_below g4)
    clear hm hby g4
    go_wp2_with fail
    go_ret
    refine ⟨_, rfl, HG4.out, _, _, rfl, ?_⟩
    have h := HBY4.out
    simp only [List.flatten_cons, List.flatten_nil, List.append_nil] at h
    exact h
end Go.Proofs.YtepnegbopnepfaaDoor
