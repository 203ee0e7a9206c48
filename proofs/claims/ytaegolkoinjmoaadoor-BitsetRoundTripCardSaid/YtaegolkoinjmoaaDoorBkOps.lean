/-
  bitset.And, Or, AndNot and Not return new sets of what the document says; nothing that was there is changed.
-/
import Derived.Test.YtaegolkoinjmoaaDoorBkComb
namespace Go.Proofs.YtaegolkoinjmoaaDoor
open Go.RowKit

theorem and_op (x y : UInt64) (W : World) : Calls Tryd.prog 56 #[.int .u64 (x.toNat : Int), .int .u64 (y.toNat : Int)] W fun e W' => e = .returned (.int .u64 ((x &&& y).toNat : Int)) ∧ W = W' := by
  have H := hidden (go_and x y)
  generalize x.toNat = a at *
  generalize y.toNat = b at *
  go_enter Tryd.func56, Tryd.ntmps56
  go_wp2
  go_ret
  exact ⟨retU H.out, rfl⟩
set_option maxHeartbeats 400000 in
theorem and_any (s t : Value) (na nb : Nat) (wa wb : List UInt64) (w : World) (hs : IsSet w s na wa) (ha : okW na wa) (ht : IsSet w t nb wb) (hb : okW nb wb) :
    Calls Tryd.prog 30 #[s, t] w (FreshSet (max na nb) (pack (max na nb) fun j => mem na wa j && mem nb wb j) w) := by
  have HS := hidden hs
  have HT := hidden ht
  have HA := hidden ha
  have HB := hidden hb
  obtain ⟨v, rfl, hr, hn, hn2⟩ := hs
  obtain ⟨A, c, rfl, _⟩ := hr.slice_
  obtain ⟨u, rfl, hr', hn', hn2'⟩ := ht
  obtain ⟨B, d, rfl, _⟩ := hr'.slice_
  have hm : max na nb ≤ 1048576 := by omega
  have HL := hidden (pack_length (max na nb))
  generalize (ucells wa).length = la at *
  generalize (ucells wb).length = lb at *
  obtain ⟨F, hF⟩ : ∃ F : Nat → Bool, F = fun j => mem na wa j && mem nb wb j := ⟨_, rfl⟩
  rw [← hF]
  have HF := hidden hF
  generalize hM : max na nb = M at *
  have HM := hidden hM
  have hG : Grows w (((w.alloc (.cells #[.int .i64 (na : Int), .slice A la c] 26)).alloc (.cells #[.int .i64 (nb : Int), .slice B lb d] 26)).alloc (.cells #[.int .i64 0, .slice none 0 0] 26)) :=
    (((Below.refl _ _).alloc (Nat.le_refl _) _).alloc (by simp) _).alloc (by simp; omega) _
  have HG := hidden hG
  have HR := hidden (Row.at_ ((w.alloc (.cells #[.int .i64 (na : Int), .slice A la c] 26)).alloc (.cells #[.int .i64 (nb : Int), .slice B lb d] 26)) 26 #[.int .i64 0, .slice none 0 0] [.int .i64 0, .slice none 0 0] rfl (w.heap.size + 2) (by simp))
  clear hr hr' hn hn' ha hb hF hG hM
  go_enter Tryd.func30, Tryd.ntmps30
  go_wp2_with fail
  refine (combine_any _ _ na nb wa wb 56 (fun x y => x &&& y) (fun x y => x && y) _ (HS.out.grow HG.out) HA.out (HT.out.grow HG.out) HB.out (fun x y j _ => wbit_and x y j) rfl (enters_of Tryd.func56 (by kernel_rfl) rfl) and_op).mono ?_
  rintro e w1 ⟨g, hg, rfl, hrow, g1⟩
  rw [HM.out] at hrow ⊢
  rw [← HF.out] at hrow
  rw [HL.out]
  have hsz : w.heap.size + 3 ≤ g := by simpa using hg
  have HROW := hidden hrow
  have HR1 := hidden (HR.out.grow g1)
  have HG1 := hidden (HG.out.of_below g1)
  have HRS := hidden (HR1.out.setRow_ [.int .i64 (M : Int), .slice (some ⟨g, 0, none⟩) (nw M) (nw M)] rfl)
  clear hrow g1 hg
  go_wp2_with (refine wpList_store_set rfl _ _ rfl (w.heap.size + 2) rfl _ _ _ _ _ rfl HR1.out ?_)
  refine bodyPost_ret (results_set rfl _ _ _ _ _ rfl HRS.out) rfl ⟨g, by omega, by rw [HL.out], ?_, below_setRow HG1.out (by omega) _⟩
  have h := HROW.out
  unfold Row at h ⊢
  rw [setRow_other _ _ _ _ (by omega)]
  exact h
theorem ck_and (s t : Value) (na nb : Nat) (wa wb : List UInt64) (w : World) (hs : IsSet w s na wa) (ha : okW na wa) (ht : IsSet w t nb wb) (hb : okW nb wb) :
    Calls Tryd.prog 30 #[s, t] w (SetR (max na nb) (fun j => mem na wa j && mem nb wb j) w) := by
  have hm : max na nb ≤ 1048576 := by
    obtain ⟨_, _, _, _, h1⟩ := hs
    obtain ⟨_, _, _, _, h2⟩ := ht
    omega
  exact (and_any s t na nb wa wb w hs ha ht hb).mono fun _ _ h => h.setR hm

theorem or_op (x y : UInt64) (W : World) : Calls Tryd.prog 57 #[.int .u64 (x.toNat : Int), .int .u64 (y.toNat : Int)] W fun e W' => e = .returned (.int .u64 ((x ||| y).toNat : Int)) ∧ W = W' := by
  have H := hidden (go_or x y)
  generalize x.toNat = a at *
  generalize y.toNat = b at *
  go_enter Tryd.func57, Tryd.ntmps57
  go_wp2
  go_ret
  exact ⟨retU H.out, rfl⟩
set_option maxHeartbeats 400000 in
theorem or_any (s t : Value) (na nb : Nat) (wa wb : List UInt64) (w : World) (hs : IsSet w s na wa) (ha : okW na wa) (ht : IsSet w t nb wb) (hb : okW nb wb) :
    Calls Tryd.prog 32 #[s, t] w (FreshSet (max na nb) (pack (max na nb) fun j => mem na wa j || mem nb wb j) w) := by
  have HS := hidden hs
  have HT := hidden ht
  have HA := hidden ha
  have HB := hidden hb
  obtain ⟨v, rfl, hr, hn, hn2⟩ := hs
  obtain ⟨A, c, rfl, _⟩ := hr.slice_
  obtain ⟨u, rfl, hr', hn', hn2'⟩ := ht
  obtain ⟨B, d, rfl, _⟩ := hr'.slice_
  have hm : max na nb ≤ 1048576 := by omega
  have HL := hidden (pack_length (max na nb))
  generalize (ucells wa).length = la at *
  generalize (ucells wb).length = lb at *
  obtain ⟨F, hF⟩ : ∃ F : Nat → Bool, F = fun j => mem na wa j || mem nb wb j := ⟨_, rfl⟩
  rw [← hF]
  have HF := hidden hF
  generalize hM : max na nb = M at *
  have HM := hidden hM
  have hG : Grows w (((w.alloc (.cells #[.int .i64 (na : Int), .slice A la c] 26)).alloc (.cells #[.int .i64 (nb : Int), .slice B lb d] 26)).alloc (.cells #[.int .i64 0, .slice none 0 0] 26)) :=
    (((Below.refl _ _).alloc (Nat.le_refl _) _).alloc (by simp) _).alloc (by simp; omega) _
  have HG := hidden hG
  have HR := hidden (Row.at_ ((w.alloc (.cells #[.int .i64 (na : Int), .slice A la c] 26)).alloc (.cells #[.int .i64 (nb : Int), .slice B lb d] 26)) 26 #[.int .i64 0, .slice none 0 0] [.int .i64 0, .slice none 0 0] rfl (w.heap.size + 2) (by simp))
  clear hr hr' hn hn' ha hb hF hG hM
  go_enter Tryd.func32, Tryd.ntmps32
  go_wp2_with fail
  refine (combine_any _ _ na nb wa wb 57 (fun x y => x ||| y) (fun x y => x || y) _ (HS.out.grow HG.out) HA.out (HT.out.grow HG.out) HB.out (fun x y j _ => wbit_or x y j) rfl (enters_of Tryd.func57 (by kernel_rfl) rfl) or_op).mono ?_
  rintro e w1 ⟨g, hg, rfl, hrow, g1⟩
  rw [HM.out] at hrow ⊢
  rw [← HF.out] at hrow
  rw [HL.out]
  have hsz : w.heap.size + 3 ≤ g := by simpa using hg
  have HROW := hidden hrow
  have HR1 := hidden (HR.out.grow g1)
  have HG1 := hidden (HG.out.of_below g1)
  have HRS := hidden (HR1.out.setRow_ [.int .i64 (M : Int), .slice (some ⟨g, 0, none⟩) (nw M) (nw M)] rfl)
  clear hrow g1 hg
  go_wp2_with (refine wpList_store_set rfl _ _ rfl (w.heap.size + 2) rfl _ _ _ _ _ rfl HR1.out ?_)
  refine bodyPost_ret (results_set rfl _ _ _ _ _ rfl HRS.out) rfl ⟨g, by omega, by rw [HL.out], ?_, below_setRow HG1.out (by omega) _⟩
  have h := HROW.out
  unfold Row at h ⊢
  rw [setRow_other _ _ _ _ (by omega)]
  exact h
theorem ck_or (s t : Value) (na nb : Nat) (wa wb : List UInt64) (w : World) (hs : IsSet w s na wa) (ha : okW na wa) (ht : IsSet w t nb wb) (hb : okW nb wb) :
    Calls Tryd.prog 32 #[s, t] w (SetR (max na nb) (fun j => mem na wa j || mem nb wb j) w) := by
  have hm : max na nb ≤ 1048576 := by
    obtain ⟨_, _, _, _, h1⟩ := hs
    obtain ⟨_, _, _, _, h2⟩ := ht
    omega
  exact (or_any s t na nb wa wb w hs ha ht hb).mono fun _ _ h => h.setR hm

theorem andnot_op (x y : UInt64) (W : World) : Calls Tryd.prog 58 #[.int .u64 (x.toNat : Int), .int .u64 (y.toNat : Int)] W fun e W' => e = .returned (.int .u64 ((x &&& ~~~y).toNat : Int)) ∧ W = W' := by
  have H := hidden (go_andNot x y)
  generalize x.toNat = a at *
  generalize y.toNat = b at *
  go_enter Tryd.func58, Tryd.ntmps58
  go_wp2
  go_ret
  exact ⟨retU H.out, rfl⟩
set_option maxHeartbeats 400000 in
theorem andnot_any (s t : Value) (na nb : Nat) (wa wb : List UInt64) (w : World) (hs : IsSet w s na wa) (ha : okW na wa) (ht : IsSet w t nb wb) (hb : okW nb wb) :
    Calls Tryd.prog 34 #[s, t] w (FreshSet (max na nb) (pack (max na nb) fun j => mem na wa j && !mem nb wb j) w) := by
  have HS := hidden hs
  have HT := hidden ht
  have HA := hidden ha
  have HB := hidden hb
  obtain ⟨v, rfl, hr, hn, hn2⟩ := hs
  obtain ⟨A, c, rfl, _⟩ := hr.slice_
  obtain ⟨u, rfl, hr', hn', hn2'⟩ := ht
  obtain ⟨B, d, rfl, _⟩ := hr'.slice_
  have hm : max na nb ≤ 1048576 := by omega
  have HL := hidden (pack_length (max na nb))
  generalize (ucells wa).length = la at *
  generalize (ucells wb).length = lb at *
  obtain ⟨F, hF⟩ : ∃ F : Nat → Bool, F = fun j => mem na wa j && !mem nb wb j := ⟨_, rfl⟩
  rw [← hF]
  have HF := hidden hF
  generalize hM : max na nb = M at *
  have HM := hidden hM
  have hG : Grows w (((w.alloc (.cells #[.int .i64 (na : Int), .slice A la c] 26)).alloc (.cells #[.int .i64 (nb : Int), .slice B lb d] 26)).alloc (.cells #[.int .i64 0, .slice none 0 0] 26)) :=
    (((Below.refl _ _).alloc (Nat.le_refl _) _).alloc (by simp) _).alloc (by simp; omega) _
  have HG := hidden hG
  have HR := hidden (Row.at_ ((w.alloc (.cells #[.int .i64 (na : Int), .slice A la c] 26)).alloc (.cells #[.int .i64 (nb : Int), .slice B lb d] 26)) 26 #[.int .i64 0, .slice none 0 0] [.int .i64 0, .slice none 0 0] rfl (w.heap.size + 2) (by simp))
  clear hr hr' hn hn' ha hb hF hG hM
  go_enter Tryd.func34, Tryd.ntmps34
  go_wp2_with fail
  refine (combine_any _ _ na nb wa wb 58 (fun x y => x &&& ~~~y) (fun x y => x && !y) _ (HS.out.grow HG.out) HA.out (HT.out.grow HG.out) HB.out (fun x y j _ => wbit_andNot x y j) rfl (enters_of Tryd.func58 (by kernel_rfl) rfl) andnot_op).mono ?_
  rintro e w1 ⟨g, hg, rfl, hrow, g1⟩
  rw [HM.out] at hrow ⊢
  rw [← HF.out] at hrow
  rw [HL.out]
  have hsz : w.heap.size + 3 ≤ g := by simpa using hg
  have HROW := hidden hrow
  have HR1 := hidden (HR.out.grow g1)
  have HG1 := hidden (HG.out.of_below g1)
  have HRS := hidden (HR1.out.setRow_ [.int .i64 (M : Int), .slice (some ⟨g, 0, none⟩) (nw M) (nw M)] rfl)
  clear hrow g1 hg
  go_wp2_with (refine wpList_store_set rfl _ _ rfl (w.heap.size + 2) rfl _ _ _ _ _ rfl HR1.out ?_)
  refine bodyPost_ret (results_set rfl _ _ _ _ _ rfl HRS.out) rfl ⟨g, by omega, by rw [HL.out], ?_, below_setRow HG1.out (by omega) _⟩
  have h := HROW.out
  unfold Row at h ⊢
  rw [setRow_other _ _ _ _ (by omega)]
  exact h
theorem ck_andnot (s t : Value) (na nb : Nat) (wa wb : List UInt64) (w : World) (hs : IsSet w s na wa) (ha : okW na wa) (ht : IsSet w t nb wb) (hb : okW nb wb) :
    Calls Tryd.prog 34 #[s, t] w (SetR (max na nb) (fun j => mem na wa j && !mem nb wb j) w) := by
  have hm : max na nb ≤ 1048576 := by
    obtain ⟨_, _, _, _, h1⟩ := hs
    obtain ⟨_, _, _, _, h2⟩ := ht
    omega
  exact (andnot_any s t na nb wa wb w hs ha ht hb).mono fun _ _ h => h.setR hm
end Go.Proofs.YtaegolkoinjmoaaDoor
