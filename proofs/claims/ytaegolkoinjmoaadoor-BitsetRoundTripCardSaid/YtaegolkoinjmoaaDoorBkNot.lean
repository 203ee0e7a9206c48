/-
  bitset.Not returns a new set of what the document says; nothing that was there is changed.
-/
import Derived.Test.YtaegolkoinjmoaaDoorBkOps
namespace Go.Proofs.YtaegolkoinjmoaaDoor
open Go.RowKit

theorem not_pack (n : Nat) (ws : List UInt64) : pack n (fun j => mem n (pack n (fillF (fun _ => false) 0 n)) j && !mem n ws j) = pack n (fun j => !mem n ws j) := pack_congr fun j hj => by
  rw [mem_pack]
  simp [fillF, hj]
set_option maxHeartbeats 1000000 in
theorem not_any (s : Value) (n : Nat) (ws : List UInt64) (w : World) (hs : IsSet w s n ws) (ho : okW n ws) :
    Calls Tryd.prog 36 #[s] w (FreshSet n (pack n (fun j => !mem n ws j)) w) := by
  have HS := hidden hs
  have HO := hidden ho
  obtain ⟨v, rfl, hr, hn, hn2⟩ := hs
  obtain ⟨A, c, rfl, _⟩ := hr.slice_
  generalize (ucells ws).length = la at *
  have HNN := hidden (newN_nat hn2)
  have HL := hidden (pack_length n)
  have HNP := hidden (not_pack n ws)
  have hnl : nw n ≤ 20000 := by unfold nw; omega
  have hB := (Row.new w 26 #[.int .i64 (n : Int), .slice A la c] [.int .i64 (n : Int), .slice A la c] rfl).grow (w' := (w.alloc (.cells #[.int .i64 (n : Int), .slice A la c] 26)).alloc (.cells #[.int .i64 0, .slice none 0 0] 26)) ((Below.refl _ _).alloc (Nat.le_refl _) _)
  have hG : Grows w ((w.alloc (.cells #[.int .i64 (n : Int), .slice A la c] 26)).alloc (.cells #[.int .i64 0, .slice none 0 0] 26)) := ((Below.refl _ _).alloc (Nat.le_refl _) _).alloc (by simp) _
  have HB := hidden hB
  have HG := hidden hG
  have HR := hidden (Row.at_ (w.alloc (.cells #[.int .i64 (n : Int), .slice A la c] 26)) 26 #[.int .i64 0, .slice none 0 0] [.int .i64 0, .slice none 0 0] rfl (w.heap.size + 1) (by simp))
  have b0 := hB.cell 0
  simp only [List.getElem?_cons_zero] at b0
  clear hr hn ho hB hG
  go_enter Tryd.func36, Tryd.ntmps36
  go_wp2_with fail
  refine (new_any (n : Int) _ (by omega) (by omega)).mono ?_
  rintro e w1 ⟨g, hg, rfl, hrow, g1⟩
  rw [HNN.out] at hrow ⊢
  rw [HL.out]
  have hg1 : w.heap.size + 2 ≤ g := by simpa using hg
  have hgl := hrow.lt
  have hgr : Grows w1 (w1.alloc (.cells #[.int .i64 (n : Int), .slice (some ⟨g, 0, none⟩) (nw n) (nw n)] 26)) := (Below.refl _ _).alloc (Nat.le_refl _) _
  have hG2 : Grows w w1 := HG.out.of_below g1
  have HX := hidden (Row.new w1 26 #[.int .i64 (n : Int), .slice (some ⟨g, 0, none⟩) (nw n) (nw n)] [.int .i64 (n : Int), .slice (some ⟨g, 0, none⟩) (nw n) (nw n)] rfl)
  have HROW := hidden (hrow.grow hgr)
  have HB1 := hidden ((HB.out.grow g1).grow hgr)
  have HR1 := hidden ((HR.out.grow g1).grow hgr)
  have HG2 := hidden (hG2.of_below hgr)
  have hsz := hG2.size
  clear hrow g1 hg hG2 hgr b0
  go_wp2_with fail
  refine (fill_any n g 0 n (fun _ => false) _ HROW.out hn2 (Nat.zero_le _) (Nat.le_refl _)).mono ?_
  rintro e w2 ⟨⟨v, rfl⟩, p2, pb⟩
  have HX2 := hidden (HX.out.but_ pb (by omega))
  have HROW2 := hidden p2
  have HB2 := hidden (HB1.out.but_ pb (by omega))
  have HR2 := hidden (HR1.out.but_ pb (by omega))
  have HG3 := hidden (pb.up HG2.out HG2.out.size (by omega))
  clear p2 pb
  have c0 := HX2.out.cell 0
  have c1 := HX2.out.cell 1
  have d0 := HB2.out.cell 0
  have d1 := HB2.out.cell 1
  simp only [List.getElem?_cons_zero, List.getElem?_cons_succ] at c0 c1 d0 d1
  have HSA : Hid (IsSet w2 (.agg #[.int .i64 (n : Int), .slice (some ⟨g, 0, none⟩) (nw n) (nw n)]) n (pack n (fillF (fun _ => false) 0 n))) :=
    hidden ⟨_, rfl, by have h := Reads.of_row HROW2.out (nw n) (nw n) (by rw [ucells_length, pack_length]) (Nat.le_refl _); exact h, by rw [pack_length]; unfold nw; omega, hn2⟩
  go_wp2_with fail
  refine (andnot_any _ _ n n _ ws w2 HSA.out (okW_pack _ _) (HS.out.grow HG3.out) HO.out).mono ?_
  rintro e w3 ⟨g3, hg3, rfl, hrow3, b3⟩
  rw [Nat.max_self] at hrow3 ⊢
  rw [HL.out]
  have hsz2 := HG3.out.size
  have hg4 : w.heap.size + 2 ≤ g3 := by have := HROW2.out.lt; omega
  have HROW3 := hidden hrow3
  have HR3 := hidden (HR2.out.grow b3)
  have HG4 := hidden (Grows.of_below HG3.out b3)
  have HRS := hidden (HR3.out.setRow_ [.int .i64 (n : Int), .slice (some ⟨g3, 0, none⟩) (nw n) (nw n)] rfl)
  clear hrow3 b3 hg3 c0 c1 d0 d1
  go_wp2_with (refine wpList_store_set rfl _ _ rfl (w.heap.size + 1) rfl _ _ _ _ _ rfl HR3.out ?_)
  refine bodyPost_ret (results_set rfl _ _ _ _ _ rfl HRS.out) rfl ⟨g3, by omega, by rw [HL.out], ?_, below_setRow HG4.out (by omega) _⟩
  have h := HROW3.out
  rw [HNP.out] at h
  unfold Row at h ⊢
  rw [setRow_other _ _ _ _ (by omega)]
  exact h
theorem ck_not (s : Value) (n : Nat) (ws : List UInt64) (w : World) (hs : IsSet w s n ws) (ho : okW n ws) :
    Calls Tryd.prog 36 #[s] w (SetR n (fun j => !mem n ws j) w) := by
  have hm : n ≤ 1048576 := by obtain ⟨_, _, _, _, h⟩ := hs; exact h
  exact (not_any s n ws w hs ho).mono fun _ _ h => h.setR hm
end Go.Proofs.YtaegolkoinjmoaaDoor
