/-
  bitset.Decode returns what the document says, in new memory; nothing that was there is changed.
-/
import Derived.Test.YtaegolkoinjmoaaDoorBkDec
namespace Go.Proofs.YtaegolkoinjmoaaDoor
open Go.RowKit

set_option maxHeartbeats 2000000 in
theorem ck_decode (v : Value) (l : List UInt8) (off : Int) (w : World) (hv : IsBytes w v l) (hl : l.length ≤ 1048576) (h63 : -9223372036854775808 ≤ off) (h64 : off ≤ 9223372036854775807) :
    Calls Tryd.prog 40 #[v, .int .i64 off] w (RDec l off w) := by
  have HV := hidden hv
  have hG : Grows w (w.alloc (.cells #[.int .i64 0, .slice none 0 0] 26)) := (Below.refl _ _).alloc (Nat.le_refl _) _
  have HR0 := hidden (Row.new w 26 #[.int .i64 0, .slice none 0 0] [.int .i64 0, .slice none 0 0] rfl)
  have HRS := hidden ((Row.new w 26 #[.int .i64 0, .slice none 0 0] [.int .i64 0, .slice none 0 0] rfl).setRow_ [.int .i64 0, .slice none 0 0] rfl)
  have HSZ := hidden (World.size_alloc w (.cells #[.int .i64 0, .slice none 0 0] 26))
  have HG := hidden hG
  have HML : Hid (l.length ≤ maxLen) := by show _ ≤ _; unfold maxLen; omega
  have HE1 := hidden (fun (w' : World) h hb => RDec.err (w := w) (w' := w') (decS_err1 (l := l) (off := off) h) hb)
  have HE2 := hidden (fun (w' : World) h h2 hb => RDec.err (w := w) (w' := w') (decS_err2 (l := l) (off := off) h h2) hb)
  have HE3 := hidden (fun (w' : World) c o p h h2 h3 hc hb => RDec.err (w := w) (w' := w') (decS_err3 (l := l) (off := off) (c := c) (o := o) (p := p) h h2 h3 hc) hb)
  have HFI := hidden (fun o p h h2 h3 => decS_fine (l := l) (off := off) (o := o) (p := p) h h2 h3)
  have HBD := hidden (fun h => dcd_bd (l := l) (p := off) h)
  obtain ⟨A, c, rfl, _⟩ := hv
  clear hG
  go_enter Tryd.func40, Tryd.ntmps40
  go_wp2_with fail
  generalize w.alloc (.cells #[.int .i64 0, .slice none 0 0] 26) = W0 at *
  refine (decode_any _ l off W0 (HV.out.grow HG.out) HML.out h63 h64).mono ?_
  rintro e w' ⟨rfl, rfl⟩
  by_cases he : (dcd l off).2.2 = 0
  · rw [he]
    obtain ⟨hb1, hb2, hb3⟩ := HBD.out he
    by_cases hbig : 1048576 < (dcd l off).1
    · have HF := hidden (fun w' hb => HE2.out w' he hbig hb)
      go_wp2_with (refine wpList_store_set rfl _ _ rfl w.heap.size rfl _ _ _ _ _ rfl HR0.out ?_)
      exact bodyPost_ret (results_set3 rfl _ _ _ _ _ (.int .i64 0) (.int .i64 6) rfl HRS.out rfl rfl) rfl (HF.out _ (below_setRow HG.out (Nat.le_refl _) _))
    · obtain ⟨n, hnn⟩ := Int.eq_ofNat_of_zero_le hb1
      have hn2 : n ≤ 1048576 := by omega
      have hnl : nw n ≤ 20000 := by unfold nw; omega
      have HNN := hidden (newN_nat hn2)
      have HL := hidden (pack_length n)
      have HF3 := hidden (fun (w' : World) c o p h3 hc => HE3.out w' c o p he (by omega) h3 hc)
      have HFI2 := hidden (fun o p h3 => HFI.out o p he (by omega) h3)
      rw [hnn, Int.toNat_natCast] at HF3 HFI2
      rw [hnn]
      have hsm : decide ((1048576 : Int) < (n : Int)) = false := by simp; omega
      generalize (dcd l off).2.1 = p0 at *
      clear HE1 HE2 HE3 HFI HBD HRS he hbig hnn hb1
      go_wp2_with fail
      refine (new_any (n : Int) _ (by omega) (by omega)).mono ?_
      rintro e w1 ⟨g, hg, rfl, hrow, g1⟩
      rw [HNN.out] at hrow ⊢
      rw [HL.out]
      have hsz0 : W0.heap.size = w.heap.size + 1 := HSZ.out
      have hgr : Grows w1 (w1.alloc (.cells #[.int .i64 (n : Int), .slice (some ⟨g, 0, none⟩) (nw n) (nw n)] 26)) := (Below.refl _ _).alloc (Nat.le_refl _) _
      have hgl := hrow.lt
      have HX := hidden (Row.new w1 26 #[.int .i64 (n : Int), .slice (some ⟨g, 0, none⟩) (nw n) (nw n)] [.int .i64 (n : Int), .slice (some ⟨g, 0, none⟩) (nw n) (nw n)] rfl)
      have HROW := hidden (hrow.grow hgr)
      have HR1 := hidden ((HR0.out.grow g1).grow hgr)
      have HG1 := hidden (Grows.of_below (Grows.of_below HG.out g1) hgr)
      clear hrow g1 hgr
      go_wp2_with fail
      refine (decodeRuns_any n g (.slice A l.length c) l p0 w _ HV.out HG1.out (by omega) hl hb2 hb3 hn2 HROW.out).mono ?_
      rintro e w2 ⟨ws, rfl, hr2, hwl, hws, hb2'⟩
      obtain ⟨o, q, ec, hdr⟩ : ∃ o q ec, decR l n (n + 2) [] false true p0 = (o, q, ec) := ⟨_, _, _, rfl⟩
      rw [hdr] at hws ⊢
      have HDR := hidden hdr
      have HX2 := hidden (HX.out.but_ hb2' (by omega))
      have HRW2 := hidden hr2
      have HR2 := hidden (HR1.out.but_ hb2' (by omega))
      have HG2 := hidden (hb2'.up HG1.out HG1.out.size (by omega))
      have HWS := hidden hws
      have HWL := hidden hwl
      have x0 := HX2.out.cell 0
      have x1 := HX2.out.cell 1
      simp only [List.getElem?_cons_zero, List.getElem?_cons_succ] at x0 x1
      clear hr2 hb2' hws hwl hdr
      by_cases hec : ec = 0
      · subst hec
        have HFIN := hidden (HFI2.out o q HDR.out)
        have HRS2 := hidden (HR2.out.setRow_ [.int .i64 (n : Int), .slice (some ⟨g, 0, none⟩) (nw n) (nw n)] rfl)
        go_wp2_with (refine wpList_store_set rfl _ _ rfl w.heap.size rfl _ _ _ _ _ rfl HR2.out ?_)
        refine bodyPost_ret (results_set3 rfl _ _ _ _ _ (.int .i64 q) (.int .i64 0) rfl HRS2.out rfl rfl) rfl ?_
        unfold RDec
        rw [HFIN.out]
        refine ⟨_, rfl, ⟨_, rfl, ?_, by rw [pack_length]; unfold nw; omega, hn2⟩, below_setRow HG2.out (Nat.le_refl _) _⟩
        have h := HRW2.out
        rw [HWS.out (by simp)] at h
        have h2 : Row (w2.setRow w.heap.size [.int .i64 (n : Int), .slice (some ⟨g, 0, none⟩) (nw n) (nw n)].toArray) g 54 (ucells (pack n (bitAt o))) := by
          unfold Row at h ⊢
          rw [setRow_other _ _ _ _ (by omega)]
          exact h
        exact Reads.of_row h2 (nw n) (nw n) (by rw [ucells_length, pack_length]) (Nat.le_refl _)
      · have HF := hidden (fun w' hb => HF3.out w' ec o q HDR.out hec hb)
        have hd : (ec != 0) = true := by simpa using hec
        have HRS2 := hidden (HR2.out.setRow_ [.int .i64 0, .slice none 0 0] rfl)
        clear hec
        go_wp2_with (refine wpList_store_set rfl _ _ rfl w.heap.size rfl _ _ _ _ _ rfl HR2.out ?_)
        exact bodyPost_ret (results_set3 rfl _ _ _ _ _ (.int .i64 0) (.int .i64 ec) rfl HRS2.out rfl rfl) rfl (HF.out _ (below_setRow HG2.out (Nat.le_refl _) _))
  · have HF := hidden (fun w' hb => HE1.out w' he hb)
    have hd : ((dcd l off).2.2 != 0) = true := by simpa using he
    generalize (dcd l off).2.2 = ec at *
    clear HE1 HE2 HE3 HFI HBD he
    go_wp2_with (refine wpList_store_set rfl _ _ rfl w.heap.size rfl _ _ _ _ _ rfl HR0.out ?_)
    exact bodyPost_ret (results_set3 rfl _ _ _ _ _ (.int .i64 0) (.int .i64 ec) rfl HRS.out rfl rfl) rfl (HF.out _ (below_setRow HG.out (Nat.le_refl _) _))
end Go.Proofs.YtaegolkoinjmoaaDoor
