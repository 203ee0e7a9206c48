/-
  Package rle as it landed: Encode. Nothing that was there is changed.
-/
import Derived.Test.YtgmjoghgmcjebaaM12
import Derived.Test.YtgmjoghgmcjebaaRl7
import Derived.Test.YtgmjoghgmcjebaaM5
namespace Go.Proofs.Ytgmjoghgmcjebaa
open Go.RowKit
set_option linter.unusedVariables false
set_option linter.unusedSimpArgs false

theorem KeepsRows.row {e : TypeId} {w w' : World} (h : KeepsRows e w w') {g : Nat} {E : TypeId} {ys : List Value} (hne : E ≠ e) (hl : ys.length ≤ maxLen) (hr : Row w g E ys) : Row w' g E ys := by
  have h1 := h 0 E 1 _ _ _ hne (hr.own (base := 0) (Nat.zero_le _) hl)
  rcases h1.2 with ⟨h2, _⟩ | ⟨g', cap, cur, he, _, h3, _, _, h4, h5⟩
  · cases h2
  · injection he with e1 e2 e3
    injection e1 with e1
    injection e1 with e1 _ _
    subst e1
    subst e3
    unfold Row
    rw [h3]
    have : cur = ys.toArray := by
      apply Array.ext'
      rw [← h5, List.take_of_length_le]
      rw [Array.length_toList, h4]
      omega
    rw [this]
theorem encRs_snoc : ∀ (l : List Rn) (last : Int) (x : Rn), encRs last (l ++ [x]) = encRs last l ++ enc (zd x.1 (lastV last l)) ++ enc x.2.toNat
  | [], _, _ => by simp [encRs, lastV]
  | y :: l, last, x => by rw [List.cons_append, encRs, encRs, encRs_snoc l y.1 x, lastV]; simp
theorem encR_take_len (n : Nat) (l : List Rn) : (enc n ++ encRs 0 l).length ≤ 10 + 20 * l.length + 10 := by
  have h1 := encR_len_le l
  unfold encR at h1
  rw [List.length_append] at h1 ⊢
  have e10 : (enc n).length ≤ 10 := by
    have h : ∀ f n, (encF f n).length ≤ f := by
      intro f
      induction f with
      | zero => intro n; simp [encF]
      | succ f ih =>
        intro n
        by_cases hn : n < 128
        · rw [encF_last hn]; simp
        · rw [encF_more hn, List.length_cons]; have := ih (n / 128); omega
    exact h 10 n
  omega
theorem enc_le10 (n : Nat) : (enc n).length ≤ 10 := by
  have h : ∀ f n, (encF f n).length ≤ f := by
    intro f
    induction f with
    | zero => intro n; simp [encF]
    | succ f ih =>
      intro n
      by_cases hn : n < 128
      · rw [encF_last hn]; simp
      · rw [encF_more hn, List.length_cons]; have := ih (n / 128); omega
  exact h 10 n
def LEnRel (w : World) (l : List Rn) (out last i : Value) (wr : World) : Prop :=
  ∃ k : Nat, k ≤ l.length ∧ i = .int .i64 (k : Int) ∧ last = .int .i64 (lastV 0 (l.take k)) ∧ wr.ownsRow w.heap.size 5 1 out (enc l.length ++ encRs 0 (l.take k)).length (bcells (enc l.length ++ encRs 0 (l.take k))) ∧ Below w.heap.size w wr
set_option maxRecDepth 8000 in
set_option maxHeartbeats 4000000 in
theorem lencode_any (v : Value) (l : List Rn) (w : World) (hv : ReadsR w v l) (hin : ∀ x ∈ l, in64 x.1) (hn : ∀ x ∈ l, 0 ≤ x.2 ∧ x.2 ≤ 9223372036854775807) (hl : l.length ≤ 1000000) :
    Calls Try.prog 61 #[v] w (Made (encR l) w) := by
  have HV := hidden hv
  have HIN := hidden hin
  have HNN := hidden hn
  obtain ⟨A, c, rfl⟩ := hv.slice_
  have HE0 := hidden (encode_any (l.length : Int) w (by omega) (by omega))
  rw [Int.toNat_natCast] at HE0
  clear hv hin hn
  go_enter Try.func61, Try.ntmps61
  go_wp2_with fail
  refine HE0.out.mono ?_
  rintro e w1 ⟨v1, rfl, hown1, hb1⟩
  have HO1 := hidden hown1
  have HB1 := hidden hb1
  obtain ⟨A1, d1, rfl, _⟩ := IsBytes.of_own hown1
  clear hown1 hb1 HE0
  go_wp2_with fail
  go_loopw [3, 4, 13] (fun out last i wr => LEnRel w l out last i wr) (fun _ _ i _ => l.length - (intOf i).toNat)
  case atStart => exact ⟨0, by omega, rfl, rfl, by simpa [encRs] using HO1.out, HB1.out⟩
  case round =>
    obtain ⟨k, hk, rfl, rfl, hown, hb⟩ := hrel
    have HB := hidden hb
    have HOW := hidden hown
    obtain ⟨A3, d3, rfl, _⟩ := IsBytes.of_own hown
    clear hown hb
    by_cases hlt : k < l.length
    · obtain ⟨b, off, hA, hc⟩ := (HV.out.grow HB.out).at_
      obtain rfl := hA (by omega)
      obtain ⟨c1, c2⟩ := hc k hlt
      have HTK := hidden (show enc l.length ++ encRs 0 (l.take (k + 1)) = enc l.length ++ encRs 0 (l.take k) ++ enc (zd l[k].1 (lastV 0 (l.take k))) ++ enc l[k].2.toNat by
        rw [List.take_succ_eq_append_getElem hlt, encRs_snoc]
        simp)
      have HLV := hidden (show lastV 0 (l.take (k + 1)) = l[k].1 by rw [List.take_succ_eq_append_getElem hlt, lastV_snoc])
      have hla := lastV_in (l.take k) 0 (by unfold in64; omega) (fun x hx => HIN.out x (List.mem_of_mem_take hx))
      have hx1 := HIN.out _ (List.getElem_mem hlt)
      have hx2 := HNN.out _ (List.getElem_mem hlt)
      have HPL := hidden (show (enc l.length ++ encRs 0 (l.take k)).length ≤ 100000000 by have := encR_take_len l.length (l.take k); rw [List.length_take] at this; omega)
      obtain ⟨x1, e1⟩ : ∃ x, x = l[k].1 := ⟨_, rfl⟩
      obtain ⟨x2, e2⟩ : ∃ x, x = l[k].2 := ⟨_, rfl⟩
      rw [← e1] at c1 hx1 HTK HLV
      rw [← e2] at c2 hx2 HTK
      generalize lastV 0 (l.take k) = la at *
      generalize enc l.length ++ encRs 0 (l.take k) = ps at *
      have hdf := difR_in x1 la
      have HZZ := hidden (fun W => zigzag_any (difR x1 la) W hdf.1 (by have := hdf.2; omega))
      obtain ⟨hz1, hz2⟩ := zd_bd x1 la
      rw [hz1] at HZZ
      have hsz := HB.out.size
      have HBA := hidden (show Below w.heap.size w (wr.alloc (.cells #[.int .i64 x1, .int .i64 x2] 87)) from HB.out.alloc hsz _)
      have HRA := hidden (runRow wr (.int .i64 x1) (.int .i64 x2))
      have HOA := hidden (HOW.out.alloc (.cells #[.int .i64 x1, .int .i64 x2] 87))
      have HE1 := hidden (encode_any ((zd x1 la : Nat) : Int) (wr.alloc (.cells #[.int .i64 x1, .int .i64 x2] 87)) (by omega) (by omega))
      rw [Int.toNat_natCast] at HE1
      generalize zd x1 la = z at *
      clear hA hc e1 e2 hz1 hdf
      go_wp2_with ((go_at_call 81; refine (HZZ.out _).mono ?_; rintro e w3 ⟨rfl, rfl⟩))
      refine HE1.out.mono ?_
      rintro e w2 ⟨v2, rfl, hown2, hb2⟩
      have HU2 := hidden (IsBytes.of_own hown2)
      have HB2 := hidden (HBA.out.trans (hb2.mono HBA.out.size))
      have HO2 := hidden (own_grow HOA.out hb2)
      have HR2 := hidden (HRA.out.grow hb2)
      clear hown2 hb2 c1 c2
      go_wp2_with ((at_builtin; go_loud (refine wpList_append_bytes_k (w := w) rfl _ _ 40 rfl 5 Try.underlying40 info_u8 _ ps (by rfl) HO2.out HB2.out _ (enc z) (by rfl) HU2.out (by have := HPL.out; have := enc_le10 z; omega) ?_); intro v3 w3 hown3 hb3 hk3; have HO3 := hidden hown3; have HB3 := hidden hb3; have HR3 := hidden (hk3.row (by decide) (by unfold maxLen; simp) HR2.out); obtain ⟨q1, q2⟩ := runCells HR3.out; clear hown3 hb3 hk3))
      have HE4 := hidden (encode_any x2 w3 hx2.1 (by omega))
      refine HE4.out.mono ?_
      rintro e w4 ⟨v4, rfl, hown4, hb4⟩
      have HU4 := hidden (IsBytes.of_own hown4)
      have HB4 := hidden (HB3.out.trans (hb4.mono HB3.out.size))
      have HO4 := hidden (own_grow HO3.out hb4)
      have HR4 := hidden (HR3.out.grow hb4)
      clear hown4 hb4 q1 q2
      go_wp2_with ((at_builtin; go_loud (refine wpList_append_bytes_k (w := w) rfl _ _ 40 rfl 5 Try.underlying40 info_u8 _ (ps ++ enc z) (by rfl) HO4.out HB4.out _ (enc x2.toNat) (by rfl) HU4.out (by have := HPL.out; have := enc_le10 z; have := enc_le10 x2.toNat; rw [List.length_append]; omega) ?_); intro v5 w5 hown5 hb5 hk5; have HO5 := hidden hown5; have HB5 := hidden hb5; have HR5 := hidden (hk5.row (by decide) (by unfold maxLen; simp) HR4.out); obtain ⟨q1, q2⟩ := runCells HR5.out; clear hown5 hb5 hk5))
      refine ⟨⟨k + 1, by omega, by go_num, by rw [HLV.out], ?_, HB5.out⟩, by simp [intOf]; omega⟩
      rw [HTK.out]
      exact HO5.out
    · have hke : k = l.length := by omega
      subst hke
      have h := HOW.out
      rw [List.take_length] at h
      have HO2 := hidden h
      rw [List.take_length]
      clear h
      go_wp2_with fail
      go_ret
      exact ⟨_, rfl, HO2.out, HB.out⟩
end Go.Proofs.Ytgmjoghgmcjebaa
