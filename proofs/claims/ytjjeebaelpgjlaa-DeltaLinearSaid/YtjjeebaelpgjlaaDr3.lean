/-
  The reference of delta: form, Encode, Size. Nothing that was there is changed.
-/
import Derived.Test.YtjjeebaelpgjlaaDr1
import Derived.Test.YtjjeebaelpgjlaaFr2
namespace Go.Proofs.Ytjjeebaelpgjlaa
open Go.RowKit
set_option linter.unusedVariables false
set_option linter.unusedSimpArgs false

/-- what is left after j times of differences lies in u: the values that came in, or a row of the call's own -/
def RestI (w wr : World) (v : Value) (l : List Int) (j : Nat) (u : Value) : Prop := (rstL j l = l ∧ u = v) ∨ wr.ownsRow w.heap.size 2 1 u (rstL j l).length (icells (rstL j l))
theorem RestI.reads {w wr : World} {v u : Value} {l : List Int} {j : Nat} (h : RestI w wr v l j u) (hv : IsI w v l) (hb : Grows w wr) : IsI wr u (rstL j l) := by
  rcases h with ⟨h1, rfl⟩ | h
  · rw [h1]; exact IsI.grow hv hb
  · exact Reads.of_own h
theorem RestI.grow {w wr wr' : World} {v u : Value} {l : List Int} {j : Nat} (h : RestI w wr v l j u) (hb : Grows wr wr') : RestI w wr' v l j u := h.imp id fun h => own_grow h hb
theorem RestI.keep {w wr wr' : World} {v u : Value} {l : List Int} {j : Nat} (h : RestI w wr v l j u) (hk : KeepsRows 5 wr wr') : RestI w wr' v l j u := h.imp id fun h => hk _ _ _ _ _ _ (by decide) h
theorem RestI.of_own {w w1 wr : World} {v u : Value} {l : List Int} {j : Nat} (h : wr.ownsRow w1.heap.size 2 1 u (rstL j l).length (icells (rstL j l))) (hb : Grows w w1) : RestI w wr v l j u := .inr (ownsRow_base h hb.size)
theorem hdB_stop {l : List Int} {j : Nat} (h : rstL j l = []) : ∀ d, hdB (j + d) l = hdB j l ∧ rstL (j + d) l = []
  | 0 => ⟨rfl, h⟩
  | d + 1 => by
    obtain ⟨h1, h2⟩ := hdB_stop h d
    exact ⟨(hdB_end h2).trans h1, by show dfL (rstL (j + d) l) = []; rw [h2]; rfl⟩
theorem u8_kind {k : Nat} (hk : k ≤ 2) : IntKind.u8.wrap (k : Int) = ((UInt8.ofNat k).toNat : Int) := by
  match k, hk with
  | 0, _ => rfl
  | 1, _ => rfl
  | 2, _ => rfl
theorem take1 {l : List Int} (h : 0 < l.length) : l.take 1 = [l[0]] := by
  cases l with
  | nil => cases h
  | cons x r => rfl
theorem own_one_b (w : World) (z : UInt8) : (w.alloc (.cells #[.int .u8 (z.toNat : Int)] 5)).ownsRow w.heap.size 5 1 (.slice (some ⟨w.heap.size, 0, none⟩) 1 1) ([z] : List UInt8).length (bcells [z]) := by
  have h := Row.own (Row.new w 5 #[.int .u8 (z.toNat : Int)] (bcells [z]) rfl) (Nat.le_refl _) (by unfold maxLen; rw [bcells_length, List.length_singleton]; omega)
  exact h
def RFmRel (w : World) (v : Value) (l : List Int) (k : Nat) (K : UInt8) (o r i : Value) (wr : World) : Prop :=
  ∃ j : Nat, j ≤ k ∧ i = .int .i64 (j : Int) ∧ wr.ownsRow w.heap.size 5 1 o (K :: hdB j l).length (bcells (K :: hdB j l)) ∧ RestI w wr v l j r ∧ Below w.heap.size w wr
set_option maxRecDepth 20000 in
set_option maxHeartbeats 8000000 in
theorem rform_any (v : Value) (l : List Int) (k : Nat) (w : World) (hv : IsI w v l) (hl : l.length ≤ 65536) (hin : ∀ x ∈ l, frIn x) (hk : k ≤ 2) :
    Calls Try.prog 23 #[v, .int .i64 (k : Int)] w (ByR (dlForm k l) w) := by
  have HV := hidden hv
  obtain ⟨A, c, rfl⟩ := hv.slice_
  have HIN := hidden (rstL_in hin)
  have HRL := hidden (fun j => rstL_length j l)
  have HK8 := hidden (u8_kind hk)
  have HO0 := hidden (own_one_b w (UInt8.ofNat k))
  have HB0 := hidden ((Below.refl w.heap.size w).alloc (Nat.le_refl _) (.cells #[.int .u8 ((UInt8.ofNat k).toNat : Int)] 5))
  have HFM := hidden (show dlForm k l = (UInt8.ofNat k :: hdB k l) ++ encV (rstL k l) from rfl)
  have HHL := hidden (fun j => hdB_len j l)
  have HEL := hidden (show (encV (rstL k l)).length ≤ 31 + 28 * 65536 by have := encV_len (rstL k l); rw [rstL_length] at this; omega)
  have hk8 := HK8.out
  generalize UInt8.ofNat k = K at *
  clear hv hin
  go_enter Try.func23, Try.ntmps23
  go_wp2_with fail
  clear hk8
  go_loopw [5, 6, 7] (fun o r i wr => RFmRel w (.slice A l.length c) l k K o r i wr) (fun _ _ i _ => k - (intOf i).toNat)
  case atStart => exact ⟨0, by omega, rfl, by exact HO0.out, .inl ⟨rfl, rfl⟩, HB0.out⟩
  case round =>
    obtain ⟨j, hj, rfl, hown, hrest, hbw⟩ := hrel
    have HB := hidden hbw
    have HO := hidden hown
    have HR := hidden hrest
    have HI := hidden (hrest.reads HV.out hbw)
    obtain ⟨A6, c6, rfl⟩ := HI.out.slice_
    have HLJ := hidden (HHL.out j)
    have HINJ := hidden (HIN.out j)
    have HRLJ := hidden (HRL.out j)
    have HST := hidden (fun h => hdB_stop (l := l) (j := j) h (k - j))
    clear hown hrest hbw HO0 HB0
    by_cases hgo : j < k ∧ 0 < (rstL j l).length
    · obtain ⟨hjk, h0⟩ := hgo
      obtain ⟨b, f, rfl, hck⟩ := HI.out.at_ h0
      simp only [Nat.add_zero] at hck
      have HSTEP := hidden (hdB_step (take1 h0))
      have hx := HINJ.out _ (List.getElem_mem h0)
      have HDJ := hidden (fun u w' hu => rdiff_any u (rstL j l) w' hu (by have := HRLJ.out; omega))
      have HD2 := hidden (show dfL (rstL j l) = rstL (j + 1) l from rfl)
      generalize hxe : (rstL j l)[0] = x at *
      have hz := zz_bd x hx.1 (by have := hx.2; omega)
      have HZG := hidden (fun W' => rzigzag_any x W' hx.1 (by have := hx.2; omega))
      have HE1 := hidden (fun W' => rencode_any (zz x) W' hz.1 (by omega))
      generalize hdB j l = hd at *
      have HEX := hidden (enc_le10 (zz x).toNat)
      have h0' : (0 : Int) < ((rstL j l).length : Int) := by omega
      clear hx hz hxe
      go_wp2_with (first | (go_at_call 39; refine (HZG.out _).mono ?_; rintro e w2 ⟨rfl, rfl⟩))
      refine (HE1.out wr).mono ?_
      rintro e w1 ⟨v1, rfl, hown1, hb1⟩
      have HU1 := hidden (IsBytes.of_own hown1)
      have HB1 := hidden (HB.out.trans (hb1.mono HB.out.size))
      have HO1 := hidden (own_grow HO.out hb1)
      have HR1 := hidden (HR.out.grow hb1)
      clear hown1 hb1
      go_wp2_with ((at_builtin; go_loud (refine wpList_append_bytes_k (w := w) rfl _ _ 27 rfl 5 Try.underlying27 info_u8 _ (K :: hd) (by rfl) HO1.out HB1.out _ (enc (zz x).toNat) (by rfl) HU1.out (by have := HEX.out; have := HLJ.out; rw [List.length_cons]; omega) ?_); intro v2 w2 hown2 hb2 hk2; have HO2 := hidden hown2; have HB2 := hidden hb2; have HR2 := hidden (HR1.out.keep hk2); clear hown2 hb2 hk2))
      refine (HDJ.out _ w2 (HR2.out.reads HV.out HB2.out)).mono ?_
      rintro e w3 ⟨v3, rfl, hb3, hown3⟩
      rw [HD2.out] at hown3
      have HR3 := hidden (RestI.of_own (v := .slice A l.length c) hown3 HB2.out)
      have HO3 := hidden (own_grow HO2.out hb3)
      have HB3 := hidden (HB2.out.trans (hb3.mono HB2.out.size))
      clear hown3 hb3
      go_wp2_with fail
      refine ⟨⟨j + 1, by omega, by go_num, ?_, ?_, HB3.out⟩, by simp [intOf]; omega⟩
      · rw [HSTEP.out]; exact HO3.out
      · exact HR3.out
    · have hE : hdB k l = hdB j l ∧ rstL k l = rstL j l := by
        by_cases hjk : j < k
        · have h0 : rstL j l = [] := List.eq_nil_of_length_eq_zero (by omega)
          have h1 := HST.out h0
          rw [show j + (k - j) = k by omega] at h1
          exact ⟨h1.1, by rw [h1.2, h0]⟩
        · rw [show k = j by omega]
          exact ⟨rfl, rfl⟩
      rw [hE.1, hE.2] at HFM
      rw [hE.2] at HEL
      have HEN := hidden (fun w' hu => rencodeF_any (.slice A6 (rstL j l).length c6) (rstL j l) w' hu (by have := HRLJ.out; omega) HINJ.out)
      clear hE
      by_cases hjk : j < k
      · have h0 : (rstL j l).length = 0 := by omega
        have h0q : decide (0 < (rstL j l).length) = false := by rw [h0]; rfl
        have H0 := hidden h0
        clear h0 hgo
        go_wp2_with fail
        refine (HEN.out wr HI.out).mono ?_
        rintro e w1 ⟨v1, rfl, hb1, hu1⟩
        have HU1 := hidden hu1
        have HB1 := hidden (HB.out.trans (hb1.mono HB.out.size))
        have HO1 := hidden (own_grow HO.out hb1)
        clear hb1 hu1
        go_wp2_with ((at_builtin; go_loud (refine wpList_append_bytes (w := w) rfl _ _ 27 rfl 5 Try.underlying27 info_u8 _ (K :: hdB j l) (by rfl) HO1.out HB1.out _ (encV (rstL j l)) (by rfl) HU1.out (by have := HEL.out; have := HLJ.out; rw [List.length_cons]; omega) ?_); intro v2 w2 hown2 hb2; have HO2 := hidden hown2; have HB2 := hidden hb2; clear hown2 hb2))
        go_ret
        exact ⟨_, rfl, HB2.out, by rw [HFM.out]; exact IsBytes.of_own HO2.out⟩
      · clear hgo
        go_wp2_with fail
        refine (HEN.out wr HI.out).mono ?_
        rintro e w1 ⟨v1, rfl, hb1, hu1⟩
        have HU1 := hidden hu1
        have HB1 := hidden (HB.out.trans (hb1.mono HB.out.size))
        have HO1 := hidden (own_grow HO.out hb1)
        clear hb1 hu1
        go_wp2_with ((at_builtin; go_loud (refine wpList_append_bytes (w := w) rfl _ _ 27 rfl 5 Try.underlying27 info_u8 _ (K :: hdB j l) (by rfl) HO1.out HB1.out _ (encV (rstL j l)) (by rfl) HU1.out (by have := HEL.out; have := HLJ.out; rw [List.length_cons]; omega) ?_); intro v2 w2 hown2 hb2; have HO2 := hidden hown2; have HB2 := hidden hb2; clear hown2 hb2))
        go_ret
        exact ⟨_, rfl, HB2.out, by rw [HFM.out]; exact IsBytes.of_own HO2.out⟩
set_option maxRecDepth 20000 in
set_option maxHeartbeats 8000000 in
theorem renc_any (v : Value) (l : List Int) (w : World) (hv : IsI w v l) (hl : l.length ≤ 65536) (hin : ∀ x ∈ l, frIn x) :
    Calls Try.prog 15 #[v] w (ByR (dlEnc l) w) := by
  have HV := hidden hv
  obtain ⟨A, c, rfl⟩ := hv.slice_
  have HE := hidden (dlEnc_in hl)
  have HF1 := hidden (rform_any _ l 1 w hv hl hin (by decide))
  have HF2 := hidden (fun w' hv' => rform_any (.slice A l.length c) l 2 w' hv' hl hin (by decide))
  have HO := hidden (show dlOrd l = if l.length < 2 then 1 else if (dlForm 2 l).length < (dlForm 1 l).length then 2 else 1 from rfl)
  have hd : decide ((65536 : Int) < (l.length : Int)) = false := by simp; omega
  clear hv
  by_cases h2 : l.length < 2
  · rw [if_pos h2] at HO
    rw [HO.out] at HE
    have hd2 : decide ((l.length : Int) < 2) = true := by simp; omega
    clear h2
    go_enter Try.func15, Try.ntmps15
    go_wp2_with fail
    refine HF1.out.mono ?_
    rintro e w1 ⟨v1, rfl, hb1, hu1⟩
    have HB1 := hidden hb1
    have HU1 := hidden hu1
    clear hb1 hu1
    go_wp2_with fail
    go_ret
    exact ⟨_, rfl, HB1.out, by rw [HE.out]; exact HU1.out⟩
  · rw [if_neg h2] at HO
    have hd2 : decide ((l.length : Int) < 2) = false := by simp; omega
    clear h2
    obtain ⟨F1, hF1⟩ : ∃ F1, F1 = dlForm 1 l := ⟨_, rfl⟩
    obtain ⟨F2, hF2⟩ : ∃ F2, F2 = dlForm 2 l := ⟨_, rfl⟩
    rw [← hF1] at HF1 HO
    rw [← hF2] at HF2 HO
    have HQ1 := hidden hF1
    have HQ2 := hidden hF2
    clear hF1 hF2
    by_cases hs : F2.length < F1.length
    · rw [if_pos hs] at HO
      rw [HO.out, ← HQ2.out] at HE
      have hds : decide (F2.length < F1.length) = true := by simpa using hs
      clear hs
      go_enter Try.func15, Try.ntmps15
      go_wp2_with fail
      refine HF1.out.mono ?_
      rintro e w1 ⟨v1, rfl, hb1, hu1⟩
      obtain ⟨A1, c1, rfl, _⟩ := hu1
      have HB1 := hidden hb1
      clear hb1
      go_wp2_with fail
      refine (HF2.out w1 (IsI.grow HV.out HB1.out)).mono ?_
      rintro e w2 ⟨v2, rfl, hb2, hu2⟩
      have HU2 := hidden hu2
      obtain ⟨A2, c2, rfl, _⟩ := hu2
      have HB2 := hidden (HB1.out.trans (hb2.mono HB1.out.size))
      clear hb2
      go_wp2_with fail
      go_ret
      exact ⟨_, rfl, HB2.out, by rw [HE.out]; exact HU2.out⟩
    · rw [if_neg hs] at HO
      rw [HO.out, ← HQ1.out] at HE
      have hds : decide (F2.length < F1.length) = false := by simpa using hs
      clear hs
      go_enter Try.func15, Try.ntmps15
      go_wp2_with fail
      refine HF1.out.mono ?_
      rintro e w1 ⟨v1, rfl, hb1, hu1⟩
      have HU1 := hidden hu1
      obtain ⟨A1, c1, rfl, _⟩ := hu1
      have HB1 := hidden hb1
      clear hb1
      go_wp2_with fail
      refine (HF2.out w1 (IsI.grow HV.out HB1.out)).mono ?_
      rintro e w2 ⟨v2, rfl, hb2, hu2⟩
      obtain ⟨A2, c2, rfl, _⟩ := hu2
      have HB2 := hidden (HB1.out.trans (hb2.mono HB1.out.size))
      have HU12 := hidden (HU1.out.grow hb2)
      clear hb2
      go_wp2_with fail
      go_ret
      exact ⟨_, rfl, HB2.out, by rw [HE.out]; exact HU12.out⟩
theorem rsize_any9 (v : Value) (l : List Int) (w : World) (hv : IsI w v l) (hl : l.length ≤ 65536) (hin : ∀ x ∈ l, frIn x) :
    Calls Try.prog 17 #[v] w fun e w' => e = .returned (.int .i64 (((dlEnc l).length : Nat) : Int)) ∧ Grows w w' := by
  have HE := hidden (renc_any v l w hv hl hin)
  go_enter Try.func17, Try.ntmps17
  go_wp2_with fail
  refine HE.out.mono ?_
  rintro e w1 ⟨v1, rfl, hb1, hu1⟩
  obtain ⟨A1, d1, rfl, _⟩ := hu1
  have HB1 := hidden hb1
  clear hb1
  go_wp2_with fail
  go_ret
  exact ⟨rfl, HB1.out⟩
end Go.Proofs.Ytjjeebaelpgjlaa
