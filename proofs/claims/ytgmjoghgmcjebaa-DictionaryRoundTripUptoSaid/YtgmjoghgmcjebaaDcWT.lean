/-
  The walk of the law DictionaryRoundTrip: it returns true for all strings between any bytes; nothing that was there is changed.
-/
import Derived.Test.YtgmjoghgmcjebaaM14
namespace Go.Proofs.Ytgmjoghgmcjebaa
open Go.RowKit
set_option linter.unusedVariables false
set_option linter.unusedSimpArgs false

theorem small_partsT {l : List Str} (h : smallB l = true) : (∀ s ∈ l, s.length ≤ 4096) ∧ l.length ≤ 300 := by
  unfold smallB at h
  rw [Bool.and_eq_true, List.all_eq_true, decide_eq_true_eq] at h
  exact ⟨fun s hs => by simpa using h.1 s hs, h.2⟩
theorem wordsL_len2 : ∀ {ws : List Str}, (∀ w ∈ ws, w.length ≤ 4096) → (wordsL ws).length ≤ 4106 * ws.length
  | [], _ => by simp [wordsL]
  | w :: r, h => by
    have h1 := h w (by simp)
    have h3 := enc_len10 (n := w.length) (by omega)
    have h2 := wordsL_len2 (ws := r) fun x hx => h x (by simp [hx])
    have e : wordsL (w :: r) = wordL w ++ wordsL r := by simp [wordsL]
    rw [e, List.length_append, List.length_cons]
    unfold wordL
    rw [List.length_append]
    omega
theorem encT_len2 {vs : List Str} (h : vs.length ≤ 300) (hs : ∀ s ∈ vs, s.length ≤ 4096) : (encT vs).length ≤ 2000000 := by
  have h0 := wordsOf_length vs
  have h2 := wordsL_len2 (ws := wordsOf vs) fun w hw => hs w (mem_wordsOf.1 hw)
  have h3 := enc_len10 (n := (wordsOf vs).length) (by omega)
  have h4 := runs_len (codesW (wordsOf vs) vs)
  have h5 : (codesW (wordsOf vs) vs).length = vs.length := by simp [codesW]
  have h6 := packL_length (codesW (wordsOf vs) vs) (widW (wordsOf vs).length)
  have h7 : szB (codesW (wordsOf vs) vs).length (widW (wordsOf vs).length) ≤ 10000 := by
    have h8 := widW_le (k := (wordsOf vs).length) (by omega)
    have h9 : (codesW (wordsOf vs) vs).length * widW (wordsOf vs).length ≤ 300 * 64 := Nat.mul_le_mul (by omega) h8
    unfold szB
    omega
  have h10 : (codesB (wordsOf vs).length (codesW (wordsOf vs) vs)).length ≤ 20000 := by
    unfold codesB
    split <;> simp <;> omega
  unfold encT bytesW
  rw [List.length_append, List.length_append]
  omega
def LTRel (w : World) (n : Nat) (i : Value) (wr : World) : Prop := ∃ k : Nat, k ≤ n ∧ i = .int .i64 (k : Int) ∧ Grows w wr
set_option maxRecDepth 20000 in
set_option maxHeartbeats 16000000 in
theorem law_roundtrip10 (v : Value) (l : List Str) (A1 A2 : Option Addr) (c1 c2 : Nat) (b1 b2 : List UInt8) (w : World) (hv : IsS w v l) (hl : l.length ≤ 9223372036854775806)
    (hv1 : IsBytes w (.slice A1 b1.length c1) b1) (hv2 : IsBytes w (.slice A2 b2.length c2) b2) (hb1 : b1.length ≤ 1048576) (hb2 : b2.length ≤ 1048576) :
    Calls Try.prog 7 #[v, .slice A1 b1.length c1, .slice A2 b2.length c2] w fun e w' => e = .returned (.bool true) ∧ Below w.heap.size w w' := by
  have HSM := hidden (small10_any v l w hv hl)
  by_cases hsm : smallB l = true
  rotate_left
  · have hs2 : smallB l = false := by simpa using hsm
    rw [hs2] at HSM
    have HA := hidden (awake10_any w)
    clear hv hsm hs2
    go_enter Try.func7, Try.ntmps7
    go_wp2_with fail
    refine HSM.out.mono ?_
    rintro e w1 ⟨rfl, rfl⟩
    go_wp2_with fail
    refine HA.out.mono ?_
    rintro e w2 ⟨rfl, g2⟩
    go_wp2_with fail
    go_ret
    exact ⟨rfl, g2⟩
  rw [hsm] at HSM
  obtain ⟨hs1, hs2⟩ := small_partsT hsm
  have HV := hidden hv
  have HV1 := hidden hv1
  have HV2 := hidden hv2
  obtain ⟨A, c, rfl⟩ := hv.slice_
  have HEN := hidden (encode10_any (.slice A l.length c) l w hv (by omega) (fun s h => by have := hs1 s h; omega))
  have HBU := hidden (fun W (h : Grows w W) => build10_any (.slice A l.length c) l W (hv.grow h) (by omega) (fun s h => by have := hs1 s h; unfold maxLen; omega))
  have HDE := hidden (decT_enc (vs := l) (by omega) hs1 b1 b2)
  have HEL := hidden (encT_len2 (vs := l) (by omega) hs1)
  have HR := hidden (wordsOf_rising l)
  have hwl := wordsOf_length l
  have HMW := hidden (fun s (h : s ∈ l) => mem_wordsOf.2 h)
  have HCL := hidden (show (codesW (wordsOf l) l).length = l.length by simp [codesW])
  have HCJ := hidden (show ∀ j, (h1 : j < (codesW (wordsOf l) l).length) → (h2 : j < l.length) → (codesW (wordsOf l) l)[j] = codeW (wordsOf l) l[j] from fun j h1 h2 => by simp [codesW])
  generalize encT l = E at *
  generalize hcs : codesW (wordsOf l) l = cs at *
  generalize hws : wordsOf l = ws at *
  have HCS := hidden hcs
  have HWW := hidden hws
  clear hv hv1 hv2 hs1 hcs hws
  go_enter Try.func7, Try.ntmps7
  go_wp2_with fail
  refine HSM.out.mono ?_
  rintro e w1 ⟨rfl, rfl⟩
  go_wp2_with fail
  refine HEN.out.mono ?_
  rintro e w2 ⟨v2, rfl, hown2, g2⟩
  have HG2 := hidden (show Grows w w2 from g2)
  have HE2 := hidden (IsBytes.of_own hown2)
  obtain ⟨AE, cE, rfl⟩ := own_sliceB hown2
  have HN0 := hidden (show w2.ownsRow w2.heap.size 5 1 (.slice none 0 0) ([] : List UInt8).length (bcells []) from World.ownsRow_nil _ _ _ _)
  have HB10 := hidden (HV1.out.grow (show Grows w w2 from g2))
  clear hown2 g2
  have hE9 := HEL.out
  have tok1 : True := trivial
  have tok2 : True := trivial
  go_wp2_with (first
    | (at_builtin; have _t := tok1; refine wpList_append_bytes (w := w2) (wr := w2) rfl _ _ 40 rfl 5 Try.underlying40 info_u8 _ [] (by rfl) HN0.out (Below.refl _ _) _ b1 (by rfl) HB10.out (by simp; omega) ?_; intro v3 w3 hown3 hb3; rw [List.nil_append] at hown3; have HO3 := hidden hown3; have HB3 := hidden hb3; have HE3 := hidden (HE2.out.grow (show Grows w2 w3 from hb3)); clear hown3 hb3 tok1)
    | (at_builtin; have _t := tok2; refine wpList_append_bytes (w := w2) (wr := w3) rfl _ _ 40 rfl 5 Try.underlying40 info_u8 _ b1 (by rfl) HO3.out HB3.out _ E (by rfl) HE3.out (by omega) ?_; intro v4 w4 hown4 hb4; have HO4 := hidden hown4; have HB4 := hidden hb4; have HA4 := hidden (HV2.out.grow (HG2.out.of_below (show Grows w2 w4 from hb4))); clear hown4 hb4 tok2)
    | (at_builtin; refine wpList_append_bytes (w := w2) (wr := w4) rfl _ _ 40 rfl 5 Try.underlying40 info_u8 _ (b1 ++ E) (by rfl) HO4.out HB4.out _ b2 (by rfl) HA4.out (by rw [List.length_append]; omega) ?_; intro v5 w5 hown5 hb5; generalize hL : b1 ++ E ++ b2 = L at hown5; have HL := hidden hL; clear hL; obtain ⟨A5, c5, hv5, hc5, hu5⟩ := capV_own hown5; subst hv5; have HU5 := hidden hu5; have HB5 := hidden hb5; have HC5 := hidden hc5; clear hown5 hb5 hu5 hc5))
  have HAL := hidden (show L.length ≤ 1000000000 by rw [← HL.out, List.length_append, List.length_append]; omega)
  have HD5 := hidden (dec10_any A5 c5 L (b1.length : Int) (l.length : Int) w5 HU5.out HC5.out HAL.out (by omega) (by omega))
  have HDX := hidden (show decT L (b1.length : Int) (l.length : Int) = (l, ((b1.length + E.length : Nat) : Int), 0) by rw [← HL.out, List.append_assoc]; exact HDE.out)
  rw [HDX.out] at HD5
  have HGW5 := hidden (HG2.out.of_below (show Grows w2 w5 from HB5.out))
  have hsum : (b1.length : Int) + (E.length : Int) = ((b1.length + E.length : Nat) : Int) := by omega
  obtain ⟨T, hT⟩ : ∃ T, T = b1.length + E.length := ⟨_, rfl⟩
  rw [← hT] at HD5 hsum
  have hT9 : T ≤ 10000000 := by omega
  clear hT
  refine HD5.out.mono ?_
  rintro e w6 ⟨v6, rfl, g6, hS6⟩
  have HG6 := hidden (HGW5.out.of_below g6)
  have HSS := hidden (strings10_any v6 (.slice A l.length c) l l w6 (show IsS w6 v6 l from hS6) (HV.out.grow HG6.out) hl hl)
  rw [sameS_self] at HSS
  have hT2 : ((T : Int) != (T : Int)) = false := by simp
  clear g6 hS6
  go_wp2_with fail
  refine HSS.out.mono ?_
  rintro e w7 ⟨rfl, g7⟩
  have HG7 := hidden (HG6.out.of_below g7)
  have HBU7 := hidden (HBU.out w7 HG7.out)
  clear g7 hT2
  go_wp2_with fail
  refine HBU7.out.mono ?_
  rintro e w8 ⟨v8, k8, rfl, g8, hS8, hN8⟩
  rw [HWW.out] at hS8 hN8
  rw [HCS.out] at hN8
  have HG8 := hidden (HG7.out.of_below g8)
  have HS8 := hidden hS8
  have HN8 := hidden hN8
  obtain ⟨A8, d8, rfl⟩ := hS8.slice_
  obtain ⟨A9, d9, rfl⟩ := hN8.slice_
  have HRI := hidden (rising10_any (.slice A8 ws.length d8) ws w8 hS8 (by omega))
  have hrt : risingB ws = true := by unfold risingB; simpa using HR.out
  rw [hrt] at HRI
  clear g8 hS8 hN8 hrt
  go_wp2_with fail
  refine HRI.out.mono ?_
  rintro e w9 ⟨rfl, g9⟩
  have HG9 := hidden (HG8.out.of_below g9)
  have HS9 := hidden (HS8.out.grow g9)
  have HN9 := hidden (HN8.out.grow g9)
  have HFI := hidden (fun (s : Str) W (h : Grows w9 W) => find10_any (.slice A8 ws.length d8) ws s W (HS9.out.grow h) HR.out (by omega))
  have hcl := HCL.out
  have hcd : ((cs.length : Int) != (l.length : Int)) = false := by rw [hcl]; simp
  clear g9
  have HCL2 := hidden hcl
  clear hcl
  go_wp2_with fail
  clear hcd
  go_loopw [14] (fun i wr => LTRel w9 l.length i wr) (fun i _ => l.length - (intOf i).toNat)
  case atStart => exact ⟨0, by omega, rfl, Below.refl _ _⟩
  case round =>
    obtain ⟨j, hj, rfl, hb⟩ := hrel
    have HB := hidden hb
    by_cases hlt : j < l.length
    · have hjc : j < cs.length := by rw [HCL2.out]; exact hlt
      have hsm := HMW.out _ (List.getElem_mem hlt)
      have hcj := HCJ.out j hjc hlt
      have hclt := codeW_lt hsm
      have hcg := codeW_get hsm
      have HFV := hidden (findV_in hsm)
      obtain ⟨C, hC⟩ : ∃ C, C = codeW ws l[j] := ⟨_, rfl⟩
      simp only [← hC] at hcj hclt hcg HFV
      obtain ⟨b, f, rfl, hcl1⟩ := (HV.out.grow (HG9.out.of_below hb)).at_ hlt
      obtain ⟨bc, fc, rfl, hcc⟩ := (HN9.out.grow hb).at_ hjc
      obtain ⟨bw, fw, rfl, hcw⟩ := (HS9.out.grow hb).at_ hclt
      rw [hcg] at hcw
      rw [hcj] at hcc
      have HF1 := hidden (HFI.out l[j])
      unfold findR at HF1
      rw [HFV.out] at HF1
      simp only [] at HF1
      have HCC := hidden (show ∀ W, Grows w9 W → W.cell? ⟨bc, fc + j, none⟩ = some (.int .i64 (C : Int)) from fun W hW => by
        obtain ⟨b2, f2, he, h2⟩ := (HN9.out.grow hW).at_ hjc
        injection he with he
        injection he with e1 e2
        subst e1 e2
        rw [hcj] at h2
        exact h2)
      generalize l[j] = s at *
      have d1 : decide ((C : Int) < 0) = false := by simp
      have d2 : decide (ws.length ≤ C) = false := by simp; omega
      have d3 : ((strOf s).toList != (strOf s).toList) = false := by simp
      have d4 : ((C : Int) != (C : Int)) = false := by simp
      generalize strOf s = t at *
      clear hb hcj hcg hC hsm
      go_wp2_with fail
      go_quiet (fail)
      clear hcc d1 d2 d3
      go_wp2_with fail
      refine (HF1.out _ (draws_below HB.out _)).mono ?_
      rintro e w10 ⟨rfl, g10⟩
      have HG10 := hidden (show Grows w9 w10 from Grows.of_below (draws_below HB.out _) g10)
      have hcc := HCC.out w10 HG10.out
      clear g10 hcw hcl1
      go_wp2_with fail
      go_roundw
      case rel => exact ⟨j + 1, by omega, by go_num, HG10.out⟩
      case measure => simp [intOf]; omega
    · have HA := hidden (awake10_any wr)
      clear hb
      go_wp2_with fail
      refine HA.out.mono ?_
      rintro e w10 ⟨rfl, g10⟩
      have HG10 := hidden (Grows.of_below (HG9.out.of_below HB.out) g10)
      clear g10
      go_wp2_with fail
      go_ret
      exact ⟨rfl, HG10.out⟩
end Go.Proofs.Ytgmjoghgmcjebaa
