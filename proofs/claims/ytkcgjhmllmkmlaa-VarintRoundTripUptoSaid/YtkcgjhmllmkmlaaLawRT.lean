/-
  The walk of the law VarintRoundTrip: it returns true for all arguments whose two slices have together no more than 2^45 bytes; nothing that was there is changed.
-/
import Derived.Test.YtkcgjhmllmkmlaaLawEnc
namespace Go.Proofs.Ytkcgjhmllmkmlaa
open Go.RowKit

theorem IsBytes.take {w : World} {A : Option Addr} {n c : Nat} {l : List UInt8} (h : IsBytes w (.slice A n c) l) {k : Nat} (hk : k ≤ l.length) (c' : Nat) : IsBytes w (.slice A k c') (l.take k) := by
  obtain ⟨A', c0, hA, hc⟩ := h
  injection hA with e1 e2 e3
  subst e1
  have hl : (l.take k).length = k := by rw [List.length_take]; omega
  refine ⟨A, c', by rw [hl], fun hp => ?_⟩
  rw [hl] at hp
  obtain ⟨b, off, rfl, hcell⟩ := hc (by omega)
  refine ⟨b, off, rfl, fun j hj => ?_⟩
  rw [hl] at hj
  rw [hcell j (by omega)]
  simp

theorem dcd_mid {n : Nat} (hn : n < 18446744073709551616) (p r : List UInt8) : dcd (([] ++ p) ++ enc n ++ r) (p.length : Int) = ((n : Int), (p.length : Int) + (esz n : Int), 0) := by
  rw [dcd_ok (n := n) (k := esz n) (e := 0)]
  · rfl
  · simp
    omega
  · rw [Int.toNat_natCast, List.nil_append, List.append_assoc, List.drop_left]
    exact dec_enc hn r

theorem dec_lt : ∀ (l : List UInt8) (i x n k e : Nat), i ≤ 9 → x < 128 ^ i → dec i x l = (n, k, e) → n < 18446744073709551616
  | [], i, x, n, k, e, _, _, h => by rw [dec_end] at h; simp only [Prod.mk.injEq] at h; omega
  | c :: r, i, x, n, k, e, hi, hx, h => by
    by_cases hb : (i = 9 ∧ 1 < c.toNat) ∨ (0 < i ∧ c.toNat = 0)
    · rw [dec_bad hb] at h; simp only [Prod.mk.injEq] at h; omega
    · by_cases hc : c.toNat < 128
      · rw [dec_last hb hc] at h
        simp only [Prod.mk.injEq] at h
        rw [← h.1]
        exact sum_lt64 hi hx (by omega)
      · rw [dec_more hb hc] at h
        exact dec_lt r (i + 1) _ n k e (by omega) (sum_lt hx) h

theorem dcd_take {l : List UInt8} : ∃ k to e : Nat, dcd l 0 = ((k : Int), (to : Int), (e : Int)) ∧ k < 18446744073709551616 ∧ (e = 0 → 1 ≤ to ∧ to ≤ l.length ∧ enc k = l.take to) := by
  have h0 : ¬ ((0 : Int) < 0 ∨ (l.length : Int) < 0) := by omega
  obtain ⟨⟨n, k, e⟩, hd⟩ : ∃ t : Nat × Nat × Nat, dec 0 0 l = t := ⟨_, rfl⟩
  have hd' : dec 0 0 (l.drop (0 : Int).toNat) = (n, k, e) := by rw [← hd]; rfl
  have h1 := dcd_ok h0 hd'
  have hn := dec_lt l 0 0 n k e (by omega) (by decide) hd
  by_cases he : e = 0
  · subst he
    obtain ⟨h2, h3, h4⟩ := enc_dec hd
    exact ⟨n, k, 0, by rw [h1]; simp, hn, fun _ => ⟨h3, h4, h2⟩⟩
  · exact ⟨n, 0, e, by rw [h1, if_neg he]; rfl, hn, fun h => absurd h he⟩

def rtRs (l : List UInt8) : Loose := fun i => if i = 13 then some (BytesR l) else none
theorem rtRs_lasts (l : List UInt8) : (rtRs l).lasts := by
  intro i R h
  unfold rtRs at h
  split at h
  · injection h with h; subst h; exact BytesR.lasts
  · cases h

def Sees (w : World) (v : Value) (l : List UInt8) : Prop := ∀ W, Grows w W → IsBytes W v l
theorem IsBytes.sees {w : World} {v : Value} {l : List UInt8} (h : IsBytes w v l) : Sees w v l := fun _ hb => h.grow hb

theorem fix8 {n : Nat} (hn : n < 18446744073709551616) : rdf (fixs n 8) 0 8 = ((n : Int), 0) := by
  have h1 : fixs n 8 = fixb n 8 := fixs_ok (s := 8) (by omega) (by omega)
  have hl := fixb_length n 8
  have h2 := rdf_ok (l := fixb n 8) (o := 0) (s := 8) (by omega) (by omega) (by omega)
  have h3 : (fixb n 8).take 8 = fixb n 8 := List.take_of_length_le (by omega)
  rw [h1]
  rw [show (0 : Int) = ((0 : Nat) : Int) from rfl, show (8 : Int) = ((8 : Nat) : Int) from rfl, h2, List.drop_zero, h3, le_fixb]
  have e : (256 : Nat) ^ 8 = 18446744073709551616 := by decide
  rw [e]
  congr 1
  omega

set_option maxHeartbeats 1000000 in
theorem law_roundtrip (n : Nat) (A B : Option Addr) (c d : Nat) (la lb : List UInt8) (w : World) (h1 : n < 18446744073709551616)
    (ha : IsBytes w (.slice A la.length c) la) (hb : IsBytes w (.slice B lb.length d) lb) (hl : la.length + lb.length ≤ 35184372088832) (hd : lb.length ≤ d) :
    Calls Try.prog 7 #[.int .u64 (n : Int), .slice A la.length c, .slice B lb.length d] w fun e w' => e = .returned (.bool true) ∧ Below w.heap.size w w' := by
  have HA := hidden ha
  have HB := hidden hb
  clear ha hb
  have HE := hidden (fun W => encode_any (n : Int) W (by omega) (by omega))
  have HW := hidden (fun W => bitWidth_any (n : Int) W (by omega) (by omega))
  have HF := hidden (fun W => fixed_any (n : Int) 8 W (by omega) (by omega))
  have HF8 := hidden (fix8 h1)
  have HM := hidden (dcd_mid h1 la lb)
  have HL := hidden (enc_length h1)
  have hes := esz_bd h1
  obtain ⟨k, to, e, hdt, hk, hok⟩ := dcd_take (l := lb)
  have HT := hidden hdt
  clear hdt
  go_enter Try.func7, Try.ntmps7
  go_wp2_with fail
  refine (Calls.mono (HE.out _) ?_)
  rintro _ w1 ⟨v1, rfl, hown1, hg1⟩
  rw [Int.toNat_natCast] at hown1
  have hv1 := IsBytes.of_own hown1
  have HV1 := hidden hv1
  have HG1 := hidden hg1
  have HA1 := hidden (HA.out.grow hg1)
  have HB1 := hidden (HB.out.grow hg1)
  clear hown1 hv1 hg1
  have hp1 : ([] : List UInt8).length + la.length ≤ 140737488355328 := by simp; omega
  have hp2 : (([] : List UInt8) ++ la).length + (enc n).length ≤ 140737488355328 := by rw [HL.out]; simp; omega
  have hp3 : (([] : List UInt8) ++ la ++ enc n).length + lb.length ≤ 140737488355328 := by rw [List.length_append, HL.out]; simp; omega
  have HP1 := hidden hp1
  have HP2 := hidden hp2
  have HP3 := hidden hp3
  clear hp1 hp2 hp3
  have hlb : (([] : List UInt8) ++ la ++ enc n ++ lb).length ≤ maxLen := by
    have h5 := HP3.out
    rw [List.length_append]; unfold maxLen; omega
  have HLB := hidden hlb
  clear hlb
  go_wp2_with (first
    | (at_builtin; refine wpList_append_bytes (w := w1) (wr := w1) rfl (.tmp 19) (.tmp 20) 23 rfl 5 Try.underlying23 info_u8 _ [] (by rfl) (World.ownsRow_nil _ _ _ _) (Below.refl _ _) _ la (by rfl) HA1.out HP1.out ?_; intro v2 w2 hown2 hnx2)
    | (at_builtin; refine wpList_append_bytes (w := w1) (wr := w2) rfl (.tmp 22) (.tmp 23) 23 rfl 5 Try.underlying23 info_u8 _ ([] ++ la) (by rfl) hown2 hnx2 _ (enc n) (by rfl) (HV1.out.grow hnx2) HP2.out ?_; intro v3 w3 hown3 hnx3)
    | (at_builtin; refine wpList_append_bytes (w := w1) (wr := w3) rfl (.tmp 25) (.tmp 26) 23 rfl 5 Try.underlying23 info_u8 _ ([] ++ la ++ enc n) (by rfl) hown3 hnx3 _ lb (by rfl) (HB1.out.grow hnx3) HP3.out ?_; intro v4 w4 hown4 hnx4))
  have hv4 := IsBytes.of_own hown4
  have HG4 := hidden (Grows.of_below HG1.out hnx4)
  have HB4 := hidden (HB1.out.grow hnx4)
  have HC4 := hidden (decode_any v4 _ (la.length : Int) w4 hv4 HLB.out (by omega) (by omega))
  rw [HM.out] at HC4
  have HC5 := hidden (decode_any (.slice B lb.length d) lb 0 w4 HB4.out (by unfold maxLen; omega) (by omega) (by omega))
  rw [HT.out] at HC5
  clear hown2 hnx2 hown3 hnx3 hown4 hnx4 hv4
  have hmx : Hid (max (1 : Int) (((Lib.bitLen n : Int) + 6) / 7) = (esz n : Int)) := by
    show max (1 : Int) (((Lib.bitLen n : Int) + 6) / 7) = (esz n : Int)
    unfold esz; omega
  have hbl := bitLen_bd h1
  go_wp2_with fail
  refine (Calls.mono HC4.out ?_)
  rintro _ w' ⟨rfl, rfl⟩
  obtain ⟨A1, c1, hv1e, _⟩ := HV1.out
  subst hv1e
  have hel : ((enc n).length : Int) = (esz n : Int) := by rw [HL.out]
  go_wp2_with fail
  refine (Calls.mono (HW.out _) ?_)
  rintro _ w' ⟨rfl, rfl⟩
  rw [Int.toNat_natCast]
  have hmx' := hmx.out
  go_wp2_with fail
  refine (Calls.mono HC5.out ?_)
  rintro _ w' ⟨rfl, rfl⟩
  clear hmx'
  by_cases he : e = 0
  · obtain ⟨ho1, ho2, ho3⟩ := hok he
    have HEk := hidden (fun W => encode_any (k : Int) W (by omega) (by omega))
    have HEK : Hid (∀ W, Calls Try.prog 13 #[.int .u64 (k : Int)] W (Made (lb.take to) W)) := by
      intro W
      have h6 := HEk.out W
      rw [Int.toNat_natCast, ho3] at h6
      exact h6
    have hd1 : decide ((to : Int) < 1) = false := by simp; omega
    have hd2 : decide (lb.length < to) = false := by simp; omega
    have hd3 : (to : Int) ≤ (d : Int) := by omega
    have HO2 := hidden ho2
    subst he
    clear hok ho3 HEk
    go_wp2_with fail
    refine wp_region_loose (rtRs (lb.take to)) (by kernel_rfl) (by kernel_rfl) (rtRs_lasts _) ?_
    iterate 13 ((with_reducible refine loose_one (v := ?_) (a' := ?_) ?_ ?_ (fun w' hC' hG' => ?_) ?_ ?_); rotate_left 2; (focus rfl); (focus rfl); (focus (clear hC' hG'; go_simp; rfl)); (focus (go_simp; rfl)))
    refine loose_call (f := 13) (args := #[.int .u64 (k : Int)]) (by rfl) (by rfl) (fun _ => by go_simp) (fun w' hC' hG' => made_loose (HEK.out w')) ?_
    intro v5 _
    refine ⟨?_, ?_, ?_⟩
    rotate_left
    · go_simp
      rfl
    refine loose_one (v := ?_) (a' := ?_) (by rfl) (by rfl) (fun w' hC' hG' => ?_) ?_ ?_
    rotate_left 2
    · have hr := run_string_bytes (P := Try.prog) ((hG' 13 (by kernel_rfl)).2 rfl) 23 5 Try.underlying23 Try.underlying5 9 Try.underlying9
      clear hC' hG'
      go_simp
      rfl
    · go_simp
      rfl
    iterate 3 ((with_reducible refine loose_one (v := ?_) (a' := ?_) ?_ ?_ (fun w' hC' hG' => ?_) ?_ ?_); rotate_left 2; (focus rfl); (focus rfl); (focus (clear hC' hG'; go_simp; rfl)); (focus (go_simp; rfl)))
    refine loose_one (v := ?_) (a' := ?_) (by rfl) (by rfl) (fun w' hC' hG' => ?_) ?_ ?_
    rotate_left 2
    · have hr := run_string_bytes (P := Try.prog) ((HB4.out.grow hC').take HO2.out d) 23 5 Try.underlying23 Try.underlying5 9 Try.underlying9
      clear hC' hG'
      go_simp
      rfl
    · go_simp
      rfl
    iterate 3 ((with_reducible refine loose_one (v := ?_) (a' := ?_) ?_ ?_ (fun w' hC' hG' => ?_) ?_ ?_); rotate_left 2; (focus rfl); (focus rfl); (focus (clear hC' hG'; go_simp; rfl)); (focus (go_simp; rfl)))
    refine loose_done (fun w5 hC5 hG' => ?_)
    clear hG'
    have HG5 := hidden (Grows.of_below HG4.out hC5)
    clear hC5
    go_wp2_with fail
    refine (Calls.mono (HF.out _) ?_)
    rintro _ w6 ⟨v6, rfl, hown6, hg6⟩
    rw [Int.toNat_natCast] at hown6
    have hr6 := readFixed_any v6 (fixs n 8) 0 8 w6 (IsBytes.of_own hown6) (by rw [show fixs n 8 = fixb n 8 from fixs_ok (s := 8) (by omega) (by omega), fixb_length]; simp [maxLen]) (by omega) (by omega)
    rw [HF8.out] at hr6
    have HR6 := hidden hr6
    have HG6 := hidden (Grows.of_below HG5.out hg6)
    clear hown6 hg6 hr6
    go_wp2_with fail
    refine (Calls.mono HR6.out ?_)
    rintro _ w' ⟨rfl, rfl⟩
    go_wp2_with fail
    refine (Calls.mono (awake_any _) ?_)
    rintro _ w7 ⟨rfl, hg7⟩
    go_wp2
    go_ret
    exact ⟨rfl, Grows.of_below HG6.out hg7⟩
  · have hf : (((e : Nat) : Int) == 0) = false := by simp; omega
    clear hok he
    go_wp2_with fail
    refine wp_region_loose (rtRs []) (by kernel_rfl) (by kernel_rfl) (rtRs_lasts _) ?_
    iterate 3 ((with_reducible refine loose_one (v := ?_) (a' := ?_) ?_ ?_ (fun w' hC' hG' => ?_) ?_ ?_); rotate_left 2; (focus rfl); (focus rfl); (focus (clear hC' hG'; go_simp; rfl)); (focus (go_simp; rfl)))
    iterate 18 ((with_reducible refine loose_skip (a' := ?_) ?_ ?_ ?_); rotate_left 1; (focus rfl); (focus (go_simp; rfl)))
    iterate 1 ((with_reducible refine loose_one (v := ?_) (a' := ?_) ?_ ?_ (fun w' hC' hG' => ?_) ?_ ?_); rotate_left 2; (focus rfl); (focus rfl); (focus (clear hC' hG'; go_simp; rfl)); (focus (go_simp; rfl)))
    refine loose_done (fun w5 hC5 hG' => ?_)
    clear hG'
    have HG5 := hidden (Grows.of_below HG4.out hC5)
    clear hC5
    go_wp2_with fail
    refine (Calls.mono (HF.out _) ?_)
    rintro _ w6 ⟨v6, rfl, hown6, hg6⟩
    rw [Int.toNat_natCast] at hown6
    have hr6 := readFixed_any v6 (fixs n 8) 0 8 w6 (IsBytes.of_own hown6) (by rw [show fixs n 8 = fixb n 8 from fixs_ok (s := 8) (by omega) (by omega), fixb_length]; simp [maxLen]) (by omega) (by omega)
    rw [HF8.out] at hr6
    have HR6 := hidden hr6
    have HG6 := hidden (Grows.of_below HG5.out hg6)
    clear hown6 hg6 hr6
    go_wp2_with fail
    refine (Calls.mono HR6.out ?_)
    rintro _ w' ⟨rfl, rfl⟩
    go_wp2_with fail
    refine (Calls.mono (awake_any _) ?_)
    rintro _ w7 ⟨rfl, hg7⟩
    go_wp2
    go_ret
    exact ⟨rfl, Grows.of_below HG6.out hg7⟩

theorem row_cap {w : World} {a : Option Addr} {len cap : Nat} {zs : List Int}
    (h : (a = none ∧ len = 0 ∧ cap = 0 ∧ zs = []) ∨ ∃ x, a = some x ∧ len ≤ cap ∧ cap ≤ maxLen ∧ zs.length = cap ∧ (∀ i, i < zs.length → w.cell? (x.add i) = some (.int .u8 (zs.getD i 0))) ∧ ∀ n ∈ zs, (Lit.int .u8 n).wf = true) : len ≤ cap ∧ cap ≤ maxLen := by
  rcases h with ⟨_, rfl, rfl, _⟩ | ⟨_, _, h1, h2, _⟩
  · exact ⟨Nat.le_refl _, by simp [maxLen]⟩
  · exact ⟨h1, h2⟩

end Go.Proofs.Ytkcgjhmllmkmlaa
