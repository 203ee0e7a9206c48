/-
  The walk of the law DeltaRoundTrip: it returns true for all values and bytes; nothing that was there is changed.
-/
import Derived.Test.YtjjeebaelpgjlaaDw0
namespace Go.Proofs.Ytjjeebaelpgjlaa
open Go.RowKit
set_option linter.unusedVariables false
set_option linter.unusedSimpArgs false

theorem isBytes_take {w : World} {A : Option Addr} {n c : Nat} {l : List UInt8} (h : IsBytes w (.slice A n c) l) {k : Nat} (hk : k ≤ l.length) : IsBytes w (.slice A k c) (l.take k) := by
  obtain ⟨A', c', he, hc⟩ := h
  injection he with e1 e2 e3
  subst e1 e3
  have hlen : (l.take k).length = k := by rw [List.length_take]; omega
  refine ⟨A, c, by rw [hlen], fun h0 => ?_⟩
  obtain ⟨b, off, rfl, hcell⟩ := hc (by omega)
  refine ⟨b, off, rfl, fun j hj => ?_⟩
  rw [hcell j (by omega), List.getElem_take]
set_option maxRecDepth 20000 in
set_option maxHeartbeats 8000000 in
theorem law_roundtrip9 (v : Value) (l : List Int) (A1 A2 : Option Addr) (c1 c2 : Nat) (p q : List UInt8) (w : World) (hv : IsI w v l) (hp : IsBytes w (.slice A1 p.length c1) p) (hq : IsBytes w (.slice A2 q.length c2) q) (hin : ∀ x ∈ l, frIn x) (hlm : l.length ≤ 9223372036854775806) (hpm : p.length ≤ 9223372036854775806) (hqm : q.length ≤ 9223372036854775806) :
    Calls Try.prog 6 #[v, .slice A1 p.length c1, .slice A2 q.length c2] w fun e w' => e = .returned (.bool true) ∧ Below w.heap.size w w' := by
  have HA0 := hidden (lives_any w)
  have HV := hidden hv
  have HP := hidden hp
  have HQ := hidden hq
  obtain ⟨A, c, rfl⟩ := hv.slice_
  clear hv hp hq
  have out : ∀ (B1 B2 B3 : Bool), decide ((300 : Int) < (l.length : Int)) = B1 → decide ((100 : Int) < (p.length : Int)) = B2 → decide ((100 : Int) < (q.length : Int)) = B3 → (B1 || B2 || B3) = true → Calls Try.prog 6 #[.slice A l.length c, .slice A1 p.length c1, .slice A2 q.length c2] w fun e w' => e = .returned (.bool true) ∧ Below w.heap.size w w' := by
    intro B1 B2 B3 hd1 hd2 hd3 hbb
    cases B1
    all_goals (cases B2)
    all_goals (cases B3)
    all_goals (first | (exact absurd hbb (by decide)) | skip)
    all_goals
      go_enter Try.func6, Try.ntmps6
      go_wp2_with fail
      refine HA0.out.mono ?_
      rintro e w1 ⟨rfl, g1⟩
      go_wp2_with fail
      go_ret
      exact ⟨rfl, g1⟩
  by_cases hbig : 300 < l.length ∨ 100 < p.length ∨ 100 < q.length
  · refine out _ _ _ rfl rfl rfl ?_
    simp only [Bool.or_eq_true, decide_eq_true_eq]
    omega
  clear out
  have hd1 : decide ((300 : Int) < (l.length : Int)) = false := by simp; omega
  have hd2 : decide ((100 : Int) < (p.length : Int)) = false := by simp; omega
  have hd3 : decide ((100 : Int) < (q.length : Int)) = false := by simp; omega
  have hl3 : l.length ≤ 300 := by omega
  have hp3 : p.length ≤ 100 := by omega
  have hq3 : q.length ≤ 100 := by omega
  have HEN := hidden (enc9c_any (.slice A l.length c) l w HV.out (by omega) hin)
  have HDE := hidden (dlDec_enc p q hin (by omega))
  have HCUT := hidden (dlDec_cut hin (by omega) rfl)
  have hel := dlEnc_le l
  have hep := dlEnc_pos (l := l) (by omega)
  generalize dlEnc l = E at *
  have HLL : Hid (∃ LL, LL = p ++ (E ++ q)) := ⟨_, rfl⟩
  obtain ⟨LL, hLL⟩ := HLL.out
  have HL1 := hidden (show LL.length ≤ 1000000 by rw [hLL, List.length_append, List.length_append]; omega)
  have HPE := hidden (show (p ++ E).length = p.length + E.length from List.length_append)
  rw [← hLL, HPE.out] at HDE
  have HLE := hidden hLL
  clear hbig hin hLL HLL
  go_enter Try.func6, Try.ntmps6
  go_wp2_with fail
  refine HEN.out.mono ?_
  rintro e w1 ⟨A3, c3, rfl, hc3, hu3, g1⟩
  have HU1 := hidden hu3
  have HG1 := hidden g1
  have HC3 := hidden hc3
  have ha1 : Below w1.heap.size w1 (w1.alloc (.cells #[] 5)) := (Below.refl _ _).alloc (Nat.le_refl _) _
  have HB1 := hidden ha1
  have HO0 : Hid ((w1.alloc (.cells #[] 5)).ownsRow w1.heap.size 5 1 (.slice (some ⟨w1.heap.size, 0, none⟩) 0 0) ([] : List UInt8).length (bcells [])) := own_empty w1 w1.heap.size 5 1 (Nat.le_refl _)
  have HP1 := hidden (HP.out.grow (Grows.of_below g1 ha1))
  clear hu3 g1 hc3 ha1
  go_wp2_with (first
    | (at_builtin; (refine wpList_append_bytes (w := w1) rfl _ _ 27 rfl 5 Try.underlying27 info_u8 _ [] (by rfl) HO0.out HB1.out _ p (by rfl) HP1.out (by rw [List.length_nil]; omega) ?_); intro v4 w4 hown4 hb4; rw [List.nil_append] at hown4; have HO4 := hidden hown4; have HB4 := hidden hb4; have HU4 := hidden (HU1.out.grow hb4); clear hown4 hb4)
    | (at_builtin; (refine wpList_append_bytes (w := w1) rfl _ _ 27 rfl 5 Try.underlying27 info_u8 _ p (by rfl) HO4.out HB4.out _ E (by rfl) HU4.out (by omega) ?_); intro v5 w5 hown5 hb5; have HO5 := hidden hown5; have HB5 := hidden hb5; have HQ5 := hidden (HQ.out.grow (Grows.of_below HG1.out hb5)); clear hown5 hb5)
    | (at_builtin; (refine wpList_append_bytes (w := w1) rfl _ _ 27 rfl 5 Try.underlying27 info_u8 _ (p ++ E) (by rfl) HO5.out HB5.out _ q (by rfl) HQ5.out (by rw [List.length_append]; omega) ?_); intro v6 w6 hown6 hb6; rw [List.append_assoc, ← HLE.out] at hown6; have HO6 := hidden (capV_own hown6); have HB6 := hidden hb6; clear hown6 hb6
       obtain ⟨A6, c6, rfl, hc6, hu6⟩ := HO6.out
       have HD6 := hidden (dec9_any A6 c6 LL (p.length : Int) (l.length : Int) w6 hu6 hc6 (by have := HL1.out; omega) (by omega) (by omega))
       rw [HDE.out] at HD6
       clear hc6 hu6))
  refine HD6.out.mono ?_
  rintro e w7 ⟨v7, rfl, hi7, g7⟩
  have HI7 := hidden (show IsI w7 v7 l from hi7)
  have HG7 := hidden (Grows.of_below HG1.out (Grows.of_below HB6.out g7))
  have HU7 := hidden (HU1.out.grow (Grows.of_below HB6.out g7))
  clear hi7 g7 HO0 HO4 HO5 HP1 HU4 HQ5 HB1 HB4 HB5
  obtain ⟨K, hK⟩ : ∃ K, E.length = K + 1 := ⟨E.length - 1, by omega⟩
  have HK := hidden hK
  have hKc : K ≤ c3 := by have := HC3.out; omega
  have hKb : K ≤ 20000 := by omega
  have HTL := hidden (show (E.take K).length = K by rw [List.length_take]; omega)
  have HTK := hidden (fun w' (h : Grows w7 w') => dec9_any A3 c3 (E.take K) 0 (l.length : Int) w' (by rw [HTL.out]; exact (isBytes_take HU7.out (by omega)).grow h) (by rw [HTL.out]; exact hKc) (by rw [HTL.out]; omega) (by omega) (by omega))
  rw [HTL.out] at HTK
  rw [hK, Nat.add_sub_cancel] at HCUT
  rw [hK]
  obtain ⟨r3, q3, e3, hr3⟩ : ∃ r3 q3 e3, dlDec (E.take K) 0 (l.length : Int) = (r3, q3, e3) := ⟨_, _, _, rfl⟩
  rw [hr3] at HCUT
  simp only [hr3] at HTK
  have hne : (e3 != 0) = true := by simpa using HCUT.out
  clear hK hr3 hel hep
  go_wp2_with fail
  refine (requal_self v7 _ l w7 HI7.out (IsI.grow HV.out HG7.out) (by omega)).mono ?_
  rintro e w8 ⟨rfl, g8⟩
  have HG8 := hidden g8
  clear g8
  go_wp2_with fail
  refine (HTK.out w8 HG8.out).mono ?_
  rintro e w9 ⟨v9, rfl, hi9, g9⟩
  have HG9 := hidden (Grows.of_below HG7.out (Grows.of_below HG8.out g9))
  clear hi9 g9
  go_wp2_with fail
  refine (lives_any w9).mono ?_
  rintro e w10 ⟨rfl, g10⟩
  have HG10 := hidden (Grows.of_below HG9.out g10)
  clear g10
  go_wp2_with fail
  go_ret
  exact ⟨rfl, HG10.out⟩
end Go.Proofs.Ytjjeebaelpgjlaa
