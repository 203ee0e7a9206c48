/-
  Decode and At of package frontcode. Nothing that was there is changed.
-/
import Derived.Test.YtcpdgkjelghlnaaFc6
namespace Go.Proofs.Ytcpdgkjelghlnaa
open Go.RowKit
set_option linter.unusedVariables false
set_option linter.unusedSimpArgs false

/-- strings, an offset, an error are handed back -/
def RsR (r : List Str × Int × Int) (w : World) (e : Ending) (w' : World) : Prop := ∃ v, e = .returned (.tuple #[v, .int .i64 r.2.1, .int .i64 r.2.2]) ∧ Grows w w' ∧ IsS w' v r.1
theorem RsR.err {r : List Str × Int × Int} {w w' : World} {f : Int} (h : r = ([], 0, f)) (hb : Grows w w') : RsR r w (.returned (.tuple #[.slice none 0 0, .int .i64 0, .int .i64 f])) w' := by
  subst h
  exact ⟨_, rfl, hb, Reads.nil_ _ 0⟩
theorem okF_true {b : List UInt8} {off n : Int} (h : okF b.length off n = true) : ∃ o N : Nat, off = (o : Int) ∧ n = (N : Int) ∧ o ≤ b.length ∧ N ≤ 65536 ∧ ¬ badF b off n := by
  unfold okF at h
  simp only [decide_eq_true_eq] at h
  refine ⟨off.toNat, n.toNat, by omega, by omega, by omega, by omega, ?_⟩
  unfold badF
  omega
theorem okF_false {b : List UInt8} {off n : Int} (h : okF b.length off n = false) : badF b off n := by
  unfold okF at h
  simp only [decide_eq_false_iff_not] at h
  unfold badF
  omega
theorem fcDec_bad {b : List UInt8} {off n : Int} (h : badF b off n) : fcDec b off n = ([], 0, 1) := by unfold fcDec; rw [if_pos h]
theorem fcDec_ok {b : List UInt8} {off : Int} {N : Nat} (h : ¬ badF b off (N : Int)) : fcDec b off (N : Int) = rdFs b N [] off := by unfold fcDec; rw [if_neg h, Int.toNat_natCast]
set_option maxRecDepth 8000 in
set_option maxHeartbeats 4000000 in
theorem fdecode_any (A : Option Addr) (c : Nat) (b : List UInt8) (off n : Int) (w : World) (hb : IsBytes w (.slice A b.length c) b) (hlc : b.length ≤ c) (hl : b.length ≤ 1000000000) :
    Calls Try.prog 16 #[.slice A b.length c, .int .i64 off, .int .i64 n] w (RsR (fcDec b off n) w) := by
  have hmf : ∀ (fn : Fn) (first cap : Array Value) (w : World), (Instr.makeFunc fn first cap).run Try.prog w = .ok (.func fn first cap) w := fun _ _ _ _ => rfl
  have HVA := hidden (validArguments_any A b.length c off n w (by omega))
  cases hok : okF b.length off n
  · have HE := hidden (fcDec_bad (okF_false hok))
    rw [hok] at HVA
    clear hb hok
    go_enter Try.func16, Try.ntmps16
    go_wp2_with fail
    refine HVA.out.mono ?_
    rintro e w1 ⟨rfl, rfl⟩
    go_wp2_with fail
    go_ret3
    exact RsR.err HE.out (Below.refl _ _)
  · rw [hok] at HVA
    obtain ⟨o, N, rfl, rfl, ho, hN, hbad⟩ := okF_true hok
    have HE := hidden (fcDec_ok hbad)
    have HV := hidden hb
    have HLC := hidden hlc
    have HB0 := hidden (show Grows w ((w.alloc (.cells #[] 9)).alloc (.cells #[.slice (some ⟨w.heap.size, 0, none⟩) 0 0] 22)) from ((Below.refl _ _).alloc (Nat.le_refl _) _).alloc (by simp) _)
    have HST := hidden (show DecSt w (w.heap.size + 1) [] ((w.alloc (.cells #[] 9)).alloc (.cells #[.slice (some ⟨w.heap.size, 0, none⟩) 0 0] 22)) from
      ⟨HB0.out, by omega, _, Row.at_ (w.alloc (.cells #[] 9)) 22 #[.slice (some ⟨w.heap.size, 0, none⟩) 0 0] [.slice (some ⟨w.heap.size, 0, none⟩) 0 0] rfl _ (by simp), own_growS (own_emptyS w (Nat.le_refl _)) (growA _)⟩)
    have HVI := hidden (fun W (h : DecSt w (w.heap.size + 1) [] W) => visit_any 26 (fun _ _ => rfl) (.pointer (some ⟨w.heap.size + 1, 0, none⟩)) (DecSt w (w.heap.size + 1)) w W A c b o N HV.out HLC.out hl ho hN h (fun _ _ h => h.gr) (fun _ _ _ h hg => h.keep hg) (fun ws s W h hw => dec_lit_any w _ ws s W h hw))
    obtain ⟨R, hR⟩ : ∃ R, R = rdFs b N [] o := ⟨_, rfl⟩
    rw [← hR] at HE HVI
    rw [HE.out]
    have HRE := hidden (show R.2.2 ≠ 0 → R.1 = [] ∧ R.2.1 = 0 by rw [hR]; exact rdFs_err N [] o)
    clear hb hok hbad hR HE
    go_enter Try.func16, Try.ntmps16
    go_wp2_with fail
    refine HVA.out.mono ?_
    rintro e w1 ⟨rfl, rfl⟩
    go_wp2_with fail
    refine (HVI.out _ HST.out).mono ?_
    rintro e w3 ⟨rfl, g3, hst3⟩
    have HG3 := hidden g3
    have HST3 := hidden hst3
    clear hmf g3 hst3
    obtain ⟨ws, q, f⟩ := R
    simp only [] at HST3
    by_cases hf : f = 0
    · obtain ⟨v, hr, hown⟩ := (HST3.out hf).var
      subst hf
      have hc := hr.cell 0
      simp only [List.getElem?_cons_zero] at hc
      have HS := hidden (Reads.of_own hown)
      clear hr hown
      go_wp2_with fail
      go_ret3
      exact ⟨_, rfl, HG3.out, HS.out⟩
    · have hne : (f != 0) = true := by simpa using hf
      obtain ⟨h1, h2⟩ := HRE.out hf
      simp only [] at h1 h2
      subst h1 h2
      go_wp2_with fail
      go_ret3
      exact RsR.err rfl HG3.out
def AtR (r : Str × Int) (w : World) (e : Ending) (w' : World) : Prop := e = .returned (.tuple #[.string (strOf r.1), .int .i64 r.2]) ∧ Grows w w'
theorem fcAt_bad {b : List UInt8} {off n i : Int} (h : badF b off n ∨ i < 0 ∨ n ≤ i) : fcAt b off n i = ([], 1) := by unfold fcAt; rw [if_pos h]
theorem fcAt_ok {b : List UInt8} {off n : Int} {I : Nat} (h : ¬ badF b off n) (hI : (I : Int) < n) : fcAt b off n (I : Int) = if (rdFs b (I + 1) [] off).2.2 ≠ 0 then ([], (rdFs b (I + 1) [] off).2.2) else ((rdFs b (I + 1) [] off).1.getD I [], 0) := by
  unfold fcAt
  rw [if_neg (by intro h1; rcases h1 with h1 | h1; exact h h1; omega), Int.toNat_natCast]
theorem rdFs_len {b : List UInt8} {n o : Nat} (ho : o ≤ b.length) (h : (rdFs b n [] o).2.2 = 0) : (rdFs b n [] o).1.length = n := by
  obtain ⟨k, _, _, h3, _⟩ := rdFs_acc n [] o ho (by simp) h
  rw [h3]; simp
set_option maxRecDepth 8000 in
set_option maxHeartbeats 4000000 in
theorem fat_any (A : Option Addr) (c : Nat) (b : List UInt8) (off n i : Int) (w : World) (hb : IsBytes w (.slice A b.length c) b) (hlc : b.length ≤ c) (hl : b.length ≤ 1000000000) :
    Calls Try.prog 19 #[.slice A b.length c, .int .i64 off, .int .i64 n, .int .i64 i] w (AtR (fcAt b off n i) w) := by
  have hmf : ∀ (fn : Fn) (first cap : Array Value) (w : World), (Instr.makeFunc fn first cap).run Try.prog w = .ok (.func fn first cap) w := fun _ _ _ _ => rfl
  have HVA := hidden (validArguments_any A b.length c off n w (by omega))
  cases hok : okF b.length off n
  · have HE := hidden (fcAt_bad (i := i) (.inl (okF_false hok)))
    rw [hok] at HVA
    clear hb hok
    go_enter Try.func19, Try.ntmps19
    go_wp2_with fail
    refine HVA.out.mono ?_
    rintro e w1 ⟨rfl, rfl⟩
    go_wp2_with fail
    go_ret2
    exact ⟨by rw [HE.out]; rfl, Below.refl _ _⟩
  · rw [hok] at HVA
    obtain ⟨o, N, rfl, rfl, ho, hN, hbad⟩ := okF_true hok
    by_cases hi0 : i < 0
    · have HE := hidden (fcAt_bad (b := b) (off := (o : Int)) (n := (N : Int)) (.inr (.inl hi0)))
      have hd : decide (i < 0) = true := by simpa using hi0
      clear hb hok hbad
      go_enter Try.func19, Try.ntmps19
      go_wp2_with fail
      refine HVA.out.mono ?_
      rintro e w1 ⟨rfl, rfl⟩
      go_wp2_with fail
      go_ret2
      exact ⟨by rw [HE.out]; rfl, Below.refl _ _⟩
    · obtain ⟨I, rfl⟩ := Int.eq_ofNat_of_zero_le (show 0 ≤ i by omega)
      have hd : decide ((I : Int) < 0) = false := by simp
      clear hi0
      by_cases hiN : N ≤ I
      · have HE := hidden (fcAt_bad (b := b) (off := (o : Int)) (n := (N : Int)) (i := (I : Int)) (.inr (.inr (by omega))))
        have hd2 : decide (N ≤ I) = true := by simpa using hiN
        clear hb hok hbad
        go_enter Try.func19, Try.ntmps19
        go_wp2_with fail
        refine HVA.out.mono ?_
        rintro e w1 ⟨rfl, rfl⟩
        go_wp2_with fail
        go_ret2
        exact ⟨by rw [HE.out]; rfl, Below.refl _ _⟩
      · have HE := hidden (fcAt_ok (I := I) hbad (by omega))
        have hd2 : decide (N ≤ I) = false := by simpa using hiN
        have HV := hidden hb
        have HLC := hidden hlc
        have HB0 := hidden (show Grows w (w.alloc (.cells #[.string ⟨#[]⟩] 9)) from growA _)
        have HST := hidden (show AtSt w w.heap.size [] (w.alloc (.cells #[.string ⟨#[]⟩] 9)) from ⟨HB0.out, Nat.le_refl _, Row.new w 9 #[.string ⟨#[]⟩] [.string (strOf [])] rfl⟩)
        obtain ⟨M, hM⟩ : ∃ M, M = I + 1 := ⟨_, rfl⟩
        have hMi : (I : Int) + 1 = (M : Int) := by omega
        have HVI := hidden (fun W (h : AtSt w w.heap.size [] W) => visit_any 29 (fun _ _ => rfl) (.pointer (some ⟨w.heap.size, 0, none⟩)) (AtSt w w.heap.size) w W A c b o M HV.out HLC.out hl ho (by omega) h (fun _ _ h => h.gr) (fun _ _ _ h hg => h.keep hg) (fun ws s W h hw => at_lit_any w _ ws s W h))
        rw [← hM] at HE
        have HRE := hidden (show (rdFs b M [] o).2.2 = 0 → (rdFs b M [] o).1.length = I + 1 from fun h => by rw [rdFs_len ho h, hM])
        obtain ⟨R, hR⟩ : ∃ R, R = rdFs b M [] o := ⟨_, rfl⟩
        rw [← hR] at HE HVI HRE
        generalize fcAt b (o : Int) (N : Int) (I : Int) = RA at *
        have hMl : M ≤ 65536 := by omega
        clear hb hok hbad hR hM hiN
        go_enter Try.func19, Try.ntmps19
        go_wp2_with fail
        refine HVA.out.mono ?_
        rintro e w1 ⟨rfl, rfl⟩
        go_wp2_with fail
        refine (HVI.out _ HST.out).mono ?_
        rintro e w3 ⟨rfl, g3, hst3⟩
        have HG3 := hidden g3
        have HST3 := hidden hst3
        clear hmf g3 hst3
        obtain ⟨ws, q, f⟩ := R
        simp only [] at HST3 HRE HE
        by_cases hf : f = 0
        · have hr := (HST3.out hf).var
          have HLN := hidden (HRE.out hf)
          subst hf
          have HE9 := hidden (show RA = (ws.getD I [], 0) by rw [HE.out, if_neg (by simp)])
          rw [HLN.out, Nat.add_sub_cancel] at hr
          have hc := hr.cell 0
          simp only [List.getElem?_cons_zero] at hc
          clear hr HE
          generalize ws.getD I [] = s at *
          go_wp2_with fail
          go_ret2
          exact ⟨by rw [HE9.out]; rfl, HG3.out⟩
        · have hne : (f != 0) = true := by simpa using hf
          have HE9 := hidden (show RA = ([], f) by rw [HE.out, if_pos hf])
          clear hf HE
          go_wp2_with fail
          go_ret2
          exact ⟨by rw [HE9.out]; rfl, HG3.out⟩
end Go.Proofs.Ytcpdgkjelghlnaa
