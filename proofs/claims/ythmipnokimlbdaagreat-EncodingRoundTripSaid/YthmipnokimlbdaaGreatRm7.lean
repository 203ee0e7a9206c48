/-
  Shaken: what the claims of this seat need of this text. No condition.
-/
import Derived.Test.YthmipnokimlbdaaGreatM14
import Derived.Test.YthmipnokimlbdaaGreatM12
import Derived.WalkMore
import Derived.Deep.LoopGhost
namespace Go.Proofs.YthmipnokimlbdaaGreat
set_option maxRecDepth 20000
open Go.RowKit
set_option linter.unusedVariables false
set_option linter.unusedSimpArgs false
def LDcRel (w : World) (l : List UInt8) (n : Nat) (R : List Rn × Int × Int) (p e out last left i : Value) (wr : World) : Prop :=
  ∃ (k : Nat) (q : Int) (o : List Rn) (la le : Int), k ≤ n ∧ i = .int .i64 (k : Int) ∧ p = .int .i64 q ∧ (0 ≤ q ∧ q ≤ (l.length : Int)) ∧ e = .int .i64 0 ∧ wr.ownsRow w.heap.size 125 2 out o.length (rcells o) ∧ o.length = k ∧ last = .int .i64 la ∧ in64 la ∧ left = .int .u64 le ∧ (0 ≤ le ∧ le ≤ 65536) ∧
    finR o (decRs l (n - k) (decide (k = 0)) la le q) = R ∧ Below w.heap.size w wr
set_option maxRecDepth 100000 in
set_option maxHeartbeats 4000000 in
theorem ldecode_any (v : Value) (l : List UInt8) (off : Int) (w : World) (hv : IsBytes w v l) (hlm : l.length ≤ 1000000000000000) (h63 : -9223372036854775808 ≤ off) (h64 : off ≤ 9223372036854775807) :
    Calls Tryz.prog 145 #[v, .int .i64 off] w (RDc (dcR l off) w) := by
  have hl : l.length ≤ maxLen := by unfold maxLen; omega
  have HV := hidden hv
  have HD := hidden (fun (p : Int) (w' : World) (h : Grows w w') (h1 : -9223372036854775808 ≤ p) (h2 : p ≤ 9223372036854775807) => decode_any v l p w' (hv.grow h) hl h1 h2)
  obtain ⟨⟨r1, r2⟩, r3, r4⟩ := dcd_rng l off
  obtain ⟨A, c, rfl, _⟩ := hv
  have H0 := hidden (HD.out off w (Below.refl _ _) h63 h64)
  by_cases e1 : (dcd l off).2.2 = 0
  · by_cases e2 : 65536 < (dcd l off).1
    · have HE := hidden (show dcR l off = ([], 0, 6) by unfold dcR; rw [if_neg (by simpa using e1), if_pos e2])
      rw [e1] at H0
      generalize (dcd l off).1 = d1 at *
      generalize (dcd l off).2.1 = d2 at *
      have hd : decide ((65536 : Int) < d1) = true := by simpa using e2
      clear e1
      go_enter Tryz.func145, Tryz.ntmps145
      go_wp2
      go_step3
      go_wp2_with fail
      refine H0.out.mono ?_
      rintro e w2 ⟨rfl, rfl⟩
      go_wp2_with fail
      try rw [Exit.noGoto_ret]
      go_ret3
      exact ⟨_, by rw [HE.out]; rfl, Below.refl _ _, by rw [HE.out]; exact ReadsR.nil_ _ 0⟩
    · obtain ⟨n, hn⟩ := Int.eq_ofNat_of_zero_le r1
      have HE := hidden (show dcR l off = decRs l n true 0 65536 (dcd l off).2.1 by unfold dcR; rw [if_neg (by simpa using e1), if_neg e2, hn]; rfl)
      rw [e1, hn] at H0
      rw [hn] at e2 r2
      generalize (dcd l off).2.1 = d2 at *
      have hd : decide ((65536 : Int) < (n : Int)) = false := by simpa using e2
      have hn6 : n ≤ 65536 := by omega
      clear e1 hn
      go_enter Tryz.func145, Tryz.ntmps145
      go_wp2
      go_step3
      go_wp2_with fail
      refine H0.out.mono ?_
      rintro e w2 ⟨rfl, rfl⟩
      go_wp2_with fail
      go_step3
      go_wp2_with fail
      go_loopw [8, 9, 10, 13, 14, 31] (fun p e out last left i wr => LDcRel w l n (dcR l off) p e out last left i wr) (fun _ _ _ _ _ i _ => n - (intOf i).toNat)
      case atStart =>
        refine ⟨0, d2, [], 0, 65536, by omega, rfl, rfl, ⟨r3, r4⟩, rfl, own_empty w _ _ _ (Nat.le_refl _), rfl, rfl, by unfold in64; omega, rfl, by omega, ?_, runGrow1 _⟩
        rw [HE.out, Nat.sub_zero]
        exact finR_nil _ (decRs_err l _ _ _ _ _)
      case round =>
        obtain ⟨k, q, o, la, le, hk, rfl, rfl, hq, rfl, hown, hol, rfl, hla, rfl, hle, hfin, hb⟩ := hrel
        have HB := hidden hb
        have HOW := hidden hown
        have HOL := hidden hol
        clear hown hb
        by_cases hlt : k < n
        · obtain ⟨m, hm⟩ : ∃ m, n - k = m + 1 := ⟨n - k - 1, by omega⟩
          have hm2 : n - (k + 1) = m := by omega
          rw [hm, decRs] at hfin
          have HM2 := hidden hm2
          obtain ⟨⟨s1, s2⟩, s3, s4⟩ := dcd_rng l q
          have H1 := hidden (HD.out q wr HB.out (by omega) (by omega))
          have hsz := HB.out.size
          clear hm hm2
          by_cases a1 : (dcd l q).2.2 = 0
          · rw [if_neg (by simpa using a1)] at hfin
            rw [a1] at H1
            by_cases a2 : (dcd l q).1 = 0 ∧ decide (k = 0) = false
            · rw [if_pos a2, finR_err _ _ (by decide)] at hfin
              have HF := hidden hfin.symm
              obtain ⟨a3, a4⟩ := a2
              rw [a3] at H1
              have hk0 : ¬ k = 0 := by simpa using a4
              have dk : decide ((0 : Int) < (k : Int)) = true := by simp; omega
              have dk' : decide (0 < k) = true := by simp; omega
              generalize (dcd l q).2.1 = q2 at *
              clear hfin a1 a3 a4
              go_wp2_with fail
              refine H1.out.mono ?_
              rintro e w2 ⟨rfl, rfl⟩
              go_wp2_with fail
              try rw [Exit.noGoto_ret]
              go_ret3
              exact ⟨_, by rw [HF.out]; rfl, HB.out, by rw [HF.out]; exact ReadsR.nil_ _ 0⟩
            · rw [if_neg a2] at hfin
              have HA2 := hidden (show ((dcd l q).1 == 0) = false ∨ (((dcd l q).1 == 0) = true ∧ k = 0) by
                by_cases h : (dcd l q).1 = 0
                · refine .inr ⟨by simpa using h, ?_⟩
                  by_cases h0 : k = 0
                  · exact h0
                  · exact absurd ⟨h, by simpa using h0⟩ a2
                · exact .inl (by simpa using h))
              have H2 := hidden (HD.out (dcd l q).2.1 wr HB.out (by omega) (by omega))
              obtain ⟨⟨t1, t2⟩, t3, t4⟩ := dcd_rng l (dcd l q).2.1
              have HUZ := hidden (fun W => unzigzag_any (dcd l q).1 W s1 s2)
              generalize hd1 : (dcd l q).1 = d1 at *
              generalize hd2 : (dcd l q).2.1 = d2 at *
              by_cases a5 : (dcd l d2).2.2 = 0
              · rw [if_neg (by simpa using a5)] at hfin
                rw [a5] at H2
                by_cases a6 : (dcd l d2).1 = 0 ∨ le < (dcd l d2).1
                · rw [if_pos a6, finR_err _ _ (by decide)] at hfin
                  have HF := hidden hfin.symm
                  have HA6 := hidden (show ((dcd l d2).1 == 0) = true ∨ (((dcd l d2).1 == 0) = false ∧ decide (le < (dcd l d2).1) = true) by
                    by_cases h : (dcd l d2).1 = 0
                    · exact .inl (by simpa using h)
                    · refine .inr ⟨by simpa using h, ?_⟩
                      rcases a6 with h2 | h2
                      · exact absurd h2 h
                      · simpa using h2)
                  generalize (dcd l d2).1 = c1 at *
                  generalize (dcd l d2).2.1 = c2 at *
                  clear hfin a1 a2 a5 a6 hd1 hd2
                  rcases HA2.out with g1 | ⟨g1, g2⟩ <;> rcases HA6.out with g3 | ⟨g3, g4⟩
                  all_goals (try subst g2)
                  all_goals go_wp2_with fail
                  all_goals refine H1.out.mono ?_
                  all_goals rintro e w2 ⟨rfl, rfl⟩
                  all_goals go_wp2_with fail
                  all_goals refine H2.out.mono ?_
                  all_goals rintro e w2 ⟨rfl, rfl⟩
                  all_goals go_wp2_with fail
                  all_goals try rw [Exit.noGoto_ret]
                  all_goals go_ret3
                  all_goals exact ⟨_, by rw [HF.out]; rfl, HB.out, by rw [HF.out]; exact ReadsR.nil_ _ 0⟩
                · rw [if_neg a6, finR_cons] at hfin
                  obtain ⟨cn, hcn⟩ := Int.eq_ofNat_of_zero_le t1
                  have HFN := hidden hfin
                  generalize (dcd l d2).1 = c1 at *
                  generalize (dcd l d2).2.1 = c2 at *
                  subst hcn
                  have g3 : ((cn : Int) == 0) = false := by rw [beq_eq_false_iff_ne]; omega
                  have g4 : decide (le < (cn : Int)) = false := by simp; omega
                  have hc16 : cn ≤ 65536 := by omega
                  have HWU := hidden (show IntKind.u64.wrap (le - (cn : Int)) = le - (cn : Int) by rw [IntKind.wrap_u64]; omega)
                  have hwu2 : IntKind.u64.wrap (le - (cn : Int)) = le - (cn : Int) := HWU.out
                  have HLE := hidden (show 0 ≤ le - (cn : Int) ∧ le - (cn : Int) ≤ 65536 by omega)
                  have HLN := hidden (show o.length + 1 ≤ 8796093022208 by omega)
                  clear hfin a1 a2 a5 a6 hd1 hd2
                  rcases HA2.out with g1 | ⟨g1, g2⟩
                  all_goals (try subst g2)
                  all_goals go_wp2_with fail
                  all_goals refine H1.out.mono ?_
                  all_goals rintro e w2 ⟨rfl, rfl⟩
                  all_goals go_wp2_with fail
                  all_goals refine H2.out.mono ?_
                  all_goals rintro e w2 ⟨rfl, rfl⟩
                  all_goals go_wp2_with (first | (go_at_call 198; refine (HUZ.out _).mono ?_; rintro e w3 ⟨rfl, rfl⟩) | (at_builtin; go_loud (refine wpList_append_r rfl _ _ rfl _ o (by rfl) w.heap.size HOW.out _ HB.out hsz _ _ (by rfl) HLN.out ?_); intro v' w3 hown3 hb3))
                  · refine ⟨⟨k + 1, c2, o ++ [(wrap64 (la + uz d1), (cn : Int))], wrap64 (la + uz d1), le - (cn : Int), by omega, by go_num, rfl, ⟨t3, t4⟩, rfl, hown3, by rw [List.length_append, HOL.out]; rfl, rfl, wrap_in _, rfl, HLE.out, ?_, hb3⟩, by simp [intOf]; omega⟩
                    rw [HM2.out, ← HFN.out]
                    have e : decide (k + 1 = 0) = false := by simp
                    rw [e]
                  · refine ⟨⟨0 + 1, c2, o ++ [(wrap64 (la + uz d1), (cn : Int))], wrap64 (la + uz d1), le - (cn : Int), by omega, by go_num, rfl, ⟨t3, t4⟩, rfl, hown3, by rw [List.length_append, HOL.out]; rfl, rfl, wrap_in _, rfl, HLE.out, ?_, hb3⟩, by simp [intOf]; omega⟩
                    rw [HM2.out, ← HFN.out]
                    rfl
              · rw [if_pos a5, finR_err _ _ a5] at hfin
                have HF := hidden hfin.symm
                have hne : ((dcd l d2).2.2 != 0) = true := by simpa using a5
                generalize (dcd l d2).2.2 = c3 at *
                generalize (dcd l d2).1 = c1 at *
                generalize (dcd l d2).2.1 = c2 at *
                clear hfin a1 a2 a5 hd1 hd2
                rcases HA2.out with g1 | ⟨g1, g2⟩
                all_goals (try subst g2)
                all_goals go_wp2_with fail
                all_goals refine H1.out.mono ?_
                all_goals rintro e w2 ⟨rfl, rfl⟩
                all_goals go_wp2_with fail
                all_goals refine H2.out.mono ?_
                all_goals rintro e w2 ⟨rfl, rfl⟩
                all_goals go_wp2_with fail
                all_goals try rw [Exit.noGoto_ret]
                all_goals go_ret3
                all_goals exact ⟨_, by rw [HF.out]; rfl, HB.out, by rw [HF.out]; exact ReadsR.nil_ _ 0⟩
          · rw [if_pos a1, finR_err _ _ a1] at hfin
            have HF := hidden hfin.symm
            have hne : ((dcd l q).2.2 != 0) = true := by simpa using a1
            generalize (dcd l q).2.2 = d3 at *
            generalize (dcd l q).1 = d1 at *
            generalize (dcd l q).2.1 = d2 at *
            clear hfin a1
            go_wp2_with fail
            refine H1.out.mono ?_
            rintro e w2 ⟨rfl, rfl⟩
            go_wp2_with fail
            try rw [Exit.noGoto_ret]
            go_ret3
            exact ⟨_, by rw [HF.out]; rfl, HB.out, by rw [HF.out]; exact ReadsR.nil_ _ 0⟩
        · have hke : k = n := by omega
          subst hke
          rw [Nat.sub_self] at hfin
          have HF := hidden (show dcR l off = (o, q, 0) by rw [← hfin]; unfold decRs finR; simp)
          clear hfin
          go_wp2_with fail
          try rw [Exit.noGoto_ret]
          go_ret3
          refine ⟨_, by rw [HF.out]; rfl, HB.out, ?_⟩
          rw [HF.out]
          exact ReadsR.of_own HOW.out
  · have HE := hidden (show dcR l off = ([], 0, (dcd l off).2.2) by unfold dcR; rw [if_pos e1])
    generalize (dcd l off).2.2 = d3 at *
    generalize (dcd l off).1 = d1 at *
    generalize (dcd l off).2.1 = d2 at *
    have hne : (d3 != 0) = true := by simpa using e1
    go_enter Tryz.func145, Tryz.ntmps145
    go_wp2
    go_step3
    go_wp2_with fail
    refine H0.out.mono ?_
    rintro e w2 ⟨rfl, rfl⟩
    go_wp2_with fail
    try rw [Exit.noGoto_ret]
    go_ret3
    exact ⟨_, by rw [HE.out]; rfl, Below.refl _ _, by rw [HE.out]; exact ReadsR.nil_ _ 0⟩
end Go.Proofs.YthmipnokimlbdaaGreat
