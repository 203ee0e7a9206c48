/-
  readString of package frontcode. Nothing that was there is changed.
-/
import Derived.Test.YtcpdgkjelghlnaaFc4
import Derived.Test.YtcpdgkjelghlnaaDec
namespace Go.Proofs.Ytcpdgkjelghlnaa
open Go.RowKit
set_option linter.unusedVariables false
set_option linter.unusedSimpArgs false

def RsF (r : Str × Int × Int) (w : World) (e : Ending) (w' : World) : Prop := e = .returned (.tuple #[.string (strOf r.1), .int .i64 r.2.1, .int .i64 r.2.2]) ∧ Grows w w'
theorem cut_run (A : Option Addr) (c : Nat) (b : List UInt8) {O Q : Nat} (hOQ : O ≤ Q) (hQb : Q ≤ b.length) (hlc : b.length ≤ c) (hl : b.length ≤ 1000000000) :
    ∃ AO, (∀ w', IsBytes w' (.slice A b.length c) b → IsBytes w' (.slice AO (Q - O) (c - O)) (cutF b O (Q - O))) ∧
      ∀ w', (Instr.sliceAt 26 (.slice A b.length c) (some (.int .i64 (O : Int))) (some (.int .i64 (Q : Int))) none).run Try.prog w' = .ok (.slice AO (Q - O) (c - O)) w' := by
  refine ⟨if c = O then A else Option.map (fun x => x.add O) A, fun w' hv => slice_reads2 hv (o := O) (p := Q) hOQ hQb hlc, fun w' => ?_⟩
  have ht : Try.prog.underlying 26 = some (.slice (Try.prog.elem 26)) := by kernel_rfl
  have hs1 : (sizeOf (Try.prog.elem 26)).run Try.prog w' = .ok 1 w' := by
    have hi : (Try.prog.info? (Try.prog.elem 26)).map (·.size) = some 1 := by kernel_rfl
    cases h : Try.prog.info? (Try.prog.elem 26) with
    | none => rw [h] at hi; cases hi
    | some y =>
      rw [h] at hi
      have h1 : y.size = 1 := by simpa using hi
      simp [sizeOf, typeInfo, h, h1]
  rw [run_sliceAt_slice (P := Try.prog) (w := w') 26 (.slice A b.length c) (some (.int .i64 (O : Int))) (some (.int .i64 (Q : Int))) none ht]
  have h := run_slice_lh (P := Try.prog) (w := w') 26 A b.length c ht .i64 .i64 (O : Int) (Q : Int) (by omega) (by omega) (by omega)
  rw [h, hs1]
  simp only [Result.andThen_ok, sliced, Int.toNat_natCast, Nat.mul_one]
def cutS (l : List Str) (k n : Nat) : List Str := l.take k ++ List.replicate (n - k) []
theorem asm_cut {p b : List UInt8} {sp : ByteArray} {n q m : Nat} {A : Option Addr} {c2 N2 : Nat} (hsp : sp = strOf p) (hn : n ≤ p.length) (hp : p.length ≤ 1000000000) (hm : m ≤ 1000000000) (hq : q + m ≤ b.length) (hN : N2 = m) {W : World} (hv : IsBytes W (.slice A N2 c2) (cutF b q m)) :
    Calls Try.prog 35 #[.string (sp.extract 0 n), .slice A N2 c2] W fun e w' => e = .returned (.string (strOf (p.take n ++ cutF b q m))) ∧ Grows W w' := by
  subst hN hsp
  have hl := cutF_length hq
  rw [strOf_extract, List.drop_zero, Nat.sub_zero]
  have h := assemble_any (p.take n) (cutF b q N2) A c2 W (by rw [hl]; exact hv) (by rw [List.length_take]; omega) (by omega)
  rw [hl] at h
  exact h
set_option maxRecDepth 8000 in
set_option maxHeartbeats 8000000 in
theorem readString_any (A : Option Addr) (c : Nat) (b : List UInt8) (q : Nat) (prev : Str) (rs : Bool) (w : World) (hb : IsBytes w (.slice A b.length c) b) (hlc : b.length ≤ c) (hl : b.length ≤ 1000000000) (hq : q ≤ b.length) (hpl : prev.length ≤ 1000000000) :
    Calls Try.prog 31 #[.slice A b.length c, .int .i64 (q : Int), .string (strOf prev), .bool rs] w (RsF (rdF b q (if rs then [] else prev)) w) := by
  have HV := hidden hb
  have HDC := hidden (fun (o : Nat) (W : World) (ho : o ≤ b.length) (hW : Grows w W) => decode_any (.slice A b.length c) b o W (hb.grow hW) (by unfold maxLen; omega) (by omega) (by omega))
  obtain ⟨p, hp⟩ : ∃ p, p = if rs then [] else prev := ⟨_, rfl⟩
  rw [← hp]
  have hpl2 : p.length ≤ 1000000000 := by rw [hp]; cases rs <;> simp <;> omega
  have HQ := hidden hq
  have HLC := hidden hlc
  clear hb hq hlc
  cases rs
  case' false =>
    replace hp : p = prev := by simpa using hp
    subst hp
    go_enter Try.func31, Try.ntmps31
    go_wp2_with fail
    generalize hsp : strOf p = sp at *
    have HS0 := hidden (rfl : (ByteArray.mk #[]) = ByteArray.mk #[])
  case' true =>
    replace hp : p = [] := by simpa using hp
    go_enter Try.func31, Try.ntmps31
    go_wp2_with fail
    generalize hsp : (ByteArray.mk #[]) = sp at *
    have HS0 := hidden hsp
    replace hsp : strOf p = sp := by rw [hp, ← hsp]; rfl
    clear hp hpl
  all_goals
    have HSP := hidden hsp.symm
    have hsz : sp.size = p.length := by rw [← hsp]; rfl
    have HD1 := hidden (HDC.out q w HQ.out (Below.refl _ _))
    clear hsp
    by_cases h1 : (dcd b q).2.2 = 0
    · obtain ⟨n, k, hd, hk, hk1, _, hn64⟩ := dcd_acc11 HQ.out h1
      rw [hd] at HD1
      obtain ⟨q2, hq2⟩ : ∃ q2, q2 = q + k := ⟨_, rfl⟩
      rw [← hq2] at hd HD1 hk
      have HN64 := hidden hn64
      refine HD1.out.mono ?_
      rintro e w1 ⟨rfl, rfl⟩
      clear HD1 hk1 hq2 h1
      by_cases h2 : n ≤ p.length
      · have HE0 := hidden (rdF_g hd h2)
        have hd2 : decide (p.length < n) = false := by simp; omega
        have HK := hidden hk
        have HD2 := hidden (HDC.out q2 w hk (Below.refl _ _))
        clear hd hk
        go_wp2_with fail
        by_cases h3 : (dcd b q2).2.2 = 0
        · obtain ⟨m, k2, hd, hk, hk1, _, hm64⟩ := dcd_acc11 HK.out h3
          rw [hd] at HD2
          obtain ⟨q3, hq3⟩ : ∃ q3, q3 = q2 + k2 := ⟨_, rfl⟩
          rw [← hq3] at hd HD2 hk
          refine HD2.out.mono ?_
          rintro e w2 ⟨rfl, rfl⟩
          obtain ⟨R, hR⟩ : ∃ R : Nat, R = b.length - q3 := ⟨_, rfl⟩
          have hR1 : (b.length : Int) - (q3 : Int) = (R : Int) := by omega
          have hRl : R ≤ 1000000000 := by omega
          clear HD2 hk1 hq3 h3
          by_cases h4 : q3 + m ≤ b.length
          · have HE1 := hidden (HE0.out.trans (rdG_h (n := n) (prev := p) hd h4))
            obtain ⟨E, hE⟩ : ∃ E, E = q3 + m := ⟨_, rfl⟩
            have hPE : (q3 : Int) + (m : Int) = (E : Int) := by omega
            have hPL : q3 ≤ E := by omega
            have hEl : E ≤ b.length := by omega
            have hEN : E - q3 = m := by omega
            have hml : m ≤ 1000000000 := by omega
            have hd3 : decide (R < m) = false := by simp; omega
            obtain ⟨AO, hAO, hsa⟩ := cut_run A c b (O := q3) (Q := E) hPL hEl HLC.out hl
            rw [hEN] at hAO
            obtain ⟨S, hS⟩ : ∃ S, S = p.take n ++ cutF b q3 m := ⟨_, rfl⟩
            have hSl : S.length ≤ 2000000000 := by
              rw [hS, List.length_append, cutF_length h4, List.length_take]; omega
            have HAS := hidden (fun (W : World) (hW : Grows w W) => asm_cut (A := AO) (c2 := c - q3) (N2 := E - q3) HSP.out h2 hpl2 hml h4 hEN (W := W) (by rw [hEN]; exact hAO W (HV.out.grow hW)))
            rw [← hS] at HAS
            obtain ⟨C, hC⟩ : ∃ C, C = cp p S := ⟨_, rfl⟩
            have hCl : C ≤ 1000000000 := by rw [hC]; have := (cp_le p S).1; omega
            have HCP := hidden (fun W => show Calls Try.prog 10 #[.string sp, .string (strOf S)] W (fun e w' => e = .returned (.int .i64 (C : Int)) ∧ Grows W w') from by rw [hC, HSP.out]; exact cp_grow p S W (by omega) (by omega))
            have HEE := hidden (show rdF b q p = if n < C then ([], 0, 4) else (S, (E : Int), 0) by
              rw [HE1.out]
              unfold rdH
              rw [← hS, ← hC, ← hE])
            have HS := hidden hS
            generalize hss : strOf S = ss at *
            have HSS := hidden hss
            have HSL := hidden hSl
            have HEN := hidden hEN
            clear hd hk hR hE hS hC hAO HE1 HE0 hss hSl h4 hEN
            go_wp2_with fail
            refine wp_region_loose (tabRs [(7, ConstV (.string ss))]) (by kernel_rfl) (by kernel_rfl) (tabRs_cons ConstV.lasts tabRs_nil) ?_
            iterate 7 ((with_reducible refine loose_one (v := ?_) (a' := ?_) ?_ ?_ (fun w' hC' hG' => ?_) ?_ ?_); rotate_left 2; (focus rfl); (focus rfl); (focus (clear hC' hG'; go_simp; rfl)); (focus (go_simp; rfl)))
            refine loose_call (R := ConstV (.string ss)) (f := 35) (args := #[.string (sp.extract 0 n), .slice AO (E - q3) (c - q3)]) (by rfl) (by rfl) (fun _ => by go_simp) (fun w' hC' hG' => const_loose (HAS.out w' hC')) ?_
            rintro _ ⟨_, _, rfl⟩
            refine ⟨?_, ?_, ?_⟩
            rotate_left
            · go_simp
              rfl
            iterate 1 ((with_reducible refine loose_one (v := ?_) (a' := ?_) ?_ ?_ (fun w' hC' hG' => ?_) ?_ ?_); rotate_left 2; (focus rfl); (focus rfl); (focus (clear hC' hG'; go_simp; rfl)); (focus (go_simp; rfl)))
            refine loose_done (fun w12 hC' hG' => ?_)
            clear hG' hsa
            have HG := hidden (show Grows w w12 from hC')
            clear hC'
            go_wp2_with fail
            refine (HCP.out w12).mono ?_
            rintro e w13 ⟨rfl, g13⟩
            have HG3 := hidden (HG.out.of_below g13)
            clear g13
            by_cases h5 : n < C
            · have hd5 : decide (n < C) = true := by simpa using h5
              have HE9 := hidden (show rdF b q p = ([], 0, 4) by rw [HEE.out, if_pos h5])
              clear h5
              go_wp2_with fail
              go_ret3
              exact ⟨by rw [HE9.out]; first | rfl | (rw [← HS0.out]; rfl), HG3.out⟩
            · have hd5 : decide (n < C) = false := by simpa using h5
              have HE9 := hidden (show rdF b q p = (S, (E : Int), 0) by rw [HEE.out, if_neg h5])
              clear h5
              go_wp2_with fail
              go_ret3
              exact ⟨by rw [HE9.out, ← HSS.out]; rfl, HG3.out⟩
          · have HE1 := hidden (HE0.out.trans (rdG_s (n := n) (prev := p) (by rw [hd]) (by rw [hd]; simp only []; omega)))
            have hd3 : decide (R < m) = true := by simp; omega
            have HHM := hidden hm64
            clear hd hk hR HE0
            go_wp2_with fail
            go_ret3
            exact ⟨by rw [HE1.out]; first | rfl | (rw [← HS0.out]; rfl), Below.refl _ _⟩
        · have HE1 := hidden (HE0.out.trans (rdG_e (n := n) (prev := p) h3))
          have hne : ((dcd b q2).2.2 != 0) = true := by simpa using h3
          generalize dcd b q2 = r at *
          obtain ⟨r1, r2, r3⟩ := r
          simp only [] at hne HD2 HE1
          clear h3
          refine HD2.out.mono ?_
          rintro e w2 ⟨rfl, rfl⟩
          go_wp2_with fail
          go_ret3
          exact ⟨by rw [HE1.out]; first | rfl | (rw [← HS0.out]; rfl), Below.refl _ _⟩
      · have HE1 := hidden (rdF_p (b := b) (p := q) (prev := p) (by rw [hd]) (by rw [hd]; simp only []; omega))
        have hd2 : decide (p.length < n) = true := by simp; omega
        clear hd hk
        go_wp2_with fail
        go_ret3
        exact ⟨by rw [HE1.out]; first | rfl | (rw [← HS0.out]; rfl), Below.refl _ _⟩
    · have HE1 := hidden (rdF_e (prev := p) h1)
      have hne : ((dcd b q).2.2 != 0) = true := by simpa using h1
      generalize dcd b q = r at *
      obtain ⟨r1, r2, r3⟩ := r
      simp only [] at hne HD1 HE1
      clear h1
      refine HD1.out.mono ?_
      rintro e w2 ⟨rfl, rfl⟩
      go_wp2_with fail
      go_ret3
      exact ⟨by rw [HE1.out]; first | rfl | (rw [← HS0.out]; rfl), Below.refl _ _⟩
end Go.Proofs.Ytcpdgkjelghlnaa
