/-
  The reference's codes. Nothing that was there is changed.
-/
import Derived.Test.YtgmjoghgmcjebaaM14
import Derived.Test.YtgmjoghgmcjebaaDcR1
import Derived.Test.YtgmjoghgmcjebaaDcRE
import Derived.Test.YtgmjoghgmcjebaaBp5
namespace Go.Proofs.Ytgmjoghgmcjebaa
open Go.RowKit
set_option linter.unusedVariables false
set_option linter.unusedSimpArgs false

/-- codes, an offset, an error are handed back; the offset counts only beside no error -/
def RxR (r : List Nat × Int × Int) (w : World) (e : Ending) (w' : World) : Prop := ∃ v q, e = .returned (.tuple #[v, .int .i64 q, .int .i64 r.2.2]) ∧ Grows w w' ∧ IsW w' v r.1 ∧ (r.2.2 = 0 → q = r.2.1)
theorem RxR.err {r : List Nat × Int × Int} {w w' : World} {f : Int} (h : r = ([], 0, f)) (hb : Grows w w') : RxR r w (.returned (.tuple #[.slice none 0 0, .int .i64 0, .int .i64 f])) w' := by
  subst h
  exact ⟨_, 0, rfl, hb, Reads.nil_ _ 0, fun _ => rfl⟩
def UnpV (l : List Nat) (x : Int) : Value → World → Prop := fun v w => ∃ u, v = .tuple #[u, .int .i64 x] ∧ IsW w u l
theorem UnpV.lasts {l : List Nat} {x : Int} : ∀ v w w', UnpV l x v w → Grows w w' → UnpV l x v w' := fun _ _ _ ⟨u, h1, h2⟩ hg => ⟨u, h1, h2.grow hg⟩
theorem unp_loose {f : FuncId} {args : Array Value} {w : World} {l : List Nat} {x : Int} (h : Calls Try.prog f args w (UnR l x w)) : Calls Try.prog f args w fun e w' => ∃ v, e = .returned v ∧ Grows w w' ∧ UnpV l x v w' :=
  h.mono fun _ _ ⟨v, he, hw, hi⟩ => ⟨_, he, hw, v, rfl, hi⟩
def RC3Rel (w : World) (us : List Nat) (u i : Value) (wr : World) : Prop :=
  ∃ k : Nat, k ≤ us.length ∧ i = .int .i64 (k : Int) ∧ wr.ownsRow w.heap.size 60 1 u k (wcells (us.take k)) ∧ Below w.heap.size w wr
set_option maxRecDepth 20000 in
set_option maxHeartbeats 16000000 in
theorem rcodes_any (A : Option Addr) (c : Nat) (b : List UInt8) (p n k : Nat) (w : World) (hb : IsBytes w (.slice A b.length c) b) (hlc : b.length ≤ c) (hl : b.length ≤ 1000000000) (hp : p ≤ b.length) (hn : n ≤ 65536) (hk : k ≤ 65536) :
    Calls Try.prog 48 #[.slice A b.length c, .int .i64 (p : Int), .int .i64 (n : Int), .int .i64 (k : Int)] w (RxR (rdC b p n k) w) := by
  have HV := hidden hb
  have hm := widW_le (k := k) (by omega)
  by_cases h1 : p = b.length
  · have HE := hidden (rdC_end (n := n) (k := k) (b := b) (p := p) (by omega))
    have hd : ((p : Int) == (b.length : Int)) = true := by simp; omega
    clear hb h1
    go_enter Try.func48, Try.ntmps48
    go_wp2_with fail
    go_ret3
    exact RxR.err HE.out (Below.refl _ _)
  have hlt : p < b.length := by omega
  have hd : ((p : Int) == (b.length : Int)) = false := by simp; omega
  have hby := hb
  obtain ⟨A', c', he, hc⟩ := hby
  injection he with e1 e2 e3
  subst e1
  obtain ⟨bb, ff, rfl, hcell⟩ := hc (by omega)
  have hck := hcell p hlt
  have hbp : b[p]? = some b[p] := List.getElem?_eq_getElem hlt
  obtain ⟨P1, hP1e⟩ : ∃ P1, P1 = p + 1 := ⟨_, rfl⟩
  have hP1 : (p : Int) + 1 = (P1 : Int) := by omega
  have hPb : P1 ≤ b.length := by omega
  generalize b[p] = y at *
  have hy := y.toNat_lt
  by_cases hy1 : 1 < y.toNat
  · have HE := hidden (rdC_x (n := n) (k := k) hbp (by rintro rfl; exact absurd hy1 (by decide)) (by rintro rfl; exact absurd hy1 (by decide)))
    have hd1 : decide ((1 : Int) < (y.toNat : Int)) = true := by simp; omega
    clear hb h1 hP1e hcell hc hbp e3 e2
    go_enter Try.func48, Try.ntmps48
    go_wp2_with fail
    go_ret3
    exact RxR.err HE.out (Below.refl _ _)
  have hd1 : decide ((1 : Int) < (y.toNat : Int)) = false := by simp; omega
  by_cases hy0 : y.toNat = 0
  · obtain rfl : y = 0 := UInt8.toNat_inj.1 (by simpa using hy0)
    have HC0 := hidden (rdC_0 (n := n) (k := k) hbp)
    rw [← hP1e] at HC0
    rw [HC0.out]
    simp only [show (((0 : UInt8).toNat : Nat) : Int) = 0 from rfl] at hck hd1
    have HWD := hidden (fun W => rwidth10_any k W (by omega))
    have HSZ := hidden (fun W => rsize_any (n : Int) (widW k : Int) W)
    rw [sizeI_nat (by omega) hm] at HSZ
    have hsz := szB_le (n := n) (w := widW k) (by omega) hm
    have hsn : szB n (widW k) ≤ 1048576 := by
      have h5 : n * widW k ≤ 65536 * 64 := Nat.mul_le_mul hn hm
      unfold szB
      omega
    generalize widW k = m at *
    obtain ⟨s, hs⟩ : ∃ s, s = szB n m := ⟨_, rfl⟩
    rw [← hs] at HSZ hsz hsn
    obtain ⟨r0, hr0⟩ : ∃ r0 : Nat, r0 = b.length - p := ⟨_, rfl⟩
    obtain ⟨r, hr⟩ : ∃ r : Nat, r = b.length - P1 := ⟨_, rfl⟩
    have hr1 : (b.length : Int) - (p : Int) = (r0 : Int) := by omega
    have hr2 : (r0 : Int) - 1 = (r : Int) := by omega
    by_cases h2 : b.length < P1 + s
    · have HE := hidden (show rdP b P1 n m = ([], 0, 2) by unfold rdP; rw [if_pos (by rw [← hs]; exact h2)])
      have hd2 : decide (r < s) = true := by simp; omega
      clear hb h1 hP1e hcell hc hbp e3 e2 hy1 hy0 hy hs hr hr0 h2
      go_enter Try.func48, Try.ntmps48
      go_wp2_with fail
      refine (HWD.out _).mono ?_
      rintro e w1 ⟨rfl, rfl⟩
      go_wp2_with fail
      refine (HSZ.out _).mono ?_
      rintro e w2 ⟨rfl, rfl⟩
      go_wp2_with fail
      go_ret3
      exact RxR.err HE.out (Below.refl _ _)
    · obtain ⟨E, hE⟩ : ∃ E, E = P1 + s := ⟨_, rfl⟩
      have hPE : (P1 : Int) + (s : Int) = (E : Int) := by omega
      have hPL : P1 ≤ E := by omega
      have hEl : E ≤ b.length := by omega
      obtain ⟨AO, hAO, hsa⟩ := cut_run (some ⟨bb, ff, none⟩) c b (O := P1) (Q := E) hPL hEl hlc hl
      have hcl : (cutB b P1 s).length = s := cutB_length (by omega)
      have hEs : E - P1 = s := by omega
      obtain ⟨U, hU⟩ : ∃ U, U = unpI (cutB b P1 s) n m := ⟨_, rfl⟩
      obtain ⟨x, hx⟩ : ∃ x, x = unE (cutB b P1 s) n m := ⟨_, rfl⟩
      have HUN := hidden (show ∀ W, Grows w W → Calls Try.prog 69 #[.slice AO (E - P1) (c - P1), .int .i64 (n : Int), .int .i64 (m : Int)] W (UnR U x W) from fun W hW => by
        have h9 := hAO W (HV.out.grow hW)
        rw [hEs] at h9 ⊢
        have h8 := runpack_any AO (c - P1) (cutB b P1 s) (n : Int) (m : Int) W (by rw [hcl]; exact h9) (by rw [hcl]; exact hsn)
        rw [hcl, ← hU, ← hx] at h8
        exact h8)
      have HRES := hidden (show rdP b P1 n m = if x = 0 then (U, (E : Int), 0) else ([], 0, x) by
        unfold rdP
        rw [if_neg (by rw [← hs]; exact h2), ← hs, ← hx, ← hU, ← hE]
        by_cases hx0 : x = 0
        · rw [if_neg (by simpa using hx0), if_pos hx0]
        · rw [if_pos hx0, if_neg hx0])
      have HUX := hidden (show x ≠ 0 → U = [] by
        intro h
        rw [hU]; unfold unpI; rw [if_neg (by rw [← hx]; exact h)])
      have hd2 : decide (r < s) = false := by simp; omega
      have hw1 : IntKind.i64.wrap (P1 : Int) = (P1 : Int) := by rw [IntKind.wrap_i64]; omega
      have hw2 : IntKind.i64.wrap (E : Int) = (E : Int) := by rw [IntKind.wrap_i64]; omega
      clear hb h1 hP1e hcell hc hbp e3 e2 hy1 hy0 hy hs hr hr0 h2 hE hAO hcl hEs hU hx
      go_enter Try.func48, Try.ntmps48
      go_wp2_with fail
      refine (HWD.out _).mono ?_
      rintro e w1 ⟨rfl, rfl⟩
      go_wp2_with fail
      refine (HSZ.out _).mono ?_
      rintro e w2 ⟨rfl, rfl⟩
      go_wp2_with fail
      · refine wp_region_loose (tabRs [(10, ConstV (.int .i64 (m : Int))), (11, UnpV U x)]) (by kernel_rfl) (by kernel_rfl) (tabRs_cons ConstV.lasts (tabRs_cons UnpV.lasts tabRs_nil)) ?_
        iterate 10 ((with_reducible refine loose_one (v := ?_) (a' := ?_) ?_ ?_ (fun w' hC' hG' => ?_) ?_ ?_); rotate_left 2; (focus rfl); (focus rfl); (focus (clear hC' hG'; go_simp; rfl)); (focus (go_simp; rfl)))
        refine loose_call (R := ConstV (.int .i64 (m : Int))) (f := 36) (args := #[.int .i64 (k : Int)]) (by rfl) (by rfl) (fun _ => by go_simp) (fun w' hC' hG' => const_loose0 (HWD.out w')) ?_
        rintro _ ⟨_, _, rfl⟩
        refine ⟨?_, ?_, ?_⟩
        rotate_left
        · go_simp
          rfl
        refine loose_call (R := UnpV U x) (f := 69) (args := #[.slice AO (E - P1) (c - P1), .int .i64 (n : Int), .int .i64 (m : Int)]) (by rfl) (by rfl) (fun _ => by go_simp) (fun w' hC' hG' => unp_loose (HUN.out w' hC')) ?_
        rintro _ ⟨_, _, u11, rfl, _⟩
        refine ⟨?_, ?_, ?_⟩
        rotate_left
        · go_simp
          rfl
        iterate 5 ((with_reducible refine loose_one (v := ?_) (a' := ?_) ?_ ?_ (fun w' hC' hG' => ?_) ?_ ?_); rotate_left 2; (focus rfl); (focus rfl); (focus (clear hC' hG'; go_simp; rfl)); (focus (go_simp; rfl)))
        refine loose_done (fun w3 hC' hG' => ?_)
        obtain ⟨u11', hu, hi⟩ := (hG' 11).2 rfl
        have eu : u11' = u11 := by injection hu with hu; injection hu with hu; injection hu with hu; exact hu.symm
        rw [eu] at hi
        have HI := hidden hi
        have HG := hidden (show Grows w w3 from hC')
        clear hG' hC' hi hu eu
        go_wp2_with fail
        go_ret3
        by_cases hx0 : x = 0
        · have h9 := HRES.out
          rw [if_pos hx0] at h9
          refine ⟨_, _, by rw [h9, hx0]; rfl, HG.out, by rw [h9]; exact HI.out, fun _ => by rw [h9]⟩
        · have h9 := HRES.out
          rw [if_neg hx0] at h9
          have h8 := HI.out
          rw [HUX.out hx0] at h8
          refine ⟨_, _, by rw [h9]; rfl, HG.out, by rw [h9]; exact h8, fun h => absurd (by rw [h9] at h; exact h) hx0⟩
  · obtain rfl : y = 1 := UInt8.toNat_inj.1 (by have : y.toNat = 1 := by omega
                                                simpa using this)
    have HC1 := hidden (rdC_1 (n := n) (k := k) hbp)
    rw [← hP1e] at HC1
    rw [HC1.out]
    simp only [show (((1 : UInt8).toNat : Nat) : Int) = 1 from rfl] at hck hd1
    have HDC := hidden (rldecode_any (.slice (some ⟨bb, ff, none⟩) b.length c) b P1 w hb (by omega) (by omega) (by omega))
    by_cases h2 : (dcR b P1).2.2 = 0
    · obtain ⟨o, k2, ho, hk2, hkl, hv, _, _⟩ := dcR_acc h2
      have hvl := valid_length hv
      obtain ⟨l, q, x, hdr⟩ : ∃ l q x, dcR b P1 = (l, q, x) := ⟨_, _, _, rfl⟩
      rw [hdr] at h2 hv hvl hk2
      simp only [] at h2 hv hvl hk2
      subst h2
      have HEX := hidden (fun u W (hu : ReadsR W u l) => rlexpand_any u l W hu (by omega))
      have hxe : expE l = 0 := by unfold expE; rw [if_pos hv]
      have hxl : (expI l).length ≤ 65536 := by unfold expI; rw [if_pos hv]; exact valid_expR hv
      rw [hxe] at HEX
      rw [hdr] at HDC
      by_cases h3 : (expI l).length = n
      · have HE := hidden (show rdR b P1 n = ((expI l).map u64I, q, 0) by unfold rdR; rw [hdr, if_neg (by simp), if_neg (by simpa using h3)])
        generalize expI l = xs at *
        have hd2 : ((xs.length : Int) != (n : Int)) = false := by simp; omega
        obtain ⟨us, hus⟩ : ∃ us, us = xs.map u64I := ⟨_, rfl⟩
        have HUS := hidden hus
        rw [← hus] at HE
        have HML := hidden (show us.length = xs.length by rw [hus, List.length_map])
        clear hb h1 hP1e hcell hc hbp e3 e2 hy1 hy0 hy hdr hv hxe ho hk2 hkl hus h3
        go_enter Try.func48, Try.ntmps48
        go_wp2_with fail
        refine HDC.out.mono ?_
        rintro e w2 ⟨u2, rfl, g2, hr2⟩
        have HG2 := hidden g2
        have HEX2 := hidden (HEX.out u2 w2 hr2)
        clear g2 hr2
        go_wp2_with fail
        refine HEX2.out.mono ?_
        rintro e w3 ⟨u3, rfl, g3, hi3⟩
        obtain ⟨A3, c3, rfl⟩ := hi3.slice_
        have HG3 := hidden (HG2.out.of_below g3)
        have HI3 := hidden hi3
        clear g3 hi3
        go_wp2_with fail
        go_loopw [19, 20] (fun u i wr => RC3Rel w3 us u i wr) (fun _ i _ => xs.length - (intOf i).toNat)
        case atStart => exact ⟨0, by omega, rfl, ⟨rfl, .inl ⟨rfl, rfl⟩⟩, Below.refl _ _⟩
        case round =>
          obtain ⟨j, hj, rfl, hown, hbw⟩ := hrel
          have HB := hidden hbw
          have HO := hidden hown
          rw [HML.out] at hj
          by_cases hlt2 : j < xs.length
          · have hju : j < us.length := by rw [HML.out]; exact hlt2
            obtain ⟨b3, f3, rfl, hck3⟩ := (HI3.out.grow (show Grows w3 wr from hbw)).at_ hlt2
            have HUJ := hidden (show us[j] = u64I xs[j] by have := HUS.out; subst this; simp)
            have HTK := hidden (show wcells (us.take (j + 1)) = wcells (us.take j) ++ [.int .u64 (u64I xs[j] : Int)] by rw [List.take_succ_eq_append_getElem hju, wcells_snoc, HUJ.out])
            have hwx := u64I_wrap xs[j]
            have hsz := hbw.size
            generalize xs[j] = z at *
            generalize u64I z = ux at *
            clear hown hbw HUJ
            go_wp2_with ((at_builtin; go_loud (refine wpList_append_gen rfl _ _ 63 rfl 60 (.int .u64 0) Try.underlying63 (by kernel_rfl) rfl _ j (wcells (us.take j)) (by rfl) w3.heap.size HO.out w3 HB.out hsz _ rfl (by rfl) (by omega) ?_); intro v5 w5 hown5 hb5 _; have HO5 := hidden hown5; have HB5 := hidden hb5; clear hown5 hb5))
            first
              | (go_roundw; (case rel => exact ⟨j + 1, by rw [HML.out]; omega, by go_num, by rw [HTK.out]; exact HO5.out, HB5.out⟩); (case measure => simp [intOf]; omega))
              | exact ⟨⟨j + 1, by rw [HML.out]; omega, by go_num, by rw [HTK.out]; exact HO5.out, HB5.out⟩, by simp [intOf]; omega⟩
          · have hje : j = us.length := by rw [HML.out]; omega
            have HO2 := hidden (show wr.ownsRow w3.heap.size 60 1 u19 us.length (wcells us) by rw [hje, List.take_length] at hown; exact hown)
            clear hown hbw hje
            go_wp2_with fail
            go_ret3
            exact ⟨_, _, by rw [HE.out]; rfl, HG3.out.of_below HB.out, by rw [HE.out]; exact Reads.of_own HO2.out, fun _ => by rw [HE.out]⟩
      · have HE := hidden (show rdR b P1 n = ([], 0, 18) by unfold rdR; rw [hdr, if_neg (by simp), if_pos (by simpa using h3)])
        generalize expI l = xs at *
        have hd2 : ((xs.length : Int) != (n : Int)) = true := by simp; omega
        clear hb h1 hP1e hcell hc hbp e3 e2 hy1 hy0 hy hdr hv hxe ho hk2 hkl h3
        go_enter Try.func48, Try.ntmps48
        go_wp2_with fail
        refine HDC.out.mono ?_
        rintro e w2 ⟨u2, rfl, g2, hr2⟩
        have HG2 := hidden g2
        have HEX2 := hidden (HEX.out u2 w2 hr2)
        clear g2 hr2
        go_wp2_with fail
        refine HEX2.out.mono ?_
        rintro e w3 ⟨u3, rfl, g3, hi3⟩
        obtain ⟨A3, c3, rfl⟩ := hi3.slice_
        have HG3 := hidden (HG2.out.of_below g3)
        clear g3 hi3
        go_wp2_with fail
        go_ret3
        exact RxR.err HE.out HG3.out
    · have HE := hidden (show rdR b P1 n = ([], 0, (dcR b P1).2.2) by unfold rdR; rw [if_pos h2])
      have hne : ((dcR b P1).2.2 != 0) = true := by simpa using h2
      generalize dcR b P1 = R at *
      obtain ⟨r1, r2, r3⟩ := R
      simp only [] at hne HDC HE
      clear hb h1 hP1e hcell hc hbp e3 e2 hy1 hy0 hy h2
      go_enter Try.func48, Try.ntmps48
      go_wp2_with fail
      refine HDC.out.mono ?_
      rintro e w2 ⟨u2, rfl, g2, hr2⟩
      have HG2 := hidden g2
      clear g2 hr2
      go_wp2_with fail
      go_ret3
      exact RxR.err HE.out HG2.out
end Go.Proofs.Ytgmjoghgmcjebaa
