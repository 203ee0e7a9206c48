/-
  Shaken: what the claims of this seat need of this text. No condition.
-/
import Derived.Test.YthmipnokimlbdaaGreatM7
import Derived.Test.YthmipnokimlbdaaGreatM5
namespace Go.Proofs.YthmipnokimlbdaaGreat
open Go.RowKit
set_option linter.unusedVariables false
set_option linter.unusedSimpArgs false
set_option maxRecDepth 8000 in
set_option maxHeartbeats 2000000 in
theorem rpackM_any (v : Value) (l : List Nat) (m : Int) (w : World) (hv : IsW w v l) (hU : U64 l) (hl : l.length ≤ 1000000000000) :
    Calls Tryz.prog 104 #[v, .int .i64 m] w (Made (packI l m) w) := by
  obtain ⟨A, c, rfl⟩ := hv.slice_
  have HV := hidden hv
  have HU := hidden hU
  have HO := hidden (fun w => rok_any (l.length : Int) m w)
  clear hv hU
  cases hok : okB (l.length : Int) m
  · have HE := hidden (show packI l m = [] by unfold packI; rw [hok]; rfl)
    rw [hok] at HO
    clear hok
    go_enter Tryz.func104, Tryz.ntmps104
    go_wp2_with ((go_at_call 177; refine (HO.out _).mono ?_; rintro e w2 ⟨rfl, rfl⟩))
    go_ret
    exact ⟨_, rfl, by rw [HE.out]; exact World.ownsRow_nil _ _ _ _, Below.refl _ _⟩
  · obtain ⟨⟨a1, a2⟩, a3, a4⟩ := okB_true hok
    obtain ⟨M, rfl⟩ := Int.eq_ofNat_of_zero_le a3
    have HE := hidden (show packI l (M : Int) = packL l M by unfold packI; rw [hok, Int.toNat_natCast]; rfl)
    rw [hok] at HO
    have hl2 : l.length ≤ 1048576 := by omega
    have hM2 : M ≤ 64 := by omega
    have hsz := szB_le hl2 hM2
    have HS := hidden (fun w => rsize_any (l.length : Int) (M : Int) w)
    rw [sizeI_nat hl2 hM2] at HS
    have hmk := fun W => run_make_bytes (P := Tryz.prog) 29 5 Tryz.underlying29 info_byte (szB l.length M) (by omega) W
    have HMB := hidden (made_bcells (szB l.length M))
    have HZ := hidden (partB_zero l M)
    clear hok
    go_enter Tryz.func104, Tryz.ntmps104
    go_wp2_with (first | (go_at_call 177; refine (HO.out _).mono ?_; rintro e w2 ⟨rfl, rfl⟩) | (go_at_call 123; refine (HS.out _).mono ?_; rintro e w2 ⟨rfl, rfl⟩))
    go_loopw [6] (fun i wr => RPackRel w l M i wr) (fun i _ => l.length - (intOf i).toNat)
    case atStart =>
      refine ⟨0, by omega, rfl, ?_, (Below.refl _ _).alloc (Nat.le_refl _) _⟩
      rw [Nat.zero_mul, HZ.out]
      exact Row.at_ _ _ _ _ HMB.out _ rfl
    case round =>
      obtain ⟨i, hi, rfl, hrow, hb⟩ := hrel
      have HB := hidden hb
      have HR := hidden hrow
      clear hrow hb hmk
      by_cases hlt : i < l.length
      · have hxx := HU.out.get hlt
        have HX := hidden (List.getElem?_eq_getElem hlt)
        generalize l[i] = x at *
        go_wp2_with fail
        go_loopw [7] (fun k wr => RPackIn w l M i k wr) (fun k _ => M - (intOf k).toNat)
        case atStart => exact ⟨0, by omega, rfl, by rw [Nat.add_zero]; exact HR.out, HB.out⟩
        case round =>
          obtain ⟨k, hk, rfl, hrow2, hb2⟩ := hrel
          have HB2 := hidden hb2
          have HR2 := hidden hrow2
          by_cases hkm : k < M
          · obtain ⟨q, hq⟩ : ∃ q, q = i * M := ⟨_, rfl⟩
            obtain ⟨p, hp⟩ : ∃ p, p = q + k := ⟨_, rfl⟩
            obtain ⟨s, hs⟩ : ∃ s, s = p / 8 := ⟨_, rfl⟩
            obtain ⟨u, hu⟩ : ∃ u, u = p % 8 := ⟨_, rfl⟩
            obtain ⟨S, hS⟩ : ∃ S, S = szB l.length M := ⟨_, rfl⟩
            have hpl : p < l.length * M := by rw [hp, hq]; exact stream_lt hlt hkm
            have hlm : l.length * M ≤ 1048576 * 64 := Nat.mul_le_mul hl2 hM2
            have hp8 : p / 8 < szB l.length M := by unfold szB; omega
            have hcell := hrow2.cell s
            rw [← hq, ← hp, bcells_get (by rw [hs]; exact partB_cur hp8), cur_byte] at hcell
            have hX := curB_lt l M p
            have HSP := hidden (show (partB l M p).set s (UInt8.ofNat (curB l M p ||| (x / 2 ^ k % 2 ^ 1 * 2 ^ u))) = partB l M (p + 1) from by
              rw [hs, hu]
              refine partB_span hp8 (by omega) (Nat.mod_lt _ (Nat.two_pow_pos 1)) (fun t ht => ?_)
              have h := vbit_at (l := l) (w := M) (d := k) (c := 1) hlt (by omega) t ht
              have h2 := HX.out
              rw [List.getElem?_eq_getElem hlt] at h2
              injection h2 with h2
              rw [h2, ← hq, ← hp] at h
              exact h)
            have HBY := hidden (put_bit (X := curB l M p) (v := x) (k := k) (u := u) hX hxx (by omega))
            have frow := hrow2.frozen s
            have hlc := (HV.out.grow HB2.out)
            obtain ⟨bl, fl, rfl, hlcell⟩ := hlc.at_ hlt
            have h2 := HX.out
            rw [List.getElem?_eq_getElem hlt] at h2
            injection h2 with h2
            rw [h2] at hlcell
            have HIM := hidden (show (i : Int) * (M : Int) = (q : Int) by rw [hq]; exact (Int.natCast_mul i M).symm)
            have HQK := hidden (show (q : Int) + (k : Int) = (p : Int) by omega)
            have HPS := hidden (show (p : Int) / 8 = (s : Int) by omega)
            have HPU := hidden (show (p : Int) % 8 = (u : Int) by omega)
            have HP := hidden (show i * M + (k + 1) = p + 1 by omega)
            have hp9 : p ≤ 67108864 := by omega
            have hq9 : q ≤ 67108864 := by omega
            have hs9 : s < S := by omega
            have hu8 : u < 8 := by omega
            have hR3 : Row wr.drew w.heap.size 5 (bcells (partB l M p)) := by rw [hp, hq]; exact hrow2
            have HR3 := hidden hR3
            rw [← hS] at hsz
            clear hrow2 hb2 hq hp hs hu hpl hlm hp8 hR3 h2 hlc
            generalize curB l M p = X at *
            rw [← hS]
            clear hS
            go_wp2_with fail
            refine wp_region_still_tail 27 (by kernel_rfl) (by kernel_rfl) ?_
            simp only [List.take_succ_cons, List.take_zero, List.drop_succ_cons, List.drop_zero]
            change wpStill _ _ wr.drew _ _ _
            have him := HIM.out
            have hqk := HQK.out
            have hps := HPS.out
            have hpu := HPU.out
            have hpt : (p : Int).tmod 8 = (u : Int) := by rw [Int.tmod_eq_emod_of_nonneg (by omega)]; exact hpu
            have hmu : min u 8 = u := by omega
            have w1 : IntKind.i64.wrap (q : Int) = (q : Int) := by rw [IntKind.wrap_i64]; omega
            have w2 : IntKind.i64.wrap (p : Int) = (p : Int) := by rw [IntKind.wrap_i64]; omega
            have w3 : IntKind.i64.wrap (s : Int) = (s : Int) := by rw [IntKind.wrap_i64]; omega
            have b0 : (0 : Int) ≤ (s : Int) := by omega
            have b1 : (s : Int) < (S : Int) := by omega
            have b2 : (i : Int) < (l.length : Int) := by omega
            have v1 : IntKind.u64.wrap (k : Int) = (k : Int) := by rw [IntKind.wrap_u64]; omega
            have v2 : IntKind.u64.wrap (u : Int) = (u : Int) := by rw [IntKind.wrap_u64]; omega
            iterate 27 still_step
            refine wpStill_nil ?_
            change wpList _ _ _ _ _ wr.drew
            clear hpt hmu him hqk hps hpu w1 w2 w3 v1 v2
            rw [HBY.out]
            generalize UInt8.ofNat (X ||| (x / 2 ^ k % 2 ^ 1 * 2 ^ u)) = y at *
            have hyl := y.toNat_lt
            have HSET := hidden (HR3.out.set_ s (.int .u8 (y.toNat : Int)))
            rw [bcells_set, HSP.out] at HSET
            go_wp2_with fail
            refine ⟨⟨k + 1, by omega, by go_num, ?_, (HB2.out.setCell (p := ⟨w.heap.size, s, none⟩) (Nat.le_refl _) _).drew⟩, by simp [intOf]; omega⟩
            rw [HP.out]
            exact HSET.out
          · have hke : k = M := by omega
            subst hke
            go_wp2_with fail
            refine ⟨⟨i + 1, by omega, by go_num, ?_, HB2.out⟩, by simp [intOf]; omega⟩
            rw [Nat.succ_mul]
            exact HR2.out
      · have hke : i = l.length := by omega
        subst hke
        have HALL := hidden (partB_all l M)
        have HLEN := hidden (packL_length l M)
        go_wp2_with fail
        go_ret
        refine ⟨_, rfl, ?_, HB.out⟩
        rw [HE.out]
        have h := HR.out
        rw [HALL.out] at h
        have h2 := h.own (Nat.le_refl _) (by rw [bcells_length, HLEN.out]; unfold maxLen; omega)
        rw [bcells_length, HLEN.out] at h2
        rw [HLEN.out]
        exact h2
end Go.Proofs.YthmipnokimlbdaaGreat
