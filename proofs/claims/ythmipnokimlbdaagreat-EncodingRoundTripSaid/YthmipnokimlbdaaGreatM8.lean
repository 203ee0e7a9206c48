/-
  Texts that the claims of this seat share, put together (Bq5, Bq6). No condition.
-/
import Derived.Test.YthmipnokimlbdaaGreatM7
import Derived.Test.YthmipnokimlbdaaGreatBq4
import Derived.Test.YthmipnokimlbdaaGreatMk
/-
  Shaken: what the claims of this seat need of this text. No condition.
-/
namespace Go.Proofs.YthmipnokimlbdaaGreat
set_option maxRecDepth 8000
open Go.RowKit
set_option linter.unusedVariables false
set_option linter.unusedSimpArgs false
def unE (b : List UInt8) (n m : Int) : Int :=
  if okB n m = false then 1 else if (b.length : Int) < sizeI n m then 2 else if sizeI n m < (b.length : Int) then 3 else if badB b n.toNat m.toNat then 4 else 0
theorem unE_no {b : List UInt8} {n m : Int} (h : okB n m = false) : unE b n m = 1 := by unfold unE; rw [if_pos h]
theorem unE_nat {b : List UInt8} {N M : Nat} (h : N ≤ 1048576) (h2 : M ≤ 64) : unE b (N : Int) (M : Int) = if b.length < szB N M then 2 else if szB N M < b.length then 3 else if badB b N M then 4 else 0 := by
  unfold unE
  rw [okB_t h h2, sizeI_nat h h2, Int.toNat_natCast, Int.toNat_natCast]
  simp only [Int.ofNat_lt]
  rfl
set_option maxHeartbeats 1000000 in
theorem check_any (A : Option Addr) (c : Nat) (b : List UInt8) (n m : Int) (w : World) (hb : IsBytes w (.slice A b.length c) b) (hl : b.length ≤ 1000000000000) :
    Calls Tryz.prog 195 #[.slice A b.length c, .int .i64 n, .int .i64 m] w fun e w' => e = .returned (.int .i64 (unE b n m)) ∧ w = w' := by
  have HN := hidden (fun w => validN_any n w)
  have HM := hidden (fun w => validM_any m w)
  cases h1 : okN n
  · have HE := hidden (unE_no (b := b) (n := n) (m := m) (by rw [okB_eq, h1]; rfl))
    rw [h1] at HN
    clear h1
    go_enter Tryz.func195, Tryz.ntmps195
    go_wp2_with ((go_at_call 190; refine (HN.out _).mono ?_; rintro e w2 ⟨rfl, rfl⟩))
    go_ret
    exact ⟨retU HE.out.symm, rfl⟩
  rw [h1] at HN
  cases h2 : okM m
  · have HE := hidden (unE_no (b := b) (n := n) (m := m) (by rw [okB_eq, h1, h2]; rfl))
    rw [h2] at HM
    clear h1 h2
    go_enter Tryz.func195, Tryz.ntmps195
    go_wp2_with (first | (go_at_call 190; refine (HN.out _).mono ?_; rintro e w2 ⟨rfl, rfl⟩) | (go_at_call 191; refine (HM.out _).mono ?_; rintro e w2 ⟨rfl, rfl⟩))
    go_ret
    exact ⟨retU HE.out.symm, rfl⟩
  rw [h2] at HM
  obtain ⟨⟨a1, a2⟩, a3, a4⟩ := okB_true (show okB n m = true by rw [okB_eq, h1, h2]; rfl)
  clear h1 h2
  obtain ⟨N, rfl⟩ := Int.eq_ofNat_of_zero_le a1
  obtain ⟨M, rfl⟩ := Int.eq_ofNat_of_zero_le a3
  have hN2 : N ≤ 1048576 := by omega
  have hM2 : M ≤ 64 := by omega
  have hsz := szB_le hN2 hM2
  have HS := hidden (fun w => size_any (N : Int) (M : Int) w)
  rw [sizeI_nat hN2 hM2] at HS
  have HE := hidden (unE_nat (b := b) hN2 hM2)
  obtain ⟨S, hS⟩ : ∃ S, S = szB N M := ⟨_, rfl⟩
  rw [← hS] at HS HE hsz
  clear a1 a2 a3 a4
  by_cases hlt : b.length < S
  · have HE2 := hidden (show unE b (N : Int) (M : Int) = 2 by rw [HE.out, if_pos hlt])
    have d1 : decide ((b.length : Int) < (S : Int)) = true := by simp; omega
    clear hS
    go_enter Tryz.func195, Tryz.ntmps195
    go_wp2_with (first | (go_at_call 190; refine (HN.out _).mono ?_; rintro e w2 ⟨rfl, rfl⟩) | (go_at_call 191; refine (HM.out _).mono ?_; rintro e w2 ⟨rfl, rfl⟩) | (go_at_call 139; refine (HS.out _).mono ?_; rintro e w2 ⟨rfl, rfl⟩))
    go_ret
    exact ⟨retU HE2.out.symm, rfl⟩
  by_cases hgt : S < b.length
  · have HE2 := hidden (show unE b (N : Int) (M : Int) = 3 by rw [HE.out, if_neg hlt, if_pos hgt])
    have d1 : decide ((b.length : Int) < (S : Int)) = false := by simp; omega
    have d2 : decide ((S : Int) < (b.length : Int)) = true := by simp; omega
    clear hS
    go_enter Tryz.func195, Tryz.ntmps195
    go_wp2_with (first | (go_at_call 190; refine (HN.out _).mono ?_; rintro e w2 ⟨rfl, rfl⟩) | (go_at_call 191; refine (HM.out _).mono ?_; rintro e w2 ⟨rfl, rfl⟩) | (go_at_call 139; refine (HS.out _).mono ?_; rintro e w2 ⟨rfl, rfl⟩))
    go_ret
    exact ⟨retU HE2.out.symm, rfl⟩
  have hlen : b.length = S := by omega
  rw [if_neg hlt, if_neg hgt] at HE
  obtain ⟨p, hp⟩ : ∃ p, p = N * M := ⟨_, rfl⟩
  have HIM := hidden (show (N : Int) * (M : Int) = (p : Int) by rw [hp]; exact (Int.natCast_mul N M).symm)
  have hp9 : p ≤ 67108864 := by rw [hp]; exact Nat.le_trans (Nat.mul_le_mul hN2 hM2) (by decide)
  obtain ⟨u, hu⟩ : ∃ u, u = p % 8 := ⟨_, rfl⟩
  have HPU := hidden (show (p : Int) % 8 = (u : Int) by omega)
  have hp0 : 0 ≤ (N : Int) * (M : Int) := by rw [HIM.out]; omega
  have hp1 : (N : Int) * (M : Int) ≤ 67108864 := by rw [HIM.out]; omega
  by_cases hu0 : u = 0
  · have HE2 := hidden (show unE b (N : Int) (M : Int) = 0 by rw [HE.out, badB_zero (by rw [hlen, hS]) (by rw [← hp, ← hu]; exact hu0)]; rfl)
    subst hu0
    clear hS hp hu hp9 hlt hgt
    go_enter Tryz.func195, Tryz.ntmps195
    go_upto_region 9 with (first | (go_at_call 190; refine (HN.out _).mono ?_; rintro e w2 ⟨rfl, rfl⟩) | (go_at_call 191; refine (HM.out _).mono ?_; rintro e w2 ⟨rfl, rfl⟩) | (go_at_call 139; refine (HS.out _).mono ?_; rintro e w2 ⟨rfl, rfl⟩))
    rw [HIM.out, HPU.out]
    go_wp2_with fail
    go_ret
    exact ⟨retU HE2.out.symm, rfl⟩
  · have hS1 : S = p / 8 + 1 := by rw [hS, hp]; unfold szB; rw [← hp]; omega
    have hbad : badB b N M = ((b.getD (S - 1) 0).toNat / 2 ^ u != 0) := by unfold badB; rw [← hp, ← hu, show p / 8 = S - 1 by omega]
    rw [hbad] at HE
    obtain ⟨bk, f, rfl, hcell⟩ := byte_at hb (show S - 1 < b.length by omega)
    have hx : (b.getD (S - 1) 0).toNat < 256 := UInt8.toNat_lt _
    have hq0 : ((u : Int) != 0) = true := by simp; omega
    have hu8 : u < 8 := by omega
    have HLT := hidden (show (b.length : Int) < (S : Int) → False by omega)
    have HF := hidden (And.intro hcell (And.intro hx (And.intro hq0 hu8)))
    have hS0 : 1 ≤ S := by omega
    generalize (b.getD (S - 1) 0).toNat = x at *
    clear hS hp hu hp9 hbad hS1 hcell hx hq0 hu8 hlt hgt
    go_enter Tryz.func195, Tryz.ntmps195
    go_upto_region 9 with (first | (go_at_call 190; refine (HN.out _).mono ?_; rintro e w2 ⟨rfl, rfl⟩) | (go_at_call 191; refine (HM.out _).mono ?_; rintro e w2 ⟨rfl, rfl⟩) | (go_at_call 139; refine (HS.out _).mono ?_; rintro e w2 ⟨rfl, rfl⟩))
    rw [HIM.out, HPU.out]
    obtain ⟨hcell, hx, hq0, hu8⟩ := HF.out
    clear hp0 hp1
    by_cases hy : x / 2 ^ u = 0
    · have HE2 := hidden (show unE b (N : Int) (M : Int) = 0 by rw [HE.out, hy]; rfl)
      have hyi : ((x : Int) / 2 ^ u != 0) = false := by
        have e : ((x : Int) / 2 ^ u) = ((x / 2 ^ u : Nat) : Int) := by simp
        rw [e, hy]; rfl
      have hyj : (x : Int) / 2 ^ u = 0 := by
        have e : ((x : Int) / 2 ^ u) = ((x / 2 ^ u : Nat) : Int) := by simp
        rw [e, hy]; rfl
      clear hy
      go_wp2_with fail
      go_ret
      exact ⟨retU HE2.out.symm, rfl⟩
    · have HE2 := hidden (show unE b (N : Int) (M : Int) = 4 by rw [HE.out, if_pos (by simpa using hy)])
      have hyi : ((x : Int) / 2 ^ u != 0) = true := by
        have e : ((x : Int) / 2 ^ u) = ((x / 2 ^ u : Nat) : Int) := by simp
        rw [e]; simp only [bne_iff_ne, ne_eq]; omega
      clear hy
      go_wp2_with fail
      go_ret
      exact ⟨retU HE2.out.symm, rfl⟩
end Go.Proofs.YthmipnokimlbdaaGreat
/-
  Shaken: what the claims of this seat need of this text. No condition.
-/
namespace Go.Proofs.YthmipnokimlbdaaGreat
set_option maxRecDepth 8000
open Go.RowKit
set_option linter.unusedVariables false
set_option linter.unusedSimpArgs false
def unpI (b : List UInt8) (n m : Int) : List Nat := if unE b n m = 0 then unpL b n.toNat m.toNat else []
theorem unE_zero {b : List UInt8} {n m : Int} (h : unE b n m = 0) : ∃ N M : Nat, n = (N : Int) ∧ m = (M : Int) ∧ N ≤ 1048576 ∧ M ≤ 64 ∧ b.length = szB N M ∧ badB b N M = false := by
  cases hok : okB n m
  · rw [unE_no hok] at h; cases h
  · obtain ⟨⟨a1, a2⟩, a3, a4⟩ := okB_true hok
    obtain ⟨N, rfl⟩ := Int.eq_ofNat_of_zero_le a1
    obtain ⟨M, rfl⟩ := Int.eq_ofNat_of_zero_le a3
    rw [unE_nat (by omega) (by omega)] at h
    by_cases h1 : b.length < szB N M
    · rw [if_pos h1] at h; cases h
    · rw [if_neg h1] at h
      by_cases h2 : szB N M < b.length
      · rw [if_pos h2] at h; cases h
      · rw [if_neg h2] at h
        refine ⟨N, M, rfl, rfl, by omega, by omega, by omega, ?_⟩
        cases hb : badB b N M
        · rfl
        · rw [if_pos hb] at h; cases h
theorem unE_of {b : List UInt8} {N M : Nat} (h1 : N ≤ 1048576) (h2 : M ≤ 64) (h3 : b.length = szB N M) (h4 : badB b N M = false) : unE b (N : Int) (M : Int) = 0 := by
  rw [unE_nat h1 h2, if_neg (by omega), if_neg (by omega), h4]
  rfl
theorem numB_zero (b : List UInt8) (i : Nat) : numB b 0 i = 0 := rfl
theorem atB_in {b : List UInt8} {N M k : Nat} (hM : M ≤ 64) (hb : b.length = szB N M) (hk : k < N) : atB b (k : Int) (M : Int) = numB b M k := by
  by_cases h0 : M = 0
  · subst h0
    unfold atB
    rw [if_neg (by omega), numB_zero]
  · have h1 : (k + 1) * M ≤ N * M := Nat.mul_le_mul_right M hk
    have h2 : k < 8 * b.length / M := by
      rw [Nat.lt_iff_add_one_le, Nat.le_div_iff_mul_le (by omega), hb]
      unfold szB
      omega
    have hd9 : (8 * (b.length : Int)) / (M : Int) = ((8 * b.length / M : Nat) : Int) := by
      have : (8 * (b.length : Int)) = ((8 * b.length : Nat) : Int) := by omega
      rw [this]
      exact (Int.natCast_ediv _ _).symm
    unfold atB
    rw [if_pos ⟨⟨by omega, by omega⟩, by omega, by rw [hd9]; omega⟩, Int.toNat_natCast, Int.toNat_natCast]
def partU (b : List UInt8) (M n k : Nat) : List Nat := (List.range n).map fun j => if j < k then numB b M j else 0
theorem partU_length (b : List UInt8) (M n k : Nat) : (partU b M n k).length = n := by simp [partU]
theorem partU_get {b : List UInt8} {M n k j : Nat} (h : j < n) : (partU b M n k)[j]? = some (if j < k then numB b M j else 0) := by
  unfold partU
  rw [List.getElem?_map, List.getElem?_range h]
  rfl
theorem partU_zero (b : List UInt8) (M n : Nat) : List.replicate n (Value.int .u64 0) = wcells (partU b M n 0) := by
  apply List.ext_getElem?
  intro j
  unfold wcells
  by_cases hj : j < n
  · rw [List.getElem?_map, partU_get hj, List.getElem?_replicate, if_pos hj]
    simp
  · rw [List.getElem?_eq_none (by simp; omega), List.getElem?_eq_none (by rw [List.length_map, partU_length]; omega)]
theorem partU_all (b : List UInt8) (M n : Nat) : partU b M n n = unpL b n M := by
  unfold partU unpL
  apply List.map_congr_left
  intro j hj
  rw [List.mem_range] at hj
  rw [if_pos hj]
theorem partU_set {b : List UInt8} {M n k : Nat} (hk : k < n) : (wcells (partU b M n k)).set k (.int .u64 ((numB b M k : Nat) : Int)) = wcells (partU b M n (k + 1)) := by
  unfold wcells
  apply List.ext_getElem?
  intro j
  rw [List.getElem?_set, List.length_map, partU_length, List.getElem?_map, List.getElem?_map]
  by_cases hj : j < n
  · rw [partU_get hj, partU_get hj]
    by_cases e : k = j
    · subst e
      rw [if_pos rfl, if_pos hk, if_pos (by omega)]
      rfl
    · rw [if_neg e]
      have : (j < k) = (j < k + 1) := by apply propext; omega
      simp only [this]
  · rw [List.getElem?_eq_none (by rw [partU_length]; omega), List.getElem?_eq_none (by rw [partU_length]; omega)]
    split
    · omega
    · rfl
def UnR (l : List Nat) (x : Int) (w : World) (e : Ending) (w' : World) : Prop := ∃ v, e = .returned (.tuple #[v, .int .i64 x]) ∧ Grows w w' ∧ IsW w' v l
theorem info_u64P : (Tryz.prog.info? 85).map (fun i => (i.zero, i.size, i.bytes)) = some (some (.int .u64 0), 1, 8) := by kernel_rfl
def UnRel (w : World) (b : List UInt8) (M n : Nat) (i : Value) (wr : World) : Prop :=
  ∃ k : Nat, k ≤ n ∧ i = .int .i64 (k : Int) ∧ Row wr w.heap.size 85 (wcells (partU b M n k)) ∧ Below w.heap.size w wr
set_option maxHeartbeats 1000000 in
theorem unpack_any (A : Option Addr) (c : Nat) (b : List UInt8) (n m : Int) (w : World) (hb : IsBytes w (.slice A b.length c) b) (hl : b.length ≤ 1000000000000) :
    Calls Tryz.prog 140 #[.slice A b.length c, .int .i64 n, .int .i64 m] w (UnR (unpI b n m) (unE b n m) w) := by
  have HCK := hidden (fun w' (h : Grows w w') => check_any A c b n m w' (hb.grow h) hl)
  by_cases h0 : unE b n m = 0
  · obtain ⟨N, M, rfl, rfl, hN, hM, hlen, _⟩ := unE_zero h0
    have HE := hidden (show unpI b (N : Int) (M : Int) = unpL b N M by unfold unpI; rw [if_pos h0, Int.toNat_natCast, Int.toNat_natCast])
    have HE0 := hidden h0
    rw [h0] at HCK
    have HB := hidden hb
    have hl8 : b.length ≤ 8388608 := by rw [hlen]; exact szB_le hN hM
    have HLEN := hidden hlen
    have HW := hidden (partU_zero b M N)
    have HUL := hidden (partU_length b M N)
    have hmk := fun W => run_make_oneM (P := Tryz.prog) 52 85 (.int .u64 0) 8 Tryz.underlying52 info_u64P rfl N (by omega) (by omega) W
    clear h0 hb hlen
    go_enter Tryz.func140, Tryz.ntmps140
    go_wp2_with ((go_at_call 195; refine (HCK.out _ (Below.refl _ _)).mono ?_; rintro e w2 ⟨rfl, rfl⟩))
    go_loopw [21] (fun i wr => UnRel w b M N i wr) (fun i _ => N - (intOf i).toNat)
    case atStart =>
      refine ⟨0, by omega, rfl, Row.at_ _ _ _ _ (by rw [← HW.out]; simp) _ rfl, (Below.refl _ _).alloc (Nat.le_refl _) _⟩
    case round =>
      obtain ⟨k, hk, rfl, hrow, hbl⟩ := hrel
      have HR := hidden hrow
      have HBL := hidden hbl
      by_cases hlt : k < N
      · have cw := hrow.cell k
        rw [wcells_get (by rw [partU_length]; exact hlt)] at cw
        have fw := hrow.frozen k
        have HAT := hidden (at_any A c b (k : Int) (M : Int) wr (HB.out.grow hbl) hl8)
        rw [atB_in hM HLEN.out hlt] at HAT
        have HS := hidden (hrow.set_ k (.int .u64 ((numB b M k : Nat) : Int)))
        rw [partU_set hlt] at HS
        clear hrow hbl hmk
        go_wp2_with ((go_at_call 153; refine HAT.out.mono ?_; rintro e w2 ⟨rfl, rfl⟩))
        exact ⟨⟨k + 1, by omega, by go_num, HS.out, HBL.out.setCell (p := ⟨w.heap.size, k, none⟩) (Nat.le_refl _) _⟩, by simp [intOf]; omega⟩
      · have hke : k = N := by omega
        subst hke
        have HA := hidden (partU_all b M k)
        clear hrow hbl hmk
        go_wp2_with fail
        go_ret2
        refine ⟨_, by rw [HE0.out]; rfl, HBL.out, ?_⟩
        rw [HE.out, ← HA.out]
        exact Reads.of_row HR.out _ _ (by rw [wcells_length, HUL.out]) (Nat.le_refl _)
  · have HE := hidden (show unpI b n m = [] by unfold unpI; rw [if_neg h0])
    have hne : (unE b n m != 0) = true := by simpa using h0
    generalize unE b n m = x at *
    go_enter Tryz.func140, Tryz.ntmps140
    go_wp2_with ((go_at_call 195; refine (HCK.out _ (Below.refl _ _)).mono ?_; rintro e w2 ⟨rfl, rfl⟩))
    go_ret2
    refine ⟨_, rfl, Below.refl _ _, ?_⟩
    rw [HE.out]
    exact Reads.nil_ _ _
end Go.Proofs.YthmipnokimlbdaaGreat
