/-
  The reference of package bitpack: Unpack: for any arguments. Nothing that was there is changed.
-/
import Derived.Test.YtgmjoghgmcjebaaM7
namespace Go.Proofs.Ytgmjoghgmcjebaa
open Go.RowKit
set_option linter.unusedVariables false
set_option linter.unusedSimpArgs false

theorem wpList_append_w {wr : World} {ops : Array Oper} {rest : List Oper} {o : Oper} {a : Act} {Q : Exit → Act → World → Prop} (hgd : o.guard = none) (s x : Operand)
    (ho : o.op = .call { callee := .builtin .append, args := #[s, x], argTypes := #[63, 63] })
    (v : Value) (pre : List Nat) (hs : a.eval s = v) (base : Nat) (hown : wr.ownsRow base 60 1 v pre.length (wcells pre)) (w0 : World) (hb : Below base w0 wr) (hbase : base ≤ wr.heap.size)
    (z : Int) (c : Nat) (hz : z = (c : Int)) (hx : a.eval x = .slice (some ⟨wr.heap.size, 0, none⟩) 1 1) (hlen : pre.length + 1 ≤ 17592186044416)
    (h : ∀ v' w', w'.ownsRow base 60 1 v' (pre ++ [c]).length (wcells (pre ++ [c])) → Below base w0 w' → wpList Try.prog ops Q rest (a.put o.dst v') w') :
    wpList Try.prog ops Q (o :: rest) a (wr.alloc (.cells #[.int .u64 z] 60)) := by
  obtain ⟨i0, hi, hz0, hz1, hz2⟩ := info_parts info_u64P
  subst hz
  refine wpList_append_own _ hgd s x 63 ho base 60 i0 (.int .u64 0) 1 8 Try.underlying63 hi hz0 hz1 hz2 rfl (by decide) v pre.length (wcells pre) hs (hown.alloc _) ⟨wr.heap.size, 0, none⟩ 1 1 [.int .u64 (c : Int)] hx rfl ?_ ?_ ?_ ?_ ?_ ?_
  · intro j u hj
    match j, hj with
    | 0, hj => simp at hj; subst hj; simp [Addr.add]
  · intro u hu; simp at hu; subst hu; rfl
  · unfold maxLen; omega
  · omega
  · simp; omega
  · intro v' w' h1 h2 _
    rw [← wcells_snoc, show pre.length + 1 = (pre ++ [c]).length by simp] at h1
    exact h v' w' h1 ((hb.alloc hbase _).grown h2 (by simp; omega) (fun k hk => (hown.lt k hk).1))
theorem bitI_one {b : List UInt8} {i : Nat} (h : bbit b i = true) : bitI b i = 1 := by unfold bitI; rw [if_pos h]
theorem bitI_nul {b : List UInt8} {i : Nat} (h : bbit b i = false) : bitI b i = 0 := by unfold bitI; rw [h]; rfl
theorem badB_true {b : List UInt8} {n w i : Nat} (hb : b.length = szB n w) (h1 : n * w ≤ i) (h2 : i < 8 * b.length) (h3 : bbit b i = true) : badB b n w = true := by
  cases hx : badB b n w
  · rw [(badB_false hb).1 hx i h1 h2] at h3; cases h3
  · rfl
theorem unpL_succ (b : List UInt8) (k M : Nat) : unpL b (k + 1) M = unpL b k M ++ [numB b M k] := by unfold unpL; rw [List.range_succ, List.map_append]; rfl
def TailRel (w : World) (b : List UInt8) (p : Nat) (i : Value) (wr : World) : Prop :=
  ∃ j : Nat, p ≤ j ∧ j ≤ 8 * b.length ∧ i = .int .i64 (j : Int) ∧ (∀ t, p ≤ t → t < j → bbit b t = false) ∧ w = wr
def RUnRel (w : World) (b : List UInt8) (M n : Nat) (out i : Value) (wr : World) : Prop :=
  ∃ k : Nat, k ≤ n ∧ i = .int .i64 (k : Int) ∧ wr.ownsRow w.heap.size 60 1 out (unpL b k M).length (wcells (unpL b k M)) ∧ Below w.heap.size w wr
set_option maxHeartbeats 2000000 in
theorem runpack_any (A : Option Addr) (c : Nat) (b : List UInt8) (n m : Int) (w : World) (hb : IsBytes w (.slice A b.length c) b) (hl : b.length ≤ 1048576) :
    Calls Try.prog 69 #[.slice A b.length c, .int .i64 n, .int .i64 m] w (UnR (unpI b n m) (unE b n m) w) := by
  have HO := hidden (fun w => rok_any n m w)
  cases hok : okB n m
  · have HE0 := hidden (unE_no (b := b) hok)
    have HE := hidden (show unpI b n m = [] by unfold unpI; rw [unE_no hok]; rfl)
    rw [hok] at HO
    clear hok
    go_enter Try.func69, Try.ntmps69
    go_wp2_with ((go_at_call 55; refine (HO.out _).mono ?_; rintro e w2 ⟨rfl, rfl⟩))
    go_ret2
    exact ⟨_, by rw [HE0.out]; rfl, Below.refl _ _, by rw [HE.out]; exact Reads.nil_ _ 0⟩
  · obtain ⟨⟨a1, a2⟩, a3, a4⟩ := okB_true hok
    obtain ⟨N, rfl⟩ := Int.eq_ofNat_of_zero_le a1
    obtain ⟨M, rfl⟩ := Int.eq_ofNat_of_zero_le a3
    rw [hok] at HO
    have hN2 : N ≤ 1048576 := by omega
    have hM2 : M ≤ 64 := by omega
    have HS := hidden (fun w => rsize_any (N : Int) (M : Int) w)
    rw [sizeI_nat hN2 hM2] at HS
    have HE := hidden (unE_nat (b := b) hN2 hM2)
    have hsz := szB_le hN2 hM2
    obtain ⟨S, hS⟩ : ∃ S, S = szB N M := ⟨_, rfl⟩
    rw [← hS] at HS HE hsz
    clear a1 a2 a3 a4 hok
    by_cases hlt : b.length < S
    · have HE2 := hidden (show unE b (N : Int) (M : Int) = 2 by rw [HE.out, if_pos hlt])
      have HE3 := hidden (show unpI b (N : Int) (M : Int) = [] by unfold unpI; rw [HE2.out]; rfl)
      have d1 : decide ((b.length : Int) < (S : Int)) = true := by simp; omega
      clear hS
      go_enter Try.func69, Try.ntmps69
      go_wp2_with (first | (go_at_call 55; refine (HO.out _).mono ?_; rintro e w2 ⟨rfl, rfl⟩) | (go_at_call 56; refine (HS.out _).mono ?_; rintro e w2 ⟨rfl, rfl⟩))
      go_ret2
      exact ⟨_, by rw [HE2.out]; rfl, Below.refl _ _, by rw [HE3.out]; exact Reads.nil_ _ 0⟩
    by_cases hgt : S < b.length
    · have HE2 := hidden (show unE b (N : Int) (M : Int) = 3 by rw [HE.out, if_neg hlt, if_pos hgt])
      have HE3 := hidden (show unpI b (N : Int) (M : Int) = [] by unfold unpI; rw [HE2.out]; rfl)
      have d1 : decide ((b.length : Int) < (S : Int)) = false := by simp; omega
      have d2 : decide ((S : Int) < (b.length : Int)) = true := by simp; omega
      clear hS
      go_enter Try.func69, Try.ntmps69
      go_wp2_with (first | (go_at_call 55; refine (HO.out _).mono ?_; rintro e w2 ⟨rfl, rfl⟩) | (go_at_call 56; refine (HS.out _).mono ?_; rintro e w2 ⟨rfl, rfl⟩))
      go_ret2
      exact ⟨_, by rw [HE2.out]; rfl, Below.refl _ _, by rw [HE3.out]; exact Reads.nil_ _ 0⟩
    have hlen : b.length = S := by omega
    rw [if_neg hlt, if_neg hgt] at HE
    obtain ⟨p, hp⟩ : ∃ p, p = N * M := ⟨_, rfl⟩
    have HIM := hidden (show (N : Int) * (M : Int) = (p : Int) by rw [hp]; exact (Int.natCast_mul N M).symm)
    have hp9 : p ≤ 67108864 := by rw [hp]; exact Nat.le_trans (Nat.mul_le_mul hN2 hM2) (by decide)
    have hp8 : p ≤ 8 * b.length := by rw [hlen, hS, hp]; unfold szB; omega
    have HLEN := hidden (show b.length = szB N M by rw [hlen, hS])
    have HLS := hidden hlen
    have hp0 : 0 ≤ (N : Int) * (M : Int) := by rw [HIM.out]; omega
    have hp1 : (N : Int) * (M : Int) ≤ 67108864 := by rw [HIM.out]; omega
    have HP := hidden hp
    have HB := hidden hb
    have d1 : decide ((b.length : Int) < (S : Int)) = false := by simp; omega
    have d2 : decide ((S : Int) < (b.length : Int)) = false := by simp; omega
    have d3 : decide (b.length < S) = false := by simp; omega
    have d4 : decide (S < b.length) = false := by simp; omega
    have HPP := hidden (And.intro hp8 hp9)
    clear hS hp hlen hgt hlt hb hp8 hp9
    go_enter Try.func69, Try.ntmps69
    go_wp2_with (first | (go_at_call 55; refine (HO.out _).mono ?_; rintro e w2 ⟨rfl, rfl⟩) | (go_at_call 56; refine (HS.out _).mono ?_; rintro e w2 ⟨rfl, rfl⟩))
    rw [HIM.out]
    clear hp0 hp1 d1 d2 d3 d4
    go_loopw [8] (fun i wr => TailRel w b p i wr) (fun i _ => 8 * b.length - (intOf i).toNat)
    case atStart => exact ⟨p, by omega, HPP.out.1, rfl, fun t h1 h2 => by omega, rfl⟩
    case round =>
      obtain ⟨i, h1, h2, rfl, hz, rfl⟩ := hrel
      have HZ := hidden hz
      clear hz
      by_cases hi : i < 8 * b.length
      · have HBT := hidden (rbit_any A c b i w HB.out hi (by omega))
        have hii : (i : Int) < 8 * (b.length : Int) := by omega
        cases hbit : bbit b i
        · rw [bitI_nul hbit] at HBT
          have HBI := hidden hbit
          clear hbit
          go_wp2_with ((go_at_call 88; refine HBT.out.mono ?_; rintro e w2 ⟨rfl, rfl⟩))
          refine ⟨⟨i + 1, by omega, by omega, by go_num, fun t h3 h4 => ?_, rfl⟩, by simp [intOf]; omega⟩
          by_cases ht : t < i
          · exact HZ.out t h3 ht
          · rw [show t = i by omega]; exact HBI.out
        · rw [bitI_one hbit] at HBT
          have HE2 := hidden (show unE b (N : Int) (M : Int) = 4 by rw [HE.out, badB_true HLEN.out (by rw [← HP.out]; exact h1) hi hbit]; rfl)
          have HE3 := hidden (show unpI b (N : Int) (M : Int) = [] by unfold unpI; rw [HE2.out]; rfl)
          clear hbit
          go_wp2_with ((go_at_call 88; refine HBT.out.mono ?_; rintro e w2 ⟨rfl, rfl⟩))
          go_ret2
          exact ⟨_, by rw [HE2.out]; rfl, Below.refl _ _, by rw [HE3.out]; exact Reads.nil_ _ 0⟩
      · have hke : i = 8 * b.length := by omega
        have hbad : badB b N M = false := by
          rw [badB_false HLEN.out]
          intro t h3 h4
          exact HZ.out t (by rw [HP.out]; exact h3) (by omega)
        have HE2 := hidden (show unE b (N : Int) (M : Int) = 0 by rw [HE.out, hbad]; rfl)
        have HE3 := hidden (show unpI b (N : Int) (M : Int) = unpL b N M by unfold unpI; rw [if_pos HE2.out, Int.toNat_natCast, Int.toNat_natCast])
        have hni : ¬ ((i : Int) < 8 * (b.length : Int)) := by omega
        clear hbad hke
        go_wp2_with fail
        go_loopw [9, 10] (fun out k wr => RUnRel w b M N out k wr) (fun _ k _ => N - (intOf k).toNat)
        case atStart => exact ⟨0, by omega, rfl, ⟨rfl, .inl ⟨rfl, rfl⟩⟩, Below.refl _ _⟩
        case round =>
          obtain ⟨k, hk, rfl, hown, hbl⟩ := hrel
          have HOW := hidden hown
          have HBL := hidden hbl
          clear hown hbl
          by_cases hkn : k < N
          · have hroom : (k + 1) * M ≤ 8 * b.length := by
              have h5 : (k + 1) * M ≤ N * M := Nat.mul_le_mul_right M hkn
              have := HPP.out.1
              rw [HP.out] at this
              omega
            have HN := hidden (rnumber_any A c b k M wr (HB.out.grow HBL.out) hroom hM2 hl (by omega))
            have HUS := hidden (unpL_succ b k M)
            have HUL := hidden (unpL_length b k M)
            have hsz2 := HBL.out.size
            clear hroom
            go_wp2_with (first | (go_at_call 89; refine HN.out.mono ?_; rintro e w2 ⟨rfl, rfl⟩) | (at_builtin; go_loud (refine wpList_append_w rfl _ _ rfl _ (unpL b k M) (by rfl) w.heap.size HOW.out _ HBL.out hsz2 _ (numB b M k) rfl (by rfl) (by rw [HUL.out]; omega) ?_); intro v' w3 hown3 hb3))
            refine ⟨⟨k + 1, by omega, by go_num, ?_, by assumption⟩, by simp [intOf]; omega⟩
            rw [HUS.out]
            assumption
          · have hke : k = N := by omega
            subst hke
            go_wp2_with fail
            go_ret2
            refine ⟨_, by rw [HE2.out]; rfl, HBL.out, ?_⟩
            rw [HE3.out]
            exact Reads.of_own HOW.out
end Go.Proofs.Ytgmjoghgmcjebaa
