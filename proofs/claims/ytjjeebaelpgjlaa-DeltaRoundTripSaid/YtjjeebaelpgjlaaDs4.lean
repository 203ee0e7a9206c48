/-
  Package delta as it landed: readLeading. Nothing that was there is changed.
-/
import Derived.Test.YtjjeebaelpgjlaaDs1
import Derived.Test.YtjjeebaelpgjlaaDec
import Derived.Test.YtjjeebaelpgjlaaZig
namespace Go.Proofs.Ytjjeebaelpgjlaa
open Go.RowKit
set_option linter.unusedVariables false
set_option linter.unusedSimpArgs false

def hdLaid (acc : List Int) (d : Nat) : List Int := acc ++ List.replicate d 0
theorem hdLaid_set (acc : List Int) (d : Nat) (y : Int) : (hdLaid acc (d + 1)).set acc.length y = hdLaid (acc ++ [y]) d := by
  unfold hdLaid
  rw [List.replicate_succ, List.set_append_right _ _ (Nat.le_refl _), Nat.sub_self, List.set_cons_zero, List.append_assoc]
  rfl
theorem hdLaid_length (acc : List Int) (d : Nat) : (hdLaid acc d).length = acc.length + d := by unfold hdLaid; rw [List.length_append, List.length_replicate]
def LdRel (w : World) (g : Nat) (b : List UInt8) (k : Nat) (r : List Int × Int × Int) (p i : Value) (wr : World) : Prop :=
  ∃ (j : Nat) (acc : List Int) (q : Int), j ≤ k ∧ i = .int .i64 (j : Int) ∧ p = .int .i64 q ∧ acc.length = j ∧ (-9223372036854775808 ≤ q ∧ q ≤ 9223372036854775807) ∧ hdsD b (k - j) q acc = r ∧
    Row wr g 2 (icells (hdLaid acc (k - j))) ∧ Below w.heap.size w wr
set_option maxRecDepth 20000 in
set_option maxHeartbeats 8000000 in
theorem readLeading_any (A : Option Addr) (c : Nat) (b : List UInt8) (p : Int) (k : Nat) (w : World) (hb : IsBytes w (.slice A b.length c) b) (hl : b.length ≤ 1048576) (hk : k ≤ 2) (h63 : -9223372036854775808 ≤ p) (h64 : p ≤ 9223372036854775807) :
    Calls Try.prog 25 #[.slice A b.length c, .int .i64 p, .int .i64 (k : Int)] w (LDecR (hdsD b k p []) w) := by
  have HV := hidden hb
  have HP := hidden (And.intro h63 h64)
  obtain ⟨r, hr⟩ : ∃ r, r = hdsD b k p [] := ⟨_, rfl⟩
  rw [← hr]
  have HR := hidden hr.symm
  have hmi := fun W' => run_make_one (P := Try.prog) 22 2 (.int .i64 0) 8 Try.underlying22 info_i64 rfl k (by omega) (by omega) W'
  have HR9 := hidden (Row.at_ w 2 (List.replicate k (.int .i64 0)).toArray (icells (hdLaid [] k)) (by
    unfold hdLaid
    rw [List.nil_append, ← icells_zero]) w.heap.size rfl)
  have HB9 := hidden ((Below.refl w.heap.size w).alloc (Nat.le_refl _) (.cells (List.replicate k (.int .i64 0)).toArray 2))
  clear hb hr
  go_enter Try.func25, Try.ntmps25
  go_wp2_with fail
  clear hmi
  go_loopw [1, 18] (fun p i wr => LdRel w w.heap.size b k r p i wr) (fun _ i _ => k - (intOf i).toNat)
  case atStart => exact ⟨0, [], p, by omega, rfl, rfl, rfl, HP.out, HR.out, HR9.out, HB9.out⟩
  case round =>
    obtain ⟨j, acc, q, hj, rfl, rfl, hal, hq, hdr, hrow, hbw⟩ := hrel
    have HB := hidden hbw
    have HRW := hidden hrow
    have HDR := hidden hdr
    have HAL := hidden hal
    clear hrow hbw hdr hal HR9 HB9
    by_cases hlt : j < k
    · obtain ⟨x, p1, e1, hd⟩ : ∃ x p1 e1, dcd b q = (x, p1, e1) := ⟨_, _, _, rfl⟩
      have HDC := hidden (decode_any (.slice A b.length c) b q wr (HV.out.grow HB.out) (by unfold maxLen; omega) hq.1 hq.2)
      rw [hd] at HDC
      have hb1 := dcd_bd2 hd
      obtain ⟨d, hdd⟩ : ∃ d, d = k - (j + 1) := ⟨_, rfl⟩
      rw [show k - j = d + 1 by omega] at HDR HRW
      by_cases he : e1 = 0
      · subst he
        rw [hdsD_ok hd] at HDR
        obtain ⟨a1, a2, a3⟩ := hb1.2.2.1 rfl
        have HUZ := hidden (fun W' => unzigzag_any x W' hb1.1 (by have := hb1.2.1; omega))
        have HQ1 := hidden (show -9223372036854775808 ≤ p1 ∧ p1 ≤ 9223372036854775807 by omega)
        obtain ⟨y0, hcell⟩ : ∃ y0 : Int, wr.cell? ⟨w.heap.size, j, none⟩ = some (.int .i64 y0) := ⟨_, by rw [HRW.out.cell j, icells_get (by rw [hdLaid_length, HAL.out]; omega)]⟩
        have hfz := HRW.out.frozen j
        have hr5 := HRW.out.set_ j (.int .i64 (uz x))
        rw [icells_set, show j = acc.length from HAL.out.symm, hdLaid_set, HAL.out] at hr5
        have hb5 := HB.out.setCell (p := ⟨w.heap.size, j, none⟩) (Nat.le_refl _) (.int .i64 (uz x))
        have HR5 := hidden hr5
        have HB5 := hidden hb5
        have HDD := hidden hdd
        clear hd hb1 hq a1 a2 a3 hr5 hb5 hdd
        go_wp2_with fail
        refine HDC.out.mono ?_
        rintro e w2 ⟨rfl, rfl⟩
        go_wp2_with fail
        refine (HUZ.out wr).mono ?_
        rintro e w2 ⟨rfl, rfl⟩
        go_wp2_with fail
        refine ⟨⟨j + 1, acc ++ [uz x], p1, by omega, by go_num, rfl, by rw [List.length_append, HAL.out]; rfl, HQ1.out, by rw [← HDD.out]; exact HDR.out, by rw [← HDD.out]; exact HR5.out, HB5.out⟩, by simp [intOf]; omega⟩
      · rw [hdsD_e hd he] at HDR
        have hd0 : (e1 != 0) = true := by simpa using he
        clear hd he hb1 hq hdd
        go_wp2_with fail
        refine HDC.out.mono ?_
        rintro e w2 ⟨rfl, rfl⟩
        go_wp2_with fail
        go_ret3
        exact LDecR.err HDR.out.symm HB.out
    · rw [show k - j = 0 by omega, hdsD] at HDR
      rw [show k - j = 0 by omega] at HRW
      have HLA := hidden (show hdLaid acc 0 = acc by unfold hdLaid; simp)
      rw [HLA.out] at HRW
      have HKA := hidden (show k = acc.length by have := HAL.out; omega)
      clear hq
      go_wp2_with fail
      go_ret3
      exact ⟨_, by rw [← HDR.out]; rfl, by rw [← HDR.out]; exact Reads.of_row HRW.out k k (by rw [icells_length]; exact HKA.out) (Nat.le_refl _), HB.out⟩
end Go.Proofs.Ytjjeebaelpgjlaa
