/-
  The walk of the law ChecksumParts: it returns true for all byte slices a, b, c; nothing that was there is changed.
-/
import Derived.Test.YtepahejeeajfbaaCkLawCrc
namespace Go.Proofs.Ytepahejeeajfbaa
open Go.RowKit

theorem IsParts.new3 {w : World} {A B C : Option Addr} {c d e : Nat} {la lb lc : List UInt8} (ha : IsBytes w (.slice A la.length c) la) (hb : IsBytes w (.slice B lb.length d) lb) (hc : IsBytes w (.slice C lc.length e) lc) (E : TypeId) :
    IsParts (w.alloc (.cells #[.slice A la.length c, .slice B lb.length d, .slice C lc.length e] E)) (.slice (some ⟨w.heap.size, 0, none⟩) 3 3) [la, lb, lc] := by
  have hg : Grows w (w.alloc (.cells #[.slice A la.length c, .slice B lb.length d, .slice C lc.length e] E)) := (Below.refl _ _).alloc (Nat.le_refl _) _
  refine ⟨_, 3, rfl, fun _ => ⟨w.heap.size, 0, rfl, fun j hj => ?_⟩⟩
  match j, hj with
  | 0, _ => exact ⟨A, c, by rw [World.cell?_alloc_mark]; rfl, ha.grow hg⟩
  | 1, _ => exact ⟨B, d, by rw [World.cell?_alloc_mark]; rfl, hb.grow hg⟩
  | 2, _ => exact ⟨C, e, by rw [World.cell?_alloc_mark]; rfl, hc.grow hg⟩
theorem three_le {la lb lc : List UInt8} {n : Nat} (ha : la.length ≤ n) (hb : lb.length ≤ n) (hc : lc.length ≤ n) : ∀ l ∈ [la, lb, lc], l.length ≤ n := by
  intro l h
  simp at h
  rcases h with rfl | rfl | rfl <;> assumption

theorem parts_one (T : List UInt8) : crcParts [T] = crcOf 0 T := by simp [crcParts]
theorem parts_three (la lb lc : List UInt8) : crcParts [la, lb, lc] = crcOf 0 (la ++ lb ++ lc) := by simp [crcParts]
theorem parts_two (la lb lc : List UInt8) : crcOf (crcParts [la, lb]) lc = crcOf 0 (la ++ lb ++ lc) := by simp [crcParts, crcOf_append]

/-- an own row of at least one cell is a slice whose capacity holds its length -/
theorem own_cap {w : World} {base : Nat} {e : TypeId} {v : Value} {n : Nat} {xs : List Value} (h : w.ownsRow base e 1 v n xs) : ∃ A c, v = .slice A n c ∧ n ≤ c := by
  rcases h.2 with ⟨rfl, h0⟩ | ⟨g, cap, cur, rfl, _, hg, hn, _⟩
  · refine ⟨none, 0, ?_, ?_⟩
    · have : n = 0 := by have := h.1; simp_all
      subst this; rfl
    · have := h.1; simp_all
  · exact ⟨_, cap, rfl, by omega⟩

theorem own_shape {w : World} {base : Nat} {e : TypeId} {v : Value} {l : List UInt8} {m : Nat} (h : w.ownsRow base e 1 v m (bcells l)) (hm : m = l.length) : ∃ A c, v = .slice A l.length c ∧ l.length ≤ c ∧ IsBytes w (.slice A l.length c) l := by
  subst hm
  obtain ⟨A, c, rfl, hc⟩ := own_cap h
  exact ⟨A, c, rfl, hc, IsBytes.of_own h⟩

theorem ck_open_seal (A : Option Addr) (d : Nat) (T : List UInt8) (w : World) (hv : IsBytes w (.slice A (sealOf T).length d) (sealOf T)) (hl : T.length ≤ 15000) (hd : (sealOf T).length ≤ d) :
    Calls Try.prog 17 #[.slice A (sealOf T).length d] w fun e w' => ∃ B c, e = .returned (.tuple #[.slice B T.length c, .int .i64 0]) ∧ IsBytes w' (.slice B T.length c) T ∧ Grows w w' := by
  have h := ck_open A d (sealOf T) w hv (by rw [sealOf_length]; omega) hd
  rw [open_seal] at h
  exact h

set_option maxHeartbeats 1000000 in
theorem law_parts (A B C : Option Addr) (c d f : Nat) (la lb lc : List UInt8) (w : World) (hva : IsBytes w (.slice A la.length c) la) (hvb : IsBytes w (.slice B lb.length d) lb) (hvc : IsBytes w (.slice C lc.length f) lc) :
    Calls Try.prog 7 #[.slice A la.length c, .slice B lb.length d, .slice C lc.length f] w fun e w' => e = .returned (.bool true) ∧ Below w.heap.size w w' := by
  have HA := hidden hva
  have HB := hidden hvb
  have HC := hidden hvc
  by_cases hb : la.length ≤ 5000 ∧ lb.length ≤ 5000 ∧ lc.length ≤ 5000
  · obtain ⟨ha5, hb5, hc5⟩ := hb
    have hA' : ¬ (5000 < la.length) := by omega
    have hB' : ¬ (5000 < lb.length) := by omega
    have hC' : ¬ (5000 < lc.length) := by omega
    have p1 := hidden (show ([] : List UInt8).length + la.length ≤ 140737488355328 by simp; omega)
    have p2 := hidden (show ([] ++ la : List UInt8).length + lb.length ≤ 140737488355328 by simp; omega)
    have p3 := hidden (show (([] ++ la) ++ lb : List UInt8).length + lc.length ≤ 140737488355328 by simp; omega)
    obtain ⟨T, hT⟩ : ∃ T, T = la ++ lb ++ lc := ⟨_, rfl⟩
    have HX := hidden (show ([] ++ la) ++ lb ++ lc = T by rw [hT]; simp)
    have HLT := hidden (show T.length ≤ 15000 by rw [hT]; simp; omega)
    have HP3 := hidden (parts_three la lb lc)
    have HP2 := hidden (parts_two la lb lc)
    rw [← hT] at HP2 HP3
    clear hT
    go_enter Try.func7, Try.ntmps7
    go_wp2_with (first
      | (at_builtin; refine wpList_append_bytes (w := w) (wr := w) rfl _ _ 22 rfl 5 Try.underlying22 info8 _ [] (by rfl) (World.ownsRow_nil _ _ _ _) (Below.refl _ _) _ la (by rfl) HA.out p1.out ?_; intro v1 w1 hown1 hnx1)
      | (at_builtin; refine wpList_append_bytes (w := w) (wr := w1) rfl _ _ 22 rfl 5 Try.underlying22 info8 _ _ (by rfl) hown1 hnx1 _ lb (by rfl) (HB.out.grow hnx1) p2.out ?_; intro v2 w2 hown2 hnx2)
      | (at_builtin; refine wpList_append_bytes (w := w) (wr := w2) rfl _ _ 22 rfl 5 Try.underlying22 info8 _ _ (by rfl) hown2 hnx2 _ lc (by rfl) (HC.out.grow hnx2) p3.out ?_; intro v3 w3 hown3 hnx3; rw [HX.out] at hown3; obtain ⟨A3, c3, rfl, hc3, hv3⟩ := own_shape hown3 rfl))
    have HT3 := hidden hv3
    have HG3 := hidden hnx3
    clear hnx1 hown1 hnx2 hown2 hown3 hv3 hnx3
    have hlt := HLT.out
    have hgn : Grows w3 (w3.alloc (.cells #[.slice A3 T.length c3] 22)) := (Below.refl _ _).alloc (Nat.le_refl _) _
    have HG4 := hidden (Grows.of_below HG3.out hgn)
    have HT4 := hidden (HT3.out.grow hgn)
    clear hgn
    refine (ck_crc _ [T] _ (IsParts.new1 HT3.out _ _ _ rfl) (by simp) (by simp; omega)).mono ?_
    rintro e w5 ⟨rfl, hg5⟩
    rw [parts_one]
    have HG5 := hidden (Grows.of_below HG4.out hg5)
    have HT5 := hidden (HT4.out.grow hg5)
    clear hg5
    go_wp2_with fail
    refine (ck_seal _ T _ HT5.out (by omega)).mono ?_
    rintro e w6 ⟨v6, rfl, hown6, hg6⟩
    obtain ⟨A6, c6, rfl, hc6, hv6⟩ := own_shape hown6 rfl
    have HS6 := hidden hv6
    have HG6 := hidden (Grows.of_below HG5.out hg6)
    have HT6 := hidden (HT5.out.grow hg6)
    clear hg6 hown6 hv6
    go_wp2_with fail
    refine (ck_open_seal A6 c6 T _ HS6.out HLT.out hc6).mono ?_
    rintro e w7 ⟨A7, c7, rfl, hv7, hg7⟩
    have HS7 := hidden hv7
    have HG7 := hidden (Grows.of_below HG6.out hg7)
    have HT7 := hidden (HT6.out.grow hg7)
    have HA7 := hidden (HA.out.grow HG7.out)
    have HB7 := hidden (HB.out.grow HG7.out)
    have HC7 := hidden (HC.out.grow HG7.out)
    clear hg7 hv7
    go_wp2_with fail
    refine (ck_crc _ [la, lb, lc] _ (IsParts.new3 HA7.out HB7.out HC7.out _) (by simp) (three_le (by omega) (by omega) (by omega))).mono ?_
    rintro e w8 ⟨rfl, hg8⟩
    have hgn : Grows w7 (w7.alloc (.cells #[.slice A la.length c, .slice B lb.length d, .slice C lc.length f] 22)) := (Below.refl _ _).alloc (Nat.le_refl _) _
    have HG78 := hidden (Grows.of_below hgn hg8)
    clear hgn hg8
    rw [HP3.out]
    have HG8 := hidden (Grows.of_below HG7.out HG78.out)
    have HT8 := hidden (HT7.out.grow HG78.out)
    have HS8 := hidden (HS7.out.grow HG78.out)
    have HA8 := hidden (HA7.out.grow HG78.out)
    have HB8 := hidden (HB7.out.grow HG78.out)
    have HC8 := hidden (HC7.out.grow HG78.out)
    go_wp2_with fail
    refine (ck_crc _ [la, lb] _ (IsParts.new2 HA8.out HB8.out _) (by simp) (two_le (by omega) (by omega))).mono ?_
    rintro e w9 ⟨rfl, hg9⟩
    have hgn : Grows w8 (w8.alloc (.cells #[.slice A la.length c, .slice B lb.length d] 22)) := (Below.refl _ _).alloc (Nat.le_refl _) _
    have HG89 := hidden (Grows.of_below hgn hg9)
    clear hgn hg9
    have HG9 := hidden (Grows.of_below HG8.out HG89.out)
    have HT9 := hidden (HT8.out.grow HG89.out)
    have HS9 := hidden (HS8.out.grow HG89.out)
    have HC9 := hidden (HC8.out.grow HG89.out)
    go_wp2_with fail
    refine (ck_update (crcParts [la, lb]) _ lc _ (crcOf_lt _ _) HC9.out (by omega)).mono ?_
    rintro e w10 ⟨rfl, hg10⟩
    rw [HP2.out]
    have HG10 := hidden (Grows.of_below HG9.out hg10)
    have HT10 := hidden (HT9.out.grow hg10)
    have HS10 := hidden (HS9.out.grow hg10)
    clear hg10
    go_wp2_with fail
    refine (ck_update 0 _ T _ (by omega) HT10.out (by omega)).mono ?_
    rintro e w11 ⟨rfl, hg11⟩
    have HG11 := hidden (Grows.of_below HG10.out hg11)
    have HT11 := hidden (HT10.out.grow hg11)
    have HS11 := hidden (HS10.out.grow hg11)
    clear hg11
    go_wp2_with fail
    refine (same_any _ _ T T _ HS11.out HT11.out (by unfold maxLen; omega) (by unfold maxLen; omega)).mono ?_
    rintro e w12 ⟨rfl, hg12⟩
    have HG12 := hidden (Grows.of_below HG11.out hg12)
    clear hg12
    rw [sameB_t rfl]
    go_wp2_with fail
    refine (awake_any _).mono ?_
    rintro e w13 ⟨rfl, hg13⟩
    have HG13 := hidden (Grows.of_below HG12.out hg13)
    clear hg13
    go_wp2_with fail
    go_ret
    exact ⟨rfl, HG13.out⟩
  · go_enter Try.func7, Try.ntmps7
    go_wp2_with (go_at_call 9; refine (awake_any _).mono ?_; rintro e w7 ⟨rfl, hg7⟩)
    all_goals first
      | (go_ret; exact ⟨rfl, by assumption⟩)
      | (exfalso; omega)

end Go.Proofs.Ytepahejeeajfbaa
