/-
  Shaken: what the claims of this seat need of this text. No condition.
-/
import Derived.Test.YtoaklmceejeblaaGreatM15
import Derived.Test.YtoaklmceejeblaaGreatVc1
import Derived.Test.YtoaklmceejeblaaGreatM11
namespace Go.Proofs.YtoaklmceejeblaaGreat
set_option maxRecDepth 8000
open Go.RowKit
set_option linter.unusedVariables false
set_option linter.unusedSimpArgs false
theorem qisNull_any (k n : Int) (t : ByteArray) (w : World) : Calls Tryz.prog 40 #[.agg #[.int .i64 k, .int .i64 n, .string t]] w fun e w' => e = .returned (.bool (k == 0)) ∧ Grows w w' := by
  have HG := hidden (growK w (.cells #[.int .i64 k, .int .i64 n, .string t] 35))
  go_enter Tryz.func40, Tryz.ntmps40
  go_wp2_with fail
  go_ret
  exact ⟨rfl, HG.out⟩
theorem qdifference_any (a b c d : Int) (w : World) (h1 : -9223372036854775808 ≤ a - d ∧ a - d ≤ 9223372036854775807) (h2 : -9223372036854775808 ≤ b - c ∧ b - c ≤ 9223372036854775807) : Calls Tryz.prog 76 #[.agg #[.int .i64 a, .int .i64 b], .agg #[.int .i64 c, .int .i64 d]] w fun e w' => e = .returned (.agg #[.int .i64 (a - d), .int .i64 (b - c)]) ∧ Grows w w' := by
  obtain ⟨a1, a2⟩ := h1
  obtain ⟨b1, b2⟩ := h2
  have e1 : wrap64 (a - d) = a - d := by unfold wrap64; omega
  have e2 : wrap64 (b - c) = b - c := by unfold wrap64; omega
  go_enter Tryz.func76, Tryz.ntmps76
  have HB := hidden (show Row (((w.alloc (.cells #[.int .i64 a, .int .i64 b] 40)).alloc (.cells #[.int .i64 c, .int .i64 d] 40)).alloc (.cells #[.int .i64 0, .int .i64 0] 40)) (w.heap.size + 1 + 1) 40 [.int .i64 0, .int .i64 0] by
    have h := Row.new ((w.alloc (.cells #[.int .i64 a, .int .i64 b] 40)).alloc (.cells #[.int .i64 c, .int .i64 d] 40)) 40 #[.int .i64 0, .int .i64 0] [.int .i64 0, .int .i64 0] rfl
    have e : ((w.alloc (.cells #[.int .i64 a, .int .i64 b] 40)).alloc (.cells #[.int .i64 c, .int .i64 d] 40)).heap.size = w.heap.size + 1 + 1 := by simp
    rwa [e] at h)
  have HG := hidden (((growK w (.cells #[.int .i64 a, .int .i64 b] 40)).of_below (growK _ (.cells #[.int .i64 c, .int .i64 d] 40))).of_below (growK _ (.cells #[.int .i64 0, .int .i64 0] 40)))
  go_wp2_with ((with_reducible refine at_bd rfl _ _ rfl ?_); refine wpList_store_bd rfl _ _ rfl _ rfl (w.heap.size + 1 + 1) rfl (a - d) (b - c) (by go_simp; try rfl) _ _ HB.out ?_; intro W hr hg; have HRR := hidden hr; have HGG := hidden (hg w HG.out (by omega)); clear hr hg)
  refine bodyPost_ret (results_bd rfl _ _ _ _ _ rfl HRR.out) rfl ⟨rfl, HGG.out⟩
theorem qpresent_any (r n : Int) (A1 A2 A3 A4 : Option Addr) (l1 c1 l2 c2 l3 c3 l4 c4 : Nat) (b : Bool) (w : World) (h : -9223372036854775808 ≤ r - n ∧ r - n ≤ 9223372036854775807) :
    Calls Tryz.prog 67 #[.agg #[.int .i64 r, .int .i64 n, .slice A1 l1 c1, .bool b, .slice A2 l2 c2, .slice A3 l3 c3, .slice A4 l4 c4]] w fun e w' => e = .returned (.int .i64 (r - n)) ∧ Grows w w' := by
  have HG := hidden (growK w (.cells #[.int .i64 r, .int .i64 n, .slice A1 l1 c1, .bool b, .slice A2 l2 c2, .slice A3 l3 c3, .slice A4 l4 c4] 29))
  obtain ⟨h1, h2⟩ := h
  go_enter Tryz.func67, Tryz.ntmps67
  go_wp2_with fail
  go_ret
  exact ⟨by go_num, HG.out⟩
def kindK : List Val → Int
  | [] => 0
  | f :: _ => f.k
theorem qkind_any (v : Value) (s : Sk) (w : World) (hk : IsK w v s) : Calls Tryz.prog 84 #[v] w fun e w' => e = .returned (.int .i64 (kindK s.fs)) ∧ Grows w w' := by
  obtain ⟨A1, A2, A3, A4, c1, c2, c3, c4, rfl, -, -, h3, -⟩ := hk
  obtain ⟨sr, sn, hs, ok, cm, fs, rk⟩ := s
  simp only [] at *
  have HG := hidden (growK w (.cells #[.int .i64 sr, .int .i64 sn, .slice A1 hs.length c1, .bool ok, .slice A2 cm.length c2, .slice A3 fs.length c3, .slice A4 rk.length c4] 29))
  cases fs with
  | nil =>
    simp only [List.length_nil] at *
    clear h3
    go_enter Tryz.func84, Tryz.ntmps84
    go_wp2_with fail
    go_ret
    exact ⟨rfl, HG.out⟩
  | cons f fs =>
    obtain ⟨A', c', he, _, hcell⟩ := h3.grow HG.out
    injection he with e1 e2 e3
    subst e1 e3
    obtain ⟨bb, off, rfl, hcell2⟩ := hcell (by simp)
    obtain ⟨k1, -, -⟩ := hcell2 0 f rfl
    rw [Nat.zero_mul, Nat.add_zero] at k1
    obtain ⟨L, hL⟩ : ∃ L, L = (f :: fs).length := ⟨_, rfl⟩
    have hL1 : 0 < L := by rw [hL]; simp
    have d1 : (L == 0) = false := by simp; omega
    have d2 : ((L : Int) == 0) = false := by simp; omega
    rw [← hL] at HG k1 ⊢
    clear hcell hcell2 e2 hL h3
    go_enter Tryz.func84, Tryz.ntmps84
    go_wp2_with fail
    go_ret
    exact ⟨rfl, HG.out⟩
theorem qrank_any (v : Value) (s : Sk) (i : Nat) (w : World) (hk : IsK w v s) (hi : i ≤ 1000000) (hl : s.rk.length ≤ 1000000) : Calls Tryz.prog 89 #[v, .int .i64 (i : Int)] w fun e w' => e = .returned (.int .i64 (s.rk.getD i 0)) ∧ Grows w w' := by
  obtain ⟨A1, A2, A3, A4, c1, c2, c3, c4, rfl, -, -, -, h4⟩ := hk
  have HG := hidden (growK w (.cells #[.int .i64 s.rows, .int .i64 s.nulls, .slice A1 s.hs.length c1, .bool s.ok, .slice A2 s.cm.length c2, .slice A3 s.fs.length c3, .slice A4 s.rk.length c4] 29))
  by_cases hlt : i < s.rk.length
  · have hg : s.rk.getD i 0 = s.rk[i] := by rw [List.getD_eq_getElem?_getD, List.getElem?_eq_getElem hlt]; rfl
    rw [hg]
    obtain ⟨A', c', he, _, hcell⟩ := h4.grow HG.out
    rw [icells_length] at he hcell
    injection he with e1 e2 e3
    subst e1 e3
    obtain ⟨bb, off, rfl, hcell2⟩ := hcell (by omega)
    have hck := hcell2 i hlt
    rw [icells_get hlt] at hck
    generalize s.rk[i] = y at *
    have d1 : decide ((s.rk.length : Int) ≤ (i : Int)) = false := by simp; omega
    have d2 : decide (s.rk.length ≤ i) = false := by simp; omega
    have hi0 : (0 : Int) ≤ (i : Int) := by omega
    have hi1 : (i : Int) < (s.rk.length : Int) := by omega
    clear hcell hcell2 e2 h4 hg
    go_enter Tryz.func89, Tryz.ntmps89
    go_wp2_with fail
    go_ret
    exact ⟨rfl, HG.out⟩
  · have hg : s.rk.getD i 0 = 0 := by rw [List.getD_eq_getElem?_getD, List.getElem?_eq_none (by omega)]; rfl
    rw [hg]
    have d1 : decide ((s.rk.length : Int) ≤ (i : Int)) = true := by simp; omega
    have d2 : decide (s.rk.length ≤ i) = true := by simp; omega
    clear hg h4
    go_enter Tryz.func89, Tryz.ntmps89
    go_wp2_with fail
    go_ret
    exact ⟨rfl, HG.out⟩
end Go.Proofs.YtoaklmceejeblaaGreat
