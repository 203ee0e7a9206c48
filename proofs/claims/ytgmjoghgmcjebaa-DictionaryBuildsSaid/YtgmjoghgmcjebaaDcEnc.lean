/-
  Pure: the encoding of strings by a dictionary; and the width of codes and the words' bytes as the programs write them. Nothing that was there is changed.
-/
import Derived.Test.YtgmjoghgmcjebaaM10
import Derived.Test.YtgmjoghgmcjebaaRl7
import Derived.Test.YtgmjoghgmcjebaaM12
import Derived.Test.YtgmjoghgmcjebaaM13
import Derived.Test.YtgmjoghgmcjebaaM4
import Derived.Test.YtgmjoghgmcjebaaM6
import Derived.Test.YtgmjoghgmcjebaaM2
import Derived.Lib.MinMax
namespace Go.Proofs.Ytgmjoghgmcjebaa
open Go.RowKit
set_option linter.unusedVariables false
set_option linter.unusedSimpArgs false

def widW (k : Nat) : Nat := Lib.bitLen (k - 1)
def wordL (w : Str) : List UInt8 := enc w.length ++ w
def wordsL (ws : List Str) : List UInt8 := (ws.map wordL).flatten
def bytesW (ws : List Str) : List UInt8 := enc ws.length ++ wordsL ws
def intsL (cs : List Nat) : List Int := cs.map fun c : Nat => (c : Int)
def codesB (k : Nat) (cs : List Nat) : List UInt8 :=
  if (encR (runsR (intsL cs))).length < (packL cs (widW k)).length then 1 :: encR (runsR (intsL cs)) else 0 :: packL cs (widW k)
def encT (vs : List Str) : List UInt8 := bytesW (wordsOf vs) ++ codesB (wordsOf vs).length (codesW (wordsOf vs) vs)

theorem widW_le {k : Nat} (h : k ≤ 4611686018427387904) : widW k ≤ 64 := bitLen_64 (by omega)
theorem wordsL_snoc (ws : List Str) (w : Str) : wordsL (ws ++ [w]) = wordsL ws ++ wordL w := by simp [wordsL]
theorem wordsL_take {ws : List Str} {j : Nat} (h : j < ws.length) : wordsL (ws.take (j + 1)) = wordsL (ws.take j) ++ wordL ws[j] := by
  rw [List.take_succ_eq_append_getElem h, wordsL_snoc]
theorem enc_len10 {n : Nat} (h : n < 18446744073709551616) : (enc n).length ≤ 10 := by rw [enc_length h]; exact (esz_bd h).2
theorem wordL_len {w : Str} (h : w.length ≤ 1000000) : (wordL w).length ≤ 1000010 := by
  unfold wordL
  have := enc_len10 (n := w.length) (by omega)
  rw [List.length_append]; omega
theorem wordsL_len : ∀ {ws : List Str}, (∀ w ∈ ws, w.length ≤ 1000000) → (wordsL ws).length ≤ 1000010 * ws.length
  | [], _ => by simp [wordsL]
  | w :: r, h => by
    have h1 := wordL_len (h w (by simp))
    have h2 := wordsL_len (ws := r) fun x hx => h x (by simp [hx])
    have e : wordsL (w :: r) = wordL w ++ wordsL r := by simp [wordsL]
    rw [e, List.length_append, List.length_cons]; omega
theorem intsL_length (cs : List Nat) : (intsL cs).length = cs.length := by simp [intsL]
theorem runs_len (cs : List Nat) : (encR (runsR (intsL cs))).length ≤ 10 + 20 * cs.length := by
  have h1 := encR_len_le (runsR (intsL cs))
  have h2 := (runsR_len (intsL cs) (Nat.le_refl _)).2
  rw [List.take_length, intsL_length] at h2
  omega
theorem packL_len {cs : List Nat} {m : Nat} (h : cs.length ≤ 1048576) (hm : m ≤ 64) : (packL cs m).length ≤ 8388608 := by rw [packL_length]; exact szB_le h hm
theorem codesB_len {k : Nat} {cs : List Nat} (h : cs.length ≤ 1000000) (hk : k ≤ 1000000) : (codesB k cs).length ≤ 20000011 := by
  have h1 := runs_len cs
  have h2 := packL_len (cs := cs) (m := widW k) (by omega) (widW_le (by omega))
  unfold codesB
  split <;> simp <;> omega
theorem encT_len {vs : List Str} (h : vs.length ≤ 1000000) (hs : ∀ s ∈ vs, s.length ≤ 1000000) : (encT vs).length ≤ 1000100000000 := by
  have h0 := wordsOf_length vs
  have h1 := codesB_len (k := (wordsOf vs).length) (cs := codesW (wordsOf vs) vs) (by simp [codesW]; omega) (by omega)
  have h2 := wordsL_len (ws := wordsOf vs) fun w hw => hs w (mem_wordsOf.1 hw)
  have h3 := enc_len10 (n := (wordsOf vs).length) (by omega)
  unfold encT bytesW
  rw [List.length_append, List.length_append]
  omega

set_option maxHeartbeats 1000000 in
theorem codeWidth_any (k : Nat) (w : World) (hk : k ≤ 4611686018427387904) : Calls Try.prog 43 #[.int .i64 (k : Int)] w fun e w' => e = .returned (.int .i64 (widW k : Int)) ∧ w = w' := by
  have HB := hidden (bitWidth_any ((k - 1 : Nat) : Int) w (by omega) (by omega))
  rw [Int.toNat_natCast] at HB
  have hmx : max (0 : Int) ((k : Int) - 1) = ((k - 1 : Nat) : Int) := by omega
  have HW := hidden (show Lib.bitLen (k - 1) = widW k from rfl)
  generalize hK : k - 1 = K at *
  have hKl : K ≤ 4611686018427387904 := by omega
  clear hK
  go_enter Try.func43, Try.ntmps43
  go_wp2_with fail
  refine HB.out.mono ?_
  rintro e w' ⟨rfl, rfl⟩
  go_wp2_with fail
  go_ret
  exact ⟨by rw [HW.out]; rfl, rfl⟩
set_option maxHeartbeats 1000000 in
theorem rwidth10_any (k : Nat) (w : World) (hk : k ≤ 4611686018427387904) : Calls Try.prog 36 #[.int .i64 (k : Int)] w fun e w' => e = .returned (.int .i64 (widW k : Int)) ∧ w = w' := by
  by_cases h0 : k = 0
  · subst h0
    have HW := hidden (show widW 0 = 0 from bitLen_zero)
    go_enter Try.func36, Try.ntmps36
    go_wp2_with fail
    go_ret
    exact ⟨by rw [HW.out]; rfl, rfl⟩
  · obtain ⟨K, rfl⟩ : ∃ K, k = K + 1 := ⟨k - 1, by omega⟩
    have HB := hidden (rbitWidth_any (K : Int) w (by omega) (by omega))
    rw [Int.toNat_natCast] at HB
    have HW := hidden (show Lib.bitLen K = widW (K + 1) from rfl)
    generalize hk2 : K + 1 = k at *
    have h1 : ((k : Int) == 0) = false := by simp; omega
    have h2 : (k : Int) - 1 = (K : Int) := by omega
    have hkl : K ≤ 4611686018427387904 := by omega
    clear hk2 h0
    go_enter Try.func36, Try.ntmps36
    go_wp2_with fail
    refine HB.out.mono ?_
    rintro e w' ⟨rfl, rfl⟩
    go_wp2_with fail
    go_ret
    exact ⟨by rw [HW.out]; rfl, rfl⟩
end Go.Proofs.Ytgmjoghgmcjebaa
