/-
  The reference of package literal: FormatRow. Nothing that was there is changed.
-/
import Derived.Test.YtaiphocnfkkigaaDoorLit6
import Derived.Test.YtaiphocnfkkigaaDoorVRow
import Derived.Lib.Join
namespace Go.Proofs.YtaiphocnfkkigaaDoor
open Go.RowKit
set_option linter.unusedVariables false
set_option linter.unusedSimpArgs false

def litV (x : Val) : List UInt8 := fmtV x.k x.n x.t.data.toList
/-- a value whose literal is short -/
def smallV (x : Val) : Prop := (-9223372036854775808 ≤ x.n ∧ x.n < 9223372036854775808) ∧ x.t.size ≤ 4096
theorem fmtI_length (n : Int) (h0 : -9223372036854775808 ≤ n) (h1 : n < 9223372036854775808) : (fmtI n).length ≤ 21 := by
  unfold fmtI
  have := decP_length 20 n.natAbs (by omega)
  split
  · simp
  · split
    · simp; omega
    · omega
theorem quoteL_length (t : List UInt8) : (quoteL t).length ≤ 2 * t.length + 2 := by
  have := dblQ_length t
  unfold quoteL
  simp
  omega
theorem litV_length {x : Val} (h : smallV x) : (litV x).length ≤ 8200 := by
  obtain ⟨⟨h0, h1⟩, h2⟩ := h
  have h3 : x.t.data.toList.length = x.t.size := rfl
  unfold litV fmtV
  split
  · split <;> simp
  · split
    · have := fmtI_length x.n h0 h1; omega
    · split
      · have := quoteL_length x.t.data.toList; omega
      · simp
def rowL (l : List Val) : List UInt8 := Lib.join (l.map litV) [44, 32]
theorem rowL_zero (l : List Val) : rowL (l.take 0) = [] := rfl
theorem rowL_one {l : List Val} {x : Val} (h : l[0]? = some x) : rowL (l.take 1) = litV x := by
  cases l with
  | nil => simp at h
  | cons y r =>
    have e : y = x := by simpa using h
    subst e
    show Lib.join [litV y] [44, 32] = _
    rw [Lib.join_one]
theorem rowL_succ {l : List Val} {j : Nat} {x : Val} (h0 : 0 < j) (h : l[j]? = some x) : rowL (l.take (j + 1)) = rowL (l.take j) ++ [44, 32] ++ litV x := by
  cases l with
  | nil => simp at h
  | cons y r =>
    obtain ⟨i, rfl⟩ : ∃ i, j = i + 1 := ⟨j - 1, by omega⟩
    rw [List.getElem?_cons_succ] at h
    unfold rowL
    rw [List.take_succ_cons, List.take_succ_cons, List.map_cons, List.map_cons, Lib.join_cons, Lib.join_cons, List.map_take, List.map_take, Lib.joinTail_take_succ _ _ i (litV x) (by rw [List.getElem?_map, h]; rfl)]
    simp
theorem rowL_length {l : List Val} (hs : ∀ x ∈ l, smallV x) : ∀ j, j ≤ l.length → (rowL (l.take j)).length ≤ 8202 * j
  | 0, _ => by rw [rowL_zero]; simp
  | j + 1, hj => by
    obtain ⟨x, hx⟩ : ∃ x, l[j]? = some x := ⟨_, List.getElem?_eq_getElem (by omega)⟩
    have hlit := litV_length (hs x (List.mem_of_getElem? hx))
    have ih := rowL_length hs j (by omega)
    rcases Nat.eq_zero_or_pos j with rfl | h0
    · rw [rowL_one hx]; omega
    · rw [rowL_succ h0 hx]; simp; omega
def RFRel (w : World) (l : List Val) (s i : Value) (wr : World) : Prop := ∃ j : Nat, j ≤ l.length ∧ i = .int .i64 (j : Int) ∧ s = .string (strOf (rowL (l.take j))) ∧ Grows w wr
set_option maxHeartbeats 2000000 in
theorem rformatrow_any (v : Value) (l : List Val) (w : World) (hr : ReadsV w v l) (hs : ∀ x ∈ l, smallV x) (hl : l.length ≤ 1048576) : Calls Tryd.prog 27 #[v] w fun e w' => e = .returned (.string (strOf (rowL l))) ∧ Grows w w' := by
  have HR := hidden hr
  have HS := hidden hs
  obtain ⟨A, c, rfl, hle, hxx⟩ := hr
  clear hxx hs
  go_enter Tryd.func27, Tryd.ntmps27
  go_wp2_with fail
  go_loopw [3, 4] (fun s i wr => RFRel w l s i wr) (fun _ i _ => l.length - (intOf i).toNat)
  case atStart => exact ⟨0, Nat.zero_le _, rfl, rfl, Below.refl _ _⟩
  case round =>
    obtain ⟨j, hj, rfl, rfl, hb⟩ := hrel
    have HB := hidden hb
    clear hb
    by_cases hlt : j < l.length
    · obtain ⟨A', c', he, _, hcell⟩ := HR.out.grow HB.out
      injection he with e1 e2 e3
      subst e1 e3
      obtain ⟨b, off, rfl, hcell2⟩ := hcell (by omega)
      obtain ⟨x, hx⟩ : ∃ x, l[j]? = some x := ⟨_, List.getElem?_eq_getElem hlt⟩
      obtain ⟨c1, c2, c3⟩ := hcell2 j x hx
      have HX := hidden hx
      have hj0 : (0 : Int) ≤ (j : Int) := by omega
      have hj1 : (j : Int) < (l.length : Int) := by omega
      have hd : decide (j < l.length) = true := by simpa using hlt
      have HSM := hidden (HS.out x (List.mem_of_getElem? hx))
      have HF := hidden (fun w => rformatv_any x.k x.n x.t.data.toList w HSM.out.1.1 HSM.out.1.2 (by have h1 := HSM.out.2; have h2 : x.t.data.toList.length = x.t.size := rfl; omega))
      have HLN := hidden (rowL_length HS.out j hj)
      have HLL := hidden (litV_length HSM.out)
      clear hcell hcell2 e2 hx
      rcases Nat.eq_zero_or_pos j with h0 | h0
      · have HT := hidden (show rowL (l.take (j + 1)) = rowL (l.take j) ++ litV x by rw [h0, rowL_zero, List.nil_append]; exact rowL_one (by rw [← h0]; exact HX.out))
        have hgt : decide (0 < j) = false := by simpa using Nat.le_zero.2 h0
        have hgt2 : decide ((0 : Int) < (j : Int)) = false := by simp; omega
        clear h0
        go_wp2_with (first | (refine wpList_add_l rfl _ _ 9 rfl (rowL (l.take j)) (litV x) rfl rfl (by have h1 := HLN.out; have h2 := HLL.out; omega) ?_))
        refine (HF.out _).mono ?_
        rintro e w2 ⟨rfl, g2⟩
        have HB2 := hidden (HB.out.of_below g2)
        clear g2 c1 c2 c3
        go_wp2_with (first | (refine wpList_add_l rfl _ _ 9 rfl (rowL (l.take j)) (litV x) rfl rfl (by have h1 := HLN.out; have h2 := HLL.out; omega) ?_))
        go_roundw
        case rel => exact ⟨j + 1, by omega, by go_num, by rw [HT.out], HB2.out⟩
        case measure => simp [intOf]; omega
      · have HT := hidden (rowL_succ h0 HX.out)
        have hgt : decide (0 < j) = true := by simpa using h0
        have hgt2 : decide ((0 : Int) < (j : Int)) = true := by simp; omega
        clear h0
        go_wp2_with (first | (refine wpList_add_l rfl _ _ 9 rfl (rowL (l.take j)) [44, 32] rfl rfl (by have h1 := HLN.out; simp only [List.length_cons, List.length_nil]; omega) ?_))
        refine (HF.out _).mono ?_
        rintro e w2 ⟨rfl, g2⟩
        have HB2 := hidden (HB.out.of_below g2)
        clear g2 c1 c2 c3
        go_wp2_with (first | (refine wpList_add_l rfl _ _ 9 rfl (rowL (l.take j) ++ [44, 32]) (litV x) rfl rfl (by have h1 := HLN.out; have h2 := HLL.out; simp only [List.length_append, List.length_cons, List.length_nil]; omega) ?_))
        go_roundw
        case rel => exact ⟨j + 1, by omega, by go_num, by rw [HT.out]; simp, HB2.out⟩
        case measure => simp [intOf]; omega
    · have hd : decide (j < l.length) = false := by simpa using hlt
      have HE := hidden (show l.take j = l from List.take_of_length_le (by omega))
      go_wp2_with fail
      go_ret
      exact ⟨by rw [HE.out]; rfl, HB.out⟩
end Go.Proofs.YtaiphocnfkkigaaDoor
