/-
  The library's functions that package literal calls, in this proof's own words, over a world where the listed variables lie as the program's text lays them ('Fit').
-/
import Derived.Test.YtaiphocnfkkigaaDoorShelf
import Derived.Test.YtaiphocnfkkigaaDoorWords
import Derived.Test.YtaiphocnfkkigaaDoorStr
import Derived.Test.YtaiphocnfkkigaaDoorLqNum
import Derived.Test.YtaiphocnfkkigaaDoorLkNum
import Derived.Lib.SmallJoins
namespace Go.Proofs.YtaiphocnfkkigaaDoor
open Go.RowKit Go.Joins
set_option linter.unusedVariables false
set_option linter.unusedSimpArgs false

theorem gPow : Tryd.prog.globalNamed "internal/strconv.uint64pow10" = some 2 := by kernel_rfl
theorem grows_grow (w : World) (k : Nat) (os : Array Obj) : Grows w (Sort.grow (w.drewN k) os) :=
  ⟨rfl, rfl, rfl, by simp [Sort.grow, World.drewN], fun j hj => by simp [Sort.grow, World.drewN, Array.getElem?_append, hj]⟩
/-- what the walks read of the variables -/
structure Fit (w : World) : Prop where
  len : ∃ m, w.cell? ⟨3, 0, none⟩ = some (.int .i64 m)
  tab : Lib.TabIs Tryd.prog w "internal/strconv.uint64pow10" .u64 Lib.pow10Tab
  rng : ∃ ev, w.cell? ⟨1, 0, none⟩ = some ev ∧ (ev = .nilIface ∨ ∃ te pe, ev = .iface te pe)
theorem Fit.grow {w w' : World} (h : Fit w) (hb : Grows w w') : Fit w' := by
  obtain ⟨⟨m, hm⟩, ht, ev, hv, he⟩ := h
  exact ⟨⟨m, (hb.cell (World.block_lt_of_cell? w _ hm)).trans hm⟩, tab_stays gPow ht hb (Nat.le_refl _), ev, (hb.cell (World.block_lt_of_cell? w _ hv)).trans hv, he⟩
theorem lib_format (n : Int) (w : World) (h : Fit w) (h0 : -9223372036854775808 ≤ n) (h1 : n ≤ 9223372036854775807) :
    Calls Tryd.prog 36 #[.int .i64 n, .int .i64 10] w fun e w' => e = .returned (.string (strOf (fmtI n))) ∧ Grows w w' :=
  (Tryd.strconv_FormatInt_10 n h0 h1 w h.tab).mono fun e w' ⟨he, k, os, hw⟩ => by
    rw [itoa_fmtI n h0 h1] at he
    exact ⟨he, hw ▸ grows_grow w k os⟩
theorem lib_parse_ok (l : List UInt8) (v : Int) (w : World) (hl : l.length ≤ 1048576) (h : Lib.parseIntB 64 l = .ok v) :
    Calls Tryd.prog 35 #[.string (strOf l), .int .i64 10, .int .i64 64] w fun e w' => e = .returned (.tuple #[.int .i64 v, .nilIface]) ∧ Grows w w' :=
  (Tryd.strconv_ParseInt_10_at64_ok (strOf l) (by rw [strOf_size]; omega) v h w).mono fun e w' ⟨he, hw⟩ => ⟨he, by
    rcases hw with rfl | ⟨t, rfl⟩
    · exact Below.refl _ _
    · exact below_bytesWorld _ w _ t (Nat.le_refl _)⟩
theorem lib_parse_range (l : List UInt8) (w : World) (hw : Fit w) (hl : l.length ≤ 1048576) (h : Lib.parseIntB 64 l = .range) :
    Calls Tryd.prog 35 #[.string (strOf l), .int .i64 10, .int .i64 64] w fun e w' => ∃ (v : Int) (t : TypeId) (p : Value), e = .returned (.tuple #[.int .i64 v, .iface t p]) ∧ Grows w w' := by
  obtain ⟨ev, hv, he⟩ := hw.rng
  exact (Tryd.strconv_ParseInt_10_at64_range (strOf l) (by rw [strOf_size]; omega) h ev w hv he).mono fun e w' ⟨N, he, _, _, hb⟩ => ⟨_, _, _, he, hb⟩
theorem lib_hasPrefix (l p : List UInt8) (w : World) : Calls Tryd.prog 37 #[.string (strOf l), .string (strOf p)] w fun e w' => e = .returned (.bool (p.isPrefixOf l)) ∧ w = w' :=
  (Tryd.strings_HasPrefix (strOf l) (strOf p) w).mono fun e w' ⟨he, hw⟩ => ⟨he, hw.symm⟩
theorem lib_hasSuffix (l p : List UInt8) (w : World) (hl : l.length ≤ 4611686018427387900) : Calls Tryd.prog 38 #[.string (strOf l), .string (strOf p)] w fun e w' => e = .returned (.bool (p.isSuffixOf l)) ∧ w = w' :=
  (Tryd.strings_HasSuffix (strOf l) (strOf p) w (by rw [strOf_size]; omega)).mono fun e w' ⟨he, hw⟩ => ⟨he, hw.symm⟩
theorem lib_trimPrefix (l p : List UInt8) (w : World) : Calls Tryd.prog 46 #[.string (strOf l), .string (strOf p)] w fun e w' => e = .returned (.string (strOf (Lib.trimPrefix l p))) ∧ w = w' :=
  (Tryd.strings_TrimPrefix (strOf l) (strOf p) w).mono fun e w' ⟨he, hw⟩ => ⟨he, hw.symm⟩
theorem lib_replace (l old new : List UInt8) (w : World) (h : Fit w) (hl : l.length ≤ 1048576) (ho : 1 ≤ old.length) (hn : new.length ≤ 2) :
    Calls Tryd.prog 40 #[.string (strOf l), .string (strOf old), .string (strOf new)] w fun e w' => e = .returned (.string (strOf (Lib.replaceAll l old new))) ∧ Grows w w' := by
  obtain ⟨m, hm⟩ := h.len
  have hc : Lib.countB (strOf l) (strOf old) ≤ (strOf l).size := Lib.countB_le (strOf old) (by rw [strOf_size]; exact ho) _ (strOf l) (Nat.le_refl _)
  rw [strOf_size] at hc
  have hmul : Lib.countB (strOf l) (strOf old) * (strOf new).size ≤ 1048576 * 2 := Nat.mul_le_mul (by omega) (by rw [strOf_size]; exact hn)
  exact Any.strings_ReplaceAll { Tryd.laysM155 with } Tryd.Builder_Extra_M155 (strOf l) (strOf old) (strOf new) m w (by rw [strOf_size]; omega) hm (by rw [strOf_size]; exact ho) (by rw [strOf_size]; omega)
theorem lib_split (l : List UInt8) (w : World) (h : Fit w) (hl : l.length ≤ 1048576) :
    Calls Tryd.prog 43 #[.string (strOf l), .string (strOf [37])] w fun e w' => e = .returned (.slice (some ⟨w.heap.size, 0, none⟩) (pieces l).length (pieces l).length) ∧ w' = w.alloc (.cells ((pieces l).map fun p => Value.string (strOf p)).toArray 9) := by
  obtain ⟨m, hm⟩ := h.len
  have e1 : Lib.splitB (strOf [37]) 0 (Lib.countB (strOf l) (strOf [37])) (strOf l) = (pieces l).map strOf := by
    have h1 := Lib.splitB_data (strOf [37]) 0 (Lib.countB (strOf l) (strOf [37])) (strOf l)
    have h2 : Lib.splitK (strOf [37]).data.toList 0 (Lib.countB (strOf l) (strOf [37])) (strOf l).data.toList = pieces l := splitK_pieces l
    rw [h2] at h1
    rw [← h1, List.map_map]
    have : (strOf ∘ fun x : ByteArray => x.data.toList) = id := by funext x; rfl
    rw [this, List.map_id]
  have e2 : Lib.countB (strOf l) (strOf [37]) + 1 = (pieces l).length := by
    have h3 := Lib.splitB_all (strOf [37]) (by decide) 0 _ (strOf l) rfl
    rw [e1, List.length_map] at h3
    exact h3.symm
  have h4 := Any.strings_Split { Tryd.laysM146 with } Tryd.laysM146.i9 (strOf l) (strOf [37]) m w (by rw [strOf_size]; omega) hm (by decide)
  rw [e1, List.map_map] at h4
  refine h4.mono fun e w' ⟨he, hw⟩ => ⟨?_, hw⟩
  rw [he]
  show Ending.returned (Value.slice _ (Lib.countB (strOf l) (strOf [37]) + 1) (Lib.countB (strOf l) (strOf [37]) + 1)) = _
  rw [e2]
theorem lib_join (bk c : Nat) (xs : List (List UInt8)) (w : World) (hr : Row w bk 9 (xs.map fun p => Value.string (strOf p))) (hbk : bk < w.heap.size) (hN : xs.length ≤ 1048576) (hcap : xs.length ≤ c) (hlen : (Lib.join xs [44, 32]).length ≤ 140737488355328) :
    Calls Tryd.prog 42 #[.slice (some ⟨bk, 0, none⟩) xs.length c, .string (strOf [44, 32])] w fun e w' => e = .returned (.string (strOf (Lib.join xs [44, 32]))) ∧ Grows w w' := by
  have e0 : (xs.map strOf).map (fun x : ByteArray => x.data.toList) = xs := by
    rw [List.map_map]
    have : ((fun x : ByteArray => x.data.toList) ∘ strOf) = id := by funext x; rfl
    rw [this, List.map_id]
  have h := Tryd.strings_Join bk 0 c (xs.map strOf) (strOf [44, 32]) w (fun j x hj => by
    rw [List.getElem?_map] at hj
    have hc := hr.cell j
    rw [List.getElem?_map] at hc
    cases hx : xs[j]? with
    | none => rw [hx] at hj; cases hj
    | some p =>
      rw [hx] at hj hc
      have e : strOf p = x := by simpa using hj
      subst e
      simpa using hc) hbk (by rw [List.length_map]; omega) (by rw [List.length_map]; exact hcap) (by rw [e0]; exact hlen)
  rw [e0, List.length_map] at h
  exact h
end Go.Proofs.YtaiphocnfkkigaaDoor
