/-
  Texts that the claims of this seat share, put together (Vd0, Vd1, Vd2). No condition.
-/
import Derived.Test.YtfjhahhkakfhmaaM6
import Derived.Test.YtfjhahhkakfhmaaM3
/-
  Shaken: what the claims of this seat need of this text. No condition.
-/
namespace Go.Proofs.Ytfjhahhkakfhmaa
set_option maxRecDepth 8000
open Go.RowKit
set_option linter.unusedVariables false
set_option linter.unusedSimpArgs false
def entD {α : Type} (l : List α) (i : Int) (d : α) : α := if 0 ≤ i ∧ i < (l.length : Int) then l.getD i.toNat d else d
theorem entD_in {α : Type} {l : List α} {k : Nat} {d : α} (h : k < l.length) : entD l (k : Int) d = l[k] := by
  unfold entD
  rw [if_pos ⟨by omega, by omega⟩, Int.toNat_natCast, List.getD_eq_getElem?_getD, List.getElem?_eq_getElem h]
  rfl
theorem entD_out {α : Type} {l : List α} {i : Int} {d : α} (h : i < 0 ∨ (l.length : Int) ≤ i) : entD l i d = d := by
  unfold entD
  rw [if_neg (by omega)]
theorem foldl_eq17 : ∀ (l : List Val) (v : Vec), l.foldl putV v = ⟨v.T, if v.T = 1 ∨ v.T = 2 then v.is ++ l.map (·.n) else v.is, if v.T = 3 then v.ts ++ l.map (·.t.data.toList) else v.ts, v.ns ++ l.map (fun y => decide (y.k = 0))⟩
  | [], v => by simp
  | y :: l, v => by
    rw [List.foldl_cons, foldl_eq17 l]
    have e : (putV v y).T = v.T := rfl
    rw [e]
    unfold putV
    simp only [List.map_cons, Vec.mk.injEq, true_and]
    refine ⟨?_, ?_, ?_⟩
    · by_cases h : v.T = 1 ∨ v.T = 2
      · simp only [if_pos h, List.append_assoc, List.singleton_append]
      · simp only [if_neg h]
    · by_cases h : v.T = 3
      · simp only [if_pos h, List.append_assoc, List.singleton_append]
      · simp only [if_neg h]
    · simp only [List.append_assoc, List.singleton_append]
theorem buildV_eq (T : Int) (l : List Val) : buildV T l = ⟨T, if T = 1 ∨ T = 2 then l.map (·.n) else [], if T = 3 then l.map (·.t.data.toList) else [], l.map (fun y => decide (y.k = 0))⟩ := by
  unfold buildV
  rw [foldl_eq17]
  simp only [List.nil_append]
theorem data_strOf (s : Str) : (strOf s).data.toList = s := by simp [strOf]
theorem atI_parts {v : Vec} (h : validVB v = true) (i : Int) : (v.T = 1 ∨ v.T = 2 → (atI v i).n = entD v.is i 0) ∧ (v.T = 3 → (atI v i).t.data.toList = entD v.ts i []) ∧ decide ((atI v i).k = 0) = entD v.ns i true := by
  obtain ⟨h1, h2, h3, h4⟩ := validVB_iff.1 h
  obtain ⟨l1, l2⟩ := lens_of h2 h3
  unfold atI
  by_cases hr : 0 ≤ i ∧ i < (v.ns.length : Int)
  · rw [if_pos hr]
    obtain ⟨j, rfl⟩ := Int.eq_ofNat_of_zero_le hr.1
    have hj : j < v.ns.length := by omega
    rw [Int.toNat_natCast]
    have he := h4 j hj
    rw [entryB_eq] at he
    have en : v.ns.getD j true = v.ns[j] := by rw [List.getD_eq_getElem?_getD, List.getElem?_eq_getElem hj]; rfl
    have en' : v.ns.getD j false = v.ns[j] := by rw [List.getD_eq_getElem?_getD, List.getElem?_eq_getElem hj]; rfl
    rw [en'] at he
    have e3 : entD v.ns (j : Int) true = v.ns[j] := entD_in hj
    unfold vat
    rw [en, e3]
    cases hb : v.ns[j] with
    | true =>
      rw [hb] at he
      simp only [if_true]
      refine ⟨fun hT => ?_, fun hT => ?_, rfl⟩
      · have hji : j < v.is.length := by rw [l1 hT]; exact hj
        have e1 : v.is.getD j 0 = v.is[j] := by rw [List.getD_eq_getElem?_getD, List.getElem?_eq_getElem hji]; rfl
        rw [entD_in hji]
        unfold entF at he
        rw [if_neg (by omega), if_neg (by omega), e1] at he
        split at he <;> simp at he <;> exact he.symm
      · have hji : j < v.ts.length := by rw [l2 hT]; exact hj
        have e1 : v.ts.getD j [] = v.ts[j] := by rw [List.getD_eq_getElem?_getD, List.getElem?_eq_getElem hji]; rfl
        rw [entD_in hji]
        unfold entF at he
        rw [if_neg (by omega), if_pos hT, e1] at he
        simp at he
        rw [he.2]
        rfl
    | false =>
      rw [hb] at he
      simp only [Bool.false_eq_true, if_false]
      refine ⟨fun hT => ?_, fun hT => ?_, ?_⟩
      · have hji : j < v.is.length := by rw [l1 hT]; exact hj
        rw [if_neg (by omega), entD_in hji]
        show v.is.getD j 0 = _
        rw [List.getD_eq_getElem?_getD, List.getElem?_eq_getElem hji]; rfl
      · have hji : j < v.ts.length := by rw [l2 hT]; exact hj
        rw [if_pos hT, entD_in hji]
        show (strOf (v.ts.getD j [])).data.toList = _
        rw [data_strOf, List.getD_eq_getElem?_getD, List.getElem?_eq_getElem hji]; rfl
      · have h0 : v.T ≠ 0 := by
          intro h0
          unfold entF at he
          rw [if_pos h0] at he
          cases he
        by_cases hT : v.T = 3
        · rw [if_pos hT]; rfl
        · rw [if_neg hT]
          exact decide_eq_false h0
  · rw [if_neg hr]
    refine ⟨fun hT => ?_, fun hT => ?_, ?_⟩
    · rw [entD_out (by have := l1 hT; omega)]; rfl
    · rw [entD_out (by have := l2 hT; omega)]; rfl
    · rw [entD_out (by omega)]; rfl
theorem gatherV_eq {v : Vec} (h : validVB v = true) (l : List Int) : gatherV v l = ⟨v.T, if v.T = 1 ∨ v.T = 2 then l.map (fun i => entD v.is i 0) else [], if v.T = 3 then l.map (fun i => entD v.ts i []) else [], l.map (fun i => entD v.ns i true)⟩ := by
  unfold gatherV
  rw [buildV_eq]
  simp only [List.map_map, Vec.mk.injEq, true_and]
  refine ⟨?_, ?_, ?_⟩
  · by_cases hT : v.T = 1 ∨ v.T = 2
    · rw [if_pos hT, if_pos hT]
      exact List.map_congr_left (fun i _ => (atI_parts h i).1 hT)
    · rw [if_neg hT, if_neg hT]
  · by_cases hT : v.T = 3
    · rw [if_pos hT, if_pos hT]
      exact List.map_congr_left (fun i _ => (atI_parts h i).2.1 hT)
    · rw [if_neg hT, if_neg hT]
  · exact List.map_congr_left (fun i _ => (atI_parts h i).2.2)
def joinV (T : Int) (l : List Vec) : Vec := ⟨T, l.flatMap (·.is), l.flatMap (·.ts), l.flatMap (·.ns)⟩
theorem join_eq (T : Int) : ∀ (l : List Vec), (∀ x ∈ l, x.T = T ∧ validVB x = true) → buildV T (l.flatMap valsW) = joinV T l
  | [], _ => by rw [buildV_eq]; simp [joinV]
  | x :: l, h => by
    have ih := join_eq T l (fun y hy => h y (List.mem_cons_of_mem _ hy))
    obtain ⟨hT, hv⟩ := h x (List.mem_cons_self ..)
    have hb := build_vals hv
    rw [hT, buildV_eq] at hb
    rw [buildV_eq] at ih ⊢
    unfold joinV at ih ⊢
    simp only [Vec.mk.injEq, true_and] at ih
    obtain ⟨i1, i2, i3⟩ := ih
    have b1 : (if T = 1 ∨ T = 2 then (valsW x).map (·.n) else []) = x.is := congrArg Vec.is hb
    have b2 : (if T = 3 then (valsW x).map (·.t.data.toList) else []) = x.ts := congrArg Vec.ts hb
    have b3 : (valsW x).map (fun y => decide (y.k = 0)) = x.ns := congrArg Vec.ns hb
    simp only [List.flatMap_cons, List.map_append, Vec.mk.injEq, true_and]
    refine ⟨?_, ?_, ?_⟩
    · rw [← i1, ← b1]
      split <;> rfl
    · rw [← i2, ← b2]
      split <;> rfl
    · rw [← i3, ← b3]
theorem catV_eq {x : Vec} {l : List Vec} (hc : catB (x :: l) = true) (hv : ∀ y ∈ x :: l, validVB y = true) : catV (x :: l) = joinV x.T (x :: l) := by
  unfold catV
  rw [if_neg (by simp), if_pos hc]
  refine join_eq _ _ (fun y hy => ⟨?_, hv y hy⟩)
  unfold catB at hc
  exact of_decide_eq_true (List.all_eq_true.1 hc y hy)
def idxB (B : Bat) : List Int := if B.all = true then (List.range B.len.toNat).map (fun i : Nat => (i : Int)) else B.sel
theorem rowsB_idx (B : Bat) : rowsB B = (idxB B).map (rowV B) := by
  unfold rowsB idxB
  split
  · rw [List.map_map]; rfl
  · rfl
theorem flatB_eq (B : Bat) : flatB B = ⟨B.cs.map (fun v => gatherV v (idxB B)), ((idxB B).length : Int), true, []⟩ := by
  unfold flatB batR
  rw [rowsB_idx]
  simp only [Bat.mk.injEq, List.length_map, and_true, true_and]
  apply List.ext_getElem
  · simp [typesB]
  intro j h1 h2
  have hj : j < B.cs.length := by simpa using h2
  rw [List.getElem_map, List.getElem_map, List.getElem_range]
  unfold gatherV
  have eT : (typesB B).getD j 0 = (B.cs[j]).T := by
    unfold typesB
    rw [List.getD_eq_getElem?_getD, List.getElem?_map, List.getElem?_eq_getElem hj]; rfl
  rw [eT, List.map_map]
  congr 1
  apply List.map_congr_left
  intro i _
  show (rowV B i).getD j nulX = _
  unfold rowV
  rw [List.getD_eq_getElem?_getD, List.getElem?_map, List.getElem?_eq_getElem hj]; rfl
end Go.Proofs.Ytfjhahhkakfhmaa
/-
  Shaken: what the claims of this seat need of this text. No condition.
-/
namespace Go.Proofs.Ytfjhahhkakfhmaa
set_option maxRecDepth 8000
open Go.RowKit
set_option linter.unusedVariables false
set_option linter.unusedSimpArgs false
theorem isType_any (T : Int) (w : World) : Calls Try.prog 44 #[.int .i64 T] w fun e w' => e = .returned (.bool (isTypeB T)) ∧ w' = w := by
  have b0 : isTypeB 0 = true := by decide
  have b1 : isTypeB 1 = true := by decide
  have b2 : isTypeB 2 = true := by decide
  have b3 : isTypeB 3 = true := by decide
  by_cases h0 : T = 0
  · subst h0
    go_enter Try.func44, Try.ntmps44
    go_wp2_with fail
    go_ret
    exact ⟨by rw [b0]; rfl, rfl⟩
  have d0 : (T == 0) = false := by simpa using h0
  by_cases h1 : T = 1
  · subst h1
    go_enter Try.func44, Try.ntmps44
    go_wp2_with fail
    go_ret
    exact ⟨by rw [b1]; rfl, rfl⟩
  have d1 : (T == 1) = false := by simpa using h1
  by_cases h2 : T = 2
  · subst h2
    go_enter Try.func44, Try.ntmps44
    go_wp2_with fail
    go_ret
    exact ⟨by rw [b2]; rfl, rfl⟩
  have d2 : (T == 2) = false := by simpa using h2
  by_cases h3 : T = 3
  · subst h3
    go_enter Try.func44, Try.ntmps44
    go_wp2_with fail
    go_ret
    exact ⟨by rw [b3]; rfl, rfl⟩
  have d3 : (T == 3) = false := by simpa using h3
  have hb : isTypeB T = false := by
    unfold isTypeB
    simp only [Bool.and_eq_false_iff, decide_eq_false_iff_not]
    omega
  · go_enter Try.func44, Try.ntmps44
    go_wp2_with fail
    go_ret
    exact ⟨by rw [hb]; rfl, rfl⟩
theorem fits_any (y : Val) (T : Int) (w : World) : Calls Try.prog 45 #[.int .i64 T, vV y] w fun e w' => e = .returned (.bool (fitsB y T)) ∧ Grows w w' := by
  obtain ⟨k, n, t⟩ := y
  have HG := hidden (grow17 (Below.refl _ w) (.cells #[.int .i64 k, .int .i64 n, .string t] 37))
  unfold fitsB vV
  dsimp only
  by_cases h0 : k = 0
  · have d0 : (k == 0) = true := by simpa using h0
    subst h0
    go_enter Try.func45, Try.ntmps45
    go_wp2_with fail
    go_ret
    exact ⟨by simp, HG.out⟩
  · have d0 : (k == 0) = false := by simpa using h0
    go_enter Try.func45, Try.ntmps45
    go_wp2_with fail
    go_ret
    refine ⟨?_, HG.out⟩
    by_cases h1 : k = T
    · simp [h0, h1]
    · simp [h0, h1]
def isBoolB (n : Int) : Bool := decide (n = 0) || decide (n = 1)
theorem isBool_any (n : Int) (w : World) : Calls Try.prog 56 #[.int .i64 n] w fun e w' => e = .returned (.bool (isBoolB n)) ∧ w' = w := by
  by_cases h0 : n = 0
  · subst h0
    go_enter Try.func56, Try.ntmps56
    go_wp2_with fail
    go_ret
    exact ⟨by simp [isBoolB], rfl⟩
  · have d0 : (n == 0) = false := by simpa using h0
    go_enter Try.func56, Try.ntmps56
    go_wp2_with fail
    go_ret
    refine ⟨?_, rfl⟩
    by_cases h1 : n = 1
    · simp [h1, isBoolB]
    · simp [h0, h1, isBoolB]
theorem isInt_any (n : Int) (w : World) : Calls Try.prog 57 #[.int .i64 n] w fun e w' => e = .returned (.bool true) ∧ w' = w := by
  go_enter Try.func57, Try.ntmps57
  go_wp2_with fail
  go_ret
  exact ⟨rfl, rfl⟩
theorem isText_any (s : Str) (w : World) : Calls Try.prog 59 #[.string (strOf s)] w fun e w' => e = .returned (.bool (decide (s.length ≤ 4096))) ∧ w' = w := by
  have hs := strOf_size s
  go_enter Try.func59, Try.ntmps59
  go_wp2_with fail
  go_ret
  refine ⟨?_, rfl⟩
  by_cases h : s.length ≤ 4096
  · simp [h, hs] <;> omega
  · simp [h, hs] <;> omega
def isLenB (n : Int) : Bool := decide (0 ≤ n) && decide (n ≤ 2147483647)
theorem isLength_any (n : Int) (w : World) : Calls Try.prog 64 #[.int .i64 n] w fun e w' => e = .returned (.bool (isLenB n)) ∧ w' = w := by
  by_cases h0 : 0 ≤ n
  · have d0 : decide (0 ≤ n) = true := by simpa using h0
    have d1 : decide (n < 0) = false := by simpa using h0
    go_enter Try.func64, Try.ntmps64
    go_wp2_with fail
    go_ret
    refine ⟨?_, rfl⟩
    by_cases h1 : n ≤ 2147483647
    · simp [h0, h1, isLenB]
    · simp [h0, h1, isLenB] <;> omega
  · have d0 : decide (0 ≤ n) = false := by simpa using h0
    have d1 : decide (n < 0) = true := by simpa using h0
    go_enter Try.func64, Try.ntmps64
    go_wp2_with fail
    go_ret
    refine ⟨?_, rfl⟩
    simp [h0, isLenB]
    omega
theorem entryT_any (u : Value) (l : List Bool) (i : Int) (d : Bool) (w : World) (hu : IsT w u l) : Calls Try.prog 51 #[u, .int .i64 i, .bool d] w fun e w' => e = .returned (.bool (entD l i d)) ∧ w' = w := by
  obtain ⟨A, c, rfl⟩ := hu.slice_
  by_cases h0 : i < 0
  · have d0 : decide (i < 0) = true := by simpa using h0
    rw [entD_out (.inl h0)]
    generalize l.length = n at *
    go_enter Try.func51, Try.ntmps51
    go_wp2_with fail
    go_ret
    exact ⟨rfl, rfl⟩
  have d0 : decide (i < 0) = false := by simpa using h0
  by_cases h1 : (l.length : Int) ≤ i
  · rw [entD_out (.inr h1)]
    have d1 : decide ((l.length : Int) ≤ i) = true := by simpa using h1
    generalize l.length = n at *
    go_enter Try.func51, Try.ntmps51
    go_wp2_with fail
    go_ret
    exact ⟨rfl, rfl⟩
  obtain ⟨k, rfl⟩ := Int.eq_ofNat_of_zero_le (show 0 ≤ i by omega)
  have hk : k < l.length := by omega
  rw [entD_in hk]
  obtain ⟨b, off, rfl, hc⟩ := hu.at_ hk
  obtain ⟨n, hn⟩ : ∃ n, l.length = n := ⟨_, rfl⟩
  have hkn : k < n := by omega
  have d1 : decide (n ≤ k) = false := by simpa using hkn
  generalize l[k] = x at *
  rw [hn]
  clear hn h0 h1 d0 hk hu
  go_enter Try.func51, Try.ntmps51
  go_wp2_with fail
  go_ret
  exact ⟨rfl, rfl⟩
theorem entryI_any (u : Value) (l : List Int) (i : Int) (d : Int) (w : World) (hu : IsI w u l) : Calls Try.prog 52 #[u, .int .i64 i, .int .i64 d] w fun e w' => e = .returned (.int .i64 (entD l i d)) ∧ w' = w := by
  obtain ⟨A, c, rfl⟩ := hu.slice_
  by_cases h0 : i < 0
  · have d0 : decide (i < 0) = true := by simpa using h0
    rw [entD_out (.inl h0)]
    generalize l.length = n at *
    go_enter Try.func52, Try.ntmps52
    go_wp2_with fail
    go_ret
    exact ⟨rfl, rfl⟩
  have d0 : decide (i < 0) = false := by simpa using h0
  by_cases h1 : (l.length : Int) ≤ i
  · rw [entD_out (.inr h1)]
    have d1 : decide ((l.length : Int) ≤ i) = true := by simpa using h1
    generalize l.length = n at *
    go_enter Try.func52, Try.ntmps52
    go_wp2_with fail
    go_ret
    exact ⟨rfl, rfl⟩
  obtain ⟨k, rfl⟩ := Int.eq_ofNat_of_zero_le (show 0 ≤ i by omega)
  have hk : k < l.length := by omega
  rw [entD_in hk]
  obtain ⟨b, off, rfl, hc⟩ := hu.at_ hk
  obtain ⟨n, hn⟩ : ∃ n, l.length = n := ⟨_, rfl⟩
  have hkn : k < n := by omega
  have d1 : decide (n ≤ k) = false := by simpa using hkn
  generalize l[k] = x at *
  rw [hn]
  clear hn h0 h1 d0 hk hu
  go_enter Try.func52, Try.ntmps52
  go_wp2_with fail
  go_ret
  exact ⟨rfl, rfl⟩
theorem entryS_any (u : Value) (l : List Str) (i : Int) (d : Str) (w : World) (hu : IsS w u l) : Calls Try.prog 53 #[u, .int .i64 i, .string (strOf d)] w fun e w' => e = .returned (.string (strOf (entD l i d))) ∧ w' = w := by
  obtain ⟨A, c, rfl⟩ := hu.slice_
  by_cases h0 : i < 0
  · have d0 : decide (i < 0) = true := by simpa using h0
    rw [entD_out (.inl h0)]
    generalize l.length = n at *
    go_enter Try.func53, Try.ntmps53
    go_wp2_with fail
    go_ret
    exact ⟨rfl, rfl⟩
  have d0 : decide (i < 0) = false := by simpa using h0
  by_cases h1 : (l.length : Int) ≤ i
  · rw [entD_out (.inr h1)]
    have d1 : decide ((l.length : Int) ≤ i) = true := by simpa using h1
    generalize l.length = n at *
    go_enter Try.func53, Try.ntmps53
    go_wp2_with fail
    go_ret
    exact ⟨rfl, rfl⟩
  obtain ⟨k, rfl⟩ := Int.eq_ofNat_of_zero_le (show 0 ≤ i by omega)
  have hk : k < l.length := by omega
  rw [entD_in hk]
  obtain ⟨b, off, rfl, hc⟩ := hu.at_ hk
  obtain ⟨n, hn⟩ : ∃ n, l.length = n := ⟨_, rfl⟩
  have hkn : k < n := by omega
  have d1 : decide (n ≤ k) = false := by simpa using hkn
  generalize strOf l[k] = x at *
  rw [hn]
  clear hn h0 h1 d0 hk hu
  go_enter Try.func53, Try.ntmps53
  go_wp2_with fail
  go_ret
  exact ⟨rfl, rfl⟩
end Go.Proofs.Ytfjhahhkakfhmaa
/-
  Shaken: what the claims of this seat need of this text. No condition.
-/
namespace Go.Proofs.Ytfjhahhkakfhmaa
set_option maxRecDepth 8000
open Go.RowKit
set_option linter.unusedVariables false
set_option linter.unusedSimpArgs false
set_option maxHeartbeats 2000000 in
theorem at17_any (x : Value) (v : Vec) (i : Int) (w : World) (hx : IsV w x v) (ho : OkAt v) :
    Calls Try.prog 14 #[x, .int .i64 i] w (VaR (atI v i) w) := by
  obtain ⟨T, is, ts, ns⟩ := v
  obtain ⟨a1, a2, a3, rfl, j1, j2, j3⟩ := hx
  obtain ⟨o1, o2, o3⟩ := ho
  dsimp only at *
  have J1 := hidden j1
  have J2 := hidden j2
  have J3 := hidden j3
  obtain ⟨A1, c1, rfl⟩ := j1.slice_
  obtain ⟨A2, c2, rfl⟩ := j2.slice_
  obtain ⟨A3, c3, rfl⟩ := j3.slice_
  obtain ⟨W0, hW0⟩ : ∃ W0, W0 = (w.alloc (.cells #[.int .i64 T, .slice A1 is.length c1, .slice A2 ts.length c2, .slice A3 ns.length c3] 29)).alloc (.cells #[.int .i64 0, .int .i64 0, .string ⟨#[]⟩] 37) := ⟨_, rfl⟩
  have HG := hidden (show Grows w W0 by rw [hW0]; exact (grow1 _).of_below (grow1 _))
  have HR := hidden (show Row W0 (w.heap.size + 1) 37 [.int .i64 0, .int .i64 0, .string ⟨#[]⟩] by rw [hW0]; exact Row.at_ (w.alloc _) 37 #[.int .i64 0, .int .i64 0, .string ⟨#[]⟩] _ rfl (w.heap.size + 1) (by simp))
  have HV := hidden (show Row W0 w.heap.size 29 [.int .i64 T, .slice A1 is.length c1, .slice A2 ts.length c2, .slice A3 ns.length c3] by rw [hW0]; exact (Row.new w 29 #[.int .i64 T, .slice A1 is.length c1, .slice A2 ts.length c2, .slice A3 ns.length c3] _ rfl).grow (grow1 _))
  subst hW0
  have HE3 := hidden (fun W (h : Grows w W) => entryT_any _ ns i true W (J3.out.grow h))
  have HE1 := hidden (fun W (h : Grows w W) => entryI_any _ is i 0 W (J1.out.grow h))
  have HE2 := hidden (fun W (h : Grows w W) => entryS_any _ ts i [] W (J2.out.grow h))
  have hs0 : (strOf [] : ByteArray) = ⟨#[]⟩ := rfl
  rw [hs0] at HE2
  have hv : (entD ns i true = true → atI ⟨T, is, ts, ns⟩ i = nulX) ∧ (entD ns i true = false → (T = 1 ∨ T = 2 → atI ⟨T, is, ts, ns⟩ i = ⟨T, entD is i 0, ⟨#[]⟩⟩) ∧ (T = 3 → atI ⟨T, is, ts, ns⟩ i = ⟨3, 0, strOf (entD ts i [])⟩) ∧ (T = 1 ∨ T = 2 ∨ T = 3)) := by
    unfold atI
    by_cases hr : 0 ≤ i ∧ i < (ns.length : Int)
    · rw [if_pos hr]
      obtain ⟨j, rfl⟩ := Int.eq_ofNat_of_zero_le hr.1
      have hj : j < ns.length := by omega
      rw [Int.toNat_natCast, entD_in hj]
      have en : ns.getD j true = ns[j] := by rw [List.getD_eq_getElem?_getD, List.getElem?_eq_getElem hj]; rfl
      have h3 := o3 j hj
      unfold vat
      dsimp only
      rw [en]
      refine ⟨fun h => if_pos h, fun h => ?_⟩
      rw [h] at h3
      rw [h, if_neg (by simp)]
      have h4 : T = 1 ∨ T = 2 ∨ T = 3 := by rcases h3 with h3 | h3; cases h3; exact h3
      refine ⟨fun hT => ?_, fun hT => ?_, h4⟩
      · rw [if_neg (by omega)]
        have hji : j < is.length := by rw [o1 hT]; exact hj
        rw [entD_in hji, List.getD_eq_getElem?_getD, List.getElem?_eq_getElem hji]; rfl
      · rw [if_pos hT]
        have hji : j < ts.length := by rw [o2 hT]; exact hj
        rw [entD_in hji, List.getD_eq_getElem?_getD, List.getElem?_eq_getElem hji]; rfl
    · rw [if_neg hr]
      have hr' : i < 0 ∨ (ns.length : Int) ≤ i := by omega
      rw [entD_out hr']
      exact ⟨fun _ => rfl, fun h => by cases h⟩
  generalize entD ns i true = nb at *
  generalize entD is i 0 = m at *
  generalize strOf (entD ts i []) = s at *
  generalize atI ⟨T, is, ts, ns⟩ i = r at *
  clear j1 j2 j3 o1 o2 o3 hs0 J1 J2 J3
  generalize is.length = n1 at *
  generalize ts.length = n2 at *
  generalize ns.length = n3 at *
  have hp0 := HV.out.cell 0
  have hp1 := HV.out.cell 1
  have hp2 := HV.out.cell 2
  have hp3 := HV.out.cell 3
  simp only [List.getElem?_cons_succ, List.getElem?_cons_zero] at hp0 hp1 hp2 hp3
  cases nb
  · obtain ⟨e12, e3, hT⟩ := hv.2 rfl
    clear hv
    by_cases h3 : T = 3
    · have hre := e3 h3
      subst hre
      subst h3
      clear hT e12 e3
      go_enter Try.func14, Try.ntmps14
      go_wp2_with (first
        | (go_at_call 51; refine (HE3.out _ HG.out).mono ?_; rintro e w1 ⟨rfl, rfl⟩)
        | (go_at_call 53; refine (HE2.out _ HG.out).mono ?_; rintro e w1 ⟨rfl, rfl⟩)
        | (refine wpList_store_f3 rfl _ _ rfl (w.heap.size + 1) 0 rfl 3 0 s rfl _ _ HR.out (by simp) ?_; intro W1 hr1 ht1; have HR1 := hidden hr1; have HT1 := hidden (ht1.grows w HG.out (by omega)); clear hr1 ht1))
      exact bodyPost_ret (results_val rfl _ _ _ _ _ _ rfl HR1.out) rfl ⟨rfl, HT1.out⟩
    · have h12 : T = 1 ∨ T = 2 := by omega
      have hre := e12 h12
      subst hre
      clear e12 e3 hT
      have HCX : Hid (∀ X, Grows ((w.alloc (.cells #[.int .i64 T, .slice A1 n1 c1, .slice A2 n2 c2, .slice A3 n3 c3] 29)).alloc (.cells #[.int .i64 0, .int .i64 0, .string ⟨#[]⟩] 37)) X → X.cell? ⟨w.heap.size, 0, none⟩ = some (.int .i64 T) ∧ X.cell? ⟨w.heap.size, 1, none⟩ = some (.slice A1 n1 c1)) := hidden fun X h => ⟨(HV.out.grow h).cell 0, (HV.out.grow h).cell 1⟩
      have HC1 := hidden (fun W h => const_loose ((HE1.out W (HG.out.of_below h)).mono fun e w' ⟨h1, h2⟩ => ⟨h1, by rw [h2]; exact Below.refl _ _⟩))
      have key : ∀ T', T' = T → (T' == 1) = true ∨ ((T' == 1) = false ∧ (T' == 2) = true) := fun T' h => by
        subst h
        rcases h12 with h | h
        · left; simp [h]
        · right; simp [h]
      have hk := key T rfl
      clear key h12 h3
      rcases hk with t1 | ⟨t1, t2⟩
      all_goals
        go_enter Try.func14, Try.ntmps14
        go_wp2_with (first
          | (go_at_call 51; refine (HE3.out _ HG.out).mono ?_; rintro e w1 ⟨rfl, rfl⟩))
        refine wp_region_loose_tail 7 (tabRs [(5, ConstV (.int .i64 m))]) (by kernel_rfl) (by kernel_rfl) (tabRs_cons ConstV.lasts tabRs_nil) ?_
        simp only [List.take_succ_cons, List.take_zero, List.drop_succ_cons, List.drop_zero]
        iterate 5 ((with_reducible refine loose_one (v := ?_) (a' := ?_) ?_ ?_ (fun w' hC' hG' => ?_) ?_ ?_); rotate_left 2; (focus rfl); (focus rfl); (focus (obtain ⟨s0, s1⟩ := HCX.out w' hC'; clear hC' hG'; go_simp; rfl)); (focus (go_simp; rfl)))
        refine loose_call (R := ConstV (.int .i64 m)) (f := 52) (args := #[.slice A1 n1 c1, .int .i64 i, .int .i64 0]) (by rfl) (by rfl) (fun _ => by go_simp) (fun w' hC' hG' => HC1.out w' hC') ?_
        rintro _ ⟨_, _, rfl⟩
        refine ⟨?_, ?_, ?_⟩
        rotate_left
        · go_simp
          rfl
        iterate 1 ((with_reducible refine loose_one (v := ?_) (a' := ?_) ?_ ?_ (fun w' hC' hG' => ?_) ?_ ?_); rotate_left 2; (focus rfl); (focus rfl); (focus (obtain ⟨s0, s1⟩ := HCX.out w' hC'; clear hC' hG'; go_simp; rfl)); (focus (go_simp; rfl)))
        refine loose_done (fun w9 hC' hG' => ?_)
        have HR9 := hidden (HR.out.grow hC')
        have HG9 := hidden (HG.out.of_below hC')
        clear hC' hG'
        go_wp2_with (first
          | (refine wpList_store_f3 rfl _ _ rfl (w.heap.size + 1) 0 rfl T m ⟨#[]⟩ rfl _ _ HR9.out (by simp) ?_; intro W1 hr1 ht1; have HR1 := hidden hr1; have HT1 := hidden (ht1.grows w HG9.out (by omega)); clear hr1 ht1))
        exact bodyPost_ret (results_val rfl _ _ _ _ _ _ rfl HR1.out) rfl ⟨rfl, HT1.out⟩
  · have hre := hv.1 rfl
    subst hre
    clear hv
    go_enter Try.func14, Try.ntmps14
    go_wp2_with (first
      | (go_at_call 51; refine (HE3.out _ HG.out).mono ?_; rintro e w1 ⟨rfl, rfl⟩)
      | (refine wpList_store_f3 rfl _ _ rfl (w.heap.size + 1) 0 rfl 0 0 ⟨#[]⟩ rfl _ _ HR.out (by simp) ?_; intro W1 hr1 ht1; have HR1 := hidden hr1; have HT1 := hidden (ht1.grows w HG.out (by omega)); clear hr1 ht1))
    exact bodyPost_ret (results_val rfl _ _ _ _ _ _ rfl HR1.out) rfl ⟨rfl, HT1.out⟩
end Go.Proofs.Ytfjhahhkakfhmaa
