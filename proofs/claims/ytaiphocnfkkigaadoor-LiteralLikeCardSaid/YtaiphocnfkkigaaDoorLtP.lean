/-
  The reference of package literal: Parse. Nothing that was there is changed.
-/
import Derived.Test.YtaiphocnfkkigaaDoorLit4
import Derived.Test.YtaiphocnfkkigaaDoorLit5
import Derived.Test.YtaiphocnfkkigaaDoorLit6
import Derived.Test.YtaiphocnfkkigaaDoorVal
namespace Go.Proofs.YtaiphocnfkkigaaDoor
open Go.RowKit
set_option linter.unusedVariables false
set_option linter.unusedSimpArgs false

/-- a value and an error -/
structure PV where
  k : Int
  n : Int
  t : List UInt8
  e : Int
def PV.v (p : PV) : Value := .tuple #[.agg #[.int .i64 p.k, .int .i64 p.n, .string (strOf p.t)], .int .i64 p.e]
def txtR (p : List UInt8 × Int) : PV := if p.2 ≠ 0 then ⟨0, 0, [], p.2⟩ else if 4096 < p.1.length then ⟨0, 0, [], 3⟩ else ⟨3, 0, p.1, 0⟩
def intR (p : Int × Int) : PV := if p.2 ≠ 0 then ⟨0, 0, [], p.2⟩ else ⟨2, p.1, [], 0⟩
def prsV (l : List UInt8) : PV :=
  if l = [110, 117, 108, 108] then ⟨0, 0, [], 0⟩ else if l = [116, 114, 117, 101] then ⟨1, 1, [], 0⟩ else if l = [102, 97, 108, 115, 101] then ⟨1, 0, [], 0⟩
  else if l.head? = some 39 then txtR (unqL l) else intR (prsI l)
theorem results_val2 {fn : Func} {p q : Tmp} (h : fn.results = #[.cell p 37, .tmp q]) (tmps : Array Value) (w : World) (g : Nat) (k n t : Value) (hp : tmps.getD p undef = .pointer (some ⟨g, 0, none⟩)) (hg : Row w g 37 [k, n, t]) :
    (results fn tmps).run Tryd.prog w = .ok (.tuple #[.agg #[k, n, t], tmps.getD q undef]) w := by
  have hp' : tmps[p]?.getD undef = .pointer (some ⟨g, 0, none⟩) := by simpa using hp
  have hr := run_loadVar_row w g 37 37 #[k, n, t] (0, 0) _ hg Tryd.underlying37 rfl size_val
  simp [results, h, hp', asAddr, hr]
theorem str_is {l m : List UInt8} (h : l = m) : ((strOf l).toList == m) = true := by rw [strOf_toList, h]; simp
theorem str_not {l m : List UInt8} (h : l ≠ m) : ((strOf l).toList == m) = false := by rw [strOf_toList]; simpa using h
set_option maxHeartbeats 2000000 in
theorem rparsev_any (l : List UInt8) (w : World) (hl : l.length ≤ 4611686018427387900) : Calls Tryd.prog 23 #[.string (strOf l)] w fun e w' => e = .returned (prsV l).v ∧ Grows w w' := by
  by_cases h1 : l = [110, 117, 108, 108]
  · have HE := hidden (show prsV l = ⟨0, 0, [], 0⟩ from if_pos h1)
    have b1 := str_is h1
    clear h1 hl
    go_enter Tryd.func23, Tryd.ntmps23
    go_wp2_with (refine wpList_store_val rfl _ _ rfl w.heap.size rfl _ _ _ rfl (valRow w _ _ _) ?_)
    exact bodyPost_ret (results_val2 rfl _ _ _ _ _ _ rfl (valSet_row (valRow w _ _ _) [.int .i64 0, .int .i64 0, .string ⟨#[]⟩])) rfl ⟨by rw [HE.out]; rfl, valSet_below (grow1 _) (Nat.le_refl _) _⟩
  have b1 := str_not h1
  by_cases h2 : l = [116, 114, 117, 101]
  · have HE := hidden (show prsV l = ⟨1, 1, [], 0⟩ by unfold prsV; rw [if_neg h1, if_pos h2])
    have b2 := str_is h2
    clear h1 h2 hl
    go_enter Tryd.func23, Tryd.ntmps23
    go_wp2_with (refine wpList_store_val rfl _ _ rfl w.heap.size rfl _ _ _ rfl (valRow w _ _ _) ?_)
    exact bodyPost_ret (results_val2 rfl _ _ _ _ _ _ rfl (valSet_row (valRow w _ _ _) [.int .i64 1, .int .i64 1, .string ⟨#[]⟩])) rfl ⟨by rw [HE.out]; rfl, valSet_below (grow1 _) (Nat.le_refl _) _⟩
  have b2 := str_not h2
  by_cases h3 : l = [102, 97, 108, 115, 101]
  · have HE := hidden (show prsV l = ⟨1, 0, [], 0⟩ by unfold prsV; rw [if_neg h1, if_neg h2, if_pos h3])
    have b3 := str_is h3
    clear h1 h2 h3 hl
    go_enter Tryd.func23, Tryd.ntmps23
    go_wp2_with (refine wpList_store_val rfl _ _ rfl w.heap.size rfl _ _ _ rfl (valRow w _ _ _) ?_)
    exact bodyPost_ret (results_val2 rfl _ _ _ _ _ _ rfl (valSet_row (valRow w _ _ _) [.int .i64 1, .int .i64 0, .string ⟨#[]⟩])) rfl ⟨by rw [HE.out]; rfl, valSet_below (grow1 _) (Nat.le_refl _) _⟩
  have b3 := str_not h3
  by_cases h4 : l.head? = some 39
  · have HE0 := hidden (show prsV l = txtR (unqL l) by unfold prsV; rw [if_neg h1, if_neg h2, if_neg h3, if_pos h4])
    have hne : (strOf l).toList.isEmpty = false := by rw [strOf_toList]; cases l with | nil => simp at h4 | cons a r => rfl
    have hg0 : ∀ h : 0 < (strOf l).size, (strOf l)[0]'h = 39 := strOf_get (l := l) (j := 0) (b := 39) (by cases l with | nil => simp at h4 | cons a r => simpa using h4)
    have hs0 : 0 < (strOf l).size := by show 0 < l.length; cases l with | nil => simp at h4 | cons a r => simp
    have HU := hidden (fun w => runquote_any l w hl)
    have HLT := hidden (unqL_length l)
    clear h1 h2 h3 h4
    unfold twoS at HU
    rcases hTE : unqL l with ⟨T, E⟩
    rw [hTE] at HE0 HU HLT
    clear hTE
    by_cases he : E = 0
    · subst he
      by_cases hT : 4096 < T.length
      · have HE := hidden (show prsV l = ⟨0, 0, [], 3⟩ by rw [HE0.out]; unfold txtR; rw [if_neg (by simp), if_pos hT])
        have hs : (strOf T).size = T.length := rfl
        have hd : decide ((4096 : Int) < (T.length : Int)) = true := by simp; omega
        go_enter Tryd.func23, Tryd.ntmps23
        go_wp2_with fail
        refine (HU.out _).mono ?_
        rintro e w2 ⟨rfl, rfl⟩
        go_wp2_with (refine wpList_store_val rfl _ _ rfl w.heap.size rfl _ _ _ rfl (valRow w _ _ _) ?_)
        exact bodyPost_ret (results_val2 rfl _ _ _ _ _ _ rfl (valSet_row (valRow w _ _ _) [.int .i64 0, .int .i64 0, .string ⟨#[]⟩])) rfl ⟨by rw [HE.out]; rfl, valSet_below (grow1 _) (Nat.le_refl _) _⟩
      · have HE := hidden (show prsV l = ⟨3, 0, T, 0⟩ by rw [HE0.out]; unfold txtR; rw [if_neg (by simp), if_neg hT])
        have hs : (strOf T).size = T.length := rfl
        have hd : decide ((4096 : Int) < (T.length : Int)) = false := by simp; omega
        go_enter Tryd.func23, Tryd.ntmps23
        go_wp2_with fail
        refine (HU.out _).mono ?_
        rintro e w2 ⟨rfl, rfl⟩
        go_wp2_with (refine wpList_store_val rfl _ _ rfl w.heap.size rfl _ _ _ rfl (valRow w _ _ _) ?_)
        exact bodyPost_ret (results_val2 rfl _ _ _ _ _ _ rfl (valSet_row (valRow w _ _ _) [.int .i64 3, .int .i64 0, .string (strOf T)])) rfl ⟨by rw [HE.out]; rfl, valSet_below (grow1 _) (Nat.le_refl _) _⟩
    · have HE := hidden (show prsV l = ⟨0, 0, [], E⟩ by rw [HE0.out]; unfold txtR; rw [if_pos he])
      have hen : (E == 0) = false := by simpa using he
      clear he
      go_enter Tryd.func23, Tryd.ntmps23
      go_wp2_with fail
      refine (HU.out _).mono ?_
      rintro e w2 ⟨rfl, rfl⟩
      go_wp2_with (refine wpList_store_val rfl _ _ rfl w.heap.size rfl _ _ _ rfl (valRow w _ _ _) ?_)
      exact bodyPost_ret (results_val2 rfl _ _ _ _ _ _ rfl (valSet_row (valRow w _ _ _) [.int .i64 0, .int .i64 0, .string ⟨#[]⟩])) rfl ⟨by rw [HE.out]; rfl, valSet_below (grow1 _) (Nat.le_refl _) _⟩
  · have HE0 := hidden (show prsV l = intR (prsI l) by unfold prsV; rw [if_neg h1, if_neg h2, if_neg h3, if_neg h4])
    have HP := hidden (fun w => rparse_any l w hl)
    unfold two at HP
    rcases hNE : prsI l with ⟨n, E⟩
    rw [hNE] at HE0 HP
    clear hNE h1 h2 h3
    cases l with
    | nil =>
      have hne : (strOf []).toList.isEmpty = true := by rw [strOf_toList]; rfl
      clear h4
      by_cases he : E = 0
      · subst he
        have HE := hidden (show prsV [] = ⟨2, n, [], 0⟩ by rw [HE0.out]; unfold intR; rw [if_neg (by simp)])
        go_enter Tryd.func23, Tryd.ntmps23
        go_wp2_with fail
        refine (HP.out _).mono ?_
        rintro e w2 ⟨rfl, rfl⟩
        go_wp2_with (refine wpList_store_val rfl _ _ rfl w.heap.size rfl _ _ _ rfl (valRow w _ _ _) ?_)
        exact bodyPost_ret (results_val2 rfl _ _ _ _ _ _ rfl (valSet_row (valRow w _ _ _) [.int .i64 2, .int .i64 n, .string ⟨#[]⟩])) rfl ⟨by rw [HE.out]; rfl, valSet_below (grow1 _) (Nat.le_refl _) _⟩
      · have HE := hidden (show prsV [] = ⟨0, 0, [], E⟩ by rw [HE0.out]; unfold intR; rw [if_pos he])
        have hen : (E == 0) = false := by simpa using he
        clear he
        go_enter Tryd.func23, Tryd.ntmps23
        go_wp2_with fail
        refine (HP.out _).mono ?_
        rintro e w2 ⟨rfl, rfl⟩
        go_wp2_with (refine wpList_store_val rfl _ _ rfl w.heap.size rfl _ _ _ rfl (valRow w _ _ _) ?_)
        exact bodyPost_ret (results_val2 rfl _ _ _ _ _ _ rfl (valSet_row (valRow w _ _ _) [.int .i64 0, .int .i64 0, .string ⟨#[]⟩])) rfl ⟨by rw [HE.out]; rfl, valSet_below (grow1 _) (Nat.le_refl _) _⟩
    | cons c r =>
      have hne : (strOf (c :: r)).toList.isEmpty = false := by rw [strOf_toList]; rfl
      have hg0 : ∀ h : 0 < (strOf (c :: r)).size, (strOf (c :: r))[0]'h = c := strOf_get (l := c :: r) (j := 0) (b := c) rfl
      have hs0 : 0 < (strOf (c :: r)).size := by show 0 < r.length + 1; omega
      have hc : ¬ (c.toNat = 39) := fun he => h4 (by rw [show c = 39 from UInt8.toNat_inj.1 (by rw [he]; rfl)]; rfl)
      have hcz : ((c.toNat : Int) == 39) = false := by simp; omega
      clear h4
      by_cases he : E = 0
      · subst he
        have HE := hidden (show prsV (c :: r) = ⟨2, n, [], 0⟩ by rw [HE0.out]; unfold intR; rw [if_neg (by simp)])
        go_enter Tryd.func23, Tryd.ntmps23
        go_wp2_with fail
        refine (HP.out _).mono ?_
        rintro e w2 ⟨rfl, rfl⟩
        go_wp2_with (refine wpList_store_val rfl _ _ rfl w.heap.size rfl _ _ _ rfl (valRow w _ _ _) ?_)
        exact bodyPost_ret (results_val2 rfl _ _ _ _ _ _ rfl (valSet_row (valRow w _ _ _) [.int .i64 2, .int .i64 n, .string ⟨#[]⟩])) rfl ⟨by rw [HE.out]; rfl, valSet_below (grow1 _) (Nat.le_refl _) _⟩
      · have HE := hidden (show prsV (c :: r) = ⟨0, 0, [], E⟩ by rw [HE0.out]; unfold intR; rw [if_pos he])
        have hen : (E == 0) = false := by simpa using he
        clear he
        go_enter Tryd.func23, Tryd.ntmps23
        go_wp2_with fail
        refine (HP.out _).mono ?_
        rintro e w2 ⟨rfl, rfl⟩
        go_wp2_with (refine wpList_store_val rfl _ _ rfl w.heap.size rfl _ _ _ rfl (valRow w _ _ _) ?_)
        exact bodyPost_ret (results_val2 rfl _ _ _ _ _ _ rfl (valSet_row (valRow w _ _ _) [.int .i64 0, .int .i64 0, .string ⟨#[]⟩])) rfl ⟨by rw [HE.out]; rfl, valSet_below (grow1 _) (Nat.le_refl _) _⟩
end Go.Proofs.YtaiphocnfkkigaaDoor
