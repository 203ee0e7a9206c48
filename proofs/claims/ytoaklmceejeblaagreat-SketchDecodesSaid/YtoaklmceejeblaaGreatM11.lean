/-
  Texts that the claims of this seat share, put together (Lv1, Lv4, Lv2, Lv5, Lv6, Tabs). No condition.
-/
import Derived.Test.YtoaklmceejeblaaGreatM10
import Derived.Lib.Bytealg
import Derived.Lib.Small
/-
  Shaken: what the claims of this seat need of this text. No condition.
-/
namespace Go.Proofs.YtoaklmceejeblaaGreat
open Go.RowKit
set_option linter.unusedVariables false
set_option linter.unusedSimpArgs false
theorem lvalid_any (k n : Int) (t : ByteArray) (w : World) : Calls Tryz.prog 124 #[.agg #[.int .i64 k, .int .i64 n, .string t]] w fun e w' => e = .returned (.bool (validV k n t)) ∧ Grows w w' := by
  by_cases h0 : k = 0
  · subst h0
    go_enter Tryz.func124, Tryz.ntmps124
    go_wp2_with fail
    all_goals (go_ret; exact ⟨retB (by simp [validV, *]), grow1 _⟩)
  by_cases h1 : k = 1
  · subst h1
    clear h0
    go_enter Tryz.func124, Tryz.ntmps124
    go_wp2_with fail
    all_goals (go_ret; exact ⟨retB (by simp [validV, *]), grow1 _⟩)
  by_cases h2 : k = 2
  · subst h2
    clear h0 h1
    go_enter Tryz.func124, Tryz.ntmps124
    go_wp2_with fail
    all_goals (go_ret; exact ⟨retB (by simp [validV, *]), grow1 _⟩)
  by_cases h3 : k = 3
  · subst h3
    clear h0 h1 h2
    go_enter Tryz.func124, Tryz.ntmps124
    go_wp2_with fail
    all_goals (go_ret; exact ⟨retB (by simp [validV, *]; try omega), grow1 _⟩)
  · go_enter Tryz.func124, Tryz.ntmps124
    go_wp2_with fail
    all_goals (go_ret; exact ⟨retB (by simp [validV, *]), grow1 _⟩)
theorem lboolean_any (b : Bool) (w : World) : Calls Tryz.prog 189 #[.bool b] w fun e w' => e = .returned (boolV b) ∧ Grows w w' := by
  cases b <;>
  · go_enter Tryz.func189, Tryz.ntmps189
    go_wp2_with fail
    exact bodyPost_ret (results_val rfl _ _ _ _ _ _ rfl (valRow w _ _ _)) rfl ⟨rfl, grow1 _⟩
theorem linteger_any (n : Int) (w : World) : Calls Tryz.prog 190 #[.int .i64 n] w fun e w' => e = .returned (intV n) ∧ Grows w w' := by
  go_enter Tryz.func190, Tryz.ntmps190
  go_wp2_with fail
  exact bodyPost_ret (results_val rfl _ _ _ _ _ _ rfl (valRow w _ _ _)) rfl ⟨rfl, grow1 _⟩
def textV (t : ByteArray) : Value := .agg #[.int .i64 3, .int .i64 0, .string t]
theorem ltext_any (t : ByteArray) (w : World) : Calls Tryz.prog 192 #[.string t] w fun e w' => e = .returned (textV t) ∧ Grows w w' := by
  go_enter Tryz.func192, Tryz.ntmps192
  go_wp2_with fail
  exact bodyPost_ret (results_val rfl _ _ _ _ _ _ rfl (valRow w _ _ _)) rfl ⟨rfl, grow1 _⟩
theorem cmpint_any (x y : Int) (w : World) :
    Calls Tryz.prog 106 #[.int .i64 x, .int .i64 y] w fun e w' => e = .returned (.int .i64 (sgnV (decide (x < y)) (decide (y < x)))) ∧ w = w' := by
  go_enter Tryz.func106, Tryz.ntmps106
  go_wp2
  all_goals (go_ret; refine ⟨?_, rfl⟩; simp only [sgnV, decide_eq_true_eq]; (repeat' split) <;> first | rfl | (exfalso; omega))
theorem cmpi64_any (x y : Int) (w : World) :
    Calls Tryz.prog 107 #[.int .i64 x, .int .i64 y] w fun e w' => e = .returned (.int .i64 (sgnV (decide (x < y)) (decide (y < x)))) ∧ w = w' := by
  go_enter Tryz.func107, Tryz.ntmps107
  go_wp2
  all_goals (go_ret; refine ⟨?_, rfl⟩; simp only [sgnV, decide_eq_true_eq]; (repeat' split) <;> first | rfl | (exfalso; omega))
theorem byteLess_trichotomy : ∀ (a b : List UInt8), Lib.compareBytes a b = sgnV (Op.bytesLess a b) (!Op.bytesLess a b && !a == b)
  | [], [] => rfl
  | [], _ :: _ => rfl
  | _ :: _, [] => rfl
  | x :: a, y :: b => by
    have ih := byteLess_trichotomy a b
    rw [Lib.compareBytes, Op.bytesLess]
    by_cases h1 : x < y
    · simp [h1, sgnV]
    · by_cases h2 : y < x
      · have hne : (x == y) = false := by
          rw [beq_eq_false_iff_ne]
          rintro rfl
          exact h1 h2
        have hne' : ¬ (x :: a = y :: b) := by
          intro h
          injection h with h _
          subst h
          exact h1 h2
        simp [h1, h2, hne, sgnV, hne']
      · have he : x = y := UInt8.le_antisymm (UInt8.not_lt.1 h2) (UInt8.not_lt.1 h1)
        subst he
        simp only [h1, if_false, ih, decide_false, Bool.false_or, beq_self_eq_true, Bool.true_and]
        congr 2
        rw [Bool.eq_iff_iff]
        simp
def strS (a b : ByteArray) : Int := sgnV (Op.bytesLess a.toList b.toList) (gtS a b)
theorem compare_strS (a b : ByteArray) : Lib.compareBytes a.data.toList b.data.toList = strS a b := by
  unfold strS gtS
  rw [ByteArray.toList_eq, ByteArray.toList_eq]
  exact byteLess_trichotomy _ _
set_option maxRecDepth 100000 in
theorem bcmp0_any (a b : ByteArray) (w : World) : Calls Tryz.prog 153 #[.string a, .string b] w fun e w' => e = .returned (.int .i64 (Lib.compareBytes a.data.toList b.data.toList)) ∧ w = w' := by
  go_enter Tryz.func153, Tryz.ntmps153
  go_wp2
  rw [run_callFunc_extern Tryz.func168 (by kernel_rfl) (by kernel_rfl) (by kernel_rfl) (e := Extern.BytealgCompare.compare) (by kernel_rfl), Lib.run_compareString]
  simp only [Result.andThen]
  rw [Oper.upon_value]
  go_wp2
  go_ret
  exact ⟨rfl, rfl⟩
theorem bcmp_any (a b : ByteArray) (w : World) : Calls Tryz.prog 153 #[.string a, .string b] w fun e w' => e = .returned (.int .i64 (strS a b)) ∧ w = w' := by
  rw [← compare_strS]
  exact bcmp0_any a b w
theorem scmp_any (a b : ByteArray) (w : World) : Calls Tryz.prog 108 #[.string a, .string b] w fun e w' => e = .returned (.int .i64 (strS a b)) ∧ w = w' := by
  have HC := hidden (fun w => bcmp_any a b w)
  generalize strS a b = s at *
  go_enter Tryz.func108, Tryz.ntmps108
  go_wp2_with fail
  refine (HC.out _).mono ?_
  rintro e w2 ⟨rfl, rfl⟩
  go_wp2_with fail
  go_ret
  exact ⟨rfl, rfl⟩
def lcmpV (k n : Int) (t : ByteArray) (k' n' : Int) (t' : ByteArray) : Int :=
  if k = k' then (if k = 1 then sgnV (decide (n < n')) (decide (n' < n)) else if k = 2 then sgnV (decide (n < n')) (decide (n' < n)) else if k = 3 then strS t t' else 0) else sgnV (decide (k < k')) (decide (k' < k))
theorem lcompare_any (k n k' n' : Int) (t t' : ByteArray) (w : World) : Calls Tryz.prog 42 #[.agg #[.int .i64 k, .int .i64 n, .string t], .agg #[.int .i64 k', .int .i64 n', .string t']] w fun e w' => e = .returned (.int .i64 (lcmpV k n t k' n' t')) ∧ Grows w w' := by
  have HI := hidden (fun w => cmpint_any k k' w)
  have HJ := hidden (fun w => cmpi64_any n n' w)
  have HS := hidden (fun w => scmp_any t t' w)
  by_cases hk : k = k'
  · subst hk
    by_cases h1 : k = 1
    · have HE := hidden (show lcmpV k n t k n' t' = sgnV (decide (n < n')) (decide (n' < n)) by unfold lcmpV; rw [if_pos rfl, if_pos h1])
      generalize sgnV (decide (n < n')) (decide (n' < n)) = s at *
      subst h1
      go_enter Tryz.func42, Tryz.ntmps42
      go_wp2_with fail
      refine (HJ.out _).mono ?_
      rintro e w2 ⟨rfl, rfl⟩
      go_wp2_with fail
      go_ret
      exact ⟨by rw [HE.out]; rfl, grow2 _ _⟩
    by_cases h2 : k = 2
    · have HE := hidden (show lcmpV k n t k n' t' = sgnV (decide (n < n')) (decide (n' < n)) by unfold lcmpV; rw [if_pos rfl, if_neg h1, if_pos h2])
      generalize sgnV (decide (n < n')) (decide (n' < n)) = s at *
      subst h2
      clear h1
      go_enter Tryz.func42, Tryz.ntmps42
      go_wp2_with fail
      refine (HJ.out _).mono ?_
      rintro e w2 ⟨rfl, rfl⟩
      go_wp2_with fail
      go_ret
      exact ⟨by rw [HE.out]; rfl, grow2 _ _⟩
    by_cases h3 : k = 3
    · have HE := hidden (show lcmpV k n t k n' t' = strS t t' by unfold lcmpV; rw [if_pos rfl, if_neg h1, if_neg h2, if_pos h3])
      generalize strS t t' = s at *
      subst h3
      clear h1 h2
      go_enter Tryz.func42, Tryz.ntmps42
      go_wp2_with fail
      refine (HS.out _).mono ?_
      rintro e w2 ⟨rfl, rfl⟩
      go_wp2_with fail
      go_ret
      exact ⟨by rw [HE.out]; rfl, grow2 _ _⟩
    · have HE := hidden (show lcmpV k n t k n' t' = 0 by unfold lcmpV; rw [if_pos rfl, if_neg h1, if_neg h2, if_neg h3])
      go_enter Tryz.func42, Tryz.ntmps42
      go_wp2_with fail
      go_ret
      exact ⟨by rw [HE.out]; rfl, grow2 _ _⟩
  · have HE := hidden (show lcmpV k n t k' n' t' = sgnV (decide (k < k')) (decide (k' < k)) by unfold lcmpV; rw [if_neg hk])
    generalize sgnV (decide (k < k')) (decide (k' < k)) = s at *
    go_enter Tryz.func42, Tryz.ntmps42
    go_wp2_with fail
    refine (HI.out _).mono ?_
    rintro e w2 ⟨rfl, rfl⟩
    go_wp2_with fail
    go_ret
    exact ⟨by rw [HE.out]; rfl, grow2 _ _⟩
theorem lcmpV_eq {k n k' n' : Int} {t t' : ByteArray} (h : validV k n t = true) (h' : validV k' n' t' = true) : lcmpV k n t k' n' t' = cmpV k n t k' n' t' := by
  unfold lcmpV cmpV
  by_cases hk : k = k'
  · subst hk
    rw [if_pos rfl, if_pos rfl]
    by_cases h1 : k = 1
    · subst h1; rfl
    by_cases h2 : k = 2
    · subst h2; rfl
    by_cases h3 : k = 3
    · subst h3; rfl
    rw [if_neg h1, if_neg h2, if_neg h3, if_neg h3]
    have h0 : k = 0 := by
      by_cases h0 : k = 0
      · exact h0
      · unfold validV at h
        rw [if_neg h0, if_neg h1, if_neg h2, if_neg h3] at h
        cases h
    subst h0
    have e1 : n = 0 := by
      unfold validV at h
      rw [if_pos rfl] at h
      simp at h
      exact h.1
    have e2 : n' = 0 := by
      unfold validV at h'
      rw [if_pos rfl] at h'
      simp at h'
      exact h'.1
    subst e1 e2
    rfl
  · rw [if_neg hk, if_neg hk]
    unfold sgnV
    by_cases hl : k < k'
    · simp [hl]
    · have : k' < k := by omega
      simp [hl, this]
theorem lequal_any (k n k' n' : Int) (t t' : ByteArray) (w : World) : Calls Tryz.prog 64 #[.agg #[.int .i64 k, .int .i64 n, .string t], .agg #[.int .i64 k', .int .i64 n', .string t']] w fun e w' => e = .returned (.bool (lcmpV k n t k' n' t' == 0)) ∧ Grows w w' := by
  have HC := hidden (fun w => lcompare_any k n k' n' t t' w)
  generalize lcmpV k n t k' n' t' = c at *
  have HG := hidden (@grow2 w)
  go_enter Tryz.func64, Tryz.ntmps64
  go_wp2_with fail
  refine (HC.out _).mono ?_
  rintro e w2 ⟨rfl, g2⟩
  go_wp2_with fail
  go_ret
  exact ⟨rfl, (HG.out _ _).of_below g2⟩
end Go.Proofs.YtoaklmceejeblaaGreat
/-
  Shaken: what the claims of this seat need of this text. No condition.
-/
namespace Go.Proofs.YtoaklmceejeblaaGreat
set_option maxRecDepth 8000
open Go.RowKit
set_option linter.unusedVariables false
set_option linter.unusedSimpArgs false
theorem wpList_store_new {W0 : World} {ops : Array Oper} {rest : List Oper} {o : Oper} {a : Act} {Q : Exit → Act → World → Prop} (hgd : o.guard = none) (x y : Operand) (ho : o.op = .store 35 x y)
    (w : World) {z1 z2 z3 : Value} (hW : W0 = w.alloc (.cells #[z1, z2, z3] 35)) (hx : a.eval x = .pointer (some ⟨w.heap.size, 0, none⟩)) (k n : Int) (t : ByteArray) (hy : a.eval y = .agg #[.int .i64 k, .int .i64 n, .string t])
    (h : ∀ W, Row W w.heap.size 35 [.int .i64 k, .int .i64 n, .string t] → Grows w W → W.heap.size = w.heap.size + 1 → wpList Tryz.prog ops Q rest (a.put o.dst undef) W) : wpList Tryz.prog ops Q (o :: rest) a W0 := by
  subst hW
  exact wpList_store_val hgd x y ho w.heap.size hx k n t hy (valRow w z1 z2 z3)
    (h _ (valSet_row (valRow w z1 z2 z3) [.int .i64 k, .int .i64 n, .string t]) (valSet_below (grow1 _) (Nat.le_refl _) _) (by simp [World.setRow]))
theorem rowCells {w : World} {g : Nat} {k n t : Value} (h : Row w g 35 [k, n, t]) : w.cell? ⟨g, 0, none⟩ = some k ∧ w.cell? ⟨g, 1, none⟩ = some n ∧ w.cell? ⟨g, 2, none⟩ = some t := ⟨h.cell 0, h.cell 1, h.cell 2⟩
end Go.Proofs.YtoaklmceejeblaaGreat
/-
  Shaken: what the claims of this seat need of this text. No condition.
-/
namespace Go.Proofs.YtoaklmceejeblaaGreat
set_option maxRecDepth 8000
open Go.RowKit
set_option linter.unusedVariables false
set_option linter.unusedSimpArgs false
end Go.Proofs.YtoaklmceejeblaaGreat
/-
  Shaken: what the claims of this seat need of this text. No condition.
-/
namespace Go.Proofs.YtoaklmceejeblaaGreat
set_option maxRecDepth 8000
open Go.RowKit
set_option linter.unusedVariables false
set_option linter.unusedSimpArgs false
def ConstV (u : Value) : Value → World → Prop := fun v _ => v = u
theorem const_loose0 {f : FuncId} {args : Array Value} {w : World} {u : Value} (h : Calls Tryz.prog f args w fun e w' => e = .returned u ∧ w = w') : Calls Tryz.prog f args w fun e w' => ∃ v, e = .returned v ∧ Grows w w' ∧ ConstV u v w' :=
  h.mono fun _ _ ⟨he, hw⟩ => ⟨_, he, by rw [hw]; exact Below.refl _ _, rfl⟩
end Go.Proofs.YtoaklmceejeblaaGreat
/-
  Shaken: what the claims of this seat need of this text. No condition.
-/
namespace Go.Proofs.YtoaklmceejeblaaGreat
set_option maxRecDepth 8000
open Go.RowKit
set_option linter.unusedVariables false
set_option linter.unusedSimpArgs false
theorem validL_at {l : List Val} {j : Nat} {x : Val} (h : validL l = true) (hx : l[j]? = some x) : validV x.k x.n x.t = true := by
  unfold validL at h
  rw [List.all_eq_true] at h
  exact h x (List.mem_of_getElem? hx)
end Go.Proofs.YtoaklmceejeblaaGreat
/-
  Shaken: what the claims of this seat need of this text. No condition.
-/
namespace Go.Proofs.YtoaklmceejeblaaGreat
set_option maxRecDepth 8000
open Go.RowKit
set_option linter.unusedVariables false
set_option linter.unusedSimpArgs false
theorem ltag_any (k n : Int) (t : ByteArray) (w : World) (h0 : 0 ≤ k) (h1 : k ≤ 3) : Calls Tryz.prog 154 #[.agg #[.int .i64 k, .int .i64 n, .string t]] w fun e w' => e = .returned (.int .u8 (k + 1)) ∧ Grows w w' := by
  go_enter Tryz.func154, Tryz.ntmps154
  go_wp2_with fail
  go_ret
  exact ⟨rfl, grow1 _⟩
def tabRs : List (Nat × (Value → World → Prop)) → Loose
  | [], _ => none
  | (j, R) :: L, i => if i = j then some R else tabRs L i
theorem tabRs_nil : (tabRs []).lasts := fun _ _ h => by cases h
theorem tabRs_cons {j : Nat} {R : Value → World → Prop} {L : List (Nat × (Value → World → Prop))} (h : ∀ v w w', R v w → Grows w w' → R v w') (hL : (tabRs L).lasts) : (tabRs ((j, R) :: L)).lasts := fun i R' hR => by
  unfold tabRs at hR
  split at hR
  · injection hR with hR; subst hR; exact h
  · exact hL i R' hR
theorem ConstV.lasts {u : Value} : ∀ v w w', ConstV u v w → Grows w w' → ConstV u v w' := fun _ _ _ h _ => h
end Go.Proofs.YtoaklmceejeblaaGreat
