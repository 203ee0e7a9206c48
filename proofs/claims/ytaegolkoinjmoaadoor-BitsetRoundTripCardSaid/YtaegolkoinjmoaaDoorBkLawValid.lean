/-
  The walk of the law BitsetValid: it returns true for every pair of N and words; nothing that was there is changed.
-/
import Derived.Test.YtaegolkoinjmoaaDoorBkLives
import Derived.Test.YtaegolkoinjmoaaDoorLoose
namespace Go.Proofs.YtaegolkoinjmoaaDoor
open Go.RowKit
set_option linter.unusedVariables false
set_option linter.unusedSimpArgs false

def BoolR (b : Bool) (v : Value) (_ : World) : Prop := v = .bool b
def NumR (n : Int) (v : Value) (_ : World) : Prop := v = .int .i64 n
def SetVR (n : Nat) (f : Nat → Bool) (v : Value) (w : World) : Prop := IsSet w v n (pack n f)
theorem bool_loose {f : FuncId} {args : Array Value} {w : World} {b : Bool} (h : Calls Tryd.prog f args w fun e w' => e = .returned (.bool b) ∧ Grows w w') : Calls Tryd.prog f args w fun e w' => ∃ v, e = .returned v ∧ Grows w w' ∧ BoolR b v w' :=
  h.mono fun _ _ ⟨he, hw⟩ => ⟨_, he, hw, rfl⟩
theorem num_loose {f : FuncId} {args : Array Value} {w : World} {n : Int} (h : Calls Tryd.prog f args w fun e w' => e = .returned (.int .i64 n) ∧ Grows w w') : Calls Tryd.prog f args w fun e w' => ∃ v, e = .returned v ∧ Grows w w' ∧ NumR n v w' :=
  h.mono fun _ _ ⟨he, hw⟩ => ⟨_, he, hw, rfl⟩
theorem set_loose {f : FuncId} {args : Array Value} {w : World} {n : Nat} {g : Nat → Bool} (h : Calls Tryd.prog f args w (SetR n g w)) : Calls Tryd.prog f args w fun e w' => ∃ v, e = .returned v ∧ Grows w w' ∧ SetVR n g v w' :=
  h.mono fun _ _ ⟨s, he, hs, hw⟩ => ⟨s, he, hw, hs⟩

def validRs (b : Bool) : Loose := fun i =>
  match i with
  | 6 => some (BoolR b)
  | 8 => some (BoolR b)
  | 11 => some (BoolR true)
  | _ => none
theorem validRs_lasts (b : Bool) : (validRs b).lasts := by
  intro i R h
  unfold validRs at h
  split at h <;> first
    | (injection h with h; subst h; exact fun _ _ _ h _ => h)
    | (cases h)

set_option maxHeartbeats 1000000 in
theorem law_valid (A : Option Addr) (c : Nat) (n : Int) (ws : List UInt64) (w : World) (hr : Reads w (.slice A ws.length c) (ucells ws)) (h63 : -9223372036854775808 ≤ n) (h64 : n ≤ 9223372036854775807) (hT : Tab w) :
    Calls Tryd.prog 5 #[.agg #[.int .i64 n, .slice A ws.length c]] w fun e w' => e = .returned (.bool true) ∧ Below w.heap.size w w' := by
  have HTB := hidden hT
  clear hT
  have HG := hidden (show Grows w (w.alloc (.cells #[.int .i64 n, .slice A ws.length c] 26)) from (Below.refl _ _).alloc (Nat.le_refl _) _)
  have HX : Hid (∀ X, Grows (w.alloc (.cells #[.int .i64 n, .slice A ws.length c] 26)) X → X.cell? ⟨w.heap.size, 0, none⟩ = some (.int .i64 n) ∧ X.cell? ⟨w.heap.size, 1, none⟩ = some (.slice A ws.length c)) := by
    intro X g
    have r := (Row.new w 26 #[.int .i64 n, .slice A ws.length c] [.int .i64 n, .slice A ws.length c] rfl).grow g
    exact ⟨r.cell 0, r.cell 1⟩
  by_cases hl : ws.length ≤ 100
  · have HP := hidden (show IsPair w (.agg #[.int .i64 n, .slice A ws.length c]) n ws from ⟨_, rfl, hr, by omega⟩)
    have hd : decide ((100 : Int) < (ws.length : Int)) = false := by simp; omega
    clear hl hr
    go_enter Tryd.func5, Tryd.ntmps5
    go_wp2_with fail
    refine wp_region_loose (validRs (validI n ws)) (by kernel_rfl) (by kernel_rfl) (validRs_lasts _) ?_
    iterate 6 ((with_reducible refine loose_one (v := ?_) (a' := ?_) ?_ ?_ (fun w' hC' hG' => ?_) ?_ ?_); rotate_left 2; (focus rfl); (focus rfl); (focus (obtain ⟨x0, x1⟩ := HX.out w' hC'; clear hC' hG'; go_simp; rfl)); (focus (go_simp; rfl)))
    refine loose_call (f := 38) (args := #[.agg #[.int .i64 n, .slice A ws.length c]]) (by rfl) (by rfl) (fun _ => by go_simp) (fun w' hC' _ => bool_loose (ck_valid _ n ws w' (HP.out.grow (HG.out.of_below hC')) h63 h64)) ?_
    rintro _ ⟨_, _, rfl⟩
    refine ⟨?_, ?_, ?_⟩
    rotate_left
    · go_simp
      rfl
    iterate 1 ((with_reducible refine loose_one (v := ?_) (a' := ?_) ?_ ?_ (fun w' hC' hG' => ?_) ?_ ?_); rotate_left 2; (focus rfl); (focus rfl); (focus (obtain ⟨x0, x1⟩ := HX.out w' hC'; clear hC' hG'; go_simp; rfl)); (focus (go_simp; rfl)))
    refine loose_call (f := 39) (args := #[.agg #[.int .i64 n, .slice A ws.length c]]) (by rfl) (by rfl) (fun _ => by go_simp) (fun w' hC' _ => bool_loose (rvalid_any _ n ws w' (HP.out.grow (HG.out.of_below hC')) h63 h64)) ?_
    rintro _ ⟨_, _, rfl⟩
    refine ⟨?_, ?_, ?_⟩
    rotate_left
    · go_simp
      rfl
    generalize validI n ws = vb at *
    iterate 2 ((with_reducible refine loose_one (v := ?_) (a' := ?_) ?_ ?_ (fun w' hC' hG' => ?_) ?_ ?_); rotate_left 2; (focus rfl); (focus rfl); (focus (obtain ⟨x0, x1⟩ := HX.out w' hC'; clear hC' hG'; go_simp; rfl)); (focus (go_simp; rfl)))
    refine loose_call (f := 10) (args := #[]) (by rfl) (by rfl) (fun _ => by go_simp) (fun w' hC' _ => bool_loose (lives_any w' (HTB.out.grow (HG.out.of_below hC')))) ?_
    rintro _ ⟨_, _, rfl⟩
    refine ⟨?_, ?_, ?_⟩
    rotate_left
    · go_simp
      rfl
    iterate 3 ((with_reducible refine loose_one (v := ?_) (a' := ?_) ?_ ?_ (fun w' hC' hG' => ?_) ?_ ?_); rotate_left 2; (focus rfl); (focus rfl); (focus (obtain ⟨x0, x1⟩ := HX.out w' hC'; clear hC' hG'; go_simp; rfl)); (focus (go_simp; rfl)))
    refine loose_done (fun w' hC' hG' => ?_)
    clear hG'
    have hC2 := HG.out.of_below hC'
    go_wp2_with fail
    go_ret
    exact ⟨rfl, hC2⟩
  · have hd : decide ((100 : Int) < (ws.length : Int)) = true := by simp; omega
    clear hl hr
    go_enter Tryd.func5, Tryd.ntmps5
    go_wp2_with fail
    refine wp_region_loose (validRs (validI n ws)) (by kernel_rfl) (by kernel_rfl) (validRs_lasts _) ?_
    iterate 5 ((with_reducible refine loose_one (v := ?_) (a' := ?_) ?_ ?_ (fun w' hC' hG' => ?_) ?_ ?_); rotate_left 2; (focus rfl); (focus rfl); (focus (obtain ⟨x0, x1⟩ := HX.out w' hC'; clear hC' hG'; go_simp; rfl)); (focus (go_simp; rfl)))
    iterate 8 ((with_reducible refine loose_skip (a' := ?_) ?_ ?_ ?_); rotate_left 1; (focus rfl); (focus (go_simp; rfl)))
    iterate 2 ((with_reducible refine loose_one (v := ?_) (a' := ?_) ?_ ?_ (fun w' hC' hG' => ?_) ?_ ?_); rotate_left 2; (focus rfl); (focus rfl); (focus (obtain ⟨x0, x1⟩ := HX.out w' hC'; clear hC' hG'; go_simp; rfl)); (focus (go_simp; rfl)))
    refine loose_done (fun w' hC' hG' => ?_)
    clear hG'
    have hC2 := HG.out.of_below hC'
    go_wp2_with fail
    go_ret
    exact ⟨rfl, hC2⟩

end Go.Proofs.YtaegolkoinjmoaaDoor
