/-
  The walk of the law VarintEncode: it returns true for all arguments whose two slices have together no more than 2^45 bytes; nothing that was there is changed.
-/
import Derived.Test.YtkcgjhmllmkmlaaCat
import Derived.Test.YtkcgjhmllmkmlaaAwake
import Derived.Test.YtkcgjhmllmkmlaaLawFix
namespace Go.Proofs.Ytkcgjhmllmkmlaa
open Go.RowKit

theorem IsParts.new3 {w : World} {A B : Option Addr} {c d : Nat} {la lb : List UInt8} (ha : IsBytes w (.slice A la.length c) la) (hb : IsBytes w (.slice B lb.length d) lb) (E : TypeId) :
    IsParts (w.alloc (.cells #[.slice A la.length c, .slice B lb.length d, .slice A la.length c] E)) (.slice (some ⟨w.heap.size, 0, none⟩) 3 3) [la, lb, la] := by
  have hr : Row (w.alloc (.cells #[.slice A la.length c, .slice B lb.length d, .slice A la.length c] E)) w.heap.size E [.slice A la.length c, .slice B lb.length d, .slice A la.length c] := Row.new w E _ _ rfl
  have hg : Grows w (w.alloc (.cells #[.slice A la.length c, .slice B lb.length d, .slice A la.length c] E)) := (Below.refl _ _).alloc (Nat.le_refl _) _
  refine ⟨_, 3, rfl, fun _ => ⟨w.heap.size, 0, rfl, fun j hj => ?_⟩⟩
  have hc := hr.cell (0 + j)
  match j, hj with
  | 0, _ => exact ⟨A, c, hc, ha.grow hg⟩
  | 1, _ => exact ⟨B, d, hc, hb.grow hg⟩
  | 2, _ => exact ⟨A, c, hc, ha.grow hg⟩
theorem IsParts.nil_ (w : World) : IsParts w (.slice none 0 0) [] := ⟨none, 0, rfl, fun h => absurd h (by simp)⟩

def PartsR (ls : List (List UInt8)) (v : Value) (w : World) : Prop := IsParts w v ls
def IntR (k : IntKind) (n : Int) (v : Value) (_ : World) : Prop := v = .int k n

def encRs (n : Nat) (la lb : List UInt8) : Loose := fun i =>
  match i with
  | 1 => some (BytesR (enc n))
  | 4 => some (BytesR (enc n))
  | 11 => some (PartsR [la, lb, la])
  | 12 => some (BytesR [la, lb, la].flatten)
  | 17 => some (PartsR [la, lb, la])
  | 18 => some (BytesR [la, lb, la].flatten)
  | 23 => some (BytesR [])
  | 29 => some (IntR .i64 (Lib.bitLen n))
  | 31 => some (IntR .i64 (Lib.bitLen n))
  | 35 => some TrueR
  | _ => none
theorem encRs_lasts (n : Nat) (la lb : List UInt8) : (encRs n la lb).lasts := by
  intro i R h
  unfold encRs at h
  split at h <;> first
    | (injection h with h; subst h; exact BytesR.lasts)
    | (injection h with h; subst h; exact fun _ _ _ h hb => IsParts.grow h hb)
    | (injection h with h; subst h; exact fun _ _ _ h _ => h)
    | (cases h)

theorem same_loose {f : FuncId} {args : Array Value} {w : World} {k : IntKind} {n : Int} (h : Calls Try.prog f args w fun e w' => e = .returned (.int k n) ∧ w = w') :
    Calls Try.prog f args w fun e w' => ∃ v, e = .returned v ∧ Grows w w' ∧ IntR k n v w' :=
  h.mono fun _ _ ⟨he, hw⟩ => ⟨_, he, by subst hw; exact Below.refl _ _, rfl⟩

set_option maxHeartbeats 1000000 in
theorem law_encode (n : Nat) (A B : Option Addr) (c d : Nat) (la lb : List UInt8) (w : World) (h1 : n < 18446744073709551616)
    (ha : IsBytes w (.slice A la.length c) la) (hb : IsBytes w (.slice B lb.length d) lb) (hl : la.length + lb.length ≤ 35184372088832) :
    Calls Try.prog 4 #[.int .u64 (n : Int), .slice A la.length c, .slice B lb.length d] w fun e w' => e = .returned (.bool true) ∧ Below w.heap.size w w' := by
  have HA := hidden ha
  have HB := hidden hb
  have ht : total [la, lb, la] ≤ 140737488355328 := by simp [total]; omega
  have HE := hidden (fun W => encode_any (n : Int) W (by omega) (by omega))
  have HR := hidden (fun W => rencode_any (n : Int) W (by omega) (by omega))
  have HW := hidden (fun W => bitWidth_any (n : Int) W (by omega) (by omega))
  have HX := hidden (fun W => rbitWidth_any (n : Int) W (by omega) (by omega))
  clear ha hb hl h1
  go_enter Try.func4, Try.ntmps4
  go_wp2_with fail
  refine wp_region_loose (encRs n la lb) (by kernel_rfl) (by kernel_rfl) (encRs_lasts _ _ _) ?_
  iterate 1 ((with_reducible refine loose_one (v := ?_) (a' := ?_) ?_ ?_ (fun w' hC' hG' => ?_) ?_ ?_); rotate_left 2; (focus rfl); (focus rfl); (focus (clear hC' hG'; go_simp; rfl)); (focus (go_simp; rfl)))
  refine loose_call (f := 13) (args := #[.int .u64 (n : Int)]) (by rfl) (by rfl) (fun _ => by go_simp) (fun w' hC' hG' => made_loose (HE.out w')) ?_
  intro v1 _
  refine ⟨?_, ?_, ?_⟩
  rotate_left
  · go_simp
    rfl
  refine loose_one (v := ?_) (a' := ?_) (by rfl) (by rfl) (fun w' hC' hG' => ?_) ?_ ?_
  rotate_left 2
  · have hr := run_string_bytes (P := Try.prog) ((hG' 1 (by kernel_rfl)).2 rfl) 23 5 Try.underlying23 Try.underlying5 9 Try.underlying9
    clear hC' hG'
    go_simp
    rfl
  · go_simp
    rfl
  iterate 1 ((with_reducible refine loose_one (v := ?_) (a' := ?_) ?_ ?_ (fun w' hC' hG' => ?_) ?_ ?_); rotate_left 2; (focus rfl); (focus rfl); (focus (clear hC' hG'; go_simp; rfl)); (focus (go_simp; rfl)))
  refine loose_call (f := 14) (args := #[.int .u64 (n : Int)]) (by rfl) (by rfl) (fun _ => by go_simp) (fun w' hC' hG' => made_loose (HR.out w')) ?_
  intro v2 _
  refine ⟨?_, ?_, ?_⟩
  rotate_left
  · go_simp
    rfl
  refine loose_one (v := ?_) (a' := ?_) (by rfl) (by rfl) (fun w' hC' hG' => ?_) ?_ ?_
  rotate_left 2
  · have hr := run_string_bytes (P := Try.prog) ((hG' 4 (by kernel_rfl)).2 rfl) 23 5 Try.underlying23 Try.underlying5 9 Try.underlying9
    clear hC' hG'
    go_simp
    rfl
  · go_simp
    rfl
  iterate 5 ((with_reducible refine loose_one (v := ?_) (a' := ?_) ?_ ?_ (fun w' hC' hG' => ?_) ?_ ?_); rotate_left 2; (focus rfl); (focus rfl); (focus (clear hC' hG'; go_simp; rfl)); (focus (go_simp; rfl)))
  refine loose_new (by rfl) (by rfl) (fun w' hC' hG' => ?_) ?_
  · refine ⟨.slice (some ⟨w'.heap.size, 0, none⟩) 3 3, w'.alloc (.cells #[.slice A la.length c, .slice B lb.length d, .slice A la.length c] 23), ?_, (Below.refl _ _).alloc (Nat.le_refl _) _, IsParts.new3 (HA.out.grow hC') (HB.out.grow hC') _⟩
    clear hC' hG'
    go_simp
  rintro _ ⟨_, _, ⟨A', c', rfl, _⟩⟩
  refine ⟨?_, ?_, ?_⟩
  rotate_left
  · go_simp
    rfl
  refine loose_call (f := 15) (args := #[.slice A' [la, lb, la].length c']) (by rfl) (by rfl) (fun _ => by go_simp) (fun w' hC' hG' => made_loose (concat_any _ [la, lb, la] w' ((hG' 11 (by kernel_rfl)).2 rfl) (by simp [maxLen]) ht)) ?_
  intro v3 _
  refine ⟨?_, ?_, ?_⟩
  rotate_left
  · go_simp
    rfl
  refine loose_one (v := ?_) (a' := ?_) (by rfl) (by rfl) (fun w' hC' hG' => ?_) ?_ ?_
  rotate_left 2
  · have hr := run_string_bytes (P := Try.prog) ((hG' 12 (by kernel_rfl)).2 rfl) 23 5 Try.underlying23 Try.underlying5 9 Try.underlying9
    clear hC' hG'
    go_simp
    rfl
  · go_simp
    rfl
  iterate 3 ((with_reducible refine loose_one (v := ?_) (a' := ?_) ?_ ?_ (fun w' hC' hG' => ?_) ?_ ?_); rotate_left 2; (focus rfl); (focus rfl); (focus (clear hC' hG'; go_simp; rfl)); (focus (go_simp; rfl)))
  refine loose_new (by rfl) (by rfl) (fun w' hC' hG' => ?_) ?_
  · refine ⟨.slice (some ⟨w'.heap.size, 0, none⟩) 3 3, w'.alloc (.cells #[.slice A la.length c, .slice B lb.length d, .slice A la.length c] 23), ?_, (Below.refl _ _).alloc (Nat.le_refl _) _, IsParts.new3 (HA.out.grow hC') (HB.out.grow hC') _⟩
    clear hC' hG'
    go_simp
  rintro _ ⟨_, _, ⟨A', c', rfl, _⟩⟩
  refine ⟨?_, ?_, ?_⟩
  rotate_left
  · go_simp
    rfl
  refine loose_call (f := 16) (args := #[.slice A' [la, lb, la].length c']) (by rfl) (by rfl) (fun _ => by go_simp) (fun w' hC' hG' => made_loose (rconcat_any _ [la, lb, la] w' ((hG' 17 (by kernel_rfl)).2 rfl) (by simp [maxLen]) ht)) ?_
  intro v4 _
  refine ⟨?_, ?_, ?_⟩
  rotate_left
  · go_simp
    rfl
  refine loose_one (v := ?_) (a' := ?_) (by rfl) (by rfl) (fun w' hC' hG' => ?_) ?_ ?_
  rotate_left 2
  · have hr := run_string_bytes (P := Try.prog) ((hG' 18 (by kernel_rfl)).2 rfl) 23 5 Try.underlying23 Try.underlying5 9 Try.underlying9
    clear hC' hG'
    go_simp
    rfl
  · go_simp
    rfl
  iterate 3 ((with_reducible refine loose_one (v := ?_) (a' := ?_) ?_ ?_ (fun w' hC' hG' => ?_) ?_ ?_); rotate_left 2; (focus rfl); (focus rfl); (focus (clear hC' hG'; go_simp; rfl)); (focus (go_simp; rfl)))
  refine loose_call (f := 15) (args := #[.slice none 0 0]) (by rfl) (by rfl) (fun _ => by go_simp) (fun w' hC' hG' => made_loose (concat_any _ [] w' (IsParts.nil_ _) (by simp) (by simp [total]))) ?_
  rintro _ ⟨_, _, ⟨A', c', rfl, _⟩⟩
  refine ⟨?_, ?_, ?_⟩
  rotate_left
  · go_simp
    rfl
  iterate 5 ((with_reducible refine loose_one (v := ?_) (a' := ?_) ?_ ?_ (fun w' hC' hG' => ?_) ?_ ?_); rotate_left 2; (focus rfl); (focus rfl); (focus (clear hC' hG'; go_simp; rfl)); (focus (go_simp; rfl)))
  refine loose_call (f := 17) (args := #[.int .u64 (n : Int)]) (by rfl) (by rfl) (fun _ => by go_simp) (fun w' hC' hG' => same_loose (HW.out w')) ?_
  rintro _ ⟨_, _, rfl⟩
  refine ⟨?_, ?_, ?_⟩
  rotate_left
  · go_simp
    rfl
  iterate 1 ((with_reducible refine loose_one (v := ?_) (a' := ?_) ?_ ?_ (fun w' hC' hG' => ?_) ?_ ?_); rotate_left 2; (focus rfl); (focus rfl); (focus (clear hC' hG'; go_simp; rfl)); (focus (go_simp; rfl)))
  refine loose_call (f := 18) (args := #[.int .u64 (n : Int)]) (by rfl) (by rfl) (fun _ => by go_simp) (fun w' hC' hG' => same_loose (HX.out w')) ?_
  rintro _ ⟨_, _, rfl⟩
  refine ⟨?_, ?_, ?_⟩
  rotate_left
  · go_simp
    rfl
  iterate 3 ((with_reducible refine loose_one (v := ?_) (a' := ?_) ?_ ?_ (fun w' hC' hG' => ?_) ?_ ?_); rotate_left 2; (focus rfl); (focus rfl); (focus (clear hC' hG'; go_simp; rfl)); (focus (go_simp; rfl)))
  refine loose_call (f := 12) (args := #[]) (by rfl) (by rfl) (fun _ => by go_simp) (fun w' hC' hG' => awake_loose w') ?_
  rintro _ ⟨_, _, rfl⟩
  refine ⟨?_, ?_, ?_⟩
  rotate_left
  · go_simp
    rfl
  iterate 2 ((with_reducible refine loose_one (v := ?_) (a' := ?_) ?_ ?_ (fun w' hC' hG' => ?_) ?_ ?_); rotate_left 2; (focus rfl); (focus rfl); (focus (clear hC' hG'; go_simp; rfl)); (focus (go_simp; rfl)))
  refine loose_done (fun w' hC' hG' => ?_)
  clear hG'
  go_wp2
  go_ret
  exact ⟨rfl, hC'⟩

end Go.Proofs.Ytkcgjhmllmkmlaa
