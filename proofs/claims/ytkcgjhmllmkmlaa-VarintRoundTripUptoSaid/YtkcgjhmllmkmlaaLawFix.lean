/-
  The walk of the law VarintFixed: it returns true for all arguments; nothing that was there is changed.
-/
import Derived.Test.YtkcgjhmllmkmlaaRead
import Derived.Test.YtkcgjhmllmkmlaaAwake
import Derived.Test.YtkcgjhmllmkmlaaLoose
namespace Go.Proofs.Ytkcgjhmllmkmlaa
open Go.RowKit

/-- what a call that makes a slice leaves: it reads as l, for good -/
def BytesR (l : List UInt8) (v : Value) (w : World) : Prop := IsBytes w v l
def TrueR (v : Value) (_ : World) : Prop := v = .bool true
theorem BytesR.lasts {l : List UInt8} : ∀ v w w', BytesR l v w → Grows w w' → BytesR l v w' := fun _ _ _ h hb => IsBytes.grow h hb
theorem TrueR.lasts : ∀ v w w', TrueR v w → Grows w w' → TrueR v w' := fun _ _ _ h _ => h

theorem made_loose {l : List UInt8} {f : FuncId} {args : Array Value} {w : World} (h : Calls Try.prog f args w (Made l w)) : Calls Try.prog f args w fun e w' => ∃ v, e = .returned v ∧ Grows w w' ∧ BytesR l v w' :=
  h.mono fun _ _ ⟨v, he, hown, hb⟩ => ⟨v, he, hb, IsBytes.of_own hown⟩
theorem awake_loose (w : World) : Calls Try.prog 12 #[] w fun e w' => ∃ v, e = .returned v ∧ Grows w w' ∧ TrueR v w' :=
  (awake_any w).mono fun _ _ ⟨he, hb⟩ => ⟨_, he, hb, rfl⟩

def fixRs (l : List UInt8) : Loose := fun i => if i = 2 ∨ i = 6 then some (BytesR l) else if i = 20 then some TrueR else none
theorem fixRs_lasts (l : List UInt8) : (fixRs l).lasts := by
  intro i R h
  unfold fixRs at h
  split at h
  · injection h with h; subst h; exact BytesR.lasts
  · split at h
    · injection h with h; subst h; exact TrueR.lasts
    · cases h

set_option maxHeartbeats 400000 in
theorem law_fixed (x size : Int) (v : Value) (l : List UInt8) (off : Int) (w : World) (h0 : 0 ≤ x) (h1 : x ≤ 18446744073709551615)
    (hv : IsBytes w v l) (hl : l.length ≤ maxLen) (h63 : -9223372036854775808 ≤ off) (h64 : off ≤ 9223372036854775807) :
    Calls Try.prog 3 #[.int .u64 x, .int .i64 size, v, .int .i64 off] w fun e w' => e = .returned (.bool true) ∧ Below w.heap.size w w' := by
  have H1 := hidden (readFixed_any v l off size w hv hl h63 h64)
  have H2 := hidden (rreadFixed_any v l off size w hv hl h63 h64)
  generalize (rdf l off size).1 = y at *
  generalize (rdf l off size).2 = z at *
  clear hv hl h63 h64
  go_enter Try.func3, Try.ntmps3
  go_wp2_with fail
  refine (Calls.mono H1.out ?_)
  rintro e w' ⟨rfl, rfl⟩
  go_wp2_with fail
  refine (Calls.mono H2.out ?_)
  rintro e w' ⟨rfl, rfl⟩
  go_wp2_with fail
  refine wp_region_loose (fixRs (fixs x.toNat size)) (by kernel_rfl) (by kernel_rfl) (fixRs_lasts _) ?_
  iterate 2 ((with_reducible refine loose_one (v := ?_) (a' := ?_) ?_ ?_ (fun w' hC' hG' => ?_) ?_ ?_); rotate_left 2; (focus rfl); (focus rfl); (focus (clear hC' hG'; go_simp; rfl)); (focus (go_simp; rfl)))
  refine loose_call (f := 10) (args := #[.int .u64 x, .int .i64 size]) (by rfl) (by rfl) (fun _ => by go_simp) (fun w' _ _ => made_loose (fixed_any x size w' h0 h1)) ?_
  intro v1 _
  refine ⟨?_, ?_, ?_⟩
  rotate_left
  · go_simp
    rfl
  refine loose_one (v := ?_) (a' := ?_) (by rfl) (by rfl) (fun w' hC' hG' => ?_) ?_ ?_
  rotate_left 2
  · have hr := run_string_bytes (P := Try.prog) ((hG' 2 (by kernel_rfl)).2 rfl) 23 5 Try.underlying23 Try.underlying5 9 Try.underlying9
    clear hC' hG'
    go_simp
    rfl
  · go_simp
    rfl
  iterate 2 ((with_reducible refine loose_one (v := ?_) (a' := ?_) ?_ ?_ (fun w' hC' hG' => ?_) ?_ ?_); rotate_left 2; (focus rfl); (focus rfl); (focus (clear hC' hG'; go_simp; rfl)); (focus (go_simp; rfl)))
  refine loose_call (f := 11) (args := #[.int .u64 x, .int .i64 size]) (by rfl) (by rfl) (fun _ => by go_simp) (fun w' _ _ => made_loose (rfixed_any x size w' h0 h1)) ?_
  intro v2 _
  refine ⟨?_, ?_, ?_⟩
  rotate_left
  · go_simp
    rfl
  refine loose_one (v := ?_) (a' := ?_) (by rfl) (by rfl) (fun w' hC' hG' => ?_) ?_ ?_
  rotate_left 2
  · have hr := run_string_bytes (P := Try.prog) ((hG' 6 (by kernel_rfl)).2 rfl) 23 5 Try.underlying23 Try.underlying5 9 Try.underlying9
    clear hC' hG'
    go_simp
    rfl
  · go_simp
    rfl
  iterate 12 ((with_reducible refine loose_one (v := ?_) (a' := ?_) ?_ ?_ (fun w' hC' hG' => ?_) ?_ ?_); rotate_left 2; (focus rfl); (focus rfl); (focus (clear hC' hG'; go_simp; rfl)); (focus (go_simp; rfl)))
  refine loose_call (f := 12) (args := #[]) (by rfl) (by rfl) (fun _ => by go_simp) (fun w' _ _ => awake_loose w') ?_
  rintro _ ⟨_, _, rfl⟩
  refine ⟨?_, ?_, ?_⟩
  rotate_left
  · go_simp
    rfl
  iterate 2 ((with_reducible refine loose_one (v := ?_) (a' := ?_) ?_ ?_ (fun w' hC' hG' => ?_) ?_ ?_); rotate_left 2; (focus rfl); (focus rfl); (focus (clear hC' hG'; go_simp; rfl)); (focus (go_simp; rfl)))
  refine loose_done (fun w' hC' hG' => ?_)
  clear hG'
  go_wp2
  go_ret
  exact ⟨rfl, hC'⟩

end Go.Proofs.Ytkcgjhmllmkmlaa
