/-
  The walk of the law BitsetElements: it returns true for every N, list and index; nothing that was there is changed.
-/
import Derived.Test.YtaegolkoinjmoaaDoorBkLawOps
namespace Go.Proofs.YtaegolkoinjmoaaDoor
open Go.RowKit
set_option linter.unusedVariables false
set_option linter.unusedSimpArgs false

def IntsR (l : List Nat) (v : Value) (w : World) : Prop := Reads w v (ncells l)
theorem ints_loose {f : FuncId} {args : Array Value} {w : World} {l : List Nat} (h : Calls Tryd.prog f args w (OwnInts l w)) : Calls Tryd.prog f args w fun e w' => ∃ v, e = .returned v ∧ Grows w w' ∧ IntsR l v w' :=
  h.mono fun _ _ ⟨v, he, ho, hb⟩ => ⟨v, he, hb, Reads.of_own ho⟩
theorem same_true {f : FuncId} {args : Array Value} {w : World} {l : List Nat} (h : Calls Tryd.prog f args w fun e w' => e = .returned (.bool (sameL l l)) ∧ Grows w w') : Calls Tryd.prog f args w fun e w' => e = .returned (.bool true) ∧ Grows w w' := by
  rw [sameL_t rfl] at h
  exact h
def elRs4 (N : Nat) (f g : Nat → Bool) : Loose := fun i =>
  match i with
  | 2 => some (BoolR true)
  | 6 => some (SetVR N fun _ => false)
  | 8 => some (SetVR N fun _ => false)
  | 9 => some (BoolR true)
  | 16 => some (SetVR N g)
  | 20 => some (SetVR N g)
  | 21 => some (BoolR true)
  | _ => none
theorem elRs4_lasts (N : Nat) (f g : Nat → Bool) : (elRs4 N f g).lasts := by
  intro i R h
  unfold elRs4 at h
  split at h <;> first
    | (injection h with h; subst h; exact fun _ _ _ h _ => h)
    | (injection h with h; subst h; exact fun _ _ _ h hb => IsSet.grow h hb)
    | (cases h)
def elRs6 (b : Bool) (c r s : Int) (l : List Nat) : Loose := fun i =>
  match i with
  | 2 => some (BoolR b)
  | 5 => some (BoolR b)
  | 9 => some (NumR c)
  | 11 => some (NumR c)
  | 17 => some (NumR r)
  | 20 => some (NumR r)
  | 26 => some (NumR s)
  | 29 => some (NumR s)
  | 34 => some (IntsR l)
  | 36 => some (IntsR l)
  | 37 => some (BoolR true)
  | 40 => some (BoolR true)
  | _ => none
theorem elRs6_lasts (b : Bool) (c r s : Int) (l : List Nat) : (elRs6 b c r s l).lasts := by
  intro i R h
  unfold elRs6 at h
  split at h <;> first
    | (injection h with h; subst h; exact fun _ _ _ h _ => h)
    | (injection h with h; subst h; exact fun _ _ _ h hb => Reads.grow h hb)
    | (cases h)

set_option maxHeartbeats 4000000 in
theorem law_elems (n : Int) (A : Option Addr) (c : Nat) (l : List Int) (i : Int) (on : Bool) (w : World) (hr : Reads w (.slice A l.length c) (icells l)) (hw : ∀ x ∈ l, -9223372036854775808 ≤ x ∧ x ≤ 9223372036854775807) (hll : l.length ≤ 9223372036854775807)
    (hn3 : -9223372036854775808 ≤ n) (hn4 : n ≤ 9223372036854775807) (hi3 : -9223372036854775808 ≤ i) (hi4 : i ≤ 9223372036854775807) (hTb : Tab w) :
    Calls Tryd.prog 3 #[.int .i64 n, .slice A l.length c, .int .i64 i, .bool on] w fun e w' => e = .returned (.bool true) ∧ Below w.heap.size w w' := by
  have HR := hidden hr
  have HW := hidden hw
  have HTB := hidden hTb
  clear hr hw hTb
  have esc : (3000 < n ∧ n ≤ 1048576) ∨ 100 < l.length → Calls Tryd.prog 3 #[.int .i64 n, .slice A l.length c, .int .i64 i, .bool on] w fun e w' => e = .returned (.bool true) ∧ Below w.heap.size w w' := by
    intro h
    by_cases h1 : 3000 < n ∧ n ≤ 1048576
    · obtain ⟨h2, h3⟩ := h1
      go_enter Tryd.func3, Tryd.ntmps3
      go_wp2_with fail
      refine (lives_any _ HTB.out).mono ?_
      rintro e w3 ⟨rfl, g3⟩
      go_wp2_with fail
      go_ret
      exact ⟨rfl, g3⟩
    · have h4 : 100 < l.length := by rcases h with h | h; exact absurd h h1; exact h
      have hd : decide ((100 : Int) < (l.length : Int)) = true := by simp; omega
      by_cases h2 : 3000 < n
      · have h3 : ¬ n ≤ 1048576 := fun h => h1 ⟨h2, h⟩
        clear h h1
        go_enter Tryd.func3, Tryd.ntmps3
        go_wp2_with fail
        refine (lives_any _ HTB.out).mono ?_
        rintro e w3 ⟨rfl, g3⟩
        go_wp2_with fail
        go_ret
        exact ⟨rfl, g3⟩
      · clear h h1
        go_enter Tryd.func3, Tryd.ntmps3
        go_wp2_with fail
        refine (lives_any _ HTB.out).mono ?_
        rintro e w3 ⟨rfl, g3⟩
        go_wp2_with fail
        go_ret
        exact ⟨rfl, g3⟩
  by_cases hesc : (3000 < n ∧ n ≤ 1048576) ∨ 100 < l.length
  · exact esc hesc
  · clear esc
    have hl : l.length ≤ 100 := by omega
    have hnn : ¬ (3000 < n ∧ n ≤ 1048576) := fun h => hesc (.inl h)
    have HNW := hidden (fun w => ck_new n w hn3 hn4)
    have HRN := hidden (fun w => fresh_setR (newN_le n) (rnew_any n w hn3 hn4))
    have HOF := hidden (fun w h => ck_of n (.slice A l.length c) l w h (by omega) HW.out hn3 hn4)
    have HRO := hidden (fun w h => fresh_setR (newN_le n) (rof_any n (.slice A l.length c) l w h (by omega) hn3 hn4))
    have hN2 := newN_le n
    have hN3 : newN n ≤ 3000 := by
      by_cases h : 0 ≤ n ∧ n ≤ 1048576
      · unfold newN; rw [if_pos h]; omega
      · unfold newN; rw [if_neg h]; omega
    generalize newN n = N at *
    have HEL : Hid ((elems (mem N (pack N (inL l))) N).length ≤ 1048576) := by show _ ≤ _; rw [elems_length]; have := cnt_le (mem N (pack N (inL l))) N; omega
    have hd : decide ((100 : Int) < (l.length : Int)) = false := by simp; omega
    clear hesc
    have main : Calls Tryd.prog 3 #[.int .i64 n, .slice A l.length c, .int .i64 i, .bool on] w fun e w' => e = .returned (.bool true) ∧ Below w.heap.size w w' := by
      by_cases h2 : 3000 < n
      · have h3 : ¬ n ≤ 1048576 := fun h => hnn ⟨h2, h⟩
        clear hnn
        go_enter Tryd.func3, Tryd.ntmps3
        go_wp2_with fail
        refine (HOF.out _ HR.out).mono ?_
        rintro e w1 ⟨s1, rfl, hs1, g1⟩
        have HS1 := hidden hs1
        obtain ⟨v1, rfl, hr1, _, _⟩ := hs1
        obtain ⟨A1, c1, rfl, _⟩ := hr1.slice_
        generalize (ucells (pack N (inL l))).length = L1 at *
        have HG1 := hidden g1
        clear hr1 g1
        go_wp2_with fail
        refine (HRO.out _ (HR.out.grow HG1.out)).mono ?_
        rintro e w2 ⟨s2, rfl, hs2, g2⟩
        have HS2 := hidden hs2
        obtain ⟨v2, rfl, hr2, _, _⟩ := hs2
        obtain ⟨A2, c2, rfl, _⟩ := hr2.slice_
        generalize hL2 : (ucells (pack N (inL l))).length = L2 at *
        have HG2 := hidden (HG1.out.of_below g2)
        have HS12 := hidden (HS1.out.grow g2)
        clear hr2 g2 hL2
        go_wp2_with fail
        have hGW : Grows w2 ((w2.alloc (.cells #[.int .i64 (N : Int), .slice A1 L1 c1] 26)).alloc (.cells #[.int .i64 (N : Int), .slice A2 L2 c2] 26)) := ((Below.refl _ _).alloc (Nat.le_refl _) _).alloc (by simp) _
        have HX1 : Hid (∀ X, Grows ((w2.alloc (.cells #[.int .i64 (N : Int), .slice A1 L1 c1] 26)).alloc (.cells #[.int .i64 (N : Int), .slice A2 L2 c2] 26)) X → X.cell? ⟨w2.heap.size, 0, none⟩ = some (.int .i64 (N : Int)) ∧ X.cell? ⟨w2.heap.size, 1, none⟩ = some (.slice A1 L1 c1) ∧ X.cell? ⟨w2.heap.size + 1, 0, none⟩ = some (.int .i64 (N : Int)) ∧ X.cell? ⟨w2.heap.size + 1, 1, none⟩ = some (.slice A2 L2 c2)) := by
          intro X g
          have r := ((Row.new w2 26 #[.int .i64 (N : Int), .slice A1 L1 c1] [.int .i64 (N : Int), .slice A1 L1 c1] rfl).grow ((Below.refl _ _).alloc (Nat.le_refl _) (.cells #[.int .i64 (N : Int), .slice A2 L2 c2] 26))).grow g
          have r2 := (Row.at_ (w2.alloc (.cells #[.int .i64 (N : Int), .slice A1 L1 c1] 26)) 26 #[.int .i64 (N : Int), .slice A2 L2 c2] [.int .i64 (N : Int), .slice A2 L2 c2] rfl (w2.heap.size + 1) (by simp)).grow g
          exact ⟨r.cell 0, r.cell 1, r2.cell 0, r2.cell 1⟩
        have HS := hidden (HS12.out.grow hGW)
        have HT := hidden (HS2.out.grow hGW)
        have HGF := hidden (HG2.out.of_below hGW)
        clear hGW
        have HX := hidden HX1.out
        refine wp_region_loose (elRs4 N (inL l) (onAt (mem N (pack N (inL l))) i on)) (by kernel_rfl) (by kernel_rfl) (elRs4_lasts _ _ _) ?_
        iterate 2 ((with_reducible refine loose_one (v := ?_) (a' := ?_) ?_ ?_ (fun w' hC' hG' => ?_) ?_ ?_); rotate_left 2; (focus rfl); (focus rfl); (focus (obtain ⟨x0, x1, y0, y1⟩ := HX.out w' hC'; clear hC' hG'; go_simp; rfl)); (focus (go_simp; rfl)))
        refine loose_call (f := 13) (args := #[.agg #[.int .i64 (N : Int), .slice A1 L1 c1], .agg #[.int .i64 (N : Int), .slice A2 L2 c2]]) (by rfl) (by rfl) (fun _ => by go_simp) (fun w' hC' hG' => bool_loose (eq_true (requal_any _ _ (N : Int) (N : Int) _ _ w' (setV_pair (show SetVR N (inL l) _ w' from HS.out.grow hC')) (setV_pair (show SetVR N (inL l) _ w' from HT.out.grow hC'))))) ?_
        rintro _ ⟨_, _, rfl⟩
        refine ⟨?_, ?_, ?_⟩
        rotate_left
        · go_simp
          rfl
        iterate 3 ((with_reducible refine loose_one (v := ?_) (a' := ?_) ?_ ?_ (fun w' hC' hG' => ?_) ?_ ?_); rotate_left 2; (focus rfl); (focus rfl); (focus (obtain ⟨x0, x1, y0, y1⟩ := HX.out w' hC'; clear hC' hG'; go_simp; rfl)); (focus (go_simp; rfl)))
        refine loose_call (f := 14) (args := #[.int .i64 n]) (by rfl) (by rfl) (fun _ => by go_simp) (fun w' hC' hG' => set_loose (HNW.out w')) ?_
        intro v6 _
        refine ⟨?_, ?_, ?_⟩
        rotate_left
        · go_simp
          rfl
        iterate 1 ((with_reducible refine loose_one (v := ?_) (a' := ?_) ?_ ?_ (fun w' hC' hG' => ?_) ?_ ?_); rotate_left 2; (focus rfl); (focus rfl); (focus (obtain ⟨x0, x1, y0, y1⟩ := HX.out w' hC'; clear hC' hG'; go_simp; rfl)); (focus (go_simp; rfl)))
        refine loose_call (f := 15) (args := #[.int .i64 n]) (by rfl) (by rfl) (fun _ => by go_simp) (fun w' hC' hG' => set_loose (HRN.out w')) ?_
        intro v8 _
        refine ⟨?_, ?_, ?_⟩
        rotate_left
        · go_simp
          rfl
        refine loose_call (f := 13) (args := #[v6, v8]) (by rfl) (by rfl) (fun _ => by go_simp) (fun w' hC' hG' => bool_loose (eq_true (requal_any v6 v8 _ _ _ _ w' (setV_pair ((hG' 6 (by kernel_rfl)).1.2 rfl)) (setV_pair ((hG' 8 (by kernel_rfl)).2 rfl))))) ?_
        rintro _ ⟨_, _, rfl⟩
        refine ⟨?_, ?_, ?_⟩
        rotate_left
        · go_simp
          rfl
        iterate 6 ((with_reducible refine loose_one (v := ?_) (a' := ?_) ?_ ?_ (fun w' hC' hG' => ?_) ?_ ?_); rotate_left 2; (focus rfl); (focus rfl); (focus (obtain ⟨x0, x1, y0, y1⟩ := HX.out w' hC'; clear hC' hG'; go_simp; rfl)); (focus (go_simp; rfl)))
        refine loose_call (f := 16) (args := #[.agg #[.int .i64 (N : Int), .slice A2 L2 c2], .int .i64 i, .bool on]) (by rfl) (by rfl) (fun _ => by go_simp) (fun w' hC' hG' => set_loose (ck_set _ N _ i on w' (HT.out.grow hC') (okW_pack N (inL l)) hi3 hi4)) ?_
        intro v16 _
        refine ⟨?_, ?_, ?_⟩
        rotate_left
        · go_simp
          rfl
        iterate 3 ((with_reducible refine loose_one (v := ?_) (a' := ?_) ?_ ?_ (fun w' hC' hG' => ?_) ?_ ?_); rotate_left 2; (focus rfl); (focus rfl); (focus (obtain ⟨x0, x1, y0, y1⟩ := HX.out w' hC'; clear hC' hG'; go_simp; rfl)); (focus (go_simp; rfl)))
        refine loose_call (f := 17) (args := #[.agg #[.int .i64 (N : Int), .slice A2 L2 c2], .int .i64 i, .bool on]) (by rfl) (by rfl) (fun _ => by go_simp) (fun w' hC' hG' => set_loose (fresh_setR hN2 (rset_any _ N _ i on w' (HT.out.grow hC') hi3 hi4))) ?_
        intro v20 _
        refine ⟨?_, ?_, ?_⟩
        rotate_left
        · go_simp
          rfl
        refine loose_call (f := 13) (args := #[v16, v20]) (by rfl) (by rfl) (fun _ => by go_simp) (fun w' hC' hG' => bool_loose (eq_true (requal_any v16 v20 _ _ _ _ w' (setV_pair ((hG' 16 (by kernel_rfl)).1.2 rfl)) (setV_pair ((hG' 20 (by kernel_rfl)).2 rfl))))) ?_
        rintro _ ⟨_, _, rfl⟩
        refine ⟨?_, ?_, ?_⟩
        rotate_left
        · go_simp
          rfl
        iterate 2 ((with_reducible refine loose_one (v := ?_) (a' := ?_) ?_ ?_ (fun w' hC' hG' => ?_) ?_ ?_); rotate_left 2; (focus rfl); (focus rfl); (focus (obtain ⟨x0, x1, y0, y1⟩ := HX.out w' hC'; clear hC' hG'; go_simp; rfl)); (focus (go_simp; rfl)))
        refine loose_done (fun w4 hC4 hG4 => ?_)
        have HT4 := hidden (HT.out.grow hC4)
        have HC4 := hidden hC4
        have HGF4 := hidden (HGF.out.of_below hC4)
        clear hG4 hC4 HX HT HS
        have HT := hidden HT4.out
        have HX := hidden (fun X (g : Grows w4 X) => HX1.out X (HC4.out.of_below g))
        go_wp2_with fail
        refine wp_region_loose (elRs6 (memI N (pack N (inL l)) i) (cnt (mem N (pack N (inL l))) N : Int) (rankI N (mem N (pack N (inL l))) i : Int) (selI N (mem N (pack N (inL l))) i) (elems (mem N (pack N (inL l))) N)) (by kernel_rfl) (by kernel_rfl) (elRs6_lasts _ _ _ _ _) ?_
        iterate 2 ((with_reducible refine loose_one (v := ?_) (a' := ?_) ?_ ?_ (fun w' hC' hG' => ?_) ?_ ?_); rotate_left 2; (focus rfl); (focus rfl); (focus (obtain ⟨x0, x1, y0, y1⟩ := HX.out w' hC'; clear hC' hG'; go_simp; rfl)); (focus (go_simp; rfl)))
        refine loose_call (f := 18) (args := #[.agg #[.int .i64 (N : Int), .slice A2 L2 c2], .int .i64 i]) (by rfl) (by rfl) (fun _ => by go_simp) (fun w' hC' hG' => bool_loose (ck_contains _ N _ i w' (HT.out.grow hC') (okW_pack N (inL l)) hi3 hi4)) ?_
        rintro _ ⟨_, _, rfl⟩
        refine ⟨?_, ?_, ?_⟩
        rotate_left
        · go_simp
          rfl
        iterate 2 ((with_reducible refine loose_one (v := ?_) (a' := ?_) ?_ ?_ (fun w' hC' hG' => ?_) ?_ ?_); rotate_left 2; (focus rfl); (focus rfl); (focus (obtain ⟨x0, x1, y0, y1⟩ := HX.out w' hC'; clear hC' hG'; go_simp; rfl)); (focus (go_simp; rfl)))
        refine loose_call (f := 19) (args := #[.agg #[.int .i64 (N : Int), .slice A2 L2 c2], .int .i64 i]) (by rfl) (by rfl) (fun _ => by go_simp) (fun w' hC' hG' => bool_loose (rcontains_any _ N _ i w' (HT.out.grow hC') hi3 hi4)) ?_
        rintro _ ⟨_, _, rfl⟩
        refine ⟨?_, ?_, ?_⟩
        rotate_left
        · go_simp
          rfl
        generalize memI N (pack N (inL l)) i = yb at *
        iterate 3 ((with_reducible refine loose_one (v := ?_) (a' := ?_) ?_ ?_ (fun w' hC' hG' => ?_) ?_ ?_); rotate_left 2; (focus rfl); (focus rfl); (focus (obtain ⟨x0, x1, y0, y1⟩ := HX.out w' hC'; clear hC' hG'; go_simp; rfl)); (focus (go_simp; rfl)))
        refine loose_call (f := 20) (args := #[.agg #[.int .i64 (N : Int), .slice A2 L2 c2]]) (by rfl) (by rfl) (fun _ => by go_simp) (fun w' hC' hG' => num_loose (ck_count _ N _ w' (HT.out.grow hC') (okW_pack N (inL l)))) ?_
        rintro _ ⟨_, _, rfl⟩
        refine ⟨?_, ?_, ?_⟩
        rotate_left
        · go_simp
          rfl
        iterate 1 ((with_reducible refine loose_one (v := ?_) (a' := ?_) ?_ ?_ (fun w' hC' hG' => ?_) ?_ ?_); rotate_left 2; (focus rfl); (focus rfl); (focus (obtain ⟨x0, x1, y0, y1⟩ := HX.out w' hC'; clear hC' hG'; go_simp; rfl)); (focus (go_simp; rfl)))
        refine loose_call (f := 21) (args := #[.agg #[.int .i64 (N : Int), .slice A2 L2 c2]]) (by rfl) (by rfl) (fun _ => by go_simp) (fun w' hC' hG' => num_loose (rcount_any _ N _ w' (HT.out.grow hC'))) ?_
        rintro _ ⟨_, _, rfl⟩
        refine ⟨?_, ?_, ?_⟩
        rotate_left
        · go_simp
          rfl
        generalize ((cnt (mem N (pack N (inL l))) N : Nat) : Int) = yc at *
        iterate 5 ((with_reducible refine loose_one (v := ?_) (a' := ?_) ?_ ?_ (fun w' hC' hG' => ?_) ?_ ?_); rotate_left 2; (focus rfl); (focus rfl); (focus (obtain ⟨x0, x1, y0, y1⟩ := HX.out w' hC'; clear hC' hG'; go_simp; rfl)); (focus (go_simp; rfl)))
        refine loose_call (f := 22) (args := #[.agg #[.int .i64 (N : Int), .slice A2 L2 c2], .int .i64 i]) (by rfl) (by rfl) (fun _ => by go_simp) (fun w' hC' hG' => num_loose (ck_rank _ N _ i w' (HT.out.grow hC') (okW_pack N (inL l)) hi3 hi4)) ?_
        rintro _ ⟨_, _, rfl⟩
        refine ⟨?_, ?_, ?_⟩
        rotate_left
        · go_simp
          rfl
        iterate 2 ((with_reducible refine loose_one (v := ?_) (a' := ?_) ?_ ?_ (fun w' hC' hG' => ?_) ?_ ?_); rotate_left 2; (focus rfl); (focus rfl); (focus (obtain ⟨x0, x1, y0, y1⟩ := HX.out w' hC'; clear hC' hG'; go_simp; rfl)); (focus (go_simp; rfl)))
        refine loose_call (f := 23) (args := #[.agg #[.int .i64 (N : Int), .slice A2 L2 c2], .int .i64 i]) (by rfl) (by rfl) (fun _ => by go_simp) (fun w' hC' hG' => num_loose (rrank_any _ N _ i w' (HT.out.grow hC') hi3 hi4)) ?_
        rintro _ ⟨_, _, rfl⟩
        refine ⟨?_, ?_, ?_⟩
        rotate_left
        · go_simp
          rfl
        generalize ((rankI N (mem N (pack N (inL l))) i : Nat) : Int) = yr at *
        iterate 5 ((with_reducible refine loose_one (v := ?_) (a' := ?_) ?_ ?_ (fun w' hC' hG' => ?_) ?_ ?_); rotate_left 2; (focus rfl); (focus rfl); (focus (obtain ⟨x0, x1, y0, y1⟩ := HX.out w' hC'; clear hC' hG'; go_simp; rfl)); (focus (go_simp; rfl)))
        refine loose_call (f := 24) (args := #[.agg #[.int .i64 (N : Int), .slice A2 L2 c2], .int .i64 i]) (by rfl) (by rfl) (fun _ => by go_simp) (fun w' hC' hG' => num_loose (ck_select _ N _ i w' (HT.out.grow hC') (okW_pack N (inL l)) (HTB.out.grow (HGF4.out.of_below hC')) hi3 hi4)) ?_
        rintro _ ⟨_, _, rfl⟩
        refine ⟨?_, ?_, ?_⟩
        rotate_left
        · go_simp
          rfl
        iterate 2 ((with_reducible refine loose_one (v := ?_) (a' := ?_) ?_ ?_ (fun w' hC' hG' => ?_) ?_ ?_); rotate_left 2; (focus rfl); (focus rfl); (focus (obtain ⟨x0, x1, y0, y1⟩ := HX.out w' hC'; clear hC' hG'; go_simp; rfl)); (focus (go_simp; rfl)))
        refine loose_call (f := 25) (args := #[.agg #[.int .i64 (N : Int), .slice A2 L2 c2], .int .i64 i]) (by rfl) (by rfl) (fun _ => by go_simp) (fun w' hC' hG' => num_loose (rselect_any _ N _ i w' (HT.out.grow hC') hi3 hi4)) ?_
        rintro _ ⟨_, _, rfl⟩
        refine ⟨?_, ?_, ?_⟩
        rotate_left
        · go_simp
          rfl
        generalize selI N (mem N (pack N (inL l))) i = ys at *
        iterate 4 ((with_reducible refine loose_one (v := ?_) (a' := ?_) ?_ ?_ (fun w' hC' hG' => ?_) ?_ ?_); rotate_left 2; (focus rfl); (focus rfl); (focus (obtain ⟨x0, x1, y0, y1⟩ := HX.out w' hC'; clear hC' hG'; go_simp; rfl)); (focus (go_simp; rfl)))
        refine loose_call (f := 27) (args := #[.agg #[.int .i64 (N : Int), .slice A2 L2 c2]]) (by rfl) (by rfl) (fun _ => by go_simp) (fun w' hC' hG' => ints_loose (elements_any _ N _ w' (HT.out.grow hC') (okW_pack N (inL l)) hN3 (HTB.out.grow (HGF4.out.of_below hC')))) ?_
        intro v34 _
        refine ⟨?_, ?_, ?_⟩
        rotate_left
        · go_simp
          rfl
        iterate 1 ((with_reducible refine loose_one (v := ?_) (a' := ?_) ?_ ?_ (fun w' hC' hG' => ?_) ?_ ?_); rotate_left 2; (focus rfl); (focus rfl); (focus (obtain ⟨x0, x1, y0, y1⟩ := HX.out w' hC'; clear hC' hG'; go_simp; rfl)); (focus (go_simp; rfl)))
        refine loose_call (f := 28) (args := #[.agg #[.int .i64 (N : Int), .slice A2 L2 c2]]) (by rfl) (by rfl) (fun _ => by go_simp) (fun w' hC' hG' => ints_loose (relements_any _ N _ w' (HT.out.grow hC'))) ?_
        intro v36 _
        refine ⟨?_, ?_, ?_⟩
        rotate_left
        · go_simp
          rfl
        refine loose_call (f := 26) (args := #[v34, v36]) (by rfl) (by rfl) (fun _ => by go_simp) (fun w' hC' hG' => bool_loose (same_true (ints_any v34 v36 _ _ w' ((hG' 34 (by kernel_rfl)).1.2 rfl) ((hG' 36 (by kernel_rfl)).2 rfl) HEL.out HEL.out))) ?_
        rintro _ ⟨_, _, rfl⟩
        refine ⟨?_, ?_, ?_⟩
        rotate_left
        · go_simp
          rfl
        iterate 2 ((with_reducible refine loose_one (v := ?_) (a' := ?_) ?_ ?_ (fun w' hC' hG' => ?_) ?_ ?_); rotate_left 2; (focus rfl); (focus rfl); (focus (obtain ⟨x0, x1, y0, y1⟩ := HX.out w' hC'; clear hC' hG'; go_simp; rfl)); (focus (go_simp; rfl)))
        refine loose_call (f := 10) (args := #[]) (by rfl) (by rfl) (fun _ => by go_simp) (fun w' hC' hG' => bool_loose (lives_any w' (HTB.out.grow (HGF4.out.of_below hC')))) ?_
        rintro _ ⟨_, _, rfl⟩
        refine ⟨?_, ?_, ?_⟩
        rotate_left
        · go_simp
          rfl
        iterate 2 ((with_reducible refine loose_one (v := ?_) (a' := ?_) ?_ ?_ (fun w' hC' hG' => ?_) ?_ ?_); rotate_left 2; (focus rfl); (focus rfl); (focus (obtain ⟨x0, x1, y0, y1⟩ := HX.out w' hC'; clear hC' hG'; go_simp; rfl)); (focus (go_simp; rfl)))
        refine loose_done (fun w6 hC6 hG6 => ?_)
        clear hG6
        have hC2 := HGF4.out.of_below hC6
        go_wp2_with fail
        go_ret
        exact ⟨rfl, hC2⟩
      · clear hnn
        go_enter Tryd.func3, Tryd.ntmps3
        go_wp2_with fail
        refine (HOF.out _ HR.out).mono ?_
        rintro e w1 ⟨s1, rfl, hs1, g1⟩
        have HS1 := hidden hs1
        obtain ⟨v1, rfl, hr1, _, _⟩ := hs1
        obtain ⟨A1, c1, rfl, _⟩ := hr1.slice_
        generalize (ucells (pack N (inL l))).length = L1 at *
        have HG1 := hidden g1
        clear hr1 g1
        go_wp2_with fail
        refine (HRO.out _ (HR.out.grow HG1.out)).mono ?_
        rintro e w2 ⟨s2, rfl, hs2, g2⟩
        have HS2 := hidden hs2
        obtain ⟨v2, rfl, hr2, _, _⟩ := hs2
        obtain ⟨A2, c2, rfl, _⟩ := hr2.slice_
        generalize hL2 : (ucells (pack N (inL l))).length = L2 at *
        have HG2 := hidden (HG1.out.of_below g2)
        have HS12 := hidden (HS1.out.grow g2)
        clear hr2 g2 hL2
        go_wp2_with fail
        have hGW : Grows w2 ((w2.alloc (.cells #[.int .i64 (N : Int), .slice A1 L1 c1] 26)).alloc (.cells #[.int .i64 (N : Int), .slice A2 L2 c2] 26)) := ((Below.refl _ _).alloc (Nat.le_refl _) _).alloc (by simp) _
        have HX1 : Hid (∀ X, Grows ((w2.alloc (.cells #[.int .i64 (N : Int), .slice A1 L1 c1] 26)).alloc (.cells #[.int .i64 (N : Int), .slice A2 L2 c2] 26)) X → X.cell? ⟨w2.heap.size, 0, none⟩ = some (.int .i64 (N : Int)) ∧ X.cell? ⟨w2.heap.size, 1, none⟩ = some (.slice A1 L1 c1) ∧ X.cell? ⟨w2.heap.size + 1, 0, none⟩ = some (.int .i64 (N : Int)) ∧ X.cell? ⟨w2.heap.size + 1, 1, none⟩ = some (.slice A2 L2 c2)) := by
          intro X g
          have r := ((Row.new w2 26 #[.int .i64 (N : Int), .slice A1 L1 c1] [.int .i64 (N : Int), .slice A1 L1 c1] rfl).grow ((Below.refl _ _).alloc (Nat.le_refl _) (.cells #[.int .i64 (N : Int), .slice A2 L2 c2] 26))).grow g
          have r2 := (Row.at_ (w2.alloc (.cells #[.int .i64 (N : Int), .slice A1 L1 c1] 26)) 26 #[.int .i64 (N : Int), .slice A2 L2 c2] [.int .i64 (N : Int), .slice A2 L2 c2] rfl (w2.heap.size + 1) (by simp)).grow g
          exact ⟨r.cell 0, r.cell 1, r2.cell 0, r2.cell 1⟩
        have HS := hidden (HS12.out.grow hGW)
        have HT := hidden (HS2.out.grow hGW)
        have HGF := hidden (HG2.out.of_below hGW)
        clear hGW
        have HX := hidden HX1.out
        refine wp_region_loose (elRs4 N (inL l) (onAt (mem N (pack N (inL l))) i on)) (by kernel_rfl) (by kernel_rfl) (elRs4_lasts _ _ _) ?_
        iterate 2 ((with_reducible refine loose_one (v := ?_) (a' := ?_) ?_ ?_ (fun w' hC' hG' => ?_) ?_ ?_); rotate_left 2; (focus rfl); (focus rfl); (focus (obtain ⟨x0, x1, y0, y1⟩ := HX.out w' hC'; clear hC' hG'; go_simp; rfl)); (focus (go_simp; rfl)))
        refine loose_call (f := 13) (args := #[.agg #[.int .i64 (N : Int), .slice A1 L1 c1], .agg #[.int .i64 (N : Int), .slice A2 L2 c2]]) (by rfl) (by rfl) (fun _ => by go_simp) (fun w' hC' hG' => bool_loose (eq_true (requal_any _ _ (N : Int) (N : Int) _ _ w' (setV_pair (show SetVR N (inL l) _ w' from HS.out.grow hC')) (setV_pair (show SetVR N (inL l) _ w' from HT.out.grow hC'))))) ?_
        rintro _ ⟨_, _, rfl⟩
        refine ⟨?_, ?_, ?_⟩
        rotate_left
        · go_simp
          rfl
        iterate 3 ((with_reducible refine loose_one (v := ?_) (a' := ?_) ?_ ?_ (fun w' hC' hG' => ?_) ?_ ?_); rotate_left 2; (focus rfl); (focus rfl); (focus (obtain ⟨x0, x1, y0, y1⟩ := HX.out w' hC'; clear hC' hG'; go_simp; rfl)); (focus (go_simp; rfl)))
        refine loose_call (f := 14) (args := #[.int .i64 n]) (by rfl) (by rfl) (fun _ => by go_simp) (fun w' hC' hG' => set_loose (HNW.out w')) ?_
        intro v6 _
        refine ⟨?_, ?_, ?_⟩
        rotate_left
        · go_simp
          rfl
        iterate 1 ((with_reducible refine loose_one (v := ?_) (a' := ?_) ?_ ?_ (fun w' hC' hG' => ?_) ?_ ?_); rotate_left 2; (focus rfl); (focus rfl); (focus (obtain ⟨x0, x1, y0, y1⟩ := HX.out w' hC'; clear hC' hG'; go_simp; rfl)); (focus (go_simp; rfl)))
        refine loose_call (f := 15) (args := #[.int .i64 n]) (by rfl) (by rfl) (fun _ => by go_simp) (fun w' hC' hG' => set_loose (HRN.out w')) ?_
        intro v8 _
        refine ⟨?_, ?_, ?_⟩
        rotate_left
        · go_simp
          rfl
        refine loose_call (f := 13) (args := #[v6, v8]) (by rfl) (by rfl) (fun _ => by go_simp) (fun w' hC' hG' => bool_loose (eq_true (requal_any v6 v8 _ _ _ _ w' (setV_pair ((hG' 6 (by kernel_rfl)).1.2 rfl)) (setV_pair ((hG' 8 (by kernel_rfl)).2 rfl))))) ?_
        rintro _ ⟨_, _, rfl⟩
        refine ⟨?_, ?_, ?_⟩
        rotate_left
        · go_simp
          rfl
        iterate 6 ((with_reducible refine loose_one (v := ?_) (a' := ?_) ?_ ?_ (fun w' hC' hG' => ?_) ?_ ?_); rotate_left 2; (focus rfl); (focus rfl); (focus (obtain ⟨x0, x1, y0, y1⟩ := HX.out w' hC'; clear hC' hG'; go_simp; rfl)); (focus (go_simp; rfl)))
        refine loose_call (f := 16) (args := #[.agg #[.int .i64 (N : Int), .slice A2 L2 c2], .int .i64 i, .bool on]) (by rfl) (by rfl) (fun _ => by go_simp) (fun w' hC' hG' => set_loose (ck_set _ N _ i on w' (HT.out.grow hC') (okW_pack N (inL l)) hi3 hi4)) ?_
        intro v16 _
        refine ⟨?_, ?_, ?_⟩
        rotate_left
        · go_simp
          rfl
        iterate 3 ((with_reducible refine loose_one (v := ?_) (a' := ?_) ?_ ?_ (fun w' hC' hG' => ?_) ?_ ?_); rotate_left 2; (focus rfl); (focus rfl); (focus (obtain ⟨x0, x1, y0, y1⟩ := HX.out w' hC'; clear hC' hG'; go_simp; rfl)); (focus (go_simp; rfl)))
        refine loose_call (f := 17) (args := #[.agg #[.int .i64 (N : Int), .slice A2 L2 c2], .int .i64 i, .bool on]) (by rfl) (by rfl) (fun _ => by go_simp) (fun w' hC' hG' => set_loose (fresh_setR hN2 (rset_any _ N _ i on w' (HT.out.grow hC') hi3 hi4))) ?_
        intro v20 _
        refine ⟨?_, ?_, ?_⟩
        rotate_left
        · go_simp
          rfl
        refine loose_call (f := 13) (args := #[v16, v20]) (by rfl) (by rfl) (fun _ => by go_simp) (fun w' hC' hG' => bool_loose (eq_true (requal_any v16 v20 _ _ _ _ w' (setV_pair ((hG' 16 (by kernel_rfl)).1.2 rfl)) (setV_pair ((hG' 20 (by kernel_rfl)).2 rfl))))) ?_
        rintro _ ⟨_, _, rfl⟩
        refine ⟨?_, ?_, ?_⟩
        rotate_left
        · go_simp
          rfl
        iterate 2 ((with_reducible refine loose_one (v := ?_) (a' := ?_) ?_ ?_ (fun w' hC' hG' => ?_) ?_ ?_); rotate_left 2; (focus rfl); (focus rfl); (focus (obtain ⟨x0, x1, y0, y1⟩ := HX.out w' hC'; clear hC' hG'; go_simp; rfl)); (focus (go_simp; rfl)))
        refine loose_done (fun w4 hC4 hG4 => ?_)
        have HT4 := hidden (HT.out.grow hC4)
        have HC4 := hidden hC4
        have HGF4 := hidden (HGF.out.of_below hC4)
        clear hG4 hC4 HX HT HS
        have HT := hidden HT4.out
        have HX := hidden (fun X (g : Grows w4 X) => HX1.out X (HC4.out.of_below g))
        go_wp2_with fail
        refine wp_region_loose (elRs6 (memI N (pack N (inL l)) i) (cnt (mem N (pack N (inL l))) N : Int) (rankI N (mem N (pack N (inL l))) i : Int) (selI N (mem N (pack N (inL l))) i) (elems (mem N (pack N (inL l))) N)) (by kernel_rfl) (by kernel_rfl) (elRs6_lasts _ _ _ _ _) ?_
        iterate 2 ((with_reducible refine loose_one (v := ?_) (a' := ?_) ?_ ?_ (fun w' hC' hG' => ?_) ?_ ?_); rotate_left 2; (focus rfl); (focus rfl); (focus (obtain ⟨x0, x1, y0, y1⟩ := HX.out w' hC'; clear hC' hG'; go_simp; rfl)); (focus (go_simp; rfl)))
        refine loose_call (f := 18) (args := #[.agg #[.int .i64 (N : Int), .slice A2 L2 c2], .int .i64 i]) (by rfl) (by rfl) (fun _ => by go_simp) (fun w' hC' hG' => bool_loose (ck_contains _ N _ i w' (HT.out.grow hC') (okW_pack N (inL l)) hi3 hi4)) ?_
        rintro _ ⟨_, _, rfl⟩
        refine ⟨?_, ?_, ?_⟩
        rotate_left
        · go_simp
          rfl
        iterate 2 ((with_reducible refine loose_one (v := ?_) (a' := ?_) ?_ ?_ (fun w' hC' hG' => ?_) ?_ ?_); rotate_left 2; (focus rfl); (focus rfl); (focus (obtain ⟨x0, x1, y0, y1⟩ := HX.out w' hC'; clear hC' hG'; go_simp; rfl)); (focus (go_simp; rfl)))
        refine loose_call (f := 19) (args := #[.agg #[.int .i64 (N : Int), .slice A2 L2 c2], .int .i64 i]) (by rfl) (by rfl) (fun _ => by go_simp) (fun w' hC' hG' => bool_loose (rcontains_any _ N _ i w' (HT.out.grow hC') hi3 hi4)) ?_
        rintro _ ⟨_, _, rfl⟩
        refine ⟨?_, ?_, ?_⟩
        rotate_left
        · go_simp
          rfl
        generalize memI N (pack N (inL l)) i = yb at *
        iterate 3 ((with_reducible refine loose_one (v := ?_) (a' := ?_) ?_ ?_ (fun w' hC' hG' => ?_) ?_ ?_); rotate_left 2; (focus rfl); (focus rfl); (focus (obtain ⟨x0, x1, y0, y1⟩ := HX.out w' hC'; clear hC' hG'; go_simp; rfl)); (focus (go_simp; rfl)))
        refine loose_call (f := 20) (args := #[.agg #[.int .i64 (N : Int), .slice A2 L2 c2]]) (by rfl) (by rfl) (fun _ => by go_simp) (fun w' hC' hG' => num_loose (ck_count _ N _ w' (HT.out.grow hC') (okW_pack N (inL l)))) ?_
        rintro _ ⟨_, _, rfl⟩
        refine ⟨?_, ?_, ?_⟩
        rotate_left
        · go_simp
          rfl
        iterate 1 ((with_reducible refine loose_one (v := ?_) (a' := ?_) ?_ ?_ (fun w' hC' hG' => ?_) ?_ ?_); rotate_left 2; (focus rfl); (focus rfl); (focus (obtain ⟨x0, x1, y0, y1⟩ := HX.out w' hC'; clear hC' hG'; go_simp; rfl)); (focus (go_simp; rfl)))
        refine loose_call (f := 21) (args := #[.agg #[.int .i64 (N : Int), .slice A2 L2 c2]]) (by rfl) (by rfl) (fun _ => by go_simp) (fun w' hC' hG' => num_loose (rcount_any _ N _ w' (HT.out.grow hC'))) ?_
        rintro _ ⟨_, _, rfl⟩
        refine ⟨?_, ?_, ?_⟩
        rotate_left
        · go_simp
          rfl
        generalize ((cnt (mem N (pack N (inL l))) N : Nat) : Int) = yc at *
        iterate 5 ((with_reducible refine loose_one (v := ?_) (a' := ?_) ?_ ?_ (fun w' hC' hG' => ?_) ?_ ?_); rotate_left 2; (focus rfl); (focus rfl); (focus (obtain ⟨x0, x1, y0, y1⟩ := HX.out w' hC'; clear hC' hG'; go_simp; rfl)); (focus (go_simp; rfl)))
        refine loose_call (f := 22) (args := #[.agg #[.int .i64 (N : Int), .slice A2 L2 c2], .int .i64 i]) (by rfl) (by rfl) (fun _ => by go_simp) (fun w' hC' hG' => num_loose (ck_rank _ N _ i w' (HT.out.grow hC') (okW_pack N (inL l)) hi3 hi4)) ?_
        rintro _ ⟨_, _, rfl⟩
        refine ⟨?_, ?_, ?_⟩
        rotate_left
        · go_simp
          rfl
        iterate 2 ((with_reducible refine loose_one (v := ?_) (a' := ?_) ?_ ?_ (fun w' hC' hG' => ?_) ?_ ?_); rotate_left 2; (focus rfl); (focus rfl); (focus (obtain ⟨x0, x1, y0, y1⟩ := HX.out w' hC'; clear hC' hG'; go_simp; rfl)); (focus (go_simp; rfl)))
        refine loose_call (f := 23) (args := #[.agg #[.int .i64 (N : Int), .slice A2 L2 c2], .int .i64 i]) (by rfl) (by rfl) (fun _ => by go_simp) (fun w' hC' hG' => num_loose (rrank_any _ N _ i w' (HT.out.grow hC') hi3 hi4)) ?_
        rintro _ ⟨_, _, rfl⟩
        refine ⟨?_, ?_, ?_⟩
        rotate_left
        · go_simp
          rfl
        generalize ((rankI N (mem N (pack N (inL l))) i : Nat) : Int) = yr at *
        iterate 5 ((with_reducible refine loose_one (v := ?_) (a' := ?_) ?_ ?_ (fun w' hC' hG' => ?_) ?_ ?_); rotate_left 2; (focus rfl); (focus rfl); (focus (obtain ⟨x0, x1, y0, y1⟩ := HX.out w' hC'; clear hC' hG'; go_simp; rfl)); (focus (go_simp; rfl)))
        refine loose_call (f := 24) (args := #[.agg #[.int .i64 (N : Int), .slice A2 L2 c2], .int .i64 i]) (by rfl) (by rfl) (fun _ => by go_simp) (fun w' hC' hG' => num_loose (ck_select _ N _ i w' (HT.out.grow hC') (okW_pack N (inL l)) (HTB.out.grow (HGF4.out.of_below hC')) hi3 hi4)) ?_
        rintro _ ⟨_, _, rfl⟩
        refine ⟨?_, ?_, ?_⟩
        rotate_left
        · go_simp
          rfl
        iterate 2 ((with_reducible refine loose_one (v := ?_) (a' := ?_) ?_ ?_ (fun w' hC' hG' => ?_) ?_ ?_); rotate_left 2; (focus rfl); (focus rfl); (focus (obtain ⟨x0, x1, y0, y1⟩ := HX.out w' hC'; clear hC' hG'; go_simp; rfl)); (focus (go_simp; rfl)))
        refine loose_call (f := 25) (args := #[.agg #[.int .i64 (N : Int), .slice A2 L2 c2], .int .i64 i]) (by rfl) (by rfl) (fun _ => by go_simp) (fun w' hC' hG' => num_loose (rselect_any _ N _ i w' (HT.out.grow hC') hi3 hi4)) ?_
        rintro _ ⟨_, _, rfl⟩
        refine ⟨?_, ?_, ?_⟩
        rotate_left
        · go_simp
          rfl
        generalize selI N (mem N (pack N (inL l))) i = ys at *
        iterate 4 ((with_reducible refine loose_one (v := ?_) (a' := ?_) ?_ ?_ (fun w' hC' hG' => ?_) ?_ ?_); rotate_left 2; (focus rfl); (focus rfl); (focus (obtain ⟨x0, x1, y0, y1⟩ := HX.out w' hC'; clear hC' hG'; go_simp; rfl)); (focus (go_simp; rfl)))
        refine loose_call (f := 27) (args := #[.agg #[.int .i64 (N : Int), .slice A2 L2 c2]]) (by rfl) (by rfl) (fun _ => by go_simp) (fun w' hC' hG' => ints_loose (elements_any _ N _ w' (HT.out.grow hC') (okW_pack N (inL l)) hN3 (HTB.out.grow (HGF4.out.of_below hC')))) ?_
        intro v34 _
        refine ⟨?_, ?_, ?_⟩
        rotate_left
        · go_simp
          rfl
        iterate 1 ((with_reducible refine loose_one (v := ?_) (a' := ?_) ?_ ?_ (fun w' hC' hG' => ?_) ?_ ?_); rotate_left 2; (focus rfl); (focus rfl); (focus (obtain ⟨x0, x1, y0, y1⟩ := HX.out w' hC'; clear hC' hG'; go_simp; rfl)); (focus (go_simp; rfl)))
        refine loose_call (f := 28) (args := #[.agg #[.int .i64 (N : Int), .slice A2 L2 c2]]) (by rfl) (by rfl) (fun _ => by go_simp) (fun w' hC' hG' => ints_loose (relements_any _ N _ w' (HT.out.grow hC'))) ?_
        intro v36 _
        refine ⟨?_, ?_, ?_⟩
        rotate_left
        · go_simp
          rfl
        refine loose_call (f := 26) (args := #[v34, v36]) (by rfl) (by rfl) (fun _ => by go_simp) (fun w' hC' hG' => bool_loose (same_true (ints_any v34 v36 _ _ w' ((hG' 34 (by kernel_rfl)).1.2 rfl) ((hG' 36 (by kernel_rfl)).2 rfl) HEL.out HEL.out))) ?_
        rintro _ ⟨_, _, rfl⟩
        refine ⟨?_, ?_, ?_⟩
        rotate_left
        · go_simp
          rfl
        iterate 2 ((with_reducible refine loose_one (v := ?_) (a' := ?_) ?_ ?_ (fun w' hC' hG' => ?_) ?_ ?_); rotate_left 2; (focus rfl); (focus rfl); (focus (obtain ⟨x0, x1, y0, y1⟩ := HX.out w' hC'; clear hC' hG'; go_simp; rfl)); (focus (go_simp; rfl)))
        refine loose_call (f := 10) (args := #[]) (by rfl) (by rfl) (fun _ => by go_simp) (fun w' hC' hG' => bool_loose (lives_any w' (HTB.out.grow (HGF4.out.of_below hC')))) ?_
        rintro _ ⟨_, _, rfl⟩
        refine ⟨?_, ?_, ?_⟩
        rotate_left
        · go_simp
          rfl
        iterate 2 ((with_reducible refine loose_one (v := ?_) (a' := ?_) ?_ ?_ (fun w' hC' hG' => ?_) ?_ ?_); rotate_left 2; (focus rfl); (focus rfl); (focus (obtain ⟨x0, x1, y0, y1⟩ := HX.out w' hC'; clear hC' hG'; go_simp; rfl)); (focus (go_simp; rfl)))
        refine loose_done (fun w6 hC6 hG6 => ?_)
        clear hG6
        have hC2 := HGF4.out.of_below hC6
        go_wp2_with fail
        go_ret
        exact ⟨rfl, hC2⟩
    exact main

end Go.Proofs.YtaegolkoinjmoaaDoor
