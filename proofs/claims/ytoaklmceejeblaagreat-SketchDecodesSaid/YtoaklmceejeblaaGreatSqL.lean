/-
  Shaken: what the claims of this seat need of this text. No condition.
-/
import Derived.Test.YtoaklmceejeblaaGreatM19
import Derived.Sort.Grow
namespace Go.Proofs.YtoaklmceejeblaaGreat
set_option maxRecDepth 8000
open Go.RowKit
set_option linter.unusedVariables false
set_option linter.unusedSimpArgs false
theorem wpList_append_rowsO {P : Program} {base : Nat} {wr : World} {ops : Array Oper} {rest : List Oper} {o : Oper} {a : Act} {Q : Exit → Act → World → Prop} (hgd : o.guard = none) (s x : Operand) (t : TypeId)
    (ho : o.op = .call { callee := .builtin .append, args := #[s, x], argTypes := #[t, t] })
    (e : TypeId) (z : Value) (bytes : Nat) (ht : P.underlying t = some (.slice e)) (hinfo : (P.info? e).map (fun i => (i.zero, i.size, i.bytes)) = some (some z, 1, bytes)) (hz1 : z.cells.size = 1)
    (v : Value) (n : Nat) (pre : List Value) (hs : a.eval s = v) (hown : wr.ownsRow base e 1 v n pre) (hbase : base ≤ wr.heap.size)
    (u : Value) (l : List Value) (hx : a.eval x = u) (hu : Reads wr u l) (hone : ∀ x ∈ l, x.oneCell' = true) (hlen : (n + l.length) * bytes ≤ 140737488355328) (hmax : n + l.length ≤ 140737488355328)
    (h : ∀ v' w', w'.ownsRow base e 1 v' (n + l.length) (pre ++ l) → Only (fun k => v.ownBlock = some k) wr w' → wpList P ops Q rest (a.put o.dst v') w') :
    wpList P ops Q (o :: rest) a wr := by
  obtain ⟨i0, hi, hz0, hs1, hs2⟩ := info_parts hinfo
  obtain ⟨A, c, rfl, hlc, hc⟩ := hu
  cases A with
  | none =>
    have hl : l = [] := by
      cases l with
      | nil => rfl
      | cons x r => obtain ⟨b, off, h, _⟩ := hc (by simp); cases h
    subst hl
    refine wpList_plain hgd fun K hK => ?_
    have hr := run_append_nothing (ty := o.type) ht hi hown c
    unfold Oper.wp execOp
    simp only [List.length_nil] at hx
    simp only [ho, resolve, invoke, builtin, Sem.run_bind, Sem.run_pure, Result.andThen_ok, List.map_toArray, List.map_cons, List.map_nil, hs, hx, hr]
    exact hK _ _ (h v wr (by simpa using hown) (Only.refl _ _))
  | some ad =>
    have hcells : ∀ j x, l[j]? = some x → wr.cell? (ad.add j) = some x := by
      intro j y hy
      have hj : j < l.length := (List.getElem?_eq_some_iff.1 hy).1
      obtain ⟨b, off, h, hcell⟩ := hc (by omega)
      injection h with h
      subst h
      rw [Addr.add_lit]
      exact (hcell j hj).trans hy
    exact wpList_append_own_at _ hgd s x t ho base e i0 z 1 bytes ht hi hz0 hs1 hs2 hz1 (by decide) v n pre hs hown ad l.length c l hx (by omega) hcells hone (by unfold maxLen; omega) hlen hbase (fun v' w' h1 h2 _ _ => h v' w' h1 (Only.by_ h2))
theorem wpList_append_valO {wr : World} {ops : Array Oper} {rest : List Oper} {o : Oper} {a : Act} {Q : Exit → Act → World → Prop} (hgd : o.guard = none) (s x : Operand)
    (ho : o.op = .call { callee := .builtin .append, args := #[s, x], argTypes := #[22, 22] })
    (v : Value) (l : List Val) (hs : a.eval s = v) (base : Nat) (hown : wr.ownsRow base 35 3 v l.length (vcells l)) (hbase : base ≤ wr.heap.size)
    (y : Val) (N : Nat) (hx : a.eval x = .slice (some ⟨N, 0, none⟩) 1 1) (hN : N = wr.heap.size) (hlen : l.length + 1 ≤ 1000000000)
    (h : ∀ v' w', w'.ownsRow base 35 3 v' (l ++ [y]).length (vcells (l ++ [y])) → Only (fun k => v.ownBlock = some k) wr w' → (∀ k, v'.ownBlock = some k → v.ownBlock = some k ∨ wr.heap.size ≤ k) → wpList Tryz.prog ops Q rest (a.put o.dst v') w') :
    wpList Tryz.prog ops Q (o :: rest) a (wr.alloc (.cells #[.int .i64 y.k, .int .i64 y.n, .string y.t] 35)) := by
  subst hN
  obtain ⟨i0, hi, hz0, hs1, hs2⟩ := info_parts info_valT
  have hrow := Row.new wr 35 #[.int .i64 y.k, .int .i64 y.n, .string y.t] [.int .i64 y.k, .int .i64 y.n, .string y.t] rfl
  refine wpList_append_own_at _ hgd s x 22 ho base 35 i0 _ 3 32 Tryz.underlying22 hi hz0 hs1 hs2 rfl (by decide) v l.length (vcells l) hs (hown.alloc _) ⟨wr.heap.size, 0, none⟩ 1 1 [.int .i64 y.k, .int .i64 y.n, .string y.t] hx rfl ?_ ?_ (by unfold maxLen; omega) (by omega) (by simp; omega) ?_
  · intro j z hj
    rw [Addr.add_lit, Nat.zero_add, hrow.cell]
    exact hj
  · intro z hz
    simp at hz
    rcases hz with rfl | rfl | rfl <;> rfl
  · intro v' w' h2 h3 _ h4
    rw [show vcells l ++ [.int .i64 y.k, .int .i64 y.n, .string y.t] = vcells (l ++ [y]) by rw [vcells_append]; rfl, show l.length + 1 = (l ++ [y]).length by simp] at h2
    refine h v' w' h2 ((Only.of_grows (growK _ _) _).trans (Only.by_ h3) (fun i hi => .inl hi)) (fun k hk => ?_)
    rcases h4 with h5 | h5
    · exact .inl (by rw [← h5]; exact hk)
    · rw [h5] at hk
      injection hk with hk
      subst hk
      exact .inr (by simp)
def GrowsD (w w' : World) : Prop := ∃ (q : Nat) (os : Array Obj), w' = Go.Sort.grow (w.drewN q) os
theorem GrowsD.of_alloc2 (w : World) (o1 o2 : Obj) : GrowsD w ((w.alloc o1).alloc o2) := ⟨0, #[o1, o2], by
  rw [Go.Sort.alloc_eq_grow, Go.Sort.alloc_eq_grow, Go.Sort.grow_grow]
  rfl⟩
theorem lcompareD_any (k n k' n' : Int) (t t' : ByteArray) (w : World) : Calls Tryz.prog 42 #[.agg #[.int .i64 k, .int .i64 n, .string t], .agg #[.int .i64 k', .int .i64 n', .string t']] w fun e w' => e = .returned (.int .i64 (lcmpV k n t k' n' t')) ∧ GrowsD w w' := by
  have HI := hidden (fun w => cmpint_any k k' w)
  have HJ := hidden (fun w => cmpi64_any n n' w)
  have HS := hidden (fun w => scmp_any t t' w)
  by_cases hk : k = k'
  · subst hk
    by_cases h1 : k = 1
    · have HE := hidden (show lcmpV k n t k n' t' = sgnV (decide (n < n')) (decide (n' < n)) by unfold lcmpV; rw [if_pos rfl, if_pos h1])
      generalize sgnV (decide (n < n')) (decide (n' < n)) = s at *
      subst h1
      go_enter Tryz.func42, Tryz.ntmps42
      go_wp2_with fail
      refine (HJ.out _).mono ?_
      rintro e w2 ⟨rfl, rfl⟩
      go_wp2_with fail
      go_ret
      exact ⟨by rw [HE.out]; rfl, GrowsD.of_alloc2 _ _ _⟩
    by_cases h2 : k = 2
    · have HE := hidden (show lcmpV k n t k n' t' = sgnV (decide (n < n')) (decide (n' < n)) by unfold lcmpV; rw [if_pos rfl, if_neg h1, if_pos h2])
      generalize sgnV (decide (n < n')) (decide (n' < n)) = s at *
      subst h2
      clear h1
      go_enter Tryz.func42, Tryz.ntmps42
      go_wp2_with fail
      refine (HJ.out _).mono ?_
      rintro e w2 ⟨rfl, rfl⟩
      go_wp2_with fail
      go_ret
      exact ⟨by rw [HE.out]; rfl, GrowsD.of_alloc2 _ _ _⟩
    by_cases h3 : k = 3
    · have HE := hidden (show lcmpV k n t k n' t' = strS t t' by unfold lcmpV; rw [if_pos rfl, if_neg h1, if_neg h2, if_pos h3])
      generalize strS t t' = s at *
      subst h3
      clear h1 h2
      go_enter Tryz.func42, Tryz.ntmps42
      go_wp2_with fail
      refine (HS.out _).mono ?_
      rintro e w2 ⟨rfl, rfl⟩
      go_wp2_with fail
      go_ret
      exact ⟨by rw [HE.out]; rfl, GrowsD.of_alloc2 _ _ _⟩
    · have HE := hidden (show lcmpV k n t k n' t' = 0 by unfold lcmpV; rw [if_pos rfl, if_neg h1, if_neg h2, if_neg h3])
      go_enter Tryz.func42, Tryz.ntmps42
      go_wp2_with fail
      go_ret
      exact ⟨by rw [HE.out]; rfl, GrowsD.of_alloc2 _ _ _⟩
  · have HE := hidden (show lcmpV k n t k' n' t' = sgnV (decide (k < k')) (decide (k' < k)) by unfold lcmpV; rw [if_neg hk])
    generalize sgnV (decide (k < k')) (decide (k' < k)) = s at *
    go_enter Tryz.func42, Tryz.ntmps42
    go_wp2_with fail
    refine (HI.out _).mono ?_
    rintro e w2 ⟨rfl, rfl⟩
    go_wp2_with fail
    go_ret
    exact ⟨by rw [HE.out]; rfl, GrowsD.of_alloc2 _ _ _⟩
end Go.Proofs.YtoaklmceejeblaaGreat
