/-
  The reference of delta: Equal, Differences, PrefixSums; appending int64s to a row of the call's own. Nothing that was there is changed.
-/
import Derived.Test.YtjjeebaelpgjlaaFrT
import Derived.Test.YtjjeebaelpgjlaaDlNum
import Derived.StillTail
import Derived.StillTailTactics
namespace Go.Proofs.Ytjjeebaelpgjlaa
open Go.RowKit
set_option linter.unusedVariables false
set_option linter.unusedSimpArgs false

theorem icells_append (l r : List Int) : icells (l ++ r) = icells l ++ icells r := by simp [icells]
theorem oneCell_icells (l : List Int) : ∀ u ∈ icells l, u.oneCell' = true := by
  intro u hu
  unfold icells at hu
  rw [List.mem_map] at hu
  obtain ⟨x, _, rfl⟩ := hu
  rfl
theorem run_append_il {wr w0 : World} {base : Nat} {ty : TypeId} {v : Value} {pre : List Int} (hown : wr.ownsRow base 2 1 v pre.length (icells pre)) (hb : Below base w0 wr) (hbase : base ≤ wr.heap.size) {u : Value} {l : List Int} (hu : IsI wr u l)
    (hlen : pre.length + l.length ≤ 17592186044416) :
    ∃ v' w', (Builtin.append_ #[22, 22] ty #[v, u]).run Try.prog wr = .ok v' w' ∧ w'.ownsRow base 2 1 v' (pre ++ l).length (icells (pre ++ l)) ∧ Below base w0 w' ∧ KeepsRows 2 wr w' := by
  obtain ⟨i0, hi, hz0, hz1, hz2⟩ := info_parts info_i64
  obtain ⟨A, c, rfl, hle, hc⟩ := hu
  rw [icells_length] at hle hc ⊢
  cases A with
  | none =>
    have hl : l = [] := by
      cases l with
      | nil => rfl
      | cons x r => obtain ⟨b, off, h, _⟩ := hc (by simp); cases h
    subst hl
    exact ⟨v, wr, run_append_nothing Try.underlying22 hi hown c, by simpa using hown, hb, fun _ _ _ _ _ _ _ h => h⟩
  | some ad =>
    have hcells : ∀ j x, (icells l)[j]? = some x → wr.cell? (ad.add j) = some x := by
      intro j x hx
      have hj : j < l.length := by
        rcases Nat.lt_or_ge j l.length with h | h
        · exact h
        · rw [List.getElem?_eq_none (by rw [icells_length]; exact h)] at hx; cases hx
      obtain ⟨b, off, h, hcell⟩ := hc (by omega)
      injection h with h
      subst h
      rw [Addr.add_lit, hcell j hj]
      exact hx
    obtain ⟨v', w', h1, h2, h3, _⟩ := run_append_own (P := Try.prog) wr base 22 ty 2 i0 (.int .i64 0) 1 8 Try.underlying22 hi hz0 hz1 hz2 rfl (by decide) v pre.length (icells pre) hown ad l.length c (icells l)
      (by rw [icells_length]; omega) hcells (oneCell_icells l) (by unfold maxLen; omega) (by omega) hbase
    refine ⟨v', w', h1, ?_, hb.grown h3 hbase (fun k hk => (hown.lt k hk).1), fun b e' s x n xs he hx => hx.kept h3 (ownsRow_ne hx hown he)⟩
    rw [icells_append, List.length_append]; exact h2
theorem wpList_append_il {wr : World} {ops : Array Oper} {rest : List Oper} {o : Oper} {a : Act} {Q : Exit → Act → World → Prop} (hgd : o.guard = none) (s x : Operand)
    (ho : o.op = .call { callee := .builtin .append, args := #[s, x], argTypes := #[22, 22] })
    (v : Value) (pre : List Int) (hs : a.eval s = v) (base : Nat) (hown : wr.ownsRow base 2 1 v pre.length (icells pre)) (w0 : World) (hb : Below base w0 wr) (hbase : base ≤ wr.heap.size)
    (u : Value) (l : List Int) (hx : a.eval x = u) (hu : IsI wr u l) (hlen : pre.length + l.length ≤ 17592186044416)
    (h : ∀ v' w', w'.ownsRow base 2 1 v' (pre ++ l).length (icells (pre ++ l)) → Below base w0 w' → KeepsRows 2 wr w' → wpList Try.prog ops Q rest (a.put o.dst v') w') :
    wpList Try.prog ops Q (o :: rest) a wr := by
  refine wpList_plain hgd fun K hK => ?_
  obtain ⟨v', w', hrun, h2, h3, h4⟩ := run_append_il (ty := o.type) hown hb hbase hu hlen
  unfold Oper.wp execOp
  simp only [ho, resolve, invoke, builtin, Sem.run_bind, Sem.run_pure, Result.andThen_ok, List.map_toArray, List.map_cons, List.map_nil, hs, hx, hrun]
  exact hK _ _ (h v' w' h2 h3 h4)
/-- a slice that reads as the integers of l -/
def IntsV (l : List Int) : Value → World → Prop := fun v w => IsI w v l
theorem IntsV.lasts {l : List Int} : ∀ v w w', IntsV l v w → Grows w w' → IntsV l v w' := fun _ _ _ h hg => IsI.grow h hg
theorem isI_one (w : World) (z : Int) : IsI (w.alloc (.cells #[.int .i64 z] 2)) (.slice (some ⟨w.heap.size, 0, none⟩) 1 1) [z] := Reads.of_row (Row.at_ w 2 _ (icells [z]) rfl _ rfl) 1 1 rfl (Nat.le_refl _)
theorem own_nil_i (w : World) (base : Nat) : w.ownsRow base 2 1 (.slice none 0 0) ([] : List Int).length (icells []) := ⟨rfl, .inl ⟨rfl, rfl⟩⟩

set_option maxHeartbeats 1000000 in
theorem requal_any (va vb : Value) (la lb : List Int) (w : World) (ha : IsI w va la) (hb : IsI w vb lb) (hl : la.length ≤ 9223372036854775806) (hl2 : lb.length ≤ 9223372036854775806) :
    Calls Try.prog 9 #[va, vb] w fun e w' => e = .returned (.bool (sameI la lb)) ∧ Below w.heap.size w w' := by
  obtain ⟨A, c, rfl⟩ := ha.slice_
  obtain ⟨B, d, rfl⟩ := hb.slice_
  have HRA := hidden ha
  have HRB := hidden hb
  clear ha hb
  by_cases hlen : la.length = lb.length
  · have hd1 : ((la.length : Int) != (lb.length : Int)) = false := by simp; omega
    have HLN := hidden hlen
    clear hlen
    go_enter Try.func9, Try.ntmps9
    go_wp2_with fail
    go_loopw [5] (fun k wr => SameIRel w la lb k wr) (fun k _ => la.length - (intOf k).toNat)
    case atStart => exact ⟨0, by omega, rfl, by simp, Below.refl _ _⟩
    case round =>
      obtain ⟨j, hj, rfl, hsame, hb⟩ := hrel
      have HB := hidden hb
      have HSM := hidden hsame
      have hlen := HLN.out
      clear hb hsame
      by_cases hlt : j < la.length
      · have hlt2 : j < lb.length := by omega
        obtain ⟨b1, o1, rfl, hy1⟩ := (HRA.out.grow HB.out).at_ hlt
        obtain ⟨b2, o2, rfl, hy2⟩ := (HRB.out.grow HB.out).at_ hlt2
        have HTA := hidden (List.take_succ_eq_append_getElem hlt)
        have HTB := hidden (List.take_succ_eq_append_getElem hlt2)
        clear hlen
        by_cases heq : la[j] = lb[j]
        · have hE : (la[j] != lb[j]) = false := by rw [heq]; simp
          have HEQ := hidden heq
          clear heq
          go_wp2_with fail
          go_quiet (fail)
          go_wp2
          go_roundw
          case rel =>
            refine ⟨j + 1, by omega, by go_num, ?_, fr_draws HB.out _⟩
            rw [HTA.out, HTB.out, HSM.out, HEQ.out]
          case measure => simp [intOf]; omega
        · have hE : (la[j] != lb[j]) = true := by simpa using heq
          have HF := hidden (show sameI la lb = false by
            unfold sameI
            rw [decide_eq_false_iff_not]
            intro h
            subst h
            exact heq rfl)
          clear heq
          go_wp2_with fail
          go_quiet (fail)
          go_wp2
          go_ret
          exact ⟨retB (by rw [HF.out]), fr_draws HB.out _⟩
      · have hje : j = la.length := by omega
        have hsame := HSM.out
        rw [hje, List.take_length, hlen, List.take_length] at hsame
        have HT2 := hidden (show sameI la lb = true by unfold sameI; simpa using hsame)
        have hnj : la.length ≤ j := by omega
        clear hsame hje hlen
        go_wp2
        go_ret
        exact ⟨retB (by rw [HT2.out]), HB.out⟩
  · have hd1 : ((la.length : Int) != (lb.length : Int)) = true := by simp; omega
    have HF := hidden (show sameI la lb = false by
      unfold sameI
      rw [decide_eq_false_iff_not]
      intro h
      exact hlen (by rw [h]))
    clear hlen
    go_enter Try.func9, Try.ntmps9
    go_wp2_with fail
    go_ret
    exact ⟨retB (by rw [HF.out]), Below.refl _ _⟩

/-- a row of the call's own with the integers r, nothing that was there changed -/
def InR (r : List Int) (w : World) (e : Ending) (w' : World) : Prop := ∃ v, e = .returned v ∧ Grows w w' ∧ w'.ownsRow w.heap.size 2 1 v r.length (icells r)
def RDfRel (w : World) (D : List Int) (o i : Value) (wr : World) : Prop :=
  ∃ k : Nat, k ≤ D.length ∧ i = .int .i64 ((k : Int) + 1) ∧ wr.ownsRow w.heap.size 2 1 o (D.take k).length (icells (D.take k)) ∧ Below w.heap.size w wr
set_option maxRecDepth 20000 in
set_option maxHeartbeats 4000000 in
theorem rdiff_any (v : Value) (l : List Int) (w : World) (hv : IsI w v l) (hl : l.length ≤ 1000000) :
    Calls Try.prog 11 #[v] w (InR (dfL l) w) := by
  have HV := hidden hv
  obtain ⟨A, c, rfl⟩ := hv.slice_
  have HDL := hidden (dfL_length l)
  have HDG : Hid (∀ k, (h : k + 1 < l.length) → (h2 : k < (dfL l).length) → (dfL l)[k] = IntKind.i64.wrap (l[k + 1] - l[k])) := fun k h h2 => dfL_get h h2
  clear hv
  generalize dfL l = D at *
  go_enter Try.func11, Try.ntmps11
  go_wp2_with fail
  go_loopw [3, 4] (fun o i wr => RDfRel w D o i wr) (fun _ i _ => l.length - (intOf i).toNat)
  case atStart => exact ⟨0, by omega, rfl, own_nil_i _ _, Below.refl _ _⟩
  case round =>
    obtain ⟨k, hk, rfl, hown, hbw⟩ := hrel
    have HB := hidden hbw
    have HO := hidden hown
    have hsz := hbw.size
    clear hown hbw
    by_cases hlt : k + 1 < l.length
    · obtain ⟨b, f, rfl, hck⟩ := (HV.out.grow HB.out).at_ hlt
      obtain ⟨b', f', he, hck0⟩ := (HV.out.grow HB.out).at_ (show k < l.length by omega)
      injection he with he
      injection he with e1 e2 e3
      subst e1 e2
      have hkd : k < D.length := by have := HDL.out; omega
      have hdg := HDG.out k hlt hkd
      have HTD := hidden (List.take_succ_eq_append_getElem hkd)
      rw [hdg] at HTD
      have HX : Hid (∀ w', Grows wr w' → w'.cell? ⟨b, f + (k + 1), none⟩ = some (.int .i64 l[k + 1]) ∧ w'.cell? ⟨b, f + k, none⟩ = some (.int .i64 l[k])) := fun w' h =>
        ⟨(h.cell (World.block_lt_of_cell? _ _ hck)).trans hck, (h.cell (World.block_lt_of_cell? _ _ hck0)).trans hck0⟩
      generalize hy1 : l[k + 1] = y1 at *
      generalize hy0 : l[k] = y0 at *
      obtain ⟨z, hz⟩ : ∃ z, IntKind.i64.wrap (y1 - y0) = z := ⟨_, rfl⟩
      rw [hz] at HTD
      have hwk : IntKind.i64.wrap (k : Int) = (k : Int) := by rw [IntKind.wrap_i64]; omega
      have hwk1 : IntKind.i64.wrap ((k : Int) + 1) = (k : Int) + 1 := by rw [IntKind.wrap_i64]; omega
      have hkl : k < l.length := by omega
      clear hdg hck hck0 hy1 hy0
      go_wp2_with fail
      refine wp_region_loose_tail 12 (tabRs [(11, IntsV [z])]) (by kernel_rfl) (by kernel_rfl) (tabRs_cons IntsV.lasts tabRs_nil) ?_
      simp only [List.take_succ_cons, List.take_zero, List.drop_succ_cons, List.drop_zero]
      iterate 11 ((with_reducible refine loose_one (v := ?_) (a' := ?_) ?_ ?_ (fun w' hC' hG' => ?_) ?_ ?_); rotate_left 2; (focus rfl); (focus rfl); (focus (obtain ⟨x0, x1⟩ := HX.out w' hC'; clear hC' hG'; go_simp; rfl)); (focus (go_simp; rfl)))
      refine loose_new (R := IntsV [z]) (by rfl) (by rfl) (fun w' hC' hG' => ?_) ?_
      · exact ⟨.slice (some ⟨w'.heap.size, 0, none⟩) 1 1, w'.alloc (.cells #[.int .i64 z] 2), by first | rfl | go_simp, (Below.refl _ _).alloc (Nat.le_refl _) _, isI_one w' z⟩
      intro v11 hv11
      refine ⟨?_, ?_, ?_⟩
      rotate_left
      · go_simp
        rfl
      refine loose_done (fun w7 hC' hG' => ?_)
      have HU7 := hidden (show IsI w7 v11 [z] from (hG' 11).2 rfl)
      have HB7 := hidden (HB.out.trans (hC'.mono HB.out.size))
      have HO7 := hidden (own_grow HO.out hC')
      clear hC' hG' hv11
      go_wp2_with (at_builtin; go_loud (refine wpList_append_il rfl _ _ rfl _ (D.take k) (by rfl) w.heap.size HO7.out w HB7.out HB7.out.size _ [z] (by rfl) HU7.out (by have := HDL.out; rw [List.length_take, List.length_singleton]; omega) ?_); intro v3 w3 hown3 hb3 hk3; have HO3 := hidden hown3; have HB3 := hidden hb3; clear hown3 hb3 hk3)
      refine ⟨⟨k + 1, by omega, by go_num, ?_, HB3.out⟩, by simp [intOf]; omega⟩
      rw [HTD.out]
      exact HO3.out
    · have hke : k = D.length := by have := HDL.out; omega
      rw [hke, List.take_length] at HO
      clear hke
      go_wp2_with fail
      go_ret
      exact ⟨_, rfl, HB.out, HO.out⟩
theorem own_ni9 {w : World} {B : Nat} {v : Value} {n : Nat} {xs : List Value} (h : w.ownsRow B 2 1 v n xs) : ∃ A c, v = .slice A n c := by
  rcases h.2 with ⟨h1, h2⟩ | ⟨g, cap, cur, h1, _⟩
  · exact ⟨none, 0, by rw [h1, h2]⟩
  · exact ⟨_, cap, h1⟩
def RPsRel (w : World) (f : Int) (ds : List Int) (o i : Value) (wr : World) : Prop :=
  ∃ k : Nat, k ≤ ds.length ∧ i = .int .i64 (k : Int) ∧ wr.ownsRow w.heap.size 2 1 o (psL f (ds.take k)).length (icells (psL f (ds.take k))) ∧ Below w.heap.size w wr
theorem own_one_i (w : World) (z : Int) : (w.alloc (.cells #[.int .i64 z] 2)).ownsRow w.heap.size 2 1 (.slice (some ⟨w.heap.size, 0, none⟩) 1 1) ([z] : List Int).length (icells [z]) := by
  have h := Row.own (Row.new w 2 #[.int .i64 z] (icells [z]) rfl) (Nat.le_refl _) (by unfold maxLen; rw [icells_length, List.length_singleton]; omega)
  exact h
set_option maxRecDepth 20000 in
set_option maxHeartbeats 4000000 in
theorem rps_any (x : Int) (v : Value) (l : List Int) (w : World) (hv : IsI w v l) (hl : l.length ≤ 1000000) :
    Calls Try.prog 13 #[.int .i64 x, v] w (InR (psL x l) w) := by
  have HV := hidden hv
  obtain ⟨A, c, rfl⟩ := hv.slice_
  have HO0 := hidden (own_one_i w x)
  have HB0 := hidden ((Below.refl w.heap.size w).alloc (Nat.le_refl _) (.cells #[.int .i64 x] 2))
  clear hv
  go_enter Try.func13, Try.ntmps13
  go_wp2_with fail
  go_loopw [5, 6] (fun o i wr => RPsRel w x l o i wr) (fun _ i _ => l.length - (intOf i).toNat)
  case atStart => exact ⟨0, by omega, rfl, HO0.out, HB0.out⟩
  case round =>
    obtain ⟨k, hk, rfl, hown, hbw⟩ := hrel
    have HB := hidden hbw
    have HO := hidden hown
    clear hown hbw HO0 HB0
    have HSL := hidden (show (psL x (l.take k)).length = k + 1 by rw [psL_length, List.length_take]; omega)
    obtain ⟨A5, c5, rfl⟩ := own_ni9 HO.out
    by_cases hlt : k < l.length
    · have HI5 := hidden (show IsI wr _ _ from Reads.of_own HO.out)
      obtain ⟨b, f, rfl, hck⟩ := (HV.out.grow HB.out).at_ hlt
      obtain ⟨b5, f5, rfl, hck5⟩ := HI5.out.at_ (show k < (psL x (l.take k)).length by rw [HSL.out]; omega)
      have hps := psL_at hk x
      rw [List.getElem?_eq_getElem (by rw [HSL.out]; omega)] at hps
      injection hps with hps
      rw [hps] at hck5
      have HTD := hidden (psL_take hlt x)
      have HX : Hid (∀ w', Grows wr w' → w'.cell? ⟨b, f + k, none⟩ = some (.int .i64 l[k]) ∧ w'.cell? ⟨b5, f5 + k, none⟩ = some (.int .i64 (lastS x (l.take k)))) := fun w' h =>
        ⟨(h.cell (World.block_lt_of_cell? _ _ hck)).trans hck, (h.cell (World.block_lt_of_cell? _ _ hck5)).trans hck5⟩
      have hsl := HSL.out
      generalize hy : l[k] = y at *
      generalize lastS x (l.take k) = s at *
      generalize psL x (l.take k) = ps at *
      obtain ⟨z, hz⟩ : ∃ z, IntKind.i64.wrap (s + y) = z := ⟨_, rfl⟩
      rw [hz] at HTD
      obtain ⟨m, hm⟩ : ∃ m, m = ps.length := ⟨_, rfl⟩
      have HM := hidden hm
      have hkm : k < m := by omega
      have hml : m ≤ 1000001 := by omega
      rw [← hm] at HO ⊢
      clear hck hck5 hps hy hsl HSL hm HI5
      go_wp2_with fail
      refine wp_region_loose_tail 11 (tabRs [(10, IntsV [z])]) (by kernel_rfl) (by kernel_rfl) (tabRs_cons IntsV.lasts tabRs_nil) ?_
      simp only [List.take_succ_cons, List.take_zero, List.drop_succ_cons, List.drop_zero]
      iterate 10 ((with_reducible refine loose_one (v := ?_) (a' := ?_) ?_ ?_ (fun w' hC' hG' => ?_) ?_ ?_); rotate_left 2; (focus rfl); (focus rfl); (focus (obtain ⟨x0, x1⟩ := HX.out w' hC'; clear hC' hG'; go_simp; rfl)); (focus (go_simp; rfl)))
      refine loose_new (R := IntsV [z]) (by rfl) (by rfl) (fun w' hC' hG' => ?_) ?_
      · exact ⟨.slice (some ⟨w'.heap.size, 0, none⟩) 1 1, w'.alloc (.cells #[.int .i64 z] 2), by first | rfl | go_simp, (Below.refl _ _).alloc (Nat.le_refl _) _, isI_one w' z⟩
      intro v11 hv11
      refine ⟨?_, ?_, ?_⟩
      rotate_left
      · go_simp
        rfl
      refine loose_done (fun w7 hC' hG' => ?_)
      have HU7 := hidden (show IsI w7 v11 [z] from (hG' 10).2 rfl)
      have HB7 := hidden (HB.out.trans (hC'.mono HB.out.size))
      have HO7 := hidden (own_grow HO.out hC')
      rw [HM.out] at HO7
      clear hC' hG' hv11
      go_wp2_with (at_builtin; go_loud (refine wpList_append_il rfl _ _ rfl _ ps (by rfl) w.heap.size (by first | exact HO7.out | (rw [HM.out]; exact HO7.out)) w HB7.out HB7.out.size _ [z] (by rfl) HU7.out (by have := HM.out; rw [List.length_singleton]; omega) ?_); intro v3 w3 hown3 hb3 hk3; have HO3 := hidden hown3; have HB3 := hidden hb3; clear hown3 hb3 hk3)
      refine ⟨⟨k + 1, by omega, by go_num, ?_, HB3.out⟩, by simp [intOf]; omega⟩
      rw [HTD.out]
      exact HO3.out
    · have hke : k = l.length := by omega
      rw [hke, List.take_length] at HO HSL ⊢
      clear hke
      go_wp2_with fail
      go_ret
      exact ⟨_, rfl, HB.out, HO.out⟩
end Go.Proofs.Ytjjeebaelpgjlaa
