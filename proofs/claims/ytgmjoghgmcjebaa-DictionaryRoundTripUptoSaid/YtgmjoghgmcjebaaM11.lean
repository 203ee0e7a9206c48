/-
  Texts that the claims of this seat share, put together (Rl4, Rl5). No condition.
-/
import Derived.Test.YtgmjoghgmcjebaaM9
import Derived.Maps.AppendAt
/-
  The reference's Expand. Nothing that was there is changed.
-/
namespace Go.Proofs.Ytgmjoghgmcjebaa
open Go.RowKit
set_option linter.unusedVariables false
set_option linter.unusedSimpArgs false

theorem info_i64 : (Try.prog.info? 2).map (fun i => (i.zero, i.size, i.bytes)) = some (some (.int .i64 0), 1, 8) := by kernel_rfl
theorem wpList_append_i {wr : World} {ops : Array Oper} {rest : List Oper} {o : Oper} {a : Act} {Q : Exit → Act → World → Prop} (hgd : o.guard = none) (s x : Operand)
    (ho : o.op = .call { callee := .builtin .append, args := #[s, x], argTypes := #[64, 64] })
    (v : Value) (pre : List Int) (hs : a.eval s = v) (base : Nat) (hown : wr.ownsRow base 2 1 v pre.length (icells pre)) (w0 : World) (hb : Below base w0 wr) (hbase : base ≤ wr.heap.size)
    (z : Int) (hx : a.eval x = .slice (some ⟨wr.heap.size, 0, none⟩) 1 1) (hlen : pre.length + 1 ≤ 17592186044416)
    (h : ∀ v' w', w'.ownsRow base 2 1 v' (pre ++ [z]).length (icells (pre ++ [z])) → Below base w0 w' → wpList Try.prog ops Q rest (a.put o.dst v') w') :
    wpList Try.prog ops Q (o :: rest) a (wr.alloc (.cells #[.int .i64 z] 2)) := by
  obtain ⟨i0, hi, hz0, hz1, hz2⟩ := info_parts info_i64
  refine wpList_append_own _ hgd s x 64 ho base 2 i0 (.int .i64 0) 1 8 Try.underlying64 hi hz0 hz1 hz2 rfl (by decide) v pre.length (icells pre) hs (hown.alloc _) ⟨wr.heap.size, 0, none⟩ 1 1 [.int .i64 z] hx rfl ?_ ?_ ?_ ?_ ?_ ?_
  · intro j u hj
    match j, hj with
    | 0, hj => simp at hj; subst hj; simp [Addr.add]
  · intro u hu; simp at hu; subst hu; rfl
  · unfold maxLen; omega
  · omega
  · simp; omega
  · intro v' w' h1 h2 _
    rw [← icells_snoc, show pre.length + 1 = (pre ++ [z]).length by simp] at h1
    exact h v' w' h1 ((hb.alloc hbase _).grown h2 (by simp; omega) (fun k hk => (hown.lt k hk).1))
def expI (l : List Rn) : List Int := if validR l then expR l else []
def expE (l : List Rn) : Int := if validR l then 0 else 4
def ExR (l : List Int) (x : Int) (w : World) (e : Ending) (w' : World) : Prop := ∃ v, e = .returned (.tuple #[v, .int .i64 x]) ∧ Grows w w' ∧ IsI w' v l
theorem rep_snoc (n : Nat) (x : Int) (l : List Int) : l ++ List.replicate (n + 1) x = (l ++ List.replicate n x) ++ [x] := by rw [List.replicate_succ', List.append_assoc]
theorem valid_pre {l : List Rn} (h : validR l = true) {j : Nat} (hj : j ≤ l.length) : (expR (l.take j)).length ≤ 65536 := by
  have h1 := expR_length (l := l.take j) fun x hx => valid_nonneg h x (List.mem_of_mem_take hx)
  have h2 := valid_sum h j hj
  omega
def RExRel (w : World) (l : List Rn) (out i : Value) (wr : World) : Prop :=
  ∃ j : Nat, j ≤ l.length ∧ i = .int .i64 (j : Int) ∧ wr.ownsRow w.heap.size 2 1 out (expR (l.take j)).length (icells (expR (l.take j))) ∧ Below w.heap.size w wr
def RExIn (w : World) (pre : List Int) (x : Int) (n : Nat) (out k : Value) (wr : World) : Prop :=
  ∃ j : Nat, j ≤ n ∧ k = .int .i64 (j : Int) ∧ wr.ownsRow w.heap.size 2 1 out (pre ++ List.replicate j x).length (icells (pre ++ List.replicate j x)) ∧ Below w.heap.size w wr
set_option maxHeartbeats 2000000 in
theorem rlexpand_any (v : Value) (l : List Rn) (w : World) (hv : ReadsR w v l) (hl : l.length ≤ 9223372036854775806) :
    Calls Try.prog 71 #[v] w (ExR (expI l) (expE l) w) := by
  have HV := hidden hv
  have HVA := hidden (rlvalid_any v l w hv hl)
  obtain ⟨A, c, rfl⟩ := hv.slice_
  clear hv
  cases hval : validR l
  · have HE := hidden (show expI l = [] by unfold expI; rw [hval]; rfl)
    have HE2 := hidden (show expE l = 4 by unfold expE; rw [hval]; rfl)
    rw [hval] at HVA
    clear hval
    go_enter Try.func71, Try.ntmps71
    go_wp2_with ((go_at_call 91; refine HVA.out.mono ?_; rintro e w2 ⟨rfl, g2⟩))
    go_ret2
    exact ⟨_, by rw [HE2.out]; rfl, by assumption, by rw [HE.out]; exact Reads.nil_ _ 0⟩
  · have HE := hidden (show expI l = expR l by unfold expI; rw [hval]; rfl)
    have HE2 := hidden (show expE l = 0 by unfold expE; rw [hval]; rfl)
    have HVL := hidden hval
    rw [hval] at HVA
    clear hval
    go_enter Try.func71, Try.ntmps71
    go_wp2_with ((go_at_call 91; refine HVA.out.mono ?_; rintro e w2 ⟨rfl, g2⟩; have HG2 := hidden g2; clear g2))
    go_loopw [4, 5] (fun out i wr => RExRel w l out i wr) (fun _ i _ => l.length - (intOf i).toNat)
    case atStart => exact ⟨0, by omega, rfl, ⟨rfl, .inl ⟨rfl, rfl⟩⟩, HG2.out⟩
    case round =>
      obtain ⟨j, hj, rfl, hown, hb⟩ := hrel
      have HB := hidden hb
      have HOW := hidden hown
      clear hown hb
      by_cases hlt : j < l.length
      · have HTK := hidden (expR_take hlt)
        have hcn := valid_count HVL.out hlt
        have hpre := valid_pre HVL.out (j := j + 1) (by omega)
        rw [HTK.out, List.length_append, List.length_replicate] at hpre
        have HC := hidden (fun (W : World) (h : Grows w W) => (HV.out.grow h).at_)
        have HAT := hidden (show ∃ b off, A = some ⟨b, off, none⟩ ∧ ∀ W, Grows w W → W.cell? ⟨b, off + j * 2, none⟩ = some (.int .i64 l[j].1) ∧ W.cell? ⟨b, off + j * 2 + 1, none⟩ = some (.int .i64 l[j].2) by
          obtain ⟨b, off, hA, _⟩ := HV.out.at_
          have hA' := hA (by omega)
          refine ⟨b, off, hA', fun W h => ?_⟩
          obtain ⟨b2, off2, hA2, hc2⟩ := (HV.out.grow h).at_
          have h3 := hA2 (by omega)
          rw [hA'] at h3
          injection h3 with h3
          injection h3 with h4 h5
          subst h4 h5
          exact hc2 j hlt)
        obtain ⟨b, off, rfl, hcells⟩ := HAT.out
        obtain ⟨x, hx⟩ : ∃ x, x = l[j].1 := ⟨_, rfl⟩
        obtain ⟨n, hn⟩ : ∃ n : Nat, (n : Int) = l[j].2 := ⟨l[j].2.toNat, by omega⟩
        rw [← hn] at hcells hcn HTK
        rw [← hn] at hpre
        rw [← hx] at hcells HTK
        rw [Int.toNat_natCast] at hpre HTK
        have HCL := hidden hcells
        clear hcells hx hn HAT HC
        go_wp2_with fail
        go_loopw [4, 6] (fun out k wr => RExIn w (expR (l.take j)) x n out k wr) (fun _ k _ => n - (intOf k).toNat)
        case atStart => exact ⟨0, by omega, rfl, by simpa using HOW.out, HB.out⟩
        case round =>
          obtain ⟨k, hk, rfl, hown2, hb2⟩ := hrel
          have HB2 := hidden hb2
          have HOW2 := hidden hown2
          obtain ⟨c1, c2⟩ := HCL.out wr hb2
          clear hown2 hb2
          by_cases hkn : k < n
          · have HRS := hidden (rep_snoc k x (expR (l.take j)))
            have hlen : (expR (l.take j) ++ List.replicate k x).length + 1 ≤ 17592186044416 := by rw [List.length_append, List.length_replicate]; omega
            have HLN := hidden hlen
            have hsz := HB2.out.size
            clear hlen
            go_wp2_with ((at_builtin; go_loud (refine wpList_append_i rfl _ _ rfl _ (expR (l.take j) ++ List.replicate k x) (by rfl) w.heap.size HOW2.out _ HB2.out hsz _ (by rfl) HLN.out ?_); intro v' w3 hown3 hb3))
            have HO3 := hidden hown3
            have HB3 := hidden hb3
            clear hown3 hb3
            first
              | (refine ⟨⟨k + 1, by omega, by go_num, ?_, HB3.out⟩, by simp [intOf]; omega⟩; rw [HRS.out]; exact HO3.out)
              | (go_wp2; go_roundw; (case rel => refine ⟨k + 1, by omega, by go_num, ?_, HB3.out⟩; rw [HRS.out]; exact HO3.out); (case measure => simp [intOf]; omega))
          · have hke : k = n := by omega
            subst hke
            go_wp2_with fail
            refine ⟨⟨j + 1, by omega, by go_num, ?_, HB2.out⟩, by simp [intOf]; omega⟩
            rw [HTK.out]
            exact HOW2.out
      · have hke : j = l.length := by omega
        subst hke
        have HT := hidden (List.take_length (l := l))
        go_wp2_with fail
        go_ret2
        refine ⟨_, by rw [HE2.out]; rfl, HB.out, ?_⟩
        rw [HE.out]
        have h := HOW.out
        rw [HT.out] at h
        exact Reads.of_own h
end Go.Proofs.Ytgmjoghgmcjebaa
/-
  The reference's Runs. Nothing that was there is changed.
-/
namespace Go.Proofs.Ytgmjoghgmcjebaa
open Go.RowKit
set_option linter.unusedVariables false
set_option linter.unusedSimpArgs false

def rcells : List Rn → List Value
  | [] => []
  | x :: l => .int .i64 x.1 :: .int .i64 x.2 :: rcells l
theorem rcells_length : ∀ l : List Rn, (rcells l).length = l.length * 2
  | [] => rfl
  | x :: l => by rw [rcells, List.length_cons, List.length_cons, rcells_length l, List.length_cons]; omega
theorem rcells_append : ∀ l r : List Rn, rcells (l ++ r) = rcells l ++ rcells r
  | [], r => rfl
  | x :: l, r => by rw [List.cons_append, rcells, rcells, rcells_append l r]; rfl
theorem rcells_get : ∀ {l : List Rn} {j : Nat} {x : Rn}, l[j]? = some x → (rcells l)[j * 2]? = some (.int .i64 x.1) ∧ (rcells l)[j * 2 + 1]? = some (.int .i64 x.2)
  | [], j, x, h => by cases h
  | y :: l, 0, x, h => by
    simp only [List.getElem?_cons_zero, Option.some.injEq] at h
    subst h
    exact ⟨rfl, rfl⟩
  | y :: l, j + 1, x, h => by
    simp only [List.getElem?_cons_succ] at h
    have ih := rcells_get h
    rw [show (j + 1) * 2 = j * 2 + 1 + 1 by omega, rcells, List.getElem?_cons_succ, List.getElem?_cons_succ, List.getElem?_cons_succ, List.getElem?_cons_succ]
    exact ih
theorem set_append_mid (p q : List Value) (k : Nat) (u : Value) (h : k < q.length) : (p ++ q).set (p.length + k) u = p ++ q.set k u := by
  rw [List.set_append_right _ _ (by omega)]
  congr 2
  omega
theorem rcells_bump (o : List Rn) (x : Rn) (c : Int) : (rcells (o ++ [x])).set (o.length * 2 + 1) (.int .i64 c) = rcells (o ++ [(x.1, c)]) := by
  rw [rcells_append, rcells_append, ← rcells_length o, set_append_mid _ _ 1 _ (by simp [rcells])]
  rfl
/-- a row of runs of the call's own reads as the runs -/
theorem ReadsR.of_own {w : World} {base : Nat} {v : Value} {l : List Rn} (h : w.ownsRow base 87 2 v l.length (rcells l)) : ReadsR w v l := by
  rcases h.2 with ⟨rfl, h0⟩ | ⟨g, cap, cur, rfl, _, hg, hn, _, _, htake⟩
  · have : l = [] := List.eq_nil_of_length_eq_zero h0
    subst this
    exact ReadsR.nil_ w 0
  · refine ⟨_, cap, rfl, hn, fun _ => ⟨g, 0, rfl, fun j x hj => ?_⟩⟩
    obtain ⟨h1, h2⟩ := rcells_get hj
    have c1 := h.cells (g := g) rfl _ _ h1
    have c2 := h.cells (g := g) rfl _ _ h2
    rw [Addr.add_lit] at c1 c2
    rw [Nat.zero_add] at *
    exact ⟨c1, c2⟩
theorem own_shape {w : World} {base : Nat} {e : TypeId} {size : Nat} {v : Value} {n : Nat} {xs : List Value} (h : w.ownsRow base e size v n xs) (hn : 0 < n) :
    ∃ g cap, v = .slice (some ⟨g, 0, none⟩) n cap ∧ base ≤ g ∧ g < w.heap.size ∧ ∀ k, k < n * size → w.frozen? ⟨g, k, none⟩ = false := by
  rcases h.2 with ⟨_, h0⟩ | ⟨g, cap, cur, rfl, hb, hg, _⟩
  · omega
  · refine ⟨g, cap, rfl, hb, (Array.getElem?_eq_some_iff.1 hg).1, fun k _ => ?_⟩
    simp [World.frozen?, hg]
theorem own_set {w : World} {base : Nat} {e : TypeId} {size : Nat} {g n cap : Nat} {xs : List Value} (h : w.ownsRow base e size (.slice (some ⟨g, 0, none⟩) n cap) n xs) (k : Nat) (hk : k < n * size) (u : Value) :
    (w.setCell ⟨g, k, none⟩ u).ownsRow base e size (.slice (some ⟨g, 0, none⟩) n cap) n (xs.set k u) := by
  refine ⟨by rw [List.length_set]; exact h.1, .inr ?_⟩
  rcases h.2 with ⟨h1, _⟩ | ⟨g2, cap2, cur, he, hb, hg, hnc, hm, hsz, htake⟩
  · cases h1
  · injection he with e1 e2 e3
    injection e1 with e1
    injection e1 with e1 e4
    subst e1 e3
    refine ⟨g, cap, cur.setIfInBounds k u, rfl, hb, ?_, hnc, hm, by simpa using hsz, ?_⟩
    · simp [World.setCell, Array.getElem?_modify, hg]
    · rw [Array.toList_setIfInBounds, ← htake]
      apply List.ext_getElem?
      intro j
      rw [List.getElem?_take, List.getElem?_set, List.getElem?_set, List.getElem?_take, List.length_take, Array.length_toList]
      by_cases hj : j < n * size
      · rw [if_pos hj]
        by_cases e : k = j
        · subst e
          rw [if_pos rfl, if_pos rfl]
          have h1 : n * size ≤ cap * size := Nat.mul_le_mul_right _ hnc
          rw [if_pos (by omega), if_pos (by omega)]
        · rw [if_neg e, if_neg e, if_pos hj]
      · rw [if_neg hj]
        by_cases e : k = j
        · omega
        · rw [if_neg e, if_neg hj]
theorem info_run : (Try.prog.info? 87).map (fun i => (i.zero, i.size, i.bytes)) = some (some (.agg #[.int .i64 0, .int .i64 0]), 2, 16) := by kernel_rfl
theorem wpList_append_r {wr : World} {ops : Array Oper} {rest : List Oper} {o : Oper} {a : Act} {Q : Exit → Act → World → Prop} (hgd : o.guard = none) (s x : Operand)
    (ho : o.op = .call { callee := .builtin .append, args := #[s, x], argTypes := #[68, 68] })
    (v : Value) (pre : List Rn) (hs : a.eval s = v) (base : Nat) (hown : wr.ownsRow base 87 2 v pre.length (rcells pre)) (w0 : World) (hb : Below base w0 wr) (hbase : base ≤ wr.heap.size)
    (z1 z2 : Int) (hx : a.eval x = .slice (some ⟨wr.heap.size, 0, none⟩) 1 1) (hlen : pre.length + 1 ≤ 8796093022208)
    (h : ∀ v' w', w'.ownsRow base 87 2 v' (pre ++ [(z1, z2)]).length (rcells (pre ++ [(z1, z2)])) → Below base w0 w' → wpList Try.prog ops Q rest (a.put o.dst v') w') :
    wpList Try.prog ops Q (o :: rest) a (wr.alloc (.cells #[.int .i64 z1, .int .i64 z2] 87)) := by
  obtain ⟨i0, hi, hz0, hz1, hz2⟩ := info_parts info_run
  refine wpList_append_own _ hgd s x 68 ho base 87 i0 (.agg #[.int .i64 0, .int .i64 0]) 2 16 Try.underlying68 hi hz0 hz1 hz2 rfl (by decide) v pre.length (rcells pre) hs (hown.alloc _) ⟨wr.heap.size, 0, none⟩ 1 1 [.int .i64 z1, .int .i64 z2] hx rfl ?_ ?_ ?_ ?_ ?_ ?_
  · intro j u hj
    match j, hj with
    | 0, hj => simp at hj; subst hj; simp [Addr.add]
    | 1, hj => simp at hj; subst hj; simp [Addr.add]
  · intro u hu
    simp at hu
    rcases hu with rfl | rfl <;> rfl
  · unfold maxLen; omega
  · omega
  · simp; omega
  · intro v' w' h1 h2 _
    have e : rcells pre ++ [.int .i64 z1, .int .i64 z2] = rcells (pre ++ [(z1, z2)]) := by rw [rcells_append]; rfl
    rw [e, show pre.length + 1 = (pre ++ [(z1, z2)]).length by simp] at h1
    exact h v' w' h1 ((hb.alloc hbase _).grown h2 (by simp; omega) (fun k hk => (hown.lt k hk).1))
theorem runsR_len (vs : List Int) {j : Nat} (hj : j ≤ vs.length) : (∀ x ∈ runsR (vs.take j), x.2 ≤ (j : Int)) ∧ (runsR (vs.take j)).length ≤ j := by
  have hp := runsR_pos vs j
  have hn : ∀ x ∈ runsR (vs.take j), 0 ≤ x.2 := fun x hx => by have := hp x hx; omega
  have hs := expR_length hn
  rw [expR_runs_take vs j hj, List.length_take] at hs
  refine ⟨fun x hx => ?_, ?_⟩
  · obtain ⟨k, hk, rfl⟩ := List.getElem_of_mem hx
    have h1 := sumC_le hn hk
    have h2 := sumC_nonneg (l := (runsR (vs.take j)).take k) fun x hx => hn x (List.mem_of_mem_take hx)
    omega
  · have key : ∀ l : List Rn, (∀ x ∈ l, 1 ≤ x.2) → (l.length : Int) ≤ sumC l := by
      intro l
      induction l with
      | nil => intro _; simp [sumC_nil]
      | cons x l ih =>
        intro h
        have h1 := h x (List.mem_cons_self ..)
        have h2 := ih fun y hy => h y (List.mem_cons_of_mem _ hy)
        rw [sumC_cons, List.length_cons]
        omega
    have := key _ hp
    omega
theorem own_drew {w : World} {base : Nat} {e : TypeId} {size : Nat} {v : Value} {n : Nat} {xs : List Value} (h : w.ownsRow base e size v n xs) (d : Nat) : (w.drewN d).ownsRow base e size v n xs := h
def RRunRel (w : World) (vs : List Int) (out i : Value) (wr : World) : Prop :=
  ∃ j : Nat, j ≤ vs.length ∧ i = .int .i64 (j : Int) ∧ wr.ownsRow w.heap.size 87 2 out (runsR (vs.take j)).length (rcells (runsR (vs.take j))) ∧ Below w.heap.size w wr
set_option maxHeartbeats 2000000 in
theorem rlruns_any (v : Value) (vs : List Int) (w : World) (hv : IsI w v vs) (hl : vs.length ≤ 1000000000) :
    Calls Try.prog 38 #[v] w fun e w' => ∃ u, e = .returned u ∧ Grows w w' ∧ ReadsR w' u (runsR vs) := by
  have HV := hidden hv
  obtain ⟨A, c, rfl⟩ := hv.slice_
  clear hv
  go_enter Try.func38, Try.ntmps38
  go_wp2_with fail
  go_loopw [3, 4] (fun out i wr => RRunRel w vs out i wr) (fun _ i _ => vs.length - (intOf i).toNat)
  case atStart => exact ⟨0, by omega, rfl, ⟨rfl, .inl ⟨rfl, rfl⟩⟩, Below.refl _ _⟩
  case round =>
    obtain ⟨j, hj, rfl, hown, hb⟩ := hrel
    have HB := hidden hb
    have HOW := hidden hown
    clear hown hb
    by_cases hlt : j < vs.length
    · obtain ⟨b, f, rfl, hcell⟩ := (HV.out.grow HB.out).at_ hlt
      have HTK := hidden (runsR_take hlt)
      obtain ⟨hcnt, hlen⟩ := runsR_len vs hj
      obtain ⟨o, ho⟩ : ∃ o, o = runsR (vs.take j) := ⟨_, rfl⟩
      rw [← ho] at HOW HTK hcnt hlen
      obtain ⟨y, hy⟩ : ∃ y, y = vs[j] := ⟨_, rfl⟩
      rw [← hy] at hcell HTK
      have hopos : ∀ x ∈ o, 1 ≤ x.2 := by rw [ho]; exact runsR_pos vs j
      have HOP := hidden hopos
      clear ho hy hopos
      have hsz := HB.out.size
      obtain ⟨n, hn⟩ : ∃ n, n = o.length := ⟨_, rfl⟩
      have HN := hidden hn
      have hoo := HOW.out
      rw [← hn] at hoo
      have HOO := hidden hoo
      cases hlast : o.getLast? with
      | none =>
        have ho : o = [] := List.getLast?_eq_none_iff.1 hlast
        have HP := hidden (show pushR o y = o ++ [(y, 1)] by unfold pushR; rw [hlast])
        have hn0 : n = 0 := by rw [hn, ho]; rfl
        obtain ⟨A2, cap2, rfl⟩ : ∃ A cap, u3 = .slice A n cap := by
          obtain ⟨A, c, h1, _⟩ := ReadsR.of_own HOW.out
          exact ⟨A, c, by rw [hn]; exact h1⟩
        subst hn0
        have HLN := hidden (show o.length + 1 ≤ 8796093022208 by omega)
        clear hoo hcnt hlast hn ho
        go_wp2_with fail
        go_quiet (fail)
        go_wp2_with ((at_builtin; go_loud (refine wpList_append_r rfl _ _ rfl _ o (by rfl) w.heap.size (own_drew HOW.out _) _ (draws_below HB.out _) hsz _ _ (by rfl) HLN.out ?_); intro v' w3 hown3 hb3))
        refine ⟨⟨j + 1, by omega, by go_num, ?_, hb3⟩, by simp [intOf]; omega⟩
        rw [HTK.out, HP.out]
        exact hown3
      | some x =>
        have hs := last_split hlast
        have hpos : 0 < n := by rw [hn, hs]; simp
        have hn9 : n ≤ 1000000000 := by omega
        have hol : o.dropLast.length = n - 1 := by rw [List.length_dropLast, hn]
        obtain ⟨g, cap, rfl, hbg, hgl, hfz⟩ := own_shape hoo hpos
        have hget : o[n - 1]? = some x := by rw [hn, ← List.getLast?_eq_getElem?]; exact hlast
        obtain ⟨q1, q2⟩ := rcells_get hget
        have c1 := hoo.cells (g := g) rfl _ _ q1
        have c2 := hoo.cells (g := g) rfl _ _ q2
        rw [Addr.add_lit, Nat.zero_add] at c1 c2
        have f2 := hfz ((n - 1) * 2 + 1) (by omega)
        have hx2 := hcnt x (by rw [hs]; simp)
        have hx1 := HOP.out x (by rw [hs]; simp)
        obtain ⟨x1, x2⟩ := x
        simp only at c1 c2 hx2 hx1
        have b1 : (0 : Int) ≤ (n : Int) - 1 := by omega
        have b2 : (n : Int) - 1 < (n : Int) := by omega
        have b3 : ((n : Int) - 1).toNat = n - 1 := by omega
        have d3 : decide ((0 : Int) < (n : Int)) = true := by simp; omega
        have d3' : decide (0 < n) = true := by simp; omega
        by_cases he : x1 = y
        · have d4 : (x1 == y) = true := by simpa using he
          have HP := hidden (show pushR o y = o.dropLast ++ [(x1, x2 + 1)] by unfold pushR; rw [hlast]; simp only; rw [if_pos he])
          have HSET := hidden (own_set hoo ((n - 1) * 2 + 1) (by omega) (.int .i64 (x2 + 1)))
          have HBUMP := hidden (show (rcells o).set ((n - 1) * 2 + 1) (.int .i64 (x2 + 1)) = rcells (o.dropLast ++ [(x1, x2 + 1)]) by
            have e := rcells_bump o.dropLast (x1, x2) (x2 + 1)
            rw [← hs, hol] at e
            exact e)
          have HL2 := hidden (show (o.dropLast ++ [(x1, x2 + 1)]).length = n by rw [List.length_append, hol]; simp; omega)
          have HBG := hidden hbg
          have hw64 : wrap64 (x2 + 1) = x2 + 1 := by unfold wrap64; omega
          clear he hoo hcnt hlast hn hs q1 q2 hget hfz hol
          go_wp2_with fail
          go_quiet (fail)
          go_wp2_with fail
          try rw [hw64]
          refine ⟨⟨j + 1, by omega, by go_num, ?_, (draws_below HB.out _).setCell (p := ⟨g, (n - 1) * 2 + 1, none⟩) HBG.out _⟩, by simp [intOf]; omega⟩
          rw [HTK.out, HP.out, HL2.out, ← HBUMP.out]
          exact HSET.out
        · have d4 : (x1 == y) = false := by simpa using he
          have HP := hidden (show pushR o y = o ++ [(y, 1)] by unfold pushR; rw [hlast]; simp only; rw [if_neg he])
          have HLN := hidden (show o.length + 1 ≤ 8796093022208 by omega)
          clear he hoo hcnt hlast hn hs q1 q2 hget hfz hx1 hol f2
          go_wp2_with fail
          go_quiet (fail)
          clear c1 c2
          go_wp2_with ((at_builtin; go_loud (refine wpList_append_r rfl _ _ rfl _ o (by rw [HN.out]; rfl) w.heap.size (own_drew HOW.out _) _ (draws_below HB.out _) hsz _ _ (by rfl) HLN.out ?_); intro v' w3 hown3 hb3))
          refine ⟨⟨j + 1, by omega, by go_num, ?_, hb3⟩, by simp [intOf]; omega⟩
          rw [HTK.out, HP.out]
          exact hown3
    · have hke : j = vs.length := by omega
      subst hke
      have h := HOW.out
      rw [List.take_length] at h
      have HH := hidden h
      clear h
      go_wp2_with fail
      go_ret
      exact ⟨_, rfl, HB.out, ReadsR.of_own HH.out⟩
end Go.Proofs.Ytgmjoghgmcjebaa
