/-
  The contracts of package bitset, together. 'append' of one element to a row of the call's own leaves rows of one cell as they lay.
  The law's 'elements' collects the elements that All yields, in their order: for every valid set with N up to 3000; nothing that was there is changed.
  The law's 'ints' and 'small': whether two slices of ints are equal; whether a set is valid with N up to 3000. Nothing that was there is changed.
-/
import Derived.Test.YtaegolkoinjmoaaDoorBkClone
import Derived.Test.YtaegolkoinjmoaaDoorBkValid
import Derived.Test.YtaegolkoinjmoaaDoorBkNot
import Derived.Test.YtaegolkoinjmoaaDoorBkEncode
import Derived.Test.YtaegolkoinjmoaaDoorBkDecode

set_option linter.unusedVariables false
set_option linter.unusedSimpArgs false
namespace Go.Proofs.YtaegolkoinjmoaaDoor
open Go.RowKit Go.Shelf

theorem run_append_ones {P : Program} (w : World) (base : Nat) (t ty e : TypeId) (i : TypeInfo) (z : Value) (bytes : Nat) (ht : P.underlying t = some (.slice e)) (hi : P.info? e = some i) (hz : i.zero = some z)
    (hsize : i.size = 1) (hby : i.bytes = bytes) (hzs : z.cells.size = 1)
    (v : Value) (n : Nat) (xs : List Value) (hown : w.ownsRow base e 1 v n xs) (hnil : n = 0 → v = .slice none 0 0)
    (a : Addr) (c : Nat) (x : Value) (hx : w.cell? a = some x) (h1 : x.oneCell' = true)
    (h63 : n + 1 ≤ maxLen) (hbytes : (n + 1) * bytes ≤ 140737488355328) (hbase : base ≤ w.heap.size) :
    ∃ v' w', (Builtin.append_ #[t, t] ty #[v, .slice (some a) 1 c]).run P w = .ok v' w' ∧ w'.ownsRow base e 1 v' (n + 1) (xs ++ [x]) ∧ w.grownBy w' v.ownBlock ∧ Ones 0 w w' := by
  have hnews : ∀ j u, ([x] : List Value)[j]? = some u → w.cell? (a.add j) = some u := by
    intro j u hj
    match j, hj with
    | 0, hj =>
      simp at hj
      subst hj
      have : a.add 0 = a := by unfold Addr.add; split <;> simp_all
      rw [this]; exact hx
  obtain ⟨v', w', hrun, h2, h3, _⟩ := run_append_own (P := P) w base t ty e i z 1 bytes ht hi hz hsize hby hzs (by decide) v n xs hown a 1 c [x] rfl hnews (by simpa using h1) h63 hbytes hbase
  refine ⟨v', w', hrun, h2, h3, fun k u T _ hk => ?_⟩
  have hlt : k < w.heap.size := (Array.getElem?_eq_some_iff.1 hk).1
  rcases hown.2 with ⟨rfl, _⟩ | ⟨g, cap, cur, rfl, _, hg, hnc, hcm, hcs, _⟩
  · exact (h3.block k hlt (by simp [Value.ownBlock])).trans hk
  · by_cases hkg : k = g
    · subst hkg
      rw [hg] at hk
      have hcur : cur.size = 1 := by
        injection hk with hk
        injection hk with hk
        rw [hk]; rfl
      have hcap : cap = 1 := by omega
      have hn : n = 1 := by
        rcases Nat.eq_zero_or_pos n with h0 | h0
        · have := hnil h0; cases this
        · omega
      have holds : ∀ j u, xs[j]? = some u → w.cell? ((⟨k, 0, none⟩ : Addr).add j) = some u := hown.cells (g := k) rfl
      have hr2 := run_append_grow (P := P) w t ty e i z ht hi hz ⟨k, 0, none⟩ n cap xs (by rw [hsize]; exact hown.1) holds a 1 c [x] (by rw [hsize]; rfl) hnews (by omega) (by simp only [maxLen] at h63; omega) (growslice_fits (by omega) (by rw [hby]; exact hbytes))
      rw [hrun] at hr2
      injection hr2 with _ hw
      rw [hw]
      exact (Below.heap_alloc w.drew _ k hlt).trans (by rw [← hk]; exact hg)
    · exact (h3.block k hlt (by simp [Value.ownBlock]; omega)).trans hk
theorem wpListIn_append_ones {F : Fence} {n : Nat} {P : Program} (w : World) {ops : Array Oper} {rest : List Oper} {o : Oper} {a : Act} {Q : Exit → Act → World → Prop}
    (hg : o.guard = none) (s x : Operand) (t : TypeId) (hop : o.op = Op.call { callee := Callee.builtin Builtin.append, args := #[s, x], argTypes := #[t, t] })
    (base : Nat) (e : TypeId) (i : TypeInfo) (z : Value) (bytes : Nat) (h1 : P.underlying t = some (.slice e)) (h2 : P.info? e = some i) (h3 : i.zero = some z) (h4 : i.size = 1) (h5 : i.bytes = bytes) (h6 : z.cells.size = 1)
    (v : Value) (k : Nat) (xs : List Value) (hs : a.eval s = v) (hown : w.ownsRow base e 1 v k xs) (hnil : k = 0 → v = .slice none 0 0) (ad : Addr) (c : Nat) (u : Value) (hx : a.eval x = .slice (some ad) 1 c)
    (hc : w.cell? ad = some u) (h1c : u.oneCell' = true) (b1 : k + 1 ≤ maxLen) (b2 : (k + 1) * bytes ≤ 140737488355328) (b3 : base ≤ w.heap.size)
    (hK : ∀ v' w', w'.ownsRow base e 1 v' (k + 1) (xs ++ [u]) → w.grownBy w' v.ownBlock → Ones 0 w w' → wpListIn F n P ops Q rest (a.put o.dst v') w') :
    wpListIn F n P ops Q (o :: rest) a w := by
  refine wpListIn_plain hg fun K hK' => ?_
  obtain ⟨v', w', hrun, r1, r2, r3⟩ := run_append_ones (P := P) w base t o.type e i z bytes h1 h2 h3 h4 h5 h6 v k xs hown hnil ad c u hc h1c b1 b2 b3
  unfold Oper.wpIn
  refine ⟨?_, ?_⟩
  · simp [Oper.about, hop, resolve, Target.leads, Sem.run_pure]
  · rw [Oper.semAt_plain F _ _ (by rw [hop]; intro c hc'; cases hc')]
    simp [execOp, hop, resolve, invoke, builtin, hs, hx, hrun, Result.andThen]
    exact hK' _ _ (hK v' w' r1 r2 r3)
theorem Ones.alloc (s : Nat) (W : World) (o : Obj) : Ones s W (W.alloc o) := fun k _ _ _ h => (Below.heap_alloc W o k (Array.getElem?_eq_some_iff.1 h).1).trans h
end Go.Proofs.YtaegolkoinjmoaaDoor

namespace Go.Proofs.YtaegolkoinjmoaaDoor
open Go.RowKit Go.Shelf
attribute [local go_sem] Oper.semAt_some

set_option maxRecDepth 100000 in
set_option maxHeartbeats 2000000 in
theorem elements_any (s : Value) (n : Nat) (ws : List UInt64) (w : World) (hs : IsSet w s n ws) (ho : okW n ws) (hn3 : n ≤ 3000) (hT : Tab w) :
    Calls Tryd.prog 27 #[s] w (OwnInts (elems (mem n ws) n) w) := by
  have HS := hidden hs
  have HO := hidden ho
  have HT := hidden hT
  obtain ⟨v, rfl, hr, hn, hn2⟩ := hs
  obtain ⟨A, d, rfl, _⟩ := hr.slice_
  rw [ucells_length] at HS hr ⊢
  have hpos : 0 < w.heap.size := World.block_lt_of_cell? w _ (hT 0 (by decide))
  have hnw : 64 * nw n ≤ 3008 := by unfold nw; omega
  clear hr ho hT
  obtain ⟨i0, hi, hz0, hz1, hz2⟩ := info_parts info_int
  refine (callsIn_wide (n := 51)).1 ?_
  refine callsIn_of_wp_marks Tryd.func27 rfl trivial ?_ rfl
  simp only [Tryd.ntmps27, List.size_toArray, List.length_cons, List.length_nil, Nat.reduceAdd, Nat.reduceSub, Array.replicate_succ, Array.replicate_zero, List.push_toArray, List.append_toArray, List.nil_append, List.cons_append]
  have hG0 : Grows w (w.alloc (.cells #[.int .i64 (n : Int), .slice A ws.length d] 26)) := (Below.refl _ _).alloc (Nat.le_refl _) _
  have HG0 := hidden hG0
  have HBX := hidden (Boxed.new (w.alloc (.cells #[.int .i64 (n : Int), .slice A ws.length d] 26)) 22 (.slice none 0 0))
  have HG1 := hidden (hG0.alloc hG0.size (.cells #[.slice none 0 0] 22))
  clear hG0
  gi_wp2_with fail
  refine ⟨trivial, (callsIn_wide.2 (ck_all _ n ws _ (w.heap.size + 1) (HS.out.grow HG1.out) HO.out (HT.out.grow HG1.out) (by omega) (by simp))).mono ?_⟩
  rintro e w1 ⟨gf, lb, rfl, g1, hent, hseq⟩
  have hbx := hidden (show Boxed w1 (w.heap.size + 1) 22 (.slice none 0 0) from by
    have h := HBX.out
    rw [World.size_alloc] at h
    exact (g1.block _ (by simp)).trans h)
  have HSEQ := hidden (hseq w1 (Below.refl _ _))
  have HENT := hidden hent
  have HGW := hidden (Grows.of_below HG1.out g1)
  have hsz : w.heap.size + 2 ≤ w1.heap.size := by have := g1.size; simpa using this
  clear g1 hent hseq HG1 HBX HG0
  have hfn := eql_func_nil (.func gf) #[] lb
  gi_wp2_with fail
  refine wpIn_rangeAll (H := w1.heap.size) (B := w.heap.size + 1) (w0 := w1) rfl HENT.out HSEQ.out (Below.refl _ _) (Nat.le_refl _) rfl
    (fun pre W => (∃ v, Boxed W (w.heap.size + 1) 22 v ∧ W.ownsRow w1.heap.size 3 1 v pre.length (ncells pre) ∧ (pre.length = 0 → v = .slice none 0 0)) ∧ Below w.heap.size w1 W)
    (OwnFrom.and (Own.from (holdsRow_own w1.heap.size (w.heap.size + 1) 22 3 1 (fun pre : List Nat => pre.length) (fun pre => ncells pre) (fun pre v => pre.length = 0 → v = .slice none 0 0)) _) (ownFrom_below (by omega) (by omega)))
    ⟨⟨_, hbx.out, World.ownsRow_nil _ _ _ _, fun _ => rfl⟩, Below.refl _ _⟩
    (fun x : Nat => { tmps := #[.agg #[.int .i64 (n : Int), .slice A ws.length d], .pointer (some ⟨w.heap.size, 0, none⟩), .slice none 0 0, .pointer (some ⟨w.heap.size + 1, 0, none⟩), .func (.func gf) #[] lb, .int .i64 (x : Int), .agg #[.int .i64 (n : Int), .slice A ws.length d], .func (.func gf) #[] lb, .func (.func gf) #[] lb, .bool false, undef, .func (.func gf) #[] lb, .int .i64 (x : Int), undef, undef, undef, undef, undef, undef, undef, undef], defers := [] }) ?assign ?body ?done
  case assign =>
    intro l x W K hK
    gi_wp2
    exact hK
  case body =>
    rintro l pre x W ⟨⟨v, hv, hrow, hnil⟩, hB⟩ hlt
    have hc := hv.cell
    have hH : w1.heap.size ≤ W.heap.size := hB.size
    have HNIL := hidden hnil
    clear hnil
    gi_wp2_with (gi_at_builtin; refine wpListIn_append_ones _ rfl _ _ 22 rfl w1.heap.size 3 i0 (.int .i64 0) 8 Tryd.underlying22 hi hz0 hz1 hz2 rfl _ _ _ rfl (hrow.alloc _) HNIL.out ⟨W.heap.size, 0, none⟩ 1 (.int .i64 (x : Int)) rfl ((Boxed.new W _ _).cell) rfl (by unfold maxLen; omega) (by omega) (by simp; omega) ?_; intro v' w3 hown' hgrow hones; obtain ⟨g', cap', rfl⟩ := ownsRow_succ hown'; obtain ⟨hv1, hv2, hr2, hk2, hb2⟩ := appendedB hv (by decide) hrow hH hown' hgrow; have hc1 := hv1.cell; have hf1 := hv1.frozen)
    refine ⟨rfl, hk2.from _, hb2, ((Ones.alloc _ W _).trans (hones.weak (Nat.zero_le _))).trans (Ones.setCell (by omega) _), ⟨_, hv2, by rw [List.length_append, ncells_snoc]; exact hr2, fun h => by simp at h⟩, hb2.below hB (by omega) (by omega)⟩
  case done =>
    rintro D W hD ⟨⟨v, hv, hrow, _⟩, hB⟩ hK
    have hc := hv.cell
    gi_wp2
    refine ⟨by simp, .inl ⟨_, _, rfl, run_takeDeferred hK, ?_⟩⟩
    exact ⟨_, results_tmp rfl _ _ _, v, rfl, ownsRow_base (ownsRow_putObj hrow _ hK rfl) (by omega), HGW.out.trans (hB.trans (belowK_b (w := w1) (by omega) W D _ _ hD hK rfl rfl))⟩

end Go.Proofs.YtaegolkoinjmoaaDoor

namespace Go.Proofs.YtaegolkoinjmoaaDoor
open Go.RowKit
set_option linter.unusedVariables false
set_option linter.unusedSimpArgs false

def IntsRel (w : World) (la lb : List Nat) (k : Value) (wr : World) : Prop :=
  ∃ j : Nat, j ≤ la.length ∧ k = .int .i64 j ∧ la.take j = lb.take j ∧ Grows w wr
def sameL (la lb : List Nat) : Bool := decide (la = lb)
theorem sameL_f {la lb : List Nat} (h : la ≠ lb) : sameL la lb = false := by unfold sameL; simpa using h
theorem sameL_t {la lb : List Nat} (h : la = lb) : sameL la lb = true := by unfold sameL; simpa using h

set_option maxHeartbeats 1000000 in
theorem ints_any (v u : Value) (la lb : List Nat) (w : World) (hv : Reads w v (ncells la)) (hu : Reads w u (ncells lb)) (hla : la.length ≤ 1048576) (hlb : lb.length ≤ 1048576) :
    Calls Tryd.prog 26 #[v, u] w fun e w' => e = .returned (.bool (sameL la lb)) ∧ Grows w w' := by
  have HRA := hidden hv
  have HRB := hidden hu
  obtain ⟨A, d, rfl, _⟩ := hv.slice_
  obtain ⟨B, d', rfl, _⟩ := hu.slice_
  rw [ncells_length] at HRA hv ⊢
  rw [ncells_length] at HRB hu ⊢
  clear hv hu
  by_cases hlen : la.length = lb.length
  · have hd1 : ((la.length : Int) != (lb.length : Int)) = false := by simp; omega
    have HLN := hidden hlen
    clear hlen
    go_enter Tryd.func26, Tryd.ntmps26
    go_wp2_with fail
    go_loopw [5] (fun k wr => IntsRel w la lb k wr) (fun k _ => la.length - (intOf k).toNat)
    case atStart => exact ⟨0, by omega, rfl, rfl, Below.refl _ _⟩
    case round =>
      obtain ⟨j, hj, rfl, hsame, hb⟩ := hrel
      have HB := hidden hb
      have HSM := hidden hsame
      have hlen := HLN.out
      clear hb hsame
      by_cases hlt : j < la.length
      · have hlt2 : j < lb.length := by omega
        obtain ⟨A', c1, he, _, hca⟩ := HRA.out.grow HB.out
        rw [ncells_length] at he hca
        injection he with e1 e2 e3
        subst e1 e3
        obtain ⟨B', c2, he', _, hcb⟩ := HRB.out.grow HB.out
        rw [ncells_length] at he' hcb
        injection he' with f1 f2 f3
        subst f1 f3
        obtain ⟨b1, o1, rfl, hx1⟩ := hca (by omega)
        obtain ⟨b2, o2, rfl, hx2⟩ := hcb (by omega)
        have hy1 := hx1 j (by omega)
        have hy2 := hx2 j (by omega)
        rw [ncells_get hlt] at hy1
        rw [ncells_get hlt2] at hy2
        have HTA := hidden (List.take_succ_eq_append_getElem hlt)
        have HTB := hidden (List.take_succ_eq_append_getElem hlt2)
        clear hca hcb hx1 hx2 e2 f2 hlen
        by_cases heq : la[j] = lb[j]
        · have hE : ((la[j] : Int) != (lb[j] : Int)) = false := by rw [heq]; simp
          have HEQ := hidden heq
          clear heq
          go_wp2_with fail
          go_quiet (fail)
          go_wp2
          go_roundw
          case rel =>
            refine ⟨j + 1, by omega, by go_num, ?_, below_draws HB.out _⟩
            rw [HTA.out, HTB.out, HSM.out, HEQ.out]
          case measure => simp [intOf]; omega
        · have hE : ((la[j] : Int) != (lb[j] : Int)) = true := by simp; omega
          have HF := hidden (sameL_f (la := la) (lb := lb) (fun h => heq (by simp [h])))
          clear heq
          go_wp2_with fail
          go_quiet (fail)
          go_wp2
          go_ret
          exact ⟨retB (by rw [HF.out]), below_draws HB.out _⟩
      · have hje : j = la.length := by omega
        have hsame := HSM.out
        rw [hje, List.take_length, hlen, List.take_length] at hsame
        have HT2 := hidden (sameL_t hsame)
        have hnj : la.length ≤ j := by omega
        clear hsame hje hlen
        go_wp2
        go_ret
        exact ⟨retB (by rw [HT2.out]), HB.out⟩
  · have HF := hidden (sameL_f (la := la) (lb := lb) (fun h => hlen (by rw [h])))
    have hd : ((la.length : Int) != (lb.length : Int)) = true := by simp; omega
    clear hlen
    go_enter Tryd.func26, Tryd.ntmps26
    go_wp2
    go_ret
    exact ⟨retB (by rw [HF.out]), Below.refl _ _⟩

def smallB (n : Int) (ws : List UInt64) : Prop := n ≤ 3000 ∧ validP n ws
open Classical in
noncomputable def smallI (n : Int) (ws : List UInt64) : Bool := decide (smallB n ws)
theorem smallI_t {n : Int} {ws : List UInt64} (h : smallB n ws) : smallI n ws = true := by unfold smallI; simpa using h
theorem smallI_f {n : Int} {ws : List UInt64} (h : ¬ smallB n ws) : smallI n ws = false := by unfold smallI; simpa using h

set_option maxHeartbeats 400000 in
theorem small_any (s : Value) (n : Int) (ws : List UInt64) (w : World) (hs : IsPair w s n ws) (h63 : -9223372036854775808 ≤ n) (h64 : n ≤ 9223372036854775807) :
    Calls Tryd.prog 29 #[s] w fun e w' => e = .returned (.bool (smallI n ws)) ∧ Grows w w' := by
  have HS := hidden hs
  obtain ⟨v, rfl, hr, hla⟩ := hs
  obtain ⟨A, d, rfl, _⟩ := hr.slice_
  rw [ucells_length] at HS hr ⊢
  have hG : ∀ o, Grows w (w.alloc o) := fun o => (Below.refl _ _).alloc (Nat.le_refl _) o
  have HG := hidden hG
  clear hr hG
  by_cases h3 : n ≤ 3000
  · have hd : decide (n ≤ 3000) = true := by simpa using h3
    have HE : Hid (smallI n ws = validI n ws) := by
      show _ = _
      by_cases hv : validP n ws
      · rw [smallI_t ⟨h3, hv⟩, validI_t hv]
      · rw [smallI_f (fun h => hv h.2), validI_f hv]
    clear h3
    go_enter Tryd.func29, Tryd.ntmps29
    go_wp2_with fail
    refine (rvalid_any _ n ws _ (HS.out.grow (HG.out _)) h63 h64).mono ?_
    rintro e w1 ⟨rfl, g1⟩
    have HG1 := hidden (Grows.of_below (HG.out _) g1)
    clear g1
    go_wp2
    go_ret
    exact ⟨retB (by rw [HE.out]), HG1.out⟩
  · have hd : decide (n ≤ 3000) = false := by simpa using h3
    have HE := hidden (smallI_f (ws := ws) (fun h : smallB n ws => h3 h.1))
    clear h3
    go_enter Tryd.func29, Tryd.ntmps29
    go_wp2
    go_ret
    exact ⟨retB (by rw [HE.out]), HG.out _⟩

end Go.Proofs.YtaegolkoinjmoaaDoor
