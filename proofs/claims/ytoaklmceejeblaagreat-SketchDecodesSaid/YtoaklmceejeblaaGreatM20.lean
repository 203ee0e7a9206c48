/-
  Texts that the claims of this seat share, put together (SqN, SqO). No condition.
-/
import Derived.Test.YtoaklmceejeblaaGreatSqL
import Derived.Test.YtoaklmceejeblaaGreatM19
import Derived.Test.YtoaklmceejeblaaGreatM14
import Derived.Lib.SliceRun
import Derived.Test.YtoaklmceejeblaaGreatSk9
/-
  Shaken: what the claims of this seat need of this text. No condition.
-/
namespace Go.Proofs.YtoaklmceejeblaaGreat
set_option maxRecDepth 8000
open Go.RowKit
set_option linter.unusedVariables false
set_option linter.unusedSimpArgs false
def setL : List Value → Nat → List Value → List Value
  | ys, _, [] => ys
  | ys, o, v :: r => setL (ys.set o v) (o + 1) r
theorem setL_length : ∀ (vs ys : List Value) (o : Nat), (setL ys o vs).length = ys.length
  | [], _, _ => rfl
  | v :: r, ys, o => by rw [setL, setL_length r, List.length_set]
theorem setL_take : ∀ (vs ys : List Value) (o m : Nat), m ≤ o → (setL ys o vs).take m = ys.take m
  | [], _, _, _, _ => rfl
  | v :: r, ys, o, m, h => by
    rw [setL, setL_take r _ _ _ (by omega)]
    exact List.take_set_of_le h
theorem row_setCells {g : Nat} {e : TypeId} : ∀ (vs : List Value) (o : Nat) {w : World} {ys : List Value}, Row w g e ys → Row (w.setCells g o vs) g e (setL ys o vs)
  | [], _, _, _, h => h
  | v :: r, o, _, _, h => row_setCells r (o + 1) (h.set_m o v)
theorem only_setCells (g : Nat) : ∀ (vs : List Value) (o : Nat) (w : World), Only (fun i => i = g) w (w.setCells g o vs)
  | [], _, w => Only.refl _ _
  | v :: r, o, w => (Only.set w g o v).trans (only_setCells g r (o + 1) _) (fun i hi => .inl hi)
theorem zero_vals (n : Nat) : (Builtin.zeroCells #[.int .i64 0, .int .i64 0, .string ⟨#[]⟩] n).toList = vcells (List.replicate n nulX) := by
  apply List.ext_getElem?
  intro t
  by_cases ht : t < n * 3
  · have e1 : (List.replicate n nulX)[t / 3]? = some nulX := by rw [List.getElem?_replicate, if_pos (by omega)]
    obtain ⟨h1, h2, h3⟩ := vcells_get e1
    have hm : t % 3 = 0 ∨ t % 3 = 1 ∨ t % 3 = 2 := by omega
    have ht3 : t = t / 3 * 3 + t % 3 := by omega
    rw [Array.getElem?_toList]
    simp only [Builtin.zeroCells]
    rcases hm with h | h | h
    · rw [show (vcells (List.replicate n nulX))[t]? = some (.int .i64 nulX.k) by rw [ht3, h]; exact h1]
      simp [h, nulX, ht]
    · rw [show (vcells (List.replicate n nulX))[t]? = some (.int .i64 nulX.n) by rw [ht3, h]; exact h2]
      simp [h, nulX, ht]
    · rw [show (vcells (List.replicate n nulX))[t]? = some (.string nulX.t) by rw [ht3, h]; exact h3]
      simp [h, nulX, ht]
  · have e1 : (Builtin.zeroCells #[.int .i64 0, .int .i64 0, .string ⟨#[]⟩] n).toList.length ≤ t := by
      simp only [Builtin.zeroCells, Array.length_toList, Array.size_map, Array.size_range]
      show n * 3 ≤ t
      omega
    have e2 : (vcells (List.replicate n nulX)).length ≤ t := by rw [vcells_length, List.length_replicate]; omega
    rw [List.getElem?_eq_none e1, List.getElem?_eq_none e2]
theorem run_clear_vals (w : World) (b i m c : Nat) (ty : TypeId) (ys : List Value) (hr : Row w b 35 ys) (hl : (i + m) * 3 ≤ ys.length) :
    (Builtin.clear_ #[22] ty #[.slice (some ⟨b, i * 3, none⟩) m c]).run Tryz.prog w = .ok (.tuple #[]) (w.setCells b (i * 3) (vcells (List.replicate m nulX))) := by
  have hv : (zeroValue 35).run Tryz.prog w = .ok (.agg #[.int .i64 0, .int .i64 0, .string ⟨#[]⟩]) w := by first | rfl | kernel_rfl
  have hst := run_storeCells_cells (P := Tryz.prog) b (i * 3) (vcells (List.replicate m nulX)) 0 w
    (fun j hj => by rw [vcells_length, List.length_replicate] at hj; rw [hr.cell, List.getElem?_eq_getElem (by omega)]; rfl)
    (fun j hj => hr.frozen _)
    (fun v hv => by
      have : ∀ n : Nat, ∀ v ∈ vcells (List.replicate n nulX), v.oneCell' = true := by
        intro n
        induction n with
        | zero => intro v hv; cases hv
        | succ n ih =>
          intro v hv
          rw [List.replicate_succ, vcells] at hv
          simp only [List.mem_cons] at hv
          rcases hv with rfl | rfl | rfl | hv
          · rfl
          · rfl
          · rfl
          · exact ih v hv
      exact this m v hv)
  simp only [Nat.add_zero] at hst
  cases m with
  | zero => simp [Builtin.clear_, vcells, World.setCells]
  | succ m =>
    have hz := zero_vals (m + 1)
    simp only [Builtin.clear_]
    simp only [List.getElem?_toArray, List.getElem?_cons_zero, Sem.run_bind, Sem.run_pure, Result.andThen_ok, run_underlying Tryz.underlying22, hv, Value.cells, hz, hst]
theorem wpList_store_f3O {wr : World} {ops : Array Oper} {rest : List Oper} {op : Oper} {a : Act} {Q : Exit → Act → World → Prop} (hgd : op.guard = none) (x y : Operand) (ho : op.op = .store 35 x y)
    (g o : Nat) (hx : a.eval x = .pointer (some ⟨g, o, none⟩)) (k n : Int) (t : ByteArray) (hy : a.eval y = .agg #[.int .i64 k, .int .i64 n, .string t]) (T : TypeId) (xs : List Value) (hr : Row wr g T xs) (hl : o + 3 ≤ xs.length)
    (h : ∀ W, Row W g T (set3 xs o (.int .i64 k) (.int .i64 n) (.string t)) → Only (fun i => i = g) wr W → wpList Tryz.prog ops Q rest (a.put op.dst undef) W) : wpList Tryz.prog ops Q (op :: rest) a wr := by
  refine wpList_store_mid hgd _ x y ho g o #[.int .i64 k, .int .i64 n, .string t] hx hy (fun j hj => ⟨?_, hr.frozen _⟩) size_val (by simp [Value.oneCell']) ?_
  · have hj : j < 3 := hj
    rw [hr.cell, List.getElem?_eq_getElem (by omega)]; rfl
  · exact h _ (((hr.set_m o _).set_m (o + 1) _).set_m (o + 2) _) (((Only.set _ g _ _).trans (Only.set _ g _ _) (fun i hi => .inl hi)).trans (Only.set _ g _ _) (fun i hi => .inl hi))
theorem at_svq {wr : World} {ops : Array Oper} {rest : List Oper} {op : Oper} {a : Act} {Q : Exit → Act → World → Prop} (hgd : op.guard = none) (x y : Operand) (ho : op.op = .store 35 x y) (h : wpList Tryz.prog ops Q (op :: rest) a wr) : wpList Tryz.prog ops Q (op :: rest) a wr := h
theorem set3_length (xs : List Value) (o : Nat) (x y z : Value) : (set3 xs o x y z).length = xs.length := by simp [set3]
theorem set3_get (xs : List Value) (o t : Nat) (x y z : Value) (h : t < o ∨ o + 3 ≤ t) : (set3 xs o x y z)[t]? = xs[t]? := by
  unfold set3
  rw [List.getElem?_set_ne (by omega), List.getElem?_set_ne (by omega), List.getElem?_set_ne (by omega)]
theorem set3_take (xs : List Value) (o : Nat) (x y z : Value) (h : o + 3 ≤ xs.length) : (set3 xs o x y z).take (o + 3) = xs.take o ++ [x, y, z] := by
  apply List.ext_getElem?
  intro t
  rw [List.getElem?_take]
  by_cases h1 : t < o
  · rw [if_pos (by omega), set3_get _ _ _ _ _ _ (.inl h1), List.getElem?_append_left (by rw [List.length_take]; omega), List.getElem?_take, if_pos h1]
  · by_cases h2 : t < o + 3
    · rw [if_pos h2, List.getElem?_append_right (by rw [List.length_take]; omega), List.length_take, Nat.min_eq_left (by omega)]
      have hm : t = o ∨ t = o + 1 ∨ t = o + 2 := by omega
      unfold set3
      rcases hm with rfl | rfl | rfl
      · rw [List.getElem?_set_ne (by omega), List.getElem?_set_ne (by omega), List.getElem?_set_self (by omega)]; simp
      · rw [List.getElem?_set_ne (by omega), List.getElem?_set_self (by simp; omega)]; simp
      · rw [List.getElem?_set_self (by simp; omega)]; simp
    · rw [if_neg h2, List.getElem?_eq_none (by simp; omega)]
theorem liveV_step {l : List Val} {b : Nat} {x : Val} (h : l[b]? = some x) : liveV (l.take (b + 1)) = if x.k = 0 then liveV (l.take b) else liveV (l.take b) ++ [x] := by
  unfold liveV
  rw [List.take_add_one, h, List.filter_append]
  by_cases h0 : x.k = 0
  · rw [if_pos h0]
    simp [h0]
  · rw [if_neg h0]
    simp [h0]
theorem liveV_all {l : List Val} (h : ∀ (j : Nat) (x : Val), l[j]? = some x → x.k ≠ 0) : liveV l = l := by
  unfold liveV
  rw [List.filter_eq_self]
  intro x hx
  obtain ⟨j, hj⟩ := List.getElem?_of_mem hx
  simpa using h j x hj
theorem liveV_length_le (l : List Val) : (liveV l).length ≤ l.length := List.length_filter_le _ _
theorem idxNull_cases (l : List Val) : (idxNull l = -1 ∧ liveV l = l) ∨ ∃ k f, k < l.length ∧ l[k]? = some f ∧ f.k = 0 ∧ idxNull l = (k : Int) ∧ liveV (l.take k) = l.take k := by
  unfold idxNull
  cases h : l.findIdx? (fun x => x.k == 0) with
  | none =>
    rw [List.findIdx?_eq_none_iff] at h
    exact .inl ⟨rfl, liveV_all fun j x hj => by have := h x (List.mem_of_getElem? hj); simpa using this⟩
  | some k =>
    rw [List.findIdx?_eq_some_iff_getElem] at h
    obtain ⟨h1, h2, h3⟩ := h
    refine .inr ⟨k, l[k], h1, List.getElem?_eq_getElem h1, by simpa using h2, rfl, liveV_all fun j x hj => ?_⟩
    rw [List.getElem?_take] at hj
    split at hj
    · rename_i hjk
      have := h3 j hjk
      rw [List.getElem?_eq_getElem (by omega)] at hj
      injection hj with hj
      subst hj
      simpa using this
    · cases hj
structure DelSt (w : World) (g cap : Nat) (l : List Val) (a b : Nat) (ys : List Value) (wr : World) : Prop where
  lt : a < b
  le : b ≤ l.length
  num : a = (liveV (l.take b)).length
  row : Row wr g 35 ys
  len : ys.length = cap * 3
  done : ys.take (a * 3) = vcells (liveV (l.take b))
  rest : ∀ (t : Nat) (x : Val), b ≤ t → l[t]? = some x → ys[t * 3]? = some (.int .i64 x.k) ∧ ys[t * 3 + 1]? = some (.int .i64 x.n) ∧ ys[t * 3 + 2]? = some (.string x.t)
  only : Only (fun i => i = g) w wr
theorem DelSt.grow {w : World} {g cap : Nat} {l : List Val} {a b : Nat} {ys : List Value} {X Y : World} (h : DelSt w g cap l a b ys X) (hg : Grows X Y) : DelSt w g cap l a b ys Y :=
  ⟨h.lt, h.le, h.num, h.row.grow hg, h.len, h.done, h.rest, h.only.trans (Only.of_grows hg (fun i => i = g)) (fun i hi => .inl hi)⟩
theorem DelSt.skip {w : World} {g cap : Nat} {l : List Val} {a b : Nat} {ys : List Value} {X : World} (h : DelSt w g cap l a b ys X) {x : Val} (hx : l[b]? = some x) (h0 : x.k = 0) : DelSt w g cap l a (b + 1) ys X := by
  have e := liveV_step hx
  rw [if_pos h0] at e
  have hb := (List.getElem?_eq_some_iff.1 hx).1
  exact ⟨by have := h.lt; omega, by omega, by rw [e]; exact h.num, h.row, h.len, by rw [e]; exact h.done, fun t y ht hy => h.rest t y (by omega) hy, h.only⟩
theorem DelSt.keep {w : World} {g cap : Nat} {l : List Val} {a b : Nat} {ys : List Value} {X Y : World} (h : DelSt w g cap l a b ys X) (hcap : l.length ≤ cap) {x : Val} (hx : l[b]? = some x) (h0 : ¬ x.k = 0)
    (hr : Row Y g 35 (set3 ys (a * 3) (.int .i64 x.k) (.int .i64 x.n) (.string x.t))) (ho : Only (fun i => i = g) X Y) : DelSt w g cap l (a + 1) (b + 1) (set3 ys (a * 3) (.int .i64 x.k) (.int .i64 x.n) (.string x.t)) Y := by
  have e := liveV_step hx
  rw [if_neg h0] at e
  have hb := (List.getElem?_eq_some_iff.1 hx).1
  have hlt := h.lt
  refine ⟨by omega, by omega, by rw [e, List.length_append, ← h.num]; rfl, hr, by rw [set3_length]; exact h.len, ?_, fun t y ht hy => ?_, h.only.trans ho (fun i hi => .inl hi)⟩
  · rw [show (a + 1) * 3 = a * 3 + 3 by omega, set3_take _ _ _ _ _ (by rw [h.len]; omega), h.done, e, vcells_append]
    rfl
  · rw [set3_get _ _ _ _ _ _ (.inr (by omega)), set3_get _ _ _ _ _ _ (.inr (by omega)), set3_get _ _ _ _ _ _ (.inr (by omega))]
    exact h.rest t y (by omega) hy
def DelRel (w : World) (g cap : Nat) (l : List Val) (i j : Value) (wr : World) : Prop := ∃ (a b : Nat) (ys : List Value), i = .int .i64 (a : Int) ∧ j = .int .i64 (b : Int) ∧ DelSt w g cap l a b ys wr
set_option maxHeartbeats 8000000 in
theorem qdelete_any (v : Value) (l : List Val) (base : Nat) (w : World) (hown : w.ownsRow base 35 3 v l.length (vcells l)) (hl : l.length ≤ 1000000) :
    Calls Tryz.prog 38 #[v, .func (.func 40) #[] #[]] w fun e w' => ∃ v', e = .returned v' ∧ w'.ownsRow base 35 3 v' (liveV l).length (vcells (liveV l)) ∧ Only (fun i => v.ownBlock = some i) w w' := by
  have hrv : ReadsV w v l := ReadsV.of_own hown
  have HIF := hidden (qindexFunc_any v l w hrv hl)
  have HOWN := hidden hown
  rcases idxNull_cases l with ⟨e1, e2⟩ | ⟨k, f, hk, hf, hf0, e1, e2⟩
  · rw [e1] at HIF
    have HE := hidden e2
    clear e1 e2 hrv hown
    obtain ⟨A, c, rfl⟩ : ∃ A c, v = .slice A l.length c := by obtain ⟨A, c, rfl, _⟩ := ReadsV.of_own HOWN.out; exact ⟨A, c, rfl⟩
    go_enter Tryz.func38, Tryz.ntmps38
    go_wp2_with (go_at_call 103; refine (HIF.out).mono ?_; rintro e w2 ⟨rfl, g2⟩; have HG2 := hidden g2; clear g2)
    go_ret
    rw [HE.out]
    exact ⟨_, rfl, ownsRow_grow HOWN.out HG2.out, Only.of_grows HG2.out _⟩
  · rw [e1] at HIF
    rcases id hown.2 with ⟨_, hz⟩ | ⟨g, cap, cur, rfl, hb, hg, hn, hcm, hs, htake⟩
    · omega
    have hcur : cur.toList.length = cap * 3 := by simpa using hs
    have htk : l.take (k + 1) = l.take k ++ [f] := by rw [List.take_add_one, hf]; rfl
    have e3 : liveV (l.take (k + 1)) = l.take k := by rw [liveV_step hf, if_pos hf0, e2]
    have HST := hidden (show DelSt w g cap l k (k + 1) cur.toList w from
      ⟨by omega, by omega, by rw [e3, List.length_take]; omega, by unfold Row; rw [hg], hcur, by
        rw [e3]
        have h1 : (cur.toList.take (l.length * 3)).take (k * 3) = cur.toList.take (k * 3) := by rw [List.take_take, Nat.min_eq_left (by omega)]
        rw [← h1, htake]
        conv => lhs; rw [← List.take_append_drop k l, vcells_append]
        rw [List.take_append_of_le_length (by rw [vcells_length, List.length_take]; omega), List.take_of_length_le (by rw [vcells_length, List.length_take]; omega)], fun t x _ hx => by
        obtain ⟨q1, q2, q3⟩ := vcells_get hx
        have ht := (List.getElem?_eq_some_iff.1 hx).1
        rw [← htake] at q1 q2 q3
        rw [List.getElem?_take, if_pos (by omega)] at q1 q2 q3
        exact ⟨q1, q2, q3⟩, Only.refl _ _⟩)
    have HN := hidden hn
    have HBC := hidden (And.intro hb hcm)
    have HLL := hidden hl
    obtain ⟨n, hnn⟩ : ∃ n, n = l.length := ⟨_, rfl⟩
    have HNN := hidden hnn
    have hne : ((k : Int) == -1) = false := beq_eq_false_iff_ne.2 (by omega)
    have hnb : n ≤ 1000000 := by omega
    rw [← hnn] at hk hn HIF ⊢
    clear e1 e2 e3 hrv hown hf hf0 htk hcur htake hs hg hb hcm hl hnn
    go_enter Tryz.func38, Tryz.ntmps38
    go_wp2_with (go_at_call 103; refine (HIF.out).mono ?_; rintro e w2 ⟨rfl, g2⟩; have HS2 := hidden (HST.out.grow g2); clear g2)
    go_loopw [5, 6, 7] (fun i j _ wr => DelRel w g cap l i j wr) (fun _ j _ _ => l.length - (intOf j).toNat)
    case atStart => exact ⟨k, k + 1, _, rfl, by go_num, HS2.out⟩
    case round =>
      clear HS2
      obtain ⟨a, b, ys, rfl, rfl, hst⟩ := hrel
      have HS := hidden hst
      have hab := hst.lt
      have hbl := hst.le
      have hyl := hst.len
      clear hst HIF hne hk
      have hcn : n ≤ cap := hn
      by_cases hlt : b < n
      · have hd : decide (b < n) = true := decide_eq_true hlt
        have hd2 : decide ((b : Int) < (n : Int)) = true := decide_eq_true (by omega)
        have hk0 : (0 : Int) ≤ (b : Int) := by omega
        have hk1 : (b : Int) < (n : Int) := by omega
        have hk2 : (0 : Int) ≤ (a : Int) := by omega
        have hk3 : (a : Int) < (n : Int) := by omega
        obtain ⟨x, hx⟩ : ∃ x, l[b]? = some x := ⟨_, List.getElem?_eq_getElem (by have := HNN.out; omega)⟩
        have HXX := hidden hx
        obtain ⟨q1, q2, q3⟩ := HS.out.rest b x (Nat.le_refl _) hx
        rw [← HS.out.row.cell] at q1 q2 q3
        have HNU := hidden (fun X => qisNull_any x.k x.n x.t X)
        have HR1 := hidden (Row.new wr 35 #[.int .i64 x.k, .int .i64 x.n, .string x.t] [.int .i64 x.k, .int .i64 x.n, .string x.t] rfl)
        have HSA := hidden (HS.out.grow (growK wr (.cells #[.int .i64 x.k, .int .i64 x.n, .string x.t] 35)))
        have HBN := hidden (show b + 1 ≤ n by omega)
        have hbm : l.length - (b + 1) < l.length - b := by have := HNN.out; omega
        clear hx hyl hab hbl
        by_cases h0 : x.k = 0
        · have HH0 := hidden h0
          rw [show (x.k == 0) = true by simpa using h0] at HNU
          clear h0
          go_wp2_with (go_at_call 40; refine (HNU.out _).mono ?_; rintro e w2 ⟨rfl, g2⟩; have HSB := hidden (HSA.out.grow g2); clear g2)
          go_roundw
          case rel => exact ⟨a, b + 1, ys, rfl, by go_num, HSB.out.skip HXX.out HH0.out⟩
          case measure => simpa [intOf] using hbm
        · have HH0 := hidden h0
          rw [show (x.k == 0) = false by simpa using h0] at HNU
          clear h0
          go_wp2_with (first
            | (go_at_call 40; refine (HNU.out _).mono ?_; rintro e w2 ⟨rfl, g2⟩; have HSB := hidden (HSA.out.grow g2); have HR2 := hidden (HR1.out.grow g2); have v0 := HR2.out.cell 0; have v1 := HR2.out.cell 1; have v2 := HR2.out.cell 2; simp only [List.getElem?_cons_succ, List.getElem?_cons_zero] at v0 v1 v2; clear g2)
            | ((with_reducible refine at_svq rfl _ _ rfl ?_); refine wpList_store_f3O rfl _ _ rfl g (a * 3) rfl x.k x.n x.t rfl _ ys HSB.out.row (by rw [HSB.out.len]; have := HSB.out.lt; have := HBN.out; omega) ?_; intro W hr ho; have HSC := hidden (HSB.out.keep HN.out HXX.out HH0.out hr ho); clear hr ho))
          go_roundw
          case rel => exact ⟨a + 1, b + 1, _, by go_num, by go_num, HSC.out⟩
          case measure => simpa [intOf] using hbm
      · have hbe : b = n := by have := HNN.out; omega
        have hd : decide (b < n) = false := decide_eq_false hlt
        have hd2 : decide ((b : Int) < (n : Int)) = false := decide_eq_false (by omega)
        have HLV := hidden (show liveV (l.take b) = liveV l by rw [hbe, HNN.out, List.take_length])
        have hcl : ∀ ty, (Builtin.clear_ #[22] ty #[.slice (some ⟨g, a * 3, none⟩) (n - a) (cap - a)]).run Tryz.prog wr = .ok (.tuple #[]) (wr.setCells g (a * 3) (vcells (List.replicate (n - a) nulX))) := fun ty => run_clear_vals wr g a (n - a) (cap - a) ty ys HS.out.row (by rw [hyl]; omega)
        have hk2 : (0 : Int) ≤ (a : Int) := by omega
        have hk3 : (a : Int) ≤ (n : Int) := by omega
        have hk4 : (a : Int) < (cap : Int) := by omega
        have hac : a < cap := by omega
        have HAN := hidden (show a ≤ n by omega)
        clear hlt hbe hyl hbl hab
        go_wp2_with fail
        go_ret
        have hrw := row_setCells (vcells (List.replicate (n - a) nulX)) (a * 3) HS.out.row
        have hon := only_setCells g (vcells (List.replicate (n - a) nulX)) (a * 3) wr
        refine ⟨_, rfl, ⟨by rw [vcells_length], .inr ⟨g, cap, (setL ys (a * 3) (vcells (List.replicate (n - a) nulX))).toArray, by rw [← HLV.out, ← HS.out.num]; rfl, HBC.out.1, hrw, by rw [← HLV.out, ← HS.out.num]; omega, HBC.out.2, ?_, ?_⟩⟩, (HS.out.only.trans hon (fun i hi => .inl hi)).mono (fun i hi => .inl (by rw [hi]; rfl))⟩
        · simp [setL_length, HS.out.len]
        · rw [← HLV.out, ← HS.out.num]
          show (setL ys (a * 3) (vcells (List.replicate (n - a) nulX))).take (a * 3) = _
          rw [setL_take _ _ _ _ (Nat.le_refl _), HS.out.done]
end Go.Proofs.YtoaklmceejeblaaGreat
/-
  Shaken: what the claims of this seat need of this text. No condition.
-/
namespace Go.Proofs.YtoaklmceejeblaaGreat
set_option maxRecDepth 8000
open Go.RowKit
set_option linter.unusedVariables false
set_option linter.unusedSimpArgs false
structure FR (w X : World) (f r : Value) (l : List Val) (m : List Int) : Prop where
  own1 : X.ownsRow w.heap.size 35 3 f l.length (vcells l)
  own2 : X.ownsRow w.heap.size 3 1 r m.length (icells m)
  grows : Grows w X
theorem FR.grow {w X Y : World} {f r : Value} {l : List Val} {m : List Int} (h : FR w X f r l m) (hg : Grows X Y) : FR w Y f r l m := ⟨ownsRow_grow h.own1 hg, ownsRow_grow h.own2 hg, h.grows.of_below hg⟩
theorem FR.val {w X Y : World} {f f' r : Value} {l l' : List Val} {m : List Int} (h : FR w X f r l m) (ho : Only (fun k => f.ownBlock = some k) X Y) (h1 : Y.ownsRow w.heap.size 35 3 f' l'.length (vcells l')) : FR w Y f' r l' m :=
  ⟨h1, ownsRow_only h.own2 ho (ownsRow_apart h.own2 h.own1 (by decide)), ho.below h.grows (fun i hi => (h.own1.lt i hi).1)⟩
theorem FR.int {w X Y : World} {f r r' : Value} {l : List Val} {m m' : List Int} (h : FR w X f r l m) (ho : Only (fun k => r.ownBlock = some k) X Y) (h2 : Y.ownsRow w.heap.size 3 1 r' m'.length (icells m')) : FR w Y f r' l m' :=
  ⟨ownsRow_only h.own1 ho (ownsRow_apart h.own1 h.own2 (by decide)), h2, ho.below h.grows (fun i hi => (h.own2.lt i hi).1)⟩
theorem FR.nil (w : World) : FR w w (.slice none 0 0) (.slice none 0 0) [] [] := ⟨World.ownsRow_nil _ _ _ _, World.ownsRow_nil _ _ _ _, Below.refl _ _⟩
noncomputable def fenF (sv : List Val) : List Val := match sv with | [] => [] | _ :: _ => chF sv 17
theorem fenF_ne {sv : List Val} (h : sv ≠ []) : fenF sv = chF sv 17 := by
  cases sv with
  | nil => exact absurd rfl h
  | cons x l => rfl
def ChRel (w : World) (ra rb : Val → Int) (sv : List Val) (f r i : Value) (wr : World) : Prop := ∃ k : Nat, k ≤ 17 ∧ i = .int .i64 (k : Int) ∧ FR w wr f r (chF sv k) (rkF ra rb (chF sv k))
theorem two_reads (W : World) (a b : Int) : Reads (W.alloc (.cells #[.int .i64 a, .int .i64 b] 3)) (.slice (some ⟨W.heap.size, 0, none⟩) 2 2) [.int .i64 a, .int .i64 b] :=
  ⟨_, 2, rfl, Nat.le_refl _, fun _ => ⟨W.heap.size, 0, rfl, fun j hj => by
    have hr := Row.new W 3 #[.int .i64 a, .int .i64 b] [.int .i64 a, .int .i64 b] rfl
    rw [Nat.zero_add]
    exact hr.cell j⟩⟩
theorem lequalX_any (x y : Val) (w : World) : Calls Tryz.prog 64 #[.agg #[.int .i64 x.k, .int .i64 x.n, .string x.t], .agg #[.int .i64 y.k, .int .i64 y.n, .string y.t]] w fun e w' => e = .returned (.bool (lcX x y == 0)) ∧ Grows w w' := lequal_any _ _ _ _ _ _ _
set_option maxHeartbeats 16000000 in
theorem qchoose_any (F : FuncId) (hF : ∀ args W, (callFunc F args).run Tryz.prog W = .ok (.enter F args) W) (cs : Array Value) (ra rb : Val → Int) (v : Value) (sv : List Val) (w : World) (hv : ReadsV w v sv) (hl : sv.length ≤ 1000000)
    (heq : ∀ x y, x ∈ sv → y ∈ sv → (lcX x y = 0 ↔ x = y))
    (hcall : ∀ X y, Grows w X → y ∈ sv → Calls Tryz.prog F (#[.agg #[.int .i64 y.k, .int .i64 y.n, .string y.t]] ++ cs) X fun e w' => e = .returned (.tuple #[.int .i64 (ra y), .int .i64 (rb y)]) ∧ Grows X w') :
    Calls Tryz.prog 47 #[v, .func (.func F) #[] cs] w fun e w' => ∃ f r, e = .returned (.tuple #[f, r]) ∧ FR w w' f r (fenF sv) (rkF ra rb (fenF sv)) := by
  have HV := hidden (fun X (h : Grows w X) => hv.grow h)
  obtain ⟨A, c, rfl, -⟩ := id hv
  by_cases hnil : sv = []
  · subst hnil
    clear hv heq hcall HV
    go_enter Tryz.func47, Tryz.ntmps47
    go_wp2_with fail
    go_ret2
    exact ⟨_, _, rfl, FR.nil w⟩
  · have HNE := hidden hnil
    have HEQ := hidden heq
    have HCALL := hidden hcall
    have HIF := hidden (fenF_ne hnil)
    have hlp : 0 < sv.length := List.length_pos_iff.2 hnil
    obtain ⟨n, hn⟩ : ∃ n, n = sv.length := ⟨_, rfl⟩
    have HN := hidden hn
    obtain ⟨n1, hn1⟩ : ∃ n1, n1 = n - 1 := ⟨_, rfl⟩
    have HN1 := hidden hn1
    have hi1 : (n : Int) - 1 = (n1 : Int) := by omega
    have hz : ((n : Int) == 0) = false := beq_eq_false_iff_ne.2 (by omega)
    have hz2 : (n == 0) = false := beq_eq_false_iff_ne.2 (by omega)
    have HL := hidden (show n ≤ 1000000 by omega)
    rw [← hn]
    clear hv heq hcall hnil hlp hl hn hn1
    go_enter Tryz.func47, Tryz.ntmps47
    go_wp2_with fail
    clear hz hz2
    go_loopw [4, 5, 6, 7, 8, 9, 13] (fun f r _ _ _ _ i wr => ChRel w ra rb sv f r i wr) (fun _ _ _ _ _ _ i _ => 17 - (intOf i).toNat)
    case atStart => exact ⟨0, by omega, rfl, FR.nil w⟩
    case round =>
      obtain ⟨k, hk, rfl, hst⟩ := hrel
      have HS := hidden hst
      clear hst
      by_cases hlt : k < 17
      · have HLT := hidden hlt
        have hd : decide (k < 17) = true := by simpa using hlt
        have hd2 : decide ((k : Int) < 17) = true := by simp; omega
        obtain ⟨P, hP⟩ : ∃ P, P = k * n1 := ⟨_, rfl⟩
        have hPl : P ≤ 16 * 1000000 := by rw [hP]; exact Nat.mul_le_mul (by omega) (by have := HL.out; have := HN1.out; omega)
        have hw1 : wrap64 ((k : Int) * (n1 : Int)) = (P : Int) := by rw [show (k : Int) * (n1 : Int) = (P : Int) by rw [hP]; push_cast; rfl]; unfold wrap64; omega
        obtain ⟨m, hm⟩ : ∃ m, m = P / 16 := ⟨_, rfl⟩
        have hm1 : (P : Int).tdiv 16 = (m : Int) := by rw [Int.tdiv_eq_ediv_of_nonneg (by omega)]; omega
        have hw2 : wrap64 (n1 : Int) = (n1 : Int) := by have := HL.out; have := HN1.out; unfold wrap64; omega
        have hw3 : wrap64 (m : Int) = (m : Int) := by unfold wrap64; omega
        have HWF := hidden (And.intro hw1 (And.intro hw2 (And.intro hw3 hm1)))
        clear hw1 hw2 hw3 hm1
        have hml : m < sv.length := by
          have := nthF_lt HNE.out (i := k) (by omega)
          rw [← HN.out, ← HN1.out, ← hP, ← hm] at this
          rw [← HN.out]; exact this
        have hget : sv[m]? = some (nthF sv k) := by
          have := nthF_get HNE.out (i := k) (by omega)
          rw [← HN.out, ← HN1.out, ← hP, ← hm] at this
          exact this
        have HMEM := hidden (nthF_mem HNE.out (i := k) (by omega))
        have HSAME := hidden (fun h => chF_same (sv := sv) (i := k) h)
        have HNEW := hidden (fun h => chF_new (sv := sv) (i := k) h)
        have hm0 : (0 : Int) ≤ (m : Int) := by omega
        have hm2 : (m : Int) < (n : Int) := by have := HN.out; omega
        obtain ⟨x, hx⟩ : ∃ x, x = nthF sv k := ⟨_, rfl⟩
        rw [← hx] at hget HMEM HSAME HNEW
        obtain ⟨A', c', he, _, hcell⟩ := HV.out wr HS.out.grows
        injection he with e1 e2 e3
        subst e1 e3
        obtain ⟨bb, off, rfl, hcell2⟩ := hcell (by omega)
        obtain ⟨a1, a2, a3⟩ := hcell2 m x hget
        have HG1 := hidden (show Grows wr (wr.alloc (.cells #[.int .i64 x.k, .int .i64 x.n, .string x.t] 35)) from growK _ _)
        have HR1 := hidden (Row.new wr 35 #[.int .i64 x.k, .int .i64 x.n, .string x.t] [.int .i64 x.k, .int .i64 x.n, .string x.t] rfl)
        have HX := hidden (fun X (h : Grows (wr.alloc (.cells #[.int .i64 x.k, .int .i64 x.n, .string x.t] 35)) X) => show X.cell? ⟨wr.heap.size, 0, none⟩ = some (.int .i64 x.k) ∧ X.cell? ⟨wr.heap.size, 1, none⟩ = some (.int .i64 x.n) ∧ X.cell? ⟨wr.heap.size, 2, none⟩ = some (.string x.t) from ⟨(HR1.out.grow h).cell 0, (HR1.out.grow h).cell 1, (HR1.out.grow h).cell 2⟩)
        have HCL := hidden (fun X (h : Grows w X) => HCALL.out X x h HMEM.out)
        clear hcell hcell2 e2 hget hm hP hPl hx hlt hk hml
        by_cases hk0 : k = 0
        · have hc0 : chF sv k = [] := by rw [hk0]; rfl
          have HC1 := hidden (show chF sv (k + 1) = ([] : List Val) ++ [x] by rw [HNEW.out (by rw [hc0]; simp), hc0])
          rw [hc0] at HS
          have HS0 := hidden (show FR w wr u4 u5 ([] : List Val) (rkF ra rb ([] : List Val)) from HS.out)
          have dkp : decide ((0 : Int) < (k : Int)) = false := decide_eq_false (by omega)
          have dkp2 : decide (0 < k) = false := decide_eq_false (by omega)
          clear HS HSAME HNEW hk0 hc0
          obtain ⟨hw1, hw2, hw3, hm1⟩ := HWF.out
          go_wp2_with fail
          clear hw1 hw2 hw3 hm1
          refine wp_region_loose (tabRs []) (by kernel_rfl) (by kernel_rfl) tabRs_nil ?_
          iterate 3 ((with_reducible refine loose_one (v := ?_) (a' := ?_) ?_ ?_ (fun w' hC' hG' => ?_) ?_ ?_); rotate_left 2; (focus rfl); (focus rfl); (focus (obtain ⟨x0, x1, x2⟩ := HX.out w' hC'; clear hC' hG'; go_simp; rfl)); (focus (go_simp; rfl)))
          iterate 8 ((with_reducible refine loose_skip (a' := ?_) ?_ ?_ ?_); rotate_left 1; (focus rfl); (focus (go_simp; rfl)))
          iterate 1 ((with_reducible refine loose_one (v := ?_) (a' := ?_) ?_ ?_ (fun w' hC' hG' => ?_) ?_ ?_); rotate_left 2; (focus rfl); (focus rfl); (focus (obtain ⟨x0, x1, x2⟩ := HX.out w' hC'; clear hC' hG'; go_simp; rfl)); (focus (go_simp; rfl)))
          refine loose_done (fun w5 hC5 hG5 => ?_)
          have HG5 := hidden hC5
          have HS5 := hidden (HS0.out.grow (HG1.out.of_below hC5))
          obtain ⟨x0, x1, x2⟩ := HX.out w5 hC5
          clear hC5 hG5
          have hkb : k < 17 := HLT.out
          go_wp2_with (first
            | (refine (HCL.out _ HS5.out.grows).mono ?_; rintro e w6 ⟨rfl, g6⟩; have HS6 := hidden (HS5.out.grow g6); obtain ⟨z0, z1, z2⟩ := HX.out w6 (HG5.out.of_below g6); clear g6)
            | (at_builtin; (refine wpList_append_valO rfl _ _ rfl _ (([] : List Val)) rfl w.heap.size HS6.out.own1 HS6.out.grows.size x w6.heap.size rfl rfl (by simp) ?_); intro f' w7 hown7 ho7 _; have HS7 := hidden (HS6.out.val ho7 hown7); clear hown7 ho7)
            | (at_builtin; (refine wpList_append_rowsO rfl _ _ 27 rfl 3 (.int .i64 0) 8 Tryz.underlying27 info_int16 rfl u5 (rkF ra rb ([] : List Val)).length (icells (rkF ra rb ([] : List Val))) (by rfl) (ownsRow_grow HS7.out.own2 (growK _ _)) (HS7.out.grow (growK _ _)).grows.size (.slice (some ⟨w7.heap.size, 0, none⟩) 2 2) [.int .i64 (ra x), .int .i64 (rb x)] (by rfl) (two_reads w7 (ra x) (rb x)) (by intro z hz; simp at hz; rcases hz with rfl | rfl <;> rfl) (by simp [rkF]) (by simp [rkF]) ?_); intro r' w8 hown8 ho8; have HS8 := hidden ((HS7.out.grow (growK _ _)).int (m' := rkF ra rb ([] : List Val) ++ [ra x, rb x]) ho8 (by have h := hown8; rwa [show (rkF ra rb ([] : List Val)).length + ([.int .i64 (ra x), .int .i64 (rb x)] : List Value).length = (rkF ra rb ([] : List Val) ++ [ra x, rb x]).length by simp, show icells (rkF ra rb ([] : List Val)) ++ [.int .i64 (ra x), .int .i64 (rb x)] = icells (rkF ra rb ([] : List Val) ++ [ra x, rb x]) by simp [icells]] at h)); clear hown8 ho8))
          go_roundw
          case rel => exact ⟨k + 1, by have := HLT.out; omega, by go_num, by rw [HC1.out, rkF_snoc]; exact HS8.out⟩
          case measure => have := HLT.out; simp [intOf]; omega
        · have hex : ∃ l0 y, chF sv k = l0 ++ [y] := by
            have hne := chF_pos sv k (by omega)
            exact ⟨_, _, (List.dropLast_concat_getLast hne).symm⟩
          obtain ⟨l0, y, hly⟩ := hex
          have HYM := hidden (show y ∈ sv from chF_mem HNE.out (i := k) (by have := HLT.out; omega) y (by rw [hly]; simp))
          have HSAME2 := hidden (fun h : y = x => HSAME.out (by rw [hly, List.getLast?_concat, h]))
          have HNEW2 := hidden (fun h : ¬ y = x => HNEW.out (by rw [hly, List.getLast?_concat]; intro e; injection e with e; exact h e))
          rw [hly] at HS HSAME2 HNEW2
          have hll : l0.length ≤ 17 := by have := chF_length sv k; rw [hly, List.length_append] at this; have := HLT.out; omega
          have HLL := hidden hll
          obtain ⟨g, cap, rfl, hgb, hgl, hgc⟩ := own_some HS.out.own1 (by simp)
          have hL1 : (l0 ++ [y]).length = l0.length + 1 := by simp
          obtain ⟨q, hq⟩ : ∃ q, l0.length = q := ⟨_, rfl⟩
          have HXY := hidden (fun X (h : Grows (wr.alloc (.cells #[.int .i64 x.k, .int .i64 x.n, .string x.t] 35)) X) => And.intro (HX.out X h) (own_val_cells (j := q) (x := y) (HS.out.grow (HG1.out.of_below h)).own1 (by rw [← hq, List.getElem?_append_right (Nat.le_refl _)]; simp)))
          obtain ⟨be, hbe⟩ : ∃ be, (lcX x y == 0) = be := ⟨_, rfl⟩
          have HBE := hidden hbe
          have HEC := hidden (fun W => const_loose16 (show Calls Tryz.prog 64 #[.agg #[.int .i64 x.k, .int .i64 x.n, .string x.t], .agg #[.int .i64 y.k, .int .i64 y.n, .string y.t]] W fun e w' => e = .returned (.bool be) ∧ Grows W w' by rw [← hbe]; exact lequalX_any x y W))
          have HQ := hidden hq
          have HQL := hidden (show q ≤ 17 by omega)
          have HK0 := hidden hk0
          have hkp : (0 : Int) < (k : Int) := by omega
          have dkp : decide ((0 : Int) < (k : Int)) = true := decide_eq_true hkp
          have dkp2 : decide (0 < k) = true := decide_eq_true (by omega)
          have hwq : IntKind.i64.wrap (q : Int) = (q : Int) := by rw [IntKind.wrap_i64]; omega
          have hwq1 : IntKind.i64.wrap ((q : Int) + 1 - 1) = (q : Int) := by rw [IntKind.wrap_i64]; omega
          have hq0 : (0 : Int) ≤ (q : Int) := by omega
          have hq1 : (q : Int) < (q : Int) + 1 := by omega
          rw [hL1, hq] at HS ⊢
          clear hly hbe hk0 hgb hgl hgc hll hL1
          obtain ⟨hw1, hw2, hw3, hm1⟩ := HWF.out
          clear hwq hwq1
          go_wp2_with fail
          clear hw1 hw2 hw3 hm1
          have hwq : IntKind.i64.wrap (q : Int) = (q : Int) := by rw [IntKind.wrap_i64]; have := HQL.out; omega
          have hwq1 : IntKind.i64.wrap ((q : Int) + 1 - 1) = (q : Int) := by rw [IntKind.wrap_i64]; have := HQL.out; omega
          refine wp_region_loose (tabRs [(10, ConstV (.bool be))]) (by kernel_rfl) (by kernel_rfl) (tabRs_cons ConstV.lasts tabRs_nil) ?_
          iterate 10 ((with_reducible refine loose_one (v := ?_) (a' := ?_) ?_ ?_ (fun w' hC' hG' => ?_) ?_ ?_); rotate_left 2; (focus rfl); (focus rfl); (focus (obtain ⟨⟨x0, x1, x2⟩, ⟨y0, y1, y2⟩⟩ := HXY.out w' hC'; clear hC' hG'; go_simp; rfl)); (focus (go_simp; rfl)))
          refine loose_call (R := ConstV (.bool be)) (f := 64) (args := #[.agg #[.int .i64 x.k, .int .i64 x.n, .string x.t], .agg #[.int .i64 y.k, .int .i64 y.n, .string y.t]]) (by rfl) (by rfl) (fun _ => by go_simp) (fun w' hC' hG' => HEC.out w') ?_
          rintro _ ⟨_, _, rfl⟩
          refine ⟨?_, ?_, ?_⟩
          rotate_left
          · go_simp
            rfl
          iterate 1 ((with_reducible refine loose_one (v := ?_) (a' := ?_) ?_ ?_ (fun w' hC' hG' => ?_) ?_ ?_); rotate_left 2; (focus rfl); (focus rfl); (focus (obtain ⟨⟨x0, x1, x2⟩, ⟨y0, y1, y2⟩⟩ := HXY.out w' hC'; clear hC' hG'; go_simp; rfl)); (focus (go_simp; rfl)))
          refine loose_done (fun w5 hC5 hG5 => ?_)
          have HG5 := hidden hC5
          have HS5 := hidden (HS.out.grow (HG1.out.of_below hC5))
          obtain ⟨x0, x1, x2⟩ := HX.out w5 hC5
          have hkb : k < 17 := HLT.out
          clear hC5 hG5 hwq hwq1 hkp dkp dkp2 hq0 hq1
          by_cases hyx : y = x
          · have hbt : be = true := by rw [← HBE.out]; exact beq_iff_eq.2 ((HEQ.out x y HMEM.out HYM.out).2 hyx.symm)
            subst hbt
            have HC1 := hidden (HSAME2.out hyx)
            clear hyx
            go_wp2_with fail
            go_roundw
            case rel => exact ⟨k + 1, by have := HLT.out; omega, by go_num, by rw [HC1.out]; exact HS5.out⟩
            case measure => have := HLT.out; simp [intOf]; omega
          · have hbt : be = false := by rw [← HBE.out]; exact beq_eq_false_iff_ne.2 (fun e => hyx ((HEQ.out x y HMEM.out HYM.out).1 e).symm)
            subst hbt
            have HC1 := hidden (HNEW2.out hyx)
            clear hyx
            go_wp2_with (first
              | (refine (HCL.out _ HS5.out.grows).mono ?_; rintro e w6 ⟨rfl, g6⟩; have HS6 := hidden (HS5.out.grow g6); obtain ⟨z0, z1, z2⟩ := HX.out w6 (HG5.out.of_below g6); clear g6)
              | (at_builtin; (refine wpList_append_valO rfl _ _ rfl _ (l0 ++ [y]) rfl w.heap.size HS6.out.own1 HS6.out.grows.size x w6.heap.size rfl rfl (by have := HLL.out; have := HQ.out; simp; omega) ?_); intro f' w7 hown7 ho7 _; have HS7 := hidden (HS6.out.val ho7 hown7); clear hown7 ho7)
              | (at_builtin; (refine wpList_append_rowsO rfl _ _ 27 rfl 3 (.int .i64 0) 8 Tryz.underlying27 info_int16 rfl u5 (rkF ra rb (l0 ++ [y])).length (icells (rkF ra rb (l0 ++ [y]))) (by rfl) (ownsRow_grow HS7.out.own2 (growK _ _)) (HS7.out.grow (growK _ _)).grows.size (.slice (some ⟨w7.heap.size, 0, none⟩) 2 2) [.int .i64 (ra x), .int .i64 (rb x)] (by rfl) (two_reads w7 (ra x) (rb x)) (by intro z hz; simp at hz; rcases hz with rfl | rfl <;> rfl) (by rw [rkF_length]; have := HLL.out; have := HQ.out; simp; omega) (by rw [rkF_length]; have := HLL.out; have := HQ.out; simp; omega) ?_); intro r' w8 hown8 ho8; have HS8 := hidden ((HS7.out.grow (growK _ _)).int (m' := rkF ra rb (l0 ++ [y]) ++ [ra x, rb x]) ho8 (by have h := hown8; rwa [show (rkF ra rb (l0 ++ [y])).length + ([.int .i64 (ra x), .int .i64 (rb x)] : List Value).length = (rkF ra rb (l0 ++ [y]) ++ [ra x, rb x]).length by simp, show icells (rkF ra rb (l0 ++ [y])) ++ [.int .i64 (ra x), .int .i64 (rb x)] = icells (rkF ra rb (l0 ++ [y]) ++ [ra x, rb x]) by simp [icells]] at h)); clear hown8 ho8))
            go_roundw
            case rel => exact ⟨k + 1, by have := HLT.out; omega, by go_num, by rw [HC1.out, rkF_snoc]; exact HS8.out⟩
            case measure => have := HLT.out; simp [intOf]; omega
      · have hke : k = 17 := by omega
        subst hke
        have hd : decide (17 < 17) = false := by decide
        have hd2 : decide ((17 : Int) < 17) = false := by decide
        clear hlt hk
        go_wp2_with fail
        go_ret2
        rw [HIF.out]
        exact ⟨_, _, rfl, HS.out⟩
end Go.Proofs.YtoaklmceejeblaaGreat
