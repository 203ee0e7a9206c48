/-
  Texts that the claims of this seat share, put together (EnF, EnG, Eh1, Eh2, Eh3, Eh4, Eh5, EnT, EnR, EwR). No condition.
-/
import Derived.Test.YthmipnokimlbdaaGreatM20
import Derived.Test.YthmipnokimlbdaaGreatM23
import Derived.Test.YthmipnokimlbdaaGreatM14
import Derived.Test.YthmipnokimlbdaaGreatM17
import Derived.Test.YthmipnokimlbdaaGreatM9
/-
  Shaken: what the claims of this seat need of this text. No condition.
-/
namespace Go.Proofs.YthmipnokimlbdaaGreat
set_option maxRecDepth 8000
open Go.RowKit
set_option linter.unusedVariables false
set_option linter.unusedSimpArgs false
abbrev Vl := Int × Int × ByteArray
abbrev Vl.v (a : Vl) : Value := .agg #[.int .i64 a.1, .int .i64 a.2.1, .string a.2.2]
abbrev prV (col op : Int) (b : Vl) : Value := .agg #[.int .i64 col, .int .i64 op, .int .i64 b.1, .int .i64 b.2.1, .string b.2.2]
def atVec (v : Vec) (i : Nat) : Vl := if v.T = 3 then (3, 0, strOf (v.ts.getD i [])) else (v.T, v.is.getD i 0, ⟨#[]⟩)
def lenE (v : Vec) : Nat := if v.T = 3 then v.ts.length else v.is.length
def okOp (op : Int) : Bool := (decide (1 ≤ op) && decide (op ≤ 6)) || decide (op = 20) || decide (op = 21)
def lhold (op : Int) (a b : Vl) : Bool := if op = 20 then false else if op = 21 then true else if a.1 = 0 ∨ a.1 ≠ b.1 ∨ op < 1 ∨ 6 < op then false else holdsV op (lcmpV a.1 a.2.1 a.2.2 b.1 b.2.1 b.2.2)
theorem evalidOp_any (op : Int) (w : World) : Calls Tryz.prog 43 #[.int .i64 op] w fun e w' => e = .returned (.bool (okOp op)) ∧ w = w' := by
  obtain ⟨b, hb⟩ : ∃ b, b = okOp op := ⟨_, rfl⟩
  rw [← hb]
  unfold okOp at hb
  by_cases h20 : op = 20
  · subst h20
    have HB := hidden hb
    clear hb
    go_enter Tryz.func43, Tryz.ntmps43
    go_wp2_with fail
    go_ret
    exact ⟨retB1 HB.out.symm, rfl⟩
  by_cases h21 : op = 21
  · subst h21
    have HB := hidden hb
    clear hb h20
    go_enter Tryz.func43, Tryz.ntmps43
    go_wp2_with fail
    go_ret
    exact ⟨retB1 HB.out.symm, rfl⟩
  have e20 : (op == 20) = false := by simpa using h20
  have e21 : (op == 21) = false := by simpa using h21
  have HB := hidden (show b = (decide (1 ≤ op) && decide (op ≤ 6)) by rw [hb]; simp [h20, h21])
  clear hb h20 h21
  by_cases h1 : 1 ≤ op
  · have e1 : decide (1 ≤ op) = true := by simpa using h1
    by_cases h6 : op ≤ 6
    · have e6 : decide (op ≤ 6) = true := by simpa using h6
      have HC := hidden (show b = true by rw [HB.out, e1, e6]; rfl)
      clear h1 h6
      go_enter Tryz.func43, Tryz.ntmps43
      go_wp2_with fail
      go_ret
      exact ⟨retB1 HC.out.symm, rfl⟩
    · have e6 : decide (op ≤ 6) = false := by simpa using h6
      have HC := hidden (show b = false by rw [HB.out, e1, e6]; rfl)
      clear h1 h6
      go_enter Tryz.func43, Tryz.ntmps43
      go_wp2_with fail
      go_ret
      exact ⟨retB1 HC.out.symm, rfl⟩
  · have e1 : decide (1 ≤ op) = false := by simpa using h1
    have HC := hidden (show b = false by rw [HB.out, e1]; rfl)
    clear h1
    go_enter Tryz.func43, Tryz.ntmps43
    go_wp2_with fail
    go_ret
    exact ⟨retB1 HC.out.symm, rfl⟩
set_option maxHeartbeats 4000000 in
theorem eat_any (x : Value) (v : Vec) (i : Nat) (w : World) (hx : IsV w x v) (hi : i < lenE v) (hl : lenE v ≤ 1000000) :
    Calls Tryz.prog 45 #[x, .int .i64 (i : Int)] w fun e w' => e = .returned (Vl.v (atVec v i)) ∧ Grows w w' := by
  obtain ⟨T, is, ts, ns⟩ := v
  obtain ⟨a1, a2, a3, rfl, j1, j2, j3⟩ := hx
  dsimp only at *
  obtain ⟨A1, c1, rfl⟩ := j1.slice_
  obtain ⟨A2, c2, rfl⟩ := j2.slice_
  obtain ⟨A3, c3, rfl⟩ := j3.slice_
  have HG2 := hidden ((growB w (.cells #[.int .i64 T, .slice A1 is.length c1, .slice A2 ts.length c2, .slice A3 ns.length c3] 26)).of_below (growB _ (.cells #[.int .i64 0, .int .i64 0, .string ⟨#[]⟩] 48)))
  have HR := hidden (Row.at_ (w.alloc (.cells #[.int .i64 T, .slice A1 is.length c1, .slice A2 ts.length c2, .slice A3 ns.length c3] 26)) 48 #[.int .i64 0, .int .i64 0, .string ⟨#[]⟩] [.int .i64 0, .int .i64 0, .string ⟨#[]⟩] rfl (w.heap.size + 1) (by rw [World.size_alloc]))
  have HRW : Hid (((w.alloc (.cells #[.int .i64 T, .slice A1 is.length c1, .slice A2 ts.length c2, .slice A3 ns.length c3] 26)).alloc (.cells #[.int .i64 0, .int .i64 0, .string ⟨#[]⟩] 48)).heap[w.heap.size + 1]? = some (.cells #[.int .i64 0, .int .i64 0, .string ⟨#[]⟩] 48 (0, 0))) := HR.out
  by_cases hT : T = 3
  · subst hT
    have hi' : i < ts.length := hi
    have hl' : ts.length ≤ 1000000 := hl
    obtain ⟨b, f, rfl, hck⟩ := (j2.grow HG2.out).at_ hi'
    have HE := hidden (show atVec ⟨3, is, ts, ns⟩ i = (3, 0, strOf ts[i]) by unfold atVec; rw [if_pos rfl]; simp only [List.getD_eq_getElem?_getD, List.getElem?_eq_getElem hi']; rfl)
    have HRS := hidden (fun s => Row.setRow_ HR.out [.int .i64 3, .int .i64 0, .string s] rfl)
    generalize strOf ts[i] = s at *
    clear j1 j2 j3 hi hl
    go_enter Tryz.func45, Tryz.ntmps45
    go_wp2_with (refine wpList_store_row rfl _ _ _ rfl _ _ rfl rfl _ _ HRW.out size_val rfl (by simp [Value.oneCell']) ?_)
    exact bodyPost_ret (results_val rfl _ _ _ _ _ _ rfl (HRS.out _)) rfl ⟨by rw [HE.out], below_setRow HG2.out (by omega) _⟩
  · have hi' : i < is.length := by unfold lenE at hi; rwa [if_neg hT] at hi
    have hl' : is.length ≤ 1000000 := by unfold lenE at hl; rwa [if_neg hT] at hl
    obtain ⟨b, f, rfl, hck⟩ := (j1.grow HG2.out).at_ hi'
    have HE := hidden (show atVec ⟨T, is, ts, ns⟩ i = (T, is[i], ⟨#[]⟩) by unfold atVec; rw [if_neg hT]; simp only [List.getD_eq_getElem?_getD, List.getElem?_eq_getElem hi']; rfl)
    have eT : (T == 3) = false := by simpa using hT
    have HRS := hidden (fun n => Row.setRow_ HR.out [.int .i64 T, .int .i64 n, .string ⟨#[]⟩] rfl)
    generalize is[i] = n at *
    clear j1 j2 j3 hi hl hT
    go_enter Tryz.func45, Tryz.ntmps45
    go_wp2_with fail
    go_region
    have HGQ := hidden (drawn_grows ((growB w (.cells #[.int .i64 T, .slice (some ⟨b, f, none⟩) is.length c1, .slice A2 ts.length c2, .slice A3 ns.length c3] 26)).of_below (growB _ (.cells #[.int .i64 T, .int .i64 n, .string ⟨#[]⟩] 48))))
    have HRQ := hidden (show Row ((w.alloc (.cells #[.int .i64 T, .slice (some ⟨b, f, none⟩) is.length c1, .slice A2 ts.length c2, .slice A3 ns.length c3] 26)).alloc (.cells #[.int .i64 T, .int .i64 n, .string ⟨#[]⟩] 48)).drew (w.heap.size + 1) 48 [.int .i64 T, .int .i64 n, .string ⟨#[]⟩] from Row.at_ (w.alloc (.cells #[.int .i64 T, .slice (some ⟨b, f, none⟩) is.length c1, .slice A2 ts.length c2, .slice A3 ns.length c3] 26)) 48 #[.int .i64 T, .int .i64 n, .string ⟨#[]⟩] _ rfl (w.heap.size + 1) (by rw [World.size_alloc]))
    go_wp2_with fail
    exact bodyPost_ret (results_val rfl _ _ _ _ _ _ rfl HRQ.out) rfl ⟨by rw [HE.out], HGQ.out⟩
set_option maxHeartbeats 4000000 in
theorem eholds_any (col op : Int) (a b : Vl) (w : World) : Calls Tryz.prog 44 #[prV col op b, Vl.v a] w fun e w' => e = .returned (.bool (lhold op a b)) ∧ Grows w w' := by
  obtain ⟨k, n, t⟩ := a
  obtain ⟨k', n', t'⟩ := b
  simp only [Vl.v, prV]
  have HG2 := hidden ((growB w (.cells #[.int .i64 col, .int .i64 op, .int .i64 k', .int .i64 n', .string t'] 50)).of_below (growB _ (.cells #[.int .i64 k, .int .i64 n, .string t] 48)))
  by_cases h20 : op = 20
  · subst h20
    have HE := hidden (show lhold 20 (k, n, t) (k', n', t') = false from if_pos rfl)
    go_enter Tryz.func44, Tryz.ntmps44
    go_wp2_with fail
    go_ret
    exact ⟨retB1 HE.out.symm, HG2.out⟩
  by_cases h21 : op = 21
  · subst h21
    have HE := hidden (show lhold 21 (k, n, t) (k', n', t') = true from rfl)
    clear h20
    go_enter Tryz.func44, Tryz.ntmps44
    go_wp2_with fail
    go_ret
    exact ⟨retB1 HE.out.symm, HG2.out⟩
  have e20 : (op == 20) = false := by simpa using h20
  have e21 : (op == 21) = false := by simpa using h21
  have HT := hidden (fun W => ltest_any op k n k' n' t t' W)
  have HX : (ltestV op k n t k' n' t' = nullV ∧ lhold op (k, n, t) (k', n', t') = false) ∨ (ltestV op k n t k' n' t' = .agg #[.int .i64 1, .int .i64 1, .string ⟨#[]⟩] ∧ lhold op (k, n, t) (k', n', t') = true) ∨ (ltestV op k n t k' n' t' = .agg #[.int .i64 1, .int .i64 0, .string ⟨#[]⟩] ∧ lhold op (k, n, t) (k', n', t') = false) := by
    unfold lhold ltestV
    rw [if_neg h20, if_neg h21]
    dsimp only
    by_cases hc : k = 0 ∨ k ≠ k' ∨ op < 1 ∨ 6 < op
    · rw [if_pos hc, if_pos hc]; exact .inl ⟨rfl, rfl⟩
    · rw [if_neg hc, if_neg hc]
      cases holdsV op (lcmpV k n t k' n' t')
      · exact .inr (.inr ⟨rfl, rfl⟩)
      · exact .inr (.inl ⟨rfl, rfl⟩)
  clear h20 h21
  rcases HX with ⟨hv, hr⟩ | ⟨hv, hr⟩ | ⟨hv, hr⟩
  all_goals
    rw [hv] at HT
    have HR := hidden hr
    clear hv hr
    try unfold nullV at HT
    go_enter Tryz.func44, Tryz.ntmps44
    go_wp2_with ((go_at_call 71; refine (HT.out _).mono ?_; rintro e w3 ⟨rfl, g3⟩; have HG3 := hidden (HG2.out.of_below g3); clear g3))
    go_ret
    exact ⟨retB1 HR.out.symm, HG3.out⟩
end Go.Proofs.YthmipnokimlbdaaGreat
/-
  Shaken: what the claims of this seat need of this text. No condition.
-/
namespace Go.Proofs.YthmipnokimlbdaaGreat
set_option maxRecDepth 8000
open Go.RowKit
set_option linter.unusedVariables false
set_option linter.unusedSimpArgs false
def filtF (b : List UInt8) (T n op : Int) (bv : Vl) : (Int × List UInt64) × Int :=
  if okOp op = false then ((0, []), 1) else if (decF b T n).2.2 ≠ 0 then ((0, []), (decF b T n).2.2) else ((n, pack n.toNat fun i => lhold op (atVec (decF b T n).1 i) bv), 0)
theorem filtF_a {b : List UInt8} {T n op : Int} {bv : Vl} (h : okOp op = false) : filtF b T n op bv = ((0, []), 1) := by unfold filtF; rw [if_pos h]
theorem filtF_e {b : List UInt8} {T n op : Int} {bv : Vl} (h : okOp op = true) {v : Vec} {q f : Int} (hd : decF b T n = (v, q, f)) (hf : f ≠ 0) : filtF b T n op bv = ((0, []), f) := by
  have h' : ¬ okOp op = false := by rw [h]; simp
  unfold filtF
  rw [if_neg h', hd, if_pos hf]
theorem filtF_ok {b : List UInt8} {T op : Int} {N : Nat} {bv : Vl} (h : okOp op = true) {v : Vec} {q : Int} (hd : decF b T N = (v, q, 0)) : filtF b T N op bv = (((N : Int), pack N fun i => lhold op (atVec v i) bv), 0) := by
  have h' : ¬ okOp op = false := by rw [h]; simp
  unfold filtF
  rw [if_neg h', hd, if_neg (fun h => h rfl), Int.toNat_natCast]
def FilR (r : (Int × List UInt64) × Int) (w : World) (e : Ending) (w' : World) : Prop := ∃ x, e = .returned (.tuple #[x, .int .i64 r.2]) ∧ IsPair w' x r.1.1 r.1.2 ∧ Grows w w'
theorem FilR.no {r : (Int × List UInt64) × Int} {f : Int} {w w' : World} (h : r = ((0, []), f)) (hg : Grows w w') : FilR r w (.returned (.tuple #[.agg #[.int .i64 0, .slice none 0 0], .int .i64 f])) w' := by
  subst h
  exact ⟨_, rfl, ⟨_, rfl, Reads.nil_ _ 0, by simp⟩, hg⟩
theorem results_fil {fn : Func} {p q : Tmp} (h : fn.results = #[.cell p 54, .tmp q]) (tmps : Array Value) (w : World) (g : Nat) (a b x : Value) (hp : tmps.getD p undef = .pointer (some ⟨g, 0, none⟩)) (hg : Row w g 54 [a, b])
    (hx : tmps.getD q undef = x) : (results fn tmps).run Tryz.prog w = .ok (.tuple #[.agg #[a, b], x]) w := by
  have hp' : tmps[p]?.getD undef = .pointer (some ⟨g, 0, none⟩) := by simpa using hp
  have hx' : tmps[q]?.getD undef = x := by simpa using hx
  simp [results, h, hp', hx', asAddr, run_loadVar_row w g 54 54 #[a, b] (0, 0) _ hg Tryz.underlying54 rfl size_set]
theorem wpList_store_bs {wr : World} {ops : Array Oper} {rest : List Oper} {o : Oper} {a : Act} {Q : Exit → Act → World → Prop} (hgd : o.guard = none) (x y : Operand) (ho : o.op = .store 54 x y)
    (w0 : World) (hw : wr = w0.alloc (.cells #[.int .i64 0, .slice none 0 0] 54)) (hx : a.eval x = ptV w0.heap.size) (t : Int) (A : Option Addr) (n c : Nat) (hy : a.eval y = .agg #[.int .i64 t, .slice A n c])
    (h : ∀ W, Row W w0.heap.size 54 [.int .i64 t, .slice A n c] → Grows w0 W → wpList Tryz.prog ops Q rest (a.put o.dst undef) W) : wpList Tryz.prog ops Q (o :: rest) a wr := by
  subst hw
  have hr := Row.new w0 54 #[.int .i64 0, .slice none 0 0] [.int .i64 0, .slice none 0 0] rfl
  exact wpList_store_row hgd _ x y ho w0.heap.size #[.int .i64 t, .slice A n c] hx hy _ _ hr size_set rfl (by simp [Value.oneCell']) (h _ (Row.setRow_ hr [.int .i64 t, .slice A n c] rfl) (below_setRow (growB _ _) (Nat.le_refl _) _))
def FiltRel (w w5 : World) (N gk : Nat) (h : Nat → Bool) (i : Value) (wr : World) : Prop :=
  ∃ k : Nat, k ≤ N ∧ i = .int .i64 (k : Int) ∧ Row wr w5.heap.size 85 (ucells (pack N (upto h k))) ∧ Row wr gk 54 [.int .i64 (N : Int), .slice (some ⟨w5.heap.size, 0, none⟩) (nw N) (nw N)] ∧ Grows w5 wr
theorem ucells_zero (N : Nat) (h : Nat → Bool) : (List.replicate (nw N) (Value.int .u64 0)) = ucells (pack N (upto h 0)) := by
  apply List.ext_getElem?
  intro j
  by_cases hj : j < nw N
  · rw [List.getElem?_replicate, if_pos hj, ucells, List.getElem?_map, pack_get hj]
    have : (wordOf fun j_1 => decide (64 * j + j_1 < N) && upto h 0 (64 * j + j_1)) = 0 := by
      apply word_ext
      intro i hi
      rw [wbit_wordOf]
      simp [upto, wbit]
    rw [this]
    rfl
  · rw [List.getElem?_replicate, if_neg hj, ucells, List.getElem?_map, List.getElem?_eq_none (by rw [pack_length]; omega)]
    rfl
set_option maxHeartbeats 16000000 in
theorem eFilter_any (A : Option Addr) (c : Nat) (b : List UInt8) (T n col op : Int) (bv : Vl) (w : World) (hb : IsBytes w (.slice A b.length c) b) (hlc : b.length ≤ c) (hl : b.length ≤ 1000000) :
    Calls Tryz.prog 22 #[.slice A b.length c, .int .i64 T, .int .i64 n, prV col op bv] w (FilR (filtF b T n op bv) w) := by
  obtain ⟨k', n', t'⟩ := bv
  simp only [prV]
  have HVO := hidden (fun W => evalidOp_any op W)
  have HDE := hidden (fun W (h : Grows w W) => eDecode_any A c b T n W (hb.grow h) hlc hl)
  have HG2 := hidden ((growB w (.cells #[.int .i64 col, .int .i64 op, .int .i64 k', .int .i64 n', .string t'] 50)).of_below (growB _ (.cells #[.int .i64 0, .slice none 0 0] 54)))
  have HP2 := hidden ((Row.new w 50 #[.int .i64 col, .int .i64 op, .int .i64 k', .int .i64 n', .string t'] [.int .i64 col, .int .i64 op, .int .i64 k', .int .i64 n', .string t'] rfl).grow (growB _ (.cells #[.int .i64 0, .slice none 0 0] 54)))
  have HR2 := hidden (Row.at_ (w.alloc (.cells #[.int .i64 col, .int .i64 op, .int .i64 k', .int .i64 n', .string t'] 50)) 54 #[.int .i64 0, .slice none 0 0] [.int .i64 0, .slice none 0 0] rfl (w.heap.size + 1) (by rw [World.size_alloc]))
  obtain ⟨o, ho⟩ : ∃ o, okOp op = o := ⟨_, rfl⟩
  rw [ho] at HVO
  cases o
  · have HE := hidden (show filtF b T n op (k', n', t') = ((0, []), 1) from filtF_a ho)
    have HRS := hidden (Row.setRow_ HR2.out [.int .i64 0, .slice none 0 0] rfl)
    clear ho hb
    go_enter Tryz.func22, Tryz.ntmps22
    go_wp2_with (first
      | (go_at_call 43; refine (HVO.out _).mono ?_; rintro e w2 ⟨rfl, rfl⟩)
      | (refine wpList_store_row rfl _ _ _ rfl _ #[.int .i64 0, .slice none 0 0] rfl rfl _ _ HR2.out size_set rfl (by simp [Value.oneCell']) ?_))
    exact bodyPost_ret (results_fil rfl _ _ _ _ _ (.int .i64 1) rfl HRS.out rfl) rfl (FilR.no HE.out (below_setRow HG2.out (by omega) _))
  obtain ⟨v, hv⟩ : ∃ v, (decF b T n).1 = v := ⟨_, rfl⟩
  obtain ⟨q, hq⟩ : ∃ q, (decF b T n).2.1 = q := ⟨_, rfl⟩
  obtain ⟨f, hf⟩ : ∃ f, (decF b T n).2.2 = f := ⟨_, rfl⟩
  have hD : decF b T n = (v, q, f) := by rw [← hv, ← hq, ← hf]
  rw [hD] at HDE
  by_cases hf0 : f = 0
  case neg =>
    have HE := hidden (show filtF b T n op (k', n', t') = ((0, []), f) from filtF_e ho hD hf0)
    have hne : (f != 0) = true := by simpa using hf0
    clear ho hb hv hq hf hD hf0
    go_enter Tryz.func22, Tryz.ntmps22
    go_wp2_with ((go_at_call 43; refine (HVO.out _).mono ?_; rintro e w2 ⟨rfl, rfl⟩))
    refine (HDE.out _ HG2.out).mono ?_
    rintro e w3 ⟨x, rfl, hx3, g3⟩
    obtain ⟨x1, x2, x3, rfl, j1, j2, j3⟩ := hx3
    obtain ⟨A1, c1, rfl⟩ := j1.slice_
    obtain ⟨A2, c2, rfl⟩ := j2.slice_
    obtain ⟨A3, c3, rfl⟩ := j3.slice_
    have HG3 := hidden (HG2.out.of_below g3)
    have HR3 := hidden (HR2.out.grow g3)
    clear j1 j2 j3 g3
    go_wp2_with (first
      | (refine wpList_store_vec rfl _ _ rfl w3 rfl rfl _ _ _ _ _ _ _ _ _ _ rfl ?_; intro w4 hr4 hg4; have HG4 := hidden (HG3.out.of_below hg4); have HR4 := hidden (HR3.out.grow hg4); have HRS := hidden (Row.setRow_ HR4.out [.int .i64 0, .slice none 0 0] rfl); clear hr4 hg4)
      | (refine wpList_store_row rfl _ _ _ rfl _ #[.int .i64 0, .slice none 0 0] rfl rfl _ _ HR4.out size_set rfl (by simp [Value.oneCell']) ?_))
    exact bodyPost_ret (results_fil rfl _ _ _ _ _ (.int .i64 f) rfl HRS.out rfl) rfl (FilR.no HE.out (below_setRow HG4.out (by omega) _))
  subst hf0
  obtain ⟨v', N, q', rfl, hD2, hvT, hvN, hen, hin⟩ := decF_ok hf
  rw [hD] at hD2
  injection hD2 with e1 e2
  subst e1
  clear e2
  obtain ⟨h, hh⟩ : ∃ h : Nat → Bool, h = fun i => lhold op (atVec v i) (k', n', t') := ⟨_, rfl⟩
  have HE := hidden (show filtF b T N op (k', n', t') = (((N : Int), pack N h), 0) by rw [hh]; exact filtF_ok ho hD)
  have hN6 : N ≤ 65536 := by rw [← hvN]; exact hen.len
  have HLV := hidden (show lenE v = N by
    unfold lenE
    split
    · rw [← hvN]; exact (hen.lt (by assumption)).1
    · rw [← hvN]; exact (hen.li (by assumption)).1)
  have HAT := hidden (fun (x : Value) (i : Nat) (W : World) (hx : IsV W x v) (hi : i < N) => eat_any x v i W hx (by rw [HLV.out]; exact hi) (by rw [HLV.out]; omega))
  have HHO := hidden (fun (i : Nat) (W : World) => eholds_any col op (atVec v i) (k', n', t') W)
  have HH := hidden (fun i => show lhold op (atVec v i) (k', n', t') = h i by rw [hh])
  have hmk := run_make_oneM (P := Tryz.prog) 52 85 (.int .u64 0) 8 Tryz.underlying52 info_u64 rfl (nw N) (by unfold nw; omega) (by unfold nw; omega)
  have hnw1 : ((N : Int) + 64 - 1) / 64 = (nw N : Int) := by unfold nw; omega
  clear ho hb hv hq hf hD hvT hvN hen hin hh
  go_enter Tryz.func22, Tryz.ntmps22
  go_wp2_with ((go_at_call 43; refine (HVO.out _).mono ?_; rintro e w2 ⟨rfl, rfl⟩))
  refine (HDE.out _ HG2.out).mono ?_
  rintro e w3 ⟨x, rfl, hx3, g3⟩
  have HX3 := hidden hx3
  obtain ⟨x1, x2, x3, rfl, j1, j2, j3⟩ := hx3
  obtain ⟨A1, c1, rfl⟩ := j1.slice_
  obtain ⟨A2, c2, rfl⟩ := j2.slice_
  obtain ⟨A3, c3, rfl⟩ := j3.slice_
  have HG3 := hidden (HG2.out.of_below g3)
  have HR3 := hidden (HR2.out.grow g3)
  have HP3 := hidden (HP2.out.grow g3)
  generalize v.T = T5 at *
  generalize v.is.length = n1 at *
  generalize v.ts.length = n2 at *
  generalize v.ns.length = n3 at *
  clear j1 j2 j3 g3
  go_wp2_with (refine wpList_store_vec rfl _ _ rfl w3 rfl rfl _ _ _ _ _ _ _ _ _ _ rfl ?_; intro w5 hr5 hg5; have HG5 := hidden (HG3.out.of_below hg5); have HR5 := hidden (HR3.out.grow hg5); have HP5 := hidden (HP3.out.grow hg5); have HX5 := hidden (HX3.out.grow hg5); have HV5 := hidden hr5; clear hr5 hg5)
  have HZ := hidden (ucells_zero N h)
  have HSZ5 := hidden HG5.out.size
  obtain ⟨gk, hgk⟩ : ∃ g, g = w5.heap.size + 1 := ⟨_, rfl⟩
  rw [← hgk]
  have HGK := hidden hgk
  have HW0 := hidden ((Row.new w5 85 (Array.replicate (nw N) (Value.int .u64 0)) (ucells (pack N (upto h 0))) (by rw [← HZ.out]; simp)).grow (growB _ (.cells #[.int .i64 (N : Int), .slice (some ⟨w5.heap.size, 0, none⟩) (nw N) (nw N)] 54)))
  have HK0 := hidden (Row.at_ (w5.alloc (.cells (Array.replicate (nw N) (Value.int .u64 0)) 85)) 54 #[.int .i64 (N : Int), .slice (some ⟨w5.heap.size, 0, none⟩) (nw N) (nw N)] [.int .i64 (N : Int), .slice (some ⟨w5.heap.size, 0, none⟩) (nw N) (nw N)] rfl gk (by rw [hgk, World.size_alloc]))
  have HG50 := hidden ((growB w5 (.cells (Array.replicate (nw N) (Value.int .u64 0)) 85)).of_below (growB _ (.cells #[.int .i64 (N : Int), .slice (some ⟨w5.heap.size, 0, none⟩) (nw N) (nw N)] 54)))
  clear hgk hmk hnw1
  go_loopw [14, 40] (fun u i wr => FiltRel w w5 N gk h i wr) (fun _ i _ => N - (intOf i).toNat)
  case atStart => exact ⟨0, by omega, rfl, HW0.out, HK0.out, HG50.out⟩
  case round =>
    obtain ⟨k, hk, rfl, hrow, hkrow, hbw⟩ := hrel
    have HR := hidden hrow
    have HK := hidden hkrow
    have HB := hidden hbw
    by_cases hlt : k < N
    · have HXK := hidden (HX5.out.grow hbw)
      have HPK := hidden (HP5.out.grow hbw)
      have HVK := hidden (HV5.out.grow hbw)
      have HAK := hidden (fun W (hW : Grows wr W) => HAT.out _ k W (HXK.out.grow hW) hlt)
      have HHK := hidden (fun W => HHO.out k W)
      rw [HH.out k] at HHK
      have HLT := hidden hlt
      obtain ⟨hb, hhb⟩ : ∃ b, h k = b := ⟨_, rfl⟩
      have HHB := hidden hhb
      rw [hhb] at HHK
      generalize atVec v k = av at *
      obtain ⟨ak, an, at'⟩ := av
      simp only [Vl.v, prV] at HAK HHK
      clear hrow hkrow hbw hhb
      go_wp2_with fail
      refine wp_region_loose (tabRs [(3, ConstV (.agg #[.int .i64 ak, .int .i64 an, .string at'])), (4, ConstV (.bool hb))]) (by kernel_rfl) (by kernel_rfl) (tabRs_cons ConstV.lasts (tabRs_cons ConstV.lasts tabRs_nil)) ?_
      iterate 1 ((with_reducible refine loose_one (v := ?_) (a' := ?_) ?_ ?_ (fun w' hC' hG' => ?_) ?_ ?_); rotate_left 2; (focus rfl); (focus rfl); (focus (have f0 := (HPK.out.grow hC').cell 0; have f1 := (HPK.out.grow hC').cell 1; have f2 := (HPK.out.grow hC').cell 2; have f3 := (HPK.out.grow hC').cell 3; have f4 := (HPK.out.grow hC').cell 4; simp only [List.getElem?_cons_succ, List.getElem?_cons_zero] at f0 f1 f2 f3 f4; clear hC' hG'; go_simp; rfl)); (focus (go_simp; rfl)))
      iterate 2 ((with_reducible refine loose_one (v := ?_) (a' := ?_) ?_ ?_ (fun w' hC' hG' => ?_) ?_ ?_); rotate_left 2; (focus rfl); (focus rfl); (focus (have f0 := (HVK.out.grow hC').cell 0; have f1 := (HVK.out.grow hC').cell 1; have f2 := (HVK.out.grow hC').cell 2; have f3 := (HVK.out.grow hC').cell 3; simp only [List.getElem?_cons_succ, List.getElem?_cons_zero] at f0 f1 f2 f3; clear hC' hG'; go_simp; rfl)); (focus (go_simp; rfl)))
      refine loose_call (R := ConstV (.agg #[.int .i64 ak, .int .i64 an, .string at'])) (f := 45) (args := #[.agg #[.int .i64 T5, .slice A1 n1 c1, .slice A2 n2 c2, .slice A3 n3 c3], .int .i64 (k : Int)]) (by rfl) (by rfl) (fun _ => by go_simp) (fun w' hC' hG' => const_loose (HAK.out w' hC')) ?_
      rintro _ ⟨_, _, rfl⟩
      refine ⟨?_, ?_, ?_⟩
      rotate_left
      · go_simp
        rfl
      refine loose_call (R := ConstV (.bool hb)) (f := 44) (args := #[.agg #[.int .i64 col, .int .i64 op, .int .i64 k', .int .i64 n', .string t'], .agg #[.int .i64 ak, .int .i64 an, .string at']]) (by rfl) (by rfl) (fun _ => by go_simp) (fun w' hC' hG' => const_loose (HHK.out w')) ?_
      rintro _ ⟨_, _, rfl⟩
      refine ⟨?_, ?_, ?_⟩
      rotate_left
      · go_simp
        rfl
      refine loose_done (fun w6 hC' hG' => ?_)
      have HB6 := hidden (HB.out.of_below hC')
      have HR6 := hidden (HR.out.grow hC')
      have HK6 := hidden (HK.out.grow hC')
      clear hG' hC'
      cases hb
      · have HM := hidden (bit_miss (n := N) HHB.out)
        go_wp2_with fail
        go_roundw
        case rel => exact ⟨k + 1, by omega, by go_num, by rw [← HM.out]; exact HR6.out, HK6.out, HB6.out⟩
        case measure => simp [intOf]; omega
      · have hkw : k / 64 < nw N := by unfold nw; omega
        have hkl : k / 64 < (pack N (upto h k)).length := by rw [pack_length]; exact hkw
        have cw := HR6.out.cell (k / 64)
        rw [ucells_get hkl] at cw
        have fw := HR6.out.frozen (k / 64)
        have ck := HK6.out.cell 1
        simp only [List.getElem?_cons_succ, List.getElem?_cons_zero] at ck
        have hps := pack_set (f := upto h k) HLT.out _ (List.getElem?_eq_getElem hkl)
        rw [bit_snoc HHB.out] at hps
        have r3 : Row w6.drew w5.heap.size 85 (ucells (pack N (upto h k))) := HR6.out.grow (Below.refl _ _).drew
        have r4 : Row w6.drew gk 54 [.int .i64 (N : Int), .slice (some ⟨w5.heap.size, 0, none⟩) (nw N) (nw N)] := HK6.out.grow (Below.refl _ _).drew
        have HSET := hidden (r3.set_ (k / 64) (.int .u64 ((UInt64.ofNat ((pack N (upto h k))[k / 64].toNat ||| 2 ^ (k % 64))).toNat : Int)))
        have HR4 := hidden r4
        have HPS := hidden hps
        have HO' := hidden (or_go' (x := (pack N (upto h k))[k / 64]) (j := k % 64) (by omega))
        have hxb : (pack N (upto h k))[k / 64].toNat < 18446744073709551616 := (pack N (upto h k))[k / 64].toNat_lt
        have HNG := hidden (show w5.heap.size ≠ gk by have := HGK.out; omega)
        clear hps r3 r4
        generalize (pack N (upto h k))[k / 64] = x at *
        have e64 : IntKind.i64.wrap ((k : Int) / 64) = (k : Int) / 64 := by rw [IntKind.wrap_i64]; omega
        have b0 : (0 : Int) ≤ (k : Int) / 64 := by omega
        have b1 : (k : Int) / 64 < (nw N : Int) := by omega
        have et : ((k : Int) / 64).toNat = k / 64 := by omega
        have hm0 : (0 : Int) ≤ (k : Int) % 64 := by omega
        have hmt : ((k : Int).tmod 64) = ((k % 64 : Nat) : Int) := by rw [Int.tmod_eq_emod_of_nonneg (by omega)]; omega
        have hm1 : ((k : Int) % 64).toNat = k % 64 := by omega
        go_wp2_with fail
        refine wp_region_still_tail 10 (by kernel_rfl) (by kernel_rfl) ?_
        simp only [List.take_succ_cons, List.take_zero, List.drop_succ_cons, List.drop_zero]
        change wpStill _ _ w6.drew _ _ _
        still_step
        still_step
        still_step
        still_step
        still_step
        still_step
        still_step
        still_step
        still_step
        still_step
        refine wpStill_nil ?_
        change wpList _ _ _ _ _ w6.drew
        try rw [hm1]
        rw [HO'.out]
        clear HO'
        generalize UInt64.ofNat (x.toNat ||| 2 ^ (k % 64)) = y at *
        have hyl := y.toNat_lt
        have HY := hidden hyl
        clear e64 hm0 hm1 hmt
        go_wp2
        go_roundw
        case rel =>
          refine ⟨k + 1, by omega, by go_num, ?_, HR4.out.set_other (a := ⟨w5.heap.size, k / 64, none⟩) HNG.out _, (drawn_grows HB6.out).setCell (p := ⟨w5.heap.size, k / 64, none⟩) (Nat.le_refl _) _⟩
          have h := HSET.out
          rw [ucells_set, HPS.out] at h
          exact h
        case measure => simp [intOf]; omega
    · have hke : k = N := by omega
      have HA := hidden (pack_all (f := h) (Nat.le_of_eq hke.symm))
      have HRR := hidden (HR5.out.grow hbw)
      have HRS := hidden (Row.setRow_ HRR.out [.int .i64 (N : Int), .slice (some ⟨w5.heap.size, 0, none⟩) (nw N) (nw N)] rfl)
      have HKW := hidden (show wr.heap[gk]? = some (.cells #[.int .i64 (N : Int), .slice (some ⟨w5.heap.size, 0, none⟩) (nw N) (nw N)] 54 (0, 0)) from HK.out)
      have HGE := hidden (HG5.out.of_below HB.out)
      have hlt5 := HR5.out.lt
      have HIP := hidden (show IsPair (wr.setRow (w.heap.size + 1) #[.int .i64 (N : Int), .slice (some ⟨w5.heap.size, 0, none⟩) (nw N) (nw N)]) (.agg #[.int .i64 (N : Int), .slice (some ⟨w5.heap.size, 0, none⟩) (nw N) (nw N)]) N (pack N h) from
        ⟨_, rfl, Reads.other_row (Reads.of_row (by rw [← HA.out]; exact HR.out) (nw N) (nw N) (by rw [ucells_length, pack_length]) (Nat.le_refl _)) (fun b o s n c e => by injection e with e; injection e with e; injection e with e; omega) _, by rw [pack_length]; unfold nw; omega⟩)
      clear hrow hkrow hbw hke hlt5
      go_wp2_with (first
        | (refine wpList_load_row rfl _ _ rfl _ rfl _ _ _ _ HKW.out Tryz.underlying54 rfl size_set ?_)
        | (refine wpList_store_row rfl _ _ _ rfl _ #[.int .i64 (N : Int), .slice (some ⟨w5.heap.size, 0, none⟩) (nw N) (nw N)] rfl rfl _ _ HRR.out size_set rfl (by simp [Value.oneCell']) ?_))
      exact bodyPost_ret (results_fil rfl _ _ _ _ _ (.int .i64 0) rfl HRS.out rfl) rfl ⟨_, by rw [HE.out], by rw [HE.out]; exact HIP.out, below_setRow HGE.out (by omega) _⟩
end Go.Proofs.YthmipnokimlbdaaGreat
/-
  Shaken: what the claims of this seat need of this text. No condition.
-/
namespace Go.Proofs.YthmipnokimlbdaaGreat
set_option maxRecDepth 8000
open Go.RowKit
set_option linter.unusedVariables false
set_option linter.unusedSimpArgs false
def v7 : Vec := ⟨2, [7, 7, 7], [], [false, false, false]⟩
theorem results_vec1 {fn : Func} {p : Tmp} (h : fn.results = #[.cell p 26]) (tmps : Array Value) (w : World) (g : Nat) (a b c d : Value) (hp : tmps.getD p undef = .pointer (some ⟨g, 0, none⟩)) (hg : Row w g 26 [a, b, c, d]) :
    (results fn tmps).run Tryz.prog w = .ok (.agg #[a, b, c, d]) w := results_cell_row h _ _ _ _ _ _ _ hp hg Tryz.underlying26 rfl sizeVec
theorem sevens_any (w : World) : Calls Tryz.prog 31 #[] w fun e w' => ∃ x, e = .returned x ∧ IsV w' x v7 ∧ Grows w w' := by
  have hmk : ∀ W : World, (Instr.makeSlice 24 (.int .i64 3) (.int .i64 3)).run Tryz.prog W = .ok (.slice (some ⟨W.heap.size, 0, none⟩) 3 3) (W.alloc (.cells #[.bool false, .bool false, .bool false] 4)) :=
    fun W => run_make_oneM (P := Tryz.prog) 24 4 (.bool false) 1 Tryz.underlying24 info_boolM rfl 3 (by omega) (by omega) W
  obtain ⟨w1, hw1⟩ : ∃ w1, w1 = ((w.alloc (.cells #[.int .i64 0, .slice none 0 0, .slice none 0 0, .slice none 0 0] 26)).alloc (.cells #[.int .i64 7, .int .i64 7, .int .i64 7] 2)).alloc (.cells #[.bool false, .bool false, .bool false] 4) := ⟨_, rfl⟩
  have HG := hidden (show Grows w w1 by rw [hw1]; exact ((growB _ _).of_below (growB _ _)).of_below (growB _ _))
  have HR := hidden (show Row w1 w.heap.size 26 [.int .i64 0, .slice none 0 0, .slice none 0 0, .slice none 0 0] by rw [hw1]; exact ((Row.new _ _ _ _ rfl).grow (growB _ _)).grow (growB _ _))
  have HI := hidden (show Row w1 (w.heap.size + 1) 2 (icells [7, 7, 7]) by rw [hw1]; exact (Row.at_ _ _ _ _ rfl _ (by simp [World.size_alloc])).grow (growB _ _))
  have HN := hidden (show Row w1 (w.heap.size + 2) 4 (tcells [false, false, false]) by rw [hw1]; exact Row.at_ _ _ _ _ rfl _ (by simp [World.size_alloc]))
  have HRS := hidden (Row.setRow_ HR.out [.int .i64 2, .slice (some ⟨w.heap.size + 1, 0, none⟩) 3 3, .slice none 0 0, .slice (some ⟨w.heap.size + 2, 0, none⟩) 3 3] rfl)
  have HRW := HR.out
  rw [hw1] at HRW
  have HRW := hidden HRW
  have HW := hidden hw1.symm
  clear hw1
  go_enter Tryz.func31, Tryz.ntmps31
  go_wp2_with (refine wpList_store_row rfl _ _ _ rfl _ #[.int .i64 2, .slice (some ⟨w.heap.size + 1, 0, none⟩) 3 3, .slice none 0 0, .slice (some ⟨w.heap.size + 2, 0, none⟩) 3 3] rfl rfl _ _ HRW.out sizeVec rfl (by simp [Value.oneCell']) ?_)
  rw [HW.out]
  refine bodyPost_ret (results_vec1 rfl _ _ _ _ _ _ _ rfl HRS.out) rfl ⟨_, rfl, ⟨_, _, _, rfl, ?_, Reads.nil_ _ 0, ?_⟩, below_setRow HG.out (Nat.le_refl _) _⟩
  · exact Reads.other_row (Reads.of_row HI.out 3 3 rfl (Nat.le_refl _)) (fun b o s n c e => by injection e with e; injection e with e; injection e with e; omega) _
  · exact Reads.other_row (Reads.of_row HN.out 3 3 rfl (Nat.le_refl _)) (fun b o s n c e => by injection e with e; injection e with e; injection e with e; omega) _
end Go.Proofs.YthmipnokimlbdaaGreat
/-
  Shaken: what the claims of this seat need of this text. No condition.
-/
namespace Go.Proofs.YthmipnokimlbdaaGreat
set_option maxRecDepth 8000
open Go.RowKit
set_option linter.unusedVariables false
set_option linter.unusedSimpArgs false
theorem v7_ok : okV v7 = true := by decide
theorem v7_in : ∀ x ∈ v7.is, frIn x := fun x hx => by
  have h : x ∈ [(7 : Int), 7, 7] := hx
  simp at h
  subst h
  unfold frIn; omega
theorem v7_small : Small v7 := (okV_iff.1 v7_ok).small v7_in
theorem v7_len : (formE 0 v7).length = 25 := by
  have h : pay 0 v7 = plI [7, 7, 7] := rfl
  unfold formE
  rw [List.length_cons, h, plI_length]
  rfl
theorem v7_c0 : cost v7 0 = 25 := by
  have h : pay 0 v7 = plI [7, 7, 7] := rfl
  unfold cost
  rw [if_pos ⟨v7_ok, rfl⟩, h, plI_length]
  rfl
theorem v7_c1 : cost v7 1 = 4 := by
  have h : pay 1 v7 = encR (runsR [7, 7, 7]) := rfl
  have h2 : (encR (runsR [7, 7, 7])).length = 3 := by decide +kernel
  unfold cost
  rw [if_pos ⟨v7_ok, rfl⟩, h, h2]
  rfl
theorem v7_c4 : cost v7 4 = -1 := if_neg fun h => by have := h.2; revert this; decide
theorem v7_best : (chooseV v7 : Int) ≠ 0 := by
  have h : cost v7 (chooseV v7) ≤ cost v7 1 := bestE_min 5 1 (by omega) (by rw [v7_c1]; omega)
  rw [v7_c1] at h
  intro h0
  have h1 : chooseV v7 = 0 := by omega
  rw [h1, v7_c0] at h
  omega
theorem v7_dec : decF (formE 0 v7) 2 3 = (v7, 25, 0) := by
  have h := decF_enc (k := 0) (okV_iff.1 v7_ok) rfl v7_in []
  rw [List.append_nil, v7_len] at h
  exact h
theorem v7_hold (i : Nat) (hi : i < 3) : lhold 1 (atVec v7 i) (2, 7, ⟨#[]⟩) = true := by
  have h : atVec v7 i = (2, 7, ⟨#[]⟩) := by
    match i, hi with
    | 0, _ => rfl
    | 1, _ => rfl
    | 2, _ => rfl
  rw [h]
  decide
theorem v7_filt : filtF (formE 0 v7) 2 3 1 (2, 7, ⟨#[]⟩) = ((3, pack 3 fun i => lhold 1 (atVec v7 i) (2, 7, ⟨#[]⟩)), 0) := filtF_ok (N := 3) (by decide) v7_dec
theorem v7_valid (h : Nat → Bool) : validI 3 (pack 3 h) = true := by
  unfold validI
  simp only [decide_eq_true_eq]
  exact ⟨by omega, by omega, okW_pack 3 h⟩
theorem v7_count (h : Nat → Bool) (hh : ∀ i, i < 3 → h i = true) : cnt (mem 3 (pack 3 h)) 3 = 3 := by
  have e : cnt (mem 3 (pack 3 h)) 3 = cnt (fun _ => true) 3 := cnt_congr fun i hi => by rw [mem_pack, decide_eq_true hi, hh i hi]; rfl
  rw [e]
  rfl
theorem cost_cells {w : World} {bu fu cu : Nat} (h : ReadsR w (.slice (some ⟨bu, fu, none⟩) 6 cu) (costL v7)) :
    w.cell? ⟨bu, fu + 1, none⟩ = some (.int .i64 25) ∧ w.cell? ⟨bu, fu + 3, none⟩ = some (.int .i64 4) ∧ w.cell? ⟨bu, fu + 9, none⟩ = some (.int .i64 (-1)) ∧ w.cell? ⟨bu, fu + 10, none⟩ = some (.int .i64 5) := by
  obtain ⟨b, f, hA, hc⟩ := h.at_
  have hA := hA (by rw [costL_length]; omega)
  injection hA with hA
  injection hA with e1 e2 _
  subst e1 e2
  have hk := fun k (hk : k < 6) => hc k (by rw [costL_length]; exact hk)
  have h0 := (hk 0 (by omega)).2
  have h1 := (hk 1 (by omega)).2
  have h4 := (hk 4 (by omega)).2
  have h5 := (hk 5 (by omega)).1
  rw [costL_get] at h0 h1 h4 h5
  rw [v7_c0] at h0
  rw [v7_c1] at h1
  rw [v7_c4] at h4
  exact ⟨h0, h1, h4, h5⟩
theorem IsBytes.all_ {w : World} {A : Option Addr} {c n : Nat} {l : List UInt8} (h : IsBytes w (.slice A n c) l) (h0 : 0 < l.length) : ∃ b f, A = some ⟨b, f, none⟩ ∧ ∀ j, (hj : j < l.length) → w.cell? ⟨b, f + j, none⟩ = some (.int .u8 (l[j].toNat : Int)) := by
  obtain ⟨A', c', he, hc⟩ := h
  injection he with e1 _ _
  subst e1
  exact hc h0
theorem byte1 {w : World} {b f n c : Nat} (h : IsBytes w (.slice (some ⟨b, f, none⟩) n c) (formE 0 v7)) : w.cell? ⟨b, f + 1, none⟩ = some (.int .u8 7) := by
  obtain ⟨b', f', he, hc⟩ := IsBytes.all_ h (by rw [v7_len]; omega)
  injection he with he
  injection he with e1 e2 _
  subst e1 e2
  have h1 := hc 1 (by rw [v7_len]; omega)
  have e : (formE 0 v7)[1]'(by rw [v7_len]; omega) = 7 := rfl
  rw [e] at h1
  exact h1
set_option maxHeartbeats 16000000 in
theorem lives_any (w : World) : Calls Tryz.prog 10 #[] w fun e w' => e = .returned (.bool true) ∧ Grows w w' := by
  have HSV := hidden (fun W => sevens_any W)
  go_enter Tryz.func10, Tryz.ntmps10
  go_wp2_with fail
  refine (HSV.out _).mono ?_
  rintro e w1 ⟨x, rfl, hx1, g1⟩
  have HX1 := hidden hx1
  have HG1 := hidden g1
  obtain ⟨x1, x2, x3, hxe, j1, j2, j3⟩ := id hx1
  obtain ⟨A1, c1, rfl⟩ := j1.slice_
  obtain ⟨A2, c2, rfl⟩ := j2.slice_
  obtain ⟨A3, c3, rfl⟩ := j3.slice_
  have hxe : x = .agg #[.int .i64 2, .slice A1 3 c1, .slice A2 0 c2, .slice A3 3 c3] := hxe
  subst hxe
  have HCO := hidden (fun W (h : Grows w1 W) => eCosts_any _ v7 W (hx1.grow h) v7_small v7_ok)
  have HCH := hidden (fun W (h : Grows w1 W) => eChoose_any _ v7 W (hx1.grow h) v7_small v7_ok)
  have HEN := hidden (fun k W (h : Grows w1 W) => eEncode_any _ v7 k W (hx1.grow h) v7_small)
  have HB0 := hidden v7_best
  clear j1 j2 j3 hx1 g1 HSV
  generalize chooseV v7 = best at *
  have hbn : ((best : Int) != 0) = true := by simpa using HB0.out
  go_wp2_with (first
    | (refine wpList_store_vec rfl _ _ rfl w1 rfl rfl _ _ _ _ _ _ _ _ _ _ rfl ?_; intro w2 hr2 hg2; have HG2 := hidden hg2; have HVR := hidden hr2; have HVW := hidden (show w2.heap[w1.heap.size]? = some (.cells #[.int .i64 2, .slice A1 3 c1, .slice A2 0 c2, .slice A3 3 c3] 26 (0, 0)) from hr2); clear hr2 hg2)
    | (refine wpList_load_row rfl _ _ rfl _ rfl _ _ _ _ HVW.out Tryz.underlying26 rfl sizeVec ?_))
  refine (HCO.out _ HG2.out).mono ?_
  rintro e w3 ⟨u, rfl, g3, hu⟩
  have HU3 := hidden hu
  obtain ⟨AU, cu, rfl⟩ := hu.slice_
  rw [costL_length]
  have HVR := hidden (HVR.out.grow g3); have HVW := hidden (show w3.heap[w1.heap.size]? = some (.cells #[.int .i64 2, .slice A1 3 c1, .slice A2 0 c2, .slice A3 3 c3] 26 (0, 0)) from HVR.out)
  have HG3 := hidden (HG2.out.of_below g3)
  clear hu g3
  go_wp2_with (refine wpList_load_row rfl _ _ rfl _ rfl _ _ _ _ HVW.out Tryz.underlying26 rfl sizeVec ?_)
  refine (HEN.out 0 _ HG3.out).mono ?_
  rw [show encFV v7 0 = (formE 0 v7, 0) from if_neg (by rw [v7_ok]; simp)]
  rintro e w4 ⟨u4, rfl, g4, hc4⟩
  obtain ⟨A4, d4, rfl, hl4, hb4⟩ := hc4
  simp only [] at hl4 hb4
  have HB4 := hidden hb4
  have HDE := hidden (fun W (h : Grows w4 W) => eDecode_any A4 d4 (formE 0 v7) 2 3 W (hb4.grow h) hl4 (by rw [v7_len]; omega))
  have HFI := hidden (fun W (h : Grows w4 W) => eFilter_any A4 d4 (formE 0 v7) 2 3 0 1 (2, 7, ⟨#[]⟩) W (hb4.grow h) hl4 (by rw [v7_len]; omega))
  rw [v7_dec] at HDE
  rw [v7_filt] at HFI
  rw [v7_len] at HDE HFI ⊢
  simp only [prV] at HFI
  have HVR := hidden (HVR.out.grow g4); have HVW := hidden (show w4.heap[w1.heap.size]? = some (.cells #[.int .i64 2, .slice A1 3 c1, .slice A2 0 c2, .slice A3 3 c3] 26 (0, 0)) from HVR.out)
  have HG4 := hidden (HG3.out.of_below g4)
  have HU3 := hidden (HU3.out.grow g4)
  clear hl4 hb4 g4
  go_wp2_with fail
  refine (HDE.out _ (Below.refl _ _)).mono ?_
  rintro e w5 ⟨y, rfl, hy5, g5⟩
  have HY5 := hidden hy5
  obtain ⟨y1, y2, y3, hye, k1, k2, k3⟩ := id hy5
  obtain ⟨D1, e1, rfl⟩ := k1.slice_
  obtain ⟨D2, e2, rfl⟩ := k2.slice_
  obtain ⟨D3, e3, rfl⟩ := k3.slice_
  have hye : y = .agg #[.int .i64 2, .slice D1 3 e1, .slice D2 0 e2, .slice D3 3 e3] := hye
  subst hye
  have HEQ := hidden (fun W (h : Grows w5 W) (h' : Grows w1 W) => requalV_same _ _ v7 W (HY5.out.grow h) (HX1.out.grow h') (by decide) (by decide) (by decide))
  have HVR := hidden (HVR.out.grow g5); have HVW := hidden (show w5.heap[w1.heap.size]? = some (.cells #[.int .i64 2, .slice A1 3 c1, .slice A2 0 c2, .slice A3 3 c3] 26 (0, 0)) from HVR.out)
  have HG5 := hidden (HG4.out.of_below g5)
  have HG45 := hidden g5
  have HU3 := hidden (HU3.out.grow g5)
  clear k1 k2 k3 hy5 g5
  go_wp2_with (first
    | (refine wpList_store_vec rfl _ _ rfl w5 rfl rfl _ _ _ _ _ _ _ _ _ _ rfl ?_; intro w6 hr6 hg6; have HG6 := hidden (HG5.out.of_below hg6); have HG56 := hidden hg6; have HG46 := hidden (HG45.out.of_below hg6); have HDR := hidden hr6; have HU3 := hidden (HU3.out.grow hg6); have HVR := hidden (HVR.out.grow hg6); have HVW := hidden (show w6.heap[w1.heap.size]? = some (.cells #[.int .i64 2, .slice A1 3 c1, .slice A2 0 c2, .slice A3 3 c3] 26 (0, 0)) from HVR.out); clear hr6 hg6)
    | (refine wpList_load_row rfl _ _ rfl _ rfl _ _ _ _ HVW.out Tryz.underlying26 rfl sizeVec ?_))
  refine (HEN.out 5 _ HG6.out).mono ?_
  rw [show encFV v7 5 = ([], 7) from rfl]
  rintro e w7 ⟨u7, rfl, g7, hc7⟩
  obtain ⟨A7, d7, rfl, _, _⟩ := hc7
  have HG7 := hidden (HG6.out.of_below g7)
  have HG57 := hidden (HG56.out.of_below g7)
  have HG47 := hidden (HG46.out.of_below g7)
  have HDR := hidden (HDR.out.grow g7)
  have HU3 := hidden (HU3.out.grow g7)
  have HVR := hidden (HVR.out.grow g7); have HVW := hidden (show w7.heap[w1.heap.size]? = some (.cells #[.int .i64 2, .slice A1 3 c1, .slice A2 0 c2, .slice A3 3 c3] 26 (0, 0)) from HVR.out)
  clear g7
  go_wp2_with (refine wpList_load_row rfl _ _ rfl _ rfl _ _ _ _ HVW.out Tryz.underlying26 rfl sizeVec ?_)
  refine (HEN.out 6 _ HG7.out).mono ?_
  rw [show encFV v7 6 = ([], 1) from rfl]
  rintro e w8 ⟨u8, rfl, g8, hc8⟩
  obtain ⟨A8, d8, rfl, _, _⟩ := hc8
  have HG8 := hidden (HG7.out.of_below g8)
  have HG58 := hidden (HG57.out.of_below g8)
  have HG48 := hidden (HG47.out.of_below g8)
  have HDR := hidden (HDR.out.grow g8)
  have HU3 := hidden (HU3.out.grow g8)
  have HVR := hidden (HVR.out.grow g8); have HVW := hidden (show w8.heap[w1.heap.size]? = some (.cells #[.int .i64 2, .slice A1 3 c1, .slice A2 0 c2, .slice A3 3 c3] 26 (0, 0)) from HVR.out)
  clear g8
  go_wp2_with fail
  refine (HFI.out _ HG48.out).mono ?_
  rintro e w9 ⟨s9, rfl, hs9, g9⟩
  obtain ⟨sv, rfl, hr9, hsl9⟩ := hs9
  have HHB := hidden v7_hold
  obtain ⟨hf, hhf⟩ : ∃ h : Nat → Bool, h = fun i => lhold 1 (atVec v7 i) (2, 7, ⟨#[]⟩) := ⟨_, rfl⟩
  have hhf3 : ∀ i, i < 3 → hf i = true := fun i hi => by rw [hhf]; exact v7_hold i hi
  simp only [] at hr9 hsl9 ⊢
  rw [← hhf] at hr9 hsl9
  obtain ⟨AS, cs, rfl, hlcs⟩ := hr9.slice_
  have hnl : (ucells (pack 3 hf)).length = 1 := by rw [ucells_length, pack_length]; rfl
  rw [hnl] at hr9 ⊢
  have HRS := hidden hr9
  have HVAL := hidden (fun W (h : Grows w9 W) => rvalid_any (.agg #[.int .i64 3, .slice AS 1 cs]) 3 (pack 3 hf) W ⟨_, rfl, hr9.grow h, hsl9⟩ (by omega) (by omega))
  have HCNT := hidden (fun W (h : Grows w9 W) => rcount_any (.agg #[.int .i64 3, .slice AS 1 cs]) 3 (pack 3 hf) W ⟨_, rfl, hr9.grow h, by rw [pack_length]; decide, by omega⟩)
  rw [v7_valid] at HVAL
  rw [v7_count hf hhf3] at HCNT
  have HDN := hidden (fun W => eDecode_any none 0 [] 2 0 W (IsBytes.nil_ W) (Nat.le_refl _) (by simp))
  rw [show decF [] 2 0 = (zeroV, 0, 2) from rfl] at HDN
  have HG9 := hidden (HG8.out.of_below g9)
  have HG59 := hidden (HG58.out.of_below g9)
  have HDR := hidden (HDR.out.grow g9)
  have HU3 := hidden (HU3.out.grow g9)
  have HB4 := hidden (HB4.out.grow (HG48.out.of_below g9))
  have HVR := hidden (HVR.out.grow g9)
  clear hr9 hsl9 hlcs hnl hhf hhf3 g9 HVW
  go_wp2_with (refine wpList_store_bs rfl _ _ rfl w9 rfl rfl 3 AS 1 cs rfl ?_; intro w10 hr10 hg10; have HG910 := hidden hg10; have HBS := hidden hr10; have HG10 := hidden (HG9.out.of_below hg10); have HG510 := hidden (HG59.out.of_below hg10); have HDR := hidden (HDR.out.grow hg10); have HU3 := hidden (HU3.out.grow hg10); have HB4 := hidden (HB4.out.grow hg10); have HVR := hidden (HVR.out.grow hg10); clear hr10 hg10)
  refine (HDN.out _).mono ?_
  rintro e w11 ⟨z, rfl, hz11, g11⟩
  obtain ⟨z1, z2, z3, hze, l1, l2, l3⟩ := hz11
  obtain ⟨Z1, f1, rfl⟩ := l1.slice_
  obtain ⟨Z2, f2, rfl⟩ := l2.slice_
  obtain ⟨Z3, f3, rfl⟩ := l3.slice_
  have hze : z = .agg #[.int .i64 0, .slice Z1 0 f1, .slice Z2 0 f2, .slice Z3 0 f3] := hze
  subst hze
  have HG11 := hidden (HG10.out.of_below g11)
  have HG911 := hidden (HG910.out.of_below g11)
  have HG511 := hidden (HG510.out.of_below g11)
  have HDR := hidden (HDR.out.grow g11)
  have HU3 := hidden (HU3.out.grow g11)
  have HB4 := hidden (HB4.out.grow g11)
  have HVR := hidden (HVR.out.grow g11)
  have HBS := hidden (HBS.out.grow g11)
  clear l1 l2 l3 g11
  obtain ⟨bu, fu, hAU, _⟩ := HU3.out.at_
  obtain rfl := hAU (by rw [costL_length]; omega)
  clear hAU
  obtain ⟨b4, o4, rfl, _⟩ := IsBytes.all_ HB4.out (by rw [v7_len]; omega)
  go_wp2_with (first
    | (refine wpList_store_vec rfl _ _ rfl w11 rfl rfl _ _ _ _ _ _ _ _ _ _ rfl ?_; intro w12 _ hg12; have HVR := hidden (HVR.out.grow hg12); have HDR := hidden (HDR.out.grow hg12); have HBS := hidden (HBS.out.grow hg12); have HU3 := hidden (HU3.out.grow hg12); have HB4 := hidden (HB4.out.grow hg12); have vx0 := HVR.out.cell 0; have vx1 := HVR.out.cell 1; have vx2 := HVR.out.cell 2; have vx3 := HVR.out.cell 3; have dx0 := HDR.out.cell 0; have dx1 := HDR.out.cell 1; have dx2 := HDR.out.cell 2; have dx3 := HDR.out.cell 3; have bx0 := HBS.out.cell 0; have bx1 := HBS.out.cell 1; simp only [List.getElem?_cons_succ, List.getElem?_cons_zero] at vx0 vx1 vx2 vx3 dx0 dx1 dx2 dx3 bx0 bx1; have HG12 := hidden (HG11.out.of_below hg12); have HG912 := hidden (HG911.out.of_below hg12); have HG512 := hidden (HG511.out.of_below hg12); have ux := cost_cells HU3.out; obtain ⟨u0, u1, u4, u5⟩ := ux; have b1 := byte1 HB4.out; clear hg12)
    | (go_at_call 20; refine (HEQ.out _ HG512.out HG12.out).mono ?_; rintro e w13 ⟨rfl, g13⟩; have HVR := hidden (HVR.out.grow g13); have HDR := hidden (HDR.out.grow g13); have HBS := hidden (HBS.out.grow g13); have HU3 := hidden (HU3.out.grow g13); have HB4 := hidden (HB4.out.grow g13); have vx0 := HVR.out.cell 0; have vx1 := HVR.out.cell 1; have vx2 := HVR.out.cell 2; have vx3 := HVR.out.cell 3; have dx0 := HDR.out.cell 0; have dx1 := HDR.out.cell 1; have dx2 := HDR.out.cell 2; have dx3 := HDR.out.cell 3; have bx0 := HBS.out.cell 0; have bx1 := HBS.out.cell 1; simp only [List.getElem?_cons_succ, List.getElem?_cons_zero] at vx0 vx1 vx2 vx3 dx0 dx1 dx2 dx3 bx0 bx1; have HG13 := hidden (HG12.out.of_below g13); have HG913 := hidden (HG912.out.of_below g13); clear g13)
    | (go_at_call 27; refine (HVAL.out _ HG913.out).mono ?_; rintro e w14 ⟨rfl, g14⟩; have HVR := hidden (HVR.out.grow g14); have HDR := hidden (HDR.out.grow g14); have HBS := hidden (HBS.out.grow g14); have HU3 := hidden (HU3.out.grow g14); have HB4 := hidden (HB4.out.grow g14); have vx0 := HVR.out.cell 0; have vx1 := HVR.out.cell 1; have vx2 := HVR.out.cell 2; have vx3 := HVR.out.cell 3; have dx0 := HDR.out.cell 0; have dx1 := HDR.out.cell 1; have dx2 := HDR.out.cell 2; have dx3 := HDR.out.cell 3; have bx0 := HBS.out.cell 0; have bx1 := HBS.out.cell 1; simp only [List.getElem?_cons_succ, List.getElem?_cons_zero] at vx0 vx1 vx2 vx3 dx0 dx1 dx2 dx3 bx0 bx1; have HG14 := hidden (HG13.out.of_below g14); have HG914 := hidden (HG913.out.of_below g14); clear g14)
    | (go_at_call 32; refine (HCNT.out _ HG914.out).mono ?_; rintro e w15 ⟨rfl, g15⟩; have HVR := hidden (HVR.out.grow g15); have HDR := hidden (HDR.out.grow g15); have HBS := hidden (HBS.out.grow g15); have HU3 := hidden (HU3.out.grow g15); have HB4 := hidden (HB4.out.grow g15); have vx0 := HVR.out.cell 0; have vx1 := HVR.out.cell 1; have vx2 := HVR.out.cell 2; have vx3 := HVR.out.cell 3; have dx0 := HDR.out.cell 0; have dx1 := HDR.out.cell 1; have dx2 := HDR.out.cell 2; have dx3 := HDR.out.cell 3; have bx0 := HBS.out.cell 0; have bx1 := HBS.out.cell 1; simp only [List.getElem?_cons_succ, List.getElem?_cons_zero] at vx0 vx1 vx2 vx3 dx0 dx1 dx2 dx3 bx0 bx1; have HG15 := hidden (HG14.out.of_below g15); clear g15)
    | (go_at_call 16; refine (HCH.out _ HG15.out).mono ?_; rintro e w16 ⟨rfl, g16⟩; have HG16 := hidden (HG1.out.of_below (HG15.out.of_below g16)); clear g16))
  go_ret
  exact ⟨rfl, HG16.out⟩
end Go.Proofs.YthmipnokimlbdaaGreat
/-
  Shaken: what the claims of this seat need of this text. No condition.
-/
namespace Go.Proofs.YthmipnokimlbdaaGreat
set_option maxRecDepth 8000
open Go.RowKit
set_option linter.unusedVariables false
set_option linter.unusedSimpArgs false
def TupV (r : List UInt8 × Int) : Value → World → Prop := fun v w => ∃ A c, v = .tuple #[.slice A r.1.length c, .int .i64 r.2] ∧ r.1.length ≤ c ∧ IsBytes w (.slice A r.1.length c) r.1
theorem TupV.lasts {r : List UInt8 × Int} : ∀ v w w', TupV r v w → Grows w w' → TupV r v w' := fun _ _ _ ⟨A, c, h1, h2, h3⟩ hg => ⟨A, c, h1, h2, h3.grow hg⟩
theorem encF_ap {v : Vec} {k : Nat} (hok : okV v = true) (hk : k < 6) (ha : apl k v.T = true) : encFV v k = (formE k v, 0) := by
  unfold encFV
  rw [if_neg (by rw [hok]; simp; omega), Int.toNat_natCast, if_neg (by rw [ha]; simp)]
theorem encF_no {v : Vec} {k : Nat} (hok : okV v = true) (hk : k < 6) (ha : apl k v.T = false) : encFV v k = ([], 7) := by
  unfold encFV
  rw [if_neg (by rw [hok]; simp; omega), Int.toNat_natCast, if_pos ha]
end Go.Proofs.YthmipnokimlbdaaGreat
/-
  Shaken: what the claims of this seat need of this text. No condition.
-/
namespace Go.Proofs.YthmipnokimlbdaaGreat
set_option maxRecDepth 8000
open Go.RowKit
set_option linter.unusedVariables false
set_option linter.unusedSimpArgs false
def tl (ts : List Str) (k : Nat) : Nat := ((ts.take k).map List.length).sum
theorem tl_succ {ts : List Str} {k : Nat} (h : k < ts.length) : tl ts (k + 1) = tl ts k + ts[k].length := by
  unfold tl
  rw [List.take_succ_eq_append_getElem h, List.map_append, List.sum_append]
  simp
theorem tl_le {ts : List Str} (h : ∀ s ∈ ts, s.length ≤ 4096) : ∀ k, tl ts k ≤ 4096 * k
  | 0 => by simp [tl]
  | k + 1 => by
    by_cases hk : k < ts.length
    · have := tl_succ hk
      have := tl_le h k
      have := h _ (List.getElem_mem hk)
      omega
    · have e : tl ts (k + 1) = tl ts k := by unfold tl; rw [List.take_of_length_le (by omega), List.take_of_length_le (by omega)]
      have := tl_le h k
      omega
def szV (v : Vec) : Nat := v.is.length + v.ts.length + v.ns.length + tl v.ts v.ts.length
def SmRe2 (E : Prop) (n1 n3 : Nat) (ts : List Str) (w1 : World) (n : Nat) (s i : Value) (wr : World) : Prop := ∃ (k : Nat) (z : Int), k ≤ n ∧ i = .int .i64 (k : Int) ∧ s = .int .i64 z ∧ (E → z = ((n1 + ts.length + n3 + tl ts k : Nat) : Int)) ∧ Grows w1 wr
set_option maxHeartbeats 4000000 in
theorem small12_if (x : Value) (v : Vec) (w : World) (hx : IsV w x v) (hs : Small v) : Calls Tryz.prog 9 #[x] w fun e w' => ∃ b, e = .returned (.bool b) ∧ (Encable v → b = decide (szV v ≤ 10000)) ∧ Grows w w' := by
  have HEI := hidden (fun (h : Encable v) => (⟨h.len, fun hT => h.li hT, fun hT => h.lt hT, h.texts⟩ : v.ns.length ≤ 65536 ∧ (v.T ≠ 3 → v.is.length = v.ns.length ∧ v.ts = []) ∧ (v.T = 3 → v.ts.length = v.ns.length ∧ v.is = []) ∧ ∀ s ∈ v.ts, s.length ≤ 4096))
  obtain ⟨E, hE⟩ : ∃ E : Prop, E = Encable v := ⟨_, rfl⟩
  rw [← hE] at HEI ⊢
  clear hE
  have HSZ := hidden (show szV v = v.is.length + v.ts.length + v.ns.length + tl v.ts v.ts.length from rfl)
  generalize szV v = sz at *
  obtain ⟨T, is, ts, ns⟩ := v
  obtain ⟨a1, a2, a3, rfl, j1, j2, j3⟩ := hx
  obtain ⟨s1, s2, s3, s4⟩ := hs
  dsimp only at *
  obtain ⟨A1, c1, rfl⟩ := j1.slice_
  obtain ⟨A2, c2, rfl⟩ := j2.slice_
  obtain ⟨A3, c3, rfl⟩ := j3.slice_
  have HA2 := hidden j2
  obtain ⟨n2, hn2⟩ : ∃ n, n = ts.length := ⟨_, rfl⟩
  rw [← hn2] at HA2 s2 ⊢
  have HN2 := hidden hn2
  have HEJ := hidden (fun (h : E) => show is.length ≤ 65536 ∧ ts.length ≤ 65536 ∧ ns.length ≤ 65536 ∧ ∀ s ∈ ts, s.length ≤ 4096 from by
    obtain ⟨q1, q2, q3, q4⟩ := HEI.out h
    by_cases hT : T = 3
    · have h3 := q3 hT; exact ⟨by rw [h3.2]; simp, by have := h3.1; omega, q1, q4⟩
    · have h3 := q2 hT; exact ⟨by have := h3.1; omega, by rw [h3.2]; simp, q1, q4⟩)
  have HSZ : Hid (sz = is.length + ts.length + ns.length + tl ts ts.length) := HSZ
  clear HEI
  generalize is.length = n1 at *
  generalize ns.length = n3 at *
  clear j1 j2 j3 s4 hn2
  have HG1 := hidden (growB w (.cells #[.int .i64 T, .slice A1 n1 c1, .slice A2 n2 c2, .slice A3 n3 c3] 26))
  have HX1 := hidden (Row.new w 26 #[.int .i64 T, .slice A1 n1 c1, .slice A2 n2 c2, .slice A3 n3 c3] [.int .i64 T, .slice A1 n1 c1, .slice A2 n2 c2, .slice A3 n3 c3] rfl)
  go_enter Tryz.func9, Tryz.ntmps9
  go_wp2_with fail
  go_loopw [3, 4] (fun s i wr => SmRe2 E n1 n3 ts (w.alloc (.cells #[.int .i64 T, .slice A1 n1 c1, .slice A2 n2 c2, .slice A3 n3 c3] 26)) n2 s i wr) (fun _ i _ => n2 - (intOf i).toNat)
  case atStart => exact ⟨0, _, by omega, rfl, rfl, fun h => by have := HN2.out; simp [tl]; omega, Below.refl _ _⟩
  case round =>
    obtain ⟨k, z, hk, rfl, rfl, hz, hb⟩ := hrel
    have HZ := hidden hz
    clear hz
    have HBW := hidden hb
    have x2 := (HX1.out.grow hb).cell 2
    simp only [List.getElem?_cons_succ, List.getElem?_cons_zero] at x2
    by_cases hlt : k < n2
    · have hlt' : k < ts.length := by rw [← HN2.out]; exact hlt
      obtain ⟨q2, f2, rfl, hc2⟩ := (HA2.out.grow (HG1.out.of_below hb)).at_ hlt'
      have HSK := hidden (fun (h : E) => show (0 : Int) ≤ z ∧ z ≤ 300000000 ∧ (ts[k].length : Int) ≤ 4096 ∧ ((n1 + ts.length + n3 + tl ts (k + 1) : Nat) : Int) = z + (ts[k].length : Int) from by
        obtain ⟨q1, q2, q3, q4⟩ := HEJ.out h
        have h1 := HZ.out h
        have h2 := tl_le q4 k
        have h3 := tl_succ hlt'
        have h4 := q4 _ (List.getElem_mem hlt')
        refine ⟨by omega, by omega, by omega, by omega⟩)
      have HST : Hid ((strOf ts[k]).size = ts[k].length) := strOf_size' _
      generalize ts[k].length = tk at *
      generalize strOf ts[k] = t at *
      clear hlt' hb
      go_wp2_with fail
      go_roundw
      case rel => exact ⟨k + 1, _, by omega, by go_num, rfl, fun h => by
        obtain ⟨q1, q2, q3, q4⟩ := HSK.out h
        have q5 := HST.out
        rw [q4]
        have q6 : (0 : Int) ≤ z + (t.size : Int) := by omega
        have q7 : z + (t.size : Int) ≤ 300004096 := by omega
        have q8 : z + (t.size : Int) = z + (tk : Int) := by omega
        rw [show wrap64 (z + (t.size : Int)) = z + (t.size : Int) by unfold wrap64; omega]
        exact q8, HBW.out⟩
      case measure => simp [intOf]; omega
    · clear hb
      go_wp2_with fail
      go_ret
      exact ⟨_, rfl, fun h => by
        have h1 := HZ.out h
        have h2 := HSZ.out
        have h3 := HN2.out
        have h4 : k = ts.length := by omega
        subst h4
        rw [h1, h2]
        congr 1
        simp only [eq_iff_iff]
        omega, HG1.out.of_below HBW.out⟩
end Go.Proofs.YthmipnokimlbdaaGreat
/-
  Shaken: what the claims of this seat need of this text. No condition.
-/
namespace Go.Proofs.YthmipnokimlbdaaGreat
set_option maxRecDepth 8000
open Go.RowKit
set_option linter.unusedVariables false
set_option linter.unusedSimpArgs false
def sumL (l : List Str) : Nat := (l.map List.length).sum
theorem tl_all (l : List Str) : tl l l.length = sumL l := by unfold tl sumL; rw [List.take_length]
theorem words_sum : ∀ (l : List Str), (∀ s ∈ l, s.length ≤ 4096) → (wordsL l).length ≤ 10 * l.length + sumL l
  | [], _ => by simp [wordsL]
  | w :: r, hs => by
    have e : wordsL (w :: r) = wordL w ++ wordsL r := rfl
    have e2 : sumL (w :: r) = w.length + sumL r := by simp [sumL]
    have h1 := words_sum r fun s h => hs s (by simp [h])
    have h2 := hs w (by simp)
    have h3 := enc_len10 (n := w.length) (by omega)
    rw [e, e2, List.length_append, List.length_cons]
    unfold wordL
    rw [List.length_append]
    omega
theorem encK_sum (l : List Str) (hs : ∀ s ∈ l, s.length ≤ 4096) : ∀ k, k ≤ l.length → (encK l k).length ≤ 20 * k + tl l k
  | 0, _ => by simp [encK]
  | k + 1, hk => by
    have hk' : k < l.length := by omega
    have h1 := encK_sum l hs k (by omega)
    have h2 := tl_succ hk'
    have h3 := hs _ (List.getElem_mem hk')
    have e : l.getD k [] = l[k] := by rw [List.getD_eq_getElem?_getD, List.getElem?_eq_getElem hk']; rfl
    have h4 := itm_len (prev := prvAt l k) (s := l[k]) (M := l[k].length) (Nat.le_refl _) (by omega)
    rw [encK_succ, List.length_append, e]
    omega
theorem sumL_cons (w : Str) (r : List Str) : sumL (w :: r) = w.length + sumL r := by simp [sumL]
theorem ins_sum (s : Str) : ∀ l : List Str, sumL (insW l s) ≤ s.length + sumL l
  | [] => by simp [insW, sumL]
  | x :: r => by
    have h := ins_sum s r
    unfold insW
    by_cases h1 : x < s
    · rw [if_pos h1, sumL_cons, sumL_cons]; omega
    · rw [if_neg h1]
      by_cases h2 : x = s
      · rw [if_pos h2, sumL_cons]; omega
      · rw [if_neg h2, sumL_cons, sumL_cons]; omega
theorem fold_sum : ∀ (vs ws : List Str), sumL (vs.foldl insW ws) ≤ sumL ws + sumL vs
  | [], ws => by simp [sumL]
  | v :: r, ws => by
    have h1 := fold_sum r (insW ws v)
    have h2 := ins_sum v ws
    rw [List.foldl_cons, sumL_cons]
    omega
theorem wordsOf_sum (vs : List Str) : sumL (wordsOf vs) ≤ sumL vs := by
  have h := fold_sum vs []
  have e : sumL ([] : List Str) = 0 := rfl
  unfold wordsOf
  omega
theorem encT_small {vs : List Str} (h : vs.length ≤ 10000) (hs : ∀ s ∈ vs, s.length ≤ 4096) (hsum : sumL vs ≤ 10000) : (encT vs).length ≤ 600000 := by
  have h0 := wordsOf_length vs
  have h2 := words_sum (wordsOf vs) fun w hw => hs w (mem_wordsOf.1 hw)
  have h3 := enc_len10 (n := (wordsOf vs).length) (by omega)
  have h4 := runs_len (codesW (wordsOf vs) vs)
  have h5 : (codesW (wordsOf vs) vs).length = vs.length := by simp [codesW]
  have h6 := packL_length (codesW (wordsOf vs) vs) (widW (wordsOf vs).length)
  have h7 : szB (codesW (wordsOf vs) vs).length (widW (wordsOf vs).length) ≤ 90000 := by
    have h8 := widW_le (k := (wordsOf vs).length) (by omega)
    have h9 : (codesW (wordsOf vs) vs).length * widW (wordsOf vs).length ≤ 10000 * 64 := Nat.mul_le_mul (by omega) h8
    unfold szB
    omega
  have h10 : (codesB (wordsOf vs).length (codesW (wordsOf vs) vs)).length ≤ 300000 := by
    unfold codesB
    split <;> simp <;> omega
  have h11 := wordsOf_sum vs
  unfold encT bytesW
  rw [List.length_append, List.length_append]
  omega
theorem pay_small {k : Nat} {v : Vec} (h : Fine v) (hz : szV v ≤ 10000) : (formE k v).length ≤ 800000 := by
  have h1 := h.li
  have h2 := h.lt
  unfold szV at hz
  rw [tl_all] at hz
  have hw : (pay k v).length ≤ 700000 := by
    unfold pay
    split
    · unfold payT
      split
      · have := words_sum v.ts h.ss; omega
      · split
        · have := encT_small (vs := v.ts) (by omega) h.ss (by omega); omega
        · have h1 := encK_sum v.ts h.ss v.ts.length (Nat.le_refl _); rw [tl_all] at h1; unfold fcEnc; omega
    · unfold payI
      split
      · split
        · rw [plB_length]; unfold szB; omega
        · rw [plI_length]; omega
      · split
        · have h3 := encR_len_le (runsR v.is)
          have h4 := (runsR_len v.is (Nat.le_refl _)).2
          rw [List.take_length] at h4
          omega
        · split
          · have := encV_len v.is; omega
          · have := dlEnc_le v.is; omega
  unfold formE
  rw [List.length_cons]
  omega
end Go.Proofs.YthmipnokimlbdaaGreat
/-
  Shaken: what the claims of this seat need of this text. No condition.
-/
namespace Go.Proofs.YthmipnokimlbdaaGreat
set_option maxRecDepth 8000
open Go.RowKit
set_option linter.unusedVariables false
set_option linter.unusedSimpArgs false
theorem cell_row {w : World} {b k : Nat} {u : Value} (h : w.cell? ⟨b, k, none⟩ = some u) : ∃ cs t m, w.heap[b]? = some (.cells cs t m) ∧ cs[k]? = some u := by
  unfold World.cell? at h
  split at h
  · rename_i cs t m hb
    exact ⟨cs, t, m, hb, by simpa using h⟩
  · cases h
def TurnB (B : Nat) (n : Int) (ws : List UInt64) (w w' : World) : Prop :=
  Below B w w' ∧ ∀ g cs t m, w.heap[g]? = some (.cells cs t m) → w'.heap[g]? = some (.cells cs t m) ∨
    (B ≤ g ∧ t = 54 ∧ (∃ a A k c, cs = #[.int .i64 a, .slice A k c]) ∧ ∃ A c, w'.heap[g]? = some (.cells #[.int .i64 n, .slice A ws.length c] t m) ∧ Reads w' (.slice A ws.length c) (ucells ws))
theorem TurnB.re (B : Nat) (n : Int) (ws : List UInt64) (w : World) : TurnB B n ws w w := ⟨Below.refl _ _, fun _ _ _ _ h => .inl h⟩
theorem TurnB.words {B : Nat} {n : Int} {ws : List UInt64} {w w' : World} (h : TurnB B n ws w w') {v : Value} {l : List UInt64} (hr : Reads w v (ucells l)) : Reads w' v (ucells l) := by
  obtain ⟨A, d, he, hle, hcell⟩ := hr
  refine ⟨A, d, he, hle, fun hl => ?_⟩
  obtain ⟨q, off, hA, hq⟩ := hcell hl
  refine ⟨q, off, hA, fun j hj => ?_⟩
  have hj1 := hq j hj
  have hjl : j < l.length := by rw [ucells_length] at hj; exact hj
  rw [ucells_get hjl] at hj1 ⊢
  obtain ⟨cs, t, m, hb, hk⟩ := cell_row hj1
  rcases h.2 q cs t m hb with h1 | ⟨_, _, ⟨a, A', k, c, rfl⟩, _⟩
  · rw [cell_of_row _ _ _ _ _ _ h1]; exact hk
  · match off + j, hk with
    | 0, hk => simp at hk
    | 1, hk => simp at hk
    | i + 2, hk => simp at hk
theorem TurnB.tr {B : Nat} {n : Int} {ws : List UInt64} {a b c : World} (h : TurnB B n ws a b) (k : TurnB B n ws b c) : TurnB B n ws a c := by
  refine ⟨h.1.trans k.1, fun g cs t m hg => ?_⟩
  rcases h.2 g cs t m hg with h1 | ⟨h1, h2, h3, A, d, h4, h5⟩
  · exact k.2 g cs t m h1
  · rcases k.2 g _ t m h4 with k1 | ⟨_, _, _, A', d', k4, k5⟩
    · exact .inr ⟨h1, h2, h3, A, d, k1, k.words h5⟩
    · exact .inr ⟨h1, h2, h3, A', d', k4, k5⟩
theorem TurnB.grows {B : Nat} {n : Int} {ws : List UInt64} {w w' : World} (hB : B ≤ w.heap.size) (h : Grows w w') : TurnB B n ws w w' := by
  refine ⟨h.mono hB, fun g cs t m hg => .inl ?_⟩
  rw [h.block g (Array.getElem?_eq_some_iff.1 hg).1]
  exact hg
theorem TurnB.dr (B : Nat) (n : Int) (ws : List UInt64) (w : World) : TurnB B n ws w { w with drawn := w.drawn + 1 } := ⟨⟨rfl, rfl, rfl, Nat.le_refl _, fun _ _ => rfl⟩, fun _ _ _ _ h => .inl h⟩
def RightB (H : Nat) (g : Nat) (n : Int) (ws : List UInt64) (w : World) : Prop := ∃ A c, Row w g 54 [.int .i64 n, .slice A ws.length c] ∧ Reads w (.slice A ws.length c) (ucells ws)
theorem RightB.lasts {B H g : Nat} {n : Int} {ws : List UInt64} {w w' : World} (h : RightB H g n ws w) (k : TurnB B n ws w w') : RightB H g n ws w' := by
  obtain ⟨A, c, h1, h2⟩ := h
  rcases k.2 g _ _ _ h1 with k1 | ⟨_, _, _, A', c', k1, k2⟩
  · exact ⟨A, c, k1, k.words h2⟩
  · exact ⟨A', c', k1, k2⟩
def FormB (H : Nat) : Value → World → Prop := fun v w => ∃ b a A k c, v = .pointer (some ⟨b, 0, none⟩) ∧ H ≤ b ∧ Row w b 54 [.int .i64 a, .slice A k c]
theorem FormB.lasts {B H : Nat} {n : Int} {ws : List UInt64} : ∀ v w w', FormB H v w → TurnB B n ws w w' → FormB H v w' := fun v w w' ⟨b, a, A, k, c, h1, h2, h3⟩ ht => by
  rcases ht.2 b _ _ _ h3 with k1 | ⟨_, _, _, A', c', k1, _⟩
  · exact ⟨b, a, A, k, c, h1, h2, k1⟩
  · exact ⟨b, n, A', ws.length, c', h1, h2, k1⟩
theorem TurnB.store {B g : Nat} {n : Int} {ws : List UInt64} {w : World} {a : Int} {A A' : Option Addr} {k c c' : Nat} (hB : B ≤ g) (h : Row w g 54 [.int .i64 a, .slice A k c]) (hr : Reads w (.slice A' ws.length c') (ucells ws)) :
    TurnB B n ws w (w.setRow g #[.int .i64 n, .slice A' ws.length c']) := by
  have hr' : Reads (w.setRow g #[.int .i64 n, .slice A' ws.length c']) (.slice A' ws.length c') (ucells ws) := by
    obtain ⟨A1, d, he, hle, hcell⟩ := hr
    refine ⟨A1, d, he, hle, fun hl => ?_⟩
    obtain ⟨q, off, hA, hq⟩ := hcell hl
    refine ⟨q, off, hA, fun j hj => ?_⟩
    have hj1 := hq j hj
    have hjl : j < ws.length := by rw [ucells_length] at hj; exact hj
    rw [ucells_get hjl] at hj1
    have hne : q ≠ g := by
      rintro rfl
      rw [h.cell (off + j)] at hj1
      match off + j, hj1 with
      | 0, hj1 => simp at hj1
      | 1, hj1 => simp at hj1
      | i + 2, hj1 => simp at hj1
    rw [ucells_get hjl, ← hj1]
    exact World.cell?_of_block (setRow_other w g q _ hne)
  refine ⟨below_setRow (Below.refl _ _) hB _, fun b cs t m hb => ?_⟩
  by_cases hbg : b = g
  · subst hbg
    have h0 : w.heap[b]? = some (.cells #[.int .i64 a, .slice A k c] 54 (0, 0)) := h
    rw [h0] at hb
    injection hb with hb
    injection hb with e1 e2 e3
    subst e1 e2 e3
    exact .inr ⟨hB, rfl, ⟨a, A, k, c, rfl⟩, A', c', setRow_heap w b _ _ _ _ h0, hr'⟩
  · exact .inl ((setRow_other w g b _ hbg).trans hb)
def tabX : List (Nat × (Value → Value → World → Prop)) → LooseX
  | [], _ => none
  | (j, R) :: L, i => if i = j then some R else tabX L i
theorem tabX_nil [SteQ] : (tabX []).lastsX := fun _ _ h => by cases h
theorem tabX_cons [SteQ] {j : Nat} {R : Value → Value → World → Prop} {L : List (Nat × (Value → Value → World → Prop))} (h : ∀ s v w w', R s v w → SteQ.T w w' → R s v w') (hL : (tabX L).lastsX) : (tabX ((j, R) :: L)).lastsX := fun i R' hR => by
  unfold tabX at hR
  split at hR
  · injection hR with hR; subst hR; exact h
  · exact hL i R' hR
end Go.Proofs.YthmipnokimlbdaaGreat
/-
  Shaken: what the claims of this seat need of this text. No condition.
-/
namespace Go.Proofs.YthmipnokimlbdaaGreat
set_option maxRecDepth 8000
open Go.RowKit
set_option linter.unusedVariables false
set_option linter.unusedSimpArgs false
def AllB (cs : Array Value) : Prop := ∀ u ∈ cs.toList, ∃ z : Int, u = .int .u8 z
def VForm (cs : Array Value) : Prop := ∃ (z : Int) (A1 : Option Addr) (n1 c1 : Nat) (A2 : Option Addr) (n2 c2 : Nat) (A3 : Option Addr) (n3 c3 : Nat), cs = #[.int .i64 z, .slice A1 n1 c1, .slice A2 n2 c2, .slice A3 n3 c3]
def RightR (g : Nat) (v : Vec) (t : TypeId) (m : Nat × Nat) (w : World) : Prop := ∃ a b c, w.heap[g]? = some (.cells #[.int .i64 v.T, a, b, c] t m) ∧ IsV w (.agg #[.int .i64 v.T, a, b, c]) v ∧ IntB w a
def TurnR (B n0 : Nat) (F : List Value) (v : Vec) (w w' : World) : Prop :=
  Below B w w' ∧ ∀ g cs t m, w.heap[g]? = some (.cells cs t m) → w'.heap[g]? = some (.cells cs t m) ∨
    (B ≤ g ∧ t = 5 ∧ AllB cs ∧ ∃ cs', w'.heap[g]? = some (.cells cs' t m) ∧ AllB cs' ∧ cs'.size = cs.size ∧ cs'.toList.take n0 = cs.toList.take n0 ∧ (cs.toList.take F.length = F → cs'.toList.take F.length = F)) ∨
    (B ≤ g ∧ t = 26 ∧ VForm cs ∧ RightR g v t m w')
theorem IsV.form {w : World} {t a b c : Value} {v : Vec} (h : IsV w (.agg #[t, a, b, c]) v) : VForm #[.int .i64 v.T, a, b, c] := by
  obtain ⟨x, y, z, he, h1, h2, h3⟩ := h
  obtain ⟨A1, c1, e1⟩ := h1.slice_
  obtain ⟨A2, c2, e2⟩ := h2.slice_
  obtain ⟨A3, c3, e3⟩ := h3.slice_
  have h4 : t = .int .i64 v.T ∧ a = x ∧ b = y ∧ c = z := by simpa using he
  obtain ⟨_, rfl, rfl, rfl⟩ := h4
  exact ⟨_, _, _, _, _, _, _, _, _, _, by rw [e1, e2, e3]⟩
theorem TurnR.re (B n0 : Nat) (F : List Value) (v : Vec) (w : World) : TurnR B n0 F v w w := ⟨Below.refl _ _, fun _ _ _ _ h => .inl h⟩
theorem TurnR.cell {B n0 : Nat} {F : List Value} {v : Vec} {w w' : World} (h : TurnR B n0 F v w w') {b k : Nat} {u : Value} (hc : w.cell? ⟨b, k, none⟩ = some u) (hu : ∀ z, u ≠ .int .u8 z) (hv : ∀ A n c, u ≠ .slice A n c)
    (hi : (∀ z, u ≠ .int .i64 z) ∨ ∃ cs m, w.heap[b]? = some (.cells cs 2 m)) : w'.cell? ⟨b, k, none⟩ = some u := by
  obtain ⟨cs, t, m, hb, hk⟩ := cell_row hc
  rcases h.2 b cs t m hb with h1 | ⟨_, _, hA, _⟩ | ⟨_, ht, hV, _⟩
  · rw [cell_of_row _ _ _ _ _ _ h1]; exact hk
  · obtain ⟨z, hz⟩ := hA u (by rw [← Array.getElem?_toList] at hk; exact List.mem_of_getElem? hk)
    exact absurd hz (hu z)
  · obtain ⟨z, A1, n1, c1, A2, n2, c2, A3, n3, c3, rfl⟩ := hV
    rcases hi with hi | ⟨cs2, m2, h2⟩
    · match k, hk with
      | 0, hk => simp at hk; exact absurd hk.symm (hi z)
      | 1, hk => simp at hk; exact absurd hk.symm (hv _ _ _)
      | 2, hk => simp at hk; exact absurd hk.symm (hv _ _ _)
      | 3, hk => simp at hk; exact absurd hk.symm (hv _ _ _)
      | i + 4, hk => simp at hk
    · rw [hb] at h2
      injection h2 with h2
      injection h2 with _ h3 _
      rw [ht] at h3
      exact absurd h3 (by decide)
theorem TurnR.reads {B n0 : Nat} {F : List Value} {v : Vec} {w w' : World} (h : TurnR B n0 F v w w') {x : Value} {xs : List Value} (hr : Reads w x xs) (hx : ∀ u ∈ xs, (∀ z, u ≠ .int .u8 z) ∧ (∀ A n c, u ≠ .slice A n c))
    (hi : (∀ u ∈ xs, ∀ z, u ≠ .int .i64 z) ∨ IntB w x) : Reads w' x xs := by
  obtain ⟨A, d, he, hle, hcell⟩ := hr
  refine ⟨A, d, he, hle, fun hl => ?_⟩
  obtain ⟨q, off, hA, hq⟩ := hcell hl
  refine ⟨q, off, hA, fun j hj => ?_⟩
  have hj1 := hq j hj
  rw [List.getElem?_eq_getElem hj] at hj1 ⊢
  have hm := List.getElem_mem hj
  refine h.cell hj1 (hx _ hm).1 (hx _ hm).2 ?_
  rcases hi with hi | hi
  · exact .inl (hi _ hm)
  · exact .inr (hi _ _ _ _ _ (by rw [he, hA]))
theorem TurnR.intB {B n0 : Nat} {F : List Value} {v : Vec} {w w' : World} (h : TurnR B n0 F v w w') {x : Value} (hi : IntB w x) : IntB w' x := fun b o s n c e => by
  obtain ⟨cs, m, h1⟩ := hi b o s n c e
  rcases h.2 b cs _ m h1 with h2 | ⟨_, ht, _⟩ | ⟨_, ht, _⟩
  · exact ⟨cs, m, h2⟩
  · exact absurd ht (by decide)
  · exact absurd ht (by decide)
theorem TurnR.isV {B n0 : Nat} {F : List Value} {v : Vec} {w w' : World} (h : TurnR B n0 F v w w') {t a b c : Value} {u : Vec} (hx : IsV w (.agg #[t, a, b, c]) u) (hi : IntB w a) : IsV w' (.agg #[t, a, b, c]) u := by
  obtain ⟨x, y, z, he, h1, h2, h3⟩ := hx
  have h4 : t = .int .i64 u.T ∧ a = x ∧ b = y ∧ c = z := by simpa using he
  obtain ⟨_, rfl, rfl, rfl⟩ := h4
  refine ⟨a, b, c, he, h.reads h1 (fun q hq => ?_) (.inr hi), h.reads h2 (fun q hq => ?_) (.inl fun q hq => ?_), h.reads h3 (fun q hq => ?_) (.inl fun q hq => ?_)⟩
  · obtain ⟨_, _, rfl⟩ := List.mem_map.1 hq; exact ⟨(fun _ h => by cases h), fun _ _ _ h => by cases h⟩
  · obtain ⟨_, _, rfl⟩ := List.mem_map.1 hq; exact ⟨(fun _ h => by cases h), fun _ _ _ h => by cases h⟩
  · obtain ⟨_, _, rfl⟩ := List.mem_map.1 hq; exact fun _ h => by cases h
  · obtain ⟨_, _, rfl⟩ := List.mem_map.1 hq; exact ⟨(fun _ h => by cases h), fun _ _ _ h => by cases h⟩
  · obtain ⟨_, _, rfl⟩ := List.mem_map.1 hq; exact fun _ h => by cases h
theorem TurnR.right {B n0 g : Nat} {F : List Value} {v : Vec} {t : TypeId} {m : Nat × Nat} {w w' : World} (k : TurnR B n0 F v w w') (ht : t = 26) (h : RightR g v t m w) : RightR g v t m w' := by
  obtain ⟨a, b, c, h1, h2, h3⟩ := h
  rcases k.2 g _ t m h1 with k1 | ⟨_, k2, _⟩ | ⟨_, _, _, k1⟩
  · exact ⟨a, b, c, k1, k.isV h2 h3, k.intB h3⟩
  · rw [ht] at k2; exact absurd k2 (by decide)
  · exact k1
theorem TurnR.tr {B n0 : Nat} {F : List Value} {v : Vec} {a b c : World} (h : TurnR B n0 F v a b) (k : TurnR B n0 F v b c) : TurnR B n0 F v a c := by
  refine ⟨h.1.trans k.1, fun g cs t m hg => ?_⟩
  rcases h.2 g cs t m hg with h1 | ⟨h1, h2, h3, cs', h4, h5, h6, h7, h8⟩ | ⟨h1, h2, h3, h4⟩
  · exact k.2 g cs t m h1
  · rcases k.2 g cs' t m h4 with k1 | ⟨_, _, _, cs2, k4, k5, k6, k7, k8⟩ | ⟨_, k2, _⟩
    · exact .inr (.inl ⟨h1, h2, h3, cs', k1, h5, h6, h7, h8⟩)
    · exact .inr (.inl ⟨h1, h2, h3, cs2, k4, k5, k6.trans h6, k7.trans h7, fun e => k8 (h8 e)⟩)
    · rw [h2] at k2; exact absurd k2 (by decide)
  · exact .inr (.inr ⟨h1, h2, h3, k.right h2 h4⟩)
theorem TurnR.grows {B n0 : Nat} {F : List Value} {v : Vec} {w w' : World} (hB : B ≤ w.heap.size) (h : Grows w w') : TurnR B n0 F v w w' := by
  refine ⟨h.mono hB, fun g cs t m hg => .inl ?_⟩
  rw [h.block g (Array.getElem?_eq_some_iff.1 hg).1]
  exact hg
theorem TurnR.dr (B n0 : Nat) (F : List Value) (v : Vec) (w : World) : TurnR B n0 F v w { w with drawn := w.drawn + 1 } := ⟨⟨rfl, rfl, rfl, Nat.le_refl _, fun _ _ => rfl⟩, fun _ _ _ _ h => .inl h⟩
abbrev turnRSte (B n0 : Nat) (F : List Value) (v : Vec) : SteQ := ⟨TurnR B n0 F v, TurnR.re B n0 F v, TurnR.tr, TurnR.dr B n0 F v⟩
def OwnU (B n : Nat) (xs : List Value) : Value → World → Prop := fun v w => ∃ g cap cs, v = .slice (some ⟨g, 0, none⟩) n cap ∧ B ≤ g ∧ w.heap[g]? = some (.cells cs 5 (0, 0)) ∧ AllB cs ∧ cs.size = cap ∧ n ≤ cap ∧ cap ≤ maxLen ∧ cs.toList.take n = xs
theorem OwnU.lasts {B n0 n : Nat} {F xs : List Value} {u : Vec} (hx : ∀ cs cs' : List Value, cs'.take n0 = cs.take n0 → (cs.take F.length = F → cs'.take F.length = F) → cs.take n = xs → cs'.take n = xs) :
    ∀ v w w', OwnU B n xs v w → TurnR B n0 F u w w' → OwnU B n xs v w' := fun v w w' ⟨g, cap, cs, h1, h2, h3, h4, h5, h6, h7, h8⟩ k => by
  rcases k.2 g cs _ _ h3 with k1 | ⟨_, _, _, cs', k4, k5, k6, k7, k8⟩ | ⟨_, k2, _⟩
  · exact ⟨g, cap, cs, h1, h2, k1, h4, h5, h6, h7, h8⟩
  · exact ⟨g, cap, cs', h1, h2, k4, k5, k6.trans h5, h6, h7, hx _ _ k7 k8 h8⟩
  · exact absurd k2 (by decide)
theorem OwnU.bytes {B : Nat} {l : List UInt8} {v : Value} {w : World} (h : OwnU B l.length (bcells l) v w) : ∃ g cap, v = .slice (some ⟨g, 0, none⟩) l.length cap ∧ l.length ≤ cap ∧ IsBytes w (.slice (some ⟨g, 0, none⟩) l.length cap) l := by
  obtain ⟨g, cap, cs, h1, h2, h3, h4, h5, h6, h7, h8⟩ := h
  refine ⟨g, cap, h1, h6, (IsBytes.of_own (base := B) (e := 5) (n := l.length) ⟨by rw [bcells_length, Nat.mul_one], .inr ⟨g, cap, cs, rfl, h2, h3, h6, h7, by rw [h5, Nat.mul_one], by rw [Nat.mul_one]; exact h8⟩⟩)⟩
theorem bcells_u8 (l : List UInt8) : ∀ u ∈ bcells l, ∃ z : Int, u = .int .u8 z := fun u hu => by
  obtain ⟨c, _, rfl⟩ := List.mem_map.1 hu
  exact ⟨_, rfl⟩
theorem zero_u8 (k : Nat) : ∀ u ∈ (Builtin.zeroCells #[Value.int .u8 0] k).toList, ∃ z : Int, u = .int .u8 z := fun u hu => by
  simp [Builtin.zeroCells] at hu
  obtain ⟨i, _, rfl⟩ := hu
  exact ⟨0, by simp [Nat.mod_one]⟩
theorem bytes_cells {w : World} {ad : Addr} {n c : Nat} {l : List UInt8} (hu : IsBytes w (.slice (some ad) n c) l) : n = l.length ∧ ∀ j x, (bcells l)[j]? = some x → w.cell? (ad.add j) = some x := by
  obtain ⟨A, c', he, hc⟩ := hu
  injection he with e1 e2 e3
  subst e1 e2
  refine ⟨rfl, fun j x hx => ?_⟩
  have hj : j < l.length := by
    rcases Nat.lt_or_ge j l.length with h | h
    · exact h
    · rw [List.getElem?_eq_none (by rw [bcells_length]; exact h)] at hx; cases hx
  obtain ⟨b, off, h, hcell⟩ := hc (by omega)
  injection h with h
  subst h
  rw [Addr.add_lit, hcell j hj]
  simpa [bcells, hj] using hx
theorem app_grow {wr : World} {B : Nat} {pre l : List UInt8} {v u : Value} (hv : OwnU B pre.length (bcells pre) v wr) (hcap : ∀ g cap, v = .slice (some ⟨g, 0, none⟩) pre.length cap → cap < pre.length + l.length) (hu : IsBytes wr u l) (hl : 0 < l.length)
    (hlen : pre.length + l.length ≤ 140737488355328) (hB : B ≤ wr.heap.size) :
    ∃ v' w', (Builtin.append_ #[29, 29] 29 #[v, u]).run Tryz.prog wr = .ok v' w' ∧ OwnU B (pre ++ l).length (bcells (pre ++ l)) v' w' ∧ Grows wr w' := by
  obtain ⟨i0, hi, hz0, hz1, hz2⟩ := info_parts info_u8
  obtain ⟨g, cap, cs, rfl, h2, h3, h4, h5, h6, h7, h8⟩ := hv
  have hc2 := hcap g cap rfl
  obtain ⟨A, c, rfl, hc⟩ := id hu
  obtain ⟨b, off, rfl, _⟩ := hc hl
  obtain ⟨_, hcells⟩ := bytes_cells hu
  have hown : wr.ownsRow B 5 1 (.slice (some ⟨g, 0, none⟩) pre.length cap) pre.length (bcells pre) := ⟨by rw [bcells_length, Nat.mul_one], .inr ⟨g, cap, cs, rfl, h2, h3, h6, h7, by rw [h5, Nat.mul_one], by rw [Nat.mul_one]; exact h8⟩⟩
  have hge := grownCap_ge wr (pre.length + l.length) cap 5
  have hr := run_append_grow (P := Tryz.prog) wr 29 29 5 i0 (.int .u8 0) Tryz.underlying29 hi hz0 ⟨g, 0, none⟩ pre.length cap (bcells pre) (by rw [bcells_length, hz1, Nat.mul_one]) (hown.cells (g := g) rfl)
    ⟨b, off, none⟩ l.length c (bcells l) (by rw [bcells_length, hz1, Nat.mul_one]) hcells hc2 (by omega) (growslice_fits hc2 (by rw [hz2]; omega))
  refine ⟨_, _, hr, ⟨wr.heap.size, _, _, by rw [List.length_append], hB, heap_alloc_new wr.drew _, ?_, ?_, by rw [List.length_append]; exact hge, grownCap_le_maxLen wr _ _ _ (by unfold maxLen; omega), ?_⟩, ?_⟩
  · intro x hx
    simp only [Array.toList_append, List.mem_append, Value.cells] at hx
    rcases hx with (hx | hx) | hx
    · exact bcells_u8 _ _ hx
    · exact bcells_u8 _ _ hx
    · exact zero_u8 _ _ hx
  · simp only [Array.size_append, List.size_toArray, size_zeroCells, bcells_length, Value.cells]
    simp
    omega
  · simp only [Array.toList_append]
    rw [bcells_append, List.take_append_of_le_length (by simp [bcells_length]), List.take_of_length_le (by simp [bcells_length])]
  · exact ((Below.refl _ _).drew).alloc (Nat.le_refl _) _
theorem app_own {wr : World} {B : Nat} {pre l : List UInt8} {v u : Value} {vec : Vec} (hv : OwnU B pre.length (bcells pre) v wr) (hu : IsBytes wr u l)
    (hlen : pre.length + l.length ≤ 140737488355328) (hB : B ≤ wr.heap.size) :
    ∃ v' w', (Builtin.append_ #[29, 29] 29 #[v, u]).run Tryz.prog wr = .ok v' w' ∧ OwnU B (pre ++ l).length (bcells (pre ++ l)) v' w' ∧ TurnR B pre.length (bcells (pre ++ l)) vec wr w' := by
  obtain ⟨i0, hi, hz0, hz1, hz2⟩ := info_parts info_u8
  by_cases hl : l = []
  · subst hl
    obtain ⟨A, c, rfl, hc⟩ := hu
    obtain ⟨g, cap, cs, rfl, h2, h3, h4, h5, h6, h7, h8⟩ := id hv
    have hown : wr.ownsRow B 5 1 (.slice (some ⟨g, 0, none⟩) pre.length cap) pre.length (bcells pre) := ⟨by rw [bcells_length, Nat.mul_one], .inr ⟨g, cap, cs, rfl, h2, h3, h6, h7, by rw [h5, Nat.mul_one], by rw [Nat.mul_one]; exact h8⟩⟩
    cases A with
    | none => exact ⟨_, wr, run_append_nothing Tryz.underlying29 hi hown c, by simpa using hv, TurnR.re _ _ _ _ _⟩
    | some ad =>
      have hr := run_append_room (P := Tryz.prog) wr 29 29 5 i0 Tryz.underlying29 hi g pre.length cap cs h3 ad 0 c [] (by simp) (by simp) (by simp) (by omega) (by rw [hz1]; simp; omega)
      have e : (cs.toList.take (pre.length * i0.size) ++ [] ++ cs.toList.drop (pre.length * i0.size + ([] : List Value).length)).toArray = cs := by simp
      rw [e] at hr
      refine ⟨_, _, hr, ⟨g, cap, cs, by simp, h2, setRow_heap wr g _ _ _ _ h3, h4, h5, by simpa using h6, h7, by simpa using h8⟩, below_setRow (Below.refl _ _) h2 _, fun k cs2 t m hk => .inl ?_⟩
      by_cases hkg : k = g
      · subst hkg
        rw [h3] at hk
        injection hk with hk
        injection hk with e1 e2 e3
        subst e1 e2 e3
        exact setRow_heap wr k _ _ _ _ h3
      · exact (setRow_other wr g k _ hkg).trans hk
  · have hl0 : 0 < l.length := List.length_pos_iff.2 hl
    obtain ⟨g, cap, cs, rfl, h2, h3, h4, h5, h6, h7, h8⟩ := id hv
    by_cases hroom : pre.length + l.length ≤ cap
    · obtain ⟨A, c, rfl, hc⟩ := id hu
      obtain ⟨b, off, rfl, _⟩ := hc hl0
      obtain ⟨_, hcells⟩ := bytes_cells hu
      have hr := run_append_room (P := Tryz.prog) wr 29 29 5 i0 Tryz.underlying29 hi g pre.length cap cs h3 ⟨b, off, none⟩ l.length c (bcells l) (by rw [bcells_length, hz1, Nat.mul_one]) hcells (oneCell_bcells l) hroom (by rw [hz1, bcells_length, h5, Nat.mul_one]; exact hroom)
      rw [hz1, Nat.mul_one, bcells_length, h8, ← bcells_append] at hr
      have hsz : (bcells (pre ++ l) ++ cs.toList.drop (pre.length + l.length)).toArray.size = cs.size := by
        simp only [List.size_toArray, List.length_append, bcells_length, List.length_drop, Array.length_toList, h5]
        omega
      have hal : AllB (bcells (pre ++ l) ++ cs.toList.drop (pre.length + l.length)).toArray := fun x hx => by
        simp only [List.toList_toArray, List.mem_append] at hx
        rcases hx with hx | hx
        · exact bcells_u8 _ _ hx
        · exact h4 _ (List.mem_of_mem_drop hx)
      have htk : (bcells (pre ++ l) ++ cs.toList.drop (pre.length + l.length)).take (bcells (pre ++ l)).length = bcells (pre ++ l) := List.take_left
      refine ⟨_, _, hr, ⟨g, cap, _, by rw [List.length_append], h2, setRow_heap wr g _ _ _ _ h3, hal, hsz.trans h5, by rw [List.length_append]; exact hroom, h7, ?_⟩, below_setRow (Below.refl _ _) h2 _, fun k cs2 t m hk => ?_⟩
      · rw [bcells_length] at htk; exact htk
      · by_cases hkg : k = g
        · subst hkg
          rw [h3] at hk
          injection hk with hk
          injection hk with e1 e2 e3
          subst e1 e2 e3
          refine .inr (.inl ⟨h2, rfl, h4, _, setRow_heap wr k _ _ _ _ h3, hal, hsz, ?_, fun _ => htk⟩)
          rw [h8]
          show (bcells (pre ++ l) ++ _).take pre.length = _
          rw [bcells_append, List.append_assoc, List.take_append_of_le_length (by rw [bcells_length]; exact Nat.le_refl _), List.take_of_length_le (by rw [bcells_length]; exact Nat.le_refl _)]
        · exact .inl ((setRow_other wr g k _ hkg).trans hk)
    · obtain ⟨v', w', hr, ho, hg⟩ := app_grow hv (fun g' cap' e => by injection e with _ _ e; omega) hu hl0 hlen hB
      exact ⟨v', w', hr, ho, TurnR.grows hB hg⟩
def FormV (B : Nat) : Value → World → Prop := fun v w => ∃ g cs, v = .pointer (some ⟨g, 0, none⟩) ∧ B ≤ g ∧ w.heap[g]? = some (.cells cs 26 (0, 0)) ∧ VForm cs
theorem FormV.lasts {B n0 : Nat} {F : List Value} {u : Vec} : ∀ v w w', FormV B v w → TurnR B n0 F u w w' → FormV B v w' := fun v w w' ⟨g, cs, h1, h2, h3, h4⟩ k => by
  rcases k.2 g cs _ _ h3 with k1 | ⟨_, k2, _⟩ | ⟨_, _, _, a, b, c, k1, k2, _⟩
  · exact ⟨g, cs, h1, h2, k1, h4⟩
  · exact absurd k2 (by decide)
  · exact ⟨g, _, h1, h2, k1, k2.form⟩
def DecTV (v : Vec) (q : Int) : Value → World → Prop := fun x w => ∃ A1 c1 A2 c2 A3 c3, x = .tuple #[.agg #[.int .i64 v.T, .slice A1 v.is.length c1, .slice A2 v.ts.length c2, .slice A3 v.ns.length c3], .int .i64 q, .int .i64 0] ∧
  IsV w (.agg #[.int .i64 v.T, .slice A1 v.is.length c1, .slice A2 v.ts.length c2, .slice A3 v.ns.length c3]) v ∧ IntB w (.slice A1 v.is.length c1)
theorem DecTV.lasts {B n0 : Nat} {F : List Value} {u v : Vec} {q : Int} : ∀ x w w', DecTV v q x w → TurnR B n0 F u w w' → DecTV v q x w' := fun x w w' ⟨A1, c1, A2, c2, A3, c3, h1, h2, h3⟩ k => ⟨A1, c1, A2, c2, A3, c3, h1, k.isV h2 h3, k.intB h3⟩
theorem dec_loose {f : FuncId} {args : Array Value} {w : World} {v : Vec} {q : Int} (h : Calls Tryz.prog f args w (DecI (v, q, 0) w)) : Calls Tryz.prog f args w fun e w' => ∃ x, e = .returned x ∧ Grows w w' ∧ DecTV v q x w' :=
  h.mono fun _ _ ⟨t, a, b, c, he, hx, hg, hi⟩ => by
    obtain ⟨x, y, z, e1, h1, h2, h3⟩ := id hx
    have h4 : t = .int .i64 v.T ∧ a = x ∧ b = y ∧ c = z := by simpa using e1
    obtain ⟨rfl, rfl, rfl, rfl⟩ := h4
    obtain ⟨A1, c1, rfl⟩ := h1.slice_
    obtain ⟨A2, c2, rfl⟩ := h2.slice_
    obtain ⟨A3, c3, rfl⟩ := h3.slice_
    exact ⟨_, he, hg, A1, c1, A2, c2, A3, c3, rfl, hx, hi⟩
theorem TurnR.store {B n0 g : Nat} {F : List Value} {v : Vec} {w : World} {cs : Array Value} {a b c : Value} (hB : B ≤ g) (h : w.heap[g]? = some (.cells cs 26 (0, 0))) (hf : VForm cs) (hx : IsV w (.agg #[.int .i64 v.T, a, b, c]) v) (hi : IntB w a) :
    TurnR B n0 F v w (w.setRow g #[.int .i64 v.T, a, b, c]) ∧ RightR g v 26 (0, 0) (w.setRow g #[.int .i64 v.T, a, b, c]) := by
  have hbg : ∀ q o s n d, a = .slice (some ⟨q, o, s⟩) n d → q ≠ g := by
    rintro q o s n d e rfl
    obtain ⟨cs2, m, h1⟩ := hi q o s n d e
    rw [h] at h1
    injection h1 with h1
    injection h1 with _ h2 _
    exact absurd h2 (by decide)
  obtain ⟨z, A1, n1, c1, A2, n2, c2, A3, n3, c3, rfl⟩ := hf
  obtain ⟨x, y, u, e1, h1, h2, h3⟩ := id hx
  have h4 : (.int .i64 v.T : Value) = .int .i64 v.T ∧ a = x ∧ b = y ∧ c = u := by simpa using e1
  obtain ⟨_, rfl, rfl, rfl⟩ := h4
  have hrow : Row w g 26 [.int .i64 z, .slice A1 n1 c1, .slice A2 n2 c2, .slice A3 n3 c3] := h
  have hR : RightR g v 26 (0, 0) (w.setRow g #[.int .i64 v.T, a, b, c]) := by
    refine ⟨a, b, c, setRow_heap w g _ _ _ _ h, ⟨a, b, c, rfl, Reads.other_row h1 hbg _, ?_, ?_⟩, fun q o s n d e => ?_⟩
    · exact Reads.not_row h2 hrow (fun x hx => by obtain ⟨y, _, rfl⟩ := List.mem_map.1 hx; refine ⟨?_, ?_, ?_, ?_⟩ <;> exact fun h => by cases h) _
    · exact Reads.not_row h3 hrow (fun x hx => by obtain ⟨y, _, rfl⟩ := List.mem_map.1 hx; refine ⟨?_, ?_, ?_, ?_⟩ <;> exact fun h => by cases h) _
    · obtain ⟨cs2, m, h5⟩ := hi q o s n d e
      exact ⟨cs2, m, (setRow_other w g q _ (hbg q o s n d e)).trans h5⟩
  refine ⟨⟨below_setRow (Below.refl _ _) hB _, fun k cs2 t m hk => ?_⟩, hR⟩
  by_cases hkg : k = g
  · subst hkg
    rw [h] at hk
    injection hk with hk
    injection hk with e1 e2 e3
    subst e1 e2 e3
    exact .inr (.inr ⟨hB, rfl, ⟨_, _, _, _, _, _, _, _, _, _, rfl⟩, hR⟩)
  · exact .inl ((setRow_other w g k _ hkg).trans hk)
theorem store_run_vec {o : Oper} {a : Act} {w : World} (x y : Operand) (ho : o.op = .store 26 x y) (g : Nat) (t : Int) (A1 A2 A3 : Option Addr) (n1 c1 n2 c2 n3 c3 : Nat) (hx : a.eval x = .pointer (some ⟨g, 0, none⟩)) (hy : a.eval y = .agg #[.int .i64 t, .slice A1 n1 c1, .slice A2 n2 c2, .slice A3 n3 c3])
    {cs : Array Value} (hr : w.heap[g]? = some (.cells cs 26 (0, 0))) (hf : VForm cs) : (execOp a.eval o).run Tryz.prog w = .ok .skip (w.setRow g #[.int .i64 t, .slice A1 n1 c1, .slice A2 n2 c2, .slice A3 n3 c3]) := by
  obtain ⟨z, B1, m1, d1, B2, m2, d2, B3, m3, d3, rfl⟩ := hf
  unfold execOp
  simp only [ho, hx, hy, Instr.storeAt, Instr.sureAddr, Sem.run_bind, Sem.run_pure, Result.andThen_ok, run_storeVar_row (P := Tryz.prog) w g _ 26 _ #[.int .i64 t, .slice A1 n1 c1, .slice A2 n2 c2, .slice A3 n3 c3] hr sizeVec rfl (by simp [Value.oneCell'])]
end Go.Proofs.YthmipnokimlbdaaGreat
/-
  Shaken: what the claims of this seat need of this text. No condition.
-/
namespace Go.Proofs.YthmipnokimlbdaaGreat
open Go.RowKit
set_option linter.unusedVariables false
set_option linter.unusedSimpArgs false
def EmpU (B : Nat) : Value → World → Prop := fun v w => (∃ g, v = .slice (some ⟨g, 0, none⟩) 0 0) ∧ OwnU B 0 [] v w
theorem EmpU.lasts {B n0 : Nat} {F : List Value} {u : Vec} : ∀ v w w', EmpU B v w → TurnR B n0 F u w w' → EmpU B v w' := fun v w w' h k => ⟨h.1, OwnU.lasts (fun _ _ _ _ _ => rfl) v w w' h.2 k⟩
theorem app_exec {o : Oper} {a : Act} {w w' : World} {v u x : Value} (s y : Operand) (ho : o.op = .call { callee := .builtin .append, args := #[s, y], argTypes := #[29, 29] }) (hty : o.type = 29)
    (hs : a.eval s = v) (hy : a.eval y = u) (hr : (Builtin.append_ #[29, 29] 29 #[v, u]).run Tryz.prog w = .ok x w') : (execOp a.eval o).run Tryz.prog w = .ok (.value x) w' := by
  unfold execOp
  simp only [ho, hty, resolve, invoke, builtin, Sem.run_bind, Sem.run_pure, Result.andThen_ok, List.map_toArray, List.map_cons, List.map_nil, hs, hy, hr]
def RtRel (w3 : World) (i : Value) (wr : World) : Prop := ∃ j : Nat, j ≤ 6 ∧ i = .int .i64 (j : Int) ∧ Grows w3 wr
set_option maxRecDepth 20000 in
set_option maxHeartbeats 16000000 in
theorem law_roundtrip12 (x : Value) (v : Vec) (AF : Option Addr) (cF : Nat) (af : List UInt8) (w : World) (hx : IsV w x v) (hs : Small v) (hb : IsBytes w (.slice AF af.length cF) af) :
    Calls Tryz.prog 6 #[x, .slice AF af.length cF] w fun e w' => e = .returned (.bool true) ∧ Below w.heap.size w w' := by
  have HSM := hidden (fun W (h : Grows w W) => small12_if x v W (hx.grow h) hs)
  have HED := hidden (fun W (h : Grows w W) => rencodable_any x v W (hx.grow h) hs)
  have HLV := hidden (fun W => lives_any W)
  have HLN := hidden (fun W (h : Grows w W) => rlen_any x v W (hx.grow h))
  have HEN := hidden (fun k W (h : Grows w W) => eEncode_any x v k W (hx.grow h) hs)
  have HXV := hidden (fun W (h : Grows w W) => hx.grow h)
  have HAF := hidden hb
  clear hb
  obtain ⟨a1, a2, a3, rfl, i1, i2, i3⟩ := hx
  obtain ⟨A1, c1, rfl⟩ := i1.slice_
  obtain ⟨A2, c2, rfl⟩ := i2.slice_
  obtain ⟨A3, c3, rfl⟩ := i3.slice_
  obtain ⟨T, hT⟩ : ∃ T, v.T = T := ⟨_, rfl⟩
  obtain ⟨n1, hn1⟩ : ∃ n, v.is.length = n := ⟨_, rfl⟩
  obtain ⟨n2, hn2⟩ : ∃ n, v.ts.length = n := ⟨_, rfl⟩
  obtain ⟨n3, hn3⟩ : ∃ n, v.ns.length = n := ⟨_, rfl⟩
  rw [hT, hn1, hn2, hn3] at HSM HED HEN HXV ⊢
  rw [hT, hn1, hn2, hn3] at HLN
  have HG0 := hidden (growB w (.cells #[.int .i64 T, .slice A1 n1 c1, .slice A2 n2 c2, .slice A3 n3 c3] 26))
  have HR0 := hidden (Row.new w 26 #[.int .i64 T, .slice A1 n1 c1, .slice A2 n2 c2, .slice A3 n3 c3] [.int .i64 T, .slice A1 n1 c1, .slice A2 n2 c2, .slice A3 n3 c3] rfl)
  have HSS := hidden hs
  clear i1 i2 i3 hs
  go_enter Tryz.func6, Tryz.ntmps6
  go_wp2_with fail
  refine (HSM.out _ HG0.out).mono ?_
  rintro e w1 ⟨sm, rfl, hsm, g1⟩
  have HSI := hidden hsm
  clear hsm
  have HG1 := hidden (HG0.out.of_below g1)
  have HR1 := hidden (HR0.out.grow g1)
  have x0 := HR1.out.cell 0
  have x1 := HR1.out.cell 1
  have x2 := HR1.out.cell 2
  have x3 := HR1.out.cell 3
  simp only [List.getElem?_cons_succ, List.getElem?_cons_zero] at x0 x1 x2 x3
  clear g1
  obtain ⟨ok, hok⟩ : ∃ b, okV v = b := ⟨_, rfl⟩
  rw [hok] at HED
  cases sm
  · clear hT hn1 hn2 hn3 hok
    go_wp2_with (go_at_call 10; refine (HLV.out _).mono ?_; rintro e w2 ⟨rfl, g2⟩; have HG2 := hidden (HG1.out.of_below g2); clear g2)
    go_ret
    exact ⟨rfl, HG2.out⟩
  cases ok
  · clear hT hn1 hn2 hn3 hok
    go_wp2_with (first
      | (go_at_call 13; refine (HED.out _ HG1.out).mono ?_; rintro e w2 ⟨rfl, g2⟩; have HG2 := hidden (HG1.out.of_below g2); clear g2)
      | (go_at_call 10; refine (HLV.out _).mono ?_; rintro e w3 ⟨rfl, g3⟩; have HG3 := hidden (HG2.out.of_below g3); clear g3))
    go_ret
    exact ⟨rfl, HG3.out⟩
  by_cases ha : 100 < af.length
  · have d1 : decide ((100 : Int) < (af.length : Int)) = true := by simp; omega
    clear hT hn1 hn2 hn3 hok ha
    go_wp2_with (first
      | (go_at_call 13; refine (HED.out _ HG1.out).mono ?_; rintro e w2 ⟨rfl, g2⟩; have HG2 := hidden (HG1.out.of_below g2); clear g2)
      | (go_at_call 10; refine (HLV.out _).mono ?_; rintro e w3 ⟨rfl, g3⟩; have HG3 := hidden (HG2.out.of_below g3); clear g3))
    go_ret
    exact ⟨rfl, HG3.out⟩
  have d1 : decide ((100 : Int) < (af.length : Int)) = false := by simp; omega
  have hE := okV_iff.1 hok
  have hz : szV v ≤ 10000 := of_decide_eq_true (HSI.out hE).symm
  have hfine := HSS.out.fine hE
  have hsm := hE.small HSS.out.2.2.2
  have HRE := hidden (fun y W h1 h2 => requalV_same y (.agg #[.int .i64 T, .slice A1 n1 c1, .slice A2 n2 c2, .slice A3 n3 c3]) v W h1 h2 (by have := hfine.li; omega) (by have := hfine.lt; omega) (by have := hE.len; omega))
  have HDX := hidden (fun k (ha : apl k v.T = true) => show decF (formE k v ++ af) T (n3 : Int) = (v, ((formE k v).length : Int), 0) from by
    have h := decF_enc hE ha HSS.out.2.2.2 af
    rwa [hn3, hT] at h)
  have HLF := hidden (fun k => pay_small (k := k) hfine hz)
  have HAP := hidden (fun (k : Nat) (hk : k < 6) => (⟨fun ha => encF_ap hok hk ha, fun ha => encF_no hok hk ha⟩ : (apl k v.T = true → encFV v k = (formE k v, 0)) ∧ (apl k v.T = false → encFV v k = ([], 7))))
  have HRA := hidden (fun (k : Nat) W => rapplies_any T (k : Int) W)
  have hok3 : okT T = true := by rw [← hT]; exact hE.t
  simp only [aplR_eq hok3] at HRA
  have HTT := hidden hT
  have hal : af.length ≤ 100 := by omega
  have HN1 := hidden (And.intro hT (And.intro hn1 (And.intro hn2 hn3)))
  clear hE hz hfine hsm HSI HSS HSM hok hok3 hT hn1 hn2 hn3 ha
  go_wp2_with ((go_at_call 13; refine (HED.out _ HG1.out).mono ?_; rintro e w3 ⟨rfl, g3⟩; have HG3 := hidden (HG1.out.of_below g3); have HR3 := hidden (HR1.out.grow g3); clear g3 x0 x1 x2 x3))
  go_loopw [5, 6, 7, 8, 9, 10] (fun i _ _ _ _ _ wr => RtRel w3 i wr) (fun i _ _ _ _ _ _ => 6 - (intOf i).toNat)
  case atStart => exact ⟨0, by omega, rfl, Below.refl _ _⟩
  case round =>
    obtain ⟨k, hk, rfl, hb⟩ := hrel
    have HB := hidden hb
    have HGW := hidden (HG3.out.of_below hb)
    have HRW := hidden (HR3.out.grow hb)
    have x0 := HRW.out.cell 0
    have x1 := HRW.out.cell 1
    have x2 := HRW.out.cell 2
    have x3 := HRW.out.cell 3
    simp only [List.getElem?_cons_succ, List.getElem?_cons_zero] at x0 x1 x2 x3
    clear hb
    by_cases hlt : k < 6
    · have HENK := hidden (HEN.out (k : Int) wr HGW.out)
      have HRAK := hidden (HRA.out k)
      have HLT := hidden hlt
      obtain ⟨ap, hap⟩ : ∃ b, apl k v.T = b := ⟨_, rfl⟩
      rw [← HTT.out] at HRAK
      rw [hap] at HRAK
      rw [HTT.out] at HRAK
      cases ap
      · rw [(HAP.out k hlt).2 hap] at HENK
        clear hap
        go_wp2_with fail
        refine HENK.out.mono ?_
        rintro e w5 ⟨u5, rfl, g5, A5, c5, rfl, _, _⟩
        have HB5 := hidden (HB.out.of_below g5)
        have HRW5 := hidden (HRW.out.grow g5)
        clear x0 x1 x2 x3
        have x0 := HRW5.out.cell 0
        have x1 := HRW5.out.cell 1
        have x2 := HRW5.out.cell 2
        have x3 := HRW5.out.cell 3
        simp only [List.getElem?_cons_succ, List.getElem?_cons_zero] at x0 x1 x2 x3
        simp only [List.length_nil]
        clear g5
        go_wp2_with ((go_at_call 25; refine (HRAK.out _).mono ?_; rintro e w6 ⟨rfl, rfl⟩))
        go_roundw
        case rel => exact ⟨k + 1, by omega, by go_num, HB5.out⟩
        case measure => simp [intOf]; omega
      · rw [(HAP.out k hlt).1 hap] at HENK
        have HDXK := hidden (HDX.out k hap)
        have HLFK := hidden (HLF.out k)
        have HFN := hidden (show 0 < (formE k v).length by unfold formE; rw [List.length_cons]; omega)
        obtain ⟨fk, hfk⟩ : ∃ f, formE k v = f := ⟨_, rfl⟩
        rw [hfk] at HENK HDXK HLFK HFN
        clear hap hfk
        go_wp2_with fail
        refine HENK.out.mono ?_
        rintro e w5 ⟨u5, rfl, g5, A5, c5, rfl, hl5, hb5⟩
        simp only [] at hl5 hb5 ⊢
        have HB5 := hidden (HB.out.of_below g5)
        have HGW5 := hidden (HGW.out.of_below g5)
        have HRW5 := hidden (HRW.out.grow g5)
        have HY5 := hidden hb5
        have HAF5 := hidden (HAF.out.grow HGW5.out)
        have HDE := hidden (fun (g4 cap4 : Nat) W hbb hlc => eDecodeI_any (some ⟨g4, 0, none⟩) cap4 (fk ++ af) T (n3 : Int) W hbb hlc (by rw [List.length_append]; have := HLFK.out; omega))
        rw [HDXK.out] at HDE
        clear g5 hl5 hb5 x0 x1 x2 x3
        go_wp2_with fail
        letI : SteQ := turnRSte w5.heap.size fk.length (bcells (fk ++ af)) v
        refine wp_region_looseX (tabX [(0, fun _ => EmpU w5.heap.size), (2, fun _ => OwnU w5.heap.size fk.length (bcells fk)), (4, fun _ => OwnU w5.heap.size (fk ++ af).length (bcells (fk ++ af))), (8, fun _ => ConstV (.int .i64 (n3 : Int))), (9, fun _ => DecTV v (fk.length : Int)), (14, fun _ => FormV w5.heap.size), (15, fun s _ w' => ∀ b, s = .pointer (some ⟨b, 0, none⟩) → RightR b v 26 (0, 0) w')]) (by kernel_rfl) (by kernel_rfl)
          (tabX_cons (fun _ => EmpU.lasts) (tabX_cons (fun _ => OwnU.lasts (fun cs cs' h1 _ h3 => h1.trans h3)) (tabX_cons (fun _ => OwnU.lasts (fun cs cs' _ h2 h3 => by rw [← bcells_length] at h3 ⊢; exact h2 h3)) (tabX_cons (fun _ _ _ _ h _ => h) (tabX_cons (fun _ => DecTV.lasts) (tabX_cons (fun _ => FormV.lasts) (tabX_cons (fun s v w w' h ht b hb => TurnR.right ht rfl (h b hb)) tabX_nil))))))) ?_
        refine loose_newX (R := fun _ => EmpU w5.heap.size) (by rfl) (by rfl) (fun w' hC' hG' => ?_) ?_
        · have hT := (show TurnR w5.heap.size fk.length (bcells (fk ++ af)) v w5 w' from hC')
          exact ⟨.slice (some ⟨w'.heap.size, 0, none⟩) 0 0, w'.alloc (.cells #[] 5), by first | rfl | go_simp, TurnR.grows hT.1.size (growB _ _), ⟨_, rfl⟩, w'.heap.size, 0, #[], rfl, hT.1.size, heap_alloc_new w' _, by simp [AllB], rfl, Nat.le_refl _, by decide, rfl⟩
        rintro _ ⟨_, _, ⟨g0, rfl⟩, _⟩
        refine ⟨?_, ?_, ?_⟩
        rotate_left
        · go_simp
          rfl
        iterate 1 ((with_reducible refine loose_oneX (v := ?_) (a' := ?_) ?_ ?_ (fun w' hC' hG' => ?_) ?_ ?_); rotate_left 2; (focus rfl); (focus rfl); (focus (have hT := (show TurnR w5.heap.size fk.length (bcells (fk ++ af)) v w5 w' from hC'); clear hC' hG' hT; go_simp; rfl)); (focus (go_simp; rfl)))
        refine loose_newX (R := fun _ => OwnU w5.heap.size fk.length (bcells fk)) (by rfl) (by rfl) (fun w' hC' hG' => ?_) ?_
        · have hT := (show TurnR w5.heap.size fk.length (bcells (fk ++ af)) v w5 w' from hC')
          have h0 : EmpU w5.heap.size (.slice (some ⟨g0, 0, none⟩) 0 0) w' := (hG' 0 (by kernel_rfl)).2 rfl
          obtain ⟨v', w2, hr, ho, hg⟩ := app_grow (pre := []) (l := fk) h0.2 (fun g cap e => by injection e with _ _ e; have := HFN.out; simp; omega) (HY5.out.grow hT.1) HFN.out (by have := HLFK.out; simp; omega) hT.1.size
          exact ⟨v', w2, app_exec _ _ (by rfl) (by rfl) (by rfl) (by rfl) hr, TurnR.grows hT.1.size hg, ho⟩
        rintro _ ⟨_, _, g2, cap2, _, rfl, _⟩
        refine ⟨?_, ?_, ?_⟩
        rotate_left
        · go_simp
          rfl
        iterate 1 ((with_reducible refine loose_oneX (v := ?_) (a' := ?_) ?_ ?_ (fun w' hC' hG' => ?_) ?_ ?_); rotate_left 2; (focus rfl); (focus rfl); (focus (have hT := (show TurnR w5.heap.size fk.length (bcells (fk ++ af)) v w5 w' from hC'); clear hC' hG' hT; go_simp; rfl)); (focus (go_simp; rfl)))
        refine loose_newX (R := fun _ => OwnU w5.heap.size (fk ++ af).length (bcells (fk ++ af))) (by rfl) (by rfl) (fun w' hC' hG' => ?_) ?_
        · have hT := (show TurnR w5.heap.size fk.length (bcells (fk ++ af)) v w5 w' from hC')
          have h2 : OwnU w5.heap.size fk.length (bcells fk) (.slice (some ⟨g2, 0, none⟩) fk.length cap2) w' := (hG' 2 (by kernel_rfl)).2 rfl
          obtain ⟨v', w2, hr, ho, hg⟩ := app_own (vec := v) h2 (HAF5.out.grow hT.1) (by have := HLFK.out; omega) hT.1.size
          exact ⟨v', w2, app_exec _ _ (by rfl) (by rfl) (by rfl) (by rfl) hr, hg, ho⟩
        rintro _ ⟨_, _, g4, cap4, _, rfl, _⟩
        refine ⟨?_, ?_, ?_⟩
        rotate_left
        · go_simp
          rfl
        iterate 3 ((with_reducible refine loose_oneX (v := ?_) (a' := ?_) ?_ ?_ (fun w' hC' hG' => ?_) ?_ ?_); rotate_left 2; (focus rfl); (focus rfl); (focus (have hT := (show TurnR w5.heap.size fk.length (bcells (fk ++ af)) v w5 w' from hC'); have f0 := (HRW5.out.grow hT.1).cell 0; have f1 := (HRW5.out.grow hT.1).cell 1; have f2 := (HRW5.out.grow hT.1).cell 2; have f3 := (HRW5.out.grow hT.1).cell 3; simp only [List.getElem?_cons_succ, List.getElem?_cons_zero] at f0 f1 f2 f3; clear hC' hG' hT; go_simp; rfl)); (focus (go_simp; rfl)))
        refine loose_callX (R := fun _ => ConstV (.int .i64 (n3 : Int))) (f := 26) (args := #[.agg #[.int .i64 T, .slice A1 n1 c1, .slice A2 n2 c2, .slice A3 n3 c3]]) (by rfl) (by rfl) (fun _ => by go_simp) (fun w' hC' hG' => (const_loose (HLN.out w' (HGW5.out.of_below (show TurnR w5.heap.size fk.length (bcells (fk ++ af)) v w5 w' from hC').1))).mono fun _ _ ⟨u, he, hg, hr⟩ => ⟨u, he, TurnR.grows (show TurnR w5.heap.size fk.length (bcells (fk ++ af)) v w5 w' from hC').1.size hg, hr⟩) ?_
        rintro _ ⟨_, _, rfl⟩
        refine ⟨?_, ?_, ?_⟩
        rotate_left
        · go_simp
          rfl
        refine loose_callX (R := fun _ => DecTV v (fk.length : Int)) (f := 18) (args := #[.slice (some ⟨g4, 0, none⟩) (fk ++ af).length cap4, .int .i64 T, .int .i64 (n3 : Int)]) (by rfl) (by rfl) (fun _ => by go_simp) (fun w' hC' hG' => ?_) ?_
        · have hT := (show TurnR w5.heap.size fk.length (bcells (fk ++ af)) v w5 w' from hC')
          have h4 : OwnU w5.heap.size (fk ++ af).length (bcells (fk ++ af)) (.slice (some ⟨g4, 0, none⟩) (fk ++ af).length cap4) w' := (hG' 4 (by kernel_rfl)).1.2 rfl
          obtain ⟨g, cap, e, hlc, hby⟩ := h4.bytes
          injection e with e1 _ e2
          injection e1 with e1
          injection e1 with e1
          subst e1 e2
          exact (dec_loose (HDE.out _ _ w' hby hlc)).mono fun _ _ ⟨u, he, hg, hr⟩ => ⟨u, he, TurnR.grows hT.1.size hg, hr⟩
        rintro _ ⟨_, _, B1, d1', B2, d2', B3, d3', rfl, _, _⟩
        obtain ⟨hT1, hn1, hn2, hn3⟩ := HN1.out
        rw [hT1, hn1, hn2, hn3]
        clear hT1 hn1 hn2 hn3
        refine ⟨?_, ?_, ?_⟩
        rotate_left
        · go_simp
          rfl
        iterate 4 ((with_reducible refine loose_oneX (v := ?_) (a' := ?_) ?_ ?_ (fun w' hC' hG' => ?_) ?_ ?_); rotate_left 2; (focus rfl); (focus rfl); (focus (have hT := (show TurnR w5.heap.size fk.length (bcells (fk ++ af)) v w5 w' from hC'); clear hC' hG' hT; go_simp; rfl)); (focus (go_simp; rfl)))
        refine loose_newX (R := fun _ => FormV w5.heap.size) (by rfl) (by rfl) (fun w' hC' hG' => ?_) ?_
        · have hT := (show TurnR w5.heap.size fk.length (bcells (fk ++ af)) v w5 w' from hC')
          exact ⟨.pointer (some ⟨w'.heap.size, 0, none⟩), w'.alloc (.cells #[.int .i64 0, .slice none 0 0, .slice none 0 0, .slice none 0 0] 26), by first | rfl | go_simp, TurnR.grows hT.1.size (growB _ _), w'.heap.size, _, rfl, hT.1.size, heap_alloc_new w' _, 0, none, 0, 0, none, 0, 0, none, 0, 0, rfl⟩
        rintro _ ⟨_, _, b14, cs14, rfl, hb14, _⟩
        refine ⟨?_, ?_, ?_⟩
        rotate_left
        · go_simp
          rfl
        refine loose_storeX (R := fun s _ w' => ∀ b, s = .pointer (some ⟨b, 0, none⟩) → RightR b v 26 (0, 0) w') (by rfl) (by rfl) (fun w' hC' hG' => ?_) ?_
        · have hT := (show TurnR w5.heap.size fk.length (bcells (fk ++ af)) v w5 w' from hC')
          have h14 : FormV w5.heap.size (.pointer (some ⟨b14, 0, none⟩)) w' := (hG' 14 (by kernel_rfl)).2 rfl
          have h9 : DecTV v (fk.length : Int) (.tuple #[.agg #[.int .i64 T, .slice B1 n1 d1', .slice B2 n2 d2', .slice B3 n3 d3'], .int .i64 (fk.length : Int), .int .i64 0]) w' := (hG' 9 (by kernel_rfl)).1.2 rfl
          obtain ⟨b', cs', e1, hbb, hrow, hform⟩ := h14
          have e3 : b14 = b' := by simpa using e1
          subst e3
          obtain ⟨E1, f1, E2, f2, E3, f3, e2, hvx, hix⟩ := h9
          obtain ⟨hT1, hn1, hn2, hn3⟩ := HN1.out
          rw [hT1, hn1, hn2, hn3] at e2 hvx
          rw [hn1] at hix
          have e4 : (B1 = E1 ∧ d1' = f1) ∧ (B2 = E2 ∧ d2' = f2) ∧ (B3 = E3 ∧ d3' = f3) := by simpa using e2
          obtain ⟨⟨rfl, rfl⟩, ⟨rfl, rfl⟩, rfl, rfl⟩ := e4
          have hst := TurnR.store (n0 := fk.length) (F := bcells (fk ++ af)) (v := v) hb14 hrow hform (by rw [hT1]; exact hvx) hix
          rw [hT1] at hst
          refine ⟨_, store_run_vec _ _ rfl b14 _ _ _ _ _ _ _ _ _ _ (by rfl) (by rfl) hrow hform, hst.1, fun b hb => ?_⟩
          have e7 : b14 = b := by
            have h : Value.pointer (some ⟨b14, 0, none⟩) = .pointer (some ⟨b, 0, none⟩) := hb
            simpa using h
          subst e7
          exact hst.2
        intro v15 _
        refine ⟨?_, ?_, ?_⟩
        rotate_left
        · go_simp
          rfl
        iterate 2 ((with_reducible refine loose_oneX (v := ?_) (a' := ?_) ?_ ?_ (fun w' hC' hG' => ?_) ?_ ?_); rotate_left 2; (focus rfl); (focus rfl); (focus (have hT := (show TurnR w5.heap.size fk.length (bcells (fk ++ af)) v w5 w' from hC'); clear hC' hG' hT; go_simp; rfl)); (focus (go_simp; rfl)))
        refine loose_doneX (fun w7 hC' hG' => ?_)
        obtain ⟨ra, rb, rc, hrow8, hx8, _⟩ : RightR b14 v 26 (0, 0) w7 := (hG' 15).2 rfl b14 rfl
        obtain ⟨hT1, hn1, hn2, hn3⟩ := HN1.out
        obtain ⟨z1, z2, z3, e8, j1, j2, j3⟩ := id hx8
        have e9 : (.int .i64 v.T : Value) = .int .i64 v.T ∧ ra = z1 ∧ rb = z2 ∧ rc = z3 := by simpa using e8
        obtain ⟨_, rfl, rfl, rfl⟩ := e9
        obtain ⟨C1, q1, rfl⟩ := j1.slice_
        obtain ⟨C2, q2, rfl⟩ := j2.slice_
        obtain ⟨C3, q3, rfl⟩ := j3.slice_
        rw [hT1, hn1, hn2, hn3] at hrow8 hx8
        have HG7 := hidden (show Grows w5 w7 from (show TurnR w5.heap.size fk.length (bcells (fk ++ af)) v w5 w7 from hC').1)
        have HX8 := hidden hx8
        have HRX : Hid (w7.heap[b14]? = some (.cells #[.int .i64 T, .slice C1 n1 q1, .slice C2 n2 q2, .slice C3 n3 q3] 26 (0, 0))) := hidden hrow8
        have HB7 := hidden (HB5.out.of_below HG7.out)
        have HGW7 := hidden (HGW5.out.of_below HG7.out)
        have HRV : Hid (w7.heap[w.heap.size]? = some (.cells #[.int .i64 T, .slice A1 n1 c1, .slice A2 n2 c2, .slice A3 n3 c3] 26 (0, 0))) := hidden (HRW5.out.grow HG7.out)
        have HREW := hidden (HRE.out (.agg #[.int .i64 T, .slice C1 n1 q1, .slice C2 n2 q2, .slice C3 n3 q3]) w7 HX8.out (HXV.out w7 HGW7.out))
        clear hG' hC' hrow8 hx8 e8 j1 j2 j3 hT1 hn1 hn2 hn3 hb14
        have HRX8 := hidden (show Row w7 b14 26 [.int .i64 T, .slice C1 n1 q1, .slice C2 n2 q2, .slice C3 n3 q3] from HRX.out)
        have HRV8 := hidden (HRW5.out.grow HG7.out)
        have y0 := HRX8.out.cell 0
        have y1 := HRX8.out.cell 1
        have y2 := HRX8.out.cell 2
        have y3 := HRX8.out.cell 3
        simp only [List.getElem?_cons_succ, List.getElem?_cons_zero] at y0 y1 y2 y3
        have z0 := HRV8.out.cell 0
        have z1 := HRV8.out.cell 1
        have z2 := HRV8.out.cell 2
        have z3 := HRV8.out.cell 3
        simp only [List.getElem?_cons_succ, List.getElem?_cons_zero] at z0 z1 z2 z3
        go_wp2_with (first
          | (go_at_call 20; refine HREW.out.mono ?_; rintro e w8 ⟨rfl, g8⟩; have HB8 := hidden (HB7.out.of_below g8); clear g8))
        go_roundw
        case rel => exact ⟨k + 1, by omega, by go_num, HB8.out⟩
        case measure => simp [intOf]; omega
    · go_wp2_with (go_at_call 10; refine (HLV.out _).mono ?_; rintro e w9 ⟨rfl, g9⟩; have HG9 := hidden (HGW.out.of_below g9); clear g9)
      go_ret
      exact ⟨rfl, HG9.out⟩
end Go.Proofs.YthmipnokimlbdaaGreat
