/-
  Texts that the claims of this seat share, put together (SqR, SqS, SqT). No condition.
-/
import Derived.Test.YtoaklmceejeblaaGreatM20
import Derived.Test.YtoaklmceejeblaaGreatM18
import Derived.Test.YtoaklmceejeblaaGreatM16
/-
  Shaken: what the claims of this seat need of this text. No condition.
-/
namespace Go.Proofs.YtoaklmceejeblaaGreat
set_option maxRecDepth 8000
open Go.RowKit
set_option linter.unusedVariables false
set_option linter.unusedSimpArgs false
def cm0 : List Int := List.replicate 256 0
def cmF (l : List Val) : List Int := l.foldl (fun cm x => addC cm x 4) cm0
theorem cmF_snoc (l : List Val) (x : Val) : cmF (l ++ [x]) = addC (cmF l) x 4 := by simp [cmF]
theorem cmF_length (l : List Val) : (cmF l).length = 256 := by
  refine snoc_ind (P := fun l => (cmF l).length = 256) (by simp [cmF, cm0]) (fun l x ih => ?_) l
  rw [cmF_snoc, addC_length, ih]
theorem cmF_bd (l : List Val) : ∀ c ∈ cmF l, 0 ≤ c ∧ c ≤ 4 * (l.length : Int) := by
  refine snoc_ind (P := fun l => ∀ c ∈ cmF l, 0 ≤ c ∧ c ≤ 4 * (l.length : Int)) (fun c hc => ?_) (fun l x ih c hc => ?_) l
  · simp [cmF, cm0] at hc
    subst hc
    simp
  · rw [cmF_snoc] at hc
    have h := addC_bd (cmF l) x _ (by omega) ih 4 c hc
    rw [List.length_append]
    simp only [List.length_cons, List.length_nil]
    omega
def hsF (l : List Val) : List Nat := l.map fun x => hashR (mix 3) [x]
theorem hsF_snoc (l : List Val) (x : Val) : hsF (l ++ [x]) = hsF l ++ [hashR (mix 3) [x]] := by simp [hsF]
theorem hsF_length (l : List Val) : (hsF l).length = l.length := by simp [hsF]
noncomputable def skB (l : List Val) : Sk where
  rows := l.length
  nulls := (l.length : Int) - ((sortV l).length : Int)
  hs := (insAll [] (hsF (sortV l))).take 32
  ok := decide ((insAll [] (hsF (sortV l))).length ≤ 32)
  cm := cmF (sortV l)
  fs := fenF (sortV l)
  rk := rkF (ltN (sortV l)) (leN (sortV l)) (fenF (sortV l))
theorem size_sk : (Tryz.prog.info? 29).map (·.size) = some 7 := by kernel_rfl
theorem wpList_store_sk {wr : World} {ops : Array Oper} {rest : List Oper} {o : Oper} {a : Act} {Q : Exit → Act → World → Prop} (hgd : o.guard = none) (x y : Operand) (ho : o.op = .store 29 x y)
    (g : Nat) (hx : a.eval x = .pointer (some ⟨g, 0, none⟩)) (z0 z1 z2 z3 z4 z5 z6 : Value) (hy : a.eval y = .agg #[z0, z1, z2, z3, z4, z5, z6]) (h1 : (#[z0, z1, z2, z3, z4, z5, z6] : Array Value).all (·.oneCell') = true) (y0 y1 y2 y3 y4 y5 y6 : Value) (hr : Row wr g 29 [y0, y1, y2, y3, y4, y5, y6])
    (hk : ∀ W, Row W g 29 [z0, z1, z2, z3, z4, z5, z6] → Only (fun i => i = g) wr W → wpList Tryz.prog ops Q rest (a.put o.dst undef) W) : wpList Tryz.prog ops Q (o :: rest) a wr :=
  wpList_store_row hgd _ x y ho g #[z0, z1, z2, z3, z4, z5, z6] hx hy 29 #[y0, y1, y2, y3, y4, y5, y6] hr size_sk rfl h1 (hk _ (hr.setRowK [z0, z1, z2, z3, z4, z5, z6]) ⟨rfl, rfl, rfl, by simp [World.setRow], fun i _ hn => setRow_other wr g i _ hn⟩)
theorem at_sk {wr : World} {ops : Array Oper} {rest : List Oper} {op : Oper} {a : Act} {Q : Exit → Act → World → Prop} (hgd : op.guard = none) (x y : Operand) (ho : op.op = .store 29 x y) (h : wpList Tryz.prog ops Q (op :: rest) a wr) : wpList Tryz.prog ops Q (op :: rest) a wr := h
theorem results_sk {fn : Func} {p : Tmp} (h : fn.results = #[.cell p 29]) (tmps : Array Value) (w : World) (g : Nat) (z0 z1 z2 z3 z4 z5 z6 : Value) (hp : tmps.getD p undef = .pointer (some ⟨g, 0, none⟩)) (hg : Row w g 29 [z0, z1, z2, z3, z4, z5, z6]) :
    (results fn tmps).run Tryz.prog w = .ok (.agg #[z0, z1, z2, z3, z4, z5, z6]) w := results_cell_row h _ _ _ _ _ _ _ hp hg Tryz.underlying29 rfl size_sk
structure BldSt (w : World) (sv : List Val) (bs bc : Nat) (vs : Value) (k : Nat) (h : Value) (X : World) : Prop where
  srt : X.ownsRow w.heap.size 35 3 vs sv.length (vcells sv)
  var : Row X bs 22 [vs]
  res : Row X w.heap.size 29 [.int .i64 0, .int .i64 0, .slice none 0 0, .bool false, .slice none 0 0, .slice none 0 0, .slice none 0 0]
  cnt : Row X bc 67 (icells (cmF (sv.take k)))
  hsh : X.ownsRow w.heap.size 56 1 h (hsF (sv.take k)).length (wcells (hsF (sv.take k)))
  grows : Grows w X
  low : w.heap.size < bs ∧ w.heap.size < bc
theorem BldSt.grow {w : World} {sv : List Val} {bs bc : Nat} {vs : Value} {k : Nat} {h : Value} {X Y : World} (hs : BldSt w sv bs bc vs k h X) (hg : Grows X Y) : BldSt w sv bs bc vs k h Y :=
  ⟨ownsRow_grow hs.srt hg, hs.var.grow hg, hs.res.grow hg, hs.cnt.grow hg, ownsRow_grow hs.hsh hg, hs.grows.of_below hg, hs.low⟩
theorem BldSt.next {w : World} {sv : List Val} {bs bc : Nat} {vs : Value} {k : Nat} {h h' : Value} {X Y Z : World} {x : Val} (hs : BldSt w sv bs bc vs k h X) (hx : sv[k]? = some x)
    (ho : Only (fun i => h.ownBlock = some i) X Y) (hh : Y.ownsRow w.heap.size 56 1 h' (hsF (sv.take k) ++ [hashR (mix 3) [x]]).length (wcells (hsF (sv.take k) ++ [hashR (mix 3) [x]])))
    (hz : Only (fun i => i = bc) Y Z) (hc : Row Z bc 67 (icells (addC (cmF (sv.take k)) x 4))) : BldSt w sv bs bc vs (k + 1) h' Z := by
  have htk : sv.take (k + 1) = sv.take k ++ [x] := by rw [List.take_add_one, hx]; rfl
  have n1 := ownsRow_apart hs.srt hs.hsh (by decide)
  have n2 := ownsRow_row_apart hs.hsh hs.var (by decide)
  have n3 := ownsRow_row_apart hs.hsh hs.res (by decide)
  have n4 := ownsRow_row_apart hs.hsh hs.cnt (by decide)
  have c1 := ho.row hs.cnt n4
  have s1 := ownsRow_only hs.srt ho n1
  have m1 := ownsRow_row_apart s1 c1 (by decide)
  have m2 := ownsRow_row_apart hh c1 (by decide)
  have v1 := ho.row hs.var n2
  have r1 := ho.row hs.res n3
  have d1 : bs ≠ bc := fun e => by
    have a := v1; have b := c1
    unfold Row at a b
    rw [e, b] at a
    injection a with a
    injection a with _ a
    exact absurd a (by decide)
  have d2 : w.heap.size ≠ bc := by have := hs.low; omega
  refine ⟨ownsRow_only s1 hz (fun j hj e => m1 (by rw [hj, e])), hz.row v1 d1, hz.row r1 d2, by rw [htk, cmF_snoc]; exact hc, ?_, hz.below (ho.below hs.grows (fun i hi => (hs.hsh.lt i hi).1)) (fun i hi => by have := hs.low; omega), hs.low⟩
  rw [htk, hsF_snoc]
  exact ownsRow_only hh hz (fun j hj e => m2 (by rw [hj, e]))
structure Bl2 (w : World) (sv : List Val) (bs : Nat) (vs : Value) (b : Nat) (fl : List Value) (vL : Value) (X : World) : Prop where
  srt : X.ownsRow w.heap.size 35 3 vs sv.length (vcells sv)
  var : Row X bs 22 [vs]
  res : Row X w.heap.size 29 [.int .i64 0, .int .i64 0, .slice none 0 0, .bool false, .slice none 0 0, .slice none 0 0, .slice none 0 0]
  lst : X.ownsRow w.heap.size 3 1 vL (cmF sv).length (icells (cmF sv))
  row : Row X b 29 fl
  grows : Grows w X
  low : w.heap.size < bs ∧ w.heap.size < b
theorem Bl2.grow {w : World} {sv : List Val} {bs b : Nat} {vs vL : Value} {fl : List Value} {X Y : World} (h : Bl2 w sv bs vs b fl vL X) (hg : Grows X Y) : Bl2 w sv bs vs b fl vL Y :=
  ⟨ownsRow_grow h.srt hg, h.var.grow hg, h.res.grow hg, ownsRow_grow h.lst hg, h.row.grow hg, h.grows.of_below hg, h.low⟩
theorem row_ne_q {X : World} {a b : Nat} {e f : TypeId} {xs ys : List Value} (h : Row X a e xs) (h' : Row X b f ys) (he : e ≠ f) : a ≠ b := fun hab => by
  unfold Row at h h'
  rw [hab, h'] at h
  injection h with h
  injection h with _ h
  exact he h.symm
theorem Bl2.hashes {w : World} {sv : List Val} {bs b : Nat} {vs vL h : Value} {fl : List Value} {X Y : World} {n : Nat} {xs : List Value} (hs : Bl2 w sv bs vs b fl vL X) (hh : X.ownsRow w.heap.size 56 1 h n xs) (ho : Only (fun i => h.ownBlock = some i) X Y) : Bl2 w sv bs vs b fl vL Y :=
  ⟨ownsRow_only hs.srt ho (ownsRow_apart hs.srt hh (by decide)), ho.row hs.var (ownsRow_row_apart hh hs.var (by decide)), ho.row hs.res (ownsRow_row_apart hh hs.res (by decide)), ownsRow_only hs.lst ho (ownsRow_apart hs.lst hh (by decide)), ho.row hs.row (ownsRow_row_apart hh hs.row (by decide)), ho.below hs.grows (fun i hi => (hh.lt i hi).1), hs.low⟩
theorem Bl2.put {w : World} {sv : List Val} {bs b : Nat} {vs vL : Value} {fl gl : List Value} {X Y : World} (hs : Bl2 w sv bs vs b fl vL X) (ho : Only (fun i => i = b) X Y) (hr : Row Y b 29 gl) : Bl2 w sv bs vs b gl vL Y :=
  ⟨ownsRow_only hs.srt ho (fun k hk e => ownsRow_row_apart hs.srt hs.row (by decide) (by rw [hk, e])), ho.row hs.var (row_ne_q hs.var hs.row (by decide)), ho.row hs.res (by have := hs.low; omega), ownsRow_only hs.lst ho (fun k hk e => ownsRow_row_apart hs.lst hs.row (by decide) (by rw [hk, e])), hr, ho.below hs.grows (fun i hi => by have := hs.low; omega), hs.low⟩
def BldRel (w : World) (sv : List Val) (bs bc : Nat) (vs h i : Value) (wr : World) : Prop := ∃ k : Nat, k ≤ sv.length ∧ i = .int .i64 (k : Int) ∧ BldSt w sv bs bc vs k h wr
def OwnI16 (H : Nat) (l : List Int) : Value → World → Prop := fun v w => w.ownsRow H 3 1 v l.length (icells l)
theorem OwnI16.lasts {H : Nat} {l : List Int} : ∀ v w w', OwnI16 H l v w → Grows w w' → OwnI16 H l v w' := fun _ _ _ h hg => ownsRow_grow h hg
def NewSk (H : Nat) : Value → World → Prop := fun v w => ∃ b, v = .pointer (some ⟨b, 0, none⟩) ∧ H ≤ b ∧ Row w b 29 [.int .i64 0, .int .i64 0, .slice none 0 0, .bool false, .slice none 0 0, .slice none 0 0, .slice none 0 0]
theorem NewSk.lasts {H : Nat} : ∀ v w w', NewSk H v w → Grows w w' → NewSk H v w' := fun _ _ _ ⟨b, h1, h2, h3⟩ hg => ⟨b, h1, h2, h3.grow hg⟩
theorem perm_sortV {K : Int} {l l' : List Val} (h : oneOr K l) (hp : l'.Perm (liveV l)) (hu : upV l') : l' = sortV l := by
  have hk : oneKd K l' := fun x hx => by
    have h1 := hp.mem_iff.1 hx
    unfold liveV at h1
    obtain ⟨h2, h3⟩ := List.mem_filter.1 h1
    exact (h x h2).resolve_left (by simpa using h3)
  exact up_ext hk hu (sortV_up h) (hp.trans (sortV_perm l).symm)
theorem zc256 : Tryz.zeroCells67 = Array.replicate 256 (.int .i64 0) := by first | rfl | kernel_rfl
theorem own_slice_q {w : World} {base : Nat} {e : TypeId} {size : Nat} {v : Value} {n : Nat} {xs : List Value} (h : w.ownsRow base e size v n xs) : ∃ A m c, v = .slice A m c := by
  rcases h.2 with ⟨rfl, _⟩ | ⟨g, cap, cur, rfl, _⟩ <;> exact ⟨_, _, _, rfl⟩
theorem own_len_q {w : World} {base : Nat} {e : TypeId} {size : Nat} {A : Option Addr} {m c n : Nat} {xs : List Value} (h : w.ownsRow base e size (.slice A m c) n xs) : m = n := by
  rcases h.2 with ⟨h1, h0⟩ | ⟨g, cap, cur, h1, _⟩
  · injection h1 with _ h2 _; omega
  · injection h1
set_option maxHeartbeats 16000000 in
theorem qBuild_of {N : Nat} (hS : SortU N) {K : Int} (v : Value) (l : List Val) (w : World) (hv : ReadsV w v l) (hN : l.length ≤ N) (hl : l.length ≤ 100000) (hK : oneOr K l) :
    Calls Tryz.prog 14 #[v] w fun e w' => ∃ u, e = .returned u ∧ IsK w' u (skB l) ∧ Grows w w' := by
  have HKO := hidden hK
  have hlv : oneKd K (liveV l) := fun x hx => by
    unfold liveV at hx
    obtain ⟨h2, h3⟩ := List.mem_filter.1 hx
    exact (hK x h2).resolve_left (by simpa using h3)
  have hll : (liveV l).length ≤ l.length := liveV_length_le l
  obtain ⟨A, c, rfl, -⟩ := id hv
  obtain ⟨n, hn⟩ : ∃ n, n = l.length := ⟨_, rfl⟩
  have HNN := hidden hn
  have HCLO := hidden (fun W (h : Grows w W) => qcloneV_any l (.slice A l.length c) W (hv.grow h) (by omega))
  have HDEL := hidden (fun (u : Value) (base : Nat) (W : World) (ho : W.ownsRow base 35 3 u l.length (vcells l)) => qdelete_any u l base W ho (by omega))
  have HSRT := hidden (fun (u : Value) (base : Nat) (W : World) (ho : W.ownsRow base 35 3 u (liveV l).length (vcells (liveV l))) => qsortFunc_any (liveV l) hlv (by omega) base u W ho)
  obtain ⟨m, hm⟩ : ∃ m, m = (liveV l).length := ⟨_, rfl⟩
  obtain ⟨sv, hsv⟩ : ∃ sv, sv = sortV l := ⟨_, rfl⟩
  have hms : m = sv.length := by rw [hm, hsv, (sortV_perm l).length_eq]
  have HMS := hidden hms
  have HSV := hidden hsv
  have HSO := hidden (show oneKd K sv by rw [hsv]; exact sortV_one hK)
  have HSU := hidden (show upV sv by rw [hsv]; exact sortV_up hK)
  have HMN := hidden (show m ≤ n ∧ n ≤ 100000 ∧ m ≤ N by omega)
  have HPS := hidden (fun (l' : List Val) (hp : l'.Perm (liveV l)) (hu : upV l') => show l' = sv by rw [hsv]; exact perm_sortV hK hp hu)
  rw [← hn] at HCLO HDEL ⊢
  rw [← hm] at HDEL HSRT
  have HW0 := hidden (growK w (.cells #[.int .i64 0, .int .i64 0, .slice none 0 0, .bool false, .slice none 0 0, .slice none 0 0, .slice none 0 0] 29))
  have HRS := hidden (skrow_new w (.int .i64 0) (.int .i64 0) (.slice none 0 0) (.bool false) (.slice none 0 0) (.slice none 0 0) (.slice none 0 0))
  clear hv hK hlv hn hm hms hsv hll hN hl
  go_enter Tryz.func14, Tryz.ntmps14
  go_wp2_with (first
    | (go_at_call 39; refine (HCLO.out _ HW0.out).mono ?_; rintro e w1 ⟨u1, rfl, ho1, g1⟩; have HO1 := hidden (ownsRow_base (b' := w.heap.size) ho1 HW0.out.size); have HG1 := hidden (HW0.out.of_below g1); have HR1 := hidden (HRS.out.grow g1); clear ho1 g1)
    | (go_at_call 38; (refine (HDEL.out u1 _ _ HO1.out).mono ?_; rintro e w2 ⟨u2, rfl, ho2, x2⟩; obtain ⟨A2, m2, c2, hu2⟩ := own_slice_q ho2; subst hu2; have HO2 := hidden ho2; have HR2 := hidden (x2.row HR1.out (ownsRow_row_apart HO1.out HR1.out (by decide))); have HG2 := hidden (x2.below HG1.out (fun i hi => (HO1.out.lt i hi).1)); have HL2 := hidden (Nat.lt_of_lt_of_le HR2.out.lt (Nat.le_refl _)); clear ho2 x2)))
  obtain ⟨bs, hbs⟩ : ∃ bs, bs = w2.heap.size := ⟨_, rfl⟩
  have hOA := ownsRow_grow HO2.out (growK w2 (.cells #[.slice A2 m2 c2] 22))
  have hVA := Row.new w2 22 #[.slice A2 m2 c2] [.slice A2 m2 c2] rfl
  have hRA := HR2.out.grow (growK w2 (.cells #[.slice A2 m2 c2] 22))
  have hGA := HG2.out.of_below (growK w2 (.cells #[.slice A2 m2 c2] 22))
  refine (HSRT.out _ _ _ hOA).mono ?_
  rintro e w3 ⟨rfl, l', hp, hu, ho3, x3⟩
  have hl' := HPS.out l' hp hu
  subst hl'
  have hV3 := x3.row hVA (ownsRow_row_apart hOA hVA (by decide))
  have hR3 := x3.row hRA (ownsRow_row_apart hOA hRA (by decide))
  have hG3 := x3.below hGA (fun i hi => (hOA.lt i hi).1)
  rw [← hbs] at hV3 ⊢
  have hlow : w.heap.size < bs := by rw [hbs]; exact HR2.out.lt
  have hm2 : m2 = l'.length := by
    rcases ho3.2 with ⟨h, h0⟩ | ⟨g, cap, cur, h, _⟩
    · injection h with _ h _; omega
    · injection h
  subst hm2
  obtain ⟨bc, hbc⟩ : ∃ bc, bc = w3.heap.size := ⟨_, rfl⟩
  have hlow2 : w.heap.size < bc := by have := hR3.lt; omega
  have hST := hidden (show BldSt w l' bs bc (.slice A2 l'.length c2) 0 (.slice none 0 0) (w3.alloc (.cells Tryz.zeroCells67 67)) from
    ⟨ownsRow_grow ho3 (growK _ _), hV3.grow (growK _ _), hR3.grow (growK _ _), by
      have h := row_ctr0 w3
      rw [← hbc] at h
      have e : icells (cmF (l'.take 0)) = List.replicate 256 (.int .i64 0) := by simp [cmF, cm0, icells]
      rw [e]
      rw [zc256]
      exact h, World.ownsRow_nil _ _ _ _, hG3.of_below (growK _ _), hlow, hlow2⟩)
  have v0 := hST.out.var.cell 0
  simp only [List.getElem?_cons_zero] at v0
  clear HCLO HDEL HSRT HPS HW0 HRS HO1 HG1 HR1 HO2 HR2 HG2 HL2 hOA hVA hRA hGA hp hu ho3 x3 hV3 hR3 hG3 hlow hlow2 hbs
  go_wp2_with fail
  rw [← hbc]
  clear hbc
  go_loopw [4, 7, 16] (fun h _ i wr => BldRel w l' bs bc (.slice A2 l'.length c2) h i wr) (fun _ _ i _ => l'.length - (intOf i).toNat)
  case atStart => exact ⟨0, Nat.zero_le _, rfl, hST.out⟩
  case round =>
    clear hST v0
    obtain ⟨k, hk, rfl, hst⟩ := hrel
    have HS := hidden hst
    clear hst
    by_cases hlt : k < l'.length
    · have HLT := hidden hlt
      have hd : decide (k < l'.length) = true := decide_eq_true hlt
      have hd2 : decide ((k : Int) < (l'.length : Int)) = true := decide_eq_true (by omega)
      have hk0 : (0 : Int) ≤ (k : Int) := by omega
      have hk1 : (k : Int) < (l'.length : Int) := by omega
      obtain ⟨x, hx⟩ : ∃ x, l'[k]? = some x := ⟨_, List.getElem?_eq_getElem hlt⟩
      have HXX := hidden hx
      obtain ⟨A', c', he, _, hcell⟩ := ReadsV.of_own HS.out.srt
      injection he with e1 e2 e3
      subst e1 e3
      obtain ⟨bb, off, rfl, hcell2⟩ := hcell (by omega)
      obtain ⟨a1, a2, a3⟩ := hcell2 k x hx
      have hval : okX x := (HSO.out x (List.mem_of_getElem? hx)).2
      have HVL := hidden (show validV x.k x.n x.t = true from hval)
      have HGB := hidden ((growK wr (.cells #[.int .i64 x.k, .int .i64 x.n, .string x.t] 35)).of_below (growK _ (.cells #[.int .i64 x.k, .int .i64 x.n, .string x.t] 35)))
      have HR1 := hidden ((Row.new wr 35 #[.int .i64 x.k, .int .i64 x.n, .string x.t] [.int .i64 x.k, .int .i64 x.n, .string x.t] rfl).grow (growK _ (.cells #[.int .i64 x.k, .int .i64 x.n, .string x.t] 35)))
      have HRV := hidden (show ReadsV ((wr.alloc (.cells #[.int .i64 x.k, .int .i64 x.n, .string x.t] 35)).alloc (.cells #[.int .i64 x.k, .int .i64 x.n, .string x.t] 35)) (.slice (some ⟨wr.heap.size + 1, 0, none⟩) 1 1) [x] by
        have h := readsV_one (wr.alloc (.cells #[.int .i64 x.k, .int .i64 x.n, .string x.t] 35)) x
        have e : (wr.alloc (.cells #[.int .i64 x.k, .int .i64 x.n, .string x.t] 35)).heap.size = wr.heap.size + 1 := by simp
        rwa [e] at h)
      have HHH := hidden (lhash_any 3 _ [x] _ (by decide) HRV.out (by simp) (by unfold validL; simp [HVL.out]))
      obtain ⟨hh, hhe⟩ : ∃ hh, hh = hashR (mix 3) [x] := ⟨_, rfl⟩
      have HHE := hidden hhe
      rw [← hhe] at HHH
      have HQL := hidden (show (hsF (l'.take k)).length = k by rw [hsF_length, List.length_take]; omega)
      have hkb : k ≤ 1000000 := by have := HMN.out; have := HMS.out; omega
      have HKB := hidden hkb
      have HCL := hidden (cmF_length (l'.take k))
      have HCB := hidden (show ∀ c ∈ cmF (l'.take k), 0 ≤ c ∧ c ≤ 1099511627776 from fun c hc => by
        have := cmF_bd _ c hc
        rw [List.length_take] at this
        omega)
      clear hcell hcell2 e2 hx hval hhe hlt hk
      go_wp2_with (first
        | (go_at_call 43; (refine (HHH.out).mono ?_; rintro e w4 ⟨rfl, g4⟩; have HS4 := hidden (HS.out.grow (HGB.out.of_below g4)); have HV4 := hidden (HR1.out.grow g4); clear g4))
        | (at_builtin; (refine wpList_append_c rfl _ _ _ rfl 56 (.int .u64 0) 8 Tryz.underlying26 info_u64q rfl u4 (wcells (hsF (l'.take k))) rfl w.heap.size (hsF (l'.take k)).length HS4.out.hsh HS4.out.grows.size (.int .u64 (hh : Int)) rfl w4.heap.size rfl rfl (by rw [HQL.out]; have := HKB.out; omega) (by rw [HQL.out]; have := HKB.out; omega) ?_); intro h' w5 ho5 hx5 _; have HO5 := hidden ho5; have HX5 := hidden hx5; have HV5 := hidden (hx5.row HV4.out (ownsRow_row_apart HS4.out.hsh HV4.out (by decide))); have HC5 := hidden (hx5.row HS4.out.cnt (ownsRow_row_apart HS4.out.hsh HS4.out.cnt (by decide))); have y0 := HV5.out.cell 0; have y1 := HV5.out.cell 1; have y2 := HV5.out.cell 2; simp only [List.getElem?_cons_succ, List.getElem?_cons_zero] at y0 y1 y2; clear ho5 hx5)
        | (go_at_call 44; (refine (qadd_any bc (cmF (l'.take k)) x w5 HC5.out HCL.out HVL.out HCB.out).mono ?_; rintro e w6 ⟨rfl, hr6, ho6⟩; have HR6 := hidden hr6; have HO6 := hidden ho6; clear hr6 ho6)))
      go_roundw
      case rel => exact ⟨k + 1, HLT.out, by go_num, HS4.out.next HXX.out HX5.out (by rw [List.length_append, wcells_snoc, ← HHE.out]; exact HO5.out) HO6.out HR6.out⟩
      case measure => have := HLT.out; simp [intOf]; omega
    · have hke : k = l'.length := by omega
      subst hke
      have hd : decide (l'.length < l'.length) = false := decide_eq_false hlt
      have hd2 : decide ((l'.length : Int) < (l'.length : Int)) = false := decide_eq_false (by omega)
      have HCN := hidden (show Row wr bc 67 (icells (cmF l')) by have h := HS.out.cnt; rwa [List.take_length] at h)
      have HHS := hidden (show wr.ownsRow w.heap.size 56 1 u4 (hsF l').length (wcells (hsF l')) by have h := HS.out.hsh; rwa [List.take_length] at h)
      have HE := hidden (show ∀ X, Grows wr X → X.cell? ⟨bs, 0, none⟩ = some (.slice A2 l'.length c2) from fun X h => by have y0 := (HS.out.var.grow h).cell 0; simpa using y0)
      have HLI := hidden (fun X (h : Grows wr X) => qlist_any bc (cmF l') X (HCN.out.grow h) (cmF_length l'))
      have hws : IntKind.i64.wrap ((n : Int) - (l'.length : Int)) = (n : Int) - (l'.length : Int) := by rw [IntKind.wrap_i64]; have := HMN.out; have := HMS.out; omega
      clear hlt hk
      go_wp2_with fail
      refine wp_region_loose_tail 10 (tabRs [(7, OwnI16 wr.heap.size (cmF l')), (9, NewSk wr.heap.size)]) (by kernel_rfl) (by kernel_rfl) (tabRs_cons OwnI16.lasts (tabRs_cons NewSk.lasts tabRs_nil)) ?_
      simp only [List.take_succ_cons, List.take_zero, List.drop_succ_cons, List.drop_zero]
      iterate 7 ((with_reducible refine loose_one (v := ?_) (a' := ?_) ?_ ?_ (fun w' hC' hG' => ?_) ?_ ?_); rotate_left 2; (focus rfl); (focus rfl); (focus (have y0 := HE.out w' hC'; clear hC' hG'; go_simp; rfl)); (focus (go_simp; rfl)))
      refine loose_call (R := OwnI16 wr.heap.size (cmF l')) (f := 45) (args := #[.pointer (some ⟨bc, 0, none⟩)]) (by rfl) (by rfl) (fun _ => by go_simp) (fun w' hC' hG' => (HLI.out w' hC').mono (fun e w2 ⟨v, h1, h2, h3⟩ => ⟨v, h1, h3, ownsRow_base h2 hC'.size⟩)) ?_
      rintro vL ⟨_, _, hvL⟩
      obtain ⟨A3, n3, c3, rfl⟩ := own_slice_q hvL
      refine ⟨?_, ?_, ?_⟩
      rotate_left
      · go_simp
        rfl
      iterate 1 ((with_reducible refine loose_one (v := ?_) (a' := ?_) ?_ ?_ (fun w' hC' hG' => ?_) ?_ ?_); rotate_left 2; (focus rfl); (focus rfl); (focus (clear hC' hG'; go_simp; rfl)); (focus (go_simp; rfl)))
      refine loose_new (R := NewSk wr.heap.size) (by rfl) (by rfl) (fun w' hC' hG' => ?_) ?_
      · exact ⟨.pointer (some ⟨w'.heap.size, 0, none⟩), w'.alloc (.cells #[.int .i64 0, .int .i64 0, .slice none 0 0, .bool false, .slice none 0 0, .slice none 0 0, .slice none 0 0] 29), by first | rfl | go_simp, (Below.refl _ _).alloc (Nat.le_refl _) _, w'.heap.size, rfl, hC'.size, skrow_new _ _ _ _ _ _ _ _⟩
      rintro _ ⟨_, _, b, rfl, hb, _⟩
      refine ⟨?_, ?_, ?_⟩
      rotate_left
      · go_simp
        rfl
      refine loose_done (fun w7 hC' hG' => ?_)
      obtain ⟨b12, hbe, hb12, hrow⟩ := (hG' 9).2 rfl
      have hlst := (hG' 7).1.2 rfl
      clear hG' hvL
      have hbb : b12 = b := by injection hbe with hbe; injection hbe with hbe; injection hbe with hbe; exact hbe.symm
      subst hbb
      have HS7 := hidden (HS.out.grow hC')
      have HH7 := hidden (ownsRow_grow HHS.out hC')
      have hL7 := ownsRow_base hlst HS.out.grows.size
      have hlb : w.heap.size < b12 := by have := HS.out.low; have := HS.out.var.lt; omega
      have hst2 : Bl2 w l' bs (.slice A2 l'.length c2) b12 [.int .i64 0, .int .i64 0, .slice none 0 0, .bool false, .slice none 0 0, .slice none 0 0, .slice none 0 0] (.slice A3 n3 c3) w7 :=
        ⟨HS7.out.srt, HS7.out.var, HS7.out.res, hL7, hrow, HS7.out.grows, HS7.out.low.1, hlb⟩
      have HT7 := hidden hst2
      clear hbe hb hb12 hlst hL7 hlb hst2 hws hC'
      refine wpList_store_sk rfl _ _ rfl b12 rfl (.int .i64 (n : Int)) (.int .i64 ((n : Int) - (l'.length : Int))) (.slice none 0 0) (.bool false) (.slice A3 n3 c3) (.slice none 0 0) (.slice none 0 0) rfl (by simp [Value.oneCell']) _ _ _ _ _ _ _ hrow ?_
      intro w8 hr8 ho8
      have HT8 := hidden (HT7.out.put ho8 hr8)
      have HH8 := hidden (ownsRow_only HH7.out ho8 (fun k hk e => ownsRow_row_apart HH7.out HT7.out.row (by decide) (by rw [hk, e])))
      clear hr8 ho8 hrow
      have HSM := hidden (qsmallest_of hS (hsF l') w.heap.size u4 w8 HH8.out (by rw [hsF_length]; have := HMN.out; have := HMS.out; omega) (by rw [hsF_length]; have := HMN.out; have := HMS.out; omega))
      go_wp2_with fail
      refine HSM.out.mono ?_
      rintro e w9 ⟨u9, rfl, ho9, hx9⟩
      obtain ⟨A4, n4, c4, rfl⟩ := own_slice_q ho9
      have HT9 := hidden (HT8.out.hashes HH8.out hx9)
      have HM9 := hidden (ownsRow_base ho9 HT8.out.grows.size)
      obtain ⟨ok, hok⟩ : ∃ ok, ok = decide ((insAll [] (hsF l')).length ≤ 32) := ⟨_, rfl⟩
      have HOK := hidden hok
      rw [← hok]
      clear ho9 hx9 hok HSM
      go_wp2_with (first
        | (refine wpList_store_c rfl 26 _ _ rfl (by kernel_rfl) b12 2 rfl (.slice A4 n4 c4) rfl rfl _ _ HT9.out.row (by simp) ?_; intro w10 hr10 ho10; have HT10 := hidden (HT9.out.put ho10 hr10); have HM10 := hidden (ownsRow_only HM9.out ho10 (fun k hk e => ownsRow_row_apart HM9.out HT9.out.row (by decide) (by rw [hk, e]))); clear hr10 ho10)
        | (refine wpList_store_c rfl 4 _ _ rfl (by kernel_rfl) b12 3 rfl (.bool ok) rfl rfl _ _ HT10.out.row (by simp) ?_; intro w11 hr11 ho11; have HT11 := hidden (HT10.out.put ho11 hr11); have HM11 := hidden (ownsRow_only HM10.out ho11 (fun k hk e => ownsRow_row_apart HM10.out HT10.out.row (by decide) (by rw [hk, e]))); have y0 := HT11.out.var.cell 0; simp only [List.getElem?_cons_zero] at y0; clear hr11 ho11))
      have HCH := hidden (qchoose_any 48 (enters_of Tryz.func48 (by kernel_rfl) rfl) #[.pointer (some ⟨bs, 0, none⟩)] (ltN l') (leN l') (.slice A2 l'.length c2) l' w11 (ReadsV.of_own HT11.out.srt) (by have := HMN.out; have := HMS.out; omega)
        (fun x y hx hy => by
          have h1 := HSO.out x hx
          have h2 := HSO.out y hy
          rw [lcX_cmpX h1.2 h2.2]
          exact ⟨fun h => cmpX_zero h1.2 h2.2 (h1.1.trans h2.1.symm) h, fun h => by rw [h]; exact cmpX_refl y⟩)
        (fun X y hX hy => by
          have hyk := HSO.out y hy
          have e : ∀ z, z ∈ l' → lcX z y = cmpX z y := fun z hz => lcX_cmpX (HSO.out z hz).2 hyk.2
          have t1 := count_turn (up_lt HSO.out HSU.out hyk)
          have t2 := count_turn (up_le HSO.out HSU.out hyk)
          exact qranks_any bs A2 c2 l' y (l'.countP fun z => decide (cmpX z y < 0)) (l'.countP fun z => decide (cmpX z y ≤ 0)) X (by have := HMN.out; have := HMS.out; omega) (by have h := (HT11.out.var.grow hX).cell 0; simpa using h) (ReadsV.grow (ReadsV.of_own HT11.out.srt) hX)
            List.countP_le_length (fun k z hk hz => by have h := of_decide_eq_true ((t1 k z hz).2 hk); rw [e z (List.mem_of_getElem? hz)]; omega) (fun k z hk hz => by rw [e z (List.mem_of_getElem? hz)]; exact Classical.byContradiction fun hc => absurd ((t1 k z hz).1 (decide_eq_true (by omega))) (by omega))
            List.countP_le_length (fun k z hk hz => by have h := of_decide_eq_true ((t2 k z hz).2 hk); rw [e z (List.mem_of_getElem? hz)]; omega) (fun k z hk hz => by rw [e z (List.mem_of_getElem? hz)]; exact Classical.byContradiction fun hc => absurd ((t2 k z hz).1 (decide_eq_true (by omega))) (by omega))))
      refine HCH.out.mono ?_
      rintro e w12 ⟨f, r, rfl, hfr⟩
      obtain ⟨A5, n5, c5, rfl⟩ := own_slice_q hfr.own1
      obtain ⟨A6, n6, c6, rfl⟩ := own_slice_q hfr.own2
      have HFR := hidden hfr
      have HT12 := hidden (HT11.out.grow hfr.grows)
      have HM12 := hidden (ownsRow_grow HM11.out hfr.grows)
      clear hfr HCH y0
      go_wp2_with (first
        | (refine wpList_store_c rfl 22 _ _ rfl (by kernel_rfl) b12 5 rfl (.slice A5 n5 c5) rfl rfl _ _ HT12.out.row (by simp) ?_; intro w13 hr13 ho13; have HT13 := hidden (HT12.out.put ho13 hr13); have HM13 := hidden (ownsRow_only HM12.out ho13 (fun k hk e => ownsRow_row_apart HM12.out HT12.out.row (by decide) (by rw [hk, e]))); have HF13 := hidden (ownsRow_only HFR.out.own1 ho13 (fun k hk e => ownsRow_row_apart HFR.out.own1 HT12.out.row (by decide) (by rw [hk, e]))); have HI13 := hidden (ownsRow_only HFR.out.own2 ho13 (fun k hk e => ownsRow_row_apart HFR.out.own2 HT12.out.row (by decide) (by rw [hk, e]))); clear hr13 ho13)
        | (refine wpList_store_c rfl 27 _ _ rfl (by kernel_rfl) b12 6 rfl (.slice A6 n6 c6) rfl rfl _ _ HT13.out.row (by simp) ?_; intro w14 hr14 ho14; have HT14 := hidden (HT13.out.put ho14 hr14); have HM14 := hidden (ownsRow_only HM13.out ho14 (fun k hk e => ownsRow_row_apart HM13.out HT13.out.row (by decide) (by rw [hk, e]))); have HF14 := hidden (ownsRow_only HF13.out ho14 (fun k hk e => ownsRow_row_apart HF13.out HT13.out.row (by decide) (by rw [hk, e]))); have HI14 := hidden (ownsRow_only HI13.out ho14 (fun k hk e => ownsRow_row_apart HI13.out HT13.out.row (by decide) (by rw [hk, e]))); have z0 := HT14.out.row.cell 0; have z1 := HT14.out.row.cell 1; have z2 := HT14.out.row.cell 2; have z3 := HT14.out.row.cell 3; have z4 := HT14.out.row.cell 4; have z5 := HT14.out.row.cell 5; have z6 := HT14.out.row.cell 6; simp only [List.set_cons_zero, List.set_cons_succ, List.getElem?_cons_succ, List.getElem?_cons_zero] at z0 z1 z2 z3 z4 z5 z6; clear hr14 ho14)
        | ((with_reducible refine at_sk rfl _ _ rfl ?_); refine wpList_store_sk rfl _ _ rfl w.heap.size rfl (.int .i64 (n : Int)) (.int .i64 ((n : Int) - (l'.length : Int))) (.slice A4 n4 c4) (.bool ok) (.slice A3 n3 c3) (.slice A5 n5 c5) (.slice A6 n6 c6) rfl (by simp [Value.oneCell']) _ _ _ _ _ _ _ HT14.out.res ?_; intro w15 hr15 ho15; have HR15 := hidden hr15; have HO15 := hidden ho15; clear hr15 ho15))
      refine bodyPost_ret (results_sk rfl _ _ w.heap.size _ _ _ _ _ _ _ rfl HR15.out) rfl ⟨_, rfl, ?_, HO15.out.below HT14.out.grows (fun i hi => by rw [hi]; exact Nat.le_refl _)⟩
      have hres := HT14.out.res
      have k4 := ownsRow_only HM14.out HO15.out (fun k hk e => ownsRow_row_apart HM14.out hres (by decide) (by rw [hk, e]))
      have k3 := ownsRow_only HT14.out.lst HO15.out (fun k hk e => ownsRow_row_apart HT14.out.lst hres (by decide) (by rw [hk, e]))
      have k5 := ownsRow_only HF14.out HO15.out (fun k hk e => ownsRow_row_apart HF14.out hres (by decide) (by rw [hk, e]))
      have k6 := ownsRow_only HI14.out HO15.out (fun k hk e => ownsRow_row_apart HI14.out hres (by decide) (by rw [hk, e]))
      have l3 := own_len_q k3
      have l4 := own_len_q k4
      have l5 := own_len_q k5
      have l6 := own_len_q k6
      subst l3 l4 l5 l6
      refine ⟨A4, A3, A5, A6, c4, c3, c5, c6, ?_, ?_, ?_, ?_, ?_⟩
      · unfold skB
        rw [← HSV.out, HNN.out, HOK.out]
      · unfold skB
        rw [← HSV.out]
        exact Reads.of_own k4
      · unfold skB
        rw [← HSV.out]
        have h := Reads.of_own k3
        exact h
      · unfold skB
        rw [← HSV.out]
        exact ReadsV.of_own k5
      · unfold skB
        rw [← HSV.out]
        exact Reads.of_own k6
end Go.Proofs.YtoaklmceejeblaaGreat
/-
  Shaken: what the claims of this seat need of this text. No condition.
-/
namespace Go.Proofs.YtoaklmceejeblaaGreat
set_option maxRecDepth 8000
open Go.RowKit
set_option linter.unusedVariables false
set_option linter.unusedSimpArgs false
def x1 : Val := ⟨2, 1, ⟨#[]⟩⟩
def x2 : Val := ⟨2, 2, ⟨#[]⟩⟩
def exL : List Val := [x1, x2, x2, nulX]
theorem ex_sort : sortV exL = [x1, x2, x2] := by kernel_rfl
theorem x_ne : x1 ≠ x2 := fun h => by
  have : x1.n = x2.n := by rw [h]
  exact absurd this (by decide)
theorem ex_fen1 : ∀ i, i ≤ 7 → chF [x1, x2, x2] (i + 1) = [x1]
  | 0, _ => chF_one _
  | i + 1, h => by
    rw [chF_same, ex_fen1 i (by omega)]
    rw [ex_fen1 i (by omega)]
    have : i = 0 ∨ i = 1 ∨ i = 2 ∨ i = 3 ∨ i = 4 ∨ i = 5 ∨ i = 6 := by omega
    rcases this with rfl | rfl | rfl | rfl | rfl | rfl | rfl <;> rfl
theorem ex_fen2 : ∀ i, i ≤ 8 → chF [x1, x2, x2] (i + 9) = [x1, x2]
  | 0, _ => by
    rw [show 0 + 9 = 8 + 1 from rfl, chF_new, ex_fen1 7 (by omega)]
    · rfl
    · rw [ex_fen1 7 (by omega)]
      intro h
      have h : some x1 = some x2 := h
      injection h with h
      exact x_ne h
  | i + 1, h => by
    rw [show i + 1 + 9 = (i + 9) + 1 by omega, chF_same, ex_fen2 i (by omega)]
    rw [ex_fen2 i (by omega)]
    have : i = 0 ∨ i = 1 ∨ i = 2 ∨ i = 3 ∨ i = 4 ∨ i = 5 ∨ i = 6 ∨ i = 7 := by omega
    rcases this with rfl | rfl | rfl | rfl | rfl | rfl | rfl | rfl <;> rfl
theorem ex_fen : fenF (sortV exL) = [x1, x2] := by rw [ex_sort]; exact ex_fen2 8 (by omega)
theorem ex_rk : rkF (ltN [x1, x2, x2]) (leN [x1, x2, x2]) [x1, x2] = [0, 1, 1, 3] := by kernel_rfl
theorem ex_ctr : minL [ctrC (cmF [x1, x2, x2]) 0 x2, ctrC (cmF [x1, x2, x2]) 1 x2, ctrC (cmF [x1, x2, x2]) 2 x2, ctrC (cmF [x1, x2, x2]) 3 x2] = 2 := by decide +kernel
theorem ex_hl : ((insAll [] (hsF [x1, x2, x2])).take 32).length = 2 := by decide +kernel
theorem ex_ok : decide ((insAll [] (hsF [x1, x2, x2])).length ≤ 32) = true := by decide +kernel
theorem ex_sk : skB exL = ⟨4, 1, (insAll [] (hsF [x1, x2, x2])).take 32, true, cmF [x1, x2, x2], [x1, x2], [0, 1, 1, 3]⟩ := by
  unfold skB
  rw [ex_fen, ex_sort, ex_ok, ex_rk]
  rfl
theorem ex_mem : hashR (mix 3) [x2] ∈ (insAll [] (hsF [x1, x2, x2])).take 32 := by decide +kernel
theorem ex_vh : validHB 3 ((insAll [] (hsF [x1, x2, x2])).take 32) true = true := by
  refine validHB_t ⟨by rw [ex_hl]; decide, by rw [ex_hl]; decide, fun _ => by rw [ex_hl]; decide, .inl rfl, fun i hi => ?_⟩
  rw [ex_hl] at hi
  have : i = 0 := by omega
  subst this
  decide +kernel
theorem ex_vc : validCB 3 (cmF [x1, x2, x2]) = true := by
  exact validCB_t ⟨cmF_length _, by unfold rowP; decide +kernel⟩
theorem ex_vf : vfnB 3 [x1, x2] = true := by
  refine vfnB_t ⟨by decide, by simp, fun i f h => ?_, by kernel_rfl⟩
  match i, h with
  | 0, h =>
    simp at h
    subst h
    exact ⟨by decide, rfl, by simp [validV, x1, x2]⟩
  | 1, h =>
    simp at h
    subst h
    exact ⟨by decide, rfl, by simp [validV, x1, x2]⟩
theorem ex_vr : vrkB 3 [0, 1, 1, 3] 2 = true := by
  refine vrkB_t ⟨rfl, fun i h => ?_, rfl⟩
  have : i = 0 ∨ i = 1 := by omega
  rcases this with rfl | rfl
  · exact ⟨by decide, by decide, by decide, fun _ => by decide⟩
  · exact ⟨by decide, by decide, by decide, fun h => absurd h (by decide)⟩
theorem ex_valid : validKB (skB exL) = true := by
  rw [ex_sk]
  unfold validKB
  simp only []
  rw [show ((4 : Int) - 1) = 3 from rfl, ex_vh, ex_vc, ex_vf, show ([x1, x2] : List Val).length = 2 from rfl, ex_vr]
  rfl
theorem ex_okrk : OkRk (skB exL) := by
  rw [ex_sk]
  exact ⟨by decide, by decide, fun r hr => by simp at hr; rcases hr with rfl | rfl | rfl <;> decide⟩
theorem ex_val2 : validV x2.k x2.n x2.t = true := by simp [validV, x2]
theorem ex_lc1 : lcX x1 x2 = -1 := by kernel_rfl
theorem ex_lc2 : lcX x2 x2 = 0 := by kernel_rfl
theorem ex_lo (k : Nat) (y : Val) (hk : k < 2) (hy : (skB exL).fs[k]? = some y) : ¬ 0 < lcX y x2 := by
  rw [ex_sk] at hy
  have : k = 0 ∨ k = 1 := by omega
  rcases this with rfl | rfl
  · have hy : some x1 = some y := hy
    injection hy with hy
    rw [← hy, ex_lc1]
    decide
  · have hy : some x2 = some y := hy
    injection hy with hy
    rw [← hy, ex_lc2]
    decide
theorem ex_lo1 (k : Nat) (y : Val) (hk : k < 1) (hy : (skB exL).fs[k]? = some y) : ¬ 0 ≤ lcX y x2 := by
  rw [ex_sk] at hy
  have : k = 0 := by omega
  subst this
  have hy : some x1 = some y := hy
  injection hy with hy
  rw [← hy, ex_lc1]
  decide
theorem ex_hi (k : Nat) (y : Val) (hk : 2 ≤ k) (hy : (skB exL).fs[k]? = some y) : 0 < lcX y x2 := by
  rw [ex_sk] at hy
  have := (List.getElem?_eq_some_iff.1 hy).1
  simp at this
  omega
theorem ex_hi1 (k : Nat) (y : Val) (hk : 1 ≤ k) (hy : (skB exL).fs[k]? = some y) : 0 ≤ lcX y x2 := by
  rw [ex_sk] at hy
  have := (List.getElem?_eq_some_iff.1 hy).1
  simp at this
  have : k = 1 := by omega
  subst this
  have hy : some x2 = some y := hy
  injection hy with hy
  rw [← hy, ex_lc2]
  decide
theorem ex_fl : (skB exL).fs.length = 2 := by rw [ex_sk]; rfl
theorem ex_rl : (skB exL).rk.length = 4 := by rw [ex_sk]; rfl
theorem ex_hsl : (skB exL).hs.length = 2 := by rw [ex_sk]; exact ex_hl
theorem ex_cl : (skB exL).cm.length = 256 := by rw [ex_sk]; exact cmF_length _
theorem ex_one : oneOr 2 exL := by
  intro x hx
  simp [exL] at hx
  rcases hx with rfl | rfl | rfl
  · exact .inr ⟨rfl, by simp [okX, validV, x1]⟩
  · exact .inr ⟨rfl, by simp [okX, validV, x2]⟩
  · exact .inl rfl
theorem ex_out : ceqOut (skB exL) x2 = false := by
  unfold ceqOut
  rw [ex_sk]
  simp only []
  rw [decide_eq_true ex_mem]
  rfl
theorem ex_eq : ceqLo (skB exL) x2 2 1 = 2 ∧ ceqHi (skB exL) x2 2 1 = 2 := by
  unfold ceqLo ceqHi
  rw [ex_out, if_neg (by simp), if_neg (by simp), ex_sk]
  simp only []
  rw [ex_ctr]
  exact ⟨by kernel_rfl, by kernel_rfl⟩
theorem ex_less : bfLo (skB exL) 1 = 1 ∧ bfHi (skB exL) 1 = 1 := by
  rw [ex_sk]
  exact ⟨by kernel_rfl, by kernel_rfl⟩
theorem ex_dist : cdLo (skB exL) = 2 ∧ cdHi (skB exL) = 2 := by
  rw [ex_sk]
  unfold cdLo cdHi
  simp only []
  rw [if_pos trivial, ex_hl]
  exact ⟨rfl, by kernel_rfl⟩
theorem ex_build (v : Value) (w : World) (hv : ReadsV w v exL) : Calls Tryz.prog 14 #[v] w fun e w' => ∃ u, e = .returned u ∧ IsK w' u (skB exL) ∧ Grows w w' := qBuild_of sortU_12 v exL w hv (by decide) (by decide) ex_one
theorem ex_cValid (v : Value) (w : World) (hk : IsK w v (skB exL)) : Calls Tryz.prog 18 #[v] w fun e w' => e = .returned (.bool true) ∧ Grows w w' := by
  have h := qValid_any v (skB exL) w hk (by rw [ex_hsl]; decide) (by rw [ex_fl]; decide) (by rw [ex_rl]; decide) (by rw [ex_sk]; decide)
  rwa [ex_valid] at h
theorem ex_cEqual (v : Value) (w : World) (hk : IsK w v (skB exL)) : Calls Tryz.prog 21 #[v, .agg #[.int .i64 2, .int .i64 2, .string ⟨#[]⟩]] w fun e w' => e = .returned (.agg #[.int .i64 2, .int .i64 2]) ∧ Grows w w' := by
  have h := qCountEqual_any v (skB exL) x2 2 1 w hk (by rw [ex_hsl]; decide) (by rw [ex_fl]; decide) (by rw [ex_rl]; decide) ex_cl ex_okrk ex_val2 (by rw [ex_fl]; decide) ex_lo ex_hi (by rw [ex_fl]; decide) ex_lo1 ex_hi1
  rwa [ex_eq.1, ex_eq.2] at h
theorem ex_cLess (v : Value) (w : World) (hk : IsK w v (skB exL)) : Calls Tryz.prog 23 #[v, .agg #[.int .i64 2, .int .i64 2, .string ⟨#[]⟩]] w fun e w' => e = .returned (.agg #[.int .i64 1, .int .i64 1]) ∧ Grows w w' := by
  have h := qCountLess_any v (skB exL) x2 1 w hk (by rw [ex_fl]; decide) (by rw [ex_rl]; decide) (by rw [ex_sk]; decide) (by rw [ex_fl]; decide) ex_lo1 ex_hi1
  rwa [ex_less.1, ex_less.2] at h
theorem ex_cDist (v : Value) (w : World) (hk : IsK w v (skB exL)) : Calls Tryz.prog 27 #[v] w fun e w' => e = .returned (.agg #[.int .i64 2, .int .i64 2]) ∧ Grows w w' := by
  have h := qCountDistinct_any v (skB exL) w hk (by rw [ex_hsl]; decide) (by rw [ex_fl]; decide) (by rw [ex_sk]; decide) (by rw [ex_sk]; decide)
  rwa [ex_dist.1, ex_dist.2] at h
end Go.Proofs.YtoaklmceejeblaaGreat
/-
  Shaken: what the claims of this seat need of this text. No condition.
-/
namespace Go.Proofs.YtoaklmceejeblaaGreat
open Go.RowKit
set_option linter.unusedVariables false
set_option linter.unusedSimpArgs false
theorem qinteger_any (n : Int) (w : World) : Calls Tryz.prog 37 #[.int .i64 n] w fun e w' => e = .returned (.agg #[.int .i64 2, .int .i64 n, .string ⟨#[]⟩]) ∧ Grows w w' := by
  go_enter Tryz.func37, Tryz.ntmps37
  go_wp2_with fail
  exact bodyPost_ret (results_val rfl _ _ _ _ _ _ rfl (valRow w _ _ _)) rfl ⟨rfl, growK _ _⟩
theorem ex_form {w : World} {v : Value} (h : IsK w v (skB exL)) : ∃ A1 A2 A3 b4 o4 c1 c2 c3 c4, v = .agg #[.int .i64 4, .int .i64 1, .slice A1 2 c1, .bool true, .slice A2 256 c2, .slice A3 2 c3, .slice (some ⟨b4, o4, none⟩) 4 c4] ∧ w.cell? ⟨b4, o4 + 3, none⟩ = some (.int .i64 3) := by
  obtain ⟨A1, A2, A3, A4, c1, c2, c3, c4, h0, -, -, -, h4⟩ := h
  rw [ex_hsl, ex_cl, ex_fl, ex_rl, ex_sk] at h0
  rw [ex_rl, ex_sk] at h4
  obtain ⟨A', c', he, _, hc⟩ := h4
  obtain ⟨b, off, rfl, hcell⟩ := hc (by decide)
  injection he with he _ _
  subst he
  exact ⟨A1, A2, A3, b, off, c1, c2, c3, c4, h0, hcell 3 (by decide)⟩
theorem ex_reads (w : World) : ReadsV (w.alloc (.cells #[.int .i64 2, .int .i64 1, .string ⟨#[]⟩, .int .i64 2, .int .i64 2, .string ⟨#[]⟩, .int .i64 2, .int .i64 2, .string ⟨#[]⟩, .int .i64 0, .int .i64 0, .string ⟨#[]⟩] 35)) (.slice (some ⟨w.heap.size, 0, none⟩) 4 4) exL := by
  have hr := Row.new w 35 #[.int .i64 2, .int .i64 1, .string ⟨#[]⟩, .int .i64 2, .int .i64 2, .string ⟨#[]⟩, .int .i64 2, .int .i64 2, .string ⟨#[]⟩, .int .i64 0, .int .i64 0, .string ⟨#[]⟩] _ rfl
  refine ⟨_, 4, rfl, by decide, fun _ => ⟨w.heap.size, 0, rfl, fun j x hj => ?_⟩⟩
  have hl := (List.getElem?_eq_some_iff.1 hj).1
  have hl : j < 4 := hl
  rw [hr.cell, hr.cell, hr.cell]
  have : j = 0 ∨ j = 1 ∨ j = 2 ∨ j = 3 := by omega
  rcases this with rfl | rfl | rfl | rfl <;> (simp [exL] at hj; subst hj; exact ⟨rfl, rfl, rfl⟩)
set_option maxHeartbeats 16000000 in
set_option maxRecDepth 8000 in
theorem qawake_any (w : World) : Calls Tryz.prog 12 #[] w fun e w' => e = .returned (.bool true) ∧ Grows w w' := by
  have HI := hidden (fun n W => qinteger_any n W)
  have HG0 := hidden (Below.refl w.heap.size w)
  go_enter Tryz.func12, Tryz.ntmps12
  go_wp2_with fail
  refine (HI.out _ _).mono ?_
  rintro e wa ⟨rfl, ga⟩
  go_wp2_with fail
  refine (HI.out _ _).mono ?_
  rintro e wb ⟨rfl, gb⟩
  go_wp2_with fail
  refine (HI.out _ _).mono ?_
  rintro e wc ⟨rfl, gc⟩
  have HGC := hidden ((ga.of_below gb).of_below gc)
  clear ga gb gc
  go_wp2_with fail
  refine (ex_build _ _ (ex_reads wc)).mono ?_
  rintro e wd ⟨u, rfl, hk, gd⟩
  obtain ⟨A1, A2, A3, b4, o4, c1, c2, c3, c4, rfl, hr3⟩ := ex_form hk
  have HGD := hidden (HGC.out.of_below ((growK _ _).of_below gd))
  obtain ⟨We, hWe⟩ : ∃ We, We = wd.alloc (.cells #[.int .i64 4, .int .i64 1, .slice A1 2 c1, .bool true, .slice A2 256 c2, .slice A3 2 c3, .slice (some ⟨b4, o4, none⟩) 4 c4] 29) := ⟨_, rfl⟩
  have hGE : Grows wd We := by rw [hWe]; exact growK _ _
  have HGE := hidden (HGD.out.of_below hGE)
  have HK := hidden (hk.grow hGE)
  have hRW : Row We wd.heap.size 29 [.int .i64 4, .int .i64 1, .slice A1 2 c1, .bool true, .slice A2 256 c2, .slice A3 2 c3, .slice (some ⟨b4, o4, none⟩) 4 c4] := by rw [hWe]; exact skrow_new _ _ _ _ _ _ _ _
  have HX := hidden (fun X (h : Grows We X) => show X.cell? ⟨wd.heap.size, 0, none⟩ = some (.int .i64 4) ∧ X.cell? ⟨wd.heap.size, 1, none⟩ = some (.int .i64 1) ∧ X.cell? ⟨wd.heap.size, 2, none⟩ = some (.slice A1 2 c1) ∧ X.cell? ⟨wd.heap.size, 3, none⟩ = some (.bool true) ∧ X.cell? ⟨wd.heap.size, 4, none⟩ = some (.slice A2 256 c2) ∧ X.cell? ⟨wd.heap.size, 5, none⟩ = some (.slice A3 2 c3) ∧ X.cell? ⟨wd.heap.size, 6, none⟩ = some (.slice (some ⟨b4, o4, none⟩) 4 c4) ∧ X.cell? ⟨b4, o4 + 3, none⟩ = some (.int .i64 3) from
    ⟨(hRW.grow h).cell 0, (hRW.grow h).cell 1, (hRW.grow h).cell 2, (hRW.grow h).cell 3, (hRW.grow h).cell 4, (hRW.grow h).cell 5, (hRW.grow h).cell 6, ((hGE.of_below h).cell (World.block_lt_of_cell? _ _ hr3)).trans hr3⟩)
  clear hr3 hk gd hGE hRW HI HG0
  go_wp2_with fail
  rw [← hWe]
  clear hWe
  refine wp_region_loose (tabRs [(29, ConstV (.bool true)), (33, ConstV (.agg #[.int .i64 2, .int .i64 2, .string ⟨#[]⟩])), (34, ConstV (.agg #[.int .i64 2, .int .i64 2])), (40, ConstV (.agg #[.int .i64 2, .int .i64 2, .string ⟨#[]⟩])), (41, ConstV (.agg #[.int .i64 1, .int .i64 1])), (47, ConstV (.agg #[.int .i64 2, .int .i64 2]))]) (by kernel_rfl) (by kernel_rfl) (tabRs_cons ConstV.lasts (tabRs_cons ConstV.lasts (tabRs_cons ConstV.lasts (tabRs_cons ConstV.lasts (tabRs_cons ConstV.lasts (tabRs_cons ConstV.lasts tabRs_nil)))))) ?_
  iterate 29 ((with_reducible refine loose_one (v := ?_) (a' := ?_) ?_ ?_ (fun w' hC' hG' => ?_) ?_ ?_); rotate_left 2; (focus rfl); (focus rfl); (focus (obtain ⟨s0, s1, s2, s3, s4, s5, s6, r3⟩ := HX.out w' hC'; clear hC' hG'; go_simp; rfl)); (focus (go_simp; rfl)))
  refine loose_call (R := ConstV (.bool true)) (f := 18) (args := #[.agg #[.int .i64 4, .int .i64 1, .slice A1 2 c1, .bool true, .slice A2 256 c2, .slice A3 2 c3, .slice (some ⟨b4, o4, none⟩) 4 c4]]) (by rfl) (by rfl) (fun _ => by go_simp) (fun w' hC' hG' => const_loose16 (ex_cValid _ w' (HK.out.grow hC'))) ?_
  rintro _ ⟨_, _, rfl⟩
  refine ⟨?_, ?_, ?_⟩
  rotate_left
  · go_simp
    rfl
  iterate 3 ((with_reducible refine loose_one (v := ?_) (a' := ?_) ?_ ?_ (fun w' hC' hG' => ?_) ?_ ?_); rotate_left 2; (focus rfl); (focus rfl); (focus (obtain ⟨s0, s1, s2, s3, s4, s5, s6, r3⟩ := HX.out w' hC'; clear hC' hG'; go_simp; rfl)); (focus (go_simp; rfl)))
  refine loose_call (R := ConstV (.agg #[.int .i64 2, .int .i64 2, .string ⟨#[]⟩])) (f := 37) (args := #[.int .i64 2]) (by rfl) (by rfl) (fun _ => by go_simp) (fun w' hC' hG' => const_loose16 (qinteger_any 2 w')) ?_
  rintro _ ⟨_, _, rfl⟩
  refine ⟨?_, ?_, ?_⟩
  rotate_left
  · go_simp
    rfl
  refine loose_call (R := ConstV (.agg #[.int .i64 2, .int .i64 2])) (f := 21) (args := #[.agg #[.int .i64 4, .int .i64 1, .slice A1 2 c1, .bool true, .slice A2 256 c2, .slice A3 2 c3, .slice (some ⟨b4, o4, none⟩) 4 c4], .agg #[.int .i64 2, .int .i64 2, .string ⟨#[]⟩]]) (by rfl) (by rfl) (fun _ => by go_simp) (fun w' hC' hG' => const_loose16 (ex_cEqual _ w' (HK.out.grow hC'))) ?_
  rintro _ ⟨_, _, rfl⟩
  refine ⟨?_, ?_, ?_⟩
  rotate_left
  · go_simp
    rfl
  iterate 5 ((with_reducible refine loose_one (v := ?_) (a' := ?_) ?_ ?_ (fun w' hC' hG' => ?_) ?_ ?_); rotate_left 2; (focus rfl); (focus rfl); (focus (obtain ⟨s0, s1, s2, s3, s4, s5, s6, r3⟩ := HX.out w' hC'; clear hC' hG'; go_simp; rfl)); (focus (go_simp; rfl)))
  refine loose_call (R := ConstV (.agg #[.int .i64 2, .int .i64 2, .string ⟨#[]⟩])) (f := 37) (args := #[.int .i64 2]) (by rfl) (by rfl) (fun _ => by go_simp) (fun w' hC' hG' => const_loose16 (qinteger_any 2 w')) ?_
  rintro _ ⟨_, _, rfl⟩
  refine ⟨?_, ?_, ?_⟩
  rotate_left
  · go_simp
    rfl
  refine loose_call (R := ConstV (.agg #[.int .i64 1, .int .i64 1])) (f := 23) (args := #[.agg #[.int .i64 4, .int .i64 1, .slice A1 2 c1, .bool true, .slice A2 256 c2, .slice A3 2 c3, .slice (some ⟨b4, o4, none⟩) 4 c4], .agg #[.int .i64 2, .int .i64 2, .string ⟨#[]⟩]]) (by rfl) (by rfl) (fun _ => by go_simp) (fun w' hC' hG' => const_loose16 (ex_cLess _ w' (HK.out.grow hC'))) ?_
  rintro _ ⟨_, _, rfl⟩
  refine ⟨?_, ?_, ?_⟩
  rotate_left
  · go_simp
    rfl
  iterate 5 ((with_reducible refine loose_one (v := ?_) (a' := ?_) ?_ ?_ (fun w' hC' hG' => ?_) ?_ ?_); rotate_left 2; (focus rfl); (focus rfl); (focus (obtain ⟨s0, s1, s2, s3, s4, s5, s6, r3⟩ := HX.out w' hC'; clear hC' hG'; go_simp; rfl)); (focus (go_simp; rfl)))
  refine loose_call (R := ConstV (.agg #[.int .i64 2, .int .i64 2])) (f := 27) (args := #[.agg #[.int .i64 4, .int .i64 1, .slice A1 2 c1, .bool true, .slice A2 256 c2, .slice A3 2 c3, .slice (some ⟨b4, o4, none⟩) 4 c4]]) (by rfl) (by rfl) (fun _ => by go_simp) (fun w' hC' hG' => const_loose16 (ex_cDist _ w' (HK.out.grow hC'))) ?_
  rintro _ ⟨_, _, rfl⟩
  refine ⟨?_, ?_, ?_⟩
  rotate_left
  · go_simp
    rfl
  iterate 4 ((with_reducible refine loose_one (v := ?_) (a' := ?_) ?_ ?_ (fun w' hC' hG' => ?_) ?_ ?_); rotate_left 2; (focus rfl); (focus rfl); (focus (obtain ⟨s0, s1, s2, s3, s4, s5, s6, r3⟩ := HX.out w' hC'; clear hC' hG'; go_simp; rfl)); (focus (go_simp; rfl)))
  refine loose_done (fun w9 hC9 hG9 => ?_)
  have HB9 := hidden (HGE.out.of_below hC9)
  clear hC9 hG9
  go_wp2_with fail
  go_ret
  exact ⟨rfl, HB9.out⟩
end Go.Proofs.YtoaklmceejeblaaGreat
