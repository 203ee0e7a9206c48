/-
  Texts that the claims of this seat share, put together (VdK, VdL, VdM, VcPk). No condition.
-/
import Derived.Test.YtfjhahhkakfhmaaM9
import Derived.RangeFuncNested
import Derived.RangeFuncBound
import Derived.RangeFuncCalls
import Derived.RangeFuncLeaves
import Derived.RangeFuncBox
import Derived.Shelf.Abstract
import Derived.Shelf.RegionOpen
import Derived.OwnWalkIn
import Derived.TacticsInMore
import Derived.LoopNIn
import Derived.LoopIn
/-
  Shaken: what the claims of this seat need of this text. No condition.
-/
namespace Go.Proofs.Ytfjhahhkakfhmaa
open Go.RowKit Go.Shelf
attribute [local go_sem] Oper.semAt_some
set_option linter.unusedVariables false
set_option linter.unusedSimpArgs false
theorem chunk_any (A : Option Addr) (n c : Nat) (size : Nat) (w : World) (h1 : 1 ≤ size) (h2 : size ≤ 1000000) :
    Calls Try.prog 71 #[.slice A n c, .int .i64 (size : Int)] w fun e w' => e = .returned (.func (.func 74) #[] #[.pointer (some ⟨w.heap.size, 0, none⟩), .pointer (some ⟨w.heap.size + 1, 0, none⟩)]) ∧ Row w' w.heap.size 57 [.slice A n c] ∧ Row w' (w.heap.size + 1) 3 [.int .i64 (size : Int)] ∧ Grows w w' := by
  have hs0 : decide ((size : Int) < 1) = false := by simp; omega
  have hs1 : decide (size < 1) = false := by simp; omega
  have HR := hidden (show Row ((w.alloc (.cells #[.slice A n c] 57)).alloc (.cells #[.int .i64 (size : Int)] 3)) w.heap.size 57 [.slice A n c] from (Row.new w _ _ _ rfl).grow (grow1 _))
  have HS := hidden (show Row ((w.alloc (.cells #[.slice A n c] 57)).alloc (.cells #[.int .i64 (size : Int)] 3)) (w.heap.size + 1) 3 [.int .i64 (size : Int)] from Row.at_ _ _ _ _ rfl _ (by simp))
  have HG := hidden (show Grows w ((w.alloc (.cells #[.slice A n c] 57)).alloc (.cells #[.int .i64 (size : Int)] 3)) from (grow1 _).of_below (grow1 _))
  go_enter Try.func71, Try.ntmps71
  go_wp2_with fail
  go_ret
  exact ⟨rfl, HR.out, HS.out, HG.out⟩
def KeepB (L : List Nat) (W W' : World) : Prop := ∀ k ∈ L, W'.heap[k]? = W.heap[k]?
theorem KeepB.t {L : List Nat} {A B C : World} (h : KeepB L A B) (k : KeepB L B C) : KeepB L A C := fun i hi => (k i hi).trans (h i hi)
theorem KeepB.b {L : List Nat} {w : World} (hL : ∀ k ∈ L, k < w.heap.size) (W : World) (l : Nat) (o o' : Obj) (hl : w.heap.size ≤ l) (h : W.heap[l]? = some o) (_ : o.isCells = false) (_ : o.isWalk = false) : KeepB L W (W.putObj l o') :=
  fun k hk => World.putObj_heap_other (by have := hL k hk; omega)
def pieceV (A : Option Addr) (n size j : Nat) : Value := .slice (A.map (·.add (j * size))) (min size (n - j * size)) (min size (n - j * size))
def ChRel (A : Option Addr) (n c size b1 b2 : Nat) (J : List Nat → World → Prop) (i : Value) (wr : World) : Prop := ∃ k I : Nat, I = k * size ∧ I ≤ n + size ∧ i = .int .i64 (I : Int) ∧ J (List.range k) wr ∧ Row wr b1 57 [.slice A n c] ∧ Row wr b2 3 [.int .i64 (size : Int)] ∧ (0 < k → (k - 1) * size < n)
theorem grown_drew17 (w : World) (row : Option Nat) : w.grownBy w.drew row := ⟨rfl, rfl, rfl, Nat.le_refl _, fun _ _ _ => rfl⟩
set_option maxRecDepth 100000 in
set_option maxHeartbeats 4000000 in
theorem chunk1_in (n' l : Nat) (A : Option Addr) (n c size b1 b2 : Nat) (J Jx : List Nat → World → Prop) (h1 : 1 ≤ size) (h2 : size ≤ 1000000) (hn : n ≤ 1000000) (hnc : n ≤ c) (hA : 0 < n → ∃ b off, A = some ⟨b, off, none⟩)
    (hY : ∀ (pre : List Nat) (j : Nat) W, J pre W → pre.length < n → j * size < n → YieldAt Fence.wide (n' - 1) Try.prog l #[pieceV A n size j] W fun e W' =>
      (e = .returned (.bool true) ∧ J (pre ++ [j]) W' ∧ KeepB [b1, b2] W W') ∨ (e = .returned (.bool false) ∧ Jx (pre ++ [j]) W'))
    (W : World) (hJab : AbidesFrom W.heap.size J) (hr1 : Row W b1 57 [.slice A n c]) (hr2 : Row W b2 3 [.int .i64 (size : Int)]) (h0 : J [] W) :
    CallsIn Fence.wide n' Try.prog 74 #[.func (.yield l) #[] #[], .pointer (some ⟨b1, 0, none⟩), .pointer (some ⟨b2, 0, none⟩)] W fun e W' => (∃ v, e = .returned v) ∧
      ((∃ m, n ≤ m * size ∧ (0 < m → (m - 1) * size < n) ∧ J (List.range m) W') ∨ (∃ pre, Jx pre W')) := by
  refine callsIn_of_wp Try.func74 rfl trivial ?_ rfl
  simp only [Try.ntmps74, List.size_toArray, List.length_cons, List.length_nil, Nat.reduceAdd, Nat.reduceSub, Array.replicate_succ, Array.replicate_zero, List.push_toArray, List.append_toArray, List.nil_append, List.cons_append]
  have HR1 := hidden hr1
  have HR2 := hidden hr2
  clear hr1 hr2
  gi_wp2
  gi_loopw [4] (fun r wr => ChRel A n c size b1 b2 J r wr) (fun r _ => n - (intOf r).toNat)
  case atStart => exact ⟨0, 0, by omega, by omega, rfl, h0, HR1.out, HR2.out, fun h => by omega⟩
  case round =>
    obtain ⟨k, I, hI, hIn, rfl, hJ, hr1, hr2, hlast⟩ := hrel
    have HQ1 := hidden hr1
    have HQ2 := hidden hr2
    have q1 := hr1.cell 0
    have q2 := hr2.cell 0
    simp only [List.getElem?_cons_zero] at q1 q2
    clear hr1 hr2
    have HJ := hidden hJ
    have HI := hidden hI
    clear hJ hI
    by_cases hlt : I < n
    · obtain ⟨b, off, rfl⟩ := hA (by omega)
      have hklt : k < n := by
        have h1' := HI.out
        have : k * 1 ≤ k * size := Nat.mul_le_mul_left k h1
        omega
      have HJD := hidden (hJab _ wr wr.drew none HJ.out (grown_drew17 _ _) (fun _ h => by cases h))
      have HYY := hidden (hY (List.range k) k wr.drew HJD.out (by rw [List.length_range]; exact hklt) (by rw [← HI.out]; exact hlt))
      have HSN := hidden (show List.range k ++ [k] = List.range (k + 1) from (List.range_succ).symm)
      rw [HSN.out] at HYY
      have HI1 := hidden (show I + size = (k + 1) * size by rw [HI.out, Nat.add_mul, Nat.one_mul])
      have HD1 := hidden (show Row wr.drew b1 57 [.slice (some ⟨b, off, none⟩) n c] from HQ1.out)
      have HD2 := hidden (show Row wr.drew b2 3 [.int .i64 (size : Int)] from HQ2.out)
      have HLS := hidden (show (k + 1 - 1) * size < n by rw [Nat.add_sub_cancel, ← HI.out]; exact hlt)
      have hd : decide (I < n) = true := by simpa using hlt
      have hI0 : (0 : Int) ≤ (I : Int) := by omega
      have hI1 : (I : Int) < (n : Int) := by omega
      have hI2 : (I : Int) ≤ (n : Int) := by omega
      obtain ⟨E, hE⟩ : ∃ E, E = min size (n - I) := ⟨_, rfl⟩
      have hEp : pieceV (some ⟨b, off, none⟩) n size k = .slice (some ⟨b, off + I, none⟩) E E := by
        unfold pieceV
        rw [← HI.out, ← hE]
        simp [Addr.add]
      rw [hEp] at HYY
      obtain ⟨fn, tmps, assign, body, hy, hR⟩ := HYY.out
      have HR := hidden hR
      have hE0 : 0 < E := by omega
      have hEI : I + E ≤ n := by omega
      have hEc : I + E ≤ c := by omega
      have hEs : E ≤ size := by omega
      have hmn : (if n - I < size then ((n - I : Nat) : Int) else (size : Int)) = (E : Int) := by
        by_cases h : n - I < size
        · rw [if_pos h, hE, Nat.min_eq_right (by omega)]
        · rw [if_neg h, hE, Nat.min_eq_left (by omega)]
      have HLT := hidden hlt
      have HHN := hidden (And.intro h2 hn)
      clear hE hEp hR hY h0 hlast hklt
      gi_wp2_with fail
      gi_region
      obtain ⟨WD, hWD⟩ : ∃ WD, WD = wr.drew := ⟨_, rfl⟩
      rw [← hWD] at HD1 HD2 HR hy ⊢
      have r1 := HD1.out.cell 0
      have r2 := HD2.out.cell 0
      simp only [List.getElem?_cons_zero] at r1 r2
      clear q1 q2 hmn hWD HJ HQ1 HQ2 HJD HYY
      gi_wp2_with fail
      refine ⟨(fun h => by cases h), HR.out.mono ?_⟩
      rintro e W3 (⟨rfl, hJ3, hk3⟩ | ⟨rfl, hJx3⟩)
      · have HT1 := hidden (show Row W3 b1 57 [.slice (some ⟨b, off, none⟩) n c] from (hk3 b1 (by simp)).trans HD1.out)
        have HT2 := hidden (show Row W3 b2 3 [.int .i64 (size : Int)] from (hk3 b2 (by simp)).trans HD2.out)
        have r2 := HT2.out.cell 0
        simp only [List.getElem?_cons_zero] at r2
        have hsb := HHN.out
        clear hk3
        gi_wp2
        go_roundw
        case rel => exact ⟨k + 1, I + size, HI1.out, by have := HLT.out; omega, by have := HLT.out; go_num, hJ3, HT1.out, HT2.out, fun _ => HLS.out⟩
        case measure => have := HLT.out; simp [intOf]; omega
      · gi_wp2
        refine bodyPost_ret (results_none rfl _ _ _) rfl ?_
        exact ⟨⟨_, rfl⟩, .inr ⟨_, hJx3⟩⟩
    · have hd : decide (I < n) = false := by simpa using hlt
      have HLT := hidden hlt
      have HLA := hidden hlast
      clear hlt hlast hY h0
      gi_wp2
      go_end0
      exact ⟨⟨_, rfl⟩, .inl ⟨k, by have := HI.out; have := HLT.out; omega, HLA.out, HJ.out⟩⟩
end Go.Proofs.Ytfjhahhkakfhmaa
/-
  Shaken: what the claims of this seat need of this text. No condition.
-/
namespace Go.Proofs.Ytfjhahhkakfhmaa
set_option maxRecDepth 8000
open Go.RowKit Go.Shelf
attribute [local go_sem] Oper.semAt_some
set_option linter.unusedVariables false
set_option linter.unusedSimpArgs false
theorem chunk1_stops (n' : Nat) (A : Option Addr) (n c size b1 b2 : Nat) (w : World) (h1 : 1 ≤ size) (h2 : size ≤ 1000000) (hn : n ≤ 1000000) (hnc : n ≤ c) (hA : 0 < n → ∃ b off, A = some ⟨b, off, none⟩) (hr1 : Row w b1 57 [.slice A n c]) (hr2 : Row w b2 3 [.int .i64 (size : Int)]) :
    SeqStopsK Fence.wide n' Try.prog 74 #[.pointer (some ⟨b1, 0, none⟩), .pointer (some ⟨b2, 0, none⟩)] (fun j : Nat => #[pieceV A n size j]) (KeepB [b1, b2]) (fun ys => ∃ m, ys = List.range m ∧ n ≤ m * size ∧ (0 < m → (m - 1) * size < n)) (fun _ => True) n w := fun l J Jx W hW hJ _ hY h0 => by
  refine (chunk1_in n' l A n c size b1 b2 J Jx h1 h2 hn hnc hA (fun pre j W hj hl _ => hY pre j W hj hl) W hJ ((hW.block _ hr1.lt).trans hr1) ((hW.block _ hr2.lt).trans hr2) h0).mono ?_
  rintro e W' ⟨hv, (⟨m, q1, q2, q3⟩ | ⟨pre, q⟩)⟩
  · exact ⟨hv, .inl ⟨_, ⟨m, rfl, q1, q2⟩, q3⟩⟩
  · exact ⟨hv, .inr ⟨pre, trivial, q⟩⟩
def pieceR (rs : List (List Val)) (size j : Nat) : List (List Val) := (rs.drop (j * size)).take size
theorem pieceR_len (rs : List (List Val)) (size j : Nat) : (pieceR rs size j).length = min size (rs.length - j * size) := by simp [pieceR]
theorem pieceR_isRs {w : World} {A : Option Addr} {n c : Nat} {rs : List (List Val)} (h : IsRs w (.slice A n c) rs) (size j : Nat) : IsRs w (pieceV A n size j) (pieceR rs size j) := by
  obtain ⟨A', c', he, hle, hcell⟩ := h
  injection he with e1 e2 e3
  subst e1 e2
  unfold pieceV
  refine ⟨A.map (·.add (j * size)), min size (rs.length - j * size), by rw [pieceR_len], by rw [pieceR_len]; exact Nat.le_refl _, fun hl => ?_⟩
  rw [pieceR_len] at hl
  obtain ⟨b, off, rfl, hcc⟩ := hcell (by omega)
  refine ⟨b, off + j * size, by simp [Addr.add], fun i l hi => ?_⟩
  have hi2 : rs[j * size + i]? = some l := by
    unfold pieceR at hi
    rw [List.getElem?_take] at hi
    split at hi
    · rwa [List.getElem?_drop] at hi
    · cases hi
  obtain ⟨u, h1, h2⟩ := hcc _ l hi2
  exact ⟨u, by rw [Nat.add_assoc]; exact h1, h2⟩
theorem pieceR_sub (rs : List (List Val)) (size j : Nat) : ∀ r ∈ pieceR rs size j, r ∈ rs := fun r hr => List.mem_of_mem_drop (List.mem_of_mem_take hr)
theorem pieces_range (size : Nat) (hs : 1 ≤ size) : ∀ (f m : Nat) (rs : List (List Val)), rs.length ≤ f → rs.length ≤ m * size → (0 < m → (m - 1) * size < rs.length) → (List.range m).map (pieceR rs size) = piecesF size f rs
  | 0, m, rs, hf, h1, h2 => by
    have : m = 0 := by
      rcases Nat.eq_zero_or_pos m with h | h
      · exact h
      · have := h2 h; omega
    subst this
    rfl
  | f + 1, m, rs, hf, h1, h2 => by
    unfold piecesF
    by_cases hr : rs = []
    · rw [if_pos hr]
      subst hr
      have : m = 0 := by
        rcases Nat.eq_zero_or_pos m with h | h
        · exact h
        · have := h2 h; simp at this
      subst this
      rfl
    · rw [if_neg hr]
      have hl : 0 < rs.length := List.length_pos_iff.2 hr
      obtain ⟨k, rfl⟩ : ∃ k, m = k + 1 := by
        cases m with
        | zero => omega
        | succ k => exact ⟨k, rfl⟩
      have h3 := h2 (by omega)
      rw [Nat.add_sub_cancel] at h3
      rw [Nat.add_mul, Nat.one_mul] at h1
      rw [List.range_succ_eq_map, List.map_cons, List.map_map]
      have e0 : pieceR rs size 0 = rs.take size := by simp [pieceR]
      rw [e0, ← pieces_range size hs f k (rs.drop size) (by rw [List.length_drop]; omega) (by rw [List.length_drop]; omega) (fun hk => by
        rw [List.length_drop]
        have : (k - 1) * size + size = k * size := by
          obtain ⟨q, rfl⟩ : ∃ q, k = q + 1 := ⟨k - 1, by omega⟩
          rw [Nat.add_sub_cancel, Nat.add_mul, Nat.one_mul]
        omega)]
      congr 1
      apply List.map_congr_left
      intro j _
      show pieceR rs size (j + 1) = pieceR (rs.drop size) size j
      unfold pieceR
      rw [List.drop_drop]
      congr 2
      rw [Nat.add_mul, Nat.one_mul, Nat.add_comm]
def OwnB (base : Nat) (X : World) (x : Value) (B : Bat) : Prop := ∃ p ys, x = .agg #[p, .int .i64 B.len, .bool true, .slice none 0 0] ∧ ColsW base X p ys B.cs ∧ B.all = true ∧ B.sel = []
theorem OwnB.isB {base : Nat} {X : World} {x : Value} {B : Bat} (h : OwnB base X x B) : IsB X x B := by
  obtain ⟨cs, L, al, sel⟩ := B
  obtain ⟨p, ys, rfl, hc, rfl, rfl⟩ := h
  exact hc.isB _
structure BsW (base : Nat) (X : World) (v : Value) (xs : List Value) (bs : List Bat) : Prop where
  row : X.ownsRow base 45 4 v bs.length (quads xs)
  len : xs.length = bs.length
  own : ∀ (j : Nat) (x : Value) (B : Bat), xs[j]? = some x → bs[j]? = some B → OwnB base X x B
theorem BsW.nil_ (base : Nat) (X : World) : BsW base X (.slice none 0 0) [] [] := ⟨World.ownsRow_nil _ _ _ _, rfl, fun j x u h => by simp at h⟩
theorem BsW.four {base : Nat} {X : World} {v : Value} {xs : List Value} {bs : List Bat} (h : BsW base X v xs bs) : ∀ x ∈ xs, (quad x).length = 4 := by
  intro x hx
  obtain ⟨j, hj, rfl⟩ := List.getElem_of_mem hx
  obtain ⟨p, ys, he, _⟩ := h.own j _ _ (List.getElem?_eq_getElem hj) (List.getElem?_eq_getElem (by have := h.len; omega))
  rw [he]; rfl
theorem ownsRow_cells {P : Nat → Prop} {X Y : World} {base : Nat} {e : TypeId} {sz n : Nat} {v : Value} {xs : List Value} (h : X.ownsRow base e sz v n xs) (ho : Only P X Y) (hP : ∀ k, P k → ∃ o, X.heap[k]? = some o ∧ o.isCells = false) : Y.ownsRow base e sz v n xs :=
  ownsRow_only h ho (fun k hk hp => by
    rcases h.2 with ⟨rfl, _⟩ | ⟨g, cap, cur, rfl, _, h3, _⟩
    · cases hk
    · have : g = k := by injection hk
      subst this
      obtain ⟨o, h1, h2⟩ := hP g hp
      rw [h3] at h1
      injection h1 with h1
      subst h1
      cases h2)
theorem row_cells {P : Nat → Prop} {X Y : World} {g : Nat} {e : TypeId} {xs : List Value} (h : Row X g e xs) (ho : Only P X Y) (hP : ∀ k, P k → ∃ o, X.heap[k]? = some o ∧ o.isCells = false) : Row Y g e xs :=
  ho.row h (fun hp => by
    obtain ⟨o, h1, h2⟩ := hP g hp
    unfold Row at h
    rw [h] at h1
    injection h1 with h1
    subst h1
    cases h2)
theorem OwnV.cells {P : Nat → Prop} {X Y : World} {base : Nat} {x : Value} {v : Vec} (h : OwnV base X x v) (ho : Only P X Y) (hP : ∀ k, P k → ∃ o, X.heap[k]? = some o ∧ o.isCells = false) : OwnV base Y x v := by
  obtain ⟨a, b, c, rfl, h1, h2, h3⟩ := h
  exact ⟨a, b, c, rfl, ownsRow_cells h1 ho hP, ownsRow_cells h2 ho hP, ownsRow_cells h3 ho hP⟩
theorem ColsW.cells {P : Nat → Prop} {X Y : World} {base : Nat} {v : Value} {xs : List Value} {vs : List Vec} (h : ColsW base X v xs vs) (ho : Only P X Y) (hP : ∀ k, P k → ∃ o, X.heap[k]? = some o ∧ o.isCells = false) : ColsW base Y v xs vs :=
  ⟨ownsRow_cells h.row ho hP, h.len, fun j x u h1 h2 => (h.own j x u h1 h2).cells ho hP⟩
theorem BsW.cells {P : Nat → Prop} {X Y : World} {base : Nat} {v : Value} {xs : List Value} {bs : List Bat} (h : BsW base X v xs bs) (ho : Only P X Y) (hP : ∀ k, P k → ∃ o, X.heap[k]? = some o ∧ o.isCells = false) : BsW base Y v xs bs :=
  ⟨ownsRow_cells h.row ho hP, h.len, fun j x B h1 h2 => by
    obtain ⟨p, ys, rfl, hc, ha, hs⟩ := h.own j x B h1 h2
    exact ⟨p, ys, rfl, hc.cells ho hP, ha, hs⟩⟩
theorem BsW.grow {X Y : World} {base : Nat} {v : Value} {xs : List Value} {bs : List Bat} (h : BsW base X v xs bs) (hg : Grows X Y) : BsW base Y v xs bs :=
  h.cells (Only.of_grows hg (fun _ => False)) (fun _ h => h.elim)
theorem ColsW.away {base : Nat} {X Y : World} {v z : Value} {xs : List Value} {vs : List Vec} {e : TypeId} {sz n : Nat} {ys : List Value} (h : ColsW base X v xs vs) (hz : X.ownsRow base e sz z n ys) (ho : Only (fun k => z.ownBlock = some k) X Y) (he : 29 ≠ e) (h1 : 2 ≠ e) (h2 : 9 ≠ e) (h3 : 4 ≠ e) : ColsW base Y v xs vs :=
  h.only ho (fun k hk e => ownsRow_apart h.row hz he k hk e) (fun x hx k hk e => by
    obtain ⟨j, hj, rfl⟩ := List.getElem_of_mem hx
    obtain ⟨a, b, c, hE, o1, o2, o3⟩ := h.own j _ _ (List.getElem?_eq_getElem hj) (List.getElem?_eq_getElem (by have := h.len; omega))
    rw [hE] at hk
    rcases hk with hk | hk | hk
    · exact ownsRow_apart o1 hz h1 k hk e
    · exact ownsRow_apart o2 hz h2 k hk e
    · exact ownsRow_apart o3 hz h3 k hk e)
theorem BsW.snoc {base : Nat} {X Y : World} {v v' x : Value} {xs : List Value} {bs : List Bat} {B : Bat} (h : BsW base X v xs bs) (hx : OwnB base X x B)
    (hr : Y.ownsRow base 45 4 v' (bs.length + 1) (quads xs ++ quad x)) (ho : Only (fun k => v.ownBlock = some k) X Y) : BsW base Y v' (xs ++ [x]) (bs ++ [B]) := by
  have keep : ∀ {z : Value} {t : Bat}, OwnB base X z t → OwnB base Y z t := fun {z t} ⟨p, ys, e, hc, ha, hs⟩ => ⟨p, ys, e, hc.away h.row ho (by decide) (by decide) (by decide) (by decide), ha, hs⟩
  refine ⟨by rw [quads_snoc, List.length_append]; exact hr, by simp [h.len], fun j y t h1 h2 => ?_⟩
  by_cases hj : j < bs.length
  · rw [List.getElem?_append_left (by rw [h.len]; exact hj)] at h1
    rw [List.getElem?_append_left hj] at h2
    exact keep (h.own j y t h1 h2)
  · rw [List.getElem?_append_right (by rw [h.len]; omega), h.len] at h1
    rw [List.getElem?_append_right (by omega)] at h2
    cases hjj : j - bs.length with
    | zero =>
      rw [hjj] at h1 h2
      simp at h1 h2
      subst h1 h2
      exact keep hx
    | succ m => rw [hjj] at h1; simp at h1
theorem BsW.isBs {base : Nat} {X : World} {v : Value} {xs : List Value} {bs : List Bat} (h : BsW base X v xs bs) : IsBs X v bs := by
  have hrow := h.row
  rcases id hrow.2 with ⟨hv, h0⟩ | ⟨g, cap, cur, hv, hb, hg, hn, hc, hs, ht⟩
  · exact ⟨none, 0, by rw [hv, h0], by omega, fun hp => by omega⟩
  · refine ⟨_, cap, hv, hn, fun _ => ⟨g, 0, rfl, fun j B hj => ?_⟩⟩
    have hjl : j < bs.length := (List.getElem?_eq_some_iff.1 hj).1
    have hx := List.getElem?_eq_getElem (l := xs) (i := j) (by have := h.len; omega)
    have ho := h.own j _ _ hx hj
    obtain ⟨p, ys, he, hcs, ha, hsl⟩ := id ho
    rw [he] at hx ho
    have cell : ∀ i z, i < 4 → [p, Value.int .i64 B.len, .bool true, .slice none 0 0][i]? = some z → X.cell? ⟨g, j * 4 + i, none⟩ = some z := fun i z hi hz => by
      have := hrow.cells (g := g) (by rw [hv]; rfl) (j * 4 + i) z (by rw [quads_get xs h.four j i _ hx hi]; exact hz)
      rwa [Addr.add_lit, Nat.zero_add] at this
    rw [Nat.zero_add]
    refine ⟨p, .slice none 0 0, by simpa using cell 0 _ (by omega) rfl, cell 1 _ (by omega) rfl, ?_, cell 3 _ (by omega) rfl, ?_⟩
    · rw [ha]; exact cell 2 _ (by omega) rfl
    · rw [ha]; exact ho.isB
structure SpSt (w w5 : World) (g tb b1 b2 sz : Nat) (S R : Value) (v : Value) (xs : List Value) (bs : List Bat) (W : World) : Prop where
  var : Row W g 64 [v]
  typ : Row W tb 43 [S]
  bats : BsW w.heap.size W v xs bs
  grows : Grows w W
  size : w5.heap.size ≤ W.heap.size
  bx1 : Row W b1 57 [R]
  bx2 : Row W b2 3 [.int .i64 (sz : Int)]
theorem SpSt.cells {P : Nat → Prop} {w w5 : World} {g tb b1 b2 sz : Nat} {S R v : Value} {xs : List Value} {bs : List Bat} {X Y : World} (h : SpSt w w5 g tb b1 b2 sz S R v xs bs X) (ho : Only P X Y) (hP : ∀ k, P k → ∃ o, X.heap[k]? = some o ∧ o.isCells = false) (hB : ∀ k, P k → w.heap.size ≤ k) : SpSt w w5 g tb b1 b2 sz S R v xs bs Y :=
  ⟨row_cells h.var ho hP, row_cells h.typ ho hP, h.bats.cells ho hP, ho.below h.grows hB, Nat.le_trans h.size ho.size, row_cells h.bx1 ho hP, row_cells h.bx2 ho hP⟩
end Go.Proofs.Ytfjhahhkakfhmaa
/-
  Shaken: what the claims of this seat need of this text. No condition.
-/
namespace Go.Proofs.Ytfjhahhkakfhmaa
open Go.RowKit Go.Shelf
attribute [local go_sem] Oper.semAt_some
set_option linter.unusedVariables false
set_option linter.unusedSimpArgs false
theorem infoB17 : (Try.prog.info? 45).map (fun i => (i.zero, i.size, i.bytes)) = some (some (.agg #[.slice none 0 0, .int .i64 0, .bool false, .slice none 0 0]), 4, 64) := by kernel_rfl
theorem keepsFrom_grows17 {B : Nat} {W W' : World} (h : Grows W W') : KeepsFrom B W W' := ⟨h.size, fun k o _ hk _ => (h.block k (Array.getElem?_eq_some_iff.1 hk).1).trans hk⟩
theorem keepsFrom_only17 {B : Nat} {P : Nat → Prop} {W W' : World} (h : Only P W W') (hP : ∀ k, P k → ∃ o, W.heap[k]? = some o ∧ o.isCells = true) : KeepsFrom B W W' :=
  ⟨h.size, fun k o _ hk hc => (h.block k (Array.getElem?_eq_some_iff.1 hk).1 (fun hp => by
    obtain ⟨o', h1, h2⟩ := hP k hp
    rw [hk] at h1
    injection h1 with h1
    subst h1
    rw [hc] at h2
    cases h2)).trans hk⟩
theorem row_isCells {W : World} {g : Nat} {e : TypeId} {xs : List Value} (h : Row W g e xs) : ∃ o, W.heap[g]? = some o ∧ o.isCells = true := ⟨_, h, rfl⟩
theorem own_isCells {W : World} {base : Nat} {e : TypeId} {sz n : Nat} {v : Value} {xs : List Value} (h : W.ownsRow base e sz v n xs) : ∀ k, v.ownBlock = some k → ∃ o, W.heap[k]? = some o ∧ o.isCells = true := fun k hk => by
  rcases h.2 with ⟨rfl, _⟩ | ⟨g, cap, cur, rfl, _, h3, _⟩
  · cases hk
  · have : g = k := by injection hk
    subst this
    exact ⟨_, h3, rfl⟩
theorem SpSt.alloc {w w5 : World} {g tb b1 b2 sz : Nat} {S R v : Value} {xs : List Value} {bs : List Bat} {X : World} (h : SpSt w w5 g tb b1 b2 sz S R v xs bs X) (o : Obj) : SpSt w w5 g tb b1 b2 sz S R v xs bs (X.alloc o) :=
  h.cells (Only.of_grows (grow1 o) (fun _ => False)) (fun _ h => h.elim) (fun _ h => h.elim)
theorem BsW.keep {base d : Nat} {X Y : World} {v : Value} {xs : List Value} {bs : List Bat} {e : TypeId} {ys : List Value} (h : BsW base X v xs bs) (ho : Only (fun i => i = d) X Y) (hr : Row X d e ys) (he : 45 ≠ e) (h0 : 29 ≠ e) (h1 : 2 ≠ e) (h2 : 9 ≠ e) (h3 : 4 ≠ e) : BsW base Y v xs bs :=
  ⟨ownsRow_only h.row ho (fun k hk e => by subst e; exact ownsRow_row_apart h.row hr he hk), h.len, fun j x B q1 q2 => by
    obtain ⟨p, ys', rfl, hc, ha, hs⟩ := h.own j x B q1 q2
    exact ⟨p, ys', rfl, hc.keep ho hr h0 h1 h2 h3, ha, hs⟩⟩
theorem SpSt.push {w w5 : World} {g tb b1 b2 sz : Nat} {S R v v' x : Value} {xs : List Value} {bs : List Bat} {B : Bat} {X Y Z : World} (h : SpSt w w5 g tb b1 b2 sz S R v xs bs X) (hx : OwnB w.heap.size X x B)
    (hr : Y.ownsRow w.heap.size 45 4 v' (bs.length + 1) (quads xs ++ quad x)) (ho : Only (fun k => v.ownBlock = some k) X Y) (hz : Only (fun i => i = g) Y Z) (hv : Row Z g 64 [v'])
    (hg : w.heap.size ≤ g) (n1 : tb ≠ g) (n2 : b1 ≠ g) (n3 : b2 ≠ g) : SpSt w w5 g tb b1 b2 sz S R v' (xs ++ [x]) (bs ++ [B]) Z := by
  have hb := h.bats.snoc hx hr ho
  have hvY := ho.row h.var (ownsRow_row_apart h.bats.row h.var (by decide))
  refine ⟨hv, hz.row (ho.row h.typ (ownsRow_row_apart h.bats.row h.typ (by decide))) n1, hb.keep hz hvY (by decide) (by decide) (by decide) (by decide) (by decide), hz.below (ho.below h.grows (own_lt17 h.bats.row)) (fun i hi => by rw [hi]; exact hg), Nat.le_trans h.size (Nat.le_trans ho.size hz.size), hz.row (ho.row h.bx1 (ownsRow_row_apart h.bats.row h.bx1 (by decide))) n2, hz.row (ho.row h.bx2 (ownsRow_row_apart h.bats.row h.bx2 (by decide))) n3⟩
theorem stepIn_append_b4 {F : Fence} {nf : Nat} {ops : Array Oper} {o : Oper} {a : Act} (wr : World) {K : Act → World → Prop} {Q : Exit → Act → World → Prop} {E' : Prop} (hgd : o.guard = none) (s x : Operand)
    (ho : o.op = .call { callee := .builtin .append, args := #[s, x], argTypes := #[64, 64] })
    (v : Value) (n : Nat) (pre : List Value) (hs : a.eval s = v) (base : Nat) (hown : wr.ownsRow base 45 4 v n pre) (hbase : base ≤ wr.heap.size)
    (p q r t : Value) (h1 : (#[p, q, r, t] : Array Value).all (·.oneCell') = true) (N : Nat) (hx : a.eval x = .slice (some ⟨N, 0, none⟩) 1 1) (hrow : Row wr N 45 [p, q, r, t]) (hlen : n + 1 ≤ 1000000000)
    (h : ∀ v' w', w'.ownsRow base 45 4 v' (n + 1) (pre ++ [p, q, r, t]) → Only (fun k => v.ownBlock = some k) wr w' → K (a.put o.dst v') w') :
    if Region.wanted o (yielded ops a.tmps) = true then Oper.wpIn F nf Try.prog o a wr K Q else E' := by
  have hw : Region.wanted o (yielded ops a.tmps) = true := by simp [Region.wanted, hgd]
  rw [if_pos hw]
  obtain ⟨i0, hi, hz0, hs1, hs2⟩ := info_parts infoB17
  obtain ⟨v', w', hrun, h2, h3, _, _⟩ := run_append_own_at (P := Try.prog) wr base 64 o.type 45 i0 _ 4 _ Try.underlying64 hi hz0 hs1 hs2 rfl (by decide) v n pre hown ⟨N, 0, none⟩ 1 1 [p, q, r, t] rfl
    (fun j y hj => by rw [Addr.add_lit, Nat.zero_add, hrow.cell]; exact hj)
    (fun y hy => by
      simp only [List.all_toArray, List.all_cons, List.all_nil, Bool.and_true, Bool.and_eq_true] at h1
      simp at hy
      rcases hy with rfl | rfl | rfl | rfl
      · exact h1.1
      · exact h1.2.1
      · exact h1.2.2.1
      · exact h1.2.2.2) (by unfold maxLen; omega) (by omega) hbase
  unfold Oper.wpIn
  refine ⟨by simp [Oper.about, ho, resolve, Target.leads, Sem.run_pure], ?_⟩
  rw [Oper.semAt_plain F _ _ (by rw [ho]; intro c hc; cases hc)]
  simp [execOp, ho, resolve, invoke, builtin, hs, hx, hrun, Result.andThen]
  exact h v' w' h2 (Only.by_ h3)
def SpI (w w5 : World) (g tb b1 b2 sz : Nat) (S R : Value) (F : Nat → Bat) (pre : List Nat) (W : World) : Prop := ∃ v xs, SpSt w w5 g tb b1 b2 sz S R v xs (pre.map F) W
theorem SpI.own {w w5 : World} {g tb b1 b2 sz : Nat} {S R : Value} {F : Nat → Bat} (h5 : w.heap.size ≤ w5.heap.size) : OwnFrom w5.heap.size (SpI w w5 g tb b1 b2 sz S R F) := fun pre X Y row hs hg hr => by
  obtain ⟨v, xs, h⟩ := hs
  exact ⟨v, xs, h.cells (Only.by_ hg) (fun k hk => (hr k hk).2) (fun k hk => Nat.le_trans h5 (hr k hk).1)⟩
set_option maxRecDepth 100000 in
set_option maxHeartbeats 16000000 in
theorem vsplit_any (u : Value) (Ts : List Int) (v : Value) (rs : List (List Val)) (size : Nat) (w : World) (hu : IsI w u Ts) (hv : IsRs w v rs) (hf : fitR Ts rs) (hT : Ts.length ≤ 100) (hr : rs.length ≤ 1000) (hs1 : 1 ≤ size) (hs2 : size ≤ 1024) :
    Calls Try.prog 42 #[u, v, .int .i64 (size : Int)] w (BatsIR (splitB Ts rs size) 0 w) := by
  have HCK := hidden (fun W (h : Grows w W) => checkRows_any u Ts v rs W (hu.grow h) (hv.grow h) hf hT (by omega))
  have HU := hidden hu
  have HV := hidden hv
  have HF := hidden hf
  obtain ⟨A, c, rfl⟩ := hu.slice_
  obtain ⟨E, d, rfl, hdl, hEE⟩ := id hv
  have HDL := hidden hdl
  have HEE := hidden (show 0 < rs.length → ∃ b off, E = some ⟨b, off, none⟩ from fun h => by obtain ⟨b, off, h1, _⟩ := hEE h; exact ⟨b, off, h1⟩)
  have HTL := hidden hT
  obtain ⟨m, hm⟩ : ∃ m, Ts.length = m := ⟨_, rfl⟩
  obtain ⟨n, hn⟩ : ∃ n, rs.length = n := ⟨_, rfl⟩
  have HN := hidden hn
  rw [hm] at HU HCK ⊢
  rw [hn] at HV HCK HDL HEE ⊢
  have hnb : n ≤ 1000 := by omega
  have HSZ := hidden (And.intro hs1 (And.intro hs2 hnb))
  have d1 : decide ((size : Int) < 1) = false := by simp; omega
  have d2 : decide ((1024 : Int) < (size : Int)) = false := by simp; omega
  have d3 : decide (size < 1) = false := by simp; omega
  have d4 : decide (1024 < size) = false := by simp; omega
  have HG0 := hidden (grow1 (w := w) (.cells #[.slice A m c] 43))
  have HB0 := hidden (Row.new w 43 #[.slice A m c] [.slice A m c] rfl)
  clear hu hv hf hT hr hm hn hdl hEE hs1 hs2
  refine (callsIn_wide (n := 50)).1 ?_
  refine callsIn_of_wp_marks Try.func42 rfl trivial ?_ rfl
  simp only [Try.ntmps42, List.size_toArray, List.length_cons, List.length_nil, Nat.reduceAdd, Nat.reduceSub, Array.replicate_succ, Array.replicate_zero, List.push_toArray, List.append_toArray, List.nil_append, List.cons_append]
  gi_wp2_with fail
  refine ⟨trivial, (callsIn_wide.2 (HCK.out _ HG0.out)).mono ?_⟩
  rintro e w1 ⟨rfl, g1⟩
  have HG1 := hidden (HG0.out.of_below g1)
  have HB1 := hidden (HB0.out.grow g1)
  clear g1
  gi_wp2_with fail
  have hcs := HSZ.out.1
  refine ⟨trivial, (callsIn_wide.2 (chunk_any E n d size _ HSZ.out.1 (by have := HSZ.out.2.1; omega))).mono ?_⟩
  rintro e w5 ⟨rfl, hb1, hb2, g5⟩
  gi_wp2_with fail
  rw [World.size_alloc] at hb1 hb2
  have HC1 := hidden hb1
  have HC2 := hidden hb2
  have HGW := hidden (show Grows w1 w5 from (grow1 _).of_below g5)
  have HG5 := hidden (HG1.out.of_below HGW.out)
  have HVR := hidden ((Row.new w1 64 #[.slice none 0 0] [.slice none 0 0] rfl).grow g5)
  have HT5 := hidden (HB1.out.grow HGW.out)
  clear hb1 hb2 g5
  have HL1 := hidden HC1.out.lt
  have HL2 := hidden HC2.out.lt
  have HSP := hidden (show SpSt w w5 w1.heap.size w.heap.size (w1.heap.size + 1) (w1.heap.size + 1 + 1) size (.slice A m c) (.slice E n d) (.slice none 0 0) [] (([] : List Nat).map (fun j => batR Ts (pieceR rs size j))) w5 from
    ⟨HVR.out, HT5.out, BsW.nil_ _ _, HG5.out, Nat.le_refl _, HC1.out, HC2.out⟩)
  refine wpIn_rangeFunc_ownG rfl (by omega) (gf := 74) (lb := #[.pointer (some ⟨w1.heap.size + 1, 0, none⟩), .pointer (some ⟨w1.heap.size + 1 + 1, 0, none⟩)]) rfl trivial (enters_of Try.func74 (by kernel_rfl) rfl)
    (chunk1_stops 49 E n d size (w1.heap.size + 1) (w1.heap.size + 1 + 1) w5 HSZ.out.1 (by have := HSZ.out.2.1; omega) (by have := HSZ.out.2.2; omega) HDL.out HEE.out HC1.out HC2.out) KeepB.t
    (KeepB.b (fun k hk => by have := HL1.out; have := HL2.out; simp only [List.mem_cons, List.not_mem_nil, or_false] at hk; omega)) (Below.refl _ _) (fun _ => rfl)
    (SpI w w5 w1.heap.size w.heap.size (w1.heap.size + 1) (w1.heap.size + 1 + 1) size (.slice A m c) (.slice E n d) (fun j => batR Ts (pieceR rs size j)))
    (fun _ _ _ => False)
    (SpI.own HG5.out.size)
    (fun _ _ _ _ _ hs _ _ => hs)
    ⟨_, _, HSP.out⟩
    (fun j : Nat => { tmps := #[.slice A m c, .slice E n d, .int .i64 (size : Int), .pointer (some ⟨w.heap.size, 0, none⟩), undef, undef, .slice none 0 0, .int .i64 0, .int .i64 0, .pointer (some ⟨w1.heap.size, 0, none⟩),
      pieceV E n size j, .int .i64 (size : Int), .bool false, .bool false, .int .i64 (size : Int), .bool false, .bool false, .slice A m c, .slice E n d, .int .i64 0, .int .i64 0, .bool false, undef, .slice E n d, .int .i64 (size : Int),
      .func (.func 74) #[] #[.pointer (some ⟨w1.heap.size + 1, 0, none⟩), .pointer (some ⟨w1.heap.size + 1 + 1, 0, none⟩)], pieceV E n size j, undef, undef, undef, undef, undef, undef, undef], defers := [] }) ?assign ?body ?done ?stop
  case assign =>
    intro l2 j W2 K hK
    gi_wp2
    exact hK
  case body =>
    rintro l2 pre j W2 ⟨vb, xs, hst⟩ hlen
    have HBN := hidden (show (pre ++ [j]).map (fun j => batR Ts (pieceR rs size j)) = pre.map (fun j => batR Ts (pieceR rs size j)) ++ [batR Ts (pieceR rs size j)] by rw [List.map_append]; rfl)
    have HBL0 := hidden (show (pre.map (fun j => batR Ts (pieceR rs size j))).length ≤ 1000 by rw [List.length_map]; have := HSZ.out.2.2; omega)
    have hrn : (pieceR rs size j).length ≤ 1000 := by rw [pieceR_len]; have := HSZ.out; have := HN.out; omega
    have HFP := hidden (fitR_sub HF.out (pieceR_sub rs size j))
    have HFR := hidden (fun W (h : Grows w W) => vfromRows1_any (.slice A m c) Ts (pieceV E n size j) (pieceR rs size j) W (HU.out.grow h) (pieceR_isRs (HV.out.grow h) size j) HFP.out HTL.out (by omega))
    have HBR := hidden (show batR Ts (pieceR rs size j) = ⟨(List.range Ts.length).map (colP Ts (pieceR rs size j)), ((pieceR rs size j).length : Int), true, []⟩ from rfl)
    rw [HBR.out] at HBN
    obtain ⟨BS, hBS⟩ : ∃ BS, BS = pre.map (fun j => batR Ts (pieceR rs size j)) := ⟨_, rfl⟩
    rw [← hBS] at HBN HBL0 hst
    have HBL := HBL0
    have HS := hidden hst
    generalize (List.range Ts.length).map (colP Ts (pieceR rs size j)) = VS at *
    generalize (pieceR rs size j).length = pn at *
    generalize pieceV E n size j = pv at *
    clear hst hlen hrn hBS HBL0
    gi_wp2_with fail
    refine wpIn_region_any (by kernel_rfl) ?_
    change wpAnyIn _ _ _ _ _ _ _ _ _ (World.drew _)
    obtain ⟨WD, hWD⟩ : ∃ WD, WD = W2.drew := ⟨_, rfl⟩
    rw [← hWD]
    have HKD := hidden (show KeepsFrom w5.heap.size W2 WD by rw [hWD]; exact keepsFrom_only17 (P := fun _ => False) ⟨rfl, rfl, rfl, Nat.le_refl _, fun _ _ _ => rfl⟩ (fun _ h => h.elim))
    have HSD := hidden (show SpSt w w5 w1.heap.size w.heap.size (w1.heap.size + 1) (w1.heap.size + 1 + 1) size (.slice A m c) (.slice E n d) vb xs BS WD by
      rw [hWD]; exact HS.out.cells (P := fun _ => False) ⟨rfl, rfl, rfl, Nat.le_refl _, fun _ _ _ => rfl⟩ (fun _ h => h.elim) (fun _ h => h.elim))
    have HNE := hidden (show w.heap.size < w1.heap.size from HB1.out.lt)
    have HFIN := hidden (fun (w3 : World) (hs3 : SpSt w w5 w1.heap.size w.heap.size (w1.heap.size + 1) (w1.heap.size + 1 + 1) size (.slice A m c) (.slice E n d) vb xs BS w3) (g3 : Grows WD w3) (pc : Value) (ys : List Value) (hc3 : ColsW w.heap.size w3 pc ys VS) (v' : Value) (w6 : World)
      (hown : w6.ownsRow w.heap.size 45 4 v' (BS.length + 1) (quads xs ++ [pc, .int .i64 (pn : Int), .bool true, .slice none 0 0])) (hon : Only (fun k => vb.ownBlock = some k) (w3.alloc (.cells #[pc, .int .i64 (pn : Int), .bool true, .slice none 0 0] 45)) w6) =>
      show KeepsFrom w5.heap.size W2 (w6.setCell ⟨w1.heap.size, 0, none⟩ v') ∧ KeepB [w1.heap.size + 1, w1.heap.size + 1 + 1] W2 (w6.setCell ⟨w1.heap.size, 0, none⟩ v') ∧ SpI w w5 w1.heap.size w.heap.size (w1.heap.size + 1) (w1.heap.size + 1 + 1) size (.slice A m c) (.slice E n d) (fun j => batR Ts (pieceR rs size j)) (pre ++ [j]) (w6.setCell ⟨w1.heap.size, 0, none⟩ v') from by
        have hs4 := hs3.alloc (.cells #[pc, .int .i64 (pn : Int), .bool true, .slice none 0 0] 45)
        have hB : OwnB w.heap.size (w3.alloc (.cells #[pc, .int .i64 (pn : Int), .bool true, .slice none 0 0] 45)) (.agg #[pc, .int .i64 (pn : Int), .bool true, .slice none 0 0]) ⟨VS, (pn : Int), true, []⟩ := ⟨pc, ys, rfl, hc3.grow (grow1 _), rfl, rfl⟩
        have hvY := hon.row hs4.var (ownsRow_row_apart hs4.bats.row hs4.var (by decide))
        have hz := Only.set w6 w1.heap.size 0 v'
        have h7 := hs4.push hB hown hon hz (hvY.set_ 0 v') (Nat.le_of_lt HNE.out) (by have := HNE.out; omega) (by omega) (by omega)
        refine ⟨((HKD.out.trans (keepsFrom_grows17 g3)).trans (keepsFrom_grows17 (grow1 _))).trans ((keepsFrom_only17 hon (own_isCells hs4.bats.row)).trans (keepsFrom_only17 hz (fun k hk => by rw [hk]; exact row_isCells hvY))), ?_, ⟨_, _, by rw [HBN.out]; exact h7⟩⟩
        intro k hk
        simp only [List.mem_cons, List.not_mem_nil, or_false] at hk
        rcases hk with rfl | rfl
        · exact h7.bx1.trans HS.out.bx1.symm
        · exact h7.bx2.trans HS.out.bx2.symm)
    have y0 := HSD.out.var.cell 0
    have y1 := HSD.out.typ.cell 0
    simp only [List.getElem?_cons_zero] at y0 y1
    clear hWD HS
    refine wpAnyIn_ready (rs := [0, 1, 2]) (by kernel_rfl) (by simp) ?_
    refine AllReadyIn.cons rfl (fun K hK => ?_) ?_
    · go_simp
      refine hK _ _ ?_
      clear hK K
      refine wpAnyIn_ready (rs := [1, 2]) (by kernel_rfl) (by simp) ?_
      refine AllReadyIn.cons rfl (fun K hK => ?_) ?_
      · go_simp
        refine hK _ _ ?_
        clear hK K
        refine wpAnyIn_ready (rs := [2]) (by kernel_rfl) (by simp) ?_
        refine AllReadyIn.cons rfl (fun K hK => ?_) AllReadyIn.nil
        go_simp
        refine hK _ _ ?_
        clear hK K
        refine wpAnyIn_ready (rs := [3]) (by kernel_rfl) (by simp) ?_
        refine AllReadyIn.cons rfl (fun K hK => ?_) AllReadyIn.nil
        go_simp
        refine ⟨trivial, (CallsIn.inRound l2 (callsIn_wide.2 (HFR.out WD HSD.out.grows))).mono ?_⟩
        rintro e w3 ⟨pc, ys, rfl, hc3, g3⟩
        obtain ⟨PA, PN, PC, rfl⟩ := ownsRow_slice hc3.row
        have HC3 := hidden (hc3.base_ HSD.out.grows.size)
        have HG3 := hidden g3
        have HS3 := hidden (HSD.out.cells (Only.of_grows g3 (fun _ => False)) (fun _ h => h.elim) (fun _ h => h.elim))
        have HS4 := hidden (HS3.out.alloc (.cells #[.slice PA PN PC, .int .i64 (pn : Int), .bool true, .slice none 0 0] 45))
        have z0 := HS3.out.var.cell 0
        have z1 : (w3.alloc (.cells #[.slice PA PN PC, .int .i64 (pn : Int), .bool true, .slice none 0 0] 45)).cell? ⟨w1.heap.size, 0, none⟩ = some vb := (HS3.out.var.grow (grow1 _)).cell 0
        simp only [List.getElem?_cons_zero] at z0
        clear hc3 g3
        refine hK _ _ ?_
        clear hK K
        refine wpAnyIn_ready (rs := [4]) (by kernel_rfl) (by simp) ?_
        refine AllReadyIn.cons rfl (fun K hK => ?_) AllReadyIn.nil
        go_simp
        refine hK _ _ ?_
        clear hK K
        refine wpAnyIn_ready (rs := [5]) (by kernel_rfl) (by simp) ?_
        refine AllReadyIn.cons rfl (fun K hK => ?_) AllReadyIn.nil
        refine stepIn_append_b4 _ rfl _ _ rfl vb BS.length (quads xs) rfl w.heap.size HS4.out.bats.row HS4.out.grows.size _ _ _ _ (all4 rfl rfl rfl rfl) w3.heap.size rfl (Row.new w3 _ _ _ rfl) (by have := HBL.out; omega) ?_
        intro v6 w6 hown6 hon6
        obtain ⟨QA, QN, QC, rfl⟩ := ownsRow_slice hown6
        have HOW := hidden hown6
        have HON := hidden hon6
        have HRG := hidden (hon6.row HS4.out.var (ownsRow_row_apart HS4.out.bats.row HS4.out.var (by decide)))
        have u0 := HRG.out.cell 0
        have u1 := HRG.out.frozen 0
        simp only [List.getElem?_cons_zero] at u0
        clear hown6 hon6 y0 y1 z0 z1
        refine hK _ _ ?_
        clear hK K
        refine wpAnyIn_ready (rs := [6]) (by kernel_rfl) (by simp) ?_
        refine AllReadyIn.cons rfl (fun K hK => ?_) AllReadyIn.nil
        go_simp
        refine hK _ _ ?_
        clear hK K
        refine wpAnyIn_done (by kernel_rfl) ?_ _
        exact HFIN.out w3 HS3.out HG3.out _ _ HC3.out (.slice QA QN QC) w6 HOW.out HON.out
      refine AllReadyIn.cons rfl (fun K hK => ?_) AllReadyIn.nil
      go_simp
      refine hK _ _ ?_
      clear hK K
      refine wpAnyIn_ready (rs := [1]) (by kernel_rfl) (by simp) ?_
      refine AllReadyIn.cons rfl (fun K hK => ?_) AllReadyIn.nil
      go_simp
      refine hK _ _ ?_
      clear hK K
      refine wpAnyIn_ready (rs := [3]) (by kernel_rfl) (by simp) ?_
      refine AllReadyIn.cons rfl (fun K hK => ?_) AllReadyIn.nil
      go_simp
      refine ⟨trivial, (CallsIn.inRound l2 (callsIn_wide.2 (HFR.out WD HSD.out.grows))).mono ?_⟩
      rintro e w3 ⟨pc, ys, rfl, hc3, g3⟩
      obtain ⟨PA, PN, PC, rfl⟩ := ownsRow_slice hc3.row
      have HC3 := hidden (hc3.base_ HSD.out.grows.size)
      have HG3 := hidden g3
      have HS3 := hidden (HSD.out.cells (Only.of_grows g3 (fun _ => False)) (fun _ h => h.elim) (fun _ h => h.elim))
      have HS4 := hidden (HS3.out.alloc (.cells #[.slice PA PN PC, .int .i64 (pn : Int), .bool true, .slice none 0 0] 45))
      have z0 := HS3.out.var.cell 0
      have z1 : (w3.alloc (.cells #[.slice PA PN PC, .int .i64 (pn : Int), .bool true, .slice none 0 0] 45)).cell? ⟨w1.heap.size, 0, none⟩ = some vb := (HS3.out.var.grow (grow1 _)).cell 0
      simp only [List.getElem?_cons_zero] at z0
      clear hc3 g3
      refine hK _ _ ?_
      clear hK K
      refine wpAnyIn_ready (rs := [4]) (by kernel_rfl) (by simp) ?_
      refine AllReadyIn.cons rfl (fun K hK => ?_) AllReadyIn.nil
      go_simp
      refine hK _ _ ?_
      clear hK K
      refine wpAnyIn_ready (rs := [5]) (by kernel_rfl) (by simp) ?_
      refine AllReadyIn.cons rfl (fun K hK => ?_) AllReadyIn.nil
      refine stepIn_append_b4 _ rfl _ _ rfl vb BS.length (quads xs) rfl w.heap.size HS4.out.bats.row HS4.out.grows.size _ _ _ _ (all4 rfl rfl rfl rfl) w3.heap.size rfl (Row.new w3 _ _ _ rfl) (by have := HBL.out; omega) ?_
      intro v6 w6 hown6 hon6
      obtain ⟨QA, QN, QC, rfl⟩ := ownsRow_slice hown6
      have HOW := hidden hown6
      have HON := hidden hon6
      have HRG := hidden (hon6.row HS4.out.var (ownsRow_row_apart HS4.out.bats.row HS4.out.var (by decide)))
      have u0 := HRG.out.cell 0
      have u1 := HRG.out.frozen 0
      simp only [List.getElem?_cons_zero] at u0
      clear hown6 hon6 y0 y1 z0 z1
      refine hK _ _ ?_
      clear hK K
      refine wpAnyIn_ready (rs := [6]) (by kernel_rfl) (by simp) ?_
      refine AllReadyIn.cons rfl (fun K hK => ?_) AllReadyIn.nil
      go_simp
      refine hK _ _ ?_
      clear hK K
      refine wpAnyIn_done (by kernel_rfl) ?_ _
      exact HFIN.out w3 HS3.out HG3.out _ _ HC3.out (.slice QA QN QC) w6 HOW.out HON.out
    refine AllReadyIn.cons rfl (fun K hK => ?_) ?_
    · go_simp
      refine hK _ _ ?_
      clear hK K
      refine wpAnyIn_ready (rs := [0, 2]) (by kernel_rfl) (by simp) ?_
      refine AllReadyIn.cons rfl (fun K hK => ?_) ?_
      · go_simp
        refine hK _ _ ?_
        clear hK K
        refine wpAnyIn_ready (rs := [2]) (by kernel_rfl) (by simp) ?_
        refine AllReadyIn.cons rfl (fun K hK => ?_) AllReadyIn.nil
        go_simp
        refine hK _ _ ?_
        clear hK K
        refine wpAnyIn_ready (rs := [3]) (by kernel_rfl) (by simp) ?_
        refine AllReadyIn.cons rfl (fun K hK => ?_) AllReadyIn.nil
        go_simp
        refine ⟨trivial, (CallsIn.inRound l2 (callsIn_wide.2 (HFR.out WD HSD.out.grows))).mono ?_⟩
        rintro e w3 ⟨pc, ys, rfl, hc3, g3⟩
        obtain ⟨PA, PN, PC, rfl⟩ := ownsRow_slice hc3.row
        have HC3 := hidden (hc3.base_ HSD.out.grows.size)
        have HG3 := hidden g3
        have HS3 := hidden (HSD.out.cells (Only.of_grows g3 (fun _ => False)) (fun _ h => h.elim) (fun _ h => h.elim))
        have HS4 := hidden (HS3.out.alloc (.cells #[.slice PA PN PC, .int .i64 (pn : Int), .bool true, .slice none 0 0] 45))
        have z0 := HS3.out.var.cell 0
        have z1 : (w3.alloc (.cells #[.slice PA PN PC, .int .i64 (pn : Int), .bool true, .slice none 0 0] 45)).cell? ⟨w1.heap.size, 0, none⟩ = some vb := (HS3.out.var.grow (grow1 _)).cell 0
        simp only [List.getElem?_cons_zero] at z0
        clear hc3 g3
        refine hK _ _ ?_
        clear hK K
        refine wpAnyIn_ready (rs := [4]) (by kernel_rfl) (by simp) ?_
        refine AllReadyIn.cons rfl (fun K hK => ?_) AllReadyIn.nil
        go_simp
        refine hK _ _ ?_
        clear hK K
        refine wpAnyIn_ready (rs := [5]) (by kernel_rfl) (by simp) ?_
        refine AllReadyIn.cons rfl (fun K hK => ?_) AllReadyIn.nil
        refine stepIn_append_b4 _ rfl _ _ rfl vb BS.length (quads xs) rfl w.heap.size HS4.out.bats.row HS4.out.grows.size _ _ _ _ (all4 rfl rfl rfl rfl) w3.heap.size rfl (Row.new w3 _ _ _ rfl) (by have := HBL.out; omega) ?_
        intro v6 w6 hown6 hon6
        obtain ⟨QA, QN, QC, rfl⟩ := ownsRow_slice hown6
        have HOW := hidden hown6
        have HON := hidden hon6
        have HRG := hidden (hon6.row HS4.out.var (ownsRow_row_apart HS4.out.bats.row HS4.out.var (by decide)))
        have u0 := HRG.out.cell 0
        have u1 := HRG.out.frozen 0
        simp only [List.getElem?_cons_zero] at u0
        clear hown6 hon6 y0 y1 z0 z1
        refine hK _ _ ?_
        clear hK K
        refine wpAnyIn_ready (rs := [6]) (by kernel_rfl) (by simp) ?_
        refine AllReadyIn.cons rfl (fun K hK => ?_) AllReadyIn.nil
        go_simp
        refine hK _ _ ?_
        clear hK K
        refine wpAnyIn_done (by kernel_rfl) ?_ _
        exact HFIN.out w3 HS3.out HG3.out _ _ HC3.out (.slice QA QN QC) w6 HOW.out HON.out
      refine AllReadyIn.cons rfl (fun K hK => ?_) AllReadyIn.nil
      go_simp
      refine hK _ _ ?_
      clear hK K
      refine wpAnyIn_ready (rs := [0, 3]) (by kernel_rfl) (by simp) ?_
      refine AllReadyIn.cons rfl (fun K hK => ?_) ?_
      · go_simp
        refine hK _ _ ?_
        clear hK K
        refine wpAnyIn_ready (rs := [3]) (by kernel_rfl) (by simp) ?_
        refine AllReadyIn.cons rfl (fun K hK => ?_) AllReadyIn.nil
        go_simp
        refine ⟨trivial, (CallsIn.inRound l2 (callsIn_wide.2 (HFR.out WD HSD.out.grows))).mono ?_⟩
        rintro e w3 ⟨pc, ys, rfl, hc3, g3⟩
        obtain ⟨PA, PN, PC, rfl⟩ := ownsRow_slice hc3.row
        have HC3 := hidden (hc3.base_ HSD.out.grows.size)
        have HG3 := hidden g3
        have HS3 := hidden (HSD.out.cells (Only.of_grows g3 (fun _ => False)) (fun _ h => h.elim) (fun _ h => h.elim))
        have HS4 := hidden (HS3.out.alloc (.cells #[.slice PA PN PC, .int .i64 (pn : Int), .bool true, .slice none 0 0] 45))
        have z0 := HS3.out.var.cell 0
        have z1 : (w3.alloc (.cells #[.slice PA PN PC, .int .i64 (pn : Int), .bool true, .slice none 0 0] 45)).cell? ⟨w1.heap.size, 0, none⟩ = some vb := (HS3.out.var.grow (grow1 _)).cell 0
        simp only [List.getElem?_cons_zero] at z0
        clear hc3 g3
        refine hK _ _ ?_
        clear hK K
        refine wpAnyIn_ready (rs := [4]) (by kernel_rfl) (by simp) ?_
        refine AllReadyIn.cons rfl (fun K hK => ?_) AllReadyIn.nil
        go_simp
        refine hK _ _ ?_
        clear hK K
        refine wpAnyIn_ready (rs := [5]) (by kernel_rfl) (by simp) ?_
        refine AllReadyIn.cons rfl (fun K hK => ?_) AllReadyIn.nil
        refine stepIn_append_b4 _ rfl _ _ rfl vb BS.length (quads xs) rfl w.heap.size HS4.out.bats.row HS4.out.grows.size _ _ _ _ (all4 rfl rfl rfl rfl) w3.heap.size rfl (Row.new w3 _ _ _ rfl) (by have := HBL.out; omega) ?_
        intro v6 w6 hown6 hon6
        obtain ⟨QA, QN, QC, rfl⟩ := ownsRow_slice hown6
        have HOW := hidden hown6
        have HON := hidden hon6
        have HRG := hidden (hon6.row HS4.out.var (ownsRow_row_apart HS4.out.bats.row HS4.out.var (by decide)))
        have u0 := HRG.out.cell 0
        have u1 := HRG.out.frozen 0
        simp only [List.getElem?_cons_zero] at u0
        clear hown6 hon6 y0 y1 z0 z1
        refine hK _ _ ?_
        clear hK K
        refine wpAnyIn_ready (rs := [6]) (by kernel_rfl) (by simp) ?_
        refine AllReadyIn.cons rfl (fun K hK => ?_) AllReadyIn.nil
        go_simp
        refine hK _ _ ?_
        clear hK K
        refine wpAnyIn_done (by kernel_rfl) ?_ _
        exact HFIN.out w3 HS3.out HG3.out _ _ HC3.out (.slice QA QN QC) w6 HOW.out HON.out
      refine AllReadyIn.cons rfl (fun K hK => ?_) AllReadyIn.nil
      go_simp
      refine ⟨trivial, (CallsIn.inRound l2 (callsIn_wide.2 (HFR.out WD HSD.out.grows))).mono ?_⟩
      rintro e w3 ⟨pc, ys, rfl, hc3, g3⟩
      obtain ⟨PA, PN, PC, rfl⟩ := ownsRow_slice hc3.row
      have HC3 := hidden (hc3.base_ HSD.out.grows.size)
      have HG3 := hidden g3
      have HS3 := hidden (HSD.out.cells (Only.of_grows g3 (fun _ => False)) (fun _ h => h.elim) (fun _ h => h.elim))
      have HS4 := hidden (HS3.out.alloc (.cells #[.slice PA PN PC, .int .i64 (pn : Int), .bool true, .slice none 0 0] 45))
      have z0 := HS3.out.var.cell 0
      have z1 : (w3.alloc (.cells #[.slice PA PN PC, .int .i64 (pn : Int), .bool true, .slice none 0 0] 45)).cell? ⟨w1.heap.size, 0, none⟩ = some vb := (HS3.out.var.grow (grow1 _)).cell 0
      simp only [List.getElem?_cons_zero] at z0
      clear hc3 g3
      refine hK _ _ ?_
      clear hK K
      refine wpAnyIn_ready (rs := [0, 4]) (by kernel_rfl) (by simp) ?_
      refine AllReadyIn.cons rfl (fun K hK => ?_) ?_
      · go_simp
        refine hK _ _ ?_
        clear hK K
        refine wpAnyIn_ready (rs := [4]) (by kernel_rfl) (by simp) ?_
        refine AllReadyIn.cons rfl (fun K hK => ?_) AllReadyIn.nil
        go_simp
        refine hK _ _ ?_
        clear hK K
        refine wpAnyIn_ready (rs := [5]) (by kernel_rfl) (by simp) ?_
        refine AllReadyIn.cons rfl (fun K hK => ?_) AllReadyIn.nil
        refine stepIn_append_b4 _ rfl _ _ rfl vb BS.length (quads xs) rfl w.heap.size HS4.out.bats.row HS4.out.grows.size _ _ _ _ (all4 rfl rfl rfl rfl) w3.heap.size rfl (Row.new w3 _ _ _ rfl) (by have := HBL.out; omega) ?_
        intro v6 w6 hown6 hon6
        obtain ⟨QA, QN, QC, rfl⟩ := ownsRow_slice hown6
        have HOW := hidden hown6
        have HON := hidden hon6
        have HRG := hidden (hon6.row HS4.out.var (ownsRow_row_apart HS4.out.bats.row HS4.out.var (by decide)))
        have u0 := HRG.out.cell 0
        have u1 := HRG.out.frozen 0
        simp only [List.getElem?_cons_zero] at u0
        clear hown6 hon6 y0 y1 z0 z1
        refine hK _ _ ?_
        clear hK K
        refine wpAnyIn_ready (rs := [6]) (by kernel_rfl) (by simp) ?_
        refine AllReadyIn.cons rfl (fun K hK => ?_) AllReadyIn.nil
        go_simp
        refine hK _ _ ?_
        clear hK K
        refine wpAnyIn_done (by kernel_rfl) ?_ _
        exact HFIN.out w3 HS3.out HG3.out _ _ HC3.out (.slice QA QN QC) w6 HOW.out HON.out
      refine AllReadyIn.cons rfl (fun K hK => ?_) AllReadyIn.nil
      go_simp
      refine hK _ _ ?_
      clear hK K
      refine wpAnyIn_ready (rs := [0]) (by kernel_rfl) (by simp) ?_
      refine AllReadyIn.cons rfl (fun K hK => ?_) AllReadyIn.nil
      go_simp
      refine hK _ _ ?_
      clear hK K
      refine wpAnyIn_ready (rs := [5]) (by kernel_rfl) (by simp) ?_
      refine AllReadyIn.cons rfl (fun K hK => ?_) AllReadyIn.nil
      refine stepIn_append_b4 _ rfl _ _ rfl vb BS.length (quads xs) rfl w.heap.size HS4.out.bats.row HS4.out.grows.size _ _ _ _ (all4 rfl rfl rfl rfl) w3.heap.size rfl (Row.new w3 _ _ _ rfl) (by have := HBL.out; omega) ?_
      intro v6 w6 hown6 hon6
      obtain ⟨QA, QN, QC, rfl⟩ := ownsRow_slice hown6
      have HOW := hidden hown6
      have HON := hidden hon6
      have HRG := hidden (hon6.row HS4.out.var (ownsRow_row_apart HS4.out.bats.row HS4.out.var (by decide)))
      have u0 := HRG.out.cell 0
      have u1 := HRG.out.frozen 0
      simp only [List.getElem?_cons_zero] at u0
      clear hown6 hon6 y0 y1 z0 z1
      refine hK _ _ ?_
      clear hK K
      refine wpAnyIn_ready (rs := [6]) (by kernel_rfl) (by simp) ?_
      refine AllReadyIn.cons rfl (fun K hK => ?_) AllReadyIn.nil
      go_simp
      refine hK _ _ ?_
      clear hK K
      refine wpAnyIn_done (by kernel_rfl) ?_ _
      exact HFIN.out w3 HS3.out HG3.out _ _ HC3.out (.slice QA QN QC) w6 HOW.out HON.out
    refine AllReadyIn.cons rfl (fun K hK => ?_) AllReadyIn.nil
    go_simp
    refine hK _ _ ?_
    clear hK K
    refine wpAnyIn_ready (rs := [0, 1]) (by kernel_rfl) (by simp) ?_
    refine AllReadyIn.cons rfl (fun K hK => ?_) ?_
    · go_simp
      refine hK _ _ ?_
      clear hK K
      refine wpAnyIn_ready (rs := [1]) (by kernel_rfl) (by simp) ?_
      refine AllReadyIn.cons rfl (fun K hK => ?_) AllReadyIn.nil
      go_simp
      refine hK _ _ ?_
      clear hK K
      refine wpAnyIn_ready (rs := [3]) (by kernel_rfl) (by simp) ?_
      refine AllReadyIn.cons rfl (fun K hK => ?_) AllReadyIn.nil
      go_simp
      refine ⟨trivial, (CallsIn.inRound l2 (callsIn_wide.2 (HFR.out WD HSD.out.grows))).mono ?_⟩
      rintro e w3 ⟨pc, ys, rfl, hc3, g3⟩
      obtain ⟨PA, PN, PC, rfl⟩ := ownsRow_slice hc3.row
      have HC3 := hidden (hc3.base_ HSD.out.grows.size)
      have HG3 := hidden g3
      have HS3 := hidden (HSD.out.cells (Only.of_grows g3 (fun _ => False)) (fun _ h => h.elim) (fun _ h => h.elim))
      have HS4 := hidden (HS3.out.alloc (.cells #[.slice PA PN PC, .int .i64 (pn : Int), .bool true, .slice none 0 0] 45))
      have z0 := HS3.out.var.cell 0
      have z1 : (w3.alloc (.cells #[.slice PA PN PC, .int .i64 (pn : Int), .bool true, .slice none 0 0] 45)).cell? ⟨w1.heap.size, 0, none⟩ = some vb := (HS3.out.var.grow (grow1 _)).cell 0
      simp only [List.getElem?_cons_zero] at z0
      clear hc3 g3
      refine hK _ _ ?_
      clear hK K
      refine wpAnyIn_ready (rs := [4]) (by kernel_rfl) (by simp) ?_
      refine AllReadyIn.cons rfl (fun K hK => ?_) AllReadyIn.nil
      go_simp
      refine hK _ _ ?_
      clear hK K
      refine wpAnyIn_ready (rs := [5]) (by kernel_rfl) (by simp) ?_
      refine AllReadyIn.cons rfl (fun K hK => ?_) AllReadyIn.nil
      refine stepIn_append_b4 _ rfl _ _ rfl vb BS.length (quads xs) rfl w.heap.size HS4.out.bats.row HS4.out.grows.size _ _ _ _ (all4 rfl rfl rfl rfl) w3.heap.size rfl (Row.new w3 _ _ _ rfl) (by have := HBL.out; omega) ?_
      intro v6 w6 hown6 hon6
      obtain ⟨QA, QN, QC, rfl⟩ := ownsRow_slice hown6
      have HOW := hidden hown6
      have HON := hidden hon6
      have HRG := hidden (hon6.row HS4.out.var (ownsRow_row_apart HS4.out.bats.row HS4.out.var (by decide)))
      have u0 := HRG.out.cell 0
      have u1 := HRG.out.frozen 0
      simp only [List.getElem?_cons_zero] at u0
      clear hown6 hon6 y0 y1 z0 z1
      refine hK _ _ ?_
      clear hK K
      refine wpAnyIn_ready (rs := [6]) (by kernel_rfl) (by simp) ?_
      refine AllReadyIn.cons rfl (fun K hK => ?_) AllReadyIn.nil
      go_simp
      refine hK _ _ ?_
      clear hK K
      refine wpAnyIn_done (by kernel_rfl) ?_ _
      exact HFIN.out w3 HS3.out HG3.out _ _ HC3.out (.slice QA QN QC) w6 HOW.out HON.out
    refine AllReadyIn.cons rfl (fun K hK => ?_) AllReadyIn.nil
    go_simp
    refine hK _ _ ?_
    clear hK K
    refine wpAnyIn_ready (rs := [0, 3]) (by kernel_rfl) (by simp) ?_
    refine AllReadyIn.cons rfl (fun K hK => ?_) ?_
    · go_simp
      refine hK _ _ ?_
      clear hK K
      refine wpAnyIn_ready (rs := [3]) (by kernel_rfl) (by simp) ?_
      refine AllReadyIn.cons rfl (fun K hK => ?_) AllReadyIn.nil
      go_simp
      refine ⟨trivial, (CallsIn.inRound l2 (callsIn_wide.2 (HFR.out WD HSD.out.grows))).mono ?_⟩
      rintro e w3 ⟨pc, ys, rfl, hc3, g3⟩
      obtain ⟨PA, PN, PC, rfl⟩ := ownsRow_slice hc3.row
      have HC3 := hidden (hc3.base_ HSD.out.grows.size)
      have HG3 := hidden g3
      have HS3 := hidden (HSD.out.cells (Only.of_grows g3 (fun _ => False)) (fun _ h => h.elim) (fun _ h => h.elim))
      have HS4 := hidden (HS3.out.alloc (.cells #[.slice PA PN PC, .int .i64 (pn : Int), .bool true, .slice none 0 0] 45))
      have z0 := HS3.out.var.cell 0
      have z1 : (w3.alloc (.cells #[.slice PA PN PC, .int .i64 (pn : Int), .bool true, .slice none 0 0] 45)).cell? ⟨w1.heap.size, 0, none⟩ = some vb := (HS3.out.var.grow (grow1 _)).cell 0
      simp only [List.getElem?_cons_zero] at z0
      clear hc3 g3
      refine hK _ _ ?_
      clear hK K
      refine wpAnyIn_ready (rs := [4]) (by kernel_rfl) (by simp) ?_
      refine AllReadyIn.cons rfl (fun K hK => ?_) AllReadyIn.nil
      go_simp
      refine hK _ _ ?_
      clear hK K
      refine wpAnyIn_ready (rs := [5]) (by kernel_rfl) (by simp) ?_
      refine AllReadyIn.cons rfl (fun K hK => ?_) AllReadyIn.nil
      refine stepIn_append_b4 _ rfl _ _ rfl vb BS.length (quads xs) rfl w.heap.size HS4.out.bats.row HS4.out.grows.size _ _ _ _ (all4 rfl rfl rfl rfl) w3.heap.size rfl (Row.new w3 _ _ _ rfl) (by have := HBL.out; omega) ?_
      intro v6 w6 hown6 hon6
      obtain ⟨QA, QN, QC, rfl⟩ := ownsRow_slice hown6
      have HOW := hidden hown6
      have HON := hidden hon6
      have HRG := hidden (hon6.row HS4.out.var (ownsRow_row_apart HS4.out.bats.row HS4.out.var (by decide)))
      have u0 := HRG.out.cell 0
      have u1 := HRG.out.frozen 0
      simp only [List.getElem?_cons_zero] at u0
      clear hown6 hon6 y0 y1 z0 z1
      refine hK _ _ ?_
      clear hK K
      refine wpAnyIn_ready (rs := [6]) (by kernel_rfl) (by simp) ?_
      refine AllReadyIn.cons rfl (fun K hK => ?_) AllReadyIn.nil
      go_simp
      refine hK _ _ ?_
      clear hK K
      refine wpAnyIn_done (by kernel_rfl) ?_ _
      exact HFIN.out w3 HS3.out HG3.out _ _ HC3.out (.slice QA QN QC) w6 HOW.out HON.out
    refine AllReadyIn.cons rfl (fun K hK => ?_) AllReadyIn.nil
    go_simp
    refine ⟨trivial, (CallsIn.inRound l2 (callsIn_wide.2 (HFR.out WD HSD.out.grows))).mono ?_⟩
    rintro e w3 ⟨pc, ys, rfl, hc3, g3⟩
    obtain ⟨PA, PN, PC, rfl⟩ := ownsRow_slice hc3.row
    have HC3 := hidden (hc3.base_ HSD.out.grows.size)
    have HG3 := hidden g3
    have HS3 := hidden (HSD.out.cells (Only.of_grows g3 (fun _ => False)) (fun _ h => h.elim) (fun _ h => h.elim))
    have HS4 := hidden (HS3.out.alloc (.cells #[.slice PA PN PC, .int .i64 (pn : Int), .bool true, .slice none 0 0] 45))
    have z0 := HS3.out.var.cell 0
    have z1 : (w3.alloc (.cells #[.slice PA PN PC, .int .i64 (pn : Int), .bool true, .slice none 0 0] 45)).cell? ⟨w1.heap.size, 0, none⟩ = some vb := (HS3.out.var.grow (grow1 _)).cell 0
    simp only [List.getElem?_cons_zero] at z0
    clear hc3 g3
    refine hK _ _ ?_
    clear hK K
    refine wpAnyIn_ready (rs := [0, 4]) (by kernel_rfl) (by simp) ?_
    refine AllReadyIn.cons rfl (fun K hK => ?_) ?_
    · go_simp
      refine hK _ _ ?_
      clear hK K
      refine wpAnyIn_ready (rs := [4]) (by kernel_rfl) (by simp) ?_
      refine AllReadyIn.cons rfl (fun K hK => ?_) AllReadyIn.nil
      go_simp
      refine hK _ _ ?_
      clear hK K
      refine wpAnyIn_ready (rs := [5]) (by kernel_rfl) (by simp) ?_
      refine AllReadyIn.cons rfl (fun K hK => ?_) AllReadyIn.nil
      refine stepIn_append_b4 _ rfl _ _ rfl vb BS.length (quads xs) rfl w.heap.size HS4.out.bats.row HS4.out.grows.size _ _ _ _ (all4 rfl rfl rfl rfl) w3.heap.size rfl (Row.new w3 _ _ _ rfl) (by have := HBL.out; omega) ?_
      intro v6 w6 hown6 hon6
      obtain ⟨QA, QN, QC, rfl⟩ := ownsRow_slice hown6
      have HOW := hidden hown6
      have HON := hidden hon6
      have HRG := hidden (hon6.row HS4.out.var (ownsRow_row_apart HS4.out.bats.row HS4.out.var (by decide)))
      have u0 := HRG.out.cell 0
      have u1 := HRG.out.frozen 0
      simp only [List.getElem?_cons_zero] at u0
      clear hown6 hon6 y0 y1 z0 z1
      refine hK _ _ ?_
      clear hK K
      refine wpAnyIn_ready (rs := [6]) (by kernel_rfl) (by simp) ?_
      refine AllReadyIn.cons rfl (fun K hK => ?_) AllReadyIn.nil
      go_simp
      refine hK _ _ ?_
      clear hK K
      refine wpAnyIn_done (by kernel_rfl) ?_ _
      exact HFIN.out w3 HS3.out HG3.out _ _ HC3.out (.slice QA QN QC) w6 HOW.out HON.out
    refine AllReadyIn.cons rfl (fun K hK => ?_) AllReadyIn.nil
    go_simp
    refine hK _ _ ?_
    clear hK K
    refine wpAnyIn_ready (rs := [0]) (by kernel_rfl) (by simp) ?_
    refine AllReadyIn.cons rfl (fun K hK => ?_) AllReadyIn.nil
    go_simp
    refine hK _ _ ?_
    clear hK K
    refine wpAnyIn_ready (rs := [5]) (by kernel_rfl) (by simp) ?_
    refine AllReadyIn.cons rfl (fun K hK => ?_) AllReadyIn.nil
    refine stepIn_append_b4 _ rfl _ _ rfl vb BS.length (quads xs) rfl w.heap.size HS4.out.bats.row HS4.out.grows.size _ _ _ _ (all4 rfl rfl rfl rfl) w3.heap.size rfl (Row.new w3 _ _ _ rfl) (by have := HBL.out; omega) ?_
    intro v6 w6 hown6 hon6
    obtain ⟨QA, QN, QC, rfl⟩ := ownsRow_slice hown6
    have HOW := hidden hown6
    have HON := hidden hon6
    have HRG := hidden (hon6.row HS4.out.var (ownsRow_row_apart HS4.out.bats.row HS4.out.var (by decide)))
    have u0 := HRG.out.cell 0
    have u1 := HRG.out.frozen 0
    simp only [List.getElem?_cons_zero] at u0
    clear hown6 hon6 y0 y1 z0 z1
    refine hK _ _ ?_
    clear hK K
    refine wpAnyIn_ready (rs := [6]) (by kernel_rfl) (by simp) ?_
    refine AllReadyIn.cons rfl (fun K hK => ?_) AllReadyIn.nil
    go_simp
    refine hK _ _ ?_
    clear hK K
    refine wpAnyIn_done (by kernel_rfl) ?_ _
    exact HFIN.out w3 HS3.out HG3.out _ _ HC3.out (.slice QA QN QC) w6 HOW.out HON.out
  case done =>
    rintro D ys W hD ⟨mm, rfl, hm1, hm2⟩ ⟨vb, xs, hst⟩ hdd
    have HS := hidden hst
    have HDD := hidden hdd
    have HD := hidden (show w.heap.size ≤ D by have := HG5.out.size; omega)
    have HSB := hidden (show (List.range mm).map (fun j => batR Ts (pieceR rs size j)) = splitB Ts rs size by
      unfold splitB
      rw [HN.out, ← pieces_range size HSZ.out.1 n mm rs (by rw [HN.out]; exact Nat.le_refl _) (by rw [HN.out]; exact hm1) (fun h => by rw [HN.out]; exact hm2 h), List.map_map]
      rfl)
    clear hst hdd hD hm1 hm2
    have y0 := HS.out.var.cell 0
    simp only [List.getElem?_cons_zero] at y0
    gi_wp2
    refine ⟨by simp, .inl ⟨_, _, rfl, run_takeDeferred HDD.out, ?_⟩⟩
    refine ⟨_, results_tmp2 rfl _ _ _, ?_⟩
    have h9 := HS.out.cells (P := fun i => i = D) (Y := W.putObj D (.deferred none)) ⟨rfl, rfl, rfl, by simp, fun k _ hk => World.putObj_heap_other hk⟩ (fun k hk => by rw [hk]; exact ⟨_, HDD.out, rfl⟩) (fun k hk => by rw [hk]; exact HD.out)
    exact ⟨vb, rfl, by rw [← HSB.out]; exact h9.bats.isBs, h9.grows⟩
  case stop =>
    rintro D c pre W2 _ _ h _
    exact h.elim
end Go.Proofs.Ytfjhahhkakfhmaa
/-
  Shaken: what the claims of this seat need of this text. No condition.
-/
namespace Go.Proofs.Ytfjhahhkakfhmaa
set_option maxRecDepth 8000
open Go.RowKit
set_option linter.unusedVariables false
set_option linter.unusedSimpArgs false
theorem VecER.ir {v : Vec} {c : Int} {w : World} {e : Ending} {w' : World} (h : VecER v c w e w') : VecIR v c w e w' := by
  obtain ⟨x, he, ho, hg⟩ := h
  exact ⟨x, he, ho.isV, hg⟩
theorem VecR.i {v : Vec} {w : World} {e : Ending} {w' : World} (h : VecR v w e w') : VecI v w e w' := by
  obtain ⟨x, he, ho, hg⟩ := h
  exact ⟨x, he, ho.isV, hg⟩
theorem OwnRowsR.i {ls : List (List Val)} {w : World} {e : Ending} {w' : World} (h : OwnRowsR ls w e w') : RowsI ls w e w' := by
  obtain ⟨x, he, ho, hg⟩ := h
  exact ⟨x, he, ho.isRs, hg⟩
theorem pack17 : Pack where
  from_ := fun u l T w hu hl hv _ => (vfrom_any u l T w hu (by omega) hv).mono fun _ _ h => h.ir
  at_ := fun x v i w hx hv _ _ => at17_any x v i w hx (okAt_of_valid hv)
  values := fun x v w hx hv hl => (values17_any x v w hx (okAt_of_valid hv) (by omega)).mono fun e w' ⟨u, he, ho, hg⟩ => ⟨u, he, ReadsV.of_own ho, hg⟩
  valid := fun x v w hx hf _ => vvalid_any x v w hx hf
  validB := fun x B w hx hf hL _ hS => vvalidB_any x B w hx hf hL hS
  gather := fun x v u l w hx hv _ hu hl _ => (vgather_any x v u l w hx hv hu (by omega)).mono fun _ _ h => h.i
  const := fun T y n w hy _ h0 hn => (vconst_any T y n w hy h0 (by omega)).mono fun _ _ h => h.i
  concat := fun u l w hu hl hv => (vconcat_any u l w hu hl hv).mono fun _ _ h => h.ir
  rows := fun x B w hx hv hc hl => (vrows_any x B w hx (okB_of hv (by omega) (by omega)) (valid_parts17 hv).1).mono fun _ _ h => h.i
  types := fun x B w hx hv hc hl => (vtypes_any x B w hx (by omega)).mono fun e w' ⟨u, he, ho, hg⟩ => ⟨u, he, Reads.of_own ho, hg⟩
  flatten := fun x B w hx hv hc hl => vflatten_any x B w hx (fun y hy => ((valid_parts17 hv).2.1 y hy).1) (valid_parts17 hv).1 (by omega) (by omega) (by
    have h1 := rowsB_len B (okB_of hv (by omega) (by omega))
    rw [rowsB_idx, List.length_map] at h1
    omega)
  allrows := fun u l w hu hl hv => (vallrows_any u l w hu hl (fun B hB => ⟨okB_of (hv B hB).1 (by have := (hv B hB).2.1; omega) (by have := (hv B hB).2.2; omega), (valid_parts17 (hv B hB).1).1⟩)).mono fun _ _ h => h.i
  fromRows := fun u Ts v rs w hu hv hf hT hr => vfromRows_any u Ts v rs w hu hv hf hT (by omega)
  split := fun u Ts v rs size w hu hv hf hT hr h1 h2 => vsplit_any u Ts v rs size w hu hv hf hT hr h1 h2
end Go.Proofs.Ytfjhahhkakfhmaa
