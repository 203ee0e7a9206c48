/-
  As XLoose's region with a tail, where several operations of the head make new memory: the blocks that they make are different ones, whatever order was drawn. No condition.
-/
import Derived.Test.YtepnegbopnepfaaLoose
namespace Go.Proofs.Ytepnegbopnepfaa
open Go.RowKit
set_option linter.unusedVariables false
set_option linter.unusedSimpArgs false

section
variable {P : Program} {ops : Array Oper} {Rs : Loose} {C : World → Prop}

/-- the slots D hold addresses of different blocks, all of which are there -/
def DistA (D : List Tmp) (a : Act) (w : World) : Prop :=
  ∀ t ∈ D, ∀ A, a.tmps.getD t undef = .pointer (some A) → A.block < w.heap.size ∧ ∀ t' ∈ D, t' ≠ t → ∀ A', a.tmps.getD t' undef = .pointer (some A') → A'.block ≠ A.block
/-- operations that write a slot of D make a new block -/
def Makes (P : Program) (ops : Array Oper) (D : List Tmp) : Prop :=
  ∀ (i : Nat) (o : Oper), ops[i]? = some o → ∀ t ∈ D, o.dst = some t → ∀ (a : Act) (w : World), ∃ A w1, (execOp a.eval o).run P w = .ok (.value (.pointer (some A))) w1 ∧ w.heap.size ≤ A.block ∧ A.block < w1.heap.size
theorem put_getD (a : Act) (d : Option Tmp) (v : Value) (t : Tmp) : (a.put d v).tmps.getD t undef = if d = some t ∧ t < a.tmps.size then v else a.tmps.getD t undef := by
  cases d with
  | none => simp [Act.put]
  | some d =>
    simp only [Act.put, Option.some.injEq]
    by_cases hd : d = t
    · subst hd
      by_cases hs : d < a.tmps.size
      · rw [if_pos ⟨rfl, hs⟩]
        simp [Array.getD, hs]
      · rw [if_neg (fun h => hs h.2)]
        simp [Array.getD, hs]
    · rw [if_neg (fun h => hd h.1)]
      simp only [Array.getD_eq_getD_getElem?, Array.getElem?_setIfInBounds, hd, if_false]
theorem DistA.grow {D : List Tmp} {a : Act} {w w' : World} (h : DistA D a w) (hs : w.heap.size ≤ w'.heap.size) : DistA D a w' := fun t ht A hA => ⟨by have := (h t ht A hA).1; omega, (h t ht A hA).2⟩
/-- a slot outside D, or nothing that is an address, is written -/
theorem DistA.put {D : List Tmp} {a : Act} {w : World} (h : DistA D a w) (d : Option Tmp) (v : Value) (hv : (∀ t ∈ D, d ≠ some t) ∨ v = undef) : DistA D (a.put d v) w := by
  intro t ht A hA
  have key : ∀ t ∈ D, ∀ A, (a.put d v).tmps.getD t undef = .pointer (some A) → a.tmps.getD t undef = .pointer (some A) := by
    intro t ht A hA
    rw [put_getD] at hA
    by_cases hc : d = some t ∧ t < a.tmps.size
    · rw [if_pos hc] at hA
      rcases hv with hv | rfl
      · exact absurd hc.1 (hv t ht)
      · cases hA
    · rw [if_neg hc] at hA
      exact hA
  exact ⟨(h t ht A (key t ht A hA)).1, fun t' ht' hne A' hA' => (h t ht A (key t ht A hA)).2 t' ht' hne A' (key t' ht' A' hA')⟩
/-- a new block's address is written into a slot of D -/
theorem DistA.made {D : List Tmp} {a : Act} {w w1 : World} (h : DistA D a w) (t0 : Tmp) (ht0 : t0 ∈ D) (A : Addr) (h1 : w.heap.size ≤ A.block) (h2 : A.block < w1.heap.size) (hs : w.heap.size ≤ w1.heap.size) : DistA D (a.put (some t0) (.pointer (some A))) w1 := by
  intro t ht B hB
  rw [put_getD] at hB
  by_cases hc : some t0 = some t ∧ t < a.tmps.size
  · rw [if_pos hc] at hB
    injection hB with hB
    injection hB with hB
    subst hB
    refine ⟨h2, fun t' ht' hne A' hA' => ?_⟩
    rw [put_getD, if_neg (fun h => hne (by have e1 := h.1; have e2 := hc.1; rw [e2] at e1; injection e1 with e1; exact e1.symm))] at hA'
    have := (h t' ht' A' hA').1
    omega
  · rw [if_neg hc] at hB
    have hb := h t ht B hB
    refine ⟨by omega, fun t' ht' hne A' hA' => ?_⟩
    rw [put_getD] at hA'
    by_cases hc' : some t0 = some t' ∧ t' < a.tmps.size
    · rw [if_pos hc'] at hA'
      injection hA' with hA'
      injection hA' with hA'
      subst hA'
      omega
    · rw [if_neg hc'] at hA'
      exact hb.2 t' ht' hne A' hA'

theorem wpAny_of_looseTD {Q : Act → World → Prop} {Q' : Exit → Act → World → Prop} {n g : Nat} (D : List Tmp) (hD : Makes P ops D) (hQ : ∀ listed a w, Region.seqB .any ops g n listed = true → DistA D a w → Q a w → wpAny P .any ops Q' g listed a w) (hC : ∀ w w', C w → Grows w w' → C w') (hR : Rs.lasts) :
    ∀ (fuel : Nat) (listed : Array Bool) (G : Facts) (a : Act) (w : World), C w → G.all_ w → G.lasts → DistA D a w → wpAnyT P ops Rs C Q n g fuel listed G a → wpAny P .any ops Q' (fuel + g) listed a w
  | 0, _, _, _, w, hc, hg, _, hd, h => by
    rw [Nat.zero_add]
    have h' := h ⟨w, hc, hg⟩
    exact hQ _ _ _ h'.1 hd (h'.2 w hc hg)
  | fuel + 1, listed, G, a, w, hc, hg, hl, hd, h => by
    have h' := h ⟨w, hc, hg⟩
    rw [show fuel + 1 + g = (fuel + g) + 1 by omega]
    refine ⟨fun h0 => absurd h0 h'.1, fun i hi => ?_⟩
    have h2 := (h'.2 i hi).2
    have next : ∀ G' a' w', C w' → G'.all_ w' → G'.lasts → DistA D a' w' → wpAnyT P ops Rs C Q n g fuel (listed.setIfInBounds i true) G' a' → wpAny P .any ops Q' (fuel + g) (listed.setIfInBounds i true) a' w' :=
      fun G' a' w' h1 h2 h3 h5 h4 => wpAny_of_looseTD D hD hQ hC hR fuel _ G' a' w' h1 h2 h3 h5 h4
    generalize wpAnyT P ops Rs C Q n g fuel (listed.setIfInBounds i true) = K at *
    unfold lOp at h2
    unfold wpOp
    split
    · rename_i ho; simp only [ho] at h2; exact next _ _ _ hc hg hl hd h2
    · rename_i o ho
      simp only [ho] at h2
      -- what a run leaves in the slots of D
      have keep : ∀ u w', Grows w w' → ((execOp a.eval o).run P w = .ok (.value u) w' ∨ (∀ t ∈ D, o.dst ≠ some t) ∨ u = undef) → DistA D (a.put o.dst u) w' := by
        intro u w' hgr hcase
        rcases hcase with hrun | hout
        · by_cases hin : ∃ t ∈ D, o.dst = some t
          · obtain ⟨t, ht, hdt⟩ := hin
            obtain ⟨A, w1, h3, h4, h5⟩ := hD i o ho t ht hdt a w
            rw [h3] at hrun
            injection hrun with e1 e2
            injection e1 with e1
            subst e1 e2
            rw [hdt]
            exact hd.made t ht A h4 h5 hgr.size
          · exact (hd.grow hgr.size).put _ _ (.inl fun t ht hdt => hin ⟨t, ht, hdt⟩)
        · exact (hd.grow hgr.size).put _ _ hout
      split
      · rename_i hw
        simp only [hw, if_true] at h2
        refine .inl ?_
        cases hr : Rs i with
        | none =>
          simp only [hr] at h2
          obtain ⟨v, h3, h4⟩ := h2
          have h5 := h3 w hc (Facts.for_of_all hg i)
          unfold fixedAt at h5
          unfold Oper.wp
          generalize hrun : (execOp a.eval o).run P w = r at *
          cases r with
          | ok n w' =>
            cases n <;> simp only [fixedUpon] at h5 <;> simp only [Oper.upon]
            case value u =>
              obtain ⟨e1, e2⟩ := h5
              have hk := keep u w' (by rw [e1]; exact Below.refl _ _) (.inl rfl)
              rw [e1] at hk ⊢
              rw [e2] at hk ⊢
              exact next _ _ _ hc hg hl hk h4
            case skip =>
              obtain ⟨e1, e2⟩ := h5
              have hk := keep undef w (Below.refl _ _) (.inr (.inr rfl))
              rw [e1]
              rw [e2] at h4
              exact next _ _ _ hc hg hl hk h4
          | halt x w' => simp only [fixedUpon] at h5
        | some R =>
          simp only [hr] at h2
          obtain ⟨h3, h4⟩ := h2
          have h5 := h3 w hc (Facts.for_of_all hg i)
          have go : ∀ u w', Grows w w' → R u w' → DistA D (a.put o.dst u) w' → wpAny P .any ops Q' (fuel + g) (listed.setIfInBounds i true) (a.put o.dst u) w' := fun u w' hgr hru hdd =>
            next _ _ _ (hC _ _ hc hgr) (Facts.all_add (fun j => hl j _ _ (hg j) hgr) hru) (Facts.lasts_add hl (hR i R hr u)) hdd (h4 u ⟨w', hC _ _ hc hgr, hru⟩)
          have out : ∀ f args w', (execOp a.eval o).run P w = .ok (.enter f args) w' → ∀ t ∈ D, o.dst ≠ some t := by
            intro f args w' hrun t ht hdt
            obtain ⟨A, w1, h3, _, _⟩ := hD i o ho t ht hdt a w
            rw [h3] at hrun
            cases hrun
          unfold looseAt at h5
          unfold Oper.wp
          generalize hrun : (execOp a.eval o).run P w = r at *
          cases r with
          | ok n w' =>
            cases n <;> simp only [looseUpon] at h5 <;> simp only [Oper.upon]
            case value u => exact go u w' h5.1 h5.2 (keep u w' h5.1 (.inl rfl))
            case skip => exact go undef w' h5.1 h5.2 (keep undef w' h5.1 (.inr (.inr rfl)))
            case enter f args => exact h5.2.mono fun e w'' ⟨v, he, hg2, hr2⟩ => by subst he; exact go v w'' (h5.1.of_below hg2) hr2 (keep v w'' (h5.1.of_below hg2) (.inr (.inl (out f args w' rfl))))
          | halt x w' => simp only [looseUpon] at h5
      · rename_i hw
        rw [if_neg hw] at h2
        exact next _ _ _ hc hg hl (keep undef w (Below.refl _ _) (.inr (.inr rfl))) h2

theorem wp_region_loose_tailD {id : Nat} {Q : Exit → Act → World → Prop} {a : Act} {w : World} {l : List Oper} (n : Nat) (D : List Tmp) (Rs : Loose) (hm : P.follows .mixedOrders = true) (hB : Region.lexTailB .any l.toArray n = true) (hRs : Rs.lasts) (hD : Makes P l.toArray D) (hd0 : DistA D a w)
    (h : wpLoose P l.toArray Rs (fun w' => Grows w w') (fun a' w' => DistA D a' w' → wpList P l.toArray Q (l.drop n) a' w') 0 (l.take n) (fun _ _ => True) a) : (Code.region id l.toArray true).wp P Q a w := by
  simp only [Region.lexTailB, Bool.and_eq_true, decide_eq_true_eq] at hB
  obtain ⟨⟨⟨⟨hsel, hn⟩, hs⟩, hc⟩, hlex⟩ := hB
  have hn' : n < l.length := by simpa using hn
  have htl : (l.take n).length = n := by simp; omega
  have hdl : (l.drop n).length = l.toArray.size - n := by simp
  have inv0 : HeadInv .any l.toArray n (Array.replicate l.toArray.size false) :=
    ⟨by simp, fun j oj _ hl => (by rw [getD_replicate_false] at hl; cases hl), fun t _ ht => getD_in (by simpa using ht) (getD_replicate_false _ _)⟩
  have hC : ∀ w1 w2, Grows w w1 → Grows w1 w2 → Grows w w2 := fun w1 w2 h1 h2 => h1.of_below h2
  have hl : Facts.lasts (fun _ _ => True) := fun _ _ _ _ _ => trivial
  have hd : Grows w { w with drawn := w.drawn + 1 } := ⟨rfl, rfl, rfl, Nat.le_refl _, fun _ _ => rfl⟩
  have H := wpAnyT_lex (P := P) (ops := l.toArray) (Rs := Rs) (C := fun w' => Grows w w') (g := l.toArray.size - n) hC hRs hsel hs hc hn (l.take n) 0 _ _ a hl (fun j hj => by
    have hj' : j < n := by rw [htl] at hj; exact hj
    simp [hj']) (by simpa using htl) inv0 (by rw [htl]; exact hlex) h
  refine wp_region_any hm ?_
  have := wpAny_of_looseTD (Q' := Q) D hD (fun listed a' w' hB hdist hq => by
    have := wpAny_of_seq (md := .any) (Q' := Q) (l.drop n) n listed a' w' (fun j => by simp [List.getElem?_drop]) (by rw [hdl]; exact hB) (hq hdist)
    rwa [hdl] at this) hC hRs _ _ _ a _ hd (fun _ => trivial) hl hd0 H
  rw [htl, show n + (l.toArray.size - n) = l.toArray.size by omega] at this
  exact this
end
end Go.Proofs.Ytepnegbopnepfaa
