/-
  Texts that the claims of this seat share, put together (LooseX, TabX). No condition.
-/
import Derived.Test.YtoaklmceejeblaaGreatM8
/-
  Shaken: what the claims of this seat need of this text. No condition.
-/
set_option linter.unusedVariables false
set_option linter.unusedSimpArgs false
namespace Go.Proofs.YtoaklmceejeblaaGreat
set_option maxRecDepth 8000
open Go.RowKit
section
variable {ops : Array Oper}
def eyeOf (a : Act) (o : Oper) : Value := match o.op with | .store _ x _ => a.eval x | _ => undef
theorem eyeOf_put (o : Oper) (a : Act) (dst : Option Tmp) (v : Value) (h : ∀ d, dst = some d → d ∉ o.looksAt ops) : eyeOf (a.put dst v) o = eyeOf a o := by
  unfold eyeOf
  cases hop : o.op <;> try rfl
  exact Act.eval_put fun d hd hxd => h d hd (by
    subst hxd
    exact List.mem_append_left _ (List.mem_filterMap.2 ⟨.tmp d, by simp [Op.operands, hop], rfl⟩))
abbrev LooseX := Nat → Option (Value → Value → World → Prop)
variable {P : Program} {Rs : LooseX} {C : World → Prop}
def PendFX (P : Program) (ops : Array Oper) (Rs : LooseX) (C : World → Prop) (k : Nat) (o : Oper) (v : Value) (G : Facts) (a : Act) : Prop :=
  (Region.wanted o (yielded ops a.tmps) = true ∧ Rs k = none ∧ ∀ w, C w → G.for_ ops k w → fixedAt P o a w v) ∨ (Region.wanted o (yielded ops a.tmps) = false ∧ v = undef)
theorem PendFX.put {k : Nat} {o oj : Oper} {v : Value} {G : Facts} {a : Act} (hp : PendFX P ops Rs C k o v G a) (hap : o.apart ops oj = true) (hs : ∀ cs b, o.op ≠ .select cs b) (u : Value) : PendFX P ops Rs C k o v G (a.put oj.dst u) := by
  obtain ⟨_, _, h3⟩ := Oper.apart_spec hap
  have e1 := execOp_put (ops := ops) o hs a oj.dst u h3
  have e2 := wanted_put (ops := ops) o a oj.dst u h3
  unfold PendFX at *
  rw [e2]
  exact hp.imp (fun ⟨x, z, y⟩ => ⟨x, z, fun w hc hg => fixedAt_eval (y w hc hg) e1⟩) id
theorem PendFX.add {k i : Nat} {o : Oper} {v : Value} {G : Facts} {a : Act} {p : World → Prop} (hp : PendFX P ops Rs C k o v G a) : PendFX P ops Rs C k o v (G.add i p) a :=
  hp.imp (fun ⟨x, z, y⟩ => ⟨x, z, fun w hc hg => y w hc (Facts.for_weak hg)⟩) id
end
section
variable [SteQ] {P : Program} {ops : Array Oper}
def LooseX.lastsX (Rs : LooseX) : Prop := ∀ i R, Rs i = some R → ∀ s v w w', R s v w → SteQ.T w w' → R s v w'
variable {Rs : LooseX} {C : World → Prop}
def wpLooseX (P : Program) (ops : Array Oper) (Rs : LooseX) (C : World → Prop) (Q : Act → World → Prop) : Nat → List Oper → Facts → Act → Prop
  | _, [], G, a => ∀ w, C w → G.all_ w → Q a w
  | k, o :: rest, G, a =>
    if Region.wanted o (yielded ops a.tmps) = true then
      match Rs k with
      | none => ∃ v, (∀ w, C w → G.for_ ops k w → fixedAt P o a w v) ∧ wpLooseX P ops Rs C Q (k + 1) rest G (a.put o.dst v)
      | some R => (∀ w, C w → G.for_ ops k w → looseAtQ P o a w (R (eyeOf a o))) ∧ ∀ v, (∃ w, C w ∧ R (eyeOf a o) v w) → wpLooseX P ops Rs C Q (k + 1) rest (G.add k (R (eyeOf a o) v)) (a.put o.dst v)
    else wpLooseX P ops Rs C Q (k + 1) rest G (a.put o.dst undef)
def lOpX (P : Program) (ops : Array Oper) (Rs : LooseX) (C : World → Prop) (i : Nat) (K : Facts → Act → Prop) (G : Facts) (a : Act) : Prop :=
  match ops[i]? with
  | none => K G a
  | some o =>
    if Region.wanted o (yielded ops a.tmps) = true then
      match Rs i with
      | none => ∃ v, (∀ w, C w → G.for_ ops i w → fixedAt P o a w v) ∧ K G (a.put o.dst v)
      | some R => (∀ w, C w → G.for_ ops i w → looseAtQ P o a w (R (eyeOf a o))) ∧ ∀ v, (∃ w, C w ∧ R (eyeOf a o) v w) → K (G.add i (R (eyeOf a o) v)) (a.put o.dst v)
    else K G (a.put o.dst undef)
def wpAnyLX (P : Program) (ops : Array Oper) (Rs : LooseX) (C : World → Prop) (Q : Act → World → Prop) : Nat → Array Bool → Facts → Act → Prop
  | 0, listed, G, a => inh C G → Region.ready .any ops listed = [] ∧ ∀ w, C w → G.all_ w → Q a w
  | fuel + 1, listed, G, a => inh C G →
    (Region.ready .any ops listed = [] → ∀ w, C w → G.all_ w → Q a w) ∧
    ∀ i ∈ Region.ready .any ops listed, lOpX P ops Rs C i (wpAnyLX P ops Rs C Q fuel (listed.setIfInBounds i true)) G a
theorem wpAnyL_voidX {Q : Act → World → Prop} {G : Facts} (h : ¬ inh C G) : ∀ (fuel : Nat) (listed : Array Bool) (a : Act), wpAnyLX P ops Rs C Q fuel listed G a
  | 0, _, _ => fun hi => absurd hi h
  | _ + 1, _, _ => fun hi => absurd hi h
theorem lOp_monoX {i : Nat} {G : Facts} {a : Act} {K K' : Facts → Act → Prop} (h : ∀ G a, K G a → K' G a) (hh : lOpX P ops Rs C i K G a) : lOpX P ops Rs C i K' G a := by
  unfold lOpX at *
  split
  · exact h _ _ (by simpa [*] using hh)
  · rename_i o ho
    simp only [ho] at hh
    split
    · rename_i hw
      simp only [hw, if_true] at hh
      cases hr : Rs i with
      | none => simp only [hr] at hh ⊢; obtain ⟨v, h1, h2⟩ := hh; exact ⟨v, h1, h _ _ h2⟩
      | some R => simp only [hr] at hh ⊢; exact ⟨hh.1, fun v hv => h _ _ (hh.2 v hv)⟩
    · rename_i hw; rw [if_neg hw] at hh; exact h _ _ hh
theorem wpAny_of_looseX {Q : Act → World → Prop} {Q' : Exit → Act → World → Prop} (hQ : ∀ a w, Q a w → Q' .normal a w) (hC : ∀ w w', C w → SteQ.T w w' → C w') (hR : Rs.lastsX) :
    ∀ (fuel : Nat) (listed : Array Bool) (G : Facts) (a : Act) (w : World), C w → G.all_ w → G.lastsQ → wpAnyLX P ops Rs C Q fuel listed G a → wpAny P .any ops Q' fuel listed a w
  | 0, _, _, _, w, hc, hg, _, h => let h' := h ⟨w, hc, hg⟩; ⟨h'.1, hQ _ _ (h'.2 w hc hg)⟩
  | fuel + 1, listed, G, a, w, hc, hg, hl, h => by
    have h' := h ⟨w, hc, hg⟩
    refine ⟨fun h0 => hQ _ _ (h'.1 h0 w hc hg), fun i hi => ?_⟩
    have h2 := h'.2 i hi
    have next : ∀ G' a' w', C w' → G'.all_ w' → G'.lastsQ → wpAnyLX P ops Rs C Q fuel (listed.setIfInBounds i true) G' a' → wpAny P .any ops Q' fuel (listed.setIfInBounds i true) a' w' :=
      fun G' a' w' h1 h2 h3 h4 => wpAny_of_looseX hQ hC hR fuel _ G' a' w' h1 h2 h3 h4
    generalize wpAnyLX P ops Rs C Q fuel (listed.setIfInBounds i true) = K at *
    unfold lOpX at h2
    unfold wpOp
    split
    · rename_i ho; simp only [ho] at h2; exact next _ _ _ hc hg hl h2
    · rename_i o ho
      simp only [ho] at h2
      split
      · rename_i hw
        simp only [hw, if_true] at h2
        refine .inl ?_
        cases hr : Rs i with
        | none =>
          simp only [hr] at h2
          obtain ⟨v, h3, h4⟩ := h2
          have h5 := h3 w hc (Facts.for_of_all hg i)
          unfold fixedAt at h5
          unfold Oper.wp
          generalize (execOp a.eval o).run P w = r at *
          cases r with
          | ok n w' =>
            cases n <;> simp only [fixedUpon] at h5 <;> simp only [Oper.upon]
            case value u => obtain ⟨e1, e2⟩ := h5; rw [e1, e2]; exact next _ _ _ hc hg hl h4
            case skip => obtain ⟨e1, e2⟩ := h5; rw [e1, ← e2]; exact next _ _ _ hc hg hl h4
          | halt x w' => simp only [fixedUpon] at h5
        | some R =>
          simp only [hr] at h2
          obtain ⟨h3, h4⟩ := h2
          have h5 := h3 w hc (Facts.for_of_all hg i)
          have go : ∀ u w', SteQ.T w w' → R (eyeOf a o) u w' → wpAny P .any ops Q' fuel (listed.setIfInBounds i true) (a.put o.dst u) w' := fun u w' hgr hru =>
            next _ _ _ (hC _ _ hc hgr) (Facts.all_add (fun j => hl j _ _ (hg j) hgr) hru) (Facts.lasts_addQ hl (hR i R hr _ u)) (h4 u ⟨w', hC _ _ hc hgr, hru⟩)
          unfold looseAtQ at h5
          unfold Oper.wp
          generalize (execOp a.eval o).run P w = r at *
          cases r with
          | ok n w' =>
            cases n <;> simp only [looseUponQ] at h5 <;> simp only [Oper.upon]
            case value u => exact go u w' h5.1 h5.2
            case skip => exact go undef w' h5.1 h5.2
            case enter f args => exact h5.2.mono fun e w'' ⟨v, he, hg2, hr2⟩ => by subst he; exact go v w'' (SteQ.tr h5.1 hg2) hr2
          | halt x w' => simp only [looseUponQ] at h5
      · rename_i hw; rw [if_neg hw] at h2; exact next _ _ _ hc hg hl h2
def PendLX (P : Program) (ops : Array Oper) (C : World → Prop) (k : Nat) (o : Oper) (s : Value) (R : Value → World → Prop) (G : Facts) (a : Act) : Prop :=
  Region.wanted o (yielded ops a.tmps) = true ∧ eyeOf a o = s ∧ ∀ w, C w → G.for_ ops k w → looseAtQ P o a w R
theorem PendLX.put {k : Nat} {o oj : Oper} {s : Value} {R : Value → World → Prop} {G : Facts} {a : Act} (hp : PendLX P ops C k o s R G a) (hap : o.apart ops oj = true) (hs : ∀ cs b, o.op ≠ .select cs b) (u : Value) : PendLX P ops C k o s R G (a.put oj.dst u) := by
  obtain ⟨_, _, h3⟩ := Oper.apart_spec hap
  have e1 := execOp_put (ops := ops) o hs a oj.dst u h3
  have e2 := wanted_put (ops := ops) o a oj.dst u h3
  unfold PendLX at *
  rw [e2]
  exact ⟨hp.1, (eyeOf_put (ops := ops) o a oj.dst u h3).trans hp.2.1, fun w hc hg => looseAt_evalQ (hp.2.2 w hc hg) e1⟩
theorem PendLX.add {k i : Nat} {o : Oper} {s : Value} {R : Value → World → Prop} {G : Facts} {a : Act} {p : World → Prop} (hp : PendLX P ops C k o s R G a) : PendLX P ops C k o s R (G.add i p) a :=
  ⟨hp.1, hp.2.1, fun w hc hg => hp.2.2 w hc (Facts.for_weak hg)⟩
theorem PendFX.lOpX {k : Nat} {o : Oper} {v : Value} {G : Facts} {a : Act} {K : Facts → Act → Prop} (ho : ops[k]? = some o) (hp : PendFX P ops Rs C k o v G a) (h : K G (a.put o.dst v)) : lOpX P ops Rs C k K G a := by
  unfold Proofs.YtoaklmceejeblaaGreat.lOpX
  simp only [ho]
  rcases hp with ⟨hw, hr, hv⟩ | ⟨hw, rfl⟩
  · rw [if_pos hw]; simp only [hr]; exact ⟨v, hv, h⟩
  · rw [if_neg (by rw [hw]; exact Bool.false_ne_true)]; exact h
theorem PendLX.lOpX {k : Nat} {o : Oper} {s : Value} {R : Value → Value → World → Prop} {G : Facts} {a : Act} {K : Facts → Act → Prop} (ho : ops[k]? = some o) (hr : Rs k = some R) (hp : PendLX P ops C k o s (R s) G a)
    (h : ∀ v, (∃ w, C w ∧ R s v w) → K (G.add k (R s v)) (a.put o.dst v)) : lOpX P ops Rs C k K G a := by
  unfold Proofs.YtoaklmceejeblaaGreat.lOpX
  simp only [ho, hr]
  rw [if_pos hp.1, hp.2.1]
  exact ⟨hp.2.2, h⟩
theorem lOp_putFX {k j : Nat} {o oj : Oper} {v : Value} {G : Facts} {a : Act} {K : Facts → Act → Prop} (hj : ops[j]? = some oj) (hap : o.apart ops oj = true)
    (hs : ∀ cs b, o.op ≠ .select cs b) (hsj : ∀ cs b, oj.op ≠ .select cs b) (hp : PendFX P ops Rs C k o v G a) (h : lOpX P ops Rs C j K G (a.put o.dst v)) :
    lOpX P ops Rs C j (fun G' a' => PendFX P ops Rs C k o v G' a' ∧ K G' (a'.put o.dst v)) G a := by
  obtain ⟨h1, h2, _⟩ := Oper.apart_spec hap
  have e1 := execOp_put (ops := ops) oj hsj a o.dst v h1
  have e2 := wanted_put (ops := ops) oj a o.dst v h1
  have ec : ∀ u, (a.put o.dst v).put oj.dst u = (a.put oj.dst u).put o.dst v := fun u => Act.put_comm a v u h2
  unfold lOpX at *
  simp only [hj] at *
  rw [e2] at h
  split
  · rename_i hw
    rw [if_pos hw] at h
    cases hr : Rs j with
    | none =>
      simp only [hr] at h ⊢
      obtain ⟨u, h3, h4⟩ := h
      exact ⟨u, fun w hc hg => fixedAt_eval (h3 w hc hg) e1.symm, hp.put hap hs u, by rw [← ec]; exact h4⟩
    | some R =>
      simp only [hr] at h ⊢
      rw [eyeOf_put (ops := ops) oj a o.dst v h1] at h
      exact ⟨fun w hc hg => looseAt_evalQ (h.1 w hc hg) e1.symm, fun u hu => ⟨(hp.put hap hs u).add, by rw [← ec]; exact h.2 u hu⟩⟩
  · rename_i hw
    rw [if_neg hw] at h
    exact ⟨hp.put hap hs undef, by rw [← ec]; exact h⟩
theorem lOp_putLX {k j fuel : Nat} {L : Array Bool} {Q : Act → World → Prop} {o oj : Oper} {s : Value} {R : Value → World → Prop} {G : Facts} {a : Act} (hC : ∀ w w', C w → SteQ.T w w' → C w') (hj : ops[j]? = some oj) (hap : o.apart ops oj = true)
    (hs : ∀ cs b, o.op ≠ .select cs b) (hsj : ∀ cs b, oj.op ≠ .select cs b) (hl : G.lastsQ) (hwt : waits ops j k = false)
    (hi : inh C G) (hp : PendLX P ops C k o s R G a) (h : ∀ v, (∃ w, C w ∧ R v w) → inh C (G.add k (R v)) → lOpX P ops Rs C j (wpAnyLX P ops Rs C Q fuel L) (G.add k (R v)) (a.put o.dst v)) :
    lOpX P ops Rs C j (fun G' a' => PendLX P ops C k o s R G' a' ∧ ∀ v, (∃ w, C w ∧ R v w) → wpAnyLX P ops Rs C Q fuel L (G'.add k (R v)) (a'.put o.dst v)) G a := by
  obtain ⟨h1, h2, _⟩ := Oper.apart_spec hap
  have e1 := fun v => execOp_put (ops := ops) oj hsj a o.dst v h1
  have e2 := fun v => wanted_put (ops := ops) oj a o.dst v h1
  have ec : ∀ v u, (a.put o.dst v).put oj.dst u = (a.put oj.dst u).put o.dst v := fun v u => Act.put_comm a v u h2
  obtain ⟨w0, hc0, hg0⟩ := hi
  obtain ⟨v0, w1, hgr, hr0⟩ := loose_someQ (hp.2.2 w0 hc0 (Facts.for_of_all hg0 k))
  have hi0 : inh C (G.add k (R v0)) := ⟨w1, hC _ _ hc0 hgr, Facts.all_add (fun j => hl j _ _ (hg0 j) hgr) hr0⟩
  have hv0 : ∃ w, C w ∧ R v0 w := ⟨w1, hC _ _ hc0 hgr, hr0⟩
  have H := h v0 hv0 hi0
  unfold lOpX at *
  simp only [hj] at *
  rw [e2] at H
  split
  · rename_i hw
    rw [if_pos hw] at H
    cases hr : Rs j with
    | none =>
      simp only [hr] at H ⊢
      obtain ⟨u, h3, _⟩ := H
      have h5 : ∀ w, C w → G.for_ ops j w → fixedAt P oj a w u := fun w hc hg => fixedAt_eval (h3 w hc (Facts.for_add hg hwt)) (e1 v0).symm
      refine ⟨u, h5, hp.put hap hs u, fun v hv => ?_⟩
      by_cases hiv : inh C (G.add k (R v))
      · have Hv := h v hv hiv
        rw [e2, if_pos hw] at Hv
        simp only [hr] at Hv
        obtain ⟨u', h6, h7⟩ := Hv
        have h8 : fixedAt P oj a w0 u' := fixedAt_eval (h6 w0 hc0 (Facts.for_add (Facts.for_of_all hg0 j) hwt)) (e1 v).symm
        have eu := fixed_same h8 (h5 w0 hc0 (Facts.for_of_all hg0 j))
        subst eu
        rw [← ec]; exact h7
      · exact wpAnyL_voidX hiv _ _ _
    | some Rj =>
      simp only [hr] at H ⊢
      rw [eyeOf_put (ops := ops) oj a o.dst v0 h1] at H
      refine ⟨fun w hc hg => looseAt_evalQ (H.1 w hc (Facts.for_add hg hwt)) (e1 v0).symm, fun u hu => ⟨(hp.put hap hs u).add, fun v hv => ?_⟩⟩
      by_cases hiv : inh C (G.add k (R v))
      · have Hv := h v hv hiv
        rw [e2, if_pos hw] at Hv
        simp only [hr] at Hv
        rw [eyeOf_put (ops := ops) oj a o.dst v h1] at Hv
        rw [← ec, Facts.add_comm]; exact Hv.2 u hu
      · rw [Facts.add_comm]
        exact wpAnyL_voidX (fun hx => hiv (inh_weak hx)) _ _ _
  · rename_i hw
    refine ⟨hp.put hap hs undef, fun v hv => ?_⟩
    by_cases hiv : inh C (G.add k (R v))
    · have Hv := h v hv hiv
      rw [e2, if_neg hw] at Hv
      rw [← ec]; exact Hv
    · exact wpAnyL_voidX hiv _ _ _
theorem wpAnyL_firstFX {Q : Act → World → Prop} {k : Nat} {o : Oper} {v : Value} (hk : ops[k]? = some o) (hsel : ∀ (j : Nat) (o : Oper) cs b, ops[j]? = some o → o.op ≠ .select cs b) :
    ∀ (fuel : Nat) (listed : Array Bool) (G : Facts) (a : Act),
      (∀ j oj, ops[j]? = some oj → j ≠ k → listed.getD j true = false → (∀ e ∈ oj.after, Region.binds .any e = true → e.on ≠ k) → o.apart ops oj = true) →
      k ∈ Region.ready .any ops listed → PendFX P ops Rs C k o v G a →
      wpAnyLX P ops Rs C Q fuel (listed.setIfInBounds k true) G (a.put o.dst v) → wpAnyLX P ops Rs C Q (fuel + 1) listed G a := by
  intro fuel
  induction fuel with
  | zero =>
    intro listed G a _ hrd hy H hinh
    refine ⟨fun h => (by rw [h] at hrd; cases hrd), fun j hj => ?_⟩
    by_cases hji : j = k
    · subst hji; exact hy.lOpX hk H
    · have := ready_mono hj hji
      rw [(H hinh).1] at this
      cases this
  | succ fuel ih =>
    intro listed G a hfree hrd hy H hinh
    refine ⟨fun h => (by rw [h] at hrd; cases hrd), fun j hj => ?_⟩
    by_cases hji : j = k
    · subst hji; exact hy.lOpX hk H
    · have h1 := (H hinh).2 j (ready_mono hj hji)
      obtain ⟨hjun, oj, hoj, hall⟩ := mem_ready.1 hj
      have hnot : ∀ e ∈ oj.after, Region.binds .any e = true → e.on ≠ k := fun e he hb heq => by
        have h1 := hall e he hb
        have h0 := (mem_ready.1 hrd).1
        rw [heq] at h1
        rcases Nat.lt_or_ge k listed.size with h' | h'
        · simp [h'] at h0 h1; rw [h0] at h1; cases h1
        · simp [Array.getElem?_eq_none h'] at h1
      have h2 := lOp_putFX hoj (hfree j oj hoj hji hjun hnot) (fun cs b => hsel k o cs b hk) (fun cs b => hsel j oj cs b hoj) hy h1
      have hfree' : ∀ i oi, ops[i]? = some oi → i ≠ k → (listed.setIfInBounds j true).getD i true = false →
          (∀ e ∈ oi.after, Region.binds .any e = true → e.on ≠ k) → o.apart ops oi = true := fun i oi hi hik hun hno => by
        refine hfree i oi hi hik ?_ hno
        by_cases hji2 : j = i
        · subst hji2; exact hjun
        · rw [getD_set_ne true hji2] at hun; exact hun
      refine lOp_monoX (fun G' a' h3 => ih (listed.setIfInBounds j true) G' a' hfree' (ready_mono hrd (Ne.symm hji)) h3.1 ?_) h2
      rw [Array.setIfInBounds_comm _ _ hji]
      exact h3.2
theorem wpAnyL_firstLX {Q : Act → World → Prop} {k : Nat} {o : Oper} {s : Value} {R : Value → Value → World → Prop} (hC : ∀ w w', C w → SteQ.T w w' → C w') (hRs : Rs.lastsX) (hk : ops[k]? = some o) (hr : Rs k = some R)
    (hsel : ∀ (j : Nat) (o : Oper) cs b, ops[j]? = some o → o.op ≠ .select cs b) :
    ∀ (fuel : Nat) (listed : Array Bool) (G : Facts) (a : Act), G.lastsQ →
      (∀ j oj, ops[j]? = some oj → j ≠ k → listed.getD j true = false → (∀ e ∈ oj.after, Region.binds .any e = true → e.on ≠ k) → o.apart ops oj = true) →
      k ∈ Region.ready .any ops listed → PendLX P ops C k o s (R s) G a →
      (∀ v, (∃ w, C w ∧ R s v w) → wpAnyLX P ops Rs C Q fuel (listed.setIfInBounds k true) (G.add k (R s v)) (a.put o.dst v)) → wpAnyLX P ops Rs C Q (fuel + 1) listed G a := by
  intro fuel
  induction fuel with
  | zero =>
    intro listed G a hl _ hrd hy H hinh
    refine ⟨fun h => (by rw [h] at hrd; cases hrd), fun j hj => ?_⟩
    by_cases hji : j = k
    · subst hji; exact hy.lOpX hk hr H
    · have h0 := ready_mono hj hji
      obtain ⟨w0, hc0, hg0⟩ := hinh
      obtain ⟨v0, w1, hgr, hr0⟩ := loose_someQ (hy.2.2 w0 hc0 (Facts.for_of_all hg0 k))
      have h1 := H v0 ⟨w1, hC _ _ hc0 hgr, hr0⟩ ⟨w1, hC _ _ hc0 hgr, Facts.all_add (fun j => hl j _ _ (hg0 j) hgr) hr0⟩
      rw [h1.1] at h0
      cases h0
  | succ fuel ih =>
    intro listed G a hl hfree hrd hy H hinh
    refine ⟨fun h => (by rw [h] at hrd; cases hrd), fun j hj => ?_⟩
    by_cases hji : j = k
    · subst hji; exact hy.lOpX hk hr H
    · obtain ⟨hjun, oj, hoj, hall⟩ := mem_ready.1 hj
      have hwt := waits_of_ready hj (mem_ready.1 hrd).1
      have hnot : ∀ e ∈ oj.after, Region.binds .any e = true → e.on ≠ k := fun e he hb heq => by
        have h1 := hall e he hb
        have h0 := (mem_ready.1 hrd).1
        rw [heq] at h1
        rcases Nat.lt_or_ge k listed.size with h' | h'
        · simp [h'] at h0 h1; rw [h0] at h1; cases h1
        · simp [Array.getElem?_eq_none h'] at h1
      have h2 := lOp_putLX (Rs := Rs) (Q := Q) (fuel := fuel) (L := (listed.setIfInBounds k true).setIfInBounds j true) hC hoj (hfree j oj hoj hji hjun hnot) (fun cs b => hsel k o cs b hk) (fun cs b => hsel j oj cs b hoj) hl hwt hinh hy
        (fun v hv hiv => (H v hv hiv).2 j (ready_mono hj hji))
      have hfree' : ∀ i oi, ops[i]? = some oi → i ≠ k → (listed.setIfInBounds j true).getD i true = false →
          (∀ e ∈ oi.after, Region.binds .any e = true → e.on ≠ k) → o.apart ops oi = true := fun i oi hi hik hun hno => by
        refine hfree i oi hi hik ?_ hno
        by_cases hji2 : j = i
        · subst hji2; exact hjun
        · rw [getD_set_ne true hji2] at hun; exact hun
      have h3 : lOpX P ops Rs C j (fun G' a' => G'.lastsQ ∧ PendLX P ops C k o s (R s) G' a' ∧ ∀ v, (∃ w, C w ∧ R s v w) → wpAnyLX P ops Rs C Q fuel ((listed.setIfInBounds k true).setIfInBounds j true) (G'.add k (R s v)) (a'.put o.dst v)) G a := by
        unfold lOpX at h2 ⊢
        simp only [hoj] at h2 ⊢
        split
        · rename_i hw
          rw [if_pos hw] at h2
          cases hrj : Rs j with
          | none => simp only [hrj] at h2 ⊢; obtain ⟨u, h4, h5⟩ := h2; exact ⟨u, h4, hl, h5⟩
          | some Rj => simp only [hrj] at h2 ⊢; exact ⟨h2.1, fun u hu => ⟨Facts.lasts_addQ hl (hRs j Rj hrj _ u), h2.2 u hu⟩⟩
        · rename_i hw; rw [if_neg hw] at h2; exact ⟨hl, h2⟩
      refine lOp_monoX (fun G' a' h4 => ih (listed.setIfInBounds j true) G' a' h4.1 hfree' (ready_mono hrd (Ne.symm hji)) h4.2.1 ?_) h3
      rw [Array.setIfInBounds_comm _ _ hji]
      exact h4.2.2
theorem wpAnyL_lexX {Q : Act → World → Prop} (hC : ∀ w w', C w → SteQ.T w w' → C w') (hRs : Rs.lastsX) (hs : Region.noSelect ops = true) : ∀ (l : List Oper) (k : Nat) (listed : Array Bool) (G : Facts) (a : Act), G.lastsQ → (∀ j, l[j]? = ops[k + j]?) →
    Region.lexFrom .any ops l.length k listed = true → wpLooseX P ops Rs C Q k l G a → wpAnyLX P ops Rs C Q l.length listed G a
  | [], _, _, _, _, _, _, hB, h => fun _ => ⟨by simpa [Region.lexFrom] using hB, h⟩
  | o :: l, k, listed, G, a, hl, hlk, hB, h => by
    have h0 : ops[k]? = some o := by simpa using (hlk 0).symm
    simp only [List.length_cons, Region.lexFrom, Bool.and_eq_true] at hB
    obtain ⟨⟨hr, hf⟩, hB'⟩ := hB
    have hlk' : ∀ j, l[j]? = ops[k + 1 + j]? := fun j => by have := hlk (j + 1); simpa [Nat.add_assoc, Nat.add_comm 1 j] using this
    have hrd : k ∈ Region.ready .any ops listed := by simpa using hr
    have hsel := Region.noSelect_spec hs
    have hfree := Region.free_spec h0 hf
    unfold wpLooseX at h
    by_cases hw : Region.wanted o (yielded ops a.tmps) = true
    · rw [if_pos hw] at h
      cases hR : Rs k with
      | none =>
        simp only [hR] at h
        obtain ⟨v, h1, h2⟩ := h
        exact wpAnyL_firstFX h0 hsel l.length listed G a hfree hrd (.inl ⟨hw, hR, h1⟩) (wpAnyL_lexX hC hRs hs l (k + 1) _ _ _ hl hlk' hB' h2)
      | some R =>
        simp only [hR] at h
        exact wpAnyL_firstLX hC hRs h0 hR hsel l.length listed G a hl hfree hrd ⟨hw, rfl, h.1⟩ (fun v hv => wpAnyL_lexX hC hRs hs l (k + 1) _ _ _ (Facts.lasts_addQ hl (hRs k R hR _ v)) hlk' hB' (h.2 v hv))
    · rw [if_neg hw] at h
      have hwf : Region.wanted o (yielded ops a.tmps) = false := by simpa using hw
      exact wpAnyL_firstFX h0 hsel l.length listed G a hfree hrd (.inr ⟨hwf, rfl⟩) (wpAnyL_lexX hC hRs hs l (k + 1) _ _ _ hl hlk' hB' h)
theorem wp_region_looseX {id : Nat} {Q : Exit → Act → World → Prop} {a : Act} {w : World} {l : List Oper} (Rs : LooseX) (hm : P.follows .mixedOrders = true) (hB : Region.lexB .any l.toArray = true) (hRs : Rs.lastsX)
    (h : wpLooseX P l.toArray Rs (fun w' => SteQ.T w w') (fun a' w' => Q .normal a' w') 0 l (fun _ _ => True) a) : (Code.region id l.toArray true).wp P Q a w := by
  simp only [Region.lexB, Bool.and_eq_true] at hB
  have hC : ∀ w1 w2, SteQ.T w w1 → SteQ.T w1 w2 → SteQ.T w w2 := fun w1 w2 h1 h2 => SteQ.tr h1 h2
  have hl : Facts.lastsQ (fun _ _ => True) := fun _ _ _ _ _ => trivial
  have hd : SteQ.T w { w with drawn := w.drawn + 1 } := SteQ.dr _
  refine wp_region_any hm ?_
  have hL := wpAnyL_lexX (P := P) (ops := l.toArray) (Rs := Rs) (C := fun w' => SteQ.T w w') (Q := fun a' w' => Q .normal a' w') hC hRs hB.1 l 0 (Array.replicate l.toArray.size false) (fun _ _ => True) a hl (by simp) (by simpa using hB.2) h
  exact wpAny_of_looseX (Q := fun a' w' => Q .normal a' w') (fun _ _ h => h) hC hRs l.length _ _ a _ hd (fun _ => trivial) hl hL
variable {Q : Act → World → Prop} {k : Nat} {o : Oper} {rest : List Oper} {G : Facts} {a : Act}
theorem loose_doneX (h : ∀ w, C w → G.all_ w → Q a w) : wpLooseX P ops Rs C Q k [] G a := h
theorem loose_oneX {v : Value} {a' : Act} (hw : Region.wanted o (yielded ops a.tmps) = true) (hR : Rs k = none) (hv : ∀ w, C w → G.for_ ops k w → (execOp a.eval o).run P w = .ok (.value v) w) (ha : a.put o.dst v = a')
    (h : wpLooseX P ops Rs C Q (k + 1) rest G a') : wpLooseX P ops Rs C Q k (o :: rest) G a := by
  unfold wpLooseX
  rw [if_pos hw]
  simp only [hR]
  subst ha
  exact ⟨v, fun w hc hg => by unfold fixedAt; rw [hv w hc hg]; exact ⟨rfl, rfl⟩, h⟩
theorem loose_callX {R : Value → Value → World → Prop} {f : FuncId} {args : Array Value} (hw : Region.wanted o (yielded ops a.tmps) = true) (hR : Rs k = some R) (he : ∀ w, (execOp a.eval o).run P w = .ok (.enter f args) w)
    (hc : ∀ w, C w → G.for_ ops k w → Calls P f args w fun e w' => ∃ v, e = .returned v ∧ SteQ.T w w' ∧ R (eyeOf a o) v w')
    (h : ∀ v, (∃ w, C w ∧ R (eyeOf a o) v w) → ∃ a', a.put o.dst v = a' ∧ wpLooseX P ops Rs C Q (k + 1) rest (G.add k (R (eyeOf a o) v)) a') : wpLooseX P ops Rs C Q k (o :: rest) G a := by
  unfold wpLooseX
  rw [if_pos hw]
  simp only [hR]
  exact ⟨fun w h1 h2 => by unfold looseAtQ; rw [he w]; exact ⟨SteQ.re _, hc w h1 h2⟩, fun v hv => by obtain ⟨a', ha, h6⟩ := h v hv; rw [ha]; exact h6⟩
theorem loose_newX {R : Value → Value → World → Prop} (hw : Region.wanted o (yielded ops a.tmps) = true) (hR : Rs k = some R) (hv : ∀ w, C w → G.for_ ops k w → ∃ v w', (execOp a.eval o).run P w = .ok (.value v) w' ∧ SteQ.T w w' ∧ R (eyeOf a o) v w')
    (h : ∀ v, (∃ w, C w ∧ R (eyeOf a o) v w) → ∃ a', a.put o.dst v = a' ∧ wpLooseX P ops Rs C Q (k + 1) rest (G.add k (R (eyeOf a o) v)) a') : wpLooseX P ops Rs C Q k (o :: rest) G a := by
  unfold wpLooseX
  rw [if_pos hw]
  simp only [hR]
  exact ⟨fun w h1 h2 => by obtain ⟨v, w', h3, h4, h5⟩ := hv w h1 h2; unfold looseAtQ; rw [h3]; exact ⟨h4, h5⟩, fun v hv => by obtain ⟨a', ha, h6⟩ := h v hv; rw [ha]; exact h6⟩
theorem loose_storeX {R : Value → Value → World → Prop} (hw : Region.wanted o (yielded ops a.tmps) = true) (hR : Rs k = some R) (hv : ∀ w, C w → G.for_ ops k w → ∃ w', (execOp a.eval o).run P w = .ok .skip w' ∧ SteQ.T w w' ∧ R (eyeOf a o) undef w')
    (h : ∀ v, (∃ w, C w ∧ R (eyeOf a o) v w) → ∃ a', a.put o.dst v = a' ∧ wpLooseX P ops Rs C Q (k + 1) rest (G.add k (R (eyeOf a o) v)) a') : wpLooseX P ops Rs C Q k (o :: rest) G a := by
  unfold wpLooseX
  rw [if_pos hw]
  simp only [hR]
  exact ⟨fun w h1 h2 => by obtain ⟨w', h3, h4, h5⟩ := hv w h1 h2; unfold looseAtQ; rw [h3]; exact ⟨h4, h5⟩, fun v hv => by obtain ⟨a', ha, h6⟩ := h v hv; rw [ha]; exact h6⟩
end
end Go.Proofs.YtoaklmceejeblaaGreat
/-
  Shaken: what the claims of this seat need of this text. No condition.
-/
namespace Go.Proofs.YtoaklmceejeblaaGreat
set_option maxRecDepth 8000
open Go.RowKit
def tabX : List (Nat × (Value → Value → World → Prop)) → LooseX
  | [], _ => none
  | (j, R) :: L, i => if i = j then some R else tabX L i
theorem tabX_nil [SteQ] : (tabX []).lastsX := fun _ _ h => by cases h
theorem tabX_cons [SteQ] {j : Nat} {R : Value → Value → World → Prop} {L : List (Nat × (Value → Value → World → Prop))} (h : ∀ s v w w', R s v w → SteQ.T w w' → R s v w') (hL : (tabX L).lastsX) : (tabX ((j, R) :: L)).lastsX := fun i R' hR => by
  unfold tabX at hR
  split at hR
  · injection hR with hR; subst hR; exact h
  · exact hL i R' hR
end Go.Proofs.YtoaklmceejeblaaGreat
