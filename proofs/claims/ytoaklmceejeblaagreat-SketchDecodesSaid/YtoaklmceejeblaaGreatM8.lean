/-
  Texts that the claims of this seat share, put together (Loose, Lstr, LooseQ). No condition.
-/
import Derived.Orders
import Derived.Still
import Derived.Below
import Derived.Test.YtoaklmceejeblaaGreatM1
import Derived.StillTail
import Derived.Laws.IdiomStrings
import Derived.Laws.AppendOwn
/-
  Shaken: what the claims of this seat need of this text. No condition.
-/
set_option linter.unusedVariables false
set_option linter.unusedSimpArgs false
namespace Go.Proofs.YtoaklmceejeblaaGreat
set_option maxRecDepth 8000
open Go.RowKit
section
variable {P : Program} {ops : Array Oper}
abbrev Facts := Nat → World → Prop
def Facts.add (G : Facts) (i : Nat) (p : World → Prop) : Facts := fun j w => G j w ∧ (j = i → p w)
theorem Facts.add_comm (G : Facts) (i j : Nat) (p q : World → Prop) : (G.add i p).add j q = (G.add j q).add i p := by
  funext k w
  simp only [Facts.add]
  exact propext ⟨fun h => ⟨⟨h.1.1, h.2⟩, h.1.2⟩, fun h => ⟨⟨h.1.1, h.2⟩, h.1.2⟩⟩
def waits (ops : Array Oper) (i j : Nat) : Bool :=
  match ops[i]? with
  | some o => o.after.any fun e => Region.binds .any e && e.on == j
  | none => false
def Facts.for_ (ops : Array Oper) (G : Facts) (i : Nat) (w : World) : Prop := ∀ j, waits ops i j = true → G j w
def Facts.all_ (G : Facts) (w : World) : Prop := ∀ j, G j w
def Facts.lasts (G : Facts) : Prop := ∀ j w w', G j w → Grows w w' → G j w'
theorem Facts.for_of_all {G : Facts} {w : World} (h : G.all_ w) (i : Nat) : G.for_ ops i w := fun j _ => h j
theorem Facts.for_weak {G : Facts} {i j : Nat} {p : World → Prop} {w : World} (h : (G.add i p).for_ ops j w) : G.for_ ops j w := fun k hk => (h k hk).1
theorem Facts.for_add {G : Facts} {i j : Nat} {p : World → Prop} {w : World} (h : G.for_ ops j w) (hw : waits ops j i = false) : (G.add i p).for_ ops j w :=
  fun k hk => ⟨h k hk, fun e => by subst e; rw [hw] at hk; cases hk⟩
theorem Facts.lasts_add {G : Facts} {i : Nat} {p : World → Prop} (h : G.lasts) (hp : ∀ w w', p w → Grows w w' → p w') : (G.add i p).lasts :=
  fun j w w' hg hb => ⟨h j w w' hg.1 hb, fun e => hp w w' (hg.2 e) hb⟩
theorem Facts.all_add {G : Facts} {i : Nat} {p : World → Prop} {w : World} (h : G.all_ w) (hp : p w) : (G.add i p).all_ w := fun j => ⟨h j, fun _ => hp⟩
theorem Facts.all_weak {G : Facts} {i : Nat} {p : World → Prop} {w : World} (h : (G.add i p).all_ w) : G.all_ w := fun j => (h j).1
def fixedUpon (w : World) (v : Value) : Result Next → Prop
  | .ok (.value u) w' => w' = w ∧ u = v
  | .ok .skip w' => w' = w ∧ v = undef
  | _ => False
def looseUpon (P : Program) (w : World) (R : Value → World → Prop) : Result Next → Prop
  | .ok (.value u) w' => Grows w w' ∧ R u w'
  | .ok .skip w' => Grows w w' ∧ R undef w'
  | .ok (.enter f args) w' => Grows w w' ∧ Calls P f args w' fun e w'' => ∃ v, e = .returned v ∧ Grows w' w'' ∧ R v w''
  | _ => False
def fixedAt (P : Program) (o : Oper) (a : Act) (w : World) (v : Value) : Prop := fixedUpon w v ((execOp a.eval o).run P w)
def looseAt (P : Program) (o : Oper) (a : Act) (w : World) (R : Value → World → Prop) : Prop := looseUpon P w R ((execOp a.eval o).run P w)
theorem fixed_same {o : Oper} {a : Act} {w : World} {u v : Value} (h1 : fixedAt P o a w u) (h2 : fixedAt P o a w v) : u = v := by
  unfold fixedAt at *
  generalize (execOp a.eval o).run P w = r at *
  cases r with
  | ok n w' =>
    cases n <;> simp only [fixedUpon] at h1 h2
    case value x => rw [← h1.2, ← h2.2]
    case skip => rw [h1.2, h2.2]
  | halt x w' => simp only [fixedUpon] at h1
theorem calls_some {f : FuncId} {args : Array Value} {w : World} {R : Ending → World → Prop} (h : Calls P f args w R) : ∃ e w', R e w' := by
  obtain ⟨e, w', _, hR, _⟩ := h []
  exact ⟨e, w', hR⟩
theorem loose_some {o : Oper} {a : Act} {w : World} {R : Value → World → Prop} (h : looseAt P o a w R) : ∃ v w', Grows w w' ∧ R v w' := by
  unfold looseAt at h
  generalize (execOp a.eval o).run P w = r at *
  cases r with
  | ok n w' =>
    cases n <;> simp only [looseUpon] at h
    case value x => exact ⟨x, w', h⟩
    case skip => exact ⟨undef, w', h⟩
    case enter f args =>
      obtain ⟨_, w'', v, _, hg, hr⟩ := calls_some h.2
      exact ⟨v, w'', h.1.of_below hg, hr⟩
  | halt x w' => simp only [looseUpon] at h
abbrev Loose := Nat → Option (Value → World → Prop)
def Loose.lasts (Rs : Loose) : Prop := ∀ i R, Rs i = some R → ∀ v w w', R v w → Grows w w' → R v w'
variable {Rs : Loose} {C : World → Prop}
def wpLoose (P : Program) (ops : Array Oper) (Rs : Loose) (C : World → Prop) (Q : Act → World → Prop) : Nat → List Oper → Facts → Act → Prop
  | _, [], G, a => ∀ w, C w → G.all_ w → Q a w
  | k, o :: rest, G, a =>
    if Region.wanted o (yielded ops a.tmps) = true then
      match Rs k with
      | none => ∃ v, (∀ w, C w → G.for_ ops k w → fixedAt P o a w v) ∧ wpLoose P ops Rs C Q (k + 1) rest G (a.put o.dst v)
      | some R => (∀ w, C w → G.for_ ops k w → looseAt P o a w R) ∧ ∀ v, (∃ w, C w ∧ R v w) → wpLoose P ops Rs C Q (k + 1) rest (G.add k (R v)) (a.put o.dst v)
    else wpLoose P ops Rs C Q (k + 1) rest G (a.put o.dst undef)
def lOp (P : Program) (ops : Array Oper) (Rs : Loose) (C : World → Prop) (i : Nat) (K : Facts → Act → Prop) (G : Facts) (a : Act) : Prop :=
  match ops[i]? with
  | none => K G a
  | some o =>
    if Region.wanted o (yielded ops a.tmps) = true then
      match Rs i with
      | none => ∃ v, (∀ w, C w → G.for_ ops i w → fixedAt P o a w v) ∧ K G (a.put o.dst v)
      | some R => (∀ w, C w → G.for_ ops i w → looseAt P o a w R) ∧ ∀ v, (∃ w, C w ∧ R v w) → K (G.add i (R v)) (a.put o.dst v)
    else K G (a.put o.dst undef)
def inh (C : World → Prop) (G : Facts) : Prop := ∃ w, C w ∧ G.all_ w
theorem inh_weak {G : Facts} {i : Nat} {p : World → Prop} (h : inh C (G.add i p)) : inh C G := let ⟨w, hc, hg⟩ := h; ⟨w, hc, Facts.all_weak hg⟩
def wpAnyL (P : Program) (ops : Array Oper) (Rs : Loose) (C : World → Prop) (Q : Act → World → Prop) : Nat → Array Bool → Facts → Act → Prop
  | 0, listed, G, a => inh C G → Region.ready .any ops listed = [] ∧ ∀ w, C w → G.all_ w → Q a w
  | fuel + 1, listed, G, a => inh C G →
    (Region.ready .any ops listed = [] → ∀ w, C w → G.all_ w → Q a w) ∧
    ∀ i ∈ Region.ready .any ops listed, lOp P ops Rs C i (wpAnyL P ops Rs C Q fuel (listed.setIfInBounds i true)) G a
theorem wpAnyL_void {Q : Act → World → Prop} {G : Facts} (h : ¬ inh C G) : ∀ (fuel : Nat) (listed : Array Bool) (a : Act), wpAnyL P ops Rs C Q fuel listed G a
  | 0, _, _ => fun hi => absurd hi h
  | _ + 1, _, _ => fun hi => absurd hi h
theorem lOp_mono {i : Nat} {G : Facts} {a : Act} {K K' : Facts → Act → Prop} (h : ∀ G a, K G a → K' G a) (hh : lOp P ops Rs C i K G a) : lOp P ops Rs C i K' G a := by
  unfold lOp at *
  split
  · exact h _ _ (by simpa [*] using hh)
  · rename_i o ho
    simp only [ho] at hh
    split
    · rename_i hw
      simp only [hw, if_true] at hh
      cases hr : Rs i with
      | none => simp only [hr] at hh ⊢; obtain ⟨v, h1, h2⟩ := hh; exact ⟨v, h1, h _ _ h2⟩
      | some R => simp only [hr] at hh ⊢; exact ⟨hh.1, fun v hv => h _ _ (hh.2 v hv)⟩
    · rename_i hw; rw [if_neg hw] at hh; exact h _ _ hh
theorem wpAny_of_loose {Q : Act → World → Prop} {Q' : Exit → Act → World → Prop} (hQ : ∀ a w, Q a w → Q' .normal a w) (hC : ∀ w w', C w → Grows w w' → C w') (hR : Rs.lasts) :
    ∀ (fuel : Nat) (listed : Array Bool) (G : Facts) (a : Act) (w : World), C w → G.all_ w → G.lasts → wpAnyL P ops Rs C Q fuel listed G a → wpAny P .any ops Q' fuel listed a w
  | 0, _, _, _, w, hc, hg, _, h => let h' := h ⟨w, hc, hg⟩; ⟨h'.1, hQ _ _ (h'.2 w hc hg)⟩
  | fuel + 1, listed, G, a, w, hc, hg, hl, h => by
    have h' := h ⟨w, hc, hg⟩
    refine ⟨fun h0 => hQ _ _ (h'.1 h0 w hc hg), fun i hi => ?_⟩
    have h2 := h'.2 i hi
    have next : ∀ G' a' w', C w' → G'.all_ w' → G'.lasts → wpAnyL P ops Rs C Q fuel (listed.setIfInBounds i true) G' a' → wpAny P .any ops Q' fuel (listed.setIfInBounds i true) a' w' :=
      fun G' a' w' h1 h2 h3 h4 => wpAny_of_loose hQ hC hR fuel _ G' a' w' h1 h2 h3 h4
    generalize wpAnyL P ops Rs C Q fuel (listed.setIfInBounds i true) = K at *
    unfold lOp at h2
    unfold wpOp
    split
    · rename_i ho; simp only [ho] at h2; exact next _ _ _ hc hg hl h2
    · rename_i o ho
      simp only [ho] at h2
      split
      · rename_i hw
        simp only [hw, if_true] at h2
        refine .inl ?_
        cases hr : Rs i with
        | none =>
          simp only [hr] at h2
          obtain ⟨v, h3, h4⟩ := h2
          have h5 := h3 w hc (Facts.for_of_all hg i)
          unfold fixedAt at h5
          unfold Oper.wp
          generalize (execOp a.eval o).run P w = r at *
          cases r with
          | ok n w' =>
            cases n <;> simp only [fixedUpon] at h5 <;> simp only [Oper.upon]
            case value u => obtain ⟨e1, e2⟩ := h5; rw [e1, e2]; exact next _ _ _ hc hg hl h4
            case skip => obtain ⟨e1, e2⟩ := h5; rw [e1, ← e2]; exact next _ _ _ hc hg hl h4
          | halt x w' => simp only [fixedUpon] at h5
        | some R =>
          simp only [hr] at h2
          obtain ⟨h3, h4⟩ := h2
          have h5 := h3 w hc (Facts.for_of_all hg i)
          have go : ∀ u w', Grows w w' → R u w' → wpAny P .any ops Q' fuel (listed.setIfInBounds i true) (a.put o.dst u) w' := fun u w' hgr hru =>
            next _ _ _ (hC _ _ hc hgr) (Facts.all_add (fun j => hl j _ _ (hg j) hgr) hru) (Facts.lasts_add hl (hR i R hr u)) (h4 u ⟨w', hC _ _ hc hgr, hru⟩)
          unfold looseAt at h5
          unfold Oper.wp
          generalize (execOp a.eval o).run P w = r at *
          cases r with
          | ok n w' =>
            cases n <;> simp only [looseUpon] at h5 <;> simp only [Oper.upon]
            case value u => exact go u w' h5.1 h5.2
            case skip => exact go undef w' h5.1 h5.2
            case enter f args => exact h5.2.mono fun e w'' ⟨v, he, hg2, hr2⟩ => by subst he; exact go v w'' (h5.1.of_below hg2) hr2
          | halt x w' => simp only [looseUpon] at h5
      · rename_i hw; rw [if_neg hw] at h2; exact next _ _ _ hc hg hl h2
def PendF (P : Program) (ops : Array Oper) (Rs : Loose) (C : World → Prop) (k : Nat) (o : Oper) (v : Value) (G : Facts) (a : Act) : Prop :=
  (Region.wanted o (yielded ops a.tmps) = true ∧ Rs k = none ∧ ∀ w, C w → G.for_ ops k w → fixedAt P o a w v) ∨ (Region.wanted o (yielded ops a.tmps) = false ∧ v = undef)
def PendL (P : Program) (ops : Array Oper) (C : World → Prop) (k : Nat) (o : Oper) (R : Value → World → Prop) (G : Facts) (a : Act) : Prop :=
  Region.wanted o (yielded ops a.tmps) = true ∧ ∀ w, C w → G.for_ ops k w → looseAt P o a w R
theorem fixedAt_eval {o : Oper} {a a' : Act} {w : World} {v : Value} (h : fixedAt P o a w v) (e : execOp a'.eval o = execOp a.eval o) : fixedAt P o a' w v := by unfold fixedAt at *; rw [e]; exact h
theorem looseAt_eval {o : Oper} {a a' : Act} {w : World} {R : Value → World → Prop} (h : looseAt P o a w R) (e : execOp a'.eval o = execOp a.eval o) : looseAt P o a' w R := by unfold looseAt at *; rw [e]; exact h
theorem PendF.put {k : Nat} {o oj : Oper} {v : Value} {G : Facts} {a : Act} (hp : PendF P ops Rs C k o v G a) (hap : o.apart ops oj = true) (hs : ∀ cs b, o.op ≠ .select cs b) (u : Value) : PendF P ops Rs C k o v G (a.put oj.dst u) := by
  obtain ⟨_, _, h3⟩ := Oper.apart_spec hap
  have e1 := execOp_put (ops := ops) o hs a oj.dst u h3
  have e2 := wanted_put (ops := ops) o a oj.dst u h3
  unfold PendF at *
  rw [e2]
  exact hp.imp (fun ⟨x, z, y⟩ => ⟨x, z, fun w hc hg => fixedAt_eval (y w hc hg) e1⟩) id
theorem PendF.add {k i : Nat} {o : Oper} {v : Value} {G : Facts} {a : Act} {p : World → Prop} (hp : PendF P ops Rs C k o v G a) : PendF P ops Rs C k o v (G.add i p) a :=
  hp.imp (fun ⟨x, z, y⟩ => ⟨x, z, fun w hc hg => y w hc (Facts.for_weak hg)⟩) id
theorem PendL.put {k : Nat} {o oj : Oper} {R : Value → World → Prop} {G : Facts} {a : Act} (hp : PendL P ops C k o R G a) (hap : o.apart ops oj = true) (hs : ∀ cs b, o.op ≠ .select cs b) (u : Value) : PendL P ops C k o R G (a.put oj.dst u) := by
  obtain ⟨_, _, h3⟩ := Oper.apart_spec hap
  have e1 := execOp_put (ops := ops) o hs a oj.dst u h3
  have e2 := wanted_put (ops := ops) o a oj.dst u h3
  unfold PendL at *
  rw [e2]
  exact ⟨hp.1, fun w hc hg => looseAt_eval (hp.2 w hc hg) e1⟩
theorem PendL.add {k i : Nat} {o : Oper} {R : Value → World → Prop} {G : Facts} {a : Act} {p : World → Prop} (hp : PendL P ops C k o R G a) : PendL P ops C k o R (G.add i p) a :=
  ⟨hp.1, fun w hc hg => hp.2 w hc (Facts.for_weak hg)⟩
theorem PendF.lOp {k : Nat} {o : Oper} {v : Value} {G : Facts} {a : Act} {K : Facts → Act → Prop} (ho : ops[k]? = some o) (hp : PendF P ops Rs C k o v G a) (h : K G (a.put o.dst v)) : lOp P ops Rs C k K G a := by
  unfold Proofs.YtoaklmceejeblaaGreat.lOp
  simp only [ho]
  rcases hp with ⟨hw, hr, hv⟩ | ⟨hw, rfl⟩
  · rw [if_pos hw]; simp only [hr]; exact ⟨v, hv, h⟩
  · rw [if_neg (by rw [hw]; exact Bool.false_ne_true)]; exact h
theorem PendL.lOp {k : Nat} {o : Oper} {R : Value → World → Prop} {G : Facts} {a : Act} {K : Facts → Act → Prop} (ho : ops[k]? = some o) (hr : Rs k = some R) (hp : PendL P ops C k o R G a)
    (h : ∀ v, (∃ w, C w ∧ R v w) → K (G.add k (R v)) (a.put o.dst v)) : lOp P ops Rs C k K G a := by
  unfold Proofs.YtoaklmceejeblaaGreat.lOp
  simp only [ho, hr]
  rw [if_pos hp.1]
  exact ⟨hp.2, h⟩
theorem lOp_putF {k j : Nat} {o oj : Oper} {v : Value} {G : Facts} {a : Act} {K : Facts → Act → Prop} (hj : ops[j]? = some oj) (hap : o.apart ops oj = true)
    (hs : ∀ cs b, o.op ≠ .select cs b) (hsj : ∀ cs b, oj.op ≠ .select cs b) (hp : PendF P ops Rs C k o v G a) (h : lOp P ops Rs C j K G (a.put o.dst v)) :
    lOp P ops Rs C j (fun G' a' => PendF P ops Rs C k o v G' a' ∧ K G' (a'.put o.dst v)) G a := by
  obtain ⟨h1, h2, _⟩ := Oper.apart_spec hap
  have e1 := execOp_put (ops := ops) oj hsj a o.dst v h1
  have e2 := wanted_put (ops := ops) oj a o.dst v h1
  have ec : ∀ u, (a.put o.dst v).put oj.dst u = (a.put oj.dst u).put o.dst v := fun u => Act.put_comm a v u h2
  unfold lOp at *
  simp only [hj] at *
  rw [e2] at h
  split
  · rename_i hw
    rw [if_pos hw] at h
    cases hr : Rs j with
    | none =>
      simp only [hr] at h ⊢
      obtain ⟨u, h3, h4⟩ := h
      exact ⟨u, fun w hc hg => fixedAt_eval (h3 w hc hg) e1.symm, hp.put hap hs u, by rw [← ec]; exact h4⟩
    | some R =>
      simp only [hr] at h ⊢
      exact ⟨fun w hc hg => looseAt_eval (h.1 w hc hg) e1.symm, fun u hu => ⟨(hp.put hap hs u).add, by rw [← ec]; exact h.2 u hu⟩⟩
  · rename_i hw
    rw [if_neg hw] at h
    exact ⟨hp.put hap hs undef, by rw [← ec]; exact h⟩
theorem lOp_putL {k j fuel : Nat} {L : Array Bool} {Q : Act → World → Prop} {o oj : Oper} {R : Value → World → Prop} {G : Facts} {a : Act} (hC : ∀ w w', C w → Grows w w' → C w') (hj : ops[j]? = some oj) (hap : o.apart ops oj = true)
    (hs : ∀ cs b, o.op ≠ .select cs b) (hsj : ∀ cs b, oj.op ≠ .select cs b) (hl : G.lasts) (hwt : waits ops j k = false)
    (hi : inh C G) (hp : PendL P ops C k o R G a) (h : ∀ v, (∃ w, C w ∧ R v w) → inh C (G.add k (R v)) → lOp P ops Rs C j (wpAnyL P ops Rs C Q fuel L) (G.add k (R v)) (a.put o.dst v)) :
    lOp P ops Rs C j (fun G' a' => PendL P ops C k o R G' a' ∧ ∀ v, (∃ w, C w ∧ R v w) → wpAnyL P ops Rs C Q fuel L (G'.add k (R v)) (a'.put o.dst v)) G a := by
  obtain ⟨h1, h2, _⟩ := Oper.apart_spec hap
  have e1 := fun v => execOp_put (ops := ops) oj hsj a o.dst v h1
  have e2 := fun v => wanted_put (ops := ops) oj a o.dst v h1
  have ec : ∀ v u, (a.put o.dst v).put oj.dst u = (a.put oj.dst u).put o.dst v := fun v u => Act.put_comm a v u h2
  obtain ⟨w0, hc0, hg0⟩ := hi
  obtain ⟨v0, w1, hgr, hr0⟩ := loose_some (hp.2 w0 hc0 (Facts.for_of_all hg0 k))
  have hi0 : inh C (G.add k (R v0)) := ⟨w1, hC _ _ hc0 hgr, Facts.all_add (fun j => hl j _ _ (hg0 j) hgr) hr0⟩
  have hv0 : ∃ w, C w ∧ R v0 w := ⟨w1, hC _ _ hc0 hgr, hr0⟩
  have H := h v0 hv0 hi0
  unfold lOp at *
  simp only [hj] at *
  rw [e2] at H
  split
  · rename_i hw
    rw [if_pos hw] at H
    cases hr : Rs j with
    | none =>
      simp only [hr] at H ⊢
      obtain ⟨u, h3, _⟩ := H
      have h5 : ∀ w, C w → G.for_ ops j w → fixedAt P oj a w u := fun w hc hg => fixedAt_eval (h3 w hc (Facts.for_add hg hwt)) (e1 v0).symm
      refine ⟨u, h5, hp.put hap hs u, fun v hv => ?_⟩
      by_cases hiv : inh C (G.add k (R v))
      · have Hv := h v hv hiv
        rw [e2, if_pos hw] at Hv
        simp only [hr] at Hv
        obtain ⟨u', h6, h7⟩ := Hv
        have h8 : fixedAt P oj a w0 u' := fixedAt_eval (h6 w0 hc0 (Facts.for_add (Facts.for_of_all hg0 j) hwt)) (e1 v).symm
        have eu := fixed_same h8 (h5 w0 hc0 (Facts.for_of_all hg0 j))
        subst eu
        rw [← ec]; exact h7
      · exact wpAnyL_void hiv _ _ _
    | some Rj =>
      simp only [hr] at H ⊢
      refine ⟨fun w hc hg => looseAt_eval (H.1 w hc (Facts.for_add hg hwt)) (e1 v0).symm, fun u hu => ⟨(hp.put hap hs u).add, fun v hv => ?_⟩⟩
      by_cases hiv : inh C (G.add k (R v))
      · have Hv := h v hv hiv
        rw [e2, if_pos hw] at Hv
        simp only [hr] at Hv
        rw [← ec, Facts.add_comm]; exact Hv.2 u hu
      · rw [Facts.add_comm]
        exact wpAnyL_void (fun hx => hiv (inh_weak hx)) _ _ _
  · rename_i hw
    refine ⟨hp.put hap hs undef, fun v hv => ?_⟩
    by_cases hiv : inh C (G.add k (R v))
    · have Hv := h v hv hiv
      rw [e2, if_neg hw] at Hv
      rw [← ec]; exact Hv
    · exact wpAnyL_void hiv _ _ _
theorem waits_of_ready {i j : Nat} {listed : Array Bool} (hj : j ∈ Region.ready .any ops listed) (hi : listed.getD i true = false) : waits ops j i = false := by
  obtain ⟨_, o, ho, hall⟩ := mem_ready.1 hj
  unfold waits
  rw [ho]
  simp only [Array.any_eq_false']
  intro e he
  simp only [Bool.and_eq_true, beq_iff_eq, not_and]
  intro hb heq
  have h1 := hall e he hb
  rw [heq] at h1
  rcases Nat.lt_or_ge i listed.size with h' | h'
  · simp [h'] at hi h1; rw [hi] at h1; cases h1
  · simp [Array.getElem?_eq_none h'] at h1
theorem wpAnyL_firstF {Q : Act → World → Prop} {k : Nat} {o : Oper} {v : Value} (hk : ops[k]? = some o) (hsel : ∀ (j : Nat) (o : Oper) cs b, ops[j]? = some o → o.op ≠ .select cs b) :
    ∀ (fuel : Nat) (listed : Array Bool) (G : Facts) (a : Act),
      (∀ j oj, ops[j]? = some oj → j ≠ k → listed.getD j true = false → (∀ e ∈ oj.after, Region.binds .any e = true → e.on ≠ k) → o.apart ops oj = true) →
      k ∈ Region.ready .any ops listed → PendF P ops Rs C k o v G a →
      wpAnyL P ops Rs C Q fuel (listed.setIfInBounds k true) G (a.put o.dst v) → wpAnyL P ops Rs C Q (fuel + 1) listed G a := by
  intro fuel
  induction fuel with
  | zero =>
    intro listed G a _ hrd hy H hinh
    refine ⟨fun h => (by rw [h] at hrd; cases hrd), fun j hj => ?_⟩
    by_cases hji : j = k
    · subst hji; exact hy.lOp hk H
    · have := ready_mono hj hji
      rw [(H hinh).1] at this
      cases this
  | succ fuel ih =>
    intro listed G a hfree hrd hy H hinh
    refine ⟨fun h => (by rw [h] at hrd; cases hrd), fun j hj => ?_⟩
    by_cases hji : j = k
    · subst hji; exact hy.lOp hk H
    · have h1 := (H hinh).2 j (ready_mono hj hji)
      obtain ⟨hjun, oj, hoj, hall⟩ := mem_ready.1 hj
      have hnot : ∀ e ∈ oj.after, Region.binds .any e = true → e.on ≠ k := fun e he hb heq => by
        have h1 := hall e he hb
        have h0 := (mem_ready.1 hrd).1
        rw [heq] at h1
        rcases Nat.lt_or_ge k listed.size with h' | h'
        · simp [h'] at h0 h1; rw [h0] at h1; cases h1
        · simp [Array.getElem?_eq_none h'] at h1
      have h2 := lOp_putF hoj (hfree j oj hoj hji hjun hnot) (fun cs b => hsel k o cs b hk) (fun cs b => hsel j oj cs b hoj) hy h1
      have hfree' : ∀ i oi, ops[i]? = some oi → i ≠ k → (listed.setIfInBounds j true).getD i true = false →
          (∀ e ∈ oi.after, Region.binds .any e = true → e.on ≠ k) → o.apart ops oi = true := fun i oi hi hik hun hno => by
        refine hfree i oi hi hik ?_ hno
        by_cases hji2 : j = i
        · subst hji2; exact hjun
        · rw [getD_set_ne true hji2] at hun; exact hun
      refine lOp_mono (fun G' a' h3 => ih (listed.setIfInBounds j true) G' a' hfree' (ready_mono hrd (Ne.symm hji)) h3.1 ?_) h2
      rw [Array.setIfInBounds_comm _ _ hji]
      exact h3.2
theorem wpAnyL_firstL {Q : Act → World → Prop} {k : Nat} {o : Oper} {R : Value → World → Prop} (hC : ∀ w w', C w → Grows w w' → C w') (hRs : Rs.lasts) (hk : ops[k]? = some o) (hr : Rs k = some R)
    (hsel : ∀ (j : Nat) (o : Oper) cs b, ops[j]? = some o → o.op ≠ .select cs b) :
    ∀ (fuel : Nat) (listed : Array Bool) (G : Facts) (a : Act), G.lasts →
      (∀ j oj, ops[j]? = some oj → j ≠ k → listed.getD j true = false → (∀ e ∈ oj.after, Region.binds .any e = true → e.on ≠ k) → o.apart ops oj = true) →
      k ∈ Region.ready .any ops listed → PendL P ops C k o R G a →
      (∀ v, (∃ w, C w ∧ R v w) → wpAnyL P ops Rs C Q fuel (listed.setIfInBounds k true) (G.add k (R v)) (a.put o.dst v)) → wpAnyL P ops Rs C Q (fuel + 1) listed G a := by
  intro fuel
  induction fuel with
  | zero =>
    intro listed G a hl _ hrd hy H hinh
    refine ⟨fun h => (by rw [h] at hrd; cases hrd), fun j hj => ?_⟩
    by_cases hji : j = k
    · subst hji; exact hy.lOp hk hr H
    · have h0 := ready_mono hj hji
      obtain ⟨w0, hc0, hg0⟩ := hinh
      obtain ⟨v0, w1, hgr, hr0⟩ := loose_some (hy.2 w0 hc0 (Facts.for_of_all hg0 k))
      have h1 := H v0 ⟨w1, hC _ _ hc0 hgr, hr0⟩ ⟨w1, hC _ _ hc0 hgr, Facts.all_add (fun j => hl j _ _ (hg0 j) hgr) hr0⟩
      rw [h1.1] at h0
      cases h0
  | succ fuel ih =>
    intro listed G a hl hfree hrd hy H hinh
    refine ⟨fun h => (by rw [h] at hrd; cases hrd), fun j hj => ?_⟩
    by_cases hji : j = k
    · subst hji; exact hy.lOp hk hr H
    · obtain ⟨hjun, oj, hoj, hall⟩ := mem_ready.1 hj
      have hwt := waits_of_ready hj (mem_ready.1 hrd).1
      have hnot : ∀ e ∈ oj.after, Region.binds .any e = true → e.on ≠ k := fun e he hb heq => by
        have h1 := hall e he hb
        have h0 := (mem_ready.1 hrd).1
        rw [heq] at h1
        rcases Nat.lt_or_ge k listed.size with h' | h'
        · simp [h'] at h0 h1; rw [h0] at h1; cases h1
        · simp [Array.getElem?_eq_none h'] at h1
      have h2 := lOp_putL (Rs := Rs) (Q := Q) (fuel := fuel) (L := (listed.setIfInBounds k true).setIfInBounds j true) hC hoj (hfree j oj hoj hji hjun hnot) (fun cs b => hsel k o cs b hk) (fun cs b => hsel j oj cs b hoj) hl hwt hinh hy
        (fun v hv hiv => (H v hv hiv).2 j (ready_mono hj hji))
      have hfree' : ∀ i oi, ops[i]? = some oi → i ≠ k → (listed.setIfInBounds j true).getD i true = false →
          (∀ e ∈ oi.after, Region.binds .any e = true → e.on ≠ k) → o.apart ops oi = true := fun i oi hi hik hun hno => by
        refine hfree i oi hi hik ?_ hno
        by_cases hji2 : j = i
        · subst hji2; exact hjun
        · rw [getD_set_ne true hji2] at hun; exact hun
      have h3 : lOp P ops Rs C j (fun G' a' => G'.lasts ∧ PendL P ops C k o R G' a' ∧ ∀ v, (∃ w, C w ∧ R v w) → wpAnyL P ops Rs C Q fuel ((listed.setIfInBounds k true).setIfInBounds j true) (G'.add k (R v)) (a'.put o.dst v)) G a := by
        unfold lOp at h2 ⊢
        simp only [hoj] at h2 ⊢
        split
        · rename_i hw
          rw [if_pos hw] at h2
          cases hrj : Rs j with
          | none => simp only [hrj] at h2 ⊢; obtain ⟨u, h4, h5⟩ := h2; exact ⟨u, h4, hl, h5⟩
          | some Rj => simp only [hrj] at h2 ⊢; exact ⟨h2.1, fun u hu => ⟨Facts.lasts_add hl (hRs j Rj hrj u), h2.2 u hu⟩⟩
        · rename_i hw; rw [if_neg hw] at h2; exact ⟨hl, h2⟩
      refine lOp_mono (fun G' a' h4 => ih (listed.setIfInBounds j true) G' a' h4.1 hfree' (ready_mono hrd (Ne.symm hji)) h4.2.1 ?_) h3
      rw [Array.setIfInBounds_comm _ _ hji]
      exact h4.2.2
theorem wpAnyL_lex {Q : Act → World → Prop} (hC : ∀ w w', C w → Grows w w' → C w') (hRs : Rs.lasts) (hs : Region.noSelect ops = true) : ∀ (l : List Oper) (k : Nat) (listed : Array Bool) (G : Facts) (a : Act), G.lasts → (∀ j, l[j]? = ops[k + j]?) →
    Region.lexFrom .any ops l.length k listed = true → wpLoose P ops Rs C Q k l G a → wpAnyL P ops Rs C Q l.length listed G a
  | [], _, _, _, _, _, _, hB, h => fun _ => ⟨by simpa [Region.lexFrom] using hB, h⟩
  | o :: l, k, listed, G, a, hl, hlk, hB, h => by
    have h0 : ops[k]? = some o := by simpa using (hlk 0).symm
    simp only [List.length_cons, Region.lexFrom, Bool.and_eq_true] at hB
    obtain ⟨⟨hr, hf⟩, hB'⟩ := hB
    have hlk' : ∀ j, l[j]? = ops[k + 1 + j]? := fun j => by have := hlk (j + 1); simpa [Nat.add_assoc, Nat.add_comm 1 j] using this
    have hrd : k ∈ Region.ready .any ops listed := by simpa using hr
    have hsel := Region.noSelect_spec hs
    have hfree := Region.free_spec h0 hf
    unfold wpLoose at h
    by_cases hw : Region.wanted o (yielded ops a.tmps) = true
    · rw [if_pos hw] at h
      cases hR : Rs k with
      | none =>
        simp only [hR] at h
        obtain ⟨v, h1, h2⟩ := h
        exact wpAnyL_firstF h0 hsel l.length listed G a hfree hrd (.inl ⟨hw, hR, h1⟩) (wpAnyL_lex hC hRs hs l (k + 1) _ _ _ hl hlk' hB' h2)
      | some R =>
        simp only [hR] at h
        exact wpAnyL_firstL hC hRs h0 hR hsel l.length listed G a hl hfree hrd ⟨hw, h.1⟩ (fun v hv => wpAnyL_lex hC hRs hs l (k + 1) _ _ _ (Facts.lasts_add hl (hRs k R hR v)) hlk' hB' (h.2 v hv))
    · rw [if_neg hw] at h
      have hwf : Region.wanted o (yielded ops a.tmps) = false := by simpa using hw
      exact wpAnyL_firstF h0 hsel l.length listed G a hfree hrd (.inr ⟨hwf, rfl⟩) (wpAnyL_lex hC hRs hs l (k + 1) _ _ _ hl hlk' hB' h)
theorem wp_region_loose {id : Nat} {Q : Exit → Act → World → Prop} {a : Act} {w : World} {l : List Oper} (Rs : Loose) (hm : P.follows .mixedOrders = true) (hB : Region.lexB .any l.toArray = true) (hRs : Rs.lasts)
    (h : wpLoose P l.toArray Rs (fun w' => Grows w w') (fun a' w' => Q .normal a' w') 0 l (fun _ _ => True) a) : (Code.region id l.toArray true).wp P Q a w := by
  simp only [Region.lexB, Bool.and_eq_true] at hB
  have hC : ∀ w1 w2, Grows w w1 → Grows w1 w2 → Grows w w2 := fun w1 w2 h1 h2 => h1.of_below h2
  have hl : Facts.lasts (fun _ _ => True) := fun _ _ _ _ _ => trivial
  have hd : Grows w { w with drawn := w.drawn + 1 } := ⟨rfl, rfl, rfl, Nat.le_refl _, fun _ _ => rfl⟩
  refine wp_region_any hm ?_
  have hL := wpAnyL_lex (P := P) (ops := l.toArray) (Rs := Rs) (C := fun w' => Grows w w') (Q := fun a' w' => Q .normal a' w') hC hRs hB.1 l 0 (Array.replicate l.toArray.size false) (fun _ _ => True) a hl (by simp) (by simpa using hB.2) h
  exact wpAny_of_loose (Q := fun a' w' => Q .normal a' w') (fun _ _ h => h) hC hRs l.length _ _ a _ hd (fun _ => trivial) hl hL
variable {Q : Act → World → Prop} {k : Nat} {o : Oper} {rest : List Oper} {G : Facts} {a : Act}
theorem loose_done (h : ∀ w, C w → G.all_ w → Q a w) : wpLoose P ops Rs C Q k [] G a := h
theorem loose_skip {a' : Act} (hw : Region.wanted o (yielded ops a.tmps) = false) (ha : a.put o.dst undef = a') (h : wpLoose P ops Rs C Q (k + 1) rest G a') : wpLoose P ops Rs C Q k (o :: rest) G a := by
  unfold wpLoose
  rw [if_neg (by rw [hw]; exact Bool.false_ne_true), ha]
  exact h
theorem loose_one {v : Value} {a' : Act} (hw : Region.wanted o (yielded ops a.tmps) = true) (hR : Rs k = none) (hv : ∀ w, C w → G.for_ ops k w → (execOp a.eval o).run P w = .ok (.value v) w) (ha : a.put o.dst v = a')
    (h : wpLoose P ops Rs C Q (k + 1) rest G a') : wpLoose P ops Rs C Q k (o :: rest) G a := by
  unfold wpLoose
  rw [if_pos hw]
  simp only [hR]
  subst ha
  exact ⟨v, fun w hc hg => by unfold fixedAt; rw [hv w hc hg]; exact ⟨rfl, rfl⟩, h⟩
theorem loose_call {R : Value → World → Prop} {f : FuncId} {args : Array Value} (hw : Region.wanted o (yielded ops a.tmps) = true) (hR : Rs k = some R) (he : ∀ w, (execOp a.eval o).run P w = .ok (.enter f args) w)
    (hc : ∀ w, C w → G.for_ ops k w → Calls P f args w fun e w' => ∃ v, e = .returned v ∧ Grows w w' ∧ R v w')
    (h : ∀ v, (∃ w, C w ∧ R v w) → ∃ a', a.put o.dst v = a' ∧ wpLoose P ops Rs C Q (k + 1) rest (G.add k (R v)) a') : wpLoose P ops Rs C Q k (o :: rest) G a := by
  unfold wpLoose
  rw [if_pos hw]
  simp only [hR]
  exact ⟨fun w h1 h2 => by unfold looseAt; rw [he w]; exact ⟨Below.refl _ _, hc w h1 h2⟩, fun v hv => by obtain ⟨a', ha, h6⟩ := h v hv; rw [ha]; exact h6⟩
theorem loose_new {R : Value → World → Prop} (hw : Region.wanted o (yielded ops a.tmps) = true) (hR : Rs k = some R) (hv : ∀ w, C w → G.for_ ops k w → ∃ v w', (execOp a.eval o).run P w = .ok (.value v) w' ∧ Grows w w' ∧ R v w')
    (h : ∀ v, (∃ w, C w ∧ R v w) → ∃ a', a.put o.dst v = a' ∧ wpLoose P ops Rs C Q (k + 1) rest (G.add k (R v)) a') : wpLoose P ops Rs C Q k (o :: rest) G a := by
  unfold wpLoose
  rw [if_pos hw]
  simp only [hR]
  exact ⟨fun w h1 h2 => by obtain ⟨v, w', h3, h4, h5⟩ := hv w h1 h2; unfold looseAt; rw [h3]; exact ⟨h4, h5⟩, fun v hv => by obtain ⟨a', ha, h6⟩ := h v hv; rw [ha]; exact h6⟩
end
end Go.Proofs.YtoaklmceejeblaaGreat
namespace Go.Proofs.YtoaklmceejeblaaGreat
open Go.RowKit
section
variable {P : Program} {ops : Array Oper} {Rs : Loose} {C : World → Prop}
theorem lOp_putLK {k j : Nat} {K : Facts → Act → Prop} (hK : ∀ G a, ¬ inh C G → K G a) {o oj : Oper} {R : Value → World → Prop} {G : Facts} {a : Act} (hC : ∀ w w', C w → Grows w w' → C w') (hj : ops[j]? = some oj) (hap : o.apart ops oj = true)
    (hs : ∀ cs b, o.op ≠ .select cs b) (hsj : ∀ cs b, oj.op ≠ .select cs b) (hl : G.lasts) (hwt : waits ops j k = false)
    (hi : inh C G) (hp : PendL P ops C k o R G a) (h : ∀ v, (∃ w, C w ∧ R v w) → inh C (G.add k (R v)) → lOp P ops Rs C j K (G.add k (R v)) (a.put o.dst v)) :
    lOp P ops Rs C j (fun G' a' => PendL P ops C k o R G' a' ∧ ∀ v, (∃ w, C w ∧ R v w) → K (G'.add k (R v)) (a'.put o.dst v)) G a := by
  obtain ⟨h1, h2, _⟩ := Oper.apart_spec hap
  have e1 := fun v => execOp_put (ops := ops) oj hsj a o.dst v h1
  have e2 := fun v => wanted_put (ops := ops) oj a o.dst v h1
  have ec : ∀ v u, (a.put o.dst v).put oj.dst u = (a.put oj.dst u).put o.dst v := fun v u => Act.put_comm a v u h2
  obtain ⟨w0, hc0, hg0⟩ := hi
  obtain ⟨v0, w1, hgr, hr0⟩ := loose_some (hp.2 w0 hc0 (Facts.for_of_all hg0 k))
  have hi0 : inh C (G.add k (R v0)) := ⟨w1, hC _ _ hc0 hgr, Facts.all_add (fun j => hl j _ _ (hg0 j) hgr) hr0⟩
  have hv0 : ∃ w, C w ∧ R v0 w := ⟨w1, hC _ _ hc0 hgr, hr0⟩
  have H := h v0 hv0 hi0
  unfold lOp at *
  simp only [hj] at *
  rw [e2] at H
  split
  · rename_i hw
    rw [if_pos hw] at H
    cases hr : Rs j with
    | none =>
      simp only [hr] at H ⊢
      obtain ⟨u, h3, _⟩ := H
      have h5 : ∀ w, C w → G.for_ ops j w → fixedAt P oj a w u := fun w hc hg => fixedAt_eval (h3 w hc (Facts.for_add hg hwt)) (e1 v0).symm
      refine ⟨u, h5, hp.put hap hs u, fun v hv => ?_⟩
      by_cases hiv : inh C (G.add k (R v))
      · have Hv := h v hv hiv
        rw [e2, if_pos hw] at Hv
        simp only [hr] at Hv
        obtain ⟨u', h6, h7⟩ := Hv
        have h8 : fixedAt P oj a w0 u' := fixedAt_eval (h6 w0 hc0 (Facts.for_add (Facts.for_of_all hg0 j) hwt)) (e1 v).symm
        have eu := fixed_same h8 (h5 w0 hc0 (Facts.for_of_all hg0 j))
        subst eu
        rw [← ec]; exact h7
      · exact hK _ _ hiv
    | some Rj =>
      simp only [hr] at H ⊢
      refine ⟨fun w hc hg => looseAt_eval (H.1 w hc (Facts.for_add hg hwt)) (e1 v0).symm, fun u hu => ⟨(hp.put hap hs u).add, fun v hv => ?_⟩⟩
      by_cases hiv : inh C (G.add k (R v))
      · have Hv := h v hv hiv
        rw [e2, if_pos hw] at Hv
        simp only [hr] at Hv
        rw [← ec, Facts.add_comm]; exact Hv.2 u hu
      · rw [Facts.add_comm]
        exact hK _ _ (fun hx => hiv (inh_weak hx))
  · rename_i hw
    refine ⟨hp.put hap hs undef, fun v hv => ?_⟩
    by_cases hiv : inh C (G.add k (R v))
    · have Hv := h v hv hiv
      rw [e2, if_neg hw] at Hv
      rw [← ec]; exact Hv
    · exact hK _ _ hiv
def wpAnyT (P : Program) (ops : Array Oper) (Rs : Loose) (C : World → Prop) (Q : Act → World → Prop) (n g : Nat) : Nat → Array Bool → Facts → Act → Prop
  | 0, listed, G, a => inh C G → Region.seqB .any ops g n listed = true ∧ ∀ w, C w → G.all_ w → Q a w
  | fuel + 1, listed, G, a => inh C G → Region.ready .any ops listed ≠ [] ∧ ∀ i ∈ Region.ready .any ops listed, i < n ∧ lOp P ops Rs C i (wpAnyT P ops Rs C Q n g fuel (listed.setIfInBounds i true)) G a
theorem wpAnyT_void {Q : Act → World → Prop} {n g : Nat} {G : Facts} (h : ¬ inh C G) : ∀ (fuel : Nat) (listed : Array Bool) (a : Act), wpAnyT P ops Rs C Q n g fuel listed G a
  | 0, _, _ => fun hi => absurd hi h
  | _ + 1, _, _ => fun hi => absurd hi h
theorem wpAny_of_looseT {Q : Act → World → Prop} {Q' : Exit → Act → World → Prop} {n g : Nat} (hQ : ∀ listed a w, Region.seqB .any ops g n listed = true → Q a w → wpAny P .any ops Q' g listed a w) (hC : ∀ w w', C w → Grows w w' → C w') (hR : Rs.lasts) :
    ∀ (fuel : Nat) (listed : Array Bool) (G : Facts) (a : Act) (w : World), C w → G.all_ w → G.lasts → wpAnyT P ops Rs C Q n g fuel listed G a → wpAny P .any ops Q' (fuel + g) listed a w
  | 0, _, _, _, w, hc, hg, _, h => by
    rw [Nat.zero_add]
    have h' := h ⟨w, hc, hg⟩
    exact hQ _ _ _ h'.1 (h'.2 w hc hg)
  | fuel + 1, listed, G, a, w, hc, hg, hl, h => by
    have h' := h ⟨w, hc, hg⟩
    rw [show fuel + 1 + g = (fuel + g) + 1 by omega]
    refine ⟨fun h0 => absurd h0 h'.1, fun i hi => ?_⟩
    have h2 := (h'.2 i hi).2
    have next : ∀ G' a' w', C w' → G'.all_ w' → G'.lasts → wpAnyT P ops Rs C Q n g fuel (listed.setIfInBounds i true) G' a' → wpAny P .any ops Q' (fuel + g) (listed.setIfInBounds i true) a' w' :=
      fun G' a' w' h1 h2 h3 h4 => wpAny_of_looseT hQ hC hR fuel _ G' a' w' h1 h2 h3 h4
    generalize wpAnyT P ops Rs C Q n g fuel (listed.setIfInBounds i true) = K at *
    unfold lOp at h2
    unfold wpOp
    split
    · rename_i ho; simp only [ho] at h2; exact next _ _ _ hc hg hl h2
    · rename_i o ho
      simp only [ho] at h2
      split
      · rename_i hw
        simp only [hw, if_true] at h2
        refine .inl ?_
        cases hr : Rs i with
        | none =>
          simp only [hr] at h2
          obtain ⟨v, h3, h4⟩ := h2
          have h5 := h3 w hc (Facts.for_of_all hg i)
          unfold fixedAt at h5
          unfold Oper.wp
          generalize (execOp a.eval o).run P w = r at *
          cases r with
          | ok n w' =>
            cases n <;> simp only [fixedUpon] at h5 <;> simp only [Oper.upon]
            case value u => obtain ⟨e1, e2⟩ := h5; rw [e1, e2]; exact next _ _ _ hc hg hl h4
            case skip => obtain ⟨e1, e2⟩ := h5; rw [e1, ← e2]; exact next _ _ _ hc hg hl h4
          | halt x w' => simp only [fixedUpon] at h5
        | some R =>
          simp only [hr] at h2
          obtain ⟨h3, h4⟩ := h2
          have h5 := h3 w hc (Facts.for_of_all hg i)
          have go : ∀ u w', Grows w w' → R u w' → wpAny P .any ops Q' (fuel + g) (listed.setIfInBounds i true) (a.put o.dst u) w' := fun u w' hgr hru =>
            next _ _ _ (hC _ _ hc hgr) (Facts.all_add (fun j => hl j _ _ (hg j) hgr) hru) (Facts.lasts_add hl (hR i R hr u)) (h4 u ⟨w', hC _ _ hc hgr, hru⟩)
          unfold looseAt at h5
          unfold Oper.wp
          generalize (execOp a.eval o).run P w = r at *
          cases r with
          | ok n w' =>
            cases n <;> simp only [looseUpon] at h5 <;> simp only [Oper.upon]
            case value u => exact go u w' h5.1 h5.2
            case skip => exact go undef w' h5.1 h5.2
            case enter f args => exact h5.2.mono fun e w'' ⟨v, he, hg2, hr2⟩ => by subst he; exact go v w'' (h5.1.of_below hg2) hr2
          | halt x w' => simp only [looseUpon] at h5
      · rename_i hw; rw [if_neg hw] at h2; exact next _ _ _ hc hg hl h2
theorem wpAnyT_firstF {Q : Act → World → Prop} {n g k : Nat} {o : Oper} {v : Value} (hs : Region.sinkB .any ops n = true) (hc : Region.chainB .any ops n = true) (hn : n < ops.size) (hkn : k < n) (hk : ops[k]? = some o) (hsel : ∀ (j : Nat) (o : Oper) cs b, ops[j]? = some o → o.op ≠ .select cs b) :
    ∀ (fuel : Nat) (listed : Array Bool) (G : Facts) (a : Act), HeadInv .any ops n listed →
      (∀ j oj, ops[j]? = some oj → j ≠ k → listed.getD j true = false → (∀ e ∈ oj.after, Region.binds .any e = true → e.on ≠ k) → o.apart ops oj = true) →
      k ∈ Region.ready .any ops listed → PendF P ops Rs C k o v G a →
      wpAnyT P ops Rs C Q n g fuel (listed.setIfInBounds k true) G (a.put o.dst v) → wpAnyT P ops Rs C Q n g (fuel + 1) listed G a := by
  intro fuel
  induction fuel with
  | zero =>
    intro listed G a inv _ hrd hy H hinh
    refine ⟨fun h => (by rw [h] at hrd; cases hrd), fun j hj => ?_⟩
    have hjn : j < n := by
      rcases Nat.lt_or_ge j n with h | h
      · exact h
      · exact absurd hj (tail_waits hs hc hn inv _ k rfl hkn (mem_ready.1 hrd).1 j h)
    refine ⟨hjn, ?_⟩
    by_cases hji : j = k
    · subst hji; exact hy.lOp hk H
    · have := seqB_ready (H hinh).1 j (ready_mono hj hji)
      omega
  | succ fuel ih =>
    intro listed G a inv hfree hrd hy H hinh
    refine ⟨fun h => (by rw [h] at hrd; cases hrd), fun j hj => ?_⟩
    have hjn : j < n := by
      rcases Nat.lt_or_ge j n with h | h
      · exact h
      · exact absurd hj (tail_waits hs hc hn inv _ k rfl hkn (mem_ready.1 hrd).1 j h)
    refine ⟨hjn, ?_⟩
    by_cases hji : j = k
    · subst hji; exact hy.lOp hk H
    · have h1 := ((H hinh).2 j (ready_mono hj hji)).2
      obtain ⟨hjun, oj, hoj, hall⟩ := mem_ready.1 hj
      have hnot : ∀ e ∈ oj.after, Region.binds .any e = true → e.on ≠ k := fun e he hb heq => by
        have h1 := hall e he hb
        have h0 := (mem_ready.1 hrd).1
        rw [heq] at h1
        rcases Nat.lt_or_ge k listed.size with h' | h'
        · simp [h'] at h0 h1; rw [h0] at h1; cases h1
        · simp [Array.getElem?_eq_none h'] at h1
      have h2 := lOp_putF hoj (hfree j oj hoj hji hjun hnot) (fun cs b => hsel k o cs b hk) (fun cs b => hsel j oj cs b hoj) hy h1
      have hfree' : ∀ i oi, ops[i]? = some oi → i ≠ k → (listed.setIfInBounds j true).getD i true = false →
          (∀ e ∈ oi.after, Region.binds .any e = true → e.on ≠ k) → o.apart ops oi = true := fun i oi hi hik hun hno => by
        refine hfree i oi hi hik ?_ hno
        by_cases hji2 : j = i
        · subst hji2; exact hjun
        · rw [getD_set_ne true hji2] at hun; exact hun
      refine lOp_mono (fun G' a' h3 => ih (listed.setIfInBounds j true) G' a' (inv.set hj hjn) hfree' (ready_mono hrd (Ne.symm hji)) h3.1 ?_) h2
      rw [Array.setIfInBounds_comm _ _ hji]
      exact h3.2
theorem wpAnyT_firstL {Q : Act → World → Prop} {n g k : Nat} {o : Oper} {R : Value → World → Prop} (hs : Region.sinkB .any ops n = true) (hc : Region.chainB .any ops n = true) (hn : n < ops.size) (hkn : k < n) (hC : ∀ w w', C w → Grows w w' → C w') (hRs : Rs.lasts) (hk : ops[k]? = some o) (hr : Rs k = some R)
    (hsel : ∀ (j : Nat) (o : Oper) cs b, ops[j]? = some o → o.op ≠ .select cs b) :
    ∀ (fuel : Nat) (listed : Array Bool) (G : Facts) (a : Act), HeadInv .any ops n listed → G.lasts →
      (∀ j oj, ops[j]? = some oj → j ≠ k → listed.getD j true = false → (∀ e ∈ oj.after, Region.binds .any e = true → e.on ≠ k) → o.apart ops oj = true) →
      k ∈ Region.ready .any ops listed → PendL P ops C k o R G a →
      (∀ v, (∃ w, C w ∧ R v w) → wpAnyT P ops Rs C Q n g fuel (listed.setIfInBounds k true) (G.add k (R v)) (a.put o.dst v)) → wpAnyT P ops Rs C Q n g (fuel + 1) listed G a := by
  intro fuel
  induction fuel with
  | zero =>
    intro listed G a inv hl _ hrd hy H hinh
    refine ⟨fun h => (by rw [h] at hrd; cases hrd), fun j hj => ?_⟩
    have hjn : j < n := by
      rcases Nat.lt_or_ge j n with h | h
      · exact h
      · exact absurd hj (tail_waits hs hc hn inv _ k rfl hkn (mem_ready.1 hrd).1 j h)
    refine ⟨hjn, ?_⟩
    by_cases hji : j = k
    · subst hji; exact hy.lOp hk hr H
    · have h0 := ready_mono hj hji
      obtain ⟨w0, hc0, hg0⟩ := hinh
      obtain ⟨v0, w1, hgr, hr0⟩ := loose_some (hy.2 w0 hc0 (Facts.for_of_all hg0 k))
      have h1 := H v0 ⟨w1, hC _ _ hc0 hgr, hr0⟩ ⟨w1, hC _ _ hc0 hgr, Facts.all_add (fun j => hl j _ _ (hg0 j) hgr) hr0⟩
      have := seqB_ready h1.1 j h0
      omega
  | succ fuel ih =>
    intro listed G a inv hl hfree hrd hy H hinh
    refine ⟨fun h => (by rw [h] at hrd; cases hrd), fun j hj => ?_⟩
    have hjn : j < n := by
      rcases Nat.lt_or_ge j n with h | h
      · exact h
      · exact absurd hj (tail_waits hs hc hn inv _ k rfl hkn (mem_ready.1 hrd).1 j h)
    refine ⟨hjn, ?_⟩
    by_cases hji : j = k
    · subst hji; exact hy.lOp hk hr H
    · obtain ⟨hjun, oj, hoj, hall⟩ := mem_ready.1 hj
      have hwt := waits_of_ready hj (mem_ready.1 hrd).1
      have hnot : ∀ e ∈ oj.after, Region.binds .any e = true → e.on ≠ k := fun e he hb heq => by
        have h1 := hall e he hb
        have h0 := (mem_ready.1 hrd).1
        rw [heq] at h1
        rcases Nat.lt_or_ge k listed.size with h' | h'
        · simp [h'] at h0 h1; rw [h0] at h1; cases h1
        · simp [Array.getElem?_eq_none h'] at h1
      have h2 := lOp_putLK (Rs := Rs) (K := wpAnyT P ops Rs C Q n g fuel ((listed.setIfInBounds k true).setIfInBounds j true)) (fun G a h => wpAnyT_void h _ _ _) hC hoj (hfree j oj hoj hji hjun hnot) (fun cs b => hsel k o cs b hk) (fun cs b => hsel j oj cs b hoj) hl hwt hinh hy
        (fun v hv hiv => ((H v hv hiv).2 j (ready_mono hj hji)).2)
      have hfree' : ∀ i oi, ops[i]? = some oi → i ≠ k → (listed.setIfInBounds j true).getD i true = false →
          (∀ e ∈ oi.after, Region.binds .any e = true → e.on ≠ k) → o.apart ops oi = true := fun i oi hi hik hun hno => by
        refine hfree i oi hi hik ?_ hno
        by_cases hji2 : j = i
        · subst hji2; exact hjun
        · rw [getD_set_ne true hji2] at hun; exact hun
      have h3 : lOp P ops Rs C j (fun G' a' => G'.lasts ∧ PendL P ops C k o R G' a' ∧ ∀ v, (∃ w, C w ∧ R v w) → wpAnyT P ops Rs C Q n g fuel ((listed.setIfInBounds k true).setIfInBounds j true) (G'.add k (R v)) (a'.put o.dst v)) G a := by
        unfold lOp at h2 ⊢
        simp only [hoj] at h2 ⊢
        split
        · rename_i hw
          rw [if_pos hw] at h2
          cases hrj : Rs j with
          | none => simp only [hrj] at h2 ⊢; obtain ⟨u, h4, h5⟩ := h2; exact ⟨u, h4, hl, h5⟩
          | some Rj => simp only [hrj] at h2 ⊢; exact ⟨h2.1, fun u hu => ⟨Facts.lasts_add hl (hRs j Rj hrj u), h2.2 u hu⟩⟩
        · rename_i hw; rw [if_neg hw] at h2; exact ⟨hl, h2⟩
      refine lOp_mono (fun G' a' h4 => ih (listed.setIfInBounds j true) G' a' (inv.set hj hjn) h4.1 hfree' (ready_mono hrd (Ne.symm hji)) h4.2.1 ?_) h3
      rw [Array.setIfInBounds_comm _ _ hji]
      exact h4.2.2
theorem wpAnyT_lex {Q : Act → World → Prop} {n g : Nat} (hC : ∀ w w', C w → Grows w w' → C w') (hRs : Rs.lasts) (hsel0 : Region.noSelect ops = true) (hs : Region.sinkB .any ops n = true) (hc : Region.chainB .any ops n = true) (hn : n < ops.size) :
    ∀ (l : List Oper) (k : Nat) (listed : Array Bool) (G : Facts) (a : Act), G.lasts → (∀ j, j < l.length → l[j]? = ops[k + j]?) → k + l.length = n → HeadInv .any ops n listed →
    Region.lexHead .any ops g l.length k listed = true → wpLoose P ops Rs C Q k l G a → wpAnyT P ops Rs C Q n g l.length listed G a
  | [], k, listed, G, a, _, _, hk, _, hB, h => by
    have : k = n := by simpa using hk
    subst this
    exact fun _ => ⟨by simpa [Region.lexHead] using hB, h⟩
  | o :: l, k, listed, G, a, hl, hlk, hk, inv, hB, h => by
    have h0 : ops[k]? = some o := by simpa using (hlk 0 (by simp)).symm
    simp only [List.length_cons, Region.lexHead, Bool.and_eq_true] at hB
    obtain ⟨⟨hr, hf⟩, hB'⟩ := hB
    have hkn : k < n := by simp only [List.length_cons] at hk; omega
    have hlk' : ∀ j, j < l.length → l[j]? = ops[k + 1 + j]? := fun j hj => by have := hlk (j + 1) (by simp; omega); simpa [Nat.add_assoc, Nat.add_comm 1 j] using this
    have hk' : k + 1 + l.length = n := by simp only [List.length_cons] at hk; omega
    have hrd : k ∈ Region.ready .any ops listed := by simpa using hr
    have hsel := Region.noSelect_spec hsel0
    have hfree := Region.free_spec h0 hf
    have inv' := inv.set hrd hkn
    unfold wpLoose at h
    by_cases hw : Region.wanted o (yielded ops a.tmps) = true
    · rw [if_pos hw] at h
      cases hR : Rs k with
      | none =>
        simp only [hR] at h
        obtain ⟨v, h1, h2⟩ := h
        exact wpAnyT_firstF hs hc hn hkn h0 hsel l.length listed G a inv hfree hrd (.inl ⟨hw, hR, h1⟩) (wpAnyT_lex hC hRs hsel0 hs hc hn l (k + 1) _ _ _ hl hlk' hk' inv' hB' h2)
      | some R =>
        simp only [hR] at h
        exact wpAnyT_firstL hs hc hn hkn hC hRs h0 hR hsel l.length listed G a inv hl hfree hrd ⟨hw, h.1⟩ (fun v hv => wpAnyT_lex hC hRs hsel0 hs hc hn l (k + 1) _ _ _ (Facts.lasts_add hl (hRs k R hR v)) hlk' hk' inv' hB' (h.2 v hv))
    · rw [if_neg hw] at h
      have hwf : Region.wanted o (yielded ops a.tmps) = false := by simpa using hw
      exact wpAnyT_firstF hs hc hn hkn h0 hsel l.length listed G a inv hfree hrd (.inr ⟨hwf, rfl⟩) (wpAnyT_lex hC hRs hsel0 hs hc hn l (k + 1) _ _ _ hl hlk' hk' inv' hB' h)
theorem wp_region_loose_tail {id : Nat} {Q : Exit → Act → World → Prop} {a : Act} {w : World} {l : List Oper} (n : Nat) (Rs : Loose) (hm : P.follows .mixedOrders = true) (hB : Region.lexTailB .any l.toArray n = true) (hRs : Rs.lasts)
    (h : wpLoose P l.toArray Rs (fun w' => Grows w w') (fun a' w' => wpList P l.toArray Q (l.drop n) a' w') 0 (l.take n) (fun _ _ => True) a) : (Code.region id l.toArray true).wp P Q a w := by
  simp only [Region.lexTailB, Bool.and_eq_true, decide_eq_true_eq] at hB
  obtain ⟨⟨⟨⟨hsel, hn⟩, hs⟩, hc⟩, hlex⟩ := hB
  have hn' : n < l.length := by simpa using hn
  have htl : (l.take n).length = n := by simp; omega
  have hdl : (l.drop n).length = l.toArray.size - n := by simp
  have inv0 : HeadInv .any l.toArray n (Array.replicate l.toArray.size false) :=
    ⟨by simp, fun j oj _ hl => (by rw [getD_replicate_false] at hl; cases hl), fun t _ ht => getD_in (by simpa using ht) (getD_replicate_false _ _)⟩
  have hC : ∀ w1 w2, Grows w w1 → Grows w1 w2 → Grows w w2 := fun w1 w2 h1 h2 => h1.of_below h2
  have hl : Facts.lasts (fun _ _ => True) := fun _ _ _ _ _ => trivial
  have hd : Grows w { w with drawn := w.drawn + 1 } := ⟨rfl, rfl, rfl, Nat.le_refl _, fun _ _ => rfl⟩
  have H := wpAnyT_lex (P := P) (ops := l.toArray) (Rs := Rs) (C := fun w' => Grows w w') (g := l.toArray.size - n) hC hRs hsel hs hc hn (l.take n) 0 _ _ a hl (fun j hj => by
    have hj' : j < n := by rw [htl] at hj; exact hj
    simp [hj']) (by simpa using htl) inv0 (by rw [htl]; exact hlex) h
  refine wp_region_any hm ?_
  have := wpAny_of_looseT (Q' := Q) (fun listed a' w' hB hq => by
    have := wpAny_of_seq (md := .any) (Q' := Q) (l.drop n) n listed a' w' (fun j => by simp [List.getElem?_drop]) (by rw [hdl]; exact hB) hq
    rwa [hdl] at this) hC hRs _ _ _ a _ hd (fun _ => trivial) hl H
  rw [htl, show n + (l.toArray.size - n) = l.toArray.size by omega] at this
  exact this
end
end Go.Proofs.YtoaklmceejeblaaGreat
/-
  Shaken: what the claims of this seat need of this text. No condition.
-/
namespace Go.Proofs.YtoaklmceejeblaaGreat
set_option maxRecDepth 8000
open Go.RowKit
def StrB (l : List UInt8) (v : Value) (w : World) : Prop := ∃ A c, v = .slice A l.length c ∧ l.length ≤ c ∧ IsBytes w (.slice A l.length c) l
theorem StrB.lasts {l : List UInt8} : ∀ v w w', StrB l v w → Grows w w' → StrB l v w' := fun _ _ _ ⟨A, c, h1, h2, h3⟩ hg => ⟨A, c, h1, h2, h3.grow hg⟩
theorem str_bytes {P : Program} (w : World) (src dst e : TypeId) (s : ByteArray) (hs : P.underlying src = some .string) (hd : P.underlying dst = some (.slice e)) (he : P.underlying e = some (.int .u8)) :
    ∃ v W, (convert src dst (.string s)).run P w = .ok v W ∧ Grows w W ∧ StrB s.data.toList v W := by
  have hlen : s.data.toList.length = s.size := by simp
  have hrow : ∀ c m, IsBytes (w.drew.alloc (.cells (bytesRow s c) e m)) (.slice (some ⟨w.heap.size, 0, none⟩) s.size c) s.data.toList := by
    intro c m
    rw [← hlen]
    refine ⟨_, c, rfl, fun _ => ⟨w.heap.size, 0, rfl, fun j hj => ?_⟩⟩
    have h0 : (w.drew.alloc (.cells (bytesRow s c) e m)).heap[w.heap.size]? = some (.cells (bytesRow s c) e m) := by
      show (w.heap.push _)[w.heap.size]? = _
      simp
    have h1 := cell_of_row _ _ j _ _ _ h0
    rw [Nat.zero_add, h1]
    have hj' : j < s.data.size := by simpa using hj
    unfold bytesRow
    rw [Array.getElem?_append_left (by simpa using hj')]
    simp
    exact ⟨_, Array.getElem?_eq_getElem hj', rfl⟩
  exact ⟨_, _, run_bytes_of_string w src dst e s hs hd he, (Below.drew (Below.refl _ _)).alloc (Nat.le_refl _) _, _, _, by rw [hlen], by rw [hlen]; exact grownCap_ge _ _ _ _, by rw [hlen]; exact hrow _ _⟩
theorem wpList_bytes {P : Program} {w : World} {ops : Array Oper} {rest : List Oper} {o : Oper} {a : Act} {Q : Exit → Act → World → Prop} (hgd : o.guard = none) (x : Operand) (src dst e : TypeId)
    (ho : o.op = .convert src dst x) (hs : P.underlying src = some .string) (hd : P.underlying dst = some (.slice e)) (he : P.underlying e = some (.int .u8)) (s : ByteArray) (hx : a.eval x = .string s)
    (h : ∀ v W, StrB s.data.toList v W → Grows w W → wpList P ops Q rest (a.put o.dst v) W) : wpList P ops Q (o :: rest) a w := by
  refine wpList_plain hgd fun K hK => ?_
  obtain ⟨v, W, hrun, h2, h3⟩ := str_bytes (P := P) w src dst e s hs hd he
  unfold Oper.wp execOp
  simp only [ho, Sem.run_bind, Sem.run_pure, Result.andThen_ok, hx, hrun]
  exact hK _ _ (h v W h3 h2)
theorem wpList_tostring {P : Program} {w : World} {ops : Array Oper} {rest : List Oper} {o : Oper} {a : Act} {Q : Exit → Act → World → Prop} (hgd : o.guard = none) (x : Operand) (src dst e : TypeId)
    (ho : o.op = .convert src dst x) (hs : P.underlying src = some (.slice e)) (he : P.underlying e = some (.int .u8)) (hd : P.underlying dst = some .string) (v : Value) (l : List UInt8) (hx : a.eval x = v) (hv : IsBytes w v l)
    (h : wpList P ops Q rest (a.put o.dst (.string (strOf l))) w) : wpList P ops Q (o :: rest) a w := by
  refine wpList_plain hgd fun K hK => ?_
  have hrun := run_string_bytes (P := P) hv src e hs he dst hd
  unfold Oper.wp execOp
  simp only [ho, Sem.run_bind, Sem.run_pure, Result.andThen_ok, hx, hrun]
  exact hK _ _ h
theorem IsBytes.sub {w : World} {b f n c : Nat} {l : List UInt8} (h : IsBytes w (.slice (some ⟨b, f, none⟩) n c) l) (o m c' : Nat) (hm : o + m ≤ l.length) : IsBytes w (.slice (some ⟨b, f + o, none⟩) m c') ((l.drop o).take m) := by
  obtain ⟨A', c1, he, hc⟩ := h
  injection he with e1 e2 e3
  have hlen : ((l.drop o).take m).length = m := by rw [List.length_take, List.length_drop]; omega
  refine ⟨some ⟨b, f + o, none⟩, c', by rw [hlen], fun hp => ⟨b, f + o, rfl, fun j hj => ?_⟩⟩
  rw [hlen] at hp
  obtain ⟨b2, f2, e4, hcell⟩ := hc (by omega)
  rw [← e1] at e4
  injection e4 with e4
  injection e4 with e5 e6 e7
  subst e5 e6
  have hj2 : j < m := by rw [hlen] at hj; exact hj
  have h1 := hcell (o + j) (by omega)
  rw [Nat.add_assoc, h1]
  simp
theorem wpList_slice_bytes {P : Program} {w : World} {ops : Array Oper} {rest : List Oper} {o : Oper} {a : Act} {Q : Exit → Act → World → Prop} (hgd : o.guard = none) (x lo hi : Operand) (t e : TypeId)
    (ho : o.op = .slice t x (some lo) (some hi) none) (ht : P.underlying t = some (.slice e)) (hel : P.elem t = e) (hsz : (P.info? e).map (·.size) = some 1) (b f : Nat) (l : List UInt8) (c : Nat) (hx : a.eval x = .slice (some ⟨b, f, none⟩) l.length c)
    (hv : IsBytes w (.slice (some ⟨b, f, none⟩) l.length c) l) (i j : Nat) (hlo : a.eval lo = .int .i64 (i : Int)) (hhi : a.eval hi = .int .i64 (j : Int)) (hij : i ≤ j) (hjl : j ≤ l.length) (hlc : l.length ≤ c)
    (h : ∀ v, IsBytes w v ((l.drop i).take (j - i)) → wpList P ops Q rest (a.put o.dst v) w) : wpList P ops Q (o :: rest) a w := by
  refine wpList_plain hgd fun K hK => ?_
  have hrun := run_slice_lh (P := P) (w := w) t (some ⟨b, f, none⟩) l.length c (by rw [hel]; exact ht) .i64 .i64 (i : Int) (j : Int) (by omega) (by omega) (by omega)
  have hs : (sizeOf (P.elem t)).run P w = .ok 1 w := by
    rw [hel]
    cases hi : P.info? e with
    | none => rw [hi] at hsz; cases hsz
    | some y =>
      rw [hi] at hsz
      have h1 : y.size = 1 := by simpa using hsz
      simp [sizeOf, typeInfo, hi, h1]
  rw [hs] at hrun
  simp only [Result.andThen_ok, Int.toNat_natCast] at hrun
  unfold Oper.wp execOp
  have hat := run_sliceAt_slice (P := P) (w := w) t (.slice (some ⟨b, f, none⟩) l.length c) (some (.int .i64 (i : Int))) (some (.int .i64 (j : Int))) none (by rw [hel]; exact ht)
  rw [hrun] at hat
  simp only [ho, Option.map_some, Option.map_none, Sem.run_bind, Sem.run_pure, Result.andThen_ok, hx, hlo, hhi, hat]
  refine hK _ _ (h _ ?_)
  unfold sliced
  by_cases hc : c = i
  · rw [if_pos hc]
    have e1 : j - i = 0 := by omega
    rw [e1, List.take_zero]
    exact ⟨_, _, rfl, fun h0 => absurd h0 (by simp)⟩
  · rw [if_neg hc]
    have := hv.sub i (j - i) (c - i) (by omega)
    rw [Option.map_some, Nat.mul_one, Addr.add_lit]
    exact this
end Go.Proofs.YtoaklmceejeblaaGreat
/-
  Shaken: what the claims of this seat need of this text. No condition.
-/
set_option linter.unusedVariables false
set_option linter.unusedSimpArgs false
namespace Go.Proofs.YtoaklmceejeblaaGreat
set_option maxRecDepth 8000
open Go.RowKit
class SteQ where
  T : World → World → Prop
  re : ∀ w, T w w
  tr : ∀ {a b c}, T a b → T b c → T a c
  dr : ∀ w : World, T w { w with drawn := w.drawn + 1 }
section
variable [SteQ] {P : Program} {ops : Array Oper}
def Facts.lastsQ (G : Facts) : Prop := ∀ j w w', G j w → SteQ.T w w' → G j w'
theorem Facts.lasts_addQ {G : Facts} {i : Nat} {p : World → Prop} (h : G.lastsQ) (hp : ∀ w w', p w → SteQ.T w w' → p w') : (G.add i p).lastsQ :=
  fun j w w' hg hb => ⟨h j w w' hg.1 hb, fun e => hp w w' (hg.2 e) hb⟩
def looseUponQ (P : Program) (w : World) (R : Value → World → Prop) : Result Next → Prop
  | .ok (.value u) w' => SteQ.T w w' ∧ R u w'
  | .ok .skip w' => SteQ.T w w' ∧ R undef w'
  | .ok (.enter f args) w' => SteQ.T w w' ∧ Calls P f args w' fun e w'' => ∃ v, e = .returned v ∧ SteQ.T w' w'' ∧ R v w''
  | _ => False
def looseAtQ (P : Program) (o : Oper) (a : Act) (w : World) (R : Value → World → Prop) : Prop := looseUponQ P w R ((execOp a.eval o).run P w)
theorem loose_someQ {o : Oper} {a : Act} {w : World} {R : Value → World → Prop} (h : looseAtQ P o a w R) : ∃ v w', SteQ.T w w' ∧ R v w' := by
  unfold looseAtQ at h
  generalize (execOp a.eval o).run P w = r at *
  cases r with
  | ok n w' =>
    cases n <;> simp only [looseUponQ] at h
    case value x => exact ⟨x, w', h⟩
    case skip => exact ⟨undef, w', h⟩
    case enter f args =>
      obtain ⟨_, w'', v, _, hg, hr⟩ := calls_some h.2
      exact ⟨v, w'', SteQ.tr h.1 hg, hr⟩
  | halt x w' => simp only [looseUponQ] at h
def Loose.lastsQ (Rs : Loose) : Prop := ∀ i R, Rs i = some R → ∀ v w w', R v w → SteQ.T w w' → R v w'
variable {Rs : Loose} {C : World → Prop}
def PendLQ (P : Program) (ops : Array Oper) (C : World → Prop) (k : Nat) (o : Oper) (R : Value → World → Prop) (G : Facts) (a : Act) : Prop :=
  Region.wanted o (yielded ops a.tmps) = true ∧ ∀ w, C w → G.for_ ops k w → looseAtQ P o a w R
theorem looseAt_evalQ {o : Oper} {a a' : Act} {w : World} {R : Value → World → Prop} (h : looseAtQ P o a w R) (e : execOp a'.eval o = execOp a.eval o) : looseAtQ P o a' w R := by unfold looseAtQ at *; rw [e]; exact h
theorem PendLQ.put {k : Nat} {o oj : Oper} {R : Value → World → Prop} {G : Facts} {a : Act} (hp : PendLQ P ops C k o R G a) (hap : o.apart ops oj = true) (hs : ∀ cs b, o.op ≠ .select cs b) (u : Value) : PendLQ P ops C k o R G (a.put oj.dst u) := by
  obtain ⟨_, _, h3⟩ := Oper.apart_spec hap
  have e1 := execOp_put (ops := ops) o hs a oj.dst u h3
  have e2 := wanted_put (ops := ops) o a oj.dst u h3
  unfold PendLQ at *
  rw [e2]
  exact ⟨hp.1, fun w hc hg => looseAt_evalQ (hp.2 w hc hg) e1⟩
theorem PendLQ.add {k i : Nat} {o : Oper} {R : Value → World → Prop} {G : Facts} {a : Act} {p : World → Prop} (hp : PendLQ P ops C k o R G a) : PendLQ P ops C k o R (G.add i p) a :=
  ⟨hp.1, fun w hc hg => hp.2 w hc (Facts.for_weak hg)⟩
variable {Q : Act → World → Prop} {k : Nat} {o : Oper} {rest : List Oper} {G : Facts} {a : Act}
end
section
variable [SteQ] {P : Program} {ops : Array Oper} {Rs : Loose} {C : World → Prop}
end
end Go.Proofs.YtoaklmceejeblaaGreat
