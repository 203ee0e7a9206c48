/-
  Shaken: what the claims of this seat need of this text. No condition.
-/
import Derived.Test.YthmipnokimlbdaaGreatM9
set_option linter.unusedVariables false
set_option linter.unusedSimpArgs false
namespace Go.Proofs.YthmipnokimlbdaaGreat
set_option maxRecDepth 8000
open Go.RowKit
class SteQ where
  T : World → World → Prop
  re : ∀ w, T w w
  tr : ∀ {a b c}, T a b → T b c → T a c
  dr : ∀ w : World, T w { w with drawn := w.drawn + 1 }
section
variable [SteQ] {P : Program} {ops : Array Oper}
def Facts.lastsQ (G : Facts) : Prop := ∀ j w w', G j w → SteQ.T w w' → G j w'
theorem Facts.lasts_addQ {G : Facts} {i : Nat} {p : World → Prop} (h : G.lastsQ) (hp : ∀ w w', p w → SteQ.T w w' → p w') : (G.add i p).lastsQ :=
  fun j w w' hg hb => ⟨h j w w' hg.1 hb, fun e => hp w w' (hg.2 e) hb⟩
def looseUponQ (P : Program) (w : World) (R : Value → World → Prop) : Result Next → Prop
  | .ok (.value u) w' => SteQ.T w w' ∧ R u w'
  | .ok .skip w' => SteQ.T w w' ∧ R undef w'
  | .ok (.enter f args) w' => SteQ.T w w' ∧ Calls P f args w' fun e w'' => ∃ v, e = .returned v ∧ SteQ.T w' w'' ∧ R v w''
  | _ => False
def looseAtQ (P : Program) (o : Oper) (a : Act) (w : World) (R : Value → World → Prop) : Prop := looseUponQ P w R ((execOp a.eval o).run P w)
theorem loose_someQ {o : Oper} {a : Act} {w : World} {R : Value → World → Prop} (h : looseAtQ P o a w R) : ∃ v w', SteQ.T w w' ∧ R v w' := by
  unfold looseAtQ at h
  generalize (execOp a.eval o).run P w = r at *
  cases r with
  | ok n w' =>
    cases n <;> simp only [looseUponQ] at h
    case value x => exact ⟨x, w', h⟩
    case skip => exact ⟨undef, w', h⟩
    case enter f args =>
      obtain ⟨_, w'', v, _, hg, hr⟩ := calls_some h.2
      exact ⟨v, w'', SteQ.tr h.1 hg, hr⟩
  | halt x w' => simp only [looseUponQ] at h
def Loose.lastsQ (Rs : Loose) : Prop := ∀ i R, Rs i = some R → ∀ v w w', R v w → SteQ.T w w' → R v w'
variable {Rs : Loose} {C : World → Prop}
def PendLQ (P : Program) (ops : Array Oper) (C : World → Prop) (k : Nat) (o : Oper) (R : Value → World → Prop) (G : Facts) (a : Act) : Prop :=
  Region.wanted o (yielded ops a.tmps) = true ∧ ∀ w, C w → G.for_ ops k w → looseAtQ P o a w R
theorem looseAt_evalQ {o : Oper} {a a' : Act} {w : World} {R : Value → World → Prop} (h : looseAtQ P o a w R) (e : execOp a'.eval o = execOp a.eval o) : looseAtQ P o a' w R := by unfold looseAtQ at *; rw [e]; exact h
theorem PendLQ.put {k : Nat} {o oj : Oper} {R : Value → World → Prop} {G : Facts} {a : Act} (hp : PendLQ P ops C k o R G a) (hap : o.apart ops oj = true) (hs : ∀ cs b, o.op ≠ .select cs b) (u : Value) : PendLQ P ops C k o R G (a.put oj.dst u) := by
  obtain ⟨_, _, h3⟩ := Oper.apart_spec hap
  have e1 := execOp_put (ops := ops) o hs a oj.dst u h3
  have e2 := wanted_put (ops := ops) o a oj.dst u h3
  unfold PendLQ at *
  rw [e2]
  exact ⟨hp.1, fun w hc hg => looseAt_evalQ (hp.2 w hc hg) e1⟩
theorem PendLQ.add {k i : Nat} {o : Oper} {R : Value → World → Prop} {G : Facts} {a : Act} {p : World → Prop} (hp : PendLQ P ops C k o R G a) : PendLQ P ops C k o R (G.add i p) a :=
  ⟨hp.1, fun w hc hg => hp.2 w hc (Facts.for_weak hg)⟩
variable {Q : Act → World → Prop} {k : Nat} {o : Oper} {rest : List Oper} {G : Facts} {a : Act}
end
section
variable [SteQ] {P : Program} {ops : Array Oper} {Rs : Loose} {C : World → Prop}
end
end Go.Proofs.YthmipnokimlbdaaGreat
