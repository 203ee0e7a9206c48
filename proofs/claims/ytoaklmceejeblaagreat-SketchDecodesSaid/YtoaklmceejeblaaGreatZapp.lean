/-
  Shaken: what the claims of this seat need of this text. No condition.
-/
import Derived.Test.YtoaklmceejeblaaGreatApp
import Derived.Test.YtoaklmceejeblaaGreatM1
import Derived.Test.YtoaklmceejeblaaGreatM10
import Derived.Maps.AppendAt
namespace Go.Proofs.YtoaklmceejeblaaGreat
set_option maxRecDepth 8000
open Go.RowKit
set_option linter.unusedVariables false
theorem run_append_rows14 {P : Program} {H : Nat} {wr : World} {t ty e : TypeId} {z : Value} {bytes : Nat} (ht : P.underlying t = some (.slice e)) (hinfo : (P.info? e).map (fun i => (i.zero, i.size, i.bytes)) = some (some z, 1, bytes)) (hz1 : z.cells.size = 1)
    {v : Value} {pre : List Value} (hown : wr.ownsRow H e 1 v pre.length pre) {w : World} (hb : Below H w wr) (hH : H ≤ wr.heap.size) {u : Value} {l : List Value} (hu : Reads wr u l) (hone : ∀ x ∈ l, x.oneCell' = true)
    (hlen : (pre.length + l.length) * bytes ≤ 140737488355328) (hmax : pre.length + l.length ≤ 140737488355328) :
    ∃ v' w', (Builtin.append_ #[t, t] ty #[v, u]).run P wr = .ok v' w' ∧ w'.ownsRow H e 1 v' (pre ++ l).length (pre ++ l) ∧ Below H w w' ∧ KeepsRows e wr w' := by
  obtain ⟨i0, hi, hz0, hs1, hs2⟩ := info_parts hinfo
  obtain ⟨A, c, rfl, hlc, hc⟩ := hu
  cases A with
  | none =>
    have hl : l = [] := by
      cases l with
      | nil => rfl
      | cons x r => obtain ⟨b, off, h, _⟩ := hc (by simp); cases h
    subst hl
    exact ⟨v, wr, run_append_nothing ht hi hown c, by simpa using hown, hb, fun _ _ _ _ _ _ _ h => h⟩
  | some ad =>
    have hcells : ∀ j x, l[j]? = some x → wr.cell? (ad.add j) = some x := by
      intro j x hx
      have hj : j < l.length := by
        rcases Nat.lt_or_ge j l.length with h | h
        · exact h
        · rw [List.getElem?_eq_none h] at hx; cases hx
      obtain ⟨b, off, h, hcell⟩ := hc (by omega)
      injection h with h
      subst h
      rw [Addr.add_lit]
      exact (hcell j hj).trans (by rw [← hx, List.getElem?_eq_getElem hj])
    obtain ⟨v', w', h1, h2, h3, _⟩ := run_append_own (P := P) wr H t ty e i0 z 1 bytes ht hi hz0 hs1 hs2 hz1 (by decide) v pre.length pre hown ad l.length c l
      (by omega) hcells hone (by unfold maxLen; omega) hlen hH
    refine ⟨v', w', h1, ?_, hb.grown h3 hH (fun k hk => (hown.lt k hk).1), fun b e' s x n xs he hx => hx.kept h3 (ownsRow_ne hx hown he)⟩
    rw [List.length_append]; exact h2
theorem wpList_append_rows14 {P : Program} {H : Nat} {w wr : World} {ops : Array Oper} {rest : List Oper} {o : Oper} {a : Act} {Q : Exit → Act → World → Prop} (hgd : o.guard = none) (s x : Operand) (t : TypeId)
    (ho : o.op = .call { callee := .builtin .append, args := #[s, x], argTypes := #[t, t] })
    (e : TypeId) (z : Value) (bytes : Nat) (ht : P.underlying t = some (.slice e)) (hinfo : (P.info? e).map (fun i => (i.zero, i.size, i.bytes)) = some (some z, 1, bytes)) (hz1 : z.cells.size = 1)
    (v : Value) (pre : List Value) (hs : a.eval s = v) (hown : wr.ownsRow H e 1 v pre.length pre) (hb : Below H w wr) (hH : H ≤ wr.heap.size)
    (u : Value) (l : List Value) (hx : a.eval x = u) (hu : Reads wr u l) (hone : ∀ x ∈ l, x.oneCell' = true) (hlen : (pre.length + l.length) * bytes ≤ 140737488355328) (hmax : pre.length + l.length ≤ 140737488355328)
    (h : ∀ v' w', w'.ownsRow H e 1 v' (pre ++ l).length (pre ++ l) → Below H w w' → KeepsRows e wr w' → wpList P ops Q rest (a.put o.dst v') w') :
    wpList P ops Q (o :: rest) a wr := by
  refine wpList_plain hgd fun K hK => ?_
  obtain ⟨v', w', hrun, h2, h3, h4⟩ := run_append_rows14 (P := P) (ty := o.type) ht hinfo hz1 hown hb hH hu hone hlen hmax
  unfold Oper.wp execOp
  simp only [ho, resolve, invoke, builtin, Sem.run_bind, Sem.run_pure, Result.andThen_ok, List.map_toArray, List.map_cons, List.map_nil, hs, hx, hrun]
  exact hK _ _ (h v' w' h2 h3 h4)
end Go.Proofs.YtoaklmceejeblaaGreat
