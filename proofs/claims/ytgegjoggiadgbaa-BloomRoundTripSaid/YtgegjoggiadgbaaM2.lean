/-
  Texts that the claims of this seat share, put together (App, Parts). No condition.
-/
import Derived.Test.YtgegjoggiadgbaaM1
import Derived.Maps.AppendAt
/-
  Shaken: what the claims of this seat need of this text. No condition.
-/
namespace Go.Proofs.Ytgegjoggiadgbaa
set_option maxRecDepth 8000
open Go.RowKit
theorem run_append_nothing {P : Program} {w : World} {base : Nat} {t ty e : TypeId} {i : TypeInfo} {size : Nat} (ht : P.underlying t = some (.slice e)) (hi : P.info? e = some i)
    {v : Value} {n : Nat} {xs : List Value} (hown : w.ownsRow base e size v n xs) (c : Nat) : (Builtin.append_ #[t, t] ty #[v, .slice none 0 c]).run P w = .ok v w := by
  rcases hown.2 with ⟨rfl, rfl⟩ | ⟨g, cap, cur, rfl, _, _, hnc, _⟩
  · simp [Builtin.append_, run_underlying ht, sizeOf, typeInfo, hi, Builtin.lenOf, Builtin.firstCells]
  · simp [Builtin.append_, run_underlying ht, sizeOf, typeInfo, hi, Builtin.lenOf, Builtin.firstCells, hnc, storeCells]
theorem run_append_bytes {P : Program} {w wr : World} {t ty e : TypeId} (ht : P.underlying t = some (.slice e)) (hinfo : (P.info? e).map (fun i => (i.zero, i.size, i.bytes)) = some (some (.int .u8 0), 1, 1))
    {v : Value} {pre : List UInt8} (hown : wr.ownsRow w.heap.size e 1 v pre.length (bcells pre)) (hb : Below w.heap.size w wr) {u : Value} {l : List UInt8} (hu : IsBytes wr u l)
    (hlen : pre.length + l.length ≤ 140737488355328) :
    ∃ v' w', (Builtin.append_ #[t, t] ty #[v, u]).run P wr = .ok v' w' ∧ w'.ownsRow w.heap.size e 1 v' (pre ++ l).length (bcells (pre ++ l)) ∧ Below w.heap.size w w' := by
  obtain ⟨i0, hi, hz0, hz1, hz2⟩ := info_parts hinfo
  obtain ⟨A, c, rfl, hc⟩ := hu
  cases A with
  | none =>
    have hl : l = [] := by
      cases l with
      | nil => rfl
      | cons x r => obtain ⟨b, off, h, _⟩ := hc (by simp); cases h
    subst hl
    exact ⟨v, wr, run_append_nothing ht hi hown c, by simpa using hown, hb⟩
  | some ad =>
    have hcells : ∀ j x, (bcells l)[j]? = some x → wr.cell? (ad.add j) = some x := by
      intro j x hx
      have hj : j < l.length := by
        rcases Nat.lt_or_ge j l.length with h | h
        · exact h
        · rw [List.getElem?_eq_none (by rw [bcells_length]; exact h)] at hx; cases hx
      obtain ⟨b, off, h, hcell⟩ := hc (by omega)
      injection h with h
      subst h
      rw [Addr.add_lit, hcell j hj]
      simpa [bcells, hj] using hx
    obtain ⟨v', w', h1, h2, h3, _⟩ := run_append_own (P := P) wr w.heap.size t ty e i0 (.int .u8 0) 1 1 ht hi hz0 hz1 hz2 rfl (by decide) v pre.length (bcells pre) hown ad l.length c (bcells l)
      (by rw [bcells_length]; omega) hcells (oneCell_bcells l) (by unfold maxLen; omega) (by omega) hb.size
    refine ⟨v', w', h1, ?_, hb.grown h3 hb.size (fun k hk => (hown.lt k hk).1)⟩
    rw [bcells_append, List.length_append]; exact h2
theorem wpList_append_bytes {P : Program} {w wr : World} {ops : Array Oper} {rest : List Oper} {o : Oper} {a : Act} {Q : Exit → Act → World → Prop} (hgd : o.guard = none) (s x : Operand) (t : TypeId)
    (ho : o.op = .call { callee := .builtin .append, args := #[s, x], argTypes := #[t, t] })
    (e : TypeId) (ht : P.underlying t = some (.slice e)) (hinfo : (P.info? e).map (fun i => (i.zero, i.size, i.bytes)) = some (some (.int .u8 0), 1, 1))
    (v : Value) (pre : List UInt8) (hs : a.eval s = v) (hown : wr.ownsRow w.heap.size e 1 v pre.length (bcells pre)) (hb : Below w.heap.size w wr)
    (u : Value) (l : List UInt8) (hx : a.eval x = u) (hu : IsBytes wr u l) (hlen : pre.length + l.length ≤ 140737488355328)
    (h : ∀ v' w', w'.ownsRow w.heap.size e 1 v' (pre ++ l).length (bcells (pre ++ l)) → Below w.heap.size w w' → wpList P ops Q rest (a.put o.dst v') w') :
    wpList P ops Q (o :: rest) a wr := by
  refine wpList_plain hgd fun K hK => ?_
  obtain ⟨v', w', hrun, h2, h3⟩ := run_append_bytes (P := P) (ty := o.type) ht hinfo hown hb hu hlen
  unfold Oper.wp execOp
  simp only [ho, resolve, invoke, builtin, Sem.run_bind, Sem.run_pure, Result.andThen_ok, List.map_toArray, List.map_cons, List.map_nil, hs, hx, hrun]
  exact hK _ _ (h v' w' h2 h3)
def IsParts (w : World) (v : Value) (ls : List (List UInt8)) : Prop :=
  ∃ A c, v = .slice A ls.length c ∧ (0 < ls.length → ∃ b off, A = some ⟨b, off, none⟩ ∧ ∀ j, (h : j < ls.length) → ∃ B d, w.cell? ⟨b, off + j, none⟩ = some (.slice B ls[j].length d) ∧ IsBytes w (.slice B ls[j].length d) ls[j])
theorem IsParts.grow {w w' : World} {v : Value} {ls : List (List UInt8)} (h : IsParts w v ls) (hb : Grows w w') : IsParts w' v ls := by
  obtain ⟨A, c, rfl, hc⟩ := h
  refine ⟨A, c, rfl, fun hl => ?_⟩
  obtain ⟨b, off, rfl, hcell⟩ := hc hl
  refine ⟨b, off, rfl, fun j hj => ?_⟩
  obtain ⟨B, d, h1, h2⟩ := hcell j hj
  exact ⟨B, d, (hb.cell (World.block_lt_of_cell? w _ h1)).trans h1, h2.grow hb⟩
def total (ls : List (List UInt8)) : Nat := ls.flatten.length
theorem total_take {ls : List (List UInt8)} {k : Nat} (h : k < ls.length) : total (ls.take (k + 1)) = total (ls.take k) + ls[k].length := by
  unfold total
  rw [List.take_succ_eq_append_getElem h, List.flatten_append, List.flatten_cons, List.flatten_nil, List.append_nil, List.length_append]
theorem flatten_take {ls : List (List UInt8)} {k : Nat} (h : k < ls.length) : (ls.take (k + 1)).flatten = (ls.take k).flatten ++ ls[k] := by
  rw [List.take_succ_eq_append_getElem h, List.flatten_append, List.flatten_cons, List.flatten_nil, List.append_nil]
theorem total_le (ls : List (List UInt8)) (k : Nat) : total (ls.take k) ≤ total ls := by
  unfold total
  have h : ls.flatten = (ls.take k).flatten ++ (ls.drop k).flatten := by rw [← List.flatten_append, List.take_append_drop]
  rw [h, List.length_append]; omega
theorem part_le' {ls : List (List UInt8)} {k : Nat} (h : k < ls.length) : (ls.take k).flatten.length + ls[k].length ≤ total ls := by
  have h1 := total_take h
  have h2 := total_le ls (k + 1)
  unfold total at *; omega
end Go.Proofs.Ytgegjoggiadgbaa
/-
  Shaken: what the claims of this seat need of this text. No condition.
-/
namespace Go.Proofs.Ytgegjoggiadgbaa
set_option maxRecDepth 8000
open Go.RowKit
theorem IsParts.new2 {w : World} {A B : Option Addr} {c d : Nat} {la lb : List UInt8} (ha : IsBytes w (.slice A la.length c) la) (hb : IsBytes w (.slice B lb.length d) lb) (E : TypeId) :
    IsParts (w.alloc (.cells #[.slice A la.length c, .slice B lb.length d] E)) (.slice (some ⟨w.heap.size, 0, none⟩) 2 2) [la, lb] := by
  have hg : Grows w (w.alloc (.cells #[.slice A la.length c, .slice B lb.length d] E)) := (Below.refl _ _).alloc (Nat.le_refl _) _
  refine ⟨_, 2, rfl, fun _ => ⟨w.heap.size, 0, rfl, fun j hj => ?_⟩⟩
  match j, hj with
  | 0, _ => exact ⟨A, c, by rw [World.cell?_alloc_mark]; rfl, ha.grow hg⟩
  | 1, _ => exact ⟨B, d, by rw [World.cell?_alloc_mark]; rfl, hb.grow hg⟩
end Go.Proofs.Ytgegjoggiadgbaa
