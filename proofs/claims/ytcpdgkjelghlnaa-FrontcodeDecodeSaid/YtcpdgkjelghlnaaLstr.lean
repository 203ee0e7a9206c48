/-
  []byte(s) of any string: a new slice that reads as the string's bytes. No program, no condition.
-/
import Derived.Test.YtcpdgkjelghlnaaLoose
import Derived.Laws.IdiomStrings
import Derived.Laws.AppendOwn
namespace Go.Proofs.Ytcpdgkjelghlnaa
open Go.RowKit

/-- v is a slice of its own length that reads as l -/
def StrB (l : List UInt8) (v : Value) (w : World) : Prop := ∃ A c, v = .slice A l.length c ∧ l.length ≤ c ∧ IsBytes w (.slice A l.length c) l
theorem StrB.lasts {l : List UInt8} : ∀ v w w', StrB l v w → Grows w w' → StrB l v w' := fun _ _ _ ⟨A, c, h1, h2, h3⟩ hg => ⟨A, c, h1, h2, h3.grow hg⟩
theorem str_bytes {P : Program} (w : World) (src dst e : TypeId) (s : ByteArray) (hs : P.underlying src = some .string) (hd : P.underlying dst = some (.slice e)) (he : P.underlying e = some (.int .u8)) :
    ∃ v W, (convert src dst (.string s)).run P w = .ok v W ∧ Grows w W ∧ StrB s.data.toList v W := by
  have hlen : s.data.toList.length = s.size := by simp
  have hrow : ∀ c m, IsBytes (w.drew.alloc (.cells (bytesRow s c) e m)) (.slice (some ⟨w.heap.size, 0, none⟩) s.size c) s.data.toList := by
    intro c m
    rw [← hlen]
    refine ⟨_, c, rfl, fun _ => ⟨w.heap.size, 0, rfl, fun j hj => ?_⟩⟩
    have h0 : (w.drew.alloc (.cells (bytesRow s c) e m)).heap[w.heap.size]? = some (.cells (bytesRow s c) e m) := by
      show (w.heap.push _)[w.heap.size]? = _
      simp
    have h1 := cell_of_row _ _ j _ _ _ h0
    rw [Nat.zero_add, h1]
    have hj' : j < s.data.size := by simpa using hj
    unfold bytesRow
    rw [Array.getElem?_append_left (by simpa using hj')]
    simp
    exact ⟨_, Array.getElem?_eq_getElem hj', rfl⟩
  exact ⟨_, _, run_bytes_of_string w src dst e s hs hd he, (Below.drew (Below.refl _ _)).alloc (Nat.le_refl _) _, _, _, by rw [hlen], by rw [hlen]; exact grownCap_ge _ _ _ _, by rw [hlen]; exact hrow _ _⟩
/-- []byte(s) in a walk -/
theorem wpList_bytes {P : Program} {w : World} {ops : Array Oper} {rest : List Oper} {o : Oper} {a : Act} {Q : Exit → Act → World → Prop} (hgd : o.guard = none) (x : Operand) (src dst e : TypeId)
    (ho : o.op = .convert src dst x) (hs : P.underlying src = some .string) (hd : P.underlying dst = some (.slice e)) (he : P.underlying e = some (.int .u8)) (s : ByteArray) (hx : a.eval x = .string s)
    (h : ∀ v W, StrB s.data.toList v W → Grows w W → wpList P ops Q rest (a.put o.dst v) W) : wpList P ops Q (o :: rest) a w := by
  refine wpList_plain hgd fun K hK => ?_
  obtain ⟨v, W, hrun, h2, h3⟩ := str_bytes (P := P) w src dst e s hs hd he
  unfold Oper.wp execOp
  simp only [ho, Sem.run_bind, Sem.run_pure, Result.andThen_ok, hx, hrun]
  exact hK _ _ (h v W h3 h2)
/-- string(b) in a walk -/
theorem wpList_tostring {P : Program} {w : World} {ops : Array Oper} {rest : List Oper} {o : Oper} {a : Act} {Q : Exit → Act → World → Prop} (hgd : o.guard = none) (x : Operand) (src dst e : TypeId)
    (ho : o.op = .convert src dst x) (hs : P.underlying src = some (.slice e)) (he : P.underlying e = some (.int .u8)) (hd : P.underlying dst = some .string) (v : Value) (l : List UInt8) (hx : a.eval x = v) (hv : IsBytes w v l)
    (h : wpList P ops Q rest (a.put o.dst (.string (strOf l))) w) : wpList P ops Q (o :: rest) a w := by
  refine wpList_plain hgd fun K hK => ?_
  have hrun := run_string_bytes (P := P) hv src e hs he dst hd
  unfold Oper.wp execOp
  simp only [ho, Sem.run_bind, Sem.run_pure, Result.andThen_ok, hx, hrun]
  exact hK _ _ h
theorem IsBytes.sub {w : World} {b f n c : Nat} {l : List UInt8} (h : IsBytes w (.slice (some ⟨b, f, none⟩) n c) l) (o m c' : Nat) (hm : o + m ≤ l.length) : IsBytes w (.slice (some ⟨b, f + o, none⟩) m c') ((l.drop o).take m) := by
  obtain ⟨A', c1, he, hc⟩ := h
  injection he with e1 e2 e3
  have hlen : ((l.drop o).take m).length = m := by rw [List.length_take, List.length_drop]; omega
  refine ⟨some ⟨b, f + o, none⟩, c', by rw [hlen], fun hp => ⟨b, f + o, rfl, fun j hj => ?_⟩⟩
  rw [hlen] at hp
  obtain ⟨b2, f2, e4, hcell⟩ := hc (by omega)
  rw [← e1] at e4
  injection e4 with e4
  injection e4 with e5 e6 e7
  subst e5 e6
  have hj2 : j < m := by rw [hlen] at hj; exact hj
  have h1 := hcell (o + j) (by omega)
  rw [Nat.add_assoc, h1]
  simp
/-- b[lo:hi] in a walk -/
theorem wpList_slice_bytes {P : Program} {w : World} {ops : Array Oper} {rest : List Oper} {o : Oper} {a : Act} {Q : Exit → Act → World → Prop} (hgd : o.guard = none) (x lo hi : Operand) (t e : TypeId)
    (ho : o.op = .slice t x (some lo) (some hi) none) (ht : P.underlying t = some (.slice e)) (hel : P.elem t = e) (hsz : (P.info? e).map (·.size) = some 1) (b f : Nat) (l : List UInt8) (c : Nat) (hx : a.eval x = .slice (some ⟨b, f, none⟩) l.length c)
    (hv : IsBytes w (.slice (some ⟨b, f, none⟩) l.length c) l) (i j : Nat) (hlo : a.eval lo = .int .i64 (i : Int)) (hhi : a.eval hi = .int .i64 (j : Int)) (hij : i ≤ j) (hjl : j ≤ l.length) (hlc : l.length ≤ c)
    (h : ∀ v, IsBytes w v ((l.drop i).take (j - i)) → wpList P ops Q rest (a.put o.dst v) w) : wpList P ops Q (o :: rest) a w := by
  refine wpList_plain hgd fun K hK => ?_
  have hrun := run_slice_lh (P := P) (w := w) t (some ⟨b, f, none⟩) l.length c (by rw [hel]; exact ht) .i64 .i64 (i : Int) (j : Int) (by omega) (by omega) (by omega)
  have hs : (sizeOf (P.elem t)).run P w = .ok 1 w := by
    rw [hel]
    cases hi : P.info? e with
    | none => rw [hi] at hsz; cases hsz
    | some y =>
      rw [hi] at hsz
      have h1 : y.size = 1 := by simpa using hsz
      simp [sizeOf, typeInfo, hi, h1]
  rw [hs] at hrun
  simp only [Result.andThen_ok, Int.toNat_natCast] at hrun
  unfold Oper.wp execOp
  have hat := run_sliceAt_slice (P := P) (w := w) t (.slice (some ⟨b, f, none⟩) l.length c) (some (.int .i64 (i : Int))) (some (.int .i64 (j : Int))) none (by rw [hel]; exact ht)
  rw [hrun] at hat
  simp only [ho, Option.map_some, Option.map_none, Sem.run_bind, Sem.run_pure, Result.andThen_ok, hx, hlo, hhi, hat]
  refine hK _ _ (h _ ?_)
  unfold sliced
  by_cases hc : c = i
  · rw [if_pos hc]
    have e1 : j - i = 0 := by omega
    rw [e1, List.take_zero]
    exact ⟨_, _, rfl, fun h0 => absurd h0 (by simp)⟩
  · rw [if_neg hc]
    have := hv.sub i (j - i) (c - i) (by omega)
    rw [Option.map_some, Nat.mul_one, Addr.add_lit]
    exact this
end Go.Proofs.Ytcpdgkjelghlnaa
