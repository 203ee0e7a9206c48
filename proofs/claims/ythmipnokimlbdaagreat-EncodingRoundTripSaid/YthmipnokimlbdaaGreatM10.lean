/-
  Texts that the claims of this seat share, put together (FcS, Rl1). No condition.
-/
import Derived.Test.YthmipnokimlbdaaGreatM5
import Derived.Test.YthmipnokimlbdaaGreatM1
import Derived.Test.YthmipnokimlbdaaGreatM2
import Derived.Test.YthmipnokimlbdaaGreatM9
import Derived.Test.YthmipnokimlbdaaGreatMk
import Derived.Lib.AppendStr
import Derived.WalkKit
import Derived.Outline
import Derived.OwnWalk
import Derived.Deep.QuietTactic
import Derived.BigQuiet
import Derived.Laws.Cover1
import Derived.Laws.Concat
import Derived.Test.YthmipnokimlbdaaGreatProg
/-
  Shaken: what the claims of this seat need of this text. No condition.
-/
namespace Go.Proofs.YthmipnokimlbdaaGreat
set_option maxRecDepth 8000
open Go.RowKit
set_option linter.unusedVariables false
set_option linter.unusedSimpArgs false
theorem draws_below {B : Nat} {a w : World} (h : Below B a w) (d : Nat) : Below B a { w with drawn := d } := ⟨h.os, h.tape, h.output, h.size, h.block⟩
theorem growA {w : World} (o : Obj) : Grows w (w.alloc o) := (Below.refl _ _).alloc (Nat.le_refl _) o
theorem strOf_toList (a : Str) : (strOf a).toList = a := by rw [ByteArray.toList_eq]; rfl
theorem strOf_size' (a : Str) : (strOf a).size = a.length := by simp [strOf, ByteArray.size]
theorem eqS (a b : Str) : ((strOf a).toList == (strOf b).toList) = decide (a = b) := by
  rw [strOf_toList, strOf_toList]
  by_cases h : a = b
  · simp [h]
  · simp [h]
theorem strOf_extract (l : List UInt8) (i j : Nat) : (strOf l).extract i j = strOf ((l.drop i).take (j - i)) := by
  apply ByteArray.ext
  apply Array.ext'
  rw [ByteArray.data_extract]
  simp [strOf, List.extract_eq_take_drop]
theorem strOf_get {l : List UInt8} {j : Nat} {b : UInt8} (hb : l[j]? = some b) : ∀ h : j < (strOf l).size, (strOf l)[j]'h = b := fun h => by
  have hlt : j < l.length := h
  have h1 : l[j]'hlt = b := by
    rw [List.getElem?_eq_getElem hlt] at hb
    injection hb
  rw [← h1]
  rfl
def scells (l : List Str) : List Value := l.map fun s => .string (strOf s)
theorem scells_length (l : List Str) : (scells l).length = l.length := by simp [scells]
theorem scells_get {l : List Str} {j : Nat} (h : j < l.length) : (scells l)[j]? = some (.string (strOf l[j])) := by simp [scells, h]
theorem scells_snoc (l : List Str) (s : Str) : scells (l ++ [s]) = scells l ++ [.string (strOf s)] := by simp [scells]
def IsS (w : World) (v : Value) (l : List Str) : Prop := Reads w v (scells l)
theorem IsS.grow {w w' : World} {v : Value} {l : List Str} (h : IsS w v l) (hb : Grows w w') : IsS w' v l := Reads.grow h hb
theorem IsS.slice_ {w : World} {v : Value} {l : List Str} (h : IsS w v l) : ∃ A c, v = .slice A l.length c := by
  obtain ⟨A, c, h1, h2⟩ := Reads.slice_ h
  rw [scells_length] at h1
  exact ⟨A, c, h1⟩
theorem IsS.at_ {w : World} {A : Option Addr} {c n : Nat} {l : List Str} (h : IsS w (.slice A n c) l) {k : Nat} (hk : k < l.length) : ∃ b f, A = some ⟨b, f, none⟩ ∧ w.cell? ⟨b, f + k, none⟩ = some (.string (strOf l[k])) := by
  obtain ⟨A', c', he, _, hc⟩ := h
  injection he with e1 e2 e3
  subst e1
  obtain ⟨b, f, rfl, hcell⟩ := hc (by rw [scells_length]; omega)
  refine ⟨b, f, rfl, ?_⟩
  rw [hcell k (by rw [scells_length]; exact hk), scells_get hk]
theorem IsS.all_ {w : World} {A : Option Addr} {c n : Nat} {l : List Str} (h : IsS w (.slice A n c) l) (h0 : 0 < l.length) : ∃ b f, A = some ⟨b, f, none⟩ ∧ ∀ W, Grows w W → ∀ k, (hk : k < l.length) → W.cell? ⟨b, f + k, none⟩ = some (.string (strOf l[k])) := by
  obtain ⟨b, f, rfl, _⟩ := h.at_ h0
  refine ⟨b, f, rfl, fun W hW k hk => ?_⟩
  obtain ⟨b2, f2, he, hc⟩ := (h.grow hW).at_ hk
  injection he with he
  injection he with e1 e2
  subst e1 e2
  exact hc
theorem own_growS {w w' : World} {base : Nat} {e : TypeId} {size : Nat} {v : Value} {n : Nat} {xs : List Value} (h : w.ownsRow base e size v n xs) (hb : Grows w w') : w'.ownsRow base e size v n xs := by
  refine ⟨h.1, ?_⟩
  rcases h.2 with h0 | ⟨g, cap, cur, h1, h2, h3, h4⟩
  · exact .inl h0
  · exact .inr ⟨g, cap, cur, h1, h2, (hb.block g (Array.getElem?_eq_some_iff.1 h3).1).trans h3, h4⟩
theorem wpList_append_s {wr : World} {ops : Array Oper} {rest : List Oper} {o : Oper} {a : Act} {Q : Exit → Act → World → Prop} (hgd : o.guard = none) (s x : Operand)
    (ho : o.op = .call { callee := .builtin .append, args := #[s, x], argTypes := #[23, 23] })
    (v : Value) (pre : List Str) (hs : a.eval s = v) (base : Nat) (hown : wr.ownsRow base 9 1 v pre.length (scells pre)) (w0 : World) (hb : Below base w0 wr) (hbase : base ≤ wr.heap.size)
    (z : Str) (b : ByteArray) (hz : b = strOf z) (hx : a.eval x = .slice (some ⟨wr.heap.size, 0, none⟩) 1 1) (hlen : pre.length + 1 ≤ 1000000000000)
    (h : ∀ v' w', w'.ownsRow base 9 1 v' (pre ++ [z]).length (scells (pre ++ [z])) → Below base w0 w' → wpList Tryz.prog ops Q rest (a.put o.dst v') w') :
    wpList Tryz.prog ops Q (o :: rest) a (wr.alloc (.cells #[.string b] 9)) := by
  subst hz
  obtain ⟨i0, hi, hz0, hz1, hz2⟩ := info_parts info_str
  refine wpList_append_own _ hgd s x 23 ho base 9 i0 (.string ⟨#[]⟩) 1 16 Tryz.underlying23 hi hz0 hz1 hz2 rfl (by decide) v pre.length (scells pre) hs (hown.alloc _) ⟨wr.heap.size, 0, none⟩ 1 1 [.string (strOf z)] hx rfl ?_ ?_ ?_ ?_ ?_ ?_
  · intro j u hj
    match j, hj with
    | 0, hj => simp at hj; subst hj; simp [Addr.add]
  · intro u hu; simp at hu; subst hu; rfl
  · unfold maxLen; omega
  · omega
  · simp; omega
  · intro v' w' h1 h2 _
    rw [← scells_snoc, show pre.length + 1 = (pre ++ [z]).length by simp] at h1
    exact h v' w' h1 ((hb.alloc hbase _).grown h2 (by simp; omega) (fun k hk => (hown.lt k hk).1))
theorem own_sliceS {w : World} {base : Nat} {e : TypeId} {v : Value} {l : List Str} (h : w.ownsRow base e 1 v l.length (scells l)) : ∃ A c, v = .slice A l.length c := by
  rcases h.2 with ⟨rfl, h0⟩ | ⟨g, cap, cur, rfl, _⟩
  · refine ⟨none, 0, ?_⟩
    rw [h0]
  · exact ⟨_, cap, rfl⟩
theorem some_of_bytes {w : World} {A : Option Addr} {n c : Nat} {l : List UInt8} (h : IsBytes w (.slice A n c) l) (h0 : 0 < l.length) : ∃ b f, A = some ⟨b, f, none⟩ := by
  obtain ⟨A', c', he, hc⟩ := h
  injection he with e1 e2 e3
  subst e1
  obtain ⟨b, f, rfl, _⟩ := hc h0
  exact ⟨b, f, rfl⟩
theorem own_emptyS (w : World) {base : Nat} (hb : base ≤ w.heap.size) : (w.alloc (.cells #[] 9)).ownsRow base 9 1 (.slice (some ⟨w.heap.size, 0, none⟩) 0 0) ([] : List Str).length (scells []) :=
  (Row.new w 9 #[] [] rfl).own hb (by simp [maxLen])
def ConstV (u : Value) : Value → World → Prop := fun v _ => v = u
theorem ConstV.lasts {u : Value} : ∀ v w w', ConstV u v w → Grows w w' → ConstV u v w' := fun _ _ _ h _ => h
def BytesV (l : List UInt8) : Value → World → Prop := fun v w => IsBytes w v l
theorem BytesV.lasts {l : List UInt8} : ∀ v w w', BytesV l v w → Grows w w' → BytesV l v w' := fun _ _ _ h hg => IsBytes.grow h hg
theorem const_loose {f : FuncId} {args : Array Value} {w : World} {u : Value} (h : Calls Tryz.prog f args w fun e w' => e = .returned u ∧ Grows w w') : Calls Tryz.prog f args w fun e w' => ∃ v, e = .returned v ∧ Grows w w' ∧ ConstV u v w' :=
  h.mono fun _ _ ⟨he, hw⟩ => ⟨_, he, hw, rfl⟩
theorem const_loose0 {f : FuncId} {args : Array Value} {w : World} {u : Value} (h : Calls Tryz.prog f args w fun e w' => e = .returned u ∧ w = w') : Calls Tryz.prog f args w fun e w' => ∃ v, e = .returned v ∧ Grows w w' ∧ ConstV u v w' :=
  h.mono fun _ _ ⟨he, hw⟩ => ⟨_, he, by rw [hw]; exact Below.refl _ _, rfl⟩
theorem made_loose {f : FuncId} {args : Array Value} {w : World} {l : List UInt8} (h : Calls Tryz.prog f args w (Made l w)) : Calls Tryz.prog f args w fun e w' => ∃ v, e = .returned v ∧ Grows w w' ∧ BytesV l v w' :=
  h.mono fun _ _ ⟨v, he, hown, hb⟩ => ⟨v, he, hb, IsBytes.of_own hown⟩
def tabRs : List (Nat × (Value → World → Prop)) → Loose
  | [], _ => none
  | (j, R) :: L, i => if i = j then some R else tabRs L i
theorem tabRs_nil : (tabRs []).lasts := fun _ _ h => by cases h
theorem tabRs_cons {j : Nat} {R : Value → World → Prop} {L : List (Nat × (Value → World → Prop))} (h : ∀ v w w', R v w → Grows w w' → R v w') (hL : (tabRs L).lasts) : (tabRs ((j, R) :: L)).lasts := fun i R' hR => by
  unfold tabRs at hR
  split at hR
  · injection hR with hR; subst hR; exact h
  · exact hL i R' hR
theorem slice_reads2 {w : World} {A : Option Addr} {c o p : Nat} {l : List UInt8} (h : IsBytes w (.slice A l.length c) l) (hop : o ≤ p) (hpl : p ≤ l.length) (hlc : l.length ≤ c) :
    IsBytes w (.slice (if c = o then A else Option.map (fun x => x.add o) A) (p - o) (c - o)) ((l.drop o).take (p - o)) := by
  by_cases hpo : p = o
  · have e1 : p - o = 0 := by omega
    rw [e1, List.take_zero]
    exact ⟨_, _, rfl, fun h0 => absurd h0 (by simp)⟩
  · obtain ⟨A', c', he, hc⟩ := h
    injection he with e1 e2 e3
    subst e1
    obtain ⟨b, f, rfl, hcell⟩ := hc (by omega)
    rw [if_neg (by omega), Option.map_some, Addr.add_lit]
    exact IsBytes.sub ⟨some ⟨b, f, none⟩, c, rfl, fun _ => ⟨b, f, rfl, hcell⟩⟩ o (p - o) (c - o) (by omega)
def CapV (L : List UInt8) : Value → World → Prop := fun v w => ∃ A c, v = .slice A L.length c ∧ L.length ≤ c ∧ IsBytes w v L
theorem CapV.lasts {L : List UInt8} : ∀ v w w', CapV L v w → Grows w w' → CapV L v w' := fun _ _ _ ⟨A, c, h1, h2, h3⟩ hg => ⟨A, c, h1, h2, h3.grow hg⟩
theorem capV_own {w : World} {base : Nat} {v : Value} {L : List UInt8} (h : w.ownsRow base 5 1 v L.length (bcells L)) : CapV L v w := by
  have hu := IsBytes.of_own h
  rcases h.2 with ⟨h1, h2⟩ | ⟨g, cap, cur, h1, _, _, h3, _⟩
  · exact ⟨none, 0, by rw [h1, h2], by omega, hu⟩
  · exact ⟨_, cap, h1, h3, hu⟩
theorem made_cap {f : FuncId} {args : Array Value} {w : World} {l : List UInt8} (h : Calls Tryz.prog f args w (Made l w)) : Calls Tryz.prog f args w fun e w' => ∃ v, e = .returned v ∧ Grows w w' ∧ CapV l v w' :=
  h.mono fun _ _ ⟨v, he, hown, hb⟩ => ⟨v, he, hb, capV_own hown⟩
theorem own_sliceB {w : World} {base : Nat} {e : TypeId} {v : Value} {l : List UInt8} (h : w.ownsRow base e 1 v l.length (bcells l)) : ∃ A c, v = .slice A l.length c := by
  rcases h.2 with ⟨rfl, h0⟩ | ⟨g, cap, cur, rfl, _⟩
  · exact ⟨none, 0, by rw [h0]⟩
  · exact ⟨_, cap, rfl⟩
theorem wpList_append_str {P : Program} {w wr : World} {ops : Array Oper} {rest : List Oper} {o : Oper} {a : Act} {Q : Exit → Act → World → Prop} (hgd : o.guard = none) (sl x : Operand) (t u : TypeId)
    (ho : o.op = .call { callee := .builtin .append, args := #[sl, x], argTypes := #[t, u] })
    (e : TypeId) (ht : P.underlying t = some (.slice e)) (hu : P.underlying u = some .string) (hinfo : (P.info? e).map (fun i => (i.zero, i.size, i.bytes)) = some (some (.int .u8 0), 1, 1))
    (v : Value) (pre : List UInt8) (hs : a.eval sl = v) (hown : wr.ownsRow w.heap.size e 1 v pre.length (bcells pre)) (hb : Below w.heap.size w wr)
    (l : List UInt8) (hx : a.eval x = .string (strOf l)) (hlen : pre.length + l.length ≤ 140737488355328)
    (h : ∀ v' w', w'.ownsRow w.heap.size e 1 v' (pre ++ l).length (bcells (pre ++ l)) → Below w.heap.size w w' → wpList P ops Q rest (a.put o.dst v') w') :
    wpList P ops Q (o :: rest) a wr := by
  obtain ⟨i0, hi, hz0, hz1, hz2⟩ := info_parts hinfo
  have hsz : (strOf l).size = l.length := rfl
  refine Lib.wpList_append_own_string _ hgd sl x t u ho w.heap.size e i0 ht hu hi hz0 hz1 hz2 v pre.length (bcells pre) hs hown (strOf l) hx (by rw [hsz]; unfold maxLen; omega) (by rw [hsz]; exact hlen) hb.size ?_
  intro v' w' h1 h2 _
  rw [show Lib.strCells (strOf l) = bcells l from rfl, ← bcells_append, hsz, ← List.length_append] at h1
  exact h v' w' h1 (hb.grown h2 hb.size (fun k hk => (hown.lt k hk).1))
end Go.Proofs.YthmipnokimlbdaaGreat
/-
  Shaken: what the claims of this seat need of this text. No condition.
-/
namespace Go.Proofs.YthmipnokimlbdaaGreat
set_option maxRecDepth 8000
open Go.RowKit
set_option linter.unusedVariables false
set_option linter.unusedSimpArgs false
def ReadsR (w : World) (v : Value) (l : List Rn) : Prop :=
  ∃ A c, v = .slice A l.length c ∧ l.length ≤ c ∧ (0 < l.length → ∃ b off, A = some ⟨b, off, none⟩ ∧ ∀ j x, l[j]? = some x → w.cell? ⟨b, off + j * 2, none⟩ = some (.int .i64 x.1) ∧ w.cell? ⟨b, off + j * 2 + 1, none⟩ = some (.int .i64 x.2))
theorem ReadsR.grow {w w' : World} {v : Value} {l : List Rn} (h : ReadsR w v l) (hb : Grows w w') : ReadsR w' v l := by
  obtain ⟨A, c, rfl, hle, hc⟩ := h
  refine ⟨A, c, rfl, hle, fun hl => ?_⟩
  obtain ⟨b, off, rfl, hcell⟩ := hc hl
  refine ⟨b, off, rfl, fun j x hj => ?_⟩
  obtain ⟨h1, h2⟩ := hcell j x hj
  exact ⟨(hb.cell (World.block_lt_of_cell? w _ h1)).trans h1, (hb.cell (World.block_lt_of_cell? w _ h2)).trans h2⟩
theorem ReadsR.slice_ {w : World} {v : Value} {l : List Rn} (h : ReadsR w v l) : ∃ A c, v = .slice A l.length c := by
  obtain ⟨A, c, h1, _⟩ := h; exact ⟨A, c, h1⟩
theorem ReadsR.at_ {w : World} {A : Option Addr} {c n : Nat} {l : List Rn} (h : ReadsR w (.slice A n c) l) : ∃ b off, (0 < l.length → A = some ⟨b, off, none⟩) ∧ ∀ j, (hj : j < l.length) → w.cell? ⟨b, off + j * 2, none⟩ = some (.int .i64 l[j].1) ∧ w.cell? ⟨b, off + j * 2 + 1, none⟩ = some (.int .i64 l[j].2) := by
  obtain ⟨A', c', he, _, hc⟩ := h
  injection he with e1 e2 e3
  subst e1
  by_cases h0 : 0 < l.length
  · obtain ⟨b, off, rfl, hcell⟩ := hc h0
    exact ⟨b, off, fun _ => rfl, fun j hj => hcell j _ (List.getElem?_eq_getElem hj)⟩
  · exact ⟨0, 0, fun h => absurd h h0, fun j hj => absurd hj (by omega)⟩
theorem ReadsR.nil_ (w : World) (c : Nat) : ReadsR w (.slice none 0 c) [] := ⟨none, c, rfl, Nat.zero_le _, fun h => absurd h (by simp)⟩
theorem validR_t {l : List Rn} (h : ∀ k, k < l.length → okRun l k = true) : validR l = true := validR_iff.2 h
theorem validR_f {l : List Rn} {j : Nat} (hj : j < l.length) (h : okRun l j = false) : validR l = false := by
  cases hv : validR l
  · rfl
  · rw [validR_iff.1 hv j hj] at h; cases h
end Go.Proofs.YthmipnokimlbdaaGreat
