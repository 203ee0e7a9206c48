/-
  Run lengths of a row of bits and their encoding, as plain functions; decoding inverts encoding, and what is accepted is encoded to the same bytes. No condition.
-/
import Derived.Test.YtnjmbhakfecdoaaBsNum
namespace Go.Proofs.Ytnjmbhakfecdoaa
open Go.RowKit

/-- the bits that run lengths stand for, beginning with on -/
def expand : Bool → List Nat → List Bool
  | _, [] => []
  | on, r :: t => List.replicate r on ++ expand (!on) t
/-- no run but the first is empty -/
def good : Bool → List Nat → Prop
  | _, [] => True
  | first, r :: t => (first = true ∨ 1 ≤ r) ∧ good false t
def flipN (on : Bool) (k : Nat) : Bool := if k % 2 = 0 then on else !on
theorem flipN_succ (on : Bool) (k : Nat) : flipN (!on) k = flipN on (k + 1) := by
  unfold flipN
  have h : k % 2 = 0 ∨ k % 2 = 1 := by omega
  rcases h with h | h
  · rw [if_pos h, if_neg (by omega)]
  · rw [if_neg (by omega), if_pos (by omega), Bool.not_not]
theorem expand_snoc : ∀ (o : List Nat) (on : Bool) (m : Nat), expand on (o ++ [m]) = expand on o ++ List.replicate m (flipN on o.length)
  | [], on, m => by simp [expand, flipN]
  | r :: o, on, m => by rw [List.cons_append, expand, expand, expand_snoc o, List.append_assoc, flipN_succ]; rfl
theorem good_snoc : ∀ (o : List Nat) (first : Bool) (m : Nat), good first o → ((o = [] ∧ first = true) ∨ 1 ≤ m) → good first (o ++ [m])
  | [], first, m, _, h => ⟨by rcases h with h | h; exact .inl h.2; exact .inr h, trivial⟩
  | r :: o, first, m, hg, h => by
    refine ⟨hg.1, good_snoc o false m hg.2 (.inr ?_)⟩
    rcases h with h | h
    · exact absurd h.1 (by simp)
    · exact h

theorem expand_good_nil : ∀ {on : Bool} {t : List Nat}, good false t → expand on t = [] → t = []
  | _, [], _, _ => rfl
  | on, r :: t, hg, h => by
    have h1 : 1 ≤ r := by
      rcases hg.1 with h | h
      · cases h
      · exact h
    have := congrArg List.length h
    simp [expand] at this
    omega
/-- a row of bits has one list of runs -/
theorem runs_unique : ∀ {rs rs' : List Nat} {on first : Bool}, good first rs → good first rs' → (rs = [] ↔ rs' = []) → expand on rs = expand on rs' → rs = rs'
  | [], rs', _, _, _, _, h, _ => (h.1 rfl).symm
  | r :: t, [], _, _, _, _, h, _ => h.2 rfl
  | r :: t, r' :: t', on, first, hg, hg', _, he => by
    have key : ∀ {a b : Nat} {u u' : List Nat}, good false u → a < b → List.replicate a on ++ expand (!on) u = List.replicate b on ++ expand (!on) u' → False := by
      intro a b u u' hu hab h
      have h1 : (List.replicate a on ++ expand (!on) u)[a]? = (List.replicate b on ++ expand (!on) u')[a]? := by rw [h]
      rw [List.getElem?_append_right (by simp), List.getElem?_append_left (by simp; exact hab), List.length_replicate, Nat.sub_self] at h1
      rw [List.getElem?_replicate, if_pos hab] at h1
      cases u with
      | nil => simp [expand] at h1
      | cons x u =>
        have hx : 1 ≤ x := by
          rcases hu.1 with h | h
          · cases h
          · exact h
        rw [expand, List.getElem?_append_left (by simp; omega), List.getElem?_replicate, if_pos (by omega)] at h1
        injection h1 with h1
        cases on <;> cases h1
    rw [expand, expand] at he
    rcases Nat.lt_trichotomy r r' with h | h | h
    · exact (key hg.2 h he).elim
    · subst h
      have h2 := List.append_cancel_left he
      have h3 : (t = [] ↔ t' = []) := by
        constructor
        · intro e; subst e; exact expand_good_nil hg'.2 h2.symm
        · intro e; subst e; exact expand_good_nil hg.2 h2
      rw [runs_unique hg.2 hg'.2 h3 h2]
    · exact (key hg'.2 h he.symm).elim

/-- the runs so far, the bit of the current run, its length -/
def rst (f : Nat → Bool) : Nat → List Nat × Bool × Nat
  | 0 => ([], false, 0)
  | i + 1 => if f i = (rst f i).2.1 then ((rst f i).1, (rst f i).2.1, (rst f i).2.2 + 1) else ((rst f i).1 ++ [(rst f i).2.2], !(rst f i).2.1, 1)
theorem rst_same {f : Nat → Bool} {i : Nat} (h : f i = (rst f i).2.1) : rst f (i + 1) = ((rst f i).1, (rst f i).2.1, (rst f i).2.2 + 1) := by rw [rst, if_pos h]
theorem rst_turn {f : Nat → Bool} {i : Nat} (h : f i ≠ (rst f i).2.1) : rst f (i + 1) = ((rst f i).1 ++ [(rst f i).2.2], !(rst f i).2.1, 1) := by rw [rst, if_neg h]
def runs (f : Nat → Bool) (n : Nat) : List Nat := if n = 0 then [] else (rst f n).1 ++ [(rst f n).2.2]
def bitsOf (f : Nat → Bool) (n : Nat) : List Bool := (List.range n).map f
theorem bitsOf_length (f : Nat → Bool) (n : Nat) : (bitsOf f n).length = n := by simp [bitsOf]
theorem bitsOf_succ (f : Nat → Bool) (n : Nat) : bitsOf f (n + 1) = bitsOf f n ++ [f n] := by simp [bitsOf, List.range_succ]
theorem rst_inv (f : Nat → Bool) : ∀ i, (rst f i).2.1 = flipN false (rst f i).1.length ∧ expand false ((rst f i).1 ++ [(rst f i).2.2]) = bitsOf f i ∧ good true (rst f i).1 ∧ ((rst f i).1 = [] ∨ 1 ≤ (rst f i).2.2)
  | 0 => ⟨rfl, rfl, trivial, .inl rfl⟩
  | i + 1 => by
    obtain ⟨h1, h2, h3, h4⟩ := rst_inv f i
    rw [expand_snoc, ← h1] at h2
    by_cases h : f i = (rst f i).2.1
    · rw [rst_same h]
      refine ⟨h1, ?_, h3, .inr (by simp)⟩
      rw [expand_snoc, ← h1, bitsOf_succ, ← h2, List.replicate_succ', List.append_assoc, h]
    · have hn : f i = !(rst f i).2.1 := by cases hf : f i <;> cases hr : (rst f i).2.1 <;> simp_all
      have hfl : flipN false ((rst f i).1 ++ [(rst f i).2.2]).length = !(rst f i).2.1 := by
        rw [List.length_append, List.length_singleton, ← flipN_succ, h1]
        unfold flipN
        split <;> rfl
      rw [rst_turn h]
      refine ⟨hfl.symm, ?_, ?_, .inr (Nat.le_refl _)⟩
      · rw [expand_snoc, expand_snoc, ← h1, hfl, bitsOf_succ, ← h2, hn]
        rfl
      · refine good_snoc _ _ _ h3 ?_
        rcases h4 with h4 | h4
        · exact .inl ⟨h4, rfl⟩
        · exact .inr h4
theorem runs_expand (f : Nat → Bool) (n : Nat) : expand false (runs f n) = bitsOf f n := by
  unfold runs
  split
  · rename_i h; subst h; rfl
  · exact (rst_inv f n).2.1
theorem runs_good (f : Nat → Bool) (n : Nat) : good true (runs f n) := by
  unfold runs
  split
  · trivial
  · obtain ⟨_, _, h3, h4⟩ := rst_inv f n
    refine good_snoc _ _ _ h3 ?_
    rcases h4 with h4 | h4
    · exact .inl ⟨h4, rfl⟩
    · exact .inr h4
theorem runs_nil (f : Nat → Bool) (n : Nat) : runs f n = [] ↔ n = 0 := by
  unfold runs
  split <;> simp_all
theorem expand_length : ∀ (rs : List Nat) (on : Bool), (expand on rs).length = rs.sum
  | [], _ => rfl
  | r :: t, on => by rw [expand, List.length_append, List.length_replicate, expand_length t, List.sum_cons]
theorem runs_sum (f : Nat → Bool) (n : Nat) : (runs f n).sum = n := by rw [← expand_length _ false, runs_expand, bitsOf_length]
theorem mem_le_sum : ∀ {rs : List Nat} {r : Nat}, r ∈ rs → r ≤ rs.sum
  | x :: t, r, h => by
    rw [List.sum_cons]
    rcases List.mem_cons.1 h with rfl | h
    · omega
    · have := mem_le_sum h; omega
theorem runs_le (f : Nat → Bool) (n : Nat) : ∀ r ∈ runs f n, r ≤ n := fun r h => by have := mem_le_sum h; rwa [runs_sum] at this

/-! ### encoding -/
def encS (n : Nat) (f : Nat → Bool) : List UInt8 := enc n ++ (runs f n).flatMap enc

/-- run by run until n bits are covered: the bits, the offset behind, the error -/
def decR (l : List UInt8) (n : Nat) : Nat → List Bool → Bool → Bool → Int → List Bool × Int × Int
  | 0, _, _, _, _ => ([], 0, 0)
  | k + 1, out, on, first, p =>
    if n ≤ out.length then (out, p, 0)
    else if (dcd l p).2.2 ≠ 0 then ([], 0, (dcd l p).2.2)
    else if ((dcd l p).1 = 0 ∧ first = false) ∨ ((n : Int) - out.length < (dcd l p).1) then ([], 0, 4)
    else decR l n k (out ++ List.replicate (dcd l p).1.toNat on) (!on) false (dcd l p).2.1
theorem decR_done {l : List UInt8} {n k : Nat} {out : List Bool} {on first : Bool} {p : Int} (h : n ≤ out.length) : decR l n (k + 1) out on first p = (out, p, 0) := by rw [decR, if_pos h]
theorem decR_err {l : List UInt8} {n k : Nat} {out : List Bool} {on first : Bool} {p : Int} (h : ¬ n ≤ out.length) (he : (dcd l p).2.2 ≠ 0) : decR l n (k + 1) out on first p = ([], 0, (dcd l p).2.2) := by rw [decR, if_neg h, if_pos he]
theorem decR_bad {l : List UInt8} {n k : Nat} {out : List Bool} {on first : Bool} {p : Int} (h : ¬ n ≤ out.length) (he : (dcd l p).2.2 = 0)
    (hb : ((dcd l p).1 = 0 ∧ first = false) ∨ ((n : Int) - out.length < (dcd l p).1)) : decR l n (k + 1) out on first p = ([], 0, 4) := by rw [decR, if_neg h, if_neg (by simpa using he), if_pos hb]
theorem decR_next {l : List UInt8} {n k : Nat} {out : List Bool} {on first : Bool} {p : Int} (h : ¬ n ≤ out.length) (he : (dcd l p).2.2 = 0)
    (hb : ¬ (((dcd l p).1 = 0 ∧ first = false) ∨ ((n : Int) - out.length < (dcd l p).1))) :
    decR l n (k + 1) out on first p = decR l n k (out ++ List.replicate (dcd l p).1.toNat on) (!on) false (dcd l p).2.1 := by rw [decR, if_neg h, if_neg (by simpa using he), if_neg hb]

/-- N, the bits, the offset behind, the error -/
def decS (l : List UInt8) (off : Int) : Nat × List Bool × Int × Int :=
  if (dcd l off).2.2 ≠ 0 then (0, [], 0, (dcd l off).2.2)
  else if 1048576 < (dcd l off).1 then (0, [], 0, 6)
  else
    let r := decR l (dcd l off).1.toNat ((dcd l off).1.toNat + 2) [] false true (dcd l off).2.1
    if r.2.2 ≠ 0 then (0, [], 0, r.2.2) else ((dcd l off).1.toNat, r.1, r.2.1, 0)

/-- a varint at an offset -/
theorem dcd_at {l a r : List UInt8} {n : Nat} (hn : n < 18446744073709551616) (hl : l = a ++ (enc n ++ r)) : dcd l (a.length : Int) = ((n : Int), ((a ++ enc n).length : Int), 0) := by
  have hd : dec 0 0 (l.drop ((a.length : Int)).toNat) = (n, esz n, 0) := by
    rw [Int.toNat_natCast, hl, List.drop_left]
    exact dec_enc hn r
  rw [dcd_ok (by rw [hl]; simp; omega) hd, if_pos rfl, List.length_append, enc_length hn]
  simp

theorem decR_runs : ∀ (rs : List Nat) (l a r : List UInt8) (n k : Nat) (out : List Bool) (on first : Bool), good first rs → (∀ x ∈ rs, x < 18446744073709551616) → out.length + rs.sum = n → rs.length < k → l = a ++ (rs.flatMap enc ++ r) →
    (rs = [] ∨ out.length < n) → decR l n k out on first (a.length : Int) = (out ++ expand on rs, ((a ++ rs.flatMap enc).length : Int), 0)
  | [], l, a, r, n, k + 1, out, on, first, _, _, hs, _, _, _ => by
    rw [decR_done (by simp at hs; omega)]
    simp [expand]
  | x :: rs, l, a, r, n, k + 1, out, on, first, hg, hb, hs, hk, hl, hne => by
    have hx := hb x (List.mem_cons_self ..)
    have hlt : out.length < n := by
      rcases hne with h | h
      · cases h
      · exact h
    rw [List.sum_cons] at hs
    have hd := dcd_at (l := l) (a := a) (r := rs.flatMap enc ++ r) hx (by rw [hl, List.flatMap_cons, List.append_assoc])
    rw [decR_next (by omega) (by rw [hd]) (by
      rw [hd]
      intro h
      rcases h with ⟨h1, h2⟩ | h
      · rcases hg.1 with h3 | h3
        · rw [h2] at h3; cases h3
        · have : (x : Int) = 0 := h1
          omega
      · have : (n : Int) - out.length < (x : Int) := h
        omega)]
    rw [hd]
    simp only [Int.toNat_natCast]
    have hlen : (out ++ List.replicate x on).length = out.length + x := by simp
    have ih := decR_runs rs l (a ++ enc x) r n k (out ++ List.replicate x on) (!on) false hg.2 (fun y hy => hb y (List.mem_cons_of_mem _ hy)) (by rw [hlen]; omega) (by simp at hk; omega)
      (by rw [hl, List.flatMap_cons]; simp) (by
        cases rs with
        | nil => exact .inl rfl
        | cons y t =>
          have hy : 1 ≤ y := by
            rcases hg.2.1 with h | h
            · cases h
            · exact h
          refine .inr ?_
          rw [hlen]
          rw [List.sum_cons] at hs
          omega)
    rw [ih, expand, List.flatMap_cons]
    simp
  | [], _, _, _, _, 0, _, _, _, _, _, _, hk, _, _ => by simp at hk
  | _ :: _, _, _, _, _, 0, _, _, _, _, _, _, hk, _, _ => by simp at hk

theorem runs_length_le {f : Nat → Bool} {n : Nat} : (runs f n).length ≤ n + 1 := by
  have key : ∀ (rs : List Nat) (first : Bool), good first rs → rs.length ≤ rs.sum + (if first then 1 else 0) := by
    intro rs
    induction rs with
    | nil => intro first _; simp
    | cons x t ih =>
      intro first hg
      have := ih false hg.2
      rw [List.sum_cons, List.length_cons]
      rcases hg.1 with h | h
      · subst h; simp at this ⊢; omega
      · simp at this; split <;> omega
  have := key _ _ (runs_good f n)
  rw [runs_sum] at this
  simpa using this

/-- Decode inverts Encode -/
theorem decS_encS {l a r : List UInt8} {n : Nat} {f : Nat → Bool} (hn : n ≤ 1048576) (hl : l = a ++ (encS n f ++ r)) : decS l (a.length : Int) = (n, bitsOf f n, ((a ++ encS n f).length : Int), 0) := by
  have hd := dcd_at (l := l) (a := a) (r := (runs f n).flatMap enc ++ r) (n := n) (by omega) (by rw [hl, encS, List.append_assoc])
  unfold decS
  rw [hd]
  have hr := decR_runs (runs f n) l (a ++ enc n) r n (n + 2) [] false true (runs_good f n) (fun x hx => by have := runs_le f n x hx; omega) (by rw [runs_sum]; simp) (by have := runs_length_le (f := f) (n := n); omega)
    (by rw [hl, encS]; simp) (by
      rcases Nat.eq_zero_or_pos n with h | h
      · exact .inl ((runs_nil f n).2 h)
      · exact .inr h)
  simp only [Int.toNat_natCast]
  rw [hr, if_neg (by simp), if_neg (by omega)]
  simp only [ne_eq, not_true_eq_false, if_false]
  rw [runs_expand, encS]
  simp

/-- what has been accepted are runs -/
theorem decR_good : ∀ (k : Nat) (l : List UInt8) (n : Nat) (out : List Bool) (on first : Bool) (p : Nat) (o : List Bool) (q : Int), p ≤ l.length → out.length ≤ n → (first = true → out = []) → n + 1 < out.length + k + (if first then 0 else 1) → decR l n k out on first (p : Int) = (o, q, 0) →
    ∃ (rs : List Nat) (m : Nat), q = (m : Int) ∧ p ≤ m ∧ m ≤ l.length ∧ good first rs ∧ o = out ++ expand on rs ∧ o.length = n ∧ l.drop p = rs.flatMap enc ++ l.drop m ∧ (rs = [] ↔ n ≤ out.length)
  | 0, l, n, out, on, first, p, o, q, hp, ho, hf, hk, h => by
    split at hk
    · rename_i h1; have := hf h1; subst this; simp at hk
    · omega
  | k + 1, l, n, out, on, first, p, o, q, hp, ho, hf, hk, h => by
    by_cases hd : n ≤ out.length
    · rw [decR_done hd] at h
      injection h with h1 h2
      injection h2 with h2 _
      subst h1
      exact ⟨[], p, h2.symm, Nat.le_refl _, hp, trivial, by simp [expand], by omega, by simp, by simp [hd]⟩
    · by_cases he : (dcd l (p : Int)).2.2 = 0
      · by_cases hb : ((dcd l (p : Int)).1 = 0 ∧ first = false) ∨ ((n : Int) - out.length < (dcd l (p : Int)).1)
        · rw [decR_bad hd he hb] at h
          injection h with _ h2
          injection h2 with _ h3
          exact absurd h3 (by decide)
        · rw [decR_next hd he hb] at h
          obtain ⟨x, j, e, hde⟩ : ∃ x j e, dec 0 0 (l.drop p) = (x, j, e) := ⟨_, _, _, rfl⟩
          have hdc : dcd l (p : Int) = ((x : Int), if e = 0 then (p : Int) + j else 0, (e : Int)) := dcd_ok (by omega) (by rw [Int.toNat_natCast]; exact hde)
          have he0 : e = 0 := by
            rw [hdc] at he
            have : (e : Int) = 0 := he
            omega
          subst he0
          rw [if_pos rfl] at hdc
          rw [hdc] at h hb
          simp only [Int.toNat_natCast] at h
          obtain ⟨henc, hj1, hj2⟩ := enc_dec hde
          rw [List.length_drop] at hj2
          have hxb : out.length + x ≤ n := by
            have h1 : ¬ ((n : Int) - out.length < (x : Int)) := fun h => hb (.inr h)
            omega
          have hx1 : first = true ∨ 1 ≤ x := by
            cases first with
            | true => exact .inl rfl
            | false =>
              refine .inr ?_
              have h1 : ¬ ((x : Int) = 0) := fun h => hb (.inl ⟨h, rfl⟩)
              omega
          have hlen : (out ++ List.replicate x on).length = out.length + x := by simp
          rw [show ((p : Int) + (j : Int)) = ((p + j : Nat) : Int) by omega] at h
          obtain ⟨rs, m, h1, h2, h3, h4, h5, h6, h7, h8⟩ := decR_good k l n (out ++ List.replicate x on) (!on) false (p + j) o q (by omega) (by rw [hlen]; omega) (by simp) (by
            rw [hlen]
            rcases hx1 with h | h
            · subst h
              have := hf rfl
              subst this
              simp at hk ⊢
              omega
            · split at hk <;> simp <;> omega) h
          refine ⟨x :: rs, m, h1, by omega, h3, ⟨hx1, h4⟩, ?_, h6, ?_, ?_⟩
          · rw [h5, expand, List.append_assoc]
          · have e1 : l.drop p = enc x ++ l.drop (p + j) := by
              rw [henc, ← List.drop_drop, List.take_append_drop]
            rw [e1, h7, List.flatMap_cons, List.append_assoc]
          · constructor
            · intro h; cases h
            · intro h; exact absurd h hd
      · rw [decR_err hd he] at h
        injection h with _ h2
        injection h2 with _ h3
        exact absurd h3 he

theorem bitsOf_getD (o : List Bool) : bitsOf (fun i => o[i]?.getD false) o.length = o := by
  apply List.ext_getElem?
  intro i
  unfold bitsOf
  rw [List.getElem?_map]
  by_cases h : i < o.length
  · simp [h]
  · rw [List.getElem?_eq_none (by simp; omega), List.getElem?_eq_none (by omega)]; rfl

/-- what is accepted is encoded to the same bytes -/
theorem encS_decS {l : List UInt8} {n : Nat} {o : List Bool} {q : Int} (h : decS l 0 = (n, o, q, 0)) :
    ∃ m : Nat, q = (m : Int) ∧ m ≤ l.length ∧ n ≤ 1048576 ∧ o.length = n ∧ encS n (fun i => o[i]?.getD false) = l.take m := by
  obtain ⟨x, j, e, hde⟩ : ∃ x j e, dec 0 0 (l.drop 0) = (x, j, e) := ⟨_, _, _, rfl⟩
  have hdc : dcd l 0 = ((x : Int), if e = 0 then (0 : Int) + j else 0, (e : Int)) := dcd_ok (by omega) hde
  unfold decS at h
  rw [hdc] at h
  by_cases he : e = 0
  · subst he
    simp only [if_true, Int.zero_add] at h
    rw [if_neg (by simp)] at h
    by_cases hx : 1048576 < (x : Int)
    · rw [if_pos hx] at h
      injection h with _ h; injection h with _ h; injection h with _ h
      exact absurd h (by decide)
    · rw [if_neg hx] at h
      simp only [Int.toNat_natCast] at h
      obtain ⟨henc, hj1, hj2⟩ := enc_dec hde
      rw [List.drop_zero] at hj2 henc
      generalize hr : decR l x (x + 2) [] false true (j : Int) = r at h
      obtain ⟨o', q', e'⟩ := r
      by_cases he' : e' = 0
      · subst he'
        simp only [ne_eq, not_true_eq_false, if_false] at h
        injection h with h1 h; injection h with h2 h; injection h with h3 _
        subst h1 h2 h3
        obtain ⟨rs, m, g1, g2, g3, g4, g5, g6, g7, g8⟩ := decR_good (x + 2) l x [] false true j o' q' (by omega) (by simp) (by simp) (by simp) hr
        refine ⟨m, g1, g3, by omega, g6, ?_⟩
        rw [List.nil_append] at g5
        have hru : runs (fun i => o'[i]?.getD false) x = rs := by
          refine runs_unique (runs_good _ _) g4 ?_ (on := false) ?_
          · rw [runs_nil, g8]; simp
          · rw [runs_expand, ← g5, ← g6, bitsOf_getD]
        have hl : l = enc x ++ (rs.flatMap enc ++ l.drop m) := by
          rw [← g7, henc, List.take_append_drop]
        have hm : m = (enc x ++ rs.flatMap enc).length := by
          have h1 := congrArg List.length hl
          simp only [List.length_append, List.length_drop] at h1 ⊢
          omega
        rw [encS, hru]
        conv => rhs; rw [hl, ← List.append_assoc, hm, List.take_left]
      · simp only [ne_eq, he', not_false_eq_true, if_true] at h
        injection h with _ h; injection h with _ h; injection h with _ h
        exact absurd h he'
  · have he2 : (e : Int) ≠ 0 := by omega
    rw [if_pos he2] at h
    injection h with _ h; injection h with _ h; injection h with _ h
    exact absurd h he2

end Go.Proofs.Ytnjmbhakfecdoaa
