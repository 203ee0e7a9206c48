/-
  LIKE: what a pattern matches, over lists of bytes: the meaning (LM), byte by byte from the left and from the right, and by the pieces between the percent signs (lkB). No walk.
-/
import Derived.Test.YtaiphocnfkkigaaDoorLqNum
namespace Go.Proofs.YtaiphocnfkkigaaDoor
set_option linter.unusedVariables false
set_option linter.unusedSimpArgs false

/-- the pattern matches the whole string -/
def LM : List UInt8 → List UInt8 → Prop
  | [], s => s = []
  | c :: p, s => if c = 37 then ∃ a b, s = a ++ b ∧ LM p b else ∃ b t, s = b :: t ∧ (c = 95 ∨ c = b) ∧ LM p t
theorem LM_nil (s : List UInt8) : LM [] s ↔ s = [] := Iff.rfl
theorem LM_pct (p s : List UInt8) : LM (37 :: p) s ↔ ∃ a b, s = a ++ b ∧ LM p b := by rw [LM, if_pos rfl]
theorem LM_chr {c : UInt8} (h : c ≠ 37) (p s : List UInt8) : LM (c :: p) s ↔ ∃ b t, s = b :: t ∧ (c = 95 ∨ c = b) ∧ LM p t := by rw [LM, if_neg h]
theorem LM_pct_drop (p s : List UInt8) : LM (37 :: p) s ↔ ∃ i, i ≤ s.length ∧ LM p (s.drop i) := by
  rw [LM_pct]
  constructor
  · rintro ⟨a, b, rfl, h⟩
    exact ⟨a.length, by simp, by rwa [List.drop_left]⟩
  · rintro ⟨i, _, h⟩
    exact ⟨s.take i, s.drop i, (List.take_append_drop i s).symm, h⟩
theorem LM_append : ∀ (p q s : List UInt8), LM (p ++ q) s ↔ ∃ a b, s = a ++ b ∧ LM p a ∧ LM q b
  | [], q, s => by
    constructor
    · intro h; exact ⟨[], s, rfl, rfl, h⟩
    · rintro ⟨a, b, rfl, ha, hb⟩
      have : a = [] := ha
      subst this
      exact hb
  | c :: p, q, s => by
    rw [List.cons_append]
    by_cases hc : c = 37
    · subst hc
      rw [LM_pct]
      constructor
      · rintro ⟨a, b, rfl, h⟩
        obtain ⟨a', b', rfl, h1, h2⟩ := (LM_append p q b).1 h
        exact ⟨a ++ a', b', by rw [List.append_assoc], (LM_pct p _).2 ⟨a, a', rfl, h1⟩, h2⟩
      · rintro ⟨a, b, rfl, h1, h2⟩
        obtain ⟨a1, a2, rfl, h3⟩ := (LM_pct p _).1 h1
        exact ⟨a1, a2 ++ b, by rw [List.append_assoc], (LM_append p q _).2 ⟨a2, b, rfl, h3, h2⟩⟩
    · rw [LM_chr hc]
      constructor
      · rintro ⟨b, t, rfl, h0, h⟩
        obtain ⟨a', b', rfl, h1, h2⟩ := (LM_append p q t).1 h
        exact ⟨b :: a', b', rfl, (LM_chr hc p _).2 ⟨b, a', rfl, h0, h1⟩, h2⟩
      · rintro ⟨a, b, rfl, h1, h2⟩
        obtain ⟨x, t, rfl, h0, h3⟩ := (LM_chr hc p _).1 h1
        exact ⟨x, t ++ b, rfl, h0, (LM_append p q _).2 ⟨t, b, rfl, h3, h2⟩⟩
/-- from the right: a percent sign -/
theorem LM_snoc_pct_nil (p : List UInt8) : LM (p ++ [37]) [] ↔ LM p [] := by
  rw [LM_append]
  constructor
  · rintro ⟨a, b, h, h1, h2⟩
    have := List.append_eq_nil_iff.1 h.symm
    obtain ⟨rfl, rfl⟩ := this
    exact h1
  · intro h
    exact ⟨[], [], rfl, h, (LM_pct [] []).2 ⟨[], [], rfl, rfl⟩⟩
theorem LM_any (b : List UInt8) : LM [37] b := (LM_pct [] b).2 ⟨b, [], by simp, rfl⟩
theorem LM_snoc_pct (p s : List UInt8) (b : UInt8) : LM (p ++ [37]) (s ++ [b]) ↔ LM p (s ++ [b]) ∨ LM (p ++ [37]) s := by
  rw [LM_append, LM_append]
  constructor
  · rintro ⟨x, y, h, h1, h2⟩
    rcases List.eq_nil_or_concat y with rfl | ⟨y', z, hy⟩
    · rw [List.append_nil] at h
      exact .inl (h ▸ h1)
    · rw [List.concat_eq_append] at hy
      subst hy
      rw [← List.append_assoc] at h
      have := List.append_inj' h rfl
      exact .inr ⟨x, y', this.1, h1, LM_any _⟩
  · rintro (h | ⟨x, y, rfl, h1, h2⟩)
    · exact ⟨s ++ [b], [], by simp, h, LM_any _⟩
    · exact ⟨x, y ++ [b], by simp, h1, LM_any _⟩
/-- from the right: any other byte -/
theorem LM_one {c : UInt8} (h : c ≠ 37) (s : List UInt8) : LM [c] s ↔ ∃ b, s = [b] ∧ (c = 95 ∨ c = b) := by
  rw [LM_chr h]
  constructor
  · rintro ⟨b, t, rfl, h1, h2⟩
    have : t = [] := h2
    subst this
    exact ⟨b, rfl, h1⟩
  · rintro ⟨b, rfl, h1⟩
    exact ⟨b, [], rfl, h1, rfl⟩
theorem LM_snoc_nil {c : UInt8} (h : c ≠ 37) (p : List UInt8) : ¬ LM (p ++ [c]) [] := by
  rw [LM_append]
  rintro ⟨a, b, h0, h1, h2⟩
  obtain ⟨x, rfl, _⟩ := (LM_one h b).1 h2
  simp at h0
theorem LM_snoc {c : UInt8} (h : c ≠ 37) (p s : List UInt8) (b : UInt8) : LM (p ++ [c]) (s ++ [b]) ↔ LM p s ∧ (c = 95 ∨ c = b) := by
  rw [LM_append]
  constructor
  · rintro ⟨x, y, h0, h1, h2⟩
    obtain ⟨z, rfl, hz⟩ := (LM_one h y).1 h2
    have := List.append_inj' h0 rfl
    have e : b = z := by simpa using this.2
    exact ⟨this.1 ▸ h1, e ▸ hz⟩
  · rintro ⟨h1, h2⟩
    exact ⟨s, [b], rfl, h1, (LM_one h _).2 ⟨b, rfl, h2⟩⟩
/-- the piece matches the first bytes -/
def beg : List UInt8 → List UInt8 → Bool
  | [], _ => true
  | _ :: _, [] => false
  | c :: p, b :: t => (c == 95 || c == b) && beg p t
theorem beg_length : ∀ (p s : List UInt8), beg p s = true → p.length ≤ s.length
  | [], _, _ => Nat.zero_le _
  | _ :: _, [], h => by cases h
  | c :: p, b :: t, h => by
    rw [beg, Bool.and_eq_true] at h
    have := beg_length p t h.2
    simpa using this
theorem beg_LM : ∀ (p s r : List UInt8), (∀ c ∈ p, c ≠ 37) → s.length = p.length → (beg p (s ++ r) = true ↔ LM p s)
  | [], s, r, _, h => by
    have : s = [] := List.length_eq_zero_iff.1 h
    subst this
    exact ⟨fun _ => rfl, fun _ => rfl⟩
  | c :: p, [], r, _, h => by simp at h
  | c :: p, b :: t, r, hp, h => by
    have ih := beg_LM p t r (fun x hx => hp x (List.mem_cons_of_mem _ hx)) (by simpa using h)
    rw [List.cons_append, beg, Bool.and_eq_true, Bool.or_eq_true, beq_iff_eq, beq_iff_eq, ih, LM_chr (hp c (List.mem_cons_self ..))]
    constructor
    · rintro ⟨h1, h2⟩; exact ⟨b, t, rfl, h1, h2⟩
    · rintro ⟨b', t', e, h1, h2⟩
      injection e with e1 e2
      subst e1 e2
      exact ⟨h1, h2⟩
theorem LM_length : ∀ (p s : List UInt8), (∀ c ∈ p, c ≠ 37) → LM p s → s.length = p.length
  | [], s, _, h => by
    have : s = [] := h
    subst this
    rfl
  | c :: p, s, hp, h => by
    obtain ⟨b, t, rfl, _, h2⟩ := (LM_chr (hp c (List.mem_cons_self ..)) p s).1 h
    have := LM_length p t (fun x hx => hp x (List.mem_cons_of_mem _ hx)) h2
    simpa using this
/-- a piece without percent signs, then more -/
theorem LM_piece (p q s : List UInt8) (hp : ∀ c ∈ p, c ≠ 37) : LM (p ++ q) s ↔ beg p s = true ∧ LM q (s.drop p.length) := by
  rw [LM_append]
  constructor
  · rintro ⟨a, b, rfl, h1, h2⟩
    have hl := LM_length p a hp h1
    refine ⟨(beg_LM p a b hp hl).2 h1, ?_⟩
    rw [← hl, List.drop_left]
    exact h2
  · rintro ⟨h1, h2⟩
    have hl := beg_length p s h1
    refine ⟨s.take p.length, s.drop p.length, (List.take_append_drop _ s).symm, ?_, h2⟩
    refine (beg_LM p (s.take p.length) (s.drop p.length) hp (by rw [List.length_take]; omega)).1 ?_
    rw [List.take_append_drop]
    exact h1
theorem LM_plain (p s : List UInt8) (hp : ∀ c ∈ p, c ≠ 37) : LM p s ↔ s.length = p.length ∧ beg p s = true := by
  constructor
  · intro h
    have hl := LM_length p s hp h
    refine ⟨hl, ?_⟩
    have := (beg_LM p s [] hp hl).2 h
    rwa [List.append_nil] at this
  · rintro ⟨hl, h⟩
    refine (beg_LM p s [] hp hl).1 ?_
    rwa [List.append_nil]
/-- the pieces, one behind the other, each at the first place where it fits -/
def firstAt (p : List UInt8) : List UInt8 → Option (List UInt8)
  | [] => if beg p [] then some (([] : List UInt8).drop p.length) else none
  | b :: t => if beg p (b :: t) then some ((b :: t).drop p.length) else firstAt p t
def inOrder : List (List UInt8) → List UInt8 → Bool
  | [], _ => true
  | p :: ps, s => match firstAt p s with | none => false | some r => inOrder ps r
/-- .. the same with any places -/
def inSome : List (List UInt8) → List UInt8 → Prop
  | [], _ => True
  | p :: ps, s => ∃ i, i ≤ s.length ∧ beg p (s.drop i) = true ∧ inSome ps (s.drop (i + p.length))
theorem inSome_mono : ∀ (ps : List (List UInt8)) (s : List UInt8) (i : Nat), inSome ps (s.drop i) → inSome ps s
  | [], _, _, _ => trivial
  | p :: ps, s, i, h => by
    obtain ⟨j, hj, h1, h2⟩ := h
    rw [List.length_drop] at hj
    rw [List.drop_drop] at h1 h2
    have hb := beg_length _ _ h1
    by_cases hi : i ≤ s.length
    · exact ⟨i + j, by omega, h1, by rwa [Nat.add_assoc]⟩
    · have hj0 : j = 0 := by omega
      subst hj0
      refine ⟨s.length, Nat.le_refl _, ?_, ?_⟩
      · rw [List.drop_of_length_le (by omega)] at h1 ⊢
        exact h1
      · rw [List.drop_of_length_le (by omega)] at h2 ⊢
        exact h2
theorem inOrder_some : ∀ (ps : List (List UInt8)) (s : List UInt8), inOrder ps s = true ↔ inSome ps s
  | [], _ => ⟨fun _ => trivial, fun _ => rfl⟩
  | p :: ps, s => by
    have key : ∀ s : List UInt8, (match firstAt p s with | none => false | some r => inOrder ps r) = true ↔ ∃ i, i ≤ s.length ∧ beg p (s.drop i) = true ∧ inSome ps (s.drop (i + p.length)) := by
      intro s
      induction s with
      | nil =>
        rw [firstAt]
        by_cases hb : beg p [] = true
        · rw [if_pos hb]
          show inOrder ps _ = true ↔ _
          rw [inOrder_some ps]
          constructor
          · intro h; exact ⟨0, Nat.le_refl _, hb, by rwa [Nat.zero_add]⟩
          · rintro ⟨i, hi, h1, h2⟩
            have : i = 0 := by simpa using hi
            subst this
            rwa [Nat.zero_add] at h2
        · rw [if_neg hb]
          constructor
          · intro h; cases h
          · rintro ⟨i, hi, h1, h2⟩
            have : i = 0 := by simpa using hi
            subst this
            exact absurd h1 hb
      | cons b t ih =>
        rw [firstAt]
        by_cases hb : beg p (b :: t) = true
        · rw [if_pos hb]
          show inOrder ps _ = true ↔ _
          rw [inOrder_some ps]
          constructor
          · intro h; exact ⟨0, Nat.zero_le _, hb, by rwa [Nat.zero_add]⟩
          · rintro ⟨i, hi, h1, h2⟩
            rw [show i + p.length = p.length + i by omega, ← List.drop_drop] at h2
            exact inSome_mono ps _ i h2
        · rw [if_neg hb, ih]
          constructor
          · rintro ⟨i, hi, h1, h2⟩
            exact ⟨i + 1, by simpa using hi, by simpa using h1, by rw [show i + 1 + p.length = (i + p.length) + 1 by omega]; simpa using h2⟩
          · rintro ⟨i, hi, h1, h2⟩
            cases i with
            | zero => exact absurd h1 hb
            | succ i => exact ⟨i, by simpa using hi, by simpa using h1, by rw [show i + 1 + p.length = (i + p.length) + 1 by omega] at h2; simpa using h2⟩
    exact key s
/-- percent signs before, between and behind the pieces, and a last piece -/
def glue : List (List UInt8) → List UInt8 → List UInt8
  | [], e => 37 :: e
  | p :: ps, e => 37 :: (p ++ glue ps e)
theorem glue_LM : ∀ (ps : List (List UInt8)) (e s : List UInt8), (∀ p ∈ ps, ∀ c ∈ p, c ≠ 37) → (∀ c ∈ e, c ≠ 37) →
    (LM (glue ps e) s ↔ e.length ≤ s.length ∧ beg e (s.drop (s.length - e.length)) = true ∧ inSome ps (s.take (s.length - e.length)))
  | [], e, s, _, he => by
    rw [glue, LM_pct_drop]
    constructor
    · rintro ⟨i, hi, h⟩
      obtain ⟨hl, hb⟩ := (LM_plain e _ he).1 h
      rw [List.length_drop] at hl
      exact ⟨by omega, by rwa [show s.length - e.length = i by omega], trivial⟩
    · rintro ⟨hl, hb, _⟩
      exact ⟨s.length - e.length, by omega, (LM_plain e _ he).2 ⟨by rw [List.length_drop]; omega, hb⟩⟩
  | p :: ps, e, s, hps, he => by
    rw [glue, LM_pct_drop]
    have ih := fun s => glue_LM ps e s (fun q hq => hps q (List.mem_cons_of_mem _ hq)) he
    have hp := hps p (List.mem_cons_self ..)
    have tk : ∀ i : Nat, i ≤ s.length → e.length ≤ s.length - i → beg p (s.drop i) = true → p.length ≤ s.length - i - e.length → beg p ((s.take (s.length - e.length)).drop i) = true := by
      intro i _ _ hb hl
      have h1 := (LM_piece p ((s.drop i).drop p.length) (s.drop i) hp)
      have h2 : LM p ((s.drop i).take p.length) := (beg_LM p ((s.drop i).take p.length) ((s.drop i).drop p.length) hp (by rw [List.length_take, List.length_drop]; omega)).1 (by rw [List.take_append_drop]; exact hb)
      have e1 : (s.take (s.length - e.length)).drop i = (s.drop i).take p.length ++ ((s.take (s.length - e.length)).drop i).drop p.length := by
        conv => lhs; rw [← List.take_append_drop p.length ((s.take (s.length - e.length)).drop i)]
        congr 1
        rw [List.drop_take, List.take_take, Nat.min_eq_left (by omega)]
      rw [e1]
      exact (beg_LM p _ _ hp (by rw [List.length_take, List.length_drop]; omega)).2 h2
    have kt : ∀ i : Nat, beg p ((s.take (s.length - e.length)).drop i) = true → beg p (s.drop i) = true := by
      intro i hb
      have hl := beg_length _ _ hb
      rw [List.length_drop, List.length_take] at hl
      have h2 : LM p (((s.take (s.length - e.length)).drop i).take p.length) := (beg_LM p _ (((s.take (s.length - e.length)).drop i).drop p.length) hp (by rw [List.length_take, List.length_drop, List.length_take]; omega)).1 (by rw [List.take_append_drop]; exact hb)
      have e1 : s.drop i = ((s.take (s.length - e.length)).drop i).take p.length ++ (s.drop i).drop p.length := by
        conv => lhs; rw [← List.take_append_drop p.length (s.drop i)]
        congr 1
        rw [List.drop_take, List.take_take, Nat.min_eq_left (by omega)]
      rw [e1]
      exact (beg_LM p _ _ hp (by rw [List.length_take, List.length_drop, List.length_take]; omega)).2 h2
    constructor
    · rintro ⟨i, hi, h⟩
      obtain ⟨hb, h2⟩ := (LM_piece p _ _ hp).1 h
      have hbl := beg_length _ _ hb
      rw [List.length_drop] at hbl
      obtain ⟨h3, h4, h5⟩ := (ih _).1 h2
      rw [List.length_drop, List.length_drop] at h3 h4 h5
      rw [List.drop_drop, List.drop_drop] at h4
      refine ⟨by omega, by rwa [show i + (p.length + (s.length - i - p.length - e.length)) = s.length - e.length by omega] at h4, i, by rw [List.length_take]; omega, tk i hi (by omega) hb (by omega), ?_⟩
      rw [List.drop_drop, ] at h5
      rw [List.drop_take, show s.length - e.length - (i + p.length) = s.length - i - p.length - e.length by omega]
      exact h5
    · rintro ⟨hl, hb, i, hi, h1, h2⟩
      rw [List.length_take] at hi
      have hbl := beg_length _ _ h1
      rw [List.length_drop, List.length_take] at hbl
      refine ⟨i, by omega, (LM_piece p _ _ hp).2 ⟨kt i h1, (ih _).2 ⟨by rw [List.length_drop, List.length_drop]; omega, ?_, ?_⟩⟩⟩
      · rw [List.length_drop, List.length_drop, List.drop_drop, List.drop_drop, show i + (p.length + (s.length - i - p.length - e.length)) = s.length - e.length by omega]
        exact hb
      · rw [List.length_drop, List.length_drop, List.drop_drop, show s.length - i - p.length - e.length = s.length - e.length - (i + p.length) by omega, ← List.drop_take]
        exact h2
theorem pieces_ne : ∀ l : List UInt8, pieces l ≠ []
  | [] => by simp [pieces]
  | c :: r => by
    rw [pieces]
    by_cases h : c = 37
    · rw [if_pos h]; simp
    · rw [if_neg h]
      cases hp : pieces r with
      | nil => simp
      | cons a t => simp
theorem pieces_plain : ∀ (l : List UInt8), ∀ p ∈ pieces l, ∀ c ∈ p, c ≠ 37
  | [], p, hp, c, hc => by
    have : p = [] := by simpa [pieces] using hp
    subst this
    cases hc
  | x :: r, p, hp, c, hc => by
    have ih := pieces_plain r
    rw [pieces] at hp
    by_cases h : x = 37
    · rw [if_pos h] at hp
      rcases List.mem_cons.1 hp with rfl | hp
      · cases hc
      · exact ih p hp c hc
    · rw [if_neg h] at hp
      cases hr : pieces r with
      | nil => exact absurd hr (pieces_ne r)
      | cons a t =>
        rw [hr] at hp ih
        rcases List.mem_cons.1 hp with rfl | hp
        · rcases List.mem_cons.1 hc with rfl | hc
          · exact h
          · exact ih a (List.mem_cons_self ..) c hc
        · exact ih p (List.mem_cons_of_mem _ hp) c hc
/-- the pattern out of its pieces -/
theorem pieces_one : ∀ (l h : List UInt8), pieces l = [h] → l = h
  | [], h, e => by simpa [pieces] using e
  | c :: r, h, e => by
    rw [pieces] at e
    by_cases hc : c = 37
    · rw [if_pos hc] at e
      injection e with _ e
      exact absurd e (pieces_ne r)
    · rw [if_neg hc] at e
      cases hr : pieces r with
      | nil => exact absurd hr (pieces_ne r)
      | cons a t =>
        rw [hr] at e
        injection e with e1 e2
        subst e2
        rw [← e1, pieces_one r a hr]
theorem pieces_glue : ∀ (l h : List UInt8) (ms : List (List UInt8)) (e : List UInt8), pieces l = h :: (ms ++ [e]) → l = h ++ glue ms e
  | [], h, ms, e, x => by
    rw [pieces] at x
    injection x with _ x
    simp at x
  | c :: r, h, ms, e, x => by
    rw [pieces] at x
    by_cases hc : c = 37
    · rw [if_pos hc] at x
      injection x with x1 x2
      subst x1 hc
      cases ms with
      | nil =>
        rw [pieces_one r e x2]
        rfl
      | cons m ms =>
        rw [pieces_glue r m ms e x2]
        rfl
    · rw [if_neg hc] at x
      cases hr : pieces r with
      | nil => exact absurd hr (pieces_ne r)
      | cons a t =>
        rw [hr] at x
        injection x with x1 x2
        subst x2 
        rw [← x1, pieces_glue r a ms e hr]
        rfl
/-- what the program reckons -/
def lkB (h : List UInt8) (ms : List (List UInt8)) (e s : List UInt8) : Bool :=
  decide (h.length + e.length ≤ s.length) && beg h s && beg e (s.drop (s.length - e.length)) && inOrder ms ((s.drop h.length).take (s.length - e.length - h.length))
theorem lkB_LM (l h : List UInt8) (ms : List (List UInt8)) (e s : List UInt8) (x : pieces l = h :: (ms ++ [e])) : lkB h ms e s = true ↔ LM l s := by
  have hpl := pieces_plain l
  rw [x] at hpl
  have hh := hpl h (List.mem_cons_self ..)
  have he := hpl e (List.mem_cons_of_mem _ (List.mem_append_right _ (List.mem_cons_self ..)))
  have hm : ∀ p ∈ ms, ∀ c ∈ p, c ≠ 37 := fun p hp => hpl p (List.mem_cons_of_mem _ (List.mem_append_left _ hp))
  rw [pieces_glue l h ms e x, LM_piece h _ s hh, glue_LM ms e _ hm he, ← inOrder_some]
  unfold lkB
  rw [Bool.and_eq_true, Bool.and_eq_true, Bool.and_eq_true, decide_eq_true_eq, List.length_drop]
  constructor
  · rintro ⟨⟨⟨h1, h2⟩, h3⟩, h4⟩
    refine ⟨h2, by omega, ?_, ?_⟩
    · rw [List.drop_drop, show h.length + (s.length - h.length - e.length) = s.length - e.length by omega]; exact h3
    · rw [show s.length - h.length - e.length = s.length - e.length - h.length by omega]; exact h4
  · rintro ⟨h2, h1, h3, h4⟩
    have := beg_length _ _ h2
    rw [List.drop_drop, show h.length + (s.length - h.length - e.length) = s.length - e.length by omega] at h3
    rw [show s.length - h.length - e.length = s.length - e.length - h.length by omega] at h4
    exact ⟨⟨⟨by omega, h2⟩, h3⟩, h4⟩
theorem lk1_LM (l h s : List UInt8) (x : pieces l = [h]) : (decide (s.length = h.length) && beg h s) = true ↔ LM l s := by
  have hpl := pieces_plain l
  rw [x] at hpl
  have hh := hpl h (List.mem_cons_self ..)
  rw [pieces_one l h x, LM_plain h s hh, Bool.and_eq_true, decide_eq_true_eq]
/-- the rules of the wildcards -/
theorem LM_self : ∀ (s : List UInt8), (∀ c ∈ s, c ≠ 37) → LM s s
  | [], _ => rfl
  | c :: s, h => (LM_chr (h c (List.mem_cons_self ..)) s _).2 ⟨c, s, rfl, .inr rfl, LM_self s fun x hx => h x (List.mem_cons_of_mem _ hx)⟩
theorem LM_wild : ∀ (n : Nat) (s : List UInt8), LM (List.replicate n 95) s ↔ s.length = n
  | 0, s => by
    show s = [] ↔ _
    exact List.length_eq_zero_iff.symm
  | n + 1, s => by
    rw [List.replicate_succ, LM_chr (by decide)]
    constructor
    · rintro ⟨b, t, rfl, _, h⟩
      rw [List.length_cons, (LM_wild n t).1 h]
    · intro h
      cases s with
      | nil => simp at h
      | cons b t => exact ⟨b, t, rfl, .inl rfl, (LM_wild n t).2 (by simpa using h)⟩
end Go.Proofs.YtaiphocnfkkigaaDoor
