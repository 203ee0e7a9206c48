/-
  Run-length encoding over lists: valid runs, the runs of a sequence, the sequence of runs, the element with an index. Lists and sums; no walk.
-/
import Derived.Test.YtnjmbhakfecdoaaNum
namespace Go.Proofs.Ytnjmbhakfecdoaa
set_option linter.unusedVariables false
set_option linter.unusedSimpArgs false

/-- a run: its value and its count -/
abbrev Rn := Int × Int
def sumC (l : List Rn) : Int := (l.map Prod.snd).foldl (· + ·) 0
theorem foldl_add (l : List Int) : ∀ a : Int, l.foldl (· + ·) a = a + l.foldl (· + ·) 0 := by
  induction l with
  | nil => intro a; simp
  | cons x l ih => intro a; rw [List.foldl_cons, List.foldl_cons, ih (a + x), ih (0 + x)]; omega
theorem sumC_nil : sumC [] = 0 := rfl
theorem sumC_cons (x : Rn) (l : List Rn) : sumC (x :: l) = x.2 + sumC l := by
  unfold sumC
  rw [List.map_cons, List.foldl_cons, foldl_add]
  omega
theorem sumC_append (l r : List Rn) : sumC (l ++ r) = sumC l + sumC r := by
  induction l with
  | nil => simp [sumC_nil]
  | cons x l ih => rw [List.cons_append, sumC_cons, sumC_cons, ih]; omega
theorem sumC_snoc (l : List Rn) (x : Rn) : sumC (l ++ [x]) = sumC l + x.2 := by rw [sumC_append, sumC_cons, sumC_nil]; omega
theorem sumC_take {l : List Rn} {j : Nat} (h : j < l.length) : sumC (l.take (j + 1)) = sumC (l.take j) + l[j].2 := by rw [List.take_succ_eq_append_getElem h, sumC_snoc]
/-- run number j fits behind those before it -/
def okRun (l : List Rn) (j : Nat) : Bool :=
  match l[j]? with
  | some x => decide (1 ≤ x.2) && decide (x.2 ≤ 65536 - sumC (l.take j)) && (decide (j = 0) || decide ((l[j - 1]?).map Prod.fst ≠ some x.1))
  | none => true
def validR (l : List Rn) : Bool := (List.range l.length).all (okRun l)
theorem validR_iff {l : List Rn} : validR l = true ↔ ∀ j, j < l.length → okRun l j = true := by simp [validR, List.all_eq_true]
theorem okRun_iff {l : List Rn} {j : Nat} (h : j < l.length) : okRun l j = true ↔ 1 ≤ l[j].2 ∧ l[j].2 ≤ 65536 - sumC (l.take j) ∧ (0 < j → ∀ h2 : j - 1 < l.length, l[j - 1].1 ≠ l[j].1) := by
  unfold okRun
  rw [List.getElem?_eq_getElem h]
  simp only [Bool.and_eq_true, Bool.or_eq_true, decide_eq_true_eq]
  constructor
  · rintro ⟨⟨h1, h2⟩, h3⟩
    refine ⟨h1, h2, fun hj hl => ?_⟩
    rcases h3 with h3 | h3
    · omega
    · intro he
      apply h3
      rw [List.getElem?_eq_getElem hl, ← he]
      rfl
  · rintro ⟨h1, h2, h3⟩
    refine ⟨⟨h1, h2⟩, ?_⟩
    by_cases hj : j = 0
    · exact .inl hj
    · have hl : j - 1 < l.length := by omega
      refine .inr fun he => h3 (by omega) hl ?_
      rw [List.getElem?_eq_getElem hl] at he
      simpa using he
/-- what a valid list of runs gives at each place: counts from 1 on, sums up to 65536 -/
theorem valid_sum {l : List Rn} (h : validR l = true) : ∀ j, j ≤ l.length → 0 ≤ sumC (l.take j) ∧ sumC (l.take j) ≤ 65536 ∧ (j : Int) ≤ sumC (l.take j)
  | 0, _ => by rw [List.take_zero, sumC_nil]; omega
  | j + 1, hj => by
    have ih := valid_sum h j (by omega)
    have hlt : j < l.length := by omega
    have h1 := (okRun_iff hlt).1 (validR_iff.1 h j hlt)
    rw [sumC_take hlt]
    omega
theorem valid_count {l : List Rn} (h : validR l = true) {j : Nat} (hj : j < l.length) : 1 ≤ l[j].2 ∧ l[j].2 ≤ 65536 - sumC (l.take j) := by
  have h1 := (okRun_iff hj).1 (validR_iff.1 h j hj)
  exact ⟨h1.1, h1.2.1⟩
theorem valid_length {l : List Rn} (h : validR l = true) : l.length ≤ 65536 := by
  have := valid_sum h l.length (Nat.le_refl _)
  omega
/-- the sequence -/
def expR : List Rn → List Int
  | [] => []
  | x :: l => List.replicate x.2.toNat x.1 ++ expR l
theorem expR_append (l r : List Rn) : expR (l ++ r) = expR l ++ expR r := by
  induction l with
  | nil => rfl
  | cons x l ih => rw [List.cons_append, expR, expR, ih, List.append_assoc]
theorem expR_snoc (l : List Rn) (x : Rn) : expR (l ++ [x]) = expR l ++ List.replicate x.2.toNat x.1 := by rw [expR_append]; simp [expR]
theorem expR_take {l : List Rn} {j : Nat} (h : j < l.length) : expR (l.take (j + 1)) = expR (l.take j) ++ List.replicate l[j].2.toNat l[j].1 := by rw [List.take_succ_eq_append_getElem h, expR_snoc]
theorem expR_length {l : List Rn} (h : ∀ x ∈ l, 0 ≤ x.2) : ((expR l).length : Int) = sumC l := by
  induction l with
  | nil => rfl
  | cons x l ih =>
    rw [expR, List.length_append, List.length_replicate, sumC_cons]
    have h1 := ih fun y hy => h y (List.mem_cons_of_mem _ hy)
    have h2 := h x (List.mem_cons_self ..)
    omega
theorem valid_nonneg {l : List Rn} (h : validR l = true) : ∀ x ∈ l, 0 ≤ x.2 := by
  intro x hx
  obtain ⟨j, hj, rfl⟩ := List.getElem_of_mem hx
  have := valid_count h hj
  omega
theorem valid_expR {l : List Rn} (h : validR l = true) : (expR l).length ≤ 65536 := by
  have h1 := expR_length (valid_nonneg h)
  have h2 := valid_sum h l.length (Nat.le_refl _)
  rw [List.take_length] at h2
  omega
/-- the runs of a sequence, its elements one after another -/
def pushR (out : List Rn) (v : Int) : List Rn :=
  match out.getLast? with
  | some x => if x.1 = v then out.dropLast ++ [(x.1, x.2 + 1)] else out ++ [(v, 1)]
  | none => out ++ [(v, 1)]
def runsR (vs : List Int) : List Rn := vs.foldl pushR []
theorem runsR_snoc (vs : List Int) (v : Int) : runsR (vs ++ [v]) = pushR (runsR vs) v := by simp [runsR]
theorem runsR_take {vs : List Int} {j : Nat} (h : j < vs.length) : runsR (vs.take (j + 1)) = pushR (runsR (vs.take j)) vs[j] := by rw [List.take_succ_eq_append_getElem h, runsR_snoc]
theorem last_split {out : List Rn} {x : Rn} (h : out.getLast? = some x) : out = out.dropLast ++ [x] := by
  have hne : out ≠ [] := by intro e; rw [e] at h; cases h
  rw [List.getLast?_eq_some_getLast hne] at h
  injection h with h
  rw [← h]
  exact (List.dropLast_concat_getLast hne).symm
theorem expR_push {out : List Rn} (h : ∀ x ∈ out, 0 ≤ x.2) (v : Int) : expR (pushR out v) = expR out ++ [v] := by
  unfold pushR
  cases hl : out.getLast? with
  | none => simp only [expR_snoc]; rfl
  | some x =>
    simp only
    split
    · rename_i he
      have hs := last_split hl
      have h0 : 0 ≤ x.2 := h x (by rw [hs]; simp)
      conv => rhs; rw [hs]
      rw [expR_snoc, expR_snoc]
      simp only
      rw [show (x.2 + 1).toNat = x.2.toNat + 1 by omega, List.replicate_succ', he, List.append_assoc]
    · rw [expR_snoc]; rfl
theorem pushR_pos {out : List Rn} (h : ∀ x ∈ out, 1 ≤ x.2) (v : Int) : ∀ x ∈ pushR out v, 1 ≤ x.2 := by
  intro y hy
  unfold pushR at hy
  cases hl : out.getLast? with
  | none =>
    rw [hl] at hy
    simp only [List.mem_append, List.mem_singleton] at hy
    rcases hy with hy | rfl
    · exact h y hy
    · show (1 : Int) ≤ 1; omega
  | some x =>
    rw [hl] at hy
    simp only at hy
    split at hy
    · simp only [List.mem_append, List.mem_singleton] at hy
      rcases hy with hy | rfl
      · exact h y (List.dropLast_subset _ hy)
      · have : 1 ≤ x.2 := h x (by rw [last_split hl]; simp)
        show (1 : Int) ≤ x.2 + 1
        omega
    · simp only [List.mem_append, List.mem_singleton] at hy
      rcases hy with hy | rfl
      · exact h y hy
      · show (1 : Int) ≤ 1; omega
theorem runsR_pos (vs : List Int) : ∀ j, ∀ x ∈ runsR (vs.take j), 1 ≤ x.2
  | 0 => by intro x hx; rw [List.take_zero] at hx; cases hx
  | j + 1 => by
    by_cases h : j < vs.length
    · rw [runsR_take h]; exact pushR_pos (runsR_pos vs j) _
    · rw [List.take_of_length_le (by omega)]
      have := runsR_pos vs j
      rwa [List.take_of_length_le (by omega)] at this
theorem runsR_pos' (vs : List Int) : ∀ x ∈ runsR vs, 1 ≤ x.2 := by have := runsR_pos vs vs.length; rwa [List.take_length] at this
/-- the sequence of its runs is the sequence -/
theorem expR_runs_take (vs : List Int) : ∀ j, j ≤ vs.length → expR (runsR (vs.take j)) = vs.take j
  | 0, _ => rfl
  | j + 1, h => by
    have hlt : j < vs.length := by omega
    rw [runsR_take hlt, expR_push (fun x hx => by have := runsR_pos vs j x hx; omega), expR_runs_take vs j (by omega), ← List.take_succ_eq_append_getElem hlt]
theorem expR_runs (vs : List Int) : expR (runsR vs) = vs := by have := expR_runs_take vs vs.length (Nat.le_refl _); rwa [List.take_length] at this
/-- neighbours differ -/
def adjR : List Rn → Prop
  | x :: y :: l => x.1 ≠ y.1 ∧ adjR (y :: l)
  | _ => True
theorem adjR_get {l : List Rn} (h : adjR l) : ∀ j, (h1 : j + 1 < l.length) → l[j].1 ≠ l[j + 1].1 := by
  induction l with
  | nil => intro j h1; simp at h1
  | cons x l ih =>
    intro j h1
    cases l with
    | nil => simp at h1
    | cons y l =>
      cases j with
      | zero => exact h.1
      | succ j => exact ih h.2 j (by simpa using h1)
theorem adjR_of {l : List Rn} (h : ∀ j, (h1 : j + 1 < l.length) → l[j].1 ≠ l[j + 1].1) : adjR l := by
  induction l with
  | nil => trivial
  | cons x l ih =>
    cases l with
    | nil => trivial
    | cons y l => exact ⟨h 0 (by simp), ih fun j h1 => h (j + 1) (by simpa using h1)⟩
theorem adj_same : ∀ {o : List Rn} {x y : Rn}, adjR (o ++ [x]) → x.1 = y.1 → adjR (o ++ [y])
  | [], _, _, _, _ => trivial
  | [z], _, _, h, e => ⟨by rw [← e]; exact h.1, trivial⟩
  | z :: u :: o, _, _, h, e => ⟨h.1, adj_same (o := u :: o) h.2 e⟩
theorem adj_next : ∀ {o : List Rn} {x y : Rn}, adjR (o ++ [x]) → x.1 ≠ y.1 → adjR (o ++ [x] ++ [y])
  | [], _, _, _, e => ⟨e, trivial⟩
  | [z], _, _, h, e => ⟨h.1, e, trivial⟩
  | z :: u :: o, _, _, h, e => ⟨h.1, adj_next (o := u :: o) h.2 e⟩
theorem push_adj {out : List Rn} (h : adjR out) (v : Int) : adjR (pushR out v) := by
  unfold pushR
  cases hl : out.getLast? with
  | none =>
    have : out = [] := List.getLast?_eq_none_iff.1 hl
    subst this
    trivial
  | some x =>
    have hs := last_split hl
    simp only
    split
    · rw [hs] at h
      exact adj_same h rfl
    · rename_i he
      rw [hs] at h
      rw [hs]
      exact adj_next h he
theorem runs_adj (vs : List Int) : ∀ j, adjR (runsR (vs.take j))
  | 0 => trivial
  | j + 1 => by
    by_cases h : j < vs.length
    · rw [runsR_take h]; exact push_adj (runs_adj vs j) _
    · rw [List.take_of_length_le (by omega)]
      have := runs_adj vs j
      rwa [List.take_of_length_le (by omega)] at this
theorem runs_adj' (vs : List Int) : adjR (runsR vs) := by have := runs_adj vs vs.length; rwa [List.take_length] at this
theorem sumC_split (l : List Rn) (j : Nat) : sumC l = sumC (l.take j) + sumC (l.drop j) := by rw [← sumC_append, List.take_append_drop]
theorem sumC_nonneg {l : List Rn} (h : ∀ x ∈ l, 0 ≤ x.2) : 0 ≤ sumC l := by have := expR_length h; omega
theorem sumC_le {l : List Rn} (h : ∀ x ∈ l, 0 ≤ x.2) {j : Nat} (hj : j < l.length) : sumC (l.take j) + l[j].2 ≤ sumC l := by
  rw [← sumC_take hj, sumC_split l (j + 1)]
  have := sumC_nonneg (l := l.drop (j + 1)) fun x hx => h x (List.mem_of_mem_drop hx)
  omega
/-- the runs of at most 65536 values are valid -/
theorem runs_valid {vs : List Int} (h : vs.length ≤ 65536) : validR (runsR vs) = true := by
  rw [validR_iff]
  intro j hj
  rw [okRun_iff hj]
  have hp := runsR_pos' vs
  have hn : ∀ x ∈ runsR vs, 0 ≤ x.2 := fun x hx => by have := hp x hx; omega
  have hs := expR_length hn
  rw [expR_runs] at hs
  have h1 := sumC_le hn hj
  refine ⟨hp _ (List.getElem_mem hj), by omega, fun h0 h2 => ?_⟩
  have h3 := adjR_get (runs_adj' vs) (j - 1) (by omega)
  have h4 : j - 1 + 1 = j := by omega
  simp only [h4] at h3
  exact h3
/-- the element with an index -/
def atR : List Rn → Int → Option Int
  | [], _ => none
  | x :: l, i => if i < x.2 then some x.1 else atR l (i - x.2)
theorem atR_exp {l : List Rn} (h : ∀ x ∈ l, 0 ≤ x.2) : ∀ i : Nat, atR l (i : Int) = (expR l)[i]? := by
  induction l with
  | nil => intro i; rfl
  | cons x l ih =>
    intro i
    have h0 := h x (List.mem_cons_self ..)
    rw [atR, expR]
    by_cases hi : (i : Int) < x.2
    · rw [if_pos hi, List.getElem?_append_left (by rw [List.length_replicate]; omega), List.getElem?_replicate, if_pos (by omega)]
    · rw [if_neg hi, List.getElem?_append_right (by rw [List.length_replicate]; omega), List.length_replicate]
      have e : (i : Int) - x.2 = ((i - x.2.toNat : Nat) : Int) := by omega
      rw [e]
      exact ih (fun y hy => h y (List.mem_cons_of_mem _ hy)) _
theorem atR_drop {l : List Rn} {k : Nat} (h : k < l.length) (i : Int) : atR (l.drop k) i = if i < l[k].2 then some l[k].1 else atR (l.drop (k + 1)) (i - l[k].2) := by
  rw [List.drop_eq_getElem_cons h, atR]
end Go.Proofs.Ytnjmbhakfecdoaa
