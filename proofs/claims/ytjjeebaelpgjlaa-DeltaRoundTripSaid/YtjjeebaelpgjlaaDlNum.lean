/-
  Differences, sums and the two forms of package delta over lists: what Encode and Decode answer, and that they invert each other whatever lies around. Arithmetic and lists; no walk.
-/
import Derived.Test.YtjjeebaelpgjlaaFrDec
namespace Go.Proofs.Ytjjeebaelpgjlaa
open Go.RowKit
set_option linter.unusedVariables false
set_option linter.unusedSimpArgs false

/-- first differences -/
def dfL (l : List Int) : List Int := List.zipWith (fun y x => IntKind.i64.wrap (y - x)) l.tail l
theorem dfL_nil : dfL [] = [] := rfl
theorem dfL_one (x : Int) : dfL [x] = [] := rfl
theorem dfL_cons (x y : Int) (r : List Int) : dfL (x :: y :: r) = IntKind.i64.wrap (y - x) :: dfL (y :: r) := rfl
theorem dfL_length (l : List Int) : (dfL l).length = l.length - 1 := by unfold dfL; simp
theorem dfL_get {l : List Int} {k : Nat} (h : k + 1 < l.length) (h2 : k < (dfL l).length) : (dfL l)[k] = IntKind.i64.wrap (l[k + 1] - l[k]) := by
  simp [dfL]
theorem wrap64_in (x : Int) : frIn (IntKind.i64.wrap x) := by unfold frIn; rw [IntKind.wrap_i64]; omega
theorem wrap64_self {x : Int} (h : frIn x) : IntKind.i64.wrap x = x := by unfold frIn at h; rw [IntKind.wrap_i64]; omega
theorem dfL_in (l : List Int) : ∀ x ∈ dfL l, frIn x := by
  intro x hx
  rw [List.mem_iff_getElem] at hx
  obtain ⟨k, hk, rfl⟩ := hx
  rw [dfL_get (by rw [dfL_length] at hk; omega) hk]
  exact wrap64_in _
/-- sums -/
def psL : Int → List Int → List Int
  | f, [] => [f]
  | f, d :: r => f :: psL (IntKind.i64.wrap (f + d)) r
def lastS (f : Int) (ds : List Int) : Int := ds.foldl (fun a d => IntKind.i64.wrap (a + d)) f
theorem psL_length : ∀ (ds : List Int) (f : Int), (psL f ds).length = ds.length + 1
  | [], _ => rfl
  | d :: r, f => by rw [psL, List.length_cons, psL_length r, List.length_cons]
theorem psL_snoc : ∀ (ds : List Int) (f d : Int), psL f (ds ++ [d]) = psL f ds ++ [IntKind.i64.wrap (lastS f ds + d)]
  | [], f, d => rfl
  | x :: r, f, d => by rw [List.cons_append, psL, psL_snoc r, psL, List.cons_append]; rfl
theorem psL_last : ∀ (ds : List Int) (f : Int), (psL f ds)[ds.length]? = some (lastS f ds)
  | [], f => rfl
  | x :: r, f => by rw [psL, List.length_cons, List.getElem?_cons_succ, psL_last r]; rfl
theorem psL_take {ds : List Int} {k : Nat} (h : k < ds.length) (f : Int) : psL f (ds.take (k + 1)) = psL f (ds.take k) ++ [IntKind.i64.wrap (lastS f (ds.take k) + ds[k])] := by
  rw [List.take_succ_eq_append_getElem h, psL_snoc]
theorem psL_at {ds : List Int} {k : Nat} (h : k ≤ ds.length) (f : Int) : (psL f (ds.take k))[k]? = some (lastS f (ds.take k)) := by
  have h1 := psL_last (ds.take k) f
  rw [List.length_take, Nat.min_eq_left h] at h1
  exact h1
theorem psL_in : ∀ (ds : List Int) (f : Int), frIn f → ∀ x ∈ psL f ds, frIn x
  | [], f, hf => by intro x hx; rw [psL, List.mem_singleton] at hx; subst hx; exact hf
  | d :: r, f, hf => by
    intro x hx
    rw [psL, List.mem_cons] at hx
    rcases hx with rfl | hx
    · exact hf
    · exact psL_in r _ (wrap64_in _) x hx
theorem psL_head (f : Int) (ds : List Int) : ∃ t, psL f ds = f :: t := by cases ds <;> exact ⟨_, rfl⟩
theorem dfL_psL : ∀ (ds : List Int) (f : Int), frIn f → (∀ x ∈ ds, frIn x) → dfL (psL f ds) = ds
  | [], f, _, _ => rfl
  | d :: r, f, hf, h => by
    have ih := dfL_psL r (IntKind.i64.wrap (f + d)) (wrap64_in _) (fun x hx => h x (by simp [hx]))
    obtain ⟨t, ht⟩ := psL_head (IntKind.i64.wrap (f + d)) r
    rw [psL]
    rw [ht] at ih ⊢
    rw [dfL_cons, ih]
    congr 1
    have hd := h d (by simp)
    unfold frIn at hf hd
    rw [IntKind.wrap_i64, IntKind.wrap_i64]
    omega
theorem psL_dfL : ∀ (r : List Int) (x : Int), frIn x → (∀ y ∈ r, frIn y) → psL x (dfL (x :: r)) = x :: r
  | [], x, _, _ => rfl
  | y :: r, x, hx, h => by
    have hy := h y (by simp)
    rw [dfL_cons, psL]
    have e : IntKind.i64.wrap (x + IntKind.i64.wrap (y - x)) = y := by
      unfold frIn at hx hy
      rw [IntKind.wrap_i64, IntKind.wrap_i64]
      omega
    rw [e, psL_dfL r y hy (fun z hz => h z (by simp [hz]))]
/-- what is left after k times of differences, and the numbers ahead -/
def rstL : Nat → List Int → List Int
  | 0, l => l
  | k + 1, l => dfL (rstL k l)
def hdsL : Nat → List Int → List Int
  | 0, _ => []
  | k + 1, l => hdsL k l ++ (rstL k l).take 1
def encH (hs : List Int) : List UInt8 := hs.flatMap fun x => enc (zz x).toNat
def hdB (k : Nat) (l : List Int) : List UInt8 := encH (hdsL k l)
theorem rstL_length (k : Nat) (l : List Int) : (rstL k l).length = l.length - k := by
  induction k with
  | zero => rfl
  | succ k ih => rw [rstL, dfL_length, ih]; omega
theorem rstL_in {l : List Int} (h : ∀ x ∈ l, frIn x) : ∀ k, ∀ x ∈ rstL k l, frIn x
  | 0 => h
  | k + 1 => dfL_in _
theorem rstL_out {k : Nat} {l : List Int} (h : l.length ≤ k) : rstL k l = [] := List.eq_nil_of_length_eq_zero (by rw [rstL_length]; omega)
theorem hdsL_length (k : Nat) (l : List Int) : (hdsL k l).length = min k l.length := by
  induction k with
  | zero => simp [hdsL]
  | succ k ih => rw [hdsL, List.length_append, ih, List.length_take, rstL_length]; omega
theorem hdsL_in {l : List Int} (h : ∀ x ∈ l, frIn x) : ∀ k, ∀ x ∈ hdsL k l, frIn x
  | 0 => by intro x hx; cases hx
  | k + 1 => by
    intro x hx
    rw [hdsL, List.mem_append] at hx
    rcases hx with hx | hx
    · exact hdsL_in h k x hx
    · exact rstL_in h k x (List.mem_of_mem_take hx)
theorem hdsL_min (l : List Int) : ∀ k, hdsL (min k l.length) l = hdsL k l
  | 0 => by simp
  | k + 1 => by
    by_cases h : k + 1 ≤ l.length
    · rw [Nat.min_eq_left h]
    · have ih := hdsL_min l k
      rw [Nat.min_eq_right (by omega)] at ih ⊢
      rw [ih, hdsL, rstL_out (show l.length ≤ k by omega)]
      simp
theorem rstL_min (l : List Int) (k : Nat) : rstL (min k l.length) l = rstL k l := by
  by_cases h : k ≤ l.length
  · rw [Nat.min_eq_left h]
  · rw [Nat.min_eq_right (by omega), rstL_out (Nat.le_refl _), rstL_out (by omega)]
theorem encH_append (a b : List Int) : encH (a ++ b) = encH a ++ encH b := by unfold encH; rw [List.flatMap_append]
theorem encH_cons (x : Int) (r : List Int) : encH (x :: r) = enc (zz x).toNat ++ encH r := by unfold encH; rw [List.flatMap_cons]
theorem hdB_step {k : Nat} {l : List Int} {x : Int} (h : (rstL k l).take 1 = [x]) : hdB (k + 1) l = hdB k l ++ enc (zz x).toNat := by
  unfold hdB
  rw [hdsL, encH_append, h, encH_cons]
  simp [encH]
theorem hdB_end {k : Nat} {l : List Int} (h : rstL k l = []) : hdB (k + 1) l = hdB k l := by
  unfold hdB
  rw [hdsL, h]
  simp
theorem encH_len : ∀ hs : List Int, (encH hs).length ≤ 10 * hs.length
  | [] => by simp [encH]
  | x :: r => by
    have := encH_len r
    have := enc_le10 (zz x).toNat
    rw [encH_cons, List.length_append, List.length_cons]
    omega
theorem hdB_len (k : Nat) (l : List Int) : (hdB k l).length ≤ 10 * k := by
  have h := encH_len (hdsL k l)
  rw [hdsL_length] at h
  unfold hdB
  omega
/-- a form, the order, the encoding -/
def dlForm (k : Nat) (l : List Int) : List UInt8 := UInt8.ofNat k :: (hdB k l ++ encV (rstL k l))
def dlOrd (l : List Int) : Nat := if l.length < 2 then 1 else if (dlForm 2 l).length < (dlForm 1 l).length then 2 else 1
def dlEnc (l : List Int) : List UInt8 := if 65536 < l.length then [] else dlForm (dlOrd l) l
theorem dlForm_len (k : Nat) (l : List Int) : (dlForm k l).length = 1 + (hdB k l).length + (encV (rstL k l)).length := by
  unfold dlForm
  rw [List.length_cons, List.length_append]
  omega
theorem dlForm_le {k : Nat} (hk : k ≤ 2) (l : List Int) : (dlForm k l).length ≤ 52 + 28 * l.length := by
  have h1 := hdB_len k l
  have h2 := encV_len (rstL k l)
  rw [rstL_length] at h2
  rw [dlForm_len]
  omega
theorem dlOrd_bd (l : List Int) : (dlOrd l = 1 ∨ dlOrd l = 2) ∧ (dlOrd l = 2 → 2 ≤ l.length) := by
  unfold dlOrd
  split
  · exact ⟨.inl rfl, fun h => by cases h⟩
  · split
    · exact ⟨.inr rfl, fun _ => by omega⟩
    · exact ⟨.inl rfl, fun h => by cases h⟩
theorem dlEnc_in {l : List Int} (h : l.length ≤ 65536) : dlEnc l = dlForm (dlOrd l) l := by unfold dlEnc; rw [if_neg (by omega)]
theorem dlEnc_le (l : List Int) : (dlEnc l).length ≤ 52 + 28 * l.length := by
  unfold dlEnc
  split
  · rw [List.length_nil]; omega
  · exact dlForm_le (by have := (dlOrd_bd l).1; omega) l
theorem dlEnc_least {l : List Int} (h : l.length ≤ 65536) (h2 : 2 ≤ l.length) : (dlEnc l).length ≤ (dlForm 2 l).length := by
  rw [dlEnc_in h]
  unfold dlOrd
  rw [if_neg (by omega)]
  split <;> omega
/-- the numbers ahead, read -/
def hdsD (b : List UInt8) : Nat → Int → List Int → List Int × Int × Int
  | 0, p, acc => (acc, p, 0)
  | k + 1, p, acc => if (dcd b p).2.2 ≠ 0 then ([], 0, (dcd b p).2.2) else hdsD b k (dcd b p).2.1 (acc ++ [uz (dcd b p).1])
theorem hdsD_e {b : List UInt8} {k : Nat} {p : Int} {acc : List Int} {x q e : Int} (h : dcd b p = (x, q, e)) (he : e ≠ 0) : hdsD b (k + 1) p acc = ([], 0, e) := by
  rw [hdsD, h]; simp only []; rw [if_pos he]
theorem hdsD_ok {b : List UInt8} {k : Nat} {p : Int} {acc : List Int} {x q : Int} (h : dcd b p = (x, q, 0)) : hdsD b (k + 1) p acc = hdsD b k q (acc ++ [uz x]) := by
  rw [hdsD, h]; simp only []; rw [if_neg (by decide)]
theorem hdsD_bd {b : List UInt8} : ∀ (k : Nat) (p : Int) (acc r : List Int) (q : Int), 0 ≤ p → p ≤ (b.length : Int) → (∀ x ∈ acc, frIn x) → hdsD b k p acc = (r, q, 0) →
    p ≤ q ∧ q ≤ (b.length : Int) ∧ r.length = acc.length + k ∧ ∀ x ∈ r, frIn x
  | 0, p, acc, r, q, h0, h1, ha, h => by
    rw [hdsD] at h
    injection h with e1 e2
    injection e2 with e2 _
    subst e1 e2
    exact ⟨Int.le_refl _, h1, rfl, ha⟩
  | k + 1, p, acc, r, q, h0, h1, ha, h => by
    obtain ⟨x, p1, e, hd⟩ : ∃ x p1 e, dcd b p = (x, p1, e) := ⟨_, _, _, rfl⟩
    have b1 := dcd_bd2 hd
    by_cases he : e = 0
    · subst he
      rw [hdsD_ok hd] at h
      have c1 := b1.2.2.1 rfl
      have ih := hdsD_bd k p1 _ r q (by omega) (by omega) (by
        intro y hy
        rw [List.mem_append, List.mem_singleton] at hy
        rcases hy with hy | rfl
        · exact ha y hy
        · have := uz_bd x b1.1 (by have := b1.2.1; omega)
          unfold frIn
          omega) h
      rw [List.length_append, List.length_singleton] at ih
      exact ⟨by omega, by omega, by omega, ih.2.2.2⟩
    · rw [hdsD_e hd he] at h
      injection h with _ h
      injection h with _ h
      exact absurd h he
theorem hdsD_enc : ∀ (hs acc : List Int) (P Q : List UInt8), (∀ x ∈ hs, frIn x) → hdsD (P ++ (encH hs ++ Q)) hs.length (P.length : Int) acc = (acc ++ hs, ((P ++ encH hs).length : Int), 0)
  | [], acc, P, Q, _ => by simp [hdsD, encH]
  | x :: r, acc, P, Q, h => by
    have hx := h x (by simp)
    have hz := zz_bd x hx.1 (by have := hx.2; omega)
    have e1 : P ++ (encH (x :: r) ++ Q) = P ++ (enc (zz x).toNat ++ (encH r ++ Q)) := by rw [encH_cons, List.append_assoc]
    have e2 : P ++ (enc (zz x).toNat ++ (encH r ++ Q)) = (P ++ enc (zz x).toNat) ++ (encH r ++ Q) := by rw [List.append_assoc]
    have hd := dcd_enc (p := P) (q := encH r ++ Q) (x := (zz x).toNat) (by omega)
    rw [e1, List.length_cons, hdsD_ok hd, e2, hdsD_enc r _ _ Q (fun y hy => h y (by simp [hy])), Int.toNat_of_nonneg hz.1, uz_zz, encH_cons]
    simp only [List.append_assoc, List.singleton_append, List.nil_append, List.cons_append]
/-- all numbers out of the numbers ahead and what was left -/
def psAll (ld r : List Int) : List Int := ld.foldr psL r
theorem psAll_length : ∀ (ld r : List Int), (psAll ld r).length = ld.length + r.length
  | [], r => by simp [psAll]
  | x :: t, r => by show (psL x (psAll t r)).length = _; rw [psL_length, psAll_length t r, List.length_cons]; omega
theorem psAll_in : ∀ (ld r : List Int), (∀ x ∈ ld, frIn x) → (∀ x ∈ r, frIn x) → ∀ x ∈ psAll ld r, frIn x
  | [], r, _, h => h
  | y :: t, r, h1, h2 => psL_in _ y (h1 y (by simp))
theorem psAll_snoc (ld : List Int) (x : Int) (r : List Int) : psAll (ld ++ [x]) r = psAll ld (psL x r) := by unfold psAll; rw [List.foldr_append]; rfl
/-- from the k-th number ahead on -/
theorem psAll_drop {ld : List Int} {k : Nat} (h : k < ld.length) (r : List Int) : psAll (ld.drop k) r = psL ld[k] (psAll (ld.drop (k + 1)) r) := by
  rw [List.drop_eq_getElem_cons h]
  rfl
theorem psAll_enc {l : List Int} (h : ∀ x ∈ l, frIn x) : ∀ k, psAll (hdsL k l) (rstL k l) = l
  | 0 => rfl
  | k + 1 => by
    have ih := psAll_enc h k
    rw [hdsL, rstL]
    have hin := rstL_in h k
    cases hr : rstL k l with
    | nil => rw [hr] at ih; simpa [dfL] using ih
    | cons x t =>
      rw [hr] at ih hin
      show psAll (hdsL k l ++ [x]) _ = l
      rw [psAll_snoc, psL_dfL t x (hin x (by simp)) (fun y hy => hin y (by simp [hy])), ih]
/-- what Decode answers -/
def kindD (b : List UInt8) (o : Int) : Nat := (b.getD o.toNat 0).toNat
def dlDec (b : List UInt8) (o n : Int) : List Int × Int × Int :=
  if (n < 0 ∨ 65536 < n) ∨ o < 0 then ([], 0, 1) else
  if (b.length : Int) ≤ o then ([], 0, 2) else
  if ¬ (kindD b o = 1 ∨ (kindD b o = 2 ∧ 2 ≤ n)) then ([], 0, 4) else
  match hdsD b (min (kindD b o) n.toNat) (o + 1) [] with
  | (ld, p, e) =>
    if e ≠ 0 then ([], 0, e) else
    match decV b p (n - (min (kindD b o) n.toNat : Nat)) with
    | (r, q, f) =>
      if f ≠ 0 then ([], 0, f) else
      if dlEnc (psAll ld r) = (b.drop o.toNat).take (q - o).toNat then (psAll ld r, q, 0) else ([], 0, 4)
section
variable {b : List UInt8} {o n : Int}
theorem dlDec_a (h : (n < 0 ∨ 65536 < n) ∨ o < 0) : dlDec b o n = ([], 0, 1) := by unfold dlDec; rw [if_pos h]
theorem dlDec_b (h : ¬ ((n < 0 ∨ 65536 < n) ∨ o < 0)) (h1 : (b.length : Int) ≤ o) : dlDec b o n = ([], 0, 2) := by unfold dlDec; rw [if_neg h, if_pos h1]
theorem dlDec_c (h : ¬ ((n < 0 ∨ 65536 < n) ∨ o < 0)) (h1 : ¬ (b.length : Int) ≤ o) (h2 : ¬ (kindD b o = 1 ∨ (kindD b o = 2 ∧ 2 ≤ n))) : dlDec b o n = ([], 0, 4) := by unfold dlDec; rw [if_neg h, if_neg h1, if_pos h2]
theorem dlDec_d {ld : List Int} {p e : Int} (h : ¬ ((n < 0 ∨ 65536 < n) ∨ o < 0)) (h1 : ¬ (b.length : Int) ≤ o) (h2 : kindD b o = 1 ∨ (kindD b o = 2 ∧ 2 ≤ n)) (h3 : hdsD b (min (kindD b o) n.toNat) (o + 1) [] = (ld, p, e)) (he : e ≠ 0) : dlDec b o n = ([], 0, e) := by
  unfold dlDec; rw [if_neg h, if_neg h1, if_neg (fun hn => hn h2), h3]; simp only []; rw [if_pos he]
theorem dlDec_e {ld r : List Int} {p q f : Int} (h : ¬ ((n < 0 ∨ 65536 < n) ∨ o < 0)) (h1 : ¬ (b.length : Int) ≤ o) (h2 : kindD b o = 1 ∨ (kindD b o = 2 ∧ 2 ≤ n)) (h3 : hdsD b (min (kindD b o) n.toNat) (o + 1) [] = (ld, p, 0)) (h4 : decV b p (n - (min (kindD b o) n.toNat : Nat)) = (r, q, f)) (hf : f ≠ 0) : dlDec b o n = ([], 0, f) := by
  unfold dlDec; rw [if_neg h, if_neg h1, if_neg (fun hn => hn h2), h3]; simp only []; rw [if_neg (by decide), h4]; simp only []; rw [if_pos hf]
theorem dlDec_f {ld r : List Int} {p q : Int} (h : ¬ ((n < 0 ∨ 65536 < n) ∨ o < 0)) (h1 : ¬ (b.length : Int) ≤ o) (h2 : kindD b o = 1 ∨ (kindD b o = 2 ∧ 2 ≤ n)) (h3 : hdsD b (min (kindD b o) n.toNat) (o + 1) [] = (ld, p, 0)) (h4 : decV b p (n - (min (kindD b o) n.toNat : Nat)) = (r, q, 0)) (h5 : dlEnc (psAll ld r) ≠ (b.drop o.toNat).take (q - o).toNat) : dlDec b o n = ([], 0, 4) := by
  unfold dlDec; rw [if_neg h, if_neg h1, if_neg (fun hn => hn h2), h3]; simp only []; rw [if_neg (by decide), h4]; simp only []; rw [if_neg (by decide), if_neg h5]
theorem dlDec_g {ld r : List Int} {p q : Int} (h : ¬ ((n < 0 ∨ 65536 < n) ∨ o < 0)) (h1 : ¬ (b.length : Int) ≤ o) (h2 : kindD b o = 1 ∨ (kindD b o = 2 ∧ 2 ≤ n)) (h3 : hdsD b (min (kindD b o) n.toNat) (o + 1) [] = (ld, p, 0)) (h4 : decV b p (n - (min (kindD b o) n.toNat : Nat)) = (r, q, 0)) (h5 : dlEnc (psAll ld r) = (b.drop o.toNat).take (q - o).toNat) : dlDec b o n = (psAll ld r, q, 0) := by
  unfold dlDec; rw [if_neg h, if_neg h1, if_neg (fun hn => hn h2), h3]; simp only []; rw [if_neg (by decide), h4]; simp only []; rw [if_neg (by decide), if_pos h5]
end
theorem numD_bdD {b : List UInt8} {o lim x q e : Int} (h : numD b o lim = (x, q, e)) : e = 0 → 0 ≤ x ∧ x ≤ lim ∧ 0 ≤ o ∧ o ≤ q ∧ q ≤ (b.length : Int) := by
  intro he
  subst he
  obtain ⟨y, r, f, hd⟩ : ∃ y r f, dcd b o = (y, r, f) := ⟨_, _, _, rfl⟩
  have hb := dcd_bd2 hd
  by_cases hf : f = 0
  · subst hf
    obtain ⟨a1, a2, a3⟩ := hb.2.2.1 rfl
    by_cases hx : lim < y
    · rw [numD_f hd hx] at h
      simp only [Prod.mk.injEq] at h
      omega
    · rw [numD_ok hd hx] at h
      simp only [Prod.mk.injEq] at h
      obtain ⟨rfl, rfl, _⟩ := h
      exact ⟨hb.1, by omega, a1, a2, a3⟩
  · rw [numD_e hd hf] at h
    simp only [Prod.mk.injEq] at h
    exact absurd h.2.2 hf
theorem frD_bdD {b : List UInt8} {o n z W m p : Int} (h : frD b o n = (z, W, m, p, 0)) : (0 ≤ n ∧ n ≤ 65536) ∧ (0 ≤ z ∧ z ≤ 18446744073709551615) ∧ (0 ≤ W ∧ W ≤ 64) ∧ (0 ≤ m ∧ m ≤ n) ∧ (0 ≤ o ∧ o ≤ p) ∧ p + (szB n.toNat W.toNat : Nat) ≤ (b.length : Int) := by
  by_cases hn : n < 0 ∨ 65536 < n
  · rw [frD_a hn] at h
    simp only [Prod.mk.injEq] at h
    omega
  obtain ⟨z', p1, e1, h1⟩ : ∃ z p1 e1, dcd b o = (z, p1, e1) := ⟨_, _, _, rfl⟩
  have b1 := dcd_bd2 h1
  by_cases he1 : e1 = 0
  rotate_left
  · rw [frD_b hn h1 he1] at h
    simp only [Prod.mk.injEq] at h
    exact absurd h.2.2.2.2 he1
  subst he1
  obtain ⟨W', p2, e2, h2⟩ : ∃ W p2 e2, numD b p1 64 = (W, p2, e2) := ⟨_, _, _, rfl⟩
  have b2 := numD_bdD h2
  by_cases he2 : e2 = 0
  rotate_left
  · rw [frD_c hn h1 h2 he2] at h
    simp only [Prod.mk.injEq] at h
    exact absurd h.2.2.2.2 he2
  subst he2
  obtain ⟨m', p3, e3, h3⟩ : ∃ m p3 e3, numD b p2 n = (m, p3, e3) := ⟨_, _, _, rfl⟩
  have b3 := numD_bdD h3
  by_cases he3 : e3 = 0
  rotate_left
  · rw [frD_e hn h1 h2 h3 he3] at h
    simp only [Prod.mk.injEq] at h
    exact absurd h.2.2.2.2 he3
  subst he3
  have c1 := b1.2.2.1 rfl
  have c2 := b2 rfl
  have c3 := b3 rfl
  by_cases hs : (b.length : Int) - p3 < szB n.toNat W'.toNat
  · rw [frD_g hn h1 h2 h3 hs] at h
    simp only [Prod.mk.injEq] at h
    exact absurd h.2.2.2.2 (by decide)
  · rw [frD_ok hn h1 h2 h3 hs] at h
    simp only [Prod.mk.injEq] at h
    obtain ⟨rfl, rfl, rfl, rfl, _⟩ := h
    exact ⟨by omega, ⟨b1.1, b1.2.1⟩, ⟨c2.1, c2.2.1⟩, ⟨c3.1, c3.2.1⟩, ⟨by omega, by omega⟩, by omega⟩
theorem decV_bd {b : List UInt8} {o n : Int} {r : List Int} {q : Int} (h : decV b o n = (r, q, 0)) : (r.length : Int) = n ∧ (0 ≤ o ∧ o ≤ q ∧ q ≤ (b.length : Int)) ∧ (∀ x ∈ r, frIn x) := by
  obtain ⟨z, W, m, p, e, hf⟩ : ∃ z W m p e, frD b o n = (z, W, m, p, e) := ⟨_, _, _, _, _, rfl⟩
  by_cases he : e = 0
  rotate_left
  · rw [decV_e1 hf he] at h
    simp only [Prod.mk.injEq] at h
    exact absurd h.2.2 he
  subst he
  obtain ⟨c1, c2, c3, c4, c5, c6⟩ := frD_bdD hf
  obtain ⟨d, q2, f, hx⟩ : ∃ d q2 f, excD b W.toNat m.toNat (p + (szB n.toNat W.toNat : Nat)) (lowD b p n.toNat W.toNat) = (d, q2, f) := ⟨_, _, _, rfl⟩
  by_cases hf0 : f = 0
  rotate_left
  · rw [decV_e2 hf hx hf0] at h
    simp only [Prod.mk.injEq] at h
    exact absurd h.2.2 hf0
  subst hf0
  have hb := excD_bd m.toNat (p + (szB n.toNat W.toNat : Nat)) _ d q2 (by omega) (by omega) hx
  rw [lowD_length] at hb
  by_cases hq : encV (d.map (valV z)) = (b.drop o.toNat).take (q2 - o).toNat
  · rw [decV_ok hf hx hq] at h
    simp only [Prod.mk.injEq] at h
    obtain ⟨rfl, rfl, _⟩ := h
    refine ⟨by rw [List.length_map, hb.2.2]; omega, by omega, ?_⟩
    intro x hx
    rw [List.mem_map] at hx
    obtain ⟨y, _, rfl⟩ := hx
    exact valV_in z y
  · rw [decV_e3 hf hx hq] at h
    simp only [Prod.mk.injEq] at h
    exact absurd h.2.2 (by decide)
theorem dlDec_acc {b : List UInt8} {o n : Int} {vs : List Int} {q : Int} (h : dlDec b o n = (vs, q, 0)) : (vs.length : Int) = n ∧ (∀ x ∈ vs, frIn x) ∧ (0 ≤ o ∧ o ≤ q ∧ q ≤ (b.length : Int)) ∧ dlEnc vs = (b.drop o.toNat).take (q - o).toNat := by
  by_cases h1 : (n < 0 ∨ 65536 < n) ∨ o < 0
  · rw [dlDec_a h1] at h; simp only [Prod.mk.injEq] at h; exact absurd h.2.2 (by decide)
  by_cases h2 : (b.length : Int) ≤ o
  · rw [dlDec_b h1 h2] at h; simp only [Prod.mk.injEq] at h; exact absurd h.2.2 (by decide)
  by_cases h3 : kindD b o = 1 ∨ (kindD b o = 2 ∧ 2 ≤ n)
  rotate_left
  · rw [dlDec_c h1 h2 h3] at h; simp only [Prod.mk.injEq] at h; exact absurd h.2.2 (by decide)
  obtain ⟨ld, p, e, h4⟩ : ∃ ld p e, hdsD b (min (kindD b o) n.toNat) (o + 1) [] = (ld, p, e) := ⟨_, _, _, rfl⟩
  by_cases he : e = 0
  rotate_left
  · rw [dlDec_d h1 h2 h3 h4 he] at h; simp only [Prod.mk.injEq] at h; exact absurd h.2.2 he
  subst he
  have b4 := hdsD_bd _ _ _ _ _ (by omega) (by omega) (fun x hx => by cases hx) h4
  obtain ⟨r, q2, f, h5⟩ : ∃ r q2 f, decV b p (n - (min (kindD b o) n.toNat : Nat)) = (r, q2, f) := ⟨_, _, _, rfl⟩
  by_cases hf : f = 0
  rotate_left
  · rw [dlDec_e h1 h2 h3 h4 h5 hf] at h; simp only [Prod.mk.injEq] at h; exact absurd h.2.2 hf
  subst hf
  have b5 := decV_bd h5
  by_cases h6 : dlEnc (psAll ld r) = (b.drop o.toNat).take (q2 - o).toNat
  · rw [dlDec_g h1 h2 h3 h4 h5 h6] at h
    simp only [Prod.mk.injEq] at h
    obtain ⟨rfl, rfl, _⟩ := h
    refine ⟨?_, psAll_in _ _ b4.2.2.2 b5.2.2, by omega, h6⟩
    rw [psAll_length]
    have := b4.2.2.1
    rw [List.length_nil] at this
    omega
  · rw [dlDec_f h1 h2 h3 h4 h5 h6] at h; simp only [Prod.mk.injEq] at h; exact absurd h.2.2 (by decide)
theorem dlDec_enc (P Q : List UInt8) {l : List Int} (h : ∀ x ∈ l, frIn x) (hl : l.length ≤ 65536) : dlDec (P ++ (dlEnc l ++ Q)) (P.length : Int) (l.length : Int) = (l, ((P ++ dlEnc l).length : Int), 0) := by
  obtain ⟨hk, hk2⟩ := dlOrd_bd l
  have he := dlEnc_in hl
  rw [he]
  generalize dlOrd l = k at *
  have hfl : (dlForm k l).length = 1 + (hdB k l).length + (encV (rstL k l)).length := dlForm_len k l
  have h1 : ¬ (((l.length : Int) < 0 ∨ 65536 < (l.length : Int)) ∨ (P.length : Int) < 0) := by omega
  have h2 : ¬ ((P ++ (dlForm k l ++ Q)).length : Int) ≤ (P.length : Int) := by rw [List.length_append, List.length_append]; omega
  have hkd : kindD (P ++ (dlForm k l ++ Q)) (P.length : Int) = k := by
    unfold kindD dlForm
    rw [Int.toNat_natCast, List.getD_eq_getElem?_getD, List.getElem?_append_right (Nat.le_refl _), Nat.sub_self]
    rcases hk with rfl | rfl <;> rfl
  have hmin : min k l.length = (hdsL k l).length := (hdsL_length k l).symm
  have e1 : P ++ (dlForm k l ++ Q) = (P ++ [UInt8.ofNat k]) ++ (encH (hdsL k l) ++ (encV (rstL k l) ++ Q)) := by unfold dlForm hdB; simp
  have e2 : P ++ (dlForm k l ++ Q) = (P ++ [UInt8.ofNat k] ++ encH (hdsL k l)) ++ (encV (rstL k l) ++ Q) := by unfold dlForm hdB; simp
  have e3 : (P ++ [UInt8.ofNat k] ++ encH (hdsL k l)) ++ encV (rstL k l) = P ++ dlForm k l := by unfold dlForm hdB; simp
  have h3 : kindD (P ++ (dlForm k l ++ Q)) (P.length : Int) = 1 ∨ (kindD (P ++ (dlForm k l ++ Q)) (P.length : Int) = 2 ∧ 2 ≤ (l.length : Int)) := by
    rw [hkd]
    rcases hk with rfl | rfl
    · exact .inl rfl
    · exact .inr ⟨rfl, by have := hk2 rfl; omega⟩
  have h4 := hdsD_enc (hdsL k l) [] (P ++ [UInt8.ofNat k]) (encV (rstL k l) ++ Q) (hdsL_in h k)
  have e4 : (((P ++ [UInt8.ofNat k]).length : Nat) : Int) = (P.length : Int) + 1 := by rw [List.length_append, List.length_singleton]; omega
  rw [List.nil_append, e4, ← e1] at h4
  have h5 := decV_enc (P ++ [UInt8.ofNat k] ++ encH (hdsL k l)) Q (rstL_in h k) (by rw [rstL_length]; omega)
  have hrl := rstL_length k l
  rw [← e2, e3] at h5
  have h6 : dlEnc (psAll (hdsL k l) (rstL k l)) = ((P ++ (dlForm k l ++ Q)).drop ((P.length : Int)).toNat).take (((P ++ dlForm k l).length : Int) - (P.length : Int)).toNat := by
    rw [psAll_enc h, he, Int.toNat_natCast, List.drop_left, List.length_append, show (((P.length + (dlForm k l).length : Nat) : Int) - (P.length : Int)).toNat = (dlForm k l).length by omega, List.take_left]
  have h7 := dlDec_g (b := P ++ (dlForm k l ++ Q)) (o := (P.length : Int)) (n := (l.length : Int)) h1 h2 h3 (by rw [hkd, Int.toNat_natCast, hmin]; exact h4) (by
    rw [hkd, Int.toNat_natCast, show (l.length : Int) - ((min k l.length : Nat) : Int) = ((rstL k l).length : Int) by omega]
    exact h5) h6
  rw [psAll_enc h] at h7
  exact h7
theorem dlEnc_pos {l : List Int} (hl : l.length ≤ 65536) : 1 ≤ (dlEnc l).length := by
  rw [dlEnc_in hl, dlForm_len]
  omega
/-- without its last byte an encoding is no encoding of so many numbers -/
theorem dlDec_cut {l : List Int} (h : ∀ x ∈ l, frIn x) (hl : l.length ≤ 65536) {b' : List UInt8} (hb : b' = (dlEnc l).take ((dlEnc l).length - 1)) : (dlDec b' 0 (l.length : Int)).2.2 ≠ 0 := by
  intro he
  obtain ⟨vs, q, e, hd⟩ : ∃ vs q e, dlDec b' 0 (l.length : Int) = (vs, q, e) := ⟨_, _, _, rfl⟩
  rw [hd] at he
  simp only [] at he
  subst he
  obtain ⟨c1, c2, c3, c4⟩ := dlDec_acc hd
  have hpos := dlEnc_pos hl
  have hbl : b'.length = (dlEnc l).length - 1 := by rw [hb, List.length_take]; omega
  rw [Int.toNat_zero, List.drop_zero, Int.sub_zero, hb, List.take_take, Nat.min_eq_left (by omega)] at c4
  have hvl : vs.length = l.length := by omega
  have f1 := dlDec_enc [] ((dlEnc l).drop q.toNat) c2 (by omega)
  have f2 := dlDec_enc [] [] h hl
  rw [c4, List.take_append_drop, hvl] at f1
  simp only [List.nil_append, List.append_nil] at f1 f2
  rw [f2] at f1
  simp only [Prod.mk.injEq] at f1
  have f3 := f1.2.1
  rw [List.length_take] at f3
  omega
/-- evenly spaced numbers -/
def aryL : Nat → Int → Int → List Int
  | 0, _, _ => []
  | n + 1, f, s => f :: aryL n (IntKind.i64.wrap (f + s)) s
theorem aryL_length : ∀ (n : Nat) (f s : Int), (aryL n f s).length = n
  | 0, _, _ => rfl
  | n + 1, f, s => by rw [aryL, List.length_cons, aryL_length n]
def lastA : Nat → Int → Int → Int
  | 0, f, _ => f
  | n + 1, f, s => lastA n (IntKind.i64.wrap (f + s)) s
theorem aryL_snoc : ∀ (n : Nat) (f s : Int), aryL (n + 1) f s = aryL n f s ++ [lastA n f s]
  | 0, _, _ => rfl
  | n + 1, f, s => by rw [aryL, aryL_snoc n, aryL]; rfl
theorem lastA_succ : ∀ (n : Nat) (f s : Int), lastA (n + 1) f s = IntKind.i64.wrap (lastA n f s + s)
  | 0, _, _ => rfl
  | n + 1, f, s => by rw [lastA, lastA_succ n]; rfl
theorem lastA_in : ∀ (n : Nat) (f s : Int), frIn f → frIn (lastA n f s)
  | 0, _, _, h => h
  | n + 1, f, s, h => lastA_in n _ s (wrap64_in _)
theorem aryL_in : ∀ (n : Nat) (f s : Int), frIn f → ∀ x ∈ aryL n f s, frIn x
  | 0, _, _, _ => by intro x hx; cases hx
  | n + 1, f, s, h => by
    intro x hx
    rw [aryL, List.mem_cons] at hx
    rcases hx with rfl | hx
    · exact h
    · exact aryL_in n _ s (wrap64_in _) x hx
theorem dfL_ary : ∀ (n : Nat) (f s : Int), frIn f → frIn s → dfL (aryL (n + 1) f s) = List.replicate n s
  | 0, f, s, _, _ => rfl
  | n + 1, f, s, hf, hs => by
    have ih := dfL_ary n (IntKind.i64.wrap (f + s)) s (wrap64_in _) hs
    rw [aryL, aryL, dfL_cons]
    rw [aryL] at ih
    rw [ih, List.replicate_succ]
    congr 1
    unfold frIn at hf hs
    rw [IntKind.wrap_i64, IntKind.wrap_i64]
    omega
theorem dfL_same (n : Nat) (s : Int) : dfL (List.replicate n s) = List.replicate (n - 1) 0 := by
  induction n with
  | zero => rfl
  | succ n ih =>
    cases n with
    | zero => rfl
    | succ m =>
      rw [List.replicate_succ, List.replicate_succ, dfL_cons, ← List.replicate_succ, ih]
      rw [Int.sub_self]
      show _ :: List.replicate (m + 1 - 1) 0 = List.replicate (m + 1) 0
      rw [Nat.add_sub_cancel, List.replicate_succ]
      rfl
theorem encV_zeros {n : Nat} (h : 0 < n) : (encV (List.replicate n 0)).length = 3 := by
  have h1 := sizeV_same (m := 0) h
  rw [sizeV_len] at h1
  rw [h1]
  rfl
/-- at most 24 bytes -/
theorem dlEnc_ary {n : Nat} {f s : Int} (hn : 3 ≤ n) (hn2 : n ≤ 65536) (hf : frIn f) (hs : frIn s) : (dlEnc (aryL n f s)).length ≤ 24 := by
  obtain ⟨m, rfl⟩ : ∃ m, n = m + 3 := ⟨n - 3, by omega⟩
  have hle := dlEnc_least (l := aryL (m + 3) f s) (by rw [aryL_length]; exact hn2) (by rw [aryL_length]; omega)
  have h1 := dlForm_len 2 (aryL (m + 3) f s)
  have h2 := hdB_len 2 (aryL (m + 3) f s)
  have h3 : rstL 2 (aryL (m + 3) f s) = List.replicate (m + 1) 0 := by
    show dfL (dfL (aryL (m + 3) f s)) = _
    rw [dfL_ary (m + 2) f s hf hs, dfL_same]
    rfl
  rw [h3, encV_zeros (by omega)] at h1
  omega
end Go.Proofs.Ytjjeebaelpgjlaa
