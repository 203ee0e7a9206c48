/-
  Frames of reference over lists: the base, the differences, the encoding with a width, the best width, and the sum by which its size is reckoned. Arithmetic and lists; no walk.
-/
import Derived.Test.YtjjeebaelpgjlaaBpNum3
import Derived.Test.YtjjeebaelpgjlaaZig
namespace Go.Proofs.Ytjjeebaelpgjlaa
open Go.RowKit
set_option linter.unusedVariables false
set_option linter.unusedSimpArgs false

/-- the minimum, 0 of an empty list -/
def baseV : List Int → Int
  | [] => 0
  | x :: r => r.foldl min x
theorem baseV_one (x : Int) : baseV [x] = x := rfl
theorem baseV_snoc {l : List Int} (x : Int) (h : l ≠ []) : baseV (l ++ [x]) = min (baseV l) x := by
  cases l with
  | nil => exact absurd rfl h
  | cons y r => simp [baseV]
theorem baseV_take {l : List Int} {k : Nat} (h : k < l.length) (h0 : 0 < k) : baseV (l.take (k + 1)) = min (baseV (l.take k)) l[k] := by
  rw [List.take_succ_eq_append_getElem h]
  refine baseV_snoc _ fun h1 => ?_
  have := congrArg List.length h1
  rw [List.length_take, List.length_nil] at this
  omega
theorem baseV_first {l : List Int} (h : 0 < l.length) : baseV (l.take 1) = l[0] := by
  rw [List.take_succ_eq_append_getElem h]
  rfl
theorem fold_min : ∀ (r : List Int) (x : Int), (r.foldl min x = x ∨ r.foldl min x ∈ r) ∧ r.foldl min x ≤ x ∧ ∀ y ∈ r, r.foldl min x ≤ y
  | [], x => by simp
  | y :: r, x => by
    obtain ⟨h1, h2, h3⟩ := fold_min r (min x y)
    rw [List.foldl_cons]
    refine ⟨?_, by omega, ?_⟩
    · rcases h1 with h1 | h1
      · rw [h1]
        rcases Int.le_total x y with h | h
        · left; omega
        · right; rw [show min x y = y by omega]; simp
      · right; exact List.mem_cons_of_mem _ h1
    · intro z hz
      rcases List.mem_cons.1 hz with rfl | hz
      · omega
      · exact h3 z hz
theorem baseV_mem {l : List Int} (h : l ≠ []) : baseV l ∈ l := by
  cases l with
  | nil => exact absurd rfl h
  | cons y r =>
    show r.foldl min y ∈ y :: r
    rcases (fold_min r y).1 with h1 | h1
    · rw [h1]; simp
    · exact List.mem_cons_of_mem _ h1
theorem baseV_le {l : List Int} {x : Int} (h : x ∈ l) : baseV l ≤ x := by
  cases l with
  | nil => cases h
  | cons y r =>
    show r.foldl min y ≤ x
    rcases List.mem_cons.1 h with rfl | h
    · exact (fold_min r x).2.1
    · exact (fold_min r y).2.2 x h
def frIn (x : Int) : Prop := -9223372036854775808 ≤ x ∧ x ≤ 9223372036854775807
theorem baseV_in {l : List Int} (h : ∀ x ∈ l, frIn x) : frIn (baseV l) := by
  by_cases h0 : l = []
  · subst h0; unfold frIn; exact ⟨by decide, by decide⟩
  · exact h _ (baseV_mem h0)
theorem fold_min_add (m : Int) : ∀ (r : List Int) (x : Int), (r.map (· + m)).foldl min (x + m) = r.foldl min x + m
  | [], _ => rfl
  | y :: r, x => by
    rw [List.map_cons, List.foldl_cons, List.foldl_cons, show min (x + m) (y + m) = min x y + m by omega]
    exact fold_min_add m r _
theorem baseV_add {l : List Int} (m : Int) (h : l ≠ []) : baseV (l.map (· + m)) = baseV l + m := by
  cases l with
  | nil => exact absurd rfl h
  | cons y r => exact fold_min_add m r y
/-- a value minus the base, modulo 2^64 -/
def difN (b v : Int) : Nat := ((v - b) % 18446744073709551616).toNat
theorem difN_lt (b v : Int) : difN b v < 18446744073709551616 := by unfold difN; omega
def difL (l : List Int) : List Nat := l.map (difN (baseV l))
theorem difL_length (l : List Int) : (difL l).length = l.length := by simp [difL]
theorem difL_U64 (l : List Int) : U64 (difL l) := by
  intro x hx
  unfold difL at hx
  rw [List.mem_map] at hx
  obtain ⟨v, _, rfl⟩ := hx
  exact difN_lt _ _
/-- the exceptions of a width: index and high part, the first index being i -/
def exc (w : Nat) : Nat → List Nat → List UInt8
  | _, [] => []
  | i, d :: r => (if d / 2 ^ w = 0 then [] else enc i ++ enc (d / 2 ^ w)) ++ exc w (i + 1) r
def many (w : Nat) : List Nat → Nat
  | [] => 0
  | d :: r => (if d / 2 ^ w = 0 then 0 else 1) + many w r
theorem exc_snoc (w d : Nat) : ∀ (l : List Nat) (i : Nat), exc w i (l ++ [d]) = exc w i l ++ (if d / 2 ^ w = 0 then [] else enc (i + l.length) ++ enc (d / 2 ^ w))
  | [], i => by simp [exc]
  | x :: l, i => by
    rw [List.cons_append, exc, exc, exc_snoc w d l (i + 1), List.length_cons, show i + 1 + l.length = i + (l.length + 1) by omega]
    simp
theorem many_snoc (w d : Nat) : ∀ (l : List Nat), many w (l ++ [d]) = many w l + (if d / 2 ^ w = 0 then 0 else 1)
  | [] => by simp [many]
  | x :: l => by
    rw [List.cons_append, many, many, many_snoc w d l]
    omega
theorem many_le (w : Nat) : ∀ (l : List Nat), many w l ≤ l.length
  | [] => by simp [many]
  | x :: l => by
    have := many_le w l
    rw [many, List.length_cons]
    split <;> omega
theorem enc_le10 (n : Nat) : (enc n).length ≤ 10 := by
  have h : ∀ f n, (encF f n).length ≤ f := by
    intro f
    induction f with
    | zero => intro n; simp [encF]
    | succ f ih =>
      intro n
      by_cases hn : n < 128
      · rw [encF_last hn]; simp
      · rw [encF_more hn, List.length_cons]; have := ih (n / 128); omega
  exact h 10 n
theorem exc_len (w : Nat) : ∀ (l : List Nat) (i : Nat), (exc w i l).length ≤ 20 * l.length
  | [], _ => by simp [exc]
  | d :: l, i => by
    have := exc_len w l (i + 1)
    have h1 := enc_le10 i
    have h2 := enc_le10 (d / 2 ^ w)
    rw [exc, List.length_append, List.length_cons]
    split
    · rw [List.length_nil]; omega
    · rw [List.length_append]; omega
/-- the encoding with a width -/
def encD (b : Int) (ds : List Nat) (w : Nat) : List UInt8 := enc (zz b).toNat ++ (enc w ++ (enc (many w ds) ++ (packL ds w ++ exc w 0 ds)))
def encW (l : List Int) (w : Nat) : List UInt8 := encD (baseV l) (difL l) w
def sizeW (l : List Int) (w : Nat) : Nat := (encW l w).length
/-- the first place from 0 to k at which f is least -/
def bestTo (f : Nat → Nat) : Nat → Nat
  | 0 => 0
  | k + 1 => if f (k + 1) < f (bestTo f k) then k + 1 else bestTo f k
def bestW (l : List Int) : Nat := bestTo (sizeW l) 64
def encV (l : List Int) : List UInt8 := encW l (bestW l)
def sizeV (l : List Int) : Nat := sizeW l (bestW l)
theorem bestTo_le (f : Nat → Nat) : ∀ k, bestTo f k ≤ k
  | 0 => Nat.le_refl _
  | k + 1 => by
    have := bestTo_le f k
    rw [bestTo]
    split <;> omega
theorem bestTo_min (f : Nat → Nat) : ∀ k j, j ≤ k → f (bestTo f k) ≤ f j
  | 0, j, h => by
    have : j = 0 := by omega
    subst this
    exact Nat.le_refl _
  | k + 1, j, h => by
    rw [bestTo]
    split
    · rename_i hlt
      rcases Nat.lt_or_ge k j with h1 | h1
      · have : j = k + 1 := by omega
        subst this
        exact Nat.le_refl _
      · have := bestTo_min f k j h1
        omega
    · rename_i hge
      rcases Nat.lt_or_ge k j with h1 | h1
      · have : j = k + 1 := by omega
        subst this
        omega
      · exact bestTo_min f k j h1
theorem bestTo_congr {f g : Nat → Nat} {c d : Nat} : ∀ k, (∀ j, j ≤ k → f j + c = g j + d) → bestTo f k = bestTo g k
  | 0, _ => rfl
  | k + 1, h => by
    have ih := bestTo_congr k (fun j hj => h j (by omega))
    have h1 := h (k + 1) (Nat.le_refl _)
    have h2 := h (bestTo g k) (by have := bestTo_le g k; omega)
    rw [bestTo, bestTo, ih]
    by_cases hc : f (k + 1) < f (bestTo g k)
    · rw [if_pos hc, if_pos (by omega)]
    · rw [if_neg hc, if_neg (by omega)]
theorem bestW_le (l : List Int) : bestW l ≤ 64 := bestTo_le _ _
/-- packing takes the low parts only -/
theorem packL_mod (l : List Nat) (w : Nat) : packL (l.map fun d => d % 2 ^ w) w = packL l w := by
  unfold packL
  rw [List.length_map]
  refine List.map_congr_left fun j _ => ?_
  congr 1
  refine natOf_congr 8 fun k _ => ?_
  unfold vbit
  rw [List.length_map]
  by_cases hi : 8 * j + k < l.length * w
  · have hw : 0 < w := by
      rcases Nat.eq_zero_or_pos w with h0 | h0
      · rw [h0] at hi; omega
      · exact h0
    have hq : (8 * j + k) / w < l.length := by rw [Nat.div_lt_iff_lt_mul hw]; exact hi
    rw [List.getD_eq_getElem?_getD, List.getD_eq_getElem?_getD, List.getElem?_map, List.getElem?_eq_getElem hq, Option.map_some, Option.getD_some, Option.getD_some, Nat.testBit_mod_two_pow]
    have : decide ((8 * j + k) % w < w) = true := by simpa using Nat.mod_lt _ hw
    rw [this, Bool.true_and]
  · have : decide (8 * j + k < l.length * w) = false := by simpa using hi
    rw [this, Bool.false_and, Bool.false_and]
/-- how many differences have b bits, and the bytes of their indices -/
def cntW : List Nat → Nat → Nat
  | [], _ => 0
  | d :: r, b => (if Lib.bitLen d = b then 1 else 0) + cntW r b
def idxW : Nat → List Nat → Nat → Nat
  | _, [], _ => 0
  | i, d :: r, b => (if Lib.bitLen d = b then esz i else 0) + idxW (i + 1) r b
theorem cntW_snoc (d b : Nat) : ∀ l, cntW (l ++ [d]) b = cntW l b + (if Lib.bitLen d = b then 1 else 0)
  | [] => by simp [cntW]
  | x :: l => by rw [List.cons_append, cntW, cntW, cntW_snoc d b l]; omega
theorem idxW_snoc (d b : Nat) : ∀ l i, idxW i (l ++ [d]) b = idxW i l b + (if Lib.bitLen d = b then esz (i + l.length) else 0)
  | [], i => by simp [idxW]
  | x :: l, i => by
    rw [List.cons_append, idxW, idxW, idxW_snoc d b l (i + 1), List.length_cons, show i + 1 + l.length = i + (l.length + 1) by omega]
    omega
def vsw (k : Nat) : Nat := max 1 ((k + 6) / 7)
theorem esz_vsw (n : Nat) : esz n = vsw (Lib.bitLen n) := rfl
def sumF (f : Nat → Nat) : Nat → Nat
  | 0 => 0
  | n + 1 => sumF f n + f n
theorem sumF_add (f g : Nat → Nat) : ∀ n, sumF (fun j => f j + g j) n = sumF f n + sumF g n
  | 0 => rfl
  | n + 1 => by rw [sumF, sumF, sumF, sumF_add f g n]; omega
theorem sumF_congr {f g : Nat → Nat} : ∀ n, (∀ j, j < n → f j = g j) → sumF f n = sumF g n
  | 0, _ => rfl
  | n + 1, h => by rw [sumF, sumF, sumF_congr n (fun j hj => h j (by omega)), h n (by omega)]
theorem sumF_at (g : Nat → Nat) (B c : Nat) : ∀ n, sumF (fun j => if B = c + j then g j else 0) n = if c ≤ B ∧ B < c + n then g (B - c) else 0
  | 0 => by rw [sumF, if_neg (by omega)]
  | n + 1 => by
    rw [sumF, sumF_at g B c n]
    by_cases h : B = c + n
    · rw [if_pos h, if_neg (by omega), if_pos (by omega), show B - c = n by omega, Nat.zero_add]
    · rw [if_neg h, Nat.add_zero]
      by_cases h2 : c ≤ B ∧ B < c + n
      · rw [if_pos h2, if_pos (by omega)]
      · rw [if_neg h2, if_neg (by omega)]
/-- what exceptionsSize reckons -/
def excSz (C X : Nat → Nat) (n : Nat) : Nat := esz (sumF C n) + sumF (fun j => X j + C j * vsw (j + 1)) n
theorem bitLen_div {d w : Nat} (hd : d < 18446744073709551616) (hw : w ≤ Lib.bitLen d) : Lib.bitLen (d / 2 ^ w) = Lib.bitLen d - w := by
  have hd' : d < 2 ^ 64 := hd
  have h64 := bitLen_bd hd
  have hq : d / 2 ^ w < 2 ^ 64 := Nat.lt_of_le_of_lt (Nat.div_le_self _ _) hd'
  have hq64 : Lib.bitLen (d / 2 ^ w) ≤ 64 := bitLen_bd hq
  have key : ∀ k, w + k ≤ 64 → (Lib.bitLen (d / 2 ^ w) ≤ k ↔ Lib.bitLen d ≤ w + k) := by
    intro k hk
    rw [bitLen_iff hq (by omega), bitLen_iff hd' hk, Nat.div_lt_iff_lt_mul (Nat.two_pow_pos w), Nat.pow_add, Nat.mul_comm]
  have h1 := (key (Lib.bitLen d - w) (by omega)).2 (by omega)
  by_cases h0 : Lib.bitLen d = w
  · omega
  · have h2 : ¬ Lib.bitLen (d / 2 ^ w) ≤ Lib.bitLen d - w - 1 := fun h => by
      have := (key (Lib.bitLen d - w - 1) (by omega)).1 h
      omega
    omega
theorem div_zero_iff {d w : Nat} (hd : d < 18446744073709551616) (hw : w ≤ 64) : d / 2 ^ w = 0 ↔ Lib.bitLen d ≤ w := by
  have hd' : d < 2 ^ 64 := hd
  rw [bitLen_iff hd' hw, Nat.div_eq_zero_iff]
  have := Nat.two_pow_pos w
  omega
theorem many_sum {w : Nat} (hw : w ≤ 64) : ∀ (ds : List Nat), U64 ds → sumF (fun j => cntW ds (w + 1 + j)) (64 - w) = many w ds
  | [], _ => by
    rw [many, ← show sumF (fun _ => 0) (64 - w) = 0 from by
      generalize 64 - w = n
      induction n with
      | zero => rfl
      | succ n ih => rw [sumF, ih]]
    rfl
  | d :: r, h => by
    have hd : d < 18446744073709551616 := h d (by simp)
    have h64 := bitLen_bd hd
    have ih := many_sum hw r (fun x hx => h x (List.mem_cons_of_mem _ hx))
    show sumF (fun j => (if Lib.bitLen d = w + 1 + j then 1 else 0) + cntW r (w + 1 + j)) (64 - w) = _
    rw [sumF_add, ih, sumF_at (fun _ => 1), many]
    congr 1
    by_cases h0 : d / 2 ^ w = 0
    · have := (div_zero_iff hd hw).1 h0
      rw [if_pos h0, if_neg (by omega)]
    · have : ¬ Lib.bitLen d ≤ w := fun h => h0 ((div_zero_iff hd hw).2 h)
      rw [if_neg h0, if_pos (by omega)]
theorem exc_sum {w : Nat} (hw : w ≤ 64) : ∀ (ds : List Nat) (i : Nat), U64 ds → i + ds.length ≤ 9223372036854775808 → sumF (fun j => idxW i ds (w + 1 + j) + cntW ds (w + 1 + j) * vsw (j + 1)) (64 - w) = (exc w i ds).length
  | [], i, _, _ => by
    have h0 : ∀ n, sumF (fun j => idxW i [] (w + 1 + j) + cntW [] (w + 1 + j) * vsw (j + 1)) n = 0 := by
      intro n
      induction n with
      | zero => rfl
      | succ n ih => rw [sumF, ih]; simp [idxW, cntW]
    rw [h0, exc, List.length_nil]
  | d :: r, i, h, hi => by
    have hd : d < 18446744073709551616 := h d (by simp)
    have h64 := bitLen_bd hd
    rw [List.length_cons] at hi
    have ih := exc_sum hw r (i + 1) (fun x hx => h x (List.mem_cons_of_mem _ hx)) (by omega)
    have e : sumF (fun j => idxW i (d :: r) (w + 1 + j) + cntW (d :: r) (w + 1 + j) * vsw (j + 1)) (64 - w)
        = sumF (fun j => (if Lib.bitLen d = w + 1 + j then esz i + vsw (j + 1) else 0) + (idxW (i + 1) r (w + 1 + j) + cntW r (w + 1 + j) * vsw (j + 1))) (64 - w) := by
      refine sumF_congr _ fun j _ => ?_
      show (if Lib.bitLen d = w + 1 + j then esz i else 0) + idxW (i + 1) r (w + 1 + j) + ((if Lib.bitLen d = w + 1 + j then 1 else 0) + cntW r (w + 1 + j)) * vsw (j + 1) = _
      rw [Nat.add_mul]
      by_cases hb : Lib.bitLen d = w + 1 + j
      · rw [if_pos hb, if_pos hb, if_pos hb, Nat.one_mul]; omega
      · rw [if_neg hb, if_neg hb, if_neg hb, Nat.zero_mul]; omega
    rw [e, sumF_add, ih, sumF_at (fun j => esz i + vsw (j + 1)), exc, List.length_append]
    congr 1
    by_cases h0 : d / 2 ^ w = 0
    · have := (div_zero_iff hd hw).1 h0
      rw [if_pos h0, if_neg (by omega), List.length_nil]
    · have hn : ¬ Lib.bitLen d ≤ w := fun h => h0 ((div_zero_iff hd hw).2 h)
      rw [if_neg h0, if_pos (by omega), List.length_append, enc_length (n := i) (by omega), enc_length (n := d / 2 ^ w) (Nat.lt_of_le_of_lt (Nat.div_le_self _ _) hd), esz_vsw (d / 2 ^ w), bitLen_div hd (by omega),
        show Lib.bitLen d - (w + 1) + 1 = Lib.bitLen d - w by omega]
/-- the size of the encoding with a width, as the program reckons it -/
theorem encD_length {b : Int} (hb : frIn b) {ds : List Nat} (h : U64 ds) (hl : ds.length ≤ 9223372036854775808) {w : Nat} (hw : w ≤ 64) :
    (encD b ds w).length = esz (zz b).toNat + esz w + excSz (fun j => cntW ds (w + 1 + j)) (fun j => idxW 0 ds (w + 1 + j)) (64 - w) + szB ds.length w := by
  have hz := zz_bd b hb.1 (by have := hb.2; omega)
  have hm := many_le w ds
  unfold encD excSz
  rw [many_sum hw ds h, exc_sum hw ds 0 h (by omega), List.length_append, List.length_append, List.length_append, List.length_append, enc_length (n := (zz b).toNat) (by omega), enc_length (n := w) (by omega), enc_length (n := many w ds) (by omega), packL_length]
  omega
theorem encD_len (b : Int) (ds : List Nat) {w : Nat} (hw : w ≤ 64) : (encD b ds w).length ≤ 30 + 8 * ds.length + 1 + 20 * ds.length := by
  have h1 := enc_le10 (zz b).toNat
  have h2 := enc_le10 w
  have h3 := enc_le10 (many w ds)
  have h4 := exc_len w ds 0
  have h5 : ds.length * w ≤ ds.length * 64 := Nat.mul_le_mul_left _ hw
  unfold encD
  rw [List.length_append, List.length_append, List.length_append, List.length_append, packL_length]
  unfold szB
  omega
theorem encV_len (l : List Int) : (encV l).length ≤ 31 + 28 * l.length := by
  have h := encD_len (baseV l) (difL l) (bestW_le l)
  rw [difL_length] at h
  unfold encV encW
  omega
theorem sizeV_len (l : List Int) : sizeV l = (encV l).length := rfl
end Go.Proofs.Ytjjeebaelpgjlaa
