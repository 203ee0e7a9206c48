/-
  Texts that the claims of this seat share, put together (BmNum, BmDec). No condition.
-/
import Derived.Test.YtgegjoggiadgbaaM4
import Derived.Test.YtgegjoggiadgbaaM9
import Derived.Test.YtgegjoggiadgbaaM18
import Derived.Test.YtgegjoggiadgbaaM3
import Derived.Test.YtgegjoggiadgbaaM6
/-
  Shaken: what the claims of this seat need of this text. No condition.
-/
namespace Go.Proofs.Ytgegjoggiadgbaa
set_option maxRecDepth 8000
open Go.RowKit
def dbl : Nat → Nat → Nat → Nat
  | 0, n, _ => n
  | k + 1, n, b => if n < b then dbl k (2 * n) b else n
def sizeN (b : Nat) : Nat := dbl 10 64 b
theorem dbl_stop {k n b : Nat} (h : b ≤ n) : dbl k n b = n := by
  cases k with
  | zero => rfl
  | succ k => unfold dbl; rw [if_neg (by omega)]
theorem dbl_go {k n b : Nat} (h : n < b) : dbl (k + 1) n b = dbl k (2 * n) b := by
  show (if n < b then dbl k (2 * n) b else n) = _
  rw [if_pos h]
theorem dbl_pow (b : Nat) : ∀ k n j, n = 2 ^ j → ∃ i, i ≤ j + k ∧ j ≤ i ∧ dbl k n b = 2 ^ i := by
  intro k
  induction k with
  | zero => intro n j h; exact ⟨j, by omega, Nat.le_refl _, h⟩
  | succ k ih =>
    intro n j h
    by_cases hb : n < b
    · rw [dbl_go hb]
      obtain ⟨i, h1, h2, h3⟩ := ih (2 * n) (j + 1) (by rw [h, Nat.pow_succ]; omega)
      exact ⟨i, by omega, by omega, h3⟩
    · rw [dbl_stop (by omega)]
      exact ⟨j, by omega, Nat.le_refl _, h⟩
theorem sizeN_pow (b : Nat) : ∃ i, i ≤ 16 ∧ 6 ≤ i ∧ sizeN b = 2 ^ i := dbl_pow b 10 64 6 rfl
theorem sizeN_le (b : Nat) : sizeN b ≤ 65536 := by
  obtain ⟨i, h1, _, h3⟩ := sizeN_pow b
  rw [h3]
  calc 2 ^ i ≤ 2 ^ 16 := Nat.pow_le_pow_right (by omega) h1
    _ = 65536 := rfl
theorem sizeN_ge (b : Nat) : 64 ≤ sizeN b := by
  obtain ⟨i, _, h2, h3⟩ := sizeN_pow b
  rw [h3]
  calc 64 = 2 ^ 6 := rfl
    _ ≤ 2 ^ i := Nat.pow_le_pow_right (by omega) h2
def okP (h n : Int) : Bool :=
  if h = 0 then n == 0
  else if 1 ≤ h then if h ≤ 11 then if 64 ≤ n then if n ≤ 65536 then bits .and .i64 n (n - 1) == 0 else false else false else false else false
theorem okP_zero (n : Int) : okP 0 n = (n == 0) := rfl
theorem okP_lt {h n : Int} (h1 : h ≠ 0) (h2 : ¬ 1 ≤ h) : okP h n = false := by unfold okP; rw [if_neg h1, if_neg h2]
theorem okP_gt {h n : Int} (h1 : h ≠ 0) (h2 : 1 ≤ h) (h3 : ¬ h ≤ 11) : okP h n = false := by unfold okP; rw [if_neg h1, if_pos h2, if_neg h3]
theorem okP_nlt {h n : Int} (h1 : h ≠ 0) (h2 : 1 ≤ h) (h3 : h ≤ 11) (h4 : ¬ 64 ≤ n) : okP h n = false := by unfold okP; rw [if_neg h1, if_pos h2, if_pos h3, if_neg h4]
theorem okP_ngt {h n : Int} (h1 : h ≠ 0) (h2 : 1 ≤ h) (h3 : h ≤ 11) (h4 : 64 ≤ n) (h5 : ¬ n ≤ 65536) : okP h n = false := by unfold okP; rw [if_neg h1, if_pos h2, if_pos h3, if_pos h4, if_neg h5]
theorem okP_in {h n : Int} (h1 : h ≠ 0) (h2 : 1 ≤ h) (h3 : h ≤ 11) (h4 : 64 ≤ n) (h5 : n ≤ 65536) : okP h n = (bits .and .i64 n (n - 1) == 0) := by unfold okP; rw [if_neg h1, if_pos h2, if_pos h3, if_pos h4, if_pos h5]
theorem okP_pow {h : Int} {i : Nat} (h2 : 1 ≤ h) (h3 : h ≤ 11) (h4 : i ≤ 16) (h5 : 6 ≤ i) : okP h ((2 ^ i : Nat) : Int) = true := by
  have hi : i = 6 ∨ i = 7 ∨ i = 8 ∨ i = 9 ∨ i = 10 ∨ i = 11 ∨ i = 12 ∨ i = 13 ∨ i = 14 ∨ i = 15 ∨ i = 16 := by omega
  rcases hi with rfl | rfl | rfl | rfl | rfl | rfl | rfl | rfl | rfl | rfl | rfl <;>
    (rw [okP_in (by omega) h2 h3 (by decide) (by decide)]; decide)
theorem okP_size {h : Int} (b : Nat) (h2 : 1 ≤ h) (h3 : h ≤ 11) : okP h (sizeN b : Int) = true := by
  obtain ⟨i, h4, h5, h6⟩ := sizeN_pow b
  rw [h6]
  exact okP_pow h2 h3 h4 h5
theorem bits_and_i64_nat (a b : Nat) (ha : a < 9223372036854775808) (hb : b < 9223372036854775808) : bits .and .i64 (a : Int) (b : Int) = ((a &&& b : Nat) : Int) := by
  show IntKind.i64.wrap ((BitVec.ofInt 64 (a : Int) &&& BitVec.ofInt 64 (b : Int)).toNat : Int) = _
  rw [BitVec.toNat_and, ofInt_u64 a (by omega), ofInt_u64 b (by omega), IntKind.wrap_i64]
  have : a &&& b ≤ a := Nat.and_le_left
  omega
theorem okP_spec {h n : Int} (hp : okP h n = true) : (h = 0 ∧ n = 0) ∨ (1 ≤ h ∧ h ≤ 11 ∧ 64 ≤ n ∧ n ≤ 65536 ∧ n % 64 = 0) := by
  by_cases h1 : h = 0
  · subst h1; rw [okP_zero] at hp; exact .inl ⟨rfl, by simpa using hp⟩
  by_cases h2 : ¬ 1 ≤ h
  · rw [okP_lt h1 h2] at hp; cases hp
  have h2 : 1 ≤ h := by omega
  by_cases h3 : ¬ h ≤ 11
  · rw [okP_gt h1 h2 h3] at hp; cases hp
  have h3 : h ≤ 11 := by omega
  by_cases h4 : ¬ 64 ≤ n
  · rw [okP_nlt h1 h2 h3 h4] at hp; cases hp
  have h4 : 64 ≤ n := by omega
  by_cases h5 : ¬ n ≤ 65536
  · rw [okP_ngt h1 h2 h3 h4 h5] at hp; cases hp
  have h5 : n ≤ 65536 := by omega
  rw [okP_in h1 h2 h3 h4 h5] at hp
  refine .inr ⟨h2, h3, h4, h5, ?_⟩
  obtain ⟨m, rfl⟩ := Int.eq_ofNat_of_zero_le (show 0 ≤ n by omega)
  have hm : 64 ≤ m := by omega
  have hm2 : m ≤ 65536 := by omega
  have e1 : ((m : Int) - 1) = ((m - 1 : Nat) : Int) := by omega
  rw [e1, bits_and_i64_nat m (m - 1) (by omega) (by omega)] at hp
  have h0 : m &&& (m - 1) = 0 := by simpa using hp
  by_cases hz : m % 64 = 0
  · omega
  · exfalso
    have e2 : (m &&& (m - 1)) / 2 ^ 6 = m / 2 ^ 6 &&& (m - 1) / 2 ^ 6 := Nat.and_div_two_pow
    have e3 : (m - 1) / 2 ^ 6 = m / 2 ^ 6 := by
      show (m - 1) / 64 = m / 64
      omega
    rw [e3, Nat.and_self, h0] at e2
    have : m / 64 = 0 := e2.symm.trans rfl |>.trans rfl
    omega
def posN (h g n k : Nat) : Nat := (h + k * g % 18446744073709551616) % 18446744073709551616 % n
def probesN (h g n m : Nat) : List Nat := (List.range m).map (posN h g n)
theorem probesN_length (h g n m : Nat) : (probesN h g n m).length = m := by simp [probesN]
theorem probesN_succ (h g n m : Nat) : probesN h g n (m + 1) = probesN h g n m ++ [posN h g n m] := by simp [probesN, List.range_succ]
theorem probesN_take {h g n m k : Nat} (hk : k ≤ m) : (probesN h g n m).take k = probesN h g n k := by
  unfold probesN
  rw [← List.map_take, List.take_range, Nat.min_eq_left hk]
theorem pos_mul (k g : Nat) : IntKind.u64.wrap ((k : Int) * (g : Int)) = ((k * g % 18446744073709551616 : Nat) : Int) := by
  rw [IntKind.wrap_u64, ← Int.natCast_mul]
  generalize k * g = c
  omega
theorem pos_add (h a : Nat) : IntKind.u64.wrap ((h : Int) + (a : Int)) = (((h + a) % 18446744073709551616 : Nat) : Int) := by
  rw [IntKind.wrap_u64]
  omega
theorem pos_mod (b n : Nat) : (b : Int) % (n : Int) = ((b % n : Nat) : Int) := (Int.natCast_emod b n).symm
theorem pos_tmod (b n : Nat) : (b : Int).tmod (n : Int) = ((b % n : Nat) : Int) := by
  rw [Int.tmod_eq_emod_of_nonneg (by omega)]
  exact pos_mod b n
theorem wrap64_le {p : Nat} (h : p ≤ 65536) : wrap64 (p : Int) = (p : Int) := by unfold RowKit.wrap64; omega
theorem posN_lt {h g n k : Nat} (hn : 0 < n) : posN h g n k < n := Nat.mod_lt _ hn
theorem probesN_lt {h g n m x : Nat} (hn : 0 < n) (hx : x ∈ probesN h g n m) : x < n := by
  unfold probesN at hx
  obtain ⟨k, _, rfl⟩ := List.mem_map.1 hx
  exact posN_lt hn
def hA (x : Val) : Nat := hashR (mix 1) [x]
def gB (x : Val) : Nat := hashR (mix 2) [x]
def gA (x : Val) : Nat := gB x ||| 1
theorem hA_lt (x : Val) : hA x < 18446744073709551616 := hashR_lt _ mix_lt _
theorem gB_lt (x : Val) : gB x < 18446744073709551616 := hashR_lt _ mix_lt _
theorem gA_lt (x : Val) : gA x < 18446744073709551616 := Nat.or_lt_two_pow (n := 64) (gB_lt x) (by decide)
def posV (n m : Nat) (x : Val) : List Nat := probesN (hA x) (gA x) n m
def allP (n m : Nat) (l : List Val) : List Nat := l.flatMap (posV n m)
theorem posV_length (n m : Nat) (x : Val) : (posV n m x).length = m := probesN_length _ _ _ _
theorem allP_nil (n m : Nat) : allP n m [] = [] := rfl
theorem allP_take {n m j : Nat} {l : List Val} {x : Val} (h : l[j]? = some x) : allP n m (l.take (j + 1)) = allP n m (l.take j) ++ posV n m x := by
  unfold allP
  rw [List.take_add_one, h]
  simp
theorem allP_length (n m : Nat) : ∀ l : List Val, (allP n m l).length = l.length * m := by
  intro l
  induction l with
  | nil => simp [allP]
  | cons x l ih =>
    have e : allP n m (x :: l) = posV n m x ++ allP n m l := rfl
    rw [e, List.length_append, ih, posV_length, List.length_cons, Nat.succ_mul, Nat.add_comm]
theorem allP_lt {n m x : Nat} {l : List Val} (hn : 0 < n) (hx : x ∈ allP n m l) : x < n := by
  unfold allP at hx
  obtain ⟨v, _, h⟩ := List.mem_flatMap.1 hx
  exact probesN_lt hn h
def intsN (l : List Nat) : List Int := l.map fun n : Nat => (n : Int)
theorem intsN_length (l : List Nat) : (intsN l).length = l.length := by simp [intsN]
theorem intsN_append (a b : List Nat) : intsN (a ++ b) = intsN a ++ intsN b := by simp [intsN]
theorem inL_ints (l : List Nat) (j : Nat) : inL (intsN l) j = decide (j ∈ l) := by
  unfold inL intsN
  by_cases h : j ∈ l
  · have h2 : (j : Int) ∈ l.map fun n : Nat => (n : Int) := List.mem_map.2 ⟨j, h, rfl⟩
    simp only [h, h2, decide_true]
  · have h2 : ¬ (j : Int) ∈ l.map fun n : Nat => (n : Int) := fun hm => by
      obtain ⟨k, hk, e⟩ := List.mem_map.1 hm
      have e2 : (k : Int) = (j : Int) := e
      have : k = j := by omega
      subst this
      exact h hk
    simp only [h, h2, decide_false]
def hashesN (b : Nat) : Nat := max 1 (b * 7 / 10)
theorem hashesN_le {b : Nat} (h : b ≤ 16) : hashesN b ≤ 11 := by unfold hashesN; omega
theorem hashesN_ge (b : Nat) : 1 ≤ hashesN b := by unfold hashesN; omega
def wordsF (n m : Nat) (l : List Val) : List UInt64 := pack n (inL (intsN (allP n m l)))
def bits15 (bits : Int) : Nat := (min bits 16).toNat
def buildH (bits : Int) : Nat := if bits < 1 then 0 else hashesN (bits15 bits)
def buildN (bits : Int) (k : Nat) : Nat := if bits < 1 then 0 else sizeN (k * bits15 bits)
def buildW (bits : Int) (l : List Val) : List UInt64 := if bits < 1 then [] else wordsF (buildN bits l.length) (buildH bits) l
def mayB (m n : Nat) (ws : List UInt64) (x : Val) : Bool := (posV n m x).all (mem n ws)
theorem mayB_in {m n : Nat} {l : List Val} {x : Val} (hn : 0 < n) (hx : x ∈ l) : mayB m n (wordsF n m l) x = true := by
  unfold mayB wordsF
  rw [List.all_eq_true]
  intro p hp
  rw [mem_pack, inL_ints]
  have h1 : p < n := probesN_lt hn hp
  have h2 : p ∈ allP n m l := List.mem_flatMap.2 ⟨x, hx, hp⟩
  simp [h1, h2]
def validF (h n : Int) (ws : List UInt64) : Prop := okP h n = true ∧ validP n ws
noncomputable def validFB (h n : Int) (ws : List UInt64) : Bool := okP h n && validI n ws
theorem validFB_iff {h n : Int} {ws : List UInt64} : validFB h n ws = true ↔ validF h n ws := by
  unfold validFB validF
  rw [Bool.and_eq_true, validI_iff]
end Go.Proofs.Ytgegjoggiadgbaa
/-
  Shaken: what the claims of this seat need of this text. No condition.
-/
namespace Go.Proofs.Ytgegjoggiadgbaa
set_option maxRecDepth 8000
open Go.RowKit
set_option linter.unusedVariables false
theorem dcd_bd14 (l : List UInt8) (o : Nat) (ho : o ≤ l.length) : 0 ≤ (dcd l o).1 ∧ (dcd l o).1 ≤ 18446744073709551615 ∧
    ((dcd l o).2.2 = 0 → (o : Int) ≤ (dcd l o).2.1 ∧ (dcd l o).2.1 ≤ (l.length : Int)) ∧ 0 ≤ (dcd l o).2.2 ∧ (dcd l o).2.2 ≤ 4 := by
  obtain ⟨n, k, e, h⟩ : ∃ n k e, dec 0 0 (l.drop (o : Int).toNat) = (n, k, e) := ⟨_, _, _, rfl⟩
  have h1 := dcd_ok (l := l) (off := o) (by omega) h
  have h2 := dec_lt _ 0 0 n k e (by omega) (by decide) h
  have h3 := dec_len _ 0 0 n k e h
  rw [h1]
  refine ⟨by show (0 : Int) ≤ (n : Int); omega, by show (n : Int) ≤ _; omega, fun he => ?_, by show (0 : Int) ≤ (e : Int); omega, by show (e : Int) ≤ 4; omega⟩
  have he0 : e = 0 := by have : (e : Int) = 0 := he; omega
  have h4 := h3.1 he0
  have hdl : (l.drop (o : Int).toNat).length = l.length - o := by rw [List.length_drop]; simp
  rw [hdl] at h4
  show (o : Int) ≤ (if e = 0 then (o : Int) + k else 0) ∧ (if e = 0 then (o : Int) + k else 0) ≤ (l.length : Int)
  rw [if_pos he0]
  omega
theorem dcd_bd15 {l : List UInt8} {o x q e : Int} (h : dcd l o = (x, q, e)) : 0 ≤ x ∧ x ≤ 18446744073709551615 ∧ (e = 0 → 0 ≤ o ∧ o ≤ q ∧ q ≤ (l.length : Int)) ∧ 0 ≤ e ∧ e ≤ 4 := by
  by_cases hb : o < 0 ∨ (l.length : Int) < o
  · rw [dcd_bad hb] at h
    injection h with h1 h2
    injection h2 with h2 h3
    subst h1 h2 h3
    exact ⟨by decide, by decide, fun h => absurd h (by decide), by decide, by decide⟩
  · obtain ⟨k, rfl⟩ := Int.eq_ofNat_of_zero_le (a := o) (by omega)
    have h1 := dcd_bd14 l k (by omega)
    rw [h] at h1
    exact ⟨h1.1, h1.2.1, fun he => ⟨by omega, h1.2.2.1 he⟩, h1.2.2.2⟩
theorem dcd_acc15 {b : List UInt8} {o : Nat} {x q : Int} (ho : o ≤ b.length) (h0 : dcd b (o : Int) = (x, q, 0)) :
    ∃ n k : Nat, x = (n : Int) ∧ q = ((o + k : Nat) : Int) ∧ o + k ≤ b.length ∧ enc n = (b.drop o).take k := by
  obtain ⟨n, k, e, h⟩ : ∃ n k e, dec 0 0 (b.drop (o : Int).toNat) = (n, k, e) := ⟨_, _, _, rfl⟩
  have h1 := dcd_ok (l := b) (off := (o : Int)) (by omega) h
  rw [h1] at h0
  injection h0 with e1 e2
  injection e2 with e2 e3
  have he0 : e = 0 := by omega
  subst he0
  have h3 := enc_dec h
  rw [Int.toNat_natCast] at h3
  have hl : (b.drop o).length = b.length - o := List.length_drop
  refine ⟨n, k, e1.symm, ?_, by omega, h3.1⟩
  rw [← e2, if_pos rfl]
  omega
theorem dcd_at15 {a r : List UInt8} {n : Nat} (hn : n < 18446744073709551616) : dcd (a ++ (enc n ++ r)) (a.length : Int) = ((n : Int), ((a ++ enc n).length : Int), 0) := by
  have hd : dec 0 0 ((a ++ (enc n ++ r)).drop ((a.length : Int)).toNat) = (n, esz n, 0) := by
    rw [Int.toNat_natCast, List.drop_left]
    exact dec_enc hn r
  rw [dcd_ok (by simp; omega) hd, if_pos rfl, List.length_append, enc_length hn]
  simp
def wordB (l : List UInt8) (o i : Nat) : UInt64 := UInt64.ofNat (le ((l.drop (o + 8 * i)).take 8))
def readW (l : List UInt8) (o k : Nat) : List UInt64 := (List.range k).map (wordB l o)
theorem readW_length (l : List UInt8) (o k : Nat) : (readW l o k).length = k := by simp [readW]
theorem readW_get {l : List UInt8} {o k i : Nat} (h : i < k) : (readW l o k)[i]? = some (wordB l o i) := by simp [readW, h]
def upW (l : List UInt8) (o k i : Nat) : List UInt64 := (List.range k).map fun j => if j < i then wordB l o j else 0
theorem upW_length (l : List UInt8) (o k i : Nat) : (upW l o k i).length = k := by simp [upW]
theorem upW_zero (l : List UInt8) (o k : Nat) : upW l o k 0 = List.replicate k 0 := by
  apply List.ext_getElem?
  intro j
  by_cases hj : j < k
  · simp [upW, hj]
  · simp [upW, hj]
theorem upW_full (l : List UInt8) (o k : Nat) : upW l o k k = readW l o k := by
  apply List.ext_getElem?
  intro j
  by_cases hj : j < k
  · simp [upW, readW, hj]
  · simp [upW, readW, hj]
theorem upW_set {l : List UInt8} {o k i : Nat} (hi : i < k) : (upW l o k i).set i (wordB l o i) = upW l o k (i + 1) := by
  apply List.ext_getElem?
  intro j
  rw [List.getElem?_set]
  by_cases hj : j < k
  · by_cases he : i = j
    · subst he
      simp [upW, hj]
    · have h1 : (j < i + 1) ↔ j < i := by omega
      simp [upW, hj, he, h1]
  · have h0 : ¬ (i = j) := by omega
    simp [upW, hj, h0]
theorem rdf_word {l : List UInt8} {o i : Nat} (h : o + 8 * i + 8 ≤ l.length) : rdf l ((o + 8 * i : Nat) : Int) 8 = (((wordB l o i).toNat : Int), 0) := by
  have h1 := rdf_ok (l := l) (o := o + 8 * i) (s := 8) (by omega) (by omega) h
  have e : (8 : Int) = ((8 : Nat) : Int) := rfl
  rw [e, h1]
  have h2 : le ((l.drop (o + 8 * i)).take 8) < 18446744073709551616 := le_lt64 (by simp; omega)
  unfold wordB
  rw [UInt64.toNat_ofNat', Nat.mod_eq_of_lt h2]
theorem rdf_none {l : List UInt8} {o : Nat} (h0 : o ≤ l.length) (h : l.length < o + 8) : rdf l (o : Int) 8 = (0, 2) := rdf_short (by omega) (by omega)
def encW (ws : List UInt64) : List UInt8 := ws.flatMap fun x => fixb x.toNat 8
theorem encW_nil : encW [] = [] := rfl
theorem encW_append (a b : List UInt64) : encW (a ++ b) = encW a ++ encW b := by simp [encW]
theorem encW_one (x : UInt64) : encW [x] = fixb x.toNat 8 := by simp [encW]
theorem encW_length : ∀ ws : List UInt64, (encW ws).length = 8 * ws.length := by
  intro ws
  induction ws with
  | nil => rfl
  | cons x l ih =>
    have e : encW (x :: l) = fixb x.toNat 8 ++ encW l := rfl
    rw [e, List.length_append, ih, fixb_length, List.length_cons]
    omega
theorem encW_take {ws : List UInt64} {i : Nat} {x : UInt64} (h : ws[i]? = some x) : encW (ws.take (i + 1)) = encW (ws.take i) ++ fixb x.toNat 8 := by
  rw [List.take_add_one, h]
  show encW (ws.take i ++ [x]) = _
  rw [encW_append, encW_one]
def encF15 (h n : Nat) (ws : List UInt64) : List UInt8 := enc h ++ enc n ++ encW ws
def decF15 (l : List UInt8) (off : Int) : Int × Int × List UInt64 × Int × Int :=
  if (dcd l off).2.2 ≠ 0 then (0, 0, [], 0, (dcd l off).2.2)
  else if (dcd l (dcd l off).2.1).2.2 ≠ 0 then (0, 0, [], 0, (dcd l (dcd l off).2.1).2.2)
  else if okP (dcd l off).1 (dcd l (dcd l off).2.1).1 = true then
    if (l.length : Int) - (dcd l (dcd l off).2.1).2.1 < 8 * ((dcd l (dcd l off).2.1).1 / 64) then (0, 0, [], 0, 2)
    else ((dcd l off).1, (dcd l (dcd l off).2.1).1, readW l (dcd l (dcd l off).2.1).2.1.toNat ((dcd l (dcd l off).2.1).1 / 64).toNat, (dcd l (dcd l off).2.1).2.1 + 8 * ((dcd l (dcd l off).2.1).1 / 64), 0)
  else (0, 0, [], 0, 4)
theorem decF15_e1 {l : List UInt8} {off h p e : Int} (h1 : dcd l off = (h, p, e)) (he : e ≠ 0) : decF15 l off = (0, 0, [], 0, e) := by
  unfold decF15
  rw [h1, if_pos he]
theorem decF15_e2 {l : List UInt8} {off h p n q e : Int} (h1 : dcd l off = (h, p, 0)) (h2 : dcd l p = (n, q, e)) (he : e ≠ 0) : decF15 l off = (0, 0, [], 0, e) := by
  unfold decF15
  rw [h1, if_neg (by simp)]
  simp only []
  rw [h2, if_pos he]
theorem decF15_e3 {l : List UInt8} {off h p n q : Int} (h1 : dcd l off = (h, p, 0)) (h2 : dcd l p = (n, q, 0)) (he : okP h n = false) : decF15 l off = (0, 0, [], 0, 4) := by
  unfold decF15
  rw [h1, if_neg (by simp)]
  simp only []
  rw [h2, if_neg (by simp)]
  simp only []
  rw [he, if_neg (by simp)]
theorem decF15_e4 {l : List UInt8} {off h p n q : Int} (h1 : dcd l off = (h, p, 0)) (h2 : dcd l p = (n, q, 0)) (he : okP h n = true) (hs : (l.length : Int) - q < 8 * (n / 64)) : decF15 l off = (0, 0, [], 0, 2) := by
  unfold decF15
  rw [h1, if_neg (by simp)]
  simp only []
  rw [h2, if_neg (by simp)]
  simp only []
  rw [he, if_pos rfl, if_pos hs]
theorem decF15_ok {l : List UInt8} {off h p n q : Int} (h1 : dcd l off = (h, p, 0)) (h2 : dcd l p = (n, q, 0)) (he : okP h n = true) (hs : ¬ (l.length : Int) - q < 8 * (n / 64)) :
    decF15 l off = (h, n, readW l q.toNat (n / 64).toNat, q + 8 * (n / 64), 0) := by
  unfold decF15
  rw [h1, if_neg (by simp)]
  simp only []
  rw [h2, if_neg (by simp)]
  simp only []
  rw [he, if_pos rfl, if_neg hs]
theorem okP_wrap {h n : Int} (h1 : 0 ≤ h) (h2 : h ≤ 18446744073709551615) (n1 : 0 ≤ n) (n2 : n ≤ 18446744073709551615) : okP (IntKind.i64.wrap h) (IntKind.i64.wrap n) = okP h n := by
  rw [IntKind.wrap_i64, IntKind.wrap_i64]
  by_cases c1 : h ≤ 9223372036854775807
  · have e1 : (h + 9223372036854775808) % 18446744073709551616 - 9223372036854775808 = h := by omega
    rw [e1]
    by_cases c2 : n ≤ 9223372036854775807
    · have e2 : (n + 9223372036854775808) % 18446744073709551616 - 9223372036854775808 = n := by omega
      rw [e2]
    · generalize hn : (n + 9223372036854775808) % 18446744073709551616 - 9223372036854775808 = m
      have hm : m < 0 := by omega
      by_cases d1 : h = 0
      · subst d1
        rw [okP_zero, okP_zero]
        have a1 : (m == 0) = false := by simp; omega
        have a2 : (n == 0) = false := by simp; omega
        rw [a1, a2]
      by_cases d2 : h ≤ 11
      · rw [okP_nlt d1 (by omega) d2 (by omega), okP_ngt d1 (by omega) d2 (by omega) (by omega)]
      · rw [okP_gt d1 (by omega) d2, okP_gt d1 (by omega) d2]
  · generalize hn : (h + 9223372036854775808) % 18446744073709551616 - 9223372036854775808 = m
    rw [okP_lt (show m ≠ 0 by omega) (by omega), okP_gt (show h ≠ 0 by omega) (by omega) (by omega)]
theorem readW_enc : ∀ (ws : List UInt64) (l a r : List UInt8), l = a ++ (encW ws ++ r) → readW l a.length ws.length = ws := by
  intro ws l a r hl
  apply List.ext_getElem?
  intro i
  by_cases hi : i < ws.length
  · rw [readW_get hi]
    obtain ⟨x, hx⟩ : ∃ x, ws[i]? = some x := ⟨_, List.getElem?_eq_getElem hi⟩
    rw [hx]
    congr 1
    have h1 : encW ws = encW (ws.take i) ++ (fixb x.toNat 8 ++ encW (ws.drop (i + 1))) := by
      have e : ws = ws.take (i + 1) ++ ws.drop (i + 1) := (List.take_append_drop _ _).symm
      conv => lhs; rw [e]
      rw [encW_append, encW_take hx, List.append_assoc]
    have h2 : (encW (ws.take i)).length = 8 * i := by rw [encW_length, List.length_take, Nat.min_eq_left (by omega)]
    unfold wordB
    have h3 : (l.drop (a.length + 8 * i)).take 8 = fixb x.toNat 8 := by
      rw [hl, h1, List.append_assoc, ← h2, ← List.length_append, ← List.append_assoc, List.drop_left, List.append_assoc, List.take_left' (fixb_length _ _)]
    rw [h3, le_fixb]
    have hx2 := x.toNat_lt
    have : x.toNat % 256 ^ 8 = x.toNat := Nat.mod_eq_of_lt (by simpa using hx2)
    rw [this]
    simp
  · rw [List.getElem?_eq_none (by rw [readW_length]; omega), List.getElem?_eq_none (by omega)]
theorem dec_enc15 {h n : Nat} {ws : List UInt64} (r : List UInt8) (hp : okP (h : Int) (n : Int) = true) (hl : ws.length = nw n) :
    decF15 (encF15 h n ws ++ r) 0 = ((h : Int), (n : Int), ws, ((encF15 h n ws).length : Int), 0) := by
  have hb := okP_spec hp
  have hh : h < 18446744073709551616 := by omega
  have hn : n < 18446744073709551616 := by omega
  have hw : (n : Int) / 64 = ((ws.length : Nat) : Int) := by rw [hl]; unfold nw; omega
  obtain ⟨l, hll⟩ : ∃ l, l = encF15 h n ws ++ r := ⟨_, rfl⟩
  have e1 : l = [] ++ (enc h ++ (enc n ++ (encW ws ++ r))) := by rw [hll]; simp [encF15]
  have e2 : l = enc h ++ (enc n ++ (encW ws ++ r)) := by rw [e1]; simp
  have h1 : dcd l 0 = ((h : Int), ((enc h).length : Int), 0) := by
    have := dcd_at15 (a := []) (r := enc n ++ (encW ws ++ r)) hh
    rw [← e1] at this
    simpa using this
  have h2 : dcd l ((enc h).length : Int) = ((n : Int), ((enc h ++ enc n).length : Int), 0) := by
    have := dcd_at15 (a := enc h) (r := encW ws ++ r) hn
    rwa [← e2] at this
  have e3 : l = (enc h ++ enc n) ++ (encW ws ++ r) := by rw [e2]; simp
  have hlen : l.length = (enc h ++ enc n).length + (8 * ws.length + r.length) := by
    rw [e3, List.length_append]
    congr 1
    rw [List.length_append, encW_length]
  rw [← hll, decF15_ok h1 h2 hp (by rw [hw]; omega), hw, Int.toNat_natCast, Int.toNat_natCast, readW_enc ws l _ r e3]
  have h4 : (encF15 h n ws).length = (enc h ++ enc n).length + 8 * ws.length := by unfold encF15; rw [List.length_append, encW_length]
  rw [h4]
  simp only [Prod.mk.injEq, true_and, and_true]
  omega
theorem fixb_le : ∀ (l : List UInt8), fixb (le l) l.length = l := by
  intro l
  apply List.ext_getElem?
  intro j
  by_cases hj : j < l.length
  · have h2 : ∀ (l : List UInt8) (j : Nat), j < l.length → le l / 256 ^ j % 256 = (l.getD j 0).toNat := by
      intro l
      induction l with
      | nil => intro j h; exact absurd h (by simp)
      | cons c r ih =>
        intro j h
        have hc : c.toNat < 256 := c.toNat_lt
        cases j with
        | zero => rw [le]; simp <;> omega
        | succ j =>
          rw [le, Nat.pow_succ, Nat.mul_comm (256 ^ j), ← Nat.div_div_eq_div_mul]
          have : (c.toNat + 256 * le r) / 256 = le r := by omega
          rw [this, ih j (by simpa using h)]
          simp
    have h3 := h2 l j hj
    have h4 : (fixb (le l) l.length)[j]? = some (UInt8.ofNat (le l / 256 ^ j % 256)) := by simp [fixb, hj]
    rw [h4, h3, List.getElem?_eq_getElem hj]
    congr 1
    simp [List.getD_eq_getElem?_getD, List.getElem?_eq_getElem hj]
  · rw [List.getElem?_eq_none (by rw [fixb_length]; omega), List.getElem?_eq_none (by omega)]
theorem encW_read {l : List UInt8} {o : Nat} : ∀ k, o + 8 * k ≤ l.length → encW (readW l o k) = (l.drop o).take (8 * k) := by
  intro k
  induction k with
  | zero => intro _; simp [readW, encW]
  | succ k ih =>
    intro h
    have e : readW l o (k + 1) = readW l o k ++ [wordB l o k] := by simp [readW, List.range_succ]
    have h2 : ((l.drop (o + 8 * k)).take 8).length = 8 := by rw [List.length_take, List.length_drop]; omega
    have h3 : le ((l.drop (o + 8 * k)).take 8) < 18446744073709551616 := le_lt64 (by omega)
    have h4 := fixb_le ((l.drop (o + 8 * k)).take 8)
    rw [h2] at h4
    rw [e, encW_append, encW_one, ih (by omega)]
    unfold wordB
    rw [UInt64.toNat_ofNat', Nat.mod_eq_of_lt h3, h4, show 8 * (k + 1) = 8 * k + 8 by omega, List.take_add, List.drop_drop]
theorem dec_acc15 {l : List UInt8} {h n q : Int} {ws : List UInt64} (hd : decF15 l 0 = (h, n, ws, q, 0)) :
    ∃ h' n' k : Nat, h = (h' : Int) ∧ n = (n' : Int) ∧ q = (k : Int) ∧ k ≤ l.length ∧ okP h n = true ∧ ws.length = nw n' ∧ encF15 h' n' ws = l.take k := by
  obtain ⟨x, p, e, h1⟩ : ∃ x p e, dcd l 0 = (x, p, e) := ⟨_, _, _, rfl⟩
  by_cases he : ¬ e = 0
  · rw [decF15_e1 h1 he] at hd
    injection hd with _ hd; injection hd with _ hd; injection hd with _ hd; injection hd with _ hd
    exact absurd hd he
  have he := Decidable.not_not.1 he
  subst he
  obtain ⟨y, p2, e2, h2⟩ : ∃ x q e, dcd l p = (x, q, e) := ⟨_, _, _, rfl⟩
  by_cases he2 : ¬ e2 = 0
  · rw [decF15_e2 h1 h2 he2] at hd
    injection hd with _ hd; injection hd with _ hd; injection hd with _ hd; injection hd with _ hd
    exact absurd hd he2
  have he2 := Decidable.not_not.1 he2
  subst he2
  cases hp : okP x y
  · rw [decF15_e3 h1 h2 hp] at hd
    injection hd with _ hd; injection hd with _ hd; injection hd with _ hd; injection hd with _ hd
    cases hd
  by_cases hs : (l.length : Int) - p2 < 8 * (y / 64)
  · rw [decF15_e4 h1 h2 hp hs] at hd
    injection hd with _ hd; injection hd with _ hd; injection hd with _ hd; injection hd with _ hd
    cases hd
  rw [decF15_ok h1 h2 hp hs] at hd
  injection hd with d1 hd; injection hd with d2 hd; injection hd with d3 hd; injection hd with d4 hd
  have h1' : dcd l ((0 : Nat) : Int) = (x, p, 0) := h1
  obtain ⟨a, k, rfl, rfl, hk, hea⟩ := dcd_acc15 (Nat.zero_le _) h1'
  obtain ⟨b, m, rfl, rfl, hm, heb⟩ := dcd_acc15 hk h2
  have hb := okP_spec hp
  obtain ⟨c, hc⟩ : ∃ c, c = b / 64 := ⟨_, rfl⟩
  have hc2 : (b : Int) / 64 = (c : Int) := by omega
  rw [hc2] at d3 d4 hs
  rw [Int.toNat_natCast, Int.toNat_natCast] at d3
  refine ⟨a, b, 0 + k + m + 8 * c, d1.symm, d2.symm, by omega, by omega, by rw [← d1, ← d2]; exact hp, ?_, ?_⟩
  · rw [← d3, readW_length]; unfold nw; omega
  · unfold encF15
    rw [hea, heb, ← d3, encW_read c (by omega)]
    simp only [Nat.zero_add, List.drop_zero]
    rw [← List.take_add, ← List.take_add]
end Go.Proofs.Ytgegjoggiadgbaa
