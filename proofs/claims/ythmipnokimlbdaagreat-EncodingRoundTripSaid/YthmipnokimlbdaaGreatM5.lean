/-
  Texts that the claims of this seat share, put together (Bq1, LdNum, FcNum, VFix, VRead, Dec, FrNum, RlEnc, FrDec, DlNum). No condition.
-/
import Derived.Test.YthmipnokimlbdaaGreatM3
import Derived.Test.YthmipnokimlbdaaGreatM4
import Derived.Test.YthmipnokimlbdaaGreatM1
import Derived.Test.YthmipnokimlbdaaGreatProg
import Derived.WalkKit
import Derived.Outline
import Derived.OwnWalk
/-
  Shaken: what the claims of this seat need of this text. No condition.
-/
namespace Go.Proofs.YthmipnokimlbdaaGreat
set_option maxRecDepth 8000
open Go.RowKit
set_option linter.unusedVariables false
set_option linter.unusedSimpArgs false
def okN (n : Int) : Bool := decide (0 ≤ n) && decide (n ≤ 1048576)
def okM (m : Int) : Bool := decide (0 ≤ m) && decide (m ≤ 64)
theorem okB_eq (n m : Int) : okB n m = (okN n && okM m) := by unfold okB okN okM; simp only [Bool.and_assoc]
theorem okN_t {n : Nat} (h : n ≤ 1048576) : okN (n : Int) = true := by unfold okN; simp; omega
theorem okM_t {n : Nat} (h : n ≤ 64) : okM (n : Int) = true := by unfold okM; simp; omega
theorem okB_t {n m : Nat} (h : n ≤ 1048576) (h2 : m ≤ 64) : okB (n : Int) (m : Int) = true := by rw [okB_eq, okN_t h, okM_t h2]; rfl
theorem validN_any (n : Int) (w : World) : Calls Tryz.prog 190 #[.int .i64 n] w fun e w' => e = .returned (.bool (okN n)) ∧ w = w' := by
  by_cases h1 : 0 ≤ n
  · go_enter Tryz.func190, Tryz.ntmps190
    go_wp2
    go_ret
    exact ⟨retB (by simp [okN, h1]), rfl⟩
  · have hd : decide (0 ≤ n) = false := by simpa using h1
    go_enter Tryz.func190, Tryz.ntmps190
    go_wp2
    go_ret
    exact ⟨retB (by unfold okN; rw [hd]; simp), rfl⟩
theorem validM_any (n : Int) (w : World) : Calls Tryz.prog 191 #[.int .i64 n] w fun e w' => e = .returned (.bool (okM n)) ∧ w = w' := by
  by_cases h1 : 0 ≤ n
  · go_enter Tryz.func191, Tryz.ntmps191
    go_wp2
    go_ret
    exact ⟨retB (by simp [okM, h1]), rfl⟩
  · have hd : decide (0 ≤ n) = false := by simpa using h1
    go_enter Tryz.func191, Tryz.ntmps191
    go_wp2
    go_ret
    exact ⟨retB (by unfold okM; rw [hd]; simp), rfl⟩
theorem bytesFor_any (k : Nat) (w : World) (hk : k ≤ 1000000000000) : Calls Tryz.prog 194 #[.int .i64 (k : Int)] w fun e w' => e = .returned (.int .i64 (((k + 7) / 8 : Nat) : Int)) ∧ w = w' := by
  have HE := hidden (show ((k : Int) + 8 - 1) / 8 = (((k + 7) / 8 : Nat) : Int) by omega)
  go_enter Tryz.func194, Tryz.ntmps194
  go_wp2
  go_ret
  exact ⟨retU HE.out, rfl⟩
theorem pow_le64 {c : Nat} (h : c ≤ 64) : (2 : Nat) ^ c ≤ 18446744073709551616 := Nat.le_trans (Nat.pow_le_pow_right (by decide) h) (by decide)
theorem low_wrap {c : Nat} (h : c ≤ 64) : IntKind.u64.wrap (IntKind.u64.wrap (1 * 2 ^ c) - 1) = ((2 ^ c - 1 : Nat) : Int) := by
  have e : ((2 : Int) ^ c) = ((2 ^ c : Nat) : Int) := by simp
  have h1 := pow_le64 h
  have h2 := Nat.two_pow_pos c
  rw [Int.one_mul, e, IntKind.wrap_u64, IntKind.wrap_u64]
  generalize 2 ^ c = y at *
  omega
theorem lowBits_any (c : Nat) (w : World) (hc : c ≤ 64) : Calls Tryz.prog 193 #[.int .i64 (c : Int)] w fun e w' => e = .returned (.int .u64 ((2 ^ c - 1 : Nat) : Int)) ∧ w' = w := by
  have HE := hidden (low_wrap hc)
  go_enter Tryz.func193, Tryz.ntmps193
  go_wp2
  go_ret
  exact ⟨retU (by first | exact HE.out | (have h := HE.out; rw [Int.one_mul] at h; exact h)), rfl⟩
theorem and_low {x c : Nat} (hx : x < 18446744073709551616) (hc : c ≤ 64) : bits .and .u64 (x : Int) ((2 ^ c - 1 : Nat) : Int) = ((x % 2 ^ c : Nat) : Int) := by
  have h1 := pow_le64 hc
  have h2 := Nat.two_pow_pos c
  rw [u64_and _ _ (by omega) (by omega) (by omega) (by omega), Int.toNat_natCast, Int.toNat_natCast, Nat.and_two_pow_sub_one_eq_mod]
theorem sizeI_nat {n m : Nat} (h : n ≤ 1048576) (h2 : m ≤ 64) : sizeI (n : Int) (m : Int) = ((szB n m : Nat) : Int) := by
  unfold sizeI
  rw [okB_t h h2, Int.toNat_natCast, Int.toNat_natCast]
  rfl
theorem size_any (n m : Int) (w : World) : Calls Tryz.prog 139 #[.int .i64 n, .int .i64 m] w fun e w' => e = .returned (.int .i64 (sizeI n m)) ∧ w = w' := by
  have HN := hidden (fun w => validN_any n w)
  have HM := hidden (fun w => validM_any m w)
  cases h1 : okN n
  · have HE := hidden (show sizeI n m = 0 by unfold sizeI; rw [okB_eq, h1]; rfl)
    rw [h1] at HN
    clear h1
    go_enter Tryz.func139, Tryz.ntmps139
    go_wp2_with ((go_at_call 190; refine (HN.out _).mono ?_; rintro e w2 ⟨rfl, rfl⟩))
    go_ret
    exact ⟨retU HE.out.symm, rfl⟩
  · rw [h1] at HN
    cases h2 : okM m
    · have HE := hidden (show sizeI n m = 0 by unfold sizeI; rw [okB_eq, h1, h2]; rfl)
      rw [h2] at HM
      clear h1 h2
      go_enter Tryz.func139, Tryz.ntmps139
      go_wp2_with (first | (go_at_call 190; refine (HN.out _).mono ?_; rintro e w2 ⟨rfl, rfl⟩) | (go_at_call 191; refine (HM.out _).mono ?_; rintro e w2 ⟨rfl, rfl⟩))
      go_ret
      exact ⟨retU HE.out.symm, rfl⟩
    · rw [h2] at HM
      obtain ⟨⟨a1, a2⟩, a3, a4⟩ := okB_true (show okB n m = true by rw [okB_eq, h1, h2]; rfl)
      clear h1 h2
      obtain ⟨N, rfl⟩ := Int.eq_ofNat_of_zero_le a1
      obtain ⟨M, rfl⟩ := Int.eq_ofNat_of_zero_le a3
      have hb : N * M ≤ 1048576 * 64 := Nat.mul_le_mul (by omega) (by omega)
      have hc : (N : Int) * (M : Int) = ((N * M : Nat) : Int) := (Int.natCast_mul N M).symm
      have h0 : 0 ≤ (N : Int) * (M : Int) := by omega
      have h9 : (N : Int) * (M : Int) ≤ 67108864 := by omega
      have HE := hidden (sizeI_nat (n := N) (m := M) (by omega) (by omega))
      have HB := hidden (fun w => bytesFor_any (N * M) w (by omega))
      have HC := hidden hc
      rw [← hc] at HB
      clear hc
      go_enter Tryz.func139, Tryz.ntmps139
      go_wp2_with (first | (go_at_call 190; refine (HN.out _).mono ?_; rintro e w2 ⟨rfl, rfl⟩) | (go_at_call 191; refine (HM.out _).mono ?_; rintro e w2 ⟨rfl, rfl⟩) | (go_at_call 194; refine (HB.out _).mono ?_; rintro e w2 ⟨rfl, rfl⟩))
      go_ret
      exact ⟨retU (by rw [HE.out]; rfl), rfl⟩
end Go.Proofs.YthmipnokimlbdaaGreat
/-
  Shaken: what the claims of this seat need of this text. No condition.
-/
namespace Go.Proofs.YthmipnokimlbdaaGreat
set_option maxRecDepth 8000
open Go.RowKit
theorem dec_lt : ∀ (l : List UInt8) (i x n k e : Nat), i ≤ 9 → x < 128 ^ i → dec i x l = (n, k, e) → n < 18446744073709551616
  | [], i, x, n, k, e, _, _, h => by
    rw [dec_end] at h
    injection h with h1 _
    omega
  | c :: r, i, x, n, k, e, hi, hx, h => by
    by_cases hb : (i = 9 ∧ 1 < c.toNat) ∨ (0 < i ∧ c.toNat = 0)
    · rw [dec_bad hb] at h
      injection h with h1 _
      omega
    · have hs := sum_lt64 hi hx (c := c.toNat) (fun h9 => by
        rcases Nat.lt_or_ge 1 c.toNat with h1 | h1
        · exact absurd (.inl ⟨h9, h1⟩) hb
        · exact h1)
      by_cases hc : c.toNat < 128
      · rw [dec_last hb hc] at h
        injection h with h1 _
        omega
      · rw [dec_more hb hc] at h
        by_cases h9 : i = 9
        · exact absurd (.inl ⟨h9, by omega⟩) hb
        · exact dec_lt r (i + 1) _ n k e (by omega) (sum_lt hx) h
theorem dec_len : ∀ (l : List UInt8) (i x n k e : Nat), dec i x l = (n, k, e) → (e = 0 → i < k ∧ k ≤ i + l.length) ∧ (e = 0 ∨ e = 2 ∨ e = 4)
  | [], i, x, n, k, e, h => by
    rw [dec_end] at h
    injection h with h1 h2
    injection h2 with h2 h3
    exact ⟨fun h => by omega, by omega⟩
  | c :: r, i, x, n, k, e, h => by
    by_cases hb : (i = 9 ∧ 1 < c.toNat) ∨ (0 < i ∧ c.toNat = 0)
    · rw [dec_bad hb] at h
      injection h with h1 h2
      injection h2 with h2 h3
      exact ⟨fun h => by omega, by omega⟩
    · by_cases hc : c.toNat < 128
      · rw [dec_last hb hc] at h
        injection h with h1 h2
        injection h2 with h2 h3
        exact ⟨fun _ => by simp only [List.length_cons]; omega, by omega⟩
      · rw [dec_more hb hc] at h
        have ih := dec_len r (i + 1) _ n k e h
        exact ⟨fun he => by have := ih.1 he; simp only [List.length_cons]; omega, ih.2⟩
theorem dcd_bd (l : List UInt8) (o : Nat) (ho : o ≤ l.length) : 0 ≤ (dcd l o).1 ∧ (dcd l o).1 ≤ 18446744073709551615 ∧
    ((dcd l o).2.2 = 0 → (o : Int) ≤ (dcd l o).2.1 ∧ (dcd l o).2.1 ≤ (l.length : Int)) ∧ 0 ≤ (dcd l o).2.2 ∧ (dcd l o).2.2 ≤ 4 := by
  obtain ⟨n, k, e, h⟩ : ∃ n k e, dec 0 0 (l.drop (o : Int).toNat) = (n, k, e) := ⟨_, _, _, rfl⟩
  have h1 := dcd_ok (l := l) (off := o) (by omega) h
  have h2 := dec_lt _ 0 0 n k e (by omega) (by decide) h
  have h3 := dec_len _ 0 0 n k e h
  rw [h1]
  refine ⟨by show (0 : Int) ≤ (n : Int); omega, by show (n : Int) ≤ _; omega, fun he => ?_, by show (0 : Int) ≤ (e : Int); omega, by show (e : Int) ≤ 4; omega⟩
  have he0 : e = 0 := by have : (e : Int) = 0 := he; omega
  have h4 := h3.1 he0
  have hdl : (l.drop (o : Int).toNat).length = l.length - o := by rw [List.length_drop]; simp
  rw [hdl] at h4
  show (o : Int) ≤ (if e = 0 then (o : Int) + k else 0) ∧ (if e = 0 then (o : Int) + k else 0) ≤ (l.length : Int)
  rw [if_pos he0]
  omega
structure DecO where
  k : Int
  n : Int
  t : ByteArray
  p : Int
  e : Int
def DecO.v (d : DecO) : Value := .tuple #[.agg #[.int .i64 d.k, .int .i64 d.n, .string d.t], .int .i64 d.p, .int .i64 d.e]
end Go.Proofs.YthmipnokimlbdaaGreat
/-
  Shaken: what the claims of this seat need of this text. No condition.
-/
namespace Go.Proofs.YthmipnokimlbdaaGreat
set_option maxRecDepth 8000
open Go.RowKit
set_option linter.unusedVariables false
set_option linter.unusedSimpArgs false
abbrev Str := List UInt8
def cp : Str → Str → Nat
  | x :: a, y :: b => if x = y then cp a b + 1 else 0
  | _, _ => 0
theorem cp_nil (b : Str) : cp [] b = 0 := by cases b <;> rfl
theorem cp_nil_r (a : Str) : cp a [] = 0 := by cases a <;> rfl
theorem cp_le : ∀ (a b : Str), cp a b ≤ a.length ∧ cp a b ≤ b.length
  | [], b => by rw [cp_nil]; omega
  | _ :: _, [] => by rw [cp_nil_r]; omega
  | x :: a, y :: b => by
    unfold cp
    have := cp_le a b
    split <;> simp <;> omega
theorem cp_take : ∀ (a b : Str), a.take (cp a b) = b.take (cp a b)
  | [], b => by rw [cp_nil]; simp
  | _ :: _, [] => by rw [cp_nil_r]; simp
  | x :: a, y :: b => by
    unfold cp
    by_cases h : x = y
    · rw [if_pos h, List.take_succ_cons, List.take_succ_cons, cp_take a b, h]
    · rw [if_neg h]; simp
theorem cp_ge : ∀ (k : Nat) (a b : Str), k ≤ a.length → k ≤ b.length → a.take k = b.take k → k ≤ cp a b
  | 0, a, b, _, _, _ => by omega
  | k + 1, [], _, h, _, _ => by simp at h
  | k + 1, _ :: _, [], _, h, _ => by simp at h
  | k + 1, x :: a, y :: b, h1, h2, h => by
    rw [List.take_succ_cons, List.take_succ_cons] at h
    injection h with h3 h4
    unfold cp
    rw [if_pos h3]
    have := cp_ge k a b (by simpa using h1) (by simpa using h2) h4
    omega
theorem cp_stop {a b : Str} {k : Nat} (h1 : k < a.length) (h2 : k < b.length) (h : a.take k = b.take k) (hne : a[k] ≠ b[k]) : cp a b = k := by
  have h3 := cp_ge k a b (by omega) (by omega) h
  rcases Nat.lt_or_ge k (cp a b) with h4 | h4
  · have h5 := cp_take a b
    have h6 : (a.take (cp a b))[k]? = (b.take (cp a b))[k]? := by rw [h5]
    rw [List.getElem?_take_of_lt h4, List.getElem?_take_of_lt h4, List.getElem?_eq_getElem h1, List.getElem?_eq_getElem h2] at h6
    injection h6 with h6
    exact absurd h6 hne
  · omega
theorem cp_end {a b : Str} {k : Nat} (hk : k = min a.length b.length) (h : a.take k = b.take k) : cp a b = k := by
  have h3 := cp_ge k a b (by omega) (by omega) h
  have := cp_le a b
  omega
theorem take_next {a b : Str} {k : Nat} (h1 : k < a.length) (h2 : k < b.length) (h : a.take k = b.take k) (he : a[k] = b[k]) : a.take (k + 1) = b.take (k + 1) := by
  rw [List.take_succ_eq_append_getElem h1, List.take_succ_eq_append_getElem h2, h, he]
def itm (prev s : Str) : List UInt8 := enc (cp prev s) ++ (enc (s.length - cp prev s) ++ s.drop (cp prev s))
def prvAt (l : List Str) (k : Nat) : Str := if k % 16 = 0 then [] else l.getD (k - 1) []
def encK (l : List Str) : Nat → List UInt8
  | 0 => []
  | k + 1 => encK l k ++ itm (prvAt l k) (l.getD k [])
def fcEnc (l : List Str) : List UInt8 := encK l l.length
theorem encK_succ (l : List Str) (k : Nat) : encK l (k + 1) = encK l k ++ itm (prvAt l k) (l.getD k []) := rfl
theorem enc_len11 {n : Nat} (h : n < 18446744073709551616) : (enc n).length ≤ 10 := by rw [enc_length h]; exact (esz_bd h).2
theorem itm_len {prev s : Str} {M : Nat} (h : s.length ≤ M) (hM : M ≤ 18446744073709551615) : (itm prev s).length ≤ M + 20 := by
  have h1 := cp_le prev s
  have h2 := enc_len11 (n := cp prev s) (by omega)
  have h3 := enc_len11 (n := s.length - cp prev s) (by omega)
  unfold itm
  simp only [List.length_append, List.length_drop]
  omega
theorem getD_len {l : List Str} {M : Nat} (h : ∀ s ∈ l, s.length ≤ M) (k : Nat) : (l.getD k []).length ≤ M := by
  rw [List.getD_eq_getElem?_getD]
  rcases Nat.lt_or_ge k l.length with h1 | h1
  · rw [List.getElem?_eq_getElem h1]; exact h _ (List.getElem_mem h1)
  · rw [List.getElem?_eq_none h1]; simp
theorem encK_len {l : List Str} {M : Nat} (h : ∀ s ∈ l, s.length ≤ M) (hM : M ≤ 18446744073709551615) : ∀ k, (encK l k).length ≤ (M + 20) * k
  | 0 => by simp [encK]
  | k + 1 => by
    rw [encK_succ, List.length_append, Nat.mul_succ]
    have h1 := encK_len h hM k
    have h2 := itm_len (prev := prvAt l k) (getD_len h k) hM
    omega
theorem getD_append_l {l r : List Str} {k : Nat} (h : k < l.length) : (l ++ r).getD k [] = l.getD k [] := by
  rw [List.getD_eq_getElem?_getD, List.getD_eq_getElem?_getD, List.getElem?_append_left h]
theorem getD_append_r {l r : List Str} {k : Nat} : (l ++ r).getD (l.length + k) [] = r.getD k [] := by
  rw [List.getD_eq_getElem?_getD, List.getD_eq_getElem?_getD, List.getElem?_append_right (by omega), Nat.add_sub_cancel_left]
theorem prvAt_append_l {l r : List Str} {k : Nat} (h : k ≤ l.length) : prvAt (l ++ r) k = prvAt l k := by
  unfold prvAt
  split
  · rfl
  · rename_i h1
    exact getD_append_l (by omega)
theorem encK_append_l {l r : List Str} : ∀ {k : Nat}, k ≤ l.length → encK (l ++ r) k = encK l k
  | 0, _ => rfl
  | k + 1, h => by
    rw [encK_succ, encK_succ, encK_append_l (by omega), prvAt_append_l (by omega), getD_append_l (by omega)]
def prvL (ws : List Str) : Str := prvAt ws ws.length
theorem fcEnc_snoc (ws : List Str) (s : Str) : fcEnc (ws ++ [s]) = fcEnc ws ++ itm (prvL ws) s := by
  show encK (ws ++ [s]) (ws ++ [s]).length = _
  rw [List.length_append, List.length_singleton, encK_succ, encK_append_l (Nat.le_refl _), prvAt_append_l (Nat.le_refl _)]
  have h : (ws ++ [s]).getD (ws.length + 0) [] = [s].getD 0 [] := getD_append_r
  rw [Nat.add_zero] at h
  rw [h]
  rfl
theorem prvL_take {l : List Str} {k : Nat} (h : k ≤ l.length) : prvL (l.take k) = prvAt l k := by
  unfold prvL
  rw [List.length_take, Nat.min_eq_left h]
  conv => rhs; rw [← List.take_append_drop k l]
  rw [prvAt_append_l (by rw [List.length_take]; omega)]
def cutF (b : List UInt8) (p s : Nat) : List UInt8 := (b.drop p).take s
theorem cutF_length {b : List UInt8} {p s : Nat} (h : p + s ≤ b.length) : (cutF b p s).length = s := by simp [cutF]; omega
theorem cutF_glue {b : List UInt8} {o k m : Nat} : cutF b o k ++ cutF b (o + k) m = cutF b o (k + m) := by
  unfold cutF
  rw [List.take_add, List.drop_drop]
def rdH (b : List UInt8) (prev : Str) (n m q : Nat) : Str × Int × Int :=
  if n < cp prev (prev.take n ++ cutF b q m) then ([], 0, 4) else (prev.take n ++ cutF b q m, ((q + m : Nat) : Int), 0)
def rdG (b : List UInt8) (prev : Str) (n : Nat) (p : Int) : Str × Int × Int :=
  if (dcd b p).2.2 ≠ 0 then ([], 0, (dcd b p).2.2)
  else if (b.length : Int) - (dcd b p).2.1 < (dcd b p).1 then ([], 0, 2)
  else rdH b prev n (dcd b p).1.toNat (dcd b p).2.1.toNat
def rdF (b : List UInt8) (p : Int) (prev : Str) : Str × Int × Int :=
  if (dcd b p).2.2 ≠ 0 then ([], 0, (dcd b p).2.2)
  else if (prev.length : Int) < (dcd b p).1 then ([], 0, 4)
  else rdG b prev (dcd b p).1.toNat (dcd b p).2.1
def rdFs (b : List UInt8) : Nat → List Str → Int → List Str × Int × Int
  | 0, ws, p => (ws, p, 0)
  | n + 1, ws, p => if (rdF b p (prvL ws)).2.2 ≠ 0 then ([], 0, (rdF b p (prvL ws)).2.2) else rdFs b n (ws ++ [(rdF b p (prvL ws)).1]) (rdF b p (prvL ws)).2.1
def badF (b : List UInt8) (off n : Int) : Prop := off < 0 ∨ (b.length : Int) < off ∨ n < 0 ∨ 65536 < n
instance (b : List UInt8) (off n : Int) : Decidable (badF b off n) := by unfold badF; infer_instance
def fcDec (b : List UInt8) (off n : Int) : List Str × Int × Int := if badF b off n then ([], 0, 1) else rdFs b n.toNat [] off
theorem dcd_acc11 {b : List UInt8} {o : Nat} (ho : o ≤ b.length) (he : (dcd b (o : Int)).2.2 = 0) :
    ∃ n k : Nat, dcd b (o : Int) = ((n : Int), ((o + k : Nat) : Int), 0) ∧ o + k ≤ b.length ∧ 1 ≤ k ∧ enc n = cutF b o k ∧ n < 18446744073709551616 := by
  obtain ⟨n, k, e, h⟩ : ∃ n k e, dec 0 0 (b.drop (o : Int).toNat) = (n, k, e) := ⟨_, _, _, rfl⟩
  have h1 := dcd_ok (l := b) (off := (o : Int)) (by omega) h
  have h7 := dec_lt _ 0 0 n k e (by omega) (by decide) h
  rw [h1] at he
  have he0 : e = 0 := by have : (e : Int) = 0 := he; omega
  subst he0
  have h3 := enc_dec h
  rw [Int.toNat_natCast] at h3
  have hl : (b.drop o).length = b.length - o := List.length_drop
  refine ⟨n, k, ?_, by omega, h3.2.1, h3.1, h7⟩
  rw [h1]
  rfl
theorem dcd_at11 {a r : List UInt8} {n : Nat} (hn : n < 18446744073709551616) : dcd (a ++ (enc n ++ r)) (a.length : Int) = ((n : Int), ((a ++ enc n).length : Int), 0) := by
  have hd : dec 0 0 ((a ++ (enc n ++ r)).drop ((a.length : Int)).toNat) = (n, esz n, 0) := by
    rw [Int.toNat_natCast, List.drop_left]
    exact dec_enc hn r
  rw [dcd_ok (by simp; omega) hd, if_pos rfl, List.length_append, enc_length hn]
  simp
theorem rdF_e {b : List UInt8} {p : Int} {prev : Str} (h : (dcd b p).2.2 ≠ 0) : rdF b p prev = ([], 0, (dcd b p).2.2) := by unfold rdF; rw [if_pos h]
theorem rdF_p {b : List UInt8} {p : Int} {prev : Str} (h : (dcd b p).2.2 = 0) (h2 : (prev.length : Int) < (dcd b p).1) : rdF b p prev = ([], 0, 4) := by unfold rdF; rw [if_neg (by simpa using h), if_pos h2]
theorem rdF_g {b : List UInt8} {p q : Int} {prev : Str} {n : Nat} (h : dcd b p = ((n : Int), q, 0)) (h2 : n ≤ prev.length) : rdF b p prev = rdG b prev n q := by
  unfold rdF; rw [h, if_neg (by simp), if_neg (by simp; omega)]; simp
theorem rdG_e {b : List UInt8} {p : Int} {prev : Str} {n : Nat} (h : (dcd b p).2.2 ≠ 0) : rdG b prev n p = ([], 0, (dcd b p).2.2) := by unfold rdG; rw [if_pos h]
theorem rdG_s {b : List UInt8} {p : Int} {prev : Str} {n : Nat} (h : (dcd b p).2.2 = 0) (h2 : (b.length : Int) - (dcd b p).2.1 < (dcd b p).1) : rdG b prev n p = ([], 0, 2) := by unfold rdG; rw [if_neg (by simpa using h), if_pos h2]
theorem rdG_h {b : List UInt8} {p : Int} {prev : Str} {n m q : Nat} (h : dcd b p = ((m : Int), (q : Int), 0)) (h2 : q + m ≤ b.length) : rdG b prev n p = rdH b prev n m q := by
  unfold rdG; rw [h, if_neg (by simp), if_neg (by simp; omega)]; simp
theorem rdH_f {b : List UInt8} {prev : Str} {n m q : Nat} (h : n < cp prev (prev.take n ++ cutF b q m)) : rdH b prev n m q = ([], 0, 4) := by unfold rdH; rw [if_pos h]
theorem rdH_t {b : List UInt8} {prev : Str} {n m q : Nat} (h : ¬ n < cp prev (prev.take n ++ cutF b q m)) : rdH b prev n m q = (prev.take n ++ cutF b q m, ((q + m : Nat) : Int), 0) := by unfold rdH; rw [if_neg h]
theorem cp_glued {prev : Str} {n : Nat} (r : List UInt8) (h : n ≤ prev.length) : n ≤ cp prev (prev.take n ++ r) := by
  have hl : (prev.take n).length = n := by rw [List.length_take]; omega
  refine cp_ge n _ _ h (by rw [List.length_append]; omega) ?_
  rw [List.take_append_of_le_length (by omega), List.take_take, Nat.min_self]
theorem rdF_acc {b : List UInt8} {o : Nat} {prev : Str} (ho : o ≤ b.length) (h : (rdF b o prev).2.2 = 0) :
    ∃ (s : Str) (k : Nat), rdF b o prev = (s, ((o + k : Nat) : Int), 0) ∧ o + k ≤ b.length ∧ itm prev s = cutF b o k ∧ s.length ≤ prev.length + k := by
  by_cases h1 : (dcd b o).2.2 = 0
  · obtain ⟨n, k1, e1, hk1, hk11, he1, hn⟩ := dcd_acc11 ho h1
    by_cases h2 : n ≤ prev.length
    · rw [rdF_g e1 h2] at h ⊢
      by_cases h3 : (dcd b ((o + k1 : Nat) : Int)).2.2 = 0
      · obtain ⟨m, k2, e2, hk2, hk21, he2, hm⟩ := dcd_acc11 hk1 h3
        by_cases h4 : o + k1 + k2 + m ≤ b.length
        · rw [rdG_h e2 h4] at h ⊢
          by_cases h5 : n < cp prev (prev.take n ++ cutF b (o + k1 + k2) m)
          · rw [rdH_f h5] at h; cases h
          · rw [rdH_t h5]
            have h6 := cp_glued (cutF b (o + k1 + k2) m) h2
            have h7 : cp prev (prev.take n ++ cutF b (o + k1 + k2) m) = n := by omega
            have hl : (prev.take n).length = n := by rw [List.length_take]; omega
            have hc := cutF_length h4
            refine ⟨_, k1 + k2 + m, by rw [show o + k1 + k2 + m = o + (k1 + k2 + m) by omega], by omega, ?_, by rw [List.length_append, hl, hc]; omega⟩
            unfold itm
            rw [h7, List.length_append, hl, hc, Nat.add_sub_cancel_left, List.drop_append_of_le_length (by omega), List.drop_of_length_le (by omega), List.nil_append, he1, he2, cutF_glue, cutF_glue, Nat.add_assoc]
        · rw [rdG_s h3 (by rw [e2]; simp only []; omega)] at h; cases h
      · rw [rdG_e h3] at h; exact absurd h h3
    · rw [rdF_p h1 (by rw [e1]; simp only []; omega)] at h; cases h
  · rw [rdF_e h1] at h; exact absurd h h1
theorem rdFs_e {b : List UInt8} {n : Nat} {ws : List Str} {p : Int} (h : (rdF b p (prvL ws)).2.2 ≠ 0) : rdFs b (n + 1) ws p = ([], 0, (rdF b p (prvL ws)).2.2) := by rw [rdFs, if_pos h]
theorem rdFs_n {b : List UInt8} {n : Nat} {ws : List Str} {p q : Int} {s : Str} (h : rdF b p (prvL ws) = (s, q, 0)) : rdFs b (n + 1) ws p = rdFs b n (ws ++ [s]) q := by rw [rdFs, h, if_neg (by simp)]
theorem rdFs_err {b : List UInt8} : ∀ (n : Nat) (ws : List Str) (p : Int), (rdFs b n ws p).2.2 ≠ 0 → (rdFs b n ws p).1 = [] ∧ (rdFs b n ws p).2.1 = 0
  | 0, _, _, h => absurd rfl h
  | n + 1, ws, p, h => by
    by_cases h1 : (rdF b p (prvL ws)).2.2 = 0
    · rw [rdFs, if_neg (by simpa using h1)] at h ⊢
      exact rdFs_err n _ _ h
    · rw [rdFs_e h1]; exact ⟨rfl, rfl⟩
theorem prvL_len {ws : List Str} {M : Nat} (h : ∀ s ∈ ws, s.length ≤ M) : (prvL ws).length ≤ M := by
  unfold prvL prvAt
  split
  · simp
  · exact getD_len h _
theorem rdFs_acc {b : List UInt8} : ∀ (n : Nat) (ws : List Str) (o : Nat), o ≤ b.length → (∀ s ∈ ws, s.length ≤ o) → (rdFs b n ws o).2.2 = 0 →
    ∃ k : Nat, (rdFs b n ws o).2.1 = ((o + k : Nat) : Int) ∧ o + k ≤ b.length ∧ (rdFs b n ws o).1.length = ws.length + n ∧ (∀ s ∈ (rdFs b n ws o).1, s.length ≤ o + k) ∧ fcEnc (rdFs b n ws o).1 = fcEnc ws ++ cutF b o k
  | 0, ws, o, ho, hs, _ => ⟨0, rfl, by omega, rfl, hs, by simp [rdFs, cutF]⟩
  | n + 1, ws, o, ho, hs, h => by
    by_cases h1 : (rdF b o (prvL ws)).2.2 = 0
    · obtain ⟨s, k, e, hk, hi, hl⟩ := rdF_acc ho h1
      rw [rdFs_n e] at h ⊢
      have hp := prvL_len hs
      obtain ⟨k2, r1, r2, r3, r4, r5⟩ := rdFs_acc n (ws ++ [s]) (o + k) hk (fun x hx => by
        rcases List.mem_append.1 hx with h | h
        · have := hs x h; omega
        · rw [List.mem_singleton.1 h]; omega) h
      refine ⟨k + k2, by rw [r1, Nat.add_assoc], by omega, by rw [r3, List.length_append, List.length_singleton]; omega, fun x hx => by have := r4 x hx; omega, ?_⟩
      rw [r5, fcEnc_snoc, hi, List.append_assoc, cutF_glue]
    · rw [rdFs_e h1] at h; exact absurd h h1
theorem rdF_enc {p r : List UInt8} {prev s : Str} (hs : s.length < 18446744073709551616) : rdF (p ++ (itm prev s ++ r)) p.length prev = (s, (((p ++ itm prev s).length : Nat) : Int), 0) := by
  have hc := cp_le prev s
  have hct := cp_take prev s
  obtain ⟨n, hn⟩ : ∃ n, n = cp prev s := ⟨_, rfl⟩
  rw [← hn] at hc hct
  have e0 : p ++ (itm prev s ++ r) = p ++ (enc n ++ (enc (s.length - n) ++ (s.drop n ++ r))) := by unfold itm; rw [← hn]; simp
  have e1 := dcd_at11 (a := p) (r := enc (s.length - n) ++ (s.drop n ++ r)) (n := n) (by omega)
  have e2 := dcd_at11 (a := p ++ enc n) (r := s.drop n ++ r) (n := s.length - n) (by omega)
  rw [List.append_assoc p] at e2
  have hq : (p ++ enc n ++ enc (s.length - n)).length + (s.length - n) ≤ (p ++ (enc n ++ (enc (s.length - n) ++ (s.drop n ++ r)))).length := by
    simp only [List.length_append, List.length_drop]; omega
  have hcut : cutF (p ++ (enc n ++ (enc (s.length - n) ++ (s.drop n ++ r)))) (p ++ enc n ++ enc (s.length - n)).length (s.length - n) = s.drop n := by
    unfold cutF
    rw [show p ++ (enc n ++ (enc (s.length - n) ++ (s.drop n ++ r))) = (p ++ enc n ++ enc (s.length - n)) ++ (s.drop n ++ r) by simp, List.drop_left, List.take_append_of_le_length (by rw [List.length_drop]; omega), List.take_of_length_le (by rw [List.length_drop]; omega)]
  have hgl : prev.take n ++ s.drop n = s := by rw [hct, List.take_append_drop]
  rw [e0, rdF_g e1 hc.1, rdG_h e2 hq, rdH_t (by rw [hcut, hgl, ← hn]; omega), hcut, hgl]
  congr 3
  unfold itm
  rw [← hn]
  simp only [List.length_append, List.length_drop]
  omega
theorem rdFs_enc {p r : List UInt8} {l : List Str} (hs : ∀ s ∈ l, s.length < 18446744073709551616) : ∀ (j k : Nat), k + j ≤ l.length →
    rdFs (p ++ (fcEnc l ++ r)) j (l.take k) ((p ++ encK l k).length : Nat) = (l.take (k + j), (((p ++ encK l (k + j)).length : Nat) : Int), 0)
  | 0, k, _ => by rw [rdFs, Nat.add_zero]
  | j + 1, k, h => by
    have hk : k < l.length := by omega
    have hg : l.getD k [] = l[k] := by rw [List.getD_eq_getElem?_getD, List.getElem?_eq_getElem hk]; rfl
    obtain ⟨t, ht⟩ : ∃ t, fcEnc l = encK l (k + 1) ++ t := by
      suffices h : ∀ d m, m + d = l.length → ∃ t, fcEnc l = encK l m ++ t from h (l.length - (k + 1)) (k + 1) (by omega)
      intro d
      induction d with
      | zero => intro m hm; exact ⟨[], by rw [show m = l.length by omega]; simp [fcEnc]⟩
      | succ d ih =>
        intro m hm
        obtain ⟨t, ht⟩ := ih (m + 1) (by omega)
        exact ⟨itm (prvAt l m) (l.getD m []) ++ t, by rw [ht, encK_succ, List.append_assoc]⟩
    have e := rdF_enc (p := p ++ encK l k) (r := t ++ r) (prev := prvAt l k) (s := l[k]) (hs _ (List.getElem_mem hk))
    have e0 : p ++ encK l k ++ (itm (prvAt l k) l[k] ++ (t ++ r)) = p ++ (fcEnc l ++ r) := by rw [ht, encK_succ, hg]; simp
    have e1 : p ++ encK l k ++ itm (prvAt l k) l[k] = p ++ encK l (k + 1) := by rw [encK_succ, hg]; simp
    rw [e0, e1] at e
    rw [← prvL_take (by omega)] at e
    rw [rdFs_n e, ← List.take_succ_eq_append_getElem hk, rdFs_enc hs j (k + 1) (by omega), show k + 1 + j = k + (j + 1) by omega]
theorem fcDec_enc {p r : List UInt8} {l : List Str} (hs : ∀ s ∈ l, s.length < 18446744073709551616) (hl : l.length ≤ 65536) :
    fcDec (p ++ (fcEnc l ++ r)) p.length l.length = (l, (((p ++ fcEnc l).length : Nat) : Int), 0) := by
  have h := rdFs_enc (p := p) (r := r) hs l.length 0 (by omega)
  unfold fcDec
  rw [if_neg (by unfold badF; simp only [List.length_append]; omega), Int.toNat_natCast]
  have e : p ++ encK l 0 = p := by simp [encK]
  rw [e, List.take_zero, Nat.zero_add, List.take_length] at h
  exact h
end Go.Proofs.YthmipnokimlbdaaGreat
/-
  Shaken: what the claims of this seat need of this text. No condition.
-/
namespace Go.Proofs.YthmipnokimlbdaaGreat
set_option maxRecDepth 8000
open Go.RowKit
theorem info_u8 : (Tryz.prog.info? 5).map (fun i => (i.zero, i.size, i.bytes)) = some (some (.int .u8 0), 1, 1) := by kernel_rfl
def Made (l : List UInt8) (w : World) (e : Ending) (w' : World) : Prop :=
  ∃ v, e = .returned v ∧ w'.ownsRow w.heap.size 5 1 v l.length (bcells l) ∧ Below w.heap.size w w'
theorem validSize_t (n : Int) (w : World) (h0 : 1 ≤ n) (h1 : n ≤ 8) : Calls Tryz.prog 196 #[.int .i64 n] w fun e w' => e = .returned (.bool true) ∧ w = w' := by
  go_enter Tryz.func196, Tryz.ntmps196
  go_wp2
  go_ret
  exact ⟨rfl, rfl⟩
theorem validSize_f (n : Int) (w : World) (h : n < 1 ∨ 8 < n) : Calls Tryz.prog 196 #[.int .i64 n] w fun e w' => e = .returned (.bool false) ∧ w = w' := by
  by_cases h0 : n < 1
  · clear h
    go_enter Tryz.func196, Tryz.ntmps196
    go_wp2
    go_ret
    exact ⟨rfl, rfl⟩
  · have h1 : 8 < n := by omega
    have h2 : 1 ≤ n := by omega
    have hd : decide (n ≤ 8) = false := by simpa using h1
    clear h h0
    go_enter Tryz.func196, Tryz.ntmps196
    go_wp2
    go_ret
    exact ⟨rfl, rfl⟩
theorem Made.nil_ {w : World} : Made [] w (.returned (.slice none 0 0)) w := ⟨_, rfl, World.ownsRow_nil _ _ _ _, Below.refl _ _⟩
def FixRel (w : World) (n s : Nat) (i : Value) (wr : World) : Prop :=
  ∃ k : Nat, k ≤ s ∧ i = .int .i64 k ∧ Row wr w.heap.size 5 (fixRow n s k) ∧ Below w.heap.size w wr
set_option maxHeartbeats 400000 in
theorem fixed_any (x size : Int) (w : World) (h0 : 0 ≤ x) (h1 : x ≤ 18446744073709551615) :
    Calls Tryz.prog 141 #[.int .u64 x, .int .i64 size] w (Made (fixs x.toNat size) w) := by
  by_cases hs : size < 1 ∨ 8 < size
  · rw [fixs_bad hs]
    go_enter Tryz.func141, Tryz.ntmps141
    go_wp2_with ((go_at_call 196; refine (validSize_f _ _ hs).mono ?_; rintro e w' ⟨rfl, rfl⟩))
    go_ret
    exact Made.nil_
  · obtain ⟨n, rfl⟩ := Int.eq_ofNat_of_zero_le h0
    obtain ⟨s, rfl⟩ := Int.eq_ofNat_of_zero_le (show 0 ≤ size by omega)
    have hs1 : 1 ≤ s := by omega
    have hs8 : s ≤ 8 := by omega
    clear hs
    rw [fixs_ok hs1 hs8, Int.toNat_natCast]
    have hmk := run_make_bytes (P := Tryz.prog) 29 5 Tryz.underlying29 info_u8 s (by omega)
    have hz := hidden (fixRow_zero n s)
    go_enter Tryz.func141, Tryz.ntmps141
    go_wp2_with ((go_at_call 196; refine (validSize_t _ _ (by omega) (by omega)).mono ?_; rintro e w' ⟨rfl, rfl⟩))
    clear hmk
    go_loopw [13] (fun i wr => FixRel w n s i wr) (fun i _ => s - (intOf i).toNat)
    case atStart => exact ⟨0, by omega, rfl, Row.new _ _ _ _ hz.out, (Below.refl _ _).alloc (Nat.le_refl _) _⟩
    case round =>
      obtain ⟨k, hk, rfl, hrow, hnx⟩ := hrel
      by_cases hlt : k < s
      · have hcell := hrow.cell k
        rw [fixRow_get hlt, if_neg (by omega)] at hcell
        have hfr := hrow.frozen k
        have hor := hidden (fix_byte n k)
        go_wp2
        go_roundw
        case rel =>
          refine ⟨k + 1, by omega, by go_num, ?_, hnx.setCell (Nat.le_refl _) _⟩
          have h1 := hrow.set_ k (.int .u8 ((n / 256 ^ k % 256 : Nat) : Int))
          rw [fixRow_set hlt, ← hor.out] at h1
          exact h1
        case measure => simp [intOf]; omega
      · have hke : k = s := by omega
        have hrow' : Row wr w.heap.size 5 (bcells (fixb n s)) := by have h := hrow; rw [hke, fixRow_done] at h; exact h
        have h2 := hrow'.own (base := w.heap.size) (Nat.le_refl _) (by rw [bcells_length, fixb_length]; unfold maxLen; omega)
        have HO := hidden h2
        have HF := hidden (fixb_length n s)
        clear hke hrow h2 hrow'
        go_wp2
        go_ret
        have h3 := HO.out
        rw [bcells_length] at h3
        refine ⟨_, ?_, h3, hnx⟩
        rw [HF.out]; rfl
end Go.Proofs.YthmipnokimlbdaaGreat
/-
  Shaken: what the claims of this seat need of this text. No condition.
-/
namespace Go.Proofs.YthmipnokimlbdaaGreat
open Go.RowKit
theorem validOffset_t (A : Option Addr) (n c : Nat) (off : Int) (w : World) (_hn : n ≤ maxLen) (h0 : 0 ≤ off) (h1 : off ≤ n) :
    Calls Tryz.prog 197 #[.slice A n c, .int .i64 off] w fun e w' => e = .returned (.bool true) ∧ w = w' := by
  go_enter Tryz.func197, Tryz.ntmps197
  go_wp2
  go_ret
  exact ⟨rfl, rfl⟩
theorem validOffset_f (A : Option Addr) (n c : Nat) (off : Int) (w : World) (_hn : n ≤ maxLen) (h : off < 0 ∨ (n : Int) < off) :
    Calls Tryz.prog 197 #[.slice A n c, .int .i64 off] w fun e w' => e = .returned (.bool false) ∧ w = w' := by
  by_cases h0 : off < 0
  · clear h
    go_enter Tryz.func197, Tryz.ntmps197
    go_wp2
    go_ret
    exact ⟨rfl, rfl⟩
  · have h1 : (n : Int) < off := by omega
    have h2 : 0 ≤ off := by omega
    have hd : decide (off ≤ (n : Int)) = false := by simpa using h1
    clear h h0
    go_enter Tryz.func197, Tryz.ntmps197
    go_wp2
    go_ret
    exact ⟨rfl, rfl⟩
theorem ret2_eq {k1 k2 : IntKind} {a b a' b' : Int} (h1 : a = a') (h2 : b = b') :
    Ending.returned (.tuple #[.int k1 a, .int k2 b]) = .returned (.tuple #[.int k1 a', .int k2 b']) := by rw [h1, h2]
def ReadRel (l : List UInt8) (o s : Nat) (n i : Value) : Prop :=
  ∃ k x : Nat, k ≤ s ∧ i = .int .i64 k ∧ n = .int .u64 x ∧ x = le ((l.drop o).take k)
set_option maxHeartbeats 400000 in
set_option maxRecDepth 100000 in
theorem readFixed_any (v : Value) (l : List UInt8) (off size : Int) (w : World) (hv : IsBytes w v l) (hl : l.length ≤ maxLen) (h63 : -9223372036854775808 ≤ off) (h64 : off ≤ 9223372036854775807) :
    Calls Tryz.prog 142 #[v, .int .i64 off, .int .i64 size] w fun e w' => e = .returned (.tuple #[.int .u64 (rdf l off size).1, .int .i64 (rdf l off size).2]) ∧ w = w' := by
  obtain ⟨A, c, rfl, hc⟩ := hv
  by_cases hs : size < 1 ∨ 8 < size
  · have HD := hidden (rdf_arg (l := l) (off := off) (.inl hs))
    go_enter Tryz.func142, Tryz.ntmps142
    go_wp2_with ((go_at_call 196; refine (validSize_f _ _ hs).mono ?_; rintro e w' ⟨rfl, rfl⟩))
    go_ret2
    rw [HD.out]
    exact ⟨rfl, rfl⟩
  · by_cases ho : off < 0 ∨ (l.length : Int) < off
    · have HD := hidden (rdf_arg (l := l) (off := off) (size := size) (.inr ho))
      go_enter Tryz.func142, Tryz.ntmps142
      go_wp2_with (first | (go_at_call 196; refine (validSize_t _ _ (by omega) (by omega)).mono ?_; rintro e w' ⟨rfl, rfl⟩) | (go_at_call 197; refine (validOffset_f A l.length c off _ hl ho).mono ?_; rintro e w' ⟨rfl, rfl⟩))
      go_ret2
      rw [HD.out]
      exact ⟨rfl, rfl⟩
    · have h0 : 0 ≤ off := by omega
      have h1 : off ≤ (l.length : Int) := by omega
      have hs1 : 1 ≤ size := by omega
      have hs8 : size ≤ 8 := by omega
      have hl' := hl
      unfold maxLen at hl'
      by_cases hsh : (l.length : Int) - off < size
      · have HD := hidden (rdf_short (l := l) (off := off) (size := size) (by omega) hsh)
        clear hs ho
        go_enter Tryz.func142, Tryz.ntmps142
        go_wp2_with (first | (go_at_call 196; refine (validSize_t _ _ (by omega) (by omega)).mono ?_; rintro e w' ⟨rfl, rfl⟩) | (go_at_call 197; refine (validOffset_t A l.length c off _ (by unfold maxLen; omega) h0 h1).mono ?_; rintro e w' ⟨rfl, rfl⟩))
        go_ret2
        rw [HD.out]
        exact ⟨rfl, rfl⟩
      · obtain ⟨o, rfl⟩ := Int.eq_ofNat_of_zero_le h0
        obtain ⟨s, rfl⟩ := Int.eq_ofNat_of_zero_le (show 0 ≤ size by omega)
        have HD := hidden (rdf_ok (l := l) (o := o) (s := s) (by omega) (by omega) (by omega))
        have hos : o + s ≤ l.length := by omega
        obtain ⟨b, f, rfl, hcell⟩ := hc (by omega)
        have HC := hidden hcell
        have hnsh : decide ((l.length : Int) - (o : Int) < (s : Int)) = false := by simpa using hsh
        clear hs ho hc hcell
        go_enter Tryz.func142, Tryz.ntmps142
        go_wp2_with (first | (go_at_call 196; refine (validSize_t _ _ (by omega) (by omega)).mono ?_; rintro e w' ⟨rfl, rfl⟩) | (go_at_call 197; refine (validOffset_t _ l.length c o _ (by unfold maxLen; omega) (by omega) (by omega)).mono ?_; rintro e w' ⟨rfl, rfl⟩))
        go_loop [8, 26] (ReadRel l o s) (fun _ i => s - (intOf i).toNat)
        case atStart => exact ⟨0, 0, by omega, rfl, rfl, by simp [le]⟩
        case round =>
          obtain ⟨k, x, hk, rfl, rfl, hx⟩ := hrel
          have HX := hidden hx
          clear hx
          by_cases hlt : k < s
          · have hcl := HC.out (o + k) (by omega)
            have hts := take_snoc' (l := l) (o := o) (k := k) (by omega)
            have hlen : ((l.drop o).take k).length = k := by rw [List.length_take, List.length_drop]; omega
            have hxl : Hid (x < 256 ^ k) := by
              show x < 256 ^ k
              have := le_lt ((l.drop o).take k)
              rw [hlen] at this
              rw [HX.out]; exact this
            generalize hcc : l[o + k] = cc at hcl hts
            have HN : Hid (x + cc.toNat * 256 ^ k = le ((l.drop o).take (k + 1))) := by
              show x + cc.toNat * 256 ^ k = _
              rw [hts, le_snoc, hlen, ← HX.out]
            have HO := hidden (read_or (c := cc) (show k < 8 by omega) hxl.out)
            have hcb : cc.toNat < 256 := cc.toNat_lt
            clear hcc hts hlen HX
            go_wp2
            go_round
            case rel => exact ⟨k + 1, x + cc.toNat * 256 ^ k, by omega, by go_num, by rw [HO.out], HN.out⟩
            case measure => simp [intOf]; omega
          · have hke : k = s := by omega
            subst hke
            go_wp2
            go_ret2
            rw [HD.out]
            exact ⟨ret2_eq (by rw [HX.out]) rfl, rfl⟩
end Go.Proofs.YthmipnokimlbdaaGreat
/-
  Shaken: what the claims of this seat need of this text. No condition.
-/
namespace Go.Proofs.YthmipnokimlbdaaGreat
open Go.RowKit
theorem ret3_eq {k1 k2 k3 : IntKind} {a b c a' b' c' : Int} (h1 : a = a') (h2 : b = b') (h3 : c = c') :
    Ending.returned (.tuple #[.int k1 a, .int k2 b, .int k3 c]) = .returned (.tuple #[.int k1 a', .int k2 b', .int k3 c']) := by rw [h1, h2, h3]
def grpOk (i : Nat) (c : UInt8) : Bool := !((decide (i = 9) && decide (1 < c.toNat)) || (decide (0 < i) && decide (c.toNat = 0)))
theorem grpOk_t {i : Nat} {c : UInt8} (h : grpOk i c = true) : ¬ ((i = 9 ∧ 1 < c.toNat) ∨ (0 < i ∧ c.toNat = 0)) := by
  simp only [grpOk, Bool.not_eq_true', Bool.or_eq_false_iff, Bool.and_eq_false_iff, decide_eq_false_iff_not] at h
  omega
theorem grpOk_f {i : Nat} {c : UInt8} (h : grpOk i c = false) : (i = 9 ∧ 1 < c.toNat) ∨ (0 < i ∧ c.toNat = 0) := by
  simp only [grpOk, Bool.not_eq_false', Bool.or_eq_true, Bool.and_eq_true, decide_eq_true_eq] at h
  exact h
theorem validGroup_any (i : Nat) (c : UInt8) (w : World) (hi : i ≤ 1000) :
    Calls Tryz.prog 208 #[.int .i64 (i : Int), .int .u8 (c.toNat : Int)] w fun e w' => e = .returned (.bool (grpOk i c)) ∧ w = w' := by
  have hcl : c.toNat < 256 := c.toNat_lt
  generalize hg : grpOk i c = g
  have HG := hidden hg
  clear hg
  by_cases h9 : i = 9
  · subst h9
    by_cases hc : 1 < c.toNat
    · go_enter Tryz.func208, Tryz.ntmps208
      go_wp2
      go_ret
      refine ⟨?_, rfl⟩
      rw [← HG.out]
      simp [grpOk, hc]
    · by_cases hz : c.toNat = 0
      · have ht : ((c.toNat : Int) != 0) = false := by simpa using hz
        have hf : ((c.toNat : Int) == 0) = true := by simpa using hz
        have HZ := hidden hz
        clear hz
        go_enter Tryz.func208, Tryz.ntmps208
        go_wp2
        go_ret
        refine ⟨?_, rfl⟩
        rw [← HG.out]
        simp [grpOk, HZ.out]
      · have ht : ((c.toNat : Int) != 0) = true := by simpa using hz
        go_enter Tryz.func208, Tryz.ntmps208
        go_wp2
        go_ret
        refine ⟨?_, rfl⟩
        rw [← HG.out]
        simp [grpOk, hz]
        omega
  · have h9' : ((i : Int) == 9) = false := by simp; omega
    by_cases h0 : i = 0
    · subst h0
      go_enter Tryz.func208, Tryz.ntmps208
      go_wp2
      go_ret
      refine ⟨?_, rfl⟩
      rw [← HG.out]
      simp [grpOk]
    · have h0' : ((i : Int) == 0) = false := by simp; omega
      by_cases hz : c.toNat = 0
      · have ht : ((c.toNat : Int) != 0) = false := by simpa using hz
        have HZ := hidden hz
        clear hz
        go_enter Tryz.func208, Tryz.ntmps208
        go_wp2
        go_ret
        refine ⟨?_, rfl⟩
        rw [← HG.out]
        simp [grpOk, HZ.out]
        omega
      · have ht : ((c.toNat : Int) != 0) = true := by simpa using hz
        go_enter Tryz.func208, Tryz.ntmps208
        go_wp2
        go_ret
        refine ⟨?_, rfl⟩
        rw [← HG.out]
        simp [grpOk, hz, h9]
set_option maxHeartbeats 400000 in
set_option maxRecDepth 100000 in
theorem decode_any (v : Value) (l : List UInt8) (off : Int) (w : World) (hv : IsBytes w v l) (hl : l.length ≤ maxLen) (h63 : -9223372036854775808 ≤ off) (h64 : off ≤ 9223372036854775807) :
    Calls Tryz.prog 165 #[v, .int .i64 off] w fun e w' => e = .returned (.tuple #[.int .u64 (dcd l off).1, .int .i64 (dcd l off).2.1, .int .i64 (dcd l off).2.2]) ∧ w = w' := by
  obtain ⟨A, c, rfl, hc⟩ := hv
  by_cases hbad : off < 0 ∨ (l.length : Int) < off
  · have HD := hidden (dcd_bad hbad)
    go_enter Tryz.func165, Tryz.ntmps165
    go_wp2_with ((go_at_call 197; refine (validOffset_f A l.length c off _ hl hbad).mono ?_; rintro e w' ⟨rfl, rfl⟩))
    go_ret3
    rw [HD.out]
    exact ⟨rfl, rfl⟩
  · have h0 : 0 ≤ off := by omega
    have h1 : off ≤ (l.length : Int) := by omega
    obtain ⟨o, rfl⟩ := Int.eq_ofNat_of_zero_le h0
    have HB := hidden hbad
    clear hbad
    unfold maxLen at hl
    have hcell : ∀ j, (h : j < l.length) → ∃ b f, A = some ⟨b, f, none⟩ ∧ w.cell? ⟨b, f + j, none⟩ = some (.int .u8 (l[j].toNat : Int)) := fun j hj => by
      obtain ⟨b, f, e, h⟩ := hc (by omega)
      exact ⟨b, f, e, h j hj⟩
    clear hc
    have HC := hidden hcell
    clear hcell
    go_enter Tryz.func165, Tryz.ntmps165
    go_wp2_with ((go_at_call 197; refine (validOffset_t A l.length c o _ (by unfold maxLen; omega) (by omega) (by omega)).mono ?_; rintro e w' ⟨rfl, rfl⟩))
    go_loop [7, 18] (fun n i => ∃ k x : Nat, o + k ≤ l.length ∧ k ≤ 9 ∧ x < 128 ^ k ∧ i = .int .i64 k ∧ n = .int .u64 x ∧ dec 0 0 (l.drop o) = dec k x (l.drop (o + k))) (fun _ i => l.length - (intOf i).toNat)
    case atStart => exact ⟨0, 0, by omega, by omega, by decide, rfl, rfl, rfl⟩
    case round =>
      obtain ⟨k, x, hk, hk9, hx, rfl, rfl, hdec⟩ := hrel
      have HX := hidden hdec
      clear hdec
      have HL := hidden hx
      clear hx
      by_cases hlt : o + k < l.length
      · obtain ⟨b, f, rfl, hcl⟩ := HC.out (o + k) hlt
        generalize hcc : l[o + k] = cc at hcl
        have hdrop : Hid (l.drop (o + k) = cc :: l.drop (o + (k + 1))) := by
          show l.drop (o + k) = cc :: l.drop (o + (k + 1))
          rw [← hcc, List.drop_eq_getElem_cons hlt]; rfl
        clear hcc
        have hcb : cc.toNat < 256 := cc.toNat_lt
        cases hg : grpOk k cc with
        | false =>
          have HG := hidden (dec_bad (i := k) (n := x) (r := l.drop (o + (k + 1))) (grpOk_f hg))
          have HR : Hid (dcd l (o : Int) = (0, 0, 4)) := by
            show dcd l (o : Int) = (0, 0, 4)
            rw [dcd_ok HB.out (n := 0) (k := 0) (e := 4) (by rw [Int.toNat_natCast, HX.out, hdrop.out, HG.out])]; rfl
          clear HX HG hdrop HB
          have Hg := hidden hg
          clear hg
          go_wp2_with ((go_at_call 208; refine (validGroup_any k cc _ (by omega)).mono ?_; rw [Hg.out]; rintro e w' ⟨rfl, rfl⟩))
          go_ret3
          rw [HR.out]
          exact ⟨rfl, rfl⟩
        | true =>
          have hng := grpOk_t hg
          have hc9 : k = 9 → cc.toNat ≤ 1 := by omega
          have HO := hidden (round_or hk9 HL.out hc9)
          have Hg := hidden hg
          clear hg
          by_cases hend : cc.toNat < 128
          · have HR : Hid (dcd l (o : Int) = (((x + cc.toNat % 128 * 128 ^ k : Nat) : Int), (o : Int) + k + 1, 0)) := by
              show dcd l (o : Int) = _
              rw [dcd_ok HB.out (n := x + cc.toNat % 128 * 128 ^ k) (k := k + 1) (e := 0) (by rw [Int.toNat_natCast, HX.out, hdrop.out, dec_last hng hend])]
              simp; omega
            clear HX hdrop HB hng hc9
            go_wp2_with ((go_at_call 208; refine (validGroup_any k cc _ (by omega)).mono ?_; rw [Hg.out]; rintro e w' ⟨rfl, rfl⟩))
            go_ret3
            rw [HR.out]
            refine ⟨ret3_eq ?_ rfl rfl, rfl⟩
            exact HO.out
          · have hk8 : k ≤ 8 := by omega
            have HD : Hid (dec 0 0 (l.drop o) = dec (k + 1) (x + cc.toNat % 128 * 128 ^ k) (l.drop (o + (k + 1)))) := by
              show dec 0 0 (l.drop o) = _
              rw [HX.out, hdrop.out, dec_more hng hend]
            have HS := hidden (sum_lt (c := cc.toNat) HL.out)
            clear HX hdrop HB hng hc9
            go_wp2_with ((go_at_call 208; refine (validGroup_any k cc _ (by omega)).mono ?_; rw [Hg.out]; rintro e w' ⟨rfl, rfl⟩))
            go_round
            case rel =>
              refine ⟨k + 1, x + cc.toNat % 128 * 128 ^ k, by omega, by omega, HS.out, by go_num, ?_, HD.out⟩
              rw [HO.out]
            case measure => simp [intOf]; omega
      · have hke : o + k = l.length := by omega
        have HR : Hid (dcd l (o : Int) = (0, 0, 2)) := by
          show dcd l (o : Int) = _
          rw [dcd_ok HB.out (n := 0) (k := 0) (e := 2) (by rw [Int.toNat_natCast, HX.out, hke, List.drop_length, dec_end])]; rfl
        clear HX HB hke
        go_wp2
        go_ret3
        rw [HR.out]
        exact ⟨rfl, rfl⟩
end Go.Proofs.YthmipnokimlbdaaGreat
/-
  Shaken: what the claims of this seat need of this text. No condition.
-/
namespace Go.Proofs.YthmipnokimlbdaaGreat
set_option maxRecDepth 8000
open Go.RowKit
set_option linter.unusedVariables false
set_option linter.unusedSimpArgs false
def baseV : List Int → Int
  | [] => 0
  | x :: r => r.foldl min x
theorem baseV_snoc {l : List Int} (x : Int) (h : l ≠ []) : baseV (l ++ [x]) = min (baseV l) x := by
  cases l with
  | nil => exact absurd rfl h
  | cons y r => simp [baseV]
theorem baseV_take {l : List Int} {k : Nat} (h : k < l.length) (h0 : 0 < k) : baseV (l.take (k + 1)) = min (baseV (l.take k)) l[k] := by
  rw [List.take_succ_eq_append_getElem h]
  refine baseV_snoc _ fun h1 => ?_
  have := congrArg List.length h1
  rw [List.length_take, List.length_nil] at this
  omega
theorem baseV_first {l : List Int} (h : 0 < l.length) : baseV (l.take 1) = l[0] := by
  rw [List.take_succ_eq_append_getElem h]
  rfl
theorem fold_min : ∀ (r : List Int) (x : Int), (r.foldl min x = x ∨ r.foldl min x ∈ r) ∧ r.foldl min x ≤ x ∧ ∀ y ∈ r, r.foldl min x ≤ y
  | [], x => by simp
  | y :: r, x => by
    obtain ⟨h1, h2, h3⟩ := fold_min r (min x y)
    rw [List.foldl_cons]
    refine ⟨?_, by omega, ?_⟩
    · rcases h1 with h1 | h1
      · rw [h1]
        rcases Int.le_total x y with h | h
        · left; omega
        · right; rw [show min x y = y by omega]; simp
      · right; exact List.mem_cons_of_mem _ h1
    · intro z hz
      rcases List.mem_cons.1 hz with rfl | hz
      · omega
      · exact h3 z hz
theorem baseV_mem {l : List Int} (h : l ≠ []) : baseV l ∈ l := by
  cases l with
  | nil => exact absurd rfl h
  | cons y r =>
    show r.foldl min y ∈ y :: r
    rcases (fold_min r y).1 with h1 | h1
    · rw [h1]; simp
    · exact List.mem_cons_of_mem _ h1
def frIn (x : Int) : Prop := -9223372036854775808 ≤ x ∧ x ≤ 9223372036854775807
theorem baseV_in {l : List Int} (h : ∀ x ∈ l, frIn x) : frIn (baseV l) := by
  by_cases h0 : l = []
  · subst h0; unfold frIn; exact ⟨by decide, by decide⟩
  · exact h _ (baseV_mem h0)
def difN (b v : Int) : Nat := ((v - b) % 18446744073709551616).toNat
theorem difN_lt (b v : Int) : difN b v < 18446744073709551616 := by unfold difN; omega
def difL (l : List Int) : List Nat := l.map (difN (baseV l))
theorem difL_length (l : List Int) : (difL l).length = l.length := by simp [difL]
theorem difL_U64 (l : List Int) : U64 (difL l) := by
  intro x hx
  unfold difL at hx
  rw [List.mem_map] at hx
  obtain ⟨v, _, rfl⟩ := hx
  exact difN_lt _ _
def exc (w : Nat) : Nat → List Nat → List UInt8
  | _, [] => []
  | i, d :: r => (if d / 2 ^ w = 0 then [] else enc i ++ enc (d / 2 ^ w)) ++ exc w (i + 1) r
def many (w : Nat) : List Nat → Nat
  | [] => 0
  | d :: r => (if d / 2 ^ w = 0 then 0 else 1) + many w r
theorem exc_snoc (w d : Nat) : ∀ (l : List Nat) (i : Nat), exc w i (l ++ [d]) = exc w i l ++ (if d / 2 ^ w = 0 then [] else enc (i + l.length) ++ enc (d / 2 ^ w))
  | [], i => by simp [exc]
  | x :: l, i => by
    rw [List.cons_append, exc, exc, exc_snoc w d l (i + 1), List.length_cons, show i + 1 + l.length = i + (l.length + 1) by omega]
    simp
theorem many_snoc (w d : Nat) : ∀ (l : List Nat), many w (l ++ [d]) = many w l + (if d / 2 ^ w = 0 then 0 else 1)
  | [] => by simp [many]
  | x :: l => by
    rw [List.cons_append, many, many, many_snoc w d l]
    omega
theorem many_le (w : Nat) : ∀ (l : List Nat), many w l ≤ l.length
  | [] => by simp [many]
  | x :: l => by
    have := many_le w l
    rw [many, List.length_cons]
    split <;> omega
theorem enc_le10 (n : Nat) : (enc n).length ≤ 10 := by
  have h : ∀ f n, (encF f n).length ≤ f := by
    intro f
    induction f with
    | zero => intro n; simp [encF]
    | succ f ih =>
      intro n
      by_cases hn : n < 128
      · rw [encF_last hn]; simp
      · rw [encF_more hn, List.length_cons]; have := ih (n / 128); omega
  exact h 10 n
theorem exc_len (w : Nat) : ∀ (l : List Nat) (i : Nat), (exc w i l).length ≤ 20 * l.length
  | [], _ => by simp [exc]
  | d :: l, i => by
    have := exc_len w l (i + 1)
    have h1 := enc_le10 i
    have h2 := enc_le10 (d / 2 ^ w)
    rw [exc, List.length_append, List.length_cons]
    split
    · rw [List.length_nil]; omega
    · rw [List.length_append]; omega
def encD (b : Int) (ds : List Nat) (w : Nat) : List UInt8 := enc (zz b).toNat ++ (enc w ++ (enc (many w ds) ++ (packL ds w ++ exc w 0 ds)))
def encW (l : List Int) (w : Nat) : List UInt8 := encD (baseV l) (difL l) w
def sizeW (l : List Int) (w : Nat) : Nat := (encW l w).length
def bestTo (f : Nat → Nat) : Nat → Nat
  | 0 => 0
  | k + 1 => if f (k + 1) < f (bestTo f k) then k + 1 else bestTo f k
def bestW (l : List Int) : Nat := bestTo (sizeW l) 64
def encV (l : List Int) : List UInt8 := encW l (bestW l)
def sizeV (l : List Int) : Nat := sizeW l (bestW l)
theorem bestTo_le (f : Nat → Nat) : ∀ k, bestTo f k ≤ k
  | 0 => Nat.le_refl _
  | k + 1 => by
    have := bestTo_le f k
    rw [bestTo]
    split <;> omega
theorem bestW_le (l : List Int) : bestW l ≤ 64 := bestTo_le _ _
def cntW : List Nat → Nat → Nat
  | [], _ => 0
  | d :: r, b => (if Lib.bitLen d = b then 1 else 0) + cntW r b
def idxW : Nat → List Nat → Nat → Nat
  | _, [], _ => 0
  | i, d :: r, b => (if Lib.bitLen d = b then esz i else 0) + idxW (i + 1) r b
theorem cntW_snoc (d b : Nat) : ∀ l, cntW (l ++ [d]) b = cntW l b + (if Lib.bitLen d = b then 1 else 0)
  | [] => by simp [cntW]
  | x :: l => by rw [List.cons_append, cntW, cntW, cntW_snoc d b l]; omega
theorem idxW_snoc (d b : Nat) : ∀ l i, idxW i (l ++ [d]) b = idxW i l b + (if Lib.bitLen d = b then esz (i + l.length) else 0)
  | [], i => by simp [idxW]
  | x :: l, i => by
    rw [List.cons_append, idxW, idxW, idxW_snoc d b l (i + 1), List.length_cons, show i + 1 + l.length = i + (l.length + 1) by omega]
    omega
def vsw (k : Nat) : Nat := max 1 ((k + 6) / 7)
theorem esz_vsw (n : Nat) : esz n = vsw (Lib.bitLen n) := rfl
def sumF (f : Nat → Nat) : Nat → Nat
  | 0 => 0
  | n + 1 => sumF f n + f n
theorem sumF_add (f g : Nat → Nat) : ∀ n, sumF (fun j => f j + g j) n = sumF f n + sumF g n
  | 0 => rfl
  | n + 1 => by rw [sumF, sumF, sumF, sumF_add f g n]; omega
theorem sumF_congr {f g : Nat → Nat} : ∀ n, (∀ j, j < n → f j = g j) → sumF f n = sumF g n
  | 0, _ => rfl
  | n + 1, h => by rw [sumF, sumF, sumF_congr n (fun j hj => h j (by omega)), h n (by omega)]
theorem sumF_at (g : Nat → Nat) (B c : Nat) : ∀ n, sumF (fun j => if B = c + j then g j else 0) n = if c ≤ B ∧ B < c + n then g (B - c) else 0
  | 0 => by rw [sumF, if_neg (by omega)]
  | n + 1 => by
    rw [sumF, sumF_at g B c n]
    by_cases h : B = c + n
    · rw [if_pos h, if_neg (by omega), if_pos (by omega), show B - c = n by omega, Nat.zero_add]
    · rw [if_neg h, Nat.add_zero]
      by_cases h2 : c ≤ B ∧ B < c + n
      · rw [if_pos h2, if_pos (by omega)]
      · rw [if_neg h2, if_neg (by omega)]
def excSz (C X : Nat → Nat) (n : Nat) : Nat := esz (sumF C n) + sumF (fun j => X j + C j * vsw (j + 1)) n
theorem bitLen_div {d w : Nat} (hd : d < 18446744073709551616) (hw : w ≤ Lib.bitLen d) : Lib.bitLen (d / 2 ^ w) = Lib.bitLen d - w := by
  have hd' : d < 2 ^ 64 := hd
  have h64 := bitLen_bd hd
  have hq : d / 2 ^ w < 2 ^ 64 := Nat.lt_of_le_of_lt (Nat.div_le_self _ _) hd'
  have hq64 : Lib.bitLen (d / 2 ^ w) ≤ 64 := bitLen_bd hq
  have key : ∀ k, w + k ≤ 64 → (Lib.bitLen (d / 2 ^ w) ≤ k ↔ Lib.bitLen d ≤ w + k) := by
    intro k hk
    rw [bitLen_iff hq (by omega), bitLen_iff hd' hk, Nat.div_lt_iff_lt_mul (Nat.two_pow_pos w), Nat.pow_add, Nat.mul_comm]
  have h1 := (key (Lib.bitLen d - w) (by omega)).2 (by omega)
  by_cases h0 : Lib.bitLen d = w
  · omega
  · have h2 : ¬ Lib.bitLen (d / 2 ^ w) ≤ Lib.bitLen d - w - 1 := fun h => by
      have := (key (Lib.bitLen d - w - 1) (by omega)).1 h
      omega
    omega
theorem div_zero_iff {d w : Nat} (hd : d < 18446744073709551616) (hw : w ≤ 64) : d / 2 ^ w = 0 ↔ Lib.bitLen d ≤ w := by
  have hd' : d < 2 ^ 64 := hd
  rw [bitLen_iff hd' hw, Nat.div_eq_zero_iff]
  have := Nat.two_pow_pos w
  omega
theorem many_sum {w : Nat} (hw : w ≤ 64) : ∀ (ds : List Nat), U64 ds → sumF (fun j => cntW ds (w + 1 + j)) (64 - w) = many w ds
  | [], _ => by
    rw [many, ← show sumF (fun _ => 0) (64 - w) = 0 from by
      generalize 64 - w = n
      induction n with
      | zero => rfl
      | succ n ih => rw [sumF, ih]]
    rfl
  | d :: r, h => by
    have hd : d < 18446744073709551616 := h d (by simp)
    have h64 := bitLen_bd hd
    have ih := many_sum hw r (fun x hx => h x (List.mem_cons_of_mem _ hx))
    show sumF (fun j => (if Lib.bitLen d = w + 1 + j then 1 else 0) + cntW r (w + 1 + j)) (64 - w) = _
    rw [sumF_add, ih, sumF_at (fun _ => 1), many]
    congr 1
    by_cases h0 : d / 2 ^ w = 0
    · have := (div_zero_iff hd hw).1 h0
      rw [if_pos h0, if_neg (by omega)]
    · have : ¬ Lib.bitLen d ≤ w := fun h => h0 ((div_zero_iff hd hw).2 h)
      rw [if_neg h0, if_pos (by omega)]
theorem exc_sum {w : Nat} (hw : w ≤ 64) : ∀ (ds : List Nat) (i : Nat), U64 ds → i + ds.length ≤ 9223372036854775808 → sumF (fun j => idxW i ds (w + 1 + j) + cntW ds (w + 1 + j) * vsw (j + 1)) (64 - w) = (exc w i ds).length
  | [], i, _, _ => by
    have h0 : ∀ n, sumF (fun j => idxW i [] (w + 1 + j) + cntW [] (w + 1 + j) * vsw (j + 1)) n = 0 := by
      intro n
      induction n with
      | zero => rfl
      | succ n ih => rw [sumF, ih]; simp [idxW, cntW]
    rw [h0, exc, List.length_nil]
  | d :: r, i, h, hi => by
    have hd : d < 18446744073709551616 := h d (by simp)
    have h64 := bitLen_bd hd
    rw [List.length_cons] at hi
    have ih := exc_sum hw r (i + 1) (fun x hx => h x (List.mem_cons_of_mem _ hx)) (by omega)
    have e : sumF (fun j => idxW i (d :: r) (w + 1 + j) + cntW (d :: r) (w + 1 + j) * vsw (j + 1)) (64 - w)
        = sumF (fun j => (if Lib.bitLen d = w + 1 + j then esz i + vsw (j + 1) else 0) + (idxW (i + 1) r (w + 1 + j) + cntW r (w + 1 + j) * vsw (j + 1))) (64 - w) := by
      refine sumF_congr _ fun j _ => ?_
      show (if Lib.bitLen d = w + 1 + j then esz i else 0) + idxW (i + 1) r (w + 1 + j) + ((if Lib.bitLen d = w + 1 + j then 1 else 0) + cntW r (w + 1 + j)) * vsw (j + 1) = _
      rw [Nat.add_mul]
      by_cases hb : Lib.bitLen d = w + 1 + j
      · rw [if_pos hb, if_pos hb, if_pos hb, Nat.one_mul]; omega
      · rw [if_neg hb, if_neg hb, if_neg hb, Nat.zero_mul]; omega
    rw [e, sumF_add, ih, sumF_at (fun j => esz i + vsw (j + 1)), exc, List.length_append]
    congr 1
    by_cases h0 : d / 2 ^ w = 0
    · have := (div_zero_iff hd hw).1 h0
      rw [if_pos h0, if_neg (by omega), List.length_nil]
    · have hn : ¬ Lib.bitLen d ≤ w := fun h => h0 ((div_zero_iff hd hw).2 h)
      rw [if_neg h0, if_pos (by omega), List.length_append, enc_length (n := i) (by omega), enc_length (n := d / 2 ^ w) (Nat.lt_of_le_of_lt (Nat.div_le_self _ _) hd), esz_vsw (d / 2 ^ w), bitLen_div hd (by omega),
        show Lib.bitLen d - (w + 1) + 1 = Lib.bitLen d - w by omega]
theorem encD_length {b : Int} (hb : frIn b) {ds : List Nat} (h : U64 ds) (hl : ds.length ≤ 9223372036854775808) {w : Nat} (hw : w ≤ 64) :
    (encD b ds w).length = esz (zz b).toNat + esz w + excSz (fun j => cntW ds (w + 1 + j)) (fun j => idxW 0 ds (w + 1 + j)) (64 - w) + szB ds.length w := by
  have hz := zz_bd b hb.1 (by have := hb.2; omega)
  have hm := many_le w ds
  unfold encD excSz
  rw [many_sum hw ds h, exc_sum hw ds 0 h (by omega), List.length_append, List.length_append, List.length_append, List.length_append, enc_length (n := (zz b).toNat) (by omega), enc_length (n := w) (by omega), enc_length (n := many w ds) (by omega), packL_length]
  omega
theorem encD_len (b : Int) (ds : List Nat) {w : Nat} (hw : w ≤ 64) : (encD b ds w).length ≤ 30 + 8 * ds.length + 1 + 20 * ds.length := by
  have h1 := enc_le10 (zz b).toNat
  have h2 := enc_le10 w
  have h3 := enc_le10 (many w ds)
  have h4 := exc_len w ds 0
  have h5 : ds.length * w ≤ ds.length * 64 := Nat.mul_le_mul_left _ hw
  unfold encD
  rw [List.length_append, List.length_append, List.length_append, List.length_append, packL_length]
  unfold szB
  omega
theorem encV_len (l : List Int) : (encV l).length ≤ 31 + 28 * l.length := by
  have h := encD_len (baseV l) (difL l) (bestW_le l)
  rw [difL_length] at h
  unfold encV encW
  omega
theorem sizeV_len (l : List Int) : sizeV l = (encV l).length := rfl
end Go.Proofs.YthmipnokimlbdaaGreat
/-
  Shaken: what the claims of this seat need of this text. No condition.
-/
namespace Go.Proofs.YthmipnokimlbdaaGreat
set_option maxRecDepth 8000
open Go.RowKit
set_option linter.unusedVariables false
set_option linter.unusedSimpArgs false
def in64 (x : Int) : Prop := -9223372036854775808 ≤ x ∧ x ≤ 9223372036854775807
def difR (x last : Int) : Int := wrap64 (x - last)
theorem difR_in (x last : Int) : in64 (difR x last) := by unfold difR in64 wrap64; omega
theorem dif_add {x last : Int} (hx : in64 x) (hl : in64 last) : wrap64 (last + difR x last) = x := by unfold difR in64 wrap64 at *; omega
theorem dif_zero {x last : Int} (hx : in64 x) (hl : in64 last) : difR x last = 0 ↔ x = last := by unfold difR in64 wrap64 at *; omega
theorem add_dif {d last : Int} (hd : in64 d) (hl : in64 last) : difR (wrap64 (last + d)) last = d := by unfold difR in64 wrap64 at *; omega
theorem wrap_in (x : Int) : in64 (wrap64 x) := by unfold in64 wrap64; omega
theorem zz_zero {n : Int} : zz n = 0 ↔ n = 0 := by unfold zz; split <;> omega
def zd (x last : Int) : Nat := (zz (difR x last)).toNat
theorem zd_bd (x last : Int) : zz (difR x last) = (zd x last : Int) ∧ zd x last < 18446744073709551616 := by
  have h1 := difR_in x last
  have h2 := zz_bd (difR x last) h1.1 (by have := h1.2; omega)
  unfold zd
  omega
def encRs : Int → List Rn → List UInt8
  | _, [] => []
  | last, x :: l => enc (zd x.1 last) ++ (enc x.2.toNat ++ encRs x.1 l)
def encR (l : List Rn) : List UInt8 := enc l.length ++ encRs 0 l
def finR (out : List Rn) (r : List Rn × Int × Int) : List Rn × Int × Int := if r.2.2 = 0 then (out ++ r.1, r.2.1, 0) else ([], 0, r.2.2)
def decRs (b : List UInt8) : Nat → Bool → Int → Int → Int → List Rn × Int × Int
  | 0, _, _, _, p => ([], p, 0)
  | n + 1, first, last, left, p =>
    if (dcd b p).2.2 ≠ 0 then ([], 0, (dcd b p).2.2)
    else if (dcd b p).1 = 0 ∧ first = false then ([], 0, 4)
    else if (dcd b (dcd b p).2.1).2.2 ≠ 0 then ([], 0, (dcd b (dcd b p).2.1).2.2)
    else if (dcd b (dcd b p).2.1).1 = 0 ∨ left < (dcd b (dcd b p).2.1).1 then ([], 0, 6)
    else finR [(wrap64 (last + uz (dcd b p).1), (dcd b (dcd b p).2.1).1)] (decRs b n false (wrap64 (last + uz (dcd b p).1)) (left - (dcd b (dcd b p).2.1).1) (dcd b (dcd b p).2.1).2.1)
def dcR (b : List UInt8) (off : Int) : List Rn × Int × Int :=
  if (dcd b off).2.2 ≠ 0 then ([], 0, (dcd b off).2.2) else if 65536 < (dcd b off).1 then ([], 0, 6) else decRs b (dcd b off).1.toNat true 0 65536 (dcd b off).2.1
theorem finR_nil (r : List Rn × Int × Int) (h : r.2.2 ≠ 0 → r.1 = [] ∧ r.2.1 = 0) : finR [] r = r := by
  unfold finR
  split
  · rename_i h0
    obtain ⟨a, b, c⟩ := r
    simp only at h0
    subst h0
    rfl
  · rename_i h0
    obtain ⟨h1, h2⟩ := h h0
    obtain ⟨a, b, c⟩ := r
    simp only at h1 h2
    subst h1 h2
    rfl
theorem finR_cons (out : List Rn) (x : Rn) (r : List Rn × Int × Int) : finR out (finR [x] r) = finR (out ++ [x]) r := by
  by_cases h : r.2.2 = 0
  · have e : finR [x] r = ([x] ++ r.1, r.2.1, 0) := by unfold finR; rw [if_pos h]
    rw [e]
    unfold finR
    rw [if_pos rfl, if_pos h, List.append_assoc]
  · have e : finR [x] r = ([], 0, r.2.2) := by unfold finR; rw [if_neg h]
    rw [e]
    unfold finR
    rw [if_neg h, if_neg h]
theorem finR_err (out : List Rn) (e : Int) (h : e ≠ 0) : finR out ([], 0, e) = ([], 0, e) := by unfold finR; rw [if_neg h]
theorem decRs_err (b : List UInt8) : ∀ (n : Nat) (first : Bool) (last left p : Int), (decRs b n first last left p).2.2 ≠ 0 → (decRs b n first last left p).1 = [] ∧ (decRs b n first last left p).2.1 = 0
  | 0, _, _, _, _, h => absurd rfl h
  | n + 1, first, last, left, p, h => by
    rw [decRs] at h ⊢
    split
    · exact ⟨rfl, rfl⟩
    · split
      · exact ⟨rfl, rfl⟩
      · split
        · exact ⟨rfl, rfl⟩
        · split
          · exact ⟨rfl, rfl⟩
          · rename_i h1 h2 h3 h4
            rw [if_neg h1, if_neg h2, if_neg h3, if_neg h4] at h
            unfold finR at h ⊢
            split
            · rename_i h5
              rw [if_pos h5] at h
              exact absurd rfl h
            · exact ⟨rfl, rfl⟩
def okFrom : Bool → Int → Int → List Rn → Prop
  | _, _, _, [] => True
  | first, last, left, x :: l => (1 ≤ x.2 ∧ x.2 ≤ left) ∧ (first = false → x.1 ≠ last) ∧ okFrom false x.1 (left - x.2) l
theorem okFrom_iff : ∀ (l : List Rn) (first : Bool) (last left : Int), okFrom first last left l ↔ ∀ j, (hj : j < l.length) → (1 ≤ l[j].2 ∧ l[j].2 ≤ left - sumC (l.take j)) ∧ (0 < j → ∀ h2 : j - 1 < l.length, l[j - 1].1 ≠ l[j].1) ∧ (j = 0 → first = false → l[j].1 ≠ last)
  | [], _, _, _ => ⟨fun _ j hj => absurd hj (by simp), fun _ => trivial⟩
  | x :: l, first, last, left => by
    rw [okFrom, okFrom_iff l false x.1 (left - x.2)]
    constructor
    · rintro ⟨h1, h2, h3⟩ j hj
      cases j with
      | zero => exact ⟨by simpa [sumC_nil] using h1, fun h => absurd h (by omega), fun _ hf => h2 hf⟩
      | succ j =>
        have hj' : j < l.length := by simpa using hj
        obtain ⟨h4, h5, h6⟩ := h3 j hj'
        simp only [List.getElem_cons_succ, List.take_succ_cons, sumC_cons]
        refine ⟨by omega, fun _ h7 => ?_, fun h => absurd h (by omega)⟩
        cases j with
        | zero => exact fun e => h6 rfl rfl e.symm
        | succ j =>
          have h8 := h5 (by omega) (by omega)
          simpa using h8
    · intro h
      have h0 := h 0 (by simp)
      refine ⟨by simpa [sumC_nil] using h0.1, fun hf => h0.2.2 rfl hf, fun j hj => ?_⟩
      have h1 := h (j + 1) (by simpa using hj)
      simp only [List.getElem_cons_succ, List.take_succ_cons, sumC_cons] at h1
      refine ⟨by omega, fun h0 h2 => ?_, fun h0 _ => ?_⟩
      · have h3 := h1.2.1 (by omega) (by simp; omega)
        cases j with
        | zero => omega
        | succ j => simpa using h3
      · subst h0
        have h3 : x.1 ≠ l[0].1 := h1.2.1 (by omega) (by simp)
        exact fun e => h3 e.symm
theorem validR_from {l : List Rn} : validR l = true ↔ okFrom true 0 65536 l := by
  rw [okFrom_iff, validR_iff]
  constructor
  · intro h j hj
    have h1 := (okRun_iff hj).1 (h j hj)
    exact ⟨⟨h1.1, h1.2.1⟩, h1.2.2, fun _ hf => by cases hf⟩
  · intro h j hj
    obtain ⟨⟨h1, h2⟩, h3, _⟩ := h j hj
    exact (okRun_iff hj).2 ⟨h1, h2, h3⟩
theorem dcdR_at {b pre post : List UInt8} {n : Nat} (hb : b = pre ++ (enc n ++ post)) (hn : n < 18446744073709551616) : dcd b (pre.length : Int) = ((n : Int), ((pre.length + (enc n).length : Nat) : Int), 0) := by
  have h := dcd_ok (l := b) (off := (pre.length : Int)) (by rw [hb]; simp; omega) (n := n) (k := esz n) (e := 0) (by
    rw [hb, Int.toNat_natCast, List.drop_left]
    exact dec_enc hn post)
  rw [h, enc_length hn]
  simp
theorem decRs_enc {b : List UInt8} : ∀ (l : List Rn) (first : Bool) (last left : Int) (pre post : List UInt8), b = pre ++ (encRs last l ++ post) → in64 last → (∀ x ∈ l, in64 x.1) → left ≤ 65536 → okFrom first last left l →
    decRs b l.length first last left (pre.length : Int) = (l, ((pre.length + (encRs last l).length : Nat) : Int), 0)
  | [], _, _, _, _, _, _, _, _, _, _ => rfl
  | x :: l, first, last, left, pre, post, hb, hl, hin, hleft, hok => by
    obtain ⟨⟨h1, h2⟩, h3, h4⟩ := hok
    have hx := hin x (List.mem_cons_self ..)
    obtain ⟨hz1, hz2⟩ := zd_bd x.1 last
    have hc : x.2.toNat < 18446744073709551616 := by omega
    rw [encRs] at hb
    have d1 := dcdR_at (b := b) (pre := pre) (post := enc x.2.toNat ++ encRs x.1 l ++ post) (n := zd x.1 last) (by rw [hb]; simp) hz2
    have d2 := dcdR_at (b := b) (pre := pre ++ enc (zd x.1 last)) (post := encRs x.1 l ++ post) (n := x.2.toNat) (by rw [hb]; simp) hc
    rw [List.length_append] at d2
    have ih := decRs_enc (b := b) l false x.1 (left - x.2) (pre ++ enc (zd x.1 last) ++ enc x.2.toNat) post (by rw [hb]; simp) hx (fun y hy => hin y (List.mem_cons_of_mem _ hy)) (by omega) h4
    have e2 : ((x.2.toNat : Nat) : Int) = x.2 := by omega
    have ev : wrap64 (last + uz ((zd x.1 last : Nat) : Int)) = x.1 := by rw [← hz1, uz_zz]; exact dif_add hx hl
    have ez : ¬ (((zd x.1 last : Nat) : Int) = 0 ∧ first = false) := by
      rintro ⟨h5, h6⟩
      rw [← hz1] at h5
      exact h3 h6 ((dif_zero hx hl).1 (zz_zero.1 h5))
    rw [List.length_cons, decRs, d1]
    simp only
    rw [if_neg (by simp), if_neg ez, d2]
    simp only
    rw [if_neg (by simp), if_neg (by omega), ev, e2]
    rw [List.length_append, List.length_append] at ih
    rw [ih, encRs]
    unfold finR
    rw [if_pos rfl]
    simp only [List.singleton_append, List.length_append]
    congr 2
    omega
theorem dcd_acc {b : List UInt8} {o : Nat} (ho : o ≤ b.length) (he : (dcd b (o : Int)).2.2 = 0) :
    ∃ n k : Nat, dcd b (o : Int) = ((n : Int), ((o + k : Nat) : Int), 0) ∧ o + k ≤ b.length ∧ 1 ≤ k ∧ enc n = (b.drop o).take k := by
  obtain ⟨n, k, e, h⟩ : ∃ n k e, dec 0 0 (b.drop (o : Int).toNat) = (n, k, e) := ⟨_, _, _, rfl⟩
  have h1 := dcd_ok (l := b) (off := (o : Int)) (by omega) h
  rw [h1] at he
  have he0 : e = 0 := by have : (e : Int) = 0 := he; omega
  subst he0
  have h3 := enc_dec h
  rw [Int.toNat_natCast] at h3
  have hl : (b.drop o).length = b.length - o := List.length_drop
  refine ⟨n, k, ?_, by omega, h3.2.1, h3.1⟩
  rw [h1]
  rfl
theorem take_glue {b : List UInt8} {o k m : Nat} : (b.drop o).take k ++ (b.drop (o + k)).take m = (b.drop o).take (k + m) := by
  rw [List.take_add, List.drop_drop]
theorem uz_in {n : Nat} (h : n < 18446744073709551616) : in64 (uz (n : Int)) := by
  have := uz_bd (n : Int) (by omega) (by omega)
  unfold in64
  omega
theorem dcd_num {b : List UInt8} {o : Nat} (ho : o ≤ b.length) (he : (dcd b (o : Int)).2.2 = 0) :
    ∃ n k : Nat, dcd b (o : Int) = ((n : Int), ((o + k : Nat) : Int), 0) ∧ o + k ≤ b.length ∧ 1 ≤ k ∧ enc n = (b.drop o).take k ∧ n < 18446744073709551616 := by
  obtain ⟨n, k, h1, h2, h3, h4⟩ := dcd_acc ho he
  refine ⟨n, k, h1, h2, h3, h4, ?_⟩
  obtain ⟨n', k', e', h⟩ : ∃ n k e, dec 0 0 (b.drop (o : Int).toNat) = (n, k, e) := ⟨_, _, _, rfl⟩
  have h5 := dcd_ok (l := b) (off := (o : Int)) (by omega) h
  rw [h5] at h1
  have h6 : ((n' : Nat) : Int) = (n : Int) := congrArg Prod.fst h1
  have h7 := dec_lt _ 0 0 n' k' e' (by omega) (by decide) h
  omega
theorem decRs_acc {b : List UInt8} : ∀ (n : Nat) (first : Bool) (last left : Int) (o : Nat), o ≤ b.length → in64 last → left ≤ 65536 → (decRs b n first last left (o : Int)).2.2 = 0 →
    ∃ k : Nat, (decRs b n first last left (o : Int)).2.1 = ((o + k : Nat) : Int) ∧ o + k ≤ b.length ∧ (decRs b n first last left (o : Int)).1.length = n ∧ okFrom first last left (decRs b n first last left (o : Int)).1 ∧ (∀ x ∈ (decRs b n first last left (o : Int)).1, in64 x.1) ∧ encRs last (decRs b n first last left (o : Int)).1 = (b.drop o).take k
  | 0, _, _, _, o, ho, _, _, _ => ⟨0, rfl, ho, rfl, trivial, (fun x hx => nomatch hx), by simp [encRs, decRs]⟩
  | n + 1, first, last, left, o, ho, hl, hleft, he => by
    rw [decRs] at he ⊢
    by_cases e1 : (dcd b (o : Int)).2.2 = 0
    · obtain ⟨d, k, hd, hk, hk1, henc, hd64⟩ := dcd_num ho e1
      rw [hd] at he ⊢
      simp only at he ⊢
      rw [if_neg (by simp)] at he ⊢
      by_cases e2 : ((d : Nat) : Int) = 0 ∧ first = false
      · rw [if_pos e2] at he; cases he
      · rw [if_neg e2] at he ⊢
        by_cases e3 : (dcd b ((o + k : Nat) : Int)).2.2 = 0
        · obtain ⟨c, m, hc, hm, hm1, henc2, hc64⟩ := dcd_num hk e3
          rw [hc] at he ⊢
          simp only at he ⊢
          rw [if_neg (by simp)] at he ⊢
          by_cases e4 : ((c : Nat) : Int) = 0 ∨ left < ((c : Nat) : Int)
          · rw [if_pos e4] at he; cases he
          · rw [if_neg e4] at he ⊢
            have hv := wrap_in (last + uz (d : Int))
            have ih := decRs_acc (b := b) n false (wrap64 (last + uz (d : Int))) (left - (c : Int)) (o + k + m) hm hv (by omega)
            generalize hR : decRs b n false (wrap64 (last + uz (d : Int))) (left - (c : Int)) ((o + k + m : Nat) : Int) = R at *
            have eR : R.2.2 = 0 := by
              unfold finR at he
              split at he
              · assumption
              · rename_i h5; exact absurd he h5
            obtain ⟨k', h1, h2, h3, h4, h5, h6⟩ := ih eR
            have hf : finR [(wrap64 (last + uz (d : Int)), (c : Int))] R = ((wrap64 (last + uz (d : Int)), (c : Int)) :: R.1, R.2.1, 0) := by unfold finR; rw [if_pos eR]; rfl
            have hdif : difR (wrap64 (last + uz (d : Int))) last = uz (d : Int) := add_dif (uz_in hd64) hl
            have hzd : zd (wrap64 (last + uz (d : Int))) last = d := by unfold zd; rw [hdif, zz_uz _ (by omega)]; rfl
            rw [hf]
            refine ⟨k + (m + k'), by rw [h1]; congr 1; omega, by omega, by simp [h3], ⟨⟨by omega, by omega⟩, fun hff e => ?_, h4⟩, ?_, ?_⟩
            · apply e2
              refine ⟨?_, hff⟩
              have h7 := (dif_zero hv hl).2 e
              rw [hdif] at h7
              have h8 := zz_uz (d : Int) (by omega)
              rw [h7] at h8
              rw [← h8]
              rfl
            · intro x hx
              rcases List.mem_cons.1 hx with rfl | hx
              · exact hv
              · exact h5 x hx
            · simp only [encRs]
              rw [hzd, h6, Int.toNat_natCast, henc, henc2, Nat.add_assoc o k m, ← Nat.add_assoc o k m, take_glue, take_glue]
        · rw [if_pos e3] at he; exact absurd he e3
    · rw [if_pos e1] at he; exact absurd he e1
theorem dcR_enc {l : List Rn} (hv : validR l = true) (hin : ∀ x ∈ l, in64 x.1) (pre post : List UInt8) :
    dcR (pre ++ (encR l ++ post)) (pre.length : Int) = (l, ((pre.length + (encR l).length : Nat) : Int), 0) := by
  have hlen := valid_length hv
  have h1 := dcdR_at (b := pre ++ (encR l ++ post)) (pre := pre) (post := encRs 0 l ++ post) (n := l.length) (by unfold encR; simp) (by omega)
  have h2 := decRs_enc (b := pre ++ (encR l ++ post)) l true 0 65536 (pre ++ enc l.length) post (by unfold encR; simp) (by unfold in64; omega) hin (Int.le_refl _) (validR_from.1 hv)
  rw [List.length_append] at h2
  unfold dcR
  rw [h1]
  simp only
  rw [if_neg (by simp), if_neg (by omega), Int.toNat_natCast, h2]
  unfold encR
  rw [List.length_append]
  congr 2
  omega
theorem dcR_acc {b : List UInt8} {off : Int} (h : (dcR b off).2.2 = 0) :
    ∃ o k : Nat, off = (o : Int) ∧ (dcR b off).2.1 = ((o + k : Nat) : Int) ∧ o + k ≤ b.length ∧ validR (dcR b off).1 = true ∧ (∀ x ∈ (dcR b off).1, in64 x.1) ∧ encR (dcR b off).1 = (b.drop o).take k := by
  unfold dcR at h ⊢
  by_cases e1 : (dcd b off).2.2 = 0
  · rw [if_neg (by simpa using e1)] at h ⊢
    by_cases hoff : off < 0 ∨ (b.length : Int) < off
    · rw [dcd_bad hoff] at e1; cases e1
    · obtain ⟨o, rfl⟩ := Int.eq_ofNat_of_zero_le (show 0 ≤ off by omega)
      obtain ⟨n, k, hd, hk, hk1, henc, hn⟩ := dcd_num (show o ≤ b.length by omega) e1
      rw [hd] at h ⊢
      simp only at h ⊢
      by_cases e2 : 65536 < ((n : Nat) : Int)
      · rw [if_pos e2] at h; cases h
      · rw [if_neg e2] at h ⊢
        rw [Int.toNat_natCast] at h ⊢
        obtain ⟨k', h1, h2, h3, h4, h5, h6⟩ := decRs_acc n true 0 65536 (o + k) hk (by unfold in64; omega) (Int.le_refl _) h
        refine ⟨o, k + k', rfl, by rw [h1]; congr 1; omega, by omega, validR_from.2 h4, h5, ?_⟩
        unfold encR
        rw [h3, henc, h6, take_glue]
  · rw [if_pos e1] at h; exact absurd h e1
theorem encR_len_le (l : List Rn) : (encR l).length ≤ 10 + 20 * l.length := by
  have e10 : ∀ n, (enc n).length ≤ 10 := fun n => by
    have h : ∀ f n, (encF f n).length ≤ f := by
      intro f
      induction f with
      | zero => intro n; simp [encF]
      | succ f ih =>
        intro n
        by_cases hn : n < 128
        · rw [encF_last hn]; simp
        · rw [encF_more hn, List.length_cons]; have := ih (n / 128); omega
    exact h 10 n
  have hs : ∀ (l : List Rn) (last : Int), (encRs last l).length ≤ 20 * l.length := by
    intro l
    induction l with
    | nil => intro last; simp [encRs]
    | cons x l ih =>
      intro last
      rw [encRs, List.length_append, List.length_append, List.length_cons]
      have h1 := e10 (zd x.1 last)
      have h2 := e10 x.2.toNat
      have h3 := ih x.1
      omega
  unfold encR
  rw [List.length_append]
  have h1 := e10 l.length
  have h2 := hs l 0
  omega
end Go.Proofs.YthmipnokimlbdaaGreat
/-
  Shaken: what the claims of this seat need of this text. No condition.
-/
namespace Go.Proofs.YthmipnokimlbdaaGreat
set_option maxRecDepth 8000
open Go.RowKit
set_option linter.unusedVariables false
set_option linter.unusedSimpArgs false
def numD (b : List UInt8) (o lim : Int) : Int × Int × Int :=
  if (dcd b o).2.2 ≠ 0 then (0, 0, (dcd b o).2.2) else if lim < (dcd b o).1 then (0, 0, 4) else ((dcd b o).1, (dcd b o).2.1, 0)
def frD (b : List UInt8) (o n : Int) : Int × Int × Int × Int × Int :=
  if n < 0 ∨ 65536 < n then (0, 0, 0, 0, 1) else
  if (dcd b o).2.2 ≠ 0 then (0, 0, 0, 0, (dcd b o).2.2) else
  if (numD b (dcd b o).2.1 64).2.2 ≠ 0 then (0, 0, 0, 0, (numD b (dcd b o).2.1 64).2.2) else
  if (numD b (numD b (dcd b o).2.1 64).2.1 n).2.2 ≠ 0 then (0, 0, 0, 0, (numD b (numD b (dcd b o).2.1 64).2.1 n).2.2) else
  if (b.length : Int) - (numD b (numD b (dcd b o).2.1 64).2.1 n).2.1 < szB n.toNat (numD b (dcd b o).2.1 64).1.toNat then (0, 0, 0, 0, 2) else
  ((dcd b o).1, (numD b (dcd b o).2.1 64).1, (numD b (numD b (dcd b o).2.1 64).2.1 n).1, (numD b (numD b (dcd b o).2.1 64).2.1 n).2.1, 0)
def putD (d : List Nat) (i h : Int) (w : Nat) : List Nat := if i < (d.length : Int) then d.set i.toNat (d.getD i.toNat 0 ||| h.toNat * 2 ^ w % 18446744073709551616) else d
theorem putD_length (d : List Nat) (i h : Int) (w : Nat) : (putD d i h w).length = d.length := by unfold putD; split <;> simp
def excD (b : List UInt8) (w : Nat) : Nat → Int → List Nat → List Nat × Int × Int
  | 0, p, d => (d, p, 0)
  | k + 1, p, d =>
    if (dcd b p).2.2 ≠ 0 then ([], 0, (dcd b p).2.2) else
    if (dcd b (dcd b p).2.1).2.2 ≠ 0 then ([], 0, (dcd b (dcd b p).2.1).2.2) else
    excD b w k (dcd b (dcd b p).2.1).2.1 (putD d (dcd b p).1 (dcd b (dcd b p).2.1).1 w)
theorem excD_e1 {b : List UInt8} {w k : Nat} {p : Int} {d : List Nat} (h : (dcd b p).2.2 ≠ 0) : excD b w (k + 1) p d = ([], 0, (dcd b p).2.2) := by rw [excD, if_pos h]
theorem excD_e2 {b : List UInt8} {w k : Nat} {p : Int} {d : List Nat} (h : (dcd b p).2.2 = 0) (h2 : (dcd b (dcd b p).2.1).2.2 ≠ 0) : excD b w (k + 1) p d = ([], 0, (dcd b (dcd b p).2.1).2.2) := by
  rw [excD, if_neg (by simpa using h), if_pos h2]
theorem excD_ok {b : List UInt8} {w k : Nat} {p : Int} {d : List Nat} (h : (dcd b p).2.2 = 0) (h2 : (dcd b (dcd b p).2.1).2.2 = 0) :
    excD b w (k + 1) p d = excD b w k (dcd b (dcd b p).2.1).2.1 (putD d (dcd b p).1 (dcd b (dcd b p).2.1).1 w) := by
  rw [excD, if_neg (by simpa using h), if_neg (by simpa using h2)]
def valV (z : Int) (d : Nat) : Int := IntKind.i64.wrap (uz z + (d : Int))
theorem valV_in (z : Int) (d : Nat) : frIn (valV z d) := by unfold valV frIn; rw [IntKind.wrap_i64]; omega
def packedD (b : List UInt8) (p : Int) (n w : Nat) : List UInt8 := (b.drop p.toNat).take (szB n w)
def lowD (b : List UInt8) (p : Int) (n w : Nat) : List Nat := (List.range n).map fun (i : Nat) => atB (packedD b p n w) (i : Int) (w : Int)
theorem lowD_length (b : List UInt8) (p : Int) (n w : Nat) : (lowD b p n w).length = n := by simp [lowD]
def decV (b : List UInt8) (o n : Int) : List Int × Int × Int :=
  match frD b o n with
  | (z, w, m, p, e) =>
    if e ≠ 0 then ([], 0, e) else
    match excD b w.toNat m.toNat (p + (szB n.toNat w.toNat : Nat)) (lowD b p n.toNat w.toNat) with
    | (d, q, f) =>
      if f ≠ 0 then ([], 0, f) else
      if encV (d.map (valV z)) = (b.drop o.toNat).take (q - o).toNat then (d.map (valV z), q, 0) else ([], 0, 4)
theorem decV_e1 {b : List UInt8} {o n z w m p e : Int} (h : frD b o n = (z, w, m, p, e)) (he : e ≠ 0) : decV b o n = ([], 0, e) := by unfold decV; rw [h]; simp only []; rw [if_pos he]
theorem decV_e2 {b : List UInt8} {o n z w m p q f : Int} {d : List Nat} (h : frD b o n = (z, w, m, p, 0)) (h2 : excD b w.toNat m.toNat (p + (szB n.toNat w.toNat : Nat)) (lowD b p n.toNat w.toNat) = (d, q, f)) (hf : f ≠ 0) : decV b o n = ([], 0, f) := by
  unfold decV; rw [h]; simp only []; rw [if_neg (by decide), h2]; simp only []; rw [if_pos hf]
theorem decV_e3 {b : List UInt8} {o n z w m p q : Int} {d : List Nat} (h : frD b o n = (z, w, m, p, 0)) (h2 : excD b w.toNat m.toNat (p + (szB n.toNat w.toNat : Nat)) (lowD b p n.toNat w.toNat) = (d, q, 0)) (hf : encV (d.map (valV z)) ≠ (b.drop o.toNat).take (q - o).toNat) : decV b o n = ([], 0, 4) := by
  unfold decV; rw [h]; simp only []; rw [if_neg (by decide), h2]; simp only []; rw [if_neg (by decide), if_neg hf]
theorem decV_ok {b : List UInt8} {o n z w m p q : Int} {d : List Nat} (h : frD b o n = (z, w, m, p, 0)) (h2 : excD b w.toNat m.toNat (p + (szB n.toNat w.toNat : Nat)) (lowD b p n.toNat w.toNat) = (d, q, 0)) (hf : encV (d.map (valV z)) = (b.drop o.toNat).take (q - o).toNat) : decV b o n = (d.map (valV z), q, 0) := by
  unfold decV; rw [h]; simp only []; rw [if_neg (by decide), h2]; simp only []; rw [if_neg (by decide), if_pos hf]
theorem dcd_enc {p q : List UInt8} {x : Nat} (hx : x < 18446744073709551616) : dcd (p ++ (enc x ++ q)) (p.length : Int) = ((x : Int), (((p ++ enc x).length : Nat) : Int), 0) := by
  have h := dec_enc hx q
  rw [dcd_ok (by rw [List.length_append]; omega) (n := x) (k := esz x) (e := 0) (by rw [Int.toNat_natCast, List.drop_left]; exact h), if_pos rfl, List.length_append, enc_length hx]
  rfl
theorem low_or {d w : Nat} (hd : d < 18446744073709551616) : d % 2 ^ w ||| d / 2 ^ w * 2 ^ w % 18446744073709551616 = d := by
  have h1 : d / 2 ^ w * 2 ^ w ≤ d := Nat.div_mul_le_self d (2 ^ w)
  rw [Nat.mod_eq_of_lt (a := d / 2 ^ w * 2 ^ w) (by omega), Nat.or_comm, Nat.mul_comm, ← Nat.two_pow_add_eq_or_of_lt (Nat.mod_lt _ (Nat.two_pow_pos w)), Nat.div_add_mod]
theorem excD_exc {w : Nat} (hw : w ≤ 64) : ∀ (r pre : List Nat) (P Q : List UInt8), U64 r → pre.length + r.length ≤ 9223372036854775807 →
    excD (P ++ (exc w pre.length r ++ Q)) w (many w r) (P.length : Int) (pre ++ r.map (fun d => d % 2 ^ w)) = (pre ++ r, ((P ++ exc w pre.length r).length : Int), 0)
  | [], pre, P, Q, _, _ => by simp [exc, many, excD]
  | d :: r, pre, P, Q, hU, hl => by
    have hd : d < 18446744073709551616 := hU d (by simp)
    have hU' : U64 r := fun x hx => hU x (List.mem_cons_of_mem _ hx)
    rw [List.length_cons] at hl
    have ih := fun P' => excD_exc hw r (pre ++ [d]) P' Q hU' (by rw [List.length_append, List.length_singleton]; omega)
    rw [List.length_append, List.length_singleton] at ih
    by_cases h0 : d / 2 ^ w = 0
    · have hlow : d % 2 ^ w = d := Nat.mod_eq_of_lt ((Nat.div_eq_zero_iff.1 h0).resolve_left (by have := Nat.two_pow_pos w; omega))
      rw [exc, many, if_pos h0, if_pos h0, List.nil_append, Nat.zero_add, List.map_cons, hlow]
      have h := ih P
      rw [List.append_assoc, List.append_assoc] at h
      exact h
    · rw [exc, many, if_neg h0, if_neg h0, List.map_cons, Nat.add_comm 1]
      have hh : d / 2 ^ w < 18446744073709551616 := Nat.lt_of_le_of_lt (Nat.div_le_self _ _) hd
      have e1 : P ++ ((enc pre.length ++ enc (d / 2 ^ w) ++ exc w (pre.length + 1) r) ++ Q) = P ++ (enc pre.length ++ (enc (d / 2 ^ w) ++ (exc w (pre.length + 1) r ++ Q))) := by simp
      have d1 := dcd_enc (p := P) (q := enc (d / 2 ^ w) ++ (exc w (pre.length + 1) r ++ Q)) (x := pre.length) (by omega)
      have d2 := dcd_enc (p := P ++ enc pre.length) (q := exc w (pre.length + 1) r ++ Q) hh
      rw [List.append_assoc P] at d2
      rw [e1, excD_ok (by rw [d1]) (by rw [d1, d2]), d1, d2]
      have h := ih (P ++ enc pre.length ++ enc (d / 2 ^ w))
      have hp : putD (pre ++ d % 2 ^ w :: r.map (fun d => d % 2 ^ w)) (pre.length : Int) ((d / 2 ^ w : Nat) : Int) w = pre ++ d :: r.map (fun d => d % 2 ^ w) := by
        unfold putD
        rw [if_pos (by rw [List.length_append, List.length_cons]; omega), Int.toNat_natCast, Int.toNat_natCast, List.getD_eq_getElem?_getD, List.getElem?_append_right (Nat.le_refl _), Nat.sub_self, List.getElem?_cons_zero, Option.getD_some, low_or hd]
        simp
      simp only []
      rw [hp]
      rw [show P ++ enc pre.length ++ enc (d / 2 ^ w) ++ (exc w (pre.length + 1) r ++ Q) = P ++ (enc pre.length ++ (enc (d / 2 ^ w) ++ (exc w (pre.length + 1) r ++ Q))) by simp,
        show pre ++ [d] ++ r.map (fun d => d % 2 ^ w) = pre ++ d :: r.map (fun d => d % 2 ^ w) by simp, show P ++ enc pre.length ++ enc (d / 2 ^ w) = P ++ enc pre.length ++ enc (d / 2 ^ w) from rfl] at h
      rw [h]
      simp
theorem frD_enc {P Q : List UInt8} {b : Int} (hb : frIn b) {ds : List Nat} (hl : ds.length ≤ 65536) {w : Nat} (hw : w ≤ 64) :
    frD (P ++ (encD b ds w ++ Q)) (P.length : Int) (ds.length : Int) = (zz b, (w : Int), (many w ds : Int), ((P ++ enc (zz b).toNat ++ enc w ++ enc (many w ds)).length : Int), 0) := by
  have hz := zz_bd b hb.1 (by have := hb.2; omega)
  have hm := many_le w ds
  have e1 : P ++ (encD b ds w ++ Q) = P ++ (enc (zz b).toNat ++ (enc w ++ (enc (many w ds) ++ (packL ds w ++ (exc w 0 ds ++ Q))))) := by unfold encD; simp
  have d1 := dcd_enc (p := P) (q := enc w ++ (enc (many w ds) ++ (packL ds w ++ (exc w 0 ds ++ Q)))) (x := (zz b).toNat) (by omega)
  have d2 := dcd_enc (p := P ++ enc (zz b).toNat) (q := enc (many w ds) ++ (packL ds w ++ (exc w 0 ds ++ Q))) (x := w) (by omega)
  have d3 := dcd_enc (p := P ++ enc (zz b).toNat ++ enc w) (q := packL ds w ++ (exc w 0 ds ++ Q)) (x := many w ds) (by omega)
  rw [List.append_assoc P] at d2
  rw [show P ++ enc (zz b).toNat ++ enc w ++ (enc (many w ds) ++ (packL ds w ++ (exc w 0 ds ++ Q))) = P ++ (enc (zz b).toNat ++ (enc w ++ (enc (many w ds) ++ (packL ds w ++ (exc w 0 ds ++ Q))))) by simp] at d3
  rw [e1]
  have hlen : (P ++ (enc (zz b).toNat ++ (enc w ++ (enc (many w ds) ++ (packL ds w ++ (exc w 0 ds ++ Q)))))).length = (P ++ enc (zz b).toNat ++ enc w ++ enc (many w ds)).length + szB ds.length w + (exc w 0 ds ++ Q).length := by
    simp only [List.length_append, packL_length]; omega
  generalize P ++ (enc (zz b).toNat ++ (enc w ++ (enc (many w ds) ++ (packL ds w ++ (exc w 0 ds ++ Q))))) = B at *
  have n1 : numD B ((P ++ enc (zz b).toNat).length : Int) 64 = ((w : Int), ((P ++ enc (zz b).toNat ++ enc w).length : Int), 0) := by
    unfold numD
    rw [d2, if_neg (by simp), if_neg (by show ¬ (64 : Int) < (w : Int); omega)]
  have n2 : numD B ((P ++ enc (zz b).toNat ++ enc w).length : Int) (ds.length : Int) = ((many w ds : Int), ((P ++ enc (zz b).toNat ++ enc w ++ enc (many w ds)).length : Int), 0) := by
    unfold numD
    rw [d3, if_neg (by simp), if_neg (by show ¬ (ds.length : Int) < (many w ds : Int); omega)]
  unfold frD
  rw [if_neg (by omega), d1]
  simp only []
  rw [if_neg (by simp), n1]
  simp only []
  rw [if_neg (by simp), n2]
  simp only []
  rw [if_neg (by simp), Int.toNat_natCast, Int.toNat_natCast, if_neg (by rw [hlen]; omega), Int.toNat_of_nonneg hz.1]
theorem packed_enc {P Q : List UInt8} {b : Int} {ds : List Nat} {w : Nat} :
    packedD (P ++ (encD b ds w ++ Q)) ((P ++ enc (zz b).toNat ++ enc w ++ enc (many w ds)).length : Int) ds.length w = packL ds w := by
  have e1 : P ++ (encD b ds w ++ Q) = (P ++ enc (zz b).toNat ++ enc w ++ enc (many w ds)) ++ (packL ds w ++ (exc w 0 ds ++ Q)) := by unfold encD; simp
  unfold packedD
  rw [e1, Int.toNat_natCast, List.drop_left, ← packL_length, List.take_left]
theorem atB_packed {ds : List Nat} {w i x : Nat} (hU : U64 ds) (hw : w ≤ 64) (hl : ds.length ≤ 65536) (hx : ds[i]? = some x) : atB (packL ds w) (i : Int) (w : Int) = x % 2 ^ w := by
  have hi : i < ds.length := by
    rcases Nat.lt_or_ge i ds.length with h | h
    · exact h
    · rw [List.getElem?_eq_none h] at hx; cases hx
  unfold atB
  by_cases h1 : 1 ≤ w
  · have hb : i + 1 ≤ 8 * (packL ds w).length / w := by
      rw [packL_length, Nat.le_div_iff_mul_le (by omega)]
      unfold szB
      have h2 : (i + 1) * w ≤ ds.length * w := Nat.mul_le_mul_right w hi
      generalize ds.length * w = K at *
      omega
    have hc : (8 * ((packL ds w).length : Int) / (w : Int)) = ((8 * (packL ds w).length / w : Nat) : Int) := by simp
    rw [if_pos ⟨by omega, by omega, by omega⟩, Int.toNat_natCast, Int.toNat_natCast, numB_pack hi, List.getD_eq_getElem?_getD, hx]
    rfl
  · have : w = 0 := by omega
    subst this
    rw [if_neg (by omega), Nat.pow_zero, Nat.mod_one]
theorem lowD_enc {ds : List Nat} {w : Nat} (hU : U64 ds) (hw : w ≤ 64) (hl : ds.length ≤ 65536) {B : List UInt8} {p : Int} (h : packedD B p ds.length w = packL ds w) : lowD B p ds.length w = ds.map (fun d => d % 2 ^ w) := by
  unfold lowD
  rw [h]
  apply List.ext_getElem?
  intro j
  rw [List.getElem?_map, List.getElem?_map]
  by_cases hj : j < ds.length
  · rw [List.getElem?_range hj, List.getElem?_eq_getElem hj, Option.map_some, Option.map_some, atB_packed hU hw hl (List.getElem?_eq_getElem hj)]
  · rw [List.getElem?_eq_none (by simpa using hj), List.getElem?_eq_none (by omega)]
    rfl
theorem valV_dif {b v : Int} (hb : frIn b) (hv : frIn v) : valV (zz b) (difN b v) = v := by
  unfold valV difN frIn at *
  rw [uz_zz, IntKind.wrap_i64]
  omega
theorem map_dif {l : List Int} (h : ∀ x ∈ l, frIn x) : (difL l).map (valV (zz (baseV l))) = l := by
  unfold difL
  rw [List.map_map]
  have e : ∀ x ∈ l, (valV (zz (baseV l)) ∘ difN (baseV l)) x = id x := fun x hx => valV_dif (baseV_in h) (h x hx)
  rw [List.map_congr_left e, List.map_id]
theorem decV_enc (P Q : List UInt8) {l : List Int} (h : ∀ x ∈ l, frIn x) (hl : l.length ≤ 65536) : decV (P ++ (encV l ++ Q)) (P.length : Int) (l.length : Int) = (l, ((P ++ encV l).length : Int), 0) := by
  have hb := baseV_in h
  have hU := difL_U64 l
  have hlen := difL_length l
  have hw := bestW_le l
  have HF := frD_enc (P := P) (Q := Q) hb (ds := difL l) (by omega) hw
  have HP := packed_enc (P := P) (Q := Q) (b := baseV l) (ds := difL l) (w := bestW l)
  have HL := lowD_enc hU hw (by omega) HP
  have HX := excD_exc hw (difL l) [] (P ++ enc (zz (baseV l)).toNat ++ enc (bestW l) ++ enc (many (bestW l) (difL l)) ++ packL (difL l) (bestW l)) Q hU (by rw [List.length_nil]; omega)
  have e1 : P ++ enc (zz (baseV l)).toNat ++ enc (bestW l) ++ enc (many (bestW l) (difL l)) ++ packL (difL l) (bestW l) ++ (exc (bestW l) ([] : List Nat).length (difL l) ++ Q) = P ++ (encD (baseV l) (difL l) (bestW l) ++ Q) := by unfold encD; simp
  have e2 : P ++ enc (zz (baseV l)).toNat ++ enc (bestW l) ++ enc (many (bestW l) (difL l)) ++ packL (difL l) (bestW l) ++ exc (bestW l) ([] : List Nat).length (difL l) = P ++ encV l := by unfold encV encW encD; simp
  rw [e1, e2, List.nil_append, List.nil_append, @List.length_append UInt8 _ (packL _ _), packL_length] at HX
  have HM := map_dif h
  have e3 : P ++ (encV l ++ Q) = P ++ (encD (baseV l) (difL l) (bestW l) ++ Q) := rfl
  rw [e3]
  rw [hlen] at HF HP HL HX
  have h2 : excD (P ++ (encD (baseV l) (difL l) (bestW l) ++ Q)) ((bestW l : Nat) : Int).toNat ((many (bestW l) (difL l) : Nat) : Int).toNat
      (((P ++ enc (zz (baseV l)).toNat ++ enc (bestW l) ++ enc (many (bestW l) (difL l))).length : Int) + (szB (l.length : Int).toNat ((bestW l : Nat) : Int).toNat : Nat))
      (lowD (P ++ (encD (baseV l) (difL l) (bestW l) ++ Q)) ((P ++ enc (zz (baseV l)).toNat ++ enc (bestW l) ++ enc (many (bestW l) (difL l))).length : Int) (l.length : Int).toNat ((bestW l : Nat) : Int).toNat) = (difL l, ((P ++ encV l).length : Int), 0) := by
    rw [Int.toNat_natCast, Int.toNat_natCast, Int.toNat_natCast, HL, ← HX]
    congr 1
  have h3 : encV ((difL l).map (valV (zz (baseV l)))) = ((P ++ (encD (baseV l) (difL l) (bestW l) ++ Q)).drop ((P.length : Int)).toNat).take (((P ++ encV l).length : Int) - (P.length : Int)).toNat := by
    rw [HM, Int.toNat_natCast, List.drop_left, List.length_append, show (((P.length + (encV l).length : Nat) : Int) - (P.length : Int)).toNat = (encV l).length by omega]
    show encV l = (encV l ++ Q).take (encV l).length
    rw [List.take_left]
  have h4 := decV_ok HF h2 h3
  rw [HM] at h4
  exact h4
theorem numD_e {b : List UInt8} {o lim x q e : Int} (h : dcd b o = (x, q, e)) (he : e ≠ 0) : numD b o lim = (0, 0, e) := by unfold numD; rw [h]; simp only []; rw [if_pos he]
theorem numD_f {b : List UInt8} {o lim x q : Int} (h : dcd b o = (x, q, 0)) (hx : lim < x) : numD b o lim = (0, 0, 4) := by unfold numD; rw [h]; simp only []; rw [if_neg (by simp), if_pos hx]
theorem numD_ok {b : List UInt8} {o lim x q : Int} (h : dcd b o = (x, q, 0)) (hx : ¬ lim < x) : numD b o lim = (x, q, 0) := by unfold numD; rw [h]; simp only []; rw [if_neg (by simp), if_neg hx]
theorem frD_a {b : List UInt8} {o n : Int} (h : n < 0 ∨ 65536 < n) : frD b o n = (0, 0, 0, 0, 1) := by unfold frD; rw [if_pos h]
theorem frD_b {b : List UInt8} {o n z p1 e : Int} (h : ¬ (n < 0 ∨ 65536 < n)) (h1 : dcd b o = (z, p1, e)) (he : e ≠ 0) : frD b o n = (0, 0, 0, 0, e) := by unfold frD; rw [if_neg h, h1]; simp only []; rw [if_pos he]
theorem frD_c {b : List UInt8} {o n z p1 w p2 e : Int} (h : ¬ (n < 0 ∨ 65536 < n)) (h1 : dcd b o = (z, p1, 0)) (h2 : numD b p1 64 = (w, p2, e)) (he : e ≠ 0) : frD b o n = (0, 0, 0, 0, e) := by
  unfold frD; rw [if_neg h, h1]; simp only []; rw [if_neg (by simp), h2]; simp only []; rw [if_pos he]
theorem frD_e {b : List UInt8} {o n z p1 w p2 m p3 e : Int} (h : ¬ (n < 0 ∨ 65536 < n)) (h1 : dcd b o = (z, p1, 0)) (h2 : numD b p1 64 = (w, p2, 0)) (h3 : numD b p2 n = (m, p3, e)) (he : e ≠ 0) : frD b o n = (0, 0, 0, 0, e) := by
  unfold frD; rw [if_neg h, h1]; simp only []; rw [if_neg (by simp), h2]; simp only []; rw [if_neg (by simp), h3]; simp only []; rw [if_pos he]
theorem frD_g {b : List UInt8} {o n z p1 w p2 m p3 : Int} (h : ¬ (n < 0 ∨ 65536 < n)) (h1 : dcd b o = (z, p1, 0)) (h2 : numD b p1 64 = (w, p2, 0)) (h3 : numD b p2 n = (m, p3, 0)) (hs : (b.length : Int) - p3 < szB n.toNat w.toNat) : frD b o n = (0, 0, 0, 0, 2) := by
  unfold frD; rw [if_neg h, h1]; simp only []; rw [if_neg (by simp), h2]; simp only []; rw [if_neg (by simp), h3]; simp only []; rw [if_neg (by simp), if_pos hs]
theorem frD_ok {b : List UInt8} {o n z p1 w p2 m p3 : Int} (h : ¬ (n < 0 ∨ 65536 < n)) (h1 : dcd b o = (z, p1, 0)) (h2 : numD b p1 64 = (w, p2, 0)) (h3 : numD b p2 n = (m, p3, 0)) (hs : ¬ (b.length : Int) - p3 < szB n.toNat w.toNat) : frD b o n = (z, w, m, p3, 0) := by
  unfold frD; rw [if_neg h, h1]; simp only []; rw [if_neg (by simp), h2]; simp only []; rw [if_neg (by simp), h3]; simp only []; rw [if_neg (by simp), if_neg hs]
theorem dcd_bd2 {l : List UInt8} {o x q e : Int} (h : dcd l o = (x, q, e)) : 0 ≤ x ∧ x ≤ 18446744073709551615 ∧ (e = 0 → 0 ≤ o ∧ o ≤ q ∧ q ≤ (l.length : Int)) ∧ 0 ≤ e ∧ e ≤ 4 := by
  by_cases hb : o < 0 ∨ (l.length : Int) < o
  · rw [dcd_bad hb] at h
    injection h with h1 h2
    injection h2 with h2 h3
    subst h1 h2 h3
    exact ⟨by decide, by decide, fun h => absurd h (by decide), by decide, by decide⟩
  · obtain ⟨k, rfl⟩ := Int.eq_ofNat_of_zero_le (a := o) (by omega)
    have h1 := dcd_bd l k (by omega)
    rw [h] at h1
    exact ⟨h1.1, h1.2.1, fun he => ⟨by omega, h1.2.2.1 he⟩, h1.2.2.2⟩
theorem excD_bd {b : List UInt8} {w : Nat} : ∀ (k : Nat) (p : Int) (d d' : List Nat) (q : Int), 0 ≤ p → p ≤ (b.length : Int) → excD b w k p d = (d', q, 0) → p ≤ q ∧ q ≤ (b.length : Int) ∧ d'.length = d.length
  | 0, p, d, d', q, h0, h1, h => by
    rw [excD] at h
    injection h with e1 e2
    injection e2 with e2 _
    subst e1 e2
    exact ⟨Int.le_refl _, h1, rfl⟩
  | k + 1, p, d, d', q, h0, h1, h => by
    obtain ⟨x, p1, e, hd⟩ : ∃ x p1 e, dcd b p = (x, p1, e) := ⟨_, _, _, rfl⟩
    have b1 := dcd_bd2 hd
    by_cases he : e = 0
    · subst he
      obtain ⟨y, p2, f, hd2⟩ : ∃ y p2 f, dcd b p1 = (y, p2, f) := ⟨_, _, _, rfl⟩
      have b2 := dcd_bd2 hd2
      by_cases hf : f = 0
      · subst hf
        rw [excD_ok (by rw [hd]) (by rw [hd, hd2]), hd, hd2] at h
        simp only [] at h
        have c1 := b1.2.2.1 rfl
        have c2 := b2.2.2.1 rfl
        have ih := excD_bd k p2 _ d' q (by omega) (by omega) h
        rw [putD_length] at ih
        exact ⟨by omega, by omega, ih.2.2⟩
      · rw [excD_e2 (by rw [hd]) (by rw [hd, hd2]; exact hf), hd, hd2] at h
        injection h with _ h
        injection h with _ h
        exact absurd h hf
    · rw [excD_e1 (by rw [hd]; exact he), hd] at h
      injection h with _ h
      injection h with _ h
      exact absurd h he
theorem or_lt64 {x y : Nat} (hx : x < 18446744073709551616) (hy : y < 18446744073709551616) : x ||| y < 18446744073709551616 := Nat.or_lt_two_pow (n := 64) hx hy
theorem putD_U64 {d : List Nat} (h : U64 d) (i x : Int) (w : Nat) : U64 (putD d i x w) := by
  unfold putD
  split
  · intro y hy
    rcases List.mem_or_eq_of_mem_set hy with h1 | h1
    · exact h y h1
    · subst h1
      refine or_lt64 ?_ (Nat.mod_lt _ (by decide))
      rw [List.getD_eq_getElem?_getD]
      cases hd : d[i.toNat]? with
      | none => decide
      | some z => exact h z (List.mem_of_getElem? hd)
  · exact h
theorem lowD_U64 (b : List UInt8) (p : Int) (n w : Nat) (hw : w ≤ 64) : U64 (lowD b p n w) := by
  intro x hx
  unfold lowD at hx
  rw [List.mem_map] at hx
  obtain ⟨i, _, rfl⟩ := hx
  unfold atB
  split
  · exact Nat.lt_of_lt_of_le (numB_lt _ _ _) (Nat.le_trans (Nat.pow_le_pow_right (by decide) (show (w : Int).toNat ≤ 64 by omega)) (by decide))
  · decide
end Go.Proofs.YthmipnokimlbdaaGreat
/-
  Shaken: what the claims of this seat need of this text. No condition.
-/
namespace Go.Proofs.YthmipnokimlbdaaGreat
set_option maxRecDepth 8000
open Go.RowKit
set_option linter.unusedVariables false
set_option linter.unusedSimpArgs false
def dfL (l : List Int) : List Int := List.zipWith (fun y x => IntKind.i64.wrap (y - x)) l.tail l
theorem dfL_cons (x y : Int) (r : List Int) : dfL (x :: y :: r) = IntKind.i64.wrap (y - x) :: dfL (y :: r) := rfl
theorem dfL_length (l : List Int) : (dfL l).length = l.length - 1 := by unfold dfL; simp
theorem dfL_get {l : List Int} {k : Nat} (h : k + 1 < l.length) (h2 : k < (dfL l).length) : (dfL l)[k] = IntKind.i64.wrap (l[k + 1] - l[k]) := by
  simp [dfL]
theorem wrap64_in (x : Int) : frIn (IntKind.i64.wrap x) := by unfold frIn; rw [IntKind.wrap_i64]; omega
theorem dfL_in (l : List Int) : ∀ x ∈ dfL l, frIn x := by
  intro x hx
  rw [List.mem_iff_getElem] at hx
  obtain ⟨k, hk, rfl⟩ := hx
  rw [dfL_get (by rw [dfL_length] at hk; omega) hk]
  exact wrap64_in _
def psL : Int → List Int → List Int
  | f, [] => [f]
  | f, d :: r => f :: psL (IntKind.i64.wrap (f + d)) r
def lastS (f : Int) (ds : List Int) : Int := ds.foldl (fun a d => IntKind.i64.wrap (a + d)) f
theorem psL_length : ∀ (ds : List Int) (f : Int), (psL f ds).length = ds.length + 1
  | [], _ => rfl
  | d :: r, f => by rw [psL, List.length_cons, psL_length r, List.length_cons]
theorem psL_snoc : ∀ (ds : List Int) (f d : Int), psL f (ds ++ [d]) = psL f ds ++ [IntKind.i64.wrap (lastS f ds + d)]
  | [], f, d => rfl
  | x :: r, f, d => by rw [List.cons_append, psL, psL_snoc r, psL, List.cons_append]; rfl
theorem psL_last : ∀ (ds : List Int) (f : Int), (psL f ds)[ds.length]? = some (lastS f ds)
  | [], f => rfl
  | x :: r, f => by rw [psL, List.length_cons, List.getElem?_cons_succ, psL_last r]; rfl
theorem psL_take {ds : List Int} {k : Nat} (h : k < ds.length) (f : Int) : psL f (ds.take (k + 1)) = psL f (ds.take k) ++ [IntKind.i64.wrap (lastS f (ds.take k) + ds[k])] := by
  rw [List.take_succ_eq_append_getElem h, psL_snoc]
theorem psL_at {ds : List Int} {k : Nat} (h : k ≤ ds.length) (f : Int) : (psL f (ds.take k))[k]? = some (lastS f (ds.take k)) := by
  have h1 := psL_last (ds.take k) f
  rw [List.length_take, Nat.min_eq_left h] at h1
  exact h1
theorem psL_in : ∀ (ds : List Int) (f : Int), frIn f → ∀ x ∈ psL f ds, frIn x
  | [], f, hf => by intro x hx; rw [psL, List.mem_singleton] at hx; subst hx; exact hf
  | d :: r, f, hf => by
    intro x hx
    rw [psL, List.mem_cons] at hx
    rcases hx with rfl | hx
    · exact hf
    · exact psL_in r _ (wrap64_in _) x hx
theorem psL_dfL : ∀ (r : List Int) (x : Int), frIn x → (∀ y ∈ r, frIn y) → psL x (dfL (x :: r)) = x :: r
  | [], x, _, _ => rfl
  | y :: r, x, hx, h => by
    have hy := h y (by simp)
    rw [dfL_cons, psL]
    have e : IntKind.i64.wrap (x + IntKind.i64.wrap (y - x)) = y := by
      unfold frIn at hx hy
      rw [IntKind.wrap_i64, IntKind.wrap_i64]
      omega
    rw [e, psL_dfL r y hy (fun z hz => h z (by simp [hz]))]
def rstL : Nat → List Int → List Int
  | 0, l => l
  | k + 1, l => dfL (rstL k l)
def hdsL : Nat → List Int → List Int
  | 0, _ => []
  | k + 1, l => hdsL k l ++ (rstL k l).take 1
def encH (hs : List Int) : List UInt8 := hs.flatMap fun x => enc (zz x).toNat
def hdB (k : Nat) (l : List Int) : List UInt8 := encH (hdsL k l)
theorem rstL_length (k : Nat) (l : List Int) : (rstL k l).length = l.length - k := by
  induction k with
  | zero => rfl
  | succ k ih => rw [rstL, dfL_length, ih]; omega
theorem rstL_in {l : List Int} (h : ∀ x ∈ l, frIn x) : ∀ k, ∀ x ∈ rstL k l, frIn x
  | 0 => h
  | k + 1 => dfL_in _
theorem rstL_out {k : Nat} {l : List Int} (h : l.length ≤ k) : rstL k l = [] := List.eq_nil_of_length_eq_zero (by rw [rstL_length]; omega)
theorem hdsL_length (k : Nat) (l : List Int) : (hdsL k l).length = min k l.length := by
  induction k with
  | zero => simp [hdsL]
  | succ k ih => rw [hdsL, List.length_append, ih, List.length_take, rstL_length]; omega
theorem hdsL_in {l : List Int} (h : ∀ x ∈ l, frIn x) : ∀ k, ∀ x ∈ hdsL k l, frIn x
  | 0 => by intro x hx; cases hx
  | k + 1 => by
    intro x hx
    rw [hdsL, List.mem_append] at hx
    rcases hx with hx | hx
    · exact hdsL_in h k x hx
    · exact rstL_in h k x (List.mem_of_mem_take hx)
theorem hdsL_min (l : List Int) : ∀ k, hdsL (min k l.length) l = hdsL k l
  | 0 => by simp
  | k + 1 => by
    by_cases h : k + 1 ≤ l.length
    · rw [Nat.min_eq_left h]
    · have ih := hdsL_min l k
      rw [Nat.min_eq_right (by omega)] at ih ⊢
      rw [ih, hdsL, rstL_out (show l.length ≤ k by omega)]
      simp
theorem rstL_min (l : List Int) (k : Nat) : rstL (min k l.length) l = rstL k l := by
  by_cases h : k ≤ l.length
  · rw [Nat.min_eq_left h]
  · rw [Nat.min_eq_right (by omega), rstL_out (Nat.le_refl _), rstL_out (by omega)]
theorem encH_append (a b : List Int) : encH (a ++ b) = encH a ++ encH b := by unfold encH; rw [List.flatMap_append]
theorem encH_cons (x : Int) (r : List Int) : encH (x :: r) = enc (zz x).toNat ++ encH r := by unfold encH; rw [List.flatMap_cons]
theorem hdB_step {k : Nat} {l : List Int} {x : Int} (h : (rstL k l).take 1 = [x]) : hdB (k + 1) l = hdB k l ++ enc (zz x).toNat := by
  unfold hdB
  rw [hdsL, encH_append, h, encH_cons]
  simp [encH]
theorem encH_len : ∀ hs : List Int, (encH hs).length ≤ 10 * hs.length
  | [] => by simp [encH]
  | x :: r => by
    have := encH_len r
    have := enc_le10 (zz x).toNat
    rw [encH_cons, List.length_append, List.length_cons]
    omega
theorem hdB_len (k : Nat) (l : List Int) : (hdB k l).length ≤ 10 * k := by
  have h := encH_len (hdsL k l)
  rw [hdsL_length] at h
  unfold hdB
  omega
def dlForm (k : Nat) (l : List Int) : List UInt8 := UInt8.ofNat k :: (hdB k l ++ encV (rstL k l))
def dlOrd (l : List Int) : Nat := if l.length < 2 then 1 else if (dlForm 2 l).length < (dlForm 1 l).length then 2 else 1
def dlEnc (l : List Int) : List UInt8 := if 65536 < l.length then [] else dlForm (dlOrd l) l
theorem dlForm_len (k : Nat) (l : List Int) : (dlForm k l).length = 1 + (hdB k l).length + (encV (rstL k l)).length := by
  unfold dlForm
  rw [List.length_cons, List.length_append]
  omega
theorem dlForm_le {k : Nat} (hk : k ≤ 2) (l : List Int) : (dlForm k l).length ≤ 52 + 28 * l.length := by
  have h1 := hdB_len k l
  have h2 := encV_len (rstL k l)
  rw [rstL_length] at h2
  rw [dlForm_len]
  omega
theorem dlOrd_bd (l : List Int) : (dlOrd l = 1 ∨ dlOrd l = 2) ∧ (dlOrd l = 2 → 2 ≤ l.length) := by
  unfold dlOrd
  split
  · exact ⟨.inl rfl, fun h => by cases h⟩
  · split
    · exact ⟨.inr rfl, fun _ => by omega⟩
    · exact ⟨.inl rfl, fun h => by cases h⟩
theorem dlEnc_in {l : List Int} (h : l.length ≤ 65536) : dlEnc l = dlForm (dlOrd l) l := by unfold dlEnc; rw [if_neg (by omega)]
theorem dlEnc_le (l : List Int) : (dlEnc l).length ≤ 52 + 28 * l.length := by
  unfold dlEnc
  split
  · rw [List.length_nil]; omega
  · exact dlForm_le (by have := (dlOrd_bd l).1; omega) l
def hdsD (b : List UInt8) : Nat → Int → List Int → List Int × Int × Int
  | 0, p, acc => (acc, p, 0)
  | k + 1, p, acc => if (dcd b p).2.2 ≠ 0 then ([], 0, (dcd b p).2.2) else hdsD b k (dcd b p).2.1 (acc ++ [uz (dcd b p).1])
theorem hdsD_e {b : List UInt8} {k : Nat} {p : Int} {acc : List Int} {x q e : Int} (h : dcd b p = (x, q, e)) (he : e ≠ 0) : hdsD b (k + 1) p acc = ([], 0, e) := by
  rw [hdsD, h]; simp only []; rw [if_pos he]
theorem hdsD_ok {b : List UInt8} {k : Nat} {p : Int} {acc : List Int} {x q : Int} (h : dcd b p = (x, q, 0)) : hdsD b (k + 1) p acc = hdsD b k q (acc ++ [uz x]) := by
  rw [hdsD, h]; simp only []; rw [if_neg (by decide)]
theorem hdsD_bd {b : List UInt8} : ∀ (k : Nat) (p : Int) (acc r : List Int) (q : Int), 0 ≤ p → p ≤ (b.length : Int) → (∀ x ∈ acc, frIn x) → hdsD b k p acc = (r, q, 0) →
    p ≤ q ∧ q ≤ (b.length : Int) ∧ r.length = acc.length + k ∧ ∀ x ∈ r, frIn x
  | 0, p, acc, r, q, h0, h1, ha, h => by
    rw [hdsD] at h
    injection h with e1 e2
    injection e2 with e2 _
    subst e1 e2
    exact ⟨Int.le_refl _, h1, rfl, ha⟩
  | k + 1, p, acc, r, q, h0, h1, ha, h => by
    obtain ⟨x, p1, e, hd⟩ : ∃ x p1 e, dcd b p = (x, p1, e) := ⟨_, _, _, rfl⟩
    have b1 := dcd_bd2 hd
    by_cases he : e = 0
    · subst he
      rw [hdsD_ok hd] at h
      have c1 := b1.2.2.1 rfl
      have ih := hdsD_bd k p1 _ r q (by omega) (by omega) (by
        intro y hy
        rw [List.mem_append, List.mem_singleton] at hy
        rcases hy with hy | rfl
        · exact ha y hy
        · have := uz_bd x b1.1 (by have := b1.2.1; omega)
          unfold frIn
          omega) h
      rw [List.length_append, List.length_singleton] at ih
      exact ⟨by omega, by omega, by omega, ih.2.2.2⟩
    · rw [hdsD_e hd he] at h
      injection h with _ h
      injection h with _ h
      exact absurd h he
theorem hdsD_enc : ∀ (hs acc : List Int) (P Q : List UInt8), (∀ x ∈ hs, frIn x) → hdsD (P ++ (encH hs ++ Q)) hs.length (P.length : Int) acc = (acc ++ hs, ((P ++ encH hs).length : Int), 0)
  | [], acc, P, Q, _ => by simp [hdsD, encH]
  | x :: r, acc, P, Q, h => by
    have hx := h x (by simp)
    have hz := zz_bd x hx.1 (by have := hx.2; omega)
    have e1 : P ++ (encH (x :: r) ++ Q) = P ++ (enc (zz x).toNat ++ (encH r ++ Q)) := by rw [encH_cons, List.append_assoc]
    have e2 : P ++ (enc (zz x).toNat ++ (encH r ++ Q)) = (P ++ enc (zz x).toNat) ++ (encH r ++ Q) := by rw [List.append_assoc]
    have hd := dcd_enc (p := P) (q := encH r ++ Q) (x := (zz x).toNat) (by omega)
    rw [e1, List.length_cons, hdsD_ok hd, e2, hdsD_enc r _ _ Q (fun y hy => h y (by simp [hy])), Int.toNat_of_nonneg hz.1, uz_zz, encH_cons]
    simp only [List.append_assoc, List.singleton_append, List.nil_append, List.cons_append]
def psAll (ld r : List Int) : List Int := ld.foldr psL r
theorem psAll_length : ∀ (ld r : List Int), (psAll ld r).length = ld.length + r.length
  | [], r => by simp [psAll]
  | x :: t, r => by show (psL x (psAll t r)).length = _; rw [psL_length, psAll_length t r, List.length_cons]; omega
theorem psAll_in : ∀ (ld r : List Int), (∀ x ∈ ld, frIn x) → (∀ x ∈ r, frIn x) → ∀ x ∈ psAll ld r, frIn x
  | [], r, _, h => h
  | y :: t, r, h1, h2 => psL_in _ y (h1 y (by simp))
theorem psAll_snoc (ld : List Int) (x : Int) (r : List Int) : psAll (ld ++ [x]) r = psAll ld (psL x r) := by unfold psAll; rw [List.foldr_append]; rfl
theorem psAll_drop {ld : List Int} {k : Nat} (h : k < ld.length) (r : List Int) : psAll (ld.drop k) r = psL ld[k] (psAll (ld.drop (k + 1)) r) := by
  rw [List.drop_eq_getElem_cons h]
  rfl
theorem psAll_enc {l : List Int} (h : ∀ x ∈ l, frIn x) : ∀ k, psAll (hdsL k l) (rstL k l) = l
  | 0 => rfl
  | k + 1 => by
    have ih := psAll_enc h k
    rw [hdsL, rstL]
    have hin := rstL_in h k
    cases hr : rstL k l with
    | nil => rw [hr] at ih; simpa [dfL] using ih
    | cons x t =>
      rw [hr] at ih hin
      show psAll (hdsL k l ++ [x]) _ = l
      rw [psAll_snoc, psL_dfL t x (hin x (by simp)) (fun y hy => hin y (by simp [hy])), ih]
def kindD (b : List UInt8) (o : Int) : Nat := (b.getD o.toNat 0).toNat
def dlDec (b : List UInt8) (o n : Int) : List Int × Int × Int :=
  if (n < 0 ∨ 65536 < n) ∨ o < 0 then ([], 0, 1) else
  if (b.length : Int) ≤ o then ([], 0, 2) else
  if ¬ (kindD b o = 1 ∨ (kindD b o = 2 ∧ 2 ≤ n)) then ([], 0, 4) else
  match hdsD b (min (kindD b o) n.toNat) (o + 1) [] with
  | (ld, p, e) =>
    if e ≠ 0 then ([], 0, e) else
    match decV b p (n - (min (kindD b o) n.toNat : Nat)) with
    | (r, q, f) =>
      if f ≠ 0 then ([], 0, f) else
      if dlEnc (psAll ld r) = (b.drop o.toNat).take (q - o).toNat then (psAll ld r, q, 0) else ([], 0, 4)
section
variable {b : List UInt8} {o n : Int}
theorem dlDec_a (h : (n < 0 ∨ 65536 < n) ∨ o < 0) : dlDec b o n = ([], 0, 1) := by unfold dlDec; rw [if_pos h]
theorem dlDec_b (h : ¬ ((n < 0 ∨ 65536 < n) ∨ o < 0)) (h1 : (b.length : Int) ≤ o) : dlDec b o n = ([], 0, 2) := by unfold dlDec; rw [if_neg h, if_pos h1]
theorem dlDec_c (h : ¬ ((n < 0 ∨ 65536 < n) ∨ o < 0)) (h1 : ¬ (b.length : Int) ≤ o) (h2 : ¬ (kindD b o = 1 ∨ (kindD b o = 2 ∧ 2 ≤ n))) : dlDec b o n = ([], 0, 4) := by unfold dlDec; rw [if_neg h, if_neg h1, if_pos h2]
theorem dlDec_d {ld : List Int} {p e : Int} (h : ¬ ((n < 0 ∨ 65536 < n) ∨ o < 0)) (h1 : ¬ (b.length : Int) ≤ o) (h2 : kindD b o = 1 ∨ (kindD b o = 2 ∧ 2 ≤ n)) (h3 : hdsD b (min (kindD b o) n.toNat) (o + 1) [] = (ld, p, e)) (he : e ≠ 0) : dlDec b o n = ([], 0, e) := by
  unfold dlDec; rw [if_neg h, if_neg h1, if_neg (fun hn => hn h2), h3]; simp only []; rw [if_pos he]
theorem dlDec_e {ld r : List Int} {p q f : Int} (h : ¬ ((n < 0 ∨ 65536 < n) ∨ o < 0)) (h1 : ¬ (b.length : Int) ≤ o) (h2 : kindD b o = 1 ∨ (kindD b o = 2 ∧ 2 ≤ n)) (h3 : hdsD b (min (kindD b o) n.toNat) (o + 1) [] = (ld, p, 0)) (h4 : decV b p (n - (min (kindD b o) n.toNat : Nat)) = (r, q, f)) (hf : f ≠ 0) : dlDec b o n = ([], 0, f) := by
  unfold dlDec; rw [if_neg h, if_neg h1, if_neg (fun hn => hn h2), h3]; simp only []; rw [if_neg (by decide), h4]; simp only []; rw [if_pos hf]
theorem dlDec_f {ld r : List Int} {p q : Int} (h : ¬ ((n < 0 ∨ 65536 < n) ∨ o < 0)) (h1 : ¬ (b.length : Int) ≤ o) (h2 : kindD b o = 1 ∨ (kindD b o = 2 ∧ 2 ≤ n)) (h3 : hdsD b (min (kindD b o) n.toNat) (o + 1) [] = (ld, p, 0)) (h4 : decV b p (n - (min (kindD b o) n.toNat : Nat)) = (r, q, 0)) (h5 : dlEnc (psAll ld r) ≠ (b.drop o.toNat).take (q - o).toNat) : dlDec b o n = ([], 0, 4) := by
  unfold dlDec; rw [if_neg h, if_neg h1, if_neg (fun hn => hn h2), h3]; simp only []; rw [if_neg (by decide), h4]; simp only []; rw [if_neg (by decide), if_neg h5]
theorem dlDec_g {ld r : List Int} {p q : Int} (h : ¬ ((n < 0 ∨ 65536 < n) ∨ o < 0)) (h1 : ¬ (b.length : Int) ≤ o) (h2 : kindD b o = 1 ∨ (kindD b o = 2 ∧ 2 ≤ n)) (h3 : hdsD b (min (kindD b o) n.toNat) (o + 1) [] = (ld, p, 0)) (h4 : decV b p (n - (min (kindD b o) n.toNat : Nat)) = (r, q, 0)) (h5 : dlEnc (psAll ld r) = (b.drop o.toNat).take (q - o).toNat) : dlDec b o n = (psAll ld r, q, 0) := by
  unfold dlDec; rw [if_neg h, if_neg h1, if_neg (fun hn => hn h2), h3]; simp only []; rw [if_neg (by decide), h4]; simp only []; rw [if_neg (by decide), if_pos h5]
end
theorem numD_bdD {b : List UInt8} {o lim x q e : Int} (h : numD b o lim = (x, q, e)) : e = 0 → 0 ≤ x ∧ x ≤ lim ∧ 0 ≤ o ∧ o ≤ q ∧ q ≤ (b.length : Int) := by
  intro he
  subst he
  obtain ⟨y, r, f, hd⟩ : ∃ y r f, dcd b o = (y, r, f) := ⟨_, _, _, rfl⟩
  have hb := dcd_bd2 hd
  by_cases hf : f = 0
  · subst hf
    obtain ⟨a1, a2, a3⟩ := hb.2.2.1 rfl
    by_cases hx : lim < y
    · rw [numD_f hd hx] at h
      simp only [Prod.mk.injEq] at h
      omega
    · rw [numD_ok hd hx] at h
      simp only [Prod.mk.injEq] at h
      obtain ⟨rfl, rfl, _⟩ := h
      exact ⟨hb.1, by omega, a1, a2, a3⟩
  · rw [numD_e hd hf] at h
    simp only [Prod.mk.injEq] at h
    exact absurd h.2.2 hf
theorem frD_bdD {b : List UInt8} {o n z W m p : Int} (h : frD b o n = (z, W, m, p, 0)) : (0 ≤ n ∧ n ≤ 65536) ∧ (0 ≤ z ∧ z ≤ 18446744073709551615) ∧ (0 ≤ W ∧ W ≤ 64) ∧ (0 ≤ m ∧ m ≤ n) ∧ (0 ≤ o ∧ o ≤ p) ∧ p + (szB n.toNat W.toNat : Nat) ≤ (b.length : Int) := by
  by_cases hn : n < 0 ∨ 65536 < n
  · rw [frD_a hn] at h
    simp only [Prod.mk.injEq] at h
    omega
  obtain ⟨z', p1, e1, h1⟩ : ∃ z p1 e1, dcd b o = (z, p1, e1) := ⟨_, _, _, rfl⟩
  have b1 := dcd_bd2 h1
  by_cases he1 : e1 = 0
  rotate_left
  · rw [frD_b hn h1 he1] at h
    simp only [Prod.mk.injEq] at h
    exact absurd h.2.2.2.2 he1
  subst he1
  obtain ⟨W', p2, e2, h2⟩ : ∃ W p2 e2, numD b p1 64 = (W, p2, e2) := ⟨_, _, _, rfl⟩
  have b2 := numD_bdD h2
  by_cases he2 : e2 = 0
  rotate_left
  · rw [frD_c hn h1 h2 he2] at h
    simp only [Prod.mk.injEq] at h
    exact absurd h.2.2.2.2 he2
  subst he2
  obtain ⟨m', p3, e3, h3⟩ : ∃ m p3 e3, numD b p2 n = (m, p3, e3) := ⟨_, _, _, rfl⟩
  have b3 := numD_bdD h3
  by_cases he3 : e3 = 0
  rotate_left
  · rw [frD_e hn h1 h2 h3 he3] at h
    simp only [Prod.mk.injEq] at h
    exact absurd h.2.2.2.2 he3
  subst he3
  have c1 := b1.2.2.1 rfl
  have c2 := b2 rfl
  have c3 := b3 rfl
  by_cases hs : (b.length : Int) - p3 < szB n.toNat W'.toNat
  · rw [frD_g hn h1 h2 h3 hs] at h
    simp only [Prod.mk.injEq] at h
    exact absurd h.2.2.2.2 (by decide)
  · rw [frD_ok hn h1 h2 h3 hs] at h
    simp only [Prod.mk.injEq] at h
    obtain ⟨rfl, rfl, rfl, rfl, _⟩ := h
    exact ⟨by omega, ⟨b1.1, b1.2.1⟩, ⟨c2.1, c2.2.1⟩, ⟨c3.1, c3.2.1⟩, ⟨by omega, by omega⟩, by omega⟩
theorem decV_bd {b : List UInt8} {o n : Int} {r : List Int} {q : Int} (h : decV b o n = (r, q, 0)) : (r.length : Int) = n ∧ (0 ≤ o ∧ o ≤ q ∧ q ≤ (b.length : Int)) ∧ (∀ x ∈ r, frIn x) := by
  obtain ⟨z, W, m, p, e, hf⟩ : ∃ z W m p e, frD b o n = (z, W, m, p, e) := ⟨_, _, _, _, _, rfl⟩
  by_cases he : e = 0
  rotate_left
  · rw [decV_e1 hf he] at h
    simp only [Prod.mk.injEq] at h
    exact absurd h.2.2 he
  subst he
  obtain ⟨c1, c2, c3, c4, c5, c6⟩ := frD_bdD hf
  obtain ⟨d, q2, f, hx⟩ : ∃ d q2 f, excD b W.toNat m.toNat (p + (szB n.toNat W.toNat : Nat)) (lowD b p n.toNat W.toNat) = (d, q2, f) := ⟨_, _, _, rfl⟩
  by_cases hf0 : f = 0
  rotate_left
  · rw [decV_e2 hf hx hf0] at h
    simp only [Prod.mk.injEq] at h
    exact absurd h.2.2 hf0
  subst hf0
  have hb := excD_bd m.toNat (p + (szB n.toNat W.toNat : Nat)) _ d q2 (by omega) (by omega) hx
  rw [lowD_length] at hb
  by_cases hq : encV (d.map (valV z)) = (b.drop o.toNat).take (q2 - o).toNat
  · rw [decV_ok hf hx hq] at h
    simp only [Prod.mk.injEq] at h
    obtain ⟨rfl, rfl, _⟩ := h
    refine ⟨by rw [List.length_map, hb.2.2]; omega, by omega, ?_⟩
    intro x hx
    rw [List.mem_map] at hx
    obtain ⟨y, _, rfl⟩ := hx
    exact valV_in z y
  · rw [decV_e3 hf hx hq] at h
    simp only [Prod.mk.injEq] at h
    exact absurd h.2.2 (by decide)
theorem dlDec_acc {b : List UInt8} {o n : Int} {vs : List Int} {q : Int} (h : dlDec b o n = (vs, q, 0)) : (vs.length : Int) = n ∧ (∀ x ∈ vs, frIn x) ∧ (0 ≤ o ∧ o ≤ q ∧ q ≤ (b.length : Int)) ∧ dlEnc vs = (b.drop o.toNat).take (q - o).toNat := by
  by_cases h1 : (n < 0 ∨ 65536 < n) ∨ o < 0
  · rw [dlDec_a h1] at h; simp only [Prod.mk.injEq] at h; exact absurd h.2.2 (by decide)
  by_cases h2 : (b.length : Int) ≤ o
  · rw [dlDec_b h1 h2] at h; simp only [Prod.mk.injEq] at h; exact absurd h.2.2 (by decide)
  by_cases h3 : kindD b o = 1 ∨ (kindD b o = 2 ∧ 2 ≤ n)
  rotate_left
  · rw [dlDec_c h1 h2 h3] at h; simp only [Prod.mk.injEq] at h; exact absurd h.2.2 (by decide)
  obtain ⟨ld, p, e, h4⟩ : ∃ ld p e, hdsD b (min (kindD b o) n.toNat) (o + 1) [] = (ld, p, e) := ⟨_, _, _, rfl⟩
  by_cases he : e = 0
  rotate_left
  · rw [dlDec_d h1 h2 h3 h4 he] at h; simp only [Prod.mk.injEq] at h; exact absurd h.2.2 he
  subst he
  have b4 := hdsD_bd _ _ _ _ _ (by omega) (by omega) (fun x hx => by cases hx) h4
  obtain ⟨r, q2, f, h5⟩ : ∃ r q2 f, decV b p (n - (min (kindD b o) n.toNat : Nat)) = (r, q2, f) := ⟨_, _, _, rfl⟩
  by_cases hf : f = 0
  rotate_left
  · rw [dlDec_e h1 h2 h3 h4 h5 hf] at h; simp only [Prod.mk.injEq] at h; exact absurd h.2.2 hf
  subst hf
  have b5 := decV_bd h5
  by_cases h6 : dlEnc (psAll ld r) = (b.drop o.toNat).take (q2 - o).toNat
  · rw [dlDec_g h1 h2 h3 h4 h5 h6] at h
    simp only [Prod.mk.injEq] at h
    obtain ⟨rfl, rfl, _⟩ := h
    refine ⟨?_, psAll_in _ _ b4.2.2.2 b5.2.2, by omega, h6⟩
    rw [psAll_length]
    have := b4.2.2.1
    rw [List.length_nil] at this
    omega
  · rw [dlDec_f h1 h2 h3 h4 h5 h6] at h; simp only [Prod.mk.injEq] at h; exact absurd h.2.2 (by decide)
theorem dlDec_enc (P Q : List UInt8) {l : List Int} (h : ∀ x ∈ l, frIn x) (hl : l.length ≤ 65536) : dlDec (P ++ (dlEnc l ++ Q)) (P.length : Int) (l.length : Int) = (l, ((P ++ dlEnc l).length : Int), 0) := by
  obtain ⟨hk, hk2⟩ := dlOrd_bd l
  have he := dlEnc_in hl
  rw [he]
  generalize dlOrd l = k at *
  have hfl : (dlForm k l).length = 1 + (hdB k l).length + (encV (rstL k l)).length := dlForm_len k l
  have h1 : ¬ (((l.length : Int) < 0 ∨ 65536 < (l.length : Int)) ∨ (P.length : Int) < 0) := by omega
  have h2 : ¬ ((P ++ (dlForm k l ++ Q)).length : Int) ≤ (P.length : Int) := by rw [List.length_append, List.length_append]; omega
  have hkd : kindD (P ++ (dlForm k l ++ Q)) (P.length : Int) = k := by
    unfold kindD dlForm
    rw [Int.toNat_natCast, List.getD_eq_getElem?_getD, List.getElem?_append_right (Nat.le_refl _), Nat.sub_self]
    rcases hk with rfl | rfl <;> rfl
  have hmin : min k l.length = (hdsL k l).length := (hdsL_length k l).symm
  have e1 : P ++ (dlForm k l ++ Q) = (P ++ [UInt8.ofNat k]) ++ (encH (hdsL k l) ++ (encV (rstL k l) ++ Q)) := by unfold dlForm hdB; simp
  have e2 : P ++ (dlForm k l ++ Q) = (P ++ [UInt8.ofNat k] ++ encH (hdsL k l)) ++ (encV (rstL k l) ++ Q) := by unfold dlForm hdB; simp
  have e3 : (P ++ [UInt8.ofNat k] ++ encH (hdsL k l)) ++ encV (rstL k l) = P ++ dlForm k l := by unfold dlForm hdB; simp
  have h3 : kindD (P ++ (dlForm k l ++ Q)) (P.length : Int) = 1 ∨ (kindD (P ++ (dlForm k l ++ Q)) (P.length : Int) = 2 ∧ 2 ≤ (l.length : Int)) := by
    rw [hkd]
    rcases hk with rfl | rfl
    · exact .inl rfl
    · exact .inr ⟨rfl, by have := hk2 rfl; omega⟩
  have h4 := hdsD_enc (hdsL k l) [] (P ++ [UInt8.ofNat k]) (encV (rstL k l) ++ Q) (hdsL_in h k)
  have e4 : (((P ++ [UInt8.ofNat k]).length : Nat) : Int) = (P.length : Int) + 1 := by rw [List.length_append, List.length_singleton]; omega
  rw [List.nil_append, e4, ← e1] at h4
  have h5 := decV_enc (P ++ [UInt8.ofNat k] ++ encH (hdsL k l)) Q (rstL_in h k) (by rw [rstL_length]; omega)
  have hrl := rstL_length k l
  rw [← e2, e3] at h5
  have h6 : dlEnc (psAll (hdsL k l) (rstL k l)) = ((P ++ (dlForm k l ++ Q)).drop ((P.length : Int)).toNat).take (((P ++ dlForm k l).length : Int) - (P.length : Int)).toNat := by
    rw [psAll_enc h, he, Int.toNat_natCast, List.drop_left, List.length_append, show (((P.length + (dlForm k l).length : Nat) : Int) - (P.length : Int)).toNat = (dlForm k l).length by omega, List.take_left]
  have h7 := dlDec_g (b := P ++ (dlForm k l ++ Q)) (o := (P.length : Int)) (n := (l.length : Int)) h1 h2 h3 (by rw [hkd, Int.toNat_natCast, hmin]; exact h4) (by
    rw [hkd, Int.toNat_natCast, show (l.length : Int) - ((min k l.length : Nat) : Int) = ((rstL k l).length : Int) by omega]
    exact h5) h6
  rw [psAll_enc h] at h7
  exact h7
end Go.Proofs.YthmipnokimlbdaaGreat
