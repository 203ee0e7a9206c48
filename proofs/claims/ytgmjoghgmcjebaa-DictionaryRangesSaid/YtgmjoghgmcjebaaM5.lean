/-
  Texts that the claims of this seat share, put together (Bq1, VFix, LdNum, RlEnc, VRead, Dec). No condition.
-/
import Derived.Test.YtgmjoghgmcjebaaM3
import Derived.Test.YtgmjoghgmcjebaaM4
import Derived.Test.YtgmjoghgmcjebaaProg
import Derived.Test.YtgmjoghgmcjebaaM1
import Derived.WalkKit
import Derived.Outline
import Derived.OwnWalk
/-
  Package bitpack: validCount, validWidth, bytesFor, lowBits, Size. The world is as it was.
-/
namespace Go.Proofs.Ytgmjoghgmcjebaa
open Go.RowKit
set_option linter.unusedVariables false
set_option linter.unusedSimpArgs false

def okN (n : Int) : Bool := decide (0 ≤ n) && decide (n ≤ 1048576)
def okM (m : Int) : Bool := decide (0 ≤ m) && decide (m ≤ 64)
theorem okB_eq (n m : Int) : okB n m = (okN n && okM m) := by unfold okB okN okM; simp only [Bool.and_assoc]
theorem okN_t {n : Nat} (h : n ≤ 1048576) : okN (n : Int) = true := by unfold okN; simp; omega
theorem okM_t {n : Nat} (h : n ≤ 64) : okM (n : Int) = true := by unfold okM; simp; omega
theorem okB_t {n m : Nat} (h : n ≤ 1048576) (h2 : m ≤ 64) : okB (n : Int) (m : Int) = true := by rw [okB_eq, okN_t h, okM_t h2]; rfl
theorem validN_any (n : Int) (w : World) : Calls Try.prog 76 #[.int .i64 n] w fun e w' => e = .returned (.bool (okN n)) ∧ w = w' := by
  by_cases h1 : 0 ≤ n
  · go_enter Try.func76, Try.ntmps76
    go_wp2
    go_ret
    exact ⟨retB (by simp [okN, h1]), rfl⟩
  · have hd : decide (0 ≤ n) = false := by simpa using h1
    go_enter Try.func76, Try.ntmps76
    go_wp2
    go_ret
    exact ⟨retB (by unfold okN; rw [hd]; simp), rfl⟩
theorem validM_any (n : Int) (w : World) : Calls Try.prog 77 #[.int .i64 n] w fun e w' => e = .returned (.bool (okM n)) ∧ w = w' := by
  by_cases h1 : 0 ≤ n
  · go_enter Try.func77, Try.ntmps77
    go_wp2
    go_ret
    exact ⟨retB (by simp [okM, h1]), rfl⟩
  · have hd : decide (0 ≤ n) = false := by simpa using h1
    go_enter Try.func77, Try.ntmps77
    go_wp2
    go_ret
    exact ⟨retB (by unfold okM; rw [hd]; simp), rfl⟩
theorem bytesFor_any (k : Nat) (w : World) (hk : k ≤ 1000000000000) : Calls Try.prog 101 #[.int .i64 (k : Int)] w fun e w' => e = .returned (.int .i64 (((k + 7) / 8 : Nat) : Int)) ∧ w = w' := by
  have HE := hidden (show ((k : Int) + 8 - 1) / 8 = (((k + 7) / 8 : Nat) : Int) by omega)
  go_enter Try.func101, Try.ntmps101
  go_wp2
  go_ret
  exact ⟨retU HE.out, rfl⟩
theorem pow_le64 {c : Nat} (h : c ≤ 64) : (2 : Nat) ^ c ≤ 18446744073709551616 := Nat.le_trans (Nat.pow_le_pow_right (by decide) h) (by decide)
theorem low_wrap {c : Nat} (h : c ≤ 64) : IntKind.u64.wrap (IntKind.u64.wrap (1 * 2 ^ c) - 1) = ((2 ^ c - 1 : Nat) : Int) := by
  have e : ((2 : Int) ^ c) = ((2 ^ c : Nat) : Int) := by simp
  have h1 := pow_le64 h
  have h2 := Nat.two_pow_pos c
  rw [Int.one_mul, e, IntKind.wrap_u64, IntKind.wrap_u64]
  generalize 2 ^ c = y at *
  omega
theorem lowBits_any (c : Nat) (w : World) (hc : c ≤ 64) : Calls Try.prog 80 #[.int .i64 (c : Int)] w fun e w' => e = .returned (.int .u64 ((2 ^ c - 1 : Nat) : Int)) ∧ w' = w := by
  have HE := hidden (low_wrap hc)
  go_enter Try.func80, Try.ntmps80
  go_wp2
  go_ret
  exact ⟨retU (by first | exact HE.out | (have h := HE.out; rw [Int.one_mul] at h; exact h)), rfl⟩
theorem and_low {x c : Nat} (hx : x < 18446744073709551616) (hc : c ≤ 64) : bits .and .u64 (x : Int) ((2 ^ c - 1 : Nat) : Int) = ((x % 2 ^ c : Nat) : Int) := by
  have h1 := pow_le64 hc
  have h2 := Nat.two_pow_pos c
  rw [u64_and _ _ (by omega) (by omega) (by omega) (by omega), Int.toNat_natCast, Int.toNat_natCast, Nat.and_two_pow_sub_one_eq_mod]
theorem sizeI_nat {n m : Nat} (h : n ≤ 1048576) (h2 : m ≤ 64) : sizeI (n : Int) (m : Int) = ((szB n m : Nat) : Int) := by
  unfold sizeI
  rw [okB_t h h2, Int.toNat_natCast, Int.toNat_natCast]
  rfl
theorem size_any (n m : Int) (w : World) : Calls Try.prog 78 #[.int .i64 n, .int .i64 m] w fun e w' => e = .returned (.int .i64 (sizeI n m)) ∧ w = w' := by
  have HN := hidden (fun w => validN_any n w)
  have HM := hidden (fun w => validM_any m w)
  cases h1 : okN n
  · have HE := hidden (show sizeI n m = 0 by unfold sizeI; rw [okB_eq, h1]; rfl)
    rw [h1] at HN
    clear h1
    go_enter Try.func78, Try.ntmps78
    go_wp2_with ((go_at_call 76; refine (HN.out _).mono ?_; rintro e w2 ⟨rfl, rfl⟩))
    go_ret
    exact ⟨retU HE.out.symm, rfl⟩
  · rw [h1] at HN
    cases h2 : okM m
    · have HE := hidden (show sizeI n m = 0 by unfold sizeI; rw [okB_eq, h1, h2]; rfl)
      rw [h2] at HM
      clear h1 h2
      go_enter Try.func78, Try.ntmps78
      go_wp2_with (first | (go_at_call 76; refine (HN.out _).mono ?_; rintro e w2 ⟨rfl, rfl⟩) | (go_at_call 77; refine (HM.out _).mono ?_; rintro e w2 ⟨rfl, rfl⟩))
      go_ret
      exact ⟨retU HE.out.symm, rfl⟩
    · rw [h2] at HM
      obtain ⟨⟨a1, a2⟩, a3, a4⟩ := okB_true (show okB n m = true by rw [okB_eq, h1, h2]; rfl)
      clear h1 h2
      obtain ⟨N, rfl⟩ := Int.eq_ofNat_of_zero_le a1
      obtain ⟨M, rfl⟩ := Int.eq_ofNat_of_zero_le a3
      have hb : N * M ≤ 1048576 * 64 := Nat.mul_le_mul (by omega) (by omega)
      have hc : (N : Int) * (M : Int) = ((N * M : Nat) : Int) := (Int.natCast_mul N M).symm
      have h0 : 0 ≤ (N : Int) * (M : Int) := by omega
      have h9 : (N : Int) * (M : Int) ≤ 67108864 := by omega
      have HE := hidden (sizeI_nat (n := N) (m := M) (by omega) (by omega))
      have HB := hidden (fun w => bytesFor_any (N * M) w (by omega))
      have HC := hidden hc
      rw [← hc] at HB
      clear hc
      go_enter Try.func78, Try.ntmps78
      go_wp2_with (first | (go_at_call 76; refine (HN.out _).mono ?_; rintro e w2 ⟨rfl, rfl⟩) | (go_at_call 77; refine (HM.out _).mono ?_; rintro e w2 ⟨rfl, rfl⟩) | (go_at_call 101; refine (HB.out _).mono ?_; rintro e w2 ⟨rfl, rfl⟩))
      go_ret
      exact ⟨retU (by rw [HE.out]; rfl), rfl⟩
end Go.Proofs.Ytgmjoghgmcjebaa
/-
  varint.Fixed returns an own slice that reads as 'fixs': for all arguments; nothing that was there is changed.
-/
namespace Go.Proofs.Ytgmjoghgmcjebaa
open Go.RowKit

theorem info_u8 : (Try.prog.info? 5).map (fun i => (i.zero, i.size, i.bytes)) = some (some (.int .u8 0), 1, 1) := by kernel_rfl

def Made (l : List UInt8) (w : World) (e : Ending) (w' : World) : Prop :=
  ∃ v, e = .returned v ∧ w'.ownsRow w.heap.size 5 1 v l.length (bcells l) ∧ Below w.heap.size w w'

theorem Made.nil_ {w : World} : Made [] w (.returned (.slice none 0 0)) w := ⟨_, rfl, World.ownsRow_nil _ _ _ _, Below.refl _ _⟩

def FixRel (w : World) (n s : Nat) (i : Value) (wr : World) : Prop :=
  ∃ k : Nat, k ≤ s ∧ i = .int .i64 k ∧ Row wr w.heap.size 5 (fixRow n s k) ∧ Below w.heap.size w wr

end Go.Proofs.Ytgmjoghgmcjebaa
/-
  What decoding a value gives, as a plain function on lists of bytes; facts on varints. No condition.
-/
namespace Go.Proofs.Ytgmjoghgmcjebaa
open Go.RowKit

theorem dec_lt : ∀ (l : List UInt8) (i x n k e : Nat), i ≤ 9 → x < 128 ^ i → dec i x l = (n, k, e) → n < 18446744073709551616
  | [], i, x, n, k, e, _, _, h => by
    rw [dec_end] at h
    injection h with h1 _
    omega
  | c :: r, i, x, n, k, e, hi, hx, h => by
    by_cases hb : (i = 9 ∧ 1 < c.toNat) ∨ (0 < i ∧ c.toNat = 0)
    · rw [dec_bad hb] at h
      injection h with h1 _
      omega
    · have hs := sum_lt64 hi hx (c := c.toNat) (fun h9 => by
        rcases Nat.lt_or_ge 1 c.toNat with h1 | h1
        · exact absurd (.inl ⟨h9, h1⟩) hb
        · exact h1)
      by_cases hc : c.toNat < 128
      · rw [dec_last hb hc] at h
        injection h with h1 _
        omega
      · rw [dec_more hb hc] at h
        by_cases h9 : i = 9
        · exact absurd (.inl ⟨h9, by omega⟩) hb
        · exact dec_lt r (i + 1) _ n k e (by omega) (sum_lt hx) h
theorem dec_len : ∀ (l : List UInt8) (i x n k e : Nat), dec i x l = (n, k, e) → (e = 0 → i < k ∧ k ≤ i + l.length) ∧ (e = 0 ∨ e = 2 ∨ e = 4)
  | [], i, x, n, k, e, h => by
    rw [dec_end] at h
    injection h with h1 h2
    injection h2 with h2 h3
    exact ⟨fun h => by omega, by omega⟩
  | c :: r, i, x, n, k, e, h => by
    by_cases hb : (i = 9 ∧ 1 < c.toNat) ∨ (0 < i ∧ c.toNat = 0)
    · rw [dec_bad hb] at h
      injection h with h1 h2
      injection h2 with h2 h3
      exact ⟨fun h => by omega, by omega⟩
    · by_cases hc : c.toNat < 128
      · rw [dec_last hb hc] at h
        injection h with h1 h2
        injection h2 with h2 h3
        exact ⟨fun _ => by simp only [List.length_cons]; omega, by omega⟩
      · rw [dec_more hb hc] at h
        have ih := dec_len r (i + 1) _ n k e h
        exact ⟨fun he => by have := ih.1 he; simp only [List.length_cons]; omega, ih.2⟩
/-- bounds of a varint that is read -/
theorem dcd_bd (l : List UInt8) (o : Nat) (ho : o ≤ l.length) : 0 ≤ (dcd l o).1 ∧ (dcd l o).1 ≤ 18446744073709551615 ∧
    ((dcd l o).2.2 = 0 → (o : Int) ≤ (dcd l o).2.1 ∧ (dcd l o).2.1 ≤ (l.length : Int)) ∧ 0 ≤ (dcd l o).2.2 ∧ (dcd l o).2.2 ≤ 4 := by
  obtain ⟨n, k, e, h⟩ : ∃ n k e, dec 0 0 (l.drop (o : Int).toNat) = (n, k, e) := ⟨_, _, _, rfl⟩
  have h1 := dcd_ok (l := l) (off := o) (by omega) h
  have h2 := dec_lt _ 0 0 n k e (by omega) (by decide) h
  have h3 := dec_len _ 0 0 n k e h
  rw [h1]
  refine ⟨by show (0 : Int) ≤ (n : Int); omega, by show (n : Int) ≤ _; omega, fun he => ?_, by show (0 : Int) ≤ (e : Int); omega, by show (e : Int) ≤ 4; omega⟩
  have he0 : e = 0 := by have : (e : Int) = 0 := he; omega
  have h4 := h3.1 he0
  have hdl : (l.drop (o : Int).toNat).length = l.length - o := by rw [List.length_drop]; simp
  rw [hdl] at h4
  show (o : Int) ≤ (if e = 0 then (o : Int) + k else 0) ∧ (if e = 0 then (o : Int) + k else 0) ≤ (l.length : Int)
  rw [if_pos he0]
  omega
/-- a value that was decoded, the offset behind it, the error -/
structure DecO where
  k : Int
  n : Int
  t : ByteArray
  p : Int
  e : Int
def DecO.v (d : DecO) : Value := .tuple #[.agg #[.int .i64 d.k, .int .i64 d.n, .string d.t], .int .i64 d.p, .int .i64 d.e]
def dErr (e : Int) : DecO := ⟨0, 0, ⟨#[]⟩, 0, e⟩
def byteAt (l : List UInt8) (o : Nat) : Nat := (l.getD o 0).toNat
def dBoolO (l : List UInt8) (o : Nat) : DecO := if o = l.length then dErr 2 else if 1 < byteAt l o then dErr 4 else ⟨1, if byteAt l o = 1 then 1 else 0, ⟨#[]⟩, (o : Int) + 1, 0⟩
def dIntO (l : List UInt8) (o : Nat) : DecO := if (dcd l o).2.2 ≠ 0 then dErr (dcd l o).2.2 else ⟨2, uz (dcd l o).1, ⟨#[]⟩, (dcd l o).2.1, 0⟩
def dTextO (l : List UInt8) (o : Nat) : DecO :=
  if (dcd l o).2.2 ≠ 0 then dErr (dcd l o).2.2 else if 4096 < (dcd l o).1 then dErr 3 else if (l.length : Int) < (dcd l o).2.1 + (dcd l o).1 then dErr 2
  else ⟨3, 0, strOf ((l.drop (dcd l o).2.1.toNat).take (dcd l o).1.toNat), (dcd l o).2.1 + (dcd l o).1, 0⟩
def decO (l : List UInt8) (off : Int) : DecO :=
  if off < 0 ∨ (l.length : Int) < off then dErr 1 else if off = (l.length : Int) then dErr 2
  else if byteAt l off.toNat = 0 then ⟨0, 0, ⟨#[]⟩, off + 1, 0⟩ else if byteAt l off.toNat = 1 then dBoolO l (off.toNat + 1)
  else if byteAt l off.toNat = 2 then dIntO l (off.toNat + 1) else if byteAt l off.toNat = 3 then dTextO l (off.toNat + 1) else dErr 4
end Go.Proofs.Ytgmjoghgmcjebaa
/-
  Run-length encoding over lists: the encoding of runs, its decoding, their inverses. Lists and sums; no walk.
-/
namespace Go.Proofs.Ytgmjoghgmcjebaa
open Go.RowKit
set_option linter.unusedVariables false
set_option linter.unusedSimpArgs false

def in64 (x : Int) : Prop := -9223372036854775808 ≤ x ∧ x ≤ 9223372036854775807
def difR (x last : Int) : Int := wrap64 (x - last)
theorem difR_in (x last : Int) : in64 (difR x last) := by unfold difR in64 wrap64; omega
theorem dif_add {x last : Int} (hx : in64 x) (hl : in64 last) : wrap64 (last + difR x last) = x := by unfold difR in64 wrap64 at *; omega
theorem dif_zero {x last : Int} (hx : in64 x) (hl : in64 last) : difR x last = 0 ↔ x = last := by unfold difR in64 wrap64 at *; omega
theorem add_dif {d last : Int} (hd : in64 d) (hl : in64 last) : difR (wrap64 (last + d)) last = d := by unfold difR in64 wrap64 at *; omega
theorem wrap_in (x : Int) : in64 (wrap64 x) := by unfold in64 wrap64; omega
theorem zz_zero {n : Int} : zz n = 0 ↔ n = 0 := by unfold zz; split <;> omega
def zd (x last : Int) : Nat := (zz (difR x last)).toNat
theorem zd_bd (x last : Int) : zz (difR x last) = (zd x last : Int) ∧ zd x last < 18446744073709551616 := by
  have h1 := difR_in x last
  have h2 := zz_bd (difR x last) h1.1 (by have := h1.2; omega)
  unfold zd
  omega
def encRs : Int → List Rn → List UInt8
  | _, [] => []
  | last, x :: l => enc (zd x.1 last) ++ (enc x.2.toNat ++ encRs x.1 l)
def encR (l : List Rn) : List UInt8 := enc l.length ++ encRs 0 l
def finR (out : List Rn) (r : List Rn × Int × Int) : List Rn × Int × Int := if r.2.2 = 0 then (out ++ r.1, r.2.1, 0) else ([], 0, r.2.2)
def decRs (b : List UInt8) : Nat → Bool → Int → Int → Int → List Rn × Int × Int
  | 0, _, _, _, p => ([], p, 0)
  | n + 1, first, last, left, p =>
    if (dcd b p).2.2 ≠ 0 then ([], 0, (dcd b p).2.2)
    else if (dcd b p).1 = 0 ∧ first = false then ([], 0, 4)
    else if (dcd b (dcd b p).2.1).2.2 ≠ 0 then ([], 0, (dcd b (dcd b p).2.1).2.2)
    else if (dcd b (dcd b p).2.1).1 = 0 ∨ left < (dcd b (dcd b p).2.1).1 then ([], 0, 6)
    else finR [(wrap64 (last + uz (dcd b p).1), (dcd b (dcd b p).2.1).1)] (decRs b n false (wrap64 (last + uz (dcd b p).1)) (left - (dcd b (dcd b p).2.1).1) (dcd b (dcd b p).2.1).2.1)
def dcR (b : List UInt8) (off : Int) : List Rn × Int × Int :=
  if (dcd b off).2.2 ≠ 0 then ([], 0, (dcd b off).2.2) else if 65536 < (dcd b off).1 then ([], 0, 6) else decRs b (dcd b off).1.toNat true 0 65536 (dcd b off).2.1
theorem finR_nil (r : List Rn × Int × Int) (h : r.2.2 ≠ 0 → r.1 = [] ∧ r.2.1 = 0) : finR [] r = r := by
  unfold finR
  split
  · rename_i h0
    obtain ⟨a, b, c⟩ := r
    simp only at h0
    subst h0
    rfl
  · rename_i h0
    obtain ⟨h1, h2⟩ := h h0
    obtain ⟨a, b, c⟩ := r
    simp only at h1 h2
    subst h1 h2
    rfl
theorem finR_cons (out : List Rn) (x : Rn) (r : List Rn × Int × Int) : finR out (finR [x] r) = finR (out ++ [x]) r := by
  by_cases h : r.2.2 = 0
  · have e : finR [x] r = ([x] ++ r.1, r.2.1, 0) := by unfold finR; rw [if_pos h]
    rw [e]
    unfold finR
    rw [if_pos rfl, if_pos h, List.append_assoc]
  · have e : finR [x] r = ([], 0, r.2.2) := by unfold finR; rw [if_neg h]
    rw [e]
    unfold finR
    rw [if_neg h, if_neg h]
theorem finR_err (out : List Rn) (e : Int) (h : e ≠ 0) : finR out ([], 0, e) = ([], 0, e) := by unfold finR; rw [if_neg h]
theorem decRs_err (b : List UInt8) : ∀ (n : Nat) (first : Bool) (last left p : Int), (decRs b n first last left p).2.2 ≠ 0 → (decRs b n first last left p).1 = [] ∧ (decRs b n first last left p).2.1 = 0
  | 0, _, _, _, _, h => absurd rfl h
  | n + 1, first, last, left, p, h => by
    rw [decRs] at h ⊢
    split
    · exact ⟨rfl, rfl⟩
    · split
      · exact ⟨rfl, rfl⟩
      · split
        · exact ⟨rfl, rfl⟩
        · split
          · exact ⟨rfl, rfl⟩
          · rename_i h1 h2 h3 h4
            rw [if_neg h1, if_neg h2, if_neg h3, if_neg h4] at h
            unfold finR at h ⊢
            split
            · rename_i h5
              rw [if_pos h5] at h
              exact absurd rfl h
            · exact ⟨rfl, rfl⟩
/-- runs that may follow 'last' while 'left' elements are left -/
def okFrom : Bool → Int → Int → List Rn → Prop
  | _, _, _, [] => True
  | first, last, left, x :: l => (1 ≤ x.2 ∧ x.2 ≤ left) ∧ (first = false → x.1 ≠ last) ∧ okFrom false x.1 (left - x.2) l
theorem okFrom_iff : ∀ (l : List Rn) (first : Bool) (last left : Int), okFrom first last left l ↔ ∀ j, (hj : j < l.length) → (1 ≤ l[j].2 ∧ l[j].2 ≤ left - sumC (l.take j)) ∧ (0 < j → ∀ h2 : j - 1 < l.length, l[j - 1].1 ≠ l[j].1) ∧ (j = 0 → first = false → l[j].1 ≠ last)
  | [], _, _, _ => ⟨fun _ j hj => absurd hj (by simp), fun _ => trivial⟩
  | x :: l, first, last, left => by
    rw [okFrom, okFrom_iff l false x.1 (left - x.2)]
    constructor
    · rintro ⟨h1, h2, h3⟩ j hj
      cases j with
      | zero => exact ⟨by simpa [sumC_nil] using h1, fun h => absurd h (by omega), fun _ hf => h2 hf⟩
      | succ j =>
        have hj' : j < l.length := by simpa using hj
        obtain ⟨h4, h5, h6⟩ := h3 j hj'
        simp only [List.getElem_cons_succ, List.take_succ_cons, sumC_cons]
        refine ⟨by omega, fun _ h7 => ?_, fun h => absurd h (by omega)⟩
        cases j with
        | zero => exact fun e => h6 rfl rfl e.symm
        | succ j =>
          have h8 := h5 (by omega) (by omega)
          simpa using h8
    · intro h
      have h0 := h 0 (by simp)
      refine ⟨by simpa [sumC_nil] using h0.1, fun hf => h0.2.2 rfl hf, fun j hj => ?_⟩
      have h1 := h (j + 1) (by simpa using hj)
      simp only [List.getElem_cons_succ, List.take_succ_cons, sumC_cons] at h1
      refine ⟨by omega, fun h0 h2 => ?_, fun h0 _ => ?_⟩
      · have h3 := h1.2.1 (by omega) (by simp; omega)
        cases j with
        | zero => omega
        | succ j => simpa using h3
      · subst h0
        have h3 : x.1 ≠ l[0].1 := h1.2.1 (by omega) (by simp)
        exact fun e => h3 e.symm
theorem validR_from {l : List Rn} : validR l = true ↔ okFrom true 0 65536 l := by
  rw [okFrom_iff, validR_iff]
  constructor
  · intro h j hj
    have h1 := (okRun_iff hj).1 (h j hj)
    exact ⟨⟨h1.1, h1.2.1⟩, h1.2.2, fun _ hf => by cases hf⟩
  · intro h j hj
    obtain ⟨⟨h1, h2⟩, h3, _⟩ := h j hj
    exact (okRun_iff hj).2 ⟨h1, h2, h3⟩
theorem dcdR_at {b pre post : List UInt8} {n : Nat} (hb : b = pre ++ (enc n ++ post)) (hn : n < 18446744073709551616) : dcd b (pre.length : Int) = ((n : Int), ((pre.length + (enc n).length : Nat) : Int), 0) := by
  have h := dcd_ok (l := b) (off := (pre.length : Int)) (by rw [hb]; simp; omega) (n := n) (k := esz n) (e := 0) (by
    rw [hb, Int.toNat_natCast, List.drop_left]
    exact dec_enc hn post)
  rw [h, enc_length hn]
  simp
/-- what was encoded is decoded -/
theorem decRs_enc {b : List UInt8} : ∀ (l : List Rn) (first : Bool) (last left : Int) (pre post : List UInt8), b = pre ++ (encRs last l ++ post) → in64 last → (∀ x ∈ l, in64 x.1) → left ≤ 65536 → okFrom first last left l →
    decRs b l.length first last left (pre.length : Int) = (l, ((pre.length + (encRs last l).length : Nat) : Int), 0)
  | [], _, _, _, _, _, _, _, _, _, _ => rfl
  | x :: l, first, last, left, pre, post, hb, hl, hin, hleft, hok => by
    obtain ⟨⟨h1, h2⟩, h3, h4⟩ := hok
    have hx := hin x (List.mem_cons_self ..)
    obtain ⟨hz1, hz2⟩ := zd_bd x.1 last
    have hc : x.2.toNat < 18446744073709551616 := by omega
    rw [encRs] at hb
    have d1 := dcdR_at (b := b) (pre := pre) (post := enc x.2.toNat ++ encRs x.1 l ++ post) (n := zd x.1 last) (by rw [hb]; simp) hz2
    have d2 := dcdR_at (b := b) (pre := pre ++ enc (zd x.1 last)) (post := encRs x.1 l ++ post) (n := x.2.toNat) (by rw [hb]; simp) hc
    rw [List.length_append] at d2
    have ih := decRs_enc (b := b) l false x.1 (left - x.2) (pre ++ enc (zd x.1 last) ++ enc x.2.toNat) post (by rw [hb]; simp) hx (fun y hy => hin y (List.mem_cons_of_mem _ hy)) (by omega) h4
    have e2 : ((x.2.toNat : Nat) : Int) = x.2 := by omega
    have ev : wrap64 (last + uz ((zd x.1 last : Nat) : Int)) = x.1 := by rw [← hz1, uz_zz]; exact dif_add hx hl
    have ez : ¬ (((zd x.1 last : Nat) : Int) = 0 ∧ first = false) := by
      rintro ⟨h5, h6⟩
      rw [← hz1] at h5
      exact h3 h6 ((dif_zero hx hl).1 (zz_zero.1 h5))
    rw [List.length_cons, decRs, d1]
    simp only
    rw [if_neg (by simp), if_neg ez, d2]
    simp only
    rw [if_neg (by simp), if_neg (by omega), ev, e2]
    rw [List.length_append, List.length_append] at ih
    rw [ih, encRs]
    unfold finR
    rw [if_pos rfl]
    simp only [List.singleton_append, List.length_append]
    congr 2
    omega
/-- what is accepted is the encoding of what was decoded -/
theorem dcd_acc {b : List UInt8} {o : Nat} (ho : o ≤ b.length) (he : (dcd b (o : Int)).2.2 = 0) :
    ∃ n k : Nat, dcd b (o : Int) = ((n : Int), ((o + k : Nat) : Int), 0) ∧ o + k ≤ b.length ∧ 1 ≤ k ∧ enc n = (b.drop o).take k := by
  obtain ⟨n, k, e, h⟩ : ∃ n k e, dec 0 0 (b.drop (o : Int).toNat) = (n, k, e) := ⟨_, _, _, rfl⟩
  have h1 := dcd_ok (l := b) (off := (o : Int)) (by omega) h
  rw [h1] at he
  have he0 : e = 0 := by have : (e : Int) = 0 := he; omega
  subst he0
  have h3 := enc_dec h
  rw [Int.toNat_natCast] at h3
  have hl : (b.drop o).length = b.length - o := List.length_drop
  refine ⟨n, k, ?_, by omega, h3.2.1, h3.1⟩
  rw [h1]
  rfl
theorem take_glue {b : List UInt8} {o k m : Nat} : (b.drop o).take k ++ (b.drop (o + k)).take m = (b.drop o).take (k + m) := by
  rw [List.take_add, List.drop_drop]
theorem uz_in {n : Nat} (h : n < 18446744073709551616) : in64 (uz (n : Int)) := by
  have := uz_bd (n : Int) (by omega) (by omega)
  unfold in64
  omega
theorem dcd_num {b : List UInt8} {o : Nat} (ho : o ≤ b.length) (he : (dcd b (o : Int)).2.2 = 0) :
    ∃ n k : Nat, dcd b (o : Int) = ((n : Int), ((o + k : Nat) : Int), 0) ∧ o + k ≤ b.length ∧ 1 ≤ k ∧ enc n = (b.drop o).take k ∧ n < 18446744073709551616 := by
  obtain ⟨n, k, h1, h2, h3, h4⟩ := dcd_acc ho he
  refine ⟨n, k, h1, h2, h3, h4, ?_⟩
  obtain ⟨n', k', e', h⟩ : ∃ n k e, dec 0 0 (b.drop (o : Int).toNat) = (n, k, e) := ⟨_, _, _, rfl⟩
  have h5 := dcd_ok (l := b) (off := (o : Int)) (by omega) h
  rw [h5] at h1
  have h6 : ((n' : Nat) : Int) = (n : Int) := congrArg Prod.fst h1
  have h7 := dec_lt _ 0 0 n' k' e' (by omega) (by decide) h
  omega
theorem decRs_acc {b : List UInt8} : ∀ (n : Nat) (first : Bool) (last left : Int) (o : Nat), o ≤ b.length → in64 last → left ≤ 65536 → (decRs b n first last left (o : Int)).2.2 = 0 →
    ∃ k : Nat, (decRs b n first last left (o : Int)).2.1 = ((o + k : Nat) : Int) ∧ o + k ≤ b.length ∧ (decRs b n first last left (o : Int)).1.length = n ∧ okFrom first last left (decRs b n first last left (o : Int)).1 ∧ (∀ x ∈ (decRs b n first last left (o : Int)).1, in64 x.1) ∧ encRs last (decRs b n first last left (o : Int)).1 = (b.drop o).take k
  | 0, _, _, _, o, ho, _, _, _ => ⟨0, rfl, ho, rfl, trivial, (fun x hx => nomatch hx), by simp [encRs, decRs]⟩
  | n + 1, first, last, left, o, ho, hl, hleft, he => by
    rw [decRs] at he ⊢
    by_cases e1 : (dcd b (o : Int)).2.2 = 0
    · obtain ⟨d, k, hd, hk, hk1, henc, hd64⟩ := dcd_num ho e1
      rw [hd] at he ⊢
      simp only at he ⊢
      rw [if_neg (by simp)] at he ⊢
      by_cases e2 : ((d : Nat) : Int) = 0 ∧ first = false
      · rw [if_pos e2] at he; cases he
      · rw [if_neg e2] at he ⊢
        by_cases e3 : (dcd b ((o + k : Nat) : Int)).2.2 = 0
        · obtain ⟨c, m, hc, hm, hm1, henc2, hc64⟩ := dcd_num hk e3
          rw [hc] at he ⊢
          simp only at he ⊢
          rw [if_neg (by simp)] at he ⊢
          by_cases e4 : ((c : Nat) : Int) = 0 ∨ left < ((c : Nat) : Int)
          · rw [if_pos e4] at he; cases he
          · rw [if_neg e4] at he ⊢
            have hv := wrap_in (last + uz (d : Int))
            have ih := decRs_acc (b := b) n false (wrap64 (last + uz (d : Int))) (left - (c : Int)) (o + k + m) hm hv (by omega)
            generalize hR : decRs b n false (wrap64 (last + uz (d : Int))) (left - (c : Int)) ((o + k + m : Nat) : Int) = R at *
            have eR : R.2.2 = 0 := by
              unfold finR at he
              split at he
              · assumption
              · rename_i h5; exact absurd he h5
            obtain ⟨k', h1, h2, h3, h4, h5, h6⟩ := ih eR
            have hf : finR [(wrap64 (last + uz (d : Int)), (c : Int))] R = ((wrap64 (last + uz (d : Int)), (c : Int)) :: R.1, R.2.1, 0) := by unfold finR; rw [if_pos eR]; rfl
            have hdif : difR (wrap64 (last + uz (d : Int))) last = uz (d : Int) := add_dif (uz_in hd64) hl
            have hzd : zd (wrap64 (last + uz (d : Int))) last = d := by unfold zd; rw [hdif, zz_uz _ (by omega)]; rfl
            rw [hf]
            refine ⟨k + (m + k'), by rw [h1]; congr 1; omega, by omega, by simp [h3], ⟨⟨by omega, by omega⟩, fun hff e => ?_, h4⟩, ?_, ?_⟩
            · apply e2
              refine ⟨?_, hff⟩
              have h7 := (dif_zero hv hl).2 e
              rw [hdif] at h7
              have h8 := zz_uz (d : Int) (by omega)
              rw [h7] at h8
              rw [← h8]
              rfl
            · intro x hx
              rcases List.mem_cons.1 hx with rfl | hx
              · exact hv
              · exact h5 x hx
            · simp only [encRs]
              rw [hzd, h6, Int.toNat_natCast, henc, henc2, Nat.add_assoc o k m, ← Nat.add_assoc o k m, take_glue, take_glue]
        · rw [if_pos e3] at he; exact absurd he e3
    · rw [if_pos e1] at he; exact absurd he e1
theorem dcR_enc {l : List Rn} (hv : validR l = true) (hin : ∀ x ∈ l, in64 x.1) (pre post : List UInt8) :
    dcR (pre ++ (encR l ++ post)) (pre.length : Int) = (l, ((pre.length + (encR l).length : Nat) : Int), 0) := by
  have hlen := valid_length hv
  have h1 := dcdR_at (b := pre ++ (encR l ++ post)) (pre := pre) (post := encRs 0 l ++ post) (n := l.length) (by unfold encR; simp) (by omega)
  have h2 := decRs_enc (b := pre ++ (encR l ++ post)) l true 0 65536 (pre ++ enc l.length) post (by unfold encR; simp) (by unfold in64; omega) hin (Int.le_refl _) (validR_from.1 hv)
  rw [List.length_append] at h2
  unfold dcR
  rw [h1]
  simp only
  rw [if_neg (by simp), if_neg (by omega), Int.toNat_natCast, h2]
  unfold encR
  rw [List.length_append]
  congr 2
  omega
theorem dcR_err (b : List UInt8) (off : Int) (h : (dcR b off).2.2 ≠ 0) : (dcR b off).1 = [] ∧ (dcR b off).2.1 = 0 := by
  unfold dcR at h ⊢
  split
  · exact ⟨rfl, rfl⟩
  · split
    · exact ⟨rfl, rfl⟩
    · rename_i h1 h2
      rw [if_neg h1, if_neg h2] at h
      exact decRs_err b _ _ _ _ _ h
theorem dcR_acc {b : List UInt8} {off : Int} (h : (dcR b off).2.2 = 0) :
    ∃ o k : Nat, off = (o : Int) ∧ (dcR b off).2.1 = ((o + k : Nat) : Int) ∧ o + k ≤ b.length ∧ validR (dcR b off).1 = true ∧ (∀ x ∈ (dcR b off).1, in64 x.1) ∧ encR (dcR b off).1 = (b.drop o).take k := by
  unfold dcR at h ⊢
  by_cases e1 : (dcd b off).2.2 = 0
  · rw [if_neg (by simpa using e1)] at h ⊢
    by_cases hoff : off < 0 ∨ (b.length : Int) < off
    · rw [dcd_bad hoff] at e1; cases e1
    · obtain ⟨o, rfl⟩ := Int.eq_ofNat_of_zero_le (show 0 ≤ off by omega)
      obtain ⟨n, k, hd, hk, hk1, henc, hn⟩ := dcd_num (show o ≤ b.length by omega) e1
      rw [hd] at h ⊢
      simp only at h ⊢
      by_cases e2 : 65536 < ((n : Nat) : Int)
      · rw [if_pos e2] at h; cases h
      · rw [if_neg e2] at h ⊢
        rw [Int.toNat_natCast] at h ⊢
        obtain ⟨k', h1, h2, h3, h4, h5, h6⟩ := decRs_acc n true 0 65536 (o + k) hk (by unfold in64; omega) (Int.le_refl _) h
        refine ⟨o, k + k', rfl, by rw [h1]; congr 1; omega, by omega, validR_from.2 h4, h5, ?_⟩
        unfold encR
        rw [h3, henc, h6, take_glue]
  · rw [if_pos e1] at h; exact absurd h e1
theorem encR_len_le (l : List Rn) : (encR l).length ≤ 10 + 20 * l.length := by
  have e10 : ∀ n, (enc n).length ≤ 10 := fun n => by
    have h : ∀ f n, (encF f n).length ≤ f := by
      intro f
      induction f with
      | zero => intro n; simp [encF]
      | succ f ih =>
        intro n
        by_cases hn : n < 128
        · rw [encF_last hn]; simp
        · rw [encF_more hn, List.length_cons]; have := ih (n / 128); omega
    exact h 10 n
  have hs : ∀ (l : List Rn) (last : Int), (encRs last l).length ≤ 20 * l.length := by
    intro l
    induction l with
    | nil => intro last; simp [encRs]
    | cons x l ih =>
      intro last
      rw [encRs, List.length_append, List.length_append, List.length_cons]
      have h1 := e10 (zd x.1 last)
      have h2 := e10 x.2.toNat
      have h3 := ih x.1
      omega
  unfold encR
  rw [List.length_append]
  have h1 := e10 l.length
  have h2 := hs l 0
  omega
end Go.Proofs.Ytgmjoghgmcjebaa
/-
  varint.ReadFixed returns 'rdf': for all arguments; the world is as it was.
-/
namespace Go.Proofs.Ytgmjoghgmcjebaa
open Go.RowKit

theorem validOffset_t (A : Option Addr) (n c : Nat) (off : Int) (w : World) (_hn : n ≤ maxLen) (h0 : 0 ≤ off) (h1 : off ≤ n) :
    Calls Try.prog 83 #[.slice A n c, .int .i64 off] w fun e w' => e = .returned (.bool true) ∧ w = w' := by
  go_enter Try.func83, Try.ntmps83
  go_wp2
  go_ret
  exact ⟨rfl, rfl⟩

theorem validOffset_f (A : Option Addr) (n c : Nat) (off : Int) (w : World) (_hn : n ≤ maxLen) (h : off < 0 ∨ (n : Int) < off) :
    Calls Try.prog 83 #[.slice A n c, .int .i64 off] w fun e w' => e = .returned (.bool false) ∧ w = w' := by
  by_cases h0 : off < 0
  · clear h
    go_enter Try.func83, Try.ntmps83
    go_wp2
    go_ret
    exact ⟨rfl, rfl⟩
  · have h1 : (n : Int) < off := by omega
    have h2 : 0 ≤ off := by omega
    have hd : decide (off ≤ (n : Int)) = false := by simpa using h1
    clear h h0
    go_enter Try.func83, Try.ntmps83
    go_wp2
    go_ret
    exact ⟨rfl, rfl⟩

theorem ret2_eq {k1 k2 : IntKind} {a b a' b' : Int} (h1 : a = a') (h2 : b = b') :
    Ending.returned (.tuple #[.int k1 a, .int k2 b]) = .returned (.tuple #[.int k1 a', .int k2 b']) := by rw [h1, h2]

def ReadRel (l : List UInt8) (o s : Nat) (n i : Value) : Prop :=
  ∃ k x : Nat, k ≤ s ∧ i = .int .i64 k ∧ n = .int .u64 x ∧ x = le ((l.drop o).take k)

end Go.Proofs.Ytgmjoghgmcjebaa
/-
  varint.Decode and the reference's Decode return 'dcd': for every byte slice and every offset; the world is as it was.
-/
namespace Go.Proofs.Ytgmjoghgmcjebaa
open Go.RowKit

theorem ret3_eq {k1 k2 k3 : IntKind} {a b c a' b' c' : Int} (h1 : a = a') (h2 : b = b') (h3 : c = c') :
    Ending.returned (.tuple #[.int k1 a, .int k2 b, .int k3 c]) = .returned (.tuple #[.int k1 a', .int k2 b', .int k3 c']) := by rw [h1, h2, h3]

/-- the group's test, as a Bool -/
def grpOk (i : Nat) (c : UInt8) : Bool := !((decide (i = 9) && decide (1 < c.toNat)) || (decide (0 < i) && decide (c.toNat = 0)))
theorem grpOk_t {i : Nat} {c : UInt8} (h : grpOk i c = true) : ¬ ((i = 9 ∧ 1 < c.toNat) ∨ (0 < i ∧ c.toNat = 0)) := by
  simp only [grpOk, Bool.not_eq_true', Bool.or_eq_false_iff, Bool.and_eq_false_iff, decide_eq_false_iff_not] at h
  omega
theorem grpOk_f {i : Nat} {c : UInt8} (h : grpOk i c = false) : (i = 9 ∧ 1 < c.toNat) ∨ (0 < i ∧ c.toNat = 0) := by
  simp only [grpOk, Bool.not_eq_false', Bool.or_eq_true, Bool.and_eq_true, decide_eq_true_eq] at h
  exact h

theorem validGroup_any (i : Nat) (c : UInt8) (w : World) (hi : i ≤ 1000) :
    Calls Try.prog 84 #[.int .i64 (i : Int), .int .u8 (c.toNat : Int)] w fun e w' => e = .returned (.bool (grpOk i c)) ∧ w = w' := by
  have hcl : c.toNat < 256 := c.toNat_lt
  generalize hg : grpOk i c = g
  have HG := hidden hg
  clear hg
  by_cases h9 : i = 9
  · subst h9
    by_cases hc : 1 < c.toNat
    · go_enter Try.func84, Try.ntmps84
      go_wp2
      go_ret
      refine ⟨?_, rfl⟩
      rw [← HG.out]
      simp [grpOk, hc]
    · by_cases hz : c.toNat = 0
      · have ht : ((c.toNat : Int) != 0) = false := by simpa using hz
        have hf : ((c.toNat : Int) == 0) = true := by simpa using hz
        have HZ := hidden hz
        clear hz
        go_enter Try.func84, Try.ntmps84
        go_wp2
        go_ret
        refine ⟨?_, rfl⟩
        rw [← HG.out]
        simp [grpOk, HZ.out]
      · have ht : ((c.toNat : Int) != 0) = true := by simpa using hz
        go_enter Try.func84, Try.ntmps84
        go_wp2
        go_ret
        refine ⟨?_, rfl⟩
        rw [← HG.out]
        simp [grpOk, hz]
        omega
  · have h9' : ((i : Int) == 9) = false := by simp; omega
    by_cases h0 : i = 0
    · subst h0
      go_enter Try.func84, Try.ntmps84
      go_wp2
      go_ret
      refine ⟨?_, rfl⟩
      rw [← HG.out]
      simp [grpOk]
    · have h0' : ((i : Int) == 0) = false := by simp; omega
      by_cases hz : c.toNat = 0
      · have ht : ((c.toNat : Int) != 0) = false := by simpa using hz
        have HZ := hidden hz
        clear hz
        go_enter Try.func84, Try.ntmps84
        go_wp2
        go_ret
        refine ⟨?_, rfl⟩
        rw [← HG.out]
        simp [grpOk, HZ.out]
        omega
      · have ht : ((c.toNat : Int) != 0) = true := by simpa using hz
        go_enter Try.func84, Try.ntmps84
        go_wp2
        go_ret
        refine ⟨?_, rfl⟩
        rw [← HG.out]
        simp [grpOk, hz, h9]

set_option maxHeartbeats 400000 in
set_option maxRecDepth 100000 in
theorem decode_any (v : Value) (l : List UInt8) (off : Int) (w : World) (hv : IsBytes w v l) (hl : l.length ≤ maxLen) (h63 : -9223372036854775808 ≤ off) (h64 : off ≤ 9223372036854775807) :
    Calls Try.prog 64 #[v, .int .i64 off] w fun e w' => e = .returned (.tuple #[.int .u64 (dcd l off).1, .int .i64 (dcd l off).2.1, .int .i64 (dcd l off).2.2]) ∧ w = w' := by
  obtain ⟨A, c, rfl, hc⟩ := hv
  by_cases hbad : off < 0 ∨ (l.length : Int) < off
  · have HD := hidden (dcd_bad hbad)
    go_enter Try.func64, Try.ntmps64
    go_wp2_with ((go_at_call 83; refine (validOffset_f A l.length c off _ hl hbad).mono ?_; rintro e w' ⟨rfl, rfl⟩))
    go_ret3
    rw [HD.out]
    exact ⟨rfl, rfl⟩
  · have h0 : 0 ≤ off := by omega
    have h1 : off ≤ (l.length : Int) := by omega
    obtain ⟨o, rfl⟩ := Int.eq_ofNat_of_zero_le h0
    have HB := hidden hbad
    clear hbad
    unfold maxLen at hl
    have hcell : ∀ j, (h : j < l.length) → ∃ b f, A = some ⟨b, f, none⟩ ∧ w.cell? ⟨b, f + j, none⟩ = some (.int .u8 (l[j].toNat : Int)) := fun j hj => by
      obtain ⟨b, f, e, h⟩ := hc (by omega)
      exact ⟨b, f, e, h j hj⟩
    clear hc
    have HC := hidden hcell
    clear hcell
    go_enter Try.func64, Try.ntmps64
    go_wp2_with ((go_at_call 83; refine (validOffset_t A l.length c o _ (by unfold maxLen; omega) (by omega) (by omega)).mono ?_; rintro e w' ⟨rfl, rfl⟩))
    go_loop [7, 18] (fun n i => ∃ k x : Nat, o + k ≤ l.length ∧ k ≤ 9 ∧ x < 128 ^ k ∧ i = .int .i64 k ∧ n = .int .u64 x ∧ dec 0 0 (l.drop o) = dec k x (l.drop (o + k))) (fun _ i => l.length - (intOf i).toNat)
    case atStart => exact ⟨0, 0, by omega, by omega, by decide, rfl, rfl, rfl⟩
    case round =>
      obtain ⟨k, x, hk, hk9, hx, rfl, rfl, hdec⟩ := hrel
      have HX := hidden hdec
      clear hdec
      have HL := hidden hx
      clear hx
      by_cases hlt : o + k < l.length
      · obtain ⟨b, f, rfl, hcl⟩ := HC.out (o + k) hlt
        generalize hcc : l[o + k] = cc at hcl
        have hdrop : Hid (l.drop (o + k) = cc :: l.drop (o + (k + 1))) := by
          show l.drop (o + k) = cc :: l.drop (o + (k + 1))
          rw [← hcc, List.drop_eq_getElem_cons hlt]; rfl
        clear hcc
        have hcb : cc.toNat < 256 := cc.toNat_lt
        cases hg : grpOk k cc with
        | false =>
          have HG := hidden (dec_bad (i := k) (n := x) (r := l.drop (o + (k + 1))) (grpOk_f hg))
          have HR : Hid (dcd l (o : Int) = (0, 0, 4)) := by
            show dcd l (o : Int) = (0, 0, 4)
            rw [dcd_ok HB.out (n := 0) (k := 0) (e := 4) (by rw [Int.toNat_natCast, HX.out, hdrop.out, HG.out])]; rfl
          clear HX HG hdrop HB
          have Hg := hidden hg
          clear hg
          go_wp2_with ((go_at_call 84; refine (validGroup_any k cc _ (by omega)).mono ?_; rw [Hg.out]; rintro e w' ⟨rfl, rfl⟩))
          go_ret3
          rw [HR.out]
          exact ⟨rfl, rfl⟩
        | true =>
          have hng := grpOk_t hg
          have hc9 : k = 9 → cc.toNat ≤ 1 := by omega
          have HO := hidden (round_or hk9 HL.out hc9)
          have Hg := hidden hg
          clear hg
          by_cases hend : cc.toNat < 128
          · have HR : Hid (dcd l (o : Int) = (((x + cc.toNat % 128 * 128 ^ k : Nat) : Int), (o : Int) + k + 1, 0)) := by
              show dcd l (o : Int) = _
              rw [dcd_ok HB.out (n := x + cc.toNat % 128 * 128 ^ k) (k := k + 1) (e := 0) (by rw [Int.toNat_natCast, HX.out, hdrop.out, dec_last hng hend])]
              simp; omega
            clear HX hdrop HB hng hc9
            go_wp2_with ((go_at_call 84; refine (validGroup_any k cc _ (by omega)).mono ?_; rw [Hg.out]; rintro e w' ⟨rfl, rfl⟩))
            go_ret3
            rw [HR.out]
            refine ⟨ret3_eq ?_ rfl rfl, rfl⟩
            exact HO.out
          · have hk8 : k ≤ 8 := by omega
            have HD : Hid (dec 0 0 (l.drop o) = dec (k + 1) (x + cc.toNat % 128 * 128 ^ k) (l.drop (o + (k + 1)))) := by
              show dec 0 0 (l.drop o) = _
              rw [HX.out, hdrop.out, dec_more hng hend]
            have HS := hidden (sum_lt (c := cc.toNat) HL.out)
            clear HX hdrop HB hng hc9
            go_wp2_with ((go_at_call 84; refine (validGroup_any k cc _ (by omega)).mono ?_; rw [Hg.out]; rintro e w' ⟨rfl, rfl⟩))
            go_round
            case rel =>
              refine ⟨k + 1, x + cc.toNat % 128 * 128 ^ k, by omega, by omega, HS.out, by go_num, ?_, HD.out⟩
              rw [HO.out]
            case measure => simp [intOf]; omega
      · have hke : o + k = l.length := by omega
        have HR : Hid (dcd l (o : Int) = (0, 0, 2)) := by
          show dcd l (o : Int) = _
          rw [dcd_ok HB.out (n := 0) (k := 0) (e := 2) (by rw [Int.toNat_natCast, HX.out, hke, List.drop_length, dec_end])]; rfl
        clear HX HB hke
        go_wp2
        go_ret3
        rw [HR.out]
        exact ⟨rfl, rfl⟩

def RDecRel (l : List UInt8) (o : Nat) (n u i : Value) : Prop :=
  ∃ k x p : Nat, o + k ≤ l.length ∧ k ≤ 9 ∧ x < 128 ^ k ∧ p = 128 ^ k ∧ i = .int .i64 k ∧ n = .int .u64 x ∧ u = .int .u64 p ∧ dec 0 0 (l.drop o) = dec k x (l.drop (o + k))

set_option maxHeartbeats 400000 in
set_option maxRecDepth 100000 in
theorem rdecode_any (v : Value) (l : List UInt8) (off : Int) (w : World) (hv : IsBytes w v l) (hl : l.length ≤ maxLen) (h63 : -9223372036854775808 ≤ off) (h64 : off ≤ 9223372036854775807) :
    Calls Try.prog 68 #[v, .int .i64 off] w fun e w' => e = .returned (.tuple #[.int .u64 (dcd l off).1, .int .i64 (dcd l off).2.1, .int .i64 (dcd l off).2.2]) ∧ w = w' := by
  obtain ⟨A, c, rfl, hc⟩ := hv
  unfold maxLen at hl
  by_cases hneg : off < 0
  · have HD := hidden (dcd_bad (l := l) (off := off) (by omega))
    go_enter Try.func68, Try.ntmps68
    go_wp2
    go_ret3
    rw [HD.out]
    exact ⟨rfl, rfl⟩
  · by_cases hbig : (l.length : Int) < off
    · have HD := hidden (dcd_bad (l := l) (off := off) (by omega))
      have h0 : 0 ≤ off := by omega
      clear hneg
      go_enter Try.func68, Try.ntmps68
      go_wp2
      go_ret3
      rw [HD.out]
      exact ⟨rfl, rfl⟩
    · have h0 : 0 ≤ off := by omega
      have h1 : off ≤ (l.length : Int) := by omega
      obtain ⟨o, rfl⟩ := Int.eq_ofNat_of_zero_le h0
      have HB : Hid (¬ ((o : Int) < 0 ∨ (l.length : Int) < (o : Int))) := by show ¬ _; omega
      clear hneg hbig
      have hcell : ∀ j, (h : j < l.length) → ∃ b f, A = some ⟨b, f, none⟩ ∧ w.cell? ⟨b, f + j, none⟩ = some (.int .u8 (l[j].toNat : Int)) := fun j hj => by
        obtain ⟨b, f, e, h⟩ := hc (by omega)
        exact ⟨b, f, e, h j hj⟩
      clear hc
      have HC := hidden hcell
      clear hcell
      have hd1 : decide ((l.length : Int) < (o : Int)) = false := by simpa using h1
      have hd0 : decide ((o : Int) < 0) = false := by simp
      go_enter Try.func68, Try.ntmps68
      go_wp2
      go_loop [7, 8, 9] (RDecRel l o) (fun _ _ i => l.length - (intOf i).toNat)
      case atStart => exact ⟨0, 0, 1, by omega, by omega, by decide, rfl, rfl, rfl, rfl, rfl⟩
      case round =>
        obtain ⟨k, x, p, hk, hk9, hx, hp, rfl, rfl, rfl, hdec⟩ := hrel
        have HX := hidden hdec
        have HL := hidden hx
        have HP := hidden hp
        have hp1 : p ≤ 9223372036854775808 := by
          rw [hp]; exact Nat.le_trans (Nat.pow_le_pow_right (by decide) hk9) (by decide)
        have hx1 : x < 9223372036854775808 := by omega
        clear hdec hx hp
        by_cases hlt : o + k < l.length
        · obtain ⟨b, f, rfl, hcl⟩ := HC.out (o + k) hlt
          generalize hcc : l[o + k] = cc at hcl
          have hdrop : Hid (l.drop (o + k) = cc :: l.drop (o + (k + 1))) := by
            show l.drop (o + k) = cc :: l.drop (o + (k + 1))
            rw [← hcc, List.drop_eq_getElem_cons hlt]; rfl
          clear hcc
          have hcb : cc.toNat < 256 := cc.toNat_lt
          have HBAD : Hid (((k = 9 ∧ 1 < cc.toNat) ∨ (0 < k ∧ cc.toNat = 0)) → dcd l (o : Int) = (0, 0, 4)) := by
            intro hb
            rw [dcd_ok HB.out (n := 0) (k := 0) (e := 4) (by rw [Int.toNat_natCast, HX.out, hdrop.out, dec_bad hb])]; rfl
          have HGOOD : Hid (¬ ((k = 9 ∧ 1 < cc.toNat) ∨ (0 < k ∧ cc.toNat = 0)) → cc.toNat < 128 → dcd l (o : Int) = (((x + cc.toNat % 128 * 128 ^ k : Nat) : Int), (o : Int) + k + 1, 0)) := by
            intro hng hend
            rw [dcd_ok HB.out (n := x + cc.toNat % 128 * 128 ^ k) (k := k + 1) (e := 0) (by rw [Int.toNat_natCast, HX.out, hdrop.out, dec_last hng hend])]
            simp; omega
          have HMORE : Hid (¬ ((k = 9 ∧ 1 < cc.toNat) ∨ (0 < k ∧ cc.toNat = 0)) → ¬ cc.toNat < 128 → dec 0 0 (l.drop o) = dec (k + 1) (x + cc.toNat % 128 * 128 ^ k) (l.drop (o + (k + 1)))) := by
            intro hng hend
            rw [HX.out, hdrop.out, dec_more hng hend]
          have HN : Hid ((k = 9 → cc.toNat ≤ 1) → IntKind.u64.wrap ((x : Int) + IntKind.u64.wrap ((cc.toNat : Int) % 128 * (p : Int))) = ((x + cc.toNat % 128 * 128 ^ k : Nat) : Int)) := fun h => round_add hk9 HL.out h HP.out
          clear HX hdrop HB
          by_cases h9 : k = 9
          · subst h9
            by_cases hc1 : 1 < cc.toNat
            · have HC1 := hidden hc1
              go_wp2
              go_ret3
              rw [HBAD.out (.inl ⟨by simp, HC1.out⟩)]
              exact ⟨rfl, rfl⟩
            · by_cases hz : cc.toNat = 0
              · have ht : ((cc.toNat : Int) == 0) = true := by simpa using hz
                have HZ := hidden hz
                clear hz
                go_wp2
                go_ret3
                rw [HBAD.out (.inr ⟨by omega, HZ.out⟩)]
                exact ⟨rfl, rfl⟩
              · have ht : ((cc.toNat : Int) == 0) = false := by simpa using hz
                go_wp2
                go_ret3
                rw [HGOOD.out (by omega) (by omega)]
                exact ⟨ret3_eq (HN.out (by omega)) (by simp) rfl, rfl⟩
          · have h9' : ((k : Int) == 9) = false := by simp; omega
            have hp2 : p ≤ 72057594037927936 := by
              have hk8 : k ≤ 8 := by omega
              rw [HP.out]; exact Nat.le_trans (Nat.pow_le_pow_right (by decide) hk8) (by decide)
            by_cases h0 : k = 0
            · subst h0
              simp only [Nat.add_zero] at hcl
              by_cases hend : cc.toNat < 128
              · go_wp2
                go_ret3
                rw [HGOOD.out (by omega) (by omega)]
                exact ⟨ret3_eq (HN.out (by omega)) (by simp) rfl, rfl⟩
              · go_wp2
                go_round
                case rel => exact ⟨0 + 1, x + cc.toNat % 128 * 128 ^ 0, p * 128, by omega, by omega, sum_lt HL.out, by rw [HP.out, pow_step], by go_num, by rw [HN.out (by omega)], by go_num, HMORE.out (by omega) (by omega)⟩
                case measure => simp [intOf]; omega
            · by_cases hz : cc.toNat = 0
              · have ht : ((cc.toNat : Int) == 0) = true := by simpa using hz
                have HZ := hidden hz
                clear hz
                go_wp2
                go_ret3
                rw [HBAD.out (.inr ⟨by omega, HZ.out⟩)]
                exact ⟨rfl, rfl⟩
              · have ht : ((cc.toNat : Int) == 0) = false := by simpa using hz
                by_cases hend : cc.toNat < 128
                · go_wp2
                  go_ret3
                  rw [HGOOD.out (by omega) (by omega)]
                  exact ⟨ret3_eq (HN.out (by omega)) (by simp) rfl, rfl⟩
                · go_wp2
                  go_round
                  case rel => exact ⟨_, _, _, _, _, _, ⟨k + 1, x + cc.toNat % 128 * 128 ^ k, p * 128, by omega, by omega, sum_lt HL.out, by rw [HP.out, pow_step], by go_num, by rw [HN.out (by omega)], by go_num, HMORE.out (by omega) (by omega)⟩, rfl, rfl, rfl, rfl, rfl, rfl⟩
                  case measure => simp [intOf]; omega
        · have hke : o + k = l.length := by omega
          have HR : Hid (dcd l (o : Int) = (0, 0, 2)) := by
            show dcd l (o : Int) = _
            rw [dcd_ok HB.out (n := 0) (k := 0) (e := 2) (by rw [Int.toNat_natCast, HX.out, hke, List.drop_length, dec_end])]; rfl
          clear HX HB hke
          go_wp2
          go_ret3
          rw [HR.out]
          exact ⟨rfl, rfl⟩

end Go.Proofs.Ytgmjoghgmcjebaa
