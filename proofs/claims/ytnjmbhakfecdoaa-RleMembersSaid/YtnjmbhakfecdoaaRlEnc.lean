/-
  Run-length encoding over lists: the encoding of runs, its decoding, their inverses. Lists and sums; no walk.
-/
import Derived.Test.YtnjmbhakfecdoaaRlNum
import Derived.Test.YtnjmbhakfecdoaaDecNum
import Derived.Test.YtnjmbhakfecdoaaEncNum
import Derived.Test.YtnjmbhakfecdoaaZig
import Derived.Test.YtnjmbhakfecdoaaLdNum
namespace Go.Proofs.Ytnjmbhakfecdoaa
open Go.RowKit
set_option linter.unusedVariables false
set_option linter.unusedSimpArgs false

def in64 (x : Int) : Prop := -9223372036854775808 ≤ x ∧ x ≤ 9223372036854775807
def difR (x last : Int) : Int := wrap64 (x - last)
theorem difR_in (x last : Int) : in64 (difR x last) := by unfold difR in64 wrap64; omega
theorem dif_add {x last : Int} (hx : in64 x) (hl : in64 last) : wrap64 (last + difR x last) = x := by unfold difR in64 wrap64 at *; omega
theorem dif_zero {x last : Int} (hx : in64 x) (hl : in64 last) : difR x last = 0 ↔ x = last := by unfold difR in64 wrap64 at *; omega
theorem add_dif {d last : Int} (hd : in64 d) (hl : in64 last) : difR (wrap64 (last + d)) last = d := by unfold difR in64 wrap64 at *; omega
theorem wrap_in (x : Int) : in64 (wrap64 x) := by unfold in64 wrap64; omega
theorem zz_zero {n : Int} : zz n = 0 ↔ n = 0 := by unfold zz; split <;> omega
def zd (x last : Int) : Nat := (zz (difR x last)).toNat
theorem zd_bd (x last : Int) : zz (difR x last) = (zd x last : Int) ∧ zd x last < 18446744073709551616 := by
  have h1 := difR_in x last
  have h2 := zz_bd (difR x last) h1.1 (by have := h1.2; omega)
  unfold zd
  omega
def encRs : Int → List Rn → List UInt8
  | _, [] => []
  | last, x :: l => enc (zd x.1 last) ++ (enc x.2.toNat ++ encRs x.1 l)
def encR (l : List Rn) : List UInt8 := enc l.length ++ encRs 0 l
def finR (out : List Rn) (r : List Rn × Int × Int) : List Rn × Int × Int := if r.2.2 = 0 then (out ++ r.1, r.2.1, 0) else ([], 0, r.2.2)
def decRs (b : List UInt8) : Nat → Bool → Int → Int → Int → List Rn × Int × Int
  | 0, _, _, _, p => ([], p, 0)
  | n + 1, first, last, left, p =>
    if (dcd b p).2.2 ≠ 0 then ([], 0, (dcd b p).2.2)
    else if (dcd b p).1 = 0 ∧ first = false then ([], 0, 4)
    else if (dcd b (dcd b p).2.1).2.2 ≠ 0 then ([], 0, (dcd b (dcd b p).2.1).2.2)
    else if (dcd b (dcd b p).2.1).1 = 0 ∨ left < (dcd b (dcd b p).2.1).1 then ([], 0, 6)
    else finR [(wrap64 (last + uz (dcd b p).1), (dcd b (dcd b p).2.1).1)] (decRs b n false (wrap64 (last + uz (dcd b p).1)) (left - (dcd b (dcd b p).2.1).1) (dcd b (dcd b p).2.1).2.1)
def dcR (b : List UInt8) (off : Int) : List Rn × Int × Int :=
  if (dcd b off).2.2 ≠ 0 then ([], 0, (dcd b off).2.2) else if 65536 < (dcd b off).1 then ([], 0, 6) else decRs b (dcd b off).1.toNat true 0 65536 (dcd b off).2.1
theorem finR_nil (r : List Rn × Int × Int) (h : r.2.2 ≠ 0 → r.1 = [] ∧ r.2.1 = 0) : finR [] r = r := by
  unfold finR
  split
  · rename_i h0
    obtain ⟨a, b, c⟩ := r
    simp only at h0
    subst h0
    rfl
  · rename_i h0
    obtain ⟨h1, h2⟩ := h h0
    obtain ⟨a, b, c⟩ := r
    simp only at h1 h2
    subst h1 h2
    rfl
theorem finR_cons (out : List Rn) (x : Rn) (r : List Rn × Int × Int) : finR out (finR [x] r) = finR (out ++ [x]) r := by
  by_cases h : r.2.2 = 0
  · have e : finR [x] r = ([x] ++ r.1, r.2.1, 0) := by unfold finR; rw [if_pos h]
    rw [e]
    unfold finR
    rw [if_pos rfl, if_pos h, List.append_assoc]
  · have e : finR [x] r = ([], 0, r.2.2) := by unfold finR; rw [if_neg h]
    rw [e]
    unfold finR
    rw [if_neg h, if_neg h]
theorem finR_err (out : List Rn) (e : Int) (h : e ≠ 0) : finR out ([], 0, e) = ([], 0, e) := by unfold finR; rw [if_neg h]
theorem decRs_err (b : List UInt8) : ∀ (n : Nat) (first : Bool) (last left p : Int), (decRs b n first last left p).2.2 ≠ 0 → (decRs b n first last left p).1 = [] ∧ (decRs b n first last left p).2.1 = 0
  | 0, _, _, _, _, h => absurd rfl h
  | n + 1, first, last, left, p, h => by
    rw [decRs] at h ⊢
    split
    · exact ⟨rfl, rfl⟩
    · split
      · exact ⟨rfl, rfl⟩
      · split
        · exact ⟨rfl, rfl⟩
        · split
          · exact ⟨rfl, rfl⟩
          · rename_i h1 h2 h3 h4
            rw [if_neg h1, if_neg h2, if_neg h3, if_neg h4] at h
            unfold finR at h ⊢
            split
            · rename_i h5
              rw [if_pos h5] at h
              exact absurd rfl h
            · exact ⟨rfl, rfl⟩
/-- runs that may follow 'last' while 'left' elements are left -/
def okFrom : Bool → Int → Int → List Rn → Prop
  | _, _, _, [] => True
  | first, last, left, x :: l => (1 ≤ x.2 ∧ x.2 ≤ left) ∧ (first = false → x.1 ≠ last) ∧ okFrom false x.1 (left - x.2) l
theorem okFrom_iff : ∀ (l : List Rn) (first : Bool) (last left : Int), okFrom first last left l ↔ ∀ j, (hj : j < l.length) → (1 ≤ l[j].2 ∧ l[j].2 ≤ left - sumC (l.take j)) ∧ (0 < j → ∀ h2 : j - 1 < l.length, l[j - 1].1 ≠ l[j].1) ∧ (j = 0 → first = false → l[j].1 ≠ last)
  | [], _, _, _ => ⟨fun _ j hj => absurd hj (by simp), fun _ => trivial⟩
  | x :: l, first, last, left => by
    rw [okFrom, okFrom_iff l false x.1 (left - x.2)]
    constructor
    · rintro ⟨h1, h2, h3⟩ j hj
      cases j with
      | zero => exact ⟨by simpa [sumC_nil] using h1, fun h => absurd h (by omega), fun _ hf => h2 hf⟩
      | succ j =>
        have hj' : j < l.length := by simpa using hj
        obtain ⟨h4, h5, h6⟩ := h3 j hj'
        simp only [List.getElem_cons_succ, List.take_succ_cons, sumC_cons]
        refine ⟨by omega, fun _ h7 => ?_, fun h => absurd h (by omega)⟩
        cases j with
        | zero => exact fun e => h6 rfl rfl e.symm
        | succ j =>
          have h8 := h5 (by omega) (by omega)
          simpa using h8
    · intro h
      have h0 := h 0 (by simp)
      refine ⟨by simpa [sumC_nil] using h0.1, fun hf => h0.2.2 rfl hf, fun j hj => ?_⟩
      have h1 := h (j + 1) (by simpa using hj)
      simp only [List.getElem_cons_succ, List.take_succ_cons, sumC_cons] at h1
      refine ⟨by omega, fun h0 h2 => ?_, fun h0 _ => ?_⟩
      · have h3 := h1.2.1 (by omega) (by simp; omega)
        cases j with
        | zero => omega
        | succ j => simpa using h3
      · subst h0
        have h3 : x.1 ≠ l[0].1 := h1.2.1 (by omega) (by simp)
        exact fun e => h3 e.symm
theorem validR_from {l : List Rn} : validR l = true ↔ okFrom true 0 65536 l := by
  rw [okFrom_iff, validR_iff]
  constructor
  · intro h j hj
    have h1 := (okRun_iff hj).1 (h j hj)
    exact ⟨⟨h1.1, h1.2.1⟩, h1.2.2, fun _ hf => by cases hf⟩
  · intro h j hj
    obtain ⟨⟨h1, h2⟩, h3, _⟩ := h j hj
    exact (okRun_iff hj).2 ⟨h1, h2, h3⟩
theorem dcdR_at {b pre post : List UInt8} {n : Nat} (hb : b = pre ++ (enc n ++ post)) (hn : n < 18446744073709551616) : dcd b (pre.length : Int) = ((n : Int), ((pre.length + (enc n).length : Nat) : Int), 0) := by
  have h := dcd_ok (l := b) (off := (pre.length : Int)) (by rw [hb]; simp; omega) (n := n) (k := esz n) (e := 0) (by
    rw [hb, Int.toNat_natCast, List.drop_left]
    exact dec_enc hn post)
  rw [h, enc_length hn]
  simp
/-- what was encoded is decoded -/
theorem decRs_enc {b : List UInt8} : ∀ (l : List Rn) (first : Bool) (last left : Int) (pre post : List UInt8), b = pre ++ (encRs last l ++ post) → in64 last → (∀ x ∈ l, in64 x.1) → left ≤ 65536 → okFrom first last left l →
    decRs b l.length first last left (pre.length : Int) = (l, ((pre.length + (encRs last l).length : Nat) : Int), 0)
  | [], _, _, _, _, _, _, _, _, _, _ => rfl
  | x :: l, first, last, left, pre, post, hb, hl, hin, hleft, hok => by
    obtain ⟨⟨h1, h2⟩, h3, h4⟩ := hok
    have hx := hin x (List.mem_cons_self ..)
    obtain ⟨hz1, hz2⟩ := zd_bd x.1 last
    have hc : x.2.toNat < 18446744073709551616 := by omega
    rw [encRs] at hb
    have d1 := dcdR_at (b := b) (pre := pre) (post := enc x.2.toNat ++ encRs x.1 l ++ post) (n := zd x.1 last) (by rw [hb]; simp) hz2
    have d2 := dcdR_at (b := b) (pre := pre ++ enc (zd x.1 last)) (post := encRs x.1 l ++ post) (n := x.2.toNat) (by rw [hb]; simp) hc
    rw [List.length_append] at d2
    have ih := decRs_enc (b := b) l false x.1 (left - x.2) (pre ++ enc (zd x.1 last) ++ enc x.2.toNat) post (by rw [hb]; simp) hx (fun y hy => hin y (List.mem_cons_of_mem _ hy)) (by omega) h4
    have e2 : ((x.2.toNat : Nat) : Int) = x.2 := by omega
    have ev : wrap64 (last + uz ((zd x.1 last : Nat) : Int)) = x.1 := by rw [← hz1, uz_zz]; exact dif_add hx hl
    have ez : ¬ (((zd x.1 last : Nat) : Int) = 0 ∧ first = false) := by
      rintro ⟨h5, h6⟩
      rw [← hz1] at h5
      exact h3 h6 ((dif_zero hx hl).1 (zz_zero.1 h5))
    rw [List.length_cons, decRs, d1]
    simp only
    rw [if_neg (by simp), if_neg ez, d2]
    simp only
    rw [if_neg (by simp), if_neg (by omega), ev, e2]
    rw [List.length_append, List.length_append] at ih
    rw [ih, encRs]
    unfold finR
    rw [if_pos rfl]
    simp only [List.singleton_append, List.length_append]
    congr 2
    omega
/-- what is accepted is the encoding of what was decoded -/
theorem dcd_acc {b : List UInt8} {o : Nat} (ho : o ≤ b.length) (he : (dcd b (o : Int)).2.2 = 0) :
    ∃ n k : Nat, dcd b (o : Int) = ((n : Int), ((o + k : Nat) : Int), 0) ∧ o + k ≤ b.length ∧ 1 ≤ k ∧ enc n = (b.drop o).take k := by
  obtain ⟨n, k, e, h⟩ : ∃ n k e, dec 0 0 (b.drop (o : Int).toNat) = (n, k, e) := ⟨_, _, _, rfl⟩
  have h1 := dcd_ok (l := b) (off := (o : Int)) (by omega) h
  rw [h1] at he
  have he0 : e = 0 := by have : (e : Int) = 0 := he; omega
  subst he0
  have h3 := enc_dec h
  rw [Int.toNat_natCast] at h3
  have hl : (b.drop o).length = b.length - o := List.length_drop
  refine ⟨n, k, ?_, by omega, h3.2.1, h3.1⟩
  rw [h1]
  rfl
theorem take_glue {b : List UInt8} {o k m : Nat} : (b.drop o).take k ++ (b.drop (o + k)).take m = (b.drop o).take (k + m) := by
  rw [List.take_add, List.drop_drop]
theorem uz_in {n : Nat} (h : n < 18446744073709551616) : in64 (uz (n : Int)) := by
  have := uz_bd (n : Int) (by omega) (by omega)
  unfold in64
  omega
theorem dcd_num {b : List UInt8} {o : Nat} (ho : o ≤ b.length) (he : (dcd b (o : Int)).2.2 = 0) :
    ∃ n k : Nat, dcd b (o : Int) = ((n : Int), ((o + k : Nat) : Int), 0) ∧ o + k ≤ b.length ∧ 1 ≤ k ∧ enc n = (b.drop o).take k ∧ n < 18446744073709551616 := by
  obtain ⟨n, k, h1, h2, h3, h4⟩ := dcd_acc ho he
  refine ⟨n, k, h1, h2, h3, h4, ?_⟩
  obtain ⟨n', k', e', h⟩ : ∃ n k e, dec 0 0 (b.drop (o : Int).toNat) = (n, k, e) := ⟨_, _, _, rfl⟩
  have h5 := dcd_ok (l := b) (off := (o : Int)) (by omega) h
  rw [h5] at h1
  have h6 : ((n' : Nat) : Int) = (n : Int) := congrArg Prod.fst h1
  have h7 := dec_lt _ 0 0 n' k' e' (by omega) (by decide) h
  omega
theorem decRs_acc {b : List UInt8} : ∀ (n : Nat) (first : Bool) (last left : Int) (o : Nat), o ≤ b.length → in64 last → left ≤ 65536 → (decRs b n first last left (o : Int)).2.2 = 0 →
    ∃ k : Nat, (decRs b n first last left (o : Int)).2.1 = ((o + k : Nat) : Int) ∧ o + k ≤ b.length ∧ (decRs b n first last left (o : Int)).1.length = n ∧ okFrom first last left (decRs b n first last left (o : Int)).1 ∧ (∀ x ∈ (decRs b n first last left (o : Int)).1, in64 x.1) ∧ encRs last (decRs b n first last left (o : Int)).1 = (b.drop o).take k
  | 0, _, _, _, o, ho, _, _, _ => ⟨0, rfl, ho, rfl, trivial, (fun x hx => nomatch hx), by simp [encRs, decRs]⟩
  | n + 1, first, last, left, o, ho, hl, hleft, he => by
    rw [decRs] at he ⊢
    by_cases e1 : (dcd b (o : Int)).2.2 = 0
    · obtain ⟨d, k, hd, hk, hk1, henc, hd64⟩ := dcd_num ho e1
      rw [hd] at he ⊢
      simp only at he ⊢
      rw [if_neg (by simp)] at he ⊢
      by_cases e2 : ((d : Nat) : Int) = 0 ∧ first = false
      · rw [if_pos e2] at he; cases he
      · rw [if_neg e2] at he ⊢
        by_cases e3 : (dcd b ((o + k : Nat) : Int)).2.2 = 0
        · obtain ⟨c, m, hc, hm, hm1, henc2, hc64⟩ := dcd_num hk e3
          rw [hc] at he ⊢
          simp only at he ⊢
          rw [if_neg (by simp)] at he ⊢
          by_cases e4 : ((c : Nat) : Int) = 0 ∨ left < ((c : Nat) : Int)
          · rw [if_pos e4] at he; cases he
          · rw [if_neg e4] at he ⊢
            have hv := wrap_in (last + uz (d : Int))
            have ih := decRs_acc (b := b) n false (wrap64 (last + uz (d : Int))) (left - (c : Int)) (o + k + m) hm hv (by omega)
            generalize hR : decRs b n false (wrap64 (last + uz (d : Int))) (left - (c : Int)) ((o + k + m : Nat) : Int) = R at *
            have eR : R.2.2 = 0 := by
              unfold finR at he
              split at he
              · assumption
              · rename_i h5; exact absurd he h5
            obtain ⟨k', h1, h2, h3, h4, h5, h6⟩ := ih eR
            have hf : finR [(wrap64 (last + uz (d : Int)), (c : Int))] R = ((wrap64 (last + uz (d : Int)), (c : Int)) :: R.1, R.2.1, 0) := by unfold finR; rw [if_pos eR]; rfl
            have hdif : difR (wrap64 (last + uz (d : Int))) last = uz (d : Int) := add_dif (uz_in hd64) hl
            have hzd : zd (wrap64 (last + uz (d : Int))) last = d := by unfold zd; rw [hdif, zz_uz _ (by omega)]; rfl
            rw [hf]
            refine ⟨k + (m + k'), by rw [h1]; congr 1; omega, by omega, by simp [h3], ⟨⟨by omega, by omega⟩, fun hff e => ?_, h4⟩, ?_, ?_⟩
            · apply e2
              refine ⟨?_, hff⟩
              have h7 := (dif_zero hv hl).2 e
              rw [hdif] at h7
              have h8 := zz_uz (d : Int) (by omega)
              rw [h7] at h8
              rw [← h8]
              rfl
            · intro x hx
              rcases List.mem_cons.1 hx with rfl | hx
              · exact hv
              · exact h5 x hx
            · simp only [encRs]
              rw [hzd, h6, Int.toNat_natCast, henc, henc2, Nat.add_assoc o k m, ← Nat.add_assoc o k m, take_glue, take_glue]
        · rw [if_pos e3] at he; exact absurd he e3
    · rw [if_pos e1] at he; exact absurd he e1
theorem dcR_enc {l : List Rn} (hv : validR l = true) (hin : ∀ x ∈ l, in64 x.1) (pre post : List UInt8) :
    dcR (pre ++ (encR l ++ post)) (pre.length : Int) = (l, ((pre.length + (encR l).length : Nat) : Int), 0) := by
  have hlen := valid_length hv
  have h1 := dcdR_at (b := pre ++ (encR l ++ post)) (pre := pre) (post := encRs 0 l ++ post) (n := l.length) (by unfold encR; simp) (by omega)
  have h2 := decRs_enc (b := pre ++ (encR l ++ post)) l true 0 65536 (pre ++ enc l.length) post (by unfold encR; simp) (by unfold in64; omega) hin (Int.le_refl _) (validR_from.1 hv)
  rw [List.length_append] at h2
  unfold dcR
  rw [h1]
  simp only
  rw [if_neg (by simp), if_neg (by omega), Int.toNat_natCast, h2]
  unfold encR
  rw [List.length_append]
  congr 2
  omega
theorem dcR_err (b : List UInt8) (off : Int) (h : (dcR b off).2.2 ≠ 0) : (dcR b off).1 = [] ∧ (dcR b off).2.1 = 0 := by
  unfold dcR at h ⊢
  split
  · exact ⟨rfl, rfl⟩
  · split
    · exact ⟨rfl, rfl⟩
    · rename_i h1 h2
      rw [if_neg h1, if_neg h2] at h
      exact decRs_err b _ _ _ _ _ h
theorem dcR_acc {b : List UInt8} {off : Int} (h : (dcR b off).2.2 = 0) :
    ∃ o k : Nat, off = (o : Int) ∧ (dcR b off).2.1 = ((o + k : Nat) : Int) ∧ o + k ≤ b.length ∧ validR (dcR b off).1 = true ∧ (∀ x ∈ (dcR b off).1, in64 x.1) ∧ encR (dcR b off).1 = (b.drop o).take k := by
  unfold dcR at h ⊢
  by_cases e1 : (dcd b off).2.2 = 0
  · rw [if_neg (by simpa using e1)] at h ⊢
    by_cases hoff : off < 0 ∨ (b.length : Int) < off
    · rw [dcd_bad hoff] at e1; cases e1
    · obtain ⟨o, rfl⟩ := Int.eq_ofNat_of_zero_le (show 0 ≤ off by omega)
      obtain ⟨n, k, hd, hk, hk1, henc, hn⟩ := dcd_num (show o ≤ b.length by omega) e1
      rw [hd] at h ⊢
      simp only at h ⊢
      by_cases e2 : 65536 < ((n : Nat) : Int)
      · rw [if_pos e2] at h; cases h
      · rw [if_neg e2] at h ⊢
        rw [Int.toNat_natCast] at h ⊢
        obtain ⟨k', h1, h2, h3, h4, h5, h6⟩ := decRs_acc n true 0 65536 (o + k) hk (by unfold in64; omega) (Int.le_refl _) h
        refine ⟨o, k + k', rfl, by rw [h1]; congr 1; omega, by omega, validR_from.2 h4, h5, ?_⟩
        unfold encR
        rw [h3, henc, h6, take_glue]
  · rw [if_pos e1] at h; exact absurd h e1
theorem encR_len_le (l : List Rn) : (encR l).length ≤ 10 + 20 * l.length := by
  have e10 : ∀ n, (enc n).length ≤ 10 := fun n => by
    have h : ∀ f n, (encF f n).length ≤ f := by
      intro f
      induction f with
      | zero => intro n; simp [encF]
      | succ f ih =>
        intro n
        by_cases hn : n < 128
        · rw [encF_last hn]; simp
        · rw [encF_more hn, List.length_cons]; have := ih (n / 128); omega
    exact h 10 n
  have hs : ∀ (l : List Rn) (last : Int), (encRs last l).length ≤ 20 * l.length := by
    intro l
    induction l with
    | nil => intro last; simp [encRs]
    | cons x l ih =>
      intro last
      rw [encRs, List.length_append, List.length_append, List.length_cons]
      have h1 := e10 (zd x.1 last)
      have h2 := e10 x.2.toNat
      have h3 := ih x.1
      omega
  unfold encR
  rw [List.length_append]
  have h1 := e10 l.length
  have h2 := hs l 0
  omega
end Go.Proofs.Ytnjmbhakfecdoaa
