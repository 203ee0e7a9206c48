/-
  Texts that the claims of this seat share, put together (ZmOrd, SkNum, SkFen, SkBld). No condition.
-/
import Derived.Test.YtoaklmceejeblaaGreatM10
import Derived.Lib.Bytealg
/-
  Shaken: what the claims of this seat need of this text. No condition.
-/
namespace Go.Proofs.YtoaklmceejeblaaGreat
set_option maxRecDepth 8000
open Go.RowKit
set_option linter.unusedVariables false
set_option linter.unusedSimpArgs false
theorem cb_cons (c d : UInt8) (l m : List UInt8) : Lib.compareBytes (c :: l) (d :: m) = if c.toNat < d.toNat then -1 else if d.toNat < c.toNat then 1 else Lib.compareBytes l m := by
  rw [Lib.compareBytes]
  simp only [UInt8.lt_iff_toNat_lt]
theorem cb_anti : ∀ l m : List UInt8, Lib.compareBytes m l = - Lib.compareBytes l m
  | [], [] => rfl
  | [], _ :: _ => rfl
  | _ :: _, [] => rfl
  | c :: l, d :: m => by
    have ih := cb_anti l m
    rw [cb_cons, cb_cons]
    by_cases h1 : c.toNat < d.toNat
    · rw [if_pos h1, if_neg (by omega), if_pos h1]
      rfl
    · by_cases h2 : d.toNat < c.toNat
      · rw [if_pos h2, if_neg h1, if_pos h2]
      · rw [if_neg h1, if_neg h2, if_neg h2, if_neg h1]
        exact ih
theorem cb_trans : ∀ a b c : List UInt8, Lib.compareBytes a b ≤ 0 → Lib.compareBytes b c ≤ 0 → Lib.compareBytes a c ≤ 0
  | [], _, [], _, _ => by simp [Lib.compareBytes]
  | [], _, _ :: _, _, _ => by simp [Lib.compareBytes]
  | _ :: _, [], _, h, _ => by simp [Lib.compareBytes] at h
  | _ :: _, _ :: _, [], _, h => by simp [Lib.compareBytes] at h
  | x :: a, y :: b, z :: c, h1, h2 => by
    have ih := cb_trans a b c
    rw [cb_cons] at h1 h2 ⊢
    by_cases p : x.toNat < z.toNat
    · rw [if_pos p]; decide
    by_cases q : z.toNat < x.toNat
    · exfalso
      by_cases p1 : x.toNat < y.toNat
      · rw [if_neg (by omega), if_pos (by omega)] at h2
        omega
      · by_cases p2 : y.toNat < x.toNat
        · rw [if_neg p1, if_pos p2] at h1
          omega
        · rw [if_neg (by omega), if_pos (by omega)] at h2
          omega
    · rw [if_neg p, if_neg q]
      by_cases p1 : x.toNat < y.toNat
      · rw [if_neg (by omega), if_pos (by omega)] at h2
        omega
      · by_cases p2 : y.toNat < x.toNat
        · rw [if_neg p1, if_pos p2] at h1
          omega
        · rw [if_neg p1, if_neg p2] at h1
          rw [if_neg (by omega), if_neg (by omega)] at h2
          exact ih h1 h2
theorem cb_zero : ∀ {a b : List UInt8}, Lib.compareBytes a b = 0 → a = b
  | [], [], _ => rfl
  | [], _ :: _, h => by simp [Lib.compareBytes] at h
  | _ :: _, [], h => by simp [Lib.compareBytes] at h
  | c :: l, d :: m, h => by
    rw [cb_cons] at h
    by_cases p : c.toNat < d.toNat
    · rw [if_pos p] at h; cases h
    by_cases q : d.toNat < c.toNat
    · rw [if_neg p, if_pos q] at h; cases h
    rw [if_neg p, if_neg q] at h
    rw [cb_zero h, UInt8.toNat_inj.1 (show c.toNat = d.toNat by omega)]
theorem cb_tri : ∀ (a b : List UInt8), Lib.compareBytes a b = sgnV (Op.bytesLess a b) (!Op.bytesLess a b && !a == b)
  | [], [] => rfl
  | [], _ :: _ => rfl
  | _ :: _, [] => rfl
  | x :: a, y :: b => by
    have ih := cb_tri a b
    rw [Lib.compareBytes, Op.bytesLess]
    by_cases h1 : x < y
    · simp [h1, sgnV]
    · by_cases h2 : y < x
      · have hne : (x == y) = false := by
          rw [beq_eq_false_iff_ne]
          rintro rfl
          exact h1 h2
        have hne' : ¬ (x :: a = y :: b) := by
          intro h
          injection h with h _
          subst h
          exact h1 h2
        simp [h1, h2, hne, sgnV, hne']
      · have he : x = y := UInt8.le_antisymm (UInt8.not_lt.1 h2) (UInt8.not_lt.1 h1)
        subst he
        simp only [h1, if_false, ih, decide_false, Bool.false_or, beq_self_eq_true, Bool.true_and]
        congr 2
        rw [Bool.eq_iff_iff]
        simp
theorem sgnV_bd (a b : Bool) : -1 ≤ sgnV a b ∧ sgnV a b ≤ 1 := by cases a <;> cases b <;> decide
def cmpX (x y : Val) : Int := cmpV x.k x.n x.t y.k y.n y.t
def okX (x : Val) : Prop := validV x.k x.n x.t = true
def nulX : Val := ⟨0, 0, ⟨#[]⟩⟩
theorem cmpX_bd (x y : Val) : -1 ≤ cmpX x y ∧ cmpX x y ≤ 1 := by
  unfold cmpX cmpV
  split
  · split <;> exact sgnV_bd _ _
  · exact sgnV_bd _ _
theorem cmpX_text {x y : Val} (hk : x.k = y.k) (h3 : x.k = 3) : cmpX x y = Lib.compareBytes x.t.data.toList y.t.data.toList := by
  unfold cmpX cmpV
  rw [if_pos hk, if_pos h3, cb_tri, gtS, ByteArray.toList_eq, ByteArray.toList_eq]
theorem cmpX_num {x y : Val} (hk : x.k = y.k) (h3 : x.k ≠ 3) : cmpX x y = sgnV (decide (x.n < y.n)) (decide (y.n < x.n)) := by
  unfold cmpX cmpV
  rw [if_pos hk, if_neg h3]
theorem cmpX_anti {x y : Val} (hk : x.k = y.k) : cmpX y x = - cmpX x y := by
  by_cases h3 : x.k = 3
  · rw [cmpX_text hk h3, cmpX_text hk.symm (by omega)]; exact cb_anti _ _
  · rw [cmpX_num hk h3, cmpX_num hk.symm (by omega)]
    unfold sgnV
    by_cases h1 : x.n < y.n
    · have h2 : ¬ y.n < x.n := by omega
      simp [h1, h2]
    · by_cases h2 : y.n < x.n
      · simp [h1, h2]
      · simp [h1, h2]
theorem cmpX_refl (x : Val) : cmpX x x = 0 := by have := cmpX_anti (x := x) (y := x) rfl; omega
theorem cmpX_trans {x y z : Val} (h1 : x.k = y.k) (h2 : y.k = z.k) (a : cmpX x y ≤ 0) (b : cmpX y z ≤ 0) : cmpX x z ≤ 0 := by
  by_cases h3 : x.k = 3
  · rw [cmpX_text h1 h3] at a
    rw [cmpX_text h2 (by omega)] at b
    rw [cmpX_text (by omega) h3]
    exact cb_trans _ _ _ a b
  · rw [cmpX_num h1 h3] at a
    rw [cmpX_num h2 (by omega)] at b
    rw [cmpX_num (by omega) h3]
    unfold sgnV at *
    simp only [decide_eq_true_eq] at *
    split at a <;> split at b <;> split <;> (try split at a) <;> (try split at b) <;> (try split) <;> omega
theorem valid_k {k n : Int} {t : ByteArray} (h : validV k n t = true) : k = 0 ∨ k = 1 ∨ k = 2 ∨ k = 3 := by
  unfold validV at h
  by_cases h0 : k = 0
  · exact .inl h0
  by_cases h1 : k = 1
  · exact .inr (.inl h1)
  by_cases h2 : k = 2
  · exact .inr (.inr (.inl h2))
  by_cases h3 : k = 3
  · exact .inr (.inr (.inr h3))
  simp [h0, h1, h2, h3] at h
theorem bytes_nil {t : ByteArray} (h : t.toList.isEmpty = true) : t = ⟨#[]⟩ := by
  rw [ByteArray.toList_eq] at h
  obtain ⟨d⟩ := t
  have : d.toList = [] := by simpa using h
  congr
  exact Array.toList_inj.1 this
theorem okX_num {x : Val} (h : okX x) (h3 : x.k ≠ 3) : x.t = ⟨#[]⟩ := by
  have hk := valid_k h
  unfold okX validV at h
  rcases hk with hk | hk | hk | hk
  · rw [if_pos hk] at h; exact bytes_nil (Bool.and_eq_true_iff.1 h).2
  · rw [if_neg (by omega), if_pos hk] at h; exact bytes_nil (Bool.and_eq_true_iff.1 h).2
  · rw [if_neg (by omega), if_neg (by omega), if_pos hk] at h; exact bytes_nil h
  · exact absurd hk h3
theorem okX_text {x : Val} (h : okX x) (h3 : x.k = 3) : x.n = 0 ∧ x.t.size ≤ 4096 := by
  unfold okX validV at h
  rw [if_neg (by omega), if_neg (by omega), if_neg (by omega), if_pos h3] at h
  simpa using h
theorem cmpX_zero {x y : Val} (hx : okX x) (hy : okX y) (hk : x.k = y.k) (h : cmpX x y = 0) : x = y := by
  obtain ⟨k, n, t⟩ := x
  obtain ⟨k', n', t'⟩ := y
  simp only at hk
  subst hk
  by_cases h3 : k = 3
  · have h := (cmpX_text (x := ⟨k, n, t⟩) (y := ⟨k, n', t'⟩) rfl h3).symm.trans h
    have e := cb_zero h
    have h1 := okX_text hx h3
    have h2 := okX_text hy h3
    simp only at h1 h2 e
    rw [h1.1, h2.1]
    obtain ⟨d⟩ := t
    obtain ⟨d'⟩ := t'
    have e : d.toList = d'.toList := e
    rw [Array.toList_inj.1 e]
  · have e1 := okX_num hx h3
    have e2 := okX_num hy h3
    simp only at e1 e2
    have h := (cmpX_num (x := ⟨k, n, t⟩) (y := ⟨k, n', t'⟩) rfl h3).symm.trans h
    unfold sgnV at h
    simp only [decide_eq_true_eq] at h
    rw [e1, e2]
    split at h
    · cases h
    · split at h
      · cases h
      · rw [show n = n' by omega]
theorem cmpX_lt_trans {x y z : Val} (h1 : x.k = y.k) (h2 : y.k = z.k) (hx : okX x) (hy : okX y) (hz : okX z) (a : cmpX x y < 0) (b : cmpX y z ≤ 0) : cmpX x z < 0 := by
  have h := cmpX_trans h1 h2 (by omega) b
  have hb := cmpX_bd x z
  by_cases e : cmpX x z = 0
  · have := cmpX_zero hx hz (by omega) e
    subst this
    have := cmpX_anti h1
    omega
  · omega
theorem cmpX_le_lt {x y z : Val} (h1 : x.k = y.k) (h2 : y.k = z.k) (hx : okX x) (hy : okX y) (hz : okX z) (a : cmpX x y ≤ 0) (b : cmpX y z < 0) : cmpX x z < 0 := by
  have h := cmpX_trans h1 h2 a (by omega)
  by_cases e : cmpX x z = 0
  · have := cmpX_zero hx hz (by omega) e
    subst this
    have := cmpX_anti h1
    omega
  · omega
end Go.Proofs.YtoaklmceejeblaaGreat
/-
  Shaken: what the claims of this seat need of this text. No condition.
-/
namespace Go.Proofs.YtoaklmceejeblaaGreat
set_option maxRecDepth 8000
open Go.RowKit
set_option linter.unusedVariables false
set_option linter.unusedSimpArgs false
theorem snoc_ind {α : Type} {P : List α → Prop} (h0 : P []) (h1 : ∀ l x, P l → P (l ++ [x])) : ∀ l, P l := fun l => by
  rw [← List.reverse_reverse l]
  induction l.reverse with
  | nil => exact h0
  | cons x r ih => rw [List.reverse_cons]; exact h1 _ _ ih
structure Sk where
  rows : Int
  nulls : Int
  hs : List Nat
  ok : Bool
  cm : List Int
  fs : List Val
  rk : List Int
def insH (h : Nat) : List Nat → List Nat
  | [] => [h]
  | x :: r => if h < x then h :: x :: r else if h = x then x :: r else x :: insH h r
theorem insH_mem {h y : Nat} : ∀ {l : List Nat}, y ∈ insH h l ↔ y = h ∨ y ∈ l
  | [] => by simp [insH]
  | x :: r => by
    unfold insH
    split
    · simp
    · split
      · rename_i _ e
        subst e
        simp
      · simp only [List.mem_cons, insH_mem (l := r)]
        constructor
        · rintro (h1 | h1 | h1)
          · exact .inr (.inl h1)
          · exact .inl h1
          · exact .inr (.inr h1)
        · rintro (h1 | h1 | h1)
          · exact .inr (.inl h1)
          · exact .inl h1
          · exact .inr (.inr h1)
theorem insH_inc {h : Nat} : ∀ {l : List Nat}, l.Pairwise (· < ·) → (insH h l).Pairwise (· < ·)
  | [], _ => by simp [insH]
  | x :: r, hp => by
    obtain ⟨h1, h2⟩ := List.pairwise_cons.1 hp
    unfold insH
    split
    · rename_i hx
      refine List.pairwise_cons.2 ⟨fun y hy => ?_, hp⟩
      rcases List.mem_cons.1 hy with rfl | hy
      · exact hx
      · exact Nat.lt_trans hx (h1 y hy)
    · split
      · exact hp
      · refine List.pairwise_cons.2 ⟨fun y hy => ?_, insH_inc h2⟩
        rcases insH_mem.1 hy with rfl | hy
        · omega
        · exact h1 y hy
theorem inc_ext : ∀ {a b : List Nat}, a.Pairwise (· < ·) → b.Pairwise (· < ·) → (∀ x, x ∈ a ↔ x ∈ b) → a = b
  | [], [], _, _, _ => rfl
  | [], y :: b, _, _, h => absurd ((h y).2 (by simp)) (by simp)
  | x :: a, [], _, _, h => absurd ((h x).1 (by simp)) (by simp)
  | x :: a, y :: b, ha, hb, h => by
    obtain ⟨a1, a2⟩ := List.pairwise_cons.1 ha
    obtain ⟨b1, b2⟩ := List.pairwise_cons.1 hb
    have e : x = y := by
      have h1 := (h x).1 (by simp)
      have h2 := (h y).2 (by simp)
      rcases List.mem_cons.1 h1 with h1 | h1
      · exact h1
      · rcases List.mem_cons.1 h2 with h2 | h2
        · exact h2.symm
        · have := a1 y h2
          have := b1 x h1
          omega
    subst e
    congr 1
    refine inc_ext a2 b2 fun z => ⟨fun hz => ?_, fun hz => ?_⟩
    · rcases List.mem_cons.1 ((h z).1 (List.mem_cons_of_mem _ hz)) with rfl | h1
      · exact absurd (a1 z hz) (by omega)
      · exact h1
    · rcases List.mem_cons.1 ((h z).2 (List.mem_cons_of_mem _ hz)) with rfl | h1
      · exact absurd (b1 z hz) (by omega)
      · exact h1
def insAll (l : List Nat) (hs : List Nat) : List Nat := hs.foldl (fun r h => insH h r) l
theorem insAll_nil (l : List Nat) : insAll l [] = l := rfl
theorem insAll_cons (l hs : List Nat) (h : Nat) : insAll l (h :: hs) = insAll (insH h l) hs := rfl
theorem insAll_mem {y : Nat} : ∀ {hs l : List Nat}, y ∈ insAll l hs ↔ y ∈ hs ∨ y ∈ l
  | [], l => by simp [insAll_nil]
  | h :: hs, l => by
    rw [insAll_cons, insAll_mem, insH_mem, List.mem_cons]
    constructor
    · rintro (h1 | h1 | h1)
      · exact .inl (.inr h1)
      · exact .inl (.inl h1)
      · exact .inr h1
    · rintro ((h1 | h1) | h1)
      · exact .inr (.inl h1)
      · exact .inl h1
      · exact .inr (.inr h1)
theorem insAll_inc : ∀ {hs l : List Nat}, l.Pairwise (· < ·) → (insAll l hs).Pairwise (· < ·)
  | [], _, h => h
  | x :: hs, l, h => insAll_inc (hs := hs) (insH_inc (h := x) h)
def siftR (x : Val) : List Val → List Val
  | [] => [x]
  | y :: r => if cmpX x y < 0 then y :: siftR x r else x :: y :: r
theorem siftR_perm (x : Val) : ∀ r : List Val, (siftR x r).Perm (x :: r)
  | [] => List.Perm.refl _
  | y :: r => by
    unfold siftR
    split
    · exact ((siftR_perm x r).cons y).trans (List.Perm.swap x y r)
    · exact List.Perm.refl _
theorem siftR_mem {x y : Val} {r : List Val} : y ∈ siftR x r ↔ y = x ∨ y ∈ r := by rw [(siftR_perm x r).mem_iff, List.mem_cons]
def oneKd (k : Int) (l : List Val) : Prop := ∀ x ∈ l, x.k = k ∧ okX x
def downR (l : List Val) : Prop := l.Pairwise fun a b => cmpX b a ≤ 0
theorem siftR_down {k : Int} {x : Val} (hx : x.k = k ∧ okX x) : ∀ {r : List Val}, oneKd k r → downR r → downR (siftR x r)
  | [], _, _ => List.pairwise_singleton _ _
  | y :: r, hk, hd => by
    obtain ⟨d1, d2⟩ := List.pairwise_cons.1 hd
    have hy := hk y (by simp)
    unfold siftR
    split
    · rename_i hlt
      refine List.pairwise_cons.2 ⟨fun z hz => ?_, siftR_down hx (fun z hz => hk z (List.mem_cons_of_mem _ hz)) d2⟩
      rcases siftR_mem.1 hz with rfl | hz
      · omega
      · exact d1 z hz
    · rename_i hge
      refine List.pairwise_cons.2 ⟨fun z hz => ?_, hd⟩
      have hyx : cmpX y x ≤ 0 := by
        have := cmpX_anti (x := x) (y := y) (hx.1.trans hy.1.symm)
        omega
      rcases List.mem_cons.1 hz with rfl | hz
      · exact hyx
      · have hz1 := hk z (List.mem_cons_of_mem _ hz)
        exact cmpX_trans (hz1.1.trans hy.1.symm) (hy.1.trans hx.1.symm) (d1 z hz) hyx
def sortR (l : List Val) : List Val := l.foldl (fun r x => if x.k = 0 then r else siftR x r) []
theorem sortR_snoc (l : List Val) (x : Val) : sortR (l ++ [x]) = if x.k = 0 then sortR l else siftR x (sortR l) := by simp [sortR]
def liveV (l : List Val) : List Val := l.filter fun x => x.k != 0
theorem sortR_perm (l : List Val) : (sortR l).Perm (liveV l) := by
  refine snoc_ind (P := fun l => (sortR l).Perm (liveV l)) (List.Perm.refl _) (fun l x ih => ?_) l
  · rw [sortR_snoc]
    unfold liveV at ih ⊢
    rw [List.filter_append]
    by_cases h : x.k = 0
    · rw [if_pos h]
      have : ([x].filter fun x => x.k != 0) = [] := by simp [h]
      rw [this, List.append_nil]
      exact ih
    · rw [if_neg h]
      have : ([x].filter fun x => x.k != 0) = [x] := by simp [h]
      rw [this]
      exact (siftR_perm x _).trans ((ih.cons x).trans (List.perm_append_singleton x _).symm)
theorem sortR_down {k : Int} : ∀ {l : List Val}, (∀ x ∈ l, x.k = 0 ∨ (x.k = k ∧ okX x)) → downR (sortR l) := by
  intro l
  refine snoc_ind (P := fun l => (∀ x ∈ l, x.k = 0 ∨ (x.k = k ∧ okX x)) → downR (sortR l)) (fun _ => List.Pairwise.nil) (fun l x ih => ?_) l
  · intro h
    have ih := ih fun y hy => h y (by simp [hy])
    rw [sortR_snoc]
    by_cases hx : x.k = 0
    · rw [if_pos hx]; exact ih
    · rw [if_neg hx]
      have hx2 := (h x (by simp)).resolve_left hx
      refine siftR_down hx2 (fun y hy => ?_) ih
      have hy2 : y ∈ liveV l := (sortR_perm l).mem_iff.1 hy
      unfold liveV at hy2
      obtain ⟨h1, h2⟩ := List.mem_filter.1 hy2
      exact (h y (by simp [h1])).resolve_left (by simpa using h2)
def sortV (l : List Val) : List Val := (sortR l).reverse
def upV (l : List Val) : Prop := l.Pairwise fun a b => cmpX a b ≤ 0
theorem sortV_up {k : Int} {l : List Val} (h : ∀ x ∈ l, x.k = 0 ∨ (x.k = k ∧ okX x)) : upV (sortV l) := by
  unfold sortV upV
  rw [List.pairwise_reverse]
  exact sortR_down h
theorem sortV_perm (l : List Val) : (sortV l).Perm (liveV l) := (List.reverse_perm _).trans (sortR_perm l)
theorem up_ext {k : Int} : ∀ {a b : List Val}, oneKd k a → upV a → upV b → a.Perm b → a = b
  | [], b, _, _, _, hp => by rw [List.nil_perm.1 hp]
  | x :: a, [], _, _, _, hp => absurd hp.symm (by simp [List.nil_perm])
  | x :: a, y :: b, hk, ha, hb, hp => by
    obtain ⟨a1, a2⟩ := List.pairwise_cons.1 ha
    obtain ⟨b1, b2⟩ := List.pairwise_cons.1 hb
    have hx := hk x (by simp)
    have hyk := hk y (hp.symm.subset (by simp))
    have e : x = y := by
      have h1 : cmpX x y ≤ 0 := by
        rcases List.mem_cons.1 (hp.symm.subset (by simp : y ∈ y :: b)) with h | h
        · subst h; have := cmpX_refl y; omega
        · exact a1 y h
      have h2 : cmpX y x ≤ 0 := by
        rcases List.mem_cons.1 (hp.subset (by simp : x ∈ x :: a)) with h | h
        · subst h; have := cmpX_refl x; omega
        · exact b1 x h
      have h3 := cmpX_anti (x := x) (y := y) (hx.1.trans hyk.1.symm)
      exact cmpX_zero hx.2 hyk.2 (hx.1.trans hyk.1.symm) (by omega)
    subst e
    congr 1
    exact up_ext (fun z hz => hk z (List.mem_cons_of_mem _ hz)) a2 b2 (List.Perm.cons_inv hp)
end Go.Proofs.YtoaklmceejeblaaGreat
/-
  Shaken: what the claims of this seat need of this text. No condition.
-/
namespace Go.Proofs.YtoaklmceejeblaaGreat
set_option maxRecDepth 8000
open Go.RowKit
set_option linter.unusedVariables false
set_option linter.unusedSimpArgs false
def nthF (sv : List Val) (i : Nat) : Val := sv.getD (i * (sv.length - 1) / 16) nulX
open Classical in
noncomputable def chF (sv : List Val) : Nat → List Val
  | 0 => []
  | i + 1 => if (chF sv i).getLast? = some (nthF sv i) then chF sv i else chF sv i ++ [nthF sv i]
def rkF (ra rb : Val → Int) (fs : List Val) : List Int := fs.flatMap fun f => [ra f, rb f]
theorem rkF_snoc (ra rb : Val → Int) (fs : List Val) (f : Val) : rkF ra rb (fs ++ [f]) = rkF ra rb fs ++ [ra f, rb f] := by simp [rkF]
theorem rkF_length (ra rb : Val → Int) : ∀ fs : List Val, (rkF ra rb fs).length = 2 * fs.length
  | [] => rfl
  | f :: fs => by
    have := rkF_length ra rb fs
    simp only [rkF, List.flatMap_cons, List.length_append, List.length_cons, List.length_nil] at this ⊢
    omega
theorem nthF_lt {sv : List Val} (h : sv ≠ []) {i : Nat} (hi : i ≤ 16) : i * (sv.length - 1) / 16 < sv.length := by
  have hl : 0 < sv.length := List.length_pos_iff.2 h
  have h1 : i * (sv.length - 1) ≤ 16 * (sv.length - 1) := Nat.mul_le_mul_right _ hi
  have h2 : i * (sv.length - 1) / 16 ≤ 16 * (sv.length - 1) / 16 := Nat.div_le_div_right h1
  rw [Nat.mul_div_cancel_left _ (by decide : 0 < 16)] at h2
  omega
theorem nthF_get {sv : List Val} (h : sv ≠ []) {i : Nat} (hi : i ≤ 16) : sv[i * (sv.length - 1) / 16]? = some (nthF sv i) := by
  have hl := nthF_lt h hi
  unfold nthF
  rw [List.getD_eq_getElem?_getD, List.getElem?_eq_getElem hl]
  rfl
theorem nthF_mem {sv : List Val} (h : sv ≠ []) {i : Nat} (hi : i ≤ 16) : nthF sv i ∈ sv := List.mem_of_getElem? (nthF_get h hi)
theorem chF_mem {sv : List Val} (h : sv ≠ []) : ∀ {i : Nat}, i ≤ 17 → ∀ x ∈ chF sv i, x ∈ sv
  | 0, _, x, hx => by cases hx
  | i + 1, hi, x, hx => by
    unfold chF at hx
    split at hx
    · exact chF_mem h (by omega) x hx
    · rcases List.mem_append.1 hx with hx | hx
      · exact chF_mem h (by omega) x hx
      · rw [List.mem_singleton.1 hx]
        exact nthF_mem h (by omega)
theorem chF_length (sv : List Val) : ∀ i : Nat, (chF sv i).length ≤ i
  | 0 => Nat.le_refl _
  | i + 1 => by
    have := chF_length sv i
    unfold chF
    split
    · omega
    · simp; omega
theorem chF_pos (sv : List Val) : ∀ i : Nat, 0 < i → chF sv i ≠ []
  | 0, h => absurd h (by omega)
  | i + 1, _ => by
    unfold chF
    split
    · rename_i e
      intro h0
      rw [h0] at e
      cases e
    · simp
theorem chF_same {sv : List Val} {i : Nat} (h : (chF sv i).getLast? = some (nthF sv i)) : chF sv (i + 1) = chF sv i := by rw [chF, if_pos h]
theorem chF_new {sv : List Val} {i : Nat} (h : ¬ (chF sv i).getLast? = some (nthF sv i)) : chF sv (i + 1) = chF sv i ++ [nthF sv i] := by rw [chF, if_neg h]
theorem chF_one (sv : List Val) : chF sv 1 = [nthF sv 0] := by
  rw [chF_new (by simp [chF])]
  simp [chF]
end Go.Proofs.YtoaklmceejeblaaGreat
/-
  Shaken: what the claims of this seat need of this text. No condition.
-/
namespace Go.Proofs.YtoaklmceejeblaaGreat
set_option maxRecDepth 8000
open Go.RowKit
set_option linter.unusedVariables false
set_option linter.unusedSimpArgs false
theorem count_turn {p : Val → Bool} : ∀ {l : List Val}, l.Pairwise (fun a b => p b = true → p a = true) → ∀ (k : Nat) (y : Val), l[k]? = some y → (p y = true ↔ k < l.countP p)
  | [], _, k, y, h => by cases h
  | x :: l, hp, k, y, h => by
    obtain ⟨h1, h2⟩ := List.pairwise_cons.1 hp
    rw [List.countP_cons]
    cases hx : p x with
    | true =>
      cases k with
      | zero =>
        simp only [List.getElem?_cons_zero, Option.some.injEq] at h
        subst h
        simp [hx]
      | succ k =>
        rw [List.getElem?_cons_succ] at h
        rw [count_turn h2 k y h]
        simp
    | false =>
      have hall : ∀ z ∈ l, p z = false := fun z hz => by
        cases hz2 : p z with
        | false => rfl
        | true => rw [h1 z hz hz2] at hx; cases hx
      have h0 : l.countP p = 0 := List.countP_eq_zero.2 fun z hz => by simp [hall z hz]
      rw [h0]
      have hy : p y = false := by
        rcases List.mem_cons.1 (List.mem_of_getElem? h) with rfl | hm
        · exact hx
        · exact hall y hm
      simp [hy]
def ltN (sv : List Val) (f : Val) : Int := (sv.countP fun y => decide (cmpX y f < 0) : Nat)
def leN (sv : List Val) (f : Val) : Int := (sv.countP fun y => decide (cmpX y f ≤ 0) : Nat)
theorem up_lt {k : Int} {sv : List Val} (hk : oneKd k sv) (hu : upV sv) {f : Val} (hf : f.k = k ∧ okX f) : sv.Pairwise (fun a b => (decide (cmpX b f < 0)) = true → (decide (cmpX a f < 0)) = true) := by
  refine (List.pairwise_iff_forall_sublist.2 fun {a b} hs => ?_)
  have ha := hk a (hs.subset (by simp))
  have hb := hk b (hs.subset (by simp))
  have hab : cmpX a b ≤ 0 := by
    have := List.pairwise_iff_forall_sublist.1 hu hs
    exact this
  intro h
  have h := of_decide_eq_true h
  exact decide_eq_true (cmpX_le_lt (ha.1.trans hb.1.symm) (hb.1.trans hf.1.symm) ha.2 hb.2 hf.2 hab h)
theorem up_le {k : Int} {sv : List Val} (hk : oneKd k sv) (hu : upV sv) {f : Val} (hf : f.k = k ∧ okX f) : sv.Pairwise (fun a b => (decide (cmpX b f ≤ 0)) = true → (decide (cmpX a f ≤ 0)) = true) := by
  refine (List.pairwise_iff_forall_sublist.2 fun {a b} hs => ?_)
  have ha := hk a (hs.subset (by simp))
  have hb := hk b (hs.subset (by simp))
  have hab : cmpX a b ≤ 0 := by
    have := List.pairwise_iff_forall_sublist.1 hu hs
    exact this
  intro h
  have h := of_decide_eq_true h
  exact decide_eq_true (cmpX_trans (ha.1.trans hb.1.symm) (hb.1.trans hf.1.symm) hab h)
def oneOr (k : Int) (l : List Val) : Prop := ∀ x ∈ l, x.k = 0 ∨ (x.k = k ∧ okX x)
theorem sortV_one {k : Int} {l : List Val} (h : oneOr k l) : oneKd k (sortV l) := fun x hx => by
  have h1 := (sortV_perm l).mem_iff.1 hx
  unfold liveV at h1
  obtain ⟨h2, h3⟩ := List.mem_filter.1 h1
  exact (h x h2).resolve_left (by simpa using h3)
end Go.Proofs.YtoaklmceejeblaaGreat
