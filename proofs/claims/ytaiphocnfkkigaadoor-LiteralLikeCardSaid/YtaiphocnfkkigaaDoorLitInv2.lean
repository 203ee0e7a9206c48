/-
  Literals: what is accepted is formatted back. Lists and arithmetic; no walk.
-/
import Derived.Test.YtaiphocnfkkigaaDoorLitInv
import Derived.Test.YtaiphocnfkkigaaDoorLtP
import Derived.Test.YtaiphocnfkkigaaDoorLit6
import Derived.Test.YtaiphocnfkkigaaDoorVal
namespace Go.Proofs.YtaiphocnfkkigaaDoor
set_option linter.unusedVariables false
set_option linter.unusedSimpArgs false

theorem decP_decV : ∀ (k : Nat) (ds : List UInt8), ds.length ≤ k → ds ≠ [] → ds.all isDig = true → ds.head? ≠ some 48 → decP (decV ds) = ds ∧ 0 < decV ds
  | 0, ds, hk, hne, _, _ => absurd (List.length_eq_zero_iff.1 (by omega)) hne
  | k + 1, ds, hk, hne, hall, hh => by
    rcases List.eq_nil_or_concat ds with rfl | ⟨es, c, he⟩
    · exact absurd rfl hne
    · rw [List.concat_eq_append] at he
      subst he
      rw [List.all_append, Bool.and_eq_true] at hall
      have hc := hall.2
      simp only [List.all_cons, List.all_nil, Bool.and_true] at hc
      have hc2 := hc
      unfold isDig at hc2
      rw [Bool.and_eq_true, decide_eq_true_eq, decide_eq_true_eq] at hc2
      have hcu : UInt8.ofNat (48 + (c.toNat - 48)) = c := by
        rw [show 48 + (c.toNat - 48) = c.toNat by omega]
        exact UInt8.ofNat_toNat
      cases es with
      | nil =>
        have h48 : c.toNat ≠ 48 := fun e => hh (by rw [show c = 48 from UInt8.toNat_inj.1 (by rw [e]; rfl)]; rfl)
        have e1 : decV ([] ++ [c]) = c.toNat - 48 := by rw [decV_snoc, decV_nil]; omega
        rw [e1]
        refine ⟨?_, by omega⟩
        rw [decP_pos (by omega), Nat.div_eq_of_lt (by omega), decP_zero, Nat.mod_eq_of_lt (by omega), hcu]
      | cons a r =>
        obtain ⟨i1, i2⟩ := decP_decV k (a :: r) (by simp at hk ⊢; omega) (by simp) hall.1 (by simpa using hh)
        rw [decV_snoc]
        refine ⟨?_, by omega⟩
        rw [decP_pos (by omega), show (decV (a :: r) * 10 + (c.toNat - 48)) / 10 = decV (a :: r) by omega, show (decV (a :: r) * 10 + (c.toNat - 48)) % 10 = c.toNat - 48 by omega, i1, hcu]
/-- FormatInt inverts ParseInt -/
theorem fmtI_prsI {l : List UInt8} {v : Int} (h : prsI l = (v, 0)) : fmtI v = l ∧ -9223372036854775808 ≤ v ∧ v ≤ 9223372036854775807 := by
  cases l with
  | nil => cases h
  | cons c r =>
    by_cases hc : c = 45
    · subst hc
      rw [prsI_neg] at h
      unfold prsD at h
      by_cases hb : r = [] ∨ (r.head? = some 48 ∧ (45 :: r) ≠ [48])
      · rw [if_pos hb] at h; simp at h
      · rw [if_neg hb] at h
        by_cases ha : r.all isDig = false
        · rw [if_pos ha] at h; simp at h
        · rw [if_neg ha, if_pos rfl] at h
          by_cases hr : decV r ≤ 9223372036854775808
          · rw [if_pos hr] at h
            have hv : -(decV r : Int) = v := (Prod.mk.inj h).1
            obtain ⟨d1, d2⟩ := decP_decV r.length r (Nat.le_refl _) (fun e => hb (.inl e)) (by simpa using ha) (fun e => hb (.inr ⟨e, by simp⟩))
            subst hv
            refine ⟨?_, by omega, by omega⟩
            unfold fmtI
            rw [if_neg (by omega), if_pos (by omega), Int.natAbs_neg]
            show 45 :: decP (decV r) = _
            rw [d1]
          · rw [if_neg hr] at h; simp at h
    · rw [prsI_pos hc] at h
      unfold prsD at h
      by_cases hb : (c :: r) = [] ∨ ((c :: r).head? = some 48 ∧ (c :: r) ≠ [48])
      · rw [if_pos hb] at h; simp at h
      · rw [if_neg hb] at h
        by_cases ha : (c :: r).all isDig = false
        · rw [if_pos ha] at h; simp at h
        · rw [if_neg ha, if_neg (by decide)] at h
          by_cases hr : decV (c :: r) < 9223372036854775808
          · rw [if_pos hr] at h
            have hv : (decV (c :: r) : Int) = v := (Prod.mk.inj h).1
            subst hv
            by_cases h48 : (c :: r) = [48]
            · rw [h48]
              exact ⟨by decide, by decide, by decide⟩
            · obtain ⟨d1, d2⟩ := decP_decV (c :: r).length (c :: r) (Nat.le_refl _) (by simp) (by simpa using ha) (fun e => hb (.inr ⟨e, h48⟩))
              refine ⟨?_, by omega, by omega⟩
              unfold fmtI
              rw [if_neg (by omega), if_neg (by omega)]
              show decP (decV (c :: r)) = _
              exact d1
          · rw [if_neg hr] at h; simp at h
/-- Quote inverts Unquote -/
theorem quoteL_unqL {l t : List UInt8} (h : unqL l = (t, 0)) : quoteL t = l := by
  unfold unqL at h
  by_cases hc : 2 ≤ l.length ∧ l[0]? = some 39 ∧ l[l.length - 1]? = some 39
  · rw [if_pos hc] at h
    cases hu : unqM ((l.drop 1).take (l.length - 2)) with
    | none => rw [hu] at h; cases h
    | some u =>
      rw [hu] at h
      have e : u = t := (Prod.mk.inj h).1
      subst e
      have hd := dblQ_unqM _ _ u (Nat.le_refl _) hu
      unfold quoteL
      rw [hd]
      obtain ⟨h2, h0, hl⟩ := hc
      cases l with
      | nil => simp at h2
      | cons a r =>
        have e : a = 39 := by simpa using h0
        subst e
        have hr : 0 < r.length := by simp at h2; omega
        rw [List.drop_succ_cons, List.drop_zero, show (39 :: r).length - 2 = r.length - 1 by simp]
        have h5 : r[r.length - 1]? = some 39 := by
          rw [show (39 :: r).length - 1 = (r.length - 1) + 1 by simp; omega, List.getElem?_cons_succ] at hl
          exact hl
        have h6 := List.take_add_one (l := r) (i := r.length - 1)
        rw [h5, show r.length - 1 + 1 = r.length by omega, List.take_length] at h6
        rw [List.cons_append]
        congr 1
        exact h6.symm
  · rw [if_neg hc] at h; simp at h
/-- Format inverts Parse -/
theorem fmtV_prsV {l : List UInt8} (h : (prsV l).e = 0) : fmtV (prsV l).k (prsV l).n (prsV l).t = l ∧ (-9223372036854775808 ≤ (prsV l).n ∧ (prsV l).n ≤ 9223372036854775807) ∧ ((prsV l).k = 1 → (prsV l).n = 0 ∨ (prsV l).n = 1) := by
  unfold prsV at h ⊢
  by_cases h1 : l = [110, 117, 108, 108]
  · rw [if_pos h1, h1]; exact ⟨rfl, by decide, fun h => by simp at h⟩
  · rw [if_neg h1] at h ⊢
    by_cases h2 : l = [116, 114, 117, 101]
    · rw [if_pos h2, h2]; exact ⟨rfl, by decide, fun _ => .inr rfl⟩
    · rw [if_neg h2] at h ⊢
      by_cases h3 : l = [102, 97, 108, 115, 101]
      · rw [if_pos h3, h3]; exact ⟨rfl, by decide, fun _ => .inl rfl⟩
      · rw [if_neg h3] at h ⊢
        by_cases h4 : l.head? = some 39
        · rw [if_pos h4] at h ⊢
          rcases hu : unqL l with ⟨t, e⟩
          rw [hu] at h
          unfold txtR at h ⊢
          by_cases he : e = 0
          · subst he
            by_cases ht : 4096 < t.length
            · rw [if_neg (by simp), if_pos ht] at h; simp at h
            · rw [if_neg (by simp), if_neg ht]
              exact ⟨quoteL_unqL hu, by simp, fun h => by simp at h⟩
          · rw [if_pos he] at h
            exact absurd h he
        · rw [if_neg h4] at h ⊢
          rcases hp : prsI l with ⟨n, e⟩
          rw [hp] at h
          unfold intR at h ⊢
          by_cases he : e = 0
          · subst he
            obtain ⟨f1, f2, f3⟩ := fmtI_prsI hp
            rw [if_neg (by simp)]
            exact ⟨f1, ⟨f2, f3⟩, fun h => by simp at h⟩
          · rw [if_pos he] at h
            exact absurd h he
theorem fmtI_head {n : Int} (h0 : -9223372036854775808 ≤ n) (h1 : n < 9223372036854775808) : ∃ c r, fmtI n = c :: r ∧ (c = 45 ∨ isDig c = true) := by
  by_cases hz : n = 0
  · subst hz; exact ⟨48, [], rfl, .inr rfl⟩
  · obtain ⟨p1, p2, p3⟩ := decP_props 20 n.natAbs (by omega)
    obtain ⟨c, r, hcr, hc⟩ := p3 (by omega)
    unfold fmtI
    rw [if_neg hz]
    by_cases hn : n < 0
    · rw [if_pos hn]; exact ⟨45, _, rfl, .inl rfl⟩
    · rw [if_neg hn, hcr]
      rw [hcr, List.all_cons, Bool.and_eq_true] at p2
      exact ⟨c, r, rfl, .inr p2.1⟩
/-- Parse inverts Format at a valid value -/
theorem prsV_fmtV {k n : Int} {t : ByteArray} (hv : validV k n t = true) (h0 : -9223372036854775808 ≤ n) (h1 : n < 9223372036854775808) : prsV (fmtV k n t.data.toList) = ⟨k, n, t.data.toList, 0⟩ := by
  have hemp : t.toList.isEmpty = true → t.data.toList = [] := fun h => by rw [ByteArray.toList_eq] at h; simpa using h
  unfold validV at hv
  by_cases k0 : k = 0
  · subst k0
    rw [if_pos rfl, Bool.and_eq_true, beq_iff_eq] at hv
    rw [hv.1, hemp hv.2]
    rfl
  · rw [if_neg k0] at hv
    by_cases k1 : k = 1
    · subst k1
      rw [if_pos rfl, Bool.and_eq_true, Bool.or_eq_true, beq_iff_eq, beq_iff_eq] at hv
      rw [hemp hv.2]
      rcases hv.1 with h | h <;> (rw [h]; rfl)
    · rw [if_neg k1] at hv
      by_cases k2 : k = 2
      · subst k2
        rw [if_pos rfl] at hv
        rw [hemp hv]
        have e1 : fmtV 2 n [] = fmtI n := by unfold fmtV; rw [if_neg (by decide), if_pos rfl]
        obtain ⟨c, r, hcr, hc⟩ := fmtI_head h0 h1
        have hcn : c.toNat ≠ 110 ∧ c.toNat ≠ 116 ∧ c.toNat ≠ 102 ∧ c.toNat ≠ 39 := by
          rcases hc with rfl | hc
          · decide
          · unfold isDig at hc; simp at hc; omega
        have hne : ∀ (a : UInt8) (m : List UInt8), c.toNat ≠ a.toNat → fmtI n ≠ a :: m := fun a m ha e => by
          rw [hcr] at e
          exact ha (by rw [(List.cons.inj e).1])
        rw [e1]
        unfold prsV
        rw [if_neg (hne 110 _ hcn.1), if_neg (hne 116 _ hcn.2.1), if_neg (hne 102 _ hcn.2.2.1), if_neg (by
          rw [hcr]
          intro e
          have : c = 39 := by simpa using e
          exact hcn.2.2.2 (by rw [this]; rfl)), prsI_fmtI n h0 h1]
        rfl
      · rw [if_neg k2] at hv
        by_cases k3 : k = 3
        · subst k3
          rw [if_pos rfl, Bool.and_eq_true, beq_iff_eq, decide_eq_true_eq] at hv
          have e1 : fmtV 3 n t.data.toList = quoteL t.data.toList := by unfold fmtV; rw [if_neg (by decide), if_neg (by decide), if_pos rfl]
          have e2 : ∀ m : List UInt8, ∃ r, quoteL m = 39 :: r := fun m => ⟨_, rfl⟩
          obtain ⟨r, hr⟩ := e2 t.data.toList
          have hne : ∀ (a : UInt8) (m : List UInt8), a ≠ 39 → quoteL t.data.toList ≠ a :: m := fun a m ha e => by
            rw [hr] at e
            exact ha (List.cons.inj e).1.symm
          rw [e1]
          unfold prsV
          rw [if_neg (hne 110 _ (by decide)), if_neg (hne 116 _ (by decide)), if_neg (hne 102 _ (by decide)), if_pos (by rw [hr]; rfl), unqL_quoteL, hv.1]
          unfold txtR
          have : t.data.toList.length = t.size := rfl
          rw [if_neg (by simp), if_neg (by show ¬ 4096 < t.data.toList.length; omega)]
        · rw [if_neg k3] at hv
          cases hv
end Go.Proofs.YtaiphocnfkkigaaDoor
