/-
  Shaken: what the claims of this seat need of this text. No condition.
-/
import Derived.Orders
import Derived.Still
namespace Go.Proofs.Ytfjhahhkakfhmaa
set_option maxRecDepth 8000
set_option linter.unusedVariables false
def edgesB : Nat → List Oper → Bool
  | _, [] => true
  | k, o :: r => o.after.toList.all (fun e => !Region.binds .any e || decide (e.on < k)) && edgesB (k + 1) r
def pairB (ops : Array Oper) (k : Nat) (x : Oper) (r : List Oper) : Bool := r.all fun y => y.after.toList.any (fun e => Region.binds .any e && e.on == k) || x.apart ops y
def pairsB (ops : Array Oper) : Nat → List Oper → Bool
  | _, [] => true
  | k, o :: r => pairB ops k o r && pairsB ops (k + 1) r
def fastB (l : List Oper) : Bool := Region.noSelect l.toArray && edgesB 0 l && pairsB l.toArray 0 l
theorem edgesB_spec : ∀ (r : List Oper) (k : Nat), edgesB k r = true → ∀ (i : Nat) (o : Oper), r[i]? = some o → ∀ e ∈ o.after, Region.binds .any e = true → e.on < k + i
  | [], _, _, _, _, h, _, _, _ => by simp at h
  | x :: r, k, h, i, o, ho, e, he, hb => by
    simp only [edgesB, Bool.and_eq_true] at h
    cases i with
    | zero =>
      have e1 : x = o := by simpa using ho
      subst e1
      have h1 := List.all_eq_true.1 h.1 e (Array.mem_toList_iff.2 he)
      rw [hb] at h1
      simpa using h1
    | succ i =>
      have := edgesB_spec r (k + 1) h.2 i o (by simpa using ho) e he hb
      omega
theorem pairsB_spec {ops : Array Oper} : ∀ (r : List Oper) (k : Nat), pairsB ops k r = true → ∀ (i j : Nat) (x y : Oper), i < j → r[i]? = some x → r[j]? = some y → (y.after.any (fun e => Region.binds .any e && e.on == k + i) || x.apart ops y) = true
  | [], _, _, _, _, _, _, _, h, _ => by simp at h
  | o :: r, k, h, i, j, x, y, hij, hx, hy => by
    simp only [pairsB, Bool.and_eq_true] at h
    cases j with
    | zero => omega
    | succ j =>
      cases i with
      | zero =>
        have e1 : o = x := by simpa using hx
        subst e1
        have h1 := List.all_eq_true.1 h.1 y (List.mem_of_getElem? (i := j) (by simpa using hy))
        rw [Nat.add_zero]
        simpa using h1
      | succ i =>
        have := pairsB_spec r (k + 1) h.2 i j x y (by omega) (by simpa using hx) (by simpa using hy)
        rwa [show k + 1 + i = k + (i + 1) by omega] at this
theorem lexFrom_fast {l : List Oper} (hE : edgesB 0 l = true) (hP : pairsB l.toArray 0 l = true) : ∀ (m k : Nat) (listed : Array Bool), k + m = l.length → listed.size = l.length → (∀ i, i < l.length → ∀ d, listed.getD i d = decide (i < k)) →
    Region.lexFrom .any l.toArray m k listed = true
  | 0, k, listed, hk, hs, hl => by
    simp only [Region.lexFrom, List.isEmpty_iff]
    refine List.eq_nil_iff_forall_not_mem.2 fun j hj => ?_
    obtain ⟨h1, o, ho, _⟩ := mem_ready.1 hj
    have hj2 : j < l.length := by
      obtain ⟨h, _⟩ := Array.getElem?_eq_some_iff.1 ho
      simpa using h
    rw [hl j hj2 true] at h1
    simp at h1
    omega
  | m + 1, k, listed, hk, hs, hl => by
    have hkl : k < l.length := by omega
    have hok : l.toArray[k]? = some l[k] := by simp [hkl]
    simp only [Region.lexFrom, Bool.and_eq_true]
    refine ⟨⟨?_, ?_⟩, lexFrom_fast hE hP m (k + 1) _ (by omega) (by simpa using hs) fun i hi d => ?_⟩
    · rw [List.contains_eq_mem]
      simp only [decide_eq_true_eq]
      refine mem_ready.2 ⟨by rw [hl k hkl]; simp, l[k], hok, fun e he hb => ?_⟩
      have h1 := edgesB_spec l 0 hE k l[k] (by simp [hkl]) e he hb
      rw [Nat.zero_add] at h1
      rw [hl e.on (by omega)]
      simpa using h1
    · unfold Region.free
      rw [hok]
      simp only [List.all_eq_true, List.mem_range]
      intro j hj
      have hj2 : j < l.length := by simpa using hj
      by_cases e1 : j = k
      · simp [e1]
      · by_cases e2 : j < k
        · rw [hl j hj2 true]
          simp [e2]
        · have hoj : l.toArray[j]? = some l[j] := by simp [hj2]
          rw [hoj]
          have h1 := pairsB_spec l 0 hP k j l[k] l[j] (by omega) (by simp [hkl]) (by simp [hj2])
          rw [Nat.zero_add] at h1
          simp only [h1, Bool.or_true]
    · rw [Array.getD_eq_getD_getElem?, Array.getElem?_setIfInBounds]
      by_cases e1 : k = i
      · subst e1
        rw [if_pos rfl, if_pos (by omega)]
        simp
      · rw [if_neg e1, ← Array.getD_eq_getD_getElem?, hl i hi d]
        have : (i < k + 1) ↔ i < k := by omega
        simp [this]
theorem lexB_fast {l : List Oper} (h : fastB l = true) : Region.lexB .any l.toArray = true := by
  simp only [fastB, Bool.and_eq_true] at h
  unfold Region.lexB
  rw [Bool.and_eq_true]
  refine ⟨h.1.1, ?_⟩
  refine lexFrom_fast h.1.2 h.2 _ 0 _ (by simp) (by simp) fun i hi d => ?_
  simp [Array.getD_eq_getD_getElem?, hi]
end Go.Proofs.Ytfjhahhkakfhmaa
