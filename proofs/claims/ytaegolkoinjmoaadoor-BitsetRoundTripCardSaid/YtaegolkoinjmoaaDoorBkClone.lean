/-
  slices.Clone at []uint64, and bitset.All: for every valid set; nothing that was there is changed.
-/
import Derived.Test.YtaegolkoinjmoaaDoorBkAll
import Derived.WalkSpells
namespace Go.Proofs.YtaegolkoinjmoaaDoor
open Go.RowKit Go.Shelf

theorem oneCell_ucells (l : List UInt64) : ∀ u ∈ ucells l, u.oneCell' = true := by
  intro u hu
  simp only [ucells, List.mem_map] at hu
  obtain ⟨c, _, rfl⟩ := hu
  rfl
/-- a row of words of the call's own -/
def OwnWords (ws : List UInt64) (w : World) (e : Ending) (w' : World) : Prop := ∃ A c, e = .returned (.slice A ws.length c) ∧ w'.ownsRow w.heap.size 54 1 (.slice A ws.length c) ws.length (ucells ws) ∧ Grows w w'

theorem own_slice {w : World} {base : Nat} {e : TypeId} {size : Nat} {v : Value} {n : Nat} {xs : List Value} (h : w.ownsRow base e size v n xs) : ∃ A c, v = .slice A n c := by
  rcases h.2 with ⟨rfl, rfl⟩ | ⟨g, cap, _, rfl, _⟩
  · exact ⟨none, 0, rfl⟩
  · exact ⟨_, cap, rfl⟩
set_option maxHeartbeats 400000 in
theorem clone_any (v : Value) (ws : List UInt64) (w : World) (hr : Reads w v (ucells ws)) (hl : ws.length ≤ 20000) :
    Calls Tryd.prog 67 #[v] w (OwnWords ws w) := by
  obtain ⟨A, c, rfl, hle, hc⟩ := hr
  rw [ucells_length] at hle hc ⊢
  cases A with
  | none =>
    have h0 : ws = [] := by
      cases ws with
      | nil => rfl
      | cons x r => obtain ⟨b, off, h, _⟩ := hc (by simp); cases h
    subst h0
    have he := fun W n c' => Lib.run_eql_slice_nil (P := Tryd.prog) W 24 54 none n c' 0 0 Tryd.underlying24
    clear hc hle
    go_enter Tryd.func67, Tryd.ntmps67
    go_wp2
    go_ret
    exact ⟨none, 0, rfl, World.ownsRow_nil _ _ _ _, Below.refl _ _⟩
  | some ad =>
    have he := fun W n c' => Lib.run_eql_slice_nil (P := Tryd.prog) W 24 54 (some ad) n c' 0 0 Tryd.underlying24
    have hcells : ∀ j x, (ucells ws)[j]? = some x → w.cell? (ad.add j) = some x := by
      intro j x hx
      have hj : j < ws.length := by
        rcases Nat.lt_or_ge j ws.length with h | h
        · exact h
        · rw [List.getElem?_eq_none (by rw [ucells_length]; exact h)] at hx; cases hx
      obtain ⟨b, off, h, hcell⟩ := hc (by omega)
      injection h with h
      subst h
      rw [Addr.add_lit, hcell j hj]
      exact hx
    have HC := hidden (show ∀ j x, (ucells ws)[j]? = some x → (w.alloc (.cells #[] 54)).cell? (ad.add j) = some x from fun j x hx =>
      (((Below.refl _ _).alloc (Nat.le_refl _) (.cells #[] 54)).cell (World.block_lt_of_cell? w _ (hcells j x hx))).trans (hcells j x hx))
    have HO := hidden (World.ownsRow_made (base := w.heap.size) (e := 54) (size := 1) w #[] 0 (Nat.le_refl _) (by simp [maxLen]) rfl)
    have HG := hidden (show Grows w (w.alloc (.cells #[] 54)) from (Below.refl _ _).alloc (Nat.le_refl _) _)
    have HCL := hidden (ucells_length ws)
    have H1 := hidden (oneCell_ucells ws)
    have HML := hidden (show 0 + ws.length ≤ maxLen by unfold maxLen; omega)
    obtain ⟨i0, hi, hz0, hz1, hz2⟩ := info_parts info_u64
    clear hc hcells
    go_enter Tryd.func67, Tryd.ntmps67
    go_wp2_with (at_builtin; refine wpList_append_own _ rfl _ _ 24 rfl w.heap.size 54 i0 (.int .u64 0) 1 8 Tryd.underlying24 hi hz0 hz1 hz2 rfl (by decide) _ 0 [] rfl HO.out ad ws.length c (ucells ws) rfl (by rw [HCL.out, Nat.mul_one]) HC.out H1.out HML.out (by omega) (by simp) ?_; intro v' w1 hown1 hgrow1 _)
    rw [Nat.zero_add, List.nil_append] at hown1
    obtain ⟨A', c', rfl⟩ := own_slice hown1
    have HO1 := hidden hown1
    have HG1 := hidden (HG.out.grown hgrow1 HG.out.size fun k e => (HO.out.lt k e).1)
    clear hown1 hgrow1
    go_wp2
    go_ret
    exact ⟨A', c', rfl, HO1.out, HG1.out⟩

/-- bitset.All -/
def AllR (n : Nat) (ws : List UInt64) (B : Nat) (w : World) (e : Ending) (w' : World) : Prop :=
  ∃ gf lb, e = .returned (.func (.func gf) #[] lb) ∧ Grows w w' ∧ (∀ args W, (callFunc gf args).run Tryd.prog W = .ok (.enter gf args) W) ∧
    ∀ w2, Grows w' w2 → IterAll Tryd.prog gf lb (elems (mem n ws) n) (64 * nw n) w2.heap.size B w2
set_option maxHeartbeats 400000 in
theorem ck_all (s : Value) (n : Nat) (ws : List UInt64) (w : World) (B : Nat) (hs : IsSet w s n ws) (ho : okW n ws) (hT : Tab w) (hB0 : 0 < B) (hB : B < w.heap.size) :
    Calls Tryd.prog 44 #[s] w (AllR n ws B w) := by
  obtain ⟨v, rfl, hr, hn, hn2⟩ := hs
  have hL : ws.length ≤ 20000 := by rw [ho.1]; unfold nw; omega
  have HR := hidden hr
  obtain ⟨A, c, rfl, hle⟩ := hr.slice_
  have hG := hidden (show Grows w (w.alloc (.cells #[.int .i64 (n : Int), .slice A (ucells ws).length c] 26)) from (Below.refl _ _).alloc (Nat.le_refl _) _)
  clear hr hle
  generalize (ucells ws).length = L at *
  have hrow := Row.new w 26 #[.int .i64 (n : Int), .slice A L c] [.int .i64 (n : Int), .slice A L c] rfl
  have c1 := hrow.cell 1
  simp only [List.getElem?_cons_zero, List.getElem?_cons_succ] at c1
  have HT := hidden hT
  clear hrow hT
  go_enter Tryd.func44, Tryd.ntmps44
  go_wp2_with fail
  refine (clone_any _ ws _ (HR.out.grow hG.out) hL).mono ?_
  rintro e w1 ⟨A1, c2, rfl, hown, g1⟩
  have HO := hidden hown
  have HG1 := hidden (hG.out.of_below g1)
  have hsz : w.heap.size + 1 ≤ w1.heap.size := by have := g1.size; simpa using this
  clear hown g1 c1
  go_wp2
  go_ret
  refine ⟨68, _, rfl, HG1.out.alloc HG1.out.size _, enters_of Tryd.func68 (by kernel_rfl) rfl, fun w2 g2 => ?_⟩
  have gA : Grows w1 (w1.alloc (.cells #[.slice A1 ws.length c2] 24)) := (Below.refl _ _).alloc (Nat.le_refl _) _
  refine all1_iter w2.heap.size B w1.heap.size A1 c2 n ws w2 ⟨?_, ?_, HT.out.grow (HG1.out.of_below (gA.of_below g2)), hB0, by omega, rfl⟩ ho hn2
  · have h := Boxed.new w1 24 (.slice A1 ws.length c2)
    exact (g2.block w1.heap.size (by simp)).trans h
  · refine ownsRow_base (ownsRow_grow HO.out (gA.of_below g2)) ?_
    simp
    omega
end Go.Proofs.YtaegolkoinjmoaaDoor
