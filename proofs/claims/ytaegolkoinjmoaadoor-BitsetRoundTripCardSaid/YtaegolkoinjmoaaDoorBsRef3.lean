/-
  The reference's Rank, Count, Elements and Select return what the document says; nothing that was there is changed.
-/
import Derived.Test.YtaegolkoinjmoaaDoorBsRef2
namespace Go.Proofs.YtaegolkoinjmoaaDoor
open Go.RowKit

/-- the number of elements less than i -/
def rankI (n : Nat) (f : Nat → Bool) (i : Int) : Nat := cnt f (min n i.toNat)
def RankRel (w : World) (n : Nat) (v : Value) (f : Nat → Bool) (i : Int) (c k : Value) (wr : World) : Prop :=
  ∃ j : Nat, j ≤ min n i.toNat ∧ k = .int .i64 j ∧ c = .int .i64 (cnt f j : Int) ∧ Row wr w.heap.size 26 [.int .i64 (n : Int), v] ∧ Below w.heap.size w wr

set_option maxHeartbeats 400000 in
theorem rrank_any (s : Value) (n : Nat) (ws : List UInt64) (i : Int) (w : World) (hs : IsSet w s n ws) (h63 : -9223372036854775808 ≤ i) (h64 : i ≤ 9223372036854775807) :
    Calls Tryd.prog 23 #[s, .int .i64 i] w fun e w' => e = .returned (.int .i64 (rankI n (mem n ws) i : Int)) ∧ Grows w w' := by
  have HS := hidden hs
  obtain ⟨v, rfl, hr, hn, hn2⟩ := hs
  obtain ⟨A, d, rfl, _⟩ := hr.slice_
  rw [ucells_length] at HS hr ⊢
  have HQ : Hid (rankI n (mem n ws) i = cnt (mem n ws) (min n i.toNat)) := by show _ = _; rfl
  have hmin : min n i.toNat ≤ n := Nat.min_le_left _ _
  have hmin2 : min n i.toNat ≤ i.toNat := Nat.min_le_right _ _
  have hmin3 : min n i.toNat = n ∨ min n i.toNat = i.toNat := by omega
  clear hr
  go_enter Tryd.func23, Tryd.ntmps23
  go_wp2
  go_loopw [5, 6] (fun c k wr => RankRel w n (.slice A ws.length d) (mem n ws) i c k wr) (fun _ k _ => n - (intOf k).toNat)
  case atStart => exact ⟨0, Nat.zero_le _, rfl, rfl, Row.new w _ _ _ rfl, (Below.refl _ _).alloc (Nat.le_refl _) _⟩
  case round =>
    obtain ⟨j, hj, rfl, rfl, r1, hb⟩ := hrel
    have hc0 := r1.cell 0
    have hc1 := r1.cell 1
    simp only [List.getElem?_cons_zero, List.getElem?_cons_succ] at hc0 hc1
    have R1 := hidden r1
    have HB := hidden hb
    have hcl := cnt_le (mem n ws) j
    clear r1 hb
    by_cases hlt : j < min n i.toNat
    · have HC := hidden (rcontains_any _ n ws (j : Int) wr (HS.out.grow HB.out) (by omega) (by omega))
      have hd1 : decide ((j : Int) < (n : Int)) = true := by simp; omega
      have hd2 : decide ((j : Int) < i) = true := by simp; omega
      have HN : Hid (cnt (mem n ws) (j + 1) = cnt (mem n ws) j + if mem n ws j then 1 else 0) := by show _ = _; rfl
      have hcb : cnt (mem n ws) j ≤ 1048576 := by omega
      have HLT := hidden hlt
      have hjn : j < n := by omega
      clear hmin3 hmin hmin2 hlt hcl hj
      generalize cnt (mem n ws) j = x at *
      go_wp2_with fail
      refine (Calls.mono HC.out ?_)
      rintro e w2 ⟨rfl, g2⟩
      have HR1 := hidden (R1.out.grow g2)
      have HG2 := hidden (HB.out.trans (g2.mono HB.out.size))
      clear g2
      rw [memI_nat]
      have hlt2 := HLT.out
      by_cases hm : mem n ws j = true
      · rw [hm]
        have hn3 := HN.out
        rw [hm] at hn3
        have HN3 := hidden hn3
        clear hn3 hm hlt2
        go_wp2
        go_roundw
        case rel => exact ⟨j + 1, HLT.out, by go_num, by rw [HN3.out]; go_num, HR1.out, HG2.out⟩
        case measure => simp [intOf]; omega
      · have hm' : mem n ws j = false := by simpa using hm
        rw [hm']
        have hn3 := HN.out
        rw [hm'] at hn3
        have HN3 := hidden hn3
        clear hn3 hm hm' hlt2
        go_wp2
        go_roundw
        case rel => exact ⟨j + 1, HLT.out, by go_num, by rw [HN3.out]; go_num, HR1.out, HG2.out⟩
        case measure => simp [intOf]; omega
    · have hje : j = min n i.toNat := by omega
      have HE : Hid (cnt (mem n ws) j = rankI n (mem n ws) i) := by show _ = _; rw [HQ.out, hje]
      by_cases hjn : j < n
      · have hd1 : decide ((j : Int) < (n : Int)) = true := by simp; omega
        have hd2 : decide ((j : Int) < i) = false := by simp; omega
        clear hmin3 hmin hmin2 hlt hcl hj hje
        go_wp2
        go_ret
        exact ⟨retU (by rw [HE.out]), HB.out⟩
      · have hd1 : decide ((j : Int) < (n : Int)) = false := by simp; omega
        have hnj : n ≤ j := by omega
        clear hmin3 hmin hmin2 hlt hcl hj hje hjn
        go_wp2
        go_ret
        exact ⟨retU (by rw [HE.out]), HB.out⟩

set_option maxHeartbeats 400000 in
theorem rcount_any (s : Value) (n : Nat) (ws : List UInt64) (w : World) (hs : IsSet w s n ws) :
    Calls Tryd.prog 21 #[s] w fun e w' => e = .returned (.int .i64 (cnt (mem n ws) n : Int)) ∧ Grows w w' := by
  have HS := hidden hs
  obtain ⟨v, rfl, hr, hn, hn2⟩ := hs
  obtain ⟨A, d, rfl, _⟩ := hr.slice_
  rw [ucells_length] at HS hr ⊢
  have hG : ∀ o, Grows w (w.alloc o) := fun o => (Below.refl _ _).alloc (Nat.le_refl _) o
  have HG := hidden hG
  have HE : Hid (rankI n (mem n ws) (n : Int) = cnt (mem n ws) n) := by show _ = _; unfold rankI; rw [Int.toNat_natCast, Nat.min_self]
  clear hr hG
  go_enter Tryd.func21, Tryd.ntmps21
  go_wp2_with fail
  refine (rrank_any _ n ws (n : Int) _ (HS.out.grow (HG.out _)) (by omega) (by omega)).mono ?_
  rintro e w1 ⟨rfl, g1⟩
  have HG1 := hidden (Grows.of_below (HG.out _) g1)
  clear g1
  go_wp2
  go_ret
  exact ⟨retU (by rw [HE.out]), HG1.out⟩

/-- a row of ints of the call's own -/
def OwnInts (l : List Nat) (w : World) (e : Ending) (w' : World) : Prop :=
  ∃ v, e = .returned v ∧ w'.ownsRow w.heap.size 3 1 v l.length (ncells l) ∧ Below w.heap.size w w'
theorem wpList_append_int {wr : World} {ops : Array Oper} {rest : List Oper} {o : Oper} {a : Act} {Q : Exit → Act → World → Prop} (hgd : o.guard = none) (s x : Operand)
    (ho : o.op = .call { callee := .builtin .append, args := #[s, x], argTypes := #[22, 22] })
    (v : Value) (pre : List Nat) (hs : a.eval s = v) (base : Nat) (hown : wr.ownsRow base 3 1 v pre.length (ncells pre)) (w0 : World) (hb : Below base w0 wr) (hbase : base ≤ wr.heap.size)
    (z : Int) (c : Nat) (hz : z = (c : Int)) (hx : a.eval x = .slice (some ⟨wr.heap.size, 0, none⟩) 1 1) (hlen : pre.length + 1 ≤ 17592186044416)
    (h : ∀ v' w', w'.ownsRow base 3 1 v' (pre ++ [c]).length (ncells (pre ++ [c])) → Below base w0 w' → wpList Tryd.prog ops Q rest (a.put o.dst v') w') :
    wpList Tryd.prog ops Q (o :: rest) a (wr.alloc (.cells #[.int .i64 z] 3)) := by
  obtain ⟨i0, hi, hz0, hz1, hz2⟩ := info_parts info_int
  subst hz
  refine wpList_append_own _ hgd s x 22 ho base 3 i0 (.int .i64 0) 1 8 Tryd.underlying22 hi hz0 hz1 hz2 rfl (by decide) v pre.length (ncells pre) hs (hown.alloc _) ⟨wr.heap.size, 0, none⟩ 1 1 [.int .i64 (c : Int)] hx rfl ?_ ?_ ?_ ?_ ?_ ?_
  · intro j u hj
    match j, hj with
    | 0, hj => simp at hj; subst hj; simp [Addr.add]
  · intro u hu; simp at hu; subst hu; rfl
  · unfold maxLen; omega
  · omega
  · simp; omega
  · intro v' w' h1 h2 _
    rw [← ncells_snoc, show pre.length + 1 = (pre ++ [c]).length by simp] at h1
    exact h v' w' h1 ((hb.alloc hbase _).grown h2 (by simp; omega) (fun k hk => (hown.lt k hk).1))
theorem ownsRow_grow {w w' : World} {base : Nat} {e : TypeId} {size : Nat} {v : Value} {n : Nat} {xs : List Value} (h : w.ownsRow base e size v n xs) (hb : Grows w w') : w'.ownsRow base e size v n xs := by
  refine ⟨h.1, ?_⟩
  rcases h.2 with h0 | ⟨g, cap, cur, h1, h2, h3, h4⟩
  · exact .inl h0
  · exact .inr ⟨g, cap, cur, h1, h2, (hb.block g (Array.getElem?_eq_some_iff.1 h3).1).trans h3, h4⟩

def ElemRel (w : World) (n : Nat) (v : Value) (f : Nat → Bool) (out k : Value) (wr : World) : Prop :=
  ∃ j : Nat, j ≤ n ∧ k = .int .i64 j ∧ Row wr w.heap.size 26 [.int .i64 (n : Int), v] ∧ wr.ownsRow (w.heap.size + 1) 3 1 out (elems f j).length (ncells (elems f j)) ∧ Below (w.heap.size + 1) (w.alloc (.cells #[.int .i64 (n : Int), v] 26)) wr

set_option maxHeartbeats 400000 in
theorem relements_any (s : Value) (n : Nat) (ws : List UInt64) (w : World) (hs : IsSet w s n ws) :
    Calls Tryd.prog 28 #[s] w (OwnInts (elems (mem n ws) n) w) := by
  have HS := hidden hs
  obtain ⟨v, rfl, hr, hn, hn2⟩ := hs
  obtain ⟨A, d, rfl, _⟩ := hr.slice_
  rw [ucells_length] at HS hr ⊢
  have hG : Grows w (w.alloc (.cells #[.int .i64 (n : Int), .slice A ws.length d] 26)) := (Below.refl _ _).alloc (Nat.le_refl _) _
  have HG := hidden hG
  clear hr hG
  go_enter Tryd.func28, Tryd.ntmps28
  go_wp2
  go_loopw [3, 4] (fun out k wr => ElemRel w n (.slice A ws.length d) (mem n ws) out k wr) (fun _ k _ => n - (intOf k).toNat)
  case atStart => exact ⟨0, by omega, rfl, Row.new w _ _ _ rfl, World.ownsRow_nil _ _ _ _, by simpa using Below.refl _ _⟩
  case round =>
    obtain ⟨j, hj, rfl, r1, hown, hb⟩ := hrel
    have hc0 := r1.cell 0
    have hc1 := r1.cell 1
    simp only [List.getElem?_cons_zero, List.getElem?_cons_succ] at hc0 hc1
    have R1 := hidden r1
    have hgw : Grows w wr := Grows.of_below HG.out (by show Below _ _ _; rw [World.size_alloc]; exact hb)
    have HGW := hidden hgw
    have HB := hidden hb
    have HO := hidden hown
    clear r1 hb hown hgw
    by_cases hlt : j < n
    · have HC := hidden (rcontains_any _ n ws (j : Int) wr (HS.out.grow HGW.out) (by omega) (by omega))
      go_wp2_with fail
      refine (Calls.mono HC.out ?_)
      rintro e w2 ⟨rfl, g2⟩
      have HR1 := hidden (R1.out.grow g2)
      have hsz : w.heap.size + 1 ≤ wr.heap.size := by have := HB.out.size; simpa using this
      have HG2 := hidden (HB.out.trans (g2.mono hsz))
      have HO2 := hidden (ownsRow_grow HO.out g2)
      have hsz2 : w.heap.size + 1 ≤ w2.heap.size := by have := g2.size; omega
      have hcl := cnt_le (mem n ws) j
      have HPL : Hid ((elems (mem n ws) j).length + 1 ≤ 17592186044416) := by show _ ≤ _; rw [elems_length]; omega
      clear g2
      rw [memI_nat]
      by_cases hm : mem n ws j = true
      · rw [hm]
        have HE : Hid (elems (mem n ws) (j + 1) = elems (mem n ws) j ++ [j]) := by show _ = _; rw [elems, if_pos hm]
        clear hm hcl
        go_wp2_with ((at_builtin; go_loud (refine wpList_append_int rfl _ _ rfl _ (elems (mem n ws) j) (by rfl) (w.heap.size + 1) HO2.out _ HG2.out hsz2 _ j rfl (by rfl) HPL.out ?_); intro v' w3 hown3 hb3))
        have HO3 := hidden hown3
        have HB3 := hidden hb3
        have HR3 := hidden (show Row w3 w.heap.size 26 [.int .i64 (n : Int), .slice A ws.length d] from (HB3.out.block _ (Nat.lt_succ_self _)).trans (Row.new w _ _ _ rfl))
        clear hown3 hb3
        go_wp2
        go_roundw
        case rel => exact ⟨j + 1, by omega, by go_num, HR3.out, by rw [HE.out]; exact HO3.out, HB3.out⟩
        case measure => simp [intOf]; omega
      · have hm' : mem n ws j = false := by simpa using hm
        rw [hm']
        have HE : Hid (elems (mem n ws) (j + 1) = elems (mem n ws) j) := by show _ = _; rw [elems, if_neg hm, List.append_nil]
        clear hm hm' hcl
        go_wp2
        go_roundw
        case rel => exact ⟨j + 1, by omega, by go_num, HR1.out, by rw [HE.out]; exact HO2.out, HG2.out⟩
        case measure => simp [intOf]; omega
    · have hje : j = n := by omega
      have HE : Hid (elems (mem n ws) j = elems (mem n ws) n) := by show _ = _; rw [hje]
      clear hje
      go_wp2
      go_ret
      refine ⟨_, rfl, ?_, HGW.out⟩
      have h := HO.out
      rw [HE.out] at h
      exact ownsRow_base h (Nat.le_succ _)

end Go.Proofs.YtaegolkoinjmoaaDoor
