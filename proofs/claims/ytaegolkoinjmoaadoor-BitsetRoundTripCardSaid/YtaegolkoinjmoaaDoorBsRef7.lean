/-
  The reference's Of returns a new set of what the document says; nothing that was there is changed.
-/
import Derived.Test.YtaegolkoinjmoaaDoorBsRef6
import Derived.BigRegion
namespace Go.Proofs.YtaegolkoinjmoaaDoor
open Go.RowKit

def inL (l : List Int) : Nat → Bool := fun j => decide ((j : Int) ∈ l)
theorem inL_nil : inL [] = fun _ => false := by funext j; simp [inL]
theorem inL_hit {n : Nat} {l : List Int} {k : Nat} : pack n (fun j => inL l j || decide (j = k)) = pack n (inL (l ++ [(k : Int)])) := by
  apply pack_congr
  intro j _
  unfold inL
  have e : ((j : Int) = (k : Int)) ↔ j = k := by omega
  by_cases h : (j : Int) ∈ l <;> by_cases h2 : j = k <;> simp [h, h2, e]
theorem inL_miss {n : Nat} {l : List Int} {x : Int} (h : x < 0 ∨ (n : Int) ≤ x) : pack n (inL l) = pack n (inL (l ++ [x])) := by
  apply pack_congr
  intro j hj
  unfold inL
  have : ¬ (j : Int) = x := by omega
  simp [this]

def OfRel (w : World) (n : Nat) (l : List Int) (B g : Nat) (k : Value) (wr : World) : Prop :=
  ∃ j : Nat, j ≤ l.length ∧ k = .int .i64 j ∧ Row wr B 26 [.int .i64 (n : Int), .slice (some ⟨g, 0, none⟩) (nw n) (nw n)] ∧ Row wr g 54 (ucells (pack n (inL (l.take j)))) ∧ (∃ z1 z2, Row wr w.heap.size 26 [z1, z2]) ∧ Below w.heap.size w wr

set_option maxHeartbeats 2000000 in
theorem rof_any (n : Int) (v : Value) (l : List Int) (w : World) (hv : Reads w v (icells l)) (hll : l.length ≤ 1048576) (h63 : -9223372036854775808 ≤ n) (h64 : n ≤ 9223372036854775807) :
    Calls Tryd.prog 12 #[.int .i64 n, v] w (FreshSet (newN n) (pack (newN n) (inL l)) w) := by
  have HV := hidden hv
  obtain ⟨A, c, rfl, _⟩ := hv.slice_
  clear hv
  rw [icells_length] at HV ⊢
  have HL := hidden (pack_length (newN n))
  have hn := newN_le n
  have hnl : nw (newN n) ≤ 20000 := by unfold nw; omega
  have HN0 := hidden (inL_nil)
  go_enter Tryd.func12, Tryd.ntmps12
  go_wp2_with fail
  refine (rnew_any n _ h63 h64).mono ?_
  rintro e w1 ⟨g, hg, rfl, hrow, g1⟩
  generalize newN n = N at *
  rw [HL.out]
  have hB : Grows w w1 := Grows.of_below ((Below.refl _ _).alloc (Nat.le_refl _) _) g1
  have hR0 : Row w1 w.heap.size 26 [.int .i64 0, .slice none 0 0] := (Row.new w _ _ _ rfl).grow g1
  have hg1 : w.heap.size + 1 ≤ g := by simpa using hg
  have hgl := hrow.lt
  have hR2 := hrow.grow (w' := w1.alloc (.cells #[.int .i64 (N : Int), .slice (some ⟨g, 0, none⟩) (nw N) (nw N)] 26)) ((Below.refl _ _).alloc (Nat.le_refl _) _)
  have hR3 := hR0.grow (w' := w1.alloc (.cells #[.int .i64 (N : Int), .slice (some ⟨g, 0, none⟩) (nw N) (nw N)] 26)) ((Below.refl _ _).alloc (Nat.le_refl _) _)
  have hR4 := Row.new w1 26 #[.int .i64 (N : Int), .slice (some ⟨g, 0, none⟩) (nw N) (nw N)] _ rfl
  have hB4 : Grows w (w1.alloc (.cells #[.int .i64 (N : Int), .slice (some ⟨g, 0, none⟩) (nw N) (nw N)] 26)) := hB.alloc hB.size _
  have H2 := hidden hR2
  have H3 := hidden hR3
  have H4 := hidden hR4
  have HB4 := hidden hB4
  have hsz := hB.size
  clear hB hR0 hrow hR2 hR3 hR4 hB4 g1 hg
  go_wp2_with fail
  go_loopw [6] (fun i wr => OfRel w N l w1.heap.size g i wr) (fun i _ => l.length - (intOf i).toNat)
  case atStart => exact ⟨0, by omega, rfl, H4.out, by rw [List.take_zero, HN0.out]; exact H2.out, ⟨_, _, H3.out⟩, HB4.out⟩
  case round =>
    obtain ⟨k, hk, rfl, r1, r2, ⟨z1, z2, r3⟩, hb⟩ := hrel
    have hc0 := r1.cell 0
    have hc1 := r1.cell 1
    simp only [List.getElem?_cons_zero, List.getElem?_cons_succ] at hc0 hc1
    have R1 := hidden r1
    have R2 := hidden r2
    have R3 := hidden r3
    have HB := hidden hb
    clear r1 r2 r3 hb
    by_cases hlt : k < l.length
    · obtain ⟨A', c', he, _, hcell⟩ := HV.out.grow HB.out
      injection he with e1 e2 e3
      subst e1 e3
      obtain ⟨b, off, rfl, hcell2⟩ := hcell (by rw [icells_length]; omega)
      have hbit := hcell2 k (by rw [icells_length]; omega)
      rw [icells_get hlt] at hbit
      have HTK := hidden (List.take_succ_eq_append_getElem hlt)
      clear hcell hcell2 e2
      generalize l[k] = x at *
      by_cases hx0 : 0 ≤ x
      · by_cases hxn : x < (N : Int)
        · obtain ⟨p, rfl⟩ := Int.eq_ofNat_of_zero_le hx0
          have hpn : p < N := by omega
          have hkw : p / 64 < nw N := by unfold nw; omega
          have hkl : p / 64 < (pack N (inL (l.take k))).length := by rw [HL.out]; exact hkw
          have hcw := R2.out.cell (p / 64)
          rw [ucells_get hkl] at hcw
          have hfr := R2.out.frozen (p / 64)
          have hps := pack_set (f := inL (l.take k)) hpn _ (List.getElem?_eq_getElem hkl)
          rw [inL_hit, ← HTK.out] at hps
          have HR := hidden (R2.out.set_ (p / 64) (.int .u64 ((UInt64.ofNat ((pack N (inL (l.take k)))[p / 64].toNat ||| 2 ^ (p % 64))).toNat : Int)))
          have HPS := hidden hps
          have HO' := hidden (or_go' (x := (pack N (inL (l.take k)))[p / 64]) (j := p % 64) (by omega))
          have hxb : (pack N (inL (l.take k)))[p / 64].toNat < 18446744073709551616 := (pack N (inL (l.take k)))[p / 64].toNat_lt
          clear hps
          generalize (pack N (inL (l.take k)))[p / 64] = y at *
          go_wp2_with fail
          go_quiet (fail)
          go_wp2_with fail
          go_region
          go_wp2
          go_roundw
          case rel =>
            have hdr : ∀ m, Grows wr (wr.drewN m) := fun m => below_draws (Below.refl _ _) m
            refine ⟨k + 1, by omega, by go_num, (R1.out.grow (hdr _)).set_other (by show g ≠ _; omega) _, ?_, ⟨_, _, (R3.out.grow (hdr _)).set_other (by show g ≠ _; omega) _⟩, (below_draws HB.out _).setCell (by show w.heap.size ≤ g; omega) _⟩
            have h := (R2.out.grow (hdr (nq + 1))).set_ (p / 64) (.int .u64 ((UInt64.ofNat (y.toNat ||| 2 ^ (p % 64))).toNat : Int))
            rw [ucells_set, HPS.out, ← HO'.out] at h
            exact h
          case measure => simp [intOf]; omega
        · have HM := hidden (inL_miss (n := N) (l := l.take k) (x := x) (by omega))
          go_wp2_with fail
          go_quiet (fail)
          go_wp2_with fail
          go_roundw
          case rel =>
            have hdr : ∀ m, Grows wr (wr.drewN m) := fun m => below_draws (Below.refl _ _) m
            refine ⟨k + 1, by omega, by go_num, R1.out.grow (hdr _), ?_, ⟨_, _, R3.out.grow (hdr _)⟩, below_draws HB.out _⟩
            rw [HTK.out, ← HM.out]
            exact R2.out.grow (hdr _)
          case measure => simp [intOf]; omega
      · have HM := hidden (inL_miss (n := N) (l := l.take k) (x := x) (by omega))
        have hd : decide (0 ≤ x) = false := by simpa using hx0
        go_wp2_with fail
        go_quiet (fail)
        go_wp2_with fail
        go_roundw
        case rel =>
          have hdr : ∀ m, Grows wr (wr.drewN m) := fun m => below_draws (Below.refl _ _) m
          refine ⟨k + 1, by omega, by go_num, R1.out.grow (hdr _), ?_, ⟨_, _, R3.out.grow (hdr _)⟩, below_draws HB.out _⟩
          rw [HTK.out, ← HM.out]
          exact R2.out.grow (hdr _)
        case measure => simp [intOf]; omega
    · have hke : k = l.length := by omega
      have HTL : Hid (l.take k = l) := by show _ = _; rw [hke, List.take_length]
      have HRS := hidden (R3.out.setRow_ [.int .i64 (N : Int), .slice (some ⟨g, 0, none⟩) (nw N) (nw N)] rfl)
      have hnk : l.length ≤ k := by omega
      clear hke
      go_wp2_with (refine wpList_store_set rfl _ _ rfl w.heap.size rfl _ _ _ _ _ rfl R3.out ?_)
      refine bodyPost_ret (results_set rfl _ _ _ _ _ rfl HRS.out) rfl ⟨g, by omega, by rw [HL.out], ?_, below_setRow HB.out (Nat.le_refl _) _⟩
      have h := R2.out
      rw [HTL.out] at h
      unfold Row at h ⊢
      rw [setRow_other _ _ _ _ (by omega)]
      exact h

end Go.Proofs.YtaegolkoinjmoaaDoor
