/-
  Texts that the claims of this seat share, put together (BkComb, BkOps). No condition.
-/
import Derived.Test.YtgegjoggiadgbaaM10
import Derived.Deep.RegionHeld3
/-
  Shaken: what the claims of this seat need of this text. No condition.
-/
namespace Go.Proofs.Ytgegjoggiadgbaa
set_option maxRecDepth 8000
open Go.RowKit
theorem comb_step {m k : Nat} {F : Nat → Bool} {x : UInt64} (hk : k < nw m) (hx : ∀ j, j < 64 → wbit x j = F (64 * k + j)) (hF : ∀ i, m ≤ i → F i = false) :
    (pack m (upto F (64 * k))).set k x = pack m (upto F (64 * (k + 1))) := by
  refine pack_upd hk (fun j hj => ?_) (fun i hi hne => ?_)
  · rw [hx j hj]
    unfold upto
    by_cases h : 64 * k + j < m
    · have h2 : 64 * k + j < 64 * (k + 1) := by omega
      simp [h, h2]
    · rw [hF _ (by omega)]; simp
  · unfold upto
    congr 1
    rw [decide_eq_decide]
    omega
theorem grow_cell {w w' : World} {a : Addr} {v : Value} (g : Grows w w') (h : w.cell? a = some v) : w'.cell? a = some v := (g.cell (World.block_lt_of_cell? _ _ h)).trans h
theorem grow_frozen {w w' : World} {a : Addr} {v : Value} (g : Grows w w') (h : w.cell? a = some v) (hf : w.frozen? a = false) : w'.frozen? a = false := (g.frozen (World.block_lt_of_cell? _ _ h)).trans hf
def cellv (w : World) (a : Addr) : Value := (w.cell? a).getD undef
theorem cellv_of {w : World} {a : Addr} {v : Value} (h : w.cell? a = some v) : w.cell? a = some (cellv w a) := by unfold cellv; rw [h]; rfl
theorem grow_cellv {w w' : World} {a : Addr} (g : Grows w w') (h : w.cell? a = some (cellv w a)) : w'.cell? a = some (cellv w' a) := cellv_of (grow_cell g h)
theorem set_cell_other {w : World} {a p : Addr} {u v : Value} (h : w.cell? p = some v) (hne : p.block ≠ a.block) : (w.setCell a u).cell? p = some v := by
  have e : (w.setCell a u).heap[p.block]? = w.heap[p.block]? := Below.heap_setCell _ _ _ _ hne
  exact (World.cell?_of_block e).trans h
theorem set_cellv {w : World} {a : Addr} {u : Value} (h : w.cell? a = some (cellv w a)) : (w.setCell a u).cell? a = some (cellv (w.setCell a u) a) :=
  cellv_of (World.cell?_setCell_same' _ _ _ (by rw [h]; rfl))
def CStep (wr : World) (g : Nat) (old new : List UInt64) (w' : World) : Prop := BelowBut wr.heap.size g wr w' ∧ (Row w' g 53 (ucells old) ∨ Row w' g 53 (ucells new))
theorem CStep.grow {wr : World} {g : Nat} {old new : List UInt64} {w w' : World} (h : Hid (CStep wr g old new w)) (hg : Grows w w') : Hid (CStep wr g old new w') :=
  hidden ⟨h.out.1.trans (BelowBut.of_below (hg.mono h.out.1.size)), h.out.2.imp (·.grow hg) (·.grow hg)⟩
theorem CStep.set {wr : World} {g k : Nat} {old new : List UInt64} {x : UInt64} {w : World} (h : Hid (CStep wr g old new w)) (hn : old.set k x = new) : Hid (CStep wr g old new (w.setCell ⟨g, k, none⟩ (.int .u64 (x.toNat : Int)))) := by
  refine hidden ⟨h.out.1.setCell (p := ⟨g, k, none⟩) rfl _, .inr ?_⟩
  rcases h.out.2 with hr | hr
  · have h2 := hr.set_ k (.int .u64 (x.toNat : Int))
    rw [ucells_set, hn] at h2
    exact h2
  · have h2 := hr.set_ k (.int .u64 (x.toNat : Int))
    rw [ucells_set, ← hn, List.set_set, hn] at h2
    exact h2
theorem row_stored {w : World} {g k : Nat} {e : TypeId} {v : Value} {xs : List Value} (h : Row (w.setCell ⟨g, k, none⟩ v) g e xs) (hk : k < xs.length) : xs[k]? = some v := by
  have h4 := h.cell k
  rw [List.getElem?_eq_getElem hk] at h4 ⊢
  cases hc : w.cell? ⟨g, k, none⟩ with
  | some u =>
    rw [World.cell?_setCell_same' _ _ _ (by rw [hc]; rfl)] at h4
    exact h4.symm
  | none =>
    exfalso
    have h5 := h
    unfold Row at h5
    have hm : (w.setCell ⟨g, k, none⟩ v).heap[g]? = (w.heap.modify g _)[g]? := rfl
    rw [hm, Array.getElem?_modify, if_pos rfl] at h5
    cases ho : w.heap[g]? with
    | none => rw [ho] at h5; cases h5
    | some o =>
      rw [ho] at h5
      cases o with
      | cells cs t f =>
        simp [World.cell?, ho] at hc
        simp at h5
        have := congrArg Array.size h5.1
        simp at this
        omega
      | _ => simp at h5
theorem CStep.done {wr : World} {g k : Nat} {old new : List UInt64} {x : UInt64} {w : World} (h : Hid (CStep wr g old new (w.setCell ⟨g, k, none⟩ (.int .u64 (x.toNat : Int))))) (hn : old.set k x = new) (hk : k < old.length) :
    Hid (Row (w.setCell ⟨g, k, none⟩ (.int .u64 (x.toNat : Int))) g 53 (ucells new)) ∧ Hid (BelowBut wr.heap.size g wr (w.setCell ⟨g, k, none⟩ (.int .u64 (x.toNat : Int)))) := by
  refine ⟨?_, h.out.1⟩
  rcases h.out.2 with hr | hr
  · have h1 := row_stored hr (by rw [ucells_length]; exact hk)
    rw [ucells_get hk] at h1
    have h2 : old[k] = x := by
      injection h1 with h1
      injection h1 with _ h1
      exact UInt64.toNat_inj.1 (by omega)
    have h3 : new = old := by rw [← hn, ← h2, List.set_getElem_self]
    rw [h3]
    exact hidden hr
  · exact hidden hr
theorem CStep.reads {w wr w' : World} {g : Nat} {old new : List UInt64} {v : Value} {xs : List Value} (hr : Reads w v xs) (hb : Below w.heap.size w wr) (hg : w.heap.size ≤ g) (h : Hid (CStep wr g old new w')) : Reads w' v xs :=
  hr.grow (h.out.1.up hb hb.size hg)
def CombRel (w : World) (m B g bs bt : Nat) (F : Nat → Bool) (va vb : Value) (na nb : Nat) (i : Value) (wr : World) : Prop :=
  ∃ k : Nat, k ≤ nw m ∧ i = .int .i64 (k : Int) ∧ Row wr B 30 [.int .i64 (m : Int), .slice (some ⟨g, 0, none⟩) (nw m) (nw m)] ∧ Row wr g 53 (ucells (pack m (upto F (64 * k)))) ∧
    Row wr bs 30 [.int .i64 (na : Int), va] ∧ Row wr bt 30 [.int .i64 (nb : Int), vb] ∧ (∃ z1 z2, Row wr (w.heap.size + 2) 30 [z1, z2]) ∧ Below w.heap.size w wr
set_option maxHeartbeats 2000000 in
theorem combine_any (s t : Value) (na nb : Nat) (wa wb : List UInt64) (gf : Nat) (op : UInt64 → UInt64 → UInt64) (ob : Bool → Bool → Bool) (w : World) (hs : IsSet w s na wa) (ha : okW na wa) (ht : IsSet w t nb wb) (hb : okW nb wb)
    (hob : ∀ x y j, j < 64 → wbit (op x y) j = ob (wbit x j) (wbit y j)) (hob0 : ob false false = false)
    (hent : ∀ args W, (callFunc gf args).run Try.prog W = .ok (.enter gf args) W)
    (hop : ∀ (x y : UInt64) (W : World), Calls Try.prog gf #[.int .u64 (x.toNat : Int), .int .u64 (y.toNat : Int)] W fun e W' => e = .returned (.int .u64 ((op x y).toNat : Int)) ∧ W = W') :
    Calls Try.prog 59 #[s, t, .func (.func gf) #[] #[]] w (FreshSet (max na nb) (pack (max na nb) fun j => ob (mem na wa j) (mem nb wb j)) w) := by
  obtain ⟨v, rfl, hr, hn, hn2⟩ := hs
  obtain ⟨u, rfl, hr', hn', hn2'⟩ := ht
  obtain ⟨m, hm⟩ : ∃ m, m = max na nb := ⟨_, rfl⟩
  rw [← hm]
  obtain ⟨F, hF⟩ : ∃ F : Nat → Bool, F = fun j => ob (mem na wa j) (mem nb wb j) := ⟨_, rfl⟩
  rw [← hF]
  have HFK := hidden (show ∀ k j, j < 64 → wbit (op (wAt wa k) (wAt wb k)) j = F (64 * k + j) from fun k j hj => by rw [hob _ _ _ hj, okW_bit ha hj, okW_bit hb hj, hF])
  have HF0 := hidden (show ∀ i, m ≤ i → F i = false from fun i hi => by rw [hF]; show ob _ _ = false; rw [mem_ge (by omega), mem_ge (by omega)]; exact hob0)
  have hm2 : m ≤ 1048576 := by omega
  have hla : wa.length ≤ 20000 := by rw [ha.1]; unfold nw; omega
  have hlb : wb.length ≤ 20000 := by rw [hb.1]; unfold nw; omega
  have hnl : nw m ≤ 20000 := by unfold nw; omega
  have HRA := hidden hr
  have HRB := hidden hr'
  obtain ⟨A, c, rfl, _⟩ := hr.slice_
  obtain ⟨A', c', rfl, _⟩ := hr'.slice_
  rw [ucells_length] at HRA HRB ⊢
  rw [ucells_length]
  have HM := hidden hm
  have HNN := hidden (newN_nat hm2)
  have HL := hidden (pack_length m)
  clear hr hr' ha hb hF hn hn' hob hob0 hm
  have hBS := ((Row.new w 30 #[.int .i64 (na : Int), .slice A wa.length c] [.int .i64 (na : Int), .slice A wa.length c] rfl).grow (w' := (w.alloc (.cells #[.int .i64 (na : Int), .slice A wa.length c] 30)).alloc (.cells #[.int .i64 (nb : Int), .slice A' wb.length c'] 30)) ((Below.refl _ _).alloc (Nat.le_refl _) _)).grow
    (w' := ((w.alloc (.cells #[.int .i64 (na : Int), .slice A wa.length c] 30)).alloc (.cells #[.int .i64 (nb : Int), .slice A' wb.length c'] 30)).alloc (.cells #[.int .i64 0, .slice none 0 0] 30)) ((Below.refl _ _).alloc (Nat.le_refl _) _)
  have hBT := (Row.at_ (w.alloc (.cells #[.int .i64 (na : Int), .slice A wa.length c] 30)) 30 #[.int .i64 (nb : Int), .slice A' wb.length c'] [.int .i64 (nb : Int), .slice A' wb.length c'] rfl (w.heap.size + 1) (by simp)).grow
    (w' := ((w.alloc (.cells #[.int .i64 (na : Int), .slice A wa.length c] 30)).alloc (.cells #[.int .i64 (nb : Int), .slice A' wb.length c'] 30)).alloc (.cells #[.int .i64 0, .slice none 0 0] 30)) ((Below.refl _ _).alloc (Nat.le_refl _) _)
  have hRS := Row.at_ ((w.alloc (.cells #[.int .i64 (na : Int), .slice A wa.length c] 30)).alloc (.cells #[.int .i64 (nb : Int), .slice A' wb.length c'] 30)) 30 #[.int .i64 0, .slice none 0 0] [.int .i64 0, .slice none 0 0] rfl (w.heap.size + 2) (by simp)
  have hGW : Grows w (((w.alloc (.cells #[.int .i64 (na : Int), .slice A wa.length c] 30)).alloc (.cells #[.int .i64 (nb : Int), .slice A' wb.length c'] 30)).alloc (.cells #[.int .i64 0, .slice none 0 0] 30)) :=
    (((Below.refl _ _).alloc (Nat.le_refl _) _).alloc (by simp) _).alloc (by simp; omega) _
  have s0 := hBS.cell 0
  have t0 := hBT.cell 0
  simp only [List.getElem?_cons_zero] at s0 t0
  have HBS := hidden hBS
  have HBT := hidden hBT
  have HRS := hidden hRS
  have HGW := hidden hGW
  clear hBS hBT hRS hGW
  have HMX := hidden (show max (na : Int) (nb : Int) = (m : Int) by have := HM.out; omega)
  go_enter Try.func59, Try.ntmps59
  go_wp2_with fail
  rw [HMX.out]
  refine (new_any (m : Int) _ (by omega) (by omega)).mono ?_
  rintro e w1 ⟨g, hg, rfl, hrow, g1⟩
  rw [HNN.out] at hrow ⊢
  rw [HL.out]
  have hg1 : w.heap.size + 3 ≤ g := by simpa using hg
  have hgl := hrow.lt
  have hgr : Grows w1 (w1.alloc (.cells #[.int .i64 (m : Int), .slice (some ⟨g, 0, none⟩) (nw m) (nw m)] 30)) := (Below.refl _ _).alloc (Nat.le_refl _) _
  have hx2 := hrow.grow hgr
  rw [pack_zero m F] at hx2
  have HROW := hidden hx2
  have HX := hidden (Row.new w1 30 #[.int .i64 (m : Int), .slice (some ⟨g, 0, none⟩) (nw m) (nw m)] [.int .i64 (m : Int), .slice (some ⟨g, 0, none⟩) (nw m) (nw m)] rfl)
  have HBS1 := hidden ((HBS.out.grow g1).grow hgr)
  have HBT1 := hidden ((HBT.out.grow g1).grow hgr)
  have HRS1 := hidden ((HRS.out.grow g1).grow hgr)
  have HG1 := hidden ((HGW.out.of_below g1).of_below hgr)
  have hsz : w.heap.size + 3 ≤ w1.heap.size := by omega
  clear hrow hx2 hgr g1 hg s0 t0
  go_wp2_with fail
  go_loopw [18] (fun i wr => CombRel w m w1.heap.size g w.heap.size (w.heap.size + 1) F (.slice A wa.length c) (.slice A' wb.length c') na nb i wr) (fun i _ => nw m - (intOf i).toNat)
  case atStart => exact ⟨0, Nat.zero_le _, rfl, HX.out, HROW.out, HBS1.out, HBT1.out, ⟨_, _, HRS1.out⟩, HG1.out⟩
  case round =>
    obtain ⟨k, hk, rfl, r1, r2, r3, r4, ⟨z1, z2, r5⟩, hb⟩ := hrel
    by_cases hlt : k < nw m
    · have a0 := r1.cell 0
      have a1 := r1.cell 1
      have b0 := r3.cell 0
      have b1 := r3.cell 1
      have c0 := r4.cell 0
      have c1 := r4.cell 1
      simp only [List.getElem?_cons_zero, List.getElem?_cons_succ] at a0 a1 b0 b1 c0 c1
      have hkl : k < (pack m (upto F (64 * k))).length := by rw [HL.out]; exact hlt
      have d0 := r2.cell k
      rw [ucells_get hkl] at d0
      have d1 := r2.frozen k
      have HGA := hidden (HRA.out.grow hb)
      have HGB := hidden (HRB.out.grow hb)
      have HNEW := hidden (comb_step (m := m) (F := F) hlt (fun j hj => HFK.out k j hj) HF0.out)
      obtain ⟨old, hold⟩ : ∃ old, old = pack m (upto F (64 * k)) := ⟨_, rfl⟩
      obtain ⟨new, hnew⟩ : ∃ new, new = pack m (upto F (64 * (k + 1))) := ⟨_, rfl⟩
      have HNW := hidden hnew
      rw [← hold, ← hnew] at HNEW
      rw [← hold] at r2 hkl
      have hst : CStep wr g old new wr.drew := ⟨.of_below (Below.refl _ _).drew, .inl (r2.grow (Below.refl _ _).drew)⟩
      have HST := hidden hst
      have d2 := cellv_of d0
      have R1 := hidden r1
      have R3 := hidden r3
      have R4 := hidden r4
      have R5 := hidden r5
      have HB := hidden hb
      clear r1 r2 r3 r4 r5 hb d0 hold hnew hst HGA HGB
      have hk0 : (0 : Int) ≤ (k : Int) := by omega
      have hk1 : (k : Int) < (nw m : Int) := by omega
      have n1 : w1.heap.size ≠ g := by omega
      have n2 : w.heap.size ≠ g := by omega
      have n3 : w.heap.size + 1 ≠ g := by omega
      have n4 : w.heap.size ≤ g := by omega
      go_wp2_with fail
      go_region_held3 (fun w' => w'.cell? ⟨w1.heap.size, 0, none⟩ = some (.int .i64 (m : Int)) ∧ w'.cell? ⟨w1.heap.size, 1, none⟩ = some (.slice (some ⟨g, 0, none⟩) (nw m) (nw m)) ∧
          w'.cell? ⟨w.heap.size, 0, none⟩ = some (.int .i64 (na : Int)) ∧ w'.cell? ⟨w.heap.size, 1, none⟩ = some (.slice A wa.length c) ∧
          w'.cell? ⟨w.heap.size + 1, 0, none⟩ = some (.int .i64 (nb : Int)) ∧ w'.cell? ⟨w.heap.size + 1, 1, none⟩ = some (.slice A' wb.length c') ∧
          w'.cell? ⟨g, k, none⟩ = some (cellv w' ⟨g, k, none⟩) ∧ w'.frozen? ⟨g, k, none⟩ = false ∧ Hid (CStep wr g old new w'))
        (first
          | (go_split_ands
             refine ⟨?_, ?_, ?_, ?_, ?_, ?_, ?_, ?_, ?_⟩
             · first | exact grow_cell g2 (by assumption) | exact set_cell_other (by assumption) n1 | assumption
             · first | exact grow_cell g2 (by assumption) | exact set_cell_other (by assumption) n1 | assumption
             · first | exact grow_cell g2 (by assumption) | exact set_cell_other (by assumption) n2 | assumption
             · first | exact grow_cell g2 (by assumption) | exact set_cell_other (by assumption) n2 | assumption
             · first | exact grow_cell g2 (by assumption) | exact set_cell_other (by assumption) n3 | assumption
             · first | exact grow_cell g2 (by assumption) | exact set_cell_other (by assumption) n3 | assumption
             · first | exact grow_cellv g2 (by assumption) | exact set_cellv (by assumption) | assumption
             · first | exact grow_frozen g2 (by assumption) (by assumption) | (rw [World.frozen?_setCell]; assumption) | assumption
             · first | exact CStep.grow (by assumption) g2 | exact CStep.set (by assumption) HNEW.out | assumption)
          | go_keep)
        (first
          | (go_split_ands; (with_reducible refine (word_any (.slice A wa.length c) (.int .i64 (na : Int)) wa k _ (CStep.reads HRA.out HB.out n4 (by assumption)) (by omega)).mono ?_); rintro e w2 ⟨rfl, g2⟩)
          | (go_split_ands; (with_reducible refine (word_any (.slice A' wb.length c') (.int .i64 (nb : Int)) wb k _ (CStep.reads HRB.out HB.out n4 (by assumption)) (by omega)).mono ?_); rintro e w2 ⟨rfl, g2⟩)
          | ((with_reducible refine (hop _ _ _).mono ?_); rintro e w2 ⟨rfl, rfl⟩))
      go_split_ands
      obtain ⟨F1, F2⟩ := CStep.done (wr := wr) (g := g) (old := old) (new := new) (k := k) (x := op (wAt wa k) (wAt wb k)) (w := w2) (by assumption) HNEW.out hkl
      generalize w2.setCell ⟨g, k, none⟩ (.int .u64 ((op (wAt wa k) (wAt wb k)).toNat : Int)) = w4 at *
      go_wp2
      go_roundw
      case rel =>
        refine ⟨k + 1, by omega, by go_num, R1.out.but_ F2.out n1, by rw [← HNW.out]; exact F1.out, R3.out.but_ F2.out n2, R4.out.but_ F2.out n3, ⟨_, _, R5.out.but_ F2.out (by omega)⟩, F2.out.up HB.out HB.out.size n4⟩
      case measure => simp [intOf]; omega
    · have hke : k = nw m := by omega
      have HA := hidden (pack_all (n := m) (k := 64 * k) (f := F) (by rw [hke]; unfold nw; omega))
      have a0 := r1.cell 0
      have a1 := r1.cell 1
      simp only [List.getElem?_cons_zero, List.getElem?_cons_succ] at a0 a1
      have hd : decide (k < nw m) = false := by simp; omega
      have HRX := hidden (r5.setRow_ [.int .i64 (m : Int), .slice (some ⟨g, 0, none⟩) (nw m) (nw m)] rfl)
      have R2 := hidden r2
      have R5 := hidden r5
      have HB := hidden hb
      clear hke r1 r2 r3 r4 r5 hb
      go_wp2_with (refine wpList_store_set rfl _ _ rfl (w.heap.size + 2) rfl _ _ _ _ _ rfl R5.out ?_)
      refine bodyPost_ret (results_set rfl _ _ _ _ _ rfl HRX.out) rfl ⟨g, by omega, by rw [HL.out], ?_, below_setRow HB.out (by omega) _⟩
      have h := R2.out
      rw [HA.out] at h
      unfold Row at h ⊢
      rw [setRow_other _ _ _ _ (by omega)]
      exact h
end Go.Proofs.Ytgegjoggiadgbaa
/-
  Shaken: what the claims of this seat need of this text. No condition.
-/
namespace Go.Proofs.Ytgegjoggiadgbaa
set_option maxRecDepth 8000
open Go.RowKit
theorem or_op (x y : UInt64) (W : World) : Calls Try.prog 60 #[.int .u64 (x.toNat : Int), .int .u64 (y.toNat : Int)] W fun e W' => e = .returned (.int .u64 ((x ||| y).toNat : Int)) ∧ W = W' := by
  have H := hidden (go_or x y)
  generalize x.toNat = a at *
  generalize y.toNat = b at *
  go_enter Try.func60, Try.ntmps60
  go_wp2
  go_ret
  exact ⟨retU H.out, rfl⟩
set_option maxHeartbeats 400000 in
theorem or_any (s t : Value) (na nb : Nat) (wa wb : List UInt64) (w : World) (hs : IsSet w s na wa) (ha : okW na wa) (ht : IsSet w t nb wb) (hb : okW nb wb) :
    Calls Try.prog 38 #[s, t] w (FreshSet (max na nb) (pack (max na nb) fun j => mem na wa j || mem nb wb j) w) := by
  have HS := hidden hs
  have HT := hidden ht
  have HA := hidden ha
  have HB := hidden hb
  obtain ⟨v, rfl, hr, hn, hn2⟩ := hs
  obtain ⟨A, c, rfl, _⟩ := hr.slice_
  obtain ⟨u, rfl, hr', hn', hn2'⟩ := ht
  obtain ⟨B, d, rfl, _⟩ := hr'.slice_
  have hm : max na nb ≤ 1048576 := by omega
  have HL := hidden (pack_length (max na nb))
  generalize (ucells wa).length = la at *
  generalize (ucells wb).length = lb at *
  obtain ⟨F, hF⟩ : ∃ F : Nat → Bool, F = fun j => mem na wa j || mem nb wb j := ⟨_, rfl⟩
  rw [← hF]
  have HF := hidden hF
  generalize hM : max na nb = M at *
  have HM := hidden hM
  have hG : Grows w (((w.alloc (.cells #[.int .i64 (na : Int), .slice A la c] 30)).alloc (.cells #[.int .i64 (nb : Int), .slice B lb d] 30)).alloc (.cells #[.int .i64 0, .slice none 0 0] 30)) :=
    (((Below.refl _ _).alloc (Nat.le_refl _) _).alloc (by simp) _).alloc (by simp; omega) _
  have HG := hidden hG
  have HR := hidden (Row.at_ ((w.alloc (.cells #[.int .i64 (na : Int), .slice A la c] 30)).alloc (.cells #[.int .i64 (nb : Int), .slice B lb d] 30)) 30 #[.int .i64 0, .slice none 0 0] [.int .i64 0, .slice none 0 0] rfl (w.heap.size + 2) (by simp))
  clear hr hr' hn hn' ha hb hF hG hM
  go_enter Try.func38, Try.ntmps38
  go_wp2_with fail
  refine (combine_any _ _ na nb wa wb 60 (fun x y => x ||| y) (fun x y => x || y) _ (HS.out.grow HG.out) HA.out (HT.out.grow HG.out) HB.out (fun x y j _ => wbit_or x y j) rfl (enters_of Try.func60 (by kernel_rfl) rfl) or_op).mono ?_
  rintro e w1 ⟨g, hg, rfl, hrow, g1⟩
  rw [HM.out] at hrow ⊢
  rw [← HF.out] at hrow
  rw [HL.out]
  have hsz : w.heap.size + 3 ≤ g := by simpa using hg
  have HROW := hidden hrow
  have HR1 := hidden (HR.out.grow g1)
  have HG1 := hidden (HG.out.of_below g1)
  have HRS := hidden (HR1.out.setRow_ [.int .i64 (M : Int), .slice (some ⟨g, 0, none⟩) (nw M) (nw M)] rfl)
  clear hrow g1 hg
  go_wp2_with (refine wpList_store_set rfl _ _ rfl (w.heap.size + 2) rfl _ _ _ _ _ rfl HR1.out ?_)
  refine bodyPost_ret (results_set rfl _ _ _ _ _ rfl HRS.out) rfl ⟨g, by omega, by rw [HL.out], ?_, below_setRow HG1.out (by omega) _⟩
  have h := HROW.out
  unfold Row at h ⊢
  rw [setRow_other _ _ _ _ (by omega)]
  exact h
end Go.Proofs.Ytgegjoggiadgbaa
