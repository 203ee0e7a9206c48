/-
  Shaken: what the claims of this seat need of this text. No condition.
-/
import Derived.Test.YtoaklmceejeblaaGreatSkN
import Derived.Test.YtoaklmceejeblaaGreatMk
import Derived.Test.YtoaklmceejeblaaGreatBp3
namespace Go.Proofs.YtoaklmceejeblaaGreat
open Go.RowKit
set_option linter.unusedVariables false
set_option linter.unusedSimpArgs false
theorem info_intO : (Tryz.prog.info? 3).map (fun i => (i.zero, i.size, i.bytes)) = some (some (.int .i64 0), 1, 8) := by kernel_rfl
theorem info_u64O : (Tryz.prog.info? 56).map (fun i => (i.zero, i.size, i.bytes)) = some (some (.int .u64 0), 1, 8) := by kernel_rfl
theorem row_made (W : World) (m : Nat) (z : Value) (e : TypeId) : Row (W.alloc (.cells (Array.replicate m z) e)) W.heap.size e (List.replicate m z) := by
  rw [show Array.replicate m z = (List.replicate m z).toArray by rw [List.toArray_replicate]]
  exact Row.new W e (List.replicate m z).toArray (List.replicate m z) rfl
theorem fill_next {xs : List Value} {m k : Nat} {z y : Value} (hl : xs.length = k) (h : k < m) : (xs ++ List.replicate (m - k) z).set k y = (xs ++ [y]) ++ List.replicate (m - (k + 1)) z := by
  subst hl
  have e : m - xs.length = (m - (xs.length + 1)) + 1 := by omega
  rw [e, List.replicate_succ, List.set_append_right _ _ (Nat.le_refl _), Nat.sub_self, List.set_cons_zero, List.append_assoc]
  rfl
theorem fill_cell {xs : List Value} {m k : Nat} {z : Value} (hl : xs.length = k) (h : k < m) : (xs ++ List.replicate (m - k) z)[k]? = some z := by
  subst hl
  rw [List.getElem?_append_right (Nat.le_refl _), Nat.sub_self, List.getElem?_replicate, if_pos (by omega)]
def NbRel (W0 W1 : World) (g B m : Nat) (sl : Value) (l : List UInt8) (s : RS) (i : Value) (wr : World) : Prop :=
  ∃ k : Nat, k ≤ m ∧ i = .int .i64 (k : Int) ∧ Only (fun j => j = g ∨ j = B) W1 wr ∧ RdRow 108 g sl (rdNs l s k).2 wr ∧ Row wr B 3 (icells (rdNs l s k).1 ++ List.replicate (m - k) (.int .i64 0))
def HsRel (W1 : World) (g B m : Nat) (sl : Value) (l : List UInt8) (s : RS) (h i : Value) (wr : World) : Prop :=
  ∃ k : Nat, k ≤ m ∧ i = .int .i64 (k : Int) ∧ h = .int .u64 ((rdHs l s k).2.1 : Int) ∧ Only (fun j => j = g ∨ j = B) W1 wr ∧ RdRow 108 g sl (rdHs l s k).2.2 wr ∧ Row wr B 56 (wcells (rdHs l s k).1 ++ List.replicate (m - k) (.int .u64 0))
set_option maxRecDepth 8000 in
set_option maxHeartbeats 4000000 in
theorem qnumbers_any (g : Nat) (A : Option Addr) (c : Nat) (l : List UInt8) (s : RS) (m : Nat) (w : World) (hr : Rdr 108 g A c l s w) (hl : l.length ≤ 4611686018427387904) (hm : m ≤ 1000) :
    Calls Tryz.prog 136 #[.pointer (some ⟨g, 0, none⟩), .int .i64 (m : Int)] w fun e w' => ∃ B, e = .returned (.slice (some ⟨B, 0, none⟩) m m) ∧ w.heap.size ≤ B ∧ Only (fun k => k = g) w w' ∧ RdRow 108 g (.slice A l.length c) (rdNs l s m).2 w' ∧ Row w' B 3 (icells (rdNs l s m).1) := by
  have HRR := hidden hr
  have hmk := fun W => run_make_oneM (P := Tryz.prog) 27 3 (.int .i64 0) 8 Tryz.underlying27 info_intO rfl m (by omega) (by omega) W
  have HNB := hidden (fun k X (h : Rdr 108 g A c l (rdNs l s k).2 X) => qnumber_any g A c l (rdNs l s k).2 X h hl)
  have HGL := hidden hr.row.lt
  have HMM := hidden hm
  obtain ⟨W1, hW1⟩ : ∃ W, W = w.alloc (.cells (Array.replicate m (.int .i64 0)) 3) := ⟨_, rfl⟩
  have HG1 := hidden (show Grows w W1 by rw [hW1]; exact growK _ _)
  have HB1 := hidden (show Row W1 w.heap.size 3 (List.replicate m (.int .i64 0)) by rw [hW1]; exact row_made _ _ _ _)
  have HR1 := hidden (HRR.out.grow HG1.out)
  obtain ⟨p0, hrow0, -⟩ := HR1.out.row
  have HROW := hidden hrow0
  clear hr hl hm hrow0
  go_enter Tryz.func136, Tryz.ntmps136
  go_wp2_with fail
  rw [← hW1]
  clear hW1 hmk
  go_loopw [6, 11] (fun _ i wr => NbRel w W1 g w.heap.size m (.slice A l.length c) l s i wr) (fun _ i _ => m - (intOf i).toNat)
  case atStart => exact ⟨0, Nat.zero_le _, rfl, Only.refl _ _, HR1.out.row, by simpa [icells, rdNs] using HB1.out⟩
  case round =>
    obtain ⟨k, hk, rfl, ho, hrd, hrw⟩ := hrel
    have HO := hidden ho
    have HRD := hidden hrd
    have HRW := hidden hrw
    have HLN := hidden (show (icells (rdNs l s k).1).length = k by rw [icells_length, rdNs_len])
    clear ho hrd hrw
    by_cases hlt : k < m
    · have HLT := hidden hlt
      have hd : decide (k < m) = true := decide_eq_true hlt
      have hi0 : (0 : Int) ≤ (k : Int) := by omega
      have hi1 : (k : Int) < (m : Int) := by omega
      have hmb := HMM.out
      have HGB := hidden (show g ≠ w.heap.size by have := HGL.out; omega)
      have HOG := hidden (show Only (fun j => j = g) w wr from (Only.of_grows HG1.out (fun j => j = g)).trans HO.out (fun i hi => by rcases hi with h | h; exact .inl h; exact .inr (by omega)))
      have HQ := hidden (HNB.out k wr (HRR.out.step HOG.out HRD.out))
      go_wp2_with fail
      refine HQ.out.mono ?_
      rintro e w2 ⟨rfl, ho2, hr2⟩
      have HO2 := hidden ho2
      have HR2 := hidden hr2
      have HB2 := hidden (ho2.row HRW.out (fun h => HGB.out h.symm))
      have hcc := HB2.out.cell k
      have hff := HB2.out.frozen k
      rw [fill_cell HLN.out HLT.out] at hcc
      have HSET := hidden (HB2.out.set_m k (.int .i64 (rdNm l (rdNs l s k).2).1))
      have HNX := hidden (show (icells (rdNs l s k).1 ++ List.replicate (m - k) (Value.int .i64 0)).set k (.int .i64 (rdNm l (rdNs l s k).2).1) = icells (rdNs l s (k + 1)).1 ++ List.replicate (m - (k + 1)) (.int .i64 0) by
        have h := fill_next (z := Value.int .i64 0) (y := .int .i64 (rdNm l (rdNs l s k).2).1) HLN.out HLT.out
        have e : icells (rdNs l s (k + 1)).1 = icells (rdNs l s k).1 ++ [.int .i64 (rdNm l (rdNs l s k).2).1] := by show icells ((rdNs l s k).1 ++ [_]) = _; simp [icells]
        rw [e, ← h])
      clear ho2 hr2
      go_wp2_with fail
      go_roundw
      case rel => exact ⟨k + 1, HLT.out, by go_num, (HO.out.trans HO2.out (fun i hi => .inl (.inl hi))).trans (Only.set w2 w.heap.size k _) (fun i hi => .inl (.inr hi)), HR2.out.only (Only.set _ _ _ _) (fun h => HGB.out h), by rw [← HNX.out]; exact HSET.out⟩
      case measure => have := HLT.out; simp [intOf]; omega
    · have hke : k = m := by omega
      subst hke
      have hd : decide (k < k) = false := decide_eq_false hlt
      have HOG := hidden (show Only (fun j => j = g) w wr from (Only.of_grows HG1.out (fun j => j = g)).trans HO.out (fun i hi => by rcases hi with h | h; exact .inl h; exact .inr (by omega)))
      clear hlt hk
      go_wp2_with fail
      go_ret
      refine ⟨w.heap.size, rfl, Nat.le_refl _, HOG.out, HRD.out, ?_⟩
      have h := HRW.out
      rw [Nat.sub_self, List.replicate_zero, List.append_nil] at h
      exact h
theorem wcells_length16 (l : List Nat) : (wcells l).length = l.length := by simp [wcells]
set_option maxRecDepth 8000 in
set_option maxHeartbeats 4000000 in
theorem qhashes_any (g : Nat) (A : Option Addr) (c : Nat) (l : List UInt8) (s : RS) (w : World) (hr : Rdr 108 g A c l s w) (hl : l.length ≤ 4611686018427387904) :
    Calls Tryz.prog 134 #[.pointer (some ⟨g, 0, none⟩)] w fun e w' => ∃ B, e = .returned (.slice (some ⟨B, 0, none⟩) (rdCt l 32 s).1.toNat (rdCt l 32 s).1.toNat) ∧ w.heap.size ≤ B ∧ Only (fun k => k = g) w w' ∧ RdRow 108 g (.slice A l.length c) (rdHs l (rdCt l 32 s).2 (rdCt l 32 s).1.toNat).2.2 w' ∧ Row w' B 56 (wcells (rdHs l (rdCt l 32 s).2 (rdCt l 32 s).1.toNat).1) := by
  have HR0 := hidden hr
  have HLB := hidden hl
  have HCT := hidden (qcount_any g A c l s 32 w hr hl)
  have HCA := hidden (rdCt_all l 32 s (by decide))
  have HGL := hidden hr.row.lt
  generalize rdCt l 32 s = d at *
  obtain ⟨mi, s0⟩ := d
  simp only [] at HCT HCA ⊢
  obtain ⟨m, hm⟩ : ∃ m : Nat, mi = (m : Int) := ⟨mi.toNat, by have := HCA.out; omega⟩
  subst hm
  rw [Int.toNat_natCast]
  have HMM := hidden (show m ≤ 32 by have := HCA.out; omega)
  clear hr hl
  go_enter Tryz.func134, Tryz.ntmps134
  go_wp2_with fail
  refine HCT.out.mono ?_
  rintro e wc ⟨rfl, hoc, hrc⟩
  have HOC := hidden hoc
  have HRR := hidden (HR0.out.step hoc hrc)
  clear hoc hrc
  have hmk := fun W => run_make_oneM (P := Tryz.prog) 26 56 (.int .u64 0) 8 Tryz.underlying26 info_u64O rfl m (by have := HMM.out; omega) (by have := HMM.out; omega) W
  have HNB := hidden (fun k X (h : Rdr 108 g A c l (rdHs l s0 k).2.2 X) => qvarint_any g A c l (rdHs l s0 k).2.2 X h HLB.out)
  obtain ⟨W1, hW1⟩ : ∃ W, W = wc.alloc (.cells (Array.replicate m (.int .u64 0)) 56) := ⟨_, rfl⟩
  have HG1 := hidden (show Grows wc W1 by rw [hW1]; exact growK _ _)
  have HB1 := hidden (show Row W1 wc.heap.size 56 (List.replicate m (.int .u64 0)) by rw [hW1]; exact row_made _ _ _ _)
  have HR1 := hidden (HRR.out.grow HG1.out)
  have HGC := hidden (show g < wc.heap.size from HRR.out.row.lt)
  go_wp2_with fail
  rw [← hW1]
  clear hW1 hmk
  go_loopw [4, 5, 11] (fun h _ i wr => HsRel W1 g wc.heap.size m (.slice A l.length c) l s0 h i wr) (fun _ _ i _ => m - (intOf i).toNat)
  case atStart => exact ⟨0, Nat.zero_le _, rfl, rfl, Only.refl _ _, HR1.out.row, by simpa [wcells, rdHs] using HB1.out⟩
  case round =>
    obtain ⟨k, hk, rfl, rfl, ho, hrd, hrw⟩ := hrel
    have HO := hidden ho
    have HRD := hidden hrd
    have HRW := hidden hrw
    have HLN := hidden (show (wcells (rdHs l s0 k).1).length = k by rw [wcells_length16, rdHs_len])
    clear ho hrd hrw
    by_cases hlt : k < m
    · have HLT := hidden hlt
      have hd : decide (k < m) = true := decide_eq_true hlt
      have hi0 : (0 : Int) ≤ (k : Int) := by omega
      have hi1 : (k : Int) < (m : Int) := by omega
      have hmb := HMM.out
      have HGB := hidden (show g ≠ wc.heap.size by have := HGC.out; omega)
      have HOG := hidden (show Only (fun j => j = g) wc wr from (Only.of_grows HG1.out (fun j => j = g)).trans HO.out (fun i hi => by rcases hi with h | h; exact .inl h; exact .inr (by omega)))
      have HQ := hidden (HNB.out k wr (HRR.out.step HOG.out HRD.out))
      have HVA := hidden (rdV_all l (rdHs l s0 k).2.2)
      have HHL := hidden (rdHs_lt (l := l) (s := s0) (k := k)).1
      obtain ⟨hx, hhx⟩ : ∃ n, n = ((rdHs l s0 k).2.1 + (rdV l (rdHs l s0 k).2.2).1.toNat) % 18446744073709551616 := ⟨_, rfl⟩
      have HE1 := hidden (show (rdHs l s0 (k + 1)).1 = (rdHs l s0 k).1 ++ [hx] by rw [hhx]; rfl)
      have HE2 := hidden (show (rdHs l s0 (k + 1)).2.1 = hx by rw [hhx]; rfl)
      have HE3 := hidden (show (rdHs l s0 (k + 1)).2.2 = (rdV l (rdHs l s0 k).2.2).2 from rfl)
      have hwx : IntKind.u64.wrap (((rdHs l s0 k).2.1 : Int) + (rdV l (rdHs l s0 k).2.2).1) = (hx : Int) := by rw [IntKind.wrap_u64, hhx]; have := HVA.out; omega
      generalize (rdV l (rdHs l s0 k).2.2).1 = vx at *
      generalize (rdHs l s0 k).2.1 = px at *
      clear hhx
      go_wp2_with fail
      refine HQ.out.mono ?_
      rintro e w2 ⟨rfl, ho2, hr2⟩
      have HO2 := hidden ho2
      have HR2 := hidden hr2
      have HB2 := hidden (ho2.row HRW.out (fun h => HGB.out h.symm))
      have hcc := HB2.out.cell k
      have hff := HB2.out.frozen k
      rw [fill_cell HLN.out HLT.out] at hcc
      have HSET := hidden (HB2.out.set_m k (.int .u64 (hx : Int)))
      have HNX := hidden (show (wcells (rdHs l s0 k).1 ++ List.replicate (m - k) (Value.int .u64 0)).set k (.int .u64 (hx : Int)) = wcells (rdHs l s0 (k + 1)).1 ++ List.replicate (m - (k + 1)) (.int .u64 0) by
        have h := fill_next (z := Value.int .u64 0) (y := .int .u64 (hx : Int)) HLN.out HLT.out
        have e : wcells (rdHs l s0 (k + 1)).1 = wcells (rdHs l s0 k).1 ++ [.int .u64 (hx : Int)] := by rw [HE1.out]; simp [wcells]
        rw [e, ← h])
      clear ho2 hr2
      go_wp2_with fail
      go_roundw
      case rel => exact ⟨k + 1, HLT.out, by go_num, by rw [HE2.out], (HO.out.trans HO2.out (fun i hi => .inl (.inl hi))).trans (Only.set w2 wc.heap.size k _) (fun i hi => .inl (.inr hi)), by rw [HE3.out]; exact HR2.out.only (Only.set _ _ _ _) (fun h => HGB.out h), by rw [← HNX.out]; exact HSET.out⟩
      case measure => have := HLT.out; simp [intOf]; omega
    · have hke : k = m := by omega
      subst hke
      have hd : decide (k < k) = false := decide_eq_false hlt
      have HOG := hidden (show Only (fun j => j = g) w wr from HOC.out.trans ((Only.of_grows HG1.out (fun j => j = g)).trans HO.out (fun i hi => by rcases hi with h | h; exact .inl h; exact .inr (by omega))) (fun i hi => .inl hi))
      clear hlt hk
      go_wp2_with fail
      go_ret
      refine ⟨wc.heap.size, rfl, HOC.out.size, HOG.out, HRD.out, ?_⟩
      have h := HRW.out
      rw [Nat.sub_self, List.replicate_zero, List.append_nil] at h
      exact h
end Go.Proofs.YtoaklmceejeblaaGreat
