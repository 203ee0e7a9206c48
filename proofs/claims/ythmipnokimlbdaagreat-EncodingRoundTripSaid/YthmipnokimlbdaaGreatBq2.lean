/-
  Shaken: what the claims of this seat need of this text. No condition.
-/
import Derived.Test.YthmipnokimlbdaaGreatM5
import Derived.StillTailTactics
namespace Go.Proofs.YthmipnokimlbdaaGreat
open Go.RowKit
set_option linter.unusedVariables false
set_option linter.unusedSimpArgs false
theorem Row.other {w : World} {g : Nat} {e : TypeId} {xs : List Value} (h : Row w g e xs) {a : Addr} (ha : a.block ≠ g) (u : Value) : Row (w.setCell a u) g e xs := by
  unfold Row at h ⊢
  rw [Below.heap_setCell _ _ _ _ (Ne.symm ha)]
  exact h
theorem bcells_get {l : List UInt8} {j : Nat} {c : UInt8} (h : l[j]? = some c) : (bcells l)[j]? = some (.int .u8 (c.toNat : Int)) := by simp [bcells, h]
theorem bcells_set (l : List UInt8) (j : Nat) (c : UInt8) : (bcells l).set j (.int .u8 (c.toNat : Int)) = bcells (l.set j c) := by simp [bcells, List.map_set]
structure PackSt (w : World) (bw bp bb g : Nat) (l : List Nat) (m p : Nat) : Prop where
  wid : Row w bw 3 [.int .i64 (m : Int)]
  pos : Row w bp 3 [.int .i64 (p : Int)]
  ptr : Row w bb 29 [.slice (some ⟨g, 0, none⟩) (szB l.length m) (szB l.length m)]
  row : Row w g 5 (bcells (partB l m p))
structure Apart (B bw bp bb g : Nat) : Prop where
  lp : B ≤ bp
  lg : B ≤ g
  wp : bp ≠ bw
  pb : bp ≠ bb
  gp : bp ≠ g
  gw : g ≠ bw
  gb : g ≠ bb
theorem PackSt.put {w : World} {B bw bp bb g : Nat} {l : List Nat} {m p c q k : Nat} {x : UInt8} (h : PackSt w bw bp bb g l m p) (ha : Apart B bw bp bb g) (hx : (partB l m p).set k x = partB l m (p + c)) (hq : q = p + c) :
    PackSt ((w.setCell ⟨g, k, none⟩ (.int .u8 (x.toNat : Int))).setCell ⟨bp, 0, none⟩ (.int .i64 (q : Int))) bw bp bb g l m q := by
  subst hq
  have h4 := h.row.set_ k (.int .u8 (x.toNat : Int))
  rw [bcells_set, hx] at h4
  exact ⟨(h.wid.other ha.gw _).other ha.wp _, (h.pos.other ha.gp.symm _).set_ 0 _, (h.ptr.other ha.gb _).other ha.pb _, h4.other ha.gp _⟩
theorem PackSt.drew_ {w : World} {bw bp bb g : Nat} {l : List Nat} {m p : Nat} (h : PackSt w bw bp bb g l m p) : PackSt w.drew bw bp bb g l m p := ⟨h.wid, h.pos, h.ptr, h.row⟩
theorem put_byte {X N c u : Nat} (hX : X < 256) (hN : N < 18446744073709551616) (h8 : u + c ≤ 8) :
    bits .or .u8 (X : Int) (IntKind.u8.wrap (IntKind.u8.wrap (bits .and .u64 (N : Int) ((2 ^ c - 1 : Nat) : Int)) * 2 ^ u)) = ((UInt8.ofNat (X ||| (N % 2 ^ c * 2 ^ u))).toNat : Int) := by
  rw [and_low hN (by omega)]
  have hx : N % 2 ^ c < 2 ^ c := Nat.mod_lt _ (Nat.two_pow_pos c)
  generalize N % 2 ^ c = x at *
  have h1 : 2 ^ c ≤ 256 := Nat.le_trans (Nat.pow_le_pow_right (by decide) (show c ≤ 8 by omega)) (by decide)
  have h2 : x * 2 ^ u < 256 := Nat.lt_of_lt_of_le (Nat.mul_lt_mul_of_pos_right hx (Nat.two_pow_pos u)) (by rw [← Nat.pow_add]; exact Nat.le_trans (Nat.pow_le_pow_right (by decide) (show c + u ≤ 8 by omega)) (by decide))
  have e1 : IntKind.u8.wrap (x : Int) = (x : Int) := by rw [IntKind.wrap_u8]; omega
  have e2 : (x : Int) * 2 ^ u = ((x * 2 ^ u : Nat) : Int) := by simp
  have e3 : IntKind.u8.wrap ((x * 2 ^ u : Nat) : Int) = ((x * 2 ^ u : Nat) : Int) := by rw [IntKind.wrap_u8]; omega
  rw [e1, e2, e3, u8_or_nat _ _ hX h2, UInt8.toNat_ofNat', Nat.mod_eq_of_lt (show X ||| x * 2 ^ u < 2 ^ 8 from Nat.or_lt_two_pow hX h2)]
theorem shr_step {v d c N : Nat} (h : N = v / 2 ^ d) : (N : Int) / 2 ^ c = ((v / 2 ^ (d + c) : Nat) : Int) := by
  subst h
  rw [Nat.pow_add, ← Nat.div_div_eq_div_mul]
  simp
def AddRel (B : Nat) (w : World) (bw bp bb g : Nat) (l : List Nat) (m i v : Nat) (n left : Value) (wr : World) : Prop :=
  ∃ d r : Nat, d + r = m ∧ left = .int .i64 (r : Int) ∧ n = .int .u64 ((v / 2 ^ d : Nat) : Int) ∧ PackSt wr bw bp bb g l m (i * m + d) ∧ Below B w wr
set_option maxRecDepth 8000 in
set_option maxHeartbeats 1000000 in
theorem add_any (B bw bp bb g i m v : Nat) (l : List Nat) (w : World) (hl : l.length ≤ 1048576) (hm : m ≤ 64) (hi : i < l.length) (hv : l[i]? = some v) (hv2 : v < 18446744073709551616) (ha : Apart B bw bp bb g) (hst : PackSt w bw bp bb g l m (i * m)) :
    Calls Tryz.prog 192 #[.int .u64 (v : Int), .pointer (some ⟨bw, 0, none⟩), .pointer (some ⟨bp, 0, none⟩), .pointer (some ⟨bb, 0, none⟩)] w fun e w' => (∃ x, e = .returned x) ∧ PackSt w' bw bp bb g l m (i * m + m) ∧ Below B w w' := by
  have HV := hidden hv
  have HI := hidden hi
  have HA := hidden ha
  have HST := hidden hst
  have cw := hst.wid.cell 0
  simp only [List.getElem?_cons_zero] at cw
  clear hv hi ha hst
  go_enter Tryz.func192, Tryz.ntmps192
  go_wp2_with fail
  go_loopw [0, 5] (fun n left wr => AddRel B w bw bp bb g l m i v n left wr) (fun _ left _ => (intOf left).toNat)
  case atStart => exact ⟨0, m, by omega, rfl, by simp, HST.out, Below.refl _ _⟩
  case round =>
    obtain ⟨d, r, hdr, rfl, rfl, st, hb⟩ := hrel
    by_cases hr : 0 < r
    · obtain ⟨p, hp⟩ : ∃ p, p = i * m + d := ⟨_, rfl⟩
      rw [← hp] at st
      have hpl : p < l.length * m := by
        have := stream_lt (n := l.length) (w := m) (i := i) (k := d) HI.out (by omega)
        omega
      have hlm : l.length * m ≤ 1048576 * 64 := Nat.mul_le_mul hl hm
      have hp8 : p / 8 < szB l.length m := by unfold szB; omega
      have hsz := szB_le hl hm
      obtain ⟨u, hu⟩ : ∃ u, u = p % 8 := ⟨_, rfl⟩
      obtain ⟨c, hc⟩ : ∃ c, c = min (8 - u) r := ⟨_, rfl⟩
      obtain ⟨N, hN⟩ : ∃ N, N = v / 2 ^ d := ⟨_, rfl⟩
      obtain ⟨k, hk⟩ : ∃ k, k = p / 8 := ⟨_, rfl⟩
      obtain ⟨s, hs⟩ : ∃ s, s = szB l.length m := ⟨_, rfl⟩
      have hcell := st.row.cell k
      have cpos := st.pos.cell 0
      have cptr := st.ptr.cell 0
      rw [bcells_get (by rw [hk]; exact partB_cur hp8), cur_byte] at hcell
      simp only [List.getElem?_cons_zero] at cpos cptr
      have cwid := st.wid.cell 0
      simp only [List.getElem?_cons_zero] at cwid
      have hX : curB l m p < 256 := curB_lt l m p
      have HSP := hidden (show (partB l m p).set (p / 8) (UInt8.ofNat (curB l m p ||| (N % 2 ^ c * 2 ^ (p % 8)))) = partB l m (p + c) from partB_span hp8 (by omega) (Nat.mod_lt _ (Nat.two_pow_pos c)) (fun t ht => by
        have h := vbit_at (w := m) (d := d) (c := c) HI.out (by omega) t ht
        have h2 := HV.out
        rw [List.getElem?_eq_getElem HI.out] at h2
        injection h2 with h2
        rw [h2, ← hp] at h
        rw [hN]
        exact h))
      have hN2 : N < 18446744073709551616 := by rw [hN]; exact Nat.lt_of_le_of_lt (Nat.div_le_self _ _) hv2
      have HBY := hidden (put_byte (X := curB l m p) (N := N) (c := c) (u := u) hX hN2 (by omega))
      have frow := st.row.frozen k
      have fpos := st.pos.frozen 0
      have FCP := hidden (fun y : Int => (st.pos.other (a := ⟨g, k, none⟩) HA.out.gp.symm (.int .u8 y)).frozen 0)
      have CCP := hidden (fun y : Int => (st.pos.other (a := ⟨g, k, none⟩) HA.out.gp.symm (.int .u8 y)).cell 0)
      have HSTT := hidden st
      have HB := hidden hb
      have HU := hidden hu
      have HC := hidden hc
      have HK := hidden hk
      have HP := hidden hp
      have HSH := hidden (shr_step (c := c) hN)
      rw [← hk, ← hu] at HSP
      have EU := hidden (show (p : Int) % 8 = (u : Int) by omega)
      have hcase : (8 - (p : Int) % 8 ≤ (r : Int) ∧ 8 - (u : Int) = (c : Int)) ∨ (¬ (8 - (p : Int) % 8 ≤ (r : Int)) ∧ r = c) := by omega
      have hcr : c ≤ r := by omega
      have hc8 : c ≤ 8 := by omega
      have hu8 : u < 8 := by omega
      have hc1 : 1 ≤ c := by omega
      have hp9 : p ≤ 67108864 := by omega
      rw [← hN]
      rw [← hs] at hsz cptr hp8
      rw [← hk] at hp8
      clear st hb hu hc hk hp hN hpl hlm hs
      generalize curB l m p = X at *
      have e64 : IntKind.i64.wrap (k : Int) = (k : Int) := by rw [IntKind.wrap_i64]; omega
      have HKP := hidden (show (p : Int) / 8 = (k : Int) by have := HK.out; omega)
      rcases hcase with ⟨h1, hcc⟩ | ⟨h1, hcc⟩
      · have HCC := hidden hcc
        clear hcc
        go_wp2_with fail
        rw [EU.out, HCC.out]
        refine wp_region_still_tail 13 (by kernel_rfl) (by kernel_rfl) ?_
        simp only [List.take_succ_cons, List.take_zero, List.drop_succ_cons, List.drop_zero]
        change wpStill _ _ wr.drew _ _ _
        have hkp := HKP.out
        have b0 : (0 : Int) ≤ (k : Int) := by omega
        have b1 : (k : Int) < (s : Int) := by omega
        still_step
        still_step
        still_step
        still_step
        still_step
        still_step
        still_step
        still_call (lowBits_any c wr.drew (by omega))
        still_step
        still_step
        still_step
        still_step
        still_step
        refine wpStill_nil ?_
        change wpList _ _ _ _ _ wr.drew
        clear e64 b0 b1 hkp
        rw [HBY.out]
        generalize UInt8.ofNat (X ||| N % 2 ^ c * 2 ^ u) = y at *
        have fcp := FCP.out (y.toNat : Int)
        have ccp := CCP.out (y.toNat : Int)
        simp only [List.getElem?_cons_zero] at ccp
        have hyl := y.toNat_lt
        have HY := hidden (show ((y.toNat : Nat) : Int) % 256 = (y.toNat : Int) by omega)
        go_wp2_with fail
        have hq : ((p + c : Nat) : Int) = (p : Int) + (c : Int) := by omega
        have hs2 := HSTT.out.put HA.out HSP.out rfl
        rw [hq] at hs2
        have hr2 : ((r - c : Nat) : Int) = (r : Int) - (c : Int) := by omega
        have hpd : i * m + (d + c) = p + c := by have := HP.out; omega
        refine ⟨⟨d + c, r - c, by omega, by rw [hr2] <;> simp, by rw [HSH.out], ?_, ?_⟩, by simp [intOf]; omega⟩
        · rw [hpd]
          exact hs2.drew_
        · exact ((HB.out.setCell (p := ⟨g, k, none⟩) HA.out.lg _).setCell (p := ⟨bp, 0, none⟩) HA.out.lp _).drew
      · subst hcc
        go_wp2_with fail
        rw [EU.out]
        refine wp_region_still_tail 13 (by kernel_rfl) (by kernel_rfl) ?_
        simp only [List.take_succ_cons, List.take_zero, List.drop_succ_cons, List.drop_zero]
        change wpStill _ _ wr.drew _ _ _
        have hkp := HKP.out
        have b0 : (0 : Int) ≤ (k : Int) := by omega
        have b1 : (k : Int) < (s : Int) := by omega
        still_step
        still_step
        still_step
        still_step
        still_step
        still_step
        still_step
        still_call (lowBits_any r wr.drew (by omega))
        still_step
        still_step
        still_step
        still_step
        still_step
        refine wpStill_nil ?_
        change wpList _ _ _ _ _ wr.drew
        clear e64 b0 b1 hkp
        rw [HBY.out]
        generalize UInt8.ofNat (X ||| N % 2 ^ r * 2 ^ u) = y at *
        have fcp := FCP.out (y.toNat : Int)
        have ccp := CCP.out (y.toNat : Int)
        simp only [List.getElem?_cons_zero] at ccp
        have hyl := y.toNat_lt
        have HY := hidden (show ((y.toNat : Nat) : Int) % 256 = (y.toNat : Int) by omega)
        go_wp2_with fail
        have hq : ((p + r : Nat) : Int) = (p : Int) + (r : Int) := by omega
        have hs2 := HSTT.out.put HA.out HSP.out rfl
        rw [hq] at hs2
        have hr2 : ((r - r : Nat) : Int) = (r : Int) - (r : Int) := by omega
        have hpd : i * m + (d + r) = p + r := by have := HP.out; omega
        refine ⟨⟨d + r, r - r, by omega, by rw [hr2] <;> simp, by rw [HSH.out], ?_, ?_⟩, by simp [intOf]; omega⟩
        · rw [hpd]
          exact hs2.drew_
        · exact ((HB.out.setCell (p := ⟨g, k, none⟩) HA.out.lg _).setCell (p := ⟨bp, 0, none⟩) HA.out.lp _).drew
    · have hr0 : r = 0 := by omega
      subst hr0
      have hd : d = m := by omega
      subst hd
      have HS := hidden st
      have HB := hidden hb
      clear st hb
      go_wp2_with fail
      go_end0
      exact ⟨⟨_, rfl⟩, HS.out, HB.out⟩
end Go.Proofs.YthmipnokimlbdaaGreat
