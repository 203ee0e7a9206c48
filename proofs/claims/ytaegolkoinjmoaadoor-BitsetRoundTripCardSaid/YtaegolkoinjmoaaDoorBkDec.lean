/-
  bitset.decodeRuns reads run lengths until they cover the set and fills it in place; Decode returns what the document says, in new memory.
-/
import Derived.Test.YtaegolkoinjmoaaDoorBkOf
import Derived.Test.YtaegolkoinjmoaaDoorBsRef9
namespace Go.Proofs.YtaegolkoinjmoaaDoor
open Go.RowKit

theorem bitAt_off {n k : Nat} {o : List Bool} : pack n (bitAt o) = pack n (bitAt (o ++ List.replicate k false)) := pack_congr fun j _ => by
  unfold bitAt
  by_cases h : j < o.length
  · rw [List.getElem?_append_left h]
  · rw [List.getElem?_append_right (by omega), List.getElem?_eq_none (by omega), List.getElem?_replicate]
    split <;> rfl
theorem bitAt_on {n k : Nat} {o : List Bool} : pack n (fillF (bitAt o) o.length (o.length + k)) = pack n (bitAt (o ++ List.replicate k true)) := pack_congr fun j _ => by
  unfold fillF bitAt
  by_cases h : j < o.length
  · rw [List.getElem?_append_left h]
    have : ¬ o.length ≤ j := by omega
    simp [this]
  · rw [List.getElem?_append_right (by omega), List.getElem?_eq_none (by omega), List.getElem?_replicate]
    have h1 : o.length ≤ j := by omega
    by_cases h2 : j - o.length < k
    · have h3 : j < o.length + k := by omega
      simp [h1, h2, h3]
    · have h3 : ¬ j < o.length + k := by omega
      simp [h2, h3]
theorem BelowBut.weak {H H' B : Nat} {a b : World} (h : BelowBut H B a b) (hle : H' ≤ H) : BelowBut H' B a b := ⟨h.os, h.tape, h.output, h.size, fun k hk hb => h.block k (by omega) hb⟩
/-- what decodeRuns hands back: the offset, the error; where there is none, the words -/
def DRunR (l : List UInt8) (n g : Nat) (off : Int) (w : World) (e : Ending) (w' : World) : Prop :=
  ∃ ws : List UInt64, e = .returned (.tuple #[.int .i64 (decR l n (n + 2) [] false true off).2.1, .int .i64 (decR l n (n + 2) [] false true off).2.2]) ∧ Row w' g 54 (ucells ws) ∧ ws.length = nw n ∧
    ((decR l n (n + 2) [] false true off).2.2 = 0 → ws = pack n (bitAt (decR l n (n + 2) [] false true off).1)) ∧ BelowBut w.heap.size g w w'
theorem DRunR.mk {l : List UInt8} {n g : Nat} {off q c : Int} {o : List Bool} {w w' : World} {ws : List UInt64} (hd : decR l n (n + 2) [] false true off = (o, q, c)) (hr : Row w' g 54 (ucells ws)) (hl : ws.length = nw n) (hw : c = 0 → ws = pack n (bitAt o)) (hb : BelowBut w.heap.size g w w') :
    DRunR l n g off w (.returned (.tuple #[.int .i64 q, .int .i64 c])) w' := by
  unfold DRunR
  rw [hd]
  exact ⟨ws, rfl, hr, hl, hw, hb⟩
def DRunRel (w : World) (l : List UInt8) (n g : Nat) (off : Int) (p on start : Value) (wr : World) : Prop :=
  ∃ (fuel : Nat) (out : List Bool) (b c : Bool) (q : Int), p = .int .i64 q ∧ on = .bool b ∧ start = .int .i64 (out.length : Int) ∧ 0 ≤ q ∧ q ≤ l.length ∧ out.length ≤ n ∧ c = (decide (out.length = 0) && !b) ∧
    n + 1 < out.length + fuel + (if c then 0 else 1) ∧ decR l n fuel out b c q = decR l n (n + 2) [] false true off ∧ Row wr g 54 (ucells (pack n (bitAt out))) ∧
    Row wr w.heap.size 26 [.int .i64 (n : Int), .slice (some ⟨g, 0, none⟩) (nw n) (nw n)] ∧ BelowBut w.heap.size g w wr
def drLeft (n : Nat) (on start : Value) : Nat := 2 * (n - (intOf start).toNat) + (match on with | .bool false => 1 | _ => 0)
theorem drLeft_lt {n a k : Nat} {o : Bool} (ha : a < n) (_ : a + k ≤ n) (h : o = false ∨ 0 < k) (s : Value) (hs : s = .int .i64 ((a + k : Nat) : Int)) : drLeft n (.bool (!o)) s < drLeft n (.bool o) (.int .i64 (a : Int)) := by
  subst hs
  unfold drLeft
  cases o with
  | false => simp [intOf]; omega
  | true =>
    rcases h with h | h
    · cases h
    · simp [intOf]; omega

set_option maxHeartbeats 4000000 in
theorem decodeRuns_any (n g : Nat) (v : Value) (l : List UInt8) (off : Int) (w0 w : World) (hv : IsBytes w0 v l) (hb0 : Below w0.heap.size w0 w) (hg0 : w0.heap.size ≤ g) (hl : l.length ≤ 1048576) (ho0 : 0 ≤ off) (ho1 : off ≤ l.length) (hn : n ≤ 1048576)
    (hrow : Row w g 54 (ucells (pack n fun _ => false))) :
    Calls Tryd.prog 61 #[.agg #[.int .i64 (n : Int), .slice (some ⟨g, 0, none⟩) (nw n) (nw n)], v, .int .i64 off] w (DRunR l n g off w) := by
  have hgl := hrow.lt
  have HV := hidden hv
  have HB0 := hidden hb0
  have HML : Hid (l.length ≤ maxLen) := by show _ ≤ _; unfold maxLen; omega
  obtain ⟨A, c, rfl, _⟩ := hv
  have hG := hidden (show Grows w (w.alloc (.cells #[.int .i64 (n : Int), .slice (some ⟨g, 0, none⟩) (nw n) (nw n)] 26)) from (Below.refl _ _).alloc (Nat.le_refl _) _)
  have HBX := hidden (Row.new w 26 #[.int .i64 (n : Int), .slice (some ⟨g, 0, none⟩) (nw n) (nw n)] [.int .i64 (n : Int), .slice (some ⟨g, 0, none⟩) (nw n) (nw n)] rfl)
  have hnl : nw n ≤ 20000 := by unfold nw; omega
  have HRW := hidden (show Row w g 54 (ucells (pack n (bitAt []))) from hrow)
  have hws : w0.heap.size ≤ w.heap.size := hb0.size
  clear hrow hb0
  go_enter Tryd.func61, Tryd.ntmps61
  go_wp2_with fail
  go_loopw [2, 8, 9] (fun p on st wr => DRunRel w l n g off p on st wr) (fun _ on st _ => drLeft n on st)
  case atStart => exact ⟨n + 2, [], false, true, off, rfl, rfl, rfl, ho0, ho1, by simp, rfl, by simp, rfl, HRW.out.grow hG.out, HBX.out, .of_below hG.out⟩
  case round =>
    obtain ⟨fuel, out, b, c1, q, rfl, rfl, rfl, hq0, hq1, hol, hc1, hfu, hdec, r1, r2, hbb⟩ := hrel
    have x0 := r2.cell 0
    have x1 := r2.cell 1
    simp only [List.getElem?_cons_zero, List.getElem?_cons_succ] at x0 x1
    have R1 := hidden r1
    have R2 := hidden r2
    have HB := hidden hbb
    have HD := hidden hdec
    have HVR := hidden (HV.out.grow (hbb.up HB0.out hws hg0))
    have HPL := hidden (pack_length n)
    clear r1 r2 hbb hdec
    obtain ⟨a, ha⟩ : ∃ a, a = out.length := ⟨_, rfl⟩
    have HA := hidden ha
    by_cases hlt : a < n
    · obtain ⟨f, rfl⟩ : ∃ f, fuel = f + 1 := by
        rcases Nat.eq_zero_or_pos fuel with h | h
        · subst h
          split at hfu <;> omega
        · exact ⟨fuel - 1, by omega⟩
      have HDE := hidden (decode_any _ l q wr HVR.out HML.out (by omega) (by omega))
      have HBD := hidden (fun h => dcd_bd (l := l) (p := q) h)
      rw [← ha] at hol hc1 hfu ⊢
      by_cases he2 : (dcd l q).2.2 = 0
      · obtain ⟨hn0, hn1, hn3⟩ := HBD.out he2
        obtain ⟨k, hk⟩ := Int.eq_ofNat_of_zero_le hn0
        have HK := hidden hk
        have HBAD := hidden (fun h => decR_bad (l := l) (n := n) (k := f) (out := out) (on := b) (first := c1) (p := q) (by omega) he2 h)
        have HF4 : Hid ((((dcd l q).1 = 0 ∧ c1 = false) ∨ ((n : Int) - out.length < (dcd l q).1)) → ∀ w' : World, Row w' g 54 (ucells (pack n (bitAt out))) → BelowBut w.heap.size g w w' → DRunR l n g off w (.returned (.tuple #[.int .i64 0, .int .i64 4])) w') := by
          intro h w' hr hb
          have h1 := HD.out
          rw [HBAD.out h] at h1
          exact DRunR.mk h1.symm hr (HPL.out _) (fun h => by cases h) hb
        have HNX : Hid (¬ (((dcd l q).1 = 0 ∧ c1 = false) ∨ ((n : Int) - out.length < (dcd l q).1)) → decR l n f (out ++ List.replicate k b) (!b) false (dcd l q).2.1 = decR l n (n + 2) [] false true off) := by
          intro h
          have h1 := HD.out
          rw [decR_next (by omega) he2 h, HK.out, Int.toNat_natCast] at h1
          exact h1
        rw [HK.out, ← ha] at HF4 HNX
        have HE2 := hidden he2
        obtain ⟨p2, hp2⟩ : ∃ p2, p2 = (dcd l q).2.1 := ⟨_, rfl⟩
        rw [← hp2] at HNX hn1 hn3
        have HP2 := hidden hp2
        clear ha
        by_cases hz : a = 0
        · cases b with
          | false =>
            obtain rfl : c1 = true := by rw [hc1]; simp [hz]
            have hzb : ((a : Int) == 0) = true := by simp; omega
            simp at hfu
            have HZ := hidden hz
            clear hc1 hz he2 hk hn0 HBAD hp2 HBD
            by_cases hk0 : k = 0
            · have hkb : ((k : Int) == 0) = true := by simp; omega
              have hcmp : decide ((n : Int) - (a : Int) < (k : Int)) = false := by simp; omega
              have HNB := hidden (HNX.out (fun h => h.elim (fun h1 => by cases h1.2) (fun h1 => by omega)))
              have hfu2 : n + 1 < (a + k) + f + 1 := by omega
              have hkn : a + k ≤ n := by omega
              have HFU := hidden hfu2
              have HLEN := hidden (show (out ++ List.replicate k false).length = a + k by rw [List.length_append, List.length_replicate, ← HA.out])
              have HLT := hidden (drLeft_lt (n := n) (a := a) (k := k) (o := false) hlt hkn (.inl rfl))
              clear hfu hfu2 hk0
              go_wp2_with fail
              refine (Calls.mono HDE.out ?_)
              rintro e' w' ⟨rfl, rfl⟩
              rw [HK.out, HE2.out, ← HP2.out]
              go_wp2_with fail
              go_roundw
              case rel => exact ⟨f, out ++ List.replicate k false, true, false, p2, rfl, rfl, by rw [HLEN.out]; go_num, hn1, hn3, by rw [HLEN.out]; exact hkn, by simp, by rw [HLEN.out]; exact HFU.out, HNB.out, by rw [← bitAt_off]; exact R1.out, R2.out, HB.out⟩
              case measure => exact HLT.out _ (by go_num)
            · have hkb : ((k : Int) == 0) = false := by simp; omega
              by_cases hbig : (n : Int) - (a : Int) < (k : Int)
              · have HF := hidden (HF4.out (.inr hbig) wr R1.out HB.out)
                have hcmp : decide ((n : Int) - (a : Int) < (k : Int)) = true := by simpa using hbig
                clear hk0 hfu hbig
                go_wp2_with fail
                refine (Calls.mono HDE.out ?_)
                rintro e w' ⟨rfl, rfl⟩
                rw [HK.out, HE2.out, ← HP2.out]
                go_wp2
                go_ret2
                exact HF.out
              · have hcmp : decide ((n : Int) - (a : Int) < (k : Int)) = false := by simp; omega
                have HNB := hidden (HNX.out (fun h => h.elim (fun h1 => by cases h1.2) (fun h1 => by omega)))
                have hfu2 : n + 1 < (a + k) + f + 1 := by omega
                have hkn : a + k ≤ n := by omega
                have HFU := hidden hfu2
                have HLEN := hidden (show (out ++ List.replicate k false).length = a + k by rw [List.length_append, List.length_replicate, ← HA.out])
                have HLT := hidden (drLeft_lt (n := n) (a := a) (k := k) (o := false) hlt hkn (.inl rfl))
                clear hfu hfu2 hk0
                go_wp2_with fail
                refine (Calls.mono HDE.out ?_)
                rintro e' w' ⟨rfl, rfl⟩
                rw [HK.out, HE2.out, ← HP2.out]
                go_wp2_with fail
                go_roundw
                case rel => exact ⟨f, out ++ List.replicate k false, true, false, p2, rfl, rfl, by rw [HLEN.out]; go_num, hn1, hn3, by rw [HLEN.out]; exact hkn, by simp, by rw [HLEN.out]; exact HFU.out, HNB.out, by rw [← bitAt_off]; exact R1.out, R2.out, HB.out⟩
                case measure => exact HLT.out _ (by go_num)
          | true =>
            obtain rfl : c1 = false := by rw [hc1]; simp
            have hzb : ((a : Int) == 0) = true := by simp; omega
            simp at hfu
            have HZ := hidden hz
            clear hc1 hz he2 hk hn0 HBAD hp2 HBD
            by_cases hk0 : k = 0
            · have HF := hidden (HF4.out (.inl ⟨by omega, rfl⟩) wr R1.out HB.out)
              have hkb : ((k : Int) == 0) = true := by simp; omega
              clear hk0 hfu
              go_wp2_with fail
              refine (Calls.mono HDE.out ?_)
              rintro e w' ⟨rfl, rfl⟩
              rw [HK.out, HE2.out, ← HP2.out]
              go_wp2
              go_ret2
              exact HF.out
            · have hkb : ((k : Int) == 0) = false := by simp; omega
              by_cases hbig : (n : Int) - (a : Int) < (k : Int)
              · have HF := hidden (HF4.out (.inr hbig) wr R1.out HB.out)
                have hcmp : decide ((n : Int) - (a : Int) < (k : Int)) = true := by simpa using hbig
                clear hk0 hfu hbig
                go_wp2_with fail
                refine (Calls.mono HDE.out ?_)
                rintro e w' ⟨rfl, rfl⟩
                rw [HK.out, HE2.out, ← HP2.out]
                go_wp2
                go_ret2
                exact HF.out
              · have hcmp : decide ((n : Int) - (a : Int) < (k : Int)) = false := by simp; omega
                have HNB := hidden (HNX.out (fun h => h.elim (fun h1 => by have := h1.1; omega) (fun h1 => by omega)))
                have hfu2 : n + 1 < (a + k) + f + 1 := by omega
                have hkn : a + k ≤ n := by omega
                have HFU := hidden hfu2
                have HLEN := hidden (show (out ++ List.replicate k true).length = a + k by rw [List.length_append, List.length_replicate, ← HA.out])
                have HLT := hidden (drLeft_lt (n := n) (a := a) (k := k) (o := true) hlt hkn (.inr (by omega)))
                obtain ⟨e, he⟩ : ∃ e, e = a + k := ⟨_, rfl⟩
                have HE := hidden (show (a : Int) + (k : Int) = (e : Int) by omega)
                have hae : a ≤ e := by omega
                have hen : e ≤ n := by omega
                have HEE := hidden he
                have HKP := hidden (show 0 < k by omega)
                clear he
                clear hfu hfu2 hk0
                go_wp2_with fail
                refine (Calls.mono HDE.out ?_)
                rintro e' w' ⟨rfl, rfl⟩
                rw [HK.out, HE2.out, ← HP2.out]
                go_wp2_with fail
                rw [HE.out]
                refine (fill_any n g a e (bitAt out) wr R1.out hn hae hen).mono ?_
                rintro e' w3 ⟨⟨vv, rfl⟩, p2r, pb⟩
                have HB3 := hidden (HB.out.trans (pb.weak HB.out.size))
                have HR3 := hidden p2r
                have HX3 := hidden (R2.out.but_ pb (by omega))
                clear p2r pb x0 x1
                go_wp2_with fail
                go_roundw
                case rel => exact ⟨f, out ++ List.replicate k true, false, false, p2, rfl, rfl, by rw [HLEN.out]; exact congrArg (Value.int .i64) (by have := HEE.out; omega), hn1, hn3, by rw [HLEN.out]; exact hkn, by rw [HLEN.out]; simp; intro _; have := HKP.out; omega, by rw [HLEN.out]; exact HFU.out, HNB.out, by have h := HR3.out; rw [HEE.out, HA.out, bitAt_on] at h; exact h, HX3.out, HB3.out⟩
                case measure => exact HLT.out _ (by rw [← HEE.out])
        · cases b with
          | false =>
            obtain rfl : c1 = false := by rw [hc1]; simp [hz]
            have hzb : ((a : Int) == 0) = false := by simp; omega
            simp at hfu
            have HZ := hidden hz
            clear hc1 hz he2 hk hn0 HBAD hp2 HBD
            by_cases hk0 : k = 0
            · have HF := hidden (HF4.out (.inl ⟨by omega, rfl⟩) wr R1.out HB.out)
              have hkb : ((k : Int) == 0) = true := by simp; omega
              clear hk0 hfu
              go_wp2_with fail
              refine (Calls.mono HDE.out ?_)
              rintro e w' ⟨rfl, rfl⟩
              rw [HK.out, HE2.out, ← HP2.out]
              go_wp2
              go_ret2
              exact HF.out
            · have hkb : ((k : Int) == 0) = false := by simp; omega
              by_cases hbig : (n : Int) - (a : Int) < (k : Int)
              · have HF := hidden (HF4.out (.inr hbig) wr R1.out HB.out)
                have hcmp : decide ((n : Int) - (a : Int) < (k : Int)) = true := by simpa using hbig
                clear hk0 hfu hbig
                go_wp2_with fail
                refine (Calls.mono HDE.out ?_)
                rintro e w' ⟨rfl, rfl⟩
                rw [HK.out, HE2.out, ← HP2.out]
                go_wp2
                go_ret2
                exact HF.out
              · have hcmp : decide ((n : Int) - (a : Int) < (k : Int)) = false := by simp; omega
                have HNB := hidden (HNX.out (fun h => h.elim (fun h1 => by have := h1.1; omega) (fun h1 => by omega)))
                have hfu2 : n + 1 < (a + k) + f + 1 := by omega
                have hkn : a + k ≤ n := by omega
                have HFU := hidden hfu2
                have HLEN := hidden (show (out ++ List.replicate k false).length = a + k by rw [List.length_append, List.length_replicate, ← HA.out])
                have HLT := hidden (drLeft_lt (n := n) (a := a) (k := k) (o := false) hlt hkn (.inl rfl))
                clear hfu hfu2 hk0
                go_wp2_with fail
                refine (Calls.mono HDE.out ?_)
                rintro e' w' ⟨rfl, rfl⟩
                rw [HK.out, HE2.out, ← HP2.out]
                go_wp2_with fail
                go_roundw
                case rel => exact ⟨f, out ++ List.replicate k false, true, false, p2, rfl, rfl, by rw [HLEN.out]; go_num, hn1, hn3, by rw [HLEN.out]; exact hkn, by simp, by rw [HLEN.out]; exact HFU.out, HNB.out, by rw [← bitAt_off]; exact R1.out, R2.out, HB.out⟩
                case measure => exact HLT.out _ (by go_num)
          | true =>
            obtain rfl : c1 = false := by rw [hc1]; simp
            have hzb : ((a : Int) == 0) = false := by simp; omega
            simp at hfu
            have HZ := hidden hz
            clear hc1 hz he2 hk hn0 HBAD hp2 HBD
            by_cases hk0 : k = 0
            · have HF := hidden (HF4.out (.inl ⟨by omega, rfl⟩) wr R1.out HB.out)
              have hkb : ((k : Int) == 0) = true := by simp; omega
              clear hk0 hfu
              go_wp2_with fail
              refine (Calls.mono HDE.out ?_)
              rintro e w' ⟨rfl, rfl⟩
              rw [HK.out, HE2.out, ← HP2.out]
              go_wp2
              go_ret2
              exact HF.out
            · have hkb : ((k : Int) == 0) = false := by simp; omega
              by_cases hbig : (n : Int) - (a : Int) < (k : Int)
              · have HF := hidden (HF4.out (.inr hbig) wr R1.out HB.out)
                have hcmp : decide ((n : Int) - (a : Int) < (k : Int)) = true := by simpa using hbig
                clear hk0 hfu hbig
                go_wp2_with fail
                refine (Calls.mono HDE.out ?_)
                rintro e w' ⟨rfl, rfl⟩
                rw [HK.out, HE2.out, ← HP2.out]
                go_wp2
                go_ret2
                exact HF.out
              · have hcmp : decide ((n : Int) - (a : Int) < (k : Int)) = false := by simp; omega
                have HNB := hidden (HNX.out (fun h => h.elim (fun h1 => by have := h1.1; omega) (fun h1 => by omega)))
                have hfu2 : n + 1 < (a + k) + f + 1 := by omega
                have hkn : a + k ≤ n := by omega
                have HFU := hidden hfu2
                have HLEN := hidden (show (out ++ List.replicate k true).length = a + k by rw [List.length_append, List.length_replicate, ← HA.out])
                have HLT := hidden (drLeft_lt (n := n) (a := a) (k := k) (o := true) hlt hkn (.inr (by omega)))
                obtain ⟨e, he⟩ : ∃ e, e = a + k := ⟨_, rfl⟩
                have HE := hidden (show (a : Int) + (k : Int) = (e : Int) by omega)
                have hae : a ≤ e := by omega
                have hen : e ≤ n := by omega
                have HEE := hidden he
                have HKP := hidden (show 0 < k by omega)
                clear he
                clear hfu hfu2 hk0
                go_wp2_with fail
                refine (Calls.mono HDE.out ?_)
                rintro e' w' ⟨rfl, rfl⟩
                rw [HK.out, HE2.out, ← HP2.out]
                go_wp2_with fail
                rw [HE.out]
                refine (fill_any n g a e (bitAt out) wr R1.out hn hae hen).mono ?_
                rintro e' w3 ⟨⟨vv, rfl⟩, p2r, pb⟩
                have HB3 := hidden (HB.out.trans (pb.weak HB.out.size))
                have HR3 := hidden p2r
                have HX3 := hidden (R2.out.but_ pb (by omega))
                clear p2r pb x0 x1
                go_wp2_with fail
                go_roundw
                case rel => exact ⟨f, out ++ List.replicate k true, false, false, p2, rfl, rfl, by rw [HLEN.out]; exact congrArg (Value.int .i64) (by have := HEE.out; omega), hn1, hn3, by rw [HLEN.out]; exact hkn, by rw [HLEN.out]; simp; intro _; have := HKP.out; omega, by rw [HLEN.out]; exact HFU.out, HNB.out, by have h := HR3.out; rw [HEE.out, HA.out, bitAt_on] at h; exact h, HX3.out, HB3.out⟩
                case measure => exact HLT.out _ (by rw [← HEE.out])
      · have HERR := hidden (decR_err (l := l) (n := n) (k := f) (out := out) (on := b) (first := c1) (p := q) (by omega) he2)
        have HF : Hid (DRunR l n g off w (.returned (.tuple #[.int .i64 0, .int .i64 (dcd l q).2.2])) wr) := by
          have h1 := HD.out
          rw [HERR.out] at h1
          exact DRunR.mk h1.symm R1.out (HPL.out _) (fun h => absurd h he2) HB.out
        have hd : ((dcd l q).2.2 != 0) = true := by simpa using he2
        clear he2 HBD HERR ha
        go_wp2_with fail
        refine (Calls.mono HDE.out ?_)
        rintro e w' ⟨rfl, rfl⟩
        generalize (dcd l q).2.2 = ec at *
        go_wp2
        go_ret2
        exact HF.out
    · have hae : a = n := by omega
      have hdone : decR l n (n + 2) [] false true off = (out, q, 0) := by
        have h1 := HD.out
        obtain ⟨f, rfl⟩ : ∃ f, fuel = f + 1 := by
          rcases Nat.eq_zero_or_pos fuel with h | h
          · subst h
            split at hfu <;> omega
          · exact ⟨fuel - 1, by omega⟩
        rw [decR_done (by omega)] at h1
        exact h1.symm
      have HF := hidden (DRunR.mk hdone R1.out (HPL.out _) (fun _ => rfl) HB.out)
      have hd : decide (a < n) = false := by simp; omega
      rw [← ha]
      clear hdone hae hfu hc1 ha
      go_wp2
      go_ret2
      exact HF.out
end Go.Proofs.YtaegolkoinjmoaaDoor
