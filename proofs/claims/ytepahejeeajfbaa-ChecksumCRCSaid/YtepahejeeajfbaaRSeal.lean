/-
  The reference's Seal and Open return 'sealOf' and 'openOf': for every byte slice of up to 2^46 bytes; nothing that was there is changed.
-/
import Derived.Test.YtepahejeeajfbaaRCrc
import Derived.Test.YtepahejeeajfbaaHashNum
import Derived.OwnWalk
namespace Go.Proofs.Ytepahejeeajfbaa
open Go.RowKit

theorem info8 : (Try.prog.info? 5).map (fun i => (i.zero, i.size, i.bytes)) = some (some (.int .u8 0), 1, 1) := by kernel_rfl
def MadeB (l : List UInt8) (w : World) (e : Ending) (w' : World) : Prop :=
  ∃ v, e = .returned v ∧ w'.ownsRow w.heap.size 5 1 v l.length (bcells l) ∧ Below w.heap.size w w'

def RSealRel (w : World) (l : List UInt8) (out i : Value) (wr : World) : Prop :=
  ∃ k : Nat, k ≤ 4 ∧ i = .int .i64 k ∧ wr.ownsRow w.heap.size 5 1 out (l ++ fixb (crcOf 0 l) k).length (bcells (l ++ fixb (crcOf 0 l) k)) ∧ Below w.heap.size w wr

set_option maxHeartbeats 400000 in
theorem rseal_any (v : Value) (l : List UInt8) (w : World) (hv : IsBytes w v l) (hl : l.length ≤ 70368744177664) :
    Calls Try.prog 16 #[v] w (MadeB (sealOf l) w) := by
  have hml : l.length ≤ maxLen := by unfold maxLen; omega
  have HV := hidden hv
  have hc := crcOf_lt 0 l
  have hp0 : ([] : List UInt8).length + l.length ≤ 140737488355328 := by simp; omega
  have HP0 := hidden hp0
  have HS : Hid (sealOf l = l ++ fixb (crcOf 0 l) 4) := by show _ = _; rfl
  clear hv hp0
  go_enter Try.func16, Try.ntmps16
  go_wp2_with ((at_builtin; refine wpList_append_bytes (w := w) (wr := w) rfl (.tmp 6) (.tmp 7) 22 rfl 5 Try.underlying22 info8 _ [] (by rfl) (World.ownsRow_nil _ _ _ _) (Below.refl _ _) _ l (by rfl) HV.out HP0.out ?_; intro v2 w2 hown2 hnx2))
  have HO2 := hidden hown2
  have HN2 := hidden hnx2
  have HU := hidden (fun h => rupdate_any 0 v l w2 (by decide) (HV.out.grow hnx2) h)
  clear hown2 hnx2
  go_wp2_with fail
  refine (Calls.mono (HU.out hml) ?_)
  rintro e w' ⟨rfl, rfl⟩
  have HF := hidden (fixb_succ (crcOf 0 l))
  have HB := hidden (fix_byte (crcOf 0 l))
  have HLn := hidden (fixb_length (crcOf 0 l))
  go_wp2_with fail
  go_loopw [3, 5] (fun out i wr => RSealRel w l out i wr) (fun _ i _ => 4 - (intOf i).toNat)
  case atStart => exact ⟨0, by omega, rfl, by simpa [fixb] using HO2.out, HN2.out⟩
  case round =>
    obtain ⟨k, hk, rfl, hown, hnx⟩ := hrel
    by_cases hlt : k < 4
    · have hz : Hid (IntKind.u8.wrap ((crcOf 0 l : Int) / 2 ^ (8 * k)) = ((UInt8.ofNat (crcOf 0 l / 256 ^ k % 256)).toNat : Int)) := by
        show IntKind.u8.wrap ((crcOf 0 l : Int) / 2 ^ (8 * k)) = _
        rw [HB.out, ofNat_toNat (by omega)]
      have hpl : (l ++ fixb (crcOf 0 l) k).length + 1 ≤ 140737488355328 := by rw [List.length_append, HLn.out]; omega
      have HP := hidden hpl
      clear hpl
      go_wp2_with ((at_builtin; go_loud (refine wpList_append_byte (w := w) (wr := wr) rfl _ _ 22 rfl 5 Try.underlying22 info8 _ (l ++ fixb (crcOf 0 l) k) (by rfl) hown hnx _ (UInt8.ofNat (crcOf 0 l / 256 ^ k % 256)) hz.out (by rfl) HP.out ?_); intro v' w1 hown1 hnx1))
      go_roundw
      case rel =>
        refine ⟨k + 1, by omega, by go_num, ?_, hnx1⟩
        rw [HF.out, ← List.append_assoc]; exact hown1
      case measure => simp [intOf]; omega
    · have hke : k = 4 := by omega
      subst hke
      have h3 := hown
      rw [← HS.out] at h3
      have HO := hidden h3
      clear h3 hown
      go_wp2
      go_ret
      exact ⟨_, rfl, HO.out, hnx⟩

theorem IsBytes.cut {w : World} {A : Option Addr} {n c : Nat} {l : List UInt8} (h : IsBytes w (.slice A n c) l) {k : Nat} (hk : k ≤ l.length) (c' : Nat) : IsBytes w (.slice A k c') (l.take k) := by
  obtain ⟨A', c0, hA, hc⟩ := h
  injection hA with e1 e2 e3
  subst e1
  have hl : (l.take k).length = k := by rw [List.length_take]; omega
  refine ⟨A, c', by rw [hl], fun hp => ?_⟩
  rw [hl] at hp
  obtain ⟨b, off, rfl, hcell⟩ := hc (by omega)
  refine ⟨b, off, rfl, fun j hj => ?_⟩
  rw [hl] at hj
  rw [hcell j (by omega)]
  simp

/-- a slice and an error -/
def MadeE (r : List UInt8 × Nat) (w : World) (e : Ending) (w' : World) : Prop :=
  ∃ v, e = .returned (.tuple #[v, .int .i64 (r.2 : Int)]) ∧ w'.ownsRow w.heap.size 5 1 v r.1.length (bcells r.1) ∧ Below w.heap.size w w'

def ROpenRel (l : List UInt8) (n c : Nat) (i : Value) : Prop := ∃ k : Nat, k ≤ 4 ∧ i = .int .i64 k ∧ (l.drop n).take k = fixb c k

set_option maxHeartbeats 400000 in
theorem ropen_any (A : Option Addr) (d : Nat) (l : List UInt8) (w : World) (hv : IsBytes w (.slice A l.length d) l) (hl : l.length ≤ 70368744177664) (hd : l.length ≤ d) :
    Calls Try.prog 18 #[.slice A l.length d] w (MadeE (openOf l) w) := by
  by_cases hs : l.length < 4
  · have HO := hidden (openOf_short hs)
    have h4 : (l.length : Int) - 4 < 0 := by omega
    clear hs hv
    go_enter Try.func18, Try.ntmps18
    go_wp2
    go_ret2
    exact ⟨_, by rw [HO.out]; rfl, by rw [HO.out]; exact World.ownsRow_nil _ _ _ _, Below.refl _ _⟩
  · obtain ⟨n, hn⟩ : ∃ n, l.length = n + 4 := ⟨l.length - 4, by omega⟩
    have e4 : l.length - 4 = n := by omega
    have HV := hidden hv
    have hcut := hv.cut (k := n) (by omega) d
    have hcl : (l.take n).length = n := by rw [List.length_take]; omega
    have HU := hidden (fun h => rupdate_any 0 _ (l.take n) w (by decide) hcut h)
    have hcb := crcOf_lt 0 (l.take n)
    have HOK : Hid (l.drop n = fixb (crcOf 0 (l.take n)) 4 → openOf l = (l.take n, 0)) := by
      intro h
      have := openOf_ok hs (by rw [e4]; exact h)
      rw [e4] at this; exact this
    have HBAD : Hid (l.drop n ≠ fixb (crcOf 0 (l.take n)) 4 → openOf l = ([], 5)) := by
      intro h
      exact openOf_bad hs (by rw [e4]; exact h)
    have HX := hidden (fixb_succ (crcOf 0 (l.take n)))
    have HLn := hidden (fixb_length (crcOf 0 (l.take n)))
    have HB := hidden (fix_byte (crcOf 0 (l.take n)))
    have HT := hidden hcut
    generalize hg : crcOf 0 (l.take n) = c at *
    have HN := hidden hn
    have hi0 : (0 : Int) ≤ (l.length : Int) - 4 := by omega
    have hi1 : (n : Int) ≤ (d : Int) := by omega
    have hsub : ((l.length : Int) - 4) = (n : Int) := by omega
    have hll : l.length ≤ 70368744177664 := hl
    have HC := hidden hcl
    clear hg hs e4 hv hcut hcl hn
    go_enter Try.func18, Try.ntmps18
    go_wp2_with fail
    refine (Calls.mono (HU.out (by rw [HC.out]; unfold maxLen; omega)) ?_)
    rintro e w' ⟨rfl, rfl⟩
    clear HU
    go_wp2_with fail
    go_loop [6] (ROpenRel l n c) (fun i => 4 - (intOf i).toNat)
    case atStart => exact ⟨0, by omega, rfl, by simp [fixb]⟩
    case round =>
      obtain ⟨k, hk, rfl, hsame⟩ := hrel
      have HS := hidden hsame
      clear hsame
      have hn2 := HN.out
      by_cases hlt : k < 4
      · have hlt2 : n + k < l.length := by omega
        obtain ⟨A', d', hA, hcA⟩ := HV.out
        injection hA with e1 e2 e3
        subst e1 e3
        obtain ⟨b, off, rfl, hcell⟩ := hcA (by omega)
        have hcl := hcell (n + k) hlt2
        have hts := take_snoc' (l := l) (o := n) (k := k) hlt2
        have HTS := hidden hts
        have hle : n + k + 1 ≤ l.length := by omega
        have hb2 : (c : Int) / 2 ^ (8 * k) % 256 = ((c / 256 ^ k % 256 : Nat) : Int) := by rw [← IntKind.wrap_u8']; exact HB.out k
        clear hcell hcA e2 hts hn2
        by_cases heq : l[n + k].toNat = c / 256 ^ k % 256
        · have HN1 : Hid ((l.drop n).take (k + 1) = fixb c (k + 1)) := by
            show _ = _
            rw [HTS.out, HX.out, HS.out, ← heq, UInt8.ofNat_toNat]
          have ht : ((l[n + k].toNat : Int) != (c : Int) / 2 ^ (8 * k) % 256) = false := by rw [hb2, heq]; simp
          clear heq hb2
          generalize l[n + k].toNat = x at *
          go_wp2
          go_round
          case rel => exact ⟨k + 1, by omega, by go_num, HN1.out⟩
          case measure => simp [intOf]; omega
        · have HF : Hid (openOf l = ([], 5)) := by
            apply HBAD.out
            intro h
            apply heq
            have h5 := HTS.out
            have h6 : (fixb c 4).take (k + 1) = fixb c (k + 1) := by
              unfold fixb
              rw [← List.map_take, List.take_range, Nat.min_eq_left (by omega)]
            rw [h, h6, HX.out, ← HS.out, h] at h5
            have h7 := List.append_cancel_left h5
            have h8 := congrArg UInt8.toNat (List.cons.inj h7).1
            rw [ofNat_toNat (by omega)] at h8
            exact h8.symm
          have ht : ((l[n + k].toNat : Int) != (c : Int) / 2 ^ (8 * k) % 256) = true := by
            rw [hb2]
            generalize c / 256 ^ k % 256 = q at *
            simp; omega
          clear heq hb2
          generalize l[n + k].toNat = x at *
          go_wp2
          go_ret2
          exact ⟨_, by rw [HF.out]; rfl, by rw [HF.out]; exact World.ownsRow_nil _ _ _ _, Below.refl _ _⟩
      · have HF : Hid (openOf l = (l.take n, 0)) := by
          apply HOK.out
          have h5 := HS.out
          rw [show k = 4 by omega, List.take_of_length_le (by rw [List.length_drop]; omega)] at h5
          exact h5
        have hp0 : ([] : List UInt8).length + (l.take n).length ≤ 140737488355328 := by rw [HC.out]; simp; omega
        have HP0 := hidden hp0
        clear hp0 hn2
        go_wp2_with ((at_builtin; go_loud (refine wpList_append_bytes (w := w) (wr := w) rfl (.tmp 34) (.tmp 37) 22 rfl 5 Try.underlying22 info8 _ [] (by rfl) (World.ownsRow_nil _ _ _ _) (Below.refl _ _) _ (l.take n) (by rfl) HT.out HP0.out ?_); intro v2 w2 hown2 hnx2))
        go_ret2
        rw [List.nil_append] at hown2
        exact ⟨_, by rw [HF.out]; rfl, by rw [HF.out]; exact hown2, hnx2⟩

end Go.Proofs.Ytepahejeeajfbaa
