/-
  checksum.Open returns 'openOf': for every byte slice of up to 2^20 bytes whose capacity holds its length; nothing that was there is changed.
-/
import Derived.Test.YtepahejeeajfbaaCkSeal
namespace Go.Proofs.Ytepahejeeajfbaa
open Go.RowKit

def OpenR (r : List UInt8 × Nat) (w : World) (e : Ending) (w' : World) : Prop :=
  ∃ A d, e = .returned (.tuple #[.slice A r.1.length d, .int .i64 (r.2 : Int)]) ∧ IsBytes w' (.slice A r.1.length d) r.1 ∧ Grows w w'

set_option maxHeartbeats 400000 in
theorem ck_open (A : Option Addr) (d : Nat) (l : List UInt8) (w : World) (hv : IsBytes w (.slice A l.length d) l) (hl : l.length ≤ 1048576) (hd : l.length ≤ d) :
    Calls Try.prog 17 #[.slice A l.length d] w (OpenR (openOf l) w) := by
  by_cases hs : l.length < 4
  · have HO := hidden (openOf_short hs)
    clear hv
    go_enter Try.func17, Try.ntmps17
    go_wp2
    go_ret2
    exact ⟨none, 0, by rw [HO.out]; rfl, by rw [HO.out]; exact IsBytes.nil_ _, Below.refl _ _⟩
  · obtain ⟨n, hn⟩ : ∃ n, l.length = n + 4 := ⟨l.length - 4, by omega⟩
    have e4 : l.length - 4 = n := by omega
    obtain ⟨a, rfl⟩ : ∃ a, A = some a := by
      obtain ⟨A', c', he, hc⟩ := hv
      obtain ⟨b, off, h, _⟩ := hc (by omega)
      injection he with h1
      exact ⟨_, h1.trans h⟩
    have hdl : (l.drop n).length = 4 := by rw [List.length_drop]; omega
    have hrd := readFixed_any _ l (n : Int) 4 w hv (by unfold maxLen; omega) (by omega) (by omega)
    have hrf : rdf l (n : Int) 4 = ((le (l.drop n) : Int), 0) := by
      have := rdf_ok (l := l) (o := n) (s := 4) (by omega) (by omega) (by omega)
      rw [List.take_of_length_le (by omega)] at this
      exact this
    rw [hrf] at hrd
    have HR := hidden hrd
    have hcut := hv.cut (k := n) (by omega) d
    have HT := hidden hcut
    have hcb := crcOf_lt 0 (l.take n)
    have HQ : Hid (crcParts [l.take n] = crcOf 0 (l.take n)) := by show _ = _; simp [crcParts]
    have HI := hidden (le_is_fixb hdl hcb)
    have HOK : Hid (l.drop n = fixb (crcOf 0 (l.take n)) 4 → openOf l = (l.take n, 0)) := by
      intro h
      have := openOf_ok hs (by rw [e4]; exact h)
      rw [e4] at this; exact this
    have HBAD : Hid (l.drop n ≠ fixb (crcOf 0 (l.take n)) 4 → openOf l = ([], 5)) := by
      intro h
      exact openOf_bad hs (by rw [e4]; exact h)
    have htl : (l.take n).length = n := by rw [List.length_take]; omega
    have HTL := hidden htl
    have hxb : le (l.drop n) < 4294967296 := by
      have := le_lt (l.drop n)
      rw [hdl] at this
      exact this
    have hsub : ((l.length : Int) - 4) = (n : Int) := by omega
    have hi0 : (4 : Int) ≤ (l.length : Int) := by omega
    have HN := hidden hn
    have hnd : n ≤ d := by omega
    have hG : ∀ o, Grows w (w.alloc o) := fun o => (Below.refl _ _).alloc (Nat.le_refl _) _
    have HG0 := hidden hG
    clear hs e4 hv hcut hrd hrf hdl hG hn htl
    generalize crcOf 0 (l.take n) = c at *
    generalize le (l.drop n) = x at *
    go_enter Try.func17, Try.ntmps17
    go_wp2_with fail
    refine (Calls.mono HR.out ?_)
    rintro e w' ⟨rfl, rfl⟩
    go_wp2_with fail
    refine (ck_crc _ [l.take n] _ (IsParts.new1 HT.out _ _ _ rfl) (by simp) (by intro y hy; simp at hy; subst hy; have := HTL.out; have := HN.out; omega)).mono ?_
    rintro e w1 ⟨rfl, g1⟩
    have HG1 := hidden (Grows.of_below (HG0.out _) g1)
    clear g1
    rw [HQ.out]
    by_cases hx : x = c
    · have HF := hidden (HOK.out (HI.out.1 hx))
      subst hx
      go_wp2_with fail
      refine (clone_any a n d (l.take n) w1 (HT.out.grow HG1.out) (by have := HTL.out; have := HN.out; omega)).mono ?_
      rintro e w2 ⟨A2, d2, rfl, hb2, g2⟩
      rw [HTL.out] at hb2 ⊢
      have HB2 := hidden hb2
      have HG2 := hidden (Grows.of_below HG1.out g2)
      clear hb2 g2
      go_wp2
      go_ret2
      refine ⟨A2, d2, ?_, ?_, HG2.out⟩
      · rw [HF.out]
        show _ = Ending.returned (.tuple #[.slice A2 (l.take n).length d2, .int .i64 0])
        rw [HTL.out]; rfl
      · rw [HF.out]
        show IsBytes _ (.slice A2 (l.take n).length d2) _
        rw [HTL.out]; exact HB2.out
    · have HF := hidden (HBAD.out (fun h => hx (HI.out.2 h)))
      have hne : ((x : Int) != (c : Int)) = true := by simp; omega
      clear hx
      go_wp2
      go_ret2
      exact ⟨none, 0, by rw [HF.out]; rfl, by rw [HF.out]; exact IsBytes.nil_ _, HG1.out⟩

end Go.Proofs.Ytepahejeeajfbaa
