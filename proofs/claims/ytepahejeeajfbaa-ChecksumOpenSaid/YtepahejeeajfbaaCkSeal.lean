/-
  checksum.Seal and Open return 'sealOf' and 'openOf': for every byte slice of up to 2^20 bytes; nothing that was there is changed.
-/
import Derived.Test.YtepahejeeajfbaaCkCrc
import Derived.Test.YtepahejeeajfbaaParts
import Derived.Test.YtepahejeeajfbaaVCat
import Derived.Test.YtepahejeeajfbaaVRead
import Derived.Test.YtepahejeeajfbaaRSeal
import Derived.Lib.SliceRun
namespace Go.Proofs.Ytepahejeeajfbaa
open Go.RowKit

theorem ownsRow_base {w : World} {b b' : Nat} {e : TypeId} {size : Nat} {v : Value} {n : Nat} {xs : List Value} (h : w.ownsRow b e size v n xs) (hb : b' ≤ b) : w.ownsRow b' e size v n xs := by
  refine ⟨h.1, ?_⟩
  rcases h.2 with h0 | ⟨g, cap, cur, h1, h2, h3⟩
  · exact .inl h0
  · exact .inr ⟨g, cap, cur, h1, Nat.le_trans hb h2, h3⟩
theorem IsBytes.slice_ {w : World} {v : Value} {l : List UInt8} (h : IsBytes w v l) : ∃ A c, v = .slice A l.length c := by
  obtain ⟨A, c, h1, _⟩ := h; exact ⟨A, c, h1⟩

set_option maxHeartbeats 400000 in
theorem ck_seal (v : Value) (l : List UInt8) (w : World) (hv : IsBytes w v l) (hl : l.length ≤ 1048576) : Calls Try.prog 15 #[v] w (MadeB (sealOf l) w) := by
  have HV := hidden hv
  obtain ⟨A, d, rfl⟩ := hv.slice_
  clear hv
  have hcb := crcOf_lt 0 l
  have HS : Hid (sealOf l = l ++ fixb (crcOf 0 l) 4) := by show _ = _; rfl
  have HQ : Hid (crcParts [l] = crcOf 0 l) := by show _ = _; simp [crcParts]
  have hG : ∀ o, Grows w (w.alloc o) := fun o => (Below.refl _ _).alloc (Nat.le_refl _) _
  go_enter Try.func15, Try.ntmps15
  go_wp2_with fail
  refine (ck_crc _ [l] _ (IsParts.new1 HV.out _ _ _ rfl) (by simp) (by intro x hx; simp at hx; subst hx; exact hl)).mono ?_
  rintro e w1 ⟨rfl, g1⟩
  have HG1 := hidden (Grows.of_below (hG _) g1)
  clear g1 hG
  rw [HQ.out]
  generalize crcOf 0 l = c at *
  go_wp2_with fail
  refine (fixed_any (c : Int) 4 _ (by omega) (by omega)).mono ?_
  rintro e w2 ⟨v2, rfl, hown2, g2⟩
  have hfx : fixs (c : Int).toNat 4 = fixb c 4 := fixs_ok (n := c) (s := 4) (by omega) (by omega)
  rw [hfx] at hown2
  have HB2 := hidden (IsBytes.of_own hown2)
  have HG2 := hidden (Grows.of_below HG1.out g2)
  obtain ⟨A2, d2, rfl⟩ := HB2.out.slice_
  clear hown2 g2 hfx
  have hG2 : ∀ o, Grows w2 (w2.alloc o) := fun o => (Below.refl _ _).alloc (Nat.le_refl _) _
  have HF := hidden (fixb_length c 4)
  go_wp2_with fail
  refine (concat_any _ [l, fixb c 4] _ (IsParts.new2 (HV.out.grow HG2.out) HB2.out _) (by simp [maxLen]) (by simp [total, HF.out]; omega)).mono ?_
  rintro e w3 ⟨v3, rfl, hown3, g3⟩
  have HG3 := hidden (Grows.of_below (Grows.of_below HG2.out (hG2 _)) g3)
  have hsz : w.heap.size ≤ (w2.alloc (.cells #[.slice A l.length d, .slice A2 (fixb c 4).length d2] 22)).heap.size := by have := HG2.out.size; simp; omega
  have HO := hidden (ownsRow_base hown3 hsz)
  clear hown3 g3 hG2 hsz
  go_wp2
  go_ret
  refine ⟨_, rfl, ?_, HG3.out⟩
  have h := HO.out
  rw [HS.out]
  simpa using h

theorem le_inj : ∀ {x y : List UInt8}, x.length = y.length → le x = le y → x = y
  | [], [], _, _ => rfl
  | a :: x, b :: y, hl, h => by
    simp only [le] at h
    have ha : a.toNat < 256 := a.toNat_lt
    have hb : b.toNat < 256 := b.toNat_lt
    have e1 : a.toNat = b.toNat := by omega
    have e2 : le x = le y := by omega
    rw [UInt8.toNat_inj.1 e1, le_inj (by simpa using hl) e2]
theorem le_is_fixb {x : List UInt8} {c : Nat} (hx : x.length = 4) (hc : c < 4294967296) : le x = c ↔ x = fixb c 4 := by
  have h4 : (256 : Nat) ^ 4 = 4294967296 := by decide
  have hf : le (fixb c 4) = c := by rw [le_fixb, h4, Nat.mod_eq_of_lt hc]
  constructor
  · intro h
    exact le_inj (by rw [hx, fixb_length]) (by rw [h, hf])
  · intro h
    rw [h, hf]

def CloneR (l : List UInt8) (w : World) (e : Ending) (w' : World) : Prop :=
  ∃ A d, e = .returned (.slice A l.length d) ∧ IsBytes w' (.slice A l.length d) l ∧ Grows w w'

set_option maxHeartbeats 400000 in
theorem clone_any (a : Addr) (n d : Nat) (l : List UInt8) (w : World) (hv : IsBytes w (.slice (some a) n d) l) (hl : l.length ≤ 1048576) :
    Calls Try.prog 31 #[.slice (some a) n d] w (CloneR l w) := by
  have hn : n = l.length := by
    obtain ⟨A', c', he, _⟩ := hv
    injection he
  subst hn
  have hE : ∀ w, (binOp .eql 22 (.slice (some a) l.length d) (.slice none 0 0)).run Try.prog w = .ok (.bool false) w := fun w => Lib.run_eql_slice_nil (P := Try.prog) w 22 5 (some a) l.length d 0 0 Try.underlying22
  have HO : Hid ((w.alloc (.cells #[] 5)).ownsRow w.heap.size 5 1 (.slice (some ⟨w.heap.size, 0, none⟩) 0 0) ([] : List UInt8).length (bcells [])) := (Row.new w 5 #[] [] rfl).own (Nat.le_refl _) (by simp [maxLen])
  have HB : Hid (Below w.heap.size w (w.alloc (.cells #[] 5))) := (Below.refl _ _).alloc (Nat.le_refl _) _
  have HV := hidden (hv.grow HB.out)
  have HP : Hid (([] : List UInt8).length + l.length ≤ 140737488355328) := by show _ ≤ _; simp; omega
  clear hv
  go_enter Try.func31, Try.ntmps31
  go_wp2_with ((at_builtin; go_loud (refine wpList_append_bytes (w := w) (wr := w.alloc (.cells #[] 5)) rfl (.tmp 5) (.tmp 6) 22 rfl 5 Try.underlying22 info8 _ [] (by rfl) HO.out HB.out _ l (by rfl) HV.out HP.out ?_); intro v2 w2 hown2 hnx2))
  rw [List.nil_append] at hown2
  have HB2 := hidden (IsBytes.of_own hown2)
  have HN2 := hidden hnx2
  clear hown2 hnx2
  obtain ⟨A2, d2, rfl⟩ := HB2.out.slice_
  go_wp2
  go_ret
  exact ⟨A2, d2, rfl, HB2.out, HN2.out⟩

end Go.Proofs.Ytepahejeeajfbaa
