/-
  The reference's exceptions and Decode. Nothing that was there is changed.
-/
import Derived.Test.YtjjeebaelpgjlaaFr2
import Derived.Test.YtjjeebaelpgjlaaFrDec
import Derived.Test.YtjjeebaelpgjlaaDec
import Derived.Test.YtjjeebaelpgjlaaLstr
import Derived.Test.YtjjeebaelpgjlaaZig
namespace Go.Proofs.Ytjjeebaelpgjlaa
open Go.RowKit
set_option linter.unusedVariables false
set_option linter.unusedSimpArgs false

theorem wcells_set (l : List Nat) (j c : Nat) : (wcells l).set j (.int .u64 (c : Int)) = wcells (l.set j c) := by
  unfold wcells
  rw [List.map_set]
/-- what exceptions hands back -/
def ExcR (w0 : World) (v : Value) (r : List Nat × Int × Int) (e : Ending) (w' : World) : Prop :=
  e = .returned (.tuple #[.int .i64 r.2.1, .int .i64 r.2.2]) ∧ Below w0.heap.size w0 w' ∧ (r.2.2 = 0 → w'.ownsRow w0.heap.size 50 1 v r.1.length (wcells r.1))
def ExcRel (w0 : World) (v : Value) (b : List UInt8) (W m : Nat) (r : List Nat × Int × Int) (n : Nat) (p k : Value) (wr : World) : Prop :=
  ∃ (j : Nat) (q : Int) (d : List Nat), j ≤ m ∧ k = .int .i64 (j : Int) ∧ p = .int .i64 q ∧ 0 ≤ q ∧ q ≤ b.length ∧ d.length = n ∧ U64 d ∧ excD b W (m - j) q d = r ∧
    wr.ownsRow w0.heap.size 50 1 v n (wcells d) ∧ Below w0.heap.size w0 wr
theorem shl_wrap {h W : Nat} (hh : h < 18446744073709551616) : IntKind.u64.wrap ((h : Int) * 2 ^ W) = ((h * 2 ^ W % 18446744073709551616 : Nat) : Int) := by
  have e : ((2 : Int) ^ W) = ((2 ^ W : Nat) : Int) := by simp
  rw [e, IntKind.wrap_u64]
  generalize 2 ^ W = y at *
  rw [← Int.natCast_mul]
  omega
set_option maxRecDepth 8000 in
set_option maxHeartbeats 4000000 in
theorem rexceptions_any (A : Option Addr) (c : Nat) (b : List UInt8) (p : Int) (m W : Nat) (v : Value) (d : List Nat) (w0 w : World) (hb : IsBytes w0 (.slice A b.length c) b) (hl : b.length ≤ 1048576) (hp0 : 0 ≤ p) (hp1 : p ≤ b.length) (hm : m ≤ 65536) (hW : W ≤ 64)
    (hd : d.length ≤ 65536) (hU : U64 d) (hown : w.ownsRow w0.heap.size 50 1 v d.length (wcells d)) (hg : Below w0.heap.size w0 w) :
    Calls Try.prog 50 #[.slice A b.length c, .int .i64 p, .int .i64 (m : Int), .int .i64 (W : Int), v] w (ExcR w0 v (excD b W m p d)) := by
  have HV := hidden hb
  have HOW := hidden hown
  have HG := hidden hg
  have HUD := hidden hU
  have HDC := hidden (fun o w' hv' h63 h64 => rdecode_any (.slice A b.length c) b o w' hv' (by unfold maxLen; omega) h63 h64)
  obtain ⟨r, hr⟩ : ∃ r, excD b W m p d = r := ⟨_, rfl⟩
  obtain ⟨n, hn⟩ : ∃ n, d.length = n := ⟨_, rfl⟩
  rw [hr]
  rw [hn] at HOW hd
  have HR := hidden hr
  have HN := hidden hn
  have HVF := hidden (show v = .slice none 0 0 ∧ n = 0 ∨ ∃ g cap, v = .slice (some ⟨g, 0, none⟩) n cap by
    rcases HOW.out.2 with ⟨h1, h2⟩ | ⟨g, cap, cur, h1, h2⟩
    · exact .inl ⟨h1, by have := HOW.out.1; rw [h2] at this; simp at this; omega⟩
    · exact .inr ⟨g, cap, h1⟩)
  clear hb hown hg hU hr hn
  obtain ⟨A2, c2, rfl⟩ : ∃ A2 c2, v = .slice A2 n c2 := by
    rcases HVF.out with ⟨h1, h2⟩ | ⟨g, cap, h1⟩
    · exact ⟨none, 0, by rw [h1, h2]⟩
    · exact ⟨_, cap, h1⟩
  go_enter Try.func50, Try.ntmps50
  go_wp2_with fail
  go_loopw [1, 12] (fun p k wr => ExcRel w0 (.slice A2 n c2) b W m r n p k wr) (fun _ k _ => m - (intOf k).toNat)
  case atStart => exact ⟨0, p, d, by omega, rfl, rfl, hp0, hp1, HN.out, HUD.out, HR.out, HOW.out, HG.out⟩
  case round =>
    obtain ⟨j, q, e, hj, rfl, rfl, hq0, hq1, hel, heU, her, hown, hbw⟩ := hrel
    have HOW1 := hidden hown
    have HB := hidden hbw
    have HEL := hidden hel
    have HER := hidden her
    have HEU := hidden heU
    clear hown hbw hel her heU
    by_cases hlt : j < m
    · obtain ⟨i, p1, e1, hd1⟩ : ∃ i p1 e1, dcd b q = (i, p1, e1) := ⟨_, _, _, rfl⟩
      have hb1 := dcd_bd2 hd1
      have HC1 := hidden (HDC.out q wr (HV.out.grow HB.out) (by omega) (by omega))
      rw [hd1] at HC1
      have HD1 := hidden hd1
      obtain ⟨f, hf⟩ : ∃ f, m - j = f + 1 := ⟨m - j - 1, by omega⟩
      have HF := hidden hf
      clear hf hd1
      by_cases he1 : e1 = 0
      · subst he1
        obtain ⟨ha1, ha2, ha3⟩ := hb1.2.2.1 rfl
        obtain ⟨x, p2, e2, hd2⟩ : ∃ x p2 e2, dcd b p1 = (x, p2, e2) := ⟨_, _, _, rfl⟩
        have hb2 := dcd_bd2 hd2
        have HC2 := hidden (HDC.out p1 wr (HV.out.grow HB.out) (by omega) (by omega))
        rw [hd2] at HC2
        have HD2 := hidden hd2
        have hi0 := hb1.1
        have hi1 := hb1.2.1
        have hx0 := hb2.1
        have hx1 := hb2.2.1
        clear hd2 hb1
        by_cases he2 : e2 = 0
        · subst he2
          obtain ⟨hc1, hc2, hc3⟩ := hb2.2.2.1 rfl
          have HN2 := hidden (show excD b W f p2 (putD e i x W) = r by
            have h := HER.out
            rw [HF.out, excD_ok (by rw [HD1.out]) (by rw [HD1.out, HD2.out]), HD1.out, HD2.out] at h
            exact h)
          have HNJ := hidden (show m - (j + 1) = f by have := HF.out; omega)
          have hwn : IntKind.u64.wrap (n : Int) = (n : Int) := by rw [IntKind.wrap_u64]; omega
          clear hb2
          by_cases hin : i < (n : Int)
          · have hdi : decide (i < (n : Int)) = true := by simpa using hin
            by_cases hW64 : W < 64
            · obtain ⟨I, rfl⟩ := Int.eq_ofNat_of_zero_le hi0
              obtain ⟨X, rfl⟩ := Int.eq_ofNat_of_zero_le hx0
              have hIn : I < n := by omega
              obtain ⟨g, rfl⟩ : ∃ g, A2 = some ⟨g, 0, none⟩ := by
                rcases HVF.out with ⟨_, h2⟩ | ⟨g, cap, h1⟩
                · omega
                · injection h1 with h1
                  exact ⟨g, h1⟩
              have hIe : I < e.length := by have := HEL.out; omega
              have hcell := HOW1.out.cellAt I (by omega)
              rw [wcells_get hIe] at hcell
              have hfr := HOW1.out.frozenAt I
              obtain ⟨y, hy⟩ : ∃ y, y = e[I] := ⟨_, rfl⟩
              have hyU : y < 18446744073709551616 := by rw [hy]; exact HEU.out.get hIe
              rw [← hy] at hcell
              have hxU : X < 18446744073709551616 := by omega
              obtain ⟨s, hs⟩ : ∃ s, s = X * 2 ^ W % 18446744073709551616 := ⟨_, rfl⟩
              have hsU : s < 18446744073709551616 := by rw [hs]; exact Nat.mod_lt _ (by decide)
              have hsh := shl_wrap (h := X) (W := W) hxU
              rw [← hs] at hsh
              have hor := u64_or' hyU hsU
              obtain ⟨z, hz⟩ : ∃ z, z = y ||| s := ⟨_, rfl⟩
              rw [← hz] at hor
              obtain ⟨hst, hgr⟩ := HOW1.out.stored I (.int .u64 (z : Int))
              rw [wcells_set] at hst
              have HST := hidden hst
              have hgb := (HOW1.out.lt g rfl).1
              have HBS := hidden (HB.out.setCell (p := ⟨g, I, none⟩) hgb (.int .u64 (z : Int)))
              have HPUT := hidden (show putD e (I : Int) (X : Int) W = e.set I z by
                unfold putD
                rw [if_pos (by rw [HEL.out]; exact hin), Int.toNat_natCast, Int.toNat_natCast, ← hs, List.getD_eq_getElem?_getD, List.getElem?_eq_getElem hIe, Option.getD_some, ← hy, ← hz])
              have HPU := hidden (putD_U64 HEU.out (I : Int) (X : Int) W)
              have hwI : IntKind.i64.wrap (I : Int) = (I : Int) := by rw [IntKind.wrap_i64]; omega
              have hwW : IntKind.u64.wrap (W : Int) = (W : Int) := by rw [IntKind.wrap_u64]; omega
              have hdi2 : decide (I < n) = true := by simpa using hIn
              have hdW : decide ((W : Int) < 64) = true := by simp; omega
              clear hs hy hz hst hgr hyU hsU hin
              go_wp2_with fail
              refine HC1.out.mono ?_
              rintro e w2 ⟨rfl, rfl⟩
              go_wp2_with fail
              refine HC2.out.mono ?_
              rintro e w2 ⟨rfl, rfl⟩
              go_wp2_with fail
              refine ⟨⟨j + 1, p2, e.set I z, by omega, by go_num, rfl, by omega, by omega, by rw [List.length_set]; exact HEL.out, by rw [← HPUT.out]; exact HPU.out, by rw [HNJ.out, ← HPUT.out]; exact HN2.out, HST.out, HBS.out⟩, by simp [intOf]; omega⟩
            · have hW2 : W = 64 := by omega
              have hdW : decide ((W : Int) < 64) = false := by simp; omega
              have HPUT := hidden (show putD e i x W = e by
                rw [hW2]
                unfold putD
                split
                · rw [show x.toNat * 2 ^ 64 % 18446744073709551616 = 0 by omega, Nat.or_zero, List.getD_eq_getElem?_getD]
                  rename_i h
                  have hIe : i.toNat < e.length := by omega
                  rw [List.getElem?_eq_getElem hIe, Option.getD_some, List.set_getElem_self]
                · rfl)
              obtain ⟨I, rfl⟩ := Int.eq_ofNat_of_zero_le hi0
              have hdi2 : decide (I < n) = true := by simpa using hin
              clear hin hW64 hW2
              go_wp2_with fail
              refine HC1.out.mono ?_
              rintro e w2 ⟨rfl, rfl⟩
              go_wp2_with fail
              refine HC2.out.mono ?_
              rintro e w2 ⟨rfl, rfl⟩
              go_wp2_with fail
              refine ⟨⟨j + 1, p2, e, by omega, by go_num, rfl, by omega, by omega, HEL.out, HEU.out, by rw [HNJ.out, ← HPUT.out]; exact HN2.out, HOW1.out, HB.out⟩, by simp [intOf]; omega⟩
          · have hdi : decide (i < (n : Int)) = false := by simpa using hin
            have HPUT := hidden (show putD e i x W = e by
              unfold putD
              rw [if_neg (by rw [HEL.out]; exact hin)])
            obtain ⟨I, rfl⟩ := Int.eq_ofNat_of_zero_le hi0
            have hdi2 : decide (I < n) = false := by simp; omega
            clear hin
            go_wp2_with fail
            refine HC1.out.mono ?_
            rintro e w2 ⟨rfl, rfl⟩
            go_wp2_with fail
            refine HC2.out.mono ?_
            rintro e w2 ⟨rfl, rfl⟩
            go_wp2_with fail
            refine ⟨⟨j + 1, p2, e, by omega, by go_num, rfl, by omega, by omega, HEL.out, HEU.out, by rw [HNJ.out, ← HPUT.out]; exact HN2.out, HOW1.out, HB.out⟩, by simp [intOf]; omega⟩
        · have hE2 : (e2 != 0) = true := by simpa using he2
          have HRR := hidden (show r = ([], 0, e2) by
            have h := HER.out
            rw [HF.out, excD_e2 (by rw [HD1.out]) (by rw [HD1.out, HD2.out]; exact he2), HD1.out, HD2.out] at h
            exact h.symm)
          have HNE := hidden he2
          clear he2 hb2
          go_wp2_with fail
          refine HC1.out.mono ?_
          rintro e w2 ⟨rfl, rfl⟩
          go_wp2_with fail
          refine HC2.out.mono ?_
          rintro e w2 ⟨rfl, rfl⟩
          go_wp2_with fail
          go_ret2
          exact ⟨by rw [HRR.out]; rfl, HB.out, fun h => absurd (by rw [HRR.out] at h; exact h) HNE.out⟩
      · have hE1 : (e1 != 0) = true := by simpa using he1
        have HRR := hidden (show r = ([], 0, e1) by
          have h := HER.out
          rw [HF.out, excD_e1 (by rw [HD1.out]; exact he1), HD1.out] at h
          exact h.symm)
        have HNE := hidden he1
        clear he1 hb1
        go_wp2_with fail
        refine HC1.out.mono ?_
        rintro e w2 ⟨rfl, rfl⟩
        go_wp2_with fail
        go_ret2
        exact ⟨by rw [HRR.out]; rfl, HB.out, fun h => absurd (by rw [HRR.out] at h; exact h) HNE.out⟩
    · have hje : j = m := by omega
      have HRR := hidden (show r = (e, q, 0) by
        have h := HER.out
        rw [hje, Nat.sub_self, excD] at h
        exact h.symm)
      subst hje
      go_wp2_with fail
      go_ret2
      exact ⟨by rw [HRR.out]; rfl, HB.out, fun _ => by rw [HRR.out]; show _; rw [HEL.out]; exact HOW1.out⟩
end Go.Proofs.Ytjjeebaelpgjlaa
