/-
  Texts that the claims of this seat share, put together (Bq3, Bp4). No condition.
-/
import Derived.Test.YthmipnokimlbdaaGreatBq2
import Derived.Test.YthmipnokimlbdaaGreatBp3
/-
  Shaken: what the claims of this seat need of this text. No condition.
-/
namespace Go.Proofs.YthmipnokimlbdaaGreat
set_option maxRecDepth 8000
open Go.RowKit
set_option linter.unusedVariables false
set_option linter.unusedSimpArgs false
def packI (l : List Nat) (m : Int) : List UInt8 := if okB l.length m then packL l m.toNat else []
def ByR (r : List UInt8) (w : World) (e : Ending) (w' : World) : Prop := ∃ v, e = .returned v ∧ Grows w w' ∧ IsBytes w' v r
theorem info_byte : (Tryz.prog.info? 5).map (fun i => (i.zero, i.size, i.bytes)) = some (some (.int .u8 0), 1, 1) := by kernel_rfl
theorem made_bcells (n : Nat) : madeCells #[Value.int .u8 0] n = (bcells (List.replicate n 0)).toArray := by
  apply Array.toList_inj.1
  rw [toList_madeCells_one]
  simp [bcells]
def PackRel (w : World) (l : List Nat) (m : Nat) (i : Value) (wr : World) : Prop :=
  ∃ k : Nat, k ≤ l.length ∧ i = .int .i64 (k : Int) ∧ PackSt wr w.heap.size (w.heap.size + 1 + 1 + 1) (w.heap.size + 1 + 1) (w.heap.size + 1) l m (k * m) ∧ Below w.heap.size w wr
set_option maxHeartbeats 1000000 in
theorem pack_any (v : Value) (l : List Nat) (m : Int) (w : World) (hv : IsW w v l) (hU : U64 l) (hl : l.length ≤ 1000000000000) :
    Calls Tryz.prog 138 #[v, .int .i64 m] w (ByR (packI l m) w) := by
  have hmf : ∀ (fn : Fn) (first cap : Array Value) (w : World), (Instr.makeFunc fn first cap).run Tryz.prog w = .ok (.func fn first cap) w := fun _ _ _ _ => rfl
  obtain ⟨A, c, rfl⟩ := hv.slice_
  have HV := hidden hv
  have HU := hidden hU
  have HN := hidden (fun w => validN_any (l.length : Int) w)
  have HM := hidden (fun w => validM_any m w)
  have HG := hidden (show Grows w (w.alloc (.cells #[.int .i64 m] 3)) from (Below.refl _ _).alloc (Nat.le_refl _) _)
  clear hv hU
  cases h1 : okN (l.length : Int)
  · have HE := hidden (show packI l m = [] by unfold packI; rw [okB_eq, h1]; rfl)
    rw [h1] at HN
    clear h1
    go_enter Tryz.func138, Tryz.ntmps138
    go_wp2_with ((go_at_call 190; refine (HN.out _).mono ?_; rintro e w2 ⟨rfl, rfl⟩))
    go_ret
    exact ⟨_, rfl, HG.out, by rw [HE.out]; exact IsBytes.nil_ _⟩
  · rw [h1] at HN
    cases h2 : okM m
    · have HE := hidden (show packI l m = [] by unfold packI; rw [okB_eq, h1, h2]; rfl)
      rw [h2] at HM
      clear h1 h2
      go_enter Tryz.func138, Tryz.ntmps138
      go_wp2_with (first | (go_at_call 190; refine (HN.out _).mono ?_; rintro e w2 ⟨rfl, rfl⟩) | (go_at_call 191; refine (HM.out _).mono ?_; rintro e w2 ⟨rfl, rfl⟩))
      go_ret
      exact ⟨_, rfl, HG.out, by rw [HE.out]; exact IsBytes.nil_ _⟩
    · rw [h2] at HM
      have hok : okB (l.length : Int) m = true := by rw [okB_eq, h1, h2]; rfl
      obtain ⟨⟨a1, a2⟩, a3, a4⟩ := okB_true hok
      obtain ⟨M, rfl⟩ := Int.eq_ofNat_of_zero_le a3
      have HE := hidden (show packI l (M : Int) = packL l M by unfold packI; rw [hok, Int.toNat_natCast]; rfl)
      have hl2 : l.length ≤ 1048576 := by omega
      have hM2 : M ≤ 64 := by omega
      have hsz := szB_le hl2 hM2
      have HS := hidden (fun w => size_any (l.length : Int) (M : Int) w)
      rw [sizeI_nat hl2 hM2] at HS
      have hmk := fun W => run_make_bytes (P := Tryz.prog) 29 5 Tryz.underlying29 info_byte (szB l.length M) (by omega) W
      have HMB := hidden (made_bcells (szB l.length M))
      have HZ := hidden (partB_zero l M)
      have HAP := hidden (show Apart w.heap.size w.heap.size (w.heap.size + 1 + 1 + 1) (w.heap.size + 1 + 1) (w.heap.size + 1) from ⟨by omega, by omega, by omega, by omega, by omega, by omega, by omega⟩)
      clear h1 h2 hok
      go_enter Tryz.func138, Tryz.ntmps138
      go_wp2_with (first | (go_at_call 190; refine (HN.out _).mono ?_; rintro e w2 ⟨rfl, rfl⟩) | (go_at_call 191; refine (HM.out _).mono ?_; rintro e w2 ⟨rfl, rfl⟩) | (go_at_call 139; refine (HS.out _).mono ?_; rintro e w2 ⟨rfl, rfl⟩))
      go_loopw [26] (fun i wr => PackRel w l M i wr) (fun i _ => l.length - (intOf i).toNat)
      case atStart =>
        refine ⟨0, by omega, rfl, ⟨?_, ?_, ?_, ?_⟩, (((((Below.refl _ _).alloc (Nat.le_refl _) _).alloc (by simp) _).alloc (by simp; omega) _).alloc (by simp; omega) _)⟩
        · exact (((Row.new w _ _ _ rfl).grow ((Below.refl _ _).alloc (Nat.le_refl _) _)).grow ((Below.refl _ _).alloc (Nat.le_refl _) _)).grow ((Below.refl _ _).alloc (Nat.le_refl _) _)
        · rw [Nat.zero_mul]
          exact Row.at_ _ _ _ _ rfl _ (by simp)
        · exact (Row.at_ _ _ _ _ rfl _ (by simp)).grow ((Below.refl _ _).alloc (Nat.le_refl _) _)
        · rw [Nat.zero_mul, HZ.out]
          exact ((Row.at_ _ _ _ _ HMB.out _ (by simp)).grow ((Below.refl _ _).alloc (Nat.le_refl _) _)).grow ((Below.refl _ _).alloc (Nat.le_refl _) _)
      case round =>
        obtain ⟨k, hk, rfl, st, hb⟩ := hrel
        have HB := hidden hb
        have HST := hidden st
        by_cases hlt : k < l.length
        · obtain ⟨b, f, rfl, hcell⟩ := (HV.out.grow HB.out).at_ hlt
          have hxx := HU.out.get hlt
          have HADD := hidden (add_any w.heap.size w.heap.size (w.heap.size + 1 + 1 + 1) (w.heap.size + 1 + 1) (w.heap.size + 1) k M l[k] l wr hl2 hM2 hlt (List.getElem?_eq_getElem hlt) hxx HAP.out HST.out)
          generalize l[k] = x at *
          clear st hb hmk
          go_wp2_with ((go_at_call 192; refine HADD.out.mono ?_; rintro e w2 ⟨⟨xv, rfl⟩, st2, hb2⟩))
          refine ⟨⟨k + 1, by omega, by go_num, ?_, HB.out.trans hb2⟩, by simp [intOf]; omega⟩
          rw [Nat.succ_mul]
          exact st2
        · have hke : k = l.length := by omega
          subst hke
          have cptr := st.ptr.cell 0
          simp only [List.getElem?_cons_zero] at cptr
          have HALL := hidden (partB_all l M)
          have HLEN := hidden (packL_length l M)
          clear st hb hmk
          go_wp2_with fail
          go_ret
          refine ⟨_, rfl, HB.out, ?_⟩
          rw [HE.out]
          have h := HST.out.row
          rw [HALL.out] at h
          exact IsBytes.of_row h _ _ HLEN.out.symm
end Go.Proofs.YthmipnokimlbdaaGreat
/-
  Shaken: what the claims of this seat need of this text. No condition.
-/
namespace Go.Proofs.YthmipnokimlbdaaGreat
open Go.RowKit
set_option linter.unusedVariables false
set_option linter.unusedSimpArgs false
end Go.Proofs.YthmipnokimlbdaaGreat
