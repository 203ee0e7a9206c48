/-
  The reference's Runs and Encode return what the document says; nothing that was there is changed.
-/
import Derived.Test.YtaegolkoinjmoaaDoorBsRef7
import Derived.Test.YtaegolkoinjmoaaDoorEnc
import Derived.Test.YtaegolkoinjmoaaDoorApp
namespace Go.Proofs.YtaegolkoinjmoaaDoor
open Go.RowKit

def RunsRel (w : World) (n : Nat) (v : Value) (f : Nat → Bool) (out on k i : Value) (wr : World) : Prop :=
  ∃ j : Nat, j ≤ n ∧ i = .int .i64 j ∧ on = .bool (rst f j).2.1 ∧ k = .int .i64 ((rst f j).2.2 : Int) ∧ (rst f j).2.2 ≤ j ∧ (rst f j).1.length ≤ j ∧ Row wr w.heap.size 26 [.int .i64 (n : Int), v] ∧
    wr.ownsRow (w.heap.size + 1) 3 1 out (rst f j).1.length (ncells (rst f j).1) ∧ Below (w.heap.size + 1) (w.alloc (.cells #[.int .i64 (n : Int), v] 26)) wr

set_option maxHeartbeats 1000000 in
theorem rruns_any (s : Value) (n : Nat) (ws : List UInt64) (w : World) (hs : IsSet w s n ws) :
    Calls Tryd.prog 66 #[s] w (OwnInts (runs (mem n ws) n) w) := by
  have HS := hidden hs
  obtain ⟨v, rfl, hr, hn, hn2⟩ := hs
  obtain ⟨A, d, rfl, _⟩ := hr.slice_
  rw [ucells_length] at HS hr ⊢
  have hG : Grows w (w.alloc (.cells #[.int .i64 (n : Int), .slice A ws.length d] 26)) := (Below.refl _ _).alloc (Nat.le_refl _) _
  have HG := hidden hG
  obtain ⟨f, hf⟩ : ∃ f, f = mem n ws := ⟨_, rfl⟩
  rw [← hf]
  have HF := hidden hf
  have HR0 : Hid (n = 0 → runs f n = []) := fun h => by unfold runs; rw [if_pos h]
  have HR1 : Hid (0 < n → runs f n = (rst f n).1 ++ [(rst f n).2.2]) := fun h => by unfold runs; rw [if_neg (by omega)]
  clear hr hG hf
  go_enter Tryd.func66, Tryd.ntmps66
  go_wp2
  go_loopw [3, 4, 5, 6] (fun out on k i wr => RunsRel w n (.slice A ws.length d) f out on k i wr) (fun _ _ _ i _ => n - (intOf i).toNat)
  case atStart => exact ⟨0, by omega, rfl, rfl, rfl, Nat.le_refl _, Nat.le_refl _, Row.new w _ _ _ rfl, World.ownsRow_nil _ _ _ _, by simpa using Below.refl _ _⟩
  case round =>
    obtain ⟨j, hj, rfl, rfl, rfl, hk1, hk2, r1, hown, hb⟩ := hrel
    have hc0 := r1.cell 0
    have hc1 := r1.cell 1
    simp only [List.getElem?_cons_zero, List.getElem?_cons_succ] at hc0 hc1
    have R1 := hidden r1
    have hgw : Grows w wr := Grows.of_below HG.out (by show Below _ _ _; rw [World.size_alloc]; exact hb)
    have HGW := hidden hgw
    have HB := hidden hb
    have HO := hidden hown
    have hsz : w.heap.size + 1 ≤ wr.heap.size := by have := HB.out.size; simpa using this
    clear r1 hb hown hgw
    by_cases hlt : j < n
    · have HC := hidden (rcontains_any _ n ws (j : Int) wr (HS.out.grow HGW.out) (by omega) (by omega))
      have HSA := hidden (fun h => rst_same (f := f) (i := j) h)
      have HTU := hidden (fun h => rst_turn (f := f) (i := j) h)
      have hon : (rst f j).2.1 = true ∨ (rst f j).2.1 = false := by cases (rst f j).2.1 <;> simp
      generalize rst f j = q at *
      obtain ⟨o, on, m⟩ := q
      simp only at hk1 hk2 hon HO HSA HTU ⊢
      go_wp2_with fail
      refine (Calls.mono HC.out ?_)
      rintro e w2 ⟨rfl, g2⟩
      have HR1' := hidden (R1.out.grow g2)
      have HG2 := hidden (HB.out.trans (g2.mono hsz))
      have HO2 := hidden (ownsRow_grow HO.out g2)
      have hsz2 : w.heap.size + 1 ≤ w2.heap.size := by have := g2.size; omega
      clear g2
      rw [memI_nat, ← HF.out]
      by_cases hm : f j = on
      · have HE := hidden (HSA.out hm)
        rw [hm]
        have hx : (on != on) = false := by simp
        clear hm hon
        go_wp2_with fail
        go_roundw
        case rel =>
          refine ⟨j + 1, by omega, by go_num, ?_, ?_, ?_, ?_, HR1'.out, ?_, HG2.out⟩
          all_goals rw [HE.out]
          · go_num
          · show m + 1 ≤ j + 1; omega
          · show o.length ≤ j + 1; omega
          · exact HO2.out
        case measure => simp [intOf]; omega
      · have HE := hidden (HTU.out hm)
        have hx : f j = !on := by cases hq : f j <;> cases on <;> simp_all
        rw [hx]
        have HPL : Hid (o.length + 1 ≤ 17592186044416) := by show _ ≤ _; omega
        clear hm hon
        go_wp2_with ((at_builtin; go_loud (refine wpList_append_int rfl _ _ rfl _ o (by rfl) (w.heap.size + 1) HO2.out _ HG2.out hsz2 _ m rfl (by rfl) HPL.out ?_); intro v' w3 hown3 hb3; have HO3 := hidden hown3; have HB3 := hidden hb3; clear hown3 hb3))
        have HR3 := hidden (show Row w3 w.heap.size 26 [.int .i64 (n : Int), .slice A ws.length d] from (HB3.out.block _ (Nat.lt_succ_self _)).trans (Row.new w _ _ _ rfl))
        go_wp2_with fail
        go_roundw
        case rel =>
          refine ⟨j + 1, by omega, by go_num, ?_, ?_, ?_, ?_, HR3.out, ?_, HB3.out⟩
          all_goals rw [HE.out]
          · rfl
          · show (1 : Nat) ≤ j + 1; omega
          · show (o ++ [m]).length ≤ j + 1; simp; omega
          · exact HO3.out
        case measure => simp [intOf]; omega
    · have hje : j = n := by omega
      have HJ := hidden hje
      by_cases hn0 : 0 < n
      · have HE := hidden (HR1.out hn0)
        have hO := HO.out
        have HPL : Hid ((rst f j).1.length + 1 ≤ 17592186044416) := by show _ ≤ _; omega
        clear hje hO
        go_wp2_with ((at_builtin; go_loud (refine wpList_append_int rfl _ _ rfl _ (rst f j).1 (by rfl) (w.heap.size + 1) HO.out _ HB.out hsz _ (rst f j).2.2 rfl (by rfl) HPL.out ?_); intro v' w3 hown3 hb3; have HO3 := hidden hown3; have HB3 := hidden hb3; clear hown3 hb3))
        go_wp2_with fail
        go_ret
        refine ⟨_, rfl, ?_, Grows.of_below HG.out (by show Below _ _ _; rw [World.size_alloc]; exact HB3.out)⟩
        have h := HO3.out
        rw [HJ.out] at h
        rw [HE.out]
        exact ownsRow_base h (Nat.le_succ _)
      · have HE := hidden (HR0.out (by omega))
        have hn00 : n = 0 := by omega
        have hj0 : j = 0 := by omega
        subst hj0
        clear hje hn0
        go_wp2_with fail
        go_ret
        refine ⟨_, rfl, ?_, HGW.out⟩
        have h := HO.out
        rw [HE.out]
        exact ownsRow_base h (Nat.le_succ _)

theorem encs_length : ∀ {rs : List Nat}, (∀ x ∈ rs, x < 18446744073709551616) → (rs.flatMap enc).length ≤ 10 * rs.length
  | [], _ => by simp
  | x :: rs, h => by
    have h1 := enc_length (h x (List.mem_cons_self ..))
    have h2 := (esz_bd (h x (List.mem_cons_self ..))).2
    have h3 := encs_length (rs := rs) (fun y hy => h y (List.mem_cons_of_mem _ hy))
    rw [List.flatMap_cons, List.length_append, List.length_cons]
    omega

def EncSRel (w W0 : World) (rs : List Nat) (n b : Nat) (v : Value) (out i : Value) (wr : World) : Prop :=
  ∃ j : Nat, j ≤ rs.length ∧ i = .int .i64 j ∧ wr.ownsRow W0.heap.size 5 1 out (enc n ++ (rs.take j).flatMap enc).length (bcells (enc n ++ (rs.take j).flatMap enc)) ∧
    wr.ownsRow b 3 1 v rs.length (ncells rs) ∧ Below W0.heap.size W0 wr ∧ Grows w wr

set_option maxHeartbeats 1000000 in
theorem rencodeS_any (s : Value) (n : Nat) (ws : List UInt64) (w : World) (hs : IsSet w s n ws) :
    Calls Tryd.prog 43 #[s] w (Made (encS n (mem n ws)) w) := by
  have HS := hidden hs
  obtain ⟨v, rfl, hr, hn, hn2⟩ := hs
  obtain ⟨A, d, rfl, _⟩ := hr.slice_
  rw [ucells_length] at HS hr ⊢
  have hG : Grows w (w.alloc (.cells #[.int .i64 (n : Int), .slice A ws.length d] 26)) := (Below.refl _ _).alloc (Nat.le_refl _) _
  have HR0 := hidden (Row.new w 26 #[.int .i64 (n : Int), .slice A ws.length d] _ rfl)
  have HSZ := hidden (World.size_alloc w (.cells #[.int .i64 (n : Int), .slice A ws.length d] 26))
  have HG := hidden hG
  have HE : Hid (encS n (mem n ws) = enc n ++ (runs (mem n ws) n).flatMap enc) := by show _ = _; rfl
  clear hr hG
  go_enter Tryd.func43, Tryd.ntmps43
  go_wp2_with fail
  generalize w.alloc (.cells #[.int .i64 (n : Int), .slice A ws.length d] 26) = W0 at *
  refine (rencode_any (n : Int) W0 (by omega) (by omega)).mono ?_
  rintro e w1 ⟨v1, rfl, hown1, hg1⟩
  rw [Int.toNat_natCast] at hown1
  have r1 := HR0.out.grow hg1
  have hc0 := r1.cell 0
  have hc1 := r1.cell 1
  simp only [List.getElem?_cons_zero, List.getElem?_cons_succ] at hc0 hc1
  have HO1 := hidden hown1
  have HB1 := hidden hg1
  have HG1 := hidden (Grows.of_below HG.out hg1)
  clear r1 hown1 hg1
  go_wp2_with fail
  refine (rruns_any _ n ws w1 (HS.out.grow HG1.out)).mono ?_
  rintro e w2 ⟨v2, rfl, hown2, hg2⟩
  have hrl := runs_length_le (f := mem n ws) (n := n)
  have HLE := hidden (runs_le (mem n ws) n)
  generalize runs (mem n ws) n = rs at *
  obtain ⟨A2, d2, rfl, _⟩ := (Reads.of_own hown2).slice_
  rw [ncells_length] at hown2 ⊢
  have HO2 := hidden hown2
  have HO12 := hidden (ownsRow_grow HO1.out hg2)
  have HB2 := hidden (HB1.out.trans (hg2.mono HB1.out.size))
  have HG2 := hidden (Grows.of_below HG1.out hg2)
  clear hown2 hg2 hc0 hc1
  go_wp2_with fail
  go_loopw [3, 5] (fun out i wr => EncSRel w W0 rs n w1.heap.size (.slice A2 rs.length d2) out i wr) (fun _ i _ => rs.length - (intOf i).toNat)
  case atStart => exact ⟨0, by omega, rfl, by simpa using HO12.out, HO2.out, HB2.out, HG2.out⟩
  case round =>
    obtain ⟨j, hj, rfl, ho, hi, hb, hg⟩ := hrel
    have HO := hidden ho
    have HI := hidden hi
    have HB := hidden hb
    have HGW := hidden hg
    have hrd := Reads.of_own hi
    clear ho hi hb hg
    by_cases hlt : j < rs.length
    · obtain ⟨A', d', he, _, hcell⟩ := hrd
      rw [ncells_length] at he hcell
      injection he with e1 e2 e3
      subst e1 e3
      obtain ⟨b, off, rfl, hx⟩ := hcell (by omega)
      have hcl := hx j (by omega)
      rw [ncells_get hlt] at hcl
      have HTK := hidden (List.take_succ_eq_append_getElem hlt)
      have hxn : rs[j] ≤ n := HLE.out _ (List.getElem_mem hlt)
      have hel := encs_length (rs := rs.take j) (fun x hx => by have := HLE.out x (List.mem_of_mem_take hx); omega)
      have htl : (rs.take j).length ≤ j := by rw [List.length_take]; omega
      have hen := enc_length (n := n) (by omega)
      have hen2 := (esz_bd (n := n) (by omega)).2
      clear hcell hx e2
      generalize rs[j] = x at *
      have hex := enc_length (n := x) (by omega)
      have hex2 := (esz_bd (n := x) (by omega)).2
      have HPL : Hid ((enc n ++ (rs.take j).flatMap enc).length + (enc x).length ≤ 140737488355328) := by
        show _ ≤ _
        rw [List.length_append]
        omega
      clear hel htl hen hen2 hex hex2
      go_wp2_with fail
      refine (rencode_any (x : Int) wr (by omega) (by omega)).mono ?_
      rintro e w3 ⟨v3, rfl, hown3, hg3⟩
      rw [Int.toNat_natCast] at hown3
      have HV3 := hidden (IsBytes.of_own hown3)
      have HO3 := hidden (ownsRow_grow HO.out hg3)
      have HI3 := hidden (ownsRow_grow HI.out hg3)
      have HB3 := hidden (HB.out.trans (hg3.mono HB.out.size))
      have HG3 := hidden (HGW.out.trans (hg3.mono HGW.out.size))
      clear hown3 hg3
      go_wp2_with ((at_builtin; go_loud (refine wpList_append_bytes_k (w := W0) (wr := w3) rfl _ _ 41 rfl 5 Tryd.underlying41 info_u8 _ (enc n ++ (rs.take j).flatMap enc) (by rfl) HO3.out HB3.out _ (enc x) (by rfl) HV3.out HPL.out ?_); intro v4 w4 hown4 hb4 hk4; have HO4 := hidden hown4; have HB4 := hidden hb4; have HK4 := hidden hk4; clear hown4 hb4 hk4))
      go_wp2_with fail
      go_roundw
      case rel =>
        refine ⟨j + 1, by omega, by go_num, ?_, HK4.out _ _ _ _ _ _ (by decide) HI3.out, HB4.out, Grows.of_below HG.out HB4.out⟩
        have h := HO4.out
        rw [HTK.out, List.flatMap_append, List.flatMap_cons, List.flatMap_nil, List.append_nil, ← List.append_assoc]
        exact h
      case measure => simp [intOf]; omega
    · have hje : j = rs.length := by omega
      have HTL : Hid (rs.take j = rs) := by show _ = _; rw [hje, List.take_length]
      have hnj : rs.length ≤ j := by omega
      clear hje hrd
      go_wp2_with fail
      go_ret
      refine ⟨_, rfl, ?_, HGW.out⟩
      have h := HO.out
      rw [HTL.out, ← HE.out] at h
      exact ownsRow_base h (by have := HSZ.out; omega)

end Go.Proofs.YtaegolkoinjmoaaDoor
