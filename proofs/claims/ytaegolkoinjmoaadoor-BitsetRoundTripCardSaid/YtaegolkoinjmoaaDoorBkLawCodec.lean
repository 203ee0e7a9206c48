/-
  The walk of the law BitsetCodec: it returns true for every pair of N and words, every byte slice and every offset; nothing that was there is changed.
-/
import Derived.Test.YtaegolkoinjmoaaDoorBkLawOps
namespace Go.Proofs.YtaegolkoinjmoaaDoor
open Go.RowKit
set_option linter.unusedVariables false
set_option linter.unusedSimpArgs false

def BytesVR (l : List UInt8) (v : Value) (w : World) : Prop := IsBytes w v l
theorem bytes_loose {f : FuncId} {args : Array Value} {w : World} {l : List UInt8} (h : Calls Tryd.prog f args w (Made l w)) : Calls Tryd.prog f args w fun e w' => ∃ v, e = .returned v ∧ Grows w w' ∧ BytesVR l v w' :=
  h.mono fun _ _ ⟨v, he, ho, hb⟩ => ⟨v, he, hb, IsBytes.of_own ho⟩
def codecRs (l : List UInt8) : Loose := fun i =>
  match i with
  | 1 => some (BytesVR l)
  | 4 => some (BytesVR l)
  | 10 => some (BoolR true)
  | 23 => some (BoolR true)
  | _ => none
theorem codecRs_lasts (l : List UInt8) : (codecRs l).lasts := by
  intro i R h
  unfold codecRs at h
  split at h <;> first
    | (injection h with h; subst h; exact fun _ _ _ h _ => h)
    | (injection h with h; subst h; exact fun _ _ _ h hb => IsBytes.grow h hb)
    | (cases h)

set_option maxHeartbeats 4000000 in
theorem law_codec (A B : Option Addr) (c d : Nat) (n0 : Int) (ws : List UInt64) (b : List UInt8) (off : Int) (w : World) (hra : Reads w (.slice A ws.length c) (ucells ws)) (hla : ws.length ≤ 9223372036854775807) (hb : IsBytes w (.slice B b.length d) b)
    (hn3 : -9223372036854775808 ≤ n0) (hn4 : n0 ≤ 9223372036854775807) (ho3 : -9223372036854775808 ≤ off) (ho4 : off ≤ 9223372036854775807) (hTb : Tab w) :
    Calls Tryd.prog 6 #[.agg #[.int .i64 n0, .slice A ws.length c], .slice B b.length d, .int .i64 off] w fun e w' => e = .returned (.bool true) ∧ Below w.heap.size w w' := by
  have HTB := hidden hTb
  clear hTb
  have HG := hidden (show Grows w (w.alloc (.cells #[.int .i64 n0, .slice A ws.length c] 26)) from (Below.refl _ _).alloc (Nat.le_refl _) _)
  have HRW := hidden (Row.new w 26 #[.int .i64 n0, .slice A ws.length c] [.int .i64 n0, .slice A ws.length c] rfl)
  have HPA := hidden (show IsPair w (.agg #[.int .i64 n0, .slice A ws.length c]) n0 ws from ⟨_, rfl, hra, hla⟩)
  have HRA := hidden hra
  have HB := hidden hb
  clear hra hb
  go_enter Tryd.func6, Tryd.ntmps6
  go_wp2_with fail
  refine (small_any _ n0 ws _ (HPA.out.grow HG.out) hn3 hn4).mono ?_
  rintro e w1 ⟨rfl, g1⟩
  have HG1 := hidden (HG.out.of_below g1)
  have HRW1 := hidden (HRW.out.grow g1)
  clear g1
  by_cases hsa : smallB n0 ws
  · rw [smallI_t hsa]
    by_cases hbl : b.length ≤ 200
    · have hd : decide ((200 : Int) < (b.length : Int)) = false := by simp; omega
      obtain ⟨n, rfl⟩ := Int.eq_ofNat_of_zero_le hsa.2.1
      have hn2 : n ≤ 1048576 := by have := hsa.2.2.1; omega
      have hoa : okW n ws := by have := hsa.2.2.2; rwa [Int.toNat_natCast] at this
      have HA1 := hidden (show IsSet w1 (.agg #[.int .i64 (n : Int), .slice A ws.length c]) n ws from ⟨_, rfl, HRA.out.grow HG1.out, by rw [hoa.1]; unfold nw; omega, hn2⟩)
      have HOA := hidden hoa
      clear hsa hoa
      go_wp2_with fail
      refine (ck_decode _ b off w1 (HB.out.grow HG1.out) (by omega) ho3 ho4).mono ?_
      rintro e w2 ⟨s2, rfl, hs2, g2⟩
      have HG2 := hidden (HG1.out.of_below g2)
      have HRW2 := hidden (HRW1.out.grow g2)
      have HA2 := hidden (HA1.out.grow g2)
      have HRD := hidden (fun w h => rdecodeS_any (.slice B b.length d) b off w h (by omega) ho3 ho4)
      unfold RDec at HRD
      generalize decS b off = R at *
      obtain ⟨N, O, p, ec⟩ := R
      simp only at hs2 HRD ⊢
      have HS2 := hidden hs2
      obtain ⟨v2, rfl, hr2, _, _⟩ := hs2
      obtain ⟨A1, c1, rfl, _⟩ := hr2.slice_
      generalize hL1 : (ucells (pack N (bitAt O))).length = L1 at *
      clear hr2 g2 hL1
      have hg2a : Grows w2 (w2.alloc (.cells #[.int .i64 (N : Int), .slice A1 L1 c1] 26)) := (Below.refl _ _).alloc (Nat.le_refl _) _
      have HGA := hidden hg2a
      clear hg2a
      go_wp2_with fail
      refine (HRD.out _ ((HB.out.grow HG2.out).grow HGA.out)).mono ?_
      rintro e w3 ⟨s3, rfl, hs3, g3⟩
      have HS3 := hidden hs3
      obtain ⟨v3, rfl, hr3, _, _⟩ := hs3
      obtain ⟨A2, c2, rfl, _⟩ := hr3.slice_
      generalize hL2 : (ucells (pack N (bitAt O))).length = L2 at *
      clear hr3 hL2
      have g23 := HGA.out.of_below g3
      have HG3 := hidden (HG2.out.of_below g23)
      have HRW3 := hidden (HRW2.out.grow g23)
      have HA3 := hidden (HA2.out.grow g23)
      have HS23 := hidden (HS2.out.grow g23)
      have HRT3 := hidden ((Row.new w2 26 #[.int .i64 (N : Int), .slice A1 L1 c1] [.int .i64 (N : Int), .slice A1 L1 c1] rfl).grow g3)
      clear g3 g23
      have hg4 : Grows w3 (w3.alloc (.cells #[.int .i64 (N : Int), .slice A2 L2 c2] 26)) := (Below.refl _ _).alloc (Nat.le_refl _) _
      have HX : Hid (∀ X, Grows (w3.alloc (.cells #[.int .i64 (N : Int), .slice A2 L2 c2] 26)) X → X.cell? ⟨w.heap.size, 0, none⟩ = some (.int .i64 (n : Int)) ∧ X.cell? ⟨w.heap.size, 1, none⟩ = some (.slice A ws.length c) ∧ X.cell? ⟨w2.heap.size, 0, none⟩ = some (.int .i64 (N : Int)) ∧ X.cell? ⟨w2.heap.size, 1, none⟩ = some (.slice A1 L1 c1) ∧ X.cell? ⟨w3.heap.size, 0, none⟩ = some (.int .i64 (N : Int)) ∧ X.cell? ⟨w3.heap.size, 1, none⟩ = some (.slice A2 L2 c2)) := by
        intro X g
        have r1 := (HRW3.out.grow hg4).grow g
        have r2 := (HRT3.out.grow hg4).grow g
        have r3 := (Row.new w3 26 #[.int .i64 (N : Int), .slice A2 L2 c2] [.int .i64 (N : Int), .slice A2 L2 c2] rfl).grow g
        exact ⟨r1.cell 0, r1.cell 1, r2.cell 0, r2.cell 1, r3.cell 0, r3.cell 1⟩
      have HA := hidden (HA3.out.grow hg4)
      have HT := hidden (HS23.out.grow hg4)
      have HU := hidden (HS3.out.grow hg4)
      have HGF := hidden (HG3.out.of_below hg4)
      clear hg4
      go_wp2_with fail
      refine wp_region_loose (codecRs (encS n (mem n ws))) (by kernel_rfl) (by kernel_rfl) (codecRs_lasts _) ?_
      iterate 1 ((with_reducible refine loose_one (v := ?_) (a' := ?_) ?_ ?_ (fun w' hC' hG' => ?_) ?_ ?_); rotate_left 2; (focus rfl); (focus rfl); (focus (obtain ⟨x0, x1, y0, y1, z0, z1⟩ := HX.out w' hC'; clear hC' hG'; go_simp; rfl)); (focus (go_simp; rfl)))
      refine loose_call (f := 42) (args := #[.agg #[.int .i64 (n : Int), .slice A ws.length c]]) (by rfl) (by rfl) (fun _ => by go_simp) (fun w' hC' hG' => bytes_loose (ck_encode _ n ws w' (HA.out.grow hC') HOA.out (HTB.out.grow (HGF.out.of_below hC')))) ?_
      intro v1 _
      refine ⟨?_, ?_, ?_⟩
      rotate_left
      · go_simp
        rfl
      refine loose_one (v := ?_) (a' := ?_) (by rfl) (by rfl) (fun w' hC' hG' => ?_) ?_ ?_
      rotate_left 2
      · have hr := run_string_bytes (P := Tryd.prog) ((hG' 1 (by kernel_rfl)).2 rfl) 41 5 Tryd.underlying41 Tryd.underlying5 9 Tryd.underlying9
        clear hC' hG'
        go_simp
        rfl
      · go_simp
        rfl
      iterate 1 ((with_reducible refine loose_one (v := ?_) (a' := ?_) ?_ ?_ (fun w' hC' hG' => ?_) ?_ ?_); rotate_left 2; (focus rfl); (focus rfl); (focus (obtain ⟨x0, x1, y0, y1, z0, z1⟩ := HX.out w' hC'; clear hC' hG'; go_simp; rfl)); (focus (go_simp; rfl)))
      refine loose_call (f := 43) (args := #[.agg #[.int .i64 (n : Int), .slice A ws.length c]]) (by rfl) (by rfl) (fun _ => by go_simp) (fun w' hC' hG' => bytes_loose (rencodeS_any _ n ws w' (HA.out.grow hC'))) ?_
      intro v4 _
      refine ⟨?_, ?_, ?_⟩
      rotate_left
      · go_simp
        rfl
      refine loose_one (v := ?_) (a' := ?_) (by rfl) (by rfl) (fun w' hC' hG' => ?_) ?_ ?_
      rotate_left 2
      · have hr := run_string_bytes (P := Tryd.prog) ((hG' 4 (by kernel_rfl)).2 rfl) 41 5 Tryd.underlying41 Tryd.underlying5 9 Tryd.underlying9
        clear hC' hG'
        go_simp
        rfl
      · go_simp
        rfl
      iterate 4 ((with_reducible refine loose_one (v := ?_) (a' := ?_) ?_ ?_ (fun w' hC' hG' => ?_) ?_ ?_); rotate_left 2; (focus rfl); (focus rfl); (focus (obtain ⟨x0, x1, y0, y1, z0, z1⟩ := HX.out w' hC'; clear hC' hG'; go_simp; rfl)); (focus (go_simp; rfl)))
      refine loose_call (f := 13) (args := #[.agg #[.int .i64 (N : Int), .slice A1 L1 c1], .agg #[.int .i64 (N : Int), .slice A2 L2 c2]]) (by rfl) (by rfl) (fun _ => by go_simp) (fun w' hC' hG' => bool_loose (eq_true (requal_any _ _ (N : Int) (N : Int) _ _ w' (setV_pair (show SetVR N (bitAt O) _ w' from HT.out.grow hC')) (setV_pair (show SetVR N (bitAt O) _ w' from HU.out.grow hC'))))) ?_
      rintro _ ⟨_, _, rfl⟩
      refine ⟨?_, ?_, ?_⟩
      rotate_left
      · go_simp
        rfl
      iterate 12 ((with_reducible refine loose_one (v := ?_) (a' := ?_) ?_ ?_ (fun w' hC' hG' => ?_) ?_ ?_); rotate_left 2; (focus rfl); (focus rfl); (focus (obtain ⟨x0, x1, y0, y1, z0, z1⟩ := HX.out w' hC'; clear hC' hG'; go_simp; rfl)); (focus (go_simp; rfl)))
      refine loose_call (f := 10) (args := #[]) (by rfl) (by rfl) (fun _ => by go_simp) (fun w' hC' hG' => bool_loose (lives_any w' (HTB.out.grow (HGF.out.of_below hC')))) ?_
      rintro _ ⟨_, _, rfl⟩
      refine ⟨?_, ?_, ?_⟩
      rotate_left
      · go_simp
        rfl
      iterate 2 ((with_reducible refine loose_one (v := ?_) (a' := ?_) ?_ ?_ (fun w' hC' hG' => ?_) ?_ ?_); rotate_left 2; (focus rfl); (focus rfl); (focus (obtain ⟨x0, x1, y0, y1, z0, z1⟩ := HX.out w' hC'; clear hC' hG'; go_simp; rfl)); (focus (go_simp; rfl)))
      refine loose_done (fun w6 hC6 hG6 => ?_)
      clear hG6
      have hC2 := HGF.out.of_below hC6
      go_wp2_with fail
      go_ret
      exact ⟨rfl, hC2⟩
    · have hd : decide ((200 : Int) < (b.length : Int)) = true := by simp; omega
      clear hsa hbl
      go_wp2_with fail
      refine (lives_any _ (HTB.out.grow HG1.out)).mono ?_
      rintro e w3 ⟨rfl, g3⟩
      have hC2 := HG1.out.of_below g3
      go_wp2_with fail
      go_ret
      exact ⟨rfl, hC2⟩
  · rw [smallI_f hsa]
    clear hsa
    go_wp2_with fail
    refine (lives_any _ (HTB.out.grow HG1.out)).mono ?_
    rintro e w3 ⟨rfl, g3⟩
    have hC2 := HG1.out.of_below g3
    go_wp2_with fail
    go_ret
    exact ⟨rfl, hC2⟩

end Go.Proofs.YtaegolkoinjmoaaDoor
