/-
  The reference's low, high, With, Best, Encode and Size. Nothing that was there is changed.
-/
import Derived.Test.YtjjeebaelpgjlaaFr1
import Derived.Test.YtjjeebaelpgjlaaBp4
import Derived.Test.YtjjeebaelpgjlaaEnc
import Derived.Test.YtjjeebaelpgjlaaApp
namespace Go.Proofs.Ytjjeebaelpgjlaa
open Go.RowKit
set_option linter.unusedVariables false
set_option linter.unusedSimpArgs false

theorem wpList_append_wk {wr : World} {ops : Array Oper} {rest : List Oper} {o : Oper} {a : Act} {Q : Exit → Act → World → Prop} (hgd : o.guard = none) (s x : Operand)
    (ho : o.op = .call { callee := .builtin .append, args := #[s, x], argTypes := #[56, 56] })
    (v : Value) (pre : List Nat) (hs : a.eval s = v) (base : Nat) (hown : wr.ownsRow base 50 1 v pre.length (wcells pre)) (w0 : World) (hb : Below base w0 wr) (hbase : base ≤ wr.heap.size)
    (z : Int) (c : Nat) (hz : z = (c : Int)) (hx : a.eval x = .slice (some ⟨wr.heap.size, 0, none⟩) 1 1) (hlen : pre.length + 1 ≤ 17592186044416)
    (h : ∀ v' w', w'.ownsRow base 50 1 v' (pre ++ [c]).length (wcells (pre ++ [c])) → Below base w0 w' → KeepsRows 50 wr w' → wpList Try.prog ops Q rest (a.put o.dst v') w') :
    wpList Try.prog ops Q (o :: rest) a (wr.alloc (.cells #[.int .u64 z] 50)) := by
  obtain ⟨i0, hi, hz0, hz1, hz2⟩ := info_parts info_u64
  subst hz
  refine wpList_append_own _ hgd s x 56 ho base 50 i0 (.int .u64 0) 1 8 Try.underlying56 hi hz0 hz1 hz2 rfl (by decide) v pre.length (wcells pre) hs (hown.alloc _) ⟨wr.heap.size, 0, none⟩ 1 1 [.int .u64 (c : Int)] hx rfl ?_ ?_ ?_ ?_ ?_ ?_
  · intro j u hj
    match j, hj with
    | 0, hj => simp at hj; subst hj; simp [Addr.add]
  · intro u hu; simp at hu; subst hu; rfl
  · unfold maxLen; omega
  · omega
  · simp; omega
  · intro v' w' h1 h2 _
    rw [← wcells_snoc, show pre.length + 1 = (pre ++ [c]).length by simp] at h1
    exact h v' w' h1 ((hb.alloc hbase _).grown h2 (by simp; omega) (fun k hk => (hown.lt k hk).1)) (fun b e' s y n xs he hy => (hy.alloc _).kept h2 (ownsRow_ne hy hown he))
theorem pow_le64' {c : Nat} (h : c ≤ 64) : (2 : Nat) ^ c ≤ 18446744073709551616 := Nat.le_trans (Nat.pow_le_pow_right (by decide) h) (by decide)
theorem rlow_any (d W : Nat) (w : World) (hd : d < 18446744073709551616) (hw : W ≤ 64) : Calls Try.prog 72 #[.int .u64 (d : Int), .int .i64 (W : Int)] w fun e w' => e = .returned (.int .u64 ((d % 2 ^ W : Nat) : Int)) ∧ w = w' := by
  by_cases h64 : W = 64
  · have HE := hidden (show d % 2 ^ W = d by rw [h64]; exact Nat.mod_eq_of_lt hd)
    subst h64
    go_enter Try.func72, Try.ntmps72
    go_wp2_with fail
    go_ret
    exact ⟨retI (by rw [HE.out]), rfl⟩
  · have hE : ((W : Int) == 64) = false := by simp; omega
    have HL := hidden (low_wrap (c := W) (by omega))
    have HA := hidden (and_low hd hw)
    have hw1 : IntKind.u64.wrap (W : Int) = (W : Int) := by rw [IntKind.wrap_u64]; omega
    have hlt : W < 64 := by omega
    clear h64
    go_enter Try.func72, Try.ntmps72
    go_wp2_with fail
    go_ret
    refine ⟨retI ?_, rfl⟩
    rw [← HA.out, ← HL.out]
    first | rfl | rw [Int.one_mul]
theorem rhigh_any (d W : Nat) (w : World) (hd : d < 18446744073709551616) (hw : W ≤ 64) : Calls Try.prog 73 #[.int .u64 (d : Int), .int .i64 (W : Int)] w fun e w' => e = .returned (.int .u64 ((d / 2 ^ W : Nat) : Int)) ∧ w = w' := by
  by_cases h64 : W = 64
  · have HE := hidden (show d / 2 ^ W = 0 by rw [h64]; exact Nat.div_eq_of_lt hd)
    subst h64
    go_enter Try.func73, Try.ntmps73
    go_wp2_with fail
    go_ret
    exact ⟨retI (by rw [HE.out]; rfl), rfl⟩
  · have hE : ((W : Int) == 64) = false := by simp; omega
    have HL := hidden (show ((d / 2 ^ W : Nat) : Int) = (d : Int) / 2 ^ W by simp)
    have hw1 : IntKind.u64.wrap (W : Int) = (W : Int) := by rw [IntKind.wrap_u64]; omega
    have hlt : W < 64 := by omega
    clear h64
    go_enter Try.func73, Try.ntmps73
    go_wp2_with fail
    go_ret
    exact ⟨retI (by rw [HL.out]), rfl⟩
def WithRel (w : World) (ds : List Nat) (W : Nat) (m pk tl i : Value) (wr : World) : Prop :=
  ∃ k : Nat, k ≤ ds.length ∧ i = .int .i64 (k : Int) ∧ m = .int .i64 ((many W (ds.take k) : Nat) : Int) ∧
    wr.ownsRow w.heap.size 50 1 pk ((ds.take k).map fun d => d % 2 ^ W).length (wcells ((ds.take k).map fun d => d % 2 ^ W)) ∧
    wr.ownsRow w.heap.size 5 1 tl (exc W 0 (ds.take k)).length (bcells (exc W 0 (ds.take k))) ∧ Below w.heap.size w wr
set_option maxRecDepth 8000 in
set_option maxHeartbeats 4000000 in
theorem rwith_any (v : Value) (l : List Int) (W : Nat) (w : World) (hv : IsI w v l) (hl : l.length ≤ 65536) (hW : W ≤ 64) (hin : ∀ x ∈ l, frIn x) :
    Calls Try.prog 59 #[v, .int .i64 (W : Int)] w (ByR (encW l W) w) := by
  have HV := hidden hv
  have HLB := hidden (fun W' => rleast_any v l W')
  obtain ⟨A, c, rfl⟩ := hv.slice_
  have HB0 := hidden (baseV_in hin)
  have HDL := hidden (difL_length l)
  have HDU := hidden (difL_U64 l)
  have HDG : Hid (∀ k, (h : k < l.length) → (difL l)[k]? = some (difN (baseV l) l[k])) := fun k h => by
    unfold difL; rw [List.getElem?_map, List.getElem?_eq_getElem h]; rfl
  have HEW := hidden (show encW l W = encD (baseV l) (difL l) W from rfl)
  have HIL := hidden (HLB.out w hv (by omega))
  clear hv HLB
  go_enter Try.func59, Try.ntmps59
  go_wp2_with fail
  refine HIL.out.mono ?_
  rintro e w' ⟨rfl, rfl⟩
  generalize baseV l = b0 at *
  generalize difL l = ds at *
  go_wp2_with fail
  go_loopw [6, 7, 8, 9] (fun m pk tl i wr => WithRel w ds W m pk tl i wr) (fun _ _ _ i _ => l.length - (intOf i).toNat)
  case atStart => exact ⟨0, by omega, rfl, rfl, ⟨rfl, .inl ⟨rfl, rfl⟩⟩, ⟨rfl, .inl ⟨rfl, rfl⟩⟩, Below.refl _ _⟩
  case round =>
    obtain ⟨k, hk, rfl, rfl, hpk, htl, hb⟩ := hrel
    have HB := hidden hb
    have HPK := hidden hpk
    have HTL := hidden htl
    have hdl := HDL.out
    clear hb hpk htl
    by_cases hlt : k < l.length
    · obtain ⟨bb, f, rfl, hck⟩ := (HV.out.grow HB.out).at_ hlt
      have hg := HDG.out k hlt
      have hkd : k < ds.length := by omega
      have hdk : difN b0 l[k] < 18446744073709551616 := difN_lt _ _
      have hwr := dif_wrap l[k] b0
      rw [List.getElem?_eq_getElem hkd] at hg
      injection hg with hg
      have HTD := hidden (List.take_succ_eq_append_getElem hkd)
      rw [hg] at HTD
      generalize l[k] = x at *
      generalize difN b0 x = d at *
      have HTL1 := hidden (show (ds.take k).length = k by rw [List.length_take]; omega)
      have HM1 := hidden (show many W (ds.take k) ≤ 65536 by have := many_le W (ds.take k); have := HTL1.out; omega)
      have HX1 := hidden (exc_len W (ds.take k) 0)
      have HSM := hidden (many_snoc W d (ds.take k))
      have HSX := hidden (exc_snoc W d (ds.take k) 0)
      have HSP := hidden (show ((ds.take k ++ [d]).map fun d => d % 2 ^ W) = ((ds.take k).map fun d => d % 2 ^ W) ++ [d % 2 ^ W] by simp)
      have HPL := hidden (show ((ds.take k).map fun d => d % 2 ^ W).length = k by rw [List.length_map]; exact HTL1.out)
      rw [HTL1.out, Nat.zero_add] at HSX
      rw [HTL1.out] at HX1
      generalize hgm : (ds.take k).map (fun d => d % 2 ^ W) = ps at *
      generalize hgx : exc W 0 (ds.take k) = xs at *
      generalize hgn : many W (ds.take k) = mm at *
      have hmm := HM1.out
      have hsz := HB.out.size
      have hwk : IntKind.u64.wrap (k : Int) = (k : Int) := by rw [IntKind.wrap_u64]; omega
      have HLOW := hidden (fun W' => rlow_any d W W' hdk hW)
      have HHI := hidden (fun W' => rhigh_any d W W' hdk hW)
      have hhd : d / 2 ^ W < 18446744073709551616 := Nat.lt_of_le_of_lt (Nat.div_le_self _ _) hdk
      generalize d / 2 ^ W = h at *
      generalize d % 2 ^ W = lo at *
      clear hg hgm hgx hgn hkd hdl
      by_cases h0 : h = 0
      · have hE : ((h : Int) != 0) = false := by rw [h0]; rfl
        rw [if_pos h0, Nat.add_zero] at HSM
        rw [if_pos h0, List.append_nil] at HSX
        clear h0
        go_wp2_with (first | (go_at_call 72; refine (HLOW.out _).mono ?_; rintro e w2 ⟨rfl, rfl⟩) | (go_at_call 73; refine (HHI.out _).mono ?_; rintro e w2 ⟨rfl, rfl⟩) | (at_builtin; go_loud (refine wpList_append_wk rfl _ _ rfl _ ps (by rfl) w.heap.size HPK.out _ HB.out hsz _ lo rfl (by rfl) (by rw [HPL.out]; omega) ?_); intro v3 w3 hown3 hb3 hk3; have HO3 := hidden hown3; have HB3 := hidden hb3; have HT3 := hidden (hk3 _ _ _ _ _ _ (by decide) HTL.out); clear hown3 hb3 hk3))
        refine ⟨⟨k + 1, by have := HDL.out; omega, by go_num, ?_, ?_, ?_, HB3.out⟩, by simp [intOf]; omega⟩
        · rw [HTD.out, HSM.out]
        · rw [HTD.out, HSP.out]; exact HO3.out
        · rw [HTD.out, HSX.out]; exact HT3.out
      · have hE : ((h : Int) != 0) = true := by simpa using h0
        rw [if_neg h0] at HSM
        rw [if_neg h0] at HSX
        clear h0
        have HEK := hidden (fun W' => rencode_any (k : Int) W' (by omega) (by omega))
        have HEH := hidden (fun W' => rencode_any (h : Int) W' (by omega) (by omega))
        rw [Int.toNat_natCast] at HEK HEH
        have h10 := HX1.out
        go_wp2_with (first | (go_at_call 72; refine (HLOW.out _).mono ?_; rintro e w2 ⟨rfl, rfl⟩) | (go_at_call 73; refine (HHI.out _).mono ?_; rintro e w2 ⟨rfl, rfl⟩) | (at_builtin; go_loud (refine wpList_append_wk rfl _ _ rfl _ ps (by rfl) w.heap.size HPK.out _ HB.out hsz _ lo rfl (by rfl) (by rw [HPL.out]; omega) ?_); intro v3 w3 hown3 hb3 hk3; have HO3 := hidden hown3; have HB3 := hidden hb3; have HT3 := hidden (hk3 _ _ _ _ _ _ (by decide) HTL.out); clear hown3 hb3 hk3))
        refine (HEK.out w3).mono ?_
        rintro e w4 ⟨v4, rfl, hown4, hb4⟩
        have HU4 := hidden (IsBytes.of_own hown4)
        have HB4 := hidden (HB3.out.trans (hb4.mono HB3.out.size))
        have HO4 := hidden (own_grow HO3.out hb4)
        have HT4 := hidden (own_grow HT3.out hb4)
        clear hown4 hb4
        go_wp2_with ((at_builtin; go_loud (refine wpList_append_bytes_k (w := w) rfl _ _ 27 rfl 5 Try.underlying27 info_u8 _ xs (by rfl) HT4.out HB4.out _ (enc k) (by rfl) HU4.out (by have := enc_le10 k; omega) ?_); intro v5 w5 hown5 hb5 hk5; have HT5 := hidden hown5; have HB5 := hidden hb5; have HO5 := hidden (hk5 _ _ _ _ _ _ (by decide) HO4.out); clear hown5 hb5 hk5))
        refine (HEH.out w5).mono ?_
        rintro e w6 ⟨v6, rfl, hown6, hb6⟩
        have HU6 := hidden (IsBytes.of_own hown6)
        have HB6 := hidden (HB5.out.trans (hb6.mono HB5.out.size))
        have HO6 := hidden (own_grow HO5.out hb6)
        have HT6 := hidden (own_grow HT5.out hb6)
        clear hown6 hb6
        go_wp2_with ((at_builtin; go_loud (refine wpList_append_bytes_k (w := w) rfl _ _ 27 rfl 5 Try.underlying27 info_u8 _ (xs ++ enc k) (by rfl) HT6.out HB6.out _ (enc h) (by rfl) HU6.out (by have := enc_le10 k; have := enc_le10 h; rw [List.length_append]; omega) ?_); intro v7 w7 hown7 hb7 hk7; have HT7 := hidden hown7; have HB7 := hidden hb7; have HO7 := hidden (hk7 _ _ _ _ _ _ (by decide) HO6.out); clear hown7 hb7 hk7))
        refine ⟨⟨k + 1, by have := HDL.out; omega, by go_num, ?_, ?_, ?_, HB7.out⟩, by simp [intOf]; omega⟩
        · rw [HTD.out, HSM.out]; go_num
        · rw [HTD.out, HSP.out]; exact HO7.out
        · rw [HTD.out, HSX.out, ← List.append_assoc]; exact HT7.out
    · have hke : k = ds.length := by omega
      subst hke
      rw [List.take_length] at *
      have hz := zz_bd b0 HB0.out.1 (by have := HB0.out.2; omega)
      have HMM := hidden (show many W ds ≤ 65536 by have := many_le W ds; omega)
      have HXL := hidden (show (exc W 0 ds).length ≤ 2000000 by have := exc_len W ds 0; omega)
      have HPK2 := hidden (show IsW wr u7 (ds.map fun d => d % 2 ^ W) from Reads.of_own HPK.out)
      have HTL2 := hidden (IsBytes.of_own HTL.out)
      have HPU := hidden (show U64 (ds.map fun d => d % 2 ^ W) by
        intro x hx
        rw [List.mem_map] at hx
        obtain ⟨d, hd, rfl⟩ := hx
        exact Nat.lt_of_le_of_lt (Nat.mod_le _ _) (HDU.out d hd))
      have HZG := hidden (fun W' => rzigzag_any b0 W' HB0.out.1 (by have := HB0.out.2; omega))
      have HE1 := hidden (fun W' => rencode_any (zz b0) W' hz.1 (by omega))
      have HE2 := hidden (fun W' => rencode_any (W : Int) W' (by omega) (by omega))
      have hmm := HMM.out
      have HE3 := hidden (fun W' => rencode_any ((many W ds : Nat) : Int) W' (by omega) (by omega))
      have HPA := hidden (fun v' W' hv' => rpack_any v' (ds.map fun d => d % 2 ^ W) (W : Int) W' hv' HPU.out (by rw [List.length_map]; omega))
      have HPI := hidden (show packI (ds.map fun d => d % 2 ^ W) (W : Int) = packL ds W by
        unfold packI
        rw [List.length_map, okB_t (by omega) hW, if_pos rfl, Int.toNat_natCast, packL_mod])
      have HPLN := hidden (show (packL ds W).length ≤ 1000000 by
        rw [packL_length]
        have h5 : ds.length * W ≤ ds.length * 64 := Nat.mul_le_mul_left _ hW
        unfold szB
        omega)
      have HED : Hid (encD b0 ds W = enc (zz b0).toNat ++ enc W ++ enc (many W ds) ++ packL ds W ++ exc W 0 ds) := by show _ = _; unfold encD; simp
      rw [HPI.out] at HPA
      rw [Int.toNat_natCast] at HE2 HE3
      have hwk : IntKind.u64.wrap (W : Int) = (W : Int) := by rw [IntKind.wrap_u64]; omega
      have HL1 := hidden (enc_le10 (zz b0).toNat)
      have HL2 := hidden (enc_le10 W)
      have HL3 := hidden (enc_le10 (many W ds))
      have hwm : IntKind.u64.wrap ((many W ds : Nat) : Int) = ((many W ds : Nat) : Int) := by rw [IntKind.wrap_u64]; omega
      generalize exc W 0 ds = xs at *
      generalize packL ds W = pp at *
      generalize many W ds = mm at *
      generalize (ds.map fun d => d % 2 ^ W) = ps at *
      clear hmm
      go_wp2_with (first | (go_at_call 39; refine (HZG.out _).mono ?_; rintro e w2 ⟨rfl, rfl⟩))
      refine (HE1.out wr).mono ?_
      rintro e w1 ⟨v1, rfl, hown1, hb1⟩
      have HO1 := hidden hown1
      have HB1 := hidden hb1
      clear hown1 hb1
      go_wp2_with fail
      refine (HE2.out w1).mono ?_
      rintro e w2 ⟨v2, rfl, hown2, hb2⟩
      have HU2 := hidden (IsBytes.of_own hown2)
      have HB2 := hidden (HB1.out.trans (hb2.mono HB1.out.size))
      have HO2 := hidden (own_grow HO1.out hb2)
      clear hown2 hb2
      go_wp2_with ((at_builtin; go_loud (refine wpList_append_bytes (w := wr) rfl _ _ 27 rfl 5 Try.underlying27 info_u8 _ (enc (zz b0).toNat) (by rfl) HO2.out HB2.out _ (enc W) (by rfl) HU2.out (by have := HL1.out; have := HL2.out; omega) ?_); intro v3 w3 hown3 hb3; have HO3 := hidden hown3; have HB3 := hidden hb3; clear hown3 hb3))
      refine (HE3.out w3).mono ?_
      rintro e w4 ⟨v4, rfl, hown4, hb4⟩
      have HU4 := hidden (IsBytes.of_own hown4)
      have HB4 := hidden (HB3.out.trans (hb4.mono HB3.out.size))
      have HO4 := hidden (own_grow HO3.out hb4)
      clear hown4 hb4
      go_wp2_with ((at_builtin; go_loud (refine wpList_append_bytes (w := wr) rfl _ _ 27 rfl 5 Try.underlying27 info_u8 _ (enc (zz b0).toNat ++ enc W) (by rfl) HO4.out HB4.out _ (enc mm) (by rfl) HU4.out (by have := HL1.out; have := HL2.out; have := HL3.out; rw [List.length_append]; omega) ?_); intro v5 w5 hown5 hb5; have HO5 := hidden hown5; have HB5 := hidden hb5; clear hown5 hb5))
      refine (HPA.out _ w5 (IsW.grow HPK2.out HB5.out)).mono ?_
      rintro e w6 ⟨v6, rfl, hb6, hu6⟩
      have HU6 := hidden hu6
      have HB6 := hidden (HB5.out.trans (hb6.mono HB5.out.size))
      have HO6 := hidden (own_grow HO5.out hb6)
      clear hu6 hb6
      go_wp2_with (first | (at_builtin; go_loud (refine wpList_append_bytes (w := wr) rfl _ _ 27 rfl 5 Try.underlying27 info_u8 _ (enc (zz b0).toNat ++ enc W ++ enc mm) (by rfl) HO6.out HB6.out _ pp (by rfl) HU6.out (by have := HL1.out; have := HL2.out; have := HL3.out; have := HPLN.out; rw [List.length_append, List.length_append]; omega) ?_); intro v7 w7 hown7 hb7; have HO7 := hidden hown7; have HB7 := hidden hb7; have HT7 := hidden (HTL2.out.grow hb7); clear hown7 hb7) | (at_builtin; go_loud (refine wpList_append_bytes (w := wr) rfl _ _ 27 rfl 5 Try.underlying27 info_u8 _ (enc (zz b0).toNat ++ enc W ++ enc mm ++ pp) (by rfl) HO7.out HB7.out _ xs (by rfl) HT7.out (by have := HL1.out; have := HL2.out; have := HL3.out; have := HPLN.out; have := HXL.out; rw [List.length_append, List.length_append, List.length_append]; omega) ?_); intro v8 w8 hown8 hb8; have HO8 := hidden hown8; have HB8 := hidden hb8; clear hown8 hb8))
      go_ret
      refine ⟨_, rfl, Grows.of_below HB.out HB8.out, ?_⟩
      rw [HEW.out, HED.out]
      exact IsBytes.of_own HO8.out
theorem bestTo_lt {f : Nat → Nat} {k : Nat} (h1 : 1 ≤ k) (h : f k < f (bestTo f (k - 1))) : bestTo f k = k := by
  obtain ⟨j, rfl⟩ : ∃ j, k = j + 1 := ⟨k - 1, by omega⟩
  rw [Nat.add_sub_cancel] at h
  rw [bestTo, if_pos h]
theorem bestTo_ge {f : Nat → Nat} {k : Nat} (h1 : 1 ≤ k) (h : ¬ f k < f (bestTo f (k - 1))) : bestTo f k = bestTo f (k - 1) := by
  obtain ⟨j, rfl⟩ : ∃ j, k = j + 1 := ⟨k - 1, by omega⟩
  rw [Nat.add_sub_cancel] at h ⊢
  rw [bestTo, if_neg h]
theorem sizeW_len {l : List Int} {W : Nat} (hl : l.length ≤ 65536) (hW : W ≤ 64) : (encW l W).length ≤ 2000000 := by
  have h := encD_len (baseV l) (difL l) hW
  rw [difL_length] at h
  unfold encW
  omega
def RBestRel (w : World) (l : List Int) (best size i : Value) (wr : World) : Prop :=
  ∃ k : Nat, 1 ≤ k ∧ k ≤ 65 ∧ i = .int .i64 (k : Int) ∧ best = .int .i64 ((bestTo (sizeW l) (k - 1) : Nat) : Int) ∧ size = .int .i64 ((sizeW l (bestTo (sizeW l) (k - 1)) : Nat) : Int) ∧ Below w.heap.size w wr
set_option maxHeartbeats 2000000 in
theorem rbest_any (v : Value) (l : List Int) (w : World) (hv : IsI w v l) (hl : l.length ≤ 65536) (hin : ∀ x ∈ l, frIn x) :
    Calls Try.prog 58 #[v] w fun e w' => e = .returned (.tuple #[.int .i64 (baseV l), .int .i64 ((bestW l : Nat) : Int)]) ∧ Grows w w' := by
  have HV := hidden hv
  have HW := hidden (fun W hW w' hv' => rwith_any v l W w' hv' hl hW hin)
  have HLE := hidden (fun w' hv' => rleast_any v l w' hv' (by omega))
  have HSZ := hidden (fun W hW => sizeW_len (l := l) (W := W) hl hW)
  have HBL := hidden (bestTo_le (sizeW l))
  clear hv
  go_enter Try.func58, Try.ntmps58
  go_wp2_with fail
  refine (HW.out 0 (by omega) w HV.out).mono ?_
  rintro e w1 ⟨v1, rfl, hb1, hu1⟩
  obtain ⟨A1, d1, rfl, _⟩ := hu1
  have HB1 := hidden hb1
  clear hb1
  go_wp2_with fail
  go_loopw [4, 5, 6] (fun best size i wr => RBestRel w l best size i wr) (fun _ _ i _ => 65 - (intOf i).toNat)
  case atStart => exact ⟨1, by omega, by omega, rfl, rfl, rfl, HB1.out⟩
  case round =>
    obtain ⟨k, hk1, hk, rfl, rfl, rfl, hb⟩ := hrel
    have HB := hidden hb
    clear hb
    by_cases hlt : k ≤ 64
    · have hs1 := HSZ.out k (by omega)
      have hs2 : sizeW l (bestTo (sizeW l) (k - 1)) ≤ 2000000 := HSZ.out (bestTo (sizeW l) (k - 1)) (by have := HBL.out (k - 1); omega)
      have hbl := HBL.out (k - 1)
      have HWK := hidden (HW.out k (by omega) wr (IsI.grow HV.out HB.out))
      have HSW := hidden (show (encW l k).length = sizeW l k from rfl)
      rw [HSW.out] at hs1
      by_cases hc : sizeW l k < sizeW l (bestTo (sizeW l) (k - 1))
      · have HBS := hidden (bestTo_lt hk1 hc)
        have hd : decide (sizeW l k < sizeW l (bestTo (sizeW l) (k - 1))) = true := by simpa using hc
        have HS3 := hidden (show sizeW l (bestTo (sizeW l) k) = sizeW l k by rw [HBS.out])
        generalize sizeW l (bestTo (sizeW l) (k - 1)) = s0 at *
        generalize sizeW l k = s1 at *
        generalize bestTo (sizeW l) (k - 1) = b0 at *
        clear hc
        go_wp2_with fail
        refine HWK.out.mono ?_
        rintro e w2 ⟨v2, rfl, hb2, hu2⟩
        obtain ⟨A2, d2, rfl, _⟩ := hu2
        have HB2 := hidden (HB.out.trans (hb2.mono HB.out.size))
        clear hb2
        rw [HSW.out]
        go_wp2_with fail
        refine ⟨⟨k + 1, by omega, by omega, by go_num, ?_, ?_, HB2.out⟩, by simp [intOf]; omega⟩
        · rw [Nat.add_sub_cancel, HBS.out]
        · rw [Nat.add_sub_cancel, HS3.out]
      · have HBS := hidden (bestTo_ge hk1 hc)
        have hd : decide (sizeW l k < sizeW l (bestTo (sizeW l) (k - 1))) = false := by simpa using hc
        have HS3 := hidden (show sizeW l (bestTo (sizeW l) k) = sizeW l (bestTo (sizeW l) (k - 1)) by rw [HBS.out])
        generalize sizeW l (bestTo (sizeW l) (k - 1)) = s0 at *
        generalize sizeW l k = s1 at *
        generalize bestTo (sizeW l) (k - 1) = b0 at *
        clear hc
        go_wp2_with fail
        refine HWK.out.mono ?_
        rintro e w2 ⟨v2, rfl, hb2, hu2⟩
        obtain ⟨A2, d2, rfl, _⟩ := hu2
        have HB2 := hidden (HB.out.trans (hb2.mono HB.out.size))
        clear hb2
        rw [HSW.out]
        go_wp2_with fail
        refine ⟨⟨k + 1, by omega, by omega, by go_num, ?_, ?_, HB2.out⟩, by simp [intOf]; omega⟩
        · rw [Nat.add_sub_cancel, HBS.out]
        · rw [Nat.add_sub_cancel, HS3.out]
    · have hke : k = 65 := by omega
      subst hke
      rw [show 65 - 1 = 64 from rfl]
      have HLL := hidden (HLE.out wr (IsI.grow HV.out HB.out))
      have HFI := hidden (show bestTo (sizeW l) 64 = bestW l from rfl)
      generalize bestTo (sizeW l) 64 = b0 at *
      generalize sizeW l b0 = s0 at *
      go_wp2_with fail
      refine HLL.out.mono ?_
      rintro e w2 ⟨rfl, rfl⟩
      go_wp2_with fail
      go_ret2
      exact ⟨by rw [HFI.out]; rfl, HB.out⟩
theorem rencodeF_any (v : Value) (l : List Int) (w : World) (hv : IsI w v l) (hl : l.length ≤ 65536) (hin : ∀ x ∈ l, frIn x) :
    Calls Try.prog 40 #[v] w (ByR (encV l) w) := by
  have HV := hidden hv
  have HB := hidden (rbest_any v l w hv hl hin)
  have HW := hidden (fun w' hv' => rwith_any v l (bestW l) w' hv' hl (bestW_le l) hin)
  have HE := hidden (show encW l (bestW l) = encV l from rfl)
  clear hv
  generalize bestW l = b0 at *
  generalize baseV l = x0 at *
  go_enter Try.func40, Try.ntmps40
  go_wp2_with fail
  refine HB.out.mono ?_
  rintro e w1 ⟨rfl, hb1⟩
  have HB1 := hidden hb1
  clear hb1
  go_wp2_with fail
  refine (HW.out w1 (IsI.grow HV.out HB1.out)).mono ?_
  rintro e w2 ⟨v2, rfl, hb2, hu2⟩
  have HB2 := hidden (HB1.out.of_below hb2)
  have HU2 := hidden hu2
  clear hb2 hu2
  go_wp2_with fail
  go_ret
  exact ⟨_, rfl, HB2.out, by rw [← HE.out]; exact HU2.out⟩
end Go.Proofs.Ytjjeebaelpgjlaa
