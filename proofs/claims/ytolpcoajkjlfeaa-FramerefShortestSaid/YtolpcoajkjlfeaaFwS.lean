/-
  The walk of the law FramerefShortest: it returns true for all values, moves and widths; nothing that was there is changed.
-/
import Derived.Test.YtolpcoajkjlfeaaFw0
import Derived.Test.YtolpcoajkjlfeaaFr2
import Derived.Maps.AppendAt
namespace Go.Proofs.Ytolpcoajkjlfeaa
open Go.RowKit
set_option linter.unusedVariables false
set_option linter.unusedSimpArgs false

/-- x does not lie in v's block -/
def Apart8 (x v : Value) : Prop := x.ownBlock = none ∨ x.ownBlock ≠ v.ownBlock
theorem Apart8.symm {x v : Value} (h : Apart8 x v) : Apart8 v x := by
  unfold Apart8 at *
  cases hv : v.ownBlock with
  | none => exact .inl rfl
  | some g =>
    refine .inr fun h2 => ?_
    rcases h with h | h
    · rw [h] at h2; cases h2
    · rw [hv] at h; exact h h2.symm
theorem wpList_append_i2 {wr : World} {ops : Array Oper} {rest : List Oper} {o : Oper} {a : Act} {Q : Exit → Act → World → Prop} (hgd : o.guard = none) (s x : Operand)
    (ho : o.op = .call { callee := .builtin .append, args := #[s, x], argTypes := #[22, 22] })
    (v : Value) (pre : List Int) (hs : a.eval s = v) (base : Nat) (hown : wr.ownsRow base 2 1 v pre.length (icells pre)) (w0 : World) (hb : Below base w0 wr) (hbase : base ≤ wr.heap.size)
    (y : Value) (yl : List Int) (hy : wr.ownsRow base 2 1 y yl.length (icells yl)) (hap : Apart8 y v)
    (z : Int) (hx : a.eval x = .slice (some ⟨wr.heap.size, 0, none⟩) 1 1) (hlen : pre.length + 1 ≤ 17592186044416)
    (h : ∀ v' w', w'.ownsRow base 2 1 v' (pre ++ [z]).length (icells (pre ++ [z])) → Below base w0 w' → w'.ownsRow base 2 1 y yl.length (icells yl) → Apart8 y v' → wpList Try.prog ops Q rest (a.put o.dst v') w') :
    wpList Try.prog ops Q (o :: rest) a (wr.alloc (.cells #[.int .i64 z] 2)) := by
  obtain ⟨i0, hi, hz0, hz1, hz2⟩ := info_parts info_i64
  refine wpList_append_own_at _ hgd s x 22 ho base 2 i0 (.int .i64 0) 1 8 Try.underlying22 hi hz0 hz1 hz2 rfl (by decide) v pre.length (icells pre) hs (hown.alloc _) ⟨wr.heap.size, 0, none⟩ 1 1 [.int .i64 z] hx rfl ?_ ?_ ?_ ?_ ?_ ?_
  · intro j u hj
    match j, hj with
    | 0, hj => simp at hj; subst hj; simp [Addr.add]
  · intro u hu; simp at hu; subst hu; rfl
  · unfold maxLen; omega
  · omega
  · simp; omega
  · intro v' w' h1 h2 _ hat
    rw [← icells_snoc, show pre.length + 1 = (pre ++ [z]).length by simp] at h1
    refine h v' w' h1 ((hb.alloc hbase _).grown h2 (by simp; omega) (fun k hk => (hown.lt k hk).1)) ((hy.alloc _).kept h2 hap) ?_
    cases hyb : y.ownBlock with
    | none => exact .inl hyb
    | some g =>
      refine .inr fun he => ?_
      rw [hyb] at he
      rcases hat with hat | hat
      · rw [hat] at he
        rcases hap with hap | hap
        · rw [hyb] at hap; cases hap
        · rw [hyb] at hap; exact hap he
      · rw [hat] at he
        injection he with he
        have := (hy.lt g hyb).2
        simp at he
        omega
def SRel8 (w : World) (l : List Int) (m : Int) (a b i : Value) (wr : World) : Prop :=
  ∃ k : Nat, k ≤ l.length ∧ i = .int .i64 (k : Int) ∧ (∀ x ∈ l.take k, -1099511627776 ≤ x ∧ x ≤ 1099511627776) ∧
    wr.ownsRow w.heap.size 2 1 a ((l.take k).map (· + m)).length (icells ((l.take k).map (· + m))) ∧
    wr.ownsRow w.heap.size 2 1 b (List.replicate k m).length (icells (List.replicate k m)) ∧ Apart8 b a ∧ Below w.heap.size w wr
set_option maxRecDepth 20000 in
set_option maxHeartbeats 4000000 in
theorem law_shortest (v : Value) (l : List Int) (m wd : Int) (w : World) (hv : IsI w v l) (hin : ∀ x ∈ l, frIn x) (hlm : l.length ≤ 9223372036854775806) (hm63 : -9223372036854775808 ≤ m) (hm64 : m ≤ 9223372036854775807) (hw0 : 0 ≤ wd) (hw1 : wd ≤ 255) :
    Calls Try.prog 7 #[v, .int .i64 m, .int .u8 wd] w fun e w' => e = .returned (.bool true) ∧ Below w.heap.size w w' := by
  have HA0 := hidden (awakeF_any w)
  have HV := hidden hv
  obtain ⟨A, c, rfl⟩ := hv.slice_
  clear hv
  by_cases hbig : 300 < l.length ∨ 1099511627776 < m ∨ m < -1099511627776
  · have hcase : decide ((300 : Int) < (l.length : Int)) = true ∨ (decide ((300 : Int) < (l.length : Int)) = false ∧ decide (1099511627776 < m) = true) ∨ (decide ((300 : Int) < (l.length : Int)) = false ∧ decide (1099511627776 < m) = false ∧ decide (m < -1099511627776) = true) := by
      simp only [decide_eq_true_eq, decide_eq_false_iff_not]
      omega
    clear hbig
    rcases hcase with h1 | ⟨h1, h2⟩ | ⟨h1, h2, h3⟩
    all_goals go_enter Try.func7, Try.ntmps7
    all_goals go_wp2_with fail
    all_goals refine HA0.out.mono ?_
    all_goals rintro e w1 ⟨rfl, g1⟩
    all_goals go_wp2_with fail
    all_goals go_ret
    all_goals exact ⟨rfl, g1⟩
  have e1 : decide ((300 : Int) < (l.length : Int)) = false := by simp; omega
  have e2 : decide (1099511627776 < m) = false := by simp; omega
  have e3 : decide (m < -1099511627776) = false := by simp; omega
  have hl3 : l.length ≤ 300 := by omega
  have hma : m ≤ 1099511627776 := by omega
  have hmb : -1099511627776 ≤ m := by omega
  clear hbig
  go_enter Try.func7, Try.ntmps7
  go_wp2_with fail
  clear e1 e2 e3
  go_loopw [7, 8, 29] (fun a b i wr => SRel8 w l m a b i wr) (fun _ _ i _ => l.length - (intOf i).toNat)
  case atStart => exact ⟨0, by omega, rfl, by simp, ⟨rfl, .inl ⟨rfl, rfl⟩⟩, ⟨rfl, .inl ⟨rfl, rfl⟩⟩, .inl rfl, Below.refl _ _⟩
  case round =>
    obtain ⟨k, hk, rfl, hall, ha, hb2, hap, hb⟩ := hrel
    have HB := hidden hb
    have HAL := hidden hall
    have HOA := hidden ha
    have HOB := hidden hb2
    have HAP := hidden hap
    clear hall ha hb2 hap hb
    by_cases hlt : k < l.length
    · obtain ⟨bb, f, rfl, hck⟩ := (HV.out.grow HB.out).at_ hlt
      have HTK := hidden (List.take_succ_eq_append_getElem hlt)
      generalize l[k] = x at *
      by_cases hx : 1099511627776 < x ∨ x < -1099511627776
      · have hcase : decide (1099511627776 < x) = true ∨ (decide (1099511627776 < x) = false ∧ decide (x < -1099511627776) = true) := by
          simp only [decide_eq_true_eq, decide_eq_false_iff_not]
          omega
        clear hx
        rcases hcase with h1 | ⟨h1, h2⟩
        all_goals go_wp2_with fail
        all_goals refine (awakeF_any wr).mono ?_
        all_goals rintro e w1 ⟨rfl, g1⟩
        all_goals go_wp2_with fail
        all_goals go_ret
        all_goals exact ⟨rfl, Grows.of_below HB.out g1⟩
      have hx1 : decide (1099511627776 < x) = false := by simp; omega
      have hx2 : decide (x < -1099511627776) = false := by simp; omega
      have hxa : x ≤ 1099511627776 := by omega
      have hxb : -1099511627776 ≤ x := by omega
      have HNA := hidden (show (l.take (k + 1)).map (· + m) = (l.take k).map (· + m) ++ [x + m] by rw [HTK.out, List.map_append]; rfl)
      have HNB := hidden (show List.replicate (k + 1) m = List.replicate k m ++ [m] from List.replicate_succ')
      have HLA := hidden (show ((l.take k).map (· + m)).length = k by rw [List.length_map, List.length_take]; omega)
      have HLB := hidden (show (List.replicate k m).length = k from List.length_replicate)
      have HNL : Hid (∀ y ∈ l.take (k + 1), -1099511627776 ≤ y ∧ y ≤ 1099511627776) := fun y hy => by
        rw [HTK.out] at hy
        rcases List.mem_append.1 hy with h | h
        · exact HAL.out y h
        · rw [List.mem_singleton] at h
          subst h
          exact ⟨hxb, hxa⟩
      generalize (l.take k).map (· + m) = xs at *
      generalize List.replicate k m = bs at *
      have hsz := HB.out.size
      clear hx
      go_wp2_with (first | (at_builtin; go_loud (refine wpList_append_i2 rfl _ _ rfl _ xs (by rfl) w.heap.size HOA.out _ HB.out hsz _ bs HOB.out HAP.out (x + m) (by rfl) (by rw [HLA.out]; omega) ?_); intro v3 w3 hown3 hb3 hy3 hap3; have HA3 := hidden hown3; have HB3 := hidden hb3; have HO3 := hidden hy3; have HAP3 := hidden hap3; have hsz3 := hb3.size; clear hown3 hb3 hy3 hap3) | (at_builtin; go_loud (refine wpList_append_i2 rfl _ _ rfl _ bs (by rfl) w.heap.size HO3.out _ HB3.out hsz3 _ (xs ++ [x + m]) HA3.out HAP3.out.symm m (by rfl) (by rw [HLB.out]; omega) ?_); intro v4 w4 hown4 hb4 hy4 hap4; have HO4 := hidden hown4; have HB4 := hidden hb4; have HA4 := hidden hy4; have HAP4 := hidden hap4; clear hown4 hb4 hy4 hap4))
      refine ⟨⟨k + 1, by omega, by go_num, HNL.out, by rw [HNA.out]; exact HA4.out, by rw [HNB.out]; exact HO4.out, HAP4.out.symm, HB4.out⟩, by simp [intOf]; omega⟩
    · have hke : k = l.length := by omega
      have htk : l.take k = l := by rw [hke, List.take_length]
      rw [htk] at HOA HAL
      rw [hke] at HOB
      clear hke htk
      have HI1 := hidden (show IsI wr u7 (l.map (· + m)) from Reads.of_own HOA.out)
      have HI2 := hidden (show IsI wr u8 (List.replicate l.length m) from Reads.of_own HOB.out)
      have HIN1 : Hid (∀ x ∈ l.map (· + m), frIn x) := fun x hx => by
        rw [List.mem_map] at hx
        obtain ⟨y, hy, rfl⟩ := hx
        have := HAL.out y hy
        unfold frIn
        omega
      have hmI : frIn m := by unfold frIn; omega
      have HIN2 : Hid (∀ x ∈ List.replicate l.length m, frIn x) := fun x hx => by rw [List.eq_of_mem_replicate hx]; exact hmI
      have HB1 := hidden (best_any _ l wr (IsI.grow HV.out HB.out) (by omega) hin)
      have HB2 := hidden (fun w' hv' => best_any u7 (l.map (· + m)) w' hv' (by rw [List.length_map]; omega) HIN1.out)
      rw [bestW_add] at HB2
      obtain ⟨W, hW⟩ := Int.eq_ofNat_of_zero_le (a := wd) hw0
      subst hW
      obtain ⟨V, hV⟩ : ∃ V, V = W % 65 := ⟨_, rfl⟩
      have hV6 : V ≤ 64 := by omega
      have hWV : (W : Int) % 65 = (V : Int) := by omega
      have HS1 := hidden (fun w' (h : Grows w w') => size_anyF _ l w' (IsI.grow HV.out h) (by omega) hin)
      have HWI := hidden (fun w' (h : Grows w w') => rwith_any _ l V w' (IsI.grow HV.out h) (by omega) hV6 hin)
      have hle := sizeV_le l hV6
      have hel := encV_len l
      have HS2 := hidden (fun w' hv' => size_anyF u8 (List.replicate l.length m) w' hv' (by rw [List.length_replicate]; omega) HIN2.out)
      have HS3 := hidden (fun w' v' hv' => size_anyF v' [m] w' hv' (by simp) (fun x hx => by rw [List.mem_singleton] at hx; rw [hx]; exact hmI))
      have HSS := hidden (fun (h : 0 < l.length) => show sizeV (List.replicate l.length m) = sizeV [m] from (sizeV_same h).trans (sizeV_same (n := 1) (by omega)).symm)
      have hsl : sizeV l ≤ 1000000 := by rw [sizeV_len]; omega
      have hwl := sizeW_len (l := l) (W := V) (by omega) hV6
      have hd1 : decide ((encW l V).length < sizeV l) = false := by simp; exact hle
      obtain ⟨T, hT⟩ : ∃ T, T = (encW l V).length := ⟨_, rfl⟩
      have HTE := hidden hT
      rw [← hT] at hd1 hwl
      generalize bestW l = bw at *
      generalize sizeV l = s1 at *
      generalize baseV l = b0 at *
      generalize baseV (l.map (· + m)) = b1 at *
      clear hV hT hle hel
      go_wp2_with fail
      refine HB1.out.mono ?_
      rintro e w2 ⟨rfl, g2⟩
      have HG2 := hidden g2
      clear g2
      go_wp2_with fail
      refine (HB2.out w2 (IsI.grow HI1.out HG2.out)).mono ?_
      rintro e w3 ⟨rfl, g3⟩
      have HG3 := hidden (HG2.out.of_below g3)
      have HGW3 := hidden (Grows.of_below HB.out (HG2.out.of_below g3))
      clear g3
      go_wp2_with fail
      refine (HS1.out w3 HGW3.out).mono ?_
      rintro e w4 ⟨rfl, g4⟩
      have HG4 := hidden (HG3.out.of_below g4)
      have HGW4 := hidden (HGW3.out.of_below g4)
      clear g4
      go_wp2_with fail
      refine (HWI.out w4 HGW4.out).mono ?_
      rintro e w5 ⟨u5, rfl, g5, hu5⟩
      obtain ⟨A5, c5, hv5, _⟩ := hu5
      subst hv5
      rw [← HTE.out]
      have HG5 := hidden (HG4.out.of_below g5)
      have HGW5 := hidden (HGW4.out.of_below g5)
      clear g5
      by_cases hn0 : l.length = 0
      · have hz : ((l.length : Int) == 0) = true := by simp; exact List.eq_nil_of_length_eq_zero hn0
        clear hn0
        go_wp2_with fail
        refine (awakeF_any w5).mono ?_
        rintro e w6 ⟨rfl, g6⟩
        have HG6 := hidden (HGW5.out.of_below g6)
        clear g6
        go_wp2_with fail
        go_ret
        exact ⟨rfl, HG6.out⟩
      · have hz : ((l.length : Int) == 0) = false := by simp; exact fun h => hn0 (by rw [h]; rfl)
        have HSE := hidden (HSS.out (by omega))
        have HS2' := hidden (HS2.out w5 (IsI.grow HI2.out HG5.out))
        rw [HSE.out] at HS2'
        clear hn0
        generalize sizeV [m] = s3 at *
        go_wp2_with fail
        refine HS2'.out.mono ?_
        rintro e w6 ⟨rfl, g6⟩
        have HGW6 := hidden (HGW5.out.of_below g6)
        have HS3' := hidden (HS3.out (w6.alloc (.cells #[.int .i64 m] 2)) (.slice (some ⟨w6.heap.size, 0, none⟩) 1 1) (Reads.of_row (Row.at_ w6 2 _ (icells [m]) rfl _ rfl) 1 1 rfl (Nat.le_refl _)))
        have HGW7 := hidden (HGW6.out.of_below ((Below.refl w6.heap.size w6).alloc (Nat.le_refl _) (.cells #[.int .i64 m] 2)))
        clear g6
        go_wp2_with fail
        refine HS3'.out.mono ?_
        rintro e w8 ⟨rfl, g8⟩
        have HGW8 := hidden (HGW7.out.of_below g8)
        clear g8
        go_wp2_with fail
        refine (awakeF_any w8).mono ?_
        rintro e w9 ⟨rfl, g9⟩
        have HGW9 := hidden (HGW8.out.of_below g9)
        clear g9
        go_wp2_with fail
        go_ret
        exact ⟨rfl, HGW9.out⟩
end Go.Proofs.Ytolpcoajkjlfeaa
