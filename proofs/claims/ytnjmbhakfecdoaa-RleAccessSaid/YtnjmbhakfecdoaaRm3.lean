/-
  Package rle as it landed: Expand. Nothing that was there is changed.
-/
import Derived.Test.YtnjmbhakfecdoaaRm1
import Derived.Test.YtnjmbhakfecdoaaRl4
namespace Go.Proofs.Ytnjmbhakfecdoaa
open Go.RowKit
set_option linter.unusedVariables false
set_option linter.unusedSimpArgs false

theorem row_keeps {wr w' : World} {b g n sz : Nat} {e E : TypeId} {v : Value} {xs ys : List Value} (hown : wr.ownsRow b e sz v n xs) (hg : wr.grownBy w' v.ownBlock) (hr : Row wr g E ys) (hne : E ≠ e) : Row w' g E ys := by
  refine (hg.block g hr.lt ?_).trans hr
  intro he
  rcases hown.2 with ⟨rfl, _⟩ | ⟨g', cap, cur, rfl, _, h1, _⟩
  · cases he
  · simp only [Value.ownBlock, Option.some.injEq] at he
    subst he
    unfold Row at hr
    rw [h1] at hr
    injection hr with hr
    injection hr with _ h2 _
    exact hne h2.symm
/-- rows of another type than e are what they were -/
def KeepsRow (e : TypeId) (w w' : World) : Prop := ∀ g E ys, E ≠ e → Row w g E ys → Row w' g E ys
theorem wpList_append_ik {wr : World} {ops : Array Oper} {rest : List Oper} {o : Oper} {a : Act} {Q : Exit → Act → World → Prop} (hgd : o.guard = none) (s x : Operand)
    (ho : o.op = .call { callee := .builtin .append, args := #[s, x], argTypes := #[22, 22] })
    (v : Value) (pre : List Int) (hs : a.eval s = v) (base : Nat) (hown : wr.ownsRow base 2 1 v pre.length (icells pre)) (w0 : World) (hb : Below base w0 wr) (hbase : base ≤ wr.heap.size)
    (z : Int) (hx : a.eval x = .slice (some ⟨wr.heap.size, 0, none⟩) 1 1) (hlen : pre.length + 1 ≤ 17592186044416)
    (h : ∀ v' w', w'.ownsRow base 2 1 v' (pre ++ [z]).length (icells (pre ++ [z])) → Below base w0 w' → KeepsRow 2 wr w' → wpList Try.prog ops Q rest (a.put o.dst v') w') :
    wpList Try.prog ops Q (o :: rest) a (wr.alloc (.cells #[.int .i64 z] 2)) := by
  obtain ⟨i0, hi, hz0, hz1, hz2⟩ := info_parts info_i64
  refine wpList_append_own _ hgd s x 22 ho base 2 i0 (.int .i64 0) 1 8 Try.underlying22 hi hz0 hz1 hz2 rfl (by decide) v pre.length (icells pre) hs (hown.alloc _) ⟨wr.heap.size, 0, none⟩ 1 1 [.int .i64 z] hx rfl ?_ ?_ ?_ ?_ ?_ ?_
  · intro j u hj
    match j, hj with
    | 0, hj => simp at hj; subst hj; simp [Addr.add]
  · intro u hu; simp at hu; subst hu; rfl
  · unfold maxLen; omega
  · omega
  · simp; omega
  · intro v' w' h1 h2 _
    rw [← icells_snoc, show pre.length + 1 = (pre ++ [z]).length by simp] at h1
    exact h v' w' h1 ((hb.alloc hbase _).grown h2 (by simp; omega) (fun k hk => (hown.lt k hk).1))
      (fun g E ys hne hr => row_keeps (hown.alloc _) h2 (hr.grow (runGrow1 _)) hne)
theorem run_make_room (N : Nat) (hN : N ≤ 65536) (W : World) :
    (Instr.makeSlice 22 (.int .i64 0) (.int .i64 (N : Int))).run Try.prog W = .ok (.slice (some ⟨W.heap.size, 0, none⟩) 0 N) (W.alloc (.cells (madeCells #[.int .i64 0] N) 2)) := by
  obtain ⟨i0, hi, hz0, hz1, hz2⟩ := info_parts info_i64
  have hbs : (i0.bytes : Int) * (N : Int) ≤ 281474976710656 := by rw [hz2]; omega
  have h := run_make (P := Try.prog) W 22 2 i0 (.int .i64 0) Try.underlying22 hi hz0 .i64 .i64 0 (N : Int) (by omega) (by omega) hbs (by omega)
  rw [hz1] at h
  simpa [Value.cells] using h
theorem own_room (w : World) (N : Nat) (hN : N ≤ 65536) : (w.alloc (.cells (madeCells #[Value.int .i64 0] N) 2)).ownsRow w.heap.size 2 1 (.slice (some ⟨w.heap.size, 0, none⟩) 0 N) 0 [] := by
  refine ⟨by simp, .inr ⟨w.heap.size, N, madeCells #[Value.int .i64 0] N, rfl, Nat.le_refl _, by show (w.heap.push _)[w.heap.size]? = _; simp, Nat.zero_le _, by unfold maxLen; omega, ?_, by simp⟩⟩
  have h : (madeCells #[Value.int .i64 0] N).toList.length = N := by rw [toList_madeCells_one]; simp
  rw [Array.length_toList] at h
  omega
def LExRel (w : World) (l : List Rn) (out i : Value) (wr : World) : Prop :=
  ∃ j : Nat, j ≤ l.length ∧ i = .int .i64 (j : Int) ∧ wr.ownsRow w.heap.size 2 1 out (expR (l.take j)).length (icells (expR (l.take j))) ∧ Below w.heap.size w wr
def LExIn (w : World) (g : Nat) (pre : List Int) (x : Int) (n : Nat) (out k : Value) (wr : World) : Prop :=
  ∃ j : Nat, j ≤ n ∧ k = .int .i64 (j : Int) ∧ Row wr g 59 [.int .i64 x, .int .i64 (n : Int)] ∧ wr.ownsRow w.heap.size 2 1 out (pre ++ List.replicate j x).length (icells (pre ++ List.replicate j x)) ∧ Below w.heap.size w wr
set_option maxHeartbeats 2000000 in
theorem lexpand_any (v : Value) (l : List Rn) (w : World) (hv : ReadsR w v l) (hl : l.length ≤ 9223372036854775806) :
    Calls Try.prog 12 #[v] w (ExR (expI l) (expE l) w) := by
  have HV := hidden hv
  have HVA := hidden (llength_any v l w hv hl)
  obtain ⟨A, c, rfl⟩ := hv.slice_
  clear hv
  cases hval : validR l
  · have HE := hidden (show expI l = [] by unfold expI; rw [hval]; rfl)
    have HE2 := hidden (show expE l = 4 by unfold expE; rw [hval]; rfl)
    rw [lenV_f hval] at HVA
    clear hval
    go_enter Try.func12, Try.ntmps12
    go_wp2_with ((go_at_call 31; refine HVA.out.mono ?_; rintro e w2 ⟨rfl, g2⟩; have HG2 := hidden g2; clear g2))
    go_ret2
    exact ⟨_, by rw [HE2.out]; rfl, HG2.out, by rw [HE.out]; exact Reads.nil_ _ 0⟩
  · have HE := hidden (show expI l = expR l by unfold expI; rw [hval]; rfl)
    have HE2 := hidden (show expE l = 0 by unfold expE; rw [hval]; rfl)
    have HVL := hidden hval
    have hsum := valid_sum hval l.length (Nat.le_refl _)
    rw [List.take_length] at hsum
    obtain ⟨N, hN⟩ := Int.eq_ofNat_of_zero_le hsum.1
    have hN6 : N ≤ 65536 := by omega
    rw [lenV_t hval, hN] at HVA
    have hmk := fun W => run_make_room N hN6 W
    have HN6 := hidden hN6
    clear hval hsum hN hN6
    go_enter Try.func12, Try.ntmps12
    go_wp2_with ((go_at_call 31; refine HVA.out.mono ?_; rintro e w2 ⟨rfl, g2⟩; have HG2 := hidden g2; clear g2))
    clear hmk
    go_loopw [6, 20] (fun out i wr => LExRel w l out i wr) (fun _ i _ => l.length - (intOf i).toNat)
    case atStart =>
      refine ⟨0, by omega, rfl, ?_, HG2.out.alloc HG2.out.size _⟩
      exact ownsRow_base (own_room w2 N HN6.out) HG2.out.size
    case round =>
      obtain ⟨j, hj, rfl, hown, hb⟩ := hrel
      have HB := hidden hb
      have HOW := hidden hown
      clear hown hb
      by_cases hlt : j < l.length
      · have HTK := hidden (expR_take hlt)
        have hcn := valid_count HVL.out hlt
        have hpre := valid_pre HVL.out (j := j + 1) (by omega)
        rw [HTK.out, List.length_append, List.length_replicate] at hpre
        obtain ⟨b, off, hA, hc⟩ := (HV.out.grow HB.out).at_
        obtain rfl := hA (by omega)
        obtain ⟨c1, c2⟩ := hc j hlt
        obtain ⟨x, hx⟩ : ∃ x, x = l[j].1 := ⟨_, rfl⟩
        obtain ⟨n, hn⟩ : ∃ n : Nat, (n : Int) = l[j].2 := ⟨l[j].2.toNat, by omega⟩
        rw [← hn] at c2 hcn HTK
        rw [← hn] at hpre
        rw [← hx] at c1 HTK
        rw [Int.toNat_natCast] at hpre HTK
        clear hx hn hA hc
        have HBA := hidden (show Below w.heap.size w (wr.alloc (.cells #[.int .i64 x, .int .i64 (n : Int)] 59)) from HB.out.alloc HB.out.size _)
        have HOA := hidden (show (wr.alloc (.cells #[.int .i64 x, .int .i64 (n : Int)] 59)).ownsRow w.heap.size 2 1 u6 (expR (l.take j)).length (icells (expR (l.take j))) from HOW.out.alloc _)
        have HRA := hidden (runRow wr (.int .i64 x) (.int .i64 (n : Int)))
        go_wp2_with fail
        go_loopw [6, 26] (fun out k wr2 => LExIn w wr.heap.size (expR (l.take j)) x n out k wr2) (fun _ k _ => n - (intOf k).toNat)
        case atStart => exact ⟨0, by omega, rfl, HRA.out, by simpa using HOA.out, HBA.out⟩
        case round =>
          obtain ⟨k, hk, rfl, hrow, hown2, hb2⟩ := hrel
          have HB2 := hidden hb2
          have HOW2 := hidden hown2
          have HR2 := hidden hrow
          obtain ⟨k1, k2⟩ := runCells hrow
          clear hown2 hb2 hrow c1 c2
          by_cases hkn : k < n
          · have HRS := hidden (rep_snoc k x (expR (l.take j)))
            have hlen : (expR (l.take j) ++ List.replicate k x).length + 1 ≤ 17592186044416 := by rw [List.length_append, List.length_replicate]; omega
            have HLN := hidden hlen
            have hsz := HB2.out.size
            clear hlen
            go_wp2_with ((at_builtin; go_loud (refine wpList_append_ik rfl _ _ rfl _ (expR (l.take j) ++ List.replicate k x) (by rfl) w.heap.size HOW2.out _ HB2.out hsz _ (by rfl) HLN.out ?_); intro v' w3 hown3 hb3 hk3; have HO3 := hidden hown3; have HB3 := hidden hb3; have HR3 := hidden (hk3 _ _ _ (by decide) HR2.out); clear hown3 hb3 hk3 k1 k2))
            refine ⟨⟨k + 1, by omega, by go_num, HR3.out, ?_, HB3.out⟩, by simp [intOf]; omega⟩
            rw [HRS.out]
            exact HO3.out
          · have hke : k = n := by omega
            subst hke
            go_wp2_with fail
            refine ⟨⟨j + 1, by omega, by go_num, ?_, HB2.out⟩, by simp [intOf]; omega⟩
            rw [HTK.out]
            exact HOW2.out
      · have hke : j = l.length := by omega
        subst hke
        have HT := hidden (List.take_length (l := l))
        go_wp2_with fail
        go_ret2
        refine ⟨_, by rw [HE2.out]; rfl, HB.out, ?_⟩
        rw [HE.out]
        have h := HOW.out
        rw [HT.out] at h
        exact Reads.of_own h
end Go.Proofs.Ytnjmbhakfecdoaa
