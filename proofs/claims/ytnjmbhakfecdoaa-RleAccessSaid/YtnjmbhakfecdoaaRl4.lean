/-
  The reference's Expand. Nothing that was there is changed.
-/
import Derived.Test.YtnjmbhakfecdoaaRl3
import Derived.Maps.AppendAt
namespace Go.Proofs.Ytnjmbhakfecdoaa
open Go.RowKit
set_option linter.unusedVariables false
set_option linter.unusedSimpArgs false

theorem info_i64 : (Try.prog.info? 2).map (fun i => (i.zero, i.size, i.bytes)) = some (some (.int .i64 0), 1, 8) := by kernel_rfl
theorem wpList_append_i {wr : World} {ops : Array Oper} {rest : List Oper} {o : Oper} {a : Act} {Q : Exit → Act → World → Prop} (hgd : o.guard = none) (s x : Operand)
    (ho : o.op = .call { callee := .builtin .append, args := #[s, x], argTypes := #[22, 22] })
    (v : Value) (pre : List Int) (hs : a.eval s = v) (base : Nat) (hown : wr.ownsRow base 2 1 v pre.length (icells pre)) (w0 : World) (hb : Below base w0 wr) (hbase : base ≤ wr.heap.size)
    (z : Int) (hx : a.eval x = .slice (some ⟨wr.heap.size, 0, none⟩) 1 1) (hlen : pre.length + 1 ≤ 17592186044416)
    (h : ∀ v' w', w'.ownsRow base 2 1 v' (pre ++ [z]).length (icells (pre ++ [z])) → Below base w0 w' → wpList Try.prog ops Q rest (a.put o.dst v') w') :
    wpList Try.prog ops Q (o :: rest) a (wr.alloc (.cells #[.int .i64 z] 2)) := by
  obtain ⟨i0, hi, hz0, hz1, hz2⟩ := info_parts info_i64
  refine wpList_append_own _ hgd s x 22 ho base 2 i0 (.int .i64 0) 1 8 Try.underlying22 hi hz0 hz1 hz2 rfl (by decide) v pre.length (icells pre) hs (hown.alloc _) ⟨wr.heap.size, 0, none⟩ 1 1 [.int .i64 z] hx rfl ?_ ?_ ?_ ?_ ?_ ?_
  · intro j u hj
    match j, hj with
    | 0, hj => simp at hj; subst hj; simp [Addr.add]
  · intro u hu; simp at hu; subst hu; rfl
  · unfold maxLen; omega
  · omega
  · simp; omega
  · intro v' w' h1 h2 _
    rw [← icells_snoc, show pre.length + 1 = (pre ++ [z]).length by simp] at h1
    exact h v' w' h1 ((hb.alloc hbase _).grown h2 (by simp; omega) (fun k hk => (hown.lt k hk).1))
def expI (l : List Rn) : List Int := if validR l then expR l else []
def expE (l : List Rn) : Int := if validR l then 0 else 4
def ExR (l : List Int) (x : Int) (w : World) (e : Ending) (w' : World) : Prop := ∃ v, e = .returned (.tuple #[v, .int .i64 x]) ∧ Grows w w' ∧ IsI w' v l
theorem rep_snoc (n : Nat) (x : Int) (l : List Int) : l ++ List.replicate (n + 1) x = (l ++ List.replicate n x) ++ [x] := by rw [List.replicate_succ', List.append_assoc]
theorem valid_pre {l : List Rn} (h : validR l = true) {j : Nat} (hj : j ≤ l.length) : (expR (l.take j)).length ≤ 65536 := by
  have h1 := expR_length (l := l.take j) fun x hx => valid_nonneg h x (List.mem_of_mem_take hx)
  have h2 := valid_sum h j hj
  omega
def RExRel (w : World) (l : List Rn) (out i : Value) (wr : World) : Prop :=
  ∃ j : Nat, j ≤ l.length ∧ i = .int .i64 (j : Int) ∧ wr.ownsRow w.heap.size 2 1 out (expR (l.take j)).length (icells (expR (l.take j))) ∧ Below w.heap.size w wr
def RExIn (w : World) (pre : List Int) (x : Int) (n : Nat) (out k : Value) (wr : World) : Prop :=
  ∃ j : Nat, j ≤ n ∧ k = .int .i64 (j : Int) ∧ wr.ownsRow w.heap.size 2 1 out (pre ++ List.replicate j x).length (icells (pre ++ List.replicate j x)) ∧ Below w.heap.size w wr
set_option maxHeartbeats 2000000 in
theorem rlexpand_any (v : Value) (l : List Rn) (w : World) (hv : ReadsR w v l) (hl : l.length ≤ 9223372036854775806) :
    Calls Try.prog 17 #[v] w (ExR (expI l) (expE l) w) := by
  have HV := hidden hv
  have HVA := hidden (rlvalid_any v l w hv hl)
  obtain ⟨A, c, rfl⟩ := hv.slice_
  clear hv
  cases hval : validR l
  · have HE := hidden (show expI l = [] by unfold expI; rw [hval]; rfl)
    have HE2 := hidden (show expE l = 4 by unfold expE; rw [hval]; rfl)
    rw [hval] at HVA
    clear hval
    go_enter Try.func17, Try.ntmps17
    go_wp2_with ((go_at_call 9; refine HVA.out.mono ?_; rintro e w2 ⟨rfl, g2⟩))
    go_ret2
    exact ⟨_, by rw [HE2.out]; rfl, by assumption, by rw [HE.out]; exact Reads.nil_ _ 0⟩
  · have HE := hidden (show expI l = expR l by unfold expI; rw [hval]; rfl)
    have HE2 := hidden (show expE l = 0 by unfold expE; rw [hval]; rfl)
    have HVL := hidden hval
    rw [hval] at HVA
    clear hval
    go_enter Try.func17, Try.ntmps17
    go_wp2_with ((go_at_call 9; refine HVA.out.mono ?_; rintro e w2 ⟨rfl, g2⟩; have HG2 := hidden g2; clear g2))
    go_loopw [4, 5] (fun out i wr => RExRel w l out i wr) (fun _ i _ => l.length - (intOf i).toNat)
    case atStart => exact ⟨0, by omega, rfl, ⟨rfl, .inl ⟨rfl, rfl⟩⟩, HG2.out⟩
    case round =>
      obtain ⟨j, hj, rfl, hown, hb⟩ := hrel
      have HB := hidden hb
      have HOW := hidden hown
      clear hown hb
      by_cases hlt : j < l.length
      · have HTK := hidden (expR_take hlt)
        have hcn := valid_count HVL.out hlt
        have hpre := valid_pre HVL.out (j := j + 1) (by omega)
        rw [HTK.out, List.length_append, List.length_replicate] at hpre
        have HC := hidden (fun (W : World) (h : Grows w W) => (HV.out.grow h).at_)
        have HAT := hidden (show ∃ b off, A = some ⟨b, off, none⟩ ∧ ∀ W, Grows w W → W.cell? ⟨b, off + j * 2, none⟩ = some (.int .i64 l[j].1) ∧ W.cell? ⟨b, off + j * 2 + 1, none⟩ = some (.int .i64 l[j].2) by
          obtain ⟨b, off, hA, _⟩ := HV.out.at_
          have hA' := hA (by omega)
          refine ⟨b, off, hA', fun W h => ?_⟩
          obtain ⟨b2, off2, hA2, hc2⟩ := (HV.out.grow h).at_
          have h3 := hA2 (by omega)
          rw [hA'] at h3
          injection h3 with h3
          injection h3 with h4 h5
          subst h4 h5
          exact hc2 j hlt)
        obtain ⟨b, off, rfl, hcells⟩ := HAT.out
        obtain ⟨x, hx⟩ : ∃ x, x = l[j].1 := ⟨_, rfl⟩
        obtain ⟨n, hn⟩ : ∃ n : Nat, (n : Int) = l[j].2 := ⟨l[j].2.toNat, by omega⟩
        rw [← hn] at hcells hcn HTK
        rw [← hn] at hpre
        rw [← hx] at hcells HTK
        rw [Int.toNat_natCast] at hpre HTK
        have HCL := hidden hcells
        clear hcells hx hn HAT HC
        go_wp2_with fail
        go_loopw [4, 6] (fun out k wr => RExIn w (expR (l.take j)) x n out k wr) (fun _ k _ => n - (intOf k).toNat)
        case atStart => exact ⟨0, by omega, rfl, by simpa using HOW.out, HB.out⟩
        case round =>
          obtain ⟨k, hk, rfl, hown2, hb2⟩ := hrel
          have HB2 := hidden hb2
          have HOW2 := hidden hown2
          obtain ⟨c1, c2⟩ := HCL.out wr hb2
          clear hown2 hb2
          by_cases hkn : k < n
          · have HRS := hidden (rep_snoc k x (expR (l.take j)))
            have hlen : (expR (l.take j) ++ List.replicate k x).length + 1 ≤ 17592186044416 := by rw [List.length_append, List.length_replicate]; omega
            have HLN := hidden hlen
            have hsz := HB2.out.size
            clear hlen
            go_wp2_with ((at_builtin; go_loud (refine wpList_append_i rfl _ _ rfl _ (expR (l.take j) ++ List.replicate k x) (by rfl) w.heap.size HOW2.out _ HB2.out hsz _ (by rfl) HLN.out ?_); intro v' w3 hown3 hb3))
            have HO3 := hidden hown3
            have HB3 := hidden hb3
            clear hown3 hb3
            first
              | (refine ⟨⟨k + 1, by omega, by go_num, ?_, HB3.out⟩, by simp [intOf]; omega⟩; rw [HRS.out]; exact HO3.out)
              | (go_wp2; go_roundw; (case rel => refine ⟨k + 1, by omega, by go_num, ?_, HB3.out⟩; rw [HRS.out]; exact HO3.out); (case measure => simp [intOf]; omega))
          · have hke : k = n := by omega
            subst hke
            go_wp2_with fail
            refine ⟨⟨j + 1, by omega, by go_num, ?_, HB2.out⟩, by simp [intOf]; omega⟩
            rw [HTK.out]
            exact HOW2.out
      · have hke : j = l.length := by omega
        subst hke
        have HT := hidden (List.take_length (l := l))
        go_wp2_with fail
        go_ret2
        refine ⟨_, by rw [HE2.out]; rfl, HB.out, ?_⟩
        rw [HE.out]
        have h := HOW.out
        rw [HT.out] at h
        exact Reads.of_own h
end Go.Proofs.Ytnjmbhakfecdoaa
