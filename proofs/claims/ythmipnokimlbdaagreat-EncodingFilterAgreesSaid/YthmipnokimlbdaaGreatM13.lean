/-
  Texts that the claims of this seat share, put together (FrT, Fs2, Dr1, Fr2, Dr3). No condition.
-/
import Derived.Test.YthmipnokimlbdaaGreatM10
import Derived.Test.YthmipnokimlbdaaGreatM12
import Derived.Test.YthmipnokimlbdaaGreatM5
import Derived.Test.YthmipnokimlbdaaGreatM7
import Derived.Test.YthmipnokimlbdaaGreatM9
import Derived.StillTail
import Derived.StillTailTactics
import Derived.Test.YthmipnokimlbdaaGreatM6
import Derived.Test.YthmipnokimlbdaaGreatM2
/-
  Shaken: what the claims of this seat need of this text. No condition.
-/
namespace Go.Proofs.YthmipnokimlbdaaGreat
set_option maxRecDepth 8000
open Go.RowKit
set_option linter.unusedVariables false
set_option linter.unusedSimpArgs false
theorem byr_loose {f : FuncId} {args : Array Value} {w : World} {l : List UInt8} (h : Calls Tryz.prog f args w (ByR l w)) : Calls Tryz.prog f args w fun e w' => ∃ v, e = .returned v ∧ Grows w w' ∧ BytesV l v w' :=
  h.mono fun _ _ ⟨v, he, hb, hu⟩ => ⟨v, he, hb, hu⟩
end Go.Proofs.YthmipnokimlbdaaGreat
/-
  Shaken: what the claims of this seat need of this text. No condition.
-/
namespace Go.Proofs.YthmipnokimlbdaaGreat
open Go.RowKit
set_option linter.unusedVariables false
set_option linter.unusedSimpArgs false
def ReadsT (w : World) (v : Value) (n : Nat) (C X : Nat → Nat) : Prop :=
  ∃ A c, v = .slice A n c ∧ (0 < n → ∃ b f, A = some ⟨b, f, none⟩ ∧ ∀ j, j < n → w.cell? ⟨b, f + j * 2, none⟩ = some (.int .i64 (C j : Int)) ∧ w.cell? ⟨b, f + j * 2 + 1, none⟩ = some (.int .i64 (X j : Int)))
theorem ReadsT.grow {w w' : World} {v : Value} {n : Nat} {C X : Nat → Nat} (h : ReadsT w v n C X) (hb : Grows w w') : ReadsT w' v n C X := by
  obtain ⟨A, c, rfl, hc⟩ := h
  refine ⟨A, c, rfl, fun hn => ?_⟩
  obtain ⟨b, f, rfl, hcell⟩ := hc hn
  refine ⟨b, f, rfl, fun j hj => ?_⟩
  obtain ⟨h1, h2⟩ := hcell j hj
  exact ⟨(hb.cell (World.block_lt_of_cell? w _ h1)).trans h1, (hb.cell (World.block_lt_of_cell? w _ h2)).trans h2⟩
theorem sumF_le {f : Nat → Nat} {k : Nat} : ∀ n, k ≤ n → sumF f k ≤ sumF f n
  | 0, h => by
    have : k = 0 := by omega
    subst this
    exact Nat.le_refl _
  | n + 1, h => by
    rcases Nat.lt_or_ge n k with h1 | h1
    · have : k = n + 1 := by omega
      subst this
      exact Nat.le_refl _
    · have := sumF_le (f := f) n h1
      rw [sumF]
      omega
def ESRel (w : World) (n : Nat) (C X : Nat → Nat) (c s i : Value) (wr : World) : Prop :=
  ∃ k : Nat, k ≤ n ∧ i = .int .i64 (k : Int) ∧ c = .int .i64 ((sumF C k : Nat) : Int) ∧ s = .int .i64 ((sumF (fun j => X j + C j * vsw (j + 1)) k : Nat) : Int) ∧ Below w.heap.size w wr
set_option maxRecDepth 8000 in
set_option maxHeartbeats 4000000 in
theorem excSize_any (v : Value) (n : Nat) (C X : Nat → Nat) (w : World) (hv : ReadsT w v n C X) (hn : n ≤ 65) (hC : sumF C n ≤ 65536) (hS : sumF (fun j => X j + C j * vsw (j + 1)) n ≤ 2000000) :
    Calls Tryz.prog 204 #[v] w fun e w' => e = .returned (.int .i64 ((excSz C X n : Nat) : Int)) ∧ Grows w w' := by
  have HV := hidden hv
  obtain ⟨A, c, rfl, _⟩ := id hv
  have HCC := hidden hC
  have HSS := hidden hS
  have HES := hidden (show excSz C X n = esz (sumF C n) + sumF (fun j => X j + C j * vsw (j + 1)) n from rfl)
  clear hv hC hS
  go_enter Tryz.func204, Tryz.ntmps204
  go_wp2_with fail
  go_loopw [3, 4, 9] (fun c s i wr => ESRel w n C X c s i wr) (fun _ _ i _ => n - (intOf i).toNat)
  case atStart => exact ⟨0, by omega, rfl, rfl, rfl, Below.refl _ _⟩
  case round =>
    obtain ⟨k, hk, rfl, rfl, rfl, hb⟩ := hrel
    have HB := hidden hb
    clear hb
    by_cases hlt : k < n
    · obtain ⟨A', c', he, hc⟩ := HV.out.grow HB.out
      have hAc : A = A' ∧ c = c' := by simpa using he
      obtain ⟨rfl, rfl⟩ := hAc
      obtain ⟨b, f, rfl, hcell⟩ := hc (by omega)
      obtain ⟨y1, y2⟩ := hcell k hlt
      have hq1 : sumF C (k + 1) ≤ sumF C n := sumF_le n hlt
      have hq2 : sumF (fun j => X j + C j * vsw (j + 1)) (k + 1) ≤ sumF (fun j => X j + C j * vsw (j + 1)) n := sumF_le n hlt
      have HQ1 := hidden (show sumF C (k + 1) = sumF C k + C k from rfl)
      have HQ2 := hidden (show sumF (fun j => X j + C j * vsw (j + 1)) (k + 1) = sumF (fun j => X j + C j * vsw (j + 1)) k + (X k + C k * vsw (k + 1)) from rfl)
      have HSW := hidden (fun w' => sizeOfWidth_any (k + 1) w' (by omega))
      rw [show (((k + 1 : Nat) : Int)) = (k : Int) + 1 by omega] at HSW
      rw [HQ1.out] at hq1
      rw [HQ2.out] at hq2
      have hcc := HCC.out
      have hss := HSS.out
      generalize sumF (fun j => X j + C j * vsw (j + 1)) k = sk at *
      generalize sumF (fun j => X j + C j * vsw (j + 1)) n = sn at *
      generalize sumF C k = ck at *
      generalize sumF C n = cn at *
      generalize vsw (k + 1) = s at *
      generalize C k = y at *
      generalize X k = x at *
      obtain ⟨m, hm⟩ : ∃ m, m = y * s := ⟨_, rfl⟩
      have hmul : (y : Int) * (s : Int) = (m : Int) := by rw [hm]; simp
      rw [← hm] at hq2 HQ2
      have HBA := hidden (show Below w.heap.size w (wr.alloc (.cells #[.int .i64 (y : Int), .int .i64 (x : Int)] 209)) from HB.out.alloc HB.out.size _)
      have HX : Hid (∀ w', Grows (wr.alloc (.cells #[.int .i64 (y : Int), .int .i64 (x : Int)] 209)) w' → w'.cell? ⟨wr.heap.size, 0, none⟩ = some (.int .i64 (y : Int)) ∧ w'.cell? ⟨wr.heap.size, 1, none⟩ = some (.int .i64 (x : Int))) := fun w' h => by
        have hr := Row.grow (Row.new wr 209 #[.int .i64 (y : Int), .int .i64 (x : Int)] [.int .i64 (y : Int), .int .i64 (x : Int)] rfl) h
        exact ⟨hr.cell 0, hr.cell 1⟩
      have w1 : IntKind.i64.wrap ((k : Int) + 1) = (k : Int) + 1 := by rw [IntKind.wrap_i64]; omega
      have w2 : IntKind.i64.wrap (m : Int) = (m : Int) := by rw [IntKind.wrap_i64]; omega
      have w3 : IntKind.i64.wrap ((x : Int) + (m : Int)) = (x : Int) + (m : Int) := by rw [IntKind.wrap_i64]; omega
      have w4 : IntKind.i64.wrap ((sk : Int) + ((x : Int) + (m : Int))) = (sk : Int) + ((x : Int) + (m : Int)) := by rw [IntKind.wrap_i64]; omega
      have hck : ck + y ≤ 65536 := by omega
      clear hm hc hcell hcc hss
      go_wp2_with fail
      refine wp_region_loose (tabRs [(7, ConstV (.int .i64 (s : Int)))]) (by kernel_rfl) (by kernel_rfl) (tabRs_cons ConstV.lasts tabRs_nil) ?_
      iterate 7 ((with_reducible refine loose_one (v := ?_) (a' := ?_) ?_ ?_ (fun w' hC' hG' => ?_) ?_ ?_); rotate_left 2; (focus rfl); (focus rfl); (focus (obtain ⟨x0, x1⟩ := HX.out w' hC'; clear hC' hG'; go_simp; rfl)); (focus (go_simp; rfl)))
      refine loose_call (R := ConstV (.int .i64 (s : Int))) (f := 221) (args := #[.int .i64 ((k : Int) + 1)]) (by rfl) (by rfl) (fun _ => by go_simp) (fun w' hC' hG' => const_loose0 (HSW.out w')) ?_
      rintro _ ⟨_, _, rfl⟩
      refine ⟨?_, ?_, ?_⟩
      rotate_left
      · go_simp
        rfl
      iterate 4 ((with_reducible refine loose_one (v := ?_) (a' := ?_) ?_ ?_ (fun w' hC' hG' => ?_) ?_ ?_); rotate_left 2; (focus rfl); (focus rfl); (focus (obtain ⟨x0, x1⟩ := HX.out w' hC'; clear hC' hG'; go_simp; rfl)); (focus (go_simp; rfl)))
      refine loose_done (fun w6 hC' hG' => ?_)
      clear hG'
      have HB6 := hidden (Grows.of_below HBA.out hC')
      clear hC'
      go_wp2_with fail
      refine ⟨⟨k + 1, by omega, by go_num, ?_, ?_, HB6.out⟩, by simp [intOf]; omega⟩
      · rw [HQ1.out]; go_num
      · rw [HQ2.out]; go_num
    · have hke : k = n := by omega
      subst hke
      have hcc := HCC.out
      have hss := HSS.out
      have HVS := hidden (fun w' => varintSize_any (sumF C k) w' (by omega))
      have hes : esz (sumF C k) ≤ 10 := (esz_bd (n := sumF C k) (by omega)).2
      generalize sumF (fun j => X j + C j * vsw (j + 1)) k = sk at *
      generalize sumF C k = ck at *
      have hwk : IntKind.u64.wrap (ck : Int) = (ck : Int) := by rw [IntKind.wrap_u64]; omega
      go_wp2_with fail
      refine (HVS.out wr).mono ?_
      rintro e w' ⟨rfl, rfl⟩
      go_wp2_with fail
      go_ret
      refine ⟨retI ?_, HB.out⟩
      rw [HES.out]
      omega
end Go.Proofs.YthmipnokimlbdaaGreat
/-
  Shaken: what the claims of this seat need of this text. No condition.
-/
namespace Go.Proofs.YthmipnokimlbdaaGreat
set_option maxRecDepth 20000
open Go.RowKit
set_option linter.unusedVariables false
set_option linter.unusedSimpArgs false
theorem icells_append (l r : List Int) : icells (l ++ r) = icells l ++ icells r := by simp [icells]
theorem oneCell_icells (l : List Int) : ∀ u ∈ icells l, u.oneCell' = true := by
  intro u hu
  unfold icells at hu
  rw [List.mem_map] at hu
  obtain ⟨x, _, rfl⟩ := hu
  rfl
theorem run_append_il {wr w0 : World} {base : Nat} {ty : TypeId} {v : Value} {pre : List Int} (hown : wr.ownsRow base 2 1 v pre.length (icells pre)) (hb : Below base w0 wr) (hbase : base ≤ wr.heap.size) {u : Value} {l : List Int} (hu : IsI wr u l)
    (hlen : pre.length + l.length ≤ 17592186044416) :
    ∃ v' w', (Builtin.append_ #[22, 22] ty #[v, u]).run Tryz.prog wr = .ok v' w' ∧ w'.ownsRow base 2 1 v' (pre ++ l).length (icells (pre ++ l)) ∧ Below base w0 w' ∧ KeepsRows 2 wr w' := by
  obtain ⟨i0, hi, hz0, hz1, hz2⟩ := info_parts info_i64
  obtain ⟨A, c, rfl, hle, hc⟩ := hu
  rw [icells_length] at hle hc ⊢
  cases A with
  | none =>
    have hl : l = [] := by
      cases l with
      | nil => rfl
      | cons x r => obtain ⟨b, off, h, _⟩ := hc (by simp); cases h
    subst hl
    exact ⟨v, wr, run_append_nothing Tryz.underlying22 hi hown c, by simpa using hown, hb, fun _ _ _ _ _ _ _ h => h⟩
  | some ad =>
    have hcells : ∀ j x, (icells l)[j]? = some x → wr.cell? (ad.add j) = some x := by
      intro j x hx
      have hj : j < l.length := by
        rcases Nat.lt_or_ge j l.length with h | h
        · exact h
        · rw [List.getElem?_eq_none (by rw [icells_length]; exact h)] at hx; cases hx
      obtain ⟨b, off, h, hcell⟩ := hc (by omega)
      injection h with h
      subst h
      rw [Addr.add_lit, hcell j hj]
      exact hx
    obtain ⟨v', w', h1, h2, h3, _⟩ := run_append_own (P := Tryz.prog) wr base 22 ty 2 i0 (.int .i64 0) 1 8 Tryz.underlying22 hi hz0 hz1 hz2 rfl (by decide) v pre.length (icells pre) hown ad l.length c (icells l)
      (by rw [icells_length]; omega) hcells (oneCell_icells l) (by unfold maxLen; omega) (by omega) hbase
    refine ⟨v', w', h1, ?_, hb.grown h3 hbase (fun k hk => (hown.lt k hk).1), fun b e' s x n xs he hx => hx.kept h3 (ownsRow_ne hx hown he)⟩
    rw [icells_append, List.length_append]; exact h2
theorem wpList_append_il {wr : World} {ops : Array Oper} {rest : List Oper} {o : Oper} {a : Act} {Q : Exit → Act → World → Prop} (hgd : o.guard = none) (s x : Operand)
    (ho : o.op = .call { callee := .builtin .append, args := #[s, x], argTypes := #[22, 22] })
    (v : Value) (pre : List Int) (hs : a.eval s = v) (base : Nat) (hown : wr.ownsRow base 2 1 v pre.length (icells pre)) (w0 : World) (hb : Below base w0 wr) (hbase : base ≤ wr.heap.size)
    (u : Value) (l : List Int) (hx : a.eval x = u) (hu : IsI wr u l) (hlen : pre.length + l.length ≤ 17592186044416)
    (h : ∀ v' w', w'.ownsRow base 2 1 v' (pre ++ l).length (icells (pre ++ l)) → Below base w0 w' → KeepsRows 2 wr w' → wpList Tryz.prog ops Q rest (a.put o.dst v') w') :
    wpList Tryz.prog ops Q (o :: rest) a wr := by
  refine wpList_plain hgd fun K hK => ?_
  obtain ⟨v', w', hrun, h2, h3, h4⟩ := run_append_il (ty := o.type) hown hb hbase hu hlen
  unfold Oper.wp execOp
  simp only [ho, resolve, invoke, builtin, Sem.run_bind, Sem.run_pure, Result.andThen_ok, List.map_toArray, List.map_cons, List.map_nil, hs, hx, hrun]
  exact hK _ _ (h v' w' h2 h3 h4)
def IntsV (l : List Int) : Value → World → Prop := fun v w => IsI w v l
theorem IntsV.lasts {l : List Int} : ∀ v w w', IntsV l v w → Grows w w' → IntsV l v w' := fun _ _ _ h hg => IsI.grow h hg
theorem isI_one (w : World) (z : Int) : IsI (w.alloc (.cells #[.int .i64 z] 2)) (.slice (some ⟨w.heap.size, 0, none⟩) 1 1) [z] := Reads.of_row (Row.at_ w 2 _ (icells [z]) rfl _ rfl) 1 1 rfl (Nat.le_refl _)
theorem own_nil_i (w : World) (base : Nat) : w.ownsRow base 2 1 (.slice none 0 0) ([] : List Int).length (icells []) := ⟨rfl, .inl ⟨rfl, rfl⟩⟩
def InR (r : List Int) (w : World) (e : Ending) (w' : World) : Prop := ∃ v, e = .returned v ∧ Grows w w' ∧ w'.ownsRow w.heap.size 2 1 v r.length (icells r)
def RDfRel (w : World) (D : List Int) (o i : Value) (wr : World) : Prop :=
  ∃ k : Nat, k ≤ D.length ∧ i = .int .i64 ((k : Int) + 1) ∧ wr.ownsRow w.heap.size 2 1 o (D.take k).length (icells (D.take k)) ∧ Below w.heap.size w wr
set_option maxRecDepth 20000 in
set_option maxHeartbeats 4000000 in
theorem rdiff_any (v : Value) (l : List Int) (w : World) (hv : IsI w v l) (hl : l.length ≤ 1000000) :
    Calls Tryz.prog 181 #[v] w (InR (dfL l) w) := by
  have HV := hidden hv
  obtain ⟨A, c, rfl⟩ := hv.slice_
  have HDL := hidden (dfL_length l)
  have HDG : Hid (∀ k, (h : k + 1 < l.length) → (h2 : k < (dfL l).length) → (dfL l)[k] = IntKind.i64.wrap (l[k + 1] - l[k])) := fun k h h2 => dfL_get h h2
  clear hv
  generalize dfL l = D at *
  go_enter Tryz.func181, Tryz.ntmps181
  go_wp2_with fail
  go_loopw [3, 4] (fun o i wr => RDfRel w D o i wr) (fun _ i _ => l.length - (intOf i).toNat)
  case atStart => exact ⟨0, by omega, rfl, own_nil_i _ _, Below.refl _ _⟩
  case round =>
    obtain ⟨k, hk, rfl, hown, hbw⟩ := hrel
    have HB := hidden hbw
    have HO := hidden hown
    have hsz := hbw.size
    clear hown hbw
    by_cases hlt : k + 1 < l.length
    · obtain ⟨b, f, rfl, hck⟩ := (HV.out.grow HB.out).at_ hlt
      obtain ⟨b', f', he, hck0⟩ := (HV.out.grow HB.out).at_ (show k < l.length by omega)
      injection he with he
      injection he with e1 e2 e3
      subst e1 e2
      have hkd : k < D.length := by have := HDL.out; omega
      have hdg := HDG.out k hlt hkd
      have HTD := hidden (List.take_succ_eq_append_getElem hkd)
      rw [hdg] at HTD
      have HX : Hid (∀ w', Grows wr w' → w'.cell? ⟨b, f + (k + 1), none⟩ = some (.int .i64 l[k + 1]) ∧ w'.cell? ⟨b, f + k, none⟩ = some (.int .i64 l[k])) := fun w' h =>
        ⟨(h.cell (World.block_lt_of_cell? _ _ hck)).trans hck, (h.cell (World.block_lt_of_cell? _ _ hck0)).trans hck0⟩
      generalize hy1 : l[k + 1] = y1 at *
      generalize hy0 : l[k] = y0 at *
      obtain ⟨z, hz⟩ : ∃ z, IntKind.i64.wrap (y1 - y0) = z := ⟨_, rfl⟩
      rw [hz] at HTD
      have hwk : IntKind.i64.wrap (k : Int) = (k : Int) := by rw [IntKind.wrap_i64]; omega
      have hwk1 : IntKind.i64.wrap ((k : Int) + 1) = (k : Int) + 1 := by rw [IntKind.wrap_i64]; omega
      have hkl : k < l.length := by omega
      clear hdg hck hck0 hy1 hy0
      go_wp2_with fail
      refine wp_region_loose_tail 12 (tabRs [(11, IntsV [z])]) (by kernel_rfl) (by kernel_rfl) (tabRs_cons IntsV.lasts tabRs_nil) ?_
      simp only [List.take_succ_cons, List.take_zero, List.drop_succ_cons, List.drop_zero]
      iterate 11 ((with_reducible refine loose_one (v := ?_) (a' := ?_) ?_ ?_ (fun w' hC' hG' => ?_) ?_ ?_); rotate_left 2; (focus rfl); (focus rfl); (focus (obtain ⟨x0, x1⟩ := HX.out w' hC'; clear hC' hG'; go_simp; rfl)); (focus (go_simp; rfl)))
      refine loose_new (R := IntsV [z]) (by rfl) (by rfl) (fun w' hC' hG' => ?_) ?_
      · exact ⟨.slice (some ⟨w'.heap.size, 0, none⟩) 1 1, w'.alloc (.cells #[.int .i64 z] 2), by first | rfl | go_simp, (Below.refl _ _).alloc (Nat.le_refl _) _, isI_one w' z⟩
      intro v11 hv11
      refine ⟨?_, ?_, ?_⟩
      rotate_left
      · go_simp
        rfl
      refine loose_done (fun w7 hC' hG' => ?_)
      have HU7 := hidden (show IsI w7 v11 [z] from (hG' 11).2 rfl)
      have HB7 := hidden (HB.out.trans (hC'.mono HB.out.size))
      have HO7 := hidden (own_grow HO.out hC')
      clear hC' hG' hv11
      go_wp2_with (at_builtin; go_loud (refine wpList_append_il rfl _ _ rfl _ (D.take k) (by rfl) w.heap.size HO7.out w HB7.out HB7.out.size _ [z] (by rfl) HU7.out (by have := HDL.out; rw [List.length_take, List.length_singleton]; omega) ?_); intro v3 w3 hown3 hb3 hk3; have HO3 := hidden hown3; have HB3 := hidden hb3; clear hown3 hb3 hk3)
      refine ⟨⟨k + 1, by omega, by go_num, ?_, HB3.out⟩, by simp [intOf]; omega⟩
      rw [HTD.out]
      exact HO3.out
    · have hke : k = D.length := by have := HDL.out; omega
      rw [hke, List.take_length] at HO
      clear hke
      go_wp2_with fail
      go_ret
      exact ⟨_, rfl, HB.out, HO.out⟩
theorem own_ni9 {w : World} {B : Nat} {v : Value} {n : Nat} {xs : List Value} (h : w.ownsRow B 2 1 v n xs) : ∃ A c, v = .slice A n c := by
  rcases h.2 with ⟨h1, h2⟩ | ⟨g, cap, cur, h1, _⟩
  · exact ⟨none, 0, by rw [h1, h2]⟩
  · exact ⟨_, cap, h1⟩
end Go.Proofs.YthmipnokimlbdaaGreat
/-
  Shaken: what the claims of this seat need of this text. No condition.
-/
namespace Go.Proofs.YthmipnokimlbdaaGreat
open Go.RowKit
set_option linter.unusedVariables false
set_option linter.unusedSimpArgs false
theorem wpList_append_wk {wr : World} {ops : Array Oper} {rest : List Oper} {o : Oper} {a : Act} {Q : Exit → Act → World → Prop} (hgd : o.guard = none) (s x : Operand)
    (ho : o.op = .call { callee := .builtin .append, args := #[s, x], argTypes := #[52, 52] })
    (v : Value) (pre : List Nat) (hs : a.eval s = v) (base : Nat) (hown : wr.ownsRow base 85 1 v pre.length (wcells pre)) (w0 : World) (hb : Below base w0 wr) (hbase : base ≤ wr.heap.size)
    (z : Int) (c : Nat) (hz : z = (c : Int)) (hx : a.eval x = .slice (some ⟨wr.heap.size, 0, none⟩) 1 1) (hlen : pre.length + 1 ≤ 17592186044416)
    (h : ∀ v' w', w'.ownsRow base 85 1 v' (pre ++ [c]).length (wcells (pre ++ [c])) → Below base w0 w' → KeepsRows 85 wr w' → wpList Tryz.prog ops Q rest (a.put o.dst v') w') :
    wpList Tryz.prog ops Q (o :: rest) a (wr.alloc (.cells #[.int .u64 z] 85)) := by
  obtain ⟨i0, hi, hz0, hz1, hz2⟩ := info_parts info_u64
  subst hz
  refine wpList_append_own _ hgd s x 52 ho base 85 i0 (.int .u64 0) 1 8 Tryz.underlying52 hi hz0 hz1 hz2 rfl (by decide) v pre.length (wcells pre) hs (hown.alloc _) ⟨wr.heap.size, 0, none⟩ 1 1 [.int .u64 (c : Int)] hx rfl ?_ ?_ ?_ ?_ ?_ ?_
  · intro j u hj
    match j, hj with
    | 0, hj => simp at hj; subst hj; simp [Addr.add]
  · intro u hu; simp at hu; subst hu; rfl
  · unfold maxLen; omega
  · omega
  · simp; omega
  · intro v' w' h1 h2 _
    rw [← wcells_snoc, show pre.length + 1 = (pre ++ [c]).length by simp] at h1
    exact h v' w' h1 ((hb.alloc hbase _).grown h2 (by simp; omega) (fun k hk => (hown.lt k hk).1)) (fun b e' s y n xs he hy => (hy.alloc _).kept h2 (ownsRow_ne hy hown he))
theorem rlow_any (d W : Nat) (w : World) (hd : d < 18446744073709551616) (hw : W ≤ 64) : Calls Tryz.prog 179 #[.int .u64 (d : Int), .int .i64 (W : Int)] w fun e w' => e = .returned (.int .u64 ((d % 2 ^ W : Nat) : Int)) ∧ w = w' := by
  by_cases h64 : W = 64
  · have HE := hidden (show d % 2 ^ W = d by rw [h64]; exact Nat.mod_eq_of_lt hd)
    subst h64
    go_enter Tryz.func179, Tryz.ntmps179
    go_wp2_with fail
    go_ret
    exact ⟨retI (by rw [HE.out]), rfl⟩
  · have hE : ((W : Int) == 64) = false := by simp; omega
    have HL := hidden (low_wrap (c := W) (by omega))
    have HA := hidden (and_low hd hw)
    have hw1 : IntKind.u64.wrap (W : Int) = (W : Int) := by rw [IntKind.wrap_u64]; omega
    have hlt : W < 64 := by omega
    clear h64
    go_enter Tryz.func179, Tryz.ntmps179
    go_wp2_with fail
    go_ret
    refine ⟨retI ?_, rfl⟩
    rw [← HA.out, ← HL.out]
    first | rfl | rw [Int.one_mul]
theorem rhigh_any (d W : Nat) (w : World) (hd : d < 18446744073709551616) (hw : W ≤ 64) : Calls Tryz.prog 180 #[.int .u64 (d : Int), .int .i64 (W : Int)] w fun e w' => e = .returned (.int .u64 ((d / 2 ^ W : Nat) : Int)) ∧ w = w' := by
  by_cases h64 : W = 64
  · have HE := hidden (show d / 2 ^ W = 0 by rw [h64]; exact Nat.div_eq_of_lt hd)
    subst h64
    go_enter Tryz.func180, Tryz.ntmps180
    go_wp2_with fail
    go_ret
    exact ⟨retI (by rw [HE.out]; rfl), rfl⟩
  · have hE : ((W : Int) == 64) = false := by simp; omega
    have HL := hidden (show ((d / 2 ^ W : Nat) : Int) = (d : Int) / 2 ^ W by simp)
    have hw1 : IntKind.u64.wrap (W : Int) = (W : Int) := by rw [IntKind.wrap_u64]; omega
    have hlt : W < 64 := by omega
    clear h64
    go_enter Tryz.func180, Tryz.ntmps180
    go_wp2_with fail
    go_ret
    exact ⟨retI (by rw [HL.out]), rfl⟩
def WithRel (w : World) (ds : List Nat) (W : Nat) (m pk tl i : Value) (wr : World) : Prop :=
  ∃ k : Nat, k ≤ ds.length ∧ i = .int .i64 (k : Int) ∧ m = .int .i64 ((many W (ds.take k) : Nat) : Int) ∧
    wr.ownsRow w.heap.size 85 1 pk ((ds.take k).map fun d => d % 2 ^ W).length (wcells ((ds.take k).map fun d => d % 2 ^ W)) ∧
    wr.ownsRow w.heap.size 5 1 tl (exc W 0 (ds.take k)).length (bcells (exc W 0 (ds.take k))) ∧ Below w.heap.size w wr
set_option maxRecDepth 8000 in
set_option maxHeartbeats 4000000 in
theorem rwith_any (v : Value) (l : List Int) (W : Nat) (w : World) (hv : IsI w v l) (hl : l.length ≤ 65536) (hW : W ≤ 64) (hin : ∀ x ∈ l, frIn x) :
    Calls Tryz.prog 111 #[v, .int .i64 (W : Int)] w (ByR (encW l W) w) := by
  have HV := hidden hv
  have HLB := hidden (fun W' => rleast_any v l W')
  obtain ⟨A, c, rfl⟩ := hv.slice_
  have HB0 := hidden (baseV_in hin)
  have HDL := hidden (difL_length l)
  have HDU := hidden (difL_U64 l)
  have HDG : Hid (∀ k, (h : k < l.length) → (difL l)[k]? = some (difN (baseV l) l[k])) := fun k h => by
    unfold difL; rw [List.getElem?_map, List.getElem?_eq_getElem h]; rfl
  have HEW := hidden (show encW l W = encD (baseV l) (difL l) W from rfl)
  have HIL := hidden (HLB.out w hv (by omega))
  clear hv HLB
  go_enter Tryz.func111, Tryz.ntmps111
  go_wp2_with fail
  refine HIL.out.mono ?_
  rintro e w' ⟨rfl, rfl⟩
  generalize baseV l = b0 at *
  generalize difL l = ds at *
  go_wp2_with fail
  go_loopw [6, 7, 8, 9] (fun m pk tl i wr => WithRel w ds W m pk tl i wr) (fun _ _ _ i _ => l.length - (intOf i).toNat)
  case atStart => exact ⟨0, by omega, rfl, rfl, ⟨rfl, .inl ⟨rfl, rfl⟩⟩, ⟨rfl, .inl ⟨rfl, rfl⟩⟩, Below.refl _ _⟩
  case round =>
    obtain ⟨k, hk, rfl, rfl, hpk, htl, hb⟩ := hrel
    have HB := hidden hb
    have HPK := hidden hpk
    have HTL := hidden htl
    have hdl := HDL.out
    clear hb hpk htl
    by_cases hlt : k < l.length
    · obtain ⟨bb, f, rfl, hck⟩ := (HV.out.grow HB.out).at_ hlt
      have hg := HDG.out k hlt
      have hkd : k < ds.length := by omega
      have hdk : difN b0 l[k] < 18446744073709551616 := difN_lt _ _
      have hwr := dif_wrap l[k] b0
      rw [List.getElem?_eq_getElem hkd] at hg
      injection hg with hg
      have HTD := hidden (List.take_succ_eq_append_getElem hkd)
      rw [hg] at HTD
      generalize l[k] = x at *
      generalize difN b0 x = d at *
      have HTL1 := hidden (show (ds.take k).length = k by rw [List.length_take]; omega)
      have HM1 := hidden (show many W (ds.take k) ≤ 65536 by have := many_le W (ds.take k); have := HTL1.out; omega)
      have HX1 := hidden (exc_len W (ds.take k) 0)
      have HSM := hidden (many_snoc W d (ds.take k))
      have HSX := hidden (exc_snoc W d (ds.take k) 0)
      have HSP := hidden (show ((ds.take k ++ [d]).map fun d => d % 2 ^ W) = ((ds.take k).map fun d => d % 2 ^ W) ++ [d % 2 ^ W] by simp)
      have HPL := hidden (show ((ds.take k).map fun d => d % 2 ^ W).length = k by rw [List.length_map]; exact HTL1.out)
      rw [HTL1.out, Nat.zero_add] at HSX
      rw [HTL1.out] at HX1
      generalize hgm : (ds.take k).map (fun d => d % 2 ^ W) = ps at *
      generalize hgx : exc W 0 (ds.take k) = xs at *
      generalize hgn : many W (ds.take k) = mm at *
      have hmm := HM1.out
      have hsz := HB.out.size
      have hwk : IntKind.u64.wrap (k : Int) = (k : Int) := by rw [IntKind.wrap_u64]; omega
      have HLOW := hidden (fun W' => rlow_any d W W' hdk hW)
      have HHI := hidden (fun W' => rhigh_any d W W' hdk hW)
      have hhd : d / 2 ^ W < 18446744073709551616 := Nat.lt_of_le_of_lt (Nat.div_le_self _ _) hdk
      generalize d / 2 ^ W = h at *
      generalize d % 2 ^ W = lo at *
      clear hg hgm hgx hgn hkd hdl
      by_cases h0 : h = 0
      · have hE : ((h : Int) != 0) = false := by rw [h0]; rfl
        rw [if_pos h0, Nat.add_zero] at HSM
        rw [if_pos h0, List.append_nil] at HSX
        clear h0
        go_wp2_with (first | (go_at_call 179; refine (HLOW.out _).mono ?_; rintro e w2 ⟨rfl, rfl⟩) | (go_at_call 180; refine (HHI.out _).mono ?_; rintro e w2 ⟨rfl, rfl⟩) | (at_builtin; go_loud (refine wpList_append_wk rfl _ _ rfl _ ps (by rfl) w.heap.size HPK.out _ HB.out hsz _ lo rfl (by rfl) (by rw [HPL.out]; omega) ?_); intro v3 w3 hown3 hb3 hk3; have HO3 := hidden hown3; have HB3 := hidden hb3; have HT3 := hidden (hk3 _ _ _ _ _ _ (by decide) HTL.out); clear hown3 hb3 hk3))
        refine ⟨⟨k + 1, by have := HDL.out; omega, by go_num, ?_, ?_, ?_, HB3.out⟩, by simp [intOf]; omega⟩
        · rw [HTD.out, HSM.out]
        · rw [HTD.out, HSP.out]; exact HO3.out
        · rw [HTD.out, HSX.out]; exact HT3.out
      · have hE : ((h : Int) != 0) = true := by simpa using h0
        rw [if_neg h0] at HSM
        rw [if_neg h0] at HSX
        clear h0
        have HEK := hidden (fun W' => rencode_any (k : Int) W' (by omega) (by omega))
        have HEH := hidden (fun W' => rencode_any (h : Int) W' (by omega) (by omega))
        rw [Int.toNat_natCast] at HEK HEH
        have h10 := HX1.out
        go_wp2_with (first | (go_at_call 179; refine (HLOW.out _).mono ?_; rintro e w2 ⟨rfl, rfl⟩) | (go_at_call 180; refine (HHI.out _).mono ?_; rintro e w2 ⟨rfl, rfl⟩) | (at_builtin; go_loud (refine wpList_append_wk rfl _ _ rfl _ ps (by rfl) w.heap.size HPK.out _ HB.out hsz _ lo rfl (by rfl) (by rw [HPL.out]; omega) ?_); intro v3 w3 hown3 hb3 hk3; have HO3 := hidden hown3; have HB3 := hidden hb3; have HT3 := hidden (hk3 _ _ _ _ _ _ (by decide) HTL.out); clear hown3 hb3 hk3))
        refine (HEK.out w3).mono ?_
        rintro e w4 ⟨v4, rfl, hown4, hb4⟩
        have HU4 := hidden (IsBytes.of_own hown4)
        have HB4 := hidden (HB3.out.trans (hb4.mono HB3.out.size))
        have HO4 := hidden (own_grow HO3.out hb4)
        have HT4 := hidden (own_grow HT3.out hb4)
        clear hown4 hb4
        go_wp2_with ((at_builtin; go_loud (refine wpList_append_bytes_k (w := w) rfl _ _ 29 rfl 5 Tryz.underlying29 info_u8 _ xs (by rfl) HT4.out HB4.out _ (enc k) (by rfl) HU4.out (by have := enc_le10 k; omega) ?_); intro v5 w5 hown5 hb5 hk5; have HT5 := hidden hown5; have HB5 := hidden hb5; have HO5 := hidden (hk5 _ _ _ _ _ _ (by decide) HO4.out); clear hown5 hb5 hk5))
        refine (HEH.out w5).mono ?_
        rintro e w6 ⟨v6, rfl, hown6, hb6⟩
        have HU6 := hidden (IsBytes.of_own hown6)
        have HB6 := hidden (HB5.out.trans (hb6.mono HB5.out.size))
        have HO6 := hidden (own_grow HO5.out hb6)
        have HT6 := hidden (own_grow HT5.out hb6)
        clear hown6 hb6
        go_wp2_with ((at_builtin; go_loud (refine wpList_append_bytes_k (w := w) rfl _ _ 29 rfl 5 Tryz.underlying29 info_u8 _ (xs ++ enc k) (by rfl) HT6.out HB6.out _ (enc h) (by rfl) HU6.out (by have := enc_le10 k; have := enc_le10 h; rw [List.length_append]; omega) ?_); intro v7 w7 hown7 hb7 hk7; have HT7 := hidden hown7; have HB7 := hidden hb7; have HO7 := hidden (hk7 _ _ _ _ _ _ (by decide) HO6.out); clear hown7 hb7 hk7))
        refine ⟨⟨k + 1, by have := HDL.out; omega, by go_num, ?_, ?_, ?_, HB7.out⟩, by simp [intOf]; omega⟩
        · rw [HTD.out, HSM.out]; go_num
        · rw [HTD.out, HSP.out]; exact HO7.out
        · rw [HTD.out, HSX.out, ← List.append_assoc]; exact HT7.out
    · have hke : k = ds.length := by omega
      subst hke
      rw [List.take_length] at *
      have hz := zz_bd b0 HB0.out.1 (by have := HB0.out.2; omega)
      have HMM := hidden (show many W ds ≤ 65536 by have := many_le W ds; omega)
      have HXL := hidden (show (exc W 0 ds).length ≤ 2000000 by have := exc_len W ds 0; omega)
      have HPK2 := hidden (show IsW wr u7 (ds.map fun d => d % 2 ^ W) from Reads.of_own HPK.out)
      have HTL2 := hidden (IsBytes.of_own HTL.out)
      have HPU := hidden (show U64 (ds.map fun d => d % 2 ^ W) by
        intro x hx
        rw [List.mem_map] at hx
        obtain ⟨d, hd, rfl⟩ := hx
        exact Nat.lt_of_le_of_lt (Nat.mod_le _ _) (HDU.out d hd))
      have HZG := hidden (fun W' => rzigzag_any b0 W' HB0.out.1 (by have := HB0.out.2; omega))
      have HE1 := hidden (fun W' => rencode_any (zz b0) W' hz.1 (by omega))
      have HE2 := hidden (fun W' => rencode_any (W : Int) W' (by omega) (by omega))
      have hmm := HMM.out
      have HE3 := hidden (fun W' => rencode_any ((many W ds : Nat) : Int) W' (by omega) (by omega))
      have HPA := hidden (fun v' W' hv' => rpack_any v' (ds.map fun d => d % 2 ^ W) (W : Int) W' hv' HPU.out (by rw [List.length_map]; omega))
      have HPI := hidden (show packI (ds.map fun d => d % 2 ^ W) (W : Int) = packL ds W by
        unfold packI
        rw [List.length_map, okB_t (by omega) hW, if_pos rfl, Int.toNat_natCast, packL_mod])
      have HPLN := hidden (show (packL ds W).length ≤ 1000000 by
        rw [packL_length]
        have h5 : ds.length * W ≤ ds.length * 64 := Nat.mul_le_mul_left _ hW
        unfold szB
        omega)
      have HED : Hid (encD b0 ds W = enc (zz b0).toNat ++ enc W ++ enc (many W ds) ++ packL ds W ++ exc W 0 ds) := by show _ = _; unfold encD; simp
      rw [HPI.out] at HPA
      rw [Int.toNat_natCast] at HE2 HE3
      have hwk : IntKind.u64.wrap (W : Int) = (W : Int) := by rw [IntKind.wrap_u64]; omega
      have HL1 := hidden (enc_le10 (zz b0).toNat)
      have HL2 := hidden (enc_le10 W)
      have HL3 := hidden (enc_le10 (many W ds))
      have hwm : IntKind.u64.wrap ((many W ds : Nat) : Int) = ((many W ds : Nat) : Int) := by rw [IntKind.wrap_u64]; omega
      generalize exc W 0 ds = xs at *
      generalize packL ds W = pp at *
      generalize many W ds = mm at *
      generalize (ds.map fun d => d % 2 ^ W) = ps at *
      clear hmm
      go_wp2_with (first | (go_at_call 108; refine (HZG.out _).mono ?_; rintro e w2 ⟨rfl, rfl⟩))
      refine (HE1.out wr).mono ?_
      rintro e w1 ⟨v1, rfl, hown1, hb1⟩
      have HO1 := hidden hown1
      have HB1 := hidden hb1
      clear hown1 hb1
      go_wp2_with fail
      refine (HE2.out w1).mono ?_
      rintro e w2 ⟨v2, rfl, hown2, hb2⟩
      have HU2 := hidden (IsBytes.of_own hown2)
      have HB2 := hidden (HB1.out.trans (hb2.mono HB1.out.size))
      have HO2 := hidden (own_grow HO1.out hb2)
      clear hown2 hb2
      go_wp2_with ((at_builtin; go_loud (refine wpList_append_bytes (w := wr) rfl _ _ 29 rfl 5 Tryz.underlying29 info_u8 _ (enc (zz b0).toNat) (by rfl) HO2.out HB2.out _ (enc W) (by rfl) HU2.out (by have := HL1.out; have := HL2.out; omega) ?_); intro v3 w3 hown3 hb3; have HO3 := hidden hown3; have HB3 := hidden hb3; clear hown3 hb3))
      refine (HE3.out w3).mono ?_
      rintro e w4 ⟨v4, rfl, hown4, hb4⟩
      have HU4 := hidden (IsBytes.of_own hown4)
      have HB4 := hidden (HB3.out.trans (hb4.mono HB3.out.size))
      have HO4 := hidden (own_grow HO3.out hb4)
      clear hown4 hb4
      go_wp2_with ((at_builtin; go_loud (refine wpList_append_bytes (w := wr) rfl _ _ 29 rfl 5 Tryz.underlying29 info_u8 _ (enc (zz b0).toNat ++ enc W) (by rfl) HO4.out HB4.out _ (enc mm) (by rfl) HU4.out (by have := HL1.out; have := HL2.out; have := HL3.out; rw [List.length_append]; omega) ?_); intro v5 w5 hown5 hb5; have HO5 := hidden hown5; have HB5 := hidden hb5; clear hown5 hb5))
      refine (HPA.out _ w5 (IsW.grow HPK2.out HB5.out)).mono ?_
      rintro e w6 ⟨v6, rfl, hb6, hu6⟩
      have HU6 := hidden hu6
      have HB6 := hidden (HB5.out.trans (hb6.mono HB5.out.size))
      have HO6 := hidden (own_grow HO5.out hb6)
      clear hu6 hb6
      go_wp2_with (first | (at_builtin; go_loud (refine wpList_append_bytes (w := wr) rfl _ _ 29 rfl 5 Tryz.underlying29 info_u8 _ (enc (zz b0).toNat ++ enc W ++ enc mm) (by rfl) HO6.out HB6.out _ pp (by rfl) HU6.out (by have := HL1.out; have := HL2.out; have := HL3.out; have := HPLN.out; rw [List.length_append, List.length_append]; omega) ?_); intro v7 w7 hown7 hb7; have HO7 := hidden hown7; have HB7 := hidden hb7; have HT7 := hidden (HTL2.out.grow hb7); clear hown7 hb7) | (at_builtin; go_loud (refine wpList_append_bytes (w := wr) rfl _ _ 29 rfl 5 Tryz.underlying29 info_u8 _ (enc (zz b0).toNat ++ enc W ++ enc mm ++ pp) (by rfl) HO7.out HB7.out _ xs (by rfl) HT7.out (by have := HL1.out; have := HL2.out; have := HL3.out; have := HPLN.out; have := HXL.out; rw [List.length_append, List.length_append, List.length_append]; omega) ?_); intro v8 w8 hown8 hb8; have HO8 := hidden hown8; have HB8 := hidden hb8; clear hown8 hb8))
      go_ret
      refine ⟨_, rfl, Grows.of_below HB.out HB8.out, ?_⟩
      rw [HEW.out, HED.out]
      exact IsBytes.of_own HO8.out
theorem bestTo_lt {f : Nat → Nat} {k : Nat} (h1 : 1 ≤ k) (h : f k < f (bestTo f (k - 1))) : bestTo f k = k := by
  obtain ⟨j, rfl⟩ : ∃ j, k = j + 1 := ⟨k - 1, by omega⟩
  rw [Nat.add_sub_cancel] at h
  rw [bestTo, if_pos h]
theorem bestTo_ge {f : Nat → Nat} {k : Nat} (h1 : 1 ≤ k) (h : ¬ f k < f (bestTo f (k - 1))) : bestTo f k = bestTo f (k - 1) := by
  obtain ⟨j, rfl⟩ : ∃ j, k = j + 1 := ⟨k - 1, by omega⟩
  rw [Nat.add_sub_cancel] at h ⊢
  rw [bestTo, if_neg h]
theorem sizeW_len {l : List Int} {W : Nat} (hl : l.length ≤ 65536) (hW : W ≤ 64) : (encW l W).length ≤ 2000000 := by
  have h := encD_len (baseV l) (difL l) hW
  rw [difL_length] at h
  unfold encW
  omega
def RBestRel (w : World) (l : List Int) (best size i : Value) (wr : World) : Prop :=
  ∃ k : Nat, 1 ≤ k ∧ k ≤ 65 ∧ i = .int .i64 (k : Int) ∧ best = .int .i64 ((bestTo (sizeW l) (k - 1) : Nat) : Int) ∧ size = .int .i64 ((sizeW l (bestTo (sizeW l) (k - 1)) : Nat) : Int) ∧ Below w.heap.size w wr
set_option maxHeartbeats 2000000 in
theorem rbest_any (v : Value) (l : List Int) (w : World) (hv : IsI w v l) (hl : l.length ≤ 65536) (hin : ∀ x ∈ l, frIn x) :
    Calls Tryz.prog 110 #[v] w fun e w' => e = .returned (.tuple #[.int .i64 (baseV l), .int .i64 ((bestW l : Nat) : Int)]) ∧ Grows w w' := by
  have HV := hidden hv
  have HW := hidden (fun W hW w' hv' => rwith_any v l W w' hv' hl hW hin)
  have HLE := hidden (fun w' hv' => rleast_any v l w' hv' (by omega))
  have HSZ := hidden (fun W hW => sizeW_len (l := l) (W := W) hl hW)
  have HBL := hidden (bestTo_le (sizeW l))
  clear hv
  go_enter Tryz.func110, Tryz.ntmps110
  go_wp2_with fail
  refine (HW.out 0 (by omega) w HV.out).mono ?_
  rintro e w1 ⟨v1, rfl, hb1, hu1⟩
  obtain ⟨A1, d1, rfl, _⟩ := hu1
  have HB1 := hidden hb1
  clear hb1
  go_wp2_with fail
  go_loopw [4, 5, 6] (fun best size i wr => RBestRel w l best size i wr) (fun _ _ i _ => 65 - (intOf i).toNat)
  case atStart => exact ⟨1, by omega, by omega, rfl, rfl, rfl, HB1.out⟩
  case round =>
    obtain ⟨k, hk1, hk, rfl, rfl, rfl, hb⟩ := hrel
    have HB := hidden hb
    clear hb
    by_cases hlt : k ≤ 64
    · have hs1 := HSZ.out k (by omega)
      have hs2 : sizeW l (bestTo (sizeW l) (k - 1)) ≤ 2000000 := HSZ.out (bestTo (sizeW l) (k - 1)) (by have := HBL.out (k - 1); omega)
      have hbl := HBL.out (k - 1)
      have HWK := hidden (HW.out k (by omega) wr (IsI.grow HV.out HB.out))
      have HSW := hidden (show (encW l k).length = sizeW l k from rfl)
      rw [HSW.out] at hs1
      by_cases hc : sizeW l k < sizeW l (bestTo (sizeW l) (k - 1))
      · have HBS := hidden (bestTo_lt hk1 hc)
        have hd : decide (sizeW l k < sizeW l (bestTo (sizeW l) (k - 1))) = true := by simpa using hc
        have HS3 := hidden (show sizeW l (bestTo (sizeW l) k) = sizeW l k by rw [HBS.out])
        generalize sizeW l (bestTo (sizeW l) (k - 1)) = s0 at *
        generalize sizeW l k = s1 at *
        generalize bestTo (sizeW l) (k - 1) = b0 at *
        clear hc
        go_wp2_with fail
        refine HWK.out.mono ?_
        rintro e w2 ⟨v2, rfl, hb2, hu2⟩
        obtain ⟨A2, d2, rfl, _⟩ := hu2
        have HB2 := hidden (HB.out.trans (hb2.mono HB.out.size))
        clear hb2
        rw [HSW.out]
        go_wp2_with fail
        refine ⟨⟨k + 1, by omega, by omega, by go_num, ?_, ?_, HB2.out⟩, by simp [intOf]; omega⟩
        · rw [Nat.add_sub_cancel, HBS.out]
        · rw [Nat.add_sub_cancel, HS3.out]
      · have HBS := hidden (bestTo_ge hk1 hc)
        have hd : decide (sizeW l k < sizeW l (bestTo (sizeW l) (k - 1))) = false := by simpa using hc
        have HS3 := hidden (show sizeW l (bestTo (sizeW l) k) = sizeW l (bestTo (sizeW l) (k - 1)) by rw [HBS.out])
        generalize sizeW l (bestTo (sizeW l) (k - 1)) = s0 at *
        generalize sizeW l k = s1 at *
        generalize bestTo (sizeW l) (k - 1) = b0 at *
        clear hc
        go_wp2_with fail
        refine HWK.out.mono ?_
        rintro e w2 ⟨v2, rfl, hb2, hu2⟩
        obtain ⟨A2, d2, rfl, _⟩ := hu2
        have HB2 := hidden (HB.out.trans (hb2.mono HB.out.size))
        clear hb2
        rw [HSW.out]
        go_wp2_with fail
        refine ⟨⟨k + 1, by omega, by omega, by go_num, ?_, ?_, HB2.out⟩, by simp [intOf]; omega⟩
        · rw [Nat.add_sub_cancel, HBS.out]
        · rw [Nat.add_sub_cancel, HS3.out]
    · have hke : k = 65 := by omega
      subst hke
      rw [show 65 - 1 = 64 from rfl]
      have HLL := hidden (HLE.out wr (IsI.grow HV.out HB.out))
      have HFI := hidden (show bestTo (sizeW l) 64 = bestW l from rfl)
      generalize bestTo (sizeW l) 64 = b0 at *
      generalize sizeW l b0 = s0 at *
      go_wp2_with fail
      refine HLL.out.mono ?_
      rintro e w2 ⟨rfl, rfl⟩
      go_wp2_with fail
      go_ret2
      exact ⟨by rw [HFI.out]; rfl, HB.out⟩
theorem rencodeF_any (v : Value) (l : List Int) (w : World) (hv : IsI w v l) (hl : l.length ≤ 65536) (hin : ∀ x ∈ l, frIn x) :
    Calls Tryz.prog 54 #[v] w (ByR (encV l) w) := by
  have HV := hidden hv
  have HB := hidden (rbest_any v l w hv hl hin)
  have HW := hidden (fun w' hv' => rwith_any v l (bestW l) w' hv' hl (bestW_le l) hin)
  have HE := hidden (show encW l (bestW l) = encV l from rfl)
  clear hv
  generalize bestW l = b0 at *
  generalize baseV l = x0 at *
  go_enter Tryz.func54, Tryz.ntmps54
  go_wp2_with fail
  refine HB.out.mono ?_
  rintro e w1 ⟨rfl, hb1⟩
  have HB1 := hidden hb1
  clear hb1
  go_wp2_with fail
  refine (HW.out w1 (IsI.grow HV.out HB1.out)).mono ?_
  rintro e w2 ⟨v2, rfl, hb2, hu2⟩
  have HB2 := hidden (HB1.out.of_below hb2)
  have HU2 := hidden hu2
  clear hb2 hu2
  go_wp2_with fail
  go_ret
  exact ⟨_, rfl, HB2.out, by rw [← HE.out]; exact HU2.out⟩
end Go.Proofs.YthmipnokimlbdaaGreat
/-
  Shaken: what the claims of this seat need of this text. No condition.
-/
namespace Go.Proofs.YthmipnokimlbdaaGreat
set_option maxRecDepth 20000
open Go.RowKit
set_option linter.unusedVariables false
set_option linter.unusedSimpArgs false
def RestI (w wr : World) (v : Value) (l : List Int) (j : Nat) (u : Value) : Prop := (rstL j l = l ∧ u = v) ∨ wr.ownsRow w.heap.size 2 1 u (rstL j l).length (icells (rstL j l))
theorem RestI.reads {w wr : World} {v u : Value} {l : List Int} {j : Nat} (h : RestI w wr v l j u) (hv : IsI w v l) (hb : Grows w wr) : IsI wr u (rstL j l) := by
  rcases h with ⟨h1, rfl⟩ | h
  · rw [h1]; exact IsI.grow hv hb
  · exact Reads.of_own h
theorem RestI.grow {w wr wr' : World} {v u : Value} {l : List Int} {j : Nat} (h : RestI w wr v l j u) (hb : Grows wr wr') : RestI w wr' v l j u := h.imp id fun h => own_grow h hb
theorem RestI.keep {w wr wr' : World} {v u : Value} {l : List Int} {j : Nat} (h : RestI w wr v l j u) (hk : KeepsRows 5 wr wr') : RestI w wr' v l j u := h.imp id fun h => hk _ _ _ _ _ _ (by decide) h
theorem RestI.of_own {w w1 wr : World} {v u : Value} {l : List Int} {j : Nat} (h : wr.ownsRow w1.heap.size 2 1 u (rstL j l).length (icells (rstL j l))) (hb : Grows w w1) : RestI w wr v l j u := .inr (ownsRow_base h hb.size)
theorem hdB_stop {l : List Int} {j : Nat} (h : rstL j l = []) : ∀ d, hdB (j + d) l = hdB j l ∧ rstL (j + d) l = []
  | 0 => ⟨rfl, h⟩
  | d + 1 => by
    obtain ⟨h1, h2⟩ := hdB_stop h d
    exact ⟨(hdB_end h2).trans h1, by show dfL (rstL (j + d) l) = []; rw [h2]; rfl⟩
theorem u8_kind {k : Nat} (hk : k ≤ 2) : IntKind.u8.wrap (k : Int) = ((UInt8.ofNat k).toNat : Int) := by
  match k, hk with
  | 0, _ => rfl
  | 1, _ => rfl
  | 2, _ => rfl
theorem take1 {l : List Int} (h : 0 < l.length) : l.take 1 = [l[0]] := by
  cases l with
  | nil => cases h
  | cons x r => rfl
theorem own_one_b (w : World) (z : UInt8) : (w.alloc (.cells #[.int .u8 (z.toNat : Int)] 5)).ownsRow w.heap.size 5 1 (.slice (some ⟨w.heap.size, 0, none⟩) 1 1) ([z] : List UInt8).length (bcells [z]) := by
  have h := Row.own (Row.new w 5 #[.int .u8 (z.toNat : Int)] (bcells [z]) rfl) (Nat.le_refl _) (by unfold maxLen; rw [bcells_length, List.length_singleton]; omega)
  exact h
def RFmRel (w : World) (v : Value) (l : List Int) (k : Nat) (K : UInt8) (o r i : Value) (wr : World) : Prop :=
  ∃ j : Nat, j ≤ k ∧ i = .int .i64 (j : Int) ∧ wr.ownsRow w.heap.size 5 1 o (K :: hdB j l).length (bcells (K :: hdB j l)) ∧ RestI w wr v l j r ∧ Below w.heap.size w wr
set_option maxRecDepth 20000 in
set_option maxHeartbeats 8000000 in
theorem rform_any (v : Value) (l : List Int) (k : Nat) (w : World) (hv : IsI w v l) (hl : l.length ≤ 65536) (hin : ∀ x ∈ l, frIn x) (hk : k ≤ 2) :
    Calls Tryz.prog 112 #[v, .int .i64 (k : Int)] w (ByR (dlForm k l) w) := by
  have HV := hidden hv
  obtain ⟨A, c, rfl⟩ := hv.slice_
  have HIN := hidden (rstL_in hin)
  have HRL := hidden (fun j => rstL_length j l)
  have HK8 := hidden (u8_kind hk)
  have HO0 := hidden (own_one_b w (UInt8.ofNat k))
  have HB0 := hidden ((Below.refl w.heap.size w).alloc (Nat.le_refl _) (.cells #[.int .u8 ((UInt8.ofNat k).toNat : Int)] 5))
  have HFM := hidden (show dlForm k l = (UInt8.ofNat k :: hdB k l) ++ encV (rstL k l) from rfl)
  have HHL := hidden (fun j => hdB_len j l)
  have HEL := hidden (show (encV (rstL k l)).length ≤ 31 + 28 * 65536 by have := encV_len (rstL k l); rw [rstL_length] at this; omega)
  have hk8 := HK8.out
  generalize UInt8.ofNat k = K at *
  clear hv hin
  go_enter Tryz.func112, Tryz.ntmps112
  go_wp2_with fail
  clear hk8
  go_loopw [5, 6, 7] (fun o r i wr => RFmRel w (.slice A l.length c) l k K o r i wr) (fun _ _ i _ => k - (intOf i).toNat)
  case atStart => exact ⟨0, by omega, rfl, by exact HO0.out, .inl ⟨rfl, rfl⟩, HB0.out⟩
  case round =>
    obtain ⟨j, hj, rfl, hown, hrest, hbw⟩ := hrel
    have HB := hidden hbw
    have HO := hidden hown
    have HR := hidden hrest
    have HI := hidden (hrest.reads HV.out hbw)
    obtain ⟨A6, c6, rfl⟩ := HI.out.slice_
    have HLJ := hidden (HHL.out j)
    have HINJ := hidden (HIN.out j)
    have HRLJ := hidden (HRL.out j)
    have HST := hidden (fun h => hdB_stop (l := l) (j := j) h (k - j))
    clear hown hrest hbw HO0 HB0
    by_cases hgo : j < k ∧ 0 < (rstL j l).length
    · obtain ⟨hjk, h0⟩ := hgo
      obtain ⟨b, f, rfl, hck⟩ := HI.out.at_ h0
      simp only [Nat.add_zero] at hck
      have HSTEP := hidden (hdB_step (take1 h0))
      have hx := HINJ.out _ (List.getElem_mem h0)
      have HDJ := hidden (fun u w' hu => rdiff_any u (rstL j l) w' hu (by have := HRLJ.out; omega))
      have HD2 := hidden (show dfL (rstL j l) = rstL (j + 1) l from rfl)
      generalize hxe : (rstL j l)[0] = x at *
      have hz := zz_bd x hx.1 (by have := hx.2; omega)
      have HZG := hidden (fun W' => rzigzag_any x W' hx.1 (by have := hx.2; omega))
      have HE1 := hidden (fun W' => rencode_any (zz x) W' hz.1 (by omega))
      generalize hdB j l = hd at *
      have HEX := hidden (enc_le10 (zz x).toNat)
      have h0' : (0 : Int) < ((rstL j l).length : Int) := by omega
      clear hx hz hxe
      go_wp2_with (first | (go_at_call 108; refine (HZG.out _).mono ?_; rintro e w2 ⟨rfl, rfl⟩))
      refine (HE1.out wr).mono ?_
      rintro e w1 ⟨v1, rfl, hown1, hb1⟩
      have HU1 := hidden (IsBytes.of_own hown1)
      have HB1 := hidden (HB.out.trans (hb1.mono HB.out.size))
      have HO1 := hidden (own_grow HO.out hb1)
      have HR1 := hidden (HR.out.grow hb1)
      clear hown1 hb1
      go_wp2_with ((at_builtin; go_loud (refine wpList_append_bytes_k (w := w) rfl _ _ 29 rfl 5 Tryz.underlying29 info_u8 _ (K :: hd) (by rfl) HO1.out HB1.out _ (enc (zz x).toNat) (by rfl) HU1.out (by have := HEX.out; have := HLJ.out; rw [List.length_cons]; omega) ?_); intro v2 w2 hown2 hb2 hk2; have HO2 := hidden hown2; have HB2 := hidden hb2; have HR2 := hidden (HR1.out.keep hk2); clear hown2 hb2 hk2))
      refine (HDJ.out _ w2 (HR2.out.reads HV.out HB2.out)).mono ?_
      rintro e w3 ⟨v3, rfl, hb3, hown3⟩
      rw [HD2.out] at hown3
      have HR3 := hidden (RestI.of_own (v := .slice A l.length c) hown3 HB2.out)
      have HO3 := hidden (own_grow HO2.out hb3)
      have HB3 := hidden (HB2.out.trans (hb3.mono HB2.out.size))
      clear hown3 hb3
      go_wp2_with fail
      refine ⟨⟨j + 1, by omega, by go_num, ?_, ?_, HB3.out⟩, by simp [intOf]; omega⟩
      · rw [HSTEP.out]; exact HO3.out
      · exact HR3.out
    · have hE : hdB k l = hdB j l ∧ rstL k l = rstL j l := by
        by_cases hjk : j < k
        · have h0 : rstL j l = [] := List.eq_nil_of_length_eq_zero (by omega)
          have h1 := HST.out h0
          rw [show j + (k - j) = k by omega] at h1
          exact ⟨h1.1, by rw [h1.2, h0]⟩
        · rw [show k = j by omega]
          exact ⟨rfl, rfl⟩
      rw [hE.1, hE.2] at HFM
      rw [hE.2] at HEL
      have HEN := hidden (fun w' hu => rencodeF_any (.slice A6 (rstL j l).length c6) (rstL j l) w' hu (by have := HRLJ.out; omega) HINJ.out)
      clear hE
      by_cases hjk : j < k
      · have h0 : (rstL j l).length = 0 := by omega
        have h0q : decide (0 < (rstL j l).length) = false := by rw [h0]; rfl
        have H0 := hidden h0
        clear h0 hgo
        go_wp2_with fail
        refine (HEN.out wr HI.out).mono ?_
        rintro e w1 ⟨v1, rfl, hb1, hu1⟩
        have HU1 := hidden hu1
        have HB1 := hidden (HB.out.trans (hb1.mono HB.out.size))
        have HO1 := hidden (own_grow HO.out hb1)
        clear hb1 hu1
        go_wp2_with ((at_builtin; go_loud (refine wpList_append_bytes (w := w) rfl _ _ 29 rfl 5 Tryz.underlying29 info_u8 _ (K :: hdB j l) (by rfl) HO1.out HB1.out _ (encV (rstL j l)) (by rfl) HU1.out (by have := HEL.out; have := HLJ.out; rw [List.length_cons]; omega) ?_); intro v2 w2 hown2 hb2; have HO2 := hidden hown2; have HB2 := hidden hb2; clear hown2 hb2))
        go_ret
        exact ⟨_, rfl, HB2.out, by rw [HFM.out]; exact IsBytes.of_own HO2.out⟩
      · clear hgo
        go_wp2_with fail
        refine (HEN.out wr HI.out).mono ?_
        rintro e w1 ⟨v1, rfl, hb1, hu1⟩
        have HU1 := hidden hu1
        have HB1 := hidden (HB.out.trans (hb1.mono HB.out.size))
        have HO1 := hidden (own_grow HO.out hb1)
        clear hb1 hu1
        go_wp2_with ((at_builtin; go_loud (refine wpList_append_bytes (w := w) rfl _ _ 29 rfl 5 Tryz.underlying29 info_u8 _ (K :: hdB j l) (by rfl) HO1.out HB1.out _ (encV (rstL j l)) (by rfl) HU1.out (by have := HEL.out; have := HLJ.out; rw [List.length_cons]; omega) ?_); intro v2 w2 hown2 hb2; have HO2 := hidden hown2; have HB2 := hidden hb2; clear hown2 hb2))
        go_ret
        exact ⟨_, rfl, HB2.out, by rw [HFM.out]; exact IsBytes.of_own HO2.out⟩
set_option maxRecDepth 20000 in
set_option maxHeartbeats 8000000 in
theorem renc_any (v : Value) (l : List Int) (w : World) (hv : IsI w v l) (hl : l.length ≤ 65536) (hin : ∀ x ∈ l, frIn x) :
    Calls Tryz.prog 55 #[v] w (ByR (dlEnc l) w) := by
  have HV := hidden hv
  obtain ⟨A, c, rfl⟩ := hv.slice_
  have HE := hidden (dlEnc_in hl)
  have HF1 := hidden (rform_any _ l 1 w hv hl hin (by decide))
  have HF2 := hidden (fun w' hv' => rform_any (.slice A l.length c) l 2 w' hv' hl hin (by decide))
  have HO := hidden (show dlOrd l = if l.length < 2 then 1 else if (dlForm 2 l).length < (dlForm 1 l).length then 2 else 1 from rfl)
  have hd : decide ((65536 : Int) < (l.length : Int)) = false := by simp; omega
  clear hv
  by_cases h2 : l.length < 2
  · rw [if_pos h2] at HO
    rw [HO.out] at HE
    have hd2 : decide ((l.length : Int) < 2) = true := by simp; omega
    clear h2
    go_enter Tryz.func55, Tryz.ntmps55
    go_wp2_with fail
    refine HF1.out.mono ?_
    rintro e w1 ⟨v1, rfl, hb1, hu1⟩
    have HB1 := hidden hb1
    have HU1 := hidden hu1
    clear hb1 hu1
    go_wp2_with fail
    go_ret
    exact ⟨_, rfl, HB1.out, by rw [HE.out]; exact HU1.out⟩
  · rw [if_neg h2] at HO
    have hd2 : decide ((l.length : Int) < 2) = false := by simp; omega
    clear h2
    obtain ⟨F1, hF1⟩ : ∃ F1, F1 = dlForm 1 l := ⟨_, rfl⟩
    obtain ⟨F2, hF2⟩ : ∃ F2, F2 = dlForm 2 l := ⟨_, rfl⟩
    rw [← hF1] at HF1 HO
    rw [← hF2] at HF2 HO
    have HQ1 := hidden hF1
    have HQ2 := hidden hF2
    clear hF1 hF2
    by_cases hs : F2.length < F1.length
    · rw [if_pos hs] at HO
      rw [HO.out, ← HQ2.out] at HE
      have hds : decide (F2.length < F1.length) = true := by simpa using hs
      clear hs
      go_enter Tryz.func55, Tryz.ntmps55
      go_wp2_with fail
      refine HF1.out.mono ?_
      rintro e w1 ⟨v1, rfl, hb1, hu1⟩
      obtain ⟨A1, c1, rfl, _⟩ := hu1
      have HB1 := hidden hb1
      clear hb1
      go_wp2_with fail
      refine (HF2.out w1 (IsI.grow HV.out HB1.out)).mono ?_
      rintro e w2 ⟨v2, rfl, hb2, hu2⟩
      have HU2 := hidden hu2
      obtain ⟨A2, c2, rfl, _⟩ := hu2
      have HB2 := hidden (HB1.out.trans (hb2.mono HB1.out.size))
      clear hb2
      go_wp2_with fail
      go_ret
      exact ⟨_, rfl, HB2.out, by rw [HE.out]; exact HU2.out⟩
    · rw [if_neg hs] at HO
      rw [HO.out, ← HQ1.out] at HE
      have hds : decide (F2.length < F1.length) = false := by simpa using hs
      clear hs
      go_enter Tryz.func55, Tryz.ntmps55
      go_wp2_with fail
      refine HF1.out.mono ?_
      rintro e w1 ⟨v1, rfl, hb1, hu1⟩
      have HU1 := hidden hu1
      obtain ⟨A1, c1, rfl, _⟩ := hu1
      have HB1 := hidden hb1
      clear hb1
      go_wp2_with fail
      refine (HF2.out w1 (IsI.grow HV.out HB1.out)).mono ?_
      rintro e w2 ⟨v2, rfl, hb2, hu2⟩
      obtain ⟨A2, c2, rfl, _⟩ := hu2
      have HB2 := hidden (HB1.out.trans (hb2.mono HB1.out.size))
      have HU12 := hidden (HU1.out.grow hb2)
      clear hb2
      go_wp2_with fail
      go_ret
      exact ⟨_, rfl, HB2.out, by rw [HE.out]; exact HU12.out⟩
end Go.Proofs.YthmipnokimlbdaaGreat
