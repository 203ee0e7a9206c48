/-
  Texts that the claims of this seat share, put together (FrT, Fs2, Dr1, Fr2, Dr3). No condition.
-/
import Derived.Test.YthmipnokimlbdaaGreatM10
import Derived.Test.YthmipnokimlbdaaGreatM12
import Derived.Test.YthmipnokimlbdaaGreatM5
import Derived.Test.YthmipnokimlbdaaGreatM7
import Derived.Test.YthmipnokimlbdaaGreatM9
import Derived.StillTail
import Derived.StillTailTactics
import Derived.Test.YthmipnokimlbdaaGreatM6
import Derived.Test.YthmipnokimlbdaaGreatM2
/-
  Shaken: what the claims of this seat need of this text. No condition.
-/
namespace Go.Proofs.YthmipnokimlbdaaGreat
set_option maxRecDepth 8000
open Go.RowKit
set_option linter.unusedVariables false
set_option linter.unusedSimpArgs false
theorem byr_loose {f : FuncId} {args : Array Value} {w : World} {l : List UInt8} (h : Calls Tryz.prog f args w (ByR l w)) : Calls Tryz.prog f args w fun e w' => ∃ v, e = .returned v ∧ Grows w w' ∧ BytesV l v w' :=
  h.mono fun _ _ ⟨v, he, hb, hu⟩ => ⟨v, he, hb, hu⟩
end Go.Proofs.YthmipnokimlbdaaGreat
/-
  Shaken: what the claims of this seat need of this text. No condition.
-/
namespace Go.Proofs.YthmipnokimlbdaaGreat
open Go.RowKit
set_option linter.unusedVariables false
set_option linter.unusedSimpArgs false
def ReadsT (w : World) (v : Value) (n : Nat) (C X : Nat → Nat) : Prop :=
  ∃ A c, v = .slice A n c ∧ (0 < n → ∃ b f, A = some ⟨b, f, none⟩ ∧ ∀ j, j < n → w.cell? ⟨b, f + j * 2, none⟩ = some (.int .i64 (C j : Int)) ∧ w.cell? ⟨b, f + j * 2 + 1, none⟩ = some (.int .i64 (X j : Int)))
theorem ReadsT.grow {w w' : World} {v : Value} {n : Nat} {C X : Nat → Nat} (h : ReadsT w v n C X) (hb : Grows w w') : ReadsT w' v n C X := by
  obtain ⟨A, c, rfl, hc⟩ := h
  refine ⟨A, c, rfl, fun hn => ?_⟩
  obtain ⟨b, f, rfl, hcell⟩ := hc hn
  refine ⟨b, f, rfl, fun j hj => ?_⟩
  obtain ⟨h1, h2⟩ := hcell j hj
  exact ⟨(hb.cell (World.block_lt_of_cell? w _ h1)).trans h1, (hb.cell (World.block_lt_of_cell? w _ h2)).trans h2⟩
theorem sumF_le {f : Nat → Nat} {k : Nat} : ∀ n, k ≤ n → sumF f k ≤ sumF f n
  | 0, h => by
    have : k = 0 := by omega
    subst this
    exact Nat.le_refl _
  | n + 1, h => by
    rcases Nat.lt_or_ge n k with h1 | h1
    · have : k = n + 1 := by omega
      subst this
      exact Nat.le_refl _
    · have := sumF_le (f := f) n h1
      rw [sumF]
      omega
def ESRel (w : World) (n : Nat) (C X : Nat → Nat) (c s i : Value) (wr : World) : Prop :=
  ∃ k : Nat, k ≤ n ∧ i = .int .i64 (k : Int) ∧ c = .int .i64 ((sumF C k : Nat) : Int) ∧ s = .int .i64 ((sumF (fun j => X j + C j * vsw (j + 1)) k : Nat) : Int) ∧ Below w.heap.size w wr
set_option maxRecDepth 8000 in
set_option maxHeartbeats 4000000 in
theorem excSize_any (v : Value) (n : Nat) (C X : Nat → Nat) (w : World) (hv : ReadsT w v n C X) (hn : n ≤ 65) (hC : sumF C n ≤ 65536) (hS : sumF (fun j => X j + C j * vsw (j + 1)) n ≤ 2000000) :
    Calls Tryz.prog 204 #[v] w fun e w' => e = .returned (.int .i64 ((excSz C X n : Nat) : Int)) ∧ Grows w w' := by
  have HV := hidden hv
  obtain ⟨A, c, rfl, _⟩ := id hv
  have HCC := hidden hC
  have HSS := hidden hS
  have HES := hidden (show excSz C X n = esz (sumF C n) + sumF (fun j => X j + C j * vsw (j + 1)) n from rfl)
  clear hv hC hS
  go_enter Tryz.func204, Tryz.ntmps204
  go_wp2_with fail
  go_loopw [3, 4, 9] (fun c s i wr => ESRel w n C X c s i wr) (fun _ _ i _ => n - (intOf i).toNat)
  case atStart => exact ⟨0, by omega, rfl, rfl, rfl, Below.refl _ _⟩
  case round =>
    obtain ⟨k, hk, rfl, rfl, rfl, hb⟩ := hrel
    have HB := hidden hb
    clear hb
    by_cases hlt : k < n
    · obtain ⟨A', c', he, hc⟩ := HV.out.grow HB.out
      have hAc : A = A' ∧ c = c' := by simpa using he
      obtain ⟨rfl, rfl⟩ := hAc
      obtain ⟨b, f, rfl, hcell⟩ := hc (by omega)
      obtain ⟨y1, y2⟩ := hcell k hlt
      have hq1 : sumF C (k + 1) ≤ sumF C n := sumF_le n hlt
      have hq2 : sumF (fun j => X j + C j * vsw (j + 1)) (k + 1) ≤ sumF (fun j => X j + C j * vsw (j + 1)) n := sumF_le n hlt
      have HQ1 := hidden (show sumF C (k + 1) = sumF C k + C k from rfl)
      have HQ2 := hidden (show sumF (fun j => X j + C j * vsw (j + 1)) (k + 1) = sumF (fun j => X j + C j * vsw (j + 1)) k + (X k + C k * vsw (k + 1)) from rfl)
      have HSW := hidden (fun w' => sizeOfWidth_any (k + 1) w' (by omega))
      rw [show (((k + 1 : Nat) : Int)) = (k : Int) + 1 by omega] at HSW
      rw [HQ1.out] at hq1
      rw [HQ2.out] at hq2
      have hcc := HCC.out
      have hss := HSS.out
      generalize sumF (fun j => X j + C j * vsw (j + 1)) k = sk at *
      generalize sumF (fun j => X j + C j * vsw (j + 1)) n = sn at *
      generalize sumF C k = ck at *
      generalize sumF C n = cn at *
      generalize vsw (k + 1) = s at *
      generalize C k = y at *
      generalize X k = x at *
      obtain ⟨m, hm⟩ : ∃ m, m = y * s := ⟨_, rfl⟩
      have hmul : (y : Int) * (s : Int) = (m : Int) := by rw [hm]; simp
      rw [← hm] at hq2 HQ2
      have HBA := hidden (show Below w.heap.size w (wr.alloc (.cells #[.int .i64 (y : Int), .int .i64 (x : Int)] 209)) from HB.out.alloc HB.out.size _)
      have HX : Hid (∀ w', Grows (wr.alloc (.cells #[.int .i64 (y : Int), .int .i64 (x : Int)] 209)) w' → w'.cell? ⟨wr.heap.size, 0, none⟩ = some (.int .i64 (y : Int)) ∧ w'.cell? ⟨wr.heap.size, 1, none⟩ = some (.int .i64 (x : Int))) := fun w' h => by
        have hr := Row.grow (Row.new wr 209 #[.int .i64 (y : Int), .int .i64 (x : Int)] [.int .i64 (y : Int), .int .i64 (x : Int)] rfl) h
        exact ⟨hr.cell 0, hr.cell 1⟩
      have w1 : IntKind.i64.wrap ((k : Int) + 1) = (k : Int) + 1 := by rw [IntKind.wrap_i64]; omega
      have w2 : IntKind.i64.wrap (m : Int) = (m : Int) := by rw [IntKind.wrap_i64]; omega
      have w3 : IntKind.i64.wrap ((x : Int) + (m : Int)) = (x : Int) + (m : Int) := by rw [IntKind.wrap_i64]; omega
      have w4 : IntKind.i64.wrap ((sk : Int) + ((x : Int) + (m : Int))) = (sk : Int) + ((x : Int) + (m : Int)) := by rw [IntKind.wrap_i64]; omega
      have hck : ck + y ≤ 65536 := by omega
      clear hm hc hcell hcc hss
      go_wp2_with fail
      refine wp_region_loose (tabRs [(7, ConstV (.int .i64 (s : Int)))]) (by kernel_rfl) (by kernel_rfl) (tabRs_cons ConstV.lasts tabRs_nil) ?_
      iterate 7 ((with_reducible refine loose_one (v := ?_) (a' := ?_) ?_ ?_ (fun w' hC' hG' => ?_) ?_ ?_); rotate_left 2; (focus rfl); (focus rfl); (focus (obtain ⟨x0, x1⟩ := HX.out w' hC'; clear hC' hG'; go_simp; rfl)); (focus (go_simp; rfl)))
      refine loose_call (R := ConstV (.int .i64 (s : Int))) (f := 221) (args := #[.int .i64 ((k : Int) + 1)]) (by rfl) (by rfl) (fun _ => by go_simp) (fun w' hC' hG' => const_loose0 (HSW.out w')) ?_
      rintro _ ⟨_, _, rfl⟩
      refine ⟨?_, ?_, ?_⟩
      rotate_left
      · go_simp
        rfl
      iterate 4 ((with_reducible refine loose_one (v := ?_) (a' := ?_) ?_ ?_ (fun w' hC' hG' => ?_) ?_ ?_); rotate_left 2; (focus rfl); (focus rfl); (focus (obtain ⟨x0, x1⟩ := HX.out w' hC'; clear hC' hG'; go_simp; rfl)); (focus (go_simp; rfl)))
      refine loose_done (fun w6 hC' hG' => ?_)
      clear hG'
      have HB6 := hidden (Grows.of_below HBA.out hC')
      clear hC'
      go_wp2_with fail
      refine ⟨⟨k + 1, by omega, by go_num, ?_, ?_, HB6.out⟩, by simp [intOf]; omega⟩
      · rw [HQ1.out]; go_num
      · rw [HQ2.out]; go_num
    · have hke : k = n := by omega
      subst hke
      have hcc := HCC.out
      have hss := HSS.out
      have HVS := hidden (fun w' => varintSize_any (sumF C k) w' (by omega))
      have hes : esz (sumF C k) ≤ 10 := (esz_bd (n := sumF C k) (by omega)).2
      generalize sumF (fun j => X j + C j * vsw (j + 1)) k = sk at *
      generalize sumF C k = ck at *
      have hwk : IntKind.u64.wrap (ck : Int) = (ck : Int) := by rw [IntKind.wrap_u64]; omega
      go_wp2_with fail
      refine (HVS.out wr).mono ?_
      rintro e w' ⟨rfl, rfl⟩
      go_wp2_with fail
      go_ret
      refine ⟨retI ?_, HB.out⟩
      rw [HES.out]
      omega
end Go.Proofs.YthmipnokimlbdaaGreat
/-
  Shaken: what the claims of this seat need of this text. No condition.
-/
namespace Go.Proofs.YthmipnokimlbdaaGreat
set_option maxRecDepth 20000
open Go.RowKit
set_option linter.unusedVariables false
set_option linter.unusedSimpArgs false
theorem icells_append (l r : List Int) : icells (l ++ r) = icells l ++ icells r := by simp [icells]
theorem oneCell_icells (l : List Int) : ∀ u ∈ icells l, u.oneCell' = true := by
  intro u hu
  unfold icells at hu
  rw [List.mem_map] at hu
  obtain ⟨x, _, rfl⟩ := hu
  rfl
theorem run_append_il {wr w0 : World} {base : Nat} {ty : TypeId} {v : Value} {pre : List Int} (hown : wr.ownsRow base 2 1 v pre.length (icells pre)) (hb : Below base w0 wr) (hbase : base ≤ wr.heap.size) {u : Value} {l : List Int} (hu : IsI wr u l)
    (hlen : pre.length + l.length ≤ 17592186044416) :
    ∃ v' w', (Builtin.append_ #[22, 22] ty #[v, u]).run Tryz.prog wr = .ok v' w' ∧ w'.ownsRow base 2 1 v' (pre ++ l).length (icells (pre ++ l)) ∧ Below base w0 w' ∧ KeepsRows 2 wr w' := by
  obtain ⟨i0, hi, hz0, hz1, hz2⟩ := info_parts info_i64
  obtain ⟨A, c, rfl, hle, hc⟩ := hu
  rw [icells_length] at hle hc ⊢
  cases A with
  | none =>
    have hl : l = [] := by
      cases l with
      | nil => rfl
      | cons x r => obtain ⟨b, off, h, _⟩ := hc (by simp); cases h
    subst hl
    exact ⟨v, wr, run_append_nothing Tryz.underlying22 hi hown c, by simpa using hown, hb, fun _ _ _ _ _ _ _ h => h⟩
  | some ad =>
    have hcells : ∀ j x, (icells l)[j]? = some x → wr.cell? (ad.add j) = some x := by
      intro j x hx
      have hj : j < l.length := by
        rcases Nat.lt_or_ge j l.length with h | h
        · exact h
        · rw [List.getElem?_eq_none (by rw [icells_length]; exact h)] at hx; cases hx
      obtain ⟨b, off, h, hcell⟩ := hc (by omega)
      injection h with h
      subst h
      rw [Addr.add_lit, hcell j hj]
      exact hx
    obtain ⟨v', w', h1, h2, h3, _⟩ := run_append_own (P := Tryz.prog) wr base 22 ty 2 i0 (.int .i64 0) 1 8 Tryz.underlying22 hi hz0 hz1 hz2 rfl (by decide) v pre.length (icells pre) hown ad l.length c (icells l)
      (by rw [icells_length]; omega) hcells (oneCell_icells l) (by unfold maxLen; omega) (by omega) hbase
    refine ⟨v', w', h1, ?_, hb.grown h3 hbase (fun k hk => (hown.lt k hk).1), fun b e' s x n xs he hx => hx.kept h3 (ownsRow_ne hx hown he)⟩
    rw [icells_append, List.length_append]; exact h2
theorem wpList_append_il {wr : World} {ops : Array Oper} {rest : List Oper} {o : Oper} {a : Act} {Q : Exit → Act → World → Prop} (hgd : o.guard = none) (s x : Operand)
    (ho : o.op = .call { callee := .builtin .append, args := #[s, x], argTypes := #[22, 22] })
    (v : Value) (pre : List Int) (hs : a.eval s = v) (base : Nat) (hown : wr.ownsRow base 2 1 v pre.length (icells pre)) (w0 : World) (hb : Below base w0 wr) (hbase : base ≤ wr.heap.size)
    (u : Value) (l : List Int) (hx : a.eval x = u) (hu : IsI wr u l) (hlen : pre.length + l.length ≤ 17592186044416)
    (h : ∀ v' w', w'.ownsRow base 2 1 v' (pre ++ l).length (icells (pre ++ l)) → Below base w0 w' → KeepsRows 2 wr w' → wpList Tryz.prog ops Q rest (a.put o.dst v') w') :
    wpList Tryz.prog ops Q (o :: rest) a wr := by
  refine wpList_plain hgd fun K hK => ?_
  obtain ⟨v', w', hrun, h2, h3, h4⟩ := run_append_il (ty := o.type) hown hb hbase hu hlen
  unfold Oper.wp execOp
  simp only [ho, resolve, invoke, builtin, Sem.run_bind, Sem.run_pure, Result.andThen_ok, List.map_toArray, List.map_cons, List.map_nil, hs, hx, hrun]
  exact hK _ _ (h v' w' h2 h3 h4)
def IntsV (l : List Int) : Value → World → Prop := fun v w => IsI w v l
theorem IntsV.lasts {l : List Int} : ∀ v w w', IntsV l v w → Grows w w' → IntsV l v w' := fun _ _ _ h hg => IsI.grow h hg
theorem isI_one (w : World) (z : Int) : IsI (w.alloc (.cells #[.int .i64 z] 2)) (.slice (some ⟨w.heap.size, 0, none⟩) 1 1) [z] := Reads.of_row (Row.at_ w 2 _ (icells [z]) rfl _ rfl) 1 1 rfl (Nat.le_refl _)
def InR (r : List Int) (w : World) (e : Ending) (w' : World) : Prop := ∃ v, e = .returned v ∧ Grows w w' ∧ w'.ownsRow w.heap.size 2 1 v r.length (icells r)
theorem own_ni9 {w : World} {B : Nat} {v : Value} {n : Nat} {xs : List Value} (h : w.ownsRow B 2 1 v n xs) : ∃ A c, v = .slice A n c := by
  rcases h.2 with ⟨h1, h2⟩ | ⟨g, cap, cur, h1, _⟩
  · exact ⟨none, 0, by rw [h1, h2]⟩
  · exact ⟨_, cap, h1⟩
end Go.Proofs.YthmipnokimlbdaaGreat
/-
  Shaken: what the claims of this seat need of this text. No condition.
-/
namespace Go.Proofs.YthmipnokimlbdaaGreat
open Go.RowKit
set_option linter.unusedVariables false
set_option linter.unusedSimpArgs false
end Go.Proofs.YthmipnokimlbdaaGreat
/-
  Shaken: what the claims of this seat need of this text. No condition.
-/
namespace Go.Proofs.YthmipnokimlbdaaGreat
set_option maxRecDepth 20000
open Go.RowKit
set_option linter.unusedVariables false
set_option linter.unusedSimpArgs false
def RestI (w wr : World) (v : Value) (l : List Int) (j : Nat) (u : Value) : Prop := (rstL j l = l ∧ u = v) ∨ wr.ownsRow w.heap.size 2 1 u (rstL j l).length (icells (rstL j l))
theorem RestI.reads {w wr : World} {v u : Value} {l : List Int} {j : Nat} (h : RestI w wr v l j u) (hv : IsI w v l) (hb : Grows w wr) : IsI wr u (rstL j l) := by
  rcases h with ⟨h1, rfl⟩ | h
  · rw [h1]; exact IsI.grow hv hb
  · exact Reads.of_own h
theorem RestI.grow {w wr wr' : World} {v u : Value} {l : List Int} {j : Nat} (h : RestI w wr v l j u) (hb : Grows wr wr') : RestI w wr' v l j u := h.imp id fun h => own_grow h hb
theorem RestI.keep {w wr wr' : World} {v u : Value} {l : List Int} {j : Nat} (h : RestI w wr v l j u) (hk : KeepsRows 5 wr wr') : RestI w wr' v l j u := h.imp id fun h => hk _ _ _ _ _ _ (by decide) h
theorem RestI.of_own {w w1 wr : World} {v u : Value} {l : List Int} {j : Nat} (h : wr.ownsRow w1.heap.size 2 1 u (rstL j l).length (icells (rstL j l))) (hb : Grows w w1) : RestI w wr v l j u := .inr (ownsRow_base h hb.size)
theorem u8_kind {k : Nat} (hk : k ≤ 2) : IntKind.u8.wrap (k : Int) = ((UInt8.ofNat k).toNat : Int) := by
  match k, hk with
  | 0, _ => rfl
  | 1, _ => rfl
  | 2, _ => rfl
theorem take1 {l : List Int} (h : 0 < l.length) : l.take 1 = [l[0]] := by
  cases l with
  | nil => cases h
  | cons x r => rfl
end Go.Proofs.YthmipnokimlbdaaGreat
