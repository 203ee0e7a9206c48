/-
  A slice of int64 that reads as a list; the least value (both), slices.Min, difference, the size of a varint, Same. Nothing that was there is changed.
-/
import Derived.Test.YtjjeebaelpgjlaaRow
import Derived.Test.YtjjeebaelpgjlaaFrNum
import Derived.Test.YtjjeebaelpgjlaaApp
import Derived.Test.YtjjeebaelpgjlaaWidth
import Derived.Lib.MinMax
import Derived.WalkKit
import Derived.Outline
import Derived.OwnWalk
import Derived.Deep.QuietTactic
import Derived.BigQuiet
namespace Go.Proofs.Ytjjeebaelpgjlaa
open Go.RowKit
set_option linter.unusedVariables false
set_option linter.unusedSimpArgs false

/-- v is a slice that reads as the integers of l -/
def IsI (w : World) (v : Value) (l : List Int) : Prop := Reads w v (icells l)
theorem IsI.grow {w w' : World} {v : Value} {l : List Int} (h : IsI w v l) (hb : Grows w w') : IsI w' v l := Reads.grow h hb
theorem IsI.slice_ {w : World} {v : Value} {l : List Int} (h : IsI w v l) : ∃ A c, v = .slice A l.length c := by
  obtain ⟨A, c, h1, h2⟩ := Reads.slice_ h
  rw [icells_length] at h1
  exact ⟨A, c, h1⟩
theorem IsI.at_ {w : World} {A : Option Addr} {c n : Nat} {l : List Int} (h : IsI w (.slice A n c) l) {k : Nat} (hk : k < l.length) : ∃ b f, A = some ⟨b, f, none⟩ ∧ w.cell? ⟨b, f + k, none⟩ = some (.int .i64 l[k]) := by
  obtain ⟨A', c', he, _, hc⟩ := h
  injection he with e1 e2 e3
  subst e1
  obtain ⟨b, f, rfl, hcell⟩ := hc (by rw [icells_length]; omega)
  refine ⟨b, f, rfl, ?_⟩
  rw [hcell k (by rw [icells_length]; exact hk), icells_get hk]
theorem info_i64 : (Try.prog.info? 2).map (fun i => (i.zero, i.size, i.bytes)) = some (some (.int .i64 0), 1, 8) := by kernel_rfl
theorem info_u64 : (Try.prog.info? 50).map (fun i => (i.zero, i.size, i.bytes)) = some (some (.int .u64 0), 1, 8) := by kernel_rfl
theorem retI {k : IntKind} {a b : Int} (h : a = b) : Ending.returned (.int k a) = .returned (.int k b) := by rw [h]
def sameI (a b : List Int) : Bool := decide (a = b)
theorem sameI_self (a : List Int) : sameI a a = true := by unfold sameI; simp
theorem fr_draws {B : Nat} {a w : World} (h : Below B a w) (d : Nat) : Below B a { w with drawn := d } := ⟨h.os, h.tape, h.output, h.size, h.block⟩
def MinRel (l : List Int) (m i : Value) : Prop := ∃ k : Nat, 1 ≤ k ∧ k ≤ l.length ∧ i = .int .i64 (k : Int) ∧ m = .int .i64 (baseV (l.take k))
set_option maxHeartbeats 1000000 in
theorem slicesMin_any (v : Value) (l : List Int) (w : World) (hv : IsI w v l) (h0 : 0 < l.length) (hl : l.length ≤ 9223372036854775806) :
    Calls Try.prog 76 #[v] w fun e w' => e = .returned (.int .i64 (baseV l)) ∧ w = w' := by
  obtain ⟨A, c, rfl⟩ := hv.slice_
  have HV := hidden hv
  obtain ⟨b, f, rfl, hc⟩ := hv.at_ h0
  have hd : decide ((l.length : Int) < 1) = false := by simp; omega
  have HF := hidden (baseV_first h0)
  have H0 := hidden h0
  simp only [Nat.add_zero] at hc
  clear hv
  go_enter Try.func76, Try.ntmps76
  go_wp2_with fail
  go_loop [3, 4] (fun m i => MinRel l m i) (fun _ i => l.length - (intOf i).toNat)
  case atStart => exact ⟨1, by omega, H0.out, rfl, by rw [HF.out]⟩
  case round =>
    obtain ⟨k, hk1, hk, rfl, rfl⟩ := hrel
    by_cases hlt : k < l.length
    · obtain ⟨b', f', he, hck⟩ := HV.out.at_ hlt
      injection he with he
      injection he with e1 e2 e3
      subst e1 e2
      have HT := hidden (baseV_take hlt hk1)
      clear hc hd
      go_wp2_with fail
      go_round
      case rel => exact ⟨k + 1, by omega, by omega, by go_num, by rw [HT.out]⟩
      case measure => simp [intOf]; omega
    · have hke : k = l.length := by omega
      have HT := hidden (show baseV (l.take k) = baseV l by rw [hke, List.take_length])
      clear hc hd hk hke
      go_wp2_with fail
      go_ret
      exact ⟨retI HT.out, rfl⟩
set_option maxHeartbeats 1000000 in
theorem least_any (v : Value) (l : List Int) (w : World) (hv : IsI w v l) (hl : l.length ≤ 9223372036854775806) :
    Calls Try.prog 67 #[v] w fun e w' => e = .returned (.int .i64 (baseV l)) ∧ w = w' := by
  by_cases h0 : 0 < l.length
  · have HM := hidden (slicesMin_any v l w hv h0 hl)
    obtain ⟨A, c, rfl⟩ := hv.slice_
    have hd : ((l.length : Int) == 0) = false := by simp; intro h; subst h; simp at h0
    clear hv h0
    go_enter Try.func67, Try.ntmps67
    go_wp2_with fail
    refine HM.out.mono ?_
    rintro e w' ⟨rfl, rfl⟩
    go_wp2_with fail
    go_ret
    exact ⟨rfl, rfl⟩
  · have hl0 : l = [] := List.eq_nil_of_length_eq_zero (by omega)
    subst hl0
    obtain ⟨A, c, rfl⟩ := hv.slice_
    go_enter Try.func67, Try.ntmps67
    go_wp2_with fail
    go_ret
    exact ⟨rfl, rfl⟩
def LeastRel (l : List Int) (m i : Value) : Prop := ∃ k : Nat, k ≤ l.length ∧ i = .int .i64 (k : Int) ∧ m = .int .i64 (baseV (l.take k))
set_option maxHeartbeats 1000000 in
theorem rleast_any (v : Value) (l : List Int) (w : World) (hv : IsI w v l) (hl : l.length ≤ 9223372036854775806) :
    Calls Try.prog 71 #[v] w fun e w' => e = .returned (.int .i64 (baseV l)) ∧ w = w' := by
  obtain ⟨A, c, rfl⟩ := hv.slice_
  have HV := hidden hv
  clear hv
  go_enter Try.func71, Try.ntmps71
  go_wp2_with fail
  go_loop [3, 4] (fun m i => LeastRel l m i) (fun _ i => l.length - (intOf i).toNat)
  case atStart => exact ⟨0, by omega, rfl, rfl⟩
  case round =>
    obtain ⟨k, hk, rfl, rfl⟩ := hrel
    by_cases hlt : k < l.length
    · obtain ⟨b, f, rfl, hck⟩ := HV.out.at_ hlt
      by_cases hk0 : k = 0
      · subst hk0
        have HT := hidden (baseV_first hlt)
        simp only [Nat.add_zero] at hck
        go_wp2_with fail
        go_round
        case rel => exact ⟨1, by omega, by go_num, by rw [HT.out]⟩
        case measure => simp [intOf]; omega
      · have HT := hidden (baseV_take hlt (by omega))
        have hz : ((k : Int) == 0) = false := by simp; omega
        generalize baseV (l.take k) = m0 at *
        by_cases hm : l[k] < m0
        · have HM := hidden (show min m0 l[k] = l[k] by omega)
          have hd : decide (l[k] < m0) = true := by simpa using hm
          clear hm
          go_wp2_with fail
          go_round
          case rel => exact ⟨k + 1, by omega, by go_num, by rw [HT.out, HM.out]⟩
          case measure => simp [intOf]; omega
        · have HM := hidden (show min m0 l[k] = m0 by omega)
          have hd : decide (l[k] < m0) = false := by simpa using hm
          clear hm
          go_wp2_with fail
          go_round
          case rel => exact ⟨k + 1, by omega, by go_num, by rw [HT.out, HM.out]⟩
          case measure => simp [intOf]; omega
    · have hke : k = l.length := by omega
      have HT := hidden (show baseV (l.take k) = baseV l by rw [hke, List.take_length])
      clear hk hke
      go_wp2_with fail
      go_ret
      exact ⟨retI HT.out, rfl⟩
theorem dif_wrap (x b : Int) : IntKind.u64.wrap (IntKind.u64.wrap x - IntKind.u64.wrap b) = ((difN b x : Nat) : Int) := by
  rw [IntKind.wrap_u64, IntKind.wrap_u64, IntKind.wrap_u64]
  unfold difN
  omega
theorem difference_any (x b : Int) (w : World) : Calls Try.prog 36 #[.int .i64 x, .int .i64 b] w fun e w' => e = .returned (.int .u64 ((difN b x : Nat) : Int)) ∧ w = w' := by
  have HD := hidden (dif_wrap x b)
  go_enter Try.func36, Try.ntmps36
  go_wp2_with fail
  go_ret
  exact ⟨retI HD.out, rfl⟩
theorem sizeOfWidth_any (k : Nat) (w : World) (hk : k ≤ 1000) : Calls Try.prog 77 #[.int .i64 (k : Int)] w fun e w' => e = .returned (.int .i64 ((vsw k : Nat) : Int)) ∧ w = w' := by
  have HE := hidden (show max 1 (((k : Int) + 7 - 1) / 7) = ((vsw k : Nat) : Int) by unfold vsw; omega)
  go_enter Try.func77, Try.ntmps77
  go_wp2_with fail
  go_ret
  refine ⟨retI ?_, rfl⟩
  rw [← HE.out]
theorem varintSize_any (n : Nat) (w : World) (hn : n < 18446744073709551616) : Calls Try.prog 69 #[.int .u64 (n : Int)] w fun e w' => e = .returned (.int .i64 ((esz n : Nat) : Int)) ∧ w = w' := by
  have HB := hidden (bitWidth_any (n : Int) w (by omega) (by omega))
  have HS := hidden (sizeOfWidth_any (Lib.bitLen n) w (by have := bitLen_bd hn; omega))
  rw [Int.toNat_natCast] at HB
  have HE := hidden (esz_vsw n)
  go_enter Try.func69, Try.ntmps69
  go_wp2_with fail
  refine HB.out.mono ?_
  rintro e w' ⟨rfl, rfl⟩
  go_wp2_with fail
  refine HS.out.mono ?_
  rintro e w' ⟨rfl, rfl⟩
  go_wp2_with fail
  go_ret
  exact ⟨retI (by rw [HE.out]), rfl⟩
def SameIRel (w : World) (la lb : List Int) (k : Value) (wr : World) : Prop := ∃ j : Nat, j ≤ la.length ∧ k = .int .i64 (j : Int) ∧ la.take j = lb.take j ∧ Below w.heap.size w wr
/-! Two rows of different types, one of which is appended to -/
theorem row_keeps {wr w' : World} {b g n sz : Nat} {e E : TypeId} {v : Value} {xs ys : List Value} (hown : wr.ownsRow b e sz v n xs) (hg : wr.grownBy w' v.ownBlock) (hr : Row wr g E ys) (hne : E ≠ e) : Row w' g E ys := by
  refine (hg.block g hr.lt ?_).trans hr
  intro he
  rcases hown.2 with ⟨rfl, _⟩ | ⟨g', cap, cur, rfl, _, h1, _⟩
  · cases he
  · simp only [Value.ownBlock, Option.some.injEq] at he
    subst he
    unfold Row at hr
    rw [h1] at hr
    injection hr with hr
    injection hr with _ h2 _
    exact hne h2.symm
theorem KeepsRows.row {e : TypeId} {w w' : World} (h : KeepsRows e w w') {g : Nat} {E : TypeId} {ys : List Value} (hne : E ≠ e) (hl : ys.length ≤ maxLen) (hr : Row w g E ys) : Row w' g E ys := by
  have h1 := h 0 E 1 _ _ _ hne (hr.own (base := 0) (Nat.zero_le _) hl)
  rcases h1.2 with ⟨h2, _⟩ | ⟨g', cap, cur, he, _, h3, _, _, h4, h5⟩
  · cases h2
  · injection he with e1 e2 e3
    injection e1 with e1
    injection e1 with e1 _ _
    subst e1
    subst e3
    unfold Row
    rw [h3]
    have : cur = ys.toArray := by
      apply Array.ext'
      rw [← h5, List.take_of_length_le]
      rw [Array.length_toList, h4]
      omega
    rw [this]
theorem own_grow {w w' : World} {b : Nat} {e : TypeId} {sz : Nat} {v : Value} {n : Nat} {xs : List Value} (h : w.ownsRow b e sz v n xs) (hb : Grows w w') : w'.ownsRow b e sz v n xs := by
  refine ⟨h.1, ?_⟩
  rcases h.2 with h2 | ⟨g, cap, cur, h1, h2, h3, h4⟩
  · exact .inl h2
  · refine .inr ⟨g, cap, cur, h1, h2, ?_, h4⟩
    rw [← h3]
    refine hb.block g ?_
    rcases Nat.lt_or_ge g w.heap.size with hlt | hge
    · exact hlt
    · rw [Array.getElem?_eq_none hge] at h3; cases h3
theorem wpList_append_ik {wr : World} {ops : Array Oper} {rest : List Oper} {o : Oper} {a : Act} {Q : Exit → Act → World → Prop} (hgd : o.guard = none) (s x : Operand)
    (ho : o.op = .call { callee := .builtin .append, args := #[s, x], argTypes := #[22, 22] })
    (v : Value) (pre : List Int) (hs : a.eval s = v) (base : Nat) (hown : wr.ownsRow base 2 1 v pre.length (icells pre)) (w0 : World) (hb : Below base w0 wr) (hbase : base ≤ wr.heap.size)
    (z : Int) (hx : a.eval x = .slice (some ⟨wr.heap.size, 0, none⟩) 1 1) (hlen : pre.length + 1 ≤ 17592186044416)
    (h : ∀ v' w', w'.ownsRow base 2 1 v' (pre ++ [z]).length (icells (pre ++ [z])) → Below base w0 w' → KeepsRows 2 wr w' → wpList Try.prog ops Q rest (a.put o.dst v') w') :
    wpList Try.prog ops Q (o :: rest) a (wr.alloc (.cells #[.int .i64 z] 2)) := by
  obtain ⟨i0, hi, hz0, hz1, hz2⟩ := info_parts info_i64
  refine wpList_append_own _ hgd s x 22 ho base 2 i0 (.int .i64 0) 1 8 Try.underlying22 hi hz0 hz1 hz2 rfl (by decide) v pre.length (icells pre) hs (hown.alloc _) ⟨wr.heap.size, 0, none⟩ 1 1 [.int .i64 z] hx rfl ?_ ?_ ?_ ?_ ?_ ?_
  · intro j u hj
    match j, hj with
    | 0, hj => simp at hj; subst hj; simp [Addr.add]
  · intro u hu; simp at hu; subst hu; rfl
  · unfold maxLen; omega
  · omega
  · simp; omega
  · intro v' w' h1 h2 _
    rw [← icells_snoc, show pre.length + 1 = (pre ++ [z]).length by simp] at h1
    exact h v' w' h1 ((hb.alloc hbase _).grown h2 (by simp; omega) (fun k hk => (hown.lt k hk).1)) (fun b e' s y n xs he hy => (hy.alloc _).kept h2 (ownsRow_ne hy hown he))
end Go.Proofs.Ytjjeebaelpgjlaa
