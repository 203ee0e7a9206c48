/-
  The walk of the law FrontcodeCanonical: it returns true for all bytes, numbers and lists; nothing that was there is changed.
-/
import Derived.Test.YtcpdgkjelghlnaaFcB
import Derived.Test.YtcpdgkjelghlnaaFc8
namespace Go.Proofs.Ytcpdgkjelghlnaa
open Go.RowKit
set_option linter.unusedVariables false
set_option linter.unusedSimpArgs false

theorem oneCell_scells (l : List Str) : ∀ u ∈ scells l, u.oneCell' = true := by
  intro u hu
  simp only [scells, List.mem_map] at hu
  obtain ⟨s, _, rfl⟩ := hu
  rfl
theorem scells_append (a b : List Str) : scells (a ++ b) = scells a ++ scells b := by simp [scells]
theorem run_append_strs {w wr : World} {ty : TypeId} {v : Value} {pre : List Str} (hown : wr.ownsRow w.heap.size 9 1 v pre.length (scells pre)) (hb : Below w.heap.size w wr) {u : Value} {l : List Str} (hu : IsS wr u l)
    (hlen : pre.length + l.length ≤ 1000000) :
    ∃ v' w', (Builtin.append_ #[22, 22] ty #[v, u]).run Try.prog wr = .ok v' w' ∧ w'.ownsRow w.heap.size 9 1 v' (pre ++ l).length (scells (pre ++ l)) ∧ Below w.heap.size w w' := by
  obtain ⟨i0, hi, hz0, hz1, hz2⟩ := info_parts info_str
  obtain ⟨A, c, rfl, hle, hc⟩ := hu
  rw [scells_length] at hle hc ⊢
  cases A with
  | none =>
    have hl : l = [] := by
      cases l with
      | nil => rfl
      | cons x r => obtain ⟨b, off, h, _⟩ := hc (by simp); cases h
    subst hl
    exact ⟨v, wr, run_append_nothing Try.underlying22 hi hown c, by simpa using hown, hb⟩
  | some ad =>
    have hcells : ∀ j x, (scells l)[j]? = some x → wr.cell? (ad.add j) = some x := by
      intro j x hx
      have hj : j < l.length := by
        rcases Nat.lt_or_ge j l.length with h | h
        · exact h
        · rw [List.getElem?_eq_none (by rw [scells_length]; exact h)] at hx; cases hx
      obtain ⟨b, off, h, hcell⟩ := hc (by omega)
      injection h with h
      subst h
      rw [Addr.add_lit, hcell j hj]
      exact hx
    obtain ⟨v', w', h1, h2, h3, _⟩ := run_append_own (P := Try.prog) wr w.heap.size 22 ty 9 i0 (.string ⟨#[]⟩) 1 16 Try.underlying22 hi hz0 hz1 hz2 rfl (by decide) v pre.length (scells pre) hown ad l.length c (scells l)
      (by rw [scells_length]; omega) hcells (oneCell_scells l) (by unfold maxLen; omega) (by omega) hb.size
    refine ⟨v', w', h1, ?_, hb.grown h3 hb.size (fun k hk => (hown.lt k hk).1)⟩
    rw [scells_append, List.length_append]; exact h2
theorem wpList_append_strs {w wr : World} {ops : Array Oper} {rest : List Oper} {o : Oper} {a : Act} {Q : Exit → Act → World → Prop} (hgd : o.guard = none) (s x : Operand)
    (ho : o.op = .call { callee := .builtin .append, args := #[s, x], argTypes := #[22, 22] })
    (v : Value) (pre : List Str) (hs : a.eval s = v) (hown : wr.ownsRow w.heap.size 9 1 v pre.length (scells pre)) (hb : Below w.heap.size w wr)
    (u : Value) (l : List Str) (hx : a.eval x = u) (hu : IsS wr u l) (hlen : pre.length + l.length ≤ 1000000)
    (h : ∀ v' w', w'.ownsRow w.heap.size 9 1 v' (pre ++ l).length (scells (pre ++ l)) → Below w.heap.size w w' → wpList Try.prog ops Q rest (a.put o.dst v') w') :
    wpList Try.prog ops Q (o :: rest) a wr := by
  refine wpList_plain hgd fun K hK => ?_
  obtain ⟨v', w', hrun, h2, h3⟩ := run_append_strs (ty := o.type) hown hb hu hlen
  unfold Oper.wp execOp
  simp only [ho, resolve, invoke, builtin, Sem.run_bind, Sem.run_pure, Result.andThen_ok, List.map_toArray, List.map_cons, List.map_nil, hs, hx, hrun]
  exact hK _ _ (h v' w' h2 h3)
theorem add_zero_opt (A : Option Addr) : Option.map (fun x : Addr => x.add 0) A = A := by
  cases A with
  | none => rfl
  | some a => cases a; simp [Addr.add]
theorem cut0_run (t : TypeId) (ht : Try.prog.underlying t = some (.slice (Try.prog.elem t))) (hi : (Try.prog.info? (Try.prog.elem t)).map (·.size) = some 1) (A : Option Addr) (n c K : Nat) (hK : K ≤ c) (W : World) :
    (Instr.sliceAt t (.slice A n c) none (some (.int .i64 (K : Int))) none).run Try.prog W = .ok (.slice A K c) W := by
  have hs1 : (sizeOf (Try.prog.elem t)).run Try.prog W = .ok 1 W := by
    cases h : Try.prog.info? (Try.prog.elem t) with
    | none => rw [h] at hi; cases hi
    | some y =>
      rw [h] at hi
      have h1 : y.size = 1 := by simpa using hi
      simp [sizeOf, typeInfo, h, h1]
  rw [run_sliceAt_slice (P := Try.prog) (w := W) t _ _ _ none ht, run_slice_h (P := Try.prog) (w := W) t A n c ht .i64 (K : Int) (by omega) (by omega), hs1]
  simp only [Result.andThen_ok, sliced, Int.toNat_natCast, Nat.sub_zero, Nat.zero_mul, add_zero_opt, ite_self]
theorem IsBytes.upTo {w : World} {A : Option Addr} {n c : Nat} {b : List UInt8} (h : IsBytes w (.slice A n c) b) {k : Nat} (hk : k ≤ b.length) : IsBytes w (.slice A k c) (b.take k) := by
  obtain ⟨A', c', he, hc⟩ := h
  injection he with e1 e2 e3
  subst e1
  refine ⟨_, _, by rw [List.length_take, Nat.min_eq_left hk], fun h0 => ?_⟩
  rw [List.length_take] at h0
  obtain ⟨b2, f2, rfl, hcell⟩ := hc (by omega)
  refine ⟨b2, f2, rfl, fun j hj => ?_⟩
  rw [List.length_take] at hj
  rw [hcell j (by omega), List.getElem_take]
theorem IsS.upTo {w : World} {A : Option Addr} {n c : Nat} {l : List Str} (h : IsS w (.slice A n c) l) {k : Nat} (hk : k ≤ l.length) : IsS w (.slice A k c) (l.take k) ∧ k ≤ c := by
  obtain ⟨A', c', he, hle, hc⟩ := h
  injection he with e1 e2 e3
  subst e1 e3
  rw [scells_length] at hle hc
  refine ⟨⟨_, _, by rw [scells_length, List.length_take, Nat.min_eq_left hk], by rw [scells_length, List.length_take]; omega, fun h0 => ?_⟩, by omega⟩
  rw [scells_length, List.length_take] at h0
  obtain ⟨b2, f2, rfl, hcell⟩ := hc (by omega)
  refine ⟨b2, f2, rfl, fun j hj => ?_⟩
  rw [scells_length, List.length_take] at hj
  rw [hcell j (by omega)]
  simp only [scells, List.getElem?_map, List.getElem?_take_of_lt (show j < k by omega)]
theorem fcEnc_lenC {l : List Str} (h : l.length ≤ 100) (hs : ∀ s ∈ l, s.length ≤ 100) : (fcEnc l).length ≤ 12000 := by
  have h1 := encK_len (M := 100) hs (by omega) l.length
  have h2 : (100 + 20) * l.length ≤ 120 * 100 := Nat.mul_le_mul_left _ h
  unfold fcEnc
  omega
set_option maxRecDepth 20000 in
set_option maxHeartbeats 16000000 in
theorem law_canonical11 (A : Option Addr) (c : Nat) (b : List UInt8) (n : Nat) (v1 v2 : Value) (ft sn : List Str) (w : World) (hv : IsBytes w (.slice A b.length c) b) (hlc : b.length ≤ c) (hlm : b.length ≤ 140737488351232) (hn : n < 256)
    (h1 : IsS w v1 ft) (h2 : IsS w v2 sn) (hl1 : ft.length ≤ 9223372036854775806) (hl2 : sn.length ≤ 9223372036854775806) :
    Calls Try.prog 7 #[.slice A b.length c, .int .u8 (n : Int), v1, v2] w fun e w' => e = .returned (.bool true) ∧ Below w.heap.size w w' := by
  have HSM1 := hidden (small11_any v1 ft w h1 hl1)
  have HSM2 := hidden (small11_any v2 sn w h2 hl2)
  by_cases hbb : 1000 < b.length
  · have hd1 : decide ((1000 : Int) < (b.length : Int)) = true := by simp; omega
    clear hv h1 h2
    go_enter Try.func7, Try.ntmps7
    go_wp2_with fail
    refine (awake11_any _).mono ?_
    rintro e w2 ⟨rfl, g2⟩
    go_wp2_with fail
    go_ret
    exact ⟨rfl, g2⟩
  have hd1 : decide ((1000 : Int) < (b.length : Int)) = false := by simp; omega
  by_cases hs1 : smallB ft = true
  rotate_left
  · have hs2 : smallB ft = false := by simpa using hs1
    rw [hs2] at HSM1
    clear hv h1 h2 hs1 hs2
    go_enter Try.func7, Try.ntmps7
    go_wp2_with fail
    refine HSM1.out.mono ?_
    rintro e w1 ⟨rfl, rfl⟩
    go_wp2_with fail
    refine (awake11_any _).mono ?_
    rintro e w2 ⟨rfl, g2⟩
    go_wp2_with fail
    go_ret
    exact ⟨rfl, g2⟩
  rw [hs1] at HSM1
  by_cases hs2 : smallB sn = true
  rotate_left
  · have hs3 : smallB sn = false := by simpa using hs2
    rw [hs3] at HSM2
    clear hv h1 h2 hs1 hs2 hs3
    go_enter Try.func7, Try.ntmps7
    go_wp2_with fail
    refine HSM1.out.mono ?_
    rintro e w1 ⟨rfl, rfl⟩
    go_wp2_with fail
    refine HSM2.out.mono ?_
    rintro e w1 ⟨rfl, rfl⟩
    go_wp2_with fail
    refine (awake11_any _).mono ?_
    rintro e w2 ⟨rfl, g2⟩
    go_wp2_with fail
    go_ret
    exact ⟨rfl, g2⟩
  rw [hs2] at HSM2
  obtain ⟨hf1, hf2⟩ := small_parts hs1
  obtain ⟨hg1, hg2⟩ := small_parts hs2
  have HV := hidden hv
  have HS := hidden h2
  have HPD := hidden (fdecode_any A c b 0 (n : Int) w hv hlc (by omega))
  have HAC := hidden (fcDec_acc (b := b) (n := n))
  obtain ⟨A1, c1, rfl⟩ := h1.slice_
  obtain ⟨A2, c2, rfl⟩ := h2.slice_
  obtain ⟨d, hd⟩ : ∃ d, d = ft.length / 16 := ⟨_, rfl⟩
  obtain ⟨K, hK⟩ : ∃ K, K = d * 16 := ⟨_, rfl⟩
  have hKl : K ≤ ft.length := by omega
  have HK16 := hidden (show (ft.take K).length % 16 = 0 by rw [List.length_take, Nat.min_eq_left hKl]; omega)
  have hq1 : (ft.length : Int) / 16 = (d : Int) := by omega
  have hq2 : (ft.length : Int).tdiv 16 = (d : Int) := by rw [Int.tdiv_eq_ediv_of_nonneg (by omega)]; omega
  have hq3 : (d : Int) * 16 = (K : Int) := by omega
  obtain ⟨hup, hKc⟩ := h1.upTo hKl
  have HF := hidden hup
  have HAS := hidden (show ∀ s ∈ ft.take K ++ sn, s.length ≤ 1000000 from fun s hs => by
    rcases List.mem_append.1 hs with h | h
    · have := hf1 s (List.mem_of_mem_take h); omega
    · have := hg1 s h; omega)
  have HEF := hidden (fun W (h : Grows w W) => fencode_any (.slice A1 K c1) (ft.take K) W (HF.out.grow h) (by rw [List.length_take]; omega) (fun s hs => HAS.out s (List.mem_append_left _ hs)))
  have HES := hidden (fun W (h : Grows w W) => fencode_any (.slice A2 sn.length c2) sn W (HS.out.grow h) (by omega) (fun s hs => HAS.out s (List.mem_append_right _ hs)))
  have HEX := hidden (fcEnc_append (l := ft.take K) (r := sn) HK16.out)
  have HEFL := hidden (fcEnc_lenC (l := ft.take K) (by rw [List.length_take]; omega) (fun s hs => hf1 s (List.mem_of_mem_take hs)))
  have HESL := hidden (fcEnc_lenC (l := sn) hg2 hg1)
  generalize fcEnc (ft.take K) = EF at *
  generalize fcEnc sn = ES at *
  have hsl1 := fun W => cut0_run 22 (by kernel_rfl) (by kernel_rfl) A1 ft.length c1 K hKc W
  have hKm : K ≤ 100 := by omega
  have hdm : d ≤ 100 := by omega
  have hbl : b.length ≤ 1000 := by omega
  obtain ⟨R, hR⟩ : ∃ R, R = fcDec b 0 (n : Int) := ⟨_, rfl⟩
  rw [← hR] at HPD HAC
  have HLC := hidden hlc
  clear hv h1 h2 hs1 hs2 hf1 hg1 hbb hup hR hd hK hlc
  go_enter Try.func7, Try.ntmps7
  go_wp2_with fail
  refine HSM1.out.mono ?_
  rintro e w1 ⟨rfl, rfl⟩
  go_wp2_with fail
  refine HSM2.out.mono ?_
  rintro e w1 ⟨rfl, rfl⟩
  clear hd1
  go_wp2_with fail
  refine HPD.out.mono ?_
  rintro e w3 ⟨v3, rfl, g3, hS3⟩
  have HG3 := hidden g3
  have HS3 := hidden hS3
  obtain ⟨r1, r2, f⟩ := R
  simp only [] at HS3 HAC
  clear g3 hS3
  by_cases hf0 : f = 0
  · obtain ⟨k, hr2, hk, hrl, hrs, hre⟩ := HAC.out hf0
    subst hf0 hr2
    have HEO := hidden (fun W (h : Grows w3 W) => fencode_any v3 r1 W (HS3.out.grow h) (by omega) (fun s hs => by have := hrs s hs; omega))
    rw [hre] at HEO
    have HKB := hidden hk
    have hd2 : decide (b.length < k) = false := by simp; omega
    have hkm : k ≤ 1000 := by omega
    have hsl2 := fun W => cut0_run 26 (by kernel_rfl) (by kernel_rfl) A b.length c k (Nat.le_trans hk HLC.out) W
    obtain ⟨G, hG⟩ : ∃ G, G = b.take k := ⟨_, rfl⟩
    rw [← hG] at HEO
    have HSG := hidden (show ((strOf G).toList != (strOf G).toList) = false by simp)
    have HGE := hidden hG
    clear hrl hrs hre hk hG HAC
    go_wp2_with fail
    refine wp_region_loose (tabRs [(13, BytesV G)]) (by kernel_rfl) (by kernel_rfl) (tabRs_cons BytesV.lasts tabRs_nil) ?_
    iterate 13 ((with_reducible refine loose_one (v := ?_) (a' := ?_) ?_ ?_ (fun w' hC' hG' => ?_) ?_ ?_); rotate_left 2; (focus rfl); (focus rfl); (focus (have hse := HSG.out; clear hC' hG'; go_simp; rfl)); (focus (go_simp; rfl)))
    refine loose_call (R := BytesV G) (f := 12) (args := #[v3]) (by rfl) (by rfl) (fun _ => by go_simp) (fun w' hC' hG' => made_loose (HEO.out w' hC')) ?_
    intro v4 _
    refine ⟨?_, ?_, ?_⟩
    rotate_left
    · go_simp
      rfl
    refine loose_one (v := ?_) (a' := ?_) (by rfl) (by rfl) (fun w' hC' hG' => ?_) ?_ ?_
    rotate_left 2
    · have hr := run_string_bytes (P := Try.prog) ((show IsBytes w' _ G from (hG' 13 (by kernel_rfl)).2 rfl)) 26 5 Try.underlying26 Try.underlying5 9 Try.underlying9
      clear hC' hG'
      go_simp
      rfl
    · go_simp
      rfl
    iterate 3 ((with_reducible refine loose_one (v := ?_) (a' := ?_) ?_ ?_ (fun w' hC' hG' => ?_) ?_ ?_); rotate_left 2; (focus rfl); (focus rfl); (focus (have hse := HSG.out; clear hC' hG'; go_simp; rfl)); (focus (go_simp; rfl)))
    refine loose_one (v := ?_) (a' := ?_) (by rfl) (by rfl) (fun w' hC' hG' => ?_) ?_ ?_
    rotate_left 2
    · have hr := run_string_bytes (P := Try.prog) ((show IsBytes w' _ G from by rw [HGE.out]; exact (HV.out.grow (HG3.out.of_below hC')).upTo HKB.out)) 26 5 Try.underlying26 Try.underlying5 9 Try.underlying9
      clear hC' hG'
      go_simp
      rfl
    · go_simp
      rfl
    iterate 3 ((with_reducible refine loose_one (v := ?_) (a' := ?_) ?_ ?_ (fun w' hC' hG' => ?_) ?_ ?_); rotate_left 2; (focus rfl); (focus rfl); (focus (have hse := HSG.out; clear hC' hG'; go_simp; rfl)); (focus (go_simp; rfl)))
    refine loose_done (fun w5 hC' hG' => ?_)
    clear hsl2 hd2
    have HG5 := hidden (HG3.out.of_below hC')
    clear hG' hC'
    have HN0 := hidden (show w5.ownsRow w5.heap.size 9 1 (.slice none 0 0) ([] : List Str).length (scells []) from World.ownsRow_nil _ _ _ _)
    have HF5 := hidden (HF.out.grow HG5.out)
    have tok1 : True := trivial
    go_wp2_with (first
      | (at_builtin; have _t := tok1; refine wpList_append_strs (w := w5) (wr := w5) rfl _ _ rfl _ [] (by rfl) HN0.out (Below.refl _ _) _ (ft.take K) (by rfl) HF5.out (by simp only [List.length_take, List.length_nil]; omega) ?_; intro v6 w6 hown6 hb6; rw [List.nil_append] at hown6; have HO6 := hidden hown6; have HB6 := hidden hb6; have HS6 := hidden (HS.out.grow (HG5.out.of_below (show Grows w5 w6 from hb6))); clear hown6 hb6 tok1)
      | (at_builtin; refine wpList_append_strs (w := w5) (wr := w6) rfl _ _ rfl _ (ft.take K) (by rfl) HO6.out HB6.out _ sn (by rfl) HS6.out (by simp only [List.length_take]; omega) ?_; intro v7 w7 hown7 hb7; have HI7 := hidden (show IsS w7 v7 (ft.take K ++ sn) from Reads.of_own hown7); have HG7 := hidden (HG5.out.of_below (show Grows w5 w7 from hb7)); clear hown7 hb7))
    have HEA := hidden (fun W (h : Grows w7 W) => fencode_any v7 (ft.take K ++ sn) W (HI7.out.grow h) (by simp only [List.length_append, List.length_take]; omega) HAS.out)
    rw [HEX.out] at HEA
    obtain ⟨EA, hEA⟩ : ∃ EA, EA = EF ++ ES := ⟨_, rfl⟩
    rw [← hEA] at HEA
    have HSE := hidden (show ((strOf EA).toList == (strOf EF ++ strOf ES).toList) = true by rw [strOf_append, hEA]; simp)
    have hcat : ¬ 9223372036854775807 < (strOf EF).size + (strOf ES).size := by
      have heF := HEFL.out
      have heS := HESL.out
      have htF : (strOf EF).size = EF.length := rfl
      have htS : (strOf ES).size = ES.length := rfl
      omega
    clear hEA
    refine wp_region_loose (tabRs [(1, BytesV EA), (6, BytesV EF), (9, BytesV ES), (14, ConstV (.bool true))]) (by kernel_rfl) (by kernel_rfl) (tabRs_cons BytesV.lasts (tabRs_cons BytesV.lasts (tabRs_cons BytesV.lasts (tabRs_cons ConstV.lasts tabRs_nil)))) ?_
    iterate 1 ((with_reducible refine loose_one (v := ?_) (a' := ?_) ?_ ?_ (fun w' hC' hG' => ?_) ?_ ?_); rotate_left 2; (focus rfl); (focus rfl); (focus (have hse := HSE.out; clear hC' hG'; go_simp; rfl)); (focus (go_simp; rfl)))
    refine loose_call (R := BytesV EA) (f := 12) (args := #[v7]) (by rfl) (by rfl) (fun _ => by go_simp) (fun w' hC' hG' => made_loose (HEA.out w' hC')) ?_
    intro y1 _
    refine ⟨?_, ?_, ?_⟩
    rotate_left
    · go_simp
      rfl
    refine loose_one (v := ?_) (a' := ?_) (by rfl) (by rfl) (fun w' hC' hG' => ?_) ?_ ?_
    rotate_left 2
    · have hr := run_string_bytes (P := Try.prog) ((show IsBytes w' _ EA from (hG' 1 (by kernel_rfl)).2 rfl)) 26 5 Try.underlying26 Try.underlying5 9 Try.underlying9
      clear hC' hG'
      go_simp
      rfl
    · go_simp
      rfl
    iterate 3 ((with_reducible refine loose_one (v := ?_) (a' := ?_) ?_ ?_ (fun w' hC' hG' => ?_) ?_ ?_); rotate_left 2; (focus rfl); (focus rfl); (focus (have hse := HSE.out; clear hC' hG'; go_simp; rfl)); (focus (go_simp; rfl)))
    refine loose_call (R := BytesV EF) (f := 12) (args := #[.slice A1 K c1]) (by rfl) (by rfl) (fun _ => by go_simp) (fun w' hC' hG' => made_loose (HEF.out w' (HG7.out.of_below hC'))) ?_
    intro y2 _
    refine ⟨?_, ?_, ?_⟩
    rotate_left
    · go_simp
      rfl
    refine loose_one (v := ?_) (a' := ?_) (by rfl) (by rfl) (fun w' hC' hG' => ?_) ?_ ?_
    rotate_left 2
    · have hr := run_string_bytes (P := Try.prog) ((show IsBytes w' _ EF from (hG' 6 (by kernel_rfl)).2 rfl)) 26 5 Try.underlying26 Try.underlying5 9 Try.underlying9
      clear hC' hG'
      go_simp
      rfl
    · go_simp
      rfl
    iterate 1 ((with_reducible refine loose_one (v := ?_) (a' := ?_) ?_ ?_ (fun w' hC' hG' => ?_) ?_ ?_); rotate_left 2; (focus rfl); (focus rfl); (focus (have hse := HSE.out; clear hC' hG'; go_simp; rfl)); (focus (go_simp; rfl)))
    refine loose_call (R := BytesV ES) (f := 12) (args := #[.slice A2 sn.length c2]) (by rfl) (by rfl) (fun _ => by go_simp) (fun w' hC' hG' => made_loose (HES.out w' (HG7.out.of_below hC'))) ?_
    intro y3 _
    refine ⟨?_, ?_, ?_⟩
    rotate_left
    · go_simp
      rfl
    refine loose_one (v := ?_) (a' := ?_) (by rfl) (by rfl) (fun w' hC' hG' => ?_) ?_ ?_
    rotate_left 2
    · have hr := run_string_bytes (P := Try.prog) ((show IsBytes w' _ ES from (hG' 9 (by kernel_rfl)).2 rfl)) 26 5 Try.underlying26 Try.underlying5 9 Try.underlying9
      clear hC' hG'
      go_simp
      rfl
    · go_simp
      rfl
    iterate 3 ((with_reducible refine loose_one (v := ?_) (a' := ?_) ?_ ?_ (fun w' hC' hG' => ?_) ?_ ?_); rotate_left 2; (focus rfl); (focus rfl); (focus (have hse := HSE.out; clear hC' hG'; go_simp; rfl)); (focus (go_simp; rfl)))
    refine loose_call (R := ConstV (.bool true)) (f := 9) (args := #[]) (by rfl) (by rfl) (fun _ => by go_simp) (fun w' hC' hG' => const_loose (awake11_any w')) ?_
    rintro _ ⟨_, _, rfl⟩
    refine ⟨?_, ?_, ?_⟩
    rotate_left
    · go_simp
      rfl
    iterate 2 ((with_reducible refine loose_one (v := ?_) (a' := ?_) ?_ ?_ (fun w' hC' hG' => ?_) ?_ ?_); rotate_left 2; (focus rfl); (focus rfl); (focus (have hse := HSE.out; clear hC' hG'; go_simp; rfl)); (focus (go_simp; rfl)))
    refine loose_done (fun w8 hC' hG' => ?_)
    have HG8 := hidden (HG7.out.of_below hC')
    clear hG' hC'
    go_wp2_with fail
    go_ret
    exact ⟨rfl, HG8.out⟩
  · have hne : (f == 0) = false := by simpa using hf0
    clear HAC
    go_wp2_with fail
    refine wp_region_loose (tabRs []) (by kernel_rfl) (by kernel_rfl) tabRs_nil ?_
    iterate 3 ((with_reducible refine loose_one (v := ?_) (a' := ?_) ?_ ?_ (fun w' hC' hG' => ?_) ?_ ?_); rotate_left 2; (focus rfl); (focus rfl); (focus (clear hC' hG'; go_simp; rfl)); (focus (go_simp; rfl)))
    iterate 1 ((with_reducible refine loose_skip (a' := ?_) ?_ ?_ ?_); rotate_left 1; (focus rfl); (focus (go_simp; rfl)))
    iterate 1 ((with_reducible refine loose_skip (a' := ?_) ?_ ?_ ?_); rotate_left 1; (focus rfl); (focus (go_simp; rfl)))
    iterate 1 ((with_reducible refine loose_skip (a' := ?_) ?_ ?_ ?_); rotate_left 1; (focus rfl); (focus (go_simp; rfl)))
    iterate 1 ((with_reducible refine loose_skip (a' := ?_) ?_ ?_ ?_); rotate_left 1; (focus rfl); (focus (go_simp; rfl)))
    iterate 1 ((with_reducible refine loose_skip (a' := ?_) ?_ ?_ ?_); rotate_left 1; (focus rfl); (focus (go_simp; rfl)))
    iterate 1 ((with_reducible refine loose_skip (a' := ?_) ?_ ?_ ?_); rotate_left 1; (focus rfl); (focus (go_simp; rfl)))
    iterate 1 ((with_reducible refine loose_skip (a' := ?_) ?_ ?_ ?_); rotate_left 1; (focus rfl); (focus (go_simp; rfl)))
    iterate 1 ((with_reducible refine loose_skip (a' := ?_) ?_ ?_ ?_); rotate_left 1; (focus rfl); (focus (go_simp; rfl)))
    iterate 1 ((with_reducible refine loose_skip (a' := ?_) ?_ ?_ ?_); rotate_left 1; (focus rfl); (focus (go_simp; rfl)))
    iterate 1 ((with_reducible refine loose_skip (a' := ?_) ?_ ?_ ?_); rotate_left 1; (focus rfl); (focus (go_simp; rfl)))
    iterate 1 ((with_reducible refine loose_skip (a' := ?_) ?_ ?_ ?_); rotate_left 1; (focus rfl); (focus (go_simp; rfl)))
    iterate 1 ((with_reducible refine loose_skip (a' := ?_) ?_ ?_ ?_); rotate_left 1; (focus rfl); (focus (go_simp; rfl)))
    iterate 1 ((with_reducible refine loose_skip (a' := ?_) ?_ ?_ ?_); rotate_left 1; (focus rfl); (focus (go_simp; rfl)))
    iterate 1 ((with_reducible refine loose_skip (a' := ?_) ?_ ?_ ?_); rotate_left 1; (focus rfl); (focus (go_simp; rfl)))
    iterate 1 ((with_reducible refine loose_skip (a' := ?_) ?_ ?_ ?_); rotate_left 1; (focus rfl); (focus (go_simp; rfl)))
    iterate 1 ((with_reducible refine loose_skip (a' := ?_) ?_ ?_ ?_); rotate_left 1; (focus rfl); (focus (go_simp; rfl)))
    iterate 1 ((with_reducible refine loose_skip (a' := ?_) ?_ ?_ ?_); rotate_left 1; (focus rfl); (focus (go_simp; rfl)))
    iterate 1 ((with_reducible refine loose_skip (a' := ?_) ?_ ?_ ?_); rotate_left 1; (focus rfl); (focus (go_simp; rfl)))
    iterate 1 ((with_reducible refine loose_one (v := ?_) (a' := ?_) ?_ ?_ (fun w' hC' hG' => ?_) ?_ ?_); rotate_left 2; (focus rfl); (focus rfl); (focus (clear hC' hG'; go_simp; rfl)); (focus (go_simp; rfl)))
    refine loose_done (fun w5 hC' hG' => ?_)
    have HG5 := hidden (HG3.out.of_below hC')
    clear hG' hC'
    have HN0 := hidden (show w5.ownsRow w5.heap.size 9 1 (.slice none 0 0) ([] : List Str).length (scells []) from World.ownsRow_nil _ _ _ _)
    have HF5 := hidden (HF.out.grow HG5.out)
    have tok1 : True := trivial
    go_wp2_with (first
      | (at_builtin; have _t := tok1; refine wpList_append_strs (w := w5) (wr := w5) rfl _ _ rfl _ [] (by rfl) HN0.out (Below.refl _ _) _ (ft.take K) (by rfl) HF5.out (by simp only [List.length_take, List.length_nil]; omega) ?_; intro v6 w6 hown6 hb6; rw [List.nil_append] at hown6; have HO6 := hidden hown6; have HB6 := hidden hb6; have HS6 := hidden (HS.out.grow (HG5.out.of_below (show Grows w5 w6 from hb6))); clear hown6 hb6 tok1)
      | (at_builtin; refine wpList_append_strs (w := w5) (wr := w6) rfl _ _ rfl _ (ft.take K) (by rfl) HO6.out HB6.out _ sn (by rfl) HS6.out (by simp only [List.length_take]; omega) ?_; intro v7 w7 hown7 hb7; have HI7 := hidden (show IsS w7 v7 (ft.take K ++ sn) from Reads.of_own hown7); have HG7 := hidden (HG5.out.of_below (show Grows w5 w7 from hb7)); clear hown7 hb7))
    have HEA := hidden (fun W (h : Grows w7 W) => fencode_any v7 (ft.take K ++ sn) W (HI7.out.grow h) (by simp only [List.length_append, List.length_take]; omega) HAS.out)
    rw [HEX.out] at HEA
    obtain ⟨EA, hEA⟩ : ∃ EA, EA = EF ++ ES := ⟨_, rfl⟩
    rw [← hEA] at HEA
    have HSE := hidden (show ((strOf EA).toList == (strOf EF ++ strOf ES).toList) = true by rw [strOf_append, hEA]; simp)
    have hcat : ¬ 9223372036854775807 < (strOf EF).size + (strOf ES).size := by
      have heF := HEFL.out
      have heS := HESL.out
      have htF : (strOf EF).size = EF.length := rfl
      have htS : (strOf ES).size = ES.length := rfl
      omega
    clear hEA
    refine wp_region_loose (tabRs [(1, BytesV EA), (6, BytesV EF), (9, BytesV ES), (14, ConstV (.bool true))]) (by kernel_rfl) (by kernel_rfl) (tabRs_cons BytesV.lasts (tabRs_cons BytesV.lasts (tabRs_cons BytesV.lasts (tabRs_cons ConstV.lasts tabRs_nil)))) ?_
    iterate 1 ((with_reducible refine loose_one (v := ?_) (a' := ?_) ?_ ?_ (fun w' hC' hG' => ?_) ?_ ?_); rotate_left 2; (focus rfl); (focus rfl); (focus (have hse := HSE.out; clear hC' hG'; go_simp; rfl)); (focus (go_simp; rfl)))
    refine loose_call (R := BytesV EA) (f := 12) (args := #[v7]) (by rfl) (by rfl) (fun _ => by go_simp) (fun w' hC' hG' => made_loose (HEA.out w' hC')) ?_
    intro y1 _
    refine ⟨?_, ?_, ?_⟩
    rotate_left
    · go_simp
      rfl
    refine loose_one (v := ?_) (a' := ?_) (by rfl) (by rfl) (fun w' hC' hG' => ?_) ?_ ?_
    rotate_left 2
    · have hr := run_string_bytes (P := Try.prog) ((show IsBytes w' _ EA from (hG' 1 (by kernel_rfl)).2 rfl)) 26 5 Try.underlying26 Try.underlying5 9 Try.underlying9
      clear hC' hG'
      go_simp
      rfl
    · go_simp
      rfl
    iterate 3 ((with_reducible refine loose_one (v := ?_) (a' := ?_) ?_ ?_ (fun w' hC' hG' => ?_) ?_ ?_); rotate_left 2; (focus rfl); (focus rfl); (focus (have hse := HSE.out; clear hC' hG'; go_simp; rfl)); (focus (go_simp; rfl)))
    refine loose_call (R := BytesV EF) (f := 12) (args := #[.slice A1 K c1]) (by rfl) (by rfl) (fun _ => by go_simp) (fun w' hC' hG' => made_loose (HEF.out w' (HG7.out.of_below hC'))) ?_
    intro y2 _
    refine ⟨?_, ?_, ?_⟩
    rotate_left
    · go_simp
      rfl
    refine loose_one (v := ?_) (a' := ?_) (by rfl) (by rfl) (fun w' hC' hG' => ?_) ?_ ?_
    rotate_left 2
    · have hr := run_string_bytes (P := Try.prog) ((show IsBytes w' _ EF from (hG' 6 (by kernel_rfl)).2 rfl)) 26 5 Try.underlying26 Try.underlying5 9 Try.underlying9
      clear hC' hG'
      go_simp
      rfl
    · go_simp
      rfl
    iterate 1 ((with_reducible refine loose_one (v := ?_) (a' := ?_) ?_ ?_ (fun w' hC' hG' => ?_) ?_ ?_); rotate_left 2; (focus rfl); (focus rfl); (focus (have hse := HSE.out; clear hC' hG'; go_simp; rfl)); (focus (go_simp; rfl)))
    refine loose_call (R := BytesV ES) (f := 12) (args := #[.slice A2 sn.length c2]) (by rfl) (by rfl) (fun _ => by go_simp) (fun w' hC' hG' => made_loose (HES.out w' (HG7.out.of_below hC'))) ?_
    intro y3 _
    refine ⟨?_, ?_, ?_⟩
    rotate_left
    · go_simp
      rfl
    refine loose_one (v := ?_) (a' := ?_) (by rfl) (by rfl) (fun w' hC' hG' => ?_) ?_ ?_
    rotate_left 2
    · have hr := run_string_bytes (P := Try.prog) ((show IsBytes w' _ ES from (hG' 9 (by kernel_rfl)).2 rfl)) 26 5 Try.underlying26 Try.underlying5 9 Try.underlying9
      clear hC' hG'
      go_simp
      rfl
    · go_simp
      rfl
    iterate 3 ((with_reducible refine loose_one (v := ?_) (a' := ?_) ?_ ?_ (fun w' hC' hG' => ?_) ?_ ?_); rotate_left 2; (focus rfl); (focus rfl); (focus (have hse := HSE.out; clear hC' hG'; go_simp; rfl)); (focus (go_simp; rfl)))
    refine loose_call (R := ConstV (.bool true)) (f := 9) (args := #[]) (by rfl) (by rfl) (fun _ => by go_simp) (fun w' hC' hG' => const_loose (awake11_any w')) ?_
    rintro _ ⟨_, _, rfl⟩
    refine ⟨?_, ?_, ?_⟩
    rotate_left
    · go_simp
      rfl
    iterate 2 ((with_reducible refine loose_one (v := ?_) (a' := ?_) ?_ ?_ (fun w' hC' hG' => ?_) ?_ ?_); rotate_left 2; (focus rfl); (focus rfl); (focus (have hse := HSE.out; clear hC' hG'; go_simp; rfl)); (focus (go_simp; rfl)))
    refine loose_done (fun w8 hC' hG' => ?_)
    have HG8 := hidden (HG7.out.of_below hC')
    clear hG' hC'
    go_wp2_with fail
    go_ret
    exact ⟨rfl, HG8.out⟩
end Go.Proofs.Ytcpdgkjelghlnaa
