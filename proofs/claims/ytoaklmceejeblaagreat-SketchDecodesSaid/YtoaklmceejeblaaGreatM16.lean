/-
  Texts that the claims of this seat share, put together (Sq2, Sq3, Sq4, Sq5). No condition.
-/
import Derived.Test.YtoaklmceejeblaaGreatSq1
import Derived.Test.YtoaklmceejeblaaGreatM13
/-
  Shaken: what the claims of this seat need of this text. No condition.
-/
namespace Go.Proofs.YtoaklmceejeblaaGreat
set_option maxRecDepth 8000
open Go.RowKit
set_option linter.unusedVariables false
set_option linter.unusedSimpArgs false
def lcX (y x : Val) : Int := lcmpV y.k y.n y.t x.k x.n x.t
theorem lcX_cmpX {y x : Val} (hy : validV y.k y.n y.t = true) (hx : validV x.k x.n x.t = true) : lcX y x = cmpX y x := lcmpV_eq hy hx
set_option maxHeartbeats 2000000 in
theorem qcl_n (b1 b2 : Nat) (A : Option Addr) (c i : Nat) (L : List Val) (x y : Val) (w : World) (h1 : w.cell? ⟨b1, 0, none⟩ = some (.slice A L.length c)) (hL : ReadsV w (.slice A L.length c) L) (x0 : w.cell? ⟨b2, 0, none⟩ = some (.int .i64 x.k)) (x1 : w.cell? ⟨b2, 1, none⟩ = some (.int .i64 x.n)) (x2 : w.cell? ⟨b2, 2, none⟩ = some (.string x.t)) (hi : L[i]? = some y) :
    Calls Tryz.prog 116 #[.int .i64 (i : Int), .pointer (some ⟨b1, 0, none⟩), .pointer (some ⟨b2, 0, none⟩)] w fun e w' => e = .returned (.bool (decide (0 ≤ lcX y x))) ∧ Grows w w' := by
  obtain ⟨hlt, -⟩ := List.getElem?_eq_some_iff.1 hi
  obtain ⟨A', c', he, _, hcell⟩ := hL
  injection he with e1 e2 e3
  subst e1 e3
  obtain ⟨bb, off, rfl, hcell2⟩ := hcell (by omega)
  obtain ⟨k1, k2, k3⟩ := hcell2 i y hi
  have HX := hidden (fun X (h : Grows w X) => (⟨(h.cell (World.block_lt_of_cell? _ _ h1)).trans h1, (h.cell (World.block_lt_of_cell? _ _ x0)).trans x0, (h.cell (World.block_lt_of_cell? _ _ x1)).trans x1, (h.cell (World.block_lt_of_cell? _ _ x2)).trans x2, (h.cell (World.block_lt_of_cell? _ _ k1)).trans k1, (h.cell (World.block_lt_of_cell? _ _ k2)).trans k2, (h.cell (World.block_lt_of_cell? _ _ k3)).trans k3⟩ :
    X.cell? ⟨b1, 0, none⟩ = some (.slice (some ⟨bb, off, none⟩) L.length c) ∧ X.cell? ⟨b2, 0, none⟩ = some (.int .i64 x.k) ∧ X.cell? ⟨b2, 1, none⟩ = some (.int .i64 x.n) ∧ X.cell? ⟨b2, 2, none⟩ = some (.string x.t) ∧ _ ∧ _ ∧ _))
  have hi0 : (0 : Int) ≤ (i : Int) := by omega
  have hi1 : (i : Int) < (L.length : Int) := by omega
  obtain ⟨cc, hcc⟩ : ∃ cc, lcX y x = cc := ⟨_, rfl⟩
  have HC := hidden (fun W => const_loose16 (show Calls Tryz.prog 42 #[.agg #[.int .i64 y.k, .int .i64 y.n, .string y.t], .agg #[.int .i64 x.k, .int .i64 x.n, .string x.t]] W fun e w' => e = .returned (.int .i64 cc) ∧ Grows W w' by rw [← hcc]; exact lcompare_any y.k y.n x.k x.n y.t x.t W))
  rw [hcc]
  clear hcell hcell2 e2 k1 k2 k3 h1 x0 x1 x2 hi hcc
  go_enter Tryz.func116, Tryz.ntmps116
  go_wp2_with fail
  refine wp_region_loose (tabRs [(5, ConstV (.int .i64 cc))]) (by kernel_rfl) (by kernel_rfl) (tabRs_cons ConstV.lasts tabRs_nil) ?_
  iterate 5 ((with_reducible refine loose_one (v := ?_) (a' := ?_) ?_ ?_ (fun w' hC' hG' => ?_) ?_ ?_); rotate_left 2; (focus rfl); (focus rfl); (focus (obtain ⟨p1, x0, x1, x2, k1, k2, k3⟩ := HX.out w' hC'; clear hC' hG'; go_simp; rfl)); (focus (go_simp; rfl)))
  refine loose_call (R := ConstV (.int .i64 cc)) (f := 42) (args := #[.agg #[.int .i64 y.k, .int .i64 y.n, .string y.t], .agg #[.int .i64 x.k, .int .i64 x.n, .string x.t]]) (by rfl) (by rfl) (fun _ => by go_simp) (fun w' hC' hG' => HC.out w') ?_
  rintro _ ⟨_, _, rfl⟩
  refine ⟨?_, ?_, ?_⟩
  rotate_left
  · go_simp
    rfl
  iterate 2 ((with_reducible refine loose_one (v := ?_) (a' := ?_) ?_ ?_ (fun w' hC' hG' => ?_) ?_ ?_); rotate_left 2; (focus rfl); (focus rfl); (focus (obtain ⟨p1, x0, x1, x2, k1, k2, k3⟩ := HX.out w' hC'; clear hC' hG'; go_simp; rfl)); (focus (go_simp; rfl)))
  refine loose_done (fun w5 hC5 hG5 => ?_)
  go_wp2_with fail
  go_ret
  exact ⟨by first | rfl | simp, hC5⟩
def Srch_n (w : World) (r n : Nat) (i j h : Value) (wr : World) : Prop := ∃ a b : Nat, a ≤ r ∧ r ≤ b ∧ b ≤ n ∧ i = .int .i64 (a : Int) ∧ j = .int .i64 (b : Int) ∧ Grows w wr
set_option maxHeartbeats 4000000 in
theorem qsearch_n (b1 b2 : Nat) (A : Option Addr) (c : Nat) (L : List Val) (x : Val) (r : Nat) (w : World) (hn : L.length ≤ 1000000) (h1 : w.cell? ⟨b1, 0, none⟩ = some (.slice A L.length c)) (hL : ReadsV w (.slice A L.length c) L) (x0 : w.cell? ⟨b2, 0, none⟩ = some (.int .i64 x.k)) (x1 : w.cell? ⟨b2, 1, none⟩ = some (.int .i64 x.n)) (x2 : w.cell? ⟨b2, 2, none⟩ = some (.string x.t)) (hr : r ≤ L.length) (hlo : ∀ k y, k < r → L[k]? = some y → ¬ 0 ≤ lcX y x) (hhi : ∀ k y, r ≤ k → L[k]? = some y → 0 ≤ lcX y x) :
    Calls Tryz.prog 115 #[.int .i64 (L.length : Int), .func (.func 116) #[] #[.pointer (some ⟨b1, 0, none⟩), .pointer (some ⟨b2, 0, none⟩)]] w fun e w' => e = .returned (.int .i64 (r : Int)) ∧ Grows w w' := by
  have HC := hidden (fun W (h : Grows w W) i y (hi : L[i]? = some y) => qcl_n b1 b2 A c i L x y W ((h.cell (World.block_lt_of_cell? _ _ h1)).trans h1) (hL.grow h) ((h.cell (World.block_lt_of_cell? _ _ x0)).trans x0) ((h.cell (World.block_lt_of_cell? _ _ x1)).trans x1) ((h.cell (World.block_lt_of_cell? _ _ x2)).trans x2) hi)
  have HLO := hidden hlo
  have HHI := hidden hhi
  obtain ⟨n, hne⟩ : ∃ n, n = L.length := ⟨_, rfl⟩
  have HN := hidden hne
  rw [← hne] at hn hr ⊢
  clear hlo hhi h1 hL x0 x1 x2 hne
  go_enter Tryz.func115, Tryz.ntmps115
  go_wp2_with fail
  go_loopw [5, 6, 7] (fun i j h wr => Srch_n w r n i j h wr) (fun i j _ _ => (intOf j).toNat - (intOf i).toNat)
  case atStart => exact ⟨0, n, Nat.zero_le _, hr, Nat.le_refl _, rfl, rfl, Below.refl _ _⟩
  case round =>
    obtain ⟨a, b, ha, hb, hbn, rfl, rfl, hg⟩ := hrel
    have HG := hidden hg
    clear hg
    by_cases hlt : a < b
    · have hd : decide (a < b) = true := by simpa using hlt
      have hd2 : decide ((a : Int) < (b : Int)) = true := by simpa using hlt
      obtain ⟨m, hm⟩ : ∃ m, m = (a + b) / 2 := ⟨_, rfl⟩
      have hma : a ≤ m := by omega
      have hmb : m < b := by omega
      have hab : (((a + b : Nat) : Int)) = (a : Int) + (b : Int) := by omega
      obtain ⟨y, hy⟩ : ∃ y, L[m]? = some y := ⟨_, List.getElem?_eq_getElem (by rw [← HN.out]; omega)⟩
      have HCm := hidden (HC.out wr HG.out m y hy)
      have w1 : wrap64 ((a : Int) + (b : Int)) = (a : Int) + (b : Int) := by unfold wrap64; omega
      have w3 : ((a : Int) + (b : Int)) / 2 = (m : Int) := by omega
      have w4 : wrap64 (m : Int) = (m : Int) := by unfold wrap64; omega
      clear hm
      by_cases hrm : r ≤ m
      · have HD := hidden (show (decide (0 ≤ lcX y x)) = true from decide_eq_true (HHI.out m y hrm hy))
        rw [HD.out] at HCm
        clear hy
        go_wp2_with (go_at_call 116; refine (HCm.out).mono ?_; rintro e w9 ⟨rfl, g⟩; have HG9 := hidden (HG.out.of_below g); clear g)
        go_roundw
        case rel => exact ⟨a, m, ha, hrm, by omega, rfl, rfl, HG9.out⟩
        case measure => simp [intOf]; omega
      · have HD := hidden (show (decide (0 ≤ lcX y x)) = false from decide_eq_false (by have := HLO.out m y (by omega) hy; omega))
        rw [HD.out] at HCm
        clear hy
        go_wp2_with (go_at_call 116; refine (HCm.out).mono ?_; rintro e w9 ⟨rfl, g⟩; have HG9 := hidden (HG.out.of_below g); clear g)
        go_roundw
        case rel => exact ⟨m + 1, b, by omega, hb, hbn, by go_num, rfl, HG9.out⟩
        case measure => simp [intOf]; omega
    · have hd : decide (a < b) = false := by simpa using hlt
      have hd2 : decide ((a : Int) < (b : Int)) = false := by simpa using hlt
      have he : a = r := by omega
      subst he
      go_wp2_with fail
      go_ret
      exact ⟨rfl, HG.out⟩
set_option maxHeartbeats 2000000 in
theorem qfirst_n (v : Value) (L : List Val) (x : Val) (r : Nat) (w : World) (hv : ReadsV w v L) (hn : L.length ≤ 1000000) (hr : r ≤ L.length) (hlo : ∀ k y, k < r → L[k]? = some y → ¬ 0 ≤ lcX y x) (hhi : ∀ k y, r ≤ k → L[k]? = some y → 0 ≤ lcX y x) :
    Calls Tryz.prog 49 #[v, .agg #[.int .i64 x.k, .int .i64 x.n, .string x.t]] w fun e w' => e = .returned (.int .i64 (r : Int)) ∧ Grows w w' := by
  obtain ⟨A, c, rfl, -⟩ := id hv
  have HG0 := hidden (show Grows w ((w.alloc (.cells #[.slice A L.length c] 22)).alloc (.cells #[.int .i64 x.k, .int .i64 x.n, .string x.t] 35)) from (growK _ _).of_below (growK _ _))
  have HS := hidden (show Calls Tryz.prog 115 #[.int .i64 (L.length : Int), .func (.func 116) #[] #[.pointer (some ⟨w.heap.size, 0, none⟩), .pointer (some ⟨w.heap.size + 1, 0, none⟩)]] ((w.alloc (.cells #[.slice A L.length c] 22)).alloc (.cells #[.int .i64 x.k, .int .i64 x.n, .string x.t] 35)) fun e w' => e = .returned (.int .i64 (r : Int)) ∧ Grows ((w.alloc (.cells #[.slice A L.length c] 22)).alloc (.cells #[.int .i64 x.k, .int .i64 x.n, .string x.t] 35)) w' from by
    have hx := Row.new (w.alloc (.cells #[.slice A L.length c] 22)) 35 #[.int .i64 x.k, .int .i64 x.n, .string x.t] [.int .i64 x.k, .int .i64 x.n, .string x.t] rfl
    have e : (w.alloc (.cells #[.slice A L.length c] 22)).heap.size = w.heap.size + 1 := by simp
    rw [e] at hx
    have hb := (Row.new w 22 #[.slice A L.length c] [.slice A L.length c] rfl).grow (growK _ (.cells #[.int .i64 x.k, .int .i64 x.n, .string x.t] 35))
    exact qsearch_n w.heap.size (w.heap.size + 1) A c L x r _ hn (hb.cell 0) (hv.grow HG0.out) (hx.cell 0) (hx.cell 1) (hx.cell 2) hr hlo hhi)
  clear hv hlo hhi
  go_enter Tryz.func49, Tryz.ntmps49
  go_wp2_with (go_at_call 115; refine (HS.out).mono ?_; rintro e w9 ⟨rfl, g⟩; have HG9 := hidden (HG0.out.of_below g); clear g)
  go_ret
  exact ⟨rfl, HG9.out⟩
set_option maxHeartbeats 2000000 in
theorem qcl_g (b1 b2 : Nat) (A : Option Addr) (c i : Nat) (L : List Val) (x y : Val) (w : World) (h1 : w.cell? ⟨b1, 0, none⟩ = some (.slice A L.length c)) (hL : ReadsV w (.slice A L.length c) L) (x0 : w.cell? ⟨b2, 0, none⟩ = some (.int .i64 x.k)) (x1 : w.cell? ⟨b2, 1, none⟩ = some (.int .i64 x.n)) (x2 : w.cell? ⟨b2, 2, none⟩ = some (.string x.t)) (hi : L[i]? = some y) :
    Calls Tryz.prog 117 #[.int .i64 (i : Int), .pointer (some ⟨b1, 0, none⟩), .pointer (some ⟨b2, 0, none⟩)] w fun e w' => e = .returned (.bool (decide (0 < lcX y x))) ∧ Grows w w' := by
  obtain ⟨hlt, -⟩ := List.getElem?_eq_some_iff.1 hi
  obtain ⟨A', c', he, _, hcell⟩ := hL
  injection he with e1 e2 e3
  subst e1 e3
  obtain ⟨bb, off, rfl, hcell2⟩ := hcell (by omega)
  obtain ⟨k1, k2, k3⟩ := hcell2 i y hi
  have HX := hidden (fun X (h : Grows w X) => (⟨(h.cell (World.block_lt_of_cell? _ _ h1)).trans h1, (h.cell (World.block_lt_of_cell? _ _ x0)).trans x0, (h.cell (World.block_lt_of_cell? _ _ x1)).trans x1, (h.cell (World.block_lt_of_cell? _ _ x2)).trans x2, (h.cell (World.block_lt_of_cell? _ _ k1)).trans k1, (h.cell (World.block_lt_of_cell? _ _ k2)).trans k2, (h.cell (World.block_lt_of_cell? _ _ k3)).trans k3⟩ :
    X.cell? ⟨b1, 0, none⟩ = some (.slice (some ⟨bb, off, none⟩) L.length c) ∧ X.cell? ⟨b2, 0, none⟩ = some (.int .i64 x.k) ∧ X.cell? ⟨b2, 1, none⟩ = some (.int .i64 x.n) ∧ X.cell? ⟨b2, 2, none⟩ = some (.string x.t) ∧ _ ∧ _ ∧ _))
  have hi0 : (0 : Int) ≤ (i : Int) := by omega
  have hi1 : (i : Int) < (L.length : Int) := by omega
  obtain ⟨cc, hcc⟩ : ∃ cc, lcX y x = cc := ⟨_, rfl⟩
  have HC := hidden (fun W => const_loose16 (show Calls Tryz.prog 42 #[.agg #[.int .i64 y.k, .int .i64 y.n, .string y.t], .agg #[.int .i64 x.k, .int .i64 x.n, .string x.t]] W fun e w' => e = .returned (.int .i64 cc) ∧ Grows W w' by rw [← hcc]; exact lcompare_any y.k y.n x.k x.n y.t x.t W))
  rw [hcc]
  clear hcell hcell2 e2 k1 k2 k3 h1 x0 x1 x2 hi hcc
  go_enter Tryz.func117, Tryz.ntmps117
  go_wp2_with fail
  refine wp_region_loose (tabRs [(5, ConstV (.int .i64 cc))]) (by kernel_rfl) (by kernel_rfl) (tabRs_cons ConstV.lasts tabRs_nil) ?_
  iterate 5 ((with_reducible refine loose_one (v := ?_) (a' := ?_) ?_ ?_ (fun w' hC' hG' => ?_) ?_ ?_); rotate_left 2; (focus rfl); (focus rfl); (focus (obtain ⟨p1, x0, x1, x2, k1, k2, k3⟩ := HX.out w' hC'; clear hC' hG'; go_simp; rfl)); (focus (go_simp; rfl)))
  refine loose_call (R := ConstV (.int .i64 cc)) (f := 42) (args := #[.agg #[.int .i64 y.k, .int .i64 y.n, .string y.t], .agg #[.int .i64 x.k, .int .i64 x.n, .string x.t]]) (by rfl) (by rfl) (fun _ => by go_simp) (fun w' hC' hG' => HC.out w') ?_
  rintro _ ⟨_, _, rfl⟩
  refine ⟨?_, ?_, ?_⟩
  rotate_left
  · go_simp
    rfl
  iterate 2 ((with_reducible refine loose_one (v := ?_) (a' := ?_) ?_ ?_ (fun w' hC' hG' => ?_) ?_ ?_); rotate_left 2; (focus rfl); (focus rfl); (focus (obtain ⟨p1, x0, x1, x2, k1, k2, k3⟩ := HX.out w' hC'; clear hC' hG'; go_simp; rfl)); (focus (go_simp; rfl)))
  refine loose_done (fun w5 hC5 hG5 => ?_)
  go_wp2_with fail
  go_ret
  exact ⟨by first | rfl | simp, hC5⟩
def Srch_g (w : World) (r n : Nat) (i j h : Value) (wr : World) : Prop := ∃ a b : Nat, a ≤ r ∧ r ≤ b ∧ b ≤ n ∧ i = .int .i64 (a : Int) ∧ j = .int .i64 (b : Int) ∧ Grows w wr
set_option maxHeartbeats 4000000 in
theorem qsearch_g (b1 b2 : Nat) (A : Option Addr) (c : Nat) (L : List Val) (x : Val) (r : Nat) (w : World) (hn : L.length ≤ 1000000) (h1 : w.cell? ⟨b1, 0, none⟩ = some (.slice A L.length c)) (hL : ReadsV w (.slice A L.length c) L) (x0 : w.cell? ⟨b2, 0, none⟩ = some (.int .i64 x.k)) (x1 : w.cell? ⟨b2, 1, none⟩ = some (.int .i64 x.n)) (x2 : w.cell? ⟨b2, 2, none⟩ = some (.string x.t)) (hr : r ≤ L.length) (hlo : ∀ k y, k < r → L[k]? = some y → ¬ 0 < lcX y x) (hhi : ∀ k y, r ≤ k → L[k]? = some y → 0 < lcX y x) :
    Calls Tryz.prog 115 #[.int .i64 (L.length : Int), .func (.func 117) #[] #[.pointer (some ⟨b1, 0, none⟩), .pointer (some ⟨b2, 0, none⟩)]] w fun e w' => e = .returned (.int .i64 (r : Int)) ∧ Grows w w' := by
  have HC := hidden (fun W (h : Grows w W) i y (hi : L[i]? = some y) => qcl_g b1 b2 A c i L x y W ((h.cell (World.block_lt_of_cell? _ _ h1)).trans h1) (hL.grow h) ((h.cell (World.block_lt_of_cell? _ _ x0)).trans x0) ((h.cell (World.block_lt_of_cell? _ _ x1)).trans x1) ((h.cell (World.block_lt_of_cell? _ _ x2)).trans x2) hi)
  have HLO := hidden hlo
  have HHI := hidden hhi
  obtain ⟨n, hne⟩ : ∃ n, n = L.length := ⟨_, rfl⟩
  have HN := hidden hne
  rw [← hne] at hn hr ⊢
  clear hlo hhi h1 hL x0 x1 x2 hne
  go_enter Tryz.func115, Tryz.ntmps115
  go_wp2_with fail
  go_loopw [5, 6, 7] (fun i j h wr => Srch_g w r n i j h wr) (fun i j _ _ => (intOf j).toNat - (intOf i).toNat)
  case atStart => exact ⟨0, n, Nat.zero_le _, hr, Nat.le_refl _, rfl, rfl, Below.refl _ _⟩
  case round =>
    obtain ⟨a, b, ha, hb, hbn, rfl, rfl, hg⟩ := hrel
    have HG := hidden hg
    clear hg
    by_cases hlt : a < b
    · have hd : decide (a < b) = true := by simpa using hlt
      have hd2 : decide ((a : Int) < (b : Int)) = true := by simpa using hlt
      obtain ⟨m, hm⟩ : ∃ m, m = (a + b) / 2 := ⟨_, rfl⟩
      have hma : a ≤ m := by omega
      have hmb : m < b := by omega
      have hab : (((a + b : Nat) : Int)) = (a : Int) + (b : Int) := by omega
      obtain ⟨y, hy⟩ : ∃ y, L[m]? = some y := ⟨_, List.getElem?_eq_getElem (by rw [← HN.out]; omega)⟩
      have HCm := hidden (HC.out wr HG.out m y hy)
      have w1 : wrap64 ((a : Int) + (b : Int)) = (a : Int) + (b : Int) := by unfold wrap64; omega
      have w3 : ((a : Int) + (b : Int)) / 2 = (m : Int) := by omega
      have w4 : wrap64 (m : Int) = (m : Int) := by unfold wrap64; omega
      clear hm
      by_cases hrm : r ≤ m
      · have HD := hidden (show (decide (0 < lcX y x)) = true from decide_eq_true (HHI.out m y hrm hy))
        rw [HD.out] at HCm
        clear hy
        go_wp2_with (go_at_call 117; refine (HCm.out).mono ?_; rintro e w9 ⟨rfl, g⟩; have HG9 := hidden (HG.out.of_below g); clear g)
        go_roundw
        case rel => exact ⟨a, m, ha, hrm, by omega, rfl, rfl, HG9.out⟩
        case measure => simp [intOf]; omega
      · have HD := hidden (show (decide (0 < lcX y x)) = false from decide_eq_false (by have := HLO.out m y (by omega) hy; omega))
        rw [HD.out] at HCm
        clear hy
        go_wp2_with (go_at_call 117; refine (HCm.out).mono ?_; rintro e w9 ⟨rfl, g⟩; have HG9 := hidden (HG.out.of_below g); clear g)
        go_roundw
        case rel => exact ⟨m + 1, b, by omega, hb, hbn, by go_num, rfl, HG9.out⟩
        case measure => simp [intOf]; omega
    · have hd : decide (a < b) = false := by simpa using hlt
      have hd2 : decide ((a : Int) < (b : Int)) = false := by simpa using hlt
      have he : a = r := by omega
      subst he
      go_wp2_with fail
      go_ret
      exact ⟨rfl, HG.out⟩
set_option maxHeartbeats 2000000 in
theorem qfirst_g (v : Value) (L : List Val) (x : Val) (r : Nat) (w : World) (hv : ReadsV w v L) (hn : L.length ≤ 1000000) (hr : r ≤ L.length) (hlo : ∀ k y, k < r → L[k]? = some y → ¬ 0 < lcX y x) (hhi : ∀ k y, r ≤ k → L[k]? = some y → 0 < lcX y x) :
    Calls Tryz.prog 50 #[v, .agg #[.int .i64 x.k, .int .i64 x.n, .string x.t]] w fun e w' => e = .returned (.int .i64 (r : Int)) ∧ Grows w w' := by
  obtain ⟨A, c, rfl, -⟩ := id hv
  have HG0 := hidden (show Grows w ((w.alloc (.cells #[.slice A L.length c] 22)).alloc (.cells #[.int .i64 x.k, .int .i64 x.n, .string x.t] 35)) from (growK _ _).of_below (growK _ _))
  have HS := hidden (show Calls Tryz.prog 115 #[.int .i64 (L.length : Int), .func (.func 117) #[] #[.pointer (some ⟨w.heap.size, 0, none⟩), .pointer (some ⟨w.heap.size + 1, 0, none⟩)]] ((w.alloc (.cells #[.slice A L.length c] 22)).alloc (.cells #[.int .i64 x.k, .int .i64 x.n, .string x.t] 35)) fun e w' => e = .returned (.int .i64 (r : Int)) ∧ Grows ((w.alloc (.cells #[.slice A L.length c] 22)).alloc (.cells #[.int .i64 x.k, .int .i64 x.n, .string x.t] 35)) w' from by
    have hx := Row.new (w.alloc (.cells #[.slice A L.length c] 22)) 35 #[.int .i64 x.k, .int .i64 x.n, .string x.t] [.int .i64 x.k, .int .i64 x.n, .string x.t] rfl
    have e : (w.alloc (.cells #[.slice A L.length c] 22)).heap.size = w.heap.size + 1 := by simp
    rw [e] at hx
    have hb := (Row.new w 22 #[.slice A L.length c] [.slice A L.length c] rfl).grow (growK _ (.cells #[.int .i64 x.k, .int .i64 x.n, .string x.t] 35))
    exact qsearch_g w.heap.size (w.heap.size + 1) A c L x r _ hn (hb.cell 0) (hv.grow HG0.out) (hx.cell 0) (hx.cell 1) (hx.cell 2) hr hlo hhi)
  clear hv hlo hhi
  go_enter Tryz.func50, Tryz.ntmps50
  go_wp2_with (go_at_call 115; refine (HS.out).mono ?_; rintro e w9 ⟨rfl, g⟩; have HG9 := hidden (HG0.out.of_below g); clear g)
  go_ret
  exact ⟨rfl, HG9.out⟩
end Go.Proofs.YtoaklmceejeblaaGreat
/-
  Shaken: what the claims of this seat need of this text. No condition.
-/
namespace Go.Proofs.YtoaklmceejeblaaGreat
set_option maxRecDepth 8000
open Go.RowKit
set_option linter.unusedVariables false
set_option linter.unusedSimpArgs false
theorem size_i64q : (Tryz.prog.info? 2).map (·.size) = some 1 := by kernel_rfl
theorem at_i64q {wr : World} {ops : Array Oper} {rest : List Oper} {op : Oper} {a : Act} {Q : Exit → Act → World → Prop} (hgd : op.guard = none) (x y : Operand) (ho : op.op = .store 2 x y) (h : wpList Tryz.prog ops Q (op :: rest) a wr) : wpList Tryz.prog ops Q (op :: rest) a wr := h
def bfLo (s : Sk) (k : Nat) : Int := if 0 < k then s.rk.getD (2 * k - 1) 0 else 0
def bfHi (s : Sk) (k : Nat) : Int := if k < s.fs.length then s.rk.getD (2 * k) 0 else s.rows - s.nulls
theorem skrow_at {w : World} (a b c d e f g : Value) {o : Obj} : Row ((w.alloc (.cells #[a, b, c, d, e, f, g] 29)).alloc o) w.heap.size 29 [a, b, c, d, e, f, g] := (skrow_new w a b c d e f g).grow (growK _ _)
theorem bdrow_at (w : World) (o : Obj) (a b : Value) : Row ((w.alloc o).alloc (.cells #[a, b] 40)) (w.heap.size + 1) 40 [a, b] := by
  have h := Row.new (w.alloc o) 40 #[a, b] [a, b] rfl
  have e : (w.alloc o).heap.size = w.heap.size + 1 := by simp
  rwa [e] at h
set_option maxHeartbeats 4000000 in
theorem qbefore_any (v : Value) (s : Sk) (k : Nat) (w : World) (hk : IsK w v s) (hl : s.fs.length ≤ 100000) (hkl : k ≤ s.fs.length) (hrl : s.rk.length ≤ 1000000) (hn : -9223372036854775808 ≤ s.rows - s.nulls ∧ s.rows - s.nulls ≤ 9223372036854775807) :
    Calls Tryz.prog 81 #[v, .int .i64 (k : Int)] w fun e w' => e = .returned (.agg #[.int .i64 (bfLo s k), .int .i64 (bfHi s k)]) ∧ Grows w w' := by
  have HIK := hidden hk
  obtain ⟨A1, A2, A3, A4, c1, c2, c3, c4, rfl, -⟩ := hk
  obtain ⟨W0, hW0⟩ : ∃ W, W = ((w.alloc (.cells #[.int .i64 s.rows, .int .i64 s.nulls, .slice A1 s.hs.length c1, .bool s.ok, .slice A2 s.cm.length c2, .slice A3 s.fs.length c3, .slice A4 s.rk.length c4] 29)).alloc (.cells #[.int .i64 0, .int .i64 0] 40)) := ⟨_, rfl⟩
  have HW := hidden hW0
  have HG0 := hidden (show Grows w W0 by rw [hW0]; exact (growK _ _).of_below (growK _ _))
  have HS0 := hidden (show Row W0 w.heap.size 29 [.int .i64 s.rows, .int .i64 s.nulls, .slice A1 s.hs.length c1, .bool s.ok, .slice A2 s.cm.length c2, .slice A3 s.fs.length c3, .slice A4 s.rk.length c4] by rw [hW0]; exact skrow_at _ _ _ _ _ _ _)
  have HB0 := hidden (show Row W0 (w.heap.size + 1) 40 [.int .i64 0, .int .i64 0] by rw [hW0]; exact bdrow_at w _ _ _)
  have HX : Hid (∀ X, Grows W0 X → X.cell? ⟨w.heap.size, 0, none⟩ = some (.int .i64 s.rows) ∧ X.cell? ⟨w.heap.size, 1, none⟩ = some (.int .i64 s.nulls) ∧ X.cell? ⟨w.heap.size, 2, none⟩ = some (.slice A1 s.hs.length c1) ∧ X.cell? ⟨w.heap.size, 3, none⟩ = some (.bool s.ok) ∧ X.cell? ⟨w.heap.size, 4, none⟩ = some (.slice A2 s.cm.length c2) ∧ X.cell? ⟨w.heap.size, 5, none⟩ = some (.slice A3 s.fs.length c3) ∧ X.cell? ⟨w.heap.size, 6, none⟩ = some (.slice A4 s.rk.length c4)) := hidden fun X h => ⟨(HS0.out.grow h).cell 0, (HS0.out.grow h).cell 1, (HS0.out.grow h).cell 2, (HS0.out.grow h).cell 3, (HS0.out.grow h).cell 4, (HS0.out.grow h).cell 5, (HS0.out.grow h).cell 6⟩
  have HK1 := hidden (fun X (h : Grows w X) (hp : 0 < k) => show Calls Tryz.prog 89 #[.agg #[.int .i64 s.rows, .int .i64 s.nulls, .slice A1 s.hs.length c1, .bool s.ok, .slice A2 s.cm.length c2, .slice A3 s.fs.length c3, .slice A4 s.rk.length c4], .int .i64 (2 * (k : Int) - 1)] X fun e w' => e = .returned (.int .i64 (s.rk.getD (2 * k - 1) 0)) ∧ Grows X w' by
    have e : (2 * (k : Int) - 1) = ((2 * k - 1 : Nat) : Int) := by omega
    rw [e]
    exact qrank_any _ s (2 * k - 1) X (HIK.out.grow h) (by omega) hrl)
  have HK2 := hidden (fun X (h : Grows w X) => show Calls Tryz.prog 89 #[.agg #[.int .i64 s.rows, .int .i64 s.nulls, .slice A1 s.hs.length c1, .bool s.ok, .slice A2 s.cm.length c2, .slice A3 s.fs.length c3, .slice A4 s.rk.length c4], .int .i64 (2 * (k : Int))] X fun e w' => e = .returned (.int .i64 (s.rk.getD (2 * k) 0)) ∧ Grows X w' by
    have e : (2 * (k : Int)) = ((2 * k : Nat) : Int) := by omega
    rw [e]
    exact qrank_any _ s (2 * k) X (HIK.out.grow h) (by omega) hrl)
  have HP := hidden (fun X => qpresent_any s.rows s.nulls A1 A2 A3 A4 s.hs.length c1 s.cm.length c2 s.fs.length c3 s.rk.length c4 s.ok X hn)
  obtain ⟨n, hne⟩ : ∃ n, n = s.rows - s.nulls := ⟨_, rfl⟩
  have HN := hidden hne
  rw [← hne] at HP
  have hw1 : wrap64 (2 * (k : Int)) = 2 * (k : Int) := by unfold wrap64; omega
  have hw2 : wrap64 (2 * (k : Int) - 1) = 2 * (k : Int) - 1 := by unfold wrap64; omega
  obtain ⟨lo, hlo⟩ : ∃ lo, lo = s.rk.getD (2 * k - 1) 0 := ⟨_, rfl⟩
  obtain ⟨hi, hhi⟩ : ∃ hi, hi = s.rk.getD (2 * k) 0 := ⟨_, rfl⟩
  rw [← hlo] at HK1
  rw [← hhi] at HK2
  have HLO := hidden hlo
  have HHI := hidden hhi
  clear hW0 hne hn hl hrl hlo hhi HIK
  by_cases h0 : 0 < k <;> by_cases h1 : k < s.fs.length
  · have HK1 := hidden (fun X h => HK1.out X h h0)
    have HF1 := hidden (show bfLo s k = lo by unfold bfLo; rw [if_pos h0, HLO.out])
    have HF2 := hidden (show bfHi s k = hi by unfold bfHi; rw [if_pos h1, HHI.out])
    have d0 : decide (0 < k) = true := by simpa using h0
    have d1 : decide (0 < (k : Int)) = true := by simpa using h0
    have d2 : decide (k < s.fs.length) = true := by simpa using h1
    have d3 : decide ((k : Int) < (s.fs.length : Int)) = true := by simpa using h1
    clear h0 h1 hkl
    go_enter Tryz.func81, Tryz.ntmps81
    go_wp2_with fail
    rw [← HW.out]
    refine (HP.out W0).mono ?_
    rintro e w1 ⟨rfl, g1⟩
    have HG1 := hidden (HG0.out.of_below g1)
    have HG01 := hidden g1
    have HB1 := hidden (HB0.out.grow g1)
    have HL1 := hidden (show w.heap.size + 1 < w1.heap.size from (HB0.out.grow g1).lt)
    clear g1
    have HR2 := hidden (show Row (w1.alloc (.cells #[.int .i64 0, .int .i64 n] 40)) w1.heap.size 40 [.int .i64 0, .int .i64 n] from Row.new w1 40 #[.int .i64 0, .int .i64 n] _ rfl)
    have HG2 := hidden (show Grows w1 (w1.alloc (.cells #[.int .i64 0, .int .i64 n] 40)) from growK _ _)
    have HT2 := hidden (HG1.out.of_below HG2.out)
    obtain ⟨p0, p1, p2, p3, p4, p5, p6⟩ := HX.out (w1.alloc (.cells #[.int .i64 0, .int .i64 n] 40)) (HG01.out.of_below HG2.out)
    go_wp2_with fail
    refine (HK1.out (w1.alloc (.cells #[.int .i64 0, .int .i64 n] 40)) HT2.out).mono ?_
    rintro e w3 ⟨rfl, g⟩
    have HR3 := hidden (HR2.out.grow g)
    have HG3 := hidden (HG2.out.of_below g)
    clear g p0 p1 p2 p3 p4 p5 p6
    go_wp2_with ((with_reducible refine at_i64q rfl _ _ rfl ?_); refine wpList_store_c rfl _ _ _ rfl size_i64q w1.heap.size 0 rfl (.int .i64 lo) rfl rfl _ _ HR3.out (Nat.lt_of_lt_of_eq (show 0 < 2 by decide) rfl) ?_; intro w4 hr ho; have HR4 := hidden hr; have HG4 := hidden (ho.below HG3.out (fun i hi => by subst hi; exact Nat.le_refl _)); have HT4 := hidden (HG1.out.of_below HG4.out); clear hr ho; obtain ⟨p0, p1, p2, p3, p4, p5, p6⟩ := HX.out w4 (HG01.out.of_below HG4.out); have q0 := HR4.out.cell 0; have q1 := HR4.out.cell 1; simp only [List.getElem?_cons_succ, List.getElem?_cons_zero, List.set_cons_zero, List.set_cons_succ] at q0 q1)
    refine (HK2.out w4 HT4.out).mono ?_
    rintro e w5 ⟨rfl, g⟩
    have HR5 := hidden (HR4.out.grow g)
    have HG5 := hidden (HG4.out.of_below g)
    clear g p0 p1 p2 p3 p4 p5 p6
    go_wp2_with (first | ((with_reducible refine at_i64q rfl _ _ rfl ?_); refine wpList_store_c rfl _ _ _ rfl size_i64q w1.heap.size 1 rfl (.int .i64 hi) rfl rfl _ _ HR5.out (Nat.lt_of_lt_of_eq (show 1 < 2 by decide) rfl) ?_; intro w6 hr ho; have HR6 := hidden hr; have HG6 := hidden (ho.below HG5.out (fun i hi => by subst hi; exact Nat.le_refl _)); have HT6 := hidden (HG1.out.of_below HG6.out); clear hr ho; obtain ⟨p0, p1, p2, p3, p4, p5, p6⟩ := HX.out w6 (HG01.out.of_below HG6.out); have q0 := HR6.out.cell 0; have q1 := HR6.out.cell 1; simp only [List.getElem?_cons_succ, List.getElem?_cons_zero, List.set_cons_zero, List.set_cons_succ] at q0 q1) | ((with_reducible refine at_bd rfl _ _ rfl ?_); refine wpList_store_bd rfl _ _ rfl _ rfl (w.heap.size + 1) rfl lo hi rfl _ _ (HB1.out.grow HG6.out) ?_; intro w9 hr hg; have HRR := hidden hr; have HGG := hidden (hg w HT6.out (by omega)); clear hr hg))
    refine bodyPost_ret (results_bd rfl _ _ _ _ _ rfl HRR.out) rfl ⟨?_, HGG.out⟩
    rw [HF1.out, HF2.out]
  · have HK1 := hidden (fun X h => HK1.out X h h0)
    have HF1 := hidden (show bfLo s k = lo by unfold bfLo; rw [if_pos h0, HLO.out])
    have HF2 := hidden (show bfHi s k = n by unfold bfHi; rw [if_neg h1, HN.out])
    have d0 : decide (0 < k) = true := by simpa using h0
    have d1 : decide (0 < (k : Int)) = true := by simpa using h0
    have d2 : decide (k < s.fs.length) = false := by simpa using h1
    have d3 : decide ((k : Int) < (s.fs.length : Int)) = false := by simpa using h1
    clear h0 h1 hkl
    go_enter Tryz.func81, Tryz.ntmps81
    go_wp2_with fail
    rw [← HW.out]
    refine (HP.out W0).mono ?_
    rintro e w1 ⟨rfl, g1⟩
    have HG1 := hidden (HG0.out.of_below g1)
    have HG01 := hidden g1
    have HB1 := hidden (HB0.out.grow g1)
    have HL1 := hidden (show w.heap.size + 1 < w1.heap.size from (HB0.out.grow g1).lt)
    clear g1
    have HR2 := hidden (show Row (w1.alloc (.cells #[.int .i64 0, .int .i64 n] 40)) w1.heap.size 40 [.int .i64 0, .int .i64 n] from Row.new w1 40 #[.int .i64 0, .int .i64 n] _ rfl)
    have HG2 := hidden (show Grows w1 (w1.alloc (.cells #[.int .i64 0, .int .i64 n] 40)) from growK _ _)
    have HT2 := hidden (HG1.out.of_below HG2.out)
    obtain ⟨p0, p1, p2, p3, p4, p5, p6⟩ := HX.out (w1.alloc (.cells #[.int .i64 0, .int .i64 n] 40)) (HG01.out.of_below HG2.out)
    go_wp2_with fail
    refine (HK1.out (w1.alloc (.cells #[.int .i64 0, .int .i64 n] 40)) HT2.out).mono ?_
    rintro e w3 ⟨rfl, g⟩
    have HR3 := hidden (HR2.out.grow g)
    have HG3 := hidden (HG2.out.of_below g)
    clear g p0 p1 p2 p3 p4 p5 p6
    go_wp2_with (first | ((with_reducible refine at_i64q rfl _ _ rfl ?_); refine wpList_store_c rfl _ _ _ rfl size_i64q w1.heap.size 0 rfl (.int .i64 lo) rfl rfl _ _ HR3.out (Nat.lt_of_lt_of_eq (show 0 < 2 by decide) rfl) ?_; intro w4 hr ho; have HR4 := hidden hr; have HG4 := hidden (ho.below HG3.out (fun i hi => by subst hi; exact Nat.le_refl _)); have HT4 := hidden (HG1.out.of_below HG4.out); clear hr ho; obtain ⟨p0, p1, p2, p3, p4, p5, p6⟩ := HX.out w4 (HG01.out.of_below HG4.out); have q0 := HR4.out.cell 0; have q1 := HR4.out.cell 1; simp only [List.getElem?_cons_succ, List.getElem?_cons_zero, List.set_cons_zero, List.set_cons_succ] at q0 q1) | ((with_reducible refine at_bd rfl _ _ rfl ?_); refine wpList_store_bd rfl _ _ rfl _ rfl (w.heap.size + 1) rfl lo n rfl _ _ (HB1.out.grow HG4.out) ?_; intro w9 hr hg; have HRR := hidden hr; have HGG := hidden (hg w HT4.out (by omega)); clear hr hg))
    refine bodyPost_ret (results_bd rfl _ _ _ _ _ rfl HRR.out) rfl ⟨?_, HGG.out⟩
    rw [HF1.out, HF2.out]
  · skip
    have HF1 := hidden (show bfLo s k = 0 by unfold bfLo; rw [if_neg h0])
    have HF2 := hidden (show bfHi s k = hi by unfold bfHi; rw [if_pos h1, HHI.out])
    have d0 : decide (0 < k) = false := by simpa using h0
    have d1 : decide (0 < (k : Int)) = false := by simpa using h0
    have d2 : decide (k < s.fs.length) = true := by simpa using h1
    have d3 : decide ((k : Int) < (s.fs.length : Int)) = true := by simpa using h1
    clear h0 h1 hkl
    go_enter Tryz.func81, Tryz.ntmps81
    go_wp2_with fail
    rw [← HW.out]
    refine (HP.out W0).mono ?_
    rintro e w1 ⟨rfl, g1⟩
    have HG1 := hidden (HG0.out.of_below g1)
    have HG01 := hidden g1
    have HB1 := hidden (HB0.out.grow g1)
    have HL1 := hidden (show w.heap.size + 1 < w1.heap.size from (HB0.out.grow g1).lt)
    clear g1
    have HR2 := hidden (show Row (w1.alloc (.cells #[.int .i64 0, .int .i64 n] 40)) w1.heap.size 40 [.int .i64 0, .int .i64 n] from Row.new w1 40 #[.int .i64 0, .int .i64 n] _ rfl)
    have HG2 := hidden (show Grows w1 (w1.alloc (.cells #[.int .i64 0, .int .i64 n] 40)) from growK _ _)
    have HT2 := hidden (HG1.out.of_below HG2.out)
    obtain ⟨p0, p1, p2, p3, p4, p5, p6⟩ := HX.out (w1.alloc (.cells #[.int .i64 0, .int .i64 n] 40)) (HG01.out.of_below HG2.out)
    go_wp2_with fail
    refine (HK2.out (w1.alloc (.cells #[.int .i64 0, .int .i64 n] 40)) HT2.out).mono ?_
    rintro e w3 ⟨rfl, g⟩
    have HR3 := hidden (HR2.out.grow g)
    have HG3 := hidden (HG2.out.of_below g)
    clear g p0 p1 p2 p3 p4 p5 p6
    go_wp2_with (first | ((with_reducible refine at_i64q rfl _ _ rfl ?_); refine wpList_store_c rfl _ _ _ rfl size_i64q w1.heap.size 1 rfl (.int .i64 hi) rfl rfl _ _ HR3.out (Nat.lt_of_lt_of_eq (show 1 < 2 by decide) rfl) ?_; intro w4 hr ho; have HR4 := hidden hr; have HG4 := hidden (ho.below HG3.out (fun i hi => by subst hi; exact Nat.le_refl _)); have HT4 := hidden (HG1.out.of_below HG4.out); clear hr ho; obtain ⟨p0, p1, p2, p3, p4, p5, p6⟩ := HX.out w4 (HG01.out.of_below HG4.out); have q0 := HR4.out.cell 0; have q1 := HR4.out.cell 1; simp only [List.getElem?_cons_succ, List.getElem?_cons_zero, List.set_cons_zero, List.set_cons_succ] at q0 q1) | ((with_reducible refine at_bd rfl _ _ rfl ?_); refine wpList_store_bd rfl _ _ rfl _ rfl (w.heap.size + 1) rfl 0 hi rfl _ _ (HB1.out.grow HG4.out) ?_; intro w9 hr hg; have HRR := hidden hr; have HGG := hidden (hg w HT4.out (by omega)); clear hr hg))
    refine bodyPost_ret (results_bd rfl _ _ _ _ _ rfl HRR.out) rfl ⟨?_, HGG.out⟩
    rw [HF1.out, HF2.out]
  · skip
    have HF1 := hidden (show bfLo s k = 0 by unfold bfLo; rw [if_neg h0])
    have HF2 := hidden (show bfHi s k = n by unfold bfHi; rw [if_neg h1, HN.out])
    have d0 : decide (0 < k) = false := by simpa using h0
    have d1 : decide (0 < (k : Int)) = false := by simpa using h0
    have d2 : decide (k < s.fs.length) = false := by simpa using h1
    have d3 : decide ((k : Int) < (s.fs.length : Int)) = false := by simpa using h1
    clear h0 h1 hkl
    go_enter Tryz.func81, Tryz.ntmps81
    go_wp2_with fail
    rw [← HW.out]
    refine (HP.out W0).mono ?_
    rintro e w1 ⟨rfl, g1⟩
    have HG1 := hidden (HG0.out.of_below g1)
    have HG01 := hidden g1
    have HB1 := hidden (HB0.out.grow g1)
    have HL1 := hidden (show w.heap.size + 1 < w1.heap.size from (HB0.out.grow g1).lt)
    clear g1
    have HR2 := hidden (show Row (w1.alloc (.cells #[.int .i64 0, .int .i64 n] 40)) w1.heap.size 40 [.int .i64 0, .int .i64 n] from Row.new w1 40 #[.int .i64 0, .int .i64 n] _ rfl)
    have HG2 := hidden (show Grows w1 (w1.alloc (.cells #[.int .i64 0, .int .i64 n] 40)) from growK _ _)
    have HT2 := hidden (HG1.out.of_below HG2.out)
    obtain ⟨p0, p1, p2, p3, p4, p5, p6⟩ := HX.out (w1.alloc (.cells #[.int .i64 0, .int .i64 n] 40)) (HG01.out.of_below HG2.out)
    go_wp2_with ((with_reducible refine at_bd rfl _ _ rfl ?_); refine wpList_store_bd rfl _ _ rfl _ rfl (w.heap.size + 1) rfl 0 n rfl _ _ (HB1.out.grow HG2.out) ?_; intro w9 hr hg; have HRR := hidden hr; have HGG := hidden (hg w HT2.out (by omega)); clear hr hg)
    refine bodyPost_ret (results_bd rfl _ _ _ _ _ rfl HRR.out) rfl ⟨?_, HGG.out⟩
    rw [HF1.out, HF2.out]
end Go.Proofs.YtoaklmceejeblaaGreat
/-
  Shaken: what the claims of this seat need of this text. No condition.
-/
namespace Go.Proofs.YtoaklmceejeblaaGreat
set_option maxRecDepth 8000
open Go.RowKit
set_option linter.unusedVariables false
set_option linter.unusedSimpArgs false
theorem skx_rows (w : World) (a b c d e f g k n t : Value) (o : Obj) : Row (((w.alloc (.cells #[a, b, c, d, e, f, g] 29)).alloc (.cells #[k, n, t] 35)).alloc o) w.heap.size 29 [a, b, c, d, e, f, g] ∧ Row (((w.alloc (.cells #[a, b, c, d, e, f, g] 29)).alloc (.cells #[k, n, t] 35)).alloc o) (w.heap.size + 1) 35 [k, n, t] := by
  refine ⟨((skrow_new _ _ _ _ _ _ _ _).grow (growK _ _)).grow (growK _ _), ?_⟩
  have h := (Row.new (w.alloc (.cells #[a, b, c, d, e, f, g] 29)) 35 #[k, n, t] [k, n, t] rfl).grow (growK _ o)
  have e : (w.alloc (.cells #[a, b, c, d, e, f, g] 29)).heap.size = w.heap.size + 1 := by simp
  rwa [e] at h
theorem bdrow_at2 (w : World) (o o' : Obj) (a b : Value) : Row (((w.alloc o).alloc o').alloc (.cells #[a, b] 40)) (w.heap.size + 1 + 1) 40 [a, b] := by
  have h := Row.new ((w.alloc o).alloc o') 40 #[a, b] [a, b] rfl
  have e : ((w.alloc o).alloc o').heap.size = w.heap.size + 1 + 1 := by simp
  rwa [e] at h
set_option maxHeartbeats 4000000 in
theorem qcountAtMost_any (v : Value) (s : Sk) (x : Val) (r : Nat) (w : World) (hk : IsK w v s) (hl : s.fs.length ≤ 100000) (hrl : s.rk.length ≤ 1000000) (hn : -9223372036854775808 ≤ s.rows - s.nulls ∧ s.rows - s.nulls ≤ 9223372036854775807)
    (hr : r ≤ s.fs.length) (hlo : ∀ k y, k < r → s.fs[k]? = some y → ¬ 0 < lcX y x) (hhi : ∀ k y, r ≤ k → s.fs[k]? = some y → 0 < lcX y x) :
    Calls Tryz.prog 66 #[v, .agg #[.int .i64 x.k, .int .i64 x.n, .string x.t]] w fun e w' => e = .returned (.agg #[.int .i64 (bfLo s r), .int .i64 (bfHi s r)]) ∧ Grows w w' := by
  have HIK := hidden hk
  obtain ⟨A1, A2, A3, A4, c1, c2, c3, c4, rfl, -, -, h3, -⟩ := hk
  obtain ⟨W0, hW0⟩ : ∃ W, W = (((w.alloc (.cells #[.int .i64 s.rows, .int .i64 s.nulls, .slice A1 s.hs.length c1, .bool s.ok, .slice A2 s.cm.length c2, .slice A3 s.fs.length c3, .slice A4 s.rk.length c4] 29)).alloc (.cells #[.int .i64 x.k, .int .i64 x.n, .string x.t] 35)).alloc (.cells #[.int .i64 0, .int .i64 0] 40)) := ⟨_, rfl⟩
  have HG0 := hidden (show Grows w W0 by rw [hW0]; exact ((growK _ _).of_below (growK _ _)).of_below (growK _ _))
  have HS0 := hidden (show Row W0 w.heap.size 29 [.int .i64 s.rows, .int .i64 s.nulls, .slice A1 s.hs.length c1, .bool s.ok, .slice A2 s.cm.length c2, .slice A3 s.fs.length c3, .slice A4 s.rk.length c4] by rw [hW0]; exact (skx_rows _ _ _ _ _ _ _ _ _ _ _ _).1)
  have HX0 := hidden (show Row W0 (w.heap.size + 1) 35 [.int .i64 x.k, .int .i64 x.n, .string x.t] by rw [hW0]; exact (skx_rows _ _ _ _ _ _ _ _ _ _ _ _).2)
  have HB0 := hidden (show Row W0 (w.heap.size + 1 + 1) 40 [.int .i64 0, .int .i64 0] by rw [hW0]; exact bdrow_at2 _ _ _ _ _)
  have HX : Hid (∀ X, Grows W0 X → X.cell? ⟨w.heap.size, 0, none⟩ = some (.int .i64 s.rows) ∧ X.cell? ⟨w.heap.size, 1, none⟩ = some (.int .i64 s.nulls) ∧ X.cell? ⟨w.heap.size, 2, none⟩ = some (.slice A1 s.hs.length c1) ∧ X.cell? ⟨w.heap.size, 3, none⟩ = some (.bool s.ok) ∧ X.cell? ⟨w.heap.size, 4, none⟩ = some (.slice A2 s.cm.length c2) ∧ X.cell? ⟨w.heap.size, 5, none⟩ = some (.slice A3 s.fs.length c3) ∧ X.cell? ⟨w.heap.size, 6, none⟩ = some (.slice A4 s.rk.length c4) ∧ X.cell? ⟨w.heap.size + 1, 0, none⟩ = some (.int .i64 x.k) ∧ X.cell? ⟨w.heap.size + 1, 1, none⟩ = some (.int .i64 x.n) ∧ X.cell? ⟨w.heap.size + 1, 2, none⟩ = some (.string x.t)) := hidden fun X h => ⟨(HS0.out.grow h).cell 0, (HS0.out.grow h).cell 1, (HS0.out.grow h).cell 2, (HS0.out.grow h).cell 3, (HS0.out.grow h).cell 4, (HS0.out.grow h).cell 5, (HS0.out.grow h).cell 6, (HX0.out.grow h).cell 0, (HX0.out.grow h).cell 1, (HX0.out.grow h).cell 2⟩
  have H3 := hidden h3
  have HC1 := hidden (fun W (h : Grows W0 W) => const_loose16 (qfirst_g (.slice A3 s.fs.length c3) s.fs x r W (H3.out.grow (HG0.out.of_below h)) (by omega) hr hlo hhi))
  have HC2 := hidden (fun W (h : Grows W0 W) => const_loose16 (qbefore_any (.agg #[.int .i64 s.rows, .int .i64 s.nulls, .slice A1 s.hs.length c1, .bool s.ok, .slice A2 s.cm.length c2, .slice A3 s.fs.length c3, .slice A4 s.rk.length c4]) s r W (HIK.out.grow (HG0.out.of_below h)) hl hr hrl hn))
  generalize bfLo s r = lo at *
  generalize bfHi s r = hi at *
  clear h3 hl hrl hn hr hlo hhi
  go_enter Tryz.func66, Tryz.ntmps66
  go_wp2_with fail
  rw [← hW0]
  clear hW0
  refine wp_region_loose_tail 6 (tabRs [(4, ConstV (.int .i64 (r : Int))), (5, ConstV (.agg #[.int .i64 lo, .int .i64 hi]))]) (by kernel_rfl) (by kernel_rfl) (tabRs_cons ConstV.lasts (tabRs_cons ConstV.lasts tabRs_nil)) ?_
  simp only [List.take_succ_cons, List.take_zero, List.drop_succ_cons, List.drop_zero]
  iterate 4 ((with_reducible refine loose_one (v := ?_) (a' := ?_) ?_ ?_ (fun w' hC' hG' => ?_) ?_ ?_); rotate_left 2; (focus rfl); (focus rfl); (focus (obtain ⟨s0, s1, s2, s3, s4, s5, s6, x0, x1, x2⟩ := HX.out w' hC'; clear hC' hG'; go_simp; rfl)); (focus (go_simp; rfl)))
  refine loose_call (R := ConstV (.int .i64 (r : Int))) (f := 50) (args := #[.slice A3 s.fs.length c3, .agg #[.int .i64 x.k, .int .i64 x.n, .string x.t]]) (by rfl) (by rfl) (fun _ => by go_simp) (fun w' hC' hG' => HC1.out w' hC') ?_
  rintro _ ⟨_, _, rfl⟩
  refine ⟨?_, ?_, ?_⟩
  rotate_left
  · go_simp
    rfl
  refine loose_call (R := ConstV (.agg #[.int .i64 lo, .int .i64 hi])) (f := 81) (args := #[.agg #[.int .i64 s.rows, .int .i64 s.nulls, .slice A1 s.hs.length c1, .bool s.ok, .slice A2 s.cm.length c2, .slice A3 s.fs.length c3, .slice A4 s.rk.length c4], .int .i64 (r : Int)]) (by rfl) (by rfl) (fun _ => by go_simp) (fun w' hC' hG' => HC2.out w' hC') ?_
  rintro _ ⟨_, _, rfl⟩
  refine ⟨?_, ?_, ?_⟩
  rotate_left
  · go_simp
    rfl
  refine loose_done (fun w9 hC' hG' => ?_)
  have HG9 := hidden (HG0.out.of_below hC')
  have HB9 := hidden (HB0.out.grow hC')
  clear hC' hG'
  refine wpList_store_bd rfl _ _ rfl w9 rfl (w.heap.size + 1 + 1) rfl lo hi rfl _ _ HB9.out ?_
  intro W hr hg
  have HRR := hidden hr
  have HGG := hidden (hg w HG9.out (by omega))
  clear hr hg
  go_wp2_with fail
  exact bodyPost_ret (results_bd rfl _ _ _ _ _ rfl HRR.out) rfl ⟨rfl, HGG.out⟩
set_option maxHeartbeats 4000000 in
theorem qCountLess_any (v : Value) (s : Sk) (x : Val) (r : Nat) (w : World) (hk : IsK w v s) (hl : s.fs.length ≤ 100000) (hrl : s.rk.length ≤ 1000000) (hn : -9223372036854775808 ≤ s.rows - s.nulls ∧ s.rows - s.nulls ≤ 9223372036854775807)
    (hr : r ≤ s.fs.length) (hlo : ∀ k y, k < r → s.fs[k]? = some y → ¬ 0 ≤ lcX y x) (hhi : ∀ k y, r ≤ k → s.fs[k]? = some y → 0 ≤ lcX y x) :
    Calls Tryz.prog 23 #[v, .agg #[.int .i64 x.k, .int .i64 x.n, .string x.t]] w fun e w' => e = .returned (.agg #[.int .i64 (bfLo s r), .int .i64 (bfHi s r)]) ∧ Grows w w' := by
  have HIK := hidden hk
  obtain ⟨A1, A2, A3, A4, c1, c2, c3, c4, rfl, -, -, h3, -⟩ := hk
  obtain ⟨W0, hW0⟩ : ∃ W, W = (((w.alloc (.cells #[.int .i64 s.rows, .int .i64 s.nulls, .slice A1 s.hs.length c1, .bool s.ok, .slice A2 s.cm.length c2, .slice A3 s.fs.length c3, .slice A4 s.rk.length c4] 29)).alloc (.cells #[.int .i64 x.k, .int .i64 x.n, .string x.t] 35)).alloc (.cells #[.int .i64 0, .int .i64 0] 40)) := ⟨_, rfl⟩
  have HG0 := hidden (show Grows w W0 by rw [hW0]; exact ((growK _ _).of_below (growK _ _)).of_below (growK _ _))
  have HS0 := hidden (show Row W0 w.heap.size 29 [.int .i64 s.rows, .int .i64 s.nulls, .slice A1 s.hs.length c1, .bool s.ok, .slice A2 s.cm.length c2, .slice A3 s.fs.length c3, .slice A4 s.rk.length c4] by rw [hW0]; exact (skx_rows _ _ _ _ _ _ _ _ _ _ _ _).1)
  have HX0 := hidden (show Row W0 (w.heap.size + 1) 35 [.int .i64 x.k, .int .i64 x.n, .string x.t] by rw [hW0]; exact (skx_rows _ _ _ _ _ _ _ _ _ _ _ _).2)
  have HB0 := hidden (show Row W0 (w.heap.size + 1 + 1) 40 [.int .i64 0, .int .i64 0] by rw [hW0]; exact bdrow_at2 _ _ _ _ _)
  have HX : Hid (∀ X, Grows W0 X → X.cell? ⟨w.heap.size, 0, none⟩ = some (.int .i64 s.rows) ∧ X.cell? ⟨w.heap.size, 1, none⟩ = some (.int .i64 s.nulls) ∧ X.cell? ⟨w.heap.size, 2, none⟩ = some (.slice A1 s.hs.length c1) ∧ X.cell? ⟨w.heap.size, 3, none⟩ = some (.bool s.ok) ∧ X.cell? ⟨w.heap.size, 4, none⟩ = some (.slice A2 s.cm.length c2) ∧ X.cell? ⟨w.heap.size, 5, none⟩ = some (.slice A3 s.fs.length c3) ∧ X.cell? ⟨w.heap.size, 6, none⟩ = some (.slice A4 s.rk.length c4) ∧ X.cell? ⟨w.heap.size + 1, 0, none⟩ = some (.int .i64 x.k) ∧ X.cell? ⟨w.heap.size + 1, 1, none⟩ = some (.int .i64 x.n) ∧ X.cell? ⟨w.heap.size + 1, 2, none⟩ = some (.string x.t)) := hidden fun X h => ⟨(HS0.out.grow h).cell 0, (HS0.out.grow h).cell 1, (HS0.out.grow h).cell 2, (HS0.out.grow h).cell 3, (HS0.out.grow h).cell 4, (HS0.out.grow h).cell 5, (HS0.out.grow h).cell 6, (HX0.out.grow h).cell 0, (HX0.out.grow h).cell 1, (HX0.out.grow h).cell 2⟩
  have H3 := hidden h3
  have HC1 := hidden (fun W (h : Grows W0 W) => const_loose16 (qfirst_n (.slice A3 s.fs.length c3) s.fs x r W (H3.out.grow (HG0.out.of_below h)) (by omega) hr hlo hhi))
  have HC2 := hidden (fun W (h : Grows W0 W) => const_loose16 (qbefore_any (.agg #[.int .i64 s.rows, .int .i64 s.nulls, .slice A1 s.hs.length c1, .bool s.ok, .slice A2 s.cm.length c2, .slice A3 s.fs.length c3, .slice A4 s.rk.length c4]) s r W (HIK.out.grow (HG0.out.of_below h)) hl hr hrl hn))
  generalize bfLo s r = lo at *
  generalize bfHi s r = hi at *
  clear h3 hl hrl hn hr hlo hhi
  go_enter Tryz.func23, Tryz.ntmps23
  go_wp2_with fail
  rw [← hW0]
  clear hW0
  refine wp_region_loose_tail 6 (tabRs [(4, ConstV (.int .i64 (r : Int))), (5, ConstV (.agg #[.int .i64 lo, .int .i64 hi]))]) (by kernel_rfl) (by kernel_rfl) (tabRs_cons ConstV.lasts (tabRs_cons ConstV.lasts tabRs_nil)) ?_
  simp only [List.take_succ_cons, List.take_zero, List.drop_succ_cons, List.drop_zero]
  iterate 4 ((with_reducible refine loose_one (v := ?_) (a' := ?_) ?_ ?_ (fun w' hC' hG' => ?_) ?_ ?_); rotate_left 2; (focus rfl); (focus rfl); (focus (obtain ⟨s0, s1, s2, s3, s4, s5, s6, x0, x1, x2⟩ := HX.out w' hC'; clear hC' hG'; go_simp; rfl)); (focus (go_simp; rfl)))
  refine loose_call (R := ConstV (.int .i64 (r : Int))) (f := 49) (args := #[.slice A3 s.fs.length c3, .agg #[.int .i64 x.k, .int .i64 x.n, .string x.t]]) (by rfl) (by rfl) (fun _ => by go_simp) (fun w' hC' hG' => HC1.out w' hC') ?_
  rintro _ ⟨_, _, rfl⟩
  refine ⟨?_, ?_, ?_⟩
  rotate_left
  · go_simp
    rfl
  refine loose_call (R := ConstV (.agg #[.int .i64 lo, .int .i64 hi])) (f := 81) (args := #[.agg #[.int .i64 s.rows, .int .i64 s.nulls, .slice A1 s.hs.length c1, .bool s.ok, .slice A2 s.cm.length c2, .slice A3 s.fs.length c3, .slice A4 s.rk.length c4], .int .i64 (r : Int)]) (by rfl) (by rfl) (fun _ => by go_simp) (fun w' hC' hG' => HC2.out w' hC') ?_
  rintro _ ⟨_, _, rfl⟩
  refine ⟨?_, ?_, ?_⟩
  rotate_left
  · go_simp
    rfl
  refine loose_done (fun w9 hC' hG' => ?_)
  have HG9 := hidden (HG0.out.of_below hC')
  have HB9 := hidden (HB0.out.grow hC')
  clear hC' hG'
  refine wpList_store_bd rfl _ _ rfl w9 rfl (w.heap.size + 1 + 1) rfl lo hi rfl _ _ HB9.out ?_
  intro W hr hg
  have HRR := hidden hr
  have HGG := hidden (hg w HG9.out (by omega))
  clear hr hg
  go_wp2_with fail
  exact bodyPost_ret (results_bd rfl _ _ _ _ _ rfl HRR.out) rfl ⟨rfl, HGG.out⟩
end Go.Proofs.YtoaklmceejeblaaGreat
/-
  Shaken: what the claims of this seat need of this text. No condition.
-/
namespace Go.Proofs.YtoaklmceejeblaaGreat
set_option maxRecDepth 8000
open Go.RowKit
set_option linter.unusedVariables false
set_option linter.unusedSimpArgs false
def IdxRel (w : World) (h : Nat) (l : List Nat) (u i : Value) (wr : World) : Prop := ∃ k : Nat, k ≤ l.length ∧ i = .int .i64 (k : Int) ∧ ¬ h ∈ l.take k ∧ wr = w
set_option maxHeartbeats 2000000 in
theorem qindex_any (v : Value) (l : List Nat) (h : Nat) (w : World) (hv : IsW w v l) (hl : l.length ≤ 1000000) :
    Calls Tryz.prog 126 #[v, .int .u64 (h : Int)] w fun e w' => (∃ r : Int, e = .returned (.int .i64 r) ∧ decide (0 ≤ r) = decide (h ∈ l)) ∧ w' = w := by
  have HV := hidden hv
  obtain ⟨A, c, rfl⟩ : ∃ A c, v = .slice A l.length c := by
    obtain ⟨A, c, h1, -⟩ := hv
    exact ⟨A, c, by rw [h1, wcells_length]⟩
  clear hv
  go_enter Tryz.func126, Tryz.ntmps126
  go_wp2_with fail
  go_loopw [5, 8] (fun u i wr => IdxRel w h l u i wr) (fun _ i _ => l.length - (intOf i).toNat)
  case atStart => exact ⟨0, Nat.zero_le _, rfl, by simp, rfl⟩
  case round =>
    obtain ⟨k, hk, rfl, hni, rfl⟩ := hrel
    have HNI := hidden hni
    clear hni
    by_cases hlt : k < l.length
    · obtain ⟨b, off, rfl, hck⟩ := IsW.at_ HV.out hlt
      obtain ⟨y, hy⟩ : ∃ y, y = l[k] := ⟨_, rfl⟩
      rw [← hy] at hck
      have hd : decide (k < l.length) = true := by simpa using hlt
      have hd2 : decide ((k : Int) < (l.length : Int)) = true := by simpa using hlt
      have hk0 : (0 : Int) ≤ (k : Int) := by omega
      have hk1 : (k : Int) < (l.length : Int) := by omega
      have HTK := hidden (show l.take (k + 1) = l.take k ++ [y] by rw [List.take_add_one, List.getElem?_eq_getElem hlt, hy]; rfl)
      have HMM := hidden (show y ∈ l by rw [hy]; exact List.getElem_mem hlt)
      have HLT := hidden hlt
      clear hy hlt
      by_cases he : h = y
      · subst he
        have HD := hidden (show decide (h ∈ l) = true by simpa using HMM.out)
        go_wp2_with fail
        go_ret
        exact ⟨⟨(k : Int), rfl, by rw [HD.out]; simp⟩, rfl⟩
      · have d1 : (h == y) = false := by simpa using he
        have HN := hidden (show ¬ h ∈ l.take (k + 1) by rw [HTK.out]; simp only [List.mem_append, List.mem_singleton]; rintro (h1 | h1); exact HNI.out h1; exact he h1)
        clear he
        go_wp2_with fail
        go_roundw
        case rel => exact ⟨k + 1, HLT.out, by go_num, HN.out, rfl⟩
        case measure => have := HLT.out; simp [intOf]; omega
    · have hke : k = l.length := by omega
      have hd : decide (k < l.length) = false := by simpa using hlt
      have hd2 : decide ((k : Int) < (l.length : Int)) = false := by simpa using hlt
      have HD := hidden (show decide (h ∈ l) = false by have := HNI.out; rw [hke, List.take_length] at this; simpa using this)
      clear hke hlt
      go_wp2_with fail
      go_ret
      exact ⟨⟨-1, rfl, by rw [HD.out]; rfl⟩, rfl⟩
theorem qcontains_any (v : Value) (l : List Nat) (h : Nat) (w : World) (hv : IsW w v l) (hl : l.length ≤ 1000000) :
    Calls Tryz.prog 75 #[v, .int .u64 (h : Int)] w fun e w' => e = .returned (.bool (decide (h ∈ l))) ∧ w' = w := by
  have HI := hidden (qindex_any v l h w hv hl)
  go_enter Tryz.func75, Tryz.ntmps75
  go_wp2_with (go_at_call 126; refine (HI.out).mono ?_; rintro e w2 ⟨⟨r, rfl, hr⟩, rfl⟩; have HR := hidden hr; clear hr)
  go_ret
  exact ⟨by first | (rw [HR.out]; done) | (rw [HR.out]; rfl), rfl⟩
def minL : List Int → Int
  | [] => 0
  | x :: r => r.foldl min x
theorem minL_snoc (l : List Int) (x y : Int) : minL (x :: l ++ [y]) = min (minL (x :: l)) y := by simp [minL]
def MinRel (w : World) (l : List Int) (m i : Value) (wr : World) : Prop := ∃ k : Nat, 1 ≤ k ∧ k ≤ l.length ∧ i = .int .i64 (k : Int) ∧ m = .int .i64 (minL (l.take k)) ∧ wr = w
set_option maxHeartbeats 2000000 in
theorem qmin_any (v : Value) (l : List Int) (w : World) (hv : Reads w v (icells l)) (h0 : 0 < l.length) (hl : l.length ≤ 1000000) :
    Calls Tryz.prog 127 #[v] w fun e w' => e = .returned (.int .i64 (minL l)) ∧ w' = w := by
  obtain ⟨A, c, rfl, -, hc⟩ := hv
  obtain ⟨b, off, rfl, hck⟩ := hc (by rw [icells_length]; exact h0)
  have HCK := hidden (fun k (hk : k < l.length) => (hck k (by rw [icells_length]; exact hk)).trans (icells_get hk))
  rw [icells_length]
  obtain ⟨x, r, hxr⟩ : ∃ x r, l = x :: r := by
    cases l with
    | nil => simp at h0
    | cons x r => exact ⟨x, r, rfl⟩
  have hx := HCK.out 0 h0
  have e0 : l[0] = x := by subst hxr; rfl
  rw [e0, Nat.add_zero] at hx
  have HXR := hidden hxr
  clear hc hck e0 hxr
  have d0 : decide (l.length < 1) = false := decide_eq_false (by omega)
  have d1 : decide ((l.length : Int) < 1) = false := decide_eq_false (by omega)
  have d2 : (0 : Int) < (l.length : Int) := by omega
  go_enter Tryz.func127, Tryz.ntmps127
  go_wp2_with fail
  go_loopw [3, 4] (fun m i wr => MinRel w l m i wr) (fun _ i _ => l.length - (intOf i).toNat)
  case atStart => exact ⟨1, Nat.le_refl _, h0, rfl, by rw [HXR.out]; rfl, rfl⟩
  case round =>
    obtain ⟨k, hk1, hk, rfl, rfl, rfl⟩ := hrel
    by_cases hlt : k < l.length
    · have hck := HCK.out k hlt
      have hd : decide (k < l.length) = true := by simpa using hlt
      have hd2 : decide ((k : Int) < (l.length : Int)) = true := by simpa using hlt
      have hk0 : (0 : Int) ≤ (k : Int) := by omega
      have hk2 : (k : Int) < (l.length : Int) := by omega
      have HTK := hidden (show minL (l.take (k + 1)) = min (minL (l.take k)) l[k] by
        rw [List.take_add_one, List.getElem?_eq_getElem hlt]
        obtain ⟨j, rfl⟩ : ∃ j, k = j + 1 := ⟨k - 1, by omega⟩
        generalize l[j + 1] = y
        rw [HXR.out, List.take_succ_cons]
        exact minL_snoc _ _ _)
      generalize l[k] = y at *
      generalize minL (l.take k) = m at *
      have HLT := hidden hlt
      clear hlt
      go_wp2_with fail
      go_roundw
      case rel => exact ⟨k + 1, by omega, HLT.out, by go_num, by rw [HTK.out]; first | done | rfl | (congr 1; omega), rfl⟩
      case measure => have := HLT.out; simp [intOf]; omega
    · have hke : k = l.length := by omega
      have hd : decide (k < l.length) = false := by simpa using hlt
      have hd2 : decide ((k : Int) < (l.length : Int)) = false := by simpa using hlt
      go_wp2_with fail
      go_ret
      exact ⟨by first | (rw [hke, List.take_length]; done) | (rw [hke, List.take_length]; rfl), rfl⟩
def posN (r : Nat) (x : Val) : Nat := hashR (mix (4 + r)) [x] % 64
theorem posN_lt (r : Nat) (x : Val) : posN r x < 64 := Nat.mod_lt _ (by decide)
set_option maxHeartbeats 2000000 in
theorem qposition_any (r : Nat) (x : Val) (w : World) (hr : r ≤ 3) (hv : validV x.k x.n x.t = true) :
    Calls Tryz.prog 111 #[.int .i64 (r : Int), .agg #[.int .i64 x.k, .int .i64 x.n, .string x.t]] w fun e w' => e = .returned (.int .i64 (posN r x : Int)) ∧ Grows w w' := by
  have HG := hidden ((growK w (.cells #[.int .i64 x.k, .int .i64 x.n, .string x.t] 35)).of_below (growK _ (.cells #[.int .i64 x.k, .int .i64 x.n, .string x.t] 35)))
  have HRV := hidden (show ReadsV ((w.alloc (.cells #[.int .i64 x.k, .int .i64 x.n, .string x.t] 35)).alloc (.cells #[.int .i64 x.k, .int .i64 x.n, .string x.t] 35)) (.slice (some ⟨w.heap.size + 1, 0, none⟩) 1 1) [x] by
    have h := readsV_one (w.alloc (.cells #[.int .i64 x.k, .int .i64 x.n, .string x.t] 35)) x
    have e : (w.alloc (.cells #[.int .i64 x.k, .int .i64 x.n, .string x.t] 35)).heap.size = w.heap.size + 1 := by simp
    rwa [e] at h)
  have HH := hidden (fun (s : Nat) W v (hs : s < 18446744073709551616) (hr : ReadsV W v [x]) => lhash_any s v [x] W hs hr (by simp) (by simp [validL, hv]))
  have HLT := hidden (fun (s : Nat) => hashR_lt (mix s) mix_lt [x])
  clear hv
  have hrr : r = 0 ∨ r = 1 ∨ r = 2 ∨ r = 3 := by omega
  clear hr
  rcases hrr with rfl | rfl | rfl | rfl
  · have HC := hidden (show hashR (mix 4) [x] % 64 = posN 0 x from rfl)
    have HM := hidden (show Nat.mod (hashR (mix 4) [x]) 64 < 64 from Nat.mod_lt _ (by decide))
    go_enter Tryz.func111, Tryz.ntmps111
    go_wp2_with fail
    refine (HH.out 4 _ _ (by decide) HRV.out).mono ?_
    rintro e w2 ⟨rfl, g2⟩
    have HG2 := hidden (HG.out.of_below g2)
    clear g2
    obtain ⟨hh, hhe⟩ : ∃ hh, hh = hashR (mix 4) [x] := ⟨_, rfl⟩
    have hhl : hh < 18446744073709551616 := by rw [hhe]; exact HLT.out 4
    rw [← hhe] at HC
    rw [← hhe]
    clear hhe
    go_wp2_with fail
    go_ret
    refine ⟨?_, HG2.out⟩
    rw [← HC.out]
    have e : ((hh % 64 : Nat) : Int) = (hh : Int) % 64 := by omega
    rw [e]
    first | done | rfl
  · have HC := hidden (show hashR (mix 5) [x] % 64 = posN 1 x from rfl)
    have HM := hidden (show Nat.mod (hashR (mix 5) [x]) 64 < 64 from Nat.mod_lt _ (by decide))
    go_enter Tryz.func111, Tryz.ntmps111
    go_wp2_with fail
    refine (HH.out 5 _ _ (by decide) HRV.out).mono ?_
    rintro e w2 ⟨rfl, g2⟩
    have HG2 := hidden (HG.out.of_below g2)
    clear g2
    obtain ⟨hh, hhe⟩ : ∃ hh, hh = hashR (mix 5) [x] := ⟨_, rfl⟩
    have hhl : hh < 18446744073709551616 := by rw [hhe]; exact HLT.out 5
    rw [← hhe] at HC
    rw [← hhe]
    clear hhe
    go_wp2_with fail
    go_ret
    refine ⟨?_, HG2.out⟩
    rw [← HC.out]
    have e : ((hh % 64 : Nat) : Int) = (hh : Int) % 64 := by omega
    rw [e]
    first | done | rfl
  · have HC := hidden (show hashR (mix 6) [x] % 64 = posN 2 x from rfl)
    have HM := hidden (show Nat.mod (hashR (mix 6) [x]) 64 < 64 from Nat.mod_lt _ (by decide))
    go_enter Tryz.func111, Tryz.ntmps111
    go_wp2_with fail
    refine (HH.out 6 _ _ (by decide) HRV.out).mono ?_
    rintro e w2 ⟨rfl, g2⟩
    have HG2 := hidden (HG.out.of_below g2)
    clear g2
    obtain ⟨hh, hhe⟩ : ∃ hh, hh = hashR (mix 6) [x] := ⟨_, rfl⟩
    have hhl : hh < 18446744073709551616 := by rw [hhe]; exact HLT.out 6
    rw [← hhe] at HC
    rw [← hhe]
    clear hhe
    go_wp2_with fail
    go_ret
    refine ⟨?_, HG2.out⟩
    rw [← HC.out]
    have e : ((hh % 64 : Nat) : Int) = (hh : Int) % 64 := by omega
    rw [e]
    first | done | rfl
  · have HC := hidden (show hashR (mix 7) [x] % 64 = posN 3 x from rfl)
    have HM := hidden (show Nat.mod (hashR (mix 7) [x]) 64 < 64 from Nat.mod_lt _ (by decide))
    go_enter Tryz.func111, Tryz.ntmps111
    go_wp2_with fail
    refine (HH.out 7 _ _ (by decide) HRV.out).mono ?_
    rintro e w2 ⟨rfl, g2⟩
    have HG2 := hidden (HG.out.of_below g2)
    clear g2
    obtain ⟨hh, hhe⟩ : ∃ hh, hh = hashR (mix 7) [x] := ⟨_, rfl⟩
    have hhl : hh < 18446744073709551616 := by rw [hhe]; exact HLT.out 7
    rw [← hhe] at HC
    rw [← hhe]
    clear hhe
    go_wp2_with fail
    go_ret
    refine ⟨?_, HG2.out⟩
    rw [← HC.out]
    have e : ((hh % 64 : Nat) : Int) = (hh : Int) % 64 := by omega
    rw [e]
    first | done | rfl
end Go.Proofs.YtoaklmceejeblaaGreat
