/-
  Texts that the claims of this seat share, put together (Bm1, Bm2, BmP1, BmR1, BmP2, BmP3). No condition.
-/
import Derived.Test.YtgegjoggiadgbaaM19
import Derived.Test.YtgegjoggiadgbaaM10
import Derived.Test.YtgegjoggiadgbaaM4
import Derived.Test.YtgegjoggiadgbaaM13
import Derived.Test.YtgegjoggiadgbaaM8
import Derived.Test.YtgegjoggiadgbaaM18
import Derived.Test.YtgegjoggiadgbaaM9
/-
  Shaken: what the claims of this seat need of this text. No condition.
-/
namespace Go.Proofs.Ytgegjoggiadgbaa
set_option maxRecDepth 8000
open Go.RowKit
set_option linter.unusedVariables false
def SizeRel (b : Nat) (v : Value) : Prop := ∃ k n : Nat, k ≤ 10 ∧ n = 64 * 2 ^ (10 - k) ∧ v = .int .i64 (n : Int) ∧ dbl k n b = sizeN b
def sizeLeft (v : Value) : Nat := 131072 - (intOf v).toNat
theorem size_round {b k n : Nat} (hb : b ≤ 65536) (hk : k ≤ 10) (hn : n = 64 * 2 ^ (10 - k)) (hd : dbl k n b = sizeN b) (hlt : n < b) :
    ∃ k', k' ≤ 10 ∧ 2 * n = 64 * 2 ^ (10 - k') ∧ dbl k' (2 * n) b = sizeN b := by
  cases k with
  | zero =>
    have h1 : (2 : Nat) ^ (10 - 0) = 1024 := rfl
    rw [h1] at hn
    omega
  | succ k =>
    refine ⟨k, by omega, ?_, ?_⟩
    · rw [hn, show 10 - k = (10 - (k + 1)) + 1 by omega, Nat.pow_succ]; omega
    · rw [← hd, dbl_go hlt]
theorem size_bd {k n : Nat} (hn : n = 64 * 2 ^ (10 - k)) : n ≤ 65536 ∧ 64 ≤ n := by
  have h1 : (2 : Nat) ^ (10 - k) ≤ 2 ^ 10 := Nat.pow_le_pow_right (by omega) (by omega)
  have h2 : 1 ≤ (2 : Nat) ^ (10 - k) := Nat.one_le_two_pow
  have h3 : (2 : Nat) ^ 10 = 1024 := rfl
  omega
set_option maxHeartbeats 400000 in
theorem sizeFor_any (b : Nat) (w : World) (hb : b ≤ 65536) :
    Calls Try.prog 25 #[.int .i64 (b : Int)] w fun e w' => e = .returned (.int .i64 (sizeN b : Int)) ∧ w' = w := by
  go_enter Try.func25, Try.ntmps25
  go_wp2_with fail
  go_loopw [3] (fun v wr => SizeRel b v ∧ wr = w) (fun v _ => sizeLeft v)
  case atStart => exact ⟨⟨10, 64, by omega, rfl, rfl, rfl⟩, rfl⟩
  case round =>
    obtain ⟨⟨k, n, hk, hn, rfl, hd⟩, rfl⟩ := hrel
    obtain ⟨hn1, hn2⟩ := size_bd hn
    have HN := hidden hn
    have HD := hidden hd
    clear hn hd
    by_cases hlt : n < b
    · have hdd : decide (n < b) = true := by simpa using hlt
      obtain ⟨k', h1, h2, h3⟩ := size_round hb hk HN.out HD.out hlt
      have H2 := hidden h2
      have H3 := hidden h3
      clear h2 h3
      go_wp2_with fail
      go_roundw
      case rel => exact ⟨⟨k', 2 * n, h1, H2.out, by go_num, H3.out⟩, by trivial⟩
      case measure => simp [sizeLeft, intOf]; omega
    · have hdd : decide (n < b) = false := by simpa using hlt
      have HS := hidden (dbl_stop (k := k) (show b ≤ n by omega))
      go_wp2_with fail
      go_ret
      exact ⟨by rw [← HD.out, HS.out]; rfl, rfl⟩
set_option maxHeartbeats 400000 in
theorem rsize_any (n b : Nat) (w : World) (hb : n * b ≤ 65536) :
    Calls Try.prog 29 #[.int .i64 (n : Int), .int .i64 (b : Int)] w fun e w' => e = .returned (.int .i64 (sizeN (n * b) : Int)) ∧ w' = w := by
  have hm : IntKind.i64.wrap ((n : Int) * (b : Int)) = ((n * b : Nat) : Int) := by rw [IntKind.wrap_i64]; push_cast; omega
  generalize n * b = c at *
  go_enter Try.func29, Try.ntmps29
  go_wp2_with fail
  go_loopw [5] (fun v wr => SizeRel c v ∧ wr = w) (fun v _ => sizeLeft v)
  case atStart => exact ⟨⟨10, 64, by omega, rfl, rfl, rfl⟩, rfl⟩
  case round =>
    obtain ⟨⟨k, m, hk, hn, rfl, hd⟩, rfl⟩ := hrel
    obtain ⟨hn1, hn2⟩ := size_bd hn
    have HN := hidden hn
    have HD := hidden hd
    clear hn hd
    by_cases hlt : m < c
    · have hdd : decide (m < c) = true := by simpa using hlt
      have hdd2 : decide ((m : Int) < (c : Int)) = true := by simpa using hlt
      obtain ⟨k', h1, h2, h3⟩ := size_round hb hk HN.out HD.out hlt
      have H2 := hidden h2
      have H3 := hidden h3
      clear h2 h3
      go_wp2_with fail
      go_roundw
      case rel => exact ⟨⟨k', 2 * m, h1, H2.out, by go_num, H3.out⟩, by trivial⟩
      case measure => simp [sizeLeft, intOf]; omega
    · have hdd : decide (m < c) = false := by simpa using hlt
      have hdd2 : decide ((m : Int) < (c : Int)) = false := by simpa using hlt
      have HS := hidden (dbl_stop (k := k) (show c ≤ m by omega))
      go_wp2_with fail
      go_ret
      exact ⟨by rw [← HD.out, HS.out]; rfl, rfl⟩
theorem params_any (h n : Int) (w : World) (h1 : -9223372036854775808 ≤ h) (h2 : h ≤ 9223372036854775807) (n1 : -9223372036854775808 ≤ n) (n2 : n ≤ 9223372036854775807) :
    Calls Try.prog 34 #[.int .i64 h, .int .i64 n] w fun e w' => e = .returned (.bool (okP h n)) ∧ w' = w := by
  by_cases c1 : h = 0
  · subst c1
    have HO := hidden (okP_zero n)
    go_enter Try.func34, Try.ntmps34
    go_wp2
    go_ret
    exact ⟨by rw [HO.out]; rfl, rfl⟩
  have d1 : (h == 0) = false := by simpa using c1
  by_cases c2 : ¬ 1 ≤ h
  · have HO := hidden (okP_lt (n := n) c1 c2)
    have d2 : decide (1 ≤ h) = false := by simpa using c2
    clear c1 c2
    go_enter Try.func34, Try.ntmps34
    go_wp2
    go_ret
    exact ⟨by rw [HO.out]; rfl, rfl⟩
  have c2' : 1 ≤ h := by omega
  have d2 : decide (1 ≤ h) = true := by simpa using c2'
  by_cases c3 : ¬ h ≤ 11
  · have HO := hidden (okP_gt (n := n) c1 c2' c3)
    have d3 : decide (h ≤ 11) = false := by simpa using c3
    clear c1 c2 c3 c2'
    go_enter Try.func34, Try.ntmps34
    go_wp2
    go_ret
    exact ⟨by rw [HO.out]; rfl, rfl⟩
  have c3' : h ≤ 11 := by omega
  have d3 : decide (h ≤ 11) = true := by simpa using c3'
  by_cases c4 : ¬ 64 ≤ n
  · have HO := hidden (okP_nlt c1 c2' c3' c4)
    have d4 : decide (64 ≤ n) = false := by simpa using c4
    clear c1 c2 c3 c2' c3' c4
    go_enter Try.func34, Try.ntmps34
    go_wp2
    go_ret
    exact ⟨by rw [HO.out]; rfl, rfl⟩
  have c4' : 64 ≤ n := by omega
  have d4 : decide (64 ≤ n) = true := by simpa using c4'
  by_cases c5 : ¬ n ≤ 65536
  · have HO := hidden (okP_ngt c1 c2' c3' c4' c5)
    have d5 : decide (n ≤ 65536) = false := by simpa using c5
    clear c1 c2 c3 c2' c3' c4 c4' c5
    go_enter Try.func34, Try.ntmps34
    go_wp2
    go_ret
    exact ⟨by rw [HO.out]; rfl, rfl⟩
  have c5' : n ≤ 65536 := by omega
  have d5 : decide (n ≤ 65536) = true := by simpa using c5'
  have HO := hidden (okP_in c1 c2' c3' c4' c5')
  clear c1 c2 c3 c2' c3' c4 c5
  go_enter Try.func34, Try.ntmps34
  go_wp2
  go_ret
  exact ⟨by rw [HO.out]; rfl, rfl⟩
theorem rshape_any (h n : Int) (w : World) (h1 : -9223372036854775808 ≤ h) (h2 : h ≤ 9223372036854775807) (n1 : -9223372036854775808 ≤ n) (n2 : n ≤ 9223372036854775807) :
    Calls Try.prog 36 #[.int .i64 h, .int .i64 n] w fun e w' => e = .returned (.bool (okP h n)) ∧ w' = w := by
  by_cases c1 : h = 0
  · subst c1
    have HO := hidden (okP_zero n)
    by_cases c0 : n = 0
    · subst c0
      go_enter Try.func36, Try.ntmps36
      go_wp2
      go_ret
      exact ⟨by rw [HO.out]; rfl, rfl⟩
    · have d0 : (n == 0) = false := by simpa using c0
      have d2 : decide ((1 : Int) ≤ 0) = false := by decide
      clear c0
      go_enter Try.func36, Try.ntmps36
      go_wp2
      go_ret
      exact ⟨by rw [HO.out, d0]; rfl, rfl⟩
  have d1 : (h == 0) = false := by simpa using c1
  by_cases c2 : ¬ 1 ≤ h
  · have HO := hidden (okP_lt (n := n) c1 c2)
    have d2 : decide (1 ≤ h) = false := by simpa using c2
    clear c1 c2
    go_enter Try.func36, Try.ntmps36
    go_wp2
    go_ret
    exact ⟨by rw [HO.out]; rfl, rfl⟩
  have c2' : 1 ≤ h := by omega
  have d2 : decide (1 ≤ h) = true := by simpa using c2'
  by_cases c3 : ¬ h ≤ 11
  · have HO := hidden (okP_gt (n := n) c1 c2' c3)
    have d3 : decide (h ≤ 11) = false := by simpa using c3
    clear c1 c2 c3 c2'
    go_enter Try.func36, Try.ntmps36
    go_wp2
    go_ret
    exact ⟨by rw [HO.out]; rfl, rfl⟩
  have c3' : h ≤ 11 := by omega
  have d3 : decide (h ≤ 11) = true := by simpa using c3'
  by_cases c4 : ¬ 64 ≤ n
  · have HO := hidden (okP_nlt c1 c2' c3' c4)
    have d4 : decide (64 ≤ n) = false := by simpa using c4
    clear c1 c2 c3 c2' c3' c4
    go_enter Try.func36, Try.ntmps36
    go_wp2
    go_ret
    exact ⟨by rw [HO.out]; rfl, rfl⟩
  have c4' : 64 ≤ n := by omega
  have d4 : decide (64 ≤ n) = true := by simpa using c4'
  by_cases c5 : ¬ n ≤ 65536
  · have HO := hidden (okP_ngt c1 c2' c3' c4' c5)
    have d5 : decide (n ≤ 65536) = false := by simpa using c5
    clear c1 c2 c3 c2' c3' c4 c4' c5
    go_enter Try.func36, Try.ntmps36
    go_wp2
    go_ret
    exact ⟨by rw [HO.out]; rfl, rfl⟩
  have c5' : n ≤ 65536 := by omega
  have d5 : decide (n ≤ 65536) = true := by simpa using c5'
  have HO := hidden (okP_in c1 c2' c3' c4' c5')
  clear c1 c2 c3 c2' c3' c4 c5
  go_enter Try.func36, Try.ntmps36
  go_wp2
  go_ret
  exact ⟨by rw [HO.out]; rfl, rfl⟩
end Go.Proofs.Ytgegjoggiadgbaa
/-
  Shaken: what the claims of this seat need of this text. No condition.
-/
namespace Go.Proofs.Ytgegjoggiadgbaa
set_option maxRecDepth 8000
open Go.RowKit
set_option linter.unusedVariables false
theorem growB (w : World) (o : Obj) : Grows w (w.alloc o) := (Below.refl _ _).alloc (Nat.le_refl _) o
def IsF (w : World) (v : Value) (h n : Int) (ws : List UInt64) : Prop := ∃ u, v = .agg #[.int .i64 h, .int .i64 n, u] ∧ Reads w u (ucells ws) ∧ ws.length ≤ 9223372036854775807
theorem IsF.grow {w w' : World} {v : Value} {h n : Int} {ws : List UInt64} (x : IsF w v h n ws) (hb : Grows w w') : IsF w' v h n ws := by
  obtain ⟨u, h1, h2, h3⟩ := x
  exact ⟨u, h1, h2.grow hb, h3⟩
def BldR (bits : Int) (l : List Val) (w : World) (e : Ending) (w' : World) : Prop := ∃ v, e = .returned v ∧ IsF w' v (buildH bits) (buildN bits l.length) (buildW bits l) ∧ Grows w w'
def I64 (n : Int) : Prop := -9223372036854775808 ≤ n ∧ n ≤ 9223372036854775807
set_option maxHeartbeats 400000 in
theorem bvalid_any (v : Value) (h n : Int) (ws : List UInt64) (w : World) (hx : IsF w v h n ws) (hh : I64 h) (hn : I64 n) :
    Calls Try.prog 16 #[v] w fun e w' => e = .returned (.bool (validFB h n ws)) ∧ Grows w w' := by
  obtain ⟨u, rfl, hr, hl⟩ := hx
  have HG := hidden (show ∀ o, Grows w (w.alloc o) from fun o => (Below.refl _ _).alloc (Nat.le_refl _) o)
  have HR := hidden hr
  have HP := hidden (fun w => params_any h n w hh.1 hh.2 hn.1 hn.2)
  have HV := hidden (fun s w hs => ck_valid s n ws w hs hn.1 hn.2)
  have HB := hidden (show validFB h n ws = (okP h n && validI n ws) from rfl)
  clear hr hh hn
  obtain ⟨A, c, rfl, _⟩ := HR.out.slice_
  generalize validI n ws = b2 at *
  cases hb : okP h n
  all_goals
    rw [hb] at HP HB
    clear hb
    go_enter Try.func16, Try.ntmps16
    go_wp2_with fail
    refine (HP.out _).mono ?_
    rintro e w1 ⟨rfl, rfl⟩
    go_wp2_with fail
  · go_ret
    exact ⟨by rw [HB.out]; rfl, HG.out _⟩
  · refine (HV.out _ _ ⟨_, rfl, HR.out.grow (HG.out _), hl⟩).mono ?_
    rintro e w2 ⟨rfl, g2⟩
    have HG2 := hidden ((HG.out _).of_below g2)
    clear g2
    go_wp2_with fail
    go_ret
    exact ⟨by rw [HB.out]; rfl, HG2.out⟩
set_option maxHeartbeats 400000 in
theorem rbvalid_any (v : Value) (h n : Int) (ws : List UInt64) (w : World) (hx : IsF w v h n ws) (hh : I64 h) (hn : I64 n) :
    Calls Try.prog 17 #[v] w fun e w' => e = .returned (.bool (validFB h n ws)) ∧ Grows w w' := by
  obtain ⟨u, rfl, hr, hl⟩ := hx
  have HG := hidden (show ∀ o, Grows w (w.alloc o) from fun o => (Below.refl _ _).alloc (Nat.le_refl _) o)
  have HR := hidden hr
  have HP := hidden (fun w => rshape_any h n w hh.1 hh.2 hn.1 hn.2)
  have HV := hidden (fun s w hs => rvalid_any s n ws w hs hn.1 hn.2)
  have HB := hidden (show validFB h n ws = (okP h n && validI n ws) from rfl)
  clear hr hh hn
  obtain ⟨A, c, rfl, _⟩ := HR.out.slice_
  generalize validI n ws = b2 at *
  cases hb : okP h n
  all_goals
    rw [hb] at HP HB
    clear hb
    go_enter Try.func17, Try.ntmps17
    go_wp2_with fail
    refine (HP.out _).mono ?_
    rintro e w1 ⟨rfl, rfl⟩
    go_wp2_with fail
  · go_ret
    exact ⟨by rw [HB.out]; rfl, HG.out _⟩
  · refine (HV.out _ _ ⟨_, rfl, HR.out.grow (HG.out _), hl⟩).mono ?_
    rintro e w2 ⟨rfl, g2⟩
    have HG2 := hidden ((HG.out _).of_below g2)
    clear g2
    go_wp2_with fail
    go_ret
    exact ⟨by rw [HB.out]; rfl, HG2.out⟩
end Go.Proofs.Ytgegjoggiadgbaa
/-
  Shaken: what the claims of this seat need of this text. No condition.
-/
namespace Go.Proofs.Ytgegjoggiadgbaa
set_option maxRecDepth 8000
open Go.RowKit
set_option linter.unusedVariables false
set_option linter.unusedSimpArgs false
structure ProT (n0 h : Nat) (a b : World) : Prop where
  low : ∀ w0, w0.heap.size = n0 → Grows w0 a → Grows w0 b
  size : a.heap.size ≤ b.heap.size
  row : ∀ g e ys, e ≠ 53 → Row a g e ys → Row b g e ys
  one : ∀ g (c : Nat), Row a g 53 [.int .u64 (c : Int)] → Row b g 53 [.int .u64 (c : Int)] ∨ Row b g 53 [.int .u64 (h : Int)]
theorem ProT.re (n0 h : Nat) (w : World) : ProT n0 h w w := ⟨fun _ _ x => x, Nat.le_refl _, fun _ _ _ _ x => x, fun _ _ x => .inl x⟩
theorem ProT.tr {n0 h : Nat} {a b c : World} (x : ProT n0 h a b) (y : ProT n0 h b c) : ProT n0 h a c :=
  ⟨fun w0 e z => y.low w0 e (x.low w0 e z), Nat.le_trans x.size y.size, fun g e ys he hr => y.row g e ys he (x.row g e ys he hr), fun g k hr => by
    rcases x.one g k hr with h1 | h1
    · exact y.one g k h1
    · rcases y.one g h h1 with h2 | h2
      · exact .inr h2
      · exact .inr h2⟩
theorem ProT.dr (n0 h : Nat) (w : World) : ProT n0 h w { w with drawn := w.drawn + 1 } :=
  ⟨fun _ _ x => ⟨x.os, x.tape, x.output, x.size, x.block⟩, Nat.le_refl _, fun _ _ _ _ x => x, fun _ _ x => .inl x⟩
abbrev proSte (n0 h : Nat) : SteQ := ⟨ProT n0 h, ProT.re n0 h, ProT.tr, ProT.dr n0 h⟩
theorem ProT.grows {n0 h : Nat} {a b : World} (x : Grows a b) : ProT n0 h a b :=
  ⟨fun _ _ y => y.of_below x, x.size, fun _ _ _ _ y => y.grow x, fun _ _ y => .inl (y.grow x)⟩
theorem ProT.store {n0 h b c : Nat} {w : World} (hb : n0 ≤ b) (hr : Row w b 53 [.int .u64 (c : Int)]) : ProT n0 h w (w.setCell ⟨b, 0, none⟩ (.int .u64 (h : Int))) := by
  refine ⟨fun w0 e x => x.setCell (p := ⟨b, 0, none⟩) (by show _ ≤ b; omega) _, by simp [World.setCell], fun g e ys he y => ?_, fun g k y => ?_⟩
  · refine y.set_other ?_ _
    show b ≠ g
    rintro rfl
    unfold Row at y hr
    rw [y] at hr
    injection hr with hr
    injection hr with _ h2
    exact he h2
  · by_cases hg : b = g
    · subst hg
      exact .inr (y.set_ 0 _)
    · exact .inl (y.set_other hg _)
def SlV (x : Val) : Value → World → Prop := fun v w => ∃ b, v = .slice (some ⟨b, 0, none⟩) 1 1 ∧ Row w b 24 x.cells
theorem SlV.reads {x : Val} {v : Value} {w : World} (h : SlV x v w) : ReadsV w v [x] := by
  obtain ⟨b, rfl, hr⟩ := h
  refine ⟨_, 1, rfl, Nat.le_refl _, fun _ => ⟨b, 0, rfl, fun j y hj => ?_⟩⟩
  have hj0 : j = 0 := by
    rcases Nat.eq_zero_or_pos j with h | h
    · exact h
    · rw [List.getElem?_eq_none (by simp; omega)] at hj; cases hj
  subst hj0
  have e : x = y := by simpa using hj
  subst e
  exact ⟨hr.cell 0, hr.cell 1, hr.cell 2⟩
def BoxV (n0 : Nat) : Value → World → Prop := fun v w => ∃ b c : Nat, v = .pointer (some ⟨b, 0, none⟩) ∧ n0 ≤ b ∧ Row w b 53 [.int .u64 (c : Int)]
theorem BoxV.lasts {n0 h : Nat} : ∀ (s v : Value) w w', BoxV n0 v w → ProT n0 h w w' → BoxV n0 v w' := fun _ _ _ _ ⟨b, c, h1, h2, h3⟩ ht => by
  rcases ht.one b c h3 with h4 | h4
  · exact ⟨b, c, h1, h2, h4⟩
  · exact ⟨b, _, h1, h2, h4⟩
theorem SlV.lastsP {x : Val} {n0 h : Nat} : ∀ (s v : Value) w w', SlV x v w → ProT n0 h w w' → SlV x v w' := fun _ _ _ _ ⟨b, h1, h2⟩ ht => ⟨b, h1, ht.row _ _ _ (by decide) h2⟩
def allocU (op : Op) : Bool := match op with
  | .alloc t => t == 53
  | _ => false
def makesU (ops : Array Oper) (D : List Tmp) : Bool := ops.all fun o => match o.dst with
  | some t => !D.contains t || allocU o.op
  | none => true
theorem exec_alloc_u {o : Oper} (ho : o.op = .alloc 53) (a : Act) (w : World) :
    (execOp a.eval o).run Try.prog w = .ok (.value (.pointer (some ⟨w.heap.size, 0, none⟩))) (w.alloc (.cells #[.int .u64 0] 53)) := by
  unfold execOp
  simp only [ho]
  first | rfl | go_simp
theorem makes_u {ops : Array Oper} {D : List Tmp} (h : makesU ops D = true) : Makes Try.prog ops D := by
  intro i o hi t ht hd a w
  unfold makesU at h
  rw [Array.all_eq_true] at h
  obtain ⟨hlt, he⟩ := Array.getElem?_eq_some_iff.1 hi
  have h1 := h i hlt
  rw [he, hd] at h1
  simp only [Bool.or_eq_true, Bool.not_eq_true'] at h1
  rcases h1 with h1 | h1
  · rw [List.contains_eq_mem] at h1
    simp [ht] at h1
  · unfold allocU at h1
    split at h1
    · rename_i t' hop
      have ht' : t' = 53 := by simpa using h1
      rw [ht'] at hop
      exact ⟨_, _, exec_alloc_u hop a w, Nat.le_refl _, by simp⟩
    · cases h1
structure Probed (h g m n : Nat) (b4 b7 b8 b5 : Nat) (W : World) : Prop where
  hash : Row W b7 53 [.int .u64 (h : Int)]
  step : Row W b8 53 [.int .u64 (g : Int)]
  many : Row W b4 3 [.int .i64 (m : Int)]
  size : Row W b5 3 [.int .i64 (n : Int)]
def ProR (x : Val) (m n : Nat) (w : World) (e : Ending) (W : World) : Prop :=
  ∃ b4 b7 b8 b5, e = .returned (.func (.func 50) #[] #[.pointer (some ⟨b4, 0, none⟩), .pointer (some ⟨b7, 0, none⟩), .pointer (some ⟨b8, 0, none⟩), .pointer (some ⟨b5, 0, none⟩)]) ∧ Probed (hA x) (gA x) m n b4 b7 b8 b5 W ∧ (w.heap.size ≤ b4 ∧ w.heap.size ≤ b7 ∧ w.heap.size ≤ b8 ∧ w.heap.size ≤ b5) ∧ Grows w W
set_option maxHeartbeats 2000000 in
theorem probes_any (x : Val) (m n : Nat) (w : World) (hv : validV x.k x.n x.t = true) :
    Calls Try.prog 26 #[x.v, .int .i64 (m : Int), .int .i64 (n : Int)] w (ProR x m n w) := by
  have HH1 := hidden (fun W v (hr : SlV x v W) => lhash_any 1 v [x] W (by omega) hr.reads (by simp) (by simp [validL, hv]))
  have HH2 := hidden (fun W v (hr : SlV x v W) => lhash_any 2 v [x] W (by omega) hr.reads (by simp) (by simp [validL, hv]))
  rw [show hashR (mix 1) [x] = hA x from rfl] at HH1
  rw [show hashR (mix 2) [x] = gB x from rfl] at HH2
  have HOR := hidden (show bits .or .u64 (gB x : Int) 1 = (gA x : Int) from bits_or_u64_nat (gB x) 1 (gB_lt x) (by omega))
  unfold ProR
  generalize gA x = g at *
  generalize gB x = g0 at *
  generalize hA x = h at *
  unfold Val.v
  obtain ⟨W3, hW3⟩ : ∃ W3, W3 = ((w.alloc (.cells #[.int .i64 x.k, .int .i64 x.n, .string x.t] 24)).alloc (.cells #[.int .i64 (m : Int)] 3)).alloc (.cells #[.int .i64 (n : Int)] 3) := ⟨_, rfl⟩
  have HG3 := hidden (show Grows w W3 by rw [hW3]; exact ((growB _ _).of_below (growB _ _)).of_below (growB _ _))
  have HX := hidden (show Row W3 w.heap.size 24 x.cells by rw [hW3]; exact ((Row.new w 24 #[.int .i64 x.k, .int .i64 x.n, .string x.t] _ rfl).grow (growB _ _)).grow (growB _ _))
  have HM := hidden (show Row W3 (w.heap.size + 1) 3 [.int .i64 (m : Int)] by rw [hW3]; exact (Row.at_ (w.alloc _) 3 #[.int .i64 (m : Int)] _ rfl _ (by simp)).grow (growB _ _))
  have HN := hidden (show Row W3 (w.heap.size + 1 + 1) 3 [.int .i64 (n : Int)] by rw [hW3]; exact Row.at_ _ 3 #[.int .i64 (n : Int)] _ rfl _ (by simp))
  have HS3 := hidden (show W3.heap.size = w.heap.size + 3 by rw [hW3]; simp)
  go_enter Try.func26, Try.ntmps26
  go_wp2_with fail
  rw [← hW3]
  clear hW3
  letI : SteQ := proSte W3.heap.size h
  refine wp_region_loose_tailXD 10 (fun _ _ ht => (show ProT _ _ _ _ from ht).size) [7, 8] (tabX [(1, fun _ => SlV x), (2, fun _ v _ => v = .int .u64 (h : Int)), (4, fun _ => SlV x), (5, fun _ v _ => v = .int .u64 (g0 : Int)), (7, fun _ => BoxV W3.heap.size), (8, fun _ => BoxV W3.heap.size),
    (9, fun s _ w' => ∀ b, s = .pointer (some ⟨b, 0, none⟩) → Row w' b 53 [.int .u64 (h : Int)])]) (by kernel_rfl) (by kernel_rfl) ?_ ?_ ?_ ?_
  · exact tabX_cons SlV.lastsP (tabX_cons (fun _ _ _ _ h _ => h) (tabX_cons SlV.lastsP (tabX_cons (fun _ _ _ _ h _ => h) (tabX_cons BoxV.lasts (tabX_cons BoxV.lasts (tabX_cons (fun s v w w' hr ht b hb => ((show ProT _ _ _ _ from ht).one b h (hr b hb)).elim id id) tabX_nil))))))
  · exact makes_u (by kernel_rfl)
  · intro t ht A hA
    rcases List.mem_cons.1 ht with rfl | ht
    · cases hA
    · rcases List.mem_cons.1 ht with rfl | ht
      · cases hA
      · cases ht
  simp only [List.take_succ_cons, List.take_zero, List.drop_succ_cons, List.drop_zero]
  iterate 1 ((with_reducible refine loose_oneX (v := ?_) (a' := ?_) ?_ ?_ (fun w' hC' hG' => ?_) ?_ ?_); rotate_left 2; (focus rfl); (focus rfl); (focus (have hT := (show ProT _ _ W3 w' from hC'); have x0 := (hT.row _ _ _ (by decide) HX.out).cell 0; have x1 := (hT.row _ _ _ (by decide) HX.out).cell 1; have x2 := (hT.row _ _ _ (by decide) HX.out).cell 2; simp only [Val.cells, List.getElem?_cons_succ, List.getElem?_cons_zero] at x0 x1 x2; clear hC' hG' hT; go_simp; rfl)); (focus (go_simp; rfl)))
  refine loose_newX (R := fun _ => SlV x) (by rfl) (by rfl) (fun w' hC' hG' => ?_) ?_
  · exact ⟨.slice (some ⟨w'.heap.size, 0, none⟩) 1 1, w'.alloc (.cells #[.int .i64 x.k, .int .i64 x.n, .string x.t] 24), by first | rfl | go_simp, ProT.grows (growB _ _), w'.heap.size, rfl, Row.new w' 24 #[.int .i64 x.k, .int .i64 x.n, .string x.t] x.cells rfl⟩
  rintro _ ⟨_, _, b1, rfl, _⟩
  refine ⟨?_, ?_, ?_⟩
  rotate_left
  · go_simp
    rfl
  refine loose_callX (R := fun _ v _ => v = .int .u64 (h : Int)) (f := 49) (args := #[.int .u64 1, .slice (some ⟨b1, 0, none⟩) 1 1]) (by rfl) (by rfl) (fun _ => by go_simp) (fun w' hC' hG' => (HH1.out w' _ ((hG' 1 (by kernel_rfl)).2 rfl)).mono fun e w2 ⟨he, hg⟩ => ⟨_, he, ProT.grows hg, rfl⟩) ?_
  rintro _ ⟨_, _, rfl⟩
  refine ⟨?_, ?_, ?_⟩
  rotate_left
  · go_simp
    rfl
  iterate 1 ((with_reducible refine loose_oneX (v := ?_) (a' := ?_) ?_ ?_ (fun w' hC' hG' => ?_) ?_ ?_); rotate_left 2; (focus rfl); (focus rfl); (focus (have hT := (show ProT _ _ W3 w' from hC'); have x0 := (hT.row _ _ _ (by decide) HX.out).cell 0; have x1 := (hT.row _ _ _ (by decide) HX.out).cell 1; have x2 := (hT.row _ _ _ (by decide) HX.out).cell 2; simp only [Val.cells, List.getElem?_cons_succ, List.getElem?_cons_zero] at x0 x1 x2; clear hC' hG' hT; go_simp; rfl)); (focus (go_simp; rfl)))
  refine loose_newX (R := fun _ => SlV x) (by rfl) (by rfl) (fun w' hC' hG' => ?_) ?_
  · exact ⟨.slice (some ⟨w'.heap.size, 0, none⟩) 1 1, w'.alloc (.cells #[.int .i64 x.k, .int .i64 x.n, .string x.t] 24), by first | rfl | go_simp, ProT.grows (growB _ _), w'.heap.size, rfl, Row.new w' 24 #[.int .i64 x.k, .int .i64 x.n, .string x.t] x.cells rfl⟩
  rintro _ ⟨_, _, b4, rfl, _⟩
  refine ⟨?_, ?_, ?_⟩
  rotate_left
  · go_simp
    rfl
  refine loose_callX (R := fun _ v _ => v = .int .u64 (g0 : Int)) (f := 49) (args := #[.int .u64 2, .slice (some ⟨b4, 0, none⟩) 1 1]) (by rfl) (by rfl) (fun _ => by go_simp) (fun w' hC' hG' => (HH2.out w' _ ((hG' 4 (by kernel_rfl)).2 rfl)).mono fun e w2 ⟨he, hg⟩ => ⟨_, he, ProT.grows hg, rfl⟩) ?_
  rintro _ ⟨_, _, rfl⟩
  refine ⟨?_, ?_, ?_⟩
  rotate_left
  · go_simp
    rfl
  iterate 1 ((with_reducible refine loose_oneX (v := ?_) (a' := ?_) ?_ ?_ (fun w' hC' hG' => ?_) ?_ ?_); rotate_left 2; (focus rfl); (focus rfl); (focus (have hT := (show ProT _ _ W3 w' from hC'); have x0 := (hT.row _ _ _ (by decide) HX.out).cell 0; have x1 := (hT.row _ _ _ (by decide) HX.out).cell 1; have x2 := (hT.row _ _ _ (by decide) HX.out).cell 2; simp only [Val.cells, List.getElem?_cons_succ, List.getElem?_cons_zero] at x0 x1 x2; clear hC' hG' hT; go_simp; rfl)); (focus (go_simp; rfl)))
  refine loose_newX (R := fun _ => BoxV W3.heap.size) (by rfl) (by rfl) (fun w' hC' hG' => ?_) ?_
  · exact ⟨.pointer (some ⟨w'.heap.size, 0, none⟩), w'.alloc (.cells #[.int .u64 0] 53), by first | rfl | go_simp, ProT.grows (growB _ _), w'.heap.size, 0, rfl, (show ProT _ _ W3 w' from hC').size, Row.new w' 53 #[.int .u64 0] [.int .u64 0] rfl⟩
  rintro _ ⟨_, _, b7, c7, rfl, hb7, _⟩
  refine ⟨?_, ?_, ?_⟩
  rotate_left
  · go_simp
    rfl
  refine loose_newX (R := fun _ => BoxV W3.heap.size) (by rfl) (by rfl) (fun w' hC' hG' => ?_) ?_
  · exact ⟨.pointer (some ⟨w'.heap.size, 0, none⟩), w'.alloc (.cells #[.int .u64 0] 53), by first | rfl | go_simp, ProT.grows (growB _ _), w'.heap.size, 0, rfl, (show ProT _ _ W3 w' from hC').size, Row.new w' 53 #[.int .u64 0] [.int .u64 0] rfl⟩
  rintro _ ⟨_, _, b8, c8, rfl, hb8, _⟩
  refine ⟨?_, ?_, ?_⟩
  rotate_left
  · go_simp
    rfl
  refine loose_storeX (R := fun s _ w' => ∀ b, s = .pointer (some ⟨b, 0, none⟩) → Row w' b 53 [.int .u64 (h : Int)]) (by rfl) (by rfl) (fun w' hC' hG' => ?_) ?_
  · obtain ⟨b, c, e7, hb, hr⟩ : BoxV W3.heap.size (.pointer (some ⟨b7, 0, none⟩)) w' := (hG' 7 (by kernel_rfl)).1.2 rfl
    have e7' : b7 = b := by simpa using e7
    subst e7'
    have hc0 := hr.cell 0
    have hf0 := hr.frozen 0
    simp only [List.getElem?_cons_zero] at hc0
    refine ⟨w'.setCell ⟨b7, 0, none⟩ (.int .u64 (h : Int)), ?_, ProT.store hb hr, fun b hb => ?_⟩
    · clear hC' hG' hr hb e7
      go_simp
    · have e8 : Value.pointer (some ⟨b7, 0, none⟩) = .pointer (some ⟨b, 0, none⟩) := hb
      have e9 : b7 = b := by simpa using e8
      subst e9
      exact hr.set_ 0 _
  intro v9 _
  refine ⟨?_, ?_, ?_⟩
  rotate_left
  · go_simp
    rfl
  refine loose_doneX (fun w7 hC' hG' hdist => ?_)
  have hT := (show ProT _ _ W3 w7 from hC')
  have hne : b8 ≠ b7 := (hdist 7 (by simp) ⟨b7, 0, none⟩ rfl).2 8 (by simp) (by decide) ⟨b8, 0, none⟩ rfl
  have hr7 := (hG' 9).2 rfl b7 rfl
  obtain ⟨b, c, e8, hbb, hr8⟩ : BoxV W3.heap.size (.pointer (some ⟨b8, 0, none⟩)) w7 := (hG' 8).1.2 rfl
  have e8' : b8 = b := by simpa using e8
  subst e8'
  have HM7 := hidden (hT.row _ _ _ (by decide) HM.out)
  have HN7 := hidden (hT.row _ _ _ (by decide) HN.out)
  have HG7 := hidden (hT.low _ rfl (Below.refl _ _))
  have HR7 := hidden hr7
  have HR8 := hidden hr8
  have hc0 := hr8.cell 0
  have hf0 := hr8.frozen 0
  simp only [List.getElem?_cons_zero] at hc0
  have HB7 := hidden hb7
  have HB8 := hidden hb8
  have HNE := hidden hne
  clear hT hC' hG' hdist hr7 hr8 e8 hbb hne hb7 hb8
  rw [HOR.out]
  go_wp2_with fail
  go_ret
  have hgw : Grows w w7 := HG3.out.of_below HG7.out
  have hsz := HS3.out
  have l4 := HM.out.lt
  have l5 := HN.out.lt
  have h7 := HB7.out
  have h8 := HB8.out
  refine ⟨w.heap.size + 1, b7, b8, w.heap.size + 1 + 1, rfl, ⟨HR7.out.set_other (fun e => HNE.out e) _, HR8.out.set_ 0 _, HM7.out.set_other (by show b8 ≠ _; omega) _, HN7.out.set_other (by show b8 ≠ _; omega) _⟩, ⟨by omega, by omega, by omega, by omega⟩, hgw.setCell (by show _ ≤ b8; omega) _⟩
end Go.Proofs.Ytgegjoggiadgbaa
/-
  Shaken: what the claims of this seat need of this text. No condition.
-/
namespace Go.Proofs.Ytgegjoggiadgbaa
set_option maxRecDepth 8000
open Go.RowKit
set_option linter.unusedVariables false
set_option linter.unusedSimpArgs false
def PbRel (W1 : World) (h g n m : Nat) (out i : Value) (wr : World) : Prop :=
  ∃ k : Nat, k ≤ m ∧ i = .int .i64 (k : Int) ∧ wr.ownsRow W1.heap.size 3 1 out (probesN h g n k).length (ncells (probesN h g n k)) ∧ Grows W1 wr
theorem SlV.new (w : World) (x : Val) : ReadsV (w.alloc (.cells #[.int .i64 x.k, .int .i64 x.n, .string x.t] 24)) (.slice (some ⟨w.heap.size, 0, none⟩) 1 1) [x] :=
  SlV.reads ⟨w.heap.size, rfl, Row.new w 24 #[.int .i64 x.k, .int .i64 x.n, .string x.t] x.cells rfl⟩
theorem own_base15' {w : World} {a b c : Nat} {e : TypeId} {sz : Nat} {v : Value} {n : Nat} {xs : List Value} (h : w.ownsRow b e sz v n xs) (hb : a ≤ b) (hc : c ≤ a) : w.ownsRow c e sz v n xs := by
  refine ⟨h.1, ?_⟩
  rcases h.2 with h2 | ⟨g, cap, cur, h1, h2, h3⟩
  · exact .inl h2
  · exact .inr ⟨g, cap, cur, h1, Nat.le_trans (Nat.le_trans hc hb) h2, h3⟩
set_option maxHeartbeats 2000000 in
theorem rprobes_any (v : Value) (h n : Nat) (ws : List UInt64) (x : Val) (w : World) (hf : IsF w v h n ws) (hh : h ≤ 11) (hn0 : 0 < n) (hn : n ≤ 65536) (hv : validV x.k x.n x.t = true) :
    Calls Try.prog 30 #[v, x.v] w (OwnInts (posV n h x) w) := by
  obtain ⟨u, rfl, hr, hl⟩ := hf
  obtain ⟨A, c, rfl, _⟩ := hr.slice_
  simp only [ucells_length]
  have HH1 := hidden (fun W v (hr : ReadsV W v [x]) => rhashv_any 1 v [x] W (by omega) hr (by simp) (by simp [validL, hv]))
  have HH2 := hidden (fun W v (hr : ReadsV W v [x]) => rhashv_any 2 v [x] W (by omega) hr (by simp) (by simp [validL, hv]))
  rw [show hashR (mix 1) [x] = hA x from rfl] at HH1
  rw [show hashR (mix 2) [x] = gB x from rfl] at HH2
  have HOR := hidden (show bits .or .u64 (gB x : Int) 1 = (gA x : Int) from bits_or_u64_nat (gB x) 1 (gB_lt x) (by omega))
  unfold posV
  generalize gA x = g at *
  generalize gB x = g0 at *
  generalize hA x = hs at *
  unfold Val.v
  obtain ⟨W2, hW2⟩ : ∃ W2, W2 = (w.alloc (.cells #[.int .i64 (h : Int), .int .i64 (n : Int), .slice A ws.length c] 32)).alloc (.cells #[.int .i64 x.k, .int .i64 x.n, .string x.t] 24) := ⟨_, rfl⟩
  have HG2 := hidden (show Grows w W2 by rw [hW2]; exact (growB _ _).of_below (growB _ _))
  have HF := hidden (show Row W2 w.heap.size 32 [.int .i64 (h : Int), .int .i64 (n : Int), .slice A ws.length c] by rw [hW2]; exact (Row.new w 32 #[.int .i64 (h : Int), .int .i64 (n : Int), .slice A ws.length c] _ rfl).grow (growB _ _))
  have HX := hidden (show Row W2 (w.heap.size + 1) 24 [.int .i64 x.k, .int .i64 x.n, .string x.t] by rw [hW2]; exact Row.at_ _ 24 #[.int .i64 x.k, .int .i64 x.n, .string x.t] _ rfl _ (by simp))
  clear hr hl
  go_enter Try.func30, Try.ntmps30
  go_wp2_with fail
  have hsz2 : W2.heap.size = w.heap.size + 1 + 1 := by rw [hW2]; simp
  rw [← hW2, ← hsz2]
  clear hW2 hsz2
  refine (HH1.out _ _ (SlV.new W2 x)).mono ?_
  rintro e w3 ⟨rfl, g3⟩
  have HG3 := hidden (show Grows W2 w3 from (growB _ _).of_below g3)
  have HX3 := hidden (HX.out.grow HG3.out)
  have x0 := HX3.out.cell 0
  have x1 := HX3.out.cell 1
  have x2 := HX3.out.cell 2
  simp only [List.getElem?_cons_succ, List.getElem?_cons_zero] at x0 x1 x2
  clear g3
  go_wp2_with fail
  clear x0 x1 x2
  refine (HH2.out _ _ (SlV.new w3 x)).mono ?_
  rintro e w4 ⟨rfl, g4⟩
  have HG4 := hidden (show Grows W2 w4 from HG3.out.of_below ((growB _ _).of_below g4))
  clear g4
  have hor := HOR.out
  go_wp2_with fail
  clear hor
  go_loopw [7, 8] (fun out i wr => PbRel w4 hs g n h out i wr) (fun _ i _ => h - (intOf i).toNat)
  case atStart => exact ⟨0, Nat.zero_le _, rfl, World.ownsRow_nil _ _ _ _, Below.refl _ _⟩
  case round =>
    obtain ⟨k, hk, rfl, hown, hgr⟩ := hrel
    have HO := hidden hown
    have HG := hidden hgr
    have HF1 := hidden (HF.out.grow (HG4.out.of_below hgr))
    clear hown hgr
    have f0 := HF1.out.cell 0
    have f1' := HF1.out.cell 1
    have f2' := HF1.out.cell 2
    simp only [List.getElem?_cons_succ, List.getElem?_cons_zero] at f0 f1' f2'
    by_cases hlt : k < h
    · have hd : decide (k < h) = true := by simpa using hlt
      have HK := hidden (probesN_succ hs g n k)
      obtain ⟨a, ha⟩ : ∃ a, a = k * g % 18446744073709551616 := ⟨_, rfl⟩
      obtain ⟨b, hb⟩ : ∃ b, b = (hs + a) % 18446744073709551616 := ⟨_, rfl⟩
      obtain ⟨p, hp⟩ : ∃ p, p = posN hs g n k := ⟨_, rfl⟩
      have hpb : p = b % n := by rw [hp, hb, ha]; rfl
      have hpn : p < n := by rw [hpb]; exact Nat.mod_lt _ hn0
      have f1 := pos_mul k g
      have f2 := pos_add hs a
      have f3 := pos_mod b n
      have f4 := pos_tmod b n
      rw [← ha] at f1
      rw [← hb] at f2
      rw [← hpb] at f3 f4
      have f5 : wrap64 (p : Int) = (p : Int) := wrap64_le (by omega)
      have f6 : ¬ (n : Int) = 0 := by omega
      have f6b : ¬ n = 0 := by omega
      have f7 : IntKind.u64.wrap (n : Int) = (n : Int) := by rw [IntKind.wrap_u64]; omega
      have f8 : IntKind.u64.wrap (k : Int) = (k : Int) := by rw [IntKind.wrap_u64]; omega
      rw [← hp] at HK
      have HLT := hidden hlt
      have hkb : k ≤ 11 := by omega
      have HPL := hidden (show (probesN hs g n k).length + 1 ≤ 17592186044416 by rw [probesN_length]; omega)
      have HSZ := hidden HG.out.size
      clear ha hb hp hpb hlt hpn hk
      generalize probesN hs g n k = P at *
      go_wp2_with ((at_builtin; go_loud (refine wpList_append_int (wr := wr) rfl _ _ rfl _ P (by rfl) w4.heap.size HO.out w4 HG.out HSZ.out _ p rfl (by rfl) HPL.out ?_); intro v' w5 hown5 hb5; have HO5 := hidden hown5; have HB5 := hidden hb5; clear hown5 hb5))
      clear f1 f2 f3 f4 f5 f6 f6b f7 f8 f0 f1' f2'
      go_wp2_with fail
      go_roundw
      case rel => exact ⟨k + 1, HLT.out, by go_num, by rw [HK.out]; exact HO5.out, HB5.out⟩
      case measure => have := HLT.out; simp [intOf]; omega
    · have hke : k = h := by omega
      have hd : decide (k < h) = false := by simpa using hlt
      subst hke
      go_wp2_with fail
      go_ret
      exact ⟨_, rfl, own_base15' HO.out HG4.out.size HG2.out.size, (HG2.out.of_below HG4.out).of_below HG.out⟩
end Go.Proofs.Ytgegjoggiadgbaa
/-
  Shaken: what the claims of this seat need of this text. No condition.
-/
namespace Go.Proofs.Ytgegjoggiadgbaa
open Go.RowKit Go.Shelf
attribute [local go_sem] Oper.semAt_some
set_option linter.unusedVariables false
set_option linter.unusedSimpArgs false
def KeepL (L : List Nat) (W W' : World) : Prop := ∀ k ∈ L, W'.heap[k]? = W.heap[k]?
theorem KeepL.t {L : List Nat} {A B C : World} (h : KeepL L A B) (k : KeepL L B C) : KeepL L A C := fun i hi => (k i hi).trans (h i hi)
theorem KeepL.b {L : List Nat} {w : World} (hL : ∀ k ∈ L, k < w.heap.size) (W : World) (l : Nat) (o o' : Obj) (hl : w.heap.size ≤ l) (h : W.heap[l]? = some o) (_ : o.isCells = false) (_ : o.isWalk = false) : KeepL L W (W.putObj l o') :=
  fun k hk => World.putObj_heap_other (by have := hL k hk; omega)
theorem Probed.keep {h g m n b4 b7 b8 b5 : Nat} {W W' : World} (x : Probed h g m n b4 b7 b8 b5 W) (hk : KeepL [b4, b7, b8, b5] W W') : Probed h g m n b4 b7 b8 b5 W' :=
  ⟨(hk b7 (by simp)).trans x.hash, (hk b8 (by simp)).trans x.step, (hk b4 (by simp)).trans x.many, (hk b5 (by simp)).trans x.size⟩
def PrRel (h g m n b4 b7 b8 b5 : Nat) (J : List Nat → World → Prop) (i : Value) (wr : World) : Prop := ∃ k : Nat, k ≤ m ∧ i = .int .i64 (k : Int) ∧ J (probesN h g n k) wr ∧ Probed h g m n b4 b7 b8 b5 wr
set_option maxRecDepth 100000 in
set_option maxHeartbeats 1000000 in
theorem probes1_in (n' l h g m n b4 b7 b8 b5 : Nat) (J Jx : List Nat → World → Prop) (hm : m ≤ 11) (hn0 : m = 0 ∨ 0 < n) (hn : n ≤ 65536) (hh : h < 18446744073709551616) (hg : g < 18446744073709551616)
    (hY : ∀ (pre : List Nat) (j : Nat) W, j < 65536 → J pre W → pre.length < m → YieldAt Fence.wide (n' - 1) Try.prog l #[.int .i64 (j : Int)] W fun e W' =>
      (e = .returned (.bool true) ∧ J (pre ++ [j]) W' ∧ KeepL [b4, b7, b8, b5] W W') ∨ (e = .returned (.bool false) ∧ Jx (pre ++ [j]) W'))
    (W : World) (hp : Probed h g m n b4 b7 b8 b5 W) (h0 : J [] W) :
    CallsIn Fence.wide n' Try.prog 50 #[.func (.yield l) #[] #[], .pointer (some ⟨b4, 0, none⟩), .pointer (some ⟨b7, 0, none⟩), .pointer (some ⟨b8, 0, none⟩), .pointer (some ⟨b5, 0, none⟩)] W fun e W' => (∃ v, e = .returned v) ∧
      ((∃ ys, ys = probesN h g n m ∧ J ys W') ∨ (∃ pre, pre <+: probesN h g n m ∧ Jx pre W')) := by
  refine callsIn_of_wp Try.func50 rfl trivial ?_ rfl
  simp only [Try.ntmps50, List.size_toArray, List.length_cons, List.length_nil, Nat.reduceAdd, Nat.reduceSub, Array.replicate_succ, Array.replicate_zero, List.push_toArray, List.append_toArray, List.nil_append, List.cons_append]
  have HP := hidden hp
  have x4 := hp.many.cell 0
  simp only [List.getElem?_cons_zero] at x4
  clear hp
  gi_wp2
  clear x4
  gi_loopw [8] (fun r wr => PrRel h g m n b4 b7 b8 b5 J r wr) (fun r _ => m - (intOf r).toNat)
  case atStart => exact ⟨0, Nat.zero_le _, rfl, h0, HP.out⟩
  case round =>
    obtain ⟨k, hk, rfl, hJ, hp1⟩ := hrel
    have HP1 := hidden hp1
    have x7 := hp1.hash.cell 0
    have x8 := hp1.step.cell 0
    have x5 := hp1.size.cell 0
    simp only [List.getElem?_cons_zero] at x7 x8 x5
    clear hp1
    by_cases hlt : k < m
    · have hd : decide (k < m) = true := by simpa using hlt
      have hn0 : 0 < n := hn0.resolve_left (by omega)
      have HK := hidden (probesN_succ h g n k)
      obtain ⟨a, ha⟩ : ∃ a, a = k * g % 18446744073709551616 := ⟨_, rfl⟩
      obtain ⟨b, hb⟩ : ∃ b, b = (h + a) % 18446744073709551616 := ⟨_, rfl⟩
      obtain ⟨p, hp⟩ : ∃ p, p = posN h g n k := ⟨_, rfl⟩
      have hpb : p = b % n := by rw [hp, hb, ha]; rfl
      have hpn : p < n := by rw [hpb]; exact Nat.mod_lt _ hn0
      have f1 := pos_mul k g
      have f2 := pos_add h a
      have f3 := pos_mod b n
      have f4 := pos_tmod b n
      rw [← ha] at f1
      rw [← hb] at f2
      rw [← hpb] at f3 f4
      have f5 : wrap64 (p : Int) = (p : Int) := wrap64_le (by omega)
      have f6 : ¬ (n : Int) = 0 := by omega
      have f6b : ¬ n = 0 := by omega
      have hkb : k ≤ 11 := by omega
      rw [← hp] at HK
      obtain ⟨fn, tmps, assign, body, hy, hR⟩ := hY _ p wr (Nat.lt_of_lt_of_le hpn hn) hJ (by rw [probesN_length]; exact hlt)
      rw [← HK.out] at hR
      have HR := hidden hR
      have f7 : IntKind.u64.wrap (n : Int) = (n : Int) := by rw [IntKind.wrap_u64]; omega
      have f8 : IntKind.u64.wrap (k : Int) = (k : Int) := by rw [IntKind.wrap_u64]; omega
      have HK9 := hidden hkb
      have HLT := hidden hlt
      have HM := hidden hm
      clear hJ hR ha hb hp hpb hlt hm hn0 hn hh hg hpn hkb hk hY h0
      gi_wp2_with fail
      refine ⟨(fun h => by cases h), HR.out.mono ?_⟩
      rintro e W3 (⟨rfl, hJ3, hk3⟩ | ⟨rfl, hJx3⟩)
      · have hkb := HK9.out
        clear f1 f2 f3 f4 f5 f6 f6b f7 f8
        gi_wp2
        go_roundw
        case rel => exact ⟨k + 1, HLT.out, by have := HLT.out; have := HM.out; go_num, hJ3, HP1.out.keep hk3⟩
        case measure => have := HLT.out; simp [intOf]; omega
      · gi_wp2
        refine bodyPost_ret (results_none rfl _ _ _) rfl ?_
        refine ⟨⟨_, rfl⟩, .inr ⟨_, ?_, hJx3⟩⟩
        rw [← probesN_take (show k + 1 ≤ m from HLT.out)]
        exact List.take_prefix _ _
    · have hke : k = m := by omega
      have HJ : Hid (J (probesN h g n m) wr) := by
        show J (probesN h g n m) wr
        rw [← hke]
        exact hJ
      have hd : decide (k < m) = false := by simpa using hlt
      clear hJ hke hlt hk hY h0
      gi_wp2
      go_end0
      exact ⟨⟨_, rfl⟩, .inl ⟨_, rfl, HJ.out⟩⟩
theorem probes1_stops (n' h g m n b4 b7 b8 b5 : Nat) (w : World) (hm : m ≤ 11) (hn0 : m = 0 ∨ 0 < n) (hn : n ≤ 65536) (hh : h < 18446744073709551616) (hg : g < 18446744073709551616) (hp : Probed h g m n b4 b7 b8 b5 w) :
    SeqStopsK Fence.wide n' Try.prog 50 #[.pointer (some ⟨b4, 0, none⟩), .pointer (some ⟨b7, 0, none⟩), .pointer (some ⟨b8, 0, none⟩), .pointer (some ⟨b5, 0, none⟩)] (fun j : Fin 65536 => #[Value.int .i64 (j.val : Int)]) (KeepL [b4, b7, b8, b5]) (fun ys => ys.map Fin.val = probesN h g n m) (fun pre => pre.map Fin.val <+: probesN h g n m) m w := fun l J Jx W hW _ _ hY h0 => by
  have hk : Probed h g m n b4 b7 b8 b5 W := ⟨(hW.block _ hp.hash.lt).trans hp.hash, (hW.block _ hp.step.lt).trans hp.step, (hW.block _ hp.many.lt).trans hp.many, (hW.block _ hp.size.lt).trans hp.size⟩
  refine (probes1_in n' l h g m n b4 b7 b8 b5 (fun pre W => ∃ lf : List (Fin 65536), lf.map Fin.val = pre ∧ J lf W) (fun pre W => ∃ lf : List (Fin 65536), lf.map Fin.val = pre ∧ Jx lf W) hm hn0 hn hh hg ?_ W hk ⟨[], rfl, h0⟩).mono ?_
  · rintro pre j W1 hj ⟨lf, rfl, hJ⟩ hlen
    rw [List.length_map] at hlen
    refine (hY lf ⟨j, hj⟩ W1 hJ hlen).mono ?_
    rintro e W' (⟨he, h1, h2⟩ | ⟨he, h1⟩)
    · exact .inl ⟨he, ⟨_, by rw [List.map_append]; rfl, h1⟩, h2⟩
    · exact .inr ⟨he, ⟨_, by rw [List.map_append]; rfl, h1⟩⟩
  · generalize probesN h g n m = o at *
    rintro e W' ⟨hv, (⟨ys, hy, lf, hl, hJ⟩ | ⟨pre, hpre, lf, hl, hJ⟩)⟩
    · exact ⟨hv, .inl ⟨lf, hl.trans hy, hJ⟩⟩
    · exact ⟨hv, .inr ⟨lf, (by show lf.map Fin.val <+: o; rw [hl]; exact hpre), hJ⟩⟩
end Go.Proofs.Ytgegjoggiadgbaa
/-
  Shaken: what the claims of this seat need of this text. No condition.
-/
namespace Go.Proofs.Ytgegjoggiadgbaa
open Go.RowKit Go.Shelf
attribute [local go_sem] Oper.semAt_some
set_option linter.unusedVariables false
set_option linter.unusedSimpArgs false
theorem results_b1 {fn : Func} {p : Tmp} (h : fn.results = #[.cell p 4]) (tmps : Array Value) (w : World) (g : Nat) (b : Bool) (hp : tmps.getD p undef = .pointer (some ⟨g, 0, none⟩)) (hg : Row w g 4 [.bool b]) :
    (results fn tmps).run Try.prog w = .ok (.bool b) w := by
  have hp' : tmps[p]?.getD undef = .pointer (some ⟨g, 0, none⟩) := by simpa using hp
  have hc := hg.cell 0
  simp only [List.getElem?_cons_zero] at hc
  simp [results, h, hp', asAddr, go_sem, hc]
theorem keepsFrom_grows {B : Nat} {W W' : World} (h : Grows W W') : KeepsFrom B W W' := ⟨h.size, fun k o _ hk _ => (h.block k (Array.getElem?_eq_some_iff.1 hk).1).trans hk⟩
theorem keepL_grows {L : List Nat} {W W' : World} (hL : ∀ k ∈ L, k < W.heap.size) (h : Grows W W') : KeepL L W W' := fun k hk => h.block k (hL k hk)
theorem memI_fin (n : Nat) (ws : List UInt64) (j : Fin 65536) : memI n ws (j.val : Int) = mem n ws j.val := memI_nat _ _ _
set_option maxRecDepth 100000 in
set_option maxHeartbeats 2000000 in
theorem bmay_any (v : Value) (h n : Nat) (ws : List UInt64) (x : Val) (w : World) (hv : IsF w v h n ws) (hh : h ≤ 11) (hn : n ≤ 65536) (hn0 : h = 0 ∨ 0 < n) (hok : validFB h n ws = true) (hw : okW n ws) (hx : validV x.k x.n x.t = true) :
    Calls Try.prog 14 #[v, x.v] w fun e w' => e = .returned (.bool (mayB h n ws x)) ∧ Grows w w' := by
  obtain ⟨u, rfl, hr, hl⟩ := hv
  have HR := hidden hr
  obtain ⟨A, c, rfl, _⟩ := hr.slice_
  simp only [ucells_length] at HR ⊢
  have HVA := hidden (fun W (hg : Grows w W) => bvalid_any (.agg #[.int .i64 (h : Int), .int .i64 (n : Int), .slice A ws.length c]) h n ws W ⟨_, rfl, HR.out.grow hg, hl⟩ ⟨by omega, by omega⟩ ⟨by omega, by omega⟩)
  rw [hok] at HVA
  have HCO := hidden (fun W (hg : Grows w W) (j : Fin 65536) => ck_contains (.agg #[.int .i64 (n : Int), .slice A ws.length c]) n ws (j.val : Int) W ⟨_, rfl, HR.out.grow hg, by have := hw.1; unfold nw at this; omega, by omega⟩ hw (by omega) (by have := j.isLt; omega))
  have HPR := hidden (fun W => probes_any x h n W hx)
  unfold Val.v at HPR
  unfold Val.v
  obtain ⟨W3, hW3⟩ : ∃ W3, W3 = ((w.alloc (.cells #[.int .i64 (h : Int), .int .i64 (n : Int), .slice A ws.length c] 32)).alloc (.cells #[.int .i64 x.k, .int .i64 x.n, .string x.t] 24)).alloc (.cells #[.bool false] 4) := ⟨_, rfl⟩
  have HG3 := hidden (show Grows w W3 by rw [hW3]; exact ((growB _ _).of_below (growB _ _)).of_below (growB _ _))
  have HF3 := hidden (show Row W3 w.heap.size 32 [.int .i64 (h : Int), .int .i64 (n : Int), .slice A ws.length c] by rw [hW3]; exact ((Row.new w 32 #[.int .i64 (h : Int), .int .i64 (n : Int), .slice A ws.length c] _ rfl).grow (growB _ _)).grow (growB _ _))
  have HX3 := hidden (show Row W3 (w.heap.size + 1) 24 [.int .i64 x.k, .int .i64 x.n, .string x.t] by rw [hW3]; exact (Row.at_ (w.alloc _) 24 #[.int .i64 x.k, .int .i64 x.n, .string x.t] _ rfl _ (by simp)).grow (growB _ _))
  have HB3 := hidden (show Row W3 (w.heap.size + 1 + 1) 4 [.bool false] by rw [hW3]; exact Row.at_ _ 4 #[.bool false] _ rfl _ (by simp))
  refine (callsIn_wide (n := 50)).1 ?_
  refine callsIn_of_wp_marks Try.func14 rfl trivial ?_ rfl
  simp only [Try.ntmps14, List.size_toArray, List.length_cons, List.length_nil, Nat.reduceAdd, Nat.reduceSub, Array.replicate_succ, Array.replicate_zero, List.push_toArray, List.append_toArray, List.nil_append, List.cons_append]
  gi_wp2_with fail
  rw [← hW3]
  clear hW3
  refine ⟨trivial, (callsIn_wide.2 (HVA.out W3 HG3.out)).mono ?_⟩
  rintro e w4 ⟨rfl, g4⟩
  have HF4 := hidden (HF3.out.grow g4)
  have HX4 := hidden (HX3.out.grow g4)
  have HB4 := hidden (HB3.out.grow g4)
  have HG4 := hidden (HG3.out.of_below g4)
  clear g4
  have f0 := HF4.out.cell 0
  have f1 := HF4.out.cell 1
  have f2 := HF4.out.cell 2
  have x0 := HX4.out.cell 0
  have x1 := HX4.out.cell 1
  have x2 := HX4.out.cell 2
  simp only [List.getElem?_cons_succ, List.getElem?_cons_zero] at f0 f1 f2 x0 x1 x2
  gi_wp2_with fail
  refine ⟨trivial, (callsIn_wide.2 (HPR.out w4)).mono ?_⟩
  rintro e w5 ⟨b4, b7, b8, b5, rfl, hpd, ⟨g1, g2, g3, g4'⟩, g5⟩
  clear f0 f1 f2 x0 x1 x2
  gi_wp2_with fail
  have HG5 := hidden (HG4.out.of_below g5)
  have HF5 := hidden (HF4.out.grow g5)
  have HB5 := hidden (HB4.out.grow g5)
  have l4 := hpd.many.lt
  have l7 := hpd.hash.lt
  have l8 := hpd.step.lt
  have l5 := hpd.size.lt
  have hL : ∀ k ∈ [b4, b7, b8, b5], k < w5.heap.size := by
    intro k hk
    simp only [List.mem_cons, List.not_mem_nil, or_false] at hk
    omega
  have HL := hidden hL
  have HMB := hidden (show mayB h n ws x = (probesN (hA x) (gA x) n h).all (mem n ws) from rfl)
  have HSB := hidden (show w.heap.size < w.heap.size + 1 + 1 by omega)
  clear g5 l4 l7 l8 l5
  refine wpIn_rangeFunc_ownG rfl (by omega) (gf := 50) (lb := #[.pointer (some ⟨b4, 0, none⟩), .pointer (some ⟨b7, 0, none⟩), .pointer (some ⟨b8, 0, none⟩), .pointer (some ⟨b5, 0, none⟩)]) rfl trivial (enters_of Try.func50 (by kernel_rfl) rfl)
    (probes1_stops 49 (hA x) (gA x) h n b4 b7 b8 b5 w5 hh hn0 hn (hA_lt x) (gA_lt x) hpd) KeepL.t (KeepL.b hL) (Below.refl _ _) (fun _ => rfl)
    (fun pre W => (∀ j ∈ pre, mem n ws j.val = true) ∧ Grows w5 W)
    (fun c pre W => (c = .ret ∧ ∃ j ∈ pre, mem n ws j.val = false) ∧ Boxed W (w.heap.size + 1 + 1) 4 (.bool false) ∧ Below w.heap.size w W)
    (OwnFrom.and (ownFrom_pure _ _) (ownFrom_below (Nat.le_refl _) (Nat.le_refl _)))
    (fun c => OwnFrom.and (ownFrom_pure _ _) (OwnFrom.and ((boxed_own _ _ fun _ => .bool false).from _) (ownFrom_below (Nat.le_refl _) HG5.out.size)))
    ⟨fun j hj => (by cases hj), Below.refl _ _⟩
    (fun j : Fin 65536 => { tmps := #[.agg #[.int .i64 (h : Int), .int .i64 (n : Int), .slice A ws.length c], .agg #[.int .i64 x.k, .int .i64 x.n, .string x.t], .pointer (some ⟨w.heap.size, 0, none⟩), .pointer (some ⟨w.heap.size + 1, 0, none⟩), .pointer (some ⟨w.heap.size + 1 + 1, 0, none⟩), .int .i64 (j.val : Int),
      .agg #[.int .i64 (h : Int), .int .i64 (n : Int), .slice A ws.length c], .bool true, .bool false, .agg #[.int .i64 x.k, .int .i64 x.n, .string x.t], .pointer (some ⟨w.heap.size, 0, none⟩), .int .i64 (h : Int), .pointer (some ⟨w.heap.size, 1, none⟩), .pointer (some ⟨w.heap.size, 1, none⟩), .int .i64 (n : Int),
      .func (.func 50) #[] #[.pointer (some ⟨b4, 0, none⟩), .pointer (some ⟨b7, 0, none⟩), .pointer (some ⟨b8, 0, none⟩), .pointer (some ⟨b5, 0, none⟩)], .int .i64 (j.val : Int), undef, undef, undef, undef, undef], defers := [] }) ?assign ?body ?done ?stop
  case assign =>
    intro l2 j W1 K hK
    gi_wp2
    exact hK
  case body =>
    rintro l2 pre j W1 ⟨hall, hg⟩ hlen
    have HA1 := hidden hall
    have HG1 := hidden hg
    have HF1 := hidden (HF5.out.grow hg)
    have HB1 := hidden (HB5.out.grow hg)
    have HJ := hidden (memI_fin n ws j)
    have HC1 := hidden (HCO.out W1 (HG5.out.of_below hg) j)
    rw [HJ.out] at HC1
    clear hall hg hlen HJ
    have f0 := HF1.out.cell 0
    have f1 := HF1.out.cell 1
    have f2 := HF1.out.cell 2
    simp only [List.getElem?_cons_succ, List.getElem?_cons_zero] at f0 f1 f2
    gi_wp2_with fail
    clear f0 f1 f2
    refine ⟨trivial, (CallsIn.inRound l2 (callsIn_wide.2 HC1.out)).mono ?_⟩
    rintro e W2 ⟨rfl, g2⟩
    have HG2 := hidden (HG1.out.of_below g2)
    have HKF := hidden (keepsFrom_grows (B := w5.heap.size) g2)
    have HKL := hidden (keepL_grows (L := [b4, b7, b8, b5]) (fun k hk => Nat.lt_of_lt_of_le (HL.out k hk) HG1.out.size) g2)
    have HB2 := hidden (HB1.out.grow g2)
    clear g2
    have hc0 := HB2.out.cell 0
    have hf0 := HB2.out.frozen 0
    simp only [List.getElem?_cons_zero] at hc0
    cases hmj : mem n ws j.val
    · gi_wp2
      refine ⟨HKF.out.trans ((KeepsOthers.setCell _ _ _).from _), ⟨rfl, j, by simp, hmj⟩, ?_, (HG5.out.of_below HG2.out).setCell (by show _ ≤ w.heap.size + 1 + 1; omega) _⟩
      exact HB2.out.set_ 0 (.bool false)
    · gi_wp2
      refine ⟨HKF.out, HKL.out, fun i hi => ?_, HG2.out⟩
      rcases List.mem_append.1 hi with hi | hi
      · exact HA1.out i hi
      · have e : i = j := by simpa using hi
        rw [e]
        exact hmj
  case done =>
    rintro D ys W hD hys ⟨hall, hg⟩ hdd
    have HT : Hid (mayB h n ws x = true) := by
      show _ = _
      rw [HMB.out, ← hys, List.all_eq_true]
      intro i hi
      obtain ⟨j, hj, rfl⟩ := List.mem_map.1 hi
      exact hall j hj
    have HB1 := hidden (HB5.out.grow hg)
    have HGW := hidden (HG5.out.of_below hg)
    have HDD := hidden hdd
    have HD := hidden (show w.heap.size ≤ D by have := HG5.out.size; omega)
    clear hall hg hdd hys hD
    have hc0 := HB1.out.cell 0
    have hf0 := HB1.out.frozen 0
    simp only [List.getElem?_cons_zero] at hc0
    gi_wp2
    have hr1 : Row (W.setCell ⟨w.heap.size + 1 + 1, 0, none⟩ (.bool true)) (w.heap.size + 1 + 1) 4 [.bool true] := HB1.out.set_ 0 (.bool true)
    have hK := (KeepsOthers.setCell W ⟨w.heap.size + 1 + 1, 0, none⟩ (.bool true)).same D _ HDD.out rfl
    refine ⟨by simp, .inl ⟨_, _, rfl, run_takeDeferred hK, ?_⟩⟩
    have hne : w.heap.size + 1 + 1 ≠ D := by
      rintro rfl
      have h1 := HB1.out
      have h2 := HDD.out
      unfold Row at h1
      rw [h1] at h2
      cases h2
    refine ⟨_, results_b1 rfl _ _ _ _ rfl ((World.putObj_heap_other hne).trans hr1), by rw [HT.out], ?_⟩
    exact (HGW.out.setCell (p := ⟨w.heap.size + 1 + 1, 0, none⟩) (by show _ ≤ w.heap.size + 1 + 1; omega) _).trans (belowK_b (w := w) (Nat.le_refl _) _ D _ _ HD.out hK rfl rfl)
  case stop =>
    rintro D c pre W hD hsp ⟨⟨rfl, j, hj, hmj⟩, hrow, hb⟩ hdd
    have HT : Hid (mayB h n ws x = false) := by
      show _ = _
      rw [HMB.out, List.all_eq_false]
      exact ⟨j.val, hsp.subset (List.mem_map.2 ⟨j, hj, rfl⟩), by rw [hmj]; simp⟩
    have HB1 := hidden (show Row W (w.heap.size + 1 + 1) 4 [.bool false] from hrow)
    have HGW := hidden hb
    have HDD := hidden hdd
    have HD := hidden (show w.heap.size ≤ D by have := HG5.out.size; omega)
    clear hrow hb hdd hsp hD hj hmj
    gi_wp2
    have hK := HDD.out
    refine ⟨by simp, .inl ⟨_, _, rfl, run_takeDeferred hK, ?_⟩⟩
    have hne : w.heap.size + 1 + 1 ≠ D := by
      rintro rfl
      have h1 := HB1.out
      unfold Row at h1
      rw [h1] at hK
      cases hK
    refine ⟨_, results_b1 rfl _ _ _ _ rfl ((World.putObj_heap_other hne).trans HB1.out), by rw [HT.out], ?_⟩
    exact HGW.out.trans (belowK_b (w := w) (Nat.le_refl _) _ D _ _ HD.out hK rfl rfl)
end Go.Proofs.Ytgegjoggiadgbaa
