/-
  Package frameref as it landed: readNumber, readException, readFrame, bytes.Equal. Nothing that was there is changed.
-/
import Derived.Test.YtjjeebaelpgjlaaFrT
import Derived.Test.YtjjeebaelpgjlaaFrDec
import Derived.Test.YtjjeebaelpgjlaaFs1
import Derived.Test.YtjjeebaelpgjlaaDec
import Derived.Test.YtjjeebaelpgjlaaBq1
namespace Go.Proofs.Ytjjeebaelpgjlaa
open Go.RowKit
set_option linter.unusedVariables false
set_option linter.unusedSimpArgs false

theorem readNumber_any (A : Option Addr) (c : Nat) (b : List UInt8) (o lim : Int) (w : World) (hb : IsBytes w (.slice A b.length c) b) (hl : b.length ≤ 1048576) (h63 : -9223372036854775808 ≤ o) (h64 : o ≤ 9223372036854775807) (hm0 : 0 ≤ lim) (hm1 : lim ≤ 65536) :
    Calls Try.prog 62 #[.slice A b.length c, .int .i64 o, .int .i64 lim] w fun e w' => e = .returned (.tuple #[.int .i64 (numD b o lim).1, .int .i64 (numD b o lim).2.1, .int .i64 (numD b o lim).2.2]) ∧ w = w' := by
  have HDC := hidden (decode_any (.slice A b.length c) b o w hb (by unfold maxLen; omega) h63 h64)
  obtain ⟨x, q, e, hd⟩ : ∃ x q e, dcd b o = (x, q, e) := ⟨_, _, _, rfl⟩
  have hbd := dcd_bd2 hd
  rw [hd] at HDC
  have HD := hidden hd
  clear hd hb
  by_cases he : e = 0
  · subst he
    have hx0 := hbd.1
    have hx1 := hbd.2.1
    have hwl : IntKind.u64.wrap lim = lim := by rw [IntKind.wrap_u64]; omega
    clear hbd
    by_cases hx : lim < x
    · have HE := hidden (numD_f HD.out hx)
      have hdd : decide (lim < x) = true := by simpa using hx
      clear hx
      go_enter Try.func62, Try.ntmps62
      go_wp2_with fail
      refine HDC.out.mono ?_
      rintro e w2 ⟨rfl, rfl⟩
      go_wp2_with fail
      go_ret3
      exact ⟨by rw [HE.out]; rfl, rfl⟩
    · have HE := hidden (numD_ok HD.out hx)
      have hdd : decide (lim < x) = false := by simpa using hx
      have hwx : IntKind.i64.wrap x = x := by rw [IntKind.wrap_i64]; omega
      clear hx
      go_enter Try.func62, Try.ntmps62
      go_wp2_with fail
      refine HDC.out.mono ?_
      rintro e w2 ⟨rfl, rfl⟩
      go_wp2_with fail
      go_ret3
      exact ⟨by rw [HE.out]; rfl, rfl⟩
  · have HE := hidden (numD_e (lim := lim) HD.out he)
    have hdd : (e != 0) = true := by simpa using he
    clear he hbd
    go_enter Try.func62, Try.ntmps62
    go_wp2_with fail
    refine HDC.out.mono ?_
    rintro e w2 ⟨rfl, rfl⟩
    go_wp2_with fail
    go_ret3
    exact ⟨by rw [HE.out]; rfl, rfl⟩
/-- one exception: its index, its high part, the offset behind it, the error -/
def exnD (b : List UInt8) (p : Int) : Int × Int × Int × Int :=
  if (dcd b p).2.2 ≠ 0 then (0, 0, 0, (dcd b p).2.2) else
  if (dcd b (dcd b p).2.1).2.2 ≠ 0 then (0, 0, 0, (dcd b (dcd b p).2.1).2.2) else
  ((dcd b p).1, (dcd b (dcd b p).2.1).1, (dcd b (dcd b p).2.1).2.1, 0)
theorem exnD_e1 {b : List UInt8} {p x q e : Int} (h : dcd b p = (x, q, e)) (he : e ≠ 0) : exnD b p = (0, 0, 0, e) := by unfold exnD; rw [h]; simp only []; rw [if_pos he]
theorem exnD_e2 {b : List UInt8} {p x q y r e : Int} (h : dcd b p = (x, q, 0)) (h2 : dcd b q = (y, r, e)) (he : e ≠ 0) : exnD b p = (0, 0, 0, e) := by unfold exnD; rw [h]; simp only []; rw [if_neg (by simp), h2]; simp only []; rw [if_pos he]
theorem exnD_ok {b : List UInt8} {p x q y r : Int} (h : dcd b p = (x, q, 0)) (h2 : dcd b q = (y, r, 0)) : exnD b p = (x, y, r, 0) := by unfold exnD; rw [h]; simp only []; rw [if_neg (by simp), h2]; simp only []; rw [if_neg (by simp)]
theorem excD_exn {b : List UInt8} {w k : Nat} {p i h q e : Int} {d : List Nat} (hx : exnD b p = (i, h, q, e)) : excD b w (k + 1) p d = if e ≠ 0 then ([], 0, e) else excD b w k q (putD d i h w) := by
  unfold exnD at hx
  rw [excD]
  by_cases h1 : (dcd b p).2.2 ≠ 0
  · rw [if_pos h1] at hx ⊢
    simp only [Prod.mk.injEq] at hx
    obtain ⟨rfl, rfl, rfl, rfl⟩ := hx
    rw [if_pos h1]
  · rw [if_neg h1] at hx ⊢
    by_cases h2 : (dcd b (dcd b p).2.1).2.2 ≠ 0
    · rw [if_pos h2] at hx ⊢
      simp only [Prod.mk.injEq] at hx
      obtain ⟨rfl, rfl, rfl, rfl⟩ := hx
      rw [if_pos h2]
    · rw [if_neg h2] at hx ⊢
      simp only [Prod.mk.injEq] at hx
      obtain ⟨rfl, rfl, rfl, rfl⟩ := hx
      rw [if_neg (by simp)]
theorem excA_exn {b : List UInt8} {w k d : Nat} {j p i h q e : Int} (hx : exnD b p = (i, h, q, e)) :
    excA b w j (k + 1) p d = if e ≠ 0 then (0, e) else if i < j then excA b w j k q d else if i = j then (d ||| h.toNat * 2 ^ w % 18446744073709551616, 0) else (d, 0) := by
  unfold exnD at hx
  rw [excA]
  by_cases h1 : (dcd b p).2.2 ≠ 0
  · rw [if_pos h1] at hx ⊢
    simp only [Prod.mk.injEq] at hx
    obtain ⟨rfl, rfl, rfl, rfl⟩ := hx
    rw [if_pos h1]
  · rw [if_neg h1] at hx ⊢
    by_cases h2 : (dcd b (dcd b p).2.1).2.2 ≠ 0
    · rw [if_pos h2] at hx ⊢
      simp only [Prod.mk.injEq] at hx
      obtain ⟨rfl, rfl, rfl, rfl⟩ := hx
      rw [if_pos h2]
    · rw [if_neg h2] at hx ⊢
      simp only [Prod.mk.injEq] at hx
      obtain ⟨rfl, rfl, rfl, rfl⟩ := hx
      rw [if_neg (show ¬ (0 : Int) ≠ 0 by simp)]
theorem exnD_bd {b : List UInt8} {p i h q e : Int} (hp0 : 0 ≤ p) (hp1 : p ≤ (b.length : Int)) (hx : exnD b p = (i, h, q, e)) : (0 ≤ i ∧ i ≤ 18446744073709551615) ∧ (0 ≤ h ∧ h ≤ 18446744073709551615) ∧ (e = 0 → p ≤ q ∧ q ≤ (b.length : Int)) := by
  obtain ⟨x, r, f, hd⟩ : ∃ x r f, dcd b p = (x, r, f) := ⟨_, _, _, rfl⟩
  have b1 := dcd_bd2 hd
  by_cases hf : f = 0
  · subst hf
    obtain ⟨y, s, g, hd2⟩ : ∃ y s g, dcd b r = (y, s, g) := ⟨_, _, _, rfl⟩
    have b2 := dcd_bd2 hd2
    by_cases hg : g = 0
    · subst hg
      rw [exnD_ok hd hd2] at hx
      simp only [Prod.mk.injEq] at hx
      obtain ⟨rfl, rfl, rfl, rfl⟩ := hx
      have c1 := b1.2.2.1 rfl
      have c2 := b2.2.2.1 rfl
      exact ⟨⟨b1.1, b1.2.1⟩, ⟨b2.1, b2.2.1⟩, fun _ => ⟨by omega, by omega⟩⟩
    · rw [exnD_e2 hd hd2 hg] at hx
      simp only [Prod.mk.injEq] at hx
      obtain ⟨rfl, rfl, rfl, rfl⟩ := hx
      exact ⟨by decide, by decide, fun h => absurd h hg⟩
  · rw [exnD_e1 hd hf] at hx
    simp only [Prod.mk.injEq] at hx
    obtain ⟨rfl, rfl, rfl, rfl⟩ := hx
    exact ⟨by decide, by decide, fun h => absurd h hf⟩
theorem sizeEx : (Try.prog.info? 68).map (·.size) = some 2 := by kernel_rfl
theorem sizeFr : (Try.prog.info? 63).map (·.size) = some 4 := by kernel_rfl
theorem results_ex3 {fn : Func} {p q r : Tmp} (h : fn.results = #[.cell p 68, .tmp q, .tmp r]) (tmps : Array Value) (w : World) (g : Nat) (n v x y : Value) (hp : tmps.getD p undef = .pointer (some ⟨g, 0, none⟩)) (hg : Row w g 68 [n, v])
    (hx : tmps.getD q undef = x) (hy : tmps.getD r undef = y) : (results fn tmps).run Try.prog w = .ok (.tuple #[.agg #[n, v], x, y]) w := by
  have hp' : tmps[p]?.getD undef = .pointer (some ⟨g, 0, none⟩) := by simpa using hp
  have hx' : tmps[q]?.getD undef = x := by simpa using hx
  have hy' : tmps[r]?.getD undef = y := by simpa using hy
  simp [results, h, hp', hx', hy', asAddr, run_loadVar_row w g 68 68 #[n, v] (0, 0) _ hg Try.underlying68 rfl sizeEx]
theorem results_fr3 {fn : Func} {p q r : Tmp} (h : fn.results = #[.cell p 63, .tmp q, .tmp r]) (tmps : Array Value) (w : World) (g : Nat) (a b c d x y : Value) (hp : tmps.getD p undef = .pointer (some ⟨g, 0, none⟩)) (hg : Row w g 63 [a, b, c, d])
    (hx : tmps.getD q undef = x) (hy : tmps.getD r undef = y) : (results fn tmps).run Try.prog w = .ok (.tuple #[.agg #[a, b, c, d], x, y]) w := by
  have hp' : tmps[p]?.getD undef = .pointer (some ⟨g, 0, none⟩) := by simpa using hp
  have hx' : tmps[q]?.getD undef = x := by simpa using hx
  have hy' : tmps[r]?.getD undef = y := by simpa using hy
  simp [results, h, hp', hx', hy', asAddr, run_loadVar_row w g 63 63 #[a, b, c, d] (0, 0) _ hg Try.underlying63 rfl sizeFr]
set_option maxHeartbeats 2000000 in
theorem readException_any (A : Option Addr) (c : Nat) (b : List UInt8) (o : Int) (w : World) (hb : IsBytes w (.slice A b.length c) b) (hl : b.length ≤ 1048576) (h63 : -9223372036854775808 ≤ o) (h64 : o ≤ 9223372036854775807) :
    Calls Try.prog 45 #[.slice A b.length c, .int .i64 o] w fun e w' => e = .returned (.tuple #[.agg #[.int .u64 (exnD b o).1, .int .u64 (exnD b o).2.1], .int .i64 (exnD b o).2.2.1, .int .i64 (exnD b o).2.2.2]) ∧ Grows w w' := by
  have HG := hidden (show Grows w (w.alloc (.cells #[.int .u64 0, .int .u64 0] 68)) from (Below.refl _ _).alloc (Nat.le_refl _) _)
  have HR := hidden (Row.new w 68 #[.int .u64 0, .int .u64 0] [.int .u64 0, .int .u64 0] rfl)
  have HRW : Hid ((w.alloc (.cells #[.int .u64 0, .int .u64 0] 68)).heap[w.heap.size]? = some (.cells #[.int .u64 0, .int .u64 0] 68 (0, 0))) := HR.out
  have HDC := hidden (fun o w' hv' h63 h64 => decode_any (.slice A b.length c) b o w' hv' (by unfold maxLen; omega) h63 h64)
  have HV := hidden hb
  obtain ⟨x, q, e, hd⟩ : ∃ x q e, dcd b o = (x, q, e) := ⟨_, _, _, rfl⟩
  have hbd := dcd_bd2 hd
  have HC1 := hidden (HDC.out o _ (HV.out.grow HG.out) h63 h64)
  rw [hd] at HC1
  have HD := hidden hd
  clear hd hb
  by_cases he : e = 0
  · subst he
    obtain ⟨a1, a2, a3⟩ := hbd.2.2.1 rfl
    obtain ⟨y, r, f, hd2⟩ : ∃ y r f, dcd b q = (y, r, f) := ⟨_, _, _, rfl⟩
    have HC2 := hidden (HDC.out q _ (HV.out.grow HG.out) (by omega) (by omega))
    rw [hd2] at HC2
    have HD2 := hidden hd2
    clear hd2 hbd
    by_cases hf : f = 0
    · subst hf
      have HE := hidden (exnD_ok HD.out HD2.out)
      have HRS := hidden (Row.setRow_ HR.out [.int .u64 x, .int .u64 y] rfl)
      go_enter Try.func45, Try.ntmps45
      go_wp2_with fail
      refine HC1.out.mono ?_
      rintro e w2 ⟨rfl, rfl⟩
      go_wp2_with fail
      refine HC2.out.mono ?_
      rintro e w2 ⟨rfl, rfl⟩
      go_wp2_with (refine wpList_store_row rfl _ _ _ rfl _ #[.int .u64 x, .int .u64 y] rfl rfl _ _ HRW.out sizeEx rfl (by simp [Value.oneCell']) ?_)
      exact bodyPost_ret (results_ex3 rfl _ _ _ _ _ (.int .i64 r) (.int .i64 0) rfl HRS.out rfl rfl) rfl ⟨by rw [HE.out], below_setRow HG.out (Nat.le_refl _) _⟩
    · have HE := hidden (exnD_e2 HD.out HD2.out hf)
      have hdd : (f != 0) = true := by simpa using hf
      have HRS := hidden (Row.setRow_ HR.out [.int .u64 0, .int .u64 0] rfl)
      clear hf
      go_enter Try.func45, Try.ntmps45
      go_wp2_with fail
      refine HC1.out.mono ?_
      rintro e w2 ⟨rfl, rfl⟩
      go_wp2_with fail
      refine HC2.out.mono ?_
      rintro e w2 ⟨rfl, rfl⟩
      go_wp2_with (refine wpList_store_row rfl _ _ _ rfl _ #[.int .u64 0, .int .u64 0] rfl rfl _ _ HRW.out sizeEx rfl (by simp [Value.oneCell']) ?_)
      exact bodyPost_ret (results_ex3 rfl _ _ _ _ _ (.int .i64 0) (.int .i64 f) rfl HRS.out rfl rfl) rfl ⟨by rw [HE.out], below_setRow HG.out (Nat.le_refl _) _⟩
  · have HE := hidden (exnD_e1 HD.out he)
    have hdd : (e != 0) = true := by simpa using he
    have HRS := hidden (Row.setRow_ HR.out [.int .u64 0, .int .u64 0] rfl)
    clear he hbd
    go_enter Try.func45, Try.ntmps45
    go_wp2_with fail
    refine HC1.out.mono ?_
    rintro e' w2 ⟨rfl, rfl⟩
    go_wp2_with (refine wpList_store_row rfl _ _ _ rfl _ #[.int .u64 0, .int .u64 0] rfl rfl _ _ HRW.out sizeEx rfl (by simp [Value.oneCell']) ?_)
    exact bodyPost_ret (results_ex3 rfl _ _ _ _ _ (.int .i64 0) (.int .i64 e) rfl HRS.out rfl rfl) rfl ⟨by rw [HE.out], below_setRow HG.out (Nat.le_refl _) _⟩
/-- bytes.Equal -/
theorem bytesEqual_any (va vb : Value) (la lb : List UInt8) (w : World) (ha : IsBytes w va la) (hb : IsBytes w vb lb) :
    Calls Try.prog 28 #[va, vb] w fun e w' => e = .returned (.bool (decide (la = lb))) ∧ w = w' := by
  have hr1 := run_string_bytes (P := Try.prog) ha 27 5 Try.underlying27 Try.underlying5 9 Try.underlying9
  have hr2 := run_string_bytes (P := Try.prog) hb 27 5 Try.underlying27 Try.underlying5 9 Try.underlying9
  have HE := hidden (show ((strOf la).toList == (strOf lb).toList) = decide (la = lb) by
    have e : ∀ l, (strOf l).toList = l := fun l => by rw [ByteArray.toList_eq]; rfl
    rw [e, e, Bool.eq_iff_iff, beq_iff_eq, decide_eq_true_eq])
  go_enter Try.func28, Try.ntmps28
  go_wp2_with fail
  go_ret
  exact ⟨retB (by rw [← HE.out]), rfl⟩
end Go.Proofs.Ytjjeebaelpgjlaa
