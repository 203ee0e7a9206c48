/-
  Texts that the claims of this seat share, put together (En8, Er1, Er2). No condition.
-/
import Derived.Test.YthmipnokimlbdaaGreatM16
/-
  Shaken: what the claims of this seat need of this text. No condition.
-/
namespace Go.Proofs.YthmipnokimlbdaaGreat
set_option maxRecDepth 8000
open Go.RowKit
set_option linter.unusedVariables false
set_option linter.unusedSimpArgs false
def fnE (k : Nat) (T : Int) : FuncId := if k = 0 then (if T = 1 then 78 else 81) else if k = 1 then 84 else if k = 2 then 87 else 90
def fnS (k : Nat) (T : Int) : FuncId := if k = 0 then (if T = 1 then 79 else 82) else if k = 1 then 85 else if k = 2 then 88 else 91
def fnD (k : Nat) (T : Int) : FuncId := if k = 0 then (if T = 1 then 80 else 83) else if k = 1 then 86 else if k = 2 then 89 else 92
def ftE (k : Nat) : FuncId := if k = 0 then 95 else if k = 4 then 98 else 101
def ftS (k : Nat) : FuncId := if k = 0 then 96 else if k = 4 then 99 else 102
def ftD (k : Nat) : FuncId := if k = 0 then 97 else if k = 4 then 100 else 103
theorem row_ne {w : World} {a b : Nat} {e e' : TypeId} {xs ys : List Value} (h : Row w a e xs) (h' : Row w b e' ys) (he : e ≠ e') : a ≠ b := by
  rintro rfl
  have h2 : some (Obj.cells xs.toArray e (0, 0)) = some (.cells ys.toArray e' (0, 0)) := h.symm.trans h'
  injection h2 with h2
  injection h2 with _ h3 _
  exact he h3
theorem CodecI.keep {fe fs fd : FuncId} {x : Value} {w : World} (h : CodecI fe fs fd x w) {g : Nat} {ys : List Value} (hr : Row w g 72 ys) (cs : Array Value) : CodecI fe fs fd x (w.setRow g cs) := by
  obtain ⟨be, bs, bd, bp, h0, h1, h2, h3, h4⟩ := h
  exact ⟨be, bs, bd, bp, h0, (setRow_other w g _ cs (row_ne h1 hr (by decide))).trans h1, (setRow_other w g _ cs (row_ne h2 hr (by decide))).trans h2, (setRow_other w g _ cs (row_ne h3 hr (by decide))).trans h3, (setRow_other w g _ cs (row_ne h4 hr (by decide))).trans h4⟩
theorem CodecT.keep {fe fs fd : FuncId} {x : Value} {w : World} (h : CodecT fe fs fd x w) {g : Nat} {ys : List Value} (hr : Row w g 72 ys) (cs : Array Value) : CodecT fe fs fd x (w.setRow g cs) := by
  obtain ⟨be, bs, bd, bp, h0, h1, h2, h3, h4⟩ := h
  exact ⟨be, bs, bd, bp, h0, (setRow_other w g _ cs (row_ne h1 hr (by decide))).trans h1, (setRow_other w g _ cs (row_ne h2 hr (by decide))).trans h2, (setRow_other w g _ cs (row_ne h3 hr (by decide))).trans h3, (setRow_other w g _ cs (row_ne h4 hr (by decide))).trans h4⟩
def FindR (b : Bool) (C : Value → World → Prop) (w : World) (e : Ending) (w' : World) : Prop :=
  ∃ a1 a2 a3, e = .returned (.tuple #[.agg #[a1, a2, a3], .bool b]) ∧ (a1.oneCell' && a2.oneCell' && a3.oneCell') = true ∧ (b = true → C (.agg #[a1, a2, a3]) w') ∧ Grows w w'
set_option maxHeartbeats 4000000 in
theorem efindN_any (k : Nat) (T : Int) (w : World) : Calls Tryz.prog 49 #[.int .i64 (k : Int), .int .i64 T] w (FindR (decide (k ≤ 3)) (CodecI (fnE k T) (fnS k T) (fnD k T)) w) := by
  have HR := hidden (Row.new w 72 #[.nilFunc, .nilFunc, .nilFunc] [.nilFunc, .nilFunc, .nilFunc] rfl)
  have HRW : Hid ((w.alloc (.cells #[.nilFunc, .nilFunc, .nilFunc] 72)).heap[w.heap.size]? = some (.cells #[.nilFunc, .nilFunc, .nilFunc] 72 (0, 0))) := HR.out
  have HRS := hidden (fun a b c => Row.setRow_ HR.out [a, b, c] rfl)
  obtain ⟨b, hb⟩ : ∃ b, b = decide (k ≤ 3) := ⟨_, rfl⟩
  rw [← hb]
  by_cases h0 : k = 0
  · subst h0
    have HB := hidden (show b = true by rw [hb]; rfl)
    clear hb
    by_cases hT : T = 1
    · subst hT
      go_enter Tryz.func49, Tryz.ntmps49
      go_wp2_with fail
      refine (ecodecOfI_any 78 79 80 _).mono ?_
      rintro e w2 ⟨x, rfl, hcod, g2⟩
      have HCOD := hidden hcod
      obtain ⟨be, bs, bd, bp, rfl, _⟩ := hcod
      have HG2 := hidden ((growB w _).of_below g2)
      have HR2 := hidden (HR.out.grow g2)
      have HRW : Hid (w2.heap[w.heap.size]? = some (.cells #[.nilFunc, .nilFunc, .nilFunc] 72 (0, 0))) := HR2.out
      have HRS := hidden (fun a b c => Row.setRow_ HR2.out [a, b, c] rfl)
      clear g2
      go_wp2_with (refine wpList_store_row rfl _ _ _ rfl _ _ rfl rfl _ _ HRW.out sizeCod rfl (by simp [Value.oneCell']) ?_)
      exact bodyPost_ret (results_cod2 rfl _ _ _ _ _ _ (.bool true) rfl (HRS.out _ _ _) rfl) rfl ⟨_, _, _, by rw [HB.out], rfl, fun _ => HCOD.out.keep HR2.out _, below_setRow HG2.out (Nat.le_refl _) _⟩
    · have eT : (T == 1) = false := by simpa using hT
      rw [show fnE 0 T = 81 by unfold fnE; rw [if_pos rfl, if_neg hT], show fnS 0 T = 82 by unfold fnS; rw [if_pos rfl, if_neg hT], show fnD 0 T = 83 by unfold fnD; rw [if_pos rfl, if_neg hT]]
      clear hT
      go_enter Tryz.func49, Tryz.ntmps49
      go_wp2_with fail
      refine (ecodecOfI_any 81 82 83 _).mono ?_
      rintro e w2 ⟨x, rfl, hcod, g2⟩
      have HCOD := hidden hcod
      obtain ⟨be, bs, bd, bp, rfl, _⟩ := hcod
      have HG2 := hidden ((growB w _).of_below g2)
      have HR2 := hidden (HR.out.grow g2)
      have HRW : Hid (w2.heap[w.heap.size]? = some (.cells #[.nilFunc, .nilFunc, .nilFunc] 72 (0, 0))) := HR2.out
      have HRS := hidden (fun a b c => Row.setRow_ HR2.out [a, b, c] rfl)
      clear g2
      go_wp2_with (refine wpList_store_row rfl _ _ _ rfl _ _ rfl rfl _ _ HRW.out sizeCod rfl (by simp [Value.oneCell']) ?_)
      exact bodyPost_ret (results_cod2 rfl _ _ _ _ _ _ (.bool true) rfl (HRS.out _ _ _) rfl) rfl ⟨_, _, _, by rw [HB.out], rfl, fun _ => HCOD.out.keep HR2.out _, below_setRow HG2.out (Nat.le_refl _) _⟩
  by_cases h1 : k = 1
  · subst h1
    have HB := hidden (show b = true by rw [hb]; rfl)
    clear hb h0
    go_enter Tryz.func49, Tryz.ntmps49
    go_wp2_with fail
    refine (ecodecOfI_any 84 85 86 _).mono ?_
    rintro e w2 ⟨x, rfl, hcod, g2⟩
    have HCOD := hidden hcod
    obtain ⟨be, bs, bd, bp, rfl, _⟩ := hcod
    have HG2 := hidden ((growB w _).of_below g2)
    have HR2 := hidden (HR.out.grow g2)
    have HRW : Hid (w2.heap[w.heap.size]? = some (.cells #[.nilFunc, .nilFunc, .nilFunc] 72 (0, 0))) := HR2.out
    have HRS := hidden (fun a b c => Row.setRow_ HR2.out [a, b, c] rfl)
    clear g2
    go_wp2_with (refine wpList_store_row rfl _ _ _ rfl _ _ rfl rfl _ _ HRW.out sizeCod rfl (by simp [Value.oneCell']) ?_)
    exact bodyPost_ret (results_cod2 rfl _ _ _ _ _ _ (.bool true) rfl (HRS.out _ _ _) rfl) rfl ⟨_, _, _, by rw [HB.out], rfl, fun _ => HCOD.out.keep HR2.out _, below_setRow HG2.out (Nat.le_refl _) _⟩
  by_cases h2 : k = 2
  · subst h2
    have HB := hidden (show b = true by rw [hb]; rfl)
    clear hb h0 h1
    go_enter Tryz.func49, Tryz.ntmps49
    go_wp2_with fail
    refine (ecodecOfI_any 87 88 89 _).mono ?_
    rintro e w2 ⟨x, rfl, hcod, g2⟩
    have HCOD := hidden hcod
    obtain ⟨be, bs, bd, bp, rfl, _⟩ := hcod
    have HG2 := hidden ((growB w _).of_below g2)
    have HR2 := hidden (HR.out.grow g2)
    have HRW : Hid (w2.heap[w.heap.size]? = some (.cells #[.nilFunc, .nilFunc, .nilFunc] 72 (0, 0))) := HR2.out
    have HRS := hidden (fun a b c => Row.setRow_ HR2.out [a, b, c] rfl)
    clear g2
    go_wp2_with (refine wpList_store_row rfl _ _ _ rfl _ _ rfl rfl _ _ HRW.out sizeCod rfl (by simp [Value.oneCell']) ?_)
    exact bodyPost_ret (results_cod2 rfl _ _ _ _ _ _ (.bool true) rfl (HRS.out _ _ _) rfl) rfl ⟨_, _, _, by rw [HB.out], rfl, fun _ => HCOD.out.keep HR2.out _, below_setRow HG2.out (Nat.le_refl _) _⟩
  by_cases h3 : k = 3
  · subst h3
    have HB := hidden (show b = true by rw [hb]; rfl)
    clear hb h0 h1 h2
    go_enter Tryz.func49, Tryz.ntmps49
    go_wp2_with fail
    refine (ecodecOfI_any 90 91 92 _).mono ?_
    rintro e w2 ⟨x, rfl, hcod, g2⟩
    have HCOD := hidden hcod
    obtain ⟨be, bs, bd, bp, rfl, _⟩ := hcod
    have HG2 := hidden ((growB w _).of_below g2)
    have HR2 := hidden (HR.out.grow g2)
    have HRW : Hid (w2.heap[w.heap.size]? = some (.cells #[.nilFunc, .nilFunc, .nilFunc] 72 (0, 0))) := HR2.out
    have HRS := hidden (fun a b c => Row.setRow_ HR2.out [a, b, c] rfl)
    clear g2
    go_wp2_with (refine wpList_store_row rfl _ _ _ rfl _ _ rfl rfl _ _ HRW.out sizeCod rfl (by simp [Value.oneCell']) ?_)
    exact bodyPost_ret (results_cod2 rfl _ _ _ _ _ _ (.bool true) rfl (HRS.out _ _ _) rfl) rfl ⟨_, _, _, by rw [HB.out], rfl, fun _ => HCOD.out.keep HR2.out _, below_setRow HG2.out (Nat.le_refl _) _⟩
  have HB := hidden (show b = false by rw [hb]; simp; omega)
  have e0 : ((k : Int) == 0) = false := by simp; omega
  have e1 : ((k : Int) == 1) = false := by simp; omega
  have e2 : ((k : Int) == 2) = false := by simp; omega
  have e3 : ((k : Int) == 3) = false := by simp; omega
  clear hb h0 h1 h2 h3
  go_enter Tryz.func49, Tryz.ntmps49
  go_wp2_with (refine wpList_store_row rfl _ _ _ rfl _ #[.nilFunc, .nilFunc, .nilFunc] rfl rfl _ _ HRW.out sizeCod rfl (by simp [Value.oneCell']) ?_)
  exact bodyPost_ret (results_cod2 rfl _ _ _ _ _ _ (.bool false) rfl (HRS.out _ _ _) rfl) rfl ⟨_, _, _, by rw [HB.out], rfl, fun h => by (rw [HB.out] at h; cases h), below_setRow (growB w _) (Nat.le_refl _) _⟩
set_option maxHeartbeats 4000000 in
theorem efindT_any (k : Nat) (w : World) : Calls Tryz.prog 50 #[.int .i64 (k : Int)] w (FindR (decide (k = 0 ∨ k = 4 ∨ k = 5)) (CodecT (ftE k) (ftS k) (ftD k)) w) := by
  have HR := hidden (Row.new w 72 #[.nilFunc, .nilFunc, .nilFunc] [.nilFunc, .nilFunc, .nilFunc] rfl)
  have HRW : Hid ((w.alloc (.cells #[.nilFunc, .nilFunc, .nilFunc] 72)).heap[w.heap.size]? = some (.cells #[.nilFunc, .nilFunc, .nilFunc] 72 (0, 0))) := HR.out
  have HRS := hidden (fun a b c => Row.setRow_ HR.out [a, b, c] rfl)
  obtain ⟨b, hb⟩ : ∃ b, b = decide (k = 0 ∨ k = 4 ∨ k = 5) := ⟨_, rfl⟩
  rw [← hb]
  by_cases h0 : k = 0
  · subst h0
    have HB := hidden (show b = true by rw [hb]; rfl)
    clear hb 
    go_enter Tryz.func50, Tryz.ntmps50
    go_wp2_with fail
    refine (ecodecOfT_any 95 96 97 _).mono ?_
    rintro e w2 ⟨x, rfl, hcod, g2⟩
    have HCOD := hidden hcod
    obtain ⟨be, bs, bd, bp, rfl, _⟩ := hcod
    have HG2 := hidden ((growB w _).of_below g2)
    have HR2 := hidden (HR.out.grow g2)
    have HRW : Hid (w2.heap[w.heap.size]? = some (.cells #[.nilFunc, .nilFunc, .nilFunc] 72 (0, 0))) := HR2.out
    have HRS := hidden (fun a b c => Row.setRow_ HR2.out [a, b, c] rfl)
    clear g2
    go_wp2_with (refine wpList_store_row rfl _ _ _ rfl _ _ rfl rfl _ _ HRW.out sizeCod rfl (by simp [Value.oneCell']) ?_)
    exact bodyPost_ret (results_cod2 rfl _ _ _ _ _ _ (.bool true) rfl (HRS.out _ _ _) rfl) rfl ⟨_, _, _, by rw [HB.out], rfl, fun _ => HCOD.out.keep HR2.out _, below_setRow HG2.out (Nat.le_refl _) _⟩
  by_cases h4 : k = 4
  · subst h4
    have HB := hidden (show b = true by rw [hb]; rfl)
    clear hb h0
    go_enter Tryz.func50, Tryz.ntmps50
    go_wp2_with fail
    refine (ecodecOfT_any 98 99 100 _).mono ?_
    rintro e w2 ⟨x, rfl, hcod, g2⟩
    have HCOD := hidden hcod
    obtain ⟨be, bs, bd, bp, rfl, _⟩ := hcod
    have HG2 := hidden ((growB w _).of_below g2)
    have HR2 := hidden (HR.out.grow g2)
    have HRW : Hid (w2.heap[w.heap.size]? = some (.cells #[.nilFunc, .nilFunc, .nilFunc] 72 (0, 0))) := HR2.out
    have HRS := hidden (fun a b c => Row.setRow_ HR2.out [a, b, c] rfl)
    clear g2
    go_wp2_with (refine wpList_store_row rfl _ _ _ rfl _ _ rfl rfl _ _ HRW.out sizeCod rfl (by simp [Value.oneCell']) ?_)
    exact bodyPost_ret (results_cod2 rfl _ _ _ _ _ _ (.bool true) rfl (HRS.out _ _ _) rfl) rfl ⟨_, _, _, by rw [HB.out], rfl, fun _ => HCOD.out.keep HR2.out _, below_setRow HG2.out (Nat.le_refl _) _⟩
  by_cases h5 : k = 5
  · subst h5
    have HB := hidden (show b = true by rw [hb]; rfl)
    clear hb h0 h4
    go_enter Tryz.func50, Tryz.ntmps50
    go_wp2_with fail
    refine (ecodecOfT_any 101 102 103 _).mono ?_
    rintro e w2 ⟨x, rfl, hcod, g2⟩
    have HCOD := hidden hcod
    obtain ⟨be, bs, bd, bp, rfl, _⟩ := hcod
    have HG2 := hidden ((growB w _).of_below g2)
    have HR2 := hidden (HR.out.grow g2)
    have HRW : Hid (w2.heap[w.heap.size]? = some (.cells #[.nilFunc, .nilFunc, .nilFunc] 72 (0, 0))) := HR2.out
    have HRS := hidden (fun a b c => Row.setRow_ HR2.out [a, b, c] rfl)
    clear g2
    go_wp2_with (refine wpList_store_row rfl _ _ _ rfl _ _ rfl rfl _ _ HRW.out sizeCod rfl (by simp [Value.oneCell']) ?_)
    exact bodyPost_ret (results_cod2 rfl _ _ _ _ _ _ (.bool true) rfl (HRS.out _ _ _) rfl) rfl ⟨_, _, _, by rw [HB.out], rfl, fun _ => HCOD.out.keep HR2.out _, below_setRow HG2.out (Nat.le_refl _) _⟩
  have HB := hidden (show b = false by rw [hb]; simp; omega)
  have e0 : ((k : Int) == 0) = false := by simp; omega
  have e4 : ((k : Int) == 4) = false := by simp; omega
  have e5 : ((k : Int) == 5) = false := by simp; omega
  clear hb h0 h4 h5
  go_enter Tryz.func50, Tryz.ntmps50
  go_wp2_with (refine wpList_store_row rfl _ _ _ rfl _ #[.nilFunc, .nilFunc, .nilFunc] rfl rfl _ _ HRW.out sizeCod rfl (by simp [Value.oneCell']) ?_)
  exact bodyPost_ret (results_cod2 rfl _ _ _ _ _ _ (.bool false) rfl (HRS.out _ _ _) rfl) rfl ⟨_, _, _, by rw [HB.out], rfl, fun h => by (rw [HB.out] at h; cases h), below_setRow (growB w _) (Nat.le_refl _) _⟩
def CodecR (k : Nat) (T : Int) (x : Value) (w : World) : Prop := if T = 3 then CodecT (ftE k) (ftS k) (ftD k) x w else CodecI (fnE k T) (fnS k T) (fnD k T) x w
theorem CodecR.grow {k : Nat} {T : Int} {x : Value} {w w' : World} (h : CodecR k T x w) (hg : Grows w w') : CodecR k T x w' := by
  unfold CodecR at h ⊢
  split at h
  · rw [if_pos (by assumption)]; exact h.grow hg
  · rw [if_neg (by assumption)]; exact h.grow hg
theorem CodecR.keep {k : Nat} {T : Int} {x : Value} {w : World} (h : CodecR k T x w) {g : Nat} {ys : List Value} (hr : Row w g 72 ys) (cs : Array Value) : CodecR k T x (w.setRow g cs) := by
  unfold CodecR at h ⊢
  split at h
  · rw [if_pos (by assumption)]; exact h.keep hr cs
  · rw [if_neg (by assumption)]; exact h.keep hr cs
set_option maxHeartbeats 4000000 in
theorem efind_any (k : Nat) (T : Int) (w : World) : Calls Tryz.prog 34 #[.int .i64 (k : Int), .int .i64 T] w (FindR (apl k T) (CodecR k T) w) := by
  have HR := hidden (Row.new w 72 #[.nilFunc, .nilFunc, .nilFunc] [.nilFunc, .nilFunc, .nilFunc] rfl)
  have HRW : Hid ((w.alloc (.cells #[.nilFunc, .nilFunc, .nilFunc] 72)).heap[w.heap.size]? = some (.cells #[.nilFunc, .nilFunc, .nilFunc] 72 (0, 0))) := HR.out
  have HRS := hidden (fun a b c => Row.setRow_ HR.out [a, b, c] rfl)
  obtain ⟨b, hb⟩ : ∃ b, b = apl k T := ⟨_, rfl⟩
  rw [← hb]
  by_cases h1 : T = 1
  · subst h1
    have HB := hidden (show decide (k ≤ 3) = b by rw [hb]; rfl)
    have HCR := hidden (fun (x : Value) (w : World) (h : CodecI (fnE k 1) (fnS k 1) (fnD k 1) x w) => show CodecR k 1 x w from h)
    have HF := hidden (fun W => efindN_any k 1 W)
    rw [HB.out] at HF
    replace HB := hidden (rfl : b = b)
    clear hb
    go_enter Tryz.func34, Tryz.ntmps34
    go_wp2_with fail
    refine (HF.out _).mono ?_
    rintro e w2 ⟨a1, a2, a3, rfl, hone, hcod, g2⟩
    have HONE := hidden hone
    have HCOD := hidden hcod
    have HG2 := hidden ((growB w _).of_below g2)
    have HR2 := hidden (HR.out.grow g2)
    have HRW : Hid (w2.heap[w.heap.size]? = some (.cells #[.nilFunc, .nilFunc, .nilFunc] 72 (0, 0))) := HR2.out
    have HRS := hidden (Row.setRow_ HR2.out [a1, a2, a3] rfl)
    have H1 := hidden (show (#[a1, a2, a3].all (·.oneCell')) = true by simpa [Bool.and_assoc] using hone)
    clear g2 hone hcod
    go_wp2_with (refine wpList_store_row rfl _ _ _ rfl _ #[a1, a2, a3] rfl rfl _ _ HRW.out sizeCod rfl H1.out ?_)
    exact bodyPost_ret (results_cod2 rfl _ _ _ _ _ _ (.bool b) rfl HRS.out rfl) rfl ⟨_, _, _, rfl, HONE.out, fun h => HCR.out _ _ ((HCOD.out h).keep HR2.out _), below_setRow HG2.out (Nat.le_refl _) _⟩
  by_cases h2 : T = 2
  · subst h2
    have HB := hidden (show decide (k ≤ 3) = b by rw [hb]; rfl)
    have HCR := hidden (fun (x : Value) (w : World) (h : CodecI (fnE k 2) (fnS k 2) (fnD k 2) x w) => show CodecR k 2 x w from h)
    have HF := hidden (fun W => efindN_any k 2 W)
    rw [HB.out] at HF
    replace HB := hidden (rfl : b = b)
    clear hb h1
    go_enter Tryz.func34, Tryz.ntmps34
    go_wp2_with fail
    refine (HF.out _).mono ?_
    rintro e w2 ⟨a1, a2, a3, rfl, hone, hcod, g2⟩
    have HONE := hidden hone
    have HCOD := hidden hcod
    have HG2 := hidden ((growB w _).of_below g2)
    have HR2 := hidden (HR.out.grow g2)
    have HRW : Hid (w2.heap[w.heap.size]? = some (.cells #[.nilFunc, .nilFunc, .nilFunc] 72 (0, 0))) := HR2.out
    have HRS := hidden (Row.setRow_ HR2.out [a1, a2, a3] rfl)
    have H1 := hidden (show (#[a1, a2, a3].all (·.oneCell')) = true by simpa [Bool.and_assoc] using hone)
    clear g2 hone hcod
    go_wp2_with (refine wpList_store_row rfl _ _ _ rfl _ #[a1, a2, a3] rfl rfl _ _ HRW.out sizeCod rfl H1.out ?_)
    exact bodyPost_ret (results_cod2 rfl _ _ _ _ _ _ (.bool b) rfl HRS.out rfl) rfl ⟨_, _, _, rfl, HONE.out, fun h => HCR.out _ _ ((HCOD.out h).keep HR2.out _), below_setRow HG2.out (Nat.le_refl _) _⟩
  by_cases h3 : T = 3
  · subst h3
    have HB := hidden (show decide (k = 0 ∨ k = 4 ∨ k = 5) = b by rw [hb]; rfl)
    have HCR := hidden (fun (x : Value) (w : World) (h : CodecT (ftE k) (ftS k) (ftD k) x w) => show CodecR k 3 x w from h)
    have HF := hidden (fun W => efindT_any k W)
    rw [HB.out] at HF
    replace HB := hidden (rfl : b = b)
    clear hb h1 h2
    go_enter Tryz.func34, Tryz.ntmps34
    go_wp2_with fail
    refine (HF.out _).mono ?_
    rintro e w2 ⟨a1, a2, a3, rfl, hone, hcod, g2⟩
    have HONE := hidden hone
    have HCOD := hidden hcod
    have HG2 := hidden ((growB w _).of_below g2)
    have HR2 := hidden (HR.out.grow g2)
    have HRW : Hid (w2.heap[w.heap.size]? = some (.cells #[.nilFunc, .nilFunc, .nilFunc] 72 (0, 0))) := HR2.out
    have HRS := hidden (Row.setRow_ HR2.out [a1, a2, a3] rfl)
    have H1 := hidden (show (#[a1, a2, a3].all (·.oneCell')) = true by simpa [Bool.and_assoc] using hone)
    clear g2 hone hcod
    go_wp2_with (refine wpList_store_row rfl _ _ _ rfl _ #[a1, a2, a3] rfl rfl _ _ HRW.out sizeCod rfl H1.out ?_)
    exact bodyPost_ret (results_cod2 rfl _ _ _ _ _ _ (.bool b) rfl HRS.out rfl) rfl ⟨_, _, _, rfl, HONE.out, fun h => HCR.out _ _ ((HCOD.out h).keep HR2.out _), below_setRow HG2.out (Nat.le_refl _) _⟩
  have e1 : (T == 1) = false := by simpa using h1
  have e2 : (T == 2) = false := by simpa using h2
  have e3 : (T == 3) = false := by simpa using h3
  have HB := hidden (show b = false by rw [hb]; unfold apl; rw [if_neg (by omega), if_neg h3])
  clear hb h1 h2 h3
  go_enter Tryz.func34, Tryz.ntmps34
  go_wp2_with (refine wpList_store_row rfl _ _ _ rfl _ #[.nilFunc, .nilFunc, .nilFunc] rfl rfl _ _ HRW.out sizeCod rfl (by simp [Value.oneCell']) ?_)
  exact bodyPost_ret (results_cod2 rfl _ _ _ _ _ _ (.bool false) rfl (HRS.out _ _ _) rfl) rfl ⟨_, _, _, by rw [HB.out], rfl, fun h => by (rw [HB.out] at h; cases h), below_setRow (growB w _) (Nat.le_refl _) _⟩
end Go.Proofs.YthmipnokimlbdaaGreat
/-
  Shaken: what the claims of this seat need of this text. No condition.
-/
namespace Go.Proofs.YthmipnokimlbdaaGreat
set_option maxRecDepth 8000
open Go.RowKit
set_option linter.unusedVariables false
set_option linter.unusedSimpArgs false
theorem rlen_any (x : Value) (v : Vec) (w : World) (hx : IsV w x v) : Calls Tryz.prog 26 #[x] w fun e w' => e = .returned (.int .i64 (v.ns.length : Int)) ∧ Grows w w' := by
  obtain ⟨a1, a2, a3, rfl, j1, j2, j3⟩ := hx
  obtain ⟨A3, c3, rfl⟩ := j3.slice_
  have HG := hidden (growB w)
  generalize v.ns.length = n at *
  clear j1 j2 j3
  go_enter Tryz.func26, Tryz.ntmps26
  go_wp2_with fail
  go_ret
  exact ⟨rfl, HG.out _⟩
def aplR (k T : Int) : Bool := if k = 0 then true else if k = 1 ∨ k = 2 ∨ k = 3 then decide (T = 1 ∨ T = 2) else if k = 4 ∨ k = 5 then decide (T = 3) else false
theorem aplR_eq {k : Nat} {T : Int} (hT : okT T = true) : aplR k T = apl k T := by
  have h := okT_in hT
  have h3 : T = 1 ∨ T = 2 ∨ T = 3 := by omega
  unfold aplR apl
  rcases h3 with rfl | rfl | rfl
  · by_cases h0 : k = 0
    · subst h0; rfl
    · by_cases h1 : k ≤ 3
      · rw [if_neg (by omega), if_pos (by omega)]; simp [h1]
      · rw [if_neg (by omega), if_neg (by omega)]; simp [h1]
  · by_cases h0 : k = 0
    · subst h0; rfl
    · by_cases h1 : k ≤ 3
      · rw [if_neg (by omega), if_pos (by omega)]; simp [h1]
      · rw [if_neg (by omega), if_neg (by omega)]; simp [h1]
  · by_cases h0 : k = 0
    · subst h0; rfl
    · by_cases h1 : k ≤ 3
      · rw [if_neg (by omega), if_pos (by omega)]; simp; omega
      · rw [if_neg (by omega), if_neg (by omega)]
        by_cases h4 : k = 4 ∨ k = 5
        · rw [if_pos (by omega)]; simp; omega
        · rw [if_neg (by omega)]; simp; omega
theorem rapplies_any (T k : Int) (w : World) : Calls Tryz.prog 25 #[.int .i64 T, .int .i64 k] w fun e w' => e = .returned (.bool (aplR k T)) ∧ w = w' := by
  obtain ⟨b, hb⟩ : ∃ b, b = aplR k T := ⟨_, rfl⟩
  rw [← hb]
  by_cases h0 : k = 0
  · subst h0
    have HB := hidden (show b = true from hb)
    clear hb 
    go_enter Tryz.func25, Tryz.ntmps25
    go_wp2_with fail
    go_ret
    exact ⟨retB1 HB.out.symm, rfl⟩
  by_cases h1 : k = 1
  · subst h1
    by_cases t1 : T = 1
    · subst t1
      have HB := hidden (show b = true from hb)
      clear hb h0
      go_enter Tryz.func25, Tryz.ntmps25
      go_wp2_with fail
      go_ret
      exact ⟨retB1 HB.out.symm, rfl⟩
    by_cases t2 : T = 2
    · subst t2
      have HB := hidden (show b = true from hb)
      clear hb h0 t1
      go_enter Tryz.func25, Tryz.ntmps25
      go_wp2_with fail
      go_ret
      exact ⟨retB1 HB.out.symm, rfl⟩
    have f1 : (T == 1) = false := by simpa using t1
    have f2 : (T == 2) = false := by simpa using t2
    have HB := hidden (show b = false by rw [hb]; unfold aplR; rw [if_neg (by omega), if_pos (by omega)]; simp [t1, t2])
    clear hb h0 t1 t2
    go_enter Tryz.func25, Tryz.ntmps25
    go_wp2_with fail
    go_ret
    exact ⟨retB1 HB.out.symm, rfl⟩
  by_cases h2 : k = 2
  · subst h2
    by_cases t1 : T = 1
    · subst t1
      have HB := hidden (show b = true from hb)
      clear hb h0 h1
      go_enter Tryz.func25, Tryz.ntmps25
      go_wp2_with fail
      go_ret
      exact ⟨retB1 HB.out.symm, rfl⟩
    by_cases t2 : T = 2
    · subst t2
      have HB := hidden (show b = true from hb)
      clear hb h0 h1 t1
      go_enter Tryz.func25, Tryz.ntmps25
      go_wp2_with fail
      go_ret
      exact ⟨retB1 HB.out.symm, rfl⟩
    have f1 : (T == 1) = false := by simpa using t1
    have f2 : (T == 2) = false := by simpa using t2
    have HB := hidden (show b = false by rw [hb]; unfold aplR; rw [if_neg (by omega), if_pos (by omega)]; simp [t1, t2])
    clear hb h0 h1 t1 t2
    go_enter Tryz.func25, Tryz.ntmps25
    go_wp2_with fail
    go_ret
    exact ⟨retB1 HB.out.symm, rfl⟩
  by_cases h3 : k = 3
  · subst h3
    by_cases t1 : T = 1
    · subst t1
      have HB := hidden (show b = true from hb)
      clear hb h0 h1 h2
      go_enter Tryz.func25, Tryz.ntmps25
      go_wp2_with fail
      go_ret
      exact ⟨retB1 HB.out.symm, rfl⟩
    by_cases t2 : T = 2
    · subst t2
      have HB := hidden (show b = true from hb)
      clear hb h0 h1 h2 t1
      go_enter Tryz.func25, Tryz.ntmps25
      go_wp2_with fail
      go_ret
      exact ⟨retB1 HB.out.symm, rfl⟩
    have f1 : (T == 1) = false := by simpa using t1
    have f2 : (T == 2) = false := by simpa using t2
    have HB := hidden (show b = false by rw [hb]; unfold aplR; rw [if_neg (by omega), if_pos (by omega)]; simp [t1, t2])
    clear hb h0 h1 h2 t1 t2
    go_enter Tryz.func25, Tryz.ntmps25
    go_wp2_with fail
    go_ret
    exact ⟨retB1 HB.out.symm, rfl⟩
  by_cases h4 : k = 4
  · subst h4
    by_cases t3 : T = 3
    · subst t3
      have HB := hidden (show b = true from hb)
      clear hb h0 h1 h2 h3
      go_enter Tryz.func25, Tryz.ntmps25
      go_wp2_with fail
      go_ret
      exact ⟨retB1 HB.out.symm, rfl⟩
    have f3 : (T == 3) = false := by simpa using t3
    have HB := hidden (show b = false by rw [hb]; unfold aplR; rw [if_neg (by omega), if_neg (by omega), if_pos (by omega)]; simp [t3])
    clear hb h0 h1 h2 h3 t3
    go_enter Tryz.func25, Tryz.ntmps25
    go_wp2_with fail
    go_ret
    exact ⟨retB1 HB.out.symm, rfl⟩
  by_cases h5 : k = 5
  · subst h5
    by_cases t3 : T = 3
    · subst t3
      have HB := hidden (show b = true from hb)
      clear hb h0 h1 h2 h3 h4
      go_enter Tryz.func25, Tryz.ntmps25
      go_wp2_with fail
      go_ret
      exact ⟨retB1 HB.out.symm, rfl⟩
    have f3 : (T == 3) = false := by simpa using t3
    have HB := hidden (show b = false by rw [hb]; unfold aplR; rw [if_neg (by omega), if_neg (by omega), if_pos (by omega)]; simp [t3])
    clear hb h0 h1 h2 h3 h4 t3
    go_enter Tryz.func25, Tryz.ntmps25
    go_wp2_with fail
    go_ret
    exact ⟨retB1 HB.out.symm, rfl⟩
  have e0 : (k == 0) = false := by simpa using h0
  have e1 : (k == 1) = false := by simpa using h1
  have e2 : (k == 2) = false := by simpa using h2
  have e3 : (k == 3) = false := by simpa using h3
  have e4 : (k == 4) = false := by simpa using h4
  have e5 : (k == 5) = false := by simpa using h5
  have HB := hidden (show b = false by rw [hb]; unfold aplR; rw [if_neg h0, if_neg (by omega), if_neg (by omega)])
  clear hb h0 h1 h2 h3 h4 h5
  go_enter Tryz.func25, Tryz.ntmps25
  go_wp2_with fail
  go_ret
  exact ⟨retB1 HB.out.symm, rfl⟩
theorem drewN_g {w w' : World} (h : Grows w w') (n : Nat) : Grows w (w'.drewN n) := h.of_below ⟨rfl, rfl, rfl, Nat.le_refl _, fun _ _ => rfl⟩
def EqRelEr1 (w2 : World) (n : Nat) (i : Value) (wr : World) : Prop := ∃ k : Nat, k ≤ n ∧ i = .int .i64 (k : Int) ∧ Grows w2 wr
set_option maxHeartbeats 8000000 in
theorem requalV_same (x y : Value) (v : Vec) (w : World) (hx : IsV w x v) (hy : IsV w y v) (hl : v.is.length ≤ 1000000) (hl2 : v.ts.length ≤ 1000000) (hl3 : v.ns.length ≤ 1000000) : Calls Tryz.prog 20 #[x, y] w fun e w' => e = .returned (.bool true) ∧ Grows w w' := by
  obtain ⟨T, is, ts, ns⟩ := v
  obtain ⟨x1, x2, x3, rfl, a1, a2, a3⟩ := hx
  obtain ⟨y1, y2, y3, rfl, b1, b2, b3⟩ := hy
  dsimp only at *
  obtain ⟨A1, c1, rfl⟩ := a1.slice_
  obtain ⟨A2, c2, rfl⟩ := a2.slice_
  obtain ⟨A3, c3, rfl⟩ := a3.slice_
  obtain ⟨B1, d1, rfl⟩ := b1.slice_
  obtain ⟨B2, d2, rfl⟩ := b2.slice_
  obtain ⟨B3, d3, rfl⟩ := b3.slice_
  have HA1 := hidden a1
  have HB1 := hidden b1
  have HA2 := hidden a2
  have HB2 := hidden b2
  have HA3 := hidden a3
  have HB3 := hidden b3
  obtain ⟨n1, hn1⟩ : ∃ n, n = is.length := ⟨_, rfl⟩
  obtain ⟨n2, hn2⟩ : ∃ n, n = ts.length := ⟨_, rfl⟩
  obtain ⟨n3, hn3⟩ : ∃ n, n = ns.length := ⟨_, rfl⟩
  rw [← hn1] at HA1 HB1 hl ⊢
  rw [← hn2] at HA2 HB2 hl2 ⊢
  rw [← hn3] at HA3 HB3 hl3 ⊢
  have HN1 := hidden hn1
  have HN2 := hidden hn2
  have HN3 := hidden hn3
  clear a1 a2 a3 b1 b2 b3 hn1 hn2 hn3
  have HG2 := hidden ((growB w (.cells #[.int .i64 T, .slice A1 n1 c1, .slice A2 n2 c2, .slice A3 n3 c3] 26)).of_below (growB _ (.cells #[.int .i64 T, .slice B1 n1 d1, .slice B2 n2 d2, .slice B3 n3 d3] 26)))
  have HX2 := hidden ((Row.new w 26 #[.int .i64 T, .slice A1 n1 c1, .slice A2 n2 c2, .slice A3 n3 c3] [.int .i64 T, .slice A1 n1 c1, .slice A2 n2 c2, .slice A3 n3 c3] rfl).grow (growB _ (.cells #[.int .i64 T, .slice B1 n1 d1, .slice B2 n2 d2, .slice B3 n3 d3] 26)))
  have HY2 := hidden (Row.at_ (w.alloc (.cells #[.int .i64 T, .slice A1 n1 c1, .slice A2 n2 c2, .slice A3 n3 c3] 26)) 26 #[.int .i64 T, .slice B1 n1 d1, .slice B2 n2 d2, .slice B3 n3 d3] [.int .i64 T, .slice B1 n1 d1, .slice B2 n2 d2, .slice B3 n3 d3] rfl (w.heap.size + 1) (by rw [World.size_alloc]))
  obtain ⟨w2, hw2⟩ : ∃ w2, w2 = (w.alloc (.cells #[.int .i64 T, .slice A1 n1 c1, .slice A2 n2 c2, .slice A3 n3 c3] 26)).alloc (.cells #[.int .i64 T, .slice B1 n1 d1, .slice B2 n2 d2, .slice B3 n3 d3] 26) := ⟨_, rfl⟩
  rw [← hw2] at HG2 HX2 HY2
  have HW2 := hidden hw2.symm
  clear hw2
  go_enter Tryz.func20, Tryz.ntmps20
  go_wp2_with fail
  rw [HW2.out]
  go_loopw [5] (fun i wr => EqRelEr1 w2 n1 i wr) (fun i _ => n1 - (intOf i).toNat)
  case atStart => exact ⟨0, by omega, rfl, Below.refl _ _⟩
  case round =>
    obtain ⟨k, hk, rfl, hb⟩ := hrel
    have HBW := hidden hb
    have xa1 := (HX2.out.grow hb).cell 1
    have ya1 := (HY2.out.grow hb).cell 1
    simp only [List.getElem?_cons_succ, List.getElem?_cons_zero] at xa1 ya1
    by_cases hlt : k < n1
    · have hlt' : k < is.length := by rw [← HN1.out]; exact hlt
      obtain ⟨q1, f1, rfl, hc1⟩ := (HA1.out.grow (HG2.out.of_below hb)).at_ hlt'
      obtain ⟨q2, f2, rfl, hc2⟩ := (HB1.out.grow (HG2.out.of_below hb)).at_ hlt'
      generalize is[k] = z at *
      clear hlt' hb
      go_wp2_with fail
      go_quiet (fail)
      go_wp2_with fail
      first
        | (go_roundw; (case rel => exact ⟨k + 1, by omega, by go_num, drewN_g HBW.out _⟩); (case measure => simp [intOf]; omega))
        | exact ⟨⟨k + 1, by omega, by go_num, drewN_g HBW.out _⟩, by simp [intOf]; omega⟩
    · have hd : decide (k < n1) = false := by simpa using hlt
      clear hb
      have HBQ0 := HBW
      go_wp2_with fail
      go_loopw [6] (fun i wr => EqRelEr1 w2 n2 i wr) (fun i _ => n2 - (intOf i).toNat)
      case atStart => exact ⟨0, by omega, rfl, HBQ0.out⟩
      case round =>
        obtain ⟨k, hk, rfl, hb⟩ := hrel
        have HBW := hidden hb
        have xa2 := (HX2.out.grow hb).cell 2
        have ya2 := (HY2.out.grow hb).cell 2
        simp only [List.getElem?_cons_succ, List.getElem?_cons_zero] at xa2 ya2
        by_cases hlt : k < n2
        · have hlt' : k < ts.length := by rw [← HN2.out]; exact hlt
          obtain ⟨q1, f1, rfl, hc1⟩ := (HA2.out.grow (HG2.out.of_below hb)).at_ hlt'
          obtain ⟨q2, f2, rfl, hc2⟩ := (HB2.out.grow (HG2.out.of_below hb)).at_ hlt'
          generalize strOf ts[k] = z at *
          clear hlt' hb
          go_wp2_with fail
          go_quiet (fail)
          go_wp2_with fail
          first
            | (go_roundw; (case rel => exact ⟨k + 1, by omega, by go_num, drewN_g HBW.out _⟩); (case measure => simp [intOf]; omega))
            | exact ⟨⟨k + 1, by omega, by go_num, drewN_g HBW.out _⟩, by simp [intOf]; omega⟩
        · have hd : decide (k < n2) = false := by simpa using hlt
          clear hb
          have HBR0 := HBW
          go_wp2_with fail
          go_loopw [7] (fun i wr => EqRelEr1 w2 n3 i wr) (fun i _ => n3 - (intOf i).toNat)
          case atStart => exact ⟨0, by omega, rfl, HBR0.out⟩
          case round =>
            obtain ⟨k, hk, rfl, hb⟩ := hrel
            have HBW := hidden hb
            have xa3 := (HX2.out.grow hb).cell 3
            have ya3 := (HY2.out.grow hb).cell 3
            simp only [List.getElem?_cons_succ, List.getElem?_cons_zero] at xa3 ya3
            by_cases hlt : k < n3
            · have hlt' : k < ns.length := by rw [← HN3.out]; exact hlt
              obtain ⟨q1, f1, rfl, hc1⟩ := (HA3.out.grow (HG2.out.of_below hb)).at_ hlt'
              obtain ⟨q2, f2, rfl, hc2⟩ := (HB3.out.grow (HG2.out.of_below hb)).at_ hlt'
              generalize ns[k] = z at *
              clear hlt' hb
              go_wp2_with fail
              go_quiet (fail)
              go_wp2_with fail
              first
                | (go_roundw; (case rel => exact ⟨k + 1, by omega, by go_num, drewN_g HBW.out _⟩); (case measure => simp [intOf]; omega))
                | exact ⟨⟨k + 1, by omega, by go_num, drewN_g HBW.out _⟩, by simp [intOf]; omega⟩
            · have hd : decide (k < n3) = false := by simpa using hlt
              clear hb
              have HBS0 := HBW
              go_wp2_with fail
              go_ret
              exact ⟨rfl, HG2.out.of_below HBW.out⟩
end Go.Proofs.YthmipnokimlbdaaGreat
/-
  Shaken: what the claims of this seat need of this text. No condition.
-/
namespace Go.Proofs.YthmipnokimlbdaaGreat
set_option maxRecDepth 8000
open Go.RowKit
set_option linter.unusedVariables false
set_option linter.unusedSimpArgs false
def goodAt (v : Vec) (k : Nat) : Bool := !(v.ns.getD k true) && !(decide (v.T = 1) && badBool (v.is.getD k 0)) && !(decide (v.T = 3) && tooLong (v.ts.getD k []))
theorem getD_in {α : Type} {l : List α} {k : Nat} {d : α} (h : k < l.length) : l.getD k d = l[k] := by rw [List.getD_eq_getElem?_getD, List.getElem?_eq_getElem h]; rfl
theorem chk_of {v : Vec} (h1 : v.T = 1 → v.is.any badBool = false) (h2 : v.ts.any tooLong = false) : chk v = 0 := by
  unfold chk
  rw [if_neg (fun h => by rw [h1 h.1] at h; exact absurd h.2 (by simp)), if_neg (by rw [h2]; simp)]
theorem good_of {v : Vec} (h : Encable v) {k : Nat} (hk : k < v.ns.length) : goodAt v k = true := by
  unfold goodAt
  have h1 : v.ns.getD k true = false := by
    rw [getD_in hk]
    exact (List.mem_replicate.1 (show v.ns[k] ∈ List.replicate v.ns.length false by rw [← h.ns]; exact List.getElem_mem hk)).2
  have h2 : (decide (v.T = 1) && badBool (v.is.getD k 0)) = false := by
    by_cases hT : v.T = 1
    · have hl : k < v.is.length := by rw [(h.li (by omega)).1]; exact hk
      rw [getD_in hl, decide_eq_true hT]
      have := List.any_eq_false.1 (h.bools hT) _ (List.getElem_mem hl)
      simpa using this
    · rw [decide_eq_false hT]; rfl
  have h3 : (decide (v.T = 3) && tooLong (v.ts.getD k [])) = false := by
    by_cases hT : v.T = 3
    · have hl : k < v.ts.length := by rw [(h.lt hT).1]; exact hk
      rw [getD_in hl]
      have := h.texts _ (List.getElem_mem hl)
      unfold tooLong
      simp
      intro _
      omega
    · rw [decide_eq_false hT]; rfl
  rw [h1, h2, h3]
  rfl
theorem bad_ok {v : Vec} {k : Nat} (hk : k < v.ns.length) (h : goodAt v k = false) : okV v = false := by
  cases ho : okV v
  · rfl
  · rw [good_of (okV_iff.1 ho) hk] at h; cases h
theorem all_ok {v : Vec} (hT : okT v.T = true) (hn : v.ns.length ≤ 65536) (hi : v.T ≠ 3 → v.is.length = v.ns.length ∧ v.ts = []) (ht : v.T = 3 → v.ts.length = v.ns.length ∧ v.is = []) (hg : ∀ k, k < v.ns.length → goodAt v k = true) : okV v = true := by
  have hg' : ∀ k, k < v.ns.length → v.ns.getD k true = false ∧ (decide (v.T = 1) && badBool (v.is.getD k 0)) = false ∧ (decide (v.T = 3) && tooLong (v.ts.getD k [])) = false := fun k hk => by
    have := hg k hk
    unfold goodAt at this
    simp only [Bool.and_eq_true, Bool.not_eq_true'] at this
    exact ⟨this.1.1, this.1.2, this.2⟩
  have hb : v.T = 1 → v.is.any badBool = false := fun h1 => List.any_eq_false.2 fun x hx => by
    obtain ⟨j, hj, rfl⟩ := List.getElem_of_mem hx
    have := (hg' j (by rw [← (hi (by omega)).1]; exact hj)).2.1
    rw [decide_eq_true h1, getD_in hj] at this
    simpa using this
  have hx : ∀ s ∈ v.ts, s.length ≤ 4096 := fun s hs => by
    obtain ⟨j, hj, rfl⟩ := List.getElem_of_mem hs
    by_cases h3 : v.T = 3
    · have := (hg' j (by rw [← (ht h3).1]; exact hj)).2.2
      rw [decide_eq_true h3, getD_in hj] at this
      unfold tooLong at this
      simpa using this
    · rw [(hi h3).2] at hj; simp at hj
  have hx2 : v.ts.any tooLong = false := List.any_eq_false.2 fun s hs => by
    have := hx s hs
    unfold tooLong
    simpa using this
  refine okV_iff.2 ⟨hT, List.eq_replicate_iff.2 ⟨rfl, fun b hb => ?_⟩, hn, hi, ht, hb, hx, chk_of hb hx2⟩
  obtain ⟨j, hj, rfl⟩ := List.getElem_of_mem hb
  have := (hg' j hj).1
  rwa [getD_in hj] at this
theorem no_ok {v : Vec} (h : ¬ Encable v) : okV v = false := by
  cases ho : okV v
  · rfl
  · exact absurd (okV_iff.1 ho) h
theorem next_good {v : Vec} {k : Nat} (h : ∀ j, j < k → goodAt v j = true) (hg : goodAt v k = true) : ∀ j, j < k + 1 → goodAt v j = true := by
  intro j hj
  rcases Nat.lt_or_ge j k with h1 | h1
  · exact h j h1
  · obtain rfl : j = k := by omega
    exact hg
def EncRelEr2 (w1 : World) (v : Vec) (i : Value) (wr : World) : Prop := ∃ k : Nat, k ≤ v.ns.length ∧ i = .int .i64 (k : Int) ∧ (∀ j, j < k → goodAt v j = true) ∧ Grows w1 wr
set_option maxHeartbeats 8000000 in
theorem rencodable_any (x : Value) (v : Vec) (w : World) (hx : IsV w x v) (hs : Small v) : Calls Tryz.prog 13 #[x] w fun e w' => e = .returned (.bool (okV v)) ∧ Grows w w' := by
  obtain ⟨ok, hok⟩ : ∃ b, b = okV v := ⟨_, rfl⟩
  rw [← hok]
  obtain ⟨s1, s2, s3, s4⟩ := hs
  obtain ⟨a1, a2, a3, rfl, j1, j2, j3⟩ := hx
  obtain ⟨A1, c1, rfl⟩ := j1.slice_
  obtain ⟨A2, c2, rfl⟩ := j2.slice_
  obtain ⟨A3, c3, rfl⟩ := j3.slice_
  have HA1 := hidden j1
  have HA2 := hidden j2
  have HA3 := hidden j3
  obtain ⟨T, hT⟩ : ∃ T, v.T = T := ⟨_, rfl⟩
  obtain ⟨n1, hn1⟩ : ∃ n, v.is.length = n := ⟨_, rfl⟩
  obtain ⟨n2, hn2⟩ : ∃ n, v.ts.length = n := ⟨_, rfl⟩
  obtain ⟨n3, hn3⟩ : ∃ n, v.ns.length = n := ⟨_, rfl⟩
  rw [hT]
  rw [hn1] at HA1 s1 ⊢
  rw [hn2] at HA2 s2 ⊢
  rw [hn3] at HA3 s3 ⊢
  have HOK := hidden hok
  have HT := hidden hT
  have HN1 := hidden hn1
  have HN2 := hidden hn2
  have HN3 := hidden hn3
  clear j1 j2 j3 hok hT hn1 hn2 hn3 s4
  have HG1 := hidden (growB w (.cells #[.int .i64 T, .slice A1 n1 c1, .slice A2 n2 c2, .slice A3 n3 c3] 26))
  have HX1 := hidden (Row.new w 26 #[.int .i64 T, .slice A1 n1 c1, .slice A2 n2 c2, .slice A3 n3 c3] [.int .i64 T, .slice A1 n1 c1, .slice A2 n2 c2, .slice A3 n3 c3] rfl)
  by_cases t0 : T < 1
  · have d0 : decide (T < 1) = true := by simpa using t0
    have HB := hidden (show ok = false by rw [HOK.out]; exact no_ok fun h => by have := okT_in h.t; rw [HT.out] at this; omega)
    clear t0
    go_enter Tryz.func13, Tryz.ntmps13
    go_wp2_with fail
    go_ret
    exact ⟨retB1 HB.out.symm, HG1.out⟩
  have d0 : decide (T < 1) = false := by simpa using t0
  by_cases t4 : 3 < T
  · have d4 : decide (3 < T) = true := by simpa using t4
    have HB := hidden (show ok = false by rw [HOK.out]; exact no_ok fun h => by have := okT_in h.t; rw [HT.out] at this; omega)
    clear t0 t4
    go_enter Tryz.func13, Tryz.ntmps13
    go_wp2_with fail
    go_ret
    exact ⟨retB1 HB.out.symm, HG1.out⟩
  have HOT := hidden (show okT v.T = true by rw [HT.out]; unfold okT; simp; omega)
  have t123 : T = 1 ∨ T = 2 ∨ T = 3 := by omega
  clear t0 t4 d0
  by_cases h6 : 65536 < n3
  · have d6 : decide (65536 < (n3 : Int)) = true := by simp; omega
    have HB := hidden (show ok = false by rw [HOK.out]; exact no_ok fun h => by have := h.len; rw [HN3.out] at this; omega)
    clear h6
    rcases t123 with rfl | rfl | rfl
    · go_enter Tryz.func13, Tryz.ntmps13
      go_wp2_with fail
      go_ret
      exact ⟨retB1 HB.out.symm, HG1.out⟩
    · go_enter Tryz.func13, Tryz.ntmps13
      go_wp2_with fail
      go_ret
      exact ⟨retB1 HB.out.symm, HG1.out⟩
    · go_enter Tryz.func13, Tryz.ntmps13
      go_wp2_with fail
      go_ret
      exact ⟨retB1 HB.out.symm, HG1.out⟩
  have d6 : decide (65536 < (n3 : Int)) = false := by simp; omega
  have hn36 : n3 ≤ 65536 := by omega
  clear h6
  rcases t123 with rfl | rfl | rfl
  · by_cases o1 : n2 = 0
    case neg =>
      have e1 : ((n2 : Int) != 0) = true := by simp; omega
      have HB := hidden (show ok = false by rw [HOK.out]; exact no_ok fun h => by have hh := h.li (by rw [HT.out]; decide); have h0 := congrArg List.length hh.2; rw [HN2.out] at h0; simp at h0; omega)
      clear o1
      go_enter Tryz.func13, Tryz.ntmps13
      go_wp2_with fail
      go_ret
      exact ⟨retB1 HB.out.symm, HG1.out⟩
    have HO1 := hidden o1
    subst o1
    by_cases o2 : n1 = n3
    case neg =>
      have e2 : ((n1 : Int) != (n3 : Int)) = true := by simp; omega
      have e2' : (n1 != n3) = true := by simpa using o2
      have HB := hidden (show ok = false by rw [HOK.out]; exact no_ok fun h => by have hh := h.li (by rw [HT.out]; decide); have h0 := hh.1; rw [HN1.out, HN3.out] at h0; omega)
      clear o2
      go_enter Tryz.func13, Tryz.ntmps13
      go_wp2_with fail
      go_ret
      exact ⟨retB1 HB.out.symm, HG1.out⟩
    subst o2
    go_enter Tryz.func13, Tryz.ntmps13
    go_wp2_with fail
    go_loopw [4] (fun i wr => EncRelEr2 (w.alloc (.cells #[.int .i64 1, .slice A1 n1 c1, .slice A2 0 c2, .slice A3 n1 c3] 26)) v i wr) (fun i _ => n1 - (intOf i).toNat)
    case atStart => exact ⟨0, by omega, rfl, fun j h => by omega, Below.refl _ _⟩
    case round =>
      obtain ⟨k, hk, rfl, hgd, hb⟩ := hrel
      rw [HN3.out] at hk
      have HGD := hidden hgd
      have HBW := hidden hb
      have HW1 := hidden (HG1.out.of_below hb)
      have x0 := (HX1.out.grow hb).cell 0
      have x1 := (HX1.out.grow hb).cell 1
      have x2 := (HX1.out.grow hb).cell 2
      have x3 := (HX1.out.grow hb).cell 3
      simp only [List.getElem?_cons_succ, List.getElem?_cons_zero] at x0 x1 x2 x3
      clear hgd
      by_cases hlt : k < n1
      · have hk3 : k < v.ns.length := by rw [HN3.out]; exact hlt
        obtain ⟨q3, f3, rfl, hc3⟩ := (HA3.out.grow HW1.out).at_ hk3
        obtain ⟨bn, hbn⟩ : ∃ b, v.ns[k] = b := ⟨_, rfl⟩
        rw [hbn] at hc3
        have hgn : v.ns.getD k true = bn := by rw [getD_in hk3, hbn]
        have HNX := hidden (fun hg : goodAt v k = true => next_good HGD.out hg)
        have HNO := hidden (fun hg : goodAt v k = false => (show ok = false by rw [HOK.out]; exact bad_ok hk3 hg))
        cases bn
        case true =>
          have HB := hidden (HNO.out (by unfold goodAt; rw [hgn]; rfl))
          clear hb hk3 hbn hgn
          go_wp2_with fail
          go_ret
          exact ⟨retB1 HB.out.symm, HW1.out⟩
        have hk1 : k < v.is.length := by rw [HN1.out]; exact hlt
        obtain ⟨q1, f1, rfl, hc1⟩ := (HA1.out.grow HW1.out).at_ hk1
        obtain ⟨xn, hxn⟩ : ∃ x, v.is[k] = x := ⟨_, rfl⟩
        rw [hxn] at hc1
        have hgi : v.is.getD k 0 = xn := by rw [getD_in hk1, hxn]
        by_cases z0 : xn = 0
        · subst z0
          have HGK := hidden (show goodAt v k = true by unfold goodAt; rw [hgn, hgi, HT.out]; rfl)
          clear hb hk3 hbn hgn hk1 hxn hgi
          go_wp2_with fail
          go_roundw
          case rel => exact ⟨k + 1, by rw [HN3.out]; omega, by go_num, HNX.out HGK.out, HBW.out⟩
          case measure => simp [intOf]; omega
        by_cases z1 : xn = 1
        · subst z1
          have HGK := hidden (show goodAt v k = true by unfold goodAt; rw [hgn, hgi, HT.out]; rfl)
          clear hb hk3 hbn hgn hk1 hxn hgi z0
          go_wp2_with fail
          go_roundw
          case rel => exact ⟨k + 1, by rw [HN3.out]; omega, by go_num, HNX.out HGK.out, HBW.out⟩
          case measure => simp [intOf]; omega
        have y0 : (xn != 0) = true := by simpa using z0
        have y1 : (xn != 1) = true := by simpa using z1
        have HB := hidden (HNO.out (by unfold goodAt; rw [hgn, hgi, HT.out]; simp [badBool, z0, z1]))
        clear hb hk3 hbn hgn hk1 hxn hgi z0 z1
        go_wp2_with fail
        go_ret
        exact ⟨retB1 HB.out.symm, HW1.out⟩
      · have hke : k = n1 := by omega
        have HB := hidden (show ok = true by
          rw [HOK.out]
          refine all_ok HOT.out (by rw [HN3.out]; exact hn36) (fun h3 => ⟨by rw [HN1.out, HN3.out], List.eq_nil_of_length_eq_zero (by rw [HN2.out])⟩) (fun h3 => absurd (HT.out.symm.trans h3) (by decide)) (fun j hj => HGD.out j (by rw [HN3.out] at hj; omega)))
        have hd : decide (k < n1) = false := by simpa using hlt
        clear hb hke
        go_wp2_with fail
        go_ret
        exact ⟨retB1 HB.out.symm, HW1.out⟩
  · by_cases o1 : n2 = 0
    case neg =>
      have e1 : ((n2 : Int) != 0) = true := by simp; omega
      have HB := hidden (show ok = false by rw [HOK.out]; exact no_ok fun h => by have hh := h.li (by rw [HT.out]; decide); have h0 := congrArg List.length hh.2; rw [HN2.out] at h0; simp at h0; omega)
      clear o1
      go_enter Tryz.func13, Tryz.ntmps13
      go_wp2_with fail
      go_ret
      exact ⟨retB1 HB.out.symm, HG1.out⟩
    have HO1 := hidden o1
    subst o1
    by_cases o2 : n1 = n3
    case neg =>
      have e2 : ((n1 : Int) != (n3 : Int)) = true := by simp; omega
      have e2' : (n1 != n3) = true := by simpa using o2
      have HB := hidden (show ok = false by rw [HOK.out]; exact no_ok fun h => by have hh := h.li (by rw [HT.out]; decide); have h0 := hh.1; rw [HN1.out, HN3.out] at h0; omega)
      clear o2
      go_enter Tryz.func13, Tryz.ntmps13
      go_wp2_with fail
      go_ret
      exact ⟨retB1 HB.out.symm, HG1.out⟩
    subst o2
    go_enter Tryz.func13, Tryz.ntmps13
    go_wp2_with fail
    go_loopw [4] (fun i wr => EncRelEr2 (w.alloc (.cells #[.int .i64 2, .slice A1 n1 c1, .slice A2 0 c2, .slice A3 n1 c3] 26)) v i wr) (fun i _ => n1 - (intOf i).toNat)
    case atStart => exact ⟨0, by omega, rfl, fun j h => by omega, Below.refl _ _⟩
    case round =>
      obtain ⟨k, hk, rfl, hgd, hb⟩ := hrel
      rw [HN3.out] at hk
      have HGD := hidden hgd
      have HBW := hidden hb
      have HW1 := hidden (HG1.out.of_below hb)
      have x0 := (HX1.out.grow hb).cell 0
      have x1 := (HX1.out.grow hb).cell 1
      have x2 := (HX1.out.grow hb).cell 2
      have x3 := (HX1.out.grow hb).cell 3
      simp only [List.getElem?_cons_succ, List.getElem?_cons_zero] at x0 x1 x2 x3
      clear hgd
      by_cases hlt : k < n1
      · have hk3 : k < v.ns.length := by rw [HN3.out]; exact hlt
        obtain ⟨q3, f3, rfl, hc3⟩ := (HA3.out.grow HW1.out).at_ hk3
        obtain ⟨bn, hbn⟩ : ∃ b, v.ns[k] = b := ⟨_, rfl⟩
        rw [hbn] at hc3
        have hgn : v.ns.getD k true = bn := by rw [getD_in hk3, hbn]
        have HNX := hidden (fun hg : goodAt v k = true => next_good HGD.out hg)
        have HNO := hidden (fun hg : goodAt v k = false => (show ok = false by rw [HOK.out]; exact bad_ok hk3 hg))
        cases bn
        case true =>
          have HB := hidden (HNO.out (by unfold goodAt; rw [hgn]; rfl))
          clear hb hk3 hbn hgn
          go_wp2_with fail
          go_ret
          exact ⟨retB1 HB.out.symm, HW1.out⟩
        have HGK := hidden (show goodAt v k = true by unfold goodAt; rw [hgn, HT.out]; rfl)
        clear hb hk3 hbn hgn
        go_wp2_with fail
        go_roundw
        case rel => exact ⟨k + 1, by rw [HN3.out]; omega, by go_num, HNX.out HGK.out, HBW.out⟩
        case measure => simp [intOf]; omega
      · have hke : k = n1 := by omega
        have HB := hidden (show ok = true by
          rw [HOK.out]
          refine all_ok HOT.out (by rw [HN3.out]; exact hn36) (fun h3 => ⟨by rw [HN1.out, HN3.out], List.eq_nil_of_length_eq_zero (by rw [HN2.out])⟩) (fun h3 => absurd (HT.out.symm.trans h3) (by decide)) (fun j hj => HGD.out j (by rw [HN3.out] at hj; omega)))
        have hd : decide (k < n1) = false := by simpa using hlt
        clear hb hke
        go_wp2_with fail
        go_ret
        exact ⟨retB1 HB.out.symm, HW1.out⟩
  · by_cases o1 : n1 = 0
    case neg =>
      have e1 : ((n1 : Int) != 0) = true := by simp; omega
      have HB := hidden (show ok = false by rw [HOK.out]; exact no_ok fun h => by have hh := h.lt HT.out; have h0 := congrArg List.length hh.2; rw [HN1.out] at h0; simp at h0; omega)
      clear o1
      go_enter Tryz.func13, Tryz.ntmps13
      go_wp2_with fail
      go_ret
      exact ⟨retB1 HB.out.symm, HG1.out⟩
    have HO1 := hidden o1
    subst o1
    by_cases o2 : n2 = n3
    case neg =>
      have e2 : ((n2 : Int) != (n3 : Int)) = true := by simp; omega
      have e2' : (n2 != n3) = true := by simpa using o2
      have HB := hidden (show ok = false by rw [HOK.out]; exact no_ok fun h => by have hh := h.lt HT.out; have h0 := hh.1; rw [HN2.out, HN3.out] at h0; omega)
      clear o2
      go_enter Tryz.func13, Tryz.ntmps13
      go_wp2_with fail
      go_ret
      exact ⟨retB1 HB.out.symm, HG1.out⟩
    subst o2
    go_enter Tryz.func13, Tryz.ntmps13
    go_wp2_with fail
    go_loopw [4] (fun i wr => EncRelEr2 (w.alloc (.cells #[.int .i64 3, .slice A1 0 c1, .slice A2 n2 c2, .slice A3 n2 c3] 26)) v i wr) (fun i _ => n2 - (intOf i).toNat)
    case atStart => exact ⟨0, by omega, rfl, fun j h => by omega, Below.refl _ _⟩
    case round =>
      obtain ⟨k, hk, rfl, hgd, hb⟩ := hrel
      rw [HN3.out] at hk
      have HGD := hidden hgd
      have HBW := hidden hb
      have HW1 := hidden (HG1.out.of_below hb)
      have x0 := (HX1.out.grow hb).cell 0
      have x1 := (HX1.out.grow hb).cell 1
      have x2 := (HX1.out.grow hb).cell 2
      have x3 := (HX1.out.grow hb).cell 3
      simp only [List.getElem?_cons_succ, List.getElem?_cons_zero] at x0 x1 x2 x3
      clear hgd
      by_cases hlt : k < n2
      · have hk3 : k < v.ns.length := by rw [HN3.out]; exact hlt
        obtain ⟨q3, f3, rfl, hc3⟩ := (HA3.out.grow HW1.out).at_ hk3
        obtain ⟨bn, hbn⟩ : ∃ b, v.ns[k] = b := ⟨_, rfl⟩
        rw [hbn] at hc3
        have hgn : v.ns.getD k true = bn := by rw [getD_in hk3, hbn]
        have HNX := hidden (fun hg : goodAt v k = true => next_good HGD.out hg)
        have HNO := hidden (fun hg : goodAt v k = false => (show ok = false by rw [HOK.out]; exact bad_ok hk3 hg))
        cases bn
        case true =>
          have HB := hidden (HNO.out (by unfold goodAt; rw [hgn]; rfl))
          clear hb hk3 hbn hgn
          go_wp2_with fail
          go_ret
          exact ⟨retB1 HB.out.symm, HW1.out⟩
        have hk2 : k < v.ts.length := by rw [HN2.out]; exact hlt
        obtain ⟨q2, f2, rfl, hc2⟩ := (HA2.out.grow HW1.out).at_ hk2
        have hgi : v.ts.getD k [] = v.ts[k] := getD_in hk2
        have hsz : (strOf v.ts[k]).size = v.ts[k].length := rfl
        by_cases z0 : 4096 < v.ts[k].length
        · have HB := hidden (HNO.out (by unfold goodAt; rw [hgn, hgi, HT.out]; simp [tooLong]; omega))
          have y0 : decide ((4096 : Int) < ((strOf v.ts[k]).size : Int)) = true := by rw [hsz]; simp; omega
          generalize strOf v.ts[k] = z at *
          generalize v.ts[k].length = m at *
          clear hb hk3 hbn hgn hk2 hgi z0 hsz
          go_wp2_with fail
          go_ret
          exact ⟨retB1 HB.out.symm, HW1.out⟩
        have HGK := hidden (show goodAt v k = true by unfold goodAt; rw [hgn, hgi, HT.out]; simp [tooLong]; omega)
        have y0 : decide ((4096 : Int) < ((strOf v.ts[k]).size : Int)) = false := by rw [hsz]; simp; omega
        generalize strOf v.ts[k] = z at *
        generalize v.ts[k].length = m at *
        clear hb hk3 hbn hgn hk2 hgi z0 hsz
        go_wp2_with fail
        go_roundw
        case rel => exact ⟨k + 1, by rw [HN3.out]; omega, by go_num, HNX.out HGK.out, HBW.out⟩
        case measure => simp [intOf]; omega
      · have hke : k = n2 := by omega
        have HB := hidden (show ok = true by
          rw [HOK.out]
          refine all_ok HOT.out (by rw [HN3.out]; exact hn36) (fun h3 => absurd HT.out h3) (fun h3 => ⟨by rw [HN2.out, HN3.out], List.eq_nil_of_length_eq_zero (by rw [HN1.out])⟩) (fun j hj => HGD.out j (by rw [HN3.out] at hj; omega)))
        have hd : decide (k < n2) = false := by simpa using hlt
        clear hb hke
        go_wp2_with fail
        go_ret
        exact ⟨retB1 HB.out.symm, HW1.out⟩
end Go.Proofs.YthmipnokimlbdaaGreat
