/-
  Shaken: what the claims of this seat need of this text. No condition.
-/
import Derived.Test.YthmipnokimlbdaaGreatM24
namespace Go.Proofs.YthmipnokimlbdaaGreat
set_option maxRecDepth 8000
open Go.RowKit
set_option linter.unusedVariables false
set_option linter.unusedSimpArgs false
def tl (ts : List Str) (k : Nat) : Nat := ((ts.take k).map List.length).sum
theorem tl_succ {ts : List Str} {k : Nat} (h : k < ts.length) : tl ts (k + 1) = tl ts k + ts[k].length := by
  unfold tl
  rw [List.take_succ_eq_append_getElem h, List.map_append, List.sum_append]
  simp
theorem tl_le {ts : List Str} (h : ∀ s ∈ ts, s.length ≤ 4096) : ∀ k, tl ts k ≤ 4096 * k
  | 0 => by simp [tl]
  | k + 1 => by
    by_cases hk : k < ts.length
    · have := tl_succ hk
      have := tl_le h k
      have := h _ (List.getElem_mem hk)
      omega
    · have e : tl ts (k + 1) = tl ts k := by unfold tl; rw [List.take_of_length_le (by omega), List.take_of_length_le (by omega)]
      have := tl_le h k
      omega
def szV (v : Vec) : Nat := v.is.length + v.ts.length + v.ns.length + tl v.ts v.ts.length
def SmRe2 (E : Prop) (n1 n3 : Nat) (ts : List Str) (w1 : World) (n : Nat) (s i : Value) (wr : World) : Prop := ∃ (k : Nat) (z : Int), k ≤ n ∧ i = .int .i64 (k : Int) ∧ s = .int .i64 z ∧ (E → z = ((n1 + ts.length + n3 + tl ts k : Nat) : Int)) ∧ Grows w1 wr
set_option maxHeartbeats 4000000 in
theorem small12_if (x : Value) (v : Vec) (w : World) (hx : IsV w x v) (hs : Small v) : Calls Tryz.prog 9 #[x] w fun e w' => ∃ b, e = .returned (.bool b) ∧ (Encable v → b = decide (szV v ≤ 10000)) ∧ Grows w w' := by
  have HEI := hidden (fun (h : Encable v) => (⟨h.len, fun hT => h.li hT, fun hT => h.lt hT, h.texts⟩ : v.ns.length ≤ 65536 ∧ (v.T ≠ 3 → v.is.length = v.ns.length ∧ v.ts = []) ∧ (v.T = 3 → v.ts.length = v.ns.length ∧ v.is = []) ∧ ∀ s ∈ v.ts, s.length ≤ 4096))
  obtain ⟨E, hE⟩ : ∃ E : Prop, E = Encable v := ⟨_, rfl⟩
  rw [← hE] at HEI ⊢
  clear hE
  have HSZ := hidden (show szV v = v.is.length + v.ts.length + v.ns.length + tl v.ts v.ts.length from rfl)
  generalize szV v = sz at *
  obtain ⟨T, is, ts, ns⟩ := v
  obtain ⟨a1, a2, a3, rfl, j1, j2, j3⟩ := hx
  obtain ⟨s1, s2, s3, s4⟩ := hs
  dsimp only at *
  obtain ⟨A1, c1, rfl⟩ := j1.slice_
  obtain ⟨A2, c2, rfl⟩ := j2.slice_
  obtain ⟨A3, c3, rfl⟩ := j3.slice_
  have HA2 := hidden j2
  obtain ⟨n2, hn2⟩ : ∃ n, n = ts.length := ⟨_, rfl⟩
  rw [← hn2] at HA2 s2 ⊢
  have HN2 := hidden hn2
  have HEJ := hidden (fun (h : E) => show is.length ≤ 65536 ∧ ts.length ≤ 65536 ∧ ns.length ≤ 65536 ∧ ∀ s ∈ ts, s.length ≤ 4096 from by
    obtain ⟨q1, q2, q3, q4⟩ := HEI.out h
    by_cases hT : T = 3
    · have h3 := q3 hT; exact ⟨by rw [h3.2]; simp, by have := h3.1; omega, q1, q4⟩
    · have h3 := q2 hT; exact ⟨by have := h3.1; omega, by rw [h3.2]; simp, q1, q4⟩)
  have HSZ : Hid (sz = is.length + ts.length + ns.length + tl ts ts.length) := HSZ
  clear HEI
  generalize is.length = n1 at *
  generalize ns.length = n3 at *
  clear j1 j2 j3 s4 hn2
  have HG1 := hidden (growB w (.cells #[.int .i64 T, .slice A1 n1 c1, .slice A2 n2 c2, .slice A3 n3 c3] 26))
  have HX1 := hidden (Row.new w 26 #[.int .i64 T, .slice A1 n1 c1, .slice A2 n2 c2, .slice A3 n3 c3] [.int .i64 T, .slice A1 n1 c1, .slice A2 n2 c2, .slice A3 n3 c3] rfl)
  go_enter Tryz.func9, Tryz.ntmps9
  go_wp2_with fail
  go_loopw [3, 4] (fun s i wr => SmRe2 E n1 n3 ts (w.alloc (.cells #[.int .i64 T, .slice A1 n1 c1, .slice A2 n2 c2, .slice A3 n3 c3] 26)) n2 s i wr) (fun _ i _ => n2 - (intOf i).toNat)
  case atStart => exact ⟨0, _, by omega, rfl, rfl, fun h => by have := HN2.out; simp [tl]; omega, Below.refl _ _⟩
  case round =>
    obtain ⟨k, z, hk, rfl, rfl, hz, hb⟩ := hrel
    have HZ := hidden hz
    clear hz
    have HBW := hidden hb
    have x2 := (HX1.out.grow hb).cell 2
    simp only [List.getElem?_cons_succ, List.getElem?_cons_zero] at x2
    by_cases hlt : k < n2
    · have hlt' : k < ts.length := by rw [← HN2.out]; exact hlt
      obtain ⟨q2, f2, rfl, hc2⟩ := (HA2.out.grow (HG1.out.of_below hb)).at_ hlt'
      have HSK := hidden (fun (h : E) => show (0 : Int) ≤ z ∧ z ≤ 300000000 ∧ (ts[k].length : Int) ≤ 4096 ∧ ((n1 + ts.length + n3 + tl ts (k + 1) : Nat) : Int) = z + (ts[k].length : Int) from by
        obtain ⟨q1, q2, q3, q4⟩ := HEJ.out h
        have h1 := HZ.out h
        have h2 := tl_le q4 k
        have h3 := tl_succ hlt'
        have h4 := q4 _ (List.getElem_mem hlt')
        refine ⟨by omega, by omega, by omega, by omega⟩)
      have HST : Hid ((strOf ts[k]).size = ts[k].length) := strOf_size' _
      generalize ts[k].length = tk at *
      generalize strOf ts[k] = t at *
      clear hlt' hb
      go_wp2_with fail
      go_roundw
      case rel => exact ⟨k + 1, _, by omega, by go_num, rfl, fun h => by
        obtain ⟨q1, q2, q3, q4⟩ := HSK.out h
        have q5 := HST.out
        rw [q4]
        have q6 : (0 : Int) ≤ z + (t.size : Int) := by omega
        have q7 : z + (t.size : Int) ≤ 300004096 := by omega
        have q8 : z + (t.size : Int) = z + (tk : Int) := by omega
        rw [show wrap64 (z + (t.size : Int)) = z + (t.size : Int) by unfold wrap64; omega]
        exact q8, HBW.out⟩
      case measure => simp [intOf]; omega
    · clear hb
      go_wp2_with fail
      go_ret
      exact ⟨_, rfl, fun h => by
        have h1 := HZ.out h
        have h2 := HSZ.out
        have h3 := HN2.out
        have h4 : k = ts.length := by omega
        subst h4
        rw [h1, h2]
        congr 1
        simp only [eq_iff_iff]
        omega, HG1.out.of_below HBW.out⟩
end Go.Proofs.YthmipnokimlbdaaGreat
