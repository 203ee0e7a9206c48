/-
  Pure: the decoding of strings by a dictionary, case by case; it inverts the encoding.
-/
import Derived.Test.YtgmjoghgmcjebaaDcEnc
import Derived.Test.YtgmjoghgmcjebaaM5
import Derived.Test.YtgmjoghgmcjebaaM7
namespace Go.Proofs.Ytgmjoghgmcjebaa
open Go.RowKit
set_option linter.unusedVariables false
set_option linter.unusedSimpArgs false

def rdW (b : List UInt8) (p : Int) : Str × Int × Int :=
  if (dcd b p).2.2 ≠ 0 then ([], 0, (dcd b p).2.2) else if 4096 < (dcd b p).1 then ([], 0, 3)
  else if (b.length : Int) - (dcd b p).2.1 < (dcd b p).1 then ([], 0, 2)
  else ((b.drop (dcd b p).2.1.toNat).take (dcd b p).1.toNat, (dcd b p).2.1 + (dcd b p).1, 0)
def badW (ws : List Str) (s : Str) : Bool :=
  match ws.getLast? with
  | some t => !decide (t < s)
  | none => false
def rdWs (b : List UInt8) : Nat → List Str → Int → List Str × Int × Int
  | 0, ws, p => (ws, p, 0)
  | n + 1, ws, p => if (rdW b p).2.2 ≠ 0 then ([], 0, (rdW b p).2.2) else if badW ws (rdW b p).1 then ([], 0, 4) else rdWs b n (ws ++ [(rdW b p).1]) (rdW b p).2.1
def rdD (b : List UInt8) (off n : Int) : List Str × Int × Int :=
  if (dcd b off).2.2 ≠ 0 then ([], 0, (dcd b off).2.2) else if n < (dcd b off).1 then ([], 0, 6) else rdWs b (dcd b off).1.toNat [] (dcd b off).2.1
def cutB (b : List UInt8) (p s : Nat) : List UInt8 := (b.drop p).take s
def rdP (b : List UInt8) (p : Nat) (n m : Nat) : List Nat × Int × Int :=
  if b.length < p + szB n m then ([], 0, 2) else if unE (cutB b p (szB n m)) n m ≠ 0 then ([], 0, unE (cutB b p (szB n m)) n m) else (unpI (cutB b p (szB n m)) n m, ((p + szB n m : Nat) : Int), 0)
def u64I (v : Int) : Nat := (v % 18446744073709551616).toNat
def rdR (b : List UInt8) (p : Nat) (n : Nat) : List Nat × Int × Int :=
  if (dcR b p).2.2 ≠ 0 then ([], 0, (dcR b p).2.2) else if (expI (dcR b p).1).length ≠ n then ([], 0, 18) else ((expI (dcR b p).1).map u64I, (dcR b p).2.1, 0)
def rdC (b : List UInt8) (p n k : Nat) : List Nat × Int × Int :=
  match b[p]? with
  | none => ([], 0, 2)
  | some c => if c = 0 then rdP b (p + 1) n (widW k) else if c = 1 then rdR b (p + 1) n else ([], 0, 4)
def pickS (ws : List Str) (cs : List Nat) : List Str := cs.map fun c => ws.getD c []
def overC (cs : List Nat) (k : Nat) : Bool := cs.any fun c => decide (k ≤ c)
def endT (b : List UInt8) (off : Nat) (ws : List Str) (cs : List Nat) (q : Nat) : List Str × Int × Int :=
  if overC cs ws.length then ([], 0, 6) else if encT (pickS ws cs) = cutB b off (q - off) then (pickS ws cs, (q : Int), 0) else ([], 0, 4)
def decT (b : List UInt8) (off n : Int) : List Str × Int × Int :=
  if n < 0 ∨ 65536 < n ∨ off < 0 ∨ (b.length : Int) < off then ([], 0, 1)
  else if (rdD b off n).2.2 ≠ 0 then ([], 0, (rdD b off n).2.2)
  else if (rdC b (rdD b off n).2.1.toNat n.toNat (rdD b off n).1.length).2.2 ≠ 0 then ([], 0, (rdC b (rdD b off n).2.1.toNat n.toNat (rdD b off n).1.length).2.2)
  else endT b off.toNat (rdD b off n).1 (rdC b (rdD b off n).2.1.toNat n.toNat (rdD b off n).1.length).1 (rdC b (rdD b off n).2.1.toNat n.toNat (rdD b off n).1.length).2.1.toNat

theorem rdW_e {b : List UInt8} {p : Int} (h : (dcd b p).2.2 ≠ 0) : rdW b p = ([], 0, (dcd b p).2.2) := by unfold rdW; rw [if_pos h]
theorem rdW_l {b : List UInt8} {p : Int} (h : (dcd b p).2.2 = 0) (h2 : 4096 < (dcd b p).1) : rdW b p = ([], 0, 3) := by unfold rdW; rw [if_neg (by simpa using h), if_pos h2]
theorem rdW_s {b : List UInt8} {p : Int} (h : (dcd b p).2.2 = 0) (h2 : ¬ 4096 < (dcd b p).1) (h3 : (b.length : Int) - (dcd b p).2.1 < (dcd b p).1) : rdW b p = ([], 0, 2) := by unfold rdW; rw [if_neg (by simpa using h), if_neg h2, if_pos h3]
theorem rdW_ok {b : List UInt8} {p : Int} {n q : Nat} (h : dcd b p = ((n : Int), (q : Int), 0)) (h2 : n ≤ 4096) (h3 : q + n ≤ b.length) : rdW b p = (cutB b q n, ((q + n : Nat) : Int), 0) := by
  unfold rdW
  rw [h, if_neg (by simp), if_neg (by simp; omega), if_neg (by simp; omega)]
  simp [cutB]
/-- what a word that was read is like -/
theorem rdW_acc {b : List UInt8} {q : Nat} (hq : q ≤ b.length) (h : (rdW b q).2.2 = 0) : ∃ n q2 : Nat, dcd b q = ((n : Int), (q2 : Int), 0) ∧ n ≤ 4096 ∧ q2 + n ≤ b.length ∧ q ≤ q2 ∧ rdW b q = (cutB b q2 n, ((q2 + n : Nat) : Int), 0) := by
  by_cases h1 : (dcd b q).2.2 = 0
  · obtain ⟨n, k, e, hk, _, _, _⟩ := dcd_num hq h1
    by_cases h2 : 4096 < (dcd b q).1
    · rw [rdW_l h1 h2] at h; cases h
    · by_cases h3 : (b.length : Int) - (dcd b q).2.1 < (dcd b q).1
      · rw [rdW_s h1 h2 h3] at h; cases h
      · rw [e] at h2 h3
        simp only [] at h2 h3
        exact ⟨n, q + k, e, by omega, by omega, by omega, rdW_ok e (by omega) (by omega)⟩
  · rw [rdW_e h1] at h; exact absurd h h1
theorem cutB_length {b : List UInt8} {p s : Nat} (h : p + s ≤ b.length) : (cutB b p s).length = s := by simp [cutB]; omega
theorem rdW_err {b : List UInt8} {p : Int} (h : (rdW b p).2.2 ≠ 0) : (rdW b p).1 = [] ∧ (rdW b p).2.1 = 0 := by
  unfold rdW at h ⊢
  split
  · exact ⟨rfl, rfl⟩
  · split
    · exact ⟨rfl, rfl⟩
    · split
      · exact ⟨rfl, rfl⟩
      · rename_i h1 h2 h3
        rw [if_neg h1, if_neg h2, if_neg h3] at h
        exact absurd rfl h
theorem rdWs_e {b : List UInt8} {n : Nat} {ws : List Str} {p : Int} (h : (rdW b p).2.2 ≠ 0) : rdWs b (n + 1) ws p = ([], 0, (rdW b p).2.2) := by rw [rdWs, if_pos h]
theorem rdWs_b {b : List UInt8} {n : Nat} {ws : List Str} {p : Int} (h : (rdW b p).2.2 = 0) (h2 : badW ws (rdW b p).1 = true) : rdWs b (n + 1) ws p = ([], 0, 4) := by rw [rdWs, if_neg (by simpa using h), if_pos h2]
theorem rdWs_n {b : List UInt8} {n : Nat} {ws : List Str} {p : Int} (h : (rdW b p).2.2 = 0) (h2 : badW ws (rdW b p).1 = false) : rdWs b (n + 1) ws p = rdWs b n (ws ++ [(rdW b p).1]) (rdW b p).2.1 := by rw [rdWs, if_neg (by simpa using h), if_neg (by simp [h2])]
theorem rdWs_acc {b : List UInt8} : ∀ (n : Nat) (ws : List Str) (q : Nat), q ≤ b.length → (∀ s ∈ ws, s.length ≤ 4096) → (rdWs b n ws q).2.2 = 0 →
    ∃ q' : Nat, (rdWs b n ws q).2.1 = (q' : Int) ∧ q ≤ q' ∧ q' ≤ b.length ∧ (rdWs b n ws q).1.length = ws.length + n ∧ ∀ s ∈ (rdWs b n ws q).1, s.length ≤ 4096
  | 0, ws, q, hq, hs, _ => ⟨q, rfl, Nat.le_refl _, hq, rfl, hs⟩
  | n + 1, ws, q, hq, hs, h => by
    by_cases h1 : (rdW b q).2.2 = 0
    · cases h2 : badW ws (rdW b q).1
      · rw [rdWs_n h1 h2] at h ⊢
        obtain ⟨m, q2, _, hm, hq2, hqq, e⟩ := rdW_acc hq h1
        rw [e] at h ⊢
        obtain ⟨q', r1, r2, r3, r4, r5⟩ := rdWs_acc n (ws ++ [cutB b q2 m]) (q2 + m) hq2 (fun s hs' => by
          rcases List.mem_append.1 hs' with h | h
          · exact hs s h
          · rw [List.mem_singleton.1 h, cutB_length hq2]; exact hm) h
        exact ⟨q', r1, by omega, r3, by rw [r4, List.length_append, List.length_singleton]; omega, r5⟩
      · rw [rdWs_b h1 h2] at h; cases h
    · rw [rdWs_e h1] at h; exact absurd h h1
theorem rdWs_err {b : List UInt8} : ∀ (n : Nat) (ws : List Str) (p : Int), (rdWs b n ws p).2.2 ≠ 0 → (rdWs b n ws p).1 = [] ∧ (rdWs b n ws p).2.1 = 0
  | 0, _, _, h => absurd rfl h
  | n + 1, ws, p, h => by
    by_cases h1 : (rdW b p).2.2 = 0
    · cases h2 : badW ws (rdW b p).1
      · rw [rdWs_n h1 h2] at h ⊢; exact rdWs_err n _ _ h
      · rw [rdWs_b h1 h2]; exact ⟨rfl, rfl⟩
    · rw [rdWs_e h1]; exact ⟨rfl, rfl⟩
theorem rdD_e {b : List UInt8} {off n : Int} (h : (dcd b off).2.2 ≠ 0) : rdD b off n = ([], 0, (dcd b off).2.2) := by unfold rdD; rw [if_pos h]
theorem rdD_r {b : List UInt8} {off n : Int} (h : (dcd b off).2.2 = 0) (h2 : n < (dcd b off).1) : rdD b off n = ([], 0, 6) := by unfold rdD; rw [if_neg (by simpa using h), if_pos h2]
theorem rdD_n {b : List UInt8} {off n : Int} (h : (dcd b off).2.2 = 0) (h2 : ¬ n < (dcd b off).1) : rdD b off n = rdWs b (dcd b off).1.toNat [] (dcd b off).2.1 := by unfold rdD; rw [if_neg (by simpa using h), if_neg h2]
theorem rdD_err {b : List UInt8} {off n : Int} (h : (rdD b off n).2.2 ≠ 0) : (rdD b off n).1 = [] ∧ (rdD b off n).2.1 = 0 := by
  unfold rdD at h ⊢
  split
  · exact ⟨rfl, rfl⟩
  · split
    · exact ⟨rfl, rfl⟩
    · rename_i h1 h2
      rw [if_neg h1, if_neg h2] at h
      exact rdWs_err _ _ _ h
theorem rdD_acc {b : List UInt8} {o : Nat} {n : Nat} (ho : o ≤ b.length) (h : (rdD b o n).2.2 = 0) :
    ∃ q' : Nat, (rdD b o n).2.1 = (q' : Int) ∧ o ≤ q' ∧ q' ≤ b.length ∧ (rdD b o n).1.length ≤ n ∧ ∀ s ∈ (rdD b o n).1, s.length ≤ 4096 := by
  by_cases h1 : (dcd b o).2.2 = 0
  · by_cases h2 : (n : Int) < (dcd b o).1
    · rw [rdD_r h1 h2] at h; cases h
    · rw [rdD_n h1 h2] at h ⊢
      obtain ⟨m, k, e, hk, _, _, _⟩ := dcd_num ho h1
      rw [e] at h h2 ⊢
      simp only [Int.toNat_natCast] at h h2 ⊢
      obtain ⟨q', r1, r2, r3, r4, r5⟩ := rdWs_acc m [] (o + k) hk (by simp) h
      exact ⟨q', r1, by omega, r3, by rw [r4]; simp; omega, r5⟩
  · rw [rdD_e h1] at h; exact absurd h h1
theorem rdP_err {b : List UInt8} {p n m : Nat} (h : (rdP b p n m).2.2 ≠ 0) : (rdP b p n m).1 = [] ∧ (rdP b p n m).2.1 = 0 := by
  unfold rdP at h ⊢
  split
  · exact ⟨rfl, rfl⟩
  · split
    · exact ⟨rfl, rfl⟩
    · rename_i h1 h2
      rw [if_neg h1, if_neg h2] at h
      exact absurd rfl h
theorem rdP_acc {b : List UInt8} {p n m : Nat} (hn : n ≤ 1048576) (hm : m ≤ 64) (h : (rdP b p n m).2.2 = 0) : ∃ q : Nat, (rdP b p n m).2.1 = (q : Int) ∧ p ≤ q ∧ q ≤ b.length ∧ (rdP b p n m).1.length = n ∧ ∀ c ∈ (rdP b p n m).1, c < 18446744073709551616 := by
  by_cases h1 : b.length < p + szB n m
  · unfold rdP at h; rw [if_pos h1] at h; cases h
  · by_cases h2 : unE (cutB b p (szB n m)) n m ≠ 0
    · unfold rdP at h; rw [if_neg h1, if_pos h2] at h; exact absurd h h2
    · have h3 : unE (cutB b p (szB n m)) n m = 0 := by omega
      have e : rdP b p n m = (unpL (cutB b p (szB n m)) n m, ((p + szB n m : Nat) : Int), 0) := by
        unfold rdP
        rw [if_neg h1, if_neg h2]
        unfold unpI
        rw [if_pos h3, Int.toNat_natCast, Int.toNat_natCast]
      rw [e]
      refine ⟨p + szB n m, rfl, by omega, by omega, unpL_length _ _ _, fun c hc => ?_⟩
      obtain ⟨i, _, rfl⟩ := List.mem_map.1 hc
      refine Nat.lt_of_lt_of_le (numB_lt _ _ _) ?_
      exact Nat.pow_le_pow_right (by decide) hm
theorem u64I_lt (v : Int) : u64I v < 18446744073709551616 := by unfold u64I; omega
theorem rdR_acc {b : List UInt8} {p n : Nat} (hp : p ≤ b.length) (h : (rdR b p n).2.2 = 0) : ∃ q : Nat, (rdR b p n).2.1 = (q : Int) ∧ p ≤ q ∧ q ≤ b.length ∧ (rdR b p n).1.length = n ∧ ∀ c ∈ (rdR b p n).1, c < 18446744073709551616 := by
  by_cases h1 : (dcR b p).2.2 ≠ 0
  · unfold rdR at h; rw [if_pos h1] at h; exact absurd h h1
  · by_cases h2 : (expI (dcR b p).1).length ≠ n
    · unfold rdR at h; rw [if_neg h1, if_pos h2] at h; cases h
    · have e : rdR b p n = ((expI (dcR b p).1).map u64I, (dcR b p).2.1, 0) := by unfold rdR; rw [if_neg h1, if_neg h2]
      have h3 : (dcR b p).2.2 = 0 := by omega
      rw [e]
      obtain ⟨o, k, ho, hk, hkl, hv, _, _⟩ := dcR_acc h3
      have ho' : o = p := by omega
      subst ho'
      refine ⟨o + k, hk, by omega, hkl, by simp; omega, fun c hc => ?_⟩
      obtain ⟨v, _, rfl⟩ := List.mem_map.1 hc
      exact u64I_lt v
theorem rdR_err {b : List UInt8} {p n : Nat} (h : (rdR b p n).2.2 ≠ 0) : (rdR b p n).1 = [] ∧ (rdR b p n).2.1 = 0 := by
  unfold rdR at h ⊢
  split
  · exact ⟨rfl, rfl⟩
  · split
    · exact ⟨rfl, rfl⟩
    · rename_i h1 h2
      rw [if_neg h1, if_neg h2] at h
      exact absurd rfl h
theorem rdC_end {b : List UInt8} {p n k : Nat} (h : b.length ≤ p) : rdC b p n k = ([], 0, 2) := by unfold rdC; rw [List.getElem?_eq_none h]
theorem rdC_0 {b : List UInt8} {p n k : Nat} (h : b[p]? = some 0) : rdC b p n k = rdP b (p + 1) n (widW k) := by unfold rdC; rw [h]; rfl
theorem rdC_1 {b : List UInt8} {p n k : Nat} (h : b[p]? = some 1) : rdC b p n k = rdR b (p + 1) n := by unfold rdC; rw [h]; rfl
theorem rdC_x {b : List UInt8} {p n k : Nat} {c : UInt8} (h : b[p]? = some c) (h0 : c ≠ 0) (h1 : c ≠ 1) : rdC b p n k = ([], 0, 4) := by unfold rdC; rw [h]; simp only [if_neg h0, if_neg h1]
theorem rdC_err {b : List UInt8} {p n k : Nat} (h : (rdC b p n k).2.2 ≠ 0) : (rdC b p n k).1 = [] ∧ (rdC b p n k).2.1 = 0 := by
  cases hb : b[p]? with
  | none => rw [rdC_end (List.getElem?_eq_none_iff.1 hb)]; exact ⟨rfl, rfl⟩
  | some c =>
    by_cases h0 : c = 0
    · subst h0; rw [rdC_0 hb] at h ⊢; exact rdP_err h
    · by_cases h1 : c = 1
      · subst h1; rw [rdC_1 hb] at h ⊢; exact rdR_err h
      · rw [rdC_x hb h0 h1]; exact ⟨rfl, rfl⟩
theorem rdC_acc {b : List UInt8} {p n k : Nat} (hn : n ≤ 1048576) (hk : k ≤ 1048576) (h : (rdC b p n k).2.2 = 0) :
    ∃ q : Nat, (rdC b p n k).2.1 = (q : Int) ∧ p ≤ q ∧ q ≤ b.length ∧ (rdC b p n k).1.length = n ∧ ∀ c ∈ (rdC b p n k).1, c < 18446744073709551616 := by
  cases hb : b[p]? with
  | none => rw [rdC_end (List.getElem?_eq_none_iff.1 hb)] at h; cases h
  | some c =>
    have hp : p < b.length := by
      rcases Nat.lt_or_ge p b.length with h | h
      · exact h
      · rw [List.getElem?_eq_none h] at hb; cases hb
    by_cases h0 : c = 0
    · subst h0; rw [rdC_0 hb] at h ⊢
      obtain ⟨q, r1, r2, r3, r4⟩ := rdP_acc hn (widW_le (by omega)) h
      exact ⟨q, r1, by omega, r3, r4⟩
    · by_cases h1 : c = 1
      · subst h1; rw [rdC_1 hb] at h ⊢
        obtain ⟨q, r1, r2, r3, r4⟩ := rdR_acc hp h
        exact ⟨q, r1, by omega, r3, r4⟩
      · rw [rdC_x hb h0 h1] at h; cases h
theorem decT_a {b : List UInt8} {off n : Int} (h : n < 0 ∨ 65536 < n ∨ off < 0 ∨ (b.length : Int) < off) : decT b off n = ([], 0, 1) := by unfold decT; rw [if_pos h]
theorem decT_d {b : List UInt8} {off n : Int} (h : ¬ (n < 0 ∨ 65536 < n ∨ off < 0 ∨ (b.length : Int) < off)) (h2 : (rdD b off n).2.2 ≠ 0) : decT b off n = ([], 0, (rdD b off n).2.2) := by
  unfold decT; rw [if_neg h, if_pos h2]
theorem decT_c {b : List UInt8} {o n q : Nat} {ws : List Str} (ho : o ≤ b.length) (hn : n ≤ 65536) (hd : rdD b o n = (ws, (q : Int), 0)) (h2 : (rdC b q n ws.length).2.2 ≠ 0) : decT b o n = ([], 0, (rdC b q n ws.length).2.2) := by
  unfold decT
  rw [if_neg (by omega), hd, if_neg (by simp)]
  simp only [Int.toNat_natCast]
  rw [if_pos h2]
theorem decT_n {b : List UInt8} {o n q r : Nat} {ws : List Str} {cs : List Nat} (ho : o ≤ b.length) (hn : n ≤ 65536) (hd : rdD b o n = (ws, (q : Int), 0)) (hc : rdC b q n ws.length = (cs, (r : Int), 0)) : decT b o n = endT b o ws cs r := by
  unfold decT
  rw [if_neg (by omega), hd, if_neg (by simp)]
  simp only [Int.toNat_natCast]
  rw [hc, if_neg (by simp), Int.toNat_natCast]

/-! the encoding is decoded, wherever it stands -/
theorem rdW_enc {b pre post : List UInt8} {s : Str} (hb : b = pre ++ (wordL s ++ post)) (hs : s.length ≤ 4096) : rdW b (pre.length : Int) = (s, ((pre.length + (wordL s).length : Nat) : Int), 0) := by
  have hd := dcdR_at (b := b) (pre := pre) (post := s ++ post) (n := s.length) (by rw [hb]; simp [wordL]) (by omega)
  have hlen : pre.length + (enc s.length).length + s.length ≤ b.length := by rw [hb]; simp [wordL]; omega
  rw [rdW_ok hd hs hlen]
  have e : cutB b (pre.length + (enc s.length).length) s.length = s := by
    unfold cutB
    rw [hb, show pre ++ (wordL s ++ post) = (pre ++ enc s.length) ++ (s ++ post) by simp [wordL], show pre.length + (enc s.length).length = (pre ++ enc s.length).length by simp, List.drop_left, List.take_left]
  rw [e]
  simp [wordL]; omega
theorem badW_ok {acc : List Str} {w : Str} {r : List Str} (h : RisingL (acc ++ w :: r)) : badW acc w = false := by
  unfold badW
  cases hl : acc.getLast? with
  | none => rfl
  | some t =>
    have hm := List.mem_of_getLast? hl
    have := (List.pairwise_append.1 h).2.2 t hm w (by simp)
    simp [this]
theorem rdWs_enc {b : List UInt8} : ∀ (ws acc : List Str) (pre post : List UInt8), b = pre ++ (wordsL ws ++ post) → (∀ s ∈ ws, s.length ≤ 4096) → RisingL (acc ++ ws) →
    rdWs b ws.length acc (pre.length : Int) = (acc ++ ws, ((pre.length + (wordsL ws).length : Nat) : Int), 0)
  | [], acc, pre, post, _, _, _ => by simp [rdWs, wordsL]
  | w :: r, acc, pre, post, hb, hs, hr => by
    have e : wordsL (w :: r) = wordL w ++ wordsL r := by simp [wordsL]
    have hb1 : b = pre ++ (wordL w ++ (wordsL r ++ post)) := by rw [hb, e]; simp
    have h1 := rdW_enc hb1 (hs w (by simp))
    rw [List.length_cons, rdWs_n (by rw [h1]) (by rw [h1]; exact badW_ok hr), h1]
    have h2 := rdWs_enc (b := b) r (acc ++ [w]) (pre ++ wordL w) post (by rw [hb1]; simp) (fun s hs' => hs s (by simp [hs'])) (by simpa using hr)
    rw [List.length_append] at h2
    simp only [] at h2 ⊢
    rw [h2, e]
    simp; omega
theorem bad_packD (l : List Nat) (M : Nat) : badB (packL l M) l.length M = false := (badB_false (packL_length l M)).2 fun i h1 _ => bbit_pack_out h1
theorem unpL_packL {cs : List Nat} {m : Nat} (h : ∀ c ∈ cs, c < 2 ^ m) : unpL (packL cs m) cs.length m = cs := by
  refine List.ext_getElem (unpL_length _ _ _) fun i h1 h2 => ?_
  have e := unpL_get (b := packL cs m) (w := m) (n := cs.length) (i := i) h2
  rw [List.getElem?_eq_getElem h1] at e
  injection e with e
  rw [e, numB_pack h2, List.getD_eq_getElem?_getD, List.getElem?_eq_getElem h2]
  exact Nat.mod_eq_of_lt (h _ (List.getElem_mem h2))
theorem u64_ints (cs : List Nat) (h : ∀ c ∈ cs, c < 18446744073709551616) : (intsL cs).map u64I = cs := by
  unfold intsL
  rw [List.map_map]
  refine (List.map_congr_left (g := id) fun c hc => ?_).trans (List.map_id cs)
  have := h c hc
  simp only [Function.comp, u64I, id]
  omega
theorem rdC_enc {b pre post : List UInt8} {k : Nat} {cs : List Nat} (hb : b = pre ++ (codesB k cs ++ post)) (hn : cs.length ≤ 65536) (hk : k ≤ 65536) (hc : ∀ c ∈ cs, c < k) :
    rdC b pre.length cs.length k = (cs, ((pre.length + (codesB k cs).length : Nat) : Int), 0) := by
  have hw : widW k ≤ 64 := widW_le (by omega)
  by_cases hsh : (encR (runsR (intsL cs))).length < (packL cs (widW k)).length
  · have e : codesB k cs = 1 :: encR (runsR (intsL cs)) := by unfold codesB; rw [if_pos hsh]
    rw [e] at hb ⊢
    rw [rdC_1 (by rw [hb]; simp)]
    have hv : validR (runsR (intsL cs)) = true := runs_valid (by rw [intsL_length]; exact hn)
    have hin : ∀ x ∈ runsR (intsL cs), in64 x.1 := by
      intro x hx
      have hp := runsR_pos' (intsL cs) x hx
      have he : x.1 ∈ expR (runsR (intsL cs)) := by
        have : ∀ l : List Rn, x ∈ l → x.1 ∈ expR l := fun l => by
          induction l with
          | nil => intro h; cases h
          | cons y l ih =>
            intro h
            rw [expR, List.mem_append]
            rcases List.mem_cons.1 h with rfl | h
            · exact .inl (List.mem_replicate.2 ⟨by omega, rfl⟩)
            · exact .inr (ih h)
        exact this _ hx
      rw [expR_runs] at he
      obtain ⟨c, hcm, e⟩ := List.mem_map.1 he
      have := hc c hcm
      unfold in64
      omega
    have hd := dcR_enc hv hin (pre ++ [1]) post
    have hbe : b = (pre ++ [1]) ++ (encR (runsR (intsL cs)) ++ post) := by rw [hb]; simp
    rw [← hbe, show (pre ++ [(1 : UInt8)]).length = pre.length + 1 by simp] at hd
    have hx : expI (runsR (intsL cs)) = intsL cs := by unfold expI; rw [if_pos hv, expR_runs]
    unfold rdR
    rw [hd, if_neg (by simp), if_neg (by simp only [hx, intsL_length]; simp)]
    simp only [hx]
    rw [u64_ints cs fun c h => by have := hc c h; omega]
    simp; omega
  · have e : codesB k cs = 0 :: packL cs (widW k) := by unfold codesB; rw [if_neg hsh]
    rw [e] at hb ⊢
    rw [rdC_0 (by rw [hb]; simp)]
    have hcut : cutB b (pre.length + 1) (szB cs.length (widW k)) = packL cs (widW k) := by
      unfold cutB
      rw [hb, show pre ++ (0 :: packL cs (widW k) ++ post) = (pre ++ [0]) ++ (packL cs (widW k) ++ post) by simp, show pre.length + 1 = (pre ++ [(0 : UInt8)]).length by simp, List.drop_left, ← packL_length cs (widW k), List.take_left]
    have hun : unE (packL cs (widW k)) (cs.length : Int) (widW k : Int) = 0 := unE_of (by omega) hw (packL_length cs _) (bad_packD cs _)
    have hpow : ∀ c ∈ cs, c < 2 ^ widW k := fun c h => by
      have h1 := hc c h
      exact Nat.lt_of_le_of_lt (show c ≤ k - 1 by omega) (bitLen_hi (by omega))
    have hsz : pre.length + 1 + szB cs.length (widW k) ≤ b.length := by
      have h1 := packL_length cs (widW k)
      rw [hb]; simp; omega
    unfold rdP
    rw [if_neg (by omega), hcut, if_neg (by rw [hun]; simp)]
    have hui : unpI (packL cs (widW k)) (cs.length : Int) (widW k : Int) = cs := by
      unfold unpI
      rw [if_pos hun, Int.toNat_natCast, Int.toNat_natCast, unpL_packL hpow]
    rw [hui, ← packL_length cs (widW k)]
    simp; omega
theorem pick_codes {vs : List Str} {ws : List Str} (h : ∀ s ∈ vs, s ∈ ws) : pickS ws (codesW ws vs) = vs := by
  unfold pickS codesW
  rw [List.map_map]
  refine (List.map_congr_left (g := id) fun s hs => ?_).trans (List.map_id vs)
  have h1 := codeW_lt (h s hs)
  simp only [Function.comp, id, List.getD_eq_getElem?_getD, List.getElem?_eq_getElem h1, Option.getD_some]
  exact codeW_get (h s hs)
theorem decT_enc {vs : List Str} (hl : vs.length ≤ 65536) (hs : ∀ s ∈ vs, s.length ≤ 4096) (pre post : List UInt8) :
    decT (pre ++ (encT vs ++ post)) (pre.length : Int) (vs.length : Int) = (vs, ((pre.length + (encT vs).length : Nat) : Int), 0) := by
  obtain ⟨b, hb⟩ : ∃ b, b = pre ++ (encT vs ++ post) := ⟨_, rfl⟩
  rw [← hb]
  have hwl := wordsOf_length vs
  have hcl : (codesW (wordsOf vs) vs).length = vs.length := by simp [codesW]
  have hck : ∀ c ∈ codesW (wordsOf vs) vs, c < (wordsOf vs).length := fun c hc => by
    obtain ⟨s, h1, rfl⟩ := List.mem_map.1 hc
    exact codeW_lt (mem_wordsOf.2 h1)
  have hpk : pickS (wordsOf vs) (codesW (wordsOf vs) vs) = vs := pick_codes fun s h => mem_wordsOf.2 h
  have hwsl : ∀ s ∈ wordsOf vs, s.length ≤ 4096 := fun s h => hs s (mem_wordsOf.1 h)
  have hr := wordsOf_rising vs
  have he : encT vs = bytesW (wordsOf vs) ++ codesB (wordsOf vs).length (codesW (wordsOf vs) vs) := rfl
  generalize codesW (wordsOf vs) vs = cs at *
  generalize wordsOf vs = ws at *
  have hb1 : b = pre ++ (enc ws.length ++ (wordsL ws ++ (codesB ws.length cs ++ post))) := by rw [hb, he]; simp [bytesW]
  have hd := dcdR_at hb1 (by omega)
  have hD : rdD b (pre.length : Int) (vs.length : Int) = (ws, ((pre.length + (bytesW ws).length : Nat) : Int), 0) := by
    rw [rdD_n (by rw [hd]) (by rw [hd]; simp; omega), hd]
    simp only [Int.toNat_natCast]
    have h2 := rdWs_enc (b := b) ws [] (pre ++ enc ws.length) (codesB ws.length cs ++ post) (by rw [hb1]; simp) hwsl (by simpa using hr)
    rw [List.length_append] at h2
    rw [h2]
    simp [bytesW]; omega
  have hC : rdC b (pre.length + (bytesW ws).length) vs.length ws.length = (cs, ((pre.length + (encT vs).length : Nat) : Int), 0) := by
    have h2 := rdC_enc (b := b) (pre := pre ++ bytesW ws) (post := post) (k := ws.length) (cs := cs) (by rw [hb, he]; simp) (by omega) (by omega) hck
    rw [hcl, List.length_append] at h2
    rw [h2, he]
    simp; omega
  rw [decT_n (by rw [hb]; simp) hl hD hC]
  unfold endT
  have ho : overC cs ws.length = false := by
    unfold overC
    rw [List.any_eq_false]
    intro c hc
    have := hck c hc
    simp; omega
  have hcut : cutB b pre.length (pre.length + (encT vs).length - pre.length) = encT vs := by
    unfold cutB
    rw [hb, List.drop_left, Nat.add_sub_cancel_left, List.take_left]
  rw [ho, hpk, hcut, if_neg (by simp), if_pos rfl]
end Go.Proofs.Ytgmjoghgmcjebaa
