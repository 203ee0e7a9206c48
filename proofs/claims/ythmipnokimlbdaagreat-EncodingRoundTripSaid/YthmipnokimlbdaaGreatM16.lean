/-
  Texts that the claims of this seat share, put together (DcEnc, DcDec, DcE1, DcD1, DcE2, DcD2, DcE3, DcD3, EnNum, EnNum2, EnNum3, EnNum4, EnB, En1, En2, En3, En4, En5, En6, En7). No condition.
-/
import Derived.Test.YthmipnokimlbdaaGreatM15
import Derived.Test.YthmipnokimlbdaaGreatM12
import Derived.Test.YthmipnokimlbdaaGreatM14
import Derived.Test.YthmipnokimlbdaaGreatM9
import Derived.Test.YthmipnokimlbdaaGreatM4
import Derived.Test.YthmipnokimlbdaaGreatM6
import Derived.Test.YthmipnokimlbdaaGreatM2
import Derived.Lib.MinMax
import Derived.Test.YthmipnokimlbdaaGreatM5
import Derived.Test.YthmipnokimlbdaaGreatM8
import Derived.Test.YthmipnokimlbdaaGreatM10
import Derived.Test.YthmipnokimlbdaaGreatM13
import Derived.Test.YthmipnokimlbdaaGreatM7
import Derived.Lib.AppendStr
import Derived.Test.YthmipnokimlbdaaGreatRm7
import Derived.Test.YthmipnokimlbdaaGreatM11
import Derived.Test.YthmipnokimlbdaaGreatM18
/-
  Shaken: what the claims of this seat need of this text. No condition.
-/
namespace Go.Proofs.YthmipnokimlbdaaGreat
set_option maxRecDepth 8000
open Go.RowKit
set_option linter.unusedVariables false
set_option linter.unusedSimpArgs false
def widW (k : Nat) : Nat := Lib.bitLen (k - 1)
def wordL (w : Str) : List UInt8 := enc w.length ++ w
def wordsL (ws : List Str) : List UInt8 := (ws.map wordL).flatten
def bytesW (ws : List Str) : List UInt8 := enc ws.length ++ wordsL ws
def intsL (cs : List Nat) : List Int := cs.map fun c : Nat => (c : Int)
def codesB (k : Nat) (cs : List Nat) : List UInt8 :=
  if (encR (runsR (intsL cs))).length < (packL cs (widW k)).length then 1 :: encR (runsR (intsL cs)) else 0 :: packL cs (widW k)
def encT (vs : List Str) : List UInt8 := bytesW (wordsOf vs) ++ codesB (wordsOf vs).length (codesW (wordsOf vs) vs)
theorem widW_le {k : Nat} (h : k ≤ 4611686018427387904) : widW k ≤ 64 := bitLen_64 (by omega)
theorem wordsL_snoc (ws : List Str) (w : Str) : wordsL (ws ++ [w]) = wordsL ws ++ wordL w := by simp [wordsL]
theorem wordsL_take {ws : List Str} {j : Nat} (h : j < ws.length) : wordsL (ws.take (j + 1)) = wordsL (ws.take j) ++ wordL ws[j] := by
  rw [List.take_succ_eq_append_getElem h, wordsL_snoc]
theorem enc_len10 {n : Nat} (h : n < 18446744073709551616) : (enc n).length ≤ 10 := by rw [enc_length h]; exact (esz_bd h).2
theorem wordL_len {w : Str} (h : w.length ≤ 1000000) : (wordL w).length ≤ 1000010 := by
  unfold wordL
  have := enc_len10 (n := w.length) (by omega)
  rw [List.length_append]; omega
theorem wordsL_len : ∀ {ws : List Str}, (∀ w ∈ ws, w.length ≤ 1000000) → (wordsL ws).length ≤ 1000010 * ws.length
  | [], _ => by simp [wordsL]
  | w :: r, h => by
    have h1 := wordL_len (h w (by simp))
    have h2 := wordsL_len (ws := r) fun x hx => h x (by simp [hx])
    have e : wordsL (w :: r) = wordL w ++ wordsL r := by simp [wordsL]
    rw [e, List.length_append, List.length_cons]; omega
theorem intsL_length (cs : List Nat) : (intsL cs).length = cs.length := by simp [intsL]
theorem runs_len (cs : List Nat) : (encR (runsR (intsL cs))).length ≤ 10 + 20 * cs.length := by
  have h1 := encR_len_le (runsR (intsL cs))
  have h2 := (runsR_len (intsL cs) (Nat.le_refl _)).2
  rw [List.take_length, intsL_length] at h2
  omega
theorem packL_len {cs : List Nat} {m : Nat} (h : cs.length ≤ 1048576) (hm : m ≤ 64) : (packL cs m).length ≤ 8388608 := by rw [packL_length]; exact szB_le h hm
theorem codesB_len {k : Nat} {cs : List Nat} (h : cs.length ≤ 1000000) (hk : k ≤ 1000000) : (codesB k cs).length ≤ 20000011 := by
  have h1 := runs_len cs
  have h2 := packL_len (cs := cs) (m := widW k) (by omega) (widW_le (by omega))
  unfold codesB
  split <;> simp <;> omega
theorem encT_len {vs : List Str} (h : vs.length ≤ 1000000) (hs : ∀ s ∈ vs, s.length ≤ 1000000) : (encT vs).length ≤ 1000100000000 := by
  have h0 := wordsOf_length vs
  have h1 := codesB_len (k := (wordsOf vs).length) (cs := codesW (wordsOf vs) vs) (by simp [codesW]; omega) (by omega)
  have h2 := wordsL_len (ws := wordsOf vs) fun w hw => hs w (mem_wordsOf.1 hw)
  have h3 := enc_len10 (n := (wordsOf vs).length) (by omega)
  unfold encT bytesW
  rw [List.length_append, List.length_append]
  omega
set_option maxHeartbeats 1000000 in
theorem codeWidth_any (k : Nat) (w : World) (hk : k ≤ 4611686018427387904) : Calls Tryz.prog 169 #[.int .i64 (k : Int)] w fun e w' => e = .returned (.int .i64 (widW k : Int)) ∧ w = w' := by
  have HB := hidden (bitWidth_any ((k - 1 : Nat) : Int) w (by omega) (by omega))
  rw [Int.toNat_natCast] at HB
  have hmx : max (0 : Int) ((k : Int) - 1) = ((k - 1 : Nat) : Int) := by omega
  have HW := hidden (show Lib.bitLen (k - 1) = widW k from rfl)
  generalize hK : k - 1 = K at *
  have hKl : K ≤ 4611686018427387904 := by omega
  clear hK
  go_enter Tryz.func169, Tryz.ntmps169
  go_wp2_with fail
  refine HB.out.mono ?_
  rintro e w' ⟨rfl, rfl⟩
  go_wp2_with fail
  go_ret
  exact ⟨by rw [HW.out]; rfl, rfl⟩
end Go.Proofs.YthmipnokimlbdaaGreat
/-
  Shaken: what the claims of this seat need of this text. No condition.
-/
namespace Go.Proofs.YthmipnokimlbdaaGreat
set_option maxRecDepth 8000
open Go.RowKit
set_option linter.unusedVariables false
set_option linter.unusedSimpArgs false
def rdW (b : List UInt8) (p : Int) : Str × Int × Int :=
  if (dcd b p).2.2 ≠ 0 then ([], 0, (dcd b p).2.2) else if 4096 < (dcd b p).1 then ([], 0, 3)
  else if (b.length : Int) - (dcd b p).2.1 < (dcd b p).1 then ([], 0, 2)
  else ((b.drop (dcd b p).2.1.toNat).take (dcd b p).1.toNat, (dcd b p).2.1 + (dcd b p).1, 0)
def badW (ws : List Str) (s : Str) : Bool :=
  match ws.getLast? with
  | some t => !decide (t < s)
  | none => false
def rdWs (b : List UInt8) : Nat → List Str → Int → List Str × Int × Int
  | 0, ws, p => (ws, p, 0)
  | n + 1, ws, p => if (rdW b p).2.2 ≠ 0 then ([], 0, (rdW b p).2.2) else if badW ws (rdW b p).1 then ([], 0, 4) else rdWs b n (ws ++ [(rdW b p).1]) (rdW b p).2.1
def rdD (b : List UInt8) (off n : Int) : List Str × Int × Int :=
  if (dcd b off).2.2 ≠ 0 then ([], 0, (dcd b off).2.2) else if n < (dcd b off).1 then ([], 0, 6) else rdWs b (dcd b off).1.toNat [] (dcd b off).2.1
def cutB (b : List UInt8) (p s : Nat) : List UInt8 := (b.drop p).take s
def rdP (b : List UInt8) (p : Nat) (n m : Nat) : List Nat × Int × Int :=
  if b.length < p + szB n m then ([], 0, 2) else if unE (cutB b p (szB n m)) n m ≠ 0 then ([], 0, unE (cutB b p (szB n m)) n m) else (unpI (cutB b p (szB n m)) n m, ((p + szB n m : Nat) : Int), 0)
def u64I (v : Int) : Nat := (v % 18446744073709551616).toNat
def rdR (b : List UInt8) (p : Nat) (n : Nat) : List Nat × Int × Int :=
  if (dcR b p).2.2 ≠ 0 then ([], 0, (dcR b p).2.2) else if (expI (dcR b p).1).length ≠ n then ([], 0, 18) else ((expI (dcR b p).1).map u64I, (dcR b p).2.1, 0)
def rdC (b : List UInt8) (p n k : Nat) : List Nat × Int × Int :=
  match b[p]? with
  | none => ([], 0, 2)
  | some c => if c = 0 then rdP b (p + 1) n (widW k) else if c = 1 then rdR b (p + 1) n else ([], 0, 4)
def pickS (ws : List Str) (cs : List Nat) : List Str := cs.map fun c => ws.getD c []
def overC (cs : List Nat) (k : Nat) : Bool := cs.any fun c => decide (k ≤ c)
def endT (b : List UInt8) (off : Nat) (ws : List Str) (cs : List Nat) (q : Nat) : List Str × Int × Int :=
  if overC cs ws.length then ([], 0, 6) else if encT (pickS ws cs) = cutB b off (q - off) then (pickS ws cs, (q : Int), 0) else ([], 0, 4)
def decT (b : List UInt8) (off n : Int) : List Str × Int × Int :=
  if n < 0 ∨ 65536 < n ∨ off < 0 ∨ (b.length : Int) < off then ([], 0, 1)
  else if (rdD b off n).2.2 ≠ 0 then ([], 0, (rdD b off n).2.2)
  else if (rdC b (rdD b off n).2.1.toNat n.toNat (rdD b off n).1.length).2.2 ≠ 0 then ([], 0, (rdC b (rdD b off n).2.1.toNat n.toNat (rdD b off n).1.length).2.2)
  else endT b off.toNat (rdD b off n).1 (rdC b (rdD b off n).2.1.toNat n.toNat (rdD b off n).1.length).1 (rdC b (rdD b off n).2.1.toNat n.toNat (rdD b off n).1.length).2.1.toNat
theorem rdW_e {b : List UInt8} {p : Int} (h : (dcd b p).2.2 ≠ 0) : rdW b p = ([], 0, (dcd b p).2.2) := by unfold rdW; rw [if_pos h]
theorem rdW_l {b : List UInt8} {p : Int} (h : (dcd b p).2.2 = 0) (h2 : 4096 < (dcd b p).1) : rdW b p = ([], 0, 3) := by unfold rdW; rw [if_neg (by simpa using h), if_pos h2]
theorem rdW_s {b : List UInt8} {p : Int} (h : (dcd b p).2.2 = 0) (h2 : ¬ 4096 < (dcd b p).1) (h3 : (b.length : Int) - (dcd b p).2.1 < (dcd b p).1) : rdW b p = ([], 0, 2) := by unfold rdW; rw [if_neg (by simpa using h), if_neg h2, if_pos h3]
theorem rdW_ok {b : List UInt8} {p : Int} {n q : Nat} (h : dcd b p = ((n : Int), (q : Int), 0)) (h2 : n ≤ 4096) (h3 : q + n ≤ b.length) : rdW b p = (cutB b q n, ((q + n : Nat) : Int), 0) := by
  unfold rdW
  rw [h, if_neg (by simp), if_neg (by simp; omega), if_neg (by simp; omega)]
  simp [cutB]
theorem rdW_acc {b : List UInt8} {q : Nat} (hq : q ≤ b.length) (h : (rdW b q).2.2 = 0) : ∃ n q2 : Nat, dcd b q = ((n : Int), (q2 : Int), 0) ∧ n ≤ 4096 ∧ q2 + n ≤ b.length ∧ q ≤ q2 ∧ rdW b q = (cutB b q2 n, ((q2 + n : Nat) : Int), 0) := by
  by_cases h1 : (dcd b q).2.2 = 0
  · obtain ⟨n, k, e, hk, _, _, _⟩ := dcd_num hq h1
    by_cases h2 : 4096 < (dcd b q).1
    · rw [rdW_l h1 h2] at h; cases h
    · by_cases h3 : (b.length : Int) - (dcd b q).2.1 < (dcd b q).1
      · rw [rdW_s h1 h2 h3] at h; cases h
      · rw [e] at h2 h3
        simp only [] at h2 h3
        exact ⟨n, q + k, e, by omega, by omega, by omega, rdW_ok e (by omega) (by omega)⟩
  · rw [rdW_e h1] at h; exact absurd h h1
theorem cutB_length {b : List UInt8} {p s : Nat} (h : p + s ≤ b.length) : (cutB b p s).length = s := by simp [cutB]; omega
theorem rdWs_e {b : List UInt8} {n : Nat} {ws : List Str} {p : Int} (h : (rdW b p).2.2 ≠ 0) : rdWs b (n + 1) ws p = ([], 0, (rdW b p).2.2) := by rw [rdWs, if_pos h]
theorem rdWs_b {b : List UInt8} {n : Nat} {ws : List Str} {p : Int} (h : (rdW b p).2.2 = 0) (h2 : badW ws (rdW b p).1 = true) : rdWs b (n + 1) ws p = ([], 0, 4) := by rw [rdWs, if_neg (by simpa using h), if_pos h2]
theorem rdWs_n {b : List UInt8} {n : Nat} {ws : List Str} {p : Int} (h : (rdW b p).2.2 = 0) (h2 : badW ws (rdW b p).1 = false) : rdWs b (n + 1) ws p = rdWs b n (ws ++ [(rdW b p).1]) (rdW b p).2.1 := by rw [rdWs, if_neg (by simpa using h), if_neg (by simp [h2])]
theorem rdWs_acc {b : List UInt8} : ∀ (n : Nat) (ws : List Str) (q : Nat), q ≤ b.length → (∀ s ∈ ws, s.length ≤ 4096) → (rdWs b n ws q).2.2 = 0 →
    ∃ q' : Nat, (rdWs b n ws q).2.1 = (q' : Int) ∧ q ≤ q' ∧ q' ≤ b.length ∧ (rdWs b n ws q).1.length = ws.length + n ∧ ∀ s ∈ (rdWs b n ws q).1, s.length ≤ 4096
  | 0, ws, q, hq, hs, _ => ⟨q, rfl, Nat.le_refl _, hq, rfl, hs⟩
  | n + 1, ws, q, hq, hs, h => by
    by_cases h1 : (rdW b q).2.2 = 0
    · cases h2 : badW ws (rdW b q).1
      · rw [rdWs_n h1 h2] at h ⊢
        obtain ⟨m, q2, _, hm, hq2, hqq, e⟩ := rdW_acc hq h1
        rw [e] at h ⊢
        obtain ⟨q', r1, r2, r3, r4, r5⟩ := rdWs_acc n (ws ++ [cutB b q2 m]) (q2 + m) hq2 (fun s hs' => by
          rcases List.mem_append.1 hs' with h | h
          · exact hs s h
          · rw [List.mem_singleton.1 h, cutB_length hq2]; exact hm) h
        exact ⟨q', r1, by omega, r3, by rw [r4, List.length_append, List.length_singleton]; omega, r5⟩
      · rw [rdWs_b h1 h2] at h; cases h
    · rw [rdWs_e h1] at h; exact absurd h h1
theorem rdD_e {b : List UInt8} {off n : Int} (h : (dcd b off).2.2 ≠ 0) : rdD b off n = ([], 0, (dcd b off).2.2) := by unfold rdD; rw [if_pos h]
theorem rdD_r {b : List UInt8} {off n : Int} (h : (dcd b off).2.2 = 0) (h2 : n < (dcd b off).1) : rdD b off n = ([], 0, 6) := by unfold rdD; rw [if_neg (by simpa using h), if_pos h2]
theorem rdD_n {b : List UInt8} {off n : Int} (h : (dcd b off).2.2 = 0) (h2 : ¬ n < (dcd b off).1) : rdD b off n = rdWs b (dcd b off).1.toNat [] (dcd b off).2.1 := by unfold rdD; rw [if_neg (by simpa using h), if_neg h2]
theorem rdD_acc {b : List UInt8} {o : Nat} {n : Nat} (ho : o ≤ b.length) (h : (rdD b o n).2.2 = 0) :
    ∃ q' : Nat, (rdD b o n).2.1 = (q' : Int) ∧ o ≤ q' ∧ q' ≤ b.length ∧ (rdD b o n).1.length ≤ n ∧ ∀ s ∈ (rdD b o n).1, s.length ≤ 4096 := by
  by_cases h1 : (dcd b o).2.2 = 0
  · by_cases h2 : (n : Int) < (dcd b o).1
    · rw [rdD_r h1 h2] at h; cases h
    · rw [rdD_n h1 h2] at h ⊢
      obtain ⟨m, k, e, hk, _, _, _⟩ := dcd_num ho h1
      rw [e] at h h2 ⊢
      simp only [Int.toNat_natCast] at h h2 ⊢
      obtain ⟨q', r1, r2, r3, r4, r5⟩ := rdWs_acc m [] (o + k) hk (by simp) h
      exact ⟨q', r1, by omega, r3, by rw [r4]; simp; omega, r5⟩
  · rw [rdD_e h1] at h; exact absurd h h1
theorem rdP_acc {b : List UInt8} {p n m : Nat} (hn : n ≤ 1048576) (hm : m ≤ 64) (h : (rdP b p n m).2.2 = 0) : ∃ q : Nat, (rdP b p n m).2.1 = (q : Int) ∧ p ≤ q ∧ q ≤ b.length ∧ (rdP b p n m).1.length = n ∧ ∀ c ∈ (rdP b p n m).1, c < 18446744073709551616 := by
  by_cases h1 : b.length < p + szB n m
  · unfold rdP at h; rw [if_pos h1] at h; cases h
  · by_cases h2 : unE (cutB b p (szB n m)) n m ≠ 0
    · unfold rdP at h; rw [if_neg h1, if_pos h2] at h; exact absurd h h2
    · have h3 : unE (cutB b p (szB n m)) n m = 0 := by omega
      have e : rdP b p n m = (unpL (cutB b p (szB n m)) n m, ((p + szB n m : Nat) : Int), 0) := by
        unfold rdP
        rw [if_neg h1, if_neg h2]
        unfold unpI
        rw [if_pos h3, Int.toNat_natCast, Int.toNat_natCast]
      rw [e]
      refine ⟨p + szB n m, rfl, by omega, by omega, unpL_length _ _ _, fun c hc => ?_⟩
      obtain ⟨i, _, rfl⟩ := List.mem_map.1 hc
      refine Nat.lt_of_lt_of_le (numB_lt _ _ _) ?_
      exact Nat.pow_le_pow_right (by decide) hm
theorem u64I_lt (v : Int) : u64I v < 18446744073709551616 := by unfold u64I; omega
theorem rdR_acc {b : List UInt8} {p n : Nat} (hp : p ≤ b.length) (h : (rdR b p n).2.2 = 0) : ∃ q : Nat, (rdR b p n).2.1 = (q : Int) ∧ p ≤ q ∧ q ≤ b.length ∧ (rdR b p n).1.length = n ∧ ∀ c ∈ (rdR b p n).1, c < 18446744073709551616 := by
  by_cases h1 : (dcR b p).2.2 ≠ 0
  · unfold rdR at h; rw [if_pos h1] at h; exact absurd h h1
  · by_cases h2 : (expI (dcR b p).1).length ≠ n
    · unfold rdR at h; rw [if_neg h1, if_pos h2] at h; cases h
    · have e : rdR b p n = ((expI (dcR b p).1).map u64I, (dcR b p).2.1, 0) := by unfold rdR; rw [if_neg h1, if_neg h2]
      have h3 : (dcR b p).2.2 = 0 := by omega
      rw [e]
      obtain ⟨o, k, ho, hk, hkl, hv, _, _⟩ := dcR_acc h3
      have ho' : o = p := by omega
      subst ho'
      refine ⟨o + k, hk, by omega, hkl, by simp; omega, fun c hc => ?_⟩
      obtain ⟨v, _, rfl⟩ := List.mem_map.1 hc
      exact u64I_lt v
theorem rdC_end {b : List UInt8} {p n k : Nat} (h : b.length ≤ p) : rdC b p n k = ([], 0, 2) := by unfold rdC; rw [List.getElem?_eq_none h]
theorem rdC_0 {b : List UInt8} {p n k : Nat} (h : b[p]? = some 0) : rdC b p n k = rdP b (p + 1) n (widW k) := by unfold rdC; rw [h]; rfl
theorem rdC_1 {b : List UInt8} {p n k : Nat} (h : b[p]? = some 1) : rdC b p n k = rdR b (p + 1) n := by unfold rdC; rw [h]; rfl
theorem rdC_x {b : List UInt8} {p n k : Nat} {c : UInt8} (h : b[p]? = some c) (h0 : c ≠ 0) (h1 : c ≠ 1) : rdC b p n k = ([], 0, 4) := by unfold rdC; rw [h]; simp only [if_neg h0, if_neg h1]
theorem rdC_acc {b : List UInt8} {p n k : Nat} (hn : n ≤ 1048576) (hk : k ≤ 1048576) (h : (rdC b p n k).2.2 = 0) :
    ∃ q : Nat, (rdC b p n k).2.1 = (q : Int) ∧ p ≤ q ∧ q ≤ b.length ∧ (rdC b p n k).1.length = n ∧ ∀ c ∈ (rdC b p n k).1, c < 18446744073709551616 := by
  cases hb : b[p]? with
  | none => rw [rdC_end (List.getElem?_eq_none_iff.1 hb)] at h; cases h
  | some c =>
    have hp : p < b.length := by
      rcases Nat.lt_or_ge p b.length with h | h
      · exact h
      · rw [List.getElem?_eq_none h] at hb; cases hb
    by_cases h0 : c = 0
    · subst h0; rw [rdC_0 hb] at h ⊢
      obtain ⟨q, r1, r2, r3, r4⟩ := rdP_acc hn (widW_le (by omega)) h
      exact ⟨q, r1, by omega, r3, r4⟩
    · by_cases h1 : c = 1
      · subst h1; rw [rdC_1 hb] at h ⊢
        obtain ⟨q, r1, r2, r3, r4⟩ := rdR_acc hp h
        exact ⟨q, r1, by omega, r3, r4⟩
      · rw [rdC_x hb h0 h1] at h; cases h
theorem decT_a {b : List UInt8} {off n : Int} (h : n < 0 ∨ 65536 < n ∨ off < 0 ∨ (b.length : Int) < off) : decT b off n = ([], 0, 1) := by unfold decT; rw [if_pos h]
theorem decT_d {b : List UInt8} {off n : Int} (h : ¬ (n < 0 ∨ 65536 < n ∨ off < 0 ∨ (b.length : Int) < off)) (h2 : (rdD b off n).2.2 ≠ 0) : decT b off n = ([], 0, (rdD b off n).2.2) := by
  unfold decT; rw [if_neg h, if_pos h2]
theorem decT_c {b : List UInt8} {o n q : Nat} {ws : List Str} (ho : o ≤ b.length) (hn : n ≤ 65536) (hd : rdD b o n = (ws, (q : Int), 0)) (h2 : (rdC b q n ws.length).2.2 ≠ 0) : decT b o n = ([], 0, (rdC b q n ws.length).2.2) := by
  unfold decT
  rw [if_neg (by omega), hd, if_neg (by simp)]
  simp only [Int.toNat_natCast]
  rw [if_pos h2]
theorem decT_n {b : List UInt8} {o n q r : Nat} {ws : List Str} {cs : List Nat} (ho : o ≤ b.length) (hn : n ≤ 65536) (hd : rdD b o n = (ws, (q : Int), 0)) (hc : rdC b q n ws.length = (cs, (r : Int), 0)) : decT b o n = endT b o ws cs r := by
  unfold decT
  rw [if_neg (by omega), hd, if_neg (by simp)]
  simp only [Int.toNat_natCast]
  rw [hc, if_neg (by simp), Int.toNat_natCast]
theorem rdW_enc {b pre post : List UInt8} {s : Str} (hb : b = pre ++ (wordL s ++ post)) (hs : s.length ≤ 4096) : rdW b (pre.length : Int) = (s, ((pre.length + (wordL s).length : Nat) : Int), 0) := by
  have hd := dcdR_at (b := b) (pre := pre) (post := s ++ post) (n := s.length) (by rw [hb]; simp [wordL]) (by omega)
  have hlen : pre.length + (enc s.length).length + s.length ≤ b.length := by rw [hb]; simp [wordL]; omega
  rw [rdW_ok hd hs hlen]
  have e : cutB b (pre.length + (enc s.length).length) s.length = s := by
    unfold cutB
    rw [hb, show pre ++ (wordL s ++ post) = (pre ++ enc s.length) ++ (s ++ post) by simp [wordL], show pre.length + (enc s.length).length = (pre ++ enc s.length).length by simp, List.drop_left, List.take_left]
  rw [e]
  simp [wordL]; omega
theorem badW_ok {acc : List Str} {w : Str} {r : List Str} (h : RisingL (acc ++ w :: r)) : badW acc w = false := by
  unfold badW
  cases hl : acc.getLast? with
  | none => rfl
  | some t =>
    have hm := List.mem_of_getLast? hl
    have := (List.pairwise_append.1 h).2.2 t hm w (by simp)
    simp [this]
theorem rdWs_enc {b : List UInt8} : ∀ (ws acc : List Str) (pre post : List UInt8), b = pre ++ (wordsL ws ++ post) → (∀ s ∈ ws, s.length ≤ 4096) → RisingL (acc ++ ws) →
    rdWs b ws.length acc (pre.length : Int) = (acc ++ ws, ((pre.length + (wordsL ws).length : Nat) : Int), 0)
  | [], acc, pre, post, _, _, _ => by simp [rdWs, wordsL]
  | w :: r, acc, pre, post, hb, hs, hr => by
    have e : wordsL (w :: r) = wordL w ++ wordsL r := by simp [wordsL]
    have hb1 : b = pre ++ (wordL w ++ (wordsL r ++ post)) := by rw [hb, e]; simp
    have h1 := rdW_enc hb1 (hs w (by simp))
    rw [List.length_cons, rdWs_n (by rw [h1]) (by rw [h1]; exact badW_ok hr), h1]
    have h2 := rdWs_enc (b := b) r (acc ++ [w]) (pre ++ wordL w) post (by rw [hb1]; simp) (fun s hs' => hs s (by simp [hs'])) (by simpa using hr)
    rw [List.length_append] at h2
    simp only [] at h2 ⊢
    rw [h2, e]
    simp; omega
theorem bad_packD (l : List Nat) (M : Nat) : badB (packL l M) l.length M = false := (badB_false (packL_length l M)).2 fun i h1 _ => bbit_pack_out h1
theorem unpL_packL {cs : List Nat} {m : Nat} (h : ∀ c ∈ cs, c < 2 ^ m) : unpL (packL cs m) cs.length m = cs := by
  refine List.ext_getElem (unpL_length _ _ _) fun i h1 h2 => ?_
  have e := unpL_get (b := packL cs m) (w := m) (n := cs.length) (i := i) h2
  rw [List.getElem?_eq_getElem h1] at e
  injection e with e
  rw [e, numB_pack h2, List.getD_eq_getElem?_getD, List.getElem?_eq_getElem h2]
  exact Nat.mod_eq_of_lt (h _ (List.getElem_mem h2))
theorem u64_ints (cs : List Nat) (h : ∀ c ∈ cs, c < 18446744073709551616) : (intsL cs).map u64I = cs := by
  unfold intsL
  rw [List.map_map]
  refine (List.map_congr_left (g := id) fun c hc => ?_).trans (List.map_id cs)
  have := h c hc
  simp only [Function.comp, u64I, id]
  omega
theorem rdC_enc {b pre post : List UInt8} {k : Nat} {cs : List Nat} (hb : b = pre ++ (codesB k cs ++ post)) (hn : cs.length ≤ 65536) (hk : k ≤ 65536) (hc : ∀ c ∈ cs, c < k) :
    rdC b pre.length cs.length k = (cs, ((pre.length + (codesB k cs).length : Nat) : Int), 0) := by
  have hw : widW k ≤ 64 := widW_le (by omega)
  by_cases hsh : (encR (runsR (intsL cs))).length < (packL cs (widW k)).length
  · have e : codesB k cs = 1 :: encR (runsR (intsL cs)) := by unfold codesB; rw [if_pos hsh]
    rw [e] at hb ⊢
    rw [rdC_1 (by rw [hb]; simp)]
    have hv : validR (runsR (intsL cs)) = true := runs_valid (by rw [intsL_length]; exact hn)
    have hin : ∀ x ∈ runsR (intsL cs), in64 x.1 := by
      intro x hx
      have hp := runsR_pos' (intsL cs) x hx
      have he : x.1 ∈ expR (runsR (intsL cs)) := by
        have : ∀ l : List Rn, x ∈ l → x.1 ∈ expR l := fun l => by
          induction l with
          | nil => intro h; cases h
          | cons y l ih =>
            intro h
            rw [expR, List.mem_append]
            rcases List.mem_cons.1 h with rfl | h
            · exact .inl (List.mem_replicate.2 ⟨by omega, rfl⟩)
            · exact .inr (ih h)
        exact this _ hx
      rw [expR_runs] at he
      obtain ⟨c, hcm, e⟩ := List.mem_map.1 he
      have := hc c hcm
      unfold in64
      omega
    have hd := dcR_enc hv hin (pre ++ [1]) post
    have hbe : b = (pre ++ [1]) ++ (encR (runsR (intsL cs)) ++ post) := by rw [hb]; simp
    rw [← hbe, show (pre ++ [(1 : UInt8)]).length = pre.length + 1 by simp] at hd
    have hx : expI (runsR (intsL cs)) = intsL cs := by unfold expI; rw [if_pos hv, expR_runs]
    unfold rdR
    rw [hd, if_neg (by simp), if_neg (by simp only [hx, intsL_length]; simp)]
    simp only [hx]
    rw [u64_ints cs fun c h => by have := hc c h; omega]
    simp; omega
  · have e : codesB k cs = 0 :: packL cs (widW k) := by unfold codesB; rw [if_neg hsh]
    rw [e] at hb ⊢
    rw [rdC_0 (by rw [hb]; simp)]
    have hcut : cutB b (pre.length + 1) (szB cs.length (widW k)) = packL cs (widW k) := by
      unfold cutB
      rw [hb, show pre ++ (0 :: packL cs (widW k) ++ post) = (pre ++ [0]) ++ (packL cs (widW k) ++ post) by simp, show pre.length + 1 = (pre ++ [(0 : UInt8)]).length by simp, List.drop_left, ← packL_length cs (widW k), List.take_left]
    have hun : unE (packL cs (widW k)) (cs.length : Int) (widW k : Int) = 0 := unE_of (by omega) hw (packL_length cs _) (bad_packD cs _)
    have hpow : ∀ c ∈ cs, c < 2 ^ widW k := fun c h => by
      have h1 := hc c h
      exact Nat.lt_of_le_of_lt (show c ≤ k - 1 by omega) (bitLen_hi (by omega))
    have hsz : pre.length + 1 + szB cs.length (widW k) ≤ b.length := by
      have h1 := packL_length cs (widW k)
      rw [hb]; simp; omega
    unfold rdP
    rw [if_neg (by omega), hcut, if_neg (by rw [hun]; simp)]
    have hui : unpI (packL cs (widW k)) (cs.length : Int) (widW k : Int) = cs := by
      unfold unpI
      rw [if_pos hun, Int.toNat_natCast, Int.toNat_natCast, unpL_packL hpow]
    rw [hui, ← packL_length cs (widW k)]
    simp; omega
theorem pick_codes {vs : List Str} {ws : List Str} (h : ∀ s ∈ vs, s ∈ ws) : pickS ws (codesW ws vs) = vs := by
  unfold pickS codesW
  rw [List.map_map]
  refine (List.map_congr_left (g := id) fun s hs => ?_).trans (List.map_id vs)
  have h1 := codeW_lt (h s hs)
  simp only [Function.comp, id, List.getD_eq_getElem?_getD, List.getElem?_eq_getElem h1, Option.getD_some]
  exact codeW_get (h s hs)
theorem decT_enc {vs : List Str} (hl : vs.length ≤ 65536) (hs : ∀ s ∈ vs, s.length ≤ 4096) (pre post : List UInt8) :
    decT (pre ++ (encT vs ++ post)) (pre.length : Int) (vs.length : Int) = (vs, ((pre.length + (encT vs).length : Nat) : Int), 0) := by
  obtain ⟨b, hb⟩ : ∃ b, b = pre ++ (encT vs ++ post) := ⟨_, rfl⟩
  rw [← hb]
  have hwl := wordsOf_length vs
  have hcl : (codesW (wordsOf vs) vs).length = vs.length := by simp [codesW]
  have hck : ∀ c ∈ codesW (wordsOf vs) vs, c < (wordsOf vs).length := fun c hc => by
    obtain ⟨s, h1, rfl⟩ := List.mem_map.1 hc
    exact codeW_lt (mem_wordsOf.2 h1)
  have hpk : pickS (wordsOf vs) (codesW (wordsOf vs) vs) = vs := pick_codes fun s h => mem_wordsOf.2 h
  have hwsl : ∀ s ∈ wordsOf vs, s.length ≤ 4096 := fun s h => hs s (mem_wordsOf.1 h)
  have hr := wordsOf_rising vs
  have he : encT vs = bytesW (wordsOf vs) ++ codesB (wordsOf vs).length (codesW (wordsOf vs) vs) := rfl
  generalize codesW (wordsOf vs) vs = cs at *
  generalize wordsOf vs = ws at *
  have hb1 : b = pre ++ (enc ws.length ++ (wordsL ws ++ (codesB ws.length cs ++ post))) := by rw [hb, he]; simp [bytesW]
  have hd := dcdR_at hb1 (by omega)
  have hD : rdD b (pre.length : Int) (vs.length : Int) = (ws, ((pre.length + (bytesW ws).length : Nat) : Int), 0) := by
    rw [rdD_n (by rw [hd]) (by rw [hd]; simp; omega), hd]
    simp only [Int.toNat_natCast]
    have h2 := rdWs_enc (b := b) ws [] (pre ++ enc ws.length) (codesB ws.length cs ++ post) (by rw [hb1]; simp) hwsl (by simpa using hr)
    rw [List.length_append] at h2
    rw [h2]
    simp [bytesW]; omega
  have hC : rdC b (pre.length + (bytesW ws).length) vs.length ws.length = (cs, ((pre.length + (encT vs).length : Nat) : Int), 0) := by
    have h2 := rdC_enc (b := b) (pre := pre ++ bytesW ws) (post := post) (k := ws.length) (cs := cs) (by rw [hb, he]; simp) (by omega) (by omega) hck
    rw [hcl, List.length_append] at h2
    rw [h2, he]
    simp; omega
  rw [decT_n (by rw [hb]; simp) hl hD hC]
  unfold endT
  have ho : overC cs ws.length = false := by
    unfold overC
    rw [List.any_eq_false]
    intro c hc
    have := hck c hc
    simp; omega
  have hcut : cutB b pre.length (pre.length + (encT vs).length - pre.length) = encT vs := by
    unfold cutB
    rw [hb, List.drop_left, Nat.add_sub_cancel_left, List.take_left]
  rw [ho, hpk, hcut, if_neg (by simp), if_pos rfl]
end Go.Proofs.YthmipnokimlbdaaGreat
/-
  Shaken: what the claims of this seat need of this text. No condition.
-/
namespace Go.Proofs.YthmipnokimlbdaaGreat
set_option maxRecDepth 20000
open Go.RowKit
set_option linter.unusedVariables false
set_option linter.unusedSimpArgs false
def EWRel (w : World) (ws : List Str) (b i : Value) (wr : World) : Prop :=
  ∃ k : Nat, k ≤ ws.length ∧ i = .int .i64 (k : Int) ∧ wr.ownsRow w.heap.size 5 1 b (enc ws.length ++ wordsL (ws.take k)).length (bcells (enc ws.length ++ wordsL (ws.take k))) ∧ Below w.heap.size w wr
set_option maxRecDepth 20000 in
set_option maxHeartbeats 4000000 in
theorem encodeWords_any (v : Value) (ws : List Str) (w : World) (hv : IsS w v ws) (hl : ws.length ≤ 1000000) (hs : ∀ s ∈ ws, s.length ≤ 1000000) :
    Calls Tryz.prog 167 #[v] w (Made (bytesW ws) w) := by
  obtain ⟨A, c, rfl⟩ := hv.slice_
  have HV := hidden hv
  have HSL := hidden hs
  have HE := hidden (encode_any (ws.length : Int) w (by omega) (by omega))
  rw [Int.toNat_natCast] at HE
  have HEL := hidden (enc_len10 (n := ws.length) (by omega))
  clear hv hs
  go_enter Tryz.func167, Tryz.ntmps167
  go_wp2_with fail
  refine HE.out.mono ?_
  rintro e w1 ⟨v1, rfl, hown1, g1⟩
  have HO1 := hidden hown1
  have HG1 := hidden g1
  clear hown1 g1
  go_wp2_with fail
  go_loopw [3, 12] (fun b i wr => EWRel w ws b i wr) (fun _ i _ => ws.length - (intOf i).toNat)
  case atStart => exact ⟨0, by omega, rfl, by simpa [wordsL] using HO1.out, HG1.out⟩
  case round =>
    obtain ⟨k, hk, rfl, hown, hb⟩ := hrel
    have HO := hidden hown
    have HB := hidden hb
    clear hown hb
    by_cases hlt : k < ws.length
    · obtain ⟨b, f, rfl, hck⟩ := (HV.out.grow HB.out).at_ hlt
      have HTK := hidden (wordsL_take hlt)
      have hsl := HSL.out _ (List.getElem_mem hlt)
      have HWL := hidden (show (enc ws.length ++ wordsL (ws.take k)).length ≤ 100000000000000 by
        have h1 := wordsL_len (ws := ws.take k) fun x hx => HSL.out x (List.mem_of_mem_take hx)
        rw [List.length_take] at h1
        have h2 := HEL.out
        rw [List.length_append]
        have h3 : 1000010 * min k ws.length ≤ 1000010 * 1000000 := Nat.mul_le_mul_left _ (by omega)
        omega)
      obtain ⟨P, hP⟩ : ∃ P, enc ws.length ++ wordsL (ws.take k) = P := ⟨_, rfl⟩
      have HTP := hidden (show enc ws.length ++ wordsL (ws.take (k + 1)) = P ++ enc ws[k].length ++ ws[k] by
        rw [HTK.out, ← hP]; simp [wordL])
      rw [hP] at HO HWL
      have hsz : (strOf ws[k]).size = ws[k].length := rfl
      have HEK := hidden (encode_any (ws[k].length : Int) wr (by omega) (by omega))
      rw [Int.toNat_natCast] at HEK
      have HEL2 := hidden (enc_len10 (n := ws[k].length) (by omega))
      generalize ws[k] = s at *
      generalize enc s.length = E at *
      clear hP HTK
      go_wp2_with fail
      refine HEK.out.mono ?_
      rintro e w2 ⟨v2, rfl, hown2, g2⟩
      have HO2 := hidden (own_growS HO.out g2)
      have HB2 := hidden (HB.out.trans (g2.mono HB.out.size))
      have HBY := hidden (IsBytes.of_own hown2)
      clear hown2 g2 hck
      have hw1 := HWL.out
      have hw2 := HEL2.out
      go_wp2_with (first
        | (at_builtin; refine wpList_append_bytes (w := w) rfl _ _ 29 rfl 5 Tryz.underlying29 info_u8 _ P (by rfl) HO2.out HB2.out _ E (by rfl) HBY.out (by omega) ?_; intro v3 w3 hown3 hb3; have HO3 := hidden hown3; have HB3 := hidden hb3; clear hown3 hb3)
        | (at_builtin; refine wpList_append_str (w := w) rfl _ _ 29 9 rfl 5 Tryz.underlying29 Tryz.underlying9 info_u8 _ (P ++ E) (by rfl) HO3.out HB3.out s (by rfl) (by rw [List.length_append]; omega) ?_; intro v4 w4 hown4 hb4; have HO4 := hidden hown4; have HB4 := hidden hb4; clear hown4 hb4))
      first
        | (go_roundw; (case rel => exact ⟨k + 1, by omega, by go_num, by rw [HTP.out]; exact HO4.out, HB4.out⟩); (case measure => simp [intOf]; omega))
        | exact ⟨⟨k + 1, by omega, by go_num, by rw [HTP.out]; exact HO4.out, HB4.out⟩, by simp [intOf]; omega⟩
    · have hke : k = ws.length := by omega
      rw [hke, List.take_length] at HO
      clear hke
      go_wp2_with fail
      go_ret
      exact ⟨_, rfl, HO.out, HB.out⟩
end Go.Proofs.YthmipnokimlbdaaGreat
/-
  Shaken: what the claims of this seat need of this text. No condition.
-/
namespace Go.Proofs.YthmipnokimlbdaaGreat
open Go.RowKit
set_option linter.unusedVariables false
set_option linter.unusedSimpArgs false
def RdR (r : Str × Int × Int) (w : World) (e : Ending) (w' : World) : Prop := e = .returned (.tuple #[.string (strOf r.1), .int .i64 r.2.1, .int .i64 r.2.2]) ∧ w = w'
set_option maxRecDepth 8000 in
set_option maxHeartbeats 4000000 in
theorem readWord_any (A : Option Addr) (c : Nat) (b : List UInt8) (q : Nat) (w : World) (hb : IsBytes w (.slice A b.length c) b) (hlc : b.length ≤ c) (hl : b.length ≤ 1000000000) (hq : q ≤ b.length) :
    Calls Tryz.prog 212 #[.slice A b.length c, .int .i64 (q : Int)] w (RdR (rdW b q) w) := by
  have HV := hidden hb
  have HDC := hidden (decode_any (.slice A b.length c) b q w hb (by unfold maxLen; omega) (by omega) (by omega))
  by_cases h1 : (dcd b q).2.2 = 0
  · obtain ⟨n, k, hd, hk, hk1, _, hn64⟩ := dcd_num hq h1
    rw [hd] at HDC
    obtain ⟨q2, hq2⟩ : ∃ q2, q2 = q + k := ⟨_, rfl⟩
    rw [← hq2] at hd HDC hk
    by_cases h2 : n ≤ 4096
    · obtain ⟨R, hR⟩ : ∃ R : Nat, R = b.length - q2 := ⟨_, rfl⟩
      have hR1 : (b.length : Int) - (q2 : Int) = (R : Int) := by omega
      have hRl : R ≤ 1000000000 := by omega
      by_cases h3 : q2 + n ≤ b.length
      · have HE := hidden (rdW_ok hd h2 h3)
        obtain ⟨E, hE⟩ : ∃ E, E = q2 + n := ⟨_, rfl⟩
        have hPE : (q2 : Int) + (n : Int) = (E : Int) := by omega
        rw [← hE] at HE
        obtain ⟨bb, ff, rfl⟩ := some_of_bytes hb (by omega)
        have hPL : q2 ≤ E := by omega
        have hEl : E ≤ b.length := by omega
        have HEN := hidden (show E - q2 = n by omega)
        have hd3 : decide (R < n) = false := by simp; omega
        have hd4 : decide ((4096 : Int) < (n : Int)) = false := by simp; omega
        clear hb hR hE hd h1 hq2 h3 hk hq
        go_enter Tryz.func212, Tryz.ntmps212
        go_wp2_with fail
        refine HDC.out.mono ?_
        rintro e w2 ⟨rfl, rfl⟩
        go_wp2_with (first
          | (refine wpList_slice_bytes rfl _ _ _ 29 5 rfl Tryz.underlying29 (by kernel_rfl) (by kernel_rfl) bb ff b c rfl HV.out q2 E rfl rfl hPL hEl hlc ?_; rw [HEN.out]; intro v9 hv9; have HV9 := hidden hv9; clear hv9)
          | (refine wpList_tostring rfl _ 29 9 5 rfl Tryz.underlying29 Tryz.underlying5 Tryz.underlying9 v9 _ rfl HV9.out ?_))
        go_ret3
        exact ⟨by rw [HE.out]; rfl, rfl⟩
      · have HE := hidden (rdW_s (b := b) (p := q) (by rw [hd]) (by rw [hd]; simp; omega) (by rw [hd]; simp only []; omega))
        have hd3 : decide (R < n) = true := by simp; omega
        have hd4 : decide ((4096 : Int) < (n : Int)) = false := by simp; omega
        clear hb hR hd h1 hq2 h3 hk hq
        go_enter Tryz.func212, Tryz.ntmps212
        go_wp2_with fail
        refine HDC.out.mono ?_
        rintro e w2 ⟨rfl, rfl⟩
        go_wp2_with fail
        go_ret3
        exact ⟨by rw [HE.out]; rfl, rfl⟩
    · have HE := hidden (rdW_l (b := b) (p := q) (by rw [hd]) (by rw [hd]; simp; omega))
      have hd4 : decide ((4096 : Int) < (n : Int)) = true := by simp; omega
      clear hb hd h1 hq2 hk hq
      go_enter Tryz.func212, Tryz.ntmps212
      go_wp2_with fail
      refine HDC.out.mono ?_
      rintro e w2 ⟨rfl, rfl⟩
      go_wp2_with fail
      go_ret3
      exact ⟨by rw [HE.out]; rfl, rfl⟩
  · have HE := hidden (rdW_e h1)
    have hne : ((dcd b q).2.2 != 0) = true := by simpa using h1
    generalize dcd b q = r at *
    obtain ⟨r1, r2, r3⟩ := r
    simp only [] at hne HDC HE
    clear hb h1 hq
    go_enter Tryz.func212, Tryz.ntmps212
    go_wp2_with fail
    refine HDC.out.mono ?_
    rintro e w2 ⟨rfl, rfl⟩
    go_wp2_with fail
    go_ret3
    exact ⟨by rw [HE.out]; rfl, rfl⟩
def RWRel (w : World) (b : List UInt8) (cnt : Nat) (R : List Str × Int × Int) (p u i : Value) (wr : World) : Prop :=
  ∃ (j q : Nat) (ws : List Str), j ≤ cnt ∧ i = .int .i64 (j : Int) ∧ p = .int .i64 (q : Int) ∧ q ≤ b.length ∧ ws.length = j ∧ wr.ownsRow w.heap.size 9 1 u ws.length (scells ws) ∧ rdWs b (cnt - j) ws q = R ∧ Below w.heap.size w wr
theorem badW_last {ws : List Str} {s : Str} {J : Nat} (h : ws.length = J + 1) : badW ws s = !decide (ws[J] < s) := by
  have hJ : ws.length - 1 = J := by omega
  have e : ws.getLast? = some ws[J] := by rw [List.getLast?_eq_getElem?, hJ, List.getElem?_eq_getElem]
  unfold badW
  rw [e]
set_option maxRecDepth 8000 in
set_option maxHeartbeats 8000000 in
theorem readWords_any (A : Option Addr) (c : Nat) (b : List UInt8) (off : Int) (N : Nat) (w : World) (hb : IsBytes w (.slice A b.length c) b) (hlc : b.length ≤ c) (hl : b.length ≤ 1000000000) (h63 : -9223372036854775808 ≤ off) (h64 : off ≤ 9223372036854775807) (hN : N ≤ 65536) :
    Calls Tryz.prog 170 #[.slice A b.length c, .int .i64 off, .int .i64 (N : Int)] w (RsR (rdD b off N) w) := by
  have HV := hidden hb
  have HDC := hidden (decode_any (.slice A b.length c) b off w hb (by unfold maxLen; omega) h63 h64)
  have HRW := hidden (fun (q : Nat) (W : World) (hq : q ≤ b.length) (hW : Grows w W) => readWord_any A c b q W (hb.grow hW) hlc hl hq)
  by_cases h1 : (dcd b off).2.2 = 0
  · obtain ⟨o, rfl⟩ : ∃ o : Nat, off = (o : Int) := by
      rcases Int.lt_or_le off 0 with h | h
      · rw [dcd_bad (.inl h)] at h1; cases h1
      · exact Int.eq_ofNat_of_zero_le h
    have ho : o ≤ b.length := by
      rcases Nat.lt_or_ge b.length o with h | h
      · rw [dcd_bad (.inr (by omega))] at h1; cases h1
      · exact h
    obtain ⟨n, k, hd, hk, hk1, _, hn64⟩ := dcd_num ho h1
    rw [hd] at HDC
    obtain ⟨q2, hq2⟩ : ∃ q2, q2 = o + k := ⟨_, rfl⟩
    rw [← hq2] at hd HDC hk
    by_cases h2 : n ≤ N
    · have HE := hidden (show rdD b o N = rdWs b n [] q2 by rw [rdD_n (by rw [hd]) (by rw [hd]; simp; omega), hd]; simp)
      obtain ⟨R, hR⟩ : ∃ R, R = rdD b o N := ⟨_, rfl⟩
      rw [← hR] at HE ⊢
      have hd3 : decide (N < n) = false := by simp; omega
      have hnl : n ≤ 65536 := by omega
      clear hb hd h1 hq2 hR
      go_enter Tryz.func170, Tryz.ntmps170
      go_wp2_with fail
      refine HDC.out.mono ?_
      rintro e w2 ⟨rfl, rfl⟩
      go_wp2_with fail
      go_loopw [10, 12, 34] (fun p u i wr => RWRel w b n R p u i wr) (fun _ _ i _ => n - (intOf i).toNat)
      case atStart => exact ⟨0, q2, [], by omega, rfl, rfl, hk, rfl, own_emptyS w (Nat.le_refl _), HE.out.symm, growA _⟩
      case round =>
        obtain ⟨j, q, ws, hj, rfl, rfl, hq, hwl, hown, hres, hbw⟩ := hrel
        have HB := hidden hbw
        have HOW := hidden hown
        have HWL := hidden hwl
        have HRES := hidden hres
        obtain ⟨A2, c2, rfl⟩ := own_sliceS hown
        by_cases hlt : j < n
        · obtain ⟨f, hf⟩ : ∃ f, n - j = f + 1 := ⟨n - j - 1, by omega⟩
          have HF := hidden (show n - (j + 1) = f by omega)
          rw [hf] at HRES
          have HRD := hidden (HRW.out q wr hq hbw)
          have HIS := hidden (show IsS wr (.slice A2 ws.length c2) ws from Reads.of_own hown)
          by_cases he : (rdW b q).2.2 = 0
          · obtain ⟨m, q3, _, hm, hq3, _, hrw⟩ := rdW_acc hq he
            have HST := hidden (show badW ws (cutB b q3 m) = true → R = ([], 0, 4) from fun h => by
              have h2 := HRES.out
              rw [rdWs_b he (by rw [hrw]; exact h)] at h2
              exact h2.symm)
            have HSN := hidden (show badW ws (cutB b q3 m) = false → rdWs b f (ws ++ [cutB b q3 m]) (q3 + m : Nat) = R from fun h => by
              have h2 := HRES.out
              rw [rdWs_n he (by rw [hrw]; exact h), hrw] at h2
              exact h2)
            rw [hrw] at HRD
            generalize cutB b q3 m = s at *
            obtain ⟨q4, hq4⟩ : ∃ q4, q4 = q3 + m := ⟨_, rfl⟩
            rw [← hq4] at HRD HSN hq3
            have hsz := hbw.size
            have hlen1 : ws.length + 1 ≤ 1000000000000 := by omega
            by_cases hj0 : j = 0
            · have hw0 : ws = [] := List.eq_nil_of_length_eq_zero (by omega)
              have HN2 := hidden (HSN.out (by rw [hw0]; rfl))
              have hdj : decide (0 < j) = false := by simp; omega
              have HLN1 := hidden hlen1
              clear hres hown hbw hwl hw0 he hf hrw hq4 hj0 hlen1
              go_wp2_with fail
              refine HRD.out.mono ?_
              rintro e w3 ⟨rfl, rfl⟩
              go_wp2_with ((at_builtin; go_loud (refine wpList_append_s rfl _ _ rfl _ ws (by rfl) w.heap.size HOW.out w HB.out hsz s _ rfl (by rfl) HLN1.out ?_); intro v5 w5 hown5 hb5; have HO5 := hidden hown5; have HB5 := hidden hb5; clear hown5 hb5))
              first
                | (go_roundw; (case rel => exact ⟨j + 1, q4, _, by omega, by go_num, rfl, by omega, by rw [List.length_append, List.length_singleton, HWL.out], HO5.out, by rw [HF.out]; exact HN2.out, HB5.out⟩); (case measure => simp [intOf]; omega))
                | exact ⟨⟨j + 1, q4, _, by omega, by go_num, rfl, by omega, by rw [List.length_append, List.length_singleton, HWL.out], HO5.out, by rw [HF.out]; exact HN2.out, HB5.out⟩, by simp [intOf]; omega⟩
            · obtain ⟨J, hJ⟩ : ∃ J, j = J + 1 := ⟨j - 1, by omega⟩
              have hbl := badW_last (ws := ws) (s := s) (J := J) (by omega)
              have hJ1 : (j : Int) - 1 = (J : Int) := by omega
              have hJ2 : IntKind.i64.wrap (J : Int) = (J : Int) := by rw [IntKind.wrap_i64]; omega
              have hJl : J < ws.length := by omega
              have hdj : decide (0 < j) = true := by simp; omega
              obtain ⟨b2, f2, rfl, hck⟩ := HIS.out.at_ hJl
              have hle := leS s ws[J]
              rw [← hbl] at hle
              generalize ws[J] = t at *
              cases hbb : badW ws s
              · have HN2 := hidden (HSN.out hbb)
                rw [hbb] at hle
                have HLN1 := hidden hlen1
                generalize hS' : strOf t = t' at *
                clear hres hown hbw hwl he hf hrw hq4 hj0 hlen1 hJ hbl hbb hS'
                go_wp2_with fail
                refine HRD.out.mono ?_
                rintro e w3 ⟨rfl, rfl⟩
                go_wp2_with ((at_builtin; go_loud (refine wpList_append_s rfl _ _ rfl _ ws (by rfl) w.heap.size HOW.out w HB.out hsz s _ rfl (by rfl) HLN1.out ?_); intro v5 w5 hown5 hb5; have HO5 := hidden hown5; have HB5 := hidden hb5; clear hown5 hb5))
                first
                  | (go_roundw; (case rel => exact ⟨j + 1, q4, _, by omega, by go_num, rfl, by omega, by rw [List.length_append, List.length_singleton, HWL.out], HO5.out, by rw [HF.out]; exact HN2.out, HB5.out⟩); (case measure => simp [intOf]; omega))
                  | exact ⟨⟨j + 1, q4, _, by omega, by go_num, rfl, by omega, by rw [List.length_append, List.length_singleton, HWL.out], HO5.out, by rw [HF.out]; exact HN2.out, HB5.out⟩, by simp [intOf]; omega⟩
              · have HN2 := hidden (HST.out hbb)
                rw [hbb] at hle
                generalize hS' : strOf t = t' at *
                clear hres hown hbw hwl he hf hrw hq4 hj0 hJ hbl hbb hS'
                go_wp2_with fail
                refine HRD.out.mono ?_
                rintro e w3 ⟨rfl, rfl⟩
                go_wp2_with fail
                go_ret3
                exact RsR.err HN2.out HB.out
          · have HN2 := hidden (show R = ([], 0, (rdW b q).2.2) by
              have h2 := HRES.out
              rw [rdWs_e he] at h2
              exact h2.symm)
            have hne : ((rdW b q).2.2 != 0) = true := by simpa using he
            generalize rdW b q = r at *
            obtain ⟨r1, r2, r3⟩ := r
            simp only [] at hne HRD HN2
            clear hres hown hbw hwl he hf
            go_wp2_with fail
            refine HRD.out.mono ?_
            rintro e w3 ⟨rfl, rfl⟩
            go_wp2_with fail
            go_ret3
            exact RsR.err HN2.out HB.out
        · have hje : n - j = 0 := by omega
          rw [hje] at HRES
          have HN2 := hidden (show R = (ws, (q : Int), 0) from HRES.out.symm)
          clear hres hown hbw hwl hje
          go_wp2_with fail
          go_ret3
          refine ⟨_, by rw [HN2.out]; rfl, HB.out, ?_⟩
          rw [HN2.out]
          exact Reads.of_own HOW.out
    · have HE := hidden (rdD_r (b := b) (off := (o : Int)) (n := (N : Int)) (by rw [hd]) (by rw [hd]; simp; omega))
      have hd3 : decide (N < n) = true := by simp; omega
      clear hb hd h1 hq2
      go_enter Tryz.func170, Tryz.ntmps170
      go_wp2_with fail
      refine HDC.out.mono ?_
      rintro e w2 ⟨rfl, rfl⟩
      go_wp2_with fail
      go_ret3
      exact RsR.err HE.out (Below.refl _ _)
  · have HE := hidden (rdD_e (n := (N : Int)) h1)
    have hne : ((dcd b off).2.2 != 0) = true := by simpa using h1
    generalize dcd b off = r at *
    obtain ⟨r1, r2, r3⟩ := r
    simp only [] at hne HDC HE
    clear hb h1
    go_enter Tryz.func170, Tryz.ntmps170
    go_wp2_with fail
    refine HDC.out.mono ?_
    rintro e w2 ⟨rfl, rfl⟩
    go_wp2_with fail
    go_ret3
    exact RsR.err HE.out (Below.refl _ _)
end Go.Proofs.YthmipnokimlbdaaGreat
/-
  Shaken: what the claims of this seat need of this text. No condition.
-/
namespace Go.Proofs.YthmipnokimlbdaaGreat
set_option maxRecDepth 20000
open Go.RowKit
set_option linter.unusedVariables false
set_option linter.unusedSimpArgs false
theorem runs_inI {cs : List Nat} (h : ∀ c ∈ cs, c ≤ 4611686018427387903) : ∀ x ∈ runsR (intsL cs), in64 x.1 := by
  intro x hx
  have hp := runsR_pos' (intsL cs) x hx
  have he : x.1 ∈ expR (runsR (intsL cs)) := by
    have : ∀ l : List Rn, x ∈ l → x.1 ∈ expR l := fun l => by
      induction l with
      | nil => intro h; cases h
      | cons y l ih =>
        intro h
        rw [expR, List.mem_append]
        rcases List.mem_cons.1 h with rfl | h
        · exact .inl (List.mem_replicate.2 ⟨by omega, rfl⟩)
        · exact .inr (ih h)
    exact this _ hx
  rw [expR_runs] at he
  obtain ⟨c, hc, e⟩ := List.mem_map.1 he
  have := h c hc
  unfold in64
  omega
theorem runs_cnt (cs : List Nat) (h : cs.length ≤ 1000000) : ∀ x ∈ runsR (intsL cs), 0 ≤ x.2 ∧ x.2 ≤ 9223372036854775807 := by
  intro x hx
  have h1 := runsR_pos' (intsL cs) x hx
  have h2 := (runsR_len (intsL cs) (Nat.le_refl _)).1
  rw [List.take_length] at h2
  have h3 := h2 x hx
  rw [intsL_length] at h3
  omega
def NewZ (e : TypeId) (z : Value) (n H : Nat) : Value → World → Prop := fun v w => ∃ b, v = .slice (some ⟨b, 0, none⟩) n n ∧ H ≤ b ∧ Row w b e (List.replicate n z)
theorem NewZ.lasts {e : TypeId} {z : Value} {n H : Nat} : ∀ v w w', NewZ e z n H v w → Grows w w' → NewZ e z n H v w' := fun _ _ _ ⟨b, h1, h2, h3⟩ hg => ⟨b, h1, h2, h3.grow hg⟩
theorem Row.set_otherD {w : World} {g : Nat} {e : TypeId} {xs : List Value} (h : Row w g e xs) {p : Addr} (hne : g ≠ p.block) (u : Value) : Row (w.setCell p u) g e xs := by
  unfold Row at h ⊢
  rw [Below.heap_setCell w p u g hne]
  exact h
theorem wcells_setD (l : List Nat) (j c : Nat) : (wcells l).set j (.int .u64 (c : Int)) = wcells (l.set j c) := by simp [wcells, List.map_set]
theorem made_wcells (n : Nat) : List.replicate n (Value.int .u64 0) = wcells (List.replicate n 0) := by simp [wcells]
def ECRel (w : World) (cs : List Nat) (b1 b2 : Nat) (i : Value) (wr : World) : Prop :=
  ∃ k : Nat, k ≤ cs.length ∧ i = .int .i64 (k : Int) ∧ Row wr b1 85 (wcells (cutN cs k cs.length)) ∧ Row wr b2 2 (ncells (cutN cs k cs.length)) ∧ Below w.heap.size w wr
set_option maxRecDepth 20000 in
set_option maxHeartbeats 8000000 in
theorem encodeCodes_any (v : Value) (cs : List Nat) (k0 : Nat) (w : World) (hv : IsN w v cs) (hl : cs.length ≤ 1000000) (hk0 : k0 ≤ 1000000) (hcs : ∀ c ∈ cs, c ≤ 4611686018427387903) :
    Calls Tryz.prog 168 #[v, .int .i64 (widW k0 : Int)] w (Made (codesB k0 cs) w) := by
  obtain ⟨A, c, rfl⟩ := hv.slice_
  have HV := hidden hv
  have HCS := hidden hcs
  have HMU := hidden (fun W => run_make_rep (P := Tryz.prog) 52 85 (.int .u64 0) 8 Tryz.underlying52 (by kernel_rfl) rfl cs.length (by omega) (by omega) W)
  have HMI := hidden (fun W => run_make_rep (P := Tryz.prog) 22 2 (.int .i64 0) 8 Tryz.underlying22 (by kernel_rfl) rfl cs.length (by omega) (by omega) W)
  have HCB0 := hidden (show codesB k0 cs = if (encR (runsR (intsL cs))).length < (packL cs (widW k0)).length then 1 :: encR (runsR (intsL cs)) else 0 :: packL cs (widW k0) from rfl)
  have HW64 := hidden (widW_le (k := k0) (by omega))
  have HPL := hidden (packL_len (cs := cs) (m := widW k0) (by omega) HW64.out)
  have HRL := hidden (runs_len cs)
  generalize hm : widW k0 = m at *
  have HM := hidden hm
  clear hv hcs hm
  go_enter Tryz.func168, Tryz.ntmps168
  go_wp2_with fail
  refine wp_region_loose (tabRs [(2, NewZ 85 (.int .u64 0) cs.length w.heap.size), (5, NewZ 2 (.int .i64 0) cs.length w.heap.size)]) (by kernel_rfl) (by kernel_rfl) (tabRs_cons NewZ.lasts (tabRs_cons NewZ.lasts tabRs_nil)) ?_
  iterate 2 ((with_reducible refine loose_one (v := ?_) (a' := ?_) ?_ ?_ (fun w' hC' hG' => ?_) ?_ ?_); rotate_left 2; (focus rfl); (focus rfl); (focus (clear hC' hG'; go_simp; rfl)); (focus (go_simp; rfl)))
  refine loose_new (R := NewZ 85 (.int .u64 0) cs.length w.heap.size) (by rfl) (by rfl) (fun w' hC' hG' => ?_) ?_
  · exact ⟨.slice (some ⟨w'.heap.size, 0, none⟩) cs.length cs.length, w'.alloc (.cells (List.replicate cs.length (.int .u64 0)).toArray 85), by (have h1 := HMU.out w'; have h2 := HMI.out w'; clear hC' hG'; first | rfl | (go_simp; rfl) | go_simp), growA _, w'.heap.size, rfl, hC'.size, Row.new w' 85 _ _ rfl⟩
  rintro _ ⟨_, _, b1, rfl, hb1, _⟩
  refine ⟨?_, ?_, ?_⟩
  rotate_left
  · go_simp
    rfl
  iterate 2 ((with_reducible refine loose_one (v := ?_) (a' := ?_) ?_ ?_ (fun w' hC' hG' => ?_) ?_ ?_); rotate_left 2; (focus rfl); (focus rfl); (focus (clear hC' hG'; go_simp; rfl)); (focus (go_simp; rfl)))
  refine loose_new (R := NewZ 2 (.int .i64 0) cs.length w.heap.size) (by rfl) (by rfl) (fun w' hC' hG' => ?_) ?_
  · exact ⟨.slice (some ⟨w'.heap.size, 0, none⟩) cs.length cs.length, w'.alloc (.cells (List.replicate cs.length (.int .i64 0)).toArray 2), by (have h1 := HMU.out w'; have h2 := HMI.out w'; clear hC' hG'; first | rfl | (go_simp; rfl) | go_simp), growA _, w'.heap.size, rfl, hC'.size, Row.new w' 2 _ _ rfl⟩
  rintro _ ⟨_, _, b2, rfl, hb2, _⟩
  refine ⟨?_, ?_, ?_⟩
  rotate_left
  · go_simp
    rfl
  iterate 2 ((with_reducible refine loose_one (v := ?_) (a' := ?_) ?_ ?_ (fun w' hC' hG' => ?_) ?_ ?_); rotate_left 2; (focus rfl); (focus rfl); (focus (clear hC' hG'; go_simp; rfl)); (focus (go_simp; rfl)))
  refine loose_done (fun w1 hC' hG' => ?_)
  obtain ⟨b2', hbe2, _, hrow2⟩ := (hG' 5).2 rfl
  obtain ⟨b1', hbe1, _, hrow1⟩ := (hG' 2).1.2 rfl
  have e1 : b1' = b1 := by injection hbe1 with hbe; injection hbe with hbe; injection hbe with hbe; exact hbe.symm
  have e2 : b2' = b2 := by injection hbe2 with hbe; injection hbe with hbe; injection hbe with hbe; exact hbe.symm
  rw [e1] at hrow1
  rw [e2] at hrow2
  have HNE := hidden (show b2 ≠ b1 by
    rintro rfl
    unfold Row at hrow1 hrow2
    rw [hrow1] at hrow2
    injection hrow2 with hrow2
    injection hrow2 with _ h2
    exact absurd h2 (by decide))
  have HR1 := hidden hrow1
  have HR2 := hidden hrow2
  have HG1 := hidden (show Grows w w1 from hC')
  have HB1 := hidden hb1
  have HB2 := hidden hb2
  clear hrow1 hrow2 hC' hG' hbe1 hbe2 hb1 hb2 e1 e2
  go_wp2_with fail
  go_loopw [19] (fun i wr => ECRel w cs b1 b2 i wr) (fun i _ => cs.length - (intOf i).toNat)
  case atStart =>
    refine ⟨0, by omega, rfl, ?_, ?_, HG1.out⟩
    · rw [cutN_zero, ← made_wcells]; exact HR1.out
    · rw [cutN_zero, ← made_ncells]; exact HR2.out
  case round =>
    obtain ⟨j, hj, rfl, hr1, hr2, hb⟩ := hrel
    have HR1 := hidden hr1
    have HR2 := hidden hr2
    have HB := hidden hb
    by_cases hlt : j < cs.length
    · obtain ⟨b, f, rfl, hck⟩ := (HV.out.grow hb).at_ hlt
      have HSET := hidden (cutN_set hlt rfl)
      have hlen : j < (cutN cs j cs.length).length := by rw [cutN_length (by omega) rfl]; exact hlt
      have c1 := hr1.cell j
      rw [wcells_get hlen] at c1
      have f1 := hr1.frozen j
      have hcj := HCS.out _ (List.getElem_mem hlt)
      have HS1 := hidden (hr1.set_ j (.int .u64 (cs[j] : Int)))
      rw [wcells_setD, HSET.out] at HS1
      have hr2' : Row (wr.setCell ⟨b1, j, none⟩ (.int .u64 (cs[j] : Int))) b2 2 (ncells (cutN cs j cs.length)) := hr2.set_otherD HNE.out _
      have c2 := hr2'.cell j
      rw [ncells_get hlen] at c2
      have f2 := hr2'.frozen j
      have HS2 := hidden (hr2'.set_ j (.int .i64 (cs[j] : Int)))
      rw [ncells_set, HSET.out] at HS2
      have HS3 := hidden (Row.set_otherD (p := ⟨b2, j, none⟩) HS1.out (fun e => HNE.out e.symm) (.int .i64 (cs[j] : Int)))
      have HB3 := hidden ((Below.setCell hb (p := ⟨b1, j, none⟩) HB1.out (.int .u64 (cs[j] : Int))).setCell (p := ⟨b2, j, none⟩) HB2.out (.int .i64 (cs[j] : Int)))
      generalize (cutN cs j cs.length)[j] = old at *
      generalize cs[j] = x at *
      clear hr1 hr2 hb hr2' hlen
      go_wp2_with fail
      go_roundw
      case rel => exact ⟨j + 1, by omega, by go_num, HS3.out, HS2.out, HB3.out⟩
      case measure => simp [intOf]; omega
    · have hje : j = cs.length := by omega
      have HR1 := hidden (show Row wr b1 85 (wcells cs) by rw [hje, cutN_all] at hr1; exact hr1)
      have HR2 := hidden (show Row wr b2 2 (ncells cs) by rw [hje, cutN_all] at hr2; exact hr2)
      have HG := hidden (show Grows w wr from hb)
      have HPK := hidden (pack_any (.slice (some ⟨b1, 0, none⟩) cs.length cs.length) cs (m : Int) wr (Reads.of_row HR1.out _ _ (by rw [wcells_length]) (Nat.le_refl _)) (fun x hx => by have := HCS.out x hx; omega) (by omega))
      have HPE := hidden (show packI cs (m : Int) = packL cs m by unfold packI; rw [okB_t (by omega) HW64.out, Int.toNat_natCast]; rfl)
      rw [HPE.out] at HPK
      have HRU := hidden (fun W (h : Grows wr W) => lruns_any (.slice (some ⟨b2, 0, none⟩) cs.length cs.length) (intsL cs) W (show IsI W _ (intsL cs) from (by
        have h2 : Reads wr (.slice (some ⟨b2, 0, none⟩) cs.length cs.length) (ncells cs) := Reads.of_row HR2.out _ _ (by rw [ncells_length]) (Nat.le_refl _)
        have h3 := h2.grow h
        rw [show ncells cs = icells (intsL cs) by simp [ncells, icells, intsL]] at h3
        exact h3)) (by rw [intsL_length]; omega))
      have HRE := hidden (fun W u (hu : ReadsR W u (runsR (intsL cs))) => lencode_any u (runsR (intsL cs)) W hu (runs_inI HCS.out) (runs_cnt cs (by omega)) (by
        have h2 := (runsR_len (intsL cs) (Nat.le_refl _)).2
        rw [List.take_length, intsL_length] at h2
        omega))
      generalize packL cs m = P at *
      generalize encR (runsR (intsL cs)) = E at *
      clear hr1 hr2 hb hje
      go_wp2_with fail
      refine HPK.out.mono ?_
      rintro e w2 ⟨v2, rfl, g2, hby2⟩
      obtain ⟨A2, c2, rfl, _⟩ := id hby2
      have HG2 := hidden (HG.out.of_below g2)
      have HBY2 := hidden hby2
      have HRU2 := hidden (HRU.out w2 g2)
      clear g2 hby2
      go_wp2_with fail
      refine HRU2.out.mono ?_
      rintro e w3 ⟨u3, rfl, g3, hr3⟩
      have HG3 := hidden (HG2.out.of_below g3)
      have HBY3 := hidden (HBY2.out.grow g3)
      have HRE3 := hidden (HRE.out w3 u3 hr3)
      clear g3 hr3
      go_wp2_with fail
      refine HRE3.out.mono ?_
      rintro e w4 ⟨v4, rfl, hown4, g4⟩
      obtain ⟨A4, c4, rfl⟩ := own_sliceB hown4
      have HG4 := hidden (HG3.out.of_below (show Grows w3 w4 from g4))
      have HBY4 := hidden (HBY3.out.grow (show Grows w3 w4 from g4))
      have HE4 := hidden (IsBytes.of_own hown4)
      clear hown4 g4
      by_cases hsh : E.length < P.length
      · have HCB := hidden (show codesB k0 cs = 1 :: E by rw [HCB0.out, if_pos hsh])
        have HPT : Hid (IsParts ((w4.alloc (.cells #[.int .u8 1] 5)).alloc (.cells #[.slice (some ⟨w4.heap.size, 0, none⟩) 1 1, .slice A4 E.length c4] 29)) (.slice (some ⟨w4.heap.size + 1, 0, none⟩) 2 2) [[1], E]) := by
          have h0 : IsBytes (w4.alloc (.cells #[.int .u8 1] 5)) (.slice (some ⟨w4.heap.size, 0, none⟩) ([1] : List UInt8).length 1) [1] := IsBytes.of_row (Row.new w4 5 _ (bcells [1]) rfl) 1 1 rfl
          have h := IsParts.new2 h0 (HE4.out.grow (growA (.cells #[.int .u8 1] 5))) 29
          rw [World.size_alloc] at h
          exact h
        have HCC := hidden (concat_any _ [[1], E] _ HPT.out (by simp [maxLen]) (by have := HRL.out; simp only [total, List.flatten_cons, List.flatten_nil, List.append_nil, List.length_append, List.length_singleton]; omega))
        go_wp2_with fail
        refine HCC.out.mono ?_
        rintro e w9 ⟨v9, rfl, hown9, g9⟩
        have HO9 := hidden hown9
        have HG9 := hidden (Grows.of_below (Grows.of_below (Grows.of_below (show Grows w w4 from HG4.out) (growA _)) (growA _)) (show Grows _ w9 from g9))
        have HSZ9 := hidden (show w.heap.size ≤ ((w4.alloc (.cells #[.int .u8 1] 5)).alloc (.cells #[.slice (some ⟨w4.heap.size, 0, none⟩) 1 1, .slice A4 E.length c4] 29)).heap.size by have := HG4.out.size; simp; omega)
        clear hown9 g9
        go_wp2_with fail
        go_ret
        have h := HO9.out
        simp only [List.flatten_cons, List.flatten_nil, List.append_nil, List.singleton_append] at h
        rw [HCB.out]
        exact ⟨_, rfl, ownsRow_base h HSZ9.out, HG9.out⟩
      · have HCB := hidden (show codesB k0 cs = 0 :: P by rw [HCB0.out, if_neg hsh])
        have HPT : Hid (IsParts ((w4.alloc (.cells #[.int .u8 0] 5)).alloc (.cells #[.slice (some ⟨w4.heap.size, 0, none⟩) 1 1, .slice A2 P.length c2] 29)) (.slice (some ⟨w4.heap.size + 1, 0, none⟩) 2 2) [[0], P]) := by
          have h0 : IsBytes (w4.alloc (.cells #[.int .u8 0] 5)) (.slice (some ⟨w4.heap.size, 0, none⟩) ([0] : List UInt8).length 1) [0] := IsBytes.of_row (Row.new w4 5 _ (bcells [0]) rfl) 1 1 rfl
          have h := IsParts.new2 h0 (HBY4.out.grow (growA (.cells #[.int .u8 0] 5))) 29
          rw [World.size_alloc] at h
          exact h
        have HCC := hidden (concat_any _ [[0], P] _ HPT.out (by simp [maxLen]) (by have := HPL.out; simp only [total, List.flatten_cons, List.flatten_nil, List.append_nil, List.length_append, List.length_singleton]; omega))
        go_wp2_with fail
        refine HCC.out.mono ?_
        rintro e w9 ⟨v9, rfl, hown9, g9⟩
        have HO9 := hidden hown9
        have HG9 := hidden (Grows.of_below (Grows.of_below (Grows.of_below (show Grows w w4 from HG4.out) (growA _)) (growA _)) (show Grows _ w9 from g9))
        have HSZ9 := hidden (show w.heap.size ≤ ((w4.alloc (.cells #[.int .u8 0] 5)).alloc (.cells #[.slice (some ⟨w4.heap.size, 0, none⟩) 1 1, .slice A2 P.length c2] 29)).heap.size by have := HG4.out.size; simp; omega)
        clear hown9 g9
        go_wp2_with fail
        go_ret
        have h := HO9.out
        simp only [List.flatten_cons, List.flatten_nil, List.append_nil, List.singleton_append] at h
        rw [HCB.out]
        exact ⟨_, rfl, ownsRow_base h HSZ9.out, HG9.out⟩
end Go.Proofs.YthmipnokimlbdaaGreat
/-
  Shaken: what the claims of this seat need of this text. No condition.
-/
namespace Go.Proofs.YthmipnokimlbdaaGreat
set_option maxRecDepth 20000
open Go.RowKit
set_option linter.unusedVariables false
set_option linter.unusedSimpArgs false
def RcR (r : List Nat × Int × Int) (w : World) (e : Ending) (w' : World) : Prop := ∃ v, e = .returned (.tuple #[v, .int .i64 r.2.1, .int .i64 r.2.2]) ∧ Grows w w' ∧ IsW w' v r.1
theorem RcR.err {r : List Nat × Int × Int} {w w' : World} {f : Int} (h : r = ([], 0, f)) (hb : Grows w w') : RcR r w (.returned (.tuple #[.slice none 0 0, .int .i64 0, .int .i64 f])) w' := by
  subst h
  exact ⟨_, rfl, hb, Reads.nil_ _ 0⟩
set_option maxRecDepth 20000 in
set_option maxHeartbeats 4000000 in
theorem readPacked_any (A : Option Addr) (c : Nat) (b : List UInt8) (p n m : Nat) (w : World) (hb : IsBytes w (.slice A b.length c) b) (hlc : b.length ≤ c) (hl : b.length ≤ 1000000000) (hp1 : 1 ≤ p) (hp : p ≤ b.length) (hn : n ≤ 65536) (hm : m ≤ 64) :
    Calls Tryz.prog 213 #[.slice A b.length c, .int .i64 (p : Int), .int .i64 (n : Int), .int .i64 (m : Int)] w (RcR (rdP b p n m) w) := by
  have HV := hidden hb
  have HS := hidden (size_any (n : Int) (m : Int) w)
  rw [sizeI_nat (by omega) hm] at HS
  have hsz := szB_le (n := n) (w := m) (by omega) hm
  obtain ⟨bb, ff, rfl⟩ := some_of_bytes hb (by omega)
  obtain ⟨s, hs⟩ : ∃ s, s = szB n m := ⟨_, rfl⟩
  rw [← hs] at HS hsz
  obtain ⟨r, hr⟩ : ∃ r : Nat, r = b.length - p := ⟨_, rfl⟩
  have hr1 : (b.length : Int) - (p : Int) = (r : Int) := by omega
  by_cases h1 : b.length < p + s
  · have HE := hidden (show rdP b p n m = ([], 0, 2) by unfold rdP; rw [if_pos (by rw [← hs]; exact h1)])
    have hd : decide (r < s) = true := by simp; omega
    clear hb hs hr h1
    go_enter Tryz.func213, Tryz.ntmps213
    go_wp2_with fail
    refine HS.out.mono ?_
    rintro e w2 ⟨rfl, rfl⟩
    go_wp2_with fail
    go_ret3
    exact RcR.err HE.out (Below.refl _ _)
  · obtain ⟨E, hE⟩ : ∃ E, E = p + s := ⟨_, rfl⟩
    have hPE : (p : Int) + (s : Int) = (E : Int) := by omega
    have hPL : p ≤ E := by omega
    have hEl : E ≤ b.length := by omega
    have HEN := hidden (show (b.drop p).take (E - p) = cutB b p s by rw [hE, Nat.add_sub_cancel_left]; rfl)
    have hd : decide (r < s) = false := by simp; omega
    have hcl : (cutB b p s).length ≤ 1000000000 := by rw [cutB_length (by omega)]; omega
    have HUN := hidden (fun (A9 : Option Addr) (c9 : Nat) (h9 : IsBytes w (.slice A9 (cutB b p s).length c9) (cutB b p s)) => unpack_any A9 c9 (cutB b p s) (n : Int) (m : Int) w h9 (by omega))
    by_cases h2 : unE (cutB b p s) n m = 0
    · have HE := hidden (show rdP b p n m = (unpI (cutB b p s) n m, ((E : Nat) : Int), 0) by
        unfold rdP
        rw [if_neg (by rw [← hs]; exact h1), ← hs, if_neg (by rw [h2]; simp), hE])
      rw [h2] at HUN
      generalize cutB b p s = cb at *
      generalize unpI cb (n : Int) (m : Int) = U at *
      clear hb hs hr h1 hE h2 hcl
      go_enter Tryz.func213, Tryz.ntmps213
      go_wp2_with fail
      refine HS.out.mono ?_
      rintro e w2 ⟨rfl, rfl⟩
      go_wp2_with (refine wpList_slice_bytes rfl _ _ _ 29 5 rfl Tryz.underlying29 (by kernel_rfl) (by kernel_rfl) bb ff b c rfl HV.out p E rfl rfl hPL hEl hlc ?_; rw [HEN.out]; intro v9 hv9; obtain ⟨A9, c9, rfl, _⟩ := id hv9; have HU9 := hidden (HUN.out A9 c9 hv9); clear hv9)
      refine HU9.out.mono ?_
      rintro e w3 ⟨u3, rfl, g3, hi3⟩
      have HI3 := hidden hi3
      have HG3 := hidden g3
      clear g3 hi3
      go_wp2_with fail
      go_ret3
      exact ⟨_, by rw [HE.out]; rfl, HG3.out, by rw [HE.out]; exact HI3.out⟩
    · have HE := hidden (show rdP b p n m = ([], 0, unE (cutB b p s) n m) by
        unfold rdP
        rw [if_neg (by rw [← hs]; exact h1), ← hs, if_pos h2])
      have hne : (unE (cutB b p s) n m != 0) = true := by simpa using h2
      generalize cutB b p s = cb at *
      generalize unpI cb (n : Int) (m : Int) = U at *
      generalize unE cb (n : Int) (m : Int) = x at *
      clear hb hs hr h1 hE h2 hcl
      go_enter Tryz.func213, Tryz.ntmps213
      go_wp2_with fail
      refine HS.out.mono ?_
      rintro e w2 ⟨rfl, rfl⟩
      go_wp2_with (refine wpList_slice_bytes rfl _ _ _ 29 5 rfl Tryz.underlying29 (by kernel_rfl) (by kernel_rfl) bb ff b c rfl HV.out p E rfl rfl hPL hEl hlc ?_; rw [HEN.out]; intro v9 hv9; obtain ⟨A9, c9, rfl, _⟩ := id hv9; have HU9 := hidden (HUN.out A9 c9 hv9); clear hv9)
      refine HU9.out.mono ?_
      rintro e w3 ⟨u3, rfl, g3, hi3⟩
      have HG3 := hidden g3
      clear g3 hi3
      go_wp2_with fail
      go_ret3
      exact RcR.err HE.out HG3.out
def RRRel (w : World) (us : List Nat) (g : Nat) (i : Value) (wr : World) : Prop :=
  ∃ k : Nat, k ≤ us.length ∧ i = .int .i64 (k : Int) ∧ Row wr g 85 (wcells (cutN us k us.length)) ∧ Grows w wr
theorem u64I_wrap (x : Int) : IntKind.u64.wrap x = (u64I x : Int) := by rw [IntKind.wrap_u64]; unfold u64I; omega
theorem wcells_setE (l : List Nat) (j c : Nat) : (wcells l).set j (.int .u64 (c : Int)) = wcells (l.set j c) := by simp [wcells, List.map_set]
set_option maxRecDepth 20000 in
set_option maxHeartbeats 8000000 in
theorem readRuns_any (A : Option Addr) (c : Nat) (b : List UInt8) (p n : Nat) (w : World) (hb : IsBytes w (.slice A b.length c) b) (hl : b.length ≤ 1000000000) (hp : p ≤ b.length) (hn : n ≤ 65536) :
    Calls Tryz.prog 214 #[.slice A b.length c, .int .i64 (p : Int), .int .i64 (n : Int)] w (RcR (rdR b p n) w) := by
  have HDC := hidden (ldecode_any (.slice A b.length c) b p w hb (by omega) (by omega) (by omega))
  by_cases h1 : (dcR b p).2.2 = 0
  · obtain ⟨o, k, ho, hk, hkl, hv, _, _⟩ := dcR_acc h1
    have hvl := valid_length hv
    obtain ⟨l, q, x, hd⟩ : ∃ l q x, dcR b p = (l, q, x) := ⟨_, _, _, rfl⟩
    rw [hd] at h1 hv hvl hk
    simp only [] at h1 hv hvl hk
    subst h1
    have HEX := hidden (fun u W (hu : ReadsR W u l) => lexpand_any u l W hu (by omega))
    have hxe : expE l = 0 := by unfold expE; rw [if_pos hv]
    have hxl : (expI l).length ≤ 65536 := by unfold expI; rw [if_pos hv]; exact valid_expR hv
    rw [hxe] at HEX
    rw [hd] at HDC
    by_cases h2 : (expI l).length = n
    · have HE := hidden (show rdR b p n = ((expI l).map u64I, q, 0) by unfold rdR; rw [hd, if_neg (by simp), if_neg (by simpa using h2)])
      have hml : ((expI l).map u64I).length = n := by rw [List.length_map]; exact h2
      have HMK := hidden (fun W => run_make_rep (P := Tryz.prog) 52 85 (.int .u64 0) 8 Tryz.underlying52 (by kernel_rfl) rfl n (by omega) (by omega) W)
      generalize expI l = xs at *
      have hd2 : ((xs.length : Int) != (n : Int)) = false := by simp; omega
      obtain ⟨us, hus⟩ : ∃ us, us = xs.map u64I := ⟨_, rfl⟩
      have HUS := hidden hus
      rw [← hus] at HE hml
      have HML := hidden hml
      clear hb hd hv hxe ho hk hkl hus hml
      go_enter Tryz.func214, Tryz.ntmps214
      go_wp2_with fail
      refine HDC.out.mono ?_
      rintro e w2 ⟨u2, rfl, g2, hr2⟩
      have HG2 := hidden g2
      have HEX2 := hidden (HEX.out u2 w2 hr2)
      clear g2 hr2
      go_wp2_with fail
      refine HEX2.out.mono ?_
      rintro e w3 ⟨u3, rfl, g3, hi3⟩
      obtain ⟨A3, c3, rfl⟩ := hi3.slice_
      have HG3 := hidden (HG2.out.of_below g3)
      have HI3 := hidden hi3
      have h2' := h2
      have hmk := HMK.out
      clear g3 hi3
      go_wp2_with fail
      have HH := hidden h2'
      clear h2 h2' hmk
      go_loopw [40] (fun i wr => RRRel w3 us w3.heap.size i wr) (fun i _ => xs.length - (intOf i).toNat)
      case atStart =>
        refine ⟨0, by omega, rfl, ?_, growA _⟩
        rw [cutN_zero, HML.out]
        exact Row.at_ _ _ _ _ (by simp [wcells]) _ rfl
      case round =>
        obtain ⟨j, hj, rfl, hrow, hb⟩ := hrel
        have HB := hidden hb
        have HR := hidden hrow
        rw [HML.out] at hj
        by_cases hlt : j < xs.length
        · have hju : j < us.length := by rw [HML.out, ← HH.out]; exact hlt
          have hjn : j < n := by rw [← HH.out]; exact hlt
          obtain ⟨b3, f3, rfl, hck⟩ := (HI3.out.grow hb).at_ hlt
          have HSET := hidden (cutN_set hju rfl)
          have HUJ := hidden (show us[j] = u64I xs[j] by have := HUS.out; subst this; simp)
          have hlen : j < (cutN us j us.length).length := by rw [cutN_length (by omega) rfl]; exact hju
          have c1 := hrow.cell j
          rw [wcells_get hlen] at c1
          have f1 := hrow.frozen j
          have hwx := u64I_wrap xs[j]
          have HS1 := hidden (hrow.set_ j (.int .u64 (us[j] : Int)))
          rw [wcells_setE, HSET.out, HUJ.out] at HS1
          have HB3 := hidden (Below.setCell hb (p := ⟨w3.heap.size, j, none⟩) (Nat.le_refl _) (.int .u64 (u64I xs[j] : Int)))
          generalize (cutN us j us.length)[j] = old at *
          generalize xs[j] = x at *
          generalize u64I x = ux at *
          clear hrow hb hlen HUJ HSET
          go_wp2_with fail
          go_roundw
          case rel => exact ⟨j + 1, by rw [HML.out]; omega, by go_num, HS1.out, HB3.out⟩
          case measure => simp [intOf]; omega
        · have hje : j = us.length := by rw [HML.out, ← HH.out]; have := HH.out; omega
          have HR2 := hidden (show Row wr w3.heap.size 85 (wcells us) by rw [hje, cutN_all] at hrow; exact hrow)
          have hnj : n ≤ j := by have := HH.out; omega
          clear hrow hb hje hlt
          go_wp2_with fail
          go_ret3
          refine ⟨_, by rw [HE.out]; rfl, HG3.out.of_below HB.out, ?_⟩
          rw [HE.out]
          exact Reads.of_row HR2.out _ _ (by rw [wcells_length, HML.out]) (Nat.le_refl _)
    · have HE := hidden (show rdR b p n = ([], 0, 18) by unfold rdR; rw [hd, if_neg (by simp), if_pos (by simpa using h2)])
      generalize expI l = xs at *
      have hd2 : ((xs.length : Int) != (n : Int)) = true := by simp; omega
      clear hb hd hv hxe ho hk hkl h2
      go_enter Tryz.func214, Tryz.ntmps214
      go_wp2_with fail
      refine HDC.out.mono ?_
      rintro e w2 ⟨u2, rfl, g2, hr2⟩
      have HG2 := hidden g2
      have HEX2 := hidden (HEX.out u2 w2 hr2)
      clear g2 hr2
      go_wp2_with fail
      refine HEX2.out.mono ?_
      rintro e w3 ⟨u3, rfl, g3, hi3⟩
      obtain ⟨A3, c3, rfl⟩ := hi3.slice_
      have HG3 := hidden (HG2.out.of_below g3)
      clear g3 hi3
      go_wp2_with fail
      go_ret3
      exact RcR.err HE.out HG3.out
  · have HE := hidden (show rdR b p n = ([], 0, (dcR b p).2.2) by unfold rdR; rw [if_pos h1])
    have hne : ((dcR b p).2.2 != 0) = true := by simpa using h1
    generalize dcR b p = r at *
    obtain ⟨r1, r2, r3⟩ := r
    simp only [] at hne HDC HE
    clear hb h1
    go_enter Tryz.func214, Tryz.ntmps214
    go_wp2_with fail
    refine HDC.out.mono ?_
    rintro e w2 ⟨u2, rfl, g2, hr2⟩
    have HG2 := hidden g2
    clear g2 hr2
    go_wp2_with fail
    go_ret3
    exact RcR.err HE.out HG2.out
set_option maxRecDepth 20000 in
set_option maxHeartbeats 4000000 in
theorem readCodes_any (A : Option Addr) (c : Nat) (b : List UInt8) (p n k : Nat) (w : World) (hb : IsBytes w (.slice A b.length c) b) (hlc : b.length ≤ c) (hl : b.length ≤ 1000000000) (hp : p ≤ b.length) (hn : n ≤ 65536) (hk : k ≤ 65536) :
    Calls Tryz.prog 171 #[.slice A b.length c, .int .i64 (p : Int), .int .i64 (n : Int), .int .i64 (widW k : Int)] w (RcR (rdC b p n k) w) := by
  have hm := widW_le (k := k) (by omega)
  by_cases h1 : p = b.length
  · have HE := hidden (rdC_end (n := n) (k := k) (b := b) (p := p) (by omega))
    have hd : ((p : Int) == (b.length : Int)) = true := by simp; omega
    generalize widW k = m at *
    clear hb h1
    go_enter Tryz.func171, Tryz.ntmps171
    go_wp2_with fail
    go_ret3
    exact RcR.err HE.out (Below.refl _ _)
  · have hlt : p < b.length := by omega
    have hd : ((p : Int) == (b.length : Int)) = false := by simp; omega
    obtain ⟨P, hP⟩ : ∃ P, P = p + 1 := ⟨_, rfl⟩
    have hP1 : (p : Int) + 1 = (P : Int) := by omega
    have HPK := hidden (readPacked_any A c b P n (widW k) w hb hlc hl (by omega) (by omega) hn hm)
    have HPR := hidden (readRuns_any A c b P n w hb hl (by omega) hn)
    have hby := hb
    obtain ⟨A', c', he, hc⟩ := hby
    injection he with e1 e2 e3
    subst e1
    obtain ⟨bb, ff, rfl, hcell⟩ := hc (by omega)
    have hck := hcell p hlt
    have hbp : b[p]? = some b[p] := List.getElem?_eq_getElem hlt
    generalize b[p] = x at *
    by_cases h0 : x = 0
    · subst h0
      have HE := hidden (rdC_0 (n := n) (k := k) hbp)
      rw [← hP] at HE
      rw [← HE.out] at HPK
      simp only [show ((0 : UInt8).toNat : Int) = 0 from rfl] at hck
      generalize widW k = m at *
      clear hb h1 hP hcell hc hbp e3 e2
      go_enter Tryz.func171, Tryz.ntmps171
      go_wp2_with fail
      refine HPK.out.mono ?_
      rintro e w2 ⟨u2, rfl, g2, hi2⟩
      have HG2 := hidden g2
      have HI2 := hidden hi2
      clear g2 hi2
      go_wp2_with fail
      go_ret3
      exact ⟨_, rfl, HG2.out, HI2.out⟩
    · by_cases h01 : x = 1
      · subst h01
        have HE := hidden (rdC_1 (n := n) (k := k) hbp)
        rw [← hP] at HE
        rw [← HE.out] at HPR
        simp only [show ((1 : UInt8).toNat : Int) = 1 from rfl] at hck
        generalize widW k = m at *
        clear hb h1 hP hcell hc hbp e3 e2 h0
        go_enter Tryz.func171, Tryz.ntmps171
        go_wp2_with fail
        refine HPR.out.mono ?_
        rintro e w2 ⟨u2, rfl, g2, hi2⟩
        have HG2 := hidden g2
        have HI2 := hidden hi2
        clear g2 hi2
        go_wp2_with fail
        go_ret3
        exact ⟨_, rfl, HG2.out, HI2.out⟩
      · have HE := hidden (rdC_x (n := n) (k := k) hbp h0 h01)
        have hx0 : ((x.toNat : Int) == 0) = false := by
          simp only [beq_eq_false_iff_ne]
          intro h
          exact h0 (UInt8.toNat_inj.1 (by simpa using h))
        have hx1 : ((x.toNat : Int) == 1) = false := by
          simp only [beq_eq_false_iff_ne]
          intro h
          exact h01 (UInt8.toNat_inj.1 (by have : x.toNat = 1 := by omega
                                           simpa using this))
        generalize (x.toNat : Int) = xi at *
        generalize widW k = m at *
        clear hb h1 hP hcell hc hbp e3 e2 h0 h01
        go_enter Tryz.func171, Tryz.ntmps171
        go_wp2_with fail
        go_ret3
        exact RcR.err HE.out (Below.refl _ _)
end Go.Proofs.YthmipnokimlbdaaGreat
/-
  Shaken: what the claims of this seat need of this text. No condition.
-/
namespace Go.Proofs.YthmipnokimlbdaaGreat
set_option maxRecDepth 20000
open Go.RowKit
set_option linter.unusedVariables false
set_option linter.unusedSimpArgs false
set_option maxRecDepth 20000 in
set_option maxHeartbeats 4000000 in
theorem encode10_any (v : Value) (vs : List Str) (w : World) (hv : IsS w v vs) (hl : vs.length ≤ 1000000) (hs : ∀ s ∈ vs, s.length ≤ 1000000) :
    Calls Tryz.prog 98 #[v] w (Made (encT vs) w) := by
  have HBU := hidden (build10_any v vs w hv hl (fun s h => by have := hs s h; unfold maxLen; omega))
  obtain ⟨A, c, rfl⟩ := hv.slice_
  have hwl := wordsOf_length vs
  have HWS := hidden (fun s (h : s ∈ wordsOf vs) => hs s (mem_wordsOf.1 h))
  have HCB := hidden (show ∀ x ∈ codesW (wordsOf vs) vs, x ≤ 4611686018427387903 from fun x hx => by
    obtain ⟨s, hs1, rfl⟩ := List.mem_map.1 hx
    have := codeW_lt (mem_wordsOf.2 hs1)
    omega)
  have HCL := hidden (show (codesW (wordsOf vs) vs).length ≤ 1000000 by simp [codesW]; exact hl)
  have HET := hidden (show [bytesW (wordsOf vs), codesB (wordsOf vs).length (codesW (wordsOf vs) vs)].flatten = encT vs by simp [encT])
  have HEL := hidden (encT_len hl hs)
  generalize encT vs = E at *
  generalize hcs : codesW (wordsOf vs) vs = cs at *
  generalize hws : wordsOf vs = ws at *
  have HCS := hidden hcs
  have HWW := hidden hws
  clear hv hs hcs hws
  go_enter Tryz.func98, Tryz.ntmps98
  go_wp2_with fail
  refine HBU.out.mono ?_
  rintro e w1 ⟨v1, c1, rfl, g1, hS, hN⟩
  rw [HWW.out] at hS hN
  rw [HCS.out] at hN
  have HG1 := hidden g1
  have HN := hidden hN
  have HEW := hidden (encodeWords_any v1 ws w1 hS (by omega) HWS.out)
  obtain ⟨A1, d1, rfl⟩ := hS.slice_
  clear hS hN g1
  go_wp2_with fail
  refine HEW.out.mono ?_
  rintro e w2 ⟨v2, rfl, hown2, g2⟩
  have HG2 := hidden (HG1.out.of_below (show Grows w1 w2 from g2))
  have HB2 := hidden (IsBytes.of_own hown2)
  have HN2 := hidden (HN.out.grow (show Grows w1 w2 from g2))
  have HCW := hidden (codeWidth_any ws.length w2 (by omega))
  obtain ⟨A2, d2, rfl⟩ := own_sliceB hown2
  clear hown2 g2
  go_wp2_with fail
  refine HCW.out.mono ?_
  rintro e w3 ⟨rfl, rfl⟩
  have HEC := hidden (encodeCodes_any c1 cs ws.length w2 HN2.out HCL.out (by omega) HCB.out)
  go_wp2_with fail
  refine HEC.out.mono ?_
  rintro e w4 ⟨v4, rfl, hown4, g4⟩
  have HG4 := hidden (HG2.out.of_below (show Grows w2 w4 from g4))
  have HB4 := hidden (HB2.out.grow (show Grows w2 w4 from g4))
  have HC4 := hidden (IsBytes.of_own hown4)
  obtain ⟨A4, d4, rfl⟩ := own_sliceB hown4
  clear hown4 g4
  generalize bytesW ws = bw at *
  generalize codesB ws.length cs = cb at *
  have HCC := hidden (concat_any _ [bw, cb] _ (IsParts.new2 HB4.out HC4.out 29) (by simp [maxLen]) (by unfold total; rw [HET.out]; have := HEL.out; omega))
  go_wp2_with fail
  refine HCC.out.mono ?_
  rintro e w5 ⟨v5, rfl, hown5, g5⟩
  have HO5 := hidden hown5
  have HG5 := hidden (Grows.of_below (HG4.out.of_below (growA _)) (show Grows _ w5 from g5))
  have HSZ := hidden (show w.heap.size ≤ (w4.alloc (.cells #[.slice A2 bw.length d2, .slice A4 cb.length d4] 29)).heap.size by have := HG4.out.size; simp; omega)
  clear hown5 g5
  go_wp2_with fail
  go_ret
  have h := HO5.out
  rw [HET.out] at h
  exact ⟨_, rfl, ownsRow_base h HSZ.out, HG5.out⟩
set_option maxHeartbeats 1000000 in
theorem size10_any (v : Value) (vs : List Str) (w : World) (hv : IsS w v vs) (hl : vs.length ≤ 1000000) (hs : ∀ s ∈ vs, s.length ≤ 1000000) :
    Calls Tryz.prog 99 #[v] w fun e w' => e = .returned (.int .i64 ((encT vs).length : Int)) ∧ Grows w w' := by
  have HE := hidden (encode10_any v vs w hv hl hs)
  generalize encT vs = E at *
  clear hv hs
  go_enter Tryz.func99, Tryz.ntmps99
  go_wp2_with fail
  refine HE.out.mono ?_
  rintro e w2 ⟨v2, rfl, hown2, g2⟩
  have HG2 := hidden (show Grows w w2 from g2)
  obtain ⟨A2, d2, rfl⟩ := own_sliceB hown2
  clear hown2 g2
  go_wp2_with fail
  go_ret
  exact ⟨rfl, HG2.out⟩
end Go.Proofs.YthmipnokimlbdaaGreat
/-
  Shaken: what the claims of this seat need of this text. No condition.
-/
namespace Go.Proofs.YthmipnokimlbdaaGreat
set_option maxRecDepth 20000
open Go.RowKit
set_option linter.unusedVariables false
set_option linter.unusedSimpArgs false
theorem cut_runDcD3 (A : Option Addr) (c : Nat) (b : List UInt8) {O Q : Nat} (hOQ : O ≤ Q) (hQb : Q ≤ b.length) (hlc : b.length ≤ c) (hl : b.length ≤ 1000000000) :
    ∃ AO, (∀ w', IsBytes w' (.slice A b.length c) b → IsBytes w' (.slice AO (Q - O) (c - O)) (cutB b O (Q - O))) ∧
      ∀ w', (Instr.sliceAt 29 (.slice A b.length c) (some (.int .i64 (O : Int))) (some (.int .i64 (Q : Int))) none).run Tryz.prog w' = .ok (.slice AO (Q - O) (c - O)) w' := by
  refine ⟨if c = O then A else Option.map (fun x => x.add O) A, fun w' hv => slice_reads2 hv (o := O) (p := Q) hOQ hQb hlc, fun w' => ?_⟩
  have ht : Tryz.prog.underlying 29 = some (.slice (Tryz.prog.elem 29)) := by kernel_rfl
  have hs1 : (sizeOf (Tryz.prog.elem 29)).run Tryz.prog w' = .ok 1 w' := by
    have hi : (Tryz.prog.info? (Tryz.prog.elem 29)).map (·.size) = some 1 := by kernel_rfl
    cases h : Tryz.prog.info? (Tryz.prog.elem 29) with
    | none => rw [h] at hi; cases hi
    | some y =>
      rw [h] at hi
      have h1 : y.size = 1 := by simpa using hi
      simp [sizeOf, typeInfo, h, h1]
  rw [run_sliceAt_slice (P := Tryz.prog) (w := w') 29 (.slice A b.length c) (some (.int .i64 (O : Int))) (some (.int .i64 (Q : Int))) none ht]
  have h := run_slice_lh (P := Tryz.prog) (w := w') 29 A b.length c ht .i64 .i64 (O : Int) (Q : Int) (by omega) (by omega) (by omega)
  rw [h, hs1]
  simp only [Result.andThen_ok, sliced, Int.toNat_natCast, Nat.mul_one]
theorem cutS_zero (l : List Str) (n : Nat) : cutS l 0 n = List.replicate n [] := by simp [cutS]
theorem cutS_all (l : List Str) : cutS l l.length l.length = l := by simp [cutS]
theorem cutS_length {l : List Str} {k n : Nat} (h : k ≤ l.length) (hn : n = l.length) : (cutS l k n).length = n := by simp [cutS]; omega
theorem cutS_set {l : List Str} {k n : Nat} (h : k < l.length) (hn : n = l.length) : (cutS l k n).set k l[k] = cutS l (k + 1) n := by
  subst hn
  unfold cutS
  have e : List.replicate (l.length - k) ([] : Str) = [] :: List.replicate (l.length - (k + 1)) [] := by
    rw [show l.length - k = (l.length - (k + 1)) + 1 by omega, List.replicate_succ]
  rw [e, List.take_succ_eq_append_getElem h, List.append_assoc]
  have hl : (l.take k).length = k := by rw [List.length_take]; omega
  rw [List.set_append_right _ _ (by omega), hl, Nat.sub_self]
  rfl
def DTRel (w : World) (cs : List Nat) (vs : List Str) (k0 g : Nat) (i : Value) (wr : World) : Prop :=
  ∃ k : Nat, k ≤ cs.length ∧ i = .int .i64 (k : Int) ∧ (∀ j, (h : j < cs.length) → j < k → cs[j] < k0) ∧ Row wr g 9 (scells (cutS vs k vs.length)) ∧ Grows w wr
theorem over_true {cs : List Nat} {k j : Nat} (h : j < cs.length) (h2 : k ≤ cs[j]) : overC cs k = true := by
  unfold overC
  rw [List.any_eq_true]
  exact ⟨cs[j], List.getElem_mem h, by simpa using h2⟩
theorem over_false {cs : List Nat} {k : Nat} (h : ∀ j, (hj : j < cs.length) → cs[j] < k) : overC cs k = false := by
  unfold overC
  rw [List.any_eq_false]
  intro x hx
  obtain ⟨j, hj, rfl⟩ := List.getElem_of_mem hx
  have := h j hj
  simp; omega
theorem pick_len {ws : List Str} {cs : List Nat} (h : ∀ s ∈ ws, s.length ≤ 4096) : ∀ s ∈ pickS ws cs, s.length ≤ 4096 := by
  intro s hs
  obtain ⟨c, _, rfl⟩ := List.mem_map.1 hs
  rcases Nat.lt_or_ge c ws.length with hc | hc
  · rw [List.getD_eq_getElem?_getD, List.getElem?_eq_getElem hc]; exact h _ (List.getElem_mem hc)
  · rw [List.getD_eq_getElem?_getD, List.getElem?_eq_none hc]; simp
set_option maxRecDepth 20000 in
set_option maxHeartbeats 16000000 in
theorem dec10_any (A : Option Addr) (c : Nat) (b : List UInt8) (off n : Int) (w : World) (hb : IsBytes w (.slice A b.length c) b) (hlc : b.length ≤ c) (hl : b.length ≤ 1000000000) (h63 : -9223372036854775808 ≤ off) (h64 : off ≤ 9223372036854775807) :
    Calls Tryz.prog 100 #[.slice A b.length c, .int .i64 off, .int .i64 n] w (RsR (decT b off n) w) := by
  have HV := hidden hb
  by_cases hn0 : n < 0
  · have HE := hidden (decT_a (b := b) (off := off) (n := n) (.inl hn0))
    have hd : decide (n < 0) = true := by simpa using hn0
    clear hb hn0
    go_enter Tryz.func100, Tryz.ntmps100
    go_wp2_with fail
    go_ret3
    exact RsR.err HE.out (Below.refl _ _)
  obtain ⟨N, rfl⟩ := Int.eq_ofNat_of_zero_le (show 0 ≤ n by omega)
  clear hn0
  by_cases hn1 : 65536 < N
  · have HE := hidden (decT_a (b := b) (off := off) (n := (N : Int)) (.inr (.inl (by omega))))
    have hd : decide ((65536 : Int) < (N : Int)) = true := by simp; omega
    clear hb
    go_enter Tryz.func100, Tryz.ntmps100
    go_wp2_with fail
    go_ret3
    exact RsR.err HE.out (Below.refl _ _)
  have hN : N ≤ 65536 := by omega
  have hd0 : decide ((65536 : Int) < (N : Int)) = false := by simp; omega
  have HRW := hidden (readWords_any A c b off N w hb hlc hl h63 h64 hN)
  clear hn1
  by_cases h1 : (rdD b off N).2.2 = 0
  · obtain ⟨o, rfl⟩ : ∃ o : Nat, off = (o : Int) := by
      rcases Int.lt_or_le off 0 with h | h
      · rw [rdD_e (by rw [dcd_bad (.inl h)]; decide), dcd_bad (.inl h)] at h1; cases h1
      · exact Int.eq_ofNat_of_zero_le h
    have ho : o ≤ b.length := by
      rcases Nat.lt_or_ge b.length o with h | h
      · have h' : (o : Int) < 0 ∨ (b.length : Int) < (o : Int) := .inr (by omega)
        rw [rdD_e (by rw [dcd_bad h']; decide), dcd_bad h'] at h1; cases h1
      · exact h
    obtain ⟨q, hq, hoq, hqb, hwn, hwl⟩ := rdD_acc ho h1
    obtain ⟨ws, q', x, hd⟩ : ∃ ws q' x, rdD b o N = (ws, q', x) := ⟨_, _, _, rfl⟩
    rw [hd] at HRW h1 hq hwn hwl
    simp only [] at h1 hq hwn hwl
    subst h1 hq
    have HRC := hidden (fun (W : World) (hW : Grows w W) => readCodes_any A c b q N ws.length W (hb.grow hW) hlc hl hqb hN (by omega))
    have HCW := hidden (fun W => codeWidth_any ws.length W (by omega))
    generalize widW ws.length = m at *
    by_cases h2 : (rdC b q N ws.length).2.2 = 0
    · obtain ⟨r, hr, hqr, hrb, hcl, hcs⟩ := rdC_acc (by omega) (by omega) h2
      obtain ⟨cs, r', x, hd2⟩ : ∃ cs r' x, rdC b q N ws.length = (cs, r', x) := ⟨_, _, _, rfl⟩
      rw [hd2] at HRC h2 hr hcl hcs
      simp only [] at h2 hr hcl hcs
      subst h2 hr
      have HDT := hidden (decT_n ho hN hd hd2)
      have HWL := hidden hwl
      have HCS := hidden hcs
      have HCL := hidden hcl
      obtain ⟨vs, hvs⟩ : ∃ vs, vs = pickS ws cs := ⟨_, rfl⟩
      have HVS := hidden hvs
      have HVL := hidden (show vs.length = N by rw [hvs]; unfold pickS; rw [List.length_map]; exact hcl)
      have HVX := hidden (show ∀ s ∈ vs, s.length ≤ 4096 from hvs ▸ pick_len hwl)
      have HMK := hidden (fun W => run_make_rep (P := Tryz.prog) 23 9 (.string ⟨#[]⟩) 16 Tryz.underlying23 info_strD rfl N (by omega) (by omega) W)
      have hor : o ≤ r := by omega
      clear hb hd hd2 hcs hwl hvs
      go_enter Tryz.func100, Tryz.ntmps100
      go_wp2_with fail
      refine HRW.out.mono ?_
      rintro e w1 ⟨v1, rfl, g1, hS1⟩
      have HG1 := hidden g1
      have HS1 := hidden (show IsS w1 v1 ws from hS1)
      have HRC1 := hidden (HRC.out w1 g1)
      obtain ⟨A1, c1, rfl⟩ := HS1.out.slice_
      clear g1 hS1
      go_wp2_with fail
      refine (HCW.out _).mono ?_
      rintro e w2 ⟨rfl, rfl⟩
      go_wp2_with fail
      refine HRC1.out.mono ?_
      rintro e w3 ⟨v3, rfl, g3, hI3⟩
      have HG3 := hidden (HG1.out.of_below g3)
      have HI3 := hidden (show IsW w3 v3 cs from hI3)
      have HS3 := hidden (HS1.out.grow g3)
      obtain ⟨A3, c3, rfl⟩ := HI3.out.slice_
      clear g3 hI3
      have hmk := HMK.out
      have hcl2 := HCL.out
      clear hcl
      generalize hK : cs.length = K at *
      have HK := hidden hK
      clear hK
      have HKN := hidden hcl2
      clear hcl2
      go_wp2_with fail
      clear hmk
      obtain ⟨g, hg⟩ : ∃ g, g = w3.heap.size := ⟨_, rfl⟩
      have HGG := hidden hg
      go_loopw [51] (fun i wr => DTRel w3 cs vs ws.length w3.heap.size i wr) (fun i _ => K - (intOf i).toNat)
      case atStart =>
        refine ⟨0, by omega, rfl, fun j _ h => by omega, ?_, growA _⟩
        rw [cutS_zero, HVL.out]
        exact Row.at_ _ _ _ _ (by simp [scells, strOf]) _ rfl
      case round =>
        obtain ⟨j, hj, rfl, hno, hrow, hbw⟩ := hrel
        have HB := hidden hbw
        have HR := hidden hrow
        have HNO := hidden hno
        rw [HK.out] at hj
        clear hg hno
        by_cases hlt : j < K
        · have hjc : j < cs.length := by rw [HK.out]; exact hlt
          have hjn : j < N := by rw [← HKN.out]; exact hlt
          have hjv : j < vs.length := by rw [HVL.out]; exact hjn
          obtain ⟨b3, f3, rfl, hck⟩ := (HI3.out.grow hbw).at_ hjc
          have hxc := HCS.out _ (List.getElem_mem hjc)
          have HVJ := hidden (show vs[j] = ws.getD cs[j] [] by have := HVS.out; subst this; simp [pickS])
          have HOV := hidden (fun h => over_true (k := ws.length) hjc h)
          obtain ⟨x, hx⟩ : ∃ x, x = cs[j] := ⟨_, rfl⟩
          have HX := hidden hx
          rw [← hx] at hck hxc HVJ HOV
          clear hx
          by_cases hov : x < ws.length
          · obtain ⟨b1, f1, rfl, hwx⟩ := (HS3.out.grow hbw).at_ hov
            have HSET := hidden (cutS_set hjv rfl)
            have hlen : j < (cutS vs j vs.length).length := by rw [cutS_length (by omega) rfl]; exact hjv
            have k1 := hrow.cell j
            rw [scells_get hlen] at k1
            have k2 := hrow.frozen j
            have HVW := hidden (show vs[j] = ws[x] by rw [HVJ.out, List.getD_eq_getElem?_getD, List.getElem?_eq_getElem hov]; rfl)
            have HS9 := hidden (hrow.set_ j (.string (strOf vs[j])))
            rw [scells_set, HSET.out, HVW.out] at HS9
            have HB9 := hidden (Below.setCell hbw (p := ⟨w3.heap.size, j, none⟩) (Nat.le_refl _) (.string (strOf ws[x])))
            have hd5 : decide (ws.length ≤ x) = false := by simp; omega
            generalize (cutS vs j vs.length)[j] = old at *
            have HOVX := hidden hov
            generalize ws[x] = t at *
            clear hrow hbw hlen HSET HVW HVJ
            go_wp2_with fail
            go_roundw
            case rel =>
              refine ⟨j + 1, by rw [HK.out]; omega, by go_num, fun i hi hij => ?_, HS9.out, HB9.out⟩
              rcases Nat.lt_or_ge i j with h | h
              · exact HNO.out i hi h
              · have e1 : i = j := by omega
                subst e1
                rw [← HX.out]; exact HOVX.out
            case measure => simp [intOf]; omega
          · have HEE := hidden (show decT b o N = ([], 0, 6) by rw [HDT.out]; unfold endT; rw [if_pos (HOV.out (by omega))])
            have hd5 : decide (ws.length ≤ x) = true := by simp; omega
            clear hrow hbw
            go_wp2_with fail
            go_ret3
            exact RsR.err HEE.out (HG3.out.of_below HB.out)
        · have hje : j = K := by omega
          have hnk : K ≤ j := by omega
          have HR2 := hidden (show Row wr w3.heap.size 9 (scells vs) by
            have h := hrow
            rw [hje, HKN.out, ← HVL.out, cutS_all] at h
            exact h)
          have HOF := hidden (over_false (k := ws.length) fun i hi => HNO.out i hi (by have := HK.out; omega))
          have HIV := hidden (show IsS wr (.slice (some ⟨w3.heap.size, 0, none⟩) N N) vs from Reads.of_row HR2.out N N (by rw [scells_length, HVL.out]) (Nat.le_refl _))
          have HEN := hidden (fun w' (h : Grows wr w') => encode10_any (.slice (some ⟨w3.heap.size, 0, none⟩) N N) vs w' (HIV.out.grow h) (by rw [HVL.out]; omega) (fun s hs => by have := HVX.out s hs; omega))
          have HGW := hidden (HG3.out.of_below HB.out)
          obtain ⟨AO, hAO, hsa⟩ := cut_runDcD3 A c b (O := o) (Q := r) hor hrb hlc hl
          obtain ⟨wt, hwt⟩ : ∃ wt, wt = encT vs := ⟨_, rfl⟩
          obtain ⟨gt, hgt⟩ : ∃ gt, gt = cutB b o (r - o) := ⟨_, rfl⟩
          rw [← hwt] at HEN
          rw [← hgt] at hAO
          have HEQ := hidden (fun u1 w' hu (h : Grows wr w') => bytesEqual_any u1 (.slice AO (r - o) (c - o)) wt gt w' hu (hAO w' (HV.out.grow (Grows.of_below HGW.out h))))
          obtain ⟨bq, hbq⟩ : ∃ bq, bq = decide (wt = gt) := ⟨_, rfl⟩
          rw [← hbq] at HEQ
          have HEE := hidden (show decT b o N = if bq then (vs, (r : Int), 0) else ([], 0, 4) by
            rw [HDT.out]
            unfold endT
            rw [HOF.out, if_neg (by simp), ← HVS.out, ← hwt, ← hgt, hbq]
            simp)
          clear hwt hgt hAO hbq hrow hbw hje hlt
          generalize w3.heap.size = g at *
          go_wp2_with fail
          refine wp_region_loose (tabRs [(1, BytesV wt), (6, ConstV (.bool bq))]) (by kernel_rfl) (by kernel_rfl) (tabRs_cons BytesV.lasts (tabRs_cons ConstV.lasts tabRs_nil)) ?_
          iterate 1 ((with_reducible refine loose_one (v := ?_) (a' := ?_) ?_ ?_ (fun w' hC' hG' => ?_) ?_ ?_); rotate_left 2; (focus rfl); (focus rfl); (focus (clear hC' hG'; go_simp; rfl)); (focus (go_simp; rfl)))
          refine loose_call (R := BytesV wt) (f := 98) (args := #[.slice (some ⟨g, 0, none⟩) N N]) (by rfl) (by rfl) (fun _ => by go_simp) (fun w' hC' hG' => made_loose (HEN.out w' hC')) ?_
          intro u1 hu1
          refine ⟨?_, ?_, ?_⟩
          rotate_left
          · go_simp
            rfl
          iterate 4 ((with_reducible refine loose_one (v := ?_) (a' := ?_) ?_ ?_ (fun w' hC' hG' => ?_) ?_ ?_); rotate_left 2; (focus rfl); (focus rfl); (focus (clear hC' hG'; go_simp; rfl)); (focus (go_simp; rfl)))
          refine loose_call (R := ConstV (.bool bq)) (f := 155) (args := #[u1, .slice AO (r - o) (c - o)]) (by rfl) (by rfl) (fun _ => by go_simp) (fun w' hC' hG' => const_loose0 (HEQ.out u1 w' ((hG' 1 (by kernel_rfl)).2 rfl) hC')) ?_
          rintro _ ⟨_, _, rfl⟩
          refine ⟨?_, ?_, ?_⟩
          rotate_left
          · go_simp
            rfl
          iterate 1 ((with_reducible refine loose_one (v := ?_) (a' := ?_) ?_ ?_ (fun w' hC' hG' => ?_) ?_ ?_); rotate_left 2; (focus rfl); (focus rfl); (focus (clear hC' hG'; go_simp; rfl)); (focus (go_simp; rfl)))
          refine loose_done (fun w12 hC' hG' => ?_)
          clear hG'
          have HB12 := hidden (Grows.of_below HGW.out hC')
          have HI12 := hidden (HIV.out.grow hC')
          clear hC'
          cases bq
          rotate_left
          · have HE9 := hidden (show decT b o N = (vs, (r : Int), 0) from HEE.out)
            go_wp2_with fail
            go_ret3
            exact ⟨_, by rw [HE9.out]; rfl, HB12.out, by rw [HE9.out]; exact HI12.out⟩
          · have HE9 := hidden (show decT b o N = ([], 0, 4) from HEE.out)
            go_wp2_with fail
            go_ret3
            exact RsR.err HE9.out HB12.out
    · have HE := hidden (decT_c ho hN hd h2)
      have hne : ((rdC b q N ws.length).2.2 != 0) = true := by simpa using h2
      generalize rdC b q N ws.length = R at *
      obtain ⟨r1, r2, r3⟩ := R
      simp only [] at hne HRC HE
      clear hb hd h2 hwl
      go_enter Tryz.func100, Tryz.ntmps100
      go_wp2_with fail
      refine HRW.out.mono ?_
      rintro e w1 ⟨v1, rfl, g1, hS1⟩
      have HG1 := hidden g1
      have HS1 := hidden (show IsS w1 v1 ws from hS1)
      have HRC1 := hidden (HRC.out w1 g1)
      obtain ⟨A1, c1, rfl⟩ := HS1.out.slice_
      clear g1 hS1
      go_wp2_with fail
      refine (HCW.out _).mono ?_
      rintro e w2 ⟨rfl, rfl⟩
      go_wp2_with fail
      refine HRC1.out.mono ?_
      rintro e w3 ⟨v3, rfl, g3, hI3⟩
      have HG3 := hidden (HG1.out.of_below g3)
      clear g3 hI3
      go_wp2_with fail
      go_ret3
      exact RsR.err HE.out HG3.out
  · have HE := hidden (show decT b off N = ([], 0, (rdD b off N).2.2) by
      by_cases ho : off < 0 ∨ (b.length : Int) < off
      · rw [decT_a (.inr (.inr ho)), rdD_e (by rw [dcd_bad ho]; decide), dcd_bad ho]
      · exact decT_d (by omega) h1)
    have hne : ((rdD b off N).2.2 != 0) = true := by simpa using h1
    generalize rdD b off N = R at *
    obtain ⟨r1, r2, r3⟩ := R
    simp only [] at hne HRW HE
    clear hb h1
    go_enter Tryz.func100, Tryz.ntmps100
    go_wp2_with fail
    refine HRW.out.mono ?_
    rintro e w1 ⟨v1, rfl, g1, hS1⟩
    have HG1 := hidden g1
    clear g1 hS1
    go_wp2_with fail
    go_ret3
    exact RsR.err HE.out HG1.out
end Go.Proofs.YthmipnokimlbdaaGreat
/-
  Shaken: what the claims of this seat need of this text. No condition.
-/
namespace Go.Proofs.YthmipnokimlbdaaGreat
set_option maxRecDepth 8000
open Go.RowKit
set_option linter.unusedVariables false
set_option linter.unusedSimpArgs false
structure Vec where
  T : Int
  is : List Int
  ts : List Str
  ns : List Bool
def zeroV : Vec := ⟨0, [], [], []⟩
def toU (x : Int) : Nat := (IntKind.u64.wrap x).toNat
def toI (n : Nat) : Int := IntKind.i64.wrap (n : Int)
theorem toU_lt (x : Int) : toU x < 18446744073709551616 := by unfold toU; simp only [IntKind.wrap, IntKind.bits, IntKind.signed]; simp; omega
theorem toU_cast (x : Int) : ((toU x : Nat) : Int) = IntKind.u64.wrap x := by unfold toU; simp only [IntKind.wrap, IntKind.bits, IntKind.signed]; simp; omega
theorem toI_in (n : Nat) : frIn (toI n) := by unfold toI frIn; simp only [IntKind.wrap, IntKind.bits, IntKind.signed]; simp; omega
theorem toI_toU {x : Int} (h : frIn x) : toI (toU x) = x := by
  unfold toI
  rw [toU_cast]
  unfold frIn at h
  simp only [IntKind.wrap, IntKind.bits, IntKind.signed]; simp; omega
theorem toU_toI {n : Nat} (h : n < 18446744073709551616) : toU (toI n) = n := by
  unfold toU toI
  simp only [IntKind.wrap, IntKind.bits, IntKind.signed]; simp; omega
def apl (k : Nat) (T : Int) : Bool := if T = 1 ∨ T = 2 then decide (k ≤ 3) else if T = 3 then decide (k = 0 ∨ k = 4 ∨ k = 5) else false
def badBool (x : Int) : Bool := decide (x ≠ 0) && decide (x ≠ 1)
def tooLong (s : Str) : Bool := decide (4096 < s.length)
def chk (v : Vec) : Int := if v.T = 1 ∧ v.is.any badBool = true then 4 else if v.ts.any tooLong = true then 3 else 0
def okT (T : Int) : Bool := decide (1 ≤ T) && decide (T ≤ 3)
def okV (v : Vec) : Bool :=
  if v.T = 3 then decide (v.ts.length ≤ 65536) && decide (v.is.length = 0) && decide (v.ns.length = v.ts.length) && !v.ns.any id && decide (chk v = 0)
  else okT v.T && decide (v.is.length ≤ 65536) && decide (v.ts.length = 0) && decide (v.ns.length = v.is.length) && !v.ns.any id && decide (chk v = 0)
def plI (l : List Int) : List UInt8 := (l.map fun x => fixb (toU x) 8).flatten
def plB (l : List Int) : List UInt8 := packL (l.map toU) 1
def payI (k : Nat) (T : Int) (l : List Int) : List UInt8 := if k = 0 then (if T = 1 then plB l else plI l) else if k = 1 then encR (runsR l) else if k = 2 then encV l else dlEnc l
def payT (k : Nat) (l : List Str) : List UInt8 := if k = 0 then wordsL l else if k = 4 then encT l else fcEnc l
def pay (k : Nat) (v : Vec) : List UInt8 := if v.T = 3 then payT k v.ts else payI k v.T v.is
def formE (k : Nat) (v : Vec) : List UInt8 := UInt8.ofNat k :: pay k v
def encFV (v : Vec) (k : Int) : List UInt8 × Int := if okV v = false ∨ k < 0 ∨ 6 ≤ k then ([], 1) else if apl k.toNat v.T = false then ([], 7) else (formE k.toNat v, 0)
def cost (v : Vec) (k : Nat) : Int := if okV v = true ∧ apl k v.T = true then 1 + ((pay k v).length : Int) else -1
def bestE (c : Nat → Int) : Nat → Nat
  | 0 => 0
  | k + 1 => if c (k + 1) ≠ -1 ∧ c (k + 1) < c (bestE c k) then k + 1 else bestE c k
def chooseV (v : Vec) : Nat := bestE (cost v) 5
theorem bestE_min {c : Nat → Int} : ∀ k j, j ≤ k → c j ≠ -1 → c (bestE c k) ≤ c j
  | 0, j, hj, _ => by have : j = 0 := by omega
                      subst this; exact Int.le_refl _
  | k + 1, j, hj, h => by
    rw [bestE]
    by_cases hk : j = k + 1
    · subst hk
      split
      · exact Int.le_refl _
      · rename_i hn
        by_cases hlt : c (k + 1) < c (bestE c k)
        · exact absurd ⟨h, hlt⟩ hn
        · omega
    · have ih := bestE_min (c := c) k j (by omega) h
      split
      · rename_i hs; omega
      · exact ih
def pdI (b : List UInt8) (o n : Nat) : List Int × Int × Int :=
  if o + 8 * n ≤ b.length then ((List.range n).map fun j => toI (le ((b.drop (o + 8 * j)).take 8)), ((o + 8 * n : Nat) : Int), 0) else ([], 0, 2)
def pdB (b : List UInt8) (o n : Nat) : List Int × Int × Int :=
  if o + szB n 1 ≤ b.length then (if badB (cutB b o (szB n 1)) n 1 = true then ([], 0, 4) else ((unpL (cutB b o (szB n 1)) n 1).map toI, ((o + szB n 1 : Nat) : Int), 0)) else ([], 0, 2)
def pdTs (b : List UInt8) : Nat → List Str → Int → List Str × Int × Int
  | 0, ws, p => (ws, p, 0)
  | n + 1, ws, p => if (rdW b p).2.2 ≠ 0 then ([], 0, (rdW b p).2.2) else pdTs b n (ws ++ [(rdW b p).1]) (rdW b p).2.1
def drR (b : List UInt8) (o n : Int) : List Int × Int × Int :=
  if (dcR b o).2.2 ≠ 0 then ([], 0, (dcR b o).2.2) else if ((expR (dcR b o).1).length : Int) ≠ n then ([], 0, 18) else (expR (dcR b o).1, (dcR b o).2.1, 0)
def dI (k : Nat) (T : Int) (b : List UInt8) (n : Nat) : List Int × Int × Int :=
  if k = 0 then (if T = 1 then pdB b 1 n else pdI b 1 n) else if k = 1 then drR b 1 n else if k = 2 then decV b 1 n else dlDec b 1 n
def dT (k : Nat) (b : List UInt8) (n : Nat) : List Str × Int × Int := if k = 0 then pdTs b n [] 1 else if k = 4 then decT b 1 n else fcDec b 1 n
def mkV (k : Nat) (T : Int) (b : List UInt8) (n : Nat) : Vec × Int × Int :=
  if T = 3 then (⟨T, [], (dT k b n).1, List.replicate n false⟩, (dT k b n).2.1, (dT k b n).2.2)
  else (⟨T, (dI k T b n).1, [], List.replicate n false⟩, (dI k T b n).2.1, (dI k T b n).2.2)
def endV (r : Vec × Int × Int) : Vec × Int × Int := if r.2.2 ≠ 0 then (zeroV, 0, r.2.2) else if chk r.1 ≠ 0 then (zeroV, 0, chk r.1) else r
def decF (b : List UInt8) (T n : Int) : Vec × Int × Int :=
  if okT T = false ∨ n < 0 ∨ 65536 < n then (zeroV, 0, 1) else if b.length = 0 then (zeroV, 0, 2)
  else if apl (b.getD 0 0).toNat T = false then (zeroV, 0, 4) else endV (mkV (b.getD 0 0).toNat T b n.toNat)
theorem plI_length (l : List Int) : (plI l).length = 8 * l.length := by
  induction l with
  | nil => rfl
  | cons x r ih =>
    have e : plI (x :: r) = fixb (toU x) 8 ++ plI r := rfl
    rw [e, List.length_append, ih, fixb_length, List.length_cons]; omega
theorem plI_snoc (l : List Int) (x : Int) : plI (l ++ [x]) = plI l ++ fixb (toU x) 8 := by simp [plI]
theorem plI_append (l r : List Int) : plI (l ++ r) = plI l ++ plI r := by simp [plI]
theorem plI_cons (x : Int) (r : List Int) : plI (x :: r) = fixb (toU x) 8 ++ plI r := rfl
theorem plB_length (l : List Int) : (plB l).length = szB l.length 1 := by unfold plB; rw [packL_length, List.length_map]
theorem fixb_le : ∀ (l : List UInt8), fixb (le l) l.length = l := by
  intro l
  induction l with
  | nil => rfl
  | cons c r ih =>
    have e : fixb (le (c :: r)) (c :: r).length = c :: fixb (le r) r.length := by
      apply List.ext_getElem
      · simp [fixb_length]
      · intro j h1 h2
        cases j with
        | zero =>
          simp only [fixb, le, List.getElem_map, List.getElem_range, Nat.pow_zero, Nat.div_one, List.getElem_cons_zero]
          have hc := c.toNat_lt
          rw [show (c.toNat + 256 * le r) % 256 = c.toNat by omega]
          exact UInt8.ofNat_toNat
        | succ j =>
          simp only [fixb, le, List.getElem_map, List.getElem_range, List.getElem_cons_succ]
          have hc := c.toNat_lt
          have e : (c.toNat + 256 * le r) / 256 ^ (j + 1) = le r / 256 ^ j := by
            rw [Nat.pow_succ', ← Nat.div_div_eq_div_mul, show (c.toNat + 256 * le r) / 256 = le r by omega]
          rw [e]
    rw [e, ih]
theorem plI_at {P Q : List UInt8} {l : List Int} {j : Nat} (h : j < l.length) (hin : ∀ x ∈ l, frIn x) : toI (le (((P ++ (plI l ++ Q)).drop (P.length + 8 * j)).take 8)) = l[j] := by
  have hsp : l = l.take j ++ (l[j] :: l.drop (j + 1)) := by rw [List.getElem_cons_drop, List.take_append_drop]
  have e : P ++ (plI l ++ Q) = (P ++ plI (l.take j)) ++ (fixb (toU l[j]) 8 ++ (plI (l.drop (j + 1)) ++ Q)) := by
    have : plI l = plI (l.take j) ++ (fixb (toU l[j]) 8 ++ plI (l.drop (j + 1))) := by
      conv => lhs; rw [hsp]
      rw [plI_append, plI_cons]
    rw [this]; simp
  have hl : P.length + 8 * j = (P ++ plI (l.take j)).length := by rw [List.length_append, plI_length, List.length_take]; omega
  rw [e, hl, List.drop_left, List.take_append_of_le_length (by rw [fixb_length]; omega), List.take_of_length_le (by rw [fixb_length]; omega), le_fixb, Nat.mod_eq_of_lt (toU_lt _)]
  exact toI_toU (hin _ (List.getElem_mem h))
theorem pdI_enc (P Q : List UInt8) {l : List Int} (hin : ∀ x ∈ l, frIn x) : pdI (P ++ (plI l ++ Q)) P.length l.length = (l, ((P.length + (plI l).length : Nat) : Int), 0) := by
  unfold pdI
  rw [if_pos (by simp [plI_length]), plI_length]
  congr 1
  apply List.ext_getElem
  · simp
  · intro j h1 h2
    rw [List.getElem_map, List.getElem_range]
    exact plI_at h2 hin
theorem pdI_acc {b : List UInt8} {o n : Nat} (h : (pdI b o n).2.2 = 0) : (pdI b o n).2.1 = ((o + 8 * n : Nat) : Int) ∧ o + 8 * n ≤ b.length ∧ (pdI b o n).1.length = n ∧ (∀ x ∈ (pdI b o n).1, frIn x) ∧ plI (pdI b o n).1 = cutB b o (8 * n) := by
  unfold pdI at h ⊢
  by_cases hs : o + 8 * n ≤ b.length
  · rw [if_pos hs]
    refine ⟨rfl, hs, by simp, fun x hx => ?_, ?_⟩
    · obtain ⟨j, _, rfl⟩ := List.mem_map.1 hx; exact toI_in _
    · clear h
      induction n with
      | zero => simp [plI, cutB]
      | succ n ih =>
        rw [List.range_succ, List.map_append, List.map_cons, List.map_nil, plI_snoc]
        have ih' : plI ((List.range n).map fun j => toI (le ((b.drop (o + 8 * j)).take 8))) = cutB b o (8 * n) := ih (by omega)
        rw [ih', toU_toI (by have := le_lt64 (l := (b.drop (o + 8 * n)).take 8) (by rw [List.length_take]; omega); omega)]
        have hl : ((b.drop (o + 8 * n)).take 8).length = 8 := by rw [List.length_take, List.length_drop]; omega
        have hf := fixb_le ((b.drop (o + 8 * n)).take 8)
        rw [hl] at hf
        rw [hf]
        unfold cutB
        rw [show 8 * (n + 1) = 8 * n + 8 by omega]
        exact take_glue
  · rw [if_neg hs] at h
    cases h
theorem widL1 {l : List Int} (h : l.any badBool = false) : widL (l.map toU) ≤ 1 := by
  have hb : ∀ x ∈ l.map toU, x < 2 ^ 1 := by
    intro x hx
    obtain ⟨y, hy, rfl⟩ := List.mem_map.1 hx
    have := List.any_eq_false.1 h y hy
    unfold badBool at this
    have h01 : y = 0 ∨ y = 1 := by
      by_cases h0 : y = 0
      · exact .inl h0
      · by_cases h1 : y = 1
        · exact .inr h1
        · exact absurd (by simp [h0, h1]) this
    rcases h01 with rfl | rfl <;> decide
  unfold widL
  exact Lib.bitLen_le _ 1 (by omega) (orL_lt hb)
end Go.Proofs.YthmipnokimlbdaaGreat
/-
  Shaken: what the claims of this seat need of this text. No condition.
-/
namespace Go.Proofs.YthmipnokimlbdaaGreat
set_option maxRecDepth 8000
open Go.RowKit
set_option linter.unusedVariables false
set_option linter.unusedSimpArgs false
theorem cut_mid {P E Q : List UInt8} : cutB (P ++ (E ++ Q)) P.length E.length = E := by
  unfold cutB
  rw [List.drop_left, List.take_left]
theorem cutB_length' {b : List UInt8} {o k : Nat} (h : o + k ≤ b.length) : (cutB b o k).length = k := by unfold cutB; rw [List.length_take, List.length_drop]; omega
theorem bbit_packed {l : List Nat} {w : Nat} : badB (packL l w) l.length w = false := by
  rw [badB_false (packL_length l w)]
  intro i h _
  exact bbit_pack_out h
theorem unpL_packLEnNum2 {l : List Nat} {M : Nat} (hU : U64 l) (hM : widL l ≤ M) : unpL (packL l M) l.length M = l := by
  apply List.ext_getElem
  · exact unpL_length _ _ _
  · intro k h1 h2
    have h := unpL_get (b := packL l M) (w := M) h2
    rw [List.getElem?_eq_getElem h1] at h
    injection h with h
    rw [h, numB_pack h2, List.getD_eq_getElem?_getD, List.getElem?_eq_getElem h2]
    exact Nat.mod_eq_of_lt (Nat.lt_of_lt_of_le (widL_fits hU (List.getElem_mem h2)) (Nat.pow_le_pow_right (by decide) hM))
theorem map_toI {l : List Int} (h : ∀ x ∈ l, frIn x) : (l.map toU).map toI = l := by
  rw [List.map_map]
  conv => rhs; rw [← List.map_id l]
  exact List.map_congr_left fun x hx => toI_toU (h x hx)
theorem map_toU {l : List Nat} (h : ∀ x ∈ l, x < 18446744073709551616) : (l.map toI).map toU = l := by
  rw [List.map_map]
  conv => rhs; rw [← List.map_id l]
  exact List.map_congr_left fun x hx => toU_toI (h x hx)
theorem U64_toU (l : List Int) : U64 (l.map toU) := fun x hx => by
  obtain ⟨y, _, rfl⟩ := List.mem_map.1 hx
  exact toU_lt y
theorem pdB_enc (P Q : List UInt8) {l : List Int} (hin : ∀ x ∈ l, frIn x) (hb : l.any badBool = false) : pdB (P ++ (plB l ++ Q)) P.length l.length = (l, ((P.length + (plB l).length : Nat) : Int), 0) := by
  have hl := plB_length l
  have hc : cutB (P ++ (plB l ++ Q)) P.length (szB l.length 1) = plB l := by rw [← hl]; exact cut_mid
  have hm : (l.map toU).length = l.length := List.length_map ..
  unfold pdB
  rw [if_pos (by simp [hl]), hc, if_neg (by
    have h := bbit_packed (l := l.map toU) (w := 1)
    rw [hm] at h
    show ¬ (badB (packL (l.map toU) 1) l.length 1 = true)
    rw [h]; simp)]
  have hu := unpL_packLEnNum2 (U64_toU l) (widL1 hb)
  rw [hm] at hu
  show (List.map toI (unpL (packL (l.map toU) 1) l.length 1), _, _) = _
  rw [hu, map_toI hin, hl]
theorem pdB_acc {b : List UInt8} {o n : Nat} (h : (pdB b o n).2.2 = 0) : (pdB b o n).2.1 = ((o + szB n 1 : Nat) : Int) ∧ o + szB n 1 ≤ b.length ∧ (pdB b o n).1.length = n ∧ (∀ x ∈ (pdB b o n).1, frIn x) ∧ plB (pdB b o n).1 = cutB b o (szB n 1) := by
  unfold pdB at h ⊢
  by_cases hs : o + szB n 1 ≤ b.length
  · rw [if_pos hs] at h ⊢
    by_cases hb : badB (cutB b o (szB n 1)) n 1 = true
    · rw [if_pos hb] at h; cases h
    · rw [if_neg hb]
      have hcl := cutB_length' hs
      refine ⟨rfl, hs, by rw [List.length_map, unpL_length], fun x hx => ?_, ?_⟩
      · obtain ⟨j, _, rfl⟩ := List.mem_map.1 hx; exact toI_in _
      · unfold plB
        show packL (List.map toU (List.map toI (unpL (cutB b o (szB n 1)) n 1))) 1 = _
        rw [map_toU (fun x hx => by
          obtain ⟨j, hj, rfl⟩ := List.getElem_of_mem hx
          have hj' : j < n := by rwa [unpL_length] at hj
          have h := unpL_get (b := cutB b o (szB n 1)) (w := 1) hj'
          rw [List.getElem?_eq_getElem hj] at h
          injection h with h
          rw [h]
          have := natOf_lt (fun k => bbit (cutB b o (szB n 1)) (j * 1 + k)) 1
          exact Nat.lt_of_lt_of_le this (by decide))]
        have hbf : badB (cutB b o (szB n 1)) n 1 = false := by simpa using hb
        exact packL_unpL hcl ((badB_false hcl).1 hbf)
  · rw [if_neg hs] at h
    cases h
theorem pdTs_e {b : List UInt8} {n : Nat} {ws : List Str} {p : Int} (h : (rdW b p).2.2 ≠ 0) : pdTs b (n + 1) ws p = ([], 0, (rdW b p).2.2) := by rw [pdTs, if_pos h]
theorem pdTs_n {b : List UInt8} {n : Nat} {ws : List Str} {p : Int} (h : (rdW b p).2.2 = 0) : pdTs b (n + 1) ws p = pdTs b n (ws ++ [(rdW b p).1]) (rdW b p).2.1 := by rw [pdTs, if_neg (by simpa using h)]
theorem pdTs_enc {b : List UInt8} : ∀ (ws acc : List Str) (pre post : List UInt8), b = pre ++ (wordsL ws ++ post) → (∀ s ∈ ws, s.length ≤ 4096) →
    pdTs b ws.length acc (pre.length : Int) = (acc ++ ws, ((pre.length + (wordsL ws).length : Nat) : Int), 0)
  | [], acc, pre, post, _, _ => by simp [pdTs, wordsL]
  | w :: r, acc, pre, post, hb, hs => by
    have e : wordsL (w :: r) = wordL w ++ wordsL r := rfl
    have hw := rdW_enc (b := b) (pre := pre) (post := wordsL r ++ post) (s := w) (by rw [hb, e, List.append_assoc]) (hs w (by simp))
    rw [List.length_cons, pdTs_n (by rw [hw]), hw]
    have ih := pdTs_enc (b := b) r (acc ++ [w]) (pre ++ wordL w) post (by rw [hb, e]; simp) fun s h => hs s (by simp [h])
    rw [List.length_append] at ih
    show pdTs b r.length (acc ++ [w]) ((pre.length + (wordL w).length : Nat) : Int) = _
    rw [ih, e, List.length_append]
    simp [Nat.add_assoc]
theorem pdTs_acc {b : List UInt8} : ∀ (n : Nat) (ws : List Str) (q : Nat), q ≤ b.length → (∀ s ∈ ws, s.length ≤ 4096) → (pdTs b n ws q).2.2 = 0 →
    ∃ k : Nat, (pdTs b n ws q).2.1 = ((q + k : Nat) : Int) ∧ q + k ≤ b.length ∧ (pdTs b n ws q).1.length = ws.length + n ∧ (∀ s ∈ (pdTs b n ws q).1, s.length ≤ 4096) ∧ wordsL (pdTs b n ws q).1 = wordsL ws ++ cutB b q k
  | 0, ws, q, hq, hs, _ => ⟨0, rfl, hq, rfl, hs, by simp [pdTs, cutB]⟩
  | n + 1, ws, q, hq, hs, h => by
    by_cases h1 : (rdW b q).2.2 = 0
    · rw [pdTs_n h1] at h ⊢
      obtain ⟨m, q2, hd, hm, hq2, hqq, e⟩ := rdW_acc hq h1
      rw [e] at h ⊢
      obtain ⟨m', k', hd', hk', hk1, hen⟩ := dcd_acc hq (by rw [hd])
      rw [hd] at hd'
      injection hd' with e1 e2
      injection e2 with e2 _
      have e1' : m = m' := by omega
      have e2' : q2 = q + k' := by omega
      subst e1' e2'
      obtain ⟨k, r1, r2, r3, r4, r5⟩ := pdTs_acc n (ws ++ [cutB b (q + k') m]) (q + k' + m) hq2 (fun s hs' => by
        rcases List.mem_append.1 hs' with h | h
        · exact hs s h
        · rw [List.mem_singleton.1 h, cutB_length' hq2]; exact hm) h
      refine ⟨k' + m + k, by rw [r1]; omega, by omega, by rw [r3, List.length_append, List.length_singleton]; omega, r4, ?_⟩
      rw [r5, wordsL_snoc, List.append_assoc]
      congr 1
      unfold wordL
      rw [cutB_length' hq2, hen]
      unfold cutB
      rw [take_glue, Nat.add_assoc, take_glue, Nat.add_assoc]
    · rw [pdTs_e h1] at h; exact absurd h h1
theorem runs_in {l : List Int} (h : ∀ x ∈ l, frIn x) : ∀ x ∈ runsR l, in64 x.1 := by
  have hk : ∀ x ∈ runsR l, x.1 ∈ l := by
    intro x hx
    rw [← expR_runs l]
    have hp := runsR_pos' l x hx
    generalize runsR l = rs at *
    induction rs with
    | nil => cases hx
    | cons y r ih =>
      unfold expR
      rcases List.mem_cons.1 hx with rfl | hx
      · exact List.mem_append_left _ (List.mem_replicate.2 ⟨by omega, rfl⟩)
      · exact List.mem_append_right _ (ih hx)
  exact fun x hx => h _ (hk x hx)
theorem drR_enc (P Q : List UInt8) {l : List Int} (hin : ∀ x ∈ l, frIn x) (hl : l.length ≤ 65536) : drR (P ++ (encR (runsR l) ++ Q)) (P.length : Int) (l.length : Int) = (l, ((P.length + (encR (runsR l)).length : Nat) : Int), 0) := by
  unfold drR
  rw [dcR_enc (runs_valid hl) (runs_in hin) P Q, if_neg (by simp), if_neg (by rw [expR_runs]; simp), expR_runs]
theorem expR_mem {l : List Rn} {x : Int} (h : x ∈ expR l) : ∃ y ∈ l, y.1 = x := by
  induction l with
  | nil => cases h
  | cons y r ih =>
    unfold expR at h
    rcases List.mem_append.1 h with h | h
    · exact ⟨y, by simp, (List.mem_replicate.1 h).2.symm⟩
    · obtain ⟨z, hz, e⟩ := ih h
      exact ⟨z, by simp [hz], e⟩
end Go.Proofs.YthmipnokimlbdaaGreat
/-
  Shaken: what the claims of this seat need of this text. No condition.
-/
namespace Go.Proofs.YthmipnokimlbdaaGreat
set_option maxRecDepth 8000
open Go.RowKit
set_option linter.unusedVariables false
set_option linter.unusedSimpArgs false
theorem decV_acc {b : List UInt8} {o n : Int} (h : (decV b o n).2.2 = 0) : encV (decV b o n).1 = (b.drop o.toNat).take ((decV b o n).2.1 - o).toNat := by
  unfold decV at h ⊢
  rcases hf : frD b o n with ⟨z, w, m, p, e⟩
  rw [hf] at h
  simp only at h ⊢
  split at h
  · exact absurd h (by assumption)
  · rename_i he
    rw [if_neg he]
    rcases hx : excD b w.toNat m.toNat (p + (szB n.toNat w.toNat : Nat)) (lowD b p n.toNat w.toNat) with ⟨d, q, f⟩
    rw [hx] at h
    simp only at h ⊢
    split at h
    · exact absurd h (by assumption)
    · rename_i hf2
      rw [if_neg hf2]
      split at h
      · rename_i hc
        rw [if_pos hc]
        exact hc
      · cases h
theorem decT_acc {b : List UInt8} {o n : Nat} (ho : o ≤ b.length) (hn : n ≤ 65536) (h : (decT b o n).2.2 = 0) :
    ∃ q : Nat, (decT b o n).2.1 = (q : Int) ∧ o ≤ q ∧ q ≤ b.length ∧ (decT b o n).1.length = n ∧ (∀ s ∈ (decT b o n).1, s.length ≤ 4096) ∧ encT (decT b o n).1 = cutB b o (q - o) := by
  by_cases h1 : (rdD b o n).2.2 = 0
  · obtain ⟨q1, r1, r2, r3, r4, r5⟩ := rdD_acc ho h1
    have e1 : rdD b o n = ((rdD b o n).1, (q1 : Int), 0) := by rw [← h1, ← r1]
    generalize (rdD b o n).1 = ws at *
    by_cases h2 : (rdC b q1 n ws.length).2.2 = 0
    · obtain ⟨q2, s1, s2, s3, s4, s5⟩ := rdC_acc (by omega) (by omega) h2
      have e2 : rdC b q1 n ws.length = ((rdC b q1 n ws.length).1, (q2 : Int), 0) := by rw [← h2, ← s1]
      generalize (rdC b q1 n ws.length).1 = cs at *
      rw [decT_n ho hn e1 e2] at h ⊢
      unfold endT at h ⊢
      by_cases h3 : overC cs ws.length = true
      · rw [if_pos h3] at h; cases h
      · rw [if_neg h3] at h ⊢
        by_cases h4 : encT (pickS ws cs) = cutB b o (q2 - o)
        · rw [if_pos h4]
          refine ⟨q2, rfl, by omega, s3, by show (pickS ws cs).length = n; unfold pickS; rw [List.length_map]; exact s4, fun s hs => ?_, h4⟩
          have hs' : s ∈ pickS ws cs := hs
          unfold pickS at hs'
          obtain ⟨c, hc, rfl⟩ := List.mem_map.1 hs'
          rw [List.getD_eq_getElem?_getD]
          rcases Nat.lt_or_ge c ws.length with hl | hl
          · rw [List.getElem?_eq_getElem hl]; exact r5 _ (List.getElem_mem hl)
          · rw [List.getElem?_eq_none hl]; exact Nat.zero_le _
        · rw [if_neg h4] at h; cases h
    · rw [decT_c ho hn e1 h2] at h; exact absurd h h2
  · by_cases hb : (n : Int) < 0 ∨ 65536 < (n : Int) ∨ (o : Int) < 0 ∨ (b.length : Int) < o
    · omega
    · rw [decT_d hb h1] at h; exact absurd h h1
theorem push_sameEnNum3 (v : Int) : ∀ (k : Nat) (c : Int) (o : List Rn), (List.replicate k v).foldl pushR (o ++ [(v, c)]) = o ++ [(v, c + k)]
  | 0, c, o => by simp
  | k + 1, c, o => by
    have e : pushR (o ++ [(v, c)]) v = o ++ [(v, c + 1)] := by simp [pushR]
    rw [List.replicate_succ, List.foldl_cons, e, push_sameEnNum3 v k (c + 1) o]
    congr 3
    omega
theorem push_newEnNum3 {o : List Rn} {v : Int} (h : ∀ x, o.getLast? = some x → x.1 ≠ v) : pushR o v = o ++ [(v, 1)] := by
  unfold pushR
  split
  · rename_i x hx
    rw [if_neg (h x hx)]
  · rfl
theorem runsR_take_exp {l : List Rn} (hv : validR l = true) : ∀ j, j ≤ l.length → runsR (expR (l.take j)) = l.take j
  | 0, _ => by simp [expR, runsR]
  | j + 1, hj => by
    have hlt : j < l.length := hj
    have ih := runsR_take_exp hv j (by omega)
    obtain ⟨h1, _, h3⟩ := (okRun_iff hlt).1 (validR_iff.1 hv j hlt)
    obtain ⟨m, hm⟩ : ∃ m, l[j].2.toNat = m + 1 := ⟨l[j].2.toNat - 1, by omega⟩
    unfold runsR at ih ⊢
    rw [expR_take hlt, List.foldl_append, ih, hm, List.replicate_succ, List.foldl_cons, push_newEnNum3, push_sameEnNum3]
    · rw [List.take_succ_eq_append_getElem hlt]
      congr 2
      ext
      · rfl
      · show 1 + (m : Int) = l[j].2; omega
    · intro x hx
      rcases Nat.eq_zero_or_pos j with rfl | hp
      · simp at hx
      · have hl : (l.take j).getLast? = some (l[j - 1]'(by omega)) := by
          rw [List.getLast?_eq_getElem?, List.length_take, Nat.min_eq_left (by omega), List.getElem?_take, if_pos (by omega), List.getElem?_eq_getElem (by omega)]
        rw [hl] at hx
        injection hx with hx
        subst hx
        exact h3 hp (by omega)
theorem runsR_expR {l : List Rn} (hv : validR l = true) : runsR (expR l) = l := by
  have h := runsR_take_exp hv l.length (Nat.le_refl _)
  rwa [List.take_length] at h
theorem dI_acc {k n : Nat} {T : Int} {b : List UInt8} (hb : 1 ≤ b.length) (hn : n ≤ 65536) (hk : k ≤ 3) (h : (dI k T b n).2.2 = 0) :
    ∃ q : Nat, (dI k T b n).2.1 = (q : Int) ∧ 1 ≤ q ∧ q ≤ b.length ∧ (dI k T b n).1.length = n ∧ (∀ x ∈ (dI k T b n).1, frIn x) ∧ payI k T (dI k T b n).1 = cutB b 1 (q - 1) := by
  unfold dI payI at *
  by_cases h0 : k = 0
  · simp only [if_pos h0] at h ⊢
    by_cases hT : T = 1
    · simp only [if_pos hT] at h ⊢
      obtain ⟨r1, r2, r3, r4, r5⟩ := pdB_acc h
      exact ⟨_, r1, by omega, r2, r3, r4, by rw [r5, Nat.add_sub_cancel_left]⟩
    · simp only [if_neg hT] at h ⊢
      obtain ⟨r1, r2, r3, r4, r5⟩ := pdI_acc h
      exact ⟨_, r1, by omega, r2, r3, r4, by rw [r5, Nat.add_sub_cancel_left]⟩
  · simp only [if_neg h0] at h ⊢
    by_cases h1 : k = 1
    · simp only [if_pos h1] at h ⊢
      unfold drR at h ⊢
      by_cases he : (dcR b 1).2.2 = 0
      · simp only [he, ne_eq, not_true_eq_false, if_false] at h ⊢
        by_cases hl : ((expR (dcR b 1).1).length : Int) = (n : Int)
        · simp only [hl, not_true_eq_false, if_false] at h ⊢
          obtain ⟨o, m, ho, hq, hle, hv, hin, hen⟩ := dcR_acc he
          have ho1 : o = 1 := by omega
          subst ho1
          refine ⟨1 + m, hq, by omega, hle, by omega, fun x hx => ?_, ?_⟩
          · obtain ⟨y, hy, rfl⟩ := expR_mem hx
            exact hin y hy
          · rw [Nat.add_sub_cancel_left]
            have hrun : runsR (expR (dcR b 1).1) = (dcR b 1).1 := runsR_expR hv
            rw [hrun, hen]
            rfl
        · simp only [hl, not_false_eq_true, if_true] at h
          cases h
      · simp only [ne_eq, he, not_false_eq_true, if_true] at h
    · simp only [if_neg h1] at h ⊢
      by_cases h2 : k = 2
      · simp only [if_pos h2] at h ⊢
        obtain ⟨r1, ⟨r2, r3, r4⟩, r5⟩ := decV_bd (b := b) (o := 1) (n := (n : Int)) (r := (decV b 1 n).1) (q := (decV b 1 n).2.1) (by rw [← h])
        have hen := decV_acc h
        obtain ⟨q, hq⟩ := Int.eq_ofNat_of_zero_le (show 0 ≤ (decV b 1 n).2.1 by omega)
        rw [hq] at hen r3 r4 ⊢
        refine ⟨q, rfl, by omega, by omega, by omega, r5, ?_⟩
        rw [hen]
        unfold cutB
        rw [show ((q : Int) - 1).toNat = q - 1 by omega]
        rfl
      · simp only [if_neg h2] at h ⊢
        obtain ⟨r1, r2, ⟨r3, r4, r5⟩, r6⟩ := dlDec_acc (b := b) (o := 1) (n := (n : Int)) (vs := (dlDec b 1 n).1) (q := (dlDec b 1 n).2.1) (by rw [← h])
        obtain ⟨q, hq⟩ := Int.eq_ofNat_of_zero_le (show 0 ≤ (dlDec b 1 n).2.1 by omega)
        rw [hq] at r4 r5 r6 ⊢
        refine ⟨q, rfl, by omega, by omega, by omega, r2, ?_⟩
        rw [r6]
        unfold cutB
        rw [show ((q : Int) - 1).toNat = q - 1 by omega]
        rfl
theorem dT_acc {k n : Nat} {b : List UInt8} (hb : 1 ≤ b.length) (hn : n ≤ 65536) (h : (dT k b n).2.2 = 0) :
    ∃ q : Nat, (dT k b n).2.1 = (q : Int) ∧ 1 ≤ q ∧ q ≤ b.length ∧ (dT k b n).1.length = n ∧ (∀ s ∈ (dT k b n).1, s.length ≤ b.length ∨ s.length ≤ 4096) ∧ payT k (dT k b n).1 = cutB b 1 (q - 1) := by
  unfold dT payT at *
  by_cases h0 : k = 0
  · simp only [if_pos h0] at h ⊢
    obtain ⟨m, r1, r2, r3, r4, r5⟩ := pdTs_acc n [] 1 hb (fun _ h => by cases h) h
    refine ⟨1 + m, r1, by omega, r2, by have e : (pdTs b n [] 1).1.length = 0 + n := r3; omega, fun s hs => .inr (r4 s hs), ?_⟩
    have e := r5
    rw [show wordsL [] = [] from rfl, List.nil_append] at e
    rw [Nat.add_sub_cancel_left]
    exact e
  · simp only [if_neg h0] at h ⊢
    by_cases h4 : k = 4
    · simp only [if_pos h4] at h ⊢
      obtain ⟨q, r1, r2, r3, r4, r5, r6⟩ := decT_acc (b := b) (o := 1) (n := n) hb hn h
      exact ⟨q, r1, r2, r3, r4, fun s hs => .inr (r5 s hs), r6⟩
    · simp only [if_neg h4] at h ⊢
      unfold fcDec at h ⊢
      by_cases hbad : badF b 1 n
      · rw [if_pos hbad] at h; cases h
      · simp only [if_neg hbad] at h ⊢
        obtain ⟨m, r1, r2, r3, r4, r5⟩ := rdFs_acc (b := b) (n : Int).toNat [] 1 hb (fun _ h => by cases h) h
        refine ⟨1 + m, r1, by omega, r2, ?_, fun s hs => .inl (Nat.le_trans (r4 s hs) r2), ?_⟩
        · have e : (rdFs b (n : Int).toNat [] (1 : Nat)).1.length = 0 + (n : Int).toNat := r3
          rw [Nat.zero_add, Int.toNat_natCast] at e
          exact e
        · rw [Nat.add_sub_cancel_left]
          have e := r5
          rw [show fcEnc [] = [] from rfl, List.nil_append] at e
          exact e
end Go.Proofs.YthmipnokimlbdaaGreat
/-
  Shaken: what the claims of this seat need of this text. No condition.
-/
namespace Go.Proofs.YthmipnokimlbdaaGreat
set_option maxRecDepth 8000
open Go.RowKit
set_option linter.unusedVariables false
set_option linter.unusedSimpArgs false
theorem dI_enc {k : Nat} {T : Int} {l : List Int} (hk : k ≤ 3) (c : UInt8) (Q : List UInt8) (hin : ∀ x ∈ l, frIn x) (hl : l.length ≤ 65536) (hB : T = 1 → l.any badBool = false) :
    dI k T (c :: (payI k T l ++ Q)) l.length = (l, ((1 + (payI k T l).length : Nat) : Int), 0) := by
  unfold dI payI
  by_cases h0 : k = 0
  · simp only [if_pos h0]
    by_cases hT : T = 1
    · simp only [if_pos hT]
      exact pdB_enc [c] Q hin (hB hT)
    · simp only [if_neg hT]
      exact pdI_enc [c] Q hin
  · simp only [if_neg h0]
    by_cases h1 : k = 1
    · simp only [if_pos h1]
      exact drR_enc [c] Q hin hl
    · simp only [if_neg h1]
      by_cases h2 : k = 2
      · simp only [if_pos h2]
        have h := decV_enc [c] Q hin hl
        rw [List.length_append] at h
        exact h
      · simp only [if_neg h2]
        have h := dlDec_enc [c] Q hin hl
        rw [List.length_append] at h
        exact h
theorem dT_enc {k : Nat} {l : List Str} (c : UInt8) (Q : List UInt8) (hl : l.length ≤ 65536) (hs : ∀ s ∈ l, s.length ≤ 4096) :
    dT k (c :: (payT k l ++ Q)) l.length = (l, ((1 + (payT k l).length : Nat) : Int), 0) := by
  unfold dT payT
  by_cases h0 : k = 0
  · simp only [if_pos h0]
    exact pdTs_enc (b := c :: (wordsL l ++ Q)) l [] [c] Q rfl hs
  · simp only [if_neg h0]
    by_cases h4 : k = 4
    · simp only [if_pos h4]
      exact decT_enc hl hs [c] Q
    · simp only [if_neg h4]
      have h := fcDec_enc (p := [c]) (r := Q) (l := l) (fun s h => by have := hs s h; omega) hl
      rw [List.length_append] at h
      exact h
theorem falses {ns : List Bool} (h : ns.any id = false) : ns = List.replicate ns.length false := by
  apply List.eq_replicate_iff.2
  refine ⟨rfl, fun b hb => ?_⟩
  have := List.any_eq_false.1 h b hb
  simpa using this
structure Encable (v : Vec) : Prop where
  t : okT v.T = true
  ns : v.ns = List.replicate v.ns.length false
  len : v.ns.length ≤ 65536
  li : v.T ≠ 3 → v.is.length = v.ns.length ∧ v.ts = []
  lt : v.T = 3 → v.ts.length = v.ns.length ∧ v.is = []
  bools : v.T = 1 → v.is.any badBool = false
  texts : ∀ s ∈ v.ts, s.length ≤ 4096
  chk : chk v = 0
theorem chk0 {v : Vec} (h : chk v = 0) : (v.T = 1 → v.is.any badBool = false) ∧ ∀ s ∈ v.ts, s.length ≤ 4096 := by
  unfold chk at h
  by_cases h1 : v.T = 1 ∧ v.is.any badBool = true
  · rw [if_pos h1] at h; cases h
  · rw [if_neg h1] at h
    by_cases h2 : v.ts.any tooLong = true
    · rw [if_pos h2] at h; cases h
    · refine ⟨fun hT => ?_, fun s hs => ?_⟩
      · cases hb : v.is.any badBool
        · rfl
        · exact absurd ⟨hT, hb⟩ h1
      · have h3 : v.ts.any tooLong = false := by simpa using h2
        have := List.any_eq_false.1 h3 s hs
        unfold tooLong at this
        simpa using this
theorem okV_iff {v : Vec} : okV v = true ↔ Encable v := by
  constructor
  · intro h
    unfold okV at h
    by_cases hT : v.T = 3
    · rw [if_pos hT] at h
      simp only [Bool.and_eq_true, decide_eq_true_eq, Bool.not_eq_true'] at h
      obtain ⟨⟨⟨⟨h1, h2⟩, h3⟩, h4⟩, h5⟩ := h
      obtain ⟨c1, c2⟩ := chk0 h5
      exact ⟨by rw [hT]; rfl, falses h4, by omega, fun h => absurd hT h, fun _ => ⟨h3.symm, List.eq_nil_of_length_eq_zero h2⟩, c1, c2, h5⟩
    · rw [if_neg hT] at h
      simp only [Bool.and_eq_true, decide_eq_true_eq, Bool.not_eq_true'] at h
      obtain ⟨⟨⟨⟨⟨h0, h1⟩, h2⟩, h3⟩, h4⟩, h5⟩ := h
      obtain ⟨c1, c2⟩ := chk0 h5
      exact ⟨h0, falses h4, by omega, fun _ => ⟨h3.symm, List.eq_nil_of_length_eq_zero h2⟩, fun h => absurd h hT, c1, c2, h5⟩
  · intro h
    have h4 : v.ns.any id = false := by rw [h.ns]; simp
    unfold okV
    by_cases hT : v.T = 3
    · rw [if_pos hT, h4]
      obtain ⟨h1, h2⟩ := h.lt hT
      have := h.len
      simp only [Bool.and_eq_true, decide_eq_true_eq]
      exact ⟨⟨⟨⟨by omega, by rw [h2]; rfl⟩, h1.symm⟩, rfl⟩, h.chk⟩
    · rw [if_neg hT, h4]
      obtain ⟨h1, h2⟩ := h.li hT
      have := h.len
      simp only [Bool.and_eq_true, decide_eq_true_eq]
      exact ⟨⟨⟨⟨⟨h.t, by omega⟩, by rw [h2]; rfl⟩, h1.symm⟩, rfl⟩, h.chk⟩
theorem apl_num {k : Nat} {T : Int} (hT : T ≠ 3) (h : apl k T = true) : k ≤ 3 := by
  unfold apl at h
  split at h
  · simpa using h
  · cases h
theorem apl_lt {k : Nat} {T : Int} (h : apl k T = true) : k ≤ 5 := by
  unfold apl at h
  split at h
  · have : k ≤ 3 := by simpa using h
    omega
  · split at h
    · have : k = 0 ∨ k = 4 ∨ k = 5 := by simpa using h
      omega
    · cases h
theorem okT_in {T : Int} (h : okT T = true) : 1 ≤ T ∧ T ≤ 3 := by unfold okT at h; simpa using h
theorem decF_enc {k : Nat} {v : Vec} (h : Encable v) (ha : apl k v.T = true) (hin : ∀ x ∈ v.is, frIn x) (Q : List UInt8) :
    decF (formE k v ++ Q) v.T (v.ns.length : Int) = (v, ((formE k v).length : Int), 0) := by
  have hk := apl_lt ha
  have hlen := h.len
  have hc : ((formE k v ++ Q).getD 0 0).toNat = k := by
    show (UInt8.ofNat k).toNat = k
    rw [UInt8.toNat_ofNat']; exact Nat.mod_eq_of_lt (by omega)
  unfold decF
  rw [if_neg (by rw [h.t]; simp; omega), if_neg (by simp [formE]), hc, if_neg (by rw [ha]; simp), Int.toNat_natCast]
  have hm : mkV k v.T (formE k v ++ Q) v.ns.length = (v, ((formE k v).length : Int), 0) := by
    unfold mkV
    by_cases hT : v.T = 3
    · obtain ⟨h1, h2⟩ := h.lt hT
      have e : formE k v ++ Q = UInt8.ofNat k :: (payT k v.ts ++ Q) := by unfold formE pay; rw [if_pos hT]; rfl
      have e2 : (formE k v).length = 1 + (payT k v.ts).length := by unfold formE pay; rw [if_pos hT, List.length_cons]; omega
      have hd := dT_enc (k := k) (UInt8.ofNat k) Q (l := v.ts) (by omega) h.texts
      rw [h1] at hd
      rw [if_pos hT, e, e2, hd]
      refine Prod.ext ?_ rfl
      show (⟨v.T, [], v.ts, List.replicate v.ns.length false⟩ : Vec) = v
      rw [← h.ns, ← h2]
    · obtain ⟨h1, h2⟩ := h.li hT
      have e : formE k v ++ Q = UInt8.ofNat k :: (payI k v.T v.is ++ Q) := by unfold formE pay; rw [if_neg hT]; rfl
      have e2 : (formE k v).length = 1 + (payI k v.T v.is).length := by unfold formE pay; rw [if_neg hT, List.length_cons]; omega
      have hd := dI_enc (k := k) (T := v.T) (apl_num hT ha) (UInt8.ofNat k) Q (l := v.is) hin (by omega) h.bools
      rw [h1] at hd
      rw [if_neg hT, e, e2, hd]
      refine Prod.ext ?_ rfl
      show (⟨v.T, v.is, [], List.replicate v.ns.length false⟩ : Vec) = v
      rw [← h.ns, ← h2]
  rw [hm]
  unfold endV
  rw [if_neg (by simp), if_neg (by rw [h.chk]; simp)]
theorem mkV_acc {b : List UInt8} {T : Int} {N : Nat} (hT : okT T = true) (hN : N ≤ 65536) (hb : 1 ≤ b.length) (ha : apl (b.getD 0 0).toNat T = true) (h : (mkV (b.getD 0 0).toNat T b N).2.2 = 0) :
    ∃ (v : Vec) (q : Nat), mkV (b.getD 0 0).toNat T b N = (v, (q : Int), 0) ∧ 1 ≤ q ∧ q ≤ b.length ∧ v.T = T ∧ v.ns = List.replicate N false ∧ (T = 3 → v.ts.length = N ∧ v.is = []) ∧ (T ≠ 3 → v.is.length = N ∧ v.ts = []) ∧
      (∀ x ∈ v.is, frIn x) ∧ (∀ s ∈ v.ts, s.length ≤ b.length ∨ s.length ≤ 4096) ∧ formE (b.getD 0 0).toNat v = b.take q := by
  have hcut : ∀ q, 1 ≤ q → UInt8.ofNat (b.getD 0 0).toNat :: cutB b 1 (q - 1) = b.take q := by
    intro q hq
    cases b with
    | nil => simp at hb
    | cons c r =>
      rw [show q = q - 1 + 1 by omega, List.take_succ_cons]
      show UInt8.ofNat c.toNat :: _ = _
      rw [UInt8.ofNat_toNat]
      unfold cutB
      rw [List.drop_succ_cons, List.drop_zero, Nat.add_sub_cancel]
  unfold mkV at h ⊢
  by_cases h3 : T = 3
  · rw [if_pos h3] at h ⊢
    obtain ⟨q, r1, r2, r3, r4, r5, r6⟩ := dT_acc hb hN h
    refine ⟨_, q, Prod.ext rfl (Prod.ext r1 h), r2, r3, rfl, rfl, fun _ => ⟨r4, rfl⟩, fun h => absurd h3 h, (fun x hx => by cases hx), r5, ?_⟩
    rw [← hcut q r2, ← r6]
    unfold formE pay
    rw [if_pos h3]
  · rw [if_neg h3] at h ⊢
    obtain ⟨q, r1, r2, r3, r4, r5, r6⟩ := dI_acc hb hN (apl_num h3 ha) h
    refine ⟨_, q, Prod.ext rfl (Prod.ext r1 h), r2, r3, rfl, rfl, fun h => absurd h h3, fun _ => ⟨r4, rfl⟩, r5, (fun x hx => by cases hx), ?_⟩
    rw [← hcut q r2, ← r6]
    unfold formE pay
    rw [if_neg h3]
theorem decF_ok {b : List UInt8} {T n : Int} (h : (decF b T n).2.2 = 0) : ∃ (v : Vec) (N q : Nat), n = (N : Int) ∧ decF b T n = (v, (q : Int), 0) ∧ v.T = T ∧ v.ns.length = N ∧ Encable v ∧ (∀ x ∈ v.is, frIn x) := by
  unfold decF at h ⊢
  by_cases h1 : okT T = false ∨ n < 0 ∨ 65536 < n
  · rw [if_pos h1] at h; cases h
  · rw [if_neg h1] at h ⊢
    have hT : okT T = true := by cases hx : okT T; exact absurd (.inl hx) h1; rfl
    obtain ⟨N, rfl⟩ := Int.eq_ofNat_of_zero_le (show 0 ≤ n by omega)
    by_cases h2 : b.length = 0
    · rw [if_pos h2] at h; cases h
    · rw [if_neg h2] at h ⊢
      by_cases h3 : apl (b.getD 0 0).toNat T = false
      · rw [if_pos h3] at h; cases h
      · rw [if_neg h3] at h ⊢
        rw [Int.toNat_natCast] at h ⊢
        unfold endV at h ⊢
        by_cases h4 : (mkV (b.getD 0 0).toNat T b N).2.2 = 0
        · obtain ⟨v, q, e, r1, r2, r3, r4, r5, r6, r7, r8, r9⟩ := mkV_acc (N := N) hT (by omega) (by omega) (by simpa using h3) h4
          rw [e] at h ⊢
          simp only [ne_eq, not_true_eq_false, if_false] at h ⊢
          by_cases h5 : chk v = 0
          · simp only [h5, not_true_eq_false, if_false]
            have hl : v.ns.length = N := by rw [r4, List.length_replicate]
            obtain ⟨c1, c2⟩ := chk0 h5
            exact ⟨v, N, q, rfl, rfl, r3, hl, ⟨by rw [r3]; exact hT, by rw [hl]; exact r4, by omega, fun hx => by rw [hl]; exact r6 (by rw [← r3]; exact hx), fun hx => by rw [hl]; exact r5 (by rw [← r3]; exact hx), c1, c2, h5⟩, r7⟩
          · simp only [h5, not_false_eq_true, if_true] at h
        · simp only [ne_eq, h4, not_false_eq_true, if_true] at h
end Go.Proofs.YthmipnokimlbdaaGreat
/-
  Shaken: what the claims of this seat need of this text. No condition.
-/
namespace Go.Proofs.YthmipnokimlbdaaGreat
set_option maxRecDepth 8000
open Go.RowKit
set_option linter.unusedVariables false
set_option linter.unusedSimpArgs false
def IsT (w : World) (v : Value) (l : List Bool) : Prop := Reads w v (tcells l)
theorem IsT.grow {w w' : World} {v : Value} {l : List Bool} (h : IsT w v l) (hb : Grows w w') : IsT w' v l := Reads.grow h hb
theorem IsT.slice_ {w : World} {v : Value} {l : List Bool} (h : IsT w v l) : ∃ A c, v = .slice A l.length c := by
  obtain ⟨A, c, h1, h2⟩ := Reads.slice_ h
  rw [tcells_length] at h1
  exact ⟨A, c, h1⟩
theorem IsT.at_ {w : World} {A : Option Addr} {c n : Nat} {l : List Bool} (h : IsT w (.slice A n c) l) {k : Nat} (hk : k < l.length) : ∃ b f, A = some ⟨b, f, none⟩ ∧ w.cell? ⟨b, f + k, none⟩ = some (.bool l[k]) := by
  obtain ⟨A', c', he, _, hc⟩ := h
  injection he with e1 e2 e3
  subst e1
  obtain ⟨b, f, rfl, hcell⟩ := hc (by rw [tcells_length]; omega)
  refine ⟨b, f, rfl, ?_⟩
  rw [hcell k (by rw [tcells_length]; exact hk), tcells_get hk]
def IsV (w : World) (x : Value) (v : Vec) : Prop := ∃ a b c, x = .agg #[.int .i64 v.T, a, b, c] ∧ IsI w a v.is ∧ IsS w b v.ts ∧ IsT w c v.ns
theorem IsV.grow {w w' : World} {x : Value} {v : Vec} (h : IsV w x v) (hb : Grows w w') : IsV w' x v := by
  obtain ⟨a, b, c, h0, h1, h2, h3⟩ := h
  exact ⟨a, b, c, h0, h1.grow hb, h2.grow hb, h3.grow hb⟩
def Small (v : Vec) : Prop := v.is.length ≤ 1000000000000000 ∧ v.ts.length ≤ 1000000000000000 ∧ v.ns.length ≤ 1000000000000000 ∧ ∀ x ∈ v.is, frIn x
theorem retB1 {a b : Bool} (h : a = b) : Ending.returned (.bool a) = .returned (.bool b) := by rw [h]
theorem growB (w : World) (o : Obj) : Grows w (w.alloc o) := (Below.refl _ _).alloc (Nat.le_refl _) o
end Go.Proofs.YthmipnokimlbdaaGreat
/-
  Shaken: what the claims of this seat need of this text. No condition.
-/
namespace Go.Proofs.YthmipnokimlbdaaGreat
set_option maxRecDepth 8000
open Go.RowKit
set_option linter.unusedVariables false
set_option linter.unusedSimpArgs false
theorem evalidType_any (T : Int) (w : World) : Calls Tryz.prog 39 #[.int .i64 T] w fun e w' => e = .returned (.bool (okT T)) ∧ w = w' := by
  have HE : Hid (okT T = (decide (T = 1) || decide (T = 2) || decide (T = 3))) := by
    show _ = _
    unfold okT
    by_cases h1 : T = 1
    · subst h1; rfl
    · by_cases h2 : T = 2
      · subst h2; rfl
      · by_cases h3 : T = 3
        · subst h3; rfl
        · simp [h1, h2, h3]; omega
  by_cases h1 : T = 1
  · subst h1
    go_enter Tryz.func39, Tryz.ntmps39
    go_wp2_with fail
    go_ret
    exact ⟨rfl, rfl⟩
  · by_cases h2 : T = 2
    · subst h2
      clear h1
      go_enter Tryz.func39, Tryz.ntmps39
      go_wp2_with fail
      go_ret
      exact ⟨rfl, rfl⟩
    · by_cases h3 : T = 3
      · subst h3
        clear h1 h2
        go_enter Tryz.func39, Tryz.ntmps39
        go_wp2_with fail
        go_ret
        exact ⟨rfl, rfl⟩
      · have e1 : (T == 1) = false := by simpa using h1
        have e2 : (T == 2) = false := by simpa using h2
        have e3 : (T == 3) = false := by simpa using h3
        have HE2 := hidden (show okT T = false by rw [HE.out]; simp [h1, h2, h3])
        clear h1 h2 h3
        go_enter Tryz.func39, Tryz.ntmps39
        go_wp2_with fail
        go_ret
        exact ⟨retB1 HE2.out.symm, rfl⟩
theorem enotBool_any (x : Int) (w : World) : Calls Tryz.prog 58 #[.int .i64 x] w fun e w' => e = .returned (.bool (badBool x)) ∧ w = w' := by
  by_cases h0 : x = 0
  · subst h0
    go_enter Tryz.func58, Tryz.ntmps58
    go_wp2_with fail
    go_ret
    exact ⟨rfl, rfl⟩
  · have e1 : (x != 0) = true := by simpa using h0
    have HE := hidden (show badBool x = (x != 1) by unfold badBool; by_cases h1 : x = 1 <;> simp [h0, h1])
    clear h0
    go_enter Tryz.func58, Tryz.ntmps58
    go_wp2_with fail
    go_ret
    exact ⟨retB1 HE.out.symm, rfl⟩
theorem etooLong_any (s : Str) (w : World) : Calls Tryz.prog 60 #[.string (strOf s)] w fun e w' => e = .returned (.bool (tooLong s)) ∧ w = w' := by
  have HS := hidden (strOf_size' s)
  have HT := hidden (show tooLong s = decide ((4096 : Int) < ((strOf s).size : Int)) by rw [HS.out]; unfold tooLong; exact decide_eq_decide.2 (by omega))
  generalize strOf s = t at *
  go_enter Tryz.func60, Tryz.ntmps60
  go_wp2_with fail
  go_ret
  exact ⟨retB1 HT.out.symm, rfl⟩
def FoundR (b : Bool) (w : World) (e : Ending) (w' : World) : Prop := ∃ i : Int, e = .returned (.int .i64 i) ∧ decide (0 ≤ i) = b ∧ w = w'
def SeekRel {α : Type} (l : List α) (f : α → Bool) (w : World) (i : Value) (wr : World) : Prop := ∃ k : Nat, k ≤ l.length ∧ i = .int .i64 (k : Int) ∧ (l.take k).any f = false ∧ w = wr
theorem any_take {α : Type} {l : List α} {f : α → Bool} {k : Nat} (h : k < l.length) : (l.take (k + 1)).any f = ((l.take k).any f || f l[k]) := by
  rw [List.take_succ_eq_append_getElem h, List.any_append, List.any_cons, List.any_nil, Bool.or_false]
theorem any_at {α : Type} {l : List α} {f : α → Bool} {k : Nat} (h : k < l.length) (hf : f l[k] = true) : l.any f = true := List.any_eq_true.2 ⟨_, List.getElem_mem h, hf⟩
set_option maxHeartbeats 1000000 in
theorem indexT_any (v : Value) (l : List Bool) (w : World) (hv : IsT w v l) (hl : l.length ≤ 1000000000) :
    Calls Tryz.prog 75 #[v, .bool true] w (FoundR (l.any id) w) := by
  obtain ⟨A, c, rfl⟩ := hv.slice_
  have HV := hidden hv
  clear hv
  go_enter Tryz.func75, Tryz.ntmps75
  go_wp2_with fail
  go_loopw [5, 8] (fun u i wr => SeekRel l id w i wr) (fun _ i _ => l.length - (intOf i).toNat)
  case atStart => exact ⟨0, by omega, rfl, by simp, rfl⟩
  case round =>
    obtain ⟨k, hk, rfl, hno, rfl⟩ := hrel
    have HNO := hidden hno
    clear hno
    by_cases hlt : k < l.length
    · obtain ⟨b, f, rfl, hck⟩ := HV.out.at_ hlt
      have HAT := hidden (any_at (f := id) hlt)
      have HTK := hidden (any_take (f := id) hlt)
      generalize l[k] = bk at *
      cases bk
      · go_wp2_with fail
        go_roundw
        case rel => exact ⟨k + 1, by omega, by go_num, by rw [HTK.out, HNO.out]; rfl, rfl⟩
        case measure => simp [intOf]; omega
      · go_wp2_with fail
        go_ret
        exact ⟨_, rfl, by rw [HAT.out (by trivial)]; simp, rfl⟩
    · have HF := hidden (show l.any id = false by have h := HNO.out; rwa [List.take_of_length_le (by omega)] at h)
      go_wp2_with fail
      go_ret
      exact ⟨_, rfl, by rw [HF.out]; rfl, rfl⟩
theorem containsT_any (v : Value) (l : List Bool) (w : World) (hv : IsT w v l) (hl : l.length ≤ 1000000000) :
    Calls Tryz.prog 48 #[v, .bool true] w fun e w' => e = .returned (.bool (l.any id)) ∧ w = w' := by
  have HI := hidden (indexT_any v l w hv hl)
  generalize l.any id = r at *
  clear hv
  go_enter Tryz.func48, Tryz.ntmps48
  go_wp2_with fail
  refine HI.out.mono ?_
  rintro e w' ⟨i, rfl, hi, rfl⟩
  have HD := hidden hi
  clear hi
  go_wp2_with fail
  go_ret
  exact ⟨retB1 HD.out, rfl⟩
set_option maxHeartbeats 1000000 in
theorem indexI_any (v : Value) (l : List Int) (w : World) (hv : IsI w v l) (hl : l.length ≤ 1000000000) :
    Calls Tryz.prog 117 #[v, .func (.func 58) #[] #[]] w (FoundR (l.any badBool) w) := by
  obtain ⟨A, c, rfl⟩ := hv.slice_
  have HV := hidden hv
  clear hv
  go_enter Tryz.func117, Tryz.ntmps117
  go_wp2_with fail
  go_loopw [5, 8] (fun u i wr => SeekRel l badBool w i wr) (fun _ i _ => l.length - (intOf i).toNat)
  case atStart => exact ⟨0, by omega, rfl, by simp, rfl⟩
  case round =>
    obtain ⟨k, hk, rfl, hno, rfl⟩ := hrel
    have HNO := hidden hno
    clear hno
    by_cases hlt : k < l.length
    · obtain ⟨b, f, rfl, hck⟩ := HV.out.at_ hlt
      have HAT := hidden (any_at (f := badBool) hlt)
      have HTK := hidden (any_take (f := badBool) hlt)
      have HC := hidden (enotBool_any l[k] w)
      generalize badBool l[k] = bk at *
      generalize l[k] = xk at *
      cases bk
      · go_wp2_with ((go_at_call 58; refine HC.out.mono ?_; rintro e w2 ⟨rfl, rfl⟩))
        go_roundw
        case rel => exact ⟨k + 1, by omega, by go_num, by rw [HTK.out, HNO.out]; rfl, rfl⟩
        case measure => simp [intOf]; omega
      · go_wp2_with ((go_at_call 58; refine HC.out.mono ?_; rintro e w2 ⟨rfl, rfl⟩))
        go_ret
        exact ⟨_, rfl, by rw [HAT.out (by trivial)]; simp, rfl⟩
    · have HF := hidden (show l.any badBool = false by have h := HNO.out; rwa [List.take_of_length_le (by omega)] at h)
      go_wp2_with fail
      go_ret
      exact ⟨_, rfl, by rw [HF.out]; rfl, rfl⟩
theorem containsI_any (v : Value) (l : List Int) (w : World) (hv : IsI w v l) (hl : l.length ≤ 1000000000) :
    Calls Tryz.prog 59 #[v, .func (.func 58) #[] #[]] w fun e w' => e = .returned (.bool (l.any badBool)) ∧ w = w' := by
  have HI := hidden (indexI_any v l w hv hl)
  generalize l.any badBool = r at *
  clear hv
  go_enter Tryz.func59, Tryz.ntmps59
  go_wp2_with fail
  refine HI.out.mono ?_
  rintro e w' ⟨i, rfl, hi, rfl⟩
  have HD := hidden hi
  clear hi
  go_wp2_with fail
  go_ret
  exact ⟨retB1 HD.out, rfl⟩
set_option maxHeartbeats 1000000 in
theorem indexS_any (v : Value) (l : List Str) (w : World) (hv : IsS w v l) (hl : l.length ≤ 1000000000) :
    Calls Tryz.prog 118 #[v, .func (.func 60) #[] #[]] w (FoundR (l.any tooLong) w) := by
  obtain ⟨A, c, rfl⟩ := hv.slice_
  have HV := hidden hv
  clear hv
  go_enter Tryz.func118, Tryz.ntmps118
  go_wp2_with fail
  go_loopw [5, 8] (fun u i wr => SeekRel l tooLong w i wr) (fun _ i _ => l.length - (intOf i).toNat)
  case atStart => exact ⟨0, by omega, rfl, by simp, rfl⟩
  case round =>
    obtain ⟨k, hk, rfl, hno, rfl⟩ := hrel
    have HNO := hidden hno
    clear hno
    by_cases hlt : k < l.length
    · obtain ⟨b, f, rfl, hck⟩ := HV.out.at_ hlt
      have HAT := hidden (any_at (f := tooLong) hlt)
      have HTK := hidden (any_take (f := tooLong) hlt)
      have HC := hidden (etooLong_any l[k] w)
      generalize tooLong l[k] = bk at *
      generalize l[k] = xk at *
      cases bk
      · go_wp2_with ((go_at_call 60; refine HC.out.mono ?_; rintro e w2 ⟨rfl, rfl⟩))
        go_roundw
        case rel => exact ⟨k + 1, by omega, by go_num, by rw [HTK.out, HNO.out]; rfl, rfl⟩
        case measure => simp [intOf]; omega
      · go_wp2_with ((go_at_call 60; refine HC.out.mono ?_; rintro e w2 ⟨rfl, rfl⟩))
        go_ret
        exact ⟨_, rfl, by rw [HAT.out (by trivial)]; simp, rfl⟩
    · have HF := hidden (show l.any tooLong = false by have h := HNO.out; rwa [List.take_of_length_le (by omega)] at h)
      go_wp2_with fail
      go_ret
      exact ⟨_, rfl, by rw [HF.out]; rfl, rfl⟩
theorem containsS_any (v : Value) (l : List Str) (w : World) (hv : IsS w v l) (hl : l.length ≤ 1000000000) :
    Calls Tryz.prog 61 #[v, .func (.func 60) #[] #[]] w fun e w' => e = .returned (.bool (l.any tooLong)) ∧ w = w' := by
  have HI := hidden (indexS_any v l w hv hl)
  generalize l.any tooLong = r at *
  clear hv
  go_enter Tryz.func61, Tryz.ntmps61
  go_wp2_with fail
  refine HI.out.mono ?_
  rintro e w' ⟨i, rfl, hi, rfl⟩
  have HD := hidden hi
  clear hi
  go_wp2_with fail
  go_ret
  exact ⟨retB1 HD.out, rfl⟩
end Go.Proofs.YthmipnokimlbdaaGreat
/-
  Shaken: what the claims of this seat need of this text. No condition.
-/
namespace Go.Proofs.YthmipnokimlbdaaGreat
set_option maxRecDepth 8000
open Go.RowKit
set_option linter.unusedVariables false
set_option linter.unusedSimpArgs false
theorem echeck_any (x : Value) (v : Vec) (w : World) (hx : IsV w x v) (s1 : v.is.length ≤ 1000000) (s2 : v.ts.length ≤ 1000000) :
    Calls Tryz.prog 40 #[x] w fun e w' => e = .returned (.int .i64 (chk v)) ∧ Grows w w' := by
  obtain ⟨T, is, ts, ns⟩ := v
  obtain ⟨a, b, c, rfl, h1, h2, h3⟩ := hx
  dsimp only at *
  have HCI := hidden (fun w' (h : Grows w w') => containsI_any a is w' (h1.grow h) (by omega))
  have HCS := hidden (fun w' (h : Grows w w') => containsS_any b ts w' (h2.grow h) (by omega))
  have HG := hidden (growB w)
  have HE : Hid (chk ⟨T, is, ts, ns⟩ = if T = 1 ∧ is.any badBool = true then 4 else if ts.any tooLong = true then 3 else 0) := rfl
  generalize is.any badBool = p at *
  generalize ts.any tooLong = q at *
  generalize chk ⟨T, is, ts, ns⟩ = r at *
  obtain ⟨A1, c1, rfl⟩ := h1.slice_
  obtain ⟨A2, c2, rfl⟩ := h2.slice_
  obtain ⟨A3, c3, rfl⟩ := h3.slice_
  clear h1 h2 h3 s1 s2
  generalize is.length = n1 at *
  generalize ts.length = n2 at *
  generalize ns.length = n3 at *
  by_cases hT : T = 1
  · subst hT
    cases p
    · have HR := hidden (show r = if q = true then 3 else 0 by rw [HE.out]; simp)
      clear HE
      go_enter Tryz.func40, Tryz.ntmps40
      cases q
      · go_wp2_with (first
          | (go_at_call 59; refine (HCI.out _ (HG.out _)).mono ?_; rintro e w2 ⟨rfl, rfl⟩)
          | (go_at_call 61; refine (HCS.out _ (HG.out _)).mono ?_; rintro e w2 ⟨rfl, rfl⟩))
        go_ret
        exact ⟨by rw [HR.out]; rfl, HG.out _⟩
      · go_wp2_with (first
          | (go_at_call 59; refine (HCI.out _ (HG.out _)).mono ?_; rintro e w2 ⟨rfl, rfl⟩)
          | (go_at_call 61; refine (HCS.out _ (HG.out _)).mono ?_; rintro e w2 ⟨rfl, rfl⟩))
        go_ret
        exact ⟨by rw [HR.out]; rfl, HG.out _⟩
    · have HR := hidden (show r = 4 by rw [HE.out]; simp)
      clear HE
      go_enter Tryz.func40, Tryz.ntmps40
      go_wp2_with (first
          | (go_at_call 59; refine (HCI.out _ (HG.out _)).mono ?_; rintro e w2 ⟨rfl, rfl⟩))
      go_ret
      exact ⟨by rw [HR.out]; rfl, HG.out _⟩
  · have e1 : (T == 1) = false := by simpa using hT
    have HR := hidden (show r = if q = true then 3 else 0 by rw [HE.out, if_neg (fun h => hT h.1)])
    clear HE hT
    go_enter Tryz.func40, Tryz.ntmps40
    cases q
    · go_wp2_with (first
          | (go_at_call 61; refine (HCS.out _ (HG.out _)).mono ?_; rintro e w2 ⟨rfl, rfl⟩))
      go_ret
      exact ⟨by rw [HR.out]; rfl, HG.out _⟩
    · go_wp2_with (first
          | (go_at_call 61; refine (HCS.out _ (HG.out _)).mono ?_; rintro e w2 ⟨rfl, rfl⟩))
      go_ret
      exact ⟨by rw [HR.out]; rfl, HG.out _⟩
theorem growD (w : World) (o : Obj) (k : Nat) : Grows w ((w.alloc o).drewN k) := (growB w o).of_below ⟨rfl, rfl, rfl, Nat.le_refl _, fun _ _ => rfl⟩
theorem bne_len {a b : Nat} (h : ¬ a = b) : ((a : Int) == (b : Int)) = false := by simp; omega
set_option maxHeartbeats 4000000 in
theorem encodable_any (x : Value) (v : Vec) (w : World) (hx : IsV w x v) (hs : Small v) :
    Calls Tryz.prog 33 #[x] w fun e w' => e = .returned (.bool (okV v)) ∧ Grows w w' := by
  have HCK := hidden (fun (q1 : v.is.length ≤ 1000000) (q2 : v.ts.length ≤ 1000000) w' (h : Grows w w') => echeck_any x v w' (hx.grow h) q1 q2)
  obtain ⟨T, is, ts, ns⟩ := v
  obtain ⟨a, b, c, rfl, h1, h2, h3⟩ := hx
  dsimp only at *
  obtain ⟨s1, s2, s3, s4⟩ := hs
  have HCT := hidden (fun (q3 : ns.length ≤ 1000000000) w' (h : Grows w w') => containsT_any c ns w' (h3.grow h) q3)
  have HGD := hidden (growD w)
  have HOK : Hid (okV ⟨T, is, ts, ns⟩ = if T = 3 then decide (ts.length ≤ 65536) && decide (is.length = 0) && decide (ns.length = ts.length) && !ns.any id && decide (chk ⟨T, is, ts, ns⟩ = 0)
    else okT T && decide (is.length ≤ 65536) && decide (ts.length = 0) && decide (ns.length = is.length) && !ns.any id && decide (chk ⟨T, is, ts, ns⟩ = 0)) := rfl
  generalize ns.any id = p at *
  generalize chk ⟨T, is, ts, ns⟩ = r at *
  generalize okV ⟨T, is, ts, ns⟩ = res at *
  obtain ⟨A1, c1, rfl⟩ := h1.slice_
  obtain ⟨A2, c2, rfl⟩ := h2.slice_
  obtain ⟨A3, c3, rfl⟩ := h3.slice_
  clear h1 h2 h3 s1 s2 s3 s4
  generalize is.length = n1 at *
  generalize ts.length = n2 at *
  generalize ns.length = n3 at *
  by_cases HT0 : T = 3
  · have HOT := hidden (show okT T = true by rw [HT0]; rfl)
    have eT : (T == 3) = true := by simpa using HT0
    by_cases b1 : n2 ≤ 65536
    case neg =>
      have HE := hidden (show res = false by rw [HOK.out]; simp [b1, HT0, HOT.out])
      have e1 : decide ((n2 : Int) ≤ 65536) = false := by simp; omega
      clear b1 HOK HT0
      go_enter Tryz.func33, Tryz.ntmps33
      go_wp2_with fail
      go_quiet (fail)
      go_wp2_with (first
        | (go_at_call 39; refine (evalidType_any T _).mono ?_; rintro e w2 ⟨rfl, rfl⟩; rw [HOT.out])
        | (go_at_call 48; refine (HCT.out HQ3.out _ (HGD.out _ _)).mono ?_; rintro e w2 ⟨rfl, rfl⟩)
        | (go_at_call 40; refine (HCK.out HQ1.out HQ2.out _ (HGD.out _ _)).mono ?_; rintro e w2 ⟨rfl, g2⟩; have HG2 := hidden ((HGD.out _ _).of_below g2); clear g2))
      go_ret
      first
        | exact ⟨retB1 HE.out.symm, HGD.out _ _⟩
        | exact ⟨retB1 HE.out.symm, HG2.out⟩
    have e1 : decide ((n2 : Int) ≤ 65536) = true := by simp; omega
    by_cases b2 : n1 = 0
    case neg =>
      have HE := hidden (show res = false by rw [HOK.out]; simp [b2, HT0, HOT.out])
      have e2 : ((n1 : Int) == 0) = false := by simp; omega
      clear b1 b2 HOK HT0
      go_enter Tryz.func33, Tryz.ntmps33
      go_wp2_with fail
      go_quiet (fail)
      go_wp2_with (first
        | (go_at_call 39; refine (evalidType_any T _).mono ?_; rintro e w2 ⟨rfl, rfl⟩; rw [HOT.out])
        | (go_at_call 48; refine (HCT.out HQ3.out _ (HGD.out _ _)).mono ?_; rintro e w2 ⟨rfl, rfl⟩)
        | (go_at_call 40; refine (HCK.out HQ1.out HQ2.out _ (HGD.out _ _)).mono ?_; rintro e w2 ⟨rfl, g2⟩; have HG2 := hidden ((HGD.out _ _).of_below g2); clear g2))
      go_ret
      first
        | exact ⟨retB1 HE.out.symm, HGD.out _ _⟩
        | exact ⟨retB1 HE.out.symm, HG2.out⟩
    have e2 : ((n1 : Int) == 0) = true := by simp; omega
    by_cases b3 : n3 = n2
    case neg =>
      have HE := hidden (show res = false by rw [HOK.out]; simp [b3, HT0, HOT.out])
      have e3 := bne_len b3
      have e4 : (n3 == n2) = false := by simpa using b3
      clear b1 b2 b3 HOK HT0
      go_enter Tryz.func33, Tryz.ntmps33
      go_wp2_with fail
      go_quiet (fail)
      go_wp2_with (first
        | (go_at_call 39; refine (evalidType_any T _).mono ?_; rintro e w2 ⟨rfl, rfl⟩; rw [HOT.out])
        | (go_at_call 48; refine (HCT.out HQ3.out _ (HGD.out _ _)).mono ?_; rintro e w2 ⟨rfl, rfl⟩)
        | (go_at_call 40; refine (HCK.out HQ1.out HQ2.out _ (HGD.out _ _)).mono ?_; rintro e w2 ⟨rfl, g2⟩; have HG2 := hidden ((HGD.out _ _).of_below g2); clear g2))
      go_ret
      first
        | exact ⟨retB1 HE.out.symm, HGD.out _ _⟩
        | exact ⟨retB1 HE.out.symm, HG2.out⟩
    subst b3
    have HQ3 := hidden (show n3 ≤ 1000000000 by omega)
    have HQ1 := hidden (show n1 ≤ 1000000 by omega)
    have HQ2 := hidden (show n3 ≤ 1000000 by omega)
    cases p
    case true =>
      have HE := hidden (show res = false by rw [HOK.out]; simp [HT0, HOT.out])
      clear b1 b2 HOK HT0
      go_enter Tryz.func33, Tryz.ntmps33
      go_wp2_with fail
      go_quiet (fail)
      go_wp2_with (first
        | (go_at_call 39; refine (evalidType_any T _).mono ?_; rintro e w2 ⟨rfl, rfl⟩; rw [HOT.out])
        | (go_at_call 48; refine (HCT.out HQ3.out _ (HGD.out _ _)).mono ?_; rintro e w2 ⟨rfl, rfl⟩)
        | (go_at_call 40; refine (HCK.out HQ1.out HQ2.out _ (HGD.out _ _)).mono ?_; rintro e w2 ⟨rfl, g2⟩; have HG2 := hidden ((HGD.out _ _).of_below g2); clear g2))
      go_ret
      first
        | exact ⟨retB1 HE.out.symm, HGD.out _ _⟩
        | exact ⟨retB1 HE.out.symm, HG2.out⟩
    have HE := hidden (show res = (r == 0) by rw [HOK.out]; by_cases h0 : r = 0 <;> simp [b1, b2, h0, HT0, HOT.out])
    clear b1 b2 HOK HT0
    go_enter Tryz.func33, Tryz.ntmps33
    go_wp2_with fail
    go_quiet (fail)
    go_wp2_with (first
      | (go_at_call 39; refine (evalidType_any T _).mono ?_; rintro e w2 ⟨rfl, rfl⟩; rw [HOT.out])
      | (go_at_call 48; refine (HCT.out HQ3.out _ (HGD.out _ _)).mono ?_; rintro e w2 ⟨rfl, rfl⟩)
      | (go_at_call 40; refine (HCK.out HQ1.out HQ2.out _ (HGD.out _ _)).mono ?_; rintro e w2 ⟨rfl, g2⟩; have HG2 := hidden ((HGD.out _ _).of_below g2); clear g2))
    go_ret
    first
      | exact ⟨retB1 HE.out.symm, HGD.out _ _⟩
      | exact ⟨retB1 HE.out.symm, HG2.out⟩
  · have eT : (T == 3) = false := by simpa using HT0
    by_cases hot : okT T = true
    case neg =>
      have hot' : okT T = false := by simpa using hot
      have HOT := hidden hot'
      have HE := hidden (show res = false by rw [HOK.out]; simp [HT0, hot'])
      clear hot hot' HT0 HOK
      go_enter Tryz.func33, Tryz.ntmps33
      go_wp2_with fail
      go_quiet (fail)
      go_wp2_with (first
        | (go_at_call 39; refine (evalidType_any T _).mono ?_; rintro e w2 ⟨rfl, rfl⟩; rw [HOT.out])
        | (go_at_call 48; refine (HCT.out HQ3.out _ (HGD.out _ _)).mono ?_; rintro e w2 ⟨rfl, rfl⟩)
        | (go_at_call 40; refine (HCK.out HQ1.out HQ2.out _ (HGD.out _ _)).mono ?_; rintro e w2 ⟨rfl, g2⟩; have HG2 := hidden ((HGD.out _ _).of_below g2); clear g2))
      go_ret
      first
        | exact ⟨retB1 HE.out.symm, HGD.out _ _⟩
        | exact ⟨retB1 HE.out.symm, HG2.out⟩
    have HOT := hidden (show okT T = true by exact hot)
    by_cases b1 : n1 ≤ 65536
    case neg =>
      have HE := hidden (show res = false by rw [HOK.out]; simp [b1, HT0, HOT.out])
      have e1 : decide ((n1 : Int) ≤ 65536) = false := by simp; omega
      clear b1 HOK HT0
      go_enter Tryz.func33, Tryz.ntmps33
      go_wp2_with fail
      go_quiet (fail)
      go_wp2_with (first
        | (go_at_call 39; refine (evalidType_any T _).mono ?_; rintro e w2 ⟨rfl, rfl⟩; rw [HOT.out])
        | (go_at_call 48; refine (HCT.out HQ3.out _ (HGD.out _ _)).mono ?_; rintro e w2 ⟨rfl, rfl⟩)
        | (go_at_call 40; refine (HCK.out HQ1.out HQ2.out _ (HGD.out _ _)).mono ?_; rintro e w2 ⟨rfl, g2⟩; have HG2 := hidden ((HGD.out _ _).of_below g2); clear g2))
      go_ret
      first
        | exact ⟨retB1 HE.out.symm, HGD.out _ _⟩
        | exact ⟨retB1 HE.out.symm, HG2.out⟩
    have e1 : decide ((n1 : Int) ≤ 65536) = true := by simp; omega
    by_cases b2 : n2 = 0
    case neg =>
      have HE := hidden (show res = false by rw [HOK.out]; simp [b2, HT0, HOT.out])
      have e2 : ((n2 : Int) == 0) = false := by simp; omega
      clear b1 b2 HOK HT0
      go_enter Tryz.func33, Tryz.ntmps33
      go_wp2_with fail
      go_quiet (fail)
      go_wp2_with (first
        | (go_at_call 39; refine (evalidType_any T _).mono ?_; rintro e w2 ⟨rfl, rfl⟩; rw [HOT.out])
        | (go_at_call 48; refine (HCT.out HQ3.out _ (HGD.out _ _)).mono ?_; rintro e w2 ⟨rfl, rfl⟩)
        | (go_at_call 40; refine (HCK.out HQ1.out HQ2.out _ (HGD.out _ _)).mono ?_; rintro e w2 ⟨rfl, g2⟩; have HG2 := hidden ((HGD.out _ _).of_below g2); clear g2))
      go_ret
      first
        | exact ⟨retB1 HE.out.symm, HGD.out _ _⟩
        | exact ⟨retB1 HE.out.symm, HG2.out⟩
    have e2 : ((n2 : Int) == 0) = true := by simp; omega
    by_cases b3 : n3 = n1
    case neg =>
      have HE := hidden (show res = false by rw [HOK.out]; simp [b3, HT0, HOT.out])
      have e3 := bne_len b3
      have e4 : (n3 == n1) = false := by simpa using b3
      clear b1 b2 b3 HOK HT0
      go_enter Tryz.func33, Tryz.ntmps33
      go_wp2_with fail
      go_quiet (fail)
      go_wp2_with (first
        | (go_at_call 39; refine (evalidType_any T _).mono ?_; rintro e w2 ⟨rfl, rfl⟩; rw [HOT.out])
        | (go_at_call 48; refine (HCT.out HQ3.out _ (HGD.out _ _)).mono ?_; rintro e w2 ⟨rfl, rfl⟩)
        | (go_at_call 40; refine (HCK.out HQ1.out HQ2.out _ (HGD.out _ _)).mono ?_; rintro e w2 ⟨rfl, g2⟩; have HG2 := hidden ((HGD.out _ _).of_below g2); clear g2))
      go_ret
      first
        | exact ⟨retB1 HE.out.symm, HGD.out _ _⟩
        | exact ⟨retB1 HE.out.symm, HG2.out⟩
    subst b3
    have HQ3 := hidden (show n3 ≤ 1000000000 by omega)
    have HQ1 := hidden (show n3 ≤ 1000000 by omega)
    have HQ2 := hidden (show n2 ≤ 1000000 by omega)
    cases p
    case true =>
      have HE := hidden (show res = false by rw [HOK.out]; simp [HT0, HOT.out])
      clear b1 b2 HOK HT0
      go_enter Tryz.func33, Tryz.ntmps33
      go_wp2_with fail
      go_quiet (fail)
      go_wp2_with (first
        | (go_at_call 39; refine (evalidType_any T _).mono ?_; rintro e w2 ⟨rfl, rfl⟩; rw [HOT.out])
        | (go_at_call 48; refine (HCT.out HQ3.out _ (HGD.out _ _)).mono ?_; rintro e w2 ⟨rfl, rfl⟩)
        | (go_at_call 40; refine (HCK.out HQ1.out HQ2.out _ (HGD.out _ _)).mono ?_; rintro e w2 ⟨rfl, g2⟩; have HG2 := hidden ((HGD.out _ _).of_below g2); clear g2))
      go_ret
      first
        | exact ⟨retB1 HE.out.symm, HGD.out _ _⟩
        | exact ⟨retB1 HE.out.symm, HG2.out⟩
    have HE := hidden (show res = (r == 0) by rw [HOK.out]; by_cases h0 : r = 0 <;> simp [b1, b2, h0, HT0, HOT.out])
    clear b1 b2 HOK HT0
    go_enter Tryz.func33, Tryz.ntmps33
    go_wp2_with fail
    go_quiet (fail)
    go_wp2_with (first
      | (go_at_call 39; refine (evalidType_any T _).mono ?_; rintro e w2 ⟨rfl, rfl⟩; rw [HOT.out])
      | (go_at_call 48; refine (HCT.out HQ3.out _ (HGD.out _ _)).mono ?_; rintro e w2 ⟨rfl, rfl⟩)
      | (go_at_call 40; refine (HCK.out HQ1.out HQ2.out _ (HGD.out _ _)).mono ?_; rintro e w2 ⟨rfl, g2⟩; have HG2 := hidden ((HGD.out _ _).of_below g2); clear g2))
    go_ret
    first
      | exact ⟨retB1 HE.out.symm, HGD.out _ _⟩
      | exact ⟨retB1 HE.out.symm, HG2.out⟩
end Go.Proofs.YthmipnokimlbdaaGreat
/-
  Shaken: what the claims of this seat need of this text. No condition.
-/
namespace Go.Proofs.YthmipnokimlbdaaGreat
set_option maxRecDepth 8000
open Go.RowKit
set_option linter.unusedVariables false
set_option linter.unusedSimpArgs false
def fillR {α : Type} (f : α → Value) (z : Value) (l : List α) (k : Nat) : List Value := (l.take k).map f ++ List.replicate (l.length - k) z
theorem fillR_zero {α : Type} (f : α → Value) (z : Value) (l : List α) : fillR f z l 0 = List.replicate l.length z := by unfold fillR; simp
theorem fillR_done {α : Type} (f : α → Value) (z : Value) (l : List α) : fillR f z l l.length = l.map f := by unfold fillR; simp
theorem fillR_get {α : Type} {f : α → Value} {z : Value} {l : List α} {k : Nat} (h : k < l.length) : (fillR f z l k)[k]? = some z := by
  unfold fillR
  rw [List.getElem?_append_right (by rw [List.length_map, List.length_take]; omega), List.length_map, List.length_take, Nat.min_eq_left (by omega), Nat.sub_self, List.getElem?_replicate, if_pos (by omega)]
theorem fillR_set {α : Type} {f : α → Value} {z : Value} {l : List α} {k : Nat} (h : k < l.length) : (fillR f z l k).set k (f l[k]) = fillR f z l (k + 1) := by
  unfold fillR
  obtain ⟨m, hm⟩ : ∃ m, l.length - k = m + 1 := ⟨l.length - k - 1, by omega⟩
  rw [hm, show l.length - (k + 1) = m by omega, List.set_append_right _ _ (by rw [List.length_map, List.length_take]; omega), List.length_map, List.length_take, Nat.min_eq_left (by omega), Nat.sub_self, List.replicate_succ, List.set_cons_zero, List.take_succ_eq_append_getElem h, List.map_append, List.append_assoc]
  rfl
theorem byr_of_made {f : FuncId} {args : Array Value} {w : World} {l : List UInt8} (h : Calls Tryz.prog f args w (Made l w)) : Calls Tryz.prog f args w (ByR l w) :=
  h.mono fun _ _ ⟨v, he, hown, hb⟩ => ⟨v, he, hb, IsBytes.of_own hown⟩
theorem run_room8 (N : Nat) (hN : N ≤ 1000000000) (W : World) :
    (Instr.makeSlice 29 (.int .i64 0) (.int .i64 (N : Int))).run Tryz.prog W = .ok (.slice (some ⟨W.heap.size, 0, none⟩) 0 N) (W.alloc (.cells (madeCells #[.int .u8 0] N) 5)) := by
  obtain ⟨i0, hi, hz0, hz1, hz2⟩ := info_parts info_u8
  have hbs : (i0.bytes : Int) * (N : Int) ≤ 281474976710656 := by rw [hz2]; omega
  have h := run_make (P := Tryz.prog) W 29 5 i0 (.int .u8 0) Tryz.underlying29 hi hz0 .i64 .i64 0 (N : Int) (by omega) (by omega) hbs (by omega)
  rw [hz1] at h
  simpa [Value.cells] using h
theorem own_room8 (w : World) (N : Nat) (hN : N ≤ 1000000000) : (w.alloc (.cells (madeCells #[Value.int .u8 0] N) 5)).ownsRow w.heap.size 5 1 (.slice (some ⟨w.heap.size, 0, none⟩) 0 N) 0 [] := by
  refine ⟨by simp, .inr ⟨w.heap.size, N, madeCells #[Value.int .u8 0] N, rfl, Nat.le_refl _, by show (w.heap.push _)[w.heap.size]? = _; simp, Nat.zero_le _, by unfold maxLen; omega, ?_, by simp⟩⟩
  have h : (madeCells #[Value.int .u8 0] N).toList.length = N := by rw [toList_madeCells_one]; simp
  rw [Array.length_toList] at h
  omega
theorem esizeInts_any (v : Value) (l : List Int) (w : World) (hv : IsI w v l) (hl : l.length ≤ 1000000) :
    Calls Tryz.prog 82 #[v] w fun e w' => e = .returned (.int .i64 ((plI l).length : Int)) ∧ w = w' := by
  obtain ⟨A, c, rfl⟩ := hv.slice_
  rw [plI_length]
  clear hv
  generalize l.length = n at *
  go_enter Tryz.func82, Tryz.ntmps82
  go_wp2_with fail
  go_ret
  exact ⟨ret_eq (by omega), rfl⟩
def EIRel (w : World) (l : List Int) (b i : Value) (wr : World) : Prop :=
  ∃ k : Nat, k ≤ l.length ∧ i = .int .i64 (k : Int) ∧ wr.ownsRow w.heap.size 5 1 b (plI (l.take k)).length (bcells (plI (l.take k))) ∧ Below w.heap.size w wr
set_option maxHeartbeats 4000000 in
theorem eencodeInts_any (v : Value) (l : List Int) (w : World) (hv : IsI w v l) (hl : l.length ≤ 1000000) :
    Calls Tryz.prog 81 #[v] w (Made (plI l) w) := by
  have HSZ := hidden (esizeInts_any v l w hv hl)
  obtain ⟨A, c, rfl⟩ := hv.slice_
  have HV := hidden hv
  have hPL := plI_length l
  obtain ⟨N, hN⟩ : ∃ N, N = (plI l).length := ⟨_, rfl⟩
  rw [← hN] at HSZ hPL
  have hmk := fun W => run_room8 N (by omega) W
  have HRO := hidden (own_room8 w N (by omega))
  clear hv hPL hN
  go_enter Tryz.func81, Tryz.ntmps81
  go_wp2_with ((go_at_call 82; refine HSZ.out.mono ?_; rintro e w2 ⟨rfl, rfl⟩))
  clear hmk
  go_loopw [3, 5, 11] (fun b u i wr => EIRel w l b i wr) (fun _ _ i _ => l.length - (intOf i).toNat)
  case atStart => exact ⟨0, by omega, rfl, by simpa [plI, bcells] using HRO.out, growB _ _⟩
  case round =>
    obtain ⟨k, hk, rfl, hown, hb⟩ := hrel
    have HO := hidden hown
    have HB := hidden hb
    clear hown hb
    by_cases hlt : k < l.length
    · obtain ⟨b, f, rfl, hck⟩ := (HV.out.grow HB.out).at_ hlt
      have HTK := hidden (show plI (l.take (k + 1)) = plI (l.take k) ++ fixb (toU l[k]) 8 by rw [List.take_succ_eq_append_getElem hlt, plI_snoc])
      have HPK := hidden (show (plI (l.take k)).length ≤ 8000000 by rw [plI_length, List.length_take]; omega)
      have HFL := hidden (fixb_length (toU l[k]) 8)
      have hx0 : 0 ≤ IntKind.u64.wrap l[k] := by rw [← toU_cast]; omega
      have hx1 : IntKind.u64.wrap l[k] ≤ 18446744073709551615 := by have := toU_lt l[k]; rw [← toU_cast]; omega
      have HF := hidden (fun w' => fixed_any (IntKind.u64.wrap l[k]) 8 w' hx0 hx1)
      have hfe : fixs (IntKind.u64.wrap l[k]).toNat 8 = fixb (toU l[k]) 8 := fixs_ok (s := 8) (by omega) (by omega)
      rw [hfe] at HF
      clear hfe hx0 hx1
      generalize fixb (toU l[k]) 8 = E at *
      generalize l[k] = x at *
      obtain ⟨P, hP⟩ : ∃ P, plI (l.take k) = P := ⟨_, rfl⟩
      rw [hP] at HO HTK HPK
      clear hP
      go_wp2_with (first
        | (go_at_call 141; refine (HF.out _).mono ?_; rintro e w2 ⟨v2, rfl, hown2, g2⟩; have HO2 := hidden (own_growS HO.out g2); have HB2 := hidden (HB.out.trans (g2.mono HB.out.size)); have HBY := hidden (IsBytes.of_own hown2); clear hown2 g2)
        | (at_builtin; refine wpList_append_bytes (w := w) rfl _ _ 29 rfl 5 Tryz.underlying29 info_u8 _ P (by rfl) HO2.out HB2.out _ E (by rfl) HBY.out (by have h1 := HPK.out; have h2 := HFL.out; omega) ?_; intro v3 w3 hown3 hb3; have HO3 := hidden hown3; have HB3 := hidden hb3; clear hown3 hb3))
      go_roundw
      case rel => exact ⟨k + 1, by omega, by go_num, by rw [HTK.out]; exact HO3.out, HB3.out⟩
      case measure => simp [intOf]; omega
    · have hke : k = l.length := by omega
      rw [hke, List.take_length] at HO
      clear hke
      go_wp2_with fail
      go_ret
      exact ⟨_, rfl, HO.out, HB.out⟩
def ucellT (x : Int) : Value := .int .u64 (IntKind.u64.wrap x)
theorem wcells_toU (l : List Int) : l.map ucellT = wcells (l.map toU) := by
  unfold wcells ucellT
  rw [List.map_map]
  exact List.map_congr_left fun x _ => by show _ = Value.int .u64 ((toU x : Nat) : Int); rw [toU_cast]
def EBRel (w : World) (l : List Int) (i : Value) (wr : World) : Prop :=
  ∃ k : Nat, k ≤ l.length ∧ i = .int .i64 (k : Int) ∧ Row wr w.heap.size 85 (fillR ucellT (.int .u64 0) l k) ∧ Below w.heap.size w wr
theorem packI_one {l : List Int} (hl : l.length ≤ 1000000) : packI (l.map toU) 1 = plB l := by
  unfold packI plB
  rw [List.length_map, show okB (l.length : Int) 1 = true from okB_t (m := 1) (by omega) (by omega), if_pos rfl]
  rfl
set_option maxHeartbeats 4000000 in
theorem eencodeBools_any (v : Value) (l : List Int) (w : World) (hv : IsI w v l) (hl : l.length ≤ 1000000) :
    Calls Tryz.prog 78 #[v] w (ByR (plB l) w) := by
  obtain ⟨A, c, rfl⟩ := hv.slice_
  have HV := hidden hv
  have HPI := hidden (packI_one hl)
  have hmk := run_make_oneM (P := Tryz.prog) 52 85 (.int .u64 0) 8 Tryz.underlying52 info_u64 rfl l.length (by omega) (by omega)
  have HZ := hidden (fillR_zero ucellT (.int .u64 0) l)
  clear hv
  go_enter Tryz.func78, Tryz.ntmps78
  go_wp2_with fail
  clear hmk
  go_loopw [4, 5, 11] (fun u1 u2 i wr => EBRel w l i wr) (fun _ _ i _ => l.length - (intOf i).toNat)
  case atStart => exact ⟨0, by omega, rfl, Row.new _ _ _ _ (by rw [HZ.out]; simp), growB _ _⟩
  case round =>
    obtain ⟨k, hk, rfl, hrow, hb⟩ := hrel
    have HR := hidden hrow
    have HB := hidden hb
    by_cases hlt : k < l.length
    · obtain ⟨b, f, rfl, hck⟩ := (HV.out.grow HB.out).at_ hlt
      have hcell := hrow.cell k
      rw [fillR_get hlt] at hcell
      have hfr := hrow.frozen k
      have HST := hidden (fillR_set (f := ucellT) (z := .int .u64 0) hlt)
      generalize l[k] = x at *
      clear hrow hb
      go_wp2_with fail
      go_roundw
      case rel => exact ⟨k + 1, by omega, by go_num, by rw [← HST.out]; exact HR.out.set_ k _, HB.out.setCell (Nat.le_refl _) _⟩
      case measure => simp [intOf]; omega
    · have hke : k = l.length := by omega
      rw [hke, fillR_done, wcells_toU] at HR
      have hrd : IsW wr (.slice (some ⟨w.heap.size, 0, none⟩) l.length l.length) (l.map toU) := Reads.of_row HR.out l.length l.length (by simp [wcells]) (Nat.le_refl _)
      have HPK := hidden (pack_any _ (l.map toU) 1 wr hrd (U64_toU l) (by rw [List.length_map]; omega))
      rw [HPI.out] at HPK
      clear hke hrd hrow hb
      go_wp2_with fail
      refine HPK.out.mono ?_
      rintro e w2 ⟨v2, rfl, g2, hb2⟩
      have HB2 := hidden hb2
      have HG2 := hidden (HB.out.trans (g2.mono HB.out.size))
      clear hb2 g2
      go_wp2_with fail
      go_ret
      exact ⟨_, rfl, HG2.out, HB2.out⟩
theorem esizeBools_any (v : Value) (l : List Int) (w : World) (hv : IsI w v l) (hl : l.length ≤ 1000000) :
    Calls Tryz.prog 79 #[v] w fun e w' => e = .returned (.int .i64 ((plB l).length : Int)) ∧ w = w' := by
  obtain ⟨A, c, rfl⟩ := hv.slice_
  have HS := hidden (size_any (l.length : Int) 1 w)
  have hz : sizeI (l.length : Int) 1 = (szB l.length 1 : Int) := by
    unfold sizeI
    rw [show okB (l.length : Int) 1 = true from okB_t (m := 1) (by omega) (by omega), if_pos rfl, Int.toNat_natCast]
    rfl
  rw [hz] at HS
  rw [plB_length]
  clear hv hz
  generalize szB l.length 1 = r at *
  generalize l.length = n at *
  go_enter Tryz.func79, Tryz.ntmps79
  go_wp2_with fail
  refine HS.out.mono ?_
  rintro e w2 ⟨rfl, rfl⟩
  go_wp2_with fail
  go_ret
  exact ⟨rfl, rfl⟩
theorem eencodeLength_any (s : Str) (w : World) (hs : s.length ≤ 1000000) : Calls Tryz.prog 164 #[.string (strOf s)] w (Made (enc s.length) w) := by
  have HE := hidden (encode_any (s.length : Int) w (by omega) (by omega))
  rw [Int.toNat_natCast] at HE
  have hsz : (strOf s).size = s.length := rfl
  generalize strOf s = t at *
  generalize enc s.length = E at *
  generalize s.length = n at *
  go_enter Tryz.func164, Tryz.ntmps164
  go_wp2_with fail
  refine HE.out.mono ?_
  rintro e w2 ⟨v2, rfl, hown2, g2⟩
  have HO := hidden hown2
  have HG := hidden g2
  clear hown2 g2
  go_wp2_with fail
  go_ret
  exact ⟨_, rfl, HO.out, HG.out⟩
theorem wordsL_one (s : Str) : wordL s = enc s.length ++ s := rfl
def ESRelEn3 (w : World) (l : List Str) (s i : Value) (wr : World) : Prop :=
  ∃ k : Nat, k ≤ l.length ∧ i = .int .i64 (k : Int) ∧ s = .int .i64 ((wordsL (l.take k)).length : Int) ∧ Grows w wr
set_option maxHeartbeats 4000000 in
theorem esizeTexts_any (v : Value) (l : List Str) (w : World) (hv : IsS w v l) (hl : l.length ≤ 1000000) (hs : ∀ s ∈ l, s.length ≤ 1000000) :
    Calls Tryz.prog 96 #[v] w fun e w' => e = .returned (.int .i64 ((wordsL l).length : Int)) ∧ Grows w w' := by
  obtain ⟨A, c, rfl⟩ := hv.slice_
  have HV := hidden hv
  have HSL := hidden hs
  clear hv hs
  go_enter Tryz.func96, Tryz.ntmps96
  go_wp2_with fail
  go_loopw [3, 5, 8] (fun s u i wr => ESRelEn3 w l s i wr) (fun _ _ i _ => l.length - (intOf i).toNat)
  case atStart => exact ⟨0, by omega, rfl, rfl, Below.refl _ _⟩
  case round =>
    obtain ⟨k, hk, rfl, rfl, hb⟩ := hrel
    have HB := hidden hb
    clear hb
    by_cases hlt : k < l.length
    · obtain ⟨b, f, rfl, hck⟩ := (HV.out.grow HB.out).at_ hlt
      have hsl := HSL.out _ (List.getElem_mem hlt)
      have HTK := hidden (show (wordsL (l.take (k + 1))).length = (wordsL (l.take k)).length + ((enc l[k].length).length + l[k].length) by
        rw [wordsL_take hlt, List.length_append, wordsL_one, List.length_append])
      have hbd : (wordsL (l.take k)).length ≤ 1000010 * 1000000 := by
        have h1 := wordsL_len (ws := l.take k) fun x hx => HSL.out x (List.mem_of_mem_take hx)
        rw [List.length_take] at h1
        have h3 : 1000010 * min k l.length ≤ 1000010 * 1000000 := Nat.mul_le_mul_left _ (by omega)
        omega
      have hsz : (strOf l[k]).size = l[k].length := rfl
      have HEK := hidden (eencodeLength_any l[k] wr (by omega))
      have hel := enc_len10 (n := l[k].length) (by omega)
      generalize l[k] = s at *
      generalize enc s.length = E at *
      generalize strOf s = t at *
      generalize (wordsL (l.take k)).length = P at *
      generalize s.length = n at *
      go_wp2_with fail
      refine HEK.out.mono ?_
      rintro e w2 ⟨v2, rfl, hown2, g2⟩
      obtain ⟨A2, c2, rfl⟩ := own_sliceB hown2
      have HB2 := hidden (HB.out.of_below g2)
      clear hown2 g2 hck
      go_wp2_with fail
      go_roundw
      case rel => exact ⟨k + 1, by omega, by go_num, by rw [HTK.out]; first | rfl | (congr 1), HB2.out⟩
      case measure => simp [intOf]; omega
    · have HF := hidden (show wordsL (l.take k) = wordsL l by rw [List.take_of_length_le (by omega)])
      go_wp2_with fail
      go_ret
      exact ⟨ret_eq (by rw [HF.out]), HB.out⟩
def ETRel (w : World) (l : List Str) (b i : Value) (wr : World) : Prop :=
  ∃ k : Nat, k ≤ l.length ∧ i = .int .i64 (k : Int) ∧ wr.ownsRow w.heap.size 5 1 b (wordsL (l.take k)).length (bcells (wordsL (l.take k))) ∧ Below w.heap.size w wr
set_option maxHeartbeats 4000000 in
theorem eencodeTexts_any (v : Value) (l : List Str) (w : World) (hv : IsS w v l) (hl : l.length ≤ 1000000) (hs : ∀ s ∈ l, s.length ≤ 1000000) (htot : (wordsL l).length ≤ 1000000000) :
    Calls Tryz.prog 95 #[v] w (Made (wordsL l) w) := by
  have HSZ := hidden (esizeTexts_any v l w hv hl hs)
  obtain ⟨A, c, rfl⟩ := hv.slice_
  have HV := hidden hv
  have HSL := hidden hs
  obtain ⟨N, hN⟩ : ∃ N, N = (wordsL l).length := ⟨_, rfl⟩
  rw [← hN] at HSZ htot
  have hmk := fun W => run_room8 N htot W
  have HRO := hidden (fun W => own_room8 W N htot)
  clear hv hs hN htot
  go_enter Tryz.func95, Tryz.ntmps95
  go_wp2_with fail
  refine HSZ.out.mono ?_
  rintro e w1 ⟨rfl, g1⟩
  have HG1 := hidden g1
  clear g1
  go_wp2_with fail
  clear hmk
  go_loopw [3, 5, 11] (fun b u i wr => ETRel w l b i wr) (fun _ _ i _ => l.length - (intOf i).toNat)
  case atStart => exact ⟨0, by omega, rfl, ownsRow_base (by simpa [wordsL, bcells] using HRO.out w1) HG1.out.size, HG1.out.of_below (growB _ _)⟩
  case round =>
    obtain ⟨k, hk, rfl, hown, hb⟩ := hrel
    have HO := hidden hown
    have HB := hidden hb
    clear hown hb
    by_cases hlt : k < l.length
    · obtain ⟨b, f, rfl, hck⟩ := (HV.out.grow HB.out).at_ hlt
      have HTK := hidden (wordsL_take hlt)
      have hsl := HSL.out _ (List.getElem_mem hlt)
      have HWL := hidden (show (wordsL (l.take k)).length ≤ 100000000000000 by
        have h1 := wordsL_len (ws := l.take k) fun x hx => HSL.out x (List.mem_of_mem_take hx)
        rw [List.length_take] at h1
        have h3 : 1000010 * min k l.length ≤ 1000010 * 1000000 := Nat.mul_le_mul_left _ (by omega)
        omega)
      obtain ⟨P, hP⟩ : ∃ P, wordsL (l.take k) = P := ⟨_, rfl⟩
      have HTP := hidden (show wordsL (l.take (k + 1)) = P ++ enc l[k].length ++ l[k] by
        rw [HTK.out, ← hP]; simp [wordL])
      rw [hP] at HO HWL
      have hsz : (strOf l[k]).size = l[k].length := rfl
      have HEK := hidden (eencodeLength_any l[k] wr (by omega))
      have HEL2 := hidden (enc_len10 (n := l[k].length) (by omega))
      generalize l[k] = s at *
      generalize enc s.length = E at *
      clear hP HTK
      go_wp2_with fail
      refine HEK.out.mono ?_
      rintro e w2 ⟨v2, rfl, hown2, g2⟩
      have HO2 := hidden (own_growS HO.out g2)
      have HB2 := hidden (HB.out.trans (g2.mono HB.out.size))
      have HBY := hidden (IsBytes.of_own hown2)
      clear hown2 g2 hck
      have hw1 := HWL.out
      have hw2 := HEL2.out
      go_wp2_with (first
        | (at_builtin; refine wpList_append_bytes (w := w) rfl _ _ 29 rfl 5 Tryz.underlying29 info_u8 _ P (by rfl) HO2.out HB2.out _ E (by rfl) HBY.out (by omega) ?_; intro v3 w3 hown3 hb3; have HO3 := hidden hown3; have HB3 := hidden hb3; clear hown3 hb3)
        | (at_builtin; refine wpList_append_str (w := w) rfl _ _ 29 9 rfl 5 Tryz.underlying29 Tryz.underlying9 info_u8 _ (P ++ E) (by rfl) HO3.out HB3.out s (by rfl) (by rw [List.length_append]; omega) ?_; intro v4 w4 hown4 hb4; have HO4 := hidden hown4; have HB4 := hidden hb4; clear hown4 hb4))
      first
        | (go_roundw; (case rel => exact ⟨k + 1, by omega, by go_num, by rw [HTP.out]; exact HO4.out, HB4.out⟩); (case measure => simp [intOf]; omega))
        | exact ⟨⟨k + 1, by omega, by go_num, by rw [HTP.out]; exact HO4.out, HB4.out⟩, by simp [intOf]; omega⟩
    · have hke : k = l.length := by omega
      rw [hke, List.take_length] at HO
      clear hke
      go_wp2_with fail
      go_ret
      exact ⟨_, rfl, HO.out, HB.out⟩
theorem eencodeRuns_any (v : Value) (l : List Int) (w : World) (hv : IsI w v l) (hl : l.length ≤ 65536) (hin : ∀ x ∈ l, frIn x) :
    Calls Tryz.prog 84 #[v] w (ByR (encR (runsR l)) w) := by
  have HRU := hidden (lruns_any v l w hv (by omega))
  have hval := runs_valid hl
  have hll := valid_length hval
  have hcnt : ∀ x ∈ runsR l, 0 ≤ x.2 ∧ x.2 ≤ 9223372036854775807 := fun x hx => by obtain ⟨j, hj, rfl⟩ := List.getElem_of_mem hx; have h1 := valid_count hval hj; have h2 := (valid_sum hval j (by omega)).1; omega
  have HEN := hidden (fun w' v' (h : ReadsR w' v' (runsR l)) => lencode_any v' (runsR l) w' h (runs_in hin) hcnt (by omega))
  obtain ⟨A, c, rfl⟩ := hv.slice_
  generalize encR (runsR l) = E at *
  clear hv hval hll hcnt hin
  go_enter Tryz.func84, Tryz.ntmps84
  go_wp2_with fail
  refine HRU.out.mono ?_
  rintro e w2 ⟨u, rfl, g2, hr2⟩
  have HR2 := hidden hr2
  have HG2 := hidden g2
  clear hr2 g2
  go_wp2_with fail
  refine (HEN.out _ _ HR2.out).mono ?_
  rintro e w3 ⟨v3, rfl, hown3, g3⟩
  have HB3 := hidden (IsBytes.of_own hown3)
  have HG3 := hidden (HG2.out.of_below g3)
  clear hown3 g3
  go_wp2_with fail
  go_ret
  exact ⟨_, rfl, HG3.out, HB3.out⟩
theorem esizeRuns_any (v : Value) (l : List Int) (w : World) (hv : IsI w v l) (hl : l.length ≤ 65536) (hin : ∀ x ∈ l, frIn x) :
    Calls Tryz.prog 85 #[v] w fun e w' => e = .returned (.int .i64 ((encR (runsR l)).length : Int)) ∧ Grows w w' := by
  have HRU := hidden (eencodeRuns_any v l w hv hl hin)
  obtain ⟨A, c, rfl⟩ := hv.slice_
  generalize encR (runsR l) = E at *
  clear hv hin
  go_enter Tryz.func85, Tryz.ntmps85
  go_wp2_with fail
  refine HRU.out.mono ?_
  rintro e w2 ⟨u, rfl, g2, hb2⟩
  obtain ⟨A2, c2, rfl, _⟩ := hb2
  have HG2 := hidden g2
  clear g2
  go_wp2_with fail
  go_ret
  exact ⟨rfl, HG2.out⟩
end Go.Proofs.YthmipnokimlbdaaGreat
/-
  Shaken: what the claims of this seat need of this text. No condition.
-/
namespace Go.Proofs.YthmipnokimlbdaaGreat
set_option maxRecDepth 8000
open Go.RowKit
set_option linter.unusedVariables false
set_option linter.unusedSimpArgs false
def plainL (b : List UInt8) (o n : Nat) : List Int := (List.range n).map fun j => toI (le ((b.drop (o + 8 * j)).take 8))
theorem plainL_length (b : List UInt8) (o n : Nat) : (plainL b o n).length = n := by simp [plainL]
theorem plainL_get {b : List UInt8} {o n k : Nat} (h : k < (plainL b o n).length) : (plainL b o n)[k] = toI (le ((b.drop (o + 8 * k)).take 8)) := by simp [plainL]
theorem pdI_ok {b : List UInt8} {o n : Nat} (h : o + 8 * n ≤ b.length) : pdI b o n = (plainL b o n, ((o + 8 * n : Nat) : Int), 0) := if_pos h
theorem pdI_no {b : List UInt8} {o n : Nat} (h : ¬ o + 8 * n ≤ b.length) : pdI b o n = ([], 0, 2) := if_neg h
theorem readR {r s : List Int × Int × Int} {w w' : World} {v : Value} {q f : Int} (h : r = (s.1, q, f)) (hv : IsI w' v s.1) (hg : Grows w w') (hf : FreshI w.heap.size w' v) : LDecF r w (.returned (.tuple #[v, .int .i64 q, .int .i64 f])) w' := by
  subst h
  exact ⟨v, rfl, hv, hg, hf⟩
theorem wrapi64 (x : Int) : IntKind.i64.wrap x = RowKit.wrap64 x := by rw [IntKind.wrap_i64]; unfold RowKit.wrap64; rfl
def DIRel (w : World) (b : List UInt8) (o n : Nat) (off i : Value) (wr : World) : Prop :=
  ∃ k p : Nat, k ≤ n ∧ i = .int .i64 (k : Int) ∧ off = .int .i64 (p : Int) ∧ p = o + 8 * k ∧ p ≤ b.length ∧ Row wr w.heap.size 2 (fillR (Value.int .i64) (.int .i64 0) (plainL b o n) k) ∧ Below w.heap.size w wr
set_option maxHeartbeats 4000000 in
theorem edecodeInts_any (A : Option Addr) (c : Nat) (b : List UInt8) (o n : Nat) (w : World) (hb : IsBytes w (.slice A b.length c) b) (hl : b.length ≤ 1000000) (ho : o ≤ b.length) (hn : n ≤ 65536) :
    Calls Tryz.prog 83 #[.slice A b.length c, .int .i64 (o : Int), .int .i64 (n : Int)] w (LDecF (pdI b o n) w) := by
  have HV := hidden hb
  have hmk := run_make_oneM (P := Tryz.prog) 22 2 (.int .i64 0) 8 Tryz.underlying22 info_i64 rfl n (by omega) (by omega)
  have HZ := hidden (fillR_zero (Value.int .i64) (.int .i64 0) (plainL b o n))
  have HLN := hidden (plainL_length b o n)
  have HRD := hidden (fun (p : Nat) (W : World) (hW : Grows w W) (hp : p ≤ b.length) => readFixed_any (.slice A b.length c) b (p : Int) 8 W (hb.grow hW) (by unfold maxLen; omega) (by omega) (by omega))
  have HO := hidden ho
  obtain ⟨R, hR⟩ : ∃ R, R = pdI b o n := ⟨_, rfl⟩
  rw [← hR]
  have HR := hidden hR
  clear hb ho hR
  go_enter Tryz.func83, Tryz.ntmps83
  go_wp2_with fail
  clear hmk
  go_loopw [1, 10, 11, 12, 17] (fun off u1 u2 u3 i wr => DIRel w b o n off i wr) (fun _ _ _ _ i _ => n - (intOf i).toNat)
  case atStart => exact ⟨0, o, by omega, rfl, rfl, by omega, HO.out, Row.new _ _ _ _ (by rw [HZ.out, HLN.out]; simp), growB _ _⟩
  case round =>
    obtain ⟨k, p, hk, rfl, rfl, hp, hpb, hrow, hb⟩ := hrel
    have HP := hidden hp
    have HPB := hidden hpb
    have HRW := hidden hrow
    have HB := hidden hb
    by_cases hlt : k < n
    · by_cases hs : p + 8 ≤ b.length
      · have HF := hidden (HRD.out p wr hb hpb)
        rw [show rdf b (p : Int) 8 = ((le ((b.drop p).take 8) : Int), 0) from rdf_ok (s := 8) (by omega) (by omega) hs] at HF
        have hkl : k < (plainL b o n).length := by rw [HLN.out]; exact hlt
        have hcell := hrow.cell k
        rw [fillR_get hkl] at hcell
        have hfr := hrow.frozen k
        have HST := hidden (fillR_set (f := Value.int .i64) (z := .int .i64 0) hkl)
        have hge := plainL_get hkl
        rw [← hp] at hge
        rw [hge] at HST
        unfold toI at HST
        have HW64 := hidden (fun x : Int => wrapi64 x)
        generalize le ((b.drop p).take 8) = x at *
        have HS := hidden hs
        clear hrow hb hp hs hge hkl
        go_wp2_with ((go_at_call 142; refine HF.out.mono ?_; rintro e w2 ⟨rfl, rfl⟩))
        go_roundw
        case rel => exact ⟨k + 1, p + 8, by omega, by go_num, by go_num, by have := HP.out; omega, HS.out, by rw [← HST.out, HW64.out]; exact HRW.out.set_ k _, HB.out.setCell (Nat.le_refl _) _⟩
        case measure => simp [intOf]; omega
      · have HF := hidden (HRD.out p wr hb hpb)
        rw [rdf_short (by omega) (by omega)] at HF
        have HE := hidden (show R = ([], 0, 2) by rw [HR.out]; exact pdI_no (by omega))
        clear hrow hb hp hs
        go_wp2_with ((go_at_call 142; refine HF.out.mono ?_; rintro e w2 ⟨rfl, rfl⟩))
        go_ret3
        exact LDecF.err HE.out HB.out
    · have hke : k = n := by omega
      have HE := hidden (show R = (plainL b o n, (p : Int), 0) by rw [HR.out, hp, hke]; exact pdI_ok (by omega))
      have hfd := fillR_done (Value.int .i64) (.int .i64 0) (plainL b o n)
      rw [HLN.out] at hfd
      have hrow2 := hrow
      rw [hke, hfd] at hrow2
      have HRD2 := hidden (show IsI wr (.slice (some ⟨w.heap.size, 0, none⟩) n n) (plainL b o n) from Reads.of_row hrow2 n n (by simp [HLN.out]) (Nat.le_refl _))
      have HRT := hidden hrow2
      clear hrow hrow2 hb hp hke hfd
      go_wp2_with fail
      go_ret3
      exact readR (s := (plainL b o n, 0, 0)) HE.out HRD2.out HB.out (FreshI.laid (Nat.le_refl _) HRT.out _ _ _)
set_option maxHeartbeats 1000000 in
theorem edecodeRuns_any (v : Value) (b : List UInt8) (o n : Nat) (w : World) (hb : IsBytes w v b) (hl : b.length ≤ 1000000) (ho : o ≤ b.length) (hn : n ≤ 65536) :
    Calls Tryz.prog 86 #[v, .int .i64 (o : Int), .int .i64 (n : Int)] w (LDecF (drR b o n) w) := by
  have HD := hidden (ldecode_any v b (o : Int) w hb (by omega) (by omega) (by omega))
  obtain ⟨A, c, rfl, _⟩ := hb
  by_cases h1 : (dcR b o).2.2 = 0
  · obtain ⟨o', k, hoo, hq, hle, hval, hin, _⟩ := dcR_acc h1
    obtain rfl : o = o' := by omega
    clear hoo
    obtain ⟨q, hqn⟩ : ∃ q : Nat, q = o + k := ⟨_, rfl⟩
    rw [← hqn] at hq
    have e1 : dcR b o = ((dcR b o).1, (q : Int), 0) := by rw [← h1, ← hq]
    have hlen := valid_expR hval
    have HEX := hidden (fun (u : Value) (W : World) (hu : ReadsR W u (dcR b o).1) => lexpandF_any u (dcR b o).1 W hu (by have := valid_length hval; omega))
    rw [e1] at HD
    have hx1 : expI (dcR b o).1 = expR (dcR b o).1 := by unfold expI; rw [if_pos hval]
    rw [hx1] at HEX
    by_cases h2 : (expR (dcR b o).1).length = n
    · have HE := hidden (show drR b o n = (expR (dcR b o).1, (q : Int), 0) by unfold drR; rw [if_neg (by rw [h1]; simp), if_neg (by rw [h2]; simp), hq])
      generalize drR b o n = R at *
      generalize expR (dcR b o).1 = E at *
      generalize expE (dcR b o).1 = x at *
      generalize (dcR b o).1 = rs at *
      generalize dcR b o = Z at *
      have H2 := hidden h2
      clear h1 hq e1 hval hin hle hqn hx1 hlen h2
      go_enter Tryz.func86, Tryz.ntmps86
      go_wp2_with fail
      refine HD.out.mono ?_
      rintro e w2 ⟨u, rfl, g2, hr2⟩
      have HR2 := hidden hr2
      have HG2 := hidden g2
      clear hr2 g2
      go_wp2_with fail
      refine (HEX.out _ _ HR2.out).mono ?_
      rintro e w3 ⟨u3, rfl, g3, hi3, hf3⟩
      obtain ⟨A3, c3, rfl⟩ := hi3.slice_
      have HF3 := hidden (hf3.mono HG2.out.size)
      clear hf3
      have HI3 := hidden hi3
      have HG3 := hidden (HG2.out.of_below g3)
      clear hi3 g3
      obtain rfl := H2.out
      go_wp2_with fail
      go_ret3
      exact readR (s := (E, 0, 0)) HE.out HI3.out HG3.out HF3.out
    · have HE := hidden (show drR b o n = ([], 0, 18) by unfold drR; rw [if_neg (by rw [h1]; simp), if_pos (by omega)])
      generalize drR b o n = R at *
      generalize expR (dcR b o).1 = E at *
      generalize expE (dcR b o).1 = x at *
      generalize (dcR b o).1 = rs at *
      generalize dcR b o = Z at *
      have hne : (E.length != n) = true := by simpa using h2
      have hne2 : ((E.length : Int) != (n : Int)) = true := by simp; omega
      clear h1 hq e1 hval hin hle hqn hx1 hlen h2
      go_enter Tryz.func86, Tryz.ntmps86
      go_wp2_with fail
      refine HD.out.mono ?_
      rintro e w2 ⟨u, rfl, g2, hr2⟩
      have HR2 := hidden hr2
      have HG2 := hidden g2
      clear hr2 g2
      go_wp2_with fail
      refine (HEX.out _ _ HR2.out).mono ?_
      rintro e w3 ⟨u3, rfl, g3, hi3, hf3⟩
      obtain ⟨A3, c3, rfl⟩ := hi3.slice_
      have HG3 := hidden (HG2.out.of_below g3)
      clear hi3 g3 hf3
      go_wp2_with fail
      go_ret3
      exact LDecF.err HE.out HG3.out
  · have HE := hidden (show drR b o n = ([], 0, (dcR b o).2.2) by unfold drR; rw [if_pos h1])
    have hne : ((dcR b o).2.2 != 0) = true := by simpa using h1
    generalize drR b o n = R at *
    generalize dcR b o = Z at *
    obtain ⟨z1, z2, z3⟩ := Z
    simp only [] at hne HD HE
    clear h1
    go_enter Tryz.func86, Tryz.ntmps86
    go_wp2_with fail
    refine HD.out.mono ?_
    rintro e w2 ⟨u, rfl, g2, hr2⟩
    have HG2 := hidden g2
    clear hr2 g2
    go_wp2_with fail
    go_ret3
    exact LDecF.err HE.out HG2.out
end Go.Proofs.YthmipnokimlbdaaGreat
/-
  Shaken: what the claims of this seat need of this text. No condition.
-/
namespace Go.Proofs.YthmipnokimlbdaaGreat
set_option maxRecDepth 8000
open Go.RowKit
set_option linter.unusedVariables false
set_option linter.unusedSimpArgs false
theorem RsR.of {r : List Str × Int × Int} {l : List Str} {w w' : World} {v : Value} {q f : Int} (h : r = (l, q, f)) (hv : IsS w' v l) (hg : Grows w w') : RsR r w (.returned (.tuple #[v, .int .i64 q, .int .i64 f])) w' := by
  subst h
  exact ⟨v, rfl, hg, hv⟩
theorem RsR.no {r : List Str × Int × Int} {w w' : World} {f : Int} (h : r = ([], 0, f)) (hg : Grows w w') : RsR r w (.returned (.tuple #[.slice none 0 0, .int .i64 0, .int .i64 f])) w' := by
  subst h
  exact ⟨_, rfl, hg, Reads.nil_ _ 0⟩
def DTRelEn5 (w : World) (b : List UInt8) (n : Nat) (R : List Str × Int × Int) (off vs i : Value) (wr : World) : Prop :=
  ∃ (k q : Nat) (ws : List Str), k ≤ n ∧ i = .int .i64 (k : Int) ∧ off = .int .i64 (q : Int) ∧ q ≤ b.length ∧ ws.length = k ∧ wr.ownsRow w.heap.size 9 1 vs ws.length (scells ws) ∧ pdTs b (n - k) ws q = R ∧ Grows w wr
set_option maxHeartbeats 4000000 in
theorem edecodeTexts_any (A : Option Addr) (c : Nat) (b : List UInt8) (o n : Nat) (w : World) (hb : IsBytes w (.slice A b.length c) b) (hlc : b.length ≤ c) (hl : b.length ≤ 1000000) (ho : o ≤ b.length) (hn : n ≤ 65536) :
    Calls Tryz.prog 97 #[.slice A b.length c, .int .i64 (o : Int), .int .i64 (n : Int)] w (RsR (pdTs b n [] o) w) := by
  have HV := hidden hb
  have HDC := hidden (fun (q : Nat) (W : World) (hW : Grows w W) (hq : q ≤ b.length) => decode_any (.slice A b.length c) b q W (hb.grow hW) (by unfold maxLen; omega) (by omega) (by omega))
  obtain ⟨R, hR⟩ : ∃ R, R = pdTs b n [] o := ⟨_, rfl⟩
  rw [← hR]
  have HR := hidden hR.symm
  have HO := hidden ho
  clear hb hR ho
  go_enter Tryz.func97, Tryz.ntmps97
  go_wp2_with fail
  go_loopw [1, 9, 10, 11, 12, 15] (fun off vs u1 u2 u3 i wr => DTRelEn5 w b n R off vs i wr) (fun _ _ _ _ _ i _ => n - (intOf i).toNat)
  case atStart => exact ⟨0, o, [], by omega, rfl, rfl, HO.out, rfl, own_emptyS w (Nat.le_refl _), HR.out, growB _ _⟩
  case round =>
    obtain ⟨k, q, ws, hk, rfl, rfl, hq, hwl, hown, hres, hbw⟩ := hrel
    have HB := hidden hbw
    have HOW := hidden hown
    have HWL := hidden hwl
    have HRES := hidden hres
    obtain ⟨A2, c2, rfl⟩ := own_sliceS hown
    by_cases hlt : k < n
    · obtain ⟨f, hf⟩ : ∃ f, n - k = f + 1 := ⟨n - k - 1, by omega⟩
      have HF := hidden (show n - (k + 1) = f by omega)
      rw [hf] at HRES
      have HD := hidden (HDC.out q wr hbw hq)
      have HIS := hidden (HV.out.grow hbw)
      have hsz := hbw.size
      have HLN1 := hidden (show ws.length + 1 ≤ 1000000000000 by omega)
      by_cases h1 : (dcd b q).2.2 = 0
      · obtain ⟨m, k1, hd, hk1, _, _, hm64⟩ := dcd_acc11 hq h1
        obtain ⟨q2, hq2⟩ : ∃ q2, q2 = q + k1 := ⟨_, rfl⟩
        rw [← hq2] at hd hk1
        rw [hd] at HD
        obtain ⟨Z, hZ⟩ : ∃ Z : Nat, Z = b.length - q2 := ⟨_, rfl⟩
        have hZ1 : (b.length : Int) - (q2 : Int) = (Z : Int) := by omega
        have hZl : Z ≤ 1000000000 := by omega
        by_cases h2 : m ≤ 4096
        · have hd4 : decide ((4096 : Int) < (m : Int)) = false := by simp; omega
          by_cases h3 : q2 + m ≤ b.length
          · have hrw := rdW_ok hd h2 h3
            have HN := hidden (show pdTs b f (ws ++ [cutB b q2 m]) ((q2 + m : Nat) : Int) = R by
              have h := HRES.out
              rw [pdTs_n (by rw [hrw]), hrw] at h
              exact h)
            obtain ⟨E, hE⟩ : ∃ E, E = q2 + m := ⟨_, rfl⟩
            have hPE : (q2 : Int) + (m : Int) = (E : Int) := by omega
            rw [← hE] at HN
            obtain ⟨bb, ff, rfl⟩ := some_of_bytes HV.out (by omega)
            have hPL : q2 ≤ E := by omega
            have hEl : E ≤ b.length := by omega
            have HEL := hidden hEl
            have HEN := hidden (show E - q2 = m by omega)
            have hd3 : decide (Z < m) = false := by simp; omega
            have HCB := hidden (show (b.drop q2).take m = cutB b q2 m from rfl)
            clear hown hbw hwl hres hf hd hq2 hZ h3 hrw hE h1 hq hk1
            go_wp2_with (first
              | (go_at_call 165; refine HD.out.mono ?_; rintro e w2 ⟨rfl, rfl⟩)
              | (refine wpList_slice_bytes rfl _ _ _ 29 5 rfl Tryz.underlying29 (by kernel_rfl) (by kernel_rfl) bb ff b c rfl HIS.out q2 E rfl rfl hPL hEl hlc ?_; rw [HEN.out]; intro v9 hv9; have HV9 := hidden hv9; clear hv9)
              | (refine wpList_tostring rfl _ 29 9 5 rfl Tryz.underlying29 Tryz.underlying5 Tryz.underlying9 v9 _ rfl HV9.out ?_; rw [HCB.out])
              | (at_builtin; go_loud (refine wpList_append_s rfl _ _ rfl _ ws (by rfl) w.heap.size HOW.out w HB.out hsz _ _ rfl (by rfl) HLN1.out ?_); intro v5 w5 hown5 hb5; have HO5 := hidden hown5; have HB5 := hidden hb5; clear hown5 hb5))
            first
              | (go_roundw; (case rel => exact ⟨k + 1, E, _, by omega, by go_num, rfl, HEL.out, by rw [List.length_append, List.length_singleton, HWL.out], HO5.out, by rw [HF.out]; exact HN.out, HB5.out⟩); (case measure => simp [intOf]; omega))
              | exact ⟨⟨k + 1, E, _, by omega, by go_num, rfl, HEL.out, by rw [List.length_append, List.length_singleton, HWL.out], HO5.out, by rw [HF.out]; exact HN.out, HB5.out⟩, by simp [intOf]; omega⟩
          · have hrw := rdW_s (b := b) (p := q) (by rw [hd]) (by rw [hd]; simp; omega) (by rw [hd]; simp only []; omega)
            have HE := hidden (show R = ([], 0, 2) by
              have h := HRES.out
              rw [pdTs_e (by rw [hrw]; simp), hrw] at h
              exact h.symm)
            have hd3 : decide (Z < m) = true := by simp; omega
            clear hown hbw hwl hres hf hd hq2 hZ h3 hrw h1 hq hk1
            go_wp2_with ((go_at_call 165; refine HD.out.mono ?_; rintro e w2 ⟨rfl, rfl⟩))
            go_ret3
            exact RsR.no HE.out HB.out
        · have hd4 : decide ((4096 : Int) < (m : Int)) = true := by simp; omega
          have hrw := rdW_l (b := b) (p := q) (by rw [hd]) (by rw [hd]; simp; omega)
          have HE := hidden (show R = ([], 0, 3) by
            have h := HRES.out
            rw [pdTs_e (by rw [hrw]; simp), hrw] at h
            exact h.symm)
          clear hown hbw hwl hres hf hd hq2 hZ hrw h1 hq hk1 h2
          go_wp2_with ((go_at_call 165; refine HD.out.mono ?_; rintro e w2 ⟨rfl, rfl⟩))
          go_ret3
          exact RsR.no HE.out HB.out
      · have hrw := rdW_e (b := b) (p := q) h1
        have HE := hidden (show R = ([], 0, (dcd b q).2.2) by
          have h := HRES.out
          rw [pdTs_e (by rw [hrw]; exact h1), hrw] at h
          exact h.symm)
        have hne : ((dcd b q).2.2 != 0) = true := by simpa using h1
        generalize dcd b q = z at *
        obtain ⟨z1, z2, z3⟩ := z
        simp only [] at hne HD HE
        clear hown hbw hwl hres hf hrw h1 hq
        go_wp2_with ((go_at_call 165; refine HD.out.mono ?_; rintro e w2 ⟨rfl, rfl⟩))
        go_ret3
        exact RsR.no HE.out HB.out
    · have HE := hidden (show R = (ws, (q : Int), 0) by
        have h := HRES.out
        rw [show n - k = 0 by omega] at h
        exact h.symm)
      have HIS := hidden (show IsS wr (.slice A2 ws.length c2) ws from Reads.of_own hown)
      clear hown hbw hwl hres hq
      go_wp2_with fail
      go_ret3
      exact RsR.of HE.out HIS.out HB.out
def DBRel (w : World) (l : List Nat) (i : Value) (wr : World) (g : Nat) : Prop :=
  ∃ k : Nat, k ≤ l.length ∧ i = .int .i64 (k : Int) ∧ Row wr g 2 (fillR (fun x : Nat => Value.int .i64 (toI x)) (.int .i64 0) l k) ∧ Grows w wr
theorem unE_cut {b : List UInt8} {o n : Nat} (h : o + szB n 1 ≤ b.length) (hn : n ≤ 65536) : unE (cutB b o (szB n 1)) (n : Int) 1 = if badB (cutB b o (szB n 1)) n 1 = true then 4 else 0 := by
  have hl := cutB_length' h
  have e := unE_nat (b := cutB b o (szB n 1)) (N := n) (M := 1) (by omega) (by omega)
  rw [if_neg (by omega), if_neg (by omega)] at e
  exact e
theorem unE_short {b : List UInt8} {o n : Nat} (ho : o ≤ b.length) (h : ¬ o + szB n 1 ≤ b.length) (hn : n ≤ 65536) : unE (cutB b o (b.length - o)) (n : Int) 1 = 2 := by
  have hl : (cutB b o (b.length - o)).length = b.length - o := cutB_length' (by omega)
  have e := unE_nat (b := cutB b o (b.length - o)) (N := n) (M := 1) (by omega) (by omega)
  rw [if_pos (by omega)] at e
  exact e
set_option maxHeartbeats 4000000 in
theorem edecodeBools_any (A : Option Addr) (c : Nat) (b : List UInt8) (o n : Nat) (w : World) (hb : IsBytes w (.slice A b.length c) b) (hlc : b.length ≤ c) (hl : b.length ≤ 1000000) (ho : o ≤ b.length) (hn : n ≤ 65536) :
    Calls Tryz.prog 80 #[.slice A b.length c, .int .i64 (o : Int), .int .i64 (n : Int)] w (LDecF (pdB b o n) w) := by
  have hS := size_any (n : Int) 1 w
  have hz : sizeI (n : Int) 1 = (szB n 1 : Int) := by
    unfold sizeI
    rw [show okB (n : Int) 1 = true from okB_t (m := 1) (by omega) (by omega), if_pos rfl, Int.toNat_natCast]
    rfl
  rw [hz] at hS
  have hsz := szB_le (n := n) (w := 1) (by omega) (by omega)
  have HS := hidden hS
  have hUN := fun (Q : Nat) (h1 : o ≤ Q) (h2 : Q ≤ b.length) (AO : Option Addr) (w' : World) (h : IsBytes w' (.slice AO (Q - o) (c - o)) (cutF b o (Q - o))) => unpack_any AO (c - o) (cutF b o (Q - o)) (n : Int) 1 w' (by rw [show (cutF b o (Q - o)).length = Q - o from cutB_length' (by omega)]; exact h) (by rw [show (cutF b o (Q - o)).length = Q - o from cutB_length' (by omega)]; omega)
  by_cases hf : o + szB n 1 ≤ b.length
  · obtain ⟨Q, hQ⟩ : ∃ Q, Q = o + szB n 1 := ⟨_, rfl⟩
    have hPE : (o : Int) + ((szB n 1 : Nat) : Int) = (Q : Int) := by omega
    have hmn : min (Q : Int) (b.length : Int) = (Q : Int) := by omega
    obtain ⟨AO, hcb, hcut⟩ := cut_run A c b (O := o) (Q := Q) (by omega) (by omega) hlc (by omega)
    have HB0 := hidden (hcb w hb)
    have HUN := hidden (hUN Q (by omega) (by omega) AO w (hcb w hb))
    have hQs : Q - o = szB n 1 := by omega
    rw [show (cutF b o (Q - o)).length = Q - o from cutB_length' (by omega), show cutF b o (Q - o) = cutB b o (szB n 1) by rw [hQs]; rfl, unE_cut hf hn] at HUN
    by_cases hbad : badB (cutB b o (szB n 1)) n 1 = true
    · rw [if_pos hbad] at HUN
      have HE := hidden (show pdB b o n = ([], 0, 4) by unfold pdB; rw [if_pos hf, if_pos hbad])
      generalize pdB b o n = R at *
      generalize szB n 1 = S at *
      generalize Q - o = K at *
      clear hb hS hz hsz hUN hf hQ hcb hbad hQs
      go_enter Tryz.func80, Tryz.ntmps80
      go_wp2_with (first
        | (go_at_call 139; refine HS.out.mono ?_; rintro e w2 ⟨rfl, rfl⟩)
        | (go_at_call 140; refine HUN.out.mono ?_; rintro e w3 ⟨u, rfl, g3, hu3⟩; have HG3 := hidden g3; clear g3 hu3))
      go_ret3
      exact LDecF.err HE.out HG3.out
    · rw [if_neg hbad] at HUN
      have hun : unpI (cutB b o (szB n 1)) (n : Int) 1 = unpL (cutB b o (szB n 1)) n 1 := by
        unfold unpI
        rw [unE_cut hf hn, if_neg hbad, if_pos rfl, Int.toNat_natCast]
        rfl
      rw [hun] at HUN
      have HE := hidden (show pdB b o n = ((unpL (cutB b o (szB n 1)) n 1).map toI, (Q : Int), 0) by unfold pdB; rw [if_pos hf, if_neg hbad, hQ])
      have hul := unpL_length (cutB b o (szB n 1)) n 1
      generalize unpL (cutB b o (szB n 1)) n 1 = L at *
      subst hul
      have hmk := run_make_oneM (P := Tryz.prog) 22 2 (.int .i64 0) 8 Tryz.underlying22 info_i64 rfl L.length (by omega) (by omega)
      have HZ := hidden (fillR_zero (fun x : Nat => Value.int .i64 (toI x)) (.int .i64 0) L)
      have HW64 := hidden (fun x : Int => wrapi64 x)
      generalize pdB b o L.length = R at *
      generalize szB L.length 1 = S at *
      generalize Q - o = K at *
      clear hb hS hz hsz hUN hf hQ hcb hbad hQs hun
      go_enter Tryz.func80, Tryz.ntmps80
      go_wp2_with (first
        | (go_at_call 139; refine HS.out.mono ?_; rintro e w2 ⟨rfl, rfl⟩)
        | (go_at_call 140; refine HUN.out.mono ?_; rintro e w3 ⟨u, rfl, g3, hu3⟩; have HG3 := hidden g3; have HU3 := hidden hu3; obtain ⟨A3, c3, rfl⟩ := hu3.slice_; clear g3 hu3))
      clear hmk
      go_loopw [13, 14, 38] (fun u1 u2 i wr => DBRel w3 L i wr w3.heap.size) (fun _ _ i _ => L.length - (intOf i).toNat)
      case atStart => exact ⟨0, by omega, rfl, Row.new _ _ _ _ (by rw [HZ.out]; simp), growB _ _⟩
      case round =>
        obtain ⟨k, hk, rfl, hrow, hb⟩ := hrel
        have HR := hidden hrow
        have HB := hidden hb
        by_cases hlt : k < L.length
        · obtain ⟨b2, f2, rfl, hck⟩ := (HU3.out.grow HB.out).at_ hlt
          have hcell := hrow.cell k
          rw [fillR_get hlt] at hcell
          have hfr := hrow.frozen k
          have HST := hidden (fillR_set (f := fun x : Nat => Value.int .i64 (toI x)) (z := .int .i64 0) hlt)
          unfold toI at HST
          generalize L[k] = x at *
          clear hrow hb
          go_wp2_with fail
          go_roundw
          case rel => exact ⟨k + 1, by omega, by go_num, by unfold toI; rw [← HST.out, HW64.out]; exact HR.out.set_ k _, HB.out.setCell (Nat.le_refl _) _⟩
          case measure => simp [intOf]; omega
        · have hke : k = L.length := by omega
          rw [hke, fillR_done] at HR
          have HIS := hidden (show IsI wr (.slice (some ⟨w3.heap.size, 0, none⟩) L.length L.length) (L.map toI) from Reads.of_row (e := 2) (by rw [show icells (L.map toI) = L.map (fun x : Nat => Value.int .i64 (toI x)) by unfold icells; rw [List.map_map]; rfl]; exact HR.out) L.length L.length (by simp [icells]) (Nat.le_refl _))
          have HG5 := hidden (HG3.out.of_below HB.out)
          have HFR := hidden (show FreshI w.heap.size wr (.slice (some ⟨w3.heap.size, 0, none⟩) L.length L.length) from FreshI.laid HG3.out.size (show Row wr w3.heap.size 2 _ from HR.out) _ _ _)
          clear hke hrow hb
          go_wp2_with fail
          go_ret3
          exact readR (s := (L.map toI, 0, 0)) HE.out HIS.out HG5.out HFR.out
  · have hmn : min ((o : Int) + ((szB n 1 : Nat) : Int)) (b.length : Int) = (b.length : Int) := by omega
    obtain ⟨AO, hcb, hcut⟩ := cut_run A c b (O := o) (Q := b.length) (by omega) (by omega) hlc (by omega)
    have HUN := hidden (hUN b.length (by omega) (by omega) AO w (hcb w hb))
    rw [show (cutF b o (b.length - o)).length = b.length - o from cutB_length' (by omega), show cutF b o (b.length - o) = cutB b o (b.length - o) from rfl, unE_short ho hf hn] at HUN
    have HE := hidden (show pdB b o n = ([], 0, 2) by unfold pdB; rw [if_neg hf])
    generalize pdB b o n = R at *
    generalize szB n 1 = S at *
    generalize unpI (cutB b o (b.length - o)) (n : Int) 1 = X at *
    generalize b.length - o = K at *
    clear hb hS hz hUN hf hcb
    go_enter Tryz.func80, Tryz.ntmps80
    go_wp2_with (first
      | (go_at_call 139; refine HS.out.mono ?_; rintro e w2 ⟨rfl, rfl⟩)
      | (go_at_call 140; refine HUN.out.mono ?_; rintro e w3 ⟨u, rfl, g3, hu3⟩; have HG3 := hidden g3; clear g3 hu3))
    go_ret3
    exact LDecF.err HE.out HG3.out
end Go.Proofs.YthmipnokimlbdaaGreat
/-
  Shaken: what the claims of this seat need of this text. No condition.
-/
namespace Go.Proofs.YthmipnokimlbdaaGreat
set_option maxRecDepth 8000
open Go.RowKit
set_option linter.unusedVariables false
set_option linter.unusedSimpArgs false
abbrev Enters (F : FuncId) : Prop := ∀ args W, (callFunc F args).run Tryz.prog W = .ok (.enter F args) W
theorem eplaceI_any (g : Nat) (w : World) : Calls Tryz.prog 77 #[.pointer (some ⟨g, 0, none⟩)] w fun e w' => e = .returned (.pointer (some ⟨g, 1, none⟩)) ∧ w = w' := by
  go_enter Tryz.func77, Tryz.ntmps77
  go_wp2_with fail
  go_ret
  exact ⟨rfl, rfl⟩
theorem eplaceT_any (g : Nat) (w : World) : Calls Tryz.prog 94 #[.pointer (some ⟨g, 0, none⟩)] w fun e w' => e = .returned (.pointer (some ⟨g, 2, none⟩)) ∧ w = w' := by
  go_enter Tryz.func94, Tryz.ntmps94
  go_wp2_with fail
  go_ret
  exact ⟨rfl, rfl⟩
theorem sizeVec : (Tryz.prog.info? 26).map (·.size) = some 4 := by kernel_rfl
theorem results_vec3 {fn : Func} {p q r : Tmp} (h : fn.results = #[.cell p 26, .tmp q, .tmp r]) (tmps : Array Value) (w : World) (g : Nat) (a b c d x y : Value) (hp : tmps.getD p undef = .pointer (some ⟨g, 0, none⟩)) (hg : Row w g 26 [a, b, c, d])
    (hx : tmps.getD q undef = x) (hy : tmps.getD r undef = y) : (results fn tmps).run Tryz.prog w = .ok (.tuple #[.agg #[a, b, c, d], x, y]) w := by
  have hp' : tmps[p]?.getD undef = .pointer (some ⟨g, 0, none⟩) := by simpa using hp
  have hx' : tmps[q]?.getD undef = x := by simpa using hx
  have hy' : tmps[r]?.getD undef = y := by simpa using hy
  simp [results, h, hp', hx', hy', asAddr, run_loadVar_row w g 26 26 #[a, b, c, d] (0, 0) _ hg Tryz.underlying26 rfl sizeVec]
theorem Reads.past {w w' : World} {v : Value} {xs : List Value} (h : Reads w v xs) (hx : ∀ x ∈ xs, ∀ A n c, x ≠ .slice A n c) {g : Nat} {e : TypeId} {t a b c a' b' c' : Value}
    (h0 : Row w g e [t, a, b, c]) (h1 : Row w' g e [t, a', b', c']) (ha : ∃ A n k, a = .slice A n k) (hb : ∃ A n k, b = .slice A n k) (hc : ∃ A n k, c = .slice A n k) (ho : ∀ k, k ≠ g → w'.heap[k]? = w.heap[k]?) : Reads w' v xs := by
  obtain ⟨A, d, rfl, hle, hcell⟩ := h
  refine ⟨A, d, rfl, hle, fun hl => ?_⟩
  obtain ⟨q, off, rfl, hq⟩ := hcell hl
  refine ⟨q, off, rfl, fun j hj => ?_⟩
  have hj1 := hq j hj
  by_cases hgq : q = g
  · subst hgq
    rw [h0.cell (off + j)] at hj1
    rw [h1.cell (off + j)]
    have hmem : ∃ x, xs[j]? = some x ∧ x ∈ xs := ⟨_, List.getElem?_eq_getElem hj, List.getElem_mem hj⟩
    obtain ⟨x, hxj, hxm⟩ := hmem
    rw [hxj] at hj1 ⊢
    obtain ⟨A1, n1, k1, rfl⟩ := ha
    obtain ⟨A2, n2, k2, rfl⟩ := hb
    obtain ⟨A3, n3, k3, rfl⟩ := hc
    match off + j, hj1 with
    | 0, hj1 => exact hj1
    | 1, hj1 => simp at hj1; exact absurd hj1.symm (hx x hxm _ _ _)
    | 2, hj1 => simp at hj1; exact absurd hj1.symm (hx x hxm _ _ _)
    | 3, hj1 => simp at hj1; exact absurd hj1.symm (hx x hxm _ _ _)
    | k + 4, hj1 => simp at hj1
  · rw [← hj1]
    exact World.cell?_of_block (ho q hgq)
theorem noslice_i (l : List Int) : ∀ x ∈ icells l, ∀ A n c, x ≠ .slice A n c := fun x hx A n c => by
  obtain ⟨y, _, rfl⟩ := List.mem_map.1 hx
  exact fun h => by cases h
theorem noslice_s (l : List Str) : ∀ x ∈ scells l, ∀ A n c, x ≠ .slice A n c := fun x hx A n c => by
  obtain ⟨y, _, rfl⟩ := List.mem_map.1 hx
  exact fun h => by cases h
def FreshX (H : Nat) (w : World) (x : Value) : Prop := ∀ t a b c, x = .agg #[t, a, b, c] → FreshI H w a
theorem FreshX.of {H : Nat} {w : World} {t a b c : Value} (h : FreshI H w a) : FreshX H w (.agg #[t, a, b, c]) := fun t' a' b' c' e => by
  have e' : t = t' ∧ a = a' ∧ b = b' ∧ c = c' := by simpa using e
  exact e'.2.1 ▸ h
theorem FreshX.none_ (H : Nat) (w : World) (n k : Nat) (t b c : Value) : FreshX H w (.agg #[t, .slice none n k, b, c]) := FreshX.of (FreshI.none_ _ _ _ _)
theorem FreshX.mono {H H' : Nat} {w : World} {x : Value} (h : FreshX H w x) (hl : H' ≤ H) : FreshX H' w x := fun t a b c e => (h t a b c e).mono hl
set_option maxHeartbeats 4000000 in
theorem elit1I_any (F : FuncId) (hF : Enters F) (be bp : Nat) (w : World) (hbe : Row w be 95 [.func (.func F) #[] #[]]) (hbp : Row w bp 112 [.func (.func 77) #[] #[]]) (x : Value) (v : Vec) (hx : IsV w x v) (E : List UInt8)
    (hc : ∀ W, Grows w W → ∀ u, IsI W u v.is → Calls Tryz.prog F #[u] W (ByR E W)) :
    Calls Tryz.prog 135 #[x, .pointer (some ⟨be, 0, none⟩), .pointer (some ⟨bp, 0, none⟩)] w (ByR E w) := by
  obtain ⟨T, is, ts, ns⟩ := v
  obtain ⟨u1, u2, u3, rfl, h1, h2, h3⟩ := hx
  dsimp only at *
  obtain ⟨A1, c1, rfl⟩ := h1.slice_
  obtain ⟨A2, c2, rfl⟩ := h2.slice_
  obtain ⟨A3, c3, rfl⟩ := h3.slice_
  generalize hn1 : is.length = n1 at *
  generalize hn2 : ts.length = n2 at *
  generalize ns.length = n3 at *
  have HC := hidden hc
  have HV := hidden h1
  have HBE := hidden (fun W (h : Grows w W) => (hbe.grow h).cell 0)
  have HBP := hidden (fun W (h : Grows w W) => (hbp.grow h).cell 0)
  simp only [List.getElem?_cons_zero] at HBE HBP
  have HF := hidden hF
  have HG0 := hidden (growB w)
  clear h1 h2 h3 hn1 hn2 hc hbe hbp hF
  go_enter Tryz.func135, Tryz.ntmps135
  go_wp2_with fail
  obtain ⟨w1, hw1⟩ : ∃ w1, w1 = w.alloc (.cells #[.int .i64 T, .slice A1 n1 c1, .slice A2 n2 c2, .slice A3 n3 c3] 26) := ⟨_, rfl⟩
  have HG := hidden (show Grows w w1 by rw [hw1]; exact HG0.out _)
  have HRX := hidden (show Row w1 w.heap.size 26 [.int .i64 T, .slice A1 n1 c1, .slice A2 n2 c2, .slice A3 n3 c3] by rw [hw1]; exact Row.new _ _ _ _ rfl)
  rw [← hw1]
  obtain ⟨g, hg⟩ : ∃ g, g = w.heap.size := ⟨_, rfl⟩
  rw [← hg] at HRX ⊢
  have HGG := hidden hg
  clear hw1 hg
  refine wp_region_loose (tabRs [(2, ConstV (.pointer (some ⟨g, 1, none⟩))), (5, BytesV E)]) (by kernel_rfl) (by kernel_rfl) (tabRs_cons ConstV.lasts (tabRs_cons BytesV.lasts tabRs_nil)) ?_
  iterate 2 ((with_reducible refine loose_one (v := ?_) (a' := ?_) ?_ ?_ (fun w' hC' hG' => ?_) ?_ ?_); rotate_left 2; (focus rfl); (focus rfl); (focus (have f1 := HBE.out w' (HG.out.of_below hC'); have f2 := HBP.out w' (HG.out.of_below hC'); clear hC' hG'; go_simp; rfl)); (focus (go_simp; rfl)))
  refine loose_call (R := ConstV (.pointer (some ⟨g, 1, none⟩))) (f := 77) (args := #[.pointer (some ⟨g, 0, none⟩)]) (by rfl) (by rfl) (fun _ => by go_simp) (fun w' hC' hG' => const_loose0 (eplaceI_any g w')) ?_
  rintro v4 ⟨w4, _, rfl⟩
  refine ⟨?_, ?_, ?_⟩
  rotate_left
  · go_simp
    rfl
  iterate 2 ((with_reducible refine loose_one (v := ?_) (a' := ?_) ?_ ?_ (fun w' hC' hG' => ?_) ?_ ?_); rotate_left 2; (focus rfl); (focus rfl); (focus (have f1 := (HRX.out.grow hC').cell 1; simp only [List.getElem?_cons_succ, List.getElem?_cons_zero] at f1; clear hC' hG'; go_simp; rfl)); (focus (go_simp; rfl)))
  refine loose_call (R := BytesV E) (f := F) (args := #[.slice A1 n1 c1]) (by rfl) (by rfl) (fun w' => by have hF := HF.out; go_simp) (fun w' hC' hG' => id (HC.out w' (HG.out.of_below hC') _ (HV.out.grow (HG.out.of_below hC')))) ?_
  intro v5 _
  refine ⟨?_, ?_, ?_⟩
  rotate_left
  · go_simp
    rfl
  iterate 1 ((with_reducible refine loose_one (v := ?_) (a' := ?_) ?_ ?_ (fun w' hC' hG' => ?_) ?_ ?_); rotate_left 2; (focus rfl); (focus rfl); (focus (clear hC' hG'; go_simp; rfl)); (focus (go_simp; rfl)))
  refine loose_done (fun w5 hC' hG' => ?_)
  have HG5 := hidden (HG.out.of_below hC')
  have HB5 := hidden (show IsBytes w5 v5 E from (hG' 5).2 rfl)
  clear hG' hC'
  go_wp2_with fail
  go_ret
  exact ⟨_, rfl, HG5.out, HB5.out⟩
set_option maxHeartbeats 4000000 in
theorem elit2I_any (F : FuncId) (hF : Enters F) (be bp : Nat) (w : World) (hbe : Row w be 113 [.func (.func F) #[] #[]]) (hbp : Row w bp 112 [.func (.func 77) #[] #[]]) (x : Value) (v : Vec) (hx : IsV w x v) (N : Int)
    (hc : ∀ W, Grows w W → ∀ u, IsI W u v.is → Calls Tryz.prog F #[u] W (fun e w' => e = .returned (.int .i64 N) ∧ Grows W w')) :
    Calls Tryz.prog 136 #[x, .pointer (some ⟨be, 0, none⟩), .pointer (some ⟨bp, 0, none⟩)] w (fun e w' => e = .returned (.int .i64 N) ∧ Grows w w') := by
  obtain ⟨T, is, ts, ns⟩ := v
  obtain ⟨u1, u2, u3, rfl, h1, h2, h3⟩ := hx
  dsimp only at *
  obtain ⟨A1, c1, rfl⟩ := h1.slice_
  obtain ⟨A2, c2, rfl⟩ := h2.slice_
  obtain ⟨A3, c3, rfl⟩ := h3.slice_
  generalize hn1 : is.length = n1 at *
  generalize hn2 : ts.length = n2 at *
  generalize ns.length = n3 at *
  have HC := hidden hc
  have HV := hidden h1
  have HBE := hidden (fun W (h : Grows w W) => (hbe.grow h).cell 0)
  have HBP := hidden (fun W (h : Grows w W) => (hbp.grow h).cell 0)
  simp only [List.getElem?_cons_zero] at HBE HBP
  have HF := hidden hF
  have HG0 := hidden (growB w)
  clear h1 h2 h3 hn1 hn2 hc hbe hbp hF
  go_enter Tryz.func136, Tryz.ntmps136
  go_wp2_with fail
  obtain ⟨w1, hw1⟩ : ∃ w1, w1 = w.alloc (.cells #[.int .i64 T, .slice A1 n1 c1, .slice A2 n2 c2, .slice A3 n3 c3] 26) := ⟨_, rfl⟩
  have HG := hidden (show Grows w w1 by rw [hw1]; exact HG0.out _)
  have HRX := hidden (show Row w1 w.heap.size 26 [.int .i64 T, .slice A1 n1 c1, .slice A2 n2 c2, .slice A3 n3 c3] by rw [hw1]; exact Row.new _ _ _ _ rfl)
  rw [← hw1]
  obtain ⟨g, hg⟩ : ∃ g, g = w.heap.size := ⟨_, rfl⟩
  rw [← hg] at HRX ⊢
  have HGG := hidden hg
  clear hw1 hg
  refine wp_region_loose (tabRs [(2, ConstV (.pointer (some ⟨g, 1, none⟩))), (5, ConstV (.int .i64 N))]) (by kernel_rfl) (by kernel_rfl) (tabRs_cons ConstV.lasts (tabRs_cons ConstV.lasts tabRs_nil)) ?_
  iterate 2 ((with_reducible refine loose_one (v := ?_) (a' := ?_) ?_ ?_ (fun w' hC' hG' => ?_) ?_ ?_); rotate_left 2; (focus rfl); (focus rfl); (focus (have f1 := HBE.out w' (HG.out.of_below hC'); have f2 := HBP.out w' (HG.out.of_below hC'); clear hC' hG'; go_simp; rfl)); (focus (go_simp; rfl)))
  refine loose_call (R := ConstV (.pointer (some ⟨g, 1, none⟩))) (f := 77) (args := #[.pointer (some ⟨g, 0, none⟩)]) (by rfl) (by rfl) (fun _ => by go_simp) (fun w' hC' hG' => const_loose0 (eplaceI_any g w')) ?_
  rintro v4 ⟨w4, _, rfl⟩
  refine ⟨?_, ?_, ?_⟩
  rotate_left
  · go_simp
    rfl
  iterate 2 ((with_reducible refine loose_one (v := ?_) (a' := ?_) ?_ ?_ (fun w' hC' hG' => ?_) ?_ ?_); rotate_left 2; (focus rfl); (focus rfl); (focus (have f1 := (HRX.out.grow hC').cell 1; simp only [List.getElem?_cons_succ, List.getElem?_cons_zero] at f1; clear hC' hG'; go_simp; rfl)); (focus (go_simp; rfl)))
  refine loose_call (R := ConstV (.int .i64 N)) (f := F) (args := #[.slice A1 n1 c1]) (by rfl) (by rfl) (fun w' => by have hF := HF.out; go_simp) (fun w' hC' hG' => const_loose (HC.out w' (HG.out.of_below hC') _ (HV.out.grow (HG.out.of_below hC')))) ?_
  rintro v5 ⟨w6, _, rfl⟩
  refine ⟨?_, ?_, ?_⟩
  rotate_left
  · go_simp
    rfl
  iterate 1 ((with_reducible refine loose_one (v := ?_) (a' := ?_) ?_ ?_ (fun w' hC' hG' => ?_) ?_ ?_); rotate_left 2; (focus rfl); (focus rfl); (focus (clear hC' hG'; go_simp; rfl)); (focus (go_simp; rfl)))
  refine loose_done (fun w5 hC' hG' => ?_)
  have HG5 := hidden (HG.out.of_below hC')
  clear hG' hC'
  go_wp2_with fail
  go_ret
  exact ⟨rfl, HG5.out⟩
set_option maxHeartbeats 4000000 in
theorem elit3I_any (F : FuncId) (hF : Enters F) (be bp : Nat) (w : World) (hbe : Row w be 114 [.func (.func F) #[] #[]]) (hbp : Row w bp 112 [.func (.func 77) #[] #[]])
    (A : Option Addr) (L c : Nat) (o n q f : Int) (l : List Int)
    (hc : ∀ W, Grows w W → Calls Tryz.prog F #[.slice A L c, .int .i64 o, .int .i64 n] W (fun e w' => ∃ u, e = .returned (.tuple #[u, .int .i64 q, .int .i64 f]) ∧ IsI w' u l ∧ Grows W w' ∧ FreshI W.heap.size w' u)) :
    Calls Tryz.prog 137 #[.slice A L c, .int .i64 o, .int .i64 n, .pointer (some ⟨be, 0, none⟩), .pointer (some ⟨bp, 0, none⟩)] w (fun e w' => ∃ x, e = .returned (.tuple #[x, .int .i64 q, .int .i64 f]) ∧ IsV w' x ⟨0, l, [], []⟩ ∧ Grows w w' ∧ FreshX w.heap.size w' x) := by
  have HC := hidden hc
  have HBE := hidden (fun W (h : Grows w W) => (hbe.grow h).cell 0)
  have HBP := hidden (fun W (h : Grows w W) => (hbp.grow h).cell 0)
  simp only [List.getElem?_cons_zero] at HBE HBP
  have HF := hidden hF
  have HG0 := hidden (growB w)
  clear hc hbe hbp hF
  have HGL := hidden ((growB w (.cells #[.int .i64 0, .slice none 0 0, .slice none 0 0, .slice none 0 0] 26)).of_below (growB _ (.cells #[.int .i64 0, .slice none 0 0, .slice none 0 0, .slice none 0 0] 26)))
  have hb1 := HBE.out _ HGL.out
  have HR1 := hidden ((Row.new w 26 #[.int .i64 0, .slice none 0 0, .slice none 0 0, .slice none 0 0] [.int .i64 0, .slice none 0 0, .slice none 0 0, .slice none 0 0] rfl).grow (growB _ (.cells #[.int .i64 0, .slice none 0 0, .slice none 0 0, .slice none 0 0] 26)))
  have HR2 := hidden (Row.at_ (w.alloc (.cells #[.int .i64 0, .slice none 0 0, .slice none 0 0, .slice none 0 0] 26)) 26 #[.int .i64 0, .slice none 0 0, .slice none 0 0, .slice none 0 0] [.int .i64 0, .slice none 0 0, .slice none 0 0, .slice none 0 0] rfl (w.heap.size + 1) (by rw [World.size_alloc]))
  have hF := HF.out
  go_enter Tryz.func137, Tryz.ntmps137
  go_wp2_with fail
  refine (HC.out _ HGL.out).mono ?_
  rintro e w3 ⟨u, rfl, hi3, g3, hf9⟩
  obtain ⟨A9, c9, rfl⟩ := hi3.slice_
  have HF9 := hidden hf9
  clear hf9
  obtain ⟨n9, hn9⟩ : ∃ n9, n9 = l.length := ⟨_, rfl⟩
  rw [← hn9] at hi3 ⊢
  have HN9 := hidden hn9
  have HI3 := hidden hi3
  have HG3 := hidden (HGL.out.of_below g3)
  have hb2 := HBP.out w3 HG3.out
  have HR1 := hidden (HR1.out.grow g3)
  have HR2 := hidden (HR2.out.grow g3)
  have hc2 := HR2.out.cell 1
  have hf2 := HR2.out.frozen 1
  simp only [List.getElem?_cons_succ, List.getElem?_cons_zero] at hc2
  have HGS := hidden (show Grows w (w3.setCell ⟨w.heap.size + 1, 1, none⟩ (.slice A9 n9 c9)) from HG3.out.setCell (p := ⟨w.heap.size + 1, 1, none⟩) (Nat.le_succ _) _)
  have HS2 := hidden (show (w3.setCell ⟨w.heap.size + 1, 1, none⟩ (.slice A9 n9 c9)).heap[w.heap.size + 1]? = some (.cells #[.int .i64 0, .slice A9 n9 c9, .slice none 0 0, .slice none 0 0] 26 (0, 0)) from HR2.out.set_ 1 (.slice A9 n9 c9))
  have HS1 := hidden (show (w3.setCell ⟨w.heap.size + 1, 1, none⟩ (.slice A9 n9 c9)).heap[w.heap.size]? = some (.cells #[.int .i64 0, .slice none 0 0, .slice none 0 0, .slice none 0 0] 26 (0, 0)) from (heap_setCell_other w3 ⟨w.heap.size + 1, 1, none⟩ w.heap.size _ (Nat.ne_of_lt (Nat.lt_succ_self _))).trans HR1.out)
  have HRS := hidden (Row.setRow_ (show Row (w3.setCell ⟨w.heap.size + 1, 1, none⟩ (.slice A9 n9 c9)) w.heap.size 26 [.int .i64 0, .slice none 0 0, .slice none 0 0, .slice none 0 0] from HS1.out) [.int .i64 0, .slice A9 n9 c9, .slice none 0 0, .slice none 0 0] rfl)
  have HX3 := hidden (Reads.past (Reads.past HI3.out (noslice_i _) HR2.out HS2.out ⟨_, _, _, rfl⟩ ⟨_, _, _, rfl⟩ ⟨_, _, _, rfl⟩ (fun k hk => heap_setCell_other _ _ _ _ hk)) (noslice_i _) (show Row _ w.heap.size 26 _ from HS1.out) HRS.out ⟨_, _, _, rfl⟩ ⟨_, _, _, rfl⟩ ⟨_, _, _, rfl⟩ (fun k hk => setRow_other _ _ _ _ hk))
  clear hi3 g3 hn9
  go_wp2_with (first
    | (go_at_call 77; refine (eplaceI_any _ _).mono ?_; rintro e w4 ⟨rfl, rfl⟩)
    | (refine wpList_load_row rfl _ _ rfl _ rfl _ _ _ _ HS2.out Tryz.underlying26 rfl sizeVec ?_)
    | (refine wpList_store_row rfl _ _ _ rfl _ #[.int .i64 0, .slice A9 n9 c9, .slice none 0 0, .slice none 0 0] rfl rfl _ _ HS1.out sizeVec rfl (by simp [Value.oneCell']) ?_))
  refine bodyPost_ret (results_vec3 rfl _ _ _ _ _ _ _ (.int .i64 q) (.int .i64 f) rfl HRS.out rfl rfl) rfl ⟨_, rfl, ?_, below_setRow HGS.out (Nat.le_refl _) _, FreshX.of (FreshI.same (HN9.out ▸ HF9.out) HGL.out.size (fun b hb => (setRow_other _ _ _ _ (by rw [World.size_alloc, World.size_alloc] at hb; omega)).trans (heap_setCell_other _ _ _ _ (by show b ≠ w.heap.size + 1; rw [World.size_alloc, World.size_alloc] at hb; omega))))⟩
  have HI9 := hidden (show IsI _ (.slice A9 n9 c9) l from HX3.out)
  exact ⟨_, _, _, rfl, HI9.out, Reads.nil_ _ 0, Reads.nil_ _ 0⟩
set_option maxHeartbeats 4000000 in
theorem elit1T_any (F : FuncId) (hF : Enters F) (be bp : Nat) (w : World) (hbe : Row w be 96 [.func (.func F) #[] #[]]) (hbp : Row w bp 116 [.func (.func 94) #[] #[]]) (x : Value) (v : Vec) (hx : IsV w x v) (E : List UInt8)
    (hc : ∀ W, Grows w W → ∀ u, IsS W u v.ts → Calls Tryz.prog F #[u] W (ByR E W)) :
    Calls Tryz.prog 161 #[x, .pointer (some ⟨be, 0, none⟩), .pointer (some ⟨bp, 0, none⟩)] w (ByR E w) := by
  obtain ⟨T, is, ts, ns⟩ := v
  obtain ⟨u1, u2, u3, rfl, h1, h2, h3⟩ := hx
  dsimp only at *
  obtain ⟨A1, c1, rfl⟩ := h1.slice_
  obtain ⟨A2, c2, rfl⟩ := h2.slice_
  obtain ⟨A3, c3, rfl⟩ := h3.slice_
  generalize hn1 : is.length = n1 at *
  generalize hn2 : ts.length = n2 at *
  generalize ns.length = n3 at *
  have HC := hidden hc
  have HV := hidden h2
  have HBE := hidden (fun W (h : Grows w W) => (hbe.grow h).cell 0)
  have HBP := hidden (fun W (h : Grows w W) => (hbp.grow h).cell 0)
  simp only [List.getElem?_cons_zero] at HBE HBP
  have HF := hidden hF
  have HG0 := hidden (growB w)
  clear h1 h2 h3 hn1 hn2 hc hbe hbp hF
  go_enter Tryz.func161, Tryz.ntmps161
  go_wp2_with fail
  obtain ⟨w1, hw1⟩ : ∃ w1, w1 = w.alloc (.cells #[.int .i64 T, .slice A1 n1 c1, .slice A2 n2 c2, .slice A3 n3 c3] 26) := ⟨_, rfl⟩
  have HG := hidden (show Grows w w1 by rw [hw1]; exact HG0.out _)
  have HRX := hidden (show Row w1 w.heap.size 26 [.int .i64 T, .slice A1 n1 c1, .slice A2 n2 c2, .slice A3 n3 c3] by rw [hw1]; exact Row.new _ _ _ _ rfl)
  rw [← hw1]
  obtain ⟨g, hg⟩ : ∃ g, g = w.heap.size := ⟨_, rfl⟩
  rw [← hg] at HRX ⊢
  have HGG := hidden hg
  clear hw1 hg
  refine wp_region_loose (tabRs [(2, ConstV (.pointer (some ⟨g, 2, none⟩))), (5, BytesV E)]) (by kernel_rfl) (by kernel_rfl) (tabRs_cons ConstV.lasts (tabRs_cons BytesV.lasts tabRs_nil)) ?_
  iterate 2 ((with_reducible refine loose_one (v := ?_) (a' := ?_) ?_ ?_ (fun w' hC' hG' => ?_) ?_ ?_); rotate_left 2; (focus rfl); (focus rfl); (focus (have f1 := HBE.out w' (HG.out.of_below hC'); have f2 := HBP.out w' (HG.out.of_below hC'); clear hC' hG'; go_simp; rfl)); (focus (go_simp; rfl)))
  refine loose_call (R := ConstV (.pointer (some ⟨g, 2, none⟩))) (f := 94) (args := #[.pointer (some ⟨g, 0, none⟩)]) (by rfl) (by rfl) (fun _ => by go_simp) (fun w' hC' hG' => const_loose0 (eplaceT_any g w')) ?_
  rintro v4 ⟨w4, _, rfl⟩
  refine ⟨?_, ?_, ?_⟩
  rotate_left
  · go_simp
    rfl
  iterate 2 ((with_reducible refine loose_one (v := ?_) (a' := ?_) ?_ ?_ (fun w' hC' hG' => ?_) ?_ ?_); rotate_left 2; (focus rfl); (focus rfl); (focus (have f1 := (HRX.out.grow hC').cell 2; simp only [List.getElem?_cons_succ, List.getElem?_cons_zero] at f1; clear hC' hG'; go_simp; rfl)); (focus (go_simp; rfl)))
  refine loose_call (R := BytesV E) (f := F) (args := #[.slice A2 n2 c2]) (by rfl) (by rfl) (fun w' => by have hF := HF.out; go_simp) (fun w' hC' hG' => id (HC.out w' (HG.out.of_below hC') _ (HV.out.grow (HG.out.of_below hC')))) ?_
  intro v5 _
  refine ⟨?_, ?_, ?_⟩
  rotate_left
  · go_simp
    rfl
  iterate 1 ((with_reducible refine loose_one (v := ?_) (a' := ?_) ?_ ?_ (fun w' hC' hG' => ?_) ?_ ?_); rotate_left 2; (focus rfl); (focus rfl); (focus (clear hC' hG'; go_simp; rfl)); (focus (go_simp; rfl)))
  refine loose_done (fun w5 hC' hG' => ?_)
  have HG5 := hidden (HG.out.of_below hC')
  have HB5 := hidden (show IsBytes w5 v5 E from (hG' 5).2 rfl)
  clear hG' hC'
  go_wp2_with fail
  go_ret
  exact ⟨_, rfl, HG5.out, HB5.out⟩
set_option maxHeartbeats 4000000 in
theorem elit2T_any (F : FuncId) (hF : Enters F) (be bp : Nat) (w : World) (hbe : Row w be 117 [.func (.func F) #[] #[]]) (hbp : Row w bp 116 [.func (.func 94) #[] #[]]) (x : Value) (v : Vec) (hx : IsV w x v) (N : Int)
    (hc : ∀ W, Grows w W → ∀ u, IsS W u v.ts → Calls Tryz.prog F #[u] W (fun e w' => e = .returned (.int .i64 N) ∧ Grows W w')) :
    Calls Tryz.prog 162 #[x, .pointer (some ⟨be, 0, none⟩), .pointer (some ⟨bp, 0, none⟩)] w (fun e w' => e = .returned (.int .i64 N) ∧ Grows w w') := by
  obtain ⟨T, is, ts, ns⟩ := v
  obtain ⟨u1, u2, u3, rfl, h1, h2, h3⟩ := hx
  dsimp only at *
  obtain ⟨A1, c1, rfl⟩ := h1.slice_
  obtain ⟨A2, c2, rfl⟩ := h2.slice_
  obtain ⟨A3, c3, rfl⟩ := h3.slice_
  generalize hn1 : is.length = n1 at *
  generalize hn2 : ts.length = n2 at *
  generalize ns.length = n3 at *
  have HC := hidden hc
  have HV := hidden h2
  have HBE := hidden (fun W (h : Grows w W) => (hbe.grow h).cell 0)
  have HBP := hidden (fun W (h : Grows w W) => (hbp.grow h).cell 0)
  simp only [List.getElem?_cons_zero] at HBE HBP
  have HF := hidden hF
  have HG0 := hidden (growB w)
  clear h1 h2 h3 hn1 hn2 hc hbe hbp hF
  go_enter Tryz.func162, Tryz.ntmps162
  go_wp2_with fail
  obtain ⟨w1, hw1⟩ : ∃ w1, w1 = w.alloc (.cells #[.int .i64 T, .slice A1 n1 c1, .slice A2 n2 c2, .slice A3 n3 c3] 26) := ⟨_, rfl⟩
  have HG := hidden (show Grows w w1 by rw [hw1]; exact HG0.out _)
  have HRX := hidden (show Row w1 w.heap.size 26 [.int .i64 T, .slice A1 n1 c1, .slice A2 n2 c2, .slice A3 n3 c3] by rw [hw1]; exact Row.new _ _ _ _ rfl)
  rw [← hw1]
  obtain ⟨g, hg⟩ : ∃ g, g = w.heap.size := ⟨_, rfl⟩
  rw [← hg] at HRX ⊢
  have HGG := hidden hg
  clear hw1 hg
  refine wp_region_loose (tabRs [(2, ConstV (.pointer (some ⟨g, 2, none⟩))), (5, ConstV (.int .i64 N))]) (by kernel_rfl) (by kernel_rfl) (tabRs_cons ConstV.lasts (tabRs_cons ConstV.lasts tabRs_nil)) ?_
  iterate 2 ((with_reducible refine loose_one (v := ?_) (a' := ?_) ?_ ?_ (fun w' hC' hG' => ?_) ?_ ?_); rotate_left 2; (focus rfl); (focus rfl); (focus (have f1 := HBE.out w' (HG.out.of_below hC'); have f2 := HBP.out w' (HG.out.of_below hC'); clear hC' hG'; go_simp; rfl)); (focus (go_simp; rfl)))
  refine loose_call (R := ConstV (.pointer (some ⟨g, 2, none⟩))) (f := 94) (args := #[.pointer (some ⟨g, 0, none⟩)]) (by rfl) (by rfl) (fun _ => by go_simp) (fun w' hC' hG' => const_loose0 (eplaceT_any g w')) ?_
  rintro v4 ⟨w4, _, rfl⟩
  refine ⟨?_, ?_, ?_⟩
  rotate_left
  · go_simp
    rfl
  iterate 2 ((with_reducible refine loose_one (v := ?_) (a' := ?_) ?_ ?_ (fun w' hC' hG' => ?_) ?_ ?_); rotate_left 2; (focus rfl); (focus rfl); (focus (have f1 := (HRX.out.grow hC').cell 2; simp only [List.getElem?_cons_succ, List.getElem?_cons_zero] at f1; clear hC' hG'; go_simp; rfl)); (focus (go_simp; rfl)))
  refine loose_call (R := ConstV (.int .i64 N)) (f := F) (args := #[.slice A2 n2 c2]) (by rfl) (by rfl) (fun w' => by have hF := HF.out; go_simp) (fun w' hC' hG' => const_loose (HC.out w' (HG.out.of_below hC') _ (HV.out.grow (HG.out.of_below hC')))) ?_
  rintro v5 ⟨w6, _, rfl⟩
  refine ⟨?_, ?_, ?_⟩
  rotate_left
  · go_simp
    rfl
  iterate 1 ((with_reducible refine loose_one (v := ?_) (a' := ?_) ?_ ?_ (fun w' hC' hG' => ?_) ?_ ?_); rotate_left 2; (focus rfl); (focus rfl); (focus (clear hC' hG'; go_simp; rfl)); (focus (go_simp; rfl)))
  refine loose_done (fun w5 hC' hG' => ?_)
  have HG5 := hidden (HG.out.of_below hC')
  clear hG' hC'
  go_wp2_with fail
  go_ret
  exact ⟨rfl, HG5.out⟩
set_option maxHeartbeats 4000000 in
theorem elit3T_any (F : FuncId) (hF : Enters F) (be bp : Nat) (w : World) (hbe : Row w be 118 [.func (.func F) #[] #[]]) (hbp : Row w bp 116 [.func (.func 94) #[] #[]])
    (A : Option Addr) (L c : Nat) (o n q f : Int) (l : List Str)
    (hc : ∀ W, Grows w W → Calls Tryz.prog F #[.slice A L c, .int .i64 o, .int .i64 n] W (fun e w' => ∃ u, e = .returned (.tuple #[u, .int .i64 q, .int .i64 f]) ∧ IsS w' u l ∧ Grows W w')) :
    Calls Tryz.prog 163 #[.slice A L c, .int .i64 o, .int .i64 n, .pointer (some ⟨be, 0, none⟩), .pointer (some ⟨bp, 0, none⟩)] w (fun e w' => ∃ x, e = .returned (.tuple #[x, .int .i64 q, .int .i64 f]) ∧ IsV w' x ⟨0, [], l, []⟩ ∧ Grows w w' ∧ FreshX w.heap.size w' x) := by
  have HC := hidden hc
  have HBE := hidden (fun W (h : Grows w W) => (hbe.grow h).cell 0)
  have HBP := hidden (fun W (h : Grows w W) => (hbp.grow h).cell 0)
  simp only [List.getElem?_cons_zero] at HBE HBP
  have HF := hidden hF
  have HG0 := hidden (growB w)
  clear hc hbe hbp hF
  have HGL := hidden ((growB w (.cells #[.int .i64 0, .slice none 0 0, .slice none 0 0, .slice none 0 0] 26)).of_below (growB _ (.cells #[.int .i64 0, .slice none 0 0, .slice none 0 0, .slice none 0 0] 26)))
  have hb1 := HBE.out _ HGL.out
  have HR1 := hidden ((Row.new w 26 #[.int .i64 0, .slice none 0 0, .slice none 0 0, .slice none 0 0] [.int .i64 0, .slice none 0 0, .slice none 0 0, .slice none 0 0] rfl).grow (growB _ (.cells #[.int .i64 0, .slice none 0 0, .slice none 0 0, .slice none 0 0] 26)))
  have HR2 := hidden (Row.at_ (w.alloc (.cells #[.int .i64 0, .slice none 0 0, .slice none 0 0, .slice none 0 0] 26)) 26 #[.int .i64 0, .slice none 0 0, .slice none 0 0, .slice none 0 0] [.int .i64 0, .slice none 0 0, .slice none 0 0, .slice none 0 0] rfl (w.heap.size + 1) (by rw [World.size_alloc]))
  have hF := HF.out
  go_enter Tryz.func163, Tryz.ntmps163
  go_wp2_with fail
  refine (HC.out _ HGL.out).mono ?_
  rintro e w3 ⟨u, rfl, hi3, g3⟩
  obtain ⟨A9, c9, rfl⟩ := hi3.slice_
  obtain ⟨n9, hn9⟩ : ∃ n9, n9 = l.length := ⟨_, rfl⟩
  rw [← hn9] at hi3 ⊢
  have HN9 := hidden hn9
  have HI3 := hidden hi3
  have HG3 := hidden (HGL.out.of_below g3)
  have hb2 := HBP.out w3 HG3.out
  have HR1 := hidden (HR1.out.grow g3)
  have HR2 := hidden (HR2.out.grow g3)
  have hc2 := HR2.out.cell 2
  have hf2 := HR2.out.frozen 2
  simp only [List.getElem?_cons_succ, List.getElem?_cons_zero] at hc2
  have HGS := hidden (show Grows w (w3.setCell ⟨w.heap.size + 1, 2, none⟩ (.slice A9 n9 c9)) from HG3.out.setCell (p := ⟨w.heap.size + 1, 2, none⟩) (Nat.le_succ _) _)
  have HS2 := hidden (show (w3.setCell ⟨w.heap.size + 1, 2, none⟩ (.slice A9 n9 c9)).heap[w.heap.size + 1]? = some (.cells #[.int .i64 0, .slice none 0 0, .slice A9 n9 c9, .slice none 0 0] 26 (0, 0)) from HR2.out.set_ 2 (.slice A9 n9 c9))
  have HS1 := hidden (show (w3.setCell ⟨w.heap.size + 1, 2, none⟩ (.slice A9 n9 c9)).heap[w.heap.size]? = some (.cells #[.int .i64 0, .slice none 0 0, .slice none 0 0, .slice none 0 0] 26 (0, 0)) from (heap_setCell_other w3 ⟨w.heap.size + 1, 2, none⟩ w.heap.size _ (Nat.ne_of_lt (Nat.lt_succ_self _))).trans HR1.out)
  have HRS := hidden (Row.setRow_ (show Row (w3.setCell ⟨w.heap.size + 1, 2, none⟩ (.slice A9 n9 c9)) w.heap.size 26 [.int .i64 0, .slice none 0 0, .slice none 0 0, .slice none 0 0] from HS1.out) [.int .i64 0, .slice none 0 0, .slice A9 n9 c9, .slice none 0 0] rfl)
  have HX3 := hidden (Reads.past (Reads.past HI3.out (noslice_s _) HR2.out HS2.out ⟨_, _, _, rfl⟩ ⟨_, _, _, rfl⟩ ⟨_, _, _, rfl⟩ (fun k hk => heap_setCell_other _ _ _ _ hk)) (noslice_s _) (show Row _ w.heap.size 26 _ from HS1.out) HRS.out ⟨_, _, _, rfl⟩ ⟨_, _, _, rfl⟩ ⟨_, _, _, rfl⟩ (fun k hk => setRow_other _ _ _ _ hk))
  clear hi3 g3 hn9
  go_wp2_with (first
    | (go_at_call 94; refine (eplaceT_any _ _).mono ?_; rintro e w4 ⟨rfl, rfl⟩)
    | (refine wpList_load_row rfl _ _ rfl _ rfl _ _ _ _ HS2.out Tryz.underlying26 rfl sizeVec ?_)
    | (refine wpList_store_row rfl _ _ _ rfl _ #[.int .i64 0, .slice none 0 0, .slice A9 n9 c9, .slice none 0 0] rfl rfl _ _ HS1.out sizeVec rfl (by simp [Value.oneCell']) ?_))
  refine bodyPost_ret (results_vec3 rfl _ _ _ _ _ _ _ (.int .i64 q) (.int .i64 f) rfl HRS.out rfl rfl) rfl ⟨_, rfl, ?_, below_setRow HGS.out (Nat.le_refl _) _, FreshX.none_ _ _ _ _ _ _ _⟩
  have HI9 := hidden (show IsS _ (.slice A9 n9 c9) l from HX3.out)
  exact ⟨_, _, _, rfl, Reads.nil_ _ 0, HI9.out, Reads.nil_ _ 0⟩
end Go.Proofs.YthmipnokimlbdaaGreat
/-
  Shaken: what the claims of this seat need of this text. No condition.
-/
namespace Go.Proofs.YthmipnokimlbdaaGreat
set_option maxRecDepth 8000
open Go.RowKit
set_option linter.unusedVariables false
set_option linter.unusedSimpArgs false
theorem sizeCod : (Tryz.prog.info? 72).map (·.size) = some 3 := by kernel_rfl
abbrev fnV (F : FuncId) : Value := .func (.func F) #[] #[]
abbrev ptV (b : Nat) : Value := .pointer (some ⟨b, 0, none⟩)
theorem results_cod2 {fn : Func} {p q : Tmp} (h : fn.results = #[.cell p 72, .tmp q]) (tmps : Array Value) (w : World) (g : Nat) (a b c x : Value) (hp : tmps.getD p undef = .pointer (some ⟨g, 0, none⟩)) (hg : Row w g 72 [a, b, c])
    (hx : tmps.getD q undef = x) : (results fn tmps).run Tryz.prog w = .ok (.tuple #[.agg #[a, b, c], x]) w := by
  have hp' : tmps[p]?.getD undef = .pointer (some ⟨g, 0, none⟩) := by simpa using hp
  have hx' : tmps[q]?.getD undef = x := by simpa using hx
  simp [results, h, hp', hx', asAddr, run_loadVar_row w g 72 72 #[a, b, c] (0, 0) _ hg Tryz.underlying72 rfl sizeCod]
theorem results_cod1 {fn : Func} {p : Tmp} (h : fn.results = #[.cell p 72]) (tmps : Array Value) (w : World) (g : Nat) (a b c : Value) (hp : tmps.getD p undef = .pointer (some ⟨g, 0, none⟩)) (hg : Row w g 72 [a, b, c]) :
    (results fn tmps).run Tryz.prog w = .ok (.agg #[a, b, c]) w := results_cell_row h _ _ _ _ _ _ _ hp hg Tryz.underlying72 rfl sizeCod
def CodecI (fe fs fd : FuncId) (x : Value) (w : World) : Prop :=
  ∃ be bs bd bp, x = .agg #[.func (.func 135) #[] #[ptV be, ptV bp], .func (.func 136) #[] #[ptV bs, ptV bp], .func (.func 137) #[] #[ptV bd, ptV bp]] ∧
    Row w be 95 [fnV fe] ∧ Row w bs 113 [fnV fs] ∧ Row w bd 114 [fnV fd] ∧ Row w bp 112 [fnV 77]
theorem CodecI.grow {fe fs fd : FuncId} {x : Value} {w w' : World} (h : CodecI fe fs fd x w) (hg : Grows w w') : CodecI fe fs fd x w' := by
  obtain ⟨be, bs, bd, bp, h0, h1, h2, h3, h4⟩ := h
  exact ⟨be, bs, bd, bp, h0, h1.grow hg, h2.grow hg, h3.grow hg, h4.grow hg⟩
set_option maxHeartbeats 2000000 in
theorem ecodecOfI_any (fe fs fd : FuncId) (w : World) : Calls Tryz.prog 76 #[fnV 77, fnV fe, fnV fs, fnV fd] w fun e w' => ∃ x, e = .returned x ∧ CodecI fe fs fd x w' ∧ Grows w w' := by
  have hmf : ∀ (fn : Fn) (first cap : Array Value) (w : World), (Instr.makeFunc fn first cap).run Tryz.prog w = .ok (.func fn first cap) w := fun _ _ _ _ => rfl
  have HG := hidden ((((( growB w (.cells #[fnV 77] 112)).of_below (growB _ (.cells #[fnV fe] 95))).of_below (growB _ (.cells #[fnV fs] 113))).of_below (growB _ (.cells #[fnV fd] 114))).of_below (growB _ (.cells #[.nilFunc, .nilFunc, .nilFunc] 72)))
  have HP := hidden (((((Row.new w 112 #[fnV 77] [fnV 77] rfl).grow (growB _ (.cells #[fnV fe] 95))).grow (growB _ (.cells #[fnV fs] 113))).grow (growB _ (.cells #[fnV fd] 114))).grow (growB _ (.cells #[.nilFunc, .nilFunc, .nilFunc] 72)))
  have HE := hidden ((((Row.at_ (w.alloc (.cells #[fnV 77] 112)) 95 #[fnV fe] [fnV fe] rfl (w.heap.size + 1) (by simp [World.size_alloc])).grow (growB _ (.cells #[fnV fs] 113))).grow (growB _ (.cells #[fnV fd] 114))).grow (growB _ (.cells #[.nilFunc, .nilFunc, .nilFunc] 72)))
  have HS := hidden (((Row.at_ ((w.alloc (.cells #[fnV 77] 112)).alloc (.cells #[fnV fe] 95)) 113 #[fnV fs] [fnV fs] rfl (w.heap.size + 2) (by simp [World.size_alloc])).grow (growB _ (.cells #[fnV fd] 114))).grow (growB _ (.cells #[.nilFunc, .nilFunc, .nilFunc] 72)))
  have HD := hidden ((Row.at_ (((w.alloc (.cells #[fnV 77] 112)).alloc (.cells #[fnV fe] 95)).alloc (.cells #[fnV fs] 113)) 114 #[fnV fd] [fnV fd] rfl (w.heap.size + 3) (by simp [World.size_alloc])).grow (growB _ (.cells #[.nilFunc, .nilFunc, .nilFunc] 72)))
  have HZ := hidden (Row.at_ ((((w.alloc (.cells #[fnV 77] 112)).alloc (.cells #[fnV fe] 95)).alloc (.cells #[fnV fs] 113)).alloc (.cells #[fnV fd] 114)) 72 #[.nilFunc, .nilFunc, .nilFunc] [.nilFunc, .nilFunc, .nilFunc] rfl (w.heap.size + 4) (by simp [World.size_alloc]))
  have HZR : Hid ((((((w.alloc (.cells #[fnV 77] 112)).alloc (.cells #[fnV fe] 95)).alloc (.cells #[fnV fs] 113)).alloc (.cells #[fnV fd] 114)).alloc (.cells #[.nilFunc, .nilFunc, .nilFunc] 72)).heap[w.heap.size + 4]? = some (.cells #[.nilFunc, .nilFunc, .nilFunc] 72 (0, 0))) := HZ.out
  have HRS := hidden (Row.setRow_ HZ.out [.func (.func 135) #[] #[ptV (w.heap.size + 1), ptV w.heap.size], .func (.func 136) #[] #[ptV (w.heap.size + 2), ptV w.heap.size], .func (.func 137) #[] #[ptV (w.heap.size + 3), ptV w.heap.size]] rfl)
  have HO := hidden (fun k (hk : k ≠ w.heap.size + 4) => setRow_other (((((w.alloc (.cells #[fnV 77] 112)).alloc (.cells #[fnV fe] 95)).alloc (.cells #[fnV fs] 113)).alloc (.cells #[fnV fd] 114)).alloc (.cells #[.nilFunc, .nilFunc, .nilFunc] 72)) (w.heap.size + 4) k #[.func (.func 135) #[] #[ptV (w.heap.size + 1), ptV w.heap.size], .func (.func 136) #[] #[ptV (w.heap.size + 2), ptV w.heap.size], .func (.func 137) #[] #[ptV (w.heap.size + 3), ptV w.heap.size]] hk)
  go_enter Tryz.func76, Tryz.ntmps76
  go_wp2_with (refine wpList_store_row rfl _ _ _ rfl _ #[.func (.func 135) #[] #[ptV (w.heap.size + 1), ptV w.heap.size], .func (.func 136) #[] #[ptV (w.heap.size + 2), ptV w.heap.size], .func (.func 137) #[] #[ptV (w.heap.size + 3), ptV w.heap.size]] rfl rfl _ _ HZR.out sizeCod rfl (by simp [Value.oneCell']) ?_)
  refine bodyPost_ret (results_cod1 rfl _ _ _ _ _ _ rfl HRS.out) rfl ⟨_, rfl, ⟨_, _, _, _, rfl, ?_, ?_, ?_, ?_⟩, below_setRow HG.out (by omega) _⟩
  · exact (HO.out _ (by omega)).trans HE.out
  · exact (HO.out _ (by omega)).trans HS.out
  · exact (HO.out _ (by omega)).trans HD.out
  · exact (HO.out _ (by omega)).trans HP.out
def CodecT (fe fs fd : FuncId) (x : Value) (w : World) : Prop :=
  ∃ be bs bd bp, x = .agg #[.func (.func 161) #[] #[ptV be, ptV bp], .func (.func 162) #[] #[ptV bs, ptV bp], .func (.func 163) #[] #[ptV bd, ptV bp]] ∧
    Row w be 96 [fnV fe] ∧ Row w bs 117 [fnV fs] ∧ Row w bd 118 [fnV fd] ∧ Row w bp 116 [fnV 94]
theorem CodecT.grow {fe fs fd : FuncId} {x : Value} {w w' : World} (h : CodecT fe fs fd x w) (hg : Grows w w') : CodecT fe fs fd x w' := by
  obtain ⟨be, bs, bd, bp, h0, h1, h2, h3, h4⟩ := h
  exact ⟨be, bs, bd, bp, h0, h1.grow hg, h2.grow hg, h3.grow hg, h4.grow hg⟩
set_option maxHeartbeats 2000000 in
theorem ecodecOfT_any (fe fs fd : FuncId) (w : World) : Calls Tryz.prog 93 #[fnV 94, fnV fe, fnV fs, fnV fd] w fun e w' => ∃ x, e = .returned x ∧ CodecT fe fs fd x w' ∧ Grows w w' := by
  have hmf : ∀ (fn : Fn) (first cap : Array Value) (w : World), (Instr.makeFunc fn first cap).run Tryz.prog w = .ok (.func fn first cap) w := fun _ _ _ _ => rfl
  have HG := hidden ((((( growB w (.cells #[fnV 94] 116)).of_below (growB _ (.cells #[fnV fe] 96))).of_below (growB _ (.cells #[fnV fs] 117))).of_below (growB _ (.cells #[fnV fd] 118))).of_below (growB _ (.cells #[.nilFunc, .nilFunc, .nilFunc] 72)))
  have HP := hidden (((((Row.new w 116 #[fnV 94] [fnV 94] rfl).grow (growB _ (.cells #[fnV fe] 96))).grow (growB _ (.cells #[fnV fs] 117))).grow (growB _ (.cells #[fnV fd] 118))).grow (growB _ (.cells #[.nilFunc, .nilFunc, .nilFunc] 72)))
  have HE := hidden ((((Row.at_ (w.alloc (.cells #[fnV 94] 116)) 96 #[fnV fe] [fnV fe] rfl (w.heap.size + 1) (by simp [World.size_alloc])).grow (growB _ (.cells #[fnV fs] 117))).grow (growB _ (.cells #[fnV fd] 118))).grow (growB _ (.cells #[.nilFunc, .nilFunc, .nilFunc] 72)))
  have HS := hidden (((Row.at_ ((w.alloc (.cells #[fnV 94] 116)).alloc (.cells #[fnV fe] 96)) 117 #[fnV fs] [fnV fs] rfl (w.heap.size + 2) (by simp [World.size_alloc])).grow (growB _ (.cells #[fnV fd] 118))).grow (growB _ (.cells #[.nilFunc, .nilFunc, .nilFunc] 72)))
  have HD := hidden ((Row.at_ (((w.alloc (.cells #[fnV 94] 116)).alloc (.cells #[fnV fe] 96)).alloc (.cells #[fnV fs] 117)) 118 #[fnV fd] [fnV fd] rfl (w.heap.size + 3) (by simp [World.size_alloc])).grow (growB _ (.cells #[.nilFunc, .nilFunc, .nilFunc] 72)))
  have HZ := hidden (Row.at_ ((((w.alloc (.cells #[fnV 94] 116)).alloc (.cells #[fnV fe] 96)).alloc (.cells #[fnV fs] 117)).alloc (.cells #[fnV fd] 118)) 72 #[.nilFunc, .nilFunc, .nilFunc] [.nilFunc, .nilFunc, .nilFunc] rfl (w.heap.size + 4) (by simp [World.size_alloc]))
  have HZR : Hid ((((((w.alloc (.cells #[fnV 94] 116)).alloc (.cells #[fnV fe] 96)).alloc (.cells #[fnV fs] 117)).alloc (.cells #[fnV fd] 118)).alloc (.cells #[.nilFunc, .nilFunc, .nilFunc] 72)).heap[w.heap.size + 4]? = some (.cells #[.nilFunc, .nilFunc, .nilFunc] 72 (0, 0))) := HZ.out
  have HRS := hidden (Row.setRow_ HZ.out [.func (.func 161) #[] #[ptV (w.heap.size + 1), ptV w.heap.size], .func (.func 162) #[] #[ptV (w.heap.size + 2), ptV w.heap.size], .func (.func 163) #[] #[ptV (w.heap.size + 3), ptV w.heap.size]] rfl)
  have HO := hidden (fun k (hk : k ≠ w.heap.size + 4) => setRow_other (((((w.alloc (.cells #[fnV 94] 116)).alloc (.cells #[fnV fe] 96)).alloc (.cells #[fnV fs] 117)).alloc (.cells #[fnV fd] 118)).alloc (.cells #[.nilFunc, .nilFunc, .nilFunc] 72)) (w.heap.size + 4) k #[.func (.func 161) #[] #[ptV (w.heap.size + 1), ptV w.heap.size], .func (.func 162) #[] #[ptV (w.heap.size + 2), ptV w.heap.size], .func (.func 163) #[] #[ptV (w.heap.size + 3), ptV w.heap.size]] hk)
  go_enter Tryz.func93, Tryz.ntmps93
  go_wp2_with (refine wpList_store_row rfl _ _ _ rfl _ #[.func (.func 161) #[] #[ptV (w.heap.size + 1), ptV w.heap.size], .func (.func 162) #[] #[ptV (w.heap.size + 2), ptV w.heap.size], .func (.func 163) #[] #[ptV (w.heap.size + 3), ptV w.heap.size]] rfl rfl _ _ HZR.out sizeCod rfl (by simp [Value.oneCell']) ?_)
  refine bodyPost_ret (results_cod1 rfl _ _ _ _ _ _ rfl HRS.out) rfl ⟨_, rfl, ⟨_, _, _, _, rfl, ?_, ?_, ?_, ?_⟩, below_setRow HG.out (by omega) _⟩
  · exact (HO.out _ (by omega)).trans HE.out
  · exact (HO.out _ (by omega)).trans HS.out
  · exact (HO.out _ (by omega)).trans HD.out
  · exact (HO.out _ (by omega)).trans HP.out
end Go.Proofs.YthmipnokimlbdaaGreat
