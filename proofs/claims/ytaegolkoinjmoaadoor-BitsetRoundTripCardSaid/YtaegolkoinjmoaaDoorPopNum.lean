/-
  The number of ones of a word of 64 bits, as math/bits reckons it. No condition.
-/
import Derived.Test.YtaegolkoinjmoaaDoorBwNum
namespace Go.Proofs.YtaegolkoinjmoaaDoor
open Go.RowKit

theorem and_split {a b c d : Nat} (ha : a < 256) (hc : c < 256) : (a + 256 * b) &&& (c + 256 * d) = (a &&& c) + 256 * (b &&& d) := by
  have h1 : ((a + 256 * b) &&& (c + 256 * d)) % 2 ^ 8 = a &&& c := by
    rw [Nat.and_mod_two_pow, show (a + 256 * b) % 2 ^ 8 = a by omega, show (c + 256 * d) % 2 ^ 8 = c by omega]
  have h2 : ((a + 256 * b) &&& (c + 256 * d)) / 2 ^ 8 = b &&& d := by
    rw [Nat.and_div_two_pow, show (a + 256 * b) / 2 ^ 8 = b by omega, show (c + 256 * d) / 2 ^ 8 = d by omega]
  omega
def msk (b : Nat) : Nat → Nat
  | 0 => 0
  | n + 1 => b + 256 * msk b n
def p1 (n x : Nat) : Nat := (x / 2 &&& msk 85 n) + (x &&& msk 85 n)
def p2 (n x : Nat) : Nat := (x / 4 &&& msk 51 n) + (x &&& msk 51 n)
def p3 (n x : Nat) : Nat := (x / 16 + x) &&& msk 15 n
theorem fin1 : ∀ l : Fin 128, ∀ r : Fin 2, (l.val + 128 * r.val) &&& 85 = l.val &&& 85 := by decide +kernel
theorem fin2 : ∀ l : Fin 64, ∀ r : Fin 4, (l.val + 64 * r.val) &&& 51 = l.val &&& 51 := by decide +kernel
theorem fin3 : ∀ l : Fin 69, ∀ r : Fin 5, (l.val / 16 + l.val + 16 * r.val) &&& 15 = (l.val / 16 + l.val) &&& 15 := by decide +kernel
theorem fin4 : ∀ l : Fin 256, p1 1 l.val < 256 ∧ p2 1 (p1 1 l.val) ≤ 68 ∧ p2 1 (p1 1 l.val) % 16 ≤ 4 ∧ p3 1 (p2 1 (p1 1 l.val)) = cnt (fun j => l.val.testBit j) 8 := by decide +kernel
theorem p1_split {l h n : Nat} (hl : l < 256) : p1 (n + 1) (l + 256 * h) = p1 1 l + 256 * p1 n h := by
  unfold p1
  rw [show (l + 256 * h) / 2 = (l / 2 + 128 * (h % 2)) + 256 * (h / 2) by omega]
  rw [msk, and_split (by omega) (by decide), and_split hl (by decide)]
  have := fin1 ⟨l / 2, by omega⟩ ⟨h % 2, by omega⟩
  simp only at this
  rw [this]
  simp only [msk, Nat.mul_zero, Nat.add_zero]
  omega
theorem p2_split {l h n : Nat} (hl : l < 256) : p2 (n + 1) (l + 256 * h) = p2 1 l + 256 * p2 n h := by
  unfold p2
  rw [show (l + 256 * h) / 4 = (l / 4 + 64 * (h % 4)) + 256 * (h / 4) by omega]
  rw [msk, and_split (by omega) (by decide), and_split hl (by decide)]
  have := fin2 ⟨l / 4, by omega⟩ ⟨h % 4, by omega⟩
  simp only at this
  rw [this]
  simp only [msk, Nat.mul_zero, Nat.add_zero]
  omega
theorem p3_split {l h n : Nat} (hl : l ≤ 68) (hh : h % 16 ≤ 4) : p3 (n + 1) (l + 256 * h) = p3 1 l + 256 * p3 n h := by
  unfold p3
  rw [show (l + 256 * h) / 16 + (l + 256 * h) = (l / 16 + l + 16 * (h % 16)) + 256 * (h / 16 + h) by omega]
  rw [msk, and_split (by omega) (by decide)]
  have := fin3 ⟨l, by omega⟩ ⟨h % 16, by omega⟩
  simp only at this
  rw [this]
  simp only [msk, Nat.mul_zero, Nat.add_zero]
def pops (n x : Nat) : Nat := p3 n (p2 n (p1 n x))
theorem p2_low : ∀ n x, x < 256 ^ n → p2 n (p1 n x) % 16 ≤ 4
  | 0, x, _ => by simp [p2, p1, msk]
  | n + 1, x, h => by
    have hx : x = x % 256 + 256 * (x / 256) := by omega
    obtain ⟨h1, h2, h3, _⟩ := fin4 ⟨x % 256, by omega⟩
    simp only at h1 h2 h3
    rw [hx, p1_split (by omega), p2_split h1]
    omega
theorem pops_split {l h n : Nat} (hl : l < 256) (hh : h < 256 ^ n) : pops (n + 1) (l + 256 * h) = cnt (fun j => l.testBit j) 8 + 256 * pops n h := by
  obtain ⟨h1, h2, h3, h4⟩ := fin4 ⟨l, hl⟩
  simp only at h1 h2 h3 h4
  unfold pops
  rw [p1_split hl, p2_split h1, p3_split h2 (p2_low n h hh), h4]
/-- the ones of each byte -/
def byteCnt (x i : Nat) : Nat := cnt (fun j => (x / 256 ^ i % 256).testBit j) 8
theorem byteCnt_le (x i : Nat) : byteCnt x i ≤ 8 := cnt_le _ _
theorem byteCnt_succ (x i : Nat) : byteCnt x (i + 1) = byteCnt (x / 256) i := by unfold byteCnt; rw [Nat.pow_succ, Nat.mul_comm, ← Nat.div_div_eq_div_mul]
def sumB (g : Nat → Nat) : Nat → Nat
  | 0 => 0
  | n + 1 => g 0 + 256 * sumB (fun i => g (i + 1)) n
def sum1 (g : Nat → Nat) : Nat → Nat
  | 0 => 0
  | n + 1 => g 0 + sum1 (fun i => g (i + 1)) n
theorem pops_eq : ∀ n x, x < 256 ^ n → pops n x = sumB (byteCnt x) n
  | 0, x, _ => by simp [pops, p3, msk, sumB]
  | n + 1, x, h => by
    have hx : x = x % 256 + 256 * (x / 256) := by omega
    have hd : x / 256 < 256 ^ n := by rw [Nat.pow_succ] at h; omega
    conv => lhs; rw [hx]
    rw [pops_split (by omega) hd, pops_eq n _ hd, sumB]
    congr 2
    · simp
    · congr 1; funext i; exact (byteCnt_succ x i).symm
theorem cnt_eq : ∀ n x, cnt (fun j => x.testBit j) (8 * n) = sum1 (byteCnt x) n
  | 0, x => rfl
  | n + 1, x => by
    rw [show 8 * (n + 1) = 8 + 8 * n by omega, cnt_split, sum1]
    congr 1
    · simp only [byteCnt, Nat.pow_zero, Nat.div_one]
      refine cnt_congr fun i hi => ?_
      rw [show (256 : Nat) = 2 ^ 8 by decide, Nat.testBit_mod_two_pow]
      simp [hi]
    · have e : (fun i => byteCnt x (i + 1)) = byteCnt (x / 256) := by funext i; exact byteCnt_succ x i
      rw [e, ← cnt_eq n (x / 256)]
      refine cnt_congr fun i _ => ?_
      rw [show (256 : Nat) = 2 ^ 8 by decide, Nat.testBit_div_two_pow, Nat.add_comm]
theorem pop_tail (a b c d e f g h y y1 y2 y3 y4 y5 y6 y7 : Nat) (ha : a ≤ 8) (hb : b ≤ 8) (hc : c ≤ 8) (hd : d ≤ 8) (he : e ≤ 8) (hf : f ≤ 8) (hg : g ≤ 8) (hh : h ≤ 8)
    (k0 : y = a + 256 * y1) (k1 : y1 = b + 256 * y2) (k2 : y2 = c + 256 * y3) (k3 : y3 = d + 256 * y4) (k4 : y4 = e + 256 * y5) (k5 : y5 = f + 256 * y6) (k6 : y6 = g + 256 * y7) (k7 : y7 = h)
    (z1 z2 : Nat) (h1 : z1 = y + y / 256) (h2 : z2 = z1 + z1 / 65536) :
    (z2 + z2 / 4294967296) % 128 = a + (b + (c + (d + (e + (f + (g + h)))))) ∧ y < 4611686018427387904 ∧ z1 < 4611686018427387904 ∧ z2 < 4611686018427387904 := by
  have b7 : y7 ≤ 8 := by omega
  have b6 : y6 ≤ 2056 := by clear k0 k1 k2 k3 k4 k5 h1 h2; omega
  have b5 : y5 ≤ 526344 := by clear k0 k1 k2 k3 k4 k6 k7 h1 h2; omega
  have b4 : y4 ≤ 134744072 := by clear k0 k1 k2 k3 k5 k6 k7 h1 h2; omega
  have b3 : y3 ≤ 34494482440 := by clear k0 k1 k2 k4 k5 k6 k7 h1 h2; omega
  have b2 : y2 ≤ 8830587504648 := by clear k0 k1 k3 k4 k5 k6 k7 h1 h2; omega
  have b1 : y1 ≤ 2260630401189896 := by clear k0 k2 k3 k4 k5 k6 k7 h1 h2; omega
  have b0 : y ≤ 578721382704613384 := by clear k1 k2 k3 k4 k5 k6 k7 h1 h2; omega
  have e1 : y / 256 = y1 := by clear k1 k2 k3 k4 k5 k6 k7 h1 h2; omega
  rw [e1] at h1
  have f0 : y = a + 256 * b + 65536 * y2 := by clear k2 k3 k4 k5 k6 k7 h1 h2; omega
  have f1 : y1 = b + 256 * c + 65536 * y3 := by clear k0 k3 k4 k5 k6 k7 h1 h2 f0; omega
  have e2 : z1 / 65536 = y2 + y3 := by clear k0 k1 k2 k3 k4 k5 k6 k7 h2; omega
  rw [e2] at h2
  have g2 : y2 = c + 256 * d + 65536 * y4 := by clear k0 k1 k4 k5 k6 k7 h1 h2 f0 f1; omega
  have g3 : y3 = d + 256 * e + 65536 * y5 := by clear k0 k1 k2 k5 k6 k7 h1 h2 f0 f1 g2; omega
  have g4 : y4 = e + 256 * f + 65536 * y6 := by clear k0 k1 k2 k3 k6 k7 h1 h2 f0 f1 g2 g3; omega
  have g5 : y5 = f + 256 * g + 65536 * y7 := by clear k0 k1 k2 k3 k4 k7 h1 h2 f0 f1 g2 g3 g4; omega
  have e3 : z2 = (a + 256 * b + 65536 * c + 16777216 * d) + (b + 256 * c + 65536 * d + 16777216 * e) + (c + 256 * d + 65536 * e + 16777216 * f) + (d + 256 * e + 65536 * f + 16777216 * g) + 4294967296 * (y4 + y5 + y6 + y7) := by
    clear k0 k1 k2 k3 k4 k5 k6 k7 e1 e2 b0 b1 b2 b3 b4 b5 b6 b7 ha hb hc hd he hf hg hh; omega
  have e4 : z2 / 4294967296 = y4 + y5 + y6 + y7 := by clear k0 k1 k2 k3 k4 k5 k6 k7 f0 f1 g2 g3 g4 g5 h1 h2 e1 e2; omega
  have e5 : z2 + z2 / 4294967296 = a + (b + (c + (d + (e + (f + (g + h)))))) + 128 * (2 * (y1 + y2 + y3 + y4 + y5 + y6 + y7)) := by
    rw [e4]; clear e3 e4 f0 f1 g2 g3 g4 g5 e1 e2 b0 b1 b2 b3 b4 b5 b6 b7 ha hb hc hd he hf hg hh; omega
  refine ⟨?_, by omega, by clear e3 e5; omega, by clear e3 e5; omega⟩
  rw [e5]
  clear e5 e3 e4 f0 f1 g2 g3 g4 g5 e1 e2 h1 h2 k0 k1 k2 k3 k4 k5 k6 k7
  omega
theorem pop_eq {x : Nat} (hx : x < 18446744073709551616) (y z1 z2 : Nat) (hy : y = pops 8 x) (h1 : z1 = y + y / 256) (h2 : z2 = z1 + z1 / 65536) :
    (z2 + z2 / 4294967296) % 128 = cnt (fun j => x.testBit j) 64 ∧ y < 4611686018427387904 ∧ z1 < 4611686018427387904 ∧ z2 < 4611686018427387904 := by
  have e := pops_eq 8 x hx
  have c := cnt_eq 8 x
  rw [show 8 * 8 = 64 by rfl] at c
  rw [c]
  exact pop_tail _ _ _ _ _ _ _ _ y _ _ _ _ _ _ _ (byteCnt_le x 0) (byteCnt_le x 1) (byteCnt_le x 2) (byteCnt_le x 3) (byteCnt_le x 4) (byteCnt_le x 5) (byteCnt_le x 6) (byteCnt_le x 7) (hy.trans e) rfl rfl rfl rfl rfl rfl rfl z1 z2 h1 h2
end Go.Proofs.YtaegolkoinjmoaaDoor
