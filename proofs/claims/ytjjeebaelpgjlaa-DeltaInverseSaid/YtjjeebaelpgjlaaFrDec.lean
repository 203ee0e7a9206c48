/-
  Decoding frames of reference over lists of bytes: what Decode and At answer, and that they invert the encoding whatever lies around it. Arithmetic and lists; no walk.
-/
import Derived.Test.YtjjeebaelpgjlaaFrNum
import Derived.Test.YtjjeebaelpgjlaaLdNum
import Derived.Test.YtjjeebaelpgjlaaBp2
namespace Go.Proofs.Ytjjeebaelpgjlaa
open Go.RowKit
set_option linter.unusedVariables false
set_option linter.unusedSimpArgs false

/-- readNumber: the number, the offset behind it, the error -/
def numD (b : List UInt8) (o lim : Int) : Int × Int × Int :=
  if (dcd b o).2.2 ≠ 0 then (0, 0, (dcd b o).2.2) else if lim < (dcd b o).1 then (0, 0, 4) else ((dcd b o).1, (dcd b o).2.1, 0)
/-- the frame: the base's varint, the width, how many exceptions, the offset of the packed bytes, the error -/
def frD (b : List UInt8) (o n : Int) : Int × Int × Int × Int × Int :=
  if n < 0 ∨ 65536 < n then (0, 0, 0, 0, 1) else
  if (dcd b o).2.2 ≠ 0 then (0, 0, 0, 0, (dcd b o).2.2) else
  if (numD b (dcd b o).2.1 64).2.2 ≠ 0 then (0, 0, 0, 0, (numD b (dcd b o).2.1 64).2.2) else
  if (numD b (numD b (dcd b o).2.1 64).2.1 n).2.2 ≠ 0 then (0, 0, 0, 0, (numD b (numD b (dcd b o).2.1 64).2.1 n).2.2) else
  if (b.length : Int) - (numD b (numD b (dcd b o).2.1 64).2.1 n).2.1 < szB n.toNat (numD b (dcd b o).2.1 64).1.toNat then (0, 0, 0, 0, 2) else
  ((dcd b o).1, (numD b (dcd b o).2.1 64).1, (numD b (numD b (dcd b o).2.1 64).2.1 n).1, (numD b (numD b (dcd b o).2.1 64).2.1 n).2.1, 0)
/-- an exception put in -/
def putD (d : List Nat) (i h : Int) (w : Nat) : List Nat := if i < (d.length : Int) then d.set i.toNat (d.getD i.toNat 0 ||| h.toNat * 2 ^ w % 18446744073709551616) else d
theorem putD_length (d : List Nat) (i h : Int) (w : Nat) : (putD d i h w).length = d.length := by unfold putD; split <;> simp
def excD (b : List UInt8) (w : Nat) : Nat → Int → List Nat → List Nat × Int × Int
  | 0, p, d => (d, p, 0)
  | k + 1, p, d =>
    if (dcd b p).2.2 ≠ 0 then ([], 0, (dcd b p).2.2) else
    if (dcd b (dcd b p).2.1).2.2 ≠ 0 then ([], 0, (dcd b (dcd b p).2.1).2.2) else
    excD b w k (dcd b (dcd b p).2.1).2.1 (putD d (dcd b p).1 (dcd b (dcd b p).2.1).1 w)
theorem excD_e1 {b : List UInt8} {w k : Nat} {p : Int} {d : List Nat} (h : (dcd b p).2.2 ≠ 0) : excD b w (k + 1) p d = ([], 0, (dcd b p).2.2) := by rw [excD, if_pos h]
theorem excD_e2 {b : List UInt8} {w k : Nat} {p : Int} {d : List Nat} (h : (dcd b p).2.2 = 0) (h2 : (dcd b (dcd b p).2.1).2.2 ≠ 0) : excD b w (k + 1) p d = ([], 0, (dcd b (dcd b p).2.1).2.2) := by
  rw [excD, if_neg (by simpa using h), if_pos h2]
theorem excD_ok {b : List UInt8} {w k : Nat} {p : Int} {d : List Nat} (h : (dcd b p).2.2 = 0) (h2 : (dcd b (dcd b p).2.1).2.2 = 0) :
    excD b w (k + 1) p d = excD b w k (dcd b (dcd b p).2.1).2.1 (putD d (dcd b p).1 (dcd b (dcd b p).2.1).1 w) := by
  rw [excD, if_neg (by simpa using h), if_neg (by simpa using h2)]
/-- a value out of its difference -/
def valV (z : Int) (d : Nat) : Int := IntKind.i64.wrap (uz z + (d : Int))
theorem valV_in (z : Int) (d : Nat) : frIn (valV z d) := by unfold valV frIn; rw [IntKind.wrap_i64]; omega
def packedD (b : List UInt8) (p : Int) (n w : Nat) : List UInt8 := (b.drop p.toNat).take (szB n w)
def lowD (b : List UInt8) (p : Int) (n w : Nat) : List Nat := (List.range n).map fun (i : Nat) => atB (packedD b p n w) (i : Int) (w : Int)
theorem lowD_length (b : List UInt8) (p : Int) (n w : Nat) : (lowD b p n w).length = n := by simp [lowD]
def decV (b : List UInt8) (o n : Int) : List Int × Int × Int :=
  match frD b o n with
  | (z, w, m, p, e) =>
    if e ≠ 0 then ([], 0, e) else
    match excD b w.toNat m.toNat (p + (szB n.toNat w.toNat : Nat)) (lowD b p n.toNat w.toNat) with
    | (d, q, f) =>
      if f ≠ 0 then ([], 0, f) else
      if encV (d.map (valV z)) = (b.drop o.toNat).take (q - o).toNat then (d.map (valV z), q, 0) else ([], 0, 4)
theorem decV_e1 {b : List UInt8} {o n z w m p e : Int} (h : frD b o n = (z, w, m, p, e)) (he : e ≠ 0) : decV b o n = ([], 0, e) := by unfold decV; rw [h]; simp only []; rw [if_pos he]
theorem decV_e2 {b : List UInt8} {o n z w m p q f : Int} {d : List Nat} (h : frD b o n = (z, w, m, p, 0)) (h2 : excD b w.toNat m.toNat (p + (szB n.toNat w.toNat : Nat)) (lowD b p n.toNat w.toNat) = (d, q, f)) (hf : f ≠ 0) : decV b o n = ([], 0, f) := by
  unfold decV; rw [h]; simp only []; rw [if_neg (by decide), h2]; simp only []; rw [if_pos hf]
theorem decV_e3 {b : List UInt8} {o n z w m p q : Int} {d : List Nat} (h : frD b o n = (z, w, m, p, 0)) (h2 : excD b w.toNat m.toNat (p + (szB n.toNat w.toNat : Nat)) (lowD b p n.toNat w.toNat) = (d, q, 0)) (hf : encV (d.map (valV z)) ≠ (b.drop o.toNat).take (q - o).toNat) : decV b o n = ([], 0, 4) := by
  unfold decV; rw [h]; simp only []; rw [if_neg (by decide), h2]; simp only []; rw [if_neg (by decide), if_neg hf]
theorem decV_ok {b : List UInt8} {o n z w m p q : Int} {d : List Nat} (h : frD b o n = (z, w, m, p, 0)) (h2 : excD b w.toNat m.toNat (p + (szB n.toNat w.toNat : Nat)) (lowD b p n.toNat w.toNat) = (d, q, 0)) (hf : encV (d.map (valV z)) = (b.drop o.toNat).take (q - o).toNat) : decV b o n = (d.map (valV z), q, 0) := by
  unfold decV; rw [h]; simp only []; rw [if_neg (by decide), h2]; simp only []; rw [if_neg (by decide), if_pos hf]
def excA (b : List UInt8) (w : Nat) (i : Int) : Nat → Int → Nat → Nat × Int
  | 0, _, d => (d, 0)
  | k + 1, p, d =>
    if (dcd b p).2.2 ≠ 0 then (0, (dcd b p).2.2) else
    if (dcd b (dcd b p).2.1).2.2 ≠ 0 then (0, (dcd b (dcd b p).2.1).2.2) else
    if (dcd b p).1 < i then excA b w i k (dcd b (dcd b p).2.1).2.1 d else
    if (dcd b p).1 = i then (d ||| (dcd b (dcd b p).2.1).1.toNat * 2 ^ w % 18446744073709551616, 0) else (d, 0)
theorem excA_e1 {b : List UInt8} {w k d : Nat} {i p : Int} (h : (dcd b p).2.2 ≠ 0) : excA b w i (k + 1) p d = (0, (dcd b p).2.2) := by rw [excA, if_pos h]
theorem excA_e2 {b : List UInt8} {w k d : Nat} {i p : Int} (h : (dcd b p).2.2 = 0) (h2 : (dcd b (dcd b p).2.1).2.2 ≠ 0) : excA b w i (k + 1) p d = (0, (dcd b (dcd b p).2.1).2.2) := by
  rw [excA, if_neg (by simpa using h), if_pos h2]
theorem excA_lt {b : List UInt8} {w k d : Nat} {i p : Int} (h : (dcd b p).2.2 = 0) (h2 : (dcd b (dcd b p).2.1).2.2 = 0) (h3 : (dcd b p).1 < i) : excA b w i (k + 1) p d = excA b w i k (dcd b (dcd b p).2.1).2.1 d := by
  rw [excA, if_neg (by simpa using h), if_neg (by simpa using h2), if_pos h3]
theorem excA_eq {b : List UInt8} {w k d : Nat} {i p : Int} (h : (dcd b p).2.2 = 0) (h2 : (dcd b (dcd b p).2.1).2.2 = 0) (h3 : (dcd b p).1 = i) : excA b w i (k + 1) p d = (d ||| (dcd b (dcd b p).2.1).1.toNat * 2 ^ w % 18446744073709551616, 0) := by
  rw [excA, if_neg (by simpa using h), if_neg (by simpa using h2), if_neg (by omega), if_pos h3]
theorem excA_gt {b : List UInt8} {w k d : Nat} {i p : Int} (h : (dcd b p).2.2 = 0) (h2 : (dcd b (dcd b p).2.1).2.2 = 0) (h3 : i < (dcd b p).1) : excA b w i (k + 1) p d = (d, 0) := by
  rw [excA, if_neg (by simpa using h), if_neg (by simpa using h2), if_neg (by omega), if_neg (by omega)]
def atV (b : List UInt8) (o n i : Int) : Int × Int :=
  match frD b o n with
  | (z, w, m, p, e) =>
    if e ≠ 0 then (0, e) else
    if i < 0 ∨ n ≤ i then (0, 1) else
    match excA b w.toNat i m.toNat (p + (szB n.toNat w.toNat : Nat)) (atB (packedD b p n.toNat w.toNat) i w) with
    | (d, f) => if f ≠ 0 then (0, f) else (valV z d, 0)
theorem atV_e1 {b : List UInt8} {o n i z w m p e : Int} (h : frD b o n = (z, w, m, p, e)) (he : e ≠ 0) : atV b o n i = (0, e) := by unfold atV; rw [h]; simp only []; rw [if_pos he]
theorem atV_e2 {b : List UInt8} {o n i z w m p : Int} (h : frD b o n = (z, w, m, p, 0)) (hi : i < 0 ∨ n ≤ i) : atV b o n i = (0, 1) := by unfold atV; rw [h]; simp only []; rw [if_neg (by decide), if_pos hi]
theorem atV_e3 {b : List UInt8} {o n i z w m p f : Int} {d : Nat} (h : frD b o n = (z, w, m, p, 0)) (hi : ¬ (i < 0 ∨ n ≤ i)) (h2 : excA b w.toNat i m.toNat (p + (szB n.toNat w.toNat : Nat)) (atB (packedD b p n.toNat w.toNat) i w) = (d, f)) (hf : f ≠ 0) : atV b o n i = (0, f) := by
  unfold atV; rw [h]; simp only []; rw [if_neg (by decide), if_neg hi, h2]; simp only []; rw [if_pos hf]
theorem atV_ok {b : List UInt8} {o n i z w m p : Int} {d : Nat} (h : frD b o n = (z, w, m, p, 0)) (hi : ¬ (i < 0 ∨ n ≤ i)) (h2 : excA b w.toNat i m.toNat (p + (szB n.toNat w.toNat : Nat)) (atB (packedD b p n.toNat w.toNat) i w) = (d, 0)) : atV b o n i = (valV z d, 0) := by
  unfold atV; rw [h]; simp only []; rw [if_neg (by decide), if_neg hi, h2]; simp only []; rw [if_neg (by decide)]

/-! The inverses -/
theorem dcd_enc {p q : List UInt8} {x : Nat} (hx : x < 18446744073709551616) : dcd (p ++ (enc x ++ q)) (p.length : Int) = ((x : Int), (((p ++ enc x).length : Nat) : Int), 0) := by
  have h := dec_enc hx q
  rw [dcd_ok (by rw [List.length_append]; omega) (n := x) (k := esz x) (e := 0) (by rw [Int.toNat_natCast, List.drop_left]; exact h), if_pos rfl, List.length_append, enc_length hx]
  rfl
theorem low_or {d w : Nat} (hd : d < 18446744073709551616) : d % 2 ^ w ||| d / 2 ^ w * 2 ^ w % 18446744073709551616 = d := by
  have h1 : d / 2 ^ w * 2 ^ w ≤ d := Nat.div_mul_le_self d (2 ^ w)
  rw [Nat.mod_eq_of_lt (a := d / 2 ^ w * 2 ^ w) (by omega), Nat.or_comm, Nat.mul_comm, ← Nat.two_pow_add_eq_or_of_lt (Nat.mod_lt _ (Nat.two_pow_pos w)), Nat.div_add_mod]
/-- the exceptions, read over the low parts, give the differences -/
theorem excD_exc {w : Nat} (hw : w ≤ 64) : ∀ (r pre : List Nat) (P Q : List UInt8), U64 r → pre.length + r.length ≤ 9223372036854775807 →
    excD (P ++ (exc w pre.length r ++ Q)) w (many w r) (P.length : Int) (pre ++ r.map (fun d => d % 2 ^ w)) = (pre ++ r, ((P ++ exc w pre.length r).length : Int), 0)
  | [], pre, P, Q, _, _ => by simp [exc, many, excD]
  | d :: r, pre, P, Q, hU, hl => by
    have hd : d < 18446744073709551616 := hU d (by simp)
    have hU' : U64 r := fun x hx => hU x (List.mem_cons_of_mem _ hx)
    rw [List.length_cons] at hl
    have ih := fun P' => excD_exc hw r (pre ++ [d]) P' Q hU' (by rw [List.length_append, List.length_singleton]; omega)
    rw [List.length_append, List.length_singleton] at ih
    by_cases h0 : d / 2 ^ w = 0
    · have hlow : d % 2 ^ w = d := Nat.mod_eq_of_lt ((Nat.div_eq_zero_iff.1 h0).resolve_left (by have := Nat.two_pow_pos w; omega))
      rw [exc, many, if_pos h0, if_pos h0, List.nil_append, Nat.zero_add, List.map_cons, hlow]
      have h := ih P
      rw [List.append_assoc, List.append_assoc] at h
      exact h
    · rw [exc, many, if_neg h0, if_neg h0, List.map_cons, Nat.add_comm 1]
      have hh : d / 2 ^ w < 18446744073709551616 := Nat.lt_of_le_of_lt (Nat.div_le_self _ _) hd
      have e1 : P ++ ((enc pre.length ++ enc (d / 2 ^ w) ++ exc w (pre.length + 1) r) ++ Q) = P ++ (enc pre.length ++ (enc (d / 2 ^ w) ++ (exc w (pre.length + 1) r ++ Q))) := by simp
      have d1 := dcd_enc (p := P) (q := enc (d / 2 ^ w) ++ (exc w (pre.length + 1) r ++ Q)) (x := pre.length) (by omega)
      have d2 := dcd_enc (p := P ++ enc pre.length) (q := exc w (pre.length + 1) r ++ Q) hh
      rw [List.append_assoc P] at d2
      rw [e1, excD_ok (by rw [d1]) (by rw [d1, d2]), d1, d2]
      have h := ih (P ++ enc pre.length ++ enc (d / 2 ^ w))
      have hp : putD (pre ++ d % 2 ^ w :: r.map (fun d => d % 2 ^ w)) (pre.length : Int) ((d / 2 ^ w : Nat) : Int) w = pre ++ d :: r.map (fun d => d % 2 ^ w) := by
        unfold putD
        rw [if_pos (by rw [List.length_append, List.length_cons]; omega), Int.toNat_natCast, Int.toNat_natCast, List.getD_eq_getElem?_getD, List.getElem?_append_right (Nat.le_refl _), Nat.sub_self, List.getElem?_cons_zero, Option.getD_some, low_or hd]
        simp
      simp only []
      rw [hp]
      rw [show P ++ enc pre.length ++ enc (d / 2 ^ w) ++ (exc w (pre.length + 1) r ++ Q) = P ++ (enc pre.length ++ (enc (d / 2 ^ w) ++ (exc w (pre.length + 1) r ++ Q))) by simp,
        show pre ++ [d] ++ r.map (fun d => d % 2 ^ w) = pre ++ d :: r.map (fun d => d % 2 ^ w) by simp, show P ++ enc pre.length ++ enc (d / 2 ^ w) = P ++ enc pre.length ++ enc (d / 2 ^ w) from rfl] at h
      rw [h]
      simp
/-- the exceptions, read up to an index behind those that were read, give the difference -/
theorem excA_exc {w : Nat} (hw : w ≤ 64) : ∀ (r : List Nat) (s : Nat) (P Q : List UInt8) (i x : Nat), U64 r → s + r.length ≤ 9223372036854775807 → s ≤ i → i < s + r.length → r[i - s]? = some x →
    excA (P ++ (exc w s r ++ Q)) w (i : Int) (many w r) (P.length : Int) (x % 2 ^ w) = (x, 0)
  | [], s, P, Q, i, x, _, _, h1, h2, _ => by rw [List.length_nil] at h2; omega
  | d :: r, s, P, Q, i, x, hU, hl, h1, h2, hx => by
    have hd : d < 18446744073709551616 := hU d (by simp)
    have hU' : U64 r := fun x hx => hU x (List.mem_cons_of_mem _ hx)
    rw [List.length_cons] at hl h2
    by_cases h0 : d / 2 ^ w = 0
    · have hlow : d % 2 ^ w = d := Nat.mod_eq_of_lt ((Nat.div_eq_zero_iff.1 h0).resolve_left (by have := Nat.two_pow_pos w; omega))
      rw [exc, many, if_pos h0, if_pos h0, List.nil_append, Nat.zero_add]
      by_cases his : i = s
      · subst his
        rw [Nat.sub_self, List.getElem?_cons_zero] at hx
        injection hx with hx
        subst hx
        rw [hlow]
        exact excA_past hw r (i + 1) P Q i d hU' (by omega) (by omega)
      · have e : i - s = (i - (s + 1)) + 1 := by omega
        rw [e, List.getElem?_cons_succ] at hx
        exact excA_exc hw r (s + 1) P Q i x hU' (by omega) (by omega) (by omega) hx
    · rw [exc, many, if_neg h0, if_neg h0, Nat.add_comm 1]
      have hh : d / 2 ^ w < 18446744073709551616 := Nat.lt_of_le_of_lt (Nat.div_le_self _ _) hd
      have e1 : P ++ ((enc s ++ enc (d / 2 ^ w) ++ exc w (s + 1) r) ++ Q) = P ++ (enc s ++ (enc (d / 2 ^ w) ++ (exc w (s + 1) r ++ Q))) := by simp
      have d1 := dcd_enc (p := P) (q := enc (d / 2 ^ w) ++ (exc w (s + 1) r ++ Q)) (x := s) (by omega)
      have d2 := dcd_enc (p := P ++ enc s) (q := exc w (s + 1) r ++ Q) hh
      rw [List.append_assoc P] at d2
      rw [e1]
      by_cases his : i = s
      · subst his
        rw [Nat.sub_self, List.getElem?_cons_zero] at hx
        injection hx with hx
        subst hx
        rw [excA_eq (by rw [d1]) (by rw [d1, d2]) (by rw [d1]), d1, d2]
        simp only []
        rw [Int.toNat_natCast, low_or hd]
      · have e : i - s = (i - (s + 1)) + 1 := by omega
        rw [e, List.getElem?_cons_succ] at hx
        rw [excA_lt (by rw [d1]) (by rw [d1, d2]) (by rw [d1]; show (s : Int) < i; omega), d1, d2]
        have h := excA_exc hw r (s + 1) (P ++ enc s ++ enc (d / 2 ^ w)) Q i x hU' (by omega) (by omega) (by omega) hx
        rw [show P ++ enc s ++ enc (d / 2 ^ w) ++ (exc w (s + 1) r ++ Q) = P ++ (enc s ++ (enc (d / 2 ^ w) ++ (exc w (s + 1) r ++ Q))) by simp] at h
        exact h
where
  excA_past {w : Nat} (hw : w ≤ 64) : ∀ (r : List Nat) (s : Nat) (P Q : List UInt8) (i x : Nat), U64 r → s + r.length ≤ 9223372036854775807 → i < s →
      excA (P ++ (exc w s r ++ Q)) w (i : Int) (many w r) (P.length : Int) x = (x, 0)
    | [], s, P, Q, i, x, _, _, _ => by simp [exc, many, excA]
    | d :: r, s, P, Q, i, x, hU, hl, h1 => by
      have hd : d < 18446744073709551616 := hU d (by simp)
      have hU' : U64 r := fun x hx => hU x (List.mem_cons_of_mem _ hx)
      rw [List.length_cons] at hl
      by_cases h0 : d / 2 ^ w = 0
      · rw [exc, many, if_pos h0, if_pos h0, List.nil_append, Nat.zero_add]
        exact excA_past hw r (s + 1) P Q i x hU' (by omega) (by omega)
      · rw [exc, many, if_neg h0, if_neg h0, Nat.add_comm 1]
        have hh : d / 2 ^ w < 18446744073709551616 := Nat.lt_of_le_of_lt (Nat.div_le_self _ _) hd
        have e1 : P ++ ((enc s ++ enc (d / 2 ^ w) ++ exc w (s + 1) r) ++ Q) = P ++ (enc s ++ (enc (d / 2 ^ w) ++ (exc w (s + 1) r ++ Q))) := by simp
        have d1 := dcd_enc (p := P) (q := enc (d / 2 ^ w) ++ (exc w (s + 1) r ++ Q)) (x := s) (by omega)
        have d2 := dcd_enc (p := P ++ enc s) (q := exc w (s + 1) r ++ Q) hh
        rw [List.append_assoc P] at d2
        rw [e1, excA_gt (by rw [d1]) (by rw [d1, d2]) (by rw [d1]; show (i : Int) < s; omega)]
/-- the frame of an encoding -/
theorem frD_enc {P Q : List UInt8} {b : Int} (hb : frIn b) {ds : List Nat} (hl : ds.length ≤ 65536) {w : Nat} (hw : w ≤ 64) :
    frD (P ++ (encD b ds w ++ Q)) (P.length : Int) (ds.length : Int) = (zz b, (w : Int), (many w ds : Int), ((P ++ enc (zz b).toNat ++ enc w ++ enc (many w ds)).length : Int), 0) := by
  have hz := zz_bd b hb.1 (by have := hb.2; omega)
  have hm := many_le w ds
  have e1 : P ++ (encD b ds w ++ Q) = P ++ (enc (zz b).toNat ++ (enc w ++ (enc (many w ds) ++ (packL ds w ++ (exc w 0 ds ++ Q))))) := by unfold encD; simp
  have d1 := dcd_enc (p := P) (q := enc w ++ (enc (many w ds) ++ (packL ds w ++ (exc w 0 ds ++ Q)))) (x := (zz b).toNat) (by omega)
  have d2 := dcd_enc (p := P ++ enc (zz b).toNat) (q := enc (many w ds) ++ (packL ds w ++ (exc w 0 ds ++ Q))) (x := w) (by omega)
  have d3 := dcd_enc (p := P ++ enc (zz b).toNat ++ enc w) (q := packL ds w ++ (exc w 0 ds ++ Q)) (x := many w ds) (by omega)
  rw [List.append_assoc P] at d2
  rw [show P ++ enc (zz b).toNat ++ enc w ++ (enc (many w ds) ++ (packL ds w ++ (exc w 0 ds ++ Q))) = P ++ (enc (zz b).toNat ++ (enc w ++ (enc (many w ds) ++ (packL ds w ++ (exc w 0 ds ++ Q))))) by simp] at d3
  rw [e1]
  have hlen : (P ++ (enc (zz b).toNat ++ (enc w ++ (enc (many w ds) ++ (packL ds w ++ (exc w 0 ds ++ Q)))))).length = (P ++ enc (zz b).toNat ++ enc w ++ enc (many w ds)).length + szB ds.length w + (exc w 0 ds ++ Q).length := by
    simp only [List.length_append, packL_length]; omega
  generalize P ++ (enc (zz b).toNat ++ (enc w ++ (enc (many w ds) ++ (packL ds w ++ (exc w 0 ds ++ Q))))) = B at *
  have n1 : numD B ((P ++ enc (zz b).toNat).length : Int) 64 = ((w : Int), ((P ++ enc (zz b).toNat ++ enc w).length : Int), 0) := by
    unfold numD
    rw [d2, if_neg (by simp), if_neg (by show ¬ (64 : Int) < (w : Int); omega)]
  have n2 : numD B ((P ++ enc (zz b).toNat ++ enc w).length : Int) (ds.length : Int) = ((many w ds : Int), ((P ++ enc (zz b).toNat ++ enc w ++ enc (many w ds)).length : Int), 0) := by
    unfold numD
    rw [d3, if_neg (by simp), if_neg (by show ¬ (ds.length : Int) < (many w ds : Int); omega)]
  unfold frD
  rw [if_neg (by omega), d1]
  simp only []
  rw [if_neg (by simp), n1]
  simp only []
  rw [if_neg (by simp), n2]
  simp only []
  rw [if_neg (by simp), Int.toNat_natCast, Int.toNat_natCast, if_neg (by rw [hlen]; omega), Int.toNat_of_nonneg hz.1]
theorem packed_enc {P Q : List UInt8} {b : Int} {ds : List Nat} {w : Nat} :
    packedD (P ++ (encD b ds w ++ Q)) ((P ++ enc (zz b).toNat ++ enc w ++ enc (many w ds)).length : Int) ds.length w = packL ds w := by
  have e1 : P ++ (encD b ds w ++ Q) = (P ++ enc (zz b).toNat ++ enc w ++ enc (many w ds)) ++ (packL ds w ++ (exc w 0 ds ++ Q)) := by unfold encD; simp
  unfold packedD
  rw [e1, Int.toNat_natCast, List.drop_left, ← packL_length, List.take_left]
theorem atB_packed {ds : List Nat} {w i x : Nat} (hU : U64 ds) (hw : w ≤ 64) (hl : ds.length ≤ 65536) (hx : ds[i]? = some x) : atB (packL ds w) (i : Int) (w : Int) = x % 2 ^ w := by
  have hi : i < ds.length := by
    rcases Nat.lt_or_ge i ds.length with h | h
    · exact h
    · rw [List.getElem?_eq_none h] at hx; cases hx
  unfold atB
  by_cases h1 : 1 ≤ w
  · have hb : i + 1 ≤ 8 * (packL ds w).length / w := by
      rw [packL_length, Nat.le_div_iff_mul_le (by omega)]
      unfold szB
      have h2 : (i + 1) * w ≤ ds.length * w := Nat.mul_le_mul_right w hi
      generalize ds.length * w = K at *
      omega
    have hc : (8 * ((packL ds w).length : Int) / (w : Int)) = ((8 * (packL ds w).length / w : Nat) : Int) := by simp
    rw [if_pos ⟨by omega, by omega, by omega⟩, Int.toNat_natCast, Int.toNat_natCast, numB_pack hi, List.getD_eq_getElem?_getD, hx]
    rfl
  · have : w = 0 := by omega
    subst this
    rw [if_neg (by omega), Nat.pow_zero, Nat.mod_one]
theorem lowD_enc {ds : List Nat} {w : Nat} (hU : U64 ds) (hw : w ≤ 64) (hl : ds.length ≤ 65536) {B : List UInt8} {p : Int} (h : packedD B p ds.length w = packL ds w) : lowD B p ds.length w = ds.map (fun d => d % 2 ^ w) := by
  unfold lowD
  rw [h]
  apply List.ext_getElem?
  intro j
  rw [List.getElem?_map, List.getElem?_map]
  by_cases hj : j < ds.length
  · rw [List.getElem?_range hj, List.getElem?_eq_getElem hj, Option.map_some, Option.map_some, atB_packed hU hw hl (List.getElem?_eq_getElem hj)]
  · rw [List.getElem?_eq_none (by simpa using hj), List.getElem?_eq_none (by omega)]
    rfl
theorem valV_dif {b v : Int} (hb : frIn b) (hv : frIn v) : valV (zz b) (difN b v) = v := by
  unfold valV difN frIn at *
  rw [uz_zz, IntKind.wrap_i64]
  omega
theorem map_dif {l : List Int} (h : ∀ x ∈ l, frIn x) : (difL l).map (valV (zz (baseV l))) = l := by
  unfold difL
  rw [List.map_map]
  have e : ∀ x ∈ l, (valV (zz (baseV l)) ∘ difN (baseV l)) x = id x := fun x hx => valV_dif (baseV_in h) (h x hx)
  rw [List.map_congr_left e, List.map_id]
/-- Decode inverts the encoding, whatever lies around it -/
theorem decV_enc (P Q : List UInt8) {l : List Int} (h : ∀ x ∈ l, frIn x) (hl : l.length ≤ 65536) : decV (P ++ (encV l ++ Q)) (P.length : Int) (l.length : Int) = (l, ((P ++ encV l).length : Int), 0) := by
  have hb := baseV_in h
  have hU := difL_U64 l
  have hlen := difL_length l
  have hw := bestW_le l
  have HF := frD_enc (P := P) (Q := Q) hb (ds := difL l) (by omega) hw
  have HP := packed_enc (P := P) (Q := Q) (b := baseV l) (ds := difL l) (w := bestW l)
  have HL := lowD_enc hU hw (by omega) HP
  have HX := excD_exc hw (difL l) [] (P ++ enc (zz (baseV l)).toNat ++ enc (bestW l) ++ enc (many (bestW l) (difL l)) ++ packL (difL l) (bestW l)) Q hU (by rw [List.length_nil]; omega)
  have e1 : P ++ enc (zz (baseV l)).toNat ++ enc (bestW l) ++ enc (many (bestW l) (difL l)) ++ packL (difL l) (bestW l) ++ (exc (bestW l) ([] : List Nat).length (difL l) ++ Q) = P ++ (encD (baseV l) (difL l) (bestW l) ++ Q) := by unfold encD; simp
  have e2 : P ++ enc (zz (baseV l)).toNat ++ enc (bestW l) ++ enc (many (bestW l) (difL l)) ++ packL (difL l) (bestW l) ++ exc (bestW l) ([] : List Nat).length (difL l) = P ++ encV l := by unfold encV encW encD; simp
  rw [e1, e2, List.nil_append, List.nil_append, @List.length_append UInt8 _ (packL _ _), packL_length] at HX
  have HM := map_dif h
  have e3 : P ++ (encV l ++ Q) = P ++ (encD (baseV l) (difL l) (bestW l) ++ Q) := rfl
  rw [e3]
  rw [hlen] at HF HP HL HX
  have h2 : excD (P ++ (encD (baseV l) (difL l) (bestW l) ++ Q)) ((bestW l : Nat) : Int).toNat ((many (bestW l) (difL l) : Nat) : Int).toNat
      (((P ++ enc (zz (baseV l)).toNat ++ enc (bestW l) ++ enc (many (bestW l) (difL l))).length : Int) + (szB (l.length : Int).toNat ((bestW l : Nat) : Int).toNat : Nat))
      (lowD (P ++ (encD (baseV l) (difL l) (bestW l) ++ Q)) ((P ++ enc (zz (baseV l)).toNat ++ enc (bestW l) ++ enc (many (bestW l) (difL l))).length : Int) (l.length : Int).toNat ((bestW l : Nat) : Int).toNat) = (difL l, ((P ++ encV l).length : Int), 0) := by
    rw [Int.toNat_natCast, Int.toNat_natCast, Int.toNat_natCast, HL, ← HX]
    congr 1
  have h3 : encV ((difL l).map (valV (zz (baseV l)))) = ((P ++ (encD (baseV l) (difL l) (bestW l) ++ Q)).drop ((P.length : Int)).toNat).take (((P ++ encV l).length : Int) - (P.length : Int)).toNat := by
    rw [HM, Int.toNat_natCast, List.drop_left, List.length_append, show (((P.length + (encV l).length : Nat) : Int) - (P.length : Int)).toNat = (encV l).length by omega]
    show encV l = (encV l ++ Q).take (encV l).length
    rw [List.take_left]
  have h4 := decV_ok HF h2 h3
  rw [HM] at h4
  exact h4
theorem atV_enc (P Q : List UInt8) {l : List Int} (h : ∀ x ∈ l, frIn x) (hl : l.length ≤ 65536) (i : Int) (x : Int) (hi : 0 ≤ i) (hx : l[i.toNat]? = some x) : atV (P ++ (encV l ++ Q)) (P.length : Int) (l.length : Int) i = (x, 0) := by
  obtain ⟨k, rfl⟩ := Int.eq_ofNat_of_zero_le hi
  rw [Int.toNat_natCast] at hx
  have hk : k < l.length := by
    rcases Nat.lt_or_ge k l.length with h | h
    · exact h
    · rw [List.getElem?_eq_none h] at hx; cases hx
  have hb := baseV_in h
  have hU := difL_U64 l
  have hlen := difL_length l
  have hw := bestW_le l
  have HF := frD_enc (P := P) (Q := Q) hb (ds := difL l) (by omega) hw
  have HP := packed_enc (P := P) (Q := Q) (b := baseV l) (ds := difL l) (w := bestW l)
  have hdx : (difL l)[k]? = some (difN (baseV l) x) := by unfold difL; rw [List.getElem?_map, hx]; rfl
  have HB := atB_packed hU hw (by omega) hdx
  have HX := excA_exc hw (difL l) 0 (P ++ enc (zz (baseV l)).toNat ++ enc (bestW l) ++ enc (many (bestW l) (difL l)) ++ packL (difL l) (bestW l)) Q k _ hU (by omega) (Nat.zero_le _) (by omega) hdx
  have e1 : P ++ enc (zz (baseV l)).toNat ++ enc (bestW l) ++ enc (many (bestW l) (difL l)) ++ packL (difL l) (bestW l) ++ (exc (bestW l) 0 (difL l) ++ Q) = P ++ (encD (baseV l) (difL l) (bestW l) ++ Q) := by unfold encD; simp
  rw [e1, @List.length_append UInt8 _ (packL _ _), packL_length] at HX
  have e3 : P ++ (encV l ++ Q) = P ++ (encD (baseV l) (difL l) (bestW l) ++ Q) := rfl
  rw [e3]
  rw [hlen] at HF HP HX
  have h2 : excA (P ++ (encD (baseV l) (difL l) (bestW l) ++ Q)) ((bestW l : Nat) : Int).toNat (k : Int) ((many (bestW l) (difL l) : Nat) : Int).toNat
      (((P ++ enc (zz (baseV l)).toNat ++ enc (bestW l) ++ enc (many (bestW l) (difL l))).length : Int) + (szB (l.length : Int).toNat ((bestW l : Nat) : Int).toNat : Nat))
      (atB (packedD (P ++ (encD (baseV l) (difL l) (bestW l) ++ Q)) ((P ++ enc (zz (baseV l)).toNat ++ enc (bestW l) ++ enc (many (bestW l) (difL l))).length : Int) (l.length : Int).toNat ((bestW l : Nat) : Int).toNat) (k : Int) ((bestW l : Nat) : Int)) = (difN (baseV l) x, 0) := by
    rw [Int.toNat_natCast, Int.toNat_natCast, Int.toNat_natCast, HP, HB, ← HX]
    congr 1
  have h4 := atV_ok HF (i := (k : Int)) (by omega) h2
  rw [valV_dif hb (h x (List.mem_of_getElem? hx))] at h4
  exact h4
theorem atV_out (P Q : List UInt8) {l : List Int} (h : ∀ x ∈ l, frIn x) (hl : l.length ≤ 65536) (i : Int) (hi : i < 0 ∨ (l.length : Int) ≤ i) : atV (P ++ (encV l ++ Q)) (P.length : Int) (l.length : Int) i = (0, 1) := by
  have HF := frD_enc (P := P) (Q := Q) (baseV_in h) (ds := difL l) (by rw [difL_length]; omega) (bestW_le l)
  rw [difL_length] at HF
  exact atV_e2 HF hi

/-! No width is shorter, equal values do not grow, moving keeps the width -/
theorem sizeV_le (l : List Int) {w : Nat} (hw : w ≤ 64) : sizeV l ≤ (encW l w).length := bestTo_min (sizeW l) 64 w hw
theorem difL_add {l : List Int} (m : Int) : difL (l.map (· + m)) = difL l := by
  by_cases h : l = []
  · subst h; rfl
  · unfold difL
    rw [baseV_add m h, List.map_map]
    refine List.map_congr_left fun x _ => ?_
    show difN (baseV l + m) (x + m) = difN (baseV l) x
    unfold difN
    rw [show x + m - (baseV l + m) = x - baseV l by omega]
theorem bestW_add {l : List Int} (m : Int) : bestW (l.map (· + m)) = bestW l := by
  refine bestTo_congr (c := (enc (zz (baseV l)).toNat).length) (d := (enc (zz (baseV (l.map (· + m)))).toNat).length) 64 fun w _ => ?_
  unfold sizeW encW encD
  rw [difL_add]
  simp only [List.length_append]
  omega
theorem baseV_same {n : Nat} (m : Int) (h : 0 < n) : baseV (List.replicate n m) = m := by
  have h0 : List.replicate n m ≠ [] := fun h1 => by
    have := congrArg List.length h1
    rw [List.length_replicate, List.length_nil] at this
    omega
  exact List.eq_of_mem_replicate (baseV_mem h0)
theorem exc_zero (w n : Nat) : ∀ i, exc w i (List.replicate n 0) = [] := by
  induction n with
  | zero => intro i; rfl
  | succ n ih => intro i; rw [List.replicate_succ, exc, if_pos (Nat.zero_div _), ih]; rfl
theorem many_zero (w n : Nat) : many w (List.replicate n 0) = 0 := by
  induction n with
  | zero => rfl
  | succ n ih => rw [List.replicate_succ, many, if_pos (Nat.zero_div _), ih]
theorem difL_same {n : Nat} (m : Int) (h : 0 < n) : difL (List.replicate n m) = List.replicate n 0 := by
  unfold difL
  rw [baseV_same m h, List.map_replicate]
  congr 1
  unfold difN
  simp
theorem sizeV_same {n : Nat} {m : Int} (h : 0 < n) : sizeV (List.replicate n m) = (enc (zz m).toNat).length + 2 := by
  have hs : ∀ w, w ≤ 64 → sizeW (List.replicate n m) w = (enc (zz m).toNat).length + (1 + (1 + szB n w)) := by
    intro w hw
    unfold sizeW encW encD
    rw [baseV_same m h, difL_same m h, exc_zero, many_zero, List.length_append, List.length_append, List.length_append, List.length_append, List.length_nil, packL_length, List.length_replicate, enc_length (n := w) (by omega), esz_small (n := w) (by omega), enc_length (n := 0) (by omega), esz_small (n := 0) (by omega), Nat.add_zero]
  have h1 := bestTo_min (sizeW (List.replicate n m)) 64 0 (by omega)
  have h2 := hs _ (bestW_le (List.replicate n m))
  rw [hs 0 (by omega)] at h1
  have h0 : szB n 0 = 0 := by unfold szB; omega
  rw [h0] at h1
  unfold sizeV
  unfold bestW at h2 ⊢
  omega
/-! The frame, case by case -/
theorem numD_e {b : List UInt8} {o lim x q e : Int} (h : dcd b o = (x, q, e)) (he : e ≠ 0) : numD b o lim = (0, 0, e) := by unfold numD; rw [h]; simp only []; rw [if_pos he]
theorem numD_f {b : List UInt8} {o lim x q : Int} (h : dcd b o = (x, q, 0)) (hx : lim < x) : numD b o lim = (0, 0, 4) := by unfold numD; rw [h]; simp only []; rw [if_neg (by simp), if_pos hx]
theorem numD_ok {b : List UInt8} {o lim x q : Int} (h : dcd b o = (x, q, 0)) (hx : ¬ lim < x) : numD b o lim = (x, q, 0) := by unfold numD; rw [h]; simp only []; rw [if_neg (by simp), if_neg hx]
theorem frD_a {b : List UInt8} {o n : Int} (h : n < 0 ∨ 65536 < n) : frD b o n = (0, 0, 0, 0, 1) := by unfold frD; rw [if_pos h]
theorem frD_b {b : List UInt8} {o n z p1 e : Int} (h : ¬ (n < 0 ∨ 65536 < n)) (h1 : dcd b o = (z, p1, e)) (he : e ≠ 0) : frD b o n = (0, 0, 0, 0, e) := by unfold frD; rw [if_neg h, h1]; simp only []; rw [if_pos he]
theorem frD_c {b : List UInt8} {o n z p1 w p2 e : Int} (h : ¬ (n < 0 ∨ 65536 < n)) (h1 : dcd b o = (z, p1, 0)) (h2 : numD b p1 64 = (w, p2, e)) (he : e ≠ 0) : frD b o n = (0, 0, 0, 0, e) := by
  unfold frD; rw [if_neg h, h1]; simp only []; rw [if_neg (by simp), h2]; simp only []; rw [if_pos he]
theorem frD_e {b : List UInt8} {o n z p1 w p2 m p3 e : Int} (h : ¬ (n < 0 ∨ 65536 < n)) (h1 : dcd b o = (z, p1, 0)) (h2 : numD b p1 64 = (w, p2, 0)) (h3 : numD b p2 n = (m, p3, e)) (he : e ≠ 0) : frD b o n = (0, 0, 0, 0, e) := by
  unfold frD; rw [if_neg h, h1]; simp only []; rw [if_neg (by simp), h2]; simp only []; rw [if_neg (by simp), h3]; simp only []; rw [if_pos he]
theorem frD_g {b : List UInt8} {o n z p1 w p2 m p3 : Int} (h : ¬ (n < 0 ∨ 65536 < n)) (h1 : dcd b o = (z, p1, 0)) (h2 : numD b p1 64 = (w, p2, 0)) (h3 : numD b p2 n = (m, p3, 0)) (hs : (b.length : Int) - p3 < szB n.toNat w.toNat) : frD b o n = (0, 0, 0, 0, 2) := by
  unfold frD; rw [if_neg h, h1]; simp only []; rw [if_neg (by simp), h2]; simp only []; rw [if_neg (by simp), h3]; simp only []; rw [if_neg (by simp), if_pos hs]
theorem frD_ok {b : List UInt8} {o n z p1 w p2 m p3 : Int} (h : ¬ (n < 0 ∨ 65536 < n)) (h1 : dcd b o = (z, p1, 0)) (h2 : numD b p1 64 = (w, p2, 0)) (h3 : numD b p2 n = (m, p3, 0)) (hs : ¬ (b.length : Int) - p3 < szB n.toNat w.toNat) : frD b o n = (z, w, m, p3, 0) := by
  unfold frD; rw [if_neg h, h1]; simp only []; rw [if_neg (by simp), h2]; simp only []; rw [if_neg (by simp), h3]; simp only []; rw [if_neg (by simp), if_neg hs]
/-- bounds of a varint that is read at any place -/
theorem dcd_bd2 {l : List UInt8} {o x q e : Int} (h : dcd l o = (x, q, e)) : 0 ≤ x ∧ x ≤ 18446744073709551615 ∧ (e = 0 → 0 ≤ o ∧ o ≤ q ∧ q ≤ (l.length : Int)) ∧ 0 ≤ e ∧ e ≤ 4 := by
  by_cases hb : o < 0 ∨ (l.length : Int) < o
  · rw [dcd_bad hb] at h
    injection h with h1 h2
    injection h2 with h2 h3
    subst h1 h2 h3
    exact ⟨by decide, by decide, fun h => absurd h (by decide), by decide, by decide⟩
  · obtain ⟨k, rfl⟩ := Int.eq_ofNat_of_zero_le (a := o) (by omega)
    have h1 := dcd_bd l k (by omega)
    rw [h] at h1
    exact ⟨h1.1, h1.2.1, fun he => ⟨by omega, h1.2.2.1 he⟩, h1.2.2.2⟩
theorem excD_bd {b : List UInt8} {w : Nat} : ∀ (k : Nat) (p : Int) (d d' : List Nat) (q : Int), 0 ≤ p → p ≤ (b.length : Int) → excD b w k p d = (d', q, 0) → p ≤ q ∧ q ≤ (b.length : Int) ∧ d'.length = d.length
  | 0, p, d, d', q, h0, h1, h => by
    rw [excD] at h
    injection h with e1 e2
    injection e2 with e2 _
    subst e1 e2
    exact ⟨Int.le_refl _, h1, rfl⟩
  | k + 1, p, d, d', q, h0, h1, h => by
    obtain ⟨x, p1, e, hd⟩ : ∃ x p1 e, dcd b p = (x, p1, e) := ⟨_, _, _, rfl⟩
    have b1 := dcd_bd2 hd
    by_cases he : e = 0
    · subst he
      obtain ⟨y, p2, f, hd2⟩ : ∃ y p2 f, dcd b p1 = (y, p2, f) := ⟨_, _, _, rfl⟩
      have b2 := dcd_bd2 hd2
      by_cases hf : f = 0
      · subst hf
        rw [excD_ok (by rw [hd]) (by rw [hd, hd2]), hd, hd2] at h
        simp only [] at h
        have c1 := b1.2.2.1 rfl
        have c2 := b2.2.2.1 rfl
        have ih := excD_bd k p2 _ d' q (by omega) (by omega) h
        rw [putD_length] at ih
        exact ⟨by omega, by omega, ih.2.2⟩
      · rw [excD_e2 (by rw [hd]) (by rw [hd, hd2]; exact hf), hd, hd2] at h
        injection h with _ h
        injection h with _ h
        exact absurd h hf
    · rw [excD_e1 (by rw [hd]; exact he), hd] at h
      injection h with _ h
      injection h with _ h
      exact absurd h he
theorem or_lt64 {x y : Nat} (hx : x < 18446744073709551616) (hy : y < 18446744073709551616) : x ||| y < 18446744073709551616 := Nat.or_lt_two_pow (n := 64) hx hy
theorem putD_U64 {d : List Nat} (h : U64 d) (i x : Int) (w : Nat) : U64 (putD d i x w) := by
  unfold putD
  split
  · intro y hy
    rcases List.mem_or_eq_of_mem_set hy with h1 | h1
    · exact h y h1
    · subst h1
      refine or_lt64 ?_ (Nat.mod_lt _ (by decide))
      rw [List.getD_eq_getElem?_getD]
      cases hd : d[i.toNat]? with
      | none => decide
      | some z => exact h z (List.mem_of_getElem? hd)
  · exact h
theorem lowD_U64 (b : List UInt8) (p : Int) (n w : Nat) (hw : w ≤ 64) : U64 (lowD b p n w) := by
  intro x hx
  unfold lowD at hx
  rw [List.mem_map] at hx
  obtain ⟨i, _, rfl⟩ := hx
  unfold atB
  split
  · exact Nat.lt_of_lt_of_le (numB_lt _ _ _) (Nat.le_trans (Nat.pow_le_pow_right (by decide) (show (w : Int).toNat ≤ 64 by omega)) (by decide))
  · decide
end Go.Proofs.Ytjjeebaelpgjlaa
