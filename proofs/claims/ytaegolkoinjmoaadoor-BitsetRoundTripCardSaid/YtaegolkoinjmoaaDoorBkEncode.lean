/-
  bitset.Encode returns N and the run lengths as varints, in new memory: for every valid set; nothing that was there is changed.
-/
import Derived.Test.YtaegolkoinjmoaaDoorBkEnc
import Derived.Test.YtaegolkoinjmoaaDoorBsRef9
namespace Go.Proofs.YtaegolkoinjmoaaDoor
open Go.RowKit

theorem flip_next (k : Nat) : flipN false (k + 1) = !flipN false k := by
  unfold flipN
  have h : k % 2 = 0 ∨ k % 2 = 1 := by omega
  rcases h with h | h
  · have h1 : (k + 1) % 2 = 1 := by omega
    simp [h, h1]
  · have h1 : (k + 1) % 2 = 0 := by omega
    simp [h, h1]
theorem bits_run {f : Nat → Bool} {p : Nat} {o : Bool} : ∀ m, (∀ i, p ≤ i → i < p + m → f i = o) → bitsOf f p ++ List.replicate m o = bitsOf f (p + m)
  | 0, _ => by simp
  | m + 1, h => by
    rw [List.replicate_succ', ← List.append_assoc, bits_run m fun i h1 h2 => h i h1 (by omega), ← Nat.add_assoc, bitsOf_succ, h (p + m) (by omega) (by omega)]
/-- the runs up to p -/
structure RunsTo (f : Nat → Bool) (n p : Nat) (o : Bool) (rs : List Nat) : Prop where
  le : p ≤ n
  flip : o = flipN false rs.length
  bits : expand false rs = bitsOf f p
  good : good true rs
  next : rs ≠ [] → p < n → f p = o
  none : n = 0 → rs = []
  len : rs.length ≤ p + 1
  each : ∀ x ∈ rs, x ≤ n
theorem RunsTo.start (f : Nat → Bool) (n : Nat) : RunsTo f n 0 false [] := ⟨Nat.zero_le _, rfl, rfl, trivial, fun h => absurd rfl h, fun _ => rfl, by simp, by simp⟩
theorem RunsTo.step {f : Nat → Bool} {n p x m : Nat} {o : Bool} {rs : List Nat} (h : RunsTo f n p o rs) (hp : p < n) (hr : runTo f n p o x) (hm : m = x - p) : RunsTo f n x (!o) (rs ++ [m]) := by
  obtain ⟨h1, h2, h3, h4⟩ := hr
  have hpos : rs ≠ [] → 1 ≤ m := fun hne => by
    rcases Nat.eq_zero_or_pos m with h0 | h0
    · have hx : x = p := by omega
      have h5 := h.next hne hp
      rw [hx] at h4
      rw [h4 hp] at h5
      cases o <;> cases h5
    · exact h0
  refine ⟨h2, ?_, ?_, good_snoc _ _ _ h.good ?_, fun _ hlt => h4 hlt, fun hn => by omega, ?_, fun y hy => ?_⟩
  · rw [List.length_append, List.length_singleton, flip_next, ← h.flip]
  · rw [expand_snoc, h.bits, ← h.flip, bits_run m fun i a b => h3 i a (by omega), show p + m = x by omega]
  · by_cases hne : rs = []
    · exact .inl ⟨hne, rfl⟩
    · exact .inr (hpos hne)
  · rw [List.length_append, List.length_singleton]
    by_cases hne : rs = []
    · subst hne; simp
    · have := hpos hne; have := h.len; omega
  · rcases List.mem_append.1 hy with hy | hy
    · exact h.each y hy
    · simp at hy; omega
theorem RunsTo.done {f : Nat → Bool} {n : Nat} {o : Bool} {rs : List Nat} (h : RunsTo f n n o rs) : rs = runs f n := by
  refine runs_unique h.good (runs_good f n) ?_ (on := false) (by rw [h.bits, runs_expand])
  rw [runs_nil]
  constructor
  · intro e
    have := congrArg List.length h.bits
    rw [e, bitsOf_length] at this
    simpa [expand] using this.symm
  · exact h.none

def EBRel (w W0 : World) (n : Nat) (f : Nat → Bool) (v out on start : Value) (wr : World) : Prop :=
  ∃ (rs : List Nat) (o : Bool) (p : Nat), start = .int .i64 (p : Int) ∧ on = .bool o ∧ RunsTo f n p o rs ∧ wr.ownsRow W0.heap.size 5 1 out (enc n ++ rs.flatMap enc).length (bcells (enc n ++ rs.flatMap enc)) ∧
    Row wr w.heap.size 26 [.int .i64 (n : Int), v] ∧ Below W0.heap.size W0 wr ∧ Grows w wr
def ebLeft (n : Nat) (on start : Value) : Nat := 2 * (n - (intOf start).toNat) + (match on with | .bool false => 1 | _ => 0)
theorem ebLeft_lt {n p x : Nat} {o : Bool} (hp : p < n) (hx : p ≤ x) (hx2 : x ≤ n) (h : o = false ∨ p < x) : ebLeft n (.bool (!o)) (.int .i64 (x : Int)) < ebLeft n (.bool o) (.int .i64 (p : Int)) := by
  unfold ebLeft
  cases o with
  | false => simp [intOf]; omega
  | true =>
    rcases h with h | h
    · cases h
    · simp [intOf]; omega

set_option maxHeartbeats 1000000 in
theorem ck_encode (s : Value) (n : Nat) (ws : List UInt64) (w : World) (hs : IsSet w s n ws) (ho : okW n ws) (hT : Tab w) :
    Calls Tryd.prog 42 #[s] w (Made (encS n (mem n ws)) w) := by
  have HS := hidden hs
  have HO := hidden ho
  have HT := hidden hT
  obtain ⟨v, rfl, hr, hn, hn2⟩ := hs
  obtain ⟨A, d, rfl, _⟩ := hr.slice_
  generalize (ucells ws).length = la at *
  have hG : Grows w (w.alloc (.cells #[.int .i64 (n : Int), .slice A la d] 26)) := (Below.refl _ _).alloc (Nat.le_refl _) _
  have HR0 := hidden (Row.new w 26 #[.int .i64 (n : Int), .slice A la d] [.int .i64 (n : Int), .slice A la d] rfl)
  have HSZ := hidden (World.size_alloc w (.cells #[.int .i64 (n : Int), .slice A la d] 26))
  have HG := hidden hG
  have HE : Hid (encS n (mem n ws) = enc n ++ (runs (mem n ws) n).flatMap enc) := by show _ = _; rfl
  clear hr hG ho hn hT
  go_enter Tryd.func42, Tryd.ntmps42
  go_wp2_with fail
  generalize w.alloc (.cells #[.int .i64 (n : Int), .slice A la d] 26) = W0 at *
  refine (encode_any (n : Int) W0 (by omega) (by omega)).mono ?_
  rintro e w1 ⟨v1, rfl, hown1, hg1⟩
  rw [Int.toNat_natCast] at hown1
  have HR1 := hidden (HR0.out.grow hg1)
  have HO1 := hidden hown1
  have HB1 := hidden hg1
  have HG1 := hidden (Grows.of_below HG.out hg1)
  clear hown1 hg1
  go_wp2_with fail
  go_loopw [3, 4, 5] (fun out on st wr => EBRel w W0 n (mem n ws) (.slice A la d) out on st wr) (fun _ on st _ => ebLeft n on st)
  case atStart => exact ⟨[], false, 0, rfl, rfl, RunsTo.start _ _, by simpa using HO1.out, HR1.out, HB1.out, HG1.out⟩
  case round =>
    obtain ⟨rs, o, p, rfl, rfl, hrs, hown, hrow, hb, hg⟩ := hrel
    have hc0 := hrow.cell 0
    have hc1 := hrow.cell 1
    simp only [List.getElem?_cons_zero, List.getElem?_cons_succ] at hc0 hc1
    have hpn := hrs.le
    have HRS := hidden hrs
    have HOW := hidden hown
    have HRW := hidden hrow
    have HB := hidden hb
    have HGW := hidden hg
    clear hrs hown hrow hb hg
    by_cases hlt : p < n
    · have hel := encs_length (rs := rs) (fun x hx => by have := HRS.out.each x hx; omega)
      have hrl := HRS.out.len
      have hen := enc_length (n := n) (by omega)
      have hen2 := (esz_bd (n := n) (by omega)).2
      have HPL1 : Hid ((enc n ++ rs.flatMap enc).length ≤ 20000000) := by
        show _ ≤ _
        rw [List.length_append]
        omega
      clear hel hrl hen hen2
      go_wp2_with fail
      refine (runEnd_any _ n ws p o wr (HS.out.grow HGW.out) HO.out (HT.out.grow HGW.out) hlt).mono ?_
      rintro e w2 ⟨x, rfl, hrun, g2⟩
      obtain ⟨m, hm⟩ : ∃ m, m = x - p := ⟨_, rfl⟩
      have hx1 := hrun.1
      have hx2 := hrun.2.1
      have HST := hidden (HRS.out.step hlt hrun hm)
      have HLT := hidden (ebLeft_lt (n := n) (p := p) (x := x) (o := o) hlt hx1 hx2 (by
        by_cases hne : rs = []
        · refine .inl ?_
          have := HRS.out.flip
          rw [this, hne]; rfl
        · refine .inr ?_
          rcases Nat.lt_or_ge p x with h | h
          · exact h
          · have hxp : x = p := by omega
            have h5 := HRS.out.next hne hlt
            have h6 := hrun.2.2.2 (by omega)
            rw [hxp, h5] at h6
            cases o <;> cases h6))
      have HMX := hidden (show (x : Int) - (p : Int) = (m : Int) by omega)
      have hmb : m ≤ 1048576 := by omega
      have HR2 := hidden (HRW.out.grow g2)
      have HO2 := hidden (ownsRow_grow HOW.out g2)
      have HB2 := hidden (HB.out.trans (g2.mono HB.out.size))
      have HG2 := hidden (Grows.of_below HGW.out g2)
      clear hrun g2 hm hc0 hc1
      go_wp2_with fail
      rw [HMX.out]
      refine (encode_any (m : Int) w2 (by omega) (by omega)).mono ?_
      rintro e w3 ⟨v3, rfl, hown3, g3⟩
      rw [Int.toNat_natCast] at hown3
      have hex := enc_length (n := m) (by omega)
      have hex2 := (esz_bd (n := m) (by omega)).2
      have HPL : Hid ((enc n ++ rs.flatMap enc).length + (enc m).length ≤ 140737488355328) := by
        have := HPL1.out
        show _ ≤ _
        omega
      have HV3 := hidden (IsBytes.of_own hown3)
      have HO3 := hidden (ownsRow_grow HO2.out g3)
      have HR3 := hidden (HR2.out.grow g3)
      have HB3 := hidden (HB2.out.trans (g3.mono HB2.out.size))
      clear hown3 g3 hex hex2
      go_wp2_with ((at_builtin; go_loud (refine wpList_append_bytes (w := W0) (wr := w3) rfl _ _ 41 rfl 5 Tryd.underlying41 info_u8 _ (enc n ++ rs.flatMap enc) (by rfl) HO3.out HB3.out _ (enc m) (by rfl) HV3.out HPL.out ?_); intro v4 w4 hown4 hb4; have HO4 := hidden hown4; have HB4 := hidden hb4; clear hown4 hb4))
      go_wp2_with fail
      go_roundw
      case rel =>
        refine ⟨rs ++ [m], !o, x, rfl, rfl, HST.out, ?_, ?_, HB4.out, Grows.of_below HG.out HB4.out⟩
        · have h := HO4.out
          rw [List.flatMap_append, List.flatMap_cons, List.flatMap_nil, List.append_nil, ← List.append_assoc]
          exact h
        · exact HR0.out.grow HB4.out
      case measure => exact HLT.out
    · have hpe : p = n := by omega
      have HD : Hid (rs = runs (mem n ws) n) := by
        show _ = _
        have h := HRS.out
        rw [hpe] at h
        exact h.done
      have hd : decide ((p : Int) < (n : Int)) = false := by simp; omega
      have hnp : n ≤ p := by omega
      clear hpe
      go_wp2_with fail
      go_ret
      refine ⟨_, rfl, ?_, HGW.out⟩
      have h := HOW.out
      rw [HD.out, ← HE.out] at h
      exact ownsRow_base h (by have := HSZ.out; omega)
end Go.Proofs.YtaegolkoinjmoaaDoor
