/-
  Shaken: what the claims of this seat need of this text. No condition.
-/
import Derived.Test.YtoaklmceejeblaaGreatM6
import Derived.Laws.CopyOwn
namespace Go.Proofs.YtoaklmceejeblaaGreat
set_option maxRecDepth 8000
open Go.RowKit
def pad8 (l : List UInt8) : List UInt8 := l.take 8 ++ List.replicate (8 - (l.take 8).length) 0
theorem pad8_length (l : List UInt8) : (pad8 l).length = 8 := by
  have : (l.take 8).length ≤ 8 := by rw [List.length_take]; omega
  simp only [pad8, List.length_append, List.length_replicate]; omega
theorem le_zeros : ∀ m : Nat, le (List.replicate m 0) = 0
  | 0 => rfl
  | m + 1 => by rw [List.replicate_succ, le, le_zeros m]; rfl
theorem le_append_zeros : ∀ (l : List UInt8) (m : Nat), le (l ++ List.replicate m 0) = le l
  | [], m => le_zeros m
  | c :: l, m => by rw [List.cons_append, le, le, le_append_zeros l m]
theorem le_pad8 (l : List UInt8) : le (pad8 l) = le (l.take 8) := le_append_zeros _ _
theorem splice_pad8 (l : List UInt8) : splice (bcells (List.replicate 8 0)) 0 (bcells (l.take 8)) = bcells (pad8 l) := by
  unfold splice pad8
  rw [bcells_append, bcells_length, List.take_zero, List.nil_append, Nat.zero_add]
  congr 1
  unfold bcells
  rw [← List.map_drop, List.drop_replicate]
theorem run_index8 (T : Array Value) (k : Nat) (v : Value) (w : World) (h : T[k]? = some v) (hk : k < 8) : (Instr.index 188 (.agg T) (.int .i64 (k : Int))).run Tryz.prog w = .ok v w := by
  have h1 : ¬ 8 ≤ k := by omega
  simp [Instr.index, asIntOf, run_underlying Tryz.underlying188, h1, part, Tryz.sizeOf5, Tryz.isAgg5, h]
def CWordRel (p : List UInt8) (n i : Value) : Prop := ∃ k x : Nat, k ≤ 8 ∧ i = .int .i64 k ∧ n = .int .u64 x ∧ x = le (p.take k)
set_option maxHeartbeats 400000 in
theorem cword_any (v : Value) (l : List UInt8) (w : World) (hv : IsBytes w v l) (hl : l.length ≤ maxLen) :
    Calls Tryz.prog 169 #[v] w fun e w' => e = .returned (.int .u64 (le (l.take 8) : Int)) ∧ Grows w w' := by
  obtain ⟨A, d, rfl, hc⟩ := hv
  have HC := hidden hc
  unfold maxLen at hl
  have HZ := hidden (show (Tryz.prog.info? 5).map (·.size) = some 1 by kernel_rfl)
  have HG : Hid ((w.alloc (.cells #[.int .u8 0, .int .u8 0, .int .u8 0, .int .u8 0, .int .u8 0, .int .u8 0, .int .u8 0, .int .u8 0] 188)).heap[w.heap.size]? = some (.cells (bcells (List.replicate 8 0)).toArray 188 (0, 0))) := heap_alloc_new w _
  have HB : Hid (Below w.heap.size w (w.alloc (.cells #[.int .u8 0, .int .u8 0, .int .u8 0, .int .u8 0, .int .u8 0, .int .u8 0, .int .u8 0, .int .u8 0] 188))) := (Below.refl _ _).alloc (Nat.le_refl _) _
  have hlt8 : (bcells (l.take 8)).length = Nat.min l.length 8 := by rw [bcells_length, List.length_take]; exact Nat.min_comm _ _
  have HN := hidden hlt8
  have HF : Hid (0 + (bcells (l.take 8)).length ≤ (bcells (List.replicate 8 (0 : UInt8))).length) := by
    show _ ≤ _
    rw [hlt8, bcells_length, List.length_replicate, Nat.zero_add]
    exact Nat.min_le_right _ _
  have H1 := hidden (oneCell_bcells (l.take 8))
  have HP : Hid (0 < (bcells (l.take 8)).length → (some (⟨w.heap.size, 0, none⟩ : Addr)) = some ⟨w.heap.size, 0, none⟩ ∧ ∃ ad, A = some ad ∧ ∀ j v, (bcells (l.take 8))[j]? = some v → (w.alloc (.cells #[.int .u8 0, .int .u8 0, .int .u8 0, .int .u8 0, .int .u8 0, .int .u8 0, .int .u8 0, .int .u8 0] 188)).cell? (ad.add j) = some v) := by
    intro h0
    have hpos : 0 < l.length := by
      rw [hlt8] at h0
      exact Nat.lt_of_lt_of_le h0 (Nat.min_le_left _ _)
    obtain ⟨b, off, rfl, hcell⟩ := hc hpos
    refine ⟨rfl, _, rfl, fun j v hj => ?_⟩
    have hj8 : j < (l.take 8).length := by
      rcases Nat.lt_or_ge j (l.take 8).length with h | h
      · exact h
      · rw [List.getElem?_eq_none (by rw [bcells_length]; exact h)] at hj; cases hj
    have hjl : j < l.length := by rw [List.length_take] at hj8; omega
    have h1 := hcell j hjl
    rw [Addr.add_lit, HB.out.cell (World.block_lt_of_cell? w _ h1), h1]
    simp only [bcells, List.getElem?_map, List.getElem?_take_of_lt (show j < 8 by rw [List.length_take] at hj8; omega), List.getElem?_eq_getElem hjl] at hj
    simpa using hj
  have HI := hidden (show (Tryz.prog.info? 188).map (·.size) = some (bcells (pad8 l)).toArray.size by
    rw [List.size_toArray, bcells_length, pad8_length]
    kernel_rfl)
  clear hc hlt8
  go_enter Tryz.func169, Tryz.ntmps169
  go_wp2_with (first
    | (with_reducible refine wpList_copy_splice rfl (.tmp 7) (.tmp 8) 45 45 rfl 5 Tryz.underlying45 HZ.out (some ⟨w.heap.size, 0, none⟩) A 8 8 l.length d rfl rfl w.heap.size 0 (bcells (List.replicate 8 0)) 188 HG.out (bcells (l.take 8)) HN.out HP.out HF.out H1.out w.heap.size w HB.out (Nat.le_refl _) ?_; intro w2 hg2 hb2; have HB2 := hidden hb2; clear hb2)
    | refine wpList_load_row rfl _ _ rfl w.heap.size rfl 188 (bcells (pad8 l)).toArray (0, 0) _ (by rw [← splice_pad8]; exact hg2.out) Tryz.underlying188 rfl HI.out ?_)
  have HLp := hidden (pad8_length l)
  have HLe := hidden (le_pad8 l)
  have hT : ∀ k, (h : k < 8) → (bcells (pad8 l)).toArray[k]? = some (.int .u8 (((pad8 l)[k]'(by rw [HLp.out]; exact h)).toNat : Int)) := by
    intro k h
    simp [bcells, HLp.out, h]
  have HT := hidden hT
  clear hT HP hg2
  generalize (bcells (pad8 l)).toArray = T at *
  generalize pad8 l = p at *
  generalize hx : le (l.take 8) = y at *
  have HY := hidden hx
  clear hx
  go_loop [4, 11] (CWordRel p) (fun _ i => 8 - (intOf i).toNat)
  case atStart => exact ⟨0, 0, by omega, rfl, rfl, by simp [le]⟩
  case round =>
    obtain ⟨k, x, hk, rfl, rfl, hx⟩ := hrel
    have HX := hidden hx
    clear hx
    by_cases hlt : k < 8
    · have hkp : k < p.length := by rw [HLp.out]; exact hlt
      have hix := run_index8 T k _ w2 (HT.out k hlt) hlt
      have hts : p.take (k + 1) = p.take k ++ [p[k]] := List.take_succ_eq_append_getElem hkp
      have hlen : (p.take k).length = k := by rw [List.length_take]; omega
      have hxl : x < 256 ^ k := by
        have := le_lt (p.take k)
        rw [hlen] at this
        rw [HX.out]; exact this
      generalize hcc : p[k] = cc at *
      have HN2 : Hid (x + cc.toNat * 256 ^ k = le (p.take (k + 1))) := by
        show x + cc.toNat * 256 ^ k = _
        rw [hts, le_snoc, hlen, ← HX.out]
      have HO := hidden (read_or (c := cc) hlt hxl)
      have hcb : cc.toNat < 256 := cc.toNat_lt
      clear hcc hts hlen HX hxl
      go_wp2
      go_round
      case rel => exact ⟨k + 1, x + cc.toNat * 256 ^ k, by omega, by go_num, by rw [HO.out], HN2.out⟩
      case measure => simp [intOf]; omega
    · have hke : k = 8 := by omega
      have HE : Hid (x = y) := by
        show x = y
        rw [HX.out, hke, List.take_of_length_le (by rw [HLp.out]; exact Nat.le_refl _), HLe.out]
      clear hke
      go_wp2
      go_ret
      exact ⟨retU (by rw [HE.out, HY.out]), HB2.out⟩
theorem IsBytes.drop_ {w : World} {b off n c : Nat} {l : List UInt8} (h : IsBytes w (.slice (some ⟨b, off, none⟩) n c) l) {k : Nat} (m c' : Nat) (hm : m + k = l.length) : IsBytes w (.slice (some ⟨b, off + k, none⟩) m c') (l.drop k) := by
  obtain ⟨A', c0, hA, hc⟩ := h
  injection hA with e1 e2 e3
  have hl : (l.drop k).length = m := by rw [List.length_drop]; omega
  refine ⟨_, c', by rw [hl], fun hp => ?_⟩
  rw [hl] at hp
  obtain ⟨b', off', h1, hcell⟩ := hc (by omega)
  rw [← e1] at h1
  injection h1 with h1
  injection h1 with h2 h3 h4
  subst h2 h3
  refine ⟨b, off + k, rfl, fun j hj => ?_⟩
  rw [hl] at hj
  rw [Nat.add_assoc, hcell (k + j) (by omega)]
  simp
def CHashRel (w : World) (l : List UInt8) (t : Nat) (h i : Value) (wr : World) : Prop :=
  ∃ j f x : Nat, 8 * j ≤ l.length + 7 ∧ l.length ≤ 8 * j + f ∧ i = .int .i64 j ∧ h = .int .u64 x ∧ x < 18446744073709551616 ∧ hashL f x (l.drop (8 * j)) = t ∧ Grows w wr
set_option maxHeartbeats 400000 in
theorem ck_hash (s : Nat) (A : Option Addr) (d : Nat) (l : List UInt8) (w : World) (hs : s < 18446744073709551616) (hv : IsBytes w (.slice A l.length d) l) (hl : l.length ≤ 1048576) (hd : l.length ≤ d) :
    Calls Tryz.prog 155 #[.int .u64 (s : Int), .slice A l.length d] w fun e w' => e = .returned (.int .u64 (hashOf s l : Int)) ∧ Grows w w' := by
  have HV := hidden hv
  have hll : l.length < 18446744073709551616 := by omega
  have hx : Hid (bits .xor .u64 (s : Int) (l.length : Int) = ((s ^^^ l.length : Nat) : Int)) := bits_xor_u64_nat s l.length hs hll
  have hxl := xor64_lt hs hll
  have HH : Hid (hashOf s l = hashL l.length (mix (s ^^^ l.length)) l) := by show _ = _; rfl
  clear hv
  go_enter Tryz.func155, Tryz.ntmps155
  go_wp2_with fail
  rw [hx.out]
  refine (mix_any _ _ hxl).mono ?_
  rintro e w' ⟨rfl, rfl⟩
  generalize s ^^^ l.length = x0 at *
  go_wp2_with fail
  have hgr : (((l.length : Int) + 8 - 1) / 8) = (((l.length + 7) / 8 : Nat) : Int) := by omega
  rw [hgr]
  have hg1 : 8 * ((l.length + 7) / 8) ≤ l.length + 7 := by omega
  have hg2 : l.length ≤ 8 * ((l.length + 7) / 8) := by omega
  clear hgr
  generalize (l.length + 7) / 8 = g at *
  go_loopw [5, 20] (fun h i wr => CHashRel w l (hashOf s l) h i wr) (fun _ i _ => g - (intOf i).toNat)
  case atStart => exact ⟨0, l.length, mix x0, by omega, by omega, rfl, rfl, mix_lt, by rw [HH.out]; rfl, Below.refl _ _⟩
  case round =>
    obtain ⟨j, f, x, hj, hf, rfl, rfl, hxb, ht, hbw⟩ := hrel
    have HT := hidden ht
    have HB := hidden hbw
    clear ht hbw
    by_cases hlt : j < g
    · have hjl : 8 * j < l.length := by omega
      have hm : (l.length - 8 * j) + 8 * j = l.length := by omega
      obtain ⟨b, off, rfl⟩ : ∃ b off, A = some ⟨b, off, none⟩ := by
        obtain ⟨A', c', he, hc⟩ := HV.out
        injection he with e1
        obtain ⟨b, off, h1, _⟩ := hc (by omega)
        exact ⟨b, off, e1.trans h1⟩
      have HD := hidden (HV.out.drop_ (l.length - 8 * j) (d - 8 * j) hm)
      have h8 := le8_lt (l.drop (8 * j))
      have hne : l.drop (8 * j) ≠ [] := by
        intro h0
        have := congrArg List.length h0
        rw [List.length_drop] at this
        simp at this; omega
      have hx2 : Hid (bits .xor .u64 (x : Int) (le ((l.drop (8 * j)).take 8) : Int) = ((x ^^^ le ((l.drop (8 * j)).take 8) : Nat) : Int)) := bits_xor_u64_nat _ _ hxb h8
      have hxl2 := xor64_lt hxb h8
      cases f with
      | zero => omega
      | succ f =>
        have HN : Hid (hashL f (mix (x ^^^ le ((l.drop (8 * j)).take 8))) (l.drop (8 * (j + 1))) = hashOf s l) := by
          show _ = _
          rw [← HT.out, hashL_cons hne, List.drop_drop]
          rfl
        have HM := hidden hm
        clear hm hne h8 HT
        go_wp2_with fail
        refine (cword_any _ (l.drop (8 * j)) wr (HD.out.grow HB.out) (by unfold maxLen; rw [List.length_drop]; omega)).mono ?_
        rintro e w2 ⟨rfl, g2⟩
        have HB2 := hidden (HB.out.of_below g2)
        clear g2
        generalize le ((l.drop (8 * j)).take 8) = q at *
        go_wp2_with fail
        rw [hx2.out]
        refine (mix_any _ _ hxl2).mono ?_
        rintro e w' ⟨rfl, rfl⟩
        go_wp2
        go_roundw
        case rel => exact ⟨j + 1, f, mix (x ^^^ q), by omega, by omega, by go_num, rfl, mix_lt, HN.out, HB2.out⟩
        case measure => simp [intOf]; omega
    · have hdr : l.drop (8 * j) = [] := List.drop_eq_nil_of_le (by omega)
      have HE : Hid (x = hashOf s l) := by
        show _ = _
        have := HT.out
        rw [hdr, hashL_nil] at this
        exact this
      clear hdr
      go_wp2
      go_ret
      exact ⟨retU (by rw [HE.out]), HB.out⟩
end Go.Proofs.YtoaklmceejeblaaGreat
