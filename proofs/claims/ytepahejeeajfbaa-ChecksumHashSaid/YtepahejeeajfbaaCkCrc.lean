/-
  checksum.CRC and Update return 'crcOf': for every byte slice of up to 2^47 bytes and every slice of them; nothing that was there is changed.
-/
import Derived.Test.YtepahejeeajfbaaCkTab
namespace Go.Proofs.Ytepahejeeajfbaa
open Go.RowKit

theorem u8_xor_nat (x y : Nat) (hx : x < 256) (hy : y < 256) : bits .xor .u8 (x : Int) (y : Int) = ((x ^^^ y : Nat) : Int) := by
  have hl : x ^^^ y < 2 ^ 8 := Nat.xor_lt_two_pow (by omega) (by omega)
  show IntKind.u8.wrap ((BitVec.ofInt 8 (x : Int) ^^^ BitVec.ofInt 8 (y : Int)).toNat : Int) = _
  rw [BitVec.toNat_xor, BitVec.ofInt_natCast, BitVec.ofInt_natCast, BitVec.toNat_ofNat, BitVec.toNat_ofNat, Nat.mod_eq_of_lt (by omega), Nat.mod_eq_of_lt (by omega), IntKind.wrap_u8']
  omega
theorem step8_index {c b : Nat} (hb : b < 256) : step8 c b = halfN 8 (c % 256 ^^^ b) ^^^ c / 256 := by
  rw [step8_table hb]
  have h := Nat.xor_mod_two_pow (a := c) (b := b) (n := 8)
  rw [show (2 : Nat) ^ 8 = 256 from rfl, Nat.mod_eq_of_lt hb] at h
  rw [h]

set_option maxHeartbeats 400000 in
theorem update_any (g c : Nat) (v : Value) (l : List UInt8) (w : World) (hr : Row w g 47 (tab 256)) (hc : c < 4294967296) (hv : IsBytes w v l) (hl : l.length ≤ maxLen) :
    Calls Try.prog 26 #[.pointer (some ⟨g, 0, none⟩), .int .u32 (c : Int), v] w fun e w' => e = .returned (.int .u32 (crcOf c l : Int)) ∧ w = w' := by
  obtain ⟨A, d, rfl, hc'⟩ := hv
  have HC := hidden hc'
  have hnx := hidden (not_u32 c hc)
  have hn := not32_lt' c
  have HT : Hid (∀ q, q < 256 → w.cell? ⟨g, q, none⟩ = some (.int .u32 (halfN 8 q : Int))) := fun q hq => by rw [hr.cell q, tab_get hq, if_pos hq]
  unfold maxLen at hl
  have HR : Hid (crcOf c l = not32 (upd (not32 c) l)) := by show _ = _; rfl
  clear hc' hr
  go_enter Try.func26, Try.ntmps26
  go_wp2
  rw [hnx.out]
  generalize not32 c = c0 at *
  go_loop [7, 14] (UpdRel l c0) (fun _ i => l.length - (intOf i).toNat)
  case atStart => exact ⟨0, by omega, rfl, rfl⟩
  case round =>
    obtain ⟨k, hk, rfl, rfl⟩ := hrel
    by_cases hlt : k < l.length
    · obtain ⟨b, off, rfl, hcell⟩ := HC.out (by omega)
      have hcl := hcell k hlt
      have ht := hidden (upd_take c0 hlt)
      have hu : upd c0 (l.take k) < 4294967296 := upd_lt' _ hn
      have hb : l[k].toNat < 256 := l[k].toNat_lt
      clear hcell
      generalize upd c0 (l.take k) = x at *
      generalize l[k].toNat = y at *
      have hix : bits .xor .u8 ((x : Int) % 256) (y : Int) = ((x % 256 ^^^ y : Nat) : Int) := by
        rw [show (x : Int) % 256 = ((x % 256 : Nat) : Int) by omega]
        exact u8_xor_nat _ _ (by omega) hb
      have hq : x % 256 ^^^ y < 256 := Nat.xor_lt_two_pow (n := 8) (by omega) hb
      have htc := HT.out _ hq
      have HS := hidden (step8_index (c := x) hb)
      have hh : halfN 8 (x % 256 ^^^ y) < 4294967296 := halfN_lt 8 (by omega)
      generalize x % 256 ^^^ y = q at *
      have HX : Hid (bits .xor .u32 (halfN 8 q : Int) ((x : Int) / 256) = (step8 x y : Int)) := by
        show bits .xor .u32 (halfN 8 q : Int) ((x : Int) / 256) = _
        rw [show (x : Int) / 256 = ((x / 256 : Nat) : Int) by omega, u32_xor_nat _ _ hh (by omega), HS.out]
      go_wp2
      go_round
      case rel => exact ⟨k + 1, by omega, by go_num, by rw [ht.out, HX.out]⟩
      case measure => simp [intOf]; omega
    · have hke : k = l.length := by omega
      have ht : upd c0 (l.take k) = upd c0 l := by rw [hke, List.take_length]
      rw [ht]
      have hu : upd c0 l < 4294967296 := upd_lt' _ hn
      have hnn := hidden (not_u32 _ hu)
      clear hke ht
      generalize upd c0 l = x at *
      go_wp2
      go_ret
      exact ⟨retU (by rw [HR.out, hnn.out]), rfl⟩

/-- the table lies in a new block -/
def TabIn (w : World) (g : Nat) (w' : World) : Prop := Row w' g 47 (tab 256) ∧ Grows w w'
theorem tabIn_new {w w1 : World} (h : Grows w w1) : TabIn w w1.heap.size ((w1.alloc (.cells (Array.replicate 256 (.int .u32 0)) 47)).setRow w1.heap.size (tab 256).toArray) := by
  refine ⟨(Row.at_ w1 47 _ (tab 1) tab_one w1.heap.size rfl).setRow_ (tab 256) ?_, below_setRow (h.alloc h.size _) h.size _⟩
  rw [List.size_toArray, List.size_toArray, tab_length, tab_length]

set_option maxHeartbeats 400000 in
theorem ck_update (c : Nat) (v : Value) (l : List UInt8) (w : World) (hc : c < 4294967296) (hv : IsBytes w v l) (hl : l.length ≤ 1048576) :
    Calls Try.prog 12 #[.int .u32 (c : Int), v] w fun e w' => e = .returned (.int .u32 (crcOf c l : Int)) ∧ Grows w w' := by
  obtain ⟨hz, hi⟩ := zero_of_info (P := Try.prog) zero256
  have HI := hidden (show (Try.prog.info? 47).map (·.size) = some (tab 256).toArray.size by rw [hi, List.size_toArray, tab_length])
  have HO := hidden (tab_oneCell 256)
  have HS : Hid ((Array.replicate 256 (Value.int .u32 0)).size = (tab 256).toArray.size) := by show _ = _; rw [Array.size_replicate, List.size_toArray, tab_length]
  clear hi
  go_enter Try.func12, Try.ntmps12
  go_wp2_with fail
  refine (crcTable_any w).mono ?_
  rintro e w1 ⟨rfl, g1⟩
  have HN := hidden (tabIn_new g1)
  have H0 := hidden (heap_alloc_new w1 (.cells (Array.replicate 256 (.int .u32 0)) 47))
  have G1 := hidden g1
  clear g1
  go_wp2_with (refine wpList_store_row rfl _ _ _ rfl _ _ rfl rfl _ _ H0.out HI.out HS.out HO.out ?_)
  have HG := hidden HN.out.2
  have HV := hidden (hv.grow HN.out.2)
  have HU := hidden (fun c h => update_any w1.heap.size c v l _ HN.out.1 h HV.out (by unfold maxLen; omega))
  clear hv hz H0
  generalize (w1.alloc (.cells (Array.replicate 256 (.int .u32 0)) 47)).setRow w1.heap.size (tab 256).toArray = w2 at *
  refine (Calls.mono (HU.out c hc) ?_)
  rintro e w' ⟨rfl, rfl⟩
  go_wp2
  go_ret
  exact ⟨rfl, HG.out⟩

set_option maxHeartbeats 400000 in
theorem ck_crc (v : Value) (ls : List (List UInt8)) (w : World) (hv : IsParts w v ls) (hl : ls.length ≤ 1048576) (hp : ∀ l ∈ ls, l.length ≤ 1048576) :
    Calls Try.prog 10 #[v] w fun e w' => e = .returned (.int .u32 (crcParts ls : Int)) ∧ Grows w w' := by
  obtain ⟨hz, hi⟩ := zero_of_info (P := Try.prog) zero256
  have HI := hidden (show (Try.prog.info? 47).map (·.size) = some (tab 256).toArray.size by rw [hi, List.size_toArray, tab_length])
  have HO := hidden (tab_oneCell 256)
  have HS : Hid ((Array.replicate 256 (Value.int .u32 0)).size = (tab 256).toArray.size) := by show _ = _; rw [Array.size_replicate, List.size_toArray, tab_length]
  have HP := hidden hp
  have HR : Hid (crcParts ls = crcOf 0 ls.flatten) := by show _ = _; rfl
  clear hi hp
  have HV0 := hidden hv
  obtain ⟨A, d, rfl, hc0⟩ := hv
  clear hc0
  go_enter Try.func10, Try.ntmps10
  go_wp2_with fail
  refine (crcTable_any w).mono ?_
  rintro e w1 ⟨rfl, g1⟩
  have HN := hidden (tabIn_new g1)
  have H0 := hidden (heap_alloc_new w1 (.cells (Array.replicate 256 (.int .u32 0)) 47))
  have G1 := hidden g1
  clear g1
  go_wp2_with (refine wpList_store_row rfl _ _ _ rfl _ _ rfl rfl _ _ H0.out HI.out HS.out HO.out ?_)
  have HG := hidden HN.out.2
  have hv2 := HV0.out.grow HN.out.2
  have HU := hidden (fun c v l h hv hl => update_any w1.heap.size c v l _ HN.out.1 h hv hl)
  clear hz H0 HV0
  generalize (w1.alloc (.cells (Array.replicate 256 (.int .u32 0)) 47)).setRow w1.heap.size (tab 256).toArray = w2 at *
  obtain ⟨A', d', hA, hc'⟩ := hv2
  injection hA with e1 e2 e3
  subst e1 e3
  have HC := hidden hc'
  clear hc' e2
  go_loop [4, 10] (CrcRel ls) (fun _ i => ls.length - (intOf i).toNat)
  case atStart => exact ⟨0, by omega, rfl, by rw [List.take_zero, List.flatten_nil, crcOf_nil (by decide)]; rfl⟩
  case round =>
    obtain ⟨k, hk, rfl, rfl⟩ := hrel
    by_cases hlt : k < ls.length
    · obtain ⟨b, off, rfl, hcell⟩ := HC.out (by omega)
      obtain ⟨B, d2, hcl, hby⟩ := hcell k hlt
      have HT := hidden (crcOf_take hlt)
      have hcb := crcOf_lt 0 (ls.take k).flatten
      have hpl : ls[k].length ≤ 1048576 := HP.out _ (List.getElem_mem hlt)
      have HC2 := hidden (HU.out (crcOf 0 (ls.take k).flatten) _ ls[k] hcb hby (by unfold maxLen; omega))
      clear hcell hby
      generalize crcOf 0 (ls.take k).flatten = x at *
      generalize ls[k] = part at *
      go_wp2_with fail
      refine (Calls.mono HC2.out ?_)
      rintro e w' ⟨rfl, rfl⟩
      go_wp2
      go_round
      case rel => exact ⟨k + 1, by omega, by go_num, by rw [HT.out]⟩
      case measure => simp [intOf]; omega
    · have hke : k = ls.length := by omega
      have HT : Hid (crcOf 0 (ls.take k).flatten = crcParts ls) := by show _ = _; rw [hke, List.take_length, HR.out]
      clear hke
      go_wp2
      go_ret
      exact ⟨retU (by rw [HT.out]), HG.out⟩

end Go.Proofs.Ytepahejeeajfbaa
