/-
  Texts that the claims of this seat share, put together (DcShelf, DcBuild, DcRB, DcRange). No condition.
-/
import Derived.Shelf.SlIter.Nil
import Derived.Shelf.SortM.Plain
import Derived.Shelf.SortM.SortNone
import Derived.Shelf.Spec.SearchS
import Derived.Test.YtgmjoghgmcjebaaProg
import Derived.Test.YtgmjoghgmcjebaaDcS
import Derived.Maps.OwnOps
import Derived.Maps.Range
import Derived.Maps.Views
/-
  The contracts of the library that package dictionary calls (maps.Keys, slices.Sorted, slices.BinarySearch at strings), at this program: the kit's own contracts at the program's numbers (its commands printed the records).
-/
namespace Go.Proofs
open Go.RowKit Go.Maps Go.Sort Go.Shelf
def Try.keys27_ren : Go.Shelf.Ren := ⟨fun | 7 => 27 | 10 => 51 | n => n, fun | 23 => 50 | 26 => 9 | 3 => 3 | 28 => 53 | 0 => 0 | 27 => 52 | 33 => 79 | 4 => 4 | n => n, fun | n => n⟩
theorem Try.keys27 : Go.Proofs.SlLaysZ.n7 Try.prog Try.keys27_ren := {
  mixed := by kernel_rfl
  f7 := ⟨Try.f27.name, by decide, Try.func27.trans (congrArg some (by kernel_rfl))⟩
  f10 := ⟨Try.f51.name, by decide, Try.func51.trans (congrArg some (by kernel_rfl))⟩
  t0 := Try.underlying0
  a0 := Try.isAgg0
  z0 := Try.sizeOf0
  v0 := Try.zeroValue0
  t4 := Try.underlying4
  a4 := Try.isAgg4
  z4 := Try.sizeOf4
  v4 := Try.zeroValue4
  t23 := Try.underlying50
  a23 := Try.isAgg50
  z23 := Try.sizeOf50
  v23 := Try.zeroValue50
  t26 := Try.underlying9
  a26 := Try.isAgg9
  z26 := Try.sizeOf9
  v26 := Try.zeroValue9
  t27 := Try.underlying52
  a27 := Try.isAgg52
  z27 := Try.sizeOf52
  v27 := Try.zeroValue52
  t28 := Try.underlying53
  a28 := Try.isAgg53
  z28 := Try.sizeOf53
  v28 := Try.zeroValue53
  t33 := Try.underlying79
  a33 := Try.isAgg79
  z33 := Try.sizeOf79
  v33 := Try.zeroValue79 }
def Try.sorted26_ren : Go.Shelf.Ren := ⟨fun | 6 => 26 | 8 => 49 | 9 => 50 | 11 => 72 | 13 => 74 | 12 => 73 | 23 => 100 | 24 => 82 | 14 => 92 | 15 => 93 | 16 => 94 | 17 => 95 | 18 => 96 | 19 => 97 | 20 => 52 | 21 => 98 | 22 => 99 | 25 => 106 | 26 => 107 | 27 => 108 | 28 => 109 | 29 => 110 | 30 => 75 | 31 => 111 | n => n, fun | 26 => 9 | 28 => 53 | 24 => 22 | 0 => 0 | 3 => 3 | 37 => 80 | 48 => 127 | 50 => 60 | 4 => 4 | 40 => 121 | 39 => 120 | 45 => 30 | 5 => 5 | 9 => 9 | 51 => 130 | 55 => 134 | 57 => 136 | 58 => 33 | 33 => 79 | n => n, fun | n => n⟩
theorem Try.sorted26 : Go.Proofs.SlLaysZ.n6 Try.prog Try.sorted26_ren := {
  mixed := by kernel_rfl
  f6 := ⟨Try.f26.name, by decide, Try.func26.trans (congrArg some (by kernel_rfl))⟩
  f8 := ⟨Try.f49.name, by decide, Try.func49.trans (congrArg some (by kernel_rfl))⟩
  f11 := ⟨Try.f72.name, by decide, Try.func72.trans (congrArg some (by kernel_rfl))⟩
  t0 := Try.underlying0
  a0 := Try.isAgg0
  z0 := Try.sizeOf0
  v0 := Try.zeroValue0
  t24 := Try.underlying22
  a24 := Try.isAgg22
  z24 := Try.sizeOf22
  v24 := Try.zeroValue22
  t26 := Try.underlying9
  a26 := Try.isAgg9
  z26 := Try.sizeOf9
  v26 := Try.zeroValue9
  t28 := Try.underlying53
  a28 := Try.isAgg53
  z28 := Try.sizeOf53
  v28 := Try.zeroValue53
  i26 := by kernel_rfl }
def Try.sort50_ren : Go.Shelf.Ren := ⟨fun | 6 => 50 | 8 => 74 | 9 => 73 | 19 => 100 | 20 => 82 | 21 => 92 | 22 => 93 | 23 => 94 | 24 => 95 | 25 => 96 | 26 => 97 | 27 => 52 | 28 => 98 | 29 => 99 | 36 => 106 | 31 => 107 | 32 => 108 | 37 => 109 | 38 => 110 | 39 => 75 | 41 => 111 | n => n, fun | 27 => 22 | 29 => 9 | 3 => 3 | 32 => 80 | 26 => 22 | 0 => 0 | 44 => 127 | 46 => 60 | 4 => 4 | 36 => 121 | 35 => 120 | 41 => 30 | 5 => 5 | 9 => 9 | 53 => 130 | 57 => 134 | 63 => 136 | 64 => 33 | n => n, fun | n => n⟩
theorem Try.sort50 : Go.Proofs.SlLaysM.n6 Try.prog Try.sort50_ren := {
  mixed := by kernel_rfl
  f6 := ⟨Try.f50.name, by decide, Try.func50.trans (congrArg some (by kernel_rfl))⟩
  f8 := Try.func74.trans (congrArg some (by kernel_rfl))
  f9 := ⟨Try.f73.name, by decide, Try.func73.trans (congrArg some (by kernel_rfl))⟩
  f19 := Try.func100.trans (congrArg some (by kernel_rfl))
  f20 := Try.func82.trans (congrArg some (by kernel_rfl))
  f21 := ⟨Try.f92.name, by decide, Try.func92.trans (congrArg some (by kernel_rfl))⟩
  f22 := ⟨Try.f93.name, by decide, Try.func93.trans (congrArg some (by kernel_rfl))⟩
  f23 := ⟨Try.f94.name, by decide, Try.func94.trans (congrArg some (by kernel_rfl))⟩
  f24 := ⟨Try.f95.name, by decide, Try.func95.trans (congrArg some (by kernel_rfl))⟩
  f25 := ⟨Try.f96.name, by decide, Try.func96.trans (congrArg some (by kernel_rfl))⟩
  f26 := ⟨Try.f97.name, by decide, Try.func97.trans (congrArg some (by kernel_rfl))⟩
  f27 := ⟨Try.f52.name, by decide, Try.func52.trans (congrArg some (by kernel_rfl))⟩
  f28 := ⟨Try.f98.name, by decide, Try.func98.trans (congrArg some (by kernel_rfl))⟩
  f29 := ⟨Try.f99.name, by decide, Try.func99.trans (congrArg some (by kernel_rfl))⟩
  f31 := Try.func107.trans (congrArg some (by kernel_rfl))
  f32 := Try.func108.trans (congrArg some (by kernel_rfl))
  f36 := ⟨Try.f106.name, by decide, Try.func106.trans (congrArg some (by kernel_rfl))⟩
  f37 := ⟨Try.f109.name, by decide, Try.func109.trans (congrArg some (by kernel_rfl))⟩
  f38 := ⟨Try.f110.name, by decide, Try.func110.trans (congrArg some (by kernel_rfl))⟩
  f39 := ⟨Try.f75.name, by decide, Try.func75.trans (congrArg some (by kernel_rfl))⟩
  f41 := ⟨Try.f111.name, by decide, Try.func111.trans (congrArg some (by kernel_rfl))⟩
  t0 := Try.underlying0
  a0 := Try.isAgg0
  z0 := Try.sizeOf0
  v0 := Try.zeroValue0
  t3 := Try.underlying3
  a3 := Try.isAgg3
  z3 := Try.sizeOf3
  v3 := Try.zeroValue3
  t4 := Try.underlying4
  a4 := Try.isAgg4
  z4 := Try.sizeOf4
  v4 := Try.zeroValue4
  t5 := Try.underlying5
  a5 := Try.isAgg5
  z5 := Try.sizeOf5
  v5 := Try.zeroValue5
  t9 := Try.underlying9
  a9 := Try.isAgg9
  z9 := Try.sizeOf9
  v9 := Try.zeroValue9
  t26 := Try.underlying22
  a26 := Try.isAgg22
  z26 := Try.sizeOf22
  v26 := Try.zeroValue22
  t27 := Try.underlying22
  a27 := Try.isAgg22
  z27 := Try.sizeOf22
  v27 := Try.zeroValue22
  t29 := Try.underlying9
  a29 := Try.isAgg9
  z29 := Try.sizeOf9
  v29 := Try.zeroValue9
  t32 := Try.underlying80
  a32 := Try.isAgg80
  z32 := Try.sizeOf80
  v32 := Try.zeroValue80
  t35 := Try.underlying120
  a35 := Try.isAgg120
  z35 := Try.sizeOf120
  v35 := Try.zeroValue120
  t36 := Try.underlying121
  a36 := Try.isAgg121
  z36 := Try.sizeOf121
  v36 := Try.zeroValue121
  t41 := Try.underlying30
  a41 := Try.isAgg30
  z41 := Try.sizeOf30
  v41 := Try.zeroValue30
  t44 := Try.underlying127
  a44 := Try.isAgg127
  z44 := Try.sizeOf127
  v44 := Try.zeroValue127
  t46 := Try.underlying60
  a46 := Try.isAgg60
  z46 := Try.sizeOf60
  v46 := Try.zeroValue60
  t53 := Try.underlying130
  a53 := Try.isAgg130
  z53 := Try.sizeOf130
  v53 := Try.zeroValue130
  t57 := Try.underlying134
  a57 := Try.isAgg134
  z57 := Try.sizeOf134
  v57 := Try.zeroValue134
  t63 := Try.underlying136
  a63 := Try.isAgg136
  z63 := Try.sizeOf136
  v63 := Try.zeroValue136
  t64 := Try.underlying33
  a64 := Try.isAgg33
  z64 := Try.sizeOf33
  v64 := Try.zeroValue33 }
def Try.lays26_ren : Go.Shelf.Ren := ⟨fun | 26 => 29 | 33 => 52 | 34 => 53 | 38 => 75 | n => n, fun | 24 => 22 | 9 => 9 | 3 => 3 | 4 => 4 | 40 => 80 | 0 => 0 | n => n, fun | n => n⟩
theorem Try.lays26 : Go.Proofs.Lays2.n26 Try.prog Try.lays26_ren := {
  mixed := by kernel_rfl
  f26 := Try.func29.trans (congrArg some (by kernel_rfl))
  f33 := Try.func52.trans (congrArg some (by kernel_rfl))
  f34 := Try.func53.trans (congrArg some (by kernel_rfl))
  f38 := Try.func75.trans (congrArg some (by kernel_rfl))
  t0 := Try.underlying0
  a0 := Try.isAgg0
  z0 := Try.sizeOf0
  v0 := Try.zeroValue0
  t3 := Try.underlying3
  a3 := Try.isAgg3
  z3 := Try.sizeOf3
  v3 := Try.zeroValue3
  t4 := Try.underlying4
  a4 := Try.isAgg4
  z4 := Try.sizeOf4
  v4 := Try.zeroValue4
  t9 := Try.underlying9
  a9 := Try.isAgg9
  z9 := Try.sizeOf9
  v9 := Try.zeroValue9
  t24 := Try.underlying22
  a24 := Try.isAgg22
  z24 := Try.sizeOf22
  v24 := Try.zeroValue22
  t40 := Try.underlying80
  a40 := Try.isAgg80
  z40 := Try.sizeOf80
  v40 := Try.zeroValue80 }
theorem Try.sorts26 (m : Nat) : AnyZ.SortsIn Try.prog Try.sorted26_ren Fence.wide m :=
  ⟨fun blk off cap ss W hH hblk hsz => callsIn_wide.2 (AnyM.slices_Sort_string Try.sort50 blk off cap ss W hH hblk hsz),
   fun p cap W => callsIn_wide.2 (AnyM.slices_Sort_string_none Try.sort50 p cap W)⟩

theorem Try.maps_Keys_27 (mb : Option Nat) (W : World) : CallsIn Fence.wide 5 Try.prog 27 #[.map mb] W fun e w' => e = .returned (.func (.func 51) #[] #[.pointer (some ⟨W.heap.size, 0, none⟩)]) ∧ w' = W.alloc (.cells #[.map mb] 50) :=
  AnyZ.keys_in Try.keys27 Fence.wide 5 trivial rfl mb W

set_option maxHeartbeats 1000000 in
theorem Try.slices_Sorted_keys_26_27 {H : Type} (b nn : Nat) (D0 : DataW H) (R : Value → Option (DataW H × List MemPlace)) (w : World) (hown : w.ownsMap Try.prog 9 R b nn D0) (hmax : Maps.size D0 ≤ maxLen) (hbytes : Maps.size D0 * 16 ≤ 140737488355328) :
    CallsIn Fence.wide 5 Try.prog 26 #[.func (.func 51) #[] #[.pointer (some ⟨w.heap.size, 0, none⟩)]] (w.alloc (.cells #[.map (some b)] 50)) fun e w' => ∃ (v : Value) (ss : List (List UInt8)), e = .returned v ∧ ss.Perm (strKeys D0) ∧
      w'.ownsRow (w.alloc (.cells #[.map (some b)] 50)).heap.size 9 1 v ss.length ((ss.mergeSort (fun x y => decide (x ≤ y))).map encStr) ∧ (v = .slice none 0 0 ↔ ss = []) ∧ Below (w.alloc (.cells #[.map (some b)] 50)).heap.size (w.alloc (.cells #[.map (some b)] 50)) w' := by
  have hbl := hown.lt
  have hseq : SeqGives Fence.wide 2 Try.prog 51 #[.pointer (some ⟨w.heap.size, 0, none⟩)] encStr (fun ss => ss.Perm (strKeys D0)) (Maps.size D0) (w.alloc (.cells #[.map (some b)] 50)) :=
    AnyZ.keys_gives (ρ := Try.keys27_ren) { Try.keys27 with } Fence.wide _ trivial rfl (by omega) w.heap.size b nn D0 _ (by simp) (by simp) (by
      obtain ⟨es, clock, hb, Ft, hs, hD⟩ := hown
      exact ⟨es, clock, (Below.heap_alloc _ _ b hbl).trans hb, Ft, hs, hD⟩)
  exact AnyZ.sorted_in Try.sorted26 Fence.wide 5 trivial trivial trivial trivial rfl (by omega) (Try.sorts26 _) (enters_of Try.func50 (by kernel_rfl) rfl) 51 #[.pointer (some ⟨w.heap.size, 0, none⟩)] trivial (enters_of Try.func51 (by kernel_rfl) rfl) _ _ hmax hbytes _ hseq

set_option maxHeartbeats 1000000 in
theorem Try.slices_Sorted_keys_nil_26_27 (w : World) :
    CallsIn Fence.wide 5 Try.prog 26 #[.func (.func 51) #[] #[.pointer (some ⟨w.heap.size, 0, none⟩)]] (w.alloc (.cells #[.map none] 50)) fun e w' => ∃ (v : Value) (ss : List (List UInt8)), e = .returned v ∧ ss = [] ∧
      w'.ownsRow (w.alloc (.cells #[.map none] 50)).heap.size 9 1 v ss.length ((ss.mergeSort (fun x y => decide (x ≤ y))).map encStr) ∧ (v = .slice none 0 0 ↔ ss = []) ∧ Below (w.alloc (.cells #[.map none] 50)).heap.size (w.alloc (.cells #[.map none] 50)) w' := by
  have hseq : SeqGives Fence.wide 2 Try.prog 51 #[.pointer (some ⟨w.heap.size, 0, none⟩)] encStr (fun ss : List (List UInt8) => ss = []) 0 (w.alloc (.cells #[.map none] 50)) :=
    AnyZ.keys_gives_nil (ρ := Try.keys27_ren) { Try.keys27 with } Fence.wide _ trivial rfl w.heap.size _ (by simp) (by simp)
  exact AnyZ.sorted_in Try.sorted26 Fence.wide 5 trivial trivial trivial trivial rfl (by omega) (Try.sorts26 _) (enters_of Try.func50 (by kernel_rfl) rfl) 51 #[.pointer (some ⟨w.heap.size, 0, none⟩)] trivial (enters_of Try.func51 (by kernel_rfl) rfl) _ 0 (Nat.zero_le _) (by omega) _ hseq


end Go.Proofs
namespace Go.Proofs.Ytgmjoghgmcjebaa
open Go.RowKit Go.Maps Go.Sort Go.Shelf
set_option linter.unusedVariables false
set_option linter.unusedSimpArgs false

theorem drewN_grows (w : World) (k : Nat) : Grows w (w.drewN k) := ⟨rfl, rfl, rfl, Nat.le_refl _, fun _ _ => rfl⟩
theorem lib_keys (mb : Option Nat) (W : World) : Calls Try.prog 27 #[.map mb] W fun e w' => e = .returned (.func (.func 51) #[] #[.pointer (some ⟨W.heap.size, 0, none⟩)]) ∧ w' = W.alloc (.cells #[.map mb] 50) :=
  callsIn_wide.1 (Try.maps_Keys_27 mb W)
theorem lib_sorted {H : Type} (b nn : Nat) (D0 : DataW H) (R : Value → Option (DataW H × List MemPlace)) (w : World) (hown : w.ownsMap Try.prog 9 R b nn D0) (hmax : Maps.size D0 ≤ maxLen) (hbytes : Maps.size D0 * 16 ≤ 140737488355328) (vs : List Str)
    (hkeys : ∀ ss : List Str, ss.Perm (strKeys D0) → ss.Nodup ∧ ∀ x, x ∈ ss ↔ x ∈ vs) :
    Calls Try.prog 26 #[.func (.func 51) #[] #[.pointer (some ⟨w.heap.size, 0, none⟩)]] (w.alloc (.cells #[.map (some b)] 50)) fun e w' => ∃ v, e = .returned v ∧
      IsS w' v (wordsOf vs) ∧ Grows (w.alloc (.cells #[.map (some b)] 50)) w' := by
  refine (callsIn_wide.1 (Try.slices_Sorted_keys_26_27 b nn D0 R w hown hmax hbytes)).mono ?_
  rintro e w' ⟨v, ss, rfl, hp, hrow, _, hb⟩
  obtain ⟨h1, h2⟩ := hkeys ss hp
  refine ⟨v, rfl, ?_, hb⟩
  rw [sorted_words h1 h2] at hrow
  exact Reads.of_own hrow
theorem bs_words {ws : List Str} (hr : RisingL ws) (s : Str) : Lib.bsGo (fun t => Op.bytesLess (strOf (ws.getD t s)).toList (strOf s).toList) ws.length 0 ws.length = loW ws s := by
  refine Lib.bsGo_spec _ (loW ws s) (fun t ht => ?_) (fun t ht => ?_) _ _ _ (by omega) (Nat.zero_le _) (loW_le ws s)
  · have hl : t < ws.length := Nat.lt_of_lt_of_le ht (loW_le ws s)
    rw [lessS, decide_eq_true_eq, List.getD_eq_getElem?_getD, List.getElem?_eq_getElem hl]
    exact (loW_iff hr s hl).2 ht
  · rw [lessS, decide_eq_false_iff_not, List.getD_eq_getElem?_getD]
    rcases Nat.lt_or_ge t ws.length with hl | hl
    · rw [List.getElem?_eq_getElem hl]
      exact fun h => absurd ((loW_iff hr s hl).1 h) (by omega)
    · rw [List.getElem?_eq_none hl]
      exact slt_irrefl s
theorem found_words {ws : List Str} (hr : RisingL ws) (s : Str) : decide (loW ws s < ws.length ∧ strOf (ws.getD (loW ws s) s) = strOf s) = decide (s ∈ ws) := by
  refine decide_eq_decide.2 ?_
  rw [← loW_found hr s]
  constructor
  · rintro ⟨h1, h2⟩
    refine ⟨h1, ?_⟩
    have := strOf_inj h2
    rwa [List.getD_eq_getElem?_getD, List.getElem?_eq_getElem h1] at this
  · rintro ⟨h1, h2⟩
    refine ⟨h1, ?_⟩
    rw [List.getD_eq_getElem?_getD, List.getElem?_eq_getElem h1]
    exact congrArg strOf h2
theorem lib_search (v : Value) (ws : List Str) (s : Str) (w : World) (hv : IsS w v ws) (hr : RisingL ws) (hl : ws.length ≤ 4611686018427387903) :
    Calls Try.prog 29 #[v, .string (strOf s)] w fun e w' => e = .returned (.tuple #[.int .i64 (loW ws s : Int), .bool (decide (s ∈ ws))]) ∧ Grows w w' := by
  obtain ⟨A, c, rfl⟩ := hv.slice_
  by_cases h0 : 0 < ws.length
  · obtain ⟨b, f, rfl, hc⟩ := hv.all_ h0
    refine (Any2.slices_BinarySearch_string Try.lays26 b f ws.length c (fun t => strOf (ws.getD t s)) (strOf s) w (by omega) (fun j hj => ?_)).mono ?_
    · rw [hc w (Below.refl _ _) j hj, List.getD_eq_getElem?_getD, List.getElem?_eq_getElem hj]; rfl
    · rintro e w' ⟨rfl, q, rfl⟩
      rw [bs_words hr s, found_words hr s]
      exact ⟨rfl, drewN_grows w q⟩
  · have : ws = [] := List.eq_nil_of_length_eq_zero (by omega)
    subst this
    refine (Any2.slices_BinarySearch_string_empty Try.lays26 A c (strOf s) w).mono ?_
    rintro e w' ⟨rfl, rfl⟩
    exact ⟨by simp [loW], Below.refl _ _⟩
def findR (ws : List Str) (s : Str) (w : World) (e : Ending) (w' : World) : Prop := e = .returned (.tuple #[.int .i64 ((findV ws s).1 : Int), .bool (findV ws s).2]) ∧ Grows w w'
set_option maxHeartbeats 1000000 in
theorem find10_any (v : Value) (ws : List Str) (s : Str) (w : World) (hv : IsS w v ws) (hr : RisingL ws) (hl : ws.length ≤ 4611686018427387903) :
    Calls Try.prog 14 #[v, .string (strOf s)] w (findR ws s w) := by
  have HS := hidden (lib_search v ws s w hv hr hl)
  have HRR := hidden hr
  clear hv hr
  by_cases hm : s ∈ ws
  · have HF := hidden (show findV ws s = (loW ws s, true) by rw [findV_in hm, (loW_in HRR.out hm).1])
    simp only [hm, decide_true] at HS
    clear hm
    go_enter Try.func14, Try.ntmps14
    go_wp2_with fail
    refine HS.out.mono ?_
    rintro e w2 ⟨rfl, g⟩
    have HG := hidden g
    clear g
    go_wp2_with fail
    go_ret2
    exact ⟨by rw [HF.out]; rfl, HG.out⟩
  · have HF := hidden (show findV ws s = (0, false) from findV_out hm)
    simp only [hm, decide_false] at HS
    clear hm
    go_enter Try.func14, Try.ntmps14
    go_wp2_with fail
    refine HS.out.mono ?_
    rintro e w2 ⟨rfl, g⟩
    have HG := hidden g
    clear g
    go_wp2_with fail
    go_ret2
    exact ⟨by rw [HF.out]; rfl, HG.out⟩
theorem codeW_le {s : Str} : ∀ {ws : List Str} {k : Nat} (hk : k < ws.length), ws[k] = s → codeW ws s ≤ k
  | w :: r, 0, _, h => by
    simp only [List.getElem_cons_zero] at h
    simp [codeW, List.idxOf_cons, h]
  | w :: r, k + 1, hk, h => by
    simp only [List.getElem_cons_succ] at h
    have := codeW_le (ws := r) (by simp at hk; omega) h
    unfold codeW at this ⊢
    rw [List.idxOf_cons]
    cases (w == s) <;> simp <;> omega
def RFindRel (w : World) (ws : List Str) (s : Str) (i : Value) (wr : World) : Prop := ∃ k : Nat, k ≤ ws.length ∧ i = .int .i64 (k : Int) ∧ (∀ j, (h : j < ws.length) → j < k → ws[j] ≠ s) ∧ w = wr
set_option maxHeartbeats 1000000 in
theorem rfind10_any (v : Value) (ws : List Str) (s : Str) (w : World) (hv : IsS w v ws) (hl : ws.length ≤ 4611686018427387903) :
    Calls Try.prog 15 #[v, .string (strOf s)] w (findR ws s w) := by
  obtain ⟨A, c, rfl⟩ := hv.slice_
  have HV := hidden hv
  clear hv
  go_enter Try.func15, Try.ntmps15
  go_wp2_with fail
  go_loopw [6] (fun i wr => RFindRel w ws s i wr) (fun i _ => ws.length - (intOf i).toNat)
  case atStart => exact ⟨0, by omega, rfl, fun j _ h => by omega, rfl⟩
  case round =>
    obtain ⟨k, hk, rfl, hno, rfl⟩ := hrel
    have HNO := hidden hno
    clear hno
    by_cases hlt : k < ws.length
    · obtain ⟨b, f, rfl, hck⟩ := HV.out.at_ hlt
      have heq := eqS ws[k] s
      by_cases he : ws[k] = s
      · have HF := hidden (show findV ws s = (k, true) by
          have hm : s ∈ ws := he ▸ List.getElem_mem hlt
          rw [findV_in hm]
          have h1 := codeW_le hlt he
          have h2 : ¬ codeW ws s < k := fun q => HNO.out _ (codeW_lt hm) q (codeW_get hm)
          rw [show codeW ws s = k by omega])
        simp only [he, decide_true] at heq hck
        clear he
        go_wp2_with fail
        go_ret2
        exact ⟨by rw [HF.out]; rfl, Below.refl _ _⟩
      · have HNE := hidden he
        simp only [he, decide_false] at heq
        clear he
        generalize hS' : strOf ws[k] = s' at *
        clear hS'
        go_wp2_with fail
        go_roundw
        case rel =>
          refine ⟨k + 1, by omega, by go_num, fun j h hj => ?_, rfl⟩
          rcases Nat.lt_or_ge j k with q | q
          · exact HNO.out j h q
          · obtain rfl : j = k := by omega
            exact HNE.out
        case measure => simp [intOf]; omega
    · have HF := hidden (show findV ws s = (0, false) from findV_out fun hm => by
        obtain ⟨j, hj, e⟩ := List.getElem_of_mem hm
        exact HNO.out j hj (by omega) e)
      go_wp2_with fail
      go_ret2
      exact ⟨by rw [HF.out]; rfl, Below.refl _ _⟩
end Go.Proofs.Ytgmjoghgmcjebaa
/-
  package dictionary's Build: the map of the strings, its keys sorted, the code of each string. Nothing that was there is changed.
-/
namespace Go.Proofs.Ytgmjoghgmcjebaa
open Go.RowKit Go.Maps
set_option linter.unusedVariables false
set_option linter.unusedSimpArgs false

theorem growA {w : World} (o : Obj) : Grows w (w.alloc o) := (Below.refl _ _).alloc (Nat.le_refl _) o
/-- make([]T, s), T of one cell -/
theorem run_make_rep {P : Program} (t e : TypeId) (z : Value) (bytes : Nat) (ht : P.underlying t = some (.slice e)) (hinfo : (P.info? e).map (fun i => (i.zero, i.size, i.bytes)) = some (some z, 1, bytes)) (hz : z.cells = #[z])
    (s : Nat) (hs : s ≤ 281474976710656) (hb : bytes * s ≤ 281474976710656) (W : World) :
    (Instr.makeSlice t (.int .i64 (s : Int)) (.int .i64 (s : Int))).run P W = .ok (.slice (some ⟨W.heap.size, 0, none⟩) s s) (W.alloc (.cells (List.replicate s z).toArray e)) := by
  obtain ⟨i0, hi, hz0, hz1, hz2⟩ := info_parts hinfo
  have hbs : (i0.bytes : Int) * (s : Int) ≤ 281474976710656 := by
    rw [hz2]
    have : ((bytes * s : Nat) : Int) ≤ 281474976710656 := by omega
    rwa [Int.natCast_mul] at this
  have h := run_make (P := P) W t e i0 z ht hi hz0 .i64 .i64 (s : Int) (s : Int) (by omega) (by omega) hbs (by omega)
  rw [hz1, hz] at h
  have e1 : madeCells #[z] s = (List.replicate s z).toArray := by
    apply Array.toList_inj.1
    rw [toList_madeCells_one]
  simpa [e1] using h
theorem info_strD : (Try.prog.info? 9).map (fun i => (i.zero, i.size, i.bytes)) = some (some (.string ⟨#[]⟩), 1, 16) := by kernel_rfl
abbrev DU := DataW Unit
theorem lawStr : Keyed Try.prog 9 := string_keyed Try.underlying9
theorem zeroInt (w : World) : (zeroValue 3).run Try.prog w = .ok (.int .i64 0) w := by kernel_rfl
theorem keyS {s : Str} (h : s.length ≤ maxLen) : keyOf Try.prog 9 (.string (strOf s)) = some (.string s) := Go.WideMaps.keyOf_string_mk (s := strOf s) Try.underlying9 (by rw [strOf_size']; exact h)
theorem isKeyS (s : Str) : WideAt.IsKeyLit (.string s) := trivial
theorem lit_ne {s t : Str} (h : s ≠ t) : (Lit.string s) ≠ .string t := fun e => h (by injection e)

theorem ownsMap_grow {w w' : World} {P : Program} {k : TypeId} {R : Value → Option (DU × List MemPlace)} {b n : Nat} {D : DU} (h : w.ownsMap P k R b n D) (hb : Grows w w') : w'.ownsMap P k R b n D := by
  have hlt := h.lt
  obtain ⟨es, clock, h1, h2⟩ := h
  exact ⟨es, clock, (hb.block b hlt).trans h1, h2⟩
/-- what reads as cells reads so while a map is written -/
theorem Reads.keepMap {w w' : World} {P : Program} {k : TypeId} {R : Value → Option (DU × List MemPlace)} {b n : Nat} {D : DU} {v : Value} {xs : List Value} (h : Reads w v xs) (hm : w.ownsMap P k R b n D) (hg : w.grownBy w' (some b)) : Reads w' v xs := by
  obtain ⟨A, c, rfl, hle, hc⟩ := h
  refine ⟨A, c, rfl, hle, fun hl => ?_⟩
  obtain ⟨b2, off, rfl, hcell⟩ := hc hl
  refine ⟨b2, off, rfl, fun j hj => ?_⟩
  have h1 := hcell j hj
  rw [List.getElem?_eq_getElem hj] at h1 ⊢
  have hlt := World.block_lt_of_cell? w _ h1
  have hne : b2 ≠ b := by
    rintro rfl
    obtain ⟨es, clock, hb, _⟩ := hm
    simp [World.cell?, hb] at h1
  have hbl := hg.block b2 hlt (fun e => hne (by injection e))
  simp only [World.cell?, hbl] at h1 ⊢
  exact h1
theorem Row.keepMap {w w' : World} {P : Program} {k : TypeId} {R : Value → Option (DU × List MemPlace)} {b n : Nat} {D : DU} {g : Nat} {e : TypeId} {xs : List Value} (h : Row w g e xs) (hm : w.ownsMap P k R b n D) (hg : w.grownBy w' (some b)) : Row w' g e xs := by
  have hne : g ≠ b := by
    rintro rfl
    obtain ⟨es, clock, hb, _⟩ := hm
    unfold Row at h
    rw [hb] at h
    cases h
  exact (hg.block g h.lt (fun e => hne (by injection e))).trans h
theorem size_of_owns {w : World} {P : Program} {k : TypeId} {R : Value → Option (DU × List MemPlace)} {b n : Nat} {D : DU} (h : w.ownsMap P k R b n D) : Maps.size D ≤ n := by
  obtain ⟨es, clock, _, _, hs, rfl⟩ := h
  rw [size_eq, length_sorted]
  simpa using hs

def mapD (vs : List Str) : DU := setOf (.lit (.int .i64 0)) (vs.map Lit.string)
theorem mapD_snoc (vs : List Str) (s : Str) : mapD (vs ++ [s]) = (mapD vs).put (.string s) (.lit (.int .i64 0)) := by
  unfold mapD
  rw [List.map_append, List.map_cons, List.map_nil, setOf_snoc]
theorem mapD_key (vs : List Str) : ∀ x ∈ vs.map Lit.string, WideAt.IsKeyLit x := by
  intro x hx
  obtain ⟨s, _, rfl⟩ := List.mem_map.1 hx
  trivial
theorem mapD_has (vs : List Str) (s : Str) : Maps.has (mapD vs) (.string s) = true ↔ s ∈ vs := by
  unfold mapD
  rw [has_setOf _ _ _ (mapD_key vs), List.any_eq_true]
  constructor
  · rintro ⟨x, hx, hk⟩
    obtain ⟨t, ht, rfl⟩ := List.mem_map.1 hx
    rcases Classical.em (t = s) with rfl | hne
    · exact ht
    · rw [sameKey_ne (lit_ne hne)] at hk; cases hk
  · intro h
    refine ⟨.string s, List.mem_map.2 ⟨s, h, rfl⟩, ?_⟩
    simp [Lit.sameKey]
theorem mapD_keys {w : World} {b n : Nat} {vs : List Str} (h : w.ownsMap Try.prog 9 (plainElem Try.prog 3) b n (mapD vs)) (ss : List Str) (hp : ss.Perm (strKeys (mapD vs))) : ss.Nodup ∧ ∀ x, x ∈ ss ↔ x ∈ vs := by
  obtain ⟨es, hD, hpw, _⟩ := h.entries lawStr
  obtain ⟨es', hD', hks⟩ := h.keysOf
  rw [hD] at hD'
  injection hD' with hD'
  subst hD'
  have hwp : (wordsOf vs).Perm (strKeys (mapD vs)) := by
    rw [hD]
    refine perm_strKeys hpw (fun p hp => ?_) (rising_nodup (wordsOf_rising vs)) fun x => ?_
    · obtain ⟨v, hv⟩ := hks p hp
      obtain ⟨x, _, hx, _⟩ := keyOf_str Try.underlying9 hv
      exact ⟨x, hx⟩
    · rw [← hD, mapD_has, mem_wordsOf]
  have h2 := hp.trans hwp.symm
  exact ⟨h2.nodup_iff.2 (rising_nodup (wordsOf_rising vs)), fun x => by rw [h2.mem_iff, mem_wordsOf]⟩
/-- the map after j words have got their codes -/
def CodeD (D : DU) (ws : List Str) (j : Nat) : Prop := IsMap D ∧ ∀ i, (h : i < ws.length) → i < j → ∀ z, D.atKey (.string ws[i]) z = .lit (.int .i64 (i : Int))
theorem CodeD.step {D : DU} {ws : List Str} {j : Nat} (h : CodeD D ws j) (hr : RisingL ws) (hj : j < ws.length) : CodeD (D.put (.string ws[j]) (.lit (.int .i64 (j : Int)))) ws (j + 1) := by
  refine ⟨h.1.put _ _, fun i hi hij z => ?_⟩
  rcases Nat.lt_or_ge i j with q | q
  · rw [atKey_put_other (lit_ne (slt_ne (rising_get hr hi hj q)))]
    exact h.2 i hi q z
  · obtain rfl : i = j := by omega
    exact atKey_put_same h.1 (isKeyS _) _ _
theorem CodeD.code {D : DU} {ws : List Str} (h : CodeD D ws ws.length) {s : Str} (hs : s ∈ ws) (z : DU) : D.atKey (.string s) z = .lit (.int .i64 (codeW ws s : Int)) := by
  have h1 := h.2 _ (codeW_lt hs) (codeW_lt hs) z
  rwa [codeW_get hs] at h1
set_option maxHeartbeats 1000000 in
theorem look_any (b0 b1 n : Nat) (D : DU) (s : Str) (c : Int) (w : World) (hrow : Row w b1 50 [.map (some b0)]) (hown : w.ownsMap Try.prog 9 (plainElem Try.prog 3) b0 n D) (hs : s.length ≤ maxLen) (hat : ∀ z, D.atKey (.string s) z = .lit (.int .i64 c)) :
    Calls Try.prog 28 #[.string (strOf s), .pointer (some ⟨b1, 0, none⟩)] w fun e w' => e = .returned (.int .i64 c) ∧ w = w' := by
  have hc := hrow.cell 0
  simp only [List.getElem?_cons_zero] at hc
  have HAT := hidden hat
  have HOWN := hidden hown
  have hkey := keyS hs
  have HKEY := hidden hkey
  clear hrow hat hown hs hkey
  go_enter Try.func28, Try.ntmps28
  go_wp2_with ((at_lookup; refine wpList_lookup_own_int _ rfl _ _ 50 rfl 9 3 .i64 lawStr Try.underlying50 Try.underlying3 (zeroInt _) b0 n _ rfl HOWN.out _ _ rfl HKEY.out ?_; intro c' hat' hwc'; have HA' := hidden hat'; clear hat'))
  go_ret
  have h1 := HA'.out
  rw [HAT.out] at h1
  injection h1 with h1
  injection h1 with _ h1
  exact ⟨by rw [h1]; rfl, rfl⟩
theorem info_intD : (Try.prog.info? 3).map (fun i => (i.zero, i.size, i.bytes)) = some (some (.int .i64 0), 1, 8) := by kernel_rfl
def BuildR (vs : List Str) (w : World) (e : Ending) (w' : World) : Prop :=
  ∃ v c, e = .returned (.tuple #[v, c]) ∧ Grows w w' ∧ IsS w' v (wordsOf vs) ∧ IsN w' c (codesW (wordsOf vs) vs)
def B1Rel (w : World) (vs : List Str) (i : Value) (wr : World) : Prop :=
  ∃ k : Nat, k ≤ vs.length ∧ i = .int .i64 (k : Int) ∧ wr.ownsMap Try.prog 9 (plainElem Try.prog 3) w.heap.size k (mapD (vs.take k)) ∧ Row wr (w.heap.size + 1) 50 [.map (some w.heap.size)] ∧ Below w.heap.size w wr
def B2Rel (w : World) (ws : List Str) (n0 : Nat) (u : Value) (i : Value) (wr : World) : Prop :=
  ∃ k : Nat, ∃ D : DU, k ≤ ws.length ∧ i = .int .i64 (k : Int) ∧ wr.ownsMap Try.prog 9 (plainElem Try.prog 3) w.heap.size (n0 + k) D ∧ CodeD D ws k ∧ Row wr (w.heap.size + 1) 50 [.map (some w.heap.size)] ∧ IsS wr u ws ∧ Below w.heap.size w wr
def cutN (l : List Nat) (k n : Nat) : List Nat := l.take k ++ List.replicate (n - k) 0
theorem cutN_zero (l : List Nat) (n : Nat) : cutN l 0 n = List.replicate n 0 := by simp [cutN]
theorem cutN_all (l : List Nat) : cutN l l.length l.length = l := by simp [cutN]
theorem cutN_length {l : List Nat} {k n : Nat} (h : k ≤ l.length) (hn : n = l.length) : (cutN l k n).length = n := by simp [cutN]; omega
theorem cutN_set {l : List Nat} {k n : Nat} (h : k < l.length) (hn : n = l.length) : (cutN l k n).set k l[k] = cutN l (k + 1) n := by
  subst hn
  unfold cutN
  have e : List.replicate (l.length - k) 0 = 0 :: List.replicate (l.length - (k + 1)) 0 := by
    rw [show l.length - k = (l.length - (k + 1)) + 1 by omega, List.replicate_succ]
  rw [e, List.take_succ_eq_append_getElem h, List.append_assoc]
  have hl : (l.take k).length = k := by rw [List.length_take]; omega
  rw [List.set_append_right _ _ (by omega), hl, Nat.sub_self]
  rfl
theorem ncells_set (l : List Nat) (j c : Nat) : (ncells l).set j (.int .i64 (c : Int)) = ncells (l.set j c) := by simp [ncells, List.map_set]
theorem made_ncells (n : Nat) : List.replicate n (Value.int .i64 0) = ncells (List.replicate n 0) := by simp [ncells]
def B3Rel (w : World) (cs : List Nat) (g : Nat) (i : Value) (wr : World) : Prop :=
  ∃ k : Nat, k ≤ cs.length ∧ i = .int .i64 (k : Int) ∧ Row wr g 3 (ncells (cutN cs k cs.length)) ∧ Grows w wr
set_option maxRecDepth 8000 in
set_option maxHeartbeats 4000000 in
theorem build10_any (v : Value) (vs : List Str) (w : World) (hv : IsS w v vs) (hl : vs.length ≤ 1000000) (hs : ∀ s ∈ vs, s.length ≤ maxLen) :
    Calls Try.prog 10 #[v] w (BuildR vs w) := by
  obtain ⟨A, c, rfl⟩ := hv.slice_
  have HV := hidden hv
  have HSL := hidden hs
  have hmm := @run_makeMap Try.prog
  have hmk := fun W => run_make_rep (P := Try.prog) 25 3 (.int .i64 0) 8 Try.underlying25 info_intD rfl vs.length (by omega) (by omega) W
  have HMK := hidden hmk
  have HWL := hidden (wordsOf_length vs)
  clear hv hs hmk
  go_enter Try.func10, Try.ntmps10
  go_wp2_with fail
  go_loopw [15] (fun i wr => B1Rel w vs i wr) (fun i _ => vs.length - (intOf i).toNat)
  case atStart =>
    refine ⟨0, by omega, rfl, ?_, ?_, ((Below.refl _ _).alloc (Nat.le_refl _) _).alloc (by simp) _⟩
    · exact (World.ownsMap_made w _ _ _).alloc _
    · exact Row.at_ _ _ _ _ rfl _ (by simp)
  case round =>
    obtain ⟨k, hk, rfl, hown, hrow, hb⟩ := hrel
    have hc0 := hrow.cell 0
    simp only [List.getElem?_cons_zero] at hc0
    have HB := hidden hb
    have HROW := hidden hrow
    have HOWN := hidden hown
    clear hrow hown hb
    by_cases hlt : k < vs.length
    · obtain ⟨b, f, rfl, hck⟩ := (HV.out.grow HB.out).at_ hlt
      have HSK := hidden (keyS (HSL.out _ (List.getElem_mem hlt)))
      have HTK := hidden (show mapD (vs.take (k + 1)) = (mapD (vs.take k)).put (.string vs[k]) (.lit (.int .i64 0)) by rw [List.take_succ_eq_append_getElem hlt, mapD_snoc])
      generalize vs[k] = s at *
      clear hmm
      go_wp2_with ((at_mapUpdate; refine wpList_mapUpdate_own _ rfl _ _ _ 50 rfl 9 3 lawStr Try.underlying50 _ w.heap.size k _ rfl HOWN.out (by unfold maxLen; omega) _ _ _ rfl rfl HSK.out _ [] (plainElem_int Try.underlying3 rfl) ?_; intro w1 hown1 hgrow1; have HO1 := hidden hown1; have HG1 := hidden hgrow1; clear hown1 hgrow1))
      go_roundw
      case rel => exact ⟨k + 1, by omega, by go_num, by rw [HTK.out]; exact HO1.out, HROW.out.keepMap HOWN.out HG1.out, HB.out.grown HG1.out HB.out.size (fun j hj => by cases hj; exact Nat.le_refl _)⟩
      case measure => simp [intOf]; omega
    · have hke : k = vs.length := by omega
      rw [hke, List.take_length] at HOWN
      have hsz := size_of_owns HOWN.out
      have HKS := hidden (lib_keys (some w.heap.size) wr)
      have HSO := hidden (lib_sorted w.heap.size vs.length (mapD vs) _ wr HOWN.out (by unfold maxLen; omega) (by omega) vs (mapD_keys HOWN.out))
      have HWR := hidden (wordsOf_rising vs)
      have HMW := hidden (fun s (hs : s ∈ vs) => mem_wordsOf.2 hs)
      obtain ⟨ws, hws⟩ : ∃ ws, ws = wordsOf vs := ⟨_, rfl⟩
      rw [← hws] at HSO HWR HWL HMW
      have HWS := hidden hws
      have hwl := HWL.out
      have HWSL := hidden (show ∀ s ∈ ws, s.length ≤ maxLen by rw [hws]; exact fun s h => HSL.out s (mem_wordsOf.1 h))
      clear hsz hmm hws hke
      go_wp2_with (first
        | (go_at_call 27; refine HKS.out.mono ?_; rintro e w2 ⟨rfl, rfl⟩)
        | (go_at_call 26; refine HSO.out.mono ?_; rintro e w2 ⟨u, rfl, hIS, hg2⟩; obtain ⟨A2, c2, rfl⟩ := hIS.slice_; have HIS := hidden hIS; have HG2 := hidden hg2; clear hIS hg2))
      have hsz := HB.out.size
      have HB2 := hidden ((HB.out.alloc hsz (.cells #[.map (some w.heap.size)] 50)).trans (HG2.out.mono (by simp; omega)))
      have HOW2 := hidden (ownsMap_grow (HOWN.out.alloc _) HG2.out)
      have HRO2 := hidden ((HROW.out.grow (growA _)).grow HG2.out)
      clear hsz hc0
      go_loopw [27] (fun i wr => B2Rel w ws vs.length (.slice A2 ws.length c2) i wr) (fun i _ => ws.length - (intOf i).toNat)
      case atStart =>
        refine ⟨0, mapD vs, by omega, rfl, HOW2.out, ⟨?_, fun i hi h => by omega⟩, HRO2.out, HIS.out, HB2.out⟩
        obtain ⟨es, he, _⟩ := HOW2.out.entries lawStr
        exact ⟨es, he⟩
      case round =>
        obtain ⟨j, D, hj, rfl, hown, hcd, hrow, his, hb⟩ := hrel
        have hc0 := hrow.cell 0
        simp only [List.getElem?_cons_zero] at hc0
        have HB := hidden hb
        have HROW := hidden hrow
        have HOWN := hidden hown
        have HIS := hidden his
        have HCD := hidden hcd
        clear hrow hown hb his hcd
        by_cases hlt : j < ws.length
        · obtain ⟨b, f, rfl, hck⟩ := HIS.out.at_ hlt
          have HSK := hidden (keyS (HWSL.out _ (List.getElem_mem hlt)))
          have HTK := hidden (HCD.out.step HWR.out hlt)
          generalize ws[j] = s at *
          go_wp2_with ((at_mapUpdate; refine wpList_mapUpdate_own _ rfl _ _ _ 50 rfl 9 3 lawStr Try.underlying50 _ w.heap.size (vs.length + j) _ rfl HOWN.out (by unfold maxLen; omega) _ _ _ rfl rfl HSK.out _ [] (plainElem_int Try.underlying3 (by simp [Lit.wf, IntKind.min, IntKind.max, IntKind.bits, IntKind.signed]; omega)) ?_; intro w1 hown1 hgrow1; have HO1 := hidden hown1; have HG1 := hidden hgrow1; clear hown1 hgrow1))
          go_roundw
          case rel => exact ⟨j + 1, _, by omega, by go_num, HO1.out, HTK.out, HROW.out.keepMap HOWN.out HG1.out, Reads.keepMap HIS.out HOWN.out HG1.out, HB.out.grown HG1.out HB.out.size (fun j hj => by cases hj; exact Nat.le_refl _)⟩
          case measure => simp [intOf]; omega
        · have hje : j = ws.length := by omega
          have HCD2 := hidden (show CodeD D ws ws.length from hje ▸ HCD.out)
          clear hje
          have hmk := HMK.out
          go_wp2_with fail
          obtain ⟨cs, hcs⟩ : ∃ cs, cs = codesW ws vs := ⟨_, rfl⟩
          have HCS := hidden hcs
          have HCL := hidden (show cs.length = vs.length by rw [hcs]; simp [codesW])
          obtain ⟨wo, rfl⟩ : ∃ wo : World, wo = wr := ⟨_, rfl⟩
          have HSZ := hidden HB.out.size
          clear hmk hcs
          go_loopw [42] (fun i wr => B3Rel wo cs wo.heap.size i wr) (fun i _ => vs.length - (intOf i).toNat)
          case atStart =>
            refine ⟨0, by omega, rfl, ?_, growA _⟩
            rw [cutN_zero, ← made_ncells, HCL.out]
            exact Row.at_ _ _ _ _ rfl _ rfl
          case round =>
            obtain ⟨k, hk, rfl, hrow3, hb3⟩ := hrel
            have HB3 := hidden hb3
            have HR3 := hidden hrow3
            have HBW := hidden (HB.out.trans (hb3.mono HSZ.out))
            rw [HCL.out] at hk
            by_cases hlt3 : k < vs.length
            · obtain ⟨b, f, rfl, hck⟩ := (HV.out.grow HBW.out).at_ hlt3
              have hkc : k < cs.length := by rw [HCL.out]; exact hlt3
              have HCK := hidden (show cs[k] = codeW ws vs[k] by
                have := HCS.out
                subst this
                simp [codesW])
              have HLK := hidden (look_any w.heap.size (w.heap.size + 1) (vs.length + j) D vs[k] (cs[k] : Int) wr (HROW.out.grow hb3) (ownsMap_grow HOWN.out hb3) (HSL.out _ (List.getElem_mem hlt3)) (fun z => by rw [HCK.out]; exact HCD2.out.code (HMW.out _ (List.getElem_mem hlt3)) z))
              have HSET := hidden (cutN_set hkc rfl)
              have hcell := hrow3.cell k
              have hlen3 : k < (cutN cs k cs.length).length := by rw [cutN_length (by omega) rfl]; exact hkc
              rw [ncells_get hlen3] at hcell
              have frow := hrow3.frozen k
              generalize cs[k] = ck at *
              generalize vs[k] = s at *
              generalize (cutN cs k cs.length)[k] = old at *
              clear hrow3 hb3 hc0 HCK hlen3
              go_wp2_with ((go_at_call 28; refine HLK.out.mono ?_; rintro e w2 ⟨rfl, rfl⟩))
              go_roundw
              case rel =>
                refine ⟨k + 1, by omega, by go_num, ?_, ?_⟩
                · rw [← HSET.out, ← ncells_set]
                  exact HR3.out.set_ k _
                · exact Below.setCell HB3.out (p := ⟨wo.heap.size, k, none⟩) (Nat.le_refl _) _
              case measure => simp [intOf]; omega
            · have hke : k = vs.length := by omega
              have HCN := hidden (cutN_all cs)
              rw [hke, ← HCL.out] at HR3
              clear hrow3 hb3 hc0 hke
              go_wp2_with fail
              go_ret2
              refine ⟨_, _, rfl, HBW.out, ?_, ?_⟩
              · rw [← HWS.out]; exact HIS.out.grow HB3.out
              · rw [← HWS.out, ← HCS.out]
                have h := HR3.out
                rw [HCN.out] at h
                exact Reads.of_row h _ _ (by rw [ncells_length, HCL.out]) (Nat.le_refl _)
end Go.Proofs.Ytgmjoghgmcjebaa
/-
  The reference's Build: each string is put at its place by shifting the words behind it. Nothing that was there is changed.
-/
namespace Go.Proofs.Ytgmjoghgmcjebaa
open Go.RowKit
set_option linter.unusedVariables false
set_option linter.unusedSimpArgs false

theorem own_growS {w w' : World} {base : Nat} {e : TypeId} {size : Nat} {v : Value} {n : Nat} {xs : List Value} (h : w.ownsRow base e size v n xs) (hb : Grows w w') : w'.ownsRow base e size v n xs := by
  refine ⟨h.1, ?_⟩
  rcases h.2 with h0 | ⟨g, cap, cur, h1, h2, h3, h4⟩
  · exact .inl h0
  · exact .inr ⟨g, cap, cur, h1, h2, (hb.block g (Array.getElem?_eq_some_iff.1 h3).1).trans h3, h4⟩
theorem wpList_append_s {wr : World} {ops : Array Oper} {rest : List Oper} {o : Oper} {a : Act} {Q : Exit → Act → World → Prop} (hgd : o.guard = none) (s x : Operand)
    (ho : o.op = .call { callee := .builtin .append, args := #[s, x], argTypes := #[22, 22] })
    (v : Value) (pre : List Str) (hs : a.eval s = v) (base : Nat) (hown : wr.ownsRow base 9 1 v pre.length (scells pre)) (w0 : World) (hb : Below base w0 wr) (hbase : base ≤ wr.heap.size)
    (z : Str) (b : ByteArray) (hz : b = strOf z) (hx : a.eval x = .slice (some ⟨wr.heap.size, 0, none⟩) 1 1) (hlen : pre.length + 1 ≤ 1000000000000)
    (h : ∀ v' w', w'.ownsRow base 9 1 v' (pre ++ [z]).length (scells (pre ++ [z])) → Below base w0 w' → wpList Try.prog ops Q rest (a.put o.dst v') w') :
    wpList Try.prog ops Q (o :: rest) a (wr.alloc (.cells #[.string b] 9)) := by
  subst hz
  obtain ⟨i0, hi, hz0, hz1, hz2⟩ := info_parts info_strD
  refine wpList_append_own _ hgd s x 22 ho base 9 i0 (.string ⟨#[]⟩) 1 16 Try.underlying22 hi hz0 hz1 hz2 rfl (by decide) v pre.length (scells pre) hs (hown.alloc _) ⟨wr.heap.size, 0, none⟩ 1 1 [.string (strOf z)] hx rfl ?_ ?_ ?_ ?_ ?_ ?_
  · intro j u hj
    match j, hj with
    | 0, hj => simp at hj; subst hj; simp [Addr.add]
  · intro u hu; simp at hu; subst hu; rfl
  · unfold maxLen; omega
  · omega
  · simp; omega
  · intro v' w' h1 h2 _
    rw [← scells_snoc, show pre.length + 1 = (pre ++ [z]).length by simp] at h1
    exact h v' w' h1 ((hb.alloc hbase _).grown h2 (by simp; omega) (fun k hk => (hown.lt k hk).1))
theorem wpList_append_n {wr : World} {ops : Array Oper} {rest : List Oper} {o : Oper} {a : Act} {Q : Exit → Act → World → Prop} (hgd : o.guard = none) (s x : Operand)
    (ho : o.op = .call { callee := .builtin .append, args := #[s, x], argTypes := #[25, 25] })
    (v : Value) (pre : List Nat) (hs : a.eval s = v) (base : Nat) (hown : wr.ownsRow base 3 1 v pre.length (ncells pre)) (w0 : World) (hb : Below base w0 wr) (hbase : base ≤ wr.heap.size)
    (z : Nat) (hx : a.eval x = .slice (some ⟨wr.heap.size, 0, none⟩) 1 1) (hlen : pre.length + 1 ≤ 1000000000000)
    (h : ∀ v' w', w'.ownsRow base 3 1 v' (pre ++ [z]).length (ncells (pre ++ [z])) → Below base w0 w' → wpList Try.prog ops Q rest (a.put o.dst v') w') :
    wpList Try.prog ops Q (o :: rest) a (wr.alloc (.cells #[.int .i64 (z : Int)] 3)) := by
  obtain ⟨i0, hi, hz0, hz1, hz2⟩ := info_parts info_intD
  refine wpList_append_own _ hgd s x 25 ho base 3 i0 (.int .i64 0) 1 8 Try.underlying25 hi hz0 hz1 hz2 rfl (by decide) v pre.length (ncells pre) hs (hown.alloc _) ⟨wr.heap.size, 0, none⟩ 1 1 [.int .i64 (z : Int)] hx rfl ?_ ?_ ?_ ?_ ?_ ?_
  · intro j u hj
    match j, hj with
    | 0, hj => simp at hj; subst hj; simp [Addr.add]
  · intro u hu; simp at hu; subst hu; rfl
  · unfold maxLen; omega
  · omega
  · simp; omega
  · intro v' w' h1 h2 _
    rw [← ncells_snoc, show pre.length + 1 = (pre ++ [z]).length by simp] at h1
    exact h v' w' h1 ((hb.alloc hbase _).grown h2 (by simp; omega) (fun k hk => (hown.lt k hk).1))
theorem own_sliceS {w : World} {base : Nat} {e : TypeId} {v : Value} {l : List Str} (h : w.ownsRow base e 1 v l.length (scells l)) : ∃ A c, v = .slice A l.length c := by
  rcases h.2 with ⟨rfl, h0⟩ | ⟨g, cap, cur, rfl, _⟩
  · refine ⟨none, 0, ?_⟩
    rw [h0]
  · exact ⟨_, cap, rfl⟩
theorem own_some {w : World} {base : Nat} {e : TypeId} {v : Value} {n : Nat} {xs : List Value} (h : w.ownsRow base e 1 v (n + 1) xs) : ∃ g c, v = .slice (some ⟨g, 0, none⟩) (n + 1) c := by
  rcases h.2 with ⟨rfl, h0⟩ | ⟨g, cap, cur, rfl, _⟩
  · omega
  · exact ⟨g, cap, rfl⟩
/-- words of which those behind q are shifted by one -/
def shiftS (ws : List Str) (q : Nat) (y : Str) : List Str := ws.take q ++ y :: ws.drop q
theorem shiftS_length {ws : List Str} {q : Nat} (h : q ≤ ws.length) (y : Str) : (shiftS ws q y).length = ws.length + 1 := by simp [shiftS]; omega
theorem shiftS_end (ws : List Str) (y : Str) : shiftS ws ws.length y = ws ++ [y] := by simp [shiftS]
theorem shiftS_set {ws : List Str} {q : Nat} (h : q ≤ ws.length) (y x : Str) : (shiftS ws q y).set q x = shiftS ws q x := by
  have hl : (ws.take q).length = q := by rw [List.length_take]; omega
  unfold shiftS
  rw [List.set_append_right _ _ (by omega), hl, Nat.sub_self]; rfl
theorem shiftS_step {ws : List Str} {q : Nat} (h : q < ws.length) : shiftS ws (q + 1) ws[q] = shiftS ws q ws[q] := by
  unfold shiftS
  rw [List.take_succ_eq_append_getElem h, List.append_assoc, List.drop_eq_getElem_cons h]; rfl
theorem shiftS_get {ws : List Str} {q j : Nat} (h : q ≤ ws.length) (hj : j < q) (y : Str) : (shiftS ws q y)[j]? = some (ws[j]'(by omega)) := by
  unfold shiftS
  rw [List.getElem?_append_left (by rw [List.length_take]; omega), List.getElem?_take_of_lt hj, List.getElem?_eq_getElem (by omega)]
theorem scells_set (l : List Str) (j : Nat) (s : Str) : (scells l).set j (.string (strOf s)) = scells (l.set j s) := by simp [scells, List.map_set]
theorem scells_getq {l : List Str} {j : Nat} {s : Str} (h : l[j]? = some s) : (scells l)[j]? = some (.string (strOf s)) := by simp [scells, h]
def RB1Rel (w : World) (vs : List Str) (u i : Value) (wr : World) : Prop :=
  ∃ k : Nat, k ≤ vs.length ∧ i = .int .i64 (k : Int) ∧ wr.ownsRow w.heap.size 9 1 u (wordsOf (vs.take k)).length (scells (wordsOf (vs.take k))) ∧ Below w.heap.size w wr
def RB2Rel (w : World) (ws : List Str) (s : Str) (i : Value) (wr : World) : Prop :=
  ∃ a : Nat, a ≤ ws.length ∧ i = .int .i64 (a : Int) ∧ (∀ j, (h : j < ws.length) → a ≤ j → s < ws[j]) ∧ Grows w wr
def RB3Rel (base : Nat) (w : World) (ws : List Str) (a : Nat) (u : Value) (i : Value) (wr : World) : Prop :=
  ∃ q : Nat, ∃ y : Str, a ≤ q ∧ q ≤ ws.length ∧ i = .int .i64 (q : Int) ∧ wr.ownsRow base 9 1 u (ws.length + 1) (scells (shiftS ws q y)) ∧ Below base w wr
def RB4Rel (w : World) (cs : List Nat) (u i : Value) (wr : World) : Prop :=
  ∃ k : Nat, k ≤ cs.length ∧ i = .int .i64 (k : Int) ∧ wr.ownsRow w.heap.size 3 1 u (cs.take k).length (ncells (cs.take k)) ∧ Below w.heap.size w wr
set_option maxRecDepth 8000 in
set_option maxHeartbeats 4000000 in
theorem rbuild10_any (v : Value) (vs : List Str) (w : World) (hv : IsS w v vs) (hl : vs.length ≤ 1000000) :
    Calls Try.prog 11 #[v] w (BuildR vs w) := by
  obtain ⟨A, c, rfl⟩ := hv.slice_
  have HV := hidden hv
  clear hv
  go_enter Try.func11, Try.ntmps11
  go_wp2_with fail
  go_loopw [4, 5] (fun u i wr => RB1Rel w vs u i wr) (fun _ i _ => vs.length - (intOf i).toNat)
  case atStart => exact ⟨0, by omega, rfl, ⟨rfl, .inl ⟨rfl, rfl⟩⟩, Below.refl _ _⟩
  case round =>
    obtain ⟨k, hk, rfl, hown, hb⟩ := hrel
    by_cases hlt : k < vs.length
    · have HTK := hidden (wordsOf_take hlt)
      have HR := hidden (wordsOf_rising (vs.take k))
      have hwl : (wordsOf (vs.take k)).length ≤ 1000000 := Nat.le_trans (wordsOf_length _) (by rw [List.length_take]; omega)
      have HS := hidden (fun (W : World) (h : Grows w W) => (HV.out.grow h).at_ hlt)
      obtain ⟨ws', hws'⟩ : ∃ ws', wordsOf (vs.take (k + 1)) = ws' := ⟨_, rfl⟩
      rw [hws'] at HTK
      have HWP := hidden hws'
      clear hws'
      generalize wordsOf (vs.take k) = ws at *
      obtain ⟨A2, c2, rfl⟩ := own_sliceS hown
      have HOWN := hidden hown
      have HB := hidden hb
      have HIS := hidden (show IsS wr (.slice A2 ws.length c2) ws from Reads.of_own hown)
      obtain ⟨s, hs⟩ : ∃ s, s = vs[k] := ⟨_, rfl⟩
      rw [← hs] at HTK HS
      obtain ⟨wo, rfl⟩ : ∃ wo : World, wo = wr := ⟨_, rfl⟩
      clear hown hb hs
      go_wp2_with fail
      go_loopw [6] (fun i wr => RB2Rel wo ws s i wr) (fun i _ => (intOf i).toNat)
      case atStart => exact ⟨ws.length, Nat.le_refl _, rfl, fun j h1 h2 => by omega, Below.refl _ _⟩
      case round =>
        obtain ⟨a, ha, rfl, hgt, hb2⟩ := hrel
        have HGT := hidden hgt
        have HB2 := hidden hb2
        have HBW := hidden (HB.out.trans (hb2.mono HB.out.size))
        clear hgt hb2
        obtain ⟨b, f, rfl, hcs⟩ := HS.out _ HBW.out
        by_cases ha0 : a = 0
        · subst ha0
          have HSP := hidden (show ws' = shiftS ws 0 s by
            rw [HTK.out]
            exact insW_split 0 (by omega) (fun j _ h => by omega) (fun j h1 h2 => HGT.out j h1 h2))
          go_wp2_with fail
          go_quiet (fail)
          go_wp2_with fail
          go_quiet (fail)
          have hdw : ∀ d, Grows wr { wr with drawn := d } := fun d => draws_below (Below.refl _ _) d
          go_wp2_with ((at_builtin; go_loud (refine wpList_append_s rfl _ _ rfl _ ws (by rfl) w.heap.size (own_growS (own_growS HOWN.out HB2.out) (hdw _)) w (HBW.out.trans ((hdw _).mono HBW.out.size)) (by have := HBW.out.size; exact this) [] _ rfl (by rfl) (by omega) ?_); intro v3 w3 hown3 hb3; rw [List.length_append, List.length_singleton, ← shiftS_end] at hown3; have HO3 := hidden hown3; have HB3 := hidden hb3; clear hown3 hb3; obtain ⟨g3, c3, hv3⟩ : ∃ g3 c3, v3 = .slice (some ⟨g3, 0, none⟩) (ws.length + 1) c3 := own_some HO3.out; subst hv3))
          go_loopw [7] (fun i wr => RB3Rel w.heap.size w ws 0 (.slice (some ⟨g3, 0, none⟩) (ws.length + 1) c3) i wr) (fun i _ => (intOf i).toNat)
          case atStart => exact ⟨ws.length, [], by omega, Nat.le_refl _, by go_num, HO3.out, HB3.out⟩
          case round =>
            obtain ⟨q, y, haq, hq, rfl, hown4, hb4⟩ := hrel
            have HO4 := hidden hown4
            have HB4 := hidden hb4
            by_cases hqa : 0 < q
            · obtain ⟨Q, hQ⟩ : ∃ Q, q = Q + 1 := ⟨q - 1, by omega⟩
              have HQ := hidden hQ
              have hQ1 : (q : Int) - 1 = (Q : Int) := by omega
              have hQ2 : IntKind.i64.wrap (Q : Int) = (Q : Int) := by rw [IntKind.wrap_i64]; omega
              have hQl : Q < ws.length := by omega
              have c1 := hown4.cellAt Q (by omega)
              rw [scells_getq (shiftS_get hq (by omega) y)] at c1
              have hql : q < (shiftS ws q y).length := by rw [shiftS_length hq]; omega
              have c2 := hown4.cellAt q (by omega)
              rw [scells_get hql] at c2
              have fr := hown4.frozenAt q
              have hst := (hown4.stored q (.string (strOf ws[Q]))).1
              rw [scells_set, shiftS_set hq] at hst
              have HST := hidden (show _ from (show (shiftS ws q ws[Q]) = shiftS ws Q ws[Q] by have := shiftS_step hQl; rw [← hQ] at this; exact this) ▸ hst)
              have hgb := (hown4.lt g3 rfl).1
              have HBS := hidden (hb4.setCell (p := ⟨g3, q, none⟩) hgb (.string (strOf ws[Q])))
              generalize (shiftS ws q y)[q] = old at *
              obtain ⟨x, hx⟩ : ∃ x, x = ws[Q] := ⟨_, rfl⟩
              rw [← hx] at c1 HST HBS
              clear hown4 hb4 hQ hst hx hql
              go_wp2_with fail
              go_roundw
              case rel => exact ⟨Q, x, by have := HQ.out; omega, by omega, by go_num, HST.out, HBS.out⟩
              case measure => simp [intOf]; have := HQ.out; omega
            · have hqe : q = 0 := by omega
              obtain ⟨b9, f9, he9, hcs9⟩ := HS.out _ hb4
              injection he9 with he9
              injection he9 with e8 e9
              subst e8 e9
              have hql : q < (shiftS ws q y).length := by rw [shiftS_length hq]; omega
              have c2 := hown4.cellAt q (by omega)
              rw [scells_get hql] at c2
              have fr := hown4.frozenAt q
              have hst := (hown4.stored q (.string (strOf s))).1
              rw [scells_set, shiftS_set hq] at hst
              have HST := hidden hst
              have hgb := (hown4.lt g3 rfl).1
              have HBS := hidden (hb4.setCell (p := ⟨g3, q, none⟩) hgb (.string (strOf s)))
              generalize (shiftS ws q y)[q] = old at *
              clear hown4 hb4 hst hql hcs
              subst hqe
              go_wp2_with fail
              have hsh := shiftS_length hq s
              exact ⟨⟨k + 1, by omega, by go_num, by rw [HWP.out, HSP.out, hsh]; exact HST.out, HBS.out⟩, by simp [intOf]; omega⟩
        · obtain ⟨K, hK⟩ : ∃ K, a = K + 1 := ⟨a - 1, by omega⟩
          have HK := hidden hK
          have hK1 : (a : Int) - 1 = (K : Int) := by omega
          have hK2 : IntKind.i64.wrap (K : Int) = (K : Int) := by rw [IntKind.wrap_i64]; omega
          have hKl : K < ws.length := by omega
          have hda : decide (0 < a) = true := by simp; omega
          obtain ⟨b2, f2, rfl, hck⟩ := (HIS.out.grow HB2.out).at_ hKl
          by_cases hlt2 : s < ws[K]
          · have hle := leS ws[K] s
            simp only [hlt2, decide_true, Bool.not_true] at hle
            have HGT2 := hidden (show ∀ j, (h : j < ws.length) → K ≤ j → s < ws[j] from fun j h hj => by
              rcases Nat.lt_or_ge j a with q | q
              · have e1 : j = K := by omega
                subst e1
                exact hlt2
              · exact HGT.out j h q)
            generalize hx : strOf ws[K] = x at *
            generalize hy : strOf s = sy at *
            clear hlt2 hK ha0 hx hy
            go_wp2_with fail
            go_quiet (fail)
            go_wp2_with fail
            go_roundw
            case rel => exact ⟨K, by omega, by go_num, HGT2.out, draws_below HB2.out _⟩
            case measure => simp [intOf]; have := HK.out; omega
          · have hle := leS ws[K] s
            have heq := eqS ws[K] s
            simp only [hlt2, decide_false, Bool.not_false] at hle
            by_cases he : ws[K] = s
            · have HSM := hidden (show ws' = ws by rw [HTK.out]; exact insW_same HR.out (he ▸ List.getElem_mem hKl))
              simp only [he, decide_true] at heq
              rw [he] at hck hle
              generalize hy : strOf s = sy at *
              clear hlt2 hK ha0 he hy
              go_wp2_with fail
              go_quiet (fail)
              go_wp2_with fail
              go_quiet (fail)
              go_wp2_with fail
              refine ⟨⟨k + 1, by omega, by go_num, by rw [HWP.out, HSM.out]; exact own_growS HOWN.out (draws_below HB2.out _), draws_below HBW.out _⟩, by simp [intOf]; omega⟩
            · have hls : ws[K] < s := by
                rcases slt_tri ws[K] s with q | q | q
                · exact q
                · exact absurd q he
                · exact absurd q hlt2
              have HSP := hidden (show ws' = shiftS ws a s by
                rw [HTK.out]
                refine insW_split a ha (fun j h1 h2 => ?_) (fun j h1 h2 => HGT.out j h1 h2)
                rcases Nat.lt_or_ge j K with q | q
                · exact slt_trans (rising_get HR.out h1 hKl q) hls
                · have e1 : j = K := by omega
                  subst e1
                  exact hls)
              simp only [he, decide_false] at heq
              have hle2 := lessS ws[K] s
              simp only [hls, decide_true] at hle2
              generalize hx : strOf ws[K] = x at *
              clear hlt2 hK ha0 he hls hle hx
              go_wp2_with fail
              go_quiet (fail)
              go_wp2_with fail
              go_quiet (fail)
              have hdw : ∀ d, Grows wr { wr with drawn := d } := fun d => draws_below (Below.refl _ _) d
              go_wp2_with ((at_builtin; go_loud (refine wpList_append_s rfl _ _ rfl _ ws (by rfl) w.heap.size (own_growS (own_growS HOWN.out HB2.out) (hdw _)) w (HBW.out.trans ((hdw _).mono HBW.out.size)) (by have := HBW.out.size; exact this) [] _ rfl (by rfl) (by omega) ?_); intro v3 w3 hown3 hb3; rw [List.length_append, List.length_singleton, ← shiftS_end] at hown3; have HO3 := hidden hown3; have HB3 := hidden hb3; clear hown3 hb3; obtain ⟨g3, c3, hv3⟩ : ∃ g3 c3, v3 = .slice (some ⟨g3, 0, none⟩) (ws.length + 1) c3 := own_some HO3.out; subst hv3))
              go_loopw [7] (fun i wr => RB3Rel w.heap.size w ws a (.slice (some ⟨g3, 0, none⟩) (ws.length + 1) c3) i wr) (fun i _ => (intOf i).toNat)
              case atStart => exact ⟨ws.length, [], by omega, Nat.le_refl _, by go_num, HO3.out, HB3.out⟩
              case round =>
                obtain ⟨q, y, haq, hq, rfl, hown4, hb4⟩ := hrel
                have HO4 := hidden hown4
                have HB4 := hidden hb4
                by_cases hqa : a < q
                · obtain ⟨Q, hQ⟩ : ∃ Q, q = Q + 1 := ⟨q - 1, by omega⟩
                  have HQ := hidden hQ
                  have hQ1 : (q : Int) - 1 = (Q : Int) := by omega
                  have hQ2 : IntKind.i64.wrap (Q : Int) = (Q : Int) := by rw [IntKind.wrap_i64]; omega
                  have hQl : Q < ws.length := by omega
                  have c1 := hown4.cellAt Q (by omega)
                  rw [scells_getq (shiftS_get hq (by omega) y)] at c1
                  have hql : q < (shiftS ws q y).length := by rw [shiftS_length hq]; omega
                  have c2 := hown4.cellAt q (by omega)
                  rw [scells_get hql] at c2
                  have fr := hown4.frozenAt q
                  have hst := (hown4.stored q (.string (strOf ws[Q]))).1
                  rw [scells_set, shiftS_set hq] at hst
                  have HST := hidden (show _ from (show (shiftS ws q ws[Q]) = shiftS ws Q ws[Q] by have := shiftS_step hQl; rw [← hQ] at this; exact this) ▸ hst)
                  have hgb := (hown4.lt g3 rfl).1
                  have HBS := hidden (hb4.setCell (p := ⟨g3, q, none⟩) hgb (.string (strOf ws[Q])))
                  generalize (shiftS ws q y)[q] = old at *
                  obtain ⟨x, hx⟩ : ∃ x, x = ws[Q] := ⟨_, rfl⟩
                  rw [← hx] at c1 HST HBS
                  clear hown4 hb4 hQ hst hx hql
                  go_wp2_with fail
                  go_roundw
                  case rel => exact ⟨Q, x, by have := HQ.out; omega, by omega, by go_num, HST.out, HBS.out⟩
                  case measure => simp [intOf]; have := HQ.out; omega
                · have hqe : q = a := by omega
                  obtain ⟨b9, f9, he9, hcs9⟩ := HS.out _ hb4
                  injection he9 with he9
                  injection he9 with e8 e9
                  subst e8 e9
                  have hql : q < (shiftS ws q y).length := by rw [shiftS_length hq]; omega
                  have c2 := hown4.cellAt q (by omega)
                  rw [scells_get hql] at c2
                  have fr := hown4.frozenAt q
                  have hst := (hown4.stored q (.string (strOf s))).1
                  rw [scells_set, shiftS_set hq] at hst
                  have HST := hidden hst
                  have hgb := (hown4.lt g3 rfl).1
                  have HBS := hidden (hb4.setCell (p := ⟨g3, q, none⟩) hgb (.string (strOf s)))
                  generalize (shiftS ws q y)[q] = old at *
                  clear hown4 hb4 hst hql hcs
                  subst hqe
                  go_wp2_with fail
                  have hsh := shiftS_length hq s
                  exact ⟨⟨k + 1, by omega, by go_num, by rw [HWP.out, HSP.out, hsh]; exact HST.out, HBS.out⟩, by simp [intOf]; omega⟩
    · have hke : k = vs.length := by omega
      rw [hke, List.take_length] at hown
      obtain ⟨ws, hws⟩ : ∃ ws, ws = wordsOf vs := ⟨_, rfl⟩
      rw [← hws] at hown
      have HWS := hidden hws
      obtain ⟨A2, c2, rfl⟩ := own_sliceS hown
      have HIS := hidden (show IsS wr (.slice A2 ws.length c2) ws from Reads.of_own hown)
      have HB := hidden hb
      have HWL := hidden (show ws.length ≤ 1000000 from hws ▸ Nat.le_trans (wordsOf_length vs) hl)
      obtain ⟨cs, hcs⟩ : ∃ cs, cs = codesW ws vs := ⟨_, rfl⟩
      have HCS := hidden hcs
      have HCL := hidden (show cs.length = vs.length by rw [hcs]; simp [codesW])
      have HMW := hidden (show ∀ s ∈ vs, s ∈ ws from hws ▸ fun s hs => mem_wordsOf.2 hs)
      obtain ⟨wo, rfl⟩ : ∃ wo : World, wo = wr := ⟨_, rfl⟩
      clear hown hb hke hws hcs
      go_wp2_with fail
      go_loopw [8, 9] (fun u i wr => RB4Rel wo cs u i wr) (fun _ i _ => vs.length - (intOf i).toNat)
      case atStart => exact ⟨0, by omega, rfl, ⟨rfl, .inl ⟨rfl, rfl⟩⟩, Below.refl _ _⟩
      case round =>
        obtain ⟨j, hj, rfl, hown, hb⟩ := hrel
        have HO := hidden hown
        have HB1 := hidden hb
        have HBW := hidden (HB.out.trans (hb.mono HB.out.size))
        rw [HCL.out] at hj
        clear hown hb
        by_cases hlt2 : j < vs.length
        · obtain ⟨b, f, rfl, hck⟩ := (HV.out.grow HBW.out).at_ hlt2
          have hjc : j < cs.length := by rw [HCL.out]; exact hlt2
          have HTK := hidden (List.take_succ_eq_append_getElem hjc)
          have HLN := hidden (show (cs.take j).length + 1 ≤ 1000000000000 by rw [List.length_take]; omega)
          have HFD := hidden (rfind10_any (.slice A2 ws.length c2) ws vs[j] wr (HIS.out.grow HB1.out) (by have := HWL.out; omega))
          have HFV := hidden (show findV ws vs[j] = (cs[j], true) by
            rw [findV_in (HMW.out _ (List.getElem_mem hlt2))]
            have := HCS.out
            subst this
            simp [codesW])
          generalize cs[j] = ck at *
          generalize vs[j] = s at *
          clear hjc
          go_wp2_with fail
          refine HFD.out.mono ?_
          rintro e w2 ⟨rfl, g2⟩
          rw [HFV.out]
          have HO2 := hidden (own_growS HO.out g2)
          have HB2 := hidden (HB1.out.trans (g2.mono HB1.out.size))
          have hsz := HB2.out.size
          clear g2 hck
          go_wp2_with ((at_builtin; go_loud (refine wpList_append_n rfl _ _ rfl _ (cs.take j) (by rfl) wo.heap.size HO2.out wo HB2.out hsz ck (by rfl) HLN.out ?_); intro v3 w3 hown3 hb3; rw [← HTK.out] at hown3; have HO3 := hidden hown3; have HB3 := hidden hb3; clear hown3 hb3))
          first
            | (go_roundw; (case rel => exact ⟨j + 1, by rw [HCL.out]; omega, by go_num, HO3.out, HB3.out⟩); (case measure => simp [intOf]; omega))
            | exact ⟨⟨j + 1, by rw [HCL.out]; omega, by go_num, HO3.out, HB3.out⟩, by simp [intOf]; omega⟩
        · have hje : j = cs.length := by rw [HCL.out]; omega
          rw [hje, List.take_length] at HO
          clear hje
          go_wp2_with fail
          go_ret2
          refine ⟨_, _, rfl, HBW.out, ?_, ?_⟩
          · rw [← HWS.out]; exact HIS.out.grow HB1.out
          · rw [← HWS.out, ← HCS.out]; exact Reads.of_own HO.out
end Go.Proofs.Ytgmjoghgmcjebaa
/-
  Range of a comparison: the package's and the reference's. Nothing that was there is changed.
-/
namespace Go.Proofs.Ytgmjoghgmcjebaa
open Go.RowKit
set_option linter.unusedVariables false
set_option linter.unusedSimpArgs false

def rangeR (ws : List Str) (op : Int) (s : Str) (w : World) (e : Ending) (w' : World) : Prop := e = .returned (.tuple #[.int .i64 ((rangeV ws op s).1 : Int), .int .i64 ((rangeV ws op s).2 : Int)]) ∧ Grows w w'
theorem range_cases (op : Int) : op = 1 ∨ op = 3 ∨ op = 4 ∨ op = 5 ∨ op = 6 ∨ (op ≠ 1 ∧ op ≠ 3 ∧ op ≠ 4 ∧ op ≠ 5 ∧ op ≠ 6) := by omega
set_option maxHeartbeats 2000000 in
theorem range10_any (v : Value) (ws : List Str) (op : Int) (s : Str) (w : World) (hv : IsS w v ws) (hr : RisingL ws) (hl : ws.length ≤ 4611686018427387903) :
    Calls Try.prog 17 #[v, .int .i64 op, .string (strOf s)] w (rangeR ws op s w) := by
  have HS := hidden (lib_search v ws s w hv hr hl)
  have hlo := loW_le ws s
  have hhi := hiW_le ws s
  obtain ⟨f, hf⟩ : ∃ f, f = decide (s ∈ ws) := ⟨_, rfl⟩
  rw [← hf] at HS
  have HHI := hidden (show (if f then loW ws s + 1 else loW ws s) = hiW ws s by
    rw [hf]
    by_cases hm : s ∈ ws
    · rw [if_pos (by simpa using hm), (loW_in hr hm).2]
    · rw [if_neg (by simpa using hm), hiW_out hm])
  have HRV := hidden (show rangeV ws op s = if op = 1 then (loW ws s, hiW ws s) else if op = 3 then (0, loW ws s) else if op = 4 then (0, hiW ws s) else if op = 5 then (hiW ws s, ws.length) else if op = 6 then (loW ws s, ws.length) else (0, 0) from rfl)
  obtain ⟨A, c, rfl⟩ := hv.slice_
  generalize loW ws s = lo at *
  generalize hiW ws s = hi at *
  clear hv hr hf
  cases f
  · have hh : Hid (lo = hi) := HHI.out
    go_enter Try.func17, Try.ntmps17
    go_wp2_with fail
    refine HS.out.mono ?_
    rintro e w2 ⟨rfl, g⟩
    have HG := hidden g
    clear g
    rcases range_cases op with rfl | rfl | rfl | rfl | rfl | ⟨n1, n3, n4, n5, n6⟩
    all_goals go_wp2_with fail
    all_goals go_ret2
    all_goals refine ⟨?_, HG.out⟩
    all_goals have h1 := HRV.out
    all_goals have h2 := hh.out
    all_goals subst h2
    all_goals simp only [if_true, if_false, reduceIte, *] at h1
    all_goals try simp at h1
    all_goals rw [h1]
    all_goals rfl
  · have hh : Hid (lo + 1 = hi) := HHI.out
    go_enter Try.func17, Try.ntmps17
    go_wp2_with fail
    refine HS.out.mono ?_
    rintro e w2 ⟨rfl, g⟩
    have HG := hidden g
    clear g
    have h9 := hh.out
    rcases range_cases op with rfl | rfl | rfl | rfl | rfl | ⟨n1, n3, n4, n5, n6⟩
    all_goals go_wp2_with fail
    all_goals go_ret2
    all_goals refine ⟨?_, HG.out⟩
    all_goals have h1 := HRV.out
    all_goals have h2 := hh.out
    all_goals subst h2
    all_goals simp only [if_true, if_false, reduceIte, *] at h1
    all_goals try simp at h1
    all_goals rw [h1]
    all_goals rfl
def RRangeRel (w : World) (ws : List Str) (s : Str) (lo hi i : Value) (wr : World) : Prop :=
  ∃ k : Nat, k ≤ ws.length ∧ i = .int .i64 (k : Int) ∧ lo = .int .i64 (loW (ws.take k) s : Int) ∧ hi = .int .i64 (hiW (ws.take k) s : Int) ∧ w = wr
set_option maxHeartbeats 2000000 in
theorem rrange10_any (v : Value) (ws : List Str) (op : Int) (s : Str) (w : World) (hv : IsS w v ws) (hl : ws.length ≤ 4611686018427387903) :
    Calls Try.prog 18 #[v, .int .i64 op, .string (strOf s)] w (rangeR ws op s w) := by
  obtain ⟨A, c, rfl⟩ := hv.slice_
  have HV := hidden hv
  clear hv
  go_enter Try.func18, Try.ntmps18
  go_wp2_with fail
  go_loopw [8, 9, 10] (fun lo hi i wr => RRangeRel w ws s lo hi i wr) (fun _ _ i _ => ws.length - (intOf i).toNat)
  case atStart => exact ⟨0, by omega, rfl, by simp [loW], by simp [hiW], rfl⟩
  case round =>
    obtain ⟨k, hk, rfl, rfl, rfl, rfl⟩ := hrel
    have b1 := loW_le (ws.take k) s
    have b2 := hiW_le (ws.take k) s
    rw [List.length_take] at b1 b2
    by_cases hlt : k < ws.length
    · obtain ⟨b, f, rfl, hck⟩ := HV.out.at_ hlt
      have HL : Hid (loW (ws.take (k + 1)) s = loW (ws.take k) s + if decide (ws[k] < s) = true then 1 else 0) := count_take hlt
      have HH : Hid (hiW (ws.take (k + 1)) s = hiW (ws.take k) s + if (!decide (s < ws[k])) = true then 1 else 0) := count_take hlt
      have hle := eqS ws[k] s
      have hls := lessS ws[k] s
      generalize loW (ws.take k) s = lo at *
      generalize hiW (ws.take k) s = hi at *
      by_cases q1 : ws[k] < s
      · have q2 := slt_asymm q1
        have q3 := slt_ne q1
        simp only [q1, q2, q3, decide_true, decide_false, Bool.not_false, if_true] at HL HH hle hls
        clear q1 q2 q3
        generalize hS' : strOf ws[k] = s' at *
        clear hS'
        have b3 : lo < 4611686018427387903 := by omega
        have b4 : hi < 4611686018427387903 := by omega
        clear b1 b2
        go_wp2_with fail
        go_roundw
        case rel => exact ⟨k + 1, by omega, by go_num, by rw [HL.out]; go_num, by rw [HH.out]; go_num, rfl⟩
        case measure => simp [intOf]; omega
      · by_cases q2 : s < ws[k]
        · have q3 : ¬ ws[k] = s := (slt_ne q2).symm
          simp only [q1, q2, q3, decide_true, decide_false, Bool.not_true, if_false, Bool.false_eq_true] at HL HH hle hls
          clear q1 q2 q3
          generalize hS' : strOf ws[k] = s' at *
          clear hS'
          clear b1 b2
          go_wp2_with fail
          go_roundw
          case rel => exact ⟨k + 1, by omega, by go_num, by rw [HL.out]; rfl, by rw [HH.out]; rfl, rfl⟩
          case measure => simp [intOf]; omega
        · have q3 : ws[k] = s := by
            rcases slt_tri ws[k] s with q | q | q
            · exact absurd q q1
            · exact q
            · exact absurd q q2
          rw [q3] at HL HH hle hls hck
          simp only [slt_irrefl, decide_true, decide_false, Bool.not_false, if_true, if_false, Bool.false_eq_true] at HL HH hle hls
          clear q1 q2 q3
          have b4 : hi < 4611686018427387903 := by omega
          clear b1 b2
          go_wp2_with fail
          go_roundw
          case rel => exact ⟨k + 1, by omega, by go_num, by rw [HL.out]; rfl, by rw [HH.out]; go_num, rfl⟩
          case measure => simp [intOf]; omega
    · have hke : k = ws.length := by omega
      have HRV := hidden (show rangeV ws op s = if op = 1 then (loW ws s, hiW ws s) else if op = 3 then (0, loW ws s) else if op = 4 then (0, hiW ws s) else if op = 5 then (hiW ws s, ws.length) else if op = 6 then (loW ws s, ws.length) else (0, 0) from rfl)
      rw [hke, List.take_length] at *
      clear hke
      generalize loW ws s = lo at *
      generalize hiW ws s = hi at *
      rcases range_cases op with rfl | rfl | rfl | rfl | rfl | ⟨n1, n3, n4, n5, n6⟩
      all_goals go_wp2_with fail
      all_goals go_ret2
      all_goals refine ⟨?_, Below.refl _ _⟩
      all_goals have h1 := HRV.out
      all_goals simp only [if_true, if_false, reduceIte, *] at h1
      all_goals try simp at h1
      all_goals rw [h1]
      all_goals rfl
end Go.Proofs.Ytgmjoghgmcjebaa
