/-
  Texts that the claims of this seat share, put together (SqM, Su2, SqP, SqQ, Su3). No condition.
-/
import Derived.Test.YtoaklmceejeblaaGreatSqL
import Derived.Test.YtoaklmceejeblaaGreatM11
import Derived.Test.YtoaklmceejeblaaGreatSqLay
import Derived.Test.YtoaklmceejeblaaGreatWidth
import Derived.Test.YtoaklmceejeblaaGreatSu1
import Derived.Test.YtoaklmceejeblaaGreatM19
import Derived.Test.YtoaklmceejeblaaGreatSuC
/-
  Shaken: what the claims of this seat need of this text. No condition.
-/
namespace Go.Proofs.YtoaklmceejeblaaGreat
set_option maxRecDepth 8000
open Go.RowKit
set_option linter.unusedVariables false
set_option linter.unusedSimpArgs false
abbrev KVal (K : Int) : Type := { x : Val // x.k = K ∧ okX x }
def encK {K : Int} (x : KVal K) : List Value := x.1.cells
theorem vcells_at {l : List Val} {t : Nat} {y : Val} (h : l[t / 3]? = some y) : (vcells l)[t]? = y.cells[t % 3]? := by
  obtain ⟨h1, h2, h3⟩ := vcells_get h
  have ht : t = t / 3 * 3 + t % 3 := by omega
  have hm : t % 3 = 0 ∨ t % 3 = 1 ∨ t % 3 = 2 := by omega
  generalize t / 3 = q at *
  generalize t % 3 = r at *
  subst ht
  rcases hm with rfl | rfl | rfl
  · exact h1
  · exact h2
  · exact h3
theorem flat_vcells {K : Int} [Inhabited (KVal K)] (d : Array (KVal K)) : (Go.Sort.flatK encK 3 d).toList = vcells (d.toList.map (·.1)) := by
  apply List.ext_getElem?
  intro t
  by_cases ht : t < d.size * 3
  · have hq : t / 3 < d.size := by omega
    have e1 : (d.toList.map (·.1))[t / 3]? = some d[t / 3]!.1 := by
      rw [List.getElem?_map, getElem!_pos d _ hq]
      simp [hq]
    rw [vcells_at e1, Array.getElem?_toList]
    have hm : t % 3 < d[t / 3]!.1.cells.length := by show t % 3 < 3; omega
    rw [List.getElem?_eq_getElem hm]
    have hs : t < (Go.Sort.flatK encK 3 d).size := by rw [Go.Sort.size_flatK]; exact ht
    rw [Array.getElem?_eq_getElem hs]
    have := Go.Sort.get_flatK encK 3 d t ht
    rw [getElem!_pos _ t hs] at this
    rw [this]
    unfold encK
    rw [getElem!_pos d[t / 3]!.1.cells (t % 3) hm]
  · have e1 : (Go.Sort.flatK encK 3 d).toList.length ≤ t := by rw [Array.length_toList, Go.Sort.size_flatK]; omega
    have e2 : (vcells (d.toList.map (·.1))).length ≤ t := by rw [vcells_length, List.length_map, Array.length_toList]; omega
    rw [List.getElem?_eq_none e1, List.getElem?_eq_none e2]
theorem holds_own {K : Int} [Inhabited (KVal K)] {w : World} {base g n cap : Nat} {d : Array (KVal K)} (h : w.ownsRow base 35 3 (.slice (some ⟨g, 0, none⟩) n cap) (d.toList.map (·.1)).length (vcells (d.toList.map (·.1)))) : Go.Sort.HoldsK encK 3 w g 0 d := by
  intro j hj
  rcases h.2 with ⟨h0, _⟩ | ⟨g', cap', cur, h1, _, hg, _, _, _, htake⟩
  · cases h0
  injection h1 with h1 _ _
  injection h1 with h1
  injection h1 with h1 _ _
  subst h1
  rw [← flat_vcells] at htake
  have hj' : j < d.size * 3 := by rwa [Go.Sort.size_flatK] at hj
  have e : cur[j]? = some (Go.Sort.flatK encK 3 d)[j]! := by
    have h2 : (cur.toList.take ((d.toList.map (·.1)).length * 3))[j]? = some (Go.Sort.flatK encK 3 d)[j]! := by
      rw [htake, Array.getElem?_toList, Array.getElem?_eq_getElem hj, getElem!_pos _ j hj]
    rw [List.getElem?_take, if_pos (by simp; omega), Array.getElem?_toList] at h2
    exact h2
  refine ⟨?_, ?_⟩
  · rw [Nat.zero_add]
    simp only [World.cell?, hg, id]
    simpa using e
  · rw [Nat.zero_add]
    simp [World.frozen?, hg]
theorem own_putF {w : World} {base g n cap size : Nat} {e : TypeId} {xs ys : List Value} (h : w.ownsRow base e size (.slice (some ⟨g, 0, none⟩) n cap) n xs) (hl : ys.length = xs.length) (m : Nat) (os : Array Obj) :
    (Go.Sort.grow (Go.Sort.putRow id (Go.Sort.ahead w m) g 0 ys.toArray) os).ownsRow base e size (.slice (some ⟨g, 0, none⟩) n cap) n ys ∧ Only (fun i => i = g) w (Go.Sort.grow (Go.Sort.putRow id (Go.Sort.ahead w m) g 0 ys.toArray) os) := by
  have hlen := h.1
  rcases h.2 with ⟨h0, _⟩ | ⟨g', cap', cur, h1, hb, hg, hn, hc, hs, htake⟩
  · cases h0
  injection h1 with h1 _ h3
  injection h1 with h1
  injection h1 with h1 _ _
  subst h1 h3
  have hlt : g < w.heap.size := (Array.getElem?_eq_some_iff.1 hg).1
  have hk : ∀ k, k < w.heap.size → (Go.Sort.grow (Go.Sort.putRow id (Go.Sort.ahead w m) g 0 ys.toArray) os).heap[k]? = if k = g then some (.cells (Go.Sort.putCells id 0 ys.toArray cur) e (0, 0)) else w.heap[k]? := by
    intro k hk
    simp only [Go.Sort.grow, Go.Sort.putRow, Go.Sort.mapBlock, Go.Sort.ahead]
    rw [Array.getElem?_append_left (by simpa using hk), Array.getElem?_modify]
    by_cases hkg : k = g
    · subst hkg
      rw [if_pos rfl, if_pos rfl, hg]
      rfl
    · rw [if_neg (fun e => hkg e.symm), if_neg hkg]
  refine ⟨⟨hl.trans hlen, .inr ⟨g, cap, _, rfl, hb, by rw [hk g hlt, if_pos rfl], hn, hc, ?_, ?_⟩⟩, ?_⟩
  · simp [Go.Sort.putCells, hs]
  · have hle : n * size ≤ cur.size := by rw [hs]; exact Nat.mul_le_mul_right _ hn
    apply List.ext_getElem?
    intro j
    rw [List.getElem?_take]
    by_cases hj : j < n * size
    · rw [if_pos hj, Array.getElem?_toList]
      have hjc : j < cur.size := by omega
      have hjy : j < ys.length := by omega
      simp only [Go.Sort.putCells, Array.getElem?_mapIdx, Array.getElem?_eq_getElem hjc, Option.map_some]
      rw [if_pos ⟨Nat.zero_le _, by simp; omega⟩]
      simp [hjy]
    · rw [if_neg hj, List.getElem?_eq_none (by omega)]
  · refine ⟨rfl, rfl, rfl, by simp [Go.Sort.grow, Go.Sort.putRow, Go.Sort.mapBlock, Go.Sort.ahead], fun k h1 h2 => ?_⟩
    rw [hk k h1, if_neg h2]
theorem cmpLays_K {K : Int} [Inhabited (KVal K)] (blk size : Nat) (w : World) : CmpLays Tryz.prog 42 #[] (encK (K := K)) 3 (fun x y => lcX x.1 y.1) blk 0 size w := by
  intro m os dk _ x y
  refine (lcompareD_any x.1.k x.1.n y.1.k y.1.n x.1.t y.1.t _).mono ?_
  rintro e w' ⟨rfl, q, os', rfl⟩
  exact ⟨rfl, q, os', rfl⟩
theorem swo_K {K : Int} : Go.Sort.SWO (ltOf fun x y : KVal K => lcX x.1 y.1) := by
  have e : ∀ x y : KVal K, lcX x.1 y.1 = cmpX x.1 y.1 := fun x y => lcX_cmpX x.2.2 y.2.2
  have hk : ∀ x y : KVal K, x.1.k = y.1.k := fun x y => x.2.1.trans y.2.1.symm
  refine ⟨fun x => ?_, fun x y z h1 h2 => ?_, fun x y z h1 h2 => ?_⟩
  · show decide (lcX x.1 x.1 < 0) = false
    rw [e, cmpX_refl]
    rfl
  · have h1 : cmpX x.1 y.1 < 0 := by rw [← e]; exact of_decide_eq_true h1
    have h2 : cmpX y.1 z.1 < 0 := by rw [← e]; exact of_decide_eq_true h2
    show decide (lcX x.1 z.1 < 0) = true
    rw [e]
    exact decide_eq_true (cmpX_lt_trans (hk x y) (hk y z) x.2.2 y.2.2 z.2.2 h1 (by omega))
  · have h1 : ¬ cmpX x.1 y.1 < 0 := by rw [← e]; exact of_decide_eq_false h1
    have h2 : ¬ cmpX y.1 z.1 < 0 := by rw [← e]; exact of_decide_eq_false h2
    show decide (lcX x.1 z.1 < 0) = false
    rw [e]
    have a1 := cmpX_anti (hk x y)
    have a2 := cmpX_anti (hk y z)
    have a3 := cmpX_anti (hk x z)
    have := cmpX_trans (hk z y) (hk y x) (by omega : cmpX z.1 y.1 ≤ 0) (by omega : cmpX y.1 x.1 ≤ 0)
    exact decide_eq_false (by omega)
theorem ulen_any (x : Int) (w : World) (h0 : 0 ≤ x) (h1 : x ≤ 18446744073709551615) : Calls Tryz.prog 105 #[.int .u64 x] w fun e w' => e = .returned (.int .i64 (Lib.bitLen x.toNat : Int)) ∧ w' = w := by
  have HL := hidden (fun W => len64_any x W h0 h1)
  go_enter Tryz.func105, Tryz.ntmps105
  go_wp2_with (go_at_call 150; refine (HL.out _).mono ?_; rintro e w' ⟨rfl, rfl⟩)
  go_ret
  exact ⟨rfl, rfl⟩
set_option maxHeartbeats 2000000 in
theorem qins_none (p : Option Addr) (cap : Nat) (w : World) : Calls Tryz.prog 141 #[.slice p 0 cap, .int .i64 0, .int .i64 0, .func (.func 42) #[] #[]] w fun e w' => e = .returned (.tuple #[]) ∧ w' = w := by
  go_enter Tryz.func141, Tryz.ntmps141
  go_wp2
  refine wp_loop_rounds 1 ?_
  rw [rounds_succ]
  go_wp2
  go_end0
  exact ⟨rfl, rfl⟩
set_option maxHeartbeats 2000000 in
theorem qpdq_none (p : Option Addr) (cap : Nat) (lim : Int) (w : World) : Calls Tryz.prog 104 #[.slice p 0 cap, .int .i64 0, .int .i64 0, .int .i64 lim, .func (.func 42) #[] #[]] w fun e w' => e = .returned (.tuple #[]) ∧ w' = w := by
  have HI := hidden (fun W => qins_none p cap W)
  go_enter Tryz.func104, Tryz.ntmps104
  go_wp2
  refine wp_loop_rounds 1 ?_
  rw [rounds_succ]
  go_wp2_with (go_at_call 141; refine (HI.out _).mono ?_; rintro e w' ⟨rfl, rfl⟩)
  (try simp only [Exit.inBlock, Exit.then]); refine bodyPost_ret (results_none rfl _ _ _) rfl ?_
  exact ⟨rfl, rfl⟩
set_option maxHeartbeats 2000000 in
theorem qsort_none (p : Option Addr) (cap : Nat) (w : World) : Calls Tryz.prog 41 #[.slice p 0 cap, .func (.func 42) #[] #[]] w fun e w' => e = .returned (.tuple #[]) ∧ w' = w := by
  have HP := hidden (fun lim W => qpdq_none p cap lim W)
  have HL := hidden (fun W => ulen_any 0 W (by omega) (by omega))
  go_enter Tryz.func41, Tryz.ntmps41
  go_wp2_with (first | (go_at_call 105; refine (HL.out _).mono ?_; rintro e w' ⟨rfl, rfl⟩) | (go_at_call 104; refine (HP.out _ _).mono ?_; rintro e w' ⟨rfl, rfl⟩))
  go_end0
  exact ⟨rfl, rfl⟩
set_option maxHeartbeats 2000000 in
theorem qsortFunc_any {K : Int} (l : List Val) (hk : oneKd K l) (hl : l.length ≤ 1000000000) (base : Nat) (v : Value) (w : World) (hown : w.ownsRow base 35 3 v l.length (vcells l)) :
    Calls Tryz.prog 41 #[v, .func (.func 42) #[] #[]] w fun e w' => e = .returned (.tuple #[]) ∧ ∃ l' : List Val, l'.Perm l ∧ upV l' ∧ w'.ownsRow base 35 3 v l'.length (vcells l') ∧ Only (fun i => v.ownBlock = some i) w w' := by
  rcases Nat.eq_zero_or_pos l.length with h0 | h0
  · have hnil : l = [] := List.eq_nil_of_length_eq_zero h0
    subst hnil
    have hv : ∃ p cap, v = .slice p 0 cap := by
      rcases hown.2 with ⟨rfl, _⟩ | ⟨g, cap, cur, rfl, _⟩
      · exact ⟨_, _, rfl⟩
      · exact ⟨_, _, rfl⟩
    obtain ⟨p, cap, rfl⟩ := hv
    refine (qsort_none p cap w).mono ?_
    rintro e w' ⟨rfl, rfl⟩
    exact ⟨rfl, [], List.Perm.refl _, List.Pairwise.nil, hown, Only.refl _ _⟩
  · rcases id hown.2 with ⟨_, hz⟩ | ⟨g, cap, cur, rfl, hb, hg, hn, hc, hs, htake⟩
    · omega
    have hlt : g < w.heap.size := (Array.getElem?_eq_some_iff.1 hg).1
    have x0 : KVal K := ⟨l[0], hk _ (List.getElem_mem _)⟩
    haveI : Inhabited (KVal K) := ⟨x0⟩
    obtain ⟨d, hd⟩ : ∃ d : Array (KVal K), d.toList.map (·.1) = l := ⟨(l.attach.map fun x => (⟨x.1, hk x.1 x.2⟩ : KVal K)).toArray, by simp⟩
    have hds : d.size = l.length := by rw [← hd]; simp
    have hown' := hown
    rw [← hd] at hown'
    have hH := holds_own hown'
    have hc := AnyQ.slices_SortFunc Tryz.sortV 3 (fun w => by first | rfl | kernel_rfl) (fun w => by first | rfl | kernel_rfl) (encK (K := K)) (fun _ => rfl) (fun x u hu => by simp [encK, Val.cells] at hu; rcases hu with rfl | rfl | rfl <;> rfl) (fun x y => lcX x.1 y.1) swo_K 42 #[] g 0 cap d w (enters_of Tryz.func42 (by kernel_rfl) rfl) (cmpLays_K g d.size w) hH hlt (by omega)
    rw [hds] at hc
    refine hc.mono ?_
    rintro e w' ⟨rfl, d', n, os, hp, hsr, rfl⟩
    have hds' : d'.size = l.length := hp.1.trans hds
    have hperm : (d'.toList.map (·.1)).Perm l := by
      have h1 := hp.2.2
      rw [Array.extract_eq_self_of_le (by omega), Array.extract_eq_self_of_le (by omega)] at h1
      rw [← hd]
      exact h1.map _
    have hlen : (d'.toList.map (·.1)).length = l.length := hperm.length_eq
    have hx := own_putF (ys := vcells (d'.toList.map (·.1))) hown (by rw [vcells_length, vcells_length, hlen]) n os
    have he : sortWorldK encK 3 w g 0 n d' os = Go.Sort.grow (Go.Sort.putRow id (Go.Sort.ahead w n) g 0 (vcells (d'.toList.map (·.1))).toArray) os := by
      unfold sortWorldK Go.Sort.putRowK
      rw [← flat_vcells]
    rw [he]
    refine ⟨rfl, d'.toList.map (·.1), hperm, ?_, by rw [hlen]; exact hx.1, hx.2.mono (fun i hi => .inl (by rw [hi]; rfl))⟩
    unfold upV
    rw [List.pairwise_map, List.pairwise_iff_getElem]
    intro i j hi hj hij
    have h1 := hsr i j (Nat.zero_le _) hij (by simpa [hds'] using hj)
    unfold ltOf at h1
    have h1 := of_decide_eq_false h1
    rw [getElem!_pos d' j (by simpa using hj), getElem!_pos d' i (by simpa using hi)] at h1
    have h1 : ¬ lcX d'[j].1 d'[i].1 < 0 := h1
    rw [lcX_cmpX d'[j].2.2 d'[i].2.2] at h1
    have h2 := cmpX_anti (d'[i].2.1.trans d'[j].2.1.symm)
    simp only [Array.getElem_toList]
    omega
end Go.Proofs.YtoaklmceejeblaaGreat
/-
  Shaken: what the claims of this seat need of this text. No condition.
-/
namespace Go.Proofs.YtoaklmceejeblaaGreat
set_option maxRecDepth 8000
open Go.RowKit
set_option linter.unusedVariables false
set_option linter.unusedSimpArgs false
def SortU (N : Nat) : Prop := ∀ (l : List Nat) (base : Nat) (v : Value) (w : World), l.length ≤ N → w.ownsRow base 56 1 v l.length (wcells l) →
  Calls Tryz.prog 112 #[v] w fun e w' => e = .returned (.tuple #[]) ∧ ∃ l' : List Nat, l'.Perm l ∧ l'.Pairwise (· ≤ ·) ∧ w'.ownsRow base 56 1 v l'.length (wcells l') ∧ Only (fun i => v.ownBlock = some i) w w'
theorem putRow_enc {α : Type} [Inhabited α] (enc : α → Value) (W : World) (g o : Nat) (d : Array α) : Go.Sort.putRow enc W g o d = Go.Sort.putRow id W g o (d.map enc) := by
  unfold Go.Sort.putRow
  refine Go.Sort.mapBlock_congr W g _ _ fun c e fr _ => ?_
  unfold Go.Sort.putCells
  apply Array.ext
  · simp
  · intro i h1 h2
    simp only [Array.getElem_mapIdx, Array.size_map]
    split
    · rename_i hc
      rw [getElem!_pos d (i - o) (by omega), getElem!_pos (d.map enc) (i - o) (by rw [Array.size_map]; omega), Array.getElem_map]
      rfl
    · rfl
theorem holds_ownU {w : World} {base g n cap : Nat} {l : List Nat} (h : w.ownsRow base 56 1 (.slice (some ⟨g, 0, none⟩) n cap) l.length (wcells l)) : Go.Sort.Holds (Value.int .u64) w g 0 (l.map Int.ofNat).toArray := by
  intro j hj
  have hj' : j < l.length := by simpa using hj
  rcases h.2 with ⟨h0, _⟩ | ⟨g', cap', cur, h1, _, hg, _, _, _, htake⟩
  · cases h0
  injection h1 with h1 _ _
  injection h1 with h1
  injection h1 with h1 _ _
  subst h1
  have h2 : (cur.toList.take (l.length * 1))[j]? = some (.int .u64 (l[j] : Int)) := by rw [htake]; exact wcells_get hj'
  rw [List.getElem?_take, if_pos (by omega), Array.getElem?_toList] at h2
  have he : (l.map Int.ofNat).toArray[j]! = (l[j] : Int) := by rw [getElem!_pos _ j hj]; simp
  refine ⟨?_, ?_⟩
  · rw [Nat.zero_add, he]
    simp only [World.cell?, hg]
    simpa using h2
  · rw [Nat.zero_add]
    simp [World.frozen?, hg]
theorem sorted_ownU {w : World} {base g n cap : Nat} {l : List Nat} (h : w.ownsRow base 56 1 (.slice (some ⟨g, 0, none⟩) n cap) l.length (wcells l)) (d' : Array Int)
    (hp : Go.Sort.PermIn 0 l.length (l.map Int.ofNat).toArray d') (hs : Go.Sort.SortedIn Go.Sort.ltInt 0 l.length d') (m : Nat) (os : Array Obj) :
    ∃ l' : List Nat, l'.Perm l ∧ l'.Pairwise (· ≤ ·) ∧ (Go.Sort.grow (Go.Sort.putRow (Value.int .u64) (Go.Sort.ahead w m) g 0 d') os).ownsRow base 56 1 (.slice (some ⟨g, 0, none⟩) n cap) l'.length (wcells l') ∧ Only (fun i => i = g) w (Go.Sort.grow (Go.Sort.putRow (Value.int .u64) (Go.Sort.ahead w m) g 0 d') os) := by
  have hsz : d'.size = l.length := by rw [hp.1]; simp
  have hperm : d'.toList.Perm (l.map Int.ofNat) := by
    have h1 := hp.2.2
    rw [Array.extract_eq_self_of_le (by omega), Array.extract_eq_self_of_le (by simp)] at h1
    simpa using h1
  have hnn : ∀ x ∈ d'.toList, 0 ≤ x := fun x hx => by
    obtain ⟨y, _, rfl⟩ := List.mem_map.1 (hperm.mem_iff.1 hx)
    exact Int.natCast_nonneg y
  have hback : (d'.toList.map Int.toNat).map Int.ofNat = d'.toList := by
    rw [List.map_map]
    conv => rhs; rw [← List.map_id d'.toList]
    exact List.map_congr_left fun x hx => Int.toNat_of_nonneg (hnn x hx)
  have hn : n = l.length := by
    rcases h.2 with ⟨h0, _⟩ | ⟨g', cap', cur, h1, _⟩
    · cases h0
    · injection h1
  have hp2 : (d'.toList.map Int.toNat).Perm l := by
    have := hperm.map Int.toNat
    rw [List.map_map] at this
    have e : (Int.toNat ∘ Int.ofNat : Nat → Nat) = id := by funext x; rfl
    rwa [e, List.map_id] at this
  have hlen : (d'.toList.map Int.toNat).length = l.length := hp2.length_eq
  have hput : Go.Sort.putRow (Value.int .u64) (Go.Sort.ahead w m) g 0 d' = Go.Sort.putRow id (Go.Sort.ahead w m) g 0 (wcells (d'.toList.map Int.toNat)).toArray := by
    rw [putRow_enc]
    congr 1
    apply Array.ext'
    rw [Array.toList_map]
    unfold wcells
    conv => lhs; rw [← hback]
    rw [List.map_map]
    rfl
  subst hn
  have hx := own_putF (ys := wcells (d'.toList.map Int.toNat)) h (by rw [wcells_length, wcells_length, hlen]) m os
  rw [← hput] at hx
  refine ⟨d'.toList.map Int.toNat, hp2, ?_, by rw [hlen]; exact hx.1, hx.2⟩
  rw [List.pairwise_map, List.pairwise_iff_getElem]
  intro i j hi hj hij
  have h1 := hs i j (Nat.zero_le _) hij (by simpa [hsz] using hj)
  unfold Go.Sort.ltInt at h1
  have h1 := of_decide_eq_false h1
  rw [getElem!_pos d' j (by simpa using hj), getElem!_pos d' i (by simpa using hi)] at h1
  have a1 := hnn d'[i] (by simp)
  have a2 := hnn d'[j] (by simp)
  simp only [Array.getElem_toList]
  omega
end Go.Proofs.YtoaklmceejeblaaGreat
/-
  Shaken: what the claims of this seat need of this text. No condition.
-/
namespace Go.Proofs.YtoaklmceejeblaaGreat
set_option maxRecDepth 8000
open Go.RowKit
set_option linter.unusedVariables false
set_option linter.unusedSimpArgs false
theorem info_u64q : (Tryz.prog.info? 56).map (fun i => (i.zero, i.size, i.bytes)) = some (some (.int .u64 0), 1, 8) := by kernel_rfl
theorem own_cut {w : World} {base g n cap size : Nat} {e : TypeId} {xs : List Value} (h : w.ownsRow base e size (.slice (some ⟨g, 0, none⟩) n cap) n xs) {m : Nat} (hm : m ≤ n) : w.ownsRow base e size (.slice (some ⟨g, 0, none⟩) m cap) m (xs.take (m * size)) := by
  have hl := h.1
  rcases h.2 with ⟨h0, _⟩ | ⟨g', cap', cur, h1, hb, hg, hn, hc, hs, htake⟩
  · cases h0
  injection h1 with h1 _ h3
  injection h1 with h1
  injection h1 with h1 _ _
  subst h1 h3
  have hms : m * size ≤ n * size := Nat.mul_le_mul_right _ hm
  refine ⟨by rw [List.length_take]; omega, .inr ⟨g, cap, cur, rfl, hb, hg, by omega, hc, hs, ?_⟩⟩
  rw [← htake, List.take_take, Nat.min_eq_left hms]
theorem only_putF {w : World} {base g n cap size : Nat} {e : TypeId} {xs : List Value} (h : w.ownsRow base e size (.slice (some ⟨g, 0, none⟩) n cap) n xs) {ys : List Value} (hl : ys.length = xs.length) (m : Nat) : (Go.Sort.putRow id (Go.Sort.ahead w m) g 0 ys.toArray).ownsRow base e size (.slice (some ⟨g, 0, none⟩) n cap) n ys ∧ Only (fun i => i = g) w (Go.Sort.putRow id (Go.Sort.ahead w m) g 0 ys.toArray) := by
  have := own_putF h hl m #[]
  rwa [Go.Sort.grow_empty] at this
set_option maxHeartbeats 1000000 in
theorem qcompact_few (p : Option Addr) (n cap : Nat) (hn : n < 2) (w : World) : Calls Tryz.prog 113 #[.slice p n cap] w fun e w' => e = .returned (.slice p n cap) ∧ w' = w := by
  have d1 : decide (n < 2) = true := decide_eq_true hn
  have d2 : decide ((n : Int) < 2) = true := decide_eq_true (by omega)
  go_enter Tryz.func113, Tryz.ntmps113
  go_wp2_with fail
  go_ret
  exact ⟨rfl, rfl⟩
theorem qcompact_any {l l' : List Nat} (hp : l'.Perm l) (hup : l'.Pairwise (· ≤ ·)) (base g cap : Nat) (w : World) (hown : w.ownsRow base 56 1 (.slice (some ⟨g, 0, none⟩) l'.length cap) l'.length (wcells l')) (hl : l'.length ≤ 1000000) :
    Calls Tryz.prog 113 #[.slice (some ⟨g, 0, none⟩) l'.length cap] w fun e w' => e = .returned (.slice (some ⟨g, 0, none⟩) (insAll [] l).length cap) ∧ w'.ownsRow base 56 1 (.slice (some ⟨g, 0, none⟩) (insAll [] l).length cap) (insAll [] l).length (wcells (insAll [] l)) ∧ Only (fun i => i = g) w w' := by
  have hcap : l'.length ≤ cap := by
    rcases hown.2 with ⟨h0, _⟩ | ⟨g', cap', cur, h1, _, _, hn, _⟩
    · cases h0
    · injection h1 with _ _ h3
      rw [h3]; exact hn
  have hds : (l'.map Int.ofNat).toArray.size = l'.length := by simp
  have hc := AnyE.slices_Compact Tryz.compactU (Value.int .u64) (fun _ => rfl) (EqlAt.intD _ _ _) (NeqAt.intD _ _ _) (0 : Int) (fun w => by first | rfl | kernel_rfl) g 0 cap (l'.map Int.ofNat).toArray w (holds_ownU hown) (by rw [hds]; omega) (by rw [hds]; exact hcap)
  rw [compact_sorted hp hup, hds] at hc
  have hle : (insAll [] l).length ≤ l'.length := by
    have h1 := compact_sorted hp hup
    have h2 : (Lib.compactUpTo (l'.map Int.ofNat).toArray (l'.map Int.ofNat).toArray.size).length ≤ l'.length := by
      unfold Lib.compactUpTo
      rw [List.length_map]
      exact Nat.le_trans (List.length_filter_le _ _) (by simp)
    rw [h1, List.length_map] at h2
    exact h2
  refine hc.mono ?_
  rintro e w' ⟨rfl, q, rfl⟩
  rw [putRow_enc]
  have hx := only_putF (ys := wcells (insAll [] l) ++ List.replicate (l'.length - (insAll [] l).length) (Value.int .u64 0)) hown (by rw [List.length_append, wcells_length, wcells_length, List.length_replicate]; omega) q
  have he : (Array.map (Value.int .u64) ((insAll [] l).map Int.ofNat ++ List.replicate (l'.length - ((insAll [] l).map Int.ofNat).length) (0 : Int)).toArray) = (wcells (insAll [] l) ++ List.replicate (l'.length - (insAll [] l).length) (Value.int .u64 0)).toArray := by
    simp [wcells, Function.comp_def]
  rw [he]
  refine ⟨by simp, ?_, hx.2⟩
  have h3 := own_cut hx.1 hle
  rw [Nat.mul_one, List.take_append_of_le_length (by rw [wcells_length]; exact Nat.le_refl _), List.take_of_length_le (by rw [wcells_length]; exact Nat.le_refl _)] at h3
  exact h3
theorem qcloneU_any (l : List Nat) (base : Nat) (v : Value) (w : World) (hown : w.ownsRow base 56 1 v l.length (wcells l)) (hl : l.length ≤ 1000000) :
    Calls Tryz.prog 114 #[v] w fun e w' => ∃ u, e = .returned u ∧ w'.ownsRow w.heap.size 56 1 u l.length (wcells l) ∧ Grows w w' := by
  rcases id hown.2 with ⟨rfl, h0⟩ | ⟨g, cap, cur, rfl, hb, hg, _⟩
  · have : l = [] := List.eq_nil_of_length_eq_zero h0
    subst this
    refine (AnyE.slices_Clone_nil Tryz.cloneU 0 0 w).mono ?_
    rintro e w' ⟨rfl, rfl⟩
    exact ⟨_, rfl, World.ownsRow_nil _ _ _ _, Below.refl _ _⟩
  · obtain ⟨i0, hi, hz0, hz1, hz2⟩ := info_parts info_u64q
    refine (AnyE.slices_Clone Tryz.cloneU i0 (.int .u64 0) 1 8 hi hz0 hz1 hz2 rfl (by decide) (fun w => by first | rfl | kernel_rfl) g 0 l.length cap (wcells l) w (by rw [wcells_length, Nat.mul_one]) (by unfold maxLen; omega) (by omega) (fun j u hj => ?_) (fun u hu => ?_)).mono ?_
    · have := hown.cells (g := g) rfl _ _ hj
      rwa [Addr.add_lit] at this
    · unfold wcells at hu
      obtain ⟨n, _, rfl⟩ := List.mem_map.1 hu
      rfl
    · rintro e w' ⟨u, rfl, h1, _, h3⟩
      exact ⟨u, rfl, h1, h3⟩
set_option maxHeartbeats 8000000 in
theorem qsmallest_of {N : Nat} (hS : SortU N) (l : List Nat) (base : Nat) (v : Value) (w : World) (hown : w.ownsRow base 56 1 v l.length (wcells l)) (hN : l.length ≤ N) (hl : l.length ≤ 1000000) :
    Calls Tryz.prog 46 #[v] w fun e w' => ∃ u, e = .returned (.tuple #[u, .bool (decide ((insAll [] l).length ≤ 32))]) ∧ w'.ownsRow w.heap.size 56 1 u ((insAll [] l).take 32).length (wcells ((insAll [] l).take 32)) ∧ Only (fun i => v.ownBlock = some i) w w' := by
  have HS := hidden (hS l base v w hN hown)
  obtain ⟨U, hU⟩ : ∃ U, U = insAll [] l := ⟨_, rfl⟩
  have hle : U.length ≤ l.length := by
    rw [hU]
    have hsub : ∀ x ∈ insAll [] l, x ∈ l := fun x hx => by rcases insAll_mem.1 hx with h | h; exact h; cases h
    have hnd : (insAll [] l).Nodup := (insAll_inc List.Pairwise.nil).imp (fun h => Nat.ne_of_lt h)
    exact hnd.length_le_of_subset hsub
  have HU := hidden hU
  rw [← hU]
  rcases id hown.2 with ⟨rfl, h0⟩ | ⟨g, cap, cur, rfl, hgb, hg, hgc, _⟩
  · have hnil : l = [] := List.eq_nil_of_length_eq_zero h0
    subst hnil
    have hU0 : U = [] := by rw [hU]; rfl
    subst hU0
    have HC := hidden (fun W => qcompact_few none 0 0 (by omega) W)
    have HK := hidden (fun W => qcloneU_any [] 0 (.slice none 0 0) W (World.ownsRow_nil _ _ _ _) (by simp))
    have HS2 := hidden (HS.out.mono (fun e w' (h : e = .returned (.tuple #[]) ∧ ∃ l' : List Nat, l'.Perm [] ∧ l'.Pairwise (· ≤ ·) ∧ w'.ownsRow base 56 1 (.slice none 0 0) l'.length (wcells l') ∧ Only (fun i => (Value.slice none 0 0).ownBlock = some i) w w') => (⟨h.1, h.2.elim fun l' hh => hh.2.2.2.grows (fun i hi => by cases hi)⟩ : e = .returned (.tuple #[]) ∧ Grows w w')))
    clear HS hown hU hle h0 hN hl hS
    go_enter Tryz.func46, Tryz.ntmps46
    go_wp2_with (first
      | (go_at_call 112; refine (HS2.out).mono ?_; rintro e w1 ⟨rfl, g1⟩; have HG1 := hidden g1; clear g1)
      | (go_at_call 113; refine (HC.out _).mono ?_; rintro e w2 ⟨rfl, rfl⟩)
      | (go_at_call 114; refine (HK.out _).mono ?_; rintro e w3 ⟨u, rfl, ho3, g3⟩; have HO3 := hidden ho3; have HG3 := hidden (HG1.out.of_below g3); clear ho3 g3))
    go_ret2
    exact ⟨_, rfl, ownsRow_base HO3.out HG1.out.size, Only.of_grows HG3.out _⟩
  · obtain ⟨L, hL⟩ : ∃ L, L = l.length := ⟨_, rfl⟩
    obtain ⟨M, hM⟩ : ∃ M, M = U.length := ⟨_, rfl⟩
    have HM := hidden hM
    have hML : M ≤ 1000000 := by omega
    have HS2 := hidden (HS.out.mono (fun e w' (h : e = .returned (.tuple #[]) ∧ ∃ l' : List Nat, l'.Perm l ∧ l'.Pairwise (· ≤ ·) ∧ w'.ownsRow base 56 1 (.slice (some ⟨g, 0, none⟩) l.length cap) l'.length (wcells l') ∧ Only (fun i => (Value.slice (some ⟨g, 0, none⟩) l.length cap).ownBlock = some i) w w') => (⟨h.1, h.2.elim fun l' hh => ⟨l', hh.1, hh.2.1, hh.2.2.1, hh.2.2.2.mono (fun i hi => .inl (by injection hi with hi; exact hi.symm))⟩⟩ : e = .returned (.tuple #[]) ∧ ∃ l' : List Nat, l'.Perm l ∧ l'.Pairwise (· ≤ ·) ∧ w'.ownsRow base 56 1 (.slice (some ⟨g, 0, none⟩) l.length cap) l'.length (wcells l') ∧ Only (fun i => i = g) w w')))
    have HC := hidden (fun (W : World) (l' : List Nat) (hp : l'.Perm l) (hup : l'.Pairwise (· ≤ ·)) (ho : W.ownsRow base 56 1 (.slice (some ⟨g, 0, none⟩) l.length cap) l'.length (wcells l')) => (show Calls Tryz.prog 113 #[.slice (some ⟨g, 0, none⟩) l.length cap] W fun e w' => e = .returned (.slice (some ⟨g, 0, none⟩) U.length cap) ∧ w'.ownsRow base 56 1 (.slice (some ⟨g, 0, none⟩) U.length cap) U.length (wcells U) ∧ Only (fun i => i = g) W w' by
      have hlen := hp.length_eq
      rw [← hlen] at ho ⊢
      rw [hU]
      exact qcompact_any hp hup base g cap W ho (by rw [hlen]; exact hl)))
    have HK := hidden (fun (W : World) (ho : W.ownsRow base 56 1 (.slice (some ⟨g, 0, none⟩) U.length cap) U.length (wcells U)) => (show Calls Tryz.prog 114 #[.slice (some ⟨g, 0, none⟩) (min U.length 32) cap] W fun e w' => ∃ u, e = .returned u ∧ w'.ownsRow W.heap.size 56 1 u (U.take 32).length (wcells (U.take 32)) ∧ Grows W w' by
      have h1 := own_cut ho (m := min U.length 32) (Nat.min_le_left _ _)
      have e1 : (wcells U).take (min U.length 32 * 1) = wcells (U.take 32) := by
        unfold wcells
        rw [Nat.mul_one, ← List.map_take]
        congr 1
        rw [Nat.min_comm, ← List.take_take, List.take_length]
      have e2 : min U.length 32 = (U.take 32).length := by rw [List.length_take, Nat.min_comm]
      rw [e1] at h1
      rw [e2] at h1 ⊢
      exact qcloneU_any (U.take 32) base _ W h1 (by rw [List.length_take]; omega)))
    have HCAP := hidden (show M ≤ cap by omega)
    rw [← hL] at HS2 HC ⊢
    rw [← hM] at HC HK ⊢
    obtain ⟨K, hK⟩ : ∃ K, K = min M 32 := ⟨_, rfl⟩
    rw [← hK] at HK
    have HKK := hidden hK
    clear HS hown hU hle hN hl hS hL hM hg hgb hgc
    have hb0 : K ≤ cap := by have := HCAP.out; omega
    have hminN : min M 32 = K := HKK.out.symm
    clear hK
    have hminI : min (M : Int) 32 = (K : Int) := by omega
    have hb1 : (K : Int) ≤ (cap : Int) := by omega
    have hb2 : (0 : Int) ≤ (K : Int) := by omega
    have HKM := hidden (show ((K : Int) == (M : Int)) = decide (M ≤ 32) by
      by_cases h : M ≤ 32
      · rw [decide_eq_true h]; exact beq_iff_eq.2 (by omega)
      · rw [decide_eq_false h]; exact beq_eq_false_iff_ne.2 (by omega))
    go_enter Tryz.func46, Tryz.ntmps46
    go_wp2_with (first
      | (go_at_call 112; refine (HS2.out).mono ?_; rintro e w1 ⟨rfl, l', hp, hup, ho1, hx1⟩; have HP := hidden hp; have HUP := hidden hup; have HO1 := hidden ho1; have HX1 := hidden hx1; clear hp hup ho1 hx1)
      | (go_at_call 113; refine (HC.out _ l' HP.out HUP.out HO1.out).mono ?_; rintro e w2 ⟨rfl, ho2, hx2⟩; have HO2 := hidden ho2; have HX2 := hidden (HX1.out.trans hx2 (fun i hi => .inl hi)); clear ho2 hx2)
      | (go_at_call 114; refine (HK.out _ HO2.out).mono ?_; rintro e w3 ⟨u, rfl, ho3, g3⟩; have HO3 := hidden ho3; have HX3 := hidden (HX2.out.trans (Only.of_grows g3 (fun i => i = g)) (fun i hi => .inl hi)); clear ho3 g3))
    go_ret2
    refine ⟨u, ?_, ownsRow_base HO3.out (by have := HX2.out.size; exact this), HX3.out.mono (fun i hi => .inl (by rw [hi]; rfl))⟩
    show Ending.returned (.tuple #[u, .bool ((K : Int) == (M : Int))]) = _
    rw [HKM.out]
end Go.Proofs.YtoaklmceejeblaaGreat
/-
  Shaken: what the claims of this seat need of this text. No condition.
-/
namespace Go.Proofs.YtoaklmceejeblaaGreat
set_option maxRecDepth 8000
open Go.RowKit
set_option linter.unusedVariables false
set_option linter.unusedSimpArgs false
theorem vcells_one (l : List Val) : ∀ u ∈ vcells l, u.oneCell' = true := by
  induction l with
  | nil => intro u hu; cases hu
  | cons x l ih =>
    intro u hu
    rw [vcells] at hu
    simp only [List.mem_cons] at hu
    rcases hu with rfl | rfl | rfl | hu
    · rfl
    · rfl
    · rfl
    · exact ih u hu
theorem reads_vcells {w : World} {b off n c : Nat} {l : List Val} (h : ∀ (j : Nat) (x : Val), l[j]? = some x → w.cell? ⟨b, off + j * 3, none⟩ = some (.int .i64 x.k) ∧ w.cell? ⟨b, off + j * 3 + 1, none⟩ = some (.int .i64 x.n) ∧ w.cell? ⟨b, off + j * 3 + 2, none⟩ = some (.string x.t)) :
    ∀ j u, (vcells l)[j]? = some u → w.cell? ⟨b, off + j, none⟩ = some u := by
  intro j u hj
  have hlt : j < l.length * 3 := by rw [← vcells_length]; exact (List.getElem?_eq_some_iff.1 hj).1
  have hq : j / 3 < l.length := by omega
  have hx := List.getElem?_eq_getElem hq
  obtain ⟨h1, h2, h3⟩ := h _ _ hx
  rw [vcells_at hx] at hj
  have ht : j = j / 3 * 3 + j % 3 := by omega
  have hm : j % 3 = 0 ∨ j % 3 = 1 ∨ j % 3 = 2 := by omega
  generalize l[j / 3] = y at *
  generalize j / 3 = q at *
  generalize j % 3 = r at *
  subst ht
  rcases hm with rfl | rfl | rfl
  · rw [← hj]; exact h1
  · rw [← hj]; exact h2
  · rw [← hj]; exact h3
set_option maxHeartbeats 2000000 in
theorem qcloneV_zero (ad : Addr) (c : Nat) (w : World) :
    Calls Tryz.prog 39 #[.slice (some ad) 0 c] w fun e w' => ∃ u, e = .returned u ∧ w'.ownsRow w.heap.size 35 3 u 0 [] ∧ Grows w w' := by
  have q22 : ∀ (w : World) (a : Option Addr) (n c n' c' : Nat), (binOp .eql 22 (.slice a n c) (.slice none n' c')).run Tryz.prog w = .ok (.bool a.isNone) w := fun w a n c n' c' => Lib.run_eql_slice_nil w _ _ a n c n' c' Tryz.underlying22
  obtain ⟨i0, hi, hz0, hz1, hz2⟩ := info_parts info_valT
  go_enter Tryz.func39, Tryz.ntmps39
  go_wp2_with (at_builtin; refine wpList_append_own _ rfl _ _ 22 rfl w.heap.size 35 i0 (.agg #[.int .i64 0, .int .i64 0, .string ⟨#[]⟩]) 3 32 Tryz.underlying22 hi hz0 hz1 hz2 rfl (by decide) _ _ _ rfl (World.ownsRow_made w #[] 0 (Nat.le_refl _) (Nat.zero_le _) (by simp)) ad 0 c [] rfl (by simp) (fun j u hj => by cases hj) (fun u hu => by cases hu) (by simp [maxLen]) (by simp) (by simp) ?_)
  intro v' w1 hown hgrow hnil
  go_wp2
  go_ret
  exact ⟨v', rfl, by simpa using hown, ((Below.refl _ w).alloc (Nat.le_refl _) _).grown hgrow (by simp) (by intro k hk; simp [Value.ownBlock] at hk; omega)⟩
theorem qcloneV_any (l : List Val) (v : Value) (w : World) (hv : ReadsV w v l) (hl : l.length ≤ 1000000) :
    Calls Tryz.prog 39 #[v] w fun e w' => ∃ u, e = .returned u ∧ w'.ownsRow w.heap.size 35 3 u l.length (vcells l) ∧ Grows w w' := by
  obtain ⟨A, c, rfl, hle, hcell⟩ := hv
  cases A with
  | none =>
    have : l = [] := by
      cases l with
      | nil => rfl
      | cons x r => obtain ⟨b, off, h, _⟩ := hcell (by simp); cases h
    subst this
    refine (AnyE.slices_Clone_nil Tryz.cloneV 0 c w).mono ?_
    rintro e w' ⟨rfl, rfl⟩
    exact ⟨_, rfl, World.ownsRow_nil _ _ _ _, Below.refl _ _⟩
  | some ad =>
    obtain ⟨i0, hi, hz0, hz1, hz2⟩ := info_parts info_valT
    by_cases h0 : 0 < l.length
    · obtain ⟨b, off, he, hc⟩ := hcell h0
      injection he with he
      subst he
      refine (AnyE.slices_Clone Tryz.cloneV i0 (.agg #[.int .i64 0, .int .i64 0, .string ⟨#[]⟩]) 3 32 hi hz0 hz1 hz2 rfl (by decide) (fun w => by first | rfl | kernel_rfl) b off l.length c (vcells l) w (vcells_length l) (by unfold maxLen; omega) (by omega) (reads_vcells (n := 0) (c := 0) hc) (vcells_one l)).mono ?_
      rintro e w' ⟨u, rfl, h1, _, h3⟩
      exact ⟨u, rfl, h1, h3⟩
    · have hnil : l = [] := List.eq_nil_of_length_eq_zero (by omega)
      subst hnil
      exact qcloneV_zero ad c w
end Go.Proofs.YtoaklmceejeblaaGreat
/-
  Shaken: what the claims of this seat need of this text. No condition.
-/
namespace Go.Proofs.YtoaklmceejeblaaGreat
set_option maxRecDepth 8000
open Go.RowKit
set_option linter.unusedVariables false
set_option linter.unusedSimpArgs false
set_option maxHeartbeats 2000000 in
theorem uins_none (p : Option Addr) (cap : Nat) (w : World) : Calls Tryz.prog 170 #[.slice p 0 cap, .int .i64 0, .int .i64 0] w fun e w' => e = .returned (.tuple #[]) ∧ w' = w := by
  go_enter Tryz.func170, Tryz.ntmps170
  go_wp2
  refine wp_loop_rounds 1 ?_
  rw [rounds_succ]
  go_wp2
  go_end0
  exact ⟨rfl, rfl⟩
set_option maxHeartbeats 2000000 in
theorem updq_none (p : Option Addr) (cap : Nat) (lim : Int) (w : World) : Calls Tryz.prog 156 #[.slice p 0 cap, .int .i64 0, .int .i64 0, .int .i64 lim] w fun e w' => e = .returned (.tuple #[]) ∧ w' = w := by
  have HI := hidden (fun W => uins_none p cap W)
  go_enter Tryz.func156, Tryz.ntmps156
  go_wp2
  refine wp_loop_rounds 1 ?_
  rw [rounds_succ]
  go_wp2_with (go_at_call 170; refine (HI.out _).mono ?_; rintro e w' ⟨rfl, rfl⟩)
  (try simp only [Exit.inBlock, Exit.then]); refine bodyPost_ret (results_none rfl _ _ _) rfl ?_
  exact ⟨rfl, rfl⟩
set_option maxHeartbeats 2000000 in
theorem usort_none (p : Option Addr) (cap : Nat) (w : World) : Calls Tryz.prog 112 #[.slice p 0 cap] w fun e w' => e = .returned (.tuple #[]) ∧ w' = w := by
  have HP := hidden (fun lim W => updq_none p cap lim W)
  have HL := hidden (fun W => ulen_any 0 W (by omega) (by omega))
  go_enter Tryz.func112, Tryz.ntmps112
  go_wp2_with (first | (go_at_call 105; refine (HL.out _).mono ?_; rintro e w' ⟨rfl, rfl⟩) | (go_at_call 156; refine (HP.out _ _).mono ?_; rintro e w' ⟨rfl, rfl⟩))
  go_end0
  exact ⟨rfl, rfl⟩
set_option maxHeartbeats 4000000 in
theorem updq_few (blk off cap : Nat) (d : Array Int) (lim : Int) (w : World) (hH : Go.Sort.Holds (Value.int .u64) w blk off d) (hs : d.size ≤ 12) :
    Calls Tryz.prog 156 #[.slice (some ⟨blk, off, none⟩) d.size cap, .int .i64 0, .int .i64 (d.size : Int), .int .i64 lim] w fun e w' =>
      e = .returned (.tuple #[]) ∧ ∃ n, w' = Go.Sort.putRow (Value.int .u64) (Go.Sort.ahead w n) blk off (Go.Sort.insertionSort Go.Sort.ltInt d 0 d.size) := by
  have HI := hidden (uins_any blk off cap 0 d.size d w hH (Nat.zero_le _) (Nat.le_refl _) (by omega))
  obtain ⟨n, hn⟩ : ∃ n, n = d.size := ⟨_, rfl⟩
  rw [← hn] at HI hs ⊢
  have hd : decide ((n : Int) ≤ 12) = true := decide_eq_true (by omega)
  have hd2 : decide (n ≤ 12) = true := decide_eq_true hs
  have hw : wrap64 (n : Int) = (n : Int) := by unfold wrap64; omega
  clear hH hn
  go_enter Tryz.func156, Tryz.ntmps156
  go_wp2
  refine wp_loop_rounds 1 ?_
  rw [rounds_succ]
  go_wp2_with (go_at_call 170; refine (HI.out).mono ?_; rintro e w' ⟨rfl, k, rfl⟩)
  (try simp only [Exit.inBlock, Exit.then]); refine bodyPost_ret (results_none rfl _ _ _) rfl ?_
  exact ⟨rfl, k, rfl⟩
set_option maxHeartbeats 4000000 in
theorem usort_few (blk off cap : Nat) (d : Array Int) (w : World) (hH : Go.Sort.Holds (Value.int .u64) w blk off d) (hs : d.size ≤ 12) :
    Calls Tryz.prog 112 #[.slice (some ⟨blk, off, none⟩) d.size cap] w fun e w' =>
      e = .returned (.tuple #[]) ∧ ∃ n, w' = Go.Sort.putRow (Value.int .u64) (Go.Sort.ahead w n) blk off (Go.Sort.insertionSort Go.Sort.ltInt d 0 d.size) := by
  have HP := hidden (fun lim => updq_few blk off cap d lim w hH hs)
  have HL := hidden (fun W => ulen_any (d.size : Int) W (by omega) (by omega))
  obtain ⟨n, hn⟩ : ∃ n, n = d.size := ⟨_, rfl⟩
  rw [← hn] at HP HL hs ⊢
  have wr : IntKind.u64.wrap (n : Int) = n := by simp [IntKind.wrap, IntKind.bits, IntKind.signed]; omega
  clear hH hn
  go_enter Tryz.func112, Tryz.ntmps112
  go_wp2_with (first | (go_at_call 105; refine (HL.out _).mono ?_; rintro e w' ⟨rfl, rfl⟩) | (go_at_call 156; refine (HP.out _).mono ?_; rintro e w' ⟨rfl, k, rfl⟩))
  go_end0
  exact ⟨rfl, k, rfl⟩
theorem sortU_12 : SortU 12 := by
  intro l base v w hl hown
  rcases id hown.2 with ⟨rfl, h0⟩ | ⟨g, cap, cur, rfl, hgb, hg, hgc, _⟩
  · have hnil : l = [] := List.eq_nil_of_length_eq_zero h0
    subst hnil
    refine (usort_none none 0 w).mono ?_
    rintro e w' ⟨rfl, rfl⟩
    exact ⟨rfl, [], List.Perm.refl _, List.Pairwise.nil, hown, Only.refl _ _⟩
  · have hds : (l.map Int.ofNat).toArray.size = l.length := by simp
    have hc := usort_few g 0 cap (l.map Int.ofNat).toArray w (holds_ownU hown) (by rw [hds]; exact hl)
    rw [hds] at hc
    refine hc.mono ?_
    rintro e w' ⟨rfl, n, rfl⟩
    have hi := Go.Sort.insertionSort_holds Go.Sort.swo_ltInt (l.map Int.ofNat).toArray 0 l.length (Nat.zero_le _) (by rw [hds]; exact Nat.le_refl _)
    obtain ⟨l', h1, h2, h3, h4⟩ := sorted_ownU hown _ hi.1 hi.2 n #[]
    rw [Go.Sort.grow_empty] at h3 h4
    exact ⟨rfl, l', h1, h2, h3, h4.mono (fun i hi => .inl (by rw [hi]; rfl))⟩
end Go.Proofs.YtoaklmceejeblaaGreat
