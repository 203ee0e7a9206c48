/-
  Texts that the claims of this seat share, put together (SqM, Su2, SqP, SqQ, Su3, SqR, SqS). No condition.
-/
import Derived.Test.YtoaklmceejeblaaGreatSqL
import Derived.Test.YtoaklmceejeblaaGreatM14
import Derived.Test.YtoaklmceejeblaaGreatSqLay
import Derived.Test.YtoaklmceejeblaaGreatWidth
import Derived.Test.YtoaklmceejeblaaGreatSu1
import Derived.Test.YtoaklmceejeblaaGreatM20
import Derived.Test.YtoaklmceejeblaaGreatSuC
import Derived.Test.YtoaklmceejeblaaGreatM19
import Derived.Test.YtoaklmceejeblaaGreatM18
/-
  Shaken: what the claims of this seat need of this text. No condition.
-/
namespace Go.Proofs.YtoaklmceejeblaaGreat
set_option maxRecDepth 8000
open Go.RowKit
set_option linter.unusedVariables false
set_option linter.unusedSimpArgs false
abbrev KVal (K : Int) : Type := { x : Val // x.k = K ∧ okX x }
def encK {K : Int} (x : KVal K) : List Value := x.1.cells
theorem vcells_at {l : List Val} {t : Nat} {y : Val} (h : l[t / 3]? = some y) : (vcells l)[t]? = y.cells[t % 3]? := by
  obtain ⟨h1, h2, h3⟩ := vcells_get h
  have ht : t = t / 3 * 3 + t % 3 := by omega
  have hm : t % 3 = 0 ∨ t % 3 = 1 ∨ t % 3 = 2 := by omega
  generalize t / 3 = q at *
  generalize t % 3 = r at *
  subst ht
  rcases hm with rfl | rfl | rfl
  · exact h1
  · exact h2
  · exact h3
theorem flat_vcells {K : Int} [Inhabited (KVal K)] (d : Array (KVal K)) : (Go.Sort.flatK encK 3 d).toList = vcells (d.toList.map (·.1)) := by
  apply List.ext_getElem?
  intro t
  by_cases ht : t < d.size * 3
  · have hq : t / 3 < d.size := by omega
    have e1 : (d.toList.map (·.1))[t / 3]? = some d[t / 3]!.1 := by
      rw [List.getElem?_map, getElem!_pos d _ hq]
      simp [hq]
    rw [vcells_at e1, Array.getElem?_toList]
    have hm : t % 3 < d[t / 3]!.1.cells.length := by show t % 3 < 3; omega
    rw [List.getElem?_eq_getElem hm]
    have hs : t < (Go.Sort.flatK encK 3 d).size := by rw [Go.Sort.size_flatK]; exact ht
    rw [Array.getElem?_eq_getElem hs]
    have := Go.Sort.get_flatK encK 3 d t ht
    rw [getElem!_pos _ t hs] at this
    rw [this]
    unfold encK
    rw [getElem!_pos d[t / 3]!.1.cells (t % 3) hm]
  · have e1 : (Go.Sort.flatK encK 3 d).toList.length ≤ t := by rw [Array.length_toList, Go.Sort.size_flatK]; omega
    have e2 : (vcells (d.toList.map (·.1))).length ≤ t := by rw [vcells_length, List.length_map, Array.length_toList]; omega
    rw [List.getElem?_eq_none e1, List.getElem?_eq_none e2]
theorem holds_own {K : Int} [Inhabited (KVal K)] {w : World} {base g n cap : Nat} {d : Array (KVal K)} (h : w.ownsRow base 35 3 (.slice (some ⟨g, 0, none⟩) n cap) (d.toList.map (·.1)).length (vcells (d.toList.map (·.1)))) : Go.Sort.HoldsK encK 3 w g 0 d := by
  intro j hj
  rcases h.2 with ⟨h0, _⟩ | ⟨g', cap', cur, h1, _, hg, _, _, _, htake⟩
  · cases h0
  injection h1 with h1 _ _
  injection h1 with h1
  injection h1 with h1 _ _
  subst h1
  rw [← flat_vcells] at htake
  have hj' : j < d.size * 3 := by rwa [Go.Sort.size_flatK] at hj
  have e : cur[j]? = some (Go.Sort.flatK encK 3 d)[j]! := by
    have h2 : (cur.toList.take ((d.toList.map (·.1)).length * 3))[j]? = some (Go.Sort.flatK encK 3 d)[j]! := by
      rw [htake, Array.getElem?_toList, Array.getElem?_eq_getElem hj, getElem!_pos _ j hj]
    rw [List.getElem?_take, if_pos (by simp; omega), Array.getElem?_toList] at h2
    exact h2
  refine ⟨?_, ?_⟩
  · rw [Nat.zero_add]
    simp only [World.cell?, hg, id]
    simpa using e
  · rw [Nat.zero_add]
    simp [World.frozen?, hg]
theorem own_putF {w : World} {base g n cap size : Nat} {e : TypeId} {xs ys : List Value} (h : w.ownsRow base e size (.slice (some ⟨g, 0, none⟩) n cap) n xs) (hl : ys.length = xs.length) (m : Nat) (os : Array Obj) :
    (Go.Sort.grow (Go.Sort.putRow id (Go.Sort.ahead w m) g 0 ys.toArray) os).ownsRow base e size (.slice (some ⟨g, 0, none⟩) n cap) n ys ∧ Only (fun i => i = g) w (Go.Sort.grow (Go.Sort.putRow id (Go.Sort.ahead w m) g 0 ys.toArray) os) := by
  have hlen := h.1
  rcases h.2 with ⟨h0, _⟩ | ⟨g', cap', cur, h1, hb, hg, hn, hc, hs, htake⟩
  · cases h0
  injection h1 with h1 _ h3
  injection h1 with h1
  injection h1 with h1 _ _
  subst h1 h3
  have hlt : g < w.heap.size := (Array.getElem?_eq_some_iff.1 hg).1
  have hk : ∀ k, k < w.heap.size → (Go.Sort.grow (Go.Sort.putRow id (Go.Sort.ahead w m) g 0 ys.toArray) os).heap[k]? = if k = g then some (.cells (Go.Sort.putCells id 0 ys.toArray cur) e (0, 0)) else w.heap[k]? := by
    intro k hk
    simp only [Go.Sort.grow, Go.Sort.putRow, Go.Sort.mapBlock, Go.Sort.ahead]
    rw [Array.getElem?_append_left (by simpa using hk), Array.getElem?_modify]
    by_cases hkg : k = g
    · subst hkg
      rw [if_pos rfl, if_pos rfl, hg]
      rfl
    · rw [if_neg (fun e => hkg e.symm), if_neg hkg]
  refine ⟨⟨hl.trans hlen, .inr ⟨g, cap, _, rfl, hb, by rw [hk g hlt, if_pos rfl], hn, hc, ?_, ?_⟩⟩, ?_⟩
  · simp [Go.Sort.putCells, hs]
  · have hle : n * size ≤ cur.size := by rw [hs]; exact Nat.mul_le_mul_right _ hn
    apply List.ext_getElem?
    intro j
    rw [List.getElem?_take]
    by_cases hj : j < n * size
    · rw [if_pos hj, Array.getElem?_toList]
      have hjc : j < cur.size := by omega
      have hjy : j < ys.length := by omega
      simp only [Go.Sort.putCells, Array.getElem?_mapIdx, Array.getElem?_eq_getElem hjc, Option.map_some]
      rw [if_pos ⟨Nat.zero_le _, by simp; omega⟩]
      simp [hjy]
    · rw [if_neg hj, List.getElem?_eq_none (by omega)]
  · refine ⟨rfl, rfl, rfl, by simp [Go.Sort.grow, Go.Sort.putRow, Go.Sort.mapBlock, Go.Sort.ahead], fun k h1 h2 => ?_⟩
    rw [hk k h1, if_neg h2]
theorem cmpLays_K {K : Int} [Inhabited (KVal K)] (blk size : Nat) (w : World) : CmpLays Tryz.prog 42 #[] (encK (K := K)) 3 (fun x y => lcX x.1 y.1) blk 0 size w := by
  intro m os dk _ x y
  refine (lcompareD_any x.1.k x.1.n y.1.k y.1.n x.1.t y.1.t _).mono ?_
  rintro e w' ⟨rfl, q, os', rfl⟩
  exact ⟨rfl, q, os', rfl⟩
theorem swo_K {K : Int} : Go.Sort.SWO (ltOf fun x y : KVal K => lcX x.1 y.1) := by
  have e : ∀ x y : KVal K, lcX x.1 y.1 = cmpX x.1 y.1 := fun x y => lcX_cmpX x.2.2 y.2.2
  have hk : ∀ x y : KVal K, x.1.k = y.1.k := fun x y => x.2.1.trans y.2.1.symm
  refine ⟨fun x => ?_, fun x y z h1 h2 => ?_, fun x y z h1 h2 => ?_⟩
  · show decide (lcX x.1 x.1 < 0) = false
    rw [e, cmpX_refl]
    rfl
  · have h1 : cmpX x.1 y.1 < 0 := by rw [← e]; exact of_decide_eq_true h1
    have h2 : cmpX y.1 z.1 < 0 := by rw [← e]; exact of_decide_eq_true h2
    show decide (lcX x.1 z.1 < 0) = true
    rw [e]
    exact decide_eq_true (cmpX_lt_trans (hk x y) (hk y z) x.2.2 y.2.2 z.2.2 h1 (by omega))
  · have h1 : ¬ cmpX x.1 y.1 < 0 := by rw [← e]; exact of_decide_eq_false h1
    have h2 : ¬ cmpX y.1 z.1 < 0 := by rw [← e]; exact of_decide_eq_false h2
    show decide (lcX x.1 z.1 < 0) = false
    rw [e]
    have a1 := cmpX_anti (hk x y)
    have a2 := cmpX_anti (hk y z)
    have a3 := cmpX_anti (hk x z)
    have := cmpX_trans (hk z y) (hk y x) (by omega : cmpX z.1 y.1 ≤ 0) (by omega : cmpX y.1 x.1 ≤ 0)
    exact decide_eq_false (by omega)
theorem ulen_any (x : Int) (w : World) (h0 : 0 ≤ x) (h1 : x ≤ 18446744073709551615) : Calls Tryz.prog 105 #[.int .u64 x] w fun e w' => e = .returned (.int .i64 (Lib.bitLen x.toNat : Int)) ∧ w' = w := by
  have HL := hidden (fun W => len64_any x W h0 h1)
  go_enter Tryz.func105, Tryz.ntmps105
  go_wp2_with (go_at_call 150; refine (HL.out _).mono ?_; rintro e w' ⟨rfl, rfl⟩)
  go_ret
  exact ⟨rfl, rfl⟩
set_option maxHeartbeats 2000000 in
theorem qins_none (p : Option Addr) (cap : Nat) (w : World) : Calls Tryz.prog 141 #[.slice p 0 cap, .int .i64 0, .int .i64 0, .func (.func 42) #[] #[]] w fun e w' => e = .returned (.tuple #[]) ∧ w' = w := by
  go_enter Tryz.func141, Tryz.ntmps141
  go_wp2
  refine wp_loop_rounds 1 ?_
  rw [rounds_succ]
  go_wp2
  go_end0
  exact ⟨rfl, rfl⟩
set_option maxHeartbeats 2000000 in
theorem qpdq_none (p : Option Addr) (cap : Nat) (lim : Int) (w : World) : Calls Tryz.prog 104 #[.slice p 0 cap, .int .i64 0, .int .i64 0, .int .i64 lim, .func (.func 42) #[] #[]] w fun e w' => e = .returned (.tuple #[]) ∧ w' = w := by
  have HI := hidden (fun W => qins_none p cap W)
  go_enter Tryz.func104, Tryz.ntmps104
  go_wp2
  refine wp_loop_rounds 1 ?_
  rw [rounds_succ]
  go_wp2_with (go_at_call 141; refine (HI.out _).mono ?_; rintro e w' ⟨rfl, rfl⟩)
  (try simp only [Exit.inBlock, Exit.then]); refine bodyPost_ret (results_none rfl _ _ _) rfl ?_
  exact ⟨rfl, rfl⟩
set_option maxHeartbeats 2000000 in
theorem qsort_none (p : Option Addr) (cap : Nat) (w : World) : Calls Tryz.prog 41 #[.slice p 0 cap, .func (.func 42) #[] #[]] w fun e w' => e = .returned (.tuple #[]) ∧ w' = w := by
  have HP := hidden (fun lim W => qpdq_none p cap lim W)
  have HL := hidden (fun W => ulen_any 0 W (by omega) (by omega))
  go_enter Tryz.func41, Tryz.ntmps41
  go_wp2_with (first | (go_at_call 105; refine (HL.out _).mono ?_; rintro e w' ⟨rfl, rfl⟩) | (go_at_call 104; refine (HP.out _ _).mono ?_; rintro e w' ⟨rfl, rfl⟩))
  go_end0
  exact ⟨rfl, rfl⟩
set_option maxHeartbeats 2000000 in
theorem qsortFunc_any {K : Int} (l : List Val) (hk : oneKd K l) (hl : l.length ≤ 1000000000) (base : Nat) (v : Value) (w : World) (hown : w.ownsRow base 35 3 v l.length (vcells l)) :
    Calls Tryz.prog 41 #[v, .func (.func 42) #[] #[]] w fun e w' => e = .returned (.tuple #[]) ∧ ∃ l' : List Val, l'.Perm l ∧ upV l' ∧ w'.ownsRow base 35 3 v l'.length (vcells l') ∧ Only (fun i => v.ownBlock = some i) w w' := by
  rcases Nat.eq_zero_or_pos l.length with h0 | h0
  · have hnil : l = [] := List.eq_nil_of_length_eq_zero h0
    subst hnil
    have hv : ∃ p cap, v = .slice p 0 cap := by
      rcases hown.2 with ⟨rfl, _⟩ | ⟨g, cap, cur, rfl, _⟩
      · exact ⟨_, _, rfl⟩
      · exact ⟨_, _, rfl⟩
    obtain ⟨p, cap, rfl⟩ := hv
    refine (qsort_none p cap w).mono ?_
    rintro e w' ⟨rfl, rfl⟩
    exact ⟨rfl, [], List.Perm.refl _, List.Pairwise.nil, hown, Only.refl _ _⟩
  · rcases id hown.2 with ⟨_, hz⟩ | ⟨g, cap, cur, rfl, hb, hg, hn, hc, hs, htake⟩
    · omega
    have hlt : g < w.heap.size := (Array.getElem?_eq_some_iff.1 hg).1
    have x0 : KVal K := ⟨l[0], hk _ (List.getElem_mem _)⟩
    haveI : Inhabited (KVal K) := ⟨x0⟩
    obtain ⟨d, hd⟩ : ∃ d : Array (KVal K), d.toList.map (·.1) = l := ⟨(l.attach.map fun x => (⟨x.1, hk x.1 x.2⟩ : KVal K)).toArray, by simp⟩
    have hds : d.size = l.length := by rw [← hd]; simp
    have hown' := hown
    rw [← hd] at hown'
    have hH := holds_own hown'
    have hc := AnyQ.slices_SortFunc Tryz.sortV 3 (fun w => by first | rfl | kernel_rfl) (fun w => by first | rfl | kernel_rfl) (encK (K := K)) (fun _ => rfl) (fun x u hu => by simp [encK, Val.cells] at hu; rcases hu with rfl | rfl | rfl <;> rfl) (fun x y => lcX x.1 y.1) swo_K 42 #[] g 0 cap d w (enters_of Tryz.func42 (by kernel_rfl) rfl) (cmpLays_K g d.size w) hH hlt (by omega)
    rw [hds] at hc
    refine hc.mono ?_
    rintro e w' ⟨rfl, d', n, os, hp, hsr, rfl⟩
    have hds' : d'.size = l.length := hp.1.trans hds
    have hperm : (d'.toList.map (·.1)).Perm l := by
      have h1 := hp.2.2
      rw [Array.extract_eq_self_of_le (by omega), Array.extract_eq_self_of_le (by omega)] at h1
      rw [← hd]
      exact h1.map _
    have hlen : (d'.toList.map (·.1)).length = l.length := hperm.length_eq
    have hx := own_putF (ys := vcells (d'.toList.map (·.1))) hown (by rw [vcells_length, vcells_length, hlen]) n os
    have he : sortWorldK encK 3 w g 0 n d' os = Go.Sort.grow (Go.Sort.putRow id (Go.Sort.ahead w n) g 0 (vcells (d'.toList.map (·.1))).toArray) os := by
      unfold sortWorldK Go.Sort.putRowK
      rw [← flat_vcells]
    rw [he]
    refine ⟨rfl, d'.toList.map (·.1), hperm, ?_, by rw [hlen]; exact hx.1, hx.2.mono (fun i hi => .inl (by rw [hi]; rfl))⟩
    unfold upV
    rw [List.pairwise_map, List.pairwise_iff_getElem]
    intro i j hi hj hij
    have h1 := hsr i j (Nat.zero_le _) hij (by simpa [hds'] using hj)
    unfold ltOf at h1
    have h1 := of_decide_eq_false h1
    rw [getElem!_pos d' j (by simpa using hj), getElem!_pos d' i (by simpa using hi)] at h1
    have h1 : ¬ lcX d'[j].1 d'[i].1 < 0 := h1
    rw [lcX_cmpX d'[j].2.2 d'[i].2.2] at h1
    have h2 := cmpX_anti (d'[i].2.1.trans d'[j].2.1.symm)
    simp only [Array.getElem_toList]
    omega
end Go.Proofs.YtoaklmceejeblaaGreat
/-
  Shaken: what the claims of this seat need of this text. No condition.
-/
namespace Go.Proofs.YtoaklmceejeblaaGreat
set_option maxRecDepth 8000
open Go.RowKit
set_option linter.unusedVariables false
set_option linter.unusedSimpArgs false
def SortU (N : Nat) : Prop := ∀ (l : List Nat) (base : Nat) (v : Value) (w : World), l.length ≤ N → w.ownsRow base 56 1 v l.length (wcells l) →
  Calls Tryz.prog 112 #[v] w fun e w' => e = .returned (.tuple #[]) ∧ ∃ l' : List Nat, l'.Perm l ∧ l'.Pairwise (· ≤ ·) ∧ w'.ownsRow base 56 1 v l'.length (wcells l') ∧ Only (fun i => v.ownBlock = some i) w w'
theorem putRow_enc {α : Type} [Inhabited α] (enc : α → Value) (W : World) (g o : Nat) (d : Array α) : Go.Sort.putRow enc W g o d = Go.Sort.putRow id W g o (d.map enc) := by
  unfold Go.Sort.putRow
  refine Go.Sort.mapBlock_congr W g _ _ fun c e fr _ => ?_
  unfold Go.Sort.putCells
  apply Array.ext
  · simp
  · intro i h1 h2
    simp only [Array.getElem_mapIdx, Array.size_map]
    split
    · rename_i hc
      rw [getElem!_pos d (i - o) (by omega), getElem!_pos (d.map enc) (i - o) (by rw [Array.size_map]; omega), Array.getElem_map]
      rfl
    · rfl
theorem holds_ownU {w : World} {base g n cap : Nat} {l : List Nat} (h : w.ownsRow base 56 1 (.slice (some ⟨g, 0, none⟩) n cap) l.length (wcells l)) : Go.Sort.Holds (Value.int .u64) w g 0 (l.map Int.ofNat).toArray := by
  intro j hj
  have hj' : j < l.length := by simpa using hj
  rcases h.2 with ⟨h0, _⟩ | ⟨g', cap', cur, h1, _, hg, _, _, _, htake⟩
  · cases h0
  injection h1 with h1 _ _
  injection h1 with h1
  injection h1 with h1 _ _
  subst h1
  have h2 : (cur.toList.take (l.length * 1))[j]? = some (.int .u64 (l[j] : Int)) := by rw [htake]; exact wcells_get hj'
  rw [List.getElem?_take, if_pos (by omega), Array.getElem?_toList] at h2
  have he : (l.map Int.ofNat).toArray[j]! = (l[j] : Int) := by rw [getElem!_pos _ j hj]; simp
  refine ⟨?_, ?_⟩
  · rw [Nat.zero_add, he]
    simp only [World.cell?, hg]
    simpa using h2
  · rw [Nat.zero_add]
    simp [World.frozen?, hg]
theorem sorted_ownU {w : World} {base g n cap : Nat} {l : List Nat} (h : w.ownsRow base 56 1 (.slice (some ⟨g, 0, none⟩) n cap) l.length (wcells l)) (d' : Array Int)
    (hp : Go.Sort.PermIn 0 l.length (l.map Int.ofNat).toArray d') (hs : Go.Sort.SortedIn Go.Sort.ltInt 0 l.length d') (m : Nat) (os : Array Obj) :
    ∃ l' : List Nat, l'.Perm l ∧ l'.Pairwise (· ≤ ·) ∧ (Go.Sort.grow (Go.Sort.putRow (Value.int .u64) (Go.Sort.ahead w m) g 0 d') os).ownsRow base 56 1 (.slice (some ⟨g, 0, none⟩) n cap) l'.length (wcells l') ∧ Only (fun i => i = g) w (Go.Sort.grow (Go.Sort.putRow (Value.int .u64) (Go.Sort.ahead w m) g 0 d') os) := by
  have hsz : d'.size = l.length := by rw [hp.1]; simp
  have hperm : d'.toList.Perm (l.map Int.ofNat) := by
    have h1 := hp.2.2
    rw [Array.extract_eq_self_of_le (by omega), Array.extract_eq_self_of_le (by simp)] at h1
    simpa using h1
  have hnn : ∀ x ∈ d'.toList, 0 ≤ x := fun x hx => by
    obtain ⟨y, _, rfl⟩ := List.mem_map.1 (hperm.mem_iff.1 hx)
    exact Int.natCast_nonneg y
  have hback : (d'.toList.map Int.toNat).map Int.ofNat = d'.toList := by
    rw [List.map_map]
    conv => rhs; rw [← List.map_id d'.toList]
    exact List.map_congr_left fun x hx => Int.toNat_of_nonneg (hnn x hx)
  have hn : n = l.length := by
    rcases h.2 with ⟨h0, _⟩ | ⟨g', cap', cur, h1, _⟩
    · cases h0
    · injection h1
  have hp2 : (d'.toList.map Int.toNat).Perm l := by
    have := hperm.map Int.toNat
    rw [List.map_map] at this
    have e : (Int.toNat ∘ Int.ofNat : Nat → Nat) = id := by funext x; rfl
    rwa [e, List.map_id] at this
  have hlen : (d'.toList.map Int.toNat).length = l.length := hp2.length_eq
  have hput : Go.Sort.putRow (Value.int .u64) (Go.Sort.ahead w m) g 0 d' = Go.Sort.putRow id (Go.Sort.ahead w m) g 0 (wcells (d'.toList.map Int.toNat)).toArray := by
    rw [putRow_enc]
    congr 1
    apply Array.ext'
    rw [Array.toList_map]
    unfold wcells
    conv => lhs; rw [← hback]
    rw [List.map_map]
    rfl
  subst hn
  have hx := own_putF (ys := wcells (d'.toList.map Int.toNat)) h (by rw [wcells_length, wcells_length, hlen]) m os
  rw [← hput] at hx
  refine ⟨d'.toList.map Int.toNat, hp2, ?_, by rw [hlen]; exact hx.1, hx.2⟩
  rw [List.pairwise_map, List.pairwise_iff_getElem]
  intro i j hi hj hij
  have h1 := hs i j (Nat.zero_le _) hij (by simpa [hsz] using hj)
  unfold Go.Sort.ltInt at h1
  have h1 := of_decide_eq_false h1
  rw [getElem!_pos d' j (by simpa using hj), getElem!_pos d' i (by simpa using hi)] at h1
  have a1 := hnn d'[i] (by simp)
  have a2 := hnn d'[j] (by simp)
  simp only [Array.getElem_toList]
  omega
end Go.Proofs.YtoaklmceejeblaaGreat
/-
  Shaken: what the claims of this seat need of this text. No condition.
-/
namespace Go.Proofs.YtoaklmceejeblaaGreat
set_option maxRecDepth 8000
open Go.RowKit
set_option linter.unusedVariables false
set_option linter.unusedSimpArgs false
theorem info_u64q : (Tryz.prog.info? 56).map (fun i => (i.zero, i.size, i.bytes)) = some (some (.int .u64 0), 1, 8) := by kernel_rfl
theorem own_cut {w : World} {base g n cap size : Nat} {e : TypeId} {xs : List Value} (h : w.ownsRow base e size (.slice (some ⟨g, 0, none⟩) n cap) n xs) {m : Nat} (hm : m ≤ n) : w.ownsRow base e size (.slice (some ⟨g, 0, none⟩) m cap) m (xs.take (m * size)) := by
  have hl := h.1
  rcases h.2 with ⟨h0, _⟩ | ⟨g', cap', cur, h1, hb, hg, hn, hc, hs, htake⟩
  · cases h0
  injection h1 with h1 _ h3
  injection h1 with h1
  injection h1 with h1 _ _
  subst h1 h3
  have hms : m * size ≤ n * size := Nat.mul_le_mul_right _ hm
  refine ⟨by rw [List.length_take]; omega, .inr ⟨g, cap, cur, rfl, hb, hg, by omega, hc, hs, ?_⟩⟩
  rw [← htake, List.take_take, Nat.min_eq_left hms]
theorem only_putF {w : World} {base g n cap size : Nat} {e : TypeId} {xs : List Value} (h : w.ownsRow base e size (.slice (some ⟨g, 0, none⟩) n cap) n xs) {ys : List Value} (hl : ys.length = xs.length) (m : Nat) : (Go.Sort.putRow id (Go.Sort.ahead w m) g 0 ys.toArray).ownsRow base e size (.slice (some ⟨g, 0, none⟩) n cap) n ys ∧ Only (fun i => i = g) w (Go.Sort.putRow id (Go.Sort.ahead w m) g 0 ys.toArray) := by
  have := own_putF h hl m #[]
  rwa [Go.Sort.grow_empty] at this
set_option maxHeartbeats 1000000 in
theorem qcompact_few (p : Option Addr) (n cap : Nat) (hn : n < 2) (w : World) : Calls Tryz.prog 113 #[.slice p n cap] w fun e w' => e = .returned (.slice p n cap) ∧ w' = w := by
  have d1 : decide (n < 2) = true := decide_eq_true hn
  have d2 : decide ((n : Int) < 2) = true := decide_eq_true (by omega)
  go_enter Tryz.func113, Tryz.ntmps113
  go_wp2_with fail
  go_ret
  exact ⟨rfl, rfl⟩
theorem qcompact_any {l l' : List Nat} (hp : l'.Perm l) (hup : l'.Pairwise (· ≤ ·)) (base g cap : Nat) (w : World) (hown : w.ownsRow base 56 1 (.slice (some ⟨g, 0, none⟩) l'.length cap) l'.length (wcells l')) (hl : l'.length ≤ 1000000) :
    Calls Tryz.prog 113 #[.slice (some ⟨g, 0, none⟩) l'.length cap] w fun e w' => e = .returned (.slice (some ⟨g, 0, none⟩) (insAll [] l).length cap) ∧ w'.ownsRow base 56 1 (.slice (some ⟨g, 0, none⟩) (insAll [] l).length cap) (insAll [] l).length (wcells (insAll [] l)) ∧ Only (fun i => i = g) w w' := by
  have hcap : l'.length ≤ cap := by
    rcases hown.2 with ⟨h0, _⟩ | ⟨g', cap', cur, h1, _, _, hn, _⟩
    · cases h0
    · injection h1 with _ _ h3
      rw [h3]; exact hn
  have hds : (l'.map Int.ofNat).toArray.size = l'.length := by simp
  have hc := AnyE.slices_Compact Tryz.compactU (Value.int .u64) (fun _ => rfl) (EqlAt.intD _ _ _) (NeqAt.intD _ _ _) (0 : Int) (fun w => by first | rfl | kernel_rfl) g 0 cap (l'.map Int.ofNat).toArray w (holds_ownU hown) (by rw [hds]; omega) (by rw [hds]; exact hcap)
  rw [compact_sorted hp hup, hds] at hc
  have hle : (insAll [] l).length ≤ l'.length := by
    have h1 := compact_sorted hp hup
    have h2 : (Lib.compactUpTo (l'.map Int.ofNat).toArray (l'.map Int.ofNat).toArray.size).length ≤ l'.length := by
      unfold Lib.compactUpTo
      rw [List.length_map]
      exact Nat.le_trans (List.length_filter_le _ _) (by simp)
    rw [h1, List.length_map] at h2
    exact h2
  refine hc.mono ?_
  rintro e w' ⟨rfl, q, rfl⟩
  rw [putRow_enc]
  have hx := only_putF (ys := wcells (insAll [] l) ++ List.replicate (l'.length - (insAll [] l).length) (Value.int .u64 0)) hown (by rw [List.length_append, wcells_length, wcells_length, List.length_replicate]; omega) q
  have he : (Array.map (Value.int .u64) ((insAll [] l).map Int.ofNat ++ List.replicate (l'.length - ((insAll [] l).map Int.ofNat).length) (0 : Int)).toArray) = (wcells (insAll [] l) ++ List.replicate (l'.length - (insAll [] l).length) (Value.int .u64 0)).toArray := by
    simp [wcells, Function.comp_def]
  rw [he]
  refine ⟨by simp, ?_, hx.2⟩
  have h3 := own_cut hx.1 hle
  rw [Nat.mul_one, List.take_append_of_le_length (by rw [wcells_length]; exact Nat.le_refl _), List.take_of_length_le (by rw [wcells_length]; exact Nat.le_refl _)] at h3
  exact h3
theorem qcloneU_any (l : List Nat) (base : Nat) (v : Value) (w : World) (hown : w.ownsRow base 56 1 v l.length (wcells l)) (hl : l.length ≤ 1000000) :
    Calls Tryz.prog 114 #[v] w fun e w' => ∃ u, e = .returned u ∧ w'.ownsRow w.heap.size 56 1 u l.length (wcells l) ∧ Grows w w' := by
  rcases id hown.2 with ⟨rfl, h0⟩ | ⟨g, cap, cur, rfl, hb, hg, _⟩
  · have : l = [] := List.eq_nil_of_length_eq_zero h0
    subst this
    refine (AnyE.slices_Clone_nil Tryz.cloneU 0 0 w).mono ?_
    rintro e w' ⟨rfl, rfl⟩
    exact ⟨_, rfl, World.ownsRow_nil _ _ _ _, Below.refl _ _⟩
  · obtain ⟨i0, hi, hz0, hz1, hz2⟩ := info_parts info_u64q
    refine (AnyE.slices_Clone Tryz.cloneU i0 (.int .u64 0) 1 8 hi hz0 hz1 hz2 rfl (by decide) (fun w => by first | rfl | kernel_rfl) g 0 l.length cap (wcells l) w (by rw [wcells_length, Nat.mul_one]) (by unfold maxLen; omega) (by omega) (fun j u hj => ?_) (fun u hu => ?_)).mono ?_
    · have := hown.cells (g := g) rfl _ _ hj
      rwa [Addr.add_lit] at this
    · unfold wcells at hu
      obtain ⟨n, _, rfl⟩ := List.mem_map.1 hu
      rfl
    · rintro e w' ⟨u, rfl, h1, _, h3⟩
      exact ⟨u, rfl, h1, h3⟩
set_option maxHeartbeats 8000000 in
theorem qsmallest_of {N : Nat} (hS : SortU N) (l : List Nat) (base : Nat) (v : Value) (w : World) (hown : w.ownsRow base 56 1 v l.length (wcells l)) (hN : l.length ≤ N) (hl : l.length ≤ 1000000) :
    Calls Tryz.prog 46 #[v] w fun e w' => ∃ u, e = .returned (.tuple #[u, .bool (decide ((insAll [] l).length ≤ 32))]) ∧ w'.ownsRow w.heap.size 56 1 u ((insAll [] l).take 32).length (wcells ((insAll [] l).take 32)) ∧ Only (fun i => v.ownBlock = some i) w w' := by
  have HS := hidden (hS l base v w hN hown)
  obtain ⟨U, hU⟩ : ∃ U, U = insAll [] l := ⟨_, rfl⟩
  have hle : U.length ≤ l.length := by
    rw [hU]
    have hsub : ∀ x ∈ insAll [] l, x ∈ l := fun x hx => by rcases insAll_mem.1 hx with h | h; exact h; cases h
    have hnd : (insAll [] l).Nodup := (insAll_inc List.Pairwise.nil).imp (fun h => Nat.ne_of_lt h)
    exact hnd.length_le_of_subset hsub
  have HU := hidden hU
  rw [← hU]
  rcases id hown.2 with ⟨rfl, h0⟩ | ⟨g, cap, cur, rfl, hgb, hg, hgc, _⟩
  · have hnil : l = [] := List.eq_nil_of_length_eq_zero h0
    subst hnil
    have hU0 : U = [] := by rw [hU]; rfl
    subst hU0
    have HC := hidden (fun W => qcompact_few none 0 0 (by omega) W)
    have HK := hidden (fun W => qcloneU_any [] 0 (.slice none 0 0) W (World.ownsRow_nil _ _ _ _) (by simp))
    have HS2 := hidden (HS.out.mono (fun e w' (h : e = .returned (.tuple #[]) ∧ ∃ l' : List Nat, l'.Perm [] ∧ l'.Pairwise (· ≤ ·) ∧ w'.ownsRow base 56 1 (.slice none 0 0) l'.length (wcells l') ∧ Only (fun i => (Value.slice none 0 0).ownBlock = some i) w w') => (⟨h.1, h.2.elim fun l' hh => hh.2.2.2.grows (fun i hi => by cases hi)⟩ : e = .returned (.tuple #[]) ∧ Grows w w')))
    clear HS hown hU hle h0 hN hl hS
    go_enter Tryz.func46, Tryz.ntmps46
    go_wp2_with (first
      | (go_at_call 112; refine (HS2.out).mono ?_; rintro e w1 ⟨rfl, g1⟩; have HG1 := hidden g1; clear g1)
      | (go_at_call 113; refine (HC.out _).mono ?_; rintro e w2 ⟨rfl, rfl⟩)
      | (go_at_call 114; refine (HK.out _).mono ?_; rintro e w3 ⟨u, rfl, ho3, g3⟩; have HO3 := hidden ho3; have HG3 := hidden (HG1.out.of_below g3); clear ho3 g3))
    go_ret2
    exact ⟨_, rfl, ownsRow_base HO3.out HG1.out.size, Only.of_grows HG3.out _⟩
  · obtain ⟨L, hL⟩ : ∃ L, L = l.length := ⟨_, rfl⟩
    obtain ⟨M, hM⟩ : ∃ M, M = U.length := ⟨_, rfl⟩
    have HM := hidden hM
    have hML : M ≤ 1000000 := by omega
    have HS2 := hidden (HS.out.mono (fun e w' (h : e = .returned (.tuple #[]) ∧ ∃ l' : List Nat, l'.Perm l ∧ l'.Pairwise (· ≤ ·) ∧ w'.ownsRow base 56 1 (.slice (some ⟨g, 0, none⟩) l.length cap) l'.length (wcells l') ∧ Only (fun i => (Value.slice (some ⟨g, 0, none⟩) l.length cap).ownBlock = some i) w w') => (⟨h.1, h.2.elim fun l' hh => ⟨l', hh.1, hh.2.1, hh.2.2.1, hh.2.2.2.mono (fun i hi => .inl (by injection hi with hi; exact hi.symm))⟩⟩ : e = .returned (.tuple #[]) ∧ ∃ l' : List Nat, l'.Perm l ∧ l'.Pairwise (· ≤ ·) ∧ w'.ownsRow base 56 1 (.slice (some ⟨g, 0, none⟩) l.length cap) l'.length (wcells l') ∧ Only (fun i => i = g) w w')))
    have HC := hidden (fun (W : World) (l' : List Nat) (hp : l'.Perm l) (hup : l'.Pairwise (· ≤ ·)) (ho : W.ownsRow base 56 1 (.slice (some ⟨g, 0, none⟩) l.length cap) l'.length (wcells l')) => (show Calls Tryz.prog 113 #[.slice (some ⟨g, 0, none⟩) l.length cap] W fun e w' => e = .returned (.slice (some ⟨g, 0, none⟩) U.length cap) ∧ w'.ownsRow base 56 1 (.slice (some ⟨g, 0, none⟩) U.length cap) U.length (wcells U) ∧ Only (fun i => i = g) W w' by
      have hlen := hp.length_eq
      rw [← hlen] at ho ⊢
      rw [hU]
      exact qcompact_any hp hup base g cap W ho (by rw [hlen]; exact hl)))
    have HK := hidden (fun (W : World) (ho : W.ownsRow base 56 1 (.slice (some ⟨g, 0, none⟩) U.length cap) U.length (wcells U)) => (show Calls Tryz.prog 114 #[.slice (some ⟨g, 0, none⟩) (min U.length 32) cap] W fun e w' => ∃ u, e = .returned u ∧ w'.ownsRow W.heap.size 56 1 u (U.take 32).length (wcells (U.take 32)) ∧ Grows W w' by
      have h1 := own_cut ho (m := min U.length 32) (Nat.min_le_left _ _)
      have e1 : (wcells U).take (min U.length 32 * 1) = wcells (U.take 32) := by
        unfold wcells
        rw [Nat.mul_one, ← List.map_take]
        congr 1
        rw [Nat.min_comm, ← List.take_take, List.take_length]
      have e2 : min U.length 32 = (U.take 32).length := by rw [List.length_take, Nat.min_comm]
      rw [e1] at h1
      rw [e2] at h1 ⊢
      exact qcloneU_any (U.take 32) base _ W h1 (by rw [List.length_take]; omega)))
    have HCAP := hidden (show M ≤ cap by omega)
    rw [← hL] at HS2 HC ⊢
    rw [← hM] at HC HK ⊢
    obtain ⟨K, hK⟩ : ∃ K, K = min M 32 := ⟨_, rfl⟩
    rw [← hK] at HK
    have HKK := hidden hK
    clear HS hown hU hle hN hl hS hL hM hg hgb hgc
    have hb0 : K ≤ cap := by have := HCAP.out; omega
    have hminN : min M 32 = K := HKK.out.symm
    clear hK
    have hminI : min (M : Int) 32 = (K : Int) := by omega
    have hb1 : (K : Int) ≤ (cap : Int) := by omega
    have hb2 : (0 : Int) ≤ (K : Int) := by omega
    have HKM := hidden (show ((K : Int) == (M : Int)) = decide (M ≤ 32) by
      by_cases h : M ≤ 32
      · rw [decide_eq_true h]; exact beq_iff_eq.2 (by omega)
      · rw [decide_eq_false h]; exact beq_eq_false_iff_ne.2 (by omega))
    go_enter Tryz.func46, Tryz.ntmps46
    go_wp2_with (first
      | (go_at_call 112; refine (HS2.out).mono ?_; rintro e w1 ⟨rfl, l', hp, hup, ho1, hx1⟩; have HP := hidden hp; have HUP := hidden hup; have HO1 := hidden ho1; have HX1 := hidden hx1; clear hp hup ho1 hx1)
      | (go_at_call 113; refine (HC.out _ l' HP.out HUP.out HO1.out).mono ?_; rintro e w2 ⟨rfl, ho2, hx2⟩; have HO2 := hidden ho2; have HX2 := hidden (HX1.out.trans hx2 (fun i hi => .inl hi)); clear ho2 hx2)
      | (go_at_call 114; refine (HK.out _ HO2.out).mono ?_; rintro e w3 ⟨u, rfl, ho3, g3⟩; have HO3 := hidden ho3; have HX3 := hidden (HX2.out.trans (Only.of_grows g3 (fun i => i = g)) (fun i hi => .inl hi)); clear ho3 g3))
    go_ret2
    refine ⟨u, ?_, ownsRow_base HO3.out (by have := HX2.out.size; exact this), HX3.out.mono (fun i hi => .inl (by rw [hi]; rfl))⟩
    show Ending.returned (.tuple #[u, .bool ((K : Int) == (M : Int))]) = _
    rw [HKM.out]
end Go.Proofs.YtoaklmceejeblaaGreat
/-
  Shaken: what the claims of this seat need of this text. No condition.
-/
namespace Go.Proofs.YtoaklmceejeblaaGreat
set_option maxRecDepth 8000
open Go.RowKit
set_option linter.unusedVariables false
set_option linter.unusedSimpArgs false
theorem vcells_one (l : List Val) : ∀ u ∈ vcells l, u.oneCell' = true := by
  induction l with
  | nil => intro u hu; cases hu
  | cons x l ih =>
    intro u hu
    rw [vcells] at hu
    simp only [List.mem_cons] at hu
    rcases hu with rfl | rfl | rfl | hu
    · rfl
    · rfl
    · rfl
    · exact ih u hu
theorem reads_vcells {w : World} {b off n c : Nat} {l : List Val} (h : ∀ (j : Nat) (x : Val), l[j]? = some x → w.cell? ⟨b, off + j * 3, none⟩ = some (.int .i64 x.k) ∧ w.cell? ⟨b, off + j * 3 + 1, none⟩ = some (.int .i64 x.n) ∧ w.cell? ⟨b, off + j * 3 + 2, none⟩ = some (.string x.t)) :
    ∀ j u, (vcells l)[j]? = some u → w.cell? ⟨b, off + j, none⟩ = some u := by
  intro j u hj
  have hlt : j < l.length * 3 := by rw [← vcells_length]; exact (List.getElem?_eq_some_iff.1 hj).1
  have hq : j / 3 < l.length := by omega
  have hx := List.getElem?_eq_getElem hq
  obtain ⟨h1, h2, h3⟩ := h _ _ hx
  rw [vcells_at hx] at hj
  have ht : j = j / 3 * 3 + j % 3 := by omega
  have hm : j % 3 = 0 ∨ j % 3 = 1 ∨ j % 3 = 2 := by omega
  generalize l[j / 3] = y at *
  generalize j / 3 = q at *
  generalize j % 3 = r at *
  subst ht
  rcases hm with rfl | rfl | rfl
  · rw [← hj]; exact h1
  · rw [← hj]; exact h2
  · rw [← hj]; exact h3
set_option maxHeartbeats 2000000 in
theorem qcloneV_zero (ad : Addr) (c : Nat) (w : World) :
    Calls Tryz.prog 39 #[.slice (some ad) 0 c] w fun e w' => ∃ u, e = .returned u ∧ w'.ownsRow w.heap.size 35 3 u 0 [] ∧ Grows w w' := by
  have q22 : ∀ (w : World) (a : Option Addr) (n c n' c' : Nat), (binOp .eql 22 (.slice a n c) (.slice none n' c')).run Tryz.prog w = .ok (.bool a.isNone) w := fun w a n c n' c' => Lib.run_eql_slice_nil w _ _ a n c n' c' Tryz.underlying22
  obtain ⟨i0, hi, hz0, hz1, hz2⟩ := info_parts info_valT
  go_enter Tryz.func39, Tryz.ntmps39
  go_wp2_with (at_builtin; refine wpList_append_own _ rfl _ _ 22 rfl w.heap.size 35 i0 (.agg #[.int .i64 0, .int .i64 0, .string ⟨#[]⟩]) 3 32 Tryz.underlying22 hi hz0 hz1 hz2 rfl (by decide) _ _ _ rfl (World.ownsRow_made w #[] 0 (Nat.le_refl _) (Nat.zero_le _) (by simp)) ad 0 c [] rfl (by simp) (fun j u hj => by cases hj) (fun u hu => by cases hu) (by simp [maxLen]) (by simp) (by simp) ?_)
  intro v' w1 hown hgrow hnil
  go_wp2
  go_ret
  exact ⟨v', rfl, by simpa using hown, ((Below.refl _ w).alloc (Nat.le_refl _) _).grown hgrow (by simp) (by intro k hk; simp [Value.ownBlock] at hk; omega)⟩
theorem qcloneV_any (l : List Val) (v : Value) (w : World) (hv : ReadsV w v l) (hl : l.length ≤ 1000000) :
    Calls Tryz.prog 39 #[v] w fun e w' => ∃ u, e = .returned u ∧ w'.ownsRow w.heap.size 35 3 u l.length (vcells l) ∧ Grows w w' := by
  obtain ⟨A, c, rfl, hle, hcell⟩ := hv
  cases A with
  | none =>
    have : l = [] := by
      cases l with
      | nil => rfl
      | cons x r => obtain ⟨b, off, h, _⟩ := hcell (by simp); cases h
    subst this
    refine (AnyE.slices_Clone_nil Tryz.cloneV 0 c w).mono ?_
    rintro e w' ⟨rfl, rfl⟩
    exact ⟨_, rfl, World.ownsRow_nil _ _ _ _, Below.refl _ _⟩
  | some ad =>
    obtain ⟨i0, hi, hz0, hz1, hz2⟩ := info_parts info_valT
    by_cases h0 : 0 < l.length
    · obtain ⟨b, off, he, hc⟩ := hcell h0
      injection he with he
      subst he
      refine (AnyE.slices_Clone Tryz.cloneV i0 (.agg #[.int .i64 0, .int .i64 0, .string ⟨#[]⟩]) 3 32 hi hz0 hz1 hz2 rfl (by decide) (fun w => by first | rfl | kernel_rfl) b off l.length c (vcells l) w (vcells_length l) (by unfold maxLen; omega) (by omega) (reads_vcells (n := 0) (c := 0) hc) (vcells_one l)).mono ?_
      rintro e w' ⟨u, rfl, h1, _, h3⟩
      exact ⟨u, rfl, h1, h3⟩
    · have hnil : l = [] := List.eq_nil_of_length_eq_zero (by omega)
      subst hnil
      exact qcloneV_zero ad c w
end Go.Proofs.YtoaklmceejeblaaGreat
/-
  Shaken: what the claims of this seat need of this text. No condition.
-/
namespace Go.Proofs.YtoaklmceejeblaaGreat
set_option maxRecDepth 8000
open Go.RowKit
set_option linter.unusedVariables false
set_option linter.unusedSimpArgs false
set_option maxHeartbeats 2000000 in
theorem uins_none (p : Option Addr) (cap : Nat) (w : World) : Calls Tryz.prog 170 #[.slice p 0 cap, .int .i64 0, .int .i64 0] w fun e w' => e = .returned (.tuple #[]) ∧ w' = w := by
  go_enter Tryz.func170, Tryz.ntmps170
  go_wp2
  refine wp_loop_rounds 1 ?_
  rw [rounds_succ]
  go_wp2
  go_end0
  exact ⟨rfl, rfl⟩
set_option maxHeartbeats 2000000 in
theorem updq_none (p : Option Addr) (cap : Nat) (lim : Int) (w : World) : Calls Tryz.prog 156 #[.slice p 0 cap, .int .i64 0, .int .i64 0, .int .i64 lim] w fun e w' => e = .returned (.tuple #[]) ∧ w' = w := by
  have HI := hidden (fun W => uins_none p cap W)
  go_enter Tryz.func156, Tryz.ntmps156
  go_wp2
  refine wp_loop_rounds 1 ?_
  rw [rounds_succ]
  go_wp2_with (go_at_call 170; refine (HI.out _).mono ?_; rintro e w' ⟨rfl, rfl⟩)
  (try simp only [Exit.inBlock, Exit.then]); refine bodyPost_ret (results_none rfl _ _ _) rfl ?_
  exact ⟨rfl, rfl⟩
set_option maxHeartbeats 2000000 in
theorem usort_none (p : Option Addr) (cap : Nat) (w : World) : Calls Tryz.prog 112 #[.slice p 0 cap] w fun e w' => e = .returned (.tuple #[]) ∧ w' = w := by
  have HP := hidden (fun lim W => updq_none p cap lim W)
  have HL := hidden (fun W => ulen_any 0 W (by omega) (by omega))
  go_enter Tryz.func112, Tryz.ntmps112
  go_wp2_with (first | (go_at_call 105; refine (HL.out _).mono ?_; rintro e w' ⟨rfl, rfl⟩) | (go_at_call 156; refine (HP.out _ _).mono ?_; rintro e w' ⟨rfl, rfl⟩))
  go_end0
  exact ⟨rfl, rfl⟩
set_option maxHeartbeats 4000000 in
theorem updq_few (blk off cap : Nat) (d : Array Int) (lim : Int) (w : World) (hH : Go.Sort.Holds (Value.int .u64) w blk off d) (hs : d.size ≤ 12) :
    Calls Tryz.prog 156 #[.slice (some ⟨blk, off, none⟩) d.size cap, .int .i64 0, .int .i64 (d.size : Int), .int .i64 lim] w fun e w' =>
      e = .returned (.tuple #[]) ∧ ∃ n, w' = Go.Sort.putRow (Value.int .u64) (Go.Sort.ahead w n) blk off (Go.Sort.insertionSort Go.Sort.ltInt d 0 d.size) := by
  have HI := hidden (uins_any blk off cap 0 d.size d w hH (Nat.zero_le _) (Nat.le_refl _) (by omega))
  obtain ⟨n, hn⟩ : ∃ n, n = d.size := ⟨_, rfl⟩
  rw [← hn] at HI hs ⊢
  have hd : decide ((n : Int) ≤ 12) = true := decide_eq_true (by omega)
  have hd2 : decide (n ≤ 12) = true := decide_eq_true hs
  have hw : wrap64 (n : Int) = (n : Int) := by unfold wrap64; omega
  clear hH hn
  go_enter Tryz.func156, Tryz.ntmps156
  go_wp2
  refine wp_loop_rounds 1 ?_
  rw [rounds_succ]
  go_wp2_with (go_at_call 170; refine (HI.out).mono ?_; rintro e w' ⟨rfl, k, rfl⟩)
  (try simp only [Exit.inBlock, Exit.then]); refine bodyPost_ret (results_none rfl _ _ _) rfl ?_
  exact ⟨rfl, k, rfl⟩
set_option maxHeartbeats 4000000 in
theorem usort_few (blk off cap : Nat) (d : Array Int) (w : World) (hH : Go.Sort.Holds (Value.int .u64) w blk off d) (hs : d.size ≤ 12) :
    Calls Tryz.prog 112 #[.slice (some ⟨blk, off, none⟩) d.size cap] w fun e w' =>
      e = .returned (.tuple #[]) ∧ ∃ n, w' = Go.Sort.putRow (Value.int .u64) (Go.Sort.ahead w n) blk off (Go.Sort.insertionSort Go.Sort.ltInt d 0 d.size) := by
  have HP := hidden (fun lim => updq_few blk off cap d lim w hH hs)
  have HL := hidden (fun W => ulen_any (d.size : Int) W (by omega) (by omega))
  obtain ⟨n, hn⟩ : ∃ n, n = d.size := ⟨_, rfl⟩
  rw [← hn] at HP HL hs ⊢
  have wr : IntKind.u64.wrap (n : Int) = n := by simp [IntKind.wrap, IntKind.bits, IntKind.signed]; omega
  clear hH hn
  go_enter Tryz.func112, Tryz.ntmps112
  go_wp2_with (first | (go_at_call 105; refine (HL.out _).mono ?_; rintro e w' ⟨rfl, rfl⟩) | (go_at_call 156; refine (HP.out _).mono ?_; rintro e w' ⟨rfl, k, rfl⟩))
  go_end0
  exact ⟨rfl, k, rfl⟩
theorem sortU_12 : SortU 12 := by
  intro l base v w hl hown
  rcases id hown.2 with ⟨rfl, h0⟩ | ⟨g, cap, cur, rfl, hgb, hg, hgc, _⟩
  · have hnil : l = [] := List.eq_nil_of_length_eq_zero h0
    subst hnil
    refine (usort_none none 0 w).mono ?_
    rintro e w' ⟨rfl, rfl⟩
    exact ⟨rfl, [], List.Perm.refl _, List.Pairwise.nil, hown, Only.refl _ _⟩
  · have hds : (l.map Int.ofNat).toArray.size = l.length := by simp
    have hc := usort_few g 0 cap (l.map Int.ofNat).toArray w (holds_ownU hown) (by rw [hds]; exact hl)
    rw [hds] at hc
    refine hc.mono ?_
    rintro e w' ⟨rfl, n, rfl⟩
    have hi := Go.Sort.insertionSort_holds Go.Sort.swo_ltInt (l.map Int.ofNat).toArray 0 l.length (Nat.zero_le _) (by rw [hds]; exact Nat.le_refl _)
    obtain ⟨l', h1, h2, h3, h4⟩ := sorted_ownU hown _ hi.1 hi.2 n #[]
    rw [Go.Sort.grow_empty] at h3 h4
    exact ⟨rfl, l', h1, h2, h3, h4.mono (fun i hi => .inl (by rw [hi]; rfl))⟩
end Go.Proofs.YtoaklmceejeblaaGreat
/-
  Shaken: what the claims of this seat need of this text. No condition.
-/
namespace Go.Proofs.YtoaklmceejeblaaGreat
set_option maxRecDepth 8000
open Go.RowKit
set_option linter.unusedVariables false
set_option linter.unusedSimpArgs false
def cm0 : List Int := List.replicate 256 0
def cmF (l : List Val) : List Int := l.foldl (fun cm x => addC cm x 4) cm0
theorem cmF_snoc (l : List Val) (x : Val) : cmF (l ++ [x]) = addC (cmF l) x 4 := by simp [cmF]
theorem cmF_length (l : List Val) : (cmF l).length = 256 := by
  refine snoc_ind (P := fun l => (cmF l).length = 256) (by simp [cmF, cm0]) (fun l x ih => ?_) l
  rw [cmF_snoc, addC_length, ih]
theorem cmF_bd (l : List Val) : ∀ c ∈ cmF l, 0 ≤ c ∧ c ≤ 4 * (l.length : Int) := by
  refine snoc_ind (P := fun l => ∀ c ∈ cmF l, 0 ≤ c ∧ c ≤ 4 * (l.length : Int)) (fun c hc => ?_) (fun l x ih c hc => ?_) l
  · simp [cmF, cm0] at hc
    subst hc
    simp
  · rw [cmF_snoc] at hc
    have h := addC_bd (cmF l) x _ (by omega) ih 4 c hc
    rw [List.length_append]
    simp only [List.length_cons, List.length_nil]
    omega
def hsF (l : List Val) : List Nat := l.map fun x => hashR (mix 3) [x]
theorem hsF_snoc (l : List Val) (x : Val) : hsF (l ++ [x]) = hsF l ++ [hashR (mix 3) [x]] := by simp [hsF]
theorem hsF_length (l : List Val) : (hsF l).length = l.length := by simp [hsF]
noncomputable def skB (l : List Val) : Sk where
  rows := l.length
  nulls := (l.length : Int) - ((sortV l).length : Int)
  hs := (insAll [] (hsF (sortV l))).take 32
  ok := decide ((insAll [] (hsF (sortV l))).length ≤ 32)
  cm := cmF (sortV l)
  fs := fenF (sortV l)
  rk := rkF (ltN (sortV l)) (leN (sortV l)) (fenF (sortV l))
theorem size_sk : (Tryz.prog.info? 29).map (·.size) = some 7 := by kernel_rfl
theorem wpList_store_sk {wr : World} {ops : Array Oper} {rest : List Oper} {o : Oper} {a : Act} {Q : Exit → Act → World → Prop} (hgd : o.guard = none) (x y : Operand) (ho : o.op = .store 29 x y)
    (g : Nat) (hx : a.eval x = .pointer (some ⟨g, 0, none⟩)) (z0 z1 z2 z3 z4 z5 z6 : Value) (hy : a.eval y = .agg #[z0, z1, z2, z3, z4, z5, z6]) (h1 : (#[z0, z1, z2, z3, z4, z5, z6] : Array Value).all (·.oneCell') = true) (y0 y1 y2 y3 y4 y5 y6 : Value) (hr : Row wr g 29 [y0, y1, y2, y3, y4, y5, y6])
    (hk : ∀ W, Row W g 29 [z0, z1, z2, z3, z4, z5, z6] → Only (fun i => i = g) wr W → wpList Tryz.prog ops Q rest (a.put o.dst undef) W) : wpList Tryz.prog ops Q (o :: rest) a wr :=
  wpList_store_row hgd _ x y ho g #[z0, z1, z2, z3, z4, z5, z6] hx hy 29 #[y0, y1, y2, y3, y4, y5, y6] hr size_sk rfl h1 (hk _ (hr.setRowK [z0, z1, z2, z3, z4, z5, z6]) ⟨rfl, rfl, rfl, by simp [World.setRow], fun i _ hn => setRow_other wr g i _ hn⟩)
theorem at_sk {wr : World} {ops : Array Oper} {rest : List Oper} {op : Oper} {a : Act} {Q : Exit → Act → World → Prop} (hgd : op.guard = none) (x y : Operand) (ho : op.op = .store 29 x y) (h : wpList Tryz.prog ops Q (op :: rest) a wr) : wpList Tryz.prog ops Q (op :: rest) a wr := h
theorem results_sk {fn : Func} {p : Tmp} (h : fn.results = #[.cell p 29]) (tmps : Array Value) (w : World) (g : Nat) (z0 z1 z2 z3 z4 z5 z6 : Value) (hp : tmps.getD p undef = .pointer (some ⟨g, 0, none⟩)) (hg : Row w g 29 [z0, z1, z2, z3, z4, z5, z6]) :
    (results fn tmps).run Tryz.prog w = .ok (.agg #[z0, z1, z2, z3, z4, z5, z6]) w := results_cell_row h _ _ _ _ _ _ _ hp hg Tryz.underlying29 rfl size_sk
structure BldSt (w : World) (sv : List Val) (bs bc : Nat) (vs : Value) (k : Nat) (h : Value) (X : World) : Prop where
  srt : X.ownsRow w.heap.size 35 3 vs sv.length (vcells sv)
  var : Row X bs 22 [vs]
  res : Row X w.heap.size 29 [.int .i64 0, .int .i64 0, .slice none 0 0, .bool false, .slice none 0 0, .slice none 0 0, .slice none 0 0]
  cnt : Row X bc 67 (icells (cmF (sv.take k)))
  hsh : X.ownsRow w.heap.size 56 1 h (hsF (sv.take k)).length (wcells (hsF (sv.take k)))
  grows : Grows w X
  low : w.heap.size < bs ∧ w.heap.size < bc
theorem BldSt.grow {w : World} {sv : List Val} {bs bc : Nat} {vs : Value} {k : Nat} {h : Value} {X Y : World} (hs : BldSt w sv bs bc vs k h X) (hg : Grows X Y) : BldSt w sv bs bc vs k h Y :=
  ⟨ownsRow_grow hs.srt hg, hs.var.grow hg, hs.res.grow hg, hs.cnt.grow hg, ownsRow_grow hs.hsh hg, hs.grows.of_below hg, hs.low⟩
theorem BldSt.next {w : World} {sv : List Val} {bs bc : Nat} {vs : Value} {k : Nat} {h h' : Value} {X Y Z : World} {x : Val} (hs : BldSt w sv bs bc vs k h X) (hx : sv[k]? = some x)
    (ho : Only (fun i => h.ownBlock = some i) X Y) (hh : Y.ownsRow w.heap.size 56 1 h' (hsF (sv.take k) ++ [hashR (mix 3) [x]]).length (wcells (hsF (sv.take k) ++ [hashR (mix 3) [x]])))
    (hz : Only (fun i => i = bc) Y Z) (hc : Row Z bc 67 (icells (addC (cmF (sv.take k)) x 4))) : BldSt w sv bs bc vs (k + 1) h' Z := by
  have htk : sv.take (k + 1) = sv.take k ++ [x] := by rw [List.take_add_one, hx]; rfl
  have n1 := ownsRow_apart hs.srt hs.hsh (by decide)
  have n2 := ownsRow_row_apart hs.hsh hs.var (by decide)
  have n3 := ownsRow_row_apart hs.hsh hs.res (by decide)
  have n4 := ownsRow_row_apart hs.hsh hs.cnt (by decide)
  have c1 := ho.row hs.cnt n4
  have s1 := ownsRow_only hs.srt ho n1
  have m1 := ownsRow_row_apart s1 c1 (by decide)
  have m2 := ownsRow_row_apart hh c1 (by decide)
  have v1 := ho.row hs.var n2
  have r1 := ho.row hs.res n3
  have d1 : bs ≠ bc := fun e => by
    have a := v1; have b := c1
    unfold Row at a b
    rw [e, b] at a
    injection a with a
    injection a with _ a
    exact absurd a (by decide)
  have d2 : w.heap.size ≠ bc := by have := hs.low; omega
  refine ⟨ownsRow_only s1 hz (fun j hj e => m1 (by rw [hj, e])), hz.row v1 d1, hz.row r1 d2, by rw [htk, cmF_snoc]; exact hc, ?_, hz.below (ho.below hs.grows (fun i hi => (hs.hsh.lt i hi).1)) (fun i hi => by have := hs.low; omega), hs.low⟩
  rw [htk, hsF_snoc]
  exact ownsRow_only hh hz (fun j hj e => m2 (by rw [hj, e]))
structure Bl2 (w : World) (sv : List Val) (bs : Nat) (vs : Value) (b : Nat) (fl : List Value) (vL : Value) (X : World) : Prop where
  srt : X.ownsRow w.heap.size 35 3 vs sv.length (vcells sv)
  var : Row X bs 22 [vs]
  res : Row X w.heap.size 29 [.int .i64 0, .int .i64 0, .slice none 0 0, .bool false, .slice none 0 0, .slice none 0 0, .slice none 0 0]
  lst : X.ownsRow w.heap.size 3 1 vL (cmF sv).length (icells (cmF sv))
  row : Row X b 29 fl
  grows : Grows w X
  low : w.heap.size < bs ∧ w.heap.size < b
theorem Bl2.grow {w : World} {sv : List Val} {bs b : Nat} {vs vL : Value} {fl : List Value} {X Y : World} (h : Bl2 w sv bs vs b fl vL X) (hg : Grows X Y) : Bl2 w sv bs vs b fl vL Y :=
  ⟨ownsRow_grow h.srt hg, h.var.grow hg, h.res.grow hg, ownsRow_grow h.lst hg, h.row.grow hg, h.grows.of_below hg, h.low⟩
theorem row_ne_q {X : World} {a b : Nat} {e f : TypeId} {xs ys : List Value} (h : Row X a e xs) (h' : Row X b f ys) (he : e ≠ f) : a ≠ b := fun hab => by
  unfold Row at h h'
  rw [hab, h'] at h
  injection h with h
  injection h with _ h
  exact he h.symm
theorem Bl2.hashes {w : World} {sv : List Val} {bs b : Nat} {vs vL h : Value} {fl : List Value} {X Y : World} {n : Nat} {xs : List Value} (hs : Bl2 w sv bs vs b fl vL X) (hh : X.ownsRow w.heap.size 56 1 h n xs) (ho : Only (fun i => h.ownBlock = some i) X Y) : Bl2 w sv bs vs b fl vL Y :=
  ⟨ownsRow_only hs.srt ho (ownsRow_apart hs.srt hh (by decide)), ho.row hs.var (ownsRow_row_apart hh hs.var (by decide)), ho.row hs.res (ownsRow_row_apart hh hs.res (by decide)), ownsRow_only hs.lst ho (ownsRow_apart hs.lst hh (by decide)), ho.row hs.row (ownsRow_row_apart hh hs.row (by decide)), ho.below hs.grows (fun i hi => (hh.lt i hi).1), hs.low⟩
theorem Bl2.put {w : World} {sv : List Val} {bs b : Nat} {vs vL : Value} {fl gl : List Value} {X Y : World} (hs : Bl2 w sv bs vs b fl vL X) (ho : Only (fun i => i = b) X Y) (hr : Row Y b 29 gl) : Bl2 w sv bs vs b gl vL Y :=
  ⟨ownsRow_only hs.srt ho (fun k hk e => ownsRow_row_apart hs.srt hs.row (by decide) (by rw [hk, e])), ho.row hs.var (row_ne_q hs.var hs.row (by decide)), ho.row hs.res (by have := hs.low; omega), ownsRow_only hs.lst ho (fun k hk e => ownsRow_row_apart hs.lst hs.row (by decide) (by rw [hk, e])), hr, ho.below hs.grows (fun i hi => by have := hs.low; omega), hs.low⟩
def BldRel (w : World) (sv : List Val) (bs bc : Nat) (vs h i : Value) (wr : World) : Prop := ∃ k : Nat, k ≤ sv.length ∧ i = .int .i64 (k : Int) ∧ BldSt w sv bs bc vs k h wr
def OwnI16 (H : Nat) (l : List Int) : Value → World → Prop := fun v w => w.ownsRow H 3 1 v l.length (icells l)
theorem OwnI16.lasts {H : Nat} {l : List Int} : ∀ v w w', OwnI16 H l v w → Grows w w' → OwnI16 H l v w' := fun _ _ _ h hg => ownsRow_grow h hg
def NewSk (H : Nat) : Value → World → Prop := fun v w => ∃ b, v = .pointer (some ⟨b, 0, none⟩) ∧ H ≤ b ∧ Row w b 29 [.int .i64 0, .int .i64 0, .slice none 0 0, .bool false, .slice none 0 0, .slice none 0 0, .slice none 0 0]
theorem NewSk.lasts {H : Nat} : ∀ v w w', NewSk H v w → Grows w w' → NewSk H v w' := fun _ _ _ ⟨b, h1, h2, h3⟩ hg => ⟨b, h1, h2, h3.grow hg⟩
theorem perm_sortV {K : Int} {l l' : List Val} (h : oneOr K l) (hp : l'.Perm (liveV l)) (hu : upV l') : l' = sortV l := by
  have hk : oneKd K l' := fun x hx => by
    have h1 := hp.mem_iff.1 hx
    unfold liveV at h1
    obtain ⟨h2, h3⟩ := List.mem_filter.1 h1
    exact (h x h2).resolve_left (by simpa using h3)
  exact up_ext hk hu (sortV_up h) (hp.trans (sortV_perm l).symm)
theorem zc256 : Tryz.zeroCells67 = Array.replicate 256 (.int .i64 0) := by first | rfl | kernel_rfl
theorem own_slice_q {w : World} {base : Nat} {e : TypeId} {size : Nat} {v : Value} {n : Nat} {xs : List Value} (h : w.ownsRow base e size v n xs) : ∃ A m c, v = .slice A m c := by
  rcases h.2 with ⟨rfl, _⟩ | ⟨g, cap, cur, rfl, _⟩ <;> exact ⟨_, _, _, rfl⟩
theorem own_len_q {w : World} {base : Nat} {e : TypeId} {size : Nat} {A : Option Addr} {m c n : Nat} {xs : List Value} (h : w.ownsRow base e size (.slice A m c) n xs) : m = n := by
  rcases h.2 with ⟨h1, h0⟩ | ⟨g, cap, cur, h1, _⟩
  · injection h1 with _ h2 _; omega
  · injection h1
set_option maxHeartbeats 16000000 in
theorem qBuild_of {N : Nat} (hS : SortU N) {K : Int} (v : Value) (l : List Val) (w : World) (hv : ReadsV w v l) (hN : l.length ≤ N) (hl : l.length ≤ 100000) (hK : oneOr K l) :
    Calls Tryz.prog 14 #[v] w fun e w' => ∃ u, e = .returned u ∧ IsK w' u (skB l) ∧ Grows w w' := by
  have HKO := hidden hK
  have hlv : oneKd K (liveV l) := fun x hx => by
    unfold liveV at hx
    obtain ⟨h2, h3⟩ := List.mem_filter.1 hx
    exact (hK x h2).resolve_left (by simpa using h3)
  have hll : (liveV l).length ≤ l.length := liveV_length_le l
  obtain ⟨A, c, rfl, -⟩ := id hv
  obtain ⟨n, hn⟩ : ∃ n, n = l.length := ⟨_, rfl⟩
  have HNN := hidden hn
  have HCLO := hidden (fun W (h : Grows w W) => qcloneV_any l (.slice A l.length c) W (hv.grow h) (by omega))
  have HDEL := hidden (fun (u : Value) (base : Nat) (W : World) (ho : W.ownsRow base 35 3 u l.length (vcells l)) => qdelete_any u l base W ho (by omega))
  have HSRT := hidden (fun (u : Value) (base : Nat) (W : World) (ho : W.ownsRow base 35 3 u (liveV l).length (vcells (liveV l))) => qsortFunc_any (liveV l) hlv (by omega) base u W ho)
  obtain ⟨m, hm⟩ : ∃ m, m = (liveV l).length := ⟨_, rfl⟩
  obtain ⟨sv, hsv⟩ : ∃ sv, sv = sortV l := ⟨_, rfl⟩
  have hms : m = sv.length := by rw [hm, hsv, (sortV_perm l).length_eq]
  have HMS := hidden hms
  have HSV := hidden hsv
  have HSO := hidden (show oneKd K sv by rw [hsv]; exact sortV_one hK)
  have HSU := hidden (show upV sv by rw [hsv]; exact sortV_up hK)
  have HMN := hidden (show m ≤ n ∧ n ≤ 100000 ∧ m ≤ N by omega)
  have HPS := hidden (fun (l' : List Val) (hp : l'.Perm (liveV l)) (hu : upV l') => show l' = sv by rw [hsv]; exact perm_sortV hK hp hu)
  rw [← hn] at HCLO HDEL ⊢
  rw [← hm] at HDEL HSRT
  have HW0 := hidden (growK w (.cells #[.int .i64 0, .int .i64 0, .slice none 0 0, .bool false, .slice none 0 0, .slice none 0 0, .slice none 0 0] 29))
  have HRS := hidden (skrow_new w (.int .i64 0) (.int .i64 0) (.slice none 0 0) (.bool false) (.slice none 0 0) (.slice none 0 0) (.slice none 0 0))
  clear hv hK hlv hn hm hms hsv hll hN hl
  go_enter Tryz.func14, Tryz.ntmps14
  go_wp2_with (first
    | (go_at_call 39; refine (HCLO.out _ HW0.out).mono ?_; rintro e w1 ⟨u1, rfl, ho1, g1⟩; have HO1 := hidden (ownsRow_base (b' := w.heap.size) ho1 HW0.out.size); have HG1 := hidden (HW0.out.of_below g1); have HR1 := hidden (HRS.out.grow g1); clear ho1 g1)
    | (go_at_call 38; (refine (HDEL.out u1 _ _ HO1.out).mono ?_; rintro e w2 ⟨u2, rfl, ho2, x2⟩; obtain ⟨A2, m2, c2, hu2⟩ := own_slice_q ho2; subst hu2; have HO2 := hidden ho2; have HR2 := hidden (x2.row HR1.out (ownsRow_row_apart HO1.out HR1.out (by decide))); have HG2 := hidden (x2.below HG1.out (fun i hi => (HO1.out.lt i hi).1)); have HL2 := hidden (Nat.lt_of_lt_of_le HR2.out.lt (Nat.le_refl _)); clear ho2 x2)))
  obtain ⟨bs, hbs⟩ : ∃ bs, bs = w2.heap.size := ⟨_, rfl⟩
  have hOA := ownsRow_grow HO2.out (growK w2 (.cells #[.slice A2 m2 c2] 22))
  have hVA := Row.new w2 22 #[.slice A2 m2 c2] [.slice A2 m2 c2] rfl
  have hRA := HR2.out.grow (growK w2 (.cells #[.slice A2 m2 c2] 22))
  have hGA := HG2.out.of_below (growK w2 (.cells #[.slice A2 m2 c2] 22))
  refine (HSRT.out _ _ _ hOA).mono ?_
  rintro e w3 ⟨rfl, l', hp, hu, ho3, x3⟩
  have hl' := HPS.out l' hp hu
  subst hl'
  have hV3 := x3.row hVA (ownsRow_row_apart hOA hVA (by decide))
  have hR3 := x3.row hRA (ownsRow_row_apart hOA hRA (by decide))
  have hG3 := x3.below hGA (fun i hi => (hOA.lt i hi).1)
  rw [← hbs] at hV3 ⊢
  have hlow : w.heap.size < bs := by rw [hbs]; exact HR2.out.lt
  have hm2 : m2 = l'.length := by
    rcases ho3.2 with ⟨h, h0⟩ | ⟨g, cap, cur, h, _⟩
    · injection h with _ h _; omega
    · injection h
  subst hm2
  obtain ⟨bc, hbc⟩ : ∃ bc, bc = w3.heap.size := ⟨_, rfl⟩
  have hlow2 : w.heap.size < bc := by have := hR3.lt; omega
  have hST := hidden (show BldSt w l' bs bc (.slice A2 l'.length c2) 0 (.slice none 0 0) (w3.alloc (.cells Tryz.zeroCells67 67)) from
    ⟨ownsRow_grow ho3 (growK _ _), hV3.grow (growK _ _), hR3.grow (growK _ _), by
      have h := row_ctr0 w3
      rw [← hbc] at h
      have e : icells (cmF (l'.take 0)) = List.replicate 256 (.int .i64 0) := by simp [cmF, cm0, icells]
      rw [e]
      rw [zc256]
      exact h, World.ownsRow_nil _ _ _ _, hG3.of_below (growK _ _), hlow, hlow2⟩)
  have v0 := hST.out.var.cell 0
  simp only [List.getElem?_cons_zero] at v0
  clear HCLO HDEL HSRT HPS HW0 HRS HO1 HG1 HR1 HO2 HR2 HG2 HL2 hOA hVA hRA hGA hp hu ho3 x3 hV3 hR3 hG3 hlow hlow2 hbs
  go_wp2_with fail
  rw [← hbc]
  clear hbc
  go_loopw [4, 7, 16] (fun h _ i wr => BldRel w l' bs bc (.slice A2 l'.length c2) h i wr) (fun _ _ i _ => l'.length - (intOf i).toNat)
  case atStart => exact ⟨0, Nat.zero_le _, rfl, hST.out⟩
  case round =>
    clear hST v0
    obtain ⟨k, hk, rfl, hst⟩ := hrel
    have HS := hidden hst
    clear hst
    by_cases hlt : k < l'.length
    · have HLT := hidden hlt
      have hd : decide (k < l'.length) = true := decide_eq_true hlt
      have hd2 : decide ((k : Int) < (l'.length : Int)) = true := decide_eq_true (by omega)
      have hk0 : (0 : Int) ≤ (k : Int) := by omega
      have hk1 : (k : Int) < (l'.length : Int) := by omega
      obtain ⟨x, hx⟩ : ∃ x, l'[k]? = some x := ⟨_, List.getElem?_eq_getElem hlt⟩
      have HXX := hidden hx
      obtain ⟨A', c', he, _, hcell⟩ := ReadsV.of_own HS.out.srt
      injection he with e1 e2 e3
      subst e1 e3
      obtain ⟨bb, off, rfl, hcell2⟩ := hcell (by omega)
      obtain ⟨a1, a2, a3⟩ := hcell2 k x hx
      have hval : okX x := (HSO.out x (List.mem_of_getElem? hx)).2
      have HVL := hidden (show validV x.k x.n x.t = true from hval)
      have HGB := hidden ((growK wr (.cells #[.int .i64 x.k, .int .i64 x.n, .string x.t] 35)).of_below (growK _ (.cells #[.int .i64 x.k, .int .i64 x.n, .string x.t] 35)))
      have HR1 := hidden ((Row.new wr 35 #[.int .i64 x.k, .int .i64 x.n, .string x.t] [.int .i64 x.k, .int .i64 x.n, .string x.t] rfl).grow (growK _ (.cells #[.int .i64 x.k, .int .i64 x.n, .string x.t] 35)))
      have HRV := hidden (show ReadsV ((wr.alloc (.cells #[.int .i64 x.k, .int .i64 x.n, .string x.t] 35)).alloc (.cells #[.int .i64 x.k, .int .i64 x.n, .string x.t] 35)) (.slice (some ⟨wr.heap.size + 1, 0, none⟩) 1 1) [x] by
        have h := readsV_one (wr.alloc (.cells #[.int .i64 x.k, .int .i64 x.n, .string x.t] 35)) x
        have e : (wr.alloc (.cells #[.int .i64 x.k, .int .i64 x.n, .string x.t] 35)).heap.size = wr.heap.size + 1 := by simp
        rwa [e] at h)
      have HHH := hidden (lhash_any 3 _ [x] _ (by decide) HRV.out (by simp) (by unfold validL; simp [HVL.out]))
      obtain ⟨hh, hhe⟩ : ∃ hh, hh = hashR (mix 3) [x] := ⟨_, rfl⟩
      have HHE := hidden hhe
      rw [← hhe] at HHH
      have HQL := hidden (show (hsF (l'.take k)).length = k by rw [hsF_length, List.length_take]; omega)
      have hkb : k ≤ 1000000 := by have := HMN.out; have := HMS.out; omega
      have HKB := hidden hkb
      have HCL := hidden (cmF_length (l'.take k))
      have HCB := hidden (show ∀ c ∈ cmF (l'.take k), 0 ≤ c ∧ c ≤ 1099511627776 from fun c hc => by
        have := cmF_bd _ c hc
        rw [List.length_take] at this
        omega)
      clear hcell hcell2 e2 hx hval hhe hlt hk
      go_wp2_with (first
        | (go_at_call 43; (refine (HHH.out).mono ?_; rintro e w4 ⟨rfl, g4⟩; have HS4 := hidden (HS.out.grow (HGB.out.of_below g4)); have HV4 := hidden (HR1.out.grow g4); clear g4))
        | (at_builtin; (refine wpList_append_c rfl _ _ _ rfl 56 (.int .u64 0) 8 Tryz.underlying26 info_u64q rfl u4 (wcells (hsF (l'.take k))) rfl w.heap.size (hsF (l'.take k)).length HS4.out.hsh HS4.out.grows.size (.int .u64 (hh : Int)) rfl w4.heap.size rfl rfl (by rw [HQL.out]; have := HKB.out; omega) (by rw [HQL.out]; have := HKB.out; omega) ?_); intro h' w5 ho5 hx5 _; have HO5 := hidden ho5; have HX5 := hidden hx5; have HV5 := hidden (hx5.row HV4.out (ownsRow_row_apart HS4.out.hsh HV4.out (by decide))); have HC5 := hidden (hx5.row HS4.out.cnt (ownsRow_row_apart HS4.out.hsh HS4.out.cnt (by decide))); have y0 := HV5.out.cell 0; have y1 := HV5.out.cell 1; have y2 := HV5.out.cell 2; simp only [List.getElem?_cons_succ, List.getElem?_cons_zero] at y0 y1 y2; clear ho5 hx5)
        | (go_at_call 44; (refine (qadd_any bc (cmF (l'.take k)) x w5 HC5.out HCL.out HVL.out HCB.out).mono ?_; rintro e w6 ⟨rfl, hr6, ho6⟩; have HR6 := hidden hr6; have HO6 := hidden ho6; clear hr6 ho6)))
      go_roundw
      case rel => exact ⟨k + 1, HLT.out, by go_num, HS4.out.next HXX.out HX5.out (by rw [List.length_append, wcells_snoc, ← HHE.out]; exact HO5.out) HO6.out HR6.out⟩
      case measure => have := HLT.out; simp [intOf]; omega
    · have hke : k = l'.length := by omega
      subst hke
      have hd : decide (l'.length < l'.length) = false := decide_eq_false hlt
      have hd2 : decide ((l'.length : Int) < (l'.length : Int)) = false := decide_eq_false (by omega)
      have HCN := hidden (show Row wr bc 67 (icells (cmF l')) by have h := HS.out.cnt; rwa [List.take_length] at h)
      have HHS := hidden (show wr.ownsRow w.heap.size 56 1 u4 (hsF l').length (wcells (hsF l')) by have h := HS.out.hsh; rwa [List.take_length] at h)
      have HE := hidden (show ∀ X, Grows wr X → X.cell? ⟨bs, 0, none⟩ = some (.slice A2 l'.length c2) from fun X h => by have y0 := (HS.out.var.grow h).cell 0; simpa using y0)
      have HLI := hidden (fun X (h : Grows wr X) => qlist_any bc (cmF l') X (HCN.out.grow h) (cmF_length l'))
      have hws : IntKind.i64.wrap ((n : Int) - (l'.length : Int)) = (n : Int) - (l'.length : Int) := by rw [IntKind.wrap_i64]; have := HMN.out; have := HMS.out; omega
      clear hlt hk
      go_wp2_with fail
      refine wp_region_loose_tail 10 (tabRs [(7, OwnI16 wr.heap.size (cmF l')), (9, NewSk wr.heap.size)]) (by kernel_rfl) (by kernel_rfl) (tabRs_cons OwnI16.lasts (tabRs_cons NewSk.lasts tabRs_nil)) ?_
      simp only [List.take_succ_cons, List.take_zero, List.drop_succ_cons, List.drop_zero]
      iterate 7 ((with_reducible refine loose_one (v := ?_) (a' := ?_) ?_ ?_ (fun w' hC' hG' => ?_) ?_ ?_); rotate_left 2; (focus rfl); (focus rfl); (focus (have y0 := HE.out w' hC'; clear hC' hG'; go_simp; rfl)); (focus (go_simp; rfl)))
      refine loose_call (R := OwnI16 wr.heap.size (cmF l')) (f := 45) (args := #[.pointer (some ⟨bc, 0, none⟩)]) (by rfl) (by rfl) (fun _ => by go_simp) (fun w' hC' hG' => (HLI.out w' hC').mono (fun e w2 ⟨v, h1, h2, h3⟩ => ⟨v, h1, h3, ownsRow_base h2 hC'.size⟩)) ?_
      rintro vL ⟨_, _, hvL⟩
      obtain ⟨A3, n3, c3, rfl⟩ := own_slice_q hvL
      refine ⟨?_, ?_, ?_⟩
      rotate_left
      · go_simp
        rfl
      iterate 1 ((with_reducible refine loose_one (v := ?_) (a' := ?_) ?_ ?_ (fun w' hC' hG' => ?_) ?_ ?_); rotate_left 2; (focus rfl); (focus rfl); (focus (clear hC' hG'; go_simp; rfl)); (focus (go_simp; rfl)))
      refine loose_new (R := NewSk wr.heap.size) (by rfl) (by rfl) (fun w' hC' hG' => ?_) ?_
      · exact ⟨.pointer (some ⟨w'.heap.size, 0, none⟩), w'.alloc (.cells #[.int .i64 0, .int .i64 0, .slice none 0 0, .bool false, .slice none 0 0, .slice none 0 0, .slice none 0 0] 29), by first | rfl | go_simp, (Below.refl _ _).alloc (Nat.le_refl _) _, w'.heap.size, rfl, hC'.size, skrow_new _ _ _ _ _ _ _ _⟩
      rintro _ ⟨_, _, b, rfl, hb, _⟩
      refine ⟨?_, ?_, ?_⟩
      rotate_left
      · go_simp
        rfl
      refine loose_done (fun w7 hC' hG' => ?_)
      obtain ⟨b12, hbe, hb12, hrow⟩ := (hG' 9).2 rfl
      have hlst := (hG' 7).1.2 rfl
      clear hG' hvL
      have hbb : b12 = b := by injection hbe with hbe; injection hbe with hbe; injection hbe with hbe; exact hbe.symm
      subst hbb
      have HS7 := hidden (HS.out.grow hC')
      have HH7 := hidden (ownsRow_grow HHS.out hC')
      have hL7 := ownsRow_base hlst HS.out.grows.size
      have hlb : w.heap.size < b12 := by have := HS.out.low; have := HS.out.var.lt; omega
      have hst2 : Bl2 w l' bs (.slice A2 l'.length c2) b12 [.int .i64 0, .int .i64 0, .slice none 0 0, .bool false, .slice none 0 0, .slice none 0 0, .slice none 0 0] (.slice A3 n3 c3) w7 :=
        ⟨HS7.out.srt, HS7.out.var, HS7.out.res, hL7, hrow, HS7.out.grows, HS7.out.low.1, hlb⟩
      have HT7 := hidden hst2
      clear hbe hb hb12 hlst hL7 hlb hst2 hws hC'
      refine wpList_store_sk rfl _ _ rfl b12 rfl (.int .i64 (n : Int)) (.int .i64 ((n : Int) - (l'.length : Int))) (.slice none 0 0) (.bool false) (.slice A3 n3 c3) (.slice none 0 0) (.slice none 0 0) rfl (by simp [Value.oneCell']) _ _ _ _ _ _ _ hrow ?_
      intro w8 hr8 ho8
      have HT8 := hidden (HT7.out.put ho8 hr8)
      have HH8 := hidden (ownsRow_only HH7.out ho8 (fun k hk e => ownsRow_row_apart HH7.out HT7.out.row (by decide) (by rw [hk, e])))
      clear hr8 ho8 hrow
      have HSM := hidden (qsmallest_of hS (hsF l') w.heap.size u4 w8 HH8.out (by rw [hsF_length]; have := HMN.out; have := HMS.out; omega) (by rw [hsF_length]; have := HMN.out; have := HMS.out; omega))
      go_wp2_with fail
      refine HSM.out.mono ?_
      rintro e w9 ⟨u9, rfl, ho9, hx9⟩
      obtain ⟨A4, n4, c4, rfl⟩ := own_slice_q ho9
      have HT9 := hidden (HT8.out.hashes HH8.out hx9)
      have HM9 := hidden (ownsRow_base ho9 HT8.out.grows.size)
      obtain ⟨ok, hok⟩ : ∃ ok, ok = decide ((insAll [] (hsF l')).length ≤ 32) := ⟨_, rfl⟩
      have HOK := hidden hok
      rw [← hok]
      clear ho9 hx9 hok HSM
      go_wp2_with (first
        | (refine wpList_store_c rfl 26 _ _ rfl (by kernel_rfl) b12 2 rfl (.slice A4 n4 c4) rfl rfl _ _ HT9.out.row (by simp) ?_; intro w10 hr10 ho10; have HT10 := hidden (HT9.out.put ho10 hr10); have HM10 := hidden (ownsRow_only HM9.out ho10 (fun k hk e => ownsRow_row_apart HM9.out HT9.out.row (by decide) (by rw [hk, e]))); clear hr10 ho10)
        | (refine wpList_store_c rfl 4 _ _ rfl (by kernel_rfl) b12 3 rfl (.bool ok) rfl rfl _ _ HT10.out.row (by simp) ?_; intro w11 hr11 ho11; have HT11 := hidden (HT10.out.put ho11 hr11); have HM11 := hidden (ownsRow_only HM10.out ho11 (fun k hk e => ownsRow_row_apart HM10.out HT10.out.row (by decide) (by rw [hk, e]))); have y0 := HT11.out.var.cell 0; simp only [List.getElem?_cons_zero] at y0; clear hr11 ho11))
      have HCH := hidden (qchoose_any 48 (enters_of Tryz.func48 (by kernel_rfl) rfl) #[.pointer (some ⟨bs, 0, none⟩)] (ltN l') (leN l') (.slice A2 l'.length c2) l' w11 (ReadsV.of_own HT11.out.srt) (by have := HMN.out; have := HMS.out; omega)
        (fun x y hx hy => by
          have h1 := HSO.out x hx
          have h2 := HSO.out y hy
          rw [lcX_cmpX h1.2 h2.2]
          exact ⟨fun h => cmpX_zero h1.2 h2.2 (h1.1.trans h2.1.symm) h, fun h => by rw [h]; exact cmpX_refl y⟩)
        (fun X y hX hy => by
          have hyk := HSO.out y hy
          have e : ∀ z, z ∈ l' → lcX z y = cmpX z y := fun z hz => lcX_cmpX (HSO.out z hz).2 hyk.2
          have t1 := count_turn (up_lt HSO.out HSU.out hyk)
          have t2 := count_turn (up_le HSO.out HSU.out hyk)
          exact qranks_any bs A2 c2 l' y (l'.countP fun z => decide (cmpX z y < 0)) (l'.countP fun z => decide (cmpX z y ≤ 0)) X (by have := HMN.out; have := HMS.out; omega) (by have h := (HT11.out.var.grow hX).cell 0; simpa using h) (ReadsV.grow (ReadsV.of_own HT11.out.srt) hX)
            List.countP_le_length (fun k z hk hz => by have h := of_decide_eq_true ((t1 k z hz).2 hk); rw [e z (List.mem_of_getElem? hz)]; omega) (fun k z hk hz => by rw [e z (List.mem_of_getElem? hz)]; exact Classical.byContradiction fun hc => absurd ((t1 k z hz).1 (decide_eq_true (by omega))) (by omega))
            List.countP_le_length (fun k z hk hz => by have h := of_decide_eq_true ((t2 k z hz).2 hk); rw [e z (List.mem_of_getElem? hz)]; omega) (fun k z hk hz => by rw [e z (List.mem_of_getElem? hz)]; exact Classical.byContradiction fun hc => absurd ((t2 k z hz).1 (decide_eq_true (by omega))) (by omega))))
      refine HCH.out.mono ?_
      rintro e w12 ⟨f, r, rfl, hfr⟩
      obtain ⟨A5, n5, c5, rfl⟩ := own_slice_q hfr.own1
      obtain ⟨A6, n6, c6, rfl⟩ := own_slice_q hfr.own2
      have HFR := hidden hfr
      have HT12 := hidden (HT11.out.grow hfr.grows)
      have HM12 := hidden (ownsRow_grow HM11.out hfr.grows)
      clear hfr HCH y0
      go_wp2_with (first
        | (refine wpList_store_c rfl 22 _ _ rfl (by kernel_rfl) b12 5 rfl (.slice A5 n5 c5) rfl rfl _ _ HT12.out.row (by simp) ?_; intro w13 hr13 ho13; have HT13 := hidden (HT12.out.put ho13 hr13); have HM13 := hidden (ownsRow_only HM12.out ho13 (fun k hk e => ownsRow_row_apart HM12.out HT12.out.row (by decide) (by rw [hk, e]))); have HF13 := hidden (ownsRow_only HFR.out.own1 ho13 (fun k hk e => ownsRow_row_apart HFR.out.own1 HT12.out.row (by decide) (by rw [hk, e]))); have HI13 := hidden (ownsRow_only HFR.out.own2 ho13 (fun k hk e => ownsRow_row_apart HFR.out.own2 HT12.out.row (by decide) (by rw [hk, e]))); clear hr13 ho13)
        | (refine wpList_store_c rfl 27 _ _ rfl (by kernel_rfl) b12 6 rfl (.slice A6 n6 c6) rfl rfl _ _ HT13.out.row (by simp) ?_; intro w14 hr14 ho14; have HT14 := hidden (HT13.out.put ho14 hr14); have HM14 := hidden (ownsRow_only HM13.out ho14 (fun k hk e => ownsRow_row_apart HM13.out HT13.out.row (by decide) (by rw [hk, e]))); have HF14 := hidden (ownsRow_only HF13.out ho14 (fun k hk e => ownsRow_row_apart HF13.out HT13.out.row (by decide) (by rw [hk, e]))); have HI14 := hidden (ownsRow_only HI13.out ho14 (fun k hk e => ownsRow_row_apart HI13.out HT13.out.row (by decide) (by rw [hk, e]))); have z0 := HT14.out.row.cell 0; have z1 := HT14.out.row.cell 1; have z2 := HT14.out.row.cell 2; have z3 := HT14.out.row.cell 3; have z4 := HT14.out.row.cell 4; have z5 := HT14.out.row.cell 5; have z6 := HT14.out.row.cell 6; simp only [List.set_cons_zero, List.set_cons_succ, List.getElem?_cons_succ, List.getElem?_cons_zero] at z0 z1 z2 z3 z4 z5 z6; clear hr14 ho14)
        | ((with_reducible refine at_sk rfl _ _ rfl ?_); refine wpList_store_sk rfl _ _ rfl w.heap.size rfl (.int .i64 (n : Int)) (.int .i64 ((n : Int) - (l'.length : Int))) (.slice A4 n4 c4) (.bool ok) (.slice A3 n3 c3) (.slice A5 n5 c5) (.slice A6 n6 c6) rfl (by simp [Value.oneCell']) _ _ _ _ _ _ _ HT14.out.res ?_; intro w15 hr15 ho15; have HR15 := hidden hr15; have HO15 := hidden ho15; clear hr15 ho15))
      refine bodyPost_ret (results_sk rfl _ _ w.heap.size _ _ _ _ _ _ _ rfl HR15.out) rfl ⟨_, rfl, ?_, HO15.out.below HT14.out.grows (fun i hi => by rw [hi]; exact Nat.le_refl _)⟩
      have hres := HT14.out.res
      have k4 := ownsRow_only HM14.out HO15.out (fun k hk e => ownsRow_row_apart HM14.out hres (by decide) (by rw [hk, e]))
      have k3 := ownsRow_only HT14.out.lst HO15.out (fun k hk e => ownsRow_row_apart HT14.out.lst hres (by decide) (by rw [hk, e]))
      have k5 := ownsRow_only HF14.out HO15.out (fun k hk e => ownsRow_row_apart HF14.out hres (by decide) (by rw [hk, e]))
      have k6 := ownsRow_only HI14.out HO15.out (fun k hk e => ownsRow_row_apart HI14.out hres (by decide) (by rw [hk, e]))
      have l3 := own_len_q k3
      have l4 := own_len_q k4
      have l5 := own_len_q k5
      have l6 := own_len_q k6
      subst l3 l4 l5 l6
      refine ⟨A4, A3, A5, A6, c4, c3, c5, c6, ?_, ?_, ?_, ?_, ?_⟩
      · unfold skB
        rw [← HSV.out, HNN.out, HOK.out]
      · unfold skB
        rw [← HSV.out]
        exact Reads.of_own k4
      · unfold skB
        rw [← HSV.out]
        have h := Reads.of_own k3
        exact h
      · unfold skB
        rw [← HSV.out]
        exact ReadsV.of_own k5
      · unfold skB
        rw [← HSV.out]
        exact Reads.of_own k6
end Go.Proofs.YtoaklmceejeblaaGreat
/-
  Shaken: what the claims of this seat need of this text. No condition.
-/
namespace Go.Proofs.YtoaklmceejeblaaGreat
set_option maxRecDepth 8000
open Go.RowKit
set_option linter.unusedVariables false
set_option linter.unusedSimpArgs false
def x1 : Val := ⟨2, 1, ⟨#[]⟩⟩
def x2 : Val := ⟨2, 2, ⟨#[]⟩⟩
def exL : List Val := [x1, x2, x2, nulX]
theorem ex_sort : sortV exL = [x1, x2, x2] := by kernel_rfl
theorem x_ne : x1 ≠ x2 := fun h => by
  have : x1.n = x2.n := by rw [h]
  exact absurd this (by decide)
theorem ex_fen1 : ∀ i, i ≤ 7 → chF [x1, x2, x2] (i + 1) = [x1]
  | 0, _ => chF_one _
  | i + 1, h => by
    rw [chF_same, ex_fen1 i (by omega)]
    rw [ex_fen1 i (by omega)]
    have : i = 0 ∨ i = 1 ∨ i = 2 ∨ i = 3 ∨ i = 4 ∨ i = 5 ∨ i = 6 := by omega
    rcases this with rfl | rfl | rfl | rfl | rfl | rfl | rfl <;> rfl
theorem ex_fen2 : ∀ i, i ≤ 8 → chF [x1, x2, x2] (i + 9) = [x1, x2]
  | 0, _ => by
    rw [show 0 + 9 = 8 + 1 from rfl, chF_new, ex_fen1 7 (by omega)]
    · rfl
    · rw [ex_fen1 7 (by omega)]
      intro h
      have h : some x1 = some x2 := h
      injection h with h
      exact x_ne h
  | i + 1, h => by
    rw [show i + 1 + 9 = (i + 9) + 1 by omega, chF_same, ex_fen2 i (by omega)]
    rw [ex_fen2 i (by omega)]
    have : i = 0 ∨ i = 1 ∨ i = 2 ∨ i = 3 ∨ i = 4 ∨ i = 5 ∨ i = 6 ∨ i = 7 := by omega
    rcases this with rfl | rfl | rfl | rfl | rfl | rfl | rfl | rfl <;> rfl
theorem ex_fen : fenF (sortV exL) = [x1, x2] := by rw [ex_sort]; exact ex_fen2 8 (by omega)
theorem ex_rk : rkF (ltN [x1, x2, x2]) (leN [x1, x2, x2]) [x1, x2] = [0, 1, 1, 3] := by kernel_rfl
theorem ex_ctr : minL [ctrC (cmF [x1, x2, x2]) 0 x2, ctrC (cmF [x1, x2, x2]) 1 x2, ctrC (cmF [x1, x2, x2]) 2 x2, ctrC (cmF [x1, x2, x2]) 3 x2] = 2 := by decide +kernel
theorem ex_hl : ((insAll [] (hsF [x1, x2, x2])).take 32).length = 2 := by decide +kernel
theorem ex_ok : decide ((insAll [] (hsF [x1, x2, x2])).length ≤ 32) = true := by decide +kernel
theorem ex_sk : skB exL = ⟨4, 1, (insAll [] (hsF [x1, x2, x2])).take 32, true, cmF [x1, x2, x2], [x1, x2], [0, 1, 1, 3]⟩ := by
  unfold skB
  rw [ex_fen, ex_sort, ex_ok, ex_rk]
  rfl
theorem ex_mem : hashR (mix 3) [x2] ∈ (insAll [] (hsF [x1, x2, x2])).take 32 := by decide +kernel
theorem ex_vh : validHB 3 ((insAll [] (hsF [x1, x2, x2])).take 32) true = true := by
  refine validHB_t ⟨by rw [ex_hl]; decide, by rw [ex_hl]; decide, fun _ => by rw [ex_hl]; decide, .inl rfl, fun i hi => ?_⟩
  rw [ex_hl] at hi
  have : i = 0 := by omega
  subst this
  decide +kernel
theorem ex_vc : validCB 3 (cmF [x1, x2, x2]) = true := by
  exact validCB_t ⟨cmF_length _, by unfold rowP; decide +kernel⟩
theorem ex_vf : vfnB 3 [x1, x2] = true := by
  refine vfnB_t ⟨by decide, by simp, fun i f h => ?_, by kernel_rfl⟩
  match i, h with
  | 0, h =>
    simp at h
    subst h
    exact ⟨by decide, rfl, by simp [validV, x1, x2]⟩
  | 1, h =>
    simp at h
    subst h
    exact ⟨by decide, rfl, by simp [validV, x1, x2]⟩
theorem ex_vr : vrkB 3 [0, 1, 1, 3] 2 = true := by
  refine vrkB_t ⟨rfl, fun i h => ?_, rfl⟩
  have : i = 0 ∨ i = 1 := by omega
  rcases this with rfl | rfl
  · exact ⟨by decide, by decide, by decide, fun _ => by decide⟩
  · exact ⟨by decide, by decide, by decide, fun h => absurd h (by decide)⟩
theorem ex_valid : validKB (skB exL) = true := by
  rw [ex_sk]
  unfold validKB
  simp only []
  rw [show ((4 : Int) - 1) = 3 from rfl, ex_vh, ex_vc, ex_vf, show ([x1, x2] : List Val).length = 2 from rfl, ex_vr]
  rfl
theorem ex_okrk : OkRk (skB exL) := by
  rw [ex_sk]
  exact ⟨by decide, by decide, fun r hr => by simp at hr; rcases hr with rfl | rfl | rfl <;> decide⟩
theorem ex_val2 : validV x2.k x2.n x2.t = true := by simp [validV, x2]
theorem ex_lc1 : lcX x1 x2 = -1 := by kernel_rfl
theorem ex_lc2 : lcX x2 x2 = 0 := by kernel_rfl
theorem ex_lo (k : Nat) (y : Val) (hk : k < 2) (hy : (skB exL).fs[k]? = some y) : ¬ 0 < lcX y x2 := by
  rw [ex_sk] at hy
  have : k = 0 ∨ k = 1 := by omega
  rcases this with rfl | rfl
  · have hy : some x1 = some y := hy
    injection hy with hy
    rw [← hy, ex_lc1]
    decide
  · have hy : some x2 = some y := hy
    injection hy with hy
    rw [← hy, ex_lc2]
    decide
theorem ex_lo1 (k : Nat) (y : Val) (hk : k < 1) (hy : (skB exL).fs[k]? = some y) : ¬ 0 ≤ lcX y x2 := by
  rw [ex_sk] at hy
  have : k = 0 := by omega
  subst this
  have hy : some x1 = some y := hy
  injection hy with hy
  rw [← hy, ex_lc1]
  decide
theorem ex_hi (k : Nat) (y : Val) (hk : 2 ≤ k) (hy : (skB exL).fs[k]? = some y) : 0 < lcX y x2 := by
  rw [ex_sk] at hy
  have := (List.getElem?_eq_some_iff.1 hy).1
  simp at this
  omega
theorem ex_hi1 (k : Nat) (y : Val) (hk : 1 ≤ k) (hy : (skB exL).fs[k]? = some y) : 0 ≤ lcX y x2 := by
  rw [ex_sk] at hy
  have := (List.getElem?_eq_some_iff.1 hy).1
  simp at this
  have : k = 1 := by omega
  subst this
  have hy : some x2 = some y := hy
  injection hy with hy
  rw [← hy, ex_lc2]
  decide
theorem ex_fl : (skB exL).fs.length = 2 := by rw [ex_sk]; rfl
theorem ex_rl : (skB exL).rk.length = 4 := by rw [ex_sk]; rfl
theorem ex_hsl : (skB exL).hs.length = 2 := by rw [ex_sk]; exact ex_hl
theorem ex_cl : (skB exL).cm.length = 256 := by rw [ex_sk]; exact cmF_length _
theorem ex_one : oneOr 2 exL := by
  intro x hx
  simp [exL] at hx
  rcases hx with rfl | rfl | rfl
  · exact .inr ⟨rfl, by simp [okX, validV, x1]⟩
  · exact .inr ⟨rfl, by simp [okX, validV, x2]⟩
  · exact .inl rfl
theorem ex_out : ceqOut (skB exL) x2 = false := by
  unfold ceqOut
  rw [ex_sk]
  simp only []
  rw [decide_eq_true ex_mem]
  rfl
theorem ex_eq : ceqLo (skB exL) x2 2 1 = 2 ∧ ceqHi (skB exL) x2 2 1 = 2 := by
  unfold ceqLo ceqHi
  rw [ex_out, if_neg (by simp), if_neg (by simp), ex_sk]
  simp only []
  rw [ex_ctr]
  exact ⟨by kernel_rfl, by kernel_rfl⟩
theorem ex_less : bfLo (skB exL) 1 = 1 ∧ bfHi (skB exL) 1 = 1 := by
  rw [ex_sk]
  exact ⟨by kernel_rfl, by kernel_rfl⟩
theorem ex_dist : cdLo (skB exL) = 2 ∧ cdHi (skB exL) = 2 := by
  rw [ex_sk]
  unfold cdLo cdHi
  simp only []
  rw [if_pos trivial, ex_hl]
  exact ⟨rfl, by kernel_rfl⟩
theorem ex_build (v : Value) (w : World) (hv : ReadsV w v exL) : Calls Tryz.prog 14 #[v] w fun e w' => ∃ u, e = .returned u ∧ IsK w' u (skB exL) ∧ Grows w w' := qBuild_of sortU_12 v exL w hv (by decide) (by decide) ex_one
theorem ex_cValid (v : Value) (w : World) (hk : IsK w v (skB exL)) : Calls Tryz.prog 18 #[v] w fun e w' => e = .returned (.bool true) ∧ Grows w w' := by
  have h := qValid_any v (skB exL) w hk (by rw [ex_hsl]; decide) (by rw [ex_fl]; decide) (by rw [ex_rl]; decide) (by rw [ex_sk]; decide)
  rwa [ex_valid] at h
theorem ex_cEqual (v : Value) (w : World) (hk : IsK w v (skB exL)) : Calls Tryz.prog 21 #[v, .agg #[.int .i64 2, .int .i64 2, .string ⟨#[]⟩]] w fun e w' => e = .returned (.agg #[.int .i64 2, .int .i64 2]) ∧ Grows w w' := by
  have h := qCountEqual_any v (skB exL) x2 2 1 w hk (by rw [ex_hsl]; decide) (by rw [ex_fl]; decide) (by rw [ex_rl]; decide) ex_cl ex_okrk ex_val2 (by rw [ex_fl]; decide) ex_lo ex_hi (by rw [ex_fl]; decide) ex_lo1 ex_hi1
  rwa [ex_eq.1, ex_eq.2] at h
theorem ex_cLess (v : Value) (w : World) (hk : IsK w v (skB exL)) : Calls Tryz.prog 23 #[v, .agg #[.int .i64 2, .int .i64 2, .string ⟨#[]⟩]] w fun e w' => e = .returned (.agg #[.int .i64 1, .int .i64 1]) ∧ Grows w w' := by
  have h := qCountLess_any v (skB exL) x2 1 w hk (by rw [ex_fl]; decide) (by rw [ex_rl]; decide) (by rw [ex_sk]; decide) (by rw [ex_fl]; decide) ex_lo1 ex_hi1
  rwa [ex_less.1, ex_less.2] at h
theorem ex_cDist (v : Value) (w : World) (hk : IsK w v (skB exL)) : Calls Tryz.prog 27 #[v] w fun e w' => e = .returned (.agg #[.int .i64 2, .int .i64 2]) ∧ Grows w w' := by
  have h := qCountDistinct_any v (skB exL) w hk (by rw [ex_hsl]; decide) (by rw [ex_fl]; decide) (by rw [ex_sk]; decide) (by rw [ex_sk]; decide)
  rwa [ex_dist.1, ex_dist.2] at h
end Go.Proofs.YtoaklmceejeblaaGreat
