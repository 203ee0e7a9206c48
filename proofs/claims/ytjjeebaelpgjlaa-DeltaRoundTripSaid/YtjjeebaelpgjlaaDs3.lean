/-
  Package delta as it landed: Encode and Size. Nothing that was there is changed.
-/
import Derived.Test.YtjjeebaelpgjlaaDs2
import Derived.Test.YtjjeebaelpgjlaaVCat
namespace Go.Proofs.Ytjjeebaelpgjlaa
open Go.RowKit
set_option linter.unusedVariables false
set_option linter.unusedSimpArgs false

theorem IsParts.new3 {w : World} {A1 A2 A3 : Option Addr} {c1 c2 c3 : Nat} {l1 l2 l3 : List UInt8} (h1 : IsBytes w (.slice A1 l1.length c1) l1) (h2 : IsBytes w (.slice A2 l2.length c2) l2) (h3 : IsBytes w (.slice A3 l3.length c3) l3) (E : TypeId) :
    IsParts (w.alloc (.cells #[.slice A1 l1.length c1, .slice A2 l2.length c2, .slice A3 l3.length c3] E)) (.slice (some ⟨w.heap.size, 0, none⟩) 3 3) [l1, l2, l3] := by
  have hg : Grows w (w.alloc (.cells #[.slice A1 l1.length c1, .slice A2 l2.length c2, .slice A3 l3.length c3] E)) := (Below.refl _ _).alloc (Nat.le_refl _) _
  refine ⟨_, 3, rfl, fun _ => ⟨w.heap.size, 0, rfl, fun j hj => ?_⟩⟩
  match j, hj with
  | 0, _ => exact ⟨A1, c1, by rw [World.cell?_alloc_mark]; rfl, h1.grow hg⟩
  | 1, _ => exact ⟨A2, c2, by rw [World.cell?_alloc_mark]; rfl, h2.grow hg⟩
  | 2, _ => exact ⟨A3, c3, by rw [World.cell?_alloc_mark]; rfl, h3.grow hg⟩
/-- a slice of bytes with its room -/
def CapV (L : List UInt8) : Value → World → Prop := fun v w => ∃ A c, v = .slice A L.length c ∧ L.length ≤ c ∧ IsBytes w v L
theorem CapV.lasts {L : List UInt8} : ∀ v w w', CapV L v w → Grows w w' → CapV L v w' := fun _ _ _ ⟨A, c, h1, h2, h3⟩ hg => ⟨A, c, h1, h2, h3.grow hg⟩
theorem capV_own {w : World} {base : Nat} {v : Value} {L : List UInt8} (h : w.ownsRow base 5 1 v L.length (bcells L)) : CapV L v w := by
  have hu := IsBytes.of_own h
  rcases h.2 with ⟨h1, h2⟩ | ⟨g, cap, cur, h1, _, _, h3, _⟩
  · exact ⟨none, 0, by rw [h1, h2], by omega, hu⟩
  · exact ⟨_, cap, h1, h3, hu⟩
theorem made_cap {f : FuncId} {args : Array Value} {w : World} {l : List UInt8} (h : Calls Try.prog f args w (Made l w)) : Calls Try.prog f args w fun e w' => ∃ v, e = .returned v ∧ Grows w w' ∧ CapV l v w' :=
  h.mono fun _ _ ⟨v, he, hown, hb⟩ => ⟨v, he, hb, capV_own hown⟩
/-- a slice of its own length that reads as L -/
def Laid9 (L : List UInt8) (w : World) (e : Ending) (w' : World) : Prop := ∃ A c, e = .returned (.slice A L.length c) ∧ L.length ≤ c ∧ IsBytes w' (.slice A L.length c) L ∧ Grows w w'
def PartsV (ls : List (List UInt8)) : Value → World → Prop := fun v w => IsParts w v ls
theorem PartsV.lasts {ls : List (List UInt8)} : ∀ v w w', PartsV ls v w → Grows w w' → PartsV ls v w' := fun _ _ _ h hg => IsParts.grow h hg
set_option maxRecDepth 20000 in
set_option maxHeartbeats 8000000 in
theorem enc9c_any (v : Value) (l : List Int) (w : World) (hv : IsI w v l) (hl : l.length ≤ 65536) (hin : ∀ x ∈ l, frIn x) :
    Calls Try.prog 14 #[v] w (Laid9 (dlEnc l) w) := by
  have HV := hidden hv
  obtain ⟨A, c, rfl⟩ := hv.slice_
  have HCH := hidden (choose9_any A c l w hv hl hin)
  have hd : decide ((65536 : Int) < (l.length : Int)) = false := by simp; omega
  have HE := hidden (dlEnc_in hl)
  have hk2 : dlOrd l ≤ 2 := by have := (dlOrd_bd l).1; omega
  generalize dlOrd l = k at *
  have hk8 := u8_kind hk2
  have HFM := hidden (show dlForm k l = UInt8.ofNat k :: (hdB k l ++ encV (rstL k l)) from rfl)
  generalize UInt8.ofNat k = K at *
  have HHL := hidden (hdB_len k l)
  have HRL := hidden (rstL_length k l)
  have HRI := hidden (rstL_in hin k)
  have HEL := hidden (encV_len (rstL k l))
  clear hv
  go_enter Try.func14, Try.ntmps14
  go_wp2_with fail
  refine HCH.out.mono ?_
  rintro e w1 ⟨A1, c1, D1, rfl, hown1, hrest1, hg1⟩
  have HI1 := hidden (hrest1.reads HV.out hg1)
  obtain ⟨A2, c2, rfl⟩ := HI1.out.slice_
  obtain ⟨g1, hg1e⟩ : ∃ g1, g1 = w1.heap.size := ⟨_, rfl⟩
  have hga : Grows w1 (w1.alloc (.cells #[.int .i64 (k : Int), .slice A1 (hdB k l).length c1, .slice A2 (rstL k l).length c2] 41)) := (Below.refl _ _).alloc (Nat.le_refl _) _
  have HF2 := hidden (Row.at_ w1 41 #[.int .i64 (k : Int), .slice A1 (hdB k l).length c1, .slice A2 (rstL k l).length c2] [.int .i64 (k : Int), .slice A1 (hdB k l).length c1, .slice A2 (rstL k l).length c2] rfl g1 hg1e)
  have HG2 := hidden (Grows.of_below hg1 hga)
  have HL2 := hidden ((IsBytes.of_own hown1).grow hga)
  have HI2 := hidden (IsI.grow HI1.out hga)
  have hg1' := hg1e.symm
  clear hown1 hrest1 hg1 hg1e HI1 hga
  go_wp2_with fail
  clear hg1'
  generalize w1.alloc (.cells #[.int .i64 (k : Int), .slice A1 (hdB k l).length c1, .slice A2 (rstL k l).length c2] 41) = w2 at *
  generalize hH : hdB k l = H at *
  generalize hR : rstL k l = R at *
  generalize hE : encV R = E at *
  have HX : Hid (∀ w', Grows w2 w' → w'.cell? ⟨g1, 0, none⟩ = some (.int .i64 (k : Int)) ∧ w'.cell? ⟨g1, 1, none⟩ = some (.slice A1 H.length c1) ∧ w'.cell? ⟨g1, 2, none⟩ = some (.slice A2 R.length c2)) := fun w' h =>
    ⟨(Row.grow HF2.out h).cell 0, (Row.grow HF2.out h).cell 1, (Row.grow HF2.out h).cell 2⟩
  have HEN : Hid (∀ w', Grows w2 w' → Calls Try.prog 22 #[.slice A2 R.length c2] w' (ByR E w')) := fun w' h => by
    rw [← hE]
    exact lencodeF_any _ R w' (IsI.grow HI2.out h) (by have := HRL.out; omega) HRI.out
  have HCC := hidden (fun w' v' hp => concat_any v' [[K], H, E] w' hp (by unfold maxLen; simp) (by
    have := HHL.out; have := HEL.out; have := HRL.out
    unfold total
    simp only [List.flatten_cons, List.flatten_nil, List.length_append, List.length_nil, List.length_singleton]
    omega))
  have HTT := hidden (show dlEnc l = [[K], H, E].flatten by rw [HE.out, HFM.out]; simp)
  clear hH hR hE
  refine wp_region_loose (tabRs [(3, BytesV [K]), (8, BytesV E), (9, PartsV [[K], H, E]), (10, CapV [[K], H, E].flatten)]) (by kernel_rfl) (by kernel_rfl) (tabRs_cons BytesV.lasts (tabRs_cons BytesV.lasts (tabRs_cons PartsV.lasts (tabRs_cons CapV.lasts tabRs_nil)))) ?_
  iterate 3 ((with_reducible refine loose_one (v := ?_) (a' := ?_) ?_ ?_ (fun w' hC' hG' => ?_) ?_ ?_); rotate_left 2; (focus rfl); (focus rfl); (focus (obtain ⟨x0, x1, x2⟩ := HX.out w' hC'; clear hC' hG'; go_simp; rfl)); (focus (go_simp; rfl)))
  refine loose_new (R := BytesV [K]) (by rfl) (by rfl) (fun w' hC' hG' => ?_) ?_
  · exact ⟨.slice (some ⟨w'.heap.size, 0, none⟩) 1 1, w'.alloc (.cells #[.int .u8 (K.toNat : Int)] 5), by first | rfl | go_simp, (Below.refl _ _).alloc (Nat.le_refl _) _, IsBytes.of_row (Row.new w' 5 _ (bcells [K]) rfl) 1 1 rfl⟩
  rintro v3 ⟨_, _, hu3⟩
  obtain ⟨A3, c3, rfl, _⟩ := hu3
  refine ⟨?_, ?_, ?_⟩
  rotate_left
  · go_simp
    rfl
  iterate 4 ((with_reducible refine loose_one (v := ?_) (a' := ?_) ?_ ?_ (fun w' hC' hG' => ?_) ?_ ?_); rotate_left 2; (focus rfl); (focus rfl); (focus (obtain ⟨x0, x1, x2⟩ := HX.out w' hC'; clear hC' hG'; go_simp; rfl)); (focus (go_simp; rfl)))
  refine loose_call (R := BytesV E) (f := 22) (args := #[.slice A2 R.length c2]) (by rfl) (by rfl) (fun _ => by go_simp) (fun w' hC' hG' => byr_loose (HEN.out w' hC')) ?_
  rintro v8 ⟨_, _, hu8⟩
  obtain ⟨A8, c8, rfl, _⟩ := hu8
  refine ⟨?_, ?_, ?_⟩
  rotate_left
  · go_simp
    rfl
  refine loose_new (R := PartsV [[K], H, E]) (by rfl) (by rfl) (fun w' hC' hG' => ?_) ?_
  · have h3 : IsBytes w' (.slice A3 ([K] : List UInt8).length c3) [K] := (hG' 3 (by kernel_rfl)).1.2 rfl
    have h8 : IsBytes w' (.slice A8 E.length c8) E := (hG' 8 (by kernel_rfl)).2 rfl
    exact ⟨.slice (some ⟨w'.heap.size, 0, none⟩) 3 3, w'.alloc (.cells #[.slice A3 1 c3, .slice A1 H.length c1, .slice A8 E.length c8] 27), by first | rfl | go_simp, (Below.refl _ _).alloc (Nat.le_refl _) _, IsParts.new3 h3 (HL2.out.grow hC') h8 27⟩
  rintro v9 ⟨_, _, hu9⟩
  refine ⟨?_, ?_, ?_⟩
  rotate_left
  · go_simp
    rfl
  refine loose_call (R := CapV [[K], H, E].flatten) (f := 21) (args := #[v9]) (by rfl) (by rfl) (fun _ => by go_simp) (fun w' hC' hG' => made_cap (HCC.out w' v9 ((hG' 9 (by kernel_rfl)).2 rfl))) ?_
  intro v10 _
  refine ⟨?_, ?_, ?_⟩
  rotate_left
  · go_simp
    rfl
  iterate 1 ((with_reducible refine loose_one (v := ?_) (a' := ?_) ?_ ?_ (fun w' hC' hG' => ?_) ?_ ?_); rotate_left 2; (focus rfl); (focus rfl); (focus (obtain ⟨x0, x1, x2⟩ := HX.out w' hC'; clear hC' hG'; go_simp; rfl)); (focus (go_simp; rfl)))
  refine loose_done (fun w5 hC' hG' => ?_)
  have HU5 := hidden (show CapV [[K], H, E].flatten v10 w5 from (hG' 10).2 rfl)
  have HG5 := hidden (HG2.out.of_below hC')
  clear hG' hC'
  go_wp2_with fail
  go_ret
  obtain ⟨A0, c0, hv0, hc0, hu0⟩ := HU5.out
  rw [HTT.out]
  exact ⟨A0, c0, by rw [← hv0]; rfl, hc0, by rw [← hv0]; exact hu0, HG5.out⟩
theorem enc9_any (v : Value) (l : List Int) (w : World) (hv : IsI w v l) (hl : l.length ≤ 65536) (hin : ∀ x ∈ l, frIn x) :
    Calls Try.prog 14 #[v] w (ByR (dlEnc l) w) :=
  (enc9c_any v l w hv hl hin).mono fun _ _ ⟨A, c, he, _, hu, hg⟩ => ⟨_, he, hg, hu⟩
set_option maxHeartbeats 2000000 in
theorem size9_any (v : Value) (l : List Int) (w : World) (hv : IsI w v l) (hl : l.length ≤ 65536) (hin : ∀ x ∈ l, frIn x) :
    Calls Try.prog 16 #[v] w fun e w' => e = .returned (.int .i64 (((dlEnc l).length : Nat) : Int)) ∧ Grows w w' := by
  have HV := hidden hv
  obtain ⟨A, c, rfl⟩ := hv.slice_
  have HCH := hidden (choose9_any A c l w hv hl hin)
  have hd : decide ((65536 : Int) < (l.length : Int)) = false := by simp; omega
  have HE := hidden (dlEnc_in hl)
  generalize dlOrd l = k at *
  clear hv
  go_enter Try.func16, Try.ntmps16
  go_wp2_with fail
  refine HCH.out.mono ?_
  rintro e w1 ⟨A1, c1, D1, rfl, hown1, hrest1, hg1⟩
  have HI1 := hidden (hrest1.reads HV.out hg1)
  obtain ⟨A2, c2, rfl⟩ := HI1.out.slice_
  have HG2 := hidden (Grows.of_below hg1 (show Grows w1 (w1.alloc (.cells #[.int .i64 (k : Int), .slice A1 (hdB k l).length c1, .slice A2 (rstL k l).length c2] 41)) from (Below.refl _ _).alloc (Nat.le_refl _) _))
  clear hown1 hrest1 hg1 HI1
  go_wp2_with fail
  go_ret
  exact ⟨by rw [HE.out]; rfl, HG2.out⟩
end Go.Proofs.Ytjjeebaelpgjlaa
