/-
  The reference's Decode returns what the document says; nothing that was there is changed.
-/
import Derived.Test.YtaegolkoinjmoaaDoorBsRef8
import Derived.Test.YtaegolkoinjmoaaDoorDec
namespace Go.Proofs.YtaegolkoinjmoaaDoor
open Go.RowKit

def bitAt (o : List Bool) : Nat → Bool := fun i => o[i]?.getD false
/-- what Decode returns: a set, the offset behind it, an error -/
def RDec (l : List UInt8) (off : Int) (w : World) (e : Ending) (w' : World) : Prop :=
  ∃ s, e = .returned (.tuple #[s, .int .i64 (decS l off).2.2.1, .int .i64 (decS l off).2.2.2]) ∧ IsSet w' s (decS l off).1 (pack (decS l off).1 (bitAt (decS l off).2.1)) ∧ Grows w w'
theorem isSet_zero (w : World) : IsSet w (.agg #[.int .i64 0, .slice none 0 0]) 0 (pack 0 (bitAt [])) := ⟨_, rfl, Reads.nil_ w 0, by simp, by omega⟩
theorem RDec.err {l : List UInt8} {off c : Int} {w w' : World} (h : decS l off = (0, [], 0, c)) (hb : Grows w w') : RDec l off w (.returned (.tuple #[.agg #[.int .i64 0, .slice none 0 0], .int .i64 0, .int .i64 c])) w' := by
  unfold RDec
  rw [h]
  exact ⟨_, rfl, isSet_zero w', hb⟩

theorem dcd_bd {l : List UInt8} {p : Int} (h : (dcd l p).2.2 = 0) : 0 ≤ (dcd l p).1 ∧ 0 ≤ (dcd l p).2.1 ∧ (dcd l p).2.1 ≤ l.length := by
  by_cases hb : p < 0 ∨ (l.length : Int) < p
  · rw [dcd_bad hb] at h; exact absurd h (by decide)
  · obtain ⟨x, j, e, hde⟩ : ∃ x j e, dec 0 0 (l.drop p.toNat) = (x, j, e) := ⟨_, _, _, rfl⟩
    rw [dcd_ok hb hde] at h ⊢
    have he : e = 0 := by
      have : (e : Int) = 0 := h
      omega
    subst he
    obtain ⟨_, _, h2⟩ := enc_dec hde
    rw [List.length_drop] at h2
    rw [if_pos rfl]
    refine ⟨Int.natCast_nonneg _, ?_, ?_⟩
    · show 0 ≤ p + (j : Int)
      omega
    · show p + (j : Int) ≤ l.length
      omega
theorem decS_err1 {l : List UInt8} {off : Int} (h : (dcd l off).2.2 ≠ 0) : decS l off = (0, [], 0, (dcd l off).2.2) := by unfold decS; rw [if_pos h]
theorem decS_err2 {l : List UInt8} {off : Int} (h : (dcd l off).2.2 = 0) (h2 : 1048576 < (dcd l off).1) : decS l off = (0, [], 0, 6) := by unfold decS; rw [if_neg (by simpa using h), if_pos h2]
theorem decS_err3 {l : List UInt8} {off c : Int} {o : List Bool} {p : Int} (h : (dcd l off).2.2 = 0) (h2 : ¬ 1048576 < (dcd l off).1) (h3 : decR l (dcd l off).1.toNat ((dcd l off).1.toNat + 2) [] false true (dcd l off).2.1 = (o, p, c)) (hc : c ≠ 0) :
    decS l off = (0, [], 0, c) := by unfold decS; rw [if_neg (by simpa using h), if_neg h2, h3]; simp [hc]
theorem decS_fine {l : List UInt8} {off : Int} {o : List Bool} {p : Int} (h : (dcd l off).2.2 = 0) (h2 : ¬ 1048576 < (dcd l off).1) (h3 : decR l (dcd l off).1.toNat ((dcd l off).1.toNat + 2) [] false true (dcd l off).2.1 = (o, p, 0)) :
    decS l off = ((dcd l off).1.toNat, o, p, 0) := by unfold decS; rw [if_neg (by simpa using h), if_neg h2, h3]; simp

theorem results_set3 {fn : Func} {p q r : Tmp} (h : fn.results = #[.cell p 26, .tmp q, .tmp r]) (tmps : Array Value) (w : World) (g : Nat) (n v x y : Value) (hp : tmps.getD p undef = .pointer (some ⟨g, 0, none⟩)) (hg : Row w g 26 [n, v])
    (hx : tmps.getD q undef = x) (hy : tmps.getD r undef = y) : (results fn tmps).run Tryd.prog w = .ok (.tuple #[.agg #[n, v], x, y]) w := by
  have hp' : tmps[p]?.getD undef = .pointer (some ⟨g, 0, none⟩) := by simpa using hp
  have hx' : tmps[q]?.getD undef = x := by simpa using hx
  have hy' : tmps[r]?.getD undef = y := by simpa using hy
  simp [results, h, hp', hx', hy', asAddr, run_loadVar_row w g 26 26 #[n, v] (0, 0) _ hg Tryd.underlying26 rfl size_set]

def lenOf : Value → Nat | .slice _ n _ => n | _ => 0
def boolN : Value → Nat | .bool true => 1 | _ => 0
theorem ownsRow_lenOf {w : World} {b : Nat} {e : TypeId} {s : Nat} {v : Value} {n : Nat} {xs : List Value} (h : w.ownsRow b e s v n xs) : lenOf v = n := by
  rcases h.2 with ⟨rfl, h0⟩ | ⟨g, cap, cur, rfl, _⟩
  · rw [h0]; rfl
  · rfl

theorem wpList_append_bool {wr : World} {ops : Array Oper} {rest : List Oper} {o : Oper} {a : Act} {Q : Exit → Act → World → Prop} (hgd : o.guard = none) (s x : Operand)
    (ho : o.op = .call { callee := .builtin .append, args := #[s, x], argTypes := #[57, 57] })
    (v : Value) (pre : List Bool) (hs : a.eval s = v) (base : Nat) (hown : wr.ownsRow base 4 1 v pre.length (tcells pre)) (w0 : World) (hb : Below base w0 wr) (hbase : base ≤ wr.heap.size)
    (c : Bool) (hx : a.eval x = .slice (some ⟨wr.heap.size, 0, none⟩) 1 1) (hlen : pre.length + 1 ≤ 140737488355328)
    (h : ∀ v' w', w'.ownsRow base 4 1 v' (pre ++ [c]).length (tcells (pre ++ [c])) → Below base w0 w' → wpList Tryd.prog ops Q rest (a.put o.dst v') w') :
    wpList Tryd.prog ops Q (o :: rest) a (wr.alloc (.cells #[.bool c] 4)) := by
  obtain ⟨i0, hi, hz0, hz1, hz2⟩ := info_parts info_bool
  refine wpList_append_own _ hgd s x 57 ho base 4 i0 (.bool false) 1 1 Tryd.underlying57 hi hz0 hz1 hz2 rfl (by decide) v pre.length (tcells pre) hs (hown.alloc _) ⟨wr.heap.size, 0, none⟩ 1 1 [.bool c] hx rfl ?_ ?_ ?_ ?_ ?_ ?_
  · intro j u hj
    match j, hj with
    | 0, hj => simp at hj; subst hj; simp [Addr.add]
  · intro u hu; simp at hu; subst hu; rfl
  · unfold maxLen; omega
  · omega
  · simp; omega
  · intro v' w' h1 h2 _
    rw [← tcells_snoc, show pre.length + 1 = (pre ++ [c]).length by simp] at h1
    exact h v' w' h1 ((hb.alloc hbase _).grown h2 (by simp; omega) (fun k hk => (hown.lt k hk).1))

def DecRel (w W0 : World) (l : List UInt8) (n : Nat) (p0 : Int) (p out on first : Value) (wr : World) : Prop :=
  ∃ (fuel : Nat) (o : List Bool) (b c : Bool) (q : Int), p = .int .i64 q ∧ on = .bool b ∧ first = .bool c ∧ 0 ≤ q ∧ q ≤ l.length ∧ o.length ≤ n ∧ (c = true → o = []) ∧ n + 1 < o.length + fuel + (if c then 0 else 1) ∧
    decR l n fuel o b c q = decR l n (n + 2) [] false true p0 ∧ wr.ownsRow W0.heap.size 4 1 out o.length (tcells o) ∧ Below W0.heap.size W0 wr ∧ Grows w wr
def DecRel2 (w W0 : World) (o : List Bool) (b : Bool) (k : Nat) (out i : Value) (wr : World) : Prop :=
  ∃ j : Nat, j ≤ k ∧ i = .int .u64 j ∧ wr.ownsRow W0.heap.size 4 1 out (o ++ List.replicate j b).length (tcells (o ++ List.replicate j b)) ∧ Below W0.heap.size W0 wr ∧ Grows w wr

set_option maxHeartbeats 2000000 in
theorem rdecodeS_any (v : Value) (l : List UInt8) (off : Int) (w : World) (hv : IsBytes w v l) (hl : l.length ≤ 1048576) (h63 : -9223372036854775808 ≤ off) (h64 : off ≤ 9223372036854775807) :
    Calls Tryd.prog 41 #[v, .int .i64 off] w (RDec l off w) := by
  have HV := hidden hv
  have hG : Grows w (w.alloc (.cells #[.int .i64 0, .slice none 0 0] 26)) := (Below.refl _ _).alloc (Nat.le_refl _) _
  have HR0 := hidden (Row.new w 26 #[.int .i64 0, .slice none 0 0] _ rfl)
  have HRS := hidden ((Row.new w 26 #[.int .i64 0, .slice none 0 0] _ rfl).setRow_ [.int .i64 0, .slice none 0 0] rfl)
  have HSZ := hidden (World.size_alloc w (.cells #[.int .i64 0, .slice none 0 0] 26))
  have HG := hidden hG
  have HML : Hid (l.length ≤ maxLen) := by show _ ≤ _; unfold maxLen; omega
  have HE1 := hidden (fun (w' : World) h hb => RDec.err (w := w) (w' := w') (decS_err1 (l := l) (off := off) h) hb)
  have HE2 := hidden (fun (w' : World) h h2 hb => RDec.err (w := w) (w' := w') (decS_err2 (l := l) (off := off) h h2) hb)
  have HE3 := hidden (fun (w' : World) c o p h h2 h3 hc hb => RDec.err (w := w) (w' := w') (decS_err3 (l := l) (off := off) (c := c) (o := o) (p := p) h h2 h3 hc) hb)
  have HFI := hidden (fun o p h h2 h3 => decS_fine (l := l) (off := off) (o := o) (p := p) h h2 h3)
  have HBD := hidden (fun h => dcd_bd (l := l) (p := off) h)
  obtain ⟨A, c, rfl, _⟩ := hv
  clear hG
  go_enter Tryd.func41, Tryd.ntmps41
  go_wp2_with fail
  generalize w.alloc (.cells #[.int .i64 0, .slice none 0 0] 26) = W0 at *
  refine (rdecode_any _ l off W0 (HV.out.grow HG.out) HML.out h63 h64).mono ?_
  rintro e w' ⟨rfl, rfl⟩
  by_cases he : (dcd l off).2.2 = 0
  · rw [he]
    obtain ⟨hb1, hb2, hb3⟩ := HBD.out he
    by_cases hbig : 1048576 < (dcd l off).1
    · have HF := hidden (fun w' hb => HE2.out w' he hbig hb)
      go_wp2_with (refine wpList_store_set rfl _ _ rfl w.heap.size rfl _ _ _ _ _ rfl HR0.out ?_)
      exact bodyPost_ret (results_set3 rfl _ _ _ _ _ (.int .i64 0) (.int .i64 6) rfl HRS.out rfl rfl) rfl (HF.out _ (below_setRow HG.out (Nat.le_refl _) _))
    · obtain ⟨n, hnn⟩ := Int.eq_ofNat_of_zero_le hb1
      have hn2 : n ≤ 1048576 := by omega
      have HNN := hidden hnn
      have HF3 := hidden (fun (w' : World) c o p h3 hc => HE3.out w' c o p he (by omega) h3 hc)
      have HFI2 := hidden (fun o p h3 => HFI.out o p he (by omega) h3)
      rw [hnn, Int.toNat_natCast] at HF3 HFI2
      rw [hnn]
      have hsm : decide ((1048576 : Int) < (n : Int)) = false := by simp; omega
      generalize (dcd l off).2.1 = p0 at *
      clear HE1 HE2 HE3 HFI HBD HRS he hbig hnn hb1
      go_wp2_with fail
      go_loopw [8, 10, 11, 12] (fun p out on first wr => DecRel w W0 l n p0 p out on first wr) (fun _ out _ first _ => (n + 1 - lenOf out) * 2 + boolN first)
      case atStart => exact ⟨n + 2, [], false, true, p0, rfl, rfl, rfl, hb2, hb3, by simp, fun _ => rfl, by simp, rfl, World.ownsRow_nil _ _ _ _, Below.refl _ _, HG.out⟩
      case round =>
        obtain ⟨fuel, o, b, c1, q, rfl, rfl, rfl, hq0, hq1, hol, hfst, hfu, hdec, hown, hbw, hgw⟩ := hrel
        have HO := hidden hown
        have HB := hidden hbw
        have HGW := hidden hgw
        have HD := hidden hdec
        have hlen := ownsRow_lenOf hown
        have hrd := Reads.of_own hown
        obtain ⟨Ao, co, rfl, _⟩ := hrd.slice_
        rw [tcells_length] at HO ⊢
        have hsz : W0.heap.size ≤ wr.heap.size := hbw.size
        clear hown hbw hgw hdec hlen hrd
        by_cases hlt : o.length < n
        · obtain ⟨f, rfl⟩ : ∃ f, fuel = f + 1 := by
            rcases Nat.eq_zero_or_pos fuel with h | h
            · subst h
              split at hfu <;> omega
            · exact ⟨fuel - 1, by omega⟩
          have HDE := hidden (rdecode_any _ l q wr (HV.out.grow HGW.out) HML.out (by omega) (by omega))
          have HBD2 := hidden (fun h => dcd_bd (l := l) (p := q) h)
          go_wp2_with fail
          refine (Calls.mono HDE.out ?_)
          rintro e w' ⟨rfl, rfl⟩
          by_cases he2 : (dcd l q).2.2 = 0
          · rw [he2]
            obtain ⟨hn0, hn1, hn3⟩ := HBD2.out he2
            obtain ⟨k, hk⟩ := Int.eq_ofNat_of_zero_le hn0
            have HK := hidden hk
            rw [hk]
            have HBAD := hidden (fun h => decR_bad (l := l) (n := n) (k := f) (out := o) (on := b) (first := c1) (p := q) (by omega) he2 h)
            have hE4 : (((dcd l q).1 = 0 ∧ c1 = false) ∨ ((n : Int) - o.length < (dcd l q).1)) → ∀ w' : World, Grows w w' → RDec l off w (.returned (.tuple #[.agg #[.int .i64 0, .slice none 0 0], .int .i64 0, .int .i64 4])) w' := by
              intro h w' hb
              have h1 := HD.out
              rw [HBAD.out h] at h1
              exact HF3.out w' 4 [] 0 h1.symm (by decide) hb
            have HE4 := hidden hE4
            clear hE4 hn0
            by_cases hk0 : k = 0
            · subst hk0
              cases c1 with
              | false =>
                have HF := hidden (HE4.out (.inl ⟨HK.out, rfl⟩))
                clear hk hn1 hn3 he2
                have hr0 := HR0.out.grow HB.out
                have HRW := hidden hr0
                have HRS2 := hidden (hr0.setRow_ [.int .i64 0, .slice none 0 0] rfl)
                clear hr0
                go_wp2_with (refine wpList_store_set rfl _ _ rfl w.heap.size rfl _ _ _ _ _ rfl HRW.out ?_)
                exact bodyPost_ret (results_set3 rfl _ _ _ _ _ (.int .i64 0) (.int .i64 4) rfl HRS2.out rfl rfl) rfl (HF.out _ (below_setRow HGW.out (Nat.le_refl _) _))
              | true =>
                obtain ⟨k, hkz⟩ : ∃ k : Nat, k = 0 := ⟨0, rfl⟩
                rw [← hkz] at HK hk ⊢
                have ho0 : o.length = 0 := by rw [hfst rfl]; rfl
                have HNB : ¬ (((dcd l q).1 = 0 ∧ true = false) ∨ ((n : Int) - o.length < (dcd l q).1)) := by
                  rw [HK.out]
                  intro h
                  rcases h with ⟨_, h⟩ | h
                  · cases h
                  · omega
                have hkp : ((k : Int) == 0) = true := by simp; omega
                have hcmp : decide ((n : Int) - (o.length : Int) < (k : Int)) = false := by simp; omega
                have HO0 := hidden ho0
                have hfu2 : n + 1 < o.length + k + f + 1 := by simp at hfu; omega
                clear ho0 hfst hfu
                have hks : k ≤ n := by omega
                have hnx := HD.out
                rw [decR_next (by omega) he2 HNB] at hnx
                rw [HK.out, Int.toNat_natCast] at hnx
                have HNX := hidden hnx
                have HPL : Hid (o.length + k ≤ 1048576) := by show _ ≤ _; omega
                have HSML : Hid (o.length + k ≤ n) := by show _ ≤ _; omega
                clear hnx HNB
                go_wp2_with fail
                go_loopw [10, 16] (fun out i wr => DecRel2 w W0 o b k out i wr) (fun _ i _ => k - (intOf i).toNat)
                case atStart => exact ⟨0, by omega, rfl, by simpa using HO.out, HB.out, HGW.out⟩
                case round =>
                  obtain ⟨t, ht, rfl, hown2, hb2', hg2⟩ := hrel
                  have HO2 := hidden hown2
                  have HB2 := hidden hb2'
                  have HG2 := hidden hg2
                  have hsz2 : W0.heap.size ≤ _ := hb2'.size
                  have hlen2 := ownsRow_lenOf hown2
                  have HLEN2 := hidden hlen2
                  clear hown2 hb2' hg2 hlen2
                  by_cases htk : t < k
                  · exact absurd htk (by omega)
                  · have htk2 : t = k := by omega
                    subst htk2
                    clear htk ht
                    go_wp2_with fail
                    have hl3 := HLEN2.out
                    have hs3 := HSML.out
                    have hl4 : (o ++ List.replicate t b).length = o.length + t := by simp
                    refine ⟨⟨f, o ++ List.replicate t b, !b, false, _, rfl, rfl, rfl, hn1, hn3, by omega, by simp, ?_, HNX.out, HO2.out, HB2.out, HG2.out⟩, ?_⟩
                    · show n + 1 < (o ++ List.replicate t b).length + f + 1
                      rw [hl4]
                      omega
                    · rw [hl3, hl4]
                      show (n + 1 - (o.length + t)) * 2 + 0 < (n + 1 - o.length) * 2 + 1
                      omega
            · by_cases hbig2 : n < o.length + k
              · have HF := hidden (HE4.out (.inr (by rw [HK.out]; omega)))
                have hkp : ((k : Int) == 0) = false := by simp; omega
                have hcmp : decide ((n : Int) - (o.length : Int) < (k : Int)) = true := by simp; omega
                clear hk hn1 hn3 he2
                have hr0 := HR0.out.grow HB.out
                have HRW := hidden hr0
                have HRS2 := hidden (hr0.setRow_ [.int .i64 0, .slice none 0 0] rfl)
                clear hr0
                go_wp2_with (refine wpList_store_set rfl _ _ rfl w.heap.size rfl _ _ _ _ _ rfl HRW.out ?_)
                exact bodyPost_ret (results_set3 rfl _ _ _ _ _ (.int .i64 0) (.int .i64 4) rfl HRS2.out rfl rfl) rfl (HF.out _ (below_setRow HGW.out (Nat.le_refl _) _))
              · have HNB : ¬ (((dcd l q).1 = 0 ∧ c1 = false) ∨ ((n : Int) - o.length < (dcd l q).1)) := by
                  rw [HK.out]
                  intro h
                  rcases h with ⟨h, _⟩ | h <;> omega
                have hkp : ((k : Int) == 0) = false := by simp; omega
                have hcmp : decide ((n : Int) - (o.length : Int) < (k : Int)) = false := by simp; omega
                have hfu2 : n + 1 < o.length + k + f + 1 := by split at hfu <;> omega
                clear hfu
                have hnx := HD.out
                rw [decR_next (by omega) he2 HNB] at hnx
                rw [HK.out, Int.toNat_natCast] at hnx
                have HNX := hidden hnx
                have HPL : Hid (o.length + k ≤ 1048576) := by show _ ≤ _; omega
                have HSML : Hid (o.length + k ≤ n) := by show _ ≤ _; omega
                clear hnx HNB
                go_wp2_with fail
                go_loopw [10, 16] (fun out i wr => DecRel2 w W0 o b k out i wr) (fun _ i _ => k - (intOf i).toNat)
                case atStart => exact ⟨0, by omega, rfl, by simpa using HO.out, HB.out, HGW.out⟩
                case round =>
                  obtain ⟨t, ht, rfl, hown2, hb2', hg2⟩ := hrel
                  have HO2 := hidden hown2
                  have HB2 := hidden hb2'
                  have HG2 := hidden hg2
                  have hsz2 : W0.heap.size ≤ _ := hb2'.size
                  have hlen2 := ownsRow_lenOf hown2
                  have HLEN2 := hidden hlen2
                  clear hown2 hb2' hg2 hlen2
                  by_cases htk : t < k
                  · have hpl2 : (o ++ List.replicate t b).length + 1 ≤ 140737488355328 := by
                      have := HPL.out
                      rw [List.length_append, List.length_replicate]
                      omega
                    have HPL2 := hidden hpl2
                    have HRP : Hid (o ++ List.replicate (t + 1) b = o ++ List.replicate t b ++ [b]) := by
                      show _ = _
                      rw [List.replicate_succ', List.append_assoc]
                    clear hpl2
                    go_wp2_with ((at_builtin; go_loud (refine wpList_append_bool rfl _ _ rfl _ (o ++ List.replicate t b) (by rfl) W0.heap.size HO2.out _ HB2.out hsz2 b (by rfl) HPL2.out ?_); intro v3 w3 hown3 hb3; have HO3 := hidden hown3; have HB3 := hidden hb3; clear hown3 hb3))
                    go_wp2_with fail
                    go_roundw
                    case rel => exact ⟨t + 1, by omega, by go_num, by rw [HRP.out]; exact HO3.out, HB3.out, Grows.of_below HG.out HB3.out⟩
                    case measure => simp [intOf]; omega
                  · have htk2 : t = k := by omega
                    subst htk2
                    clear htk ht
                    go_wp2_with fail
                    have hl3 := HLEN2.out
                    have hs3 := HSML.out
                    have hl4 : (o ++ List.replicate t b).length = o.length + t := by simp
                    refine ⟨⟨f, o ++ List.replicate t b, !b, false, _, rfl, rfl, rfl, hn1, hn3, by omega, by simp, ?_, HNX.out, HO2.out, HB2.out, HG2.out⟩, ?_⟩
                    · show n + 1 < (o ++ List.replicate t b).length + f + 1
                      rw [hl4]
                      omega
                    · rw [hl3, hl4]
                      show (n + 1 - (o.length + t)) * 2 + 0 < (n + 1 - o.length) * 2 + boolN (.bool c1)
                      omega
          · have h1 := HD.out
            rw [decR_err (by omega) he2] at h1
            have HF := hidden (fun w' hb => HF3.out w' (dcd l q).2.2 [] 0 h1.symm he2 hb)
            have hne : ((dcd l q).2.2 != 0) = true := by simpa using he2
            have hr0 := HR0.out.grow HB.out
            have HRW := hidden hr0
            have HRS2 := hidden (hr0.setRow_ [.int .i64 0, .slice none 0 0] rfl)
            clear hr0 h1 he2
            go_wp2_with (refine wpList_store_set rfl _ _ rfl w.heap.size rfl _ _ _ _ _ rfl HRW.out ?_)
            exact bodyPost_ret (results_set3 rfl _ _ _ _ _ (.int .i64 0) (.int .i64 (dcd l q).2.2) rfl HRS2.out rfl rfl) rfl (HF.out _ (below_setRow HGW.out (Nat.le_refl _) _))
        · have hol2 : o.length = n := by omega
          cases fuel with
          | zero => split at hfu <;> omega
          | succ f =>
            have h1 := HD.out
            rw [decR_done (by omega)] at h1
            have hfin := HFI2.out o q h1.symm
            have HFIN := hidden hfin
            have hbo : bitsOf (bitAt o) n = o := by
              have := bitsOf_getD o
              rw [hol2] at this
              exact this
            have HBU := hidden (rbuild_any _ n (bitAt o) wr (by rw [hbo]; exact Reads.of_own HO.out) hn2)
            have hnol : n ≤ o.length := by omega
            have HZ := hidden (HR0.out.grow HB.out)
            have HQ : Hid (W0.heap.size = w.heap.size + 1) := HSZ.out
            clear h1 hfin hbo hol2 hlt hfu hfst
            go_wp2_with fail
            refine (Calls.mono HBU.out ?_)
            rintro e w3 ⟨g3, hg3, rfl, hr3, hb3⟩
            have hr0 := HZ.out.grow hb3
            have HR3 := hidden hr3
            have HRW := hidden hr0
            have HG3 := hidden (HGW.out.trans (hb3.mono HGW.out.size))
            have hg4 : w.heap.size < g3 := Nat.lt_of_lt_of_le (by have := HQ.out; omega) hg3
            rw [pack_length]
            have HRS2 := hidden (hr0.setRow_ [.int .i64 (n : Int), .slice (some ⟨g3, 0, none⟩) (nw n) (nw n)] rfl)
            clear hr0 hr3 hb3 hg3
            go_wp2_with (refine wpList_store_set rfl _ _ rfl w.heap.size rfl _ _ _ _ _ rfl HRW.out ?_)
            refine bodyPost_ret (results_set3 rfl _ _ _ _ _ (.int .i64 q) (.int .i64 0) rfl HRS2.out rfl rfl) rfl ?_
            unfold RDec
            rw [HFIN.out]
            refine ⟨_, rfl, ⟨_, rfl, Reads.of_row (g := g3) (e := 54) ?_ _ _ (by rw [ucells_length, pack_length]) (Nat.le_refl _), by rw [pack_length]; unfold nw; omega, hn2⟩, below_setRow HG3.out (Nat.le_refl _) _⟩
            have h := HR3.out
            unfold Row at h ⊢
            rw [setRow_other _ _ _ _ (by omega)]
            exact h
  · have HF := hidden (fun w' hb => HE1.out w' he hb)
    have hne : ((dcd l off).2.2 != 0) = true := by simpa using he
    clear he
    go_wp2_with (refine wpList_store_set rfl _ _ rfl w.heap.size rfl _ _ _ _ _ rfl HR0.out ?_)
    exact bodyPost_ret (results_set3 rfl _ _ _ _ _ (.int .i64 0) (.int .i64 (dcd l off).2.2) rfl HRS.out rfl rfl) rfl (HF.out _ (below_setRow HG.out (Nat.le_refl _) _))

end Go.Proofs.YtaegolkoinjmoaaDoor
