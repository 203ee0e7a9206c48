/-
  Texts that the claims of this seat share, put together (DcE1, DcD1, DcE2, DcD2, DcE3, DcD3, DcW0). No condition.
-/
import Derived.Test.YtgmjoghgmcjebaaDcEnc
import Derived.Test.YtgmjoghgmcjebaaBq3
import Derived.Test.YtgmjoghgmcjebaaM13
import Derived.Lib.AppendStr
import Derived.Test.YtgmjoghgmcjebaaDcDec
import Derived.Test.YtgmjoghgmcjebaaM5
import Derived.Test.YtgmjoghgmcjebaaM12
import Derived.Test.YtgmjoghgmcjebaaRm6
import Derived.Test.YtgmjoghgmcjebaaRm7
import Derived.Test.YtgmjoghgmcjebaaM10
/-
  A table of facts for a region walked the loose way; encodeWords, the reference's Text. Nothing that was there is changed.
-/
namespace Go.Proofs.Ytgmjoghgmcjebaa
open Go.RowKit
set_option linter.unusedVariables false
set_option linter.unusedSimpArgs false

def ConstV (u : Value) : Value → World → Prop := fun v _ => v = u
theorem ConstV.lasts {u : Value} : ∀ v w w', ConstV u v w → Grows w w' → ConstV u v w' := fun _ _ _ h _ => h
def BytesV (l : List UInt8) : Value → World → Prop := fun v w => IsBytes w v l
theorem BytesV.lasts {l : List UInt8} : ∀ v w w', BytesV l v w → Grows w w' → BytesV l v w' := fun _ _ _ h hg => IsBytes.grow h hg
theorem const_loose {f : FuncId} {args : Array Value} {w : World} {u : Value} (h : Calls Try.prog f args w fun e w' => e = .returned u ∧ Grows w w') : Calls Try.prog f args w fun e w' => ∃ v, e = .returned v ∧ Grows w w' ∧ ConstV u v w' :=
  h.mono fun _ _ ⟨he, hw⟩ => ⟨_, he, hw, rfl⟩
theorem const_loose0 {f : FuncId} {args : Array Value} {w : World} {u : Value} (h : Calls Try.prog f args w fun e w' => e = .returned u ∧ w = w') : Calls Try.prog f args w fun e w' => ∃ v, e = .returned v ∧ Grows w w' ∧ ConstV u v w' :=
  h.mono fun _ _ ⟨he, hw⟩ => ⟨_, he, by rw [hw]; exact Below.refl _ _, rfl⟩
theorem made_loose {f : FuncId} {args : Array Value} {w : World} {l : List UInt8} (h : Calls Try.prog f args w (Made l w)) : Calls Try.prog f args w fun e w' => ∃ v, e = .returned v ∧ Grows w w' ∧ BytesV l v w' :=
  h.mono fun _ _ ⟨v, he, hown, hb⟩ => ⟨v, he, hb, IsBytes.of_own hown⟩
theorem byr_loose {f : FuncId} {args : Array Value} {w : World} {l : List UInt8} (h : Calls Try.prog f args w (ByR l w)) : Calls Try.prog f args w fun e w' => ∃ v, e = .returned v ∧ Grows w w' ∧ BytesV l v w' :=
  h.mono fun _ _ ⟨v, he, hb, hu⟩ => ⟨v, he, hb, hu⟩
def tabRs : List (Nat × (Value → World → Prop)) → Loose
  | [], _ => none
  | (j, R) :: L, i => if i = j then some R else tabRs L i
theorem tabRs_nil : (tabRs []).lasts := fun _ _ h => by cases h
theorem tabRs_cons {j : Nat} {R : Value → World → Prop} {L : List (Nat × (Value → World → Prop))} (h : ∀ v w w', R v w → Grows w w' → R v w') (hL : (tabRs L).lasts) : (tabRs ((j, R) :: L)).lasts := fun i R' hR => by
  unfold tabRs at hR
  split at hR
  · injection hR with hR; subst hR; exact h
  · exact hL i R' hR
theorem slice_reads2 {w : World} {A : Option Addr} {c o p : Nat} {l : List UInt8} (h : IsBytes w (.slice A l.length c) l) (hop : o ≤ p) (hpl : p ≤ l.length) (hlc : l.length ≤ c) :
    IsBytes w (.slice (if c = o then A else Option.map (fun x => x.add o) A) (p - o) (c - o)) ((l.drop o).take (p - o)) := by
  by_cases hpo : p = o
  · have e1 : p - o = 0 := by omega
    rw [e1, List.take_zero]
    exact ⟨_, _, rfl, fun h0 => absurd h0 (by simp)⟩
  · obtain ⟨A', c', he, hc⟩ := h
    injection he with e1 e2 e3
    subst e1
    obtain ⟨b, f, rfl, hcell⟩ := hc (by omega)
    rw [if_neg (by omega), Option.map_some, Addr.add_lit]
    exact IsBytes.sub ⟨some ⟨b, f, none⟩, c, rfl, fun _ => ⟨b, f, rfl, hcell⟩⟩ o (p - o) (c - o) (by omega)
def CapV (L : List UInt8) : Value → World → Prop := fun v w => ∃ A c, v = .slice A L.length c ∧ L.length ≤ c ∧ IsBytes w v L
theorem CapV.lasts {L : List UInt8} : ∀ v w w', CapV L v w → Grows w w' → CapV L v w' := fun _ _ _ ⟨A, c, h1, h2, h3⟩ hg => ⟨A, c, h1, h2, h3.grow hg⟩
theorem capV_own {w : World} {base : Nat} {v : Value} {L : List UInt8} (h : w.ownsRow base 5 1 v L.length (bcells L)) : CapV L v w := by
  have hu := IsBytes.of_own h
  rcases h.2 with ⟨h1, h2⟩ | ⟨g, cap, cur, h1, _, _, h3, _⟩
  · exact ⟨none, 0, by rw [h1, h2], by omega, hu⟩
  · exact ⟨_, cap, h1, h3, hu⟩
theorem made_cap {f : FuncId} {args : Array Value} {w : World} {l : List UInt8} (h : Calls Try.prog f args w (Made l w)) : Calls Try.prog f args w fun e w' => ∃ v, e = .returned v ∧ Grows w w' ∧ CapV l v w' :=
  h.mono fun _ _ ⟨v, he, hown, hb⟩ => ⟨v, he, hb, capV_own hown⟩
theorem own_sliceB {w : World} {base : Nat} {e : TypeId} {v : Value} {l : List UInt8} (h : w.ownsRow base e 1 v l.length (bcells l)) : ∃ A c, v = .slice A l.length c := by
  rcases h.2 with ⟨rfl, h0⟩ | ⟨g, cap, cur, rfl, _⟩
  · exact ⟨none, 0, by rw [h0]⟩
  · exact ⟨_, cap, rfl⟩
theorem wpList_append_str {P : Program} {w wr : World} {ops : Array Oper} {rest : List Oper} {o : Oper} {a : Act} {Q : Exit → Act → World → Prop} (hgd : o.guard = none) (sl x : Operand) (t u : TypeId)
    (ho : o.op = .call { callee := .builtin .append, args := #[sl, x], argTypes := #[t, u] })
    (e : TypeId) (ht : P.underlying t = some (.slice e)) (hu : P.underlying u = some .string) (hinfo : (P.info? e).map (fun i => (i.zero, i.size, i.bytes)) = some (some (.int .u8 0), 1, 1))
    (v : Value) (pre : List UInt8) (hs : a.eval sl = v) (hown : wr.ownsRow w.heap.size e 1 v pre.length (bcells pre)) (hb : Below w.heap.size w wr)
    (l : List UInt8) (hx : a.eval x = .string (strOf l)) (hlen : pre.length + l.length ≤ 140737488355328)
    (h : ∀ v' w', w'.ownsRow w.heap.size e 1 v' (pre ++ l).length (bcells (pre ++ l)) → Below w.heap.size w w' → wpList P ops Q rest (a.put o.dst v') w') :
    wpList P ops Q (o :: rest) a wr := by
  obtain ⟨i0, hi, hz0, hz1, hz2⟩ := info_parts hinfo
  have hsz : (strOf l).size = l.length := rfl
  refine Lib.wpList_append_own_string _ hgd sl x t u ho w.heap.size e i0 ht hu hi hz0 hz1 hz2 v pre.length (bcells pre) hs hown (strOf l) hx (by rw [hsz]; unfold maxLen; omega) (by rw [hsz]; exact hlen) hb.size ?_
  intro v' w' h1 h2 _
  rw [show Lib.strCells (strOf l) = bcells l from rfl, ← bcells_append, hsz, ← List.length_append] at h1
  exact h v' w' h1 (hb.grown h2 hb.size (fun k hk => (hown.lt k hk).1))
set_option maxHeartbeats 2000000 in
theorem rtext10_t (t : ByteArray) (w : World) (ht : t.data.toList.length ≤ 1000000) : Calls Try.prog 34 #[.string t] w (Made (wordL t.data.toList) w) := by
  have HE := hidden (rencode_any (t.data.toList.length : Int) w (by omega) (by omega))
  rw [Int.toNat_natCast] at HE
  have hsz : t.data.toList.length = t.size := by simp
  have HL := hidden (enc_len10 (n := t.data.toList.length) (by omega))
  have HW := hidden (show [enc t.data.toList.length, t.data.toList].flatten = wordL t.data.toList by simp [wordL])
  rw [hsz] at HE HL HW ht
  generalize enc t.size = E at *
  have HSZ := hidden hsz
  have HLT := hidden ht
  have hw : IntKind.u64.wrap (t.size : Int) = (t.size : Int) := by rw [IntKind.wrap_u64]; omega
  rw [← hw] at HE
  clear hsz hw ht
  go_enter Try.func34, Try.ntmps34
  go_wp2_with fail
  refine HE.out.mono ?_
  rintro e w3 ⟨v3, rfl, hown, g3⟩
  obtain ⟨A, c, rfl⟩ := own_sliceB hown
  have HBY := hidden (IsBytes.of_own hown)
  have HG3 := hidden (show Grows w w3 from g3)
  clear hown g3
  obtain ⟨v5, W5, hrun, g5, A5, c5, rfl, _, h5⟩ := str_bytes (P := Try.prog) w3 9 40 5 t Try.underlying9 Try.underlying40 Try.underlying5
  have H5 := hidden h5
  have HBY5 := hidden (HBY.out.grow g5)
  have HG5 := hidden (HG3.out.of_below g5)
  clear h5 g5
  go_wp2_with fail
  refine (rconcat_any _ [E, t.data.toList] _ (IsParts.new2 HBY5.out H5.out _) (by simp [maxLen]) (by have := HL.out; have := HLT.out; have := HSZ.out; simp only [total, List.flatten_cons, List.flatten_nil, List.append_nil, List.length_append]; omega)).mono ?_
  rintro e w6 ⟨v6, rfl, hown6, g6⟩
  have HO6 := hidden hown6
  have HG6 := hidden ((HG5.out.of_below (growA _)).of_below g6)
  have HSZ6 := hidden ((HG5.out.of_below (growA (.cells #[.slice A E.length c, .slice A5 t.data.toList.length c5] 40))).size)
  clear hown6 g6
  go_wp2_with fail
  go_ret
  have h := HO6.out
  rw [HW.out] at h
  exact ⟨_, rfl, ownsRow_base h HSZ6.out, HG6.out⟩
theorem rtext10_any (s : Str) (w : World) (hs : s.length ≤ 1000000) : Calls Try.prog 34 #[.string (strOf s)] w (Made (wordL s) w) := rtext10_t (strOf s) w hs
def EWRel (w : World) (ws : List Str) (b i : Value) (wr : World) : Prop :=
  ∃ k : Nat, k ≤ ws.length ∧ i = .int .i64 (k : Int) ∧ wr.ownsRow w.heap.size 5 1 b (enc ws.length ++ wordsL (ws.take k)).length (bcells (enc ws.length ++ wordsL (ws.take k))) ∧ Below w.heap.size w wr
set_option maxRecDepth 8000 in
set_option maxHeartbeats 4000000 in
theorem encodeWords_any (v : Value) (ws : List Str) (w : World) (hv : IsS w v ws) (hl : ws.length ≤ 1000000) (hs : ∀ s ∈ ws, s.length ≤ 1000000) :
    Calls Try.prog 41 #[v] w (Made (bytesW ws) w) := by
  obtain ⟨A, c, rfl⟩ := hv.slice_
  have HV := hidden hv
  have HSL := hidden hs
  have HE := hidden (encode_any (ws.length : Int) w (by omega) (by omega))
  rw [Int.toNat_natCast] at HE
  have HEL := hidden (enc_len10 (n := ws.length) (by omega))
  clear hv hs
  go_enter Try.func41, Try.ntmps41
  go_wp2_with fail
  refine HE.out.mono ?_
  rintro e w1 ⟨v1, rfl, hown1, g1⟩
  have HO1 := hidden hown1
  have HG1 := hidden g1
  clear hown1 g1
  go_wp2_with fail
  go_loopw [3, 12] (fun b i wr => EWRel w ws b i wr) (fun _ i _ => ws.length - (intOf i).toNat)
  case atStart => exact ⟨0, by omega, rfl, by simpa [wordsL] using HO1.out, HG1.out⟩
  case round =>
    obtain ⟨k, hk, rfl, hown, hb⟩ := hrel
    have HO := hidden hown
    have HB := hidden hb
    clear hown hb
    by_cases hlt : k < ws.length
    · obtain ⟨b, f, rfl, hck⟩ := (HV.out.grow HB.out).at_ hlt
      have HTK := hidden (wordsL_take hlt)
      have hsl := HSL.out _ (List.getElem_mem hlt)
      have HWL := hidden (show (enc ws.length ++ wordsL (ws.take k)).length ≤ 100000000000000 by
        have h1 := wordsL_len (ws := ws.take k) fun x hx => HSL.out x (List.mem_of_mem_take hx)
        rw [List.length_take] at h1
        have h2 := HEL.out
        rw [List.length_append]
        have h3 : 1000010 * min k ws.length ≤ 1000010 * 1000000 := Nat.mul_le_mul_left _ (by omega)
        omega)
      obtain ⟨P, hP⟩ : ∃ P, enc ws.length ++ wordsL (ws.take k) = P := ⟨_, rfl⟩
      have HTP := hidden (show enc ws.length ++ wordsL (ws.take (k + 1)) = P ++ enc ws[k].length ++ ws[k] by
        rw [HTK.out, ← hP]; simp [wordL])
      rw [hP] at HO HWL
      have hsz : (strOf ws[k]).size = ws[k].length := rfl
      have HEK := hidden (encode_any (ws[k].length : Int) wr (by omega) (by omega))
      rw [Int.toNat_natCast] at HEK
      have HEL2 := hidden (enc_len10 (n := ws[k].length) (by omega))
      generalize ws[k] = s at *
      generalize enc s.length = E at *
      clear hP HTK
      go_wp2_with fail
      refine HEK.out.mono ?_
      rintro e w2 ⟨v2, rfl, hown2, g2⟩
      have HO2 := hidden (own_growS HO.out g2)
      have HB2 := hidden (HB.out.trans (g2.mono HB.out.size))
      have HBY := hidden (IsBytes.of_own hown2)
      clear hown2 g2 hck
      have hw1 := HWL.out
      have hw2 := HEL2.out
      go_wp2_with (first
        | (at_builtin; refine wpList_append_bytes (w := w) rfl _ _ 40 rfl 5 Try.underlying40 info_u8 _ P (by rfl) HO2.out HB2.out _ E (by rfl) HBY.out (by omega) ?_; intro v3 w3 hown3 hb3; have HO3 := hidden hown3; have HB3 := hidden hb3; clear hown3 hb3)
        | (at_builtin; refine wpList_append_str (w := w) rfl _ _ 40 9 rfl 5 Try.underlying40 Try.underlying9 info_u8 _ (P ++ E) (by rfl) HO3.out HB3.out s (by rfl) (by rw [List.length_append]; omega) ?_; intro v4 w4 hown4 hb4; have HO4 := hidden hown4; have HB4 := hidden hb4; clear hown4 hb4))
      first
        | (go_roundw; (case rel => exact ⟨k + 1, by omega, by go_num, by rw [HTP.out]; exact HO4.out, HB4.out⟩); (case measure => simp [intOf]; omega))
        | exact ⟨⟨k + 1, by omega, by go_num, by rw [HTP.out]; exact HO4.out, HB4.out⟩, by simp [intOf]; omega⟩
    · have hke : k = ws.length := by omega
      rw [hke, List.take_length] at HO
      clear hke
      go_wp2_with fail
      go_ret
      exact ⟨_, rfl, HO.out, HB.out⟩
end Go.Proofs.Ytgmjoghgmcjebaa
/-
  readWord and readWords of package dictionary. Nothing that was there is changed.
-/
namespace Go.Proofs.Ytgmjoghgmcjebaa
open Go.RowKit
set_option linter.unusedVariables false
set_option linter.unusedSimpArgs false

def RdR (r : Str × Int × Int) (w : World) (e : Ending) (w' : World) : Prop := e = .returned (.tuple #[.string (strOf r.1), .int .i64 r.2.1, .int .i64 r.2.2]) ∧ w = w'
theorem some_of_bytes {w : World} {A : Option Addr} {n c : Nat} {l : List UInt8} (h : IsBytes w (.slice A n c) l) (h0 : 0 < l.length) : ∃ b f, A = some ⟨b, f, none⟩ := by
  obtain ⟨A', c', he, hc⟩ := h
  injection he with e1 e2 e3
  subst e1
  obtain ⟨b, f, rfl, _⟩ := hc h0
  exact ⟨b, f, rfl⟩
set_option maxRecDepth 8000 in
set_option maxHeartbeats 4000000 in
theorem readWord_any (A : Option Addr) (c : Nat) (b : List UInt8) (q : Nat) (w : World) (hb : IsBytes w (.slice A b.length c) b) (hlc : b.length ≤ c) (hl : b.length ≤ 1000000000) (hq : q ≤ b.length) :
    Calls Try.prog 65 #[.slice A b.length c, .int .i64 (q : Int)] w (RdR (rdW b q) w) := by
  have HV := hidden hb
  have HDC := hidden (decode_any (.slice A b.length c) b q w hb (by unfold maxLen; omega) (by omega) (by omega))
  by_cases h1 : (dcd b q).2.2 = 0
  · obtain ⟨n, k, hd, hk, hk1, _, hn64⟩ := dcd_num hq h1
    rw [hd] at HDC
    obtain ⟨q2, hq2⟩ : ∃ q2, q2 = q + k := ⟨_, rfl⟩
    rw [← hq2] at hd HDC hk
    by_cases h2 : n ≤ 4096
    · obtain ⟨R, hR⟩ : ∃ R : Nat, R = b.length - q2 := ⟨_, rfl⟩
      have hR1 : (b.length : Int) - (q2 : Int) = (R : Int) := by omega
      have hRl : R ≤ 1000000000 := by omega
      by_cases h3 : q2 + n ≤ b.length
      · have HE := hidden (rdW_ok hd h2 h3)
        obtain ⟨E, hE⟩ : ∃ E, E = q2 + n := ⟨_, rfl⟩
        have hPE : (q2 : Int) + (n : Int) = (E : Int) := by omega
        rw [← hE] at HE
        obtain ⟨bb, ff, rfl⟩ := some_of_bytes hb (by omega)
        have hPL : q2 ≤ E := by omega
        have hEl : E ≤ b.length := by omega
        have HEN := hidden (show E - q2 = n by omega)
        have hd3 : decide (R < n) = false := by simp; omega
        have hd4 : decide ((4096 : Int) < (n : Int)) = false := by simp; omega
        clear hb hR hE hd h1 hq2 h3 hk hq
        go_enter Try.func65, Try.ntmps65
        go_wp2_with fail
        refine HDC.out.mono ?_
        rintro e w2 ⟨rfl, rfl⟩
        go_wp2_with (first
          | (refine wpList_slice_bytes rfl _ _ _ 40 5 rfl Try.underlying40 (by kernel_rfl) (by kernel_rfl) bb ff b c rfl HV.out q2 E rfl rfl hPL hEl hlc ?_; rw [HEN.out]; intro v9 hv9; have HV9 := hidden hv9; clear hv9)
          | (refine wpList_tostring rfl _ 40 9 5 rfl Try.underlying40 Try.underlying5 Try.underlying9 v9 _ rfl HV9.out ?_))
        go_ret3
        exact ⟨by rw [HE.out]; rfl, rfl⟩
      · have HE := hidden (rdW_s (b := b) (p := q) (by rw [hd]) (by rw [hd]; simp; omega) (by rw [hd]; simp only []; omega))
        have hd3 : decide (R < n) = true := by simp; omega
        have hd4 : decide ((4096 : Int) < (n : Int)) = false := by simp; omega
        clear hb hR hd h1 hq2 h3 hk hq
        go_enter Try.func65, Try.ntmps65
        go_wp2_with fail
        refine HDC.out.mono ?_
        rintro e w2 ⟨rfl, rfl⟩
        go_wp2_with fail
        go_ret3
        exact ⟨by rw [HE.out]; rfl, rfl⟩
    · have HE := hidden (rdW_l (b := b) (p := q) (by rw [hd]) (by rw [hd]; simp; omega))
      have hd4 : decide ((4096 : Int) < (n : Int)) = true := by simp; omega
      clear hb hd h1 hq2 hk hq
      go_enter Try.func65, Try.ntmps65
      go_wp2_with fail
      refine HDC.out.mono ?_
      rintro e w2 ⟨rfl, rfl⟩
      go_wp2_with fail
      go_ret3
      exact ⟨by rw [HE.out]; rfl, rfl⟩
  · have HE := hidden (rdW_e h1)
    have hne : ((dcd b q).2.2 != 0) = true := by simpa using h1
    generalize dcd b q = r at *
    obtain ⟨r1, r2, r3⟩ := r
    simp only [] at hne HDC HE
    clear hb h1 hq
    go_enter Try.func65, Try.ntmps65
    go_wp2_with fail
    refine HDC.out.mono ?_
    rintro e w2 ⟨rfl, rfl⟩
    go_wp2_with fail
    go_ret3
    exact ⟨by rw [HE.out]; rfl, rfl⟩
/-- strings, an offset, an error are handed back -/
def RsR (r : List Str × Int × Int) (w : World) (e : Ending) (w' : World) : Prop := ∃ v, e = .returned (.tuple #[v, .int .i64 r.2.1, .int .i64 r.2.2]) ∧ Grows w w' ∧ IsS w' v r.1
theorem RsR.err {r : List Str × Int × Int} {w w' : World} {f : Int} (h : r = ([], 0, f)) (hb : Grows w w') : RsR r w (.returned (.tuple #[.slice none 0 0, .int .i64 0, .int .i64 f])) w' := by
  subst h
  exact ⟨_, rfl, hb, Reads.nil_ _ 0⟩
def RWRel (w : World) (b : List UInt8) (cnt : Nat) (R : List Str × Int × Int) (p u i : Value) (wr : World) : Prop :=
  ∃ (j q : Nat) (ws : List Str), j ≤ cnt ∧ i = .int .i64 (j : Int) ∧ p = .int .i64 (q : Int) ∧ q ≤ b.length ∧ ws.length = j ∧ wr.ownsRow w.heap.size 9 1 u ws.length (scells ws) ∧ rdWs b (cnt - j) ws q = R ∧ Below w.heap.size w wr
theorem own_emptyS (w : World) {base : Nat} (hb : base ≤ w.heap.size) : (w.alloc (.cells #[] 9)).ownsRow base 9 1 (.slice (some ⟨w.heap.size, 0, none⟩) 0 0) ([] : List Str).length (scells []) :=
  (Row.new w 9 #[] [] rfl).own hb (by simp [maxLen])
theorem badW_last {ws : List Str} {s : Str} {J : Nat} (h : ws.length = J + 1) : badW ws s = !decide (ws[J] < s) := by
  have hJ : ws.length - 1 = J := by omega
  have e : ws.getLast? = some ws[J] := by rw [List.getLast?_eq_getElem?, hJ, List.getElem?_eq_getElem]
  unfold badW
  rw [e]
theorem badW_nil (s : Str) : badW [] s = false := rfl
set_option maxRecDepth 8000 in
set_option maxHeartbeats 8000000 in
theorem readWords_any (A : Option Addr) (c : Nat) (b : List UInt8) (off : Int) (N : Nat) (w : World) (hb : IsBytes w (.slice A b.length c) b) (hlc : b.length ≤ c) (hl : b.length ≤ 1000000000) (h63 : -9223372036854775808 ≤ off) (h64 : off ≤ 9223372036854775807) (hN : N ≤ 65536) :
    Calls Try.prog 44 #[.slice A b.length c, .int .i64 off, .int .i64 (N : Int)] w (RsR (rdD b off N) w) := by
  have HV := hidden hb
  have HDC := hidden (decode_any (.slice A b.length c) b off w hb (by unfold maxLen; omega) h63 h64)
  have HRW := hidden (fun (q : Nat) (W : World) (hq : q ≤ b.length) (hW : Grows w W) => readWord_any A c b q W (hb.grow hW) hlc hl hq)
  by_cases h1 : (dcd b off).2.2 = 0
  · obtain ⟨o, rfl⟩ : ∃ o : Nat, off = (o : Int) := by
      rcases Int.lt_or_le off 0 with h | h
      · rw [dcd_bad (.inl h)] at h1; cases h1
      · exact Int.eq_ofNat_of_zero_le h
    have ho : o ≤ b.length := by
      rcases Nat.lt_or_ge b.length o with h | h
      · rw [dcd_bad (.inr (by omega))] at h1; cases h1
      · exact h
    obtain ⟨n, k, hd, hk, hk1, _, hn64⟩ := dcd_num ho h1
    rw [hd] at HDC
    obtain ⟨q2, hq2⟩ : ∃ q2, q2 = o + k := ⟨_, rfl⟩
    rw [← hq2] at hd HDC hk
    by_cases h2 : n ≤ N
    · have HE := hidden (show rdD b o N = rdWs b n [] q2 by rw [rdD_n (by rw [hd]) (by rw [hd]; simp; omega), hd]; simp)
      obtain ⟨R, hR⟩ : ∃ R, R = rdD b o N := ⟨_, rfl⟩
      rw [← hR] at HE ⊢
      have hd3 : decide (N < n) = false := by simp; omega
      have hnl : n ≤ 65536 := by omega
      clear hb hd h1 hq2 hR
      go_enter Try.func44, Try.ntmps44
      go_wp2_with fail
      refine HDC.out.mono ?_
      rintro e w2 ⟨rfl, rfl⟩
      go_wp2_with fail
      go_loopw [10, 12, 34] (fun p u i wr => RWRel w b n R p u i wr) (fun _ _ i _ => n - (intOf i).toNat)
      case atStart => exact ⟨0, q2, [], by omega, rfl, rfl, hk, rfl, own_emptyS w (Nat.le_refl _), HE.out.symm, growA _⟩
      case round =>
        obtain ⟨j, q, ws, hj, rfl, rfl, hq, hwl, hown, hres, hbw⟩ := hrel
        have HB := hidden hbw
        have HOW := hidden hown
        have HWL := hidden hwl
        have HRES := hidden hres
        obtain ⟨A2, c2, rfl⟩ := own_sliceS hown
        by_cases hlt : j < n
        · obtain ⟨f, hf⟩ : ∃ f, n - j = f + 1 := ⟨n - j - 1, by omega⟩
          have HF := hidden (show n - (j + 1) = f by omega)
          rw [hf] at HRES
          have HRD := hidden (HRW.out q wr hq hbw)
          have HIS := hidden (show IsS wr (.slice A2 ws.length c2) ws from Reads.of_own hown)
          by_cases he : (rdW b q).2.2 = 0
          · obtain ⟨m, q3, _, hm, hq3, _, hrw⟩ := rdW_acc hq he
            have HST := hidden (show badW ws (cutB b q3 m) = true → R = ([], 0, 4) from fun h => by
              have h2 := HRES.out
              rw [rdWs_b he (by rw [hrw]; exact h)] at h2
              exact h2.symm)
            have HSN := hidden (show badW ws (cutB b q3 m) = false → rdWs b f (ws ++ [cutB b q3 m]) (q3 + m : Nat) = R from fun h => by
              have h2 := HRES.out
              rw [rdWs_n he (by rw [hrw]; exact h), hrw] at h2
              exact h2)
            rw [hrw] at HRD
            generalize cutB b q3 m = s at *
            obtain ⟨q4, hq4⟩ : ∃ q4, q4 = q3 + m := ⟨_, rfl⟩
            rw [← hq4] at HRD HSN hq3
            have hsz := hbw.size
            have hlen1 : ws.length + 1 ≤ 1000000000000 := by omega
            by_cases hj0 : j = 0
            · have hw0 : ws = [] := List.eq_nil_of_length_eq_zero (by omega)
              have HN2 := hidden (HSN.out (by rw [hw0]; rfl))
              have hdj : decide (0 < j) = false := by simp; omega
              have HLN1 := hidden hlen1
              clear hres hown hbw hwl hw0 he hf hrw hq4 hj0 hlen1
              go_wp2_with fail
              refine HRD.out.mono ?_
              rintro e w3 ⟨rfl, rfl⟩
              go_wp2_with ((at_builtin; go_loud (refine wpList_append_s rfl _ _ rfl _ ws (by rfl) w.heap.size HOW.out w HB.out hsz s _ rfl (by rfl) HLN1.out ?_); intro v5 w5 hown5 hb5; have HO5 := hidden hown5; have HB5 := hidden hb5; clear hown5 hb5))
              first
                | (go_roundw; (case rel => exact ⟨j + 1, q4, _, by omega, by go_num, rfl, by omega, by rw [List.length_append, List.length_singleton, HWL.out], HO5.out, by rw [HF.out]; exact HN2.out, HB5.out⟩); (case measure => simp [intOf]; omega))
                | exact ⟨⟨j + 1, q4, _, by omega, by go_num, rfl, by omega, by rw [List.length_append, List.length_singleton, HWL.out], HO5.out, by rw [HF.out]; exact HN2.out, HB5.out⟩, by simp [intOf]; omega⟩
            · obtain ⟨J, hJ⟩ : ∃ J, j = J + 1 := ⟨j - 1, by omega⟩
              have hbl := badW_last (ws := ws) (s := s) (J := J) (by omega)
              have hJ1 : (j : Int) - 1 = (J : Int) := by omega
              have hJ2 : IntKind.i64.wrap (J : Int) = (J : Int) := by rw [IntKind.wrap_i64]; omega
              have hJl : J < ws.length := by omega
              have hdj : decide (0 < j) = true := by simp; omega
              obtain ⟨b2, f2, rfl, hck⟩ := HIS.out.at_ hJl
              have hle := leS s ws[J]
              rw [← hbl] at hle
              generalize ws[J] = t at *
              cases hbb : badW ws s
              · have HN2 := hidden (HSN.out hbb)
                rw [hbb] at hle
                have HLN1 := hidden hlen1
                generalize hS' : strOf t = t' at *
                clear hres hown hbw hwl he hf hrw hq4 hj0 hlen1 hJ hbl hbb hS'
                go_wp2_with fail
                refine HRD.out.mono ?_
                rintro e w3 ⟨rfl, rfl⟩
                go_wp2_with ((at_builtin; go_loud (refine wpList_append_s rfl _ _ rfl _ ws (by rfl) w.heap.size HOW.out w HB.out hsz s _ rfl (by rfl) HLN1.out ?_); intro v5 w5 hown5 hb5; have HO5 := hidden hown5; have HB5 := hidden hb5; clear hown5 hb5))
                first
                  | (go_roundw; (case rel => exact ⟨j + 1, q4, _, by omega, by go_num, rfl, by omega, by rw [List.length_append, List.length_singleton, HWL.out], HO5.out, by rw [HF.out]; exact HN2.out, HB5.out⟩); (case measure => simp [intOf]; omega))
                  | exact ⟨⟨j + 1, q4, _, by omega, by go_num, rfl, by omega, by rw [List.length_append, List.length_singleton, HWL.out], HO5.out, by rw [HF.out]; exact HN2.out, HB5.out⟩, by simp [intOf]; omega⟩
              · have HN2 := hidden (HST.out hbb)
                rw [hbb] at hle
                generalize hS' : strOf t = t' at *
                clear hres hown hbw hwl he hf hrw hq4 hj0 hJ hbl hbb hS'
                go_wp2_with fail
                refine HRD.out.mono ?_
                rintro e w3 ⟨rfl, rfl⟩
                go_wp2_with fail
                go_ret3
                exact RsR.err HN2.out HB.out
          · have HN2 := hidden (show R = ([], 0, (rdW b q).2.2) by
              have h2 := HRES.out
              rw [rdWs_e he] at h2
              exact h2.symm)
            have hne : ((rdW b q).2.2 != 0) = true := by simpa using he
            generalize rdW b q = r at *
            obtain ⟨r1, r2, r3⟩ := r
            simp only [] at hne HRD HN2
            clear hres hown hbw hwl he hf
            go_wp2_with fail
            refine HRD.out.mono ?_
            rintro e w3 ⟨rfl, rfl⟩
            go_wp2_with fail
            go_ret3
            exact RsR.err HN2.out HB.out
        · have hje : n - j = 0 := by omega
          rw [hje] at HRES
          have HN2 := hidden (show R = (ws, (q : Int), 0) from HRES.out.symm)
          clear hres hown hbw hwl hje
          go_wp2_with fail
          go_ret3
          refine ⟨_, by rw [HN2.out]; rfl, HB.out, ?_⟩
          rw [HN2.out]
          exact Reads.of_own HOW.out
    · have HE := hidden (rdD_r (b := b) (off := (o : Int)) (n := (N : Int)) (by rw [hd]) (by rw [hd]; simp; omega))
      have hd3 : decide (N < n) = true := by simp; omega
      clear hb hd h1 hq2
      go_enter Try.func44, Try.ntmps44
      go_wp2_with fail
      refine HDC.out.mono ?_
      rintro e w2 ⟨rfl, rfl⟩
      go_wp2_with fail
      go_ret3
      exact RsR.err HE.out (Below.refl _ _)
  · have HE := hidden (rdD_e (n := (N : Int)) h1)
    have hne : ((dcd b off).2.2 != 0) = true := by simpa using h1
    generalize dcd b off = r at *
    obtain ⟨r1, r2, r3⟩ := r
    simp only [] at hne HDC HE
    clear hb h1
    go_enter Try.func44, Try.ntmps44
    go_wp2_with fail
    refine HDC.out.mono ?_
    rintro e w2 ⟨rfl, rfl⟩
    go_wp2_with fail
    go_ret3
    exact RsR.err HE.out (Below.refl _ _)
end Go.Proofs.Ytgmjoghgmcjebaa
/-
  encodeCodes, Encode and Size of package dictionary. Nothing that was there is changed.
-/
namespace Go.Proofs.Ytgmjoghgmcjebaa
open Go.RowKit
set_option linter.unusedVariables false
set_option linter.unusedSimpArgs false

theorem runs_inI {cs : List Nat} (h : ∀ c ∈ cs, c ≤ 4611686018427387903) : ∀ x ∈ runsR (intsL cs), in64 x.1 := by
  intro x hx
  have hp := runsR_pos' (intsL cs) x hx
  have he : x.1 ∈ expR (runsR (intsL cs)) := by
    have : ∀ l : List Rn, x ∈ l → x.1 ∈ expR l := fun l => by
      induction l with
      | nil => intro h; cases h
      | cons y l ih =>
        intro h
        rw [expR, List.mem_append]
        rcases List.mem_cons.1 h with rfl | h
        · exact .inl (List.mem_replicate.2 ⟨by omega, rfl⟩)
        · exact .inr (ih h)
    exact this _ hx
  rw [expR_runs] at he
  obtain ⟨c, hc, e⟩ := List.mem_map.1 he
  have := h c hc
  unfold in64
  omega
theorem runs_cnt (cs : List Nat) (h : cs.length ≤ 1000000) : ∀ x ∈ runsR (intsL cs), 0 ≤ x.2 ∧ x.2 ≤ 9223372036854775807 := by
  intro x hx
  have h1 := runsR_pos' (intsL cs) x hx
  have h2 := (runsR_len (intsL cs) (Nat.le_refl _)).1
  rw [List.take_length] at h2
  have h3 := h2 x hx
  rw [intsL_length] at h3
  omega
/-- a row of n cells z that was laid behind H -/
def NewZ (e : TypeId) (z : Value) (n H : Nat) : Value → World → Prop := fun v w => ∃ b, v = .slice (some ⟨b, 0, none⟩) n n ∧ H ≤ b ∧ Row w b e (List.replicate n z)
theorem NewZ.lasts {e : TypeId} {z : Value} {n H : Nat} : ∀ v w w', NewZ e z n H v w → Grows w w' → NewZ e z n H v w' := fun _ _ _ ⟨b, h1, h2, h3⟩ hg => ⟨b, h1, h2, h3.grow hg⟩
theorem Row.set_otherD {w : World} {g : Nat} {e : TypeId} {xs : List Value} (h : Row w g e xs) {p : Addr} (hne : g ≠ p.block) (u : Value) : Row (w.setCell p u) g e xs := by
  unfold Row at h ⊢
  rw [Below.heap_setCell w p u g hne]
  exact h
theorem wcells_setD (l : List Nat) (j c : Nat) : (wcells l).set j (.int .u64 (c : Int)) = wcells (l.set j c) := by simp [wcells, List.map_set]
theorem made_wcells (n : Nat) : List.replicate n (Value.int .u64 0) = wcells (List.replicate n 0) := by simp [wcells]
def ECRel (w : World) (cs : List Nat) (b1 b2 : Nat) (i : Value) (wr : World) : Prop :=
  ∃ k : Nat, k ≤ cs.length ∧ i = .int .i64 (k : Int) ∧ Row wr b1 60 (wcells (cutN cs k cs.length)) ∧ Row wr b2 2 (ncells (cutN cs k cs.length)) ∧ Below w.heap.size w wr
set_option maxRecDepth 20000 in
set_option maxHeartbeats 8000000 in
theorem encodeCodes_any (v : Value) (cs : List Nat) (k0 : Nat) (w : World) (hv : IsN w v cs) (hl : cs.length ≤ 1000000) (hk0 : k0 ≤ 1000000) (hcs : ∀ c ∈ cs, c ≤ 4611686018427387903) :
    Calls Try.prog 42 #[v, .int .i64 (widW k0 : Int)] w (Made (codesB k0 cs) w) := by
  obtain ⟨A, c, rfl⟩ := hv.slice_
  have HV := hidden hv
  have HCS := hidden hcs
  have HMU := hidden (fun W => run_make_rep (P := Try.prog) 63 60 (.int .u64 0) 8 Try.underlying63 (by kernel_rfl) rfl cs.length (by omega) (by omega) W)
  have HMI := hidden (fun W => run_make_rep (P := Try.prog) 64 2 (.int .i64 0) 8 Try.underlying64 (by kernel_rfl) rfl cs.length (by omega) (by omega) W)
  have HCB0 := hidden (show codesB k0 cs = if (encR (runsR (intsL cs))).length < (packL cs (widW k0)).length then 1 :: encR (runsR (intsL cs)) else 0 :: packL cs (widW k0) from rfl)
  have HW64 := hidden (widW_le (k := k0) (by omega))
  have HPL := hidden (packL_len (cs := cs) (m := widW k0) (by omega) HW64.out)
  have HRL := hidden (runs_len cs)
  generalize hm : widW k0 = m at *
  have HM := hidden hm
  clear hv hcs hm
  go_enter Try.func42, Try.ntmps42
  go_wp2_with fail
  refine wp_region_loose (tabRs [(2, NewZ 60 (.int .u64 0) cs.length w.heap.size), (5, NewZ 2 (.int .i64 0) cs.length w.heap.size)]) (by kernel_rfl) (by kernel_rfl) (tabRs_cons NewZ.lasts (tabRs_cons NewZ.lasts tabRs_nil)) ?_
  iterate 2 ((with_reducible refine loose_one (v := ?_) (a' := ?_) ?_ ?_ (fun w' hC' hG' => ?_) ?_ ?_); rotate_left 2; (focus rfl); (focus rfl); (focus (clear hC' hG'; go_simp; rfl)); (focus (go_simp; rfl)))
  refine loose_new (R := NewZ 60 (.int .u64 0) cs.length w.heap.size) (by rfl) (by rfl) (fun w' hC' hG' => ?_) ?_
  · exact ⟨.slice (some ⟨w'.heap.size, 0, none⟩) cs.length cs.length, w'.alloc (.cells (List.replicate cs.length (.int .u64 0)).toArray 60), by (have h1 := HMU.out w'; have h2 := HMI.out w'; clear hC' hG'; first | rfl | (go_simp; rfl) | go_simp), growA _, w'.heap.size, rfl, hC'.size, Row.new w' 60 _ _ rfl⟩
  rintro _ ⟨_, _, b1, rfl, hb1, _⟩
  refine ⟨?_, ?_, ?_⟩
  rotate_left
  · go_simp
    rfl
  iterate 2 ((with_reducible refine loose_one (v := ?_) (a' := ?_) ?_ ?_ (fun w' hC' hG' => ?_) ?_ ?_); rotate_left 2; (focus rfl); (focus rfl); (focus (clear hC' hG'; go_simp; rfl)); (focus (go_simp; rfl)))
  refine loose_new (R := NewZ 2 (.int .i64 0) cs.length w.heap.size) (by rfl) (by rfl) (fun w' hC' hG' => ?_) ?_
  · exact ⟨.slice (some ⟨w'.heap.size, 0, none⟩) cs.length cs.length, w'.alloc (.cells (List.replicate cs.length (.int .i64 0)).toArray 2), by (have h1 := HMU.out w'; have h2 := HMI.out w'; clear hC' hG'; first | rfl | (go_simp; rfl) | go_simp), growA _, w'.heap.size, rfl, hC'.size, Row.new w' 2 _ _ rfl⟩
  rintro _ ⟨_, _, b2, rfl, hb2, _⟩
  refine ⟨?_, ?_, ?_⟩
  rotate_left
  · go_simp
    rfl
  iterate 2 ((with_reducible refine loose_one (v := ?_) (a' := ?_) ?_ ?_ (fun w' hC' hG' => ?_) ?_ ?_); rotate_left 2; (focus rfl); (focus rfl); (focus (clear hC' hG'; go_simp; rfl)); (focus (go_simp; rfl)))
  refine loose_done (fun w1 hC' hG' => ?_)
  obtain ⟨b2', hbe2, _, hrow2⟩ := (hG' 5).2 rfl
  obtain ⟨b1', hbe1, _, hrow1⟩ := (hG' 2).1.2 rfl
  have e1 : b1' = b1 := by injection hbe1 with hbe; injection hbe with hbe; injection hbe with hbe; exact hbe.symm
  have e2 : b2' = b2 := by injection hbe2 with hbe; injection hbe with hbe; injection hbe with hbe; exact hbe.symm
  rw [e1] at hrow1
  rw [e2] at hrow2
  have HNE := hidden (show b2 ≠ b1 by
    rintro rfl
    unfold Row at hrow1 hrow2
    rw [hrow1] at hrow2
    injection hrow2 with hrow2
    injection hrow2 with _ h2
    exact absurd h2 (by decide))
  have HR1 := hidden hrow1
  have HR2 := hidden hrow2
  have HG1 := hidden (show Grows w w1 from hC')
  have HB1 := hidden hb1
  have HB2 := hidden hb2
  clear hrow1 hrow2 hC' hG' hbe1 hbe2 hb1 hb2 e1 e2
  go_wp2_with fail
  go_loopw [19] (fun i wr => ECRel w cs b1 b2 i wr) (fun i _ => cs.length - (intOf i).toNat)
  case atStart =>
    refine ⟨0, by omega, rfl, ?_, ?_, HG1.out⟩
    · rw [cutN_zero, ← made_wcells]; exact HR1.out
    · rw [cutN_zero, ← made_ncells]; exact HR2.out
  case round =>
    obtain ⟨j, hj, rfl, hr1, hr2, hb⟩ := hrel
    have HR1 := hidden hr1
    have HR2 := hidden hr2
    have HB := hidden hb
    by_cases hlt : j < cs.length
    · obtain ⟨b, f, rfl, hck⟩ := (HV.out.grow hb).at_ hlt
      have HSET := hidden (cutN_set hlt rfl)
      have hlen : j < (cutN cs j cs.length).length := by rw [cutN_length (by omega) rfl]; exact hlt
      have c1 := hr1.cell j
      rw [wcells_get hlen] at c1
      have f1 := hr1.frozen j
      have hcj := HCS.out _ (List.getElem_mem hlt)
      have HS1 := hidden (hr1.set_ j (.int .u64 (cs[j] : Int)))
      rw [wcells_setD, HSET.out] at HS1
      have hr2' : Row (wr.setCell ⟨b1, j, none⟩ (.int .u64 (cs[j] : Int))) b2 2 (ncells (cutN cs j cs.length)) := hr2.set_otherD HNE.out _
      have c2 := hr2'.cell j
      rw [ncells_get hlen] at c2
      have f2 := hr2'.frozen j
      have HS2 := hidden (hr2'.set_ j (.int .i64 (cs[j] : Int)))
      rw [ncells_set, HSET.out] at HS2
      have HS3 := hidden (Row.set_otherD (p := ⟨b2, j, none⟩) HS1.out (fun e => HNE.out e.symm) (.int .i64 (cs[j] : Int)))
      have HB3 := hidden ((Below.setCell hb (p := ⟨b1, j, none⟩) HB1.out (.int .u64 (cs[j] : Int))).setCell (p := ⟨b2, j, none⟩) HB2.out (.int .i64 (cs[j] : Int)))
      generalize (cutN cs j cs.length)[j] = old at *
      generalize cs[j] = x at *
      clear hr1 hr2 hb hr2' hlen
      go_wp2_with fail
      go_roundw
      case rel => exact ⟨j + 1, by omega, by go_num, HS3.out, HS2.out, HB3.out⟩
      case measure => simp [intOf]; omega
    · have hje : j = cs.length := by omega
      have HR1 := hidden (show Row wr b1 60 (wcells cs) by rw [hje, cutN_all] at hr1; exact hr1)
      have HR2 := hidden (show Row wr b2 2 (ncells cs) by rw [hje, cutN_all] at hr2; exact hr2)
      have HG := hidden (show Grows w wr from hb)
      have HPK := hidden (pack_any (.slice (some ⟨b1, 0, none⟩) cs.length cs.length) cs (m : Int) wr (Reads.of_row HR1.out _ _ (by rw [wcells_length]) (Nat.le_refl _)) (fun x hx => by have := HCS.out x hx; omega) (by omega))
      have HPE := hidden (show packI cs (m : Int) = packL cs m by unfold packI; rw [okB_t (by omega) HW64.out, Int.toNat_natCast]; rfl)
      rw [HPE.out] at HPK
      have HRU := hidden (fun W (h : Grows wr W) => lruns_any (.slice (some ⟨b2, 0, none⟩) cs.length cs.length) (intsL cs) W (show IsI W _ (intsL cs) from (by
        have h2 : Reads wr (.slice (some ⟨b2, 0, none⟩) cs.length cs.length) (ncells cs) := Reads.of_row HR2.out _ _ (by rw [ncells_length]) (Nat.le_refl _)
        have h3 := h2.grow h
        rw [show ncells cs = icells (intsL cs) by simp [ncells, icells, intsL]] at h3
        exact h3)) (by rw [intsL_length]; omega))
      have HRE := hidden (fun W u (hu : ReadsR W u (runsR (intsL cs))) => lencode_any u (runsR (intsL cs)) W hu (runs_inI HCS.out) (runs_cnt cs (by omega)) (by
        have h2 := (runsR_len (intsL cs) (Nat.le_refl _)).2
        rw [List.take_length, intsL_length] at h2
        omega))
      generalize packL cs m = P at *
      generalize encR (runsR (intsL cs)) = E at *
      clear hr1 hr2 hb hje
      go_wp2_with fail
      refine HPK.out.mono ?_
      rintro e w2 ⟨v2, rfl, g2, hby2⟩
      obtain ⟨A2, c2, rfl, _⟩ := id hby2
      have HG2 := hidden (HG.out.of_below g2)
      have HBY2 := hidden hby2
      have HRU2 := hidden (HRU.out w2 g2)
      clear g2 hby2
      go_wp2_with fail
      refine HRU2.out.mono ?_
      rintro e w3 ⟨u3, rfl, g3, hr3⟩
      have HG3 := hidden (HG2.out.of_below g3)
      have HBY3 := hidden (HBY2.out.grow g3)
      have HRE3 := hidden (HRE.out w3 u3 hr3)
      clear g3 hr3
      go_wp2_with fail
      refine HRE3.out.mono ?_
      rintro e w4 ⟨v4, rfl, hown4, g4⟩
      obtain ⟨A4, c4, rfl⟩ := own_sliceB hown4
      have HG4 := hidden (HG3.out.of_below (show Grows w3 w4 from g4))
      have HBY4 := hidden (HBY3.out.grow (show Grows w3 w4 from g4))
      have HE4 := hidden (IsBytes.of_own hown4)
      clear hown4 g4
      by_cases hsh : E.length < P.length
      · have HCB := hidden (show codesB k0 cs = 1 :: E by rw [HCB0.out, if_pos hsh])
        have HPT : Hid (IsParts ((w4.alloc (.cells #[.int .u8 1] 5)).alloc (.cells #[.slice (some ⟨w4.heap.size, 0, none⟩) 1 1, .slice A4 E.length c4] 40)) (.slice (some ⟨w4.heap.size + 1, 0, none⟩) 2 2) [[1], E]) := by
          have h0 : IsBytes (w4.alloc (.cells #[.int .u8 1] 5)) (.slice (some ⟨w4.heap.size, 0, none⟩) ([1] : List UInt8).length 1) [1] := IsBytes.of_row (Row.new w4 5 _ (bcells [1]) rfl) 1 1 rfl
          have h := IsParts.new2 h0 (HE4.out.grow (growA (.cells #[.int .u8 1] 5))) 40
          rw [World.size_alloc] at h
          exact h
        have HCC := hidden (concat_any _ [[1], E] _ HPT.out (by simp [maxLen]) (by have := HRL.out; simp only [total, List.flatten_cons, List.flatten_nil, List.append_nil, List.length_append, List.length_singleton]; omega))
        go_wp2_with fail
        refine HCC.out.mono ?_
        rintro e w9 ⟨v9, rfl, hown9, g9⟩
        have HO9 := hidden hown9
        have HG9 := hidden (Grows.of_below (Grows.of_below (Grows.of_below (show Grows w w4 from HG4.out) (growA _)) (growA _)) (show Grows _ w9 from g9))
        have HSZ9 := hidden (show w.heap.size ≤ ((w4.alloc (.cells #[.int .u8 1] 5)).alloc (.cells #[.slice (some ⟨w4.heap.size, 0, none⟩) 1 1, .slice A4 E.length c4] 40)).heap.size by have := HG4.out.size; simp; omega)
        clear hown9 g9
        go_wp2_with fail
        go_ret
        have h := HO9.out
        simp only [List.flatten_cons, List.flatten_nil, List.append_nil, List.singleton_append] at h
        rw [HCB.out]
        exact ⟨_, rfl, ownsRow_base h HSZ9.out, HG9.out⟩
      · have HCB := hidden (show codesB k0 cs = 0 :: P by rw [HCB0.out, if_neg hsh])
        have HPT : Hid (IsParts ((w4.alloc (.cells #[.int .u8 0] 5)).alloc (.cells #[.slice (some ⟨w4.heap.size, 0, none⟩) 1 1, .slice A2 P.length c2] 40)) (.slice (some ⟨w4.heap.size + 1, 0, none⟩) 2 2) [[0], P]) := by
          have h0 : IsBytes (w4.alloc (.cells #[.int .u8 0] 5)) (.slice (some ⟨w4.heap.size, 0, none⟩) ([0] : List UInt8).length 1) [0] := IsBytes.of_row (Row.new w4 5 _ (bcells [0]) rfl) 1 1 rfl
          have h := IsParts.new2 h0 (HBY4.out.grow (growA (.cells #[.int .u8 0] 5))) 40
          rw [World.size_alloc] at h
          exact h
        have HCC := hidden (concat_any _ [[0], P] _ HPT.out (by simp [maxLen]) (by have := HPL.out; simp only [total, List.flatten_cons, List.flatten_nil, List.append_nil, List.length_append, List.length_singleton]; omega))
        go_wp2_with fail
        refine HCC.out.mono ?_
        rintro e w9 ⟨v9, rfl, hown9, g9⟩
        have HO9 := hidden hown9
        have HG9 := hidden (Grows.of_below (Grows.of_below (Grows.of_below (show Grows w w4 from HG4.out) (growA _)) (growA _)) (show Grows _ w9 from g9))
        have HSZ9 := hidden (show w.heap.size ≤ ((w4.alloc (.cells #[.int .u8 0] 5)).alloc (.cells #[.slice (some ⟨w4.heap.size, 0, none⟩) 1 1, .slice A2 P.length c2] 40)).heap.size by have := HG4.out.size; simp; omega)
        clear hown9 g9
        go_wp2_with fail
        go_ret
        have h := HO9.out
        simp only [List.flatten_cons, List.flatten_nil, List.append_nil, List.singleton_append] at h
        rw [HCB.out]
        exact ⟨_, rfl, ownsRow_base h HSZ9.out, HG9.out⟩
end Go.Proofs.Ytgmjoghgmcjebaa
/-
  readPacked, readRuns and readCodes of package dictionary. Nothing that was there is changed.
-/
namespace Go.Proofs.Ytgmjoghgmcjebaa
open Go.RowKit
set_option linter.unusedVariables false
set_option linter.unusedSimpArgs false

/-- codes, an offset, an error are handed back -/
def RcR (r : List Nat × Int × Int) (w : World) (e : Ending) (w' : World) : Prop := ∃ v, e = .returned (.tuple #[v, .int .i64 r.2.1, .int .i64 r.2.2]) ∧ Grows w w' ∧ IsW w' v r.1
theorem RcR.err {r : List Nat × Int × Int} {w w' : World} {f : Int} (h : r = ([], 0, f)) (hb : Grows w w') : RcR r w (.returned (.tuple #[.slice none 0 0, .int .i64 0, .int .i64 f])) w' := by
  subst h
  exact ⟨_, rfl, hb, Reads.nil_ _ 0⟩
set_option maxRecDepth 8000 in
set_option maxHeartbeats 4000000 in
theorem readPacked_any (A : Option Addr) (c : Nat) (b : List UInt8) (p n m : Nat) (w : World) (hb : IsBytes w (.slice A b.length c) b) (hlc : b.length ≤ c) (hl : b.length ≤ 1000000000) (hp1 : 1 ≤ p) (hp : p ≤ b.length) (hn : n ≤ 65536) (hm : m ≤ 64) :
    Calls Try.prog 66 #[.slice A b.length c, .int .i64 (p : Int), .int .i64 (n : Int), .int .i64 (m : Int)] w (RcR (rdP b p n m) w) := by
  have HV := hidden hb
  have HS := hidden (size_any (n : Int) (m : Int) w)
  rw [sizeI_nat (by omega) hm] at HS
  have hsz := szB_le (n := n) (w := m) (by omega) hm
  obtain ⟨bb, ff, rfl⟩ := some_of_bytes hb (by omega)
  obtain ⟨s, hs⟩ : ∃ s, s = szB n m := ⟨_, rfl⟩
  rw [← hs] at HS hsz
  obtain ⟨r, hr⟩ : ∃ r : Nat, r = b.length - p := ⟨_, rfl⟩
  have hr1 : (b.length : Int) - (p : Int) = (r : Int) := by omega
  by_cases h1 : b.length < p + s
  · have HE := hidden (show rdP b p n m = ([], 0, 2) by unfold rdP; rw [if_pos (by rw [← hs]; exact h1)])
    have hd : decide (r < s) = true := by simp; omega
    clear hb hs hr h1
    go_enter Try.func66, Try.ntmps66
    go_wp2_with fail
    refine HS.out.mono ?_
    rintro e w2 ⟨rfl, rfl⟩
    go_wp2_with fail
    go_ret3
    exact RcR.err HE.out (Below.refl _ _)
  · obtain ⟨E, hE⟩ : ∃ E, E = p + s := ⟨_, rfl⟩
    have hPE : (p : Int) + (s : Int) = (E : Int) := by omega
    have hPL : p ≤ E := by omega
    have hEl : E ≤ b.length := by omega
    have HEN := hidden (show (b.drop p).take (E - p) = cutB b p s by rw [hE, Nat.add_sub_cancel_left]; rfl)
    have hd : decide (r < s) = false := by simp; omega
    have hcl : (cutB b p s).length ≤ 1000000000 := by rw [cutB_length (by omega)]; omega
    have HUN := hidden (fun (A9 : Option Addr) (c9 : Nat) (h9 : IsBytes w (.slice A9 (cutB b p s).length c9) (cutB b p s)) => unpack_any A9 c9 (cutB b p s) (n : Int) (m : Int) w h9 (by omega))
    by_cases h2 : unE (cutB b p s) n m = 0
    · have HE := hidden (show rdP b p n m = (unpI (cutB b p s) n m, ((E : Nat) : Int), 0) by
        unfold rdP
        rw [if_neg (by rw [← hs]; exact h1), ← hs, if_neg (by rw [h2]; simp), hE])
      rw [h2] at HUN
      generalize cutB b p s = cb at *
      generalize unpI cb (n : Int) (m : Int) = U at *
      clear hb hs hr h1 hE h2 hcl
      go_enter Try.func66, Try.ntmps66
      go_wp2_with fail
      refine HS.out.mono ?_
      rintro e w2 ⟨rfl, rfl⟩
      go_wp2_with (refine wpList_slice_bytes rfl _ _ _ 40 5 rfl Try.underlying40 (by kernel_rfl) (by kernel_rfl) bb ff b c rfl HV.out p E rfl rfl hPL hEl hlc ?_; rw [HEN.out]; intro v9 hv9; obtain ⟨A9, c9, rfl, _⟩ := id hv9; have HU9 := hidden (HUN.out A9 c9 hv9); clear hv9)
      refine HU9.out.mono ?_
      rintro e w3 ⟨u3, rfl, g3, hi3⟩
      have HI3 := hidden hi3
      have HG3 := hidden g3
      clear g3 hi3
      go_wp2_with fail
      go_ret3
      exact ⟨_, by rw [HE.out]; rfl, HG3.out, by rw [HE.out]; exact HI3.out⟩
    · have HE := hidden (show rdP b p n m = ([], 0, unE (cutB b p s) n m) by
        unfold rdP
        rw [if_neg (by rw [← hs]; exact h1), ← hs, if_pos h2])
      have hne : (unE (cutB b p s) n m != 0) = true := by simpa using h2
      generalize cutB b p s = cb at *
      generalize unpI cb (n : Int) (m : Int) = U at *
      generalize unE cb (n : Int) (m : Int) = x at *
      clear hb hs hr h1 hE h2 hcl
      go_enter Try.func66, Try.ntmps66
      go_wp2_with fail
      refine HS.out.mono ?_
      rintro e w2 ⟨rfl, rfl⟩
      go_wp2_with (refine wpList_slice_bytes rfl _ _ _ 40 5 rfl Try.underlying40 (by kernel_rfl) (by kernel_rfl) bb ff b c rfl HV.out p E rfl rfl hPL hEl hlc ?_; rw [HEN.out]; intro v9 hv9; obtain ⟨A9, c9, rfl, _⟩ := id hv9; have HU9 := hidden (HUN.out A9 c9 hv9); clear hv9)
      refine HU9.out.mono ?_
      rintro e w3 ⟨u3, rfl, g3, hi3⟩
      have HG3 := hidden g3
      clear g3 hi3
      go_wp2_with fail
      go_ret3
      exact RcR.err HE.out HG3.out
def RRRel (w : World) (us : List Nat) (g : Nat) (i : Value) (wr : World) : Prop :=
  ∃ k : Nat, k ≤ us.length ∧ i = .int .i64 (k : Int) ∧ Row wr g 60 (wcells (cutN us k us.length)) ∧ Grows w wr
theorem u64I_wrap (x : Int) : IntKind.u64.wrap x = (u64I x : Int) := by rw [IntKind.wrap_u64]; unfold u64I; omega
theorem wcells_setE (l : List Nat) (j c : Nat) : (wcells l).set j (.int .u64 (c : Int)) = wcells (l.set j c) := by simp [wcells, List.map_set]
set_option maxRecDepth 8000 in
set_option maxHeartbeats 8000000 in
theorem readRuns_any (A : Option Addr) (c : Nat) (b : List UInt8) (p n : Nat) (w : World) (hb : IsBytes w (.slice A b.length c) b) (hl : b.length ≤ 1000000000) (hp : p ≤ b.length) (hn : n ≤ 65536) :
    Calls Try.prog 67 #[.slice A b.length c, .int .i64 (p : Int), .int .i64 (n : Int)] w (RcR (rdR b p n) w) := by
  have HDC := hidden (ldecode_any (.slice A b.length c) b p w hb (by omega) (by omega) (by omega))
  by_cases h1 : (dcR b p).2.2 = 0
  · obtain ⟨o, k, ho, hk, hkl, hv, _, _⟩ := dcR_acc h1
    have hvl := valid_length hv
    obtain ⟨l, q, x, hd⟩ : ∃ l q x, dcR b p = (l, q, x) := ⟨_, _, _, rfl⟩
    rw [hd] at h1 hv hvl hk
    simp only [] at h1 hv hvl hk
    subst h1
    have HEX := hidden (fun u W (hu : ReadsR W u l) => lexpand_any u l W hu (by omega))
    have hxe : expE l = 0 := by unfold expE; rw [if_pos hv]
    have hxl : (expI l).length ≤ 65536 := by unfold expI; rw [if_pos hv]; exact valid_expR hv
    rw [hxe] at HEX
    rw [hd] at HDC
    by_cases h2 : (expI l).length = n
    · have HE := hidden (show rdR b p n = ((expI l).map u64I, q, 0) by unfold rdR; rw [hd, if_neg (by simp), if_neg (by simpa using h2)])
      have hml : ((expI l).map u64I).length = n := by rw [List.length_map]; exact h2
      have HMK := hidden (fun W => run_make_rep (P := Try.prog) 63 60 (.int .u64 0) 8 Try.underlying63 (by kernel_rfl) rfl n (by omega) (by omega) W)
      generalize expI l = xs at *
      have hd2 : ((xs.length : Int) != (n : Int)) = false := by simp; omega
      obtain ⟨us, hus⟩ : ∃ us, us = xs.map u64I := ⟨_, rfl⟩
      have HUS := hidden hus
      rw [← hus] at HE hml
      have HML := hidden hml
      clear hb hd hv hxe ho hk hkl hus hml
      go_enter Try.func67, Try.ntmps67
      go_wp2_with fail
      refine HDC.out.mono ?_
      rintro e w2 ⟨u2, rfl, g2, hr2⟩
      have HG2 := hidden g2
      have HEX2 := hidden (HEX.out u2 w2 hr2)
      clear g2 hr2
      go_wp2_with fail
      refine HEX2.out.mono ?_
      rintro e w3 ⟨u3, rfl, g3, hi3⟩
      obtain ⟨A3, c3, rfl⟩ := hi3.slice_
      have HG3 := hidden (HG2.out.of_below g3)
      have HI3 := hidden hi3
      have h2' := h2
      have hmk := HMK.out
      clear g3 hi3
      go_wp2_with fail
      have HH := hidden h2'
      clear h2 h2' hmk
      go_loopw [40] (fun i wr => RRRel w3 us w3.heap.size i wr) (fun i _ => xs.length - (intOf i).toNat)
      case atStart =>
        refine ⟨0, by omega, rfl, ?_, growA _⟩
        rw [cutN_zero, HML.out]
        exact Row.at_ _ _ _ _ (by simp [wcells]) _ rfl
      case round =>
        obtain ⟨j, hj, rfl, hrow, hb⟩ := hrel
        have HB := hidden hb
        have HR := hidden hrow
        rw [HML.out] at hj
        by_cases hlt : j < xs.length
        · have hju : j < us.length := by rw [HML.out, ← HH.out]; exact hlt
          have hjn : j < n := by rw [← HH.out]; exact hlt
          obtain ⟨b3, f3, rfl, hck⟩ := (HI3.out.grow hb).at_ hlt
          have HSET := hidden (cutN_set hju rfl)
          have HUJ := hidden (show us[j] = u64I xs[j] by have := HUS.out; subst this; simp)
          have hlen : j < (cutN us j us.length).length := by rw [cutN_length (by omega) rfl]; exact hju
          have c1 := hrow.cell j
          rw [wcells_get hlen] at c1
          have f1 := hrow.frozen j
          have hwx := u64I_wrap xs[j]
          have HS1 := hidden (hrow.set_ j (.int .u64 (us[j] : Int)))
          rw [wcells_setE, HSET.out, HUJ.out] at HS1
          have HB3 := hidden (Below.setCell hb (p := ⟨w3.heap.size, j, none⟩) (Nat.le_refl _) (.int .u64 (u64I xs[j] : Int)))
          generalize (cutN us j us.length)[j] = old at *
          generalize xs[j] = x at *
          generalize u64I x = ux at *
          clear hrow hb hlen HUJ HSET
          go_wp2_with fail
          go_roundw
          case rel => exact ⟨j + 1, by rw [HML.out]; omega, by go_num, HS1.out, HB3.out⟩
          case measure => simp [intOf]; omega
        · have hje : j = us.length := by rw [HML.out, ← HH.out]; have := HH.out; omega
          have HR2 := hidden (show Row wr w3.heap.size 60 (wcells us) by rw [hje, cutN_all] at hrow; exact hrow)
          have hnj : n ≤ j := by have := HH.out; omega
          clear hrow hb hje hlt
          go_wp2_with fail
          go_ret3
          refine ⟨_, by rw [HE.out]; rfl, HG3.out.of_below HB.out, ?_⟩
          rw [HE.out]
          exact Reads.of_row HR2.out _ _ (by rw [wcells_length, HML.out]) (Nat.le_refl _)
    · have HE := hidden (show rdR b p n = ([], 0, 18) by unfold rdR; rw [hd, if_neg (by simp), if_pos (by simpa using h2)])
      generalize expI l = xs at *
      have hd2 : ((xs.length : Int) != (n : Int)) = true := by simp; omega
      clear hb hd hv hxe ho hk hkl h2
      go_enter Try.func67, Try.ntmps67
      go_wp2_with fail
      refine HDC.out.mono ?_
      rintro e w2 ⟨u2, rfl, g2, hr2⟩
      have HG2 := hidden g2
      have HEX2 := hidden (HEX.out u2 w2 hr2)
      clear g2 hr2
      go_wp2_with fail
      refine HEX2.out.mono ?_
      rintro e w3 ⟨u3, rfl, g3, hi3⟩
      obtain ⟨A3, c3, rfl⟩ := hi3.slice_
      have HG3 := hidden (HG2.out.of_below g3)
      clear g3 hi3
      go_wp2_with fail
      go_ret3
      exact RcR.err HE.out HG3.out
  · have HE := hidden (show rdR b p n = ([], 0, (dcR b p).2.2) by unfold rdR; rw [if_pos h1])
    have hne : ((dcR b p).2.2 != 0) = true := by simpa using h1
    generalize dcR b p = r at *
    obtain ⟨r1, r2, r3⟩ := r
    simp only [] at hne HDC HE
    clear hb h1
    go_enter Try.func67, Try.ntmps67
    go_wp2_with fail
    refine HDC.out.mono ?_
    rintro e w2 ⟨u2, rfl, g2, hr2⟩
    have HG2 := hidden g2
    clear g2 hr2
    go_wp2_with fail
    go_ret3
    exact RcR.err HE.out HG2.out
set_option maxRecDepth 8000 in
set_option maxHeartbeats 4000000 in
theorem readCodes_any (A : Option Addr) (c : Nat) (b : List UInt8) (p n k : Nat) (w : World) (hb : IsBytes w (.slice A b.length c) b) (hlc : b.length ≤ c) (hl : b.length ≤ 1000000000) (hp : p ≤ b.length) (hn : n ≤ 65536) (hk : k ≤ 65536) :
    Calls Try.prog 45 #[.slice A b.length c, .int .i64 (p : Int), .int .i64 (n : Int), .int .i64 (widW k : Int)] w (RcR (rdC b p n k) w) := by
  have hm := widW_le (k := k) (by omega)
  by_cases h1 : p = b.length
  · have HE := hidden (rdC_end (n := n) (k := k) (b := b) (p := p) (by omega))
    have hd : ((p : Int) == (b.length : Int)) = true := by simp; omega
    generalize widW k = m at *
    clear hb h1
    go_enter Try.func45, Try.ntmps45
    go_wp2_with fail
    go_ret3
    exact RcR.err HE.out (Below.refl _ _)
  · have hlt : p < b.length := by omega
    have hd : ((p : Int) == (b.length : Int)) = false := by simp; omega
    obtain ⟨P, hP⟩ : ∃ P, P = p + 1 := ⟨_, rfl⟩
    have hP1 : (p : Int) + 1 = (P : Int) := by omega
    have HPK := hidden (readPacked_any A c b P n (widW k) w hb hlc hl (by omega) (by omega) hn hm)
    have HPR := hidden (readRuns_any A c b P n w hb hl (by omega) hn)
    have hby := hb
    obtain ⟨A', c', he, hc⟩ := hby
    injection he with e1 e2 e3
    subst e1
    obtain ⟨bb, ff, rfl, hcell⟩ := hc (by omega)
    have hck := hcell p hlt
    have hbp : b[p]? = some b[p] := List.getElem?_eq_getElem hlt
    generalize b[p] = x at *
    by_cases h0 : x = 0
    · subst h0
      have HE := hidden (rdC_0 (n := n) (k := k) hbp)
      rw [← hP] at HE
      rw [← HE.out] at HPK
      simp only [show ((0 : UInt8).toNat : Int) = 0 from rfl] at hck
      generalize widW k = m at *
      clear hb h1 hP hcell hc hbp e3 e2
      go_enter Try.func45, Try.ntmps45
      go_wp2_with fail
      refine HPK.out.mono ?_
      rintro e w2 ⟨u2, rfl, g2, hi2⟩
      have HG2 := hidden g2
      have HI2 := hidden hi2
      clear g2 hi2
      go_wp2_with fail
      go_ret3
      exact ⟨_, rfl, HG2.out, HI2.out⟩
    · by_cases h01 : x = 1
      · subst h01
        have HE := hidden (rdC_1 (n := n) (k := k) hbp)
        rw [← hP] at HE
        rw [← HE.out] at HPR
        simp only [show ((1 : UInt8).toNat : Int) = 1 from rfl] at hck
        generalize widW k = m at *
        clear hb h1 hP hcell hc hbp e3 e2 h0
        go_enter Try.func45, Try.ntmps45
        go_wp2_with fail
        refine HPR.out.mono ?_
        rintro e w2 ⟨u2, rfl, g2, hi2⟩
        have HG2 := hidden g2
        have HI2 := hidden hi2
        clear g2 hi2
        go_wp2_with fail
        go_ret3
        exact ⟨_, rfl, HG2.out, HI2.out⟩
      · have HE := hidden (rdC_x (n := n) (k := k) hbp h0 h01)
        have hx0 : ((x.toNat : Int) == 0) = false := by
          simp only [beq_eq_false_iff_ne]
          intro h
          exact h0 (UInt8.toNat_inj.1 (by simpa using h))
        have hx1 : ((x.toNat : Int) == 1) = false := by
          simp only [beq_eq_false_iff_ne]
          intro h
          exact h01 (UInt8.toNat_inj.1 (by have : x.toNat = 1 := by omega
                                           simpa using this))
        generalize (x.toNat : Int) = xi at *
        generalize widW k = m at *
        clear hb h1 hP hcell hc hbp e3 e2 h0 h01
        go_enter Try.func45, Try.ntmps45
        go_wp2_with fail
        go_ret3
        exact RcR.err HE.out (Below.refl _ _)
end Go.Proofs.Ytgmjoghgmcjebaa
/-
  Encode and Size of package dictionary. Nothing that was there is changed.
-/
namespace Go.Proofs.Ytgmjoghgmcjebaa
open Go.RowKit
set_option linter.unusedVariables false
set_option linter.unusedSimpArgs false

set_option maxRecDepth 8000 in
set_option maxHeartbeats 4000000 in
theorem encode10_any (v : Value) (vs : List Str) (w : World) (hv : IsS w v vs) (hl : vs.length ≤ 1000000) (hs : ∀ s ∈ vs, s.length ≤ 1000000) :
    Calls Try.prog 22 #[v] w (Made (encT vs) w) := by
  have HBU := hidden (build10_any v vs w hv hl (fun s h => by have := hs s h; unfold maxLen; omega))
  obtain ⟨A, c, rfl⟩ := hv.slice_
  have hwl := wordsOf_length vs
  have HWS := hidden (fun s (h : s ∈ wordsOf vs) => hs s (mem_wordsOf.1 h))
  have HCB := hidden (show ∀ x ∈ codesW (wordsOf vs) vs, x ≤ 4611686018427387903 from fun x hx => by
    obtain ⟨s, hs1, rfl⟩ := List.mem_map.1 hx
    have := codeW_lt (mem_wordsOf.2 hs1)
    omega)
  have HCL := hidden (show (codesW (wordsOf vs) vs).length ≤ 1000000 by simp [codesW]; exact hl)
  have HET := hidden (show [bytesW (wordsOf vs), codesB (wordsOf vs).length (codesW (wordsOf vs) vs)].flatten = encT vs by simp [encT])
  have HEL := hidden (encT_len hl hs)
  generalize encT vs = E at *
  generalize hcs : codesW (wordsOf vs) vs = cs at *
  generalize hws : wordsOf vs = ws at *
  have HCS := hidden hcs
  have HWW := hidden hws
  clear hv hs hcs hws
  go_enter Try.func22, Try.ntmps22
  go_wp2_with fail
  refine HBU.out.mono ?_
  rintro e w1 ⟨v1, c1, rfl, g1, hS, hN⟩
  rw [HWW.out] at hS hN
  rw [HCS.out] at hN
  have HG1 := hidden g1
  have HN := hidden hN
  have HEW := hidden (encodeWords_any v1 ws w1 hS (by omega) HWS.out)
  obtain ⟨A1, d1, rfl⟩ := hS.slice_
  clear hS hN g1
  go_wp2_with fail
  refine HEW.out.mono ?_
  rintro e w2 ⟨v2, rfl, hown2, g2⟩
  have HG2 := hidden (HG1.out.of_below (show Grows w1 w2 from g2))
  have HB2 := hidden (IsBytes.of_own hown2)
  have HN2 := hidden (HN.out.grow (show Grows w1 w2 from g2))
  have HCW := hidden (codeWidth_any ws.length w2 (by omega))
  obtain ⟨A2, d2, rfl⟩ := own_sliceB hown2
  clear hown2 g2
  go_wp2_with fail
  refine HCW.out.mono ?_
  rintro e w3 ⟨rfl, rfl⟩
  have HEC := hidden (encodeCodes_any c1 cs ws.length w2 HN2.out HCL.out (by omega) HCB.out)
  go_wp2_with fail
  refine HEC.out.mono ?_
  rintro e w4 ⟨v4, rfl, hown4, g4⟩
  have HG4 := hidden (HG2.out.of_below (show Grows w2 w4 from g4))
  have HB4 := hidden (HB2.out.grow (show Grows w2 w4 from g4))
  have HC4 := hidden (IsBytes.of_own hown4)
  obtain ⟨A4, d4, rfl⟩ := own_sliceB hown4
  clear hown4 g4
  generalize bytesW ws = bw at *
  generalize codesB ws.length cs = cb at *
  have HCC := hidden (concat_any _ [bw, cb] _ (IsParts.new2 HB4.out HC4.out 40) (by simp [maxLen]) (by unfold total; rw [HET.out]; have := HEL.out; omega))
  go_wp2_with fail
  refine HCC.out.mono ?_
  rintro e w5 ⟨v5, rfl, hown5, g5⟩
  have HO5 := hidden hown5
  have HG5 := hidden (Grows.of_below (HG4.out.of_below (growA _)) (show Grows _ w5 from g5))
  have HSZ := hidden (show w.heap.size ≤ (w4.alloc (.cells #[.slice A2 bw.length d2, .slice A4 cb.length d4] 40)).heap.size by have := HG4.out.size; simp; omega)
  clear hown5 g5
  go_wp2_with fail
  go_ret
  have h := HO5.out
  rw [HET.out] at h
  exact ⟨_, rfl, ownsRow_base h HSZ.out, HG5.out⟩
set_option maxHeartbeats 1000000 in
theorem size10_any (v : Value) (vs : List Str) (w : World) (hv : IsS w v vs) (hl : vs.length ≤ 1000000) (hs : ∀ s ∈ vs, s.length ≤ 1000000) :
    Calls Try.prog 23 #[v] w fun e w' => e = .returned (.int .i64 ((encT vs).length : Int)) ∧ Grows w w' := by
  have HE := hidden (encode10_any v vs w hv hl hs)
  generalize encT vs = E at *
  clear hv hs
  go_enter Try.func23, Try.ntmps23
  go_wp2_with fail
  refine HE.out.mono ?_
  rintro e w2 ⟨v2, rfl, hown2, g2⟩
  have HG2 := hidden (show Grows w w2 from g2)
  obtain ⟨A2, d2, rfl⟩ := own_sliceB hown2
  clear hown2 g2
  go_wp2_with fail
  go_ret
  exact ⟨rfl, HG2.out⟩
end Go.Proofs.Ytgmjoghgmcjebaa
/-
  Decode of package dictionary. Nothing that was there is changed.
-/
namespace Go.Proofs.Ytgmjoghgmcjebaa
open Go.RowKit
set_option linter.unusedVariables false
set_option linter.unusedSimpArgs false

/-- bytes.Equal -/
theorem bytesEqual_any (va vb : Value) (la lb : List UInt8) (w : World) (ha : IsBytes w va la) (hb : IsBytes w vb lb) :
    Calls Try.prog 46 #[va, vb] w fun e w' => e = .returned (.bool (decide (la = lb))) ∧ w = w' := by
  have hr1 := run_string_bytes (P := Try.prog) ha 40 5 Try.underlying40 Try.underlying5 9 Try.underlying9
  have hr2 := run_string_bytes (P := Try.prog) hb 40 5 Try.underlying40 Try.underlying5 9 Try.underlying9
  have HE := hidden (eqS la lb)
  go_enter Try.func46, Try.ntmps46
  go_wp2_with fail
  go_ret
  exact ⟨retB (by rw [← HE.out]), rfl⟩
/-- b[o:p] in every world -/
theorem cut_run (A : Option Addr) (c : Nat) (b : List UInt8) {O Q : Nat} (hOQ : O ≤ Q) (hQb : Q ≤ b.length) (hlc : b.length ≤ c) (hl : b.length ≤ 1000000000) :
    ∃ AO, (∀ w', IsBytes w' (.slice A b.length c) b → IsBytes w' (.slice AO (Q - O) (c - O)) (cutB b O (Q - O))) ∧
      ∀ w', (Instr.sliceAt 40 (.slice A b.length c) (some (.int .i64 (O : Int))) (some (.int .i64 (Q : Int))) none).run Try.prog w' = .ok (.slice AO (Q - O) (c - O)) w' := by
  refine ⟨if c = O then A else Option.map (fun x => x.add O) A, fun w' hv => slice_reads2 hv (o := O) (p := Q) hOQ hQb hlc, fun w' => ?_⟩
  have ht : Try.prog.underlying 40 = some (.slice (Try.prog.elem 40)) := by kernel_rfl
  have hs1 : (sizeOf (Try.prog.elem 40)).run Try.prog w' = .ok 1 w' := by
    have hi : (Try.prog.info? (Try.prog.elem 40)).map (·.size) = some 1 := by kernel_rfl
    cases h : Try.prog.info? (Try.prog.elem 40) with
    | none => rw [h] at hi; cases hi
    | some y =>
      rw [h] at hi
      have h1 : y.size = 1 := by simpa using hi
      simp [sizeOf, typeInfo, h, h1]
  rw [run_sliceAt_slice (P := Try.prog) (w := w') 40 (.slice A b.length c) (some (.int .i64 (O : Int))) (some (.int .i64 (Q : Int))) none ht]
  have h := run_slice_lh (P := Try.prog) (w := w') 40 A b.length c ht .i64 .i64 (O : Int) (Q : Int) (by omega) (by omega) (by omega)
  rw [h, hs1]
  simp only [Result.andThen_ok, sliced, Int.toNat_natCast, Nat.mul_one]
def cutS (l : List Str) (k n : Nat) : List Str := l.take k ++ List.replicate (n - k) []
theorem cutS_zero (l : List Str) (n : Nat) : cutS l 0 n = List.replicate n [] := by simp [cutS]
theorem cutS_all (l : List Str) : cutS l l.length l.length = l := by simp [cutS]
theorem cutS_length {l : List Str} {k n : Nat} (h : k ≤ l.length) (hn : n = l.length) : (cutS l k n).length = n := by simp [cutS]; omega
theorem cutS_set {l : List Str} {k n : Nat} (h : k < l.length) (hn : n = l.length) : (cutS l k n).set k l[k] = cutS l (k + 1) n := by
  subst hn
  unfold cutS
  have e : List.replicate (l.length - k) ([] : Str) = [] :: List.replicate (l.length - (k + 1)) [] := by
    rw [show l.length - k = (l.length - (k + 1)) + 1 by omega, List.replicate_succ]
  rw [e, List.take_succ_eq_append_getElem h, List.append_assoc]
  have hl : (l.take k).length = k := by rw [List.length_take]; omega
  rw [List.set_append_right _ _ (by omega), hl, Nat.sub_self]
  rfl
def DTRel (w : World) (cs : List Nat) (vs : List Str) (k0 g : Nat) (i : Value) (wr : World) : Prop :=
  ∃ k : Nat, k ≤ cs.length ∧ i = .int .i64 (k : Int) ∧ (∀ j, (h : j < cs.length) → j < k → cs[j] < k0) ∧ Row wr g 9 (scells (cutS vs k vs.length)) ∧ Grows w wr
theorem over_true {cs : List Nat} {k j : Nat} (h : j < cs.length) (h2 : k ≤ cs[j]) : overC cs k = true := by
  unfold overC
  rw [List.any_eq_true]
  exact ⟨cs[j], List.getElem_mem h, by simpa using h2⟩
theorem over_false {cs : List Nat} {k : Nat} (h : ∀ j, (hj : j < cs.length) → cs[j] < k) : overC cs k = false := by
  unfold overC
  rw [List.any_eq_false]
  intro x hx
  obtain ⟨j, hj, rfl⟩ := List.getElem_of_mem hx
  have := h j hj
  simp; omega
theorem pick_len {ws : List Str} {cs : List Nat} (h : ∀ s ∈ ws, s.length ≤ 4096) : ∀ s ∈ pickS ws cs, s.length ≤ 4096 := by
  intro s hs
  obtain ⟨c, _, rfl⟩ := List.mem_map.1 hs
  rcases Nat.lt_or_ge c ws.length with hc | hc
  · rw [List.getD_eq_getElem?_getD, List.getElem?_eq_getElem hc]; exact h _ (List.getElem_mem hc)
  · rw [List.getD_eq_getElem?_getD, List.getElem?_eq_none hc]; simp
set_option maxRecDepth 20000 in
set_option maxHeartbeats 16000000 in
theorem dec10_any (A : Option Addr) (c : Nat) (b : List UInt8) (off n : Int) (w : World) (hb : IsBytes w (.slice A b.length c) b) (hlc : b.length ≤ c) (hl : b.length ≤ 1000000000) (h63 : -9223372036854775808 ≤ off) (h64 : off ≤ 9223372036854775807) :
    Calls Try.prog 24 #[.slice A b.length c, .int .i64 off, .int .i64 n] w (RsR (decT b off n) w) := by
  have HV := hidden hb
  by_cases hn0 : n < 0
  · have HE := hidden (decT_a (b := b) (off := off) (n := n) (.inl hn0))
    have hd : decide (n < 0) = true := by simpa using hn0
    clear hb hn0
    go_enter Try.func24, Try.ntmps24
    go_wp2_with fail
    go_ret3
    exact RsR.err HE.out (Below.refl _ _)
  obtain ⟨N, rfl⟩ := Int.eq_ofNat_of_zero_le (show 0 ≤ n by omega)
  clear hn0
  by_cases hn1 : 65536 < N
  · have HE := hidden (decT_a (b := b) (off := off) (n := (N : Int)) (.inr (.inl (by omega))))
    have hd : decide ((65536 : Int) < (N : Int)) = true := by simp; omega
    clear hb
    go_enter Try.func24, Try.ntmps24
    go_wp2_with fail
    go_ret3
    exact RsR.err HE.out (Below.refl _ _)
  have hN : N ≤ 65536 := by omega
  have hd0 : decide ((65536 : Int) < (N : Int)) = false := by simp; omega
  have HRW := hidden (readWords_any A c b off N w hb hlc hl h63 h64 hN)
  clear hn1
  by_cases h1 : (rdD b off N).2.2 = 0
  · obtain ⟨o, rfl⟩ : ∃ o : Nat, off = (o : Int) := by
      rcases Int.lt_or_le off 0 with h | h
      · rw [rdD_e (by rw [dcd_bad (.inl h)]; decide), dcd_bad (.inl h)] at h1; cases h1
      · exact Int.eq_ofNat_of_zero_le h
    have ho : o ≤ b.length := by
      rcases Nat.lt_or_ge b.length o with h | h
      · have h' : (o : Int) < 0 ∨ (b.length : Int) < (o : Int) := .inr (by omega)
        rw [rdD_e (by rw [dcd_bad h']; decide), dcd_bad h'] at h1; cases h1
      · exact h
    obtain ⟨q, hq, hoq, hqb, hwn, hwl⟩ := rdD_acc ho h1
    obtain ⟨ws, q', x, hd⟩ : ∃ ws q' x, rdD b o N = (ws, q', x) := ⟨_, _, _, rfl⟩
    rw [hd] at HRW h1 hq hwn hwl
    simp only [] at h1 hq hwn hwl
    subst h1 hq
    have HRC := hidden (fun (W : World) (hW : Grows w W) => readCodes_any A c b q N ws.length W (hb.grow hW) hlc hl hqb hN (by omega))
    have HCW := hidden (fun W => codeWidth_any ws.length W (by omega))
    generalize widW ws.length = m at *
    by_cases h2 : (rdC b q N ws.length).2.2 = 0
    · obtain ⟨r, hr, hqr, hrb, hcl, hcs⟩ := rdC_acc (by omega) (by omega) h2
      obtain ⟨cs, r', x, hd2⟩ : ∃ cs r' x, rdC b q N ws.length = (cs, r', x) := ⟨_, _, _, rfl⟩
      rw [hd2] at HRC h2 hr hcl hcs
      simp only [] at h2 hr hcl hcs
      subst h2 hr
      have HDT := hidden (decT_n ho hN hd hd2)
      have HWL := hidden hwl
      have HCS := hidden hcs
      have HCL := hidden hcl
      obtain ⟨vs, hvs⟩ : ∃ vs, vs = pickS ws cs := ⟨_, rfl⟩
      have HVS := hidden hvs
      have HVL := hidden (show vs.length = N by rw [hvs]; unfold pickS; rw [List.length_map]; exact hcl)
      have HVX := hidden (show ∀ s ∈ vs, s.length ≤ 4096 from hvs ▸ pick_len hwl)
      have HMK := hidden (fun W => run_make_rep (P := Try.prog) 22 9 (.string ⟨#[]⟩) 16 Try.underlying22 info_strD rfl N (by omega) (by omega) W)
      have hor : o ≤ r := by omega
      clear hb hd hd2 hcs hwl hvs
      go_enter Try.func24, Try.ntmps24
      go_wp2_with fail
      refine HRW.out.mono ?_
      rintro e w1 ⟨v1, rfl, g1, hS1⟩
      have HG1 := hidden g1
      have HS1 := hidden (show IsS w1 v1 ws from hS1)
      have HRC1 := hidden (HRC.out w1 g1)
      obtain ⟨A1, c1, rfl⟩ := HS1.out.slice_
      clear g1 hS1
      go_wp2_with fail
      refine (HCW.out _).mono ?_
      rintro e w2 ⟨rfl, rfl⟩
      go_wp2_with fail
      refine HRC1.out.mono ?_
      rintro e w3 ⟨v3, rfl, g3, hI3⟩
      have HG3 := hidden (HG1.out.of_below g3)
      have HI3 := hidden (show IsW w3 v3 cs from hI3)
      have HS3 := hidden (HS1.out.grow g3)
      obtain ⟨A3, c3, rfl⟩ := HI3.out.slice_
      clear g3 hI3
      have hmk := HMK.out
      have hcl2 := HCL.out
      clear hcl
      generalize hK : cs.length = K at *
      have HK := hidden hK
      clear hK
      have HKN := hidden hcl2
      clear hcl2
      go_wp2_with fail
      clear hmk
      obtain ⟨g, hg⟩ : ∃ g, g = w3.heap.size := ⟨_, rfl⟩
      have HGG := hidden hg
      go_loopw [51] (fun i wr => DTRel w3 cs vs ws.length w3.heap.size i wr) (fun i _ => K - (intOf i).toNat)
      case atStart =>
        refine ⟨0, by omega, rfl, fun j _ h => by omega, ?_, growA _⟩
        rw [cutS_zero, HVL.out]
        exact Row.at_ _ _ _ _ (by simp [scells, strOf]) _ rfl
      case round =>
        obtain ⟨j, hj, rfl, hno, hrow, hbw⟩ := hrel
        have HB := hidden hbw
        have HR := hidden hrow
        have HNO := hidden hno
        rw [HK.out] at hj
        clear hg hno
        by_cases hlt : j < K
        · have hjc : j < cs.length := by rw [HK.out]; exact hlt
          have hjn : j < N := by rw [← HKN.out]; exact hlt
          have hjv : j < vs.length := by rw [HVL.out]; exact hjn
          obtain ⟨b3, f3, rfl, hck⟩ := (HI3.out.grow hbw).at_ hjc
          have hxc := HCS.out _ (List.getElem_mem hjc)
          have HVJ := hidden (show vs[j] = ws.getD cs[j] [] by have := HVS.out; subst this; simp [pickS])
          have HOV := hidden (fun h => over_true (k := ws.length) hjc h)
          obtain ⟨x, hx⟩ : ∃ x, x = cs[j] := ⟨_, rfl⟩
          have HX := hidden hx
          rw [← hx] at hck hxc HVJ HOV
          clear hx
          by_cases hov : x < ws.length
          · obtain ⟨b1, f1, rfl, hwx⟩ := (HS3.out.grow hbw).at_ hov
            have HSET := hidden (cutS_set hjv rfl)
            have hlen : j < (cutS vs j vs.length).length := by rw [cutS_length (by omega) rfl]; exact hjv
            have k1 := hrow.cell j
            rw [scells_get hlen] at k1
            have k2 := hrow.frozen j
            have HVW := hidden (show vs[j] = ws[x] by rw [HVJ.out, List.getD_eq_getElem?_getD, List.getElem?_eq_getElem hov]; rfl)
            have HS9 := hidden (hrow.set_ j (.string (strOf vs[j])))
            rw [scells_set, HSET.out, HVW.out] at HS9
            have HB9 := hidden (Below.setCell hbw (p := ⟨w3.heap.size, j, none⟩) (Nat.le_refl _) (.string (strOf ws[x])))
            have hd5 : decide (ws.length ≤ x) = false := by simp; omega
            generalize (cutS vs j vs.length)[j] = old at *
            have HOVX := hidden hov
            generalize ws[x] = t at *
            clear hrow hbw hlen HSET HVW HVJ
            go_wp2_with fail
            go_roundw
            case rel =>
              refine ⟨j + 1, by rw [HK.out]; omega, by go_num, fun i hi hij => ?_, HS9.out, HB9.out⟩
              rcases Nat.lt_or_ge i j with h | h
              · exact HNO.out i hi h
              · have e1 : i = j := by omega
                subst e1
                rw [← HX.out]; exact HOVX.out
            case measure => simp [intOf]; omega
          · have HEE := hidden (show decT b o N = ([], 0, 6) by rw [HDT.out]; unfold endT; rw [if_pos (HOV.out (by omega))])
            have hd5 : decide (ws.length ≤ x) = true := by simp; omega
            clear hrow hbw
            go_wp2_with fail
            go_ret3
            exact RsR.err HEE.out (HG3.out.of_below HB.out)
        · have hje : j = K := by omega
          have hnk : K ≤ j := by omega
          have HR2 := hidden (show Row wr w3.heap.size 9 (scells vs) by
            have h := hrow
            rw [hje, HKN.out, ← HVL.out, cutS_all] at h
            exact h)
          have HOF := hidden (over_false (k := ws.length) fun i hi => HNO.out i hi (by have := HK.out; omega))
          have HIV := hidden (show IsS wr (.slice (some ⟨w3.heap.size, 0, none⟩) N N) vs from Reads.of_row HR2.out N N (by rw [scells_length, HVL.out]) (Nat.le_refl _))
          have HEN := hidden (fun w' (h : Grows wr w') => encode10_any (.slice (some ⟨w3.heap.size, 0, none⟩) N N) vs w' (HIV.out.grow h) (by rw [HVL.out]; omega) (fun s hs => by have := HVX.out s hs; omega))
          have HGW := hidden (HG3.out.of_below HB.out)
          obtain ⟨AO, hAO, hsa⟩ := cut_run A c b (O := o) (Q := r) hor hrb hlc hl
          obtain ⟨wt, hwt⟩ : ∃ wt, wt = encT vs := ⟨_, rfl⟩
          obtain ⟨gt, hgt⟩ : ∃ gt, gt = cutB b o (r - o) := ⟨_, rfl⟩
          rw [← hwt] at HEN
          rw [← hgt] at hAO
          have HEQ := hidden (fun u1 w' hu (h : Grows wr w') => bytesEqual_any u1 (.slice AO (r - o) (c - o)) wt gt w' hu (hAO w' (HV.out.grow (Grows.of_below HGW.out h))))
          obtain ⟨bq, hbq⟩ : ∃ bq, bq = decide (wt = gt) := ⟨_, rfl⟩
          rw [← hbq] at HEQ
          have HEE := hidden (show decT b o N = if bq then (vs, (r : Int), 0) else ([], 0, 4) by
            rw [HDT.out]
            unfold endT
            rw [HOF.out, if_neg (by simp), ← HVS.out, ← hwt, ← hgt, hbq]
            simp)
          clear hwt hgt hAO hbq hrow hbw hje hlt
          generalize w3.heap.size = g at *
          go_wp2_with fail
          refine wp_region_loose (tabRs [(1, BytesV wt), (6, ConstV (.bool bq))]) (by kernel_rfl) (by kernel_rfl) (tabRs_cons BytesV.lasts (tabRs_cons ConstV.lasts tabRs_nil)) ?_
          iterate 1 ((with_reducible refine loose_one (v := ?_) (a' := ?_) ?_ ?_ (fun w' hC' hG' => ?_) ?_ ?_); rotate_left 2; (focus rfl); (focus rfl); (focus (clear hC' hG'; go_simp; rfl)); (focus (go_simp; rfl)))
          refine loose_call (R := BytesV wt) (f := 22) (args := #[.slice (some ⟨g, 0, none⟩) N N]) (by rfl) (by rfl) (fun _ => by go_simp) (fun w' hC' hG' => made_loose (HEN.out w' hC')) ?_
          intro u1 hu1
          refine ⟨?_, ?_, ?_⟩
          rotate_left
          · go_simp
            rfl
          iterate 4 ((with_reducible refine loose_one (v := ?_) (a' := ?_) ?_ ?_ (fun w' hC' hG' => ?_) ?_ ?_); rotate_left 2; (focus rfl); (focus rfl); (focus (clear hC' hG'; go_simp; rfl)); (focus (go_simp; rfl)))
          refine loose_call (R := ConstV (.bool bq)) (f := 46) (args := #[u1, .slice AO (r - o) (c - o)]) (by rfl) (by rfl) (fun _ => by go_simp) (fun w' hC' hG' => const_loose0 (HEQ.out u1 w' ((hG' 1 (by kernel_rfl)).2 rfl) hC')) ?_
          rintro _ ⟨_, _, rfl⟩
          refine ⟨?_, ?_, ?_⟩
          rotate_left
          · go_simp
            rfl
          iterate 1 ((with_reducible refine loose_one (v := ?_) (a' := ?_) ?_ ?_ (fun w' hC' hG' => ?_) ?_ ?_); rotate_left 2; (focus rfl); (focus rfl); (focus (clear hC' hG'; go_simp; rfl)); (focus (go_simp; rfl)))
          refine loose_done (fun w12 hC' hG' => ?_)
          clear hG'
          have HB12 := hidden (Grows.of_below HGW.out hC')
          have HI12 := hidden (HIV.out.grow hC')
          clear hC'
          cases bq
          rotate_left
          · have HE9 := hidden (show decT b o N = (vs, (r : Int), 0) from HEE.out)
            go_wp2_with fail
            go_ret3
            exact ⟨_, by rw [HE9.out]; rfl, HB12.out, by rw [HE9.out]; exact HI12.out⟩
          · have HE9 := hidden (show decT b o N = ([], 0, 4) from HEE.out)
            go_wp2_with fail
            go_ret3
            exact RsR.err HE9.out HB12.out
    · have HE := hidden (decT_c ho hN hd h2)
      have hne : ((rdC b q N ws.length).2.2 != 0) = true := by simpa using h2
      generalize rdC b q N ws.length = R at *
      obtain ⟨r1, r2, r3⟩ := R
      simp only [] at hne HRC HE
      clear hb hd h2 hwl
      go_enter Try.func24, Try.ntmps24
      go_wp2_with fail
      refine HRW.out.mono ?_
      rintro e w1 ⟨v1, rfl, g1, hS1⟩
      have HG1 := hidden g1
      have HS1 := hidden (show IsS w1 v1 ws from hS1)
      have HRC1 := hidden (HRC.out w1 g1)
      obtain ⟨A1, c1, rfl⟩ := HS1.out.slice_
      clear g1 hS1
      go_wp2_with fail
      refine (HCW.out _).mono ?_
      rintro e w2 ⟨rfl, rfl⟩
      go_wp2_with fail
      refine HRC1.out.mono ?_
      rintro e w3 ⟨v3, rfl, g3, hI3⟩
      have HG3 := hidden (HG1.out.of_below g3)
      clear g3 hI3
      go_wp2_with fail
      go_ret3
      exact RsR.err HE.out HG3.out
  · have HE := hidden (show decT b off N = ([], 0, (rdD b off N).2.2) by
      by_cases ho : off < 0 ∨ (b.length : Int) < off
      · rw [decT_a (.inr (.inr ho)), rdD_e (by rw [dcd_bad ho]; decide), dcd_bad ho]
      · exact decT_d (by omega) h1)
    have hne : ((rdD b off N).2.2 != 0) = true := by simpa using h1
    generalize rdD b off N = R at *
    obtain ⟨r1, r2, r3⟩ := R
    simp only [] at hne HRW HE
    clear hb h1
    go_enter Try.func24, Try.ntmps24
    go_wp2_with fail
    refine HRW.out.mono ?_
    rintro e w1 ⟨v1, rfl, g1, hS1⟩
    have HG1 := hidden g1
    clear g1 hS1
    go_wp2_with fail
    go_ret3
    exact RsR.err HE.out HG1.out
end Go.Proofs.Ytgmjoghgmcjebaa
/-
  The chapter's examples (awake) hold. Nothing that was there is changed.
-/
namespace Go.Proofs.Ytgmjoghgmcjebaa
open Go.RowKit
set_option linter.unusedVariables false
set_option linter.unusedSimpArgs false

theorem aw_words : wordsOf [[98], [97], [98]] = [[97], [98]] := by decide +kernel
theorem aw_codes : codesW [[97], [98]] [[98], [97], [98]] = [1, 0, 1] := by decide +kernel
theorem aw_range : rangeV [[97], [99]] 6 [98] = (1, 2) := by decide +kernel
theorem aw_enc : encT [[98], [97], [98]] = [2, 1, 97, 1, 98, 0, 5] := by decide +kernel
theorem aw_rise : RisingL [[97], [99]] := by decide +kernel
theorem three_strs (w : World) (a b c : Str) : IsS (w.alloc (.cells #[.string (strOf a), .string (strOf b), .string (strOf c)] 9)) (.slice (some ⟨w.heap.size, 0, none⟩) 3 3) [a, b, c] :=
  Reads.of_row (Row.new w 9 _ (scells [a, b, c]) rfl) 3 3 rfl (Nat.le_refl _)
theorem two_strs (w : World) (a b : Str) : IsS (w.alloc (.cells #[.string (strOf a), .string (strOf b)] 9)) (.slice (some ⟨w.heap.size, 0, none⟩) 2 2) [a, b] :=
  Reads.of_row (Row.new w 9 _ (scells [a, b]) rfl) 2 2 rfl (Nat.le_refl _)
set_option maxRecDepth 20000 in
set_option maxHeartbeats 8000000 in
theorem awake10_any (w : World) : Calls Try.prog 9 #[] w fun e w' => e = .returned (.bool true) ∧ Grows w w' := by
  go_enter Try.func9, Try.ntmps9
  go_wp2_with fail
  refine (build10_any _ [[98], [97], [98]] _ (three_strs w [98] [97] [98]) (by decide) (by simp [maxLen])).mono ?_
  rintro e w1 ⟨v1, c1, rfl, g1, hS1, hN1⟩
  rw [aw_words] at hS1 hN1
  rw [aw_codes] at hN1
  obtain ⟨A1, d1, rfl⟩ := hS1.slice_
  obtain ⟨A2, d2, rfl⟩ := hN1.slice_
  obtain ⟨b1, f1, rfl, hs0⟩ := hS1.at_ (k := 0) (by decide)
  obtain ⟨b2, f2, rfl, hn0⟩ := hN1.at_ (k := 0) (by decide)
  have HG1 := hidden (show Grows w w1 from Grows.of_below (growA _) g1)
  simp only [List.getElem_cons_zero, Nat.add_zero] at hs0 hn0
  have HS0 := hidden hs0
  have HN0 := hidden hn0
  clear g1 hS1 hN1 hs0 hn0
  go_wp2_with fail
  refine (range10_any _ [[97], [99]] 6 [98] _ (two_strs w1 [97] [99]) aw_rise (by decide)).mono ?_
  rintro e w2 ⟨rfl, g2⟩
  rw [aw_range]
  have HG2 := hidden (Grows.of_below (growA (.cells #[.string (strOf [97]), .string (strOf [99])] 9)) g2)
  have hs0 := (HG2.out.cell (World.block_lt_of_cell? _ _ HS0.out)).trans HS0.out
  have hn0 := (HG2.out.cell (World.block_lt_of_cell? _ _ HN0.out)).trans HN0.out
  have he0 : ((strOf [97]).toList == [97]) = true := by rw [strOf_toList]; rfl
  have HG3 := hidden (Grows.of_below HG1.out HG2.out)
  clear g2
  generalize strOf [97] = s97 at *
  go_wp2_with fail
  refine (encode10_any _ [[98], [97], [98]] _ (three_strs w2 [98] [97] [98]) (by decide) (by decide)).mono ?_
  rintro e w3 ⟨v3, rfl, hown3, g3⟩
  rw [aw_enc] at hown3
  have hr := run_string_bytes (P := Try.prog) (IsBytes.of_own hown3) 40 5 Try.underlying40 Try.underlying5 9 Try.underlying9
  have he1 : ((strOf [2, 1, 97, 1, 98, 0, 5]).toList == [2, 1, 97, 1, 98, 0, 5]) = true := by rw [strOf_toList]; rfl
  have HG4 := hidden (Grows.of_below (Grows.of_below HG3.out (growA _)) (show Grows _ w3 from g3))
  generalize strOf [2, 1, 97, 1, 98, 0, 5] = sE at *
  clear hs0 hn0 hown3 g3 he0
  go_wp2_with fail
  go_ret
  exact ⟨rfl, HG4.out⟩
end Go.Proofs.Ytgmjoghgmcjebaa
