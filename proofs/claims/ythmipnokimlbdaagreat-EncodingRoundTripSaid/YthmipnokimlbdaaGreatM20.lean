/-
  Texts that the claims of this seat share, put together (En9, EnA, EnE, EnC, EnD). No condition.
-/
import Derived.Test.YthmipnokimlbdaaGreatM17
import Derived.Test.YthmipnokimlbdaaGreatM14
import Derived.Test.YthmipnokimlbdaaGreatM19
import Derived.Test.YthmipnokimlbdaaGreatM16
import Derived.Test.YthmipnokimlbdaaGreatM12
import Derived.Deep.MidRow
/-
  Shaken: what the claims of this seat need of this text. No condition.
-/
namespace Go.Proofs.YthmipnokimlbdaaGreat
set_option maxRecDepth 8000
open Go.RowKit
set_option linter.unusedVariables false
set_option linter.unusedSimpArgs false
structure Fine (v : Vec) : Prop where
  li : v.is.length ≤ 65536
  lt : v.ts.length ≤ 65536
  ii : ∀ x ∈ v.is, frIn x
  ss : ∀ s ∈ v.ts, s.length ≤ 4096
theorem words_tot {l : List Str} (h : l.length ≤ 65536) (hs : ∀ s ∈ l, s.length ≤ 4096) : (wordsL l).length ≤ 1000000000 := by
  have h1 : ∀ (l : List Str), (∀ s ∈ l, s.length ≤ 4096) → (wordsL l).length ≤ 4106 * l.length := by
    intro l
    induction l with
    | nil => intro _; simp [wordsL]
    | cons w r ih =>
      intro hs
      have e : wordsL (w :: r) = wordL w ++ wordsL r := rfl
      have h1 := ih fun s h => hs s (by simp [h])
      have h2 := hs w (by simp)
      have h3 := enc_len10 (n := w.length) (by omega)
      rw [e, List.length_append, List.length_cons]
      unfold wordL
      rw [List.length_append]
      omega
  have := h1 l hs
  omega
theorem fnE_any (k : Nat) (T : Int) (u : Value) (l : List Int) (W : World) (hu : IsI W u l) (hl : l.length ≤ 65536) (hin : ∀ x ∈ l, frIn x) : Enters (fnE k T) ∧ Calls Tryz.prog (fnE k T) #[u] W (ByR (payI k T l) W) := by
  unfold fnE payI
  split
  · split
    · exact ⟨fun _ _ => rfl, eencodeBools_any u l W hu (by omega)⟩
    · exact ⟨fun _ _ => rfl, byr_of_made (eencodeInts_any u l W hu (by omega))⟩
  · split
    · exact ⟨fun _ _ => rfl, eencodeRuns_any u l W hu hl hin⟩
    · split
      · exact ⟨fun _ _ => rfl, lencodeF_any u l W hu hl hin⟩
      · exact ⟨fun _ _ => rfl, enc9_any u l W hu hl hin⟩
theorem fnS_any (k : Nat) (T : Int) (u : Value) (l : List Int) (W : World) (hu : IsI W u l) (hl : l.length ≤ 65536) (hin : ∀ x ∈ l, frIn x) : Enters (fnS k T) ∧ Calls Tryz.prog (fnS k T) #[u] W fun e w' => e = .returned (.int .i64 ((payI k T l).length : Int)) ∧ Grows W w' := by
  unfold fnS payI
  split
  · split
    · exact ⟨fun _ _ => rfl, (esizeBools_any u l W hu (by omega)).mono fun _ _ ⟨h, e⟩ => ⟨h, by rw [e]; exact Below.refl _ _⟩⟩
    · exact ⟨fun _ _ => rfl, (esizeInts_any u l W hu (by omega)).mono fun _ _ ⟨h, e⟩ => ⟨h, by rw [e]; exact Below.refl _ _⟩⟩
  · split
    · exact ⟨fun _ _ => rfl, esizeRuns_any u l W hu hl hin⟩
    · split
      · refine ⟨fun _ _ => rfl, ?_⟩
        have h := size_anyF u l W hu hl hin
        rw [sizeV_len] at h
        exact h
      · exact ⟨fun _ _ => rfl, size9_any u l W hu hl hin⟩
theorem fnD_any (k : Nat) (T : Int) (A : Option Addr) (c : Nat) (b : List UInt8) (n : Nat) (W : World) (hb : IsBytes W (.slice A b.length c) b) (hlc : b.length ≤ c) (h1 : 1 ≤ b.length) (hl : b.length ≤ 1000000) (hn : n ≤ 65536) :
    Enters (fnD k T) ∧ Calls Tryz.prog (fnD k T) #[.slice A b.length c, .int .i64 1, .int .i64 (n : Int)] W (LDecF (dI k T b n) W) := by
  unfold fnD dI
  split
  · split
    · exact ⟨fun _ _ => rfl, edecodeBools_any A c b 1 n W hb hlc hl h1 hn⟩
    · exact ⟨fun _ _ => rfl, edecodeInts_any A c b 1 n W hb hl h1 hn⟩
  · split
    · exact ⟨fun _ _ => rfl, edecodeRuns_any _ b 1 n W hb hl h1 hn⟩
    · split
      · exact ⟨fun _ _ => rfl, ldecodeFF_any A c b 1 (n : Int) W hb hlc (by omega) (by omega) (by omega)⟩
      · exact ⟨fun _ _ => rfl, dec9F_any A c b 1 (n : Int) W hb hlc (by omega) (by omega) (by omega)⟩
theorem ftE_any (k : Nat) (u : Value) (l : List Str) (W : World) (hu : IsS W u l) (hl : l.length ≤ 65536) (hs : ∀ s ∈ l, s.length ≤ 4096) : Enters (ftE k) ∧ Calls Tryz.prog (ftE k) #[u] W (ByR (payT k l) W) := by
  have hs6 : ∀ s ∈ l, s.length ≤ 1000000 := fun s h => by have := hs s h; omega
  unfold ftE payT
  split
  · exact ⟨fun _ _ => rfl, byr_of_made (eencodeTexts_any u l W hu (by omega) hs6 (words_tot hl hs))⟩
  · split
    · exact ⟨fun _ _ => rfl, byr_of_made (encode10_any u l W hu (by omega) hs6)⟩
    · exact ⟨fun _ _ => rfl, byr_of_made (fencode_any u l W hu (by omega) hs6)⟩
theorem ftS_any (k : Nat) (u : Value) (l : List Str) (W : World) (hu : IsS W u l) (hl : l.length ≤ 65536) (hs : ∀ s ∈ l, s.length ≤ 4096) : Enters (ftS k) ∧ Calls Tryz.prog (ftS k) #[u] W fun e w' => e = .returned (.int .i64 ((payT k l).length : Int)) ∧ Grows W w' := by
  have hs6 : ∀ s ∈ l, s.length ≤ 1000000 := fun s h => by have := hs s h; omega
  unfold ftS payT
  split
  · exact ⟨fun _ _ => rfl, esizeTexts_any u l W hu (by omega) hs6⟩
  · split
    · exact ⟨fun _ _ => rfl, size10_any u l W hu (by omega) hs6⟩
    · exact ⟨fun _ _ => rfl, fsize_any u l W hu (by omega) hs6⟩
theorem ftD_any (k : Nat) (A : Option Addr) (c : Nat) (b : List UInt8) (n : Nat) (W : World) (hb : IsBytes W (.slice A b.length c) b) (hlc : b.length ≤ c) (h1 : 1 ≤ b.length) (hl : b.length ≤ 1000000) (hn : n ≤ 65536) :
    Enters (ftD k) ∧ Calls Tryz.prog (ftD k) #[.slice A b.length c, .int .i64 1, .int .i64 (n : Int)] W (RsR (dT k b n) W) := by
  unfold ftD dT
  split
  · exact ⟨fun _ _ => rfl, edecodeTexts_any A c b 1 n W hb hlc hl h1 hn⟩
  · split
    · exact ⟨fun _ _ => rfl, dec10_any A c b 1 (n : Int) W hb hlc (by omega) (by omega) (by omega)⟩
    · exact ⟨fun _ _ => rfl, fdecode_any A c b 1 (n : Int) W hb hlc (by omega)⟩
def rawD (k : Nat) (T : Int) (b : List UInt8) (n : Nat) : Vec × Int × Int :=
  if T = 3 then (⟨0, [], (dT k b n).1, []⟩, (dT k b n).2.1, (dT k b n).2.2) else (⟨0, (dI k T b n).1, [], []⟩, (dI k T b n).2.1, (dI k T b n).2.2)
structure Use (k : Nat) (T : Int) (w : World) (F1 F2 F3 : FuncId) (be bs bd bp : Nat) : Prop where
  e1 : Enters F1
  e2 : Enters F2
  e3 : Enters F3
  enc : ∀ W, Grows w W → ∀ x v, IsV W x v → v.T = T → Fine v → Calls Tryz.prog F1 #[x, ptV be, ptV bp] W (ByR (pay k v) W)
  size : ∀ W, Grows w W → ∀ x v, IsV W x v → v.T = T → Fine v → Calls Tryz.prog F2 #[x, ptV bs, ptV bp] W fun e w' => e = .returned (.int .i64 ((pay k v).length : Int)) ∧ Grows W w'
  dec : ∀ W, Grows w W → ∀ A c (b : List UInt8) (n : Nat), IsBytes W (.slice A b.length c) b → b.length ≤ c → 1 ≤ b.length → b.length ≤ 1000000 → n ≤ 65536 →
    Calls Tryz.prog F3 #[.slice A b.length c, .int .i64 1, .int .i64 (n : Int), ptV bd, ptV bp] W fun e w' => ∃ x, e = .returned (.tuple #[x, .int .i64 (rawD k T b n).2.1, .int .i64 (rawD k T b n).2.2]) ∧ IsV w' x (rawD k T b n).1 ∧ Grows W w' ∧ FreshX W.heap.size w' x
theorem codec_use {k : Nat} {T : Int} {x : Value} {w : World} (h : CodecR k T x w) :
    ∃ F1 F2 F3 be bs bd bp, x = .agg #[.func (.func F1) #[] #[ptV be, ptV bp], .func (.func F2) #[] #[ptV bs, ptV bp], .func (.func F3) #[] #[ptV bd, ptV bp]] ∧ Use k T w F1 F2 F3 be bs bd bp := by
  have h00 : ∀ x ∈ ([] : List Int), frIn x := fun _ h => by cases h
  have h01 : ∀ s ∈ ([] : List Str), s.length ≤ 4096 := fun _ h => by cases h
  unfold CodecR at h
  by_cases hT : T = 3
  · rw [if_pos hT] at h
    obtain ⟨be, bs, bd, bp, h0, h1, h2, h3, h4⟩ := h
    refine ⟨_, _, _, be, bs, bd, bp, h0, fun _ _ => rfl, fun _ _ => rfl, fun _ _ => rfl, ?_, ?_, ?_⟩
    · intro W hW x v hx hv hf
      have e : pay k v = payT k v.ts := by unfold pay; rw [hv, if_pos hT]
      rw [e]
      exact elit1T_any _ (ftE_any k _ [] W (Reads.nil_ W 0) (by simp) h01).1 be bp W (h1.grow hW) (h4.grow hW) x v hx _ (fun W' hW' u hu => (ftE_any k u v.ts W' hu hf.lt hf.ss).2)
    · intro W hW x v hx hv hf
      have e : pay k v = payT k v.ts := by unfold pay; rw [hv, if_pos hT]
      rw [e]
      exact elit2T_any _ (ftS_any k _ [] W (Reads.nil_ W 0) (by simp) h01).1 bs bp W (h2.grow hW) (h4.grow hW) x v hx _ (fun W' hW' u hu => (ftS_any k u v.ts W' hu hf.lt hf.ss).2)
    · intro W hW A c b n hb hlc hb1 hl hn
      unfold rawD
      rw [if_pos hT]
      exact elit3T_any _ (ftD_any k A c b n W hb hlc hb1 hl hn).1 bd bp W (h3.grow hW) (h4.grow hW) A b.length c 1 (n : Int) _ _ _ (fun W' hW' => (ftD_any k A c b n W' (hb.grow hW') hlc hb1 hl hn).2.mono fun _ _ ⟨u, he, hg, hs⟩ => ⟨u, he, hs, hg⟩)
  · rw [if_neg hT] at h
    obtain ⟨be, bs, bd, bp, h0, h1, h2, h3, h4⟩ := h
    refine ⟨_, _, _, be, bs, bd, bp, h0, fun _ _ => rfl, fun _ _ => rfl, fun _ _ => rfl, ?_, ?_, ?_⟩
    · intro W hW x v hx hv hf
      have e : pay k v = payI k T v.is := by unfold pay; rw [hv, if_neg hT]
      rw [e]
      exact elit1I_any _ (fnE_any k T _ [] W (Reads.nil_ W 0) (by simp) h00).1 be bp W (h1.grow hW) (h4.grow hW) x v hx _ (fun W' hW' u hu => (fnE_any k T u v.is W' hu hf.li hf.ii).2)
    · intro W hW x v hx hv hf
      have e : pay k v = payI k T v.is := by unfold pay; rw [hv, if_neg hT]
      rw [e]
      exact elit2I_any _ (fnS_any k T _ [] W (Reads.nil_ W 0) (by simp) h00).1 bs bp W (h2.grow hW) (h4.grow hW) x v hx _ (fun W' hW' u hu => (fnS_any k T u v.is W' hu hf.li hf.ii).2)
    · intro W hW A c b n hb hlc hb1 hl hn
      unfold rawD
      rw [if_neg hT]
      exact elit3I_any _ (fnD_any k T A c b n W hb hlc hb1 hl hn).1 bd bp W (h3.grow hW) (h4.grow hW) A b.length c 1 (n : Int) _ _ _ (fun W' hW' => (fnD_any k T A c b n W' (hb.grow hW') hlc hb1 hl hn).2)
end Go.Proofs.YthmipnokimlbdaaGreat
/-
  Shaken: what the claims of this seat need of this text. No condition.
-/
namespace Go.Proofs.YthmipnokimlbdaaGreat
set_option maxRecDepth 8000
open Go.RowKit
set_option linter.unusedVariables false
set_option linter.unusedSimpArgs false
theorem wpList_store_cod {wr : World} {ops : Array Oper} {rest : List Oper} {o : Oper} {a : Act} {Q : Exit → Act → World → Prop} (hgd : o.guard = none) (x y : Operand) (ho : o.op = .store 72 x y)
    (w0 : World) (hw : wr = w0.alloc (.cells #[.nilFunc, .nilFunc, .nilFunc] 72)) (hx : a.eval x = ptV w0.heap.size) (a1 a2 a3 : Value) (hy : a.eval y = .agg #[a1, a2, a3]) (h1 : (a1.oneCell' && a2.oneCell' && a3.oneCell') = true)
    (h : ∀ W, Row W w0.heap.size 72 [a1, a2, a3] → Grows w0 W → wpList Tryz.prog ops Q rest (a.put o.dst undef) W) : wpList Tryz.prog ops Q (o :: rest) a wr := by
  subst hw
  have hr := Row.new w0 72 #[.nilFunc, .nilFunc, .nilFunc] [.nilFunc, .nilFunc, .nilFunc] rfl
  refine wpList_store_row hgd _ x y ho w0.heap.size #[a1, a2, a3] hx hy _ _ hr sizeCod rfl (by simpa [Bool.and_assoc] using h1) (h _ (Row.setRow_ hr [a1, a2, a3] rfl) (below_setRow (growB _ _) (Nat.le_refl _) _))
theorem IsBytes.one_ (w : World) (c : UInt8) (z : Int) (hz : (c.toNat : Int) = z) : IsBytes (w.alloc (.cells #[.int .u8 z] 5)) (.slice (some ⟨w.heap.size, 0, none⟩) [c].length 1) [c] := by
  subst hz
  have hr := Row.new w 5 #[.int .u8 (c.toNat : Int)] (bcells [c]) rfl
  exact Reads.bytes (Reads.of_row hr 1 1 rfl (Nat.le_refl _))
def EncR (r : List UInt8 × Int) (w : World) (e : Ending) (w' : World) : Prop := ∃ u, e = .returned (.tuple #[u, .int .i64 r.2]) ∧ Grows w w' ∧ CapV r.1 u w'
theorem EncR.no {r : List UInt8 × Int} {f : Int} {w w' : World} (h : r = ([], f)) (hg : Grows w w') : EncR r w (.returned (.tuple #[.slice none 0 0, .int .i64 f])) w' := by
  subst h
  exact ⟨_, rfl, hg, none, 0, rfl, Nat.le_refl _, IsBytes.nil_ _⟩
theorem EncR.yes {r : List UInt8 × Int} {L : List UInt8} {u : Value} {w w' : World} (h : r = (L, 0)) (hg : Grows w w') (hc : CapV L u w') : EncR r w (.returned (.tuple #[u, .int .i64 0])) w' := by
  subst h
  exact ⟨_, rfl, hg, hc⟩
theorem Small.fine {v : Vec} (h : Small v) (hc : Encable v) : Fine v := by
  obtain ⟨h1, h2, h3, h4⟩ := h
  have hl := hc.len
  refine ⟨?_, ?_, h4, hc.texts⟩
  · by_cases hT : v.T = 3
    · rw [(hc.lt hT).2]; simp
    · have := (hc.li hT).1; omega
  · by_cases hT : v.T = 3
    · have := (hc.lt hT).1; omega
    · rw [(hc.li hT).2]; simp
theorem Encable.small {v : Vec} (h : Encable v) (hin : ∀ x ∈ v.is, frIn x) : Small v := by
  have hl := h.len
  refine ⟨?_, ?_, by omega, hin⟩
  · by_cases hT : v.T = 3
    · rw [(h.lt hT).2]; simp
    · have := (h.li hT).1; omega
  · by_cases hT : v.T = 3
    · have := (h.lt hT).1; omega
    · rw [(h.li hT).2]; simp
theorem pay_len {k : Nat} {v : Vec} (h : Fine v) : (pay k v).length ≤ 100000000000000 := by
  have h1 := h.li
  have h2 := h.lt
  have hs6 : ∀ s ∈ v.ts, s.length ≤ 1000000 := fun s hs => by have := h.ss s hs; omega
  unfold pay
  split
  · unfold payT
    split
    · have := words_tot h.lt h.ss; omega
    · split
      · have := encT_len (vs := v.ts) (by omega) hs6; omega
      · have h1 := encK_len (M := 4096) h.ss (by omega) v.ts.length; unfold fcEnc; omega
  · unfold payI
    split
    · split
      · rw [plB_length]; have := szB_le (n := v.is.length) (w := 1) (by omega) (by omega); omega
      · rw [plI_length]; omega
    · split
      · have := encR_len_le (runsR v.is)
        have := valid_length (runs_valid h.li)
        omega
      · split
        · have := encV_len v.is; omega
        · have := dlEnc_le v.is; omega
set_option maxHeartbeats 8000000 in
theorem eEncode_any (x : Value) (v : Vec) (kind : Int) (w : World) (hx : IsV w x v) (hs : Small v) :
    Calls Tryz.prog 11 #[x, .int .i64 kind] w (EncR (encFV v kind) w) := by
  have HEC := hidden (fun W (h : Grows w W) => encodable_any x v W (hx.grow h) hs)
  have HV := hidden hx
  have HS := hidden hs
  obtain ⟨a1, a2, a3, rfl, i1, i2, i3⟩ := hx
  obtain ⟨A1, c1, rfl⟩ := i1.slice_
  obtain ⟨A2, c2, rfl⟩ := i2.slice_
  obtain ⟨A3, c3, rfl⟩ := i3.slice_
  obtain ⟨T, hT⟩ : ∃ T, v.T = T := ⟨_, rfl⟩
  rw [hT] at HEC HV ⊢
  obtain ⟨n1, hn1⟩ : ∃ n, v.is.length = n := ⟨_, rfl⟩
  obtain ⟨n2, hn2⟩ : ∃ n, v.ts.length = n := ⟨_, rfl⟩
  obtain ⟨n3, hn3⟩ : ∃ n, v.ns.length = n := ⟨_, rfl⟩
  rw [hn1, hn2, hn3] at HEC HV ⊢
  have HT := hidden hT
  have HG0 := hidden (growB w (.cells #[.int .i64 T, .slice A1 n1 c1, .slice A2 n2 c2, .slice A3 n3 c3] 26))
  have HR0 := hidden (Row.new w 26 #[.int .i64 T, .slice A1 n1 c1, .slice A2 n2 c2, .slice A3 n3 c3] [.int .i64 T, .slice A1 n1 c1, .slice A2 n2 c2, .slice A3 n3 c3] rfl)
  have HEC := hidden (HEC.out _ HG0.out)
  clear i1 i2 i3 hn1 hn2 hn3 hT hs
  obtain ⟨ok, hok⟩ : ∃ b, okV v = b := ⟨_, rfl⟩
  rw [hok] at HEC
  cases ok
  · have HE := hidden (show encFV v kind = ([], 1) from if_pos (.inl hok))
    clear hok
    go_enter Tryz.func11, Tryz.ntmps11
    go_wp2_with fail
    refine HEC.out.mono ?_
    rintro e w2 ⟨rfl, g2⟩
    have HG2 := hidden (HG0.out.of_below g2)
    clear g2
    go_wp2_with fail
    go_ret2
    exact EncR.no HE.out HG2.out
  have HOK := hidden hok
  clear hok
  by_cases hk0 : kind < 0
  · have HE := hidden (show encFV v kind = ([], 1) from if_pos (.inr (.inl hk0)))
    have e1 : decide (kind < 0) = true := by simpa using hk0
    clear hk0
    go_enter Tryz.func11, Tryz.ntmps11
    go_wp2_with fail
    refine HEC.out.mono ?_
    rintro e w2 ⟨rfl, g2⟩
    have HG2 := hidden (HG0.out.of_below g2)
    clear g2
    go_wp2_with fail
    go_ret2
    exact EncR.no HE.out HG2.out
  have e1 : decide (kind < 0) = false := by simpa using hk0
  by_cases hk6 : 6 ≤ kind
  · have HE := hidden (show encFV v kind = ([], 1) from if_pos (.inr (.inr hk6)))
    have e2 : decide (6 ≤ kind) = true := by simpa using hk6
    clear hk0 hk6
    go_enter Tryz.func11, Tryz.ntmps11
    go_wp2_with fail
    refine HEC.out.mono ?_
    rintro e w2 ⟨rfl, g2⟩
    have HG2 := hidden (HG0.out.of_below g2)
    clear g2
    go_wp2_with fail
    go_ret2
    exact EncR.no HE.out HG2.out
  have e2 : decide (6 ≤ kind) = false := by simpa using hk6
  obtain ⟨k, rfl⟩ := Int.eq_ofNat_of_zero_le (show 0 ≤ kind by omega)
  have HF := hidden (fun W => efind_any k T W)
  have hne : ¬ (okV v = false ∨ (k : Int) < 0 ∨ 6 ≤ (k : Int)) := by rw [HOK.out]; simp; omega
  have hk5 : k ≤ 255 := by omega
  obtain ⟨b, hb⟩ : ∃ b, apl k T = b := ⟨_, rfl⟩
  rw [hb] at HF
  cases b
  · have HE := hidden (show encFV v k = ([], 7) by unfold encFV; rw [if_neg hne, Int.toNat_natCast, HT.out, if_pos hb])
    clear hk0 hk6 hb hne
    go_enter Tryz.func11, Tryz.ntmps11
    go_wp2_with fail
    refine HEC.out.mono ?_
    rintro e w2 ⟨rfl, g2⟩
    have HG2 := hidden (HG0.out.of_below g2)
    have HR2 := hidden (HR0.out.grow g2)
    have hT2 := HR2.out.cell 0
    simp only [List.getElem?_cons_zero] at hT2
    clear g2
    go_wp2_with fail
    refine (HF.out _).mono ?_
    rintro e w3 ⟨a1, a2, a3, rfl, hone, _, g3⟩
    have HG3 := hidden (HG2.out.of_below g3)
    have HONE := hidden hone
    clear g3 hone
    go_wp2_with (refine wpList_store_cod rfl _ _ rfl w3 rfl rfl a1 a2 a3 rfl HONE.out ?_; intro w4 hr4 hg4; have HG4 := hidden (HG3.out.of_below hg4); clear hr4 hg4)
    go_ret2
    exact EncR.no HE.out HG4.out
  · have HE := hidden (show encFV v k = (formE k v, 0) by unfold encFV; rw [if_neg hne, Int.toNat_natCast, HT.out, if_neg (by rw [hb]; simp)])
    have hfine := HS.out.fine (okV_iff.1 HOK.out)
    have HPL := hidden (pay_len (k := k) hfine)
    have HFN := hidden hfine
    have hcv : IntKind.u8.wrap (k : Int) = ((UInt8.ofNat k).toNat : Int) := by
      rw [UInt8.toNat_ofNat', Nat.mod_eq_of_lt (by omega)]
      simp only [IntKind.wrap, IntKind.bits, IntKind.signed]; simp; omega
    have hkk : ((UInt8.ofNat k).toNat : Int) = (k : Int) := by rw [UInt8.toNat_ofNat', Nat.mod_eq_of_lt (by omega)]
    have HKK := hidden hkk
    have HFE := hidden (show formE k v = [UInt8.ofNat k] ++ pay k v from rfl)
    clear hk0 hk6 hb hne hfine hcv hkk
    go_enter Tryz.func11, Tryz.ntmps11
    go_wp2_with fail
    refine HEC.out.mono ?_
    rintro e w2 ⟨rfl, g2⟩
    have HG2 := hidden (HG0.out.of_below g2)
    have HR2 := hidden (HR0.out.grow g2)
    have hT2 := HR2.out.cell 0
    simp only [List.getElem?_cons_zero] at hT2
    clear g2
    go_wp2_with fail
    refine (HF.out _).mono ?_
    rintro e w3 ⟨a1, a2, a3, rfl, hone, hcod, g3⟩
    have HONE := hidden hone
    obtain ⟨F1, F2, F3, be, bs, bd, bp, hx, hu⟩ := codec_use (hcod rfl)
    injection hx with hx
    obtain ⟨rfl, rfl, rfl⟩ : a1 = _ ∧ a2 = _ ∧ a3 = _ := by simpa using hx
    have HU := hidden hu
    have HG3 := hidden (HG2.out.of_below g3)
    have HR3 := hidden (HR2.out.grow g3)
    clear g3 hone hx hu hcod hT2
    have hF1 := HU.out.e1
    have HVX := hidden (HV.out.grow (HG0.out))
    go_wp2_with (first
      | (refine wpList_store_cod rfl _ _ rfl w3 rfl rfl _ _ _ rfl HONE.out ?_; intro w4 hr4 hg4; have hg5 := growB w4 (.cells #[.int .u8 (k : Int)] 5); have hc5 := (hr4.grow hg5).cell 0; simp only [List.getElem?_cons_zero] at hc5; have HG35 := hidden (hg4.of_below hg5); have HG5 := hidden (HG3.out.of_below HG35.out); have HR5 := hidden (show (w4.alloc (.cells #[.int .u8 (k : Int)] 5)).heap[w.heap.size]? = some (.cells #[.int .i64 T, .slice A1 n1 c1, .slice A2 n2 c2, .slice A3 n3 c3] 26 (0, 0)) from HR3.out.grow HG35.out); clear hr4 hg4 hg5)
      | (refine wpList_load_row rfl _ _ rfl _ rfl _ _ _ _ HR5.out Tryz.underlying26 rfl sizeVec ?_))
    refine (HU.out.enc _ HG35.out _ v (HV.out.grow HG5.out) HT.out HFN.out).mono ?_
    rintro e w6 ⟨u, rfl, g6, hb6⟩
    obtain ⟨A6, c6, rfl, _⟩ := id hb6
    have HB6 := hidden hb6
    have HG6 := hidden (HG5.out.of_below g6)
    have HK6 := hidden (IsBytes.grow (IsBytes.one_ w4 (UInt8.ofNat k) (k : Int) HKK.out) g6)
    clear g6 hb6 hc5
    generalize pay k v = P at *
    have HPN := hidden (IsParts.new2 HK6.out HB6.out 29)
    obtain ⟨n6, hn6⟩ : ∃ n6, P.length = n6 := ⟨_, rfl⟩
    rw [hn6] at HPN ⊢
    have HPN := hidden (show IsParts (w6.alloc (.cells #[.slice (some ⟨w4.heap.size, 0, none⟩) 1 1, .slice A6 n6 c6] 29)) _ _ from HPN.out)
    have HN6 := hidden hn6
    clear hn6
    go_wp2_with fail
    refine (concat_any _ [[UInt8.ofNat k], P] _ HPN.out (by simp [maxLen]) (by have := HPL.out; simp only [total, List.flatten_cons, List.flatten_nil, List.append_nil, List.length_append, List.length_singleton]; omega)).mono ?_
    rintro e w7 ⟨u7, rfl, hown7, g7⟩
    have HC7 := hidden (show CapV ([UInt8.ofNat k] ++ P) u7 w7 by have h := capV_own hown7; simpa using h)
    have HG7 := hidden ((HG6.out.of_below (growB _ _)).of_below g7)
    clear hown7 g7
    go_wp2_with fail
    go_ret2
    exact EncR.yes HE.out HG7.out (by rw [HFE.out]; exact HC7.out)
end Go.Proofs.YthmipnokimlbdaaGreat
/-
  Shaken: what the claims of this seat need of this text. No condition.
-/
namespace Go.Proofs.YthmipnokimlbdaaGreat
set_option maxRecDepth 8000
open Go.RowKit
set_option linter.unusedVariables false
set_option linter.unusedSimpArgs false
def DecV (r : Vec × Int × Int) (w : World) (e : Ending) (w' : World) : Prop := ∃ x, e = .returned (.tuple #[x, .int .i64 r.2.1, .int .i64 r.2.2]) ∧ IsV w' x r.1 ∧ Grows w w'
theorem DecV.no {r : Vec × Int × Int} {f : Int} {w w' : World} (h : r = (zeroV, 0, f)) (hg : Grows w w') : DecV r w (.returned (.tuple #[.agg #[.int .i64 0, .slice none 0 0, .slice none 0 0, .slice none 0 0], .int .i64 0, .int .i64 f])) w' := by
  subst h
  exact ⟨_, rfl, ⟨_, _, _, rfl, Reads.nil_ _ 0, Reads.nil_ _ 0, Reads.nil_ _ 0⟩, hg⟩
theorem wpList_store_vec {wr : World} {ops : Array Oper} {rest : List Oper} {o : Oper} {a : Act} {Q : Exit → Act → World → Prop} (hgd : o.guard = none) (x y : Operand) (ho : o.op = .store 26 x y)
    (w0 : World) (hw : wr = w0.alloc (.cells #[.int .i64 0, .slice none 0 0, .slice none 0 0, .slice none 0 0] 26)) (hx : a.eval x = ptV w0.heap.size) (t : Int) (A1 A2 A3 : Option Addr) (n1 c1 n2 c2 n3 c3 : Nat)
    (hy : a.eval y = .agg #[.int .i64 t, .slice A1 n1 c1, .slice A2 n2 c2, .slice A3 n3 c3])
    (h : ∀ W, Row W w0.heap.size 26 [.int .i64 t, .slice A1 n1 c1, .slice A2 n2 c2, .slice A3 n3 c3] → Grows w0 W → wpList Tryz.prog ops Q rest (a.put o.dst undef) W) : wpList Tryz.prog ops Q (o :: rest) a wr := by
  subst hw
  have hr := Row.new w0 26 #[.int .i64 0, .slice none 0 0, .slice none 0 0, .slice none 0 0] [.int .i64 0, .slice none 0 0, .slice none 0 0, .slice none 0 0] rfl
  exact wpList_store_row hgd _ x y ho w0.heap.size #[.int .i64 t, .slice A1 n1 c1, .slice A2 n2 c2, .slice A3 n3 c3] hx hy _ _ hr sizeVec rfl (by simp [Value.oneCell']) (h _ (Row.setRow_ hr [.int .i64 t, .slice A1 n1 c1, .slice A2 n2 c2, .slice A3 n3 c3] rfl) (below_setRow (growB _ _) (Nat.le_refl _) _))
theorem Reads.other_row {w : World} {v : Value} {xs : List Value} (h : Reads w v xs) {g : Nat} (hb : ∀ b o s n c, v = .slice (some ⟨b, o, s⟩) n c → b ≠ g) (cs : Array Value) : Reads (w.setRow g cs) v xs := by
  obtain ⟨A, d, rfl, hle, hcell⟩ := h
  refine ⟨A, d, rfl, hle, fun hl => ?_⟩
  obtain ⟨q, off, rfl, hq⟩ := hcell hl
  refine ⟨q, off, rfl, fun j hj => ?_⟩
  rw [← hq j hj]
  exact World.cell?_of_block (setRow_other w g q cs (hb _ _ _ _ _ rfl))
theorem Reads.not_row {w : World} {v : Value} {xs : List Value} (h : Reads w v xs) {g : Nat} {e : TypeId} {t a b c : Value} (h0 : Row w g e [t, a, b, c]) (hx : ∀ x ∈ xs, x ≠ t ∧ x ≠ a ∧ x ≠ b ∧ x ≠ c) (cs : Array Value) : Reads (w.setRow g cs) v xs := by
  obtain ⟨A, d, rfl, hle, hcell⟩ := h
  refine ⟨A, d, rfl, hle, fun hl => ?_⟩
  obtain ⟨q, off, rfl, hq⟩ := hcell hl
  refine ⟨q, off, rfl, fun j hj => ?_⟩
  have hj1 := hq j hj
  have hne : q ≠ g := by
    rintro rfl
    rw [h0.cell (off + j)] at hj1
    obtain ⟨x, hxj, hxm⟩ : ∃ x, xs[j]? = some x ∧ x ∈ xs := ⟨_, List.getElem?_eq_getElem hj, List.getElem_mem hj⟩
    rw [hxj] at hj1
    obtain ⟨e1, e2, e3, e4⟩ := hx x hxm
    match off + j, hj1 with
    | 0, hj1 => simp at hj1; exact e1 hj1.symm
    | 1, hj1 => simp at hj1; exact e2 hj1.symm
    | 2, hj1 => simp at hj1; exact e3 hj1.symm
    | 3, hj1 => simp at hj1; exact e4 hj1.symm
    | k + 4, hj1 => simp at hj1
  rw [← hj1]
  exact World.cell?_of_block (setRow_other w g q cs hne)
theorem DecV.yes {r : Vec × Int × Int} {v : Vec} {q : Int} {w w' : World} {x : Value} (h : r = (v, q, 0)) (hx : IsV w' x v) (hg : Grows w w') : DecV r w (.returned (.tuple #[x, .int .i64 q, .int .i64 0])) w' := by
  subst h
  exact ⟨_, rfl, hx, hg⟩
def DecI (r : Vec × Int × Int) (w : World) (e : Ending) (w' : World) : Prop := ∃ t a b c, e = .returned (.tuple #[.agg #[t, a, b, c], .int .i64 r.2.1, .int .i64 r.2.2]) ∧ IsV w' (.agg #[t, a, b, c]) r.1 ∧ Grows w w' ∧ IntB w' a
theorem DecI.no {r : Vec × Int × Int} {f : Int} {w w' : World} (h : r = (zeroV, 0, f)) (hg : Grows w w') : DecI r w (.returned (.tuple #[.agg #[.int .i64 0, .slice none 0 0, .slice none 0 0, .slice none 0 0], .int .i64 0, .int .i64 f])) w' := by
  subst h
  exact ⟨_, _, _, _, rfl, ⟨_, _, _, rfl, Reads.nil_ _ 0, Reads.nil_ _ 0, Reads.nil_ _ 0⟩, hg, IntB.none_ _ _ _⟩
theorem DecI.yes {r : Vec × Int × Int} {v : Vec} {q : Int} {w w' : World} {t a b c : Value} (h : r = (v, q, 0)) (hx : IsV w' (.agg #[t, a, b, c]) v) (hg : Grows w w') (hi : IntB w' a) : DecI r w (.returned (.tuple #[.agg #[t, a, b, c], .int .i64 q, .int .i64 0])) w' := by
  subst h
  exact ⟨_, _, _, _, rfl, hx, hg, hi⟩
theorem drawn_grows {w w' : World} (h : Grows w w') : Grows w w'.drew := h.of_below ⟨rfl, rfl, rfl, Nat.le_refl _, fun _ _ => rfl⟩
set_option maxHeartbeats 8000000 in
theorem eDecodeI_any (A : Option Addr) (c : Nat) (b : List UInt8) (T n : Int) (w : World) (hb : IsBytes w (.slice A b.length c) b) (hlc : b.length ≤ c) (hl : b.length ≤ 1000000) :
    Calls Tryz.prog 18 #[.slice A b.length c, .int .i64 T, .int .i64 n] w (DecI (decF b T n) w) := by
  have HV := hidden hb
  have HVT := hidden (fun W => evalidType_any T W)
  have HG0 := hidden (growB w (.cells #[.int .i64 0, .slice none 0 0, .slice none 0 0, .slice none 0 0] 26))
  have HR0 := hidden (Row.new w 26 #[.int .i64 0, .slice none 0 0, .slice none 0 0, .slice none 0 0] [.int .i64 0, .slice none 0 0, .slice none 0 0, .slice none 0 0] rfl)
  have HRW : Hid ((w.alloc (.cells #[.int .i64 0, .slice none 0 0, .slice none 0 0, .slice none 0 0] 26)).heap[w.heap.size]? = some (.cells #[.int .i64 0, .slice none 0 0, .slice none 0 0, .slice none 0 0] 26 (0, 0))) := HR0.out
  have HRS := hidden (Row.setRow_ HR0.out [.int .i64 0, .slice none 0 0, .slice none 0 0, .slice none 0 0] rfl)
  obtain ⟨t, ht⟩ : ∃ t, okT T = t := ⟨_, rfl⟩
  rw [ht] at HVT
  cases t
  · have HE := hidden (show decF b T n = (zeroV, 0, 1) from if_pos (.inl ht))
    clear ht hb
    go_enter Tryz.func18, Tryz.ntmps18
    go_wp2_with (first
      | (go_at_call 39; refine (HVT.out _).mono ?_; rintro e w2 ⟨rfl, rfl⟩)
      | (refine wpList_store_row rfl _ _ _ rfl _ #[.int .i64 0, .slice none 0 0, .slice none 0 0, .slice none 0 0] rfl rfl _ _ HRW.out sizeVec rfl (by simp [Value.oneCell']) ?_))
    exact bodyPost_ret (results_vec3 rfl _ _ _ _ _ _ _ (.int .i64 0) (.int .i64 1) rfl HRS.out rfl rfl) rfl (DecI.no HE.out (below_setRow HG0.out (Nat.le_refl _) _))
  by_cases h1 : n < 0
  · have HE := hidden (show decF b T n = (zeroV, 0, 1) from if_pos (.inr (.inl h1)))
    have e1 : decide (n < 0) = true := by simpa using h1
    clear ht hb h1
    go_enter Tryz.func18, Tryz.ntmps18
    go_wp2_with (first
      | (go_at_call 39; refine (HVT.out _).mono ?_; rintro e w2 ⟨rfl, rfl⟩)
      | (refine wpList_store_row rfl _ _ _ rfl _ #[.int .i64 0, .slice none 0 0, .slice none 0 0, .slice none 0 0] rfl rfl _ _ HRW.out sizeVec rfl (by simp [Value.oneCell']) ?_))
    exact bodyPost_ret (results_vec3 rfl _ _ _ _ _ _ _ (.int .i64 0) (.int .i64 1) rfl HRS.out rfl rfl) rfl (DecI.no HE.out (below_setRow HG0.out (Nat.le_refl _) _))
  have e1 : decide (n < 0) = false := by simpa using h1
  by_cases h2 : 65536 < n
  · have HE := hidden (show decF b T n = (zeroV, 0, 1) from if_pos (.inr (.inr h2)))
    have e2 : decide (65536 < n) = true := by simpa using h2
    clear ht hb h1 h2
    go_enter Tryz.func18, Tryz.ntmps18
    go_wp2_with (first
      | (go_at_call 39; refine (HVT.out _).mono ?_; rintro e w2 ⟨rfl, rfl⟩)
      | (refine wpList_store_row rfl _ _ _ rfl _ #[.int .i64 0, .slice none 0 0, .slice none 0 0, .slice none 0 0] rfl rfl _ _ HRW.out sizeVec rfl (by simp [Value.oneCell']) ?_))
    exact bodyPost_ret (results_vec3 rfl _ _ _ _ _ _ _ (.int .i64 0) (.int .i64 1) rfl HRS.out rfl rfl) rfl (DecI.no HE.out (below_setRow HG0.out (Nat.le_refl _) _))
  have e2 : decide (65536 < n) = false := by simpa using h2
  obtain ⟨N, rfl⟩ := Int.eq_ofNat_of_zero_le (show 0 ≤ n by omega)
  have HNE := hidden (show ¬ (okT T = false ∨ (N : Int) < 0 ∨ 65536 < (N : Int)) by rw [ht]; simp; omega)
  have hN : N ≤ 65536 := by omega
  have HT := hidden ht
  clear ht
  by_cases h3 : b.length = 0
  · have HE := hidden (show decF b T N = (zeroV, 0, 2) by unfold decF; rw [if_neg HNE.out, if_pos h3])
    have hb0 : b = [] := List.eq_nil_of_length_eq_zero h3
    subst hb0
    clear hb h1 h2 h3
    go_enter Tryz.func18, Tryz.ntmps18
    go_wp2_with (first
      | (go_at_call 39; refine (HVT.out _).mono ?_; rintro e w2 ⟨rfl, rfl⟩)
      | (refine wpList_store_row rfl _ _ _ rfl _ #[.int .i64 0, .slice none 0 0, .slice none 0 0, .slice none 0 0] rfl rfl _ _ HRW.out sizeVec rfl (by simp [Value.oneCell']) ?_))
    exact bodyPost_ret (results_vec3 rfl _ _ _ _ _ _ _ (.int .i64 0) (.int .i64 2) rfl HRS.out rfl rfl) rfl (DecI.no HE.out (below_setRow HG0.out (Nat.le_refl _) _))
  have e3 : ((b.length : Int) == 0) = false := by rw [beq_eq_false_iff_ne]; omega
  have e3' : (b.length == 0) = false := by rw [beq_eq_false_iff_ne]; omega
  obtain ⟨k, hk⟩ : ∃ k, (b.getD 0 0).toNat = k := ⟨_, rfl⟩
  have hbk : b[0]? = some (b.getD 0 0) := by cases b with | nil => simp at h3 | cons x r => rfl
  obtain ⟨bb, ff, rfl⟩ := some_of_bytes hb (by omega)
  have hcell : w.cell? ⟨bb, ff, none⟩ = some (.int .u8 (k : Int)) := by
    obtain ⟨A', c', he, hc⟩ := hb
    injection he with e1 _ _
    obtain ⟨b', f', h1, hcc⟩ := hc (by omega)
    rw [h1] at e1
    injection e1 with e1
    injection e1 with e1 e2 _
    subst e1 e2
    have h := hcc 0 (by omega)
    rw [List.getElem?_eq_getElem (by omega)] at hbk
    injection hbk with hbk
    rw [hbk, hk] at h
    exact h
  have hk8 : k ≤ 255 := by rw [← hk]; have := (b.getD 0 0).toNat_lt; omega
  have HF := hidden (fun W => efind_any k T W)
  have HB1 := hidden (show 1 ≤ b.length by omega)
  have hcell1 := (HG0.out.cell (World.block_lt_of_cell? _ _ hcell)).trans hcell
  obtain ⟨L, hL⟩ : ∃ L, L = b.length := ⟨_, rfl⟩
  obtain ⟨ap, hap⟩ : ∃ b, apl k T = b := ⟨_, rfl⟩
  rw [hap] at HF
  cases ap
  · have HE := hidden (show decF b T N = (zeroV, 0, 4) by unfold decF; rw [if_neg HNE.out, if_neg h3, hk, if_pos hap])
    clear hb h1 h2 h3 hk hbk hap hcell
    go_enter Tryz.func18, Tryz.ntmps18
    go_wp2_with (first
      | (go_at_call 39; refine (HVT.out _).mono ?_; rintro e w2 ⟨rfl, rfl⟩)
      | (go_at_call 34; refine (HF.out _).mono ?_; rintro e w3 ⟨a1, a2, a3, rfl, hone, _, g3⟩; have HONE := hidden hone; have HG3 := hidden (HG0.out.of_below g3); have HR3 := hidden (HR0.out.grow g3); clear g3 hone)
      | (refine wpList_store_cod rfl _ _ rfl w3 rfl rfl a1 a2 a3 rfl HONE.out ?_; intro w4 hr4 hg4; have HG4 := hidden (HG3.out.of_below hg4); have HR4 := hidden (HR3.out.grow hg4); have HRW4 := hidden (show w4.heap[w.heap.size]? = some (.cells #[.int .i64 0, .slice none 0 0, .slice none 0 0, .slice none 0 0] 26 (0, 0)) from HR4.out); have HRS4 := hidden (Row.setRow_ HR4.out [.int .i64 0, .slice none 0 0, .slice none 0 0, .slice none 0 0] rfl); clear hr4 hg4)
      | (refine wpList_store_row rfl _ _ _ rfl _ #[.int .i64 0, .slice none 0 0, .slice none 0 0, .slice none 0 0] rfl rfl _ _ HRW4.out sizeVec rfl (by simp [Value.oneCell']) ?_))
    exact bodyPost_ret (results_vec3 rfl _ _ _ _ _ _ _ (.int .i64 0) (.int .i64 4) rfl HRS4.out rfl rfl) rfl (DecI.no HE.out (below_setRow HG4.out (Nat.le_refl _) _))
  · have HD0 := hidden (show decF b T N = endV (mkV k T b N) by unfold decF; rw [if_neg HNE.out, if_neg h3, hk, if_neg (by rw [hap]; simp), Int.toNat_natCast])
    have hmk : mkV k T b N = (⟨T, (rawD k T b N).1.is, (rawD k T b N).1.ts, List.replicate N false⟩, (rawD k T b N).2.1, (rawD k T b N).2.2) ∧ (rawD k T b N).1.T = 0 := by
      unfold mkV rawD
      by_cases hT : T = 3
      · rw [if_pos hT, if_pos hT]; exact ⟨rfl, rfl⟩
      · rw [if_neg hT, if_neg hT]; exact ⟨rfl, rfl⟩
    have HT0 := hidden hmk.2
    have hmk1 := hmk.1
    have hSM : (rawD k T b N).2.2 = 0 → (rawD k T b N).1.is.length ≤ 1000000 ∧ (rawD k T b N).1.ts.length ≤ 1000000 := fun h0 => by
      have hm0 : (mkV (b.getD 0 0).toNat T b N).2.2 = 0 := by rw [hk, hmk1]; exact h0
      obtain ⟨v, q, e, _, _, _, _, r5, r6, r7, r8, _⟩ := mkV_acc HT.out hN HB1.out (by rw [hk]; exact hap) hm0
      rw [hk, hmk1] at e
      injection e with e _
      have e1 := congrArg Vec.is e
      have e2 := congrArg Vec.ts e
      simp only [] at e1 e2
      rw [e1, e2]
      refine ⟨?_, ?_⟩
      · by_cases hT : T = 3
        · rw [(r5 hT).2]; simp
        · have := (r6 hT).1; omega
      · by_cases hT : T = 3
        · have := (r5 hT).1; omega
        · rw [(r6 hT).2]; simp
    rw [hmk1] at HD0
    obtain ⟨q, hq⟩ : ∃ q, (rawD k T b N).2.1 = q := ⟨_, rfl⟩
    obtain ⟨f, hf⟩ : ∃ f, (rawD k T b N).2.2 = f := ⟨_, rfl⟩
    obtain ⟨rv, hrv⟩ : ∃ v, (rawD k T b N).1 = v := ⟨_, rfl⟩
    rw [hq, hf, hrv] at HD0
    rw [hrv] at HT0 hSM
    rw [hf] at hSM
    have HSM := hidden hSM
    clear hSM
    have HUD := hidden (fun (F1 F2 F3 : FuncId) (be bs bd bp : Nat) (W0 : World) (hu : Use k T W0 F1 F2 F3 be bs bd bp) (W : World) (hW : Grows W0 W) (hw : Grows w W) => hu.dec W hW _ c b N (HV.out.grow hw) hlc HB1.out hl hN)
    rw [hq, hf, hrv] at HUD
    have hmkb := run_make_oneM (P := Tryz.prog) 24 4 (.bool false) 1 Tryz.underlying24 info_boolM rfl N (by omega) (by omega)
    clear hb h1 h2 h3 hk hbk hap hcell hmk hmk1 hq hf hrv
    by_cases hf0 : f = 0
    · subst hf0
      go_enter Tryz.func18, Tryz.ntmps18
      go_wp2_with (first
        | (go_at_call 39; refine (HVT.out _).mono ?_; rintro e w2 ⟨rfl, rfl⟩)
        | (go_at_call 34; refine (HF.out _).mono ?_; rintro e w3 ⟨a1, a2, a3, rfl, hone, hcod, g3⟩; have HONE := hidden hone; obtain ⟨F1, F2, F3, be, bs, bd, bp, hx, hu⟩ := codec_use (hcod rfl); injection hx with hx; obtain ⟨rfl, rfl, rfl⟩ : a1 = _ ∧ a2 = _ ∧ a3 = _ := (by simpa using hx); have HU := hidden hu; have HG3 := hidden (HG0.out.of_below g3); have HR3 := hidden (HR0.out.grow g3); clear g3 hone hx hu hcod)
        | (refine wpList_store_cod rfl _ _ rfl w3 rfl rfl _ _ _ rfl HONE.out ?_; intro w4 hr4 hg4; have HG34 := hidden hg4; have HG4 := hidden (HG3.out.of_below hg4); have HR4 := hidden (HR3.out.grow hg4); have hF3 := HU.out.e3; have hc4 := hr4.cell 2; simp only [List.getElem?_cons_succ, List.getElem?_cons_zero] at hc4; clear hr4 hg4))
      refine (HUD.out _ _ _ _ _ _ _ _ HU.out _ HG34.out HG4.out).mono ?_
      rintro e w5 ⟨x, rfl, hx5, g5, hfx⟩
      obtain ⟨x1, x2, x3, rfl, j1, j2, j3⟩ := hx5
      obtain ⟨A1, c1, rfl⟩ := j1.slice_
      obtain ⟨A2, c2, rfl⟩ := j2.slice_
      obtain ⟨A3, c3, rfl⟩ := j3.slice_
      rw [HT0.out]
      have J1 := hidden j1
      have J2 := hidden j2
      have HFX := hidden (hfx _ _ _ _ rfl)
      clear hfx
      obtain ⟨n1, hn1⟩ : ∃ n, rv.is.length = n := ⟨_, rfl⟩
      obtain ⟨n2, hn2⟩ : ∃ n, rv.ts.length = n := ⟨_, rfl⟩
      obtain ⟨n3, hn3⟩ : ∃ n, rv.ns.length = n := ⟨_, rfl⟩
      rw [hn1] at J1 HFX ⊢
      rw [hn2] at J2 ⊢
      rw [hn3] at ⊢
      have HN12 := hidden (And.intro hn1 hn2)
      have HG5 := hidden (HG4.out.of_below g5)
      have HR5 := hidden (HR4.out.grow g5)
      clear hn1 hn2 hn3 g5 hc4 hcell1 j1 j2 j3
      go_wp2_with (refine wpList_store_vec rfl _ _ rfl w5 rfl rfl 0 A1 A2 A3 n1 c1 n2 c2 n3 c3 rfl ?_; intro w6 hr6 hg6; have HG56 := hidden hg6; have HG6 := hidden (HG5.out.of_below hg6); have HR6 := hidden (HR5.out.grow hg6); have HX6 := hidden hr6; have hf60 := hr6.frozen 0; have hf63 := hr6.frozen 3; have hc60 := hr6.cell 0; have hc63 := hr6.cell 3; simp only [List.getElem?_cons_succ, List.getElem?_cons_zero] at hc60 hc63; clear hr6 hg6)
      obtain ⟨g, hg⟩ : ∃ g, g = w5.heap.size := ⟨_, rfl⟩
      rw [← hg] at HX6 hf60 hf63 hc60 hc63 ⊢
      have hr7 := HX6.out.grow (growB w6 (.cells (Array.replicate N (Value.bool false)) 4))
      have hr8 := (HX6.out.set_ 0 (.int .i64 T)).grow (growB _ (.cells (Array.replicate N (Value.bool false)) 4))
      have hr9 := hr7.set_ 0 (.int .i64 T)
      have hf80 := hr8.frozen 0
      have hf83 := hr8.frozen 3
      have hc83 := hr8.cell 3
      have hf93 := hr9.frozen 3
      have hc93 := hr9.cell 3
      have HR8 := hidden (hr8.set_ 3 (.slice (some ⟨w6.heap.size, 0, none⟩) N N))
      have HR9 := hidden (hr9.set_ 3 (.slice (some ⟨w6.heap.size, 0, none⟩) N N))
      have hf70 := hr7.frozen 0
      have hf73 := hr7.frozen 3
      have hc70 := hr7.cell 0
      have hc73 := hr7.cell 3
      simp only [List.set_cons_zero, List.set_cons_succ, List.getElem?_cons_succ, List.getElem?_cons_zero] at hc70 hc73 hc83 hc93 HR8 HR9
      have HGE := hidden hg
      clear hr7 hr8 hr9 hg
      have HGN := hidden (show g ≠ w6.heap.size by have := HX6.out.lt; omega)
      go_region
      obtain ⟨w9, hw9⟩ : ∃ w9, w9 = (((w6.alloc (.cells (Array.replicate N (Value.bool false)) 4)).setCell ⟨g, 0, none⟩ (.int .i64 T)).setCell ⟨g, 3, none⟩ (.slice (some ⟨w6.heap.size, 0, none⟩) N N)).drew := ⟨_, rfl⟩
      have HG59 := hidden (show Grows w5 w9 by rw [hw9]; exact drawn_grows (((HG56.out.of_below (growB w6 _)).setCell (p := ⟨g, 0, none⟩) (Nat.le_of_eq HGE.out.symm) _).setCell (p := ⟨g, 3, none⟩) (Nat.le_of_eq HGE.out.symm) _))
      have HV9 := hidden (show Row w9 g 26 [.int .i64 T, .slice A1 n1 c1, .slice A2 n2 c2, .slice (some ⟨w6.heap.size, 0, none⟩) N N] by rw [hw9]; exact HR9.out)
      have HN9 := hidden (show Row w9 w6.heap.size 4 (List.replicate N (Value.bool false)) by rw [hw9]; exact ((Row.new w6 4 (Array.replicate N (Value.bool false)) (List.replicate N (Value.bool false)) (by simp)).set_other (a := ⟨g, 0, none⟩) HGN.out _).set_other (a := ⟨g, 3, none⟩) HGN.out _)
      rw [← hw9]
      clear hw9
      rotate_left
      obtain ⟨w9, hw9⟩ : ∃ w9, w9 = (((w6.setCell ⟨g, 0, none⟩ (.int .i64 T)).alloc (.cells (Array.replicate N (Value.bool false)) 4)).setCell ⟨g, 3, none⟩ (.slice (some ⟨w6.heap.size, 0, none⟩) N N)).drew := ⟨_, rfl⟩
      have HG59 := hidden (show Grows w5 w9 by rw [hw9]; exact drawn_grows ((Grows.of_below (HG56.out.setCell (p := ⟨g, 0, none⟩) (Nat.le_of_eq HGE.out.symm) _) (growB _ _)).setCell (p := ⟨g, 3, none⟩) (Nat.le_of_eq HGE.out.symm) _))
      have HV9 := hidden (show Row w9 g 26 [.int .i64 T, .slice A1 n1 c1, .slice A2 n2 c2, .slice (some ⟨w6.heap.size, 0, none⟩) N N] by rw [hw9]; exact HR8.out)
      have HN9 := hidden (show Row w9 w6.heap.size 4 (List.replicate N (Value.bool false)) by rw [hw9]; exact (Row.at_ (w6.setCell ⟨g, 0, none⟩ (.int .i64 T)) 4 (Array.replicate N (Value.bool false)) (List.replicate N (Value.bool false)) (by simp) w6.heap.size (World.size_setCell w6 _ _).symm).set_other (a := ⟨g, 3, none⟩) HGN.out _)
      rw [← hw9]
      clear hw9
      all_goals
        obtain ⟨v9, hv9⟩ : ∃ v9 : Vec, v9 = ⟨T, rv.is, rv.ts, List.replicate N false⟩ := ⟨_, rfl⟩
        have HX9 := hidden (show IsV w9 (.agg #[.int .i64 T, .slice A1 n1 c1, .slice A2 n2 c2, .slice (some ⟨w6.heap.size, 0, none⟩) N N]) v9 by
          rw [hv9]
          exact ⟨_, _, _, rfl, J1.out.grow HG59.out, J2.out.grow HG59.out, Reads.of_row (e := 4) (by rw [show tcells (List.replicate N false) = List.replicate N (Value.bool false) by simp [tcells]]; exact HN9.out) N N (by simp [tcells]) (Nat.le_refl _)⟩)
        have HCK := hidden (echeck_any _ v9 w9 HX9.out (by rw [hv9]; exact (HSM.out (by trivial)).1) (by rw [hv9]; exact (HSM.out (by trivial)).2))
        rw [← hv9] at HD0
        have HVR9 := hidden (show w9.heap[g]? = some (.cells #[.int .i64 T, .slice A1 n1 c1, .slice A2 n2 c2, .slice (some ⟨w6.heap.size, 0, none⟩) N N] 26 (0, 0)) from HV9.out)
        have HR9Z := hidden (HR5.out.grow HG59.out)
        have HG9 := hidden (HG5.out.of_below HG59.out)
        have hTv : v9.T = T := by rw [hv9]
        have HI9 := hidden (show v9.is = rv.is by rw [hv9])
        have HS9 := hidden (show v9.ts = rv.ts by rw [hv9])
        have HNS9 := hidden (show v9.ns = List.replicate N false by rw [hv9])
        have HTV := hidden hTv
        clear hv9 hTv hmkb hf60 hf63 hc60 hc63 hf70 hf73 hc70 hc73 hf80 hf83 hc83 hf93 hc93
        obtain ⟨ce, hce⟩ : ∃ ce, chk v9 = ce := ⟨_, rfl⟩
        rw [hce] at HCK
        by_cases hc0 : ce = 0
        · subst hc0
          have HE := hidden (show decF b T N = (v9, q, 0) by rw [HD0.out]; unfold endV; rw [if_neg (by simp), if_neg (by rw [hce]; simp)])
          clear hce
          go_wp2_with (first
            | (refine wpList_load_row rfl _ _ rfl _ rfl _ _ _ _ HVR9.out Tryz.underlying26 rfl sizeVec ?_)
            | (go_at_call 40; refine HCK.out.mono ?_; rintro e w10 ⟨rfl, g10⟩; have HG910 := hidden g10; have HVR9 := hidden (show w10.heap[g]? = some (.cells #[.int .i64 T, .slice A1 n1 c1, .slice A2 n2 c2, .slice (some ⟨w6.heap.size, 0, none⟩) N N] 26 (0, 0)) from HV9.out.grow g10); have HRZ := hidden (show w10.heap[w.heap.size]? = some (.cells #[.int .i64 0, .slice none 0 0, .slice none 0 0, .slice none 0 0] 26 (0, 0)) from HR9Z.out.grow g10); have HRF := hidden (Row.setRow_ (HR9Z.out.grow g10) [.int .i64 T, .slice A1 n1 c1, .slice A2 n2 c2, .slice (some ⟨w6.heap.size, 0, none⟩) N N] rfl); clear g10)
            | (refine wpList_store_row rfl _ _ _ rfl _ #[.int .i64 T, .slice A1 n1 c1, .slice A2 n2 c2, .slice (some ⟨w6.heap.size, 0, none⟩) N N] rfl rfl _ _ HRZ.out sizeVec rfl (by simp [Value.oneCell']) ?_))
          refine bodyPost_ret (results_vec3 rfl _ _ _ _ _ _ _ (.int .i64 q) (.int .i64 0) rfl HRF.out rfl rfl) rfl (DecI.yes HE.out ⟨_, _, _, by rw [HTV.out], ?_, ?_, ?_⟩ (below_setRow (HG9.out.of_below HG910.out) (Nat.le_refl _) _) ?_)
          · rw [HI9.out]
            exact Reads.other_row ((J1.out.grow HG59.out).grow HG910.out) (fun b o s n c e => by have h1 := HFX.out.1 b o s n c e; have h2 := (HR4.out).lt; omega) _
          · rw [HS9.out]
            exact Reads.not_row ((J2.out.grow HG59.out).grow HG910.out) (show Row w10 w.heap.size 26 _ from HRZ.out) (fun x hx => by obtain ⟨y, _, rfl⟩ := List.mem_map.1 hx; refine ⟨?_, ?_, ?_, ?_⟩ <;> exact fun h => by cases h) _
          · rw [HNS9.out]
            refine Reads.other_row (Reads.grow (Reads.of_row (e := 4) (by rw [show tcells (List.replicate N false) = List.replicate N (Value.bool false) by simp [tcells]]; exact HN9.out) N N (by simp [tcells]) (Nat.le_refl _)) HG910.out) (fun b o s n c e => by injection e with e; injection e with e; injection e with e; have h1 := HR5.out.lt; have h2 := HG56.out.size; omega) _
          · exact (FreshI.same ((HFX.out.grow HG59.out).grow HG910.out) (Nat.zero_le _) (fun b hb => setRow_other _ _ _ _ (by have h2 := (HR4.out).lt; omega))).2
        · have HE := hidden (show decF b T N = (zeroV, 0, ce) by rw [HD0.out]; unfold endV; rw [if_neg (by simp), if_pos (by rw [hce]; exact hc0), hce])
          have hne : (ce != 0) = true := by simpa using hc0
          clear hce hc0
          go_wp2_with (first
            | (refine wpList_load_row rfl _ _ rfl _ rfl _ _ _ _ HVR9.out Tryz.underlying26 rfl sizeVec ?_)
            | (go_at_call 40; refine HCK.out.mono ?_; rintro e w10 ⟨rfl, g10⟩; have HG910 := hidden g10; have HRZ := hidden (show w10.heap[w.heap.size]? = some (.cells #[.int .i64 0, .slice none 0 0, .slice none 0 0, .slice none 0 0] 26 (0, 0)) from HR9Z.out.grow g10); have HRF := hidden (Row.setRow_ (HR9Z.out.grow g10) [.int .i64 0, .slice none 0 0, .slice none 0 0, .slice none 0 0] rfl); clear g10)
            | (refine wpList_store_row rfl _ _ _ rfl _ #[.int .i64 0, .slice none 0 0, .slice none 0 0, .slice none 0 0] rfl rfl _ _ HRZ.out sizeVec rfl (by simp [Value.oneCell']) ?_))
          exact bodyPost_ret (results_vec3 rfl _ _ _ _ _ _ _ (.int .i64 0) (.int .i64 ce) rfl HRF.out rfl rfl) rfl (DecI.no HE.out (below_setRow (HG9.out.of_below HG910.out) (Nat.le_refl _) _))
    · have HE := hidden (show decF b T N = (zeroV, 0, f) by rw [HD0.out]; unfold endV; rw [if_pos hf0])
      have hne : (f != 0) = true := by simpa using hf0
      clear hf0 hmkb
      go_enter Tryz.func18, Tryz.ntmps18
      go_wp2_with (first
        | (go_at_call 39; refine (HVT.out _).mono ?_; rintro e w2 ⟨rfl, rfl⟩)
        | (go_at_call 34; refine (HF.out _).mono ?_; rintro e w3 ⟨a1, a2, a3, rfl, hone, hcod, g3⟩; have HONE := hidden hone; obtain ⟨F1, F2, F3, be, bs, bd, bp, hx, hu⟩ := codec_use (hcod rfl); injection hx with hx; obtain ⟨rfl, rfl, rfl⟩ : a1 = _ ∧ a2 = _ ∧ a3 = _ := (by simpa using hx); have HU := hidden hu; have HG3 := hidden (HG0.out.of_below g3); have HR3 := hidden (HR0.out.grow g3); clear g3 hone hx hu hcod)
        | (refine wpList_store_cod rfl _ _ rfl w3 rfl rfl _ _ _ rfl HONE.out ?_; intro w4 hr4 hg4; have HG34 := hidden hg4; have HG4 := hidden (HG3.out.of_below hg4); have HR4 := hidden (HR3.out.grow hg4); have hF3 := HU.out.e3; have hc4 := hr4.cell 2; simp only [List.getElem?_cons_succ, List.getElem?_cons_zero] at hc4; clear hr4 hg4))
      refine (HUD.out _ _ _ _ _ _ _ _ HU.out _ HG34.out HG4.out).mono ?_
      rintro e w5 ⟨x, rfl, hx5, g5, hfx⟩
      obtain ⟨x1, x2, x3, rfl, j1, j2, j3⟩ := hx5
      obtain ⟨A1, c1, rfl⟩ := j1.slice_
      obtain ⟨A2, c2, rfl⟩ := j2.slice_
      obtain ⟨A3, c3, rfl⟩ := j3.slice_
      rw [HT0.out]
      have J1 := hidden j1
      have J2 := hidden j2
      have HFX := hidden (hfx _ _ _ _ rfl)
      clear hfx
      obtain ⟨n1, hn1⟩ : ∃ n, rv.is.length = n := ⟨_, rfl⟩
      obtain ⟨n2, hn2⟩ : ∃ n, rv.ts.length = n := ⟨_, rfl⟩
      obtain ⟨n3, hn3⟩ : ∃ n, rv.ns.length = n := ⟨_, rfl⟩
      rw [hn1] at J1 HFX ⊢
      rw [hn2] at J2 ⊢
      rw [hn3] at ⊢
      have HN12 := hidden (And.intro hn1 hn2)
      have HG5 := hidden (HG4.out.of_below g5)
      have HR5 := hidden (HR4.out.grow g5)
      clear hn1 hn2 hn3 g5 hc4 hcell1 j1 j2 j3
      go_wp2_with (first
        | (refine wpList_store_vec rfl _ _ rfl w5 rfl rfl 0 A1 A2 A3 n1 c1 n2 c2 n3 c3 rfl ?_; intro w6 hr6 hg6; have HG6 := hidden (HG5.out.of_below hg6); have HRZ := hidden (show w6.heap[w.heap.size]? = some (.cells #[.int .i64 0, .slice none 0 0, .slice none 0 0, .slice none 0 0] 26 (0, 0)) from HR5.out.grow hg6); have HRF := hidden (Row.setRow_ (HR5.out.grow hg6) [.int .i64 0, .slice none 0 0, .slice none 0 0, .slice none 0 0] rfl); clear hr6 hg6)
        | (refine wpList_store_row rfl _ _ _ rfl _ #[.int .i64 0, .slice none 0 0, .slice none 0 0, .slice none 0 0] rfl rfl _ _ HRZ.out sizeVec rfl (by simp [Value.oneCell']) ?_))
      exact bodyPost_ret (results_vec3 rfl _ _ _ _ _ _ _ (.int .i64 0) (.int .i64 f) rfl HRF.out rfl rfl) rfl (DecI.no HE.out (below_setRow HG6.out (Nat.le_refl _) _))
theorem eDecode_any (A : Option Addr) (c : Nat) (b : List UInt8) (T n : Int) (w : World) (hb : IsBytes w (.slice A b.length c) b) (hlc : b.length ≤ c) (hl : b.length ≤ 1000000) :
    Calls Tryz.prog 18 #[.slice A b.length c, .int .i64 T, .int .i64 n] w (DecV (decF b T n) w) :=
  (eDecodeI_any A c b T n w hb hlc hl).mono fun _ _ ⟨_, _, _, _, h1, h2, h3, _⟩ => ⟨_, h1, h2, h3⟩
end Go.Proofs.YthmipnokimlbdaaGreat
/-
  Shaken: what the claims of this seat need of this text. No condition.
-/
namespace Go.Proofs.YthmipnokimlbdaaGreat
set_option maxRecDepth 8000
open Go.RowKit
set_option linter.unusedVariables false
set_option linter.unusedSimpArgs false
def costL (v : Vec) : List Rn := (List.range 6).map fun (k : Nat) => ((k : Int), cost v k)
def costK (v : Vec) (k : Nat) : List Rn := (List.range 6).map fun (j : Nat) => if j < k then ((j : Int), cost v j) else (0, 0)
theorem costK_length (v : Vec) (k : Nat) : (costK v k).length = 6 := by simp [costK]
theorem costL_length (v : Vec) : (costL v).length = 6 := by simp [costL]
theorem costK_done (v : Vec) : costK v 6 = costL v := by
  unfold costK costL
  exact List.map_congr_left fun j hj => by rw [if_pos (List.mem_range.1 hj)]
theorem costK_get {v : Vec} {k j : Nat} (h : j < (costK v k).length) : (costK v k)[j] = if j < k then ((j : Int), cost v j) else (0, 0) := by simp [costK]
theorem costK_set {v : Vec} {k : Nat} (h : k < 6) : (costK v k).set k ((k : Int), cost v k) = costK v (k + 1) := by
  apply List.ext_getElem
  · simp [costK_length]
  · intro j h1 h2
    rw [List.getElem_set, costK_get h2]
    by_cases hjk : k = j
    · subst hjk
      rw [if_pos rfl, if_pos (by omega)]
    · rw [if_neg hjk, costK_get]
      by_cases hlt : j < k
      · rw [if_pos hlt, if_pos (by omega)]
      · rw [if_neg hlt, if_neg (by omega)]
theorem rcells_set2 : ∀ {l : List Rn} {k : Nat} {a b : Int}, k < l.length → ((rcells l).set (k * 2) (.int .i64 a)).set (k * 2 + 1) (.int .i64 b) = rcells (l.set k (a, b))
  | [], k, a, b, h => by simp at h
  | x :: l, 0, a, b, h => by simp [rcells]
  | x :: l, k + 1, a, b, h => by
    have ih := rcells_set2 (l := l) (k := k) (a := a) (b := b) (by simpa using h)
    rw [show (k + 1) * 2 = k * 2 + 1 + 1 by omega, rcells, List.set_cons_succ, List.set_cons_succ, List.set_cons_succ, List.set_cons_succ, ih, List.set_cons_succ, rcells]
theorem rcells_set1 {l : List Rn} {k : Nat} {a b c : Int} (h : k < l.length) : (rcells (l.set k (a, b))).set (k * 2 + 1) (.int .i64 c) = rcells (l.set k (a, c)) := by
  rw [← rcells_set2 h, ← rcells_set2 h, List.set_set]
theorem sizeCst : (Tryz.prog.info? 38).map (·.size) = some 2 := by kernel_rfl
theorem costK_zero (v : Vec) : (madeCells #[Value.int .i64 0, Value.int .i64 0] 12).toList = rcells (costK v 0) := by
  simp [costK, rcells, madeCells, List.range, List.range.loop, Array.range]
theorem run_makeCst (v : Vec) (W : World) :
    (Instr.makeSlice 35 (.int .i64 6) (.int .i64 6)).run Tryz.prog W = .ok (.slice (some ⟨W.heap.size, 0, none⟩) 6 6) (W.alloc (.cells (rcells (costK v 0)).toArray 38)) := by
  have hinfo : (Tryz.prog.info? 38).map (fun i => (i.zero, i.size, i.bytes)) = some (some (.agg #[.int .i64 0, .int .i64 0]), 2, 16) := by kernel_rfl
  obtain ⟨i0, hi, hz0, hz1, hz2⟩ := info_parts hinfo
  have h := run_make (P := Tryz.prog) W 35 38 i0 (.agg #[.int .i64 0, .int .i64 0]) Tryz.underlying35 hi hz0 .i64 .i64 6 6 (by omega) (by omega) (by rw [hz2]; decide) (by omega)
  rw [hz1] at h
  have e : madeCells (Value.agg #[.int .i64 0, .int .i64 0]).cells ((6 : Int).toNat * 2) = (rcells (costK v 0)).toArray := by
    apply Array.toList_inj.1
    exact costK_zero v
  rw [e] at h
  exact h
def CostRel (w : World) (g : Nat) (v : Vec) (i : Value) (wr : World) : Prop :=
  ∃ k : Nat, k ≤ 6 ∧ i = .int .i64 (k : Int) ∧ Row wr g 38 (rcells (costK v k)) ∧ Grows w wr
set_option maxHeartbeats 8000000 in
theorem eCosts_any (x : Value) (v : Vec) (w : World) (hx : IsV w x v) (hs : Small v) (hok : okV v = true) :
    Calls Tryz.prog 14 #[x] w fun e w' => ∃ u, e = .returned u ∧ Grows w w' ∧ ReadsR w' u (costL v) := by
  have HEC := hidden (fun W (h : Grows w W) => encodable_any x v W (hx.grow h) hs)
  rw [hok] at HEC
  have HV := hidden hx
  have hfine := hs.fine (okV_iff.1 hok)
  have HFN := hidden hfine
  have HPL := hidden (fun k => pay_len (k := k) hfine)
  have HOK := hidden hok
  obtain ⟨a1, a2, a3, rfl, i1, i2, i3⟩ := hx
  obtain ⟨A1, c1, rfl⟩ := i1.slice_
  obtain ⟨A2, c2, rfl⟩ := i2.slice_
  obtain ⟨A3, c3, rfl⟩ := i3.slice_
  obtain ⟨T, hT⟩ : ∃ T, v.T = T := ⟨_, rfl⟩
  rw [hT] at HEC HV ⊢
  obtain ⟨n1, hn1⟩ : ∃ n, v.is.length = n := ⟨_, rfl⟩
  obtain ⟨n2, hn2⟩ : ∃ n, v.ts.length = n := ⟨_, rfl⟩
  obtain ⟨n3, hn3⟩ : ∃ n, v.ns.length = n := ⟨_, rfl⟩
  rw [hn1, hn2, hn3] at HEC HV ⊢
  have HT := hidden hT
  have HG0 := hidden (growB w (.cells #[.int .i64 T, .slice A1 n1 c1, .slice A2 n2 c2, .slice A3 n3 c3] 26))
  have HR0 := hidden (Row.new w 26 #[.int .i64 T, .slice A1 n1 c1, .slice A2 n2 c2, .slice A3 n3 c3] [.int .i64 T, .slice A1 n1 c1, .slice A2 n2 c2, .slice A3 n3 c3] rfl)
  clear i1 i2 i3 hn1 hn2 hn3 hT hs hok hfine
  go_enter Tryz.func14, Tryz.ntmps14
  have hmk := run_makeCst v
  go_wp2_with fail
  refine (HEC.out _ (HG0.out.of_below (growB _ _))).mono ?_
  rintro e w2 ⟨rfl, g2⟩
  obtain ⟨g, hg⟩ : ∃ g, g = w.heap.size + 1 := ⟨_, rfl⟩
  have HRC := hidden ((Row.at_ (w.alloc (.cells #[.int .i64 T, .slice A1 n1 c1, .slice A2 n2 c2, .slice A3 n3 c3] 26)) 38 (rcells (costK v 0)).toArray (rcells (costK v 0)) rfl g (by rw [hg, World.size_alloc])).grow g2)
  have HG2 := hidden ((HG0.out.of_below (growB _ (.cells (rcells (costK v 0)).toArray 38))).of_below g2)
  have HRV := hidden ((HR0.out.grow (growB _ (.cells (rcells (costK v 0)).toArray 38))).grow g2)
  have HGW := hidden (show w.heap.size ≤ g by omega)
  have HGV := hidden (show g ≠ w.heap.size by omega)
  rw [← hg]
  clear g2 hmk hg
  go_wp2_with fail
  go_loopw [5, 6, 7, 13] (fun u1 u2 u3 i wr => CostRel w g v i wr ∧ Row wr w.heap.size 26 [.int .i64 T, .slice A1 n1 c1, .slice A2 n2 c2, .slice A3 n3 c3]) (fun _ _ _ i _ => 6 - (intOf i).toNat)
  case atStart => exact ⟨⟨0, by omega, rfl, HRC.out, HG2.out⟩, HRV.out⟩
  case round =>
    obtain ⟨⟨k, hk, rfl, hrow, hb⟩, hrv⟩ := hrel
    have HR := hidden hrow
    have HB := hidden hb
    have HV1 := hidden hrv
    by_cases hlt : k < 6
    · have hkl : k < (costK v k).length := by rw [costK_length]; exact hlt
      have HTH := hidden (show wr.there g (k * 2) 2 from fun j hj => ⟨by rw [hrow.cell (k * 2 + j), List.getElem?_eq_getElem (by rw [rcells_length, costK_length]; omega)]; rfl, hrow.frozen _⟩)
      have hST := (hrow.set_ (k * 2) (.int .i64 (k : Int))).set_ (k * 2 + 1) (.int .i64 (-1))
      rw [rcells_set2 hkl] at hST
      have HST := hidden (show Row (wr.setCells g (k * 2) [.int .i64 (k : Int), .int .i64 (-1)]) g 38 (rcells ((costK v k).set k ((k : Int), -1))) from hST)
      have HSG := hidden (show Grows w (wr.setCells g (k * 2) [.int .i64 (k : Int), .int .i64 (-1)]) from (HB.out.setCell (p := ⟨g, k * 2, none⟩) HGW.out _).setCell (p := ⟨g, k * 2 + 1, none⟩) HGW.out _)
      have HSV := hidden (show Row (wr.setCells g (k * 2) [.int .i64 (k : Int), .int .i64 (-1)]) w.heap.size 26 [.int .i64 T, .slice A1 n1 c1, .slice A2 n2 c2, .slice A3 n3 c3] from (HV1.out.set_other (a := ⟨g, k * 2, none⟩) HGV.out _).set_other (a := ⟨g, k * 2 + 1, none⟩) HGV.out _)
      have HF := hidden (fun W => efind_any k T W)
      obtain ⟨b, hb2⟩ : ∃ b, apl k T = b := ⟨_, rfl⟩
      rw [hb2] at HF
      cases b
      · have HCO := hidden (show cost v k = -1 by unfold cost; rw [HT.out, hb2]; simp)
        have HSET := hidden (costK_set (v := v) hlt)
        rw [HCO.out] at HSET
        clear hrow hb hrv hST hb2 hkl
        go_wp2_with (first
          | (refine wpList_store_mid rfl _ _ _ rfl g (k * 2) #[.int .i64 (k : Int), .int .i64 (-1)] rfl rfl HTH.out sizeCst (by simp [Value.oneCell']) ?_; obtain ⟨w5, hw5⟩ : ∃ w5, w5 = wr.setCells g (k * 2) (#[Value.int .i64 (k : Int), Value.int .i64 (-1)]).toList := ⟨_, rfl⟩; have HR5 := hidden (show Row w5 g _ _ by rw [hw5]; exact HST.out); have HG5 := hidden (show Grows w w5 by rw [hw5]; exact HSG.out); have HV5 := hidden (show Row w5 w.heap.size _ _ by rw [hw5]; exact HSV.out); rw [← hw5]; have hT5 := HV5.out.cell 0; simp only [List.getElem?_cons_zero] at hT5; clear hw5)
          | (go_at_call 34; refine (HF.out _).mono ?_; rintro e w6 ⟨a1, a2, a3, rfl, hone, _, g6⟩; have HONE := hidden hone; have HG6 := hidden (HG5.out.of_below g6); have HR6 := hidden (HR5.out.grow g6); have HV6 := hidden (HV5.out.grow g6); clear g6 hone)
          | (refine wpList_store_cod rfl _ _ rfl w6 rfl rfl a1 a2 a3 rfl HONE.out ?_; intro w7 hr7 hg7; have HG7 := hidden (HG6.out.of_below hg7); have HR7 := hidden (HR6.out.grow hg7); have HV7 := hidden (HV6.out.grow hg7); clear hr7 hg7))
        first
          | (go_roundw; (case rel => exact ⟨⟨k + 1, by omega, by go_num, by rw [← HSET.out]; exact HR7.out, HG7.out⟩, HV7.out⟩); (case measure => simp [intOf]; omega))
          | exact ⟨⟨⟨k + 1, by omega, by go_num, by rw [← HSET.out]; exact HR7.out, HG7.out⟩, HV7.out⟩, by simp [intOf]; omega⟩
      · have HCO := hidden (show cost v k = 1 + ((pay k v).length : Int) by unfold cost; rw [HT.out, hb2, HOK.out]; simp)
        have HSET := hidden (costK_set (v := v) hlt)
        rw [HCO.out] at HSET
        have HPK := hidden (HPL.out k)
        have HKL := hidden hkl
        clear hrow hb hrv hST hb2 hkl
        go_wp2_with (first
          | (refine wpList_store_mid rfl _ _ _ rfl g (k * 2) #[.int .i64 (k : Int), .int .i64 (-1)] rfl rfl HTH.out sizeCst (by simp [Value.oneCell']) ?_; obtain ⟨w5, hw5⟩ : ∃ w5, w5 = wr.setCells g (k * 2) (#[Value.int .i64 (k : Int), Value.int .i64 (-1)]).toList := ⟨_, rfl⟩; have HR5 := hidden (show Row w5 g _ _ by rw [hw5]; exact HST.out); have HG5 := hidden (show Grows w w5 by rw [hw5]; exact HSG.out); have HV5 := hidden (show Row w5 w.heap.size _ _ by rw [hw5]; exact HSV.out); rw [← hw5]; have hT5 := HV5.out.cell 0; simp only [List.getElem?_cons_zero] at hT5; clear hw5)
          | (go_at_call 34; refine (HF.out _).mono ?_; rintro e w6 ⟨a1, a2, a3, rfl, hone, hcod, g6⟩; have HONE := hidden hone; obtain ⟨F1, F2, F3, be, bs, bd, bp, hx, hu⟩ := codec_use (hcod rfl); injection hx with hx; obtain ⟨rfl, rfl, rfl⟩ : a1 = _ ∧ a2 = _ ∧ a3 = _ := (by simpa using hx); have HG6 := hidden (HG5.out.of_below g6); have HR6 := hidden (HR5.out.grow g6); have HV6 := hidden (HV5.out.grow g6); have HU := hidden hu; clear g6 hone hx hu hcod)
          | (refine wpList_store_cod rfl _ _ rfl w6 rfl rfl _ _ _ rfl HONE.out ?_; intro w7 hr7 hg7; have HG67 := hidden hg7; have HG7 := hidden (HG6.out.of_below hg7); have HR7 := hidden (HR6.out.grow hg7); have HV7 := hidden (show w7.heap[w.heap.size]? = some (.cells #[.int .i64 T, .slice A1 n1 c1, .slice A2 n2 c2, .slice A3 n3 c3] 26 (0, 0)) from HV6.out.grow hg7); have hF2 := HU.out.e2; have hc7 := hr7.cell 1; simp only [List.getElem?_cons_succ, List.getElem?_cons_zero] at hc7; clear hr7 hg7)
          | (refine wpList_load_row rfl _ _ rfl _ rfl _ _ _ _ HV7.out Tryz.underlying26 rfl sizeVec ?_))
        refine (HU.out.size _ HG67.out _ v (HV.out.grow HG7.out) HT.out HFN.out).mono ?_
        rintro e w8 ⟨rfl, g8⟩
        have HR8 := hidden (HR7.out.grow g8)
        have HV8 := hidden ((show Row w7 w.heap.size 26 _ from HV7.out).grow g8)
        have HG8 := hidden (HG7.out.of_below g8)
        have hc8 := HR8.out.cell (k * 2 + 1)
        rw [← rcells_set2 HKL.out, List.getElem?_set_self (by rw [List.length_set, rcells_length]; have := HKL.out; omega)] at hc8
        have hf8 := HR8.out.frozen (k * 2 + 1)
        generalize (pay k v).length = P at *
        have hP := HPK.out
        clear g8
        go_wp2_with fail
        have HR9 := HR8.out.set_ (k * 2 + 1) (.int .i64 (1 + (P : Int)))
        rw [rcells_set1 HKL.out, HSET.out] at HR9
        go_roundw
        case rel => exact ⟨⟨k + 1, by omega, by go_num, HR9, HG8.out.setCell (p := ⟨g, k * 2 + 1, none⟩) HGW.out _⟩, HV8.out.set_other (a := ⟨g, k * 2 + 1, none⟩) HGV.out _⟩
        case measure => simp [intOf]; omega
    · have hke : k = 6 := by omega
      subst hke
      have HRD := hidden (show ReadsR wr (.slice (some ⟨g, 0, none⟩) 6 6) (costL v) by
        refine ⟨some ⟨g, 0, none⟩, 6, by rw [costL_length], by rw [costL_length]; omega, fun _ => ⟨g, 0, rfl, fun j y hj => ?_⟩⟩
        rw [costK_done] at hrow
        obtain ⟨h1, h2⟩ := rcells_get hj
        rw [Nat.zero_add, hrow.cell, hrow.cell]
        exact ⟨h1, h2⟩)
      clear hrow hb hrv
      go_wp2_with fail
      go_ret
      exact ⟨_, rfl, HB.out, HRD.out⟩
end Go.Proofs.YthmipnokimlbdaaGreat
/-
  Shaken: what the claims of this seat need of this text. No condition.
-/
namespace Go.Proofs.YthmipnokimlbdaaGreat
set_option maxRecDepth 8000
open Go.RowKit
set_option linter.unusedVariables false
set_option linter.unusedSimpArgs false
abbrev cstV (a b : Int) : Value := .agg #[.int .i64 a, .int .i64 b]
theorem results_cst {fn : Func} {p : Tmp} (h : fn.results = #[.cell p 38]) (tmps : Array Value) (w : World) (g : Nat) (a b : Value) (hp : tmps.getD p undef = .pointer (some ⟨g, 0, none⟩)) (hg : Row w g 38 [a, b]) :
    (results fn tmps).run Tryz.prog w = .ok (.agg #[a, b]) w := results_cell_row h _ _ _ _ _ _ _ hp hg Tryz.underlying38 rfl sizeCst
theorem esizeOf_any (a b : Int) (w : World) : Calls Tryz.prog 37 #[cstV a b] w fun e w' => e = .returned (.int .i64 b) ∧ Grows w w' := by
  have HG := hidden (growB w)
  go_enter Tryz.func37, Tryz.ntmps37
  go_wp2_with fail
  go_ret
  exact ⟨rfl, HG.out _⟩
set_option maxHeartbeats 4000000 in
theorem esmaller_any (a1 a2 b1 b2 : Int) (w : World) : Calls Tryz.prog 38 #[cstV a1 a2, cstV b1 b2, fnV 37] w
    fun e w' => e = .returned (if b2 < a2 then cstV b1 b2 else cstV a1 a2) ∧ Grows w w' := by
  obtain ⟨w1, hw1⟩ : ∃ w1, w1 = ((w.alloc (.cells #[.int .i64 a1, .int .i64 a2] 38)).alloc (.cells #[.int .i64 b1, .int .i64 b2] 38)).alloc (.cells #[.int .i64 0, .int .i64 0] 38) := ⟨_, rfl⟩
  have HG := hidden (show Grows w w1 by rw [hw1]; exact ((growB _ _).of_below (growB _ _)).of_below (growB _ _))
  have HA := hidden (show Row w1 w.heap.size 38 [.int .i64 a1, .int .i64 a2] by rw [hw1]; exact ((Row.new _ _ _ _ rfl).grow (growB _ _)).grow (growB _ _))
  have HB := hidden (show Row w1 (w.heap.size + 1) 38 [.int .i64 b1, .int .i64 b2] by rw [hw1]; exact (Row.at_ _ _ _ _ rfl _ (by simp [World.size_alloc])).grow (growB _ _))
  have HC := hidden (show Row w1 (w.heap.size + 2) 38 [.int .i64 0, .int .i64 0] by rw [hw1]; exact Row.at_ _ _ _ _ rfl _ (by simp [World.size_alloc]))
  have HW := hidden hw1.symm
  clear hw1
  have hd : decide (b2 < a2) = true ∨ decide (b2 < a2) = false := by cases decide (b2 < a2) <;> simp
  have HIF := hidden (fun h : decide (b2 < a2) = true => show (if b2 < a2 then cstV b1 b2 else cstV a1 a2) = cstV b1 b2 from if_pos (by simpa using h))
  have HIN := hidden (fun h : decide (b2 < a2) = false => show (if b2 < a2 then cstV b1 b2 else cstV a1 a2) = cstV a1 a2 from if_neg (by simpa using h))
  generalize (if b2 < a2 then cstV b1 b2 else cstV a1 a2) = res at *
  rcases hd with hd | hd
  all_goals
    have HD := hidden hd
    go_enter Tryz.func38, Tryz.ntmps38
    go_wp2_with fail
    rw [HW.out]
    obtain ⟨ga, hga⟩ : ∃ g, g = w.heap.size := ⟨_, rfl⟩
    rw [← hga] at HA HB HC ⊢
    have HGA := hidden hga
    clear hga
    refine wp_region_loose (tabRs [(2, ConstV (.int .i64 b2)), (5, ConstV (.int .i64 a2))]) (by kernel_rfl) (by kernel_rfl) (tabRs_cons ConstV.lasts (tabRs_cons ConstV.lasts tabRs_nil)) ?_
    iterate 2 ((with_reducible refine loose_one (v := ?_) (a' := ?_) ?_ ?_ (fun w' hC' hG' => ?_) ?_ ?_); rotate_left 2; (focus rfl); (focus rfl); (focus (have f1 := (HB.out.grow hC').cell 0; have f2 := (HB.out.grow hC').cell 1; simp only [List.getElem?_cons_succ, List.getElem?_cons_zero] at f1 f2; clear hC' hG'; go_simp; rfl)); (focus (go_simp; rfl)))
    refine loose_call (R := ConstV (.int .i64 b2)) (f := 37) (args := #[cstV b1 b2]) (by rfl) (by rfl) (fun _ => by go_simp) (fun w' hC' hG' => const_loose (esizeOf_any b1 b2 w')) ?_
    rintro v4 ⟨w4, _, rfl⟩
    refine ⟨?_, ?_, ?_⟩
    rotate_left
    · go_simp
      rfl
    iterate 2 ((with_reducible refine loose_one (v := ?_) (a' := ?_) ?_ ?_ (fun w' hC' hG' => ?_) ?_ ?_); rotate_left 2; (focus rfl); (focus rfl); (focus (have f1 := (HA.out.grow hC').cell 0; have f2 := (HA.out.grow hC').cell 1; simp only [List.getElem?_cons_succ, List.getElem?_cons_zero] at f1 f2; clear hC' hG'; go_simp; rfl)); (focus (go_simp; rfl)))
    refine loose_call (R := ConstV (.int .i64 a2)) (f := 37) (args := #[cstV a1 a2]) (by rfl) (by rfl) (fun _ => by go_simp) (fun w' hC' hG' => const_loose (esizeOf_any a1 a2 w')) ?_
    rintro v5 ⟨w5, _, rfl⟩
    refine ⟨?_, ?_, ?_⟩
    rotate_left
    · go_simp
      rfl
    iterate 1 ((with_reducible refine loose_one (v := ?_) (a' := ?_) ?_ ?_ (fun w' hC' hG' => ?_) ?_ ?_); rotate_left 2; (focus rfl); (focus rfl); (focus (clear hC' hG'; go_simp; rfl)); (focus (go_simp; rfl)))
    refine loose_done (fun w6 hC' hG' => ?_)
    have HG6 := hidden (HG.out.of_below hC')
    have HA6 := hidden (show w6.heap[ga]? = some (.cells #[.int .i64 a1, .int .i64 a2] 38 (0, 0)) from HA.out.grow hC')
    have HB6 := hidden (show w6.heap[ga + 1]? = some (.cells #[.int .i64 b1, .int .i64 b2] 38 (0, 0)) from HB.out.grow hC')
    have HC6 := hidden (show w6.heap[ga + 2]? = some (.cells #[.int .i64 0, .int .i64 0] 38 (0, 0)) from HC.out.grow hC')
    have HR6 := hidden (fun x y => Row.setRow_ (HC.out.grow hC') [x, y] rfl)
    clear hG' hC'
    go_wp2_with (first
      | (refine wpList_load_row rfl _ _ rfl _ rfl _ _ _ _ HB6.out Tryz.underlying38 rfl sizeCst ?_)
      | (refine wpList_load_row rfl _ _ rfl _ rfl _ _ _ _ HA6.out Tryz.underlying38 rfl sizeCst ?_)
      | (refine wpList_store_row rfl _ _ _ rfl _ _ rfl rfl _ _ HC6.out sizeCst rfl (by simp [Value.oneCell']) ?_))
    first
      | exact bodyPost_ret (results_cst rfl _ _ _ _ _ rfl (HR6.out _ _)) rfl ⟨by rw [HIF.out HD.out], below_setRow HG6.out (by have := HGA.out; omega) _⟩
      | exact bodyPost_ret (results_cst rfl _ _ _ _ _ rfl (HR6.out _ _)) rfl ⟨by rw [HIN.out HD.out], below_setRow HG6.out (by have := HGA.out; omega) _⟩
def bestK (v : Vec) : Nat → Nat
  | 0 => 0
  | k + 1 => bestE (cost v) k
theorem bestK_step {v : Vec} (h0 : cost v 0 ≠ -1) {k : Nat} : bestK v (k + 1) = if cost v k ≠ -1 ∧ cost v k < cost v (bestK v k) then k else bestK v k := by
  cases k with
  | zero => show 0 = _; split <;> rfl
  | succ k => rfl
theorem cost_zero {v : Vec} (hok : okV v = true) : cost v 0 ≠ -1 := by
  have h := okT_in (okV_iff.1 hok).t
  have ha : apl 0 v.T = true := by
    unfold apl
    split
    · rfl
    · rw [if_pos (by omega)]; rfl
  unfold cost
  rw [if_pos ⟨hok, ha⟩]
  omega
theorem costL_get {v : Vec} {k : Nat} (h : k < (costL v).length) : (costL v)[k] = ((k : Int), cost v k) := by simp [costL]
def ChooseRel (w : World) (g : Nat) (v : Vec) (i : Value) (wr : World) : Prop :=
  ∃ k : Nat, k ≤ 6 ∧ i = .int .i64 (k : Int) ∧ Row wr g 38 [.int .i64 (bestK v k : Int), .int .i64 (cost v (bestK v k))] ∧ Grows w wr
set_option maxHeartbeats 8000000 in
theorem eChoose_any (x : Value) (v : Vec) (w : World) (hx : IsV w x v) (hs : Small v) (hok : okV v = true) :
    Calls Tryz.prog 16 #[x] w fun e w' => e = .returned (.int .i64 (chooseV v : Int)) ∧ Grows w w' := by
  have HCS := hidden (fun W (h : Grows w W) => eCosts_any x v W (hx.grow h) hs hok)
  have HC0 := hidden (cost_zero hok)
  obtain ⟨a1, a2, a3, rfl, i1, i2, i3⟩ := hx
  obtain ⟨A1, c1, rfl⟩ := i1.slice_
  obtain ⟨A2, c2, rfl⟩ := i2.slice_
  obtain ⟨A3, c3, rfl⟩ := i3.slice_
  generalize v.T = T at *
  generalize v.is.length = n1 at *
  generalize v.ts.length = n2 at *
  generalize v.ns.length = n3 at *
  have HG0 := hidden (growB w (.cells #[.int .i64 T, .slice A1 n1 c1, .slice A2 n2 c2, .slice A3 n3 c3] 26))
  clear i1 i2 i3 hs hok
  go_enter Tryz.func16, Tryz.ntmps16
  go_wp2_with fail
  refine (HCS.out _ HG0.out).mono ?_
  rintro e w2 ⟨u, rfl, g2, hu⟩
  obtain ⟨AU, cu, rfl⟩ := hu.slice_
  rw [costL_length] at hu ⊢
  obtain ⟨bu, fu, hAU, hcu⟩ := hu.at_
  obtain rfl := hAU (by rw [costL_length]; omega)
  have HCU := hidden (fun W (h : Grows w2 W) (k : Nat) (hk : k < 6) => show W.cell? ⟨bu, fu + k * 2, none⟩ = some (.int .i64 (k : Int)) ∧ W.cell? ⟨bu, fu + k * 2 + 1, none⟩ = some (.int .i64 (cost v k)) by
    have hl : k < (costL v).length := by rw [costL_length]; exact hk
    obtain ⟨h1, h2⟩ := hcu k hl
    rw [costL_get hl] at h1 h2
    exact ⟨(h.cell (World.block_lt_of_cell? _ _ h1)).trans h1, (h.cell (World.block_lt_of_cell? _ _ h2)).trans h2⟩)
  have HG2 := hidden (HG0.out.of_below g2)
  obtain ⟨hz0, hz1⟩ := HCU.out w2 (Below.refl _ _) 0 (by omega)
  simp only [Nat.zero_mul, Nat.add_zero, Int.natCast_zero] at hz0 hz1
  clear hu hcu hAU g2
  go_wp2_with fail
  go_loopw [7, 15] (fun u i wr => ChooseRel w w2.heap.size v i wr ∧ Grows w2 wr) (fun _ i _ => 6 - (intOf i).toNat)
  case atStart => exact ⟨⟨0, by omega, rfl, Row.new _ _ _ _ rfl, HG2.out.of_below (growB _ _)⟩, growB _ _⟩
  case round =>
    obtain ⟨⟨k, hk, rfl, hrow, hb⟩, hg2⟩ := hrel
    have HR := hidden hrow
    have HB := hidden hb
    have HG3 := hidden hg2
    have HSZ := hidden HG2.out.size
    by_cases hlt : k < 6
    · obtain ⟨hk0, hk1⟩ := HCU.out wr hg2 k hlt
      have HST := hidden (bestK_step (v := v) HC0.out (k := k))
      obtain ⟨c, hc⟩ : ∃ c, cost v k = c := ⟨_, rfl⟩
      obtain ⟨bb, hbb⟩ : ∃ b, bestK v k = b := ⟨_, rfl⟩
      obtain ⟨cb, hcb⟩ : ∃ c, cost v bb = c := ⟨_, rfl⟩
      rw [hc] at hk1
      rw [hbb, hcb] at HR
      rw [hc, hbb, hcb] at HST
      have HGA := hidden (growB wr (.cells #[.int .i64 (k : Int), .int .i64 c] 38))
      have HB1 := hidden (HB.out.of_below HGA.out)
      have HG31 := hidden (HG3.out.of_below HGA.out)
      have HR1 := hidden (HR.out.grow HGA.out)
      have HRB := hidden (show (wr.alloc (.cells #[.int .i64 (k : Int), .int .i64 c] 38)).heap[w2.heap.size]? = some (.cells #[.int .i64 (bb : Int), .int .i64 cb] 38 (0, 0)) from HR1.out)
      have HRN := hidden (Row.new wr 38 #[.int .i64 (k : Int), .int .i64 c] [.int .i64 (k : Int), .int .i64 c] rfl)
      by_cases hm : c = -1
      · have e1 : (c != -1) = false := by simpa using hm
        have HE := hidden (show bestK v (k + 1) = bb by rw [HST.out, if_neg (by simp [hm])])
        have HCB := hidden hcb
        subst hm
        clear hrow hb hg2 hc hbb hcb e1
        go_wp2_with fail
        go_roundw
        case rel => exact ⟨⟨k + 1, by omega, by go_num, by rw [HE.out, HCB.out]; exact HR1.out, HB1.out⟩, HG31.out⟩
        case measure => simp [intOf]; omega
      · have e1 : (c != -1) = true := by simpa using hm
        have HM := hidden hm
        have HSM := hidden (fun W => esmaller_any (bb : Int) cb (k : Int) c W)
        obtain ⟨r1, r2, hr, HN⟩ : ∃ r1 r2 : Int, (if c < cb then cstV (k : Int) c else cstV (bb : Int) cb) = cstV r1 r2 ∧ Hid ((bestK v (k + 1) : Int) = r1 ∧ cost v (bestK v (k + 1)) = r2) := by
          by_cases hlt2 : c < cb
          · exact ⟨k, c, if_pos hlt2, hidden ⟨by rw [HST.out, if_pos ⟨hm, hlt2⟩], by rw [HST.out, if_pos ⟨hm, hlt2⟩, hc]⟩⟩
          · exact ⟨bb, cb, if_neg hlt2, hidden ⟨by rw [HST.out, if_neg (fun h => hlt2 h.2)], by rw [HST.out, if_neg (fun h => hlt2 h.2), hcb]⟩⟩
        rw [hr] at HSM
        clear hrow hb hg2 hc hbb hcb hm hr
        go_wp2_with (first
          | (refine wpList_load_row rfl _ _ rfl _ rfl _ _ _ _ HRB.out Tryz.underlying38 rfl sizeCst ?_)
          | (refine wpList_load_row rfl _ _ rfl wr.heap.size rfl _ _ _ _ HRN.out Tryz.underlying38 rfl sizeCst ?_)
          | (go_at_call 38; refine (HSM.out _).mono ?_; rintro e w5 ⟨rfl, g5⟩; have HB5 := hidden (HB1.out.of_below g5); have HG5 := hidden (HG31.out.of_below g5); have HR5 := hidden (HR1.out.grow g5); have HRW := hidden (show w5.heap[w2.heap.size]? = some (.cells #[.int .i64 (bb : Int), .int .i64 cb] 38 (0, 0)) from HR5.out); have HRS := hidden (Row.setRow_ HR5.out [.int .i64 r1, .int .i64 r2] rfl); clear g5)
          | (refine wpList_store_row rfl _ _ _ rfl _ #[.int .i64 r1, .int .i64 r2] rfl rfl _ _ HRW.out sizeCst rfl (by simp [Value.oneCell']) ?_))
        go_roundw
        case rel => exact ⟨⟨k + 1, by omega, by go_num, by rw [HN.out.1, HN.out.2]; exact HRS.out, below_setRow HB5.out (by have := HSZ.out; omega) _⟩, below_setRow HG5.out (Nat.le_refl _) _⟩
        case measure => simp [intOf]; omega
    · have hke : k = 6 := by omega
      subst hke
      have hf0 := HR.out.cell 0
      simp only [List.getElem?_cons_zero] at hf0
      have HE := hidden (show (bestK v 6 : Int) = (chooseV v : Int) from rfl)
      generalize bestK v 6 = b6 at *
      clear hrow hb hg2
      go_wp2_with fail
      go_ret
      exact ⟨ret_eq HE.out, HB.out⟩
end Go.Proofs.YthmipnokimlbdaaGreat
