/-
  Texts that the claims of this seat share, put together (En9, EnA, EnE, EnC, EnD, Er4, Er6, Er7). No condition.
-/
import Derived.Test.YthmipnokimlbdaaGreatM18
import Derived.Test.YthmipnokimlbdaaGreatM15
import Derived.Test.YthmipnokimlbdaaGreatM20
import Derived.Test.YthmipnokimlbdaaGreatM17
import Derived.Test.YthmipnokimlbdaaGreatM13
import Derived.Deep.MidRow
import Derived.Test.YthmipnokimlbdaaGreatM14
import Derived.Test.YthmipnokimlbdaaGreatM7
import Derived.Test.YthmipnokimlbdaaGreatM11
import Derived.Test.YthmipnokimlbdaaGreatM6
import Derived.Deep.Cut
set_option linter.unusedVariables false
set_option linter.unusedSimpArgs false
namespace Go.Proofs.YthmipnokimlbdaaGreat
set_option maxRecDepth 8000
open Go.RowKit
structure Fine (v:Vec):Prop where
 li:v.is.length ≤ 65536
 lt:v.ts.length ≤ 65536
 ii:∀ x ∈ v.is,frIn x
 ss:∀ s ∈ v.ts,s.length ≤ 4096
theorem words_tot {l:List Str} (h:l.length ≤ 65536) (hs:∀ s ∈ l,s.length ≤ 4096):(wordsL l).length ≤ 1000000000:=by
 have h1:∀ (l:List Str),(∀ s ∈ l,s.length ≤ 4096) → (wordsL l).length ≤ 4106 * l.length:=by
  intro l
  induction l with
  | nil => intro _;simp [wordsL]
  | cons w r ih =>
    intro hs
    have e:wordsL (w :: r) = wordL w ++ wordsL r:=rfl
    have h1:=ih fun s h => hs s (by simp [h])
    have h2:=hs w (by simp)
    have h3:=enc_len10 (n:=w.length) (by omega)
    rw [e,List.length_append,List.length_cons]
    unfold wordL
    rw [List.length_append]
    omega
 have:=h1 l hs
 omega
theorem fnE_any (k:Nat) (T:Int) (u:Value) (l:List Int) (W:World) (hu:IsI W u l) (hl:l.length ≤ 65536) (hin:∀ x ∈ l,frIn x):Enters (fnE k T) ∧ Calls Tryz.prog (fnE k T) #[u] W (ByR (payI k T l) W):=by
 unfold fnE payI
 split
 ·split
  ·exact ⟨fun _ _ => rfl,eencodeBools_any u l W hu (by omega)⟩
  ·exact ⟨fun _ _ => rfl,byr_of_made (eencodeInts_any u l W hu (by omega))⟩
 ·split
  ·exact ⟨fun _ _ => rfl,eencodeRuns_any u l W hu hl hin⟩
  ·split
   ·exact ⟨fun _ _ => rfl,lencodeF_any u l W hu hl hin⟩
   ·exact ⟨fun _ _ => rfl,enc9_any u l W hu hl hin⟩
theorem fnS_any (k:Nat) (T:Int) (u:Value) (l:List Int) (W:World) (hu:IsI W u l) (hl:l.length ≤ 65536) (hin:∀ x ∈ l,frIn x):Enters (fnS k T) ∧ Calls Tryz.prog (fnS k T) #[u] W fun e w' => e = .returned (.int .i64 ((payI k T l).length:Int)) ∧ Grows W w':=by
 unfold fnS payI
 split
 ·split
  ·exact ⟨fun _ _ => rfl,(esizeBools_any u l W hu (by omega)).mono fun _ _ ⟨h,e⟩ => ⟨h,by rw [e];exact Below.refl _ _⟩⟩
  ·exact ⟨fun _ _ => rfl,(esizeInts_any u l W hu (by omega)).mono fun _ _ ⟨h,e⟩ => ⟨h,by rw [e];exact Below.refl _ _⟩⟩
 ·split
  ·exact ⟨fun _ _ => rfl,esizeRuns_any u l W hu hl hin⟩
  ·split
   ·refine ⟨fun _ _ => rfl,?_⟩
    have h:=size_anyF u l W hu hl hin
    rw [sizeV_len] at h
    exact h
   ·exact ⟨fun _ _ => rfl,size9_any u l W hu hl hin⟩
theorem fnD_any (k:Nat) (T:Int) (A:Option Addr) (c:Nat) (b:List UInt8) (n:Nat) (W:World) (hb:IsBytes W (.slice A b.length c) b) (hlc:b.length ≤ c) (h1:1 ≤ b.length) (hl:b.length ≤ 1000000) (hn:n ≤ 65536) :
 Enters (fnD k T) ∧ Calls Tryz.prog (fnD k T) #[.slice A b.length c,.int .i64 1,.int .i64 (n:Int)] W (LDecF (dI k T b n) W):=by
 unfold fnD dI
 split
 ·split
  ·exact ⟨fun _ _ => rfl,edecodeBools_any A c b 1 n W hb hlc hl h1 hn⟩
  ·exact ⟨fun _ _ => rfl,edecodeInts_any A c b 1 n W hb hl h1 hn⟩
 ·split
  ·exact ⟨fun _ _ => rfl,edecodeRuns_any _ b 1 n W hb hl h1 hn⟩
  ·split
   ·exact ⟨fun _ _ => rfl,ldecodeFF_any A c b 1 (n:Int) W hb hlc (by omega) (by omega) (by omega)⟩
   ·exact ⟨fun _ _ => rfl,dec9F_any A c b 1 (n:Int) W hb hlc (by omega) (by omega) (by omega)⟩
theorem ftE_any (k:Nat) (u:Value) (l:List Str) (W:World) (hu:IsS W u l) (hl:l.length ≤ 65536) (hs:∀ s ∈ l,s.length ≤ 4096):Enters (ftE k) ∧ Calls Tryz.prog (ftE k) #[u] W (ByR (payT k l) W):=by
 have hs6:∀ s ∈ l,s.length ≤ 1000000:=fun s h => by have:=hs s h;omega
 unfold ftE payT
 split
 ·exact ⟨fun _ _ => rfl,byr_of_made (eencodeTexts_any u l W hu (by omega) hs6 (words_tot hl hs))⟩
 ·split
  ·exact ⟨fun _ _ => rfl,byr_of_made (encode10_any u l W hu (by omega) hs6)⟩
  ·exact ⟨fun _ _ => rfl,byr_of_made (fencode_any u l W hu (by omega) hs6)⟩
theorem ftS_any (k:Nat) (u:Value) (l:List Str) (W:World) (hu:IsS W u l) (hl:l.length ≤ 65536) (hs:∀ s ∈ l,s.length ≤ 4096):Enters (ftS k) ∧ Calls Tryz.prog (ftS k) #[u] W fun e w' => e = .returned (.int .i64 ((payT k l).length:Int)) ∧ Grows W w':=by
 have hs6:∀ s ∈ l,s.length ≤ 1000000:=fun s h => by have:=hs s h;omega
 unfold ftS payT
 split
 ·exact ⟨fun _ _ => rfl,esizeTexts_any u l W hu (by omega) hs6⟩
 ·split
  ·exact ⟨fun _ _ => rfl,size10_any u l W hu (by omega) hs6⟩
  ·exact ⟨fun _ _ => rfl,fsize_any u l W hu (by omega) hs6⟩
theorem ftD_any (k:Nat) (A:Option Addr) (c:Nat) (b:List UInt8) (n:Nat) (W:World) (hb:IsBytes W (.slice A b.length c) b) (hlc:b.length ≤ c) (h1:1 ≤ b.length) (hl:b.length ≤ 1000000) (hn:n ≤ 65536) :
 Enters (ftD k) ∧ Calls Tryz.prog (ftD k) #[.slice A b.length c,.int .i64 1,.int .i64 (n:Int)] W (RsR (dT k b n) W):=by
 unfold ftD dT
 split
 ·exact ⟨fun _ _ => rfl,edecodeTexts_any A c b 1 n W hb hlc hl h1 hn⟩
 ·split
  ·exact ⟨fun _ _ => rfl,dec10_any A c b 1 (n:Int) W hb hlc (by omega) (by omega) (by omega)⟩
  ·exact ⟨fun _ _ => rfl,fdecode_any A c b 1 (n:Int) W hb hlc (by omega)⟩
def rawD (k:Nat) (T:Int) (b:List UInt8) (n:Nat):Vec × Int × Int:=
 if T = 3 then (⟨0,[],(dT k b n).1,[]⟩,(dT k b n).2.1,(dT k b n).2.2) else (⟨0,(dI k T b n).1,[],[]⟩,(dI k T b n).2.1,(dI k T b n).2.2)
structure Use (k:Nat) (T:Int) (w:World) (F1 F2 F3:FuncId) (be bs bd bp:Nat):Prop where
 e1:Enters F1
 e2:Enters F2
 e3:Enters F3
 enc:∀ W,Grows w W → ∀ x v,IsV W x v → v.T = T → Fine v → Calls Tryz.prog F1 #[x,ptV be,ptV bp] W (ByR (pay k v) W)
 size:∀ W,Grows w W → ∀ x v,IsV W x v → v.T = T → Fine v → Calls Tryz.prog F2 #[x,ptV bs,ptV bp] W fun e w' => e = .returned (.int .i64 ((pay k v).length:Int)) ∧ Grows W w'
 dec:∀ W,Grows w W → ∀ A c (b:List UInt8) (n:Nat),IsBytes W (.slice A b.length c) b → b.length ≤ c → 1 ≤ b.length → b.length ≤ 1000000 → n ≤ 65536 →
  Calls Tryz.prog F3 #[.slice A b.length c,.int .i64 1,.int .i64 (n:Int),ptV bd,ptV bp] W fun e w' => ∃ x,e = .returned (.tuple #[x,.int .i64 (rawD k T b n).2.1,.int .i64 (rawD k T b n).2.2]) ∧ IsV w' x (rawD k T b n).1 ∧ Grows W w' ∧ FreshX W.heap.size w' x
theorem codec_use {k:Nat} {T:Int} {x:Value} {w:World} (h:CodecR k T x w) :
 ∃ F1 F2 F3 be bs bd bp,x = .agg #[.func (.func F1) #[] #[ptV be,ptV bp],.func (.func F2) #[] #[ptV bs,ptV bp],.func (.func F3) #[] #[ptV bd,ptV bp]] ∧ Use k T w F1 F2 F3 be bs bd bp:=by
 have h00:∀ x ∈ ([]:List Int),frIn x:=fun _ h => by cases h
 have h01:∀ s ∈ ([]:List Str),s.length ≤ 4096:=fun _ h => by cases h
 unfold CodecR at h
 by_cases hT:T = 3
 ·rw [if_pos hT] at h
  obtain ⟨be,bs,bd,bp,h0,h1,h2,h3,h4⟩:=h
  refine ⟨_,_,_,be,bs,bd,bp,h0,fun _ _ => rfl,fun _ _ => rfl,fun _ _ => rfl,?_,?_,?_⟩
  ·intro W hW x v hx hv hf
   have e:pay k v = payT k v.ts:=by unfold pay;rw [hv,if_pos hT]
   rw [e]
   exact elit1T_any _ (ftE_any k _ [] W (Reads.nil_ W 0) (by simp) h01).1 be bp W (h1.grow hW) (h4.grow hW) x v hx _ (fun W' hW' u hu => (ftE_any k u v.ts W' hu hf.lt hf.ss).2)
  ·intro W hW x v hx hv hf
   have e:pay k v = payT k v.ts:=by unfold pay;rw [hv,if_pos hT]
   rw [e]
   exact elit2T_any _ (ftS_any k _ [] W (Reads.nil_ W 0) (by simp) h01).1 bs bp W (h2.grow hW) (h4.grow hW) x v hx _ (fun W' hW' u hu => (ftS_any k u v.ts W' hu hf.lt hf.ss).2)
  ·intro W hW A c b n hb hlc hb1 hl hn
   unfold rawD
   rw [if_pos hT]
   exact elit3T_any _ (ftD_any k A c b n W hb hlc hb1 hl hn).1 bd bp W (h3.grow hW) (h4.grow hW) A b.length c 1 (n:Int) _ _ _ (fun W' hW' => (ftD_any k A c b n W' (hb.grow hW') hlc hb1 hl hn).2.mono fun _ _ ⟨u,he,hg,hs⟩ => ⟨u,he,hs,hg⟩)
 ·rw [if_neg hT] at h
  obtain ⟨be,bs,bd,bp,h0,h1,h2,h3,h4⟩:=h
  refine ⟨_,_,_,be,bs,bd,bp,h0,fun _ _ => rfl,fun _ _ => rfl,fun _ _ => rfl,?_,?_,?_⟩
  ·intro W hW x v hx hv hf
   have e:pay k v = payI k T v.is:=by unfold pay;rw [hv,if_neg hT]
   rw [e]
   exact elit1I_any _ (fnE_any k T _ [] W (Reads.nil_ W 0) (by simp) h00).1 be bp W (h1.grow hW) (h4.grow hW) x v hx _ (fun W' hW' u hu => (fnE_any k T u v.is W' hu hf.li hf.ii).2)
  ·intro W hW x v hx hv hf
   have e:pay k v = payI k T v.is:=by unfold pay;rw [hv,if_neg hT]
   rw [e]
   exact elit2I_any _ (fnS_any k T _ [] W (Reads.nil_ W 0) (by simp) h00).1 bs bp W (h2.grow hW) (h4.grow hW) x v hx _ (fun W' hW' u hu => (fnS_any k T u v.is W' hu hf.li hf.ii).2)
  ·intro W hW A c b n hb hlc hb1 hl hn
   unfold rawD
   rw [if_neg hT]
   exact elit3I_any _ (fnD_any k T A c b n W hb hlc hb1 hl hn).1 bd bp W (h3.grow hW) (h4.grow hW) A b.length c 1 (n:Int) _ _ _ (fun W' hW' => (fnD_any k T A c b n W' (hb.grow hW') hlc hb1 hl hn).2)
theorem wpList_store_cod {wr:World} {ops:Array Oper} {rest:List Oper} {o:Oper} {a:Act} {Q:Exit → Act → World → Prop} (hgd:o.guard = none) (x y:Operand) (ho:o.op = .store 72 x y)
 (w0:World) (hw:wr = w0.alloc (.cells #[.nilFunc,.nilFunc,.nilFunc] 72)) (hx:a.eval x = ptV w0.heap.size) (a1 a2 a3:Value) (hy:a.eval y = .agg #[a1,a2,a3]) (h1:(a1.oneCell' && a2.oneCell' && a3.oneCell') = true)
 (h:∀ W,Row W w0.heap.size 72 [a1,a2,a3] → Grows w0 W → wpList Tryz.prog ops Q rest (a.put o.dst undef) W):wpList Tryz.prog ops Q (o :: rest) a wr:=by
 subst hw
 have hr:=Row.new w0 72 #[.nilFunc,.nilFunc,.nilFunc] [.nilFunc,.nilFunc,.nilFunc] rfl
 refine wpList_store_row hgd _ x y ho w0.heap.size #[a1,a2,a3] hx hy _ _ hr sizeCod rfl (by simpa [Bool.and_assoc] using h1) (h _ (Row.setRow_ hr [a1,a2,a3] rfl) (below_setRow (growB _ _) (Nat.le_refl _) _))
theorem IsBytes.one_ (w:World) (c:UInt8) (z:Int) (hz:(c.toNat:Int) = z):IsBytes (w.alloc (.cells #[.int .u8 z] 5)) (.slice (some ⟨w.heap.size,0,none⟩) [c].length 1) [c]:=by
 subst hz
 have hr:=Row.new w 5 #[.int .u8 (c.toNat:Int)] (bcells [c]) rfl
 exact Reads.bytes (Reads.of_row hr 1 1 rfl (Nat.le_refl _))
def EncR (r:List UInt8 × Int) (w:World) (e:Ending) (w':World):Prop:=∃ u,e = .returned (.tuple #[u,.int .i64 r.2]) ∧ Grows w w' ∧ CapV r.1 u w'
theorem EncR.no {r:List UInt8 × Int} {f:Int} {w w':World} (h:r = ([],f)) (hg:Grows w w'):EncR r w (.returned (.tuple #[.slice none 0 0,.int .i64 f])) w':=by
 subst h
 exact ⟨_,rfl,hg,none,0,rfl,Nat.le_refl _,IsBytes.nil_ _⟩
theorem EncR.yes {r:List UInt8 × Int} {L:List UInt8} {u:Value} {w w':World} (h:r = (L,0)) (hg:Grows w w') (hc:CapV L u w'):EncR r w (.returned (.tuple #[u,.int .i64 0])) w':=by
 subst h
 exact ⟨_,rfl,hg,hc⟩
theorem Small.fine {v:Vec} (h:Small v) (hc:Encable v):Fine v:=by
 obtain ⟨h1,h2,h3,h4⟩:=h
 have hl:=hc.len
 refine ⟨?_,?_,h4,hc.texts⟩
 ·by_cases hT:v.T = 3
  ·rw [(hc.lt hT).2];simp
  ·have:=(hc.li hT).1;omega
 ·by_cases hT:v.T = 3
  ·have:=(hc.lt hT).1;omega
  ·rw [(hc.li hT).2];simp
theorem Encable.small {v:Vec} (h:Encable v) (hin:∀ x ∈ v.is,frIn x):Small v:=by
 have hl:=h.len
 refine ⟨?_,?_,by omega,hin⟩
 ·by_cases hT:v.T = 3
  ·rw [(h.lt hT).2];simp
  ·have:=(h.li hT).1;omega
 ·by_cases hT:v.T = 3
  ·have:=(h.lt hT).1;omega
  ·rw [(h.li hT).2];simp
theorem pay_len {k:Nat} {v:Vec} (h:Fine v):(pay k v).length ≤ 100000000000000:=by
 have h1:=h.li
 have h2:=h.lt
 have hs6:∀ s ∈ v.ts,s.length ≤ 1000000:=fun s hs => by have:=h.ss s hs;omega
 unfold pay
 split
 ·unfold payT
  split
  ·have:=words_tot h.lt h.ss;omega
  ·split
   ·have:=encT_len (vs:=v.ts) (by omega) hs6;omega
   ·have h1:=encK_len (M:=4096) h.ss (by omega) v.ts.length;unfold fcEnc;omega
 ·unfold payI
  split
  ·split
   ·rw [plB_length];have:=szB_le (n:=v.is.length) (w:=1) (by omega) (by omega);omega
   ·rw [plI_length];omega
  ·split
   ·have:=encR_len_le (runsR v.is)
    have:=valid_length (runs_valid h.li)
    omega
   ·split
    ·have:=encV_len v.is;omega
    ·have:=dlEnc_le v.is;omega
set_option maxHeartbeats 8000000 in
theorem eEncode_any (x:Value) (v:Vec) (kind:Int) (w:World) (hx:IsV w x v) (hs:Small v) :
 Calls Tryz.prog 11 #[x,.int .i64 kind] w (EncR (encFV v kind) w):=by
 have HEC:=Hd (fun W (h:Grows w W) => encodable_any x v W (hx.grow h) hs)
 have HV:=Hd hx
 have HS:=Hd hs
 obtain ⟨a1,a2,a3,rfl,i1,i2,i3⟩:=hx
 obtain ⟨A1,c1,rfl⟩:=i1.slice_
 obtain ⟨A2,c2,rfl⟩:=i2.slice_
 obtain ⟨A3,c3,rfl⟩:=i3.slice_
 obtain ⟨T,hT⟩:∃ T,v.T = T:=⟨_,rfl⟩
 rw [hT] at HEC HV ⊢
 obtain ⟨n1,hn1⟩:∃ n,v.is.length = n:=⟨_,rfl⟩
 obtain ⟨n2,hn2⟩:∃ n,v.ts.length = n:=⟨_,rfl⟩
 obtain ⟨n3,hn3⟩:∃ n,v.ns.length = n:=⟨_,rfl⟩
 rw [hn1,hn2,hn3] at HEC HV ⊢
 have HT:=Hd hT
 have HG0:=Hd (growB w (.cells #[.int .i64 T,.slice A1 n1 c1,.slice A2 n2 c2,.slice A3 n3 c3] 26))
 have HR0:=Hd (Row.new w 26 #[.int .i64 T,.slice A1 n1 c1,.slice A2 n2 c2,.slice A3 n3 c3] [.int .i64 T,.slice A1 n1 c1,.slice A2 n2 c2,.slice A3 n3 c3] rfl)
 have HEC:=Hd (HEC.out _ HG0.out)
 clear i1 i2 i3 hn1 hn2 hn3 hT hs
 obtain ⟨ok,hok⟩:∃ b,okV v = b:=⟨_,rfl⟩
 rw [hok] at HEC
 cases ok
 ·have HE:=Hd (show encFV v kind = ([],1) from if_pos (.inl hok))
  clear hok
  go_enter Tryz.func11,Tryz.ntmps11
  go_wp2_with fail
  refine HEC.out.mono ?_
  rintro e w2 ⟨rfl,g2⟩
  have HG2:=Hd (HG0.out.of_below g2)
  clear g2
  go_wp2_with fail
  go_ret2
  exact EncR.no HE.out HG2.out
 have HOK:=Hd hok
 clear hok
 by_cases hk0:kind < 0
 ·have HE:=Hd (show encFV v kind = ([],1) from if_pos (.inr (.inl hk0)))
  have e1:decide (kind < 0) = true:=by simpa using hk0
  clear hk0
  go_enter Tryz.func11,Tryz.ntmps11
  go_wp2_with fail
  refine HEC.out.mono ?_
  rintro e w2 ⟨rfl,g2⟩
  have HG2:=Hd (HG0.out.of_below g2)
  clear g2
  go_wp2_with fail
  go_ret2
  exact EncR.no HE.out HG2.out
 have e1:decide (kind < 0) = false:=by simpa using hk0
 by_cases hk6:6 ≤ kind
 ·have HE:=Hd (show encFV v kind = ([],1) from if_pos (.inr (.inr hk6)))
  have e2:decide (6 ≤ kind) = true:=by simpa using hk6
  clear hk0 hk6
  go_enter Tryz.func11,Tryz.ntmps11
  go_wp2_with fail
  refine HEC.out.mono ?_
  rintro e w2 ⟨rfl,g2⟩
  have HG2:=Hd (HG0.out.of_below g2)
  clear g2
  go_wp2_with fail
  go_ret2
  exact EncR.no HE.out HG2.out
 have e2:decide (6 ≤ kind) = false:=by simpa using hk6
 obtain ⟨k,rfl⟩:=Int.eq_ofNat_of_zero_le (show 0 ≤ kind by omega)
 have HF:=Hd (fun W => efind_any k T W)
 have hne:¬ (okV v = false ∨ (k:Int) < 0 ∨ 6 ≤ (k:Int)):=by rw [HOK.out];simp;omega
 have hk5:k ≤ 255:=by omega
 obtain ⟨b,hb⟩:∃ b,apl k T = b:=⟨_,rfl⟩
 rw [hb] at HF
 cases b
 ·have HE:=Hd (show encFV v k = ([],7) by unfold encFV;rw [if_neg hne,Int.toNat_natCast,HT.out,if_pos hb])
  clear hk0 hk6 hb hne
  go_enter Tryz.func11,Tryz.ntmps11
  go_wp2_with fail
  refine HEC.out.mono ?_
  rintro e w2 ⟨rfl,g2⟩
  have HG2:=Hd (HG0.out.of_below g2)
  have HR2:=Hd (HR0.out.grow g2)
  have hT2:=HR2.out.cell 0
  simp only [List.getElem?_cons_zero] at hT2
  clear g2
  go_wp2_with fail
  refine (HF.out _).mono ?_
  rintro e w3 ⟨a1,a2,a3,rfl,hone,_,g3⟩
  have HG3:=Hd (HG2.out.of_below g3)
  have HONE:=Hd hone
  clear g3 hone
  go_wp2_with (refine wpList_store_cod rfl _ _ rfl w3 rfl rfl a1 a2 a3 rfl HONE.out ?_;intro w4 hr4 hg4;have HG4:=Hd (HG3.out.of_below hg4);clear hr4 hg4)
  go_ret2
  exact EncR.no HE.out HG4.out
 ·have HE:=Hd (show encFV v k = (formE k v,0) by unfold encFV;rw [if_neg hne,Int.toNat_natCast,HT.out,if_neg (by rw [hb];simp)])
  have hfine:=HS.out.fine (okV_iff.1 HOK.out)
  have HPL:=Hd (pay_len (k:=k) hfine)
  have HFN:=Hd hfine
  have hcv:IntKind.u8.wrap (k:Int) = ((UInt8.ofNat k).toNat:Int):=by
   rw [UInt8.toNat_ofNat',Nat.mod_eq_of_lt (by omega)]
   simp only [IntKind.wrap,IntKind.bits,IntKind.signed];simp;omega
  have hkk:((UInt8.ofNat k).toNat:Int) = (k:Int):=by rw [UInt8.toNat_ofNat',Nat.mod_eq_of_lt (by omega)]
  have HKK:=Hd hkk
  have HFE:=Hd (show formE k v = [UInt8.ofNat k] ++ pay k v from rfl)
  clear hk0 hk6 hb hne hfine hcv hkk
  go_enter Tryz.func11,Tryz.ntmps11
  go_wp2_with fail
  refine HEC.out.mono ?_
  rintro e w2 ⟨rfl,g2⟩
  have HG2:=Hd (HG0.out.of_below g2)
  have HR2:=Hd (HR0.out.grow g2)
  have hT2:=HR2.out.cell 0
  simp only [List.getElem?_cons_zero] at hT2
  clear g2
  go_wp2_with fail
  refine (HF.out _).mono ?_
  rintro e w3 ⟨a1,a2,a3,rfl,hone,hcod,g3⟩
  have HONE:=Hd hone
  obtain ⟨F1,F2,F3,be,bs,bd,bp,hx,hu⟩:=codec_use (hcod rfl)
  injection hx with hx
  obtain ⟨rfl,rfl,rfl⟩:a1 = _ ∧ a2 = _ ∧ a3 = _:=by simpa using hx
  have HU:=Hd hu
  have HG3:=Hd (HG2.out.of_below g3)
  have HR3:=Hd (HR2.out.grow g3)
  clear g3 hone hx hu hcod hT2
  have hF1:=HU.out.e1
  have HVX:=Hd (HV.out.grow (HG0.out))
  go_wp2_with (first
   | (refine wpList_store_cod rfl _ _ rfl w3 rfl rfl _ _ _ rfl HONE.out ?_;intro w4 hr4 hg4;have hg5:=growB w4 (.cells #[.int .u8 (k:Int)] 5);have hc5:=(hr4.grow hg5).cell 0;simp only [List.getElem?_cons_zero] at hc5;have HG35:=Hd (hg4.of_below hg5);have HG5:=Hd (HG3.out.of_below HG35.out);have HR5:=Hd (show (w4.alloc (.cells #[.int .u8 (k:Int)] 5)).heap[w.heap.size]? = some (.cells #[.int .i64 T,.slice A1 n1 c1,.slice A2 n2 c2,.slice A3 n3 c3] 26 (0,0)) from HR3.out.grow HG35.out);clear hr4 hg4 hg5)
   | (refine wpList_load_row rfl _ _ rfl _ rfl _ _ _ _ HR5.out Tryz.underlying26 rfl sizeVec ?_))
  refine (HU.out.enc _ HG35.out _ v (HV.out.grow HG5.out) HT.out HFN.out).mono ?_
  rintro e w6 ⟨u,rfl,g6,hb6⟩
  obtain ⟨A6,c6,rfl,_⟩:=id hb6
  have HB6:=Hd hb6
  have HG6:=Hd (HG5.out.of_below g6)
  have HK6:=Hd (IsBytes.grow (IsBytes.one_ w4 (UInt8.ofNat k) (k:Int) HKK.out) g6)
  clear g6 hb6 hc5
  generalize pay k v = P at *
  have HPN:=Hd (IsParts.new2 HK6.out HB6.out 29)
  obtain ⟨n6,hn6⟩:∃ n6,P.length = n6:=⟨_,rfl⟩
  rw [hn6] at HPN ⊢
  have HPN:=Hd (show IsParts (w6.alloc (.cells #[.slice (some ⟨w4.heap.size,0,none⟩) 1 1,.slice A6 n6 c6] 29)) _ _ from HPN.out)
  have HN6:=Hd hn6
  clear hn6
  go_wp2_with fail
  refine (concat_any _ [[UInt8.ofNat k],P] _ HPN.out (by simp [maxLen]) (by have:=HPL.out;simp only [total,List.flatten_cons,List.flatten_nil,List.append_nil,List.length_append,List.length_singleton];omega)).mono ?_
  rintro e w7 ⟨u7,rfl,hown7,g7⟩
  have HC7:=Hd (show CapV ([UInt8.ofNat k] ++ P) u7 w7 by have h:=capV_own hown7;simpa using h)
  have HG7:=Hd ((HG6.out.of_below (growB _ _)).of_below g7)
  clear hown7 g7
  go_wp2_with fail
  go_ret2
  exact EncR.yes HE.out HG7.out (by rw [HFE.out];exact HC7.out)
def DecV (r:Vec × Int × Int) (w:World) (e:Ending) (w':World):Prop:=∃ x,e = .returned (.tuple #[x,.int .i64 r.2.1,.int .i64 r.2.2]) ∧ IsV w' x r.1 ∧ Grows w w'
theorem DecV.no {r:Vec × Int × Int} {f:Int} {w w':World} (h:r = (zeroV,0,f)) (hg:Grows w w'):DecV r w (.returned (.tuple #[.agg #[.int .i64 0,.slice none 0 0,.slice none 0 0,.slice none 0 0],.int .i64 0,.int .i64 f])) w':=by
 subst h
 exact ⟨_,rfl,⟨_,_,_,rfl,Reads.nil_ _ 0,Reads.nil_ _ 0,Reads.nil_ _ 0⟩,hg⟩
theorem wpList_store_vec {wr:World} {ops:Array Oper} {rest:List Oper} {o:Oper} {a:Act} {Q:Exit → Act → World → Prop} (hgd:o.guard = none) (x y:Operand) (ho:o.op = .store 26 x y)
 (w0:World) (hw:wr = w0.alloc (.cells #[.int .i64 0,.slice none 0 0,.slice none 0 0,.slice none 0 0] 26)) (hx:a.eval x = ptV w0.heap.size) (t:Int) (A1 A2 A3:Option Addr) (n1 c1 n2 c2 n3 c3:Nat)
 (hy:a.eval y = .agg #[.int .i64 t,.slice A1 n1 c1,.slice A2 n2 c2,.slice A3 n3 c3])
 (h:∀ W,Row W w0.heap.size 26 [.int .i64 t,.slice A1 n1 c1,.slice A2 n2 c2,.slice A3 n3 c3] → Grows w0 W → wpList Tryz.prog ops Q rest (a.put o.dst undef) W):wpList Tryz.prog ops Q (o :: rest) a wr:=by
 subst hw
 have hr:=Row.new w0 26 #[.int .i64 0,.slice none 0 0,.slice none 0 0,.slice none 0 0] [.int .i64 0,.slice none 0 0,.slice none 0 0,.slice none 0 0] rfl
 exact wpList_store_row hgd _ x y ho w0.heap.size #[.int .i64 t,.slice A1 n1 c1,.slice A2 n2 c2,.slice A3 n3 c3] hx hy _ _ hr sizeVec rfl (by simp [Value.oneCell']) (h _ (Row.setRow_ hr [.int .i64 t,.slice A1 n1 c1,.slice A2 n2 c2,.slice A3 n3 c3] rfl) (below_setRow (growB _ _) (Nat.le_refl _) _))
theorem Reads.other_row {w:World} {v:Value} {xs:List Value} (h:Reads w v xs) {g:Nat} (hb:∀ b o s n c,v = .slice (some ⟨b,o,s⟩) n c → b ≠ g) (cs:Array Value):Reads (w.setRow g cs) v xs:=by
 obtain ⟨A,d,rfl,hle,hcell⟩:=h
 refine ⟨A,d,rfl,hle,fun hl => ?_⟩
 obtain ⟨q,off,rfl,hq⟩:=hcell hl
 refine ⟨q,off,rfl,fun j hj => ?_⟩
 rw [← hq j hj]
 exact World.cell?_of_block (setRow_other w g q cs (hb _ _ _ _ _ rfl))
theorem Reads.not_row {w:World} {v:Value} {xs:List Value} (h:Reads w v xs) {g:Nat} {e:TypeId} {t a b c:Value} (h0:Row w g e [t,a,b,c]) (hx:∀ x ∈ xs,x ≠ t ∧ x ≠ a ∧ x ≠ b ∧ x ≠ c) (cs:Array Value):Reads (w.setRow g cs) v xs:=by
 obtain ⟨A,d,rfl,hle,hcell⟩:=h
 refine ⟨A,d,rfl,hle,fun hl => ?_⟩
 obtain ⟨q,off,rfl,hq⟩:=hcell hl
 refine ⟨q,off,rfl,fun j hj => ?_⟩
 have hj1:=hq j hj
 have hne:q ≠ g:=by
  rintro rfl
  rw [h0.cell (off + j)] at hj1
  obtain ⟨x,hxj,hxm⟩:∃ x,xs[j]? = some x ∧ x ∈ xs:=⟨_,List.getElem?_eq_getElem hj,List.getElem_mem hj⟩
  rw [hxj] at hj1
  obtain ⟨e1,e2,e3,e4⟩:=hx x hxm
  match off + j,hj1 with
  | 0,hj1 => simp at hj1;exact e1 hj1.symm
  | 1,hj1 => simp at hj1;exact e2 hj1.symm
  | 2,hj1 => simp at hj1;exact e3 hj1.symm
  | 3,hj1 => simp at hj1;exact e4 hj1.symm
  | k + 4,hj1 => simp at hj1
 rw [← hj1]
 exact World.cell?_of_block (setRow_other w g q cs hne)
theorem DecV.yes {r:Vec × Int × Int} {v:Vec} {q:Int} {w w':World} {x:Value} (h:r = (v,q,0)) (hx:IsV w' x v) (hg:Grows w w'):DecV r w (.returned (.tuple #[x,.int .i64 q,.int .i64 0])) w':=by
 subst h
 exact ⟨_,rfl,hx,hg⟩
def DecI (r:Vec × Int × Int) (w:World) (e:Ending) (w':World):Prop:=∃ t a b c,e = .returned (.tuple #[.agg #[t,a,b,c],.int .i64 r.2.1,.int .i64 r.2.2]) ∧ IsV w' (.agg #[t,a,b,c]) r.1 ∧ Grows w w' ∧ IntB w' a
theorem DecI.no {r:Vec × Int × Int} {f:Int} {w w':World} (h:r = (zeroV,0,f)) (hg:Grows w w'):DecI r w (.returned (.tuple #[.agg #[.int .i64 0,.slice none 0 0,.slice none 0 0,.slice none 0 0],.int .i64 0,.int .i64 f])) w':=by
 subst h
 exact ⟨_,_,_,_,rfl,⟨_,_,_,rfl,Reads.nil_ _ 0,Reads.nil_ _ 0,Reads.nil_ _ 0⟩,hg,IntB.none_ _ _ _⟩
theorem DecI.yes {r:Vec × Int × Int} {v:Vec} {q:Int} {w w':World} {t a b c:Value} (h:r = (v,q,0)) (hx:IsV w' (.agg #[t,a,b,c]) v) (hg:Grows w w') (hi:IntB w' a):DecI r w (.returned (.tuple #[.agg #[t,a,b,c],.int .i64 q,.int .i64 0])) w':=by
 subst h
 exact ⟨_,_,_,_,rfl,hx,hg,hi⟩
theorem drawn_grows {w w':World} (h:Grows w w'):Grows w w'.drew:=h.of_below ⟨rfl,rfl,rfl,Nat.le_refl _,fun _ _ => rfl⟩
set_option maxHeartbeats 8000000 in
theorem eDecodeI_any (A:Option Addr) (c:Nat) (b:List UInt8) (T n:Int) (w:World) (hb:IsBytes w (.slice A b.length c) b) (hlc:b.length ≤ c) (hl:b.length ≤ 1000000) :
 Calls Tryz.prog 18 #[.slice A b.length c,.int .i64 T,.int .i64 n] w (DecI (decF b T n) w):=by
 have HV:=Hd hb
 have HVT:=Hd (fun W => evalidType_any T W)
 have HG0:=Hd (growB w (.cells #[.int .i64 0,.slice none 0 0,.slice none 0 0,.slice none 0 0] 26))
 have HR0:=Hd (Row.new w 26 #[.int .i64 0,.slice none 0 0,.slice none 0 0,.slice none 0 0] [.int .i64 0,.slice none 0 0,.slice none 0 0,.slice none 0 0] rfl)
 have HRW:Hid ((w.alloc (.cells #[.int .i64 0,.slice none 0 0,.slice none 0 0,.slice none 0 0] 26)).heap[w.heap.size]? = some (.cells #[.int .i64 0,.slice none 0 0,.slice none 0 0,.slice none 0 0] 26 (0,0))):=HR0.out
 have HRS:=Hd (Row.setRow_ HR0.out [.int .i64 0,.slice none 0 0,.slice none 0 0,.slice none 0 0] rfl)
 obtain ⟨t,ht⟩:∃ t,okT T = t:=⟨_,rfl⟩
 rw [ht] at HVT
 cases t
 ·have HE:=Hd (show decF b T n = (zeroV,0,1) from if_pos (.inl ht))
  clear ht hb
  go_enter Tryz.func18,Tryz.ntmps18
  go_wp2_with (first
   | (go_at_call 39;refine (HVT.out _).mono ?_;rintro e w2 ⟨rfl,rfl⟩)
   | (refine wpList_store_row rfl _ _ _ rfl _ #[.int .i64 0,.slice none 0 0,.slice none 0 0,.slice none 0 0] rfl rfl _ _ HRW.out sizeVec rfl (by simp [Value.oneCell']) ?_))
  exact bodyPost_ret (results_vec3 rfl _ _ _ _ _ _ _ (.int .i64 0) (.int .i64 1) rfl HRS.out rfl rfl) rfl (DecI.no HE.out (below_setRow HG0.out (Nat.le_refl _) _))
 by_cases h1:n < 0
 ·have HE:=Hd (show decF b T n = (zeroV,0,1) from if_pos (.inr (.inl h1)))
  have e1:decide (n < 0) = true:=by simpa using h1
  clear ht hb h1
  go_enter Tryz.func18,Tryz.ntmps18
  go_wp2_with (first
   | (go_at_call 39;refine (HVT.out _).mono ?_;rintro e w2 ⟨rfl,rfl⟩)
   | (refine wpList_store_row rfl _ _ _ rfl _ #[.int .i64 0,.slice none 0 0,.slice none 0 0,.slice none 0 0] rfl rfl _ _ HRW.out sizeVec rfl (by simp [Value.oneCell']) ?_))
  exact bodyPost_ret (results_vec3 rfl _ _ _ _ _ _ _ (.int .i64 0) (.int .i64 1) rfl HRS.out rfl rfl) rfl (DecI.no HE.out (below_setRow HG0.out (Nat.le_refl _) _))
 have e1:decide (n < 0) = false:=by simpa using h1
 by_cases h2:65536 < n
 ·have HE:=Hd (show decF b T n = (zeroV,0,1) from if_pos (.inr (.inr h2)))
  have e2:decide (65536 < n) = true:=by simpa using h2
  clear ht hb h1 h2
  go_enter Tryz.func18,Tryz.ntmps18
  go_wp2_with (first
   | (go_at_call 39;refine (HVT.out _).mono ?_;rintro e w2 ⟨rfl,rfl⟩)
   | (refine wpList_store_row rfl _ _ _ rfl _ #[.int .i64 0,.slice none 0 0,.slice none 0 0,.slice none 0 0] rfl rfl _ _ HRW.out sizeVec rfl (by simp [Value.oneCell']) ?_))
  exact bodyPost_ret (results_vec3 rfl _ _ _ _ _ _ _ (.int .i64 0) (.int .i64 1) rfl HRS.out rfl rfl) rfl (DecI.no HE.out (below_setRow HG0.out (Nat.le_refl _) _))
 have e2:decide (65536 < n) = false:=by simpa using h2
 obtain ⟨N,rfl⟩:=Int.eq_ofNat_of_zero_le (show 0 ≤ n by omega)
 have HNE:=Hd (show ¬ (okT T = false ∨ (N:Int) < 0 ∨ 65536 < (N:Int)) by rw [ht];simp;omega)
 have hN:N ≤ 65536:=by omega
 have HT:=Hd ht
 clear ht
 by_cases h3:b.length = 0
 ·have HE:=Hd (show decF b T N = (zeroV,0,2) by unfold decF;rw [if_neg HNE.out,if_pos h3])
  have hb0:b = []:=List.eq_nil_of_length_eq_zero h3
  subst hb0
  clear hb h1 h2 h3
  go_enter Tryz.func18,Tryz.ntmps18
  go_wp2_with (first
   | (go_at_call 39;refine (HVT.out _).mono ?_;rintro e w2 ⟨rfl,rfl⟩)
   | (refine wpList_store_row rfl _ _ _ rfl _ #[.int .i64 0,.slice none 0 0,.slice none 0 0,.slice none 0 0] rfl rfl _ _ HRW.out sizeVec rfl (by simp [Value.oneCell']) ?_))
  exact bodyPost_ret (results_vec3 rfl _ _ _ _ _ _ _ (.int .i64 0) (.int .i64 2) rfl HRS.out rfl rfl) rfl (DecI.no HE.out (below_setRow HG0.out (Nat.le_refl _) _))
 have e3:((b.length:Int) == 0) = false:=by rw [beq_eq_false_iff_ne];omega
 have e3':(b.length == 0) = false:=by rw [beq_eq_false_iff_ne];omega
 obtain ⟨k,hk⟩:∃ k,(b.getD 0 0).toNat = k:=⟨_,rfl⟩
 have hbk:b[0]? = some (b.getD 0 0):=by cases b with | nil => simp at h3 | cons x r => rfl
 obtain ⟨bb,ff,rfl⟩:=some_of_bytes hb (by omega)
 have hcell:w.cell? ⟨bb,ff,none⟩ = some (.int .u8 (k:Int)):=by
  obtain ⟨A',c',he,hc⟩:=hb
  injection he with e1 _ _
  obtain ⟨b',f',h1,hcc⟩:=hc (by omega)
  rw [h1] at e1
  injection e1 with e1
  injection e1 with e1 e2 _
  subst e1 e2
  have h:=hcc 0 (by omega)
  rw [List.getElem?_eq_getElem (by omega)] at hbk
  injection hbk with hbk
  rw [hbk,hk] at h
  exact h
 have hk8:k ≤ 255:=by rw [← hk];have:=(b.getD 0 0).toNat_lt;omega
 have HF:=Hd (fun W => efind_any k T W)
 have HB1:=Hd (show 1 ≤ b.length by omega)
 have hcell1:=(HG0.out.cell (World.block_lt_of_cell? _ _ hcell)).trans hcell
 obtain ⟨L,hL⟩:∃ L,L = b.length:=⟨_,rfl⟩
 obtain ⟨ap,hap⟩:∃ b,apl k T = b:=⟨_,rfl⟩
 rw [hap] at HF
 cases ap
 ·have HE:=Hd (show decF b T N = (zeroV,0,4) by unfold decF;rw [if_neg HNE.out,if_neg h3,hk,if_pos hap])
  clear hb h1 h2 h3 hk hbk hap hcell
  go_enter Tryz.func18,Tryz.ntmps18
  go_wp2_with (first
   | (go_at_call 39;refine (HVT.out _).mono ?_;rintro e w2 ⟨rfl,rfl⟩)
   | (go_at_call 34;refine (HF.out _).mono ?_;rintro e w3 ⟨a1,a2,a3,rfl,hone,_,g3⟩;have HONE:=Hd hone;have HG3:=Hd (HG0.out.of_below g3);have HR3:=Hd (HR0.out.grow g3);clear g3 hone)
   | (refine wpList_store_cod rfl _ _ rfl w3 rfl rfl a1 a2 a3 rfl HONE.out ?_;intro w4 hr4 hg4;have HG4:=Hd (HG3.out.of_below hg4);have HR4:=Hd (HR3.out.grow hg4);have HRW4:=Hd (show w4.heap[w.heap.size]? = some (.cells #[.int .i64 0,.slice none 0 0,.slice none 0 0,.slice none 0 0] 26 (0,0)) from HR4.out);have HRS4:=Hd (Row.setRow_ HR4.out [.int .i64 0,.slice none 0 0,.slice none 0 0,.slice none 0 0] rfl);clear hr4 hg4)
   | (refine wpList_store_row rfl _ _ _ rfl _ #[.int .i64 0,.slice none 0 0,.slice none 0 0,.slice none 0 0] rfl rfl _ _ HRW4.out sizeVec rfl (by simp [Value.oneCell']) ?_))
  exact bodyPost_ret (results_vec3 rfl _ _ _ _ _ _ _ (.int .i64 0) (.int .i64 4) rfl HRS4.out rfl rfl) rfl (DecI.no HE.out (below_setRow HG4.out (Nat.le_refl _) _))
 ·have HD0:=Hd (show decF b T N = endV (mkV k T b N) by unfold decF;rw [if_neg HNE.out,if_neg h3,hk,if_neg (by rw [hap];simp),Int.toNat_natCast])
  have hmk:mkV k T b N = (⟨T,(rawD k T b N).1.is,(rawD k T b N).1.ts,List.replicate N false⟩,(rawD k T b N).2.1,(rawD k T b N).2.2) ∧ (rawD k T b N).1.T = 0:=by
   unfold mkV rawD
   by_cases hT:T = 3
   ·rw [if_pos hT,if_pos hT];exact ⟨rfl,rfl⟩
   ·rw [if_neg hT,if_neg hT];exact ⟨rfl,rfl⟩
  have HT0:=Hd hmk.2
  have hmk1:=hmk.1
  have hSM:(rawD k T b N).2.2 = 0 → (rawD k T b N).1.is.length ≤ 1000000 ∧ (rawD k T b N).1.ts.length ≤ 1000000:=fun h0 => by
   have hm0:(mkV (b.getD 0 0).toNat T b N).2.2 = 0:=by rw [hk,hmk1];exact h0
   obtain ⟨v,q,e,_,_,_,_,r5,r6,r7,r8,_⟩:=mkV_acc HT.out hN HB1.out (by rw [hk];exact hap) hm0
   rw [hk,hmk1] at e
   injection e with e _
   have e1:=congrArg Vec.is e
   have e2:=congrArg Vec.ts e
   simp only [] at e1 e2
   rw [e1,e2]
   refine ⟨?_,?_⟩
   ·by_cases hT:T = 3
    ·rw [(r5 hT).2];simp
    ·have:=(r6 hT).1;omega
   ·by_cases hT:T = 3
    ·have:=(r5 hT).1;omega
    ·rw [(r6 hT).2];simp
  rw [hmk1] at HD0
  obtain ⟨q,hq⟩:∃ q,(rawD k T b N).2.1 = q:=⟨_,rfl⟩
  obtain ⟨f,hf⟩:∃ f,(rawD k T b N).2.2 = f:=⟨_,rfl⟩
  obtain ⟨rv,hrv⟩:∃ v,(rawD k T b N).1 = v:=⟨_,rfl⟩
  rw [hq,hf,hrv] at HD0
  rw [hrv] at HT0 hSM
  rw [hf] at hSM
  have HSM:=Hd hSM
  clear hSM
  have HUD:=Hd (fun (F1 F2 F3:FuncId) (be bs bd bp:Nat) (W0:World) (hu:Use k T W0 F1 F2 F3 be bs bd bp) (W:World) (hW:Grows W0 W) (hw:Grows w W) => hu.dec W hW _ c b N (HV.out.grow hw) hlc HB1.out hl hN)
  rw [hq,hf,hrv] at HUD
  have hmkb:=run_make_oneM (P:=Tryz.prog) 24 4 (.bool false) 1 Tryz.underlying24 info_boolM rfl N (by omega) (by omega)
  clear hb h1 h2 h3 hk hbk hap hcell hmk hmk1 hq hf hrv
  by_cases hf0:f = 0
  ·subst hf0
   go_enter Tryz.func18,Tryz.ntmps18
   go_wp2_with (first
    | (go_at_call 39;refine (HVT.out _).mono ?_;rintro e w2 ⟨rfl,rfl⟩)
    | (go_at_call 34;refine (HF.out _).mono ?_;rintro e w3 ⟨a1,a2,a3,rfl,hone,hcod,g3⟩;have HONE:=Hd hone;obtain ⟨F1,F2,F3,be,bs,bd,bp,hx,hu⟩:=codec_use (hcod rfl);injection hx with hx;obtain ⟨rfl,rfl,rfl⟩:a1 = _ ∧ a2 = _ ∧ a3 = _:=(by simpa using hx);have HU:=Hd hu;have HG3:=Hd (HG0.out.of_below g3);have HR3:=Hd (HR0.out.grow g3);clear g3 hone hx hu hcod)
    | (refine wpList_store_cod rfl _ _ rfl w3 rfl rfl _ _ _ rfl HONE.out ?_;intro w4 hr4 hg4;have HG34:=Hd hg4;have HG4:=Hd (HG3.out.of_below hg4);have HR4:=Hd (HR3.out.grow hg4);have hF3:=HU.out.e3;have hc4:=hr4.cell 2;simp only [List.getElem?_cons_succ,List.getElem?_cons_zero] at hc4;clear hr4 hg4))
   refine (HUD.out _ _ _ _ _ _ _ _ HU.out _ HG34.out HG4.out).mono ?_
   rintro e w5 ⟨x,rfl,hx5,g5,hfx⟩
   obtain ⟨x1,x2,x3,rfl,j1,j2,j3⟩:=hx5
   obtain ⟨A1,c1,rfl⟩:=j1.slice_
   obtain ⟨A2,c2,rfl⟩:=j2.slice_
   obtain ⟨A3,c3,rfl⟩:=j3.slice_
   rw [HT0.out]
   have J1:=Hd j1
   have J2:=Hd j2
   have HFX:=Hd (hfx _ _ _ _ rfl)
   clear hfx
   obtain ⟨n1,hn1⟩:∃ n,rv.is.length = n:=⟨_,rfl⟩
   obtain ⟨n2,hn2⟩:∃ n,rv.ts.length = n:=⟨_,rfl⟩
   obtain ⟨n3,hn3⟩:∃ n,rv.ns.length = n:=⟨_,rfl⟩
   rw [hn1] at J1 HFX ⊢
   rw [hn2] at J2 ⊢
   rw [hn3] at ⊢
   have HN12:=Hd (And.intro hn1 hn2)
   have HG5:=Hd (HG4.out.of_below g5)
   have HR5:=Hd (HR4.out.grow g5)
   clear hn1 hn2 hn3 g5 hc4 hcell1 j1 j2 j3
   go_wp2_with (refine wpList_store_vec rfl _ _ rfl w5 rfl rfl 0 A1 A2 A3 n1 c1 n2 c2 n3 c3 rfl ?_;intro w6 hr6 hg6;have HG56:=Hd hg6;have HG6:=Hd (HG5.out.of_below hg6);have HR6:=Hd (HR5.out.grow hg6);have HX6:=Hd hr6;have hf60:=hr6.frozen 0;have hf63:=hr6.frozen 3;have hc60:=hr6.cell 0;have hc63:=hr6.cell 3;simp only [List.getElem?_cons_succ,List.getElem?_cons_zero] at hc60 hc63;clear hr6 hg6)
   obtain ⟨g,hg⟩:∃ g,g = w5.heap.size:=⟨_,rfl⟩
   rw [← hg] at HX6 hf60 hf63 hc60 hc63 ⊢
   have hr7:=HX6.out.grow (growB w6 (.cells (Array.replicate N (Value.bool false)) 4))
   have hr8:=(HX6.out.set_ 0 (.int .i64 T)).grow (growB _ (.cells (Array.replicate N (Value.bool false)) 4))
   have hr9:=hr7.set_ 0 (.int .i64 T)
   have hf80:=hr8.frozen 0
   have hf83:=hr8.frozen 3
   have hc83:=hr8.cell 3
   have hf93:=hr9.frozen 3
   have hc93:=hr9.cell 3
   have HR8:=Hd (hr8.set_ 3 (.slice (some ⟨w6.heap.size,0,none⟩) N N))
   have HR9:=Hd (hr9.set_ 3 (.slice (some ⟨w6.heap.size,0,none⟩) N N))
   have hf70:=hr7.frozen 0
   have hf73:=hr7.frozen 3
   have hc70:=hr7.cell 0
   have hc73:=hr7.cell 3
   simp only [List.set_cons_zero,List.set_cons_succ,List.getElem?_cons_succ,List.getElem?_cons_zero] at hc70 hc73 hc83 hc93 HR8 HR9
   have HGE:=Hd hg
   clear hr7 hr8 hr9 hg
   have HGN:=Hd (show g ≠ w6.heap.size by have:=HX6.out.lt;omega)
   go_region
   obtain ⟨w9,hw9⟩:∃ w9,w9 = (((w6.alloc (.cells (Array.replicate N (Value.bool false)) 4)).setCell ⟨g,0,none⟩ (.int .i64 T)).setCell ⟨g,3,none⟩ (.slice (some ⟨w6.heap.size,0,none⟩) N N)).drew:=⟨_,rfl⟩
   have HG59:=Hd (show Grows w5 w9 by rw [hw9];exact drawn_grows (((HG56.out.of_below (growB w6 _)).setCell (p:=⟨g,0,none⟩) (Nat.le_of_eq HGE.out.symm) _).setCell (p:=⟨g,3,none⟩) (Nat.le_of_eq HGE.out.symm) _))
   have HV9:=Hd (show Row w9 g 26 [.int .i64 T,.slice A1 n1 c1,.slice A2 n2 c2,.slice (some ⟨w6.heap.size,0,none⟩) N N] by rw [hw9];exact HR9.out)
   have HN9:=Hd (show Row w9 w6.heap.size 4 (List.replicate N (Value.bool false)) by rw [hw9];exact ((Row.new w6 4 (Array.replicate N (Value.bool false)) (List.replicate N (Value.bool false)) (by simp)).set_other (a:=⟨g,0,none⟩) HGN.out _).set_other (a:=⟨g,3,none⟩) HGN.out _)
   rw [← hw9]
   clear hw9
   rotate_left
   obtain ⟨w9,hw9⟩:∃ w9,w9 = (((w6.setCell ⟨g,0,none⟩ (.int .i64 T)).alloc (.cells (Array.replicate N (Value.bool false)) 4)).setCell ⟨g,3,none⟩ (.slice (some ⟨w6.heap.size,0,none⟩) N N)).drew:=⟨_,rfl⟩
   have HG59:=Hd (show Grows w5 w9 by rw [hw9];exact drawn_grows ((Grows.of_below (HG56.out.setCell (p:=⟨g,0,none⟩) (Nat.le_of_eq HGE.out.symm) _) (growB _ _)).setCell (p:=⟨g,3,none⟩) (Nat.le_of_eq HGE.out.symm) _))
   have HV9:=Hd (show Row w9 g 26 [.int .i64 T,.slice A1 n1 c1,.slice A2 n2 c2,.slice (some ⟨w6.heap.size,0,none⟩) N N] by rw [hw9];exact HR8.out)
   have HN9:=Hd (show Row w9 w6.heap.size 4 (List.replicate N (Value.bool false)) by rw [hw9];exact (Row.at_ (w6.setCell ⟨g,0,none⟩ (.int .i64 T)) 4 (Array.replicate N (Value.bool false)) (List.replicate N (Value.bool false)) (by simp) w6.heap.size (World.size_setCell w6 _ _).symm).set_other (a:=⟨g,3,none⟩) HGN.out _)
   rw [← hw9]
   clear hw9
   all_goals
    obtain ⟨v9,hv9⟩:∃ v9:Vec,v9 = ⟨T,rv.is,rv.ts,List.replicate N false⟩:=⟨_,rfl⟩
    have HX9:=Hd (show IsV w9 (.agg #[.int .i64 T,.slice A1 n1 c1,.slice A2 n2 c2,.slice (some ⟨w6.heap.size,0,none⟩) N N]) v9 by
     rw [hv9]
     exact ⟨_,_,_,rfl,J1.out.grow HG59.out,J2.out.grow HG59.out,Reads.of_row (e:=4) (by rw [show tcells (List.replicate N false) = List.replicate N (Value.bool false) by simp [tcells]];exact HN9.out) N N (by simp [tcells]) (Nat.le_refl _)⟩)
    have HCK:=Hd (echeck_any _ v9 w9 HX9.out (by rw [hv9];exact (HSM.out (by trivial)).1) (by rw [hv9];exact (HSM.out (by trivial)).2))
    rw [← hv9] at HD0
    have HVR9:=Hd (show w9.heap[g]? = some (.cells #[.int .i64 T,.slice A1 n1 c1,.slice A2 n2 c2,.slice (some ⟨w6.heap.size,0,none⟩) N N] 26 (0,0)) from HV9.out)
    have HR9Z:=Hd (HR5.out.grow HG59.out)
    have HG9:=Hd (HG5.out.of_below HG59.out)
    have hTv:v9.T = T:=by rw [hv9]
    have HI9:=Hd (show v9.is = rv.is by rw [hv9])
    have HS9:=Hd (show v9.ts = rv.ts by rw [hv9])
    have HNS9:=Hd (show v9.ns = List.replicate N false by rw [hv9])
    have HTV:=Hd hTv
    clear hv9 hTv hmkb hf60 hf63 hc60 hc63 hf70 hf73 hc70 hc73 hf80 hf83 hc83 hf93 hc93
    obtain ⟨ce,hce⟩:∃ ce,chk v9 = ce:=⟨_,rfl⟩
    rw [hce] at HCK
    by_cases hc0:ce = 0
    ·subst hc0
     have HE:=Hd (show decF b T N = (v9,q,0) by rw [HD0.out];unfold endV;rw [if_neg (by simp),if_neg (by rw [hce];simp)])
     clear hce
     go_wp2_with (first
      | (refine wpList_load_row rfl _ _ rfl _ rfl _ _ _ _ HVR9.out Tryz.underlying26 rfl sizeVec ?_)
      | (go_at_call 40;refine HCK.out.mono ?_;rintro e w10 ⟨rfl,g10⟩;have HG910:=Hd g10;have HVR9:=Hd (show w10.heap[g]? = some (.cells #[.int .i64 T,.slice A1 n1 c1,.slice A2 n2 c2,.slice (some ⟨w6.heap.size,0,none⟩) N N] 26 (0,0)) from HV9.out.grow g10);have HRZ:=Hd (show w10.heap[w.heap.size]? = some (.cells #[.int .i64 0,.slice none 0 0,.slice none 0 0,.slice none 0 0] 26 (0,0)) from HR9Z.out.grow g10);have HRF:=Hd (Row.setRow_ (HR9Z.out.grow g10) [.int .i64 T,.slice A1 n1 c1,.slice A2 n2 c2,.slice (some ⟨w6.heap.size,0,none⟩) N N] rfl);clear g10)
      | (refine wpList_store_row rfl _ _ _ rfl _ #[.int .i64 T,.slice A1 n1 c1,.slice A2 n2 c2,.slice (some ⟨w6.heap.size,0,none⟩) N N] rfl rfl _ _ HRZ.out sizeVec rfl (by simp [Value.oneCell']) ?_))
     refine bodyPost_ret (results_vec3 rfl _ _ _ _ _ _ _ (.int .i64 q) (.int .i64 0) rfl HRF.out rfl rfl) rfl (DecI.yes HE.out ⟨_,_,_,by rw [HTV.out],?_,?_,?_⟩ (below_setRow (HG9.out.of_below HG910.out) (Nat.le_refl _) _) ?_)
     ·rw [HI9.out]
      exact Reads.other_row ((J1.out.grow HG59.out).grow HG910.out) (fun b o s n c e => by have h1:=HFX.out.1 b o s n c e;have h2:=(HR4.out).lt;omega) _
     ·rw [HS9.out]
      exact Reads.not_row ((J2.out.grow HG59.out).grow HG910.out) (show Row w10 w.heap.size 26 _ from HRZ.out) (fun x hx => by obtain ⟨y,_,rfl⟩:=List.mem_map.1 hx;refine ⟨?_,?_,?_,?_⟩ <;> exact fun h => by cases h) _
     ·rw [HNS9.out]
      refine Reads.other_row (Reads.grow (Reads.of_row (e:=4) (by rw [show tcells (List.replicate N false) = List.replicate N (Value.bool false) by simp [tcells]];exact HN9.out) N N (by simp [tcells]) (Nat.le_refl _)) HG910.out) (fun b o s n c e => by injection e with e;injection e with e;injection e with e;have h1:=HR5.out.lt;have h2:=HG56.out.size;omega) _
     ·exact (FreshI.same ((HFX.out.grow HG59.out).grow HG910.out) (Nat.zero_le _) (fun b hb => setRow_other _ _ _ _ (by have h2:=(HR4.out).lt;omega))).2
    ·have HE:=Hd (show decF b T N = (zeroV,0,ce) by rw [HD0.out];unfold endV;rw [if_neg (by simp),if_pos (by rw [hce];exact hc0),hce])
     have hne:(ce != 0) = true:=by simpa using hc0
     clear hce hc0
     go_wp2_with (first
      | (refine wpList_load_row rfl _ _ rfl _ rfl _ _ _ _ HVR9.out Tryz.underlying26 rfl sizeVec ?_)
      | (go_at_call 40;refine HCK.out.mono ?_;rintro e w10 ⟨rfl,g10⟩;have HG910:=Hd g10;have HRZ:=Hd (show w10.heap[w.heap.size]? = some (.cells #[.int .i64 0,.slice none 0 0,.slice none 0 0,.slice none 0 0] 26 (0,0)) from HR9Z.out.grow g10);have HRF:=Hd (Row.setRow_ (HR9Z.out.grow g10) [.int .i64 0,.slice none 0 0,.slice none 0 0,.slice none 0 0] rfl);clear g10)
      | (refine wpList_store_row rfl _ _ _ rfl _ #[.int .i64 0,.slice none 0 0,.slice none 0 0,.slice none 0 0] rfl rfl _ _ HRZ.out sizeVec rfl (by simp [Value.oneCell']) ?_))
     exact bodyPost_ret (results_vec3 rfl _ _ _ _ _ _ _ (.int .i64 0) (.int .i64 ce) rfl HRF.out rfl rfl) rfl (DecI.no HE.out (below_setRow (HG9.out.of_below HG910.out) (Nat.le_refl _) _))
  ·have HE:=Hd (show decF b T N = (zeroV,0,f) by rw [HD0.out];unfold endV;rw [if_pos hf0])
   have hne:(f != 0) = true:=by simpa using hf0
   clear hf0 hmkb
   go_enter Tryz.func18,Tryz.ntmps18
   go_wp2_with (first
    | (go_at_call 39;refine (HVT.out _).mono ?_;rintro e w2 ⟨rfl,rfl⟩)
    | (go_at_call 34;refine (HF.out _).mono ?_;rintro e w3 ⟨a1,a2,a3,rfl,hone,hcod,g3⟩;have HONE:=Hd hone;obtain ⟨F1,F2,F3,be,bs,bd,bp,hx,hu⟩:=codec_use (hcod rfl);injection hx with hx;obtain ⟨rfl,rfl,rfl⟩:a1 = _ ∧ a2 = _ ∧ a3 = _:=(by simpa using hx);have HU:=Hd hu;have HG3:=Hd (HG0.out.of_below g3);have HR3:=Hd (HR0.out.grow g3);clear g3 hone hx hu hcod)
    | (refine wpList_store_cod rfl _ _ rfl w3 rfl rfl _ _ _ rfl HONE.out ?_;intro w4 hr4 hg4;have HG34:=Hd hg4;have HG4:=Hd (HG3.out.of_below hg4);have HR4:=Hd (HR3.out.grow hg4);have hF3:=HU.out.e3;have hc4:=hr4.cell 2;simp only [List.getElem?_cons_succ,List.getElem?_cons_zero] at hc4;clear hr4 hg4))
   refine (HUD.out _ _ _ _ _ _ _ _ HU.out _ HG34.out HG4.out).mono ?_
   rintro e w5 ⟨x,rfl,hx5,g5,hfx⟩
   obtain ⟨x1,x2,x3,rfl,j1,j2,j3⟩:=hx5
   obtain ⟨A1,c1,rfl⟩:=j1.slice_
   obtain ⟨A2,c2,rfl⟩:=j2.slice_
   obtain ⟨A3,c3,rfl⟩:=j3.slice_
   rw [HT0.out]
   have J1:=Hd j1
   have J2:=Hd j2
   have HFX:=Hd (hfx _ _ _ _ rfl)
   clear hfx
   obtain ⟨n1,hn1⟩:∃ n,rv.is.length = n:=⟨_,rfl⟩
   obtain ⟨n2,hn2⟩:∃ n,rv.ts.length = n:=⟨_,rfl⟩
   obtain ⟨n3,hn3⟩:∃ n,rv.ns.length = n:=⟨_,rfl⟩
   rw [hn1] at J1 HFX ⊢
   rw [hn2] at J2 ⊢
   rw [hn3] at ⊢
   have HN12:=Hd (And.intro hn1 hn2)
   have HG5:=Hd (HG4.out.of_below g5)
   have HR5:=Hd (HR4.out.grow g5)
   clear hn1 hn2 hn3 g5 hc4 hcell1 j1 j2 j3
   go_wp2_with (first
    | (refine wpList_store_vec rfl _ _ rfl w5 rfl rfl 0 A1 A2 A3 n1 c1 n2 c2 n3 c3 rfl ?_;intro w6 hr6 hg6;have HG6:=Hd (HG5.out.of_below hg6);have HRZ:=Hd (show w6.heap[w.heap.size]? = some (.cells #[.int .i64 0,.slice none 0 0,.slice none 0 0,.slice none 0 0] 26 (0,0)) from HR5.out.grow hg6);have HRF:=Hd (Row.setRow_ (HR5.out.grow hg6) [.int .i64 0,.slice none 0 0,.slice none 0 0,.slice none 0 0] rfl);clear hr6 hg6)
    | (refine wpList_store_row rfl _ _ _ rfl _ #[.int .i64 0,.slice none 0 0,.slice none 0 0,.slice none 0 0] rfl rfl _ _ HRZ.out sizeVec rfl (by simp [Value.oneCell']) ?_))
   exact bodyPost_ret (results_vec3 rfl _ _ _ _ _ _ _ (.int .i64 0) (.int .i64 f) rfl HRF.out rfl rfl) rfl (DecI.no HE.out (below_setRow HG6.out (Nat.le_refl _) _))
theorem eDecode_any (A:Option Addr) (c:Nat) (b:List UInt8) (T n:Int) (w:World) (hb:IsBytes w (.slice A b.length c) b) (hlc:b.length ≤ c) (hl:b.length ≤ 1000000) :
 Calls Tryz.prog 18 #[.slice A b.length c,.int .i64 T,.int .i64 n] w (DecV (decF b T n) w):=
 (eDecodeI_any A c b T n w hb hlc hl).mono fun _ _ ⟨_,_,_,_,h1,h2,h3,_⟩ => ⟨_,h1,h2,h3⟩
def costL (v:Vec):List Rn:=(List.range 6).map fun (k:Nat) => ((k:Int),cost v k)
def costK (v:Vec) (k:Nat):List Rn:=(List.range 6).map fun (j:Nat) => if j < k then ((j:Int),cost v j) else (0,0)
theorem costK_length (v:Vec) (k:Nat):(costK v k).length = 6:=by simp [costK]
theorem costL_length (v:Vec):(costL v).length = 6:=by simp [costL]
theorem costK_done (v:Vec):costK v 6 = costL v:=by
 unfold costK costL
 exact List.map_congr_left fun j hj => by rw [if_pos (List.mem_range.1 hj)]
theorem costK_get {v:Vec} {k j:Nat} (h:j < (costK v k).length):(costK v k)[j] = if j < k then ((j:Int),cost v j) else (0,0):=by simp [costK]
theorem costK_set {v:Vec} {k:Nat} (h:k < 6):(costK v k).set k ((k:Int),cost v k) = costK v (k + 1):=by
 apply List.ext_getElem
 ·simp [costK_length]
 ·intro j h1 h2
  rw [List.getElem_set,costK_get h2]
  by_cases hjk:k = j
  ·subst hjk
   rw [if_pos rfl,if_pos (by omega)]
  ·rw [if_neg hjk,costK_get]
   by_cases hlt:j < k
   ·rw [if_pos hlt,if_pos (by omega)]
   ·rw [if_neg hlt,if_neg (by omega)]
theorem rcells_set2:∀ {l:List Rn} {k:Nat} {a b:Int},k < l.length → ((rcells l).set (k * 2) (.int .i64 a)).set (k * 2 + 1) (.int .i64 b) = rcells (l.set k (a,b))
 | [],k,a,b,h => by simp at h
 | x :: l,0,a,b,h => by simp [rcells]
 | x :: l,k + 1,a,b,h => by
   have ih:=rcells_set2 (l:=l) (k:=k) (a:=a) (b:=b) (by simpa using h)
   rw [show (k + 1) * 2 = k * 2 + 1 + 1 by omega,rcells,List.set_cons_succ,List.set_cons_succ,List.set_cons_succ,List.set_cons_succ,ih,List.set_cons_succ,rcells]
theorem rcells_set1 {l:List Rn} {k:Nat} {a b c:Int} (h:k < l.length):(rcells (l.set k (a,b))).set (k * 2 + 1) (.int .i64 c) = rcells (l.set k (a,c)):=by
 rw [← rcells_set2 h,← rcells_set2 h,List.set_set]
theorem sizeCst:(Tryz.prog.info? 38).map (·.size) = some 2:=by kernel_rfl
theorem costK_zero (v:Vec):(madeCells #[Value.int .i64 0,Value.int .i64 0] 12).toList = rcells (costK v 0):=by
 simp [costK,rcells,madeCells,List.range,List.range.loop,Array.range]
theorem run_makeCst (v:Vec) (W:World) :
 (Instr.makeSlice 35 (.int .i64 6) (.int .i64 6)).run Tryz.prog W = .ok (.slice (some ⟨W.heap.size,0,none⟩) 6 6) (W.alloc (.cells (rcells (costK v 0)).toArray 38)):=by
 have hinfo:(Tryz.prog.info? 38).map (fun i => (i.zero,i.size,i.bytes)) = some (some (.agg #[.int .i64 0,.int .i64 0]),2,16):=by kernel_rfl
 obtain ⟨i0,hi,hz0,hz1,hz2⟩:=info_parts hinfo
 have h:=run_make (P:=Tryz.prog) W 35 38 i0 (.agg #[.int .i64 0,.int .i64 0]) Tryz.underlying35 hi hz0 .i64 .i64 6 6 (by omega) (by omega) (by rw [hz2];decide) (by omega)
 rw [hz1] at h
 have e:madeCells (Value.agg #[.int .i64 0,.int .i64 0]).cells ((6:Int).toNat * 2) = (rcells (costK v 0)).toArray:=by
  apply Array.toList_inj.1
  exact costK_zero v
 rw [e] at h
 exact h
def CostRel (w:World) (g:Nat) (v:Vec) (i:Value) (wr:World):Prop:=
 ∃ k:Nat,k ≤ 6 ∧ i = .int .i64 (k:Int) ∧ Row wr g 38 (rcells (costK v k)) ∧ Grows w wr
set_option maxHeartbeats 8000000 in
theorem eCosts_any (x:Value) (v:Vec) (w:World) (hx:IsV w x v) (hs:Small v) (hok:okV v = true) :
 Calls Tryz.prog 14 #[x] w fun e w' => ∃ u,e = .returned u ∧ Grows w w' ∧ ReadsR w' u (costL v):=by
 have HEC:=Hd (fun W (h:Grows w W) => encodable_any x v W (hx.grow h) hs)
 rw [hok] at HEC
 have HV:=Hd hx
 have hfine:=hs.fine (okV_iff.1 hok)
 have HFN:=Hd hfine
 have HPL:=Hd (fun k => pay_len (k:=k) hfine)
 have HOK:=Hd hok
 obtain ⟨a1,a2,a3,rfl,i1,i2,i3⟩:=hx
 obtain ⟨A1,c1,rfl⟩:=i1.slice_
 obtain ⟨A2,c2,rfl⟩:=i2.slice_
 obtain ⟨A3,c3,rfl⟩:=i3.slice_
 obtain ⟨T,hT⟩:∃ T,v.T = T:=⟨_,rfl⟩
 rw [hT] at HEC HV ⊢
 obtain ⟨n1,hn1⟩:∃ n,v.is.length = n:=⟨_,rfl⟩
 obtain ⟨n2,hn2⟩:∃ n,v.ts.length = n:=⟨_,rfl⟩
 obtain ⟨n3,hn3⟩:∃ n,v.ns.length = n:=⟨_,rfl⟩
 rw [hn1,hn2,hn3] at HEC HV ⊢
 have HT:=Hd hT
 have HG0:=Hd (growB w (.cells #[.int .i64 T,.slice A1 n1 c1,.slice A2 n2 c2,.slice A3 n3 c3] 26))
 have HR0:=Hd (Row.new w 26 #[.int .i64 T,.slice A1 n1 c1,.slice A2 n2 c2,.slice A3 n3 c3] [.int .i64 T,.slice A1 n1 c1,.slice A2 n2 c2,.slice A3 n3 c3] rfl)
 clear i1 i2 i3 hn1 hn2 hn3 hT hs hok hfine
 go_enter Tryz.func14,Tryz.ntmps14
 have hmk:=run_makeCst v
 go_wp2_with fail
 refine (HEC.out _ (HG0.out.of_below (growB _ _))).mono ?_
 rintro e w2 ⟨rfl,g2⟩
 obtain ⟨g,hg⟩:∃ g,g = w.heap.size + 1:=⟨_,rfl⟩
 have HRC:=Hd ((Row.at_ (w.alloc (.cells #[.int .i64 T,.slice A1 n1 c1,.slice A2 n2 c2,.slice A3 n3 c3] 26)) 38 (rcells (costK v 0)).toArray (rcells (costK v 0)) rfl g (by rw [hg,World.size_alloc])).grow g2)
 have HG2:=Hd ((HG0.out.of_below (growB _ (.cells (rcells (costK v 0)).toArray 38))).of_below g2)
 have HRV:=Hd ((HR0.out.grow (growB _ (.cells (rcells (costK v 0)).toArray 38))).grow g2)
 have HGW:=Hd (show w.heap.size ≤ g by omega)
 have HGV:=Hd (show g ≠ w.heap.size by omega)
 rw [← hg]
 clear g2 hmk hg
 go_wp2_with fail
 go_loopw [5,6,7,13] (fun u1 u2 u3 i wr => CostRel w g v i wr ∧ Row wr w.heap.size 26 [.int .i64 T,.slice A1 n1 c1,.slice A2 n2 c2,.slice A3 n3 c3]) (fun _ _ _ i _ => 6 - (intOf i).toNat)
 case atStart => exact ⟨⟨0,by omega,rfl,HRC.out,HG2.out⟩,HRV.out⟩
 case round =>
  obtain ⟨⟨k,hk,rfl,hrow,hb⟩,hrv⟩:=hrel
  have HR:=Hd hrow
  have HB:=Hd hb
  have HV1:=Hd hrv
  by_cases hlt:k < 6
  ·have hkl:k < (costK v k).length:=by rw [costK_length];exact hlt
   have HTH:=Hd (show wr.there g (k * 2) 2 from fun j hj => ⟨by rw [hrow.cell (k * 2 + j),List.getElem?_eq_getElem (by rw [rcells_length,costK_length];omega)];rfl,hrow.frozen _⟩)
   have hST:=(hrow.set_ (k * 2) (.int .i64 (k:Int))).set_ (k * 2 + 1) (.int .i64 (-1))
   rw [rcells_set2 hkl] at hST
   have HST:=Hd (show Row (wr.setCells g (k * 2) [.int .i64 (k:Int),.int .i64 (-1)]) g 38 (rcells ((costK v k).set k ((k:Int),-1))) from hST)
   have HSG:=Hd (show Grows w (wr.setCells g (k * 2) [.int .i64 (k:Int),.int .i64 (-1)]) from (HB.out.setCell (p:=⟨g,k * 2,none⟩) HGW.out _).setCell (p:=⟨g,k * 2 + 1,none⟩) HGW.out _)
   have HSV:=Hd (show Row (wr.setCells g (k * 2) [.int .i64 (k:Int),.int .i64 (-1)]) w.heap.size 26 [.int .i64 T,.slice A1 n1 c1,.slice A2 n2 c2,.slice A3 n3 c3] from (HV1.out.set_other (a:=⟨g,k * 2,none⟩) HGV.out _).set_other (a:=⟨g,k * 2 + 1,none⟩) HGV.out _)
   have HF:=Hd (fun W => efind_any k T W)
   obtain ⟨b,hb2⟩:∃ b,apl k T = b:=⟨_,rfl⟩
   rw [hb2] at HF
   cases b
   ·have HCO:=Hd (show cost v k = -1 by unfold cost;rw [HT.out,hb2];simp)
    have HSET:=Hd (costK_set (v:=v) hlt)
    rw [HCO.out] at HSET
    clear hrow hb hrv hST hb2 hkl
    go_wp2_with (first
     | (refine wpList_store_mid rfl _ _ _ rfl g (k * 2) #[.int .i64 (k:Int),.int .i64 (-1)] rfl rfl HTH.out sizeCst (by simp [Value.oneCell']) ?_;obtain ⟨w5,hw5⟩:∃ w5,w5 = wr.setCells g (k * 2) (#[Value.int .i64 (k:Int),Value.int .i64 (-1)]).toList:=⟨_,rfl⟩;have HR5:=Hd (show Row w5 g _ _ by rw [hw5];exact HST.out);have HG5:=Hd (show Grows w w5 by rw [hw5];exact HSG.out);have HV5:=Hd (show Row w5 w.heap.size _ _ by rw [hw5];exact HSV.out);rw [← hw5];have hT5:=HV5.out.cell 0;simp only [List.getElem?_cons_zero] at hT5;clear hw5)
     | (go_at_call 34;refine (HF.out _).mono ?_;rintro e w6 ⟨a1,a2,a3,rfl,hone,_,g6⟩;have HONE:=Hd hone;have HG6:=Hd (HG5.out.of_below g6);have HR6:=Hd (HR5.out.grow g6);have HV6:=Hd (HV5.out.grow g6);clear g6 hone)
     | (refine wpList_store_cod rfl _ _ rfl w6 rfl rfl a1 a2 a3 rfl HONE.out ?_;intro w7 hr7 hg7;have HG7:=Hd (HG6.out.of_below hg7);have HR7:=Hd (HR6.out.grow hg7);have HV7:=Hd (HV6.out.grow hg7);clear hr7 hg7))
    first
     | (go_roundw;(case rel => exact ⟨⟨k + 1,by omega,by go_num,by rw [← HSET.out];exact HR7.out,HG7.out⟩,HV7.out⟩);(case measure => simp [intOf];omega))
     | exact ⟨⟨⟨k + 1,by omega,by go_num,by rw [← HSET.out];exact HR7.out,HG7.out⟩,HV7.out⟩,by simp [intOf];omega⟩
   ·have HCO:=Hd (show cost v k = 1 + ((pay k v).length:Int) by unfold cost;rw [HT.out,hb2,HOK.out];simp)
    have HSET:=Hd (costK_set (v:=v) hlt)
    rw [HCO.out] at HSET
    have HPK:=Hd (HPL.out k)
    have HKL:=Hd hkl
    clear hrow hb hrv hST hb2 hkl
    go_wp2_with (first
     | (refine wpList_store_mid rfl _ _ _ rfl g (k * 2) #[.int .i64 (k:Int),.int .i64 (-1)] rfl rfl HTH.out sizeCst (by simp [Value.oneCell']) ?_;obtain ⟨w5,hw5⟩:∃ w5,w5 = wr.setCells g (k * 2) (#[Value.int .i64 (k:Int),Value.int .i64 (-1)]).toList:=⟨_,rfl⟩;have HR5:=Hd (show Row w5 g _ _ by rw [hw5];exact HST.out);have HG5:=Hd (show Grows w w5 by rw [hw5];exact HSG.out);have HV5:=Hd (show Row w5 w.heap.size _ _ by rw [hw5];exact HSV.out);rw [← hw5];have hT5:=HV5.out.cell 0;simp only [List.getElem?_cons_zero] at hT5;clear hw5)
     | (go_at_call 34;refine (HF.out _).mono ?_;rintro e w6 ⟨a1,a2,a3,rfl,hone,hcod,g6⟩;have HONE:=Hd hone;obtain ⟨F1,F2,F3,be,bs,bd,bp,hx,hu⟩:=codec_use (hcod rfl);injection hx with hx;obtain ⟨rfl,rfl,rfl⟩:a1 = _ ∧ a2 = _ ∧ a3 = _:=(by simpa using hx);have HG6:=Hd (HG5.out.of_below g6);have HR6:=Hd (HR5.out.grow g6);have HV6:=Hd (HV5.out.grow g6);have HU:=Hd hu;clear g6 hone hx hu hcod)
     | (refine wpList_store_cod rfl _ _ rfl w6 rfl rfl _ _ _ rfl HONE.out ?_;intro w7 hr7 hg7;have HG67:=Hd hg7;have HG7:=Hd (HG6.out.of_below hg7);have HR7:=Hd (HR6.out.grow hg7);have HV7:=Hd (show w7.heap[w.heap.size]? = some (.cells #[.int .i64 T,.slice A1 n1 c1,.slice A2 n2 c2,.slice A3 n3 c3] 26 (0,0)) from HV6.out.grow hg7);have hF2:=HU.out.e2;have hc7:=hr7.cell 1;simp only [List.getElem?_cons_succ,List.getElem?_cons_zero] at hc7;clear hr7 hg7)
     | (refine wpList_load_row rfl _ _ rfl _ rfl _ _ _ _ HV7.out Tryz.underlying26 rfl sizeVec ?_))
    refine (HU.out.size _ HG67.out _ v (HV.out.grow HG7.out) HT.out HFN.out).mono ?_
    rintro e w8 ⟨rfl,g8⟩
    have HR8:=Hd (HR7.out.grow g8)
    have HV8:=Hd ((show Row w7 w.heap.size 26 _ from HV7.out).grow g8)
    have HG8:=Hd (HG7.out.of_below g8)
    have hc8:=HR8.out.cell (k * 2 + 1)
    rw [← rcells_set2 HKL.out,List.getElem?_set_self (by rw [List.length_set,rcells_length];have:=HKL.out;omega)] at hc8
    have hf8:=HR8.out.frozen (k * 2 + 1)
    generalize (pay k v).length = P at *
    have hP:=HPK.out
    clear g8
    go_wp2_with fail
    have HR9:=HR8.out.set_ (k * 2 + 1) (.int .i64 (1 + (P:Int)))
    rw [rcells_set1 HKL.out,HSET.out] at HR9
    go_roundw
    case rel => exact ⟨⟨k + 1,by omega,by go_num,HR9,HG8.out.setCell (p:=⟨g,k * 2 + 1,none⟩) HGW.out _⟩,HV8.out.set_other (a:=⟨g,k * 2 + 1,none⟩) HGV.out _⟩
    case measure => simp [intOf];omega
  ·have hke:k = 6:=by omega
   subst hke
   have HRD:=Hd (show ReadsR wr (.slice (some ⟨g,0,none⟩) 6 6) (costL v) by
    refine ⟨some ⟨g,0,none⟩,6,by rw [costL_length],by rw [costL_length];omega,fun _ => ⟨g,0,rfl,fun j y hj => ?_⟩⟩
    rw [costK_done] at hrow
    obtain ⟨h1,h2⟩:=rcells_get hj
    rw [Nat.zero_add,hrow.cell,hrow.cell]
    exact ⟨h1,h2⟩)
   clear hrow hb hrv
   go_wp2_with fail
   go_ret
   exact ⟨_,rfl,HB.out,HRD.out⟩
abbrev cstV (a b:Int):Value:=.agg #[.int .i64 a,.int .i64 b]
theorem results_cst {fn:Func} {p:Tmp} (h:fn.results = #[.cell p 38]) (tmps:Array Value) (w:World) (g:Nat) (a b:Value) (hp:tmps.getD p undef = .pointer (some ⟨g,0,none⟩)) (hg:Row w g 38 [a,b]) :
 (results fn tmps).run Tryz.prog w = .ok (.agg #[a,b]) w:=results_cell_row h _ _ _ _ _ _ _ hp hg Tryz.underlying38 rfl sizeCst
theorem esizeOf_any (a b:Int) (w:World):Calls Tryz.prog 37 #[cstV a b] w fun e w' => e = .returned (.int .i64 b) ∧ Grows w w':=by
 have HG:=Hd (growB w)
 go_enter Tryz.func37,Tryz.ntmps37
 go_wp2_with fail
 go_ret
 exact ⟨rfl,HG.out _⟩
set_option maxHeartbeats 4000000 in
theorem esmaller_any (a1 a2 b1 b2:Int) (w:World):Calls Tryz.prog 38 #[cstV a1 a2,cstV b1 b2,fnV 37] w
 fun e w' => e = .returned (if b2 < a2 then cstV b1 b2 else cstV a1 a2) ∧ Grows w w':=by
 obtain ⟨w1,hw1⟩:∃ w1,w1 = ((w.alloc (.cells #[.int .i64 a1,.int .i64 a2] 38)).alloc (.cells #[.int .i64 b1,.int .i64 b2] 38)).alloc (.cells #[.int .i64 0,.int .i64 0] 38):=⟨_,rfl⟩
 have HG:=Hd (show Grows w w1 by rw [hw1];exact ((growB _ _).of_below (growB _ _)).of_below (growB _ _))
 have HA:=Hd (show Row w1 w.heap.size 38 [.int .i64 a1,.int .i64 a2] by rw [hw1];exact ((Row.new _ _ _ _ rfl).grow (growB _ _)).grow (growB _ _))
 have HB:=Hd (show Row w1 (w.heap.size + 1) 38 [.int .i64 b1,.int .i64 b2] by rw [hw1];exact (Row.at_ _ _ _ _ rfl _ (by simp [World.size_alloc])).grow (growB _ _))
 have HC:=Hd (show Row w1 (w.heap.size + 2) 38 [.int .i64 0,.int .i64 0] by rw [hw1];exact Row.at_ _ _ _ _ rfl _ (by simp [World.size_alloc]))
 have HW:=Hd hw1.symm
 clear hw1
 have hd:decide (b2 < a2) = true ∨ decide (b2 < a2) = false:=by cases decide (b2 < a2) <;> simp
 have HIF:=Hd (fun h:decide (b2 < a2) = true => show (if b2 < a2 then cstV b1 b2 else cstV a1 a2) = cstV b1 b2 from if_pos (by simpa using h))
 have HIN:=Hd (fun h:decide (b2 < a2) = false => show (if b2 < a2 then cstV b1 b2 else cstV a1 a2) = cstV a1 a2 from if_neg (by simpa using h))
 generalize (if b2 < a2 then cstV b1 b2 else cstV a1 a2) = res at *
 rcases hd with hd | hd
 all_goals
  have HD:=Hd hd
  go_enter Tryz.func38,Tryz.ntmps38
  go_wp2_with fail
  rw [HW.out]
  obtain ⟨ga,hga⟩:∃ g,g = w.heap.size:=⟨_,rfl⟩
  rw [← hga] at HA HB HC ⊢
  have HGA:=Hd hga
  clear hga
  refine wp_region_loose (tabRs [(2,ConstV (.int .i64 b2)),(5,ConstV (.int .i64 a2))]) (by kernel_rfl) (by kernel_rfl) (tabRs_cons ConstV.lasts (tabRs_cons ConstV.lasts tabRs_nil)) ?_
  iterate 2 ((with_reducible refine loose_one (v:=?_) (a':=?_) ?_ ?_ (fun w' hC' hG' => ?_) ?_ ?_);rotate_left 2;(focus rfl);(focus rfl);(focus (have f1:=(HB.out.grow hC').cell 0;have f2:=(HB.out.grow hC').cell 1;simp only [List.getElem?_cons_succ,List.getElem?_cons_zero] at f1 f2;clear hC' hG';go_simp;rfl));(focus (go_simp;rfl)))
  refine loose_call (R:=ConstV (.int .i64 b2)) (f:=37) (args:=#[cstV b1 b2]) (by rfl) (by rfl) (fun _ => by go_simp) (fun w' hC' hG' => const_loose (esizeOf_any b1 b2 w')) ?_
  rintro v4 ⟨w4,_,rfl⟩
  refine ⟨?_,?_,?_⟩
  rotate_left
  ·go_simp
   rfl
  iterate 2 ((with_reducible refine loose_one (v:=?_) (a':=?_) ?_ ?_ (fun w' hC' hG' => ?_) ?_ ?_);rotate_left 2;(focus rfl);(focus rfl);(focus (have f1:=(HA.out.grow hC').cell 0;have f2:=(HA.out.grow hC').cell 1;simp only [List.getElem?_cons_succ,List.getElem?_cons_zero] at f1 f2;clear hC' hG';go_simp;rfl));(focus (go_simp;rfl)))
  refine loose_call (R:=ConstV (.int .i64 a2)) (f:=37) (args:=#[cstV a1 a2]) (by rfl) (by rfl) (fun _ => by go_simp) (fun w' hC' hG' => const_loose (esizeOf_any a1 a2 w')) ?_
  rintro v5 ⟨w5,_,rfl⟩
  refine ⟨?_,?_,?_⟩
  rotate_left
  ·go_simp
   rfl
  iterate 1 ((with_reducible refine loose_one (v:=?_) (a':=?_) ?_ ?_ (fun w' hC' hG' => ?_) ?_ ?_);rotate_left 2;(focus rfl);(focus rfl);(focus (clear hC' hG';go_simp;rfl));(focus (go_simp;rfl)))
  refine loose_done (fun w6 hC' hG' => ?_)
  have HG6:=Hd (HG.out.of_below hC')
  have HA6:=Hd (show w6.heap[ga]? = some (.cells #[.int .i64 a1,.int .i64 a2] 38 (0,0)) from HA.out.grow hC')
  have HB6:=Hd (show w6.heap[ga + 1]? = some (.cells #[.int .i64 b1,.int .i64 b2] 38 (0,0)) from HB.out.grow hC')
  have HC6:=Hd (show w6.heap[ga + 2]? = some (.cells #[.int .i64 0,.int .i64 0] 38 (0,0)) from HC.out.grow hC')
  have HR6:=Hd (fun x y => Row.setRow_ (HC.out.grow hC') [x,y] rfl)
  clear hG' hC'
  go_wp2_with (first
   | (refine wpList_load_row rfl _ _ rfl _ rfl _ _ _ _ HB6.out Tryz.underlying38 rfl sizeCst ?_)
   | (refine wpList_load_row rfl _ _ rfl _ rfl _ _ _ _ HA6.out Tryz.underlying38 rfl sizeCst ?_)
   | (refine wpList_store_row rfl _ _ _ rfl _ _ rfl rfl _ _ HC6.out sizeCst rfl (by simp [Value.oneCell']) ?_))
  first
   | exact bodyPost_ret (results_cst rfl _ _ _ _ _ rfl (HR6.out _ _)) rfl ⟨by rw [HIF.out HD.out],below_setRow HG6.out (by have:=HGA.out;omega) _⟩
   | exact bodyPost_ret (results_cst rfl _ _ _ _ _ rfl (HR6.out _ _)) rfl ⟨by rw [HIN.out HD.out],below_setRow HG6.out (by have:=HGA.out;omega) _⟩
def bestK (v:Vec):Nat → Nat
 | 0 => 0
 | k + 1 => bestE (cost v) k
theorem bestK_step {v:Vec} (h0:cost v 0 ≠ -1) {k:Nat}:bestK v (k + 1) = if cost v k ≠ -1 ∧ cost v k < cost v (bestK v k) then k else bestK v k:=by
 cases k with
 | zero => show 0 = _;split <;> rfl
 | succ k => rfl
theorem cost_zero {v:Vec} (hok:okV v = true):cost v 0 ≠ -1:=by
 have h:=okT_in (okV_iff.1 hok).t
 have ha:apl 0 v.T = true:=by
  unfold apl
  split
  ·rfl
  ·rw [if_pos (by omega)];rfl
 unfold cost
 rw [if_pos ⟨hok,ha⟩]
 omega
theorem costL_get {v:Vec} {k:Nat} (h:k < (costL v).length):(costL v)[k] = ((k:Int),cost v k):=by simp [costL]
def ChooseRel (w:World) (g:Nat) (v:Vec) (i:Value) (wr:World):Prop:=
 ∃ k:Nat,k ≤ 6 ∧ i = .int .i64 (k:Int) ∧ Row wr g 38 [.int .i64 (bestK v k:Int),.int .i64 (cost v (bestK v k))] ∧ Grows w wr
set_option maxHeartbeats 8000000 in
theorem eChoose_any (x:Value) (v:Vec) (w:World) (hx:IsV w x v) (hs:Small v) (hok:okV v = true) :
 Calls Tryz.prog 16 #[x] w fun e w' => e = .returned (.int .i64 (chooseV v:Int)) ∧ Grows w w':=by
 have HCS:=Hd (fun W (h:Grows w W) => eCosts_any x v W (hx.grow h) hs hok)
 have HC0:=Hd (cost_zero hok)
 obtain ⟨a1,a2,a3,rfl,i1,i2,i3⟩:=hx
 obtain ⟨A1,c1,rfl⟩:=i1.slice_
 obtain ⟨A2,c2,rfl⟩:=i2.slice_
 obtain ⟨A3,c3,rfl⟩:=i3.slice_
 generalize v.T = T at *
 generalize v.is.length = n1 at *
 generalize v.ts.length = n2 at *
 generalize v.ns.length = n3 at *
 have HG0:=Hd (growB w (.cells #[.int .i64 T,.slice A1 n1 c1,.slice A2 n2 c2,.slice A3 n3 c3] 26))
 clear i1 i2 i3 hs hok
 go_enter Tryz.func16,Tryz.ntmps16
 go_wp2_with fail
 refine (HCS.out _ HG0.out).mono ?_
 rintro e w2 ⟨u,rfl,g2,hu⟩
 obtain ⟨AU,cu,rfl⟩:=hu.slice_
 rw [costL_length] at hu ⊢
 obtain ⟨bu,fu,hAU,hcu⟩:=hu.at_
 obtain rfl:=hAU (by rw [costL_length];omega)
 have HCU:=Hd (fun W (h:Grows w2 W) (k:Nat) (hk:k < 6) => show W.cell? ⟨bu,fu + k * 2,none⟩ = some (.int .i64 (k:Int)) ∧ W.cell? ⟨bu,fu + k * 2 + 1,none⟩ = some (.int .i64 (cost v k)) by
  have hl:k < (costL v).length:=by rw [costL_length];exact hk
  obtain ⟨h1,h2⟩:=hcu k hl
  rw [costL_get hl] at h1 h2
  exact ⟨(h.cell (World.block_lt_of_cell? _ _ h1)).trans h1,(h.cell (World.block_lt_of_cell? _ _ h2)).trans h2⟩)
 have HG2:=Hd (HG0.out.of_below g2)
 obtain ⟨hz0,hz1⟩:=HCU.out w2 (Below.refl _ _) 0 (by omega)
 simp only [Nat.zero_mul,Nat.add_zero,Int.natCast_zero] at hz0 hz1
 clear hu hcu hAU g2
 go_wp2_with fail
 go_loopw [7,15] (fun u i wr => ChooseRel w w2.heap.size v i wr ∧ Grows w2 wr) (fun _ i _ => 6 - (intOf i).toNat)
 case atStart => exact ⟨⟨0,by omega,rfl,Row.new _ _ _ _ rfl,HG2.out.of_below (growB _ _)⟩,growB _ _⟩
 case round =>
  obtain ⟨⟨k,hk,rfl,hrow,hb⟩,hg2⟩:=hrel
  have HR:=Hd hrow
  have HB:=Hd hb
  have HG3:=Hd hg2
  have HSZ:=Hd HG2.out.size
  by_cases hlt:k < 6
  ·obtain ⟨hk0,hk1⟩:=HCU.out wr hg2 k hlt
   have HST:=Hd (bestK_step (v:=v) HC0.out (k:=k))
   obtain ⟨c,hc⟩:∃ c,cost v k = c:=⟨_,rfl⟩
   obtain ⟨bb,hbb⟩:∃ b,bestK v k = b:=⟨_,rfl⟩
   obtain ⟨cb,hcb⟩:∃ c,cost v bb = c:=⟨_,rfl⟩
   rw [hc] at hk1
   rw [hbb,hcb] at HR
   rw [hc,hbb,hcb] at HST
   have HGA:=Hd (growB wr (.cells #[.int .i64 (k:Int),.int .i64 c] 38))
   have HB1:=Hd (HB.out.of_below HGA.out)
   have HG31:=Hd (HG3.out.of_below HGA.out)
   have HR1:=Hd (HR.out.grow HGA.out)
   have HRB:=Hd (show (wr.alloc (.cells #[.int .i64 (k:Int),.int .i64 c] 38)).heap[w2.heap.size]? = some (.cells #[.int .i64 (bb:Int),.int .i64 cb] 38 (0,0)) from HR1.out)
   have HRN:=Hd (Row.new wr 38 #[.int .i64 (k:Int),.int .i64 c] [.int .i64 (k:Int),.int .i64 c] rfl)
   by_cases hm:c = -1
   ·have e1:(c != -1) = false:=by simpa using hm
    have HE:=Hd (show bestK v (k + 1) = bb by rw [HST.out,if_neg (by simp [hm])])
    have HCB:=Hd hcb
    subst hm
    clear hrow hb hg2 hc hbb hcb e1
    go_wp2_with fail
    go_roundw
    case rel => exact ⟨⟨k + 1,by omega,by go_num,by rw [HE.out,HCB.out];exact HR1.out,HB1.out⟩,HG31.out⟩
    case measure => simp [intOf];omega
   ·have e1:(c != -1) = true:=by simpa using hm
    have HM:=Hd hm
    have HSM:=Hd (fun W => esmaller_any (bb:Int) cb (k:Int) c W)
    obtain ⟨r1,r2,hr,HN⟩:∃ r1 r2:Int,(if c < cb then cstV (k:Int) c else cstV (bb:Int) cb) = cstV r1 r2 ∧ Hid ((bestK v (k + 1):Int) = r1 ∧ cost v (bestK v (k + 1)) = r2):=by
     by_cases hlt2:c < cb
     ·exact ⟨k,c,if_pos hlt2,Hd ⟨by rw [HST.out,if_pos ⟨hm,hlt2⟩],by rw [HST.out,if_pos ⟨hm,hlt2⟩,hc]⟩⟩
     ·exact ⟨bb,cb,if_neg hlt2,Hd ⟨by rw [HST.out,if_neg (fun h => hlt2 h.2)],by rw [HST.out,if_neg (fun h => hlt2 h.2),hcb]⟩⟩
    rw [hr] at HSM
    clear hrow hb hg2 hc hbb hcb hm hr
    go_wp2_with (first
     | (refine wpList_load_row rfl _ _ rfl _ rfl _ _ _ _ HRB.out Tryz.underlying38 rfl sizeCst ?_)
     | (refine wpList_load_row rfl _ _ rfl wr.heap.size rfl _ _ _ _ HRN.out Tryz.underlying38 rfl sizeCst ?_)
     | (go_at_call 38;refine (HSM.out _).mono ?_;rintro e w5 ⟨rfl,g5⟩;have HB5:=Hd (HB1.out.of_below g5);have HG5:=Hd (HG31.out.of_below g5);have HR5:=Hd (HR1.out.grow g5);have HRW:=Hd (show w5.heap[w2.heap.size]? = some (.cells #[.int .i64 (bb:Int),.int .i64 cb] 38 (0,0)) from HR5.out);have HRS:=Hd (Row.setRow_ HR5.out [.int .i64 r1,.int .i64 r2] rfl);clear g5)
     | (refine wpList_store_row rfl _ _ _ rfl _ #[.int .i64 r1,.int .i64 r2] rfl rfl _ _ HRW.out sizeCst rfl (by simp [Value.oneCell']) ?_))
    go_roundw
    case rel => exact ⟨⟨k + 1,by omega,by go_num,by rw [HN.out.1,HN.out.2];exact HRS.out,below_setRow HB5.out (by have:=HSZ.out;omega) _⟩,below_setRow HG5.out (Nat.le_refl _) _⟩
    case measure => simp [intOf];omega
  ·have hke:k = 6:=by omega
   subst hke
   have hf0:=HR.out.cell 0
   simp only [List.getElem?_cons_zero] at hf0
   have HE:=Hd (show (bestK v 6:Int) = (chooseV v:Int) from rfl)
   generalize bestK v 6 = b6 at *
   clear hrow hb hg2
   go_wp2_with fail
   go_ret
   exact ⟨ret_eq HE.out,HB.out⟩
def UnsRel (w:World) (l:List Int) (out i:Value) (wr:World):Prop:=
 ∃ k:Nat,k ≤ l.length ∧ i = .int .i64 (k:Int) ∧ wr.ownsRow w.heap.size 85 1 out ((l.take k).map toU).length (wcells ((l.take k).map toU)) ∧ Below w.heap.size w wr
set_option maxHeartbeats 4000000 in
theorem runsigned_any (v:Value) (l:List Int) (w:World) (hv:IsI w v l) (hl:l.length ≤ 1000000) :
 Calls Tryz.prog 105 #[v] w fun e w' => ∃ u,e = .returned u ∧ Grows w w' ∧ IsW w' u (l.map toU):=by
 have HV:=Hd hv
 obtain ⟨A,c,rfl⟩:=hv.slice_
 clear hv
 go_enter Tryz.func105,Tryz.ntmps105
 go_wp2_with fail
 go_loopw [3,4] (fun out i wr => UnsRel w l out i wr) (fun _ i _ => l.length - (intOf i).toNat)
 case atStart => exact ⟨0,by omega,rfl,World.ownsRow_nil _ _ _ _,Below.refl _ _⟩
 case round =>
  obtain ⟨k,hk,rfl,hown,hb⟩:=hrel
  have HB:=Hd hb
  have HO:=Hd hown
  clear hb hown
  by_cases hlt:k < l.length
  ·obtain ⟨bb,f,rfl,hck⟩:=(HV.out.grow HB.out).at_ hlt
   have HT:=Hd (show (l.take (k + 1)).map toU = (l.take k).map toU ++ [toU l[k]] by rw [List.take_succ_eq_append_getElem hlt,List.map_append];rfl)
   have HL:=Hd (show ((l.take k).map toU).length = k by rw [List.length_map,List.length_take];omega)
   generalize (l.take k).map toU = ps at *
   generalize l[k] = x at *
   have hsz:=HB.out.size
   go_wp2_with ((at_builtin;go_loud (refine wpList_append_wk rfl _ _ rfl _ ps (by rfl) w.heap.size HO.out _ HB.out hsz _ (toU x) (toU_cast x).symm (by rfl) (by rw [HL.out];omega) ?_);intro v3 w3 hown3 hb3 _;have HO3:=Hd hown3;have HB3:=Hd hb3;clear hown3 hb3))
   go_roundw
   case rel => exact ⟨k + 1,by omega,by go_num,by rw [HT.out];exact HO3.out,HB3.out⟩
   case measure => simp [intOf];omega
  ·have HF:=Hd (show l.take k = l by rw [List.take_of_length_le (by omega)])
   go_wp2_with fail
   go_ret
   refine ⟨_,rfl,HB.out,?_⟩
   have h:=HO.out
   rw [HF.out] at h
   exact Reads.of_own h
theorem rfix8_any (x:Int) (w:World):Calls Tryz.prog 106 #[.int .u64 (IntKind.u64.wrap x),.int .i64 8] w (Made (fixb (toU x) 8) w):=by
 have h1:=toU_cast x
 have h2:=toU_lt x
 have h:=rfixed_any (IntKind.u64.wrap x) 8 w (by omega) (by omega)
 have e:fixs (IntKind.u64.wrap x).toNat 8 = fixb (toU x) 8:=fixs_ok (s:=8) (by decide) (by decide)
 rwa [e] at h
def plR (v:Vec):List UInt8:=if v.T = 1 then plB v.is else plI v.is ++ wordsL v.ts
theorem plR_pay {v:Vec} (h:Encable v):plR v = pay 0 v:=by
 unfold plR pay payT payI
 by_cases h3:v.T = 3
 ·rw [if_neg (by omega),if_pos h3,(h.lt h3).2];rfl
 ·rw [if_neg h3,if_pos rfl]
  by_cases h1:v.T = 1
  ·rw [if_pos h1,if_pos h1]
  ·rw [if_neg h1,if_neg h1,(h.li h3).2];simp [wordsL]
def PlIRel (w1:World) (l:List Int) (out i:Value) (wr:World):Prop:=
 ∃ k:Nat,k ≤ l.length ∧ i = .int .i64 (k:Int) ∧ wr.ownsRow w1.heap.size 5 1 out (plI (l.take k)).length (bcells (plI (l.take k))) ∧ Below w1.heap.size w1 wr
def PlTRel (w1:World) (P:List UInt8) (l:List Str) (out i:Value) (wr:World):Prop:=
 ∃ k:Nat,k ≤ l.length ∧ i = .int .i64 (k:Int) ∧ wr.ownsRow w1.heap.size 5 1 out (P ++ wordsL (l.take k)).length (bcells (P ++ wordsL (l.take k))) ∧ Below w1.heap.size w1 wr
set_option maxHeartbeats 8000000 in
theorem rplain_any (x:Value) (v:Vec) (w:World) (hx:IsV w x v) (hf:Fine v):Calls Tryz.prog 51 #[x] w (ByR (plR v) w):=by
 obtain ⟨a1,a2,a3,rfl,j1,j2,j3⟩:=hx
 obtain ⟨A1,c1,rfl⟩:=j1.slice_
 obtain ⟨A2,c2,rfl⟩:=j2.slice_
 obtain ⟨A3,c3,rfl⟩:=j3.slice_
 have hli:=hf.li
 have hlt:=hf.lt
 have HSS:=Hd hf.ss
 have HWT:=Hd (words_tot hf.lt hf.ss)
 obtain ⟨T,is,ts,ns⟩:=v
 dsimp only at *
 have HG1:=Hd (growB w (.cells #[.int .i64 T,.slice A1 is.length c1,.slice A2 ts.length c2,.slice A3 ns.length c3] 26))
 have HR:=Hd (Row.new w 26 #[.int .i64 T,.slice A1 is.length c1,.slice A2 ts.length c2,.slice A3 ns.length c3] [.int .i64 T,.slice A1 is.length c1,.slice A2 ts.length c2,.slice A3 ns.length c3] rfl)
 have HI:=Hd (IsI.grow j1 HG1.out)
 have HTX:=Hd (IsS.grow j2 HG1.out)
 clear j1 j2 j3 hf
 by_cases hT:T = 1
 ·subst hT
  have HE:=Hd (show plR ⟨1,is,ts,ns⟩ = plB is from if_pos rfl)
  have HU:=Hd (runsigned_any (.slice A1 is.length c1) is _ HI.out (by omega))
  have HP:=Hd (fun u W h => rpack_any u (is.map toU) 1 W h (U64_toU is) (by rw [List.length_map];omega))
  rw [packI_one (by omega)] at HP
  go_enter Tryz.func51,Tryz.ntmps51
  go_wp2_with fail
  refine HU.out.mono ?_
  rintro e w2 ⟨u,rfl,g2,hu⟩
  have HG2:=Hd (HG1.out.of_below g2)
  have HUW:=Hd hu
  clear g2 hu
  go_wp2_with fail
  refine (HP.out u w2 HUW.out).mono ?_
  rintro e w3 ⟨v3,rfl,g3,hb3⟩
  have HG3:=Hd (HG2.out.of_below g3)
  have HB3:=Hd hb3
  clear g3 hb3
  go_wp2_with fail
  go_ret
  exact ⟨_,rfl,HG3.out,by rw [HE.out];exact HB3.out⟩
 ·have HE:=Hd (show plR ⟨T,is,ts,ns⟩ = plI is ++ wordsL ts from if_neg hT)
  have eT:(T == 1) = false:=by simpa using hT
  clear hT
  go_enter Tryz.func51,Tryz.ntmps51
  go_wp2_with fail
  go_loopw [3,4] (fun out i wr => PlIRel (w.alloc (.cells #[.int .i64 T,.slice A1 is.length c1,.slice A2 ts.length c2,.slice A3 ns.length c3] 26)) is out i wr) (fun _ i _ => is.length - (intOf i).toNat)
  case atStart => exact ⟨0,by omega,rfl,World.ownsRow_nil _ _ _ _,Below.refl _ _⟩
  case round =>
   obtain ⟨k,hk,rfl,hown,hb⟩:=hrel
   have HB:=Hd hb
   have HO:=Hd hown
   have HRW:=Hd (HR.out.grow hb)
   have x0:=HRW.out.cell 0
   have x1:=HRW.out.cell 1
   have x2:=HRW.out.cell 2
   have x3:=HRW.out.cell 3
   simp only [List.getElem?_cons_succ,List.getElem?_cons_zero] at x0 x1 x2 x3
   clear hb hown
   by_cases hki:k < is.length
   ·obtain ⟨bb,f,hA,hck⟩:=(HI.out.grow HB.out).at_ hki
    subst hA
    have HT:=Hd (show plI (is.take (k + 1)) = plI (is.take k) ++ fixb (toU is[k]) 8 by rw [List.take_succ_eq_append_getElem hki,plI_snoc])
    have HL:=Hd (show (plI (is.take k)).length ≤ 8 * 65536 by rw [plI_length,List.length_take];omega)
    generalize plI (is.take k) = ps at *
    generalize is[k] = x at *
    have HFX:=Hd (rfix8_any x wr)
    have HFL:=Hd (fixb_length (toU x) 8)
    generalize fixb (toU x) 8 = F at *
    go_wp2_with fail
    refine HFX.out.mono ?_
    rintro e w2 ⟨v2,rfl,hown2,g2⟩
    have HO2:=Hd (own_growS HO.out g2)
    have HB2:=Hd (HB.out.trans (g2.mono HB.out.size))
    have HBY:=Hd (IsBytes.of_own hown2)
    clear hown2 g2 hck
    go_wp2_with ((at_builtin;go_loud (refine wpList_append_bytes (w:=w.alloc (.cells #[.int .i64 T,.slice (some ⟨bb,f,none⟩) is.length c1,.slice A2 ts.length c2,.slice A3 ns.length c3] 26)) rfl _ _ 29 rfl 5 Tryz.underlying29 info_u8 _ ps (by rfl) HO2.out HB2.out _ F (by rfl) HBY.out (by have:=HL.out;have:=HFL.out;omega) ?_);intro v3 w3 hown3 hb3;have HO3:=Hd hown3;have HB3:=Hd hb3;clear hown3 hb3))
    go_roundw
    case rel => exact ⟨k + 1,by omega,by go_num,by rw [HT.out];exact HO3.out,HB3.out⟩
    case measure => simp [intOf];omega
   ·have HF:=Hd (show is.take k = is by rw [List.take_of_length_le (by omega)])
    rw [HF.out] at HO
    have HPL:=Hd (plI_length is)
    generalize plI is = P at *
    go_wp2_with fail
    go_loopw [3,5] (fun out i wr' => PlTRel (w.alloc (.cells #[.int .i64 T,.slice A1 is.length c1,.slice A2 ts.length c2,.slice A3 ns.length c3] 26)) P ts out i wr') (fun _ i _ => ts.length - (intOf i).toNat)
    case atStart => exact ⟨0,by omega,rfl,by have h:=HO.out;simpa [wordsL] using h,HB.out⟩
    case round =>
     obtain ⟨j,hj,rfl,hown2,hb2⟩:=hrel
     have HB:=Hd hb2
     have HO:=Hd hown2
     have HRW:=Hd (HR.out.grow hb2)
     have x0:=HRW.out.cell 0
     have x1:=HRW.out.cell 1
     have x2:=HRW.out.cell 2
     have x3:=HRW.out.cell 3
     simp only [List.getElem?_cons_succ,List.getElem?_cons_zero] at x0 x1 x2 x3
     clear hb2 hown2
     by_cases hkj:j < ts.length
     ·obtain ⟨bb,f,hA,hcA⟩:=HTX.out.all_ (by omega)
      subst hA
      have HCK:=Hd (fun W hW => hcA W hW j hkj)
      have hck:=HCK.out _ HB.out
      clear hcA
      have HTK:=Hd (wordsL_take hkj)
      have hsl:=HSS.out _ (List.getElem_mem hkj)
      have HWL:=Hd (show (wordsL (ts.take j)).length ≤ 100000000000000 by
       have h1:=wordsL_len (ws:=ts.take j) fun x hx => Nat.le_trans (HSS.out x (List.mem_of_mem_take hx)) (by decide)
       rw [List.length_take] at h1
       have h3:1000010 * min j ts.length ≤ 1000010 * 1000000:=Nat.mul_le_mul_left _ (by omega)
       omega)
      obtain ⟨Q,hQ⟩:∃ Q,P ++ wordsL (ts.take j) = Q:=⟨_,rfl⟩
      have HTP:=Hd (show P ++ wordsL (ts.take (j + 1)) = Q ++ enc ts[j].length ++ ts[j] by
       rw [HTK.out,← hQ];simp [wordL])
      have HQL:=Hd (show Q.length ≤ 100000001000000 by rw [← hQ,List.length_append,HPL.out];have:=HWL.out;omega)
      rw [hQ] at HO
      have hsz:(strOf ts[j]).size = ts[j].length:=rfl
      have HEK:=Hd (rencode_any (ts[j].length:Int) wr (by omega) (by omega))
      rw [Int.toNat_natCast] at HEK
      have HEL2:=Hd (enc_len10 (n:=ts[j].length) (by omega))
      have hwk:IntKind.u64.wrap (ts[j].length:Int) = (ts[j].length:Int):=by rw [IntKind.wrap_u64];omega
      generalize ts[j] = s at *
      generalize enc s.length = E at *
      clear hQ HTK
      go_wp2_with fail
      refine HEK.out.mono ?_
      rintro e w2 ⟨v2,rfl,hown2,g2⟩
      have HO2:=Hd (own_growS HO.out g2)
      have HB2:=Hd (HB.out.trans (g2.mono HB.out.size))
      have HBY:=Hd (IsBytes.of_own hown2)
      clear hown2 g2 hck
      have hw1:=HQL.out
      have hw2:=HEL2.out
      go_wp2_with (first
       | (at_builtin;refine wpList_append_bytes (w:=w.alloc (.cells #[.int .i64 T,.slice A1 is.length c1,.slice (some ⟨bb,f,none⟩) ts.length c2,.slice A3 ns.length c3] 26)) rfl _ _ 29 rfl 5 Tryz.underlying29 info_u8 _ Q (by rfl) HO2.out HB2.out _ E (by rfl) HBY.out (by omega) ?_;intro v3 w3 hown3 hb3;have HO3:=Hd hown3;have HB3:=Hd hb3;have HRX:=Hd (HR.out.grow hb3);have x0:=HRX.out.cell 0;have x1:=HRX.out.cell 1;have x2:=HRX.out.cell 2;have x3:=HRX.out.cell 3;simp only [List.getElem?_cons_succ,List.getElem?_cons_zero] at x0 x1 x2 x3;have hck3:=HCK.out _ hb3;clear hown3 hb3)
       | (at_builtin;refine wpList_append_str (w:=w.alloc (.cells #[.int .i64 T,.slice A1 is.length c1,.slice (some ⟨bb,f,none⟩) ts.length c2,.slice A3 ns.length c3] 26)) rfl _ _ 29 9 rfl 5 Tryz.underlying29 Tryz.underlying9 info_u8 _ (Q ++ E) (by rfl) HO3.out HB3.out s (by rfl) (by rw [List.length_append];omega) ?_;intro v4 w4 hown4 hb4;have HO4:=Hd hown4;have HB4:=Hd hb4;clear hown4 hb4))
      go_roundw
      case rel => exact ⟨j + 1,by omega,by go_num,by rw [HTP.out];exact HO4.out,HB4.out⟩
      case measure => simp [intOf];omega
     ·have HF2:=Hd (show ts.take j = ts by rw [List.take_of_length_le (by omega)])
      rw [HF2.out] at HO
      go_wp2_with fail
      go_ret
      exact ⟨_,rfl,HG1.out.of_below HB.out,by rw [HE.out];exact IsBytes.of_own HO.out⟩
set_option maxHeartbeats 4000000 in
theorem rform0_any (x:Value) (v:Vec) (w:World) (hx:IsV w x v) (hf:Fine v) (he:Encable v) (ha:apl 0 v.T = true) :
 Calls Tryz.prog 36 #[x,.int .i64 0] w (ByR (formE 0 v) w):=by
 have hpl:=pay_len (k:=0) hf
 have hx0:=hx
 obtain ⟨a1,a2,a3,rfl,j1,j2,j3⟩:=hx0
 obtain ⟨A1,c1,rfl⟩:=j1.slice_
 obtain ⟨A2,c2,rfl⟩:=j2.slice_
 obtain ⟨A3,c3,rfl⟩:=j3.slice_
 obtain ⟨T,is,ts,ns⟩:=v
 dsimp only at *
 have hfe:formE 0 ⟨T,is,ts,ns⟩ = [UInt8.ofNat 0] ++ plR ⟨T,is,ts,ns⟩:=by unfold formE;rw [← plR_pay he];rfl
 have hpe:(formE 0 ⟨T,is,ts,ns⟩).length = (pay 0 ⟨T,is,ts,ns⟩).length + 1:=by unfold formE;rw [List.length_cons]
 have HLEN:=Hd (show (plR ⟨T,is,ts,ns⟩).length ≤ 100000000000000 by rw [hfe,List.length_append,List.length_cons,List.length_nil] at hpe;omega)
 have HFE:=Hd hfe
 have HC:=Hd (fun W (h:Grows w W) => rplain_any (.agg #[.int .i64 T,.slice A1 is.length c1,.slice A2 ts.length c2,.slice A3 ns.length c3]) ⟨T,is,ts,ns⟩ W (hx.grow h) hf)
 generalize plR ⟨T,is,ts,ns⟩ = L at *
 have HG1:=Hd (growB w (.cells #[.int .i64 T,.slice A1 is.length c1,.slice A2 ts.length c2,.slice A3 ns.length c3] 26))
 have HR:=Hd ((Row.new w 26 #[.int .i64 T,.slice A1 is.length c1,.slice A2 ts.length c2,.slice A3 ns.length c3] [.int .i64 T,.slice A1 is.length c1,.slice A2 ts.length c2,.slice A3 ns.length c3] rfl).grow (growB _ (.cells #[.int .u8 0] 5)))
 have HG2:=Hd (HG1.out.of_below (growB (w.alloc (.cells #[.int .i64 T,.slice A1 is.length c1,.slice A2 ts.length c2,.slice A3 ns.length c3] 26)) (.cells #[.int .u8 0] 5)))
 have HO:=Hd ((Row.at_ (w.alloc (.cells #[.int .i64 T,.slice A1 is.length c1,.slice A2 ts.length c2,.slice A3 ns.length c3] 26)) 5 #[.int .u8 0] (bcells [UInt8.ofNat 0]) rfl (w.heap.size + 1) (by rw [World.size_alloc])).own (base:=w.heap.size) (by omega) (by decide))
 have x0:=HR.out.cell 0
 have x1:=HR.out.cell 1
 have x2:=HR.out.cell 2
 have x3:=HR.out.cell 3
 simp only [List.getElem?_cons_succ,List.getElem?_cons_zero] at x0 x1 x2 x3
 clear hx hpl hfe hpe j1 j2 j3 hf he ha
 go_enter Tryz.func36,Tryz.ntmps36
 go_wp2_with fail
 refine (HC.out _ HG2.out).mono ?_
 rintro e w4 ⟨v4,rfl,g4,hby4⟩
 have HBY:=Hd hby4
 have HG4:=Hd (HG2.out.of_below g4)
 have HO4:=Hd (own_growS HO.out g4)
 clear hby4 g4 x0 x1 x2 x3
 go_wp2_with ((at_builtin;go_loud (refine wpList_append_bytes (w:=w) rfl _ _ 29 rfl 5 Tryz.underlying29 info_u8 _ [UInt8.ofNat 0] (by rfl) HO4.out HG4.out _ L (by rfl) HBY.out (by have:=HLEN.out;rw [List.length_cons,List.length_nil];omega) ?_);intro v5 w5 hown5 hb5;have HO5:=Hd hown5;have HB5:=Hd hb5;clear hown5 hb5))
 go_ret
 exact ⟨_,rfl,HB5.out,by rw [HFE.out];exact IsBytes.of_own HO5.out⟩
set_option maxHeartbeats 4000000 in
theorem rform1_any (x:Value) (v:Vec) (w:World) (hx:IsV w x v) (hf:Fine v) (he:Encable v) (ha:apl 1 v.T = true) :
 Calls Tryz.prog 36 #[x,.int .i64 1] w (ByR (formE 1 v) w):=by
 have hpl:=pay_len (k:=1) hf
 have hx0:=hx
 obtain ⟨a1,a2,a3,rfl,j1,j2,j3⟩:=hx0
 obtain ⟨A1,c1,rfl⟩:=j1.slice_
 obtain ⟨A2,c2,rfl⟩:=j2.slice_
 obtain ⟨A3,c3,rfl⟩:=j3.slice_
 obtain ⟨T,is,ts,ns⟩:=v
 dsimp only at *
 have hfe:formE 1 ⟨T,is,ts,ns⟩ = [UInt8.ofNat 1] ++ encR (runsR is):=by unfold formE pay payI;rw [if_neg (by have h:=ha;unfold apl at h;dsimp only at h ⊢;intro h3;subst h3;simp at h)];rfl
 have hpe:(formE 1 ⟨T,is,ts,ns⟩).length = (pay 1 ⟨T,is,ts,ns⟩).length + 1:=by unfold formE;rw [List.length_cons]
 have HLEN:=Hd (show (encR (runsR is)).length ≤ 100000000000000 by rw [hfe,List.length_append,List.length_cons,List.length_nil] at hpe;omega)
 have HFE:=Hd hfe
 have hli:is.length ≤ 65536:=hf.li
 have hval:=runs_valid hli
 have hll:=valid_length hval
 have hcnt:∀ x ∈ runsR is,0 ≤ x.2 ∧ x.2 ≤ 9223372036854775807:=fun x hx => by obtain ⟨j,hj,rfl⟩:=List.getElem_of_mem hx;have h1:=valid_count hval hj;have h2:=(valid_sum hval j (by omega)).1;omega
 have HRU:=Hd (fun W (h:Grows w W) => rlruns_any (.slice A1 is.length c1) is W (IsI.grow j1 h) (Nat.le_trans hf.li (by decide)))
 have HC:=Hd (fun w' v' (h:ReadsR w' v' (runsR is)) => rlencode_any v' (runsR is) w' h (runs_in hf.ii) hcnt (by omega))
 generalize encR (runsR is) = L at *
 have HG1:=Hd (growB w (.cells #[.int .i64 T,.slice A1 is.length c1,.slice A2 ts.length c2,.slice A3 ns.length c3] 26))
 have HR:=Hd ((Row.new w 26 #[.int .i64 T,.slice A1 is.length c1,.slice A2 ts.length c2,.slice A3 ns.length c3] [.int .i64 T,.slice A1 is.length c1,.slice A2 ts.length c2,.slice A3 ns.length c3] rfl).grow (growB _ (.cells #[.int .u8 1] 5)))
 have HG2:=Hd (HG1.out.of_below (growB (w.alloc (.cells #[.int .i64 T,.slice A1 is.length c1,.slice A2 ts.length c2,.slice A3 ns.length c3] 26)) (.cells #[.int .u8 1] 5)))
 have HO:=Hd ((Row.at_ (w.alloc (.cells #[.int .i64 T,.slice A1 is.length c1,.slice A2 ts.length c2,.slice A3 ns.length c3] 26)) 5 #[.int .u8 1] (bcells [UInt8.ofNat 1]) rfl (w.heap.size + 1) (by rw [World.size_alloc])).own (base:=w.heap.size) (by omega) (by decide))
 have x0:=HR.out.cell 0
 have x1:=HR.out.cell 1
 have x2:=HR.out.cell 2
 have x3:=HR.out.cell 3
 simp only [List.getElem?_cons_succ,List.getElem?_cons_zero] at x0 x1 x2 x3
 clear hx hpl hfe hpe j1 j2 j3 hf he ha hval hll hcnt hli
 go_enter Tryz.func36,Tryz.ntmps36
 go_wp2_with fail
 refine (HRU.out _ HG2.out).mono ?_
 rintro e w2 ⟨u,rfl,g2,hr2⟩
 have HR2:=Hd hr2
 have HG3:=Hd (HG2.out.of_below g2)
 have HO3:=Hd (own_growS HO.out g2)
 clear hr2 g2
 go_wp2_with fail
 refine (HC.out _ _ HR2.out).mono ?_
 rintro e w4 ⟨v4,rfl,hown4,g4⟩
 have HBY:=Hd (IsBytes.of_own hown4)
 have HG4:=Hd (HG3.out.of_below g4)
 have HO4:=Hd (own_growS HO3.out g4)
 clear hown4 g4 x0 x1 x2 x3
 go_wp2_with ((at_builtin;go_loud (refine wpList_append_bytes (w:=w) rfl _ _ 29 rfl 5 Tryz.underlying29 info_u8 _ [UInt8.ofNat 1] (by rfl) HO4.out HG4.out _ L (by rfl) HBY.out (by have:=HLEN.out;rw [List.length_cons,List.length_nil];omega) ?_);intro v5 w5 hown5 hb5;have HO5:=Hd hown5;have HB5:=Hd hb5;clear hown5 hb5))
 go_ret
 exact ⟨_,rfl,HB5.out,by rw [HFE.out];exact IsBytes.of_own HO5.out⟩
set_option maxHeartbeats 4000000 in
theorem rform2_any (x:Value) (v:Vec) (w:World) (hx:IsV w x v) (hf:Fine v) (he:Encable v) (ha:apl 2 v.T = true) :
 Calls Tryz.prog 36 #[x,.int .i64 2] w (ByR (formE 2 v) w):=by
 have hpl:=pay_len (k:=2) hf
 have hx0:=hx
 obtain ⟨a1,a2,a3,rfl,j1,j2,j3⟩:=hx0
 obtain ⟨A1,c1,rfl⟩:=j1.slice_
 obtain ⟨A2,c2,rfl⟩:=j2.slice_
 obtain ⟨A3,c3,rfl⟩:=j3.slice_
 obtain ⟨T,is,ts,ns⟩:=v
 dsimp only at *
 have hfe:formE 2 ⟨T,is,ts,ns⟩ = [UInt8.ofNat 2] ++ encV is:=by unfold formE pay payI;rw [if_neg (by have h:=ha;unfold apl at h;dsimp only at h ⊢;intro h3;subst h3;simp at h)];rfl
 have hpe:(formE 2 ⟨T,is,ts,ns⟩).length = (pay 2 ⟨T,is,ts,ns⟩).length + 1:=by unfold formE;rw [List.length_cons]
 have HLEN:=Hd (show (encV is).length ≤ 100000000000000 by rw [hfe,List.length_append,List.length_cons,List.length_nil] at hpe;omega)
 have HFE:=Hd hfe
 have HC:=Hd (fun W (h:Grows w W) => rencodeF_any (.slice A1 is.length c1) is W (IsI.grow j1 h) hf.li hf.ii)
 generalize encV is = L at *
 have HG1:=Hd (growB w (.cells #[.int .i64 T,.slice A1 is.length c1,.slice A2 ts.length c2,.slice A3 ns.length c3] 26))
 have HR:=Hd ((Row.new w 26 #[.int .i64 T,.slice A1 is.length c1,.slice A2 ts.length c2,.slice A3 ns.length c3] [.int .i64 T,.slice A1 is.length c1,.slice A2 ts.length c2,.slice A3 ns.length c3] rfl).grow (growB _ (.cells #[.int .u8 2] 5)))
 have HG2:=Hd (HG1.out.of_below (growB (w.alloc (.cells #[.int .i64 T,.slice A1 is.length c1,.slice A2 ts.length c2,.slice A3 ns.length c3] 26)) (.cells #[.int .u8 2] 5)))
 have HO:=Hd ((Row.at_ (w.alloc (.cells #[.int .i64 T,.slice A1 is.length c1,.slice A2 ts.length c2,.slice A3 ns.length c3] 26)) 5 #[.int .u8 2] (bcells [UInt8.ofNat 2]) rfl (w.heap.size + 1) (by rw [World.size_alloc])).own (base:=w.heap.size) (by omega) (by decide))
 have x0:=HR.out.cell 0
 have x1:=HR.out.cell 1
 have x2:=HR.out.cell 2
 have x3:=HR.out.cell 3
 simp only [List.getElem?_cons_succ,List.getElem?_cons_zero] at x0 x1 x2 x3
 clear hx hpl hfe hpe j1 j2 j3 hf he ha
 go_enter Tryz.func36,Tryz.ntmps36
 go_wp2_with fail
 refine (HC.out _ HG2.out).mono ?_
 rintro e w4 ⟨v4,rfl,g4,hby4⟩
 have HBY:=Hd hby4
 have HG4:=Hd (HG2.out.of_below g4)
 have HO4:=Hd (own_growS HO.out g4)
 clear hby4 g4 x0 x1 x2 x3
 go_wp2_with ((at_builtin;go_loud (refine wpList_append_bytes (w:=w) rfl _ _ 29 rfl 5 Tryz.underlying29 info_u8 _ [UInt8.ofNat 2] (by rfl) HO4.out HG4.out _ L (by rfl) HBY.out (by have:=HLEN.out;rw [List.length_cons,List.length_nil];omega) ?_);intro v5 w5 hown5 hb5;have HO5:=Hd hown5;have HB5:=Hd hb5;clear hown5 hb5))
 go_ret
 exact ⟨_,rfl,HB5.out,by rw [HFE.out];exact IsBytes.of_own HO5.out⟩
set_option maxHeartbeats 4000000 in
theorem rform3_any (x:Value) (v:Vec) (w:World) (hx:IsV w x v) (hf:Fine v) (he:Encable v) (ha:apl 3 v.T = true) :
 Calls Tryz.prog 36 #[x,.int .i64 3] w (ByR (formE 3 v) w):=by
 have hpl:=pay_len (k:=3) hf
 have hx0:=hx
 obtain ⟨a1,a2,a3,rfl,j1,j2,j3⟩:=hx0
 obtain ⟨A1,c1,rfl⟩:=j1.slice_
 obtain ⟨A2,c2,rfl⟩:=j2.slice_
 obtain ⟨A3,c3,rfl⟩:=j3.slice_
 obtain ⟨T,is,ts,ns⟩:=v
 dsimp only at *
 have hfe:formE 3 ⟨T,is,ts,ns⟩ = [UInt8.ofNat 3] ++ dlEnc is:=by unfold formE pay payI;rw [if_neg (by have h:=ha;unfold apl at h;dsimp only at h ⊢;intro h3;subst h3;simp at h)];rfl
 have hpe:(formE 3 ⟨T,is,ts,ns⟩).length = (pay 3 ⟨T,is,ts,ns⟩).length + 1:=by unfold formE;rw [List.length_cons]
 have HLEN:=Hd (show (dlEnc is).length ≤ 100000000000000 by rw [hfe,List.length_append,List.length_cons,List.length_nil] at hpe;omega)
 have HFE:=Hd hfe
 have HC:=Hd (fun W (h:Grows w W) => renc_any (.slice A1 is.length c1) is W (IsI.grow j1 h) hf.li hf.ii)
 generalize dlEnc is = L at *
 have HG1:=Hd (growB w (.cells #[.int .i64 T,.slice A1 is.length c1,.slice A2 ts.length c2,.slice A3 ns.length c3] 26))
 have HR:=Hd ((Row.new w 26 #[.int .i64 T,.slice A1 is.length c1,.slice A2 ts.length c2,.slice A3 ns.length c3] [.int .i64 T,.slice A1 is.length c1,.slice A2 ts.length c2,.slice A3 ns.length c3] rfl).grow (growB _ (.cells #[.int .u8 3] 5)))
 have HG2:=Hd (HG1.out.of_below (growB (w.alloc (.cells #[.int .i64 T,.slice A1 is.length c1,.slice A2 ts.length c2,.slice A3 ns.length c3] 26)) (.cells #[.int .u8 3] 5)))
 have HO:=Hd ((Row.at_ (w.alloc (.cells #[.int .i64 T,.slice A1 is.length c1,.slice A2 ts.length c2,.slice A3 ns.length c3] 26)) 5 #[.int .u8 3] (bcells [UInt8.ofNat 3]) rfl (w.heap.size + 1) (by rw [World.size_alloc])).own (base:=w.heap.size) (by omega) (by decide))
 have x0:=HR.out.cell 0
 have x1:=HR.out.cell 1
 have x2:=HR.out.cell 2
 have x3:=HR.out.cell 3
 simp only [List.getElem?_cons_succ,List.getElem?_cons_zero] at x0 x1 x2 x3
 clear hx hpl hfe hpe j1 j2 j3 hf he ha
 go_enter Tryz.func36,Tryz.ntmps36
 go_wp2_with fail
 refine (HC.out _ HG2.out).mono ?_
 rintro e w4 ⟨v4,rfl,g4,hby4⟩
 have HBY:=Hd hby4
 have HG4:=Hd (HG2.out.of_below g4)
 have HO4:=Hd (own_growS HO.out g4)
 clear hby4 g4 x0 x1 x2 x3
 go_wp2_with ((at_builtin;go_loud (refine wpList_append_bytes (w:=w) rfl _ _ 29 rfl 5 Tryz.underlying29 info_u8 _ [UInt8.ofNat 3] (by rfl) HO4.out HG4.out _ L (by rfl) HBY.out (by have:=HLEN.out;rw [List.length_cons,List.length_nil];omega) ?_);intro v5 w5 hown5 hb5;have HO5:=Hd hown5;have HB5:=Hd hb5;clear hown5 hb5))
 go_ret
 exact ⟨_,rfl,HB5.out,by rw [HFE.out];exact IsBytes.of_own HO5.out⟩
set_option maxHeartbeats 4000000 in
theorem rform4_any (x:Value) (v:Vec) (w:World) (hx:IsV w x v) (hf:Fine v) (he:Encable v) (ha:apl 4 v.T = true) :
 Calls Tryz.prog 36 #[x,.int .i64 4] w (ByR (formE 4 v) w):=by
 have hpl:=pay_len (k:=4) hf
 have hx0:=hx
 obtain ⟨a1,a2,a3,rfl,j1,j2,j3⟩:=hx0
 obtain ⟨A1,c1,rfl⟩:=j1.slice_
 obtain ⟨A2,c2,rfl⟩:=j2.slice_
 obtain ⟨A3,c3,rfl⟩:=j3.slice_
 obtain ⟨T,is,ts,ns⟩:=v
 dsimp only at *
 have hfe:formE 4 ⟨T,is,ts,ns⟩ = [UInt8.ofNat 4] ++ encT ts:=by unfold formE pay payT;rw [if_pos (Decidable.byContradiction fun h3 => by have h4:=apl_num h3 ha;omega)];rfl
 have hpe:(formE 4 ⟨T,is,ts,ns⟩).length = (pay 4 ⟨T,is,ts,ns⟩).length + 1:=by unfold formE;rw [List.length_cons]
 have HLEN:=Hd (show (encT ts).length ≤ 100000000000000 by rw [hfe,List.length_append,List.length_cons,List.length_nil] at hpe;omega)
 have HFE:=Hd hfe
 have HC:=Hd (fun W (h:Grows w W) => rencode10_any (.slice A2 ts.length c2) ts W (IsS.grow j2 h) (Nat.le_trans hf.lt (by decide)) (fun s hs => Nat.le_trans (hf.ss s hs) (by decide)))
 generalize encT ts = L at *
 have HG1:=Hd (growB w (.cells #[.int .i64 T,.slice A1 is.length c1,.slice A2 ts.length c2,.slice A3 ns.length c3] 26))
 have HR:=Hd ((Row.new w 26 #[.int .i64 T,.slice A1 is.length c1,.slice A2 ts.length c2,.slice A3 ns.length c3] [.int .i64 T,.slice A1 is.length c1,.slice A2 ts.length c2,.slice A3 ns.length c3] rfl).grow (growB _ (.cells #[.int .u8 4] 5)))
 have HG2:=Hd (HG1.out.of_below (growB (w.alloc (.cells #[.int .i64 T,.slice A1 is.length c1,.slice A2 ts.length c2,.slice A3 ns.length c3] 26)) (.cells #[.int .u8 4] 5)))
 have HO:=Hd ((Row.at_ (w.alloc (.cells #[.int .i64 T,.slice A1 is.length c1,.slice A2 ts.length c2,.slice A3 ns.length c3] 26)) 5 #[.int .u8 4] (bcells [UInt8.ofNat 4]) rfl (w.heap.size + 1) (by rw [World.size_alloc])).own (base:=w.heap.size) (by omega) (by decide))
 have x0:=HR.out.cell 0
 have x1:=HR.out.cell 1
 have x2:=HR.out.cell 2
 have x3:=HR.out.cell 3
 simp only [List.getElem?_cons_succ,List.getElem?_cons_zero] at x0 x1 x2 x3
 clear hx hpl hfe hpe j1 j2 j3 hf he ha
 go_enter Tryz.func36,Tryz.ntmps36
 go_wp2_with fail
 refine (HC.out _ HG2.out).mono ?_
 rintro e w4 ⟨v4,rfl,hown4,g4⟩
 have HBY:=Hd (IsBytes.of_own hown4)
 have HG4:=Hd (HG2.out.of_below g4)
 have HO4:=Hd (own_growS HO.out g4)
 clear hown4 g4 x0 x1 x2 x3
 go_wp2_with ((at_builtin;go_loud (refine wpList_append_bytes (w:=w) rfl _ _ 29 rfl 5 Tryz.underlying29 info_u8 _ [UInt8.ofNat 4] (by rfl) HO4.out HG4.out _ L (by rfl) HBY.out (by have:=HLEN.out;rw [List.length_cons,List.length_nil];omega) ?_);intro v5 w5 hown5 hb5;have HO5:=Hd hown5;have HB5:=Hd hb5;clear hown5 hb5))
 go_ret
 exact ⟨_,rfl,HB5.out,by rw [HFE.out];exact IsBytes.of_own HO5.out⟩
set_option maxHeartbeats 4000000 in
theorem rform5_any (x:Value) (v:Vec) (w:World) (hx:IsV w x v) (hf:Fine v) (he:Encable v) (ha:apl 5 v.T = true) :
 Calls Tryz.prog 36 #[x,.int .i64 5] w (ByR (formE 5 v) w):=by
 have hpl:=pay_len (k:=5) hf
 have hx0:=hx
 obtain ⟨a1,a2,a3,rfl,j1,j2,j3⟩:=hx0
 obtain ⟨A1,c1,rfl⟩:=j1.slice_
 obtain ⟨A2,c2,rfl⟩:=j2.slice_
 obtain ⟨A3,c3,rfl⟩:=j3.slice_
 obtain ⟨T,is,ts,ns⟩:=v
 dsimp only at *
 have hfe:formE 5 ⟨T,is,ts,ns⟩ = [UInt8.ofNat 5] ++ fcEnc ts:=by unfold formE pay payT;rw [if_pos (Decidable.byContradiction fun h3 => by have h4:=apl_num h3 ha;omega)];rfl
 have hpe:(formE 5 ⟨T,is,ts,ns⟩).length = (pay 5 ⟨T,is,ts,ns⟩).length + 1:=by unfold formE;rw [List.length_cons]
 have HLEN:=Hd (show (fcEnc ts).length ≤ 100000000000000 by rw [hfe,List.length_append,List.length_cons,List.length_nil] at hpe;omega)
 have HFE:=Hd hfe
 have HC:=Hd (fun W (h:Grows w W) => rfencode_any (.slice A2 ts.length c2) ts W (IsS.grow j2 h) (Nat.le_trans hf.lt (by decide)) (fun s hs => Nat.le_trans (hf.ss s hs) (by decide)))
 generalize fcEnc ts = L at *
 have HG1:=Hd (growB w (.cells #[.int .i64 T,.slice A1 is.length c1,.slice A2 ts.length c2,.slice A3 ns.length c3] 26))
 have HR:=Hd ((Row.new w 26 #[.int .i64 T,.slice A1 is.length c1,.slice A2 ts.length c2,.slice A3 ns.length c3] [.int .i64 T,.slice A1 is.length c1,.slice A2 ts.length c2,.slice A3 ns.length c3] rfl).grow (growB _ (.cells #[.int .u8 5] 5)))
 have HG2:=Hd (HG1.out.of_below (growB (w.alloc (.cells #[.int .i64 T,.slice A1 is.length c1,.slice A2 ts.length c2,.slice A3 ns.length c3] 26)) (.cells #[.int .u8 5] 5)))
 have HO:=Hd ((Row.at_ (w.alloc (.cells #[.int .i64 T,.slice A1 is.length c1,.slice A2 ts.length c2,.slice A3 ns.length c3] 26)) 5 #[.int .u8 5] (bcells [UInt8.ofNat 5]) rfl (w.heap.size + 1) (by rw [World.size_alloc])).own (base:=w.heap.size) (by omega) (by decide))
 have x0:=HR.out.cell 0
 have x1:=HR.out.cell 1
 have x2:=HR.out.cell 2
 have x3:=HR.out.cell 3
 simp only [List.getElem?_cons_succ,List.getElem?_cons_zero] at x0 x1 x2 x3
 clear hx hpl hfe hpe j1 j2 j3 hf he ha
 go_enter Tryz.func36,Tryz.ntmps36
 go_wp2_with fail
 refine (HC.out _ HG2.out).mono ?_
 rintro e w4 ⟨v4,rfl,hown4,g4⟩
 have HBY:=Hd (IsBytes.of_own hown4)
 have HG4:=Hd (HG2.out.of_below g4)
 have HO4:=Hd (own_growS HO.out g4)
 clear hown4 g4 x0 x1 x2 x3
 go_wp2_with ((at_builtin;go_loud (refine wpList_append_bytes (w:=w) rfl _ _ 29 rfl 5 Tryz.underlying29 info_u8 _ [UInt8.ofNat 5] (by rfl) HO4.out HG4.out _ L (by rfl) HBY.out (by have:=HLEN.out;rw [List.length_cons,List.length_nil];omega) ?_);intro v5 w5 hown5 hb5;have HO5:=Hd hown5;have HB5:=Hd hb5;clear hown5 hb5))
 go_ret
 exact ⟨_,rfl,HB5.out,by rw [HFE.out];exact IsBytes.of_own HO5.out⟩
theorem rform12_any (k:Nat) (x:Value) (v:Vec) (w:World) (hx:IsV w x v) (hf:Fine v) (he:Encable v) (ha:apl k v.T = true) :
 Calls Tryz.prog 36 #[x,.int .i64 (k:Int)] w (ByR (formE k v) w):=by
 have hk:=apl_lt ha
 have h6:k = 0 ∨ k = 1 ∨ k = 2 ∨ k = 3 ∨ k = 4 ∨ k = 5:=by omega
 rcases h6 with rfl | rfl | rfl | rfl | rfl | rfl
 ·exact rform0_any x v w hx hf he ha
 ·exact rform1_any x v w hx hf he ha
 ·exact rform2_any x v w hx hf he ha
 ·exact rform3_any x v w hx hf he ha
 ·exact rform4_any x v w hx hf he ha
 ·exact rform5_any x v w hx hf he ha
def REncR (r:List UInt8 × Int) (w:World) (e:Ending) (w':World):Prop:=∃ u,e = .returned (.tuple #[u,.int .i64 r.2]) ∧ Grows w w' ∧ IsBytes w' u r.1
theorem REncR.no {r:List UInt8 × Int} {f:Int} {w w':World} (h:r = ([],f)) (hg:Grows w w'):REncR r w (.returned (.tuple #[.slice none 0 0,.int .i64 f])) w':=by
 subst h
 exact ⟨_,rfl,hg,IsBytes.nil_ _⟩
theorem REncR.yes {r:List UInt8 × Int} {L:List UInt8} {u:Value} {w w':World} (h:r = (L,0)) (hg:Grows w w') (hc:IsBytes w' u L):REncR r w (.returned (.tuple #[u,.int .i64 0])) w':=by
 subst h
 exact ⟨_,rfl,hg,hc⟩
end Go.Proofs.YthmipnokimlbdaaGreat
namespace Go.Proofs.YthmipnokimlbdaaGreat
open Go.RowKit
def RCntRel (l:List Rn) (w:World) (n i:Value) (wr:World):Prop:=∃ k:Nat,k ≤ l.length ∧ i = .int .i64 (k:Int) ∧ n = .int .i64 ((expR (l.take k)).length:Int) ∧ w = wr
set_option maxHeartbeats 2000000 in
theorem rcount12_any (v:Value) (l:List Rn) (w:World) (hv:ReadsR w v l) (hval:validR l = true) :
 Calls Tryz.prog 69 #[v] w fun e w' => e = .returned (.int .i64 ((expR l).length:Int)) ∧ w = w':=by
 have HV:=Hd hv
 have HVL:=Hd hval
 have HLL:=Hd (valid_length hval)
 obtain ⟨A,c,rfl⟩:=hv.slice_
 clear hv hval
 go_enter Tryz.func69,Tryz.ntmps69
 go_wp2_with fail
 go_loopw [3,4] (fun n i wr => RCntRel l w n i wr) (fun _ i _ => l.length - (intOf i).toNat)
 case atStart => exact ⟨0,by omega,rfl,rfl,rfl⟩
 case round =>
  obtain ⟨k,hk,rfl,rfl,rfl⟩:=hrel
  by_cases hlt:k < l.length
  ·have HTK:=Hd (expR_take hlt)
   have hcn:=valid_count HVL.out hlt
   have hpre:=valid_pre HVL.out (j:=k + 1) (by omega)
   rw [HTK.out,List.length_append,List.length_replicate] at hpre
   obtain ⟨bb,off,hA,hc⟩:=HV.out.at_
   obtain rfl:=hA (by omega)
   obtain ⟨y0,y1⟩:=hc k hlt
   obtain ⟨n,hn⟩:∃ n:Nat,(n:Int) = l[k].2:=⟨l[k].2.toNat,by omega⟩
   rw [← hn] at y1 hcn HTK
   rw [← hn] at hpre
   rw [Int.toNat_natCast] at hpre HTK
   have HTL:=Hd (show (expR (l.take (k + 1))).length = (expR (l.take k)).length + n by rw [HTK.out,List.length_append,List.length_replicate])
   generalize (expR (l.take k)).length = m at *
   have hll:=HLL.out
   clear hA hc hn
   go_wp2_with fail
   go_roundw
   case rel => exact ⟨k + 1,by omega,by go_num,by rw [HTL.out];go_num,rfl⟩
   case measure => simp [intOf];omega
  ·have HF:=Hd (show l.take k = l from List.take_of_length_le (by omega))
   rw [HF.out]
   go_wp2_with fail
   go_ret
   exact ⟨rfl,rfl⟩
theorem byte0 {w:World} {A:Option Addr} {n c:Nat} {b:List UInt8} (hb:IsBytes w (.slice A n c) b) (h1:1 ≤ b.length):∃ bb ff,A = some ⟨bb,ff,none⟩ ∧ w.cell? ⟨bb,ff,none⟩ = some (.int .u8 ((b.getD 0 0).toNat:Int)):=by
 obtain ⟨A',c',he,hc⟩:=hb
 injection he with e1 _ _
 obtain ⟨b',f',h2,hcc⟩:=hc (by omega)
 subst e1
 refine ⟨b',f',h2,?_⟩
 have h:=hcc 0 (by omega)
 cases b with
 | nil => simp at h1
 | cons x r => exact h
theorem rints12_any (A:Option Addr) (c:Nat) (b:List UInt8) (n:Nat) (T:Int) (w:World) (hb:IsBytes w (.slice A b.length c) b) (hlc:b.length ≤ c) (hl:b.length ≤ 1000000) (h1:1 ≤ b.length) (hn:n ≤ 65536):Calls Tryz.prog 65 #[.slice A b.length c,.int .i64 1,.int .i64 T,.int .i64 (n:Int)] w (RInR (dI 0 T b n) w):=by
 by_cases hT:T = 1
 ·subst hT
  exact rints12B_any A c b 1 n w hb hlc hl h1 hn
 ·have e:dI 0 T b n = pdI b 1 n:=by unfold dI;simp [hT]
  rw [e]
  exact rints12I_any A c b 1 n T w hb hT hlc hl h1 hn
set_option maxRecDepth 20000 in
set_option maxHeartbeats 4000000 in
theorem rnumbers0_any (A:Option Addr) (c:Nat) (b:List UInt8) (n:Nat) (T:Int) (w:World) (hb:IsBytes w (.slice A b.length c) b) (hlc:b.length ≤ c) (hl:b.length ≤ 1000000) (h1:1 ≤ b.length) (hn:n ≤ 65536) (hk:(b.getD 0 0).toNat = 0) :
 Calls Tryz.prog 42 #[.slice A b.length c,.int .i64 T,.int .i64 (n:Int)] w (RInR (dI 0 T b n) w):=by
 have HC:=Hd (rints12_any A c b n T w hb hlc hl h1 hn)
 obtain ⟨bb,ff,rfl,hcell⟩:=byte0 hb h1
 rw [hk] at hcell
 have hlp:0 < b.length:=by omega
 obtain ⟨R,hR⟩:∃ R,dI 0 T b n = R:=⟨_,rfl⟩
 have HD:=Hd (show dI 0 T b n = R from by first | exact hR | (rw [← hR];rfl))
 rw [hR] at HC
 rw [HD.out]
 clear hb hk h1 hR
 go_enter Tryz.func42,Tryz.ntmps42
 go_wp2_with fail
 refine HC.out.mono ?_
 rintro e w2 ⟨v2,q2,rfl,hq2,hi2,g2,ht2⟩
 have HQ:=Hd hq2
 have HI:=Hd hi2
 have HG:=Hd g2
 have HT:=Hd ht2
 obtain ⟨A2,c2,rfl⟩:=hi2.slice_
 obtain ⟨n2,hn2⟩:∃ m,R.1.length = m:=⟨_,rfl⟩
 rw [hn2] at HI HT ⊢
 clear hq2 hi2 g2 ht2 hcell hn2
 go_wp2_with fail
 go_ret3
 exact ⟨_,_,rfl,HQ.out,HI.out,HG.out,HT.out⟩
set_option maxRecDepth 20000 in
set_option maxHeartbeats 4000000 in
theorem rnumbers2_any (A:Option Addr) (c:Nat) (b:List UInt8) (n:Nat) (T:Int) (w:World) (hb:IsBytes w (.slice A b.length c) b) (hlc:b.length ≤ c) (hl:b.length ≤ 1000000) (h1:1 ≤ b.length) (hn:n ≤ 65536) (hk:(b.getD 0 0).toNat = 2) :
 Calls Tryz.prog 42 #[.slice A b.length c,.int .i64 T,.int .i64 (n:Int)] w (RInR (dI 2 T b n) w):=by
 have HC:=Hd ((rdecodeFI_any A c b 1 (n:Int) w hb hlc (by omega)).mono fun _ _ ⟨v,h1,h2,h3,h4⟩ => (⟨v,_,h1,fun _ => rfl,h2,h3,h4⟩:RInR (decV b 1 n) w _ _))
 obtain ⟨bb,ff,rfl,hcell⟩:=byte0 hb h1
 rw [hk] at hcell
 have hlp:0 < b.length:=by omega
 obtain ⟨R,hR⟩:∃ R,decV b 1 n = R:=⟨_,rfl⟩
 have HD:=Hd (show dI 2 T b n = R from by first | exact hR | (rw [← hR];rfl))
 rw [hR] at HC
 rw [HD.out]
 clear hb hk h1 hR
 go_enter Tryz.func42,Tryz.ntmps42
 go_wp2_with fail
 refine HC.out.mono ?_
 rintro e w2 ⟨v2,q2,rfl,hq2,hi2,g2,ht2⟩
 have HQ:=Hd hq2
 have HI:=Hd hi2
 have HG:=Hd g2
 have HT:=Hd ht2
 obtain ⟨A2,c2,rfl⟩:=hi2.slice_
 obtain ⟨n2,hn2⟩:∃ m,R.1.length = m:=⟨_,rfl⟩
 rw [hn2] at HI HT ⊢
 clear hq2 hi2 g2 ht2 hcell hn2
 go_wp2_with fail
 go_ret3
 exact ⟨_,_,rfl,HQ.out,HI.out,HG.out,HT.out⟩
set_option maxRecDepth 20000 in
set_option maxHeartbeats 4000000 in
theorem rnumbers3_any (A:Option Addr) (c:Nat) (b:List UInt8) (n:Nat) (T:Int) (w:World) (hb:IsBytes w (.slice A b.length c) b) (hlc:b.length ≤ c) (hl:b.length ≤ 1000000) (h1:1 ≤ b.length) (hn:n ≤ 65536) (hk:(b.getD 0 0).toNat = 3) :
 Calls Tryz.prog 42 #[.slice A b.length c,.int .i64 T,.int .i64 (n:Int)] w (RInR (dI 3 T b n) w):=by
 have HC:=Hd ((rdec9I_any A c b 1 (n:Int) w hb hlc (by omega) (by omega) (by omega)).mono fun _ _ ⟨v,h1,h2,h3,h4⟩ => (⟨v,_,h1,fun _ => rfl,h2,h3,h4⟩:RInR (dlDec b 1 n) w _ _))
 obtain ⟨bb,ff,rfl,hcell⟩:=byte0 hb h1
 rw [hk] at hcell
 have hlp:0 < b.length:=by omega
 obtain ⟨R,hR⟩:∃ R,dlDec b 1 n = R:=⟨_,rfl⟩
 have HD:=Hd (show dI 3 T b n = R from by first | exact hR | (rw [← hR];rfl))
 rw [hR] at HC
 rw [HD.out]
 clear hb hk h1 hR
 go_enter Tryz.func42,Tryz.ntmps42
 go_wp2_with fail
 refine HC.out.mono ?_
 rintro e w2 ⟨v2,q2,rfl,hq2,hi2,g2,ht2⟩
 have HQ:=Hd hq2
 have HI:=Hd hi2
 have HG:=Hd g2
 have HT:=Hd ht2
 obtain ⟨A2,c2,rfl⟩:=hi2.slice_
 obtain ⟨n2,hn2⟩:∃ m,R.1.length = m:=⟨_,rfl⟩
 rw [hn2] at HI HT ⊢
 clear hq2 hi2 g2 ht2 hcell hn2
 go_wp2_with fail
 go_ret3
 exact ⟨_,_,rfl,HQ.out,HI.out,HG.out,HT.out⟩
set_option maxRecDepth 20000 in
set_option maxHeartbeats 4000000 in
theorem rnumbers1_any (A:Option Addr) (c:Nat) (b:List UInt8) (n:Nat) (T:Int) (w:World) (hb:IsBytes w (.slice A b.length c) b) (hlc:b.length ≤ c) (hl:b.length ≤ 1000000) (h1:1 ≤ b.length) (hn:n ≤ 65536) (hk:(b.getD 0 0).toNat = 1) :
 Calls Tryz.prog 42 #[.slice A b.length c,.int .i64 T,.int .i64 (n:Int)] w (RInR (dI 1 T b n) w):=by
 have HD:=Hd (rldecode_any (.slice A b.length c) b 1 w hb (by omega) (by omega) (by omega))
 rw [show dI 1 T b n = drR b 1 n from rfl]
 obtain ⟨bb,ff,rfl,hcell⟩:=byte0 hb h1
 rw [hk] at hcell
 have hlp:0 < b.length:=by omega
 by_cases h2:(dcR b 1).2.2 = 0
 ·obtain ⟨o',k,hoo,hq,hle,hval,hin,_⟩:=dcR_acc h2
  obtain rfl:1 = o':=by omega
  clear hoo
  obtain ⟨q,hqn⟩:∃ q:Nat,q = 1 + k:=⟨_,rfl⟩
  rw [← hqn] at hq
  have e1:dcR b 1 = ((dcR b 1).1,(q:Int),0):=by rw [← h2,← hq]
  have hlen:=valid_expR hval
  have HEX:=Hd (fun (u:Value) (W:World) (hu:ReadsR W u (dcR b 1).1) => rlexpandI_any u (dcR b 1).1 W hu (by have:=valid_length hval;omega))
  have HCN:=Hd (fun (u:Value) (W:World) (hu:ReadsR W u (dcR b 1).1) => rcount12_any u (dcR b 1).1 W hu hval)
  rw [e1] at HD
  have hx1:expI (dcR b 1).1 = expR (dcR b 1).1:=by unfold expI;rw [if_pos hval]
  have hx2:expE (dcR b 1).1 = 0:=by unfold expE;rw [if_pos hval]
  rw [hx1,hx2] at HEX
  by_cases h3:(expR (dcR b 1).1).length = n
  ·have HE:=Hd (show drR b 1 n = (expR (dcR b 1).1,(q:Int),0) by unfold drR;rw [if_neg (by rw [h2];simp),if_neg (by rw [h3];simp),hq])
   generalize drR b 1 n = R at *
   generalize expR (dcR b 1).1 = E at *
   generalize (dcR b 1).1 = rs at *
   generalize dcR b 1 = Z at *
   have H3:=Hd h3
   clear h2 hq e1 hval hin hle hqn hx1 hx2 hlen h3 hb hk h1
   go_enter Tryz.func42,Tryz.ntmps42
   go_wp2_with fail
   refine HD.out.mono ?_
   rintro e w2 ⟨u,rfl,g2,hr2⟩
   have HR2:=Hd hr2
   have HG2:=Hd g2
   obtain ⟨A2,c2,rfl⟩:=hr2.slice_
   clear hr2 g2 hcell
   obtain ⟨nr,hnr⟩:∃ m,rs.length = m:=⟨_,rfl⟩
   rw [hnr] at HR2 ⊢
   clear hnr
   rw [H3.out] at HCN
   go_wp2_with ((go_at_call 69;refine (HCN.out _ _ HR2.out).mono ?_;rintro e w3 ⟨rfl,rfl⟩))
   refine (HEX.out _ _ HR2.out).mono ?_
   rintro e w3 ⟨u3,rfl,g3,hi3,ht3⟩
   have HI3:=Hd hi3
   have HT3:=Hd ht3
   have HG3:=Hd (HG2.out.of_below g3)
   obtain ⟨A3,c3,rfl⟩:=hi3.slice_
   rw [H3.out] at HI3 HT3 ⊢
   clear g3 hi3 ht3
   go_wp2_with fail
   go_ret3
   exact RInR.of HE.out HI3.out HG3.out HT3.out
  ·have HE:=Hd (show drR b 1 n = ([],0,18) by unfold drR;rw [if_neg (by rw [h2];simp),if_pos (by omega)])
   generalize drR b 1 n = R at *
   obtain ⟨M,hM⟩:∃ M,(expR (dcR b 1).1).length = M:=⟨_,rfl⟩
   rw [hM] at HCN h3
   generalize (dcR b 1).1 = rs at *
   generalize dcR b 1 = Z at *
   have hne:(M != n) = true:=by simpa using h3
   have hne2:((M:Int) != (n:Int)) = true:=by simp;omega
   clear h2 hq e1 hval hin hle hqn hx1 hx2 hlen h3 hM hb hk h1
   go_enter Tryz.func42,Tryz.ntmps42
   go_wp2_with fail
   refine HD.out.mono ?_
   rintro e w2 ⟨u,rfl,g2,hr2⟩
   have HR2:=Hd hr2
   have HG2:=Hd g2
   obtain ⟨A2,c2,rfl⟩:=hr2.slice_
   clear hr2 g2 hcell
   obtain ⟨nr,hnr⟩:∃ m,rs.length = m:=⟨_,rfl⟩
   rw [hnr] at HR2 ⊢
   clear hnr
   go_wp2_with ((go_at_call 69;refine (HCN.out _ _ HR2.out).mono ?_;rintro e w3 ⟨rfl,rfl⟩))
   go_ret3
   exact RInR.err HE.out (by decide) HG2.out
 ·have HE:=Hd (show drR b 1 n = ([],0,(dcR b 1).2.2) by unfold drR;rw [if_pos h2])
  have hne:((dcR b 1).2.2 != 0) = true:=by simpa using h2
  have HN:=Hd h2
  generalize drR b 1 n = R at *
  generalize dcR b 1 = Z at *
  obtain ⟨z1,z2,z3⟩:=Z
  simp only [] at hne HD HE HN
  clear h2 hb hk h1
  go_enter Tryz.func42,Tryz.ntmps42
  go_wp2_with fail
  refine HD.out.mono ?_
  rintro e w2 ⟨u,rfl,g2,hr2⟩
  have HG2:=Hd g2
  clear hr2 g2 hcell
  go_wp2_with fail
  go_ret3
  exact RInR.err HE.out HN.out HG2.out
theorem rnumbers12_any (A:Option Addr) (c:Nat) (b:List UInt8) (n:Nat) (T:Int) (w:World) (hb:IsBytes w (.slice A b.length c) b) (hlc:b.length ≤ c) (hl:b.length ≤ 1000000) (h1:1 ≤ b.length) (hn:n ≤ 65536) (k:Nat) (hk:(b.getD 0 0).toNat = k) (hk3:k ≤ 3) :
 Calls Tryz.prog 42 #[.slice A b.length c,.int .i64 T,.int .i64 (n:Int)] w (RInR (dI k T b n) w):=by
 have h4:k = 0 ∨ k = 1 ∨ k = 2 ∨ k = 3:=by omega
 rcases h4 with rfl | rfl | rfl | rfl
 ·exact rnumbers0_any A c b n T w hb hlc hl h1 hn hk
 ·exact rnumbers1_any A c b n T w hb hlc hl h1 hn hk
 ·exact rnumbers2_any A c b n T w hb hlc hl h1 hn hk
 ·exact rnumbers3_any A c b n T w hb hlc hl h1 hn hk
set_option maxHeartbeats 4000000 in
theorem rstrings0_any (A:Option Addr) (c:Nat) (b:List UInt8) (n:Nat) (w:World) (hb:IsBytes w (.slice A b.length c) b) (hlc:b.length ≤ c) (hl:b.length ≤ 1000000) (h1:1 ≤ b.length) (hn:n ≤ 65536) (hk:(b.getD 0 0).toNat = 0) :
 Calls Tryz.prog 41 #[.slice A b.length c,.int .i64 (n:Int)] w (RsR (dT 0 b n) w):=by
 have HC:=Hd (rtexts12_any A c b 1 n w hb hlc hl h1 hn)
 obtain ⟨bb,ff,rfl,hcell⟩:=byte0 hb h1
 rw [hk] at hcell
 have hlp:0 < b.length:=by omega
 obtain ⟨R,hR⟩:∃ R,pdTs b n [] 1 = R:=⟨_,rfl⟩
 have HD:=Hd (show dT 0 b n = R by rw [← hR];rfl)
 have HC:=Hd (show Calls Tryz.prog 62 #[.slice (some ⟨bb,ff,none⟩) b.length c,.int .i64 1,.int .i64 (n:Int)] w (RsR R w) by rw [← hR];exact HC.out)
 rw [HD.out]
 clear hb hk h1 hR
 go_enter Tryz.func41,Tryz.ntmps41
 go_wp2_with fail
 refine HC.out.mono ?_
 rintro e w2 ⟨v2,rfl,g2,hs2⟩
 have HS:=Hd hs2
 have HG:=Hd g2
 obtain ⟨A2,c2,rfl⟩:=hs2.slice_
 obtain ⟨n2,hn2⟩:∃ m,R.1.length = m:=⟨_,rfl⟩
 rw [hn2] at HS ⊢
 clear g2 hs2 hcell hn2
 go_wp2_with fail
 go_ret3
 exact ⟨_,rfl,HG.out,HS.out⟩
set_option maxHeartbeats 4000000 in
theorem rstrings4_any (A:Option Addr) (c:Nat) (b:List UInt8) (n:Nat) (w:World) (hb:IsBytes w (.slice A b.length c) b) (hlc:b.length ≤ c) (hl:b.length ≤ 1000000) (h1:1 ≤ b.length) (hn:n ≤ 65536) (hk:(b.getD 0 0).toNat = 4) :
 Calls Tryz.prog 41 #[.slice A b.length c,.int .i64 (n:Int)] w (RsR (dT 4 b n) w):=by
 have HC:=Hd (rdec10_any A c b 1 (n:Int) w hb hlc (by omega) (by omega) (by omega))
 obtain ⟨bb,ff,rfl,hcell⟩:=byte0 hb h1
 rw [hk] at hcell
 have hlp:0 < b.length:=by omega
 obtain ⟨R,hR⟩:∃ R,decT b 1 n = R:=⟨_,rfl⟩
 have HD:=Hd (show dT 4 b n = R by rw [← hR];rfl)
 have HC:=Hd (show Calls Tryz.prog 63 #[.slice (some ⟨bb,ff,none⟩) b.length c,.int .i64 1,.int .i64 (n:Int)] w (RsR R w) by rw [← hR];exact HC.out)
 rw [HD.out]
 clear hb hk h1 hR
 go_enter Tryz.func41,Tryz.ntmps41
 go_wp2_with fail
 refine HC.out.mono ?_
 rintro e w2 ⟨v2,rfl,g2,hs2⟩
 have HS:=Hd hs2
 have HG:=Hd g2
 obtain ⟨A2,c2,rfl⟩:=hs2.slice_
 obtain ⟨n2,hn2⟩:∃ m,R.1.length = m:=⟨_,rfl⟩
 rw [hn2] at HS ⊢
 clear g2 hs2 hcell hn2
 go_wp2_with fail
 go_ret3
 exact ⟨_,rfl,HG.out,HS.out⟩
set_option maxHeartbeats 4000000 in
theorem rstrings5_any (A:Option Addr) (c:Nat) (b:List UInt8) (n:Nat) (w:World) (hb:IsBytes w (.slice A b.length c) b) (hlc:b.length ≤ c) (hl:b.length ≤ 1000000) (h1:1 ≤ b.length) (hn:n ≤ 65536) (hk:(b.getD 0 0).toNat = 5) :
 Calls Tryz.prog 41 #[.slice A b.length c,.int .i64 (n:Int)] w (RsR (dT 5 b n) w):=by
 have HC:=Hd (rfdecode_any A c b 1 (n:Int) w hb hlc (by omega))
 obtain ⟨bb,ff,rfl,hcell⟩:=byte0 hb h1
 rw [hk] at hcell
 have hlp:0 < b.length:=by omega
 obtain ⟨R,hR⟩:∃ R,fcDec b 1 n = R:=⟨_,rfl⟩
 have HD:=Hd (show dT 5 b n = R by rw [← hR];rfl)
 have HC:=Hd (show Calls Tryz.prog 64 #[.slice (some ⟨bb,ff,none⟩) b.length c,.int .i64 1,.int .i64 (n:Int)] w (RsR R w) by rw [← hR];exact HC.out)
 rw [HD.out]
 clear hb hk h1 hR
 go_enter Tryz.func41,Tryz.ntmps41
 go_wp2_with fail
 refine HC.out.mono ?_
 rintro e w2 ⟨v2,rfl,g2,hs2⟩
 have HS:=Hd hs2
 have HG:=Hd g2
 obtain ⟨A2,c2,rfl⟩:=hs2.slice_
 obtain ⟨n2,hn2⟩:∃ m,R.1.length = m:=⟨_,rfl⟩
 rw [hn2] at HS ⊢
 clear g2 hs2 hcell hn2
 go_wp2_with fail
 go_ret3
 exact ⟨_,rfl,HG.out,HS.out⟩
theorem rstrings12_any (A:Option Addr) (c:Nat) (b:List UInt8) (n:Nat) (w:World) (hb:IsBytes w (.slice A b.length c) b) (hlc:b.length ≤ c) (hl:b.length ≤ 1000000) (h1:1 ≤ b.length) (hn:n ≤ 65536) (k:Nat) (hk:(b.getD 0 0).toNat = k) (hk3:k = 0 ∨ k = 4 ∨ k = 5) :
 Calls Tryz.prog 41 #[.slice A b.length c,.int .i64 (n:Int)] w (RsR (dT k b n) w):=by
 rcases hk3 with rfl | rfl | rfl
 ·exact rstrings0_any A c b n w hb hlc hl h1 hn hk
 ·exact rstrings4_any A c b n w hb hlc hl h1 hn hk
 ·exact rstrings5_any A c b n w hb hlc hl h1 hn hk
theorem IntB.ne_row {w:World} {v:Value} (h:IntB w v) {g:Nat} {xs:List Value} (hr:Row w g 26 xs):∀ b o s n c,v = .slice (some ⟨b,o,s⟩) n c → b ≠ g:=by
 rintro b o s n c e rfl
 obtain ⟨cs,m,h1⟩:=h b o s n c e
 have h2:some (Obj.cells xs.toArray 26 (0,0)) = some (Obj.cells cs 2 m):=hr.symm.trans h1
 injection h2 with h2
 injection h2 with _ h3 _
 exact absurd h3 (by decide)
theorem wpList_store_vecG {wr:World} {ops:Array Oper} {rest:List Oper} {o:Oper} {a:Act} {Q:Exit → Act → World → Prop} (hgd:o.guard = none) (x y:Operand) (ho:o.op = .store 26 x y)
 (w0:World) (hw:wr = w0.alloc (.cells #[.int .i64 0,.slice none 0 0,.slice none 0 0,.slice none 0 0] 26)) (g:Nat) (hg:g = w0.heap.size) (hx:a.eval x = ptV g) (t:Int) (A1 A2 A3:Option Addr) (n1 c1 n2 c2 n3 c3:Nat)
 (hy:a.eval y = .agg #[.int .i64 t,.slice A1 n1 c1,.slice A2 n2 c2,.slice A3 n3 c3])
 (h:∀ W,Row W g 26 [.int .i64 t,.slice A1 n1 c1,.slice A2 n2 c2,.slice A3 n3 c3] → Grows w0 W → wpList Tryz.prog ops Q rest (a.put o.dst undef) W):wpList Tryz.prog ops Q (o :: rest) a wr:=by
 subst hg
 exact wpList_store_vec hgd x y ho w0 hw hx t A1 A2 A3 n1 c1 n2 c2 n3 c3 hy h
theorem add_zero_opt12 (A:Option Addr):Option.map (fun x:Addr => x.add 0) A = A:=by cases A <;> simp [Addr.add]
theorem cut12_run (t:TypeId) (ht:Tryz.prog.underlying t = some (.slice (Tryz.prog.elem t))) (hi:(Tryz.prog.info? (Tryz.prog.elem t)).map (·.size) = some 1) (A:Option Addr) (n c K:Nat) (hK:K ≤ c) (W:World) :
 (Instr.sliceAt t (.slice A n c) none (some (.int .i64 (K:Int))) none).run Tryz.prog W = .ok (.slice A K c) W:=by
 have hs1:(sizeOf (Tryz.prog.elem t)).run Tryz.prog W = .ok 1 W:=by
  cases h:Tryz.prog.info? (Tryz.prog.elem t) with
  | none => rw [h] at hi;cases hi
  | some y =>
    rw [h] at hi
    have h1:y.size = 1:=by simpa using hi
    simp [sizeOf,typeInfo,h,h1]
 rw [run_sliceAt_slice (P:=Tryz.prog) (w:=W) t _ _ _ none ht,run_slice_h (P:=Tryz.prog) (w:=W) t A n c ht .i64 (K:Int) (by omega) (by omega),hs1]
 simp only [Result.andThen_ok,sliced,Int.toNat_natCast,Nat.sub_zero,Nat.zero_mul,add_zero_opt12,ite_self]
theorem IsBytes.upTo12 {w:World} {A:Option Addr} {n c:Nat} {b:List UInt8} (h:IsBytes w (.slice A n c) b) {k:Nat} (hk:k ≤ b.length):IsBytes w (.slice A k c) (b.take k):=by
 obtain ⟨A',c',he,hc⟩:=h
 injection he with e1 e2 e3
 subst e1
 refine ⟨_,_,by rw [List.length_take,Nat.min_eq_left hk],fun h0 => ?_⟩
 rw [List.length_take] at h0
 obtain ⟨b2,f2,rfl,hcell⟩:=hc (by omega)
 refine ⟨b2,f2,rfl,fun j hj => ?_⟩
 rw [List.length_take] at hj
 rw [hcell j (by omega),List.getElem_take]
def RD1Rel (w4:World) (T:Int) (l:List Int) (i:Value) (wr:World):Prop:=∃ j:Nat,j ≤ l.length ∧ i = .int .i64 (j:Int) ∧ (T = 1 → (l.take j).any badBool = false) ∧ Grows w4 wr
def RD2Rel (w4:World) (l:List Str) (i:Value) (wr:World):Prop:=∃ j:Nat,j ≤ l.length ∧ i = .int .i64 (j:Int) ∧ (l.take j).any tooLong = false ∧ Grows w4 wr
set_option maxRecDepth 20000 in
set_option maxHeartbeats 16000000 in
theorem rDecode12_any (A:Option Addr) (c:Nat) (b:List UInt8) (T n:Int) (w:World) (hb:IsBytes w (.slice A b.length c) b) (hlc:b.length ≤ c) (hl:b.length ≤ 1000000) :
 Calls Tryz.prog 19 #[.slice A b.length c,.int .i64 T,.int .i64 n] w (DecV (decF b T n) w):=by
 have HG0:=Hd (growB w (.cells #[.int .i64 0,.slice none 0 0,.slice none 0 0,.slice none 0 0] 26))
 have HR0:=Hd (Row.new w 26 #[.int .i64 0,.slice none 0 0,.slice none 0 0,.slice none 0 0] [.int .i64 0,.slice none 0 0,.slice none 0 0,.slice none 0 0] rfl)
 have HRW:Hid ((w.alloc (.cells #[.int .i64 0,.slice none 0 0,.slice none 0 0,.slice none 0 0] 26)).heap[w.heap.size]? = some (.cells #[.int .i64 0,.slice none 0 0,.slice none 0 0,.slice none 0 0] 26 (0,0))):=HR0.out
 have HRS:=Hd (Row.setRow_ HR0.out [.int .i64 0,.slice none 0 0,.slice none 0 0,.slice none 0 0] rfl)
 by_cases t0:T < 1
 ·have HE:=Hd (show decF b T n = (zeroV,0,1) from if_pos (.inl (by unfold okT;simp;omega)))
  have d0:decide (T < 1) = true:=by simpa using t0
  clear hb t0
  go_enter Tryz.func19,Tryz.ntmps19
  go_wp2_with (refine wpList_store_row rfl _ _ _ rfl _ #[.int .i64 0,.slice none 0 0,.slice none 0 0,.slice none 0 0] rfl rfl _ _ HRW.out sizeVec rfl (by simp [Value.oneCell']) ?_)
  exact bodyPost_ret (results_vec3 rfl _ _ _ _ _ _ _ (.int .i64 0) (.int .i64 1) rfl HRS.out rfl rfl) rfl (DecV.no HE.out (below_setRow HG0.out (Nat.le_refl _) _))
 have d0:decide (T < 1) = false:=by simpa using t0
 by_cases t4:3 < T
 ·have HE:=Hd (show decF b T n = (zeroV,0,1) from if_pos (.inl (by unfold okT;simp;omega)))
  have d4:decide (3 < T) = true:=by simpa using t4
  clear hb t0 t4
  go_enter Tryz.func19,Tryz.ntmps19
  go_wp2_with (refine wpList_store_row rfl _ _ _ rfl _ #[.int .i64 0,.slice none 0 0,.slice none 0 0,.slice none 0 0] rfl rfl _ _ HRW.out sizeVec rfl (by simp [Value.oneCell']) ?_)
  exact bodyPost_ret (results_vec3 rfl _ _ _ _ _ _ _ (.int .i64 0) (.int .i64 1) rfl HRS.out rfl rfl) rfl (DecV.no HE.out (below_setRow HG0.out (Nat.le_refl _) _))
 have d4:decide (3 < T) = false:=by simpa using t4
 have ht:okT T = true:=by unfold okT;simp;omega
 by_cases h1:n < 0
 ·have HE:=Hd (show decF b T n = (zeroV,0,1) from if_pos (.inr (.inl h1)))
  have e1:decide (n < 0) = true:=by simpa using h1
  clear hb t0 t4 ht h1
  go_enter Tryz.func19,Tryz.ntmps19
  go_wp2_with (refine wpList_store_row rfl _ _ _ rfl _ #[.int .i64 0,.slice none 0 0,.slice none 0 0,.slice none 0 0] rfl rfl _ _ HRW.out sizeVec rfl (by simp [Value.oneCell']) ?_)
  exact bodyPost_ret (results_vec3 rfl _ _ _ _ _ _ _ (.int .i64 0) (.int .i64 1) rfl HRS.out rfl rfl) rfl (DecV.no HE.out (below_setRow HG0.out (Nat.le_refl _) _))
 have e1:decide (n < 0) = false:=by simpa using h1
 by_cases h2:65536 < n
 ·have HE:=Hd (show decF b T n = (zeroV,0,1) from if_pos (.inr (.inr h2)))
  have e2:decide (65536 < n) = true:=by simpa using h2
  clear hb t0 t4 ht h1 h2
  go_enter Tryz.func19,Tryz.ntmps19
  go_wp2_with (refine wpList_store_row rfl _ _ _ rfl _ #[.int .i64 0,.slice none 0 0,.slice none 0 0,.slice none 0 0] rfl rfl _ _ HRW.out sizeVec rfl (by simp [Value.oneCell']) ?_)
  exact bodyPost_ret (results_vec3 rfl _ _ _ _ _ _ _ (.int .i64 0) (.int .i64 1) rfl HRS.out rfl rfl) rfl (DecV.no HE.out (below_setRow HG0.out (Nat.le_refl _) _))
 have e2:decide (65536 < n) = false:=by simpa using h2
 obtain ⟨N,rfl⟩:=Int.eq_ofNat_of_zero_le (show 0 ≤ n by omega)
 have HNE:=Hd (show ¬ (okT T = false ∨ (N:Int) < 0 ∨ 65536 < (N:Int)) by rw [ht];simp;omega)
 have hN:N ≤ 65536:=by omega
 have HT:=Hd ht
 by_cases h3:b.length = 0
 ·have HE:=Hd (show decF b T N = (zeroV,0,2) by unfold decF;rw [if_neg HNE.out,if_pos h3])
  have hb0:b = []:=List.eq_nil_of_length_eq_zero h3
  subst hb0
  clear hb t0 t4 ht h1 h2 h3
  go_enter Tryz.func19,Tryz.ntmps19
  go_wp2_with (refine wpList_store_row rfl _ _ _ rfl _ #[.int .i64 0,.slice none 0 0,.slice none 0 0,.slice none 0 0] rfl rfl _ _ HRW.out sizeVec rfl (by simp [Value.oneCell']) ?_)
  exact bodyPost_ret (results_vec3 rfl _ _ _ _ _ _ _ (.int .i64 0) (.int .i64 2) rfl HRS.out rfl rfl) rfl (DecV.no HE.out (below_setRow HG0.out (Nat.le_refl _) _))
 have e3:((b.length:Int) == 0) = false:=by rw [beq_eq_false_iff_ne];omega
 have e3':(b.length == 0) = false:=by rw [beq_eq_false_iff_ne];omega
 have hlp:1 ≤ b.length:=by omega
 obtain ⟨k,hk⟩:∃ k,(b.getD 0 0).toNat = k:=⟨_,rfl⟩
 obtain ⟨bb,ff,rfl,hcell⟩:=byte0 hb hlp
 rw [hk] at hcell
 have hk8:k ≤ 255:=by rw [← hk];have:=(b.getD 0 0).toNat_lt;omega
 have HAP:=Hd (fun W => rapplies_any T (k:Int) W)
 simp only [aplR_eq ht] at HAP
 have hcell1:=(HG0.out.cell (World.block_lt_of_cell? _ _ hcell)).trans hcell
 obtain ⟨ap,hap⟩:∃ b,apl k T = b:=⟨_,rfl⟩
 rw [hap] at HAP
 cases ap
 ·have HE:=Hd (show decF b T N = (zeroV,0,4) by unfold decF;rw [if_neg HNE.out,if_neg h3,hk,if_pos hap])
  clear hb t0 t4 ht h1 h2 h3 hk hap hcell
  go_enter Tryz.func19,Tryz.ntmps19
  go_wp2_with (first | (go_at_call 25;refine (HAP.out _).mono ?_;rintro e w2 ⟨rfl,rfl⟩) | (refine wpList_store_row rfl _ _ _ rfl _ #[.int .i64 0,.slice none 0 0,.slice none 0 0,.slice none 0 0] rfl rfl _ _ HRW.out sizeVec rfl (by simp [Value.oneCell']) ?_))
  exact bodyPost_ret (results_vec3 rfl _ _ _ _ _ _ _ (.int .i64 0) (.int .i64 4) rfl HRS.out rfl rfl) rfl (DecV.no HE.out (below_setRow HG0.out (Nat.le_refl _) _))
 have HD0:=Hd (show decF b T N = endV (mkV k T b N) by unfold decF;rw [if_neg HNE.out,if_neg h3,hk,if_neg (by rw [hap];simp),Int.toNat_natCast])
 have HMA:=Hd (fun h0 => mkV_acc (N:=N) ht hN hlp (by rw [hk];exact hap) h0)
 rw [hk] at HMA
 have HV:=Hd hb
 have HNU:=Hd (fun W (h:Grows w W) (h12:T ≠ 3) => rnumbers12_any (some ⟨bb,ff,none⟩) c b N T W (hb.grow h) hlc hl hlp hN k hk (apl_num h12 hap))
 have HSX:=Hd (fun W (h:Grows w W) (h3:T = 3) => rstrings12_any (some ⟨bb,ff,none⟩) c b N W (hb.grow h) hlc hl hlp hN k hk (by
  subst h3
  have h:=hap
  unfold apl at h
  simpa using h))
 have HFO:=Hd (fun (v:Vec) (x:Value) W (hx:IsV W x v) (hf:Fine v) (he:Encable v) (hv:v.T = T) => rform12_any k x v W hx hf he (by rw [hv];exact hap))
 have hmkb:=run_make_oneM (P:=Tryz.prog) 24 4 (.bool false) 1 Tryz.underlying24 info_boolM rfl N (by omega) (by omega)
 have HCL:=Hd hcell
 obtain ⟨f,hf⟩:∃ f,(mkV k T b N).2.2 = f:=⟨_,rfl⟩
 obtain ⟨q,hq⟩:∃ q,(mkV k T b N).2.1 = q:=⟨_,rfl⟩
 obtain ⟨v9,hv9⟩:∃ v,(mkV k T b N).1 = v:=⟨_,rfl⟩
 have HMK:=Hd (show mkV k T b N = (v9,q,f) by rw [← hv9,← hq,← hf])
 have HV9:=Hd (show v9.T = T ∧ v9.ns = List.replicate N false by rw [← hv9];unfold mkV;by_cases h:T = 3;(rw [if_pos h];exact ⟨rfl,rfl⟩);(rw [if_neg h];exact ⟨rfl,rfl⟩))
 rw [HMK.out] at HD0 HMA
 have hT123:T = 3 ∨ T ≠ 3:=by omega
 have HT12:=Hd (show T = 1 ∨ T = 2 ∨ T = 3 by omega)
 clear hb t0 t4 ht h1 h2 h3 hap hcell hk hv9 hf hq
 have HTT:=Hd (show (T = 3 → dT k b N = (v9.ts,q,f) ∧ v9.is = []) ∧ (T ≠ 3 → dI k T b N = (v9.is,q,f) ∧ v9.ts = []) by
  have h:=HMK.out
  unfold mkV at h
  refine ⟨fun h3 => ?_,fun h3 => ?_⟩
  ·rw [if_pos h3] at h
   injection h with h1 h2
   injection h2 with h2 h3
   subst h1
   exact ⟨Prod.ext rfl (Prod.ext h2 h3),rfl⟩
  ·rw [if_neg h3] at h
   injection h with h1 h2
   injection h2 with h2 h3
   subst h1
   exact ⟨Prod.ext rfl (Prod.ext h2 h3),rfl⟩)
 by_cases hf0:f = 0
 rotate_left
 ·have HE:=Hd (show decF b T N = (zeroV,0,f) by rw [HD0.out];unfold endV;rw [if_pos hf0])
  have hne:(f != 0) = true:=by simpa using hf0
  clear hf0
  rcases hT123 with hT3 | hT3
  ·have eT:(T == 3) = true:=by simpa using hT3
   have HDT:=(HTT.out.1 hT3).1
   have HOT:=Hd (HTT.out.1 hT3).2
   have HCX:=Hd (fun W h => HSX.out W h hT3)
   simp only [HDT] at HCX
   clear hT3 HDT
   go_enter Tryz.func19,Tryz.ntmps19
   go_wp2_with (first
    | (go_at_call 25;refine (HAP.out _).mono ?_;rintro e w1 ⟨rfl,hw1⟩;have HG1:=Hd (show Grows w w1 by rw [← hw1];exact HG0.out);have HZ1:=Hd (show Row w1 w.heap.size 26 [.int .i64 0,.slice none 0 0,.slice none 0 0,.slice none 0 0] by rw [← hw1];exact HR0.out);clear hw1 hcell1)
    | (refine wpList_store_vecG rfl _ _ rfl (w1.alloc (.cells (Array.replicate N (Value.bool false)) 4)) rfl (w1.heap.size + 1) (by rw [World.size_alloc]) rfl T none none (some ⟨w1.heap.size,0,none⟩) 0 0 0 0 N N rfl ?_;intro w2 hr2 hg2;have HR2:=Hd (show Row w2 (w1.heap.size + 1) 26 [.int .i64 T,.slice none 0 0,.slice none 0 0,.slice (some ⟨w1.heap.size,0,none⟩) N N] from hr2);have HN2:=Hd ((Row.new w1 4 (Array.replicate N (Value.bool false)) (List.replicate N (Value.bool false)) (by simp)).grow hg2);have HG12:=Hd ((growB w1 (.cells (Array.replicate N (Value.bool false)) 4)).of_below hg2);have HG2:=Hd (HG1.out.of_below HG12.out);clear hr2 hg2 hmkb))
   refine (HCX.out _ HG2.out).mono ?_
   rintro e w3 ⟨u,rfl,g3,hs3⟩
   obtain ⟨A2,c2,rfl⟩:=hs3.slice_
   have HS3:=Hd hs3
   have HR3:=Hd (HR2.out.grow g3)
   have HZ3:=Hd ((HZ1.out.grow HG12.out).grow g3)
   have HN3:=Hd (HN2.out.grow g3)
   have HG3:=Hd (HG2.out.of_below g3)
   have HS12:=Hd (show w.heap.size < w1.heap.size from HZ1.out.lt)
   have hc3:=HR3.out.cell 2
   have hf3:=HR3.out.frozen 2
   simp only [List.getElem?_cons_succ,List.getElem?_cons_zero] at hc3
   have hr4:=HR3.out.set_ 2 (.slice A2 v9.ts.length c2)
   simp only [List.set_cons_succ,List.set_cons_zero] at hr4
   have hz4:=HZ3.out.set_other (a:=⟨w1.heap.size + 1,2,none⟩) (show w1.heap.size + 1 ≠ w.heap.size by have:=HS12.out;omega) (.slice A2 v9.ts.length c2)
   have hg4:=HG3.out.setCell (p:=⟨w1.heap.size + 1,2,none⟩) (show w.heap.size ≤ w1.heap.size + 1 by have:=HS12.out;omega) (.slice A2 v9.ts.length c2)
   simp only [] at hc3 hr4 hz4 hg4 ⊢
   clear g3 hs3
   have HZW:Hid ((w3.setCell ⟨w1.heap.size + 1,2,none⟩ (.slice A2 v9.ts.length c2)).heap[w.heap.size]? = some (.cells #[.int .i64 0,.slice none 0 0,.slice none 0 0,.slice none 0 0] 26 (0,0))):=Hd hz4
   have HZS:=Hd (Row.setRow_ hz4 [.int .i64 0,.slice none 0 0,.slice none 0 0,.slice none 0 0] rfl)
   have HGF:=Hd (below_setRow hg4 (Nat.le_refl _) #[.int .i64 0,.slice none 0 0,.slice none 0 0,.slice none 0 0])
   clear hr4 hz4 hg4
   go_wp2_with (refine wpList_store_row rfl _ _ _ rfl _ #[.int .i64 0,.slice none 0 0,.slice none 0 0,.slice none 0 0] rfl rfl _ _ HZW.out sizeVec rfl (by simp [Value.oneCell']) ?_)
   exact bodyPost_ret (results_vec3 rfl _ _ _ _ _ _ _ (.int .i64 0) (.int .i64 f) rfl HZS.out rfl rfl) rfl (DecV.no HE.out HGF.out)
  ·have eT:(T == 3) = false:=by simpa using hT3
   have HDT:=(HTT.out.2 hT3).1
   have HOT:=Hd (HTT.out.2 hT3).2
   have HCX:=Hd (fun W h => HNU.out W h hT3)
   simp only [HDT] at HCX
   clear hT3 HDT
   go_enter Tryz.func19,Tryz.ntmps19
   go_wp2_with (first
    | (go_at_call 25;refine (HAP.out _).mono ?_;rintro e w1 ⟨rfl,hw1⟩;have HG1:=Hd (show Grows w w1 by rw [← hw1];exact HG0.out);have HZ1:=Hd (show Row w1 w.heap.size 26 [.int .i64 0,.slice none 0 0,.slice none 0 0,.slice none 0 0] by rw [← hw1];exact HR0.out);clear hw1 hcell1)
    | (refine wpList_store_vecG rfl _ _ rfl (w1.alloc (.cells (Array.replicate N (Value.bool false)) 4)) rfl (w1.heap.size + 1) (by rw [World.size_alloc]) rfl T none none (some ⟨w1.heap.size,0,none⟩) 0 0 0 0 N N rfl ?_;intro w2 hr2 hg2;have HR2:=Hd (show Row w2 (w1.heap.size + 1) 26 [.int .i64 T,.slice none 0 0,.slice none 0 0,.slice (some ⟨w1.heap.size,0,none⟩) N N] from hr2);have HN2:=Hd ((Row.new w1 4 (Array.replicate N (Value.bool false)) (List.replicate N (Value.bool false)) (by simp)).grow hg2);have HG12:=Hd ((growB w1 (.cells (Array.replicate N (Value.bool false)) 4)).of_below hg2);have HG2:=Hd (HG1.out.of_below HG12.out);clear hr2 hg2 hmkb))
   refine (HCX.out _ HG2.out).mono ?_
   rintro e w3 ⟨u,q',rfl,hq',hs3,g3,hi3⟩
   obtain ⟨A1,c1,rfl⟩:=hs3.slice_
   have HS3:=Hd hs3
   have HIB3:=Hd hi3
   clear hq'
   have HR3:=Hd (HR2.out.grow g3)
   have HZ3:=Hd ((HZ1.out.grow HG12.out).grow g3)
   have HN3:=Hd (HN2.out.grow g3)
   have HG3:=Hd (HG2.out.of_below g3)
   have HS12:=Hd (show w.heap.size < w1.heap.size from HZ1.out.lt)
   have hc3:=HR3.out.cell 1
   have hf3:=HR3.out.frozen 1
   simp only [List.getElem?_cons_succ,List.getElem?_cons_zero] at hc3
   have hr4:=HR3.out.set_ 1 (.slice A1 v9.is.length c1)
   simp only [List.set_cons_succ,List.set_cons_zero] at hr4
   have hz4:=HZ3.out.set_other (a:=⟨w1.heap.size + 1,1,none⟩) (show w1.heap.size + 1 ≠ w.heap.size by have:=HS12.out;omega) (.slice A1 v9.is.length c1)
   have hg4:=HG3.out.setCell (p:=⟨w1.heap.size + 1,1,none⟩) (show w.heap.size ≤ w1.heap.size + 1 by have:=HS12.out;omega) (.slice A1 v9.is.length c1)
   simp only [] at hc3 hr4 hz4 hg4 ⊢
   clear g3 hs3 hi3
   have HZW:Hid ((w3.setCell ⟨w1.heap.size + 1,1,none⟩ (.slice A1 v9.is.length c1)).heap[w.heap.size]? = some (.cells #[.int .i64 0,.slice none 0 0,.slice none 0 0,.slice none 0 0] 26 (0,0))):=Hd hz4
   have HZS:=Hd (Row.setRow_ hz4 [.int .i64 0,.slice none 0 0,.slice none 0 0,.slice none 0 0] rfl)
   have HGF:=Hd (below_setRow hg4 (Nat.le_refl _) #[.int .i64 0,.slice none 0 0,.slice none 0 0,.slice none 0 0])
   clear hr4 hz4 hg4
   go_wp2_with (refine wpList_store_row rfl _ _ _ rfl _ #[.int .i64 0,.slice none 0 0,.slice none 0 0,.slice none 0 0] rfl rfl _ _ HZW.out sizeVec rfl (by simp [Value.oneCell']) ?_)
   exact bodyPost_ret (results_vec3 rfl _ _ _ _ _ _ _ (.int .i64 0) (.int .i64 f) rfl HZS.out rfl rfl) rfl (DecV.no HE.out HGF.out)
 ·subst hf0
  obtain ⟨v',Q,e',hQ1,hQ2,r3,r4,r5,r6,r7,r8,r9⟩:=HMA.out rfl
  injection e' with e1 e2
  injection e2 with e2 _
  subst e1 e2
  have HQ:=Hd (And.intro hQ1 hQ2)
  have HII:=Hd r7
  have HFB:=Hd r9
  have HLN:=Hd (show v9.is.length ≤ N ∧ v9.ts.length ≤ N by
   rcases hT123 with h | h
   ·rw [(r5 h).1,(r5 h).2];simp
   ·rw [(r6 h).1,(r6 h).2];simp)
  have HL5:=Hd r5
  have HL6:=Hd r6
  have hQb:Q ≤ 1000000:=by omega
  have hN2:N ≤ 65536:=hN
  clear r3 r4 r5 r6 r7 r8 r9 hQ1 hQ2
  rcases hT123 with hT3 | hT3
  have eT:(T == 3) = true:=by simpa using hT3
  have HDT:=(HTT.out.1 hT3).1
  have HOT:=Hd (HTT.out.1 hT3).2
  have HCX:=Hd (fun W h => HSX.out W h hT3)
  simp only [HDT] at HCX
  clear hT3 HDT
  go_enter Tryz.func19,Tryz.ntmps19
  go_wp2_with (first
   | (go_at_call 25;refine (HAP.out _).mono ?_;rintro e w1 ⟨rfl,hw1⟩;have HG1:=Hd (show Grows w w1 by rw [← hw1];exact HG0.out);have HZ1:=Hd (show Row w1 w.heap.size 26 [.int .i64 0,.slice none 0 0,.slice none 0 0,.slice none 0 0] by rw [← hw1];exact HR0.out);clear hw1 hcell1)
   | (refine wpList_store_vecG rfl _ _ rfl (w1.alloc (.cells (Array.replicate N (Value.bool false)) 4)) rfl (w1.heap.size + 1) (by rw [World.size_alloc]) rfl T none none (some ⟨w1.heap.size,0,none⟩) 0 0 0 0 N N rfl ?_;intro w2 hr2 hg2;have HR2:=Hd (show Row w2 (w1.heap.size + 1) 26 [.int .i64 T,.slice none 0 0,.slice none 0 0,.slice (some ⟨w1.heap.size,0,none⟩) N N] from hr2);have HN2:=Hd ((Row.new w1 4 (Array.replicate N (Value.bool false)) (List.replicate N (Value.bool false)) (by simp)).grow hg2);have HG12:=Hd ((growB w1 (.cells (Array.replicate N (Value.bool false)) 4)).of_below hg2);have HG2:=Hd (HG1.out.of_below HG12.out);clear hr2 hg2 hmkb))
  refine (HCX.out _ HG2.out).mono ?_
  rintro e w3 ⟨u,rfl,g3,hs3⟩
  obtain ⟨A2,c2,rfl⟩:=hs3.slice_
  have HS3:=Hd hs3
  have HR3:=Hd (HR2.out.grow g3)
  have HZ3:=Hd ((HZ1.out.grow HG12.out).grow g3)
  have HN3:=Hd (HN2.out.grow g3)
  have HG3:=Hd (HG2.out.of_below g3)
  have HS12:=Hd (show w.heap.size < w1.heap.size from HZ1.out.lt)
  have hc3:=HR3.out.cell 2
  have hf3:=HR3.out.frozen 2
  simp only [List.getElem?_cons_succ,List.getElem?_cons_zero] at hc3
  have hr4:=HR3.out.set_ 2 (.slice A2 v9.ts.length c2)
  simp only [List.set_cons_succ,List.set_cons_zero] at hr4
  have hz4:=HZ3.out.set_other (a:=⟨w1.heap.size + 1,2,none⟩) (show w1.heap.size + 1 ≠ w.heap.size by have:=HS12.out;omega) (.slice A2 v9.ts.length c2)
  have hg4:=HG3.out.setCell (p:=⟨w1.heap.size + 1,2,none⟩) (show w.heap.size ≤ w1.heap.size + 1 by have:=HS12.out;omega) (.slice A2 v9.ts.length c2)
  simp only [] at hc3 hr4 hz4 hg4 ⊢
  clear g3 hs3
  obtain ⟨w4,hw4⟩:∃ w4,w4 = w3.setCell ⟨w1.heap.size + 1,2,none⟩ (.slice A2 v9.ts.length c2):=⟨_,rfl⟩
  have HO34:=Hd (show ∀ k,k ≠ w1.heap.size + 1 → w4.heap[k]? = w3.heap[k]? from fun k hk => by rw [hw4];exact heap_setCell_other _ _ _ _ hk)
  rw [← hw4] at hr4 hz4 hg4
  obtain ⟨A1,n1,c1,hA1⟩:∃ (A:Option Addr) (n c:Nat),Value.slice none 0 0 = .slice A n c ∧ n = v9.is.length:=⟨_,_,_,rfl,by rw [HOT.out];rfl⟩
  have HI4:=Hd (show IsI w4 (.slice A1 v9.is.length c1) v9.is by rw [← hA1.2,← hA1.1,HOT.out];exact Reads.nil_ _ 0)
  have HIB:=Hd (show IntB w4 (.slice A1 v9.is.length c1) by rw [← hA1.2,← hA1.1];exact IntB.none_ _ _ _)
  have HV4:=Hd (show Row w4 (w1.heap.size + 1) 26 [.int .i64 T,.slice A1 v9.is.length c1,.slice A2 v9.ts.length c2,.slice (some ⟨w1.heap.size,0,none⟩) N N] by rw [← hA1.2,← hA1.1];exact hr4)
  have HS4:=Hd (show IsS w4 (.slice A2 v9.ts.length c2) v9.ts from Reads.past HS3.out (noslice_s _) HR3.out hr4 ⟨_,_,_,rfl⟩ ⟨_,_,_,rfl⟩ ⟨_,_,_,rfl⟩ HO34.out)
  have HZ4:=Hd hz4
  have HG4:=Hd (show Grows w w4 from hg4)
  have HNL:=Hd (show IsT w4 (.slice (some ⟨w1.heap.size,0,none⟩) N N) (List.replicate N false) from Reads.of_row (e:=4) (by rw [show tcells (List.replicate N false) = List.replicate N (Value.bool false) by simp [tcells]];exact (HO34.out w1.heap.size (by omega)).trans HN3.out) N N (by simp [tcells]) (Nat.le_refl _))
  have HX4:=Hd (show IsV w4 (.agg #[.int .i64 T,.slice A1 v9.is.length c1,.slice A2 v9.ts.length c2,.slice (some ⟨w1.heap.size,0,none⟩) N N]) v9 from ⟨_,_,_,by rw [HV9.out.1],HI4.out,HS4.out,by rw [HV9.out.2];exact HNL.out⟩)
  have HSZ:=Hd HS12.out
  clear hr4 hz4 hg4 hA1
  go_wp2_with fail
  rw [← hw4]
  clear hw4 hc3 hf3 HR2 HR3 HN2 HN3 HS3 HO34 HZ3 HG3 HCX eT
  rotate_left
  have eT:(T == 3) = false:=by simpa using hT3
  have HDT:=(HTT.out.2 hT3).1
  have HOT:=Hd (HTT.out.2 hT3).2
  have HCX:=Hd (fun W h => HNU.out W h hT3)
  simp only [HDT] at HCX
  clear hT3 HDT
  go_enter Tryz.func19,Tryz.ntmps19
  go_wp2_with (first
   | (go_at_call 25;refine (HAP.out _).mono ?_;rintro e w1 ⟨rfl,hw1⟩;have HG1:=Hd (show Grows w w1 by rw [← hw1];exact HG0.out);have HZ1:=Hd (show Row w1 w.heap.size 26 [.int .i64 0,.slice none 0 0,.slice none 0 0,.slice none 0 0] by rw [← hw1];exact HR0.out);clear hw1 hcell1)
   | (refine wpList_store_vecG rfl _ _ rfl (w1.alloc (.cells (Array.replicate N (Value.bool false)) 4)) rfl (w1.heap.size + 1) (by rw [World.size_alloc]) rfl T none none (some ⟨w1.heap.size,0,none⟩) 0 0 0 0 N N rfl ?_;intro w2 hr2 hg2;have HR2:=Hd (show Row w2 (w1.heap.size + 1) 26 [.int .i64 T,.slice none 0 0,.slice none 0 0,.slice (some ⟨w1.heap.size,0,none⟩) N N] from hr2);have HN2:=Hd ((Row.new w1 4 (Array.replicate N (Value.bool false)) (List.replicate N (Value.bool false)) (by simp)).grow hg2);have HG12:=Hd ((growB w1 (.cells (Array.replicate N (Value.bool false)) 4)).of_below hg2);have HG2:=Hd (HG1.out.of_below HG12.out);clear hr2 hg2 hmkb))
  refine (HCX.out _ HG2.out).mono ?_
  rintro e w3 ⟨u,q',rfl,hq',hs3,g3,hi3⟩
  obtain ⟨A1,c1,rfl⟩:=hs3.slice_
  have HS3:=Hd hs3
  have HIB3:=Hd hi3
  obtain rfl:q' = (Q:Int):=hq' rfl
  clear hq'
  have HR3:=Hd (HR2.out.grow g3)
  have HZ3:=Hd ((HZ1.out.grow HG12.out).grow g3)
  have HN3:=Hd (HN2.out.grow g3)
  have HG3:=Hd (HG2.out.of_below g3)
  have HS12:=Hd (show w.heap.size < w1.heap.size from HZ1.out.lt)
  have hc3:=HR3.out.cell 1
  have hf3:=HR3.out.frozen 1
  simp only [List.getElem?_cons_succ,List.getElem?_cons_zero] at hc3
  have hr4:=HR3.out.set_ 1 (.slice A1 v9.is.length c1)
  simp only [List.set_cons_succ,List.set_cons_zero] at hr4
  have hz4:=HZ3.out.set_other (a:=⟨w1.heap.size + 1,1,none⟩) (show w1.heap.size + 1 ≠ w.heap.size by have:=HS12.out;omega) (.slice A1 v9.is.length c1)
  have hg4:=HG3.out.setCell (p:=⟨w1.heap.size + 1,1,none⟩) (show w.heap.size ≤ w1.heap.size + 1 by have:=HS12.out;omega) (.slice A1 v9.is.length c1)
  simp only [] at hc3 hr4 hz4 hg4 ⊢
  clear g3 hs3 hi3
  obtain ⟨w4,hw4⟩:∃ w4,w4 = w3.setCell ⟨w1.heap.size + 1,1,none⟩ (.slice A1 v9.is.length c1):=⟨_,rfl⟩
  have HO34:=Hd (show ∀ k,k ≠ w1.heap.size + 1 → w4.heap[k]? = w3.heap[k]? from fun k hk => by rw [hw4];exact heap_setCell_other _ _ _ _ hk)
  rw [← hw4] at hr4 hz4 hg4
  obtain ⟨A2,n2,c2,hA2⟩:∃ (A:Option Addr) (n c:Nat),Value.slice none 0 0 = .slice A n c ∧ n = v9.ts.length:=⟨_,_,_,rfl,by rw [HOT.out];rfl⟩
  have HS4:=Hd (show IsS w4 (.slice A2 v9.ts.length c2) v9.ts by rw [← hA2.2,← hA2.1,HOT.out];exact Reads.nil_ _ 0)
  have HV4:=Hd (show Row w4 (w1.heap.size + 1) 26 [.int .i64 T,.slice A1 v9.is.length c1,.slice A2 v9.ts.length c2,.slice (some ⟨w1.heap.size,0,none⟩) N N] by rw [← hA2.2,← hA2.1];exact hr4)
  have HI4:=Hd (show IsI w4 (.slice A1 v9.is.length c1) v9.is from Reads.past HS3.out (noslice_i _) HR3.out hr4 ⟨_,_,_,rfl⟩ ⟨_,_,_,rfl⟩ ⟨_,_,_,rfl⟩ HO34.out)
  have HIB:=Hd (show IntB w4 (.slice A1 v9.is.length c1) from fun b o s n c e => by have h2:=HIB3.out b o s n c e;obtain ⟨cs,m,h1⟩:=h2;subst_vars;exact ⟨cs,m,(HO34.out b (by rintro rfl;have h3:=HR3.out.symm.trans h1;injection h3 with h3;injection h3 with _ h4 _;exact absurd h4 (by decide))).trans h1⟩)
  have HZ4:=Hd hz4
  have HG4:=Hd (show Grows w w4 from hg4)
  have HNL:=Hd (show IsT w4 (.slice (some ⟨w1.heap.size,0,none⟩) N N) (List.replicate N false) from Reads.of_row (e:=4) (by rw [show tcells (List.replicate N false) = List.replicate N (Value.bool false) by simp [tcells]];exact (HO34.out w1.heap.size (by omega)).trans HN3.out) N N (by simp [tcells]) (Nat.le_refl _))
  have HX4:=Hd (show IsV w4 (.agg #[.int .i64 T,.slice A1 v9.is.length c1,.slice A2 v9.ts.length c2,.slice (some ⟨w1.heap.size,0,none⟩) N N]) v9 from ⟨_,_,_,by rw [HV9.out.1],HI4.out,HS4.out,by rw [HV9.out.2];exact HNL.out⟩)
  have HSZ:=Hd HS12.out
  clear hr4 hz4 hg4 hA2
  go_wp2_with fail
  rw [← hw4]
  clear hw4 hc3 hf3 HR2 HR3 HN2 HN3 HS3 HO34 HZ3 HG3 HCX eT
  all_goals
   have HCLW:=Hd (fun W (h:Grows w4 W) => ((HG4.out.of_below h).cell (World.block_lt_of_cell? _ _ HCL.out)).trans HCL.out)
   have hl1:=HLN.out.1
   have hl2:=HLN.out.2
   go_loopw [18] (fun i wr => RD1Rel w4 T v9.is i wr) (fun i _ => v9.is.length - (intOf i).toNat)
   case atStart => exact ⟨0,by omega,rfl,fun _ => by simp,Below.refl _ _⟩
   case round =>
    obtain ⟨j,hj,rfl,hgood,hb1⟩:=hrel
    have HB:=Hd hb1
    have HGD:=Hd hgood
    have HVW:=Hd (HV4.out.grow hb1)
    have HZW:Hid (wr.heap[w.heap.size]? = some (.cells #[.int .i64 0,.slice none 0 0,.slice none 0 0,.slice none 0 0] 26 (0,0))):=Hd (HZ4.out.grow hb1)
    have HZS:=Hd (Row.setRow_ (HZ4.out.grow hb1) [.int .i64 0,.slice none 0 0,.slice none 0 0,.slice none 0 0] rfl)
    have x0:=HVW.out.cell 0
    have x1:=HVW.out.cell 1
    have x2:=HVW.out.cell 2
    have x3:=HVW.out.cell 3
    simp only [List.getElem?_cons_succ,List.getElem?_cons_zero] at x0 x1 x2 x3
    clear hb1 hgood
    by_cases hlt:j < v9.is.length
    ·obtain ⟨bi,fi,hA1,hci⟩:=(HI4.out.grow HB.out).at_ hlt
     subst hA1
     have HTK:=Hd (any_take (f:=badBool) hlt)
     have HAT:=Hd (fun h => any_at (f:=badBool) hlt h)
     have hii:=HII.out _ (List.getElem_mem hlt)
     generalize v9.is[j] = x at *
     by_cases h1:T = 1
     ·have e11:(T == 1) = true:=by simpa using h1
      by_cases hx0:x = 0
      ·have HR:=Hd (show (v9.is.take (j + 1)).any badBool = false by rw [HTK.out,HGD.out h1,hx0];rfl)
       subst hx0
       clear h1 hii
       go_wp2_with fail
       go_roundw
       case rel => exact ⟨j + 1,by omega,by go_num,fun _ => HR.out,HB.out⟩
       case measure => simp [intOf];omega
      ·have ex0:(x != 0) = true:=by simpa using hx0
       by_cases hx1:x = 1
       ·have HR:=Hd (show (v9.is.take (j + 1)).any badBool = false by rw [HTK.out,HGD.out h1,hx1];rfl)
        subst hx1
        clear h1 hii hx0 ex0
        go_wp2_with fail
        go_roundw
        case rel => exact ⟨j + 1,by omega,by go_num,fun _ => HR.out,HB.out⟩
        case measure => simp [intOf];omega
       ·have ex1:(x != 1) = true:=by simpa using hx1
        have HE:=Hd (show decF b T N = (zeroV,0,4) by
         have hc:chk v9 = 4:=by unfold chk;rw [if_pos ⟨by rw [HV9.out.1];exact h1,HAT.out (by unfold badBool;simp [hx0,hx1])⟩]
         rw [HD0.out];unfold endV;rw [if_neg (by simp),if_pos (by rw [hc];decide),hc])
        have HGF:=Hd (below_setRow (HG4.out.of_below HB.out) (Nat.le_refl _) #[.int .i64 0,.slice none 0 0,.slice none 0 0,.slice none 0 0])
        clear h1 hii hx0 hx1
        go_wp2_with (refine wpList_store_row rfl _ _ _ rfl _ #[.int .i64 0,.slice none 0 0,.slice none 0 0,.slice none 0 0] rfl rfl _ _ HZW.out sizeVec rfl (by simp [Value.oneCell']) ?_)
        exact bodyPost_ret (results_vec3 rfl _ _ _ _ _ _ _ (.int .i64 0) (.int .i64 4) rfl HZS.out rfl rfl) rfl (DecV.no HE.out HGF.out)
     ·have e11:(T == 1) = false:=by simpa using h1
      have HN1:=Hd h1
      clear h1 hii
      go_wp2_with fail
      go_roundw
      case rel => exact ⟨j + 1,by omega,by go_num,fun h => absurd h HN1.out,HB.out⟩
      case measure => simp [intOf];omega
    ·have hke:v9.is.take j = v9.is:=List.take_of_length_le (by omega)
     rw [hke] at HGD
     clear hke
     go_wp2_with fail
     go_loopw [19] (fun i wr => RD2Rel w4 v9.ts i wr) (fun i _ => v9.ts.length - (intOf i).toNat)
     case atStart => exact ⟨0,by omega,rfl,by simp,HB.out⟩
     case round =>
      obtain ⟨j,hj,rfl,hgood,hb1⟩:=hrel
      have HB:=Hd hb1
      have HG2D:=Hd hgood
      have HVW:=Hd (HV4.out.grow hb1)
      have HZW:Hid (wr.heap[w.heap.size]? = some (.cells #[.int .i64 0,.slice none 0 0,.slice none 0 0,.slice none 0 0] 26 (0,0))):=Hd (HZ4.out.grow hb1)
      have HZS:=Hd (Row.setRow_ (HZ4.out.grow hb1) [.int .i64 0,.slice none 0 0,.slice none 0 0,.slice none 0 0] rfl)
      have x0:=HVW.out.cell 0
      have x1:=HVW.out.cell 1
      have x2:=HVW.out.cell 2
      have x3:=HVW.out.cell 3
      simp only [List.getElem?_cons_succ,List.getElem?_cons_zero] at x0 x1 x2 x3
      clear hb1 hgood
      by_cases hlt:j < v9.ts.length
      ·obtain ⟨bi,fi,hA2,hci⟩:=(HS4.out.grow HB.out).at_ hlt
       subst hA2
       have HTK:=Hd (any_take (f:=tooLong) hlt)
       have HAT:=Hd (fun h => any_at (f:=tooLong) hlt h)
       have hsz:(strOf v9.ts[j]).size = v9.ts[j].length:=rfl
       generalize v9.ts[j] = s at *
       generalize strOf s = st at *
       by_cases hlong:4096 < s.length
       ·have hd:decide (4096 < s.length) = true:=by simpa using hlong
        have hd':decide ((4096:Int) < (s.length:Int)) = true:=by simp;omega
        have HE:=Hd (show decF b T N = (zeroV,0,3) by
         have hc:chk v9 = 3:=by
          unfold chk
          rw [if_neg (fun h => by rw [HGD.out (by rw [← HV9.out.1];exact h.1)] at h;exact absurd h.2 (by simp)),if_pos (HAT.out (by unfold tooLong;simpa using hlong))]
         rw [HD0.out];unfold endV;rw [if_neg (by simp),if_pos (by rw [hc];decide),hc])
        have HGF:=Hd (below_setRow (HG4.out.of_below HB.out) (Nat.le_refl _) #[.int .i64 0,.slice none 0 0,.slice none 0 0,.slice none 0 0])
        clear hlong
        go_wp2_with (refine wpList_store_row rfl _ _ _ rfl _ #[.int .i64 0,.slice none 0 0,.slice none 0 0,.slice none 0 0] rfl rfl _ _ HZW.out sizeVec rfl (by simp [Value.oneCell']) ?_)
        exact bodyPost_ret (results_vec3 rfl _ _ _ _ _ _ _ (.int .i64 0) (.int .i64 3) rfl HZS.out rfl rfl) rfl (DecV.no HE.out HGF.out)
       ·have hd:decide (4096 < s.length) = false:=by simpa using hlong
        have hd':decide ((4096:Int) < (s.length:Int)) = false:=by simp;omega
        have HR:=Hd (show (v9.ts.take (j + 1)).any tooLong = false by rw [HTK.out,HG2D.out];unfold tooLong;simpa using hlong)
        clear hlong
        go_wp2_with fail
        go_roundw
        case rel => exact ⟨j + 1,by omega,by go_num,HR.out,HB.out⟩
        case measure => simp [intOf];omega
      ·have hke:v9.ts.take j = v9.ts:=List.take_of_length_le (by omega)
       rw [hke] at HG2D
       have hck:chk v9 = 0:=chk_of (fun h => HGD.out (by rw [← HV9.out.1];exact h)) HG2D.out
       have HE:=Hd (show decF b T N = (v9,(Q:Int),0) by rw [HD0.out];unfold endV;rw [if_neg (by simp),if_neg (by rw [hck];simp)])
       have HNS:=Hd (show v9.ns.length = N by rw [HV9.out.2,List.length_replicate])
       have hEn:Encable v9:=by
        obtain ⟨c1,c2⟩:=chk0 hck
        exact ⟨by rw [HV9.out.1];exact HT.out,by rw [HNS.out];exact HV9.out.2,by rw [HNS.out];exact hN2,fun h => by rw [HNS.out];exact HL6.out (by rw [← HV9.out.1];exact h),fun h => by rw [HNS.out];exact HL5.out (by rw [← HV9.out.1];exact h),c1,c2,hck⟩
       have hFn:Fine v9:=⟨by omega,by omega,HII.out,hEn.texts⟩
       have HXW:=Hd (fun W (h:Grows w4 W) => HX4.out.grow h)
       have HFF:=Hd (fun W (h:Grows w4 W) => HFO.out v9 _ W (HX4.out.grow h) hFn hEn HV9.out.1)
       rw [HFB.out] at HFF
       have HCT:=Hd (fun W (h:Grows w4 W) => (HV.out.grow (HG4.out.of_below h)).upTo12 HQ.out.2)
       have hsl:=fun W => cut12_run 29 (by kernel_rfl) (by kernel_rfl) (some ⟨bb,ff,none⟩) b.length c Q (by have:=HQ.out.2;omega) W
       obtain ⟨L,hL⟩:∃ L,b.take Q = L:=⟨_,rfl⟩
       rw [hL] at HFF HCT
       have hkw:IntKind.i64.wrap (k:Int) = (k:Int):=by rw [IntKind.wrap_i64];omega
       clear hke hck hEn hFn hL
       go_wp2_with fail
       have HVX:=Hd (HV4.out.grow HB.out)
       refine wp_region_loose (tabRs [(5,BytesV L)]) (by kernel_rfl) (by kernel_rfl) (tabRs_cons BytesV.lasts tabRs_nil) ?_
       iterate 5 ((with_reducible refine loose_one (v:=?_) (a':=?_) ?_ ?_ (fun w' hC' hG' => ?_) ?_ ?_);rotate_left 2;(focus rfl);(focus rfl);(focus (have f0:=(HVX.out.grow hC').cell 0;have f1:=(HVX.out.grow hC').cell 1;have f2:=(HVX.out.grow hC').cell 2;have f3:=(HVX.out.grow hC').cell 3;have z0:=HCLW.out w' (HB.out.of_below hC');have hp0:0 < b.length:=hlp;simp only [List.getElem?_cons_succ,List.getElem?_cons_zero] at f0 f1 f2 f3;clear hC' hG';go_simp;rfl));(focus (go_simp;rfl)))
       refine loose_call (R:=BytesV L) (f:=36) (args:=#[.agg #[.int .i64 T,.slice A1 v9.is.length c1,.slice A2 v9.ts.length c2,.slice (some ⟨w1.heap.size,0,none⟩) N N],.int .i64 (k:Int)]) (by rfl) (by rfl) (fun _ => by go_simp) (fun w' hC' hG' => byr_loose (HFF.out w' (HB.out.of_below hC'))) ?_
       intro v5 _
       refine ⟨?_,?_,?_⟩
       rotate_left
       ·go_simp
        rfl
       refine loose_one (v:=?_) (a':=?_) (by rfl) (by rfl) (fun w' hC' hG' => ?_) ?_ ?_
       rotate_left 2
       ·have hr:=run_string_bytes (P:=Tryz.prog) (show IsBytes w' _ L from (hG' 5 (by kernel_rfl)).2 rfl) 29 5 Tryz.underlying29 Tryz.underlying5 9 Tryz.underlying9
        clear hC' hG'
        go_simp
        rfl
       ·go_simp
        rfl
       iterate 2 ((with_reducible refine loose_one (v:=?_) (a':=?_) ?_ ?_ (fun w' hC' hG' => ?_) ?_ ?_);rotate_left 2;(focus rfl);(focus rfl);(focus (clear hC' hG';go_simp;rfl));(focus (go_simp;rfl)))
       iterate 1 ((with_reducible refine loose_one (v:=?_) (a':=?_) ?_ ?_ (fun w' hC' hG' => ?_) ?_ ?_);rotate_left 2;(focus rfl);(focus rfl);(focus (have hsq:=hsl w';clear hC' hG';go_simp;rfl));(focus (go_simp;rfl)))
       refine loose_one (v:=?_) (a':=?_) (by rfl) (by rfl) (fun w' hC' hG' => ?_) ?_ ?_
       rotate_left 2
       ·have hr:=run_string_bytes (P:=Tryz.prog) (HCT.out w' (HB.out.of_below hC')) 29 5 Tryz.underlying29 Tryz.underlying5 9 Tryz.underlying9
        clear hC' hG'
        go_simp
        rfl
       ·go_simp
        rfl
       iterate 1 ((with_reducible refine loose_one (v:=?_) (a':=?_) ?_ ?_ (fun w' hC' hG' => ?_) ?_ ?_);rotate_left 2;(focus rfl);(focus rfl);(focus (clear hC' hG';go_simp;rfl));(focus (go_simp;rfl)))
       refine loose_done (fun w7 hC' hG' => ?_)
       have HG7:=Hd (HB.out.of_below hC')
       have HVS:=Hd (HV4.out.grow HG7.out)
       have HZ7:=Hd (HZ4.out.grow HG7.out)
       have HZW:Hid (w7.heap[w.heap.size]? = some (.cells #[.int .i64 0,.slice none 0 0,.slice none 0 0,.slice none 0 0] 26 (0,0))):=Hd (HZ4.out.grow HG7.out)
       have HVL:Hid (w7.heap[w1.heap.size + 1]? = some (.cells #[.int .i64 T,.slice A1 v9.is.length c1,.slice A2 v9.ts.length c2,.slice (some ⟨w1.heap.size,0,none⟩) N N] 26 (0,0))):=Hd (HV4.out.grow HG7.out)
       have HRF:=Hd (Row.setRow_ (HZ4.out.grow HG7.out) [.int .i64 T,.slice A1 v9.is.length c1,.slice A2 v9.ts.length c2,.slice (some ⟨w1.heap.size,0,none⟩) N N] rfl)
       have HGF:=Hd (below_setRow (HG4.out.of_below HG7.out) (Nat.le_refl _) #[.int .i64 T,.slice A1 v9.is.length c1,.slice A2 v9.ts.length c2,.slice (some ⟨w1.heap.size,0,none⟩) N N])
       clear hG' hC'
       go_wp2_with (first
        | (refine wpList_load_row rfl _ _ rfl _ rfl _ _ _ _ HVL.out Tryz.underlying26 rfl sizeVec ?_)
        | (refine wpList_store_row rfl _ _ _ rfl _ #[.int .i64 T,.slice A1 v9.is.length c1,.slice A2 v9.ts.length c2,.slice (some ⟨w1.heap.size,0,none⟩) N N] rfl rfl _ _ HZW.out sizeVec rfl (by simp [Value.oneCell']) ?_))
       refine bodyPost_ret (results_vec3 rfl _ _ _ _ _ _ _ (.int .i64 (Q:Int)) (.int .i64 0) rfl HRF.out rfl rfl) rfl (DecV.yes HE.out ⟨_,_,_,by rw [HV9.out.1],?_,?_,?_⟩ HGF.out)
       ·exact Reads.other_row (HI4.out.grow HG7.out) ((HIB.out.grow HG7.out).ne_row HZ7.out) _
       ·exact Reads.not_row (HS4.out.grow HG7.out) HZ7.out (fun x hx => by obtain ⟨y,_,rfl⟩:=List.mem_map.1 hx;refine ⟨?_,?_,?_,?_⟩ <;> exact fun h => by cases h) _
       ·rw [HV9.out.2]
        exact Reads.other_row (HNL.out.grow HG7.out) (fun b o s n c e => by injection e with e;injection e with e;injection e with e;have:=HSZ.out;omega) _
end Go.Proofs.YthmipnokimlbdaaGreat
