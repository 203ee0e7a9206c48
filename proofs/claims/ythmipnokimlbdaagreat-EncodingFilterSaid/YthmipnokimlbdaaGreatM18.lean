/-
  Texts that the claims of this seat share, put together (En3, En4, En5, En6, En7, En8, Er1, Er2, ErA). No condition.
-/
import Derived.Test.YthmipnokimlbdaaGreatM17
import Derived.Test.YthmipnokimlbdaaGreatM14
import Derived.Test.YthmipnokimlbdaaGreatM15
import Derived.Test.YthmipnokimlbdaaGreatM12
import Derived.Test.YthmipnokimlbdaaGreatM19
import Derived.Test.YthmipnokimlbdaaGreatRm7
import Derived.Test.YthmipnokimlbdaaGreatM8
import Derived.Test.YthmipnokimlbdaaGreatM13
import Derived.Test.YthmipnokimlbdaaGreatM6
set_option linter.unusedVariables false
set_option linter.unusedSimpArgs false
namespace Go.Proofs.YthmipnokimlbdaaGreat
set_option maxRecDepth 8000
open Go.RowKit
def fillR {α:Type} (f:α → Value) (z:Value) (l:List α) (k:Nat):List Value:=(l.take k).map f ++ List.replicate (l.length - k) z
theorem fillR_zero {α:Type} (f:α → Value) (z:Value) (l:List α):fillR f z l 0 = List.replicate l.length z:=by unfold fillR;simp
theorem fillR_done {α:Type} (f:α → Value) (z:Value) (l:List α):fillR f z l l.length = l.map f:=by unfold fillR;simp
theorem fillR_get {α:Type} {f:α → Value} {z:Value} {l:List α} {k:Nat} (h:k < l.length):(fillR f z l k)[k]? = some z:=by
 unfold fillR
 rw [List.getElem?_append_right (by rw [List.length_map,List.length_take];omega),List.length_map,List.length_take,Nat.min_eq_left (by omega),Nat.sub_self,List.getElem?_replicate,if_pos (by omega)]
theorem fillR_set {α:Type} {f:α → Value} {z:Value} {l:List α} {k:Nat} (h:k < l.length):(fillR f z l k).set k (f l[k]) = fillR f z l (k + 1):=by
 unfold fillR
 obtain ⟨m,hm⟩:∃ m,l.length - k = m + 1:=⟨l.length - k - 1,by omega⟩
 rw [hm,show l.length - (k + 1) = m by omega,List.set_append_right _ _ (by rw [List.length_map,List.length_take];omega),List.length_map,List.length_take,Nat.min_eq_left (by omega),Nat.sub_self,List.replicate_succ,List.set_cons_zero,List.take_succ_eq_append_getElem h,List.map_append,List.append_assoc]
 rfl
theorem byr_of_made {f:FuncId} {args:Array Value} {w:World} {l:List UInt8} (h:Calls Tryz.prog f args w (Made l w)):Calls Tryz.prog f args w (ByR l w):=
 h.mono fun _ _ ⟨v,he,hown,hb⟩ => ⟨v,he,hb,IsBytes.of_own hown⟩
theorem run_room8 (N:Nat) (hN:N ≤ 1000000000) (W:World) :
 (Instr.makeSlice 29 (.int .i64 0) (.int .i64 (N:Int))).run Tryz.prog W = .ok (.slice (some ⟨W.heap.size,0,none⟩) 0 N) (W.alloc (.cells (madeCells #[.int .u8 0] N) 5)):=by
 obtain ⟨i0,hi,hz0,hz1,hz2⟩:=info_parts info_u8
 have hbs:(i0.bytes:Int) * (N:Int) ≤ 281474976710656:=by rw [hz2];omega
 have h:=run_make (P:=Tryz.prog) W 29 5 i0 (.int .u8 0) Tryz.underlying29 hi hz0 .i64 .i64 0 (N:Int) (by omega) (by omega) hbs (by omega)
 rw [hz1] at h
 simpa [Value.cells] using h
theorem own_room8 (w:World) (N:Nat) (hN:N ≤ 1000000000):(w.alloc (.cells (madeCells #[Value.int .u8 0] N) 5)).ownsRow w.heap.size 5 1 (.slice (some ⟨w.heap.size,0,none⟩) 0 N) 0 []:=by
 refine ⟨by simp,.inr ⟨w.heap.size,N,madeCells #[Value.int .u8 0] N,rfl,Nat.le_refl _,by show (w.heap.push _)[w.heap.size]? = _;simp,Nat.zero_le _,by unfold maxLen;omega,?_,by simp⟩⟩
 have h:(madeCells #[Value.int .u8 0] N).toList.length = N:=by rw [toList_madeCells_one];simp
 rw [Array.length_toList] at h
 omega
theorem esizeInts_any (v:Value) (l:List Int) (w:World) (hv:IsI w v l) (hl:l.length ≤ 1000000) :
 Calls Tryz.prog 82 #[v] w fun e w' => e = .returned (.int .i64 ((plI l).length:Int)) ∧ w = w':=by
 obtain ⟨A,c,rfl⟩:=hv.slice_
 rw [plI_length]
 clear hv
 generalize l.length = n at *
 go_enter Tryz.func82,Tryz.ntmps82
 go_wp2_with fail
 go_ret
 exact ⟨ret_eq (by omega),rfl⟩
def EIRel (w:World) (l:List Int) (b i:Value) (wr:World):Prop:=
 ∃ k:Nat,k ≤ l.length ∧ i = .int .i64 (k:Int) ∧ wr.ownsRow w.heap.size 5 1 b (plI (l.take k)).length (bcells (plI (l.take k))) ∧ Below w.heap.size w wr
set_option maxHeartbeats 4000000 in
theorem eencodeInts_any (v:Value) (l:List Int) (w:World) (hv:IsI w v l) (hl:l.length ≤ 1000000) :
 Calls Tryz.prog 81 #[v] w (Made (plI l) w):=by
 have HSZ:=Hd (esizeInts_any v l w hv hl)
 obtain ⟨A,c,rfl⟩:=hv.slice_
 have HV:=Hd hv
 have hPL:=plI_length l
 obtain ⟨N,hN⟩:∃ N,N = (plI l).length:=⟨_,rfl⟩
 rw [← hN] at HSZ hPL
 have hmk:=fun W => run_room8 N (by omega) W
 have HRO:=Hd (own_room8 w N (by omega))
 clear hv hPL hN
 go_enter Tryz.func81,Tryz.ntmps81
 go_wp2_with ((go_at_call 82;refine HSZ.out.mono ?_;rintro e w2 ⟨rfl,rfl⟩))
 clear hmk
 go_loopw [3,5,11] (fun b u i wr => EIRel w l b i wr) (fun _ _ i _ => l.length - (intOf i).toNat)
 case atStart => exact ⟨0,by omega,rfl,by simpa [plI,bcells] using HRO.out,growB _ _⟩
 case round =>
  obtain ⟨k,hk,rfl,hown,hb⟩:=hrel
  have HO:=Hd hown
  have HB:=Hd hb
  clear hown hb
  by_cases hlt:k < l.length
  ·obtain ⟨b,f,rfl,hck⟩:=(HV.out.grow HB.out).at_ hlt
   have HTK:=Hd (show plI (l.take (k + 1)) = plI (l.take k) ++ fixb (toU l[k]) 8 by rw [List.take_succ_eq_append_getElem hlt,plI_snoc])
   have HPK:=Hd (show (plI (l.take k)).length ≤ 8000000 by rw [plI_length,List.length_take];omega)
   have HFL:=Hd (fixb_length (toU l[k]) 8)
   have hx0:0 ≤ IntKind.u64.wrap l[k]:=by rw [← toU_cast];omega
   have hx1:IntKind.u64.wrap l[k] ≤ 18446744073709551615:=by have:=toU_lt l[k];rw [← toU_cast];omega
   have HF:=Hd (fun w' => fixed_any (IntKind.u64.wrap l[k]) 8 w' hx0 hx1)
   have hfe:fixs (IntKind.u64.wrap l[k]).toNat 8 = fixb (toU l[k]) 8:=fixs_ok (s:=8) (by omega) (by omega)
   rw [hfe] at HF
   clear hfe hx0 hx1
   generalize fixb (toU l[k]) 8 = E at *
   generalize l[k] = x at *
   obtain ⟨P,hP⟩:∃ P,plI (l.take k) = P:=⟨_,rfl⟩
   rw [hP] at HO HTK HPK
   clear hP
   go_wp2_with (first
    | (go_at_call 141;refine (HF.out _).mono ?_;rintro e w2 ⟨v2,rfl,hown2,g2⟩;have HO2:=Hd (own_growS HO.out g2);have HB2:=Hd (HB.out.trans (g2.mono HB.out.size));have HBY:=Hd (IsBytes.of_own hown2);clear hown2 g2)
    | (at_builtin;refine wpList_append_bytes (w:=w) rfl _ _ 29 rfl 5 Tryz.underlying29 info_u8 _ P (by rfl) HO2.out HB2.out _ E (by rfl) HBY.out (by have h1:=HPK.out;have h2:=HFL.out;omega) ?_;intro v3 w3 hown3 hb3;have HO3:=Hd hown3;have HB3:=Hd hb3;clear hown3 hb3))
   go_roundw
   case rel => exact ⟨k + 1,by omega,by go_num,by rw [HTK.out];exact HO3.out,HB3.out⟩
   case measure => simp [intOf];omega
  ·have hke:k = l.length:=by omega
   rw [hke,List.take_length] at HO
   clear hke
   go_wp2_with fail
   go_ret
   exact ⟨_,rfl,HO.out,HB.out⟩
def ucellT (x:Int):Value:=.int .u64 (IntKind.u64.wrap x)
theorem wcells_toU (l:List Int):l.map ucellT = wcells (l.map toU):=by
 unfold wcells ucellT
 rw [List.map_map]
 exact List.map_congr_left fun x _ => by show _ = Value.int .u64 ((toU x:Nat):Int);rw [toU_cast]
def EBRel (w:World) (l:List Int) (i:Value) (wr:World):Prop:=
 ∃ k:Nat,k ≤ l.length ∧ i = .int .i64 (k:Int) ∧ Row wr w.heap.size 85 (fillR ucellT (.int .u64 0) l k) ∧ Below w.heap.size w wr
theorem packI_one {l:List Int} (hl:l.length ≤ 1000000):packI (l.map toU) 1 = plB l:=by
 unfold packI plB
 rw [List.length_map,show okB (l.length:Int) 1 = true from okB_t (m:=1) (by omega) (by omega),if_pos rfl]
 rfl
set_option maxHeartbeats 4000000 in
theorem eencodeBools_any (v:Value) (l:List Int) (w:World) (hv:IsI w v l) (hl:l.length ≤ 1000000) :
 Calls Tryz.prog 78 #[v] w (ByR (plB l) w):=by
 obtain ⟨A,c,rfl⟩:=hv.slice_
 have HV:=Hd hv
 have HPI:=Hd (packI_one hl)
 have hmk:=run_make_oneM (P:=Tryz.prog) 52 85 (.int .u64 0) 8 Tryz.underlying52 info_u64 rfl l.length (by omega) (by omega)
 have HZ:=Hd (fillR_zero ucellT (.int .u64 0) l)
 clear hv
 go_enter Tryz.func78,Tryz.ntmps78
 go_wp2_with fail
 clear hmk
 go_loopw [4,5,11] (fun u1 u2 i wr => EBRel w l i wr) (fun _ _ i _ => l.length - (intOf i).toNat)
 case atStart => exact ⟨0,by omega,rfl,Row.new _ _ _ _ (by rw [HZ.out];simp),growB _ _⟩
 case round =>
  obtain ⟨k,hk,rfl,hrow,hb⟩:=hrel
  have HR:=Hd hrow
  have HB:=Hd hb
  by_cases hlt:k < l.length
  ·obtain ⟨b,f,rfl,hck⟩:=(HV.out.grow HB.out).at_ hlt
   have hcell:=hrow.cell k
   rw [fillR_get hlt] at hcell
   have hfr:=hrow.frozen k
   have HST:=Hd (fillR_set (f:=ucellT) (z:=.int .u64 0) hlt)
   generalize l[k] = x at *
   clear hrow hb
   go_wp2_with fail
   go_roundw
   case rel => exact ⟨k + 1,by omega,by go_num,by rw [← HST.out];exact HR.out.set_ k _,HB.out.setCell (Nat.le_refl _) _⟩
   case measure => simp [intOf];omega
  ·have hke:k = l.length:=by omega
   rw [hke,fillR_done,wcells_toU] at HR
   have hrd:IsW wr (.slice (some ⟨w.heap.size,0,none⟩) l.length l.length) (l.map toU):=Reads.of_row HR.out l.length l.length (by simp [wcells]) (Nat.le_refl _)
   have HPK:=Hd (pack_any _ (l.map toU) 1 wr hrd (U64_toU l) (by rw [List.length_map];omega))
   rw [HPI.out] at HPK
   clear hke hrd hrow hb
   go_wp2_with fail
   refine HPK.out.mono ?_
   rintro e w2 ⟨v2,rfl,g2,hb2⟩
   have HB2:=Hd hb2
   have HG2:=Hd (HB.out.trans (g2.mono HB.out.size))
   clear hb2 g2
   go_wp2_with fail
   go_ret
   exact ⟨_,rfl,HG2.out,HB2.out⟩
theorem esizeBools_any (v:Value) (l:List Int) (w:World) (hv:IsI w v l) (hl:l.length ≤ 1000000) :
 Calls Tryz.prog 79 #[v] w fun e w' => e = .returned (.int .i64 ((plB l).length:Int)) ∧ w = w':=by
 obtain ⟨A,c,rfl⟩:=hv.slice_
 have HS:=Hd (size_any (l.length:Int) 1 w)
 have hz:sizeI (l.length:Int) 1 = (szB l.length 1:Int):=by
  unfold sizeI
  rw [show okB (l.length:Int) 1 = true from okB_t (m:=1) (by omega) (by omega),if_pos rfl,Int.toNat_natCast]
  rfl
 rw [hz] at HS
 rw [plB_length]
 clear hv hz
 generalize szB l.length 1 = r at *
 generalize l.length = n at *
 go_enter Tryz.func79,Tryz.ntmps79
 go_wp2_with fail
 refine HS.out.mono ?_
 rintro e w2 ⟨rfl,rfl⟩
 go_wp2_with fail
 go_ret
 exact ⟨rfl,rfl⟩
theorem eencodeLength_any (s:Str) (w:World) (hs:s.length ≤ 1000000):Calls Tryz.prog 164 #[.string (strOf s)] w (Made (enc s.length) w):=by
 have HE:=Hd (encode_any (s.length:Int) w (by omega) (by omega))
 rw [Int.toNat_natCast] at HE
 have hsz:(strOf s).size = s.length:=rfl
 generalize strOf s = t at *
 generalize enc s.length = E at *
 generalize s.length = n at *
 go_enter Tryz.func164,Tryz.ntmps164
 go_wp2_with fail
 refine HE.out.mono ?_
 rintro e w2 ⟨v2,rfl,hown2,g2⟩
 have HO:=Hd hown2
 have HG:=Hd g2
 clear hown2 g2
 go_wp2_with fail
 go_ret
 exact ⟨_,rfl,HO.out,HG.out⟩
theorem wordsL_one (s:Str):wordL s = enc s.length ++ s:=rfl
def ESRelEn3 (w:World) (l:List Str) (s i:Value) (wr:World):Prop:=
 ∃ k:Nat,k ≤ l.length ∧ i = .int .i64 (k:Int) ∧ s = .int .i64 ((wordsL (l.take k)).length:Int) ∧ Grows w wr
set_option maxHeartbeats 4000000 in
theorem esizeTexts_any (v:Value) (l:List Str) (w:World) (hv:IsS w v l) (hl:l.length ≤ 1000000) (hs:∀ s ∈ l,s.length ≤ 1000000) :
 Calls Tryz.prog 96 #[v] w fun e w' => e = .returned (.int .i64 ((wordsL l).length:Int)) ∧ Grows w w':=by
 obtain ⟨A,c,rfl⟩:=hv.slice_
 have HV:=Hd hv
 have HSL:=Hd hs
 clear hv hs
 go_enter Tryz.func96,Tryz.ntmps96
 go_wp2_with fail
 go_loopw [3,5,8] (fun s u i wr => ESRelEn3 w l s i wr) (fun _ _ i _ => l.length - (intOf i).toNat)
 case atStart => exact ⟨0,by omega,rfl,rfl,Below.refl _ _⟩
 case round =>
  obtain ⟨k,hk,rfl,rfl,hb⟩:=hrel
  have HB:=Hd hb
  clear hb
  by_cases hlt:k < l.length
  ·obtain ⟨b,f,rfl,hck⟩:=(HV.out.grow HB.out).at_ hlt
   have hsl:=HSL.out _ (List.getElem_mem hlt)
   have HTK:=Hd (show (wordsL (l.take (k + 1))).length = (wordsL (l.take k)).length + ((enc l[k].length).length + l[k].length) by
    rw [wordsL_take hlt,List.length_append,wordsL_one,List.length_append])
   have hbd:(wordsL (l.take k)).length ≤ 1000010 * 1000000:=by
    have h1:=wordsL_len (ws:=l.take k) fun x hx => HSL.out x (List.mem_of_mem_take hx)
    rw [List.length_take] at h1
    have h3:1000010 * min k l.length ≤ 1000010 * 1000000:=Nat.mul_le_mul_left _ (by omega)
    omega
   have hsz:(strOf l[k]).size = l[k].length:=rfl
   have HEK:=Hd (eencodeLength_any l[k] wr (by omega))
   have hel:=enc_len10 (n:=l[k].length) (by omega)
   generalize l[k] = s at *
   generalize enc s.length = E at *
   generalize strOf s = t at *
   generalize (wordsL (l.take k)).length = P at *
   generalize s.length = n at *
   go_wp2_with fail
   refine HEK.out.mono ?_
   rintro e w2 ⟨v2,rfl,hown2,g2⟩
   obtain ⟨A2,c2,rfl⟩:=own_sliceB hown2
   have HB2:=Hd (HB.out.of_below g2)
   clear hown2 g2 hck
   go_wp2_with fail
   go_roundw
   case rel => exact ⟨k + 1,by omega,by go_num,by rw [HTK.out];first | rfl | (congr 1),HB2.out⟩
   case measure => simp [intOf];omega
  ·have HF:=Hd (show wordsL (l.take k) = wordsL l by rw [List.take_of_length_le (by omega)])
   go_wp2_with fail
   go_ret
   exact ⟨ret_eq (by rw [HF.out]),HB.out⟩
def ETRel (w:World) (l:List Str) (b i:Value) (wr:World):Prop:=
 ∃ k:Nat,k ≤ l.length ∧ i = .int .i64 (k:Int) ∧ wr.ownsRow w.heap.size 5 1 b (wordsL (l.take k)).length (bcells (wordsL (l.take k))) ∧ Below w.heap.size w wr
set_option maxHeartbeats 4000000 in
theorem eencodeTexts_any (v:Value) (l:List Str) (w:World) (hv:IsS w v l) (hl:l.length ≤ 1000000) (hs:∀ s ∈ l,s.length ≤ 1000000) (htot:(wordsL l).length ≤ 1000000000) :
 Calls Tryz.prog 95 #[v] w (Made (wordsL l) w):=by
 have HSZ:=Hd (esizeTexts_any v l w hv hl hs)
 obtain ⟨A,c,rfl⟩:=hv.slice_
 have HV:=Hd hv
 have HSL:=Hd hs
 obtain ⟨N,hN⟩:∃ N,N = (wordsL l).length:=⟨_,rfl⟩
 rw [← hN] at HSZ htot
 have hmk:=fun W => run_room8 N htot W
 have HRO:=Hd (fun W => own_room8 W N htot)
 clear hv hs hN htot
 go_enter Tryz.func95,Tryz.ntmps95
 go_wp2_with fail
 refine HSZ.out.mono ?_
 rintro e w1 ⟨rfl,g1⟩
 have HG1:=Hd g1
 clear g1
 go_wp2_with fail
 clear hmk
 go_loopw [3,5,11] (fun b u i wr => ETRel w l b i wr) (fun _ _ i _ => l.length - (intOf i).toNat)
 case atStart => exact ⟨0,by omega,rfl,ownsRow_base (by simpa [wordsL,bcells] using HRO.out w1) HG1.out.size,HG1.out.of_below (growB _ _)⟩
 case round =>
  obtain ⟨k,hk,rfl,hown,hb⟩:=hrel
  have HO:=Hd hown
  have HB:=Hd hb
  clear hown hb
  by_cases hlt:k < l.length
  ·obtain ⟨b,f,rfl,hck⟩:=(HV.out.grow HB.out).at_ hlt
   have HTK:=Hd (wordsL_take hlt)
   have hsl:=HSL.out _ (List.getElem_mem hlt)
   have HWL:=Hd (show (wordsL (l.take k)).length ≤ 100000000000000 by
    have h1:=wordsL_len (ws:=l.take k) fun x hx => HSL.out x (List.mem_of_mem_take hx)
    rw [List.length_take] at h1
    have h3:1000010 * min k l.length ≤ 1000010 * 1000000:=Nat.mul_le_mul_left _ (by omega)
    omega)
   obtain ⟨P,hP⟩:∃ P,wordsL (l.take k) = P:=⟨_,rfl⟩
   have HTP:=Hd (show wordsL (l.take (k + 1)) = P ++ enc l[k].length ++ l[k] by
    rw [HTK.out,← hP];simp [wordL])
   rw [hP] at HO HWL
   have hsz:(strOf l[k]).size = l[k].length:=rfl
   have HEK:=Hd (eencodeLength_any l[k] wr (by omega))
   have HEL2:=Hd (enc_len10 (n:=l[k].length) (by omega))
   generalize l[k] = s at *
   generalize enc s.length = E at *
   clear hP HTK
   go_wp2_with fail
   refine HEK.out.mono ?_
   rintro e w2 ⟨v2,rfl,hown2,g2⟩
   have HO2:=Hd (own_growS HO.out g2)
   have HB2:=Hd (HB.out.trans (g2.mono HB.out.size))
   have HBY:=Hd (IsBytes.of_own hown2)
   clear hown2 g2 hck
   have hw1:=HWL.out
   have hw2:=HEL2.out
   go_wp2_with (first
    | (at_builtin;refine wpList_append_bytes (w:=w) rfl _ _ 29 rfl 5 Tryz.underlying29 info_u8 _ P (by rfl) HO2.out HB2.out _ E (by rfl) HBY.out (by omega) ?_;intro v3 w3 hown3 hb3;have HO3:=Hd hown3;have HB3:=Hd hb3;clear hown3 hb3)
    | (at_builtin;refine wpList_append_str (w:=w) rfl _ _ 29 9 rfl 5 Tryz.underlying29 Tryz.underlying9 info_u8 _ (P ++ E) (by rfl) HO3.out HB3.out s (by rfl) (by rw [List.length_append];omega) ?_;intro v4 w4 hown4 hb4;have HO4:=Hd hown4;have HB4:=Hd hb4;clear hown4 hb4))
   first
    | (go_roundw;(case rel => exact ⟨k + 1,by omega,by go_num,by rw [HTP.out];exact HO4.out,HB4.out⟩);(case measure => simp [intOf];omega))
    | exact ⟨⟨k + 1,by omega,by go_num,by rw [HTP.out];exact HO4.out,HB4.out⟩,by simp [intOf];omega⟩
  ·have hke:k = l.length:=by omega
   rw [hke,List.take_length] at HO
   clear hke
   go_wp2_with fail
   go_ret
   exact ⟨_,rfl,HO.out,HB.out⟩
theorem eencodeRuns_any (v:Value) (l:List Int) (w:World) (hv:IsI w v l) (hl:l.length ≤ 65536) (hin:∀ x ∈ l,frIn x) :
 Calls Tryz.prog 84 #[v] w (ByR (encR (runsR l)) w):=by
 have HRU:=Hd (lruns_any v l w hv (by omega))
 have hval:=runs_valid hl
 have hll:=valid_length hval
 have hcnt:∀ x ∈ runsR l,0 ≤ x.2 ∧ x.2 ≤ 9223372036854775807:=fun x hx => by obtain ⟨j,hj,rfl⟩:=List.getElem_of_mem hx;have h1:=valid_count hval hj;have h2:=(valid_sum hval j (by omega)).1;omega
 have HEN:=Hd (fun w' v' (h:ReadsR w' v' (runsR l)) => lencode_any v' (runsR l) w' h (runs_in hin) hcnt (by omega))
 obtain ⟨A,c,rfl⟩:=hv.slice_
 generalize encR (runsR l) = E at *
 clear hv hval hll hcnt hin
 go_enter Tryz.func84,Tryz.ntmps84
 go_wp2_with fail
 refine HRU.out.mono ?_
 rintro e w2 ⟨u,rfl,g2,hr2⟩
 have HR2:=Hd hr2
 have HG2:=Hd g2
 clear hr2 g2
 go_wp2_with fail
 refine (HEN.out _ _ HR2.out).mono ?_
 rintro e w3 ⟨v3,rfl,hown3,g3⟩
 have HB3:=Hd (IsBytes.of_own hown3)
 have HG3:=Hd (HG2.out.of_below g3)
 clear hown3 g3
 go_wp2_with fail
 go_ret
 exact ⟨_,rfl,HG3.out,HB3.out⟩
theorem esizeRuns_any (v:Value) (l:List Int) (w:World) (hv:IsI w v l) (hl:l.length ≤ 65536) (hin:∀ x ∈ l,frIn x) :
 Calls Tryz.prog 85 #[v] w fun e w' => e = .returned (.int .i64 ((encR (runsR l)).length:Int)) ∧ Grows w w':=by
 have HRU:=Hd (eencodeRuns_any v l w hv hl hin)
 obtain ⟨A,c,rfl⟩:=hv.slice_
 generalize encR (runsR l) = E at *
 clear hv hin
 go_enter Tryz.func85,Tryz.ntmps85
 go_wp2_with fail
 refine HRU.out.mono ?_
 rintro e w2 ⟨u,rfl,g2,hb2⟩
 obtain ⟨A2,c2,rfl,_⟩:=hb2
 have HG2:=Hd g2
 clear g2
 go_wp2_with fail
 go_ret
 exact ⟨rfl,HG2.out⟩
def plainL (b:List UInt8) (o n:Nat):List Int:=(List.range n).map fun j => toI (le ((b.drop (o + 8 * j)).take 8))
theorem plainL_length (b:List UInt8) (o n:Nat):(plainL b o n).length = n:=by simp [plainL]
theorem plainL_get {b:List UInt8} {o n k:Nat} (h:k < (plainL b o n).length):(plainL b o n)[k] = toI (le ((b.drop (o + 8 * k)).take 8)):=by simp [plainL]
theorem pdI_ok {b:List UInt8} {o n:Nat} (h:o + 8 * n ≤ b.length):pdI b o n = (plainL b o n,((o + 8 * n:Nat):Int),0):=if_pos h
theorem pdI_no {b:List UInt8} {o n:Nat} (h:¬ o + 8 * n ≤ b.length):pdI b o n = ([],0,2):=if_neg h
theorem readR {r s:List Int × Int × Int} {w w':World} {v:Value} {q f:Int} (h:r = (s.1,q,f)) (hv:IsI w' v s.1) (hg:Grows w w') (hf:FreshI w.heap.size w' v):LDecF r w (.returned (.tuple #[v,.int .i64 q,.int .i64 f])) w':=by
 subst h
 exact ⟨v,rfl,hv,hg,hf⟩
theorem wrapi64 (x:Int):IntKind.i64.wrap x = RowKit.wrap64 x:=by rw [IntKind.wrap_i64];unfold RowKit.wrap64;rfl
def DIRel (w:World) (b:List UInt8) (o n:Nat) (off i:Value) (wr:World):Prop:=
 ∃ k p:Nat,k ≤ n ∧ i = .int .i64 (k:Int) ∧ off = .int .i64 (p:Int) ∧ p = o + 8 * k ∧ p ≤ b.length ∧ Row wr w.heap.size 2 (fillR (Value.int .i64) (.int .i64 0) (plainL b o n) k) ∧ Below w.heap.size w wr
set_option maxHeartbeats 4000000 in
theorem edecodeInts_any (A:Option Addr) (c:Nat) (b:List UInt8) (o n:Nat) (w:World) (hb:IsBytes w (.slice A b.length c) b) (hl:b.length ≤ 1000000) (ho:o ≤ b.length) (hn:n ≤ 65536) :
 Calls Tryz.prog 83 #[.slice A b.length c,.int .i64 (o:Int),.int .i64 (n:Int)] w (LDecF (pdI b o n) w):=by
 have HV:=Hd hb
 have hmk:=run_make_oneM (P:=Tryz.prog) 22 2 (.int .i64 0) 8 Tryz.underlying22 info_i64 rfl n (by omega) (by omega)
 have HZ:=Hd (fillR_zero (Value.int .i64) (.int .i64 0) (plainL b o n))
 have HLN:=Hd (plainL_length b o n)
 have HRD:=Hd (fun (p:Nat) (W:World) (hW:Grows w W) (hp:p ≤ b.length) => readFixed_any (.slice A b.length c) b (p:Int) 8 W (hb.grow hW) (by unfold maxLen;omega) (by omega) (by omega))
 have HO:=Hd ho
 obtain ⟨R,hR⟩:∃ R,R = pdI b o n:=⟨_,rfl⟩
 rw [← hR]
 have HR:=Hd hR
 clear hb ho hR
 go_enter Tryz.func83,Tryz.ntmps83
 go_wp2_with fail
 clear hmk
 go_loopw [1,10,11,12,17] (fun off u1 u2 u3 i wr => DIRel w b o n off i wr) (fun _ _ _ _ i _ => n - (intOf i).toNat)
 case atStart => exact ⟨0,o,by omega,rfl,rfl,by omega,HO.out,Row.new _ _ _ _ (by rw [HZ.out,HLN.out];simp),growB _ _⟩
 case round =>
  obtain ⟨k,p,hk,rfl,rfl,hp,hpb,hrow,hb⟩:=hrel
  have HP:=Hd hp
  have HPB:=Hd hpb
  have HRW:=Hd hrow
  have HB:=Hd hb
  by_cases hlt:k < n
  ·by_cases hs:p + 8 ≤ b.length
   ·have HF:=Hd (HRD.out p wr hb hpb)
    rw [show rdf b (p:Int) 8 = ((le ((b.drop p).take 8):Int),0) from rdf_ok (s:=8) (by omega) (by omega) hs] at HF
    have hkl:k < (plainL b o n).length:=by rw [HLN.out];exact hlt
    have hcell:=hrow.cell k
    rw [fillR_get hkl] at hcell
    have hfr:=hrow.frozen k
    have HST:=Hd (fillR_set (f:=Value.int .i64) (z:=.int .i64 0) hkl)
    have hge:=plainL_get hkl
    rw [← hp] at hge
    rw [hge] at HST
    unfold toI at HST
    have HW64:=Hd (fun x:Int => wrapi64 x)
    generalize le ((b.drop p).take 8) = x at *
    have HS:=Hd hs
    clear hrow hb hp hs hge hkl
    go_wp2_with ((go_at_call 142;refine HF.out.mono ?_;rintro e w2 ⟨rfl,rfl⟩))
    go_roundw
    case rel => exact ⟨k + 1,p + 8,by omega,by go_num,by go_num,by have:=HP.out;omega,HS.out,by rw [← HST.out,HW64.out];exact HRW.out.set_ k _,HB.out.setCell (Nat.le_refl _) _⟩
    case measure => simp [intOf];omega
   ·have HF:=Hd (HRD.out p wr hb hpb)
    rw [rdf_short (by omega) (by omega)] at HF
    have HE:=Hd (show R = ([],0,2) by rw [HR.out];exact pdI_no (by omega))
    clear hrow hb hp hs
    go_wp2_with ((go_at_call 142;refine HF.out.mono ?_;rintro e w2 ⟨rfl,rfl⟩))
    go_ret3
    exact LDecF.err HE.out HB.out
  ·have hke:k = n:=by omega
   have HE:=Hd (show R = (plainL b o n,(p:Int),0) by rw [HR.out,hp,hke];exact pdI_ok (by omega))
   have hfd:=fillR_done (Value.int .i64) (.int .i64 0) (plainL b o n)
   rw [HLN.out] at hfd
   have hrow2:=hrow
   rw [hke,hfd] at hrow2
   have HRD2:=Hd (show IsI wr (.slice (some ⟨w.heap.size,0,none⟩) n n) (plainL b o n) from Reads.of_row hrow2 n n (by simp [HLN.out]) (Nat.le_refl _))
   have HRT:=Hd hrow2
   clear hrow hrow2 hb hp hke hfd
   go_wp2_with fail
   go_ret3
   exact readR (s:=(plainL b o n,0,0)) HE.out HRD2.out HB.out (FreshI.laid (Nat.le_refl _) HRT.out _ _ _)
set_option maxHeartbeats 1000000 in
theorem edecodeRuns_any (v:Value) (b:List UInt8) (o n:Nat) (w:World) (hb:IsBytes w v b) (hl:b.length ≤ 1000000) (ho:o ≤ b.length) (hn:n ≤ 65536) :
 Calls Tryz.prog 86 #[v,.int .i64 (o:Int),.int .i64 (n:Int)] w (LDecF (drR b o n) w):=by
 have HD:=Hd (ldecode_any v b (o:Int) w hb (by omega) (by omega) (by omega))
 obtain ⟨A,c,rfl,_⟩:=hb
 by_cases h1:(dcR b o).2.2 = 0
 ·obtain ⟨o',k,hoo,hq,hle,hval,hin,_⟩:=dcR_acc h1
  obtain rfl:o = o':=by omega
  clear hoo
  obtain ⟨q,hqn⟩:∃ q:Nat,q = o + k:=⟨_,rfl⟩
  rw [← hqn] at hq
  have e1:dcR b o = ((dcR b o).1,(q:Int),0):=by rw [← h1,← hq]
  have hlen:=valid_expR hval
  have HEX:=Hd (fun (u:Value) (W:World) (hu:ReadsR W u (dcR b o).1) => lexpandF_any u (dcR b o).1 W hu (by have:=valid_length hval;omega))
  rw [e1] at HD
  have hx1:expI (dcR b o).1 = expR (dcR b o).1:=by unfold expI;rw [if_pos hval]
  rw [hx1] at HEX
  by_cases h2:(expR (dcR b o).1).length = n
  ·have HE:=Hd (show drR b o n = (expR (dcR b o).1,(q:Int),0) by unfold drR;rw [if_neg (by rw [h1];simp),if_neg (by rw [h2];simp),hq])
   generalize drR b o n = R at *
   generalize expR (dcR b o).1 = E at *
   generalize expE (dcR b o).1 = x at *
   generalize (dcR b o).1 = rs at *
   generalize dcR b o = Z at *
   have H2:=Hd h2
   clear h1 hq e1 hval hin hle hqn hx1 hlen h2
   go_enter Tryz.func86,Tryz.ntmps86
   go_wp2_with fail
   refine HD.out.mono ?_
   rintro e w2 ⟨u,rfl,g2,hr2⟩
   have HR2:=Hd hr2
   have HG2:=Hd g2
   clear hr2 g2
   go_wp2_with fail
   refine (HEX.out _ _ HR2.out).mono ?_
   rintro e w3 ⟨u3,rfl,g3,hi3,hf3⟩
   obtain ⟨A3,c3,rfl⟩:=hi3.slice_
   have HF3:=Hd (hf3.mono HG2.out.size)
   clear hf3
   have HI3:=Hd hi3
   have HG3:=Hd (HG2.out.of_below g3)
   clear hi3 g3
   obtain rfl:=H2.out
   go_wp2_with fail
   go_ret3
   exact readR (s:=(E,0,0)) HE.out HI3.out HG3.out HF3.out
  ·have HE:=Hd (show drR b o n = ([],0,18) by unfold drR;rw [if_neg (by rw [h1];simp),if_pos (by omega)])
   generalize drR b o n = R at *
   generalize expR (dcR b o).1 = E at *
   generalize expE (dcR b o).1 = x at *
   generalize (dcR b o).1 = rs at *
   generalize dcR b o = Z at *
   have hne:(E.length != n) = true:=by simpa using h2
   have hne2:((E.length:Int) != (n:Int)) = true:=by simp;omega
   clear h1 hq e1 hval hin hle hqn hx1 hlen h2
   go_enter Tryz.func86,Tryz.ntmps86
   go_wp2_with fail
   refine HD.out.mono ?_
   rintro e w2 ⟨u,rfl,g2,hr2⟩
   have HR2:=Hd hr2
   have HG2:=Hd g2
   clear hr2 g2
   go_wp2_with fail
   refine (HEX.out _ _ HR2.out).mono ?_
   rintro e w3 ⟨u3,rfl,g3,hi3,hf3⟩
   obtain ⟨A3,c3,rfl⟩:=hi3.slice_
   have HG3:=Hd (HG2.out.of_below g3)
   clear hi3 g3 hf3
   go_wp2_with fail
   go_ret3
   exact LDecF.err HE.out HG3.out
 ·have HE:=Hd (show drR b o n = ([],0,(dcR b o).2.2) by unfold drR;rw [if_pos h1])
  have hne:((dcR b o).2.2 != 0) = true:=by simpa using h1
  generalize drR b o n = R at *
  generalize dcR b o = Z at *
  obtain ⟨z1,z2,z3⟩:=Z
  simp only [] at hne HD HE
  clear h1
  go_enter Tryz.func86,Tryz.ntmps86
  go_wp2_with fail
  refine HD.out.mono ?_
  rintro e w2 ⟨u,rfl,g2,hr2⟩
  have HG2:=Hd g2
  clear hr2 g2
  go_wp2_with fail
  go_ret3
  exact LDecF.err HE.out HG2.out
theorem RsR.of {r:List Str × Int × Int} {l:List Str} {w w':World} {v:Value} {q f:Int} (h:r = (l,q,f)) (hv:IsS w' v l) (hg:Grows w w'):RsR r w (.returned (.tuple #[v,.int .i64 q,.int .i64 f])) w':=by
 subst h
 exact ⟨v,rfl,hg,hv⟩
theorem RsR.no {r:List Str × Int × Int} {w w':World} {f:Int} (h:r = ([],0,f)) (hg:Grows w w'):RsR r w (.returned (.tuple #[.slice none 0 0,.int .i64 0,.int .i64 f])) w':=by
 subst h
 exact ⟨_,rfl,hg,Reads.nil_ _ 0⟩
def DTRelEn5 (w:World) (b:List UInt8) (n:Nat) (R:List Str × Int × Int) (off vs i:Value) (wr:World):Prop:=
 ∃ (k q:Nat) (ws:List Str),k ≤ n ∧ i = .int .i64 (k:Int) ∧ off = .int .i64 (q:Int) ∧ q ≤ b.length ∧ ws.length = k ∧ wr.ownsRow w.heap.size 9 1 vs ws.length (scells ws) ∧ pdTs b (n - k) ws q = R ∧ Grows w wr
set_option maxHeartbeats 4000000 in
theorem edecodeTexts_any (A:Option Addr) (c:Nat) (b:List UInt8) (o n:Nat) (w:World) (hb:IsBytes w (.slice A b.length c) b) (hlc:b.length ≤ c) (hl:b.length ≤ 1000000) (ho:o ≤ b.length) (hn:n ≤ 65536) :
 Calls Tryz.prog 97 #[.slice A b.length c,.int .i64 (o:Int),.int .i64 (n:Int)] w (RsR (pdTs b n [] o) w):=by
 have HV:=Hd hb
 have HDC:=Hd (fun (q:Nat) (W:World) (hW:Grows w W) (hq:q ≤ b.length) => decode_any (.slice A b.length c) b q W (hb.grow hW) (by unfold maxLen;omega) (by omega) (by omega))
 obtain ⟨R,hR⟩:∃ R,R = pdTs b n [] o:=⟨_,rfl⟩
 rw [← hR]
 have HR:=Hd hR.symm
 have HO:=Hd ho
 clear hb hR ho
 go_enter Tryz.func97,Tryz.ntmps97
 go_wp2_with fail
 go_loopw [1,9,10,11,12,15] (fun off vs u1 u2 u3 i wr => DTRelEn5 w b n R off vs i wr) (fun _ _ _ _ _ i _ => n - (intOf i).toNat)
 case atStart => exact ⟨0,o,[],by omega,rfl,rfl,HO.out,rfl,own_emptyS w (Nat.le_refl _),HR.out,growB _ _⟩
 case round =>
  obtain ⟨k,q,ws,hk,rfl,rfl,hq,hwl,hown,hres,hbw⟩:=hrel
  have HB:=Hd hbw
  have HOW:=Hd hown
  have HWL:=Hd hwl
  have HRES:=Hd hres
  obtain ⟨A2,c2,rfl⟩:=own_sliceS hown
  by_cases hlt:k < n
  ·obtain ⟨f,hf⟩:∃ f,n - k = f + 1:=⟨n - k - 1,by omega⟩
   have HF:=Hd (show n - (k + 1) = f by omega)
   rw [hf] at HRES
   have HD:=Hd (HDC.out q wr hbw hq)
   have HIS:=Hd (HV.out.grow hbw)
   have hsz:=hbw.size
   have HLN1:=Hd (show ws.length + 1 ≤ 1000000000000 by omega)
   by_cases h1:(dcd b q).2.2 = 0
   ·obtain ⟨m,k1,hd,hk1,_,_,hm64⟩:=dcd_acc11 hq h1
    obtain ⟨q2,hq2⟩:∃ q2,q2 = q + k1:=⟨_,rfl⟩
    rw [← hq2] at hd hk1
    rw [hd] at HD
    obtain ⟨Z,hZ⟩:∃ Z:Nat,Z = b.length - q2:=⟨_,rfl⟩
    have hZ1:(b.length:Int) - (q2:Int) = (Z:Int):=by omega
    have hZl:Z ≤ 1000000000:=by omega
    by_cases h2:m ≤ 4096
    ·have hd4:decide ((4096:Int) < (m:Int)) = false:=by simp;omega
     by_cases h3:q2 + m ≤ b.length
     ·have hrw:=rdW_ok hd h2 h3
      have HN:=Hd (show pdTs b f (ws ++ [cutB b q2 m]) ((q2 + m:Nat):Int) = R by
       have h:=HRES.out
       rw [pdTs_n (by rw [hrw]),hrw] at h
       exact h)
      obtain ⟨E,hE⟩:∃ E,E = q2 + m:=⟨_,rfl⟩
      have hPE:(q2:Int) + (m:Int) = (E:Int):=by omega
      rw [← hE] at HN
      obtain ⟨bb,ff,rfl⟩:=some_of_bytes HV.out (by omega)
      have hPL:q2 ≤ E:=by omega
      have hEl:E ≤ b.length:=by omega
      have HEL:=Hd hEl
      have HEN:=Hd (show E - q2 = m by omega)
      have hd3:decide (Z < m) = false:=by simp;omega
      have HCB:=Hd (show (b.drop q2).take m = cutB b q2 m from rfl)
      clear hown hbw hwl hres hf hd hq2 hZ h3 hrw hE h1 hq hk1
      go_wp2_with (first
       | (go_at_call 165;refine HD.out.mono ?_;rintro e w2 ⟨rfl,rfl⟩)
       | (refine wpList_slice_bytes rfl _ _ _ 29 5 rfl Tryz.underlying29 (by kernel_rfl) (by kernel_rfl) bb ff b c rfl HIS.out q2 E rfl rfl hPL hEl hlc ?_;rw [HEN.out];intro v9 hv9;have HV9:=Hd hv9;clear hv9)
       | (refine wpList_tostring rfl _ 29 9 5 rfl Tryz.underlying29 Tryz.underlying5 Tryz.underlying9 v9 _ rfl HV9.out ?_;rw [HCB.out])
       | (at_builtin;go_loud (refine wpList_append_s rfl _ _ rfl _ ws (by rfl) w.heap.size HOW.out w HB.out hsz _ _ rfl (by rfl) HLN1.out ?_);intro v5 w5 hown5 hb5;have HO5:=Hd hown5;have HB5:=Hd hb5;clear hown5 hb5))
      first
       | (go_roundw;(case rel => exact ⟨k + 1,E,_,by omega,by go_num,rfl,HEL.out,by rw [List.length_append,List.length_singleton,HWL.out],HO5.out,by rw [HF.out];exact HN.out,HB5.out⟩);(case measure => simp [intOf];omega))
       | exact ⟨⟨k + 1,E,_,by omega,by go_num,rfl,HEL.out,by rw [List.length_append,List.length_singleton,HWL.out],HO5.out,by rw [HF.out];exact HN.out,HB5.out⟩,by simp [intOf];omega⟩
     ·have hrw:=rdW_s (b:=b) (p:=q) (by rw [hd]) (by rw [hd];simp;omega) (by rw [hd];simp only [];omega)
      have HE:=Hd (show R = ([],0,2) by
       have h:=HRES.out
       rw [pdTs_e (by rw [hrw];simp),hrw] at h
       exact h.symm)
      have hd3:decide (Z < m) = true:=by simp;omega
      clear hown hbw hwl hres hf hd hq2 hZ h3 hrw h1 hq hk1
      go_wp2_with ((go_at_call 165;refine HD.out.mono ?_;rintro e w2 ⟨rfl,rfl⟩))
      go_ret3
      exact RsR.no HE.out HB.out
    ·have hd4:decide ((4096:Int) < (m:Int)) = true:=by simp;omega
     have hrw:=rdW_l (b:=b) (p:=q) (by rw [hd]) (by rw [hd];simp;omega)
     have HE:=Hd (show R = ([],0,3) by
      have h:=HRES.out
      rw [pdTs_e (by rw [hrw];simp),hrw] at h
      exact h.symm)
     clear hown hbw hwl hres hf hd hq2 hZ hrw h1 hq hk1 h2
     go_wp2_with ((go_at_call 165;refine HD.out.mono ?_;rintro e w2 ⟨rfl,rfl⟩))
     go_ret3
     exact RsR.no HE.out HB.out
   ·have hrw:=rdW_e (b:=b) (p:=q) h1
    have HE:=Hd (show R = ([],0,(dcd b q).2.2) by
     have h:=HRES.out
     rw [pdTs_e (by rw [hrw];exact h1),hrw] at h
     exact h.symm)
    have hne:((dcd b q).2.2 != 0) = true:=by simpa using h1
    generalize dcd b q = z at *
    obtain ⟨z1,z2,z3⟩:=z
    simp only [] at hne HD HE
    clear hown hbw hwl hres hf hrw h1 hq
    go_wp2_with ((go_at_call 165;refine HD.out.mono ?_;rintro e w2 ⟨rfl,rfl⟩))
    go_ret3
    exact RsR.no HE.out HB.out
  ·have HE:=Hd (show R = (ws,(q:Int),0) by
    have h:=HRES.out
    rw [show n - k = 0 by omega] at h
    exact h.symm)
   have HIS:=Hd (show IsS wr (.slice A2 ws.length c2) ws from Reads.of_own hown)
   clear hown hbw hwl hres hq
   go_wp2_with fail
   go_ret3
   exact RsR.of HE.out HIS.out HB.out
def DBRel (w:World) (l:List Nat) (i:Value) (wr:World) (g:Nat):Prop:=
 ∃ k:Nat,k ≤ l.length ∧ i = .int .i64 (k:Int) ∧ Row wr g 2 (fillR (fun x:Nat => Value.int .i64 (toI x)) (.int .i64 0) l k) ∧ Grows w wr
theorem unE_cut {b:List UInt8} {o n:Nat} (h:o + szB n 1 ≤ b.length) (hn:n ≤ 65536):unE (cutB b o (szB n 1)) (n:Int) 1 = if badB (cutB b o (szB n 1)) n 1 = true then 4 else 0:=by
 have hl:=cutB_length' h
 have e:=unE_nat (b:=cutB b o (szB n 1)) (N:=n) (M:=1) (by omega) (by omega)
 rw [if_neg (by omega),if_neg (by omega)] at e
 exact e
theorem unE_short {b:List UInt8} {o n:Nat} (ho:o ≤ b.length) (h:¬ o + szB n 1 ≤ b.length) (hn:n ≤ 65536):unE (cutB b o (b.length - o)) (n:Int) 1 = 2:=by
 have hl:(cutB b o (b.length - o)).length = b.length - o:=cutB_length' (by omega)
 have e:=unE_nat (b:=cutB b o (b.length - o)) (N:=n) (M:=1) (by omega) (by omega)
 rw [if_pos (by omega)] at e
 exact e
set_option maxHeartbeats 4000000 in
theorem edecodeBools_any (A:Option Addr) (c:Nat) (b:List UInt8) (o n:Nat) (w:World) (hb:IsBytes w (.slice A b.length c) b) (hlc:b.length ≤ c) (hl:b.length ≤ 1000000) (ho:o ≤ b.length) (hn:n ≤ 65536) :
 Calls Tryz.prog 80 #[.slice A b.length c,.int .i64 (o:Int),.int .i64 (n:Int)] w (LDecF (pdB b o n) w):=by
 have hS:=size_any (n:Int) 1 w
 have hz:sizeI (n:Int) 1 = (szB n 1:Int):=by
  unfold sizeI
  rw [show okB (n:Int) 1 = true from okB_t (m:=1) (by omega) (by omega),if_pos rfl,Int.toNat_natCast]
  rfl
 rw [hz] at hS
 have hsz:=szB_le (n:=n) (w:=1) (by omega) (by omega)
 have HS:=Hd hS
 have hUN:=fun (Q:Nat) (h1:o ≤ Q) (h2:Q ≤ b.length) (AO:Option Addr) (w':World) (h:IsBytes w' (.slice AO (Q - o) (c - o)) (cutF b o (Q - o))) => unpack_any AO (c - o) (cutF b o (Q - o)) (n:Int) 1 w' (by rw [show (cutF b o (Q - o)).length = Q - o from cutB_length' (by omega)];exact h) (by rw [show (cutF b o (Q - o)).length = Q - o from cutB_length' (by omega)];omega)
 by_cases hf:o + szB n 1 ≤ b.length
 ·obtain ⟨Q,hQ⟩:∃ Q,Q = o + szB n 1:=⟨_,rfl⟩
  have hPE:(o:Int) + ((szB n 1:Nat):Int) = (Q:Int):=by omega
  have hmn:min (Q:Int) (b.length:Int) = (Q:Int):=by omega
  obtain ⟨AO,hcb,hcut⟩:=cut_run A c b (O:=o) (Q:=Q) (by omega) (by omega) hlc (by omega)
  have HB0:=Hd (hcb w hb)
  have HUN:=Hd (hUN Q (by omega) (by omega) AO w (hcb w hb))
  have hQs:Q - o = szB n 1:=by omega
  rw [show (cutF b o (Q - o)).length = Q - o from cutB_length' (by omega),show cutF b o (Q - o) = cutB b o (szB n 1) by rw [hQs];rfl,unE_cut hf hn] at HUN
  by_cases hbad:badB (cutB b o (szB n 1)) n 1 = true
  ·rw [if_pos hbad] at HUN
   have HE:=Hd (show pdB b o n = ([],0,4) by unfold pdB;rw [if_pos hf,if_pos hbad])
   generalize pdB b o n = R at *
   generalize szB n 1 = S at *
   generalize Q - o = K at *
   clear hb hS hz hsz hUN hf hQ hcb hbad hQs
   go_enter Tryz.func80,Tryz.ntmps80
   go_wp2_with (first
    | (go_at_call 139;refine HS.out.mono ?_;rintro e w2 ⟨rfl,rfl⟩)
    | (go_at_call 140;refine HUN.out.mono ?_;rintro e w3 ⟨u,rfl,g3,hu3⟩;have HG3:=Hd g3;clear g3 hu3))
   go_ret3
   exact LDecF.err HE.out HG3.out
  ·rw [if_neg hbad] at HUN
   have hun:unpI (cutB b o (szB n 1)) (n:Int) 1 = unpL (cutB b o (szB n 1)) n 1:=by
    unfold unpI
    rw [unE_cut hf hn,if_neg hbad,if_pos rfl,Int.toNat_natCast]
    rfl
   rw [hun] at HUN
   have HE:=Hd (show pdB b o n = ((unpL (cutB b o (szB n 1)) n 1).map toI,(Q:Int),0) by unfold pdB;rw [if_pos hf,if_neg hbad,hQ])
   have hul:=unpL_length (cutB b o (szB n 1)) n 1
   generalize unpL (cutB b o (szB n 1)) n 1 = L at *
   subst hul
   have hmk:=run_make_oneM (P:=Tryz.prog) 22 2 (.int .i64 0) 8 Tryz.underlying22 info_i64 rfl L.length (by omega) (by omega)
   have HZ:=Hd (fillR_zero (fun x:Nat => Value.int .i64 (toI x)) (.int .i64 0) L)
   have HW64:=Hd (fun x:Int => wrapi64 x)
   generalize pdB b o L.length = R at *
   generalize szB L.length 1 = S at *
   generalize Q - o = K at *
   clear hb hS hz hsz hUN hf hQ hcb hbad hQs hun
   go_enter Tryz.func80,Tryz.ntmps80
   go_wp2_with (first
    | (go_at_call 139;refine HS.out.mono ?_;rintro e w2 ⟨rfl,rfl⟩)
    | (go_at_call 140;refine HUN.out.mono ?_;rintro e w3 ⟨u,rfl,g3,hu3⟩;have HG3:=Hd g3;have HU3:=Hd hu3;obtain ⟨A3,c3,rfl⟩:=hu3.slice_;clear g3 hu3))
   clear hmk
   go_loopw [13,14,38] (fun u1 u2 i wr => DBRel w3 L i wr w3.heap.size) (fun _ _ i _ => L.length - (intOf i).toNat)
   case atStart => exact ⟨0,by omega,rfl,Row.new _ _ _ _ (by rw [HZ.out];simp),growB _ _⟩
   case round =>
    obtain ⟨k,hk,rfl,hrow,hb⟩:=hrel
    have HR:=Hd hrow
    have HB:=Hd hb
    by_cases hlt:k < L.length
    ·obtain ⟨b2,f2,rfl,hck⟩:=(HU3.out.grow HB.out).at_ hlt
     have hcell:=hrow.cell k
     rw [fillR_get hlt] at hcell
     have hfr:=hrow.frozen k
     have HST:=Hd (fillR_set (f:=fun x:Nat => Value.int .i64 (toI x)) (z:=.int .i64 0) hlt)
     unfold toI at HST
     generalize L[k] = x at *
     clear hrow hb
     go_wp2_with fail
     go_roundw
     case rel => exact ⟨k + 1,by omega,by go_num,by unfold toI;rw [← HST.out,HW64.out];exact HR.out.set_ k _,HB.out.setCell (Nat.le_refl _) _⟩
     case measure => simp [intOf];omega
    ·have hke:k = L.length:=by omega
     rw [hke,fillR_done] at HR
     have HIS:=Hd (show IsI wr (.slice (some ⟨w3.heap.size,0,none⟩) L.length L.length) (L.map toI) from Reads.of_row (e:=2) (by rw [show icells (L.map toI) = L.map (fun x:Nat => Value.int .i64 (toI x)) by unfold icells;rw [List.map_map];rfl];exact HR.out) L.length L.length (by simp [icells]) (Nat.le_refl _))
     have HG5:=Hd (HG3.out.of_below HB.out)
     have HFR:=Hd (show FreshI w.heap.size wr (.slice (some ⟨w3.heap.size,0,none⟩) L.length L.length) from FreshI.laid HG3.out.size (show Row wr w3.heap.size 2 _ from HR.out) _ _ _)
     clear hke hrow hb
     go_wp2_with fail
     go_ret3
     exact readR (s:=(L.map toI,0,0)) HE.out HIS.out HG5.out HFR.out
 ·have hmn:min ((o:Int) + ((szB n 1:Nat):Int)) (b.length:Int) = (b.length:Int):=by omega
  obtain ⟨AO,hcb,hcut⟩:=cut_run A c b (O:=o) (Q:=b.length) (by omega) (by omega) hlc (by omega)
  have HUN:=Hd (hUN b.length (by omega) (by omega) AO w (hcb w hb))
  rw [show (cutF b o (b.length - o)).length = b.length - o from cutB_length' (by omega),show cutF b o (b.length - o) = cutB b o (b.length - o) from rfl,unE_short ho hf hn] at HUN
  have HE:=Hd (show pdB b o n = ([],0,2) by unfold pdB;rw [if_neg hf])
  generalize pdB b o n = R at *
  generalize szB n 1 = S at *
  generalize unpI (cutB b o (b.length - o)) (n:Int) 1 = X at *
  generalize b.length - o = K at *
  clear hb hS hz hUN hf hcb
  go_enter Tryz.func80,Tryz.ntmps80
  go_wp2_with (first
   | (go_at_call 139;refine HS.out.mono ?_;rintro e w2 ⟨rfl,rfl⟩)
   | (go_at_call 140;refine HUN.out.mono ?_;rintro e w3 ⟨u,rfl,g3,hu3⟩;have HG3:=Hd g3;clear g3 hu3))
  go_ret3
  exact LDecF.err HE.out HG3.out
abbrev Enters (F:FuncId):Prop:=∀ args W,(callFunc F args).run Tryz.prog W = .ok (.enter F args) W
theorem eplaceI_any (g:Nat) (w:World):Calls Tryz.prog 77 #[.pointer (some ⟨g,0,none⟩)] w fun e w' => e = .returned (.pointer (some ⟨g,1,none⟩)) ∧ w = w':=by
 go_enter Tryz.func77,Tryz.ntmps77
 go_wp2_with fail
 go_ret
 exact ⟨rfl,rfl⟩
theorem eplaceT_any (g:Nat) (w:World):Calls Tryz.prog 94 #[.pointer (some ⟨g,0,none⟩)] w fun e w' => e = .returned (.pointer (some ⟨g,2,none⟩)) ∧ w = w':=by
 go_enter Tryz.func94,Tryz.ntmps94
 go_wp2_with fail
 go_ret
 exact ⟨rfl,rfl⟩
theorem sizeVec:(Tryz.prog.info? 26).map (·.size) = some 4:=by kernel_rfl
theorem results_vec3 {fn:Func} {p q r:Tmp} (h:fn.results = #[.cell p 26,.tmp q,.tmp r]) (tmps:Array Value) (w:World) (g:Nat) (a b c d x y:Value) (hp:tmps.getD p undef = .pointer (some ⟨g,0,none⟩)) (hg:Row w g 26 [a,b,c,d])
 (hx:tmps.getD q undef = x) (hy:tmps.getD r undef = y):(results fn tmps).run Tryz.prog w = .ok (.tuple #[.agg #[a,b,c,d],x,y]) w:=by
 have hp':tmps[p]?.getD undef = .pointer (some ⟨g,0,none⟩):=by simpa using hp
 have hx':tmps[q]?.getD undef = x:=by simpa using hx
 have hy':tmps[r]?.getD undef = y:=by simpa using hy
 simp [results,h,hp',hx',hy',asAddr,run_loadVar_row w g 26 26 #[a,b,c,d] (0,0) _ hg Tryz.underlying26 rfl sizeVec]
theorem Reads.past {w w':World} {v:Value} {xs:List Value} (h:Reads w v xs) (hx:∀ x ∈ xs,∀ A n c,x ≠ .slice A n c) {g:Nat} {e:TypeId} {t a b c a' b' c':Value}
 (h0:Row w g e [t,a,b,c]) (h1:Row w' g e [t,a',b',c']) (ha:∃ A n k,a = .slice A n k) (hb:∃ A n k,b = .slice A n k) (hc:∃ A n k,c = .slice A n k) (ho:∀ k,k ≠ g → w'.heap[k]? = w.heap[k]?):Reads w' v xs:=by
 obtain ⟨A,d,rfl,hle,hcell⟩:=h
 refine ⟨A,d,rfl,hle,fun hl => ?_⟩
 obtain ⟨q,off,rfl,hq⟩:=hcell hl
 refine ⟨q,off,rfl,fun j hj => ?_⟩
 have hj1:=hq j hj
 by_cases hgq:q = g
 ·subst hgq
  rw [h0.cell (off + j)] at hj1
  rw [h1.cell (off + j)]
  have hmem:∃ x,xs[j]? = some x ∧ x ∈ xs:=⟨_,List.getElem?_eq_getElem hj,List.getElem_mem hj⟩
  obtain ⟨x,hxj,hxm⟩:=hmem
  rw [hxj] at hj1 ⊢
  obtain ⟨A1,n1,k1,rfl⟩:=ha
  obtain ⟨A2,n2,k2,rfl⟩:=hb
  obtain ⟨A3,n3,k3,rfl⟩:=hc
  match off + j,hj1 with
  | 0,hj1 => exact hj1
  | 1,hj1 => simp at hj1;exact absurd hj1.symm (hx x hxm _ _ _)
  | 2,hj1 => simp at hj1;exact absurd hj1.symm (hx x hxm _ _ _)
  | 3,hj1 => simp at hj1;exact absurd hj1.symm (hx x hxm _ _ _)
  | k + 4,hj1 => simp at hj1
 ·rw [← hj1]
  exact World.cell?_of_block (ho q hgq)
theorem noslice_i (l:List Int):∀ x ∈ icells l,∀ A n c,x ≠ .slice A n c:=fun x hx A n c => by
 obtain ⟨y,_,rfl⟩:=List.mem_map.1 hx
 exact fun h => by cases h
theorem noslice_s (l:List Str):∀ x ∈ scells l,∀ A n c,x ≠ .slice A n c:=fun x hx A n c => by
 obtain ⟨y,_,rfl⟩:=List.mem_map.1 hx
 exact fun h => by cases h
def FreshX (H:Nat) (w:World) (x:Value):Prop:=∀ t a b c,x = .agg #[t,a,b,c] → FreshI H w a
theorem FreshX.of {H:Nat} {w:World} {t a b c:Value} (h:FreshI H w a):FreshX H w (.agg #[t,a,b,c]):=fun t' a' b' c' e => by
 have e':t = t' ∧ a = a' ∧ b = b' ∧ c = c':=by simpa using e
 exact e'.2.1 ▸ h
theorem FreshX.none_ (H:Nat) (w:World) (n k:Nat) (t b c:Value):FreshX H w (.agg #[t,.slice none n k,b,c]):=FreshX.of (FreshI.none_ _ _ _ _)
theorem FreshX.mono {H H':Nat} {w:World} {x:Value} (h:FreshX H w x) (hl:H' ≤ H):FreshX H' w x:=fun t a b c e => (h t a b c e).mono hl
set_option maxHeartbeats 4000000 in
theorem elit1I_any (F:FuncId) (hF:Enters F) (be bp:Nat) (w:World) (hbe:Row w be 95 [.func (.func F) #[] #[]]) (hbp:Row w bp 112 [.func (.func 77) #[] #[]]) (x:Value) (v:Vec) (hx:IsV w x v) (E:List UInt8)
 (hc:∀ W,Grows w W → ∀ u,IsI W u v.is → Calls Tryz.prog F #[u] W (ByR E W)) :
 Calls Tryz.prog 135 #[x,.pointer (some ⟨be,0,none⟩),.pointer (some ⟨bp,0,none⟩)] w (ByR E w):=by
 obtain ⟨T,is,ts,ns⟩:=v
 obtain ⟨u1,u2,u3,rfl,h1,h2,h3⟩:=hx
 dsimp only at *
 obtain ⟨A1,c1,rfl⟩:=h1.slice_
 obtain ⟨A2,c2,rfl⟩:=h2.slice_
 obtain ⟨A3,c3,rfl⟩:=h3.slice_
 generalize hn1:is.length = n1 at *
 generalize hn2:ts.length = n2 at *
 generalize ns.length = n3 at *
 have HC:=Hd hc
 have HV:=Hd h1
 have HBE:=Hd (fun W (h:Grows w W) => (hbe.grow h).cell 0)
 have HBP:=Hd (fun W (h:Grows w W) => (hbp.grow h).cell 0)
 simp only [List.getElem?_cons_zero] at HBE HBP
 have HF:=Hd hF
 have HG0:=Hd (growB w)
 clear h1 h2 h3 hn1 hn2 hc hbe hbp hF
 go_enter Tryz.func135,Tryz.ntmps135
 go_wp2_with fail
 obtain ⟨w1,hw1⟩:∃ w1,w1 = w.alloc (.cells #[.int .i64 T,.slice A1 n1 c1,.slice A2 n2 c2,.slice A3 n3 c3] 26):=⟨_,rfl⟩
 have HG:=Hd (show Grows w w1 by rw [hw1];exact HG0.out _)
 have HRX:=Hd (show Row w1 w.heap.size 26 [.int .i64 T,.slice A1 n1 c1,.slice A2 n2 c2,.slice A3 n3 c3] by rw [hw1];exact Row.new _ _ _ _ rfl)
 rw [← hw1]
 obtain ⟨g,hg⟩:∃ g,g = w.heap.size:=⟨_,rfl⟩
 rw [← hg] at HRX ⊢
 have HGG:=Hd hg
 clear hw1 hg
 refine wp_region_loose (tabRs [(2,ConstV (.pointer (some ⟨g,1,none⟩))),(5,BytesV E)]) (by kernel_rfl) (by kernel_rfl) (tabRs_cons ConstV.lasts (tabRs_cons BytesV.lasts tabRs_nil)) ?_
 iterate 2 ((with_reducible refine loose_one (v:=?_) (a':=?_) ?_ ?_ (fun w' hC' hG' => ?_) ?_ ?_);rotate_left 2;(focus rfl);(focus rfl);(focus (have f1:=HBE.out w' (HG.out.of_below hC');have f2:=HBP.out w' (HG.out.of_below hC');clear hC' hG';go_simp;rfl));(focus (go_simp;rfl)))
 refine loose_call (R:=ConstV (.pointer (some ⟨g,1,none⟩))) (f:=77) (args:=#[.pointer (some ⟨g,0,none⟩)]) (by rfl) (by rfl) (fun _ => by go_simp) (fun w' hC' hG' => const_loose0 (eplaceI_any g w')) ?_
 rintro v4 ⟨w4,_,rfl⟩
 refine ⟨?_,?_,?_⟩
 rotate_left
 ·go_simp
  rfl
 iterate 2 ((with_reducible refine loose_one (v:=?_) (a':=?_) ?_ ?_ (fun w' hC' hG' => ?_) ?_ ?_);rotate_left 2;(focus rfl);(focus rfl);(focus (have f1:=(HRX.out.grow hC').cell 1;simp only [List.getElem?_cons_succ,List.getElem?_cons_zero] at f1;clear hC' hG';go_simp;rfl));(focus (go_simp;rfl)))
 refine loose_call (R:=BytesV E) (f:=F) (args:=#[.slice A1 n1 c1]) (by rfl) (by rfl) (fun w' => by have hF:=HF.out;go_simp) (fun w' hC' hG' => id (HC.out w' (HG.out.of_below hC') _ (HV.out.grow (HG.out.of_below hC')))) ?_
 intro v5 _
 refine ⟨?_,?_,?_⟩
 rotate_left
 ·go_simp
  rfl
 iterate 1 ((with_reducible refine loose_one (v:=?_) (a':=?_) ?_ ?_ (fun w' hC' hG' => ?_) ?_ ?_);rotate_left 2;(focus rfl);(focus rfl);(focus (clear hC' hG';go_simp;rfl));(focus (go_simp;rfl)))
 refine loose_done (fun w5 hC' hG' => ?_)
 have HG5:=Hd (HG.out.of_below hC')
 have HB5:=Hd (show IsBytes w5 v5 E from (hG' 5).2 rfl)
 clear hG' hC'
 go_wp2_with fail
 go_ret
 exact ⟨_,rfl,HG5.out,HB5.out⟩
set_option maxHeartbeats 4000000 in
theorem elit2I_any (F:FuncId) (hF:Enters F) (be bp:Nat) (w:World) (hbe:Row w be 113 [.func (.func F) #[] #[]]) (hbp:Row w bp 112 [.func (.func 77) #[] #[]]) (x:Value) (v:Vec) (hx:IsV w x v) (N:Int)
 (hc:∀ W,Grows w W → ∀ u,IsI W u v.is → Calls Tryz.prog F #[u] W (fun e w' => e = .returned (.int .i64 N) ∧ Grows W w')) :
 Calls Tryz.prog 136 #[x,.pointer (some ⟨be,0,none⟩),.pointer (some ⟨bp,0,none⟩)] w (fun e w' => e = .returned (.int .i64 N) ∧ Grows w w'):=by
 obtain ⟨T,is,ts,ns⟩:=v
 obtain ⟨u1,u2,u3,rfl,h1,h2,h3⟩:=hx
 dsimp only at *
 obtain ⟨A1,c1,rfl⟩:=h1.slice_
 obtain ⟨A2,c2,rfl⟩:=h2.slice_
 obtain ⟨A3,c3,rfl⟩:=h3.slice_
 generalize hn1:is.length = n1 at *
 generalize hn2:ts.length = n2 at *
 generalize ns.length = n3 at *
 have HC:=Hd hc
 have HV:=Hd h1
 have HBE:=Hd (fun W (h:Grows w W) => (hbe.grow h).cell 0)
 have HBP:=Hd (fun W (h:Grows w W) => (hbp.grow h).cell 0)
 simp only [List.getElem?_cons_zero] at HBE HBP
 have HF:=Hd hF
 have HG0:=Hd (growB w)
 clear h1 h2 h3 hn1 hn2 hc hbe hbp hF
 go_enter Tryz.func136,Tryz.ntmps136
 go_wp2_with fail
 obtain ⟨w1,hw1⟩:∃ w1,w1 = w.alloc (.cells #[.int .i64 T,.slice A1 n1 c1,.slice A2 n2 c2,.slice A3 n3 c3] 26):=⟨_,rfl⟩
 have HG:=Hd (show Grows w w1 by rw [hw1];exact HG0.out _)
 have HRX:=Hd (show Row w1 w.heap.size 26 [.int .i64 T,.slice A1 n1 c1,.slice A2 n2 c2,.slice A3 n3 c3] by rw [hw1];exact Row.new _ _ _ _ rfl)
 rw [← hw1]
 obtain ⟨g,hg⟩:∃ g,g = w.heap.size:=⟨_,rfl⟩
 rw [← hg] at HRX ⊢
 have HGG:=Hd hg
 clear hw1 hg
 refine wp_region_loose (tabRs [(2,ConstV (.pointer (some ⟨g,1,none⟩))),(5,ConstV (.int .i64 N))]) (by kernel_rfl) (by kernel_rfl) (tabRs_cons ConstV.lasts (tabRs_cons ConstV.lasts tabRs_nil)) ?_
 iterate 2 ((with_reducible refine loose_one (v:=?_) (a':=?_) ?_ ?_ (fun w' hC' hG' => ?_) ?_ ?_);rotate_left 2;(focus rfl);(focus rfl);(focus (have f1:=HBE.out w' (HG.out.of_below hC');have f2:=HBP.out w' (HG.out.of_below hC');clear hC' hG';go_simp;rfl));(focus (go_simp;rfl)))
 refine loose_call (R:=ConstV (.pointer (some ⟨g,1,none⟩))) (f:=77) (args:=#[.pointer (some ⟨g,0,none⟩)]) (by rfl) (by rfl) (fun _ => by go_simp) (fun w' hC' hG' => const_loose0 (eplaceI_any g w')) ?_
 rintro v4 ⟨w4,_,rfl⟩
 refine ⟨?_,?_,?_⟩
 rotate_left
 ·go_simp
  rfl
 iterate 2 ((with_reducible refine loose_one (v:=?_) (a':=?_) ?_ ?_ (fun w' hC' hG' => ?_) ?_ ?_);rotate_left 2;(focus rfl);(focus rfl);(focus (have f1:=(HRX.out.grow hC').cell 1;simp only [List.getElem?_cons_succ,List.getElem?_cons_zero] at f1;clear hC' hG';go_simp;rfl));(focus (go_simp;rfl)))
 refine loose_call (R:=ConstV (.int .i64 N)) (f:=F) (args:=#[.slice A1 n1 c1]) (by rfl) (by rfl) (fun w' => by have hF:=HF.out;go_simp) (fun w' hC' hG' => const_loose (HC.out w' (HG.out.of_below hC') _ (HV.out.grow (HG.out.of_below hC')))) ?_
 rintro v5 ⟨w6,_,rfl⟩
 refine ⟨?_,?_,?_⟩
 rotate_left
 ·go_simp
  rfl
 iterate 1 ((with_reducible refine loose_one (v:=?_) (a':=?_) ?_ ?_ (fun w' hC' hG' => ?_) ?_ ?_);rotate_left 2;(focus rfl);(focus rfl);(focus (clear hC' hG';go_simp;rfl));(focus (go_simp;rfl)))
 refine loose_done (fun w5 hC' hG' => ?_)
 have HG5:=Hd (HG.out.of_below hC')
 clear hG' hC'
 go_wp2_with fail
 go_ret
 exact ⟨rfl,HG5.out⟩
set_option maxHeartbeats 4000000 in
theorem elit3I_any (F:FuncId) (hF:Enters F) (be bp:Nat) (w:World) (hbe:Row w be 114 [.func (.func F) #[] #[]]) (hbp:Row w bp 112 [.func (.func 77) #[] #[]])
 (A:Option Addr) (L c:Nat) (o n q f:Int) (l:List Int)
 (hc:∀ W,Grows w W → Calls Tryz.prog F #[.slice A L c,.int .i64 o,.int .i64 n] W (fun e w' => ∃ u,e = .returned (.tuple #[u,.int .i64 q,.int .i64 f]) ∧ IsI w' u l ∧ Grows W w' ∧ FreshI W.heap.size w' u)) :
 Calls Tryz.prog 137 #[.slice A L c,.int .i64 o,.int .i64 n,.pointer (some ⟨be,0,none⟩),.pointer (some ⟨bp,0,none⟩)] w (fun e w' => ∃ x,e = .returned (.tuple #[x,.int .i64 q,.int .i64 f]) ∧ IsV w' x ⟨0,l,[],[]⟩ ∧ Grows w w' ∧ FreshX w.heap.size w' x):=by
 have HC:=Hd hc
 have HBE:=Hd (fun W (h:Grows w W) => (hbe.grow h).cell 0)
 have HBP:=Hd (fun W (h:Grows w W) => (hbp.grow h).cell 0)
 simp only [List.getElem?_cons_zero] at HBE HBP
 have HF:=Hd hF
 have HG0:=Hd (growB w)
 clear hc hbe hbp hF
 have HGL:=Hd ((growB w (.cells #[.int .i64 0,.slice none 0 0,.slice none 0 0,.slice none 0 0] 26)).of_below (growB _ (.cells #[.int .i64 0,.slice none 0 0,.slice none 0 0,.slice none 0 0] 26)))
 have hb1:=HBE.out _ HGL.out
 have HR1:=Hd ((Row.new w 26 #[.int .i64 0,.slice none 0 0,.slice none 0 0,.slice none 0 0] [.int .i64 0,.slice none 0 0,.slice none 0 0,.slice none 0 0] rfl).grow (growB _ (.cells #[.int .i64 0,.slice none 0 0,.slice none 0 0,.slice none 0 0] 26)))
 have HR2:=Hd (Row.at_ (w.alloc (.cells #[.int .i64 0,.slice none 0 0,.slice none 0 0,.slice none 0 0] 26)) 26 #[.int .i64 0,.slice none 0 0,.slice none 0 0,.slice none 0 0] [.int .i64 0,.slice none 0 0,.slice none 0 0,.slice none 0 0] rfl (w.heap.size + 1) (by rw [World.size_alloc]))
 have hF:=HF.out
 go_enter Tryz.func137,Tryz.ntmps137
 go_wp2_with fail
 refine (HC.out _ HGL.out).mono ?_
 rintro e w3 ⟨u,rfl,hi3,g3,hf9⟩
 obtain ⟨A9,c9,rfl⟩:=hi3.slice_
 have HF9:=Hd hf9
 clear hf9
 obtain ⟨n9,hn9⟩:∃ n9,n9 = l.length:=⟨_,rfl⟩
 rw [← hn9] at hi3 ⊢
 have HN9:=Hd hn9
 have HI3:=Hd hi3
 have HG3:=Hd (HGL.out.of_below g3)
 have hb2:=HBP.out w3 HG3.out
 have HR1:=Hd (HR1.out.grow g3)
 have HR2:=Hd (HR2.out.grow g3)
 have hc2:=HR2.out.cell 1
 have hf2:=HR2.out.frozen 1
 simp only [List.getElem?_cons_succ,List.getElem?_cons_zero] at hc2
 have HGS:=Hd (show Grows w (w3.setCell ⟨w.heap.size + 1,1,none⟩ (.slice A9 n9 c9)) from HG3.out.setCell (p:=⟨w.heap.size + 1,1,none⟩) (Nat.le_succ _) _)
 have HS2:=Hd (show (w3.setCell ⟨w.heap.size + 1,1,none⟩ (.slice A9 n9 c9)).heap[w.heap.size + 1]? = some (.cells #[.int .i64 0,.slice A9 n9 c9,.slice none 0 0,.slice none 0 0] 26 (0,0)) from HR2.out.set_ 1 (.slice A9 n9 c9))
 have HS1:=Hd (show (w3.setCell ⟨w.heap.size + 1,1,none⟩ (.slice A9 n9 c9)).heap[w.heap.size]? = some (.cells #[.int .i64 0,.slice none 0 0,.slice none 0 0,.slice none 0 0] 26 (0,0)) from (heap_setCell_other w3 ⟨w.heap.size + 1,1,none⟩ w.heap.size _ (Nat.ne_of_lt (Nat.lt_succ_self _))).trans HR1.out)
 have HRS:=Hd (Row.setRow_ (show Row (w3.setCell ⟨w.heap.size + 1,1,none⟩ (.slice A9 n9 c9)) w.heap.size 26 [.int .i64 0,.slice none 0 0,.slice none 0 0,.slice none 0 0] from HS1.out) [.int .i64 0,.slice A9 n9 c9,.slice none 0 0,.slice none 0 0] rfl)
 have HX3:=Hd (Reads.past (Reads.past HI3.out (noslice_i _) HR2.out HS2.out ⟨_,_,_,rfl⟩ ⟨_,_,_,rfl⟩ ⟨_,_,_,rfl⟩ (fun k hk => heap_setCell_other _ _ _ _ hk)) (noslice_i _) (show Row _ w.heap.size 26 _ from HS1.out) HRS.out ⟨_,_,_,rfl⟩ ⟨_,_,_,rfl⟩ ⟨_,_,_,rfl⟩ (fun k hk => setRow_other _ _ _ _ hk))
 clear hi3 g3 hn9
 go_wp2_with (first
  | (go_at_call 77;refine (eplaceI_any _ _).mono ?_;rintro e w4 ⟨rfl,rfl⟩)
  | (refine wpList_load_row rfl _ _ rfl _ rfl _ _ _ _ HS2.out Tryz.underlying26 rfl sizeVec ?_)
  | (refine wpList_store_row rfl _ _ _ rfl _ #[.int .i64 0,.slice A9 n9 c9,.slice none 0 0,.slice none 0 0] rfl rfl _ _ HS1.out sizeVec rfl (by simp [Value.oneCell']) ?_))
 refine bodyPost_ret (results_vec3 rfl _ _ _ _ _ _ _ (.int .i64 q) (.int .i64 f) rfl HRS.out rfl rfl) rfl ⟨_,rfl,?_,below_setRow HGS.out (Nat.le_refl _) _,FreshX.of (FreshI.same (HN9.out ▸ HF9.out) HGL.out.size (fun b hb => (setRow_other _ _ _ _ (by rw [World.size_alloc,World.size_alloc] at hb;omega)).trans (heap_setCell_other _ _ _ _ (by show b ≠ w.heap.size + 1;rw [World.size_alloc,World.size_alloc] at hb;omega))))⟩
 have HI9:=Hd (show IsI _ (.slice A9 n9 c9) l from HX3.out)
 exact ⟨_,_,_,rfl,HI9.out,Reads.nil_ _ 0,Reads.nil_ _ 0⟩
set_option maxHeartbeats 4000000 in
theorem elit1T_any (F:FuncId) (hF:Enters F) (be bp:Nat) (w:World) (hbe:Row w be 96 [.func (.func F) #[] #[]]) (hbp:Row w bp 116 [.func (.func 94) #[] #[]]) (x:Value) (v:Vec) (hx:IsV w x v) (E:List UInt8)
 (hc:∀ W,Grows w W → ∀ u,IsS W u v.ts → Calls Tryz.prog F #[u] W (ByR E W)) :
 Calls Tryz.prog 161 #[x,.pointer (some ⟨be,0,none⟩),.pointer (some ⟨bp,0,none⟩)] w (ByR E w):=by
 obtain ⟨T,is,ts,ns⟩:=v
 obtain ⟨u1,u2,u3,rfl,h1,h2,h3⟩:=hx
 dsimp only at *
 obtain ⟨A1,c1,rfl⟩:=h1.slice_
 obtain ⟨A2,c2,rfl⟩:=h2.slice_
 obtain ⟨A3,c3,rfl⟩:=h3.slice_
 generalize hn1:is.length = n1 at *
 generalize hn2:ts.length = n2 at *
 generalize ns.length = n3 at *
 have HC:=Hd hc
 have HV:=Hd h2
 have HBE:=Hd (fun W (h:Grows w W) => (hbe.grow h).cell 0)
 have HBP:=Hd (fun W (h:Grows w W) => (hbp.grow h).cell 0)
 simp only [List.getElem?_cons_zero] at HBE HBP
 have HF:=Hd hF
 have HG0:=Hd (growB w)
 clear h1 h2 h3 hn1 hn2 hc hbe hbp hF
 go_enter Tryz.func161,Tryz.ntmps161
 go_wp2_with fail
 obtain ⟨w1,hw1⟩:∃ w1,w1 = w.alloc (.cells #[.int .i64 T,.slice A1 n1 c1,.slice A2 n2 c2,.slice A3 n3 c3] 26):=⟨_,rfl⟩
 have HG:=Hd (show Grows w w1 by rw [hw1];exact HG0.out _)
 have HRX:=Hd (show Row w1 w.heap.size 26 [.int .i64 T,.slice A1 n1 c1,.slice A2 n2 c2,.slice A3 n3 c3] by rw [hw1];exact Row.new _ _ _ _ rfl)
 rw [← hw1]
 obtain ⟨g,hg⟩:∃ g,g = w.heap.size:=⟨_,rfl⟩
 rw [← hg] at HRX ⊢
 have HGG:=Hd hg
 clear hw1 hg
 refine wp_region_loose (tabRs [(2,ConstV (.pointer (some ⟨g,2,none⟩))),(5,BytesV E)]) (by kernel_rfl) (by kernel_rfl) (tabRs_cons ConstV.lasts (tabRs_cons BytesV.lasts tabRs_nil)) ?_
 iterate 2 ((with_reducible refine loose_one (v:=?_) (a':=?_) ?_ ?_ (fun w' hC' hG' => ?_) ?_ ?_);rotate_left 2;(focus rfl);(focus rfl);(focus (have f1:=HBE.out w' (HG.out.of_below hC');have f2:=HBP.out w' (HG.out.of_below hC');clear hC' hG';go_simp;rfl));(focus (go_simp;rfl)))
 refine loose_call (R:=ConstV (.pointer (some ⟨g,2,none⟩))) (f:=94) (args:=#[.pointer (some ⟨g,0,none⟩)]) (by rfl) (by rfl) (fun _ => by go_simp) (fun w' hC' hG' => const_loose0 (eplaceT_any g w')) ?_
 rintro v4 ⟨w4,_,rfl⟩
 refine ⟨?_,?_,?_⟩
 rotate_left
 ·go_simp
  rfl
 iterate 2 ((with_reducible refine loose_one (v:=?_) (a':=?_) ?_ ?_ (fun w' hC' hG' => ?_) ?_ ?_);rotate_left 2;(focus rfl);(focus rfl);(focus (have f1:=(HRX.out.grow hC').cell 2;simp only [List.getElem?_cons_succ,List.getElem?_cons_zero] at f1;clear hC' hG';go_simp;rfl));(focus (go_simp;rfl)))
 refine loose_call (R:=BytesV E) (f:=F) (args:=#[.slice A2 n2 c2]) (by rfl) (by rfl) (fun w' => by have hF:=HF.out;go_simp) (fun w' hC' hG' => id (HC.out w' (HG.out.of_below hC') _ (HV.out.grow (HG.out.of_below hC')))) ?_
 intro v5 _
 refine ⟨?_,?_,?_⟩
 rotate_left
 ·go_simp
  rfl
 iterate 1 ((with_reducible refine loose_one (v:=?_) (a':=?_) ?_ ?_ (fun w' hC' hG' => ?_) ?_ ?_);rotate_left 2;(focus rfl);(focus rfl);(focus (clear hC' hG';go_simp;rfl));(focus (go_simp;rfl)))
 refine loose_done (fun w5 hC' hG' => ?_)
 have HG5:=Hd (HG.out.of_below hC')
 have HB5:=Hd (show IsBytes w5 v5 E from (hG' 5).2 rfl)
 clear hG' hC'
 go_wp2_with fail
 go_ret
 exact ⟨_,rfl,HG5.out,HB5.out⟩
set_option maxHeartbeats 4000000 in
theorem elit2T_any (F:FuncId) (hF:Enters F) (be bp:Nat) (w:World) (hbe:Row w be 117 [.func (.func F) #[] #[]]) (hbp:Row w bp 116 [.func (.func 94) #[] #[]]) (x:Value) (v:Vec) (hx:IsV w x v) (N:Int)
 (hc:∀ W,Grows w W → ∀ u,IsS W u v.ts → Calls Tryz.prog F #[u] W (fun e w' => e = .returned (.int .i64 N) ∧ Grows W w')) :
 Calls Tryz.prog 162 #[x,.pointer (some ⟨be,0,none⟩),.pointer (some ⟨bp,0,none⟩)] w (fun e w' => e = .returned (.int .i64 N) ∧ Grows w w'):=by
 obtain ⟨T,is,ts,ns⟩:=v
 obtain ⟨u1,u2,u3,rfl,h1,h2,h3⟩:=hx
 dsimp only at *
 obtain ⟨A1,c1,rfl⟩:=h1.slice_
 obtain ⟨A2,c2,rfl⟩:=h2.slice_
 obtain ⟨A3,c3,rfl⟩:=h3.slice_
 generalize hn1:is.length = n1 at *
 generalize hn2:ts.length = n2 at *
 generalize ns.length = n3 at *
 have HC:=Hd hc
 have HV:=Hd h2
 have HBE:=Hd (fun W (h:Grows w W) => (hbe.grow h).cell 0)
 have HBP:=Hd (fun W (h:Grows w W) => (hbp.grow h).cell 0)
 simp only [List.getElem?_cons_zero] at HBE HBP
 have HF:=Hd hF
 have HG0:=Hd (growB w)
 clear h1 h2 h3 hn1 hn2 hc hbe hbp hF
 go_enter Tryz.func162,Tryz.ntmps162
 go_wp2_with fail
 obtain ⟨w1,hw1⟩:∃ w1,w1 = w.alloc (.cells #[.int .i64 T,.slice A1 n1 c1,.slice A2 n2 c2,.slice A3 n3 c3] 26):=⟨_,rfl⟩
 have HG:=Hd (show Grows w w1 by rw [hw1];exact HG0.out _)
 have HRX:=Hd (show Row w1 w.heap.size 26 [.int .i64 T,.slice A1 n1 c1,.slice A2 n2 c2,.slice A3 n3 c3] by rw [hw1];exact Row.new _ _ _ _ rfl)
 rw [← hw1]
 obtain ⟨g,hg⟩:∃ g,g = w.heap.size:=⟨_,rfl⟩
 rw [← hg] at HRX ⊢
 have HGG:=Hd hg
 clear hw1 hg
 refine wp_region_loose (tabRs [(2,ConstV (.pointer (some ⟨g,2,none⟩))),(5,ConstV (.int .i64 N))]) (by kernel_rfl) (by kernel_rfl) (tabRs_cons ConstV.lasts (tabRs_cons ConstV.lasts tabRs_nil)) ?_
 iterate 2 ((with_reducible refine loose_one (v:=?_) (a':=?_) ?_ ?_ (fun w' hC' hG' => ?_) ?_ ?_);rotate_left 2;(focus rfl);(focus rfl);(focus (have f1:=HBE.out w' (HG.out.of_below hC');have f2:=HBP.out w' (HG.out.of_below hC');clear hC' hG';go_simp;rfl));(focus (go_simp;rfl)))
 refine loose_call (R:=ConstV (.pointer (some ⟨g,2,none⟩))) (f:=94) (args:=#[.pointer (some ⟨g,0,none⟩)]) (by rfl) (by rfl) (fun _ => by go_simp) (fun w' hC' hG' => const_loose0 (eplaceT_any g w')) ?_
 rintro v4 ⟨w4,_,rfl⟩
 refine ⟨?_,?_,?_⟩
 rotate_left
 ·go_simp
  rfl
 iterate 2 ((with_reducible refine loose_one (v:=?_) (a':=?_) ?_ ?_ (fun w' hC' hG' => ?_) ?_ ?_);rotate_left 2;(focus rfl);(focus rfl);(focus (have f1:=(HRX.out.grow hC').cell 2;simp only [List.getElem?_cons_succ,List.getElem?_cons_zero] at f1;clear hC' hG';go_simp;rfl));(focus (go_simp;rfl)))
 refine loose_call (R:=ConstV (.int .i64 N)) (f:=F) (args:=#[.slice A2 n2 c2]) (by rfl) (by rfl) (fun w' => by have hF:=HF.out;go_simp) (fun w' hC' hG' => const_loose (HC.out w' (HG.out.of_below hC') _ (HV.out.grow (HG.out.of_below hC')))) ?_
 rintro v5 ⟨w6,_,rfl⟩
 refine ⟨?_,?_,?_⟩
 rotate_left
 ·go_simp
  rfl
 iterate 1 ((with_reducible refine loose_one (v:=?_) (a':=?_) ?_ ?_ (fun w' hC' hG' => ?_) ?_ ?_);rotate_left 2;(focus rfl);(focus rfl);(focus (clear hC' hG';go_simp;rfl));(focus (go_simp;rfl)))
 refine loose_done (fun w5 hC' hG' => ?_)
 have HG5:=Hd (HG.out.of_below hC')
 clear hG' hC'
 go_wp2_with fail
 go_ret
 exact ⟨rfl,HG5.out⟩
set_option maxHeartbeats 4000000 in
theorem elit3T_any (F:FuncId) (hF:Enters F) (be bp:Nat) (w:World) (hbe:Row w be 118 [.func (.func F) #[] #[]]) (hbp:Row w bp 116 [.func (.func 94) #[] #[]])
 (A:Option Addr) (L c:Nat) (o n q f:Int) (l:List Str)
 (hc:∀ W,Grows w W → Calls Tryz.prog F #[.slice A L c,.int .i64 o,.int .i64 n] W (fun e w' => ∃ u,e = .returned (.tuple #[u,.int .i64 q,.int .i64 f]) ∧ IsS w' u l ∧ Grows W w')) :
 Calls Tryz.prog 163 #[.slice A L c,.int .i64 o,.int .i64 n,.pointer (some ⟨be,0,none⟩),.pointer (some ⟨bp,0,none⟩)] w (fun e w' => ∃ x,e = .returned (.tuple #[x,.int .i64 q,.int .i64 f]) ∧ IsV w' x ⟨0,[],l,[]⟩ ∧ Grows w w' ∧ FreshX w.heap.size w' x):=by
 have HC:=Hd hc
 have HBE:=Hd (fun W (h:Grows w W) => (hbe.grow h).cell 0)
 have HBP:=Hd (fun W (h:Grows w W) => (hbp.grow h).cell 0)
 simp only [List.getElem?_cons_zero] at HBE HBP
 have HF:=Hd hF
 have HG0:=Hd (growB w)
 clear hc hbe hbp hF
 have HGL:=Hd ((growB w (.cells #[.int .i64 0,.slice none 0 0,.slice none 0 0,.slice none 0 0] 26)).of_below (growB _ (.cells #[.int .i64 0,.slice none 0 0,.slice none 0 0,.slice none 0 0] 26)))
 have hb1:=HBE.out _ HGL.out
 have HR1:=Hd ((Row.new w 26 #[.int .i64 0,.slice none 0 0,.slice none 0 0,.slice none 0 0] [.int .i64 0,.slice none 0 0,.slice none 0 0,.slice none 0 0] rfl).grow (growB _ (.cells #[.int .i64 0,.slice none 0 0,.slice none 0 0,.slice none 0 0] 26)))
 have HR2:=Hd (Row.at_ (w.alloc (.cells #[.int .i64 0,.slice none 0 0,.slice none 0 0,.slice none 0 0] 26)) 26 #[.int .i64 0,.slice none 0 0,.slice none 0 0,.slice none 0 0] [.int .i64 0,.slice none 0 0,.slice none 0 0,.slice none 0 0] rfl (w.heap.size + 1) (by rw [World.size_alloc]))
 have hF:=HF.out
 go_enter Tryz.func163,Tryz.ntmps163
 go_wp2_with fail
 refine (HC.out _ HGL.out).mono ?_
 rintro e w3 ⟨u,rfl,hi3,g3⟩
 obtain ⟨A9,c9,rfl⟩:=hi3.slice_
 obtain ⟨n9,hn9⟩:∃ n9,n9 = l.length:=⟨_,rfl⟩
 rw [← hn9] at hi3 ⊢
 have HN9:=Hd hn9
 have HI3:=Hd hi3
 have HG3:=Hd (HGL.out.of_below g3)
 have hb2:=HBP.out w3 HG3.out
 have HR1:=Hd (HR1.out.grow g3)
 have HR2:=Hd (HR2.out.grow g3)
 have hc2:=HR2.out.cell 2
 have hf2:=HR2.out.frozen 2
 simp only [List.getElem?_cons_succ,List.getElem?_cons_zero] at hc2
 have HGS:=Hd (show Grows w (w3.setCell ⟨w.heap.size + 1,2,none⟩ (.slice A9 n9 c9)) from HG3.out.setCell (p:=⟨w.heap.size + 1,2,none⟩) (Nat.le_succ _) _)
 have HS2:=Hd (show (w3.setCell ⟨w.heap.size + 1,2,none⟩ (.slice A9 n9 c9)).heap[w.heap.size + 1]? = some (.cells #[.int .i64 0,.slice none 0 0,.slice A9 n9 c9,.slice none 0 0] 26 (0,0)) from HR2.out.set_ 2 (.slice A9 n9 c9))
 have HS1:=Hd (show (w3.setCell ⟨w.heap.size + 1,2,none⟩ (.slice A9 n9 c9)).heap[w.heap.size]? = some (.cells #[.int .i64 0,.slice none 0 0,.slice none 0 0,.slice none 0 0] 26 (0,0)) from (heap_setCell_other w3 ⟨w.heap.size + 1,2,none⟩ w.heap.size _ (Nat.ne_of_lt (Nat.lt_succ_self _))).trans HR1.out)
 have HRS:=Hd (Row.setRow_ (show Row (w3.setCell ⟨w.heap.size + 1,2,none⟩ (.slice A9 n9 c9)) w.heap.size 26 [.int .i64 0,.slice none 0 0,.slice none 0 0,.slice none 0 0] from HS1.out) [.int .i64 0,.slice none 0 0,.slice A9 n9 c9,.slice none 0 0] rfl)
 have HX3:=Hd (Reads.past (Reads.past HI3.out (noslice_s _) HR2.out HS2.out ⟨_,_,_,rfl⟩ ⟨_,_,_,rfl⟩ ⟨_,_,_,rfl⟩ (fun k hk => heap_setCell_other _ _ _ _ hk)) (noslice_s _) (show Row _ w.heap.size 26 _ from HS1.out) HRS.out ⟨_,_,_,rfl⟩ ⟨_,_,_,rfl⟩ ⟨_,_,_,rfl⟩ (fun k hk => setRow_other _ _ _ _ hk))
 clear hi3 g3 hn9
 go_wp2_with (first
  | (go_at_call 94;refine (eplaceT_any _ _).mono ?_;rintro e w4 ⟨rfl,rfl⟩)
  | (refine wpList_load_row rfl _ _ rfl _ rfl _ _ _ _ HS2.out Tryz.underlying26 rfl sizeVec ?_)
  | (refine wpList_store_row rfl _ _ _ rfl _ #[.int .i64 0,.slice none 0 0,.slice A9 n9 c9,.slice none 0 0] rfl rfl _ _ HS1.out sizeVec rfl (by simp [Value.oneCell']) ?_))
 refine bodyPost_ret (results_vec3 rfl _ _ _ _ _ _ _ (.int .i64 q) (.int .i64 f) rfl HRS.out rfl rfl) rfl ⟨_,rfl,?_,below_setRow HGS.out (Nat.le_refl _) _,FreshX.none_ _ _ _ _ _ _ _⟩
 have HI9:=Hd (show IsS _ (.slice A9 n9 c9) l from HX3.out)
 exact ⟨_,_,_,rfl,Reads.nil_ _ 0,HI9.out,Reads.nil_ _ 0⟩
theorem sizeCod:(Tryz.prog.info? 72).map (·.size) = some 3:=by kernel_rfl
abbrev fnV (F:FuncId):Value:=.func (.func F) #[] #[]
abbrev ptV (b:Nat):Value:=.pointer (some ⟨b,0,none⟩)
theorem results_cod2 {fn:Func} {p q:Tmp} (h:fn.results = #[.cell p 72,.tmp q]) (tmps:Array Value) (w:World) (g:Nat) (a b c x:Value) (hp:tmps.getD p undef = .pointer (some ⟨g,0,none⟩)) (hg:Row w g 72 [a,b,c])
 (hx:tmps.getD q undef = x):(results fn tmps).run Tryz.prog w = .ok (.tuple #[.agg #[a,b,c],x]) w:=by
 have hp':tmps[p]?.getD undef = .pointer (some ⟨g,0,none⟩):=by simpa using hp
 have hx':tmps[q]?.getD undef = x:=by simpa using hx
 simp [results,h,hp',hx',asAddr,run_loadVar_row w g 72 72 #[a,b,c] (0,0) _ hg Tryz.underlying72 rfl sizeCod]
theorem results_cod1 {fn:Func} {p:Tmp} (h:fn.results = #[.cell p 72]) (tmps:Array Value) (w:World) (g:Nat) (a b c:Value) (hp:tmps.getD p undef = .pointer (some ⟨g,0,none⟩)) (hg:Row w g 72 [a,b,c]) :
 (results fn tmps).run Tryz.prog w = .ok (.agg #[a,b,c]) w:=results_cell_row h _ _ _ _ _ _ _ hp hg Tryz.underlying72 rfl sizeCod
def CodecI (fe fs fd:FuncId) (x:Value) (w:World):Prop:=
 ∃ be bs bd bp,x = .agg #[.func (.func 135) #[] #[ptV be,ptV bp],.func (.func 136) #[] #[ptV bs,ptV bp],.func (.func 137) #[] #[ptV bd,ptV bp]] ∧
   Row w be 95 [fnV fe] ∧ Row w bs 113 [fnV fs] ∧ Row w bd 114 [fnV fd] ∧ Row w bp 112 [fnV 77]
theorem CodecI.grow {fe fs fd:FuncId} {x:Value} {w w':World} (h:CodecI fe fs fd x w) (hg:Grows w w'):CodecI fe fs fd x w':=by
 obtain ⟨be,bs,bd,bp,h0,h1,h2,h3,h4⟩:=h
 exact ⟨be,bs,bd,bp,h0,h1.grow hg,h2.grow hg,h3.grow hg,h4.grow hg⟩
set_option maxHeartbeats 2000000 in
theorem ecodecOfI_any (fe fs fd:FuncId) (w:World):Calls Tryz.prog 76 #[fnV 77,fnV fe,fnV fs,fnV fd] w fun e w' => ∃ x,e = .returned x ∧ CodecI fe fs fd x w' ∧ Grows w w':=by
 have hmf:∀ (fn:Fn) (first cap:Array Value) (w:World),(Instr.makeFunc fn first cap).run Tryz.prog w = .ok (.func fn first cap) w:=fun _ _ _ _ => rfl
 have HG:=Hd ((((( growB w (.cells #[fnV 77] 112)).of_below (growB _ (.cells #[fnV fe] 95))).of_below (growB _ (.cells #[fnV fs] 113))).of_below (growB _ (.cells #[fnV fd] 114))).of_below (growB _ (.cells #[.nilFunc,.nilFunc,.nilFunc] 72)))
 have HP:=Hd (((((Row.new w 112 #[fnV 77] [fnV 77] rfl).grow (growB _ (.cells #[fnV fe] 95))).grow (growB _ (.cells #[fnV fs] 113))).grow (growB _ (.cells #[fnV fd] 114))).grow (growB _ (.cells #[.nilFunc,.nilFunc,.nilFunc] 72)))
 have HE:=Hd ((((Row.at_ (w.alloc (.cells #[fnV 77] 112)) 95 #[fnV fe] [fnV fe] rfl (w.heap.size + 1) (by simp [World.size_alloc])).grow (growB _ (.cells #[fnV fs] 113))).grow (growB _ (.cells #[fnV fd] 114))).grow (growB _ (.cells #[.nilFunc,.nilFunc,.nilFunc] 72)))
 have HS:=Hd (((Row.at_ ((w.alloc (.cells #[fnV 77] 112)).alloc (.cells #[fnV fe] 95)) 113 #[fnV fs] [fnV fs] rfl (w.heap.size + 2) (by simp [World.size_alloc])).grow (growB _ (.cells #[fnV fd] 114))).grow (growB _ (.cells #[.nilFunc,.nilFunc,.nilFunc] 72)))
 have HD:=Hd ((Row.at_ (((w.alloc (.cells #[fnV 77] 112)).alloc (.cells #[fnV fe] 95)).alloc (.cells #[fnV fs] 113)) 114 #[fnV fd] [fnV fd] rfl (w.heap.size + 3) (by simp [World.size_alloc])).grow (growB _ (.cells #[.nilFunc,.nilFunc,.nilFunc] 72)))
 have HZ:=Hd (Row.at_ ((((w.alloc (.cells #[fnV 77] 112)).alloc (.cells #[fnV fe] 95)).alloc (.cells #[fnV fs] 113)).alloc (.cells #[fnV fd] 114)) 72 #[.nilFunc,.nilFunc,.nilFunc] [.nilFunc,.nilFunc,.nilFunc] rfl (w.heap.size + 4) (by simp [World.size_alloc]))
 have HZR:Hid ((((((w.alloc (.cells #[fnV 77] 112)).alloc (.cells #[fnV fe] 95)).alloc (.cells #[fnV fs] 113)).alloc (.cells #[fnV fd] 114)).alloc (.cells #[.nilFunc,.nilFunc,.nilFunc] 72)).heap[w.heap.size + 4]? = some (.cells #[.nilFunc,.nilFunc,.nilFunc] 72 (0,0))):=HZ.out
 have HRS:=Hd (Row.setRow_ HZ.out [.func (.func 135) #[] #[ptV (w.heap.size + 1),ptV w.heap.size],.func (.func 136) #[] #[ptV (w.heap.size + 2),ptV w.heap.size],.func (.func 137) #[] #[ptV (w.heap.size + 3),ptV w.heap.size]] rfl)
 have HO:=Hd (fun k (hk:k ≠ w.heap.size + 4) => setRow_other (((((w.alloc (.cells #[fnV 77] 112)).alloc (.cells #[fnV fe] 95)).alloc (.cells #[fnV fs] 113)).alloc (.cells #[fnV fd] 114)).alloc (.cells #[.nilFunc,.nilFunc,.nilFunc] 72)) (w.heap.size + 4) k #[.func (.func 135) #[] #[ptV (w.heap.size + 1),ptV w.heap.size],.func (.func 136) #[] #[ptV (w.heap.size + 2),ptV w.heap.size],.func (.func 137) #[] #[ptV (w.heap.size + 3),ptV w.heap.size]] hk)
 go_enter Tryz.func76,Tryz.ntmps76
 go_wp2_with (refine wpList_store_row rfl _ _ _ rfl _ #[.func (.func 135) #[] #[ptV (w.heap.size + 1),ptV w.heap.size],.func (.func 136) #[] #[ptV (w.heap.size + 2),ptV w.heap.size],.func (.func 137) #[] #[ptV (w.heap.size + 3),ptV w.heap.size]] rfl rfl _ _ HZR.out sizeCod rfl (by simp [Value.oneCell']) ?_)
 refine bodyPost_ret (results_cod1 rfl _ _ _ _ _ _ rfl HRS.out) rfl ⟨_,rfl,⟨_,_,_,_,rfl,?_,?_,?_,?_⟩,below_setRow HG.out (by omega) _⟩
 ·exact (HO.out _ (by omega)).trans HE.out
 ·exact (HO.out _ (by omega)).trans HS.out
 ·exact (HO.out _ (by omega)).trans HD.out
 ·exact (HO.out _ (by omega)).trans HP.out
def CodecT (fe fs fd:FuncId) (x:Value) (w:World):Prop:=
 ∃ be bs bd bp,x = .agg #[.func (.func 161) #[] #[ptV be,ptV bp],.func (.func 162) #[] #[ptV bs,ptV bp],.func (.func 163) #[] #[ptV bd,ptV bp]] ∧
   Row w be 96 [fnV fe] ∧ Row w bs 117 [fnV fs] ∧ Row w bd 118 [fnV fd] ∧ Row w bp 116 [fnV 94]
theorem CodecT.grow {fe fs fd:FuncId} {x:Value} {w w':World} (h:CodecT fe fs fd x w) (hg:Grows w w'):CodecT fe fs fd x w':=by
 obtain ⟨be,bs,bd,bp,h0,h1,h2,h3,h4⟩:=h
 exact ⟨be,bs,bd,bp,h0,h1.grow hg,h2.grow hg,h3.grow hg,h4.grow hg⟩
set_option maxHeartbeats 2000000 in
theorem ecodecOfT_any (fe fs fd:FuncId) (w:World):Calls Tryz.prog 93 #[fnV 94,fnV fe,fnV fs,fnV fd] w fun e w' => ∃ x,e = .returned x ∧ CodecT fe fs fd x w' ∧ Grows w w':=by
 have hmf:∀ (fn:Fn) (first cap:Array Value) (w:World),(Instr.makeFunc fn first cap).run Tryz.prog w = .ok (.func fn first cap) w:=fun _ _ _ _ => rfl
 have HG:=Hd ((((( growB w (.cells #[fnV 94] 116)).of_below (growB _ (.cells #[fnV fe] 96))).of_below (growB _ (.cells #[fnV fs] 117))).of_below (growB _ (.cells #[fnV fd] 118))).of_below (growB _ (.cells #[.nilFunc,.nilFunc,.nilFunc] 72)))
 have HP:=Hd (((((Row.new w 116 #[fnV 94] [fnV 94] rfl).grow (growB _ (.cells #[fnV fe] 96))).grow (growB _ (.cells #[fnV fs] 117))).grow (growB _ (.cells #[fnV fd] 118))).grow (growB _ (.cells #[.nilFunc,.nilFunc,.nilFunc] 72)))
 have HE:=Hd ((((Row.at_ (w.alloc (.cells #[fnV 94] 116)) 96 #[fnV fe] [fnV fe] rfl (w.heap.size + 1) (by simp [World.size_alloc])).grow (growB _ (.cells #[fnV fs] 117))).grow (growB _ (.cells #[fnV fd] 118))).grow (growB _ (.cells #[.nilFunc,.nilFunc,.nilFunc] 72)))
 have HS:=Hd (((Row.at_ ((w.alloc (.cells #[fnV 94] 116)).alloc (.cells #[fnV fe] 96)) 117 #[fnV fs] [fnV fs] rfl (w.heap.size + 2) (by simp [World.size_alloc])).grow (growB _ (.cells #[fnV fd] 118))).grow (growB _ (.cells #[.nilFunc,.nilFunc,.nilFunc] 72)))
 have HD:=Hd ((Row.at_ (((w.alloc (.cells #[fnV 94] 116)).alloc (.cells #[fnV fe] 96)).alloc (.cells #[fnV fs] 117)) 118 #[fnV fd] [fnV fd] rfl (w.heap.size + 3) (by simp [World.size_alloc])).grow (growB _ (.cells #[.nilFunc,.nilFunc,.nilFunc] 72)))
 have HZ:=Hd (Row.at_ ((((w.alloc (.cells #[fnV 94] 116)).alloc (.cells #[fnV fe] 96)).alloc (.cells #[fnV fs] 117)).alloc (.cells #[fnV fd] 118)) 72 #[.nilFunc,.nilFunc,.nilFunc] [.nilFunc,.nilFunc,.nilFunc] rfl (w.heap.size + 4) (by simp [World.size_alloc]))
 have HZR:Hid ((((((w.alloc (.cells #[fnV 94] 116)).alloc (.cells #[fnV fe] 96)).alloc (.cells #[fnV fs] 117)).alloc (.cells #[fnV fd] 118)).alloc (.cells #[.nilFunc,.nilFunc,.nilFunc] 72)).heap[w.heap.size + 4]? = some (.cells #[.nilFunc,.nilFunc,.nilFunc] 72 (0,0))):=HZ.out
 have HRS:=Hd (Row.setRow_ HZ.out [.func (.func 161) #[] #[ptV (w.heap.size + 1),ptV w.heap.size],.func (.func 162) #[] #[ptV (w.heap.size + 2),ptV w.heap.size],.func (.func 163) #[] #[ptV (w.heap.size + 3),ptV w.heap.size]] rfl)
 have HO:=Hd (fun k (hk:k ≠ w.heap.size + 4) => setRow_other (((((w.alloc (.cells #[fnV 94] 116)).alloc (.cells #[fnV fe] 96)).alloc (.cells #[fnV fs] 117)).alloc (.cells #[fnV fd] 118)).alloc (.cells #[.nilFunc,.nilFunc,.nilFunc] 72)) (w.heap.size + 4) k #[.func (.func 161) #[] #[ptV (w.heap.size + 1),ptV w.heap.size],.func (.func 162) #[] #[ptV (w.heap.size + 2),ptV w.heap.size],.func (.func 163) #[] #[ptV (w.heap.size + 3),ptV w.heap.size]] hk)
 go_enter Tryz.func93,Tryz.ntmps93
 go_wp2_with (refine wpList_store_row rfl _ _ _ rfl _ #[.func (.func 161) #[] #[ptV (w.heap.size + 1),ptV w.heap.size],.func (.func 162) #[] #[ptV (w.heap.size + 2),ptV w.heap.size],.func (.func 163) #[] #[ptV (w.heap.size + 3),ptV w.heap.size]] rfl rfl _ _ HZR.out sizeCod rfl (by simp [Value.oneCell']) ?_)
 refine bodyPost_ret (results_cod1 rfl _ _ _ _ _ _ rfl HRS.out) rfl ⟨_,rfl,⟨_,_,_,_,rfl,?_,?_,?_,?_⟩,below_setRow HG.out (by omega) _⟩
 ·exact (HO.out _ (by omega)).trans HE.out
 ·exact (HO.out _ (by omega)).trans HS.out
 ·exact (HO.out _ (by omega)).trans HD.out
 ·exact (HO.out _ (by omega)).trans HP.out
def fnE (k:Nat) (T:Int):FuncId:=if k = 0 then (if T = 1 then 78 else 81) else if k = 1 then 84 else if k = 2 then 87 else 90
def fnS (k:Nat) (T:Int):FuncId:=if k = 0 then (if T = 1 then 79 else 82) else if k = 1 then 85 else if k = 2 then 88 else 91
def fnD (k:Nat) (T:Int):FuncId:=if k = 0 then (if T = 1 then 80 else 83) else if k = 1 then 86 else if k = 2 then 89 else 92
def ftE (k:Nat):FuncId:=if k = 0 then 95 else if k = 4 then 98 else 101
def ftS (k:Nat):FuncId:=if k = 0 then 96 else if k = 4 then 99 else 102
def ftD (k:Nat):FuncId:=if k = 0 then 97 else if k = 4 then 100 else 103
theorem row_ne {w:World} {a b:Nat} {e e':TypeId} {xs ys:List Value} (h:Row w a e xs) (h':Row w b e' ys) (he:e ≠ e'):a ≠ b:=by
 rintro rfl
 have h2:some (Obj.cells xs.toArray e (0,0)) = some (.cells ys.toArray e' (0,0)):=h.symm.trans h'
 injection h2 with h2
 injection h2 with _ h3 _
 exact he h3
theorem CodecI.keep {fe fs fd:FuncId} {x:Value} {w:World} (h:CodecI fe fs fd x w) {g:Nat} {ys:List Value} (hr:Row w g 72 ys) (cs:Array Value):CodecI fe fs fd x (w.setRow g cs):=by
 obtain ⟨be,bs,bd,bp,h0,h1,h2,h3,h4⟩:=h
 exact ⟨be,bs,bd,bp,h0,(setRow_other w g _ cs (row_ne h1 hr (by decide))).trans h1,(setRow_other w g _ cs (row_ne h2 hr (by decide))).trans h2,(setRow_other w g _ cs (row_ne h3 hr (by decide))).trans h3,(setRow_other w g _ cs (row_ne h4 hr (by decide))).trans h4⟩
theorem CodecT.keep {fe fs fd:FuncId} {x:Value} {w:World} (h:CodecT fe fs fd x w) {g:Nat} {ys:List Value} (hr:Row w g 72 ys) (cs:Array Value):CodecT fe fs fd x (w.setRow g cs):=by
 obtain ⟨be,bs,bd,bp,h0,h1,h2,h3,h4⟩:=h
 exact ⟨be,bs,bd,bp,h0,(setRow_other w g _ cs (row_ne h1 hr (by decide))).trans h1,(setRow_other w g _ cs (row_ne h2 hr (by decide))).trans h2,(setRow_other w g _ cs (row_ne h3 hr (by decide))).trans h3,(setRow_other w g _ cs (row_ne h4 hr (by decide))).trans h4⟩
def FindR (b:Bool) (C:Value → World → Prop) (w:World) (e:Ending) (w':World):Prop:=
 ∃ a1 a2 a3,e = .returned (.tuple #[.agg #[a1,a2,a3],.bool b]) ∧ (a1.oneCell' && a2.oneCell' && a3.oneCell') = true ∧ (b = true → C (.agg #[a1,a2,a3]) w') ∧ Grows w w'
set_option maxHeartbeats 4000000 in
theorem efindN_any (k:Nat) (T:Int) (w:World):Calls Tryz.prog 49 #[.int .i64 (k:Int),.int .i64 T] w (FindR (decide (k ≤ 3)) (CodecI (fnE k T) (fnS k T) (fnD k T)) w):=by
 have HR:=Hd (Row.new w 72 #[.nilFunc,.nilFunc,.nilFunc] [.nilFunc,.nilFunc,.nilFunc] rfl)
 have HRW:Hid ((w.alloc (.cells #[.nilFunc,.nilFunc,.nilFunc] 72)).heap[w.heap.size]? = some (.cells #[.nilFunc,.nilFunc,.nilFunc] 72 (0,0))):=HR.out
 have HRS:=Hd (fun a b c => Row.setRow_ HR.out [a,b,c] rfl)
 obtain ⟨b,hb⟩:∃ b,b = decide (k ≤ 3):=⟨_,rfl⟩
 rw [← hb]
 by_cases h0:k = 0
 ·subst h0
  have HB:=Hd (show b = true by rw [hb];rfl)
  clear hb
  by_cases hT:T = 1
  ·subst hT
   go_enter Tryz.func49,Tryz.ntmps49
   go_wp2_with fail
   refine (ecodecOfI_any 78 79 80 _).mono ?_
   rintro e w2 ⟨x,rfl,hcod,g2⟩
   have HCOD:=Hd hcod
   obtain ⟨be,bs,bd,bp,rfl,_⟩:=hcod
   have HG2:=Hd ((growB w _).of_below g2)
   have HR2:=Hd (HR.out.grow g2)
   have HRW:Hid (w2.heap[w.heap.size]? = some (.cells #[.nilFunc,.nilFunc,.nilFunc] 72 (0,0))):=HR2.out
   have HRS:=Hd (fun a b c => Row.setRow_ HR2.out [a,b,c] rfl)
   clear g2
   go_wp2_with (refine wpList_store_row rfl _ _ _ rfl _ _ rfl rfl _ _ HRW.out sizeCod rfl (by simp [Value.oneCell']) ?_)
   exact bodyPost_ret (results_cod2 rfl _ _ _ _ _ _ (.bool true) rfl (HRS.out _ _ _) rfl) rfl ⟨_,_,_,by rw [HB.out],rfl,fun _ => HCOD.out.keep HR2.out _,below_setRow HG2.out (Nat.le_refl _) _⟩
  ·have eT:(T == 1) = false:=by simpa using hT
   rw [show fnE 0 T = 81 by unfold fnE;rw [if_pos rfl,if_neg hT],show fnS 0 T = 82 by unfold fnS;rw [if_pos rfl,if_neg hT],show fnD 0 T = 83 by unfold fnD;rw [if_pos rfl,if_neg hT]]
   clear hT
   go_enter Tryz.func49,Tryz.ntmps49
   go_wp2_with fail
   refine (ecodecOfI_any 81 82 83 _).mono ?_
   rintro e w2 ⟨x,rfl,hcod,g2⟩
   have HCOD:=Hd hcod
   obtain ⟨be,bs,bd,bp,rfl,_⟩:=hcod
   have HG2:=Hd ((growB w _).of_below g2)
   have HR2:=Hd (HR.out.grow g2)
   have HRW:Hid (w2.heap[w.heap.size]? = some (.cells #[.nilFunc,.nilFunc,.nilFunc] 72 (0,0))):=HR2.out
   have HRS:=Hd (fun a b c => Row.setRow_ HR2.out [a,b,c] rfl)
   clear g2
   go_wp2_with (refine wpList_store_row rfl _ _ _ rfl _ _ rfl rfl _ _ HRW.out sizeCod rfl (by simp [Value.oneCell']) ?_)
   exact bodyPost_ret (results_cod2 rfl _ _ _ _ _ _ (.bool true) rfl (HRS.out _ _ _) rfl) rfl ⟨_,_,_,by rw [HB.out],rfl,fun _ => HCOD.out.keep HR2.out _,below_setRow HG2.out (Nat.le_refl _) _⟩
 by_cases h1:k = 1
 ·subst h1
  have HB:=Hd (show b = true by rw [hb];rfl)
  clear hb h0
  go_enter Tryz.func49,Tryz.ntmps49
  go_wp2_with fail
  refine (ecodecOfI_any 84 85 86 _).mono ?_
  rintro e w2 ⟨x,rfl,hcod,g2⟩
  have HCOD:=Hd hcod
  obtain ⟨be,bs,bd,bp,rfl,_⟩:=hcod
  have HG2:=Hd ((growB w _).of_below g2)
  have HR2:=Hd (HR.out.grow g2)
  have HRW:Hid (w2.heap[w.heap.size]? = some (.cells #[.nilFunc,.nilFunc,.nilFunc] 72 (0,0))):=HR2.out
  have HRS:=Hd (fun a b c => Row.setRow_ HR2.out [a,b,c] rfl)
  clear g2
  go_wp2_with (refine wpList_store_row rfl _ _ _ rfl _ _ rfl rfl _ _ HRW.out sizeCod rfl (by simp [Value.oneCell']) ?_)
  exact bodyPost_ret (results_cod2 rfl _ _ _ _ _ _ (.bool true) rfl (HRS.out _ _ _) rfl) rfl ⟨_,_,_,by rw [HB.out],rfl,fun _ => HCOD.out.keep HR2.out _,below_setRow HG2.out (Nat.le_refl _) _⟩
 by_cases h2:k = 2
 ·subst h2
  have HB:=Hd (show b = true by rw [hb];rfl)
  clear hb h0 h1
  go_enter Tryz.func49,Tryz.ntmps49
  go_wp2_with fail
  refine (ecodecOfI_any 87 88 89 _).mono ?_
  rintro e w2 ⟨x,rfl,hcod,g2⟩
  have HCOD:=Hd hcod
  obtain ⟨be,bs,bd,bp,rfl,_⟩:=hcod
  have HG2:=Hd ((growB w _).of_below g2)
  have HR2:=Hd (HR.out.grow g2)
  have HRW:Hid (w2.heap[w.heap.size]? = some (.cells #[.nilFunc,.nilFunc,.nilFunc] 72 (0,0))):=HR2.out
  have HRS:=Hd (fun a b c => Row.setRow_ HR2.out [a,b,c] rfl)
  clear g2
  go_wp2_with (refine wpList_store_row rfl _ _ _ rfl _ _ rfl rfl _ _ HRW.out sizeCod rfl (by simp [Value.oneCell']) ?_)
  exact bodyPost_ret (results_cod2 rfl _ _ _ _ _ _ (.bool true) rfl (HRS.out _ _ _) rfl) rfl ⟨_,_,_,by rw [HB.out],rfl,fun _ => HCOD.out.keep HR2.out _,below_setRow HG2.out (Nat.le_refl _) _⟩
 by_cases h3:k = 3
 ·subst h3
  have HB:=Hd (show b = true by rw [hb];rfl)
  clear hb h0 h1 h2
  go_enter Tryz.func49,Tryz.ntmps49
  go_wp2_with fail
  refine (ecodecOfI_any 90 91 92 _).mono ?_
  rintro e w2 ⟨x,rfl,hcod,g2⟩
  have HCOD:=Hd hcod
  obtain ⟨be,bs,bd,bp,rfl,_⟩:=hcod
  have HG2:=Hd ((growB w _).of_below g2)
  have HR2:=Hd (HR.out.grow g2)
  have HRW:Hid (w2.heap[w.heap.size]? = some (.cells #[.nilFunc,.nilFunc,.nilFunc] 72 (0,0))):=HR2.out
  have HRS:=Hd (fun a b c => Row.setRow_ HR2.out [a,b,c] rfl)
  clear g2
  go_wp2_with (refine wpList_store_row rfl _ _ _ rfl _ _ rfl rfl _ _ HRW.out sizeCod rfl (by simp [Value.oneCell']) ?_)
  exact bodyPost_ret (results_cod2 rfl _ _ _ _ _ _ (.bool true) rfl (HRS.out _ _ _) rfl) rfl ⟨_,_,_,by rw [HB.out],rfl,fun _ => HCOD.out.keep HR2.out _,below_setRow HG2.out (Nat.le_refl _) _⟩
 have HB:=Hd (show b = false by rw [hb];simp;omega)
 have e0:((k:Int) == 0) = false:=by simp;omega
 have e1:((k:Int) == 1) = false:=by simp;omega
 have e2:((k:Int) == 2) = false:=by simp;omega
 have e3:((k:Int) == 3) = false:=by simp;omega
 clear hb h0 h1 h2 h3
 go_enter Tryz.func49,Tryz.ntmps49
 go_wp2_with (refine wpList_store_row rfl _ _ _ rfl _ #[.nilFunc,.nilFunc,.nilFunc] rfl rfl _ _ HRW.out sizeCod rfl (by simp [Value.oneCell']) ?_)
 exact bodyPost_ret (results_cod2 rfl _ _ _ _ _ _ (.bool false) rfl (HRS.out _ _ _) rfl) rfl ⟨_,_,_,by rw [HB.out],rfl,fun h => by (rw [HB.out] at h;cases h),below_setRow (growB w _) (Nat.le_refl _) _⟩
set_option maxHeartbeats 4000000 in
theorem efindT_any (k:Nat) (w:World):Calls Tryz.prog 50 #[.int .i64 (k:Int)] w (FindR (decide (k = 0 ∨ k = 4 ∨ k = 5)) (CodecT (ftE k) (ftS k) (ftD k)) w):=by
 have HR:=Hd (Row.new w 72 #[.nilFunc,.nilFunc,.nilFunc] [.nilFunc,.nilFunc,.nilFunc] rfl)
 have HRW:Hid ((w.alloc (.cells #[.nilFunc,.nilFunc,.nilFunc] 72)).heap[w.heap.size]? = some (.cells #[.nilFunc,.nilFunc,.nilFunc] 72 (0,0))):=HR.out
 have HRS:=Hd (fun a b c => Row.setRow_ HR.out [a,b,c] rfl)
 obtain ⟨b,hb⟩:∃ b,b = decide (k = 0 ∨ k = 4 ∨ k = 5):=⟨_,rfl⟩
 rw [← hb]
 by_cases h0:k = 0
 ·subst h0
  have HB:=Hd (show b = true by rw [hb];rfl)
  clear hb
  go_enter Tryz.func50,Tryz.ntmps50
  go_wp2_with fail
  refine (ecodecOfT_any 95 96 97 _).mono ?_
  rintro e w2 ⟨x,rfl,hcod,g2⟩
  have HCOD:=Hd hcod
  obtain ⟨be,bs,bd,bp,rfl,_⟩:=hcod
  have HG2:=Hd ((growB w _).of_below g2)
  have HR2:=Hd (HR.out.grow g2)
  have HRW:Hid (w2.heap[w.heap.size]? = some (.cells #[.nilFunc,.nilFunc,.nilFunc] 72 (0,0))):=HR2.out
  have HRS:=Hd (fun a b c => Row.setRow_ HR2.out [a,b,c] rfl)
  clear g2
  go_wp2_with (refine wpList_store_row rfl _ _ _ rfl _ _ rfl rfl _ _ HRW.out sizeCod rfl (by simp [Value.oneCell']) ?_)
  exact bodyPost_ret (results_cod2 rfl _ _ _ _ _ _ (.bool true) rfl (HRS.out _ _ _) rfl) rfl ⟨_,_,_,by rw [HB.out],rfl,fun _ => HCOD.out.keep HR2.out _,below_setRow HG2.out (Nat.le_refl _) _⟩
 by_cases h4:k = 4
 ·subst h4
  have HB:=Hd (show b = true by rw [hb];rfl)
  clear hb h0
  go_enter Tryz.func50,Tryz.ntmps50
  go_wp2_with fail
  refine (ecodecOfT_any 98 99 100 _).mono ?_
  rintro e w2 ⟨x,rfl,hcod,g2⟩
  have HCOD:=Hd hcod
  obtain ⟨be,bs,bd,bp,rfl,_⟩:=hcod
  have HG2:=Hd ((growB w _).of_below g2)
  have HR2:=Hd (HR.out.grow g2)
  have HRW:Hid (w2.heap[w.heap.size]? = some (.cells #[.nilFunc,.nilFunc,.nilFunc] 72 (0,0))):=HR2.out
  have HRS:=Hd (fun a b c => Row.setRow_ HR2.out [a,b,c] rfl)
  clear g2
  go_wp2_with (refine wpList_store_row rfl _ _ _ rfl _ _ rfl rfl _ _ HRW.out sizeCod rfl (by simp [Value.oneCell']) ?_)
  exact bodyPost_ret (results_cod2 rfl _ _ _ _ _ _ (.bool true) rfl (HRS.out _ _ _) rfl) rfl ⟨_,_,_,by rw [HB.out],rfl,fun _ => HCOD.out.keep HR2.out _,below_setRow HG2.out (Nat.le_refl _) _⟩
 by_cases h5:k = 5
 ·subst h5
  have HB:=Hd (show b = true by rw [hb];rfl)
  clear hb h0 h4
  go_enter Tryz.func50,Tryz.ntmps50
  go_wp2_with fail
  refine (ecodecOfT_any 101 102 103 _).mono ?_
  rintro e w2 ⟨x,rfl,hcod,g2⟩
  have HCOD:=Hd hcod
  obtain ⟨be,bs,bd,bp,rfl,_⟩:=hcod
  have HG2:=Hd ((growB w _).of_below g2)
  have HR2:=Hd (HR.out.grow g2)
  have HRW:Hid (w2.heap[w.heap.size]? = some (.cells #[.nilFunc,.nilFunc,.nilFunc] 72 (0,0))):=HR2.out
  have HRS:=Hd (fun a b c => Row.setRow_ HR2.out [a,b,c] rfl)
  clear g2
  go_wp2_with (refine wpList_store_row rfl _ _ _ rfl _ _ rfl rfl _ _ HRW.out sizeCod rfl (by simp [Value.oneCell']) ?_)
  exact bodyPost_ret (results_cod2 rfl _ _ _ _ _ _ (.bool true) rfl (HRS.out _ _ _) rfl) rfl ⟨_,_,_,by rw [HB.out],rfl,fun _ => HCOD.out.keep HR2.out _,below_setRow HG2.out (Nat.le_refl _) _⟩
 have HB:=Hd (show b = false by rw [hb];simp;omega)
 have e0:((k:Int) == 0) = false:=by simp;omega
 have e4:((k:Int) == 4) = false:=by simp;omega
 have e5:((k:Int) == 5) = false:=by simp;omega
 clear hb h0 h4 h5
 go_enter Tryz.func50,Tryz.ntmps50
 go_wp2_with (refine wpList_store_row rfl _ _ _ rfl _ #[.nilFunc,.nilFunc,.nilFunc] rfl rfl _ _ HRW.out sizeCod rfl (by simp [Value.oneCell']) ?_)
 exact bodyPost_ret (results_cod2 rfl _ _ _ _ _ _ (.bool false) rfl (HRS.out _ _ _) rfl) rfl ⟨_,_,_,by rw [HB.out],rfl,fun h => by (rw [HB.out] at h;cases h),below_setRow (growB w _) (Nat.le_refl _) _⟩
def CodecR (k:Nat) (T:Int) (x:Value) (w:World):Prop:=if T = 3 then CodecT (ftE k) (ftS k) (ftD k) x w else CodecI (fnE k T) (fnS k T) (fnD k T) x w
theorem CodecR.grow {k:Nat} {T:Int} {x:Value} {w w':World} (h:CodecR k T x w) (hg:Grows w w'):CodecR k T x w':=by
 unfold CodecR at h ⊢
 split at h
 ·rw [if_pos (by assumption)];exact h.grow hg
 ·rw [if_neg (by assumption)];exact h.grow hg
theorem CodecR.keep {k:Nat} {T:Int} {x:Value} {w:World} (h:CodecR k T x w) {g:Nat} {ys:List Value} (hr:Row w g 72 ys) (cs:Array Value):CodecR k T x (w.setRow g cs):=by
 unfold CodecR at h ⊢
 split at h
 ·rw [if_pos (by assumption)];exact h.keep hr cs
 ·rw [if_neg (by assumption)];exact h.keep hr cs
set_option maxHeartbeats 4000000 in
theorem efind_any (k:Nat) (T:Int) (w:World):Calls Tryz.prog 34 #[.int .i64 (k:Int),.int .i64 T] w (FindR (apl k T) (CodecR k T) w):=by
 have HR:=Hd (Row.new w 72 #[.nilFunc,.nilFunc,.nilFunc] [.nilFunc,.nilFunc,.nilFunc] rfl)
 have HRW:Hid ((w.alloc (.cells #[.nilFunc,.nilFunc,.nilFunc] 72)).heap[w.heap.size]? = some (.cells #[.nilFunc,.nilFunc,.nilFunc] 72 (0,0))):=HR.out
 have HRS:=Hd (fun a b c => Row.setRow_ HR.out [a,b,c] rfl)
 obtain ⟨b,hb⟩:∃ b,b = apl k T:=⟨_,rfl⟩
 rw [← hb]
 by_cases h1:T = 1
 ·subst h1
  have HB:=Hd (show decide (k ≤ 3) = b by rw [hb];rfl)
  have HCR:=Hd (fun (x:Value) (w:World) (h:CodecI (fnE k 1) (fnS k 1) (fnD k 1) x w) => show CodecR k 1 x w from h)
  have HF:=Hd (fun W => efindN_any k 1 W)
  rw [HB.out] at HF
  replace HB:=Hd (rfl:b = b)
  clear hb
  go_enter Tryz.func34,Tryz.ntmps34
  go_wp2_with fail
  refine (HF.out _).mono ?_
  rintro e w2 ⟨a1,a2,a3,rfl,hone,hcod,g2⟩
  have HONE:=Hd hone
  have HCOD:=Hd hcod
  have HG2:=Hd ((growB w _).of_below g2)
  have HR2:=Hd (HR.out.grow g2)
  have HRW:Hid (w2.heap[w.heap.size]? = some (.cells #[.nilFunc,.nilFunc,.nilFunc] 72 (0,0))):=HR2.out
  have HRS:=Hd (Row.setRow_ HR2.out [a1,a2,a3] rfl)
  have H1:=Hd (show (#[a1,a2,a3].all (·.oneCell')) = true by simpa [Bool.and_assoc] using hone)
  clear g2 hone hcod
  go_wp2_with (refine wpList_store_row rfl _ _ _ rfl _ #[a1,a2,a3] rfl rfl _ _ HRW.out sizeCod rfl H1.out ?_)
  exact bodyPost_ret (results_cod2 rfl _ _ _ _ _ _ (.bool b) rfl HRS.out rfl) rfl ⟨_,_,_,rfl,HONE.out,fun h => HCR.out _ _ ((HCOD.out h).keep HR2.out _),below_setRow HG2.out (Nat.le_refl _) _⟩
 by_cases h2:T = 2
 ·subst h2
  have HB:=Hd (show decide (k ≤ 3) = b by rw [hb];rfl)
  have HCR:=Hd (fun (x:Value) (w:World) (h:CodecI (fnE k 2) (fnS k 2) (fnD k 2) x w) => show CodecR k 2 x w from h)
  have HF:=Hd (fun W => efindN_any k 2 W)
  rw [HB.out] at HF
  replace HB:=Hd (rfl:b = b)
  clear hb h1
  go_enter Tryz.func34,Tryz.ntmps34
  go_wp2_with fail
  refine (HF.out _).mono ?_
  rintro e w2 ⟨a1,a2,a3,rfl,hone,hcod,g2⟩
  have HONE:=Hd hone
  have HCOD:=Hd hcod
  have HG2:=Hd ((growB w _).of_below g2)
  have HR2:=Hd (HR.out.grow g2)
  have HRW:Hid (w2.heap[w.heap.size]? = some (.cells #[.nilFunc,.nilFunc,.nilFunc] 72 (0,0))):=HR2.out
  have HRS:=Hd (Row.setRow_ HR2.out [a1,a2,a3] rfl)
  have H1:=Hd (show (#[a1,a2,a3].all (·.oneCell')) = true by simpa [Bool.and_assoc] using hone)
  clear g2 hone hcod
  go_wp2_with (refine wpList_store_row rfl _ _ _ rfl _ #[a1,a2,a3] rfl rfl _ _ HRW.out sizeCod rfl H1.out ?_)
  exact bodyPost_ret (results_cod2 rfl _ _ _ _ _ _ (.bool b) rfl HRS.out rfl) rfl ⟨_,_,_,rfl,HONE.out,fun h => HCR.out _ _ ((HCOD.out h).keep HR2.out _),below_setRow HG2.out (Nat.le_refl _) _⟩
 by_cases h3:T = 3
 ·subst h3
  have HB:=Hd (show decide (k = 0 ∨ k = 4 ∨ k = 5) = b by rw [hb];rfl)
  have HCR:=Hd (fun (x:Value) (w:World) (h:CodecT (ftE k) (ftS k) (ftD k) x w) => show CodecR k 3 x w from h)
  have HF:=Hd (fun W => efindT_any k W)
  rw [HB.out] at HF
  replace HB:=Hd (rfl:b = b)
  clear hb h1 h2
  go_enter Tryz.func34,Tryz.ntmps34
  go_wp2_with fail
  refine (HF.out _).mono ?_
  rintro e w2 ⟨a1,a2,a3,rfl,hone,hcod,g2⟩
  have HONE:=Hd hone
  have HCOD:=Hd hcod
  have HG2:=Hd ((growB w _).of_below g2)
  have HR2:=Hd (HR.out.grow g2)
  have HRW:Hid (w2.heap[w.heap.size]? = some (.cells #[.nilFunc,.nilFunc,.nilFunc] 72 (0,0))):=HR2.out
  have HRS:=Hd (Row.setRow_ HR2.out [a1,a2,a3] rfl)
  have H1:=Hd (show (#[a1,a2,a3].all (·.oneCell')) = true by simpa [Bool.and_assoc] using hone)
  clear g2 hone hcod
  go_wp2_with (refine wpList_store_row rfl _ _ _ rfl _ #[a1,a2,a3] rfl rfl _ _ HRW.out sizeCod rfl H1.out ?_)
  exact bodyPost_ret (results_cod2 rfl _ _ _ _ _ _ (.bool b) rfl HRS.out rfl) rfl ⟨_,_,_,rfl,HONE.out,fun h => HCR.out _ _ ((HCOD.out h).keep HR2.out _),below_setRow HG2.out (Nat.le_refl _) _⟩
 have e1:(T == 1) = false:=by simpa using h1
 have e2:(T == 2) = false:=by simpa using h2
 have e3:(T == 3) = false:=by simpa using h3
 have HB:=Hd (show b = false by rw [hb];unfold apl;rw [if_neg (by omega),if_neg h3])
 clear hb h1 h2 h3
 go_enter Tryz.func34,Tryz.ntmps34
 go_wp2_with (refine wpList_store_row rfl _ _ _ rfl _ #[.nilFunc,.nilFunc,.nilFunc] rfl rfl _ _ HRW.out sizeCod rfl (by simp [Value.oneCell']) ?_)
 exact bodyPost_ret (results_cod2 rfl _ _ _ _ _ _ (.bool false) rfl (HRS.out _ _ _) rfl) rfl ⟨_,_,_,by rw [HB.out],rfl,fun h => by (rw [HB.out] at h;cases h),below_setRow (growB w _) (Nat.le_refl _) _⟩
def aplR (k T:Int):Bool:=if k = 0 then true else if k = 1 ∨ k = 2 ∨ k = 3 then decide (T = 1 ∨ T = 2) else if k = 4 ∨ k = 5 then decide (T = 3) else false
theorem aplR_eq {k:Nat} {T:Int} (hT:okT T = true):aplR k T = apl k T:=by
 have h:=okT_in hT
 have h3:T = 1 ∨ T = 2 ∨ T = 3:=by omega
 unfold aplR apl
 rcases h3 with rfl | rfl | rfl
 ·by_cases h0:k = 0
  ·subst h0;rfl
  ·by_cases h1:k ≤ 3
   ·rw [if_neg (by omega),if_pos (by omega)];simp [h1]
   ·rw [if_neg (by omega),if_neg (by omega)];simp [h1]
 ·by_cases h0:k = 0
  ·subst h0;rfl
  ·by_cases h1:k ≤ 3
   ·rw [if_neg (by omega),if_pos (by omega)];simp [h1]
   ·rw [if_neg (by omega),if_neg (by omega)];simp [h1]
 ·by_cases h0:k = 0
  ·subst h0;rfl
  ·by_cases h1:k ≤ 3
   ·rw [if_neg (by omega),if_pos (by omega)];simp;omega
   ·rw [if_neg (by omega),if_neg (by omega)]
    by_cases h4:k = 4 ∨ k = 5
    ·rw [if_pos (by omega)];simp;omega
    ·rw [if_neg (by omega)];simp;omega
theorem rapplies_any (T k:Int) (w:World):Calls Tryz.prog 25 #[.int .i64 T,.int .i64 k] w fun e w' => e = .returned (.bool (aplR k T)) ∧ w = w':=by
 obtain ⟨b,hb⟩:∃ b,b = aplR k T:=⟨_,rfl⟩
 rw [← hb]
 by_cases h0:k = 0
 ·subst h0
  have HB:=Hd (show b = true from hb)
  clear hb
  go_enter Tryz.func25,Tryz.ntmps25
  go_wp2_with fail
  go_ret
  exact ⟨retB1 HB.out.symm,rfl⟩
 by_cases h1:k = 1
 ·subst h1
  by_cases t1:T = 1
  ·subst t1
   have HB:=Hd (show b = true from hb)
   clear hb h0
   go_enter Tryz.func25,Tryz.ntmps25
   go_wp2_with fail
   go_ret
   exact ⟨retB1 HB.out.symm,rfl⟩
  by_cases t2:T = 2
  ·subst t2
   have HB:=Hd (show b = true from hb)
   clear hb h0 t1
   go_enter Tryz.func25,Tryz.ntmps25
   go_wp2_with fail
   go_ret
   exact ⟨retB1 HB.out.symm,rfl⟩
  have f1:(T == 1) = false:=by simpa using t1
  have f2:(T == 2) = false:=by simpa using t2
  have HB:=Hd (show b = false by rw [hb];unfold aplR;rw [if_neg (by omega),if_pos (by omega)];simp [t1,t2])
  clear hb h0 t1 t2
  go_enter Tryz.func25,Tryz.ntmps25
  go_wp2_with fail
  go_ret
  exact ⟨retB1 HB.out.symm,rfl⟩
 by_cases h2:k = 2
 ·subst h2
  by_cases t1:T = 1
  ·subst t1
   have HB:=Hd (show b = true from hb)
   clear hb h0 h1
   go_enter Tryz.func25,Tryz.ntmps25
   go_wp2_with fail
   go_ret
   exact ⟨retB1 HB.out.symm,rfl⟩
  by_cases t2:T = 2
  ·subst t2
   have HB:=Hd (show b = true from hb)
   clear hb h0 h1 t1
   go_enter Tryz.func25,Tryz.ntmps25
   go_wp2_with fail
   go_ret
   exact ⟨retB1 HB.out.symm,rfl⟩
  have f1:(T == 1) = false:=by simpa using t1
  have f2:(T == 2) = false:=by simpa using t2
  have HB:=Hd (show b = false by rw [hb];unfold aplR;rw [if_neg (by omega),if_pos (by omega)];simp [t1,t2])
  clear hb h0 h1 t1 t2
  go_enter Tryz.func25,Tryz.ntmps25
  go_wp2_with fail
  go_ret
  exact ⟨retB1 HB.out.symm,rfl⟩
 by_cases h3:k = 3
 ·subst h3
  by_cases t1:T = 1
  ·subst t1
   have HB:=Hd (show b = true from hb)
   clear hb h0 h1 h2
   go_enter Tryz.func25,Tryz.ntmps25
   go_wp2_with fail
   go_ret
   exact ⟨retB1 HB.out.symm,rfl⟩
  by_cases t2:T = 2
  ·subst t2
   have HB:=Hd (show b = true from hb)
   clear hb h0 h1 h2 t1
   go_enter Tryz.func25,Tryz.ntmps25
   go_wp2_with fail
   go_ret
   exact ⟨retB1 HB.out.symm,rfl⟩
  have f1:(T == 1) = false:=by simpa using t1
  have f2:(T == 2) = false:=by simpa using t2
  have HB:=Hd (show b = false by rw [hb];unfold aplR;rw [if_neg (by omega),if_pos (by omega)];simp [t1,t2])
  clear hb h0 h1 h2 t1 t2
  go_enter Tryz.func25,Tryz.ntmps25
  go_wp2_with fail
  go_ret
  exact ⟨retB1 HB.out.symm,rfl⟩
 by_cases h4:k = 4
 ·subst h4
  by_cases t3:T = 3
  ·subst t3
   have HB:=Hd (show b = true from hb)
   clear hb h0 h1 h2 h3
   go_enter Tryz.func25,Tryz.ntmps25
   go_wp2_with fail
   go_ret
   exact ⟨retB1 HB.out.symm,rfl⟩
  have f3:(T == 3) = false:=by simpa using t3
  have HB:=Hd (show b = false by rw [hb];unfold aplR;rw [if_neg (by omega),if_neg (by omega),if_pos (by omega)];simp [t3])
  clear hb h0 h1 h2 h3 t3
  go_enter Tryz.func25,Tryz.ntmps25
  go_wp2_with fail
  go_ret
  exact ⟨retB1 HB.out.symm,rfl⟩
 by_cases h5:k = 5
 ·subst h5
  by_cases t3:T = 3
  ·subst t3
   have HB:=Hd (show b = true from hb)
   clear hb h0 h1 h2 h3 h4
   go_enter Tryz.func25,Tryz.ntmps25
   go_wp2_with fail
   go_ret
   exact ⟨retB1 HB.out.symm,rfl⟩
  have f3:(T == 3) = false:=by simpa using t3
  have HB:=Hd (show b = false by rw [hb];unfold aplR;rw [if_neg (by omega),if_neg (by omega),if_pos (by omega)];simp [t3])
  clear hb h0 h1 h2 h3 h4 t3
  go_enter Tryz.func25,Tryz.ntmps25
  go_wp2_with fail
  go_ret
  exact ⟨retB1 HB.out.symm,rfl⟩
 have e0:(k == 0) = false:=by simpa using h0
 have e1:(k == 1) = false:=by simpa using h1
 have e2:(k == 2) = false:=by simpa using h2
 have e3:(k == 3) = false:=by simpa using h3
 have e4:(k == 4) = false:=by simpa using h4
 have e5:(k == 5) = false:=by simpa using h5
 have HB:=Hd (show b = false by rw [hb];unfold aplR;rw [if_neg h0,if_neg (by omega),if_neg (by omega)])
 clear hb h0 h1 h2 h3 h4 h5
 go_enter Tryz.func25,Tryz.ntmps25
 go_wp2_with fail
 go_ret
 exact ⟨retB1 HB.out.symm,rfl⟩
theorem drewN_g {w w':World} (h:Grows w w') (n:Nat):Grows w (w'.drewN n):=h.of_below ⟨rfl,rfl,rfl,Nat.le_refl _,fun _ _ => rfl⟩
def EqRelEr1 (w2:World) (n:Nat) (i:Value) (wr:World):Prop:=∃ k:Nat,k ≤ n ∧ i = .int .i64 (k:Int) ∧ Grows w2 wr
set_option maxHeartbeats 8000000 in
theorem requalV_same (x y:Value) (v:Vec) (w:World) (hx:IsV w x v) (hy:IsV w y v) (hl:v.is.length ≤ 1000000) (hl2:v.ts.length ≤ 1000000) (hl3:v.ns.length ≤ 1000000):Calls Tryz.prog 20 #[x,y] w fun e w' => e = .returned (.bool true) ∧ Grows w w':=by
 obtain ⟨T,is,ts,ns⟩:=v
 obtain ⟨x1,x2,x3,rfl,a1,a2,a3⟩:=hx
 obtain ⟨y1,y2,y3,rfl,b1,b2,b3⟩:=hy
 dsimp only at *
 obtain ⟨A1,c1,rfl⟩:=a1.slice_
 obtain ⟨A2,c2,rfl⟩:=a2.slice_
 obtain ⟨A3,c3,rfl⟩:=a3.slice_
 obtain ⟨B1,d1,rfl⟩:=b1.slice_
 obtain ⟨B2,d2,rfl⟩:=b2.slice_
 obtain ⟨B3,d3,rfl⟩:=b3.slice_
 have HA1:=Hd a1
 have HB1:=Hd b1
 have HA2:=Hd a2
 have HB2:=Hd b2
 have HA3:=Hd a3
 have HB3:=Hd b3
 obtain ⟨n1,hn1⟩:∃ n,n = is.length:=⟨_,rfl⟩
 obtain ⟨n2,hn2⟩:∃ n,n = ts.length:=⟨_,rfl⟩
 obtain ⟨n3,hn3⟩:∃ n,n = ns.length:=⟨_,rfl⟩
 rw [← hn1] at HA1 HB1 hl ⊢
 rw [← hn2] at HA2 HB2 hl2 ⊢
 rw [← hn3] at HA3 HB3 hl3 ⊢
 have HN1:=Hd hn1
 have HN2:=Hd hn2
 have HN3:=Hd hn3
 clear a1 a2 a3 b1 b2 b3 hn1 hn2 hn3
 have HG2:=Hd ((growB w (.cells #[.int .i64 T,.slice A1 n1 c1,.slice A2 n2 c2,.slice A3 n3 c3] 26)).of_below (growB _ (.cells #[.int .i64 T,.slice B1 n1 d1,.slice B2 n2 d2,.slice B3 n3 d3] 26)))
 have HX2:=Hd ((Row.new w 26 #[.int .i64 T,.slice A1 n1 c1,.slice A2 n2 c2,.slice A3 n3 c3] [.int .i64 T,.slice A1 n1 c1,.slice A2 n2 c2,.slice A3 n3 c3] rfl).grow (growB _ (.cells #[.int .i64 T,.slice B1 n1 d1,.slice B2 n2 d2,.slice B3 n3 d3] 26)))
 have HY2:=Hd (Row.at_ (w.alloc (.cells #[.int .i64 T,.slice A1 n1 c1,.slice A2 n2 c2,.slice A3 n3 c3] 26)) 26 #[.int .i64 T,.slice B1 n1 d1,.slice B2 n2 d2,.slice B3 n3 d3] [.int .i64 T,.slice B1 n1 d1,.slice B2 n2 d2,.slice B3 n3 d3] rfl (w.heap.size + 1) (by rw [World.size_alloc]))
 obtain ⟨w2,hw2⟩:∃ w2,w2 = (w.alloc (.cells #[.int .i64 T,.slice A1 n1 c1,.slice A2 n2 c2,.slice A3 n3 c3] 26)).alloc (.cells #[.int .i64 T,.slice B1 n1 d1,.slice B2 n2 d2,.slice B3 n3 d3] 26):=⟨_,rfl⟩
 rw [← hw2] at HG2 HX2 HY2
 have HW2:=Hd hw2.symm
 clear hw2
 go_enter Tryz.func20,Tryz.ntmps20
 go_wp2_with fail
 rw [HW2.out]
 go_loopw [5] (fun i wr => EqRelEr1 w2 n1 i wr) (fun i _ => n1 - (intOf i).toNat)
 case atStart => exact ⟨0,by omega,rfl,Below.refl _ _⟩
 case round =>
  obtain ⟨k,hk,rfl,hb⟩:=hrel
  have HBW:=Hd hb
  have xa1:=(HX2.out.grow hb).cell 1
  have ya1:=(HY2.out.grow hb).cell 1
  simp only [List.getElem?_cons_succ,List.getElem?_cons_zero] at xa1 ya1
  by_cases hlt:k < n1
  ·have hlt':k < is.length:=by rw [← HN1.out];exact hlt
   obtain ⟨q1,f1,rfl,hc1⟩:=(HA1.out.grow (HG2.out.of_below hb)).at_ hlt'
   obtain ⟨q2,f2,rfl,hc2⟩:=(HB1.out.grow (HG2.out.of_below hb)).at_ hlt'
   generalize is[k] = z at *
   clear hlt' hb
   go_wp2_with fail
   go_quiet (fail)
   go_wp2_with fail
   first
    | (go_roundw;(case rel => exact ⟨k + 1,by omega,by go_num,drewN_g HBW.out _⟩);(case measure => simp [intOf];omega))
    | exact ⟨⟨k + 1,by omega,by go_num,drewN_g HBW.out _⟩,by simp [intOf];omega⟩
  ·have hd:decide (k < n1) = false:=by simpa using hlt
   clear hb
   have HBQ0:=HBW
   go_wp2_with fail
   go_loopw [6] (fun i wr => EqRelEr1 w2 n2 i wr) (fun i _ => n2 - (intOf i).toNat)
   case atStart => exact ⟨0,by omega,rfl,HBQ0.out⟩
   case round =>
    obtain ⟨k,hk,rfl,hb⟩:=hrel
    have HBW:=Hd hb
    have xa2:=(HX2.out.grow hb).cell 2
    have ya2:=(HY2.out.grow hb).cell 2
    simp only [List.getElem?_cons_succ,List.getElem?_cons_zero] at xa2 ya2
    by_cases hlt:k < n2
    ·have hlt':k < ts.length:=by rw [← HN2.out];exact hlt
     obtain ⟨q1,f1,rfl,hc1⟩:=(HA2.out.grow (HG2.out.of_below hb)).at_ hlt'
     obtain ⟨q2,f2,rfl,hc2⟩:=(HB2.out.grow (HG2.out.of_below hb)).at_ hlt'
     generalize strOf ts[k] = z at *
     clear hlt' hb
     go_wp2_with fail
     go_quiet (fail)
     go_wp2_with fail
     first
      | (go_roundw;(case rel => exact ⟨k + 1,by omega,by go_num,drewN_g HBW.out _⟩);(case measure => simp [intOf];omega))
      | exact ⟨⟨k + 1,by omega,by go_num,drewN_g HBW.out _⟩,by simp [intOf];omega⟩
    ·have hd:decide (k < n2) = false:=by simpa using hlt
     clear hb
     have HBR0:=HBW
     go_wp2_with fail
     go_loopw [7] (fun i wr => EqRelEr1 w2 n3 i wr) (fun i _ => n3 - (intOf i).toNat)
     case atStart => exact ⟨0,by omega,rfl,HBR0.out⟩
     case round =>
      obtain ⟨k,hk,rfl,hb⟩:=hrel
      have HBW:=Hd hb
      have xa3:=(HX2.out.grow hb).cell 3
      have ya3:=(HY2.out.grow hb).cell 3
      simp only [List.getElem?_cons_succ,List.getElem?_cons_zero] at xa3 ya3
      by_cases hlt:k < n3
      ·have hlt':k < ns.length:=by rw [← HN3.out];exact hlt
       obtain ⟨q1,f1,rfl,hc1⟩:=(HA3.out.grow (HG2.out.of_below hb)).at_ hlt'
       obtain ⟨q2,f2,rfl,hc2⟩:=(HB3.out.grow (HG2.out.of_below hb)).at_ hlt'
       generalize ns[k] = z at *
       clear hlt' hb
       go_wp2_with fail
       go_quiet (fail)
       go_wp2_with fail
       first
        | (go_roundw;(case rel => exact ⟨k + 1,by omega,by go_num,drewN_g HBW.out _⟩);(case measure => simp [intOf];omega))
        | exact ⟨⟨k + 1,by omega,by go_num,drewN_g HBW.out _⟩,by simp [intOf];omega⟩
      ·have hd:decide (k < n3) = false:=by simpa using hlt
       clear hb
       have HBS0:=HBW
       go_wp2_with fail
       go_ret
       exact ⟨rfl,HG2.out.of_below HBW.out⟩
theorem getD_in {α:Type} {l:List α} {k:Nat} {d:α} (h:k < l.length):l.getD k d = l[k]:=by rw [List.getD_eq_getElem?_getD,List.getElem?_eq_getElem h];rfl
theorem chk_of {v:Vec} (h1:v.T = 1 → v.is.any badBool = false) (h2:v.ts.any tooLong = false):chk v = 0:=by
 unfold chk
 rw [if_neg (fun h => by rw [h1 h.1] at h;exact absurd h.2 (by simp)),if_neg (by rw [h2];simp)]
end Go.Proofs.YthmipnokimlbdaaGreat
namespace Go.Proofs.YthmipnokimlbdaaGreat
open Go.RowKit
set_option maxHeartbeats 4000000 in
theorem rtexts12_any (A:Option Addr) (c:Nat) (b:List UInt8) (o n:Nat) (w:World) (hb:IsBytes w (.slice A b.length c) b) (hlc:b.length ≤ c) (hl:b.length ≤ 1000000) (ho:o ≤ b.length) (hn:n ≤ 65536) :
 Calls Tryz.prog 62 #[.slice A b.length c,.int .i64 (o:Int),.int .i64 (n:Int)] w (RsR (pdTs b n [] o) w):=by
 have HV:=Hd hb
 have HDC:=Hd (fun (q:Nat) (W:World) (hW:Grows w W) (hq:q ≤ b.length) => rdecode_any (.slice A b.length c) b q W (hb.grow hW) (by unfold maxLen;omega) (by omega) (by omega))
 obtain ⟨R,hR⟩:∃ R,R = pdTs b n [] o:=⟨_,rfl⟩
 rw [← hR]
 have HR:=Hd hR.symm
 have HO:=Hd ho
 clear hb hR ho
 go_enter Tryz.func62,Tryz.ntmps62
 go_wp2_with fail
 go_loopw [1,9,10,11,12,13] (fun off vs i u1 u2 u3 wr => DTRelEn5 w b n R off vs i wr) (fun _ _ i _ _ _ _ => n - (intOf i).toNat)
 case atStart => exact ⟨0,o,[],by omega,rfl,rfl,HO.out,rfl,World.ownsRow_nil _ _ _ _,HR.out,Below.refl _ _⟩
 case round =>
  obtain ⟨k,q,ws,hk,rfl,rfl,hq,hwl,hown,hres,hbw⟩:=hrel
  have HB:=Hd hbw
  have HOW:=Hd hown
  have HWL:=Hd hwl
  have HRES:=Hd hres
  obtain ⟨A2,c2,rfl⟩:=own_sliceS hown
  by_cases hlt:k < n
  ·obtain ⟨f,hf⟩:∃ f,n - k = f + 1:=⟨n - k - 1,by omega⟩
   have HF:=Hd (show n - (k + 1) = f by omega)
   rw [hf] at HRES
   have HD:=Hd (HDC.out q wr hbw hq)
   have HIS:=Hd (HV.out.grow hbw)
   have hsz:=hbw.size
   have HLN1:=Hd (show ws.length + 1 ≤ 1000000000000 by omega)
   by_cases h1:(dcd b q).2.2 = 0
   ·obtain ⟨m,k1,hd,hk1,_,_,hm64⟩:=dcd_acc11 hq h1
    obtain ⟨q2,hq2⟩:∃ q2,q2 = q + k1:=⟨_,rfl⟩
    rw [← hq2] at hd hk1
    rw [hd] at HD
    obtain ⟨Z,hZ⟩:∃ Z:Nat,Z = b.length - q2:=⟨_,rfl⟩
    have hZ1:(b.length:Int) - (q2:Int) = (Z:Int):=by omega
    have hZl:Z ≤ 1000000000:=by omega
    by_cases h2:m ≤ 4096
    ·have hd4:decide ((4096:Int) < (m:Int)) = false:=by simp;omega
     have hwm:IntKind.i64.wrap (m:Int) = (m:Int):=by rw [IntKind.wrap_i64];omega
     by_cases h3:q2 + m ≤ b.length
     ·have hrw:=rdW_ok hd h2 h3
      have HN:=Hd (show pdTs b f (ws ++ [cutB b q2 m]) ((q2 + m:Nat):Int) = R by
       have h:=HRES.out
       rw [pdTs_n (by rw [hrw]),hrw] at h
       exact h)
      obtain ⟨E,hE⟩:∃ E,E = q2 + m:=⟨_,rfl⟩
      have hPE:(q2:Int) + (m:Int) = (E:Int):=by omega
      rw [← hE] at HN
      obtain ⟨bb,ff,rfl⟩:=some_of_bytes HV.out (by omega)
      have hPL:q2 ≤ E:=by omega
      have hEl:E ≤ b.length:=by omega
      have HEL:=Hd hEl
      have HEN:=Hd (show E - q2 = m by omega)
      have hd3:decide (Z < m) = false:=by simp;omega
      have HCB:=Hd (show (b.drop q2).take m = cutB b q2 m from rfl)
      clear hown hbw hwl hres hf hd hq2 hZ h3 hrw hE h1 hq hk1
      go_wp2_with (first
       | (go_at_call 119;refine HD.out.mono ?_;rintro e w2 ⟨rfl,rfl⟩)
       | (refine wpList_slice_bytes rfl _ _ _ 29 5 rfl Tryz.underlying29 (by kernel_rfl) (by kernel_rfl) bb ff b c rfl HIS.out q2 E rfl rfl hPL hEl hlc ?_;rw [HEN.out];intro v9 hv9;have HV9:=Hd hv9;clear hv9)
       | (refine wpList_tostring rfl _ 29 9 5 rfl Tryz.underlying29 Tryz.underlying5 Tryz.underlying9 v9 _ rfl HV9.out ?_;rw [HCB.out])
       | (at_builtin;go_loud (refine wpList_append_s rfl _ _ rfl _ ws (by rfl) w.heap.size HOW.out w HB.out hsz _ _ rfl (by rfl) HLN1.out ?_);intro v5 w5 hown5 hb5;have HO5:=Hd hown5;have HB5:=Hd hb5;clear hown5 hb5))
      first
       | (go_roundw;(case rel => exact ⟨k + 1,E,_,by omega,by go_num,rfl,HEL.out,by rw [List.length_append,List.length_singleton,HWL.out],HO5.out,by rw [HF.out];exact HN.out,HB5.out⟩);(case measure => simp [intOf];omega))
       | exact ⟨⟨k + 1,E,_,by omega,by go_num,rfl,HEL.out,by rw [List.length_append,List.length_singleton,HWL.out],HO5.out,by rw [HF.out];exact HN.out,HB5.out⟩,by simp [intOf];omega⟩
     ·have hrw:=rdW_s (b:=b) (p:=q) (by rw [hd]) (by rw [hd];simp;omega) (by rw [hd];simp only [];omega)
      have HE:=Hd (show R = ([],0,2) by
       have h:=HRES.out
       rw [pdTs_e (by rw [hrw];simp),hrw] at h
       exact h.symm)
      have hd3:decide (Z < m) = true:=by simp;omega
      clear hown hbw hwl hres hf hd hq2 hZ h3 hrw h1 hq hk1
      go_wp2_with ((go_at_call 119;refine HD.out.mono ?_;rintro e w2 ⟨rfl,rfl⟩))
      go_ret3
      exact RsR.no HE.out HB.out
    ·have hd4:decide ((4096:Int) < (m:Int)) = true:=by simp;omega
     have hrw:=rdW_l (b:=b) (p:=q) (by rw [hd]) (by rw [hd];simp;omega)
     have HE:=Hd (show R = ([],0,3) by
      have h:=HRES.out
      rw [pdTs_e (by rw [hrw];simp),hrw] at h
      exact h.symm)
     clear hown hbw hwl hres hf hd hq2 hZ hrw h1 hq hk1 h2
     go_wp2_with ((go_at_call 119;refine HD.out.mono ?_;rintro e w2 ⟨rfl,rfl⟩))
     go_ret3
     exact RsR.no HE.out HB.out
   ·have hrw:=rdW_e (b:=b) (p:=q) h1
    have HE:=Hd (show R = ([],0,(dcd b q).2.2) by
     have h:=HRES.out
     rw [pdTs_e (by rw [hrw];exact h1),hrw] at h
     exact h.symm)
    have hne:((dcd b q).2.2 != 0) = true:=by simpa using h1
    generalize dcd b q = z at *
    obtain ⟨z1,z2,z3⟩:=z
    simp only [] at hne HD HE
    clear hown hbw hwl hres hf hrw h1 hq
    go_wp2_with ((go_at_call 119;refine HD.out.mono ?_;rintro e w2 ⟨rfl,rfl⟩))
    go_ret3
    exact RsR.no HE.out HB.out
  ·have HE:=Hd (show R = (ws,(q:Int),0) by
    have h:=HRES.out
    rw [show n - k = 0 by omega] at h
    exact h.symm)
   have HIS:=Hd (show IsS wr (.slice A2 ws.length c2) ws from Reads.of_own hown)
   clear hown hbw hwl hres hq
   go_wp2_with fail
   go_ret3
   exact RsR.of HE.out HIS.out HB.out
def RInR (r:List Int × Int × Int) (w:World) (e:Ending) (w':World):Prop:=
 ∃ v q,e = .returned (.tuple #[v,.int .i64 q,.int .i64 r.2.2]) ∧ (r.2.2 = 0 → q = r.2.1) ∧ IsI w' v r.1 ∧ Grows w w' ∧ IntB w' v
theorem RInR.err {r:List Int × Int × Int} {q f:Int} {w w':World} {k:Nat} (h:r = ([],0,f)) (hf:f ≠ 0) (hb:Grows w w'):RInR r w (.returned (.tuple #[.slice none 0 k,.int .i64 q,.int .i64 f])) w':=by
 subst h
 exact ⟨_,_,rfl,fun h => absurd h hf,Reads.nil_ _ k,hb,IntB.none_ _ _ _⟩
theorem RInR.of {r:List Int × Int × Int} {l:List Int} {q f:Int} {v:Value} {w w':World} (h:r = (l,q,f)) (hv:IsI w' v l) (hb:Grows w w') (hi:IntB w' v):RInR r w (.returned (.tuple #[v,.int .i64 q,.int .i64 f])) w':=by
 subst h
 exact ⟨_,_,rfl,fun _ => rfl,hv,hb,hi⟩
def RIPRel (w:World) (l:List Int) (out i:Value) (wr:World):Prop:=
 ∃ k:Nat,k ≤ l.length ∧ i = .int .i64 (k:Int) ∧ wr.ownsRow w.heap.size 2 1 out (l.take k).length (icells (l.take k)) ∧ Below w.heap.size w wr
set_option maxRecDepth 20000 in
set_option maxHeartbeats 8000000 in
theorem rints12I_any (A:Option Addr) (c:Nat) (b:List UInt8) (o n:Nat) (T:Int) (w:World) (hb:IsBytes w (.slice A b.length c) b) (hT:T ≠ 1) (hlc:b.length ≤ c) (hl:b.length ≤ 1000000) (ho:o ≤ b.length) (hn:n ≤ 65536) :
 Calls Tryz.prog 65 #[.slice A b.length c,.int .i64 (o:Int),.int .i64 T,.int .i64 (n:Int)] w (RInR (pdI b o n) w):=by
 have HV:=Hd hb
 have eT:(T == 1) = false:=by simpa using hT
 clear hT hb
 obtain ⟨S,hS⟩:∃ S:Nat,S = 8 * n:=⟨_,rfl⟩
 have hS1:(8:Int) * (n:Int) = (S:Int):=by omega
 obtain ⟨Z,hZ⟩:∃ Z:Nat,Z = b.length - o:=⟨_,rfl⟩
 have hZ1:(b.length:Int) - (o:Int) = (Z:Int):=by omega
 have hSl:S ≤ 1000000:=by omega
 have hZl:Z ≤ 1000000:=by omega
 by_cases hf:o + 8 * n ≤ b.length
 rotate_left
 ·have HE:=Hd (pdI_no hf)
  have hd:decide (Z < S) = true:=by simp;omega
  clear hf hS hZ
  go_enter Tryz.func65,Tryz.ntmps65
  go_wp2_with fail
  go_ret3
  exact RInR.err HE.out (by decide) (Below.refl _ _)
 have HE:=Hd (pdI_ok hf)
 have hd:decide (Z < S) = false:=by simp;omega
 have HLN:=Hd (plainL_length b o n)
 obtain ⟨l,hll⟩:∃ l,l = plainL b o n:=⟨_,rfl⟩
 have HG:=Hd (fun k (hk:k < (plainL b o n).length) => plainL_get hk)
 rw [← hll] at HE HLN
 have HLL:=Hd hll
 have HF:=Hd hf
 have HRD:=Hd (fun (q:Nat) W (h:Grows w W) (hq:q ≤ b.length) => rreadFixed_any (.slice A b.length c) b (q:Int) 8 W (HV.out.grow h) (by unfold maxLen;omega) (by omega) (by omega))
 obtain ⟨E,hE⟩:∃ E:Nat,E = o + 8 * n:=⟨_,rfl⟩
 have hE1:(o:Int) + (S:Int) = (E:Int):=by omega
 rw [← hE] at HE
 have HEE:=Hd hE
 clear hf hS hZ hll hE
 go_enter Tryz.func65,Tryz.ntmps65
 go_wp2_with fail
 go_loopw [12,16,17,18] (fun out i _ _ wr => RIPRel w l out i wr) (fun _ i _ _ _ => n - (intOf i).toNat)
 case atStart => exact ⟨0,by omega,rfl,World.ownsRow_nil _ _ _ _,Below.refl _ _⟩
 case round =>
  obtain ⟨k,hk,rfl,hown,hb⟩:=hrel
  have HB:=Hd hb
  have HO:=Hd hown
  clear hown
  rw [HLN.out] at hk
  by_cases hlt:k < n
  ·obtain ⟨p,hp⟩:∃ p:Nat,p = o + 8 * k:=⟨_,rfl⟩
   obtain ⟨r,hr⟩:∃ r:Nat,r = 8 * k:=⟨_,rfl⟩
   have hr1:(8:Int) * (k:Int) = (r:Int):=by omega
   have hp1:(o:Int) + (r:Int) = (p:Int):=by omega
   have hpl:p + 8 ≤ b.length:=by have:=HF.out;omega
   have HRF:=Hd (HRD.out p wr hb (by omega))
   rw [show rdf b (p:Int) 8 = ((le ((b.drop p).take 8):Int),0) from rdf_ok (s:=8) (by omega) (by omega) hpl] at HRF
   have hkl:k < l.length:=by rw [HLN.out];exact hlt
   have HTK:=Hd (List.take_succ_eq_append_getElem hkl)
   have hge:l[k] = toI (le ((b.drop p).take 8)):=by
    have h:=HG.out k (by rw [← HLL.out];exact hkl)
    rw [hp]
    rw [← h]
    congr 1
   rw [hge] at HTK
   have hx:=le_lt64 (l:=(b.drop p).take 8) (by rw [List.length_take];omega)
   have HTL:=Hd (show (l.take k).length = k by rw [List.length_take];omega)
   generalize l.take k = ps at *
   generalize le ((b.drop p).take 8) = x at *
   unfold toI at HTK
   have HW64:=Hd (fun x:Int => wrapi64 x)
   have hsz:=HB.out.size
   have hpb:p ≤ 1000000:=by omega
   clear hb hp hr hkl hge
   go_wp2_with (first
    | (go_at_call 125;refine HRF.out.mono ?_;rintro e w2 ⟨rfl,rfl⟩)
    | (at_builtin;go_loud (refine wpList_append_i rfl _ _ rfl _ ps (by rfl) w.heap.size HO.out _ HB.out hsz _ (by rfl) (by rw [HTL.out];omega) ?_);intro v3 w3 hown3 hb3;have HO3:=Hd hown3;have HB3:=Hd hb3;clear hown3 hb3))
   go_roundw
   case rel => exact ⟨k + 1,by rw [HLN.out];omega,by go_num,by rw [HTK.out];first | exact HO3.out | (rw [HW64.out];exact HO3.out),HB3.out⟩
   case measure => simp [intOf];omega
  ·have hke:l.take k = l:=List.take_of_length_le (by rw [HLN.out];omega)
   rw [hke] at HO
   have HRD2:=Hd (show IsI wr u12 l from Reads.of_own HO.out)
   have HTI:=Hd (FreshI.of_own HO.out).2
   clear hb hke
   go_wp2_with fail
   go_ret3
   exact RInR.of HE.out HRD2.out HB.out HTI.out
def RIBRel (w:World) (L:List Nat) (out i:Value) (wr:World):Prop:=
 ∃ k:Nat,k ≤ L.length ∧ i = .int .i64 (k:Int) ∧ wr.ownsRow w.heap.size 2 1 out ((L.take k).map toI).length (icells ((L.take k).map toI)) ∧ Below w.heap.size w wr
set_option maxRecDepth 20000 in
set_option maxHeartbeats 8000000 in
theorem rints12B_any (A:Option Addr) (c:Nat) (b:List UInt8) (o n:Nat) (w:World) (hb:IsBytes w (.slice A b.length c) b) (hlc:b.length ≤ c) (hl:b.length ≤ 1000000) (ho:o ≤ b.length) (hn:n ≤ 65536) :
 Calls Tryz.prog 65 #[.slice A b.length c,.int .i64 (o:Int),.int .i64 1,.int .i64 (n:Int)] w (RInR (pdB b o n) w):=by
 have hS:=rsize_any (n:Int) 1 w
 have hz:sizeI (n:Int) 1 = (szB n 1:Int):=by
  unfold sizeI
  rw [show okB (n:Int) 1 = true from okB_t (m:=1) (by omega) (by omega),if_pos rfl,Int.toNat_natCast]
  rfl
 rw [hz] at hS
 have hsz:=szB_le (n:=n) (w:=1) (by omega) (by omega)
 have HS:=Hd hS
 obtain ⟨Z,hZ⟩:∃ Z:Nat,Z = b.length - o:=⟨_,rfl⟩
 have hZ1:(b.length:Int) - (o:Int) = (Z:Int):=by omega
 have hZl:Z ≤ 1000000:=by omega
 by_cases hf:o + szB n 1 ≤ b.length
 rotate_left
 ·have HE:=Hd (show pdB b o n = ([],0,2) by unfold pdB;rw [if_neg hf])
  have hd:decide (Z < szB n 1) = true:=by simp;omega
  generalize pdB b o n = R at *
  generalize szB n 1 = S at *
  clear hf hZ hb hS hz
  go_enter Tryz.func65,Tryz.ntmps65
  go_wp2_with ((go_at_call 123;refine HS.out.mono ?_;rintro e w2 ⟨rfl,rfl⟩))
  go_ret3
  exact RInR.err HE.out (by decide) (Below.refl _ _)
 have hd:decide (Z < szB n 1) = false:=by simp;omega
 have hUN:=fun (Q:Nat) (h1:o ≤ Q) (h2:Q ≤ b.length) (AO:Option Addr) (w':World) (h:IsBytes w' (.slice AO (Q - o) (c - o)) (cutF b o (Q - o))) => runpack_any AO (c - o) (cutF b o (Q - o)) (n:Int) 1 w' (by rw [show (cutF b o (Q - o)).length = Q - o from cutB_length' (by omega)];exact h) (by rw [show (cutF b o (Q - o)).length = Q - o from cutB_length' (by omega)];omega)
 obtain ⟨Q,hQ⟩:∃ Q,Q = o + szB n 1:=⟨_,rfl⟩
 have hPE:(o:Int) + ((szB n 1:Nat):Int) = (Q:Int):=by omega
 obtain ⟨AO,hcb,hcut⟩:=cut_run A c b (O:=o) (Q:=Q) (by omega) (by omega) hlc (by omega)
 have HUN:=Hd (hUN Q (by omega) (by omega) AO w (hcb w hb))
 have hQs:Q - o = szB n 1:=by omega
 rw [show (cutF b o (Q - o)).length = Q - o from cutB_length' (by omega),show cutF b o (Q - o) = cutB b o (szB n 1) by rw [hQs];rfl,unE_cut hf hn] at HUN
 have hQb:Q ≤ b.length:=by omega
 by_cases hbad:badB (cutB b o (szB n 1)) n 1 = true
 ·rw [if_pos hbad] at HUN
  have hun:unpI (cutB b o (szB n 1)) (n:Int) 1 = []:=by
   unfold unpI
   rw [unE_cut hf hn,if_pos hbad]
   rfl
  rw [hun] at HUN
  have HE:=Hd (show pdB b o n = ([],0,4) by unfold pdB;rw [if_pos hf,if_pos hbad])
  generalize pdB b o n = R at *
  generalize szB n 1 = S at *
  generalize Q - o = K at *
  clear hb hS hz hsz hUN hf hQ hcb hbad hQs hun hZ
  go_enter Tryz.func65,Tryz.ntmps65
  go_wp2_with (first
   | (go_at_call 123;refine HS.out.mono ?_;rintro e w2 ⟨rfl,rfl⟩)
   | (go_at_call 124;refine HUN.out.mono ?_;rintro e w3 ⟨u,rfl,g3,hu3⟩;obtain ⟨A3,c3,rfl⟩:=hu3.slice_;simp only [List.length_nil];have HG3:=Hd g3;clear g3 hu3))
  go_loopw [12,15] (fun out i wr => out = .slice none 0 0 ∧ i = .int .i64 0 ∧ Grows w wr) (fun _ _ _ => 0)
  case atStart => exact ⟨rfl,rfl,HG3.out⟩
  case round =>
   obtain ⟨rfl,rfl,hg⟩:=hrel
   have HG:=Hd hg
   clear hg
   go_wp2_with fail
   go_ret3
   exact RInR.err HE.out (by decide) HG.out
 ·rw [if_neg hbad] at HUN
  have hun:unpI (cutB b o (szB n 1)) (n:Int) 1 = unpL (cutB b o (szB n 1)) n 1:=by
   unfold unpI
   rw [unE_cut hf hn,if_neg hbad,if_pos rfl,Int.toNat_natCast]
   rfl
  rw [hun] at HUN
  have HE:=Hd (show pdB b o n = ((unpL (cutB b o (szB n 1)) n 1).map toI,(Q:Int),0) by unfold pdB;rw [if_pos hf,if_neg hbad,hQ])
  have hul:=unpL_length (cutB b o (szB n 1)) n 1
  generalize unpL (cutB b o (szB n 1)) n 1 = L at *
  subst hul
  have HW64:=Hd (fun x:Int => wrapi64 x)
  generalize pdB b o L.length = R at *
  generalize szB L.length 1 = S at *
  generalize Q - o = K at *
  clear hb hS hz hsz hUN hf hQ hcb hbad hQs hun hZ
  go_enter Tryz.func65,Tryz.ntmps65
  go_wp2_with (first
   | (go_at_call 123;refine HS.out.mono ?_;rintro e w2 ⟨rfl,rfl⟩)
   | (go_at_call 124;refine HUN.out.mono ?_;rintro e w3 ⟨u,rfl,g3,hu3⟩;have HG3:=Hd g3;have HU3:=Hd hu3;obtain ⟨A3,c3,rfl⟩:=hu3.slice_;clear g3 hu3))
  go_loopw [12,15] (fun out i wr => RIBRel w3 L out i wr) (fun _ i _ => L.length - (intOf i).toNat)
  case atStart => exact ⟨0,by omega,rfl,World.ownsRow_nil _ _ _ _,Below.refl _ _⟩
  case round =>
   obtain ⟨k,hk,rfl,hown,hb⟩:=hrel
   have HB:=Hd hb
   have HO:=Hd hown
   clear hown hb
   by_cases hlt:k < L.length
   ·obtain ⟨b2,f2,rfl,hck⟩:=(HU3.out.grow HB.out).at_ hlt
    have HTK:=Hd (show (L.take (k + 1)).map toI = (L.take k).map toI ++ [toI L[k]] by rw [List.take_succ_eq_append_getElem hlt,List.map_append];rfl)
    have HTL:=Hd (show ((L.take k).map toI).length = k by rw [List.length_map,List.length_take];omega)
    unfold toI at HTK
    change Hid (List.map toI _ = List.map toI _ ++ _) at HTK
    generalize (L.take k).map toI = ps at *
    generalize L[k] = x at *
    have hsz:=HB.out.size
    go_wp2_with ((at_builtin;go_loud (refine wpList_append_i rfl _ _ rfl _ ps (by rfl) w3.heap.size HO.out _ HB.out hsz _ (by rfl) (by rw [HTL.out];omega) ?_);intro v4 w4 hown4 hb4;have HO4:=Hd hown4;have HB4:=Hd hb4;clear hown4 hb4))
    go_roundw
    case rel => exact ⟨k + 1,by omega,by go_num,by rw [HTK.out];first | exact HO4.out | (rw [HW64.out];exact HO4.out),HB4.out⟩
    case measure => simp [intOf];omega
   ·have hke:L.take k = L:=List.take_of_length_le (by omega)
    rw [hke] at HO
    have HRD2:=Hd (show IsI wr u12 (L.map toI) from Reads.of_own HO.out)
    have HTI:=Hd (FreshI.of_own HO.out).2
    have HG5:=Hd (HG3.out.of_below HB.out)
    clear hke
    go_wp2_with fail
    go_ret3
    exact RInR.of HE.out HRD2.out HG5.out HTI.out
end Go.Proofs.YthmipnokimlbdaaGreat
