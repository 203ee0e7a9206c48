/-
  Texts that the claims of this seat share, put together (Fc6, Fr1, Rl2, Fc7, Rl3, Rl4, Rl5, Rl6, Rl7, FcA). No condition.
-/
import Derived.Test.YthmipnokimlbdaaGreatM11
import Derived.Test.YthmipnokimlbdaaGreatM12
import Derived.Test.YthmipnokimlbdaaGreatM1
import Derived.Test.YthmipnokimlbdaaGreatM5
import Derived.Test.YthmipnokimlbdaaGreatM2
import Derived.Test.YthmipnokimlbdaaGreatM6
import Derived.Lib.MinMax
import Derived.WalkKit
import Derived.Outline
import Derived.OwnWalk
import Derived.Deep.QuietTactic
import Derived.BigQuiet
import Derived.Test.YthmipnokimlbdaaGreatM10
import Derived.Maps.AppendAt
import Derived.Test.YthmipnokimlbdaaGreatCat
set_option linter.unusedVariables false
set_option linter.unusedSimpArgs false
namespace Go.Proofs.YthmipnokimlbdaaGreat
open Go.RowKit
theorem row_keeps {wr w':World} {b g n sz:Nat} {e E:TypeId} {v:Value} {xs ys:List Value} (hown:wr.ownsRow b e sz v n xs) (hg:wr.grownBy w' v.ownBlock) (hr:Row wr g E ys) (hne:E ≠ e):Row w' g E ys:=by
 refine (hg.block g hr.lt ?_).trans hr
 intro he
 rcases hown.2 with ⟨rfl,_⟩ | ⟨g',cap,cur,rfl,_,h1,_⟩
 ·cases he
 ·simp only [Value.ownBlock,Option.some.injEq] at he
  subst he
  unfold Row at hr
  rw [h1] at hr
  injection hr with hr
  injection hr with _ h2 _
  exact hne h2.symm
theorem own_set {w:World} {base B i n:Nat} {e E:TypeId} {v:Value} {xs ys:List Value} (h:w.ownsRow base e 1 v n xs) (hr:Row w B E ys) (hne:E ≠ e) (u:Value):(w.setCell ⟨B,i,none⟩ u).ownsRow base e 1 v n xs:=by
 refine ⟨h.1,?_⟩
 rcases h.2 with h0 | ⟨g,cap,cur,h1,h2,h3,h4⟩
 ·exact .inl h0
 ·refine .inr ⟨g,cap,cur,h1,h2,?_,h4⟩
  rw [Below.heap_setCell]
  ·exact h3
  ·intro hg
   have hg2:g = B:=hg
   subst hg2
   unfold Row at hr
   rw [h3] at hr
   injection hr with hr
   injection hr with _ h2 _
   exact hne h2.symm
theorem wpList_append_sk {wr:World} {ops:Array Oper} {rest:List Oper} {o:Oper} {a:Act} {Q:Exit → Act → World → Prop} (hgd:o.guard = none) (s x:Operand)
 (ho:o.op = .call { callee:=.builtin .append,args:=#[s,x],argTypes:=#[23,23] })
 (v:Value) (pre:List Str) (hs:a.eval s = v) (base:Nat) (hown:wr.ownsRow base 9 1 v pre.length (scells pre)) (w0:World) (hb:Below base w0 wr) (hbase:base ≤ wr.heap.size)
 (z:Str) (b:ByteArray) (hz:b = strOf z) (hx:a.eval x = .slice (some ⟨wr.heap.size,0,none⟩) 1 1) (hlen:pre.length + 1 ≤ 1000000000000)
 (h:∀ v' w',w'.ownsRow base 9 1 v' (pre ++ [z]).length (scells (pre ++ [z])) → Below base w0 w' → (∀ g E ys,E ≠ 9 → Row wr g E ys → Row w' g E ys) → wpList Tryz.prog ops Q rest (a.put o.dst v') w') :
 wpList Tryz.prog ops Q (o :: rest) a (wr.alloc (.cells #[.string b] 9)):=by
 subst hz
 obtain ⟨i0,hi,hz0,hz1,hz2⟩:=info_parts info_str
 refine wpList_append_own _ hgd s x 23 ho base 9 i0 (.string ⟨#[]⟩) 1 16 Tryz.underlying23 hi hz0 hz1 hz2 rfl (by decide) v pre.length (scells pre) hs (hown.alloc _) ⟨wr.heap.size,0,none⟩ 1 1 [.string (strOf z)] hx rfl ?_ ?_ ?_ ?_ ?_ ?_
 ·intro j u hj
  match j,hj with
  | 0,hj => simp at hj;subst hj;simp [Addr.add]
 ·intro u hu;simp at hu;subst hu;rfl
 ·unfold maxLen;omega
 ·omega
 ·simp;omega
 ·intro v' w' h1 h2 _
  rw [← scells_snoc,show pre.length + 1 = (pre ++ [z]).length by simp] at h1
  exact h v' w' h1 ((hb.alloc hbase _).grown h2 (by simp;omega) (fun k hk => (hown.lt k hk).1))
   (fun g E ys hne hr => row_keeps (hown.alloc _) h2 (hr.grow (growA _)) hne)
theorem own_shape {w:World} {base:Nat} {e:TypeId} {v:Value} {l:List Str} (h:w.ownsRow base e 1 v l.length (scells l)):∃ A c N,N = l.length ∧ v = .slice A N c:=by
 obtain ⟨A,c,h⟩:=own_sliceS h
 exact ⟨A,c,_,rfl,h⟩
structure DecSt (w0:World) (B:Nat) (ws:List Str) (W:World):Prop where
 gr:Grows w0 W
 hB:w0.heap.size ≤ B
 var:∃ v,Row W B 23 [v] ∧ W.ownsRow w0.heap.size 9 1 v ws.length (scells ws)
theorem DecSt.keep {w0 W W':World} {B:Nat} {ws:List Str} (h:DecSt w0 B ws W) (hg:Grows W W'):DecSt w0 B ws W':=by
 obtain ⟨v,h1,h2⟩:=h.var
 exact ⟨h.gr.of_below hg,h.hB,v,h1.grow hg,own_growS h2 hg⟩
set_option maxHeartbeats 2000000 in
theorem dec_lit_any (w0:World) (B:Nat) (ws:List Str) (s:Str) (W:World) (h:DecSt w0 B ws W) (hl:ws.length ≤ 65536) :
 Calls Tryz.prog 175 #[.string (strOf s),.pointer (some ⟨B,0,none⟩)] W fun e W' => (∃ x,e = .returned x) ∧ DecSt w0 B (ws ++ [s]) W':=by
 obtain ⟨v,hr,ho⟩:=h.var
 have hc:=hr.cell 0
 simp only [List.getElem?_cons_zero] at hc
 have HR:=Hd hr
 have HO:=Hd ho
 have HG:=Hd h.gr
 have hsz:=h.gr.size
 have HHB:=Hd h.hB
 have HL:=Hd (show ws.length + 1 ≤ 1000000000000 by omega)
 clear h hr ho hl
 go_enter Tryz.func175,Tryz.ntmps175
 go_wp2_with ((at_builtin;go_loud (refine wpList_append_sk rfl _ _ rfl _ ws (by rfl) w0.heap.size HO.out w0 HG.out hsz s _ rfl (by rfl) HL.out ?_);intro v5 w5 hown5 hb5 hk5;obtain ⟨A5,d5,N5,hN5,rfl⟩:=own_shape hown5;rw [← hN5] at hown5;have HN5:=Hd hN5;clear hN5;have HO5:=Hd hown5;have HB5:=Hd hb5;have HR5:=Hd (hk5 B 23 [v] (by decide) HR.out);have f5:=HR5.out.frozen 0;have c5:=HR5.out.cell 0;simp only [List.getElem?_cons_zero] at c5;clear hown5 hb5 hk5))
 go_end0
 exact ⟨⟨_,rfl⟩,HB5.out.setCell (p:=⟨B,0,none⟩) HHB.out _,HHB.out,.slice A5 N5 d5,HR5.out.set_ 0 _,by rw [← HN5.out];exact own_set HO5.out HR5.out (by decide) _⟩
structure AtSt (w0:World) (B:Nat) (ws:List Str) (W:World):Prop where
 gr:Grows w0 W
 hB:w0.heap.size ≤ B
 var:Row W B 9 [.string (strOf (ws.getD (ws.length - 1) []))]
theorem AtSt.keep {w0 W W':World} {B:Nat} {ws:List Str} (h:AtSt w0 B ws W) (hg:Grows W W'):AtSt w0 B ws W':=⟨h.gr.of_below hg,h.hB,h.var.grow hg⟩
theorem prvL_snoc {ws:List Str} {s:Str} {j:Nat} (hj:ws.length = j) (h:(j + 1) % 16 ≠ 0):s = prvL (ws ++ [s]):=by
 unfold prvL prvAt
 rw [List.length_append,List.length_singleton,hj,if_neg h,Nat.add_sub_cancel,← hj]
 have h:(ws ++ [s]).getD (ws.length + 0) [] = [s].getD 0 []:=getD_append_r
 rw [Nat.add_zero] at h
 rw [h]
 rfl
def VisR (w0:World) (St:List Str → World → Prop) (R:List Str × Int × Int) (e:Ending) (w':World):Prop:=e = .returned (.tuple #[.int .i64 R.2.1,.int .i64 R.2.2]) ∧ Grows w0 w' ∧ (R.2.2 = 0 → St R.1 w')
theorem VisR.err {w0 w':World} {St:List Str → World → Prop} {R:List Str × Int × Int} {f:Int} (h:R = ([],0,f)) (hf:f ≠ 0) (hg:Grows w0 w'):VisR w0 St R (.returned (.tuple #[.int .i64 0,.int .i64 f])) w':=by
 subst h
 exact ⟨rfl,hg,fun h => absurd h hf⟩
def VisRel (b:List UInt8) (n:Nat) (R:List Str × Int × Int) (St:List Str → World → Prop) (off prev i:Value) (wr:World):Prop:=
 ∃ (j q:Nat) (ws:List Str) (pv:Str),j ≤ n ∧ i = .int .i64 (j:Int) ∧ off = .int .i64 (q:Int) ∧ prev = .string (strOf pv) ∧ q ≤ b.length ∧ ws.length = j ∧ pv.length ≤ q ∧ (j % 16 ≠ 0 → pv = prvL ws) ∧ rdFs b (n - j) ws q = R ∧ St ws wr
set_option maxRecDepth 8000 in
set_option maxHeartbeats 4000000 in
theorem visit_any (F:FuncId) (hF:∀ args W,(callFunc F args).run Tryz.prog W = .ok (.enter F args) W) (c1:Value) (St:List Str → World → Prop) (w0 w:World) (A:Option Addr) (c:Nat) (b:List UInt8) (o n:Nat) (hb:IsBytes w0 (.slice A b.length c) b) (hlc:b.length ≤ c) (hl:b.length ≤ 1000000000) (ho:o ≤ b.length) (hn:n ≤ 65536) (hst:St [] w)
 (hgr:∀ ws W,St ws W → Grows w0 W) (hkeep:∀ ws W W',St ws W → Grows W W' → St ws W')
 (hcall:∀ ws s W,St ws W → ws.length ≤ 65536 → Calls Tryz.prog F #[.string (strOf s),c1] W fun e W' => (∃ x,e = .returned x) ∧ St (ws ++ [s]) W') :
 Calls Tryz.prog 176 #[.slice A b.length c,.int .i64 (o:Int),.int .i64 (n:Int),.func (.func F) #[] #[c1]] w (VisR w0 St (rdFs b n [] o)):=by
 have HV:=Hd hb
 have HLC:=Hd hlc
 have HGR:=Hd hgr
 have HKEEP:=Hd hkeep
 have HCALL:=Hd hcall
 have HST:=Hd hst
 obtain ⟨R,hR⟩:∃ R,R = rdFs b n [] o:=⟨_,rfl⟩
 rw [← hR]
 have HR:=Hd hR
 have HO:=Hd ho
 clear hb hlc hgr hkeep hcall hst hR ho
 go_enter Tryz.func176,Tryz.ntmps176
 go_wp2_with fail
 go_loopw [1,10,16] (fun off prev i wr => VisRel b n R St off prev i wr) (fun _ _ i _ => n - (intOf i).toNat)
 case atStart => exact ⟨0,o,[],[],by omega,rfl,rfl,rfl,HO.out,rfl,Nat.zero_le _,fun h => absurd rfl h,HR.out.symm,HST.out⟩
 case round =>
  obtain ⟨j,q,ws,pv,hj,rfl,rfl,rfl,hq,hwl,hpv,hpp,hres,hst⟩:=hrel
  have HWL:=Hd hwl
  have HPP:=Hd hpp
  have HRES:=Hd hres
  have HS:=Hd hst
  have HQ:=Hd hq
  clear hwl hpp hres hst
  by_cases hlt:j < n
  ·obtain ⟨f,hf⟩:∃ f,n - j = f + 1:=⟨n - j - 1,by omega⟩
   have HF:=Hd (show n - (j + 1) = f by omega)
   rw [hf] at HRES
   obtain ⟨rb,hrb⟩:∃ rb,rb = decide (j % 16 = 0):=⟨_,rfl⟩
   have HRS:=Hd (isRestart_any j wr (by omega))
   rw [← hrb] at HRS
   have hpq:(if rb then [] else pv) = prvL ws:=by
    rw [hrb]
    by_cases h0:j % 16 = 0
    ·unfold prvL prvAt
     rw [HWL.out,if_pos h0,decide_eq_true h0]
     rfl
    ·rw [decide_eq_false h0,← HPP.out h0]
     rfl
   have hpl:(prvL ws).length ≤ q:=by
    rw [← hpq];cases rb <;> simp <;> omega
   have HRD:=Hd (readString_any A c b q pv rb wr (HV.out.grow (HGR.out _ _ HS.out)) HLC.out hl hq (by omega))
   rw [hpq] at HRD
   by_cases he:(rdF b q (prvL ws)).2.2 = 0
   ·obtain ⟨s,k,hrw,hk,_,hsl⟩:=rdF_acc hq he
    have HN2:=Hd (show rdFs b f (ws ++ [s]) ((q + k:Nat):Int) = R by
     have h2:=HRES.out
     rw [rdFs_n hrw] at h2
     exact h2)
    rw [hrw] at HRD
    obtain ⟨q4,hq4⟩:∃ q4,q4 = q + k:=⟨_,rfl⟩
    rw [← hq4] at HRD HN2 hk
    have HQ4:=Hd (show s.length ≤ q4 by omega)
    clear he hf hrw hq4 hpq hpl hpv hrb hsl
    go_wp2_with fail
    refine HRS.out.mono ?_
    rintro e w2 ⟨rfl,rfl⟩
    go_wp2_with fail
    refine HRD.out.mono ?_
    rintro e w3 ⟨rfl,g3⟩
    have HCL:=Hd (HCALL.out ws s w3 (HKEEP.out _ _ _ HS.out g3) (by rw [HWL.out];omega))
    clear g3
    go_wp2_with fail
    refine HCL.out.mono ?_
    rintro e w4 ⟨⟨x,rfl⟩,hst4⟩
    have HS4:=Hd hst4
    clear hst4
    go_wp2_with fail
    first
     | exact ⟨⟨j + 1,q4,ws ++ [s],s,by omega,by go_num,rfl,rfl,hk,by rw [List.length_append,List.length_singleton,HWL.out],HQ4.out,prvL_snoc HWL.out,by rw [HF.out];exact HN2.out,HS4.out⟩,by simp [intOf];omega⟩
     | (go_roundw;(case rel => exact ⟨j + 1,q4,ws ++ [s],s,by omega,by go_num,rfl,rfl,hk,by rw [List.length_append,List.length_singleton,HWL.out],HQ4.out,prvL_snoc HWL.out,by rw [HF.out];exact HN2.out,HS4.out⟩);(case measure => simp [intOf];omega))
   ·have HN2:=Hd (show R = ([],0,(rdF b q (prvL ws)).2.2) by
     have h2:=HRES.out
     rw [rdFs_e he] at h2
     exact h2.symm)
    have hne:((rdF b q (prvL ws)).2.2 != 0) = true:=by simpa using he
    have HNE:=Hd he
    generalize rdF b q (prvL ws) = r at *
    obtain ⟨r1,r2,r3⟩:=r
    simp only [] at hne HRD HN2 HNE
    clear he hf hpq hpl hpv hrb
    go_wp2_with fail
    refine HRS.out.mono ?_
    rintro e w2 ⟨rfl,rfl⟩
    go_wp2_with fail
    refine HRD.out.mono ?_
    rintro e w3 ⟨rfl,g3⟩
    have HG3:=Hd ((HGR.out _ _ HS.out).of_below g3)
    clear g3
    go_wp2_with fail
    go_ret2
    exact VisR.err HN2.out HNE.out HG3.out
  ·have hje:n - j = 0:=by omega
   rw [hje] at HRES
   have HN2:=Hd (show R = (ws,(q:Int),0) from HRES.out.symm)
   clear hje hpv
   go_wp2_with fail
   go_ret2
   exact ⟨by rw [HN2.out];rfl,HGR.out _ _ HS.out,fun _ => by rw [HN2.out];exact HS.out⟩
end Go.Proofs.YthmipnokimlbdaaGreat
namespace Go.Proofs.YthmipnokimlbdaaGreat
set_option maxRecDepth 8000
open Go.RowKit
def IsI (w:World) (v:Value) (l:List Int):Prop:=Reads w v (icells l)
theorem IsI.grow {w w':World} {v:Value} {l:List Int} (h:IsI w v l) (hb:Grows w w'):IsI w' v l:=Reads.grow h hb
theorem IsI.slice_ {w:World} {v:Value} {l:List Int} (h:IsI w v l):∃ A c,v = .slice A l.length c:=by
 obtain ⟨A,c,h1,h2⟩:=Reads.slice_ h
 rw [icells_length] at h1
 exact ⟨A,c,h1⟩
theorem IsI.at_ {w:World} {A:Option Addr} {c n:Nat} {l:List Int} (h:IsI w (.slice A n c) l) {k:Nat} (hk:k < l.length):∃ b f,A = some ⟨b,f,none⟩ ∧ w.cell? ⟨b,f + k,none⟩ = some (.int .i64 l[k]):=by
 obtain ⟨A',c',he,_,hc⟩:=h
 injection he with e1 e2 e3
 subst e1
 obtain ⟨b,f,rfl,hcell⟩:=hc (by rw [icells_length];omega)
 refine ⟨b,f,rfl,?_⟩
 rw [hcell k (by rw [icells_length];exact hk),icells_get hk]
theorem info_i64:(Tryz.prog.info? 2).map (fun i => (i.zero,i.size,i.bytes)) = some (some (.int .i64 0),1,8):=by kernel_rfl
theorem info_u64:(Tryz.prog.info? 85).map (fun i => (i.zero,i.size,i.bytes)) = some (some (.int .u64 0),1,8):=by kernel_rfl
theorem retI {k:IntKind} {a b:Int} (h:a = b):Ending.returned (.int k a) = .returned (.int k b):=by rw [h]
theorem fr_draws {B:Nat} {a w:World} (h:Below B a w) (d:Nat):Below B a { w with drawn:=d }:=⟨h.os,h.tape,h.output,h.size,h.block⟩
def MinRel (l:List Int) (m i:Value):Prop:=∃ k:Nat,1 ≤ k ∧ k ≤ l.length ∧ i = .int .i64 (k:Int) ∧ m = .int .i64 (baseV (l.take k))
set_option maxHeartbeats 1000000 in
theorem slicesMin_any (v:Value) (l:List Int) (w:World) (hv:IsI w v l) (h0:0 < l.length) (hl:l.length ≤ 9223372036854775806) :
 Calls Tryz.prog 220 #[v] w fun e w' => e = .returned (.int .i64 (baseV l)) ∧ w = w':=by
 obtain ⟨A,c,rfl⟩:=hv.slice_
 have HV:=Hd hv
 obtain ⟨b,f,rfl,hc⟩:=hv.at_ h0
 have hd:decide ((l.length:Int) < 1) = false:=by simp;omega
 have HF:=Hd (baseV_first h0)
 have H0:=Hd h0
 simp only [Nat.add_zero] at hc
 clear hv
 go_enter Tryz.func220,Tryz.ntmps220
 go_wp2_with fail
 go_loop [3,4] (fun m i => MinRel l m i) (fun _ i => l.length - (intOf i).toNat)
 case atStart => exact ⟨1,by omega,H0.out,rfl,by rw [HF.out]⟩
 case round =>
  obtain ⟨k,hk1,hk,rfl,rfl⟩:=hrel
  by_cases hlt:k < l.length
  ·obtain ⟨b',f',he,hck⟩:=HV.out.at_ hlt
   injection he with he
   injection he with e1 e2 e3
   subst e1 e2
   have HT:=Hd (baseV_take hlt hk1)
   clear hc hd
   go_wp2_with fail
   go_round
   case rel => exact ⟨k + 1,by omega,by omega,by go_num,by rw [HT.out]⟩
   case measure => simp [intOf];omega
  ·have hke:k = l.length:=by omega
   have HT:=Hd (show baseV (l.take k) = baseV l by rw [hke,List.take_length])
   clear hc hd hk hke
   go_wp2_with fail
   go_ret
   exact ⟨retI HT.out,rfl⟩
set_option maxHeartbeats 1000000 in
theorem least_any (v:Value) (l:List Int) (w:World) (hv:IsI w v l) (hl:l.length ≤ 9223372036854775806) :
 Calls Tryz.prog 201 #[v] w fun e w' => e = .returned (.int .i64 (baseV l)) ∧ w = w':=by
 by_cases h0:0 < l.length
 ·have HM:=Hd (slicesMin_any v l w hv h0 hl)
  obtain ⟨A,c,rfl⟩:=hv.slice_
  have hd:((l.length:Int) == 0) = false:=by simp;intro h;subst h;simp at h0
  clear hv h0
  go_enter Tryz.func201,Tryz.ntmps201
  go_wp2_with fail
  refine HM.out.mono ?_
  rintro e w' ⟨rfl,rfl⟩
  go_wp2_with fail
  go_ret
  exact ⟨rfl,rfl⟩
 ·have hl0:l = []:=List.eq_nil_of_length_eq_zero (by omega)
  subst hl0
  obtain ⟨A,c,rfl⟩:=hv.slice_
  go_enter Tryz.func201,Tryz.ntmps201
  go_wp2_with fail
  go_ret
  exact ⟨rfl,rfl⟩
def LeastRel (l:List Int) (m i:Value):Prop:=∃ k:Nat,k ≤ l.length ∧ i = .int .i64 (k:Int) ∧ m = .int .i64 (baseV (l.take k))
set_option maxHeartbeats 1000000 in
theorem rleast_any (v:Value) (l:List Int) (w:World) (hv:IsI w v l) (hl:l.length ≤ 9223372036854775806) :
 Calls Tryz.prog 178 #[v] w fun e w' => e = .returned (.int .i64 (baseV l)) ∧ w = w':=by
 obtain ⟨A,c,rfl⟩:=hv.slice_
 have HV:=Hd hv
 clear hv
 go_enter Tryz.func178,Tryz.ntmps178
 go_wp2_with fail
 go_loop [3,4] (fun m i => LeastRel l m i) (fun _ i => l.length - (intOf i).toNat)
 case atStart => exact ⟨0,by omega,rfl,rfl⟩
 case round =>
  obtain ⟨k,hk,rfl,rfl⟩:=hrel
  by_cases hlt:k < l.length
  ·obtain ⟨b,f,rfl,hck⟩:=HV.out.at_ hlt
   by_cases hk0:k = 0
   ·subst hk0
    have HT:=Hd (baseV_first hlt)
    simp only [Nat.add_zero] at hck
    go_wp2_with fail
    go_round
    case rel => exact ⟨1,by omega,by go_num,by rw [HT.out]⟩
    case measure => simp [intOf];omega
   ·have HT:=Hd (baseV_take hlt (by omega))
    have hz:((k:Int) == 0) = false:=by simp;omega
    generalize baseV (l.take k) = m0 at *
    by_cases hm:l[k] < m0
    ·have HM:=Hd (show min m0 l[k] = l[k] by omega)
     have hd:decide (l[k] < m0) = true:=by simpa using hm
     clear hm
     go_wp2_with fail
     go_round
     case rel => exact ⟨k + 1,by omega,by go_num,by rw [HT.out,HM.out]⟩
     case measure => simp [intOf];omega
    ·have HM:=Hd (show min m0 l[k] = m0 by omega)
     have hd:decide (l[k] < m0) = false:=by simpa using hm
     clear hm
     go_wp2_with fail
     go_round
     case rel => exact ⟨k + 1,by omega,by go_num,by rw [HT.out,HM.out]⟩
     case measure => simp [intOf];omega
  ·have hke:k = l.length:=by omega
   have HT:=Hd (show baseV (l.take k) = baseV l by rw [hke,List.take_length])
   clear hk hke
   go_wp2_with fail
   go_ret
   exact ⟨retI HT.out,rfl⟩
theorem dif_wrap (x b:Int):IntKind.u64.wrap (IntKind.u64.wrap x - IntKind.u64.wrap b) = ((difN b x:Nat):Int):=by
 rw [IntKind.wrap_u64,IntKind.wrap_u64,IntKind.wrap_u64]
 unfold difN
 omega
theorem difference_any (x b:Int) (w:World):Calls Tryz.prog 148 #[.int .i64 x,.int .i64 b] w fun e w' => e = .returned (.int .u64 ((difN b x:Nat):Int)) ∧ w = w':=by
 have HD:=Hd (dif_wrap x b)
 go_enter Tryz.func148,Tryz.ntmps148
 go_wp2_with fail
 go_ret
 exact ⟨retI HD.out,rfl⟩
theorem sizeOfWidth_any (k:Nat) (w:World) (hk:k ≤ 1000):Calls Tryz.prog 221 #[.int .i64 (k:Int)] w fun e w' => e = .returned (.int .i64 ((vsw k:Nat):Int)) ∧ w = w':=by
 have HE:=Hd (show max 1 (((k:Int) + 7 - 1) / 7) = ((vsw k:Nat):Int) by unfold vsw;omega)
 go_enter Tryz.func221,Tryz.ntmps221
 go_wp2_with fail
 go_ret
 refine ⟨retI ?_,rfl⟩
 rw [← HE.out]
theorem varintSize_any (n:Nat) (w:World) (hn:n < 18446744073709551616):Calls Tryz.prog 203 #[.int .u64 (n:Int)] w fun e w' => e = .returned (.int .i64 ((esz n:Nat):Int)) ∧ w = w':=by
 have HB:=Hd (bitWidth_any (n:Int) w (by omega) (by omega))
 have HS:=Hd (sizeOfWidth_any (Lib.bitLen n) w (by have:=bitLen_bd hn;omega))
 rw [Int.toNat_natCast] at HB
 have HE:=Hd (esz_vsw n)
 go_enter Tryz.func203,Tryz.ntmps203
 go_wp2_with fail
 refine HB.out.mono ?_
 rintro e w' ⟨rfl,rfl⟩
 go_wp2_with fail
 refine HS.out.mono ?_
 rintro e w' ⟨rfl,rfl⟩
 go_wp2_with fail
 go_ret
 exact ⟨retI (by rw [HE.out]),rfl⟩
theorem KeepsRows.row {e:TypeId} {w w':World} (h:KeepsRows e w w') {g:Nat} {E:TypeId} {ys:List Value} (hne:E ≠ e) (hl:ys.length ≤ maxLen) (hr:Row w g E ys):Row w' g E ys:=by
 have h1:=h 0 E 1 _ _ _ hne (hr.own (base:=0) (Nat.zero_le _) hl)
 rcases h1.2 with ⟨h2,_⟩ | ⟨g',cap,cur,he,_,h3,_,_,h4,h5⟩
 ·cases h2
 ·injection he with e1 e2 e3
  injection e1 with e1
  injection e1 with e1 _ _
  subst e1
  subst e3
  unfold Row
  rw [h3]
  have:cur = ys.toArray:=by
   apply Array.ext'
   rw [← h5,List.take_of_length_le]
   rw [Array.length_toList,h4]
   omega
  rw [this]
theorem own_grow {w w':World} {b:Nat} {e:TypeId} {sz:Nat} {v:Value} {n:Nat} {xs:List Value} (h:w.ownsRow b e sz v n xs) (hb:Grows w w'):w'.ownsRow b e sz v n xs:=by
 refine ⟨h.1,?_⟩
 rcases h.2 with h2 | ⟨g,cap,cur,h1,h2,h3,h4⟩
 ·exact .inl h2
 ·refine .inr ⟨g,cap,cur,h1,h2,?_,h4⟩
  rw [← h3]
  refine hb.block g ?_
  rcases Nat.lt_or_ge g w.heap.size with hlt | hge
  ·exact hlt
  ·rw [Array.getElem?_eq_none hge] at h3;cases h3
theorem wpList_append_ik {wr:World} {ops:Array Oper} {rest:List Oper} {o:Oper} {a:Act} {Q:Exit → Act → World → Prop} (hgd:o.guard = none) (s x:Operand)
 (ho:o.op = .call { callee:=.builtin .append,args:=#[s,x],argTypes:=#[22,22] })
 (v:Value) (pre:List Int) (hs:a.eval s = v) (base:Nat) (hown:wr.ownsRow base 2 1 v pre.length (icells pre)) (w0:World) (hb:Below base w0 wr) (hbase:base ≤ wr.heap.size)
 (z:Int) (hx:a.eval x = .slice (some ⟨wr.heap.size,0,none⟩) 1 1) (hlen:pre.length + 1 ≤ 17592186044416)
 (h:∀ v' w',w'.ownsRow base 2 1 v' (pre ++ [z]).length (icells (pre ++ [z])) → Below base w0 w' → KeepsRows 2 wr w' → wpList Tryz.prog ops Q rest (a.put o.dst v') w') :
 wpList Tryz.prog ops Q (o :: rest) a (wr.alloc (.cells #[.int .i64 z] 2)):=by
 obtain ⟨i0,hi,hz0,hz1,hz2⟩:=info_parts info_i64
 refine wpList_append_own _ hgd s x 22 ho base 2 i0 (.int .i64 0) 1 8 Tryz.underlying22 hi hz0 hz1 hz2 rfl (by decide) v pre.length (icells pre) hs (hown.alloc _) ⟨wr.heap.size,0,none⟩ 1 1 [.int .i64 z] hx rfl ?_ ?_ ?_ ?_ ?_ ?_
 ·intro j u hj
  match j,hj with
  | 0,hj => simp at hj;subst hj;simp [Addr.add]
 ·intro u hu;simp at hu;subst hu;rfl
 ·unfold maxLen;omega
 ·omega
 ·simp;omega
 ·intro v' w' h1 h2 _
  rw [← icells_snoc,show pre.length + 1 = (pre ++ [z]).length by simp] at h1
  exact h v' w' h1 ((hb.alloc hbase _).grown h2 (by simp;omega) (fun k hk => (hown.lt k hk).1)) (fun b e' s y n xs he hy => (hy.alloc _).kept h2 (ownsRow_ne hy hown he))
end Go.Proofs.YthmipnokimlbdaaGreat
namespace Go.Proofs.YthmipnokimlbdaaGreat
open Go.RowKit
def RsR (r:List Str × Int × Int) (w:World) (e:Ending) (w':World):Prop:=∃ v,e = .returned (.tuple #[v,.int .i64 r.2.1,.int .i64 r.2.2]) ∧ Grows w w' ∧ IsS w' v r.1
theorem RsR.err {r:List Str × Int × Int} {w w':World} {f:Int} (h:r = ([],0,f)) (hb:Grows w w'):RsR r w (.returned (.tuple #[.slice none 0 0,.int .i64 0,.int .i64 f])) w':=by
 subst h
 exact ⟨_,rfl,hb,Reads.nil_ _ 0⟩
theorem okF_true {b:List UInt8} {off n:Int} (h:okF b.length off n = true):∃ o N:Nat,off = (o:Int) ∧ n = (N:Int) ∧ o ≤ b.length ∧ N ≤ 65536 ∧ ¬ badF b off n:=by
 unfold okF at h
 simp only [decide_eq_true_eq] at h
 refine ⟨off.toNat,n.toNat,by omega,by omega,by omega,by omega,?_⟩
 unfold badF
 omega
theorem okF_false {b:List UInt8} {off n:Int} (h:okF b.length off n = false):badF b off n:=by
 unfold okF at h
 simp only [decide_eq_false_iff_not] at h
 unfold badF
 omega
theorem fcDec_bad {b:List UInt8} {off n:Int} (h:badF b off n):fcDec b off n = ([],0,1):=by unfold fcDec;rw [if_pos h]
theorem fcDec_ok {b:List UInt8} {off:Int} {N:Nat} (h:¬ badF b off (N:Int)):fcDec b off (N:Int) = rdFs b N [] off:=by unfold fcDec;rw [if_neg h,Int.toNat_natCast]
set_option maxRecDepth 8000 in
set_option maxHeartbeats 4000000 in
theorem fdecode_any (A:Option Addr) (c:Nat) (b:List UInt8) (off n:Int) (w:World) (hb:IsBytes w (.slice A b.length c) b) (hlc:b.length ≤ c) (hl:b.length ≤ 1000000000) :
 Calls Tryz.prog 103 #[.slice A b.length c,.int .i64 off,.int .i64 n] w (RsR (fcDec b off n) w):=by
 have hmf:∀ (fn:Fn) (first cap:Array Value) (w:World),(Instr.makeFunc fn first cap).run Tryz.prog w = .ok (.func fn first cap) w:=fun _ _ _ _ => rfl
 have HVA:=Hd (validArguments_any A b.length c off n w (by omega))
 cases hok:okF b.length off n
 ·have HE:=Hd (fcDec_bad (okF_false hok))
  rw [hok] at HVA
  clear hb hok
  go_enter Tryz.func103,Tryz.ntmps103
  go_wp2_with fail
  refine HVA.out.mono ?_
  rintro e w1 ⟨rfl,rfl⟩
  go_wp2_with fail
  go_ret3
  exact RsR.err HE.out (Below.refl _ _)
 ·rw [hok] at HVA
  obtain ⟨o,N,rfl,rfl,ho,hN,hbad⟩:=okF_true hok
  have HE:=Hd (fcDec_ok hbad)
  have HV:=Hd hb
  have HLC:=Hd hlc
  have HB0:=Hd (show Grows w ((w.alloc (.cells #[] 9)).alloc (.cells #[.slice (some ⟨w.heap.size,0,none⟩) 0 0] 23)) from ((Below.refl _ _).alloc (Nat.le_refl _) _).alloc (by simp) _)
  have HST:=Hd (show DecSt w (w.heap.size + 1) [] ((w.alloc (.cells #[] 9)).alloc (.cells #[.slice (some ⟨w.heap.size,0,none⟩) 0 0] 23)) from
   ⟨HB0.out,by omega,_,Row.at_ (w.alloc (.cells #[] 9)) 23 #[.slice (some ⟨w.heap.size,0,none⟩) 0 0] [.slice (some ⟨w.heap.size,0,none⟩) 0 0] rfl _ (by simp),own_growS (own_emptyS w (Nat.le_refl _)) (growA _)⟩)
  have HVI:=Hd (fun W (h:DecSt w (w.heap.size + 1) [] W) => visit_any 175 (fun _ _ => rfl) (.pointer (some ⟨w.heap.size + 1,0,none⟩)) (DecSt w (w.heap.size + 1)) w W A c b o N HV.out HLC.out hl ho hN h (fun _ _ h => h.gr) (fun _ _ _ h hg => h.keep hg) (fun ws s W h hw => dec_lit_any w _ ws s W h hw))
  obtain ⟨R,hR⟩:∃ R,R = rdFs b N [] o:=⟨_,rfl⟩
  rw [← hR] at HE HVI
  rw [HE.out]
  have HRE:=Hd (show R.2.2 ≠ 0 → R.1 = [] ∧ R.2.1 = 0 by rw [hR];exact rdFs_err N [] o)
  clear hb hok hbad hR HE
  go_enter Tryz.func103,Tryz.ntmps103
  go_wp2_with fail
  refine HVA.out.mono ?_
  rintro e w1 ⟨rfl,rfl⟩
  go_wp2_with fail
  refine (HVI.out _ HST.out).mono ?_
  rintro e w3 ⟨rfl,g3,hst3⟩
  have HG3:=Hd g3
  have HST3:=Hd hst3
  clear hmf g3 hst3
  obtain ⟨ws,q,f⟩:=R
  simp only [] at HST3
  by_cases hf:f = 0
  ·obtain ⟨v,hr,hown⟩:=(HST3.out hf).var
   subst hf
   have hc:=hr.cell 0
   simp only [List.getElem?_cons_zero] at hc
   have HS:=Hd (Reads.of_own hown)
   clear hr hown
   go_wp2_with fail
   go_ret3
   exact ⟨_,rfl,HG3.out,HS.out⟩
  ·have hne:(f != 0) = true:=by simpa using hf
   obtain ⟨h1,h2⟩:=HRE.out hf
   simp only [] at h1 h2
   subst h1 h2
   go_wp2_with fail
   go_ret3
   exact RsR.err rfl HG3.out
end Go.Proofs.YthmipnokimlbdaaGreat
namespace Go.Proofs.YthmipnokimlbdaaGreat
set_option maxRecDepth 8000
open Go.RowKit
theorem wpList_append_i {wr:World} {ops:Array Oper} {rest:List Oper} {o:Oper} {a:Act} {Q:Exit → Act → World → Prop} (hgd:o.guard = none) (s x:Operand)
 (ho:o.op = .call { callee:=.builtin .append,args:=#[s,x],argTypes:=#[22,22] })
 (v:Value) (pre:List Int) (hs:a.eval s = v) (base:Nat) (hown:wr.ownsRow base 2 1 v pre.length (icells pre)) (w0:World) (hb:Below base w0 wr) (hbase:base ≤ wr.heap.size)
 (z:Int) (hx:a.eval x = .slice (some ⟨wr.heap.size,0,none⟩) 1 1) (hlen:pre.length + 1 ≤ 17592186044416)
 (h:∀ v' w',w'.ownsRow base 2 1 v' (pre ++ [z]).length (icells (pre ++ [z])) → Below base w0 w' → wpList Tryz.prog ops Q rest (a.put o.dst v') w') :
 wpList Tryz.prog ops Q (o :: rest) a (wr.alloc (.cells #[.int .i64 z] 2)):=by
 obtain ⟨i0,hi,hz0,hz1,hz2⟩:=info_parts info_i64
 refine wpList_append_own _ hgd s x 22 ho base 2 i0 (.int .i64 0) 1 8 Tryz.underlying22 hi hz0 hz1 hz2 rfl (by decide) v pre.length (icells pre) hs (hown.alloc _) ⟨wr.heap.size,0,none⟩ 1 1 [.int .i64 z] hx rfl ?_ ?_ ?_ ?_ ?_ ?_
 ·intro j u hj
  match j,hj with
  | 0,hj => simp at hj;subst hj;simp [Addr.add]
 ·intro u hu;simp at hu;subst hu;rfl
 ·unfold maxLen;omega
 ·omega
 ·simp;omega
 ·intro v' w' h1 h2 _
  rw [← icells_snoc,show pre.length + 1 = (pre ++ [z]).length by simp] at h1
  exact h v' w' h1 ((hb.alloc hbase _).grown h2 (by simp;omega) (fun k hk => (hown.lt k hk).1))
def expI (l:List Rn):List Int:=if validR l then expR l else []
def expE (l:List Rn):Int:=if validR l then 0 else 4
def ExRI (l:List Int) (x:Int) (w:World) (e:Ending) (w':World):Prop:=∃ v,e = .returned (.tuple #[v,.int .i64 x]) ∧ Grows w w' ∧ IsI w' v l ∧ IntB w' v
def ExR (l:List Int) (x:Int) (w:World) (e:Ending) (w':World):Prop:=∃ v,e = .returned (.tuple #[v,.int .i64 x]) ∧ Grows w w' ∧ IsI w' v l
theorem rep_snoc (n:Nat) (x:Int) (l:List Int):l ++ List.replicate (n + 1) x = (l ++ List.replicate n x) ++ [x]:=by rw [List.replicate_succ',List.append_assoc]
theorem valid_pre {l:List Rn} (h:validR l = true) {j:Nat} (hj:j ≤ l.length):(expR (l.take j)).length ≤ 65536:=by
 have h1:=expR_length (l:=l.take j) fun x hx => valid_nonneg h x (List.mem_of_mem_take hx)
 have h2:=valid_sum h j hj
 omega
def RExRel (w:World) (l:List Rn) (out i:Value) (wr:World):Prop:=
 ∃ j:Nat,j ≤ l.length ∧ i = .int .i64 (j:Int) ∧ wr.ownsRow w.heap.size 2 1 out (expR (l.take j)).length (icells (expR (l.take j))) ∧ Below w.heap.size w wr
def RExIn (w:World) (pre:List Int) (x:Int) (n:Nat) (out k:Value) (wr:World):Prop:=
 ∃ j:Nat,j ≤ n ∧ k = .int .i64 (j:Int) ∧ wr.ownsRow w.heap.size 2 1 out (pre ++ List.replicate j x).length (icells (pre ++ List.replicate j x)) ∧ Below w.heap.size w wr
set_option maxHeartbeats 2000000 in
theorem rlexpandI_any (v:Value) (l:List Rn) (w:World) (hv:ReadsR w v l) (hl:l.length ≤ 9223372036854775806) :
 Calls Tryz.prog 70 #[v] w (ExRI (expI l) (expE l) w):=by
 have HV:=Hd hv
 have HVA:=Hd (rlvalid_any v l w hv hl)
 obtain ⟨A,c,rfl⟩:=hv.slice_
 clear hv
 cases hval:validR l
 ·have HE:=Hd (show expI l = [] by unfold expI;rw [hval];rfl)
  have HE2:=Hd (show expE l = 4 by unfold expE;rw [hval];rfl)
  rw [hval] at HVA
  clear hval
  go_enter Tryz.func70,Tryz.ntmps70
  go_wp2_with ((go_at_call 131;refine HVA.out.mono ?_;rintro e w2 ⟨rfl,g2⟩))
  go_ret2
  exact ⟨_,by rw [HE2.out];rfl,by assumption,by rw [HE.out];exact Reads.nil_ _ 0,IntB.none_ _ _ _⟩
 ·have HE:=Hd (show expI l = expR l by unfold expI;rw [hval];rfl)
  have HE2:=Hd (show expE l = 0 by unfold expE;rw [hval];rfl)
  have HVL:=Hd hval
  rw [hval] at HVA
  clear hval
  go_enter Tryz.func70,Tryz.ntmps70
  go_wp2_with ((go_at_call 131;refine HVA.out.mono ?_;rintro e w2 ⟨rfl,g2⟩;have HG2:=Hd g2;clear g2))
  go_loopw [4,5] (fun out i wr => RExRel w l out i wr) (fun _ i _ => l.length - (intOf i).toNat)
  case atStart => exact ⟨0,by omega,rfl,⟨rfl,.inl ⟨rfl,rfl⟩⟩,HG2.out⟩
  case round =>
   obtain ⟨j,hj,rfl,hown,hb⟩:=hrel
   have HB:=Hd hb
   have HOW:=Hd hown
   clear hown hb
   by_cases hlt:j < l.length
   ·have HTK:=Hd (expR_take hlt)
    have hcn:=valid_count HVL.out hlt
    have hpre:=valid_pre HVL.out (j:=j + 1) (by omega)
    rw [HTK.out,List.length_append,List.length_replicate] at hpre
    have HC:=Hd (fun (W:World) (h:Grows w W) => (HV.out.grow h).at_)
    have HAT:=Hd (show ∃ b off,A = some ⟨b,off,none⟩ ∧ ∀ W,Grows w W → W.cell? ⟨b,off + j * 2,none⟩ = some (.int .i64 l[j].1) ∧ W.cell? ⟨b,off + j * 2 + 1,none⟩ = some (.int .i64 l[j].2) by
     obtain ⟨b,off,hA,_⟩:=HV.out.at_
     have hA':=hA (by omega)
     refine ⟨b,off,hA',fun W h => ?_⟩
     obtain ⟨b2,off2,hA2,hc2⟩:=(HV.out.grow h).at_
     have h3:=hA2 (by omega)
     rw [hA'] at h3
     injection h3 with h3
     injection h3 with h4 h5
     subst h4 h5
     exact hc2 j hlt)
    obtain ⟨b,off,rfl,hcells⟩:=HAT.out
    obtain ⟨x,hx⟩:∃ x,x = l[j].1:=⟨_,rfl⟩
    obtain ⟨n,hn⟩:∃ n:Nat,(n:Int) = l[j].2:=⟨l[j].2.toNat,by omega⟩
    rw [← hn] at hcells hcn HTK
    rw [← hn] at hpre
    rw [← hx] at hcells HTK
    rw [Int.toNat_natCast] at hpre HTK
    have HCL:=Hd hcells
    clear hcells hx hn HAT HC
    go_wp2_with fail
    go_loopw [4,6] (fun out k wr => RExIn w (expR (l.take j)) x n out k wr) (fun _ k _ => n - (intOf k).toNat)
    case atStart => exact ⟨0,by omega,rfl,by simpa using HOW.out,HB.out⟩
    case round =>
     obtain ⟨k,hk,rfl,hown2,hb2⟩:=hrel
     have HB2:=Hd hb2
     have HOW2:=Hd hown2
     obtain ⟨c1,c2⟩:=HCL.out wr hb2
     clear hown2 hb2
     by_cases hkn:k < n
     ·have HRS:=Hd (rep_snoc k x (expR (l.take j)))
      have hlen:(expR (l.take j) ++ List.replicate k x).length + 1 ≤ 17592186044416:=by rw [List.length_append,List.length_replicate];omega
      have HLN:=Hd hlen
      have hsz:=HB2.out.size
      clear hlen
      go_wp2_with ((at_builtin;go_loud (refine wpList_append_i rfl _ _ rfl _ (expR (l.take j) ++ List.replicate k x) (by rfl) w.heap.size HOW2.out _ HB2.out hsz _ (by rfl) HLN.out ?_);intro v' w3 hown3 hb3))
      have HO3:=Hd hown3
      have HB3:=Hd hb3
      clear hown3 hb3
      first
       | (refine ⟨⟨k + 1,by omega,by go_num,?_,HB3.out⟩,by simp [intOf];omega⟩;rw [HRS.out];exact HO3.out)
       | (go_wp2;go_roundw;(case rel => refine ⟨k + 1,by omega,by go_num,?_,HB3.out⟩;rw [HRS.out];exact HO3.out);(case measure => simp [intOf];omega))
     ·have hke:k = n:=by omega
      subst hke
      go_wp2_with fail
      refine ⟨⟨j + 1,by omega,by go_num,?_,HB2.out⟩,by simp [intOf];omega⟩
      rw [HTK.out]
      exact HOW2.out
   ·have hke:j = l.length:=by omega
    subst hke
    have HT:=Hd (List.take_length (l:=l))
    go_wp2_with fail
    go_ret2
    refine ⟨_,by rw [HE2.out];rfl,HB.out,?_,(FreshI.of_own HOW.out).2⟩
    rw [HE.out]
    have h:=HOW.out
    rw [HT.out] at h
    exact Reads.of_own h
theorem rlexpand_any (v:Value) (l:List Rn) (w:World) (hv:ReadsR w v l) (hl:l.length ≤ 9223372036854775806) :
 Calls Tryz.prog 70 #[v] w (ExR (expI l) (expE l) w):=
 (rlexpandI_any v l w hv hl).mono fun _ _ ⟨v,h1,h2,h3,_⟩ => ⟨v,h1,h2,h3⟩
def rcells:List Rn → List Value
 | [] => []
 | x :: l => .int .i64 x.1 :: .int .i64 x.2 :: rcells l
theorem rcells_length:∀ l:List Rn,(rcells l).length = l.length * 2
 | [] => rfl
 | x :: l => by rw [rcells,List.length_cons,List.length_cons,rcells_length l,List.length_cons];omega
theorem rcells_append:∀ l r:List Rn,rcells (l ++ r) = rcells l ++ rcells r
 | [],r => rfl
 | x :: l,r => by rw [List.cons_append,rcells,rcells,rcells_append l r];rfl
theorem rcells_get:∀ {l:List Rn} {j:Nat} {x:Rn},l[j]? = some x → (rcells l)[j * 2]? = some (.int .i64 x.1) ∧ (rcells l)[j * 2 + 1]? = some (.int .i64 x.2)
 | [],j,x,h => by cases h
 | y :: l,0,x,h => by
   simp only [List.getElem?_cons_zero,Option.some.injEq] at h
   subst h
   exact ⟨rfl,rfl⟩
 | y :: l,j + 1,x,h => by
   simp only [List.getElem?_cons_succ] at h
   have ih:=rcells_get h
   rw [show (j + 1) * 2 = j * 2 + 1 + 1 by omega,rcells,List.getElem?_cons_succ,List.getElem?_cons_succ,List.getElem?_cons_succ,List.getElem?_cons_succ]
   exact ih
theorem set_append_mid (p q:List Value) (k:Nat) (u:Value) (h:k < q.length):(p ++ q).set (p.length + k) u = p ++ q.set k u:=by
 rw [List.set_append_right _ _ (by omega)]
 congr 2
 omega
theorem rcells_bump (o:List Rn) (x:Rn) (c:Int):(rcells (o ++ [x])).set (o.length * 2 + 1) (.int .i64 c) = rcells (o ++ [(x.1,c)]):=by
 rw [rcells_append,rcells_append,← rcells_length o,set_append_mid _ _ 1 _ (by simp [rcells])]
 rfl
theorem ReadsR.of_own {w:World} {base:Nat} {v:Value} {l:List Rn} (h:w.ownsRow base 125 2 v l.length (rcells l)):ReadsR w v l:=by
 rcases h.2 with ⟨rfl,h0⟩ | ⟨g,cap,cur,rfl,_,hg,hn,_,_,htake⟩
 ·have:l = []:=List.eq_nil_of_length_eq_zero h0
  subst this
  exact ReadsR.nil_ w 0
 ·refine ⟨_,cap,rfl,hn,fun _ => ⟨g,0,rfl,fun j x hj => ?_⟩⟩
  obtain ⟨h1,h2⟩:=rcells_get hj
  have c1:=h.cells (g:=g) rfl _ _ h1
  have c2:=h.cells (g:=g) rfl _ _ h2
  rw [Addr.add_lit] at c1 c2
  rw [Nat.zero_add] at *
  exact ⟨c1,c2⟩
theorem own_shapeRl5 {w:World} {base:Nat} {e:TypeId} {size:Nat} {v:Value} {n:Nat} {xs:List Value} (h:w.ownsRow base e size v n xs) (hn:0 < n) :
 ∃ g cap,v = .slice (some ⟨g,0,none⟩) n cap ∧ base ≤ g ∧ g < w.heap.size ∧ ∀ k,k < n * size → w.frozen? ⟨g,k,none⟩ = false:=by
 rcases h.2 with ⟨_,h0⟩ | ⟨g,cap,cur,rfl,hb,hg,_⟩
 ·omega
 ·refine ⟨g,cap,rfl,hb,(Array.getElem?_eq_some_iff.1 hg).1,fun k _ => ?_⟩
  simp [World.frozen?,hg]
theorem own_setRl5 {w:World} {base:Nat} {e:TypeId} {size:Nat} {g n cap:Nat} {xs:List Value} (h:w.ownsRow base e size (.slice (some ⟨g,0,none⟩) n cap) n xs) (k:Nat) (hk:k < n * size) (u:Value) :
 (w.setCell ⟨g,k,none⟩ u).ownsRow base e size (.slice (some ⟨g,0,none⟩) n cap) n (xs.set k u):=by
 refine ⟨by rw [List.length_set];exact h.1,.inr ?_⟩
 rcases h.2 with ⟨h1,_⟩ | ⟨g2,cap2,cur,he,hb,hg,hnc,hm,hsz,htake⟩
 ·cases h1
 ·injection he with e1 e2 e3
  injection e1 with e1
  injection e1 with e1 e4
  subst e1 e3
  refine ⟨g,cap,cur.setIfInBounds k u,rfl,hb,?_,hnc,hm,by simpa using hsz,?_⟩
  ·simp [World.setCell,Array.getElem?_modify,hg]
  ·rw [Array.toList_setIfInBounds,← htake]
   apply List.ext_getElem?
   intro j
   rw [List.getElem?_take,List.getElem?_set,List.getElem?_set,List.getElem?_take,List.length_take,Array.length_toList]
   by_cases hj:j < n * size
   ·rw [if_pos hj]
    by_cases e:k = j
    ·subst e
     rw [if_pos rfl,if_pos rfl]
     have h1:n * size ≤ cap * size:=Nat.mul_le_mul_right _ hnc
     rw [if_pos (by omega),if_pos (by omega)]
    ·rw [if_neg e,if_neg e,if_pos hj]
   ·rw [if_neg hj]
    by_cases e:k = j
    ·omega
    ·rw [if_neg e,if_neg hj]
theorem info_run:(Tryz.prog.info? 125).map (fun i => (i.zero,i.size,i.bytes)) = some (some (.agg #[.int .i64 0,.int .i64 0]),2,16):=by kernel_rfl
theorem wpList_append_r {wr:World} {ops:Array Oper} {rest:List Oper} {o:Oper} {a:Act} {Q:Exit → Act → World → Prop} (hgd:o.guard = none) (s x:Operand)
 (ho:o.op = .call { callee:=.builtin .append,args:=#[s,x],argTypes:=#[93,93] })
 (v:Value) (pre:List Rn) (hs:a.eval s = v) (base:Nat) (hown:wr.ownsRow base 125 2 v pre.length (rcells pre)) (w0:World) (hb:Below base w0 wr) (hbase:base ≤ wr.heap.size)
 (z1 z2:Int) (hx:a.eval x = .slice (some ⟨wr.heap.size,0,none⟩) 1 1) (hlen:pre.length + 1 ≤ 8796093022208)
 (h:∀ v' w',w'.ownsRow base 125 2 v' (pre ++ [(z1,z2)]).length (rcells (pre ++ [(z1,z2)])) → Below base w0 w' → wpList Tryz.prog ops Q rest (a.put o.dst v') w') :
 wpList Tryz.prog ops Q (o :: rest) a (wr.alloc (.cells #[.int .i64 z1,.int .i64 z2] 125)):=by
 obtain ⟨i0,hi,hz0,hz1,hz2⟩:=info_parts info_run
 refine wpList_append_own _ hgd s x 93 ho base 125 i0 (.agg #[.int .i64 0,.int .i64 0]) 2 16 Tryz.underlying93 hi hz0 hz1 hz2 rfl (by decide) v pre.length (rcells pre) hs (hown.alloc _) ⟨wr.heap.size,0,none⟩ 1 1 [.int .i64 z1,.int .i64 z2] hx rfl ?_ ?_ ?_ ?_ ?_ ?_
 ·intro j u hj
  match j,hj with
  | 0,hj => simp at hj;subst hj;simp [Addr.add]
  | 1,hj => simp at hj;subst hj;simp [Addr.add]
 ·intro u hu
  simp at hu
  rcases hu with rfl | rfl <;> rfl
 ·unfold maxLen;omega
 ·omega
 ·simp;omega
 ·intro v' w' h1 h2 _
  have e:rcells pre ++ [.int .i64 z1,.int .i64 z2] = rcells (pre ++ [(z1,z2)]):=by rw [rcells_append];rfl
  rw [e,show pre.length + 1 = (pre ++ [(z1,z2)]).length by simp] at h1
  exact h v' w' h1 ((hb.alloc hbase _).grown h2 (by simp;omega) (fun k hk => (hown.lt k hk).1))
theorem runsR_len (vs:List Int) {j:Nat} (hj:j ≤ vs.length):(∀ x ∈ runsR (vs.take j),x.2 ≤ (j:Int)) ∧ (runsR (vs.take j)).length ≤ j:=by
 have hp:=runsR_pos vs j
 have hn:∀ x ∈ runsR (vs.take j),0 ≤ x.2:=fun x hx => by have:=hp x hx;omega
 have hs:=expR_length hn
 rw [expR_runs_take vs j hj,List.length_take] at hs
 refine ⟨fun x hx => ?_,?_⟩
 ·obtain ⟨k,hk,rfl⟩:=List.getElem_of_mem hx
  have h1:=sumC_le hn hk
  have h2:=sumC_nonneg (l:=(runsR (vs.take j)).take k) fun x hx => hn x (List.mem_of_mem_take hx)
  omega
 ·have key:∀ l:List Rn,(∀ x ∈ l,1 ≤ x.2) → (l.length:Int) ≤ sumC l:=by
   intro l
   induction l with
   | nil => intro _;simp [sumC_nil]
   | cons x l ih =>
     intro h
     have h1:=h x (List.mem_cons_self ..)
     have h2:=ih fun y hy => h y (List.mem_cons_of_mem _ hy)
     rw [sumC_cons,List.length_cons]
     omega
  have:=key _ hp
  omega
theorem own_drew {w:World} {base:Nat} {e:TypeId} {size:Nat} {v:Value} {n:Nat} {xs:List Value} (h:w.ownsRow base e size v n xs) (d:Nat):(w.drewN d).ownsRow base e size v n xs:=h
def RRunRel (w:World) (vs:List Int) (out i:Value) (wr:World):Prop:=
 ∃ j:Nat,j ≤ vs.length ∧ i = .int .i64 (j:Int) ∧ wr.ownsRow w.heap.size 125 2 out (runsR (vs.take j)).length (rcells (runsR (vs.take j))) ∧ Below w.heap.size w wr
set_option maxHeartbeats 2000000 in
theorem rlruns_any (v:Value) (vs:List Int) (w:World) (hv:IsI w v vs) (hl:vs.length ≤ 1000000000) :
 Calls Tryz.prog 53 #[v] w fun e w' => ∃ u,e = .returned u ∧ Grows w w' ∧ ReadsR w' u (runsR vs):=by
 have HV:=Hd hv
 obtain ⟨A,c,rfl⟩:=hv.slice_
 clear hv
 go_enter Tryz.func53,Tryz.ntmps53
 go_wp2_with fail
 go_loopw [3,4] (fun out i wr => RRunRel w vs out i wr) (fun _ i _ => vs.length - (intOf i).toNat)
 case atStart => exact ⟨0,by omega,rfl,⟨rfl,.inl ⟨rfl,rfl⟩⟩,Below.refl _ _⟩
 case round =>
  obtain ⟨j,hj,rfl,hown,hb⟩:=hrel
  have HB:=Hd hb
  have HOW:=Hd hown
  clear hown hb
  by_cases hlt:j < vs.length
  ·obtain ⟨b,f,rfl,hcell⟩:=(HV.out.grow HB.out).at_ hlt
   have HTK:=Hd (runsR_take hlt)
   obtain ⟨hcnt,hlen⟩:=runsR_len vs hj
   obtain ⟨o,ho⟩:∃ o,o = runsR (vs.take j):=⟨_,rfl⟩
   rw [← ho] at HOW HTK hcnt hlen
   obtain ⟨y,hy⟩:∃ y,y = vs[j]:=⟨_,rfl⟩
   rw [← hy] at hcell HTK
   have hopos:∀ x ∈ o,1 ≤ x.2:=by rw [ho];exact runsR_pos vs j
   have HOP:=Hd hopos
   clear ho hy hopos
   have hsz:=HB.out.size
   obtain ⟨n,hn⟩:∃ n,n = o.length:=⟨_,rfl⟩
   have HN:=Hd hn
   have hoo:=HOW.out
   rw [← hn] at hoo
   have HOO:=Hd hoo
   cases hlast:o.getLast? with
   | none =>
     have ho:o = []:=List.getLast?_eq_none_iff.1 hlast
     have HP:=Hd (show pushR o y = o ++ [(y,1)] by unfold pushR;rw [hlast])
     have hn0:n = 0:=by rw [hn,ho];rfl
     obtain ⟨A2,cap2,rfl⟩:∃ A cap,u3 = .slice A n cap:=by
      obtain ⟨A,c,h1,_⟩:=ReadsR.of_own HOW.out
      exact ⟨A,c,by rw [hn];exact h1⟩
     subst hn0
     have HLN:=Hd (show o.length + 1 ≤ 8796093022208 by omega)
     clear hoo hcnt hlast hn ho
     go_wp2_with fail
     go_quiet (fail)
     go_wp2_with ((at_builtin;go_loud (refine wpList_append_r rfl _ _ rfl _ o (by rfl) w.heap.size (own_drew HOW.out _) _ (draws_below HB.out _) hsz _ _ (by rfl) HLN.out ?_);intro v' w3 hown3 hb3))
     refine ⟨⟨j + 1,by omega,by go_num,?_,hb3⟩,by simp [intOf];omega⟩
     rw [HTK.out,HP.out]
     exact hown3
   | some x =>
     have hs:=last_split hlast
     have hpos:0 < n:=by rw [hn,hs];simp
     have hn9:n ≤ 1000000000:=by omega
     have hol:o.dropLast.length = n - 1:=by rw [List.length_dropLast,hn]
     obtain ⟨g,cap,rfl,hbg,hgl,hfz⟩:=own_shapeRl5 hoo hpos
     have hget:o[n - 1]? = some x:=by rw [hn,← List.getLast?_eq_getElem?];exact hlast
     obtain ⟨q1,q2⟩:=rcells_get hget
     have c1:=hoo.cells (g:=g) rfl _ _ q1
     have c2:=hoo.cells (g:=g) rfl _ _ q2
     rw [Addr.add_lit,Nat.zero_add] at c1 c2
     have f2:=hfz ((n - 1) * 2 + 1) (by omega)
     have hx2:=hcnt x (by rw [hs];simp)
     have hx1:=HOP.out x (by rw [hs];simp)
     obtain ⟨x1,x2⟩:=x
     simp only at c1 c2 hx2 hx1
     have b1:(0:Int) ≤ (n:Int) - 1:=by omega
     have b2:(n:Int) - 1 < (n:Int):=by omega
     have b3:((n:Int) - 1).toNat = n - 1:=by omega
     have d3:decide ((0:Int) < (n:Int)) = true:=by simp;omega
     have d3':decide (0 < n) = true:=by simp;omega
     by_cases he:x1 = y
     ·have d4:(x1 == y) = true:=by simpa using he
      have HP:=Hd (show pushR o y = o.dropLast ++ [(x1,x2 + 1)] by unfold pushR;rw [hlast];simp only;rw [if_pos he])
      have HSET:=Hd (own_setRl5 hoo ((n - 1) * 2 + 1) (by omega) (.int .i64 (x2 + 1)))
      have HBUMP:=Hd (show (rcells o).set ((n - 1) * 2 + 1) (.int .i64 (x2 + 1)) = rcells (o.dropLast ++ [(x1,x2 + 1)]) by
       have e:=rcells_bump o.dropLast (x1,x2) (x2 + 1)
       rw [← hs,hol] at e
       exact e)
      have HL2:=Hd (show (o.dropLast ++ [(x1,x2 + 1)]).length = n by rw [List.length_append,hol];simp;omega)
      have HBG:=Hd hbg
      have hw64:wrap64 (x2 + 1) = x2 + 1:=by unfold wrap64;omega
      clear he hoo hcnt hlast hn hs q1 q2 hget hfz hol
      go_wp2_with fail
      go_quiet (fail)
      go_wp2_with fail
      try rw [hw64]
      refine ⟨⟨j + 1,by omega,by go_num,?_,(draws_below HB.out _).setCell (p:=⟨g,(n - 1) * 2 + 1,none⟩) HBG.out _⟩,by simp [intOf];omega⟩
      rw [HTK.out,HP.out,HL2.out,← HBUMP.out]
      exact HSET.out
     ·have d4:(x1 == y) = false:=by simpa using he
      have HP:=Hd (show pushR o y = o ++ [(y,1)] by unfold pushR;rw [hlast];simp only;rw [if_neg he])
      have HLN:=Hd (show o.length + 1 ≤ 8796093022208 by omega)
      clear he hoo hcnt hlast hn hs q1 q2 hget hfz hx1 hol f2
      go_wp2_with fail
      go_quiet (fail)
      clear c1 c2
      go_wp2_with ((at_builtin;go_loud (refine wpList_append_r rfl _ _ rfl _ o (by rw [HN.out];rfl) w.heap.size (own_drew HOW.out _) _ (draws_below HB.out _) hsz _ _ (by rfl) HLN.out ?_);intro v' w3 hown3 hb3))
      refine ⟨⟨j + 1,by omega,by go_num,?_,hb3⟩,by simp [intOf];omega⟩
      rw [HTK.out,HP.out]
      exact hown3
  ·have hke:j = vs.length:=by omega
   subst hke
   have h:=HOW.out
   rw [List.take_length] at h
   have HH:=Hd h
   clear h
   go_wp2_with fail
   go_ret
   exact ⟨_,rfl,HB.out,ReadsR.of_own HH.out⟩
end Go.Proofs.YthmipnokimlbdaaGreat
namespace Go.Proofs.YthmipnokimlbdaaGreat
open Go.RowKit
theorem dcd_rng (l:List UInt8) (p:Int):(0 ≤ (dcd l p).1 ∧ (dcd l p).1 < 18446744073709551616) ∧ (0 ≤ (dcd l p).2.1 ∧ (dcd l p).2.1 ≤ (l.length:Int)):=by
 by_cases hp:p < 0 ∨ (l.length:Int) < p
 ·rw [dcd_bad hp]
  simp only
  omega
 ·obtain ⟨n,k,e,h⟩:∃ n k e,dec 0 0 (l.drop p.toNat) = (n,k,e):=⟨_,_,_,rfl⟩
  rw [dcd_ok hp h]
  have h1:=dec_lt _ 0 0 n k e (by omega) (by decide) h
  have h2:=(dec_len _ 0 0 n k e h).1
  rw [List.length_drop] at h2
  simp only
  refine ⟨by omega,?_⟩
  split
  ·rename_i h3
   have:=h2 h3
   omega
  ·omega
def RDc (r:List Rn × Int × Int) (w:World) (e:Ending) (w':World):Prop:=∃ u,e = .returned (.tuple #[u,.int .i64 r.2.1,.int .i64 r.2.2]) ∧ Grows w w' ∧ ReadsR w' u r.1
def RDcRel (w:World) (l:List UInt8) (n:Nat) (R:List Rn × Int × Int) (p out last left i:Value) (wr:World):Prop:=
 ∃ (k:Nat) (q:Int) (o:List Rn) (la le:Int),k ≤ n ∧ i = .int .i64 (k:Int) ∧ p = .int .i64 q ∧ (0 ≤ q ∧ q ≤ (l.length:Int)) ∧ wr.ownsRow w.heap.size 125 2 out o.length (rcells o) ∧ o.length = k ∧ last = .int .i64 la ∧ in64 la ∧ left = .int .u64 le ∧ (0 ≤ le ∧ le ≤ 65536) ∧
   finR o (decRs l (n - k) (decide (k = 0)) la le q) = R ∧ Below w.heap.size w wr
set_option maxRecDepth 8000 in
set_option maxHeartbeats 4000000 in
theorem rldecode_any (v:Value) (l:List UInt8) (off:Int) (w:World) (hv:IsBytes w v l) (hlm:l.length ≤ 1000000000000000) (h63:-9223372036854775808 ≤ off) (h64:off ≤ 9223372036854775807) :
 Calls Tryz.prog 68 #[v,.int .i64 off] w (RDc (dcR l off) w):=by
 have hl:l.length ≤ maxLen:=by unfold maxLen;omega
 have HV:=Hd hv
 have HD:=Hd (fun (p:Int) (w':World) (h:Grows w w') (h1:-9223372036854775808 ≤ p) (h2:p ≤ 9223372036854775807) => rdecode_any v l p w' (hv.grow h) hl h1 h2)
 obtain ⟨⟨r1,r2⟩,r3,r4⟩:=dcd_rng l off
 obtain ⟨A,c,rfl,_⟩:=hv
 have H0:=Hd (HD.out off w (Below.refl _ _) h63 h64)
 by_cases e1:(dcd l off).2.2 = 0
 ·by_cases e2:65536 < (dcd l off).1
  ·have HE:=Hd (show dcR l off = ([],0,6) by unfold dcR;rw [if_neg (by simpa using e1),if_pos e2])
   rw [e1] at H0
   generalize (dcd l off).1 = d1 at *
   generalize (dcd l off).2.1 = d2 at *
   have hd:decide ((65536:Int) < d1) = true:=by simpa using e2
   clear e1
   go_enter Tryz.func68,Tryz.ntmps68
   go_wp2_with ((go_at_call 119;refine H0.out.mono ?_;rintro e w2 ⟨rfl,rfl⟩))
   go_ret3
   exact ⟨_,by rw [HE.out];rfl,Below.refl _ _,by rw [HE.out];exact ReadsR.nil_ _ 0⟩
  ·obtain ⟨n,hn⟩:=Int.eq_ofNat_of_zero_le r1
   have HE:=Hd (show dcR l off = decRs l n true 0 65536 (dcd l off).2.1 by unfold dcR;rw [if_neg (by simpa using e1),if_neg e2,hn];rfl)
   rw [e1,hn] at H0
   rw [hn] at e2 r2
   generalize (dcd l off).2.1 = d2 at *
   have hd:decide ((65536:Int) < (n:Int)) = false:=by simpa using e2
   have hn6:n ≤ 65536:=by omega
   clear e1 hn
   go_enter Tryz.func68,Tryz.ntmps68
   go_wp2_with ((go_at_call 119;refine H0.out.mono ?_;rintro e w2 ⟨rfl,rfl⟩))
   go_loopw [8,10,11,12,13] (fun p out last left i wr => RDcRel w l n (dcR l off) p out last left i wr) (fun _ _ _ _ i _ => n - (intOf i).toNat)
   case atStart =>
    refine ⟨0,d2,[],0,65536,by omega,rfl,rfl,⟨r3,r4⟩,⟨rfl,.inl ⟨rfl,rfl⟩⟩,rfl,rfl,by unfold in64;omega,rfl,by omega,?_,Below.refl _ _⟩
    rw [HE.out,Nat.sub_zero]
    exact finR_nil _ (decRs_err l _ _ _ _ _)
   case round =>
    obtain ⟨k,q,o,la,le,hk,rfl,rfl,hq,hown,hol,rfl,hla,rfl,hle,hfin,hb⟩:=hrel
    have HB:=Hd hb
    have HOW:=Hd hown
    have HOL:=Hd hol
    clear hown hb
    by_cases hlt:k < n
    ·obtain ⟨m,hm⟩:∃ m,n - k = m + 1:=⟨n - k - 1,by omega⟩
     have hm2:n - (k + 1) = m:=by omega
     rw [hm,decRs] at hfin
     have HM2:=Hd hm2
     obtain ⟨⟨s1,s2⟩,s3,s4⟩:=dcd_rng l q
     have H1:=Hd (HD.out q wr HB.out (by omega) (by omega))
     have hsz:=HB.out.size
     clear hm hm2
     by_cases a1:(dcd l q).2.2 = 0
     ·rw [if_neg (by simpa using a1)] at hfin
      rw [a1] at H1
      by_cases a2:(dcd l q).1 = 0 ∧ decide (k = 0) = false
      ·rw [if_pos a2,finR_err _ _ (by decide)] at hfin
       have HF:=Hd hfin.symm
       obtain ⟨a3,a4⟩:=a2
       rw [a3] at H1
       have hk0:¬ k = 0:=by simpa using a4
       have dk:decide ((0:Int) < (k:Int)) = true:=by simp;omega
       have dk':decide (0 < k) = true:=by simp;omega
       generalize (dcd l q).2.1 = q2 at *
       clear hfin a1 a3 a4
       go_wp2_with fail
       refine H1.out.mono ?_
       rintro e w2 ⟨rfl,rfl⟩
       go_wp2_with fail
       go_ret3
       exact ⟨_,by rw [HF.out];rfl,HB.out,by rw [HF.out];exact ReadsR.nil_ _ 0⟩
      ·rw [if_neg a2] at hfin
       have HA2:=Hd (show ((dcd l q).1 == 0) = false ∨ (((dcd l q).1 == 0) = true ∧ k = 0) by
        by_cases h:(dcd l q).1 = 0
        ·refine .inr ⟨by simpa using h,?_⟩
         by_cases h0:k = 0
         ·exact h0
         ·exact absurd ⟨h,by simpa using h0⟩ a2
        ·exact .inl (by simpa using h))
       have H2:=Hd (HD.out (dcd l q).2.1 wr HB.out (by omega) (by omega))
       obtain ⟨⟨t1,t2⟩,t3,t4⟩:=dcd_rng l (dcd l q).2.1
       have HUZ:=Hd (fun W => runzigzag_any (dcd l q).1 W s1 s2)
       generalize hd1:(dcd l q).1 = d1 at *
       generalize hd2:(dcd l q).2.1 = d2 at *
       by_cases a5:(dcd l d2).2.2 = 0
       ·rw [if_neg (by simpa using a5)] at hfin
        rw [a5] at H2
        by_cases a6:(dcd l d2).1 = 0 ∨ le < (dcd l d2).1
        ·rw [if_pos a6,finR_err _ _ (by decide)] at hfin
         have HF:=Hd hfin.symm
         have HA6:=Hd (show ((dcd l d2).1 == 0) = true ∨ (((dcd l d2).1 == 0) = false ∧ decide (le < (dcd l d2).1) = true) by
          by_cases h:(dcd l d2).1 = 0
          ·exact .inl (by simpa using h)
          ·refine .inr ⟨by simpa using h,?_⟩
           rcases a6 with h2 | h2
           ·exact absurd h2 h
           ·simpa using h2)
         generalize (dcd l d2).1 = c1 at *
         generalize (dcd l d2).2.1 = c2 at *
         clear hfin a1 a2 a5 a6 hd1 hd2
         rcases HA2.out with g1 | ⟨g1,g2⟩ <;> rcases HA6.out with g3 | ⟨g3,g4⟩
         all_goals (try subst g2)
         all_goals go_wp2_with fail
         all_goals refine H1.out.mono ?_
         all_goals rintro e w2 ⟨rfl,rfl⟩
         all_goals go_wp2_with fail
         all_goals refine H2.out.mono ?_
         all_goals rintro e w2 ⟨rfl,rfl⟩
         all_goals go_wp2_with fail
         all_goals go_ret3
         all_goals exact ⟨_,by rw [HF.out];rfl,HB.out,by rw [HF.out];exact ReadsR.nil_ _ 0⟩
        ·rw [if_neg a6,finR_cons] at hfin
         obtain ⟨cn,hcn⟩:=Int.eq_ofNat_of_zero_le t1
         have HFN:=Hd hfin
         generalize (dcd l d2).1 = c1 at *
         generalize (dcd l d2).2.1 = c2 at *
         subst hcn
         have g3:((cn:Int) == 0) = false:=by rw [beq_eq_false_iff_ne];omega
         have g4:decide (le < (cn:Int)) = false:=by simp;omega
         have hc16:cn ≤ 65536:=by omega
         have HWU:=Hd (show IntKind.u64.wrap (le - (cn:Int)) = le - (cn:Int) by rw [IntKind.wrap_u64];omega)
         have hwu2:IntKind.u64.wrap (le - (cn:Int)) = le - (cn:Int):=HWU.out
         have HLE:=Hd (show 0 ≤ le - (cn:Int) ∧ le - (cn:Int) ≤ 65536 by omega)
         have HLN:=Hd (show o.length + 1 ≤ 8796093022208 by omega)
         clear hfin a1 a2 a5 a6 hd1 hd2
         rcases HA2.out with g1 | ⟨g1,g2⟩
         all_goals (try subst g2)
         all_goals go_wp2_with fail
         all_goals refine H1.out.mono ?_
         all_goals rintro e w2 ⟨rfl,rfl⟩
         all_goals go_wp2_with fail
         all_goals refine H2.out.mono ?_
         all_goals rintro e w2 ⟨rfl,rfl⟩
         all_goals go_wp2_with (first | (go_at_call 128;refine (HUZ.out _).mono ?_;rintro e w3 ⟨rfl,rfl⟩) | (at_builtin;go_loud (refine wpList_append_r rfl _ _ rfl _ o (by rfl) w.heap.size HOW.out _ HB.out hsz _ _ (by rfl) HLN.out ?_);intro v' w3 hown3 hb3))
         ·refine ⟨⟨k + 1,c2,o ++ [(wrap64 (la + uz d1),(cn:Int))],wrap64 (la + uz d1),le - (cn:Int),by omega,by go_num,rfl,⟨t3,t4⟩,hown3,by rw [List.length_append,HOL.out];rfl,rfl,wrap_in _,rfl,HLE.out,?_,hb3⟩,by simp [intOf];omega⟩
          rw [HM2.out,← HFN.out]
          have e:decide (k + 1 = 0) = false:=by simp
          rw [e]
         ·refine ⟨⟨0 + 1,c2,o ++ [(wrap64 (la + uz d1),(cn:Int))],wrap64 (la + uz d1),le - (cn:Int),by omega,by go_num,rfl,⟨t3,t4⟩,hown3,by rw [List.length_append,HOL.out];rfl,rfl,wrap_in _,rfl,HLE.out,?_,hb3⟩,by simp [intOf];omega⟩
          rw [HM2.out,← HFN.out]
          rfl
       ·rw [if_pos a5,finR_err _ _ a5] at hfin
        have HF:=Hd hfin.symm
        have hne:((dcd l d2).2.2 != 0) = true:=by simpa using a5
        generalize (dcd l d2).2.2 = c3 at *
        generalize (dcd l d2).1 = c1 at *
        generalize (dcd l d2).2.1 = c2 at *
        clear hfin a1 a2 a5 hd1 hd2
        rcases HA2.out with g1 | ⟨g1,g2⟩
        all_goals (try subst g2)
        all_goals go_wp2_with fail
        all_goals refine H1.out.mono ?_
        all_goals rintro e w2 ⟨rfl,rfl⟩
        all_goals go_wp2_with fail
        all_goals refine H2.out.mono ?_
        all_goals rintro e w2 ⟨rfl,rfl⟩
        all_goals go_wp2_with fail
        all_goals go_ret3
        all_goals exact ⟨_,by rw [HF.out];rfl,HB.out,by rw [HF.out];exact ReadsR.nil_ _ 0⟩
     ·rw [if_pos a1,finR_err _ _ a1] at hfin
      have HF:=Hd hfin.symm
      have hne:((dcd l q).2.2 != 0) = true:=by simpa using a1
      generalize (dcd l q).2.2 = d3 at *
      generalize (dcd l q).1 = d1 at *
      generalize (dcd l q).2.1 = d2 at *
      clear hfin a1
      go_wp2_with fail
      refine H1.out.mono ?_
      rintro e w2 ⟨rfl,rfl⟩
      go_wp2_with fail
      go_ret3
      exact ⟨_,by rw [HF.out];rfl,HB.out,by rw [HF.out];exact ReadsR.nil_ _ 0⟩
    ·have hke:k = n:=by omega
     subst hke
     rw [Nat.sub_self] at hfin
     have HF:=Hd (show dcR l off = (o,q,0) by rw [← hfin];unfold decRs finR;simp)
     clear hfin
     go_wp2_with fail
     go_ret3
     refine ⟨_,by rw [HF.out];rfl,HB.out,?_⟩
     rw [HF.out]
     exact ReadsR.of_own HOW.out
 ·have HE:=Hd (show dcR l off = ([],0,(dcd l off).2.2) by unfold dcR;rw [if_pos e1])
  generalize (dcd l off).2.2 = d3 at *
  generalize (dcd l off).1 = d1 at *
  generalize (dcd l off).2.1 = d2 at *
  have hne:(d3 != 0) = true:=by simpa using e1
  go_enter Tryz.func68,Tryz.ntmps68
  go_wp2_with ((go_at_call 119;refine H0.out.mono ?_;rintro e w2 ⟨rfl,rfl⟩))
  go_ret3
  exact ⟨_,by rw [HE.out];rfl,Below.refl _ _,by rw [HE.out];exact ReadsR.nil_ _ 0⟩
def PP (w:World) (base:Nat) (u:Value) (ps:List (List UInt8)):Prop:=
 ∃ xs,w.ownsRow base 29 1 u ps.length xs ∧ ∀ j,(h:j < ps.length) → ∃ v,xs[j]? = some v ∧ w.ownsRow base 5 1 v ps[j].length (bcells ps[j])
theorem PP.grow {w w':World} {base:Nat} {u:Value} {ps:List (List UInt8)} (h:PP w base u ps) (hb:Grows w w'):PP w' base u ps:=by
 obtain ⟨xs,h1,h2⟩:=h
 refine ⟨xs,own_grow h1 hb,fun j hj => ?_⟩
 obtain ⟨v,h3,h4⟩:=h2 j hj
 exact ⟨v,h3,own_grow h4 hb⟩
theorem PP.shape {w:World} {base:Nat} {u:Value} {ps:List (List UInt8)} (h:PP w base u ps):∃ A c,u = .slice A ps.length c:=by
 obtain ⟨xs,h1,_⟩:=h
 rcases h1.2 with ⟨rfl,h0⟩ | ⟨g,cap,cur,rfl,_⟩
 ·exact ⟨none,0,by rw [h0]⟩
 ·exact ⟨_,cap,rfl⟩
theorem PP.parts {w:World} {base:Nat} {u:Value} {ps:List (List UInt8)} (h:PP w base u ps):IsParts w u ps:=by
 obtain ⟨xs,h1,h2⟩:=h
 have h0:=h1.2
 rcases h0 with ⟨rfl,h0⟩ | ⟨g,cap,cur,rfl,_⟩
 ·exact ⟨none,0,by rw [h0],fun h => by omega⟩
 ·refine ⟨_,cap,rfl,fun _ => ⟨g,0,rfl,fun j hj => ?_⟩⟩
  obtain ⟨v,h3,h4⟩:=h2 j hj
  have hc:=h1.cells (g:=g) rfl j v h3
  have hv:=IsBytes.of_own h4
  obtain ⟨B,d,rfl,_⟩:=id hv
  refine ⟨B,d,?_,hv⟩
  rw [Addr.add_lit] at hc
  exact hc
theorem one_own {w:World} {base:Nat} {e:TypeId} {v:Value} {n:Nat} {xs:List Value} (h:w.ownsRow base e 1 v n xs):v.oneCell' = true:=by
 rcases h.2 with ⟨rfl,_⟩ | ⟨g,cap,cur,rfl,_⟩ <;> rfl
theorem PP.one {w:World} {base:Nat} {z:Value} {p:List UInt8} (hz:w.ownsRow base 5 1 z p.length (bcells p)) (hb:base ≤ w.heap.size) :
 PP (w.alloc (.cells #[z] 29)) base (.slice (some ⟨w.heap.size,0,none⟩) 1 1) [p]:=by
 refine ⟨[z],(Row.new w 29 #[z] [z] rfl).own hb (by simp [maxLen]),fun j hj => ?_⟩
 match j,hj with
 | 0,_ => exact ⟨z,rfl,hz.alloc _⟩
theorem info_bytes:(Tryz.prog.info? 29).map (fun i => (i.zero,i.size,i.bytes)) = some (some (.slice none 0 0),1,24):=by kernel_rfl
theorem wpList_append_p {w0 wr:World} {ops:Array Oper} {rest:List Oper} {o:Oper} {a:Act} {Q:Exit → Act → World → Prop} (hgd:o.guard = none) (s x:Operand)
 (ho:o.op = .call { callee:=.builtin .append,args:=#[s,x],argTypes:=#[91,91] })
 (v:Value) (ps:List (List UInt8)) (base:Nat) (hs:a.eval s = v) (hpp:PP wr base v ps) (z:Value) (p:List UInt8) (hz:wr.ownsRow base 5 1 z p.length (bcells p)) (hb:Below base w0 wr) (hbase:base ≤ wr.heap.size)
 (hx:a.eval x = .slice (some ⟨wr.heap.size,0,none⟩) 1 1) (hlen:ps.length + 1 ≤ 1000000000000)
 (h:∀ v' w',PP w' base v' (ps ++ [p]) → Below base w0 w' → wpList Tryz.prog ops Q rest (a.put o.dst v') w') :
 wpList Tryz.prog ops Q (o :: rest) a (wr.alloc (.cells #[z] 29)):=by
 obtain ⟨i0,hi,hz0,hz1,hz2⟩:=info_parts info_bytes
 obtain ⟨xs,h1,h2⟩:=hpp
 have hown:(wr.alloc (.cells #[z] 29)).ownsRow base 29 1 v ps.length xs:=h1.alloc _
 refine wpList_append_own _ hgd s x 91 ho base 29 i0 (.slice none 0 0) 1 24 Tryz.underlying91 hi hz0 hz1 hz2 rfl (by decide) v ps.length xs hs hown ⟨wr.heap.size,0,none⟩ 1 1 [z] hx rfl ?_ ?_ ?_ ?_ ?_ ?_
 ·intro j u hj
  match j,hj with
  | 0,hj => simp at hj;subst hj;simp [Addr.add]
 ·intro u hu;simp at hu;subst hu;exact one_own hz
 ·unfold maxLen;omega
 ·omega
 ·simp;omega
 ·intro v' w' h3 h4 _
  refine h v' w' ⟨xs ++ [z],by rw [List.length_append];exact h3,fun j hj => ?_⟩ ((hb.alloc hbase _).grown h4 (by simp;omega) (fun k hk => (h1.lt k hk).1))
  have hxl:xs.length = ps.length:=by have:=h1.1;omega
  have hne:∀ {u:Value} {q:List UInt8},wr.ownsRow base 5 1 u q.length (bcells q) → w'.ownsRow base 5 1 u q.length (bcells q):=fun hq =>
   (hq.alloc (.cells #[z] 29)).kept h4 (ownsRow_ne (hq.alloc _) hown (by decide))
  by_cases hj2:j < ps.length
  ·obtain ⟨u,h5,h6⟩:=h2 j hj2
   refine ⟨u,by rw [List.getElem?_append_left (by omega)];exact h5,?_⟩
   rw [List.getElem_append_left hj2]
   exact hne h6
  ·have e:j = ps.length:=by rw [List.length_append,List.length_singleton] at hj;omega
   subst e
   refine ⟨z,by rw [List.getElem?_append_right (by omega),hxl,Nat.sub_self];rfl,?_⟩
   rw [List.getElem_append_right (Nat.le_refl _)]
   simp only [Nat.sub_self,List.getElem_cons_zero]
   exact hne hz
def ptsR:Int → List Rn → List (List UInt8)
 | _,[] => []
 | last,x :: l => enc (zd x.1 last) :: enc x.2.toNat :: ptsR x.1 l
theorem pts_flat:∀ (l:List Rn) (last:Int),(ptsR last l).flatten = encRs last l
 | [],_ => rfl
 | x :: l,last => by rw [ptsR,encRs,List.flatten_cons,List.flatten_cons,pts_flat l x.1]
def lastV (last:Int):List Rn → Int
 | [] => last
 | x :: l => lastV x.1 l
theorem pts_snoc:∀ (l:List Rn) (last:Int) (x:Rn),ptsR last (l ++ [x]) = ptsR last l ++ [enc (zd x.1 (lastV last l))] ++ [enc x.2.toNat]
 | [],_,_ => rfl
 | y :: l,last,x => by rw [List.cons_append,ptsR,ptsR,pts_snoc l y.1 x,lastV];rfl
theorem lastV_snoc:∀ (l:List Rn) (last:Int) (x:Rn),lastV last (l ++ [x]) = x.1
 | [],_,_ => rfl
 | y :: l,last,x => by rw [List.cons_append,lastV,lastV_snoc l y.1 x]
theorem lastV_in:∀ (l:List Rn) (last:Int),in64 last → (∀ x ∈ l,in64 x.1) → in64 (lastV last l)
 | [],_,h,_ => h
 | y :: l,last,_,h => lastV_in l y.1 (h y (List.mem_cons_self ..)) fun x hx => h x (List.mem_cons_of_mem _ hx)
theorem pts_length:∀ (l:List Rn) (last:Int),(ptsR last l).length = 2 * l.length
 | [],_ => rfl
 | x :: l,last => by rw [ptsR,List.length_cons,List.length_cons,pts_length l x.1,List.length_cons];omega
def prtR (n:Nat) (l:List Rn):List (List UInt8):=enc n :: ptsR 0 l
def REnRel (w:World) (l:List Rn) (out last i:Value) (wr:World):Prop:=
 ∃ k:Nat,k ≤ l.length ∧ i = .int .i64 (k:Int) ∧ last = .int .i64 (lastV 0 (l.take k)) ∧ PP wr w.heap.size out (prtR l.length (l.take k)) ∧ Below w.heap.size w wr
set_option maxRecDepth 8000 in
set_option maxHeartbeats 4000000 in
theorem rlencode_any (v:Value) (l:List Rn) (w:World) (hv:ReadsR w v l) (hin:∀ x ∈ l,in64 x.1) (hn:∀ x ∈ l,0 ≤ x.2 ∧ x.2 ≤ 9223372036854775807) (hl:l.length ≤ 1000000) :
 Calls Tryz.prog 52 #[v] w (Made (encR l) w):=by
 have HV:=Hd hv
 have HIN:=Hd hin
 have HNN:=Hd hn
 obtain ⟨A,c,rfl⟩:=hv.slice_
 have HE0:=Hd (rencode_any (l.length:Int) w (by omega) (by omega))
 rw [Int.toNat_natCast] at HE0
 clear hv hin hn
 go_enter Tryz.func52,Tryz.ntmps52
 go_wp2_with fail
 refine HE0.out.mono ?_
 rintro e w1 ⟨v1,rfl,hown1,hb1⟩
 obtain ⟨A1,d1,rfl,_⟩:=IsBytes.of_own hown1
 have HP1:=Hd (PP.one hown1 hb1.size)
 have HB1:=Hd (hb1.alloc hb1.size (.cells #[.slice A1 (enc l.length).length d1] 29))
 clear hown1 hb1 HE0
 go_wp2_with fail
 go_loopw [3,4,5] (fun out last i wr => REnRel w l out last i wr) (fun _ _ i _ => l.length - (intOf i).toNat)
 case atStart => exact ⟨0,by omega,rfl,rfl,HP1.out,HB1.out⟩
 case round =>
  obtain ⟨k,hk,rfl,rfl,hpp,hb⟩:=hrel
  have HB:=Hd hb
  have HPP:=Hd hpp
  clear hpp hb
  by_cases hlt:k < l.length
  ·have HAT:=Hd (show ∃ b off,A = some ⟨b,off,none⟩ ∧ ∀ W,Grows w W → W.cell? ⟨b,off + k * 2,none⟩ = some (.int .i64 l[k].1) ∧ W.cell? ⟨b,off + k * 2 + 1,none⟩ = some (.int .i64 l[k].2) by
    obtain ⟨b,off,hA,_⟩:=HV.out.at_
    have hA':=hA (by omega)
    refine ⟨b,off,hA',fun W h => ?_⟩
    obtain ⟨b2,off2,hA2,hc2⟩:=(HV.out.grow h).at_
    have h3:=hA2 (by omega)
    rw [hA'] at h3
    injection h3 with h3
    injection h3 with h4 h5
    subst h4 h5
    exact hc2 k hlt)
   obtain ⟨b,off,rfl,hcells⟩:=HAT.out
   have HTK:=Hd (show prtR l.length (l.take (k + 1)) = prtR l.length (l.take k) ++ [enc (zd l[k].1 (lastV 0 (l.take k)))] ++ [enc l[k].2.toNat] by
    unfold prtR
    rw [List.take_succ_eq_append_getElem hlt,pts_snoc]
    rfl)
   have HLV:=Hd (show lastV 0 (l.take (k + 1)) = l[k].1 by rw [List.take_succ_eq_append_getElem hlt,lastV_snoc])
   have hla:=lastV_in (l.take k) 0 (by unfold in64;omega) (fun x hx => HIN.out x (List.mem_of_mem_take hx))
   have hx1:=HIN.out _ (List.getElem_mem hlt)
   have hx2:=HNN.out _ (List.getElem_mem hlt)
   have HPL:=Hd (show (prtR l.length (l.take k)).length ≤ 10000000 by unfold prtR;rw [List.length_cons,pts_length,List.length_take];omega)
   obtain ⟨x1,e1⟩:∃ x,x = l[k].1:=⟨_,rfl⟩
   obtain ⟨x2,e2⟩:∃ x,x = l[k].2:=⟨_,rfl⟩
   rw [← e1] at hcells hx1 HTK HLV
   rw [← e2] at hcells hx2 HTK
   generalize lastV 0 (l.take k) = la at *
   generalize prtR l.length (l.take k) = ps at *
   have HCL:=Hd hcells
   obtain ⟨c1,c2⟩:=hcells wr HB.out
   have hdf:=difR_in x1 la
   have HZZ:=Hd (fun W => rzigzag_any (difR x1 la) W hdf.1 (by have:=hdf.2;omega))
   obtain ⟨hz1,hz2⟩:=zd_bd x1 la
   rw [hz1] at HZZ
   have HDF:=Hd (show wrap64 (x1 - la) = difR x1 la from rfl)
   have HE1:=Hd (rencode_any ((zd x1 la:Nat):Int) wr (by omega) (by omega))
   rw [Int.toNat_natCast] at HE1
   generalize zd x1 la = z at *
   have hsz:=HB.out.size
   clear hcells e1 e2 hz1 hdf HAT
   go_wp2_with ((go_at_call 108;refine (HZZ.out _).mono ?_;rintro e w3 ⟨rfl,rfl⟩))
   refine HE1.out.mono ?_
   rintro e w2 ⟨v2,rfl,hown2,hb2⟩
   have HO2:=Hd (ownsRow_base hown2 hsz)
   have HPP2:=Hd (HPP.out.grow hb2)
   have HB2:=Hd (HB.out.trans (hb2.mono hsz))
   have hsz2:=HB2.out.size
   obtain ⟨A2,d2,rfl,_⟩:=IsBytes.of_own hown2
   obtain ⟨y1,y2⟩:=HCL.out w2 HB2.out
   clear hown2 hb2 c1 c2
   go_wp2_with ((at_builtin;go_loud (refine wpList_append_p rfl _ _ rfl _ ps w.heap.size (by rfl) HPP2.out _ (enc z) HO2.out HB2.out hsz2 (by rfl) (by have:=HPL.out;omega) ?_);intro v3 w3 hp3 hb3;have HP3:=Hd hp3;have HB3:=Hd hb3;have q1:=(HCL.out w3 hb3).1;have q2:=(HCL.out w3 hb3).2;clear hp3 hb3 y1 y2))
   have hsz3:=HB3.out.size
   have HE4:=Hd (rencode_any x2 w3 hx2.1 (by omega))
   refine HE4.out.mono ?_
   rintro e w4 ⟨v4,rfl,hown4,hb4⟩
   have HO4:=Hd (ownsRow_base hown4 hsz3)
   have HPP4:=Hd (HP3.out.grow hb4)
   have HB4:=Hd (HB3.out.trans (hb4.mono hsz3))
   have hsz4:=HB4.out.size
   obtain ⟨A4,d4,rfl,_⟩:=IsBytes.of_own hown4
   obtain ⟨y1,y2⟩:=HCL.out w4 HB4.out
   clear hown4 hb4 q1 q2
   go_wp2_with ((at_builtin;go_loud (refine wpList_append_p rfl _ _ rfl _ (ps ++ [enc z]) w.heap.size (by rfl) HPP4.out _ (enc x2.toNat) HO4.out HB4.out hsz4 (by rfl) (by have:=HPL.out;rw [List.length_append,List.length_singleton];omega) ?_);intro v5 w5 hp5 hb5;have HP5:=Hd hp5;have HB5:=Hd hb5;have q1:=(HCL.out w5 hb5).1;have q2:=(HCL.out w5 hb5).2;clear hp5 hb5 y1 y2))
   refine ⟨⟨k + 1,by omega,by go_num,by rw [HLV.out],?_,HB5.out⟩,by simp [intOf];omega⟩
   rw [HTK.out]
   exact HP5.out
  ·have hke:k = l.length:=by omega
   subst hke
   have hpp:=HPP.out
   rw [List.take_length] at hpp
   have hparts:=hpp.parts
   have HPT:=Hd hparts
   have hflat:(prtR l.length l).flatten = encR l:=by unfold prtR encR;rw [List.flatten_cons,pts_flat]
   have htot:total (prtR l.length l) ≤ 140737488355328:=by unfold total;rw [hflat];have:=encR_len_le l;omega
   have hpl:(prtR l.length l).length ≤ maxLen:=by unfold prtR maxLen;rw [List.length_cons,pts_length];omega
   have HC:=Hd (rconcat_any _ _ wr hparts hpl htot)
   rw [hflat] at HC
   have hsz:=HB.out.size
   clear hpp hparts hflat htot hpl
   rw [List.take_length]
   go_wp2_with ((go_at_call 109;refine HC.out.mono ?_;rintro e w2 ⟨v2,rfl,hown2,hb2⟩;have HO2:=Hd (ownsRow_base hown2 hsz);have HB2:=Hd (HB.out.trans (hb2.mono hsz));clear hown2 hb2))
   go_ret
   exact ⟨_,rfl,HO2.out,HB2.out⟩
def RDRel (w:World) (b:List UInt8) (n:Nat) (R:List Str × Int × Int) (off u last i:Value) (wr:World):Prop:=
 ∃ (j q:Nat) (ws:List Str) (pv:Str),j ≤ n ∧ i = .int .i64 (j:Int) ∧ off = .int .i64 (q:Int) ∧ last = .string (strOf pv) ∧ q ≤ b.length ∧ ws.length = j ∧ pv.length ≤ q ∧ (j % 16 ≠ 0 → pv = prvL ws) ∧ wr.ownsRow w.heap.size 9 1 u ws.length (scells ws) ∧ rdFs b (n - j) ws q = R ∧ Below w.heap.size w wr
theorem nxP_prv {ws:List Str} {pv:Str} {j:Nat} (hl:ws.length = j) (h:j % 16 ≠ 0 → pv = prvL ws):nxP j pv = prvL ws:=by
 unfold nxP
 by_cases h0:j % 16 = 0
 ·rw [if_pos h0]
  unfold prvL prvAt
  rw [hl,if_pos h0]
 ·rw [if_neg h0,← h h0]
set_option maxRecDepth 8000 in
set_option maxHeartbeats 4000000 in
theorem rfdecode_any (A:Option Addr) (c:Nat) (b:List UInt8) (off n:Int) (w:World) (hb:IsBytes w (.slice A b.length c) b) (hlc:b.length ≤ c) (hl:b.length ≤ 1000000000) :
 Calls Tryz.prog 64 #[.slice A b.length c,.int .i64 off,.int .i64 n] w (RsR (fcDec b off n) w):=by
 by_cases h1:off < 0
 ·have d1:decide (off < 0) = true:=by simpa using h1
  have HE:=Hd (fcDec_bad (b:=b) (off:=off) (n:=n) (show badF b off n by unfold badF;omega))
  clear hb
  go_enter Tryz.func64,Tryz.ntmps64
  go_wp2_with fail
  go_ret3
  exact RsR.err HE.out (Below.refl _ _)
 have d1:decide (off < 0) = false:=by simpa using h1
 by_cases h2:(b.length:Int) < off
 ·have d2:decide ((b.length:Int) < off) = true:=by simpa using h2
  have HE:=Hd (fcDec_bad (b:=b) (off:=off) (n:=n) (show badF b off n by unfold badF;omega))
  clear hb
  go_enter Tryz.func64,Tryz.ntmps64
  go_wp2_with fail
  go_ret3
  exact RsR.err HE.out (Below.refl _ _)
 have d2:decide ((b.length:Int) < off) = false:=by simpa using h2
 by_cases h3:n < 0
 ·have d3:decide (n < 0) = true:=by simpa using h3
  have HE:=Hd (fcDec_bad (b:=b) (off:=off) (n:=n) (show badF b off n by unfold badF;omega))
  clear hb
  go_enter Tryz.func64,Tryz.ntmps64
  go_wp2_with fail
  go_ret3
  exact RsR.err HE.out (Below.refl _ _)
 have d3:decide (n < 0) = false:=by simpa using h3
 by_cases h4:65536 < n
 ·have d4:decide (65536 < n) = true:=by simpa using h4
  have HE:=Hd (fcDec_bad (b:=b) (off:=off) (n:=n) (show badF b off n by unfold badF;omega))
  clear hb
  go_enter Tryz.func64,Tryz.ntmps64
  go_wp2_with fail
  go_ret3
  exact RsR.err HE.out (Below.refl _ _)
 have d4:decide (65536 < n) = false:=by simpa using h4
 have hbad:¬ badF b off n:=by unfold badF;omega
 obtain ⟨o,rfl⟩:=Int.eq_ofNat_of_zero_le (show 0 ≤ off by omega)
 obtain ⟨N,rfl⟩:=Int.eq_ofNat_of_zero_le (show 0 ≤ n by omega)
 have HE:=Hd (fcDec_ok hbad)
 have HV:=Hd hb
 have HLC:=Hd hlc
 have HO:=Hd (show o ≤ b.length by omega)
 have d2':decide (b.length < o) = false:=by simp;omega
 have hN:N ≤ 65536:=by omega
 obtain ⟨R,hR⟩:∃ R,R = rdFs b N [] o:=⟨_,rfl⟩
 rw [← hR] at HE
 have HR:=Hd hR
 rw [HE.out]
 clear hb hlc hR HE hbad h1 h2 h3 h4
 go_enter Tryz.func64,Tryz.ntmps64
 go_wp2_with fail
 clear d1 d2 d2' d3 d4
 go_loopw [1,9,10,11] (fun off u last i wr => RDRel w b N R off u last i wr) (fun _ _ _ i _ => N - (intOf i).toNat)
 case atStart => exact ⟨0,o,[],[],by omega,rfl,rfl,rfl,HO.out,rfl,Nat.zero_le _,fun h => absurd rfl h,World.ownsRow_nil _ _ _ _,HR.out.symm,Below.refl _ _⟩
 case round =>
  obtain ⟨j,q,ws,pv,hj,rfl,rfl,rfl,hq,hwl,hpv,hpp,hown,hres,hbw⟩:=hrel
  have HWL:=Hd hwl
  have HPP:=Hd hpp
  have HRES:=Hd hres
  have HB:=Hd hbw
  have HOW:=Hd hown
  obtain ⟨A2,c2,rfl⟩:=own_sliceS hown
  have hsz:=hbw.size
  clear hwl hpp hres hbw hown
  by_cases hlt:j < N
  ·obtain ⟨f,hf⟩:∃ f,N - j = f + 1:=⟨N - j - 1,by omega⟩
   have HF:=Hd (show N - (j + 1) = f by omega)
   rw [hf] at HRES
   have hpq:=nxP_prv HWL.out HPP.out
   have hpl:(prvL ws).length ≤ q:=by
    rw [← hpq]
    unfold nxP
    split
    ·exact Nat.zero_le _
    ·exact hpv
   have HRD:=Hd (rnext_any A c b q j pv wr (HV.out.grow HB.out) HLC.out hl hq (by omega) (by omega))
   rw [hpq] at HRD
   by_cases he:(rdF b q (prvL ws)).2.2 = 0
   ·obtain ⟨s,k,hrw,hk,_,hsl⟩:=rdF_acc hq he
    have HN2:=Hd (show rdFs b f (ws ++ [s]) ((q + k:Nat):Int) = R by
     have h2:=HRES.out
     rw [rdFs_n hrw] at h2
     exact h2)
    rw [hrw] at HRD
    obtain ⟨q4,hq4⟩:∃ q4,q4 = q + k:=⟨_,rfl⟩
    rw [← hq4] at HRD HN2 hk
    have HQ4:=Hd (show s.length ≤ q4 by omega)
    have HLN:=Hd (show ws.length + 1 ≤ 1000000000000 by have:=HWL.out;omega)
    clear he hf hrw hq4 hpq hpl hpv hsl
    go_wp2_with fail
    refine HRD.out.mono ?_
    rintro e w3 ⟨rfl,g3⟩
    have HB3:=Hd (HB.out.trans (g3.mono hsz))
    have HO3:=Hd (own_growS HOW.out g3)
    have hsz3:=HB3.out.size
    clear g3
    go_wp2_with ((at_builtin;go_loud (refine wpList_append_s rfl _ _ rfl _ ws (by rfl) w.heap.size HO3.out w HB3.out hsz3 s _ rfl (by rfl) HLN.out ?_);intro v5 w5 hown5 hb5;have HO5:=Hd hown5;have HB5:=Hd hb5;clear hown5 hb5))
    first
     | exact ⟨⟨j + 1,q4,ws ++ [s],s,by omega,by go_num,rfl,rfl,hk,by rw [List.length_append,List.length_singleton,HWL.out],HQ4.out,prvL_snoc HWL.out,HO5.out,by rw [HF.out];exact HN2.out,HB5.out⟩,by simp [intOf];omega⟩
     | (go_roundw;(case rel => exact ⟨j + 1,q4,ws ++ [s],s,by omega,by go_num,rfl,rfl,hk,by rw [List.length_append,List.length_singleton,HWL.out],HQ4.out,prvL_snoc HWL.out,HO5.out,by rw [HF.out];exact HN2.out,HB5.out⟩);(case measure => simp [intOf];omega))
   ·have HN2:=Hd (show R = ([],0,(rdF b q (prvL ws)).2.2) by
     have h2:=HRES.out
     rw [rdFs_e he] at h2
     exact h2.symm)
    have hne:((rdF b q (prvL ws)).2.2 != 0) = true:=by simpa using he
    generalize rdF b q (prvL ws) = r at *
    obtain ⟨r1,r2,r3⟩:=r
    simp only [] at hne HRD HN2
    clear he hf hpq hpl hpv
    go_wp2_with fail
    refine HRD.out.mono ?_
    rintro e w3 ⟨rfl,g3⟩
    have HB3:=Hd (HB.out.trans (g3.mono hsz))
    clear g3
    go_wp2_with fail
    go_ret3
    exact RsR.err HN2.out HB3.out
  ·have hje:N - j = 0:=by omega
   rw [hje] at HRES
   have HN2:=Hd (show R = (ws,(q:Int),0) from HRES.out.symm)
   clear hje hpv
   go_wp2_with fail
   go_ret3
   refine ⟨_,by rw [HN2.out];rfl,HB.out,?_⟩
   rw [HN2.out]
   exact Reads.of_own HOW.out
end Go.Proofs.YthmipnokimlbdaaGreat
