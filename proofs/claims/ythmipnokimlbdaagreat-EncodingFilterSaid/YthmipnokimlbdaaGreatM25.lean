/-
  Texts that the claims of this seat share, put together (EnF, EnG, Eh1, Eh2). No condition.
-/
import Derived.Test.YthmipnokimlbdaaGreatM21
import Derived.Test.YthmipnokimlbdaaGreatM24
import Derived.Test.YthmipnokimlbdaaGreatM15
import Derived.Test.YthmipnokimlbdaaGreatM18
set_option linter.unusedVariables false
set_option linter.unusedSimpArgs false
namespace Go.Proofs.YthmipnokimlbdaaGreat
set_option maxRecDepth 8000
open Go.RowKit
abbrev Vl:=Int × Int × ByteArray
abbrev Vl.v (a:Vl):Value:=.agg #[.int .i64 a.1,.int .i64 a.2.1,.string a.2.2]
abbrev prV (col op:Int) (b:Vl):Value:=.agg #[.int .i64 col,.int .i64 op,.int .i64 b.1,.int .i64 b.2.1,.string b.2.2]
def atVec (v:Vec) (i:Nat):Vl:=if v.T = 3 then (3,0,strOf (v.ts.getD i [])) else (v.T,v.is.getD i 0,⟨#[]⟩)
def lenE (v:Vec):Nat:=if v.T = 3 then v.ts.length else v.is.length
def okOp (op:Int):Bool:=(decide (1 ≤ op) && decide (op ≤ 6)) || decide (op = 20) || decide (op = 21)
def lhold (op:Int) (a b:Vl):Bool:=if op = 20 then false else if op = 21 then true else if a.1 = 0 ∨ a.1 ≠ b.1 ∨ op < 1 ∨ 6 < op then false else holdsV op (lcmpV a.1 a.2.1 a.2.2 b.1 b.2.1 b.2.2)
theorem evalidOp_any (op:Int) (w:World):Calls Tryz.prog 43 #[.int .i64 op] w fun e w' => e = .returned (.bool (okOp op)) ∧ w = w':=by
 obtain ⟨b,hb⟩:∃ b,b = okOp op:=⟨_,rfl⟩
 rw [← hb]
 unfold okOp at hb
 by_cases h20:op = 20
 ·subst h20
  have HB:=Hd hb
  clear hb
  go_enter Tryz.func43,Tryz.ntmps43
  go_wp2_with fail
  go_ret
  exact ⟨retB1 HB.out.symm,rfl⟩
 by_cases h21:op = 21
 ·subst h21
  have HB:=Hd hb
  clear hb h20
  go_enter Tryz.func43,Tryz.ntmps43
  go_wp2_with fail
  go_ret
  exact ⟨retB1 HB.out.symm,rfl⟩
 have e20:(op == 20) = false:=by simpa using h20
 have e21:(op == 21) = false:=by simpa using h21
 have HB:=Hd (show b = (decide (1 ≤ op) && decide (op ≤ 6)) by rw [hb];simp [h20,h21])
 clear hb h20 h21
 by_cases h1:1 ≤ op
 ·have e1:decide (1 ≤ op) = true:=by simpa using h1
  by_cases h6:op ≤ 6
  ·have e6:decide (op ≤ 6) = true:=by simpa using h6
   have HC:=Hd (show b = true by rw [HB.out,e1,e6];rfl)
   clear h1 h6
   go_enter Tryz.func43,Tryz.ntmps43
   go_wp2_with fail
   go_ret
   exact ⟨retB1 HC.out.symm,rfl⟩
  ·have e6:decide (op ≤ 6) = false:=by simpa using h6
   have HC:=Hd (show b = false by rw [HB.out,e1,e6];rfl)
   clear h1 h6
   go_enter Tryz.func43,Tryz.ntmps43
   go_wp2_with fail
   go_ret
   exact ⟨retB1 HC.out.symm,rfl⟩
 ·have e1:decide (1 ≤ op) = false:=by simpa using h1
  have HC:=Hd (show b = false by rw [HB.out,e1];rfl)
  clear h1
  go_enter Tryz.func43,Tryz.ntmps43
  go_wp2_with fail
  go_ret
  exact ⟨retB1 HC.out.symm,rfl⟩
set_option maxHeartbeats 4000000 in
theorem eat_any (x:Value) (v:Vec) (i:Nat) (w:World) (hx:IsV w x v) (hi:i < lenE v) (hl:lenE v ≤ 1000000) :
 Calls Tryz.prog 45 #[x,.int .i64 (i:Int)] w fun e w' => e = .returned (Vl.v (atVec v i)) ∧ Grows w w':=by
 obtain ⟨T,is,ts,ns⟩:=v
 obtain ⟨a1,a2,a3,rfl,j1,j2,j3⟩:=hx
 dsimp only at *
 obtain ⟨A1,c1,rfl⟩:=j1.slice_
 obtain ⟨A2,c2,rfl⟩:=j2.slice_
 obtain ⟨A3,c3,rfl⟩:=j3.slice_
 have HG2:=Hd ((growB w (.cells #[.int .i64 T,.slice A1 is.length c1,.slice A2 ts.length c2,.slice A3 ns.length c3] 26)).of_below (growB _ (.cells #[.int .i64 0,.int .i64 0,.string ⟨#[]⟩] 48)))
 have HR:=Hd (Row.at_ (w.alloc (.cells #[.int .i64 T,.slice A1 is.length c1,.slice A2 ts.length c2,.slice A3 ns.length c3] 26)) 48 #[.int .i64 0,.int .i64 0,.string ⟨#[]⟩] [.int .i64 0,.int .i64 0,.string ⟨#[]⟩] rfl (w.heap.size + 1) (by rw [World.size_alloc]))
 have HRW:Hid (((w.alloc (.cells #[.int .i64 T,.slice A1 is.length c1,.slice A2 ts.length c2,.slice A3 ns.length c3] 26)).alloc (.cells #[.int .i64 0,.int .i64 0,.string ⟨#[]⟩] 48)).heap[w.heap.size + 1]? = some (.cells #[.int .i64 0,.int .i64 0,.string ⟨#[]⟩] 48 (0,0))):=HR.out
 by_cases hT:T = 3
 ·subst hT
  have hi':i < ts.length:=hi
  have hl':ts.length ≤ 1000000:=hl
  obtain ⟨b,f,rfl,hck⟩:=(j2.grow HG2.out).at_ hi'
  have HE:=Hd (show atVec ⟨3,is,ts,ns⟩ i = (3,0,strOf ts[i]) by unfold atVec;rw [if_pos rfl];simp only [List.getD_eq_getElem?_getD,List.getElem?_eq_getElem hi'];rfl)
  have HRS:=Hd (fun s => Row.setRow_ HR.out [.int .i64 3,.int .i64 0,.string s] rfl)
  generalize strOf ts[i] = s at *
  clear j1 j2 j3 hi hl
  go_enter Tryz.func45,Tryz.ntmps45
  go_wp2_with (refine wpList_store_row rfl _ _ _ rfl _ _ rfl rfl _ _ HRW.out size_val rfl (by simp [Value.oneCell']) ?_)
  exact bodyPost_ret (results_val rfl _ _ _ _ _ _ rfl (HRS.out _)) rfl ⟨by rw [HE.out],below_setRow HG2.out (by omega) _⟩
 ·have hi':i < is.length:=by unfold lenE at hi;rwa [if_neg hT] at hi
  have hl':is.length ≤ 1000000:=by unfold lenE at hl;rwa [if_neg hT] at hl
  obtain ⟨b,f,rfl,hck⟩:=(j1.grow HG2.out).at_ hi'
  have HE:=Hd (show atVec ⟨T,is,ts,ns⟩ i = (T,is[i],⟨#[]⟩) by unfold atVec;rw [if_neg hT];simp only [List.getD_eq_getElem?_getD,List.getElem?_eq_getElem hi'];rfl)
  have eT:(T == 3) = false:=by simpa using hT
  have HRS:=Hd (fun n => Row.setRow_ HR.out [.int .i64 T,.int .i64 n,.string ⟨#[]⟩] rfl)
  generalize is[i] = n at *
  clear j1 j2 j3 hi hl hT
  go_enter Tryz.func45,Tryz.ntmps45
  go_wp2_with fail
  go_region
  have HGQ:=Hd (drawn_grows ((growB w (.cells #[.int .i64 T,.slice (some ⟨b,f,none⟩) is.length c1,.slice A2 ts.length c2,.slice A3 ns.length c3] 26)).of_below (growB _ (.cells #[.int .i64 T,.int .i64 n,.string ⟨#[]⟩] 48))))
  have HRQ:=Hd (show Row ((w.alloc (.cells #[.int .i64 T,.slice (some ⟨b,f,none⟩) is.length c1,.slice A2 ts.length c2,.slice A3 ns.length c3] 26)).alloc (.cells #[.int .i64 T,.int .i64 n,.string ⟨#[]⟩] 48)).drew (w.heap.size + 1) 48 [.int .i64 T,.int .i64 n,.string ⟨#[]⟩] from Row.at_ (w.alloc (.cells #[.int .i64 T,.slice (some ⟨b,f,none⟩) is.length c1,.slice A2 ts.length c2,.slice A3 ns.length c3] 26)) 48 #[.int .i64 T,.int .i64 n,.string ⟨#[]⟩] _ rfl (w.heap.size + 1) (by rw [World.size_alloc]))
  go_wp2_with fail
  exact bodyPost_ret (results_val rfl _ _ _ _ _ _ rfl HRQ.out) rfl ⟨by rw [HE.out],HGQ.out⟩
set_option maxHeartbeats 4000000 in
theorem eholds_any (col op:Int) (a b:Vl) (w:World):Calls Tryz.prog 44 #[prV col op b,Vl.v a] w fun e w' => e = .returned (.bool (lhold op a b)) ∧ Grows w w':=by
 obtain ⟨k,n,t⟩:=a
 obtain ⟨k',n',t'⟩:=b
 simp only [Vl.v,prV]
 have HG2:=Hd ((growB w (.cells #[.int .i64 col,.int .i64 op,.int .i64 k',.int .i64 n',.string t'] 50)).of_below (growB _ (.cells #[.int .i64 k,.int .i64 n,.string t] 48)))
 by_cases h20:op = 20
 ·subst h20
  have HE:=Hd (show lhold 20 (k,n,t) (k',n',t') = false from if_pos rfl)
  go_enter Tryz.func44,Tryz.ntmps44
  go_wp2_with fail
  go_ret
  exact ⟨retB1 HE.out.symm,HG2.out⟩
 by_cases h21:op = 21
 ·subst h21
  have HE:=Hd (show lhold 21 (k,n,t) (k',n',t') = true from rfl)
  clear h20
  go_enter Tryz.func44,Tryz.ntmps44
  go_wp2_with fail
  go_ret
  exact ⟨retB1 HE.out.symm,HG2.out⟩
 have e20:(op == 20) = false:=by simpa using h20
 have e21:(op == 21) = false:=by simpa using h21
 have HT:=Hd (fun W => ltest_any op k n k' n' t t' W)
 have HX:(ltestV op k n t k' n' t' = nullV ∧ lhold op (k,n,t) (k',n',t') = false) ∨ (ltestV op k n t k' n' t' = .agg #[.int .i64 1,.int .i64 1,.string ⟨#[]⟩] ∧ lhold op (k,n,t) (k',n',t') = true) ∨ (ltestV op k n t k' n' t' = .agg #[.int .i64 1,.int .i64 0,.string ⟨#[]⟩] ∧ lhold op (k,n,t) (k',n',t') = false):=by
  unfold lhold ltestV
  rw [if_neg h20,if_neg h21]
  dsimp only
  by_cases hc:k = 0 ∨ k ≠ k' ∨ op < 1 ∨ 6 < op
  ·rw [if_pos hc,if_pos hc];exact .inl ⟨rfl,rfl⟩
  ·rw [if_neg hc,if_neg hc]
   cases holdsV op (lcmpV k n t k' n' t')
   ·exact .inr (.inr ⟨rfl,rfl⟩)
   ·exact .inr (.inl ⟨rfl,rfl⟩)
 clear h20 h21
 rcases HX with ⟨hv,hr⟩ | ⟨hv,hr⟩ | ⟨hv,hr⟩
 all_goals
  rw [hv] at HT
  have HR:=Hd hr
  clear hv hr
  try unfold nullV at HT
  go_enter Tryz.func44,Tryz.ntmps44
  go_wp2_with ((go_at_call 71;refine (HT.out _).mono ?_;rintro e w3 ⟨rfl,g3⟩;have HG3:=Hd (HG2.out.of_below g3);clear g3))
  go_ret
  exact ⟨retB1 HR.out.symm,HG3.out⟩
def filtF (b:List UInt8) (T n op:Int) (bv:Vl):(Int × List UInt64) × Int:=
 if okOp op = false then ((0,[]),1) else if (decF b T n).2.2 ≠ 0 then ((0,[]),(decF b T n).2.2) else ((n,pack n.toNat fun i => lhold op (atVec (decF b T n).1 i) bv),0)
theorem filtF_a {b:List UInt8} {T n op:Int} {bv:Vl} (h:okOp op = false):filtF b T n op bv = ((0,[]),1):=by unfold filtF;rw [if_pos h]
theorem filtF_e {b:List UInt8} {T n op:Int} {bv:Vl} (h:okOp op = true) {v:Vec} {q f:Int} (hd:decF b T n = (v,q,f)) (hf:f ≠ 0):filtF b T n op bv = ((0,[]),f):=by
 have h':¬ okOp op = false:=by rw [h];simp
 unfold filtF
 rw [if_neg h',hd,if_pos hf]
theorem filtF_ok {b:List UInt8} {T op:Int} {N:Nat} {bv:Vl} (h:okOp op = true) {v:Vec} {q:Int} (hd:decF b T N = (v,q,0)):filtF b T N op bv = (((N:Int),pack N fun i => lhold op (atVec v i) bv),0):=by
 have h':¬ okOp op = false:=by rw [h];simp
 unfold filtF
 rw [if_neg h',hd,if_neg (fun h => h rfl),Int.toNat_natCast]
def FilR (r:(Int × List UInt64) × Int) (w:World) (e:Ending) (w':World):Prop:=∃ x,e = .returned (.tuple #[x,.int .i64 r.2]) ∧ IsPair w' x r.1.1 r.1.2 ∧ Grows w w'
theorem FilR.no {r:(Int × List UInt64) × Int} {f:Int} {w w':World} (h:r = ((0,[]),f)) (hg:Grows w w'):FilR r w (.returned (.tuple #[.agg #[.int .i64 0,.slice none 0 0],.int .i64 f])) w':=by
 subst h
 exact ⟨_,rfl,⟨_,rfl,Reads.nil_ _ 0,by simp⟩,hg⟩
theorem results_fil {fn:Func} {p q:Tmp} (h:fn.results = #[.cell p 54,.tmp q]) (tmps:Array Value) (w:World) (g:Nat) (a b x:Value) (hp:tmps.getD p undef = .pointer (some ⟨g,0,none⟩)) (hg:Row w g 54 [a,b])
 (hx:tmps.getD q undef = x):(results fn tmps).run Tryz.prog w = .ok (.tuple #[.agg #[a,b],x]) w:=by
 have hp':tmps[p]?.getD undef = .pointer (some ⟨g,0,none⟩):=by simpa using hp
 have hx':tmps[q]?.getD undef = x:=by simpa using hx
 simp [results,h,hp',hx',asAddr,run_loadVar_row w g 54 54 #[a,b] (0,0) _ hg Tryz.underlying54 rfl size_set]
theorem wpList_store_bs {wr:World} {ops:Array Oper} {rest:List Oper} {o:Oper} {a:Act} {Q:Exit → Act → World → Prop} (hgd:o.guard = none) (x y:Operand) (ho:o.op = .store 54 x y)
 (w0:World) (hw:wr = w0.alloc (.cells #[.int .i64 0,.slice none 0 0] 54)) (hx:a.eval x = ptV w0.heap.size) (t:Int) (A:Option Addr) (n c:Nat) (hy:a.eval y = .agg #[.int .i64 t,.slice A n c])
 (h:∀ W,Row W w0.heap.size 54 [.int .i64 t,.slice A n c] → Grows w0 W → wpList Tryz.prog ops Q rest (a.put o.dst undef) W):wpList Tryz.prog ops Q (o :: rest) a wr:=by
 subst hw
 have hr:=Row.new w0 54 #[.int .i64 0,.slice none 0 0] [.int .i64 0,.slice none 0 0] rfl
 exact wpList_store_row hgd _ x y ho w0.heap.size #[.int .i64 t,.slice A n c] hx hy _ _ hr size_set rfl (by simp [Value.oneCell']) (h _ (Row.setRow_ hr [.int .i64 t,.slice A n c] rfl) (below_setRow (growB _ _) (Nat.le_refl _) _))
def FiltRel (w w5:World) (N gk:Nat) (h:Nat → Bool) (i:Value) (wr:World):Prop:=
 ∃ k:Nat,k ≤ N ∧ i = .int .i64 (k:Int) ∧ Row wr w5.heap.size 85 (ucells (pack N (upto h k))) ∧ Row wr gk 54 [.int .i64 (N:Int),.slice (some ⟨w5.heap.size,0,none⟩) (nw N) (nw N)] ∧ Grows w5 wr
theorem ucells_zero (N:Nat) (h:Nat → Bool):(List.replicate (nw N) (Value.int .u64 0)) = ucells (pack N (upto h 0)):=by
 apply List.ext_getElem?
 intro j
 by_cases hj:j < nw N
 ·rw [List.getElem?_replicate,if_pos hj,ucells,List.getElem?_map,pack_get hj]
  have:(wordOf fun j_1 => decide (64 * j + j_1 < N) && upto h 0 (64 * j + j_1)) = 0:=by
   apply word_ext
   intro i hi
   rw [wbit_wordOf]
   simp [upto,wbit]
  rw [this]
  rfl
 ·rw [List.getElem?_replicate,if_neg hj,ucells,List.getElem?_map,List.getElem?_eq_none (by rw [pack_length];omega)]
  rfl
set_option maxHeartbeats 16000000 in
theorem eFilter_any (A:Option Addr) (c:Nat) (b:List UInt8) (T n col op:Int) (bv:Vl) (w:World) (hb:IsBytes w (.slice A b.length c) b) (hlc:b.length ≤ c) (hl:b.length ≤ 1000000) :
 Calls Tryz.prog 22 #[.slice A b.length c,.int .i64 T,.int .i64 n,prV col op bv] w (FilR (filtF b T n op bv) w):=by
 obtain ⟨k',n',t'⟩:=bv
 simp only [prV]
 have HVO:=Hd (fun W => evalidOp_any op W)
 have HDE:=Hd (fun W (h:Grows w W) => eDecode_any A c b T n W (hb.grow h) hlc hl)
 have HG2:=Hd ((growB w (.cells #[.int .i64 col,.int .i64 op,.int .i64 k',.int .i64 n',.string t'] 50)).of_below (growB _ (.cells #[.int .i64 0,.slice none 0 0] 54)))
 have HP2:=Hd ((Row.new w 50 #[.int .i64 col,.int .i64 op,.int .i64 k',.int .i64 n',.string t'] [.int .i64 col,.int .i64 op,.int .i64 k',.int .i64 n',.string t'] rfl).grow (growB _ (.cells #[.int .i64 0,.slice none 0 0] 54)))
 have HR2:=Hd (Row.at_ (w.alloc (.cells #[.int .i64 col,.int .i64 op,.int .i64 k',.int .i64 n',.string t'] 50)) 54 #[.int .i64 0,.slice none 0 0] [.int .i64 0,.slice none 0 0] rfl (w.heap.size + 1) (by rw [World.size_alloc]))
 obtain ⟨o,ho⟩:∃ o,okOp op = o:=⟨_,rfl⟩
 rw [ho] at HVO
 cases o
 ·have HE:=Hd (show filtF b T n op (k',n',t') = ((0,[]),1) from filtF_a ho)
  have HRS:=Hd (Row.setRow_ HR2.out [.int .i64 0,.slice none 0 0] rfl)
  clear ho hb
  go_enter Tryz.func22,Tryz.ntmps22
  go_wp2_with (first
   | (go_at_call 43;refine (HVO.out _).mono ?_;rintro e w2 ⟨rfl,rfl⟩)
   | (refine wpList_store_row rfl _ _ _ rfl _ #[.int .i64 0,.slice none 0 0] rfl rfl _ _ HR2.out size_set rfl (by simp [Value.oneCell']) ?_))
  exact bodyPost_ret (results_fil rfl _ _ _ _ _ (.int .i64 1) rfl HRS.out rfl) rfl (FilR.no HE.out (below_setRow HG2.out (by omega) _))
 obtain ⟨v,hv⟩:∃ v,(decF b T n).1 = v:=⟨_,rfl⟩
 obtain ⟨q,hq⟩:∃ q,(decF b T n).2.1 = q:=⟨_,rfl⟩
 obtain ⟨f,hf⟩:∃ f,(decF b T n).2.2 = f:=⟨_,rfl⟩
 have hD:decF b T n = (v,q,f):=by rw [← hv,← hq,← hf]
 rw [hD] at HDE
 by_cases hf0:f = 0
 case neg =>
  have HE:=Hd (show filtF b T n op (k',n',t') = ((0,[]),f) from filtF_e ho hD hf0)
  have hne:(f != 0) = true:=by simpa using hf0
  clear ho hb hv hq hf hD hf0
  go_enter Tryz.func22,Tryz.ntmps22
  go_wp2_with ((go_at_call 43;refine (HVO.out _).mono ?_;rintro e w2 ⟨rfl,rfl⟩))
  refine (HDE.out _ HG2.out).mono ?_
  rintro e w3 ⟨x,rfl,hx3,g3⟩
  obtain ⟨x1,x2,x3,rfl,j1,j2,j3⟩:=hx3
  obtain ⟨A1,c1,rfl⟩:=j1.slice_
  obtain ⟨A2,c2,rfl⟩:=j2.slice_
  obtain ⟨A3,c3,rfl⟩:=j3.slice_
  have HG3:=Hd (HG2.out.of_below g3)
  have HR3:=Hd (HR2.out.grow g3)
  clear j1 j2 j3 g3
  go_wp2_with (first
   | (refine wpList_store_vec rfl _ _ rfl w3 rfl rfl _ _ _ _ _ _ _ _ _ _ rfl ?_;intro w4 hr4 hg4;have HG4:=Hd (HG3.out.of_below hg4);have HR4:=Hd (HR3.out.grow hg4);have HRS:=Hd (Row.setRow_ HR4.out [.int .i64 0,.slice none 0 0] rfl);clear hr4 hg4)
   | (refine wpList_store_row rfl _ _ _ rfl _ #[.int .i64 0,.slice none 0 0] rfl rfl _ _ HR4.out size_set rfl (by simp [Value.oneCell']) ?_))
  exact bodyPost_ret (results_fil rfl _ _ _ _ _ (.int .i64 f) rfl HRS.out rfl) rfl (FilR.no HE.out (below_setRow HG4.out (by omega) _))
 subst hf0
 obtain ⟨v',N,q',rfl,hD2,hvT,hvN,hen,hin⟩:=decF_ok hf
 rw [hD] at hD2
 injection hD2 with e1 e2
 subst e1
 clear e2
 obtain ⟨h,hh⟩:∃ h:Nat → Bool,h = fun i => lhold op (atVec v i) (k',n',t'):=⟨_,rfl⟩
 have HE:=Hd (show filtF b T N op (k',n',t') = (((N:Int),pack N h),0) by rw [hh];exact filtF_ok ho hD)
 have hN6:N ≤ 65536:=by rw [← hvN];exact hen.len
 have HLV:=Hd (show lenE v = N by
  unfold lenE
  split
  ·rw [← hvN];exact (hen.lt (by assumption)).1
  ·rw [← hvN];exact (hen.li (by assumption)).1)
 have HAT:=Hd (fun (x:Value) (i:Nat) (W:World) (hx:IsV W x v) (hi:i < N) => eat_any x v i W hx (by rw [HLV.out];exact hi) (by rw [HLV.out];omega))
 have HHO:=Hd (fun (i:Nat) (W:World) => eholds_any col op (atVec v i) (k',n',t') W)
 have HH:=Hd (fun i => show lhold op (atVec v i) (k',n',t') = h i by rw [hh])
 have hmk:=run_make_oneM (P:=Tryz.prog) 52 85 (.int .u64 0) 8 Tryz.underlying52 info_u64 rfl (nw N) (by unfold nw;omega) (by unfold nw;omega)
 have hnw1:((N:Int) + 64 - 1) / 64 = (nw N:Int):=by unfold nw;omega
 clear ho hb hv hq hf hD hvT hvN hen hin hh
 go_enter Tryz.func22,Tryz.ntmps22
 go_wp2_with ((go_at_call 43;refine (HVO.out _).mono ?_;rintro e w2 ⟨rfl,rfl⟩))
 refine (HDE.out _ HG2.out).mono ?_
 rintro e w3 ⟨x,rfl,hx3,g3⟩
 have HX3:=Hd hx3
 obtain ⟨x1,x2,x3,rfl,j1,j2,j3⟩:=hx3
 obtain ⟨A1,c1,rfl⟩:=j1.slice_
 obtain ⟨A2,c2,rfl⟩:=j2.slice_
 obtain ⟨A3,c3,rfl⟩:=j3.slice_
 have HG3:=Hd (HG2.out.of_below g3)
 have HR3:=Hd (HR2.out.grow g3)
 have HP3:=Hd (HP2.out.grow g3)
 generalize v.T = T5 at *
 generalize v.is.length = n1 at *
 generalize v.ts.length = n2 at *
 generalize v.ns.length = n3 at *
 clear j1 j2 j3 g3
 go_wp2_with (refine wpList_store_vec rfl _ _ rfl w3 rfl rfl _ _ _ _ _ _ _ _ _ _ rfl ?_;intro w5 hr5 hg5;have HG5:=Hd (HG3.out.of_below hg5);have HR5:=Hd (HR3.out.grow hg5);have HP5:=Hd (HP3.out.grow hg5);have HX5:=Hd (HX3.out.grow hg5);have HV5:=Hd hr5;clear hr5 hg5)
 have HZ:=Hd (ucells_zero N h)
 have HSZ5:=Hd HG5.out.size
 obtain ⟨gk,hgk⟩:∃ g,g = w5.heap.size + 1:=⟨_,rfl⟩
 rw [← hgk]
 have HGK:=Hd hgk
 have HW0:=Hd ((Row.new w5 85 (Array.replicate (nw N) (Value.int .u64 0)) (ucells (pack N (upto h 0))) (by rw [← HZ.out];simp)).grow (growB _ (.cells #[.int .i64 (N:Int),.slice (some ⟨w5.heap.size,0,none⟩) (nw N) (nw N)] 54)))
 have HK0:=Hd (Row.at_ (w5.alloc (.cells (Array.replicate (nw N) (Value.int .u64 0)) 85)) 54 #[.int .i64 (N:Int),.slice (some ⟨w5.heap.size,0,none⟩) (nw N) (nw N)] [.int .i64 (N:Int),.slice (some ⟨w5.heap.size,0,none⟩) (nw N) (nw N)] rfl gk (by rw [hgk,World.size_alloc]))
 have HG50:=Hd ((growB w5 (.cells (Array.replicate (nw N) (Value.int .u64 0)) 85)).of_below (growB _ (.cells #[.int .i64 (N:Int),.slice (some ⟨w5.heap.size,0,none⟩) (nw N) (nw N)] 54)))
 clear hgk hmk hnw1
 go_loopw [14,40] (fun u i wr => FiltRel w w5 N gk h i wr) (fun _ i _ => N - (intOf i).toNat)
 case atStart => exact ⟨0,by omega,rfl,HW0.out,HK0.out,HG50.out⟩
 case round =>
  obtain ⟨k,hk,rfl,hrow,hkrow,hbw⟩:=hrel
  have HR:=Hd hrow
  have HK:=Hd hkrow
  have HB:=Hd hbw
  by_cases hlt:k < N
  ·have HXK:=Hd (HX5.out.grow hbw)
   have HPK:=Hd (HP5.out.grow hbw)
   have HVK:=Hd (HV5.out.grow hbw)
   have HAK:=Hd (fun W (hW:Grows wr W) => HAT.out _ k W (HXK.out.grow hW) hlt)
   have HHK:=Hd (fun W => HHO.out k W)
   rw [HH.out k] at HHK
   have HLT:=Hd hlt
   obtain ⟨hb,hhb⟩:∃ b,h k = b:=⟨_,rfl⟩
   have HHB:=Hd hhb
   rw [hhb] at HHK
   generalize atVec v k = av at *
   obtain ⟨ak,an,at'⟩:=av
   simp only [Vl.v,prV] at HAK HHK
   clear hrow hkrow hbw hhb
   go_wp2_with fail
   refine wp_region_loose (tabRs [(3,ConstV (.agg #[.int .i64 ak,.int .i64 an,.string at'])),(4,ConstV (.bool hb))]) (by kernel_rfl) (by kernel_rfl) (tabRs_cons ConstV.lasts (tabRs_cons ConstV.lasts tabRs_nil)) ?_
   iterate 1 ((with_reducible refine loose_one (v:=?_) (a':=?_) ?_ ?_ (fun w' hC' hG' => ?_) ?_ ?_);rotate_left 2;(focus rfl);(focus rfl);(focus (have f0:=(HPK.out.grow hC').cell 0;have f1:=(HPK.out.grow hC').cell 1;have f2:=(HPK.out.grow hC').cell 2;have f3:=(HPK.out.grow hC').cell 3;have f4:=(HPK.out.grow hC').cell 4;simp only [List.getElem?_cons_succ,List.getElem?_cons_zero] at f0 f1 f2 f3 f4;clear hC' hG';go_simp;rfl));(focus (go_simp;rfl)))
   iterate 2 ((with_reducible refine loose_one (v:=?_) (a':=?_) ?_ ?_ (fun w' hC' hG' => ?_) ?_ ?_);rotate_left 2;(focus rfl);(focus rfl);(focus (have f0:=(HVK.out.grow hC').cell 0;have f1:=(HVK.out.grow hC').cell 1;have f2:=(HVK.out.grow hC').cell 2;have f3:=(HVK.out.grow hC').cell 3;simp only [List.getElem?_cons_succ,List.getElem?_cons_zero] at f0 f1 f2 f3;clear hC' hG';go_simp;rfl));(focus (go_simp;rfl)))
   refine loose_call (R:=ConstV (.agg #[.int .i64 ak,.int .i64 an,.string at'])) (f:=45) (args:=#[.agg #[.int .i64 T5,.slice A1 n1 c1,.slice A2 n2 c2,.slice A3 n3 c3],.int .i64 (k:Int)]) (by rfl) (by rfl) (fun _ => by go_simp) (fun w' hC' hG' => const_loose (HAK.out w' hC')) ?_
   rintro _ ⟨_,_,rfl⟩
   refine ⟨?_,?_,?_⟩
   rotate_left
   ·go_simp
    rfl
   refine loose_call (R:=ConstV (.bool hb)) (f:=44) (args:=#[.agg #[.int .i64 col,.int .i64 op,.int .i64 k',.int .i64 n',.string t'],.agg #[.int .i64 ak,.int .i64 an,.string at']]) (by rfl) (by rfl) (fun _ => by go_simp) (fun w' hC' hG' => const_loose (HHK.out w')) ?_
   rintro _ ⟨_,_,rfl⟩
   refine ⟨?_,?_,?_⟩
   rotate_left
   ·go_simp
    rfl
   refine loose_done (fun w6 hC' hG' => ?_)
   have HB6:=Hd (HB.out.of_below hC')
   have HR6:=Hd (HR.out.grow hC')
   have HK6:=Hd (HK.out.grow hC')
   clear hG' hC'
   cases hb
   ·have HM:=Hd (bit_miss (n:=N) HHB.out)
    go_wp2_with fail
    go_roundw
    case rel => exact ⟨k + 1,by omega,by go_num,by rw [← HM.out];exact HR6.out,HK6.out,HB6.out⟩
    case measure => simp [intOf];omega
   ·have hkw:k / 64 < nw N:=by unfold nw;omega
    have hkl:k / 64 < (pack N (upto h k)).length:=by rw [pack_length];exact hkw
    have cw:=HR6.out.cell (k / 64)
    rw [ucells_get hkl] at cw
    have fw:=HR6.out.frozen (k / 64)
    have ck:=HK6.out.cell 1
    simp only [List.getElem?_cons_succ,List.getElem?_cons_zero] at ck
    have hps:=pack_set (f:=upto h k) HLT.out _ (List.getElem?_eq_getElem hkl)
    rw [bit_snoc HHB.out] at hps
    have r3:Row w6.drew w5.heap.size 85 (ucells (pack N (upto h k))):=HR6.out.grow (Below.refl _ _).drew
    have r4:Row w6.drew gk 54 [.int .i64 (N:Int),.slice (some ⟨w5.heap.size,0,none⟩) (nw N) (nw N)]:=HK6.out.grow (Below.refl _ _).drew
    have HSET:=Hd (r3.set_ (k / 64) (.int .u64 ((UInt64.ofNat ((pack N (upto h k))[k / 64].toNat ||| 2 ^ (k % 64))).toNat:Int)))
    have HR4:=Hd r4
    have HPS:=Hd hps
    have HO':=Hd (or_go' (x:=(pack N (upto h k))[k / 64]) (j:=k % 64) (by omega))
    have hxb:(pack N (upto h k))[k / 64].toNat < 18446744073709551616:=(pack N (upto h k))[k / 64].toNat_lt
    have HNG:=Hd (show w5.heap.size ≠ gk by have:=HGK.out;omega)
    clear hps r3 r4
    generalize (pack N (upto h k))[k / 64] = x at *
    have e64:IntKind.i64.wrap ((k:Int) / 64) = (k:Int) / 64:=by rw [IntKind.wrap_i64];omega
    have b0:(0:Int) ≤ (k:Int) / 64:=by omega
    have b1:(k:Int) / 64 < (nw N:Int):=by omega
    have et:((k:Int) / 64).toNat = k / 64:=by omega
    have hm0:(0:Int) ≤ (k:Int) % 64:=by omega
    have hmt:((k:Int).tmod 64) = ((k % 64:Nat):Int):=by rw [Int.tmod_eq_emod_of_nonneg (by omega)];omega
    have hm1:((k:Int) % 64).toNat = k % 64:=by omega
    go_wp2_with fail
    refine wp_region_still_tail 10 (by kernel_rfl) (by kernel_rfl) ?_
    simp only [List.take_succ_cons,List.take_zero,List.drop_succ_cons,List.drop_zero]
    change wpStill _ _ w6.drew _ _ _
    still_step
    still_step
    still_step
    still_step
    still_step
    still_step
    still_step
    still_step
    still_step
    still_step
    refine wpStill_nil ?_
    change wpList _ _ _ _ _ w6.drew
    try rw [hm1]
    rw [HO'.out]
    clear HO'
    generalize UInt64.ofNat (x.toNat ||| 2 ^ (k % 64)) = y at *
    have hyl:=y.toNat_lt
    have HY:=Hd hyl
    clear e64 hm0 hm1 hmt
    go_wp2
    go_roundw
    case rel =>
     refine ⟨k + 1,by omega,by go_num,?_,HR4.out.set_other (a:=⟨w5.heap.size,k / 64,none⟩) HNG.out _,(drawn_grows HB6.out).setCell (p:=⟨w5.heap.size,k / 64,none⟩) (Nat.le_refl _) _⟩
     have h:=HSET.out
     rw [ucells_set,HPS.out] at h
     exact h
    case measure => simp [intOf];omega
  ·have hke:k = N:=by omega
   have HA:=Hd (pack_all (f:=h) (Nat.le_of_eq hke.symm))
   have HRR:=Hd (HR5.out.grow hbw)
   have HRS:=Hd (Row.setRow_ HRR.out [.int .i64 (N:Int),.slice (some ⟨w5.heap.size,0,none⟩) (nw N) (nw N)] rfl)
   have HKW:=Hd (show wr.heap[gk]? = some (.cells #[.int .i64 (N:Int),.slice (some ⟨w5.heap.size,0,none⟩) (nw N) (nw N)] 54 (0,0)) from HK.out)
   have HGE:=Hd (HG5.out.of_below HB.out)
   have hlt5:=HR5.out.lt
   have HIP:=Hd (show IsPair (wr.setRow (w.heap.size + 1) #[.int .i64 (N:Int),.slice (some ⟨w5.heap.size,0,none⟩) (nw N) (nw N)]) (.agg #[.int .i64 (N:Int),.slice (some ⟨w5.heap.size,0,none⟩) (nw N) (nw N)]) N (pack N h) from
    ⟨_,rfl,Reads.other_row (Reads.of_row (by rw [← HA.out];exact HR.out) (nw N) (nw N) (by rw [ucells_length,pack_length]) (Nat.le_refl _)) (fun b o s n c e => by injection e with e;injection e with e;injection e with e;omega) _,by rw [pack_length];unfold nw;omega⟩)
   clear hrow hkrow hbw hke hlt5
   go_wp2_with (first
    | (refine wpList_load_row rfl _ _ rfl _ rfl _ _ _ _ HKW.out Tryz.underlying54 rfl size_set ?_)
    | (refine wpList_store_row rfl _ _ _ rfl _ #[.int .i64 (N:Int),.slice (some ⟨w5.heap.size,0,none⟩) (nw N) (nw N)] rfl rfl _ _ HRR.out size_set rfl (by simp [Value.oneCell']) ?_))
   exact bodyPost_ret (results_fil rfl _ _ _ _ _ (.int .i64 0) rfl HRS.out rfl) rfl ⟨_,by rw [HE.out],by rw [HE.out];exact HIP.out,below_setRow HGE.out (by omega) _⟩
def v7:Vec:=⟨2,[7,7,7],[],[false,false,false]⟩
theorem results_vec1 {fn:Func} {p:Tmp} (h:fn.results = #[.cell p 26]) (tmps:Array Value) (w:World) (g:Nat) (a b c d:Value) (hp:tmps.getD p undef = .pointer (some ⟨g,0,none⟩)) (hg:Row w g 26 [a,b,c,d]) :
 (results fn tmps).run Tryz.prog w = .ok (.agg #[a,b,c,d]) w:=results_cell_row h _ _ _ _ _ _ _ hp hg Tryz.underlying26 rfl sizeVec
theorem sevens_any (w:World):Calls Tryz.prog 31 #[] w fun e w' => ∃ x,e = .returned x ∧ IsV w' x v7 ∧ Grows w w':=by
 have hmk:∀ W:World,(Instr.makeSlice 24 (.int .i64 3) (.int .i64 3)).run Tryz.prog W = .ok (.slice (some ⟨W.heap.size,0,none⟩) 3 3) (W.alloc (.cells #[.bool false,.bool false,.bool false] 4)):=
  fun W => run_make_oneM (P:=Tryz.prog) 24 4 (.bool false) 1 Tryz.underlying24 info_boolM rfl 3 (by omega) (by omega) W
 obtain ⟨w1,hw1⟩:∃ w1,w1 = ((w.alloc (.cells #[.int .i64 0,.slice none 0 0,.slice none 0 0,.slice none 0 0] 26)).alloc (.cells #[.int .i64 7,.int .i64 7,.int .i64 7] 2)).alloc (.cells #[.bool false,.bool false,.bool false] 4):=⟨_,rfl⟩
 have HG:=Hd (show Grows w w1 by rw [hw1];exact ((growB _ _).of_below (growB _ _)).of_below (growB _ _))
 have HR:=Hd (show Row w1 w.heap.size 26 [.int .i64 0,.slice none 0 0,.slice none 0 0,.slice none 0 0] by rw [hw1];exact ((Row.new _ _ _ _ rfl).grow (growB _ _)).grow (growB _ _))
 have HI:=Hd (show Row w1 (w.heap.size + 1) 2 (icells [7,7,7]) by rw [hw1];exact (Row.at_ _ _ _ _ rfl _ (by simp [World.size_alloc])).grow (growB _ _))
 have HN:=Hd (show Row w1 (w.heap.size + 2) 4 (tcells [false,false,false]) by rw [hw1];exact Row.at_ _ _ _ _ rfl _ (by simp [World.size_alloc]))
 have HRS:=Hd (Row.setRow_ HR.out [.int .i64 2,.slice (some ⟨w.heap.size + 1,0,none⟩) 3 3,.slice none 0 0,.slice (some ⟨w.heap.size + 2,0,none⟩) 3 3] rfl)
 have HRW:=HR.out
 rw [hw1] at HRW
 have HRW:=Hd HRW
 have HW:=Hd hw1.symm
 clear hw1
 go_enter Tryz.func31,Tryz.ntmps31
 go_wp2_with (refine wpList_store_row rfl _ _ _ rfl _ #[.int .i64 2,.slice (some ⟨w.heap.size + 1,0,none⟩) 3 3,.slice none 0 0,.slice (some ⟨w.heap.size + 2,0,none⟩) 3 3] rfl rfl _ _ HRW.out sizeVec rfl (by simp [Value.oneCell']) ?_)
 rw [HW.out]
 refine bodyPost_ret (results_vec1 rfl _ _ _ _ _ _ _ rfl HRS.out) rfl ⟨_,rfl,⟨_,_,_,rfl,?_,Reads.nil_ _ 0,?_⟩,below_setRow HG.out (Nat.le_refl _) _⟩
 ·exact Reads.other_row (Reads.of_row HI.out 3 3 rfl (Nat.le_refl _)) (fun b o s n c e => by injection e with e;injection e with e;injection e with e;omega) _
 ·exact Reads.other_row (Reads.of_row HN.out 3 3 rfl (Nat.le_refl _)) (fun b o s n c e => by injection e with e;injection e with e;injection e with e;omega) _
theorem v7_ok:okV v7 = true:=by decide
theorem v7_in:∀ x ∈ v7.is,frIn x:=fun x hx => by
 have h:x ∈ [(7:Int),7,7]:=hx
 simp at h
 subst h
 unfold frIn;omega
theorem v7_small:Small v7:=(okV_iff.1 v7_ok).small v7_in
theorem v7_len:(formE 0 v7).length = 25:=by
 have h:pay 0 v7 = plI [7,7,7]:=rfl
 unfold formE
 rw [List.length_cons,h,plI_length]
 rfl
theorem v7_c0:cost v7 0 = 25:=by
 have h:pay 0 v7 = plI [7,7,7]:=rfl
 unfold cost
 rw [if_pos ⟨v7_ok,rfl⟩,h,plI_length]
 rfl
theorem v7_c1:cost v7 1 = 4:=by
 have h:pay 1 v7 = encR (runsR [7,7,7]):=rfl
 have h2:(encR (runsR [7,7,7])).length = 3:=by decide +kernel
 unfold cost
 rw [if_pos ⟨v7_ok,rfl⟩,h,h2]
 rfl
theorem v7_c4:cost v7 4 = -1:=if_neg fun h => by have:=h.2;revert this;decide
theorem v7_best:(chooseV v7:Int) ≠ 0:=by
 have h:cost v7 (chooseV v7) ≤ cost v7 1:=bestE_min 5 1 (by omega) (by rw [v7_c1];omega)
 rw [v7_c1] at h
 intro h0
 have h1:chooseV v7 = 0:=by omega
 rw [h1,v7_c0] at h
 omega
theorem v7_dec:decF (formE 0 v7) 2 3 = (v7,25,0):=by
 have h:=decF_enc (k:=0) (okV_iff.1 v7_ok) rfl v7_in []
 rw [List.append_nil,v7_len] at h
 exact h
theorem v7_hold (i:Nat) (hi:i < 3):lhold 1 (atVec v7 i) (2,7,⟨#[]⟩) = true:=by
 have h:atVec v7 i = (2,7,⟨#[]⟩):=by
  match i,hi with
  | 0,_ => rfl
  | 1,_ => rfl
  | 2,_ => rfl
 rw [h]
 decide
theorem v7_filt:filtF (formE 0 v7) 2 3 1 (2,7,⟨#[]⟩) = ((3,pack 3 fun i => lhold 1 (atVec v7 i) (2,7,⟨#[]⟩)),0):=filtF_ok (N:=3) (by decide) v7_dec
theorem v7_valid (h:Nat → Bool):validI 3 (pack 3 h) = true:=by
 unfold validI
 simp only [decide_eq_true_eq]
 exact ⟨by omega,by omega,okW_pack 3 h⟩
theorem v7_count (h:Nat → Bool) (hh:∀ i,i < 3 → h i = true):cnt (mem 3 (pack 3 h)) 3 = 3:=by
 have e:cnt (mem 3 (pack 3 h)) 3 = cnt (fun _ => true) 3:=cnt_congr fun i hi => by rw [mem_pack,decide_eq_true hi,hh i hi];rfl
 rw [e]
 rfl
theorem cost_cells {w:World} {bu fu cu:Nat} (h:ReadsR w (.slice (some ⟨bu,fu,none⟩) 6 cu) (costL v7)) :
 w.cell? ⟨bu,fu + 1,none⟩ = some (.int .i64 25) ∧ w.cell? ⟨bu,fu + 3,none⟩ = some (.int .i64 4) ∧ w.cell? ⟨bu,fu + 9,none⟩ = some (.int .i64 (-1)) ∧ w.cell? ⟨bu,fu + 10,none⟩ = some (.int .i64 5):=by
 obtain ⟨b,f,hA,hc⟩:=h.at_
 have hA:=hA (by rw [costL_length];omega)
 injection hA with hA
 injection hA with e1 e2 _
 subst e1 e2
 have hk:=fun k (hk:k < 6) => hc k (by rw [costL_length];exact hk)
 have h0:=(hk 0 (by omega)).2
 have h1:=(hk 1 (by omega)).2
 have h4:=(hk 4 (by omega)).2
 have h5:=(hk 5 (by omega)).1
 rw [costL_get] at h0 h1 h4 h5
 rw [v7_c0] at h0
 rw [v7_c1] at h1
 rw [v7_c4] at h4
 exact ⟨h0,h1,h4,h5⟩
theorem IsBytes.all_ {w:World} {A:Option Addr} {c n:Nat} {l:List UInt8} (h:IsBytes w (.slice A n c) l) (h0:0 < l.length):∃ b f,A = some ⟨b,f,none⟩ ∧ ∀ j,(hj:j < l.length) → w.cell? ⟨b,f + j,none⟩ = some (.int .u8 (l[j].toNat:Int)):=by
 obtain ⟨A',c',he,hc⟩:=h
 injection he with e1 _ _
 subst e1
 exact hc h0
theorem byte1 {w:World} {b f n c:Nat} (h:IsBytes w (.slice (some ⟨b,f,none⟩) n c) (formE 0 v7)):w.cell? ⟨b,f + 1,none⟩ = some (.int .u8 7):=by
 obtain ⟨b',f',he,hc⟩:=IsBytes.all_ h (by rw [v7_len];omega)
 injection he with he
 injection he with e1 e2 _
 subst e1 e2
 have h1:=hc 1 (by rw [v7_len];omega)
 have e:(formE 0 v7)[1]'(by rw [v7_len];omega) = 7:=rfl
 rw [e] at h1
 exact h1
set_option maxHeartbeats 16000000 in
theorem lives_any (w:World):Calls Tryz.prog 10 #[] w fun e w' => e = .returned (.bool true) ∧ Grows w w':=by
 have HSV:=Hd (fun W => sevens_any W)
 go_enter Tryz.func10,Tryz.ntmps10
 go_wp2_with fail
 refine (HSV.out _).mono ?_
 rintro e w1 ⟨x,rfl,hx1,g1⟩
 have HX1:=Hd hx1
 have HG1:=Hd g1
 obtain ⟨x1,x2,x3,hxe,j1,j2,j3⟩:=id hx1
 obtain ⟨A1,c1,rfl⟩:=j1.slice_
 obtain ⟨A2,c2,rfl⟩:=j2.slice_
 obtain ⟨A3,c3,rfl⟩:=j3.slice_
 have hxe:x = .agg #[.int .i64 2,.slice A1 3 c1,.slice A2 0 c2,.slice A3 3 c3]:=hxe
 subst hxe
 have HCO:=Hd (fun W (h:Grows w1 W) => eCosts_any _ v7 W (hx1.grow h) v7_small v7_ok)
 have HCH:=Hd (fun W (h:Grows w1 W) => eChoose_any _ v7 W (hx1.grow h) v7_small v7_ok)
 have HEN:=Hd (fun k W (h:Grows w1 W) => eEncode_any _ v7 k W (hx1.grow h) v7_small)
 have HB0:=Hd v7_best
 clear j1 j2 j3 hx1 g1 HSV
 generalize chooseV v7 = best at *
 have hbn:((best:Int) != 0) = true:=by simpa using HB0.out
 go_wp2_with (first
  | (refine wpList_store_vec rfl _ _ rfl w1 rfl rfl _ _ _ _ _ _ _ _ _ _ rfl ?_;intro w2 hr2 hg2;have HG2:=Hd hg2;have HVR:=Hd hr2;have HVW:=Hd (show w2.heap[w1.heap.size]? = some (.cells #[.int .i64 2,.slice A1 3 c1,.slice A2 0 c2,.slice A3 3 c3] 26 (0,0)) from hr2);clear hr2 hg2)
  | (refine wpList_load_row rfl _ _ rfl _ rfl _ _ _ _ HVW.out Tryz.underlying26 rfl sizeVec ?_))
 refine (HCO.out _ HG2.out).mono ?_
 rintro e w3 ⟨u,rfl,g3,hu⟩
 have HU3:=Hd hu
 obtain ⟨AU,cu,rfl⟩:=hu.slice_
 rw [costL_length]
 have HVR:=Hd (HVR.out.grow g3);have HVW:=Hd (show w3.heap[w1.heap.size]? = some (.cells #[.int .i64 2,.slice A1 3 c1,.slice A2 0 c2,.slice A3 3 c3] 26 (0,0)) from HVR.out)
 have HG3:=Hd (HG2.out.of_below g3)
 clear hu g3
 go_wp2_with (refine wpList_load_row rfl _ _ rfl _ rfl _ _ _ _ HVW.out Tryz.underlying26 rfl sizeVec ?_)
 refine (HEN.out 0 _ HG3.out).mono ?_
 rw [show encFV v7 0 = (formE 0 v7,0) from if_neg (by rw [v7_ok];simp)]
 rintro e w4 ⟨u4,rfl,g4,hc4⟩
 obtain ⟨A4,d4,rfl,hl4,hb4⟩:=hc4
 simp only [] at hl4 hb4
 have HB4:=Hd hb4
 have HDE:=Hd (fun W (h:Grows w4 W) => eDecode_any A4 d4 (formE 0 v7) 2 3 W (hb4.grow h) hl4 (by rw [v7_len];omega))
 have HFI:=Hd (fun W (h:Grows w4 W) => eFilter_any A4 d4 (formE 0 v7) 2 3 0 1 (2,7,⟨#[]⟩) W (hb4.grow h) hl4 (by rw [v7_len];omega))
 rw [v7_dec] at HDE
 rw [v7_filt] at HFI
 rw [v7_len] at HDE HFI ⊢
 simp only [prV] at HFI
 have HVR:=Hd (HVR.out.grow g4);have HVW:=Hd (show w4.heap[w1.heap.size]? = some (.cells #[.int .i64 2,.slice A1 3 c1,.slice A2 0 c2,.slice A3 3 c3] 26 (0,0)) from HVR.out)
 have HG4:=Hd (HG3.out.of_below g4)
 have HU3:=Hd (HU3.out.grow g4)
 clear hl4 hb4 g4
 go_wp2_with fail
 refine (HDE.out _ (Below.refl _ _)).mono ?_
 rintro e w5 ⟨y,rfl,hy5,g5⟩
 have HY5:=Hd hy5
 obtain ⟨y1,y2,y3,hye,k1,k2,k3⟩:=id hy5
 obtain ⟨D1,e1,rfl⟩:=k1.slice_
 obtain ⟨D2,e2,rfl⟩:=k2.slice_
 obtain ⟨D3,e3,rfl⟩:=k3.slice_
 have hye:y = .agg #[.int .i64 2,.slice D1 3 e1,.slice D2 0 e2,.slice D3 3 e3]:=hye
 subst hye
 have HEQ:=Hd (fun W (h:Grows w5 W) (h':Grows w1 W) => requalV_same _ _ v7 W (HY5.out.grow h) (HX1.out.grow h') (by decide) (by decide) (by decide))
 have HVR:=Hd (HVR.out.grow g5);have HVW:=Hd (show w5.heap[w1.heap.size]? = some (.cells #[.int .i64 2,.slice A1 3 c1,.slice A2 0 c2,.slice A3 3 c3] 26 (0,0)) from HVR.out)
 have HG5:=Hd (HG4.out.of_below g5)
 have HG45:=Hd g5
 have HU3:=Hd (HU3.out.grow g5)
 clear k1 k2 k3 hy5 g5
 go_wp2_with (first
  | (refine wpList_store_vec rfl _ _ rfl w5 rfl rfl _ _ _ _ _ _ _ _ _ _ rfl ?_;intro w6 hr6 hg6;have HG6:=Hd (HG5.out.of_below hg6);have HG56:=Hd hg6;have HG46:=Hd (HG45.out.of_below hg6);have HDR:=Hd hr6;have HU3:=Hd (HU3.out.grow hg6);have HVR:=Hd (HVR.out.grow hg6);have HVW:=Hd (show w6.heap[w1.heap.size]? = some (.cells #[.int .i64 2,.slice A1 3 c1,.slice A2 0 c2,.slice A3 3 c3] 26 (0,0)) from HVR.out);clear hr6 hg6)
  | (refine wpList_load_row rfl _ _ rfl _ rfl _ _ _ _ HVW.out Tryz.underlying26 rfl sizeVec ?_))
 refine (HEN.out 5 _ HG6.out).mono ?_
 rw [show encFV v7 5 = ([],7) from rfl]
 rintro e w7 ⟨u7,rfl,g7,hc7⟩
 obtain ⟨A7,d7,rfl,_,_⟩:=hc7
 have HG7:=Hd (HG6.out.of_below g7)
 have HG57:=Hd (HG56.out.of_below g7)
 have HG47:=Hd (HG46.out.of_below g7)
 have HDR:=Hd (HDR.out.grow g7)
 have HU3:=Hd (HU3.out.grow g7)
 have HVR:=Hd (HVR.out.grow g7);have HVW:=Hd (show w7.heap[w1.heap.size]? = some (.cells #[.int .i64 2,.slice A1 3 c1,.slice A2 0 c2,.slice A3 3 c3] 26 (0,0)) from HVR.out)
 clear g7
 go_wp2_with (refine wpList_load_row rfl _ _ rfl _ rfl _ _ _ _ HVW.out Tryz.underlying26 rfl sizeVec ?_)
 refine (HEN.out 6 _ HG7.out).mono ?_
 rw [show encFV v7 6 = ([],1) from rfl]
 rintro e w8 ⟨u8,rfl,g8,hc8⟩
 obtain ⟨A8,d8,rfl,_,_⟩:=hc8
 have HG8:=Hd (HG7.out.of_below g8)
 have HG58:=Hd (HG57.out.of_below g8)
 have HG48:=Hd (HG47.out.of_below g8)
 have HDR:=Hd (HDR.out.grow g8)
 have HU3:=Hd (HU3.out.grow g8)
 have HVR:=Hd (HVR.out.grow g8);have HVW:=Hd (show w8.heap[w1.heap.size]? = some (.cells #[.int .i64 2,.slice A1 3 c1,.slice A2 0 c2,.slice A3 3 c3] 26 (0,0)) from HVR.out)
 clear g8
 go_wp2_with fail
 refine (HFI.out _ HG48.out).mono ?_
 rintro e w9 ⟨s9,rfl,hs9,g9⟩
 obtain ⟨sv,rfl,hr9,hsl9⟩:=hs9
 have HHB:=Hd v7_hold
 obtain ⟨hf,hhf⟩:∃ h:Nat → Bool,h = fun i => lhold 1 (atVec v7 i) (2,7,⟨#[]⟩):=⟨_,rfl⟩
 have hhf3:∀ i,i < 3 → hf i = true:=fun i hi => by rw [hhf];exact v7_hold i hi
 simp only [] at hr9 hsl9 ⊢
 rw [← hhf] at hr9 hsl9
 obtain ⟨AS,cs,rfl,hlcs⟩:=hr9.slice_
 have hnl:(ucells (pack 3 hf)).length = 1:=by rw [ucells_length,pack_length];rfl
 rw [hnl] at hr9 ⊢
 have HRS:=Hd hr9
 have HVAL:=Hd (fun W (h:Grows w9 W) => rvalid_any (.agg #[.int .i64 3,.slice AS 1 cs]) 3 (pack 3 hf) W ⟨_,rfl,hr9.grow h,hsl9⟩ (by omega) (by omega))
 have HCNT:=Hd (fun W (h:Grows w9 W) => rcount_any (.agg #[.int .i64 3,.slice AS 1 cs]) 3 (pack 3 hf) W ⟨_,rfl,hr9.grow h,by rw [pack_length];decide,by omega⟩)
 rw [v7_valid] at HVAL
 rw [v7_count hf hhf3] at HCNT
 have HDN:=Hd (fun W => eDecode_any none 0 [] 2 0 W (IsBytes.nil_ W) (Nat.le_refl _) (by simp))
 rw [show decF [] 2 0 = (zeroV,0,2) from rfl] at HDN
 have HG9:=Hd (HG8.out.of_below g9)
 have HG59:=Hd (HG58.out.of_below g9)
 have HDR:=Hd (HDR.out.grow g9)
 have HU3:=Hd (HU3.out.grow g9)
 have HB4:=Hd (HB4.out.grow (HG48.out.of_below g9))
 have HVR:=Hd (HVR.out.grow g9)
 clear hr9 hsl9 hlcs hnl hhf hhf3 g9 HVW
 go_wp2_with (refine wpList_store_bs rfl _ _ rfl w9 rfl rfl 3 AS 1 cs rfl ?_;intro w10 hr10 hg10;have HG910:=Hd hg10;have HBS:=Hd hr10;have HG10:=Hd (HG9.out.of_below hg10);have HG510:=Hd (HG59.out.of_below hg10);have HDR:=Hd (HDR.out.grow hg10);have HU3:=Hd (HU3.out.grow hg10);have HB4:=Hd (HB4.out.grow hg10);have HVR:=Hd (HVR.out.grow hg10);clear hr10 hg10)
 refine (HDN.out _).mono ?_
 rintro e w11 ⟨z,rfl,hz11,g11⟩
 obtain ⟨z1,z2,z3,hze,l1,l2,l3⟩:=hz11
 obtain ⟨Z1,f1,rfl⟩:=l1.slice_
 obtain ⟨Z2,f2,rfl⟩:=l2.slice_
 obtain ⟨Z3,f3,rfl⟩:=l3.slice_
 have hze:z = .agg #[.int .i64 0,.slice Z1 0 f1,.slice Z2 0 f2,.slice Z3 0 f3]:=hze
 subst hze
 have HG11:=Hd (HG10.out.of_below g11)
 have HG911:=Hd (HG910.out.of_below g11)
 have HG511:=Hd (HG510.out.of_below g11)
 have HDR:=Hd (HDR.out.grow g11)
 have HU3:=Hd (HU3.out.grow g11)
 have HB4:=Hd (HB4.out.grow g11)
 have HVR:=Hd (HVR.out.grow g11)
 have HBS:=Hd (HBS.out.grow g11)
 clear l1 l2 l3 g11
 obtain ⟨bu,fu,hAU,_⟩:=HU3.out.at_
 obtain rfl:=hAU (by rw [costL_length];omega)
 clear hAU
 obtain ⟨b4,o4,rfl,_⟩:=IsBytes.all_ HB4.out (by rw [v7_len];omega)
 go_wp2_with (first
  | (refine wpList_store_vec rfl _ _ rfl w11 rfl rfl _ _ _ _ _ _ _ _ _ _ rfl ?_;intro w12 _ hg12;have HVR:=Hd (HVR.out.grow hg12);have HDR:=Hd (HDR.out.grow hg12);have HBS:=Hd (HBS.out.grow hg12);have HU3:=Hd (HU3.out.grow hg12);have HB4:=Hd (HB4.out.grow hg12);have vx0:=HVR.out.cell 0;have vx1:=HVR.out.cell 1;have vx2:=HVR.out.cell 2;have vx3:=HVR.out.cell 3;have dx0:=HDR.out.cell 0;have dx1:=HDR.out.cell 1;have dx2:=HDR.out.cell 2;have dx3:=HDR.out.cell 3;have bx0:=HBS.out.cell 0;have bx1:=HBS.out.cell 1;simp only [List.getElem?_cons_succ,List.getElem?_cons_zero] at vx0 vx1 vx2 vx3 dx0 dx1 dx2 dx3 bx0 bx1;have HG12:=Hd (HG11.out.of_below hg12);have HG912:=Hd (HG911.out.of_below hg12);have HG512:=Hd (HG511.out.of_below hg12);have ux:=cost_cells HU3.out;obtain ⟨u0,u1,u4,u5⟩:=ux;have b1:=byte1 HB4.out;clear hg12)
  | (go_at_call 20;refine (HEQ.out _ HG512.out HG12.out).mono ?_;rintro e w13 ⟨rfl,g13⟩;have HVR:=Hd (HVR.out.grow g13);have HDR:=Hd (HDR.out.grow g13);have HBS:=Hd (HBS.out.grow g13);have HU3:=Hd (HU3.out.grow g13);have HB4:=Hd (HB4.out.grow g13);have vx0:=HVR.out.cell 0;have vx1:=HVR.out.cell 1;have vx2:=HVR.out.cell 2;have vx3:=HVR.out.cell 3;have dx0:=HDR.out.cell 0;have dx1:=HDR.out.cell 1;have dx2:=HDR.out.cell 2;have dx3:=HDR.out.cell 3;have bx0:=HBS.out.cell 0;have bx1:=HBS.out.cell 1;simp only [List.getElem?_cons_succ,List.getElem?_cons_zero] at vx0 vx1 vx2 vx3 dx0 dx1 dx2 dx3 bx0 bx1;have HG13:=Hd (HG12.out.of_below g13);have HG913:=Hd (HG912.out.of_below g13);clear g13)
  | (go_at_call 27;refine (HVAL.out _ HG913.out).mono ?_;rintro e w14 ⟨rfl,g14⟩;have HVR:=Hd (HVR.out.grow g14);have HDR:=Hd (HDR.out.grow g14);have HBS:=Hd (HBS.out.grow g14);have HU3:=Hd (HU3.out.grow g14);have HB4:=Hd (HB4.out.grow g14);have vx0:=HVR.out.cell 0;have vx1:=HVR.out.cell 1;have vx2:=HVR.out.cell 2;have vx3:=HVR.out.cell 3;have dx0:=HDR.out.cell 0;have dx1:=HDR.out.cell 1;have dx2:=HDR.out.cell 2;have dx3:=HDR.out.cell 3;have bx0:=HBS.out.cell 0;have bx1:=HBS.out.cell 1;simp only [List.getElem?_cons_succ,List.getElem?_cons_zero] at vx0 vx1 vx2 vx3 dx0 dx1 dx2 dx3 bx0 bx1;have HG14:=Hd (HG13.out.of_below g14);have HG914:=Hd (HG913.out.of_below g14);clear g14)
  | (go_at_call 32;refine (HCNT.out _ HG914.out).mono ?_;rintro e w15 ⟨rfl,g15⟩;have HVR:=Hd (HVR.out.grow g15);have HDR:=Hd (HDR.out.grow g15);have HBS:=Hd (HBS.out.grow g15);have HU3:=Hd (HU3.out.grow g15);have HB4:=Hd (HB4.out.grow g15);have vx0:=HVR.out.cell 0;have vx1:=HVR.out.cell 1;have vx2:=HVR.out.cell 2;have vx3:=HVR.out.cell 3;have dx0:=HDR.out.cell 0;have dx1:=HDR.out.cell 1;have dx2:=HDR.out.cell 2;have dx3:=HDR.out.cell 3;have bx0:=HBS.out.cell 0;have bx1:=HBS.out.cell 1;simp only [List.getElem?_cons_succ,List.getElem?_cons_zero] at vx0 vx1 vx2 vx3 dx0 dx1 dx2 dx3 bx0 bx1;have HG15:=Hd (HG14.out.of_below g15);clear g15)
  | (go_at_call 16;refine (HCH.out _ HG15.out).mono ?_;rintro e w16 ⟨rfl,g16⟩;have HG16:=Hd (HG1.out.of_below (HG15.out.of_below g16));clear g16))
 go_ret
 exact ⟨rfl,HG16.out⟩
end Go.Proofs.YthmipnokimlbdaaGreat
