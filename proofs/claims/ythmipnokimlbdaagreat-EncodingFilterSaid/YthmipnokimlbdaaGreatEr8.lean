/-
  Shaken: what the claims of this seat need of this text. No condition.
-/
import Derived.Test.YthmipnokimlbdaaGreatM25
import Derived.Test.YthmipnokimlbdaaGreatEr3
import Derived.Test.YthmipnokimlbdaaGreatM21
set_option linter.unusedVariables false
set_option linter.unusedSimpArgs false
namespace Go.Proofs.YthmipnokimlbdaaGreat
set_option maxRecDepth 8000
open Go.RowKit
set_option maxHeartbeats 16000000 in
theorem rFilter12_any (A:Option Addr) (c:Nat) (b:List UInt8) (T n col op:Int) (bv:Vl) (w:World) (hb:IsBytes w (.slice A b.length c) b) (hlc:b.length ≤ c) (hl:b.length ≤ 1000000) (hpv:validV bv.1 bv.2.1 bv.2.2 = true) :
 Calls Tryz.prog 23 #[.slice A b.length c,.int .i64 T,.int .i64 n,prV col op bv] w (FilR (filtF b T n op bv) w):=by
 obtain ⟨k',n',t'⟩:=bv
 simp only [prV]
 have HDE:=Hd (fun W (h:Grows w W) => rDecode12_any A c b T n W (hb.grow h) hlc hl)
 have HG2:=Hd ((growB w (.cells #[.int .i64 col,.int .i64 op,.int .i64 k',.int .i64 n',.string t'] 50)).of_below (growB _ (.cells #[.int .i64 0,.slice none 0 0] 54)))
 have HP2:=Hd ((Row.new w 50 #[.int .i64 col,.int .i64 op,.int .i64 k',.int .i64 n',.string t'] [.int .i64 col,.int .i64 op,.int .i64 k',.int .i64 n',.string t'] rfl).grow (growB _ (.cells #[.int .i64 0,.slice none 0 0] 54)))
 have HR2:=Hd (Row.at_ (w.alloc (.cells #[.int .i64 col,.int .i64 op,.int .i64 k',.int .i64 n',.string t'] 50)) 54 #[.int .i64 0,.slice none 0 0] [.int .i64 0,.slice none 0 0] rfl (w.heap.size + 1) (by rw [World.size_alloc]))
 obtain ⟨o,ho⟩:∃ o,okOp op = o:=⟨_,rfl⟩
 cases o
 ·have HE:=Hd (show filtF b T n op (k',n',t') = ((0,[]),1) from filtF_a ho)
  have HRS:=Hd (Row.setRow_ HR2.out [.int .i64 0,.slice none 0 0] rfl)
  have hcs:(decide (op < 1) = true ∧ (op != 20) = true ∧ (op != 21) = true) ∨ (decide (op < 1) = false ∧ decide (6 < op) = true ∧ (op != 20) = true ∧ (op != 21) = true):=by
   unfold okOp at ho
   simp at ho
   by_cases h:op < 1
   ·exact .inl ⟨by simpa using h,by simp;omega,by simp;omega⟩
   ·exact .inr ⟨by simpa using h,by simp;omega,by simp;omega,by simp;omega⟩
  clear ho hb
  rcases hcs with ⟨d1,d20,d21⟩ | ⟨d1,d6,d20,d21⟩
  all_goals
   go_enter Tryz.func23,Tryz.ntmps23
   go_wp2_with (first
    | fail
    | (refine wpList_store_row rfl _ _ _ rfl _ #[.int .i64 0,.slice none 0 0] rfl rfl _ _ HR2.out size_set rfl (by simp [Value.oneCell']) ?_))
   exact bodyPost_ret (results_fil rfl _ _ _ _ _ (.int .i64 1) rfl HRS.out rfl) rfl (FilR.no HE.out (below_setRow HG2.out (by omega) _))
 have hcs:(decide (op < 1) = false ∧ decide (6 < op) = false) ∨ (decide (op < 1) = false ∧ decide (6 < op) = true ∧ (op != 20) = false) ∨ (decide (op < 1) = false ∧ decide (6 < op) = true ∧ (op != 20) = true ∧ (op != 21) = false):=by
  unfold okOp at ho
  simp at ho
  rcases ho with (h | h) | h
  ·exact .inl ⟨by simp;omega,by simp;omega⟩
  ·exact .inr (.inl ⟨by simp;omega,by simp;omega,by simp;omega⟩)
  ·exact .inr (.inr ⟨by simp;omega,by simp;omega,by simp;omega,by simp;omega⟩)
 obtain ⟨v,hv⟩:∃ v,(decF b T n).1 = v:=⟨_,rfl⟩
 obtain ⟨q,hq⟩:∃ q,(decF b T n).2.1 = q:=⟨_,rfl⟩
 obtain ⟨f,hf⟩:∃ f,(decF b T n).2.2 = f:=⟨_,rfl⟩
 have hD:decF b T n = (v,q,f):=by rw [← hv,← hq,← hf]
 rw [hD] at HDE
 by_cases hf0:f = 0
 case neg =>
  have HE:=Hd (show filtF b T n op (k',n',t') = ((0,[]),f) from filtF_e ho hD hf0)
  have hne:(f != 0) = true:=by simpa using hf0
  clear ho hb hv hq hf hD hf0 hpv
  rcases hcs with ⟨d1,d6⟩ | ⟨d1,d6,d20⟩ | ⟨d1,d6,d20,d21⟩
  all_goals
   go_enter Tryz.func23,Tryz.ntmps23
   go_wp2_with (fail)
   refine (HDE.out _ HG2.out).mono ?_
   rintro e w3 ⟨x,rfl,hx3,g3⟩
   obtain ⟨x1,x2,x3,rfl,j1,j2,j3⟩:=hx3
   obtain ⟨A1,c1,rfl⟩:=j1.slice_
   obtain ⟨A2,c2,rfl⟩:=j2.slice_
   obtain ⟨A3,c3,rfl⟩:=j3.slice_
   have HG3:=Hd (HG2.out.of_below g3)
   have HR3:=Hd (HR2.out.grow g3)
   clear j1 j2 j3 g3
   go_wp2_with (first
    | (refine wpList_store_vec rfl _ _ rfl w3 rfl rfl _ _ _ _ _ _ _ _ _ _ rfl ?_;intro w4 hr4 hg4;have HG4:=Hd (HG3.out.of_below hg4);have HR4:=Hd (HR3.out.grow hg4);have HRS:=Hd (Row.setRow_ HR4.out [.int .i64 0,.slice none 0 0] rfl);clear hr4 hg4)
    | (refine wpList_store_row rfl _ _ _ rfl _ #[.int .i64 0,.slice none 0 0] rfl rfl _ _ HR4.out size_set rfl (by simp [Value.oneCell']) ?_))
   exact bodyPost_ret (results_fil rfl _ _ _ _ _ (.int .i64 f) rfl HRS.out rfl) rfl (FilR.no HE.out (below_setRow HG4.out (by omega) _))
 subst hf0
 obtain ⟨v',N,q',rfl,hD2,hvT,hvN,hen,hin⟩:=decF_ok hf
 rw [hD] at hD2
 injection hD2 with e1 e2
 subst e1
 clear e2
 obtain ⟨h,hh⟩:∃ h:Nat → Bool,h = fun i => lhold op (atVec v i) (k',n',t'):=⟨_,rfl⟩
 have HE:=Hd (show filtF b T N op (k',n',t') = (((N:Int),pack N h),0) by rw [hh];exact filtF_ok ho hD)
 have hN6:N ≤ 65536:=by rw [← hvN];exact hen.len
 have HLV:=Hd (show lenE v = N by
  unfold lenE
  split
  ·rw [← hvN];exact (hen.lt (by assumption)).1
  ·rw [← hvN];exact (hen.li (by assumption)).1)
 have HAT:=Hd (fun (x:Value) (i:Nat) (W:World) (hx:IsV W x v) (hi:i < N) => r12at_any x v i W hx (by rw [HLV.out];exact hi) (by rw [HLV.out];omega))
 have HHO:=Hd (fun (i:Nat) (W:World) => r12holds_any col op (atVec v i) (k',n',t') W)
 have HH:=Hd (fun i (hi:i < N) => show rhold op (atVec v i) (k',n',t') = h i by rw [hh];exact (lhold_eq (at_valid hen (by rw [HLV.out];exact hi)) hpv).symm)
 have hmk:=run_make_oneM (P:=Tryz.prog) 52 85 (.int .u64 0) 8 Tryz.underlying52 info_u64 rfl (nw N) (by unfold nw;omega) (by unfold nw;omega)
 have hnw1:((N:Int) + 63) / 64 = (nw N:Int):=by unfold nw;omega
 clear ho hb hv hq hf hD hvT hvN hen hin hh hpv
 rcases hcs with ⟨d1,d6⟩ | ⟨d1,d6,d20⟩ | ⟨d1,d6,d20,d21⟩
 all_goals
  go_enter Tryz.func23,Tryz.ntmps23
  go_wp2_with (fail)
  refine (HDE.out _ HG2.out).mono ?_
  rintro e w3 ⟨x,rfl,hx3,g3⟩
  have HX3:=Hd hx3
  obtain ⟨x1,x2,x3,rfl,j1,j2,j3⟩:=hx3
  obtain ⟨A1,c1,rfl⟩:=j1.slice_
  obtain ⟨A2,c2,rfl⟩:=j2.slice_
  obtain ⟨A3,c3,rfl⟩:=j3.slice_
  have HG3:=Hd (HG2.out.of_below g3)
  have HR3:=Hd (HR2.out.grow g3)
  have HP3:=Hd (HP2.out.grow g3)
  generalize v.T = T5 at *
  generalize v.is.length = n1 at *
  generalize v.ts.length = n2 at *
  generalize v.ns.length = n3 at *
  clear j1 j2 j3 g3
  go_wp2_with (refine wpList_store_vec rfl _ _ rfl w3 rfl rfl _ _ _ _ _ _ _ _ _ _ rfl ?_;intro w5 hr5 hg5;have HG5:=Hd (HG3.out.of_below hg5);have HR5:=Hd (HR3.out.grow hg5);have HP5:=Hd (HP3.out.grow hg5);have HX5:=Hd (HX3.out.grow hg5);have HV5:=Hd hr5;clear hr5 hg5)
  have HZ:=Hd (ucells_zero N h)
  have HSZ5:=Hd HG5.out.size
  obtain ⟨gk,hgk⟩:∃ g,g = w5.heap.size + 1:=⟨_,rfl⟩
  rw [← hgk]
  have HGK:=Hd hgk
  have HW0:=Hd ((Row.new w5 85 (Array.replicate (nw N) (Value.int .u64 0)) (ucells (pack N (upto h 0))) (by rw [← HZ.out];simp)).grow (growB _ (.cells #[.int .i64 (N:Int),.slice (some ⟨w5.heap.size,0,none⟩) (nw N) (nw N)] 54)))
  have HK0:=Hd (Row.at_ (w5.alloc (.cells (Array.replicate (nw N) (Value.int .u64 0)) 85)) 54 #[.int .i64 (N:Int),.slice (some ⟨w5.heap.size,0,none⟩) (nw N) (nw N)] [.int .i64 (N:Int),.slice (some ⟨w5.heap.size,0,none⟩) (nw N) (nw N)] rfl gk (by rw [hgk,World.size_alloc]))
  have HG50:=Hd ((growB w5 (.cells (Array.replicate (nw N) (Value.int .u64 0)) 85)).of_below (growB _ (.cells #[.int .i64 (N:Int),.slice (some ⟨w5.heap.size,0,none⟩) (nw N) (nw N)] 54)))
  clear hgk hmk hnw1
  go_loopw [14] (fun i wr => FiltRel w w5 N gk h i wr) (fun i _ => N - (intOf i).toNat)
  case atStart => exact ⟨0,by omega,rfl,HW0.out,HK0.out,HG50.out⟩
  case round =>
   obtain ⟨k,hk,rfl,hrow,hkrow,hbw⟩:=hrel
   have HR:=Hd hrow
   have HK:=Hd hkrow
   have HB:=Hd hbw
   by_cases hlt:k < N
   ·have HXK:=Hd (HX5.out.grow hbw)
    have HPK:=Hd (HP5.out.grow hbw)
    have HVK:=Hd (HV5.out.grow hbw)
    have HAK:=Hd (fun W (hW:Grows wr W) => HAT.out _ k W (HXK.out.grow hW) hlt)
    have HHK:=Hd (fun W => HHO.out k W)
    rw [HH.out k hlt] at HHK
    have HLT:=Hd hlt
    obtain ⟨hb,hhb⟩:∃ b,h k = b:=⟨_,rfl⟩
    have HHB:=Hd hhb
    rw [hhb] at HHK
    generalize atVec v k = av at *
    obtain ⟨ak,an,at'⟩:=av
    simp only [Vl.v,prV] at HAK HHK
    clear hrow hkrow hbw hhb
    go_wp2_with fail
    refine wp_region_loose (tabRs [(3,ConstV (.agg #[.int .i64 ak,.int .i64 an,.string at'])),(4,ConstV (.bool hb))]) (by kernel_rfl) (by kernel_rfl) (tabRs_cons ConstV.lasts (tabRs_cons ConstV.lasts tabRs_nil)) ?_
    iterate 1 ((with_reducible refine loose_one (v:=?_) (a':=?_) ?_ ?_ (fun w' hC' hG' => ?_) ?_ ?_);rotate_left 2;(focus rfl);(focus rfl);(focus (have f0:=(HPK.out.grow hC').cell 0;have f1:=(HPK.out.grow hC').cell 1;have f2:=(HPK.out.grow hC').cell 2;have f3:=(HPK.out.grow hC').cell 3;have f4:=(HPK.out.grow hC').cell 4;simp only [List.getElem?_cons_succ,List.getElem?_cons_zero] at f0 f1 f2 f3 f4;clear hC' hG';go_simp;rfl));(focus (go_simp;rfl)))
    iterate 2 ((with_reducible refine loose_one (v:=?_) (a':=?_) ?_ ?_ (fun w' hC' hG' => ?_) ?_ ?_);rotate_left 2;(focus rfl);(focus rfl);(focus (have f0:=(HVK.out.grow hC').cell 0;have f1:=(HVK.out.grow hC').cell 1;have f2:=(HVK.out.grow hC').cell 2;have f3:=(HVK.out.grow hC').cell 3;simp only [List.getElem?_cons_succ,List.getElem?_cons_zero] at f0 f1 f2 f3;clear hC' hG';go_simp;rfl));(focus (go_simp;rfl)))
    refine loose_call (R:=ConstV (.agg #[.int .i64 ak,.int .i64 an,.string at'])) (f:=30) (args:=#[.agg #[.int .i64 T5,.slice A1 n1 c1,.slice A2 n2 c2,.slice A3 n3 c3],.int .i64 (k:Int)]) (by rfl) (by rfl) (fun _ => by go_simp) (fun w' hC' hG' => const_loose (HAK.out w' hC')) ?_
    rintro _ ⟨_,_,rfl⟩
    refine ⟨?_,?_,?_⟩
    rotate_left
    ·go_simp
     rfl
    refine loose_call (R:=ConstV (.bool hb)) (f:=29) (args:=#[.agg #[.int .i64 col,.int .i64 op,.int .i64 k',.int .i64 n',.string t'],.agg #[.int .i64 ak,.int .i64 an,.string at']]) (by rfl) (by rfl) (fun _ => by go_simp) (fun w' hC' hG' => const_loose (HHK.out w')) ?_
    rintro _ ⟨_,_,rfl⟩
    refine ⟨?_,?_,?_⟩
    rotate_left
    ·go_simp
     rfl
    refine loose_done (fun w6 hC' hG' => ?_)
    have HB6:=Hd (HB.out.of_below hC')
    have HR6:=Hd (HR.out.grow hC')
    have HK6:=Hd (HK.out.grow hC')
    clear hG' hC'
    cases hb
    ·have HM:=Hd (bit_miss (n:=N) HHB.out)
     go_wp2_with fail
     go_roundw
     case rel => exact ⟨k + 1,by omega,by go_num,by rw [← HM.out];exact HR6.out,HK6.out,HB6.out⟩
     case measure => simp [intOf];omega
    ·have hkw:k / 64 < nw N:=by unfold nw;omega
     have hkl:k / 64 < (pack N (upto h k)).length:=by rw [pack_length];exact hkw
     have cw:=HR6.out.cell (k / 64)
     rw [ucells_get hkl] at cw
     have fw:=HR6.out.frozen (k / 64)
     have ck:=HK6.out.cell 1
     simp only [List.getElem?_cons_succ,List.getElem?_cons_zero] at ck
     have hps:=pack_set (f:=upto h k) HLT.out _ (List.getElem?_eq_getElem hkl)
     rw [bit_snoc HHB.out] at hps
     have r3:Row w6 w5.heap.size 85 (ucells (pack N (upto h k))):=HR6.out
     have r4:Row w6 gk 54 [.int .i64 (N:Int),.slice (some ⟨w5.heap.size,0,none⟩) (nw N) (nw N)]:=HK6.out
     have HSET:=Hd (r3.set_ (k / 64) (.int .u64 ((UInt64.ofNat ((pack N (upto h k))[k / 64].toNat ||| 2 ^ (k % 64))).toNat:Int)))
     have HR4:=Hd r4
     have HPS:=Hd hps
     have HO':=Hd (or_go' (x:=(pack N (upto h k))[k / 64]) (j:=k % 64) (by omega))
     have hxb:(pack N (upto h k))[k / 64].toNat < 18446744073709551616:=(pack N (upto h k))[k / 64].toNat_lt
     have HNG:=Hd (show w5.heap.size ≠ gk by have:=HGK.out;omega)
     clear hps r3 r4
     generalize (pack N (upto h k))[k / 64] = x at *
     have e64:IntKind.i64.wrap ((k:Int) / 64) = (k:Int) / 64:=by rw [IntKind.wrap_i64];omega
     have b0:(0:Int) ≤ (k:Int) / 64:=by omega
     have b1:(k:Int) / 64 < (nw N:Int):=by omega
     have et:((k:Int) / 64).toNat = k / 64:=by omega
     have hm0:(0:Int) ≤ (k:Int) % 64:=by omega
     have hmt:((k:Int).tmod 64) = ((k % 64:Nat):Int):=by rw [Int.tmod_eq_emod_of_nonneg (by omega)];omega
     have hm1:((k:Int) % 64).toNat = k % 64:=by omega
     go_wp2_with fail
     try rw [hm1]
     rw [HO'.out]
     clear HO'
     generalize UInt64.ofNat (x.toNat ||| 2 ^ (k % 64)) = y at *
     have hyl:=y.toNat_lt
     have HY:=Hd hyl
     clear e64 hm0 hm1 hmt
     go_wp2
     go_roundw
     case rel =>
      refine ⟨k + 1,by omega,by go_num,?_,HR4.out.set_other (a:=⟨w5.heap.size,k / 64,none⟩) HNG.out _,HB6.out.setCell (p:=⟨w5.heap.size,k / 64,none⟩) (Nat.le_refl _) _⟩
      have h:=HSET.out
      rw [ucells_set,HPS.out] at h
      exact h
     case measure => simp [intOf];omega
   ·have hke:k = N:=by omega
    have HA:=Hd (pack_all (f:=h) (Nat.le_of_eq hke.symm))
    have HRR:=Hd (HR5.out.grow hbw)
    have HRS:=Hd (Row.setRow_ HRR.out [.int .i64 (N:Int),.slice (some ⟨w5.heap.size,0,none⟩) (nw N) (nw N)] rfl)
    have HKW:=Hd (show wr.heap[gk]? = some (.cells #[.int .i64 (N:Int),.slice (some ⟨w5.heap.size,0,none⟩) (nw N) (nw N)] 54 (0,0)) from HK.out)
    have HGE:=Hd (HG5.out.of_below HB.out)
    have hlt5:=HR5.out.lt
    have HIP:=Hd (show IsPair (wr.setRow (w.heap.size + 1) #[.int .i64 (N:Int),.slice (some ⟨w5.heap.size,0,none⟩) (nw N) (nw N)]) (.agg #[.int .i64 (N:Int),.slice (some ⟨w5.heap.size,0,none⟩) (nw N) (nw N)]) N (pack N h) from
     ⟨_,rfl,Reads.other_row (Reads.of_row (by rw [← HA.out];exact HR.out) (nw N) (nw N) (by rw [ucells_length,pack_length]) (Nat.le_refl _)) (fun b o s n c e => by injection e with e;injection e with e;injection e with e;omega) _,by rw [pack_length];unfold nw;omega⟩)
    clear hrow hkrow hbw hke hlt5
    go_wp2_with (first
     | (refine wpList_load_row rfl _ _ rfl _ rfl _ _ _ _ HKW.out Tryz.underlying54 rfl size_set ?_)
     | (refine wpList_store_row rfl _ _ _ rfl _ #[.int .i64 (N:Int),.slice (some ⟨w5.heap.size,0,none⟩) (nw N) (nw N)] rfl rfl _ _ HRR.out size_set rfl (by simp [Value.oneCell']) ?_))
    exact bodyPost_ret (results_fil rfl _ _ _ _ _ (.int .i64 0) rfl HRS.out rfl) rfl ⟨_,by rw [HE.out],by rw [HE.out];exact HIP.out,below_setRow HGE.out (by omega) _⟩
end Go.Proofs.YthmipnokimlbdaaGreat
