/-
  Shaken: what the claims of this seat need of this text. No condition.
-/
import Derived.Test.YthmipnokimlbdaaGreatM25
import Derived.Test.YthmipnokimlbdaaGreatM22
set_option linter.unusedVariables false
set_option linter.unusedSimpArgs false
namespace Go.Proofs.YthmipnokimlbdaaGreat
set_option maxRecDepth 8000
open Go.RowKit
def rhold (op:Int) (a b:Vl):Bool:=if op = 20 then false else if op = 21 then true else if a.1 = 0 ∨ a.1 ≠ b.1 ∨ op < 1 ∨ 6 < op then false else holdsV op (cmpV a.1 a.2.1 a.2.2 b.1 b.2.1 b.2.2)
theorem lhold_eq {op:Int} {a b:Vl} (h:validV a.1 a.2.1 a.2.2 = true) (h':validV b.1 b.2.1 b.2.2 = true):lhold op a b = rhold op a b:=by
 unfold lhold rhold
 rw [lcmpV_eq h h']
theorem at_valid {v:Vec} {i:Nat} (h:Encable v) (hi:i < lenE v):validV (atVec v i).1 (atVec v i).2.1 (atVec v i).2.2 = true:=by
 have hc:=chk0 h.chk
 by_cases hT:v.T = 3
 ·have hi':i < v.ts.length:=by unfold lenE at hi;rwa [if_pos hT] at hi
  have hl:=hc.2 v.ts[i] (List.getElem_mem hi')
  have hg:v.ts.getD i [] = v.ts[i]:=by rw [List.getD_eq_getElem?_getD,List.getElem?_eq_getElem hi'];rfl
  unfold atVec
  rw [if_pos hT,hg]
  unfold validV
  simp [strOf_size']
  exact hl
 ·have hi':i < v.is.length:=by unfold lenE at hi;rwa [if_neg hT] at hi
  have hg:v.is.getD i 0 = v.is[i]:=by rw [List.getD_eq_getElem?_getD,List.getElem?_eq_getElem hi'];rfl
  unfold atVec
  rw [if_neg hT,hg]
  have ht:=okT_in h.t
  have h12:v.T = 1 ∨ v.T = 2:=by omega
  rcases h12 with h1 | h2
  ·have hb:=hc.1 h1
   have hbi:badBool v.is[i] = false:=by
    rw [List.any_eq_false] at hb
    simpa using hb _ (List.getElem_mem hi')
   unfold badBool at hbi
   unfold validV
   simp [h1]
   simp at hbi
   omega
  ·unfold validV
   simp [h2]
set_option maxHeartbeats 4000000 in
theorem r12at_any (x:Value) (v:Vec) (i:Nat) (w:World) (hx:IsV w x v) (hi:i < lenE v) (hl:lenE v ≤ 1000000) :
 Calls Tryz.prog 30 #[x,.int .i64 (i:Int)] w fun e w' => e = .returned (Vl.v (atVec v i)) ∧ Grows w w':=by
 obtain ⟨T,is,ts,ns⟩:=v
 obtain ⟨a1,a2,a3,rfl,j1,j2,j3⟩:=hx
 dsimp only at *
 obtain ⟨A1,c1,rfl⟩:=j1.slice_
 obtain ⟨A2,c2,rfl⟩:=j2.slice_
 obtain ⟨A3,c3,rfl⟩:=j3.slice_
 have HG2:=Hd ((growB w (.cells #[.int .i64 T,.slice A1 is.length c1,.slice A2 ts.length c2,.slice A3 ns.length c3] 26)).of_below (growB _ (.cells #[.int .i64 0,.int .i64 0,.string ⟨#[]⟩] 48)))
 have HR:=Hd (Row.at_ (w.alloc (.cells #[.int .i64 T,.slice A1 is.length c1,.slice A2 ts.length c2,.slice A3 ns.length c3] 26)) 48 #[.int .i64 0,.int .i64 0,.string ⟨#[]⟩] [.int .i64 0,.int .i64 0,.string ⟨#[]⟩] rfl (w.heap.size + 1) (by rw [World.size_alloc]))
 have HRW:Hid (((w.alloc (.cells #[.int .i64 T,.slice A1 is.length c1,.slice A2 ts.length c2,.slice A3 ns.length c3] 26)).alloc (.cells #[.int .i64 0,.int .i64 0,.string ⟨#[]⟩] 48)).heap[w.heap.size + 1]? = some (.cells #[.int .i64 0,.int .i64 0,.string ⟨#[]⟩] 48 (0,0))):=HR.out
 by_cases hT:T = 3
 ·subst hT
  have hi':i < ts.length:=hi
  have hl':ts.length ≤ 1000000:=hl
  obtain ⟨b,f,rfl,hck⟩:=(j2.grow HG2.out).at_ hi'
  have HE:=Hd (show atVec ⟨3,is,ts,ns⟩ i = (3,0,strOf ts[i]) by unfold atVec;rw [if_pos rfl];simp only [List.getD_eq_getElem?_getD,List.getElem?_eq_getElem hi'];rfl)
  have HRS:=Hd (fun s => Row.setRow_ HR.out [.int .i64 3,.int .i64 0,.string s] rfl)
  generalize strOf ts[i] = s at *
  clear j1 j2 j3 hi hl
  go_enter Tryz.func30,Tryz.ntmps30
  go_wp2_with (refine wpList_store_row rfl _ _ _ rfl _ _ rfl rfl _ _ HRW.out size_val rfl (by simp [Value.oneCell']) ?_)
  exact bodyPost_ret (results_val rfl _ _ _ _ _ _ rfl (HRS.out _)) rfl ⟨by rw [HE.out],below_setRow HG2.out (by omega) _⟩
 ·have hi':i < is.length:=by unfold lenE at hi;rwa [if_neg hT] at hi
  have hl':is.length ≤ 1000000:=by unfold lenE at hl;rwa [if_neg hT] at hl
  obtain ⟨b,f,rfl,hck⟩:=(j1.grow HG2.out).at_ hi'
  have HE:=Hd (show atVec ⟨T,is,ts,ns⟩ i = (T,is[i],⟨#[]⟩) by unfold atVec;rw [if_neg hT];simp only [List.getD_eq_getElem?_getD,List.getElem?_eq_getElem hi'];rfl)
  have eT:(T == 3) = false:=by simpa using hT
  have HRS:=Hd (fun n => Row.setRow_ HR.out [.int .i64 T,.int .i64 n,.string ⟨#[]⟩] rfl)
  generalize is[i] = n at *
  clear j1 j2 j3 hi hl hT
  go_enter Tryz.func30,Tryz.ntmps30
  go_wp2_with fail
  go_region
  have HGQ:=Hd (drawn_grows ((growB w (.cells #[.int .i64 T,.slice (some ⟨b,f,none⟩) is.length c1,.slice A2 ts.length c2,.slice A3 ns.length c3] 26)).of_below (growB _ (.cells #[.int .i64 T,.int .i64 n,.string ⟨#[]⟩] 48))))
  have HRQ:=Hd (show Row ((w.alloc (.cells #[.int .i64 T,.slice (some ⟨b,f,none⟩) is.length c1,.slice A2 ts.length c2,.slice A3 ns.length c3] 26)).alloc (.cells #[.int .i64 T,.int .i64 n,.string ⟨#[]⟩] 48)).drew (w.heap.size + 1) 48 [.int .i64 T,.int .i64 n,.string ⟨#[]⟩] from Row.at_ (w.alloc (.cells #[.int .i64 T,.slice (some ⟨b,f,none⟩) is.length c1,.slice A2 ts.length c2,.slice A3 ns.length c3] 26)) 48 #[.int .i64 T,.int .i64 n,.string ⟨#[]⟩] _ rfl (w.heap.size + 1) (by rw [World.size_alloc]))
  go_wp2_with fail
  exact bodyPost_ret (results_val rfl _ _ _ _ _ _ rfl HRQ.out) rfl ⟨by rw [HE.out],HGQ.out⟩
set_option maxHeartbeats 4000000 in
theorem r12holds_any (col op:Int) (a b:Vl) (w:World):Calls Tryz.prog 29 #[prV col op b,Vl.v a] w fun e w' => e = .returned (.bool (rhold op a b)) ∧ Grows w w':=by
 obtain ⟨k,n,t⟩:=a
 obtain ⟨k',n',t'⟩:=b
 simp only [Vl.v,prV]
 have HG2:=Hd ((growB w (.cells #[.int .i64 col,.int .i64 op,.int .i64 k',.int .i64 n',.string t'] 50)).of_below (growB _ (.cells #[.int .i64 k,.int .i64 n,.string t] 48)))
 by_cases h20:op = 20
 ·subst h20
  have HE:=Hd (show rhold 20 (k,n,t) (k',n',t') = false from if_pos rfl)
  go_enter Tryz.func29,Tryz.ntmps29
  go_wp2_with fail
  go_ret
  exact ⟨retB1 HE.out.symm,HG2.out⟩
 by_cases h21:op = 21
 ·subst h21
  have HE:=Hd (show rhold 21 (k,n,t) (k',n',t') = true from rfl)
  clear h20
  go_enter Tryz.func29,Tryz.ntmps29
  go_wp2_with fail
  go_ret
  exact ⟨retB1 HE.out.symm,HG2.out⟩
 have e20:(op == 20) = false:=by simpa using h20
 have e21:(op == 21) = false:=by simpa using h21
 have HT:=Hd (fun W => rtest_any op k n k' n' t t' W)
 have HX:(testV op k n t k' n' t' = nullV ∧ rhold op (k,n,t) (k',n',t') = false) ∨ (testV op k n t k' n' t' = .agg #[.int .i64 1,.int .i64 1,.string ⟨#[]⟩] ∧ rhold op (k,n,t) (k',n',t') = true) ∨ (testV op k n t k' n' t' = .agg #[.int .i64 1,.int .i64 0,.string ⟨#[]⟩] ∧ rhold op (k,n,t) (k',n',t') = false):=by
  unfold rhold testV
  rw [if_neg h20,if_neg h21]
  dsimp only
  by_cases hc:k = 0 ∨ k ≠ k' ∨ op < 1 ∨ 6 < op
  ·rw [if_pos hc,if_pos hc];exact .inl ⟨rfl,rfl⟩
  ·rw [if_neg hc,if_neg hc]
   cases holdsV op (cmpV k n t k' n' t')
   ·exact .inr (.inr ⟨rfl,rfl⟩)
   ·exact .inr (.inl ⟨rfl,rfl⟩)
 clear h20 h21
 rcases HX with ⟨hv,hr⟩ | ⟨hv,hr⟩ | ⟨hv,hr⟩
 all_goals
  rw [hv] at HT
  have HR:=Hd hr
  clear hv hr
  try unfold nullV at HT
  go_enter Tryz.func29,Tryz.ntmps29
  go_wp2_with ((go_at_call 46;refine (HT.out _).mono ?_;rintro e w3 ⟨rfl,g3⟩;have HG3:=Hd (HG2.out.of_below g3);clear g3))
  go_ret
  exact ⟨retB1 HR.out.symm,HG3.out⟩
end Go.Proofs.YthmipnokimlbdaaGreat
