/-
  The law EncodingFilter returns true for every input, and its arguments read afterwards as they read before. No condition.
-/
import Derived.Test.YthmipnokimlbdaaGreatEnArg
import Derived.Test.YthmipnokimlbdaaGreatEwF
import Derived.WalkKit
import Derived.ProofKit
import Derived.OpenShut
import Derived.ShutString
import Derived.ChangeOld
import Derived.Below
set_option linter.unusedVariables false
set_option linter.unusedSimpArgs false
namespace Go.Proofs.YthmipnokimlbdaaGreat.encodingFilter
open Go.ChangeShapes Go.WideShapes Go.ChangeAt Go.RowKit
theorem walk (A0:Option Addr) (c0:Nat) (b0:List UInt8) (a1:Int) (a2:Int) (m3 o3 k3 n3:Int) (t3:ByteArray) (w:World) (r0:IsBytes w (.slice A0 b0.length c0) b0) (l0:b0.length ≤ c0) (n0:b0.length ≤ 140737488351232) (h1:(Lit.int .i64 a1).wf = true) (h2:(Lit.int .i64 a2).wf = true) (p3:(Lit.int .i64 m3).wf = true) (q3:(Lit.int .i64 o3).wf = true) :
 Calls Tryz.prog 5 #[.slice A0 b0.length c0,.int .i64 a1,.int .i64 a2,.agg #[.int .i64 m3,.int .i64 o3,.int .i64 k3,.int .i64 n3,.string t3]] w fun e w' => e = .returned (.bool true) ∧ Below w.heap.size w w':=by
 exact law_filter12 A0 c0 b0 a1 a2 m3 o3 k3 n3 t3 w r0 l0
set_option maxRecDepth 100000 in
theorem lifted (os:Os) (started:os.Started) (H:Type) (enc:TypeId × Value → H) :
 ReturnsInHanded {} Tryz.checked os 5 .any (Rows.encodingFilterSpec.pre6 enc Tryz.prog Tryz.f5 Rows.encodingFilterRow.domain false) (Rows.encodingFilterSpec.post enc Tryz.prog Tryz.f5 false true false false):=by
 refine returnsInHanded_of_change_sized (C:=Tryz.checked) own started (by kernel_rfl) Tryz.func5
  (ChangeSpec.witness6 (enc:=enc) (C:=Tryz.checked) false ⟨#[],#[.slice none 0 0,.int .i64 0,.int .i64 0,.agg #[.int .i64 0,.int .i64 0,.int .i64 0,.int .i64 0,.string ⟨#[]⟩]],[]⟩ 8 (by kernel_rfl) (by kernel_rfl) (by kernel_rfl) (by kernel_rfl)) ?_
 intro W base args ds gs before hval0 hW hcnd hsz _
 have hval:∀ (j:Nat) t v,Tryz.f5.params[j]? = some t → args[j]? = some v → Value.okWide Tryz.prog W .any base t v:=hval0
 have hW':=hW
 obtain ⟨p,q,hA0,hV,rfl,hfz,hnd⟩:=hW
 have hA:DataW.TrodAll enc Tryz.prog W 0 (fun _ => true) true Tryz.f5.params.toList args.toList ds p:=hA0
 rw [Tryz.params5] at hA hval hsz
 obtain ⟨v0,vs0,d0,ds0,p0,q0,hargs,rfl,rfl,h0,z0⟩:=trodAll_cons hA
 obtain ⟨v1,vs1,d1,ds1,p1,q1,rfl,rfl,rfl,h1,z1⟩:=trodAll_cons z0
 obtain ⟨v2,vs2,d2,ds2,p2,q2,rfl,rfl,rfl,h2,z2⟩:=trodAll_cons z1
 obtain ⟨v3,vs3,d3,ds3,p3,q3,rfl,rfl,rfl,h3,z3⟩:=trodAll_cons z2
 obtain ⟨rfl,rfl,rfl⟩:=trodAll_nil z3
 obtain rfl:args = #[v0,v1,v2,v3]:=by cases args;simp_all
 obtain ⟨rfl,rfl⟩:=trodVars_none hV
 obtain ⟨A0,c0,b0,rfl,r0,l0,s0⟩:=bytes_of_arg (hval 0 29 v0 rfl rfl) h0
 have n0:=len_of_reach hsz (j:=0) rfl rfl Tryz.underlying29 (by rw [bytesU8];decide) s0
 obtain ⟨a1,rfl,rfl,rfl,g1⟩:=open_int Tryz.underlying3 (hval 1 3 v1 rfl rfl) h1
 obtain ⟨a2,rfl,rfl,rfl,g2⟩:=open_int Tryz.underlying3 (hval 2 3 v2 rfl rfl) h2
 obtain ⟨m3,o3,k3,n3,t3,rfl,x3m,x3o⟩:=pred_of_arg (hval 3 50 v3 rfl rfl) h3
 clear hA0 hval0
 refine (walk A0 c0 b0 a1 a2 m3 o3 k3 n3 t3 W r0 l0 n0 g1 g2 x3m x3o).mono fun e W' ⟨he,bel⟩ => ?_
 subst he
 exact ⟨_,rfl,_,_,_,[],_,[],hW',trodAll_mk1 (shut_bool Tryz.underlying4 _),(trodAll_cons_mk (Below.trod laidOut (by kernel_rfl) (of_decide_eq_true (by kernel_rfl)) h0 bel (trod_lt_all h0)) (trodAll_cons_mk (shut_int Tryz.underlying3 g1) (trodAll_cons_mk (shut_int Tryz.underlying3 g2) (trodAll_cons_mk (Below.trod laidOut (by kernel_rfl) (of_decide_eq_true (by kernel_rfl)) h3 bel (trod_lt_all h3)) trodAll_mk0)))),rfl,bel.frame _,fun h => by cases h⟩
theorem over:Rows.encodingFilterRow.holds Tryz.pinned (OpenSpec.ofChange Rows.encodingFilterSpec):=
 OpenClaim.holds_of_wide 5 Tryz.f5 rfl rfl rfl rfl rfl rfl rfl ⟨rfl,rfl,rfl,rfl,rfl⟩ rfl rfl rfl rfl rfl (by kernel_rfl) Tryz.func5 (by kernel_rfl)
  (of_decide_eq_true (by kernel_rfl)) (by unfold Func.isWrapper;first | (rw [if_pos (by decide +kernel)];kernel_rfl) | (rw [if_neg (by decide +kernel)];exact ⟨rfl,rfl⟩))
  (fun os started H enc _ => lifted os started H enc)
theorem proved:Rows.EncodingFilterSaid:=over
#print axioms proved
end Go.Proofs.YthmipnokimlbdaaGreat.encodingFilter
