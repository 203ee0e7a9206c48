/-
  Shaken: what the claims of this seat need of this text. No condition.
-/
import Derived.Test.YthmipnokimlbdaaGreatRows
import Derived.Test.YthmipnokimlbdaaGreatM17
import Derived.ProofKit
import Derived.OpenShut
import Derived.SizedLaws
import Derived.Lib.SmallJoins
import Derived.Deep.Slices
import Derived.Deep.Strs
import Derived.Deep.Grids
import Derived.ChangeSame
set_option linter.unusedVariables false
set_option linter.unusedSimpArgs false
namespace Go.Proofs.YthmipnokimlbdaaGreat
open Go.ChangeShapes Go.WideShapes Go.ChangeAt Go.RowKit Go.Joins Go.Deep
set_option maxRecDepth 100000
theorem own:ownKnob Tryz.prog.godebug = none:=by kernel_rfl
theorem laidOut:laidOutB Tryz.prog = true:=by kernel_rfl
theorem cellsStr:Tryz.prog.cellsOf 9 = 1:=by kernel_rfl
theorem bytesU8:Tryz.prog.bytesOf 5 = 1:=by kernel_rfl
section
variable {H:Type} {enc:TypeId × Value → H} {W:World}
def LenD {α:Type} (l:List α) (d:DataW H):Prop:=l = [] ∨ ∃ e s,d = .slice e s ∧ l.length = e.length
theorem LenD.le {α:Type} {l:List α} {d:DataW H} (hl:LenD l d) {t e:TypeId} (hu:Tryz.prog.underlying t = some (.slice e)) (hb:1 ≤ Tryz.prog.bytesOf e) (hw:∀ n ∈ d.weights Tryz.prog t,n ≤ reachBytes):l.length ≤ 1000000000000000:=by
 rcases hl with rfl | ⟨a,s,rfl,hl⟩
 ·simp
 ·have h1:=hw ((a.length + s.length) * Tryz.prog.bytesOf e) (by simp [DataW.weights,hu])
  rw [show reachBytes = 140737488351232 from rfl] at h1
  have h2:a.length * 1 ≤ (a.length + s.length) * Tryz.prog.bytesOf e:=Nat.mul_le_mul (by omega) hb
  omega
theorem cellsPred:Tryz.prog.cellsOf 50 = 5:=by kernel_rfl
theorem cellsVal12:Tryz.prog.cellsOf 48 = 3:=by kernel_rfl
theorem cellsInt12:Tryz.prog.cellsOf 3 = 1:=by kernel_rfl
theorem cellsI6412:Tryz.prog.cellsOf 2 = 1:=by kernel_rfl
theorem array5 {α:Type} {cs:Array α} (h:cs.size = 5):∃ c0 c1 c2 c3 c4,cs = #[c0,c1,c2,c3,c4]:=by
 obtain ⟨l⟩:=cs
 match l,h with
 | [c0,c1,c2,c3,c4],_ => exact ⟨c0,c1,c2,c3,c4,rfl⟩
theorem pred_of_arg {base:Nat} {v:Value} {d:DataW H} {p:List MemPlace}
 (hv:Value.okWide Tryz.prog W .any base 50 v) (h:DataW.Trod enc Tryz.prog W 0 (fun _ => true) true 50 v d p) :
 ∃ (col op k n:Int) (t:ByteArray),v = .agg #[.int .i64 col,.int .i64 op,.int .i64 k,.int .i64 n,.string t] ∧ (Lit.int .i64 col).wf = true ∧ (Lit.int .i64 op).wf = true:=by
 obtain ⟨cs,rfl,hsz⟩:=okWide_struct Tryz.underlying50 hv
 obtain ⟨c0,c1,c2,c3,c4,rfl⟩:=array5 (hsz.trans cellsPred)
 obtain ⟨fuel,hf⟩:=h
 obtain ⟨y0,y1,y2,m,_,_,h0,h1,h2⟩:=trod_struct3 Tryz.underlying50 hf
 have g0:DataW.trod enc Tryz.prog W 0 (fun _ => true) true m 3 [c0] = some y0:=by simpa [Value.cells,cellsInt12] using h0
 have g1:DataW.trod enc Tryz.prog W 0 (fun _ => true) true m 3 [c1] = some y1:=by simpa [Value.cells,cellsInt12] using h1
 have g2:DataW.trod enc Tryz.prog W 0 (fun _ => true) true m 48 [c2,c3,c4] = some y2:=by simpa [Value.cells,cellsVal12] using h2
 obtain ⟨z0,z1,z2,q,_,_,k0,k1,k2⟩:=trod_struct3 Tryz.underlying48 g2
 have j0:DataW.trod enc Tryz.prog W 0 (fun _ => true) true q 3 [c2] = some z0:=by simpa [cellsInt12] using k0
 have j1:DataW.trod enc Tryz.prog W 0 (fun _ => true) true q 2 [c3] = some z1:=by simpa [cellsI6412] using k1
 have j2:DataW.trod enc Tryz.prog W 0 (fun _ => true) true q 9 [c4] = some z2:=by simpa [cellsStr] using k2
 obtain ⟨a0,e0,_,w0⟩:=DataW.trod_int Tryz.underlying3 g0
 obtain ⟨a1,e1,_,w1⟩:=DataW.trod_int Tryz.underlying3 g1
 obtain ⟨a2,e2,_,w2⟩:=DataW.trod_int Tryz.underlying3 j0
 obtain ⟨a3,e3,_,w3⟩:=DataW.trod_int Tryz.underlying2 j1
 obtain ⟨a4,e4,_,w4⟩:=DataW.trod_string Tryz.underlying9 j2
 simp at e0 e1 e2 e3 e4
 subst e0 e1 e2 e3 e4
 exact ⟨a0,a1,a2,a3,a4,rfl,w0,w1⟩
end
theorem bytes_of_arg {H:Type} {enc:TypeId × Value → H} {W:World} {base:Nat} {v:Value} {d:DataW H} {p:List MemPlace}
 (hv:Value.okWide Tryz.prog W .any base 29 v) (h:DataW.Trod enc Tryz.prog W 0 (fun _ => true) true 29 v d p) :
 ∃ (A:Option Addr) (c:Nat) (l:List UInt8),v = .slice A l.length c ∧ IsBytes W (.slice A l.length c) l ∧ l.length ≤ c ∧ (l = [] ∨ ∃ e s,d = .slice e s ∧ l.length = e.length):=by
 obtain ⟨a0,len0,cap0,rfl⟩:=okWide_slice Tryz.underlying29 hv
 obtain ⟨fuel,hf⟩:=h
 rcases open_ints Tryz.underlying29 Tryz.underlying5 (by kernel_rfl) hf with ⟨hcs,_⟩ | ⟨x,len,c,zs,hcs,_,hl,hm,hz,hx,hcell,hwz⟩
 ·simp [Value.cells] at hcs
  obtain ⟨rfl,rfl,rfl⟩:=hcs
  exact ⟨none,0,[],rfl,IsBytes.nil_ _,Nat.le_refl _,.inl rfl⟩
 ·simp [Value.cells] at hcs
  obtain ⟨rfl,rfl,rfl⟩:=hcs
  have hz':zs.length = cap0:=by simpa using hz
  obtain ⟨h1,h2,h3⟩:=isBytes_of_row (.inr ⟨_,rfl,hl,hm,hz',hcell,hwz⟩)
  exact ⟨some x,cap0,toBytes (zs.take len0),by rw [h2],by rw [h2];exact h1,by rw [h2];exact hl,.inr ⟨_,_,(Prod.mk.inj hx).1,by rw [h2];simp [lits];omega⟩⟩
theorem trod_lt_all {H:Type} {enc:TypeId × Value → H} {W:World} {t:TypeId} {v:Value} {d:DataW H} {p:List MemPlace} (h:DataW.Trod enc Tryz.prog W 0 (fun _ => true) true t v d p):∀ x ∈ p,x.block < W.heap.size:=by obtain ⟨m,hm⟩:=h;exact DataW.trod_lt m _ _ _ hm
theorem reach_eq:reachBytes = 140737488351232:=rfl
theorem len_of_reach {H:Type} {ts:List TypeId} {ds:List (DataW H)} (h:(DataW.weightsEach Tryz.prog ts ds).all (· ≤ reachBytes) = true) {j:Nat} {t e:TypeId} {d:DataW H} (ht:ts[j]? = some t) (hd:ds[j]? = some d) (hu:Tryz.prog.underlying t = some (.slice e)) (hb:1 ≤ Tryz.prog.bytesOf e) {α:Type} {l:List α}
 (hl:l = [] ∨ ∃ (a s:List (DataW H)),d = .slice a s ∧ l.length = a.length):l.length ≤ 140737488351232:=by
 rcases hl with rfl | ⟨a,s,rfl,hl⟩
 ·simp
 ·have h1:=sized_slice h ht hd hu
  rw [reach_eq] at h1
  have h2:a.length * 1 ≤ (a.length + s.length) * Tryz.prog.bytesOf e:=Nat.mul_le_mul (by omega) hb
  omega
end Go.Proofs.YthmipnokimlbdaaGreat
