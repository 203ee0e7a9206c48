/-
  Texts that the claims of this seat share, put together (Bq3, Bp4, DcPack). No condition.
-/
import Derived.Test.YthmipnokimlbdaaGreatBq2
import Derived.Test.YthmipnokimlbdaaGreatBp3
import Derived.Test.YthmipnokimlbdaaGreatM5
set_option linter.unusedVariables false
set_option linter.unusedSimpArgs false
namespace Go.Proofs.YthmipnokimlbdaaGreat
set_option maxRecDepth 8000
open Go.RowKit
def packI (l:List Nat) (m:Int):List UInt8:=if okB l.length m then packL l m.toNat else []
def ByR (r:List UInt8) (w:World) (e:Ending) (w':World):Prop:=∃ v,e = .returned v ∧ Grows w w' ∧ IsBytes w' v r
theorem info_byte:(Tryz.prog.info? 5).map (fun i => (i.zero,i.size,i.bytes)) = some (some (.int .u8 0),1,1):=by kernel_rfl
theorem made_bcells (n:Nat):madeCells #[Value.int .u8 0] n = (bcells (List.replicate n 0)).toArray:=by
 apply Array.toList_inj.1
 rw [toList_madeCells_one]
 simp [bcells]
def PackRel (w:World) (l:List Nat) (m:Nat) (i:Value) (wr:World):Prop:=
 ∃ k:Nat,k ≤ l.length ∧ i = .int .i64 (k:Int) ∧ PackSt wr w.heap.size (w.heap.size + 1 + 1 + 1) (w.heap.size + 1 + 1) (w.heap.size + 1) l m (k * m) ∧ Below w.heap.size w wr
set_option maxHeartbeats 1000000 in
theorem pack_any (v:Value) (l:List Nat) (m:Int) (w:World) (hv:IsW w v l) (hU:U64 l) (hl:l.length ≤ 1000000000000) :
 Calls Tryz.prog 138 #[v,.int .i64 m] w (ByR (packI l m) w):=by
 have hmf:∀ (fn:Fn) (first cap:Array Value) (w:World),(Instr.makeFunc fn first cap).run Tryz.prog w = .ok (.func fn first cap) w:=fun _ _ _ _ => rfl
 obtain ⟨A,c,rfl⟩:=hv.slice_
 have HV:=Hd hv
 have HU:=Hd hU
 have HN:=Hd (fun w => validN_any (l.length:Int) w)
 have HM:=Hd (fun w => validM_any m w)
 have HG:=Hd (show Grows w (w.alloc (.cells #[.int .i64 m] 3)) from (Below.refl _ _).alloc (Nat.le_refl _) _)
 clear hv hU
 cases h1:okN (l.length:Int)
 ·have HE:=Hd (show packI l m = [] by unfold packI;rw [okB_eq,h1];rfl)
  rw [h1] at HN
  clear h1
  go_enter Tryz.func138,Tryz.ntmps138
  go_wp2_with ((go_at_call 190;refine (HN.out _).mono ?_;rintro e w2 ⟨rfl,rfl⟩))
  go_ret
  exact ⟨_,rfl,HG.out,by rw [HE.out];exact IsBytes.nil_ _⟩
 ·rw [h1] at HN
  cases h2:okM m
  ·have HE:=Hd (show packI l m = [] by unfold packI;rw [okB_eq,h1,h2];rfl)
   rw [h2] at HM
   clear h1 h2
   go_enter Tryz.func138,Tryz.ntmps138
   go_wp2_with (first | (go_at_call 190;refine (HN.out _).mono ?_;rintro e w2 ⟨rfl,rfl⟩) | (go_at_call 191;refine (HM.out _).mono ?_;rintro e w2 ⟨rfl,rfl⟩))
   go_ret
   exact ⟨_,rfl,HG.out,by rw [HE.out];exact IsBytes.nil_ _⟩
  ·rw [h2] at HM
   have hok:okB (l.length:Int) m = true:=by rw [okB_eq,h1,h2];rfl
   obtain ⟨⟨a1,a2⟩,a3,a4⟩:=okB_true hok
   obtain ⟨M,rfl⟩:=Int.eq_ofNat_of_zero_le a3
   have HE:=Hd (show packI l (M:Int) = packL l M by unfold packI;rw [hok,Int.toNat_natCast];rfl)
   have hl2:l.length ≤ 1048576:=by omega
   have hM2:M ≤ 64:=by omega
   have hsz:=szB_le hl2 hM2
   have HS:=Hd (fun w => size_any (l.length:Int) (M:Int) w)
   rw [sizeI_nat hl2 hM2] at HS
   have hmk:=fun W => run_make_bytes (P:=Tryz.prog) 29 5 Tryz.underlying29 info_byte (szB l.length M) (by omega) W
   have HMB:=Hd (made_bcells (szB l.length M))
   have HZ:=Hd (partB_zero l M)
   have HAP:=Hd (show Apart w.heap.size w.heap.size (w.heap.size + 1 + 1 + 1) (w.heap.size + 1 + 1) (w.heap.size + 1) from ⟨by omega,by omega,by omega,by omega,by omega,by omega,by omega⟩)
   clear h1 h2 hok
   go_enter Tryz.func138,Tryz.ntmps138
   go_wp2_with (first | (go_at_call 190;refine (HN.out _).mono ?_;rintro e w2 ⟨rfl,rfl⟩) | (go_at_call 191;refine (HM.out _).mono ?_;rintro e w2 ⟨rfl,rfl⟩) | (go_at_call 139;refine (HS.out _).mono ?_;rintro e w2 ⟨rfl,rfl⟩))
   go_loopw [26] (fun i wr => PackRel w l M i wr) (fun i _ => l.length - (intOf i).toNat)
   case atStart =>
    refine ⟨0,by omega,rfl,⟨?_,?_,?_,?_⟩,(((((Below.refl _ _).alloc (Nat.le_refl _) _).alloc (by simp) _).alloc (by simp;omega) _).alloc (by simp;omega) _)⟩
    ·exact (((Row.new w _ _ _ rfl).grow ((Below.refl _ _).alloc (Nat.le_refl _) _)).grow ((Below.refl _ _).alloc (Nat.le_refl _) _)).grow ((Below.refl _ _).alloc (Nat.le_refl _) _)
    ·rw [Nat.zero_mul]
     exact Row.at_ _ _ _ _ rfl _ (by simp)
    ·exact (Row.at_ _ _ _ _ rfl _ (by simp)).grow ((Below.refl _ _).alloc (Nat.le_refl _) _)
    ·rw [Nat.zero_mul,HZ.out]
     exact ((Row.at_ _ _ _ _ HMB.out _ (by simp)).grow ((Below.refl _ _).alloc (Nat.le_refl _) _)).grow ((Below.refl _ _).alloc (Nat.le_refl _) _)
   case round =>
    obtain ⟨k,hk,rfl,st,hb⟩:=hrel
    have HB:=Hd hb
    have HST:=Hd st
    by_cases hlt:k < l.length
    ·obtain ⟨b,f,rfl,hcell⟩:=(HV.out.grow HB.out).at_ hlt
     have hxx:=HU.out.get hlt
     have HADD:=Hd (add_any w.heap.size w.heap.size (w.heap.size + 1 + 1 + 1) (w.heap.size + 1 + 1) (w.heap.size + 1) k M l[k] l wr hl2 hM2 hlt (List.getElem?_eq_getElem hlt) hxx HAP.out HST.out)
     generalize l[k] = x at *
     clear st hb hmk
     go_wp2_with ((go_at_call 192;refine HADD.out.mono ?_;rintro e w2 ⟨⟨xv,rfl⟩,st2,hb2⟩))
     refine ⟨⟨k + 1,by omega,by go_num,?_,HB.out.trans hb2⟩,by simp [intOf];omega⟩
     rw [Nat.succ_mul]
     exact st2
    ·have hke:k = l.length:=by omega
     subst hke
     have cptr:=st.ptr.cell 0
     simp only [List.getElem?_cons_zero] at cptr
     have HALL:=Hd (partB_all l M)
     have HLEN:=Hd (packL_length l M)
     clear st hb hmk
     go_wp2_with fail
     go_ret
     refine ⟨_,rfl,HB.out,?_⟩
     rw [HE.out]
     have h:=HST.out.row
     rw [HALL.out] at h
     exact IsBytes.of_row h _ _ HLEN.out.symm
end Go.Proofs.YthmipnokimlbdaaGreat
namespace Go.Proofs.YthmipnokimlbdaaGreat
open Go.RowKit
def RPackRel (w:World) (l:List Nat) (m:Nat) (i:Value) (wr:World):Prop:=
 ∃ k:Nat,k ≤ l.length ∧ i = .int .i64 (k:Int) ∧ Row wr w.heap.size 5 (bcells (partB l m (k * m))) ∧ Below w.heap.size w wr
def RPackIn (w:World) (l:List Nat) (m i:Nat) (k:Value) (wr:World):Prop:=
 ∃ j:Nat,j ≤ m ∧ k = .int .i64 (j:Int) ∧ Row wr w.heap.size 5 (bcells (partB l m (i * m + j))) ∧ Below w.heap.size w wr
theorem put_bit {X v k u:Nat} (hX:X < 256) (hv:v < 18446744073709551616) (hu:u < 8) :
 bits .or .u8 (X:Int) (IntKind.u8.wrap (IntKind.u8.wrap (bits .and .u64 ((v:Int) / 2 ^ k) 1) * 2 ^ u)) = ((UInt8.ofNat (X ||| (v / 2 ^ k % 2 ^ 1 * 2 ^ u))).toNat:Int):=by
 have h:=put_byte (X:=X) (N:=v / 2 ^ k) (c:=1) (u:=u) hX (Nat.lt_of_le_of_lt (Nat.div_le_self _ _) hv) (by omega)
 have e:((v:Int) / 2 ^ k) = ((v / 2 ^ k:Nat):Int):=by simp
 rw [e]
 exact h
set_option maxRecDepth 8000 in
set_option maxHeartbeats 2000000 in
theorem rpack_any (v:Value) (l:List Nat) (m:Int) (w:World) (hv:IsW w v l) (hU:U64 l) (hl:l.length ≤ 1000000000000) :
 Calls Tryz.prog 104 #[v,.int .i64 m] w (ByR (packI l m) w):=by
 obtain ⟨A,c,rfl⟩:=hv.slice_
 have HV:=Hd hv
 have HU:=Hd hU
 have HO:=Hd (fun w => rok_any (l.length:Int) m w)
 clear hv hU
 cases hok:okB (l.length:Int) m
 ·have HE:=Hd (show packI l m = [] by unfold packI;rw [hok];rfl)
  rw [hok] at HO
  clear hok
  go_enter Tryz.func104,Tryz.ntmps104
  go_wp2_with ((go_at_call 177;refine (HO.out _).mono ?_;rintro e w2 ⟨rfl,rfl⟩))
  go_ret
  exact ⟨_,rfl,Below.refl _ _,by rw [HE.out];exact IsBytes.nil_ _⟩
 ·obtain ⟨⟨a1,a2⟩,a3,a4⟩:=okB_true hok
  obtain ⟨M,rfl⟩:=Int.eq_ofNat_of_zero_le a3
  have HE:=Hd (show packI l (M:Int) = packL l M by unfold packI;rw [hok,Int.toNat_natCast];rfl)
  rw [hok] at HO
  have hl2:l.length ≤ 1048576:=by omega
  have hM2:M ≤ 64:=by omega
  have hsz:=szB_le hl2 hM2
  have HS:=Hd (fun w => rsize_any (l.length:Int) (M:Int) w)
  rw [sizeI_nat hl2 hM2] at HS
  have hmk:=fun W => run_make_bytes (P:=Tryz.prog) 29 5 Tryz.underlying29 info_byte (szB l.length M) (by omega) W
  have HMB:=Hd (made_bcells (szB l.length M))
  have HZ:=Hd (partB_zero l M)
  clear hok
  go_enter Tryz.func104,Tryz.ntmps104
  go_wp2_with (first | (go_at_call 177;refine (HO.out _).mono ?_;rintro e w2 ⟨rfl,rfl⟩) | (go_at_call 123;refine (HS.out _).mono ?_;rintro e w2 ⟨rfl,rfl⟩))
  go_loopw [6] (fun i wr => RPackRel w l M i wr) (fun i _ => l.length - (intOf i).toNat)
  case atStart =>
   refine ⟨0,by omega,rfl,?_,(Below.refl _ _).alloc (Nat.le_refl _) _⟩
   rw [Nat.zero_mul,HZ.out]
   exact Row.at_ _ _ _ _ HMB.out _ rfl
  case round =>
   obtain ⟨i,hi,rfl,hrow,hb⟩:=hrel
   have HB:=Hd hb
   have HR:=Hd hrow
   clear hrow hb hmk
   by_cases hlt:i < l.length
   ·have hxx:=HU.out.get hlt
    have HX:=Hd (List.getElem?_eq_getElem hlt)
    generalize l[i] = x at *
    go_wp2_with fail
    go_loopw [7] (fun k wr => RPackIn w l M i k wr) (fun k _ => M - (intOf k).toNat)
    case atStart => exact ⟨0,by omega,rfl,by rw [Nat.add_zero];exact HR.out,HB.out⟩
    case round =>
     obtain ⟨k,hk,rfl,hrow2,hb2⟩:=hrel
     have HB2:=Hd hb2
     have HR2:=Hd hrow2
     by_cases hkm:k < M
     ·obtain ⟨q,hq⟩:∃ q,q = i * M:=⟨_,rfl⟩
      obtain ⟨p,hp⟩:∃ p,p = q + k:=⟨_,rfl⟩
      obtain ⟨s,hs⟩:∃ s,s = p / 8:=⟨_,rfl⟩
      obtain ⟨u,hu⟩:∃ u,u = p % 8:=⟨_,rfl⟩
      obtain ⟨S,hS⟩:∃ S,S = szB l.length M:=⟨_,rfl⟩
      have hpl:p < l.length * M:=by rw [hp,hq];exact stream_lt hlt hkm
      have hlm:l.length * M ≤ 1048576 * 64:=Nat.mul_le_mul hl2 hM2
      have hp8:p / 8 < szB l.length M:=by unfold szB;omega
      have hcell:=hrow2.cell s
      rw [← hq,← hp,bcells_get (by rw [hs];exact partB_cur hp8),cur_byte] at hcell
      have hX:=curB_lt l M p
      have HSP:=Hd (show (partB l M p).set s (UInt8.ofNat (curB l M p ||| (x / 2 ^ k % 2 ^ 1 * 2 ^ u))) = partB l M (p + 1) from by
       rw [hs,hu]
       refine partB_span hp8 (by omega) (Nat.mod_lt _ (Nat.two_pow_pos 1)) (fun t ht => ?_)
       have h:=vbit_at (l:=l) (w:=M) (d:=k) (c:=1) hlt (by omega) t ht
       have h2:=HX.out
       rw [List.getElem?_eq_getElem hlt] at h2
       injection h2 with h2
       rw [h2,← hq,← hp] at h
       exact h)
      have HBY:=Hd (put_bit (X:=curB l M p) (v:=x) (k:=k) (u:=u) hX hxx (by omega))
      have frow:=hrow2.frozen s
      have hlc:=(HV.out.grow HB2.out)
      obtain ⟨bl,fl,rfl,hlcell⟩:=hlc.at_ hlt
      have h2:=HX.out
      rw [List.getElem?_eq_getElem hlt] at h2
      injection h2 with h2
      rw [h2] at hlcell
      have HIM:=Hd (show (i:Int) * (M:Int) = (q:Int) by rw [hq];exact (Int.natCast_mul i M).symm)
      have HQK:=Hd (show (q:Int) + (k:Int) = (p:Int) by omega)
      have HPS:=Hd (show (p:Int) / 8 = (s:Int) by omega)
      have HPU:=Hd (show (p:Int) % 8 = (u:Int) by omega)
      have HP:=Hd (show i * M + (k + 1) = p + 1 by omega)
      have hp9:p ≤ 67108864:=by omega
      have hq9:q ≤ 67108864:=by omega
      have hs9:s < S:=by omega
      have hu8:u < 8:=by omega
      have hR3:Row wr.drew w.heap.size 5 (bcells (partB l M p)):=by rw [hp,hq];exact hrow2
      have HR3:=Hd hR3
      rw [← hS] at hsz
      clear hrow2 hb2 hq hp hs hu hpl hlm hp8 hR3 h2 hlc
      generalize curB l M p = X at *
      rw [← hS]
      clear hS
      go_wp2_with fail
      refine wp_region_still_tail 27 (by kernel_rfl) (by kernel_rfl) ?_
      simp only [List.take_succ_cons,List.take_zero,List.drop_succ_cons,List.drop_zero]
      change wpStill _ _ wr.drew _ _ _
      have him:=HIM.out
      have hqk:=HQK.out
      have hps:=HPS.out
      have hpu:=HPU.out
      have hpt:(p:Int).tmod 8 = (u:Int):=by rw [Int.tmod_eq_emod_of_nonneg (by omega)];exact hpu
      have hmu:min u 8 = u:=by omega
      have w1:IntKind.i64.wrap (q:Int) = (q:Int):=by rw [IntKind.wrap_i64];omega
      have w2:IntKind.i64.wrap (p:Int) = (p:Int):=by rw [IntKind.wrap_i64];omega
      have w3:IntKind.i64.wrap (s:Int) = (s:Int):=by rw [IntKind.wrap_i64];omega
      have b0:(0:Int) ≤ (s:Int):=by omega
      have b1:(s:Int) < (S:Int):=by omega
      have b2:(i:Int) < (l.length:Int):=by omega
      have v1:IntKind.u64.wrap (k:Int) = (k:Int):=by rw [IntKind.wrap_u64];omega
      have v2:IntKind.u64.wrap (u:Int) = (u:Int):=by rw [IntKind.wrap_u64];omega
      iterate 27 still_step
      refine wpStill_nil ?_
      change wpList _ _ _ _ _ wr.drew
      clear hpt hmu him hqk hps hpu w1 w2 w3 v1 v2
      rw [HBY.out]
      generalize UInt8.ofNat (X ||| (x / 2 ^ k % 2 ^ 1 * 2 ^ u)) = y at *
      have hyl:=y.toNat_lt
      have HSET:=Hd (HR3.out.set_ s (.int .u8 (y.toNat:Int)))
      rw [bcells_set,HSP.out] at HSET
      go_wp2_with fail
      refine ⟨⟨k + 1,by omega,by go_num,?_,(HB2.out.setCell (p:=⟨w.heap.size,s,none⟩) (Nat.le_refl _) _).drew⟩,by simp [intOf];omega⟩
      rw [HP.out]
      exact HSET.out
     ·have hke:k = M:=by omega
      subst hke
      go_wp2_with fail
      refine ⟨⟨i + 1,by omega,by go_num,?_,HB2.out⟩,by simp [intOf];omega⟩
      rw [Nat.succ_mul]
      exact HR2.out
   ·have hke:i = l.length:=by omega
    subst hke
    have HALL:=Hd (partB_all l M)
    have HLEN:=Hd (packL_length l M)
    go_wp2_with fail
    go_ret
    refine ⟨_,rfl,HB.out,?_⟩
    rw [HE.out]
    have h:=HR.out
    rw [HALL.out] at h
    exact IsBytes.of_row h _ _ HLEN.out.symm
set_option maxRecDepth 8000 in
set_option maxHeartbeats 2000000 in
theorem rpackM_any (v:Value) (l:List Nat) (m:Int) (w:World) (hv:IsW w v l) (hU:U64 l) (hl:l.length ≤ 1000000000000) :
 Calls Tryz.prog 104 #[v,.int .i64 m] w (Made (packI l m) w):=by
 obtain ⟨A,c,rfl⟩:=hv.slice_
 have HV:=Hd hv
 have HU:=Hd hU
 have HO:=Hd (fun w => rok_any (l.length:Int) m w)
 clear hv hU
 cases hok:okB (l.length:Int) m
 ·have HE:=Hd (show packI l m = [] by unfold packI;rw [hok];rfl)
  rw [hok] at HO
  clear hok
  go_enter Tryz.func104,Tryz.ntmps104
  go_wp2_with ((go_at_call 177;refine (HO.out _).mono ?_;rintro e w2 ⟨rfl,rfl⟩))
  go_ret
  exact ⟨_,rfl,by rw [HE.out];exact World.ownsRow_nil _ _ _ _,Below.refl _ _⟩
 ·obtain ⟨⟨a1,a2⟩,a3,a4⟩:=okB_true hok
  obtain ⟨M,rfl⟩:=Int.eq_ofNat_of_zero_le a3
  have HE:=Hd (show packI l (M:Int) = packL l M by unfold packI;rw [hok,Int.toNat_natCast];rfl)
  rw [hok] at HO
  have hl2:l.length ≤ 1048576:=by omega
  have hM2:M ≤ 64:=by omega
  have hsz:=szB_le hl2 hM2
  have HS:=Hd (fun w => rsize_any (l.length:Int) (M:Int) w)
  rw [sizeI_nat hl2 hM2] at HS
  have hmk:=fun W => run_make_bytes (P:=Tryz.prog) 29 5 Tryz.underlying29 info_byte (szB l.length M) (by omega) W
  have HMB:=Hd (made_bcells (szB l.length M))
  have HZ:=Hd (partB_zero l M)
  clear hok
  go_enter Tryz.func104,Tryz.ntmps104
  go_wp2_with (first | (go_at_call 177;refine (HO.out _).mono ?_;rintro e w2 ⟨rfl,rfl⟩) | (go_at_call 123;refine (HS.out _).mono ?_;rintro e w2 ⟨rfl,rfl⟩))
  go_loopw [6] (fun i wr => RPackRel w l M i wr) (fun i _ => l.length - (intOf i).toNat)
  case atStart =>
   refine ⟨0,by omega,rfl,?_,(Below.refl _ _).alloc (Nat.le_refl _) _⟩
   rw [Nat.zero_mul,HZ.out]
   exact Row.at_ _ _ _ _ HMB.out _ rfl
  case round =>
   obtain ⟨i,hi,rfl,hrow,hb⟩:=hrel
   have HB:=Hd hb
   have HR:=Hd hrow
   clear hrow hb hmk
   by_cases hlt:i < l.length
   ·have hxx:=HU.out.get hlt
    have HX:=Hd (List.getElem?_eq_getElem hlt)
    generalize l[i] = x at *
    go_wp2_with fail
    go_loopw [7] (fun k wr => RPackIn w l M i k wr) (fun k _ => M - (intOf k).toNat)
    case atStart => exact ⟨0,by omega,rfl,by rw [Nat.add_zero];exact HR.out,HB.out⟩
    case round =>
     obtain ⟨k,hk,rfl,hrow2,hb2⟩:=hrel
     have HB2:=Hd hb2
     have HR2:=Hd hrow2
     by_cases hkm:k < M
     ·obtain ⟨q,hq⟩:∃ q,q = i * M:=⟨_,rfl⟩
      obtain ⟨p,hp⟩:∃ p,p = q + k:=⟨_,rfl⟩
      obtain ⟨s,hs⟩:∃ s,s = p / 8:=⟨_,rfl⟩
      obtain ⟨u,hu⟩:∃ u,u = p % 8:=⟨_,rfl⟩
      obtain ⟨S,hS⟩:∃ S,S = szB l.length M:=⟨_,rfl⟩
      have hpl:p < l.length * M:=by rw [hp,hq];exact stream_lt hlt hkm
      have hlm:l.length * M ≤ 1048576 * 64:=Nat.mul_le_mul hl2 hM2
      have hp8:p / 8 < szB l.length M:=by unfold szB;omega
      have hcell:=hrow2.cell s
      rw [← hq,← hp,bcells_get (by rw [hs];exact partB_cur hp8),cur_byte] at hcell
      have hX:=curB_lt l M p
      have HSP:=Hd (show (partB l M p).set s (UInt8.ofNat (curB l M p ||| (x / 2 ^ k % 2 ^ 1 * 2 ^ u))) = partB l M (p + 1) from by
       rw [hs,hu]
       refine partB_span hp8 (by omega) (Nat.mod_lt _ (Nat.two_pow_pos 1)) (fun t ht => ?_)
       have h:=vbit_at (l:=l) (w:=M) (d:=k) (c:=1) hlt (by omega) t ht
       have h2:=HX.out
       rw [List.getElem?_eq_getElem hlt] at h2
       injection h2 with h2
       rw [h2,← hq,← hp] at h
       exact h)
      have HBY:=Hd (put_bit (X:=curB l M p) (v:=x) (k:=k) (u:=u) hX hxx (by omega))
      have frow:=hrow2.frozen s
      have hlc:=(HV.out.grow HB2.out)
      obtain ⟨bl,fl,rfl,hlcell⟩:=hlc.at_ hlt
      have h2:=HX.out
      rw [List.getElem?_eq_getElem hlt] at h2
      injection h2 with h2
      rw [h2] at hlcell
      have HIM:=Hd (show (i:Int) * (M:Int) = (q:Int) by rw [hq];exact (Int.natCast_mul i M).symm)
      have HQK:=Hd (show (q:Int) + (k:Int) = (p:Int) by omega)
      have HPS:=Hd (show (p:Int) / 8 = (s:Int) by omega)
      have HPU:=Hd (show (p:Int) % 8 = (u:Int) by omega)
      have HP:=Hd (show i * M + (k + 1) = p + 1 by omega)
      have hp9:p ≤ 67108864:=by omega
      have hq9:q ≤ 67108864:=by omega
      have hs9:s < S:=by omega
      have hu8:u < 8:=by omega
      have hR3:Row wr.drew w.heap.size 5 (bcells (partB l M p)):=by rw [hp,hq];exact hrow2
      have HR3:=Hd hR3
      rw [← hS] at hsz
      clear hrow2 hb2 hq hp hs hu hpl hlm hp8 hR3 h2 hlc
      generalize curB l M p = X at *
      rw [← hS]
      clear hS
      go_wp2_with fail
      refine wp_region_still_tail 27 (by kernel_rfl) (by kernel_rfl) ?_
      simp only [List.take_succ_cons,List.take_zero,List.drop_succ_cons,List.drop_zero]
      change wpStill _ _ wr.drew _ _ _
      have him:=HIM.out
      have hqk:=HQK.out
      have hps:=HPS.out
      have hpu:=HPU.out
      have hpt:(p:Int).tmod 8 = (u:Int):=by rw [Int.tmod_eq_emod_of_nonneg (by omega)];exact hpu
      have hmu:min u 8 = u:=by omega
      have w1:IntKind.i64.wrap (q:Int) = (q:Int):=by rw [IntKind.wrap_i64];omega
      have w2:IntKind.i64.wrap (p:Int) = (p:Int):=by rw [IntKind.wrap_i64];omega
      have w3:IntKind.i64.wrap (s:Int) = (s:Int):=by rw [IntKind.wrap_i64];omega
      have b0:(0:Int) ≤ (s:Int):=by omega
      have b1:(s:Int) < (S:Int):=by omega
      have b2:(i:Int) < (l.length:Int):=by omega
      have v1:IntKind.u64.wrap (k:Int) = (k:Int):=by rw [IntKind.wrap_u64];omega
      have v2:IntKind.u64.wrap (u:Int) = (u:Int):=by rw [IntKind.wrap_u64];omega
      iterate 27 still_step
      refine wpStill_nil ?_
      change wpList _ _ _ _ _ wr.drew
      clear hpt hmu him hqk hps hpu w1 w2 w3 v1 v2
      rw [HBY.out]
      generalize UInt8.ofNat (X ||| (x / 2 ^ k % 2 ^ 1 * 2 ^ u)) = y at *
      have hyl:=y.toNat_lt
      have HSET:=Hd (HR3.out.set_ s (.int .u8 (y.toNat:Int)))
      rw [bcells_set,HSP.out] at HSET
      go_wp2_with fail
      refine ⟨⟨k + 1,by omega,by go_num,?_,(HB2.out.setCell (p:=⟨w.heap.size,s,none⟩) (Nat.le_refl _) _).drew⟩,by simp [intOf];omega⟩
      rw [HP.out]
      exact HSET.out
     ·have hke:k = M:=by omega
      subst hke
      go_wp2_with fail
      refine ⟨⟨i + 1,by omega,by go_num,?_,HB2.out⟩,by simp [intOf];omega⟩
      rw [Nat.succ_mul]
      exact HR2.out
   ·have hke:i = l.length:=by omega
    subst hke
    have HALL:=Hd (partB_all l M)
    have HLEN:=Hd (packL_length l M)
    go_wp2_with fail
    go_ret
    refine ⟨_,rfl,?_,HB.out⟩
    rw [HE.out]
    have h:=HR.out
    rw [HALL.out] at h
    have h2:=h.own (Nat.le_refl _) (by rw [bcells_length,HLEN.out];unfold maxLen;omega)
    rw [bcells_length,HLEN.out] at h2
    rw [HLEN.out]
    exact h2
end Go.Proofs.YthmipnokimlbdaaGreat
