/-
  Shaken: what the claims of this seat need of this text. No condition.
-/
import Derived.Test.YthmipnokimlbdaaGreatM6
import Derived.Test.YthmipnokimlbdaaGreatVCat
import Derived.Test.YthmipnokimlbdaaGreatM2
set_option linter.unusedVariables false
set_option linter.unusedSimpArgs false
namespace Go.Proofs.YthmipnokimlbdaaGreat
set_option maxRecDepth 8000
open Go.RowKit
def RCatRel (w:World) (ls:List (List UInt8)) (out i:Value) (wr:World):Prop:=
 ∃ k:Nat,k ≤ ls.length ∧ i = .int .i64 k ∧ wr.ownsRow w.heap.size 5 1 out (ls.take k).flatten.length (bcells (ls.take k).flatten) ∧ Below w.heap.size w wr
def RCatRel2 (w:World) (pre l:List UInt8) (out i:Value) (wr:World):Prop:=
 ∃ k:Nat,k ≤ l.length ∧ i = .int .i64 k ∧ wr.ownsRow w.heap.size 5 1 out (pre ++ l.take k).length (bcells (pre ++ l.take k)) ∧ Below w.heap.size w wr
set_option maxHeartbeats 800000 in
theorem rconcat_any (v:Value) (ls:List (List UInt8)) (w:World) (hv:IsParts w v ls) (hl:ls.length ≤ maxLen) (ht:total ls ≤ 140737488355328) :
 Calls Tryz.prog 109 #[v] w (Made ls.flatten w):=by
 have hv0:=hv
 obtain ⟨A,c,rfl,hc⟩:=hv
 have HV:=Hd hv0
 clear hc hv0
 unfold maxLen at hl
 go_enter Tryz.func109,Tryz.ntmps109
 go_wp2
 go_loopw [3,4] (fun out i wr => RCatRel w ls out i wr) (fun _ i _ => ls.length - (intOf i).toNat)
 case atStart => exact ⟨0,by omega,rfl,World.ownsRow_nil _ _ _ _,Below.refl _ _⟩
 case round =>
  obtain ⟨k,hk,rfl,hown,hnx⟩:=hrel
  by_cases hlt:k < ls.length
  ·obtain ⟨wo,rfl⟩:∃ wo:World,wo = wr:=⟨_,rfl⟩
   have HT:=Hd (flatten_take hlt)
   have hpl:=part_le' hlt
   have HO:=Hd hown
   have HN:=Hd hnx
   clear hown hnx
   go_wp2
   go_loopw [3,5] (fun out i wr => RCatRel2 w (ls.take k).flatten ls[k] out i wr) (fun _ i _ => ls[k].length - (intOf i).toNat)
   case atStart => exact ⟨0,by omega,rfl,by simpa using HO.out,HN.out⟩
   case round =>
    obtain ⟨j,hj,rfl,hown,hnx⟩:=hrel
    obtain ⟨A',c',hA',hc'⟩:=(HV.out.grow (show Grows w wr from hnx))
    injection hA' with e1 e2 e3
    subst e1 e3
    obtain ⟨b,off,rfl,hcell⟩:=hc' (by omega)
    obtain ⟨B,d,hcl,hby⟩:=hcell k hlt
    obtain ⟨B',d',hB',hby'⟩:=hby
    injection hB' with e4 e5 e6
    subst e4 e6
    clear hcell hc' e2 e5
    by_cases hjl:j < ls[k].length
    ·obtain ⟨b2,off2,rfl,hcell2⟩:=hby' (by omega)
     have hcl2:=hcell2 j hjl
     have hcb:ls[k][j].toNat < 256:=ls[k][j].toNat_lt
     have hts:Hid (ls[k].take (j + 1) = ls[k].take j ++ [ls[k][j]]):=by
      show _ = _
      rw [List.take_succ_eq_append_getElem hjl]
     have hpre:((ls.take k).flatten ++ ls[k].take j).length + 1 ≤ 140737488355328:=by
      rw [List.length_append,List.length_take];omega
     clear hcell2 hby'
     generalize ls[k][j] = ch at *
     go_wp2_with ((at_builtin;refine wpList_append_byte (w:=w) (wr:=wr) rfl _ _ 29 rfl 5 Tryz.underlying29 info_u8 _ ((ls.take k).flatten ++ ls[k].take j) (by rfl) hown hnx _ ch rfl (by rfl) hpre ?_;intro v' w2 hown2 hnx2))
     go_roundw
     case rel =>
      refine ⟨j + 1,by omega,by go_num,?_,hnx2⟩
      rw [hts.out,← List.append_assoc];exact hown2
     case measure => simp [intOf];omega
    ·have hje:j = ls[k].length:=by omega
     have hfl:(ls.take k).flatten ++ ls[k].take j = (ls.take (k + 1)).flatten:=by rw [hje,List.take_length,HT.out]
     rw [hfl] at hown
     have HO2:=Hd hown
     have HN2:=Hd hnx
     clear hown hnx hby' hfl hje
     go_wp2
     exact ⟨⟨k + 1,by omega,by go_num,HO2.out,HN2.out⟩,by simp [intOf];omega⟩
  ·have hke:k = ls.length:=by omega
   have hfl:(ls.take k).flatten = ls.flatten:=by rw [hke,List.take_length]
   rw [hfl] at hown
   have HO:=Hd hown
   clear hown hfl hke
   go_wp2
   go_ret
   exact ⟨_,rfl,HO.out,hnx⟩
end Go.Proofs.YthmipnokimlbdaaGreat
