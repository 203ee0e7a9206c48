/-
  Texts that the claims of this seat share, put together (FrT, Fs2, Dr1, Fr2, Dr3, Fr3, Fr4, Dr5). No condition.
-/
import Derived.Test.YthmipnokimlbdaaGreatM10
import Derived.Test.YthmipnokimlbdaaGreatM13
import Derived.Test.YthmipnokimlbdaaGreatM5
import Derived.Test.YthmipnokimlbdaaGreatM7
import Derived.Test.YthmipnokimlbdaaGreatM9
import Derived.StillTail
import Derived.StillTailTactics
import Derived.Test.YthmipnokimlbdaaGreatM6
import Derived.Test.YthmipnokimlbdaaGreatM2
import Derived.Test.YthmipnokimlbdaaGreatM3
import Derived.Test.YthmipnokimlbdaaGreatM1
set_option linter.unusedVariables false
set_option linter.unusedSimpArgs false
namespace Go.Proofs.YthmipnokimlbdaaGreat
set_option maxRecDepth 8000
open Go.RowKit
theorem byr_loose {f:FuncId} {args:Array Value} {w:World} {l:List UInt8} (h:Calls Tryz.prog f args w (ByR l w)):Calls Tryz.prog f args w fun e w' => ∃ v,e = .returned v ∧ Grows w w' ∧ BytesV l v w':=
 h.mono fun _ _ ⟨v,he,hb,hu⟩ => ⟨v,he,hb,hu⟩
end Go.Proofs.YthmipnokimlbdaaGreat
namespace Go.Proofs.YthmipnokimlbdaaGreat
open Go.RowKit
def ReadsT (w:World) (v:Value) (n:Nat) (C X:Nat → Nat):Prop:=
 ∃ A c,v = .slice A n c ∧ (0 < n → ∃ b f,A = some ⟨b,f,none⟩ ∧ ∀ j,j < n → w.cell? ⟨b,f + j * 2,none⟩ = some (.int .i64 (C j:Int)) ∧ w.cell? ⟨b,f + j * 2 + 1,none⟩ = some (.int .i64 (X j:Int)))
theorem ReadsT.grow {w w':World} {v:Value} {n:Nat} {C X:Nat → Nat} (h:ReadsT w v n C X) (hb:Grows w w'):ReadsT w' v n C X:=by
 obtain ⟨A,c,rfl,hc⟩:=h
 refine ⟨A,c,rfl,fun hn => ?_⟩
 obtain ⟨b,f,rfl,hcell⟩:=hc hn
 refine ⟨b,f,rfl,fun j hj => ?_⟩
 obtain ⟨h1,h2⟩:=hcell j hj
 exact ⟨(hb.cell (World.block_lt_of_cell? w _ h1)).trans h1,(hb.cell (World.block_lt_of_cell? w _ h2)).trans h2⟩
theorem sumF_le {f:Nat → Nat} {k:Nat}:∀ n,k ≤ n → sumF f k ≤ sumF f n
 | 0,h => by
   have:k = 0:=by omega
   subst this
   exact Nat.le_refl _
 | n + 1,h => by
   rcases Nat.lt_or_ge n k with h1 | h1
   ·have:k = n + 1:=by omega
    subst this
    exact Nat.le_refl _
   ·have:=sumF_le (f:=f) n h1
    rw [sumF]
    omega
def ESRel (w:World) (n:Nat) (C X:Nat → Nat) (c s i:Value) (wr:World):Prop:=
 ∃ k:Nat,k ≤ n ∧ i = .int .i64 (k:Int) ∧ c = .int .i64 ((sumF C k:Nat):Int) ∧ s = .int .i64 ((sumF (fun j => X j + C j * vsw (j + 1)) k:Nat):Int) ∧ Below w.heap.size w wr
set_option maxRecDepth 8000 in
set_option maxHeartbeats 4000000 in
theorem excSize_any (v:Value) (n:Nat) (C X:Nat → Nat) (w:World) (hv:ReadsT w v n C X) (hn:n ≤ 65) (hC:sumF C n ≤ 65536) (hS:sumF (fun j => X j + C j * vsw (j + 1)) n ≤ 2000000) :
 Calls Tryz.prog 204 #[v] w fun e w' => e = .returned (.int .i64 ((excSz C X n:Nat):Int)) ∧ Grows w w':=by
 have HV:=Hd hv
 obtain ⟨A,c,rfl,_⟩:=id hv
 have HCC:=Hd hC
 have HSS:=Hd hS
 have HES:=Hd (show excSz C X n = esz (sumF C n) + sumF (fun j => X j + C j * vsw (j + 1)) n from rfl)
 clear hv hC hS
 go_enter Tryz.func204,Tryz.ntmps204
 go_wp2_with fail
 go_loopw [3,4,9] (fun c s i wr => ESRel w n C X c s i wr) (fun _ _ i _ => n - (intOf i).toNat)
 case atStart => exact ⟨0,by omega,rfl,rfl,rfl,Below.refl _ _⟩
 case round =>
  obtain ⟨k,hk,rfl,rfl,rfl,hb⟩:=hrel
  have HB:=Hd hb
  clear hb
  by_cases hlt:k < n
  ·obtain ⟨A',c',he,hc⟩:=HV.out.grow HB.out
   have hAc:A = A' ∧ c = c':=by simpa using he
   obtain ⟨rfl,rfl⟩:=hAc
   obtain ⟨b,f,rfl,hcell⟩:=hc (by omega)
   obtain ⟨y1,y2⟩:=hcell k hlt
   have hq1:sumF C (k + 1) ≤ sumF C n:=sumF_le n hlt
   have hq2:sumF (fun j => X j + C j * vsw (j + 1)) (k + 1) ≤ sumF (fun j => X j + C j * vsw (j + 1)) n:=sumF_le n hlt
   have HQ1:=Hd (show sumF C (k + 1) = sumF C k + C k from rfl)
   have HQ2:=Hd (show sumF (fun j => X j + C j * vsw (j + 1)) (k + 1) = sumF (fun j => X j + C j * vsw (j + 1)) k + (X k + C k * vsw (k + 1)) from rfl)
   have HSW:=Hd (fun w' => sizeOfWidth_any (k + 1) w' (by omega))
   rw [show (((k + 1:Nat):Int)) = (k:Int) + 1 by omega] at HSW
   rw [HQ1.out] at hq1
   rw [HQ2.out] at hq2
   have hcc:=HCC.out
   have hss:=HSS.out
   generalize sumF (fun j => X j + C j * vsw (j + 1)) k = sk at *
   generalize sumF (fun j => X j + C j * vsw (j + 1)) n = sn at *
   generalize sumF C k = ck at *
   generalize sumF C n = cn at *
   generalize vsw (k + 1) = s at *
   generalize C k = y at *
   generalize X k = x at *
   obtain ⟨m,hm⟩:∃ m,m = y * s:=⟨_,rfl⟩
   have hmul:(y:Int) * (s:Int) = (m:Int):=by rw [hm];simp
   rw [← hm] at hq2 HQ2
   have HBA:=Hd (show Below w.heap.size w (wr.alloc (.cells #[.int .i64 (y:Int),.int .i64 (x:Int)] 209)) from HB.out.alloc HB.out.size _)
   have HX:Hid (∀ w',Grows (wr.alloc (.cells #[.int .i64 (y:Int),.int .i64 (x:Int)] 209)) w' → w'.cell? ⟨wr.heap.size,0,none⟩ = some (.int .i64 (y:Int)) ∧ w'.cell? ⟨wr.heap.size,1,none⟩ = some (.int .i64 (x:Int))):=fun w' h => by
    have hr:=Row.grow (Row.new wr 209 #[.int .i64 (y:Int),.int .i64 (x:Int)] [.int .i64 (y:Int),.int .i64 (x:Int)] rfl) h
    exact ⟨hr.cell 0,hr.cell 1⟩
   have w1:IntKind.i64.wrap ((k:Int) + 1) = (k:Int) + 1:=by rw [IntKind.wrap_i64];omega
   have w2:IntKind.i64.wrap (m:Int) = (m:Int):=by rw [IntKind.wrap_i64];omega
   have w3:IntKind.i64.wrap ((x:Int) + (m:Int)) = (x:Int) + (m:Int):=by rw [IntKind.wrap_i64];omega
   have w4:IntKind.i64.wrap ((sk:Int) + ((x:Int) + (m:Int))) = (sk:Int) + ((x:Int) + (m:Int)):=by rw [IntKind.wrap_i64];omega
   have hck:ck + y ≤ 65536:=by omega
   clear hm hc hcell hcc hss
   go_wp2_with fail
   refine wp_region_loose (tabRs [(7,ConstV (.int .i64 (s:Int)))]) (by kernel_rfl) (by kernel_rfl) (tabRs_cons ConstV.lasts tabRs_nil) ?_
   iterate 7 ((with_reducible refine loose_one (v:=?_) (a':=?_) ?_ ?_ (fun w' hC' hG' => ?_) ?_ ?_);rotate_left 2;(focus rfl);(focus rfl);(focus (obtain ⟨x0,x1⟩:=HX.out w' hC';clear hC' hG';go_simp;rfl));(focus (go_simp;rfl)))
   refine loose_call (R:=ConstV (.int .i64 (s:Int))) (f:=221) (args:=#[.int .i64 ((k:Int) + 1)]) (by rfl) (by rfl) (fun _ => by go_simp) (fun w' hC' hG' => const_loose0 (HSW.out w')) ?_
   rintro _ ⟨_,_,rfl⟩
   refine ⟨?_,?_,?_⟩
   rotate_left
   ·go_simp
    rfl
   iterate 4 ((with_reducible refine loose_one (v:=?_) (a':=?_) ?_ ?_ (fun w' hC' hG' => ?_) ?_ ?_);rotate_left 2;(focus rfl);(focus rfl);(focus (obtain ⟨x0,x1⟩:=HX.out w' hC';clear hC' hG';go_simp;rfl));(focus (go_simp;rfl)))
   refine loose_done (fun w6 hC' hG' => ?_)
   clear hG'
   have HB6:=Hd (Grows.of_below HBA.out hC')
   clear hC'
   go_wp2_with fail
   refine ⟨⟨k + 1,by omega,by go_num,?_,?_,HB6.out⟩,by simp [intOf];omega⟩
   ·rw [HQ1.out];go_num
   ·rw [HQ2.out];go_num
  ·have hke:k = n:=by omega
   subst hke
   have hcc:=HCC.out
   have hss:=HSS.out
   have HVS:=Hd (fun w' => varintSize_any (sumF C k) w' (by omega))
   have hes:esz (sumF C k) ≤ 10:=(esz_bd (n:=sumF C k) (by omega)).2
   generalize sumF (fun j => X j + C j * vsw (j + 1)) k = sk at *
   generalize sumF C k = ck at *
   have hwk:IntKind.u64.wrap (ck:Int) = (ck:Int):=by rw [IntKind.wrap_u64];omega
   go_wp2_with fail
   refine (HVS.out wr).mono ?_
   rintro e w' ⟨rfl,rfl⟩
   go_wp2_with fail
   go_ret
   refine ⟨retI ?_,HB.out⟩
   rw [HES.out]
   omega
end Go.Proofs.YthmipnokimlbdaaGreat
namespace Go.Proofs.YthmipnokimlbdaaGreat
set_option maxRecDepth 20000
open Go.RowKit
theorem icells_append (l r:List Int):icells (l ++ r) = icells l ++ icells r:=by simp [icells]
theorem oneCell_icells (l:List Int):∀ u ∈ icells l,u.oneCell' = true:=by
 intro u hu
 unfold icells at hu
 rw [List.mem_map] at hu
 obtain ⟨x,_,rfl⟩:=hu
 rfl
theorem run_append_il {wr w0:World} {base:Nat} {ty:TypeId} {v:Value} {pre:List Int} (hown:wr.ownsRow base 2 1 v pre.length (icells pre)) (hb:Below base w0 wr) (hbase:base ≤ wr.heap.size) {u:Value} {l:List Int} (hu:IsI wr u l)
 (hlen:pre.length + l.length ≤ 17592186044416) :
 ∃ v' w',(Builtin.append_ #[22,22] ty #[v,u]).run Tryz.prog wr = .ok v' w' ∧ w'.ownsRow base 2 1 v' (pre ++ l).length (icells (pre ++ l)) ∧ Below base w0 w' ∧ KeepsRows 2 wr w':=by
 obtain ⟨i0,hi,hz0,hz1,hz2⟩:=info_parts info_i64
 obtain ⟨A,c,rfl,hle,hc⟩:=hu
 rw [icells_length] at hle hc ⊢
 cases A with
 | none =>
   have hl:l = []:=by
    cases l with
    | nil => rfl
    | cons x r => obtain ⟨b,off,h,_⟩:=hc (by simp);cases h
   subst hl
   exact ⟨v,wr,run_append_nothing Tryz.underlying22 hi hown c,by simpa using hown,hb,fun _ _ _ _ _ _ _ h => h⟩
 | some ad =>
   have hcells:∀ j x,(icells l)[j]? = some x → wr.cell? (ad.add j) = some x:=by
    intro j x hx
    have hj:j < l.length:=by
     rcases Nat.lt_or_ge j l.length with h | h
     ·exact h
     ·rw [List.getElem?_eq_none (by rw [icells_length];exact h)] at hx;cases hx
    obtain ⟨b,off,h,hcell⟩:=hc (by omega)
    injection h with h
    subst h
    rw [Addr.add_lit,hcell j hj]
    exact hx
   obtain ⟨v',w',h1,h2,h3,_⟩:=run_append_own (P:=Tryz.prog) wr base 22 ty 2 i0 (.int .i64 0) 1 8 Tryz.underlying22 hi hz0 hz1 hz2 rfl (by decide) v pre.length (icells pre) hown ad l.length c (icells l)
    (by rw [icells_length];omega) hcells (oneCell_icells l) (by unfold maxLen;omega) (by omega) hbase
   refine ⟨v',w',h1,?_,hb.grown h3 hbase (fun k hk => (hown.lt k hk).1),fun b e' s x n xs he hx => hx.kept h3 (ownsRow_ne hx hown he)⟩
   rw [icells_append,List.length_append];exact h2
theorem wpList_append_il {wr:World} {ops:Array Oper} {rest:List Oper} {o:Oper} {a:Act} {Q:Exit → Act → World → Prop} (hgd:o.guard = none) (s x:Operand)
 (ho:o.op = .call { callee:=.builtin .append,args:=#[s,x],argTypes:=#[22,22] })
 (v:Value) (pre:List Int) (hs:a.eval s = v) (base:Nat) (hown:wr.ownsRow base 2 1 v pre.length (icells pre)) (w0:World) (hb:Below base w0 wr) (hbase:base ≤ wr.heap.size)
 (u:Value) (l:List Int) (hx:a.eval x = u) (hu:IsI wr u l) (hlen:pre.length + l.length ≤ 17592186044416)
 (h:∀ v' w',w'.ownsRow base 2 1 v' (pre ++ l).length (icells (pre ++ l)) → Below base w0 w' → KeepsRows 2 wr w' → wpList Tryz.prog ops Q rest (a.put o.dst v') w') :
 wpList Tryz.prog ops Q (o :: rest) a wr:=by
 refine wpList_plain hgd fun K hK => ?_
 obtain ⟨v',w',hrun,h2,h3,h4⟩:=run_append_il (ty:=o.type) hown hb hbase hu hlen
 unfold Oper.wp execOp
 simp only [ho,resolve,invoke,builtin,Sem.run_bind,Sem.run_pure,Result.andThen_ok,List.map_toArray,List.map_cons,List.map_nil,hs,hx,hrun]
 exact hK _ _ (h v' w' h2 h3 h4)
def IntsV (l:List Int):Value → World → Prop:=fun v w => IsI w v l
theorem IntsV.lasts {l:List Int}:∀ v w w',IntsV l v w → Grows w w' → IntsV l v w':=fun _ _ _ h hg => IsI.grow h hg
theorem isI_one (w:World) (z:Int):IsI (w.alloc (.cells #[.int .i64 z] 2)) (.slice (some ⟨w.heap.size,0,none⟩) 1 1) [z]:=Reads.of_row (Row.at_ w 2 _ (icells [z]) rfl _ rfl) 1 1 rfl (Nat.le_refl _)
theorem own_nil_i (w:World) (base:Nat):w.ownsRow base 2 1 (.slice none 0 0) ([]:List Int).length (icells []):=⟨rfl,.inl ⟨rfl,rfl⟩⟩
def InR (r:List Int) (w:World) (e:Ending) (w':World):Prop:=∃ v,e = .returned v ∧ Grows w w' ∧ w'.ownsRow w.heap.size 2 1 v r.length (icells r)
def RDfRel (w:World) (D:List Int) (o i:Value) (wr:World):Prop:=
 ∃ k:Nat,k ≤ D.length ∧ i = .int .i64 ((k:Int) + 1) ∧ wr.ownsRow w.heap.size 2 1 o (D.take k).length (icells (D.take k)) ∧ Below w.heap.size w wr
set_option maxRecDepth 20000 in
set_option maxHeartbeats 4000000 in
theorem rdiff_any (v:Value) (l:List Int) (w:World) (hv:IsI w v l) (hl:l.length ≤ 1000000) :
 Calls Tryz.prog 181 #[v] w (InR (dfL l) w):=by
 have HV:=Hd hv
 obtain ⟨A,c,rfl⟩:=hv.slice_
 have HDL:=Hd (dfL_length l)
 have HDG:Hid (∀ k,(h:k + 1 < l.length) → (h2:k < (dfL l).length) → (dfL l)[k] = IntKind.i64.wrap (l[k + 1] - l[k])):=fun k h h2 => dfL_get h h2
 clear hv
 generalize dfL l = D at *
 go_enter Tryz.func181,Tryz.ntmps181
 go_wp2_with fail
 go_loopw [3,4] (fun o i wr => RDfRel w D o i wr) (fun _ i _ => l.length - (intOf i).toNat)
 case atStart => exact ⟨0,by omega,rfl,own_nil_i _ _,Below.refl _ _⟩
 case round =>
  obtain ⟨k,hk,rfl,hown,hbw⟩:=hrel
  have HB:=Hd hbw
  have HO:=Hd hown
  have hsz:=hbw.size
  clear hown hbw
  by_cases hlt:k + 1 < l.length
  ·obtain ⟨b,f,rfl,hck⟩:=(HV.out.grow HB.out).at_ hlt
   obtain ⟨b',f',he,hck0⟩:=(HV.out.grow HB.out).at_ (show k < l.length by omega)
   injection he with he
   injection he with e1 e2 e3
   subst e1 e2
   have hkd:k < D.length:=by have:=HDL.out;omega
   have hdg:=HDG.out k hlt hkd
   have HTD:=Hd (List.take_succ_eq_append_getElem hkd)
   rw [hdg] at HTD
   have HX:Hid (∀ w',Grows wr w' → w'.cell? ⟨b,f + (k + 1),none⟩ = some (.int .i64 l[k + 1]) ∧ w'.cell? ⟨b,f + k,none⟩ = some (.int .i64 l[k])):=fun w' h =>
    ⟨(h.cell (World.block_lt_of_cell? _ _ hck)).trans hck,(h.cell (World.block_lt_of_cell? _ _ hck0)).trans hck0⟩
   generalize hy1:l[k + 1] = y1 at *
   generalize hy0:l[k] = y0 at *
   obtain ⟨z,hz⟩:∃ z,IntKind.i64.wrap (y1 - y0) = z:=⟨_,rfl⟩
   rw [hz] at HTD
   have hwk:IntKind.i64.wrap (k:Int) = (k:Int):=by rw [IntKind.wrap_i64];omega
   have hwk1:IntKind.i64.wrap ((k:Int) + 1) = (k:Int) + 1:=by rw [IntKind.wrap_i64];omega
   have hkl:k < l.length:=by omega
   clear hdg hck hck0 hy1 hy0
   go_wp2_with fail
   refine wp_region_loose_tail 12 (tabRs [(11,IntsV [z])]) (by kernel_rfl) (by kernel_rfl) (tabRs_cons IntsV.lasts tabRs_nil) ?_
   simp only [List.take_succ_cons,List.take_zero,List.drop_succ_cons,List.drop_zero]
   iterate 11 ((with_reducible refine loose_one (v:=?_) (a':=?_) ?_ ?_ (fun w' hC' hG' => ?_) ?_ ?_);rotate_left 2;(focus rfl);(focus rfl);(focus (obtain ⟨x0,x1⟩:=HX.out w' hC';clear hC' hG';go_simp;rfl));(focus (go_simp;rfl)))
   refine loose_new (R:=IntsV [z]) (by rfl) (by rfl) (fun w' hC' hG' => ?_) ?_
   ·exact ⟨.slice (some ⟨w'.heap.size,0,none⟩) 1 1,w'.alloc (.cells #[.int .i64 z] 2),by first | rfl | go_simp,(Below.refl _ _).alloc (Nat.le_refl _) _,isI_one w' z⟩
   intro v11 hv11
   refine ⟨?_,?_,?_⟩
   rotate_left
   ·go_simp
    rfl
   refine loose_done (fun w7 hC' hG' => ?_)
   have HU7:=Hd (show IsI w7 v11 [z] from (hG' 11).2 rfl)
   have HB7:=Hd (HB.out.trans (hC'.mono HB.out.size))
   have HO7:=Hd (own_grow HO.out hC')
   clear hC' hG' hv11
   go_wp2_with (at_builtin;go_loud (refine wpList_append_il rfl _ _ rfl _ (D.take k) (by rfl) w.heap.size HO7.out w HB7.out HB7.out.size _ [z] (by rfl) HU7.out (by have:=HDL.out;rw [List.length_take,List.length_singleton];omega) ?_);intro v3 w3 hown3 hb3 hk3;have HO3:=Hd hown3;have HB3:=Hd hb3;clear hown3 hb3 hk3)
   refine ⟨⟨k + 1,by omega,by go_num,?_,HB3.out⟩,by simp [intOf];omega⟩
   rw [HTD.out]
   exact HO3.out
  ·have hke:k = D.length:=by have:=HDL.out;omega
   rw [hke,List.take_length] at HO
   clear hke
   go_wp2_with fail
   go_ret
   exact ⟨_,rfl,HB.out,HO.out⟩
theorem own_ni9 {w:World} {B:Nat} {v:Value} {n:Nat} {xs:List Value} (h:w.ownsRow B 2 1 v n xs):∃ A c,v = .slice A n c:=by
 rcases h.2 with ⟨h1,h2⟩ | ⟨g,cap,cur,h1,_⟩
 ·exact ⟨none,0,by rw [h1,h2]⟩
 ·exact ⟨_,cap,h1⟩
def RPsRel (w:World) (f:Int) (ds:List Int) (o i:Value) (wr:World):Prop:=
 ∃ k:Nat,k ≤ ds.length ∧ i = .int .i64 (k:Int) ∧ wr.ownsRow w.heap.size 2 1 o (psL f (ds.take k)).length (icells (psL f (ds.take k))) ∧ Below w.heap.size w wr
theorem own_one_i (w:World) (z:Int):(w.alloc (.cells #[.int .i64 z] 2)).ownsRow w.heap.size 2 1 (.slice (some ⟨w.heap.size,0,none⟩) 1 1) ([z]:List Int).length (icells [z]):=by
 have h:=Row.own (Row.new w 2 #[.int .i64 z] (icells [z]) rfl) (Nat.le_refl _) (by unfold maxLen;rw [icells_length,List.length_singleton];omega)
 exact h
set_option maxRecDepth 20000 in
set_option maxHeartbeats 4000000 in
theorem rps_any (x:Int) (v:Value) (l:List Int) (w:World) (hv:IsI w v l) (hl:l.length ≤ 1000000) :
 Calls Tryz.prog 130 #[.int .i64 x,v] w (InR (psL x l) w):=by
 have HV:=Hd hv
 obtain ⟨A,c,rfl⟩:=hv.slice_
 have HO0:=Hd (own_one_i w x)
 have HB0:=Hd ((Below.refl w.heap.size w).alloc (Nat.le_refl _) (.cells #[.int .i64 x] 2))
 clear hv
 go_enter Tryz.func130,Tryz.ntmps130
 go_wp2_with fail
 go_loopw [5,6] (fun o i wr => RPsRel w x l o i wr) (fun _ i _ => l.length - (intOf i).toNat)
 case atStart => exact ⟨0,by omega,rfl,HO0.out,HB0.out⟩
 case round =>
  obtain ⟨k,hk,rfl,hown,hbw⟩:=hrel
  have HB:=Hd hbw
  have HO:=Hd hown
  clear hown hbw HO0 HB0
  have HSL:=Hd (show (psL x (l.take k)).length = k + 1 by rw [psL_length,List.length_take];omega)
  obtain ⟨A5,c5,rfl⟩:=own_ni9 HO.out
  by_cases hlt:k < l.length
  ·have HI5:=Hd (show IsI wr _ _ from Reads.of_own HO.out)
   obtain ⟨b,f,rfl,hck⟩:=(HV.out.grow HB.out).at_ hlt
   obtain ⟨b5,f5,rfl,hck5⟩:=HI5.out.at_ (show k < (psL x (l.take k)).length by rw [HSL.out];omega)
   have hps:=psL_at hk x
   rw [List.getElem?_eq_getElem (by rw [HSL.out];omega)] at hps
   injection hps with hps
   rw [hps] at hck5
   have HTD:=Hd (psL_take hlt x)
   have HX:Hid (∀ w',Grows wr w' → w'.cell? ⟨b,f + k,none⟩ = some (.int .i64 l[k]) ∧ w'.cell? ⟨b5,f5 + k,none⟩ = some (.int .i64 (lastS x (l.take k)))):=fun w' h =>
    ⟨(h.cell (World.block_lt_of_cell? _ _ hck)).trans hck,(h.cell (World.block_lt_of_cell? _ _ hck5)).trans hck5⟩
   have hsl:=HSL.out
   generalize hy:l[k] = y at *
   generalize lastS x (l.take k) = s at *
   generalize psL x (l.take k) = ps at *
   obtain ⟨z,hz⟩:∃ z,IntKind.i64.wrap (s + y) = z:=⟨_,rfl⟩
   rw [hz] at HTD
   obtain ⟨m,hm⟩:∃ m,m = ps.length:=⟨_,rfl⟩
   have HM:=Hd hm
   have hkm:k < m:=by omega
   have hml:m ≤ 1000001:=by omega
   rw [← hm] at HO ⊢
   clear hck hck5 hps hy hsl HSL hm HI5
   go_wp2_with fail
   refine wp_region_loose_tail 11 (tabRs [(10,IntsV [z])]) (by kernel_rfl) (by kernel_rfl) (tabRs_cons IntsV.lasts tabRs_nil) ?_
   simp only [List.take_succ_cons,List.take_zero,List.drop_succ_cons,List.drop_zero]
   iterate 10 ((with_reducible refine loose_one (v:=?_) (a':=?_) ?_ ?_ (fun w' hC' hG' => ?_) ?_ ?_);rotate_left 2;(focus rfl);(focus rfl);(focus (obtain ⟨x0,x1⟩:=HX.out w' hC';clear hC' hG';go_simp;rfl));(focus (go_simp;rfl)))
   refine loose_new (R:=IntsV [z]) (by rfl) (by rfl) (fun w' hC' hG' => ?_) ?_
   ·exact ⟨.slice (some ⟨w'.heap.size,0,none⟩) 1 1,w'.alloc (.cells #[.int .i64 z] 2),by first | rfl | go_simp,(Below.refl _ _).alloc (Nat.le_refl _) _,isI_one w' z⟩
   intro v11 hv11
   refine ⟨?_,?_,?_⟩
   rotate_left
   ·go_simp
    rfl
   refine loose_done (fun w7 hC' hG' => ?_)
   have HU7:=Hd (show IsI w7 v11 [z] from (hG' 10).2 rfl)
   have HB7:=Hd (HB.out.trans (hC'.mono HB.out.size))
   have HO7:=Hd (own_grow HO.out hC')
   rw [HM.out] at HO7
   clear hC' hG' hv11
   go_wp2_with (at_builtin;go_loud (refine wpList_append_il rfl _ _ rfl _ ps (by rfl) w.heap.size (by first | exact HO7.out | (rw [HM.out];exact HO7.out)) w HB7.out HB7.out.size _ [z] (by rfl) HU7.out (by have:=HM.out;rw [List.length_singleton];omega) ?_);intro v3 w3 hown3 hb3 hk3;have HO3:=Hd hown3;have HB3:=Hd hb3;clear hown3 hb3 hk3)
   refine ⟨⟨k + 1,by omega,by go_num,?_,HB3.out⟩,by simp [intOf];omega⟩
   rw [HTD.out]
   exact HO3.out
  ·have hke:k = l.length:=by omega
   rw [hke,List.take_length] at HO HSL ⊢
   clear hke
   go_wp2_with fail
   go_ret
   exact ⟨_,rfl,HB.out,HO.out⟩
end Go.Proofs.YthmipnokimlbdaaGreat
namespace Go.Proofs.YthmipnokimlbdaaGreat
open Go.RowKit
theorem wpList_append_wk {wr:World} {ops:Array Oper} {rest:List Oper} {o:Oper} {a:Act} {Q:Exit → Act → World → Prop} (hgd:o.guard = none) (s x:Operand)
 (ho:o.op = .call { callee:=.builtin .append,args:=#[s,x],argTypes:=#[52,52] })
 (v:Value) (pre:List Nat) (hs:a.eval s = v) (base:Nat) (hown:wr.ownsRow base 85 1 v pre.length (wcells pre)) (w0:World) (hb:Below base w0 wr) (hbase:base ≤ wr.heap.size)
 (z:Int) (c:Nat) (hz:z = (c:Int)) (hx:a.eval x = .slice (some ⟨wr.heap.size,0,none⟩) 1 1) (hlen:pre.length + 1 ≤ 17592186044416)
 (h:∀ v' w',w'.ownsRow base 85 1 v' (pre ++ [c]).length (wcells (pre ++ [c])) → Below base w0 w' → KeepsRows 85 wr w' → wpList Tryz.prog ops Q rest (a.put o.dst v') w') :
 wpList Tryz.prog ops Q (o :: rest) a (wr.alloc (.cells #[.int .u64 z] 85)):=by
 obtain ⟨i0,hi,hz0,hz1,hz2⟩:=info_parts info_u64
 subst hz
 refine wpList_append_own _ hgd s x 52 ho base 85 i0 (.int .u64 0) 1 8 Tryz.underlying52 hi hz0 hz1 hz2 rfl (by decide) v pre.length (wcells pre) hs (hown.alloc _) ⟨wr.heap.size,0,none⟩ 1 1 [.int .u64 (c:Int)] hx rfl ?_ ?_ ?_ ?_ ?_ ?_
 ·intro j u hj
  match j,hj with
  | 0,hj => simp at hj;subst hj;simp [Addr.add]
 ·intro u hu;simp at hu;subst hu;rfl
 ·unfold maxLen;omega
 ·omega
 ·simp;omega
 ·intro v' w' h1 h2 _
  rw [← wcells_snoc,show pre.length + 1 = (pre ++ [c]).length by simp] at h1
  exact h v' w' h1 ((hb.alloc hbase _).grown h2 (by simp;omega) (fun k hk => (hown.lt k hk).1)) (fun b e' s y n xs he hy => (hy.alloc _).kept h2 (ownsRow_ne hy hown he))
theorem rlow_any (d W:Nat) (w:World) (hd:d < 18446744073709551616) (hw:W ≤ 64):Calls Tryz.prog 179 #[.int .u64 (d:Int),.int .i64 (W:Int)] w fun e w' => e = .returned (.int .u64 ((d % 2 ^ W:Nat):Int)) ∧ w = w':=by
 by_cases h64:W = 64
 ·have HE:=Hd (show d % 2 ^ W = d by rw [h64];exact Nat.mod_eq_of_lt hd)
  subst h64
  go_enter Tryz.func179,Tryz.ntmps179
  go_wp2_with fail
  go_ret
  exact ⟨retI (by rw [HE.out]),rfl⟩
 ·have hE:((W:Int) == 64) = false:=by simp;omega
  have HL:=Hd (low_wrap (c:=W) (by omega))
  have HA:=Hd (and_low hd hw)
  have hw1:IntKind.u64.wrap (W:Int) = (W:Int):=by rw [IntKind.wrap_u64];omega
  have hlt:W < 64:=by omega
  clear h64
  go_enter Tryz.func179,Tryz.ntmps179
  go_wp2_with fail
  go_ret
  refine ⟨retI ?_,rfl⟩
  rw [← HA.out,← HL.out]
  first | rfl | rw [Int.one_mul]
theorem rhigh_any (d W:Nat) (w:World) (hd:d < 18446744073709551616) (hw:W ≤ 64):Calls Tryz.prog 180 #[.int .u64 (d:Int),.int .i64 (W:Int)] w fun e w' => e = .returned (.int .u64 ((d / 2 ^ W:Nat):Int)) ∧ w = w':=by
 by_cases h64:W = 64
 ·have HE:=Hd (show d / 2 ^ W = 0 by rw [h64];exact Nat.div_eq_of_lt hd)
  subst h64
  go_enter Tryz.func180,Tryz.ntmps180
  go_wp2_with fail
  go_ret
  exact ⟨retI (by rw [HE.out];rfl),rfl⟩
 ·have hE:((W:Int) == 64) = false:=by simp;omega
  have HL:=Hd (show ((d / 2 ^ W:Nat):Int) = (d:Int) / 2 ^ W by simp)
  have hw1:IntKind.u64.wrap (W:Int) = (W:Int):=by rw [IntKind.wrap_u64];omega
  have hlt:W < 64:=by omega
  clear h64
  go_enter Tryz.func180,Tryz.ntmps180
  go_wp2_with fail
  go_ret
  exact ⟨retI (by rw [HL.out]),rfl⟩
def WithRel (w:World) (ds:List Nat) (W:Nat) (m pk tl i:Value) (wr:World):Prop:=
 ∃ k:Nat,k ≤ ds.length ∧ i = .int .i64 (k:Int) ∧ m = .int .i64 ((many W (ds.take k):Nat):Int) ∧
   wr.ownsRow w.heap.size 85 1 pk ((ds.take k).map fun d => d % 2 ^ W).length (wcells ((ds.take k).map fun d => d % 2 ^ W)) ∧
   wr.ownsRow w.heap.size 5 1 tl (exc W 0 (ds.take k)).length (bcells (exc W 0 (ds.take k))) ∧ Below w.heap.size w wr
set_option maxRecDepth 8000 in
set_option maxHeartbeats 4000000 in
theorem rwith_any (v:Value) (l:List Int) (W:Nat) (w:World) (hv:IsI w v l) (hl:l.length ≤ 65536) (hW:W ≤ 64) (hin:∀ x ∈ l,frIn x) :
 Calls Tryz.prog 111 #[v,.int .i64 (W:Int)] w (ByR (encW l W) w):=by
 have HV:=Hd hv
 have HLB:=Hd (fun W' => rleast_any v l W')
 obtain ⟨A,c,rfl⟩:=hv.slice_
 have HB0:=Hd (baseV_in hin)
 have HDL:=Hd (difL_length l)
 have HDU:=Hd (difL_U64 l)
 have HDG:Hid (∀ k,(h:k < l.length) → (difL l)[k]? = some (difN (baseV l) l[k])):=fun k h => by
  unfold difL;rw [List.getElem?_map,List.getElem?_eq_getElem h];rfl
 have HEW:=Hd (show encW l W = encD (baseV l) (difL l) W from rfl)
 have HIL:=Hd (HLB.out w hv (by omega))
 clear hv HLB
 go_enter Tryz.func111,Tryz.ntmps111
 go_wp2_with fail
 refine HIL.out.mono ?_
 rintro e w' ⟨rfl,rfl⟩
 generalize baseV l = b0 at *
 generalize difL l = ds at *
 go_wp2_with fail
 go_loopw [6,7,8,9] (fun m pk tl i wr => WithRel w ds W m pk tl i wr) (fun _ _ _ i _ => l.length - (intOf i).toNat)
 case atStart => exact ⟨0,by omega,rfl,rfl,⟨rfl,.inl ⟨rfl,rfl⟩⟩,⟨rfl,.inl ⟨rfl,rfl⟩⟩,Below.refl _ _⟩
 case round =>
  obtain ⟨k,hk,rfl,rfl,hpk,htl,hb⟩:=hrel
  have HB:=Hd hb
  have HPK:=Hd hpk
  have HTL:=Hd htl
  have hdl:=HDL.out
  clear hb hpk htl
  by_cases hlt:k < l.length
  ·obtain ⟨bb,f,rfl,hck⟩:=(HV.out.grow HB.out).at_ hlt
   have hg:=HDG.out k hlt
   have hkd:k < ds.length:=by omega
   have hdk:difN b0 l[k] < 18446744073709551616:=difN_lt _ _
   have hwr:=dif_wrap l[k] b0
   rw [List.getElem?_eq_getElem hkd] at hg
   injection hg with hg
   have HTD:=Hd (List.take_succ_eq_append_getElem hkd)
   rw [hg] at HTD
   generalize l[k] = x at *
   generalize difN b0 x = d at *
   have HTL1:=Hd (show (ds.take k).length = k by rw [List.length_take];omega)
   have HM1:=Hd (show many W (ds.take k) ≤ 65536 by have:=many_le W (ds.take k);have:=HTL1.out;omega)
   have HX1:=Hd (exc_len W (ds.take k) 0)
   have HSM:=Hd (many_snoc W d (ds.take k))
   have HSX:=Hd (exc_snoc W d (ds.take k) 0)
   have HSP:=Hd (show ((ds.take k ++ [d]).map fun d => d % 2 ^ W) = ((ds.take k).map fun d => d % 2 ^ W) ++ [d % 2 ^ W] by simp)
   have HPL:=Hd (show ((ds.take k).map fun d => d % 2 ^ W).length = k by rw [List.length_map];exact HTL1.out)
   rw [HTL1.out,Nat.zero_add] at HSX
   rw [HTL1.out] at HX1
   generalize hgm:(ds.take k).map (fun d => d % 2 ^ W) = ps at *
   generalize hgx:exc W 0 (ds.take k) = xs at *
   generalize hgn:many W (ds.take k) = mm at *
   have hmm:=HM1.out
   have hsz:=HB.out.size
   have hwk:IntKind.u64.wrap (k:Int) = (k:Int):=by rw [IntKind.wrap_u64];omega
   have HLOW:=Hd (fun W' => rlow_any d W W' hdk hW)
   have HHI:=Hd (fun W' => rhigh_any d W W' hdk hW)
   have hhd:d / 2 ^ W < 18446744073709551616:=Nat.lt_of_le_of_lt (Nat.div_le_self _ _) hdk
   generalize d / 2 ^ W = h at *
   generalize d % 2 ^ W = lo at *
   clear hg hgm hgx hgn hkd hdl
   by_cases h0:h = 0
   ·have hE:((h:Int) != 0) = false:=by rw [h0];rfl
    rw [if_pos h0,Nat.add_zero] at HSM
    rw [if_pos h0,List.append_nil] at HSX
    clear h0
    go_wp2_with (first | (go_at_call 179;refine (HLOW.out _).mono ?_;rintro e w2 ⟨rfl,rfl⟩) | (go_at_call 180;refine (HHI.out _).mono ?_;rintro e w2 ⟨rfl,rfl⟩) | (at_builtin;go_loud (refine wpList_append_wk rfl _ _ rfl _ ps (by rfl) w.heap.size HPK.out _ HB.out hsz _ lo rfl (by rfl) (by rw [HPL.out];omega) ?_);intro v3 w3 hown3 hb3 hk3;have HO3:=Hd hown3;have HB3:=Hd hb3;have HT3:=Hd (hk3 _ _ _ _ _ _ (by decide) HTL.out);clear hown3 hb3 hk3))
    refine ⟨⟨k + 1,by have:=HDL.out;omega,by go_num,?_,?_,?_,HB3.out⟩,by simp [intOf];omega⟩
    ·rw [HTD.out,HSM.out]
    ·rw [HTD.out,HSP.out];exact HO3.out
    ·rw [HTD.out,HSX.out];exact HT3.out
   ·have hE:((h:Int) != 0) = true:=by simpa using h0
    rw [if_neg h0] at HSM
    rw [if_neg h0] at HSX
    clear h0
    have HEK:=Hd (fun W' => rencode_any (k:Int) W' (by omega) (by omega))
    have HEH:=Hd (fun W' => rencode_any (h:Int) W' (by omega) (by omega))
    rw [Int.toNat_natCast] at HEK HEH
    have h10:=HX1.out
    go_wp2_with (first | (go_at_call 179;refine (HLOW.out _).mono ?_;rintro e w2 ⟨rfl,rfl⟩) | (go_at_call 180;refine (HHI.out _).mono ?_;rintro e w2 ⟨rfl,rfl⟩) | (at_builtin;go_loud (refine wpList_append_wk rfl _ _ rfl _ ps (by rfl) w.heap.size HPK.out _ HB.out hsz _ lo rfl (by rfl) (by rw [HPL.out];omega) ?_);intro v3 w3 hown3 hb3 hk3;have HO3:=Hd hown3;have HB3:=Hd hb3;have HT3:=Hd (hk3 _ _ _ _ _ _ (by decide) HTL.out);clear hown3 hb3 hk3))
    refine (HEK.out w3).mono ?_
    rintro e w4 ⟨v4,rfl,hown4,hb4⟩
    have HU4:=Hd (IsBytes.of_own hown4)
    have HB4:=Hd (HB3.out.trans (hb4.mono HB3.out.size))
    have HO4:=Hd (own_grow HO3.out hb4)
    have HT4:=Hd (own_grow HT3.out hb4)
    clear hown4 hb4
    go_wp2_with ((at_builtin;go_loud (refine wpList_append_bytes_k (w:=w) rfl _ _ 29 rfl 5 Tryz.underlying29 info_u8 _ xs (by rfl) HT4.out HB4.out _ (enc k) (by rfl) HU4.out (by have:=enc_le10 k;omega) ?_);intro v5 w5 hown5 hb5 hk5;have HT5:=Hd hown5;have HB5:=Hd hb5;have HO5:=Hd (hk5 _ _ _ _ _ _ (by decide) HO4.out);clear hown5 hb5 hk5))
    refine (HEH.out w5).mono ?_
    rintro e w6 ⟨v6,rfl,hown6,hb6⟩
    have HU6:=Hd (IsBytes.of_own hown6)
    have HB6:=Hd (HB5.out.trans (hb6.mono HB5.out.size))
    have HO6:=Hd (own_grow HO5.out hb6)
    have HT6:=Hd (own_grow HT5.out hb6)
    clear hown6 hb6
    go_wp2_with ((at_builtin;go_loud (refine wpList_append_bytes_k (w:=w) rfl _ _ 29 rfl 5 Tryz.underlying29 info_u8 _ (xs ++ enc k) (by rfl) HT6.out HB6.out _ (enc h) (by rfl) HU6.out (by have:=enc_le10 k;have:=enc_le10 h;rw [List.length_append];omega) ?_);intro v7 w7 hown7 hb7 hk7;have HT7:=Hd hown7;have HB7:=Hd hb7;have HO7:=Hd (hk7 _ _ _ _ _ _ (by decide) HO6.out);clear hown7 hb7 hk7))
    refine ⟨⟨k + 1,by have:=HDL.out;omega,by go_num,?_,?_,?_,HB7.out⟩,by simp [intOf];omega⟩
    ·rw [HTD.out,HSM.out];go_num
    ·rw [HTD.out,HSP.out];exact HO7.out
    ·rw [HTD.out,HSX.out,← List.append_assoc];exact HT7.out
  ·have hke:k = ds.length:=by omega
   subst hke
   rw [List.take_length] at *
   have hz:=zz_bd b0 HB0.out.1 (by have:=HB0.out.2;omega)
   have HMM:=Hd (show many W ds ≤ 65536 by have:=many_le W ds;omega)
   have HXL:=Hd (show (exc W 0 ds).length ≤ 2000000 by have:=exc_len W ds 0;omega)
   have HPK2:=Hd (show IsW wr u7 (ds.map fun d => d % 2 ^ W) from Reads.of_own HPK.out)
   have HTL2:=Hd (IsBytes.of_own HTL.out)
   have HPU:=Hd (show U64 (ds.map fun d => d % 2 ^ W) by
    intro x hx
    rw [List.mem_map] at hx
    obtain ⟨d,hd,rfl⟩:=hx
    exact Nat.lt_of_le_of_lt (Nat.mod_le _ _) (HDU.out d hd))
   have HZG:=Hd (fun W' => rzigzag_any b0 W' HB0.out.1 (by have:=HB0.out.2;omega))
   have HE1:=Hd (fun W' => rencode_any (zz b0) W' hz.1 (by omega))
   have HE2:=Hd (fun W' => rencode_any (W:Int) W' (by omega) (by omega))
   have hmm:=HMM.out
   have HE3:=Hd (fun W' => rencode_any ((many W ds:Nat):Int) W' (by omega) (by omega))
   have HPA:=Hd (fun v' W' hv' => rpack_any v' (ds.map fun d => d % 2 ^ W) (W:Int) W' hv' HPU.out (by rw [List.length_map];omega))
   have HPI:=Hd (show packI (ds.map fun d => d % 2 ^ W) (W:Int) = packL ds W by
    unfold packI
    rw [List.length_map,okB_t (by omega) hW,if_pos rfl,Int.toNat_natCast,packL_mod])
   have HPLN:=Hd (show (packL ds W).length ≤ 1000000 by
    rw [packL_length]
    have h5:ds.length * W ≤ ds.length * 64:=Nat.mul_le_mul_left _ hW
    unfold szB
    omega)
   have HED:Hid (encD b0 ds W = enc (zz b0).toNat ++ enc W ++ enc (many W ds) ++ packL ds W ++ exc W 0 ds):=by show _ = _;unfold encD;simp
   rw [HPI.out] at HPA
   rw [Int.toNat_natCast] at HE2 HE3
   have hwk:IntKind.u64.wrap (W:Int) = (W:Int):=by rw [IntKind.wrap_u64];omega
   have HL1:=Hd (enc_le10 (zz b0).toNat)
   have HL2:=Hd (enc_le10 W)
   have HL3:=Hd (enc_le10 (many W ds))
   have hwm:IntKind.u64.wrap ((many W ds:Nat):Int) = ((many W ds:Nat):Int):=by rw [IntKind.wrap_u64];omega
   generalize exc W 0 ds = xs at *
   generalize packL ds W = pp at *
   generalize many W ds = mm at *
   generalize (ds.map fun d => d % 2 ^ W) = ps at *
   clear hmm
   go_wp2_with (first | (go_at_call 108;refine (HZG.out _).mono ?_;rintro e w2 ⟨rfl,rfl⟩))
   refine (HE1.out wr).mono ?_
   rintro e w1 ⟨v1,rfl,hown1,hb1⟩
   have HO1:=Hd hown1
   have HB1:=Hd hb1
   clear hown1 hb1
   go_wp2_with fail
   refine (HE2.out w1).mono ?_
   rintro e w2 ⟨v2,rfl,hown2,hb2⟩
   have HU2:=Hd (IsBytes.of_own hown2)
   have HB2:=Hd (HB1.out.trans (hb2.mono HB1.out.size))
   have HO2:=Hd (own_grow HO1.out hb2)
   clear hown2 hb2
   go_wp2_with ((at_builtin;go_loud (refine wpList_append_bytes (w:=wr) rfl _ _ 29 rfl 5 Tryz.underlying29 info_u8 _ (enc (zz b0).toNat) (by rfl) HO2.out HB2.out _ (enc W) (by rfl) HU2.out (by have:=HL1.out;have:=HL2.out;omega) ?_);intro v3 w3 hown3 hb3;have HO3:=Hd hown3;have HB3:=Hd hb3;clear hown3 hb3))
   refine (HE3.out w3).mono ?_
   rintro e w4 ⟨v4,rfl,hown4,hb4⟩
   have HU4:=Hd (IsBytes.of_own hown4)
   have HB4:=Hd (HB3.out.trans (hb4.mono HB3.out.size))
   have HO4:=Hd (own_grow HO3.out hb4)
   clear hown4 hb4
   go_wp2_with ((at_builtin;go_loud (refine wpList_append_bytes (w:=wr) rfl _ _ 29 rfl 5 Tryz.underlying29 info_u8 _ (enc (zz b0).toNat ++ enc W) (by rfl) HO4.out HB4.out _ (enc mm) (by rfl) HU4.out (by have:=HL1.out;have:=HL2.out;have:=HL3.out;rw [List.length_append];omega) ?_);intro v5 w5 hown5 hb5;have HO5:=Hd hown5;have HB5:=Hd hb5;clear hown5 hb5))
   refine (HPA.out _ w5 (IsW.grow HPK2.out HB5.out)).mono ?_
   rintro e w6 ⟨v6,rfl,hb6,hu6⟩
   have HU6:=Hd hu6
   have HB6:=Hd (HB5.out.trans (hb6.mono HB5.out.size))
   have HO6:=Hd (own_grow HO5.out hb6)
   clear hu6 hb6
   go_wp2_with (first | (at_builtin;go_loud (refine wpList_append_bytes (w:=wr) rfl _ _ 29 rfl 5 Tryz.underlying29 info_u8 _ (enc (zz b0).toNat ++ enc W ++ enc mm) (by rfl) HO6.out HB6.out _ pp (by rfl) HU6.out (by have:=HL1.out;have:=HL2.out;have:=HL3.out;have:=HPLN.out;rw [List.length_append,List.length_append];omega) ?_);intro v7 w7 hown7 hb7;have HO7:=Hd hown7;have HB7:=Hd hb7;have HT7:=Hd (HTL2.out.grow hb7);clear hown7 hb7) | (at_builtin;go_loud (refine wpList_append_bytes (w:=wr) rfl _ _ 29 rfl 5 Tryz.underlying29 info_u8 _ (enc (zz b0).toNat ++ enc W ++ enc mm ++ pp) (by rfl) HO7.out HB7.out _ xs (by rfl) HT7.out (by have:=HL1.out;have:=HL2.out;have:=HL3.out;have:=HPLN.out;have:=HXL.out;rw [List.length_append,List.length_append,List.length_append];omega) ?_);intro v8 w8 hown8 hb8;have HO8:=Hd hown8;have HB8:=Hd hb8;clear hown8 hb8))
   go_ret
   refine ⟨_,rfl,Grows.of_below HB.out HB8.out,?_⟩
   rw [HEW.out,HED.out]
   exact IsBytes.of_own HO8.out
theorem bestTo_lt {f:Nat → Nat} {k:Nat} (h1:1 ≤ k) (h:f k < f (bestTo f (k - 1))):bestTo f k = k:=by
 obtain ⟨j,rfl⟩:∃ j,k = j + 1:=⟨k - 1,by omega⟩
 rw [Nat.add_sub_cancel] at h
 rw [bestTo,if_pos h]
theorem bestTo_ge {f:Nat → Nat} {k:Nat} (h1:1 ≤ k) (h:¬ f k < f (bestTo f (k - 1))):bestTo f k = bestTo f (k - 1):=by
 obtain ⟨j,rfl⟩:∃ j,k = j + 1:=⟨k - 1,by omega⟩
 rw [Nat.add_sub_cancel] at h ⊢
 rw [bestTo,if_neg h]
theorem sizeW_len {l:List Int} {W:Nat} (hl:l.length ≤ 65536) (hW:W ≤ 64):(encW l W).length ≤ 2000000:=by
 have h:=encD_len (baseV l) (difL l) hW
 rw [difL_length] at h
 unfold encW
 omega
def RBestRel (w:World) (l:List Int) (best size i:Value) (wr:World):Prop:=
 ∃ k:Nat,1 ≤ k ∧ k ≤ 65 ∧ i = .int .i64 (k:Int) ∧ best = .int .i64 ((bestTo (sizeW l) (k - 1):Nat):Int) ∧ size = .int .i64 ((sizeW l (bestTo (sizeW l) (k - 1)):Nat):Int) ∧ Below w.heap.size w wr
set_option maxHeartbeats 2000000 in
theorem rbest_any (v:Value) (l:List Int) (w:World) (hv:IsI w v l) (hl:l.length ≤ 65536) (hin:∀ x ∈ l,frIn x) :
 Calls Tryz.prog 110 #[v] w fun e w' => e = .returned (.tuple #[.int .i64 (baseV l),.int .i64 ((bestW l:Nat):Int)]) ∧ Grows w w':=by
 have HV:=Hd hv
 have HW:=Hd (fun W hW w' hv' => rwith_any v l W w' hv' hl hW hin)
 have HLE:=Hd (fun w' hv' => rleast_any v l w' hv' (by omega))
 have HSZ:=Hd (fun W hW => sizeW_len (l:=l) (W:=W) hl hW)
 have HBL:=Hd (bestTo_le (sizeW l))
 clear hv
 go_enter Tryz.func110,Tryz.ntmps110
 go_wp2_with fail
 refine (HW.out 0 (by omega) w HV.out).mono ?_
 rintro e w1 ⟨v1,rfl,hb1,hu1⟩
 obtain ⟨A1,d1,rfl,_⟩:=hu1
 have HB1:=Hd hb1
 clear hb1
 go_wp2_with fail
 go_loopw [4,5,6] (fun best size i wr => RBestRel w l best size i wr) (fun _ _ i _ => 65 - (intOf i).toNat)
 case atStart => exact ⟨1,by omega,by omega,rfl,rfl,rfl,HB1.out⟩
 case round =>
  obtain ⟨k,hk1,hk,rfl,rfl,rfl,hb⟩:=hrel
  have HB:=Hd hb
  clear hb
  by_cases hlt:k ≤ 64
  ·have hs1:=HSZ.out k (by omega)
   have hs2:sizeW l (bestTo (sizeW l) (k - 1)) ≤ 2000000:=HSZ.out (bestTo (sizeW l) (k - 1)) (by have:=HBL.out (k - 1);omega)
   have hbl:=HBL.out (k - 1)
   have HWK:=Hd (HW.out k (by omega) wr (IsI.grow HV.out HB.out))
   have HSW:=Hd (show (encW l k).length = sizeW l k from rfl)
   rw [HSW.out] at hs1
   by_cases hc:sizeW l k < sizeW l (bestTo (sizeW l) (k - 1))
   ·have HBS:=Hd (bestTo_lt hk1 hc)
    have hd:decide (sizeW l k < sizeW l (bestTo (sizeW l) (k - 1))) = true:=by simpa using hc
    have HS3:=Hd (show sizeW l (bestTo (sizeW l) k) = sizeW l k by rw [HBS.out])
    generalize sizeW l (bestTo (sizeW l) (k - 1)) = s0 at *
    generalize sizeW l k = s1 at *
    generalize bestTo (sizeW l) (k - 1) = b0 at *
    clear hc
    go_wp2_with fail
    refine HWK.out.mono ?_
    rintro e w2 ⟨v2,rfl,hb2,hu2⟩
    obtain ⟨A2,d2,rfl,_⟩:=hu2
    have HB2:=Hd (HB.out.trans (hb2.mono HB.out.size))
    clear hb2
    rw [HSW.out]
    go_wp2_with fail
    refine ⟨⟨k + 1,by omega,by omega,by go_num,?_,?_,HB2.out⟩,by simp [intOf];omega⟩
    ·rw [Nat.add_sub_cancel,HBS.out]
    ·rw [Nat.add_sub_cancel,HS3.out]
   ·have HBS:=Hd (bestTo_ge hk1 hc)
    have hd:decide (sizeW l k < sizeW l (bestTo (sizeW l) (k - 1))) = false:=by simpa using hc
    have HS3:=Hd (show sizeW l (bestTo (sizeW l) k) = sizeW l (bestTo (sizeW l) (k - 1)) by rw [HBS.out])
    generalize sizeW l (bestTo (sizeW l) (k - 1)) = s0 at *
    generalize sizeW l k = s1 at *
    generalize bestTo (sizeW l) (k - 1) = b0 at *
    clear hc
    go_wp2_with fail
    refine HWK.out.mono ?_
    rintro e w2 ⟨v2,rfl,hb2,hu2⟩
    obtain ⟨A2,d2,rfl,_⟩:=hu2
    have HB2:=Hd (HB.out.trans (hb2.mono HB.out.size))
    clear hb2
    rw [HSW.out]
    go_wp2_with fail
    refine ⟨⟨k + 1,by omega,by omega,by go_num,?_,?_,HB2.out⟩,by simp [intOf];omega⟩
    ·rw [Nat.add_sub_cancel,HBS.out]
    ·rw [Nat.add_sub_cancel,HS3.out]
  ·have hke:k = 65:=by omega
   subst hke
   rw [show 65 - 1 = 64 from rfl]
   have HLL:=Hd (HLE.out wr (IsI.grow HV.out HB.out))
   have HFI:=Hd (show bestTo (sizeW l) 64 = bestW l from rfl)
   generalize bestTo (sizeW l) 64 = b0 at *
   generalize sizeW l b0 = s0 at *
   go_wp2_with fail
   refine HLL.out.mono ?_
   rintro e w2 ⟨rfl,rfl⟩
   go_wp2_with fail
   go_ret2
   exact ⟨by rw [HFI.out];rfl,HB.out⟩
theorem rencodeF_any (v:Value) (l:List Int) (w:World) (hv:IsI w v l) (hl:l.length ≤ 65536) (hin:∀ x ∈ l,frIn x) :
 Calls Tryz.prog 54 #[v] w (ByR (encV l) w):=by
 have HV:=Hd hv
 have HB:=Hd (rbest_any v l w hv hl hin)
 have HW:=Hd (fun w' hv' => rwith_any v l (bestW l) w' hv' hl (bestW_le l) hin)
 have HE:=Hd (show encW l (bestW l) = encV l from rfl)
 clear hv
 generalize bestW l = b0 at *
 generalize baseV l = x0 at *
 go_enter Tryz.func54,Tryz.ntmps54
 go_wp2_with fail
 refine HB.out.mono ?_
 rintro e w1 ⟨rfl,hb1⟩
 have HB1:=Hd hb1
 clear hb1
 go_wp2_with fail
 refine (HW.out w1 (IsI.grow HV.out HB1.out)).mono ?_
 rintro e w2 ⟨v2,rfl,hb2,hu2⟩
 have HB2:=Hd (HB1.out.of_below hb2)
 have HU2:=Hd hu2
 clear hb2 hu2
 go_wp2_with fail
 go_ret
 exact ⟨_,rfl,HB2.out,by rw [← HE.out];exact HU2.out⟩
end Go.Proofs.YthmipnokimlbdaaGreat
namespace Go.Proofs.YthmipnokimlbdaaGreat
set_option maxRecDepth 20000
open Go.RowKit
def RestI (w wr:World) (v:Value) (l:List Int) (j:Nat) (u:Value):Prop:=(rstL j l = l ∧ u = v) ∨ wr.ownsRow w.heap.size 2 1 u (rstL j l).length (icells (rstL j l))
theorem RestI.reads {w wr:World} {v u:Value} {l:List Int} {j:Nat} (h:RestI w wr v l j u) (hv:IsI w v l) (hb:Grows w wr):IsI wr u (rstL j l):=by
 rcases h with ⟨h1,rfl⟩ | h
 ·rw [h1];exact IsI.grow hv hb
 ·exact Reads.of_own h
theorem RestI.grow {w wr wr':World} {v u:Value} {l:List Int} {j:Nat} (h:RestI w wr v l j u) (hb:Grows wr wr'):RestI w wr' v l j u:=h.imp id fun h => own_grow h hb
theorem RestI.keep {w wr wr':World} {v u:Value} {l:List Int} {j:Nat} (h:RestI w wr v l j u) (hk:KeepsRows 5 wr wr'):RestI w wr' v l j u:=h.imp id fun h => hk _ _ _ _ _ _ (by decide) h
theorem RestI.of_own {w w1 wr:World} {v u:Value} {l:List Int} {j:Nat} (h:wr.ownsRow w1.heap.size 2 1 u (rstL j l).length (icells (rstL j l))) (hb:Grows w w1):RestI w wr v l j u:=.inr (ownsRow_base h hb.size)
theorem hdB_stop {l:List Int} {j:Nat} (h:rstL j l = []):∀ d,hdB (j + d) l = hdB j l ∧ rstL (j + d) l = []
 | 0 => ⟨rfl,h⟩
 | d + 1 => by
   obtain ⟨h1,h2⟩:=hdB_stop h d
   exact ⟨(hdB_end h2).trans h1,by show dfL (rstL (j + d) l) = [];rw [h2];rfl⟩
theorem u8_kind {k:Nat} (hk:k ≤ 2):IntKind.u8.wrap (k:Int) = ((UInt8.ofNat k).toNat:Int):=by
 match k,hk with
 | 0,_ => rfl
 | 1,_ => rfl
 | 2,_ => rfl
theorem take1 {l:List Int} (h:0 < l.length):l.take 1 = [l[0]]:=by
 cases l with
 | nil => cases h
 | cons x r => rfl
theorem own_one_b (w:World) (z:UInt8):(w.alloc (.cells #[.int .u8 (z.toNat:Int)] 5)).ownsRow w.heap.size 5 1 (.slice (some ⟨w.heap.size,0,none⟩) 1 1) ([z]:List UInt8).length (bcells [z]):=by
 have h:=Row.own (Row.new w 5 #[.int .u8 (z.toNat:Int)] (bcells [z]) rfl) (Nat.le_refl _) (by unfold maxLen;rw [bcells_length,List.length_singleton];omega)
 exact h
def RFmRel (w:World) (v:Value) (l:List Int) (k:Nat) (K:UInt8) (o r i:Value) (wr:World):Prop:=
 ∃ j:Nat,j ≤ k ∧ i = .int .i64 (j:Int) ∧ wr.ownsRow w.heap.size 5 1 o (K :: hdB j l).length (bcells (K :: hdB j l)) ∧ RestI w wr v l j r ∧ Below w.heap.size w wr
set_option maxRecDepth 20000 in
set_option maxHeartbeats 8000000 in
theorem rform_any (v:Value) (l:List Int) (k:Nat) (w:World) (hv:IsI w v l) (hl:l.length ≤ 65536) (hin:∀ x ∈ l,frIn x) (hk:k ≤ 2) :
 Calls Tryz.prog 112 #[v,.int .i64 (k:Int)] w (ByR (dlForm k l) w):=by
 have HV:=Hd hv
 obtain ⟨A,c,rfl⟩:=hv.slice_
 have HIN:=Hd (rstL_in hin)
 have HRL:=Hd (fun j => rstL_length j l)
 have HK8:=Hd (u8_kind hk)
 have HO0:=Hd (own_one_b w (UInt8.ofNat k))
 have HB0:=Hd ((Below.refl w.heap.size w).alloc (Nat.le_refl _) (.cells #[.int .u8 ((UInt8.ofNat k).toNat:Int)] 5))
 have HFM:=Hd (show dlForm k l = (UInt8.ofNat k :: hdB k l) ++ encV (rstL k l) from rfl)
 have HHL:=Hd (fun j => hdB_len j l)
 have HEL:=Hd (show (encV (rstL k l)).length ≤ 31 + 28 * 65536 by have:=encV_len (rstL k l);rw [rstL_length] at this;omega)
 have hk8:=HK8.out
 generalize UInt8.ofNat k = K at *
 clear hv hin
 go_enter Tryz.func112,Tryz.ntmps112
 go_wp2_with fail
 clear hk8
 go_loopw [5,6,7] (fun o r i wr => RFmRel w (.slice A l.length c) l k K o r i wr) (fun _ _ i _ => k - (intOf i).toNat)
 case atStart => exact ⟨0,by omega,rfl,by exact HO0.out,.inl ⟨rfl,rfl⟩,HB0.out⟩
 case round =>
  obtain ⟨j,hj,rfl,hown,hrest,hbw⟩:=hrel
  have HB:=Hd hbw
  have HO:=Hd hown
  have HR:=Hd hrest
  have HI:=Hd (hrest.reads HV.out hbw)
  obtain ⟨A6,c6,rfl⟩:=HI.out.slice_
  have HLJ:=Hd (HHL.out j)
  have HINJ:=Hd (HIN.out j)
  have HRLJ:=Hd (HRL.out j)
  have HST:=Hd (fun h => hdB_stop (l:=l) (j:=j) h (k - j))
  clear hown hrest hbw HO0 HB0
  by_cases hgo:j < k ∧ 0 < (rstL j l).length
  ·obtain ⟨hjk,h0⟩:=hgo
   obtain ⟨b,f,rfl,hck⟩:=HI.out.at_ h0
   simp only [Nat.add_zero] at hck
   have HSTEP:=Hd (hdB_step (take1 h0))
   have hx:=HINJ.out _ (List.getElem_mem h0)
   have HDJ:=Hd (fun u w' hu => rdiff_any u (rstL j l) w' hu (by have:=HRLJ.out;omega))
   have HD2:=Hd (show dfL (rstL j l) = rstL (j + 1) l from rfl)
   generalize hxe:(rstL j l)[0] = x at *
   have hz:=zz_bd x hx.1 (by have:=hx.2;omega)
   have HZG:=Hd (fun W' => rzigzag_any x W' hx.1 (by have:=hx.2;omega))
   have HE1:=Hd (fun W' => rencode_any (zz x) W' hz.1 (by omega))
   generalize hdB j l = hd at *
   have HEX:=Hd (enc_le10 (zz x).toNat)
   have h0':(0:Int) < ((rstL j l).length:Int):=by omega
   clear hx hz hxe
   go_wp2_with (first | (go_at_call 108;refine (HZG.out _).mono ?_;rintro e w2 ⟨rfl,rfl⟩))
   refine (HE1.out wr).mono ?_
   rintro e w1 ⟨v1,rfl,hown1,hb1⟩
   have HU1:=Hd (IsBytes.of_own hown1)
   have HB1:=Hd (HB.out.trans (hb1.mono HB.out.size))
   have HO1:=Hd (own_grow HO.out hb1)
   have HR1:=Hd (HR.out.grow hb1)
   clear hown1 hb1
   go_wp2_with ((at_builtin;go_loud (refine wpList_append_bytes_k (w:=w) rfl _ _ 29 rfl 5 Tryz.underlying29 info_u8 _ (K :: hd) (by rfl) HO1.out HB1.out _ (enc (zz x).toNat) (by rfl) HU1.out (by have:=HEX.out;have:=HLJ.out;rw [List.length_cons];omega) ?_);intro v2 w2 hown2 hb2 hk2;have HO2:=Hd hown2;have HB2:=Hd hb2;have HR2:=Hd (HR1.out.keep hk2);clear hown2 hb2 hk2))
   refine (HDJ.out _ w2 (HR2.out.reads HV.out HB2.out)).mono ?_
   rintro e w3 ⟨v3,rfl,hb3,hown3⟩
   rw [HD2.out] at hown3
   have HR3:=Hd (RestI.of_own (v:=.slice A l.length c) hown3 HB2.out)
   have HO3:=Hd (own_grow HO2.out hb3)
   have HB3:=Hd (HB2.out.trans (hb3.mono HB2.out.size))
   clear hown3 hb3
   go_wp2_with fail
   refine ⟨⟨j + 1,by omega,by go_num,?_,?_,HB3.out⟩,by simp [intOf];omega⟩
   ·rw [HSTEP.out];exact HO3.out
   ·exact HR3.out
  ·have hE:hdB k l = hdB j l ∧ rstL k l = rstL j l:=by
    by_cases hjk:j < k
    ·have h0:rstL j l = []:=List.eq_nil_of_length_eq_zero (by omega)
     have h1:=HST.out h0
     rw [show j + (k - j) = k by omega] at h1
     exact ⟨h1.1,by rw [h1.2,h0]⟩
    ·rw [show k = j by omega]
     exact ⟨rfl,rfl⟩
   rw [hE.1,hE.2] at HFM
   rw [hE.2] at HEL
   have HEN:=Hd (fun w' hu => rencodeF_any (.slice A6 (rstL j l).length c6) (rstL j l) w' hu (by have:=HRLJ.out;omega) HINJ.out)
   clear hE
   by_cases hjk:j < k
   ·have h0:(rstL j l).length = 0:=by omega
    have h0q:decide (0 < (rstL j l).length) = false:=by rw [h0];rfl
    have H0:=Hd h0
    clear h0 hgo
    go_wp2_with fail
    refine (HEN.out wr HI.out).mono ?_
    rintro e w1 ⟨v1,rfl,hb1,hu1⟩
    have HU1:=Hd hu1
    have HB1:=Hd (HB.out.trans (hb1.mono HB.out.size))
    have HO1:=Hd (own_grow HO.out hb1)
    clear hb1 hu1
    go_wp2_with ((at_builtin;go_loud (refine wpList_append_bytes (w:=w) rfl _ _ 29 rfl 5 Tryz.underlying29 info_u8 _ (K :: hdB j l) (by rfl) HO1.out HB1.out _ (encV (rstL j l)) (by rfl) HU1.out (by have:=HEL.out;have:=HLJ.out;rw [List.length_cons];omega) ?_);intro v2 w2 hown2 hb2;have HO2:=Hd hown2;have HB2:=Hd hb2;clear hown2 hb2))
    go_ret
    exact ⟨_,rfl,HB2.out,by rw [HFM.out];exact IsBytes.of_own HO2.out⟩
   ·clear hgo
    go_wp2_with fail
    refine (HEN.out wr HI.out).mono ?_
    rintro e w1 ⟨v1,rfl,hb1,hu1⟩
    have HU1:=Hd hu1
    have HB1:=Hd (HB.out.trans (hb1.mono HB.out.size))
    have HO1:=Hd (own_grow HO.out hb1)
    clear hb1 hu1
    go_wp2_with ((at_builtin;go_loud (refine wpList_append_bytes (w:=w) rfl _ _ 29 rfl 5 Tryz.underlying29 info_u8 _ (K :: hdB j l) (by rfl) HO1.out HB1.out _ (encV (rstL j l)) (by rfl) HU1.out (by have:=HEL.out;have:=HLJ.out;rw [List.length_cons];omega) ?_);intro v2 w2 hown2 hb2;have HO2:=Hd hown2;have HB2:=Hd hb2;clear hown2 hb2))
    go_ret
    exact ⟨_,rfl,HB2.out,by rw [HFM.out];exact IsBytes.of_own HO2.out⟩
set_option maxRecDepth 20000 in
set_option maxHeartbeats 8000000 in
theorem renc_any (v:Value) (l:List Int) (w:World) (hv:IsI w v l) (hl:l.length ≤ 65536) (hin:∀ x ∈ l,frIn x) :
 Calls Tryz.prog 55 #[v] w (ByR (dlEnc l) w):=by
 have HV:=Hd hv
 obtain ⟨A,c,rfl⟩:=hv.slice_
 have HE:=Hd (dlEnc_in hl)
 have HF1:=Hd (rform_any _ l 1 w hv hl hin (by decide))
 have HF2:=Hd (fun w' hv' => rform_any (.slice A l.length c) l 2 w' hv' hl hin (by decide))
 have HO:=Hd (show dlOrd l = if l.length < 2 then 1 else if (dlForm 2 l).length < (dlForm 1 l).length then 2 else 1 from rfl)
 have hd:decide ((65536:Int) < (l.length:Int)) = false:=by simp;omega
 clear hv
 by_cases h2:l.length < 2
 ·rw [if_pos h2] at HO
  rw [HO.out] at HE
  have hd2:decide ((l.length:Int) < 2) = true:=by simp;omega
  clear h2
  go_enter Tryz.func55,Tryz.ntmps55
  go_wp2_with fail
  refine HF1.out.mono ?_
  rintro e w1 ⟨v1,rfl,hb1,hu1⟩
  have HB1:=Hd hb1
  have HU1:=Hd hu1
  clear hb1 hu1
  go_wp2_with fail
  go_ret
  exact ⟨_,rfl,HB1.out,by rw [HE.out];exact HU1.out⟩
 ·rw [if_neg h2] at HO
  have hd2:decide ((l.length:Int) < 2) = false:=by simp;omega
  clear h2
  obtain ⟨F1,hF1⟩:∃ F1,F1 = dlForm 1 l:=⟨_,rfl⟩
  obtain ⟨F2,hF2⟩:∃ F2,F2 = dlForm 2 l:=⟨_,rfl⟩
  rw [← hF1] at HF1 HO
  rw [← hF2] at HF2 HO
  have HQ1:=Hd hF1
  have HQ2:=Hd hF2
  clear hF1 hF2
  by_cases hs:F2.length < F1.length
  ·rw [if_pos hs] at HO
   rw [HO.out,← HQ2.out] at HE
   have hds:decide (F2.length < F1.length) = true:=by simpa using hs
   clear hs
   go_enter Tryz.func55,Tryz.ntmps55
   go_wp2_with fail
   refine HF1.out.mono ?_
   rintro e w1 ⟨v1,rfl,hb1,hu1⟩
   obtain ⟨A1,c1,rfl,_⟩:=hu1
   have HB1:=Hd hb1
   clear hb1
   go_wp2_with fail
   refine (HF2.out w1 (IsI.grow HV.out HB1.out)).mono ?_
   rintro e w2 ⟨v2,rfl,hb2,hu2⟩
   have HU2:=Hd hu2
   obtain ⟨A2,c2,rfl,_⟩:=hu2
   have HB2:=Hd (HB1.out.trans (hb2.mono HB1.out.size))
   clear hb2
   go_wp2_with fail
   go_ret
   exact ⟨_,rfl,HB2.out,by rw [HE.out];exact HU2.out⟩
  ·rw [if_neg hs] at HO
   rw [HO.out,← HQ1.out] at HE
   have hds:decide (F2.length < F1.length) = false:=by simpa using hs
   clear hs
   go_enter Tryz.func55,Tryz.ntmps55
   go_wp2_with fail
   refine HF1.out.mono ?_
   rintro e w1 ⟨v1,rfl,hb1,hu1⟩
   have HU1:=Hd hu1
   obtain ⟨A1,c1,rfl,_⟩:=hu1
   have HB1:=Hd hb1
   clear hb1
   go_wp2_with fail
   refine (HF2.out w1 (IsI.grow HV.out HB1.out)).mono ?_
   rintro e w2 ⟨v2,rfl,hb2,hu2⟩
   obtain ⟨A2,c2,rfl,_⟩:=hu2
   have HB2:=Hd (HB1.out.trans (hb2.mono HB1.out.size))
   have HU12:=Hd (HU1.out.grow hb2)
   clear hb2
   go_wp2_with fail
   go_ret
   exact ⟨_,rfl,HB2.out,by rw [HE.out];exact HU12.out⟩
end Go.Proofs.YthmipnokimlbdaaGreat
namespace Go.Proofs.YthmipnokimlbdaaGreat
open Go.RowKit
theorem wcells_set (l:List Nat) (j c:Nat):(wcells l).set j (.int .u64 (c:Int)) = wcells (l.set j c):=by
 unfold wcells
 rw [List.map_set]
def ExcR (w0:World) (v:Value) (r:List Nat × Int × Int) (e:Ending) (w':World):Prop:=
 e = .returned (.tuple #[.int .i64 r.2.1,.int .i64 r.2.2]) ∧ Below w0.heap.size w0 w' ∧ (r.2.2 = 0 → w'.ownsRow w0.heap.size 85 1 v r.1.length (wcells r.1))
def ExcRel (w0:World) (v:Value) (b:List UInt8) (W m:Nat) (r:List Nat × Int × Int) (n:Nat) (p k:Value) (wr:World):Prop:=
 ∃ (j:Nat) (q:Int) (d:List Nat),j ≤ m ∧ k = .int .i64 (j:Int) ∧ p = .int .i64 q ∧ 0 ≤ q ∧ q ≤ b.length ∧ d.length = n ∧ U64 d ∧ excD b W (m - j) q d = r ∧
   wr.ownsRow w0.heap.size 85 1 v n (wcells d) ∧ Below w0.heap.size w0 wr
theorem shl_wrap {h W:Nat} (hh:h < 18446744073709551616):IntKind.u64.wrap ((h:Int) * 2 ^ W) = ((h * 2 ^ W % 18446744073709551616:Nat):Int):=by
 have e:((2:Int) ^ W) = ((2 ^ W:Nat):Int):=by simp
 rw [e,IntKind.wrap_u64]
 generalize 2 ^ W = y at *
 rw [← Int.natCast_mul]
 omega
set_option maxRecDepth 8000 in
set_option maxHeartbeats 4000000 in
theorem rexceptions_any (A:Option Addr) (c:Nat) (b:List UInt8) (p:Int) (m W:Nat) (v:Value) (d:List Nat) (w0 w:World) (hb:IsBytes w0 (.slice A b.length c) b) (hl:b.length ≤ 1048576) (hp0:0 ≤ p) (hp1:p ≤ b.length) (hm:m ≤ 65536) (hW:W ≤ 64)
 (hd:d.length ≤ 65536) (hU:U64 d) (hown:w.ownsRow w0.heap.size 85 1 v d.length (wcells d)) (hg:Below w0.heap.size w0 w) :
 Calls Tryz.prog 127 #[.slice A b.length c,.int .i64 p,.int .i64 (m:Int),.int .i64 (W:Int),v] w (ExcR w0 v (excD b W m p d)):=by
 have HV:=Hd hb
 have HOW:=Hd hown
 have HG:=Hd hg
 have HUD:=Hd hU
 have HDC:=Hd (fun o w' hv' h63 h64 => rdecode_any (.slice A b.length c) b o w' hv' (by unfold maxLen;omega) h63 h64)
 obtain ⟨r,hr⟩:∃ r,excD b W m p d = r:=⟨_,rfl⟩
 obtain ⟨n,hn⟩:∃ n,d.length = n:=⟨_,rfl⟩
 rw [hr]
 rw [hn] at HOW hd
 have HR:=Hd hr
 have HN:=Hd hn
 have HVF:=Hd (show v = .slice none 0 0 ∧ n = 0 ∨ ∃ g cap,v = .slice (some ⟨g,0,none⟩) n cap by
  rcases HOW.out.2 with ⟨h1,h2⟩ | ⟨g,cap,cur,h1,h2⟩
  ·exact .inl ⟨h1,by have:=HOW.out.1;rw [h2] at this;simp at this;omega⟩
  ·exact .inr ⟨g,cap,h1⟩)
 clear hb hown hg hU hr hn
 obtain ⟨A2,c2,rfl⟩:∃ A2 c2,v = .slice A2 n c2:=by
  rcases HVF.out with ⟨h1,h2⟩ | ⟨g,cap,h1⟩
  ·exact ⟨none,0,by rw [h1,h2]⟩
  ·exact ⟨_,cap,h1⟩
 go_enter Tryz.func127,Tryz.ntmps127
 go_wp2_with fail
 go_loopw [1,12] (fun p k wr => ExcRel w0 (.slice A2 n c2) b W m r n p k wr) (fun _ k _ => m - (intOf k).toNat)
 case atStart => exact ⟨0,p,d,by omega,rfl,rfl,hp0,hp1,HN.out,HUD.out,HR.out,HOW.out,HG.out⟩
 case round =>
  obtain ⟨j,q,e,hj,rfl,rfl,hq0,hq1,hel,heU,her,hown,hbw⟩:=hrel
  have HOW1:=Hd hown
  have HB:=Hd hbw
  have HEL:=Hd hel
  have HER:=Hd her
  have HEU:=Hd heU
  clear hown hbw hel her heU
  by_cases hlt:j < m
  ·obtain ⟨i,p1,e1,hd1⟩:∃ i p1 e1,dcd b q = (i,p1,e1):=⟨_,_,_,rfl⟩
   have hb1:=dcd_bd2 hd1
   have HC1:=Hd (HDC.out q wr (HV.out.grow HB.out) (by omega) (by omega))
   rw [hd1] at HC1
   have HD1:=Hd hd1
   obtain ⟨f,hf⟩:∃ f,m - j = f + 1:=⟨m - j - 1,by omega⟩
   have HF:=Hd hf
   clear hf hd1
   by_cases he1:e1 = 0
   ·subst he1
    obtain ⟨ha1,ha2,ha3⟩:=hb1.2.2.1 rfl
    obtain ⟨x,p2,e2,hd2⟩:∃ x p2 e2,dcd b p1 = (x,p2,e2):=⟨_,_,_,rfl⟩
    have hb2:=dcd_bd2 hd2
    have HC2:=Hd (HDC.out p1 wr (HV.out.grow HB.out) (by omega) (by omega))
    rw [hd2] at HC2
    have HD2:=Hd hd2
    have hi0:=hb1.1
    have hi1:=hb1.2.1
    have hx0:=hb2.1
    have hx1:=hb2.2.1
    clear hd2 hb1
    by_cases he2:e2 = 0
    ·subst he2
     obtain ⟨hc1,hc2,hc3⟩:=hb2.2.2.1 rfl
     have HN2:=Hd (show excD b W f p2 (putD e i x W) = r by
      have h:=HER.out
      rw [HF.out,excD_ok (by rw [HD1.out]) (by rw [HD1.out,HD2.out]),HD1.out,HD2.out] at h
      exact h)
     have HNJ:=Hd (show m - (j + 1) = f by have:=HF.out;omega)
     have hwn:IntKind.u64.wrap (n:Int) = (n:Int):=by rw [IntKind.wrap_u64];omega
     clear hb2
     by_cases hin:i < (n:Int)
     ·have hdi:decide (i < (n:Int)) = true:=by simpa using hin
      by_cases hW64:W < 64
      ·obtain ⟨I,rfl⟩:=Int.eq_ofNat_of_zero_le hi0
       obtain ⟨X,rfl⟩:=Int.eq_ofNat_of_zero_le hx0
       have hIn:I < n:=by omega
       obtain ⟨g,rfl⟩:∃ g,A2 = some ⟨g,0,none⟩:=by
        rcases HVF.out with ⟨_,h2⟩ | ⟨g,cap,h1⟩
        ·omega
        ·injection h1 with h1
         exact ⟨g,h1⟩
       have hIe:I < e.length:=by have:=HEL.out;omega
       have hcell:=HOW1.out.cellAt I (by omega)
       rw [wcells_get hIe] at hcell
       have hfr:=HOW1.out.frozenAt I
       obtain ⟨y,hy⟩:∃ y,y = e[I]:=⟨_,rfl⟩
       have hyU:y < 18446744073709551616:=by rw [hy];exact HEU.out.get hIe
       rw [← hy] at hcell
       have hxU:X < 18446744073709551616:=by omega
       obtain ⟨s,hs⟩:∃ s,s = X * 2 ^ W % 18446744073709551616:=⟨_,rfl⟩
       have hsU:s < 18446744073709551616:=by rw [hs];exact Nat.mod_lt _ (by decide)
       have hsh:=shl_wrap (h:=X) (W:=W) hxU
       rw [← hs] at hsh
       have hor:=u64_or' hyU hsU
       obtain ⟨z,hz⟩:∃ z,z = y ||| s:=⟨_,rfl⟩
       rw [← hz] at hor
       obtain ⟨hst,hgr⟩:=HOW1.out.stored I (.int .u64 (z:Int))
       rw [wcells_set] at hst
       have HST:=Hd hst
       have hgb:=(HOW1.out.lt g rfl).1
       have HBS:=Hd (HB.out.setCell (p:=⟨g,I,none⟩) hgb (.int .u64 (z:Int)))
       have HPUT:=Hd (show putD e (I:Int) (X:Int) W = e.set I z by
        unfold putD
        rw [if_pos (by rw [HEL.out];exact hin),Int.toNat_natCast,Int.toNat_natCast,← hs,List.getD_eq_getElem?_getD,List.getElem?_eq_getElem hIe,Option.getD_some,← hy,← hz])
       have HPU:=Hd (putD_U64 HEU.out (I:Int) (X:Int) W)
       have hwI:IntKind.i64.wrap (I:Int) = (I:Int):=by rw [IntKind.wrap_i64];omega
       have hwW:IntKind.u64.wrap (W:Int) = (W:Int):=by rw [IntKind.wrap_u64];omega
       have hdi2:decide (I < n) = true:=by simpa using hIn
       have hdW:decide ((W:Int) < 64) = true:=by simp;omega
       clear hs hy hz hst hgr hyU hsU hin
       go_wp2_with fail
       refine HC1.out.mono ?_
       rintro e w2 ⟨rfl,rfl⟩
       go_wp2_with fail
       refine HC2.out.mono ?_
       rintro e w2 ⟨rfl,rfl⟩
       go_wp2_with fail
       refine ⟨⟨j + 1,p2,e.set I z,by omega,by go_num,rfl,by omega,by omega,by rw [List.length_set];exact HEL.out,by rw [← HPUT.out];exact HPU.out,by rw [HNJ.out,← HPUT.out];exact HN2.out,HST.out,HBS.out⟩,by simp [intOf];omega⟩
      ·have hW2:W = 64:=by omega
       have hdW:decide ((W:Int) < 64) = false:=by simp;omega
       have HPUT:=Hd (show putD e i x W = e by
        rw [hW2]
        unfold putD
        split
        ·rw [show x.toNat * 2 ^ 64 % 18446744073709551616 = 0 by omega,Nat.or_zero,List.getD_eq_getElem?_getD]
         rename_i h
         have hIe:i.toNat < e.length:=by omega
         rw [List.getElem?_eq_getElem hIe,Option.getD_some,List.set_getElem_self]
        ·rfl)
       obtain ⟨I,rfl⟩:=Int.eq_ofNat_of_zero_le hi0
       have hdi2:decide (I < n) = true:=by simpa using hin
       clear hin hW64 hW2
       go_wp2_with fail
       refine HC1.out.mono ?_
       rintro e w2 ⟨rfl,rfl⟩
       go_wp2_with fail
       refine HC2.out.mono ?_
       rintro e w2 ⟨rfl,rfl⟩
       go_wp2_with fail
       refine ⟨⟨j + 1,p2,e,by omega,by go_num,rfl,by omega,by omega,HEL.out,HEU.out,by rw [HNJ.out,← HPUT.out];exact HN2.out,HOW1.out,HB.out⟩,by simp [intOf];omega⟩
     ·have hdi:decide (i < (n:Int)) = false:=by simpa using hin
      have HPUT:=Hd (show putD e i x W = e by
       unfold putD
       rw [if_neg (by rw [HEL.out];exact hin)])
      obtain ⟨I,rfl⟩:=Int.eq_ofNat_of_zero_le hi0
      have hdi2:decide (I < n) = false:=by simp;omega
      clear hin
      go_wp2_with fail
      refine HC1.out.mono ?_
      rintro e w2 ⟨rfl,rfl⟩
      go_wp2_with fail
      refine HC2.out.mono ?_
      rintro e w2 ⟨rfl,rfl⟩
      go_wp2_with fail
      refine ⟨⟨j + 1,p2,e,by omega,by go_num,rfl,by omega,by omega,HEL.out,HEU.out,by rw [HNJ.out,← HPUT.out];exact HN2.out,HOW1.out,HB.out⟩,by simp [intOf];omega⟩
    ·have hE2:(e2 != 0) = true:=by simpa using he2
     have HRR:=Hd (show r = ([],0,e2) by
      have h:=HER.out
      rw [HF.out,excD_e2 (by rw [HD1.out]) (by rw [HD1.out,HD2.out];exact he2),HD1.out,HD2.out] at h
      exact h.symm)
     have HNE:=Hd he2
     clear he2 hb2
     go_wp2_with fail
     refine HC1.out.mono ?_
     rintro e w2 ⟨rfl,rfl⟩
     go_wp2_with fail
     refine HC2.out.mono ?_
     rintro e w2 ⟨rfl,rfl⟩
     go_wp2_with fail
     go_ret2
     exact ⟨by rw [HRR.out];rfl,HB.out,fun h => absurd (by rw [HRR.out] at h;exact h) HNE.out⟩
   ·have hE1:(e1 != 0) = true:=by simpa using he1
    have HRR:=Hd (show r = ([],0,e1) by
     have h:=HER.out
     rw [HF.out,excD_e1 (by rw [HD1.out];exact he1),HD1.out] at h
     exact h.symm)
    have HNE:=Hd he1
    clear he1 hb1
    go_wp2_with fail
    refine HC1.out.mono ?_
    rintro e w2 ⟨rfl,rfl⟩
    go_wp2_with fail
    go_ret2
    exact ⟨by rw [HRR.out];rfl,HB.out,fun h => absurd (by rw [HRR.out] at h;exact h) HNE.out⟩
  ·have hje:j = m:=by omega
   have HRR:=Hd (show r = (e,q,0) by
    have h:=HER.out
    rw [hje,Nat.sub_self,excD] at h
    exact h.symm)
   subst hje
   go_wp2_with fail
   go_ret2
   exact ⟨by rw [HRR.out];rfl,HB.out,fun _ => by rw [HRR.out];show _;rw [HEL.out];exact HOW1.out⟩
end Go.Proofs.YthmipnokimlbdaaGreat
namespace Go.Proofs.YthmipnokimlbdaaGreat
set_option maxRecDepth 20000
open Go.RowKit
def DecR (r:List Int × Int × Int) (w:World) (e:Ending) (w':World):Prop:=
 ∃ v,e = .returned (.tuple #[v,.int .i64 r.2.1,.int .i64 r.2.2]) ∧ IsI w' v r.1 ∧ Grows w w'
theorem DecR.err {r:List Int × Int × Int} {f:Int} {w w':World} (h:r = ([],0,f)) (hb:Grows w w'):DecR r w (.returned (.tuple #[.slice none 0 0,.int .i64 0,.int .i64 f])) w':=by
 subst h
 exact ⟨_,rfl,Reads.nil_ _ 0,hb⟩
def DecRI (r:List Int × Int × Int) (w:World) (e:Ending) (w':World):Prop:=
 ∃ v,e = .returned (.tuple #[v,.int .i64 r.2.1,.int .i64 r.2.2]) ∧ IsI w' v r.1 ∧ Grows w w' ∧ IntB w' v
theorem DecRI.err {r:List Int × Int × Int} {f:Int} {w w':World} (h:r = ([],0,f)) (hb:Grows w w'):DecRI r w (.returned (.tuple #[.slice none 0 0,.int .i64 0,.int .i64 f])) w':=by
 subst h
 exact ⟨_,rfl,Reads.nil_ _ 0,hb,IntB.none_ _ _ _⟩
theorem decV_bad {b:List UInt8} {o n:Int} (h:(o < 0 ∨ (b.length:Int) < o) ∨ n < 0 ∨ 65536 < n):decV b o n = ([],0,1):=by
 by_cases hn:n < 0 ∨ 65536 < n
 ·exact decV_e1 (frD_a hn) (by decide)
 ·have ho:o < 0 ∨ (b.length:Int) < o:=by omega
  exact decV_e1 (frD_b hn (dcd_bad ho) (by decide)) (by decide)
def RLRel (w:World) (pk:List UInt8) (W n:Nat) (d i:Value) (wr:World):Prop:=
 ∃ (k:Nat) (ds:List Nat),k ≤ n ∧ i = .int .i64 (k:Int) ∧ ds = (List.range k).map (fun (i:Nat) => atB pk (i:Int) (W:Int)) ∧ wr.ownsRow w.heap.size 85 1 d ds.length (wcells ds) ∧ Below w.heap.size w wr
def ROutRel (w w1:World) (dv:Value) (ds:List Nat) (z:Int) (o i:Value) (wr:World):Prop:=
 ∃ (k:Nat) (vs:List Int),k ≤ ds.length ∧ i = .int .i64 (k:Int) ∧ vs = (ds.take k).map (valV z) ∧ wr.ownsRow w.heap.size 2 1 o vs.length (icells vs) ∧ wr.ownsRow w.heap.size 85 1 dv ds.length (wcells ds) ∧ Below w.heap.size w wr
def RCmpRel (w:World) (want got:List UInt8) (i:Value) (wr:World):Prop:=
 ∃ k:Nat,k ≤ want.length ∧ i = .int .i64 (k:Int) ∧ want.take k = got.take k ∧ Below w.heap.size w wr
theorem dcd_pos {l:List UInt8} {o x q:Int} (h:dcd l o = (x,q,0)):0 < l.length:=by
 rcases Nat.eq_zero_or_pos l.length with h0 | h0
 ·have:l = []:=List.eq_nil_of_length_eq_zero h0
  subst this
  have hb:=dcd_bd2 h
  obtain ⟨h1,h2,h3⟩:=hb.2.2.1 rfl
  rw [List.length_nil] at h3
  have ho:o = 0:=by omega
  subst ho
  have h4:dcd [] 0 = (0,0,2):=by decide
  rw [h4] at h
  injection h with _ h
  injection h with _ h
  cases h
 ·exact h0
theorem val_ref (z:Int) (d:Nat):IntKind.i64.wrap (IntKind.u64.wrap (IntKind.u64.wrap (uz z) + (d:Int))) = valV z d:=by
 unfold valV
 rw [IntKind.wrap_u64,IntKind.wrap_u64,IntKind.wrap_i64,IntKind.wrap_i64]
 omega
theorem szB_65 {n W:Nat} (hn:n ≤ 65536) (hW:W ≤ 64):szB n W ≤ 600000:=by
 have h5:n * W ≤ n * 64:=Nat.mul_le_mul_left _ hW
 unfold szB
 omega
theorem own_ne {w:World} {B:Nat} {v:Value} {n:Nat} {xs:List Value} (h:w.ownsRow B 85 1 v n xs):∃ A c,v = .slice A n c:=by
 rcases h.2 with ⟨h1,h2⟩ | ⟨g,cap,cur,h1,_⟩
 ·exact ⟨none,0,by rw [h1,h2]⟩
 ·exact ⟨_,cap,h1⟩
set_option maxRecDepth 20000 in
set_option maxHeartbeats 8000000 in
theorem rdecodeFI_any (A:Option Addr) (c:Nat) (b:List UInt8) (o n:Int) (w:World) (hb:IsBytes w (.slice A b.length c) b) (hc:b.length ≤ c) (hl:b.length ≤ 1048576) :
 Calls Tryz.prog 66 #[.slice A b.length c,.int .i64 o,.int .i64 n] w (DecRI (decV b o n) w):=by
 by_cases h1:o < 0
 ·have HE:=Hd (decV_bad (b:=b) (o:=o) (n:=n) (.inl (.inl h1)))
  have hd:decide (o < 0) = true:=by simpa using h1
  clear h1
  go_enter Tryz.func66,Tryz.ntmps66
  go_wp2_with fail
  go_ret3
  exact DecRI.err HE.out (Below.refl _ _)
 have d1:decide (o < 0) = false:=by simpa using h1
 by_cases h2:(b.length:Int) < o
 ·have HE:=Hd (decV_bad (b:=b) (o:=o) (n:=n) (.inl (.inr h2)))
  have hd:decide ((b.length:Int) < o) = true:=by simpa using h2
  clear h2
  go_enter Tryz.func66,Tryz.ntmps66
  go_wp2_with fail
  go_ret3
  exact DecRI.err HE.out (Below.refl _ _)
 have d2:decide ((b.length:Int) < o) = false:=by simpa using h2
 by_cases h3:n < 0
 ·have HE:=Hd (decV_bad (b:=b) (o:=o) (n:=n) (.inr (.inl h3)))
  have hd:decide (n < 0) = true:=by simpa using h3
  clear h3
  go_enter Tryz.func66,Tryz.ntmps66
  go_wp2_with fail
  go_ret3
  exact DecRI.err HE.out (Below.refl _ _)
 have d3:decide (n < 0) = false:=by simpa using h3
 by_cases h4:65536 < n
 ·have HE:=Hd (decV_bad (b:=b) (o:=o) (n:=n) (.inr (.inr h4)))
  have hd:decide (65536 < n) = true:=by simpa using h4
  clear h4
  go_enter Tryz.func66,Tryz.ntmps66
  go_wp2_with fail
  go_ret3
  exact DecRI.err HE.out (Below.refl _ _)
 have d4:decide (65536 < n) = false:=by simpa using h4
 have HN:=Hd (show ¬ (n < 0 ∨ 65536 < n) by omega)
 have HDC:=Hd (fun o w' hv' h63 h64 => rdecode_any (.slice A b.length c) b o w' hv' (by unfold maxLen;omega) h63 h64)
 obtain ⟨z,p1,e1,hd1⟩:∃ z p1 e1,dcd b o = (z,p1,e1):=⟨_,_,_,rfl⟩
 have hb1:=dcd_bd2 hd1
 have HC1:=Hd (HDC.out o w hb (by omega) (by omega))
 rw [hd1] at HC1
 have HD1:=Hd hd1
 have HV:=Hd hb
 clear hd1 hb
 by_cases he1:e1 = 0
 rotate_left
 ·have HE:=Hd (decV_e1 (frD_b HN.out HD1.out he1) he1)
  have hd:(e1 != 0) = true:=by simpa using he1
  clear he1 hb1
  go_enter Tryz.func66,Tryz.ntmps66
  go_wp2_with fail
  refine HC1.out.mono ?_
  rintro e w2 ⟨rfl,rfl⟩
  go_wp2_with fail
  go_ret3
  exact DecRI.err HE.out (Below.refl _ _)
 subst he1
 obtain ⟨ha1,ha2,ha3⟩:=hb1.2.2.1 rfl
 have hz0:=hb1.1
 have hz1:=hb1.2.1
 obtain ⟨Wi,p2,e2,hd2⟩:∃ Wi p2 e2,dcd b p1 = (Wi,p2,e2):=⟨_,_,_,rfl⟩
 have hb2:=dcd_bd2 hd2
 have HC2:=Hd (HDC.out p1 w HV.out (by omega) (by omega))
 rw [hd2] at HC2
 have HD2:=Hd hd2
 clear hd2 hb1
 by_cases he2:e2 = 0
 rotate_left
 ·have HE:=Hd (decV_e1 (frD_c HN.out HD1.out (numD_e HD2.out he2) he2) he2)
  have hd:(e2 != 0) = true:=by simpa using he2
  clear he2 hb2
  go_enter Tryz.func66,Tryz.ntmps66
  go_wp2_with fail
  refine HC1.out.mono ?_
  rintro e w2 ⟨rfl,rfl⟩
  go_wp2_with fail
  refine HC2.out.mono ?_
  rintro e w2 ⟨rfl,rfl⟩
  go_wp2_with fail
  go_ret3
  exact DecRI.err HE.out (Below.refl _ _)
 subst he2
 obtain ⟨hc1,hc2,hc3⟩:=hb2.2.2.1 rfl
 obtain ⟨W,rfl⟩:=Int.eq_ofNat_of_zero_le hb2.1
 have hW1:=hb2.2.1
 clear hb2
 by_cases h5:(64:Int) < (W:Int)
 ·have HE:=Hd (decV_e1 (frD_c HN.out HD1.out (numD_f HD2.out h5) (by decide)) (by decide))
  have hd:decide ((64:Int) < (W:Int)) = true:=by simpa using h5
  clear h5
  go_enter Tryz.func66,Tryz.ntmps66
  go_wp2_with fail
  refine HC1.out.mono ?_
  rintro e w2 ⟨rfl,rfl⟩
  go_wp2_with fail
  refine HC2.out.mono ?_
  rintro e w2 ⟨rfl,rfl⟩
  go_wp2_with fail
  go_ret3
  exact DecRI.err HE.out (Below.refl _ _)
 have d5:decide ((64:Int) < (W:Int)) = false:=by simpa using h5
 have HN2:=Hd (numD_ok HD2.out h5)
 obtain ⟨Mi,p3,e3,hd3⟩:∃ Mi p3 e3,dcd b p2 = (Mi,p3,e3):=⟨_,_,_,rfl⟩
 have hb3:=dcd_bd2 hd3
 have HC3:=Hd (HDC.out p2 w HV.out (by omega) (by omega))
 rw [hd3] at HC3
 have HD3:=Hd hd3
 clear hd3
 by_cases he3:e3 = 0
 rotate_left
 ·have HE:=Hd (decV_e1 (frD_e HN.out HD1.out HN2.out (numD_e HD3.out he3) he3) he3)
  have hd:(e3 != 0) = true:=by simpa using he3
  clear he3 hb3
  go_enter Tryz.func66,Tryz.ntmps66
  go_wp2_with fail
  refine HC1.out.mono ?_
  rintro e w2 ⟨rfl,rfl⟩
  go_wp2_with fail
  refine HC2.out.mono ?_
  rintro e w2 ⟨rfl,rfl⟩
  go_wp2_with fail
  refine HC3.out.mono ?_
  rintro e w2 ⟨rfl,rfl⟩
  go_wp2_with fail
  go_ret3
  exact DecRI.err HE.out (Below.refl _ _)
 subst he3
 obtain ⟨hc4,hc5,hc6⟩:=hb3.2.2.1 rfl
 obtain ⟨N,rfl⟩:=Int.eq_ofNat_of_zero_le (a:=n) (by omega)
 obtain ⟨M,rfl⟩:=Int.eq_ofNat_of_zero_le hb3.1
 have hM1:=hb3.2.1
 clear hb3
 have hwn:IntKind.u64.wrap (N:Int) = (N:Int):=by rw [IntKind.wrap_u64];omega
 by_cases h6:(N:Int) < (M:Int)
 ·have HE:=Hd (decV_e1 (frD_e HN.out HD1.out HN2.out (numD_f HD3.out h6) (by decide)) (by decide))
  have hd:decide (N < M) = true:=by simpa using h6
  clear h6
  go_enter Tryz.func66,Tryz.ntmps66
  go_wp2_with fail
  refine HC1.out.mono ?_
  rintro e w2 ⟨rfl,rfl⟩
  go_wp2_with fail
  refine HC2.out.mono ?_
  rintro e w2 ⟨rfl,rfl⟩
  go_wp2_with fail
  refine HC3.out.mono ?_
  rintro e w2 ⟨rfl,rfl⟩
  go_wp2_with fail
  go_ret3
  exact DecRI.err HE.out (Below.refl _ _)
 have d6:decide (N < M) = false:=by simp;omega
 have HN3:=Hd (numD_ok HD3.out h6)
 have hN6:N ≤ 65536:=by omega
 have hW6:W ≤ 64:=by omega
 have hwW:IntKind.i64.wrap (W:Int) = (W:Int):=by rw [IntKind.wrap_i64];omega
 have HSZ:=Hd (rsize_any (N:Int) (W:Int) w)
 have HS2:=Hd (sizeI_nat (n:=N) (m:=W) (by omega) hW6)
 rw [HS2.out] at HSZ
 have hsB:=szB_65 hN6 hW6
 have HFN:=Hd (fun h => frD_g (b:=b) HN.out HD1.out HN2.out HN3.out h)
 have HFO:=Hd (fun h => frD_ok (b:=b) HN.out HD1.out HN2.out HN3.out h)
 rw [Int.toNat_natCast,Int.toNat_natCast] at HFN HFO
 obtain ⟨s,hs⟩:∃ s,s = szB N W:=⟨_,rfl⟩
 rw [← hs] at HSZ hsB HFN HFO
 have HS:=Hd hs
 clear hs HS2
 by_cases h7:(b.length:Int) - p3 < (s:Int)
 ·have HE:=Hd (decV_e1 (HFN.out h7) (by decide))
  have hd:decide ((b.length:Int) - p3 < (s:Int)) = true:=by simpa using h7
  clear h7
  go_enter Tryz.func66,Tryz.ntmps66
  go_wp2_with fail
  refine HC1.out.mono ?_
  rintro e w2 ⟨rfl,rfl⟩
  go_wp2_with fail
  refine HC2.out.mono ?_
  rintro e w2 ⟨rfl,rfl⟩
  go_wp2_with fail
  refine HC3.out.mono ?_
  rintro e w2 ⟨rfl,rfl⟩
  go_wp2_with fail
  refine HSZ.out.mono ?_
  rintro e w2 ⟨rfl,rfl⟩
  go_wp2_with fail
  go_ret3
  exact DecRI.err HE.out (Below.refl _ _)
 have d7:decide ((b.length:Int) - p3 < (s:Int)) = false:=by simpa using h7
 have HF:=Hd (HFO.out h7)
 clear HFN HFO
 go_enter Tryz.func66,Tryz.ntmps66
 go_wp2_with fail
 refine HC1.out.mono ?_
 rintro e w2 ⟨rfl,rfl⟩
 go_wp2_with fail
 refine HC2.out.mono ?_
 rintro e w2 ⟨rfl,rfl⟩
 go_wp2_with fail
 refine HC3.out.mono ?_
 rintro e w2 ⟨rfl,rfl⟩
 go_wp2_with fail
 refine HSZ.out.mono ?_
 rintro e w2 ⟨rfl,rfl⟩
 go_wp2_with fail
 have hbl:=dcd_pos HD1.out
 have hMN:M ≤ N:=by omega
 obtain ⟨P3,rfl⟩:=Int.eq_ofNat_of_zero_le (a:=p3) (by omega)
 obtain ⟨O,rfl⟩:=Int.eq_ofNat_of_zero_le (a:=o) (by omega)
 obtain ⟨bb,bf,rfl⟩:∃ bb bf,A = some ⟨bb,bf,none⟩:=by
  obtain ⟨A',c',he,hc'⟩:=HV.out
  obtain ⟨bb,bf,h,_⟩:=hc' hbl
  injection he with e1 _ _
  exact ⟨bb,bf,by rw [e1,h]⟩
 obtain ⟨E,hE⟩:∃ E,E = P3 + s:=⟨_,rfl⟩
 have hPE:(P3:Int) + (s:Int) = (E:Int):=by omega
 have hEb:E ≤ b.length:=by omega
 have hPE2:P3 ≤ E:=by omega
 obtain ⟨pk,hpk⟩:∃ pk,pk = packedD b (P3:Int) N W:=⟨_,rfl⟩
 have HPK:=Hd (show (b.drop P3).take (E - P3) = pk by
  rw [hpk]
  unfold packedD
  rw [Int.toNat_natCast,← HS.out,show E - P3 = s by omega])
 have HPL:=Hd (show pk.length ≤ 1048576 by rw [← HPK.out,List.length_take,List.length_drop];omega)
 have HLOW:=Hd (show lowD b (P3:Int) N W = (List.range N).map (fun (i:Nat) => atB pk (i:Int) (W:Int)) by
  unfold lowD
  rw [← hpk])
 have HHC:=Hd hc
 have HE:=Hd hE
 have HBL:=Hd hbl
 clear hpk hE hbl d1 d2 d3 d4 d5 d6 d7 h1 h2 h3 h4 h5 h6 h7
 go_loopw [15,16] (fun d i wr => RLRel w pk W N d i wr) (fun _ i _ => N - (intOf i).toNat)
 case atStart => exact ⟨0,[],by omega,rfl,rfl,⟨rfl,.inl ⟨rfl,rfl⟩⟩,Below.refl _ _⟩
 case round =>
  obtain ⟨k,ds,hk,rfl,hds,hown,hb⟩:=hrel
  have HB:=Hd hb
  have HOW:=Hd hown
  have HDS:=Hd hds
  have HDL:=Hd (show ds.length = k by rw [hds];simp)
  clear hb hown hds
  by_cases hlt:k < N
  ·have HAT:=Hd (fun A' c' w' hv' => rat_any A' c' pk (k:Int) (W:Int) w' hv' HPL.out)
   have hsz:=HB.out.size
   have HNX:=Hd (show (List.range (k + 1)).map (fun (i:Nat) => atB pk (i:Int) (W:Int)) = ds ++ [atB pk (k:Int) (W:Int)] by
    rw [List.range_succ,List.map_append,HDS.out];rfl)
   generalize atB pk (k:Int) (W:Int) = y at *
   have hhc:=HHC.out
   go_wp2_with (refine wpList_slice_bytes rfl _ _ _ 29 5 rfl Tryz.underlying29 (by kernel_rfl) (by kernel_rfl) bb bf b c rfl (HV.out.grow HB.out) P3 E rfl rfl hPE2 hEb hhc ?_;rw [HPK.out];intro v9 hv9;obtain ⟨A9,c9,rfl,_⟩:=id hv9;have HV9:=Hd hv9;clear hv9)
   refine (HAT.out _ _ wr HV9.out).mono ?_
   rintro e w3 ⟨rfl,rfl⟩
   go_wp2_with ((at_builtin;go_loud (refine wpList_append_wk rfl _ _ rfl _ ds (by rfl) w.heap.size HOW.out _ HB.out hsz _ y rfl (by rfl) (by rw [HDL.out];omega) ?_);intro v3 w3 hown3 hb3 hk3;have HO3:=Hd hown3;have HB3:=Hd hb3;clear hown3 hb3 hk3))
   refine ⟨⟨k + 1,ds ++ [y],by omega,by go_num,HNX.out.symm,HO3.out,HB3.out⟩,by simp [intOf];omega⟩
  ·have hke:k = N:=by omega
   subst hke
   have HLL:=Hd (show lowD b (P3:Int) k W = ds by rw [HLOW.out,HDS.out])
   have HDU:=Hd (show U64 ds by rw [← HLL.out];exact lowD_U64 _ _ _ _ hW6)
   have HEX:=Hd (fun v' w' hown' hb' => rexceptions_any (some ⟨bb,bf,none⟩) c b (E:Int) M W v' ds w w' HV.out hl (by omega) (by omega) (by omega) hW6 (by rw [HDL.out];omega) HDU.out hown' hb')
   have hwM:IntKind.i64.wrap (M:Int) = (M:Int):=by rw [IntKind.wrap_i64];omega
   obtain ⟨d',q,f,hr⟩:∃ d' q f,excD b W M (E:Int) ds = (d',q,f):=⟨_,_,_,rfl⟩
   rw [hr] at HEX
   have HXD:=Hd (show excD b W M ((P3:Int) + ((s:Nat):Int)) (lowD b (P3:Int) k W) = (d',q,f) by rw [HLL.out,hPE];exact hr)
   have HBD:=Hd (fun h => excD_bd (b:=b) (w:=W) M (E:Int) ds d' q (by omega) (by omega) h)
   rw [HS.out] at HXD
   go_wp2_with fail
   refine (HEX.out _ wr HOW.out HB.out).mono ?_
   rintro e w4 ⟨rfl,hb4,hown4⟩
   have HB4:=Hd hb4
   have HOW4:=Hd hown4
   simp only [] at *
   clear hb4 hown4
   by_cases hf:f = 0
   ·subst hf
    obtain ⟨q1,q2,q3⟩:=HBD.out hr
    have HOD:=Hd (HOW4.out rfl)
    have HD3:=Hd (q3.trans HDL.out)
    obtain ⟨AD,cD,hvd⟩:=own_ne HOD.out
    subst hvd
    obtain ⟨Q,rfl⟩:=Int.eq_ofNat_of_zero_le (a:=q) (by omega)
    have HUZ:=Hd (fun w' => runzigzag_any z w' hz0 (by omega))
    clear hr q3
    go_wp2_with fail
    refine (HUZ.out w4).mono ?_
    rintro e w5 ⟨rfl,rfl⟩
    have HDN:=HD3.out
    rw [HDN]
    clear HDN
    go_wp2_with fail
    have hwz:=val_ref z
    go_loopw [19,20] (fun o i wr => ROutRel w w4 (.slice AD k cD) d' z o i wr) (fun _ i _ => k - (intOf i).toNat)
    case atStart =>
     refine ⟨0,[],by omega,rfl,rfl,⟨rfl,.inl ⟨rfl,rfl⟩⟩,(by have h:=HOD.out;rw [HD3.out] at h;rw [HD3.out];exact h),HB4.out⟩
    case round =>
     obtain ⟨i,vs,hi,rfl,hvs,hown,hod,hb⟩:=hrel
     have HB5:=Hd hb
     have HOW5:=Hd hown
     have HOD5:=Hd hod
     have HVS:=Hd hvs
     have HVL:=Hd (show vs.length = i by rw [hvs,List.length_map,List.length_take];omega)
     have hdl:=HD3.out
     rw [hdl] at hod hi
     clear hb hown hvs
     by_cases hlt2:i < k
     ·have hid:i < d'.length:=by omega
      obtain ⟨g,rfl⟩:∃ g,AD = some ⟨g,0,none⟩:=by
       rcases hod.2 with ⟨h1,h2⟩ | ⟨g,cap,cur,h1,_⟩
       ·omega
       ·injection h1 with h1
        exact ⟨g,h1⟩
      have hcell:=hod.cellAt i (by omega)
      rw [wcells_get hid] at hcell
      have HNX:=Hd (show (d'.take (i + 1)).map (valV z) = vs ++ [valV z d'[i]] by
       rw [List.take_succ_eq_append_getElem hid,List.map_append,HVS.out];rfl)
      have hv1:=hwz d'[i]
      generalize d'[i] = y at *
      have hsz:=HB5.out.size
      clear hid hod hdl
      go_wp2_with ((at_builtin;go_loud (refine wpList_append_ik rfl _ _ rfl _ vs (by rfl) w.heap.size HOW5.out _ HB5.out hsz (valV z y) (by rfl) (by rw [HVL.out];omega) ?_);intro v6 w6 hown6 hb6 hk6;have HO6:=Hd hown6;have HB6:=Hd hb6;have HD6:=Hd (hk6 _ _ _ _ _ _ (by decide) HOD5.out);clear hown6 hb6 hk6))
      refine ⟨⟨i + 1,vs ++ [valV z y],by rw [HD3.out];omega,by go_num,HNX.out.symm,HO6.out,HD6.out,HB6.out⟩,by simp [intOf];omega⟩
     ·have hie:i = d'.length:=by omega
      have HVV:=Hd (show vs = d'.map (valV z) by rw [HVS.out,hie,List.take_length])
      have HIN:Hid (∀ x ∈ vs,frIn x):=by
       intro x hx
       rw [HVV.out,List.mem_map] at hx
       obtain ⟨y,_,rfl⟩:=hx
       exact valV_in z y
      have hik:i = k:=by omega
      clear hod hdl hie
      subst hik
      have HEN:=Hd (rencodeF_any u19 vs wr (Reads.of_own HOW5.out) (by rw [HVL.out];omega) HIN.out)
      have HLE:=Hd (encV_len vs)
      obtain ⟨wt,hwt⟩:∃ wt,wt = encV vs:=⟨_,rfl⟩
      rw [← hwt] at HEN HLE
      have HWT:=Hd hwt
      obtain ⟨gt,hgt⟩:∃ gt,gt = (b.drop O).take (Q - O):=⟨_,rfl⟩
      have HGL:=Hd (show gt.length = Q - O by rw [hgt,List.length_take,List.length_drop];omega)
      have HGT:=Hd hgt
      have HQO:=Hd (show ((Q:Int) - (O:Int)).toNat = Q - O by omega)
      have HOK:=Hd (fun h => decV_ok HF.out HXD.out h)
      have HNO:=Hd (fun h => decV_e3 HF.out HXD.out h)
      rw [HQO.out,Int.toNat_natCast,← HGT.out,← HVV.out,← HWT.out] at HOK HNO
      have hO1:O ≤ Q:=by omega
      clear hwt hgt hwz
      go_wp2_with fail
      refine HEN.out.mono ?_
      rintro e w7 ⟨v7,rfl,hb7,hu7⟩
      obtain ⟨A7,c7,hv7,_⟩:=id hu7
      subst hv7
      have HU7:=Hd hu7
      have HB7:=Hd (Grows.of_below HB5.out hb7)
      have HI7:=Hd (IsI.grow (show IsI wr u19 vs from Reads.of_own HOW5.out) hb7)
      have HT7:=Hd ((FreshI.of_own HOW5.out).2.grow hb7)
      clear hb7 hu7
      by_cases hlen:wt.length = Q - O
      ·have hdn:((wt.length:Int) != (Q:Int) - (O:Int)) = false:=by simp;omega
       have HLN:=Hd hlen
       have hwl:wt.length ≤ 2000000:=by have:=HLE.out;have:=HVL.out;omega
       clear hlen
       go_wp2_with fail
       go_loopw [22] (fun i wr => RCmpRel w7 wt gt i wr) (fun i _ => wt.length - (intOf i).toNat)
       case atStart => exact ⟨0,by omega,rfl,by simp,Below.refl _ _⟩
       case round =>
        obtain ⟨j,hj,rfl,hsame,hb⟩:=hrel
        have HB8:=Hd hb
        have HSM:=Hd hsame
        clear hb hsame
        by_cases hlt3:j < wt.length
        ·obtain ⟨b1,o1,hA1,hy1⟩:=byte_at (HU7.out.grow HB8.out) hlt3
         subst hA1
         have hOj:O + j < b.length:=by have:=HLN.out;omega
         obtain ⟨b2,o2,hA2,hy2⟩:=byte_at (HV.out.grow (HB7.out.of_below HB8.out)) hOj
         injection hA2 with hA2
         injection hA2 with e1 e2
         subst e1 e2
         have hjg:j < gt.length:=by rw [HGL.out];have:=HLN.out;omega
         have HTA:=Hd (List.take_succ_eq_append_getElem hlt3)
         have HTB:=Hd (List.take_succ_eq_append_getElem hjg)
         have hg1:wt.getD j 0 = wt[j]:=by rw [List.getD_eq_getElem?_getD,List.getElem?_eq_getElem hlt3];rfl
         have hg2:b.getD (O + j) 0 = gt[j]:=by
          have h1:gt[j]? = b[O + j]?:=by rw [HGT.out,List.getElem?_take,if_pos (by have:=HLN.out;omega),List.getElem?_drop]
          rw [List.getElem?_eq_getElem hjg] at h1
          rw [List.getD_eq_getElem?_getD,← h1];rfl
         rw [hg1] at hy1
         rw [hg2] at hy2
         have hw1:(O:Int) + (j:Int) < (b.length:Int):=by omega
         clear hg1 hg2
         by_cases heq:wt[j] = gt[j]
         ·have hE:((wt[j].toNat:Int) != (gt[j].toNat:Int)) = false:=by rw [heq];simp
          have HEQ:=Hd heq
          clear heq
          generalize wt[j] = x1 at *
          generalize gt[j] = x2 at *
          go_wp2_with fail
          go_quiet (fail)
          go_wp2
          go_roundw
          case rel =>
           refine ⟨j + 1,by omega,by go_num,?_,fr_draws HB8.out _⟩
           rw [HTA.out,HTB.out,HSM.out,HEQ.out]
          case measure => simp [intOf];omega
         ·have hne:wt[j].toNat ≠ gt[j].toNat:=fun h => heq (UInt8.toNat_inj.1 h)
          have hE:((wt[j].toNat:Int) != (gt[j].toNat:Int)) = true:=by simp only [bne_iff_ne,ne_eq];omega
          have HEE:=Hd (HNO.out (fun h => heq (by simp only [h])))
          clear heq hne
          generalize wt[j] = x1 at *
          generalize gt[j] = x2 at *
          go_wp2_with fail
          go_quiet (fail)
          go_wp2
          go_ret3
          exact DecRI.err HEE.out (fr_draws (HB7.out.of_below HB8.out) _)
        ·have hje:j = wt.length:=by omega
         have HEE:=Hd (HOK.out (by
          have h:=HSM.out
          rw [hje,List.take_length,HLN.out,← HGL.out,List.take_length] at h
          exact h))
         clear hje
         go_wp2_with fail
         go_ret3
         exact ⟨_,by rw [HEE.out];rfl,by rw [HEE.out];exact IsI.grow HI7.out HB8.out,HB7.out.of_below HB8.out,HT7.out.grow HB8.out⟩
      ·have hdn:((wt.length:Int) != (Q:Int) - (O:Int)) = true:=by simp;omega
       have HEE:=Hd (HNO.out (fun h => hlen (by rw [h,HGL.out])))
       clear hlen
       go_wp2_with fail
       go_ret3
       exact DecRI.err HEE.out HB7.out
   ·have HEE:=Hd (decV_e2 HF.out HXD.out hf)
    have hd:(f != 0) = true:=by simpa using hf
    clear hf hr
    go_wp2_with fail
    go_ret3
    exact DecRI.err HEE.out HB4.out
def HdRel (w:World) (b:List UInt8) (k:Nat) (r:List Int × Int × Int) (p o i:Value) (wr:World):Prop:=
 ∃ (j:Nat) (acc:List Int) (q:Int),j ≤ k ∧ i = .int .i64 (j:Int) ∧ p = .int .i64 q ∧ acc.length = j ∧ (-9223372036854775808 ≤ q ∧ q ≤ 9223372036854775807) ∧ hdsD b (k - j) q acc = r ∧
   wr.ownsRow w.heap.size 2 1 o acc.length (icells acc) ∧ Below w.heap.size w wr
set_option maxRecDepth 20000 in
set_option maxHeartbeats 8000000 in
theorem rheads_any (A:Option Addr) (c:Nat) (b:List UInt8) (p:Int) (k:Nat) (w:World) (hb:IsBytes w (.slice A b.length c) b) (hl:b.length ≤ 1048576) (hk:k ≤ 2) (h63:-9223372036854775808 ≤ p) (h64:p ≤ 9223372036854775807) :
 Calls Tryz.prog 129 #[.slice A b.length c,.int .i64 p,.int .i64 (k:Int)] w (DecR (hdsD b k p []) w):=by
 have HV:=Hd hb
 have HP:=Hd (And.intro h63 h64)
 obtain ⟨r,hr⟩:∃ r,r = hdsD b k p []:=⟨_,rfl⟩
 rw [← hr]
 have HR:=Hd hr.symm
 clear hb hr
 go_enter Tryz.func129,Tryz.ntmps129
 go_wp2_with fail
 go_loopw [1,9,10] (fun p o i wr => HdRel w b k r p o i wr) (fun _ _ i _ => k - (intOf i).toNat)
 case atStart => exact ⟨0,[],p,by omega,rfl,rfl,rfl,HP.out,HR.out,own_nil_i _ _,Below.refl _ _⟩
 case round =>
  obtain ⟨j,acc,q,hj,rfl,rfl,hal,hq,hdr,hown,hbw⟩:=hrel
  have HB:=Hd hbw
  have HO:=Hd hown
  have HDR:=Hd hdr
  have HAL:=Hd hal
  clear hown hbw hdr hal
  by_cases hlt:j < k
  ·obtain ⟨x,p1,e1,hd⟩:∃ x p1 e1,dcd b q = (x,p1,e1):=⟨_,_,_,rfl⟩
   have HDC:=Hd (rdecode_any (.slice A b.length c) b q wr (HV.out.grow HB.out) (by unfold maxLen;omega) hq.1 hq.2)
   rw [hd] at HDC
   have hb1:=dcd_bd2 hd
   rw [show k - j = (k - (j + 1)) + 1 by omega] at HDR
   by_cases he:e1 = 0
   ·subst he
    rw [hdsD_ok hd] at HDR
    obtain ⟨a1,a2,a3⟩:=hb1.2.2.1 rfl
    have HUZ:=Hd (fun W' => runzigzag_any x W' hb1.1 (by have:=hb1.2.1;omega))
    have hq1:-9223372036854775808 ≤ p1 ∧ p1 ≤ 9223372036854775807:=by omega
    have HQ1:=Hd hq1
    have hsz:=HB.out.size
    clear hd hb1 hq hq1 a1 a2 a3
    go_wp2_with fail
    refine HDC.out.mono ?_
    rintro e w2 ⟨rfl,rfl⟩
    go_wp2_with fail
    refine (HUZ.out wr).mono ?_
    rintro e w2 ⟨rfl,rfl⟩
    go_wp2_with (at_builtin;go_loud (refine wpList_append_ik rfl _ _ rfl _ acc (by rfl) w.heap.size HO.out w HB.out hsz (uz x) (by rfl) (by have:=HAL.out;omega) ?_);intro v3 w3 hown3 hb3 hk3;have HO3:=Hd hown3;have HB3:=Hd hb3;clear hown3 hb3 hk3)
    refine ⟨⟨j + 1,acc ++ [uz x],p1,by omega,by go_num,rfl,by rw [List.length_append,HAL.out];rfl,HQ1.out,HDR.out,HO3.out,HB3.out⟩,by simp [intOf];omega⟩
   ·rw [hdsD_e hd he] at HDR
    have hd0:(e1 != 0) = true:=by simpa using he
    clear hd he hb1 hq
    go_wp2_with fail
    refine HDC.out.mono ?_
    rintro e w2 ⟨rfl,rfl⟩
    go_wp2_with fail
    go_ret3
    exact DecR.err HDR.out.symm HB.out
  ·rw [show k - j = 0 by omega,hdsD] at HDR
   clear hq
   go_wp2_with fail
   go_ret3
   exact ⟨_,by rw [← HDR.out];rfl,by rw [← HDR.out];exact Reads.of_own HO.out,HB.out⟩
theorem str_list9 (s:List UInt8):(strOf s).toList = s:=by rw [ByteArray.toList_eq];rfl
theorem beq_list9 (a b:List UInt8):(a == b) = decide (a = b):=by
 by_cases h:a = b
 ·simp [h]
 ·rw [decide_eq_false h];simpa using h
def RDlRel (w:World) (ld r:List Int) (v i:Value) (wr:World):Prop:=
 ∃ (j:Nat) (m:Int),j ≤ ld.length ∧ i = .int .i64 m ∧ m = (j:Int) - 1 ∧ IsI wr v (psAll (ld.drop j) r) ∧ Below w.heap.size w wr ∧ IntB wr v
set_option maxRecDepth 20000 in
set_option maxHeartbeats 16000000 in
theorem rdec9I_any (A:Option Addr) (c:Nat) (b:List UInt8) (o n:Int) (w:World) (hb:IsBytes w (.slice A b.length c) b) (hlc:b.length ≤ c) (hl:b.length ≤ 1048575) (h63:-9223372036854775808 ≤ o) (h64:o ≤ 9223372036854775807) :
 Calls Tryz.prog 67 #[.slice A b.length c,.int .i64 o,.int .i64 n] w (DecRI (dlDec b o n) w):=by
 by_cases h1:n < 0
 ·have HE:=Hd (dlDec_a (b:=b) (o:=o) (n:=n) (.inl (.inl h1)))
  have hd:decide (n < 0) = true:=by simpa using h1
  clear h1
  go_enter Tryz.func67,Tryz.ntmps67
  go_wp2_with fail
  go_ret3
  exact DecRI.err HE.out (Below.refl _ _)
 have d1:decide (n < 0) = false:=by simpa using h1
 by_cases h2:65536 < n
 ·have HE:=Hd (dlDec_a (b:=b) (o:=o) (n:=n) (.inl (.inr h2)))
  have hd:decide (65536 < n) = true:=by simpa using h2
  clear h1 h2
  go_enter Tryz.func67,Tryz.ntmps67
  go_wp2_with fail
  go_ret3
  exact DecRI.err HE.out (Below.refl _ _)
 have d2:decide (65536 < n) = false:=by simpa using h2
 by_cases h3:o < 0
 ·have HE:=Hd (dlDec_a (b:=b) (o:=o) (n:=n) (.inr h3))
  have hd:decide (o < 0) = true:=by simpa using h3
  clear h1 h2 h3
  go_enter Tryz.func67,Tryz.ntmps67
  go_wp2_with fail
  go_ret3
  exact DecRI.err HE.out (Below.refl _ _)
 have d3:decide (o < 0) = false:=by simpa using h3
 have HN:=Hd (show ¬ ((n < 0 ∨ 65536 < n) ∨ o < 0) by omega)
 by_cases h4:(b.length:Int) ≤ o
 ·have HE:=Hd (dlDec_b HN.out h4)
  have hd:decide ((b.length:Int) ≤ o) = true:=by simpa using h4
  clear h1 h2 h3 h4
  go_enter Tryz.func67,Tryz.ntmps67
  go_wp2_with fail
  go_ret3
  exact DecRI.err HE.out (Below.refl _ _)
 have d4:decide ((b.length:Int) ≤ o) = false:=by simpa using h4
 have HL4:=Hd h4
 obtain ⟨O,rfl⟩:=Int.eq_ofNat_of_zero_le (a:=o) (by omega)
 obtain ⟨N,rfl⟩:=Int.eq_ofNat_of_zero_le (a:=n) (by omega)
 have hOl:O < b.length:=by omega
 have hNl:N ≤ 65536:=by omega
 have HV:=Hd hb
 obtain ⟨bb,ff,hA,hck⟩:=byte_at hb hOl
 subst hA
 have hkd:kindD b (O:Int) = (b.getD O 0).toNat:=by unfold kindD;rw [Int.toNat_natCast]
 have hkb:=(b.getD O 0).toNat_lt
 generalize (b.getD O 0).toNat = kk at *
 have HKD:=Hd hkd
 clear h1 h2 h3 h4 h63 h64 hb hkd
 by_cases k1:kk = 1 ∨ (kk = 2 ∧ 2 ≤ N)
 rotate_left
 ·have HE:=Hd (dlDec_c HN.out HL4.out (by rw [HKD.out];omega))
  have e1:((kk:Int) != 1) = true:=by simp;omega
  by_cases k2:kk = 2
  ·have e2:((kk:Int) != 2) = false:=by simp;omega
   have e3:decide ((N:Int) < 2) = true:=by simp;omega
   clear k1 k2
   go_enter Tryz.func67,Tryz.ntmps67
   go_wp2_with fail
   go_ret3
   exact DecRI.err HE.out (Below.refl _ _)
  ·have e2:((kk:Int) != 2) = true:=by simp;omega
   clear k1 k2
   go_enter Tryz.func67,Tryz.ntmps67
   go_wp2_with fail
   go_ret3
   exact DecRI.err HE.out (Below.refl _ _)
 have HK1:=Hd (show kindD b (O:Int) = 1 ∨ (kindD b (O:Int) = 2 ∧ 2 ≤ (N:Int)) by rw [HKD.out];omega)
 obtain ⟨M,hM⟩:∃ M,M = min kk N:=⟨_,rfl⟩
 obtain ⟨R,hR⟩:∃ R,R = N - M:=⟨_,rfl⟩
 obtain ⟨ld,p,e1,hh⟩:∃ ld p e1,hdsD b M ((O:Int) + 1) [] = (ld,p,e1):=⟨_,_,_,rfl⟩
 have HH:Hid (hdsD b (min (kindD b (O:Int)) (N:Int).toNat) ((O:Int) + 1) [] = (ld,p,e1)):=by rw [HKD.out,Int.toNat_natCast,← hM];exact hh
 have HHC:=Hd (rheads_any (some ⟨bb,ff,none⟩) c b ((O:Int) + 1) M w HV.out (by omega) (by omega) (by omega) (by omega))
 rw [hh] at HHC
 have hmn:min (kk:Int) (N:Int) = (M:Int):=by omega
 have hM2:M ≤ 2:=by omega
 rcases k1 with k1 | k1
 ·have x1:((kk:Int) != 1) = false:=by simp;omega
  by_cases he1:e1 = 0
  rotate_left
  ·have HE:=Hd (dlDec_d HN.out HL4.out HK1.out HH.out he1)
   have hd:(e1 != 0) = true:=by simpa using he1
   clear he1 hh hM hR
   clear k1
   go_enter Tryz.func67,Tryz.ntmps67
   go_wp2_with fail
   refine HHC.out.mono ?_
   rintro e w1 ⟨v1,rfl,hi1,hg1⟩
   have HG1:=Hd hg1
   clear hi1 hg1
   go_wp2_with fail
   go_ret3
   exact DecRI.err HE.out HG1.out
  subst he1
  obtain ⟨b1,b2,b3,b4⟩:=hdsD_bd M ((O:Int) + 1) [] ld p (by omega) (by omega) (fun x hx => by cases hx) hh
  rw [List.length_nil,Nat.zero_add] at b3
  obtain ⟨r,q,e2,hr⟩:∃ r q e2,decV b p (R:Int) = (r,q,e2):=⟨_,_,_,rfl⟩
  have HR:Hid (decV b p ((N:Int) - (min (kindD b (O:Int)) (N:Int).toNat:Nat)) = (r,q,e2)):=by
   rw [HKD.out,Int.toNat_natCast,← hM,show (N:Int) - (M:Nat) = (R:Int) by omega]
   exact hr
  have HDC:=Hd (fun w' hv' => rdecodeFI_any (some ⟨bb,ff,none⟩) c b p (R:Int) w' hv' hlc (by omega))
  rw [hr] at HDC
  have HLL:=Hd b3
  have HLDI:=Hd b4
  have hmx:max ((N:Int) - (kk:Int)) 0 = (R:Int):=by omega
  by_cases he2:e2 = 0
  rotate_left
  ·have HE:=Hd (dlDec_e HN.out HL4.out HK1.out HH.out HR.out he2)
   have hd:(e2 != 0) = true:=by simpa using he2
   clear he2 hh hM hR hr b1 b2 b3 b4
   clear k1
   go_enter Tryz.func67,Tryz.ntmps67
   go_wp2_with fail
   refine HHC.out.mono ?_
   rintro e w1 ⟨v1,rfl,hi1,hg1⟩
   have HI1:=Hd (show IsI w1 v1 ld from hi1)
   have HG1:=Hd hg1
   obtain ⟨A4,c4,rfl⟩:=HI1.out.slice_
   clear hi1 hg1
   go_wp2_with fail
   refine (HDC.out w1 (HV.out.grow HG1.out)).mono ?_
   rintro e w2 ⟨v2,rfl,hi2,hg2,ht2⟩
   have HG2:=Hd (Grows.of_below HG1.out hg2)
   clear hi2 hg2 ht2
   go_wp2_with fail
   go_ret3
   exact DecRI.err HE.out HG2.out
  subst he2
  obtain ⟨a1,a2,a3⟩:=decV_bd hr
  have HB2:=Hd a2
  have HRI:=Hd a3
  obtain ⟨Q,rfl⟩:=Int.eq_ofNat_of_zero_le (a:=q) (by omega)
  have hOQ:O ≤ Q:=by omega
  have hQb:Q ≤ b.length:=by omega
  have HVL:=Hd (show (psAll ld r).length = N by rw [psAll_length];omega)
  have HVI:=Hd (psAll_in ld r HLDI.out HRI.out)
  have HLN:Hid (∀ j,(psAll (ld.drop j) r).length ≤ 100000):=fun j => by rw [psAll_length,List.length_drop];have:=HLL.out;omega
  have HPD:Hid (∀ k,(h:k < ld.length) → psAll (ld.drop k) r = psL ld[k] (psAll (ld.drop (k + 1)) r)):=fun k h => psAll_drop h r
  have HOK:=Hd (fun h5 => dlDec_g HN.out HL4.out HK1.out HH.out HR.out h5)
  have HNO:=Hd (fun h5 => dlDec_f HN.out HL4.out HK1.out HH.out HR.out h5)
  have hQO:((Q:Int) - (O:Int)).toNat = Q - O:=by omega
  rw [hQO,Int.toNat_natCast] at HOK HNO
  obtain ⟨vs,hvs⟩:∃ vs,vs = psAll ld r:=⟨_,rfl⟩
  obtain ⟨wt,hwt⟩:∃ wt,wt = dlEnc vs:=⟨_,rfl⟩
  obtain ⟨gt,hgt⟩:∃ gt,gt = (b.drop O).take (Q - O):=⟨_,rfl⟩
  rw [← hvs] at HVL HVI HOK HNO
  rw [← hwt,← hgt] at HOK HNO
  have HVS:=Hd hvs
  have HWT:=Hd hwt
  have HGT:=Hd hgt
  obtain ⟨bq,hbq⟩:∃ bq,bq = decide (wt = gt):=⟨_,rfl⟩
  have HBQ:=Hd hbq
  have hQlb:Q ≤ 1048576:=by omega
  have hll0:ld.length ≤ 65536:=by omega
  clear hh hM hR hr b1 b2 b3 b4 a1 a2 a3 hvs hwt hgt hbq hQO
  clear k1
  go_enter Tryz.func67,Tryz.ntmps67
  go_wp2_with fail
  refine HHC.out.mono ?_
  rintro e w1 ⟨v1,rfl,hi1,hg1⟩
  have HI1:=Hd (show IsI w1 v1 ld from hi1)
  have HG1:=Hd hg1
  obtain ⟨A4,c4,rfl⟩:=HI1.out.slice_
  clear hi1 hg1
  go_wp2_with fail
  refine (HDC.out w1 (HV.out.grow HG1.out)).mono ?_
  rintro e w2 ⟨v2,rfl,hi2,hg2,ht2⟩
  have HI2:=Hd (show IsI w2 v2 r from hi2)
  have HG2:=Hd (Grows.of_below HG1.out hg2)
  have HI12:=Hd (IsI.grow HI1.out hg2)
  have HT2:=Hd ht2
  clear hi2 hg2 hmx hmn ht2
  go_wp2_with fail
  go_loopw [15,16] (fun v i wr => RDlRel w2 ld r v i wr) (fun _ i _ => (intOf i + 1).toNat)
  case atStart => exact ⟨ld.length,_,Nat.le_refl _,rfl,rfl,by rw [List.drop_length];exact HI2.out,Below.refl _ _,HT2.out⟩
  case round =>
   obtain ⟨j,m,hj,rfl,hm,hvi,hbw,htv⟩:=hrel
   have HTV:=Hd htv
   clear htv
   have HB:=Hd hbw
   have HIV:=Hd hvi
   obtain ⟨A5,c5,rfl⟩:=HIV.out.slice_
   clear hvi hbw
   by_cases hj0:0 < j
   ·obtain ⟨k,rfl⟩:∃ k,j = k + 1:=⟨j - 1,by omega⟩
    obtain rfl:m = (k:Int):=by omega
    have hkl:k < ld.length:=by omega
    obtain ⟨b1,f1,rfl,hcl⟩:=(IsI.grow HI12.out HB.out).at_ hkl
    have HPK:=Hd (HPD.out k hkl)
    have HPS:=Hd (rps_any ld[k] _ _ wr HIV.out (by have:=HLN.out (k + 1);omega))
    rw [← HPK.out] at HPS
    generalize ld[k] = x at *
    clear hm hj0
    go_wp2_with fail
    refine HPS.out.mono ?_
    rintro e w3 ⟨v3,rfl,hg3,hown3⟩
    have HI3:=Hd (show IsI w3 v3 (psAll (ld.drop k) r) from Reads.of_own hown3)
    have HB3:=Hd (Grows.of_below HB.out hg3)
    have HT3:=Hd (FreshI.of_own hown3).2
    clear hown3 hg3
    go_wp2_with fail
    refine ⟨⟨k,(k:Int) - 1,by omega,by go_num,rfl,HI3.out,HB3.out,HT3.out⟩,by simp [intOf] <;> omega⟩
   ·obtain rfl:j = 0:=by omega
    obtain rfl:m = -1:=by omega
    rw [List.drop_zero,← HVS.out] at HIV
    have HLV:=Hd (show (psAll (ld.drop 0) r).length = vs.length by rw [List.drop_zero,HVS.out])
    rw [HLV.out]
    have HEN:=Hd (fun w' (h:Grows wr w') => renc_any (.slice A5 vs.length c5) vs w' (IsI.grow HIV.out h) (by rw [HVL.out];exact hNl) HVI.out)
    rw [← HWT.out] at HEN
    obtain ⟨AO,hAO,hsa⟩:∃ AO,(∀ w',IsBytes w' (.slice (some ⟨bb,ff,none⟩) b.length c) b → IsBytes w' (.slice AO (Q - O) (c - O)) gt) ∧
     ∀ w',(Instr.sliceAt 29 (.slice (some ⟨bb,ff,none⟩) b.length c) (some (.int .i64 (O:Int))) (some (.int .i64 (Q:Int))) none).run Tryz.prog w' = .ok (.slice AO (Q - O) (c - O)) w':=by
     refine ⟨if c = O then (some (⟨bb,ff,none⟩:Addr)) else Option.map (fun x:Addr => x.add O) (some (⟨bb,ff,none⟩:Addr)),fun w' hv => ?_,fun w' => ?_⟩
     ·have h:=slice_reads2 hv (o:=O) (p:=Q) hOQ hQb hlc
      rw [← HGT.out] at h
      exact h
     ·have ht:Tryz.prog.underlying 29 = some (.slice (Tryz.prog.elem 29)):=by kernel_rfl
      have hs1:(sizeOf (Tryz.prog.elem 29)).run Tryz.prog w' = .ok 1 w':=by
       have hi:(Tryz.prog.info? (Tryz.prog.elem 29)).map (·.size) = some 1:=by kernel_rfl
       cases h:Tryz.prog.info? (Tryz.prog.elem 29) with
       | none => rw [h] at hi;cases hi
       | some y =>
         rw [h] at hi
         have h1:y.size = 1:=by simpa using hi
         simp [sizeOf,typeInfo,h,h1]
      rw [run_sliceAt_slice (P:=Tryz.prog) (w:=w') 29 (.slice (some ⟨bb,ff,none⟩) b.length c) (some (.int .i64 (O:Int))) (some (.int .i64 (Q:Int))) none ht]
      have h:=run_slice_lh (P:=Tryz.prog) (w:=w') 29 (some ⟨bb,ff,none⟩) b.length c ht .i64 .i64 (O:Int) (Q:Int) (by omega) (by omega) (by omega)
      rw [h,hs1]
      simp only [Result.andThen_ok,sliced,Int.toNat_natCast,Nat.mul_one]
    have HAO:=Hd (fun w' (h:Grows wr w') => hAO w' (HV.out.grow (Grows.of_below HG2.out (Grows.of_below HB.out h))))
    have HSQ:=Hd (show ((strOf wt).toList == (strOf gt).toList) = bq by rw [HBQ.out,str_list9,str_list9,beq_list9])
    clear hAO hm hj0 hOQ
    go_wp2_with fail
    refine wp_region_loose (tabRs [(1,BytesV wt)]) (by kernel_rfl) (by kernel_rfl) (tabRs_cons BytesV.lasts tabRs_nil) ?_
    iterate 1 ((with_reducible refine loose_one (v:=?_) (a':=?_) ?_ ?_ (fun w' hC' hG' => ?_) ?_ ?_);rotate_left 2;(focus rfl);(focus rfl);(focus (have hsq:=HSQ.out;clear hC' hG';go_simp;rfl));(focus (go_simp;rfl)))
    refine loose_call (R:=BytesV wt) (f:=55) (args:=#[.slice A5 vs.length c5]) (by rfl) (by rfl) (fun _ => by go_simp) (fun w' hC' hG' => byr_loose (HEN.out w' hC')) ?_
    intro u1 hu1
    refine ⟨?_,?_,?_⟩
    rotate_left
    ·go_simp
     rfl
    refine loose_one (v:=?_) (a':=?_) (by rfl) (by rfl) (fun w' hC' hG' => ?_) ?_ ?_
    rotate_left 2
    ·have hr:=run_string_bytes (P:=Tryz.prog) ((show IsBytes w' _ wt from (hG' 1 (by kernel_rfl)).2 rfl)) 29 5 Tryz.underlying29 Tryz.underlying5 9 Tryz.underlying9
     clear hC' hG'
     go_simp
     rfl
    ·go_simp
     rfl
    iterate 4 ((with_reducible refine loose_one (v:=?_) (a':=?_) ?_ ?_ (fun w' hC' hG' => ?_) ?_ ?_);rotate_left 2;(focus rfl);(focus rfl);(focus (have hsq:=HSQ.out;clear hC' hG';go_simp;rfl));(focus (go_simp;rfl)))
    refine loose_one (v:=?_) (a':=?_) (by rfl) (by rfl) (fun w' hC' hG' => ?_) ?_ ?_
    rotate_left 2
    ·have hr:=run_string_bytes (P:=Tryz.prog) ((HAO.out w' hC')) 29 5 Tryz.underlying29 Tryz.underlying5 9 Tryz.underlying9
     clear hC' hG'
     go_simp
     rfl
    ·go_simp
     rfl
    iterate 1 ((with_reducible refine loose_one (v:=?_) (a':=?_) ?_ ?_ (fun w' hC' hG' => ?_) ?_ ?_);rotate_left 2;(focus rfl);(focus rfl);(focus (have hsq:=HSQ.out;clear hC' hG';go_simp;rfl));(focus (go_simp;rfl)))
    refine loose_done (fun w12 hC' hG' => ?_)
    clear hG'
    have HB12:=Hd (Grows.of_below HG2.out (Grows.of_below HB.out hC'))
    have HI12':=Hd (IsI.grow HIV.out hC')
    have HT12:=Hd (HTV.out.grow hC')
    clear hC' hsa
    cases bq
    rotate_left
    ·have HEE:=Hd (HOK.out (by have h:=HBQ.out;simpa using h.symm))
     go_wp2_with fail
     go_ret3
     exact ⟨_,by rw [HEE.out];rfl,by rw [HEE.out];exact HI12'.out,HB12.out,by have h:=HT12.out;rw [HLV.out] at h;exact h⟩
    ·have HEE:=Hd (HNO.out (by have h:=HBQ.out;simpa using h.symm))
     go_wp2_with fail
     go_ret3
     exact DecRI.err HEE.out HB12.out
 ·have x1:((kk:Int) != 1) = true:=by simp;omega
  have x2:((kk:Int) != 2) = false:=by simp;omega
  have x3:decide ((N:Int) < 2) = false:=by simp;omega
  by_cases he1:e1 = 0
  rotate_left
  ·have HE:=Hd (dlDec_d HN.out HL4.out HK1.out HH.out he1)
   have hd:(e1 != 0) = true:=by simpa using he1
   clear he1 hh hM hR
   clear k1
   go_enter Tryz.func67,Tryz.ntmps67
   go_wp2_with fail
   refine HHC.out.mono ?_
   rintro e w1 ⟨v1,rfl,hi1,hg1⟩
   have HG1:=Hd hg1
   clear hi1 hg1
   go_wp2_with fail
   go_ret3
   exact DecRI.err HE.out HG1.out
  subst he1
  obtain ⟨b1,b2,b3,b4⟩:=hdsD_bd M ((O:Int) + 1) [] ld p (by omega) (by omega) (fun x hx => by cases hx) hh
  rw [List.length_nil,Nat.zero_add] at b3
  obtain ⟨r,q,e2,hr⟩:∃ r q e2,decV b p (R:Int) = (r,q,e2):=⟨_,_,_,rfl⟩
  have HR:Hid (decV b p ((N:Int) - (min (kindD b (O:Int)) (N:Int).toNat:Nat)) = (r,q,e2)):=by
   rw [HKD.out,Int.toNat_natCast,← hM,show (N:Int) - (M:Nat) = (R:Int) by omega]
   exact hr
  have HDC:=Hd (fun w' hv' => rdecodeFI_any (some ⟨bb,ff,none⟩) c b p (R:Int) w' hv' hlc (by omega))
  rw [hr] at HDC
  have HLL:=Hd b3
  have HLDI:=Hd b4
  have hmx:max ((N:Int) - (kk:Int)) 0 = (R:Int):=by omega
  by_cases he2:e2 = 0
  rotate_left
  ·have HE:=Hd (dlDec_e HN.out HL4.out HK1.out HH.out HR.out he2)
   have hd:(e2 != 0) = true:=by simpa using he2
   clear he2 hh hM hR hr b1 b2 b3 b4
   clear k1
   go_enter Tryz.func67,Tryz.ntmps67
   go_wp2_with fail
   refine HHC.out.mono ?_
   rintro e w1 ⟨v1,rfl,hi1,hg1⟩
   have HI1:=Hd (show IsI w1 v1 ld from hi1)
   have HG1:=Hd hg1
   obtain ⟨A4,c4,rfl⟩:=HI1.out.slice_
   clear hi1 hg1
   go_wp2_with fail
   refine (HDC.out w1 (HV.out.grow HG1.out)).mono ?_
   rintro e w2 ⟨v2,rfl,hi2,hg2,ht2⟩
   have HG2:=Hd (Grows.of_below HG1.out hg2)
   clear hi2 hg2 ht2
   go_wp2_with fail
   go_ret3
   exact DecRI.err HE.out HG2.out
  subst he2
  obtain ⟨a1,a2,a3⟩:=decV_bd hr
  have HB2:=Hd a2
  have HRI:=Hd a3
  obtain ⟨Q,rfl⟩:=Int.eq_ofNat_of_zero_le (a:=q) (by omega)
  have hOQ:O ≤ Q:=by omega
  have hQb:Q ≤ b.length:=by omega
  have HVL:=Hd (show (psAll ld r).length = N by rw [psAll_length];omega)
  have HVI:=Hd (psAll_in ld r HLDI.out HRI.out)
  have HLN:Hid (∀ j,(psAll (ld.drop j) r).length ≤ 100000):=fun j => by rw [psAll_length,List.length_drop];have:=HLL.out;omega
  have HPD:Hid (∀ k,(h:k < ld.length) → psAll (ld.drop k) r = psL ld[k] (psAll (ld.drop (k + 1)) r)):=fun k h => psAll_drop h r
  have HOK:=Hd (fun h5 => dlDec_g HN.out HL4.out HK1.out HH.out HR.out h5)
  have HNO:=Hd (fun h5 => dlDec_f HN.out HL4.out HK1.out HH.out HR.out h5)
  have hQO:((Q:Int) - (O:Int)).toNat = Q - O:=by omega
  rw [hQO,Int.toNat_natCast] at HOK HNO
  obtain ⟨vs,hvs⟩:∃ vs,vs = psAll ld r:=⟨_,rfl⟩
  obtain ⟨wt,hwt⟩:∃ wt,wt = dlEnc vs:=⟨_,rfl⟩
  obtain ⟨gt,hgt⟩:∃ gt,gt = (b.drop O).take (Q - O):=⟨_,rfl⟩
  rw [← hvs] at HVL HVI HOK HNO
  rw [← hwt,← hgt] at HOK HNO
  have HVS:=Hd hvs
  have HWT:=Hd hwt
  have HGT:=Hd hgt
  obtain ⟨bq,hbq⟩:∃ bq,bq = decide (wt = gt):=⟨_,rfl⟩
  have HBQ:=Hd hbq
  have hQlb:Q ≤ 1048576:=by omega
  have hll0:ld.length ≤ 65536:=by omega
  clear hh hM hR hr b1 b2 b3 b4 a1 a2 a3 hvs hwt hgt hbq hQO
  clear k1
  go_enter Tryz.func67,Tryz.ntmps67
  go_wp2_with fail
  refine HHC.out.mono ?_
  rintro e w1 ⟨v1,rfl,hi1,hg1⟩
  have HI1:=Hd (show IsI w1 v1 ld from hi1)
  have HG1:=Hd hg1
  obtain ⟨A4,c4,rfl⟩:=HI1.out.slice_
  clear hi1 hg1
  go_wp2_with fail
  refine (HDC.out w1 (HV.out.grow HG1.out)).mono ?_
  rintro e w2 ⟨v2,rfl,hi2,hg2,ht2⟩
  have HI2:=Hd (show IsI w2 v2 r from hi2)
  have HG2:=Hd (Grows.of_below HG1.out hg2)
  have HI12:=Hd (IsI.grow HI1.out hg2)
  have HT2:=Hd ht2
  clear hi2 hg2 hmx hmn ht2
  go_wp2_with fail
  go_loopw [15,16] (fun v i wr => RDlRel w2 ld r v i wr) (fun _ i _ => (intOf i + 1).toNat)
  case atStart => exact ⟨ld.length,_,Nat.le_refl _,rfl,rfl,by rw [List.drop_length];exact HI2.out,Below.refl _ _,HT2.out⟩
  case round =>
   obtain ⟨j,m,hj,rfl,hm,hvi,hbw,htv⟩:=hrel
   have HTV:=Hd htv
   clear htv
   have HB:=Hd hbw
   have HIV:=Hd hvi
   obtain ⟨A5,c5,rfl⟩:=HIV.out.slice_
   clear hvi hbw
   by_cases hj0:0 < j
   ·obtain ⟨k,rfl⟩:∃ k,j = k + 1:=⟨j - 1,by omega⟩
    obtain rfl:m = (k:Int):=by omega
    have hkl:k < ld.length:=by omega
    obtain ⟨b1,f1,rfl,hcl⟩:=(IsI.grow HI12.out HB.out).at_ hkl
    have HPK:=Hd (HPD.out k hkl)
    have HPS:=Hd (rps_any ld[k] _ _ wr HIV.out (by have:=HLN.out (k + 1);omega))
    rw [← HPK.out] at HPS
    generalize ld[k] = x at *
    clear hm hj0
    go_wp2_with fail
    refine HPS.out.mono ?_
    rintro e w3 ⟨v3,rfl,hg3,hown3⟩
    have HI3:=Hd (show IsI w3 v3 (psAll (ld.drop k) r) from Reads.of_own hown3)
    have HB3:=Hd (Grows.of_below HB.out hg3)
    have HT3:=Hd (FreshI.of_own hown3).2
    clear hown3 hg3
    go_wp2_with fail
    refine ⟨⟨k,(k:Int) - 1,by omega,by go_num,rfl,HI3.out,HB3.out,HT3.out⟩,by simp [intOf] <;> omega⟩
   ·obtain rfl:j = 0:=by omega
    obtain rfl:m = -1:=by omega
    rw [List.drop_zero,← HVS.out] at HIV
    have HLV:=Hd (show (psAll (ld.drop 0) r).length = vs.length by rw [List.drop_zero,HVS.out])
    rw [HLV.out]
    have HEN:=Hd (fun w' (h:Grows wr w') => renc_any (.slice A5 vs.length c5) vs w' (IsI.grow HIV.out h) (by rw [HVL.out];exact hNl) HVI.out)
    rw [← HWT.out] at HEN
    obtain ⟨AO,hAO,hsa⟩:∃ AO,(∀ w',IsBytes w' (.slice (some ⟨bb,ff,none⟩) b.length c) b → IsBytes w' (.slice AO (Q - O) (c - O)) gt) ∧
     ∀ w',(Instr.sliceAt 29 (.slice (some ⟨bb,ff,none⟩) b.length c) (some (.int .i64 (O:Int))) (some (.int .i64 (Q:Int))) none).run Tryz.prog w' = .ok (.slice AO (Q - O) (c - O)) w':=by
     refine ⟨if c = O then (some (⟨bb,ff,none⟩:Addr)) else Option.map (fun x:Addr => x.add O) (some (⟨bb,ff,none⟩:Addr)),fun w' hv => ?_,fun w' => ?_⟩
     ·have h:=slice_reads2 hv (o:=O) (p:=Q) hOQ hQb hlc
      rw [← HGT.out] at h
      exact h
     ·have ht:Tryz.prog.underlying 29 = some (.slice (Tryz.prog.elem 29)):=by kernel_rfl
      have hs1:(sizeOf (Tryz.prog.elem 29)).run Tryz.prog w' = .ok 1 w':=by
       have hi:(Tryz.prog.info? (Tryz.prog.elem 29)).map (·.size) = some 1:=by kernel_rfl
       cases h:Tryz.prog.info? (Tryz.prog.elem 29) with
       | none => rw [h] at hi;cases hi
       | some y =>
         rw [h] at hi
         have h1:y.size = 1:=by simpa using hi
         simp [sizeOf,typeInfo,h,h1]
      rw [run_sliceAt_slice (P:=Tryz.prog) (w:=w') 29 (.slice (some ⟨bb,ff,none⟩) b.length c) (some (.int .i64 (O:Int))) (some (.int .i64 (Q:Int))) none ht]
      have h:=run_slice_lh (P:=Tryz.prog) (w:=w') 29 (some ⟨bb,ff,none⟩) b.length c ht .i64 .i64 (O:Int) (Q:Int) (by omega) (by omega) (by omega)
      rw [h,hs1]
      simp only [Result.andThen_ok,sliced,Int.toNat_natCast,Nat.mul_one]
    have HAO:=Hd (fun w' (h:Grows wr w') => hAO w' (HV.out.grow (Grows.of_below HG2.out (Grows.of_below HB.out h))))
    have HSQ:=Hd (show ((strOf wt).toList == (strOf gt).toList) = bq by rw [HBQ.out,str_list9,str_list9,beq_list9])
    clear hAO hm hj0 hOQ
    go_wp2_with fail
    refine wp_region_loose (tabRs [(1,BytesV wt)]) (by kernel_rfl) (by kernel_rfl) (tabRs_cons BytesV.lasts tabRs_nil) ?_
    iterate 1 ((with_reducible refine loose_one (v:=?_) (a':=?_) ?_ ?_ (fun w' hC' hG' => ?_) ?_ ?_);rotate_left 2;(focus rfl);(focus rfl);(focus (have hsq:=HSQ.out;clear hC' hG';go_simp;rfl));(focus (go_simp;rfl)))
    refine loose_call (R:=BytesV wt) (f:=55) (args:=#[.slice A5 vs.length c5]) (by rfl) (by rfl) (fun _ => by go_simp) (fun w' hC' hG' => byr_loose (HEN.out w' hC')) ?_
    intro u1 hu1
    refine ⟨?_,?_,?_⟩
    rotate_left
    ·go_simp
     rfl
    refine loose_one (v:=?_) (a':=?_) (by rfl) (by rfl) (fun w' hC' hG' => ?_) ?_ ?_
    rotate_left 2
    ·have hr:=run_string_bytes (P:=Tryz.prog) ((show IsBytes w' _ wt from (hG' 1 (by kernel_rfl)).2 rfl)) 29 5 Tryz.underlying29 Tryz.underlying5 9 Tryz.underlying9
     clear hC' hG'
     go_simp
     rfl
    ·go_simp
     rfl
    iterate 4 ((with_reducible refine loose_one (v:=?_) (a':=?_) ?_ ?_ (fun w' hC' hG' => ?_) ?_ ?_);rotate_left 2;(focus rfl);(focus rfl);(focus (have hsq:=HSQ.out;clear hC' hG';go_simp;rfl));(focus (go_simp;rfl)))
    refine loose_one (v:=?_) (a':=?_) (by rfl) (by rfl) (fun w' hC' hG' => ?_) ?_ ?_
    rotate_left 2
    ·have hr:=run_string_bytes (P:=Tryz.prog) ((HAO.out w' hC')) 29 5 Tryz.underlying29 Tryz.underlying5 9 Tryz.underlying9
     clear hC' hG'
     go_simp
     rfl
    ·go_simp
     rfl
    iterate 1 ((with_reducible refine loose_one (v:=?_) (a':=?_) ?_ ?_ (fun w' hC' hG' => ?_) ?_ ?_);rotate_left 2;(focus rfl);(focus rfl);(focus (have hsq:=HSQ.out;clear hC' hG';go_simp;rfl));(focus (go_simp;rfl)))
    refine loose_done (fun w12 hC' hG' => ?_)
    clear hG'
    have HB12:=Hd (Grows.of_below HG2.out (Grows.of_below HB.out hC'))
    have HI12':=Hd (IsI.grow HIV.out hC')
    have HT12:=Hd (HTV.out.grow hC')
    clear hC' hsa
    cases bq
    rotate_left
    ·have HEE:=Hd (HOK.out (by have h:=HBQ.out;simpa using h.symm))
     go_wp2_with fail
     go_ret3
     exact ⟨_,by rw [HEE.out];rfl,by rw [HEE.out];exact HI12'.out,HB12.out,by have h:=HT12.out;rw [HLV.out] at h;exact h⟩
    ·have HEE:=Hd (HNO.out (by have h:=HBQ.out;simpa using h.symm))
     go_wp2_with fail
     go_ret3
     exact DecRI.err HEE.out HB12.out
end Go.Proofs.YthmipnokimlbdaaGreat
