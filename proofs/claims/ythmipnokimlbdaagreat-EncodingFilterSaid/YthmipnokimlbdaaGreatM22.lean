/-
  Texts that the claims of this seat share, put together (Val, Val2). No condition.
-/
import Derived.Test.YthmipnokimlbdaaGreatProg
import Derived.Test.YthmipnokimlbdaaGreatM1
import Derived.Laws.Cover1
import Derived.WalkKit
set_option linter.unusedVariables false
set_option linter.unusedSimpArgs false
namespace Go.Proofs.YthmipnokimlbdaaGreat
set_option maxRecDepth 8000
open Go.RowKit
theorem grow1 {w:World} (o:Obj):Grows w (w.alloc o):=(Below.refl _ _).alloc (Nat.le_refl _) o
def validV (k n:Int) (t:ByteArray):Bool:=
 if k = 0 then (n == 0) && t.toList.isEmpty
 else if k = 1 then ((n == 0) || (n == 1)) && t.toList.isEmpty
 else if k = 2 then t.toList.isEmpty
 else if k = 3 then (n == 0) && decide (t.size ≤ 4096)
 else false
def sgnV (a b:Bool):Int:=if a then -1 else if b then 1 else 0
theorem rsign_any (a b:Bool) (w:World):Calls Tryz.prog 134 #[.bool a,.bool b] w fun e w' => e = .returned (.int .i64 (sgnV a b)) ∧ w = w':=by
 cases a <;> cases b <;>
 ·go_enter Tryz.func134,Tryz.ntmps134
  go_wp2
  go_ret
  exact ⟨rfl,rfl⟩
theorem rvvalid_any (k n:Int) (t:ByteArray) (w:World):Calls Tryz.prog 21 #[.agg #[.int .i64 k,.int .i64 n,.string t]] w fun e w' => e = .returned (.bool (validV k n t)) ∧ Grows w w':=by
 by_cases h0:k = 0
 ·subst h0
  go_enter Tryz.func21,Tryz.ntmps21
  go_wp2_with fail
  all_goals (go_ret;exact ⟨retB (by simp [validV, *]),grow1 _⟩)
 by_cases h1:k = 1
 ·subst h1
  clear h0
  go_enter Tryz.func21,Tryz.ntmps21
  go_wp2_with fail
  all_goals (go_ret;exact ⟨retB (by simp [validV, *]),grow1 _⟩)
 by_cases h2:k = 2
 ·subst h2
  clear h0 h1
  go_enter Tryz.func21,Tryz.ntmps21
  go_wp2_with fail
  all_goals (go_ret;exact ⟨retB (by simp [validV, *]),grow1 _⟩)
 by_cases h3:k = 3
 ·subst h3
  clear h0 h1 h2
  go_enter Tryz.func21,Tryz.ntmps21
  go_wp2_with fail
  all_goals (go_ret;exact ⟨retB (by simp [validV, *];try omega),grow1 _⟩)
 ·go_enter Tryz.func21,Tryz.ntmps21
  go_wp2_with fail
  all_goals (go_ret;exact ⟨retB (by simp [validV, *]),grow1 _⟩)
theorem grow2 {w:World} (o o':Obj):Grows w ((w.alloc o).alloc o'):=((Below.refl _ _).alloc (Nat.le_refl _) _).alloc (by simp) _
def gtS (s t:ByteArray):Bool:=!Op.bytesLess s.toList t.toList && !s.toList == t.toList
def cmpV (k n:Int) (t:ByteArray) (k' n':Int) (t':ByteArray):Int:=
 if k = k' then (if k = 3 then sgnV (Op.bytesLess t.toList t'.toList) (gtS t t') else sgnV (decide (n < n')) (decide (n' < n))) else sgnV (decide (k < k')) true
theorem rcompare_any (k n k' n':Int) (t t':ByteArray) (w:World):Calls Tryz.prog 74 #[.agg #[.int .i64 k,.int .i64 n,.string t],.agg #[.int .i64 k',.int .i64 n',.string t']] w fun e w' => e = .returned (.int .i64 (cmpV k n t k' n' t')) ∧ Grows w w':=by
 have HS:=Hd (fun a b w => rsign_any a b w)
 by_cases hk:k = k'
 ·subst hk
  by_cases h3:k = 3
  ·have HE:=Hd (show cmpV k n t k n' t' = sgnV (Op.bytesLess t.toList t'.toList) (gtS t t') by unfold cmpV;rw [if_pos rfl,if_pos h3])
   subst h3
   go_enter Tryz.func74,Tryz.ntmps74
   go_wp2_with fail
   refine (HS.out _ _ _).mono ?_
   rintro e w2 ⟨rfl,rfl⟩
   go_wp2_with fail
   go_ret
   exact ⟨by rw [HE.out];rfl,grow2 _ _⟩
  ·have HE:=Hd (show cmpV k n t k n' t' = sgnV (decide (n < n')) (decide (n' < n)) by unfold cmpV;rw [if_pos rfl,if_neg h3])
   go_enter Tryz.func74,Tryz.ntmps74
   go_wp2_with fail
   refine (HS.out _ _ _).mono ?_
   rintro e w2 ⟨rfl,rfl⟩
   go_wp2_with fail
   go_ret
   exact ⟨by rw [HE.out];rfl,grow2 _ _⟩
 ·have HE:=Hd (show cmpV k n t k' n' t' = sgnV (decide (k < k')) true by unfold cmpV;rw [if_neg hk])
  go_enter Tryz.func74,Tryz.ntmps74
  go_wp2_with fail
  refine (HS.out _ _ _).mono ?_
  rintro e w2 ⟨rfl,rfl⟩
  go_wp2_with fail
  go_ret
  exact ⟨by rw [HE.out];rfl,grow2 _ _⟩
def boolV (b:Bool):Value:=.agg #[.int .i64 1,.int .i64 (if b then 1 else 0),.string ⟨#[]⟩]
def nullV:Value:=.agg #[.int .i64 0,.int .i64 0,.string ⟨#[]⟩]
theorem size_val:(Tryz.prog.info? 48).map (·.size) = some 3:=by kernel_rfl
theorem results_val {fn:Func} {p:Tmp} (h:fn.results = #[.cell p 48]) (tmps:Array Value) (w:World) (g:Nat) (k n t:Value) (hp:tmps.getD p undef = .pointer (some ⟨g,0,none⟩)) (hg:Row w g 48 [k,n,t]) :
 (results fn tmps).run Tryz.prog w = .ok (.agg #[k,n,t]) w:=
 results_cell_row h tmps w g 48 #[k,n,t] (0,0) _ hp hg Tryz.underlying48 rfl size_val
theorem valRow (w:World) (k n t:Value):Row (w.alloc (.cells #[k,n,t] 48)) w.heap.size 48 [k,n,t]:=Row.new w 48 #[k,n,t] [k,n,t] rfl
theorem valSet_row {w:World} {g:Nat} {e:TypeId} {xs:List Value} (h:Row w g e xs) (ys:List Value):Row (w.setRow g ys.toArray) g e ys:=by
 unfold Row at h ⊢
 simp [World.setRow,Array.getElem?_modify,h]
theorem valSet_below {B g:Nat} {a w:World} (h:Below B a w) (hg:B ≤ g) (cs:Array Value):Below B a (w.setRow g cs):=
 ⟨h.os,h.tape,h.output,by simpa [World.setRow] using h.size,fun k hk => by
  have e:(w.setRow g cs).heap[k]? = w.heap[k]?:=by simp only [World.setRow];rw [Array.getElem?_modify,if_neg (by omega)]
  exact e.trans (h.block k hk)⟩
theorem wpList_store_val {w:World} {ops:Array Oper} {rest:List Oper} {o:Oper} {a:Act} {Q:Exit → Act → World → Prop} (hgd:o.guard = none) (x y:Operand) (ho:o.op = .store 48 x y)
 (g:Nat) (hx:a.eval x = .pointer (some ⟨g,0,none⟩)) (k n:Int) (t:ByteArray) (hy:a.eval y = .agg #[.int .i64 k,.int .i64 n,.string t]) {z1 z2 z3:Value} (hg:Row w g 48 [z1,z2,z3])
 (h:wpList Tryz.prog ops Q rest (a.put o.dst undef) (w.setRow g #[.int .i64 k,.int .i64 n,.string t])):wpList Tryz.prog ops Q (o :: rest) a w:=
 wpList_store_row hgd 48 x y ho g #[.int .i64 k,.int .i64 n,.string t] hx hy 48 #[z1,z2,z3] hg size_val rfl (by simp [Value.oneCell']) h
theorem rboolean_any (b:Bool) (w:World):Calls Tryz.prog 72 #[.bool b] w fun e w' => e = .returned (boolV b) ∧ Grows w w':=by
 cases b <;>
 ·go_enter Tryz.func72,Tryz.ntmps72
  go_wp2_with fail
  exact bodyPost_ret (results_val rfl _ _ _ _ _ _ rfl (valRow w _ _ _)) rfl ⟨rfl,grow1 _⟩
def holdsV (op c:Int):Bool:=
 if op = 1 then c == 0 else if op = 2 then c != 0 else if op = 3 then decide (c < 0) else if op = 4 then decide (c ≤ 0) else if op = 5 then decide (0 < c) else if op = 6 then decide (0 ≤ c) else false
theorem rholds_any (op c:Int) (w:World):Calls Tryz.prog 73 #[.int .i64 op,.int .i64 c] w fun e w' => e = .returned (.bool (holdsV op c)) ∧ w = w':=by
 by_cases h1:op = 1
 ·subst h1
  go_enter Tryz.func73,Tryz.ntmps73
  go_wp2_with fail
  all_goals (go_ret;exact ⟨retB (by simp [holdsV]),rfl⟩)
 by_cases h2:op = 2
 ·subst h2
  clear h1
  go_enter Tryz.func73,Tryz.ntmps73
  go_wp2_with fail
  all_goals (go_ret;exact ⟨retB (by simp [holdsV]),rfl⟩)
 by_cases h3:op = 3
 ·subst h3
  clear h1 h2
  go_enter Tryz.func73,Tryz.ntmps73
  go_wp2_with fail
  all_goals (go_ret;exact ⟨retB (by simp [holdsV]),rfl⟩)
 by_cases h4:op = 4
 ·subst h4
  clear h1 h2 h3
  go_enter Tryz.func73,Tryz.ntmps73
  go_wp2_with fail
  all_goals (go_ret;exact ⟨retB (by simp [holdsV]),rfl⟩)
 by_cases h5:op = 5
 ·subst h5
  clear h1 h2 h3 h4
  go_enter Tryz.func73,Tryz.ntmps73
  go_wp2_with fail
  all_goals (go_ret;exact ⟨retB (by simp [holdsV]),rfl⟩)
 by_cases h6:op = 6
 ·subst h6
  clear h1 h2 h3 h4 h5
  go_enter Tryz.func73,Tryz.ntmps73
  go_wp2_with fail
  all_goals (go_ret;exact ⟨retB (by simp [holdsV]),rfl⟩)
 ·have HE:=Hd (show holdsV op c = false by unfold holdsV;rw [if_neg h1,if_neg h2,if_neg h3,if_neg h4,if_neg h5,if_neg h6])
  go_enter Tryz.func73,Tryz.ntmps73
  go_wp2_with fail
  all_goals (go_ret;exact ⟨retB (by rw [HE.out]),rfl⟩)
def testV (op k n:Int) (t:ByteArray) (k' n':Int) (t':ByteArray):Value:=
 if k = 0 ∨ k ≠ k' ∨ op < 1 ∨ 6 < op then nullV else boolV (holdsV op (cmpV k n t k' n' t'))
theorem grow3 {w:World} (o o' o2:Obj):Grows w (((w.alloc o).alloc o').alloc o2):=(((Below.refl _ _).alloc (Nat.le_refl _) _).alloc (by simp) _).alloc (by simp;omega) _
theorem valRow3 (w w2:World) (o o':Obj) (k n t:Value) (g:Grows (((w.alloc o).alloc o').alloc (.cells #[k,n,t] 48)) w2):Row w2 (w.heap.size + 2) 48 [k,n,t]:=
 (Row.at_ ((w.alloc o).alloc o') 48 #[k,n,t] [k,n,t] rfl (w.heap.size + 2) (by simp)).grow g
theorem rtest_any (op k n k' n':Int) (t t':ByteArray) (w:World):Calls Tryz.prog 46 #[.int .i64 op,.agg #[.int .i64 k,.int .i64 n,.string t],.agg #[.int .i64 k',.int .i64 n',.string t']] w fun e w' => e = .returned (testV op k n t k' n' t') ∧ Grows w w':=by
 by_cases h:k = 0 ∨ k ≠ k' ∨ op < 1 ∨ 6 < op
 ·have HE:=Hd (show testV op k n t k' n' t' = nullV from if_pos h)
  by_cases h1:k = 0
  ·subst h1
   clear h
   go_enter Tryz.func46,Tryz.ntmps46
   go_wp2_with fail
   exact bodyPost_ret (results_val rfl _ _ _ _ _ _ rfl (valRow3 w _ _ _ _ _ _ (Below.refl _ _))) rfl ⟨by rw [HE.out];rfl,grow3 _ _ _⟩
  ·by_cases h2:k = k'
   ·subst h2
    by_cases h3:op < 1
    ·clear h
     go_enter Tryz.func46,Tryz.ntmps46
     go_wp2_with fail
     exact bodyPost_ret (results_val rfl _ _ _ _ _ _ rfl (valRow3 w _ _ _ _ _ _ (Below.refl _ _))) rfl ⟨by rw [HE.out];rfl,grow3 _ _ _⟩
    ·have h4:6 < op:=by omega
     clear h
     go_enter Tryz.func46,Tryz.ntmps46
     go_wp2_with fail
     exact bodyPost_ret (results_val rfl _ _ _ _ _ _ rfl (valRow3 w _ _ _ _ _ _ (Below.refl _ _))) rfl ⟨by rw [HE.out];rfl,grow3 _ _ _⟩
   ·clear h
    go_enter Tryz.func46,Tryz.ntmps46
    go_wp2_with fail
    exact bodyPost_ret (results_val rfl _ _ _ _ _ _ rfl (valRow3 w _ _ _ _ _ _ (Below.refl _ _))) rfl ⟨by rw [HE.out];rfl,grow3 _ _ _⟩
 ·have HE:=Hd (show testV op k n t k' n' t' = boolV (holdsV op (cmpV k n t k' n' t')) from if_neg h)
  have h1:¬ k = 0:=fun e => h (.inl e)
  have h2:k = k':=by rcases Int.decEq k k' with e | e;exact absurd (.inr (.inl e)) h;exact e
  have h3:¬ op < 1:=fun e => h (.inr (.inr (.inl e)))
  have h4:¬ 6 < op:=fun e => h (.inr (.inr (.inr e)))
  subst h2
  have HC:=Hd (fun w => rcompare_any k n k n' t t' w)
  generalize cmpV k n t k n' t' = c at *
  have HH:=Hd (fun w => rholds_any op c w)
  have HB:=Hd (fun w => rboolean_any (holdsV op c) w)
  generalize holdsV op c = b at *
  unfold boolV at HB HE
  generalize (if b = true then (1:Int) else 0) = x at *
  clear h
  go_enter Tryz.func46,Tryz.ntmps46
  go_wp2_with fail
  refine (HC.out _).mono ?_
  rintro e w2 ⟨rfl,g2⟩
  go_wp2_with fail
  refine (HH.out _).mono ?_
  rintro e w3 ⟨rfl,rfl⟩
  go_wp2_with fail
  refine (HB.out _).mono ?_
  rintro e w4 ⟨rfl,g4⟩
  have HR:=Hd (valRow3 w w4 _ _ _ _ _ (g2.of_below g4))
  have HG:=Hd (((grow3 _ _ _).of_below g2).of_below g4)
  clear g2 g4
  go_wp2_with (refine wpList_store_val rfl _ _ rfl (w.heap.size + 2) rfl _ _ _ rfl HR.out ?_)
  exact bodyPost_ret (results_val rfl _ _ _ _ _ _ rfl (valSet_row HR.out [.int .i64 1,.int .i64 x,.string ⟨#[]⟩])) rfl ⟨by rw [HE.out],valSet_below HG.out (by omega) _⟩
end Go.Proofs.YthmipnokimlbdaaGreat
