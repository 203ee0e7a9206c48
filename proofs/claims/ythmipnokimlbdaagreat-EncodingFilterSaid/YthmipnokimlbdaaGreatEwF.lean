/-
  Shaken: what the claims of this seat need of this text. No condition.
-/
import Derived.Test.YthmipnokimlbdaaGreatEr8
import Derived.Test.YthmipnokimlbdaaGreatM25
set_option linter.unusedVariables false
set_option linter.unusedSimpArgs false
namespace Go.Proofs.YthmipnokimlbdaaGreat
open Go.RowKit
set_option maxRecDepth 20000 in
set_option maxHeartbeats 8000000 in
theorem law_filter12 (A:Option Addr) (c:Nat) (b:List UInt8) (T n col op k' n':Int) (t':ByteArray) (w:World) (hb:IsBytes w (.slice A b.length c) b) (hlc:b.length ≤ c) :
 Calls Tryz.prog 5 #[.slice A b.length c,.int .i64 T,.int .i64 n,.agg #[.int .i64 col,.int .i64 op,.int .i64 k',.int .i64 n',.string t']] w fun e w' => e = .returned (.bool true) ∧ Below w.heap.size w w':=by
 have HLV:=Hd (fun W => lives_any W)
 have HG0:=Hd (growB w (.cells #[.int .i64 col,.int .i64 op,.int .i64 k',.int .i64 n',.string t'] 50))
 have HP0:=Hd (Row.new w 50 #[.int .i64 col,.int .i64 op,.int .i64 k',.int .i64 n',.string t'] [.int .i64 col,.int .i64 op,.int .i64 k',.int .i64 n',.string t'] rfl)
 have HPV:=Hd (fun W => rvvalid_any k' n' t' W)
 by_cases h1:1000 < b.length
 ·have d1:decide ((1000:Int) < (b.length:Int)) = true:=by simp;omega
  clear hb h1
  go_enter Tryz.func5,Tryz.ntmps5
  go_wp2_with (go_at_call 10;refine (HLV.out _).mono ?_;rintro e w2 ⟨rfl,g2⟩;have HG2:=Hd (HG0.out.of_below g2);clear g2)
  go_ret
  exact ⟨rfl,HG2.out⟩
 have d1:decide ((1000:Int) < (b.length:Int)) = false:=by simp;omega
 by_cases h3:300 < n ∧ n ≤ 65536
 ·have d2:decide (300 < n) = true:=by simp;omega
  have d3:decide (n ≤ 65536) = true:=by simp;omega
  clear hb h1 h3
  go_enter Tryz.func5,Tryz.ntmps5
  go_wp2_with (go_at_call 10;refine (HLV.out _).mono ?_;rintro e w2 ⟨rfl,g2⟩;have HG2:=Hd (HG0.out.of_below g2);clear g2)
  go_ret
  exact ⟨rfl,HG2.out⟩
 have hcs:(decide (300 < n) = false) ∨ (decide (300 < n) = true ∧ decide (n ≤ 65536) = false):=by
  by_cases h4:300 < n
  ·exact .inr ⟨by simpa using h4,by simp;omega⟩
  ·exact .inl (by simpa using h4)
 obtain ⟨vb,hvb⟩:∃ b,validV k' n' t' = b:=⟨_,rfl⟩
 rw [hvb] at HPV
 cases vb
 ·clear hb h1 h3 hvb
  rcases hcs with d2 | ⟨d2,d3⟩
  all_goals
   go_enter Tryz.func5,Tryz.ntmps5
   go_wp2_with (first | (go_at_call 21;refine (HPV.out _).mono ?_;rintro e w1 ⟨rfl,g1⟩;have HG1:=Hd (HG0.out.of_below g1);clear g1) | (go_at_call 10;refine (HLV.out _).mono ?_;rintro e w2 ⟨rfl,g2⟩;have HG2:=Hd (HG1.out.of_below g2);clear g2))
   go_ret
   exact ⟨rfl,HG2.out⟩
 have HFE:=Hd (fun W (h:Grows w W) => eFilter_any A c b T n col op (k',n',t') W (hb.grow h) hlc (by omega))
 have HFR:=Hd (fun W (h:Grows w W) => rFilter12_any A c b T n col op (k',n',t') W (hb.grow h) hlc (by omega) hvb)
 simp only [prV] at HFE HFR
 obtain ⟨m,ws,f,hD⟩:∃ m ws f,filtF b T n op (k',n',t') = ((m,ws),f):=⟨_,_,_,rfl⟩
 rw [hD] at HFE HFR
 clear hb h1 h3 hD hvb
 rcases hcs with d2 | ⟨d2,d3⟩
 all_goals
  go_enter Tryz.func5,Tryz.ntmps5
  go_wp2_with ((go_at_call 21;refine (HPV.out _).mono ?_;rintro e w1 ⟨rfl,g1⟩;have HG1:=Hd (HG0.out.of_below g1);have HP1:=Hd (HP0.out.grow g1);have p0:=HP1.out.cell 0;have p1:=HP1.out.cell 1;have p2:=HP1.out.cell 2;have p3:=HP1.out.cell 3;have p4:=HP1.out.cell 4;simp only [List.getElem?_cons_succ,List.getElem?_cons_zero] at p0 p1 p2 p3 p4;clear g1))
  refine (HFE.out _ HG1.out).mono ?_
  rintro e w2 ⟨x,rfl,⟨v2,hx2,hr2,hl2⟩,g2⟩
  subst hx2
  obtain ⟨A2,c2,rfl,_⟩:=id hr2
  rw [ucells_length] at *
  have HR2:=Hd hr2
  have HL2:=Hd hl2
  have HG2:=Hd (HG1.out.of_below g2)
  have HP2:=Hd (HP1.out.grow g2)
  clear hr2 hl2 g2 p0 p1 p2 p3 p4
  go_wp2_with (refine wpList_store_bs rfl _ _ rfl w2 rfl rfl m A2 ws.length c2 rfl ?_;intro w3 hr3 hg3;have HG3:=Hd (HG2.out.of_below hg3);have HS3:=Hd hr3;have HR3:=Hd (HR2.out.grow hg3);have HP3:=Hd (HP2.out.grow hg3);have p0:=HP3.out.cell 0;have p1:=HP3.out.cell 1;have p2:=HP3.out.cell 2;have p3:=HP3.out.cell 3;have p4:=HP3.out.cell 4;simp only [List.getElem?_cons_succ,List.getElem?_cons_zero] at p0 p1 p2 p3 p4;clear hr3 hg3)
  refine (HFR.out _ HG3.out).mono ?_
  rintro e w4 ⟨y,rfl,⟨v4,hx4,hr4,hl4⟩,g4⟩
  subst hx4
  obtain ⟨A4,c4,rfl,_⟩:=id hr4
  rw [ucells_length] at *
  have HR4:=Hd hr4
  have HG4:=Hd (HG3.out.of_below g4)
  have HS4:=Hd (HS3.out.grow g4)
  have HR34:=Hd (HR3.out.grow g4)
  clear hr4 hl4 g4 p0 p1 p2 p3 p4
  go_wp2_with (first
   | (refine wpList_store_bs rfl _ _ rfl w4 rfl rfl m A4 ws.length c4 rfl ?_;intro w5 hr5 hg5;have HG5:=Hd (HG4.out.of_below hg5);have HX5:Hid (w5.heap[w2.heap.size]? = some (.cells #[.int .i64 m,.slice A2 ws.length c2] 54 (0,0))):=Hd (HS4.out.grow hg5);have HY5:Hid (w5.heap[w4.heap.size]? = some (.cells #[.int .i64 m,.slice A4 ws.length c4] 54 (0,0))):=Hd hr5;have HEQ:=Hd (rbsequal_any (.agg #[.int .i64 m,.slice A2 ws.length c2]) (.agg #[.int .i64 m,.slice A4 ws.length c4]) m m ws ws w5 ⟨_,rfl,HR34.out.grow hg5,HL2.out⟩ ⟨_,rfl,HR4.out.grow hg5,HL2.out⟩);rw [pairEq_t ⟨rfl,rfl⟩] at HEQ;clear hr5 hg5)
   | (refine wpList_load_row rfl _ _ rfl w2.heap.size rfl _ _ _ _ HX5.out Tryz.underlying54 rfl size_set ?_)
   | (refine wpList_load_row rfl _ _ rfl w4.heap.size rfl _ _ _ _ HY5.out Tryz.underlying54 rfl size_set ?_)
   | (go_at_call 24;refine HEQ.out.mono ?_;rintro e w6 ⟨rfl,g6⟩;have HG6:=Hd (HG5.out.of_below g6);clear g6)
   | (go_at_call 10;refine (HLV.out _).mono ?_;rintro e w7 ⟨rfl,g7⟩;have HG7:=Hd (HG6.out.of_below g7);clear g7))
  go_ret
  exact ⟨rfl,HG7.out⟩
end Go.Proofs.YthmipnokimlbdaaGreat
