/-
  Shaken: what the claims of this seat need of this text. No condition.
-/
import Derived.Test.YthmipnokimlbdaaGreatM21
import Derived.Test.YthmipnokimlbdaaGreatM25
set_option linter.unusedVariables false
set_option linter.unusedSimpArgs false
namespace Go.Proofs.YthmipnokimlbdaaGreat
open Go.RowKit
theorem decF_zero {b:List UInt8} {T n:Int} (h:(decF b T n).2.2 ≠ 0):(decF b T n).1 = zeroV:=by
 unfold decF at h ⊢
 split
 ·rfl
 ·split
  ·rfl
  ·split
   ·rfl
   ·rename_i h1 h2 h3
    rw [if_neg h1,if_neg h2,if_neg h3] at h
    unfold endV at h ⊢
    split
    ·rfl
    ·split
     ·rfl
     ·rename_i h4 h5
      rw [if_neg h4,if_neg h5] at h
      exact absurd h h4
theorem decF_len {b:List UInt8} {T n:Int}:(decF b T n).1.is.length ≤ 1000000 ∧ (decF b T n).1.ts.length ≤ 1000000 ∧ (decF b T n).1.ns.length ≤ 1000000:=by
 by_cases h:(decF b T n).2.2 = 0
 ·obtain ⟨v,N,q,_,hd,hT,hN,he,_⟩:=decF_ok h
  rw [hd]
  have h6:=he.len
  refine ⟨?_,?_,by show v.ns.length ≤ _;omega⟩
  ·by_cases h3:v.T = 3
   ·show v.is.length ≤ _;rw [(he.lt h3).2];simp
   ·show v.is.length ≤ _;rw [(he.li h3).1];omega
  ·by_cases h3:v.T = 3
   ·show v.ts.length ≤ _;rw [(he.lt h3).1];omega
   ·show v.ts.length ≤ _;rw [(he.li h3).2];simp
 ·rw [decF_zero h]
  exact ⟨by decide,by decide,by decide⟩
set_option maxRecDepth 20000 in
set_option maxHeartbeats 8000000 in
theorem law_decode12 (A:Option Addr) (c:Nat) (b:List UInt8) (T n:Int) (w:World) (hb:IsBytes w (.slice A b.length c) b) (hlc:b.length ≤ c) (hn:(Lit.int .i64 n).wf = true) :
 Calls Tryz.prog 4 #[.slice A b.length c,.int .i64 T,.int .i64 n] w fun e w' => e = .returned (.bool true) ∧ Below w.heap.size w w':=by
 have HLV:=Hd (fun W => lives_any W)
 have HG0:=Hd (show Grows w w from Below.refl _ _)
 by_cases h1:1000 < b.length
 ·have d1:decide ((1000:Int) < (b.length:Int)) = true:=by simp;omega
  clear hb h1
  go_enter Tryz.func4,Tryz.ntmps4
  go_wp2_with (go_at_call 10;refine (HLV.out _).mono ?_;rintro e w2 ⟨rfl,g2⟩;have HG2:=Hd (HG0.out.of_below g2);clear g2)
  go_ret
  exact ⟨rfl,HG2.out⟩
 have d1:decide ((1000:Int) < (b.length:Int)) = false:=by simp;omega
 by_cases h3:300 < n ∧ n ≤ 65536
 ·have d2:decide (300 < n) = true:=by simp;omega
  have d3:decide (n ≤ 65536) = true:=by simp;omega
  clear hb h1 h3
  go_enter Tryz.func4,Tryz.ntmps4
  go_wp2_with (go_at_call 10;refine (HLV.out _).mono ?_;rintro e w2 ⟨rfl,g2⟩;have HG2:=Hd (HG0.out.of_below g2);clear g2)
  go_ret
  exact ⟨rfl,HG2.out⟩
 have HDE:=Hd (fun W (h:Grows w W) => eDecode_any A c b T n W (hb.grow h) hlc (by omega))
 have HDR:=Hd (fun W (h:Grows w W) => rDecode12_any A c b T n W (hb.grow h) hlc (by omega))
 obtain ⟨v,q,f,hD⟩:∃ v q f,decF b T n = (v,q,f):=⟨_,_,_,rfl⟩
 have HLE:=decF_len (b:=b) (T:=T) (n:=n)
 rw [hD] at HLE HDE HDR
 have HEQ:=Hd (fun x y W hx hy => requalV_same x y v W hx hy HLE.1 HLE.2.1 HLE.2.2)
 have hcs:(decide (300 < n) = false) ∨ (decide (300 < n) = true ∧ decide (n ≤ 65536) = false):=by
  by_cases h4:300 < n
  ·exact .inr ⟨by simpa using h4,by simp;omega⟩
  ·exact .inl (by simpa using h4)
 clear hb h1 h3 hD HLE
 rcases hcs with d2 | ⟨d2,d3⟩
 all_goals
  go_enter Tryz.func4,Tryz.ntmps4
  go_wp2_with fail
  refine (HDE.out _ HG0.out).mono ?_
  rintro e w2 ⟨x,rfl,hx2,g2⟩
  have HX2:=Hd hx2
  obtain ⟨x1,x2,x3,rfl,j1,j2,j3⟩:=hx2
  obtain ⟨A1,c1,rfl⟩:=j1.slice_
  obtain ⟨A2,c2,rfl⟩:=j2.slice_
  obtain ⟨A3,c3,rfl⟩:=j3.slice_
  have HG2:=Hd (HG0.out.of_below g2)
  obtain ⟨T1,hT1⟩:∃ t,v.T = t:=⟨_,rfl⟩
  obtain ⟨n1,hn1⟩:∃ t,v.is.length = t:=⟨_,rfl⟩
  obtain ⟨n2,hn2⟩:∃ t,v.ts.length = t:=⟨_,rfl⟩
  obtain ⟨n3,hn3⟩:∃ t,v.ns.length = t:=⟨_,rfl⟩
  rw [hT1,hn1,hn2,hn3] at HX2 ⊢
  have HNN:=Hd (And.intro hT1 (And.intro hn1 (And.intro hn2 hn3)))
  clear j1 j2 j3 g2 hT1 hn1 hn2 hn3
  go_wp2_with (refine wpList_store_vec rfl _ _ rfl w2 rfl rfl T1 A1 A2 A3 n1 c1 n2 c2 n3 c3 rfl ?_;intro w3 hr3 hg3;have HG3:=Hd (HG2.out.of_below hg3);have HR3:=Hd hr3;have HX3:=Hd (HX2.out.grow hg3);clear hr3 hg3)
  refine (HDR.out _ HG3.out).mono ?_
  rintro e w4 ⟨y,rfl,hy4,g4⟩
  have HY4:=Hd hy4
  obtain ⟨y1,y2,y3,rfl,j1,j2,j3⟩:=hy4
  obtain ⟨B1,d1',rfl⟩:=j1.slice_
  obtain ⟨B2,d2',rfl⟩:=j2.slice_
  obtain ⟨B3,d3',rfl⟩:=j3.slice_
  have HG4:=Hd (HG3.out.of_below g4)
  have HR4:=Hd (HR3.out.grow g4)
  have HX4:=Hd (HX3.out.grow g4)
  obtain ⟨hT1,hn1,hn2,hn3⟩:=HNN.out
  rw [hT1,hn1,hn2,hn3] at HY4 ⊢
  clear j1 j2 j3 g4 hT1 hn1 hn2 hn3
  go_wp2_with (first
   | (refine wpList_store_vec rfl _ _ rfl w4 rfl rfl T1 B1 B2 B3 n1 d1' n2 d2' n3 d3' rfl ?_;intro w5 hr5 hg5;have HG5:=Hd (HG4.out.of_below hg5);have HRX:Hid (w5.heap[w2.heap.size]? = some (.cells #[.int .i64 T1,.slice A1 n1 c1,.slice A2 n2 c2,.slice A3 n3 c3] 26 (0,0))):=Hd (HR4.out.grow hg5);have HRY:Hid (w5.heap[w4.heap.size]? = some (.cells #[.int .i64 T1,.slice B1 n1 d1',.slice B2 n2 d2',.slice B3 n3 d3'] 26 (0,0))):=Hd hr5;have HX5:=Hd (HX4.out.grow hg5);have HY5:=Hd (HY4.out.grow hg5);clear hr5 hg5)
   | (refine wpList_load_row rfl _ _ rfl w2.heap.size rfl _ _ _ _ HRX.out Tryz.underlying26 rfl sizeVec ?_)
   | (refine wpList_load_row rfl _ _ rfl w4.heap.size rfl _ _ _ _ HRY.out Tryz.underlying26 rfl sizeVec ?_)
   | (go_at_call 20;refine (HEQ.out _ _ _ HX5.out HY5.out).mono ?_;rintro e w6 ⟨rfl,g6⟩;have HG6:=Hd (HG5.out.of_below g6);clear g6)
   | (go_at_call 10;refine (HLV.out _).mono ?_;rintro e w7 ⟨rfl,g7⟩;have HG7:=Hd (HG6.out.of_below g7);clear g7))
  go_ret
  exact ⟨rfl,HG7.out⟩
end Go.Proofs.YthmipnokimlbdaaGreat
