/-
  Texts that the claims of this seat share, put together (Bp1, Bp2, Zig). No condition.
-/
import Derived.Test.YthmipnokimlbdaaGreatProg
import Derived.Test.YthmipnokimlbdaaGreatM1
import Derived.OwnWalk
import Derived.WalkKit
set_option linter.unusedVariables false
set_option linter.unusedSimpArgs false
namespace Go.Proofs.YthmipnokimlbdaaGreat
set_option maxRecDepth 8000
open Go.RowKit
def okB (n w:Int):Bool:=decide (0 ≤ n) && decide (n ≤ 1048576) && decide (0 ≤ w) && decide (w ≤ 64)
theorem rok_any (n m:Int) (w:World):Calls Tryz.prog 177 #[.int .i64 n,.int .i64 m] w fun e w' => e = .returned (.bool (okB n m)) ∧ w = w':=by
 by_cases h1:0 ≤ n
 ·by_cases h2:n ≤ 1048576
  ·by_cases h3:0 ≤ m
   ·by_cases h4:m ≤ 64
    ·go_enter Tryz.func177,Tryz.ntmps177
     go_wp2
     go_ret
     exact ⟨retB (by simp [okB,h1,h2,h3,h4]),rfl⟩
    ·have hd:decide (m ≤ 64) = false:=by simpa using h4
     go_enter Tryz.func177,Tryz.ntmps177
     go_wp2
     go_ret
     exact ⟨retB (by simp [okB,h1,h2,h3,h4]),rfl⟩
   ·have hd:decide (0 ≤ m) = false:=by simpa using h3
    go_enter Tryz.func177,Tryz.ntmps177
    go_wp2
    go_ret
    exact ⟨retB (by unfold okB;rw [hd];simp),rfl⟩
  ·have hd:decide (n ≤ 1048576) = false:=by simpa using h2
   go_enter Tryz.func177,Tryz.ntmps177
   go_wp2
   go_ret
   exact ⟨retB (by unfold okB;rw [hd];simp),rfl⟩
 ·have hd:decide (0 ≤ n) = false:=by simpa using h1
  go_enter Tryz.func177,Tryz.ntmps177
  go_wp2
  go_ret
  exact ⟨retB (by unfold okB;rw [hd];simp),rfl⟩
theorem okB_true {n m:Int} (h:okB n m = true):(0 ≤ n ∧ n ≤ 1048576) ∧ 0 ≤ m ∧ m ≤ 64:=by
 unfold okB at h
 simp at h
 omega
def sizeI (n m:Int):Int:=if okB n m then ((szB n.toNat m.toNat:Nat):Int) else 0
theorem rsize_any (n m:Int) (w:World):Calls Tryz.prog 123 #[.int .i64 n,.int .i64 m] w fun e w' => e = .returned (.int .i64 (sizeI n m)) ∧ w = w':=by
 have HO:=Hd (fun w => rok_any n m w)
 cases hok:okB n m
 ·have HE:=Hd (show sizeI n m = 0 by unfold sizeI;rw [hok];rfl)
  rw [hok] at HO
  clear hok
  go_enter Tryz.func123,Tryz.ntmps123
  go_wp2_with ((go_at_call 177;refine (HO.out _).mono ?_;rintro e w2 ⟨rfl,rfl⟩))
  go_ret
  exact ⟨retU HE.out.symm,rfl⟩
 ·obtain ⟨⟨a1,a2⟩,a3,a4⟩:=okB_true hok
  have HE0:=Hd (show sizeI n m = ((szB n.toNat m.toNat:Nat):Int) by unfold sizeI;rw [hok];rfl)
  rw [hok] at HO
  clear hok
  obtain ⟨N,rfl⟩:=Int.eq_ofNat_of_zero_le a1
  obtain ⟨M,rfl⟩:=Int.eq_ofNat_of_zero_le a3
  rw [Int.toNat_natCast,Int.toNat_natCast] at HE0
  have hb:N * M ≤ 1048576 * 64:=Nat.mul_le_mul (by omega) (by omega)
  have hc:((N * M:Nat):Int) = (N:Int) * (M:Int):=Int.natCast_mul N M
  have h0:0 ≤ (N:Int) * (M:Int):=by omega
  have h9:(N:Int) * (M:Int) ≤ 67108864:=by omega
  have HE:=Hd (show sizeI (N:Int) (M:Int) = ((N:Int) * (M:Int) + 7) / 8 by rw [HE0.out];unfold szB;omega)
  clear hc HE0
  go_enter Tryz.func123,Tryz.ntmps123
  go_wp2_with ((go_at_call 177;refine (HO.out _).mono ?_;rintro e w2 ⟨rfl,rfl⟩))
  go_ret
  exact ⟨retU (by rw [HE.out]),rfl⟩
def bitI (b:List UInt8) (i:Nat):Int:=if bbit b i then 1 else 0
theorem byte_at {w:World} {A:Option Addr} {c:Nat} {l:List UInt8} (h:IsBytes w (.slice A l.length c) l) {o:Nat} (ho:o < l.length):∃ b f,A = some ⟨b,f,none⟩ ∧ w.cell? ⟨b,f + o,none⟩ = some (.int .u8 ((l.getD o 0).toNat:Int)):=by
 obtain ⟨A',c',he,hc⟩:=h
 injection he with e1 e2 e3
 subst e1
 obtain ⟨b,f,rfl,hcell⟩:=hc (by omega)
 refine ⟨b,f,rfl,?_⟩
 rw [hcell o ho,List.getD_eq_getElem?_getD,List.getElem?_eq_getElem ho]
 rfl
set_option maxHeartbeats 1000000 in
theorem rbit_any (A:Option Addr) (c:Nat) (b:List UInt8) (i:Nat) (w:World) (hb:IsBytes w (.slice A b.length c) b) (hi:i < 8 * b.length) (hl:b.length ≤ 1152921504606846975) :
 Calls Tryz.prog 185 #[.slice A b.length c,.int .i64 (i:Int)] w fun e w' => e = .returned (.int .u64 (bitI b i)) ∧ w = w':=by
 obtain ⟨bk,f,rfl,hc⟩:=byte_at hb (o:=i / 8) (by omega)
 have HX:=Hd (show (b.getD (i / 8) 0).toNat < 256 from UInt8.toNat_lt _)
 have HE:=Hd (show bitI b i = (((b.getD (i / 8) 0).toNat / 2 ^ (i % 8) % 2:Nat):Int) by
  unfold bitI bbit
  rw [Nat.testBit_eq_decide_div_mod_eq]
  by_cases h:(b.getD (i / 8) 0).toNat / 2 ^ (i % 8) % 2 = 1
  ·rw [h];simp
  ·have h2:(b.getD (i / 8) 0).toNat / 2 ^ (i % 8) % 2 = 0:=by omega
   rw [h2];simp)
 have hr8:i % 8 < 8:=Nat.mod_lt _ (by decide)
 generalize (b.getD (i / 8) 0).toNat = x at *
 have hj1:(i:Int) / 8 < (b.length:Int):=by omega
 have hj0:(0:Int) ≤ (i:Int) / 8:=by omega
 go_enter Tryz.func185,Tryz.ntmps185
 go_wp2_with fail
 go_ret
 refine ⟨retU ?_,rfl⟩
 have hlt:x / 2 ^ (i % 8) < 256:=Nat.lt_of_le_of_lt (Nat.div_le_self _ _) HX.out
 have hv:(x:Int) / 2 ^ (i % 8) = ((x / 2 ^ (i % 8):Nat):Int):=by simp
 rw [HE.out,hv]
 generalize x / 2 ^ (i % 8) = y at *
 have hw:IntKind.u64.wrap (y:Int) = (y:Int):=by rw [IntKind.wrap_u64];omega
 rw [hw,and1_u64 _ (by omega) (by omega)]
 omega
theorem or_bitP {f:Nat → Bool} {j:Nat} (hj:j < 64):bits .or .u64 ((natOf f j:Nat):Int) (IntKind.u64.wrap ((if f j then (1:Int) else 0) * 2 ^ j)) = ((natOf f (j + 1):Nat):Int):=by
 have h1:natOf f j < 2 ^ 64:=Nat.lt_of_lt_of_le (natOf_lt f j) (Nat.pow_le_pow_right (by decide) (by omega))
 have h2:(2:Nat) ^ j < 2 ^ 64:=Nat.pow_lt_pow_right (by decide) hj
 have e1:IntKind.u64.wrap ((if f j then (1:Int) else 0) * 2 ^ j) = (((if f j then 2 ^ j else 0:Nat)):Int):=by
  by_cases hf:f j = true
  ·rw [if_pos hf,if_pos hf,Int.one_mul,IntKind.wrap_u64]
   have e:((2:Int) ^ j) = (((2 ^ j:Nat)):Int):=by simp
   rw [e]
   have e64:(2:Nat) ^ 64 = 18446744073709551616:=by decide
   rw [e64] at h2
   generalize (2:Nat) ^ j = q at *
   omega
  ·rw [if_neg hf,if_neg hf,Int.zero_mul]
   rfl
 rw [e1,← or_natOf f j]
 have h3:(if f j then 2 ^ j else 0) < 2 ^ 64:=by split <;> omega
 have e64:(2:Nat) ^ 64 = 18446744073709551616:=by decide
 rw [u64_or _ _ (by omega) (by omega) (by omega) (by omega)]
 rfl
def NumRel (w:World) (b:List UInt8) (i m:Nat) (n k:Value) (wr:World):Prop:=∃ j:Nat,j ≤ m ∧ k = .int .i64 (j:Int) ∧ n = .int .u64 ((natOf (fun t => bbit b (i * m + t)) j:Nat):Int) ∧ w = wr
set_option maxHeartbeats 1000000 in
theorem rnumber_any (A:Option Addr) (c:Nat) (b:List UInt8) (i m:Nat) (w:World) (hb:IsBytes w (.slice A b.length c) b) (hi:(i + 1) * m ≤ 8 * b.length) (hm:m ≤ 64) (hl:b.length ≤ 1048576) (hi2:i ≤ 8388608) :
 Calls Tryz.prog 186 #[.slice A b.length c,.int .i64 (i:Int),.int .i64 (m:Int)] w fun e w' => e = .returned (.int .u64 ((numB b m i:Nat):Int)) ∧ w = w':=by
 have HB:=Hd hb
 have him:i * m ≤ 8388608:=by rw [Nat.succ_mul] at hi;omega
 have HIM:=Hd (show i * m + m ≤ 8 * b.length by rw [Nat.succ_mul] at hi;exact hi)
 have hc:(i:Int) * (m:Int) = ((i * m:Nat):Int):=(Int.natCast_mul i m).symm
 have hp0:0 ≤ (i:Int) * (m:Int):=by omega
 have hp1:(i:Int) * (m:Int) ≤ 8388608:=by omega
 have HC:=Hd hc
 have HE:=Hd (show numB b m i = natOf (fun t => bbit b (i * m + t)) m from rfl)
 clear hb hi hc
 go_enter Tryz.func186,Tryz.ntmps186
 go_wp2_with fail
 go_loopw [7,8] (fun n k wr => NumRel w b i m n k wr) (fun _ k _ => m - (intOf k).toNat)
 case atStart => exact ⟨0,Nat.zero_le _,rfl,rfl,rfl⟩
 case round =>
  obtain ⟨j,hj,rfl,rfl,rfl⟩:=hrel
  by_cases hlt:j < m
  ·have hji:(j:Int) < (m:Int):=by omega
   have hjd:decide (j < m) = true:=by simpa using hlt
   have HBT:=Hd (rbit_any A c b (i * m + j) w HB.out (by have:=HIM.out;omega) (by omega))
   have HOR:=Hd (show bits .or .u64 ((natOf (fun t => bbit b (i * m + t)) j:Nat):Int) (IntKind.u64.wrap (bitI b (i * m + j) * 2 ^ j)) = ((natOf (fun t => bbit b (i * m + t)) (j + 1):Nat):Int) from or_bitP (f:=fun t => bbit b (i * m + t)) (j:=j) (by omega))
   have hcast:((i * m + j:Nat):Int) = (i:Int) * (m:Int) + (j:Int):=by rw [HC.out];omega
   rw [hcast] at HBT
   clear hcast
   go_wp2_with ((go_at_call 185;refine HBT.out.mono ?_;rintro e w2 ⟨rfl,rfl⟩))
   rw [HOR.out]
   exact ⟨⟨j + 1,by omega,by go_num,rfl,rfl⟩,by simp [intOf];omega⟩
  ·have hji:¬ ((j:Int) < (m:Int)):=by omega
   have hjd:decide (j < m) = false:=by simpa using hlt
   have HJ:=Hd (show j = m by omega)
   go_wp2_with fail
   go_ret
   exact ⟨retU (by rw [HE.out,HJ.out]),rfl⟩
def atB (b:List UInt8) (i m:Int):Nat:=if (1 ≤ m ∧ m ≤ 64) ∧ 0 ≤ i ∧ i < 8 * (b.length:Int) / m then numB b m.toNat i.toNat else 0
set_option maxHeartbeats 1000000 in
theorem rat_any (A:Option Addr) (c:Nat) (b:List UInt8) (i m:Int) (w:World) (hb:IsBytes w (.slice A b.length c) b) (hl:b.length ≤ 1048576) :
 Calls Tryz.prog 126 #[.slice A b.length c,.int .i64 i,.int .i64 m] w fun e w' => e = .returned (.int .u64 ((atB b i m:Nat):Int)) ∧ w = w':=by
 by_cases h1:m < 1
 ·have HE:=Hd (show atB b i m = 0 by unfold atB;rw [if_neg (by omega)])
  go_enter Tryz.func126,Tryz.ntmps126
  go_wp2_with fail
  go_ret
  exact ⟨retU (by rw [HE.out];rfl),rfl⟩
 have d1:decide (m < 1) = false:=by simpa using h1
 by_cases h2:64 < m
 ·have HE:=Hd (show atB b i m = 0 by unfold atB;rw [if_neg (by omega)])
  have d2:decide (64 < m) = true:=by simpa using h2
  go_enter Tryz.func126,Tryz.ntmps126
  go_wp2_with fail
  go_ret
  exact ⟨retU (by rw [HE.out];rfl),rfl⟩
 have d2:decide (64 < m) = false:=by simpa using h2
 by_cases h3:i < 0
 ·have HE:=Hd (show atB b i m = 0 by unfold atB;rw [if_neg (by omega)])
  have d3:decide (i < 0) = true:=by simpa using h3
  go_enter Tryz.func126,Tryz.ntmps126
  go_wp2_with fail
  go_ret
  exact ⟨retU (by rw [HE.out];rfl),rfl⟩
 have d3:decide (i < 0) = false:=by simpa using h3
 obtain ⟨M,rfl⟩:=Int.eq_ofNat_of_zero_le (show 0 ≤ m by omega)
 obtain ⟨I,rfl⟩:=Int.eq_ofNat_of_zero_le (show 0 ≤ i by omega)
 have hM1:1 ≤ M:=by omega
 have hM:(M:Int) ≠ 0:=by omega
 have hMb:((M:Int) == 0) = false:=by simp;omega
 have hd8:(8 * (b.length:Int)).tdiv (M:Int) = ((8 * b.length / M:Nat):Int):=by
  have:(8 * (b.length:Int)) = ((8 * b.length:Nat):Int):=by omega
  rw [this]
  rfl
 have hd9:(8 * (b.length:Int)) / (M:Int) = ((8 * b.length / M:Nat):Int):=by
  have:(8 * (b.length:Int)) = ((8 * b.length:Nat):Int):=by omega
  rw [this]
  exact (Int.natCast_ediv _ _).symm
 by_cases h4:I < 8 * b.length / M
 ·have HE:=Hd (show atB b (I:Int) (M:Int) = numB b M I by
   unfold atB
   rw [if_pos ⟨⟨by omega,by omega⟩,by omega,by rw [hd9];omega⟩,Int.toNat_natCast,Int.toNat_natCast])
  have hroom:(I + 1) * M ≤ 8 * b.length:=(Nat.le_div_iff_mul_le (by omega)).1 h4
  have hI2:I ≤ 8388608:=by
   have:(I + 1) * 1 ≤ (I + 1) * M:=Nat.mul_le_mul_left _ hM1
   omega
  have HN:=Hd (rnumber_any A c b I M w hb hroom (by omega) hl hI2)
  have d4:decide (8 * b.length / M ≤ I) = false:=by simpa using h4
  have d5:decide (((8 * b.length / M:Nat):Int) ≤ (I:Int)) = false:=by simp only [decide_eq_false_iff_not];omega
  have d6:¬ (((8 * b.length / M:Nat):Int) ≤ (I:Int)):=by omega
  have hQ:8 * b.length / M ≤ 8388608:=Nat.le_trans (Nat.div_le_self _ _) (by omega)
  generalize 8 * b.length / M = Q at *
  have hw:wrap64 (Q:Int) = (Q:Int):=by unfold wrap64;omega
  clear hb
  go_enter Tryz.func126,Tryz.ntmps126
  go_wp2_with ((go_at_call 186;refine HN.out.mono ?_;rintro e w2 ⟨rfl,rfl⟩))
  go_ret
  exact ⟨retU (by rw [HE.out]),rfl⟩
 ·have HE:=Hd (show atB b (I:Int) (M:Int) = 0 by
   unfold atB
   rw [if_neg (fun h => h4 (by have:=h.2.2;rw [hd9] at this;omega))])
  have d6:((8 * b.length / M:Nat):Int) ≤ (I:Int):=by omega
  have d7:decide (((8 * b.length / M:Nat):Int) ≤ (I:Int)) = true:=by simpa using d6
  have hQ:8 * b.length / M ≤ 8388608:=Nat.le_trans (Nat.div_le_self _ _) (by omega)
  generalize 8 * b.length / M = Q at *
  have hw:wrap64 (Q:Int) = (Q:Int):=by unfold wrap64;omega
  go_enter Tryz.func126,Tryz.ntmps126
  go_wp2_with fail
  go_ret
  exact ⟨retU (by rw [HE.out];rfl),rfl⟩
def zz (n:Int):Int:=if n < 0 then -2 * n - 1 else 2 * n
def uz (u:Int):Int:=if u % 2 = 1 then -1 - u / 2 else u / 2
theorem zz_bd (n:Int) (h0:-9223372036854775808 ≤ n) (h1:n < 9223372036854775808):0 ≤ zz n ∧ zz n < 18446744073709551616:=by unfold zz;split <;> omega
theorem uz_bd (u:Int) (h0:0 ≤ u) (h1:u < 18446744073709551616):-9223372036854775808 ≤ uz u ∧ uz u < 9223372036854775808:=by unfold uz;split <;> omega
theorem uz_zz (n:Int):uz (zz n) = n:=by unfold uz zz;split <;> split <;> omega
theorem zz_uz (u:Int) (h0:0 ≤ u):zz (uz u) = u:=by unfold uz zz;split <;> split <;> omega
theorem ret_eq {k:IntKind} {a b:Int} (h:a = b):Ending.returned (.int k a) = .returned (.int k b):=by rw [h]
theorem shl1_neg (n:Int) (h0:-9223372036854775808 ≤ n) (h1:n < 0):IntKind.u64.wrap (IntKind.u64.wrap n * 2) = 18446744073709551616 + 2 * n:=by
 rw [IntKind.wrap_u64,IntKind.wrap_u64];omega
theorem zigzag_any (n:Int) (w:World) (h0:-9223372036854775808 ≤ n) (h1:n < 9223372036854775808) :
 Calls Tryz.prog 150 #[.int .i64 n] w fun e w' => e = .returned (.int .u64 (zz n)) ∧ w = w':=by
 by_cases hn:n < 0
 ·have e1:=Hd (shl1_neg n h0 hn)
  have ez:Hid (zz n = -2 * n - 1):=by unfold zz;rw [if_pos hn];exact rfl
  go_enter Tryz.func150,Tryz.ntmps150
  go_wp2
  go_ret
  refine ⟨ret_eq ?_,rfl⟩
  have e2:=e1.out
  rw [ez.out,e2,not_u64 _ (by omega) (by omega)]
  omega
 ·have hn':0 ≤ n:=by omega
  have ez:Hid (zz n = 2 * n):=by unfold zz;rw [if_neg hn];exact rfl
  go_enter Tryz.func150,Tryz.ntmps150
  go_wp2
  go_ret
  refine ⟨ret_eq ?_,rfl⟩
  rw [ez.out]
  omega
theorem rzigzag_any (n:Int) (w:World) (h0:-9223372036854775808 ≤ n) (h1:n < 9223372036854775808) :
 Calls Tryz.prog 108 #[.int .i64 n] w fun e w' => e = .returned (.int .u64 (zz n)) ∧ w = w':=by
 by_cases hn:n < 0
 ·have ez:Hid (zz n = -2 * n - 1):=by unfold zz;rw [if_pos hn];exact rfl
  go_enter Tryz.func108,Tryz.ntmps108
  go_wp2
  go_ret
  refine ⟨ret_eq ?_,rfl⟩
  rw [ez.out]
  omega
 ·have hn':0 ≤ n:=by omega
  have ez:Hid (zz n = 2 * n):=by unfold zz;rw [if_neg hn];exact rfl
  go_enter Tryz.func108,Tryz.ntmps108
  go_wp2
  go_ret
  refine ⟨ret_eq ?_,rfl⟩
  rw [ez.out]
theorem unzigzag_any (u:Int) (w:World) (h0:0 ≤ u) (h1:u < 18446744073709551616) :
 Calls Tryz.prog 198 #[.int .u64 u] w fun e w' => e = .returned (.int .i64 (uz u)) ∧ w = w':=by
 have ea:=and1_u64 u h0 h1
 have en:=not_i64 (u / 2) (by omega) (by omega)
 by_cases hn:u % 2 = 1
 ·have ez:Hid (uz u = -1 - u / 2):=by unfold uz;rw [if_pos hn];exact rfl
  have ht:(bits .and .u64 u 1 == 1) = true:=by rw [ea,hn];rfl
  have eh:=Hd en
  clear ea en hn
  go_enter Tryz.func198,Tryz.ntmps198
  go_wp2
  go_ret
  refine ⟨ret_eq ?_,rfl⟩
  rw [ez.out,eh.out]
 ·have ez:Hid (uz u = u / 2):=by unfold uz;rw [if_neg hn];exact rfl
  have ht:(bits .and .u64 u 1 == 1) = false:=by rw [ea];simpa using hn
  clear ea en hn
  go_enter Tryz.func198,Tryz.ntmps198
  go_wp2
  go_ret
  refine ⟨ret_eq ?_,rfl⟩
  rw [ez.out]
theorem runzigzag_any (u:Int) (w:World) (h0:0 ≤ u) (h1:u < 18446744073709551616) :
 Calls Tryz.prog 128 #[.int .u64 u] w fun e w' => e = .returned (.int .i64 (uz u)) ∧ w = w':=by
 by_cases hn:u % 2 = 1
 ·have ez:Hid (uz u = -1 - u / 2):=by unfold uz;rw [if_pos hn];exact rfl
  have ht:(u % 2 == 0) = false:=by rw [hn];rfl
  clear hn
  go_enter Tryz.func128,Tryz.ntmps128
  go_wp2
  go_ret
  refine ⟨ret_eq ?_,rfl⟩
  rw [ez.out]
  omega
 ·have ez:Hid (uz u = u / 2):=by unfold uz;rw [if_neg hn];exact rfl
  have ht:(u % 2 == 0) = true:=by have:u % 2 = 0:=by omega
                                  rw [this];rfl
  clear hn
  go_enter Tryz.func128,Tryz.ntmps128
  go_wp2
  go_ret
  refine ⟨ret_eq ?_,rfl⟩
  rw [ez.out]
end Go.Proofs.YthmipnokimlbdaaGreat
