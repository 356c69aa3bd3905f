import Derived.Test.YtkpmalfigmimaaaGreatDoorQG
import Derived.Test.YtkpmalfigmimaaaGreatDoorZ0
import Derived.Test.YtkpmalfigmimaaaGreatDoorC3M
import Derived.Test.YtkpmalfigmimaaaGreatDoorFJ
import Derived.Laws.Rows
set_option linter.unusedVariables false
set_option linter.unusedSimpArgs false
set_option maxRecDepth 100000
set_option maxHeartbeats 8000000
namespace Go.Proofs.YtkpmalfigmimaaaGreatDoor
open Go.RowKit
open Flt
theorem qAB (T:Nat) (hT:T=1074) (a m:Nat) (w:World) (ha:a<18446744073709551616) (hm:m≤4):Calls Tryz.prog 228 #[.float .f64 a,.int .i64 m] w fun e w'=>∃x,zT T m a x∧e= .returned (.tuple #[.float .f64 x,.bool true])∧Below w.heap.size w w':=by
 have hc:m=0∨m=1∨m=2∨m=3∨m=4:=by omega
 clear hm
 rcases hc with rfl|rfl|rfl|rfl|rfl
 ·obtain ⟨x,w',h1,h2,h3⟩:=qG2 T hT a ha w
  have H1:=jG h1
  have H2:Hid (Below w.heap.size w w'):=by
   show Below _ _ _
   rcases h2 with rfl|rfl
   ·exact Below.refl _ _
   ·exact (Below.refl _ _).drew
  clear h1 h2 ha hT
  go_enter Tryz.func228,Tryz.ntmps228
  go_wp2_with (simp only [h3])
  go_ret2
  exact ⟨x,H1.out,rfl,H2.out⟩
 ·have HC:=jG (fun w:World=>rF T hT a w ha)
  clear ha hT
  go_enter Tryz.func228,Tryz.ntmps228
  go_wp2_with fail
  refine (HC.out _).mono ?_
  rintro e w1 ⟨x,h1,rfl,hb⟩
  have H1:=jG (And.intro h1 hb)
  clear h1 hb
  go_wp2_with fail
  go_ret2
  exact ⟨x,H1.out.1,rfl,H1.out.2⟩
 ·have HC:=jG (fun w:World=>qEI T hT a w ha)
  clear ha hT
  go_enter Tryz.func228,Tryz.ntmps228
  go_wp2_with fail
  refine (HC.out _).mono ?_
  rintro e w1 ⟨x,h1,rfl,hb⟩
  have H1:=jG (And.intro h1 hb)
  clear h1 hb
  go_wp2_with fail
  go_ret2
  exact ⟨x,H1.out.1,rfl,H1.out.2⟩
 ·have HC:=jG (fun w:World=>qED T hT a w ha)
  clear ha hT
  go_enter Tryz.func228,Tryz.ntmps228
  go_wp2_with fail
  refine (HC.out _).mono ?_
  rintro e w1 ⟨x,h1,rfl,hb⟩
  have H1:=jG (And.intro h1 hb)
  clear h1 hb
  go_wp2_with fail
  go_ret2
  exact ⟨x,H1.out.1,rfl,H1.out.2⟩
 ·have HC:=jG (fun w:World=>qGS T hT a w ha)
  clear ha hT
  go_enter Tryz.func228,Tryz.ntmps228
  go_wp2_with fail
  refine (HC.out _).mono ?_
  rintro e w1 ⟨x,h1,rfl,hb⟩
  have H1:=jG (And.intro h1 hb)
  clear h1 hb
  go_wp2_with fail
  go_ret2
  exact ⟨x,H1.out.1,rfl,H1.out.2⟩
def wz (T m a:Nat):Int:=if sg Ieee.double a then -((whl m (sg Ieee.double a) (V Ieee.double (rg Ieee.double a)) (2^T):Nat):Int) else ((whl m (sg Ieee.double a) (V Ieee.double (rg Ieee.double a)) (2^T):Nat):Int)
theorem qLS (T n:Nat) (hT:T=1074) (hn:n=63):V Ieee.double 4890909195324358656=2^n*2^T:=by
 obtain ⟨q,hq⟩:∃q:Nat,q=1085:=⟨_,rfl⟩
 have h:=(V_at Ieee.double q Ieee.double.binade (by decide) (.inr (Nat.le_refl _))).1
 rw [show q*Ieee.double.binade+Ieee.double.binade=4890909195324358656 by rw [hq];decide +kernel] at h
 rw [h,show Ieee.double.binade=2^52 by decide,←Nat.pow_add,←Nat.pow_add,show 52+q=n+T by omega]
theorem qEQ (s:Bool) (K W Z Q:Nat) (B:Int) (hB:B=(Q:Int)) (c1:W<Z↔K<Q) (c2:Z<W↔Q<K) (hpos:0<Z) (hq:0<Q):
  if (if s then -(K:Int) else (K:Int))<B then some (compare (if s then -(W:Int) else (W:Int)) (Z:Int))=some Ordering.lt else some (compare (if s then -(W:Int) else (W:Int)) (Z:Int))=some Ordering.gt∨some (compare (if s then -(W:Int) else (W:Int)) (Z:Int))=some Ordering.eq:=by
 subst hB
 cases s
 ·simp only [Bool.false_eq_true,if_false]
  by_cases h:K<Q
  ·rw [if_pos (by omega)]
   have h9:=c1.2 h
   rw [cmp_lt (by omega)]
  ·rw [if_neg (by omega)]
   by_cases h1:Z<W
   ·left;rw [cmp_gt (by omega)]
   ·right
    have h2:¬W<Z:=fun h2=>h (c1.1 h2)
    have h10:W=Z:=by omega
    rw [h10,cmp_eq]
 ·simp only [if_true]
  rw [if_pos (by omega),cmp_lt (by omega)]
theorem qAC (T m a x:Nat) (hT:T=1074) (hm:m≤4) (hx:zT T m a x) (hfin:a%9223372036854775808<9218868437227405312):
  (if -9223372036854775808≤wz T m a then Ieee.double.order x 14114281232179134464=some .gt∨Ieee.double.order x 14114281232179134464=some .eq else Ieee.double.order x 14114281232179134464=some .lt)∧
  (if wz T m a<9223372036854775808 then Ieee.double.order x 4890909195324358656=some .lt else Ieee.double.order x 4890909195324358656=some .gt∨Ieee.double.order x 4890909195324358656=some .eq)∧
  (-9223372036854775808≤wz T m a→wz T m a<9223372036854775808→floatToIntVal .f64 x .i64=some (wz T m a)):=by
 obtain ⟨R,hR,_⟩:=whl_repr T m (sg Ieee.double a) (rg Ieee.double a) hm (by omega)
 have hxe:=hx.2.2.2 hfin
 rw [ent_exact T _ _ R hR] at hxe
 obtain ⟨n,hn⟩:∃n:Nat,n=63:=⟨_,rfl⟩
 have h63:=qLS T n hT hn
 have hpT:=Nat.two_pow_pos T
 unfold wz
 generalize hK:whl m (sg Ieee.double a) (V Ieee.double (rg Ieee.double a)) (2^T)=K at*
 generalize sg Ieee.double a=s at*
 have hxl:min R Ieee.double.infRung<Ieee.double.signWeight:=Nat.lt_of_le_of_lt (Nat.min_le_right ..) Ieee.double.infRung_lt
 have hxr:rg Ieee.double x=min R Ieee.double.infRung:=by rw [hxe,rg_word _ _ _ hxl]
 have hxs:sg Ieee.double x=s:=by rw [hxe,sg_word _ _ _ hxl]
 have hxn:rg Ieee.double x≤Ieee.double.infRung:=by rw [hxr];exact Nat.min_le_right ..
 have hcmp:(V Ieee.double (min R Ieee.double.infRung)<V Ieee.double 4890909195324358656↔K<2^n)∧(V Ieee.double 4890909195324358656<V Ieee.double (min R Ieee.double.infRung)↔2^n<K):=by
  have hi:4890909195324358656<Ieee.double.infRung:=by rw [jM];omega
  have k1:K<2^n↔K*2^T<2^n*2^T:=(Nat.mul_lt_mul_right hpT).symm
  have k2:2^n<K↔2^n*2^T<K*2^T:=(Nat.mul_lt_mul_right hpT).symm
  constructor
  ·rw [k1,←hR,←h63,V_lt_iff,V_lt_iff];omega
  ·rw [k2,←hR,←h63,V_lt_iff,V_lt_iff];omega
 obtain ⟨c1,c2⟩:=hcmp
 have hpn:2^n=9223372036854775808:=by rw [hn]
 obtain ⟨Q,hQ⟩:∃Q,2^n=Q:=⟨_,rfl⟩
 rw [hQ] at c1 c2 hpn
 have hbigR:Ieee.double.infRung≤R→Q<K:=fun h=>c2.1 (by rw [Nat.min_eq_right h];exact V_lt (by rw [jM];omega))
 have sx:sv Ieee.double x=if s then -((V Ieee.double (min R Ieee.double.infRung):Nat):Int) else ((V Ieee.double (min R Ieee.double.infRung):Nat):Int):=by
  unfold sv;rw [hxs,hxr]
 have sneg:sv Ieee.double 14114281232179134464= -((V Ieee.double 4890909195324358656:Nat):Int):=by
  unfold sv
  rw [show sg Ieee.double 14114281232179134464=true by decide +kernel,show rg Ieee.double 14114281232179134464=4890909195324358656 by decide +kernel]
  rfl
 have spos:sv Ieee.double 4890909195324358656=((V Ieee.double 4890909195324358656:Nat):Int):=by
  unfold sv
  rw [show sg Ieee.double 4890909195324358656=false by decide +kernel,show rg Ieee.double 4890909195324358656=4890909195324358656 by decide +kernel]
  rfl
 have o1:=order_all Ieee.double (by decide) x 14114281232179134464 hxn (by rw [xF,jM];omega)
 have o2:=order_all Ieee.double (by decide) x 4890909195324358656 hxn (by rw [xF,jM];omega)
 rw [sx,sneg] at o1
 rw [sx,spos] at o2
 have hpos:0<V Ieee.double 4890909195324358656:=by rw [h63];exact Nat.mul_pos (Nat.two_pow_pos _) hpT
 generalize V Ieee.double 4890909195324358656=Z at*
 generalize hW:V Ieee.double (min R Ieee.double.infRung)=W at*
 refine ⟨?_,?_,?_⟩
 ·rw [o1]
  cases s
  ·simp only [Bool.false_eq_true,if_false]
   rw [if_pos (by omega)]
   left;rw [cmp_gt (by omega)]
  ·simp only [if_true]
   by_cases h:K≤Q
   ·rw [if_pos (by omega)]
    rcases Nat.lt_or_ge W Z with h1|h1
    ·left;rw [cmp_gt (by omega)]
    ·right
     have:W=Z:=by
      rcases Nat.lt_or_ge Z W with h2|h2
      ·have:=c2.1 h2;omega
      ·omega
     rw [this,cmp_eq]
   ·rw [if_neg (by omega)]
    have:=c2.2 (by omega)
    rw [cmp_lt (by omega)]
 ·rw [o2]
  exact qEQ s K W Z Q 9223372036854775808 (by rw [hpn];rfl) c1 c2 hpos (by rw [hpn];decide)
 ·intro b1 b2
  have hKl:K≤9223372036854775808:=by
   cases s
   ·simp only [Bool.false_eq_true,if_false] at b1 b2;omega
   ·simp only [if_true] at b1 b2;omega
  have hRi:R<Ieee.double.infRung:=by
   rcases Nat.lt_or_ge R Ieee.double.infRung with h|h
   ·exact h
   ·have:=hbigR h;omega
  have hrx:rg Ieee.double x=R:=by rw [hxr];exact Nat.min_eq_left (Nat.le_of_lt hRi)
  obtain ⟨m',k',e1,e2,_⟩:=read_fin Ieee.double x (by rw [hrx];exact hRi)
  rw [hxs] at e1
  rw [hrx,hR] at e2
  have hl:Ieee.double.leastPlace= -1074:=by decide
  have hcut:Ieee.Toward.zero.cut s (m'<<<(Ieee.double.leastPlace+(k':Int)).toNat) (-(Ieee.double.leastPlace+(k':Int))).toNat=K:=by
   have:=cut_ways s (m'<<<(Ieee.double.leastPlace+(k':Int)).toNat) (-(Ieee.double.leastPlace+(k':Int))).toNat 2 (by simp)
   rw [show Ieee.Toward.zero=wayOf 2 from rfl,this,Nat.shiftLeft_eq,hl]
   show m'*2^(-1074+(k':Int)).toNat/2^(-(-1074+(k':Int))).toNat=K
   have h5:m'*2^(-1074+(k':Int)).toNat=K*2^(-(-1074+(k':Int))).toNat:=by
    refine Nat.eq_of_mul_eq_mul_right hpT ?_
    rw [Nat.mul_right_comm K,←e2,Nat.mul_assoc,Nat.mul_assoc,←Nat.pow_add,←Nat.pow_add]
    exact congrArg (m'*2^ ·) (by omega)
   rw [h5];exact Nat.mul_div_cancel _ (Nat.two_pow_pos _)
  have hto:(FloatKind.f64.decode x).toInt .zero=some (Ieee.signed s K 0):=by
   rw [show FloatKind.f64.decode x=_ from e1]
   show some (Ieee.signed s (Ieee.Toward.zero.cut s (m'<<<(Ieee.double.leastPlace+(k':Int)).toNat) (-(Ieee.double.leastPlace+(k':Int))).toNat) 0)=_
   rw [hcut]
  have hsg:Ieee.signed s K 0=if s then -(K:Int) else (K:Int):=by unfold Ieee.signed;simp
  unfold floatToIntVal
  rw [hto,hsg]
  have hmn:IntKind.i64.min= -9223372036854775808:=by decide
  have hmx:IntKind.i64.max=9223372036854775807:=by decide
  simp only [hmn,hmx]
  rw [if_pos ⟨b1,by omega⟩]
theorem qC3 (T:Nat) (hT:T=1074) (a m:Nat) (w:World) (ha:a<18446744073709551616) (hm:m≤4) (hf:a%9223372036854775808<9218868437227405312) (b1: -9223372036854775808≤wz T m a) (b2:wz T m a<9223372036854775808):Calls Tryz.prog 226 #[.int .u64 a,.int .i64 m] w fun e w'=>e= .returned (.tuple #[.int .i64 (wz T m a),.int .i64 0])∧Below w.heap.size w w':=by
 have HW:=jG (fun w:World=>qAB T hT a m w ha hm)
 have HI:Hid (∀x,zT T m a x→(Ieee.double.order x 14114281232179134464=some .gt∨Ieee.double.order x 14114281232179134464=some .eq)∧Ieee.double.order x 4890909195324358656=some .lt∧floatToIntVal .f64 x .i64=some (wz T m a)):=by
  intro x hx
  obtain ⟨h1,h2,h3⟩:=qAC T m a x hT hm hx hf
  exact ⟨by rw [if_pos b1] at h1;exact h1,by rw [if_pos b2] at h2;exact h2,h3 b1 b2⟩
 have HB:=jG (And.intro b1 b2)
 clear ha hm hT hf b1 b2
 generalize wz T m a=z at*
 go_enter Tryz.func226,Tryz.ntmps226
 go_wp2_with fail
 refine (qY a _).mono ?_
 rintro e w1 ⟨rfl,hw1⟩
 have hw1:=hw1.symm
 subst hw1
 go_wp2_with fail
 refine (HW.out _).mono ?_
 rintro e w1 ⟨x,hx,rfl,hb1⟩
 obtain ⟨i1,i2,i3⟩:=HI.out x hx
 have h2:FloatKind.f64.format.order x 4890909195324358656=some .lt:=i2
 have hcv:=fun w:World=>run_convert_float_int (P:=Tryz.prog) w 72 2 .f64 .i64 x z (by kernel_rfl) (by kernel_rfl) i3
 have HX:=jG hb1
 clear hx hb1 i2 i3 HI HW HB
 rcases i1 with i1|i1
 all_goals
  have h1:FloatKind.f64.format.order x 14114281232179134464=_:=i1
  clear i1
  go_wp2_with (simp only [h1,h2,hcv])
  go_ret2
  exact ⟨rfl,HX.out⟩
theorem tU (T:Nat) (hT:T=1074) (a m:Nat) (w:World) (ha:a<18446744073709551616) (hm:m≤4) (hb:¬(a%9223372036854775808<9218868437227405312∧-9223372036854775808≤wz T m a∧wz T m a<9223372036854775808)):Calls Tryz.prog 226 #[.int .u64 a,.int .i64 m] w fun e w'=>e= .returned (.tuple #[.int .i64 0,.int .i64 30])∧Below w.heap.size w w':=by
 have HW:=jG (fun w:World=>qAB T hT a m w ha hm)
 have HI:Hid (∀x,zT T m a x→(Ieee.double.order x 14114281232179134464=some .lt∨Ieee.double.order x 14114281232179134464=none)∨((Ieee.double.order x 14114281232179134464=some .gt∨Ieee.double.order x 14114281232179134464=some .eq)∧(Ieee.double.order x 4890909195324358656=some .gt∨Ieee.double.order x 4890909195324358656=some .eq))):=by
  intro x hx
  rcases Nat.lt_trichotomy (a%9223372036854775808) 9218868437227405312 with c|c|c
  ·obtain ⟨i1,i2,_⟩:=qAC T m a x hT hm hx c
   by_cases b1: -9223372036854775808≤wz T m a
   ·rw [if_pos b1] at i1
    rw [if_neg (fun h=>hb ⟨c,b1,h⟩)] at i2
    exact .inr ⟨i1,i2⟩
   ·rw [if_neg b1] at i1;exact .inl (.inl i1)
  ·rw [hx.2.2.1 c]
   have hn:rg Ieee.double a=Ieee.double.infRung:=by rw [xF,jM];exact c
   have o1:=order_all Ieee.double (by decide) a 14114281232179134464 (by rw [hn];exact Nat.le_refl _) (by rw [xF,jM];omega)
   have o2:=order_all Ieee.double (by decide) a 4890909195324358656 (by rw [hn];exact Nat.le_refl _) (by rw [xF,jM];omega)
   have hv:V Ieee.double 4890909195324358656<V Ieee.double Ieee.double.infRung:=V_lt (by rw [jM];omega)
   have sneg:sv Ieee.double 14114281232179134464= -((V Ieee.double 4890909195324358656:Nat):Int):=by
    unfold sv
    rw [show sg Ieee.double 14114281232179134464=true by decide +kernel,show rg Ieee.double 14114281232179134464=4890909195324358656 by decide +kernel]
    rfl
   have spos:sv Ieee.double 4890909195324358656=((V Ieee.double 4890909195324358656:Nat):Int):=by
    unfold sv
    rw [show sg Ieee.double 4890909195324358656=false by decide +kernel,show rg Ieee.double 4890909195324358656=4890909195324358656 by decide +kernel]
    rfl
   rw [sneg] at o1
   rw [spos] at o2
   have sa:sv Ieee.double a=if sg Ieee.double a then -((V Ieee.double Ieee.double.infRung:Nat):Int) else ((V Ieee.double Ieee.double.infRung:Nat):Int):=by unfold sv;rw [hn]
   rw [sa] at o1 o2
   generalize V Ieee.double 4890909195324358656=Z at*
   generalize V Ieee.double Ieee.double.infRung=I at*
   cases hs:sg Ieee.double a
   ·rw [hs] at o1 o2
    simp only [Bool.false_eq_true,if_false] at o1 o2
    rw [cmp_gt (by omega)] at o1 o2
    exact .inr ⟨.inl o1,.inl o2⟩
   ·rw [hs] at o1 o2
    simp only [if_true] at o1 o2
    rw [cmp_lt (by omega)] at o1
    exact .inl (.inl o1)
  ·exact .inl (.inr (order_nan _ (by decide) _ _ (.inl (by rw [xF,jM];exact hx.2.1 c))))
 clear ha hm hT hb
 go_enter Tryz.func226,Tryz.ntmps226
 go_wp2_with fail
 refine (qY a _).mono ?_
 rintro e w1 ⟨rfl,hw1⟩
 have hw1:=hw1.symm
 subst hw1
 go_wp2_with fail
 refine (HW.out _).mono ?_
 rintro e w1 ⟨x,hx,rfl,hb1⟩
 have i1:=HI.out x hx
 have HX:=jG hb1
 clear hx hb1 HI HW
 rcases i1 with (i1|i1)|⟨i1|i1,i2|i2⟩
 ·have h1:FloatKind.f64.format.order x 14114281232179134464=_:=i1
  clear i1
  go_wp2_with (simp only [h1])
  go_ret2
  exact ⟨rfl,HX.out⟩
 ·have h1:FloatKind.f64.format.order x 14114281232179134464=_:=i1
  clear i1
  go_wp2_with (simp only [h1])
  go_ret2
  exact ⟨rfl,HX.out⟩
 all_goals
  have h1:FloatKind.f64.format.order x 14114281232179134464=_:=i1
  have h2:FloatKind.f64.format.order x 4890909195324358656=_:=i2
  clear i1 i2
  go_wp2_with (simp only [h1,h2])
  go_ret2
  exact ⟨rfl,HX.out⟩
end Go.Proofs.YtkpmalfigmimaaaGreatDoor
namespace Go.Proofs.YtkpmalfigmimaaaGreatDoor
open Go.RowKit
open M
def xE (v:Nat):Option Int:=if v%9223372036854775808<9218868437227405312∧-9223372036854775808≤wz 1074 0 v∧wz 1074 0 v<9223372036854775808 then some (wz 1074 0 v) else none
def F64:Dm:=⟨fun a b=>gG (Ieee.double.mul a b),fun a b=>gG (Ieee.double.div a b),fun k=>floatOfInt .f64 k,xE,22,999999999999999⟩
theorem pX {v:Nat} {k:Int} (h:xE v=some k): -9223372036854775808≤k∧k≤9223372036854775807:=by
 unfold xE at h
 split at h
 ·rename_i hh
  simp only [Option.some.injEq] at h
  rw [←h]
  obtain ⟨_,h1,h2⟩:=hh
  generalize wz 1074 0 v=z at*
  omega
 ·cases h
theorem qA5 (x:Option Nat) (h:∀r,x=some r→r<18446744073709551616):gG x<18446744073709551616:=by
 cases x with
 |none=>show 9221120237041090560<18446744073709551616;omega
 |some r=>exact h r rfl
theorem cW (a b:Nat):F64.mul a b<18446744073709551616:=qA5 _ fun r hr=>(pW (op:= .mul) (a:=a) (b:=b) (show floatBits .mul .f64 a b=some r from hr)).2
theorem qCV (a b:Nat):F64.div a b<18446744073709551616:=qA5 _ fun r hr=>(pW (op:= .quo) (a:=a) (b:=b) (show floatBits .quo .f64 a b=some r from hr)).2
theorem qFN (s:Bool) (m:Nat) (p:Int):Ieee.double.nearest s m p<18446744073709551616:=by
 rw [Flt.nearest_rnd]
 have h:∀r,r≤9218868437227405312→Ieee.double.word s r<18446744073709551616:=fun r hr=>by
  cases s
  ·show r<_;omega
  ·show Ieee.double.signWeight+r<_;rw [show Ieee.double.signWeight=9223372036854775808 from by decide +kernel];omega
 refine h _ ?_
 rw [show Ieee.double.infRung=9218868437227405312 from by decide +kernel]
 exact Nat.min_le_right _ _
theorem cV (n:Int):F64.int n<18446744073709551616:=by
 show floatOfInt .f64 n<18446744073709551616
 have h:∃s m p,floatOfInt .f64 n=Ieee.double.nearest s m p:=⟨_,_,_,rfl⟩
 obtain ⟨s,m,p,h⟩:=h
 rw [h]
 exact qFN s m p
theorem qCW (p:Nat):F64.pow p<18446744073709551616:=by
 cases p with
 |zero=>exact cV 1
 |succ p=>exact cW _ _
theorem rU (n:Int) (w:World):Calls Tryz.prog 19 #[.int .i64 n] w fun e w'=>e= .returned (.int .u64 (floatOfInt .f64 n:Nat))∧w'=w:=by
 have hcv:=fun w:World=>run_convert_int_float (P:=Tryz.prog) w 2 72 .i64 .f64 n (by kernel_rfl) (by kernel_rfl)
 generalize floatOfInt .f64 n=x at*
 have ht:=yA x
 go_enter Tryz.func19,Tryz.ntmps19
 go_wp2_with (simp only [hcv,ht])
 go_ret
 exact ⟨rfl,rfl⟩
theorem yU (n:Int) (w:World):Calls Tryz.prog 180 #[.int .i64 n] w fun e w'=>e= .returned (.int .u64 (F64.int n:Nat))∧w'=w:=by
 have HF:=qA (rU n w)
 change Calls _ _ _ _ fun e w'=>e= .returned (.int .u64 (floatOfInt .f64 n:Nat))∧w'=w
 generalize floatOfInt .f64 n=x at*
 go_enter Tryz.func180,Tryz.ntmps180
 go_wp2_with fail
 refine (kQ _).mono ?_
 rintro e w1 ⟨rfl,rfl⟩
 go_wp2_with fail
 refine HF.out.mono ?_
 rintro e w2 ⟨rfl,rfl⟩
 go_wp2_with fail
 go_ret
 exact ⟨rfl,rfl⟩
def nwV (o:Option Int):Value:=match o with
 |some k=> .tuple #[.int .i64 k,.bool true]
 |none=> .tuple #[.int .i64 0,.bool false]
theorem wT (v:Nat) (w:World) (hv:v<18446744073709551616):Calls Tryz.prog 216 #[.int .u64 v] w fun e w'=>e= .returned (nwV (xE v))∧Below w.heap.size w w':=by
 by_cases h:v%9223372036854775808<9218868437227405312∧-9223372036854775808≤wz 1074 0 v∧wz 1074 0 v<9223372036854775808
 ·have e0:xE v=some (wz 1074 0 v):=by unfold xE;rw [if_pos h]
  have HT:=qA (fun w:World=>qC3 1074 rfl v 0 w hv (by omega) h.1 h.2.1 h.2.2)
  rw [e0]
  clear e0 h
  generalize wz 1074 0 v=z at*
  go_enter Tryz.func216,Tryz.ntmps216
  go_wp2_with fail
  refine (kQ _).mono ?_
  rintro e w1 ⟨rfl,rfl⟩
  go_wp2_with fail
  refine (HT.out _).mono ?_
  rintro e w2 ⟨rfl,B2⟩
  have HB:=qA B2
  clear B2
  go_wp2_with fail
  go_ret2
  exact ⟨rfl,HB.out⟩
 ·have e0:xE v=none:=by unfold xE;rw [if_neg h]
  have HT:=qA (fun w:World=>tU 1074 rfl v 0 w hv (by omega) h)
  rw [e0]
  clear e0 h
  go_enter Tryz.func216,Tryz.ntmps216
  go_wp2_with fail
  refine (kQ _).mono ?_
  rintro e w1 ⟨rfl,rfl⟩
  go_wp2_with fail
  refine (HT.out _).mono ?_
  rintro e w2 ⟨rfl,B2⟩
  have HB:=qA B2
  clear B2
  go_wp2_with fail
  go_ret2
  exact ⟨rfl,HB.out⟩
theorem uJ (w:World):Calls Tryz.prog 217 #[] w fun e w'=>e= .returned (.int .i64 999999999999999)∧w'=w:=by
 go_enter Tryz.func217,Tryz.ntmps217
 go_wp2_with fail
 refine (kQ _).mono ?_
 rintro e w1 ⟨rfl,rfl⟩
 go_wp2_with fail
 go_ret
 exact ⟨rfl,rfl⟩
theorem xP (w:World):Calls Tryz.prog 195 #[] w fun e w'=>e= .returned (.int .i64 22)∧w'=w:=by
 go_enter Tryz.func195,Tryz.ntmps195
 go_wp2_with fail
 refine (kQ _).mono ?_
 rintro e w1 ⟨rfl,rfl⟩
 go_wp2_with fail
 go_ret
 exact ⟨rfl,rfl⟩
def vM (p:Nat):Value:= .agg #[.int .i64 (p:Int),.int .u64 (F64.pow p:Int)]
theorem wZ (p:Nat) (w:World) (hp:p≤1000):Calls Tryz.prog 147 #[.int .i64 p] w fun e w'=>e= .returned (vM p)∧Below w.heap.size w w':=by
 have HM:=qA (fun (a b:Nat) (w:World)=>tM a b w)
 have hI1:=yU 1
 have hI10:=yU 10
 obtain ⟨g,hg⟩:∃g,w.heap.size=g:=⟨_,rfl⟩
 have HG:=qA hg
 have HI:=qA (And.intro hI1 hI10)
 clear hI1 hI10
 have HA:Hid (Below g w (w.alloc (.cells #[.int .i64 0,.int .u64 0] 194))∧(w.alloc (.cells #[.int .i64 0,.int .u64 0] 194)).heap[g]?=some (.cells #[.int .i64 0,.int .u64 0] 194 (0,0))):=by
  rw [←hg];exact ⟨(Below.refl _ w).alloc (Nat.le_refl _) _,heap_alloc_new w _⟩
 go_enter Tryz.func147,Tryz.ntmps147
 go_upto_region 1 with fail
 (try rw [hg])
 clear hg
 generalize w.alloc (.cells #[.int .i64 0,.int .u64 0] 194)=W1 at*
 go_wp2_with fail
 refine (HI.out.1 _).mono ?_
 rintro e w1 ⟨rfl,h1⟩
 have h1:=h1.symm
 subst h1
 go_wp2_with fail
 refine (HI.out.2 _).mono ?_
 rintro e w1 ⟨rfl,h1⟩
 have h1:=h1.symm
 subst h1
 obtain ⟨TEN,hTEN⟩:∃t,F64.int 10=t:=⟨_,rfl⟩
 rw [hTEN]
 have HTEN:=qA hTEN
 clear hTEN
 go_wp2_with fail
 go_loopw [3,8] (fun t3 t8 wr=>∃k:Nat,t8= .int .i64 (k:Int)∧t3= .int .u64 ((F64.pow k:Nat):Int)∧Hid (k≤p∧Below g w wr∧wr.heap[g]?=some (.cells #[.int .i64 0,.int .u64 0] 194 (0,0)))) (fun _ t8 _=>p-(intOf t8).toNat)
 case atStart=>exact ⟨0,rfl,rfl,Nat.zero_le _,HA.out.1,HA.out.2⟩
 case round=>
  obtain ⟨k,rfl,rfl,hI⟩:=hrel
  by_cases hlt:k<p
  ·have HE:Hid (gG (Ieee.double.mul (F64.pow k) TEN)=F64.pow (k+1)):=by rw [←HTEN.out];rfl
   obtain ⟨P,hP⟩:∃P,F64.pow k=P:=⟨_,rfl⟩
   rw [hP] at HE⊢
   clear hP
   go_wp2_with fail
   refine (HM.out P TEN wr).mono ?_
   rintro e w2 ⟨rfl,B2⟩
   rw [HE.out]
   have HB2:Hid (Below g w w2∧w2.heap[g]?=some (.cells #[.int .i64 0,.int .u64 0] 194 (0,0))):=by
    have h1:=qB hI.out.2.2
    exact ⟨hI.out.2.1.trans (B2.mono (by omega)),by rw [B2.block g h1];exact hI.out.2.2⟩
   clear B2
   go_wp2_with fail
   go_roundw
   case rel=>exact ⟨k+1,by simp,rfl,hlt,HB2.out.1,HB2.out.2⟩
   case measure=>simp [intOf];omega
  ·have hk:k=p:=by have:=hI.out.1;omega
   subst hk
   have c0:wr.cell? ⟨g,0,none⟩=some (.int .i64 0):=cell_of_row _ _ 0 _ _ _ hI.out.2.2
   have c1:wr.cell? ⟨g,1,none⟩=some (.int .u64 0):=cell_of_row _ _ 1 _ _ _ hI.out.2.2
   have f0:=froz hI.out.2.2 0
   have f1:=froz hI.out.2.2 1
   obtain ⟨P,hP⟩:∃P,F64.pow k=P:=⟨_,rfl⟩
   rw [hP]
   have HP:=qA hP
   clear hP
   go_wp2_with fail
   obtain ⟨fs,hu⟩:=yM (show Tryz.prog.underlying 194=Tryz.prog.underlying 194 from rfl) (by kernel_rfl)
   have hrow:((wr.setCell ⟨g,0,none⟩ (.int .i64 (k:Int))).setCell ⟨g,1,none⟩ (.int .u64 (P:Int))).heap[g]?=some (.cells #[.int .i64 (k:Int),.int .u64 (P:Int)] 194 (0,0)):=by
    have h1:=heap_setCell_same wr g 0 _ _ (.int .i64 (k:Int)) hI.out.2.2
    have h2:=heap_setCell_same _ g 1 _ _ (.int .u64 (P:Int)) h1
    exact h2
   refine bodyPost_ret (results_cell_row rfl _ _ g _ _ (0,0) (.struct fs) rfl hrow hu rfl (by kernel_rfl)) rfl ?_
   refine ⟨by rw [vM,HP.out],?_⟩
   have h1:=hI.out.2.1
   rw [HG.out]
   exact (h1.setCell (p:=⟨g,0,none⟩) (Nat.le_refl _) _).setCell (p:=⟨g,1,none⟩) (Nat.le_refl _) _
theorem gM (p:Nat) (k:Int) (w:World):Calls Tryz.prog 149 #[vM p,.int .i64 k] w fun e w'=>e= .returned (.int .u64 (F64.val p k:Nat))∧Below w.heap.size w w':=by
 have HD:=qA (fun (w:World)=>qEB (F64.int k) (F64.pow p) w (cV k) (qCW p))
 have HF:=qA (fun (w:World)=>yU k w)
 have ev:gG (Ieee.double.div (F64.int k) (F64.pow p))=F64.val p k:=rfl
 rw [ev] at HD
 clear ev
 unfold vM
 generalize F64.val p k=out at*
 generalize F64.int k=I at*
 generalize F64.pow p=P at*
 obtain ⟨g,hg⟩:∃g,w.heap.size=g:=⟨_,rfl⟩
 obtain ⟨W1,hW1⟩:∃W1,W1=w.alloc (.cells #[.int .i64 (p:Int),.int .u64 (P:Int)] 194):=⟨_,rfl⟩
 have hB1:Below g w W1:=by rw [hW1,←hg];exact (Below.refl _ w).alloc (Nat.le_refl _) _
 have hr1:W1.heap[g]?=some (.cells #[.int .i64 (p:Int),.int .u64 (P:Int)] 194 (0,0)):=by rw [hW1,←hg];exact heap_alloc_new w _
 have c0:W1.drew.cell? ⟨g,1,none⟩=some (.int .u64 (P:Int)):=cell_of_row W1.drew g 1 _ _ _ hr1
 have HB:Hid (Below g w W1.drew):=⟨hB1.os,hB1.tape,hB1.output,hB1.size,hB1.block⟩
 have HGG:=qA hg
 have HS:Hid (g≤W1.drew.heap.size):=by have:=qB hr1;exact Nat.le_of_lt this
 clear hB1 hr1
 go_enter Tryz.func149,Tryz.ntmps149
 go_wp2_with fail
 (try rw [hg])
 (try rw [←hW1])
 clear hW1 hg
 go_region_held3 (fun w'=>w'.cell? ⟨g,1,none⟩=some (.int .u64 (P:Int))) (exact c0)
  (first|(go_at_call 180;go_must (refine (HF.out _).mono ?_);rintro _ w5 ⟨rfl,hw5⟩;have hw5:=hw5.symm;subst hw5)|(go_at_call 182;go_must (refine (HD.out _).mono ?_);rintro _ w6 ⟨rfl,B6⟩;have HB6:Hid (Below g w w6):=(HB.out.trans (B6.mono HS.out));have c0:w6.cell? ⟨g,1,none⟩=some (.int .u64 (P:Int)):=(by rw [B6.cell (p:=⟨g,1,none⟩) (block_lt_of_cell c0)];exact c0);clear B6))
 all_goals
  go_wp2_with fail
  go_ret
  exact ⟨rfl,by rw [HGG.out];exact HB6.out⟩
end Go.Proofs.YtkpmalfigmimaaaGreatDoor
namespace Go.Proofs.YtkpmalfigmimaaaGreatDoor
open Go.RowKit
open M
structure gQ (w:World) (g p:Nat):Prop where
 row:w.heap[g]?=some (.cells #[.int .i64 (p:Int),.int .u64 (F64.pow p:Int)] 194 (0,0))
theorem gQ.c0 {w:World} {g p:Nat} (h:gQ w g p):w.cell? ⟨g,0,none⟩=some (.int .i64 (p:Int)):=cell_of_row _ _ 0 _ _ _ h.row
theorem gQ.c1 {w:World} {g p:Nat} (h:gQ w g p):w.cell? ⟨g,1,none⟩=some (.int .u64 (F64.pow p:Int)):=cell_of_row _ _ 1 _ _ _ h.row
theorem gQ.lt {w:World} {g p:Nat} (h:gQ w g p):g<w.heap.size:=qB h.row
theorem gQ.below {w w':World} {g p B:Nat} (h:gQ w g p) (hB:Below B w w') (hg:g<B):gQ w' g p:=⟨by rw [hB.block g hg];exact h.row⟩
theorem yZ (p v:Nat) (w:World) (hv:v<18446744073709551616):Calls Tryz.prog 196 #[vM p,.int .u64 v] w fun e w'=>e= .returned (nwV (F64.wh p v))∧Below w.heap.size w w':=by
 have HMU:=qA (fun (w:World)=>tM v (F64.pow p) w)
 have HNW:=qA (fun (w:World)=>wT (F64.mul v (F64.pow p)) w (cW _ _))
 have HVO:=qA (fun (k:Int) (w:World)=>gM p k w)
 have em:gG (Ieee.double.mul v (F64.pow p))=F64.mul v (F64.pow p):=rfl
 rw [em] at HMU
 have hwh:F64.wh p v=match xE (F64.mul v (F64.pow p)) with|none=>none|some k=>if k< -999999999999999∨999999999999999<k∨F64.val p k≠v then none else some k:=rfl
 have hrg:=fun k (h:xE (F64.mul v (F64.pow p))=some k)=>pX h
 obtain ⟨g,hg⟩:∃g,w.heap.size=g:=⟨_,rfl⟩
 obtain ⟨W1,hW1⟩:∃W1,W1=w.alloc (.cells #[.int .i64 (p:Int),.int .u64 (F64.pow p:Int)] 194):=⟨_,rfl⟩
 have HW1:Hid (Below g w W1∧W1.heap[g]?=some (.cells #[.int .i64 (p:Int),.int .u64 (F64.pow p:Int)] 194 (0,0))):=by
  rw [hW1,←hg];exact ⟨(Below.refl _ w).alloc (Nat.le_refl _) _,heap_alloc_new w _⟩
 have HG:=qA hg
 clear em
 obtain ⟨o,ho⟩:∃o,xE (F64.mul v (F64.pow p))=o:=⟨_,rfl⟩
 rw [ho] at hwh hrg HNW
 obtain ⟨out,hout⟩:∃out,F64.wh p v=out:=⟨_,rfl⟩
 rw [hout] at hwh⊢
 have HWH:=qA hwh
 clear hwh ho hout
 have n1:IntKind.i64.wrap (-999999999999999)= -999999999999999:=by rw [IntKind.wrap_i64];omega
 have c1:W1.cell? ⟨g,1,none⟩=some (.int .u64 (F64.pow p:Int)):=(gQ.mk HW1.out.2).c1
 unfold vM at*
 generalize F64.pow p=P at*
 generalize F64.mul v P=m at*
 have HC:Hid (∀w',Below (g+1) W1 w'→w'.cell? ⟨g,0,none⟩=some (.int .i64 (p:Int))∧w'.cell? ⟨g,1,none⟩=some (.int .u64 (P:Int))):=fun w' hB=>by
  have h:=HW1.out.2
  exact ⟨cell_of_row _ _ 0 _ _ _ ((hB.block g (by omega)).trans h),cell_of_row _ _ 1 _ _ _ ((hB.block g (by omega)).trans h)⟩
 go_enter Tryz.func196,Tryz.ntmps196
 go_upto_region 1 with fail
 (try rw [hg])
 (try rw [←hW1])
 clear hW1 hg
 go_wp2_with fail
 refine (HMU.out _).mono ?_
 rintro e w2 ⟨rfl,B2⟩
 have HB2:=qA B2
 clear B2
 go_wp2_with fail
 refine (HNW.out _).mono ?_
 rintro e w3 ⟨rfl,B3⟩
 have HB3:Hid (Below (g+1) W1 w3∧Below g w w3∧g+1≤w3.heap.size):=by
  have h0:g<W1.heap.size:=qB HW1.out.2
  have h1:=HB2.out.size
  have h2:=B3.size
  have h3:Below (g+1) W1 w3:=(HB2.out.mono (by omega)).trans (B3.mono (by omega))
  exact ⟨h3,HW1.out.1.trans (h3.mono (by omega)),by omega⟩
 clear B3 HB2
 cases o with
 |none=>
  simp only [nwV]
  go_wp2_with fail
  refine (uJ _).mono ?_
  rintro e w4 ⟨rfl,h4⟩
  have h4:=h4.symm
  subst h4
  have HE:Hid (out=none):=HWH.out
  go_wp2_with fail
  go_ret2
  exact ⟨by rw [HE.out];rfl,by rw [HG.out];exact HB3.out.2.1⟩
 |some k=>
  simp only [nwV]
  obtain ⟨k1,k2⟩:=hrg k rfl
  clear hrg
  go_wp2_with fail
  refine (uJ _).mono ?_
  rintro e w4 ⟨rfl,h4⟩
  have h4:=h4.symm
  subst h4
  by_cases h5:k< -999999999999999
  ·have HE:Hid (out=none):=HWH.out.trans (if_pos (.inl h5))
   go_wp2_with fail
   go_ret2
   exact ⟨by rw [HE.out];rfl,by rw [HG.out];exact HB3.out.2.1⟩
  ·by_cases h6:999999999999999<k
   ·have HE:Hid (out=none):=HWH.out.trans (if_pos (.inr (.inl h6)))
    go_wp2_with fail
    go_ret2
    exact ⟨by rw [HE.out];rfl,by rw [HG.out];exact HB3.out.2.1⟩
   ·obtain ⟨x,hx⟩:∃x,F64.val p k=x:=⟨_,rfl⟩
    have HX:=qA hx
    obtain ⟨d0,d1⟩:=HC.out w3 HB3.out.1
    have HV:=qA (HVO.out k w3)
    rw [hx] at HV
    by_cases h7:x=v
    ·have HE:Hid (out=some k):=HWH.out.trans (if_neg (fun h=>h.elim h5 (fun h=>h.elim h6 (fun h=>h (hx.trans h7)))))
     have q7:((x:Int) !=(v:Int))=false:=by rw [h7];simp
     clear hx h7
     go_wp2_with fail
     refine HV.out.mono ?_
     rintro e w5 ⟨rfl,B5⟩
     have HB5:Hid (Below g w w5):=HB3.out.2.1.trans (B5.mono (by have:=HB3.out.2.2;omega))
     clear B5
     go_wp2_with fail
     go_ret2
     exact ⟨by rw [HE.out];rfl,by rw [HG.out];exact HB5.out⟩
    ·have HE:Hid (out=none):=HWH.out.trans (if_pos (.inr (.inr (by rw [hx];exact h7))))
     have q7:((x:Int) !=(v:Int))=true:=by rw [bne_iff_ne];omega
     clear hx h7
     go_wp2_with fail
     refine HV.out.mono ?_
     rintro e w5 ⟨rfl,B5⟩
     have HB5:Hid (Below g w w5):=HB3.out.2.1.trans (B5.mono (by have:=HB3.out.2.2;omega))
     clear B5
     go_wp2_with fail
     go_ret2
     exact ⟨by rw [HE.out];rfl,by rw [HG.out];exact HB5.out⟩
theorem vV (p:Nat) (q:Option Addr) (n cap:Nat) (f:Nat→Nat) (w:World) (h:qZ w q n f) (hn:n≤4096) (hcap:n≤cap) (hf:∀i,i<n→f i<18446744073709551616):
  Calls Tryz.prog 194 #[vM p,.slice q n cap] w fun e w'=>e= .returned (.int .i64 (F64.cnt p f 0 n:Nat))∧Below w.heap.size w w':=by
 have H:=qA h
 have HF:=qA hf
 have HWO:=qA (fun (v:Nat) (w:World) (hv:v<18446744073709551616)=>yZ p v w hv)
 obtain ⟨g,hg⟩:∃g,w.heap.size=g:=⟨_,rfl⟩
 obtain ⟨W1,hW1⟩:∃W1,W1=w.alloc (.cells #[.int .i64 (p:Int),.int .u64 (F64.pow p:Int)] 194):=⟨_,rfl⟩
 have HW1:Hid (Below g w W1∧W1.heap[g]?=some (.cells #[.int .i64 (p:Int),.int .u64 (F64.pow p:Int)] 194 (0,0))):=by
  rw [hW1,←hg];exact ⟨(Below.refl _ w).alloc (Nat.le_refl _) _,heap_alloc_new w _⟩
 have HG:=qA hg
 clear h hf
 unfold vM at*
 go_enter Tryz.func194,Tryz.ntmps194
 go_upto_region 1 with fail
 (try rw [hg])
 (try rw [←hW1])
 clear hW1 hg
 go_wp2_with fail
 go_loopw [5,12] (fun t5 t12 wr=>∃(k c:Nat),t12= .int .i64 (k:Int)∧t5= .int .i64 (c:Int)∧Hid (k≤n∧c=F64.cnt p f 0 k∧Below (g+1) W1 wr)) (fun _ t12 _=>n-(intOf t12).toNat)
 case atStart=>exact ⟨0,0,rfl,rfl,Nat.zero_le _,rfl,Below.refl _ _⟩
 case round=>
  obtain ⟨k,c,rfl,rfl,hI⟩:=hrel
  by_cases hlt:k<n
  ·obtain ⟨b,o,rfl,hc⟩:=H.out (by omega)
   obtain ⟨x,hx⟩:∃x,f k=x:=⟨_,rfl⟩
   have hxM:x<18446744073709551616:=by rw [←hx];exact HF.out k hlt
   have hS:gQ wr g p:=gQ.below ⟨HW1.out.2⟩ hI.out.2.2 (by omega)
   have hbg:b<g:=by rw [←HG.out];exact block_lt_of_cell (hc k hlt)
   have c1:wr.cell? ⟨b,o+k,none⟩=some (.int .u64 (x:Int)):=by
    rw [hI.out.2.2.cell (p:=⟨b,o+k,none⟩) (show b<g+1 by omega),HW1.out.1.cell (p:=⟨b,o+k,none⟩) hbg,←hx];exact hc k hlt
   have d0:=hS.c0
   have d1:=hS.c1
   have hcl:c≤k:=by rw [hI.out.2.1];exact F64.cnt_le p f 0 k
   have HWX:=qA (HWO.out x wr hxM)
   have HS2:Hid (g+1≤wr.heap.size):=hS.lt
   have HCE:Hid (F64.cnt p f 0 (k+1)=c+(if (F64.wh p x).isSome then 0 else 1)):=by
    show _=_
    rw [F64.cnt_end,Nat.zero_add,hx,hI.out.2.1]
   generalize F64.pow p=P at*
   generalize F64.wh p x=oo at*
   clear hx hc hS
   go_wp2_with fail
   refine HWX.out.mono ?_
   rintro e w2 ⟨rfl,B2⟩
   have HB2:Hid (Below (g+1) W1 w2):=hI.out.2.2.trans (B2.mono HS2.out)
   clear B2
   cases oo with
   |none=>
    simp only [nwV]
    go_wp2_with fail
    go_roundw
    case rel=>exact ⟨k+1,c+1,by simp,by simp,hlt,by rw [HCE.out];rfl,HB2.out⟩
    case measure=>simp [intOf];omega
   |some z=>
    simp only [nwV]
    go_wp2_with fail
    go_roundw
    case rel=>exact ⟨k+1,c,by simp,by simp,hlt,by rw [HCE.out];rfl,HB2.out⟩
    case measure=>simp [intOf];omega
  ·have hk:k=n:=by have:=hI.out.1;omega
   subst hk
   go_wp2_with fail
   go_ret
   exact ⟨by rw [hI.out.2.1];rfl,by rw [HG.out];exact HW1.out.1.trans (hI.out.2.2.mono (by omega))⟩
end Go.Proofs.YtkpmalfigmimaaaGreatDoor
