import Derived.Test.YtkpmalfigmimaaaGreatDoorFK
import Derived.Test.YtkpmalfigmimaaaGreatDoorD1M
import Derived.Test.YtkpmalfigmimaaaGreatDoorT1S
set_option linter.unusedVariables false
set_option linter.unusedSimpArgs false
set_option maxRecDepth 100000
set_option maxHeartbeats 8000000
namespace Go.Proofs.YtkpmalfigmimaaaGreatDoor
open Go.RowKit
open Flt
theorem qJB (x y t:Nat):mZ (Question.cut (.nanBits .f64 x y) t):=by
 show 9218868437227405312<(t%2*2^63+0x7ff0000000000000+1+t/2%(2^52-1))%9223372036854775808∧(t%2*2^63+0x7ff0000000000000+1+t/2%(2^52-1))<18446744073709551616
 have h1:t/2%(2^52-1)<2^52-1:=Nat.mod_lt _ (by omega)
 have h2:t%2<2:=Nat.mod_lt _ (by omega)
 generalize t/2%(2^52-1)=a at*
 generalize t%2=b at*
 omega
theorem dH (b:Nat) (w:World):(callFunc 53 #[.int .u32 b]).run Tryz.prog w= .ok (.value (.float .f32 b)) w:=by
 rw [run_callFunc_extern Tryz.func53 (by kernel_rfl) (by kernel_rfl) (by kernel_rfl) (e:=Extern.MathFloatBits.float32frombits) (by kernel_rfl)]
 rfl
theorem bW (b x:Nat) (w:World) (h:floatToFloatBits .f32 b .f64=some x):Calls Tryz.prog 35 #[.int .u32 b] w fun e w'=>e= .returned (.float .f64 x)∧w'=w:=by
 have hf:=dH b
 have hcv:=fun w:World=>run_convert_float_float (P:=Tryz.prog) w 110 72 .f32 .f64 b x (by kernel_rfl) (by kernel_rfl) h
 go_enter Tryz.func35,Tryz.ntmps35
 go_wp2_with fail
 refine (vI _).mono ?_
 rintro e w1 ⟨rfl,rfl⟩
 go_wp2_with (simp only [hf,hcv])
 go_ret
 exact ⟨rfl,rfl⟩
theorem qCS (s:Bool) (R:Nat) (h:R<9223372036854775808):Ieee.double.word s R<18446744073709551616∧Ieee.double.word s R%9223372036854775808=R∧Ieee.double.word s R/9223372036854775808=s.toNat:=by
 cases s
 ·show R<_∧R%_=R∧R/_=0
  omega
 ·show 9223372036854775808+R<_∧(9223372036854775808+R)%_=R∧(9223372036854775808+R)/_=1
  omega
theorem qLP (f:Nat) (hf:f<4294967296):(sg Ieee.single f).toNat=f/2147483648:=by
 show (f/2147483648%2==1).toNat=_
 have h:f/2147483648=0∨f/2147483648=1:=by omega
 rcases h with h|h<;>rw [h]<;>rfl
theorem uY (f:Nat) (hf:f<4294967296) (h:f%2147483648≤2139095040):∃x,floatToFloatBits .f32 f .f64=some x∧x<18446744073709551616∧x%9223372036854775808≤9218868437227405312∧floatToFloatBits .f64 x .f32=some f∧
  x/9223372036854775808=f/2147483648∧(x%9223372036854775808=9218868437227405312↔f%2147483648=2139095040)∧(f%2147483648<2139095040→V Ieee.double (x%9223372036854775808)=V Ieee.single (f%2147483648)*2^gapE):=by
 have hws:=word_self Ieee.single f (show f<4294967296 from hf)
 have hu:∀(s d:FloatKind) (b:Nat),s≠d→floatToFloatBits s b d=match s.decode b with
   | .nan _ _=>none
   | .infinity s=>some (d.encode (.infinity s))
   | .number s m e=>if (d.decode (d.encode (.number s m e))).isInfinity then none else some (d.encode (.number s m e)):=by
  intro s d b hne
  unfold floatToFloatBits
  rw [if_neg hne]
  cases s.decode b<;>rfl
 rcases Nat.lt_or_ge (f%2147483648) 2139095040 with h1|h1
 ·have hr:rg Ieee.single f<Ieee.single.infRung:=by rw [qLB,qDH];exact h1
  obtain ⟨R,m',k',⟨hR,hV⟩,⟨m,k,e1,e2⟩,e3,e4⟩:=widened f hr
  rw [jM] at hR
  obtain ⟨w1,w2,w3⟩:=qCS (sg Ieee.single f) R (by omega)
  refine ⟨Ieee.double.word (sg Ieee.single f) R,?_,w1,by omega,?_,by rw [w3,qLP f hf],by rw [w2];omega,fun _=>by rw [w2];exact hV⟩
  ·rw [hu _ _ _ (by decide),show FloatKind.f32.decode f=_ from e1]
   show (if (Ieee.double.read (Ieee.double.nearest _ _ _)).isInfinity=true then none else some (Ieee.double.nearest _ _ _))=_
   rw [e2,e3]
   rfl
  ·rw [hu _ _ _ (by decide),show FloatKind.f64.decode _=_ from e3]
   show (if (Ieee.single.read (Ieee.single.nearest _ _ _)).isInfinity=true then none else some (Ieee.single.nearest _ _ _))=_
   rw [e4,hws,e1]
   rfl
 ·have h2:f%2147483648=2139095040:=by omega
  have e1:Ieee.single.read f= .infinity (sg Ieee.single f):=read_inf _ _ (by decide) (by rw [qLB,qDH];exact h2)
  obtain ⟨w1,w2,w3⟩:=qCS (sg Ieee.single f) 9218868437227405312 (by omega)
  have e2:Ieee.double.read (Ieee.double.word (sg Ieee.single f) 9218868437227405312)= .infinity (sg Ieee.single f):=by
   rw [read_inf _ _ (by decide) (by rw [xF,jM];exact w2)]
   rw [sg_word _ _ _ (show 9218868437227405312<9223372036854775808 by omega)]
  refine ⟨Ieee.double.word (sg Ieee.single f) 9218868437227405312,?_,w1,by omega,?_,by rw [w3,qLP f hf],by rw [w2];omega,fun h=>by omega⟩
  ·rw [hu _ _ _ (by decide),show FloatKind.f32.decode f=_ from e1]
   show some (Ieee.double.word _ Ieee.double.infRung)=_
   rw [jM]
  ·rw [hu _ _ _ (by decide),show FloatKind.f64.decode _=_ from e2]
   show some (Ieee.single.word _ Ieee.single.infRung)=_
   rw [qLB,h2] at hws
   rw [qDH,hws]
theorem qHG (f x:Nat) (hf:f<4294967296) (h:f%2147483648≤2139095040) (e:x/9223372036854775808=f/2147483648) (hi:x%9223372036854775808=9218868437227405312↔f%2147483648=2139095040)
  (hv:f%2147483648<2139095040→V Ieee.double (x%9223372036854775808)=V Ieee.single (f%2147483648)*2^gapE):kS x=f:=by
 unfold kS
 rw [e]
 rcases Nat.lt_or_ge (f%2147483648) 2139095040 with h1|h1
 ·have h2:=rnd_scale Ieee.single (V Ieee.single (f%2147483648)) 1 (2^gapE) (Nat.two_pow_pos _)
  rw [Nat.one_mul,rnd_V] at h2
  rw [hv h1,h2]
  omega
 ·have h2:=yO (show 5183643170835005440≤x%9223372036854775808 by rw [hi.2 (by omega)];omega)
  rw [dT] at h2
  rw [Nat.min_eq_right h2]
  omega
def xT (f:Nat):Nat:=f/2147483648*9223372036854775808+9218868437227405312+f%8388608*536870912
def yN (b:Nat):Nat:=b/9223372036854775808*2147483648+2143289344+b/536870912%4194304
theorem lA (f:Nat) (hf:f<4294967296):bits BinOp.and IntKind.u32 (f:Int) 2147483648=((f/2147483648*2147483648:Nat):Int):=by
 by_cases h:f<2147483648
 ·rw [dA f h];have:f/2147483648=0:=by omega
  rw [this];rfl
 ·rw [cZ f (by omega) hf];have:f/2147483648=1:=by omega
  rw [this];rfl
theorem tZ (f n:Nat) (hf:f<4294967296) (hn:n<32):bits BinOp.and IntKind.u32 (f:Int) ((2^n-1:Nat):Int)=((f%2^n:Nat):Int):=by
 have h2:2^n≤2^32:=Nat.pow_le_pow_right (by omega) (by omega)
 have:=u32_and_nat f (2^n-1) hf (by omega)
 rw [Nat.and_two_pow_sub_one_eq_mod] at this;exact this
theorem qDQ (q y n:Nat) (hy:y<2^n) (h:2^n*q+y<18446744073709551616):bits BinOp.or IntKind.u64 ((2^n*q:Nat):Int) (y:Int)=((2^n*q+y:Nat):Int):=by
 rw [u64_or_nat _ _ (by omega) (by omega),←Nat.two_pow_add_eq_or_of_lt hy]
theorem qDP (q y n:Nat) (hy:y<2^n) (h:2^n*q+y<4294967296):bits BinOp.or IntKind.u32 ((2^n*q:Nat):Int) (y:Int)=((2^n*q+y:Nat):Int):=by
 rw [u32_or_nat _ _ (by omega) (by omega),←Nat.two_pow_add_eq_or_of_lt hy]
theorem qI2 (f:Nat) (hf:f<4294967296):bits BinOp.or IntKind.u64 (bits BinOp.or IntKind.u64 (IntKind.u64.wrap (IntKind.u64.wrap (bits BinOp.and IntKind.u32 (f:Int) 2147483648)*4294967296)) 9218868437227405312)
   (IntKind.u64.wrap (IntKind.u64.wrap (bits BinOp.and IntKind.u32 (f:Int) 8388607)*536870912))=((xT f:Nat):Int):=by
 rw [lA f hf,show bits BinOp.and IntKind.u32 (f:Int) 8388607=((f%8388608:Nat):Int) from tZ f 23 hf (by omega)]
 unfold xT
 have hq:f/2147483648<2:=by omega
 have hy:f%8388608<8388608:=by omega
 generalize f/2147483648=q at*
 generalize f%8388608=y at*
 simp only [IntKind.wrap_u64]
 rw [show ((q*2147483648:Nat):Int)%18446744073709551616*4294967296%18446744073709551616=((q*9223372036854775808:Nat):Int) by omega,show ((y:Nat):Int)%18446744073709551616*536870912%18446744073709551616=((y*536870912:Nat):Int) by omega]
 have e1:bits BinOp.or IntKind.u64 ((q*9223372036854775808:Nat):Int) 9218868437227405312=((2^52*(q*2048+2047):Nat):Int):=by
  have h:q=0∨q=1:=by omega
  rcases h with rfl|rfl<;>decide +kernel
 rw [e1,qDQ _ _ _ (by omega) (by omega)]
 omega
theorem tW (f:Nat) (w:World) (hf:f<4294967296) (h:2139095040<f%2147483648):Calls Tryz.prog 20 #[.int .u32 f] w fun e w'=>e= .returned (.int .u64 (xT f:Nat))∧Below w.heap.size w w':=by
 go_enter Tryz.func20,Tryz.ntmps20
 go_wp2_with fail
 refine (yH _).mono ?_
 rintro e w1 ⟨rfl,hb1⟩
 go_wp2_with fail
 refine (bC f _ hf).mono ?_
 rintro e w2 ⟨rfl,hb2⟩
 rw [decide_eq_true h]
 have H2:=jG (hb1.trans (hb2.mono hb1.size))
 clear hb1 hb2
 go_wp2_with fail
 go_ret
 refine ⟨?_,H2.out⟩
 rw [←qI2 f hf]
 rfl
theorem tX (f x:Nat) (w:World) (hf:f<4294967296) (h:¬2139095040<f%2147483648) (hx:floatToFloatBits .f32 f .f64=some x) (hx1:x<18446744073709551616) (hx2:x%9223372036854775808≤9218868437227405312):Calls Tryz.prog 20 #[.int .u32 f] w fun e w'=>e= .returned (.int .u64 x)∧Below w.heap.size w w':=by
 go_enter Tryz.func20,Tryz.ntmps20
 go_wp2_with fail
 refine (yH _).mono ?_
 rintro e w1 ⟨rfl,hb1⟩
 go_wp2_with fail
 refine (bC f _ hf).mono ?_
 rintro e w2 ⟨rfl,hb2⟩
 rw [decide_eq_false h]
 have H2:=jG (hb1.trans (hb2.mono hb1.size))
 clear hb1 hb2
 go_wp2_with fail
 refine (bW f x _ hx).mono ?_
 rintro e w3 ⟨rfl,rfl⟩
 go_wp2_with fail
 refine (zR x _ hx1).mono ?_
 rintro e w4 ⟨rfl,hb4⟩
 rw [wW x hx2]
 go_wp2_with fail
 go_ret
 exact ⟨rfl,H2.out.trans (hb4.mono H2.out.size)⟩
theorem qHF (b:Nat) (hb:b<18446744073709551616):bits BinOp.or IntKind.u32 (bits BinOp.or IntKind.u32 (bits BinOp.and IntKind.u32 ((b:Int)/4294967296) 2147483648) 2143289344)
   (bits BinOp.and IntKind.u32 ((b:Int)/536870912%4294967296) 4194303)=((yN b:Nat):Int):=by
 rw [show (b:Int)/4294967296=((b/4294967296:Nat):Int) by simp,show (b:Int)/536870912%4294967296=((b/536870912%4294967296:Nat):Int) by simp,lA _ (by omega),
  show bits BinOp.and IntKind.u32 ((b/536870912%4294967296:Nat):Int) 4194303=((b/536870912%4294967296%4194304:Nat):Int) from tZ _ 22 (by omega) (by omega)]
 unfold yN
 have e0:b/4294967296/2147483648=b/9223372036854775808:=by omega
 have e1:b/536870912%4294967296%4194304=b/536870912%4194304:=by omega
 rw [e0,e1]
 have hq:b/9223372036854775808<2:=by omega
 have hy:b/536870912%4194304<4194304:=by omega
 generalize b/9223372036854775808=q at*
 generalize b/536870912%4194304=y at*
 have e2:bits BinOp.or IntKind.u32 ((q*2147483648:Nat):Int) 2143289344=((2^22*(q*512+511):Nat):Int):=by
  have h:q=0∨q=1:=by omega
  rcases h with rfl|rfl<;>decide +kernel
 rw [e2,qDP _ _ _ (by omega) (by omega)]
 omega
theorem qCX (b:Nat) (w:World) (hb:b<18446744073709551616) (hx:9218868437227405312<b%9223372036854775808):Calls Tryz.prog 21 #[.int .u64 b] w fun e w'=>e= .returned (.int .u32 (yN b:Nat))∧Below w.heap.size w w':=by
 go_enter Tryz.func21,Tryz.ntmps21
 go_wp2_with fail
 refine (qU _).mono ?_
 rintro e w1 ⟨rfl,hb1⟩
 go_wp2_with fail
 refine (bD b _ hb).mono ?_
 rintro e w2 ⟨rfl,hb2⟩
 rw [decide_eq_true hx]
 have H2:=jG (hb1.trans (hb2.mono hb1.size))
 clear hb1 hb2
 go_wp2_with fail
 go_ret
 refine ⟨?_,H2.out⟩
 rw [←qHF b hb]
 rfl
theorem qE3 (f:Nat) (hf:f<4294967296) (h:2139095040<f%2147483648):xT f<18446744073709551616∧9218868437227405312<xT f%9223372036854775808:=by
 unfold xT;omega
theorem qJR (f:Nat) (hf:f<4294967296) (h:2143289344≤f%2147483648):yN (xT f)=f:=by
 unfold yN xT;omega
end Go.Proofs.YtkpmalfigmimaaaGreatDoor
namespace Go.Proofs.YtkpmalfigmimaaaGreatDoor
open Go.RowKit
def yI (b:Nat):Nat:=if 9218868437227405312<b%9223372036854775808 then yN b else kS b
def wid (f:Nat):Nat:=if 2139095040≤f%2147483648 then xT f else f/2147483648*9223372036854775808+Flt.rnd Ieee.double (Flt.V Ieee.single (f%2147483648)*2^Flt.gapE) 1
theorem qHD (x:Nat) (hx:x<18446744073709551616):kS x<4294967296:=by unfold kS;omega
theorem wD (x:Nat) (hx:x<18446744073709551616):yI x<4294967296:=by
 unfold yI;split
 ·unfold yN;omega
 ·exact qHD x hx
theorem qGF (f x:Nat) (hf:f<4294967296) (h:f%2147483648≤2139095040) (e:x/9223372036854775808=f/2147483648) (hi:x%9223372036854775808=9218868437227405312↔f%2147483648=2139095040)
  (hv:f%2147483648<2139095040→Flt.V Ieee.double (x%9223372036854775808)=Flt.V Ieee.single (f%2147483648)*2^Flt.gapE):wid f=x:=by
 unfold wid
 by_cases h1:2139095040≤f%2147483648
 ·rw [if_pos h1];have:=hi.2 (by omega);unfold xT;omega
 ·rw [if_neg h1,←hv (by omega),Flt.rnd_V,←e];omega
theorem qKZ (f:Nat) (hf:f<4294967296):wid f<18446744073709551616:=by
 by_cases h1:2139095040<f%2147483648
 ·unfold wid;rw [if_pos (by omega)];unfold xT;omega
 ·obtain ⟨x,x1,x2,x3,x4,x5,x6,x7⟩:=uY f hf (by omega)
  rw [qGF f x hf (by omega) x5 x6 x7];exact x2
theorem gS (b:Nat) (w:World) (hb:b<18446744073709551616):Calls Tryz.prog 21 #[.int .u64 b] w fun e w'=>e= .returned (.int .u32 (yI b:Nat))∧Below w.heap.size w w':=by
 unfold yI
 by_cases h:9218868437227405312<b%9223372036854775808
 ·rw [if_pos h];exact qCX b w hb h
 ·rw [if_neg h];exact qCY b w hb h
theorem nN (f:Nat) (w:World) (hf:f<4294967296):Calls Tryz.prog 20 #[.int .u32 f] w fun e w'=>e= .returned (.int .u64 (wid f:Nat))∧Below w.heap.size w w':=by
 by_cases h:2139095040<f%2147483648
 ·unfold wid;rw [if_pos (by omega)];exact tW f w hf h
 ·obtain ⟨x,x1,x2,x3,x4,x5,x6,x7⟩:=uY f hf (by omega)
  rw [qGF f x hf (by omega) x5 x6 x7]
  exact tX f x w hf h x1 x2 x3
end Go.Proofs.YtkpmalfigmimaaaGreatDoor
namespace Go.Proofs.YtkpmalfigmimaaaGreatDoor.M
def zb (u:Nat):List Bool:=
 if u=0 then [false] else if u≤128 then [true,false]++bitsOf (u-1) 7 else if u≤4224 then [true,true,false]++bitsOf (u-129) 12
 else if u≤1052800 then [true,true,true,false]++bitsOf (u-4225) 20 else [true,true,true,true]++bitsOf u 64
theorem zb_0:zb 0=[false]:=rfl
theorem zb_1 (u:Nat) (h1:1≤u) (h2:u≤128):zb u=[true,false]++bitsOf (u-1) 7:=by
 unfold zb;rw [if_neg (by omega),if_pos h2]
theorem zb_2 (u:Nat) (h1:129≤u) (h2:u≤4224):zb u=[true,true,false]++bitsOf (u-129) 12:=by
 unfold zb;rw [if_neg (by omega),if_neg (by omega),if_pos h2]
theorem zb_3 (u:Nat) (h1:4225≤u) (h2:u≤1052800):zb u=[true,true,true,false]++bitsOf (u-4225) 20:=by
 unfold zb;rw [if_neg (by omega),if_neg (by omega),if_neg (by omega),if_pos h2]
theorem zb_4 (u:Nat) (h1:1052801≤u):zb u=[true,true,true,true]++bitsOf u 64:=by
 unfold zb;rw [if_neg (by omega),if_neg (by omega),if_neg (by omega),if_neg (by omega)]
def zbl (u:Nat):Nat:=if u=0 then 1 else if u≤128 then 9 else if u≤4224 then 15 else if u≤1052800 then 24 else 68
theorem zb_length (u:Nat):(zb u).length=zbl u:=by
 unfold zb zbl
 repeat' split
 all_goals simp
theorem zbl_le (u:Nat):zbl u≤68:=by
                      unfold zbl;repeat' split
                      all_goals omega
theorem zb_cases (u:Nat):(u=0∧zb u=[false])∨(1≤u∧u≤128∧zb u=[true,false]++bitsOf (u-1) 7)∨(129≤u∧u≤4224∧zb u=[true,true,false]++bitsOf (u-129) 12)∨
  (4225≤u∧u≤1052800∧zb u=[true,true,true,false]++bitsOf (u-4225) 20)∨(1052801≤u∧zb u=[true,true,true,true]++bitsOf u 64):=by
 by_cases h0:u=0
 ·exact .inl ⟨h0,by rw [h0];rfl⟩
 by_cases h1:u≤128
 ·exact .inr (.inl ⟨by omega,h1,zb_1 u (by omega) h1⟩)
 by_cases h2:u≤4224
 ·exact .inr (.inr (.inl ⟨by omega,h2,zb_2 u (by omega) h2⟩))
 by_cases h3:u≤1052800
 ·exact .inr (.inr (.inr (.inl ⟨by omega,h3,zb_3 u (by omega) h3⟩)))
 ·exact .inr (.inr (.inr (.inr ⟨by omega,zb_4 u (by omega)⟩)))
theorem bits_inj (x y n:Nat) (r r':List Bool) (hx:x<2^n) (hy:y<2^n) (h:bitsOf x n++r=bitsOf y n++r'):x=y∧r=r':=by
 obtain ⟨h1,h2⟩:=List.append_inj h (by simp)
 have:num (bitsOf x n)=num (bitsOf y n):=by rw [h1]
 rw [num_bitsOf,num_bitsOf,Nat.mod_eq_of_lt hx,Nat.mod_eq_of_lt hy] at this
 exact ⟨this,h2⟩
theorem zb_inj (u v:Nat) (r r':List Bool) (hu:u<18446744073709551616) (hv:v<18446744073709551616) (h:zb u++r=zb v++r'):u=v∧r=r':=by
 rcases zb_cases u with ⟨h1,e1⟩|⟨h1,g1,e1⟩|⟨h1,g1,e1⟩|⟨h1,g1,e1⟩|⟨h1,e1⟩<;>
 rcases zb_cases v with ⟨h2,e2⟩|⟨h2,g2,e2⟩|⟨h2,g2,e2⟩|⟨h2,g2,e2⟩|⟨h2,e2⟩<;>rw [e1,e2] at h<;>simp only [List.cons_append,List.nil_append,List.cons.injEq,Bool.false_eq_true,Bool.true_eq_false,false_and,and_false,true_and] at h
 ·exact ⟨by omega,h⟩
 ·obtain ⟨k,hr⟩:=bits_inj _ _ _ _ _ (by omega) (by omega) h;exact ⟨by omega,hr⟩
 ·obtain ⟨k,hr⟩:=bits_inj _ _ _ _ _ (by omega) (by omega) h;exact ⟨by omega,hr⟩
 ·obtain ⟨k,hr⟩:=bits_inj _ _ _ _ _ (by omega) (by omega) h;exact ⟨by omega,hr⟩
 ·obtain ⟨k,hr⟩:=bits_inj _ _ _ _ _ (by omega) (by omega) h;exact ⟨by omega,hr⟩
def zlen (k:Nat):Nat:=if k=0 then 1 else if k=1 then 9 else if k=2 then 15 else if k=3 then 24 else 68
theorem zb_ones (v k:Nat) (hk:k≤4) (r r':List Bool) (h:zb v++r=List.replicate k true++r'):zlen k≤(zb v).length:=by
 have h5:k=0∨k=1∨k=2∨k=3∨k=4:=by omega
 rcases zb_cases v with ⟨h2,e2⟩|⟨h2,g2,e2⟩|⟨h2,g2,e2⟩|⟨h2,g2,e2⟩|⟨h2,e2⟩<;>rw [e2] at h⊢<;>rcases h5 with rfl|rfl|rfl|rfl|rfl<;>
  simp [List.replicate_succ,zlen] at h⊢
theorem take_eq_drop (R l:List Bool) (a b:Nat) (h:R.take b=R.take a++l):R.drop a=l++R.drop b:=by
 have e1:=List.take_append_drop b R
 rw [h,List.append_assoc] at e1
 have e2:R.take a++(l++R.drop b)=R.take a++R.drop a:=by rw [e1,List.take_append_drop]
 exact (List.append_cancel_left e2).symm
theorem tkn_len (R l:List Bool) (a b:Nat) (h:R.take b=R.take a++l) (ha:a≤R.length) (hb:b≤R.length):b=a+l.length:=by
 have:=congrArg List.length h
 simp at this;omega
theorem zb_done (R:List Bool) (a ak a' k:Nat) (laid:List Bool) (u:Nat) (hk4:k≤4) (hu:u<18446744073709551616) (hz:List.replicate k true++laid=zb u) (hl:(zb u).length=zlen k)
  (hk:R.take ak=R.take a++List.replicate k true) (ha:a≤R.length) (hak:ak≤R.length) (e':Int) (hs:e'=0→R.take a'=R.take ak++laid) (hf:ak+laid.length≤R.length→e'=0):
  (e'=0→R.take a'=R.take a++zb u)∧(∀v r,v<18446744073709551616→R.drop a=zb v++r→u=v∧e'=0):=by
 have hS:e'=0→R.take a'=R.take a++zb u:=fun h=>by rw [hs h,hk,List.append_assoc,hz]
 refine ⟨hS,fun v r hv hr=>?_⟩
 have e1:=take_eq_drop R _ a ak hk
 have e2:=tkn_len R _ a ak hk ha hak
 have e3:=zb_ones v k hk4 r (R.drop ak) (by rw [←hr,e1])
 have e4:(R.drop a).length=(zb v).length+r.length:=by rw [hr];simp
 have e5:(zb u).length=k+laid.length:=by rw [←hz];simp
 simp at e2 e4
 have he:e'=0:=hf (by omega)
 have e6:=take_eq_drop R _ a a' (hS he)
 exact ⟨(zb_inj u v _ _ hu hv (by rw [←hr,e6])).1,he⟩
def dif (t p:Int):Nat:=((t-p)%18446744073709551616).toNat
def bend (d a:Nat):Int:=((d:Int)-(a:Int)+9223372036854775808)%18446744073709551616-9223372036854775808
def I64 (x:Int):Prop:= -9223372036854775808≤x∧x≤9223372036854775807
theorem dif_lt (t p:Int):dif t p<18446744073709551616:=by unfold dif;omega
theorem bend_range (d a:Nat):I64 (bend d a):=by unfold bend I64;omega
theorem zig_lt' (x:Int) (h:I64 x):zig x<18446744073709551616:=by unfold zig;obtain ⟨h1,h2⟩:=h;split<;>omega
theorem zig_inj (x y:Int) (h:zig x=zig y):x=y:=by unfold zig at h;split at h<;>split at h<;>omega
theorem dif_inj (t t' p:Int) (h:I64 t) (h':I64 t') (e:dif t p=dif t' p):t=t':=by
 unfold dif at e;obtain ⟨h1,h2⟩:=h;obtain ⟨h3,h4⟩:=h';omega
theorem bend_inj (d d' a:Nat) (h:d<18446744073709551616) (h':d'<18446744073709551616) (e:bend d a=bend d' a):d=d':=by
 unfold bend at e;omega
def ahd (f:Nat→Int):Nat→Nat
 |0=>0
 |i+1=>dif (f (i+1)) (f i)
theorem ahd_lt (f:Nat→Int) (i:Nat):ahd f i<18446744073709551616:=by
 cases i with
 |zero=>simp [ahd]
 |succ i=>exact dif_lt _ _
def zg (f:Nat→Int) (i:Nat):Nat:=zig (bend (dif (f (i+1)) (f i)) (ahd f i))
theorem zg_lt (f:Nat→Int) (i:Nat):zg f i<18446744073709551616:=zig_lt' _ (bend_range _ _)
def u64 (x:Int):Nat:=(x%18446744073709551616).toNat
theorem u64_lt (x:Int):u64 x<18446744073709551616:=by unfold u64;omega
theorem u64_inj (x y:Int) (hx:I64 x) (hy:I64 y) (h:u64 x=u64 y):x=y:=by
 unfold u64 at h;obtain ⟨h1,h2⟩:=hx;obtain ⟨h3,h4⟩:=hy;omega
def tbn (f:Nat→Int):Nat→List Bool
 |0=>[]
 |1=>bitsOf (u64 (f 0)) 64
 |n+2=>tbn f (n+1)++zb (zg f n)
theorem tbn_one (f:Nat→Int):tbn f 1=bitsOf (u64 (f 0)) 64:=rfl
theorem tbn_step (f:Nat→Int) (n:Nat):tbn f (n+2)=tbn f (n+1)++zb (zg f n):=rfl
theorem zg_congr (f g:Nat→Int) (i:Nat) (h:∀j,j≤i+1→f j=g j):zg f i=zg g i:=by
 unfold zg
 rw [h (i+1) (by omega),h i (by omega)]
 cases i with
 |zero=>rfl
 |succ i=>simp only [ahd];rw [h (i+1) (by omega),h i (by omega)]
theorem tbn_congr (f g:Nat→Int):∀n,(∀i,i<n→f i=g i)→tbn f n=tbn g n
 |0,_=>rfl
 |1,h=>by rw [tbn_one,tbn_one,h 0 (by omega)]
 |n+2,h=>by rw [tbn_step,tbn_step,tbn_congr f g (n+1) (fun i hi=>h i (by omega)),zg_congr f g n (fun j hj=>h j (by omega))]
theorem tbn_pre (f:Nat→Int) (n:Nat):∃r,tbn f (n+1)=tbn f n++r:=by
 cases n with
 |zero=>exact ⟨_,rfl⟩
 |succ n=>exact ⟨_,rfl⟩
theorem tbn_prefix (f:Nat→Int) (n m:Nat) (h:n≤m):∃r,tbn f m=tbn f n++r:=by
 induction m with
 |zero=>
      obtain rfl:n=0:=by omega
      exact ⟨[],rfl⟩
 |succ m ih=>
  by_cases e:n=m+1
  ·subst e;exact ⟨[],by simp⟩
  ·obtain ⟨r,hr⟩:=ih (by omega)
   obtain ⟨r2,hr2⟩:=tbn_pre f m
   exact ⟨r++r2,by rw [hr2,hr,List.append_assoc]⟩
theorem zg_inj (f g:Nat→Int) (i:Nat) (hf:I64 (f (i+1))) (hg:I64 (g (i+1))) (h:∀j,j≤i→f j=g j) (e:zg f i=zg g i):f (i+1)=g (i+1):=by
 have e1:=zig_inj _ _ e
 have ea:ahd f i=ahd g i:=by
  cases i with
  |zero=>rfl
  |succ i=>simp only [ahd];rw [h (i+1) (by omega),h i (by omega)]
 rw [ea,h i (by omega)] at e1
 exact dif_inj _ _ _ hf hg (bend_inj _ _ _ (dif_lt _ _) (dif_lt _ _) e1)
theorem tbn_length (f:Nat→Int):∀n,(tbn f (n+1)).length≤64+68*n
 |0=>by rw [tbn_one];simp
 |n+1=>by
  rw [tbn_step]
  have:=tbn_length f n
  have:=zbl_le (zg f n)
  rw [List.length_append,zb_length];omega
theorem tbn_length' (f:Nat→Int) (n:Nat):(tbn f n).length≤68*n:=by
 cases n with
 |zero=>simp [tbn]
 |succ n=>have:=tbn_length f n;omega
def Rises (f:Nat→Int) (n:Nat):Prop:=∀i,i+1<n→f i<f (i+1)
theorem take_next (p:Int) (a u:Nat) (hp:I64 p) (y:Int) (hy:zig y=u) (hyr:I64 y) (d:Nat) (hd:(d:Int)=((a:Int)+y)%18446744073709551616) (t:Int)
  (ht:t=(p+(d:Int)+9223372036854775808)%18446744073709551616-9223372036854775808):I64 t∧dif t p=d∧bend (dif t p) a=y∧zig (bend (dif t p) a)=u:=by
 obtain ⟨h1,h2⟩:=hp
 obtain ⟨h3,h4⟩:=hyr
 have e1:dif t p=d:=by unfold dif;omega
 have e2:bend (dif t p) a=y:=by rw [e1];unfold bend;omega
 exact ⟨⟨by omega,by omega⟩,e1,e2,by rw [e2,hy]⟩
end Go.Proofs.YtkpmalfigmimaaaGreatDoor.M
namespace Go.Proofs.YtkpmalfigmimaaaGreatDoor
open Go.RowKit
open M
theorem qE7 (x:Int) (w:World) (hx:I64 x):Calls Tryz.prog 103 #[.int .i64 x] w fun e w'=>e= .returned (.int .u64 (zig x:Int))∧w'=w:=by
 obtain ⟨h1,h2⟩:=hx
 have hz:=qGN x h1 h2
 go_enter Tryz.func103,Tryz.ntmps103
 go_wp2
 go_ret
 exact ⟨rfl,rfl⟩
theorem qA9 (u:Nat) (w:World) (hu:u<18446744073709551616):Calls Tryz.prog 98 #[.int .u64 u] w fun e w'=>e= .returned (.int .i64 (zag u))∧w'=w:=by
 have hz:=qGL u hu
 go_enter Tryz.func98,Tryz.ntmps98
 go_wp2
 go_ret
 exact ⟨rfl,rfl⟩
theorem rX (b off lo:Nat) (u:Nat) (w:World) (l:List Bool) (hW:Wr w lo b off l 0) (hb:b<lo) (hlo:lo≤w.heap.size)
  (hlen:l.length<1000000000) (hu:u<18446744073709551616):
  Calls Tryz.prog 102 #[.pointer (some ⟨b,off,none⟩),.int .u64 u] w fun e w'=>e= .returned (.tuple #[])∧Wr w' lo b off (l++zb u) 0∧qJ b off (off+123) w w':=by
 have HW:=qA hW
 have HL:=qA hlen
 have HU:=qA hu
 clear hW hlen
 by_cases c1:u<1
 ·obtain rfl:u=0:=by omega
  have HZ:=qA zb_0
  go_enter Tryz.func102,Tryz.ntmps102
  go_wp2_with fail
  refine kH 4 ?_
  go_wp2_with fail
  refine (qK b off lo 1 0 w l HW.out hb hlo (by have:=HL.out;omega) (by omega) (by omega) (by omega)).mono ?_
  rintro e w1 ⟨rfl,W1,O1⟩
  go_wp2_with fail
  refine vN ?_
  refine bodyPost_ret (results_none rfl _ _ _) rfl ?_
  exact ⟨rfl,by rw [HZ.out];exact W1,O1⟩
 by_cases c2:u<129
 ·have HZ:=qA (zb_1 u (by omega) (by omega))
  have k1:(1:Int)≤(u:Int):=by omega
  have k2:¬(129:Int)≤(u:Int):=by omega
  go_enter Tryz.func102,Tryz.ntmps102
  go_wp2_with fail
  refine kH 4 ?_
  go_wp2_with fail
  refine wp_goto ?_
  refine kI 3 rfl ?_
  go_wp2_with fail
  refine (qK b off lo 2 2 w l HW.out hb hlo (by have:=HL.out;omega) (by omega) (by omega) (by omega)).mono ?_
  rintro e w1 ⟨rfl,W1,O1⟩
  have s1:=O1.size
  have e1:((u:Int)-1)=((u-1:Nat):Int):=by omega
  go_wp2_with fail
  refine (qK b off lo 7 (u-1) w1 _ W1 hb (by omega) (by have:=HL.out;simp;omega) (by omega) (by omega) (by omega)).mono ?_
  rintro e w2 ⟨rfl,W2,O2⟩
  go_wp2_with fail
  refine vN ?_
  refine bodyPost_ret (results_none rfl _ _ _) rfl ?_
  exact ⟨rfl,by rw [HZ.out,←List.append_assoc];exact W2,O1.trans O2⟩
 by_cases c3:u<4225
 ·have HZ:=qA (zb_2 u (by omega) (by omega))
  have k1:(1:Int)≤(u:Int):=by omega
  have k2:(129:Int)≤(u:Int):=by omega
  have k3:¬(4225:Int)≤(u:Int):=by omega
  go_enter Tryz.func102,Tryz.ntmps102
  go_wp2_with fail
  refine kH 4 ?_
  go_wp2_with fail
  refine wp_goto ?_
  refine kI 3 rfl ?_
  go_wp2_with fail
  refine wp_goto ?_
  refine kI 2 rfl ?_
  go_wp2_with fail
  refine (qK b off lo 3 6 w l HW.out hb hlo (by have:=HL.out;omega) (by omega) (by omega) (by omega)).mono ?_
  rintro e w1 ⟨rfl,W1,O1⟩
  have s1:=O1.size
  have e1:((u:Int)-129)=((u-129:Nat):Int):=by omega
  go_wp2_with fail
  refine (qK b off lo 12 (u-129) w1 _ W1 hb (by omega) (by have:=HL.out;simp;omega) (by omega) (by omega) (by omega)).mono ?_
  rintro e w2 ⟨rfl,W2,O2⟩
  go_wp2_with fail
  refine vN ?_
  refine bodyPost_ret (results_none rfl _ _ _) rfl ?_
  exact ⟨rfl,by rw [HZ.out,←List.append_assoc];exact W2,O1.trans O2⟩
 by_cases c4:u<1052801
 ·have HZ:=qA (zb_3 u (by omega) (by omega))
  have k1:(1:Int)≤(u:Int):=by omega
  have k2:(129:Int)≤(u:Int):=by omega
  have k3:(4225:Int)≤(u:Int):=by omega
  have k4:decide ((1052801:Int)≤(u:Int))=false:=by rw [decide_eq_false_iff_not];omega
  have C4:=qA c4
  clear c4
  go_enter Tryz.func102,Tryz.ntmps102
  go_wp2_with fail
  refine kH 4 ?_
  go_wp2_with fail
  refine wp_goto ?_
  refine kI 3 rfl ?_
  go_wp2_with fail
  refine wp_goto ?_
  refine kI 2 rfl ?_
  go_wp2_with fail
  refine wp_goto ?_
  refine kI 1 rfl ?_
  go_wp2_with fail
  refine (qK b off lo 4 14 w l HW.out hb hlo (by have:=HL.out;omega) (by omega) (by omega) (by omega)).mono ?_
  rintro e w1 ⟨rfl,W1,O1⟩
  have s1:=O1.size
  have e1:((u:Int)-4225)=((u-4225:Nat):Int):=by omega
  go_wp2_with fail
  refine (qK b off lo 20 (u-4225) w1 _ W1 hb (by omega) (by have:=HL.out;simp;omega) (by omega) (by omega) (by have:=C4.out;omega)).mono ?_
  rintro e w2 ⟨rfl,W2,O2⟩
  go_wp2_with fail
  refine vN ?_
  refine bodyPost_ret (results_none rfl _ _ _) rfl ?_
  exact ⟨rfl,by rw [HZ.out,←List.append_assoc];exact W2,O1.trans O2⟩
 ·have HZ:=qA (zb_4 u (by omega))
  have k1:(1:Int)≤(u:Int):=by omega
  have k2:(129:Int)≤(u:Int):=by omega
  have k3:(4225:Int)≤(u:Int):=by omega
  have k4:(1052801:Int)≤(u:Int):=by omega
  go_enter Tryz.func102,Tryz.ntmps102
  go_wp2_with fail
  refine kH 4 ?_
  go_wp2_with fail
  refine wp_goto ?_
  refine kI 3 rfl ?_
  go_wp2_with fail
  refine wp_goto ?_
  refine kI 2 rfl ?_
  go_wp2_with fail
  refine wp_goto ?_
  refine kI 1 rfl ?_
  go_wp2_with fail
  refine wp_goto ?_
  refine kI 0 rfl ?_
  go_wp2_with fail
  refine (qK b off lo 4 15 w l HW.out hb hlo (by have:=HL.out;omega) (by omega) (by omega) (by omega)).mono ?_
  rintro e w1 ⟨rfl,W1,O1⟩
  have s1:=O1.size
  go_wp2_with fail
  refine (qK b off lo 64 u w1 _ W1 hb (by omega) (by have:=HL.out;simp;omega) (by omega) HU.out (by have:=HU.out;omega)).mono ?_
  rintro e w2 ⟨rfl,W2,O2⟩
  go_wp2_with fail
  refine qEH ?_
  go_end0
  exact ⟨rfl,by rw [HZ.out,←List.append_assoc];exact W2,O1.trans O2⟩
end Go.Proofs.YtkpmalfigmimaaaGreatDoor
