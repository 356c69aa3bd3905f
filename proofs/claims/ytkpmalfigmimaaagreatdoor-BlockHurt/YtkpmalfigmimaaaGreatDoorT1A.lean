import Derived.Test.YtkpmalfigmimaaaGreatDoorRC
import Derived.Test.YtkpmalfigmimaaaGreatDoorB1W
set_option linter.unusedVariables false
set_option linter.unusedSimpArgs false
set_option maxRecDepth 100000
set_option maxHeartbeats 8000000
namespace Go.Proofs.YtkpmalfigmimaaaGreatDoor
open Go.RowKit
open Flt
theorem qJ8 (x:Nat) (w:World) (hx:x<18446744073709551616):Calls Tryz.prog 85 #[.float .f64 x] w fun e w'=>e= .returned (.float .f64 (x%9223372036854775808))∧w'=w:=by
 have ht:=xZ x
 have hab:=qAT x hx
 have hf:=zI (x%9223372036854775808)
 generalize x%9223372036854775808=r at*
 clear hx
 go_enter Tryz.func85,Tryz.ntmps85
 go_wp2_with (simp only [ht,hab,hf])
 go_ret
 exact ⟨rfl,rfl⟩
theorem lN (x:Nat) (hx:x<18446744073709551616):bits BinOp.and IntKind.u64 (x:Int) 9223372036854775808=((x/9223372036854775808*9223372036854775808:Nat):Int):=by
 by_cases h:x<9223372036854775808
 ·rw [pF x h];have:x/9223372036854775808=0:=by omega
  rw [this];rfl
 ·rw [pE x (by omega) hx];have:x/9223372036854775808=1:=by omega
  rw [this];rfl
theorem qI9 (q y:Nat) (hq:q<2) (hy:y<9223372036854775808):bits BinOp.or IntKind.u64 (y:Int) ((q*9223372036854775808:Nat):Int)=((q*9223372036854775808+y:Nat):Int):=by
 have h:q=0∨q=1:=by omega
 rcases h with rfl|rfl
 ·have:=u64_or_nat y 0 (by omega) (by omega)
  rw [Nat.or_zero] at this
  rw [Nat.zero_mul,Nat.zero_add];exact this
 ·have:=lO y hy
  rw [Nat.one_mul];exact this
theorem qDO (f:Nat) (hf:f<4294967296):bits BinOp.and IntKind.u32 (f:Int) 2147483648=((f/2147483648*2147483648:Nat):Int):=by
 by_cases h:f<2147483648
 ·rw [dJ f h];have:f/2147483648=0:=by omega
  rw [this];rfl
 ·rw [dI f (by omega) hf];have:f/2147483648=1:=by omega
  rw [this];rfl
theorem tT (y x:Nat) (w:World) (hy:y<9223372036854775808) (hx:x<18446744073709551616):Calls Tryz.prog 87 #[.float .f64 y,.float .f64 x] w fun e w'=>e= .returned (.float .f64 (x/9223372036854775808*9223372036854775808+y))∧w'=w:=by
 have ht:=xZ x
 have ht2:=xZ y
 have hab:=qAT y (by omega)
 rw [Nat.mod_eq_of_lt hy] at hab
 have h1:=lN x hx
 have h2:=qI9 (x/9223372036854775808) y (by omega) hy
 have hf:=zI (x/9223372036854775808*9223372036854775808+y)
 generalize x/9223372036854775808*9223372036854775808+y=r at*
 generalize x/9223372036854775808*9223372036854775808=t at*
 clear hx hy
 go_enter Tryz.func87,Tryz.ntmps87
 go_wp2_with (simp only [ht,ht2,hab,h1,h2,hf])
 go_ret
 exact ⟨rfl,rfl⟩
theorem fR (a b:Nat) (ha:a≤9218868437227405312) (hb:b≤9218868437227405312):Ieee.double.order a b=some (if a<b then .lt else if b<a then .gt else .eq):=by
 have ra:rg Ieee.double a=a:=by rw [xP];omega
 have rb:rg Ieee.double b=b:=by rw [xP];omega
 have sa:∀x,x≤9218868437227405312→sg Ieee.double x=false:=by
  intro x hx
  show (x/9223372036854775808%2==1)=false
  rw [show x/9223372036854775808=0 by omega];rfl
 rw [order_all _ (by decide) _ _ (by rw [ra,jM];exact ha) (by rw [rb,jM];exact hb)]
 unfold sv
 rw [sa a ha,sa b hb,ra,rb]
 simp only [Bool.false_eq_true,if_false]
 rcases Nat.lt_trichotomy a b with h|h|h
 ·rw [if_pos h,cmp_lt (by have:=V_lt (f:=Ieee.double) h;omega)]
 ·subst h;rw [if_neg (by omega),if_neg (by omega),cmp_eq]
 ·rw [if_neg (by omega),if_pos h,cmp_gt (by have:=V_lt (f:=Ieee.double) h;omega)]
def kP (x:Nat):Nat:=x/9223372036854775808*2147483648+min (rnd Ieee.single (V Ieee.double (x%9223372036854775808)) (2^gapE)) 2139095040
theorem qGP:rnd Ieee.single (V Ieee.double 5183643170566569984) (2^gapE)=2139095039:=by decide +kernel
theorem qID:rnd Ieee.single (V Ieee.double 5183643170835005439) (2^gapE)=2139095039:=by decide +kernel
theorem rD:rnd Ieee.single (V Ieee.double 5183643170835005440) (2^gapE)=2139095040:=by decide +kernel
theorem yO {r s:Nat} (h:r≤s):rnd Ieee.single (V Ieee.double r) (2^gapE)≤rnd Ieee.single (V Ieee.double s) (2^gapE):=
 rnd_mono _ (by decide) _ _ _ _ (Nat.two_pow_pos _) (Nat.two_pow_pos _) (Nat.mul_le_mul_right _ (V_le h))
theorem qLL (s:Bool) (R:Nat) (h:R<2147483648):Ieee.single.word s R=s.toNat*2147483648+R:=by
 cases s
 ·show R=0*2147483648+R;omega
 ·show 2147483648+R=1*2147483648+R;omega
theorem qDY (x:Nat) (hx:x<18446744073709551616) (h:x%9223372036854775808≤5183643170566569984):floatToFloatBits .f64 x .f32=some (kP x):=by
 have hu:∀(s d:FloatKind) (b:Nat),s≠d→floatToFloatBits s b d=match s.decode b with
   | .nan _ _=>none
   | .infinity s=>some (d.encode (.infinity s))
   | .number s m e=>if (d.decode (d.encode (.number s m e))).isInfinity then none else some (d.encode (.number s m e)):=by
  intro s d b hne
  unfold floatToFloatBits
  rw [if_neg hne]
  cases s.decode b<;>rfl
 have hr:rg Ieee.double x<Ieee.double.infRung:=by rw [xP,jM];omega
 obtain ⟨m,k,e1,e2,_⟩:=read_fin Ieee.double x hr
 have e3:=narrow_rnd x hr _ _ _ e1
 rw [xP,qE2] at e3
 have hle:rnd Ieee.single (V Ieee.double (x%9223372036854775808)) (2^gapE)≤2139095039:=by rw [←qGP];exact yO h
 unfold kP
 generalize rnd Ieee.single (V Ieee.double (x%9223372036854775808)) (2^gapE)=R at*
 obtain ⟨R',hR',hRl⟩:∃R',min R 2139095040=R'∧R'<2139095040:=⟨_,rfl,by omega⟩
 rw [hR'] at e3⊢
 have hw:=qLL (sg Ieee.double x) R' (by omega)
 have hs:(sg Ieee.double x).toNat=x/9223372036854775808:=by
  show (x/9223372036854775808%2==1).toNat=_
  have h:x/9223372036854775808=0∨x/9223372036854775808=1:=by omega
  rcases h with h|h<;>rw [h]<;>rfl
 rw [hs] at hw
 have hr2:rg Ieee.single (Ieee.single.word (sg Ieee.double x) R')<Ieee.single.infRung:=by
  have hsw:R'<Ieee.single.signWeight:=by show R'<2147483648;omega
  rw [rg_word _ _ _ hsw,qE2];exact hRl
 obtain ⟨m',k',g1,_⟩:=read_fin Ieee.single _ hr2
 have hd:FloatKind.f64.decode x= .number (sg Ieee.double x) m (Ieee.double.leastPlace+(k:Int)):=e1
 have he:FloatKind.f32.encode (.number (sg Ieee.double x) m (Ieee.double.leastPlace+(k:Int)))=Ieee.single.word (sg Ieee.double x) R':=e3
 have hf:FloatKind.f32.decode (Ieee.single.word (sg Ieee.double x) R')=_:=g1
 rw [hu _ _ _ (by decide),hd]
 simp only [he,hf,Ieee.Datum.isInfinity]
 rw [hw]
 rfl
theorem qGS (w:World) (a b:Nat) (ts:Array TypeId) (t:TypeId) (ha:a≤9218868437227405312) (hb:b≤9218868437227405312):(Builtin.min_ ts t #[.float .f64 a,.float .f64 b]).run Tryz.prog w= .ok (.float .f64 (min a b)) w:=by
 have h:FloatKind.f64.format.order a b=_:=fR a b ha hb
 have hd:(FloatKind.f64.decode a).neg=sg Ieee.double a∨a=b:=by
  by_cases e:a=b
  ·exact .inr e
  ·left
   rcases Nat.lt_or_ge a 9218868437227405312 with h1|h1
   ·obtain ⟨m,k,e1,_⟩:=read_fin Ieee.double a (by rw [xP,jM];omega)
    rw [show FloatKind.f64.decode a=_ from e1];rfl
   ·rw [show FloatKind.f64.decode a=_ from read_inf Ieee.double a (by decide) (by rw [xP,jM];omega)];rfl
 unfold Builtin.min_
 simp only [List.foldlM,Builtin.min2,h]
 rcases Nat.lt_trichotomy a b with h1|h1|h1
 ·simp [h1,Nat.min_eq_left (Nat.le_of_lt h1)]
 ·subst h1;simp
 ·simp [Nat.lt_asymm h1,h1,Nat.min_eq_right (Nat.le_of_lt h1)]
theorem fO (x:Nat) (w:World) (hx:x<18446744073709551616) (hn:x%9223372036854775808≤9218868437227405312):Calls Tryz.prog 57 #[.float .f64 x] w fun e w'=>e= .returned (.int .u32 (kP x:Nat))∧w'=w:=by
 obtain ⟨r,hr,hrl⟩:∃r,x%9223372036854775808=r∧r≤9218868437227405312:=⟨_,rfl,hn⟩
 have ho:FloatKind.f64.format.order r 5183643170835005440=_:=fR r 5183643170835005440 hrl (by omega)
 have HA:=jF (fun w:World=>qJ8 x w hx)
 rw [hr] at HA
 by_cases h:5183643170835005440≤r
 ·have ho':FloatKind.f64.format.order r 5183643170835005440=some .gt∨FloatKind.f64.format.order r 5183643170835005440=some .eq:=by
   rw [ho,if_neg (by omega)]
   by_cases e:5183643170835005440<r
   ·left;rw [if_pos e]
   ·right;rw [if_neg e]
  have ht:=xZ x
  have e0:kP x=x/9223372036854775808*2147483648+2139095040:=by
   unfold kP
   have:=yO h
   rw [rD] at this
   rw [hr,Nat.min_eq_right this]
  have h1:bits BinOp.and IntKind.u32 ((x:Int)/4294967296) 2147483648=((x/9223372036854775808*2147483648:Nat):Int):=by
   rw [show (x:Int)/4294967296=((x/4294967296:Nat):Int) by simp,qDO _ (by omega),show x/4294967296/2147483648=x/9223372036854775808 by omega]
  have h2:bits BinOp.or IntKind.u32 ((x/9223372036854775808*2147483648:Nat):Int) 2139095040=((kP x:Nat):Int):=by
   rw [e0]
   have h:x/9223372036854775808=0∨x/9223372036854775808=1:=by omega
   rcases h with h|h<;>rw [h]<;>decide +kernel
  have hxl:(x:Int)/4294967296<4294967296:=by omega
  have hx0:(0:Int)≤(x:Int)/4294967296:=by omega
  generalize kP x=y at*
  generalize x/9223372036854775808*2147483648=t at*
  clear ho hrl hn hr h e0
  rcases ho' with ho|ho
  all_goals
   go_enter Tryz.func57,Tryz.ntmps57
   go_wp2_with fail
   refine (HA.out _).mono ?_
   rintro e w1 ⟨rfl,rfl⟩
   go_wp2_with (simp only [ho,ht,h1,h2])
   go_ret
   exact ⟨rfl,rfl⟩
 ·have ho':FloatKind.f64.format.order r 5183643170835005440=some .lt:=by rw [ho,if_pos (by omega)]
  have hm:=fun w:World=>qGS w r 5183643170566569984 #[72,72] 72 hrl (by omega)
  obtain ⟨y,hy,hyl⟩:∃y,min r 5183643170566569984=y∧y≤5183643170566569984:=⟨_,rfl,by omega⟩
  rw [hy] at hm
  have HC:=jF (fun w:World=>tT y x w (by omega) hx)
  obtain ⟨z,hz⟩:∃z,x/9223372036854775808*9223372036854775808+y=z:=⟨_,rfl⟩
  rw [hz] at HC
  have hzr:z%9223372036854775808=y:=by omega
  have hzs:z/9223372036854775808=x/9223372036854775808:=by omega
  have hcb:=qDY z (by omega) (by omega)
  have e0:kP z=kP x:=by
   unfold kP
   rw [hzr,hzs,hr]
   have h5:rnd Ieee.single (V Ieee.double y) (2^gapE)=rnd Ieee.single (V Ieee.double r) (2^gapE):=by
    rcases Nat.le_total r 5183643170566569984 with h6|h6
    ·rw [←hy,Nat.min_eq_left h6]
    ·rw [←hy,Nat.min_eq_right h6]
     have a1:=yO h6
     have a2:=yO (show r≤5183643170835005439 by omega)
     rw [qGP] at a1⊢
     rw [qID] at a2
     omega
   rw [h5]
  rw [e0] at hcb
  have ht:=qD4 (kP x)
  have hcv:=fun w:World=>run_convert_float_float (P:=Tryz.prog) w 72 110 .f64 .f32 z (kP x) (by kernel_rfl) (by kernel_rfl) hcb
  generalize kP x=q at*
  clear ho hrl hn hr h hy hyl hz hzr hzs e0 hcb
  go_enter Tryz.func57,Tryz.ntmps57
  go_wp2_with fail
  refine (HA.out _).mono ?_
  rintro e w1 ⟨rfl,rfl⟩
  go_wp2_with (simp only [ho',hm])
  refine (HC.out _).mono ?_
  rintro e w1 ⟨rfl,rfl⟩
  go_wp2_with (simp only [ht,hcv])
  go_ret
  exact ⟨rfl,rfl⟩
def sV (x:Nat):Nat:=if 9218868437227405312<x%9223372036854775808 then 2143289344 else kP x
theorem gC (x:Nat) (hx:x%9223372036854775808≤9218868437227405312):sV x=kP x:=if_neg (by omega)
theorem bU (x:Nat) (hx:9218868437227405312<x%9223372036854775808):sV x=2143289344:=if_pos hx
theorem zR (x:Nat) (w:World) (hx:x<18446744073709551616):Calls Tryz.prog 37 #[.float .f64 x] w fun e w'=>e= .returned (.int .u32 (sV x:Nat))∧Below w.heap.size w w':=by
 by_cases h:9218868437227405312<x%9223372036854775808
 ·rw [bU x h]
  go_enter Tryz.func37,Tryz.ntmps37
  go_wp2_with fail
  refine (kU x _).mono ?_
  rintro e w1 ⟨rfl,rfl⟩
  rw [decide_eq_true h]
  go_wp2_with fail
  refine (yF _).mono ?_
  rintro e w2 ⟨rfl,hb2⟩
  go_wp2_with fail
  refine (qAD _).mono ?_
  rintro e w3 ⟨rfl,hb3⟩
  go_wp2_with fail
  go_ret
  exact ⟨rfl,hb2.trans (hb3.mono hb2.size)⟩
 ·rw [gC x (by omega)]
  have HN:=jF (fun w:World=>fO x w hx (by omega))
  go_enter Tryz.func37,Tryz.ntmps37
  go_wp2_with fail
  refine (kU x _).mono ?_
  rintro e w1 ⟨rfl,rfl⟩
  rw [decide_eq_false h]
  go_wp2_with fail
  refine (vK _).mono ?_
  rintro e w2 ⟨rfl,rfl⟩
  go_wp2_with fail
  refine (HN.out _).mono ?_
  rintro e w2 ⟨rfl,rfl⟩
  go_wp2_with fail
  go_ret
  exact ⟨rfl,Below.refl _ _⟩
theorem qDH (b:Nat) (w:World) (hb:b<18446744073709551616) (hx:¬9218868437227405312<b%9223372036854775808):Calls Tryz.prog 21 #[.int .u64 b] w fun e w'=>e= .returned (.int .u32 (kP b:Nat))∧Below w.heap.size w w':=by
 have HP:=jF (fun w:World=>zR b w hb)
 rw [gC b (by omega)] at HP
 go_enter Tryz.func21,Tryz.ntmps21
 go_wp2_with fail
 refine (qS _).mono ?_
 rintro e w1 ⟨rfl,hb1⟩
 go_wp2_with fail
 refine (bH b _ hb).mono ?_
 rintro e w2 ⟨rfl,hb2⟩
 rw [decide_eq_false hx]
 have H2:=jF (hb1.trans (hb2.mono hb1.size))
 clear hb1 hb2
 go_wp2_with fail
 refine (jG b _).mono ?_
 rintro e w3 ⟨rfl,rfl⟩
 go_wp2_with fail
 refine (HP.out _).mono ?_
 rintro e w4 ⟨rfl,hb4⟩
 go_wp2_with fail
 go_ret
 exact ⟨rfl,H2.out.trans (hb4.mono H2.out.size)⟩
end Go.Proofs.YtkpmalfigmimaaaGreatDoor
namespace Go.Proofs.YtkpmalfigmimaaaGreatDoor
open Go.RowKit
open Flt
theorem qJV (x y t:Nat):nG (Question.cut (.nanBits .f64 x y) t):=by
 show 9218868437227405312<(t%2*2^63+0x7ff0000000000000+1+t/2%(2^52-1))%9223372036854775808∧(t%2*2^63+0x7ff0000000000000+1+t/2%(2^52-1))<18446744073709551616
 have h1:t/2%(2^52-1)<2^52-1:=Nat.mod_lt _ (by omega)
 have h2:t%2<2:=Nat.mod_lt _ (by omega)
 generalize t/2%(2^52-1)=a at*
 generalize t%2=b at*
 omega
theorem dQ (b:Nat) (w:World):(callFunc 53 #[.int .u32 b]).run Tryz.prog w= .ok (.value (.float .f32 b)) w:=by
 rw [run_callFunc_extern Tryz.func53 (by kernel_rfl) (by kernel_rfl) (by kernel_rfl) (e:=Extern.MathFloatBits.float32frombits) (by kernel_rfl)]
 rfl
theorem cF (b x:Nat) (w:World) (h:floatToFloatBits .f32 b .f64=some x):Calls Tryz.prog 35 #[.int .u32 b] w fun e w'=>e= .returned (.float .f64 x)∧w'=w:=by
 have hf:=dQ b
 have hcv:=fun w:World=>run_convert_float_float (P:=Tryz.prog) w 110 72 .f32 .f64 b x (by kernel_rfl) (by kernel_rfl) h
 go_enter Tryz.func35,Tryz.ntmps35
 go_wp2_with fail
 refine (vK _).mono ?_
 rintro e w1 ⟨rfl,rfl⟩
 go_wp2_with (simp only [hf,hcv])
 go_ret
 exact ⟨rfl,rfl⟩
theorem qD9 (s:Bool) (R:Nat) (h:R<9223372036854775808):Ieee.double.word s R<18446744073709551616∧Ieee.double.word s R%9223372036854775808=R∧Ieee.double.word s R/9223372036854775808=s.toNat:=by
 cases s
 ·show R<_∧R%_=R∧R/_=0
  omega
 ·show 9223372036854775808+R<_∧(9223372036854775808+R)%_=R∧(9223372036854775808+R)/_=1
  omega
theorem qMA (f:Nat) (hf:f<4294967296):(sg Ieee.single f).toNat=f/2147483648:=by
 show (f/2147483648%2==1).toNat=_
 have h:f/2147483648=0∨f/2147483648=1:=by omega
 rcases h with h|h<;>rw [h]<;>rfl
theorem vB (f:Nat) (hf:f<4294967296) (h:f%2147483648≤2139095040):∃x,floatToFloatBits .f32 f .f64=some x∧x<18446744073709551616∧x%9223372036854775808≤9218868437227405312∧floatToFloatBits .f64 x .f32=some f∧
  x/9223372036854775808=f/2147483648∧(x%9223372036854775808=9218868437227405312↔f%2147483648=2139095040)∧(f%2147483648<2139095040→V Ieee.double (x%9223372036854775808)=V Ieee.single (f%2147483648)*2^gapE):=by
 have hws:=word_self Ieee.single f (show f<4294967296 from hf)
 have hu:∀(s d:FloatKind) (b:Nat),s≠d→floatToFloatBits s b d=match s.decode b with
   | .nan _ _=>none
   | .infinity s=>some (d.encode (.infinity s))
   | .number s m e=>if (d.decode (d.encode (.number s m e))).isInfinity then none else some (d.encode (.number s m e)):=by
  intro s d b hne
  unfold floatToFloatBits
  rw [if_neg hne]
  cases s.decode b<;>rfl
 rcases Nat.lt_or_ge (f%2147483648) 2139095040 with h1|h1
 ·have hr:rg Ieee.single f<Ieee.single.infRung:=by rw [qLW,qE2];exact h1
  obtain ⟨R,m',k',⟨hR,hV⟩,⟨m,k,e1,e2⟩,e3,e4⟩:=widened f hr
  rw [jM] at hR
  obtain ⟨w1,w2,w3⟩:=qD9 (sg Ieee.single f) R (by omega)
  refine ⟨Ieee.double.word (sg Ieee.single f) R,?_,w1,by omega,?_,by rw [w3,qMA f hf],by rw [w2];omega,fun _=>by rw [w2];exact hV⟩
  ·rw [hu _ _ _ (by decide),show FloatKind.f32.decode f=_ from e1]
   show (if (Ieee.double.read (Ieee.double.nearest _ _ _)).isInfinity=true then none else some (Ieee.double.nearest _ _ _))=_
   rw [e2,e3]
   rfl
  ·rw [hu _ _ _ (by decide),show FloatKind.f64.decode _=_ from e3]
   show (if (Ieee.single.read (Ieee.single.nearest _ _ _)).isInfinity=true then none else some (Ieee.single.nearest _ _ _))=_
   rw [e4,hws,e1]
   rfl
 ·have h2:f%2147483648=2139095040:=by omega
  have e1:Ieee.single.read f= .infinity (sg Ieee.single f):=read_inf _ _ (by decide) (by rw [qLW,qE2];exact h2)
  obtain ⟨w1,w2,w3⟩:=qD9 (sg Ieee.single f) 9218868437227405312 (by omega)
  have e2:Ieee.double.read (Ieee.double.word (sg Ieee.single f) 9218868437227405312)= .infinity (sg Ieee.single f):=by
   rw [read_inf _ _ (by decide) (by rw [xP,jM];exact w2)]
   rw [sg_word _ _ _ (show 9218868437227405312<9223372036854775808 by omega)]
  refine ⟨Ieee.double.word (sg Ieee.single f) 9218868437227405312,?_,w1,by omega,?_,by rw [w3,qMA f hf],by rw [w2];omega,fun h=>by omega⟩
  ·rw [hu _ _ _ (by decide),show FloatKind.f32.decode f=_ from e1]
   show some (Ieee.double.word _ Ieee.double.infRung)=_
   rw [jM]
  ·rw [hu _ _ _ (by decide),show FloatKind.f64.decode _=_ from e2]
   show some (Ieee.single.word _ Ieee.single.infRung)=_
   rw [qLW,h2] at hws
   rw [qE2,hws]
theorem qI6 (f x:Nat) (hf:f<4294967296) (h:f%2147483648≤2139095040) (e:x/9223372036854775808=f/2147483648) (hi:x%9223372036854775808=9218868437227405312↔f%2147483648=2139095040)
  (hv:f%2147483648<2139095040→V Ieee.double (x%9223372036854775808)=V Ieee.single (f%2147483648)*2^gapE):kP x=f:=by
 unfold kP
 rw [e]
 rcases Nat.lt_or_ge (f%2147483648) 2139095040 with h1|h1
 ·have h2:=rnd_scale Ieee.single (V Ieee.single (f%2147483648)) 1 (2^gapE) (Nat.two_pow_pos _)
  rw [Nat.one_mul,rnd_V] at h2
  rw [hv h1,h2]
  omega
 ·have h2:=yO (show 5183643170835005440≤x%9223372036854775808 by rw [hi.2 (by omega)];omega)
  rw [rD] at h2
  rw [Nat.min_eq_right h2]
  omega
def xR (f:Nat):Nat:=f/2147483648*9223372036854775808+9218868437227405312+f%8388608*536870912
def yN (b:Nat):Nat:=b/9223372036854775808*2147483648+2143289344+b/536870912%4194304
theorem lM (f:Nat) (hf:f<4294967296):bits BinOp.and IntKind.u32 (f:Int) 2147483648=((f/2147483648*2147483648:Nat):Int):=by
 by_cases h:f<2147483648
 ·rw [dJ f h];have:f/2147483648=0:=by omega
  rw [this];rfl
 ·rw [dI f (by omega) hf];have:f/2147483648=1:=by omega
  rw [this];rfl
theorem lL (f n:Nat) (hf:f<4294967296) (hn:n<32):bits BinOp.and IntKind.u32 (f:Int) ((2^n-1:Nat):Int)=((f%2^n:Nat):Int):=by
 have h2:2^n≤2^32:=Nat.pow_le_pow_right (by omega) (by omega)
 have:=u32_and_nat f (2^n-1) hf (by omega)
 rw [Nat.and_two_pow_sub_one_eq_mod] at this;exact this
theorem qEB (q y n:Nat) (hy:y<2^n) (h:2^n*q+y<18446744073709551616):bits BinOp.or IntKind.u64 ((2^n*q:Nat):Int) (y:Int)=((2^n*q+y:Nat):Int):=by
 rw [u64_or_nat _ _ (by omega) (by omega),←Nat.two_pow_add_eq_or_of_lt hy]
theorem qEA (q y n:Nat) (hy:y<2^n) (h:2^n*q+y<4294967296):bits BinOp.or IntKind.u32 ((2^n*q:Nat):Int) (y:Int)=((2^n*q+y:Nat):Int):=by
 rw [u32_or_nat _ _ (by omega) (by omega),←Nat.two_pow_add_eq_or_of_lt hy]
theorem qIN (f:Nat) (hf:f<4294967296):bits BinOp.or IntKind.u64 (bits BinOp.or IntKind.u64 (IntKind.u64.wrap (IntKind.u64.wrap (bits BinOp.and IntKind.u32 (f:Int) 2147483648)*4294967296)) 9218868437227405312)
   (IntKind.u64.wrap (IntKind.u64.wrap (bits BinOp.and IntKind.u32 (f:Int) 8388607)*536870912))=((xR f:Nat):Int):=by
 rw [lM f hf,show bits BinOp.and IntKind.u32 (f:Int) 8388607=((f%8388608:Nat):Int) from lL f 23 hf (by omega)]
 unfold xR
 have hq:f/2147483648<2:=by omega
 have hy:f%8388608<8388608:=by omega
 generalize f/2147483648=q at*
 generalize f%8388608=y at*
 simp only [IntKind.wrap_u64]
 rw [show ((q*2147483648:Nat):Int)%18446744073709551616*4294967296%18446744073709551616=((q*9223372036854775808:Nat):Int) by omega,show ((y:Nat):Int)%18446744073709551616*536870912%18446744073709551616=((y*536870912:Nat):Int) by omega]
 have e1:bits BinOp.or IntKind.u64 ((q*9223372036854775808:Nat):Int) 9218868437227405312=((2^52*(q*2048+2047):Nat):Int):=by
  have h:q=0∨q=1:=by omega
  rcases h with rfl|rfl<;>decide +kernel
 rw [e1,qEB _ _ _ (by omega) (by omega)]
 omega
theorem lI (f:Nat) (w:World) (hf:f<4294967296) (h:2139095040<f%2147483648):Calls Tryz.prog 20 #[.int .u32 f] w fun e w'=>e= .returned (.int .u64 (xR f:Nat))∧Below w.heap.size w w':=by
 go_enter Tryz.func20,Tryz.ntmps20
 go_wp2_with fail
 refine (yF _).mono ?_
 rintro e w1 ⟨rfl,hb1⟩
 go_wp2_with fail
 refine (bG f _ hf).mono ?_
 rintro e w2 ⟨rfl,hb2⟩
 rw [decide_eq_true h]
 have H2:=jF (hb1.trans (hb2.mono hb1.size))
 clear hb1 hb2
 go_wp2_with fail
 go_ret
 refine ⟨?_,H2.out⟩
 rw [←qIN f hf]
 rfl
theorem lJ (f x:Nat) (w:World) (hf:f<4294967296) (h:¬2139095040<f%2147483648) (hx:floatToFloatBits .f32 f .f64=some x) (hx1:x<18446744073709551616) (hx2:x%9223372036854775808≤9218868437227405312):Calls Tryz.prog 20 #[.int .u32 f] w fun e w'=>e= .returned (.int .u64 x)∧Below w.heap.size w w':=by
 go_enter Tryz.func20,Tryz.ntmps20
 go_wp2_with fail
 refine (yF _).mono ?_
 rintro e w1 ⟨rfl,hb1⟩
 go_wp2_with fail
 refine (bG f _ hf).mono ?_
 rintro e w2 ⟨rfl,hb2⟩
 rw [decide_eq_false h]
 have H2:=jF (hb1.trans (hb2.mono hb1.size))
 clear hb1 hb2
 go_wp2_with fail
 refine (cF f x _ hx).mono ?_
 rintro e w3 ⟨rfl,rfl⟩
 go_wp2_with fail
 refine (zS x _ hx1).mono ?_
 rintro e w4 ⟨rfl,hb4⟩
 rw [gD x hx2]
 go_wp2_with fail
 go_ret
 exact ⟨rfl,H2.out.trans (hb4.mono H2.out.size)⟩
theorem qI5 (b:Nat) (hb:b<18446744073709551616):bits BinOp.or IntKind.u32 (bits BinOp.or IntKind.u32 (bits BinOp.and IntKind.u32 ((b:Int)/4294967296) 2147483648) 2143289344)
   (bits BinOp.and IntKind.u32 ((b:Int)/536870912%4294967296) 4194303)=((yN b:Nat):Int):=by
 rw [show (b:Int)/4294967296=((b/4294967296:Nat):Int) by simp,show (b:Int)/536870912%4294967296=((b/536870912%4294967296:Nat):Int) by simp,lM _ (by omega),
  show bits BinOp.and IntKind.u32 ((b/536870912%4294967296:Nat):Int) 4194303=((b/536870912%4294967296%4194304:Nat):Int) from lL _ 22 (by omega) (by omega)]
 unfold yN
 have e0:b/4294967296/2147483648=b/9223372036854775808:=by omega
 have e1:b/536870912%4294967296%4194304=b/536870912%4194304:=by omega
 rw [e0,e1]
 have hq:b/9223372036854775808<2:=by omega
 have hy:b/536870912%4194304<4194304:=by omega
 generalize b/9223372036854775808=q at*
 generalize b/536870912%4194304=y at*
 have e2:bits BinOp.or IntKind.u32 ((q*2147483648:Nat):Int) 2143289344=((2^22*(q*512+511):Nat):Int):=by
  have h:q=0∨q=1:=by omega
  rcases h with rfl|rfl<;>decide +kernel
 rw [e2,qEA _ _ _ (by omega) (by omega)]
 omega
theorem qDG (b:Nat) (w:World) (hb:b<18446744073709551616) (hx:9218868437227405312<b%9223372036854775808):Calls Tryz.prog 21 #[.int .u64 b] w fun e w'=>e= .returned (.int .u32 (yN b:Nat))∧Below w.heap.size w w':=by
 go_enter Tryz.func21,Tryz.ntmps21
 go_wp2_with fail
 refine (qS _).mono ?_
 rintro e w1 ⟨rfl,hb1⟩
 go_wp2_with fail
 refine (bH b _ hb).mono ?_
 rintro e w2 ⟨rfl,hb2⟩
 rw [decide_eq_true hx]
 have H2:=jF (hb1.trans (hb2.mono hb1.size))
 clear hb1 hb2
 go_wp2_with fail
 go_ret
 refine ⟨?_,H2.out⟩
 rw [←qI5 b hb]
 rfl
theorem qEO (f:Nat) (hf:f<4294967296) (h:2139095040<f%2147483648):xR f<18446744073709551616∧9218868437227405312<xR f%9223372036854775808:=by
 unfold xR;omega
theorem qK8 (f:Nat) (hf:f<4294967296) (h:2143289344≤f%2147483648):yN (xR f)=f:=by
 unfold yN xR;omega
end Go.Proofs.YtkpmalfigmimaaaGreatDoor
namespace Go.Proofs.YtkpmalfigmimaaaGreatDoor
open Go.RowKit
def yH (b:Nat):Nat:=if 9218868437227405312<b%9223372036854775808 then yN b else kP b
def wid (f:Nat):Nat:=if 2139095040≤f%2147483648 then xR f else f/2147483648*9223372036854775808+Flt.rnd Ieee.double (Flt.V Ieee.single (f%2147483648)*2^Flt.gapE) 1
theorem qI3 (x:Nat) (hx:x<18446744073709551616):kP x<4294967296:=by unfold kP;omega
theorem wH (x:Nat) (hx:x<18446744073709551616):yH x<4294967296:=by
 unfold yH;split
 ·unfold yN;omega
 ·exact qI3 x hx
theorem qH7 (f x:Nat) (hf:f<4294967296) (h:f%2147483648≤2139095040) (e:x/9223372036854775808=f/2147483648) (hi:x%9223372036854775808=9218868437227405312↔f%2147483648=2139095040)
  (hv:f%2147483648<2139095040→Flt.V Ieee.double (x%9223372036854775808)=Flt.V Ieee.single (f%2147483648)*2^Flt.gapE):wid f=x:=by
 unfold wid
 by_cases h1:2139095040≤f%2147483648
 ·rw [if_pos h1];have:=hi.2 (by omega);unfold xR;omega
 ·rw [if_neg h1,←hv (by omega),Flt.rnd_V,←e];omega
theorem qLK (f:Nat) (hf:f<4294967296):wid f<18446744073709551616:=by
 by_cases h1:2139095040<f%2147483648
 ·unfold wid;rw [if_pos (by omega)];unfold xR;omega
 ·obtain ⟨x,x1,x2,x3,x4,x5,x6,x7⟩:=vB f hf (by omega)
  rw [qH7 f x hf (by omega) x5 x6 x7];exact x2
theorem gY (b:Nat) (w:World) (hb:b<18446744073709551616):Calls Tryz.prog 21 #[.int .u64 b] w fun e w'=>e= .returned (.int .u32 (yH b:Nat))∧Below w.heap.size w w':=by
 unfold yH
 by_cases h:9218868437227405312<b%9223372036854775808
 ·rw [if_pos h];exact qDG b w hb h
 ·rw [if_neg h];exact qDH b w hb h
theorem nT (f:Nat) (w:World) (hf:f<4294967296):Calls Tryz.prog 20 #[.int .u32 f] w fun e w'=>e= .returned (.int .u64 (wid f:Nat))∧Below w.heap.size w w':=by
 by_cases h:2139095040<f%2147483648
 ·unfold wid;rw [if_pos (by omega)];exact lI f w hf h
 ·obtain ⟨x,x1,x2,x3,x4,x5,x6,x7⟩:=vB f hf (by omega)
  rw [qH7 f x hf (by omega) x5 x6 x7]
  exact lJ f x w hf h x1 x2 x3
end Go.Proofs.YtkpmalfigmimaaaGreatDoor
namespace Go.Proofs.YtkpmalfigmimaaaGreatDoor.M
def zb (u:Nat):List Bool:=
 if u=0 then [false] else if u≤128 then [true,false]++bitsOf (u-1) 7 else if u≤4224 then [true,true,false]++bitsOf (u-129) 12
 else if u≤1052800 then [true,true,true,false]++bitsOf (u-4225) 20 else [true,true,true,true]++bitsOf u 64
theorem zb_0:zb 0=[false]:=rfl
theorem zb_1 (u:Nat) (h1:1≤u) (h2:u≤128):zb u=[true,false]++bitsOf (u-1) 7:=by
 unfold zb;rw [if_neg (by omega),if_pos h2]
theorem zb_2 (u:Nat) (h1:129≤u) (h2:u≤4224):zb u=[true,true,false]++bitsOf (u-129) 12:=by
 unfold zb;rw [if_neg (by omega),if_neg (by omega),if_pos h2]
theorem zb_3 (u:Nat) (h1:4225≤u) (h2:u≤1052800):zb u=[true,true,true,false]++bitsOf (u-4225) 20:=by
 unfold zb;rw [if_neg (by omega),if_neg (by omega),if_neg (by omega),if_pos h2]
theorem zb_4 (u:Nat) (h1:1052801≤u):zb u=[true,true,true,true]++bitsOf u 64:=by
 unfold zb;rw [if_neg (by omega),if_neg (by omega),if_neg (by omega),if_neg (by omega)]
def zbl (u:Nat):Nat:=if u=0 then 1 else if u≤128 then 9 else if u≤4224 then 15 else if u≤1052800 then 24 else 68
theorem zb_length (u:Nat):(zb u).length=zbl u:=by
 unfold zb zbl
 repeat' split
 all_goals simp
theorem zbl_le (u:Nat):zbl u≤68:=by
                      unfold zbl;repeat' split
                      all_goals omega
theorem zb_cases (u:Nat):(u=0∧zb u=[false])∨(1≤u∧u≤128∧zb u=[true,false]++bitsOf (u-1) 7)∨(129≤u∧u≤4224∧zb u=[true,true,false]++bitsOf (u-129) 12)∨
  (4225≤u∧u≤1052800∧zb u=[true,true,true,false]++bitsOf (u-4225) 20)∨(1052801≤u∧zb u=[true,true,true,true]++bitsOf u 64):=by
 by_cases h0:u=0
 ·exact .inl ⟨h0,by rw [h0];rfl⟩
 by_cases h1:u≤128
 ·exact .inr (.inl ⟨by omega,h1,zb_1 u (by omega) h1⟩)
 by_cases h2:u≤4224
 ·exact .inr (.inr (.inl ⟨by omega,h2,zb_2 u (by omega) h2⟩))
 by_cases h3:u≤1052800
 ·exact .inr (.inr (.inr (.inl ⟨by omega,h3,zb_3 u (by omega) h3⟩)))
 ·exact .inr (.inr (.inr (.inr ⟨by omega,zb_4 u (by omega)⟩)))
theorem bits_inj (x y n:Nat) (r r':List Bool) (hx:x<2^n) (hy:y<2^n) (h:bitsOf x n++r=bitsOf y n++r'):x=y∧r=r':=by
 obtain ⟨h1,h2⟩:=List.append_inj h (by simp)
 have:num (bitsOf x n)=num (bitsOf y n):=by rw [h1]
 rw [num_bitsOf,num_bitsOf,Nat.mod_eq_of_lt hx,Nat.mod_eq_of_lt hy] at this
 exact ⟨this,h2⟩
theorem zb_inj (u v:Nat) (r r':List Bool) (hu:u<18446744073709551616) (hv:v<18446744073709551616) (h:zb u++r=zb v++r'):u=v∧r=r':=by
 rcases zb_cases u with ⟨h1,e1⟩|⟨h1,g1,e1⟩|⟨h1,g1,e1⟩|⟨h1,g1,e1⟩|⟨h1,e1⟩<;>
 rcases zb_cases v with ⟨h2,e2⟩|⟨h2,g2,e2⟩|⟨h2,g2,e2⟩|⟨h2,g2,e2⟩|⟨h2,e2⟩<;>rw [e1,e2] at h<;>simp only [List.cons_append,List.nil_append,List.cons.injEq,Bool.false_eq_true,Bool.true_eq_false,false_and,and_false,true_and] at h
 ·exact ⟨by omega,h⟩
 ·obtain ⟨k,hr⟩:=bits_inj _ _ _ _ _ (by omega) (by omega) h;exact ⟨by omega,hr⟩
 ·obtain ⟨k,hr⟩:=bits_inj _ _ _ _ _ (by omega) (by omega) h;exact ⟨by omega,hr⟩
 ·obtain ⟨k,hr⟩:=bits_inj _ _ _ _ _ (by omega) (by omega) h;exact ⟨by omega,hr⟩
 ·obtain ⟨k,hr⟩:=bits_inj _ _ _ _ _ (by omega) (by omega) h;exact ⟨by omega,hr⟩
def zlen (k:Nat):Nat:=if k=0 then 1 else if k=1 then 9 else if k=2 then 15 else if k=3 then 24 else 68
theorem zb_ones (v k:Nat) (hk:k≤4) (r r':List Bool) (h:zb v++r=List.replicate k true++r'):zlen k≤(zb v).length:=by
 have h5:k=0∨k=1∨k=2∨k=3∨k=4:=by omega
 rcases zb_cases v with ⟨h2,e2⟩|⟨h2,g2,e2⟩|⟨h2,g2,e2⟩|⟨h2,g2,e2⟩|⟨h2,e2⟩<;>rw [e2] at h⊢<;>rcases h5 with rfl|rfl|rfl|rfl|rfl<;>
  simp [List.replicate_succ,zlen] at h⊢
theorem take_eq_drop (R l:List Bool) (a b:Nat) (h:R.take b=R.take a++l):R.drop a=l++R.drop b:=by
 have e1:=List.take_append_drop b R
 rw [h,List.append_assoc] at e1
 have e2:R.take a++(l++R.drop b)=R.take a++R.drop a:=by rw [e1,List.take_append_drop]
 exact (List.append_cancel_left e2).symm
theorem tkn_len (R l:List Bool) (a b:Nat) (h:R.take b=R.take a++l) (ha:a≤R.length) (hb:b≤R.length):b=a+l.length:=by
 have:=congrArg List.length h
 simp at this;omega
theorem zb_done (R:List Bool) (a ak a' k:Nat) (laid:List Bool) (u:Nat) (hk4:k≤4) (hu:u<18446744073709551616) (hz:List.replicate k true++laid=zb u) (hl:(zb u).length=zlen k)
  (hk:R.take ak=R.take a++List.replicate k true) (ha:a≤R.length) (hak:ak≤R.length) (e':Int) (hs:e'=0→R.take a'=R.take ak++laid) (hf:ak+laid.length≤R.length→e'=0):
  (e'=0→R.take a'=R.take a++zb u)∧(∀v r,v<18446744073709551616→R.drop a=zb v++r→u=v∧e'=0):=by
 have hS:e'=0→R.take a'=R.take a++zb u:=fun h=>by rw [hs h,hk,List.append_assoc,hz]
 refine ⟨hS,fun v r hv hr=>?_⟩
 have e1:=take_eq_drop R _ a ak hk
 have e2:=tkn_len R _ a ak hk ha hak
 have e3:=zb_ones v k hk4 r (R.drop ak) (by rw [←hr,e1])
 have e4:(R.drop a).length=(zb v).length+r.length:=by rw [hr];simp
 have e5:(zb u).length=k+laid.length:=by rw [←hz];simp
 simp at e2 e4
 have he:e'=0:=hf (by omega)
 have e6:=take_eq_drop R _ a a' (hS he)
 exact ⟨(zb_inj u v _ _ hu hv (by rw [←hr,e6])).1,he⟩
def dif (t p:Int):Nat:=((t-p)%18446744073709551616).toNat
def bend (d a:Nat):Int:=((d:Int)-(a:Int)+9223372036854775808)%18446744073709551616-9223372036854775808
def I64 (x:Int):Prop:= -9223372036854775808≤x∧x≤9223372036854775807
theorem dif_lt (t p:Int):dif t p<18446744073709551616:=by unfold dif;omega
theorem bend_range (d a:Nat):I64 (bend d a):=by unfold bend I64;omega
theorem zig_lt' (x:Int) (h:I64 x):zig x<18446744073709551616:=by unfold zig;obtain ⟨h1,h2⟩:=h;split<;>omega
theorem zig_inj (x y:Int) (h:zig x=zig y):x=y:=by unfold zig at h;split at h<;>split at h<;>omega
theorem dif_inj (t t' p:Int) (h:I64 t) (h':I64 t') (e:dif t p=dif t' p):t=t':=by
 unfold dif at e;obtain ⟨h1,h2⟩:=h;obtain ⟨h3,h4⟩:=h';omega
theorem bend_inj (d d' a:Nat) (h:d<18446744073709551616) (h':d'<18446744073709551616) (e:bend d a=bend d' a):d=d':=by
 unfold bend at e;omega
def ahd (f:Nat→Int):Nat→Nat
 |0=>0
 |i+1=>dif (f (i+1)) (f i)
theorem ahd_lt (f:Nat→Int) (i:Nat):ahd f i<18446744073709551616:=by
 cases i with
 |zero=>simp [ahd]
 |succ i=>exact dif_lt _ _
def zg (f:Nat→Int) (i:Nat):Nat:=zig (bend (dif (f (i+1)) (f i)) (ahd f i))
theorem zg_lt (f:Nat→Int) (i:Nat):zg f i<18446744073709551616:=zig_lt' _ (bend_range _ _)
def u64 (x:Int):Nat:=(x%18446744073709551616).toNat
theorem u64_lt (x:Int):u64 x<18446744073709551616:=by unfold u64;omega
theorem u64_inj (x y:Int) (hx:I64 x) (hy:I64 y) (h:u64 x=u64 y):x=y:=by
 unfold u64 at h;obtain ⟨h1,h2⟩:=hx;obtain ⟨h3,h4⟩:=hy;omega
def tbn (f:Nat→Int):Nat→List Bool
 |0=>[]
 |1=>bitsOf (u64 (f 0)) 64
 |n+2=>tbn f (n+1)++zb (zg f n)
theorem tbn_one (f:Nat→Int):tbn f 1=bitsOf (u64 (f 0)) 64:=rfl
theorem tbn_step (f:Nat→Int) (n:Nat):tbn f (n+2)=tbn f (n+1)++zb (zg f n):=rfl
theorem zg_congr (f g:Nat→Int) (i:Nat) (h:∀j,j≤i+1→f j=g j):zg f i=zg g i:=by
 unfold zg
 rw [h (i+1) (by omega),h i (by omega)]
 cases i with
 |zero=>rfl
 |succ i=>simp only [ahd];rw [h (i+1) (by omega),h i (by omega)]
theorem tbn_congr (f g:Nat→Int):∀n,(∀i,i<n→f i=g i)→tbn f n=tbn g n
 |0,_=>rfl
 |1,h=>by rw [tbn_one,tbn_one,h 0 (by omega)]
 |n+2,h=>by rw [tbn_step,tbn_step,tbn_congr f g (n+1) (fun i hi=>h i (by omega)),zg_congr f g n (fun j hj=>h j (by omega))]
theorem tbn_pre (f:Nat→Int) (n:Nat):∃r,tbn f (n+1)=tbn f n++r:=by
 cases n with
 |zero=>exact ⟨_,rfl⟩
 |succ n=>exact ⟨_,rfl⟩
theorem tbn_prefix (f:Nat→Int) (n m:Nat) (h:n≤m):∃r,tbn f m=tbn f n++r:=by
 induction m with
 |zero=>
      obtain rfl:n=0:=by omega
      exact ⟨[],rfl⟩
 |succ m ih=>
  by_cases e:n=m+1
  ·subst e;exact ⟨[],by simp⟩
  ·obtain ⟨r,hr⟩:=ih (by omega)
   obtain ⟨r2,hr2⟩:=tbn_pre f m
   exact ⟨r++r2,by rw [hr2,hr,List.append_assoc]⟩
theorem zg_inj (f g:Nat→Int) (i:Nat) (hf:I64 (f (i+1))) (hg:I64 (g (i+1))) (h:∀j,j≤i→f j=g j) (e:zg f i=zg g i):f (i+1)=g (i+1):=by
 have e1:=zig_inj _ _ e
 have ea:ahd f i=ahd g i:=by
  cases i with
  |zero=>rfl
  |succ i=>simp only [ahd];rw [h (i+1) (by omega),h i (by omega)]
 rw [ea,h i (by omega)] at e1
 exact dif_inj _ _ _ hf hg (bend_inj _ _ _ (dif_lt _ _) (dif_lt _ _) e1)
theorem tbn_length (f:Nat→Int):∀n,(tbn f (n+1)).length≤64+68*n
 |0=>by rw [tbn_one];simp
 |n+1=>by
  rw [tbn_step]
  have:=tbn_length f n
  have:=zbl_le (zg f n)
  rw [List.length_append,zb_length];omega
theorem tbn_length' (f:Nat→Int) (n:Nat):(tbn f n).length≤68*n:=by
 cases n with
 |zero=>simp [tbn]
 |succ n=>have:=tbn_length f n;omega
def Rises (f:Nat→Int) (n:Nat):Prop:=∀i,i+1<n→f i<f (i+1)
theorem take_next (p:Int) (a u:Nat) (hp:I64 p) (y:Int) (hy:zig y=u) (hyr:I64 y) (d:Nat) (hd:(d:Int)=((a:Int)+y)%18446744073709551616) (t:Int)
  (ht:t=(p+(d:Int)+9223372036854775808)%18446744073709551616-9223372036854775808):I64 t∧dif t p=d∧bend (dif t p) a=y∧zig (bend (dif t p) a)=u:=by
 obtain ⟨h1,h2⟩:=hp
 obtain ⟨h3,h4⟩:=hyr
 have e1:dif t p=d:=by unfold dif;omega
 have e2:bend (dif t p) a=y:=by rw [e1];unfold bend;omega
 exact ⟨⟨by omega,by omega⟩,e1,e2,by rw [e2,hy]⟩
end Go.Proofs.YtkpmalfigmimaaaGreatDoor.M
