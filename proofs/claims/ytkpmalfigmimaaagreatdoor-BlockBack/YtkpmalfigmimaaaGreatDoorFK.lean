import Derived.Test.YtkpmalfigmimaaaGreatDoorFJ
import Derived.Test.YtkpmalfigmimaaaGreatDoorD1A
set_option linter.unusedVariables false
set_option linter.unusedSimpArgs false
set_option maxRecDepth 100000
set_option maxHeartbeats 8000000
namespace Go.Proofs.YtkpmalfigmimaaaGreatDoor
namespace Flt
open Ieee
theorem nearest_exact (f:Format) (neg:Bool) (m R:Nat) (p:Int) (hR:R≤f.infRung) (h:m*2^(p-f.leastPlace).toNat=V f R*2^(f.leastPlace-p).toNat):f.nearest neg m p=f.word neg R:=by
 rw [nearest_rnd]
 refine congrArg _ ?_
 rw [rnd_eq f (d':=1) (n':=V f R) (Nat.two_pow_pos _) (by omega) (by rw [Nat.mul_one];exact h),rnd_V]
 exact Nat.min_eq_left hR
theorem repr (f:Format) (c k:Nat) (h:c<2*f.binade):∃R,V f R=c*2^k:=by
 by_cases h0:c=0
 ·exact ⟨0,by rw [h0,V_zero,Nat.zero_mul]⟩
 ·have hl:c.log2≤f.fractionBits:=by
   have:c.log2<f.fractionBits+1:=(Nat.log2_lt h0).2 (by rw [Nat.pow_succ,Nat.mul_comm];exact h)
   omega
  refine ⟨(k-min k (f.fractionBits-c.log2))*f.binade+c*2^(min k (f.fractionBits-c.log2)),?_⟩
  have h1:c*2^(min k (f.fractionBits-c.log2))<2*f.binade:=by
   have a1:=Nat.mul_lt_mul_of_pos_right (Nat.lt_log2_self (n:=c)) (Nat.two_pow_pos (min k (f.fractionBits-c.log2)))
   rw [←Nat.pow_add] at a1
   have a2:2^(c.log2+1+min k (f.fractionBits-c.log2))≤2^(f.fractionBits+1):=Nat.pow_le_pow_right (by omega) (by omega)
   have a3:2^(f.fractionBits+1)=2*f.binade:=by rw [Nat.pow_succ,Nat.mul_comm];rfl
   omega
  have h2:k-min k (f.fractionBits-c.log2)=0∨f.binade≤c*2^(min k (f.fractionBits-c.log2)):=by
   rcases Nat.le_total k (f.fractionBits-c.log2) with h3|h3
   ·left;omega
   ·right
    rw [Nat.min_eq_right h3]
    have:=Nat.mul_le_mul_right (2^(f.fractionBits-c.log2)) (Nat.log2_self_le h0)
    rw [←Nat.pow_add,Nat.add_sub_cancel' hl] at this
    exact this
  rw [(V_at f _ _ h1 h2).1,Nat.mul_assoc,←Nat.pow_add]
  congr 2
  omega
theorem word_self (f:Format) (w:Nat) (h:w<2*f.signWeight):f.word (sg f w) (rg f w)=w:=by
 have hs:=signWeight_pos f
 have hd:=Nat.div_add_mod w f.signWeight
 have hq:w/f.signWeight<2:=by rw [Nat.div_lt_iff_lt_mul hs];exact h
 unfold Format.word sg rg
 by_cases h1:w/f.signWeight=1
 ·rw [h1,Nat.mul_one] at hd
  rw [h1]
  simp only [show (1%2==1)=true from rfl,if_true]
  exact hd
 ·have h2:w/f.signWeight=0:=by generalize w/f.signWeight=q at*;omega
  rw [h2,Nat.mul_zero,Nat.zero_add] at hd
  rw [h2]
  simp only [show (0%2==1)=false from rfl,Bool.false_eq_true,if_false]
  exact hd
theorem V_inf (f:Format) (h:1≤f.exponentBits):V f f.infRung=2^(f.fractionBits+(2^f.exponentBits-2)):=by
 have hp:2^1≤2^f.exponentBits:=Nat.pow_le_pow_right (by omega) h
 have e:f.infRung=(2^f.exponentBits-2)*f.binade+f.binade:=by
  unfold Format.infRung
  rw [←Nat.succ_mul]
  exact congrArg (· *f.binade) (by omega)
 rw [e,(V_at f _ f.binade (by have:=binade_pos f;omega) (.inr (Nat.le_refl _))).1,Nat.pow_add]
 rfl
def gapE:Nat:=925
theorem widened (f:Nat) (h:rg single f<single.infRung):∃R m' k':Nat,(R<double.infRung∧V double R=V single (rg single f)*2^gapE)∧(∃m k:Nat,single.read f= .number (sg single f) m (single.leastPlace+k)∧double.nearest (sg single f) m (single.leastPlace+k)=double.word (sg single f) R)∧
  double.read (double.word (sg single f) R)= .number (sg single f) m' (double.leastPlace+k')∧single.nearest (sg single f) m' (double.leastPlace+k')=single.word (sg single f) (rg single f):=by
 obtain ⟨m,k,e1,e2,e3,e4⟩:=read_fin single f h
 have hm:m<2*double.binade:=Nat.lt_trans e3 (by decide)
 have hE:gapE=925:=rfl
 obtain ⟨R,hR⟩:=repr double m (k+gapE) hm
 have hRi:R<double.infRung:=by
  rw [←V_lt_iff (f:=double),hR,V_inf double (by decide),Nat.pow_add,←Nat.mul_assoc,e2]
  have:=V_lt (f:=single) h
  rw [V_inf single (by decide)] at this
  refine Nat.lt_trans (Nat.mul_lt_mul_of_pos_right this (Nat.two_pow_pos _)) ?_
  rw [←Nat.pow_add]
  refine Nat.pow_lt_pow_right (by omega) ?_
  rw [hE];decide
 have hl1:double.leastPlace= -1074:=by decide
 have hl2:single.leastPlace= -149:=by decide
 have hRs:R<double.signWeight:=Nat.lt_trans hRi double.infRung_lt
 obtain ⟨m',k',g1,g2,_⟩:=read_fin double (double.word (sg single f) R) (by rw [rg_word _ _ _ hRs];exact hRi)
 rw [sg_word _ _ _ hRs] at g1
 rw [rg_word _ _ _ hRs] at g2
 refine ⟨R,m',k',⟨hRi,by rw [hR,Nat.pow_add,←Nat.mul_assoc,e2]⟩,⟨m,k,e1,?_⟩,g1,?_⟩
 ·refine nearest_exact double _ m R _ (Nat.le_of_lt hRi) ?_
  rw [hl1,hl2,hR,show (-149+(k:Int)- -1074).toNat=k+gapE by omega,show (-1074-(-149+(k:Int))).toNat=0 by omega,Nat.pow_zero,Nat.mul_one]
 ·refine nearest_exact single _ m' _ _ (Nat.le_of_lt h) ?_
  rw [hl1,hl2,←e2]
  rw [hR] at g2
  rcases Nat.le_total gapE k' with h1|h1
  ·rw [show (-1074+(k':Int)- -149).toNat=k'-gapE by omega,show (-149-(-1074+(k':Int))).toNat=0 by omega,Nat.pow_zero,Nat.mul_one]
   refine Nat.eq_of_mul_eq_mul_right (Nat.two_pow_pos gapE) ?_
   rw [Nat.mul_assoc,Nat.mul_assoc,←Nat.pow_add,←Nat.pow_add,Nat.sub_add_cancel h1]
   exact g2
  ·rw [show (-1074+(k':Int)- -149).toNat=0 by omega,show (-149-(-1074+(k':Int))).toNat=gapE-k' by omega,Nat.pow_zero,Nat.mul_one]
   refine Nat.eq_of_mul_eq_mul_right (Nat.two_pow_pos k') ?_
   rw [Nat.mul_assoc,Nat.mul_assoc,←Nat.pow_add,←Nat.pow_add,show k+(gapE-k'+k')=k+gapE by omega]
   exact g2
end Flt
end Go.Proofs.YtkpmalfigmimaaaGreatDoor
namespace Go.Proofs.YtkpmalfigmimaaaGreatDoor
namespace Flt
open Ieee
theorem cutE_eq {n u n' u':Nat} (hu:0<u) (hu':0<u') (h:n*u'=n'*u):cutE n u=cutE n' u':=by
 rw [←cutE_scale n u u' hu',←cutE_scale n' u' u hu,h,Nat.mul_comm u u']
end Flt
end Go.Proofs.YtkpmalfigmimaaaGreatDoor
namespace Go.Proofs.YtkpmalfigmimaaaGreatDoor
namespace Flt
open Ieee
theorem natAbs_scale (z:Int) (c:Nat):(z*(c:Int)).natAbs=z.natAbs*c:=by rw [Int.natAbs_mul];rfl
def sgn2 (s t:Bool) (z:Int):Bool:=if z=0 then s&&t else decide (z<0)
theorem sgn2_scale (s t:Bool) (z c:Int) (h:0<c):sgn2 s t (z*c)=sgn2 s t z:=by
 unfold sgn2
 rcases Int.lt_trichotomy z 0 with h1|h1|h1
 ·have h2:z*c<0:=by
   have:=Int.mul_lt_mul_of_pos_right h1 h
   rwa [Int.zero_mul] at this
  rw [if_neg (by omega),if_neg (by omega),decide_eq_true h1,decide_eq_true h2]
 ·subst h1;rw [Int.zero_mul]
 ·have h2:0<z*c:=Int.mul_pos h1 h
  rw [if_neg (by omega),if_neg (by omega),decide_eq_false (by omega),decide_eq_false (by omega)]
theorem sum_rnd (f:Format) (s t:Bool) (m n:Nat) (i j:Int) (X Y D:Nat) (hX:m*2^(i-min i j).toNat*2^(min i j-f.leastPlace).toNat*D=X*2^(f.leastPlace-min i j).toNat) (hY:n*2^(j-min i j).toNat*2^(min i j-f.leastPlace).toNat*D=Y*2^(f.leastPlace-min i j).toNat) (hD:0<D):
  ((Datum.number s m i).sum (.number t n j)).map f.write=some (f.word (sgn2 s t (signed s X 0+signed t Y 0)) (min (rnd f (signed s X 0+signed t Y 0).natAbs D) f.infRung)):=by
 simp only [Datum.sum,Option.map_some,Format.write]
 rw [nearest_rnd]
 generalize (i-min i j).toNat=p at*
 generalize (j-min i j).toNat=q at*
 generalize (min i j-f.leastPlace).toNat=A at*
 generalize (f.leastPlace-min i j).toNat=B at*
 have key:(signed s m p+signed t n q)*((2^A*D:Nat):Int)=(signed s X 0+signed t Y 0)*((2^B:Nat):Int):=by
  have one:∀(s:Bool) (m p X:Nat),m*2^p*2^A*D=X*2^B→signed s m p*((2^A*D:Nat):Int)=signed s X 0*((2^B:Nat):Int):=by
   intro s m p X h
   unfold signed
   simp only [Nat.shiftLeft_eq,Nat.pow_zero,Nat.mul_one]
   cases s
   ·simp only [Bool.false_eq_true,if_false]
    rw [←Int.natCast_mul,←Int.natCast_mul,←h];congr 1;simp only [Nat.mul_assoc]
   ·simp only [if_true]
    rw [Int.neg_mul,Int.neg_mul,←Int.natCast_mul,←Int.natCast_mul,←h];congr 2;simp only [Nat.mul_assoc]
  rw [Int.add_mul,Int.add_mul,one s m p X hX,one t n q Y hY]
 have hA:(0:Int)<((2^A*D:Nat):Int):=by exact_mod_cast Nat.mul_pos (Nat.two_pow_pos A) hD
 have hB:(0:Int)<((2^B:Nat):Int):=by exact_mod_cast Nat.two_pow_pos B
 generalize signed s m p+signed t n q=z at*
 generalize signed s X 0+signed t Y 0=y at*
 have e1:sgn2 s t z=sgn2 s t y:=by rw [←sgn2_scale s t z _ hA,←sgn2_scale s t y _ hB,key]
 have e2:z.natAbs*(2^A*D)=y.natAbs*2^B:=by rw [←natAbs_scale,←natAbs_scale,key]
 show some (f.word (sgn2 s t z) _)=_
 rw [e1]
 refine congrArg _ (congrArg _ (congrArg (min · _) ?_))
 refine rnd_eq f (Nat.two_pow_pos _) hD ?_
 rw [Nat.mul_assoc];exact e2
theorem fma_rnd (f:Format) (T a b c:Nat) (hT:f.leastPlace= -(T:Int)) (ha:rg f a<f.infRung) (hb:rg f b<f.infRung) (hc:rg f c<f.infRung):
  f.fma a b c=some (f.word (sgn2 (sg f a^^sg f b) (sg f c) (signed (sg f a^^sg f b) (V f (rg f a)*V f (rg f b)) 0+signed (sg f c) (V f (rg f c)*2^T) 0))
   (min (rnd f (signed (sg f a^^sg f b) (V f (rg f a)*V f (rg f b)) 0+signed (sg f c) (V f (rg f c)*2^T) 0).natAbs (2^T)) f.infRung)):=by
 obtain ⟨m,k,e1,e2,_⟩:=read_fin f a ha
 obtain ⟨n,l,e3,e4,_⟩:=read_fin f b hb
 obtain ⟨o,j,e5,e6,_⟩:=read_fin f c hc
 unfold Format.fma
 rw [e1,e3,e5]
 simp only [Datum.product,Option.bind_some]
 refine sum_rnd f _ _ (m*n) o _ _ _ _ (2^T) ?_ ?_ (Nat.two_pow_pos _)
 ·rw [←e2,←e4]
  rw [show m*2^k*(n*2^l)=m*n*(2^k*2^l) by simp only [Nat.mul_assoc,Nat.mul_left_comm,Nat.mul_comm]]
  simp only [Nat.mul_assoc,←Nat.pow_add]
  congr 3;omega
 ·rw [←e6]
  simp only [Nat.mul_assoc,←Nat.pow_add]
  congr 2;omega
theorem narrow_rnd (a:Nat) (ha:rg double a<double.infRung) (neg:Bool) (m:Nat) (p:Int) (h:double.read a= .number neg m p):
  single.nearest neg m p=single.word neg (min (rnd single (V double (rg double a)) (2^gapE)) single.infRung):=by
 obtain ⟨m',k,e1,e2,_⟩:=read_fin double a ha
 rw [h] at e1
 injection e1 with h1 h2 h3
 subst h2 h3
 rw [nearest_rnd]
 refine congrArg _ (congrArg (min · _) ?_)
 have hl1:double.leastPlace= -1074:=by decide
 have hl2:single.leastPlace= -149:=by decide
 have hE:gapE=925:=rfl
 refine rnd_eq single (Nat.two_pow_pos _) (Nat.two_pow_pos _) ?_
 rw [←e2,hl1,hl2]
 simp only [Nat.mul_assoc,←Nat.pow_add]
 congr 2;omega
end Flt
end Go.Proofs.YtkpmalfigmimaaaGreatDoor
namespace Go.Proofs.YtkpmalfigmimaaaGreatDoor
namespace Flt
open Ieee
theorem rnd_mono (f:Format) (hf:1≤f.fractionBits) (n d n' d':Nat) (hd:0<d) (hd':0<d') (h:n*d'≤n'*d):rnd f n d≤rnd f n' d':=by
 obtain ⟨r,a1,a2,a3⟩:=rnd_spec f hf n d hd
 obtain ⟨s,b1,b2,b3⟩:=rnd_spec f hf n' d' hd'
 rw [a3,b3]
 have hrs:r<s+1:=by
  rw [←V_lt_iff (f:=f)]
  refine Nat.lt_of_mul_lt_mul_right (a:=d*d') ?_
  calc V f r*(d*d')=V f r*d*d':=by rw [Nat.mul_assoc]
   _≤n*d':=Nat.mul_le_mul_right _ a1
   _≤n'*d:=h
   _<V f (s+1)*d'*d:=Nat.mul_lt_mul_of_pos_right b2 hd
   _=V f (s+1)*(d*d'):=by rw [Nat.mul_assoc,Nat.mul_comm d' d]
 rcases Nat.lt_or_ge r s with h1|h1
 ·split<;>split<;>omega
 ·have:r=s:=by omega
  subst this
  have key:((V f r+V f (r+1))*d<2*n∨((V f r+V f (r+1))*d=2*n∧r%2=1))→((V f r+V f (r+1))*d'<2*n'∨((V f r+V f (r+1))*d'=2*n'∧r%2=1)):=by
   generalize V f r+V f (r+1)=M
   rintro (h2|⟨h2,h3⟩)
   ·left
    refine Nat.lt_of_mul_lt_mul_right (a:=d) ?_
    have:=Nat.mul_lt_mul_of_pos_right h2 hd'
    calc M*d'*d=M*d*d':=Nat.mul_right_comm ..
     _<2*n*d':=this
     _=2*(n*d'):=Nat.mul_assoc ..
     _≤2*(n'*d):=Nat.mul_le_mul_left _ h
     _=2*n'*d:=(Nat.mul_assoc ..).symm
   ·have h4:M*d'*d≤2*n'*d:=by
     calc M*d'*d=M*d*d':=Nat.mul_right_comm ..
      _=2*n*d':=by rw [h2]
      _=2*(n*d'):=Nat.mul_assoc ..
      _≤2*(n'*d):=Nat.mul_le_mul_left _ h
      _=2*n'*d:=(Nat.mul_assoc ..).symm
    have h5:=Nat.le_of_mul_le_mul_right h4 hd
    rcases Nat.lt_or_ge (M*d') (2*n') with h6|h6
    ·exact .inl h6
    ·exact .inr ⟨by omega,h3⟩
  by_cases h2:(V f r+V f (r+1))*d<2*n∨((V f r+V f (r+1))*d=2*n∧r%2=1)
  ·rw [if_pos h2,if_pos (key h2)];exact Nat.le_refl _
  ·rw [if_neg h2];split<;>omega
end Flt
end Go.Proofs.YtkpmalfigmimaaaGreatDoor
namespace Go.Proofs.YtkpmalfigmimaaaGreatDoor
open Go.RowKit
open Flt
theorem qIN (x:Nat) (w:World) (hx:x<18446744073709551616):Calls Tryz.prog 85 #[.float .f64 x] w fun e w'=>e= .returned (.float .f64 (x%9223372036854775808))∧w'=w:=by
 have ht:=yA x
 have hab:=qAL x hx
 have hf:=zH (x%9223372036854775808)
 generalize x%9223372036854775808=r at*
 clear hx
 go_enter Tryz.func85,Tryz.ntmps85
 go_wp2_with (simp only [ht,hab,hf])
 go_ret
 exact ⟨rfl,rfl⟩
theorem lB (x:Nat) (hx:x<18446744073709551616):bits BinOp.and IntKind.u64 (x:Int) 9223372036854775808=((x/9223372036854775808*9223372036854775808:Nat):Int):=by
 by_cases h:x<9223372036854775808
 ·rw [gY x h];have:x/9223372036854775808=0:=by omega
  rw [this];rfl
 ·rw [gX x (by omega) hx];have:x/9223372036854775808=1:=by omega
  rw [this];rfl
theorem qHK (q y:Nat) (hq:q<2) (hy:y<9223372036854775808):bits BinOp.or IntKind.u64 (y:Int) ((q*9223372036854775808:Nat):Int)=((q*9223372036854775808+y:Nat):Int):=by
 have h:q=0∨q=1:=by omega
 rcases h with rfl|rfl
 ·have:=u64_or_nat y 0 (by omega) (by omega)
  rw [Nat.or_zero] at this
  rw [Nat.zero_mul,Nat.zero_add];exact this
 ·have:=lC y hy
  rw [Nat.one_mul];exact this
theorem qD4 (f:Nat) (hf:f<4294967296):bits BinOp.and IntKind.u32 (f:Int) 2147483648=((f/2147483648*2147483648:Nat):Int):=by
 by_cases h:f<2147483648
 ·rw [dA f h];have:f/2147483648=0:=by omega
  rw [this];rfl
 ·rw [cZ f (by omega) hf];have:f/2147483648=1:=by omega
  rw [this];rfl
theorem tH (y x:Nat) (w:World) (hy:y<9223372036854775808) (hx:x<18446744073709551616):Calls Tryz.prog 87 #[.float .f64 y,.float .f64 x] w fun e w'=>e= .returned (.float .f64 (x/9223372036854775808*9223372036854775808+y))∧w'=w:=by
 have ht:=yA x
 have ht2:=yA y
 have hab:=qAL y (by omega)
 rw [Nat.mod_eq_of_lt hy] at hab
 have h1:=lB x hx
 have h2:=qHK (x/9223372036854775808) y (by omega) hy
 have hf:=zH (x/9223372036854775808*9223372036854775808+y)
 generalize x/9223372036854775808*9223372036854775808+y=r at*
 generalize x/9223372036854775808*9223372036854775808=t at*
 clear hx hy
 go_enter Tryz.func87,Tryz.ntmps87
 go_wp2_with (simp only [ht,ht2,hab,h1,h2,hf])
 go_ret
 exact ⟨rfl,rfl⟩
theorem fF (a b:Nat) (ha:a≤9218868437227405312) (hb:b≤9218868437227405312):Ieee.double.order a b=some (if a<b then .lt else if b<a then .gt else .eq):=by
 have ra:rg Ieee.double a=a:=by rw [xF];omega
 have rb:rg Ieee.double b=b:=by rw [xF];omega
 have sa:∀x,x≤9218868437227405312→sg Ieee.double x=false:=by
  intro x hx
  show (x/9223372036854775808%2==1)=false
  rw [show x/9223372036854775808=0 by omega];rfl
 rw [order_all _ (by decide) _ _ (by rw [ra,jM];exact ha) (by rw [rb,jM];exact hb)]
 unfold sv
 rw [sa a ha,sa b hb,ra,rb]
 simp only [Bool.false_eq_true,if_false]
 rcases Nat.lt_trichotomy a b with h|h|h
 ·rw [if_pos h,cmp_lt (by have:=V_lt (f:=Ieee.double) h;omega)]
 ·subst h;rw [if_neg (by omega),if_neg (by omega),cmp_eq]
 ·rw [if_neg (by omega),if_pos h,cmp_gt (by have:=V_lt (f:=Ieee.double) h;omega)]
def kS (x:Nat):Nat:=x/9223372036854775808*2147483648+min (rnd Ieee.single (V Ieee.double (x%9223372036854775808)) (2^gapE)) 2139095040
theorem qG0:rnd Ieee.single (V Ieee.double 5183643170566569984) (2^gapE)=2139095039:=by decide +kernel
theorem qHQ:rnd Ieee.single (V Ieee.double 5183643170835005439) (2^gapE)=2139095039:=by decide +kernel
theorem dT:rnd Ieee.single (V Ieee.double 5183643170835005440) (2^gapE)=2139095040:=by decide +kernel
theorem yO {r s:Nat} (h:r≤s):rnd Ieee.single (V Ieee.double r) (2^gapE)≤rnd Ieee.single (V Ieee.double s) (2^gapE):=
 rnd_mono _ (by decide) _ _ _ _ (Nat.two_pow_pos _) (Nat.two_pow_pos _) (Nat.mul_le_mul_right _ (V_le h))
theorem qL0 (s:Bool) (R:Nat) (h:R<2147483648):Ieee.single.word s R=s.toNat*2147483648+R:=by
 cases s
 ·show R=0*2147483648+R;omega
 ·show 2147483648+R=1*2147483648+R;omega
theorem qDD (x:Nat) (hx:x<18446744073709551616) (h:x%9223372036854775808≤5183643170566569984):floatToFloatBits .f64 x .f32=some (kS x):=by
 have hu:∀(s d:FloatKind) (b:Nat),s≠d→floatToFloatBits s b d=match s.decode b with
   | .nan _ _=>none
   | .infinity s=>some (d.encode (.infinity s))
   | .number s m e=>if (d.decode (d.encode (.number s m e))).isInfinity then none else some (d.encode (.number s m e)):=by
  intro s d b hne
  unfold floatToFloatBits
  rw [if_neg hne]
  cases s.decode b<;>rfl
 have hr:rg Ieee.double x<Ieee.double.infRung:=by rw [xF,jM];omega
 obtain ⟨m,k,e1,e2,_⟩:=read_fin Ieee.double x hr
 have e3:=narrow_rnd x hr _ _ _ e1
 rw [xF,qDH] at e3
 have hle:rnd Ieee.single (V Ieee.double (x%9223372036854775808)) (2^gapE)≤2139095039:=by rw [←qG0];exact yO h
 unfold kS
 generalize rnd Ieee.single (V Ieee.double (x%9223372036854775808)) (2^gapE)=R at*
 obtain ⟨R',hR',hRl⟩:∃R',min R 2139095040=R'∧R'<2139095040:=⟨_,rfl,by omega⟩
 rw [hR'] at e3⊢
 have hw:=qL0 (sg Ieee.double x) R' (by omega)
 have hs:(sg Ieee.double x).toNat=x/9223372036854775808:=by
  show (x/9223372036854775808%2==1).toNat=_
  have h:x/9223372036854775808=0∨x/9223372036854775808=1:=by omega
  rcases h with h|h<;>rw [h]<;>rfl
 rw [hs] at hw
 have hr2:rg Ieee.single (Ieee.single.word (sg Ieee.double x) R')<Ieee.single.infRung:=by
  have hsw:R'<Ieee.single.signWeight:=by show R'<2147483648;omega
  rw [rg_word _ _ _ hsw,qDH];exact hRl
 obtain ⟨m',k',g1,_⟩:=read_fin Ieee.single _ hr2
 have hd:FloatKind.f64.decode x= .number (sg Ieee.double x) m (Ieee.double.leastPlace+(k:Int)):=e1
 have he:FloatKind.f32.encode (.number (sg Ieee.double x) m (Ieee.double.leastPlace+(k:Int)))=Ieee.single.word (sg Ieee.double x) R':=e3
 have hf:FloatKind.f32.decode (Ieee.single.word (sg Ieee.double x) R')=_:=g1
 rw [hu _ _ _ (by decide),hd]
 simp only [he,hf,Ieee.Datum.isInfinity]
 rw [hw]
 rfl
theorem qG3 (w:World) (a b:Nat) (ts:Array TypeId) (t:TypeId) (ha:a≤9218868437227405312) (hb:b≤9218868437227405312):(Builtin.min_ ts t #[.float .f64 a,.float .f64 b]).run Tryz.prog w= .ok (.float .f64 (min a b)) w:=by
 have h:FloatKind.f64.format.order a b=_:=fF a b ha hb
 have hd:(FloatKind.f64.decode a).neg=sg Ieee.double a∨a=b:=by
  by_cases e:a=b
  ·exact .inr e
  ·left
   rcases Nat.lt_or_ge a 9218868437227405312 with h1|h1
   ·obtain ⟨m,k,e1,_⟩:=read_fin Ieee.double a (by rw [xF,jM];omega)
    rw [show FloatKind.f64.decode a=_ from e1];rfl
   ·rw [show FloatKind.f64.decode a=_ from read_inf Ieee.double a (by decide) (by rw [xF,jM];omega)];rfl
 unfold Builtin.min_
 simp only [List.foldlM,Builtin.min2,h]
 rcases Nat.lt_trichotomy a b with h1|h1|h1
 ·simp [h1,Nat.min_eq_left (Nat.le_of_lt h1)]
 ·subst h1;simp
 ·simp [Nat.lt_asymm h1,h1,Nat.min_eq_right (Nat.le_of_lt h1)]
theorem fC (x:Nat) (w:World) (hx:x<18446744073709551616) (hn:x%9223372036854775808≤9218868437227405312):Calls Tryz.prog 57 #[.float .f64 x] w fun e w'=>e= .returned (.int .u32 (kS x:Nat))∧w'=w:=by
 obtain ⟨r,hr,hrl⟩:∃r,x%9223372036854775808=r∧r≤9218868437227405312:=⟨_,rfl,hn⟩
 have ho:FloatKind.f64.format.order r 5183643170835005440=_:=fF r 5183643170835005440 hrl (by omega)
 have HA:=jG (fun w:World=>qIN x w hx)
 rw [hr] at HA
 by_cases h:5183643170835005440≤r
 ·have ho':FloatKind.f64.format.order r 5183643170835005440=some .gt∨FloatKind.f64.format.order r 5183643170835005440=some .eq:=by
   rw [ho,if_neg (by omega)]
   by_cases e:5183643170835005440<r
   ·left;rw [if_pos e]
   ·right;rw [if_neg e]
  have ht:=yA x
  have e0:kS x=x/9223372036854775808*2147483648+2139095040:=by
   unfold kS
   have:=yO h
   rw [dT] at this
   rw [hr,Nat.min_eq_right this]
  have h1:bits BinOp.and IntKind.u32 ((x:Int)/4294967296) 2147483648=((x/9223372036854775808*2147483648:Nat):Int):=by
   rw [show (x:Int)/4294967296=((x/4294967296:Nat):Int) by simp,qD4 _ (by omega),show x/4294967296/2147483648=x/9223372036854775808 by omega]
  have h2:bits BinOp.or IntKind.u32 ((x/9223372036854775808*2147483648:Nat):Int) 2139095040=((kS x:Nat):Int):=by
   rw [e0]
   have h:x/9223372036854775808=0∨x/9223372036854775808=1:=by omega
   rcases h with h|h<;>rw [h]<;>decide +kernel
  have hxl:(x:Int)/4294967296<4294967296:=by omega
  have hx0:(0:Int)≤(x:Int)/4294967296:=by omega
  generalize kS x=y at*
  generalize x/9223372036854775808*2147483648=t at*
  clear ho hrl hn hr h e0
  rcases ho' with ho|ho
  all_goals
   go_enter Tryz.func57,Tryz.ntmps57
   go_wp2_with fail
   refine (HA.out _).mono ?_
   rintro e w1 ⟨rfl,rfl⟩
   go_wp2_with (simp only [ho,ht,h1,h2])
   go_ret
   exact ⟨rfl,rfl⟩
 ·have ho':FloatKind.f64.format.order r 5183643170835005440=some .lt:=by rw [ho,if_pos (by omega)]
  have hm:=fun w:World=>qG3 w r 5183643170566569984 #[72,72] 72 hrl (by omega)
  obtain ⟨y,hy,hyl⟩:∃y,min r 5183643170566569984=y∧y≤5183643170566569984:=⟨_,rfl,by omega⟩
  rw [hy] at hm
  have HC:=jG (fun w:World=>tH y x w (by omega) hx)
  obtain ⟨z,hz⟩:∃z,x/9223372036854775808*9223372036854775808+y=z:=⟨_,rfl⟩
  rw [hz] at HC
  have hzr:z%9223372036854775808=y:=by omega
  have hzs:z/9223372036854775808=x/9223372036854775808:=by omega
  have hcb:=qDD z (by omega) (by omega)
  have e0:kS z=kS x:=by
   unfold kS
   rw [hzr,hzs,hr]
   have h5:rnd Ieee.single (V Ieee.double y) (2^gapE)=rnd Ieee.single (V Ieee.double r) (2^gapE):=by
    rcases Nat.le_total r 5183643170566569984 with h6|h6
    ·rw [←hy,Nat.min_eq_left h6]
    ·rw [←hy,Nat.min_eq_right h6]
     have a1:=yO h6
     have a2:=yO (show r≤5183643170835005439 by omega)
     rw [qG0] at a1⊢
     rw [qHQ] at a2
     omega
   rw [h5]
  rw [e0] at hcb
  have ht:=qCM (kS x)
  have hcv:=fun w:World=>run_convert_float_float (P:=Tryz.prog) w 72 110 .f64 .f32 z (kS x) (by kernel_rfl) (by kernel_rfl) hcb
  generalize kS x=q at*
  clear ho hrl hn hr h hy hyl hz hzr hzs e0 hcb
  go_enter Tryz.func57,Tryz.ntmps57
  go_wp2_with fail
  refine (HA.out _).mono ?_
  rintro e w1 ⟨rfl,rfl⟩
  go_wp2_with (simp only [ho',hm])
  refine (HC.out _).mono ?_
  rintro e w1 ⟨rfl,rfl⟩
  go_wp2_with (simp only [ht,hcv])
  go_ret
  exact ⟨rfl,rfl⟩
def sL (x:Nat):Nat:=if 9218868437227405312<x%9223372036854775808 then 2143289344 else kS x
theorem wV (x:Nat) (hx:x%9223372036854775808≤9218868437227405312):sL x=kS x:=if_neg (by omega)
theorem bP (x:Nat) (hx:9218868437227405312<x%9223372036854775808):sL x=2143289344:=if_pos hx
theorem zQ (x:Nat) (w:World) (hx:x<18446744073709551616):Calls Tryz.prog 37 #[.float .f64 x] w fun e w'=>e= .returned (.int .u32 (sL x:Nat))∧Below w.heap.size w w':=by
 by_cases h:9218868437227405312<x%9223372036854775808
 ·rw [bP x h]
  go_enter Tryz.func37,Tryz.ntmps37
  go_wp2_with fail
  refine (kW x _).mono ?_
  rintro e w1 ⟨rfl,rfl⟩
  rw [decide_eq_true h]
  go_wp2_with fail
  refine (yH _).mono ?_
  rintro e w2 ⟨rfl,hb2⟩
  go_wp2_with fail
  refine (qA2 _).mono ?_
  rintro e w3 ⟨rfl,hb3⟩
  go_wp2_with fail
  go_ret
  exact ⟨rfl,hb2.trans (hb3.mono hb2.size)⟩
 ·rw [wV x (by omega)]
  have HN:=jG (fun w:World=>fC x w hx (by omega))
  go_enter Tryz.func37,Tryz.ntmps37
  go_wp2_with fail
  refine (kW x _).mono ?_
  rintro e w1 ⟨rfl,rfl⟩
  rw [decide_eq_false h]
  go_wp2_with fail
  refine (vI _).mono ?_
  rintro e w2 ⟨rfl,rfl⟩
  go_wp2_with fail
  refine (HN.out _).mono ?_
  rintro e w2 ⟨rfl,rfl⟩
  go_wp2_with fail
  go_ret
  exact ⟨rfl,Below.refl _ _⟩
theorem qCY (b:Nat) (w:World) (hb:b<18446744073709551616) (hx:¬9218868437227405312<b%9223372036854775808):Calls Tryz.prog 21 #[.int .u64 b] w fun e w'=>e= .returned (.int .u32 (kS b:Nat))∧Below w.heap.size w w':=by
 have HP:=jG (fun w:World=>zQ b w hb)
 rw [wV b (by omega)] at HP
 go_enter Tryz.func21,Tryz.ntmps21
 go_wp2_with fail
 refine (qU _).mono ?_
 rintro e w1 ⟨rfl,hb1⟩
 go_wp2_with fail
 refine (bD b _ hb).mono ?_
 rintro e w2 ⟨rfl,hb2⟩
 rw [decide_eq_false hx]
 have H2:=jG (hb1.trans (hb2.mono hb1.size))
 clear hb1 hb2
 go_wp2_with fail
 refine (qY b _).mono ?_
 rintro e w3 ⟨rfl,rfl⟩
 go_wp2_with fail
 refine (HP.out _).mono ?_
 rintro e w4 ⟨rfl,hb4⟩
 go_wp2_with fail
 go_ret
 exact ⟨rfl,H2.out.trans (hb4.mono H2.out.size)⟩
end Go.Proofs.YtkpmalfigmimaaaGreatDoor
