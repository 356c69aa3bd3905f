import Derived.Test.YtkpmalfigmimaaaGreatDoorFA
import Derived.Test.YtkpmalfigmimaaaGreatDoorProg
import Derived.WalkKit
import Derived.WalkSpells
import Derived.WalkLawsBesides
import Derived.Deep.QuietTactic
import Derived.BigQuiet
import Derived.BigRegion
import Derived.OwnWalk
import Derived.Laws.CopyOwn
import Derived.Laws.AppendOwnNone
import Derived.Deep.OwnRows
import Derived.Deep.RegionHeld3
import Derived.Laws.BitsAllLaws
import Derived.Laws.FloatArith
import Derived.Test.YtkpmalfigmimaaaGreatDoorD1M
import Derived.Test.YtkpmalfigmimaaaGreatDoorT1S
set_option linter.unusedVariables false
set_option linter.unusedSimpArgs false
set_option maxRecDepth 100000
set_option maxHeartbeats 8000000
namespace Go.Proofs.YtkpmalfigmimaaaGreatDoor
namespace Flt
open Ieee
def rg (f:Format) (w:Nat):Nat:=w%f.signWeight
def sg (f:Format) (w:Nat):Bool:=w/f.signWeight%2==1
def sv (f:Format) (w:Nat):Int:=if sg f w then -(V f (rg f w):Nat) else (V f (rg f w):Nat)
theorem signWeight_pos (f:Format):0<f.signWeight:=Nat.two_pow_pos _
theorem read_fin (f:Format) (w:Nat) (h:rg f w<f.infRung):
  ∃m k:Nat,f.read w= .number (sg f w) m (f.leastPlace+k)∧m*2^k=V f (rg f w)∧m<2*f.binade∧(k=0∨f.binade≤m):=by
 have hb:=binade_pos f
 unfold Format.read
 dsimp only
 rw [show w%f.signWeight=rg f w from rfl,show (w/f.signWeight%2==1)=sg f w from rfl]
 by_cases h1:rg f w<f.binade
 ·refine ⟨rg f w,0,?_,?_,by omega,Or.inl rfl⟩
  ·rw [if_pos h1];simp
  ·unfold V;rw [if_pos h1];simp
 ·have hm:=Nat.mod_lt (rg f w) hb
  refine ⟨f.binade+rg f w%f.binade,rg f w/f.binade-1,?_,?_,by omega,Or.inr (by omega)⟩
  ·rw [if_neg h1,if_pos h]
  ·unfold V;rw [if_neg h1]
theorem read_inf (f:Format) (w:Nat) (hi:f.binade≤f.infRung) (h:rg f w=f.infRung):f.read w= .infinity (sg f w):=by
 unfold Format.read
 dsimp only
 rw [show w%f.signWeight=rg f w from rfl,show (w/f.signWeight%2==1)=sg f w from rfl,if_neg (by omega),if_neg (by omega),if_pos h]
theorem read_nan (f:Format) (w:Nat) (hi:f.binade≤f.infRung) (h:f.infRung<rg f w):f.read w= .nan (sg f w) (rg f w-f.infRung):=by
 unfold Format.read
 dsimp only
 rw [show w%f.signWeight=rg f w from rfl,show (w/f.signWeight%2==1)=sg f w from rfl,if_neg (by omega),if_neg (by omega),if_neg (by omega)]
theorem cmp_lt {a b:Int} (h:a<b):compare a b= .lt:=by
 show compareOfLessAndEq a b=_
 unfold compareOfLessAndEq;rw [if_pos h]
theorem cmp_gt {a b:Int} (h:b<a):compare a b= .gt:=by
 show compareOfLessAndEq a b=_
 unfold compareOfLessAndEq;rw [if_neg (by omega),if_neg (by omega)]
theorem cmp_eq (a:Int):compare a a= .eq:=by
 show compareOfLessAndEq a a=_
 unfold compareOfLessAndEq;rw [if_neg (by omega),if_pos rfl]
theorem cmp_scale (a b c:Int) (h:0<c):compare (a*c) (b*c)=compare a b:=by
 rcases Int.lt_trichotomy a b with h1|h1|h1
 ·rw [cmp_lt h1,cmp_lt (Int.mul_lt_mul_of_pos_right h1 h)]
 ·subst h1;rw [cmp_eq,cmp_eq]
 ·rw [cmp_gt h1,cmp_gt (Int.mul_lt_mul_of_pos_right h1 h)]
theorem signed_scale (s:Bool) (m i j:Nat):signed s m i*(2^j:Nat)=signed s (m*2^(i+j)) 0:=by
 unfold signed
 simp only [Nat.shiftLeft_eq,Nat.pow_zero,Nat.mul_one]
 have e:m*2^(i+j)=m*2^i*2^j:=by rw [Nat.pow_add,Nat.mul_assoc]
 rw [e]
 cases s<;>simp [Int.neg_mul]
theorem infRung_ge (f:Format) (h:1≤f.exponentBits):f.binade≤f.infRung:=by
 unfold Format.infRung
 have:2^1≤2^f.exponentBits:=Nat.pow_le_pow_right (by omega) h
 exact Nat.le_mul_of_pos_left _ (by omega)
theorem sv_signed (f:Format) (w:Nat):sv f w=signed (sg f w) (V f (rg f w)) 0:=by
 unfold sv signed;simp
theorem order_all (f:Format) (he:1≤f.exponentBits) (a b:Nat) (ha:rg f a≤f.infRung) (hb:rg f b≤f.infRung):
  f.order a b=some (compare (sv f a) (sv f b)):=by
 have hi:=infRung_ge f he
 have hp:=binade_pos f
 have hinf:0<f.infRung:=by omega
 have hV:∀r,r<f.infRung→V f r<V f f.infRung:=fun r h=>V_lt h
 have h0:0<V f f.infRung:=by have:=V_lt (f:=f) hinf;omega
 unfold Format.order
 rcases Nat.lt_or_ge (rg f a) f.infRung with h1|h1
 ·obtain ⟨m,k,e1,e2,_⟩:=read_fin f a h1
  rcases Nat.lt_or_ge (rg f b) f.infRung with h2|h2
  ·obtain ⟨n,l,e3,e4,_⟩:=read_fin f b h2
   rw [e1,e3]
   simp only [Datum.order]
   have hk:(f.leastPlace+(k:Int)-min (f.leastPlace+(k:Int)) (f.leastPlace+(l:Int))).toNat=k-min k l:=by omega
   have hl:(f.leastPlace+(l:Int)-min (f.leastPlace+(k:Int)) (f.leastPlace+(l:Int))).toNat=l-min k l:=by omega
   rw [hk,hl,sv_signed,sv_signed,←e2,←e4]
   have hc:(0:Int)<((2^(min k l):Nat):Int):=by exact_mod_cast Nat.two_pow_pos _
   rw [←cmp_scale _ _ _ hc,signed_scale,signed_scale,Nat.sub_add_cancel (Nat.min_le_left ..),Nat.sub_add_cancel (Nat.min_le_right ..)]
  ·have h3:rg f b=f.infRung:=by omega
   rw [e1,read_inf f b hi h3]
   simp only [Datum.order]
   have:=hV _ h1
   unfold sv;rw [h3]
   cases sg f b<;>cases sg f a<;>simp only [Bool.false_eq_true,if_false,if_true,reduceIte]
   ·rw [cmp_lt (by omega)]
   ·rw [cmp_lt (by omega)]
   ·rw [cmp_gt (by omega)]
   ·rw [cmp_gt (by omega)]
 ·have h3:rg f a=f.infRung:=by omega
  rcases Nat.lt_or_ge (rg f b) f.infRung with h2|h2
  ·obtain ⟨n,l,e3,e4,_⟩:=read_fin f b h2
   rw [e3,read_inf f a hi h3]
   simp only [Datum.order]
   have:=hV _ h2
   unfold sv;rw [h3]
   cases sg f b<;>cases sg f a<;>simp only [Bool.false_eq_true,if_false,if_true,reduceIte]
   ·rw [cmp_gt (by omega)]
   ·rw [cmp_lt (by omega)]
   ·rw [cmp_gt (by omega)]
   ·rw [cmp_lt (by omega)]
  ·have h4:rg f b=f.infRung:=by omega
   rw [read_inf f a hi h3,read_inf f b hi h4]
   simp only [Datum.order]
   unfold sv;rw [h3,h4]
   cases sg f b<;>cases sg f a<;>simp only [Bool.false_eq_true,if_false,if_true,reduceIte]
   ·rw [cmp_eq];rfl
   ·rw [cmp_lt (by omega)];rfl
   ·rw [cmp_gt (by omega)];rfl
   ·rw [cmp_eq];rfl
theorem order_nan (f:Format) (he:1≤f.exponentBits) (a b:Nat) (h:f.infRung<rg f a∨f.infRung<rg f b):f.order a b=none:=by
 have hi:=infRung_ge f he
 unfold Format.order
 rcases h with h|h
 ·rw [read_nan f a hi h];rfl
 ·rw [read_nan f b hi h]
  cases f.read a<;>rfl
end Flt
end Go.Proofs.YtkpmalfigmimaaaGreatDoor
namespace Go.Proofs.YtkpmalfigmimaaaGreatDoor
namespace Flt
open Ieee
def cutE (n u:Nat):Nat:=n/u+(if u<2*(n%u)∨(u=2*(n%u)∧n/u%2=1) then 1 else 0)
def rnd (f:Format) (n d:Nat):Nat:=((n/d).log2-f.fractionBits)*f.binade+cutE n (d*2^((n/d).log2-f.fractionBits))
theorem cutE_scale (n u c:Nat) (h:0<c):cutE (n*c) (u*c)=cutE n u:=by
 unfold cutE
 rw [Nat.mul_div_mul_right _ _ h,Nat.mul_mod_mul_right]
 have e1:(u*c<2*(n%u*c))=(u<2*(n%u)):=by
  rw [←Nat.mul_assoc];exact propext ⟨Nat.lt_of_mul_lt_mul_right,fun h2=>Nat.mul_lt_mul_of_pos_right h2 h⟩
 have e2:(u*c=2*(n%u*c))=(u=2*(n%u)):=by
  rw [←Nat.mul_assoc];exact propext ⟨Nat.eq_of_mul_eq_mul_right h,fun h2=>by rw [←h2]⟩
 simp only [e1,e2]
theorem rnd_scale (f:Format) (n d c:Nat) (h:0<c):rnd f (n*c) (d*c)=rnd f n d:=by
 unfold rnd
 rw [Nat.mul_div_mul_right _ _ h,Nat.mul_right_comm,cutE_scale _ _ _ h]
theorem rnd_eq (f:Format) {n d n' d':Nat} (hd:0<d) (hd':0<d') (h:n*d'=n'*d):rnd f n d=rnd f n' d':=by
 rw [←rnd_scale f n d d' hd',←rnd_scale f n' d' d hd,h,Nat.mul_comm d d']
theorem cut_even (neg:Bool) (n drop:Nat):Toward.even.cut neg n drop=cutE n (2^drop):=by
 unfold Toward.cut cutE
 simp only [Nat.shiftLeft_eq,Nat.one_mul]
 have key:∀d,(if 2^d<2*(n%2^d)∨(2^d=2*(n%2^d)∧n/2^d%2=1) then 1 else 0)=(decide (2^d<2*(n%2^d))||(2^d==2*(n%2^d)&&n/2^d%2==1)).toNat:=by
  intro d
  by_cases h1:2^d<2*(n%2^d)
  ·simp [h1]
  ·by_cases h2:2^d=2*(n%2^d)
   ·by_cases h3:n/2^d%2=1
    ·rw [if_pos (Or.inr ⟨h2,h3⟩)]
     have:(2^d==2*(n%2^d))=true:=by simpa using h2
     simp [this,h3]
    ·rw [if_neg (by intro h;rcases h with h|h;exact h1 h;exact h3 h.2)]
     have:n/2^d%2=0:=by omega
     simp [h1,this]
   ·rw [if_neg (by intro h;rcases h with h|h;exact h1 h;exact h2 h.1)]
    have:(2^d==2*(n%2^d))=false:=by simpa using h2
    simp [h1,this]
 rw [←key]
 rcases Nat.le_total drop (n.log2+2) with h|h
 ·rw [Nat.min_eq_left h]
 ·rw [Nat.min_eq_right h]
  have hn:n<2^(n.log2+1):=Nat.lt_log2_self
  have small:∀d,n.log2+2≤d→2*n<2^d:=by
   intro d hd
   have:2^(n.log2+2)≤2^d:=Nat.pow_le_pow_right (by omega) hd
   have:2^(n.log2+2)=2*2^(n.log2+1):=by rw [Nat.pow_succ,Nat.mul_comm]
   omega
  have zero:∀d,n.log2+2≤d→n/2^d+(if 2^d<2*(n%2^d)∨(2^d=2*(n%2^d)∧n/2^d%2=1) then 1 else 0)=0:=by
   intro d hd
   have h1:=small d hd
   have h2:n<2^d:=by omega
   rw [Nat.div_eq_of_lt h2,Nat.mod_eq_of_lt h2,if_neg (by omega)]
  rw [zero _ (Nat.le_refl _),zero _ h]
theorem log2_mul_pow (m p:Nat) (h:m≠0):(m*2^p).log2=m.log2+p:=by
 have h1:m*2^p≠0:=Nat.mul_ne_zero h (Nat.ne_of_gt (Nat.two_pow_pos p))
 rw [Nat.log2_eq_iff h1]
 constructor
 ·rw [Nat.pow_add];exact Nat.mul_le_mul_right _ (Nat.log2_self_le h)
 ·have:=Nat.mul_lt_mul_of_pos_right (Nat.lt_log2_self (n:=m)) (Nat.two_pow_pos p)
  rw [←Nat.pow_add] at this
  rwa [show m.log2+p+1=m.log2+1+p by omega]
theorem log2_div_pow (m d:Nat):(m/2^d).log2=m.log2-d:=by
 by_cases h:m/2^d=0
 ·rw [h]
  have:m<2^d:=by
   rcases Nat.lt_or_ge m (2^d) with h1|h1
   ·exact h1
   ·have:=Nat.div_pos h1 (Nat.two_pow_pos d);omega
  by_cases hm:m=0
  ·subst hm;simp
  ·have:m.log2<d:=(Nat.log2_lt hm).2 this
   rw [show m.log2-d=0 by omega];simp
 ·rw [Nat.log2_eq_iff h]
  have hm:m≠0:=by intro h1;subst h1;simp at h
  have h1:2^d≤m:=by
   rcases Nat.lt_or_ge m (2^d) with h1|h1
   ·exact absurd (Nat.div_eq_of_lt h1) h
   ·exact h1
  have h2:d≤m.log2:=(Nat.le_log2 hm).2 h1
  constructor
  ·rw [Nat.le_div_iff_mul_le (Nat.two_pow_pos d),←Nat.pow_add,Nat.sub_add_cancel h2]
   exact Nat.log2_self_le hm
  ·rw [Nat.div_lt_iff_lt_mul (Nat.two_pow_pos d),←Nat.pow_add,show m.log2-d+1+d=m.log2+1 by omega]
   exact Nat.lt_log2_self
theorem nearest_rnd (f:Format) (neg:Bool) (mag:Nat) (place:Int):
  f.nearest neg mag place=f.word neg (min (rnd f (mag*2^(place-f.leastPlace).toNat) (2^(f.leastPlace-place).toNat)) f.infRung):=by
 unfold Format.nearest
 by_cases hm:mag=0
 ·rw [if_pos hm,hm]
  have:rnd f (0*2^(place-f.leastPlace).toNat) (2^(f.leastPlace-place).toNat)=0:=by
   unfold rnd cutE
   simp
  rw [this,Nat.zero_min]
 ·rw [if_neg hm]
  dsimp only
  rw [cut_even,Nat.shiftLeft_eq]
  refine congrArg _ (congrArg (min · _) ?_)
  unfold rnd
  rcases Int.le_total f.leastPlace place with h|h
  ·obtain ⟨p,hp⟩:∃p:Nat,place=f.leastPlace+p:=⟨(place-f.leastPlace).toNat,by omega⟩
   subst hp
   rw [show (f.leastPlace-(f.leastPlace+(p:Int))).toNat=0 by omega,show (f.leastPlace+(p:Int)-f.leastPlace).toNat=p by omega]
   simp only [Nat.pow_zero,Nat.div_one,Nat.one_mul]
   rw [log2_mul_pow _ _ hm]
   have e:(max (f.leastPlace+(p:Int)+(mag.log2:Int)-(f.fractionBits:Int)) f.leastPlace-f.leastPlace).toNat=mag.log2+p-f.fractionBits:=by omega
   rw [e]
   refine congrArg _ ?_
   generalize hk:mag.log2+p-f.fractionBits=k at*
   have e1:(f.leastPlace+(p:Int)-max (f.leastPlace+(p:Int)+(mag.log2:Int)-(f.fractionBits:Int)) f.leastPlace).toNat=p-k:=by omega
   have e2:(max (f.leastPlace+(p:Int)+(mag.log2:Int)-(f.fractionBits:Int)) f.leastPlace-(f.leastPlace+(p:Int))).toNat=k-p:=by omega
   rw [e1,e2,←cutE_scale _ (2^(k-p)) (2^(min k p)) (Nat.two_pow_pos _),Nat.mul_assoc,←Nat.pow_add,←Nat.pow_add,show p-k+min k p=p by omega,show k-p+min k p=k by omega]
  ·obtain ⟨p,hp⟩:∃p:Nat,f.leastPlace=place+p:=⟨(f.leastPlace-place).toNat,by omega⟩
   rw [hp,show (place-(place+(p:Int))).toNat=0 by omega,show (place+(p:Int)-place).toNat=p by omega]
   simp only [Nat.pow_zero,Nat.mul_one]
   rw [log2_div_pow]
   have e:(max (place+(mag.log2:Int)-(f.fractionBits:Int)) (place+p)-(place+(p:Int))).toNat=mag.log2-p-f.fractionBits:=by omega
   rw [e]
   refine congrArg _ ?_
   generalize hk:mag.log2-p-f.fractionBits=k at*
   have e1:(place-max (place+(mag.log2:Int)-(f.fractionBits:Int)) (place+(p:Int))).toNat=0:=by omega
   have e2:(max (place+(mag.log2:Int)-(f.fractionBits:Int)) (place+(p:Int))-place).toNat=p+k:=by omega
   rw [e1,e2,Nat.pow_zero,Nat.mul_one,Nat.pow_add]
theorem rnd_V (f:Format) (r:Nat):rnd f (V f r) 1=r:=by
 have hb:=binade_pos f
 have one:∀n,cutE n 1=n:=by intro n;unfold cutE;simp [Nat.mod_one]
 unfold rnd
 rw [Nat.div_one,Nat.one_mul]
 unfold V
 by_cases h:r<f.binade
 ·rw [if_pos h]
  have:r.log2-f.fractionBits=0:=by
   by_cases h0:r=0
   ·subst h0;simp
   ·have:r.log2<f.fractionBits:=(Nat.log2_lt h0).2 h
    omega
  rw [this];simp [one]
 ·rw [if_neg h]
  have hm:=Nat.mod_lt r hb
  have hd:=Nat.div_add_mod r f.binade
  have hq:0<r/f.binade:=Nat.div_pos (by omega) hb
  have hl:(f.binade+r%f.binade).log2=f.fractionBits:=by
   rw [Nat.log2_eq_iff (by omega)]
   refine ⟨?_,?_⟩
   ·show f.binade≤_;omega
   ·rw [Nat.pow_succ];show _<f.binade*2;omega
  rw [log2_mul_pow _ _ (by omega),hl,Nat.add_sub_cancel_left]
  have:=cutE_scale (f.binade+r%f.binade) 1 (2^(r/f.binade-1)) (Nat.two_pow_pos _)
  rw [Nat.one_mul] at this
  rw [this,one]
  obtain ⟨q,hq'⟩:∃q,r/f.binade=q+1:=⟨r/f.binade-1,by omega⟩
  rw [hq',Nat.add_sub_cancel]
  rw [hq',Nat.mul_add,Nat.mul_comm] at hd
  omega
end Flt
end Go.Proofs.YtkpmalfigmimaaaGreatDoor
namespace Go.Proofs.YtkpmalfigmimaaaGreatDoor
namespace Flt
open Ieee
theorem V_at (f:Format) (k c:Nat) (h1:c<2*f.binade) (h2:k=0∨f.binade≤c):V f (k*f.binade+c)=c*2^k∧V f (k*f.binade+c+1)=(c+1)*2^k:=by
 have hb:=binade_pos f
 have main:V f (k*f.binade+c)=c*2^k∧(k*f.binade+c)/f.binade-1=k:=by
  rcases Nat.lt_or_ge c f.binade with h|h
  ·have hk:k=0:=by omega
   subst hk
   rw [Nat.zero_mul,Nat.zero_add,Nat.div_eq_of_lt h]
   unfold V;rw [if_pos h];simp
  ·obtain ⟨e,he⟩:∃e,c=f.binade+e:=⟨c-f.binade,by omega⟩
   have hlt:e<f.binade:=by omega
   have e0:k*f.binade+c=e+f.binade*(k+1):=by rw [he,Nat.mul_add,Nat.mul_comm];omega
   have e1:(k*f.binade+c)/f.binade=k+1:=by rw [e0,Nat.add_mul_div_left _ _ hb,Nat.div_eq_of_lt hlt,Nat.zero_add]
   have e2:(k*f.binade+c)%f.binade=e:=by rw [e0,Nat.add_mul_mod_self_left,Nat.mod_eq_of_lt hlt]
   have e3:¬(k*f.binade+c<f.binade):=by omega
   unfold V
   rw [if_neg e3,e1,e2,he]
   simp
 refine ⟨main.1,?_⟩
 rw [V_step,main.1,main.2,Nat.add_mul,Nat.one_mul]
theorem rnd_spec (f:Format) (hf:1≤f.fractionBits) (n d:Nat) (hd:0<d):
  ∃r,V f r*d≤n∧n<V f (r+1)*d∧rnd f n d=r+(if (V f r+V f (r+1))*d<2*n∨((V f r+V f (r+1))*d=2*n∧r%2=1) then 1 else 0):=by
 have hb:=binade_pos f
 unfold rnd
 generalize hk:(n/d).log2-f.fractionBits=k
 have hc:n/(d*2^k)<2*f.binade∧(k=0∨f.binade≤n/(d*2^k)):=by
  rw [←Nat.div_div_eq_div_mul]
  by_cases h0:n/d=0
  ·rw [h0] at hk⊢
   simp at hk⊢
   omega
  ·have l1:=Nat.log2_self_le h0
   have l2:=Nat.lt_log2_self (n:=n/d)
   by_cases hk0:k=0
   ·subst hk0
    rw [Nat.pow_zero,Nat.div_one]
    refine ⟨?_,Or.inl rfl⟩
    have:2^((n/d).log2+1)≤2^(f.fractionBits+1):=Nat.pow_le_pow_right (by omega) (by omega)
    have:2^(f.fractionBits+1)=2*f.binade:=by rw [Nat.pow_succ,Nat.mul_comm];rfl
    omega
   ·have el:(n/d).log2=f.fractionBits+k:=by omega
    rw [el] at l1 l2
    constructor
    ·rw [Nat.div_lt_iff_lt_mul (Nat.two_pow_pos k)]
     rw [show f.fractionBits+k+1=1+f.fractionBits+k by omega,Nat.pow_add,Nat.pow_add] at l2
     exact l2
    ·right
     rw [Nat.le_div_iff_mul_le (Nat.two_pow_pos k)]
     rw [Nat.pow_add] at l1
     exact l1
 obtain ⟨v1,v2⟩:=V_at f k _ hc.1 hc.2
 refine ⟨k*f.binade+n/(d*2^k),?_,?_,?_⟩
 ·rw [v1,Nat.mul_assoc,Nat.mul_comm (2^k) d];exact Nat.div_mul_le_self ..
 ·rw [v2,Nat.mul_assoc,Nat.mul_comm (2^k) d,Nat.mul_comm]
  exact Nat.lt_mul_div_succ n (Nat.mul_pos hd (Nat.two_pow_pos k))
 ·rw [v1,v2]
  unfold cutE
  rw [←Nat.add_assoc]
  refine congrArg _ ?_
  have hU:0<d*2^k:=Nat.mul_pos hd (Nat.two_pow_pos k)
  have e1:(n/(d*2^k)*2^k+(n/(d*2^k)+1)*2^k)*d=2*(d*2^k*(n/(d*2^k)))+d*2^k:=by
   generalize n/(d*2^k)=c
   rw [Nat.add_mul c,Nat.one_mul,Nat.add_mul,Nat.add_mul,Nat.mul_assoc c,Nat.mul_comm (2^k) d,Nat.mul_comm c]
   omega
  have hdm:=Nat.div_add_mod n (d*2^k)
  rw [e1]
  have ep:(k*f.binade+n/(d*2^k))%2=n/(d*2^k)%2:=by
   obtain ⟨x,hx⟩:∃x,f.fractionBits=x+1:=⟨f.fractionBits-1,by omega⟩
   have:f.binade=2*2^x:=by unfold Format.binade;rw [hx,Nat.pow_succ,Nat.mul_comm]
   rw [this,Nat.mul_left_comm,Nat.mul_add_mod]
  rw [ep]
  generalize d*2^k*(n/(d*2^k))=t at*
  generalize n/(d*2^k)=c at*
  generalize n%(d*2^k)=s at*
  generalize d*2^k=U at*
  by_cases h:U<2*s∨U=2*s∧c%2=1
  ·rw [if_pos h,if_pos (by omega)]
  ·rw [if_neg h,if_neg (by omega)]
end Flt
end Go.Proofs.YtkpmalfigmimaaaGreatDoor
namespace Go.Proofs.YtkpmalfigmimaaaGreatDoor
open Go.RowKit
theorem jG {p:Prop} (h:p):Hid p:=h
theorem yM {o p:Option TypeDesc} (e:p=o) (h:(match o with|some (.struct _)=>true|_=>false)=true):∃fs,p=some (.struct fs):=by
 subst e
 cases p with
 |none=>simp at h
 |some d=>cases d<;>first|exact ⟨_,rfl⟩|simp at h
theorem sJ (n r:Nat) (h:r<2^n):r&&&2^n=0:=by
 refine Nat.eq_of_testBit_eq fun i=>?_
 rw [Nat.testBit_and,Nat.testBit_two_pow,Nat.zero_testBit]
 by_cases hi:n=i
 ·subst hi;rw [Nat.testBit_lt_two_pow h];simp
 ·simp [hi]
theorem sI (n r:Nat) (h:r<2^n):(2^n+r)&&&2^n=2^n:=by
 refine Nat.eq_of_testBit_eq fun i=>?_
 rw [Nat.testBit_and,Nat.testBit_two_pow]
 by_cases hi:n=i
 ·subst hi;rw [Nat.testBit_two_pow_add_eq,Nat.testBit_lt_two_pow h];simp
 ·simp [hi]
theorem qFK (n r:Nat) (h:r<2^n):r|||2^n=2^n+r:=by
 have:=Nat.two_pow_add_eq_or_of_lt h 1
 rw [Nat.mul_one] at this
 rw [this,Nat.or_comm]
theorem qHC (n r:Nat) (h:r<2^n):r^^^2^n=2^n+r:=by
 rw [←qFK n r h]
 refine Nat.eq_of_testBit_eq fun i=>?_
 rw [Nat.testBit_xor,Nat.testBit_or,Nat.testBit_two_pow]
 by_cases hi:n=i
 ·subst hi;rw [Nat.testBit_lt_two_pow h];simp
 ·simp [hi]
theorem qHB (n r:Nat) (h:r<2^n):(2^n+r)^^^2^n=r:=by
 rw [←qHC n r h,Nat.xor_assoc,Nat.xor_self,Nat.xor_zero]
theorem qKU (n a:Nat) (h:a<2^n):(2^n-1)^^^a=2^n-1-a:=by
 refine Nat.eq_of_testBit_eq fun i=>?_
 rw [show 2^n-1-a=2^n-(a+1) by omega,Nat.testBit_two_pow_sub_succ h,Nat.testBit_xor,Nat.testBit_two_pow_sub_one]
 by_cases hi:i<n
 ·simp [hi]
 ·have:a.testBit i=false:=Nat.testBit_lt_two_pow (Nat.lt_of_lt_of_le h (Nat.pow_le_pow_right (by omega) (by omega)))
  simp [hi,this]
theorem qII (a f e:Nat):a&&&((2^e-1)*2^f)=a/2^f%2^e*2^f:=by
 rw [←Nat.and_two_pow_sub_one_eq_mod,←Nat.shiftLeft_eq,←Nat.shiftLeft_eq,←Nat.shiftRight_eq_div_pow]
 refine Nat.eq_of_testBit_eq fun i=>?_
 rw [Nat.testBit_and,Nat.testBit_shiftLeft,Nat.testBit_shiftLeft,Nat.testBit_and,Nat.testBit_shiftRight]
 by_cases hi:f≤i
 ·rw [Nat.add_sub_cancel' hi];simp [hi]
 ·simp [hi]
theorem gY (r:Nat) (h:r<9223372036854775808):bits BinOp.and IntKind.u64 (r:Int) 9223372036854775808=0:=by
 have:=u64_and_nat r 9223372036854775808 (by omega) (by omega)
 rw [show r&&&9223372036854775808=0 from sJ 63 r h] at this;exact this
theorem gX (b:Nat) (h:9223372036854775808≤b) (hb:b<18446744073709551616):bits BinOp.and IntKind.u64 (b:Int) 9223372036854775808=9223372036854775808:=by
 obtain ⟨r,rfl⟩:∃r,b=9223372036854775808+r:=⟨b-9223372036854775808,by omega⟩
 have:=u64_and_nat (9223372036854775808+r) 9223372036854775808 hb (by omega)
 rw [show (9223372036854775808+r)&&&9223372036854775808=9223372036854775808 from sI 63 r (show r<9223372036854775808 by omega)] at this;exact this
theorem lC (r:Nat) (h:r<9223372036854775808):bits BinOp.or IntKind.u64 (r:Int) 9223372036854775808=((9223372036854775808+r:Nat):Int):=by
 have:=u64_or_nat r 9223372036854775808 (by omega) (by omega)
 rw [show r|||9223372036854775808=9223372036854775808+r from qFK 63 r h] at this;exact this
theorem qD5 (b:Nat) (h:9223372036854775808≤b) (hb:b<18446744073709551616):bits BinOp.xor IntKind.u64 (b:Int) 9223372036854775808=((b-9223372036854775808:Nat):Int):=by
 obtain ⟨r,rfl⟩:∃r,b=9223372036854775808+r:=⟨b-9223372036854775808,by omega⟩
 have:=u64_xor_nat (9223372036854775808+r) 9223372036854775808 hb (by omega)
 rw [show (9223372036854775808+r)^^^9223372036854775808=r from qHB 63 r (show r<9223372036854775808 by omega)] at this
 rw [Nat.add_sub_cancel_left];exact this
theorem qEP (b:Nat) (hb:b<18446744073709551616):bits BinOp.xor IntKind.u64 IntKind.u64.max (b:Int)=((18446744073709551615-b:Nat):Int):=by
 have:=u64_xor_nat 18446744073709551615 b (by omega) hb
 rw [show 18446744073709551615^^^b=18446744073709551615-b from qKU 64 b hb] at this;exact this
theorem qAL (b:Nat) (hb:b<18446744073709551616):bits BinOp.andNot IntKind.u64 (b:Int) 9223372036854775808=((b%9223372036854775808:Nat):Int):=by
 have:=u64_andNot_nat b 9223372036854775808 hb (by omega)
 rw [show b&&&(18446744073709551615-9223372036854775808)=b%9223372036854775808 from Nat.and_two_pow_sub_one_eq_mod b 63] at this;exact this
theorem qGV (b:Nat) (hb:b<18446744073709551616):bits BinOp.andNot IntKind.u64 (b:Int) 18442240474082181120=((b%4503599627370496:Nat):Int):=by
 have:=u64_andNot_nat b 18442240474082181120 hb (by omega)
 rw [show b&&&(18446744073709551615-18442240474082181120)=b%4503599627370496 from Nat.and_two_pow_sub_one_eq_mod b 52] at this;exact this
theorem qEO (b:Nat) (hb:b<18446744073709551616):bits BinOp.and IntKind.u64 (b:Int) 9218868437227405312=((b/4503599627370496%(2047+1)*4503599627370496:Nat):Int):=by
 have:=u64_and_nat b 9218868437227405312 hb (by omega)
 rw [show b&&&9218868437227405312=b/4503599627370496%(2047+1)*4503599627370496 from qII b 52 11] at this;exact this
theorem qGX (r:Nat) (h:r<2251799813685248):bits BinOp.and IntKind.u64 (r:Int) 2251799813685248=0:=by
 have:=u64_and_nat r 2251799813685248 (by omega) (by omega)
 rw [show r&&&2251799813685248=0 from sJ 51 r h] at this;exact this
theorem qGW (b:Nat) (h:2251799813685248≤b) (hb:b<4503599627370496):bits BinOp.and IntKind.u64 (b:Int) 2251799813685248=2251799813685248:=by
 obtain ⟨r,rfl⟩:∃r,b=2251799813685248+r:=⟨b-2251799813685248,by omega⟩
 have:=u64_and_nat (2251799813685248+r) 2251799813685248 (by omega) (by omega)
 rw [show (2251799813685248+r)&&&2251799813685248=2251799813685248 from sI 51 r (show r<2251799813685248 by omega)] at this;exact this
theorem qKO:bits BinOp.or IntKind.u64 9223372036854775808 9218868437227405312=18442240474082181120:=by decide +kernel
theorem qKN:bits BinOp.or IntKind.u64 9218868437227405312 2251799813685248=9221120237041090560:=by decide +kernel
theorem qC5:bits BinOp.xor IntKind.u64 IntKind.u64.max 0=18446744073709551615:=by decide +kernel
theorem qJ6:bits BinOp.xor IntKind.u64 IntKind.u64.max 9223372036854775807=9223372036854775808:=by decide +kernel
theorem pR (w:World):Calls Tryz.prog 51 #[] w fun e w'=>e= .returned (.bool true)∧w'=w:=by
 have hx:=qC5
 go_enter Tryz.func51,Tryz.ntmps51
 go_wp2_with (simp only [hx])
 go_ret
 exact ⟨rfl,rfl⟩
def wC:Value:= .agg #[.int .u64 9223372036854775808,.int .u64 9218868437227405312,.int .u64 2251799813685248]
theorem qU (w:World):Calls Tryz.prog 30 #[] w fun e w'=>e= .returned wC∧Below w.heap.size w w':=by
 have hx:=qC5
 have hy:=qJ6
 go_enter Tryz.func30,Tryz.ntmps30
 go_wp2_with fail
 refine (pR _).mono ?_
 rintro e w1 ⟨rfl,rfl⟩
 go_wp2_with (simp only [hx])
 go_region
 go_wp2_with fail
 obtain ⟨fs,hu⟩:=yM (show Tryz.prog.underlying 75=Tryz.prog.underlying 75 from rfl) (by kernel_rfl)
 refine bodyPost_ret (results_cell_row rfl _ _ w.heap.size _ _ (0,0) (.struct fs) rfl (heap_alloc_new w _) hu rfl (by kernel_rfl)) rfl ?_
 exact ⟨rfl,((Below.refl _ w).alloc (Nat.le_refl _) _).drew⟩
theorem bD (b:Nat) (w:World) (hb:b<18446744073709551616):Calls Tryz.prog 36 #[wC,.int .u64 b] w fun e w'=>e= .returned (.bool (decide (9218868437227405312<b%9223372036854775808)))∧Below w.heap.size w w':=by
 have hx:=qAL b hb
 obtain ⟨r,hr,hrl⟩:∃r,b%9223372036854775808=r∧r<9223372036854775808:=⟨_,rfl,Nat.mod_lt _ (by omega)⟩
 rw [hr] at hx⊢
 clear hr
 unfold wC
 go_enter Tryz.func36,Tryz.ntmps36
 go_wp2_with (simp only [hx])
 go_ret
 refine ⟨?_,(Below.refl _ w).alloc (Nat.le_refl _) _⟩
 show Ending.returned (.bool (decide ((9218868437227405312:Int)<(r:Int))))=_
 rw [show decide ((9218868437227405312:Int)<(r:Int))=decide (9218868437227405312<r) by rw [decide_eq_decide];omega]
theorem qA3 (w:World):Calls Tryz.prog 56 #[wC] w fun e w'=>e= .returned (.int .u64 9221120237041090560)∧Below w.heap.size w w':=by
 have hx:=qKN
 unfold wC
 go_enter Tryz.func56,Tryz.ntmps56
 go_wp2_with (simp only [hx])
 go_ret
 exact ⟨rfl,(Below.refl _ w).alloc (Nat.le_refl _) _⟩
theorem dA (r:Nat) (h:r<2147483648):bits BinOp.and IntKind.u32 (r:Int) 2147483648=0:=by
 have:=u32_and_nat r 2147483648 (by omega) (by omega)
 rw [show r&&&2147483648=0 from sJ 31 r h] at this;exact this
theorem cZ (b:Nat) (h:2147483648≤b) (hb:b<4294967296):bits BinOp.and IntKind.u32 (b:Int) 2147483648=2147483648:=by
 obtain ⟨r,rfl⟩:∃r,b=2147483648+r:=⟨b-2147483648,by omega⟩
 have:=u32_and_nat (2147483648+r) 2147483648 hb (by omega)
 rw [show (2147483648+r)&&&2147483648=2147483648 from sI 31 r (show r<2147483648 by omega)] at this;exact this
theorem qJ4 (b:Nat) (hb:b<4294967296):bits BinOp.xor IntKind.u32 IntKind.u32.max (b:Int)=((4294967295-b:Nat):Int):=by
 have:=u32_xor_nat 4294967295 b (by omega) hb
 rw [show 4294967295^^^b=4294967295-b from qKU 32 b hb] at this;exact this
theorem qJ3 (b:Nat) (hb:b<4294967296):bits BinOp.andNot IntKind.u32 (b:Int) 2147483648=((b%2147483648:Nat):Int):=by
 have:=u32_andNot_nat b 2147483648 hb (by omega)
 rw [show b&&&(4294967295-2147483648)=b%2147483648 from Nat.and_two_pow_sub_one_eq_mod b 31] at this;exact this
theorem qKM:bits BinOp.or IntKind.u32 2139095040 4194304=2143289344:=by decide +kernel
theorem qC4:bits BinOp.xor IntKind.u32 IntKind.u32.max 0=4294967295:=by decide +kernel
theorem qJ5:bits BinOp.xor IntKind.u32 IntKind.u32.max 2147483647=2147483648:=by decide +kernel
theorem vI (w:World):Calls Tryz.prog 54 #[] w fun e w'=>e= .returned (.bool false)∧w'=w:=by
 have hx:=qC4
 go_enter Tryz.func54,Tryz.ntmps54
 go_wp2_with (simp only [hx])
 go_ret
 exact ⟨rfl,rfl⟩
def qFE:Value:= .agg #[.int .u32 2147483648,.int .u32 2139095040,.int .u32 4194304]
theorem yH (w:World):Calls Tryz.prog 32 #[] w fun e w'=>e= .returned qFE∧Below w.heap.size w w':=by
 have hx:=qC4
 have hy:=qJ5
 go_enter Tryz.func32,Tryz.ntmps32
 go_wp2_with fail
 refine (vI _).mono ?_
 rintro e w1 ⟨rfl,rfl⟩
 go_wp2_with (simp only [hx])
 go_region
 go_wp2_with fail
 obtain ⟨fs,hu⟩:=yM (show Tryz.prog.underlying 79=Tryz.prog.underlying 79 from rfl) (by kernel_rfl)
 refine bodyPost_ret (results_cell_row rfl _ _ w.heap.size _ _ (0,0) (.struct fs) rfl (heap_alloc_new w _) hu rfl (by kernel_rfl)) rfl ?_
 exact ⟨rfl,((Below.refl _ w).alloc (Nat.le_refl _) _).drew⟩
theorem bC (b:Nat) (w:World) (hb:b<4294967296):Calls Tryz.prog 33 #[qFE,.int .u32 b] w fun e w'=>e= .returned (.bool (decide (2139095040<b%2147483648)))∧Below w.heap.size w w':=by
 have hx:=qJ3 b hb
 obtain ⟨r,hr,hrl⟩:∃r,b%2147483648=r∧r<2147483648:=⟨_,rfl,Nat.mod_lt _ (by omega)⟩
 rw [hr] at hx⊢
 clear hr
 unfold qFE
 go_enter Tryz.func33,Tryz.ntmps33
 go_wp2_with (simp only [hx])
 go_ret
 refine ⟨?_,(Below.refl _ w).alloc (Nat.le_refl _) _⟩
 show Ending.returned (.bool (decide ((2139095040:Int)<(r:Int))))=_
 rw [show decide ((2139095040:Int)<(r:Int))=decide (2139095040<r) by rw [decide_eq_decide];omega]
theorem qA2 (w:World):Calls Tryz.prog 58 #[qFE] w fun e w'=>e= .returned (.int .u32 2143289344)∧Below w.heap.size w w':=by
 have hx:=qKM
 unfold qFE
 go_enter Tryz.func58,Tryz.ntmps58
 go_wp2_with (simp only [hx])
 go_ret
 exact ⟨rfl,(Below.refl _ w).alloc (Nat.le_refl _) _⟩
end Go.Proofs.YtkpmalfigmimaaaGreatDoor
namespace Go.Proofs.YtkpmalfigmimaaaGreatDoor
open Go.RowKit
def nG (w:World):Prop:=∀j,j<16→w.cell? ⟨1,j,none⟩=some (.int .u32 ((xY.getD j 0:Nat):Int))
theorem nG.below {w w':World} (h:nG w) (hb:Below w.heap.size w w'):nG w':=fun j hj=>by
 rw [hb.cell (p:=⟨1,j,none⟩) (block_lt_of_cell (h j hj))];exact h j hj
theorem rK {w:World} {v:Value} {bs:List Nat} (h:jW w v bs):∃p cap,v= .slice p bs.length cap∧∀i,i<bs.length→∃b o,p=some ⟨b,o,none⟩∧w.cell? ⟨b,o+i,none⟩=some (.int .u8 ((bs.getD i 0:Nat):Int)):=by
 rcases h with (⟨h1,h2⟩|⟨g,o,cap,h1,h2⟩)|⟨ad,cap,h1,h2⟩
 ·exact ⟨none,0,by rw [h1,h2];rfl,fun i hi=>by rw [h2] at hi;simp at hi⟩
 ·exact ⟨_,cap,h1,fun i hi=>⟨g,o,rfl,h2 i hi⟩⟩
 ·exact ⟨some ad,cap,by rw [h1,h2];rfl,fun i hi=>by rw [h2] at hi;simp at hi⟩
theorem qJF {bs:List Nat} (hb:∀n∈bs,n<256) (i:Nat) (hi:i<bs.length):bs.getD i 0<256:=hb _ (by rw [List.getD_eq_getElem?_getD,List.getElem?_eq_getElem hi];exact List.getElem_mem hi)
theorem qKL (x:Nat) (hx:x<4294967296):bits BinOp.and IntKind.u32 (x:Int) 15=((x%16:Nat):Int):=by
 have h:=u32_and_nat x 15 hx (by omega)
 have e:x&&&15=x%16:=Nat.and_two_pow_sub_one_eq_mod x 4
 rw [e] at h
 exact h
theorem qC6 (v:Value) (bs:List Nat) (w:World) (h:jW w v bs) (hb:∀n∈bs,n<256) (hl:bs.length≤1000000000000) (hT:nG w):
  Calls Tryz.prog 43 #[v] w fun e w'=>e= .returned (.int .u32 (qB2 bs:Nat))∧w'=w:=by
 obtain ⟨p,cap,rfl,hc⟩:=rK h
 have HC:=qA hc
 have HB:=qA hb
 have HT:=qA hT
 have HN:Hid (bits BinOp.xor IntKind.u32 IntKind.u32.max (qJA bs bs.length:Int)=((qB2 bs:Nat):Int)):=qJ4 _ (qF6 bs hb _)
 obtain ⟨n,hn⟩:∃n,bs.length=n:=⟨_,rfl⟩
 rw [hn] at hl HC HN⊢
 clear h hb hT hc hn
 go_enter Tryz.func43,Tryz.ntmps43
 go_wp2_with fail
 go_loopw [3,8] (fun t3 t8 wr=>∃k x:Nat,t8= .int .i64 (k:Int)∧t3= .int .u32 (x:Int)∧wr=w∧Hid (k≤n∧x=qJA bs k)) (fun _ t8 _=>n-(intOf t8).toNat)
 case atStart=>exact ⟨0,4294967295,rfl,rfl,rfl,Nat.zero_le _,rfl⟩
 case round=>
  obtain ⟨k,x,rfl,rfl,rfl,hI⟩:=hrel
  by_cases hlt:k<n
  ·obtain ⟨b,o,rfl,c1⟩:=HC.out k hlt
   obtain ⟨c,hc⟩:∃c,bs.getD k 0=c:=⟨_,rfl⟩
   have hc8:c<256:=by
    by_cases hk:k<bs.length
    ·rw [←hc];exact qJF HB.out k hk
    ·rw [←hc,List.getD_eq_getElem?_getD,List.getElem?_eq_none (by omega)];decide
   rw [hc] at c1
   have hx:x<4294967296:=by rw [hI.out.2];exact qF6 bs HB.out k
   obtain ⟨y,hy⟩:∃y,y=x^^^c:=⟨_,rfl⟩
   have hyl:y<4294967296:=by rw [hy];exact Nat.xor_lt_two_pow (n:=32) hx (by omega)
   obtain ⟨j1,hj1⟩:∃j,y%16=j:=⟨_,rfl⟩
   have hj1l:j1<16:=by omega
   obtain ⟨t1,ht1⟩:∃t,xY.getD j1 0=t:=⟨_,rfl⟩
   have ht1l:t1<4294967296:=by rw [←ht1];exact qIL j1 hj1l
   obtain ⟨y1,hy1⟩:∃q,y/16=q:=⟨_,rfl⟩
   obtain ⟨z,hz⟩:∃z,z=y1^^^t1:=⟨_,rfl⟩
   have hzl:z<4294967296:=by rw [hz];exact Nat.xor_lt_two_pow (n:=32) (by show y1<4294967296;omega) ht1l
   obtain ⟨j2,hj2⟩:∃j,z%16=j:=⟨_,rfl⟩
   have hj2l:j2<16:=by omega
   obtain ⟨t2,ht2⟩:∃t,xY.getD j2 0=t:=⟨_,rfl⟩
   have ht2l:t2<4294967296:=by rw [←ht2];exact qIL j2 hj2l
   obtain ⟨z1,hz1⟩:∃q,z/16=q:=⟨_,rfl⟩
   obtain ⟨x2,hx2⟩:∃x2,x2=z1^^^t2:=⟨_,rfl⟩
   have HNX:Hid (x2=qJA bs (k+1)):=by
    show x2=qLA (qJA bs k) (bs.getD k 0)
    rw [hc,←hI.out.2,qH0 x c y z hy (by rw [hy1,hj1,ht1];exact hz),hz1,hj2,ht2];exact hx2
   have r0:IntKind.u32.wrap (c:Int)=(c:Int):=by rw [IntKind.wrap_u32];omega
   have q1:bits BinOp.xor IntKind.u32 (x:Int) (c:Int)=(y:Int):=by rw [hy];exact u32_xor_nat x c hx (by omega)
   have d1:(y:Int)/16=(y1:Int):=by omega
   have a1:bits BinOp.and IntKind.u32 (y:Int) 15=(j1:Int):=by rw [qKL y hyl,hj1]
   have q2:bits BinOp.xor IntKind.u32 (y1:Int) (t1:Int)=(z:Int):=by rw [hz];exact u32_xor_nat y1 t1 (by omega) ht1l
   have d2:(z:Int)/16=(z1:Int):=by omega
   have a2:bits BinOp.and IntKind.u32 (z:Int) 15=(j2:Int):=by rw [qKL z hzl,hj2]
   have q3:bits BinOp.xor IntKind.u32 (z1:Int) (t2:Int)=(x2:Int):=by rw [hx2];exact u32_xor_nat z1 t2 (by omega) ht2l
   have e1:wr.cell? ⟨1,j1,none⟩=some (.int .u32 (t1:Int)):=by rw [←ht1];exact HT.out j1 hj1l
   have e2:wr.cell? ⟨1,j2,none⟩=some (.int .u32 (t2:Int)):=by rw [←ht2];exact HT.out j2 hj2l
   clear hc hy hj1 ht1 hy1 hz hj2 ht2 hz1 hx2 hI hx hyl hzl ht1l ht2l
   go_wp2_with (simp only [q1,d1,a1,q2,d2,a2,q3])
   go_roundw
   case rel=>exact ⟨k+1,x2,by simp,rfl,by trivial,hlt,HNX.out⟩
   case measure=>simp [intOf];omega
  ·have hk:k=n:=by have:=hI.out.1;omega
   have q1:bits BinOp.xor IntKind.u32 IntKind.u32.max (x:Int)=((qB2 bs:Nat):Int):=by rw [hI.out.2,hk];exact HN.out
   have HQ:=qA q1
   clear q1
   go_wp2_with fail
   go_ret
   exact ⟨by rw [←HQ.out];rfl,rfl⟩
end Go.Proofs.YtkpmalfigmimaaaGreatDoor
