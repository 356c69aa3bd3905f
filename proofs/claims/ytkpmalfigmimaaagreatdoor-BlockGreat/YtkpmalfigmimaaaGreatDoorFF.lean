import Derived.Test.YtkpmalfigmimaaaGreatDoorFB
import Derived.Test.YtkpmalfigmimaaaGreatDoorProg
import Derived.WalkKit
import Derived.WalkSpells
import Derived.WalkLawsBesides
import Derived.Deep.QuietTactic
import Derived.BigQuiet
import Derived.BigRegion
import Derived.OwnWalk
import Derived.Laws.CopyOwn
import Derived.Laws.AppendOwnNone
import Derived.Deep.OwnRows
import Derived.Deep.RegionHeld3
import Derived.Laws.BitsAllLaws
import Derived.Laws.FloatArith
import Derived.Test.YtkpmalfigmimaaaGreatDoorB1W
import Derived.Test.YtkpmalfigmimaaaGreatDoorT1S
import Derived.Test.YtkpmalfigmimaaaGreatDoorP1B32
import Derived.Test.YtkpmalfigmimaaaGreatDoorCards
import Derived.Test.YtkpmalfigmimaaaGreatDoorTie
import Derived.LaidMore
import Derived.Lay
import Derived.SevenTiedAt
import Derived.ProofKit
import Derived.OpenShut
import Derived.Deep.Slices
import Derived.Lib.SmallJoins
import Derived.Deep.MidRow
import Derived.SizedLaws
set_option linter.unusedVariables false
set_option linter.unusedSimpArgs false
set_option maxRecDepth 100000
set_option maxHeartbeats 8000000
namespace Go.Proofs.YtkpmalfigmimaaaGreatDoor
namespace Flt
open Ieee
def cutE (n u:Nat):Nat:=n/u+(if u<2*(n%u)∨(u=2*(n%u)∧n/u%2=1) then 1 else 0)
def rnd (f:Format) (n d:Nat):Nat:=((n/d).log2-f.fractionBits)*f.binade+cutE n (d*2^((n/d).log2-f.fractionBits))
theorem cutE_scale (n u c:Nat) (h:0<c):cutE (n*c) (u*c)=cutE n u:=by
 unfold cutE
 rw [Nat.mul_div_mul_right _ _ h,Nat.mul_mod_mul_right]
 have e1:(u*c<2*(n%u*c))=(u<2*(n%u)):=by
  rw [←Nat.mul_assoc];exact propext ⟨Nat.lt_of_mul_lt_mul_right,fun h2=>Nat.mul_lt_mul_of_pos_right h2 h⟩
 have e2:(u*c=2*(n%u*c))=(u=2*(n%u)):=by
  rw [←Nat.mul_assoc];exact propext ⟨Nat.eq_of_mul_eq_mul_right h,fun h2=>by rw [←h2]⟩
 simp only [e1,e2]
theorem rnd_scale (f:Format) (n d c:Nat) (h:0<c):rnd f (n*c) (d*c)=rnd f n d:=by
 unfold rnd
 rw [Nat.mul_div_mul_right _ _ h,Nat.mul_right_comm,cutE_scale _ _ _ h]
theorem rnd_eq (f:Format) {n d n' d':Nat} (hd:0<d) (hd':0<d') (h:n*d'=n'*d):rnd f n d=rnd f n' d':=by
 rw [←rnd_scale f n d d' hd',←rnd_scale f n' d' d hd,h,Nat.mul_comm d d']
theorem cut_even (neg:Bool) (n drop:Nat):Toward.even.cut neg n drop=cutE n (2^drop):=by
 unfold Toward.cut cutE
 simp only [Nat.shiftLeft_eq,Nat.one_mul]
 have key:∀d,(if 2^d<2*(n%2^d)∨(2^d=2*(n%2^d)∧n/2^d%2=1) then 1 else 0)=(decide (2^d<2*(n%2^d))||(2^d==2*(n%2^d)&&n/2^d%2==1)).toNat:=by
  intro d
  by_cases h1:2^d<2*(n%2^d)
  ·simp [h1]
  ·by_cases h2:2^d=2*(n%2^d)
   ·by_cases h3:n/2^d%2=1
    ·rw [if_pos (Or.inr ⟨h2,h3⟩)]
     have:(2^d==2*(n%2^d))=true:=by simpa using h2
     simp [this,h3]
    ·rw [if_neg (by intro h;rcases h with h|h;exact h1 h;exact h3 h.2)]
     have:n/2^d%2=0:=by omega
     simp [h1,this]
   ·rw [if_neg (by intro h;rcases h with h|h;exact h1 h;exact h2 h.1)]
    have:(2^d==2*(n%2^d))=false:=by simpa using h2
    simp [h1,this]
 rw [←key]
 rcases Nat.le_total drop (n.log2+2) with h|h
 ·rw [Nat.min_eq_left h]
 ·rw [Nat.min_eq_right h]
  have hn:n<2^(n.log2+1):=Nat.lt_log2_self
  have small:∀d,n.log2+2≤d→2*n<2^d:=by
   intro d hd
   have:2^(n.log2+2)≤2^d:=Nat.pow_le_pow_right (by omega) hd
   have:2^(n.log2+2)=2*2^(n.log2+1):=by rw [Nat.pow_succ,Nat.mul_comm]
   omega
  have zero:∀d,n.log2+2≤d→n/2^d+(if 2^d<2*(n%2^d)∨(2^d=2*(n%2^d)∧n/2^d%2=1) then 1 else 0)=0:=by
   intro d hd
   have h1:=small d hd
   have h2:n<2^d:=by omega
   rw [Nat.div_eq_of_lt h2,Nat.mod_eq_of_lt h2,if_neg (by omega)]
  rw [zero _ (Nat.le_refl _),zero _ h]
theorem log2_mul_pow (m p:Nat) (h:m≠0):(m*2^p).log2=m.log2+p:=by
 have h1:m*2^p≠0:=Nat.mul_ne_zero h (Nat.ne_of_gt (Nat.two_pow_pos p))
 rw [Nat.log2_eq_iff h1]
 constructor
 ·rw [Nat.pow_add];exact Nat.mul_le_mul_right _ (Nat.log2_self_le h)
 ·have:=Nat.mul_lt_mul_of_pos_right (Nat.lt_log2_self (n:=m)) (Nat.two_pow_pos p)
  rw [←Nat.pow_add] at this
  rwa [show m.log2+p+1=m.log2+1+p by omega]
theorem log2_div_pow (m d:Nat):(m/2^d).log2=m.log2-d:=by
 by_cases h:m/2^d=0
 ·rw [h]
  have:m<2^d:=by
   rcases Nat.lt_or_ge m (2^d) with h1|h1
   ·exact h1
   ·have:=Nat.div_pos h1 (Nat.two_pow_pos d);omega
  by_cases hm:m=0
  ·subst hm;simp
  ·have:m.log2<d:=(Nat.log2_lt hm).2 this
   rw [show m.log2-d=0 by omega];simp
 ·rw [Nat.log2_eq_iff h]
  have hm:m≠0:=by intro h1;subst h1;simp at h
  have h1:2^d≤m:=by
   rcases Nat.lt_or_ge m (2^d) with h1|h1
   ·exact absurd (Nat.div_eq_of_lt h1) h
   ·exact h1
  have h2:d≤m.log2:=(Nat.le_log2 hm).2 h1
  constructor
  ·rw [Nat.le_div_iff_mul_le (Nat.two_pow_pos d),←Nat.pow_add,Nat.sub_add_cancel h2]
   exact Nat.log2_self_le hm
  ·rw [Nat.div_lt_iff_lt_mul (Nat.two_pow_pos d),←Nat.pow_add,show m.log2-d+1+d=m.log2+1 by omega]
   exact Nat.lt_log2_self
theorem nearest_rnd (f:Format) (neg:Bool) (mag:Nat) (place:Int):
  f.nearest neg mag place=f.word neg (min (rnd f (mag*2^(place-f.leastPlace).toNat) (2^(f.leastPlace-place).toNat)) f.infRung):=by
 unfold Format.nearest
 by_cases hm:mag=0
 ·rw [if_pos hm,hm]
  have:rnd f (0*2^(place-f.leastPlace).toNat) (2^(f.leastPlace-place).toNat)=0:=by
   unfold rnd cutE
   simp
  rw [this,Nat.zero_min]
 ·rw [if_neg hm]
  dsimp only
  rw [cut_even,Nat.shiftLeft_eq]
  refine congrArg _ (congrArg (min · _) ?_)
  unfold rnd
  rcases Int.le_total f.leastPlace place with h|h
  ·obtain ⟨p,hp⟩:∃p:Nat,place=f.leastPlace+p:=⟨(place-f.leastPlace).toNat,by omega⟩
   subst hp
   rw [show (f.leastPlace-(f.leastPlace+(p:Int))).toNat=0 by omega,show (f.leastPlace+(p:Int)-f.leastPlace).toNat=p by omega]
   simp only [Nat.pow_zero,Nat.div_one,Nat.one_mul]
   rw [log2_mul_pow _ _ hm]
   have e:(max (f.leastPlace+(p:Int)+(mag.log2:Int)-(f.fractionBits:Int)) f.leastPlace-f.leastPlace).toNat=mag.log2+p-f.fractionBits:=by omega
   rw [e]
   refine congrArg _ ?_
   generalize hk:mag.log2+p-f.fractionBits=k at*
   have e1:(f.leastPlace+(p:Int)-max (f.leastPlace+(p:Int)+(mag.log2:Int)-(f.fractionBits:Int)) f.leastPlace).toNat=p-k:=by omega
   have e2:(max (f.leastPlace+(p:Int)+(mag.log2:Int)-(f.fractionBits:Int)) f.leastPlace-(f.leastPlace+(p:Int))).toNat=k-p:=by omega
   rw [e1,e2,←cutE_scale _ (2^(k-p)) (2^(min k p)) (Nat.two_pow_pos _),Nat.mul_assoc,←Nat.pow_add,←Nat.pow_add,show p-k+min k p=p by omega,show k-p+min k p=k by omega]
  ·obtain ⟨p,hp⟩:∃p:Nat,f.leastPlace=place+p:=⟨(f.leastPlace-place).toNat,by omega⟩
   rw [hp,show (place-(place+(p:Int))).toNat=0 by omega,show (place+(p:Int)-place).toNat=p by omega]
   simp only [Nat.pow_zero,Nat.mul_one]
   rw [log2_div_pow]
   have e:(max (place+(mag.log2:Int)-(f.fractionBits:Int)) (place+p)-(place+(p:Int))).toNat=mag.log2-p-f.fractionBits:=by omega
   rw [e]
   refine congrArg _ ?_
   generalize hk:mag.log2-p-f.fractionBits=k at*
   have e1:(place-max (place+(mag.log2:Int)-(f.fractionBits:Int)) (place+(p:Int))).toNat=0:=by omega
   have e2:(max (place+(mag.log2:Int)-(f.fractionBits:Int)) (place+(p:Int))-place).toNat=p+k:=by omega
   rw [e1,e2,Nat.pow_zero,Nat.mul_one,Nat.pow_add]
theorem rnd_V (f:Format) (r:Nat):rnd f (V f r) 1=r:=by
 have hb:=binade_pos f
 have one:∀n,cutE n 1=n:=by intro n;unfold cutE;simp [Nat.mod_one]
 unfold rnd
 rw [Nat.div_one,Nat.one_mul]
 unfold V
 by_cases h:r<f.binade
 ·rw [if_pos h]
  have:r.log2-f.fractionBits=0:=by
   by_cases h0:r=0
   ·subst h0;simp
   ·have:r.log2<f.fractionBits:=(Nat.log2_lt h0).2 h
    omega
  rw [this];simp [one]
 ·rw [if_neg h]
  have hm:=Nat.mod_lt r hb
  have hd:=Nat.div_add_mod r f.binade
  have hq:0<r/f.binade:=Nat.div_pos (by omega) hb
  have hl:(f.binade+r%f.binade).log2=f.fractionBits:=by
   rw [Nat.log2_eq_iff (by omega)]
   refine ⟨?_,?_⟩
   ·show f.binade≤_;omega
   ·rw [Nat.pow_succ];show _<f.binade*2;omega
  rw [log2_mul_pow _ _ (by omega),hl,Nat.add_sub_cancel_left]
  have:=cutE_scale (f.binade+r%f.binade) 1 (2^(r/f.binade-1)) (Nat.two_pow_pos _)
  rw [Nat.one_mul] at this
  rw [this,one]
  obtain ⟨q,hq'⟩:∃q,r/f.binade=q+1:=⟨r/f.binade-1,by omega⟩
  rw [hq',Nat.add_sub_cancel]
  rw [hq',Nat.mul_add,Nat.mul_comm] at hd
  omega
end Flt
end Go.Proofs.YtkpmalfigmimaaaGreatDoor
namespace Go.Proofs.YtkpmalfigmimaaaGreatDoor
namespace Flt
open Ieee
theorem V_at (f:Format) (k c:Nat) (h1:c<2*f.binade) (h2:k=0∨f.binade≤c):V f (k*f.binade+c)=c*2^k∧V f (k*f.binade+c+1)=(c+1)*2^k:=by
 have hb:=binade_pos f
 have main:V f (k*f.binade+c)=c*2^k∧(k*f.binade+c)/f.binade-1=k:=by
  rcases Nat.lt_or_ge c f.binade with h|h
  ·have hk:k=0:=by omega
   subst hk
   rw [Nat.zero_mul,Nat.zero_add,Nat.div_eq_of_lt h]
   unfold V;rw [if_pos h];simp
  ·obtain ⟨e,he⟩:∃e,c=f.binade+e:=⟨c-f.binade,by omega⟩
   have hlt:e<f.binade:=by omega
   have e0:k*f.binade+c=e+f.binade*(k+1):=by rw [he,Nat.mul_add,Nat.mul_comm];omega
   have e1:(k*f.binade+c)/f.binade=k+1:=by rw [e0,Nat.add_mul_div_left _ _ hb,Nat.div_eq_of_lt hlt,Nat.zero_add]
   have e2:(k*f.binade+c)%f.binade=e:=by rw [e0,Nat.add_mul_mod_self_left,Nat.mod_eq_of_lt hlt]
   have e3:¬(k*f.binade+c<f.binade):=by omega
   unfold V
   rw [if_neg e3,e1,e2,he]
   simp
 refine ⟨main.1,?_⟩
 rw [V_step,main.1,main.2,Nat.add_mul,Nat.one_mul]
theorem rnd_spec (f:Format) (hf:1≤f.fractionBits) (n d:Nat) (hd:0<d):
  ∃r,V f r*d≤n∧n<V f (r+1)*d∧rnd f n d=r+(if (V f r+V f (r+1))*d<2*n∨((V f r+V f (r+1))*d=2*n∧r%2=1) then 1 else 0):=by
 have hb:=binade_pos f
 unfold rnd
 generalize hk:(n/d).log2-f.fractionBits=k
 have hc:n/(d*2^k)<2*f.binade∧(k=0∨f.binade≤n/(d*2^k)):=by
  rw [←Nat.div_div_eq_div_mul]
  by_cases h0:n/d=0
  ·rw [h0] at hk⊢
   simp at hk⊢
   omega
  ·have l1:=Nat.log2_self_le h0
   have l2:=Nat.lt_log2_self (n:=n/d)
   by_cases hk0:k=0
   ·subst hk0
    rw [Nat.pow_zero,Nat.div_one]
    refine ⟨?_,Or.inl rfl⟩
    have:2^((n/d).log2+1)≤2^(f.fractionBits+1):=Nat.pow_le_pow_right (by omega) (by omega)
    have:2^(f.fractionBits+1)=2*f.binade:=by rw [Nat.pow_succ,Nat.mul_comm];rfl
    omega
   ·have el:(n/d).log2=f.fractionBits+k:=by omega
    rw [el] at l1 l2
    constructor
    ·rw [Nat.div_lt_iff_lt_mul (Nat.two_pow_pos k)]
     rw [show f.fractionBits+k+1=1+f.fractionBits+k by omega,Nat.pow_add,Nat.pow_add] at l2
     exact l2
    ·right
     rw [Nat.le_div_iff_mul_le (Nat.two_pow_pos k)]
     rw [Nat.pow_add] at l1
     exact l1
 obtain ⟨v1,v2⟩:=V_at f k _ hc.1 hc.2
 refine ⟨k*f.binade+n/(d*2^k),?_,?_,?_⟩
 ·rw [v1,Nat.mul_assoc,Nat.mul_comm (2^k) d];exact Nat.div_mul_le_self ..
 ·rw [v2,Nat.mul_assoc,Nat.mul_comm (2^k) d,Nat.mul_comm]
  exact Nat.lt_mul_div_succ n (Nat.mul_pos hd (Nat.two_pow_pos k))
 ·rw [v1,v2]
  unfold cutE
  rw [←Nat.add_assoc]
  refine congrArg _ ?_
  have hU:0<d*2^k:=Nat.mul_pos hd (Nat.two_pow_pos k)
  have e1:(n/(d*2^k)*2^k+(n/(d*2^k)+1)*2^k)*d=2*(d*2^k*(n/(d*2^k)))+d*2^k:=by
   generalize n/(d*2^k)=c
   rw [Nat.add_mul c,Nat.one_mul,Nat.add_mul,Nat.add_mul,Nat.mul_assoc c,Nat.mul_comm (2^k) d,Nat.mul_comm c]
   omega
  have hdm:=Nat.div_add_mod n (d*2^k)
  rw [e1]
  have ep:(k*f.binade+n/(d*2^k))%2=n/(d*2^k)%2:=by
   obtain ⟨x,hx⟩:∃x,f.fractionBits=x+1:=⟨f.fractionBits-1,by omega⟩
   have:f.binade=2*2^x:=by unfold Format.binade;rw [hx,Nat.pow_succ,Nat.mul_comm]
   rw [this,Nat.mul_left_comm,Nat.mul_add_mod]
  rw [ep]
  generalize d*2^k*(n/(d*2^k))=t at*
  generalize n/(d*2^k)=c at*
  generalize n%(d*2^k)=s at*
  generalize d*2^k=U at*
  by_cases h:U<2*s∨U=2*s∧c%2=1
  ·rw [if_pos h,if_pos (by omega)]
  ·rw [if_neg h,if_neg (by omega)]
end Flt
end Go.Proofs.YtkpmalfigmimaaaGreatDoor
namespace Go.Proofs.YtkpmalfigmimaaaGreatDoor
open Go.RowKit
theorem jF {p:Prop} (h:p):Hid p:=h
theorem yG {o p:Option TypeDesc} (e:p=o) (h:(match o with|some (.struct _)=>true|_=>false)=true):∃fs,p=some (.struct fs):=by
 subst e
 cases p with
 |none=>simp at h
 |some d=>cases d<;>first|exact ⟨_,rfl⟩|simp at h
theorem rU (n r:Nat) (h:r<2^n):r&&&2^n=0:=by
 refine Nat.eq_of_testBit_eq fun i=>?_
 rw [Nat.testBit_and,Nat.testBit_two_pow,Nat.zero_testBit]
 by_cases hi:n=i
 ·subst hi;rw [Nat.testBit_lt_two_pow h];simp
 ·simp [hi]
theorem rT (n r:Nat) (h:r<2^n):(2^n+r)&&&2^n=2^n:=by
 refine Nat.eq_of_testBit_eq fun i=>?_
 rw [Nat.testBit_and,Nat.testBit_two_pow]
 by_cases hi:n=i
 ·subst hi;rw [Nat.testBit_two_pow_add_eq,Nat.testBit_lt_two_pow h];simp
 ·simp [hi]
theorem qFE (n r:Nat) (h:r<2^n):r|||2^n=2^n+r:=by
 have:=Nat.two_pow_add_eq_or_of_lt h 1
 rw [Nat.mul_one] at this
 rw [this,Nat.or_comm]
theorem qH4 (n r:Nat) (h:r<2^n):r^^^2^n=2^n+r:=by
 rw [←qFE n r h]
 refine Nat.eq_of_testBit_eq fun i=>?_
 rw [Nat.testBit_xor,Nat.testBit_or,Nat.testBit_two_pow]
 by_cases hi:n=i
 ·subst hi;rw [Nat.testBit_lt_two_pow h];simp
 ·simp [hi]
theorem qH3 (n r:Nat) (h:r<2^n):(2^n+r)^^^2^n=r:=by
 rw [←qH4 n r h,Nat.xor_assoc,Nat.xor_self,Nat.xor_zero]
theorem qKE (n a:Nat) (h:a<2^n):(2^n-1)^^^a=2^n-1-a:=by
 refine Nat.eq_of_testBit_eq fun i=>?_
 rw [show 2^n-1-a=2^n-(a+1) by omega,Nat.testBit_two_pow_sub_succ h,Nat.testBit_xor,Nat.testBit_two_pow_sub_one]
 by_cases hi:i<n
 ·simp [hi]
 ·have:a.testBit i=false:=Nat.testBit_lt_two_pow (Nat.lt_of_lt_of_le h (Nat.pow_le_pow_right (by omega) (by omega)))
  simp [hi,this]
theorem qI4 (a f e:Nat):a&&&((2^e-1)*2^f)=a/2^f%2^e*2^f:=by
 rw [←Nat.and_two_pow_sub_one_eq_mod,←Nat.shiftLeft_eq,←Nat.shiftLeft_eq,←Nat.shiftRight_eq_div_pow]
 refine Nat.eq_of_testBit_eq fun i=>?_
 rw [Nat.testBit_and,Nat.testBit_shiftLeft,Nat.testBit_shiftLeft,Nat.testBit_and,Nat.testBit_shiftRight]
 by_cases hi:f≤i
 ·rw [Nat.add_sub_cancel' hi];simp [hi]
 ·simp [hi]
theorem gP (r:Nat) (h:r<9223372036854775808):bits BinOp.and IntKind.u64 (r:Int) 9223372036854775808=0:=by
 have:=u64_and_nat r 9223372036854775808 (by omega) (by omega)
 rw [show r&&&9223372036854775808=0 from rU 63 r h] at this;exact this
theorem gO (b:Nat) (h:9223372036854775808≤b) (hb:b<18446744073709551616):bits BinOp.and IntKind.u64 (b:Int) 9223372036854775808=9223372036854775808:=by
 obtain ⟨r,rfl⟩:∃r,b=9223372036854775808+r:=⟨b-9223372036854775808,by omega⟩
 have:=u64_and_nat (9223372036854775808+r) 9223372036854775808 hb (by omega)
 rw [show (9223372036854775808+r)&&&9223372036854775808=9223372036854775808 from rT 63 r (show r<9223372036854775808 by omega)] at this;exact this
theorem tV (r:Nat) (h:r<9223372036854775808):bits BinOp.or IntKind.u64 (r:Int) 9223372036854775808=((9223372036854775808+r:Nat):Int):=by
 have:=u64_or_nat r 9223372036854775808 (by omega) (by omega)
 rw [show r|||9223372036854775808=9223372036854775808+r from qFE 63 r h] at this;exact this
theorem qD3 (b:Nat) (h:9223372036854775808≤b) (hb:b<18446744073709551616):bits BinOp.xor IntKind.u64 (b:Int) 9223372036854775808=((b-9223372036854775808:Nat):Int):=by
 obtain ⟨r,rfl⟩:∃r,b=9223372036854775808+r:=⟨b-9223372036854775808,by omega⟩
 have:=u64_xor_nat (9223372036854775808+r) 9223372036854775808 hb (by omega)
 rw [show (9223372036854775808+r)^^^9223372036854775808=r from qH3 63 r (show r<9223372036854775808 by omega)] at this
 rw [Nat.add_sub_cancel_left];exact this
theorem qEJ (b:Nat) (hb:b<18446744073709551616):bits BinOp.xor IntKind.u64 IntKind.u64.max (b:Int)=((18446744073709551615-b:Nat):Int):=by
 have:=u64_xor_nat 18446744073709551615 b (by omega) hb
 rw [show 18446744073709551615^^^b=18446744073709551615-b from qKE 64 b hb] at this;exact this
theorem qAE (b:Nat) (hb:b<18446744073709551616):bits BinOp.andNot IntKind.u64 (b:Int) 9223372036854775808=((b%9223372036854775808:Nat):Int):=by
 have:=u64_andNot_nat b 9223372036854775808 hb (by omega)
 rw [show b&&&(18446744073709551615-9223372036854775808)=b%9223372036854775808 from Nat.and_two_pow_sub_one_eq_mod b 63] at this;exact this
theorem qGR (b:Nat) (hb:b<18446744073709551616):bits BinOp.andNot IntKind.u64 (b:Int) 18442240474082181120=((b%4503599627370496:Nat):Int):=by
 have:=u64_andNot_nat b 18442240474082181120 hb (by omega)
 rw [show b&&&(18446744073709551615-18442240474082181120)=b%4503599627370496 from Nat.and_two_pow_sub_one_eq_mod b 52] at this;exact this
theorem qEI (b:Nat) (hb:b<18446744073709551616):bits BinOp.and IntKind.u64 (b:Int) 9218868437227405312=((b/4503599627370496%(2047+1)*4503599627370496:Nat):Int):=by
 have:=u64_and_nat b 9218868437227405312 hb (by omega)
 rw [show b&&&9218868437227405312=b/4503599627370496%(2047+1)*4503599627370496 from qI4 b 52 11] at this;exact this
theorem qGT (r:Nat) (h:r<2251799813685248):bits BinOp.and IntKind.u64 (r:Int) 2251799813685248=0:=by
 have:=u64_and_nat r 2251799813685248 (by omega) (by omega)
 rw [show r&&&2251799813685248=0 from rU 51 r h] at this;exact this
theorem qGS (b:Nat) (h:2251799813685248≤b) (hb:b<4503599627370496):bits BinOp.and IntKind.u64 (b:Int) 2251799813685248=2251799813685248:=by
 obtain ⟨r,rfl⟩:∃r,b=2251799813685248+r:=⟨b-2251799813685248,by omega⟩
 have:=u64_and_nat (2251799813685248+r) 2251799813685248 (by omega) (by omega)
 rw [show (2251799813685248+r)&&&2251799813685248=2251799813685248 from rT 51 r (show r<2251799813685248 by omega)] at this;exact this
theorem qK8:bits BinOp.or IntKind.u64 9223372036854775808 9218868437227405312=18442240474082181120:=by decide +kernel
theorem qK7:bits BinOp.or IntKind.u64 9218868437227405312 2251799813685248=9221120237041090560:=by decide +kernel
theorem qC1:bits BinOp.xor IntKind.u64 IntKind.u64.max 0=18446744073709551615:=by decide +kernel
theorem qIR:bits BinOp.xor IntKind.u64 IntKind.u64.max 9223372036854775807=9223372036854775808:=by decide +kernel
theorem pJ (w:World):Calls Tryz.prog 51 #[] w fun e w'=>e= .returned (.bool true)∧w'=w:=by
 have hx:=qC1
 go_enter Tryz.func51,Tryz.ntmps51
 go_wp2_with (simp only [hx])
 go_ret
 exact ⟨rfl,rfl⟩
def vR:Value:= .agg #[.int .u64 9223372036854775808,.int .u64 9218868437227405312,.int .u64 2251799813685248]
theorem qR (w:World):Calls Tryz.prog 30 #[] w fun e w'=>e= .returned vR∧Below w.heap.size w w':=by
 have hx:=qC1
 have hy:=qIR
 go_enter Tryz.func30,Tryz.ntmps30
 go_wp2_with fail
 refine (pJ _).mono ?_
 rintro e w1 ⟨rfl,rfl⟩
 go_wp2_with (simp only [hx])
 go_region
 go_wp2_with fail
 obtain ⟨fs,hu⟩:=yG (show Tryz.prog.underlying 75=Tryz.prog.underlying 75 from rfl) (by kernel_rfl)
 refine bodyPost_ret (results_cell_row rfl _ _ w.heap.size _ _ (0,0) (.struct fs) rfl (heap_alloc_new w _) hu rfl (by kernel_rfl)) rfl ?_
 exact ⟨rfl,((Below.refl _ w).alloc (Nat.le_refl _) _).drew⟩
theorem nT (b:Nat) (w:World) (hb:b<18446744073709551616):Calls Tryz.prog 36 #[vR,.int .u64 b] w fun e w'=>e= .returned (.bool (decide (9218868437227405312<b%9223372036854775808)))∧Below w.heap.size w w':=by
 have hx:=qAE b hb
 obtain ⟨r,hr,hrl⟩:∃r,b%9223372036854775808=r∧r<9223372036854775808:=⟨_,rfl,Nat.mod_lt _ (by omega)⟩
 rw [hr] at hx⊢
 clear hr
 unfold vR
 go_enter Tryz.func36,Tryz.ntmps36
 go_wp2_with (simp only [hx])
 go_ret
 refine ⟨?_,(Below.refl _ w).alloc (Nat.le_refl _) _⟩
 show Ending.returned (.bool (decide ((9218868437227405312:Int)<(r:Int))))=_
 rw [show decide ((9218868437227405312:Int)<(r:Int))=decide (9218868437227405312<r) by rw [decide_eq_decide];omega]
theorem fW (w:World):Calls Tryz.prog 56 #[vR] w fun e w'=>e= .returned (.int .u64 9221120237041090560)∧Below w.heap.size w w':=by
 have hx:=qK7
 unfold vR
 go_enter Tryz.func56,Tryz.ntmps56
 go_wp2_with (simp only [hx])
 go_ret
 exact ⟨rfl,(Below.refl _ w).alloc (Nat.le_refl _) _⟩
theorem cQ (r:Nat) (h:r<2147483648):bits BinOp.and IntKind.u32 (r:Int) 2147483648=0:=by
 have:=u32_and_nat r 2147483648 (by omega) (by omega)
 rw [show r&&&2147483648=0 from rU 31 r h] at this;exact this
theorem cP (b:Nat) (h:2147483648≤b) (hb:b<4294967296):bits BinOp.and IntKind.u32 (b:Int) 2147483648=2147483648:=by
 obtain ⟨r,rfl⟩:∃r,b=2147483648+r:=⟨b-2147483648,by omega⟩
 have:=u32_and_nat (2147483648+r) 2147483648 hb (by omega)
 rw [show (2147483648+r)&&&2147483648=2147483648 from rT 31 r (show r<2147483648 by omega)] at this;exact this
theorem qIP (b:Nat) (hb:b<4294967296):bits BinOp.xor IntKind.u32 IntKind.u32.max (b:Int)=((4294967295-b:Nat):Int):=by
 have:=u32_xor_nat 4294967295 b (by omega) hb
 rw [show 4294967295^^^b=4294967295-b from qKE 32 b hb] at this;exact this
theorem qIO (b:Nat) (hb:b<4294967296):bits BinOp.andNot IntKind.u32 (b:Int) 2147483648=((b%2147483648:Nat):Int):=by
 have:=u32_andNot_nat b 2147483648 hb (by omega)
 rw [show b&&&(4294967295-2147483648)=b%2147483648 from Nat.and_two_pow_sub_one_eq_mod b 31] at this;exact this
theorem qK6:bits BinOp.or IntKind.u32 2139095040 4194304=2143289344:=by decide +kernel
theorem qC0:bits BinOp.xor IntKind.u32 IntKind.u32.max 0=4294967295:=by decide +kernel
theorem qIQ:bits BinOp.xor IntKind.u32 IntKind.u32.max 2147483647=2147483648:=by decide +kernel
theorem uX (w:World):Calls Tryz.prog 54 #[] w fun e w'=>e= .returned (.bool false)∧w'=w:=by
 have hx:=qC0
 go_enter Tryz.func54,Tryz.ntmps54
 go_wp2_with (simp only [hx])
 go_ret
 exact ⟨rfl,rfl⟩
def qF8:Value:= .agg #[.int .u32 2147483648,.int .u32 2139095040,.int .u32 4194304]
theorem yB (w:World):Calls Tryz.prog 32 #[] w fun e w'=>e= .returned qF8∧Below w.heap.size w w':=by
 have hx:=qC0
 have hy:=qIQ
 go_enter Tryz.func32,Tryz.ntmps32
 go_wp2_with fail
 refine (uX _).mono ?_
 rintro e w1 ⟨rfl,rfl⟩
 go_wp2_with (simp only [hx])
 go_region
 go_wp2_with fail
 obtain ⟨fs,hu⟩:=yG (show Tryz.prog.underlying 79=Tryz.prog.underlying 79 from rfl) (by kernel_rfl)
 refine bodyPost_ret (results_cell_row rfl _ _ w.heap.size _ _ (0,0) (.struct fs) rfl (heap_alloc_new w _) hu rfl (by kernel_rfl)) rfl ?_
 exact ⟨rfl,((Below.refl _ w).alloc (Nat.le_refl _) _).drew⟩
theorem nS (b:Nat) (w:World) (hb:b<4294967296):Calls Tryz.prog 33 #[qF8,.int .u32 b] w fun e w'=>e= .returned (.bool (decide (2139095040<b%2147483648)))∧Below w.heap.size w w':=by
 have hx:=qIO b hb
 obtain ⟨r,hr,hrl⟩:∃r,b%2147483648=r∧r<2147483648:=⟨_,rfl,Nat.mod_lt _ (by omega)⟩
 rw [hr] at hx⊢
 clear hr
 unfold qF8
 go_enter Tryz.func33,Tryz.ntmps33
 go_wp2_with (simp only [hx])
 go_ret
 refine ⟨?_,(Below.refl _ w).alloc (Nat.le_refl _) _⟩
 show Ending.returned (.bool (decide ((2139095040:Int)<(r:Int))))=_
 rw [show decide ((2139095040:Int)<(r:Int))=decide (2139095040<r) by rw [decide_eq_decide];omega]
theorem fV (w:World):Calls Tryz.prog 58 #[qF8] w fun e w'=>e= .returned (.int .u32 2143289344)∧Below w.heap.size w w':=by
 have hx:=qK6
 unfold qF8
 go_enter Tryz.func58,Tryz.ntmps58
 go_wp2_with (simp only [hx])
 go_ret
 exact ⟨rfl,(Below.refl _ w).alloc (Nat.le_refl _) _⟩
end Go.Proofs.YtkpmalfigmimaaaGreatDoor
namespace Go.Proofs.YtkpmalfigmimaaaGreatDoor
open Go.RowKit
def mZ (w:World):Prop:=∀j,j<16→w.cell? ⟨1,j,none⟩=some (.int .u32 ((xU.getD j 0:Nat):Int))
theorem mZ.below {w w':World} (h:mZ w) (hb:Below w.heap.size w w'):mZ w':=fun j hj=>by
 rw [hb.cell (p:=⟨1,j,none⟩) (block_lt_of_cell (h j hj))];exact h j hj
theorem rB {w:World} {v:Value} {bs:List Nat} (h:jY w v bs):∃p cap,v= .slice p bs.length cap∧∀i,i<bs.length→∃b o,p=some ⟨b,o,none⟩∧w.cell? ⟨b,o+i,none⟩=some (.int .u8 ((bs.getD i 0:Nat):Int)):=by
 rcases h with (⟨h1,h2⟩|⟨g,o,cap,h1,h2⟩)|⟨ad,cap,h1,h2⟩
 ·exact ⟨none,0,by rw [h1,h2];rfl,fun i hi=>by rw [h2] at hi;simp at hi⟩
 ·exact ⟨_,cap,h1,fun i hi=>⟨g,o,rfl,h2 i hi⟩⟩
 ·exact ⟨some ad,cap,by rw [h1,h2];rfl,fun i hi=>by rw [h2] at hi;simp at hi⟩
theorem qJ0 {bs:List Nat} (hb:∀n∈bs,n<256) (i:Nat) (hi:i<bs.length):bs.getD i 0<256:=hb _ (by rw [List.getD_eq_getElem?_getD,List.getElem?_eq_getElem hi];exact List.getElem_mem hi)
theorem qK5 (x:Nat) (hx:x<4294967296):bits BinOp.and IntKind.u32 (x:Int) 15=((x%16:Nat):Int):=by
 have h:=u32_and_nat x 15 hx (by omega)
 have e:x&&&15=x%16:=Nat.and_two_pow_sub_one_eq_mod x 4
 rw [e] at h
 exact h
theorem qC2 (v:Value) (bs:List Nat) (w:World) (h:jY w v bs) (hb:∀n∈bs,n<256) (hl:bs.length≤1000000000000) (hT:mZ w):
  Calls Tryz.prog 43 #[v] w fun e w'=>e= .returned (.int .u32 (qAV bs:Nat))∧w'=w:=by
 obtain ⟨p,cap,rfl,hc⟩:=rB h
 have HC:=qA hc
 have HB:=qA hb
 have HT:=qA hT
 have HN:Hid (bits BinOp.xor IntKind.u32 IntKind.u32.max (qIU bs bs.length:Int)=((qAV bs:Nat):Int)):=qIP _ (qF0 bs hb _)
 obtain ⟨n,hn⟩:∃n,bs.length=n:=⟨_,rfl⟩
 rw [hn] at hl HC HN⊢
 clear h hb hT hc hn
 go_enter Tryz.func43,Tryz.ntmps43
 go_wp2_with fail
 go_loopw [3,8] (fun t3 t8 wr=>∃k x:Nat,t8= .int .i64 (k:Int)∧t3= .int .u32 (x:Int)∧wr=w∧Hid (k≤n∧x=qIU bs k)) (fun _ t8 _=>n-(intOf t8).toNat)
 case atStart=>exact ⟨0,4294967295,rfl,rfl,rfl,Nat.zero_le _,rfl⟩
 case round=>
  obtain ⟨k,x,rfl,rfl,rfl,hI⟩:=hrel
  by_cases hlt:k<n
  ·obtain ⟨b,o,rfl,c1⟩:=HC.out k hlt
   obtain ⟨c,hc⟩:∃c,bs.getD k 0=c:=⟨_,rfl⟩
   have hc8:c<256:=by
    by_cases hk:k<bs.length
    ·rw [←hc];exact qJ0 HB.out k hk
    ·rw [←hc,List.getD_eq_getElem?_getD,List.getElem?_eq_none (by omega)];decide
   rw [hc] at c1
   have hx:x<4294967296:=by rw [hI.out.2];exact qF0 bs HB.out k
   obtain ⟨y,hy⟩:∃y,y=x^^^c:=⟨_,rfl⟩
   have hyl:y<4294967296:=by rw [hy];exact Nat.xor_lt_two_pow (n:=32) hx (by omega)
   obtain ⟨j1,hj1⟩:∃j,y%16=j:=⟨_,rfl⟩
   have hj1l:j1<16:=by omega
   obtain ⟨t1,ht1⟩:∃t,xU.getD j1 0=t:=⟨_,rfl⟩
   have ht1l:t1<4294967296:=by rw [←ht1];exact qI7 j1 hj1l
   obtain ⟨y1,hy1⟩:∃q,y/16=q:=⟨_,rfl⟩
   obtain ⟨z,hz⟩:∃z,z=y1^^^t1:=⟨_,rfl⟩
   have hzl:z<4294967296:=by rw [hz];exact Nat.xor_lt_two_pow (n:=32) (by show y1<4294967296;omega) ht1l
   obtain ⟨j2,hj2⟩:∃j,z%16=j:=⟨_,rfl⟩
   have hj2l:j2<16:=by omega
   obtain ⟨t2,ht2⟩:∃t,xU.getD j2 0=t:=⟨_,rfl⟩
   have ht2l:t2<4294967296:=by rw [←ht2];exact qI7 j2 hj2l
   obtain ⟨z1,hz1⟩:∃q,z/16=q:=⟨_,rfl⟩
   obtain ⟨x2,hx2⟩:∃x2,x2=z1^^^t2:=⟨_,rfl⟩
   have HNX:Hid (x2=qIU bs (k+1)):=by
    show x2=qKS (qIU bs k) (bs.getD k 0)
    rw [hc,←hI.out.2,qGV x c y z hy (by rw [hy1,hj1,ht1];exact hz),hz1,hj2,ht2];exact hx2
   have r0:IntKind.u32.wrap (c:Int)=(c:Int):=by rw [IntKind.wrap_u32];omega
   have q1:bits BinOp.xor IntKind.u32 (x:Int) (c:Int)=(y:Int):=by rw [hy];exact u32_xor_nat x c hx (by omega)
   have d1:(y:Int)/16=(y1:Int):=by omega
   have a1:bits BinOp.and IntKind.u32 (y:Int) 15=(j1:Int):=by rw [qK5 y hyl,hj1]
   have q2:bits BinOp.xor IntKind.u32 (y1:Int) (t1:Int)=(z:Int):=by rw [hz];exact u32_xor_nat y1 t1 (by omega) ht1l
   have d2:(z:Int)/16=(z1:Int):=by omega
   have a2:bits BinOp.and IntKind.u32 (z:Int) 15=(j2:Int):=by rw [qK5 z hzl,hj2]
   have q3:bits BinOp.xor IntKind.u32 (z1:Int) (t2:Int)=(x2:Int):=by rw [hx2];exact u32_xor_nat z1 t2 (by omega) ht2l
   have e1:wr.cell? ⟨1,j1,none⟩=some (.int .u32 (t1:Int)):=by rw [←ht1];exact HT.out j1 hj1l
   have e2:wr.cell? ⟨1,j2,none⟩=some (.int .u32 (t2:Int)):=by rw [←ht2];exact HT.out j2 hj2l
   clear hc hy hj1 ht1 hy1 hz hj2 ht2 hz1 hx2 hI hx hyl hzl ht1l ht2l
   go_wp2_with (simp only [q1,d1,a1,q2,d2,a2,q3])
   go_roundw
   case rel=>exact ⟨k+1,x2,by simp,rfl,by trivial,hlt,HNX.out⟩
   case measure=>simp [intOf];omega
  ·have hk:k=n:=by have:=hI.out.1;omega
   have q1:bits BinOp.xor IntKind.u32 IntKind.u32.max (x:Int)=((qAV bs:Nat):Int):=by rw [hI.out.2,hk];exact HN.out
   have HQ:=qA q1
   clear q1
   go_wp2_with fail
   go_ret
   exact ⟨by rw [←HQ.out];rfl,rfl⟩
end Go.Proofs.YtkpmalfigmimaaaGreatDoor
namespace Go.Proofs.YtkpmalfigmimaaaGreatDoor
open Go.ChangeShapes Go.WideShapes Go.Deep Go.Joins
open M
open Go.ChangeAt Go.RowKit
def nU : List (String × DataW Unit) := [("math/bits.deBruijn64tab", Rows.laid_math_bits_deBruijn64tab), ("fathom/block.changes", Rows.laid_fathom_block_changes)]
theorem qL5 : Tryz.prog.globalNamed "math/bits.deBruijn64tab" = some 2 := by kernel_rfl
theorem qLB:(Tryz.prog.globals[2]?).map (·.type)=some 258:=by kernel_rfl
theorem qKD : Tryz.prog.globalNamed "fathom/block.changes" = some 1 := by kernel_rfl
theorem qL0:(Tryz.prog.globals[1]?).map (·.type)=some 127:=by kernel_rfl
theorem qK9:Tryz.prog.cellsOf 5=1:=by kernel_rfl
theorem qIT:Tryz.prog.cellsOf 57=1:=by kernel_rfl
theorem qHE {H:Type}:(Rows.laid_math_bits_deBruijn64tab:DataW H)= .agg (Lib.deBruijn64tab.map fun n:Nat=> .lit (.int .u8 (n:Int))):=rfl
theorem qG7 {H:Type}:(Rows.laid_fathom_block_changes:DataW H)= .agg (xU.map fun n:Nat=> .lit (.int .u32 (n:Int))):=rfl
theorem pU {W:World} (h:laidMetH Tryz.prog nU W):qQ W∧mZ W:=by
 rw [MakeChecks.laidMetH_plain _ _ _ (by kernel_rfl)] at h
 obtain ⟨ps,⟨g,t,cs,fuel,p,q,hg,ht,hv,hd,⟨g2,t2,cs2,fuel2,p2,q2,hg2,ht2,hv2,hd2,_,_⟩,_⟩,_,_⟩:=h
 obtain rfl:=Option.some.inj (qL5.symm.trans hg)
 obtain rfl:=Option.some.inj (qLB.symm.trans ht)
 obtain rfl:=Option.some.inj (qKD.symm.trans hg2)
 obtain rfl:=Option.some.inj (qL0.symm.trans ht2)
 constructor
 ·obtain ⟨xs,m,_,ex,hlen,hl,hel⟩:=DataW.trod_array Tryz.underlying258 hd
  rw [qHE] at ex
  have ex2:=DataW.agg.inj (Prod.mk.inj ex).1
  intro j hj
  rw [World.var?_cell qL5 hv j]
  have hjx:j<xs.length:=by omega
  have k:=hel j hj
  rw [qK9,Nat.mul_one,List.getElem?_eq_getElem hjx] at k
  obtain ⟨z,a,b,_⟩:=DataW.trod_int Tryz.underlying5 k
  have hz:(Lib.deBruijn64tab.map fun n:Nat=>(.lit (.int .u8 (n:Int)):DataW Unit))[j]?=some (.lit (.int .u8 z)):=by
   rw [ex2,List.getElem?_map,List.getElem?_eq_getElem hjx,Option.map_some,b]
  have hjt:j<Lib.deBruijn64tab.length:=hj
  rw [List.getElem?_map,List.getElem?_eq_getElem hjt,Option.map_some] at hz
  simp only [Option.some.injEq,DataW.lit.injEq,Lit.int.injEq,true_and] at hz
  have hc:cs.toList[j]?=some (.int .u8 z):=by
   have:=congrArg (·[0]?) a
   simpa [List.getElem?_take,List.getElem?_drop] using this
  have hg2:Lib.deBruijn64tab.getD j 0=Lib.deBruijn64tab[j]:=by simp [List.getD,List.getElem?_eq_getElem hjt]
  rw [hg2,hz,←hc]
  simp
 ·obtain ⟨xs,m,_,ex,hlen,hl,hel⟩:=DataW.trod_array Tryz.underlying127 hd2
  rw [qG7] at ex
  have ex2:=DataW.agg.inj (Prod.mk.inj ex).1
  intro j hj
  rw [World.var?_cell qKD hv2 j]
  have hjx:j<xs.length:=by omega
  have k:=hel j hj
  rw [qIT,Nat.mul_one,List.getElem?_eq_getElem hjx] at k
  obtain ⟨z,a,b,_⟩:=DataW.trod_int Tryz.underlying57 k
  have hz:(xU.map fun n:Nat=>(.lit (.int .u32 (n:Int)):DataW Unit))[j]?=some (.lit (.int .u32 z)):=by
   rw [ex2,List.getElem?_map,List.getElem?_eq_getElem hjx,Option.map_some,b]
  have hjt:j<xU.length:=hj
  rw [List.getElem?_map,List.getElem?_eq_getElem hjt,Option.map_some] at hz
  simp only [Option.some.injEq,DataW.lit.injEq,Lit.int.injEq,true_and] at hz
  have hc:cs2.toList[j]?=some (.int .u32 z):=by
   have:=congrArg (·[0]?) a
   simpa [List.getElem?_take,List.getElem?_drop] using this
  have hg2:xU.getD j 0=xU[j]:=by simp [List.getD,List.getElem?_eq_getElem hjt]
  rw [hg2,hz,←hc]
  simp
end Go.Proofs.YtkpmalfigmimaaaGreatDoor
namespace Go.Proofs.YtkpmalfigmimaaaGreatDoor
open Go.RowKit
def rN (b:Nat):Nat:=if b<9223372036854775808 then 9223372036854775808+b else 18446744073709551615-b
def yC (k:Nat):Nat:=if k<9223372036854775808 then 18446744073709551615-k else k-9223372036854775808
def gQ (b:Nat):Nat:=if b%9223372036854775808=0 then 0 else if b%9223372036854775808<4503599627370496 then 1 else if b%9223372036854775808<9218868437227405312 then 2 else if b%9223372036854775808=9218868437227405312 then 3 else if b%9223372036854775808<9221120237041090560 then 5 else 4
theorem qC5 (b:Nat) (hb:b<18446744073709551616):rN b<18446744073709551616:=by unfold rN;split<;>omega
theorem dI (b:Nat) (hb:b<18446744073709551616):yC b<18446744073709551616:=by unfold yC;split<;>omega
theorem uQ (w:World):(Instr.field 75 (.agg #[.int .u64 9223372036854775808,.int .u64 9218868437227405312,.int .u64 2251799813685248]) 0).run Tryz.prog w= .ok (.int .u64 9223372036854775808) w:=by kernel_rfl
theorem qE8 (b:Nat) (w:World) (hb:b<18446744073709551616):Calls Tryz.prog 17 #[.int .u64 b] w fun e w'=>e= .returned (.int .u64 (rN b:Nat))∧Below w.heap.size w w':=by
 unfold rN
 by_cases h:b<9223372036854775808
 ·rw [if_pos h]
  have hx:=gP b h
  have hy:=tV b h
  go_enter Tryz.func17,Tryz.ntmps17
  go_wp2_with fail
  refine (qR w).mono ?_
  rintro e w1 ⟨rfl,hb1⟩
  unfold vR
  have hf:=uQ
  go_wp2_with (simp only [hx,hy,hf])
  go_ret
  exact ⟨rfl,hb1⟩
 ·rw [if_neg h]
  have hx:=gO b (by omega) hb
  have hy:=qEJ b hb
  go_enter Tryz.func17,Tryz.ntmps17
  go_wp2_with fail
  refine (qR w).mono ?_
  rintro e w1 ⟨rfl,hb1⟩
  unfold vR
  have hf:=uQ
  go_wp2_with (simp only [hx,hy,hf])
  go_ret
  exact ⟨rfl,hb1⟩
theorem mX (b:Nat) (w:World) (hb:b<18446744073709551616):Calls Tryz.prog 72 #[.int .u64 b] w fun e w'=>e= .returned (.int .u64 (yC b:Nat))∧Below w.heap.size w w':=by
 unfold yC
 by_cases h:b<9223372036854775808
 ·rw [if_pos h]
  have hx:=gP b h
  have hy:=qEJ b hb
  go_enter Tryz.func72,Tryz.ntmps72
  go_wp2_with fail
  refine (qR w).mono ?_
  rintro e w1 ⟨rfl,hb1⟩
  unfold vR
  have hf:=uQ
  go_wp2_with (simp only [hx,hy,hf])
  go_ret
  exact ⟨rfl,hb1⟩
 ·rw [if_neg h]
  have hx:=gO b (by omega) hb
  have hy:=qD3 b (by omega) hb
  go_enter Tryz.func72,Tryz.ntmps72
  go_wp2_with fail
  refine (qR w).mono ?_
  rintro e w1 ⟨rfl,hb1⟩
  unfold vR
  have hf:=uQ
  go_wp2_with (simp only [hx,hy,hf])
  go_ret
  exact ⟨rfl,hb1⟩
end Go.Proofs.YtkpmalfigmimaaaGreatDoor
