import Derived.Test.YtkpmalfigmimaaaGreatDoorT1A
import Derived.Test.YtkpmalfigmimaaaGreatDoorPB
import Derived.Test.YtkpmalfigmimaaaGreatDoorZ0
import Derived.Test.YtkpmalfigmimaaaGreatDoorC3B64
set_option linter.unusedVariables false
set_option linter.unusedSimpArgs false
set_option maxRecDepth 100000
set_option maxHeartbeats 8000000
namespace Go.Proofs.YtkpmalfigmimaaaGreatDoor
open Go.RowKit
open Flt
theorem qDV (b t:Nat):nG (Question.cut (.nanConv .f64 b) t):=qJV 0 0 t
theorem cT (b:Nat) (h:2139095040<b%2147483648) (w:World):∃nb,nG nb∧(convert 110 72 (.float .f32 b)).run Tryz.prog w= .ok (.float .f64 nb) w.drew:=by
 refine ⟨Question.cut (.nanConv .f64 b) (w.tape w.drawn (.nanConv .f64 b)),qDV _ _,?_⟩
 have hd:FloatKind.f32.decode b= .nan (sg Ieee.single b) (rg Ieee.single b-Ieee.single.infRung):=read_nan Ieee.single b (by decide) (by rw [qLW,qE2];exact h)
 have hs:Tryz.prog.underlying 110=some (.float .f32):=by kernel_rfl
 have ht:Tryz.prog.underlying 72=some (.float .f64):=by kernel_rfl
 simp [convert,run_underlying hs,run_underlying ht,Conv.floatToFloat,hd,Question.forced]
theorem tI (b:Nat) (w:World) (h:2139095040<b%2147483648):Calls Tryz.prog 35 #[.int .u32 b] w fun e w'=>∃x,nG x∧e= .returned (.float .f64 x)∧w'=w.drew:=by
 have hf:=dQ b
 obtain ⟨nb,hnb,hcv⟩:=cT b h w
 have HN:=jF hnb
 clear hnb h
 go_enter Tryz.func35,Tryz.ntmps35
 go_wp2_with fail
 refine (vK _).mono ?_
 rintro e w1 ⟨rfl,rfl⟩
 go_wp2_with (simp only [hf,hcv])
 go_ret
 exact ⟨nb,HN.out,rfl,rfl⟩
def tK (a:Nat):Nat:=if 2139095040<a%2147483648 then 9221120237041090560 else (floatToFloatBits .f32 a .f64).getD 0
def lH (a x:Nat):Prop:=x<18446744073709551616∧(2139095040<a%2147483648→9218868437227405312<x%9223372036854775808)∧(a%2147483648≤2139095040→x=tK a)
theorem yA (a:Nat) (w:World) (ha:a<4294967296):Calls Tryz.prog 35 #[.int .u32 a] w fun e w'=>∃x,lH a x∧e= .returned (.float .f64 x)∧Below w.heap.size w w':=by
 by_cases h:2139095040<a%2147483648
 ·refine (tI a w h).mono ?_
  rintro e w' ⟨x,hx,rfl,rfl⟩
  exact ⟨x,⟨hx.2,fun _=>hx.1,fun h'=>by omega⟩,rfl,(Below.refl _ _).drew⟩
 ·obtain ⟨x,x1,x2,x3,x4,x5,x6,x7⟩:=vB a ha (by omega)
  refine (cF a x w x1).mono ?_
  rintro e w' ⟨rfl,rfl⟩
  exact ⟨x,⟨x2,fun h'=>absurd h' h,fun _=>by unfold tK;rw [if_neg h,x1];rfl⟩,rfl,Below.refl _ _⟩
def qAF:Option Nat→Nat
 |some r=>kP r
 |none=>2143289344
theorem bV {o:Option Nat} {r:Nat} (h:o=some r) (hr:r%9223372036854775808≤9218868437227405312):sV r=qAF o:=by rw [h,gC r hr];rfl
def bM (a b:Nat):Nat:=qAF (Ieee.double.mul (tK a) (tK b))
def dO (a b:Nat):Nat:=qAF (Ieee.double.div (tK a) (tK b))
theorem nD {a:Nat} (h:2139095040<a%2147483648):Ieee.double.infRung<rg Ieee.double (tK a):=by
 unfold tK;rw [if_pos h,xP,jM];omega
theorem qIM (a b x y:Nat) (ha:a<4294967296) (hb:b<4294967296) (hx:lH a x) (hy:lH b y):qAF (Ieee.double.mul x y)=bM a b:=by
 unfold bM
 by_cases na:2139095040<a%2147483648
 ·rw [mul_nan2 _ (by decide) x y (.inl (by rw [xP,jM];exact hx.2.1 na)),mul_nan2 _ (by decide) _ _ (.inl (nD na))]
 ·by_cases nb:2139095040<b%2147483648
  ·rw [mul_nan2 _ (by decide) x y (.inr (by rw [xP,jM];exact hy.2.1 nb)),mul_nan2 _ (by decide) _ _ (.inr (nD nb))]
  ·rw [hx.2.2 (by omega),hy.2.2 (by omega)]
theorem qIL (a b x y:Nat) (ha:a<4294967296) (hb:b<4294967296) (hx:lH a x) (hy:lH b y):qAF (Ieee.double.div x y)=dO a b:=by
 unfold dO
 by_cases na:2139095040<a%2147483648
 ·rw [div_nan2 _ (by decide) x y (.inl (by rw [xP,jM];exact hx.2.1 na)),div_nan2 _ (by decide) _ _ (.inl (nD na))]
 ·by_cases nb:2139095040<b%2147483648
  ·rw [div_nan2 _ (by decide) x y (.inr (by rw [xP,jM];exact hy.2.1 nb)),div_nan2 _ (by decide) _ _ (.inr (nD nb))]
  ·rw [hx.2.2 (by omega),hy.2.2 (by omega)]
theorem dF (a b:Nat) (w:World) (ha:a<4294967296) (hb:b<4294967296):Calls Tryz.prog 175 #[.int .u32 a,.int .u32 b] w fun e w'=>e= .returned (.int .u32 (bM a b:Nat))∧Below w.heap.size w w':=by
 have HV:=jF (And.intro (fun w=>yA a w ha) (fun w=>yA b w hb))
 have HE:=jF (fun x y hx hy=>qIM a b x y ha hb hx hy)
 clear ha hb
 generalize bM a b=out at*
 go_enter Tryz.func175,Tryz.ntmps175
 go_wp2_with fail
 refine (HV.out.1 _).mono ?_
 rintro e w1 ⟨x,hx,rfl,hb1⟩
 have H1:=jF (And.intro hx hb1)
 clear hx hb1
 go_wp2_with fail
 refine (HV.out.2 _).mono ?_
 rintro e w2 ⟨y,hy,rfl,hb2⟩
 have HT:=jF (HE.out x y H1.out.1 hy)
 have H2:=jF (H1.out.2.trans (hb2.mono H1.out.2.size))
 clear hy hb2 H1
 have hs:floatBits .mul .f64 x y=Ieee.double.mul x y:=rfl
 cases ho:Ieee.double.mul x y with
 |none=>
  rw [ho] at hs HT
  obtain ⟨nb,hnb,hadd⟩:=sX .mul (by simp) 72 x y hs w2
  go_wp2_with (simp only [hadd])
  refine (zR nb _ hnb.2).mono ?_
  rintro e w3 ⟨rfl,hb3⟩
  rw [bU nb hnb.1]
  have H3:=jF (H2.out.drew.trans (hb3.mono H2.out.size))
  clear hb3
  go_wp2_with fail
  go_ret
  exact ⟨by rw [←HT.out];rfl,H3.out⟩
 |some r=>
  rw [ho] at hs HT
  obtain ⟨hr1,hr2⟩:=mB hs
  have hadd:=fun w:World=>run_float_arith (P:=Tryz.prog) w .mul 72 .f64 x y r hs
  have HP:=jF (fun w:World=>zR r w hr2)
  rw [bV rfl hr1,HT.out] at HP
  clear hr1 hr2 hs ho
  go_wp2_with (simp only [hadd])
  refine (HP.out _).mono ?_
  rintro e w3 ⟨rfl,hb3⟩
  go_wp2_with fail
  go_ret
  exact ⟨rfl,H2.out.trans (hb3.mono H2.out.size)⟩
theorem sG (x y:Nat) (hx:x<18446744073709551616) (hy:y<18446744073709551616) (h0:y%9223372036854775808=0):sV (byN x (decide (9223372036854775808≤y)))=qAF (Ieee.double.div x y):=by
 have hn:sV 9221120237041090561=2143289344:=by unfold sV;rw [if_pos (by omega)]
 unfold byN
 have fy:rg Ieee.double y<Ieee.double.infRung:=by rw [xP,jM,h0];omega
 have zy:rg Ieee.double y=0:=by rw [xP];exact h0
 have key:∀s t:Bool,sV (if s=t then 9218868437227405312 else 18442240474082181120)=qAF (some (Ieee.double.word (s^^t) Ieee.double.infRung)):=by
  intro s t
  have hp:∀q:Bool,sV (Ieee.double.word q Ieee.double.infRung)=kP (Ieee.double.word q Ieee.double.infRung):=fun q=>by
   refine gC _ ?_
   have:=rg_word Ieee.double q _ Ieee.double.infRung_lt
   rw [xP,jM] at this
   rw [jM,this];omega
  show _=kP _
  rw [←hp]
  cases s<;>cases t<;>(refine congrArg _ ?_;decide +kernel)
 rcases Nat.lt_trichotomy (x%9223372036854775808) 9218868437227405312 with h|h|h
 ·have fx:rg Ieee.double x<Ieee.double.infRung:=by rw [xP,jM];exact h
  rw [div_fin_zero _ x y fx fy zy,qJ4 x hx,qJ4 y hy,xP]
  by_cases hz:x%9223372036854775808=0
  ·rw [if_pos (.inr hz),if_pos hz,hn];rfl
  ·rw [if_neg (by omega),if_neg hz]
   exact key _ _
 ·rw [div_inf_fin _ (by decide) x y (by rw [xP,jM];exact h) fy,qJ4 x hx,qJ4 y hy,if_neg (by omega)]
  exact key _ _
 ·rw [div_nan2 _ (by decide) x y (.inl (by rw [xP,jM];exact h)),if_pos (.inl h),hn];rfl
theorem qDB (a b:Nat) (w:World) (ha:a<4294967296) (hb:b<4294967296):Calls Tryz.prog 176 #[.int .u32 a,.int .u32 b] w fun e w'=>e= .returned (.int .u32 (dO a b:Nat))∧Below w.heap.size w w':=by
 have HV:=jF (And.intro (fun w=>yA a w ha) (fun w=>yA b w hb))
 have HE:=jF (fun x y hx hy=>qIL a b x y ha hb hx hy)
 clear ha hb
 generalize dO a b=out at*
 go_enter Tryz.func176,Tryz.ntmps176
 go_wp2_with fail
 refine (HV.out.1 _).mono ?_
 rintro e w1 ⟨x,hx,rfl,hb1⟩
 have H1:=jF (And.intro hx hb1)
 clear hx hb1
 go_wp2_with fail
 refine (HV.out.2 _).mono ?_
 rintro e w2 ⟨y,hy,rfl,hb2⟩
 have HT:=jF (HE.out x y H1.out.1 hy)
 have HB:=jF (And.intro H1.out.1.1 hy.1)
 have H2:=jF (H1.out.2.trans (hb2.mono H1.out.2.size))
 clear hy hb2 H1
 have hz:FloatKind.f64.format.order y 0=_:=uN y
 by_cases h0:y%9223372036854775808=0
 ·rw [if_neg (by omega),if_pos h0] at hz
  have hd:=sG x y HB.out.1 HB.out.2 h0
  rw [HT.out] at hd
  have HS:=jF (fun w:World=>vZ y w HB.out.2)
  have hbl:byN x (decide (9223372036854775808≤y))<18446744073709551616:=by unfold byN;split;omega;split<;>omega
  have HBy:=jF (fun w:World=>pY x (decide (9223372036854775808≤y)) w HB.out.1)
  have HP:=jF (fun w:World=>zR _ w hbl)
  rw [hd] at HP
  generalize decide (9223372036854775808≤y)=t at*
  generalize byN x t=z at*
  clear h0 hd hbl
  go_wp2_with (simp only [hz])
  refine (HS.out _).mono ?_
  rintro e w3 ⟨rfl,hw1⟩
  have hw1:=hw1.symm
  subst hw1
  go_wp2_with fail
  refine (HBy.out _).mono ?_
  rintro e w3 ⟨rfl,hw1⟩
  have hw1:=hw1.symm
  subst hw1
  go_wp2_with fail
  refine (HP.out _).mono ?_
  rintro e w3 ⟨rfl,hb3⟩
  go_wp2_with fail
  go_ret
  exact ⟨rfl,H2.out.trans (hb3.mono H2.out.size)⟩
 ·rw [if_neg h0] at hz
  have hz':FloatKind.f64.format.order y 0=none∨FloatKind.f64.format.order y 0=some .lt∨FloatKind.f64.format.order y 0=some .gt:=by
   rw [hz];split
   ·simp
   ·cases sg Ieee.double y<;>simp
  clear hz h0
  have hs:floatBits .quo .f64 x y=Ieee.double.div x y:=rfl
  cases ho:Ieee.double.div x y with
  |none=>
   rw [ho] at hs HT
   obtain ⟨nb,hnb,hadd⟩:=sX .quo (by simp) 72 x y hs w2
   rcases hz' with hz|hz|hz
   all_goals
    go_wp2_with (simp only [hadd,hz])
    refine (zR nb _ hnb.2).mono ?_
    rintro e w3 ⟨rfl,hb3⟩
    rw [bU nb hnb.1]
    have H3:=jF (H2.out.drew.trans (hb3.mono H2.out.size))
    clear hb3
    go_wp2_with fail
    go_ret
    exact ⟨by rw [←HT.out];rfl,H3.out⟩
  |some r=>
   rw [ho] at hs HT
   obtain ⟨hr1,hr2⟩:=mB hs
   have hadd:=fun w:World=>run_float_arith (P:=Tryz.prog) w .quo 72 .f64 x y r hs
   have HP:=jF (fun w:World=>zR r w hr2)
   rw [bV rfl hr1,HT.out] at HP
   clear hr1 hr2 hs ho
   rcases hz' with hz|hz|hz
   all_goals
    go_wp2_with (simp only [hadd,hz])
    refine (HP.out _).mono ?_
    rintro e w3 ⟨rfl,hb3⟩
    go_wp2_with fail
    go_ret
    exact ⟨rfl,H2.out.trans (hb3.mono H2.out.size)⟩
end Go.Proofs.YtkpmalfigmimaaaGreatDoor
namespace Go.Proofs.YtkpmalfigmimaaaGreatDoor
open Go.RowKit
open M
def wdC (f:Nat):Nat:=if 2139095040<f%2147483648 then xR f else tK f
theorem qLJ (f:Nat) (hf:f<4294967296):wdC f<18446744073709551616:=by
 unfold wdC
 split
 ·unfold xR;omega
 ·rename_i h
  unfold tK
  rw [if_neg h]
  obtain ⟨x,x1,x2,_⟩:=vB f hf (by omega)
  rw [x1];exact x2
theorem qEP (f:Nat) (w:World) (hf:f<4294967296):Calls Tryz.prog 20 #[.int .u32 f] w fun e w'=>e= .returned (.int .u64 (wdC f:Nat))∧Below w.heap.size w w':=by
 by_cases h:2139095040<f%2147483648
 ·have e:wdC f=xR f:=if_pos h
  rw [e];exact lI f w hf h
 ·obtain ⟨x,x1,x2,x3,_⟩:=vB f hf (by omega)
  have e:wdC f=x:=by unfold wdC tK;rw [if_neg h,if_neg h,x1];rfl
  rw [e];exact lJ f x w hf h x1 x2 x3
def bP (v:Nat):Option Int:=xD (wdC v)
def F32:Dm:=⟨bM,dO,fun k=>floatOfInt .f32 k,bP,10,999999⟩
theorem fP {v:Nat} {k:Int} (h:bP v=some k): -9223372036854775808≤k∧k≤9223372036854775807:=mC h
theorem qD3 (x:Option Nat) (h:∀r,x=some r→r<18446744073709551616):qAF x<4294967296:=by
 cases x with
 |none=>show 2143289344<_;omega
 |some r=>have:=h r rfl;show kP r<_;unfold kP;omega
theorem dC (a b:Nat):F32.mul a b<4294967296:=qD3 _ fun r hr=>(mB (op:= .mul) (a:=tK a) (b:=tK b) (show floatBits .mul .f64 (tK a) (tK b)=some r from hr)).2
theorem qDC (a b:Nat):F32.div a b<4294967296:=qD3 _ fun r hr=>(mB (op:= .quo) (a:=tK a) (b:=tK b) (show floatBits .quo .f64 (tK a) (tK b)=some r from hr)).2
theorem qG9 (s:Bool) (m:Nat) (p:Int):Ieee.single.nearest s m p<4294967296:=by
 rw [Flt.nearest_rnd]
 have h:∀r,r≤2139095040→Ieee.single.word s r<4294967296:=fun r hr=>by
  cases s
  ·show r<_;omega
  ·show Ieee.single.signWeight+r<_;rw [show Ieee.single.signWeight=2147483648 from by decide +kernel];omega
 refine h _ ?_
 rw [show Ieee.single.infRung=2139095040 from by decide +kernel]
 exact Nat.min_le_right _ _
theorem uZ (n:Int):F32.int n<4294967296:=by
 show floatOfInt .f32 n<4294967296
 have h:∃s m p,floatOfInt .f32 n=Ieee.single.nearest s m p:=⟨_,_,_,rfl⟩
 obtain ⟨s,m,p,h⟩:=h
 rw [h]
 exact qG9 s m p
theorem gX (p:Nat):F32.pow p<4294967296:=by
 cases p with
 |zero=>exact uZ 1
 |succ p=>exact dC _ _
theorem sJ (n:Int) (w:World):Calls Tryz.prog 204 #[.int .i64 n] w fun e w'=>e= .returned (.int .u32 (floatOfInt .f32 n:Nat))∧w'=w:=by
 have hcv:=fun w:World=>run_convert_int_float (P:=Tryz.prog) w 2 110 .i64 .f32 n (by kernel_rfl) (by kernel_rfl)
 generalize floatOfInt .f32 n=x at*
 have ht:=qD4 x
 go_enter Tryz.func204,Tryz.ntmps204
 go_wp2_with (simp only [hcv,ht])
 go_ret
 exact ⟨rfl,rfl⟩
theorem yU (n:Int) (w:World):Calls Tryz.prog 174 #[.int .i64 n] w fun e w'=>e= .returned (.int .u32 (F32.int n:Nat))∧w'=w:=by
 have HF:=qA (sJ n w)
 have hl:=uZ n
 change Calls _ _ _ _ fun e w'=>e= .returned (.int .u32 (floatOfInt .f32 n:Nat))∧w'=w
 change floatOfInt .f32 n<4294967296 at hl
 generalize floatOfInt .f32 n=x at*
 have r0:IntKind.u32.wrap (x:Int)=(x:Int):=by rw [IntKind.wrap_u32];omega
 go_enter Tryz.func174,Tryz.ntmps174
 go_wp2_with fail
 refine (kN _).mono ?_
 rintro e w1 ⟨rfl,rfl⟩
 go_wp2_with fail
 refine HF.out.mono ?_
 rintro e w2 ⟨rfl,rfl⟩
 go_wp2_with fail
 go_ret
 exact ⟨rfl,rfl⟩
theorem wZ (v:Nat) (w:World) (hv:v<4294967296):Calls Tryz.prog 213 #[.int .u32 v] w fun e w'=>e= .returned (nwV (bP v))∧Below w.heap.size w w':=by
 have HW:=qA (qEP v w hv)
 have r0:IntKind.u32.wrap (v:Int)=(v:Int):=by rw [IntKind.wrap_u32];omega
 have r1:IntKind.u64.wrap (v:Int)=(v:Int):=by rw [IntKind.wrap_u64];omega
 have hx:=qLJ v hv
 unfold bP
 generalize wdC v=x at*
 by_cases h:x%9223372036854775808<9218868437227405312∧-9223372036854775808≤wz 1074 0 x∧wz 1074 0 x<9223372036854775808
 ·have e0:xD x=some (wz 1074 0 x):=by unfold xD;rw [if_pos h]
  have HT:=qA (fun w:World=>qCG 1074 rfl x 0 w hx (by omega) h.1 h.2.1 h.2.2)
  rw [e0]
  clear e0 h
  generalize wz 1074 0 x=z at*
  go_enter Tryz.func213,Tryz.ntmps213
  go_wp2_with fail
  refine (kN _).mono ?_
  rintro e w1 ⟨rfl,h1⟩
  have h1:=h1.symm
  subst h1
  go_wp2_with fail
  refine HW.out.mono ?_
  rintro e w1 ⟨rfl,B1⟩
  have HB1:=qA B1
  clear B1
  go_wp2_with fail
  refine (HT.out _).mono ?_
  rintro e w2 ⟨rfl,B2⟩
  have HB:Hid (Below w.heap.size w w2):=HB1.out.trans (B2.mono HB1.out.size)
  clear B2
  go_wp2_with fail
  go_ret2
  exact ⟨rfl,HB.out⟩
 ·have e0:xD x=none:=by unfold xD;rw [if_neg h]
  have HT:=qA (fun w:World=>lG 1074 rfl x 0 w hx (by omega) h)
  rw [e0]
  clear e0 h
  go_enter Tryz.func213,Tryz.ntmps213
  go_wp2_with fail
  refine (kN _).mono ?_
  rintro e w1 ⟨rfl,h1⟩
  have h1:=h1.symm
  subst h1
  go_wp2_with fail
  refine HW.out.mono ?_
  rintro e w1 ⟨rfl,B1⟩
  have HB1:=qA B1
  clear B1
  go_wp2_with fail
  refine (HT.out _).mono ?_
  rintro e w2 ⟨rfl,B2⟩
  have HB:Hid (Below w.heap.size w w2):=HB1.out.trans (B2.mono HB1.out.size)
  clear B2
  go_wp2_with fail
  go_ret2
  exact ⟨rfl,HB.out⟩
theorem uL (w:World):Calls Tryz.prog 214 #[] w fun e w'=>e= .returned (.int .i64 999999)∧w'=w:=by
 go_enter Tryz.func214,Tryz.ntmps214
 go_wp2_with fail
 refine (kN _).mono ?_
 rintro e w1 ⟨rfl,rfl⟩
 go_wp2_with fail
 go_ret
 exact ⟨rfl,rfl⟩
theorem xN (w:World):Calls Tryz.prog 188 #[] w fun e w'=>e= .returned (.int .i64 10)∧w'=w:=by
 go_enter Tryz.func188,Tryz.ntmps188
 go_wp2_with fail
 refine (kN _).mono ?_
 rintro e w1 ⟨rfl,rfl⟩
 go_wp2_with fail
 go_ret
 exact ⟨rfl,rfl⟩
def vN (p:Nat):Value:= .agg #[.int .i64 (p:Int),.int .u32 (F32.pow p:Int)]
theorem gF (p:Nat) (w:World) (hp:p≤1000):Calls Tryz.prog 139 #[.int .i64 p] w fun e w'=>e= .returned (vN p)∧Below w.heap.size w w':=by
 have HM:=qA (fun (a b:Nat) (w:World) (ha:a<4294967296) (hb:b<4294967296)=>dF a b w ha hb)
 have hI1:=yU 1
 have hI10:=yU 10
 obtain ⟨g,hg⟩:∃g,w.heap.size=g:=⟨_,rfl⟩
 have HG:=qA hg
 have HI:=qA (And.intro hI1 hI10)
 clear hI1 hI10
 have HA:Hid (Below g w (w.alloc (.cells #[.int .i64 0,.int .u32 0] 181))∧(w.alloc (.cells #[.int .i64 0,.int .u32 0] 181)).heap[g]?=some (.cells #[.int .i64 0,.int .u32 0] 181 (0,0))):=by
  rw [←hg];exact ⟨(Below.refl _ w).alloc (Nat.le_refl _) _,heap_alloc_new w _⟩
 go_enter Tryz.func139,Tryz.ntmps139
 go_upto_region 1 with fail
 (try rw [hg])
 clear hg
 generalize w.alloc (.cells #[.int .i64 0,.int .u32 0] 181)=W1 at*
 go_wp2_with fail
 refine (HI.out.1 _).mono ?_
 rintro e w1 ⟨rfl,h1⟩
 have h1:=h1.symm
 subst h1
 go_wp2_with fail
 refine (HI.out.2 _).mono ?_
 rintro e w1 ⟨rfl,h1⟩
 have h1:=h1.symm
 subst h1
 obtain ⟨TEN,hTEN⟩:∃t,F32.int 10=t:=⟨_,rfl⟩
 rw [hTEN]
 have HTEN:=qA hTEN
 clear hTEN
 go_wp2_with fail
 go_loopw [3,8] (fun t3 t8 wr=>∃k:Nat,t8= .int .i64 (k:Int)∧t3= .int .u32 ((F32.pow k:Nat):Int)∧Hid (k≤p∧Below g w wr∧wr.heap[g]?=some (.cells #[.int .i64 0,.int .u32 0] 181 (0,0)))) (fun _ t8 _=>p-(intOf t8).toNat)
 case atStart=>exact ⟨0,rfl,rfl,Nat.zero_le _,HA.out.1,HA.out.2⟩
 case round=>
  obtain ⟨k,rfl,rfl,hI⟩:=hrel
  by_cases hlt:k<p
  ·have HE:Hid (bM (F32.pow k) TEN=F32.pow (k+1)):=by rw [←HTEN.out];rfl
   obtain ⟨P,hP⟩:∃P,F32.pow k=P:=⟨_,rfl⟩
   have hPl:P<4294967296:=by rw [←hP];exact gX k
   have hTl:TEN<4294967296:=by rw [←HTEN.out];exact uZ 10
   rw [hP] at HE⊢
   clear hP
   go_wp2_with fail
   refine (HM.out P TEN wr hPl hTl).mono ?_
   rintro e w2 ⟨rfl,B2⟩
   rw [HE.out]
   have HB2:Hid (Below g w w2∧w2.heap[g]?=some (.cells #[.int .i64 0,.int .u32 0] 181 (0,0))):=by
    have h1:=qB hI.out.2.2
    exact ⟨hI.out.2.1.trans (B2.mono (by omega)),by rw [B2.block g h1];exact hI.out.2.2⟩
   clear B2
   go_wp2_with fail
   go_roundw
   case rel=>exact ⟨k+1,by simp,rfl,hlt,HB2.out.1,HB2.out.2⟩
   case measure=>simp [intOf];omega
  ·have hk:k=p:=by have:=hI.out.1;omega
   subst hk
   have c0:wr.cell? ⟨g,0,none⟩=some (.int .i64 0):=cell_of_row _ _ 0 _ _ _ hI.out.2.2
   have c1:wr.cell? ⟨g,1,none⟩=some (.int .u32 0):=cell_of_row _ _ 1 _ _ _ hI.out.2.2
   have f0:=froz hI.out.2.2 0
   have f1:=froz hI.out.2.2 1
   obtain ⟨P,hP⟩:∃P,F32.pow k=P:=⟨_,rfl⟩
   rw [hP]
   have HP:=qA hP
   clear hP
   go_wp2_with fail
   obtain ⟨fs,hu⟩:=yM (show Tryz.prog.underlying 181=Tryz.prog.underlying 181 from rfl) (by kernel_rfl)
   have hrow:((wr.setCell ⟨g,0,none⟩ (.int .i64 (k:Int))).setCell ⟨g,1,none⟩ (.int .u32 (P:Int))).heap[g]?=some (.cells #[.int .i64 (k:Int),.int .u32 (P:Int)] 181 (0,0)):=by
    have h1:=heap_setCell_same wr g 0 _ _ (.int .i64 (k:Int)) hI.out.2.2
    have h2:=heap_setCell_same _ g 1 _ _ (.int .u32 (P:Int)) h1
    exact h2
   refine bodyPost_ret (results_cell_row rfl _ _ g _ _ (0,0) (.struct fs) rfl hrow hu rfl (by kernel_rfl)) rfl ?_
   refine ⟨by rw [vN,HP.out],?_⟩
   have h1:=hI.out.2.1
   rw [HG.out]
   exact (h1.setCell (p:=⟨g,0,none⟩) (Nat.le_refl _) _).setCell (p:=⟨g,1,none⟩) (Nat.le_refl _) _
theorem gR (p:Nat) (k:Int) (w:World):Calls Tryz.prog 141 #[vN p,.int .i64 k] w fun e w'=>e= .returned (.int .u32 (F32.val p k:Nat))∧Below w.heap.size w w':=by
 have HD:=qA (fun (w:World)=>qDB (F32.int k) (F32.pow p) w (uZ k) (gX p))
 have HF:=qA (fun (w:World)=>yU k w)
 have ev:dO (F32.int k) (F32.pow p)=F32.val p k:=rfl
 rw [ev] at HD
 clear ev
 unfold vN
 generalize F32.val p k=out at*
 generalize F32.int k=I at*
 generalize F32.pow p=P at*
 obtain ⟨g,hg⟩:∃g,w.heap.size=g:=⟨_,rfl⟩
 obtain ⟨W1,hW1⟩:∃W1,W1=w.alloc (.cells #[.int .i64 (p:Int),.int .u32 (P:Int)] 181):=⟨_,rfl⟩
 have hB1:Below g w W1:=by rw [hW1,←hg];exact (Below.refl _ w).alloc (Nat.le_refl _) _
 have hr1:W1.heap[g]?=some (.cells #[.int .i64 (p:Int),.int .u32 (P:Int)] 181 (0,0)):=by rw [hW1,←hg];exact heap_alloc_new w _
 have c0:W1.drew.cell? ⟨g,1,none⟩=some (.int .u32 (P:Int)):=cell_of_row W1.drew g 1 _ _ _ hr1
 have HB:Hid (Below g w W1.drew):=⟨hB1.os,hB1.tape,hB1.output,hB1.size,hB1.block⟩
 have HGG:=qA hg
 have HS:Hid (g≤W1.drew.heap.size):=by have:=qB hr1;exact Nat.le_of_lt this
 clear hB1 hr1
 go_enter Tryz.func141,Tryz.ntmps141
 go_wp2_with fail
 (try rw [hg])
 (try rw [←hW1])
 clear hW1 hg
 go_region_held3 (fun w'=>w'.cell? ⟨g,1,none⟩=some (.int .u32 (P:Int))) (exact c0)
  (first|(go_at_call 174;go_must (refine (HF.out _).mono ?_);rintro _ w5 ⟨rfl,hw5⟩;have hw5:=hw5.symm;subst hw5)|(go_at_call 176;go_must (refine (HD.out _).mono ?_);rintro _ w6 ⟨rfl,B6⟩;have HB6:Hid (Below g w w6):=(HB.out.trans (B6.mono HS.out));have c0:w6.cell? ⟨g,1,none⟩=some (.int .u32 (P:Int)):=(by rw [B6.cell (p:=⟨g,1,none⟩) (block_lt_of_cell c0)];exact c0);clear B6))
 all_goals
  go_wp2_with fail
  go_ret
  exact ⟨rfl,by rw [HGG.out];exact HB6.out⟩
end Go.Proofs.YtkpmalfigmimaaaGreatDoor
namespace Go.Proofs.YtkpmalfigmimaaaGreatDoor
open Go.RowKit
open M
structure gV (w:World) (g p:Nat):Prop where
 row:w.heap[g]?=some (.cells #[.int .i64 (p:Int),.int .u32 (F32.pow p:Int)] 181 (0,0))
theorem gV.c0 {w:World} {g p:Nat} (h:gV w g p):w.cell? ⟨g,0,none⟩=some (.int .i64 (p:Int)):=cell_of_row _ _ 0 _ _ _ h.row
theorem gV.c1 {w:World} {g p:Nat} (h:gV w g p):w.cell? ⟨g,1,none⟩=some (.int .u32 (F32.pow p:Int)):=cell_of_row _ _ 1 _ _ _ h.row
theorem gV.lt {w:World} {g p:Nat} (h:gV w g p):g<w.heap.size:=qB h.row
theorem gV.below {w w':World} {g p B:Nat} (h:gV w g p) (hB:Below B w w') (hg:g<B):gV w' g p:=⟨by rw [hB.block g hg];exact h.row⟩
theorem yY (p v:Nat) (w:World) (hv:v<4294967296):Calls Tryz.prog 189 #[vN p,.int .u32 v] w fun e w'=>e= .returned (nwV (F32.wh p v))∧Below w.heap.size w w':=by
 have HMU:=qA (fun (w:World)=>dF v (F32.pow p) w hv (gX p))
 have HNW:=qA (fun (w:World)=>wZ (F32.mul v (F32.pow p)) w (dC _ _))
 have HVO:=qA (fun (k:Int) (w:World)=>gR p k w)
 have em:bM v (F32.pow p)=F32.mul v (F32.pow p):=rfl
 rw [em] at HMU
 have hwh:F32.wh p v=match bP (F32.mul v (F32.pow p)) with|none=>none|some k=>if k< -999999∨999999<k∨F32.val p k≠v then none else some k:=rfl
 have hrg:=fun k (h:bP (F32.mul v (F32.pow p))=some k)=>fP h
 obtain ⟨g,hg⟩:∃g,w.heap.size=g:=⟨_,rfl⟩
 obtain ⟨W1,hW1⟩:∃W1,W1=w.alloc (.cells #[.int .i64 (p:Int),.int .u32 (F32.pow p:Int)] 181):=⟨_,rfl⟩
 have HW1:Hid (Below g w W1∧W1.heap[g]?=some (.cells #[.int .i64 (p:Int),.int .u32 (F32.pow p:Int)] 181 (0,0))):=by
  rw [hW1,←hg];exact ⟨(Below.refl _ w).alloc (Nat.le_refl _) _,heap_alloc_new w _⟩
 have HG:=qA hg
 clear em
 obtain ⟨o,ho⟩:∃o,bP (F32.mul v (F32.pow p))=o:=⟨_,rfl⟩
 rw [ho] at hwh hrg HNW
 obtain ⟨out,hout⟩:∃out,F32.wh p v=out:=⟨_,rfl⟩
 rw [hout] at hwh⊢
 have HWH:=qA hwh
 clear hwh ho hout
 have n1:IntKind.i64.wrap (-999999)= -999999:=by rw [IntKind.wrap_i64];omega
 have c1:W1.cell? ⟨g,1,none⟩=some (.int .u32 (F32.pow p:Int)):=(gV.mk HW1.out.2).c1
 unfold vN at*
 generalize F32.pow p=P at*
 generalize F32.mul v P=m at*
 have HC:Hid (∀w',Below (g+1) W1 w'→w'.cell? ⟨g,0,none⟩=some (.int .i64 (p:Int))∧w'.cell? ⟨g,1,none⟩=some (.int .u32 (P:Int))):=fun w' hB=>by
  have h:=HW1.out.2
  exact ⟨cell_of_row _ _ 0 _ _ _ ((hB.block g (by omega)).trans h),cell_of_row _ _ 1 _ _ _ ((hB.block g (by omega)).trans h)⟩
 go_enter Tryz.func189,Tryz.ntmps189
 go_upto_region 1 with fail
 (try rw [hg])
 (try rw [←hW1])
 clear hW1 hg
 go_wp2_with fail
 refine (HMU.out _).mono ?_
 rintro e w2 ⟨rfl,B2⟩
 have HB2:=qA B2
 clear B2
 go_wp2_with fail
 refine (HNW.out _).mono ?_
 rintro e w3 ⟨rfl,B3⟩
 have HB3:Hid (Below (g+1) W1 w3∧Below g w w3∧g+1≤w3.heap.size):=by
  have h0:g<W1.heap.size:=qB HW1.out.2
  have h1:=HB2.out.size
  have h2:=B3.size
  have h3:Below (g+1) W1 w3:=(HB2.out.mono (by omega)).trans (B3.mono (by omega))
  exact ⟨h3,HW1.out.1.trans (h3.mono (by omega)),by omega⟩
 clear B3 HB2
 cases o with
 |none=>
  simp only [nwV]
  go_wp2_with fail
  refine (uL _).mono ?_
  rintro e w4 ⟨rfl,h4⟩
  have h4:=h4.symm
  subst h4
  have HE:Hid (out=none):=HWH.out
  go_wp2_with fail
  go_ret2
  exact ⟨by rw [HE.out];rfl,by rw [HG.out];exact HB3.out.2.1⟩
 |some k=>
  simp only [nwV]
  obtain ⟨k1,k2⟩:=hrg k rfl
  clear hrg
  go_wp2_with fail
  refine (uL _).mono ?_
  rintro e w4 ⟨rfl,h4⟩
  have h4:=h4.symm
  subst h4
  by_cases h5:k< -999999
  ·have HE:Hid (out=none):=HWH.out.trans (if_pos (.inl h5))
   go_wp2_with fail
   go_ret2
   exact ⟨by rw [HE.out];rfl,by rw [HG.out];exact HB3.out.2.1⟩
  ·by_cases h6:999999<k
   ·have HE:Hid (out=none):=HWH.out.trans (if_pos (.inr (.inl h6)))
    go_wp2_with fail
    go_ret2
    exact ⟨by rw [HE.out];rfl,by rw [HG.out];exact HB3.out.2.1⟩
   ·obtain ⟨x,hx⟩:∃x,F32.val p k=x:=⟨_,rfl⟩
    have HX:=qA hx
    obtain ⟨d0,d1⟩:=HC.out w3 HB3.out.1
    have HV:=qA (HVO.out k w3)
    rw [hx] at HV
    by_cases h7:x=v
    ·have HE:Hid (out=some k):=HWH.out.trans (if_neg (fun h=>h.elim h5 (fun h=>h.elim h6 (fun h=>h (hx.trans h7)))))
     have q7:((x:Int) !=(v:Int))=false:=by rw [h7];simp
     clear hx h7
     go_wp2_with fail
     refine HV.out.mono ?_
     rintro e w5 ⟨rfl,B5⟩
     have HB5:Hid (Below g w w5):=HB3.out.2.1.trans (B5.mono (by have:=HB3.out.2.2;omega))
     clear B5
     go_wp2_with fail
     go_ret2
     exact ⟨by rw [HE.out];rfl,by rw [HG.out];exact HB5.out⟩
    ·have HE:Hid (out=none):=HWH.out.trans (if_pos (.inr (.inr (by rw [hx];exact h7))))
     have q7:((x:Int) !=(v:Int))=true:=by rw [bne_iff_ne];omega
     clear hx h7
     go_wp2_with fail
     refine HV.out.mono ?_
     rintro e w5 ⟨rfl,B5⟩
     have HB5:Hid (Below g w w5):=HB3.out.2.1.trans (B5.mono (by have:=HB3.out.2.2;omega))
     clear B5
     go_wp2_with fail
     go_ret2
     exact ⟨by rw [HE.out];rfl,by rw [HG.out];exact HB5.out⟩
theorem vX (p:Nat) (q:Option Addr) (n cap:Nat) (f:Nat→Nat) (w:World) (h:jB w q n f) (hn:n≤4096) (hcap:n≤cap) (hf:∀i,i<n→f i<4294967296):
  Calls Tryz.prog 187 #[vN p,.slice q n cap] w fun e w'=>e= .returned (.int .i64 (F32.cnt p f 0 n:Nat))∧Below w.heap.size w w':=by
 have H:=qA h
 have HF:=qA hf
 have HWO:=qA (fun (v:Nat) (w:World) (hv:v<4294967296)=>yY p v w hv)
 obtain ⟨g,hg⟩:∃g,w.heap.size=g:=⟨_,rfl⟩
 obtain ⟨W1,hW1⟩:∃W1,W1=w.alloc (.cells #[.int .i64 (p:Int),.int .u32 (F32.pow p:Int)] 181):=⟨_,rfl⟩
 have HW1:Hid (Below g w W1∧W1.heap[g]?=some (.cells #[.int .i64 (p:Int),.int .u32 (F32.pow p:Int)] 181 (0,0))):=by
  rw [hW1,←hg];exact ⟨(Below.refl _ w).alloc (Nat.le_refl _) _,heap_alloc_new w _⟩
 have HG:=qA hg
 clear h hf
 unfold vN at*
 go_enter Tryz.func187,Tryz.ntmps187
 go_upto_region 1 with fail
 (try rw [hg])
 (try rw [←hW1])
 clear hW1 hg
 go_wp2_with fail
 go_loopw [5,12] (fun t5 t12 wr=>∃(k c:Nat),t12= .int .i64 (k:Int)∧t5= .int .i64 (c:Int)∧Hid (k≤n∧c=F32.cnt p f 0 k∧Below (g+1) W1 wr)) (fun _ t12 _=>n-(intOf t12).toNat)
 case atStart=>exact ⟨0,0,rfl,rfl,Nat.zero_le _,rfl,Below.refl _ _⟩
 case round=>
  obtain ⟨k,c,rfl,rfl,hI⟩:=hrel
  by_cases hlt:k<n
  ·obtain ⟨b,o,rfl,hc⟩:=H.out (by omega)
   obtain ⟨x,hx⟩:∃x,f k=x:=⟨_,rfl⟩
   have hxM:x<4294967296:=by rw [←hx];exact HF.out k hlt
   have hS:gV wr g p:=gV.below ⟨HW1.out.2⟩ hI.out.2.2 (by omega)
   have hbg:b<g:=by rw [←HG.out];exact block_lt_of_cell (hc k hlt)
   have c1:wr.cell? ⟨b,o+k,none⟩=some (.int .u32 (x:Int)):=by
    rw [hI.out.2.2.cell (p:=⟨b,o+k,none⟩) (show b<g+1 by omega),HW1.out.1.cell (p:=⟨b,o+k,none⟩) hbg,←hx];exact hc k hlt
   have d0:=hS.c0
   have d1:=hS.c1
   have hcl:c≤k:=by rw [hI.out.2.1];exact F32.cnt_le p f 0 k
   have HWX:=qA (HWO.out x wr hxM)
   have HS2:Hid (g+1≤wr.heap.size):=hS.lt
   have HCE:Hid (F32.cnt p f 0 (k+1)=c+(if (F32.wh p x).isSome then 0 else 1)):=by
    show _=_
    rw [F32.cnt_end,Nat.zero_add,hx,hI.out.2.1]
   generalize F32.pow p=P at*
   generalize F32.wh p x=oo at*
   clear hx hc hS
   go_wp2_with fail
   refine HWX.out.mono ?_
   rintro e w2 ⟨rfl,B2⟩
   have HB2:Hid (Below (g+1) W1 w2):=hI.out.2.2.trans (B2.mono HS2.out)
   clear B2
   cases oo with
   |none=>
    simp only [nwV]
    go_wp2_with fail
    go_roundw
    case rel=>exact ⟨k+1,c+1,by simp,by simp,hlt,by rw [HCE.out];rfl,HB2.out⟩
    case measure=>simp [intOf];omega
   |some z=>
    simp only [nwV]
    go_wp2_with fail
    go_roundw
    case rel=>exact ⟨k+1,c,by simp,by simp,hlt,by rw [HCE.out];rfl,HB2.out⟩
    case measure=>simp [intOf];omega
  ·have hk:k=n:=by have:=hI.out.1;omega
   subst hk
   go_wp2_with fail
   go_ret
   exact ⟨by rw [hI.out.2.1];rfl,by rw [HG.out];exact HW1.out.1.trans (hI.out.2.2.mono (by omega))⟩
end Go.Proofs.YtkpmalfigmimaaaGreatDoor
