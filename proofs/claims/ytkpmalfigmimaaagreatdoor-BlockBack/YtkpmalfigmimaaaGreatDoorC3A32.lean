import Derived.Test.YtkpmalfigmimaaaGreatDoorC4B64
import Derived.Test.YtkpmalfigmimaaaGreatDoorC3M
import Derived.Test.YtkpmalfigmimaaaGreatDoorP1B32
import Derived.Deep.RegionHeld3
import Derived.Laws.Tables
import Derived.Great.Walk
import Derived.Test.YtkpmalfigmimaaaGreatDoorD2A
import Derived.BigQuiet
import Derived.Test.YtkpmalfigmimaaaGreatDoorQG
import Derived.Test.YtkpmalfigmimaaaGreatDoorFK
import Derived.Test.YtkpmalfigmimaaaGreatDoorT1B
import Derived.Test.YtkpmalfigmimaaaGreatDoorZ0
import Derived.Test.YtkpmalfigmimaaaGreatDoorC3B64
set_option linter.unusedVariables false
set_option linter.unusedSimpArgs false
set_option maxRecDepth 100000
set_option maxHeartbeats 8000000
namespace Go.Proofs.YtkpmalfigmimaaaGreatDoor
open Go.RowKit
open M
structure tG (n:Nat) (f:Nat→Nat) (q k:Nat) (bs:List Nat):Prop where
 lo:1≤k
 hi:k≤q
 is:jL k n f bs
 least:∀k' bs',1≤k'→k'≤q→jL k' n f bs'→bs.length<bs'.length∨(bs.length=bs'.length∧k≤k')
def tE (n:Nat) (f:Nat→Nat) (w:World) (e:Ending) (w':World):Prop:=
 ∃(k:Nat) (p:Option Addr) (c:Nat) (bs:List Nat),e= .returned (.tuple #[.int .i64 (k:Int),.slice p bs.length c,.int .i64 0])∧jW w' (.slice p bs.length c) bs∧(∀n∈bs,n<256)∧tG n f 6 k bs∧Below w.heap.size w w'
theorem qD7 (p:Option Addr) (n cap:Nat) (f:Nat→Nat) (w:World) (h:qZ w p n f) (hn:n≤4096) (hcap:n≤cap) (hf:∀i,i<n→f i<18446744073709551616) (hT:qT w):
  Calls Tryz.prog 70 #[.slice p n cap] w (tE n f w):=by
 have HAG:=qA (fun k w1 (hk1:1≤k) (hk6:k≤6) (hB:Below w.heap.size w w1)=>xX k p n cap f w1 hk1 hk6 (h.below hB) hn hcap hf (hT.below hB))
 have HA1:=qA (xX 1 p n cap f w (by omega) (by omega) h hn hcap hf hT)
 have HN1:Hid (∀w' e,cS 1 n f w e w'→∃(pu:Option Addr) (cu:Nat) (bs:List Nat),e= .returned (.tuple #[.slice pu bs.length cu,.int .i64 0])∧jW w' (.slice pu bs.length cu) bs∧(∀n∈bs,n<256)∧Below w.heap.size w w'∧tG n f 1 1 bs):=fun w' e hE=>by
  rcases hE with ⟨pu,cu,bs,h1,h2,h3,h4,h5,h6⟩|⟨_,_,h3⟩
  ·refine ⟨pu,cu,bs,h1,h2,h3,h4,Nat.le_refl _,Nat.le_refl _,h5,fun k' bs' hk1 hk2 hP=>?_⟩
   obtain rfl:k'=1:=by omega
   exact .inr ⟨by rw [h6 bs' hP],Nat.le_refl _⟩
  ·exfalso
   by_cases h0:n=0
   ·exact h3 [] ⟨hf,fun _=>rfl,fun h=>by omega⟩
   ·exact h3 _ ⟨hf,fun h=>absurd h h0,fun _=>⟨_,rfl,rfl⟩⟩
 clear h hf hT
 go_enter Tryz.func70,Tryz.ntmps70
 go_wp2_with fail
 refine HA1.out.mono ?_
 intro e w1 hE
 obtain ⟨pu,cu,bs,rfl,h2,h3,h4,h5⟩:=HN1.out w1 e hE
 have H1:=qA (And.intro h2 (And.intro h3 (And.intro h4 h5)))
 clear hE h2 h3 h4 h5 HN1 HA1
 go_wp2_with fail
 go_loopw [5,6,8] (fun t5 t6 t8 wr=>∃(q k:Nat) (pu:Option Addr) (cu:Nat) (bs:List Nat),t8= .int .i64 ((q:Int)+1)∧t5= .int .i64 (k:Int)∧t6= .slice pu bs.length cu∧Hid (q≤6∧jW wr (.slice pu bs.length cu) bs∧(∀n∈bs,n<256)∧tG n f q k bs∧Below w.heap.size w wr)) (fun _ _ t8 _=>7-(intOf t8).toNat)
 case atStart=>exact ⟨1,1,pu,cu,bs,rfl,rfl,rfl,by omega,H1.out.1,H1.out.2.1,H1.out.2.2.2,H1.out.2.2.1⟩
 case round=>
  obtain ⟨q,k,pu,cu,bs,rfl,rfl,rfl,hI⟩:=hrel
  by_cases hlt:q+1≤6
  ·have hle:(q:Int)+1≤6:=by omega
   have HQ:=qA (HAG.out (q+1) wr (by omega) hlt hI.out.2.2.2.2)
   rw [show (((q+1:Nat)):Int)=(q:Int)+1 from by simp] at HQ
   go_wp2_with fail
   refine HQ.out.mono ?_
   intro e w2 hE
   rcases hE with ⟨pv,cv,bv,rfl,h2,h3,h4,h5,h6⟩|⟨rfl,h2,h3⟩
   ·have HBB:Hid (Below w.heap.size w w2):=hI.out.2.2.2.2.trans (h4.mono hI.out.2.2.2.2.size)
    have HOLD:Hid (jW w2 (.slice pu bs.length cu) bs):=qD hI.out.2.1 h4
    by_cases hl:bv.length<bs.length
    ·have HN:Hid (tG n f (q+1) (q+1) bv):=by
      refine ⟨by omega,Nat.le_refl _,h5,fun k' bs' hk1 hk2 hP=>?_⟩
      by_cases e:k'=q+1
      ·subst e;exact .inr ⟨by rw [h6 bs' hP],Nat.le_refl _⟩
      ·rcases hI.out.2.2.2.1.least k' bs' hk1 (by omega) hP with h|h
       ·exact .inl (by omega)
       ·exact .inl (by omega)
     have HNB:=qA (And.intro h2 h3)
     clear h2 h3 h4 h5 h6
     go_wp2_with fail
     go_roundw
     case rel=>exact ⟨q+1,q+1,pv,cv,bv,by simp,by simp,by simp,hlt,HNB.out.1,HNB.out.2,HN.out,HBB.out⟩
     case measure=>simp [intOf];omega
    ·have HN:Hid (tG n f (q+1) k bs):=by
      have B:=hI.out.2.2.2.1
      refine ⟨B.lo,by have:=B.hi;omega,B.is,fun k' bs' hk1 hk2 hP=>?_⟩
      by_cases e:k'=q+1
      ·subst e
       rw [h6 bs' hP]
       have:=B.hi
       omega
      ·exact B.least k' bs' hk1 (by omega) hP
     have H3:=qA hI.out.2.2.1
     clear h2 h3 h4 h5 h6 hI
     go_wp2_with fail
     go_roundw
     case rel=>exact ⟨q+1,k,pu,cu,bs,by simp,by simp,by simp,hlt,HOLD.out,H3.out,HN.out,HBB.out⟩
     case measure=>simp [intOf];omega
   ·have HBB:Hid (Below w.heap.size w w2):=hI.out.2.2.2.2.trans (h2.mono hI.out.2.2.2.2.size)
    have HOLD:Hid (jW w2 (.slice pu bs.length cu) bs):=qD hI.out.2.1 h2
    have HN:Hid (tG n f (q+1) k bs):=by
     have B:=hI.out.2.2.2.1
     refine ⟨B.lo,by have:=B.hi;omega,B.is,fun k' bs' hk1 hk2 hP=>?_⟩
     by_cases e:k'=q+1
     ·subst e;exact (h3 bs' hP).elim
     ·exact B.least k' bs' hk1 (by omega) hP
    have H3:=qA hI.out.2.2.1
    clear h2 h3 hI
    go_wp2_with fail
    go_roundw
    case rel=>exact ⟨q+1,k,pu,cu,bs,by simp,by simp,by simp,hlt,HOLD.out,H3.out,HN.out,HBB.out⟩
    case measure=>simp [intOf];omega
  ·have hq:q=6:=by have:=hI.out.1;omega
   subst hq
   have HFIN:Hid (tE n f w (.returned (.tuple #[.int .i64 (k:Int),.slice pu bs.length cu,.int .i64 0])) wr):=⟨k,pu,cu,bs,rfl,hI.out.2.1,hI.out.2.2.1,hI.out.2.2.2.1,hI.out.2.2.2.2⟩
   go_wp2_with fail
   go_ret3
   exact HFIN.out
end Go.Proofs.YtkpmalfigmimaaaGreatDoor
namespace Go.Proofs.YtkpmalfigmimaaaGreatDoor
open Go.RowKit
open M
theorem dD (x:Nat) (w:World) (hx:x<18446744073709551616):Calls Tryz.prog 173 #[.int .u64 x] w fun e w'=>e= .returned (.int .i64 (bitLen x:Nat))∧w'=w:=by
 have HL:=qA (kZ x w hx)
 go_enter Tryz.func173,Tryz.ntmps173
 go_wp2_with fail
 refine HL.out.mono ?_
 rintro e w1 ⟨rfl,rfl⟩
 go_wp2_with fail
 go_ret
 exact ⟨rfl,rfl⟩
theorem uG (w:World):Calls Tryz.prog 168 #[] w fun e w'=>e= .returned (.int .i64 32)∧w'=w:=by
 have hx:bits BinOp.xor IntKind.u32 0 4294967295=4294967295:=by decide +kernel
 have HL:=qA (dD 4294967295 w (by omega))
 rw [show bitLen 4294967295=32 from by decide +kernel] at HL
 go_enter Tryz.func168,Tryz.ntmps168
 go_wp2_with fail
 refine HL.out.mono ?_
 rintro e w1 ⟨rfl,rfl⟩
 go_wp2_with fail
 go_ret
 exact ⟨rfl,rfl⟩
theorem kU (b off lo:Nat) (v:Nat) (w:World) (l:List Bool) (hW:Wr w lo b off l 0) (hb:b<lo) (hlo:lo≤w.heap.size) (hlen:l.length+32<1000000000000) (hv:v<4294967296):
  Calls Tryz.prog 150 #[.pointer (some ⟨b,off,none⟩),.int .u32 v] w fun e w'=>e= .returned (.tuple #[])∧Wr w' lo b off (l++bitsOf v 32) 0∧qJ b off (off+123) w w':=by
 have r0:IntKind.u64.wrap (v:Int)=(v:Int):=by rw [IntKind.wrap_u64];omega
 have HW:=qA hW
 clear hW
 go_enter Tryz.func150,Tryz.ntmps150
 go_wp2_with fail
 refine (uG _).mono ?_
 rintro e w1 ⟨rfl,rfl⟩
 go_wp2_with fail
 refine (qK b off lo 32 v _ l HW.out hb hlo hlen (by omega) (by omega) (by omega)).mono ?_
 rintro e w1 ⟨rfl,W1,O1⟩
 go_wp2_with fail
 go_end0
 exact ⟨rfl,W1,O1⟩
def qCZ (w:World) (b off:Nat) (s:ByteArray) (a:Nat) (e0:Int) (e:Ending) (w':World):Prop:=
 ∃(x a':Nat) (e1:Int),e= .returned (.int .u32 (x:Int))∧x<4294967296∧Tk w w' b off s a e0 a' e1 (bitsOf x 32)
theorem kM (b off:Nat) (s:ByteArray) (a:Nat) (e0:Int) (w:World) (h:Rd w b off s a e0):
  Calls Tryz.prog 132 #[.pointer (some ⟨b,off,none⟩)] w (qCZ w b off s a e0):=by
 have H:=qA h
 clear h
 go_enter Tryz.func132,Tryz.ntmps132
 go_wp2_with fail
 refine (uG _).mono ?_
 rintro e w1 ⟨rfl,rfl⟩
 go_wp2_with fail
 refine (kT b off s a 32 e0 _ H.out (by omega)).mono ?_
 rintro e w2 ⟨x,a',e1,rfl,hx,T⟩
 have HT:=qA T
 clear T
 have hx':x<4294967296:=by simpa using hx
 have r0:IntKind.u32.wrap (x:Int)=(x:Int):=by rw [IntKind.wrap_u32];omega
 go_wp2_with fail
 go_ret
 exact ⟨x,a',e1,rfl,hx',HT.out⟩
end Go.Proofs.YtkpmalfigmimaaaGreatDoor
namespace Go.Proofs.YtkpmalfigmimaaaGreatDoor
open Go.RowKit
open M
theorem kP (w:World):Calls Tryz.prog 186 #[] w fun e w'=>e= .returned (.bool false)∧w'=w:=by
 go_enter Tryz.func186,Tryz.ntmps186
 go_wp2_with fail
 refine (uG _).mono ?_
 rintro e w1 ⟨rfl,rfl⟩
 go_wp2_with fail
 go_ret
 exact ⟨rfl,rfl⟩
theorem fS (x:Nat) (w:World) (hx:x<4294967296):Calls Tryz.prog 156 #[.int .u32 x] w fun e w'=>e= .returned (.int .i64 (sgW 2147483648 4294967296 x))∧w'=w:=by
 have r0:IntKind.i32.wrap (x:Int)=sgW 2147483648 4294967296 x:=by rw [IntKind.wrap_i32];unfold sgW;split<;>omega
 have r1:IntKind.i64.wrap (sgW 2147483648 4294967296 x)=sgW 2147483648 4294967296 x:=by rw [IntKind.wrap_i64];unfold sgW;split<;>omega
 go_enter Tryz.func156,Tryz.ntmps156
 go_wp2_with fail
 refine (kP _).mono ?_
 rintro e w1 ⟨rfl,rfl⟩
 go_wp2_with fail
 go_ret
 exact ⟨rfl,rfl⟩
theorem vS (p:Option Addr) (n cap:Nat) (f:Nat→Nat) (w:World) (h:jC w p n f) (hn:n≤4096) (hcap:n≤cap) (hf:∀i,i<n→f i<4294967296):
  Calls Tryz.prog 137 #[.slice p n cap] w fun e w'=>e= .returned (.int .u32 (exS 4294967296 f n:Nat))∧∃m,w'=w.drewN m:=by
 match n with
 |0=>
  go_enter Tryz.func137,Tryz.ntmps137
  go_wp2_with fail
  go_ret
  exact ⟨rfl,0,rfl⟩
 |1=>
  obtain ⟨b,o,rfl,hc⟩:=h (by omega)
  have c0:w.cell? ⟨b,o,none⟩=some (.int .u32 (f 0:Int)):=hc 0 (by omega)
  have q0:(((1:Nat):Int)==0)=false:=by decide
  have q1:(((1:Nat):Int)==1)=true:=by decide
  go_enter Tryz.func137,Tryz.ntmps137
  go_wp2_with fail
  go_ret
  exact ⟨rfl,0,rfl⟩
 |k+2=>
  obtain ⟨b,o,rfl,hc⟩:=h (by omega)
  obtain ⟨x,hx⟩:∃x,f (k+1)=x:=⟨_,rfl⟩
  obtain ⟨y,hy⟩:∃y,f k=y:=⟨_,rfl⟩
  have c1:w.cell? ⟨b,o+(k+1),none⟩=some (.int .u32 (x:Int)):=by rw [←hx];exact hc (k+1) (by omega)
  have c0:w.cell? ⟨b,o+k,none⟩=some (.int .u32 (y:Int)):=by rw [←hy];exact hc k (by omega)
  have hxM:x<4294967296:=by rw [←hx];exact hf _ (by omega)
  have hyM:y<4294967296:=by rw [←hy];exact hf _ (by omega)
  have e1:exS 4294967296 f (k+2)=(2*x+4294967296-y)%4294967296:=by rw [exS,hx,hy]
  have e2:IntKind.u32.wrap (IntKind.u32.wrap (2*(x:Int))-(y:Int))=(((2*x+4294967296-y)%4294967296:Nat):Int):=by
   rw [IntKind.wrap_u32,IntKind.wrap_u32];omega
  have n0:(((k:Int)+2)==0)=false:=by rw [beq_eq_false_iff_ne];omega
  have n1:(((k:Int)+2)==1)=false:=by rw [beq_eq_false_iff_ne];omega
  rw [e1]
  have HX:=qA (And.intro hx hy)
  clear e1 hx hy hc h hf
  go_enter Tryz.func137,Tryz.ntmps137
  go_wp2_with fail
  go_quiet (fail)
  go_wp2_with fail
  go_ret
  exact ⟨by first|(rw [Int.natCast_emod];rfl)|rfl|(rw [←e2];rfl),_,rfl⟩
end Go.Proofs.YtkpmalfigmimaaaGreatDoor
namespace Go.Proofs.YtkpmalfigmimaaaGreatDoor
namespace Flt
open Ieee
end Flt
end Go.Proofs.YtkpmalfigmimaaaGreatDoor
namespace Go.Proofs.YtkpmalfigmimaaaGreatDoor
namespace Flt
open Ieee
end Flt
end Go.Proofs.YtkpmalfigmimaaaGreatDoor
namespace Go.Proofs.YtkpmalfigmimaaaGreatDoor
namespace Flt
open Ieee
section
variable (f : Format) (he : 1 ≤ f.exponentBits) (a b c : Nat)
include he
theorem mul_nan2 (h:f.infRung<rg f a∨f.infRung<rg f b):f.mul a b=none:=by
 have hi:=infRung_ge f he
 unfold Format.mul
 rcases h with h|h
 ·rw [read_nan f a hi h];rfl
 ·rw [read_nan f b hi h];cases f.read a<;>rfl
omit he in
theorem fin_zero (ha:rg f a<f.infRung):∃m k:Nat,f.read a= .number (sg f a) m (f.leastPlace+k)∧(m=0↔rg f a=0):=by
 obtain ⟨m,k,e1,e2,_⟩:=read_fin f a ha
 refine ⟨m,k,e1,fun h=>?_,fun h=>?_⟩
 ·rw [h,Nat.zero_mul] at e2
  exact V_inj (f:=f) (by rw [←e2,V_zero])
 ·rw [h,V_zero] at e2
  rcases Nat.mul_eq_zero.1 e2 with h|h
  ·exact h
  ·have:=Nat.two_pow_pos k;omega
theorem div_nan2 (h:f.infRung<rg f a∨f.infRung<rg f b):f.div a b=none:=by
 have hi:=infRung_ge f he
 unfold Format.div
 rcases h with h|h
 ·rw [read_nan f a hi h];rfl
 ·rw [read_nan f b hi h];cases f.read a<;>rfl
theorem div_inf_fin (ha:rg f a=f.infRung) (hb:rg f b<f.infRung):f.div a b=some (f.word (sg f a^^sg f b) f.infRung):=by
 have hi:=infRung_ge f he
 obtain ⟨n,l,e3,e4⟩:=fin_zero f b hb
 unfold Format.div
 rw [read_inf f a hi ha,e3];rfl
omit he in
theorem div_fin_zero (ha:rg f a<f.infRung) (hb:rg f b<f.infRung) (hb0:rg f b=0):f.div a b=if rg f a=0 then none else some (f.word (sg f a^^sg f b) f.infRung):=by
 obtain ⟨m,k,e1,e2⟩:=fin_zero f a ha
 obtain ⟨n,l,e3,e4⟩:=fin_zero f b hb
 unfold Format.div
 rw [e1,e3]
 simp only [Datum.quotient,if_pos (e4.2 hb0),e2]
 split<;>rfl
end
end Flt
end Go.Proofs.YtkpmalfigmimaaaGreatDoor
namespace Go.Proofs.YtkpmalfigmimaaaGreatDoor
open Go.RowKit
open Flt
theorem qDB (b t:Nat):mZ (Question.cut (.nanConv .f64 b) t):=qJB 0 0 t
theorem cM (b:Nat) (h:2139095040<b%2147483648) (w:World):∃nb,mZ nb∧(convert 110 72 (.float .f32 b)).run Tryz.prog w= .ok (.float .f64 nb) w.drew:=by
 refine ⟨Question.cut (.nanConv .f64 b) (w.tape w.drawn (.nanConv .f64 b)),qDB _ _,?_⟩
 have hd:FloatKind.f32.decode b= .nan (sg Ieee.single b) (rg Ieee.single b-Ieee.single.infRung):=read_nan Ieee.single b (by decide) (by rw [qLB,qDH];exact h)
 have hs:Tryz.prog.underlying 110=some (.float .f32):=by kernel_rfl
 have ht:Tryz.prog.underlying 72=some (.float .f64):=by kernel_rfl
 simp [convert,run_underlying hs,run_underlying ht,Conv.floatToFloat,hd,Question.forced]
theorem sY (b:Nat) (w:World) (h:2139095040<b%2147483648):Calls Tryz.prog 35 #[.int .u32 b] w fun e w'=>∃x,mZ x∧e= .returned (.float .f64 x)∧w'=w.drew:=by
 have hf:=dH b
 obtain ⟨nb,hnb,hcv⟩:=cM b h w
 have HN:=jG hnb
 clear hnb h
 go_enter Tryz.func35,Tryz.ntmps35
 go_wp2_with fail
 refine (vI _).mono ?_
 rintro e w1 ⟨rfl,rfl⟩
 go_wp2_with (simp only [hf,hcv])
 go_ret
 exact ⟨nb,HN.out,rfl,rfl⟩
def tA (a:Nat):Nat:=if 2139095040<a%2147483648 then 9221120237041090560 else (floatToFloatBits .f32 a .f64).getD 0
def tV (a x:Nat):Prop:=x<18446744073709551616∧(2139095040<a%2147483648→9218868437227405312<x%9223372036854775808)∧(a%2147483648≤2139095040→x=tA a)
theorem yB (a:Nat) (w:World) (ha:a<4294967296):Calls Tryz.prog 35 #[.int .u32 a] w fun e w'=>∃x,tV a x∧e= .returned (.float .f64 x)∧Below w.heap.size w w':=by
 by_cases h:2139095040<a%2147483648
 ·refine (sY a w h).mono ?_
  rintro e w' ⟨x,hx,rfl,rfl⟩
  exact ⟨x,⟨hx.2,fun _=>hx.1,fun h'=>by omega⟩,rfl,(Below.refl _ _).drew⟩
 ·obtain ⟨x,x1,x2,x3,x4,x5,x6,x7⟩:=uY a ha (by omega)
  refine (bW a x w x1).mono ?_
  rintro e w' ⟨rfl,rfl⟩
  exact ⟨x,⟨x2,fun h'=>absurd h' h,fun _=>by unfold tA;rw [if_neg h,x1];rfl⟩,rfl,Below.refl _ _⟩
def qA4:Option Nat→Nat
 |some r=>kS r
 |none=>2143289344
theorem bQ {o:Option Nat} {r:Nat} (h:o=some r) (hr:r%9223372036854775808≤9218868437227405312):sL r=qA4 o:=by rw [h,wV r hr];rfl
def bJ (a b:Nat):Nat:=qA4 (Ieee.double.mul (tA a) (tA b))
def dF (a b:Nat):Nat:=qA4 (Ieee.double.div (tA a) (tA b))
theorem mW {a:Nat} (h:2139095040<a%2147483648):Ieee.double.infRung<rg Ieee.double (tA a):=by
 unfold tA;rw [if_pos h,xF,jM];omega
theorem qI1 (a b x y:Nat) (ha:a<4294967296) (hb:b<4294967296) (hx:tV a x) (hy:tV b y):qA4 (Ieee.double.mul x y)=bJ a b:=by
 unfold bJ
 by_cases na:2139095040<a%2147483648
 ·rw [mul_nan2 _ (by decide) x y (.inl (by rw [xF,jM];exact hx.2.1 na)),mul_nan2 _ (by decide) _ _ (.inl (mW na))]
 ·by_cases nb:2139095040<b%2147483648
  ·rw [mul_nan2 _ (by decide) x y (.inr (by rw [xF,jM];exact hy.2.1 nb)),mul_nan2 _ (by decide) _ _ (.inr (mW nb))]
  ·rw [hx.2.2 (by omega),hy.2.2 (by omega)]
theorem qI0 (a b x y:Nat) (ha:a<4294967296) (hb:b<4294967296) (hx:tV a x) (hy:tV b y):qA4 (Ieee.double.div x y)=dF a b:=by
 unfold dF
 by_cases na:2139095040<a%2147483648
 ·rw [div_nan2 _ (by decide) x y (.inl (by rw [xF,jM];exact hx.2.1 na)),div_nan2 _ (by decide) _ _ (.inl (mW na))]
 ·by_cases nb:2139095040<b%2147483648
  ·rw [div_nan2 _ (by decide) x y (.inr (by rw [xF,jM];exact hy.2.1 nb)),div_nan2 _ (by decide) _ _ (.inr (mW nb))]
  ·rw [hx.2.2 (by omega),hy.2.2 (by omega)]
theorem cX (a b:Nat) (w:World) (ha:a<4294967296) (hb:b<4294967296):Calls Tryz.prog 175 #[.int .u32 a,.int .u32 b] w fun e w'=>e= .returned (.int .u32 (bJ a b:Nat))∧Below w.heap.size w w':=by
 have HV:=jG (And.intro (fun w=>yB a w ha) (fun w=>yB b w hb))
 have HE:=jG (fun x y hx hy=>qI1 a b x y ha hb hx hy)
 clear ha hb
 generalize bJ a b=out at*
 go_enter Tryz.func175,Tryz.ntmps175
 go_wp2_with fail
 refine (HV.out.1 _).mono ?_
 rintro e w1 ⟨x,hx,rfl,hb1⟩
 have H1:=jG (And.intro hx hb1)
 clear hx hb1
 go_wp2_with fail
 refine (HV.out.2 _).mono ?_
 rintro e w2 ⟨y,hy,rfl,hb2⟩
 have HT:=jG (HE.out x y H1.out.1 hy)
 have H2:=jG (H1.out.2.trans (hb2.mono H1.out.2.size))
 clear hy hb2 H1
 have hs:floatBits .mul .f64 x y=Ieee.double.mul x y:=rfl
 cases ho:Ieee.double.mul x y with
 |none=>
  rw [ho] at hs HT
  obtain ⟨nb,hnb,hadd⟩:=sO .mul (by simp) 72 x y hs w2
  go_wp2_with (simp only [hadd])
  refine (zQ nb _ hnb.2).mono ?_
  rintro e w3 ⟨rfl,hb3⟩
  rw [bP nb hnb.1]
  have H3:=jG (H2.out.drew.trans (hb3.mono H2.out.size))
  clear hb3
  go_wp2_with fail
  go_ret
  exact ⟨by rw [←HT.out];rfl,H3.out⟩
 |some r=>
  rw [ho] at hs HT
  obtain ⟨hr1,hr2⟩:=pW hs
  have hadd:=fun w:World=>run_float_arith (P:=Tryz.prog) w .mul 72 .f64 x y r hs
  have HP:=jG (fun w:World=>zQ r w hr2)
  rw [bQ rfl hr1,HT.out] at HP
  clear hr1 hr2 hs ho
  go_wp2_with (simp only [hadd])
  refine (HP.out _).mono ?_
  rintro e w3 ⟨rfl,hb3⟩
  go_wp2_with fail
  go_ret
  exact ⟨rfl,H2.out.trans (hb3.mono H2.out.size)⟩
theorem rR (x y:Nat) (hx:x<18446744073709551616) (hy:y<18446744073709551616) (h0:y%9223372036854775808=0):sL (byN x (decide (9223372036854775808≤y)))=qA4 (Ieee.double.div x y):=by
 have hn:sL 9221120237041090561=2143289344:=by unfold sL;rw [if_pos (by omega)]
 unfold byN
 have fy:rg Ieee.double y<Ieee.double.infRung:=by rw [xF,jM,h0];omega
 have zy:rg Ieee.double y=0:=by rw [xF];exact h0
 have key:∀s t:Bool,sL (if s=t then 9218868437227405312 else 18442240474082181120)=qA4 (some (Ieee.double.word (s^^t) Ieee.double.infRung)):=by
  intro s t
  have hp:∀q:Bool,sL (Ieee.double.word q Ieee.double.infRung)=kS (Ieee.double.word q Ieee.double.infRung):=fun q=>by
   refine wV _ ?_
   have:=rg_word Ieee.double q _ Ieee.double.infRung_lt
   rw [xF,jM] at this
   rw [jM,this];omega
  show _=kS _
  rw [←hp]
  cases s<;>cases t<;>(refine congrArg _ ?_;decide +kernel)
 rcases Nat.lt_trichotomy (x%9223372036854775808) 9218868437227405312 with h|h|h
 ·have fx:rg Ieee.double x<Ieee.double.infRung:=by rw [xF,jM];exact h
  rw [div_fin_zero _ x y fx fy zy,qIK x hx,qIK y hy,xF]
  by_cases hz:x%9223372036854775808=0
  ·rw [if_pos (.inr hz),if_pos hz,hn];rfl
  ·rw [if_neg (by omega),if_neg hz]
   exact key _ _
 ·rw [div_inf_fin _ (by decide) x y (by rw [xF,jM];exact h) fy,qIK x hx,qIK y hy,if_neg (by omega)]
  exact key _ _
 ·rw [div_nan2 _ (by decide) x y (.inl (by rw [xF,jM];exact h)),if_pos (.inl h),hn];rfl
theorem qCT (a b:Nat) (w:World) (ha:a<4294967296) (hb:b<4294967296):Calls Tryz.prog 176 #[.int .u32 a,.int .u32 b] w fun e w'=>e= .returned (.int .u32 (dF a b:Nat))∧Below w.heap.size w w':=by
 have HV:=jG (And.intro (fun w=>yB a w ha) (fun w=>yB b w hb))
 have HE:=jG (fun x y hx hy=>qI0 a b x y ha hb hx hy)
 clear ha hb
 generalize dF a b=out at*
 go_enter Tryz.func176,Tryz.ntmps176
 go_wp2_with fail
 refine (HV.out.1 _).mono ?_
 rintro e w1 ⟨x,hx,rfl,hb1⟩
 have H1:=jG (And.intro hx hb1)
 clear hx hb1
 go_wp2_with fail
 refine (HV.out.2 _).mono ?_
 rintro e w2 ⟨y,hy,rfl,hb2⟩
 have HT:=jG (HE.out x y H1.out.1 hy)
 have HB:=jG (And.intro H1.out.1.1 hy.1)
 have H2:=jG (H1.out.2.trans (hb2.mono H1.out.2.size))
 clear hy hb2 H1
 have hz:FloatKind.f64.format.order y 0=_:=uL y
 by_cases h0:y%9223372036854775808=0
 ·rw [if_neg (by omega),if_pos h0] at hz
  have hd:=rR x y HB.out.1 HB.out.2 h0
  rw [HT.out] at hd
  have HS:=jG (fun w:World=>vW y w HB.out.2)
  have hbl:byN x (decide (9223372036854775808≤y))<18446744073709551616:=by unfold byN;split;omega;split<;>omega
  have HBy:=jG (fun w:World=>pS x (decide (9223372036854775808≤y)) w HB.out.1)
  have HP:=jG (fun w:World=>zQ _ w hbl)
  rw [hd] at HP
  generalize decide (9223372036854775808≤y)=t at*
  generalize byN x t=z at*
  clear h0 hd hbl
  go_wp2_with (simp only [hz])
  refine (HS.out _).mono ?_
  rintro e w3 ⟨rfl,hw1⟩
  have hw1:=hw1.symm
  subst hw1
  go_wp2_with fail
  refine (HBy.out _).mono ?_
  rintro e w3 ⟨rfl,hw1⟩
  have hw1:=hw1.symm
  subst hw1
  go_wp2_with fail
  refine (HP.out _).mono ?_
  rintro e w3 ⟨rfl,hb3⟩
  go_wp2_with fail
  go_ret
  exact ⟨rfl,H2.out.trans (hb3.mono H2.out.size)⟩
 ·rw [if_neg h0] at hz
  have hz':FloatKind.f64.format.order y 0=none∨FloatKind.f64.format.order y 0=some .lt∨FloatKind.f64.format.order y 0=some .gt:=by
   rw [hz];split
   ·simp
   ·cases sg Ieee.double y<;>simp
  clear hz h0
  have hs:floatBits .quo .f64 x y=Ieee.double.div x y:=rfl
  cases ho:Ieee.double.div x y with
  |none=>
   rw [ho] at hs HT
   obtain ⟨nb,hnb,hadd⟩:=sO .quo (by simp) 72 x y hs w2
   rcases hz' with hz|hz|hz
   all_goals
    go_wp2_with (simp only [hadd,hz])
    refine (zQ nb _ hnb.2).mono ?_
    rintro e w3 ⟨rfl,hb3⟩
    rw [bP nb hnb.1]
    have H3:=jG (H2.out.drew.trans (hb3.mono H2.out.size))
    clear hb3
    go_wp2_with fail
    go_ret
    exact ⟨by rw [←HT.out];rfl,H3.out⟩
  |some r=>
   rw [ho] at hs HT
   obtain ⟨hr1,hr2⟩:=pW hs
   have hadd:=fun w:World=>run_float_arith (P:=Tryz.prog) w .quo 72 .f64 x y r hs
   have HP:=jG (fun w:World=>zQ r w hr2)
   rw [bQ rfl hr1,HT.out] at HP
   clear hr1 hr2 hs ho
   rcases hz' with hz|hz|hz
   all_goals
    go_wp2_with (simp only [hadd,hz])
    refine (HP.out _).mono ?_
    rintro e w3 ⟨rfl,hb3⟩
    go_wp2_with fail
    go_ret
    exact ⟨rfl,H2.out.trans (hb3.mono H2.out.size)⟩
end Go.Proofs.YtkpmalfigmimaaaGreatDoor
namespace Go.Proofs.YtkpmalfigmimaaaGreatDoor
open Go.RowKit
open M
def wdC (f:Nat):Nat:=if 2139095040<f%2147483648 then xT f else tA f
theorem qKY (f:Nat) (hf:f<4294967296):wdC f<18446744073709551616:=by
 unfold wdC
 split
 ·unfold xT;omega
 ·rename_i h
  unfold tA
  rw [if_neg h]
  obtain ⟨x,x1,x2,_⟩:=uY f hf (by omega)
  rw [x1];exact x2
theorem qE4 (f:Nat) (w:World) (hf:f<4294967296):Calls Tryz.prog 20 #[.int .u32 f] w fun e w'=>e= .returned (.int .u64 (wdC f:Nat))∧Below w.heap.size w w':=by
 by_cases h:2139095040<f%2147483648
 ·have e:wdC f=xT f:=if_pos h
  rw [e];exact tW f w hf h
 ·obtain ⟨x,x1,x2,x3,_⟩:=uY f hf (by omega)
  have e:wdC f=x:=by unfold wdC tA;rw [if_neg h,if_neg h,x1];rfl
  rw [e];exact tX f x w hf h x1 x2 x3
def bL (v:Nat):Option Int:=xE (wdC v)
def F32:Dm:=⟨bJ,dF,fun k=>floatOfInt .f32 k,bL,10,999999⟩
theorem fD {v:Nat} {k:Int} (h:bL v=some k): -9223372036854775808≤k∧k≤9223372036854775807:=pX h
theorem qCL (x:Option Nat) (h:∀r,x=some r→r<18446744073709551616):qA4 x<4294967296:=by
 cases x with
 |none=>show 2143289344<_;omega
 |some r=>have:=h r rfl;show kS r<_;unfold kS;omega
theorem cT (a b:Nat):F32.mul a b<4294967296:=qCL _ fun r hr=>(pW (op:= .mul) (a:=tA a) (b:=tA b) (show floatBits .mul .f64 (tA a) (tA b)=some r from hr)).2
theorem qCU (a b:Nat):F32.div a b<4294967296:=qCL _ fun r hr=>(pW (op:= .quo) (a:=tA a) (b:=tA b) (show floatBits .quo .f64 (tA a) (tA b)=some r from hr)).2
theorem qFM (s:Bool) (m:Nat) (p:Int):Ieee.single.nearest s m p<4294967296:=by
 rw [Flt.nearest_rnd]
 have h:∀r,r≤2139095040→Ieee.single.word s r<4294967296:=fun r hr=>by
  cases s
  ·show r<_;omega
  ·show Ieee.single.signWeight+r<_;rw [show Ieee.single.signWeight=2147483648 from by decide +kernel];omega
 refine h _ ?_
 rw [show Ieee.single.infRung=2139095040 from by decide +kernel]
 exact Nat.min_le_right _ _
theorem uW (n:Int):F32.int n<4294967296:=by
 show floatOfInt .f32 n<4294967296
 have h:∃s m p,floatOfInt .f32 n=Ieee.single.nearest s m p:=⟨_,_,_,rfl⟩
 obtain ⟨s,m,p,h⟩:=h
 rw [h]
 exact qFM s m p
theorem gR (p:Nat):F32.pow p<4294967296:=by
 cases p with
 |zero=>exact uW 1
 |succ p=>exact cT _ _
theorem rT (n:Int) (w:World):Calls Tryz.prog 204 #[.int .i64 n] w fun e w'=>e= .returned (.int .u32 (floatOfInt .f32 n:Nat))∧w'=w:=by
 have hcv:=fun w:World=>run_convert_int_float (P:=Tryz.prog) w 2 110 .i64 .f32 n (by kernel_rfl) (by kernel_rfl)
 generalize floatOfInt .f32 n=x at*
 have ht:=qCM x
 go_enter Tryz.func204,Tryz.ntmps204
 go_wp2_with (simp only [hcv,ht])
 go_ret
 exact ⟨rfl,rfl⟩
theorem yT (n:Int) (w:World):Calls Tryz.prog 174 #[.int .i64 n] w fun e w'=>e= .returned (.int .u32 (F32.int n:Nat))∧w'=w:=by
 have HF:=qA (rT n w)
 have hl:=uW n
 change Calls _ _ _ _ fun e w'=>e= .returned (.int .u32 (floatOfInt .f32 n:Nat))∧w'=w
 change floatOfInt .f32 n<4294967296 at hl
 generalize floatOfInt .f32 n=x at*
 have r0:IntKind.u32.wrap (x:Int)=(x:Int):=by rw [IntKind.wrap_u32];omega
 go_enter Tryz.func174,Tryz.ntmps174
 go_wp2_with fail
 refine (kP _).mono ?_
 rintro e w1 ⟨rfl,rfl⟩
 go_wp2_with fail
 refine HF.out.mono ?_
 rintro e w2 ⟨rfl,rfl⟩
 go_wp2_with fail
 go_ret
 exact ⟨rfl,rfl⟩
theorem wS (v:Nat) (w:World) (hv:v<4294967296):Calls Tryz.prog 213 #[.int .u32 v] w fun e w'=>e= .returned (nwV (bL v))∧Below w.heap.size w w':=by
 have HW:=qA (qE4 v w hv)
 have r0:IntKind.u32.wrap (v:Int)=(v:Int):=by rw [IntKind.wrap_u32];omega
 have r1:IntKind.u64.wrap (v:Int)=(v:Int):=by rw [IntKind.wrap_u64];omega
 have hx:=qKY v hv
 unfold bL
 generalize wdC v=x at*
 by_cases h:x%9223372036854775808<9218868437227405312∧-9223372036854775808≤wz 1074 0 x∧wz 1074 0 x<9223372036854775808
 ·have e0:xE x=some (wz 1074 0 x):=by unfold xE;rw [if_pos h]
  have HT:=qA (fun w:World=>qC3 1074 rfl x 0 w hx (by omega) h.1 h.2.1 h.2.2)
  rw [e0]
  clear e0 h
  generalize wz 1074 0 x=z at*
  go_enter Tryz.func213,Tryz.ntmps213
  go_wp2_with fail
  refine (kP _).mono ?_
  rintro e w1 ⟨rfl,h1⟩
  have h1:=h1.symm
  subst h1
  go_wp2_with fail
  refine HW.out.mono ?_
  rintro e w1 ⟨rfl,B1⟩
  have HB1:=qA B1
  clear B1
  go_wp2_with fail
  refine (HT.out _).mono ?_
  rintro e w2 ⟨rfl,B2⟩
  have HB:Hid (Below w.heap.size w w2):=HB1.out.trans (B2.mono HB1.out.size)
  clear B2
  go_wp2_with fail
  go_ret2
  exact ⟨rfl,HB.out⟩
 ·have e0:xE x=none:=by unfold xE;rw [if_neg h]
  have HT:=qA (fun w:World=>tU 1074 rfl x 0 w hx (by omega) h)
  rw [e0]
  clear e0 h
  go_enter Tryz.func213,Tryz.ntmps213
  go_wp2_with fail
  refine (kP _).mono ?_
  rintro e w1 ⟨rfl,h1⟩
  have h1:=h1.symm
  subst h1
  go_wp2_with fail
  refine HW.out.mono ?_
  rintro e w1 ⟨rfl,B1⟩
  have HB1:=qA B1
  clear B1
  go_wp2_with fail
  refine (HT.out _).mono ?_
  rintro e w2 ⟨rfl,B2⟩
  have HB:Hid (Below w.heap.size w w2):=HB1.out.trans (B2.mono HB1.out.size)
  clear B2
  go_wp2_with fail
  go_ret2
  exact ⟨rfl,HB.out⟩
theorem uI (w:World):Calls Tryz.prog 214 #[] w fun e w'=>e= .returned (.int .i64 999999)∧w'=w:=by
 go_enter Tryz.func214,Tryz.ntmps214
 go_wp2_with fail
 refine (kP _).mono ?_
 rintro e w1 ⟨rfl,rfl⟩
 go_wp2_with fail
 go_ret
 exact ⟨rfl,rfl⟩
theorem xO (w:World):Calls Tryz.prog 188 #[] w fun e w'=>e= .returned (.int .i64 10)∧w'=w:=by
 go_enter Tryz.func188,Tryz.ntmps188
 go_wp2_with fail
 refine (kP _).mono ?_
 rintro e w1 ⟨rfl,rfl⟩
 go_wp2_with fail
 go_ret
 exact ⟨rfl,rfl⟩
def vL (p:Nat):Value:= .agg #[.int .i64 (p:Int),.int .u32 (F32.pow p:Int)]
theorem wY (p:Nat) (w:World) (hp:p≤1000):Calls Tryz.prog 139 #[.int .i64 p] w fun e w'=>e= .returned (vL p)∧Below w.heap.size w w':=by
 have HM:=qA (fun (a b:Nat) (w:World) (ha:a<4294967296) (hb:b<4294967296)=>cX a b w ha hb)
 have hI1:=yT 1
 have hI10:=yT 10
 obtain ⟨g,hg⟩:∃g,w.heap.size=g:=⟨_,rfl⟩
 have HG:=qA hg
 have HI:=qA (And.intro hI1 hI10)
 clear hI1 hI10
 have HA:Hid (Below g w (w.alloc (.cells #[.int .i64 0,.int .u32 0] 181))∧(w.alloc (.cells #[.int .i64 0,.int .u32 0] 181)).heap[g]?=some (.cells #[.int .i64 0,.int .u32 0] 181 (0,0))):=by
  rw [←hg];exact ⟨(Below.refl _ w).alloc (Nat.le_refl _) _,heap_alloc_new w _⟩
 go_enter Tryz.func139,Tryz.ntmps139
 go_upto_region 1 with fail
 (try rw [hg])
 clear hg
 generalize w.alloc (.cells #[.int .i64 0,.int .u32 0] 181)=W1 at*
 go_wp2_with fail
 refine (HI.out.1 _).mono ?_
 rintro e w1 ⟨rfl,h1⟩
 have h1:=h1.symm
 subst h1
 go_wp2_with fail
 refine (HI.out.2 _).mono ?_
 rintro e w1 ⟨rfl,h1⟩
 have h1:=h1.symm
 subst h1
 obtain ⟨TEN,hTEN⟩:∃t,F32.int 10=t:=⟨_,rfl⟩
 rw [hTEN]
 have HTEN:=qA hTEN
 clear hTEN
 go_wp2_with fail
 go_loopw [3,8] (fun t3 t8 wr=>∃k:Nat,t8= .int .i64 (k:Int)∧t3= .int .u32 ((F32.pow k:Nat):Int)∧Hid (k≤p∧Below g w wr∧wr.heap[g]?=some (.cells #[.int .i64 0,.int .u32 0] 181 (0,0)))) (fun _ t8 _=>p-(intOf t8).toNat)
 case atStart=>exact ⟨0,rfl,rfl,Nat.zero_le _,HA.out.1,HA.out.2⟩
 case round=>
  obtain ⟨k,rfl,rfl,hI⟩:=hrel
  by_cases hlt:k<p
  ·have HE:Hid (bJ (F32.pow k) TEN=F32.pow (k+1)):=by rw [←HTEN.out];rfl
   obtain ⟨P,hP⟩:∃P,F32.pow k=P:=⟨_,rfl⟩
   have hPl:P<4294967296:=by rw [←hP];exact gR k
   have hTl:TEN<4294967296:=by rw [←HTEN.out];exact uW 10
   rw [hP] at HE⊢
   clear hP
   go_wp2_with fail
   refine (HM.out P TEN wr hPl hTl).mono ?_
   rintro e w2 ⟨rfl,B2⟩
   rw [HE.out]
   have HB2:Hid (Below g w w2∧w2.heap[g]?=some (.cells #[.int .i64 0,.int .u32 0] 181 (0,0))):=by
    have h1:=qB hI.out.2.2
    exact ⟨hI.out.2.1.trans (B2.mono (by omega)),by rw [B2.block g h1];exact hI.out.2.2⟩
   clear B2
   go_wp2_with fail
   go_roundw
   case rel=>exact ⟨k+1,by simp,rfl,hlt,HB2.out.1,HB2.out.2⟩
   case measure=>simp [intOf];omega
  ·have hk:k=p:=by have:=hI.out.1;omega
   subst hk
   have c0:wr.cell? ⟨g,0,none⟩=some (.int .i64 0):=cell_of_row _ _ 0 _ _ _ hI.out.2.2
   have c1:wr.cell? ⟨g,1,none⟩=some (.int .u32 0):=cell_of_row _ _ 1 _ _ _ hI.out.2.2
   have f0:=froz hI.out.2.2 0
   have f1:=froz hI.out.2.2 1
   obtain ⟨P,hP⟩:∃P,F32.pow k=P:=⟨_,rfl⟩
   rw [hP]
   have HP:=qA hP
   clear hP
   go_wp2_with fail
   obtain ⟨fs,hu⟩:=yM (show Tryz.prog.underlying 181=Tryz.prog.underlying 181 from rfl) (by kernel_rfl)
   have hrow:((wr.setCell ⟨g,0,none⟩ (.int .i64 (k:Int))).setCell ⟨g,1,none⟩ (.int .u32 (P:Int))).heap[g]?=some (.cells #[.int .i64 (k:Int),.int .u32 (P:Int)] 181 (0,0)):=by
    have h1:=heap_setCell_same wr g 0 _ _ (.int .i64 (k:Int)) hI.out.2.2
    have h2:=heap_setCell_same _ g 1 _ _ (.int .u32 (P:Int)) h1
    exact h2
   refine bodyPost_ret (results_cell_row rfl _ _ g _ _ (0,0) (.struct fs) rfl hrow hu rfl (by kernel_rfl)) rfl ?_
   refine ⟨by rw [vL,HP.out],?_⟩
   have h1:=hI.out.2.1
   rw [HG.out]
   exact (h1.setCell (p:=⟨g,0,none⟩) (Nat.le_refl _) _).setCell (p:=⟨g,1,none⟩) (Nat.le_refl _) _
theorem gL (p:Nat) (k:Int) (w:World):Calls Tryz.prog 141 #[vL p,.int .i64 k] w fun e w'=>e= .returned (.int .u32 (F32.val p k:Nat))∧Below w.heap.size w w':=by
 have HD:=qA (fun (w:World)=>qCT (F32.int k) (F32.pow p) w (uW k) (gR p))
 have HF:=qA (fun (w:World)=>yT k w)
 have ev:dF (F32.int k) (F32.pow p)=F32.val p k:=rfl
 rw [ev] at HD
 clear ev
 unfold vL
 generalize F32.val p k=out at*
 generalize F32.int k=I at*
 generalize F32.pow p=P at*
 obtain ⟨g,hg⟩:∃g,w.heap.size=g:=⟨_,rfl⟩
 obtain ⟨W1,hW1⟩:∃W1,W1=w.alloc (.cells #[.int .i64 (p:Int),.int .u32 (P:Int)] 181):=⟨_,rfl⟩
 have hB1:Below g w W1:=by rw [hW1,←hg];exact (Below.refl _ w).alloc (Nat.le_refl _) _
 have hr1:W1.heap[g]?=some (.cells #[.int .i64 (p:Int),.int .u32 (P:Int)] 181 (0,0)):=by rw [hW1,←hg];exact heap_alloc_new w _
 have c0:W1.drew.cell? ⟨g,1,none⟩=some (.int .u32 (P:Int)):=cell_of_row W1.drew g 1 _ _ _ hr1
 have HB:Hid (Below g w W1.drew):=⟨hB1.os,hB1.tape,hB1.output,hB1.size,hB1.block⟩
 have HGG:=qA hg
 have HS:Hid (g≤W1.drew.heap.size):=by have:=qB hr1;exact Nat.le_of_lt this
 clear hB1 hr1
 go_enter Tryz.func141,Tryz.ntmps141
 go_wp2_with fail
 (try rw [hg])
 (try rw [←hW1])
 clear hW1 hg
 go_region_held3 (fun w'=>w'.cell? ⟨g,1,none⟩=some (.int .u32 (P:Int))) (exact c0)
  (first|(go_at_call 174;go_must (refine (HF.out _).mono ?_);rintro _ w5 ⟨rfl,hw5⟩;have hw5:=hw5.symm;subst hw5)|(go_at_call 176;go_must (refine (HD.out _).mono ?_);rintro _ w6 ⟨rfl,B6⟩;have HB6:Hid (Below g w w6):=(HB.out.trans (B6.mono HS.out));have c0:w6.cell? ⟨g,1,none⟩=some (.int .u32 (P:Int)):=(by rw [B6.cell (p:=⟨g,1,none⟩) (block_lt_of_cell c0)];exact c0);clear B6))
 all_goals
  go_wp2_with fail
  go_ret
  exact ⟨rfl,by rw [HGG.out];exact HB6.out⟩
end Go.Proofs.YtkpmalfigmimaaaGreatDoor
