import Derived.Test.YtkpmalfigmimaaaGreatDoorC3M
import Derived.Test.YtkpmalfigmimaaaGreatDoorP1B32
import Derived.Deep.RegionHeld3
import Derived.Laws.Tables
import Derived.Great.Walk
import Derived.Test.YtkpmalfigmimaaaGreatDoorP1J32
import Derived.BigQuiet
import Derived.Test.YtkpmalfigmimaaaGreatDoorFK
import Derived.Test.YtkpmalfigmimaaaGreatDoorT1B
set_option linter.unusedVariables false
set_option linter.unusedSimpArgs false
set_option maxRecDepth 100000
set_option maxHeartbeats 8000000
namespace Go.Proofs.YtkpmalfigmimaaaGreatDoor
open Go.RowKit
open M
theorem dE (x:Nat) (w:World) (hx:x<18446744073709551616):Calls Tryz.prog 173 #[.int .u64 x] w fun e w'=>e= .returned (.int .i64 (bitLen x:Nat))∧w'=w:=by
 have HL:=qA (kZ x w hx)
 go_enter Tryz.func173,Tryz.ntmps173
 go_wp2_with fail
 refine HL.out.mono ?_
 rintro e w1 ⟨rfl,rfl⟩
 go_wp2_with fail
 go_ret
 exact ⟨rfl,rfl⟩
theorem uH (w:World):Calls Tryz.prog 177 #[] w fun e w'=>e= .returned (.int .i64 64)∧w'=w:=by
 have hx:bits BinOp.xor IntKind.u64 0 18446744073709551615=18446744073709551615:=by decide +kernel
 have HL:=qA (dE 18446744073709551615 w (by omega))
 rw [show bitLen 18446744073709551615=64 from by decide +kernel] at HL
 go_enter Tryz.func177,Tryz.ntmps177
 go_wp2_with fail
 refine HL.out.mono ?_
 rintro e w1 ⟨rfl,rfl⟩
 go_wp2_with fail
 go_ret
 exact ⟨rfl,rfl⟩
theorem kV (b off lo:Nat) (v:Nat) (w:World) (l:List Bool) (hW:Wr w lo b off l 0) (hb:b<lo) (hlo:lo≤w.heap.size) (hlen:l.length+64<1000000000000) (hv:v<18446744073709551616):
  Calls Tryz.prog 160 #[.pointer (some ⟨b,off,none⟩),.int .u64 v] w fun e w'=>e= .returned (.tuple #[])∧Wr w' lo b off (l++bitsOf v 64) 0∧qJ b off (off+123) w w':=by
 have r0:IntKind.u64.wrap (v:Int)=(v:Int):=by rw [IntKind.wrap_u64];omega
 have HW:=qA hW
 clear hW
 go_enter Tryz.func160,Tryz.ntmps160
 go_wp2_with fail
 refine (uH _).mono ?_
 rintro e w1 ⟨rfl,rfl⟩
 go_wp2_with fail
 refine (qK b off lo 64 v _ l HW.out hb hlo hlen (by omega) (by omega) (by omega)).mono ?_
 rintro e w1 ⟨rfl,W1,O1⟩
 go_wp2_with fail
 go_end0
 exact ⟨rfl,W1,O1⟩
def qD0 (w:World) (b off:Nat) (s:ByteArray) (a:Nat) (e0:Int) (e:Ending) (w':World):Prop:=
 ∃(x a':Nat) (e1:Int),e= .returned (.int .u64 (x:Int))∧x<18446744073709551616∧Tk w w' b off s a e0 a' e1 (bitsOf x 64)
theorem kN (b off:Nat) (s:ByteArray) (a:Nat) (e0:Int) (w:World) (h:Rd w b off s a e0):
  Calls Tryz.prog 142 #[.pointer (some ⟨b,off,none⟩)] w (qD0 w b off s a e0):=by
 have H:=qA h
 clear h
 go_enter Tryz.func142,Tryz.ntmps142
 go_wp2_with fail
 refine (uH _).mono ?_
 rintro e w1 ⟨rfl,rfl⟩
 go_wp2_with fail
 refine (kT b off s a 64 e0 _ H.out (by omega)).mono ?_
 rintro e w2 ⟨x,a',e1,rfl,hx,T⟩
 have HT:=qA T
 clear T
 have hx':x<18446744073709551616:=by simpa using hx
 have r0:IntKind.u64.wrap (x:Int)=(x:Int):=by rw [IntKind.wrap_u64];omega
 go_wp2_with fail
 go_ret
 exact ⟨x,a',e1,rfl,hx',HT.out⟩
end Go.Proofs.YtkpmalfigmimaaaGreatDoor
namespace Go.Proofs.YtkpmalfigmimaaaGreatDoor
open Go.RowKit
open M
theorem kQ (w:World):Calls Tryz.prog 193 #[] w fun e w'=>e= .returned (.bool true)∧w'=w:=by
 go_enter Tryz.func193,Tryz.ntmps193
 go_wp2_with fail
 refine (uH _).mono ?_
 rintro e w1 ⟨rfl,rfl⟩
 go_wp2_with fail
 go_ret
 exact ⟨rfl,rfl⟩
theorem fT (x:Nat) (w:World) (hx:x<18446744073709551616):Calls Tryz.prog 164 #[.int .u64 x] w fun e w'=>e= .returned (.int .i64 (sgW 9223372036854775808 18446744073709551616 x))∧w'=w:=by
 have r0:IntKind.i64.wrap (x:Int)=sgW 9223372036854775808 18446744073709551616 x:=by rw [IntKind.wrap_i64];unfold sgW;split<;>omega
 go_enter Tryz.func164,Tryz.ntmps164
 go_wp2_with fail
 refine (kQ _).mono ?_
 rintro e w1 ⟨rfl,rfl⟩
 go_wp2_with fail
 go_ret
 exact ⟨rfl,rfl⟩
theorem vT (p:Option Addr) (n cap:Nat) (f:Nat→Nat) (w:World) (h:qZ w p n f) (hn:n≤4096) (hcap:n≤cap) (hf:∀i,i<n→f i<18446744073709551616):
  Calls Tryz.prog 146 #[.slice p n cap] w fun e w'=>e= .returned (.int .u64 (exS 18446744073709551616 f n:Nat))∧∃m,w'=w.drewN m:=by
 match n with
 |0=>
  go_enter Tryz.func146,Tryz.ntmps146
  go_wp2_with fail
  go_ret
  exact ⟨rfl,0,rfl⟩
 |1=>
  obtain ⟨b,o,rfl,hc⟩:=h (by omega)
  have c0:w.cell? ⟨b,o,none⟩=some (.int .u64 (f 0:Int)):=hc 0 (by omega)
  have q0:(((1:Nat):Int)==0)=false:=by decide
  have q1:(((1:Nat):Int)==1)=true:=by decide
  go_enter Tryz.func146,Tryz.ntmps146
  go_wp2_with fail
  go_ret
  exact ⟨rfl,0,rfl⟩
 |k+2=>
  obtain ⟨b,o,rfl,hc⟩:=h (by omega)
  obtain ⟨x,hx⟩:∃x,f (k+1)=x:=⟨_,rfl⟩
  obtain ⟨y,hy⟩:∃y,f k=y:=⟨_,rfl⟩
  have c1:w.cell? ⟨b,o+(k+1),none⟩=some (.int .u64 (x:Int)):=by rw [←hx];exact hc (k+1) (by omega)
  have c0:w.cell? ⟨b,o+k,none⟩=some (.int .u64 (y:Int)):=by rw [←hy];exact hc k (by omega)
  have hxM:x<18446744073709551616:=by rw [←hx];exact hf _ (by omega)
  have hyM:y<18446744073709551616:=by rw [←hy];exact hf _ (by omega)
  have e1:exS 18446744073709551616 f (k+2)=(2*x+18446744073709551616-y)%18446744073709551616:=by rw [exS,hx,hy]
  have e2:IntKind.u64.wrap (IntKind.u64.wrap (2*(x:Int))-(y:Int))=(((2*x+18446744073709551616-y)%18446744073709551616:Nat):Int):=by
   rw [IntKind.wrap_u64,IntKind.wrap_u64];omega
  have n0:(((k:Int)+2)==0)=false:=by rw [beq_eq_false_iff_ne];omega
  have n1:(((k:Int)+2)==1)=false:=by rw [beq_eq_false_iff_ne];omega
  rw [e1]
  have HX:=qA (And.intro hx hy)
  clear e1 hx hy hc h hf
  go_enter Tryz.func146,Tryz.ntmps146
  go_wp2_with fail
  go_quiet (fail)
  go_wp2_with fail
  go_ret
  exact ⟨by first|(rw [Int.natCast_emod];rfl)|rfl|(rw [←e2];rfl),_,rfl⟩
end Go.Proofs.YtkpmalfigmimaaaGreatDoor
namespace Go.Proofs.YtkpmalfigmimaaaGreatDoor
namespace Flt
open Ieee
theorem V_form (f:Format) (r:Nat):∃c,V f r=c*2^(r/f.binade-1)∧V f (r+1)=(c+1)*2^(r/f.binade-1)∧c<2*f.binade:=by
 have hb:=binade_pos f
 have hs:=V_step f r
 by_cases h:r<f.binade
 ·refine ⟨r,?_,?_,by omega⟩
  ·rw [Nat.div_eq_of_lt h];unfold V;rw [if_pos h];simp
  ·rw [hs,Nat.div_eq_of_lt h];unfold V;rw [if_pos h];simp
 ·have hm:=Nat.mod_lt r hb
  have e:V f r=(f.binade+r%f.binade)*2^(r/f.binade-1):=by unfold V;rw [if_neg h]
  exact ⟨f.binade+r%f.binade,e,by rw [hs,e,Nat.add_mul _ 1,Nat.one_mul],by omega⟩
end Flt
end Go.Proofs.YtkpmalfigmimaaaGreatDoor
namespace Go.Proofs.YtkpmalfigmimaaaGreatDoor
namespace Flt
open Ieee
def whl (mode:Nat) (s:Bool) (N D:Nat):Nat:=match mode with
 |0=>cutE N D
 |1=>N/D+(decide (D≤2*(N%D))).toNat
 |2=>N/D
 |3=>N/D+(s&&decide (N%D≠0)).toNat
 |_=>N/D+(!s&&decide (N%D≠0)).toNat
theorem frac_eq {n u n' u':Nat} (hu:0<u) (hu':0<u') (h:n*u'=n'*u):n/u=n'/u'∧(n%u=0↔n'%u'=0)∧(u≤2*(n%u)↔u'≤2*(n'%u')):=by
 have e1:n/u=n'/u':=by
  rw [←Nat.mul_div_mul_right n u hu',←Nat.mul_div_mul_right n' u' hu,h,Nat.mul_comm u u']
 have e2:n%u*u'=n'%u'*u:=by
  rw [←Nat.mul_mod_mul_right,←Nat.mul_mod_mul_right,h,Nat.mul_comm u u']
 refine ⟨e1,?_,?_⟩
 ·constructor
  ·intro h0;rw [h0,Nat.zero_mul] at e2
   rcases Nat.mul_eq_zero.1 e2.symm with h|h
   ·exact h
   ·omega
  ·intro h0;rw [h0,Nat.zero_mul] at e2
   rcases Nat.mul_eq_zero.1 e2 with h|h
   ·exact h
   ·omega
 ·constructor
  ·intro h0
   have:=Nat.mul_le_mul_right u' h0
   rw [Nat.mul_assoc,e2,←Nat.mul_assoc,Nat.mul_comm u u'] at this
   exact Nat.le_of_mul_le_mul_right this hu
  ·intro h0
   have:=Nat.mul_le_mul_right u h0
   rw [Nat.mul_assoc,←e2,←Nat.mul_assoc,Nat.mul_comm u' u] at this
   exact Nat.le_of_mul_le_mul_right this hu'
theorem whl_eq {mode:Nat} {s:Bool} {n u n' u':Nat} (hu:0<u) (hu':0<u') (h:n*u'=n'*u):whl mode s n u=whl mode s n' u':=by
 obtain ⟨e1,e2,e3⟩:=frac_eq hu hu' h
 unfold whl
 split
 ·exact cutE_eq hu hu' h
 ·rw [e1];congr 2;exact decide_eq_decide.2 e3
 ·exact e1
 ·rw [e1];congr 3;exact decide_eq_decide.2 (not_congr e2)
 ·rw [e1];congr 3;exact decide_eq_decide.2 (not_congr e2)
def wayOf:Nat→Toward
 |0=> .even
 |2=> .zero
 |3=> .down
 |_=> .up
theorem cut_ways (neg:Bool) (n drop:Nat) (mode:Nat) (hm:mode=0∨mode=2∨mode=3∨mode=4):(wayOf mode).cut neg n drop=whl mode neg n (2^drop):=by
 have small:∀d,n.log2+2≤d→n<2^d:=by
  intro d hd
  exact Nat.lt_of_lt_of_le Nat.lt_log2_self (Nat.pow_le_pow_right (by omega) (by omega))
 have key:n/2^(min drop (n.log2+2))=n/2^drop∧(n%2^(min drop (n.log2+2))=0↔n%2^drop=0):=by
  rcases Nat.le_total drop (n.log2+2) with h|h
  ·rw [Nat.min_eq_left h];exact ⟨rfl,Iff.rfl⟩
  ·rw [Nat.min_eq_right h]
   have h1:=small _ (Nat.le_refl (n.log2+2))
   have h2:=small _ h
   rw [Nat.div_eq_of_lt h1,Nat.div_eq_of_lt h2,Nat.mod_eq_of_lt h1,Nat.mod_eq_of_lt h2]
   exact ⟨rfl,Iff.rfl⟩
 rcases hm with rfl|rfl|rfl|rfl
 ·exact cut_even neg n drop
 ·show n/(1<<<min drop (n.log2+2))+0=n/2^drop
  rw [Nat.one_shiftLeft,key.1,Nat.add_zero]
 ·show n/(1<<<min drop (n.log2+2))+(neg&&n%(1<<<min drop (n.log2+2)) !=0).toNat=n/2^drop+(neg&&decide (n%2^drop≠0)).toNat
  rw [Nat.one_shiftLeft,key.1]
  congr 3
  have:(n%2^min drop (n.log2+2) !=0)=decide (n%2^min drop (n.log2+2)≠0):=by by_cases h:n%2^min drop (n.log2+2)=0<;>simp [h]
  rw [this];exact decide_eq_decide.2 (not_congr key.2)
 ·show n/(1<<<min drop (n.log2+2))+(!neg&&n%(1<<<min drop (n.log2+2)) !=0).toNat=n/2^drop+(!neg&&decide (n%2^drop≠0)).toNat
  rw [Nat.one_shiftLeft,key.1]
  congr 3
  have:(n%2^min drop (n.log2+2) !=0)=decide (n%2^min drop (n.log2+2)≠0):=by by_cases h:n%2^min drop (n.log2+2)=0<;>simp [h]
  rw [this];exact decide_eq_decide.2 (not_congr key.2)
def ent (T:Nat) (s:Bool) (K:Nat):Nat:=double.word s (min (rnd double (K*2^T) 1) double.infRung)
theorem nearest_ent (T:Nat) (hT:T=1074) (s:Bool) (K:Nat):double.nearest s K 0=ent T s K:=by
 have hl:double.leastPlace= -1074:=by decide
 unfold ent
 rw [nearest_rnd,hl,show (0-(-1074):Int).toNat=T by omega,show (-1074-0:Int).toNat=0 by omega,Nat.pow_zero]
theorem integral_fin (T:Nat) (hT:T=1074) (mode a:Nat) (hm:mode=0∨mode=2∨mode=3∨mode=4) (ha:rg double a<double.infRung):double.write ((double.read a).integral (wayOf mode))=ent T (sg double a) (whl mode (sg double a) (V double (rg double a)) (2^T)):=by
 obtain ⟨m,k,e1,e2,_⟩:=read_fin double a ha
 have hl:double.leastPlace= -1074:=by decide
 rw [e1]
 show double.nearest (sg double a) ((wayOf mode).cut (sg double a) (m<<<(double.leastPlace+(k:Int)).toNat) (-(double.leastPlace+(k:Int))).toNat) 0=_
 rw [nearest_ent T hT,cut_ways _ _ _ _ hm,Nat.shiftLeft_eq,hl]
 refine congrArg _ ?_
 refine whl_eq (Nat.two_pow_pos _) (Nat.two_pow_pos _) ?_
 rw [←e2,Nat.mul_assoc,Nat.mul_assoc,←Nat.pow_add,←Nat.pow_add]
 congr 2;omega
theorem whl_repr (T mode:Nat) (s:Bool) (r:Nat) (hm:mode≤4) (hT:1≤T):∃R,V double R=whl mode s (V double r) (2^T)*2^T∧whl mode s (V double r) (2^T)≤V double r/2^T+1:=by
 have hb:2*double.binade=2^53:=by decide
 have hle:V double r/2^T≤whl mode s (V double r) (2^T)∧whl mode s (V double r) (2^T)≤V double r/2^T+1:=by
  have ht:∀b:Bool,b.toNat≤1:=fun b=>Bool.toNat_le b
  unfold whl
  split
  ·unfold cutE;split<;>omega
  ·have:=ht (decide (2^T≤2*(V double r%2^T)));omega
  ·omega
  ·have:=ht (s&&decide (V double r%2^T≠0));omega
  ·have:=ht (!s&&decide (V double r%2^T≠0));omega
 obtain ⟨c,v1,_,v3⟩:=V_form double r
 generalize r/double.binade-1=kk at*
 by_cases hk:T≤kk
 ·
  have hz:V double r%2^T=0:=by
   rw [v1,show kk=(kk-T)+T by omega,Nat.pow_add,←Nat.mul_assoc];exact Nat.mul_mod_left _ _
  have hw:whl mode s (V double r) (2^T)=V double r/2^T:=by
   have hp:=Nat.two_pow_pos T
   unfold whl
   split
   ·unfold cutE;rw [hz,if_neg (by omega),Nat.add_zero]
   ·rw [hz,decide_eq_false (by omega)];rfl
   ·rfl
   ·rw [hz];simp
   ·rw [hz];simp
  refine ⟨r,?_,hle.2⟩
  rw [hw]
  have:=Nat.div_add_mod (V double r) (2^T)
  rw [hz,Nat.add_zero,Nat.mul_comm] at this
  exact this.symm
 ·have hlt:V double r/2^T+1≤2^53:=by
   have h1:V double r<2^53*2^kk:=by
    rw [v1];exact Nat.mul_lt_mul_of_pos_right (by omega) (Nat.two_pow_pos _)
   have h2:V double r/2^T<2^53:=by
    rw [Nat.div_lt_iff_lt_mul (Nat.two_pow_pos _)]
    exact Nat.lt_of_lt_of_le h1 (Nat.mul_le_mul_left _ (Nat.pow_le_pow_right (by omega) (by omega)))
   omega
  rcases Nat.lt_or_ge (whl mode s (V double r) (2^T)) (2^53) with h|h
  ·obtain ⟨R,hR⟩:=repr double (whl mode s (V double r) (2^T)) T (by omega)
   exact ⟨R,hR,hle.2⟩
  ·have e:whl mode s (V double r) (2^T)=2^53:=by omega
   obtain ⟨R,hR⟩:=repr double 1 (53+T) (by decide)
   refine ⟨R,?_,hle.2⟩
   rw [hR,e,Nat.one_mul,Nat.pow_add]
theorem ent_exact (T:Nat) (s:Bool) (K R:Nat) (h:V double R=K*2^T):ent T s K=double.word s (min R double.infRung):=by
 unfold ent
 rw [←h,rnd_V]
theorem V_one (T:Nat) (hT:T=1074):V double 4607182418800017408=2^T:=by
 obtain ⟨q,hq⟩:∃q:Nat,q=1022:=⟨_,rfl⟩
 have h:=(V_at double q double.binade (by decide) (.inr (Nat.le_refl _))).1
 rw [show q*double.binade+double.binade=4607182418800017408 by rw [hq];decide +kernel] at h
 rw [h,show double.binade=2^52 by decide,←Nat.pow_add,show 52+q=T by omega]
theorem V_half (T:Nat) (hT:T=1073):V double 4602678819172646912=2^T:=by
 obtain ⟨q,hq⟩:∃q:Nat,q=1021:=⟨_,rfl⟩
 have h:=(V_at double q double.binade (by decide) (.inr (Nat.le_refl _))).1
 rw [show q*double.binade+double.binade=4602678819172646912 by rw [hq];decide +kernel] at h
 rw [h,show double.binade=2^52 by decide,←Nat.pow_add,show 52+q=T by omega]
theorem away_low (T r:Nat) (s:Bool) (hT:T=1074) (h:r<4607182418800017408):ent T s (whl 1 s (V double r) (2^T))=double.word s (if 4602678819172646912≤r then 4607182418800017408 else 0):=by
 have h1:=V_one T hT
 have hv:V double r<2^T:=by rw [←h1];exact V_lt h
 obtain ⟨U,hU⟩:∃U,U=1073:=⟨_,rfl⟩
 have h2:=V_half U hU
 have hp:2^T=2*2^U:=by rw [show T=U+1 by omega,Nat.pow_succ,Nat.mul_comm]
 have hk:whl 1 s (V double r) (2^T)=if 4602678819172646912≤r then 1 else 0:=by
  show V double r/2^T+(decide (2^T≤2*(V double r%2^T))).toNat=_
  rw [Nat.div_eq_of_lt hv,Nat.mod_eq_of_lt hv,hp]
  by_cases h3:4602678819172646912≤r
  ·have:=V_le (f:=double) h3
   rw [h2] at this
   rw [if_pos h3,decide_eq_true (by omega)];rfl
  ·have:=V_lt (f:=double) (show r<4602678819172646912 by omega)
   rw [h2] at this
   rw [if_neg h3,decide_eq_false (by omega)];rfl
 rw [hk]
 by_cases h3:4602678819172646912≤r
 ·rw [if_pos h3,if_pos h3,ent_exact T s 1 4607182418800017408 (by rw [h1,Nat.one_mul]),show double.infRung=9218868437227405312 by decide +kernel,Nat.min_eq_left (by omega)]
 ·rw [if_neg h3,if_neg h3,ent_exact T s 0 0 (by rw [V_zero,Nat.zero_mul]),Nat.zero_min]
theorem away_mid (T e f g:Nat) (s:Bool) (hT:T=1074) (hf:f<4503599627370496) (he:1023≤e) (hg:e+g=1075) (hg1:1≤g):
  ent T s (whl 1 s (V double (e*4503599627370496+f)) (2^T))=double.word s (e*4503599627370496+(f+2^(g-1))/2^g*2^g)∧e*4503599627370496+(f+2^(g-1))/2^g*2^g≤(e+1)*4503599627370496:=by
 have hB:double.binade=4503599627370496:=by decide
 have hg52:g≤52:=by omega
 have hV:∀x,x≤4503599627370496→V double (e*4503599627370496+x)=(4503599627370496+x)*2^(e-1):=by
  intro x hx
  rcases Nat.lt_or_ge x 4503599627370496 with h|h
  ·have:=(V_at double (e-1) (4503599627370496+x) (by rw [hB];omega) (.inr (by rw [hB];omega))).1
   rw [hB] at this
   rw [show (e-1)*4503599627370496+(4503599627370496+x)=e*4503599627370496+x by omega] at this
   exact this
  ·have hx2:x=4503599627370496:=by omega
   have:=(V_at double (e-1) (4503599627370496+4503599627370495) (by rw [hB];omega) (.inr (by rw [hB];omega))).2
   rw [hB] at this
   rw [show (e-1)*4503599627370496+(4503599627370496+4503599627370495)+1=e*4503599627370496+x by omega] at this
   rw [this,hx2]
 have hsplit:4503599627370496=2^(52-g)*2^g:=by rw [←Nat.pow_add,show 52-g+g=52 by omega]
 have hp:=Nat.two_pow_pos g
 have hph:2^g=2*2^(g-1):=by
  obtain ⟨x,rfl⟩:∃x,g=x+1:=⟨g-1,by omega⟩
  rw [Nat.add_sub_cancel,Nat.pow_succ,Nat.mul_comm]
 have hfl:(f+2^(g-1))/2^g≤2^(52-g):=by
  have h1:f+2^(g-1)<(2^(52-g)+1)*2^g:=by rw [Nat.add_mul,←hsplit];omega
  have:=(Nat.div_lt_iff_lt_mul hp).2 h1
  omega
 have hq:(f+2^(g-1))/2^g*2^g≤4503599627370496:=by rw [hsplit];exact Nat.mul_le_mul_right _ hfl
 refine ⟨?_,by omega⟩
 have hK:whl 1 s (V double (e*4503599627370496+f)) (2^T)=2^(52-g)+(f+2^(g-1))/2^g:=by
  have e1:whl 1 s (V double (e*4503599627370496+f)) (2^T)=whl 1 s (4503599627370496+f) (2^g):=by
   refine whl_eq (Nat.two_pow_pos _) hp ?_
   rw [hV f (by omega),Nat.mul_assoc,←Nat.pow_add,show e-1+g=T by omega]
  rw [e1]
  show (4503599627370496+f)/2^g+(decide (2^g≤2*((4503599627370496+f)%2^g))).toNat=_
  have d1:(4503599627370496+f)/2^g=2^(52-g)+f/2^g:=by rw [hsplit,Nat.add_comm,Nat.add_mul_div_right _ _ hp,Nat.add_comm]
  have d2:(4503599627370496+f)%2^g=f%2^g:=by rw [hsplit,Nat.add_comm,Nat.add_mul_mod_self_right]
  rw [d1,d2,Nat.add_assoc]
  refine congrArg _ ?_
  have hd:=Nat.div_add_mod f (2^g)
  have hm:=Nat.mod_lt f hp
  by_cases hc:2^g≤2*(f%2^g)
  ·rw [decide_eq_true hc]
   have:(f+2^(g-1))/2^g=f/2^g+1:=by
    rw [Nat.div_eq_iff hp,Nat.add_mul,Nat.one_mul,Nat.mul_comm (f/2^g)]
    generalize 2^g*(f/2^g)=y at*
    omega
   rw [this];rfl
  ·rw [decide_eq_false hc]
   have:(f+2^(g-1))/2^g=f/2^g:=by
    rw [Nat.div_eq_iff hp,Nat.mul_comm (f/2^g)]
    generalize 2^g*(f/2^g)=y at*
    omega
   rw [this];rfl
 rw [hK,ent_exact T s _ (e*4503599627370496+(f+2^(g-1))/2^g*2^g),show double.infRung=9218868437227405312 by decide +kernel,Nat.min_eq_left (by omega)]
 rw [hV _ hq]
 have e2:4503599627370496+(f+2^(g-1))/2^g*2^g=(2^(52-g)+(f+2^(g-1))/2^g)*2^g:=by rw [Nat.add_mul,←hsplit]
 rw [e2,Nat.mul_assoc,←Nat.pow_add,show g+(e-1)=T by omega]
theorem away_high (T r:Nat) (s:Bool) (hT:T=1074) (h:4841369599423283200≤r) (hr:r≤double.infRung):ent T s (whl 1 s (V double r) (2^T))=double.word s r:=by
 have hB:double.binade=4503599627370496:=by decide
 obtain ⟨c,v1,_,v3⟩:=V_form double r
 rw [hB] at v1
 have hz:V double r%2^T=0:=by
  rw [v1,show r/4503599627370496-1=(r/4503599627370496-1-T)+T by omega,Nat.pow_add,←Nat.mul_assoc];exact Nat.mul_mod_left _ _
 have hp:=Nat.two_pow_pos T
 have hw:whl 1 s (V double r) (2^T)=V double r/2^T:=by
  show V double r/2^T+(decide (2^T≤2*(V double r%2^T))).toNat=_
  rw [hz,decide_eq_false (by omega)];rfl
 rw [hw,ent_exact T s _ r,Nat.min_eq_left hr]
 have:=Nat.div_add_mod (V double r) (2^T)
 rw [hz,Nat.add_zero,Nat.mul_comm] at this
 exact this.symm
end Flt
end Go.Proofs.YtkpmalfigmimaaaGreatDoor
namespace Go.Proofs.YtkpmalfigmimaaaGreatDoor
open Go.RowKit
open Flt
def zT (T mode a x:Nat):Prop:=x<18446744073709551616∧(9218868437227405312<a%9223372036854775808→9218868437227405312<x%9223372036854775808)∧(a%9223372036854775808=9218868437227405312→x=a)∧
 (a%9223372036854775808<9218868437227405312→x=ent T (sg Ieee.double a) (whl mode (sg Ieee.double a) (V Ieee.double (rg Ieee.double a)) (2^T)))
theorem qKR (T:Nat) (s:Bool) (K:Nat):ent T s K<18446744073709551616∧ent T s K%9223372036854775808≤9218868437227405312:=by
 unfold ent
 rw [jM]
 obtain ⟨w1,w2,_⟩:=qCS s (min (rnd Ieee.double (K*2^T) 1) 9218868437227405312) (by omega)
 exact ⟨w1,by omega⟩
theorem qHX (name:String) (way:Ieee.Toward) (a:Nat):Extern.MathFloor.toIntegral name way #[.float .f64 a]=(match FloatKind.f64.decode a with
  | .nan s t=>
   if FloatKind.f64.format.quiet t=t then pure (.float .f64 a) else do
   let kept ← choose (.extern "math.Floor,Ceil,Trunc,RoundToEven.signallingNaN kept" 2)
   pure (.float .f64 (if kept==1 then a else FloatKind.f64.encode (.nan s (FloatKind.f64.format.quiet t))))
  |d=>pure (.float .f64 (FloatKind.f64.encode (d.integral way)))):=rfl
theorem qFV (s:Bool) (t:Nat) (h:t<4503599627370496):FloatKind.f64.encode (.nan s (FloatKind.f64.format.quiet t))<18446744073709551616∧9218868437227405312<FloatKind.f64.encode (.nan s (FloatKind.f64.format.quiet t))%9223372036854775808:=by
 have hq:FloatKind.f64.format.quiet t=t|||2^51:=rfl
 have h1:2^51≤t|||2^51:=Nat.right_le_or
 have h2:t|||2^51<2^52:=Nat.or_lt_two_pow (by omega) (by omega)
 rw [hq]
 have hB:Ieee.double.binade=4503599627370496:=by decide
 show Ieee.double.word s (Ieee.double.infRung+(t|||2^51)%Ieee.double.binade)<_∧_<Ieee.double.word s (Ieee.double.infRung+(t|||2^51)%Ieee.double.binade)%_
 rw [hB,jM,Nat.mod_eq_of_lt (by omega)]
 generalize t|||2^51=q at*
 obtain ⟨w1,w2,_⟩:=qCS s (9218868437227405312+q) (by omega)
 exact ⟨w1,by omega⟩
theorem gF (T:Nat) (hT:T=1074) (name:String) (mode a:Nat) (hm:mode=0∨mode=2∨mode=3∨mode=4) (ha:a<18446744073709551616) (w:World):∃x w',zT T mode a x∧(w'=w∨w'=w.drew)∧(Extern.MathFloor.toIntegral name (wayOf mode) #[.float .f64 a]).run Tryz.prog w= .ok (.float .f64 x) w':=by
 rw [qHX]
 rcases Nat.lt_trichotomy (a%9223372036854775808) 9218868437227405312 with h|h|h
 ·have hr:rg Ieee.double a<Ieee.double.infRung:=by rw [xF,jM];exact h
  obtain ⟨m,k,e1,_⟩:=read_fin Ieee.double a hr
  have hd:FloatKind.f64.decode a=_:=e1
  have hi:=integral_fin T hT mode a hm hr
  rw [e1] at hi
  have hl:=qKR T (sg Ieee.double a) (whl mode (sg Ieee.double a) (V Ieee.double (rg Ieee.double a)) (2^T))
  refine ⟨_,w,⟨hl.1,fun h'=>by omega,fun h'=>by omega,fun _=>rfl⟩,.inl rfl,?_⟩
  rw [hd,←hi]
  rfl
 ·have e1:=read_inf Ieee.double a (by decide) (by rw [xF,jM];exact h)
  have hd:FloatKind.f64.decode a=_:=e1
  have hself:=word_self Ieee.double a (show a<2*9223372036854775808 by omega)
  rw [xF,h] at hself
  refine ⟨a,w,⟨ha,fun h'=>by omega,fun _=>rfl,fun h'=>by omega⟩,.inl rfl,?_⟩
  rw [hd]
  show Result.ok (Value.float .f64 (Ieee.double.word (sg Ieee.double a) Ieee.double.infRung)) w=_
  rw [jM,hself]
 ·have e1:=read_nan Ieee.double a (by decide) (by rw [xF,jM];exact h)
  have hd:FloatKind.f64.decode a=_:=e1
  rw [hd]
  have ht:rg Ieee.double a-Ieee.double.infRung<4503599627370496:=by rw [xF,jM];omega
  generalize rg Ieee.double a-Ieee.double.infRung=t at*
  by_cases hq:FloatKind.f64.format.quiet t=t
  ·refine ⟨a,w,⟨ha,fun _=>h,fun h'=>by omega,fun h'=>by omega⟩,.inl rfl,?_⟩
   simp [hq]
  ·obtain ⟨q1,q2⟩:=qFV (sg Ieee.double a) t ht
   obtain ⟨kp, hkp⟩ : ∃ kp : Nat, Question.cut (.extern "math.Floor,Ceil,Trunc,RoundToEven.signallingNaN kept" 2) (w.tape w.drawn (.extern "math.Floor,Ceil,Trunc,RoundToEven.signallingNaN kept" 2)) = kp := ⟨_, rfl⟩
   refine ⟨if kp==1 then a else FloatKind.f64.encode (.nan (sg Ieee.double a) (FloatKind.f64.format.quiet t)),w.drew,⟨?_,fun _=>?_,fun h'=>by omega,fun h'=>by omega⟩,.inr rfl,?_⟩
   ·split
    ·exact ha
    ·exact q1
   ·split
    ·exact h
    ·exact q2
   ·simp [hq,Question.forced,hkp]
theorem qG2 (T:Nat) (hT:T=1074) (a:Nat) (ha:a<18446744073709551616) (w:World):∃x w',zT T 0 a x∧(w'=w∨w'=w.drew)∧(callFunc 229 #[.float .f64 a]).run Tryz.prog w= .ok (.value (.float .f64 x)) w':=by
 obtain ⟨x, w', h1, h2, h3⟩ := gF T hT "math.RoundToEven" 0 a (by simp) ha w
 refine ⟨x,w',h1,h2,?_⟩
 rw [run_callFunc_extern Tryz.func229 (by kernel_rfl) (by kernel_rfl) (by kernel_rfl) (e := Extern.MathFloor.toIntegral "math.RoundToEven" .even) (by kernel_rfl)]
 rw [show Extern.MathFloor.toIntegral "math.RoundToEven" .even = Extern.MathFloor.toIntegral "math.RoundToEven" (wayOf 0) from rfl, h3]
 rfl
theorem qDX (T:Nat) (hT:T=1074) (a:Nat) (ha:a<18446744073709551616) (w:World):∃x w',zT T 2 a x∧(w'=w∨w'=w.drew)∧(callFunc 234 #[.float .f64 a]).run Tryz.prog w= .ok (.value (.float .f64 x)) w':=by
 obtain ⟨x, w', h1, h2, h3⟩ := gF T hT "math.archTrunc" 2 a (by simp) ha w
 refine ⟨x,w',h1,h2,?_⟩
 rw [run_callFunc_extern Tryz.func234 (by kernel_rfl) (by kernel_rfl) (by kernel_rfl) (e := Extern.MathFloor.toIntegral "math.archTrunc" .zero) (by kernel_rfl)]
 rw [show Extern.MathFloor.toIntegral "math.archTrunc" .zero = Extern.MathFloor.toIntegral "math.archTrunc" (wayOf 2) from rfl, h3]
 rfl
theorem qDW (T:Nat) (hT:T=1074) (a:Nat) (ha:a<18446744073709551616) (w:World):∃x w',zT T 3 a x∧(w'=w∨w'=w.drew)∧(callFunc 236 #[.float .f64 a]).run Tryz.prog w= .ok (.value (.float .f64 x)) w':=by
 obtain ⟨x, w', h1, h2, h3⟩ := gF T hT "math.archFloor" 3 a (by simp) ha w
 refine ⟨x,w',h1,h2,?_⟩
 rw [run_callFunc_extern Tryz.func236 (by kernel_rfl) (by kernel_rfl) (by kernel_rfl) (e := Extern.MathFloor.toIntegral "math.archFloor" .down) (by kernel_rfl)]
 rw [show Extern.MathFloor.toIntegral "math.archFloor" .down = Extern.MathFloor.toIntegral "math.archFloor" (wayOf 3) from rfl, h3]
 rfl
theorem qG1 (T:Nat) (hT:T=1074) (a:Nat) (ha:a<18446744073709551616) (w:World):∃x w',zT T 4 a x∧(w'=w∨w'=w.drew)∧(callFunc 238 #[.float .f64 a]).run Tryz.prog w= .ok (.value (.float .f64 x)) w':=by
 obtain ⟨x, w', h1, h2, h3⟩ := gF T hT "math.archCeil" 4 a (by simp) ha w
 refine ⟨x,w',h1,h2,?_⟩
 rw [run_callFunc_extern Tryz.func238 (by kernel_rfl) (by kernel_rfl) (by kernel_rfl) (e := Extern.MathFloor.toIntegral "math.archCeil" .up) (by kernel_rfl)]
 rw [show Extern.MathFloor.toIntegral "math.archCeil" .up = Extern.MathFloor.toIntegral "math.archCeil" (wayOf 4) from rfl, h3]
 rfl
theorem qEI (T:Nat) (hT:T=1074) (a:Nat) (w:World) (ha:a<18446744073709551616):Calls Tryz.prog 231 #[.float .f64 a] w fun e w'=>∃x,zT T 2 a x∧e= .returned (.float .f64 x)∧Below w.heap.size w w':=by
 obtain ⟨x,w',h1,h2,h3⟩:=qDX T hT a ha w
 have H1:=jG h1
 have H2:Hid (Below w.heap.size w w'):=by
  show Below _ _ _
  rcases h2 with rfl|rfl
  ·exact Below.refl _ _
  ·exact (Below.refl _ _).drew
 clear h1 h2 ha hT
 go_enter Tryz.func231,Tryz.ntmps231
 go_wp2_with (simp only [h3])
 go_ret
 exact ⟨x,H1.out,rfl,H2.out⟩
theorem qED (T:Nat) (hT:T=1074) (a:Nat) (w:World) (ha:a<18446744073709551616):Calls Tryz.prog 232 #[.float .f64 a] w fun e w'=>∃x,zT T 3 a x∧e= .returned (.float .f64 x)∧Below w.heap.size w w':=by
 obtain ⟨x,w',h1,h2,h3⟩:=qDW T hT a ha w
 have H1:=jG h1
 have H2:Hid (Below w.heap.size w w'):=by
  show Below _ _ _
  rcases h2 with rfl|rfl
  ·exact Below.refl _ _
  ·exact (Below.refl _ _).drew
 clear h1 h2 ha hT
 go_enter Tryz.func232,Tryz.ntmps232
 go_wp2_with (simp only [h3])
 go_ret
 exact ⟨x,H1.out,rfl,H2.out⟩
theorem qGS (T:Nat) (hT:T=1074) (a:Nat) (w:World) (ha:a<18446744073709551616):Calls Tryz.prog 233 #[.float .f64 a] w fun e w'=>∃x,zT T 4 a x∧e= .returned (.float .f64 x)∧Below w.heap.size w w':=by
 obtain ⟨x,w',h1,h2,h3⟩:=qG1 T hT a ha w
 have H1:=jG h1
 have H2:Hid (Below w.heap.size w w'):=by
  show Below _ _ _
  rcases h2 with rfl|rfl
  ·exact Below.refl _ _
  ·exact (Below.refl _ _).drew
 clear h1 h2 ha hT
 go_enter Tryz.func233,Tryz.ntmps233
 go_wp2_with (simp only [h3])
 go_ret
 exact ⟨x,H1.out,rfl,H2.out⟩
theorem qH8 (g:Nat) (hg:g≤52) (b:Nat) (hb:b<18446744073709551616):bits BinOp.andNot IntKind.u64 (b:Int) ((2^g-1:Nat):Int)=((b/2^g*2^g:Nat):Int):=by
 have hp:=Nat.two_pow_pos g
 have hl:2^g≤2^52:=Nat.pow_le_pow_right (by omega) hg
 have:=u64_andNot_nat b (2^g-1) hb (by omega)
 rw [this]
 have e:b&&&(18446744073709551615-(2^g-1))=b/2^g*2^g:=by
  have h1:18446744073709551615-(2^g-1)=(2^(64-g)-1)*2^g:=by
   rw [Nat.sub_mul,←Nat.pow_add,show 64-g+g=64 by omega];omega
  rw [h1,qII b g (64-g),Nat.mod_eq_of_lt]
  rw [Nat.div_lt_iff_lt_mul hp,←Nat.pow_add,show 64-g+g=64 by omega];exact hb
 rw [e]
theorem rF (T:Nat) (hT:T=1074) (a:Nat) (w:World) (ha:a<18446744073709551616):Calls Tryz.prog 230 #[.float .f64 a] w fun e w'=>∃x,zT T 1 a x∧e= .returned (.float .f64 x)∧Below w.heap.size w w':=by
 have ht:=yA a
 obtain ⟨r,hr,hrl⟩:∃r,a%9223372036854775808=r∧r<9223372036854775808:=⟨_,rfl,by omega⟩
 obtain ⟨e,he,hel⟩:∃e:Nat,r/4503599627370496=e∧e<2048:=⟨_,rfl,by omega⟩
 obtain ⟨f,hf,hfl⟩:∃f:Nat,r%4503599627370496=f∧f<4503599627370496:=⟨_,rfl,by omega⟩
 have hre:r=e*4503599627370496+f:=by omega
 have hF:bits BinOp.and IntKind.u64 ((a:Int)/4503599627370496) 2047=(e:Int):=by
  rw [show (a:Int)/4503599627370496=((a/4503599627370496:Nat):Int) by simp]
  have:=u64_and_nat (a/4503599627370496) 2047 (by omega) (by omega)
  rw [show a/4503599627370496&&&2047=a/4503599627370496%2048 from Nat.and_two_pow_sub_one_eq_mod _ 11,show a/4503599627370496%2048=e by omega] at this
  exact this
 have hei:(e:Int)<2048:=by omega
 have hsg:(sg Ieee.double a).toNat=a/9223372036854775808:=by rw [qIK a ha];by_cases h:9223372036854775808≤a<;>simp [h]<;>omega
 have hwd:∀R,Ieee.double.word (sg Ieee.double a) R=a/9223372036854775808*9223372036854775808+R:=by
  intro R
  rw [←hsg]
  cases sg Ieee.double a
  ·show R=0*9223372036854775808+R;omega
  ·show 9223372036854775808+R=1*9223372036854775808+R;omega
 have hrg:rg Ieee.double a=r:=by rw [xF];exact hr
 by_cases h1:e<1023
 ·have h1':(e:Int)<1023:=by omega
  have hIs:zT T 1 a (a/9223372036854775808*9223372036854775808+if 4602678819172646912≤r then 4607182418800017408 else 0):=by
   refine ⟨by split<;>omega,fun h=>by omega,fun h=>by omega,fun _=>?_⟩
   rw [hrg,away_low T r _ hT (by omega),hwd]
  have hand:bits BinOp.and IntKind.u64 (a:Int) 9223372036854775808=((a/9223372036854775808*9223372036854775808:Nat):Int):=lB a ha
  by_cases h2:e=1022
  ·have h2':((e:Int)==1022)=true:=by simp;omega
   rw [if_pos (by omega)] at hIs
   have hor:bits BinOp.or IntKind.u64 ((a/9223372036854775808*9223372036854775808:Nat):Int) 4607182418800017408=((a/9223372036854775808*9223372036854775808+4607182418800017408:Nat):Int):=by
    have h:a/9223372036854775808=0∨a/9223372036854775808=1:=by omega
    rcases h with h|h<;>rw [h]<;>decide +kernel
   have hfb:=zH (a/9223372036854775808*9223372036854775808+4607182418800017408)
   obtain ⟨y,hy⟩:∃y,a/9223372036854775808*9223372036854775808=y:=⟨_,rfl⟩
   rw [hy] at hIs hand hor hfb
   obtain ⟨x,hx⟩:∃x,y+4607182418800017408=x:=⟨_,rfl⟩
   rw [hx] at hIs hor hfb
   have HIs:=jG hIs
   clear hx hy hT hIs hre hel hf hfl he hr hrl hsg hwd hrg h1 h2 ha
   go_enter Tryz.func230,Tryz.ntmps230
   go_wp2_with (simp only [ht,hF,hand,hor,hfb])
   go_ret
   exact ⟨x,HIs.out,rfl,Below.refl _ _⟩
  ·have h2':((e:Int)==1022)=false:=by simp;omega
   rw [if_neg (by omega),Nat.add_zero] at hIs
   have hfb:=zH (a/9223372036854775808*9223372036854775808)
   obtain ⟨y,hy⟩:∃y,a/9223372036854775808*9223372036854775808=y:=⟨_,rfl⟩
   rw [hy] at hIs hand hfb
   have HIs:=jG hIs
   clear hy hT hIs hre hel hf hfl he hr hrl hsg hwd hrg h1 h2 ha
   go_enter Tryz.func230,Tryz.ntmps230
   go_wp2_with (simp only [ht,hF,hand,hfb])
   go_ret
   exact ⟨y,HIs.out,rfl,Below.refl _ _⟩
 ·have h1':¬(e:Int)<1023:=by omega
  by_cases h2:e<1075
  ·have h2':(e:Int)<1075:=by omega
   obtain ⟨g,hg⟩:∃g,e+g=1075:=⟨1075-e,by omega⟩
   obtain ⟨c,hc,hc1⟩:∃c:Nat,e-1023=c∧(e:Int)-1023=(c:Int):=⟨_,rfl,by omega⟩
   obtain ⟨am1,am2⟩:=away_mid T e f g (sg Ieee.double a) hT hfl (by omega) hg (by omega)
   have hhalf:(2251799813685248:Int)/((2^c:Nat):Int)=((2^(g-1):Nat):Int):=by
    rw [show (2251799813685248:Int)=((2^51:Nat):Int) by decide,←Int.natCast_ediv]
    congr 1
    rw [show 51=(g-1)+c by omega,Nat.pow_add];exact Nat.mul_div_cancel _ (Nat.two_pow_pos c)
   have hfull:(4503599627370495:Int)/((2^c:Nat):Int)=((2^g-1:Nat):Int):=by
    rw [show (4503599627370495:Int)=((2^52-1:Nat):Int) by decide,←Int.natCast_ediv]
    congr 1
    have hp:=Nat.two_pow_pos c
    rw [Nat.div_eq_iff hp]
    have hpe:2^52=2^g*2^c:=by rw [←Nat.pow_add,show g+c=52 by omega]
    have hgp:=Nat.two_pow_pos g
    rw [hpe,Nat.sub_mul,Nat.one_mul]
    have:2^c≤2^g*2^c:=Nat.le_mul_of_pos_left _ hgp
    omega
   obtain ⟨P,hP⟩:∃P,2^(g-1)=P:=⟨_,rfl⟩
   have hPl:P≤2251799813685248:=by rw [←hP];exact Nat.le_trans (Nat.pow_le_pow_right (by omega) (show g-1≤51 by omega)) (by decide)
   obtain ⟨b,hb,hb1⟩:∃b:Nat,a+P=b∧(a:Int)+(P:Int)=(b:Int):=⟨_,rfl,by omega⟩
   have hbl:b<18446744073709551616:=by omega
   have hmask:=qH8 g (by omega) b hbl
   have hbits:b/2^g*2^g=a/9223372036854775808*9223372036854775808+(e*4503599627370496+(f+P)/2^g*2^g):=by
    have hgp:=Nat.two_pow_pos g
    have hs52:4503599627370496=2^(52-g)*2^g:=by rw [←Nat.pow_add,show 52-g+g=52 by omega]
    have e1:b=(f+P)+(a/9223372036854775808*2048+e)*4503599627370496:=by omega
    rw [e1,hs52,←Nat.mul_assoc,Nat.add_mul_div_right _ _ hgp,Nat.add_mul,Nat.mul_assoc _ (2^(52-g)),←hs52]
    omega
   rw [hP] at am1 am2 hhalf
   have hIs:zT T 1 a (b/2^g*2^g):=by
    refine ⟨by omega,fun h=>by omega,fun h=>by omega,fun _=>?_⟩
    rw [hrg,hre,am1,hwd,hbits]
   have hfb:=zH (b/2^g*2^g)
   obtain ⟨M,hM⟩:∃M,2^g-1=M:=⟨_,rfl⟩
   rw [hM] at hmask hfull
   have HIs:=jG hIs
   generalize b/2^g*2^g=x at*
   obtain ⟨C,hC⟩:∃C,2^c=C:=⟨_,rfl⟩
   rw [hC] at hhalf hfull
   have hCi:(2:Int)^c=(C:Int):=by rw [←hC];simp
   have hcl:(c:Int)<52:=by omega
   have hbi:(b:Int)<18446744073709551616:=by omega
   have hbw:IntKind.u64.wrap (b:Int)=(b:Int):=by rw [IntKind.wrap_u64];omega
   have hbm:(b:Int)%18446744073709551616=(b:Int):=by omega
   clear hT hIs hre hel hf hfl he hr hrl hsg hwd hrg h1 h2 ha am1 am2 hP hPl hb hbl hbits hM hC hg hc
   go_enter Tryz.func230,Tryz.ntmps230
   go_wp2_with (simp only [ht,hF,hc1,hCi,hhalf,hfull,hb1,hbw,hbm,hmask,hfb])
   go_ret
   exact ⟨x,HIs.out,rfl,Below.refl _ _⟩
  ·have h2':¬(e:Int)<1075:=by omega
   have hIs:zT T 1 a a:=by
    refine ⟨ha,fun h=>h,fun _=>rfl,fun h=>?_⟩
    rw [hrg,away_high T r _ hT (by omega) (by rw [jM];omega),hwd];omega
   have hfb:=zH a
   have HIs:=jG hIs
   clear hT hIs hre hel hf hfl he hr hrl hsg hwd hrg h1 h2 ha
   go_enter Tryz.func230,Tryz.ntmps230
   go_wp2_with (simp only [ht,hF,hfb])
   go_ret
   exact ⟨a,HIs.out,rfl,Below.refl _ _⟩
end Go.Proofs.YtkpmalfigmimaaaGreatDoor
