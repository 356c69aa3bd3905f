import Derived.Test.YtkpmalfigmimaaaGreatDoorFF
set_option linter.unusedVariables false
set_option linter.unusedSimpArgs false
set_option maxRecDepth 100000
set_option maxHeartbeats 8000000
namespace Go.Proofs.YtkpmalfigmimaaaGreatDoor
open Go.RowKit
theorem lS (b fl y c:Nat) (w:World) (hb:b<18446744073709551616) (h1:bits BinOp.and IntKind.u64 (b:Int) 9218868437227405312=(fl:Int)) (h2:bits BinOp.andNot IntKind.u64 (b:Int) 18442240474082181120=(y:Int)) (hy:y<4503599627370496)
  (hc:(fl=9218868437227405312∧y=0∧c=3)∨(fl=9218868437227405312∧2251799813685248≤y∧c=4)∨(fl=9218868437227405312∧y≠0∧y<2251799813685248∧c=5)∨(fl≠9218868437227405312∧fl≠0∧c=2)∨(fl=0∧y≠0∧c=1)∨(fl=0∧y=0∧c=0)):
  Calls Tryz.prog 91 #[.int .u64 b] w fun e w'=>e= .returned (.int .i64 c)∧Below w.heap.size w w':=by
 have hsf:=qL8
 rcases hc with ⟨rfl,rfl,rfl⟩|⟨rfl,q1,rfl⟩|⟨rfl,q1,q2,rfl⟩|⟨q1,q2,rfl⟩|⟨rfl,q1,rfl⟩|⟨rfl,rfl,rfl⟩
 ·have h1:bits BinOp.and IntKind.u64 (b:Int) 9218868437227405312=9218868437227405312:=h1
  have h2:bits BinOp.andNot IntKind.u64 (b:Int) 18442240474082181120=0:=h2
  go_enter Tryz.func91,Tryz.ntmps91
  go_wp2_with fail
  refine (qS w).mono ?_
  rintro e w1 ⟨rfl,hb1⟩
  unfold wG
  have H1:=jF hb1
  clear hb1
  go_wp2_with fail
  go_quiet (simp only [hsf,h1,h2])
  go_wp2_with (simp only [hsf,h1,h2])
  go_ret
  exact ⟨rfl,qV (H1.out.alloc H1.out.size _) _⟩
 ·have h1:bits BinOp.and IntKind.u64 (b:Int) 9218868437227405312=9218868437227405312:=h1
  have hq:=qHP y q1 hy
  have h0:((y:Int)==0)=false:=by simp;omega
  go_enter Tryz.func91,Tryz.ntmps91
  go_wp2_with fail
  refine (qS w).mono ?_
  rintro e w1 ⟨rfl,hb1⟩
  unfold wG
  have H1:=jF hb1
  clear hb1
  go_wp2_with fail
  go_quiet (simp only [hsf,h1,h2])
  go_wp2_with (simp only [hsf,h1,h2,hq])
  go_ret
  exact ⟨rfl,qV (H1.out.alloc H1.out.size _) _⟩
 ·have h1:bits BinOp.and IntKind.u64 (b:Int) 9218868437227405312=9218868437227405312:=h1
  have hq:=qHQ y q2
  have h0:((y:Int)==0)=false:=by simp;omega
  go_enter Tryz.func91,Tryz.ntmps91
  go_wp2_with fail
  refine (qS w).mono ?_
  rintro e w1 ⟨rfl,hb1⟩
  unfold wG
  have H1:=jF hb1
  clear hb1
  go_wp2_with fail
  go_quiet (simp only [hsf,h1,h2])
  go_wp2_with (simp only [hsf,h1,h2,hq])
  go_ret
  exact ⟨rfl,qV (H1.out.alloc H1.out.size _) _⟩
 ·have h0:((fl:Int)==9218868437227405312)=false:=by simp;omega
  have h3:((fl:Int)==0)=false:=by simp;omega
  have h4:((fl:Int) !=0)=true:=by simp;omega
  go_enter Tryz.func91,Tryz.ntmps91
  go_wp2_with fail
  refine (qS w).mono ?_
  rintro e w1 ⟨rfl,hb1⟩
  unfold wG
  have H1:=jF hb1
  clear hb1
  go_wp2_with fail
  go_quiet (simp only [hsf,h1,h2])
  go_wp2_with (simp only [hsf,h1,h2])
  go_ret
  exact ⟨rfl,qV (H1.out.alloc H1.out.size _) _⟩
 ·have h1:bits BinOp.and IntKind.u64 (b:Int) 9218868437227405312=0:=h1
  have h0:((y:Int)==0)=false:=by simp;omega
  have h4:((y:Int) !=0)=true:=by simp;omega
  go_enter Tryz.func91,Tryz.ntmps91
  go_wp2_with fail
  refine (qS w).mono ?_
  rintro e w1 ⟨rfl,hb1⟩
  unfold wG
  have H1:=jF hb1
  clear hb1
  go_wp2_with fail
  go_quiet (simp only [hsf,h1,h2])
  go_wp2_with (simp only [hsf,h1,h2])
  go_ret
  exact ⟨rfl,qV (H1.out.alloc H1.out.size _) _⟩
 ·have h1:bits BinOp.and IntKind.u64 (b:Int) 9218868437227405312=0:=h1
  have h2:bits BinOp.andNot IntKind.u64 (b:Int) 18442240474082181120=0:=h2
  go_enter Tryz.func91,Tryz.ntmps91
  go_wp2_with fail
  refine (qS w).mono ?_
  rintro e w1 ⟨rfl,hb1⟩
  unfold wG
  have H1:=jF hb1
  clear hb1
  go_wp2_with fail
  go_quiet (simp only [hsf,h1,h2])
  go_wp2_with (simp only [hsf,h1,h2])
  go_ret
  exact ⟨rfl,qV (H1.out.alloc H1.out.size _) _⟩
theorem qAN (b:Nat) (w:World) (hb:b<18446744073709551616):Calls Tryz.prog 91 #[.int .u64 b] w fun e w'=>e= .returned (.int .i64 (pG b:Nat))∧Below w.heap.size w w':=by
 refine lS b _ _ _ w hb (qF7 b hb) (qHO b hb) (Nat.mod_lt _ (by omega)) ?_
 have e:b%9223372036854775808=b/4503599627370496%(2047+1)*4503599627370496+b%4503599627370496:=by omega
 have l1:b/4503599627370496%(2047+1)≤2047:=by omega
 have l2:b%4503599627370496<4503599627370496:=Nat.mod_lt _ (by omega)
 unfold pG
 rw [e]
 generalize b/4503599627370496%(2047+1)=x at*
 generalize b%4503599627370496=y at*
 clear e
 by_cases h1:x=2047
 ·subst h1
  rw [if_neg (by omega),if_neg (by omega),if_neg (by omega)]
  by_cases h2:y=0
  ·subst h2;left;simp
  ·rw [if_neg (by omega)]
   by_cases h3:y<2251799813685248
   ·right;right;left;rw [if_pos (by omega)];exact ⟨rfl,h2,h3,rfl⟩
   ·right;left;rw [if_neg (by omega)];exact ⟨rfl,by omega,rfl⟩
 ·by_cases h2:x=0
  ·subst h2
   by_cases h3:y=0
   ·subst h3;right;right;right;right;right;simp
   ·rw [if_neg (by omega),if_pos (by omega)]
    right;right;right;right;left;exact ⟨by omega,h3,rfl⟩
  ·rw [if_neg (by omega),if_neg (by omega),if_pos (by omega)]
   right;right;right;left;exact ⟨by omega,by omega,rfl⟩
end Go.Proofs.YtkpmalfigmimaaaGreatDoor
namespace Go.Proofs.YtkpmalfigmimaaaGreatDoor
open Go.RowKit
theorem zI (b:Nat) (w:World):(callFunc 52 #[.int .u64 b]).run Tryz.prog w= .ok (.value (.float .f64 b)) w:=by
 rw [run_callFunc_extern Tryz.func52 (by kernel_rfl) (by kernel_rfl) (by kernel_rfl) (e:=Extern.MathFloatBits.float64frombits) (by kernel_rfl)]
 rfl
theorem jG (b:Nat) (w:World):Calls Tryz.prog 29 #[.int .u64 b] w fun e w'=>e= .returned (.float .f64 b)∧w'=w:=by
 have hf:=zI b
 go_enter Tryz.func29,Tryz.ntmps29
 go_wp2_with fail
 refine (pX _).mono ?_
 rintro e w1 ⟨rfl,rfl⟩
 go_wp2_with (simp only [hf])
 go_ret
 exact ⟨rfl,rfl⟩
end Go.Proofs.YtkpmalfigmimaaaGreatDoor
namespace Go.Proofs.YtkpmalfigmimaaaGreatDoor
open Go.RowKit
open Flt
theorem xP (x:Nat):rg Ieee.double x=x%9223372036854775808:=rfl
theorem jM:Ieee.double.infRung=9218868437227405312:=by decide +kernel
theorem qLW (x:Nat):rg Ieee.single x=x%2147483648:=rfl
theorem qE2:Ieee.single.infRung=2139095040:=by decide +kernel
theorem fS (x:Nat):Ieee.double.order x x=if 9218868437227405312<x%9223372036854775808 then none else some .eq:=by
 by_cases h:9218868437227405312<x%9223372036854775808
 ·rw [if_pos h];exact order_nan _ (by decide) _ _ (.inl (by rw [xP,jM];exact h))
 ·rw [if_neg h,order_all _ (by decide) _ _ (by rw [xP,jM];omega) (by rw [xP,jM];omega),cmp_eq]
theorem kU (x:Nat) (w:World):Calls Tryz.prog 55 #[.float .f64 x] w fun e w'=>e= .returned (.bool (decide (9218868437227405312<x%9223372036854775808)))∧w'=w:=by
 have ho:FloatKind.f64.format.order x x=if 9218868437227405312<x%9223372036854775808 then none else some .eq:=fS x
 by_cases h:9218868437227405312<x%9223372036854775808
 ·rw [if_pos h] at ho
  rw [decide_eq_true h]
  go_enter Tryz.func55,Tryz.ntmps55
  go_wp2_with (simp only [ho])
  go_ret
  exact ⟨rfl,rfl⟩
 ·rw [if_neg h] at ho
  rw [decide_eq_false h]
  go_enter Tryz.func55,Tryz.ntmps55
  go_wp2_with (simp only [ho])
  go_ret
  exact ⟨rfl,rfl⟩
theorem xZ (b:Nat) (w:World):(callFunc 31 #[.float .f64 b]).run Tryz.prog w= .ok (.value (.int .u64 b)) w:=by
 rw [run_callFunc_extern Tryz.func31 (by kernel_rfl) (by kernel_rfl) (by kernel_rfl) (e:=Extern.MathFloatBits.float64bits) (by kernel_rfl)]
 rfl
theorem qD4 (b:Nat) (w:World):(callFunc 86 #[.float .f32 b]).run Tryz.prog w= .ok (.value (.int .u32 b)) w:=by
 rw [run_callFunc_extern Tryz.func86 (by kernel_rfl) (by kernel_rfl) (by kernel_rfl) (e:=Extern.MathFloatBits.float32bits) (by kernel_rfl)]
 rfl
def qGG (x:Nat):Nat:=if 9218868437227405312<x%9223372036854775808 then 9221120237041090560 else x
theorem gD (x:Nat) (hx:x%9223372036854775808≤9218868437227405312):qGG x=x:=if_neg (by omega)
theorem bW (x:Nat) (hx:9218868437227405312<x%9223372036854775808):qGG x=9221120237041090560:=if_pos hx
theorem zS (x:Nat) (w:World) (hx:x<18446744073709551616):Calls Tryz.prog 34 #[.float .f64 x] w fun e w'=>e= .returned (.int .u64 (qGG x:Nat))∧Below w.heap.size w w':=by
 have ht:=xZ x
 by_cases h:9218868437227405312<x%9223372036854775808
 ·rw [bW x h]
  go_enter Tryz.func34,Tryz.ntmps34
  go_wp2_with fail
  refine (kU x _).mono ?_
  rintro e w1 ⟨rfl,rfl⟩
  rw [decide_eq_true h]
  go_wp2_with fail
  refine (qS _).mono ?_
  rintro e w2 ⟨rfl,hb2⟩
  go_wp2_with fail
  refine (qAE _).mono ?_
  rintro e w3 ⟨rfl,hb3⟩
  go_wp2_with fail
  go_ret
  exact ⟨rfl,hb2.trans (hb3.mono hb2.size)⟩
 ·rw [gD x (by omega)]
  go_enter Tryz.func34,Tryz.ntmps34
  go_wp2_with fail
  refine (kU x _).mono ?_
  rintro e w1 ⟨rfl,rfl⟩
  rw [decide_eq_false h]
  go_wp2_with fail
  refine (pX _).mono ?_
  rintro e w2 ⟨rfl,rfl⟩
  go_wp2_with (simp only [ht])
  go_ret
  exact ⟨rfl,Below.refl _ _⟩
def nG (x:Nat):Prop:=9218868437227405312<x%9223372036854775808∧x<18446744073709551616
theorem sX (op:BinOp) (hop:op= .add∨op= .sub∨op= .mul∨op= .quo) (t:TypeId) (x y:Nat) (h:floatBits op .f64 x y=none) (w:World):
  ∃nb,nG nb∧(binOp op t (.float .f64 x) (.float .f64 y)).run Tryz.prog w= .ok (.float .f64 nb) w.drew:=by
 refine ⟨Question.cut (.nanBits .f64 x y) (w.tape w.drawn (.nanBits .f64 x y)),?_,?_⟩
 ·generalize w.tape w.drawn (.nanBits .f64 x y)=t
  show 9218868437227405312<(t%2*2^63+0x7ff0000000000000+1+t/2%(2^52-1))%9223372036854775808∧(t%2*2^63+0x7ff0000000000000+1+t/2%(2^52-1))<18446744073709551616
  have h1:t/2%(2^52-1)<2^52-1:=Nat.mod_lt _ (by omega)
  have h2:t%2<2:=Nat.mod_lt _ (by omega)
  generalize t/2%(2^52-1)=a at*
  generalize t%2=b at*
  omega
 ·unfold floatBits at h
  rcases hop with rfl|rfl|rfl|rfl<;>simp only at h<;>simp [binOp,Op.floatArith,h,Question.forced]
end Go.Proofs.YtkpmalfigmimaaaGreatDoor
namespace Go.Proofs.YtkpmalfigmimaaaGreatDoor
open Go.RowKit
open Flt
namespace Flt
open Ieee
theorem rg_word (f:Format) (neg:Bool) (r:Nat) (h:r<f.signWeight):rg f (f.word neg r)=r:=by
 unfold rg Format.word
 cases neg
 ·exact Nat.mod_eq_of_lt h
 ·show (f.signWeight+r)%f.signWeight=r
  rw [Nat.add_mod_left];exact Nat.mod_eq_of_lt h
theorem sg_word (f:Format) (neg:Bool) (r:Nat) (h:r<f.signWeight):sg f (f.word neg r)=neg:=by
 unfold sg Format.word
 cases neg
 ·show (r/f.signWeight%2==1)=false
  rw [Nat.div_eq_of_lt h];rfl
 ·show ((f.signWeight+r)/f.signWeight%2==1)=true
  rw [Nat.add_div_left _ (signWeight_pos f),Nat.div_eq_of_lt h];rfl
theorem rg_write (f:Format) (d:Datum) (h:d.isNaN=false):rg f (f.write d)≤f.infRung:=by
 cases d with
 |number neg mag place=>
  show rg f (f.nearest neg mag place)≤_
  rw [nearest_rnd,rg_word f _ _ (Nat.lt_of_le_of_lt (Nat.min_le_right ..) f.infRung_lt)]
  exact Nat.min_le_right ..
 |infinity neg=>
  show rg f (f.word neg f.infRung)≤_
  rw [rg_word f _ _ f.infRung_lt];exact Nat.le_refl _
 |nan neg t=>simp [Datum.isNaN] at h
theorem sum_num {x y d:Datum} (h:x.sum y=some d):d.isNaN=false:=by
 cases x<;>cases y<;>simp only [Datum.sum] at h<;>try (cases h;done)
 ·cases h;rfl
 ·cases h;rfl
 ·cases h;rfl
 ·split at h
  ·cases h;rfl
  ·cases h
theorem product_num {x y d:Datum} (h:x.product y=some d):d.isNaN=false:=by
 cases x<;>cases y<;>simp only [Datum.product] at h<;>try (cases h;done)
 ·cases h;rfl
 ·split at h
  ·cases h
  ·cases h;rfl
 ·split at h
  ·cases h
  ·cases h;rfl
 ·cases h;rfl
theorem quotient_num {n:Nat} {x y d:Datum} (h:x.quotient n y=some d):d.isNaN=false:=by
 cases x<;>cases y<;>simp only [Datum.quotient] at h<;>try (cases h;done)
 ·split at h
  ·split at h
   ·cases h
   ·cases h;rfl
  ·cases h;rfl
 ·cases h;rfl
 ·cases h;rfl
end Flt
theorem sR {o:Option Ieee.Datum} {r:Nat} (h:o.map Ieee.double.write=some r) (hn:∀d,o=some d→d.isNaN=false):r%9223372036854775808≤9218868437227405312∧r<18446744073709551616:=by
 cases o with
 |none=>cases h
 |some d=>
  cases h
  have:=rg_write Ieee.double d (hn d rfl)
  rw [xP,jM] at this
  exact ⟨this,Ieee.double.write_lt d⟩
def gM:Option Nat→Nat
 |some r=>r
 |none=>9221120237041090560
theorem mB {op:BinOp} {a b r:Nat} (h:floatBits op .f64 a b=some r):r%9223372036854775808≤9218868437227405312∧r<18446744073709551616:=by
 unfold floatBits at h
 split at h
 ·exact sR h fun d=>sum_num
 ·exact sR h fun d=>sum_num
 ·exact sR h fun d=>product_num
 ·exact sR h fun d=>quotient_num
 ·cases h
theorem tY (a b:Nat) (w:World):Calls Tryz.prog 181 #[.int .u64 a,.int .u64 b] w fun e w'=>e= .returned (.int .u64 (gM (Ieee.double.mul a b):Nat))∧Below w.heap.size w w':=by
 have hs:floatBits .mul .f64 a b=Ieee.double.mul a b:=rfl
 cases ho:Ieee.double.mul a b with
 |none=>
  rw [ho] at hs
  obtain ⟨nb,hnb,hadd⟩:=sX .mul (by simp) 72 a b hs w
  go_enter Tryz.func181,Tryz.ntmps181
  go_wp2_with fail
  refine (jG a _).mono ?_
  rintro e w1 ⟨rfl,rfl⟩
  go_wp2_with fail
  refine (jG b _).mono ?_
  rintro e w2 ⟨rfl,rfl⟩
  go_wp2_with (simp only [hadd])
  refine (zS nb _ hnb.2).mono ?_
  rintro e w3 ⟨rfl,hb3⟩
  rw [bW nb hnb.1]
  go_wp2_with fail
  go_ret
  exact ⟨rfl,(Below.refl _ _).drew.trans hb3⟩
 |some r=>
  rw [ho] at hs
  obtain ⟨hr1,hr2⟩:=mB hs
  have hadd:=fun w:World=>run_float_arith (P:=Tryz.prog) w .mul 72 .f64 a b r hs
  go_enter Tryz.func181,Tryz.ntmps181
  go_wp2_with fail
  refine (jG a _).mono ?_
  rintro e w1 ⟨rfl,rfl⟩
  go_wp2_with fail
  refine (jG b _).mono ?_
  rintro e w2 ⟨rfl,rfl⟩
  go_wp2_with (simp only [hadd])
  refine (zS r _ hr2).mono ?_
  rintro e w3 ⟨rfl,hb3⟩
  rw [gD r hr1]
  go_wp2_with fail
  go_ret
  exact ⟨rfl,hb3⟩
theorem vZ (x:Nat) (w:World) (hx:x<18446744073709551616):Calls Tryz.prog 206 #[.float .f64 x] w fun e w'=>e= .returned (.bool (decide (9223372036854775808≤x)))∧w'=w:=by
 have ht:=xZ x
 by_cases h:9223372036854775808≤x
 ·obtain ⟨y,hy⟩:∃y:Int,(x:Int)-18446744073709551616=y:=⟨_,rfl⟩
  have hw:wrap64 (x:Int)=y:=by unfold wrap64;omega
  have hw2:IntKind.i64.wrap (x:Int)=y:=by rw [IntKind.wrap_i64];omega
  have hy0:y<0:=by omega
  rw [decide_eq_true h]
  clear h hx hy
  go_enter Tryz.func206,Tryz.ntmps206
  go_wp2_with (simp only [ht,hw,hw2])
  go_ret
  exact ⟨by simp [hy0],rfl⟩
 ·have hw:wrap64 (x:Int)=x:=by unfold wrap64;omega
  have hw2:IntKind.i64.wrap (x:Int)=x:=by rw [IntKind.wrap_i64];omega
  rw [decide_eq_false h]
  clear h hx
  go_enter Tryz.func206,Tryz.ntmps206
  go_wp2_with (simp only [ht,hw,hw2])
  go_ret
  exact ⟨by simp,rfl⟩
theorem qEZ (w:World):Calls Tryz.prog 221 #[] w fun e w'=>e= .returned (.float .f64 9221120237041090561)∧w'=w:=by
 have hf:∀w:World,(callFunc 52 #[.int .u64 9221120237041090561]).run Tryz.prog w= .ok (.value (.float .f64 9221120237041090561)) w:=zI 9221120237041090561
 go_enter Tryz.func221,Tryz.ntmps221
 go_wp2_with (simp only [hf])
 go_ret
 exact ⟨rfl,rfl⟩
theorem qKZ (w:World):Calls Tryz.prog 222 #[.int .i64 1] w fun e w'=>e= .returned (.float .f64 9218868437227405312)∧w'=w:=by
 have hf:∀w:World,(callFunc 52 #[.int .u64 9218868437227405312]).run Tryz.prog w= .ok (.value (.float .f64 9218868437227405312)) w:=zI 9218868437227405312
 go_enter Tryz.func222,Tryz.ntmps222
 go_wp2_with (simp only [hf])
 go_ret
 exact ⟨rfl,rfl⟩
theorem qHL (w:World):Calls Tryz.prog 222 #[.int .i64 (-1)] w fun e w'=>e= .returned (.float .f64 18442240474082181120)∧w'=w:=by
 have hf:∀w:World,(callFunc 52 #[.int .u64 18442240474082181120]).run Tryz.prog w= .ok (.value (.float .f64 18442240474082181120)) w:=zI 18442240474082181120
 go_enter Tryz.func222,Tryz.ntmps222
 go_wp2_with (simp only [hf])
 go_ret
 exact ⟨rfl,rfl⟩
theorem uN (x:Nat):Ieee.double.order x 0=if 9218868437227405312<x%9223372036854775808 then none else if x%9223372036854775808=0 then some .eq else if sg Ieee.double x then some .lt else some .gt:=by
 by_cases h:9218868437227405312<x%9223372036854775808
 ·rw [if_pos h];exact order_nan _ (by decide) _ _ (.inl (by rw [xP,jM];exact h))
 ·rw [if_neg h,order_all _ (by decide) _ _ (by rw [xP,jM];omega) (by rw [xP,jM];omega)]
  have h0:sv Ieee.double 0=0:=by decide
  rw [h0]
  by_cases h1:x%9223372036854775808=0
  ·rw [if_pos h1]
   have:sv Ieee.double x=0:=by unfold sv;rw [xP,h1,V_zero];simp
   rw [this,cmp_eq]
  ·rw [if_neg h1]
   have hv:0<V Ieee.double (rg Ieee.double x):=by
    have:=V_lt (f:=Ieee.double) (show 0<rg Ieee.double x by rw [xP];omega)
    omega
   unfold sv
   by_cases hs:sg Ieee.double x=true
   ·rw [if_pos hs,if_pos hs,cmp_lt (by omega)]
   ·rw [if_neg hs,if_neg hs,cmp_gt (by omega)]
def byN (a:Nat) (t:Bool):Nat:=if 9218868437227405312<a%9223372036854775808∨a%9223372036854775808=0 then 9221120237041090561 else if (decide (9223372036854775808≤a))=t then 9218868437227405312 else 18442240474082181120
theorem pY (a:Nat) (t:Bool) (w:World) (ha:a<18446744073709551616):Calls Tryz.prog 205 #[.float .f64 a,.bool t] w fun e w'=>e= .returned (.float .f64 (byN a t))∧w'=w:=by
 have ho:FloatKind.f64.format.order a 0=_:=uN a
 unfold byN
 by_cases h:9218868437227405312<a%9223372036854775808
 ·rw [if_pos h] at ho
  rw [if_pos (.inl h)]
  go_enter Tryz.func205,Tryz.ntmps205
  go_wp2_with fail
  refine (kU a _).mono ?_
  rintro e w1 ⟨rfl,rfl⟩
  rw [decide_eq_true h]
  go_wp2_with (simp only [ho])
  refine (qEZ _).mono ?_
  rintro e w1 ⟨rfl,rfl⟩
  go_wp2_with fail
  go_ret
  exact ⟨rfl,rfl⟩
 ·rw [if_neg h] at ho
  by_cases h0:a%9223372036854775808=0
  ·rw [if_pos h0] at ho
   rw [if_pos (.inr h0)]
   go_enter Tryz.func205,Tryz.ntmps205
   go_wp2_with fail
   refine (kU a _).mono ?_
   rintro e w1 ⟨rfl,rfl⟩
   rw [decide_eq_false h]
   go_wp2_with (simp only [ho])
   refine (qEZ _).mono ?_
   rintro e w1 ⟨rfl,rfl⟩
   go_wp2_with fail
   go_ret
   exact ⟨rfl,rfl⟩
  ·rw [if_neg h0] at ho
   have ho':FloatKind.f64.format.order a 0=some .lt∨FloatKind.f64.format.order a 0=some .gt:=by
    rw [ho];cases sg Ieee.double a<;>simp
   clear ho
   rw [if_neg (by omega)]
   have HS:=jF (fun w:World=>vZ a w ha)
   generalize decide (9223372036854775808≤a)=s at*
   by_cases hst:s=t
   ·subst hst
    rcases ho' with ho|ho<;>cases s
    all_goals
     go_enter Tryz.func205,Tryz.ntmps205
     go_wp2_with fail
     refine (kU a _).mono ?_
     rintro e w1 ⟨rfl,rfl⟩
     rw [decide_eq_false h]
     go_wp2_with (simp only [ho])
     refine (HS.out _).mono ?_
     rintro e w1 ⟨rfl,rfl⟩
     go_wp2_with fail
     refine (qKZ _).mono ?_
     rintro e w1 ⟨rfl,rfl⟩
     go_wp2_with fail
     go_ret
     exact ⟨rfl,rfl⟩
   ·obtain rfl:t=!s:=by cases s<;>cases t<;>simp_all
    clear hst
    rcases ho' with ho|ho<;>cases s
    all_goals
     go_enter Tryz.func205,Tryz.ntmps205
     go_wp2_with fail
     refine (kU a _).mono ?_
     rintro e w1 ⟨rfl,rfl⟩
     rw [decide_eq_false h]
     go_wp2_with (simp only [ho])
     refine (HS.out _).mono ?_
     rintro e w1 ⟨rfl,rfl⟩
     go_wp2_with fail
     refine (qHL _).mono ?_
     rintro e w1 ⟨rfl,rfl⟩
     go_wp2_with fail
     go_ret
     exact ⟨rfl,rfl⟩
theorem qJ4 (x:Nat) (hx:x<18446744073709551616):sg Ieee.double x=decide (9223372036854775808≤x):=by
 show (x/9223372036854775808%2==1)=_
 have h:x/9223372036854775808=0∨x/9223372036854775808=1:=by omega
 rcases h with h|h
 ·rw [h,decide_eq_false (by omega)];rfl
 ·rw [h,decide_eq_true (by omega)];rfl
theorem qDX (a b:Nat) (ha:a<18446744073709551616) (hb:b<18446744073709551616) (h0:b%9223372036854775808=0):gM (Ieee.double.div a b)=qGG (byN a (decide (9223372036854775808≤b))):=by
 obtain ⟨n,l,e3,e4,_⟩:=read_fin Ieee.double b (by rw [xP,jM];omega)
 have hn:n=0:=by
  rw [xP,h0,V_zero] at e4
  rcases Nat.mul_eq_zero.1 e4 with h|h
  ·exact h
  ·have:=Nat.two_pow_pos l;omega
 subst hn
 unfold Ieee.Format.div byN
 rw [e3,qJ4 b hb]
 have hnan:qGG 9221120237041090561=9221120237041090560:=by decide +kernel
 rcases Nat.lt_trichotomy (a%9223372036854775808) 9218868437227405312 with h|h|h
 ·obtain ⟨m,k,e1,e2,_⟩:=read_fin Ieee.double a (by rw [xP,jM];exact h)
  rw [e1,qJ4 a ha]
  simp only [Ieee.Datum.quotient,if_true]
  by_cases hm:m=0
  ·have hz:a%9223372036854775808=0:=by
    rw [hm,Nat.zero_mul] at e2
    have:=V_inj (f:=Ieee.double) (r:=rg Ieee.double a) (s:=0) (by rw [←e2,V_zero])
    rw [xP] at this;exact this
   rw [if_pos hm,if_pos (.inr hz),hnan]
   rfl
  ·have hz:a%9223372036854775808≠0:=by
    intro hz
    rw [xP,hz,V_zero] at e2
    rcases Nat.mul_eq_zero.1 e2 with h|h
    ·exact hm h
    ·have:=Nat.two_pow_pos k;omega
   rw [if_neg hm,if_neg (by omega)]
   cases decide (9223372036854775808≤a)<;>cases decide (9223372036854775808≤b)<;>decide +kernel
 ·rw [read_inf Ieee.double a (by decide) (by rw [xP,jM];exact h),qJ4 a ha]
  simp only [Ieee.Datum.quotient]
  rw [if_neg (by omega)]
  cases decide (9223372036854775808≤a)<;>cases decide (9223372036854775808≤b)<;>decide +kernel
 ·rw [read_nan Ieee.double a (by decide) (by rw [xP,jM];exact h),if_pos (.inl h),hnan]
  rfl
theorem qEV (a b:Nat) (w:World) (ha:a<18446744073709551616) (hb:b<18446744073709551616):Calls Tryz.prog 182 #[.int .u64 a,.int .u64 b] w fun e w'=>e= .returned (.int .u64 (gM (Ieee.double.div a b):Nat))∧Below w.heap.size w w':=by
 have hz:FloatKind.f64.format.order b 0=_:=uN b
 by_cases h0:b%9223372036854775808=0
 ·rw [if_neg (by omega),if_pos h0] at hz
  rw [qDX a b ha hb h0]
  have HS:=jF (fun w:World=>vZ b w hb)
  have hbl:byN a (decide (9223372036854775808≤b))<18446744073709551616:=by unfold byN;split;omega;split<;>omega
  have HB:=jF (fun w:World=>pY a (decide (9223372036854775808≤b)) w ha)
  generalize decide (9223372036854775808≤b)=t at*
  generalize byN a t=y at*
  clear h0 ha hb
  go_enter Tryz.func182,Tryz.ntmps182
  go_wp2_with fail
  refine (jG a _).mono ?_
  rintro e w1 ⟨rfl,rfl⟩
  go_wp2_with fail
  refine (jG b _).mono ?_
  rintro e w2 ⟨rfl,rfl⟩
  go_wp2_with (simp only [hz])
  refine (HS.out _).mono ?_
  rintro e w2 ⟨rfl,rfl⟩
  go_wp2_with fail
  refine (HB.out _).mono ?_
  rintro e w2 ⟨rfl,rfl⟩
  go_wp2_with fail
  refine (zS y _ hbl).mono ?_
  rintro e w3 ⟨rfl,hb3⟩
  go_wp2_with fail
  go_ret
  exact ⟨rfl,hb3⟩
 ·rw [if_neg h0] at hz
  have hz':FloatKind.f64.format.order b 0=none∨FloatKind.f64.format.order b 0=some .lt∨FloatKind.f64.format.order b 0=some .gt:=by
   rw [hz];split
   ·simp
   ·cases sg Ieee.double b<;>simp
  clear hz
  have hs:floatBits .quo .f64 a b=Ieee.double.div a b:=rfl
  cases ho:Ieee.double.div a b with
  |none=>
   rw [ho] at hs
   obtain ⟨nb,hnb,hadd⟩:=sX .quo (by simp) 72 a b hs w
   rcases hz' with hz|hz|hz
   all_goals
    go_enter Tryz.func182,Tryz.ntmps182
    go_wp2_with fail
    refine (jG a _).mono ?_
    rintro e w1 ⟨rfl,rfl⟩
    go_wp2_with fail
    refine (jG b _).mono ?_
    rintro e w2 ⟨rfl,rfl⟩
    go_wp2_with (simp only [hadd,hz])
    refine (zS nb _ hnb.2).mono ?_
    rintro e w3 ⟨rfl,hb3⟩
    rw [bW nb hnb.1]
    go_wp2_with fail
    go_ret
    exact ⟨rfl,(Below.refl _ _).drew.trans hb3⟩
  |some r=>
   rw [ho] at hs
   obtain ⟨hr1,hr2⟩:=mB hs
   have hadd:=fun w:World=>run_float_arith (P:=Tryz.prog) w .quo 72 .f64 a b r hs
   rcases hz' with hz|hz|hz
   all_goals
    go_enter Tryz.func182,Tryz.ntmps182
    go_wp2_with fail
    refine (jG a _).mono ?_
    rintro e w1 ⟨rfl,rfl⟩
    go_wp2_with fail
    refine (jG b _).mono ?_
    rintro e w2 ⟨rfl,rfl⟩
    go_wp2_with (simp only [hadd,hz])
    refine (zS r _ hr2).mono ?_
    rintro e w3 ⟨rfl,hb3⟩
    rw [gD r hr1]
    go_wp2_with fail
    go_ret
    exact ⟨rfl,hb3⟩
end Go.Proofs.YtkpmalfigmimaaaGreatDoor
namespace Go.Proofs.YtkpmalfigmimaaaGreatDoor
namespace Flt
open Ieee
theorem nearest_exact (f:Format) (neg:Bool) (m R:Nat) (p:Int) (hR:R≤f.infRung) (h:m*2^(p-f.leastPlace).toNat=V f R*2^(f.leastPlace-p).toNat):f.nearest neg m p=f.word neg R:=by
 rw [nearest_rnd]
 refine congrArg _ ?_
 rw [rnd_eq f (d':=1) (n':=V f R) (Nat.two_pow_pos _) (by omega) (by rw [Nat.mul_one];exact h),rnd_V]
 exact Nat.min_eq_left hR
theorem repr (f:Format) (c k:Nat) (h:c<2*f.binade):∃R,V f R=c*2^k:=by
 by_cases h0:c=0
 ·exact ⟨0,by rw [h0,V_zero,Nat.zero_mul]⟩
 ·have hl:c.log2≤f.fractionBits:=by
   have:c.log2<f.fractionBits+1:=(Nat.log2_lt h0).2 (by rw [Nat.pow_succ,Nat.mul_comm];exact h)
   omega
  refine ⟨(k-min k (f.fractionBits-c.log2))*f.binade+c*2^(min k (f.fractionBits-c.log2)),?_⟩
  have h1:c*2^(min k (f.fractionBits-c.log2))<2*f.binade:=by
   have a1:=Nat.mul_lt_mul_of_pos_right (Nat.lt_log2_self (n:=c)) (Nat.two_pow_pos (min k (f.fractionBits-c.log2)))
   rw [←Nat.pow_add] at a1
   have a2:2^(c.log2+1+min k (f.fractionBits-c.log2))≤2^(f.fractionBits+1):=Nat.pow_le_pow_right (by omega) (by omega)
   have a3:2^(f.fractionBits+1)=2*f.binade:=by rw [Nat.pow_succ,Nat.mul_comm];rfl
   omega
  have h2:k-min k (f.fractionBits-c.log2)=0∨f.binade≤c*2^(min k (f.fractionBits-c.log2)):=by
   rcases Nat.le_total k (f.fractionBits-c.log2) with h3|h3
   ·left;omega
   ·right
    rw [Nat.min_eq_right h3]
    have:=Nat.mul_le_mul_right (2^(f.fractionBits-c.log2)) (Nat.log2_self_le h0)
    rw [←Nat.pow_add,Nat.add_sub_cancel' hl] at this
    exact this
  rw [(V_at f _ _ h1 h2).1,Nat.mul_assoc,←Nat.pow_add]
  congr 2
  omega
theorem word_self (f:Format) (w:Nat) (h:w<2*f.signWeight):f.word (sg f w) (rg f w)=w:=by
 have hs:=signWeight_pos f
 have hd:=Nat.div_add_mod w f.signWeight
 have hq:w/f.signWeight<2:=by rw [Nat.div_lt_iff_lt_mul hs];exact h
 unfold Format.word sg rg
 by_cases h1:w/f.signWeight=1
 ·rw [h1,Nat.mul_one] at hd
  rw [h1]
  simp only [show (1%2==1)=true from rfl,if_true]
  exact hd
 ·have h2:w/f.signWeight=0:=by generalize w/f.signWeight=q at*;omega
  rw [h2,Nat.mul_zero,Nat.zero_add] at hd
  rw [h2]
  simp only [show (0%2==1)=false from rfl,Bool.false_eq_true,if_false]
  exact hd
theorem V_inf (f:Format) (h:1≤f.exponentBits):V f f.infRung=2^(f.fractionBits+(2^f.exponentBits-2)):=by
 have hp:2^1≤2^f.exponentBits:=Nat.pow_le_pow_right (by omega) h
 have e:f.infRung=(2^f.exponentBits-2)*f.binade+f.binade:=by
  unfold Format.infRung
  rw [←Nat.succ_mul]
  exact congrArg (· *f.binade) (by omega)
 rw [e,(V_at f _ f.binade (by have:=binade_pos f;omega) (.inr (Nat.le_refl _))).1,Nat.pow_add]
 rfl
def gapE:Nat:=925
theorem widened (f:Nat) (h:rg single f<single.infRung):∃R m' k':Nat,(R<double.infRung∧V double R=V single (rg single f)*2^gapE)∧(∃m k:Nat,single.read f= .number (sg single f) m (single.leastPlace+k)∧double.nearest (sg single f) m (single.leastPlace+k)=double.word (sg single f) R)∧
  double.read (double.word (sg single f) R)= .number (sg single f) m' (double.leastPlace+k')∧single.nearest (sg single f) m' (double.leastPlace+k')=single.word (sg single f) (rg single f):=by
 obtain ⟨m,k,e1,e2,e3,e4⟩:=read_fin single f h
 have hm:m<2*double.binade:=Nat.lt_trans e3 (by decide)
 have hE:gapE=925:=rfl
 obtain ⟨R,hR⟩:=repr double m (k+gapE) hm
 have hRi:R<double.infRung:=by
  rw [←V_lt_iff (f:=double),hR,V_inf double (by decide),Nat.pow_add,←Nat.mul_assoc,e2]
  have:=V_lt (f:=single) h
  rw [V_inf single (by decide)] at this
  refine Nat.lt_trans (Nat.mul_lt_mul_of_pos_right this (Nat.two_pow_pos _)) ?_
  rw [←Nat.pow_add]
  refine Nat.pow_lt_pow_right (by omega) ?_
  rw [hE];decide
 have hl1:double.leastPlace= -1074:=by decide
 have hl2:single.leastPlace= -149:=by decide
 have hRs:R<double.signWeight:=Nat.lt_trans hRi double.infRung_lt
 obtain ⟨m',k',g1,g2,_⟩:=read_fin double (double.word (sg single f) R) (by rw [rg_word _ _ _ hRs];exact hRi)
 rw [sg_word _ _ _ hRs] at g1
 rw [rg_word _ _ _ hRs] at g2
 refine ⟨R,m',k',⟨hRi,by rw [hR,Nat.pow_add,←Nat.mul_assoc,e2]⟩,⟨m,k,e1,?_⟩,g1,?_⟩
 ·refine nearest_exact double _ m R _ (Nat.le_of_lt hRi) ?_
  rw [hl1,hl2,hR,show (-149+(k:Int)- -1074).toNat=k+gapE by omega,show (-1074-(-149+(k:Int))).toNat=0 by omega,Nat.pow_zero,Nat.mul_one]
 ·refine nearest_exact single _ m' _ _ (Nat.le_of_lt h) ?_
  rw [hl1,hl2,←e2]
  rw [hR] at g2
  rcases Nat.le_total gapE k' with h1|h1
  ·rw [show (-1074+(k':Int)- -149).toNat=k'-gapE by omega,show (-149-(-1074+(k':Int))).toNat=0 by omega,Nat.pow_zero,Nat.mul_one]
   refine Nat.eq_of_mul_eq_mul_right (Nat.two_pow_pos gapE) ?_
   rw [Nat.mul_assoc,Nat.mul_assoc,←Nat.pow_add,←Nat.pow_add,Nat.sub_add_cancel h1]
   exact g2
  ·rw [show (-1074+(k':Int)- -149).toNat=0 by omega,show (-149-(-1074+(k':Int))).toNat=gapE-k' by omega,Nat.pow_zero,Nat.mul_one]
   refine Nat.eq_of_mul_eq_mul_right (Nat.two_pow_pos k') ?_
   rw [Nat.mul_assoc,Nat.mul_assoc,←Nat.pow_add,←Nat.pow_add,show k+(gapE-k'+k')=k+gapE by omega]
   exact g2
end Flt
end Go.Proofs.YtkpmalfigmimaaaGreatDoor
namespace Go.Proofs.YtkpmalfigmimaaaGreatDoor
namespace Flt
open Ieee
theorem cutE_eq {n u n' u':Nat} (hu:0<u) (hu':0<u') (h:n*u'=n'*u):cutE n u=cutE n' u':=by
 rw [←cutE_scale n u u' hu',←cutE_scale n' u' u hu,h,Nat.mul_comm u u']
end Flt
end Go.Proofs.YtkpmalfigmimaaaGreatDoor
namespace Go.Proofs.YtkpmalfigmimaaaGreatDoor
namespace Flt
open Ieee
theorem natAbs_scale (z:Int) (c:Nat):(z*(c:Int)).natAbs=z.natAbs*c:=by rw [Int.natAbs_mul];rfl
def sgn2 (s t:Bool) (z:Int):Bool:=if z=0 then s&&t else decide (z<0)
theorem sgn2_scale (s t:Bool) (z c:Int) (h:0<c):sgn2 s t (z*c)=sgn2 s t z:=by
 unfold sgn2
 rcases Int.lt_trichotomy z 0 with h1|h1|h1
 ·have h2:z*c<0:=by
   have:=Int.mul_lt_mul_of_pos_right h1 h
   rwa [Int.zero_mul] at this
  rw [if_neg (by omega),if_neg (by omega),decide_eq_true h1,decide_eq_true h2]
 ·subst h1;rw [Int.zero_mul]
 ·have h2:0<z*c:=Int.mul_pos h1 h
  rw [if_neg (by omega),if_neg (by omega),decide_eq_false (by omega),decide_eq_false (by omega)]
theorem sum_rnd (f:Format) (s t:Bool) (m n:Nat) (i j:Int) (X Y D:Nat) (hX:m*2^(i-min i j).toNat*2^(min i j-f.leastPlace).toNat*D=X*2^(f.leastPlace-min i j).toNat) (hY:n*2^(j-min i j).toNat*2^(min i j-f.leastPlace).toNat*D=Y*2^(f.leastPlace-min i j).toNat) (hD:0<D):
  ((Datum.number s m i).sum (.number t n j)).map f.write=some (f.word (sgn2 s t (signed s X 0+signed t Y 0)) (min (rnd f (signed s X 0+signed t Y 0).natAbs D) f.infRung)):=by
 simp only [Datum.sum,Option.map_some,Format.write]
 rw [nearest_rnd]
 generalize (i-min i j).toNat=p at*
 generalize (j-min i j).toNat=q at*
 generalize (min i j-f.leastPlace).toNat=A at*
 generalize (f.leastPlace-min i j).toNat=B at*
 have key:(signed s m p+signed t n q)*((2^A*D:Nat):Int)=(signed s X 0+signed t Y 0)*((2^B:Nat):Int):=by
  have one:∀(s:Bool) (m p X:Nat),m*2^p*2^A*D=X*2^B→signed s m p*((2^A*D:Nat):Int)=signed s X 0*((2^B:Nat):Int):=by
   intro s m p X h
   unfold signed
   simp only [Nat.shiftLeft_eq,Nat.pow_zero,Nat.mul_one]
   cases s
   ·simp only [Bool.false_eq_true,if_false]
    rw [←Int.natCast_mul,←Int.natCast_mul,←h];congr 1;simp only [Nat.mul_assoc]
   ·simp only [if_true]
    rw [Int.neg_mul,Int.neg_mul,←Int.natCast_mul,←Int.natCast_mul,←h];congr 2;simp only [Nat.mul_assoc]
  rw [Int.add_mul,Int.add_mul,one s m p X hX,one t n q Y hY]
 have hA:(0:Int)<((2^A*D:Nat):Int):=by exact_mod_cast Nat.mul_pos (Nat.two_pow_pos A) hD
 have hB:(0:Int)<((2^B:Nat):Int):=by exact_mod_cast Nat.two_pow_pos B
 generalize signed s m p+signed t n q=z at*
 generalize signed s X 0+signed t Y 0=y at*
 have e1:sgn2 s t z=sgn2 s t y:=by rw [←sgn2_scale s t z _ hA,←sgn2_scale s t y _ hB,key]
 have e2:z.natAbs*(2^A*D)=y.natAbs*2^B:=by rw [←natAbs_scale,←natAbs_scale,key]
 show some (f.word (sgn2 s t z) _)=_
 rw [e1]
 refine congrArg _ (congrArg _ (congrArg (min · _) ?_))
 refine rnd_eq f (Nat.two_pow_pos _) hD ?_
 rw [Nat.mul_assoc];exact e2
theorem fma_rnd (f:Format) (T a b c:Nat) (hT:f.leastPlace= -(T:Int)) (ha:rg f a<f.infRung) (hb:rg f b<f.infRung) (hc:rg f c<f.infRung):
  f.fma a b c=some (f.word (sgn2 (sg f a^^sg f b) (sg f c) (signed (sg f a^^sg f b) (V f (rg f a)*V f (rg f b)) 0+signed (sg f c) (V f (rg f c)*2^T) 0))
   (min (rnd f (signed (sg f a^^sg f b) (V f (rg f a)*V f (rg f b)) 0+signed (sg f c) (V f (rg f c)*2^T) 0).natAbs (2^T)) f.infRung)):=by
 obtain ⟨m,k,e1,e2,_⟩:=read_fin f a ha
 obtain ⟨n,l,e3,e4,_⟩:=read_fin f b hb
 obtain ⟨o,j,e5,e6,_⟩:=read_fin f c hc
 unfold Format.fma
 rw [e1,e3,e5]
 simp only [Datum.product,Option.bind_some]
 refine sum_rnd f _ _ (m*n) o _ _ _ _ (2^T) ?_ ?_ (Nat.two_pow_pos _)
 ·rw [←e2,←e4]
  rw [show m*2^k*(n*2^l)=m*n*(2^k*2^l) by simp only [Nat.mul_assoc,Nat.mul_left_comm,Nat.mul_comm]]
  simp only [Nat.mul_assoc,←Nat.pow_add]
  congr 3;omega
 ·rw [←e6]
  simp only [Nat.mul_assoc,←Nat.pow_add]
  congr 2;omega
theorem narrow_rnd (a:Nat) (ha:rg double a<double.infRung) (neg:Bool) (m:Nat) (p:Int) (h:double.read a= .number neg m p):
  single.nearest neg m p=single.word neg (min (rnd single (V double (rg double a)) (2^gapE)) single.infRung):=by
 obtain ⟨m',k,e1,e2,_⟩:=read_fin double a ha
 rw [h] at e1
 injection e1 with h1 h2 h3
 subst h2 h3
 rw [nearest_rnd]
 refine congrArg _ (congrArg (min · _) ?_)
 have hl1:double.leastPlace= -1074:=by decide
 have hl2:single.leastPlace= -149:=by decide
 have hE:gapE=925:=rfl
 refine rnd_eq single (Nat.two_pow_pos _) (Nat.two_pow_pos _) ?_
 rw [←e2,hl1,hl2]
 simp only [Nat.mul_assoc,←Nat.pow_add]
 congr 2;omega
end Flt
end Go.Proofs.YtkpmalfigmimaaaGreatDoor
namespace Go.Proofs.YtkpmalfigmimaaaGreatDoor
namespace Flt
open Ieee
theorem rnd_mono (f:Format) (hf:1≤f.fractionBits) (n d n' d':Nat) (hd:0<d) (hd':0<d') (h:n*d'≤n'*d):rnd f n d≤rnd f n' d':=by
 obtain ⟨r,a1,a2,a3⟩:=rnd_spec f hf n d hd
 obtain ⟨s,b1,b2,b3⟩:=rnd_spec f hf n' d' hd'
 rw [a3,b3]
 have hrs:r<s+1:=by
  rw [←V_lt_iff (f:=f)]
  refine Nat.lt_of_mul_lt_mul_right (a:=d*d') ?_
  calc V f r*(d*d')=V f r*d*d':=by rw [Nat.mul_assoc]
   _≤n*d':=Nat.mul_le_mul_right _ a1
   _≤n'*d:=h
   _<V f (s+1)*d'*d:=Nat.mul_lt_mul_of_pos_right b2 hd
   _=V f (s+1)*(d*d'):=by rw [Nat.mul_assoc,Nat.mul_comm d' d]
 rcases Nat.lt_or_ge r s with h1|h1
 ·split<;>split<;>omega
 ·have:r=s:=by omega
  subst this
  have key:((V f r+V f (r+1))*d<2*n∨((V f r+V f (r+1))*d=2*n∧r%2=1))→((V f r+V f (r+1))*d'<2*n'∨((V f r+V f (r+1))*d'=2*n'∧r%2=1)):=by
   generalize V f r+V f (r+1)=M
   rintro (h2|⟨h2,h3⟩)
   ·left
    refine Nat.lt_of_mul_lt_mul_right (a:=d) ?_
    have:=Nat.mul_lt_mul_of_pos_right h2 hd'
    calc M*d'*d=M*d*d':=Nat.mul_right_comm ..
     _<2*n*d':=this
     _=2*(n*d'):=Nat.mul_assoc ..
     _≤2*(n'*d):=Nat.mul_le_mul_left _ h
     _=2*n'*d:=(Nat.mul_assoc ..).symm
   ·have h4:M*d'*d≤2*n'*d:=by
     calc M*d'*d=M*d*d':=Nat.mul_right_comm ..
      _=2*n*d':=by rw [h2]
      _=2*(n*d'):=Nat.mul_assoc ..
      _≤2*(n'*d):=Nat.mul_le_mul_left _ h
      _=2*n'*d:=(Nat.mul_assoc ..).symm
    have h5:=Nat.le_of_mul_le_mul_right h4 hd
    rcases Nat.lt_or_ge (M*d') (2*n') with h6|h6
    ·exact .inl h6
    ·exact .inr ⟨by omega,h3⟩
  by_cases h2:(V f r+V f (r+1))*d<2*n∨((V f r+V f (r+1))*d=2*n∧r%2=1)
  ·rw [if_pos h2,if_pos (key h2)];exact Nat.le_refl _
  ·rw [if_neg h2];split<;>omega
end Flt
end Go.Proofs.YtkpmalfigmimaaaGreatDoor
