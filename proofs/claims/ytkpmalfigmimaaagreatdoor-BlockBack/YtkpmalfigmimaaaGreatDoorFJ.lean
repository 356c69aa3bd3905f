import Derived.Test.YtkpmalfigmimaaaGreatDoorD1A
import Derived.Test.YtkpmalfigmimaaaGreatDoorP1B32
import Derived.Test.YtkpmalfigmimaaaGreatDoorCards
import Derived.Test.YtkpmalfigmimaaaGreatDoorTie
import Derived.LaidMore
import Derived.Lay
import Derived.SevenTiedAt
import Derived.ProofKit
import Derived.OpenShut
import Derived.Deep.Slices
import Derived.Lib.SmallJoins
import Derived.Deep.MidRow
import Derived.SizedLaws
set_option linter.unusedVariables false
set_option linter.unusedSimpArgs false
set_option maxRecDepth 100000
set_option maxHeartbeats 8000000
namespace Go.Proofs.YtkpmalfigmimaaaGreatDoor
open Go.ChangeShapes Go.WideShapes Go.Deep Go.Joins
open M
open Go.ChangeAt Go.RowKit
def bF : List (String × DataW Unit) := [("math/bits.deBruijn64tab", Rows.laid_math_bits_deBruijn64tab), ("fathom/block.changes", Rows.laid_fathom_block_changes)]
theorem qLO : Tryz.prog.globalNamed "math/bits.deBruijn64tab" = some 2 := by kernel_rfl
theorem qLU:(Tryz.prog.globals[2]?).map (·.type)=some 258:=by kernel_rfl
theorem qKS : Tryz.prog.globalNamed "fathom/block.changes" = some 1 := by kernel_rfl
theorem qLI:(Tryz.prog.globals[1]?).map (·.type)=some 127:=by kernel_rfl
theorem qKP:Tryz.prog.cellsOf 5=1:=by kernel_rfl
theorem qJ9:Tryz.prog.cellsOf 57=1:=by kernel_rfl
theorem qHV {H:Type}:(Rows.laid_math_bits_deBruijn64tab:DataW H)= .agg (Lib.deBruijn64tab.map fun n:Nat=> .lit (.int .u8 (n:Int))):=rfl
theorem qGC {H:Type}:(Rows.laid_fathom_block_changes:DataW H)= .agg (xY.map fun n:Nat=> .lit (.int .u32 (n:Int))):=rfl
theorem mB {W:World} (h:laidMetH Tryz.prog bF W):qT W∧nG W:=by
 rw [MakeChecks.laidMetH_plain _ _ _ (by kernel_rfl)] at h
 obtain ⟨ps,⟨g,t,cs,fuel,p,q,hg,ht,hv,hd,⟨g2,t2,cs2,fuel2,p2,q2,hg2,ht2,hv2,hd2,_,_⟩,_⟩,_,_⟩:=h
 obtain rfl:=Option.some.inj (qLO.symm.trans hg)
 obtain rfl:=Option.some.inj (qLU.symm.trans ht)
 obtain rfl:=Option.some.inj (qKS.symm.trans hg2)
 obtain rfl:=Option.some.inj (qLI.symm.trans ht2)
 constructor
 ·obtain ⟨xs,m,_,ex,hlen,hl,hel⟩:=DataW.trod_array Tryz.underlying258 hd
  rw [qHV] at ex
  have ex2:=DataW.agg.inj (Prod.mk.inj ex).1
  intro j hj
  rw [World.var?_cell qLO hv j]
  have hjx:j<xs.length:=by omega
  have k:=hel j hj
  rw [qKP,Nat.mul_one,List.getElem?_eq_getElem hjx] at k
  obtain ⟨z,a,b,_⟩:=DataW.trod_int Tryz.underlying5 k
  have hz:(Lib.deBruijn64tab.map fun n:Nat=>(.lit (.int .u8 (n:Int)):DataW Unit))[j]?=some (.lit (.int .u8 z)):=by
   rw [ex2,List.getElem?_map,List.getElem?_eq_getElem hjx,Option.map_some,b]
  have hjt:j<Lib.deBruijn64tab.length:=hj
  rw [List.getElem?_map,List.getElem?_eq_getElem hjt,Option.map_some] at hz
  simp only [Option.some.injEq,DataW.lit.injEq,Lit.int.injEq,true_and] at hz
  have hc:cs.toList[j]?=some (.int .u8 z):=by
   have:=congrArg (·[0]?) a
   simpa [List.getElem?_take,List.getElem?_drop] using this
  have hg2:Lib.deBruijn64tab.getD j 0=Lib.deBruijn64tab[j]:=by simp [List.getD,List.getElem?_eq_getElem hjt]
  rw [hg2,hz,←hc]
  simp
 ·obtain ⟨xs,m,_,ex,hlen,hl,hel⟩:=DataW.trod_array Tryz.underlying127 hd2
  rw [qGC] at ex
  have ex2:=DataW.agg.inj (Prod.mk.inj ex).1
  intro j hj
  rw [World.var?_cell qKS hv2 j]
  have hjx:j<xs.length:=by omega
  have k:=hel j hj
  rw [qJ9,Nat.mul_one,List.getElem?_eq_getElem hjx] at k
  obtain ⟨z,a,b,_⟩:=DataW.trod_int Tryz.underlying57 k
  have hz:(xY.map fun n:Nat=>(.lit (.int .u32 (n:Int)):DataW Unit))[j]?=some (.lit (.int .u32 z)):=by
   rw [ex2,List.getElem?_map,List.getElem?_eq_getElem hjx,Option.map_some,b]
  have hjt:j<xY.length:=hj
  rw [List.getElem?_map,List.getElem?_eq_getElem hjt,Option.map_some] at hz
  simp only [Option.some.injEq,DataW.lit.injEq,Lit.int.injEq,true_and] at hz
  have hc:cs2.toList[j]?=some (.int .u32 z):=by
   have:=congrArg (·[0]?) a
   simpa [List.getElem?_take,List.getElem?_drop] using this
  have hg2:xY.getD j 0=xY[j]:=by simp [List.getD,List.getElem?_eq_getElem hjt]
  rw [hg2,hz,←hc]
  simp
end Go.Proofs.YtkpmalfigmimaaaGreatDoor
namespace Go.Proofs.YtkpmalfigmimaaaGreatDoor
open Go.RowKit
def kR (b:Nat):Nat:=if b<9223372036854775808 then 9223372036854775808+b else 18446744073709551615-b
def kK (k:Nat):Nat:=if k<9223372036854775808 then 18446744073709551615-k else k-9223372036854775808
def pA (b:Nat):Nat:=if b%9223372036854775808=0 then 0 else if b%9223372036854775808<4503599627370496 then 1 else if b%9223372036854775808<9218868437227405312 then 2 else if b%9223372036854775808=9218868437227405312 then 3 else if b%9223372036854775808<9221120237041090560 then 5 else 4
theorem rW (b:Nat) (hb:b<18446744073709551616):kR b<18446744073709551616:=by unfold kR;split<;>omega
theorem vB (b:Nat) (hb:b<18446744073709551616):kK b<18446744073709551616:=by unfold kK;split<;>omega
theorem yW (b:Nat) (hb:b<18446744073709551616):kK (kR b)=b:=by unfold kK kR;split<;>split<;>omega
theorem bE (b:Nat) (hb:b<18446744073709551616):kR (kK b)=b:=by unfold kK kR;split<;>split<;>omega
theorem vA (w:World):(Instr.field 75 (.agg #[.int .u64 9223372036854775808,.int .u64 9218868437227405312,.int .u64 2251799813685248]) 0).run Tryz.prog w= .ok (.int .u64 9223372036854775808) w:=by kernel_rfl
theorem uC (b:Nat) (w:World) (hb:b<18446744073709551616):Calls Tryz.prog 17 #[.int .u64 b] w fun e w'=>e= .returned (.int .u64 (kR b:Nat))∧Below w.heap.size w w':=by
 unfold kR
 by_cases h:b<9223372036854775808
 ·rw [if_pos h]
  have hx:=gY b h
  have hy:=lC b h
  go_enter Tryz.func17,Tryz.ntmps17
  go_wp2_with fail
  refine (qU w).mono ?_
  rintro e w1 ⟨rfl,hb1⟩
  unfold wC
  have hf:=vA
  go_wp2_with (simp only [hx,hy,hf])
  go_ret
  exact ⟨rfl,hb1⟩
 ·rw [if_neg h]
  have hx:=gX b (by omega) hb
  have hy:=qEP b hb
  go_enter Tryz.func17,Tryz.ntmps17
  go_wp2_with fail
  refine (qU w).mono ?_
  rintro e w1 ⟨rfl,hb1⟩
  unfold wC
  have hf:=vA
  go_wp2_with (simp only [hx,hy,hf])
  go_ret
  exact ⟨rfl,hb1⟩
theorem nE (b:Nat) (w:World) (hb:b<18446744073709551616):Calls Tryz.prog 72 #[.int .u64 b] w fun e w'=>e= .returned (.int .u64 (kK b:Nat))∧Below w.heap.size w w':=by
 unfold kK
 by_cases h:b<9223372036854775808
 ·rw [if_pos h]
  have hx:=gY b h
  have hy:=qEP b hb
  go_enter Tryz.func72,Tryz.ntmps72
  go_wp2_with fail
  refine (qU w).mono ?_
  rintro e w1 ⟨rfl,hb1⟩
  unfold wC
  have hf:=vA
  go_wp2_with (simp only [hx,hy,hf])
  go_ret
  exact ⟨rfl,hb1⟩
 ·rw [if_neg h]
  have hx:=gX b (by omega) hb
  have hy:=qD5 b (by omega) hb
  go_enter Tryz.func72,Tryz.ntmps72
  go_wp2_with fail
  refine (qU w).mono ?_
  rintro e w1 ⟨rfl,hb1⟩
  unfold wC
  have hf:=vA
  go_wp2_with (simp only [hx,hy,hf])
  go_ret
  exact ⟨rfl,hb1⟩
end Go.Proofs.YtkpmalfigmimaaaGreatDoor
namespace Go.Proofs.YtkpmalfigmimaaaGreatDoor
open Go.RowKit
theorem lF (b fl y c:Nat) (w:World) (hb:b<18446744073709551616) (h1:bits BinOp.and IntKind.u64 (b:Int) 9218868437227405312=(fl:Int)) (h2:bits BinOp.andNot IntKind.u64 (b:Int) 18442240474082181120=(y:Int)) (hy:y<4503599627370496)
  (hc:(fl=9218868437227405312∧y=0∧c=3)∨(fl=9218868437227405312∧2251799813685248≤y∧c=4)∨(fl=9218868437227405312∧y≠0∧y<2251799813685248∧c=5)∨(fl≠9218868437227405312∧fl≠0∧c=2)∨(fl=0∧y≠0∧c=1)∨(fl=0∧y=0∧c=0)):
  Calls Tryz.prog 91 #[.int .u64 b] w fun e w'=>e= .returned (.int .i64 c)∧Below w.heap.size w w':=by
 have hsf:=qKO
 rcases hc with ⟨rfl,rfl,rfl⟩|⟨rfl,q1,rfl⟩|⟨rfl,q1,q2,rfl⟩|⟨q1,q2,rfl⟩|⟨rfl,q1,rfl⟩|⟨rfl,rfl,rfl⟩
 ·have h1:bits BinOp.and IntKind.u64 (b:Int) 9218868437227405312=9218868437227405312:=h1
  have h2:bits BinOp.andNot IntKind.u64 (b:Int) 18442240474082181120=0:=h2
  go_enter Tryz.func91,Tryz.ntmps91
  go_wp2_with fail
  refine (qU w).mono ?_
  rintro e w1 ⟨rfl,hb1⟩
  unfold wC
  have H1:=jG hb1
  clear hb1
  go_wp2_with fail
  go_quiet (simp only [hsf,h1,h2])
  go_wp2_with (simp only [hsf,h1,h2])
  go_ret
  exact ⟨rfl,qN (H1.out.alloc H1.out.size _) _⟩
 ·have h1:bits BinOp.and IntKind.u64 (b:Int) 9218868437227405312=9218868437227405312:=h1
  have hq:=qGW y q1 hy
  have h0:((y:Int)==0)=false:=by simp;omega
  go_enter Tryz.func91,Tryz.ntmps91
  go_wp2_with fail
  refine (qU w).mono ?_
  rintro e w1 ⟨rfl,hb1⟩
  unfold wC
  have H1:=jG hb1
  clear hb1
  go_wp2_with fail
  go_quiet (simp only [hsf,h1,h2])
  go_wp2_with (simp only [hsf,h1,h2,hq])
  go_ret
  exact ⟨rfl,qN (H1.out.alloc H1.out.size _) _⟩
 ·have h1:bits BinOp.and IntKind.u64 (b:Int) 9218868437227405312=9218868437227405312:=h1
  have hq:=qGX y q2
  have h0:((y:Int)==0)=false:=by simp;omega
  go_enter Tryz.func91,Tryz.ntmps91
  go_wp2_with fail
  refine (qU w).mono ?_
  rintro e w1 ⟨rfl,hb1⟩
  unfold wC
  have H1:=jG hb1
  clear hb1
  go_wp2_with fail
  go_quiet (simp only [hsf,h1,h2])
  go_wp2_with (simp only [hsf,h1,h2,hq])
  go_ret
  exact ⟨rfl,qN (H1.out.alloc H1.out.size _) _⟩
 ·have h0:((fl:Int)==9218868437227405312)=false:=by simp;omega
  have h3:((fl:Int)==0)=false:=by simp;omega
  have h4:((fl:Int) !=0)=true:=by simp;omega
  go_enter Tryz.func91,Tryz.ntmps91
  go_wp2_with fail
  refine (qU w).mono ?_
  rintro e w1 ⟨rfl,hb1⟩
  unfold wC
  have H1:=jG hb1
  clear hb1
  go_wp2_with fail
  go_quiet (simp only [hsf,h1,h2])
  go_wp2_with (simp only [hsf,h1,h2])
  go_ret
  exact ⟨rfl,qN (H1.out.alloc H1.out.size _) _⟩
 ·have h1:bits BinOp.and IntKind.u64 (b:Int) 9218868437227405312=0:=h1
  have h0:((y:Int)==0)=false:=by simp;omega
  have h4:((y:Int) !=0)=true:=by simp;omega
  go_enter Tryz.func91,Tryz.ntmps91
  go_wp2_with fail
  refine (qU w).mono ?_
  rintro e w1 ⟨rfl,hb1⟩
  unfold wC
  have H1:=jG hb1
  clear hb1
  go_wp2_with fail
  go_quiet (simp only [hsf,h1,h2])
  go_wp2_with (simp only [hsf,h1,h2])
  go_ret
  exact ⟨rfl,qN (H1.out.alloc H1.out.size _) _⟩
 ·have h1:bits BinOp.and IntKind.u64 (b:Int) 9218868437227405312=0:=h1
  have h2:bits BinOp.andNot IntKind.u64 (b:Int) 18442240474082181120=0:=h2
  go_enter Tryz.func91,Tryz.ntmps91
  go_wp2_with fail
  refine (qU w).mono ?_
  rintro e w1 ⟨rfl,hb1⟩
  unfold wC
  have H1:=jG hb1
  clear hb1
  go_wp2_with fail
  go_quiet (simp only [hsf,h1,h2])
  go_wp2_with (simp only [hsf,h1,h2])
  go_ret
  exact ⟨rfl,qN (H1.out.alloc H1.out.size _) _⟩
theorem qAF (b:Nat) (w:World) (hb:b<18446744073709551616):Calls Tryz.prog 91 #[.int .u64 b] w fun e w'=>e= .returned (.int .i64 (pA b:Nat))∧Below w.heap.size w w':=by
 refine lF b _ _ _ w hb (qEO b hb) (qGV b hb) (Nat.mod_lt _ (by omega)) ?_
 have e:b%9223372036854775808=b/4503599627370496%(2047+1)*4503599627370496+b%4503599627370496:=by omega
 have l1:b/4503599627370496%(2047+1)≤2047:=by omega
 have l2:b%4503599627370496<4503599627370496:=Nat.mod_lt _ (by omega)
 unfold pA
 rw [e]
 generalize b/4503599627370496%(2047+1)=x at*
 generalize b%4503599627370496=y at*
 clear e
 by_cases h1:x=2047
 ·subst h1
  rw [if_neg (by omega),if_neg (by omega),if_neg (by omega)]
  by_cases h2:y=0
  ·subst h2;left;simp
  ·rw [if_neg (by omega)]
   by_cases h3:y<2251799813685248
   ·right;right;left;rw [if_pos (by omega)];exact ⟨rfl,h2,h3,rfl⟩
   ·right;left;rw [if_neg (by omega)];exact ⟨rfl,by omega,rfl⟩
 ·by_cases h2:x=0
  ·subst h2
   by_cases h3:y=0
   ·subst h3;right;right;right;right;right;simp
   ·rw [if_neg (by omega),if_pos (by omega)]
    right;right;right;right;left;exact ⟨by omega,h3,rfl⟩
  ·rw [if_neg (by omega),if_neg (by omega),if_pos (by omega)]
   right;right;right;left;exact ⟨by omega,by omega,rfl⟩
end Go.Proofs.YtkpmalfigmimaaaGreatDoor
namespace Go.Proofs.YtkpmalfigmimaaaGreatDoor
open Go.RowKit
theorem zH (b:Nat) (w:World):(callFunc 52 #[.int .u64 b]).run Tryz.prog w= .ok (.value (.float .f64 b)) w:=by
 rw [run_callFunc_extern Tryz.func52 (by kernel_rfl) (by kernel_rfl) (by kernel_rfl) (e:=Extern.MathFloatBits.float64frombits) (by kernel_rfl)]
 rfl
theorem qY (b:Nat) (w:World):Calls Tryz.prog 29 #[.int .u64 b] w fun e w'=>e= .returned (.float .f64 b)∧w'=w:=by
 have hf:=zH b
 go_enter Tryz.func29,Tryz.ntmps29
 go_wp2_with fail
 refine (pR _).mono ?_
 rintro e w1 ⟨rfl,rfl⟩
 go_wp2_with (simp only [hf])
 go_ret
 exact ⟨rfl,rfl⟩
def qLT:Option Ordering→Int
 |some .lt=> -1
 |some .gt=>1
 |_=>0
theorem qE8 (a b:Nat) (w:World):Calls Tryz.prog 16 #[.int .u64 a,.int .u64 b] w fun e w'=>e= .returned (.tuple #[.int .i64 (qLT (Ieee.double.order a b)),.bool (Ieee.double.order a b).isSome])∧w'=w:=by
 have hk:∀o:Option Ordering,o=none∨o=some .lt∨o=some .eq∨o=some .gt:=by
  rintro (_|_|_|_)<;>simp
 have hk:=hk (Ieee.double.order a b)
 have hd:FloatKind.f64.format.order a b=Ieee.double.order a b:=rfl
 generalize Ieee.double.order a b=o at*
 rcases hk with rfl|rfl|rfl|rfl
 all_goals
  go_enter Tryz.func16,Tryz.ntmps16
  go_wp2_with fail
  refine (qY _ _).mono ?_
  rintro e w1 ⟨rfl,rfl⟩
  go_wp2_with fail
  refine (qY _ _).mono ?_
  rintro e w1 ⟨rfl,rfl⟩
  go_wp2_with (simp only [hd])
  go_ret2
  exact ⟨rfl,rfl⟩
end Go.Proofs.YtkpmalfigmimaaaGreatDoor
namespace Go.Proofs.YtkpmalfigmimaaaGreatDoor
open Go.RowKit
open Flt
theorem xF (x:Nat):rg Ieee.double x=x%9223372036854775808:=rfl
theorem jM:Ieee.double.infRung=9218868437227405312:=by decide +kernel
theorem qLB (x:Nat):rg Ieee.single x=x%2147483648:=rfl
theorem qDH:Ieee.single.infRung=2139095040:=by decide +kernel
theorem fG (x:Nat):Ieee.double.order x x=if 9218868437227405312<x%9223372036854775808 then none else some .eq:=by
 by_cases h:9218868437227405312<x%9223372036854775808
 ·rw [if_pos h];exact order_nan _ (by decide) _ _ (.inl (by rw [xF,jM];exact h))
 ·rw [if_neg h,order_all _ (by decide) _ _ (by rw [xF,jM];omega) (by rw [xF,jM];omega),cmp_eq]
theorem kW (x:Nat) (w:World):Calls Tryz.prog 55 #[.float .f64 x] w fun e w'=>e= .returned (.bool (decide (9218868437227405312<x%9223372036854775808)))∧w'=w:=by
 have ho:FloatKind.f64.format.order x x=if 9218868437227405312<x%9223372036854775808 then none else some .eq:=fG x
 by_cases h:9218868437227405312<x%9223372036854775808
 ·rw [if_pos h] at ho
  rw [decide_eq_true h]
  go_enter Tryz.func55,Tryz.ntmps55
  go_wp2_with (simp only [ho])
  go_ret
  exact ⟨rfl,rfl⟩
 ·rw [if_neg h] at ho
  rw [decide_eq_false h]
  go_enter Tryz.func55,Tryz.ntmps55
  go_wp2_with (simp only [ho])
  go_ret
  exact ⟨rfl,rfl⟩
theorem yA (b:Nat) (w:World):(callFunc 31 #[.float .f64 b]).run Tryz.prog w= .ok (.value (.int .u64 b)) w:=by
 rw [run_callFunc_extern Tryz.func31 (by kernel_rfl) (by kernel_rfl) (by kernel_rfl) (e:=Extern.MathFloatBits.float64bits) (by kernel_rfl)]
 rfl
theorem qCM (b:Nat) (w:World):(callFunc 86 #[.float .f32 b]).run Tryz.prog w= .ok (.value (.int .u32 b)) w:=by
 rw [run_callFunc_extern Tryz.func86 (by kernel_rfl) (by kernel_rfl) (by kernel_rfl) (e:=Extern.MathFloatBits.float32bits) (by kernel_rfl)]
 rfl
def qFS (x:Nat):Nat:=if 9218868437227405312<x%9223372036854775808 then 9221120237041090560 else x
theorem wW (x:Nat) (hx:x%9223372036854775808≤9218868437227405312):qFS x=x:=if_neg (by omega)
theorem bR (x:Nat) (hx:9218868437227405312<x%9223372036854775808):qFS x=9221120237041090560:=if_pos hx
theorem zR (x:Nat) (w:World) (hx:x<18446744073709551616):Calls Tryz.prog 34 #[.float .f64 x] w fun e w'=>e= .returned (.int .u64 (qFS x:Nat))∧Below w.heap.size w w':=by
 have ht:=yA x
 by_cases h:9218868437227405312<x%9223372036854775808
 ·rw [bR x h]
  go_enter Tryz.func34,Tryz.ntmps34
  go_wp2_with fail
  refine (kW x _).mono ?_
  rintro e w1 ⟨rfl,rfl⟩
  rw [decide_eq_true h]
  go_wp2_with fail
  refine (qU _).mono ?_
  rintro e w2 ⟨rfl,hb2⟩
  go_wp2_with fail
  refine (qA3 _).mono ?_
  rintro e w3 ⟨rfl,hb3⟩
  go_wp2_with fail
  go_ret
  exact ⟨rfl,hb2.trans (hb3.mono hb2.size)⟩
 ·rw [wW x (by omega)]
  go_enter Tryz.func34,Tryz.ntmps34
  go_wp2_with fail
  refine (kW x _).mono ?_
  rintro e w1 ⟨rfl,rfl⟩
  rw [decide_eq_false h]
  go_wp2_with fail
  refine (pR _).mono ?_
  rintro e w2 ⟨rfl,rfl⟩
  go_wp2_with (simp only [ht])
  go_ret
  exact ⟨rfl,Below.refl _ _⟩
def mZ (x:Nat):Prop:=9218868437227405312<x%9223372036854775808∧x<18446744073709551616
theorem sO (op:BinOp) (hop:op= .add∨op= .sub∨op= .mul∨op= .quo) (t:TypeId) (x y:Nat) (h:floatBits op .f64 x y=none) (w:World):
  ∃nb,mZ nb∧(binOp op t (.float .f64 x) (.float .f64 y)).run Tryz.prog w= .ok (.float .f64 nb) w.drew:=by
 refine ⟨Question.cut (.nanBits .f64 x y) (w.tape w.drawn (.nanBits .f64 x y)),?_,?_⟩
 ·generalize w.tape w.drawn (.nanBits .f64 x y)=t
  show 9218868437227405312<(t%2*2^63+0x7ff0000000000000+1+t/2%(2^52-1))%9223372036854775808∧(t%2*2^63+0x7ff0000000000000+1+t/2%(2^52-1))<18446744073709551616
  have h1:t/2%(2^52-1)<2^52-1:=Nat.mod_lt _ (by omega)
  have h2:t%2<2:=Nat.mod_lt _ (by omega)
  generalize t/2%(2^52-1)=a at*
  generalize t%2=b at*
  omega
 ·unfold floatBits at h
  rcases hop with rfl|rfl|rfl|rfl<;>simp only at h<;>simp [binOp,Op.floatArith,h,Question.forced]
end Go.Proofs.YtkpmalfigmimaaaGreatDoor
namespace Go.Proofs.YtkpmalfigmimaaaGreatDoor
open Go.RowKit
open Flt
namespace Flt
open Ieee
theorem rg_word (f:Format) (neg:Bool) (r:Nat) (h:r<f.signWeight):rg f (f.word neg r)=r:=by
 unfold rg Format.word
 cases neg
 ·exact Nat.mod_eq_of_lt h
 ·show (f.signWeight+r)%f.signWeight=r
  rw [Nat.add_mod_left];exact Nat.mod_eq_of_lt h
theorem sg_word (f:Format) (neg:Bool) (r:Nat) (h:r<f.signWeight):sg f (f.word neg r)=neg:=by
 unfold sg Format.word
 cases neg
 ·show (r/f.signWeight%2==1)=false
  rw [Nat.div_eq_of_lt h];rfl
 ·show ((f.signWeight+r)/f.signWeight%2==1)=true
  rw [Nat.add_div_left _ (signWeight_pos f),Nat.div_eq_of_lt h];rfl
theorem rg_write (f:Format) (d:Datum) (h:d.isNaN=false):rg f (f.write d)≤f.infRung:=by
 cases d with
 |number neg mag place=>
  show rg f (f.nearest neg mag place)≤_
  rw [nearest_rnd,rg_word f _ _ (Nat.lt_of_le_of_lt (Nat.min_le_right ..) f.infRung_lt)]
  exact Nat.min_le_right ..
 |infinity neg=>
  show rg f (f.word neg f.infRung)≤_
  rw [rg_word f _ _ f.infRung_lt];exact Nat.le_refl _
 |nan neg t=>simp [Datum.isNaN] at h
theorem sum_num {x y d:Datum} (h:x.sum y=some d):d.isNaN=false:=by
 cases x<;>cases y<;>simp only [Datum.sum] at h<;>try (cases h;done)
 ·cases h;rfl
 ·cases h;rfl
 ·cases h;rfl
 ·split at h
  ·cases h;rfl
  ·cases h
theorem product_num {x y d:Datum} (h:x.product y=some d):d.isNaN=false:=by
 cases x<;>cases y<;>simp only [Datum.product] at h<;>try (cases h;done)
 ·cases h;rfl
 ·split at h
  ·cases h
  ·cases h;rfl
 ·split at h
  ·cases h
  ·cases h;rfl
 ·cases h;rfl
theorem quotient_num {n:Nat} {x y d:Datum} (h:x.quotient n y=some d):d.isNaN=false:=by
 cases x<;>cases y<;>simp only [Datum.quotient] at h<;>try (cases h;done)
 ·split at h
  ·split at h
   ·cases h
   ·cases h;rfl
  ·cases h;rfl
 ·cases h;rfl
 ·cases h;rfl
end Flt
theorem sH {o:Option Ieee.Datum} {r:Nat} (h:o.map Ieee.double.write=some r) (hn:∀d,o=some d→d.isNaN=false):r%9223372036854775808≤9218868437227405312∧r<18446744073709551616:=by
 cases o with
 |none=>cases h
 |some d=>
  cases h
  have:=rg_write Ieee.double d (hn d rfl)
  rw [xF,jM] at this
  exact ⟨this,Ieee.double.write_lt d⟩
def gG:Option Nat→Nat
 |some r=>r
 |none=>9221120237041090560
theorem pW {op:BinOp} {a b r:Nat} (h:floatBits op .f64 a b=some r):r%9223372036854775808≤9218868437227405312∧r<18446744073709551616:=by
 unfold floatBits at h
 split at h
 ·exact sH h fun d=>sum_num
 ·exact sH h fun d=>sum_num
 ·exact sH h fun d=>product_num
 ·exact sH h fun d=>quotient_num
 ·cases h
theorem tM (a b:Nat) (w:World):Calls Tryz.prog 181 #[.int .u64 a,.int .u64 b] w fun e w'=>e= .returned (.int .u64 (gG (Ieee.double.mul a b):Nat))∧Below w.heap.size w w':=by
 have hs:floatBits .mul .f64 a b=Ieee.double.mul a b:=rfl
 cases ho:Ieee.double.mul a b with
 |none=>
  rw [ho] at hs
  obtain ⟨nb,hnb,hadd⟩:=sO .mul (by simp) 72 a b hs w
  go_enter Tryz.func181,Tryz.ntmps181
  go_wp2_with fail
  refine (qY a _).mono ?_
  rintro e w1 ⟨rfl,rfl⟩
  go_wp2_with fail
  refine (qY b _).mono ?_
  rintro e w2 ⟨rfl,rfl⟩
  go_wp2_with (simp only [hadd])
  refine (zR nb _ hnb.2).mono ?_
  rintro e w3 ⟨rfl,hb3⟩
  rw [bR nb hnb.1]
  go_wp2_with fail
  go_ret
  exact ⟨rfl,(Below.refl _ _).drew.trans hb3⟩
 |some r=>
  rw [ho] at hs
  obtain ⟨hr1,hr2⟩:=pW hs
  have hadd:=fun w:World=>run_float_arith (P:=Tryz.prog) w .mul 72 .f64 a b r hs
  go_enter Tryz.func181,Tryz.ntmps181
  go_wp2_with fail
  refine (qY a _).mono ?_
  rintro e w1 ⟨rfl,rfl⟩
  go_wp2_with fail
  refine (qY b _).mono ?_
  rintro e w2 ⟨rfl,rfl⟩
  go_wp2_with (simp only [hadd])
  refine (zR r _ hr2).mono ?_
  rintro e w3 ⟨rfl,hb3⟩
  rw [wW r hr1]
  go_wp2_with fail
  go_ret
  exact ⟨rfl,hb3⟩
theorem vW (x:Nat) (w:World) (hx:x<18446744073709551616):Calls Tryz.prog 206 #[.float .f64 x] w fun e w'=>e= .returned (.bool (decide (9223372036854775808≤x)))∧w'=w:=by
 have ht:=yA x
 by_cases h:9223372036854775808≤x
 ·obtain ⟨y,hy⟩:∃y:Int,(x:Int)-18446744073709551616=y:=⟨_,rfl⟩
  have hw:wrap64 (x:Int)=y:=by unfold wrap64;omega
  have hw2:IntKind.i64.wrap (x:Int)=y:=by rw [IntKind.wrap_i64];omega
  have hy0:y<0:=by omega
  rw [decide_eq_true h]
  clear h hx hy
  go_enter Tryz.func206,Tryz.ntmps206
  go_wp2_with (simp only [ht,hw,hw2])
  go_ret
  exact ⟨by simp [hy0],rfl⟩
 ·have hw:wrap64 (x:Int)=x:=by unfold wrap64;omega
  have hw2:IntKind.i64.wrap (x:Int)=x:=by rw [IntKind.wrap_i64];omega
  rw [decide_eq_false h]
  clear h hx
  go_enter Tryz.func206,Tryz.ntmps206
  go_wp2_with (simp only [ht,hw,hw2])
  go_ret
  exact ⟨by simp,rfl⟩
theorem qEG (w:World):Calls Tryz.prog 221 #[] w fun e w'=>e= .returned (.float .f64 9221120237041090561)∧w'=w:=by
 have hf:∀w:World,(callFunc 52 #[.int .u64 9221120237041090561]).run Tryz.prog w= .ok (.value (.float .f64 9221120237041090561)) w:=zH 9221120237041090561
 go_enter Tryz.func221,Tryz.ntmps221
 go_wp2_with (simp only [hf])
 go_ret
 exact ⟨rfl,rfl⟩
theorem qKG (w:World):Calls Tryz.prog 222 #[.int .i64 1] w fun e w'=>e= .returned (.float .f64 9218868437227405312)∧w'=w:=by
 have hf:∀w:World,(callFunc 52 #[.int .u64 9218868437227405312]).run Tryz.prog w= .ok (.value (.float .f64 9218868437227405312)) w:=zH 9218868437227405312
 go_enter Tryz.func222,Tryz.ntmps222
 go_wp2_with (simp only [hf])
 go_ret
 exact ⟨rfl,rfl⟩
theorem qGT (w:World):Calls Tryz.prog 222 #[.int .i64 (-1)] w fun e w'=>e= .returned (.float .f64 18442240474082181120)∧w'=w:=by
 have hf:∀w:World,(callFunc 52 #[.int .u64 18442240474082181120]).run Tryz.prog w= .ok (.value (.float .f64 18442240474082181120)) w:=zH 18442240474082181120
 go_enter Tryz.func222,Tryz.ntmps222
 go_wp2_with (simp only [hf])
 go_ret
 exact ⟨rfl,rfl⟩
theorem uL (x:Nat):Ieee.double.order x 0=if 9218868437227405312<x%9223372036854775808 then none else if x%9223372036854775808=0 then some .eq else if sg Ieee.double x then some .lt else some .gt:=by
 by_cases h:9218868437227405312<x%9223372036854775808
 ·rw [if_pos h];exact order_nan _ (by decide) _ _ (.inl (by rw [xF,jM];exact h))
 ·rw [if_neg h,order_all _ (by decide) _ _ (by rw [xF,jM];omega) (by rw [xF,jM];omega)]
  have h0:sv Ieee.double 0=0:=by decide
  rw [h0]
  by_cases h1:x%9223372036854775808=0
  ·rw [if_pos h1]
   have:sv Ieee.double x=0:=by unfold sv;rw [xF,h1,V_zero];simp
   rw [this,cmp_eq]
  ·rw [if_neg h1]
   have hv:0<V Ieee.double (rg Ieee.double x):=by
    have:=V_lt (f:=Ieee.double) (show 0<rg Ieee.double x by rw [xF];omega)
    omega
   unfold sv
   by_cases hs:sg Ieee.double x=true
   ·rw [if_pos hs,if_pos hs,cmp_lt (by omega)]
   ·rw [if_neg hs,if_neg hs,cmp_gt (by omega)]
def byN (a:Nat) (t:Bool):Nat:=if 9218868437227405312<a%9223372036854775808∨a%9223372036854775808=0 then 9221120237041090561 else if (decide (9223372036854775808≤a))=t then 9218868437227405312 else 18442240474082181120
theorem pS (a:Nat) (t:Bool) (w:World) (ha:a<18446744073709551616):Calls Tryz.prog 205 #[.float .f64 a,.bool t] w fun e w'=>e= .returned (.float .f64 (byN a t))∧w'=w:=by
 have ho:FloatKind.f64.format.order a 0=_:=uL a
 unfold byN
 by_cases h:9218868437227405312<a%9223372036854775808
 ·rw [if_pos h] at ho
  rw [if_pos (.inl h)]
  go_enter Tryz.func205,Tryz.ntmps205
  go_wp2_with fail
  refine (kW a _).mono ?_
  rintro e w1 ⟨rfl,rfl⟩
  rw [decide_eq_true h]
  go_wp2_with (simp only [ho])
  refine (qEG _).mono ?_
  rintro e w1 ⟨rfl,rfl⟩
  go_wp2_with fail
  go_ret
  exact ⟨rfl,rfl⟩
 ·rw [if_neg h] at ho
  by_cases h0:a%9223372036854775808=0
  ·rw [if_pos h0] at ho
   rw [if_pos (.inr h0)]
   go_enter Tryz.func205,Tryz.ntmps205
   go_wp2_with fail
   refine (kW a _).mono ?_
   rintro e w1 ⟨rfl,rfl⟩
   rw [decide_eq_false h]
   go_wp2_with (simp only [ho])
   refine (qEG _).mono ?_
   rintro e w1 ⟨rfl,rfl⟩
   go_wp2_with fail
   go_ret
   exact ⟨rfl,rfl⟩
  ·rw [if_neg h0] at ho
   have ho':FloatKind.f64.format.order a 0=some .lt∨FloatKind.f64.format.order a 0=some .gt:=by
    rw [ho];cases sg Ieee.double a<;>simp
   clear ho
   rw [if_neg (by omega)]
   have HS:=jG (fun w:World=>vW a w ha)
   generalize decide (9223372036854775808≤a)=s at*
   by_cases hst:s=t
   ·subst hst
    rcases ho' with ho|ho<;>cases s
    all_goals
     go_enter Tryz.func205,Tryz.ntmps205
     go_wp2_with fail
     refine (kW a _).mono ?_
     rintro e w1 ⟨rfl,rfl⟩
     rw [decide_eq_false h]
     go_wp2_with (simp only [ho])
     refine (HS.out _).mono ?_
     rintro e w1 ⟨rfl,rfl⟩
     go_wp2_with fail
     refine (qKG _).mono ?_
     rintro e w1 ⟨rfl,rfl⟩
     go_wp2_with fail
     go_ret
     exact ⟨rfl,rfl⟩
   ·obtain rfl:t=!s:=by cases s<;>cases t<;>simp_all
    clear hst
    rcases ho' with ho|ho<;>cases s
    all_goals
     go_enter Tryz.func205,Tryz.ntmps205
     go_wp2_with fail
     refine (kW a _).mono ?_
     rintro e w1 ⟨rfl,rfl⟩
     rw [decide_eq_false h]
     go_wp2_with (simp only [ho])
     refine (HS.out _).mono ?_
     rintro e w1 ⟨rfl,rfl⟩
     go_wp2_with fail
     refine (qGT _).mono ?_
     rintro e w1 ⟨rfl,rfl⟩
     go_wp2_with fail
     go_ret
     exact ⟨rfl,rfl⟩
theorem qIK (x:Nat) (hx:x<18446744073709551616):sg Ieee.double x=decide (9223372036854775808≤x):=by
 show (x/9223372036854775808%2==1)=_
 have h:x/9223372036854775808=0∨x/9223372036854775808=1:=by omega
 rcases h with h|h
 ·rw [h,decide_eq_false (by omega)];rfl
 ·rw [h,decide_eq_true (by omega)];rfl
theorem qDC (a b:Nat) (ha:a<18446744073709551616) (hb:b<18446744073709551616) (h0:b%9223372036854775808=0):gG (Ieee.double.div a b)=qFS (byN a (decide (9223372036854775808≤b))):=by
 obtain ⟨n,l,e3,e4,_⟩:=read_fin Ieee.double b (by rw [xF,jM];omega)
 have hn:n=0:=by
  rw [xF,h0,V_zero] at e4
  rcases Nat.mul_eq_zero.1 e4 with h|h
  ·exact h
  ·have:=Nat.two_pow_pos l;omega
 subst hn
 unfold Ieee.Format.div byN
 rw [e3,qIK b hb]
 have hnan:qFS 9221120237041090561=9221120237041090560:=by decide +kernel
 rcases Nat.lt_trichotomy (a%9223372036854775808) 9218868437227405312 with h|h|h
 ·obtain ⟨m,k,e1,e2,_⟩:=read_fin Ieee.double a (by rw [xF,jM];exact h)
  rw [e1,qIK a ha]
  simp only [Ieee.Datum.quotient,if_true]
  by_cases hm:m=0
  ·have hz:a%9223372036854775808=0:=by
    rw [hm,Nat.zero_mul] at e2
    have:=V_inj (f:=Ieee.double) (r:=rg Ieee.double a) (s:=0) (by rw [←e2,V_zero])
    rw [xF] at this;exact this
   rw [if_pos hm,if_pos (.inr hz),hnan]
   rfl
  ·have hz:a%9223372036854775808≠0:=by
    intro hz
    rw [xF,hz,V_zero] at e2
    rcases Nat.mul_eq_zero.1 e2 with h|h
    ·exact hm h
    ·have:=Nat.two_pow_pos k;omega
   rw [if_neg hm,if_neg (by omega)]
   cases decide (9223372036854775808≤a)<;>cases decide (9223372036854775808≤b)<;>decide +kernel
 ·rw [read_inf Ieee.double a (by decide) (by rw [xF,jM];exact h),qIK a ha]
  simp only [Ieee.Datum.quotient]
  rw [if_neg (by omega)]
  cases decide (9223372036854775808≤a)<;>cases decide (9223372036854775808≤b)<;>decide +kernel
 ·rw [read_nan Ieee.double a (by decide) (by rw [xF,jM];exact h),if_pos (.inl h),hnan]
  rfl
theorem qEB (a b:Nat) (w:World) (ha:a<18446744073709551616) (hb:b<18446744073709551616):Calls Tryz.prog 182 #[.int .u64 a,.int .u64 b] w fun e w'=>e= .returned (.int .u64 (gG (Ieee.double.div a b):Nat))∧Below w.heap.size w w':=by
 have hz:FloatKind.f64.format.order b 0=_:=uL b
 by_cases h0:b%9223372036854775808=0
 ·rw [if_neg (by omega),if_pos h0] at hz
  rw [qDC a b ha hb h0]
  have HS:=jG (fun w:World=>vW b w hb)
  have hbl:byN a (decide (9223372036854775808≤b))<18446744073709551616:=by unfold byN;split;omega;split<;>omega
  have HB:=jG (fun w:World=>pS a (decide (9223372036854775808≤b)) w ha)
  generalize decide (9223372036854775808≤b)=t at*
  generalize byN a t=y at*
  clear h0 ha hb
  go_enter Tryz.func182,Tryz.ntmps182
  go_wp2_with fail
  refine (qY a _).mono ?_
  rintro e w1 ⟨rfl,rfl⟩
  go_wp2_with fail
  refine (qY b _).mono ?_
  rintro e w2 ⟨rfl,rfl⟩
  go_wp2_with (simp only [hz])
  refine (HS.out _).mono ?_
  rintro e w2 ⟨rfl,rfl⟩
  go_wp2_with fail
  refine (HB.out _).mono ?_
  rintro e w2 ⟨rfl,rfl⟩
  go_wp2_with fail
  refine (zR y _ hbl).mono ?_
  rintro e w3 ⟨rfl,hb3⟩
  go_wp2_with fail
  go_ret
  exact ⟨rfl,hb3⟩
 ·rw [if_neg h0] at hz
  have hz':FloatKind.f64.format.order b 0=none∨FloatKind.f64.format.order b 0=some .lt∨FloatKind.f64.format.order b 0=some .gt:=by
   rw [hz];split
   ·simp
   ·cases sg Ieee.double b<;>simp
  clear hz
  have hs:floatBits .quo .f64 a b=Ieee.double.div a b:=rfl
  cases ho:Ieee.double.div a b with
  |none=>
   rw [ho] at hs
   obtain ⟨nb,hnb,hadd⟩:=sO .quo (by simp) 72 a b hs w
   rcases hz' with hz|hz|hz
   all_goals
    go_enter Tryz.func182,Tryz.ntmps182
    go_wp2_with fail
    refine (qY a _).mono ?_
    rintro e w1 ⟨rfl,rfl⟩
    go_wp2_with fail
    refine (qY b _).mono ?_
    rintro e w2 ⟨rfl,rfl⟩
    go_wp2_with (simp only [hadd,hz])
    refine (zR nb _ hnb.2).mono ?_
    rintro e w3 ⟨rfl,hb3⟩
    rw [bR nb hnb.1]
    go_wp2_with fail
    go_ret
    exact ⟨rfl,(Below.refl _ _).drew.trans hb3⟩
  |some r=>
   rw [ho] at hs
   obtain ⟨hr1,hr2⟩:=pW hs
   have hadd:=fun w:World=>run_float_arith (P:=Tryz.prog) w .quo 72 .f64 a b r hs
   rcases hz' with hz|hz|hz
   all_goals
    go_enter Tryz.func182,Tryz.ntmps182
    go_wp2_with fail
    refine (qY a _).mono ?_
    rintro e w1 ⟨rfl,rfl⟩
    go_wp2_with fail
    refine (qY b _).mono ?_
    rintro e w2 ⟨rfl,rfl⟩
    go_wp2_with (simp only [hadd,hz])
    refine (zR r _ hr2).mono ?_
    rintro e w3 ⟨rfl,hb3⟩
    rw [wW r hr1]
    go_wp2_with fail
    go_ret
    exact ⟨rfl,hb3⟩
end Go.Proofs.YtkpmalfigmimaaaGreatDoor
