import Derived.Test.YtkpmalfigmimaaaGreatDoorD2A
import Derived.Test.YtkpmalfigmimaaaGreatDoorFJ
import Derived.BigQuiet
import Derived.Deep.RegionHeld3
import Derived.Test.YtkpmalfigmimaaaGreatDoorU1F
import Derived.Test.YtkpmalfigmimaaaGreatDoorT1S
import Derived.Test.YtkpmalfigmimaaaGreatDoorD1M
set_option linter.unusedVariables false
set_option linter.unusedSimpArgs false
set_option maxRecDepth 100000
set_option maxHeartbeats 8000000
namespace Go.Proofs.YtkpmalfigmimaaaGreatDoor
open Go.RowKit
open M
def qIB (P:Prop) (w:World) (e:Ending) (w':World):Prop:=∃v:Bool,e= .returned (.bool v)∧(v=true↔P)∧Below w.heap.size w w'
def dP (b:Nat):Bool:=decide (9218868437227405312<b%9223372036854775808)
theorem qFL (b:Nat):dP b=(pA b==4||pA b==5):=by
 unfold dP pA
 split
 ·rename_i h;rw [h];decide
 ·split
  ·rw [decide_eq_false (by omega)];decide
  ·split
   ·rw [decide_eq_false (by omega)];decide
   ·split
    ·rename_i h;rw [h];decide
    ·split
     ·rw [decide_eq_true (by omega)];decide
     ·rw [decide_eq_true (by omega)];decide
theorem qFD (b:Nat) (w:World) (hb:b<18446744073709551616):Calls Tryz.prog 71 #[.int .u64 (b:Int)] w fun e w'=>e= .returned (.bool (dP b))∧Below w.heap.size w w':=by
 rw [qFL]
 have HC:=qA (qAF b w hb)
 obtain ⟨c,hc⟩:∃c,pA b=c:=⟨_,rfl⟩
 rw [hc] at HC⊢
 clear hc
 go_enter Tryz.func71,Tryz.ntmps71
 go_wp2_with fail
 refine HC.out.mono ?_
 rintro e w1 ⟨rfl,B1⟩
 have HB:=qA B1
 clear B1 HC
 by_cases h4:c=4
 ·subst h4
  go_wp2_with fail
  go_ret
  exact ⟨rfl,HB.out⟩
 ·have e4:((c:Int)==4)=false:=by rw [beq_eq_false_iff_ne];omega
  have f4:(c==4)=false:=by rw [beq_eq_false_iff_ne];omega
  by_cases h5:c=5
  ·subst h5
   go_wp2_with fail
   go_ret
   exact ⟨rfl,HB.out⟩
  ·have e5:((c:Int)==5)=false:=by rw [beq_eq_false_iff_ne];omega
   have f5:(c==5)=false:=by rw [beq_eq_false_iff_ne];omega
   go_wp2_with fail
   go_ret
   exact ⟨by simp [f4,f5],HB.out⟩
theorem dK (k:Int) (w:World):Calls Tryz.prog 59 #[.int .i64 k] w fun e w'=>e= .returned (.bool (decide (k=1∨k=2)))∧w'=w:=by
 by_cases h1:k=1
 ·subst h1
  go_enter Tryz.func59,Tryz.ntmps59
  go_wp2_with fail
  go_ret
  exact ⟨rfl,rfl⟩
 ·have e1:(k==1)=false:=by rw [beq_eq_false_iff_ne];omega
  by_cases h2:k=2
  ·subst h2
   go_enter Tryz.func59,Tryz.ntmps59
   go_wp2_with fail
   go_ret
   exact ⟨rfl,rfl⟩
  ·have e2:(k==2)=false:=by rw [beq_eq_false_iff_ne];omega
   have f:decide (k=1∨k=2)=false:=decide_eq_false (by omega)
   rw [f]
   go_enter Tryz.func59,Tryz.ntmps59
   go_wp2_with fail
   go_ret
   exact ⟨by simp [e2],rfl⟩
theorem bB (n:Nat) (w:World) (hn:n≤9223372036854775807):Calls Tryz.prog 60 #[.int .i64 (n:Int)] w fun e w'=>e= .returned (.bool (decide (1≤n∧n≤4096)))∧w'=w:=by
 by_cases h1:1≤n
 ·by_cases h2:n≤4096
  ·rw [decide_eq_true (And.intro h1 h2)]
   go_enter Tryz.func60,Tryz.ntmps60
   go_wp2_with fail
   go_ret
   exact ⟨by simp<;>omega,rfl⟩
  ·rw [decide_eq_false (by omega)]
   go_enter Tryz.func60,Tryz.ntmps60
   go_wp2_with fail
   go_ret
   exact ⟨by simp<;>omega,rfl⟩
 ·obtain rfl:n=0:=by omega
  go_enter Tryz.func60,Tryz.ntmps60
  go_wp2_with fail
  go_ret
  exact ⟨rfl,rfl⟩
theorem qES (p:Option Addr) (n cap:Nat) (t:Nat→Int) (v:Nat→Nat) (w:World) (h:uB w p n t v) (hn:n≤4096):
  Calls Tryz.prog 61 #[.slice p n cap] w (qIB (Rises t n) w):=by
 have H:=qA h
 clear h
 go_enter Tryz.func61,Tryz.ntmps61
 go_wp2_with fail
 go_loopw [3] (fun t3 wr=>∃k:Nat,t3= .int .i64 ((k:Int)+1)∧Hid ((k+1≤n∨k=0)∧(∀i,i+1<k+1→t i<t (i+1))∧Below w.heap.size w wr)) (fun t3 _=>n-(intOf t3).toNat)
 case atStart=>exact ⟨0,rfl,.inr rfl,fun i hi=>by omega,Below.refl _ _⟩
 case round=>
  obtain ⟨k,rfl,hI⟩:=hrel
  by_cases hlt:k+1<n
  ·obtain ⟨b,o,rfl,hc⟩:=H.out (by omega)
   have hl2:(k:Int)+1<(n:Int):=by omega
   have hk4:k≤4096:=by omega
   obtain ⟨x,hx⟩:∃x,t (k+1)=x:=⟨_,rfl⟩
   obtain ⟨y,hy⟩:∃y,t k=y:=⟨_,rfl⟩
   have c1:wr.cell? ⟨b,o+(k+1)*2,none⟩=some (.int .i64 x):=by rw [hI.out.2.2.cell (p:=⟨b,o+(k+1)*2,none⟩) (block_lt_of_cell (hc (k+1) hlt).1),←hx];exact (hc (k+1) hlt).1
   have c2:wr.cell? ⟨b,o+k*2,none⟩=some (.int .i64 y):=by rw [hI.out.2.2.cell (p:=⟨b,o+k*2,none⟩) (block_lt_of_cell (hc k (by omega)).1),←hy];exact (hc k (by omega)).1
   have HXY:=qA (And.intro hx hy)
   clear hx hy hc
   by_cases hxy:x≤y
   ·go_wp2_with fail
    go_region
    go_wp2_with fail
    go_ret
    refine ⟨false,rfl,⟨fun h=>(by cases h),fun hr=>?_⟩,hI.out.2.2.drew⟩
    have:=hr k hlt
    rw [HXY.out.1,HXY.out.2] at this;omega
   ·go_wp2_with fail
    go_region
    go_wp2_with fail
    go_roundw
    case rel=>exact ⟨k+1,by simp,⟨.inl (by omega),fun i hi=>by
     by_cases e:i=k
     ·subst e;rw [HXY.out.1,HXY.out.2];omega
     ·exact hI.out.2.1 i (by omega),hI.out.2.2.drew⟩⟩
    case measure=>simp [intOf];omega
  ·have hl2:¬(k:Int)+1<(n:Int):=by omega
   go_wp2_with fail
   go_ret
   exact ⟨true,rfl,⟨fun _ i hi=>hI.out.2.1 i (by omega),fun _=>rfl⟩,hI.out.2.2⟩
def tC (v:Nat→Nat) (n:Nat):Prop:=∀i,i<n→wid (yI (v i))=v i
theorem rG (p:Option Addr) (n cap:Nat) (t:Nat→Int) (v:Nat→Nat) (w:World) (h:uB w p n t v) (hn:n≤4096) (hf:∀i,i<n→v i<18446744073709551616):
  Calls Tryz.prog 62 #[.slice p n cap] w (qIB (tC v n) w):=by
 have H:=qA h
 have HF:=qA hf
 clear h hf
 go_enter Tryz.func62,Tryz.ntmps62
 go_wp2_with fail
 go_loopw [7] (fun t7 wr=>∃k:Nat,t7= .int .i64 (k:Int)∧Hid (k≤n∧(∀i,i<k→wid (yI (v i))=v i)∧Below w.heap.size w wr)) (fun t7 _=>n-(intOf t7).toNat)
 case atStart=>exact ⟨0,rfl,Nat.zero_le _,fun i hi=>by omega,Below.refl _ _⟩
 case round=>
  obtain ⟨k,rfl,hI⟩:=hrel
  by_cases hlt:k<n
  ·obtain ⟨b,o,rfl,hc⟩:=H.out (by omega)
   obtain ⟨x,hx⟩:∃x,t k=x:=⟨_,rfl⟩
   obtain ⟨y,hy⟩:∃y,v k=y:=⟨_,rfl⟩
   have c1:wr.cell? ⟨b,o+k*2,none⟩=some (.int .i64 x):=by rw [hI.out.2.2.cell (p:=⟨b,o+k*2,none⟩) (block_lt_of_cell (hc k hlt).1),←hx];exact (hc k hlt).1
   have c2:wr.cell? ⟨b,o+k*2+1,none⟩=some (.int .u64 (y:Int)):=by rw [hI.out.2.2.cell (p:=⟨b,o+k*2+1,none⟩) (block_lt_of_cell (hc k hlt).2),←hy];exact (hc k hlt).2
   have hyl:y<18446744073709551616:=by rw [←hy];exact HF.out k hlt
   have HY:=qA hy
   obtain ⟨W1,hW1⟩:∃W1,wr.alloc (.cells #[.int .i64 x,.int .u64 (y:Int)] 47)=W1:=⟨_,rfl⟩
   have HB1:Hid (Below w.heap.size w W1.drew):=by rw [←hW1];exact (hI.out.2.2.alloc hI.out.2.2.size _).drew
   have cB:W1.heap[wr.heap.size]?=some (.cells #[.int .i64 x,.int .u64 (y:Int)] 47 (0,0)):=by rw [←hW1];exact heap_alloc_new _ _
   have HBK:=qA cB
   have HN:=qA (fun w:World=>gS y w hyl)
   have HWd:=qA (fun w:World=>nN (yI y) w (wD y hyl))
   obtain ⟨r,hr⟩:∃r,wid (yI y)=r:=⟨_,rfl⟩
   have HR:=qA hr
   rw [hr] at HWd
   generalize yI y=q at HN HWd
   obtain ⟨gb,hgb⟩:∃gb,wr.heap.size=gb:=⟨_,rfl⟩
   rw [hgb] at cB HBK
   clear hx hy hc hr hyl cB
   have k1:W1.cell? ⟨gb,1,none⟩=some (.int .u64 (y:Int)):=by rw [cell_of_row _ _ _ _ _ _ HBK.out];rfl
   go_upto_region 4 with fail
   (try rw [hW1])
   (try rw [hgb])
   clear hW1 hgb c1 c2
   by_cases he:r=y
   ·have hne:((r:Int) !=(y:Int))=false:=by rw [he];simp
    go_region_held3 (fun w'=>w'.cell? ⟨gb,1,none⟩=some (.int .u64 (y:Int))) (exact k1)
     (first|(go_at_call 21;go_must (refine (HN.out _).mono ?_);rintro _ w5 ⟨rfl,B5⟩;have HB1:=qA (HB1.out.trans (B5.mono HB1.out.size));have k1:w5.cell? ⟨gb,1,none⟩=some (.int .u64 (y:Int)):=(by rw [B5.cell (p:=⟨gb,1,none⟩) (block_lt_of_cell k1)];exact k1);clear B5)|(go_at_call 20;go_must (refine (HWd.out _).mono ?_);rintro _ w5 ⟨rfl,B5⟩;have HB1:=qA (HB1.out.trans (B5.mono HB1.out.size));have k1:w5.cell? ⟨gb,1,none⟩=some (.int .u64 (y:Int)):=(by rw [B5.cell (p:=⟨gb,1,none⟩) (block_lt_of_cell k1)];exact k1);clear B5))
    go_wp2_with fail
    go_roundw
    case rel=>exact ⟨k+1,by simp,hlt,fun i hi=>by
     by_cases e:i=k
     ·subst e;rw [HY.out,HR.out,he]
     ·exact hI.out.2.1 i (by omega),HB1.out⟩
    case measure=>simp [intOf];omega
   ·have hne:((r:Int) !=(y:Int))=true:=by rw [bne_iff_ne];omega
    go_region_held3 (fun w'=>w'.cell? ⟨gb,1,none⟩=some (.int .u64 (y:Int))) (exact k1)
     (first|(go_at_call 21;go_must (refine (HN.out _).mono ?_);rintro _ w5 ⟨rfl,B5⟩;have HB1:=qA (HB1.out.trans (B5.mono HB1.out.size));have k1:w5.cell? ⟨gb,1,none⟩=some (.int .u64 (y:Int)):=(by rw [B5.cell (p:=⟨gb,1,none⟩) (block_lt_of_cell k1)];exact k1);clear B5)|(go_at_call 20;go_must (refine (HWd.out _).mono ?_);rintro _ w5 ⟨rfl,B5⟩;have HB1:=qA (HB1.out.trans (B5.mono HB1.out.size));have k1:w5.cell? ⟨gb,1,none⟩=some (.int .u64 (y:Int)):=(by rw [B5.cell (p:=⟨gb,1,none⟩) (block_lt_of_cell k1)];exact k1);clear B5))
    go_wp2_with fail
    go_ret
    refine ⟨false,rfl,⟨fun h=>(by cases h),fun hr=>?_⟩,HB1.out⟩
    have:=hr k hlt
    rw [HY.out,HR.out] at this;exact absurd this he
  ·have hk:k=n:=by have:=hI.out.1;omega
   go_wp2_with fail
   go_ret
   exact ⟨true,rfl,⟨fun _ i hi=>hI.out.2.1 i (by omega),fun _=>rfl⟩,hI.out.2.2⟩
end Go.Proofs.YtkpmalfigmimaaaGreatDoor
namespace Go.Proofs.YtkpmalfigmimaaaGreatDoor
open Go.RowKit
open M
theorem qHW (b:Nat) (s:ByteArray) (n:Nat) (w:World) (h:Rd w b 0 s 0 0) (hn:n≤4096):
  Calls Tryz.prog 79 #[.pointer (some ⟨b,0,none⟩),.int .i64 n] w (qIZ w b s n):=by
 have hbs:b<w.heap.size:=block_lt_of_cell h.text
 have H:=qA h
 clear h
 have hmk:=dO n hn
 have hA:Hid (qJ b 0 3 w (w.alloc (.cells (Array.replicate n (Value.int .i64 0)) 2))):=(qJ.refl b 0 3 w).alloc hbs _
 by_cases h0:n=0
 ·have hne:((n:Int)==0)=true:=by rw [beq_iff_eq];omega
  have H0:=qA h0
  clear h0
  go_enter Tryz.func79,Tryz.ntmps79
  go_wp2_with fail
  go_ret2
  refine .inr ⟨0,0,fun _=>0,rfl,?_,?_,hA.out,by simp,fun i hi=>by have:=H0.out;omega,fun _=>by rw [H0.out];simp [tbn],fun h hB=>⟨rfl,fun i hi=>by have:=H0.out;omega⟩⟩
  ·rw [H0.out];exact TW.new w 0 _
  ·exact H.out.below (w':=w.alloc _) ((Below.refl _ w).alloc (Nat.le_refl _) _) hbs
 have hne:((n:Int)==0)=false:=by rw [beq_eq_false_iff_ne];omega
 have HN:Hid (TW (w.alloc (.cells (Array.replicate n (Value.int .i64 0)) 2)) w.heap.size n 0 (fun _=>0)):=TW.new w n _
 have HR:Hid (Rd (w.alloc (.cells (Array.replicate n (Value.int .i64 0)) 2)) b 0 s 0 0):=H.out.below ((Below.refl _ w).alloc (Nat.le_refl _) _) hbs
 have hs1:Hid (w.heap.size<(w.alloc (.cells (Array.replicate n (Value.int .i64 0)) 2)).heap.size):=by show _<_;simp
 have hgb:w.heap.size≠b:=by omega
 go_enter Tryz.func79,Tryz.ntmps79
 go_upto_region 4 with fail
 generalize w.alloc (.cells (Array.replicate n (Value.int .i64 0)) 2)=W0 at*
 clear hmk
 go_wp2_with fail
 refine (gD b 0 s 0 64 0 W0 HR.out (by omega)).mono ?_
 rintro e w1 ⟨x,a,e1,rfl,hx,T⟩
 have HX:Hid (x<18446744073709551616):=hx
 clear hx
 have R1:TW w1 w.heap.size n 0 (fun _=>0):=HN.out.only T.only hgb hs1.out
 have c1:w1.cell? ⟨w.heap.size,0,none⟩=some (.int .i64 0):=R1.cell 0 (by omega)
 have c2:=R1.fz 0
 have HT1:=qA (Tn.first (w:=w) (f:=fun _=>0) (by omega) (Nat.le_refl _) hgb hs1.out HN.out hA.out T HX.out)
 clear R1 T
 go_wp2_with fail
 generalize w1.setCell ⟨w.heap.size,0,none⟩ (.int .i64 (wrap64 (x:Int)))=W1 at*
 clear c1 c2
 go_loopw [4,6,7] (fun t4 t6 t7 wr=>∃(k a:Nat) (e1:Int) (f:Nat→Int),t4= .slice (some ⟨w.heap.size,0,none⟩) n n∧t6= .int .u64 (ahd f k:Int)∧t7= .int .i64 ((k:Int)+1)∧Hid (k<n)∧Hid (Tn w wr b s w.heap.size n (k+1) a e1 f)) (fun _ _ t7 _=>n-(intOf t7).toNat)
 case atStart=>exact ⟨0,a,e1,_,rfl,rfl,rfl,by show 0<n;omega,HT1.out⟩
 case round=>
  clear HT1 HX
  obtain ⟨k,a,e1,f,rfl,rfl,rfl,hk,hT⟩:=hrel
  by_cases hlt:k+1<n
  ·obtain ⟨A,hA⟩:∃A,A=ahd f k:=⟨_,rfl⟩
   have hA2:A<18446744073709551616:=by rw [hA];exact ahd_lt _ _
   rw [←hA]
   have HA:=qA hA
   have HA2:=qA hA2
   clear hA hA2
   go_wp2_with fail
   refine (cO b 0 s a e1 wr hT.out.rd).mono ?_
   rintro e w2 ⟨u,ok,a2,e2,rfl,hu,R2,O2,hs,hf⟩
   have HU:=qA hu
   have HS:=qA hs
   have HF:=qA hf
   clear hu hs hf
   cases ok with
   |false=>
    go_wp2_with fail
    go_ret2
    refine .inl ⟨rfl,hT.out.only.trans O2,hT.out.none hlt fun h1 v r hv hr=>?_⟩
    have:=(HF.out h1 v r hv hr).2.1
    cases this
   |true=>
    go_wp2_with fail
    refine (qA9 u w2 HU.out).mono ?_
    rintro e w3 ⟨rfl,rfl⟩
    obtain ⟨z,hz⟩:∃z,z=zag u:=⟨_,rfl⟩
    have hzr:=uV u HU.out
    rw [←hz] at hzr⊢
    obtain ⟨Z,hZ⟩:∃Z:Nat,Z=(z%18446744073709551616).toNat:=⟨_,rfl⟩
    obtain ⟨D,hD⟩:∃D:Nat,D=(((A:Int)+z)%18446744073709551616).toNat:=⟨_,rfl⟩
    have hDi:(D:Int)=((A:Int)+z)%18446744073709551616:=by rw [hD];exact Int.toNat_of_nonneg (Int.emod_nonneg _ (by decide))
    have HDi:=qA hDi
    clear hDi
    obtain ⟨fk,hfk⟩:∃fk,fk=f k:=⟨_,rfl⟩
    have hfr:=hT.out.rng k (by omega)
    rw [←hfk] at hfr
    obtain ⟨X,hX⟩:∃X:Nat,X=(fk%18446744073709551616).toNat:=⟨_,rfl⟩
    obtain ⟨Y,hY⟩:∃Y:Nat,Y=((fk+(D:Int))%18446744073709551616).toNat:=⟨_,rfl⟩
    obtain ⟨t,ht⟩:∃t:Int,t=(fk+(D:Int)+9223372036854775808)%18446744073709551616-9223372036854775808:=⟨_,rfl⟩
    have q1:IntKind.u64.wrap z=(Z:Int):=by rw [hZ];simp only [IntKind.wrap,IntKind.bits,IntKind.signed];simp;omega
    have q2:IntKind.u64.wrap ((A:Int)+(Z:Int))=(D:Int):=by rw [hZ,hD];simp only [IntKind.wrap,IntKind.bits,IntKind.signed];simp;omega
    have q3:IntKind.u64.wrap fk=(X:Int):=by rw [hX];simp only [IntKind.wrap,IntKind.bits,IntKind.signed];simp;omega
    have q4:IntKind.u64.wrap ((X:Int)+(D:Int))=(Y:Int):=by rw [hX,hY];simp only [IntKind.wrap,IntKind.bits,IntKind.signed];simp;omega
    have q5:wrap64 (Y:Int)=t:=by rw [hY,ht];unfold wrap64;omega
    have RW:=hT.out.row.only O2 hgb hT.out.size
    have c1:w3.cell? ⟨w.heap.size,k,none⟩=some (.int .i64 fk):=by rw [RW.cell k (by omega),if_pos (by omega),hfk]
    have c2:w3.cell? ⟨w.heap.size,k+1,none⟩=some (.int .i64 0):=by rw [RW.cell (k+1) hlt,if_neg (by omega)]
    have c3:=RW.fz (k+1)
    have HNX:=qA (Tn.next hlt (Nat.le_refl _) hgb hT.out u D t HU.out R2 O2 (fun h=>HS.out h (by trivial)) (fun h v r hv hr=>⟨(HF.out h v r hv hr).1,(HF.out h v r hv hr).2.2⟩) (by rw [←HA.out,←hz];exact HDi.out) (by rw [←hfk];exact ht))
    have HZ:=qA hZ
    have HD:=qA hD
    have HX:=qA hX
    have HY:=qA hY
    have HT:=qA ht
    have Hz:=qA hz
    have Hfk:=qA hfk
    clear hZ hD hX hY ht hz hfk hzr hfr RW
    go_wp2_with fail
    go_roundw
    case rel=>
     refine ⟨k+1,a2,e2,_,rfl,?_,by simp,hlt,HNX.out.1⟩
     rw [HNX.out.2]
    case measure=>simp [intOf];omega
  ·go_wp2_with fail
   go_ret2
   obtain rfl:n=k+1:=by have:=hk.out;omega
   exact .inr ⟨a,e1,f,rfl,hT.out⟩
end Go.Proofs.YtkpmalfigmimaaaGreatDoor
namespace Go.Proofs.YtkpmalfigmimaaaGreatDoor
open Go.RowKit
open M
def tP (bs:List Nat) (h:Nat→Int) (n:Nat):Prop:=(∀i,i<n→I64 (h i))∧Rises h n∧packed (tbn h n)=bs
def qEL (w:World) (bs:List Nat) (n:Nat) (e:Ending) (w':World):Prop:=
 (e= .returned (.tuple #[.slice none 0 0,.int .i64 62])∧Below w.heap.size w w'∧¬∃h,tP bs h n)∨
  ∃(g:Nat) (f:Nat→Int),e= .returned (.tuple #[.slice (some ⟨g,0,none⟩) n n,.int .i64 0])∧w.heap.size≤g∧qAI w' (some ⟨g,0,none⟩) n f∧Below w.heap.size w w'∧tP bs f n∧
   ∀h,mY (rbits bs) h n→∀i,i<n→f i=h i
def qEM (w:World) (bs:List Nat) (n:Nat) (e:Ending) (w':World):Prop:=
 (e= .returned (.tuple #[.slice none 0 0,.int .i64 62])∧Below w.heap.size w w'∧¬∃h,tP bs h n)∨
  ∃(g:Nat) (f:Nat→Int),e= .returned (.tuple #[.slice (some ⟨g,0,none⟩) n n,.int .i64 0])∧w.heap.size≤g∧(qAI w' (some ⟨g,0,none⟩) n f∧∃cur:Array Value,w'.heap[g]?=some (.cells cur 2 (0,0))∧cur.size=n)∧Below w.heap.size w w'∧tP bs f n∧
   ∀h,mY (rbits bs) h n→∀i,i<n→f i=h i
theorem wJ {bs:List Nat} {h:Nat→Int} {n:Nat} (hP:tP bs h n):mY (rbits bs) h n:=by
 obtain ⟨h1,_,h2⟩:=hP
 exact ⟨h1,_,by rw [←h2,rbits_packed]⟩
theorem Tn.begins {w wr:World} {b:Nat} {bs:List Nat} {g n a:Nat} {e1:Int} {f h:Nat→Int} (hb:∀n∈bs,n<256) (T:Tn w wr b (qG bs) g n n a e1 f) (hB:mY (rbits bs) h n):e1=0∧∀i,i<n→f i=h i:=
 T.full h (by rw [qV bs hb];exact hB)
theorem Tn.ended {w wr:World} {b:Nat} {bs:List Nat} {g n a:Nat} {e1:Int} {f h:Nat→Int} (hb:∀n∈bs,n<256) (T:Tn w wr b (qG bs) g n n a e1 f) (hP:tP bs h n):pU (qG bs) a e1=0:=by
 obtain ⟨h1,h2⟩:=T.begins hb (wJ hP)
 subst h1
 have h3:=T.sound rfl
 rw [tbn_congr _ _ _ h2] at h3
 have h4:=congrArg List.length h3
 have h5:=T.rd.le
 rw [List.length_take,jS,Nat.min_eq_left h5] at h4
 obtain ⟨_,_,hbs⟩:=hP
 rw [←hbs,h4]
 exact pB _
theorem Tn.packs {w wr:World} {b:Nat} {bs:List Nat} {g n a:Nat} {e1:Int} {f:Nat→Int} (hb:∀n∈bs,n<256) (T:Tn w wr b (qG bs) g n n a e1 f) (hE:pU (qG bs) a e1=0) (hr:Rises f n):tP bs f n:=by
 refine ⟨T.rng,hr,?_⟩
 unfold pU at hE
 by_cases he:e1=0
 ·rw [if_pos he] at hE
  have hs:(qG bs).size=bs.length:=by simp
  rw [hs,qV bs hb] at hE
  by_cases h8:8≤8*bs.length-a
  ·rw [if_pos h8] at hE;cases hE
  ·rw [if_neg h8] at hE
   by_cases hz:num ((rbits bs).drop a)=0
   ·have hle:=T.rd.le
    rw [hs] at hle
    have h1:=T.sound he
    rw [qV bs hb] at h1
    rw [←h1]
    exact wE bs hb a hle (by omega) hz
   ·rw [if_neg hz] at hE;cases hE
 ·rw [if_neg he] at hE;exact absurd hE he
theorem Rises.congr {f h:Nat→Int} {n:Nat} (hr:Rises h n) (e:∀i,i<n→f i=h i):Rises f n:=fun i hi=>by
 rw [e i (by omega),e (i+1) hi];exact hr i hi
theorem TW.trow {w:World} {g n:Nat} {f:Nat→Int} (h:TW w g n n f):qAI w (some ⟨g,0,none⟩) n f:=fun _=>
 ⟨g,0,rfl,fun i hi=>by rw [Nat.zero_add,h.cell i hi,if_pos hi]⟩
theorem qE2 (v:Value) (bs:List Nat) (n:Nat) (w:World) (h:jW w v bs) (hb:∀n∈bs,n<256) (hl:bs.length≤1000000000000) (hn:n≤4096):
  Calls Tryz.prog 49 #[v,.int .i64 n] w (qEM w bs n):=by
 have H:=qA h
 have HB:=qA hb
 have HL:=qA hl
 clear h hb hl
 go_enter Tryz.func49,Tryz.ntmps49
 go_wp2_with fail
 refine (kJ w v bs H.out).mono ?_
 rintro e w1 ⟨rfl,hw1⟩
 have HR:Hid (Rd w1 w.heap.size 0 (qG bs) 0 0):=by rw [hw1];exact xZ w bs HL.out
 have HB1:Hid (Below w.heap.size w w1):=by rw [hw1];exact (Below.refl _ _).alloc (Nat.le_refl _) _
 clear hw1
 go_wp2_with fail
 refine (qHW w.heap.size (qG bs) n w1 HR.out hn).mono ?_
 rintro e w2 (⟨rfl,O2,hno⟩|⟨a,e1,f,rfl,T⟩)
 ·have HB2:Hid (Below w.heap.size w w2):=HB1.out.trans (O2.below (Nat.le_refl _) HB1.out.size)
  have HNO:=qA hno
  clear hno O2
  go_wp2_with fail
  go_ret2
  refine .inl ⟨rfl,HB2.out,fun ⟨h,hP⟩=>HNO.out ⟨h,?_⟩⟩
  rw [qV bs HB.out];exact wJ hP
 ·have HB2:Hid (Below w.heap.size w w2):=HB1.out.trans (T.only.below (Nat.le_refl _) HB1.out.size)
  have hT:=qA T
  clear T
  go_wp2_with fail
  refine (sN w.heap.size 0 (qG bs) a e1 w2 hT.out.rd).mono ?_
  rintro e w3 ⟨rfl,m,hw3⟩
  have HB3:Hid (Below w.heap.size w w3):=by rw [hw3];exact uF HB2.out m
  have HT3:Hid (qAI w3 (some ⟨w1.heap.size,0,none⟩) n f∧∃cur:Array Value,w3.heap[w1.heap.size]?=some (.cells cur 2 (0,0))∧cur.size=n):=by rw [hw3];exact ⟨hT.out.row.trow,hT.out.row.blk⟩
  clear hw3
  by_cases hE:pU (qG bs) a e1=0
  ·rw [hE]
   have HE:=qA hE
   clear hE
   go_wp2_with fail
   refine (qCF _ n n f w3 HT3.out.1 (by omega)).mono ?_
   rintro e w4 ⟨rr,rfl,hr,m4,hw4⟩
   have HB4:Hid (Below w.heap.size w w4):=by rw [hw4];exact uF HB3.out m4
   have HT4:Hid (qAI w4 (some ⟨w1.heap.size,0,none⟩) n f∧∃cur:Array Value,w4.heap[w1.heap.size]?=some (.cells cur 2 (0,0))∧cur.size=n):=by rw [hw4];exact HT3.out
   clear hw4
   have HRR:=qA hr
   clear hr
   cases rr with
   |false=>
    go_wp2_with fail
    go_ret2
    refine .inl ⟨rfl,HB4.out,fun ⟨h,hP⟩=>?_⟩
    have h1:Rises f n:=Rises.congr hP.2.1 (hT.out.begins HB.out (wJ hP)).2
    have:=HRR.out.2 h1
    cases this
   |true=>
    go_wp2_with fail
    go_ret2
    exact .inr ⟨w1.heap.size,f,rfl,HB1.out.size,HT4.out,HB4.out,hT.out.packs HB.out HE.out (HRR.out.1 (by trivial)),fun h hB=>(hT.out.begins HB.out hB).2⟩
  ·have hE':(pU (qG bs) a e1 !=0)=true:=by simp [hE]
   have HE:=qA hE
   clear hE
   go_wp2_with fail
   go_ret2
   exact .inl ⟨rfl,HB3.out,fun ⟨h,hP⟩=>HE.out (hT.out.ended HB.out hP)⟩
theorem qE1 (v:Value) (bs:List Nat) (n:Nat) (w:World) (h:jW w v bs) (hb:∀n∈bs,n<256) (hl:bs.length≤1000000000000) (hn:n≤4096):
  Calls Tryz.prog 49 #[v,.int .i64 n] w (qEL w bs n):=by
 refine (qE2 v bs n w h hb hl hn).mono ?_
 rintro e w' (h1|⟨g,f,h1,h2,h3,h4⟩)
 ·exact .inl h1
 ·exact .inr ⟨g,f,h1,h2,h3.1,h4⟩
end Go.Proofs.YtkpmalfigmimaaaGreatDoor
namespace Go.Proofs.YtkpmalfigmimaaaGreatDoor
open M
def plB (W:Nat) (f:Nat→Nat):Nat→List Bool
 |0=>[]
 |n+1=>plB W f n++bitsOf (f n) W
theorem xK (W:Nat) (f:Nat→Nat) (n:Nat):(plB W f n).length=W*n:=by
 induction n with
 |zero=>rfl
 |succ n ih=>rw [plB,List.length_append,ih,bitsOf_length,Nat.mul_succ]
theorem fJ (W:Nat) (f g:Nat→Nat) (n:Nat) (h:∀i,i<n→f i=g i):plB W f n=plB W g n:=by
 induction n with
 |zero=>rfl
 |succ n ih=>rw [plB,plB,ih fun i hi=>h i (by omega),h n (by omega)]
def exS (M:Nat) (f:Nat→Nat):Nat→Nat
 |0=>0
 |1=>f 0
 |i+2=>(2*f (i+1)+M-f i)%M
def sgW (H M x:Nat):Int:=if x<H then (x:Int) else (x:Int)-M
def rsS (M:Nat) (f:Nat→Nat) (i:Nat):Nat:=(f i+M-exS M f i)%M
theorem lK (M:Nat) (f:Nat→Nat) (hM:0<M) (i:Nat) (h:∀j,j<i→f j<M):exS M f i<M:=by
 match i with
 |0=>exact hM
 |1=>exact h 0 (by omega)
 |i+2=>exact Nat.mod_lt _ hM
theorem qCH (M:Nat) (f:Nat→Nat) (hM:0<M) (i:Nat):rsS M f i<M:=Nat.mod_lt _ hM
theorem qCG (M:Nat) (f:Nat→Nat) (hM:0<M) (i:Nat) (h:∀j,j≤i→f j<M):(exS M f i+rsS M f i)%M=f i:=by
 have he:=lK M f hM i fun j hj=>h j (by omega)
 have hf:=h i (by omega)
 unfold rsS
 by_cases hle:exS M f i≤f i
 ·have e:f i+M-exS M f i=(f i-exS M f i)+M:=by omega
  rw [e,Nat.add_mod_right,Nat.mod_eq_of_lt (show f i-exS M f i<M by omega),show exS M f i+(f i-exS M f i)=f i from by omega,Nat.mod_eq_of_lt hf]
 ·rw [Nat.mod_eq_of_lt (show f i+M-exS M f i<M by omega),show exS M f i+(f i+M-exS M f i)=f i+M from by omega,Nat.add_mod_right,Nat.mod_eq_of_lt hf]
theorem fR (H M x:Nat) (hM:M=2*H) (hx:x<M): -(H:Int)≤sgW H M x∧sgW H M x<(H:Int):=by
 unfold sgW;split<;>omega
theorem qG5 (H M x:Nat) (hM:M=2*H) (hx:x<M):sgW H M x%(M:Int)=(x:Int):=by
 unfold sgW
 split
 ·exact Int.emod_eq_of_lt (by omega) (by omega)
 ·rw [show ((x:Int)-M)=(x:Int)+M*(-1) from by omega,Int.add_mul_emod_self_left]
  exact Int.emod_eq_of_lt (by omega) (by omega)
def stB (H M:Nat) (f:Nat→Nat):Nat→List Bool
 |0=>[]
 |n+1=>stB H M f n++varB (zig (sgW H M (rsS M f n)))
theorem nZ (M:Nat) (f g:Nat→Nat) (i:Nat) (h:∀j,j<i→f j=g j):exS M f i=exS M g i:=by
 match i with
 |0=>rfl
 |1=>exact h 0 (by omega)
 |i+2=>rw [exS,exS,h i (by omega),h (i+1) (by omega)]
theorem fV (H M:Nat) (f g:Nat→Nat) (n:Nat) (h:∀i,i<n→f i=g i):stB H M f n=stB H M g n:=by
 induction n with
 |zero=>rfl
 |succ n ih=>rw [stB,stB,ih fun i hi=>h i (by omega),rsS,rsS,h n (by omega),nZ M f g n fun j hj=>h j (by omega)]
def qI (f:Nat→Nat) (v:Nat):Nat→Nat→Nat
 |_,0=>0
 |i,k+1=>if f i=v then qI f v (i+1) k+1 else 0
theorem zG (f:Nat→Nat) (v i k:Nat):qI f v i k≤k:=by
 induction k generalizing i with
 |zero=>exact Nat.le_refl _
 |succ k ih=>have:=ih (i+1);rw [qI];split<;>omega
theorem cY (f:Nat→Nat) (v i k:Nat) (j:Nat) (hj:j<qI f v i k):f (i+j)=v:=by
 induction k generalizing i j with
 |zero=>simp [qI] at hj
 |succ k ih=>
  rw [qI] at hj
  split at hj
  ·rename_i h
   match j with
   |0=>exact h
   |j+1=>rw [show i+(j+1)=i+1+j from by omega];exact ih (i+1) j (by omega)
  ·omega
theorem zZ (f:Nat→Nat) (i k:Nat):0<qI f (f i) i (k+1):=by rw [qI,if_pos rfl];omega
theorem uX (f:Nat→Nat) (v i k m:Nat) (hm:m≤k) (hs:∀j,j<m→f (i+j)=v) (he:m<k→f (i+m)≠v):qI f v i k=m:=by
 induction k generalizing i m with
 |zero=>simp [qI];omega
 |succ k ih=>
  rw [qI]
  match m with
  |0=>rw [if_neg];exact fun h=>he (by omega) h
  |m+1=>
   rw [if_pos (show f i=v from hs 0 (by omega)),ih (i+1) m (by omega) (fun j hj=>?_) (fun hj=>?_)]
   ·rw [show i+1+j=i+(j+1) from by omega];exact hs (j+1) (by omega)
   ·rw [show i+1+m=i+(m+1) from by omega];exact he (by omega)
def rnB (W:Nat) (f:Nat→Nat):Nat→Nat→Nat→List Bool
 |0,_,_=>[]
 |_,_,0=>[]
 |u+1,i,k+1=>bitsOf (f i) W++varB (qI f (f i) i (k+1)-1)++rnB W f u (i+qI f (f i) i (k+1)) (k+1-qI f (f i) i (k+1))
theorem vF (W:Nat) (f:Nat→Nat) (u u' i k:Nat) (h:k≤u) (h':k≤u'):rnB W f u i k=rnB W f u' i k:=by
 induction u generalizing u' i k with
 |zero=>
      obtain rfl:k=0:=by omega
      cases u'<;>rfl
 |succ u ih=>
  match k,u' with
  |0,0=>rfl
  |0,u'+1=>rfl
  |k+1,u'+1=>
   have hp:=zZ f i k
   rw [rnB,rnB,ih u' _ _ (by omega) (by omega)]
end Go.Proofs.YtkpmalfigmimaaaGreatDoor
namespace Go.Proofs.YtkpmalfigmimaaaGreatDoor
open M
structure Dm where
 mul:Nat→Nat→Nat
 div:Nat→Nat→Nat
 int:Int→Nat
 near:Nat→Option Int
 mostP:Nat
 most:Int
namespace Dm
variable (F : Dm)
def pow:Nat→Nat
 |0=>F.int 1
 |p+1=>F.mul (pow p) (F.int 10)
def val (p:Nat) (k:Int):Nat:=F.div (F.int k) (F.pow p)
def wh (p v:Nat):Option Int:=
 match F.near (F.mul v (F.pow p)) with
 |none=>none
 |some k=>if k< -F.most∨F.most<k∨F.val p k≠v then none else some k
theorem wh_val {p v:Nat} {k:Int} (h:F.wh p v=some k):F.val p k=v∧-F.most≤k∧k≤F.most:=by
 unfold wh at h
 split at h
 ·cases h
 ·split at h
  ·cases h
  ·rename_i hn
   simp only [Option.some.injEq] at h
   subst h
   simp only [not_or,Int.not_lt,Decidable.not_not] at hn
   exact ⟨hn.2.2,hn.1,hn.2.1⟩
def cnt (p:Nat) (f:Nat→Nat):Nat→Nat→Nat
 |_,0=>0
 |i,m+1=>if (F.wh p (f i)).isSome then cnt p f (i+1) m else cnt p f (i+1) m+1
theorem cnt_end (p:Nat) (f:Nat→Nat) (i m:Nat):F.cnt p f i (m+1)=F.cnt p f i m+(if (F.wh p (f (i+m))).isSome then 0 else 1):=by
 induction m generalizing i with
 |zero=>simp only [cnt,Nat.add_zero,Nat.zero_add]
 |succ m ih=>
  rw [cnt,ih (i+1),cnt,show i+1+m=i+(m+1) from by omega]
  by_cases h:(F.wh p (f i)).isSome=true<;>simp only [h,if_true,if_false,Bool.false_eq_true]<;>omega
theorem cnt_le (p:Nat) (f:Nat→Nat) (i m:Nat):F.cnt p f i m≤m:=by
 induction m generalizing i with
 |zero=>exact Nat.le_refl _
 |succ m ih=>have:=ih (i+1);rw [cnt];split<;>omega
theorem cnt_congr (p:Nat) (f g:Nat→Nat) (i m:Nat) (h:∀j,i≤j→j<i+m→f j=g j):F.cnt p f i m=F.cnt p g i m:=by
 induction m generalizing i with
 |zero=>rfl
 |succ m ih=>rw [cnt,cnt,h i (Nat.le_refl _) (by omega),ih (i+1) fun j h1 h2=>h j (by omega) (by omega)]
def bs (f:Nat→Nat) (n:Nat):Nat→Nat×Nat
 |0=>(0,F.cnt 0 f 0 n)
 |q+1=>if (bs f n q).2=0 then bs f n q else if F.cnt (q+1) f 0 n<(bs f n q).2 then (q+1,F.cnt (q+1) f 0 n) else bs f n q
theorem bs_le (f:Nat→Nat) (n q:Nat):(F.bs f n q).1≤q:=by
 induction q with
 |zero=>exact Nat.le_refl _
 |succ q ih=>
         rw [bs];split
         ·omega
         ·split
          ·exact Nat.le_refl _
          ·omega
theorem bs_stop (f:Nat→Nat) (n q r:Nat) (h:q≤r) (h0:(F.bs f n q).2=0):F.bs f n r=F.bs f n q:=by
 induction r with
 |zero=>rw [show q=0 from by omega]
 |succ r ih=>
  by_cases e:q=r+1
  ·rw [e]
  ·have:=ih (by omega)
   rw [bs,this,if_pos h0]
theorem bs_congr (f g:Nat→Nat) (n q:Nat) (h:∀j,j<n→f j=g j):F.bs f n q=F.bs g n q:=by
 have hc:∀p,F.cnt p f 0 n=F.cnt p g 0 n:=fun p=>F.cnt_congr p f g 0 n fun j _ h2=>h j (by omega)
 induction q with
 |zero=>rw [bs,bs,hc]
 |succ q ih=>rw [bs,bs,ih,hc]
def nt (W p:Nat) (f:Nat→Nat):Nat→Nat→Nat→List Bool
 |_,0,_=>[]
 |i,m+1,c=>if (F.wh p (f i)).isSome then nt W p f (i+1) m (c+1) else varB c++(bitsOf (f i) W++nt W p f (i+1) m 0)
def wb (p:Nat) (f:Nat→Nat):Nat→Nat→Int→List Bool
 |_,0,_=>[]
 |i,m+1,a=>match F.wh p (f i) with
  |some k=>varB (zig (k-a))++wb p f (i+1) m k
  |none=>wb p f (i+1) m a
theorem nt_congr (W p:Nat) (f g:Nat→Nat) (i m c:Nat) (h:∀j,i≤j→j<i+m→f j=g j):F.nt W p f i m c=F.nt W p g i m c:=by
 induction m generalizing i c with
 |zero=>rfl
 |succ m ih=>rw [nt,nt,h i (Nat.le_refl _) (by omega),ih (i+1) (c+1) fun j h1 h2=>h j (by omega) (by omega),ih (i+1) 0 fun j h1 h2=>h j (by omega) (by omega)]
theorem wb_congr (p:Nat) (f g:Nat→Nat) (i m:Nat) (a:Int) (h:∀j,i≤j→j<i+m→f j=g j):F.wb p f i m a=F.wb p g i m a:=by
 induction m generalizing i a with
 |zero=>rfl
 |succ m ih=>
  rw [wb,wb,h i (Nat.le_refl _) (by omega)]
  split
  ·rw [ih (i+1) _ fun j h1 h2=>h j (by omega) (by omega)]
  ·exact ih (i+1) _ fun j h1 h2=>h j (by omega) (by omega)
theorem nt_none (W p:Nat) (f:Nat→Nat) (i m c:Nat) (h:F.cnt p f i m=0):F.nt W p f i m c=[]∧∀j,i≤j→j<i+m→(F.wh p (f j)).isSome=true:=by
 induction m generalizing i c with
 |zero=>exact ⟨rfl,fun j h1 h2=>by omega⟩
 |succ m ih=>
  rw [cnt] at h
  by_cases hs:(F.wh p (f i)).isSome=true
  ·rw [if_pos hs] at h
   obtain ⟨h1,h2⟩:=ih (i+1) (c+1) h
   refine ⟨by rw [nt,if_pos hs,h1],fun j h3 h4=>?_⟩
   by_cases e:j=i
   ·rw [e];exact hs
   ·exact h2 j (by omega) (by omega)
  ·rw [if_neg hs] at h;omega
theorem nt_next (W p:Nat) (f:Nat→Nat) (i m c:Nat) (h:0<F.cnt p f i m):∃j,j<m∧(F.wh p (f (i+j))).isSome=false∧(∀t,t<j→(F.wh p (f (i+t))).isSome=true)∧F.cnt p f i m=F.cnt p f (i+j+1) (m-(j+1))+1∧
  F.nt W p f i m c=varB (c+j)++(bitsOf (f (i+j)) W++F.nt W p f (i+j+1) (m-(j+1)) 0):=by
 induction m generalizing i c with
 |zero=>simp [cnt] at h
 |succ m ih=>
  rw [cnt] at h⊢
  rw [nt]
  by_cases hs:(F.wh p (f i)).isSome=true
  ·rw [if_pos hs] at h⊢
   rw [if_pos hs]
   obtain ⟨j,h1,h2,h3,h4,h5⟩:=ih (i+1) (c+1) h
   refine ⟨j+1,by omega,by rw [show i+(j+1)=i+1+j from by omega];exact h2,fun t ht=>?_,?_,?_⟩
   ·match t with
    |0=>exact hs
    |t+1=>rw [show i+(t+1)=i+1+t from by omega];exact h3 t (by omega)
   ·rw [h4,show i+(j+1)+1=i+1+j+1 from by omega,show m+1-(j+1+1)=m-(j+1) from by omega]
   ·rw [h5,show i+(j+1)+1=i+1+j+1 from by omega,show m+1-(j+1+1)=m-(j+1) from by omega,show c+1+j=c+(j+1) from by omega,show i+(j+1)=i+1+j from by omega]
  ·rw [if_neg hs,if_neg hs]
   exact ⟨0,by omega,by simpa using hs,fun t ht=>by omega,by simp,by simp⟩
theorem nt_len (W p:Nat) (hW:W≤64) (f:Nat→Nat) (i m c:Nat) (hv:∀x,(varB x).length≤80):(F.nt W p f i m c).length≤144*m:=by
 induction m generalizing i c with
 |zero=>simp [nt]
 |succ m ih=>
  rw [nt];split
  ·have:=ih (i+1) (c+1);omega
  ·rw [List.length_append,List.length_append,bitsOf_length]
   have:=ih (i+1) 0;have:=hv c;omega
theorem wb_len (p:Nat) (f:Nat→Nat) (i m:Nat) (a:Int) (hv:∀x,(varB x).length≤80):(F.wb p f i m a).length≤80*m:=by
 induction m generalizing i a with
 |zero=>simp [wb]
 |succ m ih=>
  rw [wb];split
  ·rename_i k _
   rw [List.length_append]
   have:=ih (i+1) k;have:=hv (zig (k-a));omega
  ·have:=ih (i+1) a;omega
def dm (W:Nat) (f:Nat→Nat) (n:Nat):List Bool:=
 bitsOf (F.bs f n F.mostP).1 5++(varB (F.cnt (F.bs f n F.mostP).1 f 0 n)++(F.nt W (F.bs f n F.mostP).1 f 0 n 0++F.wb (F.bs f n F.mostP).1 f 0 n 0))
theorem dm_congr (W:Nat) (f g:Nat→Nat) (n:Nat) (h:∀j,j<n→f j=g j):F.dm W f n=F.dm W g n:=by
 unfold dm
 rw [F.bs_congr f g n _ h,F.cnt_congr _ f g 0 n fun j _ h2=>h j (by omega),F.nt_congr W _ f g 0 n 0 fun j _ h2=>h j (by omega),F.wb_congr _ f g 0 n 0 fun j _ h2=>h j (by omega)]
end Dm
end Go.Proofs.YtkpmalfigmimaaaGreatDoor
