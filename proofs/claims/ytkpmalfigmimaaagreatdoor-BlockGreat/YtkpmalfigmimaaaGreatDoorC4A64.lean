import Derived.Test.YtkpmalfigmimaaaGreatDoorC2G64
import Derived.Test.YtkpmalfigmimaaaGreatDoorC1T64
import Derived.Test.YtkpmalfigmimaaaGreatDoorC1P
import Derived.Test.YtkpmalfigmimaaaGreatDoorT1S
import Derived.Deep.Cut
import Derived.Deep.RegionHeld3
import Derived.Great.Walk
import Derived.Test.YtkpmalfigmimaaaGreatDoorC1L64
import Derived.Test.YtkpmalfigmimaaaGreatDoorC2D
import Derived.Lib.Bytes
set_option linter.unusedVariables false
set_option linter.unusedSimpArgs false
set_option maxRecDepth 100000
set_option maxHeartbeats 8000000
namespace Go.Proofs.YtkpmalfigmimaaaGreatDoor
open Go.RowKit
open M
theorem qGE (m:Nat) (hm:0<m) (y k:Int) (hk:(m:Int)=k):∃Y:Nat,y%k=(Y:Int)∧Y<m:=by
 subst hk
 have h1:=Int.emod_nonneg y (b:=(m:Int)) (by omega)
 have h2:=Int.emod_lt_of_pos y (b:=(m:Int)) (by omega)
 generalize y%(m:Int)=z at*
 exact ⟨z.toNat,(Int.toNat_of_nonneg h1).symm,by omega⟩
theorem qD0 (m E y Y x:Int) (h2:y%m=Y) (h1:(E+Y)%m=x):x=(E+y)%m:=by rw [←h1,←h2,Int.add_emod_emod]
theorem sJ (H M:Nat) (hM:M=2*H) (hH:0<H) (f h:Nat→Nat) (k:Nat) (hf:∀i,i<k→f i=h i) (hr:∀i,i<k→f i<M) (hk:h k<M) (m:Int) (hm:(M:Int)=m):((exS M f k:Int)+sgW H M (rsS M h k))%m=(h k:Int):=by
 subst hm
 have e1:=nQ M f h k hf
 have e2:=qG0 H M (rsS M h k) hM (qCF M h (by omega) k)
 have e3:=qCE M h (by omega) k fun j hj=>by
  by_cases e:j=k
  ·rw [e];exact hk
  ·rw [←hf j (by omega)];exact hr j (by omega)
 rw [←Int.add_emod_emod,e2,e1,←e3]
 simp
theorem qJI (x:Nat) (hx:x<18446744073709551616): -9223372036854775808≤sgW 9223372036854775808 18446744073709551616 x∧sgW 9223372036854775808 18446744073709551616 x≤9223372036854775807:=by
 unfold sgW;split<;>omega
theorem rQ:tD (stB 9223372036854775808 18446744073709551616) (fun h k=>varB (zig (sgW 9223372036854775808 18446744073709551616 (rsS 18446744073709551616 h k)))):=⟨fun h=>rfl,fun h k=>rfl⟩
theorem qAA.drewN {bf:(Nat→Nat)→Nat→List Bool} {w wr:World} {b:Nat} {s:ByteArray} {g n k a:Nat} {e1:Int} {f:Nat→Nat} (T:qAA bf w wr b s g n k a e1 f) (hb:b<wr.heap.size) (m:Nat):qAA bf w (wr.drewN m) b s g n k a e1 f:=
 ⟨T.row.ofBlock rfl,T.rd.below (w':=wr.drewN m) ⟨rfl,rfl,rfl,Nat.le_refl _,fun _ _=>rfl⟩ hb,⟨T.only.os,T.only.tape,T.only.output,T.only.size,T.only.block,T.only.cell,T.only.frozen⟩,T.size,T.rng,T.full⟩
theorem wY (v:Value) (bs:List Nat) (n:Nat) (w:World) (h:jY w v bs) (hb:∀n∈bs,n<256) (hl:bs.length≤1000000000000) (hn:n≤4096):
  Calls Tryz.prog 118 #[v,.int .i64 n] w (nF (stB 9223372036854775808 18446744073709551616) bs n w):=by
 have H:=qA h
 have HB:=qA hb
 have HL:=qA hl
 have hmk:=jZ n hn
 clear h hb hl
 go_enter Tryz.func118,Tryz.ntmps118
 go_wp2_with fail
 refine (kJ w v bs H.out).mono ?_
 rintro e w1 ⟨rfl,hw1⟩
 have HR:Hid (Rd w1 w.heap.size 0 (qG bs) 0 0∧w1.heap.size=w.heap.size+1∧Below w.heap.size w w1):=by
  rw [hw1];exact ⟨xV w bs HL.out,by simp,(Below.refl _ _).alloc (Nat.le_refl _) _⟩
 clear hw1
 obtain ⟨b,hbw⟩:∃b,w.heap.size=b:=⟨_,rfl⟩
 have HBW:=qA hbw
 obtain ⟨g,hg⟩:∃g,w1.heap.size=g:=⟨_,rfl⟩
 have HA:Hid (qAA (stB 9223372036854775808 18446744073709551616) w1 (w1.alloc (.cells (Array.replicate n (Value.int .u64 0)) 36)) b (qG bs) g n 0 0 0 (fun _=>0)):=by
  have hA:Below w1.heap.size w1 (w1.alloc (.cells (Array.replicate n (Value.int .u64 0)) 36)):=(Below.refl _ w1).alloc (Nat.le_refl _) _
  have hbs:b<w1.heap.size:=by have:=HR.out.2.1;omega
  refine ⟨by rw [←hg];exact vE.new w1 n _,by rw [←hbw];exact HR.out.1.below hA (by omega),⟨hA.os,hA.tape,hA.output,hA.size,fun k hk _=>hA.block k hk,fun j _=>World.cell?_of_block (hA.block b hbs),fun j=>World.frozen?_of_block (w:=w1) (a:=⟨b,j,none⟩) (hA.block b hbs)⟩,by rw [←hg];simp,fun i hi=>by omega,fun h hB=>⟨rfl,by simp [stB],fun i hi=>by omega⟩⟩
 have hgb:g≠b:=by have:=HR.out.2.1;omega
 have HG:Hid (w1.heap.size≤g):=Nat.le_of_eq hg
 rw [hbw]
 clear hbw
 go_upto_region 3 with fail
 (try rw [hg])
 clear hg hmk
 generalize w1.alloc (.cells (Array.replicate n (Value.int .u64 0)) 36)=W0 at*
 go_wp2_with fail
 go_loopw [15] (fun t15 wr=>∃(k a:Nat) (e1:Int) (f:Nat→Nat),t15= .int .i64 (k:Int)∧Hid (k≤n∧qAA (stB 9223372036854775808 18446744073709551616) w1 wr b (qG bs) g n k a e1 f)) (fun t15 _=>n-(intOf t15).toNat)
 case atStart=>exact ⟨0,0,0,_,rfl,Nat.zero_le _,HA.out⟩
 case round=>
  obtain ⟨k,a,e1,f,rfl,hI⟩:=hrel
  by_cases hlt:k<n
  ·have HROW:Hid (qX wr (some ⟨g,0,none⟩) k f∧∀i,i<k→f i<18446744073709551616):=⟨fun _=>⟨g,0,rfl,fun i hi=>by rw [Nat.zero_add,hI.out.2.row.cell i (by omega),if_pos hi]⟩,hI.out.2.rng⟩
   have HBG:Hid (b<wr.heap.size):=by have:=hI.out.2.size;have:=HR.out.2.1;have:=HG.out;have:=HBW.out;exact (by omega:b<wr.heap.size)
   go_wp2_with fail
   refine (vI (some ⟨g,0,none⟩) k n f wr HROW.out.1 (by omega) (by omega) HROW.out.2).mono ?_
   rintro e wd ⟨rfl,m,hwd⟩
   have HL1:Hid (qAA (stB 9223372036854775808 18446744073709551616) w1 wd b (qG bs) g n k a e1 f):=by rw [hwd];exact hI.out.2.drewN HBG.out m
   have heM:exS 18446744073709551616 f k<18446744073709551616:=lD _ _ (by decide) k HROW.out.2
   obtain ⟨E,hE⟩:∃E,exS 18446744073709551616 f k=E:=⟨_,rfl⟩
   rw [hE] at heM⊢
   have HE:=qA hE
   clear hE hwd
   go_wp2_with fail
   refine (qC4 b 0 (qG bs) a e1 wd HL1.out.rd).mono ?_
   rintro e w2 ⟨y,a',e2,rfl,hy,T⟩
   obtain ⟨Y,hY',_⟩:=qGE 18446744073709551616 (by decide) y 18446744073709551616 rfl
   obtain ⟨x,hX',hx⟩:=qGE 18446744073709551616 (by decide) ((E:Int)+(Y:Int)) 18446744073709551616 rfl
   have hY:IntKind.u64.wrap y=(Y:Int):=by rw [IntKind.wrap_u64];exact hY'
   have hX:IntKind.u64.wrap ((E:Int)+(Y:Int))=(x:Int):=by rw [IntKind.wrap_u64];exact hX'
   have HX:Hid ((x:Int)=((E:Int)+y)%18446744073709551616):=qD0 18446744073709551616 E y Y x hY' hX'
   clear hX' hY'
   have NX:=qAA.next rQ hlt HG.out hgb HL1.out x hx T.rd T.only (fun he h r hh hk hr=>by
    have h0:=qJI (rsS 18446744073709551616 h k) (qCF _ _ (by decide) k)
    obtain ⟨h1,h2,h3⟩:=T.hit he _ _ h0 hr
    refine ⟨?_,h2,h3⟩
    have h4:=sJ 9223372036854775808 18446744073709551616 (by decide) (by decide) f h k hh HROW.out.2 hk 18446744073709551616 rfl
    have h5:=HX.out
    rw [h1,←HE.out,h4] at h5
    exact Int.ofNat.inj h5)
   have RW:=HL1.out.row.ofBlock (T.only.block g HL1.out.size hgb)
   have c2:w2.cell? ⟨g,k,none⟩=some (.int .u64 0):=by rw [RW.cell k hlt,if_neg (by omega)];rfl
   have c3:=RW.fz k
   have HNX:=qA NX
   clear NX RW T
   go_wp2_with fail
   go_roundw
   case rel=>exact ⟨k+1,a',e2,_,by simp,hlt,HNX.out⟩
   case measure=>simp [intOf];omega
  ·have hk:k=n:=by have:=hI.out.1;omega
   have hI':Hid (qAA (stB 9223372036854775808 18446744073709551616) w1 wr b (qG bs) g n n a e1 f):=by have:=hI.out.2;rw [hk] at this;exact this
   go_wp2_with fail
   go_ret2
   refine ⟨g,f,?_,rfl,hI'.out.row,hI'.out.rng,?_,fun h hB i hi=>?_⟩
   ·have:=HR.out.2.1;have:=HG.out;omega
   ·have:=hI'.out.only.below (B:=w.heap.size) (by have:=HBW.out;omega) (by have:=HR.out.2.1;omega)
    exact HR.out.2.2.trans this
   ·exact (hI'.out.full h (by rw [qT bs HB.out];exact hB)).2.2 i hi
end Go.Proofs.YtkpmalfigmimaaaGreatDoor
namespace Go.Proofs.YtkpmalfigmimaaaGreatDoor
open Go.RowKit
def kD:Array MapEntry:=#[{key:= .int .i64 1,val:= .func (.func 126) #[] #[],born:=0},{key:= .int .i64 2,val:= .func (.func 127) #[] #[],born:=1},{key:= .int .i64 3,val:= .func (.func 128) #[] #[],born:=2},{key:= .int .i64 4,val:= .func (.func 129) #[] #[],born:=3},{key:= .int .i64 5,val:= .func (.func 130) #[] #[],born:=4},{key:= .int .i64 6,val:= .func (.func 131) #[] #[],born:=5}]
theorem zB (w:World):Calls Tryz.prog 105 #[] w fun e w'=>e= .returned (.map (some w.heap.size))∧w'.heap[w.heap.size]?=some (.map kD 6)∧Below w.heap.size w w':=by
 have b0:=heap_alloc_new w (.map #[] 0)
 have HB:Hid (Below w.heap.size w (w.alloc (.map #[] 0))):=(Below.refl _ w).alloc (Nat.le_refl _) _
 obtain ⟨r,hr⟩:∃r,w.heap.size=r:=⟨_,rfl⟩
 have HR:=qA hr
 go_enter Tryz.func105,Tryz.ntmps105
 go_upto_region 1 with fail
 refine wp_region_list ?_
 refine kG _ rfl _ rfl ?_
 rw [hr] at b0 HB⊢
 clear hr
 generalize w.alloc (.map #[] 0)=w0 at*
 refine qN _ rfl _ _ _ 171 rfl 3 169 Tryz.underlying171 Tryz.underlying3 r 0 _ 1 (.func (.func 126) #[] #[]) rfl rfl rfl b0 (by kernel_rfl) ?_
 intro w1 b1 B1
 have B1:=qA (B1 r (Nat.le_refl _))
 refine qN _ rfl _ _ _ 171 rfl 3 169 Tryz.underlying171 Tryz.underlying3 r 1 _ 2 (.func (.func 127) #[] #[]) rfl rfl rfl b1 (by kernel_rfl) ?_
 intro w2 b2 B2
 have B2:=qA (B2 r (Nat.le_refl _))
 refine qN _ rfl _ _ _ 171 rfl 3 169 Tryz.underlying171 Tryz.underlying3 r 2 _ 3 (.func (.func 128) #[] #[]) rfl rfl rfl b2 (by kernel_rfl) ?_
 intro w3 b3 B3
 have B3:=qA (B3 r (Nat.le_refl _))
 refine qN _ rfl _ _ _ 171 rfl 3 169 Tryz.underlying171 Tryz.underlying3 r 3 _ 4 (.func (.func 129) #[] #[]) rfl rfl rfl b3 (by kernel_rfl) ?_
 intro w4 b4 B4
 have B4:=qA (B4 r (Nat.le_refl _))
 refine qN _ rfl _ _ _ 171 rfl 3 169 Tryz.underlying171 Tryz.underlying3 r 4 _ 5 (.func (.func 130) #[] #[]) rfl rfl rfl b4 (by kernel_rfl) ?_
 intro w5 b5 B5
 have B5:=qA (B5 r (Nat.le_refl _))
 refine qN _ rfl _ _ _ 171 rfl 3 169 Tryz.underlying171 Tryz.underlying3 r 5 _ 6 (.func (.func 131) #[] #[]) rfl rfl rfl b5 (by kernel_rfl) ?_
 intro w6 b6 B6
 have B6:=qA (B6 r (Nat.le_refl _))
 go_wp2_with fail
 go_ret
 exact ⟨by rw [HR.out];rfl,by rw [HR.out];exact b6,by rw [HR.out];exact ((((((HB.out.trans B1.out).trans B2.out).trans B3.out).trans B4.out).trans B5.out).trans B6.out)⟩
def zM:Array MapEntry:=#[{key:= .int .i64 1,val:= .func (.func 114) #[] #[],born:=0},{key:= .int .i64 2,val:= .func (.func 115) #[] #[],born:=1},{key:= .int .i64 3,val:= .func (.func 116) #[] #[],born:=2},{key:= .int .i64 4,val:= .func (.func 117) #[] #[],born:=3},{key:= .int .i64 5,val:= .func (.func 118) #[] #[],born:=4},{key:= .int .i64 6,val:= .func (.func 119) #[] #[],born:=5}]
theorem jU (w:World):Calls Tryz.prog 101 #[] w fun e w'=>e= .returned (.map (some w.heap.size))∧w'.heap[w.heap.size]?=some (.map zM 6)∧Below w.heap.size w w':=by
 have b0:=heap_alloc_new w (.map #[] 0)
 have HB:Hid (Below w.heap.size w (w.alloc (.map #[] 0))):=(Below.refl _ w).alloc (Nat.le_refl _) _
 obtain ⟨r,hr⟩:∃r,w.heap.size=r:=⟨_,rfl⟩
 have HR:=qA hr
 go_enter Tryz.func101,Tryz.ntmps101
 go_upto_region 1 with fail
 refine wp_region_list ?_
 refine kG _ rfl _ rfl ?_
 rw [hr] at b0 HB⊢
 clear hr
 generalize w.alloc (.map #[] 0)=w0 at*
 refine qN _ rfl _ _ _ 162 rfl 3 160 Tryz.underlying162 Tryz.underlying3 r 0 _ 1 (.func (.func 114) #[] #[]) rfl rfl rfl b0 (by kernel_rfl) ?_
 intro w1 b1 B1
 have B1:=qA (B1 r (Nat.le_refl _))
 refine qN _ rfl _ _ _ 162 rfl 3 160 Tryz.underlying162 Tryz.underlying3 r 1 _ 2 (.func (.func 115) #[] #[]) rfl rfl rfl b1 (by kernel_rfl) ?_
 intro w2 b2 B2
 have B2:=qA (B2 r (Nat.le_refl _))
 refine qN _ rfl _ _ _ 162 rfl 3 160 Tryz.underlying162 Tryz.underlying3 r 2 _ 3 (.func (.func 116) #[] #[]) rfl rfl rfl b2 (by kernel_rfl) ?_
 intro w3 b3 B3
 have B3:=qA (B3 r (Nat.le_refl _))
 refine qN _ rfl _ _ _ 162 rfl 3 160 Tryz.underlying162 Tryz.underlying3 r 3 _ 4 (.func (.func 117) #[] #[]) rfl rfl rfl b3 (by kernel_rfl) ?_
 intro w4 b4 B4
 have B4:=qA (B4 r (Nat.le_refl _))
 refine qN _ rfl _ _ _ 162 rfl 3 160 Tryz.underlying162 Tryz.underlying3 r 4 _ 5 (.func (.func 118) #[] #[]) rfl rfl rfl b4 (by kernel_rfl) ?_
 intro w5 b5 B5
 have B5:=qA (B5 r (Nat.le_refl _))
 refine qN _ rfl _ _ _ 162 rfl 3 160 Tryz.underlying162 Tryz.underlying3 r 5 _ 6 (.func (.func 119) #[] #[]) rfl rfl rfl b5 (by kernel_rfl) ?_
 intro w6 b6 B6
 have B6:=qA (B6 r (Nat.le_refl _))
 go_wp2_with fail
 go_ret
 exact ⟨by rw [HR.out];rfl,by rw [HR.out];exact b6,by rw [HR.out];exact ((((((HB.out.trans B1.out).trans B2.out).trans B3.out).trans B4.out).trans B5.out).trans B6.out)⟩
end Go.Proofs.YtkpmalfigmimaaaGreatDoor
namespace Go.Proofs.YtkpmalfigmimaaaGreatDoor
open Go.RowKit
theorem qET (p:Option Addr) (n cap:Nat) (w:World) (h0:0<n) (hn:n≤4096) (Q:Value→Value→World→Prop)
  (hcall:∀w1,Below w.heap.size w w1→Calls Tryz.prog 126 #[.slice p n cap] w1 fun e w'=>∃b s,e= .returned (.tuple #[b,s])∧Q b s w'):
  Calls Tryz.prog 90 #[.int .i64 1,.slice p n cap] w fun e w'=>∃b s,e= .returned (.tuple #[b,s])∧Q b s w':=by
 have hf:Instr.findNow (.int .i64) (.int .i64 1) kD.toList 0=some (some (0,.func (.func 126) #[] #[])):=by kernel_rfl
 have hne:((n:Int)==0)=false:=by rw [beq_eq_false_iff_ne];omega
 go_enter Tryz.func90,Tryz.ntmps90
 go_wp2_with fail
 refine (zB w).mono ?_
 rintro e w1 ⟨rfl,b1,B1⟩
 have hl:=jJ (P:=Tryz.prog) (w:=w1) _ _ _ _ _ _ 1 _ _ Tryz.underlying171 Tryz.underlying3 b1 hf
 have HB:=qA B1
 clear B1 b1 hf
 go_wp2_with fail
 refine (hcall w1 HB.out).mono ?_
 rintro e w2 ⟨b,s,rfl,h⟩
 have HQ:=qA h
 clear h
 go_wp2_with fail
 go_ret2
 exact ⟨b,s,rfl,HQ.out⟩
theorem qEU (p:Option Addr) (n cap:Nat) (w:World) (h0:0<n) (hn:n≤4096) (Q:Value→Value→World→Prop)
  (hcall:∀w1,Below w.heap.size w w1→Calls Tryz.prog 127 #[.slice p n cap] w1 fun e w'=>∃b s,e= .returned (.tuple #[b,s])∧Q b s w'):
  Calls Tryz.prog 90 #[.int .i64 2,.slice p n cap] w fun e w'=>∃b s,e= .returned (.tuple #[b,s])∧Q b s w':=by
 have hf:Instr.findNow (.int .i64) (.int .i64 2) kD.toList 0=some (some (1,.func (.func 127) #[] #[])):=by kernel_rfl
 have hne:((n:Int)==0)=false:=by rw [beq_eq_false_iff_ne];omega
 go_enter Tryz.func90,Tryz.ntmps90
 go_wp2_with fail
 refine (zB w).mono ?_
 rintro e w1 ⟨rfl,b1,B1⟩
 have hl:=jJ (P:=Tryz.prog) (w:=w1) _ _ _ _ _ _ 2 _ _ Tryz.underlying171 Tryz.underlying3 b1 hf
 have HB:=qA B1
 clear B1 b1 hf
 go_wp2_with fail
 refine (hcall w1 HB.out).mono ?_
 rintro e w2 ⟨b,s,rfl,h⟩
 have HQ:=qA h
 clear h
 go_wp2_with fail
 go_ret2
 exact ⟨b,s,rfl,HQ.out⟩
theorem qEV (p:Option Addr) (n cap:Nat) (w:World) (h0:0<n) (hn:n≤4096) (Q:Value→Value→World→Prop)
  (hcall:∀w1,Below w.heap.size w w1→Calls Tryz.prog 128 #[.slice p n cap] w1 fun e w'=>∃b s,e= .returned (.tuple #[b,s])∧Q b s w'):
  Calls Tryz.prog 90 #[.int .i64 3,.slice p n cap] w fun e w'=>∃b s,e= .returned (.tuple #[b,s])∧Q b s w':=by
 have hf:Instr.findNow (.int .i64) (.int .i64 3) kD.toList 0=some (some (2,.func (.func 128) #[] #[])):=by kernel_rfl
 have hne:((n:Int)==0)=false:=by rw [beq_eq_false_iff_ne];omega
 go_enter Tryz.func90,Tryz.ntmps90
 go_wp2_with fail
 refine (zB w).mono ?_
 rintro e w1 ⟨rfl,b1,B1⟩
 have hl:=jJ (P:=Tryz.prog) (w:=w1) _ _ _ _ _ _ 3 _ _ Tryz.underlying171 Tryz.underlying3 b1 hf
 have HB:=qA B1
 clear B1 b1 hf
 go_wp2_with fail
 refine (hcall w1 HB.out).mono ?_
 rintro e w2 ⟨b,s,rfl,h⟩
 have HQ:=qA h
 clear h
 go_wp2_with fail
 go_ret2
 exact ⟨b,s,rfl,HQ.out⟩
theorem qEW (p:Option Addr) (n cap:Nat) (w:World) (h0:0<n) (hn:n≤4096) (Q:Value→Value→World→Prop)
  (hcall:∀w1,Below w.heap.size w w1→Calls Tryz.prog 129 #[.slice p n cap] w1 fun e w'=>∃b s,e= .returned (.tuple #[b,s])∧Q b s w'):
  Calls Tryz.prog 90 #[.int .i64 4,.slice p n cap] w fun e w'=>∃b s,e= .returned (.tuple #[b,s])∧Q b s w':=by
 have hf:Instr.findNow (.int .i64) (.int .i64 4) kD.toList 0=some (some (3,.func (.func 129) #[] #[])):=by kernel_rfl
 have hne:((n:Int)==0)=false:=by rw [beq_eq_false_iff_ne];omega
 go_enter Tryz.func90,Tryz.ntmps90
 go_wp2_with fail
 refine (zB w).mono ?_
 rintro e w1 ⟨rfl,b1,B1⟩
 have hl:=jJ (P:=Tryz.prog) (w:=w1) _ _ _ _ _ _ 4 _ _ Tryz.underlying171 Tryz.underlying3 b1 hf
 have HB:=qA B1
 clear B1 b1 hf
 go_wp2_with fail
 refine (hcall w1 HB.out).mono ?_
 rintro e w2 ⟨b,s,rfl,h⟩
 have HQ:=qA h
 clear h
 go_wp2_with fail
 go_ret2
 exact ⟨b,s,rfl,HQ.out⟩
theorem qEX (p:Option Addr) (n cap:Nat) (w:World) (h0:0<n) (hn:n≤4096) (Q:Value→Value→World→Prop)
  (hcall:∀w1,Below w.heap.size w w1→Calls Tryz.prog 130 #[.slice p n cap] w1 fun e w'=>∃b s,e= .returned (.tuple #[b,s])∧Q b s w'):
  Calls Tryz.prog 90 #[.int .i64 5,.slice p n cap] w fun e w'=>∃b s,e= .returned (.tuple #[b,s])∧Q b s w':=by
 have hf:Instr.findNow (.int .i64) (.int .i64 5) kD.toList 0=some (some (4,.func (.func 130) #[] #[])):=by kernel_rfl
 have hne:((n:Int)==0)=false:=by rw [beq_eq_false_iff_ne];omega
 go_enter Tryz.func90,Tryz.ntmps90
 go_wp2_with fail
 refine (zB w).mono ?_
 rintro e w1 ⟨rfl,b1,B1⟩
 have hl:=jJ (P:=Tryz.prog) (w:=w1) _ _ _ _ _ _ 5 _ _ Tryz.underlying171 Tryz.underlying3 b1 hf
 have HB:=qA B1
 clear B1 b1 hf
 go_wp2_with fail
 refine (hcall w1 HB.out).mono ?_
 rintro e w2 ⟨b,s,rfl,h⟩
 have HQ:=qA h
 clear h
 go_wp2_with fail
 go_ret2
 exact ⟨b,s,rfl,HQ.out⟩
theorem qEY (p:Option Addr) (n cap:Nat) (w:World) (h0:0<n) (hn:n≤4096) (Q:Value→Value→World→Prop)
  (hcall:∀w1,Below w.heap.size w w1→Calls Tryz.prog 131 #[.slice p n cap] w1 fun e w'=>∃b s,e= .returned (.tuple #[b,s])∧Q b s w'):
  Calls Tryz.prog 90 #[.int .i64 6,.slice p n cap] w fun e w'=>∃b s,e= .returned (.tuple #[b,s])∧Q b s w':=by
 have hf:Instr.findNow (.int .i64) (.int .i64 6) kD.toList 0=some (some (5,.func (.func 131) #[] #[])):=by kernel_rfl
 have hne:((n:Int)==0)=false:=by rw [beq_eq_false_iff_ne];omega
 go_enter Tryz.func90,Tryz.ntmps90
 go_wp2_with fail
 refine (zB w).mono ?_
 rintro e w1 ⟨rfl,b1,B1⟩
 have hl:=jJ (P:=Tryz.prog) (w:=w1) _ _ _ _ _ _ 6 _ _ Tryz.underlying171 Tryz.underlying3 b1 hf
 have HB:=qA B1
 clear B1 b1 hf
 go_wp2_with fail
 refine (hcall w1 HB.out).mono ?_
 rintro e w2 ⟨b,s,rfl,h⟩
 have HQ:=qA h
 clear h
 go_wp2_with fail
 go_ret2
 exact ⟨b,s,rfl,HQ.out⟩
end Go.Proofs.YtkpmalfigmimaaaGreatDoor
namespace Go.Proofs.YtkpmalfigmimaaaGreatDoor
open Go.RowKit
theorem mB (k:Nat) (h1:1≤k) (h6:k≤6):∃i v,Instr.findNow (.int .i64) (.int .i64 (k:Int)) kD.toList 0=some (some (i,v)):=by
 obtain rfl|rfl|rfl|rfl|rfl|rfl:k=1∨k=2∨k=3∨k=4∨k=5∨k=6:=by omega
 all_goals exact ⟨_,_,rfl⟩
theorem rD (k:Nat) (p:Option Addr) (cap:Nat) (w:World) (h1:1≤k) (h6:k≤6):
  Calls Tryz.prog 90 #[.int .i64 k,.slice p 0 cap] w fun e w'=>e= .returned (.tuple #[.slice none 0 0,.int .i64 0])∧Below w.heap.size w w':=by
 obtain ⟨i,v,hf⟩:=mB k h1 h6
 go_enter Tryz.func90,Tryz.ntmps90
 go_wp2_with fail
 refine (zB w).mono ?_
 rintro e w1 ⟨rfl,b1,B1⟩
 have hl:=jJ (P:=Tryz.prog) (w:=w1) _ _ _ _ _ _ k _ _ Tryz.underlying171 Tryz.underlying3 b1 hf
 have HB:=qA B1
 clear B1 b1 hf
 go_wp2_with fail
 go_ret2
 exact ⟨rfl,HB.out⟩
end Go.Proofs.YtkpmalfigmimaaaGreatDoor
namespace Go.Proofs.YtkpmalfigmimaaaGreatDoor
open Go.RowKit
open M
def yA (k:Nat) (f:Nat→Nat) (n:Nat):Option (List Bool):=match k with
 |1=>some (plB 64 f n)
 |2=>some (cbn 64 6 f n)
 |3=>some (rnB 64 f n 0 n)
 |4=>dcO 64 f n
 |5=>some (stB 9223372036854775808 18446744073709551616 f n)
 |6=>some (F64.dm 64 f n)
 |_=>none
def tB (o:Option (List Bool)) (w:World) (e:Ending) (w':World):Prop:=match o with
 |some l=>zY l w e w'
 |none=>e= .returned (.tuple #[.slice none 0 0,.int .i64 82])∧Below w.heap.size w w'
theorem qGG {f:Nat→Nat} {n:Nat} {w:World} {e:Ending} {w':World} (h:tG f n w e w') (h0:0<n):zY (cbn 64 6 f n) w e w':=h
theorem tX (k:Nat) (p:Option Addr) (n cap:Nat) (f:Nat→Nat) (w:World) (hk1:1≤k) (hk6:k≤6) (h:qX w p n f) (h0:0<n) (hn:n≤4096) (hcap:n≤cap) (hf:∀i,i<n→f i<18446744073709551616) (hT:qQ w):
  Calls Tryz.prog 90 #[.int .i64 k,.slice p n cap] w (tB (yA k f n) w):=by
 obtain rfl|rfl|rfl|rfl|rfl|rfl:k=1∨k=2∨k=3∨k=4∨k=5∨k=6:=by omega
 ·refine (qET p n cap w h0 hn (fun b s w'=>zY (plB 64 f n) w (.returned (.tuple #[b,s])) w') fun w1 B1=>?_).mono ?_
  ·refine (bC p n cap f w1 (h.below B1) hn hcap hf).mono ?_
   rintro e w' ⟨g,L,h1,h2,rfl,h4,h5⟩
   exact ⟨_,_,rfl,g,L,h1,Nat.le_trans B1.size h2,rfl,h4,B1.trans (h5.mono B1.size)⟩
  ·rintro e w' ⟨b,s,rfl,hq⟩
   exact hq
 ·refine (qEU p n cap w h0 hn (fun b s w'=>zY (cbn 64 6 f n) w (.returned (.tuple #[b,s])) w') fun w1 B1=>?_).mono ?_
  ·refine (qFK p n cap f w1 (h.below B1) hn hcap hf (hT.below B1)).mono ?_
   rintro e w' hE
   obtain ⟨g,L,h1,h2,rfl,h4,h5⟩:=qGG hE h0
   exact ⟨_,_,rfl,g,L,h1,Nat.le_trans B1.size h2,rfl,h4,B1.trans (h5.mono B1.size)⟩
  ·rintro e w' ⟨b,s,rfl,hq⟩
   exact hq
 ·refine (qEV p n cap w h0 hn (fun b s w'=>zY (rnB 64 f n 0 n) w (.returned (.tuple #[b,s])) w') fun w1 B1=>?_).mono ?_
  ·refine (bZ p n cap f w1 (h.below B1) hn hcap hf).mono ?_
   rintro e w' ⟨g,L,h1,h2,rfl,h4,h5⟩
   exact ⟨_,_,rfl,g,L,h1,Nat.le_trans B1.size h2,rfl,h4,B1.trans (h5.mono B1.size)⟩
  ·rintro e w' ⟨b,s,rfl,hq⟩
   exact hq
 ·refine (qEW p n cap w h0 hn (fun b s w'=>tB (dcO 64 f n) w (.returned (.tuple #[b,s])) w') fun w1 B1=>?_).mono ?_
  ·refine (bT p n cap f w1 (h.below B1) h0 hn hcap hf).mono ?_
   rintro e w' hE
   rcases hE with ⟨hu,rfl,hB⟩|⟨hu,g,L,h1,h2,rfl,h4,h5⟩
   ·refine ⟨_,_,rfl,?_⟩
    unfold dcO
    rw [if_neg (by omega)]
    exact ⟨rfl,B1.trans (hB.mono B1.size)⟩
   ·refine ⟨_,_,rfl,?_⟩
    unfold dcO
    rw [if_pos hu]
    exact ⟨g,L,h1,Nat.le_trans B1.size h2,rfl,h4,B1.trans (h5.mono B1.size)⟩
  ·rintro e w' ⟨b,s,rfl,hq⟩
   exact hq
 ·refine (qEX p n cap w h0 hn (fun b s w'=>zY (stB 9223372036854775808 18446744073709551616 f n) w (.returned (.tuple #[b,s])) w') fun w1 B1=>?_).mono ?_
  ·refine (pZ p n cap f w1 (h.below B1) hn hcap hf).mono ?_
   rintro e w' ⟨g,L,h1,h2,rfl,h4,h5⟩
   exact ⟨_,_,rfl,g,L,h1,Nat.le_trans B1.size h2,rfl,h4,B1.trans (h5.mono B1.size)⟩
  ·rintro e w' ⟨b,s,rfl,hq⟩
   exact hq
 ·refine (qEY p n cap w h0 hn (fun b s w'=>zY (F64.dm 64 f n) w (.returned (.tuple #[b,s])) w') fun w1 B1=>?_).mono ?_
  ·refine (pA p n cap f w1 (h.below B1) hn hcap hf).mono ?_
   rintro e w' ⟨g,L,h1,h2,rfl,h4,h5⟩
   exact ⟨_,_,rfl,g,L,h1,Nat.le_trans B1.size h2,rfl,h4,B1.trans (h5.mono B1.size)⟩
  ·rintro e w' ⟨b,s,rfl,hq⟩
   exact hq
theorem fT {a b:List Nat} (ha:∀n∈a,n<256) (hb:∀n∈b,n<256) (h:(qG a).toList=(qG b).toList):a=b:=by
 have h1:(qG a).data.toList=(qG b).data.toList:=by
  unfold qG at h⊢
  rw [Lib.strOfNums_toList,Lib.strOfNums_toList] at h
  exact h
 rw [←kT a ha,←kT b hb]
 unfold zT
 rw [h1]
theorem jP (v1 v2:Value) (a b:List Nat) (w:World) (h1:jY w v1 a) (h2:jY w v2 b) (ha:∀n∈a,n<256) (hb:∀n∈b,n<256):
  Calls Tryz.prog 100 #[v1,v2] w fun e w'=>e= .returned (.bool (decide (a=b)))∧w'=w:=by
 have hc1:=yD w v1 a h1
 have hc2:=yD w v2 b h2
 by_cases e:a=b
 ·subst e
  rw [decide_eq_true rfl]
  clear h1 h2
  go_enter Tryz.func100,Tryz.ntmps100
  go_wp2_with fail
  go_ret
  exact ⟨by simp,rfl⟩
 ·rw [decide_eq_false e]
  have hne:Hid (((qG a).toList==(qG b).toList)=false):=by show _=_;rw [beq_eq_false_iff_ne];exact fun h=>e (fT ha hb h)
  generalize qG a=sa at*
  generalize qG b=sb at*
  clear h1 h2 e
  go_enter Tryz.func100,Tryz.ntmps100
  go_wp2_with fail
  go_ret
  exact ⟨by rw [←hne.out];rfl,rfl⟩
theorem nH (f g:Nat→Nat) (v i k:Nat) (h:∀j,i≤j→j<i+k→f j=g j):qI f v i k=qI g v i k:=by
 induction k generalizing i with
 |zero=>rfl
 |succ k ih=>rw [qI,qI,h i (Nat.le_refl _) (by omega),ih (i+1) fun j h1 h2=>h j (by omega) (by omega)]
theorem qBE (f g:Nat→Nat) (u i k:Nat) (h:∀j,i≤j→j<i+k→f j=g j):rnB 64 f u i k=rnB 64 g u i k:=by
 induction u generalizing i k with
 |zero=>rfl
 |succ u ih=>
  match k with
  |0=>rfl
  |k+1=>
   have hle:=zG g (g i) i (k+1)
   rw [rnB,rnB,h i (Nat.le_refl _) (by omega),nH f g (g i) i (k+1) h,ih _ _ fun j h1 h2=>h j (by omega) (by omega)]
def jL (k n:Nat) (h:Nat→Nat) (bs:List Nat):Prop:=(∀i,i<n→h i<18446744073709551616)∧(n=0→bs=[])∧(0<n→∃l,yA k h n=some l∧packed l=bs)
theorem jL.lay {k n:Nat} {h:Nat→Nat} {bs:List Nat} (H:jL k n h bs):mU (fun f=>yA k f n) bs n h:=by
 refine ⟨H.1,H.2.1,fun h0=>?_⟩
 obtain ⟨l,h1,h2⟩:=H.2.2 h0
 exact ⟨l,_,h1,by rw [←h2,rbits_packed]⟩
def yX (k:Nat) (bs:List Nat) (n:Nat) (w:World) (e:Ending) (w':World):Prop:=
 (∃c:Int,c≠0∧e= .returned (.tuple #[.slice none 0 0,.int .i64 c])∧Below w.heap.size w w'∧∀h,jL k n h bs→False)∨
 ∃(v:Value) (f:Nat→Nat),e= .returned (.tuple #[v,.int .i64 0])∧qEE w.heap.size w f n v w'∧(∀i,i<n→f i<18446744073709551616)∧∀h,jL k n h bs→∀i,i<n→f i=h i
theorem yK {k:Nat} {bs:List Nat} {n:Nat} {w:World} {e:Ending} {w':World} {bf:(Nat→Nat)→Option (List Bool)} (hb:(fun f=>yA k f n)=bf) (h:gN bf bs n w e w'):yX k bs n w e w':=by
 subst hb
 rcases h with ⟨c,h1,h2,h3,h4⟩|⟨v,f,h1,h2,h3,h4⟩
 ·exact .inl ⟨c,h1,h2,h3,fun h hP=>h4 h hP.lay⟩
 ·exact .inr ⟨v,f,h1,h2,h3,fun h hP=>h4 h hP.lay⟩
theorem qBM {bs:List Nat} {n:Nat} {w:World} {e:Ending} {w':World} (hn:n≤4096) (h:nD w bs n e w'):yX 2 bs n w e w':=by
 have key:∀h,jL 2 n h bs→gL bs h n:=fun h hP=>by
  refine ⟨hP.1,?_⟩
  by_cases h0:n=0
  ·rw [hP.2.1 h0,h0];exact List.eq_nil_of_length_eq_zero (by rw [packed_length];simp [cbn])
  ·obtain ⟨l,h1,h2⟩:=hP.2.2 (by omega)
   simp only [yA,Option.some.injEq] at h1
   rw [h1];exact h2
 rcases h with ⟨h1,h2,h3⟩|⟨g,f,h1,h2,h3,h4,h5,h6⟩
 ·exact .inl ⟨71,by decide,h1,h2,fun h hP=>h3 ⟨h,key h hP⟩⟩
 ·exact .inr ⟨_,f,h1,⟨h3.owns h2 hn,h4,Nat.le_refl _⟩,h5.1,fun h hP=>h6 h (vN (key h hP))⟩
def qP (k:Nat) (bs:List Nat) (n:Nat) (w:World) (e:Ending) (w':World):Prop:=
 (e= .returned (.tuple #[.slice none 0 0,.int .i64 83])∧Below w.heap.size w w'∧∀h,jL k n h bs→False)∨
 ∃(v:Value) (f:Nat→Nat),e= .returned (.tuple #[v,.int .i64 0])∧qEE w.heap.size w f n v w'∧jL k n f bs∧∀h,jL k n h bs→∀i,i<n→f i=h i
theorem rH (k:Nat) (f g:Nat→Nat) (n:Nat) (h:∀i,i<n→f i=g i):yA k f n=yA k g n:=by
 unfold yA
 split
 ·rw [fD 64 f g n h]
 ·rw [cbn_congr 64 6 f g n h]
 ·rw [qBE f g n 0 n fun j _ hj=>h j (by omega)]
 ·unfold dcO;rw [sP f g n h,tZ 64 f g n h]
 ·rw [fN 9223372036854775808 18446744073709551616 f g n h]
 ·rw [F64.dm_congr 64 f g n h]
 ·rfl
theorem jL.congr {k n:Nat} {f g:Nat→Nat} {bs:List Nat} (H:jL k n f bs) (h:∀i,i<n→f i=g i):jL k n g bs:=
 ⟨fun i hi=>by rw [←h i hi];exact H.1 i hi,H.2.1,fun h0=>by
  obtain ⟨l,h1,h2⟩:=H.2.2 h0
  exact ⟨l,by rw [←rH k f g n h];exact h1,h2⟩⟩
end Go.Proofs.YtkpmalfigmimaaaGreatDoor
