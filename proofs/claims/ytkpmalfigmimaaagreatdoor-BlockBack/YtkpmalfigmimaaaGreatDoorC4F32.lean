import Derived.Test.YtkpmalfigmimaaaGreatDoorC3A32
import Derived.Test.YtkpmalfigmimaaaGreatDoorC3C32
import Derived.Test.YtkpmalfigmimaaaGreatDoorT1S
import Derived.Test.YtkpmalfigmimaaaGreatDoorC1P
import Derived.Deep.Cut
import Derived.Deep.RegionHeld3
import Derived.Great.Walk
import Derived.Test.YtkpmalfigmimaaaGreatDoorC2G32
import Derived.Test.YtkpmalfigmimaaaGreatDoorC2C32
import Derived.Test.YtkpmalfigmimaaaGreatDoorD2A
set_option linter.unusedVariables false
set_option linter.unusedSimpArgs false
set_option maxRecDepth 100000
set_option maxHeartbeats 8000000
namespace Go.Proofs.YtkpmalfigmimaaaGreatDoor
open Go.RowKit
open M
theorem fW (H M:Nat) (f:Nat→Nat) (n:Nat):(stB H M f n).length≤80*n:=by
 induction n with
 |zero=>simp [stB]
 |succ n ih=>
  rw [stB,List.length_append]
  have:=(uZ 9 (zig (sgW H M (rsS M f n)))).2.2
  have e:(varB (zig (sgW H M (rsS M f n)))).length=(groups 9 (zig (sgW H M (rsS M f n)))).length:=rfl
  omega
theorem mF (p:Option Addr) (n cap:Nat) (f:Nat→Nat) (w:World) (h:jC w p n f) (hn:n≤4096) (hcap:n≤cap) (hf:∀i,i<n→f i<4294967296):
  Calls Tryz.prog 124 #[.slice p n cap] w (zV (stB 2147483648 4294967296 f n) w):=by
 have H:=qA h
 have HF:=qA hf
 obtain ⟨g,hg⟩:∃g,g=w.heap.size:=⟨_,rfl⟩
 obtain ⟨W1,hW1⟩:∃W1,W1=w.alloc (.cells zW 98):=⟨_,rfl⟩
 have HM:Hid (Wr W1 (g+1) g 0 [] 0∧g+1≤W1.heap.size∧Below w.heap.size w W1∧jC W1 p n f):=by
  have B1:Below w.heap.size w W1:=by rw [hW1];exact (Below.refl _ w).alloc (Nat.le_refl _) _
  refine ⟨?_,by rw [hW1,hg];simp,B1,h.below B1⟩
  rw [hg,hW1];exact gO (heap_alloc_new w _)
 have HP:Hid (∀a,p=some a→0<n→a.block<g):=fun a ha h0=>by
  obtain ⟨b,o,hp,hc⟩:=H.out h0
  rw [hp] at ha
  simp only [Option.some.injEq] at ha
  rw [←ha,hg]
  exact block_lt_of_cell (hc 0 h0)
 have HG:=qA hg
 clear h hf
 go_enter Tryz.func124,Tryz.ntmps124
 go_upto_region 1 with fail
 refine wp_region_list ?_
 refine wpList_build rfl 98 #[] rfl (by kernel_rfl) ?_
 simp only [Array.map_empty]
 rw [zI]
 refine Go.Great.wpList_boxTo rfl 98 (.tmp 7) rfl (some 8) rfl g hg.symm zW rfl ?_
 rw [←hW1]
 clear hW1 hg
 go_wp2_with fail
 go_loopw [11] (fun t11 wr=>∃k:Nat,t11= .int .i64 (k:Int)∧Hid (k≤n∧Wr wr (g+1) g 0 (stB 2147483648 4294967296 f k) 0∧qJ g 0 123 W1 wr)) (fun t11 _=>n-(intOf t11).toNat)
 case atStart=>exact ⟨0,rfl,Nat.zero_le _,HM.out.1,qJ.refl _ _ _ _⟩
 case round=>
  obtain ⟨k,rfl,hI⟩:=hrel
  by_cases hlt:k<n
  ·obtain ⟨rb0,ro,rfl,hc⟩:=HM.out.2.2.2 (by omega)
   have hrb:rb0<g:=HP.out _ rfl (by omega)
   obtain ⟨v,hv⟩:∃v,f k=v:=⟨_,rfl⟩
   have hs1:=HM.out.2.1
   have c1:wr.cell? ⟨rb0,ro+k,none⟩=some (.int .u32 (v:Int)):=by
    rw [World.cell?_of_block (w:=W1) (hI.out.2.2.block rb0 (by omega) (by omega)),←hv]
    exact hc k hlt
   have hvM:v<4294967296:=by rw [←hv];exact HF.out k hlt
   have HV:=qA hv
   clear hv hc hs1
   go_wp2_with fail
   refine (vS (some ⟨rb0,ro,none⟩) k cap f wr (fun _=>⟨rb0,ro,rfl,fun i hi=>?_⟩) (by omega) (by omega) (fun i hi=>HF.out i (by omega))).mono ?_
   ·rw [World.cell?_of_block (w:=W1) (hI.out.2.2.block rb0 (by have:=HM.out.2.1;omega) (by omega))]
    obtain ⟨rb1,ro1,hp1,hc1⟩:=HM.out.2.2.2 (by omega)
    simp only [Option.some.injEq,Addr.mk.injEq] at hp1
    obtain ⟨rfl,rfl,_⟩:=hp1
    exact hc1 i (by omega)
   rintro e wd ⟨rfl,m,hwd⟩
   have heM:exS 4294967296 f k<4294967296:=lK _ _ (by omega) k fun j hj=>HF.out j (by omega)
   obtain ⟨E,hE⟩:∃E,exS 4294967296 f k=E:=⟨_,rfl⟩
   have hr:IntKind.u32.wrap ((v:Int)-(E:Int))=(((v+4294967296-E)%4294967296:Nat):Int):=by rw [IntKind.wrap_u32];omega
   rw [hE] at heM⊢
   obtain ⟨X,hX⟩:∃X,(v+4294967296-E)%4294967296=X:=⟨_,rfl⟩
   have hXM:X<4294967296:=by rw [←hX];exact Nat.mod_lt _ (by omega)
   rw [hX] at hr
   have HE:=qA (And.intro hE hX)
   have HD:Hid (Wr wd (g+1) g 0 (stB 2147483648 4294967296 f k) 0∧qJ g 0 123 W1 wd∧g+1≤wd.heap.size):=by
    rw [hwd]
    exact ⟨hI.out.2.1.below (w':=wr.drewN m) ⟨rfl,rfl,rfl,Nat.le_refl _,fun _ _=>rfl⟩,⟨hI.out.2.2.os,hI.out.2.2.tape,hI.out.2.2.output,hI.out.2.2.size,hI.out.2.2.block,hI.out.2.2.cell,hI.out.2.2.frozen⟩,Nat.le_trans HM.out.2.1 hI.out.2.2.size⟩
   clear hE hX hwd
   go_wp2_with fail
   refine (fS X wd hXM).mono ?_
   rintro e ws ⟨rfl,rfl⟩
   have hsr:=fR 2147483648 4294967296 X (by omega) hXM
   go_wp2_with fail
   refine (mX g 0 (g+1) _ _ _ HD.out.1 (by omega) HD.out.2.2 (by have:=fW 2147483648 4294967296 f k;omega) (by omega) (by omega)).mono ?_
   rintro e w3 ⟨rfl,W3,O3⟩
   go_wp2_with fail
   go_roundw
   case rel=>
    refine ⟨k+1,by simp,hlt,?_,HD.out.2.1.trans O3⟩
    rw [stB,rsS,HV.out,HE.out.1,HE.out.2];exact W3
   case measure=>simp [intOf];omega
  ·have hk:k=n:=by have:=hI.out.1;omega
   go_wp2_with fail
   refine (qW g 0 (g+1) wr _ hI.out.2.1 (Nat.le_trans HM.out.2.1 hI.out.2.2.size) (by have:=fW 2147483648 4294967296 f k;omega) _ rfl).mono ?_
   rintro e w3 ⟨rfl,G3,B3⟩
   go_wp2_with fail
   go_ret2
   have e3:=HM.out.2.2.1
   have e4:=HG.out
   have e5:=hI.out.2.2.below (B:=w.heap.size) (by omega) (by have:=e3.size;omega)
   refine ⟨wr.heap.size,((stB 2147483648 4294967296 f n).length+7)/8,(packed_length _).symm,?_,rfl,(by first|exact G3|(rw [hk] at G3;exact G3)),?_⟩
   ·have:=e5.size;have:=e3.size;omega
   ·exact (e3.trans e5).trans (B3.mono (by have:=e5.size;have:=e3.size;omega))
end Go.Proofs.YtkpmalfigmimaaaGreatDoor
namespace Go.Proofs.YtkpmalfigmimaaaGreatDoor
open Go.RowKit
def kC:Array MapEntry:=#[{key:= .int .i64 1,val:= .func (.func 120) #[] #[],born:=0},{key:= .int .i64 2,val:= .func (.func 121) #[] #[],born:=1},{key:= .int .i64 3,val:= .func (.func 122) #[] #[],born:=2},{key:= .int .i64 4,val:= .func (.func 123) #[] #[],born:=3},{key:= .int .i64 5,val:= .func (.func 124) #[] #[],born:=4},{key:= .int .i64 6,val:= .func (.func 125) #[] #[],born:=5}]
theorem zA (w:World):Calls Tryz.prog 104 #[] w fun e w'=>e= .returned (.map (some w.heap.size))∧w'.heap[w.heap.size]?=some (.map kC 6)∧Below w.heap.size w w':=by
 have b0:=heap_alloc_new w (.map #[] 0)
 have HB:Hid (Below w.heap.size w (w.alloc (.map #[] 0))):=(Below.refl _ w).alloc (Nat.le_refl _) _
 obtain ⟨r,hr⟩:∃r,w.heap.size=r:=⟨_,rfl⟩
 have HR:=qA hr
 go_enter Tryz.func104,Tryz.ntmps104
 go_upto_region 1 with fail
 refine wp_region_list ?_
 refine kG _ rfl _ rfl ?_
 rw [hr] at b0 HB⊢
 clear hr
 generalize w.alloc (.map #[] 0)=w0 at*
 refine qP _ rfl _ _ _ 167 rfl 3 165 Tryz.underlying167 Tryz.underlying3 r 0 _ 1 (.func (.func 120) #[] #[]) rfl rfl rfl b0 (by kernel_rfl) ?_
 intro w1 b1 B1
 have B1:=qA (B1 r (Nat.le_refl _))
 refine qP _ rfl _ _ _ 167 rfl 3 165 Tryz.underlying167 Tryz.underlying3 r 1 _ 2 (.func (.func 121) #[] #[]) rfl rfl rfl b1 (by kernel_rfl) ?_
 intro w2 b2 B2
 have B2:=qA (B2 r (Nat.le_refl _))
 refine qP _ rfl _ _ _ 167 rfl 3 165 Tryz.underlying167 Tryz.underlying3 r 2 _ 3 (.func (.func 122) #[] #[]) rfl rfl rfl b2 (by kernel_rfl) ?_
 intro w3 b3 B3
 have B3:=qA (B3 r (Nat.le_refl _))
 refine qP _ rfl _ _ _ 167 rfl 3 165 Tryz.underlying167 Tryz.underlying3 r 3 _ 4 (.func (.func 123) #[] #[]) rfl rfl rfl b3 (by kernel_rfl) ?_
 intro w4 b4 B4
 have B4:=qA (B4 r (Nat.le_refl _))
 refine qP _ rfl _ _ _ 167 rfl 3 165 Tryz.underlying167 Tryz.underlying3 r 4 _ 5 (.func (.func 124) #[] #[]) rfl rfl rfl b4 (by kernel_rfl) ?_
 intro w5 b5 B5
 have B5:=qA (B5 r (Nat.le_refl _))
 refine qP _ rfl _ _ _ 167 rfl 3 165 Tryz.underlying167 Tryz.underlying3 r 5 _ 6 (.func (.func 125) #[] #[]) rfl rfl rfl b5 (by kernel_rfl) ?_
 intro w6 b6 B6
 have B6:=qA (B6 r (Nat.le_refl _))
 go_wp2_with fail
 go_ret
 exact ⟨by rw [HR.out];rfl,by rw [HR.out];exact b6,by rw [HR.out];exact ((((((HB.out.trans B1.out).trans B2.out).trans B3.out).trans B4.out).trans B5.out).trans B6.out)⟩
def zL:Array MapEntry:=#[{key:= .int .i64 1,val:= .func (.func 108) #[] #[],born:=0},{key:= .int .i64 2,val:= .func (.func 109) #[] #[],born:=1},{key:= .int .i64 3,val:= .func (.func 110) #[] #[],born:=2},{key:= .int .i64 4,val:= .func (.func 111) #[] #[],born:=3},{key:= .int .i64 5,val:= .func (.func 112) #[] #[],born:=4},{key:= .int .i64 6,val:= .func (.func 113) #[] #[],born:=5}]
theorem jT (w:World):Calls Tryz.prog 99 #[] w fun e w'=>e= .returned (.map (some w.heap.size))∧w'.heap[w.heap.size]?=some (.map zL 6)∧Below w.heap.size w w':=by
 have b0:=heap_alloc_new w (.map #[] 0)
 have HB:Hid (Below w.heap.size w (w.alloc (.map #[] 0))):=(Below.refl _ w).alloc (Nat.le_refl _) _
 obtain ⟨r,hr⟩:∃r,w.heap.size=r:=⟨_,rfl⟩
 have HR:=qA hr
 go_enter Tryz.func99,Tryz.ntmps99
 go_upto_region 1 with fail
 refine wp_region_list ?_
 refine kG _ rfl _ rfl ?_
 rw [hr] at b0 HB⊢
 clear hr
 generalize w.alloc (.map #[] 0)=w0 at*
 refine qP _ rfl _ _ _ 158 rfl 3 156 Tryz.underlying158 Tryz.underlying3 r 0 _ 1 (.func (.func 108) #[] #[]) rfl rfl rfl b0 (by kernel_rfl) ?_
 intro w1 b1 B1
 have B1:=qA (B1 r (Nat.le_refl _))
 refine qP _ rfl _ _ _ 158 rfl 3 156 Tryz.underlying158 Tryz.underlying3 r 1 _ 2 (.func (.func 109) #[] #[]) rfl rfl rfl b1 (by kernel_rfl) ?_
 intro w2 b2 B2
 have B2:=qA (B2 r (Nat.le_refl _))
 refine qP _ rfl _ _ _ 158 rfl 3 156 Tryz.underlying158 Tryz.underlying3 r 2 _ 3 (.func (.func 110) #[] #[]) rfl rfl rfl b2 (by kernel_rfl) ?_
 intro w3 b3 B3
 have B3:=qA (B3 r (Nat.le_refl _))
 refine qP _ rfl _ _ _ 158 rfl 3 156 Tryz.underlying158 Tryz.underlying3 r 3 _ 4 (.func (.func 111) #[] #[]) rfl rfl rfl b3 (by kernel_rfl) ?_
 intro w4 b4 B4
 have B4:=qA (B4 r (Nat.le_refl _))
 refine qP _ rfl _ _ _ 158 rfl 3 156 Tryz.underlying158 Tryz.underlying3 r 4 _ 5 (.func (.func 112) #[] #[]) rfl rfl rfl b4 (by kernel_rfl) ?_
 intro w5 b5 B5
 have B5:=qA (B5 r (Nat.le_refl _))
 refine qP _ rfl _ _ _ 158 rfl 3 156 Tryz.underlying158 Tryz.underlying3 r 5 _ 6 (.func (.func 113) #[] #[]) rfl rfl rfl b5 (by kernel_rfl) ?_
 intro w6 b6 B6
 have B6:=qA (B6 r (Nat.le_refl _))
 go_wp2_with fail
 go_ret
 exact ⟨by rw [HR.out];rfl,by rw [HR.out];exact b6,by rw [HR.out];exact ((((((HB.out.trans B1.out).trans B2.out).trans B3.out).trans B4.out).trans B5.out).trans B6.out)⟩
end Go.Proofs.YtkpmalfigmimaaaGreatDoor
namespace Go.Proofs.YtkpmalfigmimaaaGreatDoor
open Go.RowKit
theorem qET (p:Option Addr) (n cap:Nat) (w:World) (h0:0<n) (hn:n≤4096) (Q:Value→Value→World→Prop)
  (hcall:∀w1,Below w.heap.size w w1→Calls Tryz.prog 120 #[.slice p n cap] w1 fun e w'=>∃b s,e= .returned (.tuple #[b,s])∧Q b s w'):
  Calls Tryz.prog 89 #[.int .i64 1,.slice p n cap] w fun e w'=>∃b s,e= .returned (.tuple #[b,s])∧Q b s w':=by
 have hf:Instr.findNow (.int .i64) (.int .i64 1) kC.toList 0=some (some (0,.func (.func 120) #[] #[])):=by kernel_rfl
 have hne:((n:Int)==0)=false:=by rw [beq_eq_false_iff_ne];omega
 go_enter Tryz.func89,Tryz.ntmps89
 go_wp2_with fail
 refine (zA w).mono ?_
 rintro e w1 ⟨rfl,b1,B1⟩
 have hl:=jJ (P:=Tryz.prog) (w:=w1) _ _ _ _ _ _ 1 _ _ Tryz.underlying167 Tryz.underlying3 b1 hf
 have HB:=qA B1
 clear B1 b1 hf
 go_wp2_with fail
 refine (hcall w1 HB.out).mono ?_
 rintro e w2 ⟨b,s,rfl,h⟩
 have HQ:=qA h
 clear h
 go_wp2_with fail
 go_ret2
 exact ⟨b,s,rfl,HQ.out⟩
theorem qEU (p:Option Addr) (n cap:Nat) (w:World) (h0:0<n) (hn:n≤4096) (Q:Value→Value→World→Prop)
  (hcall:∀w1,Below w.heap.size w w1→Calls Tryz.prog 121 #[.slice p n cap] w1 fun e w'=>∃b s,e= .returned (.tuple #[b,s])∧Q b s w'):
  Calls Tryz.prog 89 #[.int .i64 2,.slice p n cap] w fun e w'=>∃b s,e= .returned (.tuple #[b,s])∧Q b s w':=by
 have hf:Instr.findNow (.int .i64) (.int .i64 2) kC.toList 0=some (some (1,.func (.func 121) #[] #[])):=by kernel_rfl
 have hne:((n:Int)==0)=false:=by rw [beq_eq_false_iff_ne];omega
 go_enter Tryz.func89,Tryz.ntmps89
 go_wp2_with fail
 refine (zA w).mono ?_
 rintro e w1 ⟨rfl,b1,B1⟩
 have hl:=jJ (P:=Tryz.prog) (w:=w1) _ _ _ _ _ _ 2 _ _ Tryz.underlying167 Tryz.underlying3 b1 hf
 have HB:=qA B1
 clear B1 b1 hf
 go_wp2_with fail
 refine (hcall w1 HB.out).mono ?_
 rintro e w2 ⟨b,s,rfl,h⟩
 have HQ:=qA h
 clear h
 go_wp2_with fail
 go_ret2
 exact ⟨b,s,rfl,HQ.out⟩
theorem qEV (p:Option Addr) (n cap:Nat) (w:World) (h0:0<n) (hn:n≤4096) (Q:Value→Value→World→Prop)
  (hcall:∀w1,Below w.heap.size w w1→Calls Tryz.prog 122 #[.slice p n cap] w1 fun e w'=>∃b s,e= .returned (.tuple #[b,s])∧Q b s w'):
  Calls Tryz.prog 89 #[.int .i64 3,.slice p n cap] w fun e w'=>∃b s,e= .returned (.tuple #[b,s])∧Q b s w':=by
 have hf:Instr.findNow (.int .i64) (.int .i64 3) kC.toList 0=some (some (2,.func (.func 122) #[] #[])):=by kernel_rfl
 have hne:((n:Int)==0)=false:=by rw [beq_eq_false_iff_ne];omega
 go_enter Tryz.func89,Tryz.ntmps89
 go_wp2_with fail
 refine (zA w).mono ?_
 rintro e w1 ⟨rfl,b1,B1⟩
 have hl:=jJ (P:=Tryz.prog) (w:=w1) _ _ _ _ _ _ 3 _ _ Tryz.underlying167 Tryz.underlying3 b1 hf
 have HB:=qA B1
 clear B1 b1 hf
 go_wp2_with fail
 refine (hcall w1 HB.out).mono ?_
 rintro e w2 ⟨b,s,rfl,h⟩
 have HQ:=qA h
 clear h
 go_wp2_with fail
 go_ret2
 exact ⟨b,s,rfl,HQ.out⟩
theorem qEW (p:Option Addr) (n cap:Nat) (w:World) (h0:0<n) (hn:n≤4096) (Q:Value→Value→World→Prop)
  (hcall:∀w1,Below w.heap.size w w1→Calls Tryz.prog 123 #[.slice p n cap] w1 fun e w'=>∃b s,e= .returned (.tuple #[b,s])∧Q b s w'):
  Calls Tryz.prog 89 #[.int .i64 4,.slice p n cap] w fun e w'=>∃b s,e= .returned (.tuple #[b,s])∧Q b s w':=by
 have hf:Instr.findNow (.int .i64) (.int .i64 4) kC.toList 0=some (some (3,.func (.func 123) #[] #[])):=by kernel_rfl
 have hne:((n:Int)==0)=false:=by rw [beq_eq_false_iff_ne];omega
 go_enter Tryz.func89,Tryz.ntmps89
 go_wp2_with fail
 refine (zA w).mono ?_
 rintro e w1 ⟨rfl,b1,B1⟩
 have hl:=jJ (P:=Tryz.prog) (w:=w1) _ _ _ _ _ _ 4 _ _ Tryz.underlying167 Tryz.underlying3 b1 hf
 have HB:=qA B1
 clear B1 b1 hf
 go_wp2_with fail
 refine (hcall w1 HB.out).mono ?_
 rintro e w2 ⟨b,s,rfl,h⟩
 have HQ:=qA h
 clear h
 go_wp2_with fail
 go_ret2
 exact ⟨b,s,rfl,HQ.out⟩
theorem qEX (p:Option Addr) (n cap:Nat) (w:World) (h0:0<n) (hn:n≤4096) (Q:Value→Value→World→Prop)
  (hcall:∀w1,Below w.heap.size w w1→Calls Tryz.prog 124 #[.slice p n cap] w1 fun e w'=>∃b s,e= .returned (.tuple #[b,s])∧Q b s w'):
  Calls Tryz.prog 89 #[.int .i64 5,.slice p n cap] w fun e w'=>∃b s,e= .returned (.tuple #[b,s])∧Q b s w':=by
 have hf:Instr.findNow (.int .i64) (.int .i64 5) kC.toList 0=some (some (4,.func (.func 124) #[] #[])):=by kernel_rfl
 have hne:((n:Int)==0)=false:=by rw [beq_eq_false_iff_ne];omega
 go_enter Tryz.func89,Tryz.ntmps89
 go_wp2_with fail
 refine (zA w).mono ?_
 rintro e w1 ⟨rfl,b1,B1⟩
 have hl:=jJ (P:=Tryz.prog) (w:=w1) _ _ _ _ _ _ 5 _ _ Tryz.underlying167 Tryz.underlying3 b1 hf
 have HB:=qA B1
 clear B1 b1 hf
 go_wp2_with fail
 refine (hcall w1 HB.out).mono ?_
 rintro e w2 ⟨b,s,rfl,h⟩
 have HQ:=qA h
 clear h
 go_wp2_with fail
 go_ret2
 exact ⟨b,s,rfl,HQ.out⟩
theorem qEY (p:Option Addr) (n cap:Nat) (w:World) (h0:0<n) (hn:n≤4096) (Q:Value→Value→World→Prop)
  (hcall:∀w1,Below w.heap.size w w1→Calls Tryz.prog 125 #[.slice p n cap] w1 fun e w'=>∃b s,e= .returned (.tuple #[b,s])∧Q b s w'):
  Calls Tryz.prog 89 #[.int .i64 6,.slice p n cap] w fun e w'=>∃b s,e= .returned (.tuple #[b,s])∧Q b s w':=by
 have hf:Instr.findNow (.int .i64) (.int .i64 6) kC.toList 0=some (some (5,.func (.func 125) #[] #[])):=by kernel_rfl
 have hne:((n:Int)==0)=false:=by rw [beq_eq_false_iff_ne];omega
 go_enter Tryz.func89,Tryz.ntmps89
 go_wp2_with fail
 refine (zA w).mono ?_
 rintro e w1 ⟨rfl,b1,B1⟩
 have hl:=jJ (P:=Tryz.prog) (w:=w1) _ _ _ _ _ _ 6 _ _ Tryz.underlying167 Tryz.underlying3 b1 hf
 have HB:=qA B1
 clear B1 b1 hf
 go_wp2_with fail
 refine (hcall w1 HB.out).mono ?_
 rintro e w2 ⟨b,s,rfl,h⟩
 have HQ:=qA h
 clear h
 go_wp2_with fail
 go_ret2
 exact ⟨b,s,rfl,HQ.out⟩
end Go.Proofs.YtkpmalfigmimaaaGreatDoor
namespace Go.Proofs.YtkpmalfigmimaaaGreatDoor
open Go.RowKit
theorem mH (k:Nat) (h1:1≤k) (h6:k≤6):∃i v,Instr.findNow (.int .i64) (.int .i64 (k:Int)) kC.toList 0=some (some (i,v)):=by
 obtain rfl|rfl|rfl|rfl|rfl|rfl:k=1∨k=2∨k=3∨k=4∨k=5∨k=6:=by omega
 all_goals exact ⟨_,_,rfl⟩
theorem rL (k:Nat) (p:Option Addr) (cap:Nat) (w:World) (h1:1≤k) (h6:k≤6):
  Calls Tryz.prog 89 #[.int .i64 k,.slice p 0 cap] w fun e w'=>e= .returned (.tuple #[.slice none 0 0,.int .i64 0])∧Below w.heap.size w w':=by
 obtain ⟨i,v,hf⟩:=mH k h1 h6
 go_enter Tryz.func89,Tryz.ntmps89
 go_wp2_with fail
 refine (zA w).mono ?_
 rintro e w1 ⟨rfl,b1,B1⟩
 have hl:=jJ (P:=Tryz.prog) (w:=w1) _ _ _ _ _ _ k _ _ Tryz.underlying167 Tryz.underlying3 b1 hf
 have HB:=qA B1
 clear B1 b1 hf
 go_wp2_with fail
 go_ret2
 exact ⟨rfl,HB.out⟩
end Go.Proofs.YtkpmalfigmimaaaGreatDoor
namespace Go.Proofs.YtkpmalfigmimaaaGreatDoor
open Go.RowKit
open M
def yF (k:Nat) (f:Nat→Nat) (n:Nat):Option (List Bool):=match k with
 |1=>some (plB 32 f n)
 |2=>some (cbn 32 5 f n)
 |3=>some (rnB 32 f n 0 n)
 |4=>dcO 32 f n
 |5=>some (stB 2147483648 4294967296 f n)
 |6=>some (F32.dm 32 f n)
 |_=>none
def tI (o:Option (List Bool)) (w:World) (e:Ending) (w':World):Prop:=match o with
 |some l=>zV l w e w'
 |none=>e= .returned (.tuple #[.slice none 0 0,.int .i64 82])∧Below w.heap.size w w'
theorem qGJ {f:Nat→Nat} {n:Nat} {w:World} {e:Ending} {w':World} (h:tN f n w e w') (h0:0<n):zV (cbn 32 5 f n) w e w':=h
theorem lD (k:Nat) (p:Option Addr) (n cap:Nat) (f:Nat→Nat) (w:World) (hk1:1≤k) (hk6:k≤6) (h:jC w p n f) (h0:0<n) (hn:n≤4096) (hcap:n≤cap) (hf:∀i,i<n→f i<4294967296) (hT:qT w):
  Calls Tryz.prog 89 #[.int .i64 k,.slice p n cap] w (tI (yF k f n) w):=by
 obtain rfl|rfl|rfl|rfl|rfl|rfl:k=1∨k=2∨k=3∨k=4∨k=5∨k=6:=by omega
 ·refine (qET p n cap w h0 hn (fun b s w'=>zV (plB 32 f n) w (.returned (.tuple #[b,s])) w') fun w1 B1=>?_).mono ?_
  ·refine (bM p n cap f w1 (h.below B1) hn hcap hf).mono ?_
   rintro e w' ⟨g,L,h1,h2,rfl,h4,h5⟩
   exact ⟨_,_,rfl,g,L,h1,Nat.le_trans B1.size h2,rfl,h4,B1.trans (h5.mono B1.size)⟩
  ·rintro e w' ⟨b,s,rfl,hq⟩
   exact hq
 ·refine (qEU p n cap w h0 hn (fun b s w'=>zV (cbn 32 5 f n) w (.returned (.tuple #[b,s])) w') fun w1 B1=>?_).mono ?_
  ·refine (qFQ p n cap f w1 (h.below B1) hn hcap hf (hT.below B1)).mono ?_
   rintro e w' hE
   obtain ⟨g,L,h1,h2,rfl,h4,h5⟩:=qGJ hE h0
   exact ⟨_,_,rfl,g,L,h1,Nat.le_trans B1.size h2,rfl,h4,B1.trans (h5.mono B1.size)⟩
  ·rintro e w' ⟨b,s,rfl,hq⟩
   exact hq
 ·refine (qEV p n cap w h0 hn (fun b s w'=>zV (rnB 32 f n 0 n) w (.returned (.tuple #[b,s])) w') fun w1 B1=>?_).mono ?_
  ·refine (cJ p n cap f w1 (h.below B1) hn hcap hf).mono ?_
   rintro e w' ⟨g,L,h1,h2,rfl,h4,h5⟩
   exact ⟨_,_,rfl,g,L,h1,Nat.le_trans B1.size h2,rfl,h4,B1.trans (h5.mono B1.size)⟩
  ·rintro e w' ⟨b,s,rfl,hq⟩
   exact hq
 ·refine (qEW p n cap w h0 hn (fun b s w'=>tI (dcO 32 f n) w (.returned (.tuple #[b,s])) w') fun w1 B1=>?_).mono ?_
  ·refine (cC p n cap f w1 (h.below B1) h0 hn hcap hf).mono ?_
   rintro e w' hE
   rcases hE with ⟨hu,rfl,hB⟩|⟨hu,g,L,h1,h2,rfl,h4,h5⟩
   ·refine ⟨_,_,rfl,?_⟩
    unfold dcO
    rw [if_neg (by omega)]
    exact ⟨rfl,B1.trans (hB.mono B1.size)⟩
   ·refine ⟨_,_,rfl,?_⟩
    unfold dcO
    rw [if_pos hu]
    exact ⟨g,L,h1,Nat.le_trans B1.size h2,rfl,h4,B1.trans (h5.mono B1.size)⟩
  ·rintro e w' ⟨b,s,rfl,hq⟩
   exact hq
 ·refine (qEX p n cap w h0 hn (fun b s w'=>zV (stB 2147483648 4294967296 f n) w (.returned (.tuple #[b,s])) w') fun w1 B1=>?_).mono ?_
  ·refine (mF p n cap f w1 (h.below B1) hn hcap hf).mono ?_
   rintro e w' ⟨g,L,h1,h2,rfl,h4,h5⟩
   exact ⟨_,_,rfl,g,L,h1,Nat.le_trans B1.size h2,rfl,h4,B1.trans (h5.mono B1.size)⟩
  ·rintro e w' ⟨b,s,rfl,hq⟩
   exact hq
 ·refine (qEY p n cap w h0 hn (fun b s w'=>zV (F32.dm 32 f n) w (.returned (.tuple #[b,s])) w') fun w1 B1=>?_).mono ?_
  ·refine (pG p n cap f w1 (h.below B1) hn hcap hf).mono ?_
   rintro e w' ⟨g,L,h1,h2,rfl,h4,h5⟩
   exact ⟨_,_,rfl,g,L,h1,Nat.le_trans B1.size h2,rfl,h4,B1.trans (h5.mono B1.size)⟩
  ·rintro e w' ⟨b,s,rfl,hq⟩
   exact hq
def jK (k n:Nat) (h:Nat→Nat) (bs:List Nat):Prop:=(∀i,i<n→h i<4294967296)∧(n=0→bs=[])∧(0<n→∃l,yF k h n=some l∧packed l=bs)
def cR (k n:Nat) (f:Nat→Nat) (w:World) (e:Ending) (w':World):Prop:=
 (∃(pu:Option Addr) (cu:Nat) (bs:List Nat),e= .returned (.tuple #[.slice pu bs.length cu,.int .i64 0])∧jW w' (.slice pu bs.length cu) bs∧(∀n∈bs,n<256)∧Below w.heap.size w w'∧jK k n f bs∧∀bs',jK k n f bs'→bs'=bs)∨
 (e= .returned (.tuple #[.slice none 0 0,.int .i64 82])∧Below w.heap.size w w'∧∀bs,jK k n f bs→False)
theorem xW (k:Nat) (p:Option Addr) (n cap:Nat) (f:Nat→Nat) (w:World) (hk1:1≤k) (hk6:k≤6) (h:jC w p n f) (hn:n≤4096) (hcap:n≤cap) (hf:∀i,i<n→f i<4294967296) (hT:qT w):
  Calls Tryz.prog 89 #[.int .i64 k,.slice p n cap] w (cR k n f w):=by
 by_cases h0:n=0
 ·subst h0
  refine (rL k p cap w hk1 hk6).mono ?_
  rintro e w' ⟨rfl,hB⟩
  exact .inl ⟨none,0,[],rfl,.inl (.inl ⟨rfl,rfl⟩),by simp,hB,⟨hf,fun _=>rfl,fun h=>by omega⟩,fun bs' hP=>hP.2.1 rfl⟩
 ·refine (lD k p n cap f w hk1 hk6 h (by omega) hn hcap hf hT).mono ?_
  intro e w' hE
  cases ho:yF k f n with
  |none=>
   rw [ho] at hE
   obtain ⟨rfl,hB⟩:=hE
   refine .inr ⟨rfl,hB,fun bs hP=>?_⟩
   obtain ⟨l,h1,_⟩:=hP.2.2 (by omega)
   rw [ho] at h1;cases h1
  |some l=>
   rw [ho] at hE
   obtain ⟨g,L,h1,h2,rfl,h4,h5⟩:=hE
   subst h1
   refine .inl ⟨_,_,packed l,rfl,.inl (jD h4),zU l,h5,⟨hf,fun h=>absurd h h0,fun _=>⟨l,ho,rfl⟩⟩,fun bs' hP=>?_⟩
   obtain ⟨l',h1,h2⟩:=hP.2.2 (by omega)
   rw [ho] at h1
   cases h1
   exact h2.symm
end Go.Proofs.YtkpmalfigmimaaaGreatDoor
