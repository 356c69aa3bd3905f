import Derived.Test.YtkpmalfigmimaaaGreatDoorC3C32
import Derived.Test.YtkpmalfigmimaaaGreatDoorC3A32
import Derived.Test.YtkpmalfigmimaaaGreatDoorD2A
import Derived.Test.YtkpmalfigmimaaaGreatDoorT1S
import Derived.Deep.AppendLies
import Derived.Deep.CutRange
import Derived.OwnWalk
import Derived.Test.YtkpmalfigmimaaaGreatDoorC2G64
import Derived.Deep.Onto
set_option linter.unusedVariables false
set_option linter.unusedSimpArgs false
set_option maxRecDepth 100000
set_option maxHeartbeats 8000000
namespace Go.Proofs.YtkpmalfigmimaaaGreatDoor
open Go.RowKit
open M
theorem qH1 (f:Nat→Nat) (n:Nat):(F32.dm 32 f n).length≤85+224*n:=by
 unfold Dm.dm
 have h1:=jV (F32.cnt (F32.bs f n F32.mostP).1 f 0 n)
 have h2:=F32.nt_len 32 (F32.bs f n F32.mostP).1 (by omega) f 0 n 0 jV
 have h3:=F32.wb_len (F32.bs f n F32.mostP).1 f 0 n 0 jV
 simp only [List.length_append,bitsOf_length]
 omega
theorem pG (q:Option Addr) (n cap:Nat) (f:Nat→Nat) (w:World) (h:jC w q n f) (hn:n≤4096) (hcap:n≤cap) (hf:∀i,i<n→f i<4294967296):
  Calls Tryz.prog 125 #[.slice q n cap] w (zV (F32.dm 32 f n) w):=by
 have H:=qA h
 have HF:=qA hf
 have HBS:=qA (nU q n cap f w h hn hcap hf)
 obtain ⟨p,hp⟩:∃p,(F32.bs f n 10).1=p:=⟨_,rfl⟩
 have hp22:p≤10:=by rw [←hp];exact F32.bs_le f n 10
 rw [hp] at HBS
 have HDM:Hid (F32.dm 32 f n=bitsOf p 5++(varB (F32.cnt p f 0 n)++(F32.nt 32 p f 0 n 0++F32.wb p f 0 n 0))):=by
  show _=_
  unfold Dm.dm
  rw [show F32.mostP=10 from rfl,hp]
 have HLN:=qA (fun lo g L w1 h1 h2 h3 h4 h5 h6=>pE p q n cap f lo g L w1 h1 h2 hn hcap hf h3 h4 h5 h6)
 have HLW:=qA (fun lo g L w1 h1 h2 h3 h4 h5 h6=>bG p q n cap f lo g L w1 h1 h2 hn hcap hf h3 h4 h5 h6)
 clear hp h hf
 unfold vL at*
 obtain ⟨P,hP⟩:∃P,F32.pow p=P:=⟨_,rfl⟩
 rw [hP] at HBS HLN HLW
 clear hP
 go_enter Tryz.func125,Tryz.ntmps125
 go_wp2_with fail
 refine HBS.out.mono ?_
 rintro e w1 ⟨rfl,B1⟩
 obtain ⟨g4,hg4⟩:∃g4,w1.heap.size=g4:=⟨_,rfl⟩
 obtain ⟨W2,hW2⟩:∃W2,W2=w1.alloc (.cells #[.int .i64 (p:Int),.int .u32 (P:Int)] 181):=⟨_,rfl⟩
 have H2:Hid (Below w.heap.size w W2∧W2.heap[g4]?=some (.cells #[.int .i64 (p:Int),.int .u32 (P:Int)] 181 (0,0))∧W2.heap.size=g4+1):=by
  have hs:=B1.size
  refine ⟨B1.trans (by rw [hW2];exact (Below.refl _ w1).alloc (by omega) _),by rw [hW2,←hg4];exact heap_alloc_new w1 _,by rw [hW2,←hg4];simp⟩
 have HW4:Hid (w.heap.size≤g4):=by have:=B1.size;show w.heap.size≤g4;omega
 clear B1
 go_upto_region 2 with fail
 (try rw [hg4])
 (try rw [←hW2])
 clear hW2 hg4
 obtain ⟨g,hg⟩:∃g,g=W2.heap.size:=⟨_,rfl⟩
 obtain ⟨W3,hW3⟩:∃W3,W3=W2.alloc (.cells zW 98):=⟨_,rfl⟩
 have H3:Hid (Wr W3 (g+1) g 0 [] 0∧g+1≤W3.heap.size∧Below w.heap.size w W3∧W3.heap[g4]?=some (.cells #[.int .i64 (p:Int),.int .u32 (P:Int)] 181 (0,0))∧g4<g∧w.heap.size≤g):=by
  have B3:Below g W2 W3:=by rw [hW3,hg];exact (Below.refl _ W2).alloc (Nat.le_refl _) _
  have:=H2.out.2.2
  have:=HW4.out
  refine ⟨by rw [hg,hW3];exact gO (heap_alloc_new W2 _),by rw [hW3,hg];simp,H2.out.1.trans (B3.mono (by omega)),by rw [B3.block g4 (by omega)];exact H2.out.2.1,by omega,by omega⟩
 refine wp_region_list ?_
 refine wpList_build rfl 98 #[] rfl (by kernel_rfl) ?_
 simp only [Array.map_empty]
 rw [zI]
 refine Go.Great.wpList_boxTo rfl 98 (.tmp 8) rfl (some 9) rfl g hg.symm zW rfl ?_
 rw [←hW3]
 clear hW3 hg
 have c0:W3.cell? ⟨g4,0,none⟩=some (.int .i64 (p:Int)):=cell_of_row _ _ 0 _ _ _ H3.out.2.2.2.1
 have r0:IntKind.u64.wrap (p:Int)=(p:Int):=by rw [IntKind.wrap_u64];omega
 have HQ:Hid (∀b o,q=some ⟨b,o,none⟩→0<n→b≠g):=fun b o hq h0=>by
  obtain ⟨b',o',hp',hc⟩:=H.out h0
  rw [hq] at hp'
  simp only [Option.some.injEq,Addr.mk.injEq] at hp'
  have h3:b'<w.heap.size:=block_lt_of_cell (hc 0 h0)
  have:=H3.out.2.2.2.2.2
  omega
 have HRW:Hid (∀wr,qJ g 0 123 W3 wr→jC wr q n f∧wr.heap[g4]?=some (.cells #[.int .i64 (p:Int),.int .u32 (P:Int)] 181 (0,0))∧g+1≤wr.heap.size):=fun wr hO=>by
  have h1:=H3.out
  refine ⟨fun h0=>?_,by rw [hO.block g4 (by omega) (by omega)];exact h1.2.2.2.1,by have:=hO.size;omega⟩
  obtain ⟨b,o,hp',hc⟩:=H.out h0
  have hb:b<w.heap.size:=block_lt_of_cell (hc 0 h0)
  exact ⟨b,o,hp',fun i hi=>by rw [World.cell?_of_block (w:=W3) (hO.block b (by omega) (by omega)),h1.2.2.1.cell (p:=⟨b,o+i,none⟩) hb];exact hc i hi⟩
 go_wp2_with fail
 refine (qK g 0 (g+1) 5 p W3 [] H3.out.1 (by omega) H3.out.2.1 (by simp) (by omega) (by omega) (by omega)).mono ?_
 rintro e w4 ⟨rfl,W4,O4⟩
 have H4:Hid (Wr w4 (g+1) g 0 (bitsOf p 5) 0∧qJ g 0 123 W3 w4):=⟨by simpa using W4,O4⟩
 clear W4 O4
 obtain ⟨h5a,h5b,h5c⟩:=HRW.out w4 H4.out.2
 have c1:w4.cell? ⟨g4,0,none⟩=some (.int .i64 (p:Int)):=cell_of_row _ _ 0 _ _ _ h5b
 have c2:w4.cell? ⟨g4,1,none⟩=some (.int .u32 (P:Int)):=cell_of_row _ _ 1 _ _ _ h5b
 have HN:=qA (HLN.out (g+1) g (bitsOf p 5) w4 h5a HQ H4.out.1 (by omega) h5c (by simp))
 clear h5a h5b h5c c0
 go_wp2_with fail
 refine HN.out.mono ?_
 rintro e w5 ⟨rfl,W5,O5⟩
 have H5:Hid (Wr w5 (g+1) g 0 (bitsOf p 5++(varB (F32.cnt p f 0 n)++F32.nt 32 p f 0 n 0)) 0∧qJ g 0 123 W3 w5):=⟨W5,H4.out.2.trans O5⟩
 clear W5 O5 c1 c2
 obtain ⟨h5a,h5b,h5c⟩:=HRW.out w5 H5.out.2
 have c1:w5.cell? ⟨g4,0,none⟩=some (.int .i64 (p:Int)):=cell_of_row _ _ 0 _ _ _ h5b
 have c2:w5.cell? ⟨g4,1,none⟩=some (.int .u32 (P:Int)):=cell_of_row _ _ 1 _ _ _ h5b
 have HN2:=qA (HLW.out (g+1) g _ w5 h5a HQ H5.out.1 (by omega) h5c (by
  have h1:=jV (F32.cnt p f 0 n)
  have h2:=F32.nt_len 32 p (by omega) f 0 n 0 jV
  simp only [List.length_append,bitsOf_length]
  omega))
 clear h5a h5b h5c
 go_wp2_with fail
 refine HN2.out.mono ?_
 rintro e w6 ⟨rfl,W6,O6⟩
 have H6:Hid (Wr w6 (g+1) g 0 (F32.dm 32 f n) 0∧qJ g 0 123 W3 w6∧g+1≤w6.heap.size):=by
  refine ⟨?_,H5.out.2.trans O6,(HRW.out w6 (H5.out.2.trans O6)).2.2⟩
  rw [HDM.out]
  simpa only [List.append_assoc] using W6
 clear W6 O6 c1 c2
 have HLB:Hid ((F32.dm 32 f n).length<1000000000000):=by have:=qH1 f n;show _<_;omega
 obtain ⟨l,hl⟩:∃l,F32.dm 32 f n=l:=⟨_,rfl⟩
 rw [hl] at H6 HLB
 have HLE:=qA hl
 clear hl
 go_wp2_with fail
 refine (qW g 0 (g+1) w6 _ H6.out.1 H6.out.2.2 HLB.out _ rfl).mono ?_
 rintro e w9 ⟨rfl,G9,B9⟩
 have HG9:=qA G9
 have HB9:=qA B9
 clear G9 B9
 go_wp2_with fail
 go_ret2
 have e3:=H3.out.2.2.1
 have e4:=H3.out.2.2.2.2.2
 have e5:=H6.out.2.1.below (B:=w.heap.size) (by omega) (by have:=e3.size;omega)
 rw [HLE.out]
 refine ⟨w6.heap.size,(l.length+7)/8,(packed_length _).symm,?_,rfl,HG9.out,?_⟩
 ·have:=e5.size;have:=e3.size;omega
 ·exact (e3.trans e5).trans (HB9.out.mono (by have:=e5.size;have:=e3.size;omega))
end Go.Proofs.YtkpmalfigmimaaaGreatDoor
namespace Go.Proofs.YtkpmalfigmimaaaGreatDoor
open Go.RowKit
open M
structure tK (bf:(Nat→Nat)→Nat→List Bool) (one:(Nat→Nat)→Nat→List Bool):Prop where
 nil:∀h,bf h 0=[]
 step:∀h k,bf h (k+1)=bf h k++one h k
theorem tK.begins {bf one:(Nat→Nat)→Nat→List Bool} (L:tK bf one) (h:Nat→Nat) (k n:Nat) (hk:k≤n):∃r,bf h n=bf h k++r:=by
 induction n with
 |zero=>exact ⟨[],by rw [show k=0 from by omega];simp⟩
 |succ n ih=>
  by_cases e:k=n+1
  ·exact ⟨[],by rw [e];simp⟩
  ·obtain ⟨r,hr⟩:=ih (by omega)
   exact ⟨r++one h n,by rw [L.step,hr,List.append_assoc]⟩
def qKC (bf:(Nat→Nat)→Nat→List Bool) (R:List Bool) (h:Nat→Nat) (n:Nat):Prop:=(∀i,i<n→h i<4294967296)∧∃r,R=bf h n++r
structure qAG (bf:(Nat→Nat)→Nat→List Bool) (w wr:World) (b:Nat) (s:ByteArray) (g n k a:Nat) (e1:Int) (f:Nat→Nat):Prop where
 row:vO wr g n k f
 rd:Rd wr b 0 s a e1
 only:qJ b 0 3 w wr
 size:g<wr.heap.size
 rng:∀i,i<k→f i<4294967296
 full:∀h,qKC bf (rb s) h n→e1=0∧(rb s).take a=bf h k∧∀i,i<k→f i=h i
theorem qAG.next {bf one:(Nat→Nat)→Nat→List Bool} (L:tK bf one) {w wr w2:World} {b:Nat} {s:ByteArray} {g n k a a':Nat} {e1 e2:Int} {f:Nat→Nat} (hk:k<n) (hg:w.heap.size≤g) (hgb:g≠b) (T:qAG bf w wr b s g n k a e1 f)
  (x:Nat) (hx:x<4294967296) (hR:Rd w2 b 0 s a' e2) (hO:qJ b 0 3 wr w2)
  (hf:e1=0→∀h r,(∀i,i<k→f i=h i)→h k<4294967296→(rb s).drop a=one h k++r→x=h k∧e2=0∧(rb s).take a'=(rb s).take a++one h k):
  qAG bf w (w2.setCell ⟨g,k,none⟩ (.int .u32 (x:Int))) b s g n (k+1) a' e2 (fun i=>if i=k then x else f i):=by
 have hs2:=hO.size
 have hsz:=T.size
 refine ⟨(T.row.ofBlock (hO.block g hsz hgb)).set hk x,hR.setOther' g _ hgb _,(T.only.trans hO).setOther' g _ hg hgb _,by simp [World.setCell];omega,fun i hi=>?_,fun h hB=>?_⟩
 ·by_cases e:i=k
  ·simp [e,hx]
  ·simp [e];exact T.rng i (by omega)
 ·obtain ⟨h1,h2,h3⟩:=T.full h hB
  obtain ⟨hr,r,hRR⟩:=hB
  obtain ⟨r1,h4⟩:=L.begins h (k+1) n (by omega)
  rw [h4,L.step,List.append_assoc,List.append_assoc] at hRR
  have h5:(rb s).drop a=one h k++(r1++r):=by
   have:=List.take_append_drop a (rb s)
   rw [h2] at this
   rw [hRR] at this⊢
   exact List.append_cancel_left this
  obtain ⟨h6,h7,h8⟩:=hf h1 h _ h3 (hr k hk) h5
  refine ⟨h7,by rw [h8,h2,L.step],fun i hi=>?_⟩
  by_cases e:i=k
  ·simp [e,h6]
  ·simp [e];exact h3 i (by omega)
theorem lX:tK (plB 32) (fun h k=>bitsOf (h k) 32):=⟨fun h=>rfl,fun h k=>rfl⟩
theorem sU {w w':World} {b:Nat} {s:ByteArray} {a a':Nat} {e1 e2:Int} {x:Nat} (hx:x<4294967296) (T:Tk w w' b 0 s a e1 a' e2 (bitsOf x 32)) (y:Nat) (r:List Bool) (he:e1=0) (hy:y<4294967296) (hr:(rb s).drop a=bitsOf y 32++r):
  x=y∧e2=0∧(rb s).take a'=(rb s).take a++bitsOf y 32:=by
 have hl:((rb s).drop a).length=32+r.length:=by rw [hr];simp
 rw [List.length_drop] at hl
 have e2:=T.full he (by rw [bitsOf_length];omega)
 have h1:=(T.sound e2).2
 have h2:=take_eq_drop' _ _ a a' h1
 rw [hr] at h2
 have h3:=(pbits_inj y x 32 _ _ (by simpa using hy) (by simpa using hx) h2).1
 exact ⟨h3.symm,e2,by rw [h1,h3]⟩
end Go.Proofs.YtkpmalfigmimaaaGreatDoor
namespace Go.Proofs.YtkpmalfigmimaaaGreatDoor
open Go.RowKit
open M
def nL (bf:(Nat→Nat)→Nat→List Bool) (bs:List Nat) (n:Nat) (w:World) (e:Ending) (w':World):Prop:=
 ∃(g:Nat) (f:Nat→Nat),w.heap.size≤g∧e= .returned (.tuple #[.slice (some ⟨g,0,none⟩) n n,.int .i64 0])∧vO w' g n n f∧(∀i,i<n→f i<4294967296)∧Below w.heap.size w w'∧
  ∀h,qKC bf (rbits bs) h n→∀i,i<n→f i=h i
theorem pN (v:Value) (bs:List Nat) (n:Nat) (w:World) (h:jW w v bs) (hb:∀n∈bs,n<256) (hl:bs.length≤1000000000000) (hn:n≤4096):
  Calls Tryz.prog 108 #[v,.int .i64 n] w (nL (plB 32) bs n w):=by
 have H:=qA h
 have HB:=qA hb
 have HL:=qA hl
 have hmk:=zK n hn
 clear h hb hl
 go_enter Tryz.func108,Tryz.ntmps108
 go_wp2_with fail
 refine (kJ w v bs H.out).mono ?_
 rintro e w1 ⟨rfl,hw1⟩
 have HR:Hid (Rd w1 w.heap.size 0 (qG bs) 0 0∧w1.heap.size=w.heap.size+1∧Below w.heap.size w w1):=by
  rw [hw1];exact ⟨xZ w bs HL.out,by simp,(Below.refl _ _).alloc (Nat.le_refl _) _⟩
 clear hw1
 obtain ⟨b,hbw⟩:∃b,w.heap.size=b:=⟨_,rfl⟩
 have HBW:=qA hbw
 obtain ⟨g,hg⟩:∃g,w1.heap.size=g:=⟨_,rfl⟩
 have HA:Hid (qAG (plB 32) w1 (w1.alloc (.cells (Array.replicate n (Value.int .u32 0)) 57)) b (qG bs) g n 0 0 0 (fun _=>0)):=by
  have hA:Below w1.heap.size w1 (w1.alloc (.cells (Array.replicate n (Value.int .u32 0)) 57)):=(Below.refl _ w1).alloc (Nat.le_refl _) _
  have hbs:b<w1.heap.size:=by have:=HR.out.2.1;omega
  refine ⟨by rw [←hg];exact vO.new w1 n _,by rw [←hbw];exact HR.out.1.below hA (by omega),⟨hA.os,hA.tape,hA.output,hA.size,fun k hk _=>hA.block k hk,fun j _=>World.cell?_of_block (hA.block b hbs),fun j=>World.frozen?_of_block (w:=w1) (a:=⟨b,j,none⟩) (hA.block b hbs)⟩,by rw [←hg];simp,fun i hi=>by omega,fun h hB=>⟨rfl,by simp [plB],fun i hi=>by omega⟩⟩
 have hgb:g≠b:=by have:=HR.out.2.1;omega
 have HG:Hid (w1.heap.size≤g):=Nat.le_of_eq hg
 rw [hbw]
 clear hbw
 go_upto_region 3 with fail
 (try rw [hg])
 clear hg hmk
 generalize w1.alloc (.cells (Array.replicate n (Value.int .u32 0)) 57)=W0 at*
 go_wp2_with fail
 go_loopw [15] (fun t15 wr=>∃(k a:Nat) (e1:Int) (f:Nat→Nat),t15= .int .i64 (k:Int)∧Hid (k≤n∧qAG (plB 32) w1 wr b (qG bs) g n k a e1 f)) (fun t15 _=>n-(intOf t15).toNat)
 case atStart=>exact ⟨0,0,0,_,rfl,Nat.zero_le _,HA.out⟩
 case round=>
  obtain ⟨k,a,e1,f,rfl,hI⟩:=hrel
  by_cases hlt:k<n
  ·go_wp2_with fail
   refine (kM b 0 (qG bs) a e1 wr hI.out.2.rd).mono ?_
   rintro e w2 ⟨x,a',e2,rfl,hx,T⟩
   have NX:=qAG.next lX hlt HG.out hgb hI.out.2 x hx T.rd T.only (fun he h r hh hk hr=>sU hx T (h k) r he hk hr)
   have RW:=hI.out.2.row.ofBlock (T.only.block g hI.out.2.size hgb)
   have c2:w2.cell? ⟨g,k,none⟩=some (.int .u32 0):=by rw [RW.cell k hlt,if_neg (by omega)];rfl
   have c3:=RW.fz k
   have HNX:=qA NX
   clear NX RW T
   go_wp2_with fail
   go_roundw
   case rel=>exact ⟨k+1,a',e2,_,by simp,hlt,HNX.out⟩
   case measure=>simp [intOf];omega
  ·have hk:k=n:=by have:=hI.out.1;omega
   have hI':Hid (qAG (plB 32) w1 wr b (qG bs) g n n a e1 f):=by have:=hI.out.2;rw [hk] at this;exact this
   go_wp2_with fail
   go_ret2
   refine ⟨g,f,?_,rfl,hI'.out.row,hI'.out.rng,?_,fun h hB i hi=>?_⟩
   ·have:=HR.out.2.1;have:=HG.out;omega
   ·have:=hI'.out.only.below (B:=w.heap.size) (by have:=HBW.out;omega) (by have:=HR.out.2.1;omega)
    exact HR.out.2.2.trans this
   ·exact (hI'.out.full h (by rw [qV bs HB.out];exact hB)).2.2 i hi
end Go.Proofs.YtkpmalfigmimaaaGreatDoor
namespace Go.Proofs.YtkpmalfigmimaaaGreatDoor
open Go.RowKit
open M
theorem sS (b:Nat) (s:ByteArray) (n:Nat) (w:World) (h:Rd w b 0 s 0 0) (hn:n≤4096) (hT:qT w) (hTb:2≠b):
  Calls Tryz.prog 133 #[.pointer (some ⟨b,0,none⟩),.int .i64 n] w (tS w b s n):=by
 have hbs:b<w.heap.size:=block_lt_of_cell h.text
 have hTs:2<w.heap.size:=block_lt_of_cell (hT 0 (by omega))
 have H:=qA h
 have HT:=qA hT
 clear h hT
 have hmk:=zK n hn
 have hA:Hid (Below w.heap.size w (w.alloc (.cells (Array.replicate n (Value.int .u32 0)) 57))):=(Below.refl _ w).alloc (Nat.le_refl _) _
 by_cases h0:n=0
 ·have hne:((n:Int)==0)=true:=by rw [beq_iff_eq];omega
  have H0:=qA h0
  clear h0
  go_enter Tryz.func133,Tryz.ntmps133
  go_wp2_with fail
  go_ret2
  refine .inr ⟨0,0,fun _=>0,rfl,?_,H.out.below hA.out hbs,hA.out.mono (Nat.le_of_lt hbs),fun i hi=>by have:=H0.out;omega,fun _=>by rw [H0.out];simp [cbn],fun h hB=>⟨rfl,fun i hi=>by have:=H0.out;omega⟩⟩
  rw [H0.out];exact vO.new w 0 _
 have hne:((n:Int)==0)=false:=by rw [beq_eq_false_iff_ne];omega
 have hn0:0<n:=by omega
 have HN:Hid (vO (w.alloc (.cells (Array.replicate n (Value.int .u32 0)) 57)) w.heap.size n 0 (fun _=>0)):=vO.new w n _
 have HR:Hid (Rd (w.alloc (.cells (Array.replicate n (Value.int .u32 0)) 57)) b 0 s 0 0):=H.out.below hA.out hbs
 have hs1:Hid (w.heap.size<(w.alloc (.cells (Array.replicate n (Value.int .u32 0)) 57)).heap.size):=by show _<_;simp
 have hgb:w.heap.size≠b:=by omega
 go_enter Tryz.func133,Tryz.ntmps133
 go_upto_region 4 with fail
 generalize w.alloc (.cells (Array.replicate n (Value.int .u32 0)) 57)=W0 at*
 clear hmk
 go_wp2_with fail
 refine (kA _).mono ?_
 rintro e wy ⟨rfl,hwy⟩
 have hwy:=hwy.symm
 subst hwy
 go_wp2_with fail
 refine (kT b 0 s 0 32 0 W0 HR.out (by omega)).mono ?_
 rintro e w1 ⟨x,a,e1,rfl,hx,T⟩
 have hxM:x<4294967296:=hx
 have x1:IntKind.u32.wrap (x:Int)=(x:Int):=vJ hxM
 have HX:=qA hxM
 clear hx hxM
 have e1b:=T.only.block w.heap.size hs1.out hgb
 have R1:vO w1 w.heap.size n 0 (fun _=>0):=HN.out.ofBlock e1b
 have c1:w1.cell? ⟨w.heap.size,0,none⟩=some (.int .u32 0):=R1.cell 0 (by omega)
 have c2:=R1.fz 0
 obtain ⟨g,hg⟩:∃g,w.heap.size=g:=⟨_,rfl⟩
 have HT1:Hid (vO (w1.setCell ⟨w.heap.size,0,none⟩ (.int .u32 (x:Int))) w.heap.size n 1 (fun _=>x)∧Rd (w1.setCell ⟨w.heap.size,0,none⟩ (.int .u32 (x:Int))) b 0 s a e1∧qJ b 0 3 w (w1.setCell ⟨w.heap.size,0,none⟩ (.int .u32 (x:Int)))∧w.heap.size<(w1.setCell ⟨w.heap.size,0,none⟩ (.int .u32 (x:Int))).heap.size):=by
  have O1:qJ b 0 3 w w1:=qJ.trans ⟨hA.out.os,hA.out.tape,hA.out.output,hA.out.size,fun k hk _=>hA.out.block k hk,fun j _=>World.cell?_of_block (hA.out.block b hbs),fun j=>World.frozen?_of_block (w:=w) (w':=W0) (a:=⟨b,j,none⟩) (hA.out.block b hbs)⟩ T.only
  refine ⟨(R1.set (by omega) x).congr fun i hi=>by rw [if_pos (by omega)],T.rd.setOther' _ 0 hgb _,O1.setOther' _ 0 (Nat.le_refl _) hgb _,?_⟩
  have:=T.only.size
  have:=hs1.out
  simp [World.setCell];omega
 have HTS:=qA (And.intro T.sound T.full)
 have c3:=qF w1 w.heap.size 0 (.int .u32 (x:Int)) _ c1
 clear R1 T e1b
 rw [hg] at c1 c2 c3 HT1 hgb⊢
 go_upto_region 5 with fail
 generalize w1.setCell ⟨g,0,none⟩ (.int .u32 (x:Int))=W1 at*
 clear c1 c2
 have hN2:=heap_alloc_new W1 (.cells #[.int .u32 (x:Int),.int .i64 0,.int .i64 0] 217)
 have B2:Below W1.heap.size W1 (W1.alloc (.cells #[.int .u32 (x:Int),.int .i64 0,.int .i64 0] 217)):=(Below.refl _ _).alloc (Nat.le_refl _) _
 have HCN:Hid (qI6 w (W1.alloc (.cells #[.int .u32 (x:Int),.int .i64 0,.int .i64 0] 217)) b W1.heap.size s g n 0 a e1 (fun _=>x)∧g<W1.heap.size∧qT (W1.alloc (.cells #[.int .u32 (x:Int),.int .i64 0,.int .i64 0] 217))):=by
  have hgs:=HT1.out.2.2.2
  have tw:jA b W1.heap.size w (W1.alloc (.cells #[.int .u32 (x:Int),.int .i64 0,.int .i64 0] 217)):=(jA.ofB HT1.out.2.2.1).trans (jA.ofBelow B2)
  have hbW:b<W1.heap.size:=by omega
  refine ⟨⟨HT1.out.1.ofBlock (B2.block g (by omega)),HT1.out.2.1.below B2 hbW,⟨?_,?_,?_,fun i=>frozen_of_row _ _ _ _ _ hN2⟩,tw,?_,fun i hi=>HX.out,fun he=>?_,?_⟩,by omega,tw.tab HT.out hTb (by omega)⟩
  ·rw [cell_of_row _ _ _ _ _ _ hN2];rfl
  ·rw [cell_of_row _ _ _ _ _ _ hN2];rfl
  ·rw [cell_of_row _ _ _ _ _ _ hN2];rfl
  ·have:=B2.size;omega
  ·rw [cbn_one,(HTS.out.1 he).2];simp
  ·rintro h ⟨hr,r,hR⟩
   obtain ⟨r1,h1⟩:=cbn_prefix 32 5 h 1 n (by omega)
   rw [h1,cbn_one,List.append_assoc] at hR
   have he:e1=0:=HTS.out.2 (by trivial) (by rw [hR];simp)
   refine ⟨he,fun i hi=>?_⟩
   obtain rfl:i=0:=by omega
   have h2:=take_eq_drop' _ _ 0 a (by rw [(HTS.out.1 he).2])
   rw [List.drop_zero,hR] at h2
   exact ((pbits_inj _ _ 32 _ _ (hr 0 (by omega)) HX.out h2).1).symm
 go_wp2_with fail
 obtain ⟨c,hcw⟩:∃c,W1.heap.size=c:=⟨_,rfl⟩
 rw [hcw] at HCN⊢
 clear hN2 B2 c3 hcw
 generalize W1.alloc (.cells #[.int .u32 (x:Int),.int .i64 0,.int .i64 0] 217)=W2 at*
 have hgc:g<c:=HCN.out.2.1
 have hbc:c≠b:=by omega
 go_loopw [4,7] (fun t4 t7 wr=>∃(k a:Nat) (e1:Int) (f:Nat→Nat),t4= .slice (some ⟨g,0,none⟩) n n∧t7= .int .i64 ((k:Int)+1)∧Hid (k<n)∧Hid (qI6 w wr b c s g n k a e1 f∧qT wr)) (fun _ t7 _=>n-(intOf t7).toNat)
 case atStart=>exact ⟨0,a,e1,_,rfl,rfl,hn0,HCN.out.1,HCN.out.2.2⟩
 case round=>
  clear HT1 HX HCN HTS
  obtain ⟨k,a,e1,f,rfl,rfl,hk,hI⟩:=hrel
  by_cases hlt:k+1<n
  ·go_wp2_with fail
   refine (qDY b c s a e1 (f k) (win 32 5 f k).1 (win 32 5 f k).2 wr hI.out.1.rd hI.out.1.col hbc (win_win 32 5 f (by omega) k (fun j hj=>hI.out.1.rng j (by omega))) (hI.out.1.rng k (by omega)) hI.out.2 hTb (by omega)).mono ?_
   rintro e w2 ⟨ok,x,a2,e2,rfl,R2,T2,hx,hok,hfull⟩
   have HU:=qA hx
   have HS:=qA hok
   have HF:=qA hfull
   have HR2:=qA R2
   have HT2:=qA T2
   clear hx hok hfull R2 T2
   cases ok with
   |false=>
    go_wp2_with fail
    go_ret2
    refine .inl ⟨rfl,(hI.out.1.two.trans HT2.out).below (Nat.le_refl _) (by omega) (by omega),hI.out.1.none hlt fun h1 y r hy hr=>?_⟩
    have:=(HF.out h1 y r hy hr).1
    cases this
   |true=>
    have NX:=qI6.next hlt (Nat.le_of_eq hg) hgb (by omega) hI.out.1 x HU.out HR2.out HT2.out (HS.out rfl).1 (HS.out rfl).2 (fun h y r hy hr=>⟨(HF.out h y r hy hr).2.1,(HF.out h y r hy hr).2.2⟩)
    obtain ⟨q,hq⟩:∃q:Nat,f k^^^x=q:=⟨_,rfl⟩
    have cq:w2.cell? ⟨c,0,none⟩=some (.int .u32 (q:Int)):=by rw [←hq];exact (HS.out rfl).1.ahead
    have RW:=hI.out.1.row.ofBlock (HT2.out.block g hI.out.1.size hgb (by omega))
    have c2:w2.cell? ⟨g,k+1,none⟩=some (.int .u32 0):=by rw [RW.cell (k+1) hlt,if_neg (by omega)];rfl
    have c3:=RW.fz (k+1)
    rw [hq] at NX
    have HNX:=qA NX
    have HTb2:Hid (qT w2):=HT2.out.tab hI.out.2 hTb (by omega)
    clear NX hq RW
    go_wp2_with fail
    go_roundw
    case rel=>
     refine ⟨k+1,a2,e2,_,rfl,by simp,hlt,HNX.out,?_⟩
     exact fun j hj=>by
      rw [World.cell?_of_block (w:=w2) (Below.heap_setCell _ _ _ _ (show 2≠g by omega))];exact HTb2.out j hj
    case measure=>simp [intOf];omega
  ·go_wp2_with fail
   go_ret2
   obtain rfl:n=k+1:=by have:=hk.out;omega
   refine .inr ⟨a,e1,f,by rw [hg];rfl,by rw [hg];exact hI.out.1.row,hI.out.1.rd,hI.out.1.two.below (Nat.le_refl _) (by omega) (by omega),hI.out.1.rng,hI.out.1.sound,hI.out.1.full⟩
end Go.Proofs.YtkpmalfigmimaaaGreatDoor
namespace Go.Proofs.YtkpmalfigmimaaaGreatDoor
open Go.RowKit
open M
def gT (bs:List Nat) (h:Nat→Nat) (n:Nat):Prop:=(∀i,i<n→h i<4294967296)∧packed (cbn 32 5 h n)=bs
theorem vX {bs:List Nat} {h:Nat→Nat} {n:Nat} (hP:gT bs h n):yR (rbits bs) h n:=by
 obtain ⟨h1,h2⟩:=hP
 exact ⟨h1,_,by rw [←h2,rbits_packed]⟩
def nJ (w:World) (bs:List Nat) (n:Nat) (e:Ending) (w':World):Prop:=
 (e= .returned (.tuple #[.slice none 0 0,.int .i64 71])∧Below w.heap.size w w'∧¬∃h,gT bs h n)∨
  ∃(g:Nat) (f:Nat→Nat),e= .returned (.tuple #[.slice (some ⟨g,0,none⟩) n n,.int .i64 0])∧w.heap.size≤g∧vO w' g n n f∧Below w.heap.size w w'∧gT bs f n∧
   ∀h,yR (rbits bs) h n→∀i,i<n→f i=h i
theorem qJC {s:ByteArray} {bs:List Nat} {n a:Nat} {e1:Int} {f h:Nat→Nat} (hb:∀n∈bs,n<256) (hs:s=qG bs) (hle:a≤8*s.size) (sound:e1=0→(rb s).take a=cbn 32 5 f n) (full:∀h,yR (rb s) h n→e1=0∧∀i,i<n→f i=h i) (hP:gT bs h n):pU s a e1=0:=by
 subst hs
 obtain ⟨h1,h2⟩:=full h (by rw [qV bs hb];exact vX hP)
 subst h1
 have h3:=sound rfl
 rw [cbn_congr _ _ _ _ _ h2] at h3
 have h4:=congrArg List.length h3
 rw [List.length_take,jN,Nat.min_eq_left hle] at h4
 obtain ⟨_,hbs⟩:=hP
 rw [←hbs,h4]
 exact pB _
theorem qJU {s:ByteArray} {bs:List Nat} {n a:Nat} {e1:Int} {f:Nat→Nat} (hb:∀n∈bs,n<256) (hs:s=qG bs) (hle:a≤8*s.size) (rng:∀i,i<n→f i<4294967296) (sound:e1=0→(rb s).take a=cbn 32 5 f n) (hE:pU s a e1=0):gT bs f n:=by
 subst hs
 refine ⟨rng,?_⟩
 unfold pU at hE
 by_cases he:e1=0
 ·rw [if_pos he] at hE
  have hs:(qG bs).size=bs.length:=by simp
  rw [hs,qV bs hb] at hE
  by_cases h8:8≤8*bs.length-a
  ·rw [if_pos h8] at hE;cases hE
  ·rw [if_neg h8] at hE
   by_cases hz:num ((rbits bs).drop a)=0
   ·rw [hs] at hle
    have h1:=sound he
    rw [qV bs hb] at h1
    rw [←h1]
    exact wE bs hb a hle (by omega) hz
   ·rw [if_neg hz] at hE;cases hE
 ·rw [if_neg he] at hE;exact absurd hE he
theorem qA6 (v:Value) (bs:List Nat) (n:Nat) (w:World) (h:jW w v bs) (hb:∀n∈bs,n<256) (hl:bs.length≤1000000000000) (hn:n≤4096) (hT:qT w):
  Calls Tryz.prog 109 #[v,.int .i64 n] w (nJ w bs n):=by
 have H:=qA h
 have HB:=qA hb
 have HL:=qA hl
 have HT:=qA hT
 have hTs:2<w.heap.size:=block_lt_of_cell (hT 0 (by omega))
 clear h hb hl hT
 go_enter Tryz.func109,Tryz.ntmps109
 go_wp2_with fail
 refine (kJ w v bs H.out).mono ?_
 rintro e w1 ⟨rfl,hw1⟩
 have HR:Hid (Rd w1 w.heap.size 0 (qG bs) 0 0):=by rw [hw1];exact xZ w bs HL.out
 have HB1:Hid (Below w.heap.size w w1):=by rw [hw1];exact (Below.refl _ _).alloc (Nat.le_refl _) _
 clear hw1
 go_wp2_with fail
 refine (sS w.heap.size (qG bs) n w1 HR.out hn (HT.out.below HB1.out) (by omega)).mono ?_
 rintro e w2 (⟨rfl,B2,hno⟩|⟨a,e1,f,rfl,U2,R2,B2,rng,sound,full⟩)
 ·have HB2:Hid (Below w.heap.size w w2):=HB1.out.trans B2
  have HNO:=qA hno
  clear hno B2
  go_wp2_with fail
  go_ret2
  refine .inl ⟨rfl,HB2.out,fun ⟨h,hP⟩=>HNO.out ⟨h,?_⟩⟩
  rw [qV bs HB.out];exact vX hP
 ·have HB2:Hid (Below w.heap.size w w2):=HB1.out.trans B2
  have hg1:Hid (w.heap.size≤w1.heap.size):=HB1.out.size
  have HU:=qA U2
  have HA:=qA (And.intro rng (And.intro sound full))
  have hle:=qA R2.le
  have HR2:=qA R2
  clear U2 B2 rng sound full R2
  go_wp2_with fail
  refine (sN w.heap.size 0 (qG bs) a e1 w2 HR2.out).mono ?_
  rintro e w3 ⟨rfl,m,hw3⟩
  have HB3:Hid (Below w.heap.size w w3):=by rw [hw3];exact qN HB2.out m
  have HU3:Hid (vO w3 w1.heap.size n n f):=by rw [hw3];exact ⟨HU.out.cell,HU.out.fz,HU.out.blk⟩
  clear hw3
  by_cases hE:pU (qG bs) a e1=0
  ·rw [hE]
   have HE:=qA hE
   clear hE
   go_wp2_with fail
   go_ret2
   refine .inr ⟨w1.heap.size,f,rfl,hg1.out,HU3.out,HB3.out,qJU HB.out rfl hle.out HA.out.1 HA.out.2.1 HE.out,fun h hB=>(HA.out.2.2 h (by rw [qV bs HB.out];exact hB)).2⟩
  ·have hE':(pU (qG bs) a e1 !=0)=true:=by simp [hE]
   have HE:=qA hE
   clear hE
   go_wp2_with fail
   go_ret2
   exact .inl ⟨rfl,HB3.out,fun ⟨h,hP⟩=>HE.out (qJC HB.out rfl hle.out HA.out.2.1 HA.out.2.2 hP)⟩
end Go.Proofs.YtkpmalfigmimaaaGreatDoor
namespace Go.Proofs.YtkpmalfigmimaaaGreatDoor
open Go.RowKit
open M
theorem qFB:∃i5,Tryz.prog.info? 57=some i5∧i5.zero=some (.int .u32 0)∧i5.size=1∧i5.bytes=32/8:=by
 have hz:(Tryz.prog.info? 57).bind (·.zero)=some (.int .u32 0):=by kernel_rfl
 have hs:(Tryz.prog.info? 57).map (·.size)=some 1:=by kernel_rfl
 have hb:(Tryz.prog.info? 57).map (·.bytes)=some (32/8):=by kernel_rfl
 cases hi:Tryz.prog.info? 57 with
 |none=>simp [hi] at hs
 |some i5=>
  simp only [hi,Option.bind_some,Option.map_some,Option.some.injEq] at hz hs hb
  exact ⟨i5,rfl,hz,hs,hb⟩
def jQ (i:Nat) (f:Nat→Nat):List Value:=(List.range i).map fun j=> .int .u32 (f j:Int)
theorem wN {w w':World} {row:Option Nat} {B:Nat} (hg:w.grownBy w' row) (hr:∀g,row=some g→B≤g) (hB:B≤w.heap.size):Below B w w':=
 ⟨hg.os,hg.tape,hg.output,hg.size,fun k hk=>hg.block k (by omega) (fun e=>by have:=hr k e.symm;omega)⟩
def qEJ (B:Nat) (w0:World) (f:Nat→Nat) (i:Nat) (v:Value) (wr:World):Prop:=wr.ownsRow B 57 1 v i (jQ i f)∧Below B w0 wr∧B≤w0.heap.size
theorem qEJ.row {B:Nat} {w0 wr:World} {f:Nat→Nat} {i:Nat} {v:Value} (h:qEJ B w0 f i v wr):∃ad cap,v= .slice ad i cap∧i≤cap∧jC wr ad i f:=by
 rcases h.1.2 with ⟨h1,h2⟩|⟨g,cap2,cur,h1,hb,hg,hc2,hm2,hs,ht⟩
 ·exact ⟨none,0,by rw [h1,h2],by omega,by rw [h2];exact jC.nil _ _ _⟩
 ·refine ⟨_,cap2,h1,hc2,fun _=>⟨g,0,rfl,fun j hj=>?_⟩⟩
  have e:(jQ i f)[j]?=some (.int .u32 (f j:Int)):=by simp [jQ,hj]
  rw [Nat.zero_add,cell_of_row wr g j cur _ (0,0) hg,←e,←ht,List.getElem?_take,if_pos (by omega)]
  simp
end Go.Proofs.YtkpmalfigmimaaaGreatDoor
namespace Go.Proofs.YtkpmalfigmimaaaGreatDoor
open Go.RowKit
open M
def nA (bf:(Nat→Nat)→Option (List Bool)) (bs:List Nat) (n:Nat) (h:Nat→Nat):Prop:=(∀i,i<n→h i<4294967296)∧(n=0→bs=[])∧(0<n→∃l r,bf h=some l∧rbits bs=l++r)
def gV (bf:(Nat→Nat)→Option (List Bool)) (bs:List Nat) (n:Nat) (w:World) (e:Ending) (w':World):Prop:=
 (∃c:Int,c≠0∧e= .returned (.tuple #[.slice none 0 0,.int .i64 c])∧Below w.heap.size w w'∧∀h,nA bf bs n h→False)∨
 ∃(v:Value) (f:Nat→Nat),e= .returned (.tuple #[v,.int .i64 0])∧qEJ w.heap.size w f n v w'∧(∀i,i<n→f i<4294967296)∧∀h,nA bf bs n h→∀i,i<n→f i=h i
theorem vO.owns {w:World} {g n:Nat} {f:Nat→Nat} {B:Nat} (h:vO w g n n f) (hB:B≤g) (hn:n≤4096):w.ownsRow B 57 1 (.slice (some ⟨g,0,none⟩) n n) n (jQ n f):=by
 obtain ⟨cur,h1,h2⟩:=h.blk
 refine ⟨by simp [jQ],.inr ⟨g,n,cur,rfl,hB,h1,Nat.le_refl _,by have:maxLen=9223372036854775807:=rfl;omega,by omega,?_⟩⟩
 apply List.ext_getElem?
 intro i
 rw [Nat.mul_one,List.take_of_length_le (by simp;omega)]
 by_cases hi:i<n
 ·have h3:=h.cell i hi
  rw [cell_of_row w g i cur _ (0,0) h1,if_pos hi] at h3
  simp [jQ,hi] at h3⊢
  exact h3
 ·rw [List.getElem?_eq_none (by simp;omega),List.getElem?_eq_none (by simp [jQ];omega)]
theorem uT {bf:(Nat→Nat)→Nat→List Bool} {bs:List Nat} {n:Nat} {w:World} {e:Ending} {w':World} (h0:∀h,bf h 0=[]) (hn:n≤4096) (h:nL bf bs n w e w'):gV (fun f=>some (bf f n)) bs n w e w':=by
 obtain ⟨g,f,h1,h2,h3,h4,h5,h6⟩:=h
 refine .inr ⟨_,f,h2,⟨h3.owns h1 hn,h5,Nat.le_refl _⟩,h4,fun h hL i hi=>?_⟩
 obtain ⟨l,r,q1,q2⟩:=hL.2.2 (by omega)
 simp only [Option.some.injEq] at q1
 exact h6 h ⟨hL.1,r,by rw [q1];exact q2⟩ i hi
theorem jE {w w':World} {base:Nat} {t:TypeId} {size:Nat} {v:Value} {n:Nat} {xs:List Value} (h:w.ownsRow base t size v n xs) (hk:∀g,base≤g→g<w.heap.size→w'.heap[g]?=w.heap[g]?):w'.ownsRow base t size v n xs:=by
 obtain ⟨h1,h2⟩:=h
 refine ⟨h1,?_⟩
 rcases h2 with h2|⟨g,cap,cur,rfl,h4,h5,h6⟩
 ·exact .inl h2
 ·exact .inr ⟨g,cap,cur,rfl,h4,(hk g h4 (qB h5)).trans h5,h6⟩
theorem qB9 (c:Nat) (h:c≤4096) (w:World):
  (Instr.makeSlice 124 (.int .i64 0) (.int .i64 (c:Int))).run Tryz.prog w= .ok (.slice (some ⟨w.heap.size,0,none⟩) 0 c) (w.alloc (.cells (Array.replicate c (Value.int .u32 0)) 57)):=by
 obtain ⟨i,hi,hz,hs,hb⟩:=qFB
 rw [run_make w 124 57 i _ Tryz.underlying124 hi hz .i64 .i64 0 (c:Int) (by omega) (by omega) (by rw [hb];omega) (by omega)]
 have e:madeCells (Value.int .u32 0).cells ((c:Int).toNat*i.size)=Array.replicate c (Value.int .u32 0):=by
  rw [hs]
  apply Array.ext
  ·simp [madeCells]
  ·intro j h1 h2
   simp [madeCells,Value.cells,Nat.mod_one]
 rw [e];simp
theorem qBS (k c x:Nat) (f:Nat→Nat):jQ k f++List.replicate c (.int .u32 (x:Int))=jQ (k+c) (fun i=>if i<k then f i else x):=by
 apply List.ext_getElem?
 intro i
 by_cases h1:i<k
 ·rw [List.getElem?_append_left (by simp [jQ,h1])]
  simp [jQ,h1,show i<k+c from by omega]
 ·have hl:(jQ k f).length=k:=by simp [jQ]
  rw [List.getElem?_append_right (by rw [hl];omega),hl]
  by_cases h2:i<k+c
  ·rw [List.getElem?_replicate,if_pos (by omega)]
   simp [jQ,h1,h2]
  ·rw [List.getElem?_eq_none (by simp [jQ];omega),List.getElem?_eq_none (by simp [jQ];omega)]
end Go.Proofs.YtkpmalfigmimaaaGreatDoor
