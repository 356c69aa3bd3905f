import Derived.Test.YtkpmalfigmimaaaGreatDoorC1L32
import Derived.Test.YtkpmalfigmimaaaGreatDoorT1S
import Derived.Test.YtkpmalfigmimaaaGreatDoorD2A
import Derived.Deep.AppendLies
import Derived.Deep.CutRange
import Derived.OwnWalk
import Derived.Test.YtkpmalfigmimaaaGreatDoorC2G64
import Derived.Deep.Onto
import Derived.Test.YtkpmalfigmimaaaGreatDoorC1P
import Derived.Test.YtkpmalfigmimaaaGreatDoorC2D
set_option linter.unusedVariables false
set_option linter.unusedSimpArgs false
set_option maxRecDepth 100000
set_option maxHeartbeats 8000000
namespace Go.Proofs.YtkpmalfigmimaaaGreatDoor
open Go.RowKit
open M
def nR (bf:(Nat→Nat)→Nat→List Bool) (bs:List Nat) (n:Nat) (w:World) (e:Ending) (w':World):Prop:=
 ∃(g:Nat) (f:Nat→Nat),w.heap.size≤g∧e= .returned (.tuple #[.slice (some ⟨g,0,none⟩) n n,.int .i64 0])∧vQ w' g n n f∧(∀i,i<n→f i<4294967296)∧Below w.heap.size w w'∧
  ∀h,qKV bf (rbits bs) h n→∀i,i<n→f i=h i
theorem pU (v:Value) (bs:List Nat) (n:Nat) (w:World) (h:jQ w v bs) (hb:∀n∈bs,n<256) (hl:bs.length≤1000000000000) (hn:n≤4096):
  Calls Tryz.prog 108 #[v,.int .i64 n] w (nR (plB 32) bs n w):=by
 have H:=qA h
 have HB:=qA hb
 have HL:=qA hl
 have hmk:=zL n hn
 clear h hb hl
 go_enter Tryz.func108,Tryz.ntmps108
 go_wp2_with fail
 refine (kI w v bs H.out).mono ?_
 rintro e w1 ⟨rfl,hw1⟩
 have HR:Hid (Rd w1 w.heap.size 0 (qG bs) 0 0∧w1.heap.size=w.heap.size+1∧Below w.heap.size w w1):=by
  rw [hw1];exact ⟨xY w bs HL.out,by simp,(Below.refl _ _).alloc (Nat.le_refl _) _⟩
 clear hw1
 obtain ⟨b,hbw⟩:∃b,w.heap.size=b:=⟨_,rfl⟩
 have HBW:=qA hbw
 obtain ⟨g,hg⟩:∃g,w1.heap.size=g:=⟨_,rfl⟩
 have HA:Hid (qAP (plB 32) w1 (w1.alloc (.cells (Array.replicate n (Value.int .u32 0)) 57)) b (qG bs) g n 0 0 0 (fun _=>0)):=by
  have hA:Below w1.heap.size w1 (w1.alloc (.cells (Array.replicate n (Value.int .u32 0)) 57)):=(Below.refl _ w1).alloc (Nat.le_refl _) _
  have hbs:b<w1.heap.size:=by have:=HR.out.2.1;omega
  refine ⟨by rw [←hg];exact vQ.new w1 n _,by rw [←hbw];exact HR.out.1.below hA (by omega),⟨hA.os,hA.tape,hA.output,hA.size,fun k hk _=>hA.block k hk,fun j _=>World.cell?_of_block (hA.block b hbs),fun j=>World.frozen?_of_block (w:=w1) (a:=⟨b,j,none⟩) (hA.block b hbs)⟩,by rw [←hg];simp,fun i hi=>by omega,fun h hB=>⟨rfl,by simp [plB],fun i hi=>by omega⟩⟩
 have hgb:g≠b:=by have:=HR.out.2.1;omega
 have HG:Hid (w1.heap.size≤g):=Nat.le_of_eq hg
 rw [hbw]
 clear hbw
 go_upto_region 3 with fail
 (try rw [hg])
 clear hg hmk
 generalize w1.alloc (.cells (Array.replicate n (Value.int .u32 0)) 57)=W0 at*
 go_wp2_with fail
 go_loopw [15] (fun t15 wr=>∃(k a:Nat) (e1:Int) (f:Nat→Nat),t15= .int .i64 (k:Int)∧Hid (k≤n∧qAP (plB 32) w1 wr b (qG bs) g n k a e1 f)) (fun t15 _=>n-(intOf t15).toNat)
 case atStart=>exact ⟨0,0,0,_,rfl,Nat.zero_le _,HA.out⟩
 case round=>
  obtain ⟨k,a,e1,f,rfl,hI⟩:=hrel
  by_cases hlt:k<n
  ·go_wp2_with fail
   refine (kK b 0 (qG bs) a e1 wr hI.out.2.rd).mono ?_
   rintro e w2 ⟨x,a',e2,rfl,hx,T⟩
   have NX:=qAP.next fJ hlt HG.out hgb hI.out.2 x hx T.rd T.only (fun he h r hh hk hr=>tE hx T (h k) r he hk hr)
   have RW:=hI.out.2.row.ofBlock (T.only.block g hI.out.2.size hgb)
   have c2:w2.cell? ⟨g,k,none⟩=some (.int .u32 0):=by rw [RW.cell k hlt,if_neg (by omega)];rfl
   have c3:=RW.fz k
   have HNX:=qA NX
   clear NX RW T
   go_wp2_with fail
   go_roundw
   case rel=>exact ⟨k+1,a',e2,_,by simp,hlt,HNX.out⟩
   case measure=>simp [intOf];omega
  ·have hk:k=n:=by have:=hI.out.1;omega
   have hI':Hid (qAP (plB 32) w1 wr b (qG bs) g n n a e1 f):=by have:=hI.out.2;rw [hk] at this;exact this
   go_wp2_with fail
   go_ret2
   refine ⟨g,f,?_,rfl,hI'.out.row,hI'.out.rng,?_,fun h hB i hi=>?_⟩
   ·have:=HR.out.2.1;have:=HG.out;omega
   ·have:=hI'.out.only.below (B:=w.heap.size) (by have:=HBW.out;omega) (by have:=HR.out.2.1;omega)
    exact HR.out.2.2.trans this
   ·exact (hI'.out.full h (by rw [qU bs HB.out];exact hB)).2.2 i hi
end Go.Proofs.YtkpmalfigmimaaaGreatDoor
namespace Go.Proofs.YtkpmalfigmimaaaGreatDoor
open Go.RowKit
open M
theorem tB (b:Nat) (s:ByteArray) (n:Nat) (w:World) (h:Rd w b 0 s 0 0) (hn:n≤4096) (hT:qT w) (hTb:2≠b):
  Calls Tryz.prog 133 #[.pointer (some ⟨b,0,none⟩),.int .i64 n] w (lE w b s n):=by
 have hbs:b<w.heap.size:=block_lt_of_cell h.text
 have hTs:2<w.heap.size:=block_lt_of_cell (hT 0 (by omega))
 have H:=qA h
 have HT:=qA hT
 clear h hT
 have hmk:=zL n hn
 have hA:Hid (Below w.heap.size w (w.alloc (.cells (Array.replicate n (Value.int .u32 0)) 57))):=(Below.refl _ w).alloc (Nat.le_refl _) _
 by_cases h0:n=0
 ·have hne:((n:Int)==0)=true:=by rw [beq_iff_eq];omega
  have H0:=qA h0
  clear h0
  go_enter Tryz.func133,Tryz.ntmps133
  go_wp2_with fail
  go_ret2
  refine .inr ⟨0,0,fun _=>0,rfl,?_,H.out.below hA.out hbs,hA.out.mono (Nat.le_of_lt hbs),fun i hi=>by have:=H0.out;omega,fun _=>by rw [H0.out];simp [cbn],fun h hB=>⟨rfl,fun i hi=>by have:=H0.out;omega⟩⟩
  rw [H0.out];exact vQ.new w 0 _
 have hne:((n:Int)==0)=false:=by rw [beq_eq_false_iff_ne];omega
 have hn0:0<n:=by omega
 have HN:Hid (vQ (w.alloc (.cells (Array.replicate n (Value.int .u32 0)) 57)) w.heap.size n 0 (fun _=>0)):=vQ.new w n _
 have HR:Hid (Rd (w.alloc (.cells (Array.replicate n (Value.int .u32 0)) 57)) b 0 s 0 0):=H.out.below hA.out hbs
 have hs1:Hid (w.heap.size<(w.alloc (.cells (Array.replicate n (Value.int .u32 0)) 57)).heap.size):=by show _<_;simp
 have hgb:w.heap.size≠b:=by omega
 go_enter Tryz.func133,Tryz.ntmps133
 go_upto_region 4 with fail
 generalize w.alloc (.cells (Array.replicate n (Value.int .u32 0)) 57)=W0 at*
 clear hmk
 go_wp2_with fail
 refine (zZ _).mono ?_
 rintro e wy ⟨rfl,hwy⟩
 have hwy:=hwy.symm
 subst hwy
 go_wp2_with fail
 refine (kQ b 0 s 0 32 0 W0 HR.out (by omega)).mono ?_
 rintro e w1 ⟨x,a,e1,rfl,hx,T⟩
 have hxM:x<4294967296:=hx
 have x1:IntKind.u32.wrap (x:Int)=(x:Int):=vL hxM
 have HX:=qA hxM
 clear hx hxM
 have e1b:=T.only.block w.heap.size hs1.out hgb
 have R1:vQ w1 w.heap.size n 0 (fun _=>0):=HN.out.ofBlock e1b
 have c1:w1.cell? ⟨w.heap.size,0,none⟩=some (.int .u32 0):=R1.cell 0 (by omega)
 have c2:=R1.fz 0
 obtain ⟨g,hg⟩:∃g,w.heap.size=g:=⟨_,rfl⟩
 have HT1:Hid (vQ (w1.setCell ⟨w.heap.size,0,none⟩ (.int .u32 (x:Int))) w.heap.size n 1 (fun _=>x)∧Rd (w1.setCell ⟨w.heap.size,0,none⟩ (.int .u32 (x:Int))) b 0 s a e1∧qJ b 0 3 w (w1.setCell ⟨w.heap.size,0,none⟩ (.int .u32 (x:Int)))∧w.heap.size<(w1.setCell ⟨w.heap.size,0,none⟩ (.int .u32 (x:Int))).heap.size):=by
  have O1:qJ b 0 3 w w1:=qJ.trans ⟨hA.out.os,hA.out.tape,hA.out.output,hA.out.size,fun k hk _=>hA.out.block k hk,fun j _=>World.cell?_of_block (hA.out.block b hbs),fun j=>World.frozen?_of_block (w:=w) (w':=W0) (a:=⟨b,j,none⟩) (hA.out.block b hbs)⟩ T.only
  refine ⟨(R1.set (by omega) x).congr fun i hi=>by rw [if_pos (by omega)],T.rd.setOther' _ 0 hgb _,O1.setOther' _ 0 (Nat.le_refl _) hgb _,?_⟩
  have:=T.only.size
  have:=hs1.out
  simp [World.setCell];omega
 have HTS:=qA (And.intro T.sound T.full)
 have c3:=qF w1 w.heap.size 0 (.int .u32 (x:Int)) _ c1
 clear R1 T e1b
 rw [hg] at c1 c2 c3 HT1 hgb⊢
 go_upto_region 5 with fail
 generalize w1.setCell ⟨g,0,none⟩ (.int .u32 (x:Int))=W1 at*
 clear c1 c2
 have hN2:=heap_alloc_new W1 (.cells #[.int .u32 (x:Int),.int .i64 0,.int .i64 0] 217)
 have B2:Below W1.heap.size W1 (W1.alloc (.cells #[.int .u32 (x:Int),.int .i64 0,.int .i64 0] 217)):=(Below.refl _ _).alloc (Nat.le_refl _) _
 have HCN:Hid (qIR w (W1.alloc (.cells #[.int .u32 (x:Int),.int .i64 0,.int .i64 0] 217)) b W1.heap.size s g n 0 a e1 (fun _=>x)∧g<W1.heap.size∧qT (W1.alloc (.cells #[.int .u32 (x:Int),.int .i64 0,.int .i64 0] 217))):=by
  have hgs:=HT1.out.2.2.2
  have tw:qZ b W1.heap.size w (W1.alloc (.cells #[.int .u32 (x:Int),.int .i64 0,.int .i64 0] 217)):=(qZ.ofB HT1.out.2.2.1).trans (qZ.ofBelow B2)
  have hbW:b<W1.heap.size:=by omega
  refine ⟨⟨HT1.out.1.ofBlock (B2.block g (by omega)),HT1.out.2.1.below B2 hbW,⟨?_,?_,?_,fun i=>frozen_of_row _ _ _ _ _ hN2⟩,tw,?_,fun i hi=>HX.out,fun he=>?_,?_⟩,by omega,tw.tab HT.out hTb (by omega)⟩
  ·rw [cell_of_row _ _ _ _ _ _ hN2];rfl
  ·rw [cell_of_row _ _ _ _ _ _ hN2];rfl
  ·rw [cell_of_row _ _ _ _ _ _ hN2];rfl
  ·have:=B2.size;omega
  ·rw [cbn_one,(HTS.out.1 he).2];simp
  ·rintro h ⟨hr,r,hR⟩
   obtain ⟨r1,h1⟩:=cbn_prefix 32 5 h 1 n (by omega)
   rw [h1,cbn_one,List.append_assoc] at hR
   have he:e1=0:=HTS.out.2 (by trivial) (by rw [hR];simp)
   refine ⟨he,fun i hi=>?_⟩
   obtain rfl:i=0:=by omega
   have h2:=take_eq_drop' _ _ 0 a (by rw [(HTS.out.1 he).2])
   rw [List.drop_zero,hR] at h2
   exact ((pbits_inj _ _ 32 _ _ (hr 0 (by omega)) HX.out h2).1).symm
 go_wp2_with fail
 obtain ⟨c,hcw⟩:∃c,W1.heap.size=c:=⟨_,rfl⟩
 rw [hcw] at HCN⊢
 clear hN2 B2 c3 hcw
 generalize W1.alloc (.cells #[.int .u32 (x:Int),.int .i64 0,.int .i64 0] 217)=W2 at*
 have hgc:g<c:=HCN.out.2.1
 have hbc:c≠b:=by omega
 go_loopw [4,7] (fun t4 t7 wr=>∃(k a:Nat) (e1:Int) (f:Nat→Nat),t4= .slice (some ⟨g,0,none⟩) n n∧t7= .int .i64 ((k:Int)+1)∧Hid (k<n)∧Hid (qIR w wr b c s g n k a e1 f∧qT wr)) (fun _ t7 _=>n-(intOf t7).toNat)
 case atStart=>exact ⟨0,a,e1,_,rfl,rfl,hn0,HCN.out.1,HCN.out.2.2⟩
 case round=>
  clear HT1 HX HCN HTS
  obtain ⟨k,a,e1,f,rfl,rfl,hk,hI⟩:=hrel
  by_cases hlt:k+1<n
  ·go_wp2_with fail
   refine (qEJ b c s a e1 (f k) (win 32 5 f k).1 (win 32 5 f k).2 wr hI.out.1.rd hI.out.1.col hbc (win_win 32 5 f (by omega) k (fun j hj=>hI.out.1.rng j (by omega))) (hI.out.1.rng k (by omega)) hI.out.2 hTb (by omega)).mono ?_
   rintro e w2 ⟨ok,x,a2,e2,rfl,R2,T2,hx,hok,hfull⟩
   have HU:=qA hx
   have HS:=qA hok
   have HF:=qA hfull
   have HR2:=qA R2
   have HT2:=qA T2
   clear hx hok hfull R2 T2
   cases ok with
   |false=>
    go_wp2_with fail
    go_ret2
    refine .inl ⟨rfl,(hI.out.1.two.trans HT2.out).below (Nat.le_refl _) (by omega) (by omega),hI.out.1.none hlt fun h1 y r hy hr=>?_⟩
    have:=(HF.out h1 y r hy hr).1
    cases this
   |true=>
    have NX:=qIR.next hlt (Nat.le_of_eq hg) hgb (by omega) hI.out.1 x HU.out HR2.out HT2.out (HS.out rfl).1 (HS.out rfl).2 (fun h y r hy hr=>⟨(HF.out h y r hy hr).2.1,(HF.out h y r hy hr).2.2⟩)
    obtain ⟨q,hq⟩:∃q:Nat,f k^^^x=q:=⟨_,rfl⟩
    have cq:w2.cell? ⟨c,0,none⟩=some (.int .u32 (q:Int)):=by rw [←hq];exact (HS.out rfl).1.ahead
    have RW:=hI.out.1.row.ofBlock (HT2.out.block g hI.out.1.size hgb (by omega))
    have c2:w2.cell? ⟨g,k+1,none⟩=some (.int .u32 0):=by rw [RW.cell (k+1) hlt,if_neg (by omega)];rfl
    have c3:=RW.fz (k+1)
    rw [hq] at NX
    have HNX:=qA NX
    have HTb2:Hid (qT w2):=HT2.out.tab hI.out.2 hTb (by omega)
    clear NX hq RW
    go_wp2_with fail
    go_roundw
    case rel=>
     refine ⟨k+1,a2,e2,_,rfl,by simp,hlt,HNX.out,?_⟩
     exact fun j hj=>by
      rw [World.cell?_of_block (w:=w2) (Below.heap_setCell _ _ _ _ (show 2≠g by omega))];exact HTb2.out j hj
    case measure=>simp [intOf];omega
  ·go_wp2_with fail
   go_ret2
   obtain rfl:n=k+1:=by have:=hk.out;omega
   refine .inr ⟨a,e1,f,by rw [hg];rfl,by rw [hg];exact hI.out.1.row,hI.out.1.rd,hI.out.1.two.below (Nat.le_refl _) (by omega) (by omega),hI.out.1.rng,hI.out.1.sound,hI.out.1.full⟩
end Go.Proofs.YtkpmalfigmimaaaGreatDoor
namespace Go.Proofs.YtkpmalfigmimaaaGreatDoor
open Go.RowKit
open M
def gZ (bs:List Nat) (h:Nat→Nat) (n:Nat):Prop:=(∀i,i<n→h i<4294967296)∧packed (cbn 32 5 h n)=bs
theorem wA {bs:List Nat} {h:Nat→Nat} {n:Nat} (hP:gZ bs h n):yS (rbits bs) h n:=by
 obtain ⟨h1,h2⟩:=hP
 exact ⟨h1,_,by rw [←h2,rbits_packed]⟩
def nP (w:World) (bs:List Nat) (n:Nat) (e:Ending) (w':World):Prop:=
 (e= .returned (.tuple #[.slice none 0 0,.int .i64 71])∧Below w.heap.size w w'∧¬∃h,gZ bs h n)∨
  ∃(g:Nat) (f:Nat→Nat),e= .returned (.tuple #[.slice (some ⟨g,0,none⟩) n n,.int .i64 0])∧w.heap.size≤g∧vQ w' g n n f∧Below w.heap.size w w'∧gZ bs f n∧
   ∀h,yS (rbits bs) h n→∀i,i<n→f i=h i
theorem qJW {s:ByteArray} {bs:List Nat} {n a:Nat} {e1:Int} {f h:Nat→Nat} (hb:∀n∈bs,n<256) (hs:s=qG bs) (hle:a≤8*s.size) (sound:e1=0→(rb s).take a=cbn 32 5 f n) (full:∀h,yS (rb s) h n→e1=0∧∀i,i<n→f i=h i) (hP:gZ bs h n):pZ s a e1=0:=by
 subst hs
 obtain ⟨h1,h2⟩:=full h (by rw [qU bs hb];exact wA hP)
 subst h1
 have h3:=sound rfl
 rw [cbn_congr _ _ _ _ _ h2] at h3
 have h4:=congrArg List.length h3
 rw [List.length_take,jN,Nat.min_eq_left hle] at h4
 obtain ⟨_,hbs⟩:=hP
 rw [←hbs,h4]
 exact pH _
theorem qKC {s:ByteArray} {bs:List Nat} {n a:Nat} {e1:Int} {f:Nat→Nat} (hb:∀n∈bs,n<256) (hs:s=qG bs) (hle:a≤8*s.size) (rng:∀i,i<n→f i<4294967296) (sound:e1=0→(rb s).take a=cbn 32 5 f n) (hE:pZ s a e1=0):gZ bs f n:=by
 subst hs
 refine ⟨rng,?_⟩
 unfold pZ at hE
 by_cases he:e1=0
 ·rw [if_pos he] at hE
  have hs:(qG bs).size=bs.length:=by simp
  rw [hs,qU bs hb] at hE
  by_cases h8:8≤8*bs.length-a
  ·rw [if_pos h8] at hE;cases hE
  ·rw [if_neg h8] at hE
   by_cases hz:num ((rbits bs).drop a)=0
   ·rw [hs] at hle
    have h1:=sound he
    rw [qU bs hb] at h1
    rw [←h1]
    exact wI bs hb a hle (by omega) hz
   ·rw [if_neg hz] at hE;cases hE
 ·rw [if_neg he] at hE;exact absurd hE he
theorem qAH (v:Value) (bs:List Nat) (n:Nat) (w:World) (h:jQ w v bs) (hb:∀n∈bs,n<256) (hl:bs.length≤1000000000000) (hn:n≤4096) (hT:qT w):
  Calls Tryz.prog 109 #[v,.int .i64 n] w (nP w bs n):=by
 have H:=qA h
 have HB:=qA hb
 have HL:=qA hl
 have HT:=qA hT
 have hTs:2<w.heap.size:=block_lt_of_cell (hT 0 (by omega))
 clear h hb hl hT
 go_enter Tryz.func109,Tryz.ntmps109
 go_wp2_with fail
 refine (kI w v bs H.out).mono ?_
 rintro e w1 ⟨rfl,hw1⟩
 have HR:Hid (Rd w1 w.heap.size 0 (qG bs) 0 0):=by rw [hw1];exact xY w bs HL.out
 have HB1:Hid (Below w.heap.size w w1):=by rw [hw1];exact (Below.refl _ _).alloc (Nat.le_refl _) _
 clear hw1
 go_wp2_with fail
 refine (tB w.heap.size (qG bs) n w1 HR.out hn (HT.out.below HB1.out) (by omega)).mono ?_
 rintro e w2 (⟨rfl,B2,hno⟩|⟨a,e1,f,rfl,U2,R2,B2,rng,sound,full⟩)
 ·have HB2:Hid (Below w.heap.size w w2):=HB1.out.trans B2
  have HNO:=qA hno
  clear hno B2
  go_wp2_with fail
  go_ret2
  refine .inl ⟨rfl,HB2.out,fun ⟨h,hP⟩=>HNO.out ⟨h,?_⟩⟩
  rw [qU bs HB.out];exact wA hP
 ·have HB2:Hid (Below w.heap.size w w2):=HB1.out.trans B2
  have hg1:Hid (w.heap.size≤w1.heap.size):=HB1.out.size
  have HU:=qA U2
  have HA:=qA (And.intro rng (And.intro sound full))
  have hle:=qA R2.le
  have HR2:=qA R2
  clear U2 B2 rng sound full R2
  go_wp2_with fail
  refine (sW w.heap.size 0 (qG bs) a e1 w2 HR2.out).mono ?_
  rintro e w3 ⟨rfl,m,hw3⟩
  have HB3:Hid (Below w.heap.size w w3):=by rw [hw3];exact qV HB2.out m
  have HU3:Hid (vQ w3 w1.heap.size n n f):=by rw [hw3];exact ⟨HU.out.cell,HU.out.fz,HU.out.blk⟩
  clear hw3
  by_cases hE:pZ (qG bs) a e1=0
  ·rw [hE]
   have HE:=qA hE
   clear hE
   go_wp2_with fail
   go_ret2
   refine .inr ⟨w1.heap.size,f,rfl,hg1.out,HU3.out,HB3.out,qKC HB.out rfl hle.out HA.out.1 HA.out.2.1 HE.out,fun h hB=>(HA.out.2.2 h (by rw [qU bs HB.out];exact hB)).2⟩
  ·have hE':(pZ (qG bs) a e1 !=0)=true:=by simp [hE]
   have HE:=qA hE
   clear hE
   go_wp2_with fail
   go_ret2
   exact .inl ⟨rfl,HB3.out,fun ⟨h,hP⟩=>HE.out (qJW HB.out rfl hle.out HA.out.2.1 HA.out.2.2 hP)⟩
end Go.Proofs.YtkpmalfigmimaaaGreatDoor
namespace Go.Proofs.YtkpmalfigmimaaaGreatDoor
open Go.RowKit
open M
theorem qFX:∃i5,Tryz.prog.info? 57=some i5∧i5.zero=some (.int .u32 0)∧i5.size=1∧i5.bytes=32/8:=by
 have hz:(Tryz.prog.info? 57).bind (·.zero)=some (.int .u32 0):=by kernel_rfl
 have hs:(Tryz.prog.info? 57).map (·.size)=some 1:=by kernel_rfl
 have hb:(Tryz.prog.info? 57).map (·.bytes)=some (32/8):=by kernel_rfl
 cases hi:Tryz.prog.info? 57 with
 |none=>simp [hi] at hs
 |some i5=>
  simp only [hi,Option.bind_some,Option.map_some,Option.some.injEq] at hz hs hb
  exact ⟨i5,rfl,hz,hs,hb⟩
def jS (i:Nat) (f:Nat→Nat):List Value:=(List.range i).map fun j=> .int .u32 (f j:Int)
theorem wU {w w':World} {row:Option Nat} {B:Nat} (hg:w.grownBy w' row) (hr:∀g,row=some g→B≤g) (hB:B≤w.heap.size):Below B w w':=
 ⟨hg.os,hg.tape,hg.output,hg.size,fun k hk=>hg.block k (by omega) (fun e=>by have:=hr k e.symm;omega)⟩
def qF2 (B:Nat) (w0:World) (f:Nat→Nat) (i:Nat) (v:Value) (wr:World):Prop:=wr.ownsRow B 57 1 v i (jS i f)∧Below B w0 wr∧B≤w0.heap.size
theorem qF2.row {B:Nat} {w0 wr:World} {f:Nat→Nat} {i:Nat} {v:Value} (h:qF2 B w0 f i v wr):∃ad cap,v= .slice ad i cap∧i≤cap∧jB wr ad i f:=by
 rcases h.1.2 with ⟨h1,h2⟩|⟨g,cap2,cur,h1,hb,hg,hc2,hm2,hs,ht⟩
 ·exact ⟨none,0,by rw [h1,h2],by omega,by rw [h2];exact jB.nil _ _ _⟩
 ·refine ⟨_,cap2,h1,hc2,fun _=>⟨g,0,rfl,fun j hj=>?_⟩⟩
  have e:(jS i f)[j]?=some (.int .u32 (f j:Int)):=by simp [jS,hj]
  rw [Nat.zero_add,cell_of_row wr g j cur _ (0,0) hg,←e,←ht,List.getElem?_take,if_pos (by omega)]
  simp
end Go.Proofs.YtkpmalfigmimaaaGreatDoor
namespace Go.Proofs.YtkpmalfigmimaaaGreatDoor
open Go.RowKit
open M
def nH (bf:(Nat→Nat)→Option (List Bool)) (bs:List Nat) (n:Nat) (h:Nat→Nat):Prop:=(∀i,i<n→h i<4294967296)∧(n=0→bs=[])∧(0<n→∃l r,bf h=some l∧rbits bs=l++r)
def pC (bf:(Nat→Nat)→Option (List Bool)) (bs:List Nat) (n:Nat) (w:World) (e:Ending) (w':World):Prop:=
 (∃c:Int,c≠0∧e= .returned (.tuple #[.slice none 0 0,.int .i64 c])∧Below w.heap.size w w'∧∀h,nH bf bs n h→False)∨
 ∃(v:Value) (f:Nat→Nat),e= .returned (.tuple #[v,.int .i64 0])∧qF2 w.heap.size w f n v w'∧(∀i,i<n→f i<4294967296)∧∀h,nH bf bs n h→∀i,i<n→f i=h i
theorem vQ.owns {w:World} {g n:Nat} {f:Nat→Nat} {B:Nat} (h:vQ w g n n f) (hB:B≤g) (hn:n≤4096):w.ownsRow B 57 1 (.slice (some ⟨g,0,none⟩) n n) n (jS n f):=by
 obtain ⟨cur,h1,h2⟩:=h.blk
 refine ⟨by simp [jS],.inr ⟨g,n,cur,rfl,hB,h1,Nat.le_refl _,by have:maxLen=9223372036854775807:=rfl;omega,by omega,?_⟩⟩
 apply List.ext_getElem?
 intro i
 rw [Nat.mul_one,List.take_of_length_le (by simp;omega)]
 by_cases hi:i<n
 ·have h3:=h.cell i hi
  rw [cell_of_row w g i cur _ (0,0) h1,if_pos hi] at h3
  simp [jS,hi] at h3⊢
  exact h3
 ·rw [List.getElem?_eq_none (by simp;omega),List.getElem?_eq_none (by simp [jS];omega)]
theorem uW {bf:(Nat→Nat)→Nat→List Bool} {bs:List Nat} {n:Nat} {w:World} {e:Ending} {w':World} (h0:∀h,bf h 0=[]) (hn:n≤4096) (h:nR bf bs n w e w'):pC (fun f=>some (bf f n)) bs n w e w':=by
 obtain ⟨g,f,h1,h2,h3,h4,h5,h6⟩:=h
 refine .inr ⟨_,f,h2,⟨h3.owns h1 hn,h5,Nat.le_refl _⟩,h4,fun h hL i hi=>?_⟩
 obtain ⟨l,r,q1,q2⟩:=hL.2.2 (by omega)
 simp only [Option.some.injEq] at q1
 exact h6 h ⟨hL.1,r,by rw [q1];exact q2⟩ i hi
theorem jD {w w':World} {base:Nat} {t:TypeId} {size:Nat} {v:Value} {n:Nat} {xs:List Value} (h:w.ownsRow base t size v n xs) (hk:∀g,base≤g→g<w.heap.size→w'.heap[g]?=w.heap[g]?):w'.ownsRow base t size v n xs:=by
 obtain ⟨h1,h2⟩:=h
 refine ⟨h1,?_⟩
 rcases h2 with h2|⟨g,cap,cur,rfl,h4,h5,h6⟩
 ·exact .inl h2
 ·exact .inr ⟨g,cap,cur,rfl,h4,(hk g h4 (qB h5)).trans h5,h6⟩
theorem qBM (c:Nat) (h:c≤4096) (w:World):
  (Instr.makeSlice 124 (.int .i64 0) (.int .i64 (c:Int))).run Tryz.prog w= .ok (.slice (some ⟨w.heap.size,0,none⟩) 0 c) (w.alloc (.cells (Array.replicate c (Value.int .u32 0)) 57)):=by
 obtain ⟨i,hi,hz,hs,hb⟩:=qFX
 rw [run_make w 124 57 i _ Tryz.underlying124 hi hz .i64 .i64 0 (c:Int) (by omega) (by omega) (by rw [hb];omega) (by omega)]
 have e:madeCells (Value.int .u32 0).cells ((c:Int).toNat*i.size)=Array.replicate c (Value.int .u32 0):=by
  rw [hs]
  apply Array.ext
  ·simp [madeCells]
  ·intro j h1 h2
   simp [madeCells,Value.cells,Nat.mod_one]
 rw [e];simp
theorem qC4 (k c x:Nat) (f:Nat→Nat):jS k f++List.replicate c (.int .u32 (x:Int))=jS (k+c) (fun i=>if i<k then f i else x):=by
 apply List.ext_getElem?
 intro i
 by_cases h1:i<k
 ·rw [List.getElem?_append_left (by simp [jS,h1])]
  simp [jS,h1,show i<k+c from by omega]
 ·have hl:(jS k f).length=k:=by simp [jS]
  rw [List.getElem?_append_right (by rw [hl];omega),hl]
  by_cases h2:i<k+c
  ·rw [List.getElem?_replicate,if_pos (by omega)]
   simp [jS,h1,h2]
  ·rw [List.getElem?_eq_none (by simp [jS];omega),List.getElem?_eq_none (by simp [jS];omega)]
end Go.Proofs.YtkpmalfigmimaaaGreatDoor
namespace Go.Proofs.YtkpmalfigmimaaaGreatDoor
open Go.RowKit
open M
def qKM (U:List Nat):List Value:=U.map fun (x:Nat)=> .int .u32 (x:Int)
structure qJC (B:Nat) (w wr:World) (U:List Nat) (v:Value) (r:Nat):Prop where
 own:wr.ownsRow (r+1) 57 1 v U.length (qKM U)
 map:wr.heap[r]?=some (.map (xL .u32 0 U).toArray U.length)
 bel:Below B w wr
 le:B≤r
 size:r+1≤wr.heap.size
theorem qJC.len {B:Nat} {w wr:World} {U:List Nat} {v:Value} {r:Nat} (h:qJC B w wr U v r):∃p cp,v= .slice p U.length cp∧U.length≤cp∧∀j,j<U.length→∃g,p=some ⟨g,0,none⟩∧r+1≤g∧wr.cell? ⟨g,j,none⟩=some (.int .u32 ((U.getD j 0:Nat):Int)):=by
 rcases h.own.2 with ⟨h1,h2⟩|⟨g,cap2,cur,h1,hb,hg,hc2,hm2,hs,ht⟩
 ·exact ⟨none,0,by rw [h1,h2],by omega,fun j hj=>by omega⟩
 ·refine ⟨_,cap2,h1,hc2,fun j hj=>⟨g,rfl,hb,?_⟩⟩
  have e:(qKM U)[j]?=some (.int .u32 ((U.getD j 0:Nat):Int)):=by simp [qKM,hj]
  rw [cell_of_row wr g j cur _ (0,0) hg,←e,←ht,List.getElem?_take,if_pos (by omega)]
  simp
theorem qB9 (w:World) (v:Value) (t:TypeId) (j:Nat) (u:Value) (h:[v][j]?=some u):(w.alloc (.cells #[v] t)).cell? ((⟨w.heap.size,0,none⟩:Addr).add j)=some u:=by
 match j with
 |0=>
  simp at h
  subst h
  exact cell_of_row _ _ 0 _ _ _ (heap_alloc_new w _)
 |j+1=>simp at h
theorem lU (p:Option Addr) (n cap:Nat) (f:Nat→Nat) (w:World) (h:jB w p n f) (hn:n≤4096) (hcap:n≤cap):
  Calls Tryz.prog 154 #[.slice p n cap] w fun e w'=>∃v r,e= .returned (.tuple #[v,.map (some r)])∧qJC w.heap.size w w' (uq f n) v r:=by
 obtain ⟨r,hr⟩:∃r,w.heap.size=r:=⟨_,rfl⟩
 have HA:Hid (qJC r w (w.alloc (.map #[] 0)) [] (.slice none 0 0) r):=by
  rw [←hr]
  exact ⟨⟨by simp [qKM],.inl ⟨rfl,rfl⟩⟩,heap_alloc_new w _,(Below.refl _ w).alloc (Nat.le_refl _) _,Nat.le_refl _,by simp⟩
 have H:=qA h
 have HRR:=qA hr
 have hz:∀w1:World,(zeroValue 3).run Tryz.prog w1= .ok (.int .i64 0) w1:=fun w1=>by kernel_rfl
 have HZ:=qA hz
 obtain ⟨i5,Hi⟩:=qFX
 have HI5:=qA Hi
 clear Hi hz h
 go_enter Tryz.func154,Tryz.ntmps154
 go_upto_region 1 with fail
 refine wp_region_list ?_
 refine kF _ rfl 201 rfl ?_
 rw [hr]
 clear hr
 generalize w.alloc (.map #[] 0)=W0 at*
 go_wp2_with fail
 go_loopw [2,11] (fun t2 t11 wr=>∃(k:Nat) (p2:Option Addr) (c2:Nat),t11= .int .i64 (k:Int)∧t2= .slice p2 (uq f k).length c2∧Hid (k≤n∧qJC r w wr (uq f k) (.slice p2 (uq f k).length c2) r)) (fun _ t11 _=>n-(intOf t11).toNat)
 case atStart=>exact ⟨0,none,0,rfl,rfl,Nat.zero_le _,HA.out⟩
 case round=>
  obtain ⟨k,p2,c2,rfl,rfl,hI⟩:=hrel
  by_cases hlt:k<n
  ·obtain ⟨b,o,rfl,hc⟩:=H.out (by omega)
   obtain ⟨x,hx⟩:∃x,f k=x:=⟨_,rfl⟩
   have c1:wr.cell? ⟨b,o+k,none⟩=some (.int .u32 (x:Int)):=by
    have h1:=hc k hlt
    rw [hI.out.2.bel.cell (p:=⟨b,o+k,none⟩) (show b<r by have h3:b<w.heap.size:=block_lt_of_cell h1;have:=HRR.out;omega),h1,hx]
   obtain ⟨U,hU⟩:∃U,uq f k=U:=⟨_,rfl⟩
   have hUl:U.length≤4096:=by have:=qD7 f k;rw [hU] at this;omega
   rw [hU] at hI⊢
   have HX:=qA (And.intro hx hU)
   clear hx hU hc
   by_cases hm:x∈U
   ·have hg:=(mZ (P:=Tryz.prog) (w:=wr) .u32 _ _ _ _ _ _ (x:Int) _ _ Tryz.underlying201 Tryz.underlying57 hI.out.2.map (by simpa using sI .u32 U x hm 0 0)).1
    have HE:Hid (uq f (k+1)=U):=by show uq f (k+1)=U;rw [uq,HX.out.1,HX.out.2,if_pos hm]
    clear hm
    go_wp2_with fail
    go_roundw
    case rel=>exact ⟨k+1,p2,c2,by simp,by rw [HE.out],by rw [HE.out];exact ⟨hlt,hI.out.2⟩⟩
    case measure=>simp [intOf];omega
   ·have hg:=qA1 (P:=Tryz.prog) (w:=wr) .u32 _ _ _ _ _ _ (x:Int) (.int .i64 0) Tryz.underlying201 Tryz.underlying57 hI.out.2.map (by simpa using mX .u32 U x hm 0 0) (HZ.out wr)
    have hput:∃w2,(Instr.mapUpdate 201 (.map (some r)) (.int .u32 (x:Int)) (.int .i64 (U.length:Int))).run Tryz.prog wr= .ok () w2∧Hid (w2.heap[r]?=some (.map (xL .u32 0 (U++[x])).toArray (U.length+1))∧(∀j,j≠r→w2.heap[j]?=wr.heap[j]?)∧w2.heap.size=wr.heap.size∧Below r wr w2):=by
     have h1:=qCZ (P:=Tryz.prog) (w:=wr) .u32 _ _ _ r _ _ (x:Int) (.int .i64 (U.length:Int)) Tryz.underlying201 Tryz.underlying57 hI.out.2.map (by simpa using mX .u32 U x hm 0 0)
     obtain ⟨h2,h3⟩:=MapKept.heap_set (o':= .map ((xL .u32 0 U).toArray.push {key:= .int .u32 (x:Int),val:= .int .i64 (U.length:Int),born:=U.length}) (U.length+1)) hI.out.2.map
     refine ⟨_,h1,?_,h3,by simp,⟨rfl,rfl,rfl,by simp,fun j hj=>h3 j (by omega)⟩⟩
     have h4:(xL .u32 0 (U++[x])).toArray=(xL .u32 0 U).toArray.push {key:= .int .u32 (x:Int),val:= .int .i64 (U.length:Int),born:=U.length}:=by
      rw [mA];simp
     rw [h4]
     exact h2
    obtain ⟨w2,hput,hw2⟩:=hput
    have HE:Hid (uq f (k+1)=U++[x]):=by show uq f (k+1)=U++[x];rw [uq,HX.out.1,HX.out.2,if_neg hm]
    have HOWN:Hid (w2.ownsRow (r+1) 57 1 (.slice p2 U.length c2) U.length (qKM U)):=jD hI.out.2.own (fun g h1 _=>hw2.out.2.1 g (by omega))
    have hs2:r+1≤w2.heap.size:=by rw [hw2.out.2.2.1];exact hI.out.2.size
    clear hm
    go_wp2_with (at_builtin;refine wpList_append_lies _ rfl _ _ _ rfl (r+1) 57 i5 (.int .u32 0) 1 4 Tryz.underlying124 HI5.out.1 HI5.out.2.1 HI5.out.2.2.1 HI5.out.2.2.2 rfl (by decide) (.slice p2 U.length c2) U.length (qKM U) rfl (HOWN.out.alloc _) ⟨w2.heap.size,0,none⟩ 1 1 [.int .u32 (x:Int)] rfl rfl (fun j u hj=>qB9 w2 _ 57 j u hj) (fun u hu=>by simp at hu;subst hu;rfl) (by omega) (by have:maxLen=9223372036854775807:=rfl;omega) (by omega) (by simp;omega) _ rfl ?_;intro g6 cap6 w6 hown6 hgrow6 hat6 hlt6)
    have HS6:Hid (qJC r w w6 (U++[x]) (.slice (some ⟨g6,0,none⟩) (U++[x]).length cap6) r):=by
     have hB6:Below (r+1) (w2.alloc (.cells #[.int .u32 (x:Int)] 57)) w6:=wU hgrow6 (fun g hg=>(HOWN.out.lt g hg).1) (by simp;omega)
     have hB2:Below (r+1) w2 w6:=((Below.refl _ w2).alloc (by omega) _).trans hB6
     have:=hB2.size
     refine ⟨by simpa [qKM] using hown6,?_,(hI.out.2.bel.trans hw2.out.2.2.2).trans (hB2.mono (by omega)),Nat.le_refl _,by omega⟩
     rw [hB2.block r (by omega),hw2.out.1];simp
    clear hown6 hgrow6 hat6 hlt6 hput
    go_wp2_with fail
    go_roundw
    case rel=>exact ⟨k+1,some ⟨g6,0,none⟩,cap6,by simp,by rw [HE.out];simp,by rw [HE.out];exact ⟨hlt,HS6.out⟩⟩
    case measure=>simp [intOf];omega
  ·have hk:k=n:=by have:=hI.out.1;omega
   have hI':Hid (qJC r w wr (uq f n) (.slice p2 (uq f n).length c2) r):=by have:=hI.out.2;rw [hk] at this;exact this
   rw [hk]
   clear hI
   go_wp2_with fail
   go_ret2
   exact ⟨_,r,rfl,by rw [HRR.out];exact hI'.out⟩
end Go.Proofs.YtkpmalfigmimaaaGreatDoor
