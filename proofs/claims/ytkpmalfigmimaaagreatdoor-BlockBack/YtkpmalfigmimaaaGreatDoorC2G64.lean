import Derived.Test.YtkpmalfigmimaaaGreatDoorQG
import Derived.Test.YtkpmalfigmimaaaGreatDoorP1J32
import Derived.Test.YtkpmalfigmimaaaGreatDoorT1S
import Derived.Deep.AppendLies
import Derived.Deep.CutRange
import Derived.OwnWalk
import Derived.Test.YtkpmalfigmimaaaGreatDoorP1B32
import Derived.Deep.Onto
set_option linter.unusedVariables false
set_option linter.unusedSimpArgs false
set_option maxRecDepth 100000
set_option maxHeartbeats 8000000
namespace Go.Proofs.YtkpmalfigmimaaaGreatDoor
open Go.RowKit
open M
structure tL (bf:(Nat→Nat)→Nat→List Bool) (one:(Nat→Nat)→Nat→List Bool):Prop where
 nil:∀h,bf h 0=[]
 step:∀h k,bf h (k+1)=bf h k++one h k
theorem tL.begins {bf one:(Nat→Nat)→Nat→List Bool} (L:tL bf one) (h:Nat→Nat) (k n:Nat) (hk:k≤n):∃r,bf h n=bf h k++r:=by
 induction n with
 |zero=>exact ⟨[],by rw [show k=0 from by omega];simp⟩
 |succ n ih=>
  by_cases e:k=n+1
  ·exact ⟨[],by rw [e];simp⟩
  ·obtain ⟨r,hr⟩:=ih (by omega)
   exact ⟨r++one h n,by rw [L.step,hr,List.append_assoc]⟩
def qKD (bf:(Nat→Nat)→Nat→List Bool) (R:List Bool) (h:Nat→Nat) (n:Nat):Prop:=(∀i,i<n→h i<18446744073709551616)∧∃r,R=bf h n++r
structure qAH (bf:(Nat→Nat)→Nat→List Bool) (w wr:World) (b:Nat) (s:ByteArray) (g n k a:Nat) (e1:Int) (f:Nat→Nat):Prop where
 row:vP wr g n k f
 rd:Rd wr b 0 s a e1
 only:qJ b 0 3 w wr
 size:g<wr.heap.size
 rng:∀i,i<k→f i<18446744073709551616
 full:∀h,qKD bf (rb s) h n→e1=0∧(rb s).take a=bf h k∧∀i,i<k→f i=h i
theorem qAH.next {bf one:(Nat→Nat)→Nat→List Bool} (L:tL bf one) {w wr w2:World} {b:Nat} {s:ByteArray} {g n k a a':Nat} {e1 e2:Int} {f:Nat→Nat} (hk:k<n) (hg:w.heap.size≤g) (hgb:g≠b) (T:qAH bf w wr b s g n k a e1 f)
  (x:Nat) (hx:x<18446744073709551616) (hR:Rd w2 b 0 s a' e2) (hO:qJ b 0 3 wr w2)
  (hf:e1=0→∀h r,(∀i,i<k→f i=h i)→h k<18446744073709551616→(rb s).drop a=one h k++r→x=h k∧e2=0∧(rb s).take a'=(rb s).take a++one h k):
  qAH bf w (w2.setCell ⟨g,k,none⟩ (.int .u64 (x:Int))) b s g n (k+1) a' e2 (fun i=>if i=k then x else f i):=by
 have hs2:=hO.size
 have hsz:=T.size
 refine ⟨(T.row.ofBlock (hO.block g hsz hgb)).set hk x,hR.setOther' g _ hgb _,(T.only.trans hO).setOther' g _ hg hgb _,by simp [World.setCell];omega,fun i hi=>?_,fun h hB=>?_⟩
 ·by_cases e:i=k
  ·simp [e,hx]
  ·simp [e];exact T.rng i (by omega)
 ·obtain ⟨h1,h2,h3⟩:=T.full h hB
  obtain ⟨hr,r,hRR⟩:=hB
  obtain ⟨r1,h4⟩:=L.begins h (k+1) n (by omega)
  rw [h4,L.step,List.append_assoc,List.append_assoc] at hRR
  have h5:(rb s).drop a=one h k++(r1++r):=by
   have:=List.take_append_drop a (rb s)
   rw [h2] at this
   rw [hRR] at this⊢
   exact List.append_cancel_left this
  obtain ⟨h6,h7,h8⟩:=hf h1 h _ h3 (hr k hk) h5
  refine ⟨h7,by rw [h8,h2,L.step],fun i hi=>?_⟩
  by_cases e:i=k
  ·simp [e,h6]
  ·simp [e];exact h3 i (by omega)
theorem lY:tL (plB 64) (fun h k=>bitsOf (h k) 64):=⟨fun h=>rfl,fun h k=>rfl⟩
theorem sV {w w':World} {b:Nat} {s:ByteArray} {a a':Nat} {e1 e2:Int} {x:Nat} (hx:x<18446744073709551616) (T:Tk w w' b 0 s a e1 a' e2 (bitsOf x 64)) (y:Nat) (r:List Bool) (he:e1=0) (hy:y<18446744073709551616) (hr:(rb s).drop a=bitsOf y 64++r):
  x=y∧e2=0∧(rb s).take a'=(rb s).take a++bitsOf y 64:=by
 have hl:((rb s).drop a).length=64+r.length:=by rw [hr];simp
 rw [List.length_drop] at hl
 have e2:=T.full he (by rw [bitsOf_length];omega)
 have h1:=(T.sound e2).2
 have h2:=take_eq_drop' _ _ a a' h1
 rw [hr] at h2
 have h3:=(pbits_inj y x 64 _ _ (by simpa using hy) (by simpa using hx) h2).1
 exact ⟨h3.symm,e2,by rw [h1,h3]⟩
end Go.Proofs.YtkpmalfigmimaaaGreatDoor
namespace Go.Proofs.YtkpmalfigmimaaaGreatDoor
open Go.RowKit
open M
def nM (bf:(Nat→Nat)→Nat→List Bool) (bs:List Nat) (n:Nat) (w:World) (e:Ending) (w':World):Prop:=
 ∃(g:Nat) (f:Nat→Nat),w.heap.size≤g∧e= .returned (.tuple #[.slice (some ⟨g,0,none⟩) n n,.int .i64 0])∧vP w' g n n f∧(∀i,i<n→f i<18446744073709551616)∧Below w.heap.size w w'∧
  ∀h,qKD bf (rbits bs) h n→∀i,i<n→f i=h i
theorem pO (v:Value) (bs:List Nat) (n:Nat) (w:World) (h:jW w v bs) (hb:∀n∈bs,n<256) (hl:bs.length≤1000000000000) (hn:n≤4096):
  Calls Tryz.prog 114 #[v,.int .i64 n] w (nM (plB 64) bs n w):=by
 have H:=qA h
 have HB:=qA hb
 have HL:=qA hl
 have hmk:=jZ n hn
 clear h hb hl
 go_enter Tryz.func114,Tryz.ntmps114
 go_wp2_with fail
 refine (kJ w v bs H.out).mono ?_
 rintro e w1 ⟨rfl,hw1⟩
 have HR:Hid (Rd w1 w.heap.size 0 (qG bs) 0 0∧w1.heap.size=w.heap.size+1∧Below w.heap.size w w1):=by
  rw [hw1];exact ⟨xZ w bs HL.out,by simp,(Below.refl _ _).alloc (Nat.le_refl _) _⟩
 clear hw1
 obtain ⟨b,hbw⟩:∃b,w.heap.size=b:=⟨_,rfl⟩
 have HBW:=qA hbw
 obtain ⟨g,hg⟩:∃g,w1.heap.size=g:=⟨_,rfl⟩
 have HA:Hid (qAH (plB 64) w1 (w1.alloc (.cells (Array.replicate n (Value.int .u64 0)) 36)) b (qG bs) g n 0 0 0 (fun _=>0)):=by
  have hA:Below w1.heap.size w1 (w1.alloc (.cells (Array.replicate n (Value.int .u64 0)) 36)):=(Below.refl _ w1).alloc (Nat.le_refl _) _
  have hbs:b<w1.heap.size:=by have:=HR.out.2.1;omega
  refine ⟨by rw [←hg];exact vP.new w1 n _,by rw [←hbw];exact HR.out.1.below hA (by omega),⟨hA.os,hA.tape,hA.output,hA.size,fun k hk _=>hA.block k hk,fun j _=>World.cell?_of_block (hA.block b hbs),fun j=>World.frozen?_of_block (w:=w1) (a:=⟨b,j,none⟩) (hA.block b hbs)⟩,by rw [←hg];simp,fun i hi=>by omega,fun h hB=>⟨rfl,by simp [plB],fun i hi=>by omega⟩⟩
 have hgb:g≠b:=by have:=HR.out.2.1;omega
 have HG:Hid (w1.heap.size≤g):=Nat.le_of_eq hg
 rw [hbw]
 clear hbw
 go_upto_region 3 with fail
 (try rw [hg])
 clear hg hmk
 generalize w1.alloc (.cells (Array.replicate n (Value.int .u64 0)) 36)=W0 at*
 go_wp2_with fail
 go_loopw [15] (fun t15 wr=>∃(k a:Nat) (e1:Int) (f:Nat→Nat),t15= .int .i64 (k:Int)∧Hid (k≤n∧qAH (plB 64) w1 wr b (qG bs) g n k a e1 f)) (fun t15 _=>n-(intOf t15).toNat)
 case atStart=>exact ⟨0,0,0,_,rfl,Nat.zero_le _,HA.out⟩
 case round=>
  obtain ⟨k,a,e1,f,rfl,hI⟩:=hrel
  by_cases hlt:k<n
  ·go_wp2_with fail
   refine (kN b 0 (qG bs) a e1 wr hI.out.2.rd).mono ?_
   rintro e w2 ⟨x,a',e2,rfl,hx,T⟩
   have NX:=qAH.next lY hlt HG.out hgb hI.out.2 x hx T.rd T.only (fun he h r hh hk hr=>sV hx T (h k) r he hk hr)
   have RW:=hI.out.2.row.ofBlock (T.only.block g hI.out.2.size hgb)
   have c2:w2.cell? ⟨g,k,none⟩=some (.int .u64 0):=by rw [RW.cell k hlt,if_neg (by omega)];rfl
   have c3:=RW.fz k
   have HNX:=qA NX
   clear NX RW T
   go_wp2_with fail
   go_roundw
   case rel=>exact ⟨k+1,a',e2,_,by simp,hlt,HNX.out⟩
   case measure=>simp [intOf];omega
  ·have hk:k=n:=by have:=hI.out.1;omega
   have hI':Hid (qAH (plB 64) w1 wr b (qG bs) g n n a e1 f):=by have:=hI.out.2;rw [hk] at this;exact this
   go_wp2_with fail
   go_ret2
   refine ⟨g,f,?_,rfl,hI'.out.row,hI'.out.rng,?_,fun h hB i hi=>?_⟩
   ·have:=HR.out.2.1;have:=HG.out;omega
   ·have:=hI'.out.only.below (B:=w.heap.size) (by have:=HBW.out;omega) (by have:=HR.out.2.1;omega)
    exact HR.out.2.2.trans this
   ·exact (hI'.out.full h (by rw [qV bs HB.out];exact hB)).2.2 i hi
end Go.Proofs.YtkpmalfigmimaaaGreatDoor
namespace Go.Proofs.YtkpmalfigmimaaaGreatDoor
open Go.RowKit
open M
theorem sT (b:Nat) (s:ByteArray) (n:Nat) (w:World) (h:Rd w b 0 s 0 0) (hn:n≤4096) (hT:qT w) (hTb:2≠b):
  Calls Tryz.prog 143 #[.pointer (some ⟨b,0,none⟩),.int .i64 n] w (tT w b s n):=by
 have hbs:b<w.heap.size:=block_lt_of_cell h.text
 have hTs:2<w.heap.size:=block_lt_of_cell (hT 0 (by omega))
 have H:=qA h
 have HT:=qA hT
 clear h hT
 have hmk:=jZ n hn
 have hA:Hid (Below w.heap.size w (w.alloc (.cells (Array.replicate n (Value.int .u64 0)) 36))):=(Below.refl _ w).alloc (Nat.le_refl _) _
 by_cases h0:n=0
 ·have hne:((n:Int)==0)=true:=by rw [beq_iff_eq];omega
  have H0:=qA h0
  clear h0
  go_enter Tryz.func143,Tryz.ntmps143
  go_wp2_with fail
  go_ret2
  refine .inr ⟨0,0,fun _=>0,rfl,?_,H.out.below hA.out hbs,hA.out.mono (Nat.le_of_lt hbs),fun i hi=>by have:=H0.out;omega,fun _=>by rw [H0.out];simp [cbn],fun h hB=>⟨rfl,fun i hi=>by have:=H0.out;omega⟩⟩
  rw [H0.out];exact vP.new w 0 _
 have hne:((n:Int)==0)=false:=by rw [beq_eq_false_iff_ne];omega
 have hn0:0<n:=by omega
 have HN:Hid (vP (w.alloc (.cells (Array.replicate n (Value.int .u64 0)) 36)) w.heap.size n 0 (fun _=>0)):=vP.new w n _
 have HR:Hid (Rd (w.alloc (.cells (Array.replicate n (Value.int .u64 0)) 36)) b 0 s 0 0):=H.out.below hA.out hbs
 have hs1:Hid (w.heap.size<(w.alloc (.cells (Array.replicate n (Value.int .u64 0)) 36)).heap.size):=by show _<_;simp
 have hgb:w.heap.size≠b:=by omega
 go_enter Tryz.func143,Tryz.ntmps143
 go_upto_region 4 with fail
 generalize w.alloc (.cells (Array.replicate n (Value.int .u64 0)) 36)=W0 at*
 clear hmk
 go_wp2_with fail
 refine (kB _).mono ?_
 rintro e wy ⟨rfl,hwy⟩
 have hwy:=hwy.symm
 subst hwy
 go_wp2_with fail
 refine (kT b 0 s 0 64 0 W0 HR.out (by omega)).mono ?_
 rintro e w1 ⟨x,a,e1,rfl,hx,T⟩
 have hxM:x<18446744073709551616:=hx
 have x1:IntKind.u64.wrap (x:Int)=(x:Int):=vK hxM
 have HX:=qA hxM
 clear hx hxM
 have e1b:=T.only.block w.heap.size hs1.out hgb
 have R1:vP w1 w.heap.size n 0 (fun _=>0):=HN.out.ofBlock e1b
 have c1:w1.cell? ⟨w.heap.size,0,none⟩=some (.int .u64 0):=R1.cell 0 (by omega)
 have c2:=R1.fz 0
 obtain ⟨g,hg⟩:∃g,w.heap.size=g:=⟨_,rfl⟩
 have HT1:Hid (vP (w1.setCell ⟨w.heap.size,0,none⟩ (.int .u64 (x:Int))) w.heap.size n 1 (fun _=>x)∧Rd (w1.setCell ⟨w.heap.size,0,none⟩ (.int .u64 (x:Int))) b 0 s a e1∧qJ b 0 3 w (w1.setCell ⟨w.heap.size,0,none⟩ (.int .u64 (x:Int)))∧w.heap.size<(w1.setCell ⟨w.heap.size,0,none⟩ (.int .u64 (x:Int))).heap.size):=by
  have O1:qJ b 0 3 w w1:=qJ.trans ⟨hA.out.os,hA.out.tape,hA.out.output,hA.out.size,fun k hk _=>hA.out.block k hk,fun j _=>World.cell?_of_block (hA.out.block b hbs),fun j=>World.frozen?_of_block (w:=w) (w':=W0) (a:=⟨b,j,none⟩) (hA.out.block b hbs)⟩ T.only
  refine ⟨(R1.set (by omega) x).congr fun i hi=>by rw [if_pos (by omega)],T.rd.setOther' _ 0 hgb _,O1.setOther' _ 0 (Nat.le_refl _) hgb _,?_⟩
  have:=T.only.size
  have:=hs1.out
  simp [World.setCell];omega
 have HTS:=qA (And.intro T.sound T.full)
 have c3:=qF w1 w.heap.size 0 (.int .u64 (x:Int)) _ c1
 clear R1 T e1b
 rw [hg] at c1 c2 c3 HT1 hgb⊢
 go_upto_region 5 with fail
 generalize w1.setCell ⟨g,0,none⟩ (.int .u64 (x:Int))=W1 at*
 clear c1 c2
 have hN2:=heap_alloc_new W1 (.cells #[.int .u64 (x:Int),.int .i64 0,.int .i64 0] 226)
 have B2:Below W1.heap.size W1 (W1.alloc (.cells #[.int .u64 (x:Int),.int .i64 0,.int .i64 0] 226)):=(Below.refl _ _).alloc (Nat.le_refl _) _
 have HCN:Hid (qI7 w (W1.alloc (.cells #[.int .u64 (x:Int),.int .i64 0,.int .i64 0] 226)) b W1.heap.size s g n 0 a e1 (fun _=>x)∧g<W1.heap.size∧qT (W1.alloc (.cells #[.int .u64 (x:Int),.int .i64 0,.int .i64 0] 226))):=by
  have hgs:=HT1.out.2.2.2
  have tw:jB b W1.heap.size w (W1.alloc (.cells #[.int .u64 (x:Int),.int .i64 0,.int .i64 0] 226)):=(jB.ofB HT1.out.2.2.1).trans (jB.ofBelow B2)
  have hbW:b<W1.heap.size:=by omega
  refine ⟨⟨HT1.out.1.ofBlock (B2.block g (by omega)),HT1.out.2.1.below B2 hbW,⟨?_,?_,?_,fun i=>frozen_of_row _ _ _ _ _ hN2⟩,tw,?_,fun i hi=>HX.out,fun he=>?_,?_⟩,by omega,tw.tab HT.out hTb (by omega)⟩
  ·rw [cell_of_row _ _ _ _ _ _ hN2];rfl
  ·rw [cell_of_row _ _ _ _ _ _ hN2];rfl
  ·rw [cell_of_row _ _ _ _ _ _ hN2];rfl
  ·have:=B2.size;omega
  ·rw [cbn_one,(HTS.out.1 he).2];simp
  ·rintro h ⟨hr,r,hR⟩
   obtain ⟨r1,h1⟩:=cbn_prefix 64 6 h 1 n (by omega)
   rw [h1,cbn_one,List.append_assoc] at hR
   have he:e1=0:=HTS.out.2 (by trivial) (by rw [hR];simp)
   refine ⟨he,fun i hi=>?_⟩
   obtain rfl:i=0:=by omega
   have h2:=take_eq_drop' _ _ 0 a (by rw [(HTS.out.1 he).2])
   rw [List.drop_zero,hR] at h2
   exact ((pbits_inj _ _ 64 _ _ (hr 0 (by omega)) HX.out h2).1).symm
 go_wp2_with fail
 obtain ⟨c,hcw⟩:∃c,W1.heap.size=c:=⟨_,rfl⟩
 rw [hcw] at HCN⊢
 clear hN2 B2 c3 hcw
 generalize W1.alloc (.cells #[.int .u64 (x:Int),.int .i64 0,.int .i64 0] 226)=W2 at*
 have hgc:g<c:=HCN.out.2.1
 have hbc:c≠b:=by omega
 go_loopw [4,7] (fun t4 t7 wr=>∃(k a:Nat) (e1:Int) (f:Nat→Nat),t4= .slice (some ⟨g,0,none⟩) n n∧t7= .int .i64 ((k:Int)+1)∧Hid (k<n)∧Hid (qI7 w wr b c s g n k a e1 f∧qT wr)) (fun _ t7 _=>n-(intOf t7).toNat)
 case atStart=>exact ⟨0,a,e1,_,rfl,rfl,hn0,HCN.out.1,HCN.out.2.2⟩
 case round=>
  clear HT1 HX HCN HTS
  obtain ⟨k,a,e1,f,rfl,rfl,hk,hI⟩:=hrel
  by_cases hlt:k+1<n
  ·go_wp2_with fail
   refine (qDZ b c s a e1 (f k) (win 64 6 f k).1 (win 64 6 f k).2 wr hI.out.1.rd hI.out.1.col hbc (win_win 64 6 f (by omega) k (fun j hj=>hI.out.1.rng j (by omega))) (hI.out.1.rng k (by omega)) hI.out.2 hTb (by omega)).mono ?_
   rintro e w2 ⟨ok,x,a2,e2,rfl,R2,T2,hx,hok,hfull⟩
   have HU:=qA hx
   have HS:=qA hok
   have HF:=qA hfull
   have HR2:=qA R2
   have HT2:=qA T2
   clear hx hok hfull R2 T2
   cases ok with
   |false=>
    go_wp2_with fail
    go_ret2
    refine .inl ⟨rfl,(hI.out.1.two.trans HT2.out).below (Nat.le_refl _) (by omega) (by omega),hI.out.1.none hlt fun h1 y r hy hr=>?_⟩
    have:=(HF.out h1 y r hy hr).1
    cases this
   |true=>
    have NX:=qI7.next hlt (Nat.le_of_eq hg) hgb (by omega) hI.out.1 x HU.out HR2.out HT2.out (HS.out rfl).1 (HS.out rfl).2 (fun h y r hy hr=>⟨(HF.out h y r hy hr).2.1,(HF.out h y r hy hr).2.2⟩)
    obtain ⟨q,hq⟩:∃q:Nat,f k^^^x=q:=⟨_,rfl⟩
    have cq:w2.cell? ⟨c,0,none⟩=some (.int .u64 (q:Int)):=by rw [←hq];exact (HS.out rfl).1.ahead
    have RW:=hI.out.1.row.ofBlock (HT2.out.block g hI.out.1.size hgb (by omega))
    have c2:w2.cell? ⟨g,k+1,none⟩=some (.int .u64 0):=by rw [RW.cell (k+1) hlt,if_neg (by omega)];rfl
    have c3:=RW.fz (k+1)
    rw [hq] at NX
    have HNX:=qA NX
    have HTb2:Hid (qT w2):=HT2.out.tab hI.out.2 hTb (by omega)
    clear NX hq RW
    go_wp2_with fail
    go_roundw
    case rel=>
     refine ⟨k+1,a2,e2,_,rfl,by simp,hlt,HNX.out,?_⟩
     exact fun j hj=>by
      rw [World.cell?_of_block (w:=w2) (Below.heap_setCell _ _ _ _ (show 2≠g by omega))];exact HTb2.out j hj
    case measure=>simp [intOf];omega
  ·go_wp2_with fail
   go_ret2
   obtain rfl:n=k+1:=by have:=hk.out;omega
   refine .inr ⟨a,e1,f,by rw [hg];rfl,by rw [hg];exact hI.out.1.row,hI.out.1.rd,hI.out.1.two.below (Nat.le_refl _) (by omega) (by omega),hI.out.1.rng,hI.out.1.sound,hI.out.1.full⟩
end Go.Proofs.YtkpmalfigmimaaaGreatDoor
namespace Go.Proofs.YtkpmalfigmimaaaGreatDoor
open Go.RowKit
open M
def gU (bs:List Nat) (h:Nat→Nat) (n:Nat):Prop:=(∀i,i<n→h i<18446744073709551616)∧packed (cbn 64 6 h n)=bs
theorem vY {bs:List Nat} {h:Nat→Nat} {n:Nat} (hP:gU bs h n):yS (rbits bs) h n:=by
 obtain ⟨h1,h2⟩:=hP
 exact ⟨h1,_,by rw [←h2,rbits_packed]⟩
def nK (w:World) (bs:List Nat) (n:Nat) (e:Ending) (w':World):Prop:=
 (e= .returned (.tuple #[.slice none 0 0,.int .i64 71])∧Below w.heap.size w w'∧¬∃h,gU bs h n)∨
  ∃(g:Nat) (f:Nat→Nat),e= .returned (.tuple #[.slice (some ⟨g,0,none⟩) n n,.int .i64 0])∧w.heap.size≤g∧vP w' g n n f∧Below w.heap.size w w'∧gU bs f n∧
   ∀h,yS (rbits bs) h n→∀i,i<n→f i=h i
theorem qJD {s:ByteArray} {bs:List Nat} {n a:Nat} {e1:Int} {f h:Nat→Nat} (hb:∀n∈bs,n<256) (hs:s=qG bs) (hle:a≤8*s.size) (sound:e1=0→(rb s).take a=cbn 64 6 f n) (full:∀h,yS (rb s) h n→e1=0∧∀i,i<n→f i=h i) (hP:gU bs h n):pU s a e1=0:=by
 subst hs
 obtain ⟨h1,h2⟩:=full h (by rw [qV bs hb];exact vY hP)
 subst h1
 have h3:=sound rfl
 rw [cbn_congr _ _ _ _ _ h2] at h3
 have h4:=congrArg List.length h3
 rw [List.length_take,jN,Nat.min_eq_left hle] at h4
 obtain ⟨_,hbs⟩:=hP
 rw [←hbs,h4]
 exact pB _
theorem qJV {s:ByteArray} {bs:List Nat} {n a:Nat} {e1:Int} {f:Nat→Nat} (hb:∀n∈bs,n<256) (hs:s=qG bs) (hle:a≤8*s.size) (rng:∀i,i<n→f i<18446744073709551616) (sound:e1=0→(rb s).take a=cbn 64 6 f n) (hE:pU s a e1=0):gU bs f n:=by
 subst hs
 refine ⟨rng,?_⟩
 unfold pU at hE
 by_cases he:e1=0
 ·rw [if_pos he] at hE
  have hs:(qG bs).size=bs.length:=by simp
  rw [hs,qV bs hb] at hE
  by_cases h8:8≤8*bs.length-a
  ·rw [if_pos h8] at hE;cases hE
  ·rw [if_neg h8] at hE
   by_cases hz:num ((rbits bs).drop a)=0
   ·rw [hs] at hle
    have h1:=sound he
    rw [qV bs hb] at h1
    rw [←h1]
    exact wE bs hb a hle (by omega) hz
   ·rw [if_neg hz] at hE;cases hE
 ·rw [if_neg he] at hE;exact absurd hE he
theorem qA7 (v:Value) (bs:List Nat) (n:Nat) (w:World) (h:jW w v bs) (hb:∀n∈bs,n<256) (hl:bs.length≤1000000000000) (hn:n≤4096) (hT:qT w):
  Calls Tryz.prog 115 #[v,.int .i64 n] w (nK w bs n):=by
 have H:=qA h
 have HB:=qA hb
 have HL:=qA hl
 have HT:=qA hT
 have hTs:2<w.heap.size:=block_lt_of_cell (hT 0 (by omega))
 clear h hb hl hT
 go_enter Tryz.func115,Tryz.ntmps115
 go_wp2_with fail
 refine (kJ w v bs H.out).mono ?_
 rintro e w1 ⟨rfl,hw1⟩
 have HR:Hid (Rd w1 w.heap.size 0 (qG bs) 0 0):=by rw [hw1];exact xZ w bs HL.out
 have HB1:Hid (Below w.heap.size w w1):=by rw [hw1];exact (Below.refl _ _).alloc (Nat.le_refl _) _
 clear hw1
 go_wp2_with fail
 refine (sT w.heap.size (qG bs) n w1 HR.out hn (HT.out.below HB1.out) (by omega)).mono ?_
 rintro e w2 (⟨rfl,B2,hno⟩|⟨a,e1,f,rfl,U2,R2,B2,rng,sound,full⟩)
 ·have HB2:Hid (Below w.heap.size w w2):=HB1.out.trans B2
  have HNO:=qA hno
  clear hno B2
  go_wp2_with fail
  go_ret2
  refine .inl ⟨rfl,HB2.out,fun ⟨h,hP⟩=>HNO.out ⟨h,?_⟩⟩
  rw [qV bs HB.out];exact vY hP
 ·have HB2:Hid (Below w.heap.size w w2):=HB1.out.trans B2
  have hg1:Hid (w.heap.size≤w1.heap.size):=HB1.out.size
  have HU:=qA U2
  have HA:=qA (And.intro rng (And.intro sound full))
  have hle:=qA R2.le
  have HR2:=qA R2
  clear U2 B2 rng sound full R2
  go_wp2_with fail
  refine (sN w.heap.size 0 (qG bs) a e1 w2 HR2.out).mono ?_
  rintro e w3 ⟨rfl,m,hw3⟩
  have HB3:Hid (Below w.heap.size w w3):=by rw [hw3];exact qN HB2.out m
  have HU3:Hid (vP w3 w1.heap.size n n f):=by rw [hw3];exact ⟨HU.out.cell,HU.out.fz,HU.out.blk⟩
  clear hw3
  by_cases hE:pU (qG bs) a e1=0
  ·rw [hE]
   have HE:=qA hE
   clear hE
   go_wp2_with fail
   go_ret2
   refine .inr ⟨w1.heap.size,f,rfl,hg1.out,HU3.out,HB3.out,qJV HB.out rfl hle.out HA.out.1 HA.out.2.1 HE.out,fun h hB=>(HA.out.2.2 h (by rw [qV bs HB.out];exact hB)).2⟩
  ·have hE':(pU (qG bs) a e1 !=0)=true:=by simp [hE]
   have HE:=qA hE
   clear hE
   go_wp2_with fail
   go_ret2
   exact .inl ⟨rfl,HB3.out,fun ⟨h,hP⟩=>HE.out (qJD HB.out rfl hle.out HA.out.2.1 HA.out.2.2 hP)⟩
end Go.Proofs.YtkpmalfigmimaaaGreatDoor
namespace Go.Proofs.YtkpmalfigmimaaaGreatDoor
open Go.RowKit
open M
theorem qFC:∃i5,Tryz.prog.info? 36=some i5∧i5.zero=some (.int .u64 0)∧i5.size=1∧i5.bytes=64/8:=by
 have hz:(Tryz.prog.info? 36).bind (·.zero)=some (.int .u64 0):=by kernel_rfl
 have hs:(Tryz.prog.info? 36).map (·.size)=some 1:=by kernel_rfl
 have hb:(Tryz.prog.info? 36).map (·.bytes)=some (64/8):=by kernel_rfl
 cases hi:Tryz.prog.info? 36 with
 |none=>simp [hi] at hs
 |some i5=>
  simp only [hi,Option.bind_some,Option.map_some,Option.some.injEq] at hz hs hb
  exact ⟨i5,rfl,hz,hs,hb⟩
def jR (i:Nat) (f:Nat→Nat):List Value:=(List.range i).map fun j=> .int .u64 (f j:Int)
theorem wO {w w':World} {row:Option Nat} {B:Nat} (hg:w.grownBy w' row) (hr:∀g,row=some g→B≤g) (hB:B≤w.heap.size):Below B w w':=
 ⟨hg.os,hg.tape,hg.output,hg.size,fun k hk=>hg.block k (by omega) (fun e=>by have:=hr k e.symm;omega)⟩
def qEK (B:Nat) (w0:World) (f:Nat→Nat) (i:Nat) (v:Value) (wr:World):Prop:=wr.ownsRow B 36 1 v i (jR i f)∧Below B w0 wr∧B≤w0.heap.size
theorem qEK.row {B:Nat} {w0 wr:World} {f:Nat→Nat} {i:Nat} {v:Value} (h:qEK B w0 f i v wr):∃ad cap,v= .slice ad i cap∧i≤cap∧qZ wr ad i f:=by
 rcases h.1.2 with ⟨h1,h2⟩|⟨g,cap2,cur,h1,hb,hg,hc2,hm2,hs,ht⟩
 ·exact ⟨none,0,by rw [h1,h2],by omega,by rw [h2];exact qZ.nil _ _ _⟩
 ·refine ⟨_,cap2,h1,hc2,fun _=>⟨g,0,rfl,fun j hj=>?_⟩⟩
  have e:(jR i f)[j]?=some (.int .u64 (f j:Int)):=by simp [jR,hj]
  rw [Nat.zero_add,cell_of_row wr g j cur _ (0,0) hg,←e,←ht,List.getElem?_take,if_pos (by omega)]
  simp
end Go.Proofs.YtkpmalfigmimaaaGreatDoor
namespace Go.Proofs.YtkpmalfigmimaaaGreatDoor
open Go.RowKit
open M
theorem lJ {R l r:List Bool} {a a':Nat} (h:R.take a'=R.take a++l) (hr:R.drop a=l++r):R.drop a'=r:=by
 have h1:=List.take_append_drop a' R
 have h2:=List.take_append_drop a R
 rw [h] at h1
 rw [hr,←List.append_assoc] at h2
 exact List.append_cancel_left (h1.trans h2.symm)
structure Hk {α:Type} (lay:α→List Bool) (ok:α→Prop) (w w':World) (b off:Nat) (s:ByteArray) (a:Nat) (e0:Int) (x:α) (a':Nat) (e1:Int):Prop where
 rd:Rd w' b off s a' e1
 only:qJ b off (off+3) w w'
 hit:e0=0→∀y r,ok y→(rb s).drop a=lay y++r→x=y∧e1=0∧(rb s).take a'=(rb s).take a++lay y
theorem Hk.drop {α:Type} {lay:α→List Bool} {ok:α→Prop} {w w':World} {b off:Nat} {s:ByteArray} {a:Nat} {e0:Int} {x:α} {a':Nat} {e1:Int} (h:Hk lay ok w w' b off s a e0 x a' e1) (he:e0=0) (y:α) (r:List Bool) (hy:ok y) (hr:(rb s).drop a=lay y++r):
  x=y∧e1=0∧(rb s).drop a'=r:=by
 obtain ⟨h1,h2,h3⟩:=h.hit he y r hy hr
 exact ⟨h1,h2,lJ h3 hr⟩
def qIQ (n:Nat) (w:World) (b off:Nat) (s:ByteArray) (a:Nat) (e0:Int) (e:Ending) (w':World):Prop:=
 ∃(x a':Nat) (e1:Int),e= .returned (.int .u64 (x:Int))∧x<2^n∧Hk (fun y=>bitsOf y n) (fun y=>y<2^n) w w' b off s a e0 x a' e1
theorem yV {w w':World} {b off n:Nat} {s:ByteArray} {a a':Nat} {e0 e1:Int} {x:Nat} (ha:a≤8*s.size) (hx:x<2^n) (T:Tk w w' b off s a e0 a' e1 (bitsOf x n)):Hk (fun y=>bitsOf y n) (fun y=>y<2^n) w w' b off s a e0 x a' e1:=by
 refine ⟨T.rd,T.only,fun he y r hy hr=>?_⟩
 have hr':(rb s).drop a=bitsOf y n++r:=hr
 have hl:((rb s).drop a).length=n+r.length:=by rw [hr'];simp
 rw [List.length_drop] at hl
 have e2:e1=0:=T.full he (by rw [bitsOf_length];rw [jN] at hl⊢;omega)
 have h1:=(T.sound e2).2
 have h2:=take_eq_drop' _ _ a a' h1
 rw [hr'] at h2
 have h3:=(pbits_inj y x n _ _ hy hx h2).1
 exact ⟨h3.symm,e2,by rw [h1,h3]⟩
theorem zJ (b off:Nat) (s:ByteArray) (a n:Nat) (e0:Int) (w:World) (h:Rd w b off s a e0) (hn:n≤64):
  Calls Tryz.prog 76 #[.pointer (some ⟨b,off,none⟩),.int .i64 n] w (qIQ n w b off s a e0):=
 (kT b off s a n e0 w h hn).mono fun e w' ⟨x,a',e1,h1,h2,T⟩=>⟨x,a',e1,h1,h2,yV h.le h2 T⟩
def qKJ (w:World) (b off:Nat) (s:ByteArray) (a:Nat) (e0:Int) (e:Ending) (w':World):Prop:=
 ∃(x a':Nat) (e1:Int),e= .returned (.int .u64 (x:Int))∧x<18446744073709551616∧Hk varB (fun y=>y<18446744073709551616) w w' b off s a e0 x a' e1
theorem dJ (b off:Nat) (s:ByteArray) (a:Nat) (e0:Int) (w:World) (h:Rd w b off s a e0):
  Calls Tryz.prog 134 #[.pointer (some ⟨b,off,none⟩)] w (qKJ w b off s a e0):=by
 by_cases he:e0=0
 ·subst he
  rcases gN s a with ⟨x,en,hr,hx,hen,ht⟩|⟨c,hc,hr⟩
  ·refine (qG4 b off s a x en w h hr (hen h.le)).mono fun e w' ⟨h1,h2,h3⟩=>?_
   refine ⟨x,en,0,h1,hx,h2,h3,fun _ y r hy hd=>?_⟩
   rw [hd,varB_read y a r hy] at hr
   simp only [Prod.mk.injEq] at hr
   exact ⟨hr.1.symm,rfl,by rw [ht,←hr.1]⟩
  ·refine (mV b off s a c w h hr hc).mono fun e w' ⟨h1,h2,h3⟩=>?_
   refine ⟨0,a,c,h1,by omega,h2,h3,fun _ y r hy hd=>?_⟩
   rw [hd,varB_read y a r hy] at hr
   simp only [Prod.mk.injEq] at hr
   omega
 ·refine (mU b off s a e0 w h (by rw [beq_eq_false_iff_ne];exact he)).mono fun e w' ⟨h1,h2,h3⟩=>?_
  exact ⟨0,a,e0,h1,by omega,h2,h3,fun h=>absurd h he⟩
def qKK (w:World) (b off:Nat) (s:ByteArray) (a:Nat) (e0:Int) (e:Ending) (w':World):Prop:=
 ∃(x:Int) (a':Nat) (e1:Int),e= .returned (.int .i64 x)∧(-9223372036854775808≤x∧x≤9223372036854775807)∧Hk (fun y=>varB (zig y)) (fun y=> -9223372036854775808≤y∧y≤9223372036854775807) w w' b off s a e0 x a' e1
theorem qC9 (b off:Nat) (s:ByteArray) (a:Nat) (e0:Int) (w:World) (h:Rd w b off s a e0):
  Calls Tryz.prog 138 #[.pointer (some ⟨b,off,none⟩)] w (qKK w b off s a e0):=by
 by_cases he:e0=0
 ·subst he
  rcases gN s a with ⟨x,en,hr,hx,hen,ht⟩|⟨c,hc,hr⟩
  ·refine (qBK b off w x hx _ (qG4 b off s a x en w h hr (hen h.le))).mono fun e w' ⟨h1,h2,h3⟩=>?_
   refine ⟨zag x,en,0,h1,uV x hx,h2,h3,fun _ y r hy hd=>?_⟩
   rw [hd,varB_read (zig y) a r (qGM y hy.1 hy.2)] at hr
   simp only [Prod.mk.injEq] at hr
   exact ⟨by rw [←hr.1,qK8],rfl,by rw [ht,←hr.1]⟩
  ·refine (qBK b off w 0 (by omega) _ (mV b off s a c w h hr hc)).mono fun e w' ⟨h1,h2,h3⟩=>?_
   refine ⟨zag 0,a,c,h1,uV 0 (by omega),h2,h3,fun _ y r hy hd=>?_⟩
   rw [hd,varB_read (zig y) a r (qGM y hy.1 hy.2)] at hr
   simp only [Prod.mk.injEq] at hr
   omega
 ·refine (qBK b off w 0 (by omega) _ (mU b off s a e0 w h (by rw [beq_eq_false_iff_ne];exact he))).mono fun e w' ⟨h1,h2,h3⟩=>?_
  exact ⟨zag 0,a,e0,h1,uV 0 (by omega),h2,h3,fun h=>absurd h he⟩
end Go.Proofs.YtkpmalfigmimaaaGreatDoor
namespace Go.Proofs.YtkpmalfigmimaaaGreatDoor
open Go.RowKit
open M
def nB (bf:(Nat→Nat)→Option (List Bool)) (bs:List Nat) (n:Nat) (h:Nat→Nat):Prop:=(∀i,i<n→h i<18446744073709551616)∧(n=0→bs=[])∧(0<n→∃l r,bf h=some l∧rbits bs=l++r)
def gW (bf:(Nat→Nat)→Option (List Bool)) (bs:List Nat) (n:Nat) (w:World) (e:Ending) (w':World):Prop:=
 (∃c:Int,c≠0∧e= .returned (.tuple #[.slice none 0 0,.int .i64 c])∧Below w.heap.size w w'∧∀h,nB bf bs n h→False)∨
 ∃(v:Value) (f:Nat→Nat),e= .returned (.tuple #[v,.int .i64 0])∧qEK w.heap.size w f n v w'∧(∀i,i<n→f i<18446744073709551616)∧∀h,nB bf bs n h→∀i,i<n→f i=h i
theorem vP.owns {w:World} {g n:Nat} {f:Nat→Nat} {B:Nat} (h:vP w g n n f) (hB:B≤g) (hn:n≤4096):w.ownsRow B 36 1 (.slice (some ⟨g,0,none⟩) n n) n (jR n f):=by
 obtain ⟨cur,h1,h2⟩:=h.blk
 refine ⟨by simp [jR],.inr ⟨g,n,cur,rfl,hB,h1,Nat.le_refl _,by have:maxLen=9223372036854775807:=rfl;omega,by omega,?_⟩⟩
 apply List.ext_getElem?
 intro i
 rw [Nat.mul_one,List.take_of_length_le (by simp;omega)]
 by_cases hi:i<n
 ·have h3:=h.cell i hi
  rw [cell_of_row w g i cur _ (0,0) h1,if_pos hi] at h3
  simp [jR,hi] at h3⊢
  exact h3
 ·rw [List.getElem?_eq_none (by simp;omega),List.getElem?_eq_none (by simp [jR];omega)]
theorem uU {bf:(Nat→Nat)→Nat→List Bool} {bs:List Nat} {n:Nat} {w:World} {e:Ending} {w':World} (h0:∀h,bf h 0=[]) (hn:n≤4096) (h:nM bf bs n w e w'):gW (fun f=>some (bf f n)) bs n w e w':=by
 obtain ⟨g,f,h1,h2,h3,h4,h5,h6⟩:=h
 refine .inr ⟨_,f,h2,⟨h3.owns h1 hn,h5,Nat.le_refl _⟩,h4,fun h hL i hi=>?_⟩
 obtain ⟨l,r,q1,q2⟩:=hL.2.2 (by omega)
 simp only [Option.some.injEq] at q1
 exact h6 h ⟨hL.1,r,by rw [q1];exact q2⟩ i hi
theorem jF {w w':World} {base:Nat} {t:TypeId} {size:Nat} {v:Value} {n:Nat} {xs:List Value} (h:w.ownsRow base t size v n xs) (hk:∀g,base≤g→g<w.heap.size→w'.heap[g]?=w.heap[g]?):w'.ownsRow base t size v n xs:=by
 obtain ⟨h1,h2⟩:=h
 refine ⟨h1,?_⟩
 rcases h2 with h2|⟨g,cap,cur,rfl,h4,h5,h6⟩
 ·exact .inl h2
 ·exact .inr ⟨g,cap,cur,rfl,h4,(hk g h4 (qB h5)).trans h5,h6⟩
theorem qBA (c:Nat) (h:c≤4096) (w:World):
  (Instr.makeSlice 107 (.int .i64 0) (.int .i64 (c:Int))).run Tryz.prog w= .ok (.slice (some ⟨w.heap.size,0,none⟩) 0 c) (w.alloc (.cells (Array.replicate c (Value.int .u64 0)) 36)):=by
 obtain ⟨i,hi,hz,hs,hb⟩:=qFC
 rw [run_make w 107 36 i _ Tryz.underlying107 hi hz .i64 .i64 0 (c:Int) (by omega) (by omega) (by rw [hb];omega) (by omega)]
 have e:madeCells (Value.int .u64 0).cells ((c:Int).toNat*i.size)=Array.replicate c (Value.int .u64 0):=by
  rw [hs]
  apply Array.ext
  ·simp [madeCells]
  ·intro j h1 h2
   simp [madeCells,Value.cells,Nat.mod_one]
 rw [e];simp
theorem qBT (k c x:Nat) (f:Nat→Nat):jR k f++List.replicate c (.int .u64 (x:Int))=jR (k+c) (fun i=>if i<k then f i else x):=by
 apply List.ext_getElem?
 intro i
 by_cases h1:i<k
 ·rw [List.getElem?_append_left (by simp [jR,h1])]
  simp [jR,h1,show i<k+c from by omega]
 ·have hl:(jR k f).length=k:=by simp [jR]
  rw [List.getElem?_append_right (by rw [hl];omega),hl]
  by_cases h2:i<k+c
  ·rw [List.getElem?_replicate,if_pos (by omega)]
   simp [jR,h1,h2]
  ·rw [List.getElem?_eq_none (by simp [jR];omega),List.getElem?_eq_none (by simp [jR];omega)]
end Go.Proofs.YtkpmalfigmimaaaGreatDoor
