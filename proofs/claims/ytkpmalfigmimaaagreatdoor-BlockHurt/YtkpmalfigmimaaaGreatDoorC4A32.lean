import Derived.Test.YtkpmalfigmimaaaGreatDoorC2H32
import Derived.Test.YtkpmalfigmimaaaGreatDoorC2E32
import Derived.Test.YtkpmalfigmimaaaGreatDoorC1Q32
import Derived.Test.YtkpmalfigmimaaaGreatDoorC2G64
import Derived.Test.YtkpmalfigmimaaaGreatDoorC3G32
import Derived.Test.YtkpmalfigmimaaaGreatDoorC1L32
import Derived.Lib.Bytes
set_option linter.unusedVariables false
set_option linter.unusedSimpArgs false
set_option maxRecDepth 100000
set_option maxHeartbeats 8000000
namespace Go.Proofs.YtkpmalfigmimaaaGreatDoor
open Go.RowKit
open M
structure qLR (w wr:World) (b:Nat) (s:ByteArray) (n k a:Nat) (e1:Int) (f:Nat→Nat) (v:Value):Prop where
 own:wr.ownsRow (b+1) 57 1 v k (jS k f)
 rd:Rd wr b 0 s a e1
 bel:Below b w wr
 size:b+1≤wr.heap.size
 rng:∀i,i<k→f i<4294967296
 full:∀h:Nat→Nat,(∀i,i<n→h i<4294967296)→(∃r,rb s=rnB 32 h n 0 n++r)→e1=0∧(∃r,(rb s).drop a=rnB 32 h (n-k) k (n-k)++r)∧∀i,i<k→f i=h i
theorem qGN (h:Nat→Nat) (n k:Nat) (hk:k<n):∃A,0<A∧A≤n-k∧(∀i,i<A→h (k+i)=h k)∧rnB 32 h (n-k) k (n-k)=bitsOf (h k) 32++(varB (A-1)++rnB 32 h (n-(k+A)) (k+A) (n-(k+A))):=by
 obtain ⟨m,hm⟩:∃m,n-k=m+1:=⟨n-k-1,by omega⟩
 rw [hm]
 have h1:=zY h k m
 have h2:=zH h (h k) k (m+1)
 refine ⟨qI h (h k) k (m+1),h1,h2,fun i hi=>dH h (h k) k (m+1) i hi,?_⟩
 conv=>lhs;rw [rnB]
 rw [List.append_assoc,show n-(k+qI h (h k) k (m+1))=m+1-qI h (h k) k (m+1) from by omega,vH 32 h m (m+1-qI h (h k) k (m+1)) _ _ (by omega) (Nat.le_refl _)]
theorem mU (u:Value) (bs:List Nat) (n:Nat) (w:World) (h:jQ w u bs) (hb:∀n∈bs,n<256) (hl:bs.length≤1000000000000) (hn:n≤4096):
  Calls Tryz.prog 110 #[u,.int .i64 n] w (pC (fun f=>some (rnB 32 f n 0 n)) bs n w):=by
 have H:=qA h
 have HB:=qA hb
 have HL:=qA hl
 have hmk:=qBM n hn
 clear h hb hl
 go_enter Tryz.func110,Tryz.ntmps110
 go_wp2_with fail
 refine (kI w u bs H.out).mono ?_
 rintro e w1 ⟨rfl,hw1⟩
 have HR:Hid (Rd w1 w.heap.size 0 (qG bs) 0 0∧w1.heap.size=w.heap.size+1∧Below w.heap.size w w1):=by
  rw [hw1];exact ⟨xY w bs HL.out,by simp,(Below.refl _ _).alloc (Nat.le_refl _) _⟩
 clear hw1
 obtain ⟨b,hbw⟩:∃b,w.heap.size=b:=⟨_,rfl⟩
 have HBW:=qA hbw
 obtain ⟨g,hg⟩:∃g,w1.heap.size=g:=⟨_,rfl⟩
 have HA:Hid (qLR w (w1.alloc (.cells (Array.replicate n (Value.int .u32 0)) 57)) b (qG bs) n 0 0 0 (fun _=>0) (.slice (some ⟨g,0,none⟩) 0 n)):=by
  have hA:Below w1.heap.size w1 (w1.alloc (.cells (Array.replicate n (Value.int .u32 0)) 57)):=(Below.refl _ w1).alloc (Nat.le_refl _) _
  have hs:=HR.out.2.1
  refine ⟨?_,by rw [←hbw];exact HR.out.1.below hA (by omega),(by rw [←hbw];exact HR.out.2.2.trans (hA.mono (by omega))),by simp;omega,fun i hi=>by omega,fun h hr hB=>⟨rfl,by simpa using hB,fun i hi=>by omega⟩⟩
  rw [←hg]
  exact World.ownsRow_made w1 _ n (by omega) (by have:maxLen=9223372036854775807:=rfl;omega) (by simp)
 rw [hbw]
 clear hbw
 go_upto_region 3 with fail
 (try rw [hg])
 clear hg hmk
 generalize w1.alloc (.cells (Array.replicate n (Value.int .u32 0)) 57)=W0 at*
 have HU:Hid ((∀h,nH (fun f=>some (rnB 32 f n 0 n)) bs n h→0<n→(∀i,i<n→h i<4294967296)∧∃r,rb (qG bs)=rnB 32 h n 0 n++r)):=fun h hL h0=>by
  obtain ⟨l,r,q1,q2⟩:=hL.2.2 h0
  simp only [Option.some.injEq] at q1
  exact ⟨hL.1,r,by rw [qU bs HB.out,q1];exact q2⟩
 go_loopw [7] (fun t7 wr=>∃(k a:Nat) (e1:Int) (f:Nat→Nat) (p:Option Addr) (cp:Nat),t7= .slice p k cp∧Hid (k≤n∧qLR w wr b (qG bs) n k a e1 f (.slice p k cp))) (fun t7 _=>n-vI t7)
 case atStart=>exact ⟨0,0,0,_,_,_,rfl,Nat.zero_le _,HA.out⟩
 case round=>
  obtain ⟨k,a,e1,f,p,cp,rfl,hI⟩:=hrel
  by_cases hlt:k<n
  ·obtain ⟨i5,Hi⟩:=qFX
   have HI5:=qA Hi
   clear Hi
   go_wp2_with fail
   refine (kK b 0 (qG bs) a e1 wr hI.out.2.rd).mono ?_
   rintro e w2 ⟨x,a2,e2,rfl,hx,T⟩
   have HK2:Hid (Hk (fun y=>bitsOf y 32) (fun y=>y<2^32) wr w2 b 0 (qG bs) a e1 x a2 e2):=yW hI.out.2.rd.le hx T
   clear T
   go_wp2_with fail
   refine (dS b 0 (qG bs) a2 e2 w2 HK2.out.rd).mono ?_
   rintro e w3 ⟨y,a3,e3,rfl,hy,T3⟩
   have HK3:=qA T3
   clear T3
   have HO:Hid (qJ b 0 3 wr w3∧w3.ownsRow (b+1) 57 1 (.slice p k cp) k (jS k f)∧Below b w w3∧b+1≤w3.heap.size):=by
    have h1:=HK2.out.only.trans HK3.out.only
    have h2:=hI.out.2
    have h3:=h1.size
    have h4:=h2.size
    exact ⟨h1,jD h2.own (fun g hg1 hg2=>h1.block g hg2 (by omega)),h2.bel.trans (h1.below (Nat.le_refl _) (by omega)),by omega⟩
   have HF:Hid (∀h,nH (fun f=>some (rnB 32 f n 0 n)) bs n h→e3=0∧(∀i,i<k→f i=h i)∧∃A r,0<A∧A≤n-k∧x=h k∧y=A-1∧(∀i,i<A→h (k+i)=h k)∧(rb (qG bs)).drop a3=rnB 32 h (n-(k+A)) (k+A) (n-(k+A))++r):=fun h hL=>by
    obtain ⟨h1,h2⟩:=HU.out h hL (by omega)
    obtain ⟨h3,⟨r,h4⟩,h5⟩:=hI.out.2.full h h1 h2
    obtain ⟨A,hA1,hA2,hA3,hA4⟩:=qGN h n k hlt
    rw [hA4,List.append_assoc,List.append_assoc] at h4
    obtain ⟨q1,q2,q3⟩:=HK2.out.drop h3 (h k) _ (h1 k hlt) h4
    obtain ⟨q4,q5,q6⟩:=HK3.out.drop q2 (A-1) _ (by omega) q3
    exact ⟨q5,h5,A,r,hA1,hA2,q1,q4,hA3,q6⟩
   have HRNG:=qA hI.out.2.rng
   clear hI
   have e1:IntKind.u64.wrap ((n:Int)-(k:Int))=((n-k:Nat):Int):=by rw [IntKind.wrap_u64];omega
   obtain ⟨d,hd⟩:∃d,n-k=d:=⟨_,rfl⟩
   have hnk:n=k+d:=by omega
   by_cases hge:d≤y
   ·have hde:(y:Int)≥(d:Int):=by omega
    have HD:=qA hd
    rw [hd] at e1
    clear hd hnk
    go_wp2_with fail
    go_ret2
    refine .inl ⟨83,by decide,rfl,by rw [HBW.out];exact HO.out.2.2.1,fun h hL=>?_⟩
    obtain ⟨_,_,A,r,q1,q2,q3,q4,_⟩:=HF.out h hL
    have:=HD.out
    omega
   ·have hyd:y+1≤d:=by omega
    have hde:¬((y:Int)≥(d:Int)):=by omega
    have HD:=qA hd
    have HNK:=qA hnk
    rw [hd] at e1
    obtain ⟨c,hc⟩:∃c,y+1=c:=⟨_,rfl⟩
    have r2:IntKind.i64.wrap (y:Int)=(y:Int):=by rw [IntKind.wrap_i64];omega
    have r3:(y:Int)+1=(c:Int):=by omega
    have hd0:d≤4096:=by omega
    have hc0:0<c∧c≤d:=by omega
    have hx0:x<4294967296:=hx
    obtain ⟨g3,hg3⟩:∃g3,w3.heap.size=g3:=⟨_,rfl⟩
    obtain ⟨W4,hW4⟩:∃W4,W4=w3.alloc (.cells #[.int .u32 (x:Int)] 57):=⟨_,rfl⟩
    have HW4:Hid (W4.cell? ⟨g3,0,none⟩=some (.int .u32 (x:Int))∧W4.heap.size=g3+1∧Below g3 w3 W4):=by
     refine ⟨by rw [←hg3,hW4];exact cell_of_row _ _ 0 _ _ _ (heap_alloc_new w3 _),by rw [hW4,←hg3];simp,by rw [hW4,←hg3];exact (Below.refl _ w3).alloc (Nat.le_refl _) _⟩
    have HCC:=qA hc
    clear hd hnk hc hx
    go_wp2_with fail
    (try rw [hg3])
    (try rw [←hW4])
    clear hW4
    refine (fX x c g3 0 1 W4 HW4.out.1 (by omega) (by omega)).mono ?_
    rintro e w5 ⟨rfl,hrow5,hB5⟩
    obtain ⟨g5,hg5⟩:∃g5,W4.heap.size=g5:=⟨_,rfl⟩
    rw [hg5] at hrow5 hB5⊢
    have HR5:Hid (w5.heap[g5]?=some (.cells (List.replicate c (Value.int .u32 (x:Int))).toArray 57 (0,0))∧Below g3 w3 w5∧g3≤w5.heap.size):=by
     have h1:=HW4.out.2.1
     have h2:=hB5.size
     exact ⟨hrow5,HW4.out.2.2.trans (hB5.mono (by omega)),by omega⟩
    have HOWN:Hid (w5.ownsRow (b+1) 57 1 (.slice p k cp) k (jS k f)):=jD HO.out.2.1 (fun g _ hg2=>HR5.out.2.1.block g (by omega))
    have HNEWS:Hid (∀(j:Nat) (u:Value),(List.replicate c (Value.int .u32 (x:Int)))[j]?=some u→w5.cell? ((⟨g5,0,none⟩:Addr).add j)=some u):=fun j u hu=>by
     rw [Addr.add_mid,Nat.zero_add,cell_of_row w5 g5 j _ _ _ HR5.out.1]
     rw [List.getElem?_toArray];exact hu
    have HG3:=qA hg3
    have hs5:b+1≤w5.heap.size:=by have:=HO.out.2.2.2;have:=HR5.out.2.2;omega
    clear hrow5 hB5 hg5 hg3
    go_wp2_with (at_builtin;refine wpList_append_lies _ rfl _ _ _ rfl (b+1) 57 i5 (.int .u32 0) 1 4 Tryz.underlying124 HI5.out.1 HI5.out.2.1 HI5.out.2.2.1 HI5.out.2.2.2 rfl (by decide) (.slice p k cp) k (jS k f) rfl HOWN.out ⟨g5,0,none⟩ c c (List.replicate c (Value.int .u32 (x:Int))) rfl (by simp) HNEWS.out (fun u hu=>by rw [List.eq_of_mem_replicate hu];rfl) (by omega) (by have:maxLen=9223372036854775807:=rfl;omega) (by omega) hs5 _ rfl ?_;intro g6 cap6 w6 hown6 hgrow6 hat6 hlt6)
    have HS6:Hid (qLR w w6 b (qG bs) n (k+c) a3 e3 (fun i=>if i<k then f i else x) (.slice (some ⟨g6,0,none⟩) (k+c) cap6)):=by
     have hB6:Below (b+1) w5 w6:=wU hgrow6 (fun g hg=>(HOWN.out.lt g hg).1) hs5
     have hB3:Below (b+1) w3 w6:=(HR5.out.2.1.mono (by have:=HO.out.2.2.2;have:=HG3.out;omega)).trans hB6
     have:=hB6.size
     refine ⟨by rw [←qC4];exact hown6,HK3.out.rd.below hB3 (by omega),HO.out.2.2.1.trans (hB3.mono (by omega)),by omega,fun i hi=>?_,fun h hr hB=>?_⟩
     ·by_cases h1:i<k
      ·simp only [h1,if_true];exact HRNG.out i h1
      ·simp only [h1,if_false];exact hx0
     ·obtain ⟨q0,q1,A,r,q2,q3,q4,q5,q6,q7⟩:=HF.out h ⟨hr,fun h0=>by omega,fun _=>⟨_,hB.choose,rfl,by rw [←qU bs HB.out];exact hB.choose_spec⟩⟩
      have hAc:A=c:=by have:=HCC.out;omega
      rw [hAc] at q6 q7
      refine ⟨q0,⟨r,q7⟩,fun i hi=>?_⟩
      by_cases h1:i<k
      ·simp only [h1,if_true];exact q1 i h1
      ·simp only [h1,if_false]
       have:=q6 (i-k) (by omega)
       rw [show k+(i-k)=i from by omega] at this
       rw [this,q4]
    clear hown6 hgrow6 hat6 hlt6
    go_wp2_with fail
    go_roundw
    case rel=>exact ⟨k+c,a3,e3,_,_,_,rfl,by have:=HNK.out;omega,HS6.out⟩
    case measure=>simp [vI];omega
  ·have hk:k=n:=by have:=hI.out.1;omega
   have hI':Hid (qLR w wr b (qG bs) n n a e1 f (.slice p n cp)):=by have:=hI.out.2;rw [hk] at this;exact this
   subst hk
   clear hI
   go_wp2_with fail
   go_ret2
   refine .inr ⟨.slice p k cp,f,rfl,⟨hI'.out.own.mono (by have:=HBW.out;omega),(by rw [HBW.out];exact hI'.out.bel),Nat.le_refl _⟩,hI'.out.rng,fun h hL i hi=>?_⟩
   obtain ⟨h1,h2⟩:=HU.out h hL (by omega)
   exact (hI'.out.full h h1 h2).2.2 i hi
end Go.Proofs.YtkpmalfigmimaaaGreatDoor
namespace Go.Proofs.YtkpmalfigmimaaaGreatDoor
open Go.RowKit
open M
theorem qH9 (m:Nat) (hm:0<m) (y k:Int) (hk:(m:Int)=k):∃Y:Nat,y%k=(Y:Int)∧Y<m:=by
 subst hk
 have h1:=Int.emod_nonneg y (b:=(m:Int)) (by omega)
 have h2:=Int.emod_lt_of_pos y (b:=(m:Int)) (by omega)
 generalize y%(m:Int)=z at*
 exact ⟨z.toNat,(Int.toNat_of_nonneg h1).symm,by omega⟩
theorem qDL (m E y Y x:Int) (h2:y%m=Y) (h1:(E+Y)%m=x):x=(E+y)%m:=by rw [←h1,←h2,Int.add_emod_emod]
theorem sZ (H M:Nat) (hM:M=2*H) (hH:0<H) (f h:Nat→Nat) (k:Nat) (hf:∀i,i<k→f i=h i) (hr:∀i,i<k→f i<M) (hk:h k<M) (m:Int) (hm:(M:Int)=m):((exS M f k:Int)+sgW H M (rsS M h k))%m=(h k:Int):=by
 subst hm
 have e1:=bC M f h k hf
 have e2:=qGU H M (rsS M h k) hM (qCY M h (by omega) k)
 have e3:=qCX M h (by omega) k fun j hj=>by
  by_cases e:j=k
  ·rw [e];exact hk
  ·rw [←hf j (by omega)];exact hr j (by omega)
 rw [←Int.add_emod_emod,e2,e1,←e3]
 simp
theorem qKH (x:Nat) (hx:x<4294967296): -9223372036854775808≤sgW 2147483648 4294967296 x∧sgW 2147483648 4294967296 x≤9223372036854775807:=by
 unfold sgW;split<;>omega
theorem sO:tW (stB 2147483648 4294967296) (fun h k=>varB (zig (sgW 2147483648 4294967296 (rsS 4294967296 h k)))):=⟨fun h=>rfl,fun h k=>rfl⟩
theorem qAP.drewN {bf:(Nat→Nat)→Nat→List Bool} {w wr:World} {b:Nat} {s:ByteArray} {g n k a:Nat} {e1:Int} {f:Nat→Nat} (T:qAP bf w wr b s g n k a e1 f) (hb:b<wr.heap.size) (m:Nat):qAP bf w (wr.drewN m) b s g n k a e1 f:=
 ⟨T.row.ofBlock rfl,T.rd.below (w':=wr.drewN m) ⟨rfl,rfl,rfl,Nat.le_refl _,fun _ _=>rfl⟩ hb,⟨T.only.os,T.only.tape,T.only.output,T.only.size,T.only.block,T.only.cell,T.only.frozen⟩,T.size,T.rng,T.full⟩
theorem gN (v:Value) (bs:List Nat) (n:Nat) (w:World) (h:jQ w v bs) (hb:∀n∈bs,n<256) (hl:bs.length≤1000000000000) (hn:n≤4096):
  Calls Tryz.prog 112 #[v,.int .i64 n] w (nR (stB 2147483648 4294967296) bs n w):=by
 have H:=qA h
 have HB:=qA hb
 have HL:=qA hl
 have hmk:=zL n hn
 clear h hb hl
 go_enter Tryz.func112,Tryz.ntmps112
 go_wp2_with fail
 refine (kI w v bs H.out).mono ?_
 rintro e w1 ⟨rfl,hw1⟩
 have HR:Hid (Rd w1 w.heap.size 0 (qG bs) 0 0∧w1.heap.size=w.heap.size+1∧Below w.heap.size w w1):=by
  rw [hw1];exact ⟨xY w bs HL.out,by simp,(Below.refl _ _).alloc (Nat.le_refl _) _⟩
 clear hw1
 obtain ⟨b,hbw⟩:∃b,w.heap.size=b:=⟨_,rfl⟩
 have HBW:=qA hbw
 obtain ⟨g,hg⟩:∃g,w1.heap.size=g:=⟨_,rfl⟩
 have HA:Hid (qAP (stB 2147483648 4294967296) w1 (w1.alloc (.cells (Array.replicate n (Value.int .u32 0)) 57)) b (qG bs) g n 0 0 0 (fun _=>0)):=by
  have hA:Below w1.heap.size w1 (w1.alloc (.cells (Array.replicate n (Value.int .u32 0)) 57)):=(Below.refl _ w1).alloc (Nat.le_refl _) _
  have hbs:b<w1.heap.size:=by have:=HR.out.2.1;omega
  refine ⟨by rw [←hg];exact vQ.new w1 n _,by rw [←hbw];exact HR.out.1.below hA (by omega),⟨hA.os,hA.tape,hA.output,hA.size,fun k hk _=>hA.block k hk,fun j _=>World.cell?_of_block (hA.block b hbs),fun j=>World.frozen?_of_block (w:=w1) (a:=⟨b,j,none⟩) (hA.block b hbs)⟩,by rw [←hg];simp,fun i hi=>by omega,fun h hB=>⟨rfl,by simp [stB],fun i hi=>by omega⟩⟩
 have hgb:g≠b:=by have:=HR.out.2.1;omega
 have HG:Hid (w1.heap.size≤g):=Nat.le_of_eq hg
 rw [hbw]
 clear hbw
 go_upto_region 3 with fail
 (try rw [hg])
 clear hg hmk
 generalize w1.alloc (.cells (Array.replicate n (Value.int .u32 0)) 57)=W0 at*
 go_wp2_with fail
 go_loopw [15] (fun t15 wr=>∃(k a:Nat) (e1:Int) (f:Nat→Nat),t15= .int .i64 (k:Int)∧Hid (k≤n∧qAP (stB 2147483648 4294967296) w1 wr b (qG bs) g n k a e1 f)) (fun t15 _=>n-(intOf t15).toNat)
 case atStart=>exact ⟨0,0,0,_,rfl,Nat.zero_le _,HA.out⟩
 case round=>
  obtain ⟨k,a,e1,f,rfl,hI⟩:=hrel
  by_cases hlt:k<n
  ·have HROW:Hid (jB wr (some ⟨g,0,none⟩) k f∧∀i,i<k→f i<4294967296):=⟨fun _=>⟨g,0,rfl,fun i hi=>by rw [Nat.zero_add,hI.out.2.row.cell i (by omega),if_pos hi]⟩,hI.out.2.rng⟩
   have HBG:Hid (b<wr.heap.size):=by have:=hI.out.2.size;have:=HR.out.2.1;have:=HG.out;have:=HBW.out;exact (by omega:b<wr.heap.size)
   go_wp2_with fail
   refine (vU (some ⟨g,0,none⟩) k n f wr HROW.out.1 (by omega) (by omega) HROW.out.2).mono ?_
   rintro e wd ⟨rfl,m,hwd⟩
   have HL1:Hid (qAP (stB 2147483648 4294967296) w1 wd b (qG bs) g n k a e1 f):=by rw [hwd];exact hI.out.2.drewN HBG.out m
   have heM:exS 4294967296 f k<4294967296:=lX _ _ (by decide) k HROW.out.2
   obtain ⟨E,hE⟩:∃E,exS 4294967296 f k=E:=⟨_,rfl⟩
   rw [hE] at heM⊢
   have HE:=qA hE
   clear hE hwd
   go_wp2_with fail
   refine (qCP b 0 (qG bs) a e1 wd HL1.out.rd).mono ?_
   rintro e w2 ⟨y,a',e2,rfl,hy,T⟩
   obtain ⟨Y,hY',_⟩:=qH9 4294967296 (by decide) y 4294967296 rfl
   obtain ⟨x,hX',hx⟩:=qH9 4294967296 (by decide) ((E:Int)+(Y:Int)) 4294967296 rfl
   have hY:IntKind.u32.wrap y=(Y:Int):=by rw [IntKind.wrap_u32];exact hY'
   have hX:IntKind.u32.wrap ((E:Int)+(Y:Int))=(x:Int):=by rw [IntKind.wrap_u32];exact hX'
   have HX:Hid ((x:Int)=((E:Int)+y)%4294967296):=qDL 4294967296 E y Y x hY' hX'
   clear hX' hY'
   have NX:=qAP.next sO hlt HG.out hgb HL1.out x hx T.rd T.only (fun he h r hh hk hr=>by
    have h0:=qKH (rsS 4294967296 h k) (qCY _ _ (by decide) k)
    obtain ⟨h1,h2,h3⟩:=T.hit he _ _ h0 hr
    refine ⟨?_,h2,h3⟩
    have h4:=sZ 2147483648 4294967296 (by decide) (by decide) f h k hh HROW.out.2 hk 4294967296 rfl
    have h5:=HX.out
    rw [h1,←HE.out,h4] at h5
    exact Int.ofNat.inj h5)
   have RW:=HL1.out.row.ofBlock (T.only.block g HL1.out.size hgb)
   have c2:w2.cell? ⟨g,k,none⟩=some (.int .u32 0):=by rw [RW.cell k hlt,if_neg (by omega)];rfl
   have c3:=RW.fz k
   have HNX:=qA NX
   clear NX RW T
   go_wp2_with fail
   go_roundw
   case rel=>exact ⟨k+1,a',e2,_,by simp,hlt,HNX.out⟩
   case measure=>simp [intOf];omega
  ·have hk:k=n:=by have:=hI.out.1;omega
   have hI':Hid (qAP (stB 2147483648 4294967296) w1 wr b (qG bs) g n n a e1 f):=by have:=hI.out.2;rw [hk] at this;exact this
   go_wp2_with fail
   go_ret2
   refine ⟨g,f,?_,rfl,hI'.out.row,hI'.out.rng,?_,fun h hB i hi=>?_⟩
   ·have:=HR.out.2.1;have:=HG.out;omega
   ·have:=hI'.out.only.below (B:=w.heap.size) (by have:=HBW.out;omega) (by have:=HR.out.2.1;omega)
    exact HR.out.2.2.trans this
   ·exact (hI'.out.full h (by rw [qU bs HB.out];exact hB)).2.2 i hi
end Go.Proofs.YtkpmalfigmimaaaGreatDoor
namespace Go.Proofs.YtkpmalfigmimaaaGreatDoor
open Go.RowKit
open M
theorem qAB {a b:List Nat} (ha:∀n∈a,n<256) (hb:∀n∈b,n<256) (h:(qG a).toList=(qG b).toList):a=b:=by
 have h1:(qG a).data.toList=(qG b).data.toList:=by
  unfold qG at h⊢
  rw [Lib.strOfNums_toList,Lib.strOfNums_toList] at h
  exact h
 rw [←kV a ha,←kV b hb]
 unfold zT
 rw [h1]
theorem jO (v1 v2:Value) (a b:List Nat) (w:World) (h1:jQ w v1 a) (h2:jQ w v2 b) (ha:∀n∈a,n<256) (hb:∀n∈b,n<256):
  Calls Tryz.prog 100 #[v1,v2] w fun e w'=>e= .returned (.bool (decide (a=b)))∧w'=w:=by
 have hc1:=yJ w v1 a h1
 have hc2:=yJ w v2 b h2
 by_cases e:a=b
 ·subst e
  rw [decide_eq_true rfl]
  clear h1 h2
  go_enter Tryz.func100,Tryz.ntmps100
  go_wp2_with fail
  go_ret
  exact ⟨by simp,rfl⟩
 ·rw [decide_eq_false e]
  have hne:Hid (((qG a).toList==(qG b).toList)=false):=by show _=_;rw [beq_eq_false_iff_ne];exact fun h=>e (qAB ha hb h)
  generalize qG a=sa at*
  generalize qG b=sb at*
  clear h1 h2 e
  go_enter Tryz.func100,Tryz.ntmps100
  go_wp2_with fail
  go_ret
  exact ⟨by rw [←hne.out];rfl,rfl⟩
theorem nU (f g:Nat→Nat) (v i k:Nat) (h:∀j,i≤j→j<i+k→f j=g j):qI f v i k=qI g v i k:=by
 induction k generalizing i with
 |zero=>rfl
 |succ k ih=>rw [qI,qI,h i (Nat.le_refl _) (by omega),ih (i+1) fun j h1 h2=>h j (by omega) (by omega)]
theorem qBU (f g:Nat→Nat) (u i k:Nat) (h:∀j,i≤j→j<i+k→f j=g j):rnB 32 f u i k=rnB 32 g u i k:=by
 induction u generalizing i k with
 |zero=>rfl
 |succ u ih=>
  match k with
  |0=>rfl
  |k+1=>
   have hle:=zH g (g i) i (k+1)
   rw [rnB,rnB,h i (Nat.le_refl _) (by omega),nU f g (g i) i (k+1) h,ih _ _ fun j h1 h2=>h j (by omega) (by omega)]
theorem jK.lay {k n:Nat} {h:Nat→Nat} {bs:List Nat} (H:jK k n h bs):nH (fun f=>yD k f n) bs n h:=by
 refine ⟨H.1,H.2.1,fun h0=>?_⟩
 obtain ⟨l,h1,h2⟩:=H.2.2 h0
 exact ⟨l,_,h1,by rw [←h2,rbits_packed]⟩
def uD (k:Nat) (bs:List Nat) (n:Nat) (w:World) (e:Ending) (w':World):Prop:=
 (∃c:Int,c≠0∧e= .returned (.tuple #[.slice none 0 0,.int .i64 c])∧Below w.heap.size w w'∧∀h,jK k n h bs→False)∨
 ∃(v:Value) (f:Nat→Nat),e= .returned (.tuple #[v,.int .i64 0])∧qF2 w.heap.size w f n v w'∧(∀i,i<n→f i<4294967296)∧∀h,jK k n h bs→∀i,i<n→f i=h i
theorem yQ {k:Nat} {bs:List Nat} {n:Nat} {w:World} {e:Ending} {w':World} {bf:(Nat→Nat)→Option (List Bool)} (hb:(fun f=>yD k f n)=bf) (h:pC bf bs n w e w'):uD k bs n w e w':=by
 subst hb
 rcases h with ⟨c,h1,h2,h3,h4⟩|⟨v,f,h1,h2,h3,h4⟩
 ·exact .inl ⟨c,h1,h2,h3,fun h hP=>h4 h hP.lay⟩
 ·exact .inr ⟨v,f,h1,h2,h3,fun h hP=>h4 h hP.lay⟩
theorem qC2 {bs:List Nat} {n:Nat} {w:World} {e:Ending} {w':World} (hn:n≤4096) (h:nP w bs n e w'):uD 2 bs n w e w':=by
 have key:∀h,jK 2 n h bs→gZ bs h n:=fun h hP=>by
  refine ⟨hP.1,?_⟩
  by_cases h0:n=0
  ·rw [hP.2.1 h0,h0];exact List.eq_nil_of_length_eq_zero (by rw [packed_length];simp [cbn])
  ·obtain ⟨l,h1,h2⟩:=hP.2.2 (by omega)
   simp only [yD,Option.some.injEq] at h1
   rw [h1];exact h2
 rcases h with ⟨h1,h2,h3⟩|⟨g,f,h1,h2,h3,h4,h5,h6⟩
 ·exact .inl ⟨71,by decide,h1,h2,fun h hP=>h3 ⟨h,key h hP⟩⟩
 ·exact .inr ⟨_,f,h1,⟨h3.owns h2 hn,h4,Nat.le_refl _⟩,h5.1,fun h hP=>h6 h (wA (key h hP))⟩
def qQ (k:Nat) (bs:List Nat) (n:Nat) (w:World) (e:Ending) (w':World):Prop:=
 (e= .returned (.tuple #[.slice none 0 0,.int .i64 83])∧Below w.heap.size w w'∧∀h,jK k n h bs→False)∨
 ∃(v:Value) (f:Nat→Nat),e= .returned (.tuple #[v,.int .i64 0])∧qF2 w.heap.size w f n v w'∧jK k n f bs∧∀h,jK k n h bs→∀i,i<n→f i=h i
theorem rY (k:Nat) (f g:Nat→Nat) (n:Nat) (h:∀i,i<n→f i=g i):yD k f n=yD k g n:=by
 unfold yD
 split
 ·rw [fW 32 f g n h]
 ·rw [cbn_congr 32 5 f g n h]
 ·rw [qBU f g n 0 n fun j _ hj=>h j (by omega)]
 ·unfold dcO;rw [tH f g n h,lT 32 f g n h]
 ·rw [qA6 2147483648 4294967296 f g n h]
 ·rw [F32.dm_congr 32 f g n h]
 ·rfl
theorem jK.congr {k n:Nat} {f g:Nat→Nat} {bs:List Nat} (H:jK k n f bs) (h:∀i,i<n→f i=g i):jK k n g bs:=
 ⟨fun i hi=>by rw [←h i hi];exact H.1 i hi,H.2.1,fun h0=>by
  obtain ⟨l,h1,h2⟩:=H.2.2 h0
  exact ⟨l,by rw [←rY k f g n h];exact h1,h2⟩⟩
end Go.Proofs.YtkpmalfigmimaaaGreatDoor
