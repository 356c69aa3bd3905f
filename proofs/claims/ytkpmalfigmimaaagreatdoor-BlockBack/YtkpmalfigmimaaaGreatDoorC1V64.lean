import Derived.Test.YtkpmalfigmimaaaGreatDoorC2G64
import Derived.Test.YtkpmalfigmimaaaGreatDoorC2C64
import Derived.Test.YtkpmalfigmimaaaGreatDoorQG
import Derived.Test.YtkpmalfigmimaaaGreatDoorC3F64
import Derived.Test.YtkpmalfigmimaaaGreatDoorT1S
import Derived.Test.YtkpmalfigmimaaaGreatDoorC1P
import Derived.Deep.Cut
import Derived.Deep.RegionHeld3
import Derived.Great.Walk
set_option linter.unusedVariables false
set_option linter.unusedSimpArgs false
set_option maxRecDepth 100000
set_option maxHeartbeats 8000000
namespace Go.Proofs.YtkpmalfigmimaaaGreatDoor
open Go.RowKit
open M
structure qL7 (w wr:World) (b:Nat) (s:ByteArray) (n k a:Nat) (e1:Int) (f:Nat→Nat) (v:Value):Prop where
 own:wr.ownsRow (b+1) 36 1 v k (jR k f)
 rd:Rd wr b 0 s a e1
 bel:Below b w wr
 size:b+1≤wr.heap.size
 rng:∀i,i<k→f i<18446744073709551616
 full:∀h:Nat→Nat,(∀i,i<n→h i<18446744073709551616)→(∃r,rb s=rnB 64 h n 0 n++r)→e1=0∧(∃r,(rb s).drop a=rnB 64 h (n-k) k (n-k)++r)∧∀i,i<k→f i=h i
theorem qFZ (h:Nat→Nat) (n k:Nat) (hk:k<n):∃A,0<A∧A≤n-k∧(∀i,i<A→h (k+i)=h k)∧rnB 64 h (n-k) k (n-k)=bitsOf (h k) 64++(varB (A-1)++rnB 64 h (n-(k+A)) (k+A) (n-(k+A))):=by
 obtain ⟨m,hm⟩:∃m,n-k=m+1:=⟨n-k-1,by omega⟩
 rw [hm]
 have h1:=zZ h k m
 have h2:=zG h (h k) k (m+1)
 refine ⟨qI h (h k) k (m+1),h1,h2,fun i hi=>cY h (h k) k (m+1) i hi,?_⟩
 conv=>lhs;rw [rnB]
 rw [List.append_assoc,show n-(k+qI h (h k) k (m+1))=m+1-qI h (h k) k (m+1) from by omega,vF 64 h m (m+1-qI h (h k) k (m+1)) _ _ (by omega) (Nat.le_refl _)]
theorem mP (u:Value) (bs:List Nat) (n:Nat) (w:World) (h:jW w u bs) (hb:∀n∈bs,n<256) (hl:bs.length≤1000000000000) (hn:n≤4096):
  Calls Tryz.prog 116 #[u,.int .i64 n] w (gW (fun f=>some (rnB 64 f n 0 n)) bs n w):=by
 have H:=qA h
 have HB:=qA hb
 have HL:=qA hl
 have hmk:=qBA n hn
 clear h hb hl
 go_enter Tryz.func116,Tryz.ntmps116
 go_wp2_with fail
 refine (kJ w u bs H.out).mono ?_
 rintro e w1 ⟨rfl,hw1⟩
 have HR:Hid (Rd w1 w.heap.size 0 (qG bs) 0 0∧w1.heap.size=w.heap.size+1∧Below w.heap.size w w1):=by
  rw [hw1];exact ⟨xZ w bs HL.out,by simp,(Below.refl _ _).alloc (Nat.le_refl _) _⟩
 clear hw1
 obtain ⟨b,hbw⟩:∃b,w.heap.size=b:=⟨_,rfl⟩
 have HBW:=qA hbw
 obtain ⟨g,hg⟩:∃g,w1.heap.size=g:=⟨_,rfl⟩
 have HA:Hid (qL7 w (w1.alloc (.cells (Array.replicate n (Value.int .u64 0)) 36)) b (qG bs) n 0 0 0 (fun _=>0) (.slice (some ⟨g,0,none⟩) 0 n)):=by
  have hA:Below w1.heap.size w1 (w1.alloc (.cells (Array.replicate n (Value.int .u64 0)) 36)):=(Below.refl _ w1).alloc (Nat.le_refl _) _
  have hs:=HR.out.2.1
  refine ⟨?_,by rw [←hbw];exact HR.out.1.below hA (by omega),(by rw [←hbw];exact HR.out.2.2.trans (hA.mono (by omega))),by simp;omega,fun i hi=>by omega,fun h hr hB=>⟨rfl,by simpa using hB,fun i hi=>by omega⟩⟩
  rw [←hg]
  exact World.ownsRow_made w1 _ n (by omega) (by have:maxLen=9223372036854775807:=rfl;omega) (by simp)
 rw [hbw]
 clear hbw
 go_upto_region 3 with fail
 (try rw [hg])
 clear hg hmk
 generalize w1.alloc (.cells (Array.replicate n (Value.int .u64 0)) 36)=W0 at*
 have HU:Hid ((∀h,nB (fun f=>some (rnB 64 f n 0 n)) bs n h→0<n→(∀i,i<n→h i<18446744073709551616)∧∃r,rb (qG bs)=rnB 64 h n 0 n++r)):=fun h hL h0=>by
  obtain ⟨l,r,q1,q2⟩:=hL.2.2 h0
  simp only [Option.some.injEq] at q1
  exact ⟨hL.1,r,by rw [qV bs HB.out,q1];exact q2⟩
 go_loopw [7] (fun t7 wr=>∃(k a:Nat) (e1:Int) (f:Nat→Nat) (p:Option Addr) (cp:Nat),t7= .slice p k cp∧Hid (k≤n∧qL7 w wr b (qG bs) n k a e1 f (.slice p k cp))) (fun t7 _=>n-vH t7)
 case atStart=>exact ⟨0,0,0,_,_,_,rfl,Nat.zero_le _,HA.out⟩
 case round=>
  obtain ⟨k,a,e1,f,p,cp,rfl,hI⟩:=hrel
  by_cases hlt:k<n
  ·obtain ⟨i5,Hi⟩:=qFC
   have HI5:=qA Hi
   clear Hi
   go_wp2_with fail
   refine (kN b 0 (qG bs) a e1 wr hI.out.2.rd).mono ?_
   rintro e w2 ⟨x,a2,e2,rfl,hx,T⟩
   have HK2:Hid (Hk (fun y=>bitsOf y 64) (fun y=>y<2^64) wr w2 b 0 (qG bs) a e1 x a2 e2):=yV hI.out.2.rd.le hx T
   clear T
   go_wp2_with fail
   refine (dJ b 0 (qG bs) a2 e2 w2 HK2.out.rd).mono ?_
   rintro e w3 ⟨y,a3,e3,rfl,hy,T3⟩
   have HK3:=qA T3
   clear T3
   have HO:Hid (qJ b 0 3 wr w3∧w3.ownsRow (b+1) 36 1 (.slice p k cp) k (jR k f)∧Below b w w3∧b+1≤w3.heap.size):=by
    have h1:=HK2.out.only.trans HK3.out.only
    have h2:=hI.out.2
    have h3:=h1.size
    have h4:=h2.size
    exact ⟨h1,jF h2.own (fun g hg1 hg2=>h1.block g hg2 (by omega)),h2.bel.trans (h1.below (Nat.le_refl _) (by omega)),by omega⟩
   have HF:Hid (∀h,nB (fun f=>some (rnB 64 f n 0 n)) bs n h→e3=0∧(∀i,i<k→f i=h i)∧∃A r,0<A∧A≤n-k∧x=h k∧y=A-1∧(∀i,i<A→h (k+i)=h k)∧(rb (qG bs)).drop a3=rnB 64 h (n-(k+A)) (k+A) (n-(k+A))++r):=fun h hL=>by
    obtain ⟨h1,h2⟩:=HU.out h hL (by omega)
    obtain ⟨h3,⟨r,h4⟩,h5⟩:=hI.out.2.full h h1 h2
    obtain ⟨A,hA1,hA2,hA3,hA4⟩:=qFZ h n k hlt
    rw [hA4,List.append_assoc,List.append_assoc] at h4
    obtain ⟨q1,q2,q3⟩:=HK2.out.drop h3 (h k) _ (h1 k hlt) h4
    obtain ⟨q4,q5,q6⟩:=HK3.out.drop q2 (A-1) _ (by omega) q3
    exact ⟨q5,h5,A,r,hA1,hA2,q1,q4,hA3,q6⟩
   have HRNG:=qA hI.out.2.rng
   clear hI
   have e1:IntKind.u64.wrap ((n:Int)-(k:Int))=((n-k:Nat):Int):=by rw [IntKind.wrap_u64];omega
   obtain ⟨d,hd⟩:∃d,n-k=d:=⟨_,rfl⟩
   have hnk:n=k+d:=by omega
   by_cases hge:d≤y
   ·have hde:(y:Int)≥(d:Int):=by omega
    have HD:=qA hd
    rw [hd] at e1
    clear hd hnk
    go_wp2_with fail
    go_ret2
    refine .inl ⟨83,by decide,rfl,by rw [HBW.out];exact HO.out.2.2.1,fun h hL=>?_⟩
    obtain ⟨_,_,A,r,q1,q2,q3,q4,_⟩:=HF.out h hL
    have:=HD.out
    omega
   ·have hyd:y+1≤d:=by omega
    have hde:¬((y:Int)≥(d:Int)):=by omega
    have HD:=qA hd
    have HNK:=qA hnk
    rw [hd] at e1
    obtain ⟨c,hc⟩:∃c,y+1=c:=⟨_,rfl⟩
    have r2:IntKind.i64.wrap (y:Int)=(y:Int):=by rw [IntKind.wrap_i64];omega
    have r3:(y:Int)+1=(c:Int):=by omega
    have hd0:d≤4096:=by omega
    have hc0:0<c∧c≤d:=by omega
    have hx0:x<18446744073709551616:=hx
    obtain ⟨g3,hg3⟩:∃g3,w3.heap.size=g3:=⟨_,rfl⟩
    obtain ⟨W4,hW4⟩:∃W4,W4=w3.alloc (.cells #[.int .u64 (x:Int)] 36):=⟨_,rfl⟩
    have HW4:Hid (W4.cell? ⟨g3,0,none⟩=some (.int .u64 (x:Int))∧W4.heap.size=g3+1∧Below g3 w3 W4):=by
     refine ⟨by rw [←hg3,hW4];exact cell_of_row _ _ 0 _ _ _ (heap_alloc_new w3 _),by rw [hW4,←hg3];simp,by rw [hW4,←hg3];exact (Below.refl _ w3).alloc (Nat.le_refl _) _⟩
    have HCC:=qA hc
    clear hd hnk hc hx
    go_wp2_with fail
    (try rw [hg3])
    (try rw [←hW4])
    clear hW4
    refine (fL x c g3 0 1 W4 HW4.out.1 (by omega) (by omega)).mono ?_
    rintro e w5 ⟨rfl,hrow5,hB5⟩
    obtain ⟨g5,hg5⟩:∃g5,W4.heap.size=g5:=⟨_,rfl⟩
    rw [hg5] at hrow5 hB5⊢
    have HR5:Hid (w5.heap[g5]?=some (.cells (List.replicate c (Value.int .u64 (x:Int))).toArray 36 (0,0))∧Below g3 w3 w5∧g3≤w5.heap.size):=by
     have h1:=HW4.out.2.1
     have h2:=hB5.size
     exact ⟨hrow5,HW4.out.2.2.trans (hB5.mono (by omega)),by omega⟩
    have HOWN:Hid (w5.ownsRow (b+1) 36 1 (.slice p k cp) k (jR k f)):=jF HO.out.2.1 (fun g _ hg2=>HR5.out.2.1.block g (by omega))
    have HNEWS:Hid (∀(j:Nat) (u:Value),(List.replicate c (Value.int .u64 (x:Int)))[j]?=some u→w5.cell? ((⟨g5,0,none⟩:Addr).add j)=some u):=fun j u hu=>by
     rw [Addr.add_mid,Nat.zero_add,cell_of_row w5 g5 j _ _ _ HR5.out.1]
     rw [List.getElem?_toArray];exact hu
    have HG3:=qA hg3
    have hs5:b+1≤w5.heap.size:=by have:=HO.out.2.2.2;have:=HR5.out.2.2;omega
    clear hrow5 hB5 hg5 hg3
    go_wp2_with (at_builtin;refine wpList_append_lies _ rfl _ _ _ rfl (b+1) 36 i5 (.int .u64 0) 1 8 Tryz.underlying107 HI5.out.1 HI5.out.2.1 HI5.out.2.2.1 HI5.out.2.2.2 rfl (by decide) (.slice p k cp) k (jR k f) rfl HOWN.out ⟨g5,0,none⟩ c c (List.replicate c (Value.int .u64 (x:Int))) rfl (by simp) HNEWS.out (fun u hu=>by rw [List.eq_of_mem_replicate hu];rfl) (by omega) (by have:maxLen=9223372036854775807:=rfl;omega) (by omega) hs5 _ rfl ?_;intro g6 cap6 w6 hown6 hgrow6 hat6 hlt6)
    have HS6:Hid (qL7 w w6 b (qG bs) n (k+c) a3 e3 (fun i=>if i<k then f i else x) (.slice (some ⟨g6,0,none⟩) (k+c) cap6)):=by
     have hB6:Below (b+1) w5 w6:=wO hgrow6 (fun g hg=>(HOWN.out.lt g hg).1) hs5
     have hB3:Below (b+1) w3 w6:=(HR5.out.2.1.mono (by have:=HO.out.2.2.2;have:=HG3.out;omega)).trans hB6
     have:=hB6.size
     refine ⟨by rw [←qBT];exact hown6,HK3.out.rd.below hB3 (by omega),HO.out.2.2.1.trans (hB3.mono (by omega)),by omega,fun i hi=>?_,fun h hr hB=>?_⟩
     ·by_cases h1:i<k
      ·simp only [h1,if_true];exact HRNG.out i h1
      ·simp only [h1,if_false];exact hx0
     ·obtain ⟨q0,q1,A,r,q2,q3,q4,q5,q6,q7⟩:=HF.out h ⟨hr,fun h0=>by omega,fun _=>⟨_,hB.choose,rfl,by rw [←qV bs HB.out];exact hB.choose_spec⟩⟩
      have hAc:A=c:=by have:=HCC.out;omega
      rw [hAc] at q6 q7
      refine ⟨q0,⟨r,q7⟩,fun i hi=>?_⟩
      by_cases h1:i<k
      ·simp only [h1,if_true];exact q1 i h1
      ·simp only [h1,if_false]
       have:=q6 (i-k) (by omega)
       rw [show k+(i-k)=i from by omega] at this
       rw [this,q4]
    clear hown6 hgrow6 hat6 hlt6
    go_wp2_with fail
    go_roundw
    case rel=>exact ⟨k+c,a3,e3,_,_,_,rfl,by have:=HNK.out;omega,HS6.out⟩
    case measure=>simp [vH];omega
  ·have hk:k=n:=by have:=hI.out.1;omega
   have hI':Hid (qL7 w wr b (qG bs) n n a e1 f (.slice p n cp)):=by have:=hI.out.2;rw [hk] at this;exact this
   subst hk
   clear hI
   go_wp2_with fail
   go_ret2
   refine .inr ⟨.slice p k cp,f,rfl,⟨hI'.out.own.mono (by have:=HBW.out;omega),(by rw [HBW.out];exact hI'.out.bel),Nat.le_refl _⟩,hI'.out.rng,fun h hL i hi=>?_⟩
   obtain ⟨h1,h2⟩:=HU.out h hL (by omega)
   exact (hI'.out.full h h1 h2).2.2 i hi
end Go.Proofs.YtkpmalfigmimaaaGreatDoor
namespace Go.Proofs.YtkpmalfigmimaaaGreatDoor
open Go.RowKit
open M
theorem fX (H M:Nat) (f:Nat→Nat) (n:Nat):(stB H M f n).length≤80*n:=by
 induction n with
 |zero=>simp [stB]
 |succ n ih=>
  rw [stB,List.length_append]
  have:=(uZ 9 (zig (sgW H M (rsS M f n)))).2.2
  have e:(varB (zig (sgW H M (rsS M f n)))).length=(groups 9 (zig (sgW H M (rsS M f n)))).length:=rfl
  omega
theorem mG (p:Option Addr) (n cap:Nat) (f:Nat→Nat) (w:World) (h:qZ w p n f) (hn:n≤4096) (hcap:n≤cap) (hf:∀i,i<n→f i<18446744073709551616):
  Calls Tryz.prog 130 #[.slice p n cap] w (zX (stB 9223372036854775808 18446744073709551616 f n) w):=by
 have H:=qA h
 have HF:=qA hf
 obtain ⟨g,hg⟩:∃g,g=w.heap.size:=⟨_,rfl⟩
 obtain ⟨W1,hW1⟩:∃W1,W1=w.alloc (.cells zW 98):=⟨_,rfl⟩
 have HM:Hid (Wr W1 (g+1) g 0 [] 0∧g+1≤W1.heap.size∧Below w.heap.size w W1∧qZ W1 p n f):=by
  have B1:Below w.heap.size w W1:=by rw [hW1];exact (Below.refl _ w).alloc (Nat.le_refl _) _
  refine ⟨?_,by rw [hW1,hg];simp,B1,h.below B1⟩
  rw [hg,hW1];exact gO (heap_alloc_new w _)
 have HP:Hid (∀a,p=some a→0<n→a.block<g):=fun a ha h0=>by
  obtain ⟨b,o,hp,hc⟩:=H.out h0
  rw [hp] at ha
  simp only [Option.some.injEq] at ha
  rw [←ha,hg]
  exact block_lt_of_cell (hc 0 h0)
 have HG:=qA hg
 clear h hf
 go_enter Tryz.func130,Tryz.ntmps130
 go_upto_region 1 with fail
 refine wp_region_list ?_
 refine wpList_build rfl 98 #[] rfl (by kernel_rfl) ?_
 simp only [Array.map_empty]
 rw [zI]
 refine Go.Great.wpList_boxTo rfl 98 (.tmp 7) rfl (some 8) rfl g hg.symm zW rfl ?_
 rw [←hW1]
 clear hW1 hg
 go_wp2_with fail
 go_loopw [11] (fun t11 wr=>∃k:Nat,t11= .int .i64 (k:Int)∧Hid (k≤n∧Wr wr (g+1) g 0 (stB 9223372036854775808 18446744073709551616 f k) 0∧qJ g 0 123 W1 wr)) (fun t11 _=>n-(intOf t11).toNat)
 case atStart=>exact ⟨0,rfl,Nat.zero_le _,HM.out.1,qJ.refl _ _ _ _⟩
 case round=>
  obtain ⟨k,rfl,hI⟩:=hrel
  by_cases hlt:k<n
  ·obtain ⟨rb0,ro,rfl,hc⟩:=HM.out.2.2.2 (by omega)
   have hrb:rb0<g:=HP.out _ rfl (by omega)
   obtain ⟨v,hv⟩:∃v,f k=v:=⟨_,rfl⟩
   have hs1:=HM.out.2.1
   have c1:wr.cell? ⟨rb0,ro+k,none⟩=some (.int .u64 (v:Int)):=by
    rw [World.cell?_of_block (w:=W1) (hI.out.2.2.block rb0 (by omega) (by omega)),←hv]
    exact hc k hlt
   have hvM:v<18446744073709551616:=by rw [←hv];exact HF.out k hlt
   have HV:=qA hv
   clear hv hc hs1
   go_wp2_with fail
   refine (vT (some ⟨rb0,ro,none⟩) k cap f wr (fun _=>⟨rb0,ro,rfl,fun i hi=>?_⟩) (by omega) (by omega) (fun i hi=>HF.out i (by omega))).mono ?_
   ·rw [World.cell?_of_block (w:=W1) (hI.out.2.2.block rb0 (by have:=HM.out.2.1;omega) (by omega))]
    obtain ⟨rb1,ro1,hp1,hc1⟩:=HM.out.2.2.2 (by omega)
    simp only [Option.some.injEq,Addr.mk.injEq] at hp1
    obtain ⟨rfl,rfl,_⟩:=hp1
    exact hc1 i (by omega)
   rintro e wd ⟨rfl,m,hwd⟩
   have heM:exS 18446744073709551616 f k<18446744073709551616:=lK _ _ (by omega) k fun j hj=>HF.out j (by omega)
   obtain ⟨E,hE⟩:∃E,exS 18446744073709551616 f k=E:=⟨_,rfl⟩
   have hr:IntKind.u64.wrap ((v:Int)-(E:Int))=(((v+18446744073709551616-E)%18446744073709551616:Nat):Int):=by rw [IntKind.wrap_u64];omega
   rw [hE] at heM⊢
   obtain ⟨X,hX⟩:∃X,(v+18446744073709551616-E)%18446744073709551616=X:=⟨_,rfl⟩
   have hXM:X<18446744073709551616:=by rw [←hX];exact Nat.mod_lt _ (by omega)
   rw [hX] at hr
   have HE:=qA (And.intro hE hX)
   have HD:Hid (Wr wd (g+1) g 0 (stB 9223372036854775808 18446744073709551616 f k) 0∧qJ g 0 123 W1 wd∧g+1≤wd.heap.size):=by
    rw [hwd]
    exact ⟨hI.out.2.1.below (w':=wr.drewN m) ⟨rfl,rfl,rfl,Nat.le_refl _,fun _ _=>rfl⟩,⟨hI.out.2.2.os,hI.out.2.2.tape,hI.out.2.2.output,hI.out.2.2.size,hI.out.2.2.block,hI.out.2.2.cell,hI.out.2.2.frozen⟩,Nat.le_trans HM.out.2.1 hI.out.2.2.size⟩
   clear hE hX hwd
   go_wp2_with fail
   refine (fT X wd hXM).mono ?_
   rintro e ws ⟨rfl,rfl⟩
   have hsr:=fR 9223372036854775808 18446744073709551616 X (by omega) hXM
   go_wp2_with fail
   refine (mX g 0 (g+1) _ _ _ HD.out.1 (by omega) HD.out.2.2 (by have:=fX 9223372036854775808 18446744073709551616 f k;omega) (by omega) (by omega)).mono ?_
   rintro e w3 ⟨rfl,W3,O3⟩
   go_wp2_with fail
   go_roundw
   case rel=>
    refine ⟨k+1,by simp,hlt,?_,HD.out.2.1.trans O3⟩
    rw [stB,rsS,HV.out,HE.out.1,HE.out.2];exact W3
   case measure=>simp [intOf];omega
  ·have hk:k=n:=by have:=hI.out.1;omega
   go_wp2_with fail
   refine (qW g 0 (g+1) wr _ hI.out.2.1 (Nat.le_trans HM.out.2.1 hI.out.2.2.size) (by have:=fX 9223372036854775808 18446744073709551616 f k;omega) _ rfl).mono ?_
   rintro e w3 ⟨rfl,G3,B3⟩
   go_wp2_with fail
   go_ret2
   have e3:=HM.out.2.2.1
   have e4:=HG.out
   have e5:=hI.out.2.2.below (B:=w.heap.size) (by omega) (by have:=e3.size;omega)
   refine ⟨wr.heap.size,((stB 9223372036854775808 18446744073709551616 f n).length+7)/8,(packed_length _).symm,?_,rfl,(by first|exact G3|(rw [hk] at G3;exact G3)),?_⟩
   ·have:=e5.size;have:=e3.size;omega
   ·exact (e3.trans e5).trans (B3.mono (by have:=e5.size;have:=e3.size;omega))
end Go.Proofs.YtkpmalfigmimaaaGreatDoor
namespace Go.Proofs.YtkpmalfigmimaaaGreatDoor
open Go.RowKit
open M
theorem qGI (m:Nat) (hm:0<m) (y k:Int) (hk:(m:Int)=k):∃Y:Nat,y%k=(Y:Int)∧Y<m:=by
 subst hk
 have h1:=Int.emod_nonneg y (b:=(m:Int)) (by omega)
 have h2:=Int.emod_lt_of_pos y (b:=(m:Int)) (by omega)
 generalize y%(m:Int)=z at*
 exact ⟨z.toNat,(Int.toNat_of_nonneg h1).symm,by omega⟩
theorem qD2 (m E y Y x:Int) (h2:y%m=Y) (h1:(E+Y)%m=x):x=(E+y)%m:=by rw [←h1,←h2,Int.add_emod_emod]
theorem sR (H M:Nat) (hM:M=2*H) (hH:0<H) (f h:Nat→Nat) (k:Nat) (hf:∀i,i<k→f i=h i) (hr:∀i,i<k→f i<M) (hk:h k<M) (m:Int) (hm:(M:Int)=m):((exS M f k:Int)+sgW H M (rsS M h k))%m=(h k:Int):=by
 subst hm
 have e1:=nZ M f h k hf
 have e2:=qG5 H M (rsS M h k) hM (qCH M h (by omega) k)
 have e3:=qCG M h (by omega) k fun j hj=>by
  by_cases e:j=k
  ·rw [e];exact hk
  ·rw [←hf j (by omega)];exact hr j (by omega)
 rw [←Int.add_emod_emod,e2,e1,←e3]
 simp
theorem qJZ (x:Nat) (hx:x<18446744073709551616): -9223372036854775808≤sgW 9223372036854775808 18446744073709551616 x∧sgW 9223372036854775808 18446744073709551616 x≤9223372036854775807:=by
 unfold sgW;split<;>omega
theorem rZ:tL (stB 9223372036854775808 18446744073709551616) (fun h k=>varB (zig (sgW 9223372036854775808 18446744073709551616 (rsS 18446744073709551616 h k)))):=⟨fun h=>rfl,fun h k=>rfl⟩
theorem qAH.drewN {bf:(Nat→Nat)→Nat→List Bool} {w wr:World} {b:Nat} {s:ByteArray} {g n k a:Nat} {e1:Int} {f:Nat→Nat} (T:qAH bf w wr b s g n k a e1 f) (hb:b<wr.heap.size) (m:Nat):qAH bf w (wr.drewN m) b s g n k a e1 f:=
 ⟨T.row.ofBlock rfl,T.rd.below (w':=wr.drewN m) ⟨rfl,rfl,rfl,Nat.le_refl _,fun _ _=>rfl⟩ hb,⟨T.only.os,T.only.tape,T.only.output,T.only.size,T.only.block,T.only.cell,T.only.frozen⟩,T.size,T.rng,T.full⟩
theorem gI (v:Value) (bs:List Nat) (n:Nat) (w:World) (h:jW w v bs) (hb:∀n∈bs,n<256) (hl:bs.length≤1000000000000) (hn:n≤4096):
  Calls Tryz.prog 118 #[v,.int .i64 n] w (nM (stB 9223372036854775808 18446744073709551616) bs n w):=by
 have H:=qA h
 have HB:=qA hb
 have HL:=qA hl
 have hmk:=jZ n hn
 clear h hb hl
 go_enter Tryz.func118,Tryz.ntmps118
 go_wp2_with fail
 refine (kJ w v bs H.out).mono ?_
 rintro e w1 ⟨rfl,hw1⟩
 have HR:Hid (Rd w1 w.heap.size 0 (qG bs) 0 0∧w1.heap.size=w.heap.size+1∧Below w.heap.size w w1):=by
  rw [hw1];exact ⟨xZ w bs HL.out,by simp,(Below.refl _ _).alloc (Nat.le_refl _) _⟩
 clear hw1
 obtain ⟨b,hbw⟩:∃b,w.heap.size=b:=⟨_,rfl⟩
 have HBW:=qA hbw
 obtain ⟨g,hg⟩:∃g,w1.heap.size=g:=⟨_,rfl⟩
 have HA:Hid (qAH (stB 9223372036854775808 18446744073709551616) w1 (w1.alloc (.cells (Array.replicate n (Value.int .u64 0)) 36)) b (qG bs) g n 0 0 0 (fun _=>0)):=by
  have hA:Below w1.heap.size w1 (w1.alloc (.cells (Array.replicate n (Value.int .u64 0)) 36)):=(Below.refl _ w1).alloc (Nat.le_refl _) _
  have hbs:b<w1.heap.size:=by have:=HR.out.2.1;omega
  refine ⟨by rw [←hg];exact vP.new w1 n _,by rw [←hbw];exact HR.out.1.below hA (by omega),⟨hA.os,hA.tape,hA.output,hA.size,fun k hk _=>hA.block k hk,fun j _=>World.cell?_of_block (hA.block b hbs),fun j=>World.frozen?_of_block (w:=w1) (a:=⟨b,j,none⟩) (hA.block b hbs)⟩,by rw [←hg];simp,fun i hi=>by omega,fun h hB=>⟨rfl,by simp [stB],fun i hi=>by omega⟩⟩
 have hgb:g≠b:=by have:=HR.out.2.1;omega
 have HG:Hid (w1.heap.size≤g):=Nat.le_of_eq hg
 rw [hbw]
 clear hbw
 go_upto_region 3 with fail
 (try rw [hg])
 clear hg hmk
 generalize w1.alloc (.cells (Array.replicate n (Value.int .u64 0)) 36)=W0 at*
 go_wp2_with fail
 go_loopw [15] (fun t15 wr=>∃(k a:Nat) (e1:Int) (f:Nat→Nat),t15= .int .i64 (k:Int)∧Hid (k≤n∧qAH (stB 9223372036854775808 18446744073709551616) w1 wr b (qG bs) g n k a e1 f)) (fun t15 _=>n-(intOf t15).toNat)
 case atStart=>exact ⟨0,0,0,_,rfl,Nat.zero_le _,HA.out⟩
 case round=>
  obtain ⟨k,a,e1,f,rfl,hI⟩:=hrel
  by_cases hlt:k<n
  ·have HROW:Hid (qZ wr (some ⟨g,0,none⟩) k f∧∀i,i<k→f i<18446744073709551616):=⟨fun _=>⟨g,0,rfl,fun i hi=>by rw [Nat.zero_add,hI.out.2.row.cell i (by omega),if_pos hi]⟩,hI.out.2.rng⟩
   have HBG:Hid (b<wr.heap.size):=by have:=hI.out.2.size;have:=HR.out.2.1;have:=HG.out;have:=HBW.out;exact (by omega:b<wr.heap.size)
   go_wp2_with fail
   refine (vT (some ⟨g,0,none⟩) k n f wr HROW.out.1 (by omega) (by omega) HROW.out.2).mono ?_
   rintro e wd ⟨rfl,m,hwd⟩
   have HL1:Hid (qAH (stB 9223372036854775808 18446744073709551616) w1 wd b (qG bs) g n k a e1 f):=by rw [hwd];exact hI.out.2.drewN HBG.out m
   have heM:exS 18446744073709551616 f k<18446744073709551616:=lK _ _ (by decide) k HROW.out.2
   obtain ⟨E,hE⟩:∃E,exS 18446744073709551616 f k=E:=⟨_,rfl⟩
   rw [hE] at heM⊢
   have HE:=qA hE
   clear hE hwd
   go_wp2_with fail
   refine (qC9 b 0 (qG bs) a e1 wd HL1.out.rd).mono ?_
   rintro e w2 ⟨y,a',e2,rfl,hy,T⟩
   obtain ⟨Y,hY',_⟩:=qGI 18446744073709551616 (by decide) y 18446744073709551616 rfl
   obtain ⟨x,hX',hx⟩:=qGI 18446744073709551616 (by decide) ((E:Int)+(Y:Int)) 18446744073709551616 rfl
   have hY:IntKind.u64.wrap y=(Y:Int):=by rw [IntKind.wrap_u64];exact hY'
   have hX:IntKind.u64.wrap ((E:Int)+(Y:Int))=(x:Int):=by rw [IntKind.wrap_u64];exact hX'
   have HX:Hid ((x:Int)=((E:Int)+y)%18446744073709551616):=qD2 18446744073709551616 E y Y x hY' hX'
   clear hX' hY'
   have NX:=qAH.next rZ hlt HG.out hgb HL1.out x hx T.rd T.only (fun he h r hh hk hr=>by
    have h0:=qJZ (rsS 18446744073709551616 h k) (qCH _ _ (by decide) k)
    obtain ⟨h1,h2,h3⟩:=T.hit he _ _ h0 hr
    refine ⟨?_,h2,h3⟩
    have h4:=sR 9223372036854775808 18446744073709551616 (by decide) (by decide) f h k hh HROW.out.2 hk 18446744073709551616 rfl
    have h5:=HX.out
    rw [h1,←HE.out,h4] at h5
    exact Int.ofNat.inj h5)
   have RW:=HL1.out.row.ofBlock (T.only.block g HL1.out.size hgb)
   have c2:w2.cell? ⟨g,k,none⟩=some (.int .u64 0):=by rw [RW.cell k hlt,if_neg (by omega)];rfl
   have c3:=RW.fz k
   have HNX:=qA NX
   clear NX RW T
   go_wp2_with fail
   go_roundw
   case rel=>exact ⟨k+1,a',e2,_,by simp,hlt,HNX.out⟩
   case measure=>simp [intOf];omega
  ·have hk:k=n:=by have:=hI.out.1;omega
   have hI':Hid (qAH (stB 9223372036854775808 18446744073709551616) w1 wr b (qG bs) g n n a e1 f):=by have:=hI.out.2;rw [hk] at this;exact this
   go_wp2_with fail
   go_ret2
   refine ⟨g,f,?_,rfl,hI'.out.row,hI'.out.rng,?_,fun h hB i hi=>?_⟩
   ·have:=HR.out.2.1;have:=HG.out;omega
   ·have:=hI'.out.only.below (B:=w.heap.size) (by have:=HBW.out;omega) (by have:=HR.out.2.1;omega)
    exact HR.out.2.2.trans this
   ·exact (hI'.out.full h (by rw [qV bs HB.out];exact hB)).2.2 i hi
end Go.Proofs.YtkpmalfigmimaaaGreatDoor
namespace Go.Proofs.YtkpmalfigmimaaaGreatDoor
open Go.RowKit
def kD:Array MapEntry:=#[{key:= .int .i64 1,val:= .func (.func 126) #[] #[],born:=0},{key:= .int .i64 2,val:= .func (.func 127) #[] #[],born:=1},{key:= .int .i64 3,val:= .func (.func 128) #[] #[],born:=2},{key:= .int .i64 4,val:= .func (.func 129) #[] #[],born:=3},{key:= .int .i64 5,val:= .func (.func 130) #[] #[],born:=4},{key:= .int .i64 6,val:= .func (.func 131) #[] #[],born:=5}]
theorem zB (w:World):Calls Tryz.prog 105 #[] w fun e w'=>e= .returned (.map (some w.heap.size))∧w'.heap[w.heap.size]?=some (.map kD 6)∧Below w.heap.size w w':=by
 have b0:=heap_alloc_new w (.map #[] 0)
 have HB:Hid (Below w.heap.size w (w.alloc (.map #[] 0))):=(Below.refl _ w).alloc (Nat.le_refl _) _
 obtain ⟨r,hr⟩:∃r,w.heap.size=r:=⟨_,rfl⟩
 have HR:=qA hr
 go_enter Tryz.func105,Tryz.ntmps105
 go_upto_region 1 with fail
 refine wp_region_list ?_
 refine kG _ rfl _ rfl ?_
 rw [hr] at b0 HB⊢
 clear hr
 generalize w.alloc (.map #[] 0)=w0 at*
 refine qP _ rfl _ _ _ 171 rfl 3 169 Tryz.underlying171 Tryz.underlying3 r 0 _ 1 (.func (.func 126) #[] #[]) rfl rfl rfl b0 (by kernel_rfl) ?_
 intro w1 b1 B1
 have B1:=qA (B1 r (Nat.le_refl _))
 refine qP _ rfl _ _ _ 171 rfl 3 169 Tryz.underlying171 Tryz.underlying3 r 1 _ 2 (.func (.func 127) #[] #[]) rfl rfl rfl b1 (by kernel_rfl) ?_
 intro w2 b2 B2
 have B2:=qA (B2 r (Nat.le_refl _))
 refine qP _ rfl _ _ _ 171 rfl 3 169 Tryz.underlying171 Tryz.underlying3 r 2 _ 3 (.func (.func 128) #[] #[]) rfl rfl rfl b2 (by kernel_rfl) ?_
 intro w3 b3 B3
 have B3:=qA (B3 r (Nat.le_refl _))
 refine qP _ rfl _ _ _ 171 rfl 3 169 Tryz.underlying171 Tryz.underlying3 r 3 _ 4 (.func (.func 129) #[] #[]) rfl rfl rfl b3 (by kernel_rfl) ?_
 intro w4 b4 B4
 have B4:=qA (B4 r (Nat.le_refl _))
 refine qP _ rfl _ _ _ 171 rfl 3 169 Tryz.underlying171 Tryz.underlying3 r 4 _ 5 (.func (.func 130) #[] #[]) rfl rfl rfl b4 (by kernel_rfl) ?_
 intro w5 b5 B5
 have B5:=qA (B5 r (Nat.le_refl _))
 refine qP _ rfl _ _ _ 171 rfl 3 169 Tryz.underlying171 Tryz.underlying3 r 5 _ 6 (.func (.func 131) #[] #[]) rfl rfl rfl b5 (by kernel_rfl) ?_
 intro w6 b6 B6
 have B6:=qA (B6 r (Nat.le_refl _))
 go_wp2_with fail
 go_ret
 exact ⟨by rw [HR.out];rfl,by rw [HR.out];exact b6,by rw [HR.out];exact ((((((HB.out.trans B1.out).trans B2.out).trans B3.out).trans B4.out).trans B5.out).trans B6.out)⟩
def zM:Array MapEntry:=#[{key:= .int .i64 1,val:= .func (.func 114) #[] #[],born:=0},{key:= .int .i64 2,val:= .func (.func 115) #[] #[],born:=1},{key:= .int .i64 3,val:= .func (.func 116) #[] #[],born:=2},{key:= .int .i64 4,val:= .func (.func 117) #[] #[],born:=3},{key:= .int .i64 5,val:= .func (.func 118) #[] #[],born:=4},{key:= .int .i64 6,val:= .func (.func 119) #[] #[],born:=5}]
theorem jU (w:World):Calls Tryz.prog 101 #[] w fun e w'=>e= .returned (.map (some w.heap.size))∧w'.heap[w.heap.size]?=some (.map zM 6)∧Below w.heap.size w w':=by
 have b0:=heap_alloc_new w (.map #[] 0)
 have HB:Hid (Below w.heap.size w (w.alloc (.map #[] 0))):=(Below.refl _ w).alloc (Nat.le_refl _) _
 obtain ⟨r,hr⟩:∃r,w.heap.size=r:=⟨_,rfl⟩
 have HR:=qA hr
 go_enter Tryz.func101,Tryz.ntmps101
 go_upto_region 1 with fail
 refine wp_region_list ?_
 refine kG _ rfl _ rfl ?_
 rw [hr] at b0 HB⊢
 clear hr
 generalize w.alloc (.map #[] 0)=w0 at*
 refine qP _ rfl _ _ _ 162 rfl 3 160 Tryz.underlying162 Tryz.underlying3 r 0 _ 1 (.func (.func 114) #[] #[]) rfl rfl rfl b0 (by kernel_rfl) ?_
 intro w1 b1 B1
 have B1:=qA (B1 r (Nat.le_refl _))
 refine qP _ rfl _ _ _ 162 rfl 3 160 Tryz.underlying162 Tryz.underlying3 r 1 _ 2 (.func (.func 115) #[] #[]) rfl rfl rfl b1 (by kernel_rfl) ?_
 intro w2 b2 B2
 have B2:=qA (B2 r (Nat.le_refl _))
 refine qP _ rfl _ _ _ 162 rfl 3 160 Tryz.underlying162 Tryz.underlying3 r 2 _ 3 (.func (.func 116) #[] #[]) rfl rfl rfl b2 (by kernel_rfl) ?_
 intro w3 b3 B3
 have B3:=qA (B3 r (Nat.le_refl _))
 refine qP _ rfl _ _ _ 162 rfl 3 160 Tryz.underlying162 Tryz.underlying3 r 3 _ 4 (.func (.func 117) #[] #[]) rfl rfl rfl b3 (by kernel_rfl) ?_
 intro w4 b4 B4
 have B4:=qA (B4 r (Nat.le_refl _))
 refine qP _ rfl _ _ _ 162 rfl 3 160 Tryz.underlying162 Tryz.underlying3 r 4 _ 5 (.func (.func 118) #[] #[]) rfl rfl rfl b4 (by kernel_rfl) ?_
 intro w5 b5 B5
 have B5:=qA (B5 r (Nat.le_refl _))
 refine qP _ rfl _ _ _ 162 rfl 3 160 Tryz.underlying162 Tryz.underlying3 r 5 _ 6 (.func (.func 119) #[] #[]) rfl rfl rfl b5 (by kernel_rfl) ?_
 intro w6 b6 B6
 have B6:=qA (B6 r (Nat.le_refl _))
 go_wp2_with fail
 go_ret
 exact ⟨by rw [HR.out];rfl,by rw [HR.out];exact b6,by rw [HR.out];exact ((((((HB.out.trans B1.out).trans B2.out).trans B3.out).trans B4.out).trans B5.out).trans B6.out)⟩
end Go.Proofs.YtkpmalfigmimaaaGreatDoor
namespace Go.Proofs.YtkpmalfigmimaaaGreatDoor
open Go.RowKit
theorem qEZ (p:Option Addr) (n cap:Nat) (w:World) (h0:0<n) (hn:n≤4096) (Q:Value→Value→World→Prop)
  (hcall:∀w1,Below w.heap.size w w1→Calls Tryz.prog 126 #[.slice p n cap] w1 fun e w'=>∃b s,e= .returned (.tuple #[b,s])∧Q b s w'):
  Calls Tryz.prog 90 #[.int .i64 1,.slice p n cap] w fun e w'=>∃b s,e= .returned (.tuple #[b,s])∧Q b s w':=by
 have hf:Instr.findNow (.int .i64) (.int .i64 1) kD.toList 0=some (some (0,.func (.func 126) #[] #[])):=by kernel_rfl
 have hne:((n:Int)==0)=false:=by rw [beq_eq_false_iff_ne];omega
 go_enter Tryz.func90,Tryz.ntmps90
 go_wp2_with fail
 refine (zB w).mono ?_
 rintro e w1 ⟨rfl,b1,B1⟩
 have hl:=jJ (P:=Tryz.prog) (w:=w1) _ _ _ _ _ _ 1 _ _ Tryz.underlying171 Tryz.underlying3 b1 hf
 have HB:=qA B1
 clear B1 b1 hf
 go_wp2_with fail
 refine (hcall w1 HB.out).mono ?_
 rintro e w2 ⟨b,s,rfl,h⟩
 have HQ:=qA h
 clear h
 go_wp2_with fail
 go_ret2
 exact ⟨b,s,rfl,HQ.out⟩
theorem qF0 (p:Option Addr) (n cap:Nat) (w:World) (h0:0<n) (hn:n≤4096) (Q:Value→Value→World→Prop)
  (hcall:∀w1,Below w.heap.size w w1→Calls Tryz.prog 127 #[.slice p n cap] w1 fun e w'=>∃b s,e= .returned (.tuple #[b,s])∧Q b s w'):
  Calls Tryz.prog 90 #[.int .i64 2,.slice p n cap] w fun e w'=>∃b s,e= .returned (.tuple #[b,s])∧Q b s w':=by
 have hf:Instr.findNow (.int .i64) (.int .i64 2) kD.toList 0=some (some (1,.func (.func 127) #[] #[])):=by kernel_rfl
 have hne:((n:Int)==0)=false:=by rw [beq_eq_false_iff_ne];omega
 go_enter Tryz.func90,Tryz.ntmps90
 go_wp2_with fail
 refine (zB w).mono ?_
 rintro e w1 ⟨rfl,b1,B1⟩
 have hl:=jJ (P:=Tryz.prog) (w:=w1) _ _ _ _ _ _ 2 _ _ Tryz.underlying171 Tryz.underlying3 b1 hf
 have HB:=qA B1
 clear B1 b1 hf
 go_wp2_with fail
 refine (hcall w1 HB.out).mono ?_
 rintro e w2 ⟨b,s,rfl,h⟩
 have HQ:=qA h
 clear h
 go_wp2_with fail
 go_ret2
 exact ⟨b,s,rfl,HQ.out⟩
theorem qF1 (p:Option Addr) (n cap:Nat) (w:World) (h0:0<n) (hn:n≤4096) (Q:Value→Value→World→Prop)
  (hcall:∀w1,Below w.heap.size w w1→Calls Tryz.prog 128 #[.slice p n cap] w1 fun e w'=>∃b s,e= .returned (.tuple #[b,s])∧Q b s w'):
  Calls Tryz.prog 90 #[.int .i64 3,.slice p n cap] w fun e w'=>∃b s,e= .returned (.tuple #[b,s])∧Q b s w':=by
 have hf:Instr.findNow (.int .i64) (.int .i64 3) kD.toList 0=some (some (2,.func (.func 128) #[] #[])):=by kernel_rfl
 have hne:((n:Int)==0)=false:=by rw [beq_eq_false_iff_ne];omega
 go_enter Tryz.func90,Tryz.ntmps90
 go_wp2_with fail
 refine (zB w).mono ?_
 rintro e w1 ⟨rfl,b1,B1⟩
 have hl:=jJ (P:=Tryz.prog) (w:=w1) _ _ _ _ _ _ 3 _ _ Tryz.underlying171 Tryz.underlying3 b1 hf
 have HB:=qA B1
 clear B1 b1 hf
 go_wp2_with fail
 refine (hcall w1 HB.out).mono ?_
 rintro e w2 ⟨b,s,rfl,h⟩
 have HQ:=qA h
 clear h
 go_wp2_with fail
 go_ret2
 exact ⟨b,s,rfl,HQ.out⟩
theorem qF2 (p:Option Addr) (n cap:Nat) (w:World) (h0:0<n) (hn:n≤4096) (Q:Value→Value→World→Prop)
  (hcall:∀w1,Below w.heap.size w w1→Calls Tryz.prog 129 #[.slice p n cap] w1 fun e w'=>∃b s,e= .returned (.tuple #[b,s])∧Q b s w'):
  Calls Tryz.prog 90 #[.int .i64 4,.slice p n cap] w fun e w'=>∃b s,e= .returned (.tuple #[b,s])∧Q b s w':=by
 have hf:Instr.findNow (.int .i64) (.int .i64 4) kD.toList 0=some (some (3,.func (.func 129) #[] #[])):=by kernel_rfl
 have hne:((n:Int)==0)=false:=by rw [beq_eq_false_iff_ne];omega
 go_enter Tryz.func90,Tryz.ntmps90
 go_wp2_with fail
 refine (zB w).mono ?_
 rintro e w1 ⟨rfl,b1,B1⟩
 have hl:=jJ (P:=Tryz.prog) (w:=w1) _ _ _ _ _ _ 4 _ _ Tryz.underlying171 Tryz.underlying3 b1 hf
 have HB:=qA B1
 clear B1 b1 hf
 go_wp2_with fail
 refine (hcall w1 HB.out).mono ?_
 rintro e w2 ⟨b,s,rfl,h⟩
 have HQ:=qA h
 clear h
 go_wp2_with fail
 go_ret2
 exact ⟨b,s,rfl,HQ.out⟩
theorem qF3 (p:Option Addr) (n cap:Nat) (w:World) (h0:0<n) (hn:n≤4096) (Q:Value→Value→World→Prop)
  (hcall:∀w1,Below w.heap.size w w1→Calls Tryz.prog 130 #[.slice p n cap] w1 fun e w'=>∃b s,e= .returned (.tuple #[b,s])∧Q b s w'):
  Calls Tryz.prog 90 #[.int .i64 5,.slice p n cap] w fun e w'=>∃b s,e= .returned (.tuple #[b,s])∧Q b s w':=by
 have hf:Instr.findNow (.int .i64) (.int .i64 5) kD.toList 0=some (some (4,.func (.func 130) #[] #[])):=by kernel_rfl
 have hne:((n:Int)==0)=false:=by rw [beq_eq_false_iff_ne];omega
 go_enter Tryz.func90,Tryz.ntmps90
 go_wp2_with fail
 refine (zB w).mono ?_
 rintro e w1 ⟨rfl,b1,B1⟩
 have hl:=jJ (P:=Tryz.prog) (w:=w1) _ _ _ _ _ _ 5 _ _ Tryz.underlying171 Tryz.underlying3 b1 hf
 have HB:=qA B1
 clear B1 b1 hf
 go_wp2_with fail
 refine (hcall w1 HB.out).mono ?_
 rintro e w2 ⟨b,s,rfl,h⟩
 have HQ:=qA h
 clear h
 go_wp2_with fail
 go_ret2
 exact ⟨b,s,rfl,HQ.out⟩
theorem qF4 (p:Option Addr) (n cap:Nat) (w:World) (h0:0<n) (hn:n≤4096) (Q:Value→Value→World→Prop)
  (hcall:∀w1,Below w.heap.size w w1→Calls Tryz.prog 131 #[.slice p n cap] w1 fun e w'=>∃b s,e= .returned (.tuple #[b,s])∧Q b s w'):
  Calls Tryz.prog 90 #[.int .i64 6,.slice p n cap] w fun e w'=>∃b s,e= .returned (.tuple #[b,s])∧Q b s w':=by
 have hf:Instr.findNow (.int .i64) (.int .i64 6) kD.toList 0=some (some (5,.func (.func 131) #[] #[])):=by kernel_rfl
 have hne:((n:Int)==0)=false:=by rw [beq_eq_false_iff_ne];omega
 go_enter Tryz.func90,Tryz.ntmps90
 go_wp2_with fail
 refine (zB w).mono ?_
 rintro e w1 ⟨rfl,b1,B1⟩
 have hl:=jJ (P:=Tryz.prog) (w:=w1) _ _ _ _ _ _ 6 _ _ Tryz.underlying171 Tryz.underlying3 b1 hf
 have HB:=qA B1
 clear B1 b1 hf
 go_wp2_with fail
 refine (hcall w1 HB.out).mono ?_
 rintro e w2 ⟨b,s,rfl,h⟩
 have HQ:=qA h
 clear h
 go_wp2_with fail
 go_ret2
 exact ⟨b,s,rfl,HQ.out⟩
end Go.Proofs.YtkpmalfigmimaaaGreatDoor
namespace Go.Proofs.YtkpmalfigmimaaaGreatDoor
open Go.RowKit
theorem mI (k:Nat) (h1:1≤k) (h6:k≤6):∃i v,Instr.findNow (.int .i64) (.int .i64 (k:Int)) kD.toList 0=some (some (i,v)):=by
 obtain rfl|rfl|rfl|rfl|rfl|rfl:k=1∨k=2∨k=3∨k=4∨k=5∨k=6:=by omega
 all_goals exact ⟨_,_,rfl⟩
theorem rM (k:Nat) (p:Option Addr) (cap:Nat) (w:World) (h1:1≤k) (h6:k≤6):
  Calls Tryz.prog 90 #[.int .i64 k,.slice p 0 cap] w fun e w'=>e= .returned (.tuple #[.slice none 0 0,.int .i64 0])∧Below w.heap.size w w':=by
 obtain ⟨i,v,hf⟩:=mI k h1 h6
 go_enter Tryz.func90,Tryz.ntmps90
 go_wp2_with fail
 refine (zB w).mono ?_
 rintro e w1 ⟨rfl,b1,B1⟩
 have hl:=jJ (P:=Tryz.prog) (w:=w1) _ _ _ _ _ _ k _ _ Tryz.underlying171 Tryz.underlying3 b1 hf
 have HB:=qA B1
 clear B1 b1 hf
 go_wp2_with fail
 go_ret2
 exact ⟨rfl,HB.out⟩
end Go.Proofs.YtkpmalfigmimaaaGreatDoor
