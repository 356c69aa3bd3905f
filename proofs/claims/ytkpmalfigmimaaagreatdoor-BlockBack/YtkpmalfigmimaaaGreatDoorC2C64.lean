import Derived.Test.YtkpmalfigmimaaaGreatDoorC2J64
import Derived.Test.YtkpmalfigmimaaaGreatDoorB1P
import Derived.Lib.Mul64
import Derived.Laws.Bits64b
import Derived.Test.YtkpmalfigmimaaaGreatDoorP1J32
import Derived.Laws.CopyOwn
import Derived.Deep.RegionLaw
import Derived.Test.YtkpmalfigmimaaaGreatDoorC3F64
import Derived.Test.YtkpmalfigmimaaaGreatDoorT1S
set_option linter.unusedVariables false
set_option linter.unusedSimpArgs false
set_option maxRecDepth 100000
set_option maxHeartbeats 8000000
namespace Go.Proofs.YtkpmalfigmimaaaGreatDoor
open Go.RowKit
open M
def qC0 (R:List Bool) (n:Nat) (h:Nat→Nat):Prop:=(∀i,i<n→h i<18446744073709551616)∧(uq h n).length≤256∧0<n∧∃r,R=dcB 64 h n++r
structure qLF (w wr:World) (b:Nat) (s:ByteArray) (g u n k a:Nat) (e1:Int) (f:Nat→Nat):Prop where
 row:vP wr g u k f
 rd:Rd wr b 0 s a e1
 bel:Below b w wr
 size:g<wr.heap.size
 rng:∀i,i<k→f i<18446744073709551616
 full:∀h,qC0 (rb s) n h→e1=0∧(uq h n).length=u∧(∀i,i<k→f i=(uq h n).getD i 0)∧∃r,(rb s).drop a=plL 64 ((uq h n).drop k)++(pcF (uq h n) (bitLen (u-1)) h 0 n++r)
structure qL4 (w wr:World) (b:Nat) (s:ByteArray) (g1 u:Nat) (fU:Nat→Nat) (g n k a:Nat) (e1:Int) (f:Nat→Nat):Prop where
 un:vP wr g1 u u fU
 row:vP wr g n k f
 rd:Rd wr b 0 s a e1
 bel:Below b w wr
 size:g<wr.heap.size
 rng:∀i,i<k→f i<18446744073709551616
 full:∀h,qC0 (rb s) n h→e1=0∧(uq h n).length=u∧(∀i,i<u→fU i=(uq h n).getD i 0)∧(∃r,(rb s).drop a=pcF (uq h n) (bitLen (u-1)) h k (n-k)++r)∧∀i,i<k→f i=h i
theorem qB4 (U:List Nat) (k:Nat) (h:k<U.length):U.drop k=U.getD k 0::U.drop (k+1):=by
 rw [List.drop_eq_getElem_cons h];simp [h]
theorem lM (U:List Nat) (v:Nat) (h:v∈U):U.getD (U.idxOf v) 0=v:=by
 rw [List.getD_eq_getElem?_getD,List.getElem?_eq_getElem (List.idxOf_lt_length_of_mem h)]
 simp
theorem mN (v:Value) (bs:List Nat) (n:Nat) (w:World) (h:jW w v bs) (hb:∀n∈bs,n<256) (hl:bs.length≤1000000000000) (hn:n≤4096):
  Calls Tryz.prog 117 #[v,.int .i64 n] w (gW (fun f=>dcO 64 f n) bs n w):=by
 have H:=qA h
 have HB:=qA hb
 have HL:=qA hl
 clear h hb hl
 go_enter Tryz.func117,Tryz.ntmps117
 go_wp2_with fail
 refine (kJ w v bs H.out).mono ?_
 rintro e w1 ⟨rfl,hw1⟩
 obtain ⟨b,hbw⟩:∃b,w.heap.size=b:=⟨_,rfl⟩
 have HR:Hid (Rd w1 b 0 (qG bs) 0 0∧w1.heap.size=b+1∧Below b w w1):=by
  rw [hw1,←hbw];exact ⟨xZ w bs HL.out,by simp,(Below.refl _ _).alloc (Nat.le_refl _) _⟩
 have HBW:=qA hbw
 have HU:Hid (∀h,nB (fun f=>dcO 64 f n) bs n h→0<n→qC0 (rb (qG bs)) n h):=fun h hL h0=>by
  obtain ⟨l,r,q1,q2⟩:=hL.2.2 h0
  change dcO 64 h n=some l at q1
  unfold dcO at q1
  split at q1
  ·rename_i hle
   simp only [Option.some.injEq] at q1
   exact ⟨hL.1,hle,h0,r,by rw [qV bs HB.out,q1];exact q2⟩
  ·cases q1
 rw [hbw]
 clear hw1 hbw
 go_wp2_with fail
 refine (zJ b 0 (qG bs) 0 8 0 w1 HR.out.1 (by omega)).mono ?_
 rintro e w2 ⟨m,a2,e2,rfl,hm,T2⟩
 have hm8:m<256:=hm
 have HT2:=qA T2
 have hs2:b+1≤w2.heap.size:=by have:=T2.only.size;have:=HR.out.2.1;omega
 clear hm T2
 have r0:IntKind.i64.wrap (m:Int)=(m:Int):=by rw [IntKind.wrap_i64];omega
 have hmk:∀ww:World,(Instr.makeSlice 107 (.int .i64 ((m:Int)+1)) (.int .i64 ((m:Int)+1))).run Tryz.prog ww= .ok (.slice (some ⟨ww.heap.size,0,none⟩) (m+1) (m+1)) (ww.alloc (.cells (Array.replicate (m+1) (Value.int .u64 0)) 36)):=fun ww=>jZ (m+1) (by omega) ww
 obtain ⟨g1,hg1⟩:∃g1,w2.heap.size=g1:=⟨_,rfl⟩
 obtain ⟨W2,hW2⟩:∃W2,W2=w2.alloc (.cells (Array.replicate (m+1) (Value.int .u64 0)) 36):=⟨_,rfl⟩
 have HA:Hid (qLF w W2 b (qG bs) g1 (m+1) n 0 a2 e2 (fun _=>0)):=by
  have hA:Below w2.heap.size w2 W2:=by rw [hW2];exact (Below.refl _ w2).alloc (Nat.le_refl _) _
  refine ⟨by rw [←hg1,hW2];exact vP.new w2 (m+1) _,HT2.out.rd.below hA (by omega),(HR.out.2.2.trans (HT2.out.only.below (Nat.le_refl _) (by have:=HR.out.2.1;omega))).trans (hA.mono (by omega)),by rw [hW2,←hg1];simp,fun i hi=>by omega,fun h hL=>?_⟩
  obtain ⟨q1,q2,q3,r,q4⟩:=hL
  have hp:=qCR h n q3
  have q5:(rb (qG bs)).drop 0=bitsOf ((uq h n).length-1) 8++(plL 64 (uq h n)++(pcB (uq h n) (bitLen ((uq h n).length-1)) h n++r)):=by
   rw [List.drop_zero,q4,dcB];simp only [List.append_assoc]
  obtain ⟨q6,q7,q8⟩:=HT2.out.drop rfl ((uq h n).length-1) _ (show _<2^8 by omega) q5
  have q9:(uq h n).length=m+1:=by omega
  exact ⟨q7,q9,fun i hi=>by omega,r,by rw [q8,qFU,q9,List.drop_zero]⟩
 go_upto_region 3 with fail
 (try rw [hg1])
 (try rw [←hW2])
 clear hW2 hmk
 have HG1:Hid (b+1≤g1):=by show b+1≤g1;omega
 clear hg1 hs2
 go_wp2_with fail
 go_loopw [21] (fun t21 wr=>∃(k a:Nat) (e1:Int) (f:Nat→Nat),t21= .int .i64 (k:Int)∧Hid (k≤m+1∧qLF w wr b (qG bs) g1 (m+1) n k a e1 f)) (fun t21 _=>m+1-(intOf t21).toNat)
 case atStart=>exact ⟨0,a2,e2,_,rfl,Nat.zero_le _,HA.out⟩
 case round=>
  obtain ⟨k,a,e1,f,rfl,hI⟩:=hrel
  by_cases hlt:k<m+1
  ·go_wp2_with fail
   refine (kN b 0 (qG bs) a e1 wr hI.out.2.rd).mono ?_
   rintro e w3 ⟨x,a3,e3,rfl,hx,T⟩
   have HK:Hid (Hk (fun y=>bitsOf y 64) (fun y=>y<2^64) wr w3 b 0 (qG bs) a e1 x a3 e3):=yV hI.out.2.rd.le hx T
   clear T
   have hgb:g1≠b:=by have:=HG1.out;omega
   have RW:=hI.out.2.row.ofBlock (HK.out.only.block g1 hI.out.2.size hgb)
   have c2:w3.cell? ⟨g1,k,none⟩=some (.int .u64 0):=by rw [RW.cell k hlt,if_neg (by omega)];rfl
   have c3:=RW.fz k
   have HNX:Hid (qLF w (w3.setCell ⟨g1,k,none⟩ (.int .u64 (x:Int))) b (qG bs) g1 (m+1) n (k+1) a3 e3 (fun i=>if i=k then x else f i)):=by
    have D:=hI.out.2
    have hbs:b+1≤wr.heap.size:=by have:=D.size;have:=HG1.out;omega
    refine ⟨RW.set hlt x,HK.out.rd.setOther' g1 _ hgb _,(D.bel.trans (HK.out.only.below (Nat.le_refl _) (by omega))).setCell (p:=⟨g1,k,none⟩) (show b≤g1 by have:=HG1.out;omega) _,by simp [World.setCell];have:=HK.out.only.size;have:=D.size;omega,fun i hi=>?_,fun h hL=>?_⟩
    ·by_cases e:i=k
     ·simp [e];exact hx
     ·simp [e];exact D.rng i (by omega)
    ·obtain ⟨q1,q2,q3,r,q4⟩:=D.full h hL
     rw [qB4 _ k (by omega),plL,List.append_assoc] at q4
     have q0:(uq h n).getD k 0<2^64:=by
      have hk2:k<(uq h n).length:=by omega
      have:=qHZ h 18446744073709551616 n hL.1 ((uq h n).getD k 0) (by rw [List.getD_eq_getElem?_getD,List.getElem?_eq_getElem hk2];exact List.getElem_mem hk2)
      exact this
     obtain ⟨q6,q7,q8⟩:=HK.out.drop q1 _ _ q0 q4
     refine ⟨q7,q2,fun i hi=>?_,r,q8⟩
     by_cases e:i=k
     ·simp [e,q6]
     ·simp [e];rw [q3 i (by omega)];simp
   clear RW
   go_wp2_with fail
   go_roundw
   case rel=>exact ⟨k+1,a3,e3,_,by simp,hlt,HNX.out⟩
   case measure=>simp [intOf];omega
  ·have hk:k=m+1:=by have:=hI.out.1;omega
   subst hk
   have HD:=qA hI.out.2
   clear hI
   have hmk:=jZ n hn
   obtain ⟨g,hg⟩:∃g,wr.heap.size=g:=⟨_,rfl⟩
   obtain ⟨W3,hW3⟩:∃W3,W3=wr.alloc (.cells (Array.replicate n (Value.int .u64 0)) 36):=⟨_,rfl⟩
   have HP:Hid (qL4 w W3 b (qG bs) g1 (m+1) f g n 0 a e1 (fun _=>0)):=by
    have hA:Below wr.heap.size wr W3:=by rw [hW3];exact (Below.refl _ wr).alloc (Nat.le_refl _) _
    have hs:=HD.out.size
    have hs1:=HG1.out
    refine ⟨HD.out.row.ofBlock (hA.block g1 hs),by rw [←hg,hW3];exact vP.new wr n _,HD.out.rd.below hA (by omega),HD.out.bel.trans (hA.mono (by omega)),by rw [hW3,←hg];simp,fun i hi=>by omega,fun h hL=>?_⟩
    obtain ⟨q1,q2,q3,r,q4⟩:=HD.out.full h hL
    have q6:(uq h n).drop (m+1)=[]:=List.drop_eq_nil_of_le (by omega)
    rw [q6,plL,List.nil_append] at q4
    exact ⟨q1,q2,q3,⟨r,by rw [q4,Nat.sub_zero]⟩,fun i hi=>by omega⟩
   have HRU:=qA HD.out.rng
   have HGG:Hid (g1<g):=by show g1<g;have:=HD.out.size;omega
   clear HD
   go_upto_region 9 with fail
   (try rw [hg])
   (try rw [←hW3])
   clear hW3 hmk hg
   go_wp2_with fail
   go_loopw [34] (fun t34 wr=>∃(k a:Nat) (e1:Int) (fl:Nat→Nat),t34= .int .i64 (k:Int)∧Hid (k≤n∧qL4 w wr b (qG bs) g1 (m+1) f g n k a e1 fl)) (fun t34 _=>n-(intOf t34).toNat)
   case atStart=>exact ⟨0,a,e1,_,rfl,Nat.zero_le _,HP.out⟩
   case round=>
    obtain ⟨k,a,e1,fl,rfl,hJ⟩:=hrel
    by_cases hlt2:k<n
    ·have hb8:bitLen m≤8:=bitLen_le8 m hm8
     have PW:=qA (uO (some ⟨g1,0,none⟩) (m+1) (m+1) wr (by omega) (by omega))
     rw [show m+1-1=m from rfl] at PW
     obtain ⟨q,hq⟩:∃q,bitLen m=q:=⟨_,rfl⟩
     rw [hq] at PW hb8
     have HQ:=qA hq
     clear hq
     go_wp2_with fail
     refine PW.out.mono ?_
     rintro e w4 ⟨rfl,hw4⟩
     have hw4:=hw4.symm
     subst hw4
     go_wp2_with fail
     refine (zJ b 0 (qG bs) a q e1 wr hJ.out.2.rd (by omega)).mono ?_
     rintro e w5 ⟨y,a5,e5,rfl,hy,T5⟩
     have HT5:=qA T5
     have hy2:y<256:=Nat.lt_of_lt_of_le hy (Nat.le_trans (Nat.pow_le_pow_right (by omega) hb8) (by decide))
     clear T5 hy
     have r1:IntKind.i64.wrap (y:Int)=(y:Int):=by rw [IntKind.wrap_i64];omega
     have HF:Hid (∀h,qC0 (rb (qG bs)) n h→e5=0∧y=(uq h n).idxOf (h k)∧(uq h n).length=m+1∧∃r,(rb (qG bs)).drop a5=pcF (uq h n) q h (k+1) (n-(k+1))++r):=fun h hL=>by
      obtain ⟨q1,q2,q3,⟨r,q4⟩,q5⟩:=hJ.out.2.full h hL
      rw [show m+1-1=m from rfl,HQ.out,show n-k=(n-(k+1))+1 from by omega,pcF,List.append_assoc] at q4
      have hidx:=List.idxOf_lt_length_of_mem (gK h k n hlt2)
      have q6:(uq h n).idxOf (h k)<2^q:=by have:=(bitLen_spec m).1;rw [HQ.out] at this;omega
      obtain ⟨q7,q8,q9⟩:=HT5.out.drop q1 _ _ q6 q4
      exact ⟨q8,q7,q2,r,q9⟩
     by_cases hge:m+1≤y
     ·have hge':(y:Int)≥(m:Int)+1:=by omega
      have HB5:Hid (Below b w w5):=hJ.out.2.bel.trans (HT5.out.only.below (Nat.le_refl _) (by have:=hJ.out.2.size;have:=HGG.out;have:=HG1.out;omega))
      go_wp2_with fail
      go_ret2
      refine .inl ⟨83,by decide,rfl,by rw [HBW.out];exact HB5.out,fun h hL=>?_⟩
      obtain ⟨_,q2,q3,_⟩:=HF.out h (HU.out h hL (by omega))
      have:=List.idxOf_lt_length_of_mem (gK h k n hlt2)
      omega
     ·have hge':¬((y:Int)≥(m:Int)+1):=by omega
      have hgb1:g1≠b:=by have:=HG1.out;omega
      have hgb:g≠b:=by have:=HG1.out;have:=HGG.out;omega
      have hgg:g≠g1:=by have:=HGG.out;omega
      have hsz:=hJ.out.2.size
      have UN:=hJ.out.2.un.ofBlock (HT5.out.only.block g1 (by have:=HGG.out;omega) hgb1)
      have RW:=hJ.out.2.row.ofBlock (HT5.out.only.block g hsz hgb)
      have cU:w5.cell? ⟨g1,y,none⟩=some (.int .u64 (f y:Int)):=by rw [UN.cell y (by omega),if_pos (by omega)]
      have c2:w5.cell? ⟨g,k,none⟩=some (.int .u64 0):=by rw [RW.cell k hlt2,if_neg (by omega)];rfl
      have c3:=RW.fz k
      obtain ⟨x,hx⟩:∃x,f y=x:=⟨_,rfl⟩
      have hxM:x<18446744073709551616:=by rw [←hx];exact HRU.out y (by omega)
      rw [hx] at cU
      have HNX:Hid (qL4 w (w5.setCell ⟨g,k,none⟩ (.int .u64 (x:Int))) b (qG bs) g1 (m+1) f g n (k+1) a5 e5 (fun i=>if i=k then x else fl i)):=by
       have D:=hJ.out.2
       have hs5:=HT5.out.only.size
       have hg1b:=HG1.out
       have hgg1:=HGG.out
       refine ⟨UN.ofBlock (Below.heap_setCell _ _ _ _ (fun e=>hgg e.symm)),RW.set hlt2 x,HT5.out.rd.setOther' g _ hgb _,(D.bel.trans (HT5.out.only.below (Nat.le_refl _) (by omega))).setCell (p:=⟨g,k,none⟩) (show b≤g by omega) _,by simp [World.setCell];omega,fun i hi=>?_,fun h hL=>?_⟩
       ·by_cases e:i=k
        ·simp [e];exact hxM
        ·simp [e];exact D.rng i (by omega)
       ·obtain ⟨q1,q2,q3,r,q4⟩:=HF.out h hL
        obtain ⟨_,_,p3,_,p5⟩:=D.full h hL
        refine ⟨q1,q3,p3,⟨r,by rw [show m+1-1=m from rfl,HQ.out];exact q4⟩,fun i hi=>?_⟩
        by_cases e:i=k
        ·simp only [e,if_true]
         rw [←hx,p3 y (by omega),q2,lM _ _ (gK h k n hlt2)]
        ·simp only [e,if_false];exact p5 i (by omega)
      clear UN RW hx hJ
      go_wp2_with fail
      go_roundw
      case rel=>
       refine ⟨_,_,_,_,_,_,_,_,_,_,_,_,_,_,_,_,_,_,_,_,_,_,_,_,⟨k+1,a5,e5,_,?_,hlt2,HNX.out⟩,rfl⟩
       simp
      case measure=>simp [intOf];omega
    ·have hk2:k=n:=by have:=hJ.out.1;omega
     have hJ':Hid (qL4 w wr b (qG bs) g1 (m+1) f g n n a e1 fl):=by have:=hJ.out.2;rw [hk2] at this;exact this
     clear hJ
     go_wp2_with fail
     go_ret2
     refine .inr ⟨_,fl,rfl,⟨hJ'.out.row.owns (by have:=HBW.out;have:=HG1.out;have:=HGG.out;omega) hn,(by rw [HBW.out];exact hJ'.out.bel),Nat.le_refl _⟩,hJ'.out.rng,fun h hL i hi=>?_⟩
     exact (hJ'.out.full h (HU.out h hL (by omega))).2.2.2.2 i hi
end Go.Proofs.YtkpmalfigmimaaaGreatDoor
namespace Go.Proofs.YtkpmalfigmimaaaGreatDoor
open Go.RowKit
theorem bI (a:Nat) (ha:a<4294967296):bits .and .u64 (a:Int) 4294967295=(a:Int):=by
 have h:=bits_and_u64_nat a 4294967295 (by omega) (by omega)
 have e:a&&&4294967295=a%4294967296:=Nat.and_two_pow_sub_one_eq_mod a 32
 rw [e,Nat.mod_eq_of_lt ha] at h
 exact h
theorem qFJ (c:Nat) (hc:c<4294967296) (w:World):
  Calls Tryz.prog 203 #[.int .u64 1,.int .u64 c] w fun e w'=>e= .returned (.tuple #[.int .u64 0,.int .u64 c])∧w'=w:=by
 have m1:bits .and .u64 1 4294967295=1:=bI 1 (by omega)
 have m0:bits .and .u64 0 4294967295=0:=bI 0 (by omega)
 have mc:=bI c hc
 have dc:(c:Int)/4294967296=0:=by omega
 have r0:IntKind.u64.wrap (c:Int)=(c:Int):=by rw [IntKind.wrap_u64];omega
 have r1:IntKind.u64.wrap 0=0:=by rw [IntKind.wrap_u64];rfl
 go_enter Tryz.func203,Tryz.ntmps203
 go_wp2_with fail
 try simp only [m1,m0,mc,dc,r0,r1,Int.one_mul,Int.zero_mul,Int.mul_zero,Int.add_zero,Int.zero_add,Int.zero_ediv]
 go_ret2
 exact ⟨rfl,rfl⟩
theorem bK (c:Nat) (hc:c<4294967296) (w:World):
  Calls Tryz.prog 172 #[.int .u64 1,.int .u64 c] w fun e w'=>e= .returned (.tuple #[.int .u64 0,.int .u64 c])∧w'=w:=by
 go_enter Tryz.func172,Tryz.ntmps172
 go_wp2_with fail
 refine (qFJ c hc w).mono ?_
 rintro e w1 ⟨rfl,rfl⟩
 go_wp2_with fail
 go_ret2
 exact ⟨rfl,rfl⟩
end Go.Proofs.YtkpmalfigmimaaaGreatDoor
namespace Go.Proofs.YtkpmalfigmimaaaGreatDoor
open Go.RowKit
theorem mA (v z:Value) (c m k:Nat) (h:m+k≤c):splice (List.replicate m v++List.replicate (c-m) z) m (List.replicate k v)=List.replicate (m+k) v++List.replicate (c-(m+k)) z:=by
 unfold splice
 rw [List.take_left' (by simp),List.length_replicate,List.drop_append,List.drop_eq_nil_of_le (by simp),List.nil_append,List.length_replicate,List.drop_replicate,←List.append_assoc,List.replicate_append_replicate]
 congr 2;omega
theorem fL (v c b o cp:Nat) (w:World) (hv:w.cell? ⟨b,o,none⟩=some (.int .u64 (v:Int))) (h0:0<c) (hc:c≤4096):
  Calls Tryz.prog 144 #[.slice (some ⟨b,o,none⟩) 1 cp,.int .i64 c] w fun e w'=>e= .returned (.slice (some ⟨w.heap.size,0,none⟩) c c)∧w'.heap[w.heap.size]?=some (.cells (List.replicate c (Value.int .u64 (v:Int))).toArray 36 (0,0))∧Below w.heap.size w w':=by
 have HV:=qA hv
 have hbw:b<w.heap.size:=block_lt_of_cell hv
 have hsz:(Tryz.prog.info? 36).map (·.size)=some 1:=by kernel_rfl
 have hmk:=jZ c hc
 have r1:IntKind.u64.wrap (c:Int)=(c:Int):=by rw [IntKind.wrap_u64];omega
 obtain ⟨g,hg⟩:∃g,w.heap.size=g:=⟨_,rfl⟩
 rw [hg] at hbw⊢
 obtain ⟨W1,hW1⟩:∃W1,W1=w.alloc (.cells (Array.replicate c (Value.int .u64 0)) 36):=⟨_,rfl⟩
 have HG:Hid (W1.heap[g]?=some (.cells (List.replicate c (Value.int .u64 0)).toArray 36 (0,0))∧Below g w W1∧W1.cell? ⟨b,o,none⟩=some (.int .u64 (v:Int))):=by
  have hB:Below g w W1:=by rw [hW1,←hg];exact (Below.refl _ w).alloc (Nat.le_refl _) _
  refine ⟨?_,hB,(hB.cell (p:=⟨b,o,none⟩) hbw).trans hv⟩
  have:=heap_alloc_new w (.cells (Array.replicate c (Value.int .u64 0)) 36)
  rw [hW1,←hg,this];simp
 clear hv
 go_enter Tryz.func144,Tryz.ntmps144
 go_wp2_with fail
 refine (bK c (by omega) w).mono ?_
 rintro e w1 ⟨rfl,hw1⟩
 have hw2:=hw1.symm
 subst hw2
 clear hw1
 go_upto_region 7 with fail
 (try rw [hg])
 (try rw [←hW1])
 clear hW1 hmk
 have HC:Hid (∀(j:Nat) (u:Value),[Value.int .u64 (v:Int)][j]?=some u→W1.cell? ((⟨b,o,none⟩:Addr).add j)=some u):=fun j u hu=>by
  match j with
  |0=>simp at hu;subst hu;exact HG.out.2.2
  |j+1=>simp at hu
 have hrun:∃w2,(Builtin.copy_ #[107,107] 3 #[.slice (some ⟨g,0,none⟩) c c,.slice (some ⟨b,o,none⟩) 1 cp]).run Tryz.prog W1= .ok (.int .i64 1) w2∧Hid (w2.heap[g]?=some (.cells (splice (List.replicate c (Value.int .u64 0)) 0 [Value.int .u64 (v:Int)]).toArray 36 (0,0))∧Below g w w2):=by
  have h1:=run_copy_row (P:=Tryz.prog) W1 107 107 3 36 g 0 c c ⟨b,o,none⟩ 1 cp (List.replicate c (Value.int .u64 0)).toArray 36 [Value.int .u64 (v:Int)] Tryz.underlying107 hsz HG.out.1 (show 1=min 1 c by omega) HC.out (by simp;omega) (fun u hu=>by simp at hu;subst hu;rfl)
  exact ⟨_,h1,by simpa [splice] using setRow_heap W1 g _ _ _ _ HG.out.1,below_setRow HG.out.2.1 (Nat.le_refl _) _⟩
 obtain ⟨w2,hrun,hw2⟩:=hrun
 have hg2:Hid (w2.heap[g]?=some (.cells (splice (List.replicate c (Value.int .u64 0)) 0 [Value.int .u64 (v:Int)]).toArray 36 (0,0))):=hw2.out.1
 have hB2:=hw2.out.2
 have HG2:Hid (w2.heap[g]?=some (.cells (List.replicate 1 (Value.int .u64 (v:Int))++List.replicate (c-1) (Value.int .u64 0)).toArray 36 (0,0))):=by
  have:=mA (Value.int .u64 (v:Int)) (Value.int .u64 0) c 0 1 (by omega)
  simp only [List.replicate_zero,List.nil_append,Nat.sub_zero,Nat.zero_add] at this
  rw [←this];exact hg2.out
 have HB2:=qA hB2
 clear hg2 hB2 hw2
 go_wp2_with fail
 go_loopw [8] (fun t8 wr=>∃m:Nat,t8= .int .i64 (m:Int)∧Hid (0<m∧m≤c∧wr.heap[g]?=some (.cells (List.replicate m (Value.int .u64 (v:Int))++List.replicate (c-m) (Value.int .u64 0)).toArray 36 (0,0))∧Below g w wr)) (fun t8 _=>c-(intOf t8).toNat)
 case atStart=>exact ⟨1,rfl,by omega,by omega,HG2.out,HB2.out⟩
 case round=>
  obtain ⟨m,rfl,hI⟩:=hrel
  by_cases hlt:m<c
  ·obtain ⟨k,hk⟩:∃k,k=min m (c-m):=⟨_,rfl⟩
   have h0m:0<m:=hI.out.1
   have hk1:0<k∧m+k≤c:=by omega
   have HS:Hid (∀(wq:World),wq.heap=wr.heap→∀(j:Nat) (u:Value),(List.replicate k (Value.int .u64 (v:Int)))[j]?=some u→wq.cell? ((⟨g,0,none⟩:Addr).add j)=some u):=fun wq hq j u hu=>by
    rw [Addr.add_mid,Nat.zero_add,cell_of_row wq g j _ _ _ (by rw [hq];exact hI.out.2.2.1)]
    rw [List.getElem?_replicate] at hu
    split at hu
    ·rename_i hj
     simp only [List.getElem?_toArray]
     rw [List.getElem?_append_left (by simp;omega),List.getElem?_replicate,if_pos (by omega)];exact hu
    ·cases hu
   have HB3:=qA hI.out.2.2.2
   have n1:¬c=m:=by omega
   have hmc:m≤c:=by omega
   have n2:¬m=0:=by omega
   have n3:wrap64 ((m:Int)+(k:Int))=((m+k:Nat):Int):=by unfold wrap64;omega
   have n4:IntKind.i64.wrap ((m:Int)+(k:Int))=((m+k:Nat):Int):=by rw [IntKind.wrap_i64];omega
   have HK:=qA hk
   clear hk
   go_wp2_with fail
   go_region_law (refine step_copy_splice rfl (.tmp 41) (.tmp 44) 107 107 rfl 36 Tryz.underlying107 hsz (some ⟨g,m,none⟩) (some ⟨g,0,none⟩) (c-m) (c-m) m c (by simp [Act.eval,Act.put]) (by simp [Act.eval,Act.put]) g m (List.replicate m (Value.int .u64 (v:Int))++List.replicate (c-m) (Value.int .u64 0)) 36 hI.out.2.2.1 (List.replicate k (Value.int .u64 (v:Int))) (by rw [List.length_replicate];exact HK.out) (fun _=>⟨rfl,_,rfl,HS.out _ rfl⟩) (by simp;omega) (fun u hu=>by rw [List.eq_of_mem_replicate hu];rfl) g w ⟨HB3.out.os,HB3.out.tape,HB3.out.output,HB3.out.size,HB3.out.block⟩ (Nat.le_refl _) ?_;intro w3 hg3 hB3)
   have HG3:Hid (w3.heap[g]?=some (.cells (List.replicate (m+k) (Value.int .u64 (v:Int))++List.replicate (c-(m+k)) (Value.int .u64 0)).toArray 36 (0,0))):=by
    rw [←mA _ _ c m k hk1.2];exact hg3.out
   have HB4:=qA hB3
   clear hg3 hB3
   simp [Act.put]
   go_roundw
   case rel=>exact ⟨_,_,_,_,_,_,_,_,_,_,_,_,_,_,⟨m+k,by simp,by omega,by omega,HG3.out,HB4.out⟩,rfl⟩
   case measure=>simp [intOf];omega
  ·have hm:m=c:=by have:=hI.out.2.1;omega
   have HE:Hid (wr.heap[g]?=some (.cells (List.replicate c (Value.int .u64 (v:Int))).toArray 36 (0,0))):=by
    have:=hI.out.2.2.1
    rw [hm,Nat.sub_self,List.replicate_zero,List.append_nil] at this
    exact this
   have HB5:=qA hI.out.2.2.2
   go_wp2_with fail
   go_ret
   exact ⟨rfl,HE.out,HB5.out⟩
end Go.Proofs.YtkpmalfigmimaaaGreatDoor
namespace Go.Proofs.YtkpmalfigmimaaaGreatDoor
open Go.RowKit
open M
theorem qCC (v:Nat) (q:Addr) (b o n cap:Nat) (x:Nat) (w:World) (hq:w.cell? q=some (.slice (some ⟨b,o,none⟩) n cap)) (hc:w.cell? ⟨b,o,none⟩=some (.int .u64 (x:Int))) (h0:0<n):
  Calls Tryz.prog 192 #[.int .u64 v,.pointer (some q)] w fun e w'=>e= .returned (.bool (decide (v≠x)))∧w'=w:=by
 have e0:(((v:Int)) !=(x:Int))=decide (v≠x):=by rw [Bool.eq_iff_iff,bne_iff_ne,decide_eq_true_iff];omega
 have e1:=qA e0
 clear e0
 go_enter Tryz.func192,Tryz.ntmps192
 go_wp2_with fail
 go_ret
 exact ⟨by rw [←e1.out];rfl,rfl⟩
theorem nR (f:Nat→Nat) (v i k c:Nat):qI (fun j=>f (c+j)) v i k=qI f v (c+i) k:=by
 induction k generalizing i with
 |zero=>rfl
 |succ k ih=>rw [qI,qI,ih (i+1)];rfl
theorem wQ (q:Addr) (b o n cap:Nat) (f:Nat→Nat) (w:World) (hq:w.cell? q=some (.slice (some ⟨b,o,none⟩) n cap)) (hc:∀i,i<n→w.cell? ⟨b,o+i,none⟩=some (.int .u64 (f i:Int))) (h0:0<n) (hn:n≤4096) (hcap:n≤cap):
  Calls Tryz.prog 191 #[.slice (some ⟨b,o,none⟩) n cap,.func (.func 192) #[] #[.pointer (some q)]] w fun e w'=>e= .returned (.int .i64 (if qI f (f 0) 0 n<n then (qI f (f 0) 0 n:Int) else -1))∧w'=w:=by
 have HC:=qA hc
 have HQ:=qA hq
 have HC0:Hid (w.cell? ⟨b,o,none⟩=some (.int .u64 (f 0:Int))):=hc 0 h0
 obtain ⟨res,hres⟩:∃res:Int,(if qI f (f 0) 0 n<n then (qI f (f 0) 0 n:Int) else -1)=res:=⟨_,rfl⟩
 rw [hres]
 have HRES:=qA hres
 clear hc hq hres
 go_enter Tryz.func191,Tryz.ntmps191
 go_wp2_with fail
 go_loopw [8] (fun t8 wr=>∃k:Nat,t8= .int .i64 (k:Int)∧wr=w∧Hid (k≤n∧∀j,j<k→f j=f 0)) (fun t8 _=>n-(intOf t8).toNat)
 case atStart=>exact ⟨0,rfl,rfl,Nat.zero_le _,fun j hj=>by omega⟩
 case round=>
  obtain ⟨k,rfl,rfl,hI⟩:=hrel
  by_cases hlt:k<n
  ·obtain ⟨v,hv⟩:∃v,f k=v:=⟨_,rfl⟩
   have c1:wr.cell? ⟨b,o+k,none⟩=some (.int .u64 (v:Int)):=by rw [←hv];exact HC.out k hlt
   have HV:=qA hv
   clear hv
   by_cases hne:v=f 0
   ·have HN:=qA hne
    clear hne
    go_wp2_with fail
    refine (qCC v q b o n cap (f 0) wr HQ.out HC0.out h0).mono ?_
    rintro e w1 ⟨rfl,rfl⟩
    rw [decide_eq_false (fun h=>h HN.out)]
    go_wp2_with fail
    go_roundw
    case rel=>exact ⟨k+1,by simp,trivial,hlt,fun j hj=>by
     by_cases e:j=k
     ·rw [e,HV.out,HN.out]
     ·exact hI.out.2 j (by omega)⟩
    case measure=>simp [intOf];omega
   ·have ea:qI f (f 0) 0 n=k:=uX f (f 0) 0 n k (by omega) (fun j hj=>by rw [Nat.zero_add];exact hI.out.2 j hj) (fun _=>by rw [Nat.zero_add,HV.out];exact hne)
    have HA:=qA ea
    have HN:=qA hne
    clear ea hne
    go_wp2_with fail
    refine (qCC v q b o n cap (f 0) wr HQ.out HC0.out h0).mono ?_
    rintro e w1 ⟨rfl,rfl⟩
    rw [decide_eq_true HN.out]
    go_wp2_with fail
    go_ret
    exact ⟨by rw [←HRES.out,HA.out,if_pos hlt];rfl,rfl⟩
  ·have hk:k=n:=by have:=hI.out.1;omega
   have ea:qI f (f 0) 0 n=n:=uX f (f 0) 0 n n (by omega) (fun j hj=>by rw [Nat.zero_add];exact hI.out.2 j (by omega)) (fun h=>by omega)
   have HA:=qA ea
   clear ea
   go_wp2_with fail
   go_ret
   exact ⟨by rw [←HRES.out,HA.out,if_neg (by omega)];rfl,rfl⟩
theorem mE (b o n cap:Nat) (f:Nat→Nat) (w:World) (hc:∀i,i<n→w.cell? ⟨b,o+i,none⟩=some (.int .u64 (f i:Int))) (h0:0<n) (hn:n≤4096) (hcap:n≤cap):
  Calls Tryz.prog 162 #[.slice (some ⟨b,o,none⟩) n cap] w fun e w'=>e= .returned (.int .i64 (qI f (f 0) 0 n:Nat))∧Below w.heap.size w w':=by
 have HC:=qA hc
 have hle:=zG f (f 0) 0 n
 obtain ⟨A,hA⟩:∃A,qI f (f 0) 0 n=A:=⟨_,rfl⟩
 have HA:=qA hA
 rw [hA] at hle⊢
 obtain ⟨g,hg⟩:∃g,w.heap.size=g:=⟨_,rfl⟩
 obtain ⟨W1,hW1⟩:∃W1,W1=w.alloc (.cells #[.slice (some ⟨b,o,none⟩) n cap] 107):=⟨_,rfl⟩
 have HB:Hid (Below w.heap.size w W1):=by rw [hW1];exact (Below.refl _ w).alloc (Nat.le_refl _) _
 have HW:Hid (W1.cell? ⟨g,0,none⟩=some (.slice (some ⟨b,o,none⟩) n cap)):=by rw [←hg,hW1];exact cell_of_row _ _ 0 _ _ _ (heap_alloc_new w _)
 have HC1:Hid (∀i,i<n→W1.cell? ⟨b,o+i,none⟩=some (.int .u64 (f i:Int))):=fun i hi=>by
  rw [HB.out.cell (p:=⟨b,o+i,none⟩) (block_lt_of_cell (hc i hi))];exact hc i hi
 clear hc hA
 by_cases hlt:A<n
 ·go_enter Tryz.func162,Tryz.ntmps162
  go_upto_region 1 with fail
  (try rw [hg])
  (try rw [←hW1])
  clear hW1
  have c0:=HW.out
  go_wp2_with fail
  refine (wQ ⟨g,0,none⟩ b o n cap f W1 HW.out HC1.out h0 hn hcap).mono ?_
  rintro e w1 ⟨rfl,rfl⟩
  rw [HA.out,if_pos hlt]
  go_wp2_with fail
  go_ret
  exact ⟨rfl,HB.out⟩
 ·have hAn:A=n:=by omega
  go_enter Tryz.func162,Tryz.ntmps162
  go_upto_region 1 with fail
  (try rw [hg])
  (try rw [←hW1])
  clear hW1
  have c0:=HW.out
  go_wp2_with fail
  refine (wQ ⟨g,0,none⟩ b o n cap f W1 HW.out HC1.out h0 hn hcap).mono ?_
  rintro e w1 ⟨rfl,rfl⟩
  rw [HA.out,if_neg hlt]
  go_wp2_with fail
  go_ret
  exact ⟨by rw [hAn];rfl,HB.out⟩
theorem fN (f:Nat→Nat) (u i k:Nat):(rnB 64 f u i k).length≤144*k:=by
 induction u generalizing i k with
 |zero=>simp [rnB]
 |succ u ih=>
  match k with
  |0=>simp [rnB]
  |k+1=>
   have hp:=zZ f i k
   have hl:=zG f (f i) i (k+1)
   rw [rnB,List.length_append,List.length_append,bitsOf_length]
   have h1:=jV (qI f (f i) i (k+1)-1)
   have h2:=ih (i+qI f (f i) i (k+1)) (k+1-qI f (f i) i (k+1))
   omega
def vH:Value→Nat
 | .slice _ l _=>l
 |_=>0
theorem cK (p:Option Addr) (n cap:Nat) (f:Nat→Nat) (w:World) (h:qZ w p n f) (hn:n≤4096) (hcap:n≤cap) (hf:∀i,i<n→f i<18446744073709551616):
  Calls Tryz.prog 128 #[.slice p n cap] w (zX (rnB 64 f n 0 n) w):=by
 have H:=qA h
 have HF:=qA hf
 obtain ⟨g,hg⟩:∃g,g=w.heap.size:=⟨_,rfl⟩
 obtain ⟨W1,hW1⟩:∃W1,W1=w.alloc (.cells zW 98):=⟨_,rfl⟩
 have HM:Hid (Wr W1 (g+1) g 0 [] 0∧g+1≤W1.heap.size∧Below w.heap.size w W1∧qZ W1 p n f):=by
  have B1:Below w.heap.size w W1:=by rw [hW1];exact (Below.refl _ w).alloc (Nat.le_refl _) _
  refine ⟨?_,by rw [hW1,hg];simp,B1,h.below B1⟩
  rw [hg,hW1];exact gO (heap_alloc_new w _)
 have HP:Hid (∀a,p=some a→0<n→a.block<g):=fun a ha h0=>by
  obtain ⟨b,o,hp,hc⟩:=H.out h0
  rw [hp] at ha
  simp only [Option.some.injEq] at ha
  rw [←ha,hg]
  exact block_lt_of_cell (hc 0 h0)
 have HG:=qA hg
 clear h hf
 go_enter Tryz.func128,Tryz.ntmps128
 go_upto_region 1 with fail
 refine wp_region_list ?_
 refine wpList_build rfl 98 #[] rfl (by kernel_rfl) ?_
 simp only [Array.map_empty]
 rw [zI]
 refine Go.Great.wpList_boxTo rfl 98 (.tmp 6) rfl (some 7) rfl g hg.symm zW rfl ?_
 rw [←hW1]
 clear hW1 hg
 go_wp2_with fail
 go_loopw [0] (fun t0 wr=>∃(i k:Nat) (pi:Option Addr) (ci:Nat),t0= .slice pi k ci∧Hid (i+k=n∧k≤ci∧qZ W1 pi k (fun j=>f (i+j))∧(∀a,pi=some a→0<k→a.block<g)∧∃l,Wr wr (g+1) g 0 l 0∧qJ g 0 123 W1 wr∧l++rnB 64 f k i k=rnB 64 f n 0 n)) (fun t0 _=>vH t0)
 case atStart=>exact ⟨0,n,p,cap,rfl,by omega,by omega,by simpa using HM.out.2.2.2,HP.out,[],HM.out.1,qJ.refl _ _ _ _,by simp⟩
 case round=>
  obtain ⟨i,k,pi,ci,rfl,hI⟩:=hrel
  match k with
  |0=>
   obtain ⟨hik,hci,hrow,hpb,l,hW,hO,hl⟩:=hI.out
   have hl':l=rnB 64 f n 0 n:=by rw [←hl];simp [rnB]
   rw [hl'] at hW
   have HW:=qA hW
   have HO:=qA hO
   clear hik hci hrow hpb hW hO hl hl'
   go_wp2_with fail
   refine (qW g 0 (g+1) wr _ HW.out (Nat.le_trans HM.out.2.1 HO.out.size) (by have:=fN f n 0 n;omega) _ rfl).mono ?_
   rintro e w3 ⟨rfl,G3,B3⟩
   go_wp2_with fail
   go_ret2
   have e3:=HM.out.2.2.1
   have e4:=HG.out
   have e5:=HO.out.below (B:=w.heap.size) (by omega) (by have:=e3.size;omega)
   refine ⟨wr.heap.size,((rnB 64 f n 0 n).length+7)/8,(packed_length _).symm,?_,rfl,G3,?_⟩
   ·have:=e5.size;have:=e3.size;omega
   ·exact (e3.trans e5).trans (B3.mono (by have:=e5.size;have:=e3.size;omega))
  |k+1=>
   obtain ⟨hik,hci,hrow,hpb,l,hW,hO,hl⟩:=hI.out
   obtain ⟨b,o,rfl,hc⟩:=hrow (by omega)
   have hbg:b<g:=hpb _ rfl (by omega)
   have hs1:=HM.out.2.1
   have hbw:wr.heap[b]?=W1.heap[b]?:=hO.block b (by omega) (by omega)
   have hcw:∀j,j<k+1→wr.cell? ⟨b,o+j,none⟩=some (.int .u64 (f (i+j):Int)):=fun j hj=>by rw [World.cell?_of_block (w:=W1) hbw];exact hc j hj
   obtain ⟨A,hA⟩:∃A,qI f (f i) i (k+1)=A:=⟨_,rfl⟩
   have hA1:0<A:=by rw [←hA];exact zZ f i k
   have hA2:A≤k+1:=by rw [←hA];exact zG _ _ _ _
   have hAs:qI (fun j=>f (i+j)) ((fun j=>f (i+j)) 0) 0 (k+1)=A:=by rw [nR];exact hA
   obtain ⟨v,hv⟩:∃v,f i=v:=⟨_,rfl⟩
   have hvM:v<18446744073709551616:=by rw [←hv];exact HF.out i (by omega)
   have hll:l.length+144<1000000000000:=by
    have h1:=congrArg List.length hl
    rw [List.length_append] at h1
    have:=fN f n 0 n
    omega
   have EQ:=mE b o (k+1) ci (fun j=>f (i+j)) wr hcw (by omega) (by omega) hci
   rw [hAs] at EQ
   have c0:wr.cell? ⟨b,o,none⟩=some (.int .u64 (v:Int)):=by rw [←hv];exact hcw 0 (by omega)
   have HEQ:=qA EQ
   have HALL:=qA (And.intro hrow (And.intro hpb (And.intro hW (And.intro hO (And.intro hl (And.intro hA hv))))))
   have HC0:=qA c0
   have HCW:=qA hc
   clear hc EQ hrow hpb hW hO hl hA hv c0 hcw hbw hAs hI hs1
   have r1:IntKind.u64.wrap ((A:Int)-1)=((A-1:Nat):Int):=by rw [IntKind.wrap_u64];omega
   go_wp2_with fail
   refine HEQ.out.mono ?_
   rintro e w2 ⟨rfl,B2⟩
   have c0:w2.cell? ⟨b,o,none⟩=some (.int .u64 (v:Int)):=by rw [B2.cell (p:=⟨b,o,none⟩) (block_lt_of_cell HC0.out)];exact HC0.out
   have HB2:=qA B2
   clear B2
   have HW2:Hid (Wr w2 (g+1) g 0 l 0∧g+1≤w2.heap.size∧qJ g 0 123 W1 w2):=by
    have hO:=HALL.out.2.2.2.1
    have hs:=HB2.out.size
    have hg1:g<wr.heap.size:=by have:=hO.size;have:=HM.out.2.1;omega
    exact ⟨HALL.out.2.2.1.below HB2.out,by have:=hO.size;have:=HM.out.2.1;omega,hO.trans ⟨HB2.out.os,HB2.out.tape,HB2.out.output,hs,fun k hk _=>HB2.out.block k hk,fun j _=>HB2.out.cell (p:=⟨g,j,none⟩) hg1,fun j=>HB2.out.frozen (p:=⟨g,j,none⟩) hg1⟩⟩
   go_wp2_with fail
   refine (kV g 0 (g+1) v w2 _ HW2.out.1 (by omega) HW2.out.2.1 (by omega) hvM).mono ?_
   rintro e w3 ⟨rfl,W3,O3⟩
   have HW3:Hid (Wr w3 (g+1) g 0 (l++bitsOf v 64) 0∧g+1≤w3.heap.size∧qJ g 0 123 W1 w3):=⟨W3,by have:=O3.size;have:=HW2.out.2.1;omega,HW2.out.2.2.trans O3⟩
   clear W3 O3
   go_wp2_with fail
   refine (uA g 0 (g+1) (A-1) w3 _ HW3.out.1 (by omega) HW3.out.2.1 (by rw [List.length_append,bitsOf_length];omega) (by omega)).mono ?_
   rintro e w4 ⟨rfl,W4,O4⟩
   have HW4:Hid (Wr w4 (g+1) g 0 (l++bitsOf v 64++varB (A-1)) 0∧qJ g 0 123 W1 w4):=⟨W4,HW3.out.2.2.trans O4⟩
   clear W4 O4
   go_wp2_with fail
   go_roundw
   case rel=>
    refine ⟨i+A,k+1-A,_,ci-A,rfl,by omega,by omega,?_,?_,_,HW4.out.1,HW4.out.2,?_⟩
    ·intro h0
     exact ⟨b,o+A,by simp;omega,fun j hj=>by rw [show o+A+j=o+(A+j) from by omega,HCW.out (A+j) (by omega),show i+(A+j)=i+A+j from by omega]⟩
    ·intro a ha h0
     have hne:¬ci-A=0:=by omega
     first|(simp only [Option.some.injEq] at ha;rw [←ha];exact hbg)|(simp [hne] at ha;rw [←ha];exact hbg)|(split at ha<;>(simp only [Option.some.injEq] at ha;rw [←ha];exact hbg))|trace_state
    ·rw [←HALL.out.2.2.2.2.1]
     conv=>rhs;rw [rnB]
     rw [HALL.out.2.2.2.2.2.1,HALL.out.2.2.2.2.2.2,vF 64 f k (k+1-A) (i+A) (k+1-A) (by omega) (by omega)]
     simp only [List.append_assoc]
   case measure=>simp [vH];omega
end Go.Proofs.YtkpmalfigmimaaaGreatDoor
