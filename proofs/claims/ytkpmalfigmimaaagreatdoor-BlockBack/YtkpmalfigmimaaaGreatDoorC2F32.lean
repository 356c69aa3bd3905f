import Derived.Test.YtkpmalfigmimaaaGreatDoorC2C32
import Derived.Test.YtkpmalfigmimaaaGreatDoorC2C64
import Derived.Test.YtkpmalfigmimaaaGreatDoorD2A
import Derived.Laws.CopyOwn
import Derived.Deep.RegionLaw
import Derived.Test.YtkpmalfigmimaaaGreatDoorC2G32
set_option linter.unusedVariables false
set_option linter.unusedSimpArgs false
set_option maxRecDepth 100000
set_option maxHeartbeats 8000000
namespace Go.Proofs.YtkpmalfigmimaaaGreatDoor
open Go.RowKit
open M
def qBZ (R:List Bool) (n:Nat) (h:Nat→Nat):Prop:=(∀i,i<n→h i<4294967296)∧(uq h n).length≤256∧0<n∧∃r,R=dcB 32 h n++r
structure qLE (w wr:World) (b:Nat) (s:ByteArray) (g u n k a:Nat) (e1:Int) (f:Nat→Nat):Prop where
 row:vO wr g u k f
 rd:Rd wr b 0 s a e1
 bel:Below b w wr
 size:g<wr.heap.size
 rng:∀i,i<k→f i<4294967296
 full:∀h,qBZ (rb s) n h→e1=0∧(uq h n).length=u∧(∀i,i<k→f i=(uq h n).getD i 0)∧∃r,(rb s).drop a=plL 32 ((uq h n).drop k)++(pcF (uq h n) (bitLen (u-1)) h 0 n++r)
structure qL3 (w wr:World) (b:Nat) (s:ByteArray) (g1 u:Nat) (fU:Nat→Nat) (g n k a:Nat) (e1:Int) (f:Nat→Nat):Prop where
 un:vO wr g1 u u fU
 row:vO wr g n k f
 rd:Rd wr b 0 s a e1
 bel:Below b w wr
 size:g<wr.heap.size
 rng:∀i,i<k→f i<4294967296
 full:∀h,qBZ (rb s) n h→e1=0∧(uq h n).length=u∧(∀i,i<u→fU i=(uq h n).getD i 0)∧(∃r,(rb s).drop a=pcF (uq h n) (bitLen (u-1)) h k (n-k)++r)∧∀i,i<k→f i=h i
theorem qB3 (U:List Nat) (k:Nat) (h:k<U.length):U.drop k=U.getD k 0::U.drop (k+1):=by
 rw [List.drop_eq_getElem_cons h];simp [h]
theorem lL (U:List Nat) (v:Nat) (h:v∈U):U.getD (U.idxOf v) 0=v:=by
 rw [List.getD_eq_getElem?_getD,List.getElem?_eq_getElem (List.idxOf_lt_length_of_mem h)]
 simp
theorem mM (v:Value) (bs:List Nat) (n:Nat) (w:World) (h:jW w v bs) (hb:∀n∈bs,n<256) (hl:bs.length≤1000000000000) (hn:n≤4096):
  Calls Tryz.prog 111 #[v,.int .i64 n] w (gV (fun f=>dcO 32 f n) bs n w):=by
 have H:=qA h
 have HB:=qA hb
 have HL:=qA hl
 clear h hb hl
 go_enter Tryz.func111,Tryz.ntmps111
 go_wp2_with fail
 refine (kJ w v bs H.out).mono ?_
 rintro e w1 ⟨rfl,hw1⟩
 obtain ⟨b,hbw⟩:∃b,w.heap.size=b:=⟨_,rfl⟩
 have HR:Hid (Rd w1 b 0 (qG bs) 0 0∧w1.heap.size=b+1∧Below b w w1):=by
  rw [hw1,←hbw];exact ⟨xZ w bs HL.out,by simp,(Below.refl _ _).alloc (Nat.le_refl _) _⟩
 have HBW:=qA hbw
 have HU:Hid (∀h,nA (fun f=>dcO 32 f n) bs n h→0<n→qBZ (rb (qG bs)) n h):=fun h hL h0=>by
  obtain ⟨l,r,q1,q2⟩:=hL.2.2 h0
  change dcO 32 h n=some l at q1
  unfold dcO at q1
  split at q1
  ·rename_i hle
   simp only [Option.some.injEq] at q1
   exact ⟨hL.1,hle,h0,r,by rw [qV bs HB.out,q1];exact q2⟩
  ·cases q1
 rw [hbw]
 clear hw1 hbw
 go_wp2_with fail
 refine (zJ b 0 (qG bs) 0 8 0 w1 HR.out.1 (by omega)).mono ?_
 rintro e w2 ⟨m,a2,e2,rfl,hm,T2⟩
 have hm8:m<256:=hm
 have HT2:=qA T2
 have hs2:b+1≤w2.heap.size:=by have:=T2.only.size;have:=HR.out.2.1;omega
 clear hm T2
 have r0:IntKind.i64.wrap (m:Int)=(m:Int):=by rw [IntKind.wrap_i64];omega
 have hmk:∀ww:World,(Instr.makeSlice 124 (.int .i64 ((m:Int)+1)) (.int .i64 ((m:Int)+1))).run Tryz.prog ww= .ok (.slice (some ⟨ww.heap.size,0,none⟩) (m+1) (m+1)) (ww.alloc (.cells (Array.replicate (m+1) (Value.int .u32 0)) 57)):=fun ww=>zK (m+1) (by omega) ww
 obtain ⟨g1,hg1⟩:∃g1,w2.heap.size=g1:=⟨_,rfl⟩
 obtain ⟨W2,hW2⟩:∃W2,W2=w2.alloc (.cells (Array.replicate (m+1) (Value.int .u32 0)) 57):=⟨_,rfl⟩
 have HA:Hid (qLE w W2 b (qG bs) g1 (m+1) n 0 a2 e2 (fun _=>0)):=by
  have hA:Below w2.heap.size w2 W2:=by rw [hW2];exact (Below.refl _ w2).alloc (Nat.le_refl _) _
  refine ⟨by rw [←hg1,hW2];exact vO.new w2 (m+1) _,HT2.out.rd.below hA (by omega),(HR.out.2.2.trans (HT2.out.only.below (Nat.le_refl _) (by have:=HR.out.2.1;omega))).trans (hA.mono (by omega)),by rw [hW2,←hg1];simp,fun i hi=>by omega,fun h hL=>?_⟩
  obtain ⟨q1,q2,q3,r,q4⟩:=hL
  have hp:=qCR h n q3
  have q5:(rb (qG bs)).drop 0=bitsOf ((uq h n).length-1) 8++(plL 32 (uq h n)++(pcB (uq h n) (bitLen ((uq h n).length-1)) h n++r)):=by
   rw [List.drop_zero,q4,dcB];simp only [List.append_assoc]
  obtain ⟨q6,q7,q8⟩:=HT2.out.drop rfl ((uq h n).length-1) _ (show _<2^8 by omega) q5
  have q9:(uq h n).length=m+1:=by omega
  exact ⟨q7,q9,fun i hi=>by omega,r,by rw [q8,qFU,q9,List.drop_zero]⟩
 go_upto_region 3 with fail
 (try rw [hg1])
 (try rw [←hW2])
 clear hW2 hmk
 have HG1:Hid (b+1≤g1):=by show b+1≤g1;omega
 clear hg1 hs2
 go_wp2_with fail
 go_loopw [21] (fun t21 wr=>∃(k a:Nat) (e1:Int) (f:Nat→Nat),t21= .int .i64 (k:Int)∧Hid (k≤m+1∧qLE w wr b (qG bs) g1 (m+1) n k a e1 f)) (fun t21 _=>m+1-(intOf t21).toNat)
 case atStart=>exact ⟨0,a2,e2,_,rfl,Nat.zero_le _,HA.out⟩
 case round=>
  obtain ⟨k,a,e1,f,rfl,hI⟩:=hrel
  by_cases hlt:k<m+1
  ·go_wp2_with fail
   refine (kM b 0 (qG bs) a e1 wr hI.out.2.rd).mono ?_
   rintro e w3 ⟨x,a3,e3,rfl,hx,T⟩
   have HK:Hid (Hk (fun y=>bitsOf y 32) (fun y=>y<2^32) wr w3 b 0 (qG bs) a e1 x a3 e3):=yV hI.out.2.rd.le hx T
   clear T
   have hgb:g1≠b:=by have:=HG1.out;omega
   have RW:=hI.out.2.row.ofBlock (HK.out.only.block g1 hI.out.2.size hgb)
   have c2:w3.cell? ⟨g1,k,none⟩=some (.int .u32 0):=by rw [RW.cell k hlt,if_neg (by omega)];rfl
   have c3:=RW.fz k
   have HNX:Hid (qLE w (w3.setCell ⟨g1,k,none⟩ (.int .u32 (x:Int))) b (qG bs) g1 (m+1) n (k+1) a3 e3 (fun i=>if i=k then x else f i)):=by
    have D:=hI.out.2
    have hbs:b+1≤wr.heap.size:=by have:=D.size;have:=HG1.out;omega
    refine ⟨RW.set hlt x,HK.out.rd.setOther' g1 _ hgb _,(D.bel.trans (HK.out.only.below (Nat.le_refl _) (by omega))).setCell (p:=⟨g1,k,none⟩) (show b≤g1 by have:=HG1.out;omega) _,by simp [World.setCell];have:=HK.out.only.size;have:=D.size;omega,fun i hi=>?_,fun h hL=>?_⟩
    ·by_cases e:i=k
     ·simp [e];exact hx
     ·simp [e];exact D.rng i (by omega)
    ·obtain ⟨q1,q2,q3,r,q4⟩:=D.full h hL
     rw [qB3 _ k (by omega),plL,List.append_assoc] at q4
     have q0:(uq h n).getD k 0<2^32:=by
      have hk2:k<(uq h n).length:=by omega
      have:=qHZ h 4294967296 n hL.1 ((uq h n).getD k 0) (by rw [List.getD_eq_getElem?_getD,List.getElem?_eq_getElem hk2];exact List.getElem_mem hk2)
      exact this
     obtain ⟨q6,q7,q8⟩:=HK.out.drop q1 _ _ q0 q4
     refine ⟨q7,q2,fun i hi=>?_,r,q8⟩
     by_cases e:i=k
     ·simp [e,q6]
     ·simp [e];rw [q3 i (by omega)];simp
   clear RW
   go_wp2_with fail
   go_roundw
   case rel=>exact ⟨k+1,a3,e3,_,by simp,hlt,HNX.out⟩
   case measure=>simp [intOf];omega
  ·have hk:k=m+1:=by have:=hI.out.1;omega
   subst hk
   have HD:=qA hI.out.2
   clear hI
   have hmk:=zK n hn
   obtain ⟨g,hg⟩:∃g,wr.heap.size=g:=⟨_,rfl⟩
   obtain ⟨W3,hW3⟩:∃W3,W3=wr.alloc (.cells (Array.replicate n (Value.int .u32 0)) 57):=⟨_,rfl⟩
   have HP:Hid (qL3 w W3 b (qG bs) g1 (m+1) f g n 0 a e1 (fun _=>0)):=by
    have hA:Below wr.heap.size wr W3:=by rw [hW3];exact (Below.refl _ wr).alloc (Nat.le_refl _) _
    have hs:=HD.out.size
    have hs1:=HG1.out
    refine ⟨HD.out.row.ofBlock (hA.block g1 hs),by rw [←hg,hW3];exact vO.new wr n _,HD.out.rd.below hA (by omega),HD.out.bel.trans (hA.mono (by omega)),by rw [hW3,←hg];simp,fun i hi=>by omega,fun h hL=>?_⟩
    obtain ⟨q1,q2,q3,r,q4⟩:=HD.out.full h hL
    have q6:(uq h n).drop (m+1)=[]:=List.drop_eq_nil_of_le (by omega)
    rw [q6,plL,List.nil_append] at q4
    exact ⟨q1,q2,q3,⟨r,by rw [q4,Nat.sub_zero]⟩,fun i hi=>by omega⟩
   have HRU:=qA HD.out.rng
   have HGG:Hid (g1<g):=by show g1<g;have:=HD.out.size;omega
   clear HD
   go_upto_region 9 with fail
   (try rw [hg])
   (try rw [←hW3])
   clear hW3 hmk hg
   go_wp2_with fail
   go_loopw [34] (fun t34 wr=>∃(k a:Nat) (e1:Int) (fl:Nat→Nat),t34= .int .i64 (k:Int)∧Hid (k≤n∧qL3 w wr b (qG bs) g1 (m+1) f g n k a e1 fl)) (fun t34 _=>n-(intOf t34).toNat)
   case atStart=>exact ⟨0,a,e1,_,rfl,Nat.zero_le _,HP.out⟩
   case round=>
    obtain ⟨k,a,e1,fl,rfl,hJ⟩:=hrel
    by_cases hlt2:k<n
    ·have hb8:bitLen m≤8:=bitLen_le8 m hm8
     have PW:=qA (uN (some ⟨g1,0,none⟩) (m+1) (m+1) wr (by omega) (by omega))
     rw [show m+1-1=m from rfl] at PW
     obtain ⟨q,hq⟩:∃q,bitLen m=q:=⟨_,rfl⟩
     rw [hq] at PW hb8
     have HQ:=qA hq
     clear hq
     go_wp2_with fail
     refine PW.out.mono ?_
     rintro e w4 ⟨rfl,hw4⟩
     have hw4:=hw4.symm
     subst hw4
     go_wp2_with fail
     refine (zJ b 0 (qG bs) a q e1 wr hJ.out.2.rd (by omega)).mono ?_
     rintro e w5 ⟨y,a5,e5,rfl,hy,T5⟩
     have HT5:=qA T5
     have hy2:y<256:=Nat.lt_of_lt_of_le hy (Nat.le_trans (Nat.pow_le_pow_right (by omega) hb8) (by decide))
     clear T5 hy
     have r1:IntKind.i64.wrap (y:Int)=(y:Int):=by rw [IntKind.wrap_i64];omega
     have HF:Hid (∀h,qBZ (rb (qG bs)) n h→e5=0∧y=(uq h n).idxOf (h k)∧(uq h n).length=m+1∧∃r,(rb (qG bs)).drop a5=pcF (uq h n) q h (k+1) (n-(k+1))++r):=fun h hL=>by
      obtain ⟨q1,q2,q3,⟨r,q4⟩,q5⟩:=hJ.out.2.full h hL
      rw [show m+1-1=m from rfl,HQ.out,show n-k=(n-(k+1))+1 from by omega,pcF,List.append_assoc] at q4
      have hidx:=List.idxOf_lt_length_of_mem (gK h k n hlt2)
      have q6:(uq h n).idxOf (h k)<2^q:=by have:=(bitLen_spec m).1;rw [HQ.out] at this;omega
      obtain ⟨q7,q8,q9⟩:=HT5.out.drop q1 _ _ q6 q4
      exact ⟨q8,q7,q2,r,q9⟩
     by_cases hge:m+1≤y
     ·have hge':(y:Int)≥(m:Int)+1:=by omega
      have HB5:Hid (Below b w w5):=hJ.out.2.bel.trans (HT5.out.only.below (Nat.le_refl _) (by have:=hJ.out.2.size;have:=HGG.out;have:=HG1.out;omega))
      go_wp2_with fail
      go_ret2
      refine .inl ⟨83,by decide,rfl,by rw [HBW.out];exact HB5.out,fun h hL=>?_⟩
      obtain ⟨_,q2,q3,_⟩:=HF.out h (HU.out h hL (by omega))
      have:=List.idxOf_lt_length_of_mem (gK h k n hlt2)
      omega
     ·have hge':¬((y:Int)≥(m:Int)+1):=by omega
      have hgb1:g1≠b:=by have:=HG1.out;omega
      have hgb:g≠b:=by have:=HG1.out;have:=HGG.out;omega
      have hgg:g≠g1:=by have:=HGG.out;omega
      have hsz:=hJ.out.2.size
      have UN:=hJ.out.2.un.ofBlock (HT5.out.only.block g1 (by have:=HGG.out;omega) hgb1)
      have RW:=hJ.out.2.row.ofBlock (HT5.out.only.block g hsz hgb)
      have cU:w5.cell? ⟨g1,y,none⟩=some (.int .u32 (f y:Int)):=by rw [UN.cell y (by omega),if_pos (by omega)]
      have c2:w5.cell? ⟨g,k,none⟩=some (.int .u32 0):=by rw [RW.cell k hlt2,if_neg (by omega)];rfl
      have c3:=RW.fz k
      obtain ⟨x,hx⟩:∃x,f y=x:=⟨_,rfl⟩
      have hxM:x<4294967296:=by rw [←hx];exact HRU.out y (by omega)
      rw [hx] at cU
      have HNX:Hid (qL3 w (w5.setCell ⟨g,k,none⟩ (.int .u32 (x:Int))) b (qG bs) g1 (m+1) f g n (k+1) a5 e5 (fun i=>if i=k then x else fl i)):=by
       have D:=hJ.out.2
       have hs5:=HT5.out.only.size
       have hg1b:=HG1.out
       have hgg1:=HGG.out
       refine ⟨UN.ofBlock (Below.heap_setCell _ _ _ _ (fun e=>hgg e.symm)),RW.set hlt2 x,HT5.out.rd.setOther' g _ hgb _,(D.bel.trans (HT5.out.only.below (Nat.le_refl _) (by omega))).setCell (p:=⟨g,k,none⟩) (show b≤g by omega) _,by simp [World.setCell];omega,fun i hi=>?_,fun h hL=>?_⟩
       ·by_cases e:i=k
        ·simp [e];exact hxM
        ·simp [e];exact D.rng i (by omega)
       ·obtain ⟨q1,q2,q3,r,q4⟩:=HF.out h hL
        obtain ⟨_,_,p3,_,p5⟩:=D.full h hL
        refine ⟨q1,q3,p3,⟨r,by rw [show m+1-1=m from rfl,HQ.out];exact q4⟩,fun i hi=>?_⟩
        by_cases e:i=k
        ·simp only [e,if_true]
         rw [←hx,p3 y (by omega),q2,lL _ _ (gK h k n hlt2)]
        ·simp only [e,if_false];exact p5 i (by omega)
      clear UN RW hx hJ
      go_wp2_with fail
      go_roundw
      case rel=>
       refine ⟨_,_,_,_,_,_,_,_,_,_,_,_,_,_,_,_,_,_,_,_,_,_,_,_,⟨k+1,a5,e5,_,?_,hlt2,HNX.out⟩,rfl⟩
       simp
      case measure=>simp [intOf];omega
    ·have hk2:k=n:=by have:=hJ.out.1;omega
     have hJ':Hid (qL3 w wr b (qG bs) g1 (m+1) f g n n a e1 fl):=by have:=hJ.out.2;rw [hk2] at this;exact this
     clear hJ
     go_wp2_with fail
     go_ret2
     refine .inr ⟨_,fl,rfl,⟨hJ'.out.row.owns (by have:=HBW.out;have:=HG1.out;have:=HGG.out;omega) hn,(by rw [HBW.out];exact hJ'.out.bel),Nat.le_refl _⟩,hJ'.out.rng,fun h hL i hi=>?_⟩
     exact (hJ'.out.full h (HU.out h hL (by omega))).2.2.2.2 i hi
end Go.Proofs.YtkpmalfigmimaaaGreatDoor
namespace Go.Proofs.YtkpmalfigmimaaaGreatDoor
open Go.RowKit
theorem pZ (v z:Value) (c m k:Nat) (h:m+k≤c):splice (List.replicate m v++List.replicate (c-m) z) m (List.replicate k v)=List.replicate (m+k) v++List.replicate (c-(m+k)) z:=by
 unfold splice
 rw [List.take_left' (by simp),List.length_replicate,List.drop_append,List.drop_eq_nil_of_le (by simp),List.nil_append,List.length_replicate,List.drop_replicate,←List.append_assoc,List.replicate_append_replicate]
 congr 2;omega
theorem fK (v c b o cp:Nat) (w:World) (hv:w.cell? ⟨b,o,none⟩=some (.int .u32 (v:Int))) (h0:0<c) (hc:c≤4096):
  Calls Tryz.prog 135 #[.slice (some ⟨b,o,none⟩) 1 cp,.int .i64 c] w fun e w'=>e= .returned (.slice (some ⟨w.heap.size,0,none⟩) c c)∧w'.heap[w.heap.size]?=some (.cells (List.replicate c (Value.int .u32 (v:Int))).toArray 57 (0,0))∧Below w.heap.size w w':=by
 have HV:=qA hv
 have hbw:b<w.heap.size:=block_lt_of_cell hv
 have hsz:(Tryz.prog.info? 57).map (·.size)=some 1:=by kernel_rfl
 have hmk:=zK c hc
 have r1:IntKind.u64.wrap (c:Int)=(c:Int):=by rw [IntKind.wrap_u64];omega
 obtain ⟨g,hg⟩:∃g,w.heap.size=g:=⟨_,rfl⟩
 rw [hg] at hbw⊢
 obtain ⟨W1,hW1⟩:∃W1,W1=w.alloc (.cells (Array.replicate c (Value.int .u32 0)) 57):=⟨_,rfl⟩
 have HG:Hid (W1.heap[g]?=some (.cells (List.replicate c (Value.int .u32 0)).toArray 57 (0,0))∧Below g w W1∧W1.cell? ⟨b,o,none⟩=some (.int .u32 (v:Int))):=by
  have hB:Below g w W1:=by rw [hW1,←hg];exact (Below.refl _ w).alloc (Nat.le_refl _) _
  refine ⟨?_,hB,(hB.cell (p:=⟨b,o,none⟩) hbw).trans hv⟩
  have:=heap_alloc_new w (.cells (Array.replicate c (Value.int .u32 0)) 57)
  rw [hW1,←hg,this];simp
 clear hv
 go_enter Tryz.func135,Tryz.ntmps135
 go_wp2_with fail
 refine (bK c (by omega) w).mono ?_
 rintro e w1 ⟨rfl,hw1⟩
 have hw2:=hw1.symm
 subst hw2
 clear hw1
 go_upto_region 7 with fail
 (try rw [hg])
 (try rw [←hW1])
 clear hW1 hmk
 have HC:Hid (∀(j:Nat) (u:Value),[Value.int .u32 (v:Int)][j]?=some u→W1.cell? ((⟨b,o,none⟩:Addr).add j)=some u):=fun j u hu=>by
  match j with
  |0=>simp at hu;subst hu;exact HG.out.2.2
  |j+1=>simp at hu
 have hrun:∃w2,(Builtin.copy_ #[124,124] 3 #[.slice (some ⟨g,0,none⟩) c c,.slice (some ⟨b,o,none⟩) 1 cp]).run Tryz.prog W1= .ok (.int .i64 1) w2∧Hid (w2.heap[g]?=some (.cells (splice (List.replicate c (Value.int .u32 0)) 0 [Value.int .u32 (v:Int)]).toArray 57 (0,0))∧Below g w w2):=by
  have h1:=run_copy_row (P:=Tryz.prog) W1 124 124 3 57 g 0 c c ⟨b,o,none⟩ 1 cp (List.replicate c (Value.int .u32 0)).toArray 57 [Value.int .u32 (v:Int)] Tryz.underlying124 hsz HG.out.1 (show 1=min 1 c by omega) HC.out (by simp;omega) (fun u hu=>by simp at hu;subst hu;rfl)
  exact ⟨_,h1,by simpa [splice] using setRow_heap W1 g _ _ _ _ HG.out.1,below_setRow HG.out.2.1 (Nat.le_refl _) _⟩
 obtain ⟨w2,hrun,hw2⟩:=hrun
 have hg2:Hid (w2.heap[g]?=some (.cells (splice (List.replicate c (Value.int .u32 0)) 0 [Value.int .u32 (v:Int)]).toArray 57 (0,0))):=hw2.out.1
 have hB2:=hw2.out.2
 have HG2:Hid (w2.heap[g]?=some (.cells (List.replicate 1 (Value.int .u32 (v:Int))++List.replicate (c-1) (Value.int .u32 0)).toArray 57 (0,0))):=by
  have:=pZ (Value.int .u32 (v:Int)) (Value.int .u32 0) c 0 1 (by omega)
  simp only [List.replicate_zero,List.nil_append,Nat.sub_zero,Nat.zero_add] at this
  rw [←this];exact hg2.out
 have HB2:=qA hB2
 clear hg2 hB2 hw2
 go_wp2_with fail
 go_loopw [8] (fun t8 wr=>∃m:Nat,t8= .int .i64 (m:Int)∧Hid (0<m∧m≤c∧wr.heap[g]?=some (.cells (List.replicate m (Value.int .u32 (v:Int))++List.replicate (c-m) (Value.int .u32 0)).toArray 57 (0,0))∧Below g w wr)) (fun t8 _=>c-(intOf t8).toNat)
 case atStart=>exact ⟨1,rfl,by omega,by omega,HG2.out,HB2.out⟩
 case round=>
  obtain ⟨m,rfl,hI⟩:=hrel
  by_cases hlt:m<c
  ·obtain ⟨k,hk⟩:∃k,k=min m (c-m):=⟨_,rfl⟩
   have h0m:0<m:=hI.out.1
   have hk1:0<k∧m+k≤c:=by omega
   have HS:Hid (∀(wq:World),wq.heap=wr.heap→∀(j:Nat) (u:Value),(List.replicate k (Value.int .u32 (v:Int)))[j]?=some u→wq.cell? ((⟨g,0,none⟩:Addr).add j)=some u):=fun wq hq j u hu=>by
    rw [Addr.add_mid,Nat.zero_add,cell_of_row wq g j _ _ _ (by rw [hq];exact hI.out.2.2.1)]
    rw [List.getElem?_replicate] at hu
    split at hu
    ·rename_i hj
     simp only [List.getElem?_toArray]
     rw [List.getElem?_append_left (by simp;omega),List.getElem?_replicate,if_pos (by omega)];exact hu
    ·cases hu
   have HB3:=qA hI.out.2.2.2
   have n1:¬c=m:=by omega
   have hmc:m≤c:=by omega
   have n2:¬m=0:=by omega
   have n3:wrap64 ((m:Int)+(k:Int))=((m+k:Nat):Int):=by unfold wrap64;omega
   have n4:IntKind.i64.wrap ((m:Int)+(k:Int))=((m+k:Nat):Int):=by rw [IntKind.wrap_i64];omega
   have HK:=qA hk
   clear hk
   go_wp2_with fail
   go_region_law (refine step_copy_splice rfl (.tmp 41) (.tmp 44) 124 124 rfl 57 Tryz.underlying124 hsz (some ⟨g,m,none⟩) (some ⟨g,0,none⟩) (c-m) (c-m) m c (by simp [Act.eval,Act.put]) (by simp [Act.eval,Act.put]) g m (List.replicate m (Value.int .u32 (v:Int))++List.replicate (c-m) (Value.int .u32 0)) 57 hI.out.2.2.1 (List.replicate k (Value.int .u32 (v:Int))) (by rw [List.length_replicate];exact HK.out) (fun _=>⟨rfl,_,rfl,HS.out _ rfl⟩) (by simp;omega) (fun u hu=>by rw [List.eq_of_mem_replicate hu];rfl) g w ⟨HB3.out.os,HB3.out.tape,HB3.out.output,HB3.out.size,HB3.out.block⟩ (Nat.le_refl _) ?_;intro w3 hg3 hB3)
   have HG3:Hid (w3.heap[g]?=some (.cells (List.replicate (m+k) (Value.int .u32 (v:Int))++List.replicate (c-(m+k)) (Value.int .u32 0)).toArray 57 (0,0))):=by
    rw [←pZ _ _ c m k hk1.2];exact hg3.out
   have HB4:=qA hB3
   clear hg3 hB3
   simp [Act.put]
   go_roundw
   case rel=>exact ⟨_,_,_,_,_,_,_,_,_,_,_,_,_,_,⟨m+k,by simp,by omega,by omega,HG3.out,HB4.out⟩,rfl⟩
   case measure=>simp [intOf];omega
  ·have hm:m=c:=by have:=hI.out.2.1;omega
   have HE:Hid (wr.heap[g]?=some (.cells (List.replicate c (Value.int .u32 (v:Int))).toArray 57 (0,0))):=by
    have:=hI.out.2.2.1
    rw [hm,Nat.sub_self,List.replicate_zero,List.append_nil] at this
    exact this
   have HB5:=qA hI.out.2.2.2
   go_wp2_with fail
   go_ret
   exact ⟨rfl,HE.out,HB5.out⟩
end Go.Proofs.YtkpmalfigmimaaaGreatDoor
namespace Go.Proofs.YtkpmalfigmimaaaGreatDoor
open Go.RowKit
open M
structure qL6 (w wr:World) (b:Nat) (s:ByteArray) (n k a:Nat) (e1:Int) (f:Nat→Nat) (v:Value):Prop where
 own:wr.ownsRow (b+1) 57 1 v k (jQ k f)
 rd:Rd wr b 0 s a e1
 bel:Below b w wr
 size:b+1≤wr.heap.size
 rng:∀i,i<k→f i<4294967296
 full:∀h:Nat→Nat,(∀i,i<n→h i<4294967296)→(∃r,rb s=rnB 32 h n 0 n++r)→e1=0∧(∃r,(rb s).drop a=rnB 32 h (n-k) k (n-k)++r)∧∀i,i<k→f i=h i
theorem qFY (h:Nat→Nat) (n k:Nat) (hk:k<n):∃A,0<A∧A≤n-k∧(∀i,i<A→h (k+i)=h k)∧rnB 32 h (n-k) k (n-k)=bitsOf (h k) 32++(varB (A-1)++rnB 32 h (n-(k+A)) (k+A) (n-(k+A))):=by
 obtain ⟨m,hm⟩:∃m,n-k=m+1:=⟨n-k-1,by omega⟩
 rw [hm]
 have h1:=zZ h k m
 have h2:=zG h (h k) k (m+1)
 refine ⟨qI h (h k) k (m+1),h1,h2,fun i hi=>cY h (h k) k (m+1) i hi,?_⟩
 conv=>lhs;rw [rnB]
 rw [List.append_assoc,show n-(k+qI h (h k) k (m+1))=m+1-qI h (h k) k (m+1) from by omega,vF 32 h m (m+1-qI h (h k) k (m+1)) _ _ (by omega) (Nat.le_refl _)]
theorem mO (u:Value) (bs:List Nat) (n:Nat) (w:World) (h:jW w u bs) (hb:∀n∈bs,n<256) (hl:bs.length≤1000000000000) (hn:n≤4096):
  Calls Tryz.prog 110 #[u,.int .i64 n] w (gV (fun f=>some (rnB 32 f n 0 n)) bs n w):=by
 have H:=qA h
 have HB:=qA hb
 have HL:=qA hl
 have hmk:=qB9 n hn
 clear h hb hl
 go_enter Tryz.func110,Tryz.ntmps110
 go_wp2_with fail
 refine (kJ w u bs H.out).mono ?_
 rintro e w1 ⟨rfl,hw1⟩
 have HR:Hid (Rd w1 w.heap.size 0 (qG bs) 0 0∧w1.heap.size=w.heap.size+1∧Below w.heap.size w w1):=by
  rw [hw1];exact ⟨xZ w bs HL.out,by simp,(Below.refl _ _).alloc (Nat.le_refl _) _⟩
 clear hw1
 obtain ⟨b,hbw⟩:∃b,w.heap.size=b:=⟨_,rfl⟩
 have HBW:=qA hbw
 obtain ⟨g,hg⟩:∃g,w1.heap.size=g:=⟨_,rfl⟩
 have HA:Hid (qL6 w (w1.alloc (.cells (Array.replicate n (Value.int .u32 0)) 57)) b (qG bs) n 0 0 0 (fun _=>0) (.slice (some ⟨g,0,none⟩) 0 n)):=by
  have hA:Below w1.heap.size w1 (w1.alloc (.cells (Array.replicate n (Value.int .u32 0)) 57)):=(Below.refl _ w1).alloc (Nat.le_refl _) _
  have hs:=HR.out.2.1
  refine ⟨?_,by rw [←hbw];exact HR.out.1.below hA (by omega),(by rw [←hbw];exact HR.out.2.2.trans (hA.mono (by omega))),by simp;omega,fun i hi=>by omega,fun h hr hB=>⟨rfl,by simpa using hB,fun i hi=>by omega⟩⟩
  rw [←hg]
  exact World.ownsRow_made w1 _ n (by omega) (by have:maxLen=9223372036854775807:=rfl;omega) (by simp)
 rw [hbw]
 clear hbw
 go_upto_region 3 with fail
 (try rw [hg])
 clear hg hmk
 generalize w1.alloc (.cells (Array.replicate n (Value.int .u32 0)) 57)=W0 at*
 have HU:Hid ((∀h,nA (fun f=>some (rnB 32 f n 0 n)) bs n h→0<n→(∀i,i<n→h i<4294967296)∧∃r,rb (qG bs)=rnB 32 h n 0 n++r)):=fun h hL h0=>by
  obtain ⟨l,r,q1,q2⟩:=hL.2.2 h0
  simp only [Option.some.injEq] at q1
  exact ⟨hL.1,r,by rw [qV bs HB.out,q1];exact q2⟩
 go_loopw [7] (fun t7 wr=>∃(k a:Nat) (e1:Int) (f:Nat→Nat) (p:Option Addr) (cp:Nat),t7= .slice p k cp∧Hid (k≤n∧qL6 w wr b (qG bs) n k a e1 f (.slice p k cp))) (fun t7 _=>n-vG t7)
 case atStart=>exact ⟨0,0,0,_,_,_,rfl,Nat.zero_le _,HA.out⟩
 case round=>
  obtain ⟨k,a,e1,f,p,cp,rfl,hI⟩:=hrel
  by_cases hlt:k<n
  ·obtain ⟨i5,Hi⟩:=qFB
   have HI5:=qA Hi
   clear Hi
   go_wp2_with fail
   refine (kM b 0 (qG bs) a e1 wr hI.out.2.rd).mono ?_
   rintro e w2 ⟨x,a2,e2,rfl,hx,T⟩
   have HK2:Hid (Hk (fun y=>bitsOf y 32) (fun y=>y<2^32) wr w2 b 0 (qG bs) a e1 x a2 e2):=yV hI.out.2.rd.le hx T
   clear T
   go_wp2_with fail
   refine (dJ b 0 (qG bs) a2 e2 w2 HK2.out.rd).mono ?_
   rintro e w3 ⟨y,a3,e3,rfl,hy,T3⟩
   have HK3:=qA T3
   clear T3
   have HO:Hid (qJ b 0 3 wr w3∧w3.ownsRow (b+1) 57 1 (.slice p k cp) k (jQ k f)∧Below b w w3∧b+1≤w3.heap.size):=by
    have h1:=HK2.out.only.trans HK3.out.only
    have h2:=hI.out.2
    have h3:=h1.size
    have h4:=h2.size
    exact ⟨h1,jE h2.own (fun g hg1 hg2=>h1.block g hg2 (by omega)),h2.bel.trans (h1.below (Nat.le_refl _) (by omega)),by omega⟩
   have HF:Hid (∀h,nA (fun f=>some (rnB 32 f n 0 n)) bs n h→e3=0∧(∀i,i<k→f i=h i)∧∃A r,0<A∧A≤n-k∧x=h k∧y=A-1∧(∀i,i<A→h (k+i)=h k)∧(rb (qG bs)).drop a3=rnB 32 h (n-(k+A)) (k+A) (n-(k+A))++r):=fun h hL=>by
    obtain ⟨h1,h2⟩:=HU.out h hL (by omega)
    obtain ⟨h3,⟨r,h4⟩,h5⟩:=hI.out.2.full h h1 h2
    obtain ⟨A,hA1,hA2,hA3,hA4⟩:=qFY h n k hlt
    rw [hA4,List.append_assoc,List.append_assoc] at h4
    obtain ⟨q1,q2,q3⟩:=HK2.out.drop h3 (h k) _ (h1 k hlt) h4
    obtain ⟨q4,q5,q6⟩:=HK3.out.drop q2 (A-1) _ (by omega) q3
    exact ⟨q5,h5,A,r,hA1,hA2,q1,q4,hA3,q6⟩
   have HRNG:=qA hI.out.2.rng
   clear hI
   have e1:IntKind.u64.wrap ((n:Int)-(k:Int))=((n-k:Nat):Int):=by rw [IntKind.wrap_u64];omega
   obtain ⟨d,hd⟩:∃d,n-k=d:=⟨_,rfl⟩
   have hnk:n=k+d:=by omega
   by_cases hge:d≤y
   ·have hde:(y:Int)≥(d:Int):=by omega
    have HD:=qA hd
    rw [hd] at e1
    clear hd hnk
    go_wp2_with fail
    go_ret2
    refine .inl ⟨83,by decide,rfl,by rw [HBW.out];exact HO.out.2.2.1,fun h hL=>?_⟩
    obtain ⟨_,_,A,r,q1,q2,q3,q4,_⟩:=HF.out h hL
    have:=HD.out
    omega
   ·have hyd:y+1≤d:=by omega
    have hde:¬((y:Int)≥(d:Int)):=by omega
    have HD:=qA hd
    have HNK:=qA hnk
    rw [hd] at e1
    obtain ⟨c,hc⟩:∃c,y+1=c:=⟨_,rfl⟩
    have r2:IntKind.i64.wrap (y:Int)=(y:Int):=by rw [IntKind.wrap_i64];omega
    have r3:(y:Int)+1=(c:Int):=by omega
    have hd0:d≤4096:=by omega
    have hc0:0<c∧c≤d:=by omega
    have hx0:x<4294967296:=hx
    obtain ⟨g3,hg3⟩:∃g3,w3.heap.size=g3:=⟨_,rfl⟩
    obtain ⟨W4,hW4⟩:∃W4,W4=w3.alloc (.cells #[.int .u32 (x:Int)] 57):=⟨_,rfl⟩
    have HW4:Hid (W4.cell? ⟨g3,0,none⟩=some (.int .u32 (x:Int))∧W4.heap.size=g3+1∧Below g3 w3 W4):=by
     refine ⟨by rw [←hg3,hW4];exact cell_of_row _ _ 0 _ _ _ (heap_alloc_new w3 _),by rw [hW4,←hg3];simp,by rw [hW4,←hg3];exact (Below.refl _ w3).alloc (Nat.le_refl _) _⟩
    have HCC:=qA hc
    clear hd hnk hc hx
    go_wp2_with fail
    (try rw [hg3])
    (try rw [←hW4])
    clear hW4
    refine (fK x c g3 0 1 W4 HW4.out.1 (by omega) (by omega)).mono ?_
    rintro e w5 ⟨rfl,hrow5,hB5⟩
    obtain ⟨g5,hg5⟩:∃g5,W4.heap.size=g5:=⟨_,rfl⟩
    rw [hg5] at hrow5 hB5⊢
    have HR5:Hid (w5.heap[g5]?=some (.cells (List.replicate c (Value.int .u32 (x:Int))).toArray 57 (0,0))∧Below g3 w3 w5∧g3≤w5.heap.size):=by
     have h1:=HW4.out.2.1
     have h2:=hB5.size
     exact ⟨hrow5,HW4.out.2.2.trans (hB5.mono (by omega)),by omega⟩
    have HOWN:Hid (w5.ownsRow (b+1) 57 1 (.slice p k cp) k (jQ k f)):=jE HO.out.2.1 (fun g _ hg2=>HR5.out.2.1.block g (by omega))
    have HNEWS:Hid (∀(j:Nat) (u:Value),(List.replicate c (Value.int .u32 (x:Int)))[j]?=some u→w5.cell? ((⟨g5,0,none⟩:Addr).add j)=some u):=fun j u hu=>by
     rw [Addr.add_mid,Nat.zero_add,cell_of_row w5 g5 j _ _ _ HR5.out.1]
     rw [List.getElem?_toArray];exact hu
    have HG3:=qA hg3
    have hs5:b+1≤w5.heap.size:=by have:=HO.out.2.2.2;have:=HR5.out.2.2;omega
    clear hrow5 hB5 hg5 hg3
    go_wp2_with (at_builtin;refine wpList_append_lies _ rfl _ _ _ rfl (b+1) 57 i5 (.int .u32 0) 1 4 Tryz.underlying124 HI5.out.1 HI5.out.2.1 HI5.out.2.2.1 HI5.out.2.2.2 rfl (by decide) (.slice p k cp) k (jQ k f) rfl HOWN.out ⟨g5,0,none⟩ c c (List.replicate c (Value.int .u32 (x:Int))) rfl (by simp) HNEWS.out (fun u hu=>by rw [List.eq_of_mem_replicate hu];rfl) (by omega) (by have:maxLen=9223372036854775807:=rfl;omega) (by omega) hs5 _ rfl ?_;intro g6 cap6 w6 hown6 hgrow6 hat6 hlt6)
    have HS6:Hid (qL6 w w6 b (qG bs) n (k+c) a3 e3 (fun i=>if i<k then f i else x) (.slice (some ⟨g6,0,none⟩) (k+c) cap6)):=by
     have hB6:Below (b+1) w5 w6:=wN hgrow6 (fun g hg=>(HOWN.out.lt g hg).1) hs5
     have hB3:Below (b+1) w3 w6:=(HR5.out.2.1.mono (by have:=HO.out.2.2.2;have:=HG3.out;omega)).trans hB6
     have:=hB6.size
     refine ⟨by rw [←qBS];exact hown6,HK3.out.rd.below hB3 (by omega),HO.out.2.2.1.trans (hB3.mono (by omega)),by omega,fun i hi=>?_,fun h hr hB=>?_⟩
     ·by_cases h1:i<k
      ·simp only [h1,if_true];exact HRNG.out i h1
      ·simp only [h1,if_false];exact hx0
     ·obtain ⟨q0,q1,A,r,q2,q3,q4,q5,q6,q7⟩:=HF.out h ⟨hr,fun h0=>by omega,fun _=>⟨_,hB.choose,rfl,by rw [←qV bs HB.out];exact hB.choose_spec⟩⟩
      have hAc:A=c:=by have:=HCC.out;omega
      rw [hAc] at q6 q7
      refine ⟨q0,⟨r,q7⟩,fun i hi=>?_⟩
      by_cases h1:i<k
      ·simp only [h1,if_true];exact q1 i h1
      ·simp only [h1,if_false]
       have:=q6 (i-k) (by omega)
       rw [show k+(i-k)=i from by omega] at this
       rw [this,q4]
    clear hown6 hgrow6 hat6 hlt6
    go_wp2_with fail
    go_roundw
    case rel=>exact ⟨k+c,a3,e3,_,_,_,rfl,by have:=HNK.out;omega,HS6.out⟩
    case measure=>simp [vG];omega
  ·have hk:k=n:=by have:=hI.out.1;omega
   have hI':Hid (qL6 w wr b (qG bs) n n a e1 f (.slice p n cp)):=by have:=hI.out.2;rw [hk] at this;exact this
   subst hk
   clear hI
   go_wp2_with fail
   go_ret2
   refine .inr ⟨.slice p k cp,f,rfl,⟨hI'.out.own.mono (by have:=HBW.out;omega),(by rw [HBW.out];exact hI'.out.bel),Nat.le_refl _⟩,hI'.out.rng,fun h hL i hi=>?_⟩
   obtain ⟨h1,h2⟩:=HU.out h hL (by omega)
   exact (hI'.out.full h h1 h2).2.2 i hi
end Go.Proofs.YtkpmalfigmimaaaGreatDoor
