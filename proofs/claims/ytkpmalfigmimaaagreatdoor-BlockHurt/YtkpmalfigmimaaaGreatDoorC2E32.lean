import Derived.Test.YtkpmalfigmimaaaGreatDoorC3G32
import Derived.Test.YtkpmalfigmimaaaGreatDoorC1Q32
import Derived.Test.YtkpmalfigmimaaaGreatDoorC2D
import Derived.Test.YtkpmalfigmimaaaGreatDoorD2A
import Derived.Laws.CopyOwn
import Derived.Deep.RegionLaw
set_option linter.unusedVariables false
set_option linter.unusedSimpArgs false
set_option maxRecDepth 100000
set_option maxHeartbeats 8000000
namespace Go.Proofs.YtkpmalfigmimaaaGreatDoor
open Go.RowKit
open M
def qIT (R:List Bool) (n p:Nat) (h:Nat→Nat):Prop:=(∀i,i<n→h i<4294967296)∧(F32.bs h n 10).1=p∧∃r,R=F32.dm 32 h n++r
structure qL1 (w wr:World) (b:Nat) (s:ByteArray) (g7 p gl gb n i a:Nat) (e:Int) (k:Int) (f:Nat→Nat) (z:Nat→Bool):Prop where
 nb:nJ wr gl gb n f z
 rd:Rd wr b 0 s a e
 bel:Below b w wr
 sc:gV wr g7 p
 rng:∀j,j<n→f j<4294967296
 full:∀h,qIT (rb s) n p h→e=0∧(-999999≤k∧k≤999999)∧(∃r,(rb s).drop a=F32.wb p h i (n-i) k++r)∧(∀j,j<i→f j=h j)∧(∀j,j<n→z j=!(F32.wh p (h j)).isSome)∧∀j,i≤j→j<n→z j=true→f j=h j
theorem nJ.owns {w:World} {gl gb n:Nat} {f:Nat→Nat} {z:Nat→Bool} {B:Nat} (h:nJ w gl gb n f z) (hB:B≤gl) (hn:n≤4096):w.ownsRow B 57 1 (.slice (some ⟨gl,0,none⟩) n n) n (jS n f):=
 vQ.owns (g:=gl) ⟨fun i hi=>by rw [h.l i hi,if_pos hi],h.fl,h.bl⟩ hB hn
theorem wJ (v:Value) (bs:List Nat) (n:Nat) (w:World) (h:jQ w v bs) (hb:∀n∈bs,n<256) (hl:bs.length≤1000000000000) (hn:n≤4096):
  Calls Tryz.prog 113 #[v,.int .i64 n] w (pC (fun f=>some (F32.dm 32 f n)) bs n w):=by
 have H:=qA h
 have HB:=qA hb
 have HL:=qA hl
 have HSA:=qA (fun (p:Nat) (w:World) (hp:p≤1000)=>gF p w hp)
 have HVO:=qA (fun (p:Nat) (k:Int) (w:World)=>gR p k w)
 unfold vN at HSA HVO
 clear h hb hl
 go_enter Tryz.func113,Tryz.ntmps113
 go_wp2_with fail
 refine (kI w v bs H.out).mono ?_
 rintro e w1 ⟨rfl,hw1⟩
 obtain ⟨b,hbw⟩:∃b,w.heap.size=b:=⟨_,rfl⟩
 have HR:Hid (Rd w1 b 0 (qG bs) 0 0∧w1.heap.size=b+1∧Below b w w1):=by
  rw [hw1,←hbw];exact ⟨xY w bs HL.out,by simp,(Below.refl _ _).alloc (Nat.le_refl _) _⟩
 have HBW:=qA hbw
 have HU:Hid (∀h,nH (fun f=>some (F32.dm 32 f n)) bs n h→0<n→∀p,(F32.bs h n 10).1=p→qIT (rb (qG bs)) n p h):=fun h hL h0 p hp=>by
  obtain ⟨l,r,q1,q2⟩:=hL.2.2 h0
  simp only [Option.some.injEq] at q1
  exact ⟨hL.1,hp,r,by rw [qU bs HB.out,q1];exact q2⟩
 rw [hbw]
 clear hw1 hbw
 go_wp2_with fail
 refine (zK b 0 (qG bs) 0 5 0 w1 HR.out.1 (by omega)).mono ?_
 rintro e w2 ⟨p,a2,e2,rfl,hp,T2⟩
 have hp32:p<32:=hp
 have HT2:=qA T2
 have hs2:b+1≤w2.heap.size:=by have:=T2.only.size;have:=HR.out.2.1;omega
 clear hp T2
 have HCP:Hid (∀h r,(∀i,i<n→h i<4294967296)→rb (qG bs)=F32.dm 32 h n++r→(F32.bs h n 10).1=p∧qLM (qG bs) a2 e2 n p h (F32.wb p h 0 n 0++r)):=fun h r hr hB=>by
  have q0:(rb (qG bs)).drop 0=bitsOf (F32.bs h n 10).1 5++(varB (F32.cnt (F32.bs h n 10).1 h 0 n)++(F32.nt 32 (F32.bs h n 10).1 h 0 n 0++(F32.wb (F32.bs h n 10).1 h 0 n 0++r))):=by
   rw [List.drop_zero,hB]
   unfold Dm.dm
   rw [show F32.mostP=10 from rfl]
   simp only [List.append_assoc]
  have q1:=F32.bs_le h n 10
  obtain ⟨q2,q3,q4⟩:=HT2.out.drop rfl _ _ (show (F32.bs h n 10).1<2^5 by omega) q0
  rw [←q2] at q4
  exact ⟨q2.symm,q3,hr,q4⟩
 have r0:IntKind.i64.wrap (p:Int)=(p:Int):=by rw [IntKind.wrap_i64];omega
 go_wp2_with fail
 refine (HSA.out p w2 (by omega)).mono ?_
 rintro e w3 ⟨rfl,B3⟩
 obtain ⟨P,hP⟩:∃P,F32.pow p=P:=⟨_,rfl⟩
 rw [hP]
 obtain ⟨g7,hg7⟩:∃g7,w3.heap.size=g7:=⟨_,rfl⟩
 obtain ⟨W4,hW4⟩:∃W4,W4=w3.alloc (.cells #[.int .i64 (p:Int),.int .u32 (P:Int)] 181):=⟨_,rfl⟩
 have H4:Hid (gV W4 g7 p∧Below b w W4∧Rd W4 b 0 (qG bs) a2 e2∧b<g7∧W4.heap.size=g7+1):=by
  have hA:Below g7 w3 W4:=by rw [hW4,←hg7];exact (Below.refl _ w3).alloc (Nat.le_refl _) _
  have hs3:=B3.size
  have hBB:Below w2.heap.size w2 W4:=B3.trans (hA.mono (by omega))
  exact ⟨⟨by rw [hW4,←hg7,hP];exact heap_alloc_new w3 _⟩,(HR.out.2.2.trans (HT2.out.only.below (Nat.le_refl _) (by have:=HR.out.2.1;omega))).trans (hBB.mono (by omega)),HT2.out.rd.below hBB (by omega),by omega,by rw [hW4,←hg7];simp⟩
 have HP:=qA hP
 clear B3 hP
 go_upto_region 3 with fail
 (try rw [hg7])
 (try rw [←hW4])
 clear hW4 hg7 hs2
 go_wp2_with fail
 refine (gI b (qG bs) a2 n e2 W4 H4.out.2.2.1 hn (by have:=H4.out.2.2.2;omega)).mono ?_
 rintro e w5 hT
 rcases hT with ⟨rfl,B5,hno,hem⟩|⟨gl,gb,i0,a5,e5,f,z,rfl,hTn,hgl,hgb,hi0⟩
 ·have HFIN:Hid (pC (fun f=>some (F32.dm 32 f n)) bs n w (.returned (.tuple #[.slice none 0 0,.int .i64 83])) w5):=by
   refine .inl ⟨83,by decide,rfl,by rw [HBW.out];exact H4.out.2.1.trans B5,fun h hL=>?_⟩
   by_cases h0:n=0
   ·exact hem ⟨h0,by rw [hL.2.1 h0];rfl⟩
   ·obtain ⟨q1,q2,r,q3⟩:=HU.out h hL (by omega) _ rfl
    obtain ⟨q4,q5⟩:=HCP.out h r q1 q3
    exact hno p h _ q5
  clear B5 hno hem
  go_wp2_with fail
  go_ret2
  exact HFIN.out
 ·have HGL:Hid (b<gl∧b<gb∧g7<gl∧g7<gb∧b<g7):=by have:=H4.out.2.2.2;exact ⟨by omega,by omega,by omega,by omega,by omega⟩
  have HST:Hid (qL1 w w5 b (qG bs) g7 p gl gb n 0 a5 e5 0 f z):=by
   have h4:=H4.out
   refine ⟨hTn.nb,hTn.rd,h4.2.1.trans hTn.bel,⟨by rw [hTn.oth g7 (by omega) (by omega)];exact h4.1.row⟩,hTn.rng,fun h hL=>?_⟩
   obtain ⟨q1,q2,r,q3⟩:=hL
   obtain ⟨q4,q5⟩:=HCP.out h r q1 q3
   obtain ⟨t1,t2,t3,t4,t5⟩:=hTn.full p h _ q5
   obtain ⟨t6,t7⟩:=F32.nt_none 32 p h i0 (n-i0) 0 t2.symm
   rw [t6,List.nil_append] at t3
   refine ⟨t1,by omega,⟨r,by rw [t3,Nat.sub_zero]⟩,fun j hj=>by omega,fun j hj=>?_,fun j _ hj hz=>?_⟩
   ·by_cases e:j<i0
    ·exact (t4 j e).1
    ·rw [t5 j (by omega),t7 j (by omega) (by omega)];rfl
   ·by_cases e:j<i0
    ·exact (t4 j e).2 hz
    ·rw [t5 j (by omega)] at hz;cases hz
  have HGE:Hid (W4.heap.size≤gl):=hgl
  clear hTn hgl hgb hi0
  go_wp2_with fail
  go_loopw [11,30] (fun t11 t30 wr=>∃(i a:Nat) (e k:Int) (f:Nat→Nat),t30= .int .i64 (i:Int)∧t11= .int .i64 k∧Hid (i≤n∧(-9223372036854775808≤k∧k≤9223372036854775807)∧qL1 w wr b (qG bs) g7 p gl gb n i a e k f z)) (fun _ t30 _=>n-(intOf t30).toNat)
  case atStart=>exact ⟨0,a5,e5,0,f,rfl,rfl,Nat.zero_le _,by omega,HST.out⟩
  case round=>
   obtain ⟨i,a,e,k,f,rfl,rfl,hI⟩:=hrel
   by_cases hlt:i<n
   ·have cb:=hI.out.2.2.nb.b i hlt
    cases hz:z i with
    |true=>
     rw [hz] at cb
     have HNX:Hid (qL1 w wr b (qG bs) g7 p gl gb n (i+1) a e k f z):=by
      have D:=hI.out.2.2
      refine ⟨D.nb,D.rd,D.bel,D.sc,D.rng,fun h hL=>?_⟩
      obtain ⟨q1,q2,⟨r,q3⟩,q4,q5,q6⟩:=D.full h hL
      have hwn:F32.wh p (h i)=none:=by
       have:=q5 i hlt
       rw [hz] at this
       cases hw:F32.wh p (h i) with
       |none=>rfl
       |some x=>rw [hw] at this;cases this
      rw [show n-i=(n-(i+1))+1 from by omega,Dm.wb,hwn] at q3
      refine ⟨q1,q2,⟨r,q3⟩,fun j hj=>?_,q5,fun j h1 h2 h3=>q6 j (by omega) h2 h3⟩
      by_cases e:j=i
      ·rw [e];exact q6 i (Nat.le_refl _) hlt hz
      ·exact q4 j (by omega)
     have HKR:=qA hI.out.2.1
     clear hz hI
     go_wp2_with fail
     go_roundw
     case rel=>exact ⟨i+1,a,e,k,f,by simp,by simp,hlt,HKR.out,HNX.out⟩
     case measure=>simp [intOf];omega
    |false=>
     rw [hz] at cb
     have HZ:=qA hz
     clear hz
     go_wp2_with fail
     refine (qCP b 0 (qG bs) a e wr hI.out.2.2.rd).mono ?_
     rintro e' w6 ⟨y,a6,e6,rfl,hy,T6⟩
     have HT6:=qA T6
     obtain ⟨k',hk',hkr⟩:∃k',wrap64 (k+y)=k'∧(-9223372036854775808≤k'∧k'≤9223372036854775807):=⟨_,rfl,by unfold wrap64;omega⟩
     have HKE:Hid (-9223372036854775808≤k+y∧k+y≤9223372036854775807→k'=k+y):=fun hh=>by rw [←hk'];unfold wrap64;omega
     have hk2:IntKind.i64.wrap (k+y)=k':=by rw [←hk',IntKind.wrap_i64];unfold wrap64;omega
     have HNB:Hid (nJ w6 gl gb n f z∧gV w6 g7 p∧Below b w w6):=by
      have D:=hI.out.2.2
      have O:=T6.only
      have hh:=HGL.out
      have hl7:=D.sc.lt
      exact ⟨D.nb.keep (O.block gl D.nb.ll (by omega)) (O.block gb D.nb.lb (by omega)) O.size,⟨by rw [O.block g7 hl7 (by omega)];exact D.sc.row⟩,D.bel.trans (O.below (Nat.le_refl _) (by omega))⟩
     have HKR:=qA hkr
     have c0:=HNB.out.2.1.c0
     have c1:=HNB.out.2.1.c1
     rw [HP.out] at c1
     have HV:=qA (HVO.out p k' w6)
     rw [HP.out] at HV
     obtain ⟨x,hx⟩:∃x,F32.val p k'=x:=⟨_,rfl⟩
     have hxM:x<4294967296:=by rw [←hx];exact qDC _ _
     rw [hx] at HV
     have HX:=qA hx
     clear T6 hkr hx
     go_wp2_with fail
     refine HV.out.mono ?_
     rintro e' w7 ⟨rfl,B7⟩
     have HN7:Hid (nJ w7 gl gb n f z∧gV w7 g7 p∧Below b w w7∧Rd w7 b 0 (qG bs) a6 e6):=by
      have N:=HNB.out
      have hh:=HGL.out
      have hl7:=N.2.1.lt
      exact ⟨N.1.keep (B7.block gl N.1.ll) (B7.block gb N.1.lb) B7.size,N.2.1.below B7 hl7,N.2.2.trans (B7.mono (by omega)),HT6.out.rd.below B7 (by omega)⟩
     clear B7 c0 c1
     have d1:=HN7.out.1.l i hlt
     have d2:=HN7.out.1.fl i
     have HNX:Hid (qL1 w (w7.setCell ⟨gl,i,none⟩ (.int .u32 (x:Int))) b (qG bs) g7 p gl gb n (i+1) a6 e6 k' (fun j=>if j=i then x else f j) z):=by
      have D:=hI.out.2.2
      have hh:=HGL.out
      refine ⟨HN7.out.1.setL i x hlt,HN7.out.2.2.2.setOther' gl _ (by omega) _,HN7.out.2.2.1.setCell (p:=⟨gl,i,none⟩) (show b≤gl by omega) _,⟨by rw [Below.heap_setCell _ _ _ _ (show g7≠gl by omega)];exact HN7.out.2.1.row⟩,fun j hj=>?_,fun h hL=>?_⟩
      ·by_cases e:j=i
       ·simp only [e,if_true];exact hxM
       ·simp only [e,if_false];exact D.rng j hj
      ·obtain ⟨q1,q2,⟨r,q3⟩,q4,q5,q6⟩:=D.full h hL
       obtain ⟨kk,hkk⟩:∃kk,F32.wh p (h i)=some kk:=by
        have:=q5 i hlt
        rw [HZ.out] at this
        cases hw:F32.wh p (h i) with
        |none=>rw [hw] at this;cases this
        |some x=>exact ⟨x,rfl⟩
       have hkv:=F32.wh_val hkk
       have hkm: -999999≤kk∧kk≤999999:=hkv.2
       rw [show n-i=(n-(i+1))+1 from by omega,Dm.wb,hkk] at q3
       simp only [List.append_assoc] at q3
       obtain ⟨t1,t2,t3⟩:=HT6.out.drop q1 (kk-k) _ (show _∧_ by omega) q3
       have hke:k'=kk:=by
        have:=HKE.out (by rw [t1];omega)
        rw [this,t1];omega
       refine ⟨t2,by rw [hke];exact hkm,⟨r,by rw [hke];exact t3⟩,fun j hj=>?_,q5,fun j h1 h2 h3=>?_⟩
       ·by_cases e:j=i
        ·simp only [e,if_true];rw [←HX.out,hke];exact hkv.1
        ·simp only [e,if_false];exact q4 j (by omega)
       ·simp only [show j≠i by omega,if_false];exact q6 j (by omega) h2 h3
     clear hI
     go_wp2_with fail
     go_roundw
     case rel=>exact ⟨i+1,a6,e6,k',_,by simp,by simp,hlt,HKR.out,HNX.out⟩
     case measure=>simp [intOf];omega
   ·have hi:i=n:=by have:=hI.out.1;omega
    have hI':Hid (qL1 w wr b (qG bs) g7 p gl gb n n a e k f z):=by have:=hI.out.2.2;rw [hi] at this;exact this
    clear hI
    go_wp2_with fail
    go_ret2
    refine .inr ⟨_,f,rfl,⟨hI'.out.nb.owns (by have:=HGE.out;have:=HBW.out;have:=H4.out.2.2.2;omega) hn,(by rw [HBW.out];exact hI'.out.bel),Nat.le_refl _⟩,hI'.out.rng,fun h hL j hj=>?_⟩
    have hLM:=HU.out h hL (by omega) _ rfl
    obtain ⟨q1,q2,r,q3⟩:=hLM
    have hp:=(HCP.out h r q1 q3).1
    exact (hI'.out.full h ⟨q1,hp,r,q3⟩).2.2.2.1 j hj
end Go.Proofs.YtkpmalfigmimaaaGreatDoor
namespace Go.Proofs.YtkpmalfigmimaaaGreatDoor
open Go.RowKit
open M
def qCC (R:List Bool) (n:Nat) (h:Nat→Nat):Prop:=(∀i,i<n→h i<4294967296)∧(uq h n).length≤256∧0<n∧∃r,R=dcB 32 h n++r
structure qLZ (w wr:World) (b:Nat) (s:ByteArray) (g u n k a:Nat) (e1:Int) (f:Nat→Nat):Prop where
 row:vQ wr g u k f
 rd:Rd wr b 0 s a e1
 bel:Below b w wr
 size:g<wr.heap.size
 rng:∀i,i<k→f i<4294967296
 full:∀h,qCC (rb s) n h→e1=0∧(uq h n).length=u∧(∀i,i<k→f i=(uq h n).getD i 0)∧∃r,(rb s).drop a=plL 32 ((uq h n).drop k)++(pcF (uq h n) (bitLen (u-1)) h 0 n++r)
structure qLO (w wr:World) (b:Nat) (s:ByteArray) (g1 u:Nat) (fU:Nat→Nat) (g n k a:Nat) (e1:Int) (f:Nat→Nat):Prop where
 un:vQ wr g1 u u fU
 row:vQ wr g n k f
 rd:Rd wr b 0 s a e1
 bel:Below b w wr
 size:g<wr.heap.size
 rng:∀i,i<k→f i<4294967296
 full:∀h,qCC (rb s) n h→e1=0∧(uq h n).length=u∧(∀i,i<u→fU i=(uq h n).getD i 0)∧(∃r,(rb s).drop a=pcF (uq h n) (bitLen (u-1)) h k (n-k)++r)∧∀i,i<k→f i=h i
theorem qBF (U:List Nat) (k:Nat) (h:k<U.length):U.drop k=U.getD k 0::U.drop (k+1):=by
 rw [List.drop_eq_getElem_cons h];simp [h]
theorem lY (U:List Nat) (v:Nat) (h:v∈U):U.getD (U.idxOf v) 0=v:=by
 rw [List.getD_eq_getElem?_getD,List.getElem?_eq_getElem (List.idxOf_lt_length_of_mem h)]
 simp
theorem mS (v:Value) (bs:List Nat) (n:Nat) (w:World) (h:jQ w v bs) (hb:∀n∈bs,n<256) (hl:bs.length≤1000000000000) (hn:n≤4096):
  Calls Tryz.prog 111 #[v,.int .i64 n] w (pC (fun f=>dcO 32 f n) bs n w):=by
 have H:=qA h
 have HB:=qA hb
 have HL:=qA hl
 clear h hb hl
 go_enter Tryz.func111,Tryz.ntmps111
 go_wp2_with fail
 refine (kI w v bs H.out).mono ?_
 rintro e w1 ⟨rfl,hw1⟩
 obtain ⟨b,hbw⟩:∃b,w.heap.size=b:=⟨_,rfl⟩
 have HR:Hid (Rd w1 b 0 (qG bs) 0 0∧w1.heap.size=b+1∧Below b w w1):=by
  rw [hw1,←hbw];exact ⟨xY w bs HL.out,by simp,(Below.refl _ _).alloc (Nat.le_refl _) _⟩
 have HBW:=qA hbw
 have HU:Hid (∀h,nH (fun f=>dcO 32 f n) bs n h→0<n→qCC (rb (qG bs)) n h):=fun h hL h0=>by
  obtain ⟨l,r,q1,q2⟩:=hL.2.2 h0
  change dcO 32 h n=some l at q1
  unfold dcO at q1
  split at q1
  ·rename_i hle
   simp only [Option.some.injEq] at q1
   exact ⟨hL.1,hle,h0,r,by rw [qU bs HB.out,q1];exact q2⟩
  ·cases q1
 rw [hbw]
 clear hw1 hbw
 go_wp2_with fail
 refine (zK b 0 (qG bs) 0 8 0 w1 HR.out.1 (by omega)).mono ?_
 rintro e w2 ⟨m,a2,e2,rfl,hm,T2⟩
 have hm8:m<256:=hm
 have HT2:=qA T2
 have hs2:b+1≤w2.heap.size:=by have:=T2.only.size;have:=HR.out.2.1;omega
 clear hm T2
 have r0:IntKind.i64.wrap (m:Int)=(m:Int):=by rw [IntKind.wrap_i64];omega
 have hmk:∀ww:World,(Instr.makeSlice 124 (.int .i64 ((m:Int)+1)) (.int .i64 ((m:Int)+1))).run Tryz.prog ww= .ok (.slice (some ⟨ww.heap.size,0,none⟩) (m+1) (m+1)) (ww.alloc (.cells (Array.replicate (m+1) (Value.int .u32 0)) 57)):=fun ww=>zL (m+1) (by omega) ww
 obtain ⟨g1,hg1⟩:∃g1,w2.heap.size=g1:=⟨_,rfl⟩
 obtain ⟨W2,hW2⟩:∃W2,W2=w2.alloc (.cells (Array.replicate (m+1) (Value.int .u32 0)) 57):=⟨_,rfl⟩
 have HA:Hid (qLZ w W2 b (qG bs) g1 (m+1) n 0 a2 e2 (fun _=>0)):=by
  have hA:Below w2.heap.size w2 W2:=by rw [hW2];exact (Below.refl _ w2).alloc (Nat.le_refl _) _
  refine ⟨by rw [←hg1,hW2];exact vQ.new w2 (m+1) _,HT2.out.rd.below hA (by omega),(HR.out.2.2.trans (HT2.out.only.below (Nat.le_refl _) (by have:=HR.out.2.1;omega))).trans (hA.mono (by omega)),by rw [hW2,←hg1];simp,fun i hi=>by omega,fun h hL=>?_⟩
  obtain ⟨q1,q2,q3,r,q4⟩:=hL
  have hp:=qD8 h n q3
  have q5:(rb (qG bs)).drop 0=bitsOf ((uq h n).length-1) 8++(plL 32 (uq h n)++(pcB (uq h n) (bitLen ((uq h n).length-1)) h n++r)):=by
   rw [List.drop_zero,q4,dcB];simp only [List.append_assoc]
  obtain ⟨q6,q7,q8⟩:=HT2.out.drop rfl ((uq h n).length-1) _ (show _<2^8 by omega) q5
  have q9:(uq h n).length=m+1:=by omega
  exact ⟨q7,q9,fun i hi=>by omega,r,by rw [q8,qGI,q9,List.drop_zero]⟩
 go_upto_region 3 with fail
 (try rw [hg1])
 (try rw [←hW2])
 clear hW2 hmk
 have HG1:Hid (b+1≤g1):=by show b+1≤g1;omega
 clear hg1 hs2
 go_wp2_with fail
 go_loopw [21] (fun t21 wr=>∃(k a:Nat) (e1:Int) (f:Nat→Nat),t21= .int .i64 (k:Int)∧Hid (k≤m+1∧qLZ w wr b (qG bs) g1 (m+1) n k a e1 f)) (fun t21 _=>m+1-(intOf t21).toNat)
 case atStart=>exact ⟨0,a2,e2,_,rfl,Nat.zero_le _,HA.out⟩
 case round=>
  obtain ⟨k,a,e1,f,rfl,hI⟩:=hrel
  by_cases hlt:k<m+1
  ·go_wp2_with fail
   refine (kK b 0 (qG bs) a e1 wr hI.out.2.rd).mono ?_
   rintro e w3 ⟨x,a3,e3,rfl,hx,T⟩
   have HK:Hid (Hk (fun y=>bitsOf y 32) (fun y=>y<2^32) wr w3 b 0 (qG bs) a e1 x a3 e3):=yW hI.out.2.rd.le hx T
   clear T
   have hgb:g1≠b:=by have:=HG1.out;omega
   have RW:=hI.out.2.row.ofBlock (HK.out.only.block g1 hI.out.2.size hgb)
   have c2:w3.cell? ⟨g1,k,none⟩=some (.int .u32 0):=by rw [RW.cell k hlt,if_neg (by omega)];rfl
   have c3:=RW.fz k
   have HNX:Hid (qLZ w (w3.setCell ⟨g1,k,none⟩ (.int .u32 (x:Int))) b (qG bs) g1 (m+1) n (k+1) a3 e3 (fun i=>if i=k then x else f i)):=by
    have D:=hI.out.2
    have hbs:b+1≤wr.heap.size:=by have:=D.size;have:=HG1.out;omega
    refine ⟨RW.set hlt x,HK.out.rd.setOther' g1 _ hgb _,(D.bel.trans (HK.out.only.below (Nat.le_refl _) (by omega))).setCell (p:=⟨g1,k,none⟩) (show b≤g1 by have:=HG1.out;omega) _,by simp [World.setCell];have:=HK.out.only.size;have:=D.size;omega,fun i hi=>?_,fun h hL=>?_⟩
    ·by_cases e:i=k
     ·simp [e];exact hx
     ·simp [e];exact D.rng i (by omega)
    ·obtain ⟨q1,q2,q3,r,q4⟩:=D.full h hL
     rw [qBF _ k (by omega),plL,List.append_assoc] at q4
     have q0:(uq h n).getD k 0<2^32:=by
      have hk2:k<(uq h n).length:=by omega
      have:=qIK h 4294967296 n hL.1 ((uq h n).getD k 0) (by rw [List.getD_eq_getElem?_getD,List.getElem?_eq_getElem hk2];exact List.getElem_mem hk2)
      exact this
     obtain ⟨q6,q7,q8⟩:=HK.out.drop q1 _ _ q0 q4
     refine ⟨q7,q2,fun i hi=>?_,r,q8⟩
     by_cases e:i=k
     ·simp [e,q6]
     ·simp [e];rw [q3 i (by omega)];simp
   clear RW
   go_wp2_with fail
   go_roundw
   case rel=>exact ⟨k+1,a3,e3,_,by simp,hlt,HNX.out⟩
   case measure=>simp [intOf];omega
  ·have hk:k=m+1:=by have:=hI.out.1;omega
   subst hk
   have HD:=qA hI.out.2
   clear hI
   have hmk:=zL n hn
   obtain ⟨g,hg⟩:∃g,wr.heap.size=g:=⟨_,rfl⟩
   obtain ⟨W3,hW3⟩:∃W3,W3=wr.alloc (.cells (Array.replicate n (Value.int .u32 0)) 57):=⟨_,rfl⟩
   have HP:Hid (qLO w W3 b (qG bs) g1 (m+1) f g n 0 a e1 (fun _=>0)):=by
    have hA:Below wr.heap.size wr W3:=by rw [hW3];exact (Below.refl _ wr).alloc (Nat.le_refl _) _
    have hs:=HD.out.size
    have hs1:=HG1.out
    refine ⟨HD.out.row.ofBlock (hA.block g1 hs),by rw [←hg,hW3];exact vQ.new wr n _,HD.out.rd.below hA (by omega),HD.out.bel.trans (hA.mono (by omega)),by rw [hW3,←hg];simp,fun i hi=>by omega,fun h hL=>?_⟩
    obtain ⟨q1,q2,q3,r,q4⟩:=HD.out.full h hL
    have q6:(uq h n).drop (m+1)=[]:=List.drop_eq_nil_of_le (by omega)
    rw [q6,plL,List.nil_append] at q4
    exact ⟨q1,q2,q3,⟨r,by rw [q4,Nat.sub_zero]⟩,fun i hi=>by omega⟩
   have HRU:=qA HD.out.rng
   have HGG:Hid (g1<g):=by show g1<g;have:=HD.out.size;omega
   clear HD
   go_upto_region 9 with fail
   (try rw [hg])
   (try rw [←hW3])
   clear hW3 hmk hg
   go_wp2_with fail
   go_loopw [34] (fun t34 wr=>∃(k a:Nat) (e1:Int) (fl:Nat→Nat),t34= .int .i64 (k:Int)∧Hid (k≤n∧qLO w wr b (qG bs) g1 (m+1) f g n k a e1 fl)) (fun t34 _=>n-(intOf t34).toNat)
   case atStart=>exact ⟨0,a,e1,_,rfl,Nat.zero_le _,HP.out⟩
   case round=>
    obtain ⟨k,a,e1,fl,rfl,hJ⟩:=hrel
    by_cases hlt2:k<n
    ·have hb8:bitLen m≤8:=bitLen_le8 m hm8
     have PW:=qA (uP (some ⟨g1,0,none⟩) (m+1) (m+1) wr (by omega) (by omega))
     rw [show m+1-1=m from rfl] at PW
     obtain ⟨q,hq⟩:∃q,bitLen m=q:=⟨_,rfl⟩
     rw [hq] at PW hb8
     have HQ:=qA hq
     clear hq
     go_wp2_with fail
     refine PW.out.mono ?_
     rintro e w4 ⟨rfl,hw4⟩
     have hw4:=hw4.symm
     subst hw4
     go_wp2_with fail
     refine (zK b 0 (qG bs) a q e1 wr hJ.out.2.rd (by omega)).mono ?_
     rintro e w5 ⟨y,a5,e5,rfl,hy,T5⟩
     have HT5:=qA T5
     have hy2:y<256:=Nat.lt_of_lt_of_le hy (Nat.le_trans (Nat.pow_le_pow_right (by omega) hb8) (by decide))
     clear T5 hy
     have r1:IntKind.i64.wrap (y:Int)=(y:Int):=by rw [IntKind.wrap_i64];omega
     have HF:Hid (∀h,qCC (rb (qG bs)) n h→e5=0∧y=(uq h n).idxOf (h k)∧(uq h n).length=m+1∧∃r,(rb (qG bs)).drop a5=pcF (uq h n) q h (k+1) (n-(k+1))++r):=fun h hL=>by
      obtain ⟨q1,q2,q3,⟨r,q4⟩,q5⟩:=hJ.out.2.full h hL
      rw [show m+1-1=m from rfl,HQ.out,show n-k=(n-(k+1))+1 from by omega,pcF,List.append_assoc] at q4
      have hidx:=List.idxOf_lt_length_of_mem (gQ h k n hlt2)
      have q6:(uq h n).idxOf (h k)<2^q:=by have:=(bitLen_spec m).1;rw [HQ.out] at this;omega
      obtain ⟨q7,q8,q9⟩:=HT5.out.drop q1 _ _ q6 q4
      exact ⟨q8,q7,q2,r,q9⟩
     by_cases hge:m+1≤y
     ·have hge':(y:Int)≥(m:Int)+1:=by omega
      have HB5:Hid (Below b w w5):=hJ.out.2.bel.trans (HT5.out.only.below (Nat.le_refl _) (by have:=hJ.out.2.size;have:=HGG.out;have:=HG1.out;omega))
      go_wp2_with fail
      go_ret2
      refine .inl ⟨83,by decide,rfl,by rw [HBW.out];exact HB5.out,fun h hL=>?_⟩
      obtain ⟨_,q2,q3,_⟩:=HF.out h (HU.out h hL (by omega))
      have:=List.idxOf_lt_length_of_mem (gQ h k n hlt2)
      omega
     ·have hge':¬((y:Int)≥(m:Int)+1):=by omega
      have hgb1:g1≠b:=by have:=HG1.out;omega
      have hgb:g≠b:=by have:=HG1.out;have:=HGG.out;omega
      have hgg:g≠g1:=by have:=HGG.out;omega
      have hsz:=hJ.out.2.size
      have UN:=hJ.out.2.un.ofBlock (HT5.out.only.block g1 (by have:=HGG.out;omega) hgb1)
      have RW:=hJ.out.2.row.ofBlock (HT5.out.only.block g hsz hgb)
      have cU:w5.cell? ⟨g1,y,none⟩=some (.int .u32 (f y:Int)):=by rw [UN.cell y (by omega),if_pos (by omega)]
      have c2:w5.cell? ⟨g,k,none⟩=some (.int .u32 0):=by rw [RW.cell k hlt2,if_neg (by omega)];rfl
      have c3:=RW.fz k
      obtain ⟨x,hx⟩:∃x,f y=x:=⟨_,rfl⟩
      have hxM:x<4294967296:=by rw [←hx];exact HRU.out y (by omega)
      rw [hx] at cU
      have HNX:Hid (qLO w (w5.setCell ⟨g,k,none⟩ (.int .u32 (x:Int))) b (qG bs) g1 (m+1) f g n (k+1) a5 e5 (fun i=>if i=k then x else fl i)):=by
       have D:=hJ.out.2
       have hs5:=HT5.out.only.size
       have hg1b:=HG1.out
       have hgg1:=HGG.out
       refine ⟨UN.ofBlock (Below.heap_setCell _ _ _ _ (fun e=>hgg e.symm)),RW.set hlt2 x,HT5.out.rd.setOther' g _ hgb _,(D.bel.trans (HT5.out.only.below (Nat.le_refl _) (by omega))).setCell (p:=⟨g,k,none⟩) (show b≤g by omega) _,by simp [World.setCell];omega,fun i hi=>?_,fun h hL=>?_⟩
       ·by_cases e:i=k
        ·simp [e];exact hxM
        ·simp [e];exact D.rng i (by omega)
       ·obtain ⟨q1,q2,q3,r,q4⟩:=HF.out h hL
        obtain ⟨_,_,p3,_,p5⟩:=D.full h hL
        refine ⟨q1,q3,p3,⟨r,by rw [show m+1-1=m from rfl,HQ.out];exact q4⟩,fun i hi=>?_⟩
        by_cases e:i=k
        ·simp only [e,if_true]
         rw [←hx,p3 y (by omega),q2,lY _ _ (gQ h k n hlt2)]
        ·simp only [e,if_false];exact p5 i (by omega)
      clear UN RW hx hJ
      go_wp2_with fail
      go_roundw
      case rel=>
       refine ⟨_,_,_,_,_,_,_,_,_,_,_,_,_,_,_,_,_,_,_,_,_,_,_,_,⟨k+1,a5,e5,_,?_,hlt2,HNX.out⟩,rfl⟩
       simp
      case measure=>simp [intOf];omega
    ·have hk2:k=n:=by have:=hJ.out.1;omega
     have hJ':Hid (qLO w wr b (qG bs) g1 (m+1) f g n n a e1 fl):=by have:=hJ.out.2;rw [hk2] at this;exact this
     clear hJ
     go_wp2_with fail
     go_ret2
     refine .inr ⟨_,fl,rfl,⟨hJ'.out.row.owns (by have:=HBW.out;have:=HG1.out;have:=HGG.out;omega) hn,(by rw [HBW.out];exact hJ'.out.bel),Nat.le_refl _⟩,hJ'.out.rng,fun h hL i hi=>?_⟩
     exact (hJ'.out.full h (HU.out h hL (by omega))).2.2.2.2 i hi
end Go.Proofs.YtkpmalfigmimaaaGreatDoor
namespace Go.Proofs.YtkpmalfigmimaaaGreatDoor
open Go.RowKit
theorem mE (v z:Value) (c m k:Nat) (h:m+k≤c):splice (List.replicate m v++List.replicate (c-m) z) m (List.replicate k v)=List.replicate (m+k) v++List.replicate (c-(m+k)) z:=by
 unfold splice
 rw [List.take_left' (by simp),List.length_replicate,List.drop_append,List.drop_eq_nil_of_le (by simp),List.nil_append,List.length_replicate,List.drop_replicate,←List.append_assoc,List.replicate_append_replicate]
 congr 2;omega
theorem fX (v c b o cp:Nat) (w:World) (hv:w.cell? ⟨b,o,none⟩=some (.int .u32 (v:Int))) (h0:0<c) (hc:c≤4096):
  Calls Tryz.prog 135 #[.slice (some ⟨b,o,none⟩) 1 cp,.int .i64 c] w fun e w'=>e= .returned (.slice (some ⟨w.heap.size,0,none⟩) c c)∧w'.heap[w.heap.size]?=some (.cells (List.replicate c (Value.int .u32 (v:Int))).toArray 57 (0,0))∧Below w.heap.size w w':=by
 have HV:=qA hv
 have hbw:b<w.heap.size:=block_lt_of_cell hv
 have hsz:(Tryz.prog.info? 57).map (·.size)=some 1:=by kernel_rfl
 have hmk:=zL c hc
 have r1:IntKind.u64.wrap (c:Int)=(c:Int):=by rw [IntKind.wrap_u64];omega
 obtain ⟨g,hg⟩:∃g,w.heap.size=g:=⟨_,rfl⟩
 rw [hg] at hbw⊢
 obtain ⟨W1,hW1⟩:∃W1,W1=w.alloc (.cells (Array.replicate c (Value.int .u32 0)) 57):=⟨_,rfl⟩
 have HG:Hid (W1.heap[g]?=some (.cells (List.replicate c (Value.int .u32 0)).toArray 57 (0,0))∧Below g w W1∧W1.cell? ⟨b,o,none⟩=some (.int .u32 (v:Int))):=by
  have hB:Below g w W1:=by rw [hW1,←hg];exact (Below.refl _ w).alloc (Nat.le_refl _) _
  refine ⟨?_,hB,(hB.cell (p:=⟨b,o,none⟩) hbw).trans hv⟩
  have:=heap_alloc_new w (.cells (Array.replicate c (Value.int .u32 0)) 57)
  rw [hW1,←hg,this];simp
 clear hv
 go_enter Tryz.func135,Tryz.ntmps135
 go_wp2_with fail
 refine (bN c (by omega) w).mono ?_
 rintro e w1 ⟨rfl,hw1⟩
 have hw2:=hw1.symm
 subst hw2
 clear hw1
 go_upto_region 7 with fail
 (try rw [hg])
 (try rw [←hW1])
 clear hW1 hmk
 have HC:Hid (∀(j:Nat) (u:Value),[Value.int .u32 (v:Int)][j]?=some u→W1.cell? ((⟨b,o,none⟩:Addr).add j)=some u):=fun j u hu=>by
  match j with
  |0=>simp at hu;subst hu;exact HG.out.2.2
  |j+1=>simp at hu
 have hrun:∃w2,(Builtin.copy_ #[124,124] 3 #[.slice (some ⟨g,0,none⟩) c c,.slice (some ⟨b,o,none⟩) 1 cp]).run Tryz.prog W1= .ok (.int .i64 1) w2∧Hid (w2.heap[g]?=some (.cells (splice (List.replicate c (Value.int .u32 0)) 0 [Value.int .u32 (v:Int)]).toArray 57 (0,0))∧Below g w w2):=by
  have h1:=run_copy_row (P:=Tryz.prog) W1 124 124 3 57 g 0 c c ⟨b,o,none⟩ 1 cp (List.replicate c (Value.int .u32 0)).toArray 57 [Value.int .u32 (v:Int)] Tryz.underlying124 hsz HG.out.1 (show 1=min 1 c by omega) HC.out (by simp;omega) (fun u hu=>by simp at hu;subst hu;rfl)
  exact ⟨_,h1,by simpa [splice] using setRow_heap W1 g _ _ _ _ HG.out.1,below_setRow HG.out.2.1 (Nat.le_refl _) _⟩
 obtain ⟨w2,hrun,hw2⟩:=hrun
 have hg2:Hid (w2.heap[g]?=some (.cells (splice (List.replicate c (Value.int .u32 0)) 0 [Value.int .u32 (v:Int)]).toArray 57 (0,0))):=hw2.out.1
 have hB2:=hw2.out.2
 have HG2:Hid (w2.heap[g]?=some (.cells (List.replicate 1 (Value.int .u32 (v:Int))++List.replicate (c-1) (Value.int .u32 0)).toArray 57 (0,0))):=by
  have:=mE (Value.int .u32 (v:Int)) (Value.int .u32 0) c 0 1 (by omega)
  simp only [List.replicate_zero,List.nil_append,Nat.sub_zero,Nat.zero_add] at this
  rw [←this];exact hg2.out
 have HB2:=qA hB2
 clear hg2 hB2 hw2
 go_wp2_with fail
 go_loopw [8] (fun t8 wr=>∃m:Nat,t8= .int .i64 (m:Int)∧Hid (0<m∧m≤c∧wr.heap[g]?=some (.cells (List.replicate m (Value.int .u32 (v:Int))++List.replicate (c-m) (Value.int .u32 0)).toArray 57 (0,0))∧Below g w wr)) (fun t8 _=>c-(intOf t8).toNat)
 case atStart=>exact ⟨1,rfl,by omega,by omega,HG2.out,HB2.out⟩
 case round=>
  obtain ⟨m,rfl,hI⟩:=hrel
  by_cases hlt:m<c
  ·obtain ⟨k,hk⟩:∃k,k=min m (c-m):=⟨_,rfl⟩
   have h0m:0<m:=hI.out.1
   have hk1:0<k∧m+k≤c:=by omega
   have HS:Hid (∀(wq:World),wq.heap=wr.heap→∀(j:Nat) (u:Value),(List.replicate k (Value.int .u32 (v:Int)))[j]?=some u→wq.cell? ((⟨g,0,none⟩:Addr).add j)=some u):=fun wq hq j u hu=>by
    rw [Addr.add_mid,Nat.zero_add,cell_of_row wq g j _ _ _ (by rw [hq];exact hI.out.2.2.1)]
    rw [List.getElem?_replicate] at hu
    split at hu
    ·rename_i hj
     simp only [List.getElem?_toArray]
     rw [List.getElem?_append_left (by simp;omega),List.getElem?_replicate,if_pos (by omega)];exact hu
    ·cases hu
   have HB3:=qA hI.out.2.2.2
   have n1:¬c=m:=by omega
   have hmc:m≤c:=by omega
   have n2:¬m=0:=by omega
   have n3:wrap64 ((m:Int)+(k:Int))=((m+k:Nat):Int):=by unfold wrap64;omega
   have n4:IntKind.i64.wrap ((m:Int)+(k:Int))=((m+k:Nat):Int):=by rw [IntKind.wrap_i64];omega
   have HK:=qA hk
   clear hk
   go_wp2_with fail
   go_region_law (refine step_copy_splice rfl (.tmp 41) (.tmp 44) 124 124 rfl 57 Tryz.underlying124 hsz (some ⟨g,m,none⟩) (some ⟨g,0,none⟩) (c-m) (c-m) m c (by simp [Act.eval,Act.put]) (by simp [Act.eval,Act.put]) g m (List.replicate m (Value.int .u32 (v:Int))++List.replicate (c-m) (Value.int .u32 0)) 57 hI.out.2.2.1 (List.replicate k (Value.int .u32 (v:Int))) (by rw [List.length_replicate];exact HK.out) (fun _=>⟨rfl,_,rfl,HS.out _ rfl⟩) (by simp;omega) (fun u hu=>by rw [List.eq_of_mem_replicate hu];rfl) g w ⟨HB3.out.os,HB3.out.tape,HB3.out.output,HB3.out.size,HB3.out.block⟩ (Nat.le_refl _) ?_;intro w3 hg3 hB3)
   have HG3:Hid (w3.heap[g]?=some (.cells (List.replicate (m+k) (Value.int .u32 (v:Int))++List.replicate (c-(m+k)) (Value.int .u32 0)).toArray 57 (0,0))):=by
    rw [←mE _ _ c m k hk1.2];exact hg3.out
   have HB4:=qA hB3
   clear hg3 hB3
   simp [Act.put]
   go_roundw
   case rel=>exact ⟨_,_,_,_,_,_,_,_,_,_,_,_,_,_,⟨m+k,by simp,by omega,by omega,HG3.out,HB4.out⟩,rfl⟩
   case measure=>simp [intOf];omega
  ·have hm:m=c:=by have:=hI.out.2.1;omega
   have HE:Hid (wr.heap[g]?=some (.cells (List.replicate c (Value.int .u32 (v:Int))).toArray 57 (0,0))):=by
    have:=hI.out.2.2.1
    rw [hm,Nat.sub_self,List.replicate_zero,List.append_nil] at this
    exact this
   have HB5:=qA hI.out.2.2.2
   go_wp2_with fail
   go_ret
   exact ⟨rfl,HE.out,HB5.out⟩
end Go.Proofs.YtkpmalfigmimaaaGreatDoor
