import Derived.Test.YtkpmalfigmimaaaGreatDoorC2G32
import Derived.Test.YtkpmalfigmimaaaGreatDoorC3C32
set_option linter.unusedVariables false
set_option linter.unusedSimpArgs false
set_option maxRecDepth 100000
set_option maxHeartbeats 8000000
namespace Go.Proofs.YtkpmalfigmimaaaGreatDoor
open Go.RowKit
open M
theorem fA (c:Nat) (h:c≤4096) (w:World):
  (Instr.makeSlice 183 (.int .i64 (c:Int)) (.int .i64 (c:Int))).run Tryz.prog w= .ok (.slice (some ⟨w.heap.size,0,none⟩) c c) (w.alloc (.cells (Array.replicate c (Value.bool false)) 4)):=by
 have hz:(Tryz.prog.info? 4).bind (·.zero)=some (.bool false):=by kernel_rfl
 have hs:(Tryz.prog.info? 4).map (·.size)=some 1:=by kernel_rfl
 have hb:(Tryz.prog.info? 4).map (·.bytes)=some 1:=by kernel_rfl
 cases hi:Tryz.prog.info? 4 with
 |none=>simp [hi] at hs
 |some i=>
  simp only [hi,Option.bind_some,Option.map_some,Option.some.injEq] at hz hs hb
  rw [run_make w 183 4 i _ Tryz.underlying183 hi hz .i64 .i64 (c:Int) (c:Int) (by omega) (by omega) (by rw [hb];omega) (by omega)]
  have e:madeCells (Value.bool false).cells ((c:Int).toNat*i.size)=Array.replicate c (Value.bool false):=by
   rw [hs]
   apply Array.ext
   ·simp [madeCells]
   ·intro j h1 h2
    simp [madeCells,Value.cells,Nat.mod_one]
  rw [e];simp
structure nC (w:World) (gl gb n:Nat) (f:Nat→Nat) (z:Nat→Bool):Prop where
 ne:gl≠gb
 l:∀i,i<n→w.cell? ⟨gl,i,none⟩=some (.int .u32 (f i:Int))
 b:∀i,i<n→w.cell? ⟨gb,i,none⟩=some (.bool (z i))
 fl:∀i,w.frozen? ⟨gl,i,none⟩=false
 fb:∀i,w.frozen? ⟨gb,i,none⟩=false
 bl:∃cur:Array Value,w.heap[gl]?=some (.cells cur 57 (0,0))∧cur.size=n
 lb:gb<w.heap.size
theorem nC.ll {w:World} {gl gb n:Nat} {f:Nat→Nat} {z:Nat→Bool} (h:nC w gl gb n f z):gl<w.heap.size:=by
 obtain ⟨cur,h1,_⟩:=h.bl
 exact qB h1
theorem nC.keep {w w':World} {gl gb n:Nat} {f:Nat→Nat} {z:Nat→Bool} (h:nC w gl gb n f z) (h1:w'.heap[gl]?=w.heap[gl]?) (h2:w'.heap[gb]?=w.heap[gb]?) (hs:w.heap.size≤w'.heap.size):nC w' gl gb n f z:=
 ⟨h.ne,fun i hi=>by rw [World.cell?_of_block (w:=w) h1];exact h.l i hi,fun i hi=>by rw [World.cell?_of_block (w:=w) h2];exact h.b i hi,
  fun i=>by rw [World.frozen?_of_block (w:=w) (w':=w') (a:=⟨gl,i,none⟩) h1];exact h.fl i,fun i=>by rw [World.frozen?_of_block (w:=w) (w':=w') (a:=⟨gb,i,none⟩) h2];exact h.fb i,by rw [h1];exact h.bl,Nat.lt_of_lt_of_le h.lb hs⟩
theorem nC.setL {w:World} {gl gb n:Nat} {f:Nat→Nat} {z:Nat→Bool} (h:nC w gl gb n f z) (k x:Nat) (hk:k<n):nC (w.setCell ⟨gl,k,none⟩ (.int .u32 (x:Int))) gl gb n (fun i=>if i=k then x else f i) z:=by
 have hb:(w.setCell ⟨gl,k,none⟩ (.int .u32 (x:Int))).heap[gb]?=w.heap[gb]?:=Below.heap_setCell _ _ _ _ (fun e=>h.ne e.symm)
 refine ⟨h.ne,fun i hi=>?_,fun i hi=>by rw [World.cell?_of_block (w:=w) hb];exact h.b i hi,fun i=>by rw [qE];exact h.fl i,fun i=>by rw [qE];exact h.fb i,?_,by simp [World.setCell];exact h.lb⟩
 ·by_cases e:i=k
  ·subst e
   rw [qF _ _ _ _ _ (h.l i hi)];simp
  ·rw [qC _ _ _ _ _ e,h.l i hi];simp [e]
 ·obtain ⟨cur,h1,h2⟩:=h.bl
  exact ⟨_,heap_setCell_same w gl k cur _ _ h1,by simpa using h2⟩
theorem nC.setB {w:World} {gl gb n:Nat} {f:Nat→Nat} {z:Nat→Bool} (h:nC w gl gb n f z) (k:Nat) (hk:k<n):nC (w.setCell ⟨gb,k,none⟩ (.bool true)) gl gb n f (fun i=>if i=k then true else z i):=by
 have hb:(w.setCell ⟨gb,k,none⟩ (.bool true)).heap[gl]?=w.heap[gl]?:=Below.heap_setCell _ _ _ _ h.ne
 refine ⟨h.ne,fun i hi=>by rw [World.cell?_of_block (w:=w) hb];exact h.l i hi,fun i hi=>?_,fun i=>by rw [qE];exact h.fl i,fun i=>by rw [qE];exact h.fb i,by rw [hb];exact h.bl,by simp [World.setCell];exact h.lb⟩
 by_cases e:i=k
 ·subst e
  rw [qF _ _ _ _ _ (h.b i hi)];simp
 ·rw [qC _ _ _ _ _ e,h.b i hi];simp [e]
theorem nC.new (w:World) (n:Nat) (two:Bool):nC (if two then ((w.alloc (.cells (Array.replicate n (Value.int .u32 0)) 57)).alloc (.cells (Array.replicate n (Value.bool false)) 4)) else ((w.alloc (.cells (Array.replicate n (Value.bool false)) 4)).alloc (.cells (Array.replicate n (Value.int .u32 0)) 57))) (if two then w.heap.size else w.heap.size+1) (if two then w.heap.size+1 else w.heap.size) n (fun _=>0) (fun _=>false):=by
 cases two
 ·simp only [Bool.false_eq_true,if_false]
  have h0:=heap_alloc_new w (.cells (Array.replicate n (Value.bool false)) 4)
  have h1:=heap_alloc_new (w.alloc (.cells (Array.replicate n (Value.bool false)) 4)) (.cells (Array.replicate n (Value.int .u32 0)) 57)
  have h2:=xG h0 (.cells (Array.replicate n (Value.int .u32 0)) 57)
  rw [show (w.alloc (.cells (Array.replicate n (Value.bool false)) 4)).heap.size=w.heap.size+1 from by simp] at h1
  refine ⟨by omega,fun i hi=>?_,fun i hi=>?_,fun i=>frozen_of_row _ _ _ _ _ h1,fun i=>frozen_of_row _ _ _ _ _ h2,⟨_,h1,by simp⟩,qB h2⟩
  ·rw [cell_of_row _ _ _ _ _ _ h1];simp [hi]
  ·rw [cell_of_row _ _ _ _ _ _ h2];simp [hi]
 ·simp only [if_true]
  have h0:=heap_alloc_new w (.cells (Array.replicate n (Value.int .u32 0)) 57)
  have h1:=heap_alloc_new (w.alloc (.cells (Array.replicate n (Value.int .u32 0)) 57)) (.cells (Array.replicate n (Value.bool false)) 4)
  have h2:=xG h0 (.cells (Array.replicate n (Value.bool false)) 4)
  rw [show (w.alloc (.cells (Array.replicate n (Value.int .u32 0)) 57)).heap.size=w.heap.size+1 from by simp] at h1
  refine ⟨by omega,fun i hi=>?_,fun i hi=>?_,fun i=>frozen_of_row _ _ _ _ _ h2,fun i=>frozen_of_row _ _ _ _ _ h1,⟨_,h2,by simp⟩,qB h1⟩
  ·rw [cell_of_row _ _ _ _ _ _ h2];simp [hi]
  ·rw [cell_of_row _ _ _ _ _ _ h1];simp [hi]
theorem qF9 (b off:Nat) (s:ByteArray) (a:Nat) (e0:Int) (w:World) (h:Rd w b off s a e0):
  Calls Tryz.prog 134 #[.pointer (some ⟨b,off,none⟩)] w fun e w'=>∃(x a':Nat) (e1:Int),e= .returned (.int .u64 (x:Int))∧x<18446744073709551616∧Hk varB (fun y=>y<18446744073709551616) w w' b off s a e0 x a' e1∧(s.size=0→x=0):=by
 by_cases h0:s.size=0
 ·have hr:rb s=[]:=List.eq_nil_of_length_eq_zero (by rw [jN];omega)
  have hno:∀y r,(rb s).drop a=varB y++r→False:=fun y r hd=>by
   have:=congrArg List.length hd
   have h2:=sZ y
   rw [hr,List.length_append] at this
   simp at this
   omega
  by_cases he:e0=0
  ·subst he
   rcases gN s a with ⟨x,en,hr2,hx,hen,ht⟩|⟨c,hc,hr2⟩
   ·exfalso
    have:=congrArg List.length ht
    have h2:=sZ x
    rw [hr,List.length_append] at this
    simp at this
    omega
   ·refine (mV b off s a c w h hr2 hc).mono fun e w' ⟨h1,h2,h3⟩=>?_
    exact ⟨0,a,c,h1,by omega,⟨h2,h3,fun _ y r _ hd=>(hno y r hd).elim⟩,fun _=>rfl⟩
  ·refine (mU b off s a e0 w h (by rw [beq_eq_false_iff_ne];exact he)).mono fun e w' ⟨h1,h2,h3⟩=>?_
   exact ⟨0,a,e0,h1,by omega,⟨h2,h3,fun h=>absurd h he⟩,fun _=>rfl⟩
 ·exact (dJ b off s a e0 w h).mono fun e w' ⟨x,a',e1,h1,h2,h3⟩=>⟨x,a',e1,h1,h2,h3,fun h=>absurd h h0⟩
def qL1 (s:ByteArray) (a:Nat) (e0:Int) (n p:Nat) (h:Nat→Nat) (r:List Bool):Prop:=
 e0=0∧(∀i,i<n→h i<4294967296)∧(rb s).drop a=varB (F32.cnt p h 0 n)++(F32.nt 32 p h 0 n 0++r)
structure qL8 (w wr:World) (b:Nat) (s:ByteArray) (a0:Nat) (e0:Int) (gl gb n i left a1:Nat) (e1:Int) (f:Nat→Nat) (z:Nat→Bool):Prop where
 nb:nC wr gl gb n f z
 rd:Rd wr b 0 s a1 e1
 bel:Below b w wr
 oth:∀g,g<w.heap.size→g≠b→wr.heap[g]?=w.heap[g]?
 rng:∀j,j<n→f j<4294967296
 full:∀p h r,qL1 s a0 e0 n p h r→e1=0∧left=F32.cnt p h i (n-i)∧(rb s).drop a1=F32.nt 32 p h i (n-i) 0++r∧(∀j,j<i→z j=!(F32.wh p (h j)).isSome∧(z j=true→f j=h j))∧∀j,i≤j→z j=false
 emp:n=0→s.size=0→left=0
def qAJ (w:World) (b:Nat) (s:ByteArray) (a0:Nat) (e0:Int) (n:Nat) (e:Ending) (w':World):Prop:=
 (e= .returned (.tuple #[.slice none 0 0,.slice none 0 0,.bool false])∧Below b w w'∧(∀p h r,qL1 s a0 e0 n p h r→False)∧¬(n=0∧s.size=0))∨
 ∃(gl gb i a1:Nat) (e1:Int) (f:Nat→Nat) (z:Nat→Bool),e= .returned (.tuple #[.slice (some ⟨gl,0,none⟩) n n,.slice (some ⟨gb,0,none⟩) n n,.bool true])∧qL8 w w' b s a0 e0 gl gb n i 0 a1 e1 f z∧w.heap.size≤gl∧w.heap.size≤gb∧i≤n
theorem gB (b:Nat) (s:ByteArray) (a n:Nat) (e0:Int) (w:World) (h:Rd w b 0 s a e0) (hn:n≤4096) (hb:b<w.heap.size):
  Calls Tryz.prog 140 #[.pointer (some ⟨b,0,none⟩),.int .i64 n] w (qAJ w b s a e0 n):=by
 have H:=qA h
 have HBS:=qA hb
 have hm1:=zK n hn
 have hm2:=fA n hn
 have HN1:=qA (nC.new w n true)
 have HN2:=qA (nC.new w n false)
 simp only [if_true,Bool.false_eq_true,if_false] at HN1 HN2
 clear h hb
 go_enter Tryz.func140,Tryz.ntmps140
 go_upto_region 1 with fail
 go_cut [4,5] from 10 (fun t4 t5 wc=>∃(gl gb:Nat),t4= .slice (some ⟨gl,0,none⟩) n n∧t5= .slice (some ⟨gb,0,none⟩) n n∧Hid (nC wc gl gb n (fun _=>0) (fun _=>false)∧Below w.heap.size w wc∧w.heap.size≤gl∧w.heap.size≤gb))
 case first=>
  go_region
  ·go_wp2_with fail
   go_meet
   case rel=>exact ⟨w.heap.size,w.heap.size+1,rfl,rfl,HN1.out.keep rfl rfl (Nat.le_refl _),(((Below.refl _ w).alloc (Nat.le_refl _) _).alloc (by simp) _).drew,Nat.le_refl _,by omega⟩
  ·go_wp2_with fail
   go_meet
   case rel=>exact ⟨w.heap.size+1,w.heap.size,rfl,rfl,HN2.out.keep rfl rfl (Nat.le_refl _),(((Below.refl _ w).alloc (Nat.le_refl _) _).alloc (by simp) _).drew,by omega,Nat.le_refl _⟩
 case rest=>
  obtain ⟨gl,gb,rfl,rfl,hC⟩:=hcut
  have HGL:Hid (gl≠b∧gb≠b∧b<gl∧b<gb):=by have:=hC.out.2.2;have:=HBS.out;exact ⟨by omega,by omega,by omega,by omega⟩
  clear hm1 hm2
  go_wp2_with fail
  refine (qF9 b 0 s a e0 wc (H.out.below hC.out.2.1 HBS.out)).mono ?_
  rintro e w2 ⟨x,a1,e1,rfl,hx,T1,hx0⟩
  have HT:Hid (qL8 w w2 b s a e0 gl gb n 0 x a1 e1 (fun _=>0) (fun _=>false)):=by
   have O1:=T1.only
   have hll:=hC.out.1.ll
   have hlb:=hC.out.1.lb
   refine ⟨hC.out.1.keep (O1.block gl hll HGL.out.1) (O1.block gb hlb HGL.out.2.1) O1.size,T1.rd,(hC.out.2.1.mono (Nat.le_of_lt HBS.out)).trans (O1.below (Nat.le_refl _) (by have:=hC.out.2.1.size;have:=HBS.out;omega)),fun g hg hgb=>?_,fun j _=>by omega,fun p h r hcp=>?_,fun _ hs=>hx0 hs⟩
   ·rw [O1.block g (by have:=hC.out.2.1.size;omega) hgb];exact hC.out.2.1.block g hg
   ·obtain ⟨q1,q2,q3⟩:=hcp
    obtain ⟨q4,q5,q6⟩:=T1.drop q1 _ _ (by have:=F32.cnt_le p h 0 n;show _<_;omega) q3
    exact ⟨q5,by rw [q4,Nat.sub_zero],by rw [q6,Nat.sub_zero],fun j hj=>by omega,fun _ _=>rfl⟩
  clear T1 hx0
  go_wp2_with fail
  go_loopw [4,5,7,8] (fun t4 t5 t7 t8 wr=>∃(i left a1:Nat) (e1:Int) (f:Nat→Nat) (z:Nat→Bool),t4= .slice (some ⟨gl,0,none⟩) n n∧t5= .slice (some ⟨gb,0,none⟩) n n∧t7= .int .i64 (i:Int)∧t8= .int .u64 (left:Int)∧Hid (i≤n∧left<18446744073709551616∧qL8 w wr b s a e0 gl gb n i left a1 e1 f z)) (fun _ _ t7 _ _=>n-(intOf t7).toNat)
  case atStart=>exact ⟨0,x,a1,e1,_,_,rfl,rfl,rfl,rfl,Nat.zero_le _,hx,HT.out⟩
  case round=>
   obtain ⟨i,left,a2,e2,f,z,rfl,rfl,rfl,rfl,hI⟩:=hrel
   by_cases hl0:left=0
   ·subst hl0
    have HFIN:Hid (qAJ w b s a e0 n (.returned (.tuple #[.slice (some ⟨gl,0,none⟩) n n,.slice (some ⟨gb,0,none⟩) n n,.bool true])) wr):= .inr ⟨gl,gb,i,a2,e2,f,z,rfl,hI.out.2.2,hC.out.2.2.1,hC.out.2.2.2,hI.out.1⟩
    go_wp2_with fail
    go_ret3
    exact HFIN.out
   ·have hlp:(left:Int)>0:=by omega
    have hl1:0<left∧left<18446744073709551616:=⟨by omega,hI.out.2.1⟩
    have hin:i≤n:=hI.out.1
    go_wp2_with fail
    refine (dJ b 0 s a2 e2 wr hI.out.2.2.rd).mono ?_
    rintro e w3 ⟨y,a3,e3,rfl,hy,T3⟩
    have HT3:=qA T3
    clear T3
    have HF:Hid (∀p h r,qL1 s a e0 n p h r→y<n-i∧e3=0∧(F32.wh p (h (i+y))).isSome=false∧(∀t,t<y→(F32.wh p (h (i+t))).isSome=true)∧left=F32.cnt p h (i+y+1) (n-i-(y+1))+1∧(rb s).drop a3=bitsOf (h (i+y)) 32++(F32.nt 32 p h (i+y+1) (n-i-(y+1)) 0++r)):=fun p h r hcp=>by
     obtain ⟨q1,q2,q3,q4,q5⟩:=hI.out.2.2.full p h r hcp
     obtain ⟨j,j1,j2,j3,j4,j5⟩:=F32.nt_next 32 p h i (n-i) 0 (by omega)
     rw [j5,Nat.zero_add,List.append_assoc,List.append_assoc] at q3
     obtain ⟨q6,q7,q8⟩:=HT3.out.drop q1 _ _ (show j<18446744073709551616 by omega) q3
     subst q6
     exact ⟨j1,q7,j2,j3,by omega,q8⟩
    have e1:IntKind.u64.wrap ((n:Int)-(i:Int))=((n-i:Nat):Int):=by rw [IntKind.wrap_u64];omega
    obtain ⟨d,hd⟩:∃d,n-i=d:=⟨_,rfl⟩
    rw [hd] at e1
    by_cases hge:d≤y
    ·have hge':(y:Int)≥(d:Int):=by omega
     have HD:=qA hd
     have HBB:Hid (Below b w w3):=hI.out.2.2.bel.trans (HT3.out.only.below (Nat.le_refl _) (by have:=hI.out.2.2.nb.ll;have:=HGL.out;omega))
     have HFIN:Hid (qAJ w b s a e0 n (.returned (.tuple #[.slice none 0 0,.slice none 0 0,.bool false])) w3):=by
      refine .inl ⟨rfl,HBB.out,fun p h r hcp=>?_,fun h0=>?_⟩
      ·have:=(HF.out p h r hcp).1;omega
      ·have:=hI.out.2.2.emp h0.1 h0.2;omega
     clear hd
     go_wp2_with fail
     go_ret3
     exact HFIN.out
    ·have hge':¬((y:Int)≥(d:Int)):=by omega
     have hyd:y<d:=by omega
     have hjn:i+y<n:=by omega
     have r2:IntKind.i64.wrap (y:Int)=(y:Int):=by rw [IntKind.wrap_i64];omega
     obtain ⟨j,hj⟩:∃j,i+y=j:=⟨_,rfl⟩
     have r3:(i:Int)+(y:Int)=(j:Int):=by omega
     have r4:IntKind.u64.wrap ((left:Int)-1)=((left-1:Nat):Int):=by rw [IntKind.wrap_u64];omega
     have HJ:=qA (And.intro hj hd)
     have hjn2:j<n:=by omega
     have hij:i≤j:=by omega
     clear hj hd
     go_wp2_with fail
     refine (kM b 0 s a3 e3 w3 HT3.out.rd).mono ?_
     rintro e w4 ⟨v,a4,e4,rfl,hv,T4⟩
     have HT4:Hid (Hk (fun y=>bitsOf y 32) (fun y=>y<2^32) w3 w4 b 0 s a3 e3 v a4 e4):=yV HT3.out.rd.le hv T4
     clear T4
     have HNB:Hid (nC w4 gl gb n f z∧qJ b 0 3 wr w4):=by
      have O:=HT3.out.only.trans HT4.out.only
      have N:=hI.out.2.2.nb
      exact ⟨N.keep (O.block gl N.ll HGL.out.1) (O.block gb N.lb HGL.out.2.1) O.size,O⟩
     have c1:=HNB.out.1.l j hjn2
     have c2:w4.cell? ⟨gl,j,none⟩=some (.int .u32 (f j:Int)):=c1
     have c3:=HNB.out.1.fl j
     have HN5:=qA (HNB.out.1.setL j v hjn2)
     have d2:=HN5.out.b j hjn2
     have d3:=HN5.out.fb j
     have HN6:=qA (HN5.out.setB j hjn2)
     have HNX:Hid (qL8 w ((w4.setCell ⟨gl,j,none⟩ (.int .u32 (v:Int))).setCell ⟨gb,j,none⟩ (.bool true)) b s a e0 gl gb n (j+1) (left-1) a4 e4 (fun i=>if i=j then v else f i) (fun i=>if i=j then true else z i)):=by
      have D:=hI.out.2.2
      have hgl:=HGL.out
      refine ⟨HN6.out,(HT4.out.rd.setOther' gl _ hgl.1 _).setOther' gb _ hgl.2.1 _,((D.bel.trans (HNB.out.2.below (Nat.le_refl _) (by have:=D.nb.ll;omega))).setCell (p:=⟨gl,j,none⟩) (show b≤gl by omega) _).setCell (p:=⟨gb,j,none⟩) (show b≤gb by omega) _,fun g hg hgb=>?_,fun t ht=>?_,fun p h r hcp=>?_,fun h0 _=>by omega⟩
      ·rw [Below.heap_setCell _ _ _ _ (show g≠gb by have:=hC.out.2.2;omega),Below.heap_setCell _ _ _ _ (show g≠gl by have:=hC.out.2.2;omega),HNB.out.2.block g (by have:=D.nb.ll;have:=hC.out.2.2;omega) hgb]
       exact D.oth g hg hgb
      ·by_cases e:t=j
       ·simp only [e,if_true];exact hv
       ·simp only [e,if_false];exact D.rng t ht
      ·obtain ⟨j0,hd0⟩:=HJ.out
       obtain ⟨q1,q2,q3,q4,q5,q6⟩:=HF.out p h r hcp
       obtain ⟨p1,p2,p3,p4,p5⟩:=D.full p h r hcp
       rw [j0] at q3 q5 q6
       obtain ⟨t1,t2,t3⟩:=HT4.out.drop q2 _ _ (show h j<2^32 from hcp.2.1 j hjn2) q6
       have en:n-i-(y+1)=n-(j+1):=by omega
       rw [en] at q5 t3
       refine ⟨t2,by omega,t3,fun t ht=>?_,fun t ht=>?_⟩
       ·by_cases e:t=j
        ·simp only [e,if_true]
         exact ⟨by rw [q3];rfl,fun _=>t1⟩
        ·simp only [e,if_false]
         by_cases e2:t<i
         ·exact p4 t e2
         ·have q7:=q4 (t-i) (by omega)
          rw [show i+(t-i)=t from by omega] at q7
          have q8:=p5 t (by omega)
          exact ⟨by rw [q7,q8];rfl,fun hz=>by rw [q8] at hz;cases hz⟩
       ·simp only [show t≠j by omega,if_false];exact p5 t (by omega)
     clear c1
     go_wp2_with fail
     go_roundw
     case rel=>exact ⟨j+1,left-1,a4,e4,_,_,rfl,rfl,by simp,by simp,hjn2,by omega,HNX.out⟩
     case measure=>simp [intOf];omega
end Go.Proofs.YtkpmalfigmimaaaGreatDoor
namespace Go.Proofs.YtkpmalfigmimaaaGreatDoor
open Go.RowKit
open M
def qI8 (R:List Bool) (n p:Nat) (h:Nat→Nat):Prop:=(∀i,i<n→h i<4294967296)∧(F32.bs h n 10).1=p∧∃r,R=F32.dm 32 h n++r
structure qKH (w wr:World) (b:Nat) (s:ByteArray) (g7 p gl gb n i a:Nat) (e:Int) (k:Int) (f:Nat→Nat) (z:Nat→Bool):Prop where
 nb:nC wr gl gb n f z
 rd:Rd wr b 0 s a e
 bel:Below b w wr
 sc:gP wr g7 p
 rng:∀j,j<n→f j<4294967296
 full:∀h,qI8 (rb s) n p h→e=0∧(-999999≤k∧k≤999999)∧(∃r,(rb s).drop a=F32.wb p h i (n-i) k++r)∧(∀j,j<i→f j=h j)∧(∀j,j<n→z j=!(F32.wh p (h j)).isSome)∧∀j,i≤j→j<n→z j=true→f j=h j
theorem nC.owns {w:World} {gl gb n:Nat} {f:Nat→Nat} {z:Nat→Bool} {B:Nat} (h:nC w gl gb n f z) (hB:B≤gl) (hn:n≤4096):w.ownsRow B 57 1 (.slice (some ⟨gl,0,none⟩) n n) n (jQ n f):=
 vO.owns (g:=gl) ⟨fun i hi=>by rw [h.l i hi,if_pos hi],h.fl,h.bl⟩ hB hn
theorem wF (v:Value) (bs:List Nat) (n:Nat) (w:World) (h:jW w v bs) (hb:∀n∈bs,n<256) (hl:bs.length≤1000000000000) (hn:n≤4096):
  Calls Tryz.prog 113 #[v,.int .i64 n] w (gV (fun f=>some (F32.dm 32 f n)) bs n w):=by
 have H:=qA h
 have HB:=qA hb
 have HL:=qA hl
 have HSA:=qA (fun (p:Nat) (w:World) (hp:p≤1000)=>wY p w hp)
 have HVO:=qA (fun (p:Nat) (k:Int) (w:World)=>gL p k w)
 unfold vL at HSA HVO
 clear h hb hl
 go_enter Tryz.func113,Tryz.ntmps113
 go_wp2_with fail
 refine (kJ w v bs H.out).mono ?_
 rintro e w1 ⟨rfl,hw1⟩
 obtain ⟨b,hbw⟩:∃b,w.heap.size=b:=⟨_,rfl⟩
 have HR:Hid (Rd w1 b 0 (qG bs) 0 0∧w1.heap.size=b+1∧Below b w w1):=by
  rw [hw1,←hbw];exact ⟨xZ w bs HL.out,by simp,(Below.refl _ _).alloc (Nat.le_refl _) _⟩
 have HBW:=qA hbw
 have HU:Hid (∀h,nA (fun f=>some (F32.dm 32 f n)) bs n h→0<n→∀p,(F32.bs h n 10).1=p→qI8 (rb (qG bs)) n p h):=fun h hL h0 p hp=>by
  obtain ⟨l,r,q1,q2⟩:=hL.2.2 h0
  simp only [Option.some.injEq] at q1
  exact ⟨hL.1,hp,r,by rw [qV bs HB.out,q1];exact q2⟩
 rw [hbw]
 clear hw1 hbw
 go_wp2_with fail
 refine (zJ b 0 (qG bs) 0 5 0 w1 HR.out.1 (by omega)).mono ?_
 rintro e w2 ⟨p,a2,e2,rfl,hp,T2⟩
 have hp32:p<32:=hp
 have HT2:=qA T2
 have hs2:b+1≤w2.heap.size:=by have:=T2.only.size;have:=HR.out.2.1;omega
 clear hp T2
 have HCP:Hid (∀h r,(∀i,i<n→h i<4294967296)→rb (qG bs)=F32.dm 32 h n++r→(F32.bs h n 10).1=p∧qL1 (qG bs) a2 e2 n p h (F32.wb p h 0 n 0++r)):=fun h r hr hB=>by
  have q0:(rb (qG bs)).drop 0=bitsOf (F32.bs h n 10).1 5++(varB (F32.cnt (F32.bs h n 10).1 h 0 n)++(F32.nt 32 (F32.bs h n 10).1 h 0 n 0++(F32.wb (F32.bs h n 10).1 h 0 n 0++r))):=by
   rw [List.drop_zero,hB]
   unfold Dm.dm
   rw [show F32.mostP=10 from rfl]
   simp only [List.append_assoc]
  have q1:=F32.bs_le h n 10
  obtain ⟨q2,q3,q4⟩:=HT2.out.drop rfl _ _ (show (F32.bs h n 10).1<2^5 by omega) q0
  rw [←q2] at q4
  exact ⟨q2.symm,q3,hr,q4⟩
 have r0:IntKind.i64.wrap (p:Int)=(p:Int):=by rw [IntKind.wrap_i64];omega
 go_wp2_with fail
 refine (HSA.out p w2 (by omega)).mono ?_
 rintro e w3 ⟨rfl,B3⟩
 obtain ⟨P,hP⟩:∃P,F32.pow p=P:=⟨_,rfl⟩
 rw [hP]
 obtain ⟨g7,hg7⟩:∃g7,w3.heap.size=g7:=⟨_,rfl⟩
 obtain ⟨W4,hW4⟩:∃W4,W4=w3.alloc (.cells #[.int .i64 (p:Int),.int .u32 (P:Int)] 181):=⟨_,rfl⟩
 have H4:Hid (gP W4 g7 p∧Below b w W4∧Rd W4 b 0 (qG bs) a2 e2∧b<g7∧W4.heap.size=g7+1):=by
  have hA:Below g7 w3 W4:=by rw [hW4,←hg7];exact (Below.refl _ w3).alloc (Nat.le_refl _) _
  have hs3:=B3.size
  have hBB:Below w2.heap.size w2 W4:=B3.trans (hA.mono (by omega))
  exact ⟨⟨by rw [hW4,←hg7,hP];exact heap_alloc_new w3 _⟩,(HR.out.2.2.trans (HT2.out.only.below (Nat.le_refl _) (by have:=HR.out.2.1;omega))).trans (hBB.mono (by omega)),HT2.out.rd.below hBB (by omega),by omega,by rw [hW4,←hg7];simp⟩
 have HP:=qA hP
 clear B3 hP
 go_upto_region 3 with fail
 (try rw [hg7])
 (try rw [←hW4])
 clear hW4 hg7 hs2
 go_wp2_with fail
 refine (gB b (qG bs) a2 n e2 W4 H4.out.2.2.1 hn (by have:=H4.out.2.2.2;omega)).mono ?_
 rintro e w5 hT
 rcases hT with ⟨rfl,B5,hno,hem⟩|⟨gl,gb,i0,a5,e5,f,z,rfl,hTn,hgl,hgb,hi0⟩
 ·have HFIN:Hid (gV (fun f=>some (F32.dm 32 f n)) bs n w (.returned (.tuple #[.slice none 0 0,.int .i64 83])) w5):=by
   refine .inl ⟨83,by decide,rfl,by rw [HBW.out];exact H4.out.2.1.trans B5,fun h hL=>?_⟩
   by_cases h0:n=0
   ·exact hem ⟨h0,by rw [hL.2.1 h0];rfl⟩
   ·obtain ⟨q1,q2,r,q3⟩:=HU.out h hL (by omega) _ rfl
    obtain ⟨q4,q5⟩:=HCP.out h r q1 q3
    exact hno p h _ q5
  clear B5 hno hem
  go_wp2_with fail
  go_ret2
  exact HFIN.out
 ·have HGL:Hid (b<gl∧b<gb∧g7<gl∧g7<gb∧b<g7):=by have:=H4.out.2.2.2;exact ⟨by omega,by omega,by omega,by omega,by omega⟩
  have HST:Hid (qKH w w5 b (qG bs) g7 p gl gb n 0 a5 e5 0 f z):=by
   have h4:=H4.out
   refine ⟨hTn.nb,hTn.rd,h4.2.1.trans hTn.bel,⟨by rw [hTn.oth g7 (by omega) (by omega)];exact h4.1.row⟩,hTn.rng,fun h hL=>?_⟩
   obtain ⟨q1,q2,r,q3⟩:=hL
   obtain ⟨q4,q5⟩:=HCP.out h r q1 q3
   obtain ⟨t1,t2,t3,t4,t5⟩:=hTn.full p h _ q5
   obtain ⟨t6,t7⟩:=F32.nt_none 32 p h i0 (n-i0) 0 t2.symm
   rw [t6,List.nil_append] at t3
   refine ⟨t1,by omega,⟨r,by rw [t3,Nat.sub_zero]⟩,fun j hj=>by omega,fun j hj=>?_,fun j _ hj hz=>?_⟩
   ·by_cases e:j<i0
    ·exact (t4 j e).1
    ·rw [t5 j (by omega),t7 j (by omega) (by omega)];rfl
   ·by_cases e:j<i0
    ·exact (t4 j e).2 hz
    ·rw [t5 j (by omega)] at hz;cases hz
  have HGE:Hid (W4.heap.size≤gl):=hgl
  clear hTn hgl hgb hi0
  go_wp2_with fail
  go_loopw [11,30] (fun t11 t30 wr=>∃(i a:Nat) (e k:Int) (f:Nat→Nat),t30= .int .i64 (i:Int)∧t11= .int .i64 k∧Hid (i≤n∧(-9223372036854775808≤k∧k≤9223372036854775807)∧qKH w wr b (qG bs) g7 p gl gb n i a e k f z)) (fun _ t30 _=>n-(intOf t30).toNat)
  case atStart=>exact ⟨0,a5,e5,0,f,rfl,rfl,Nat.zero_le _,by omega,HST.out⟩
  case round=>
   obtain ⟨i,a,e,k,f,rfl,rfl,hI⟩:=hrel
   by_cases hlt:i<n
   ·have cb:=hI.out.2.2.nb.b i hlt
    cases hz:z i with
    |true=>
     rw [hz] at cb
     have HNX:Hid (qKH w wr b (qG bs) g7 p gl gb n (i+1) a e k f z):=by
      have D:=hI.out.2.2
      refine ⟨D.nb,D.rd,D.bel,D.sc,D.rng,fun h hL=>?_⟩
      obtain ⟨q1,q2,⟨r,q3⟩,q4,q5,q6⟩:=D.full h hL
      have hwn:F32.wh p (h i)=none:=by
       have:=q5 i hlt
       rw [hz] at this
       cases hw:F32.wh p (h i) with
       |none=>rfl
       |some x=>rw [hw] at this;cases this
      rw [show n-i=(n-(i+1))+1 from by omega,Dm.wb,hwn] at q3
      refine ⟨q1,q2,⟨r,q3⟩,fun j hj=>?_,q5,fun j h1 h2 h3=>q6 j (by omega) h2 h3⟩
      by_cases e:j=i
      ·rw [e];exact q6 i (Nat.le_refl _) hlt hz
      ·exact q4 j (by omega)
     have HKR:=qA hI.out.2.1
     clear hz hI
     go_wp2_with fail
     go_roundw
     case rel=>exact ⟨i+1,a,e,k,f,by simp,by simp,hlt,HKR.out,HNX.out⟩
     case measure=>simp [intOf];omega
    |false=>
     rw [hz] at cb
     have HZ:=qA hz
     clear hz
     go_wp2_with fail
     refine (qC9 b 0 (qG bs) a e wr hI.out.2.2.rd).mono ?_
     rintro e' w6 ⟨y,a6,e6,rfl,hy,T6⟩
     have HT6:=qA T6
     obtain ⟨k',hk',hkr⟩:∃k',wrap64 (k+y)=k'∧(-9223372036854775808≤k'∧k'≤9223372036854775807):=⟨_,rfl,by unfold wrap64;omega⟩
     have HKE:Hid (-9223372036854775808≤k+y∧k+y≤9223372036854775807→k'=k+y):=fun hh=>by rw [←hk'];unfold wrap64;omega
     have hk2:IntKind.i64.wrap (k+y)=k':=by rw [←hk',IntKind.wrap_i64];unfold wrap64;omega
     have HNB:Hid (nC w6 gl gb n f z∧gP w6 g7 p∧Below b w w6):=by
      have D:=hI.out.2.2
      have O:=T6.only
      have hh:=HGL.out
      have hl7:=D.sc.lt
      exact ⟨D.nb.keep (O.block gl D.nb.ll (by omega)) (O.block gb D.nb.lb (by omega)) O.size,⟨by rw [O.block g7 hl7 (by omega)];exact D.sc.row⟩,D.bel.trans (O.below (Nat.le_refl _) (by omega))⟩
     have HKR:=qA hkr
     have c0:=HNB.out.2.1.c0
     have c1:=HNB.out.2.1.c1
     rw [HP.out] at c1
     have HV:=qA (HVO.out p k' w6)
     rw [HP.out] at HV
     obtain ⟨x,hx⟩:∃x,F32.val p k'=x:=⟨_,rfl⟩
     have hxM:x<4294967296:=by rw [←hx];exact qCU _ _
     rw [hx] at HV
     have HX:=qA hx
     clear T6 hkr hx
     go_wp2_with fail
     refine HV.out.mono ?_
     rintro e' w7 ⟨rfl,B7⟩
     have HN7:Hid (nC w7 gl gb n f z∧gP w7 g7 p∧Below b w w7∧Rd w7 b 0 (qG bs) a6 e6):=by
      have N:=HNB.out
      have hh:=HGL.out
      have hl7:=N.2.1.lt
      exact ⟨N.1.keep (B7.block gl N.1.ll) (B7.block gb N.1.lb) B7.size,N.2.1.below B7 hl7,N.2.2.trans (B7.mono (by omega)),HT6.out.rd.below B7 (by omega)⟩
     clear B7 c0 c1
     have d1:=HN7.out.1.l i hlt
     have d2:=HN7.out.1.fl i
     have HNX:Hid (qKH w (w7.setCell ⟨gl,i,none⟩ (.int .u32 (x:Int))) b (qG bs) g7 p gl gb n (i+1) a6 e6 k' (fun j=>if j=i then x else f j) z):=by
      have D:=hI.out.2.2
      have hh:=HGL.out
      refine ⟨HN7.out.1.setL i x hlt,HN7.out.2.2.2.setOther' gl _ (by omega) _,HN7.out.2.2.1.setCell (p:=⟨gl,i,none⟩) (show b≤gl by omega) _,⟨by rw [Below.heap_setCell _ _ _ _ (show g7≠gl by omega)];exact HN7.out.2.1.row⟩,fun j hj=>?_,fun h hL=>?_⟩
      ·by_cases e:j=i
       ·simp only [e,if_true];exact hxM
       ·simp only [e,if_false];exact D.rng j hj
      ·obtain ⟨q1,q2,⟨r,q3⟩,q4,q5,q6⟩:=D.full h hL
       obtain ⟨kk,hkk⟩:∃kk,F32.wh p (h i)=some kk:=by
        have:=q5 i hlt
        rw [HZ.out] at this
        cases hw:F32.wh p (h i) with
        |none=>rw [hw] at this;cases this
        |some x=>exact ⟨x,rfl⟩
       have hkv:=F32.wh_val hkk
       have hkm: -999999≤kk∧kk≤999999:=hkv.2
       rw [show n-i=(n-(i+1))+1 from by omega,Dm.wb,hkk] at q3
       simp only [List.append_assoc] at q3
       obtain ⟨t1,t2,t3⟩:=HT6.out.drop q1 (kk-k) _ (show _∧_ by omega) q3
       have hke:k'=kk:=by
        have:=HKE.out (by rw [t1];omega)
        rw [this,t1];omega
       refine ⟨t2,by rw [hke];exact hkm,⟨r,by rw [hke];exact t3⟩,fun j hj=>?_,q5,fun j h1 h2 h3=>?_⟩
       ·by_cases e:j=i
        ·simp only [e,if_true];rw [←HX.out,hke];exact hkv.1
        ·simp only [e,if_false];exact q4 j (by omega)
       ·simp only [show j≠i by omega,if_false];exact q6 j (by omega) h2 h3
     clear hI
     go_wp2_with fail
     go_roundw
     case rel=>exact ⟨i+1,a6,e6,k',_,by simp,by simp,hlt,HKR.out,HNX.out⟩
     case measure=>simp [intOf];omega
   ·have hi:i=n:=by have:=hI.out.1;omega
    have hI':Hid (qKH w wr b (qG bs) g7 p gl gb n n a e k f z):=by have:=hI.out.2.2;rw [hi] at this;exact this
    clear hI
    go_wp2_with fail
    go_ret2
    refine .inr ⟨_,f,rfl,⟨hI'.out.nb.owns (by have:=HGE.out;have:=HBW.out;have:=H4.out.2.2.2;omega) hn,(by rw [HBW.out];exact hI'.out.bel),Nat.le_refl _⟩,hI'.out.rng,fun h hL j hj=>?_⟩
    have hLM:=HU.out h hL (by omega) _ rfl
    obtain ⟨q1,q2,r,q3⟩:=hLM
    have hp:=(HCP.out h r q1 q3).1
    exact (hI'.out.full h ⟨q1,hp,r,q3⟩).2.2.2.1 j hj
end Go.Proofs.YtkpmalfigmimaaaGreatDoor
