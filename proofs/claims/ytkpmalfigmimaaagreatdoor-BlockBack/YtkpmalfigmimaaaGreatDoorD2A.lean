import Derived.Test.YtkpmalfigmimaaaGreatDoorFA
import Derived.Deep.Cut
import Derived.Test.YtkpmalfigmimaaaGreatDoorP1K32
import Derived.Test.YtkpmalfigmimaaaGreatDoorT1B
import Derived.Test.YtkpmalfigmimaaaGreatDoorU1F
import Derived.Test.YtkpmalfigmimaaaGreatDoorP1J32
set_option linter.unusedVariables false
set_option linter.unusedSimpArgs false
set_option maxRecDepth 100000
set_option maxHeartbeats 8000000
namespace Go.Proofs.YtkpmalfigmimaaaGreatDoor
open Go.RowKit
open M
def jC (w:World) (p:Option Addr) (n:Nat) (f:Nat→Nat):Prop:=
 0<n→∃b o,p=some ⟨b,o,none⟩∧∀i,i<n→w.cell? ⟨b,o+i,none⟩=some (.int .u32 (f i:Int))
theorem jC.below {w w':World} {p:Option Addr} {n:Nat} {f:Nat→Nat} (h:jC w p n f) (hB:Below w.heap.size w w'):jC w' p n f:=fun h0=>by
 obtain ⟨b,o,hp,hc⟩:=h h0
 exact ⟨b,o,hp,fun i hi=>by rw [hB.cell (p:=⟨b,o+i,none⟩) (block_lt_of_cell (hc i hi))];exact hc i hi⟩
theorem jC.nil (w:World) (p:Option Addr) (f:Nat→Nat):jC w p 0 f:=fun h=>by omega
theorem jC.congr {w:World} {p:Option Addr} {n:Nat} {f g:Nat→Nat} (h:jC w p n f) (e:∀i,i<n→f i=g i):jC w p n g:=fun h0=>by
 obtain ⟨b,o,hp,hc⟩:=h h0
 exact ⟨b,o,hp,fun i hi=>by rw [hc i hi,e i hi]⟩
theorem Wr.rebase32 {w:World} {lo lo' b off:Nat} {l:List Bool} {e:Int} (h:Wr w lo b off l e) (hl:l.length<960):Wr w lo' b off l e:=by
 obtain ⟨p,h1,h2⟩:=h
 have e0:l.length/960=0:=by omega
 refine ⟨p,h1,?_⟩
 rw [e0] at h2⊢
 exact h2
def qGO (b:Nat) (f:Nat→Nat) (n:Nat) (w:World) (e:Ending) (w':World):Prop:=
 e= .returned (.tuple #[])∧∃lo,b<lo∧lo≤w'.heap.size∧Wr w' lo b 0 (cbn 32 5 f n) 0∧Below b w w'
theorem lT (b:Nat) (p:Option Addr) (n cap:Nat) (f:Nat→Nat) (w:World) (h:jC w p n f) (hpb:∀a,p=some a→0<n→a.block<b) (hn:n≤4096) (hcap:n≤cap) (hf:∀i,i<n→f i<4294967296)
  (hW:Wr w (b+1) b 0 [] 0) (hb:b<w.heap.size) (hT:qT w) (hTb:2<b):
  Calls Tryz.prog 151 #[.pointer (some ⟨b,0,none⟩),.slice p n cap] w (qGO b f n w):=by
 have HW:=qA hW
 have HF:=qA hf
 have HT:=qA hT
 clear hW hf hT
 by_cases h0:n=0
 ·subst h0
  go_enter Tryz.func151,Tryz.ntmps151
  go_wp2_with fail
  refine bodyPost_ret (results_none rfl _ _ _) rfl ?_
  exact ⟨rfl,b+1,by omega,by omega,HW.out,Below.refl _ _⟩
 obtain ⟨rb0,ro,rfl,hc⟩:=h (by omega)
 have hrb:rb0<b:=hpb _ rfl (by omega)
 have c0:w.cell? ⟨rb0,ro,none⟩=some (.int .u32 (f 0:Int)):=hc 0 (by omega)
 have HC:=qA hc
 clear hc h hpb
 have hne:((n:Int)==0)=false:=by rw [beq_eq_false_iff_ne];omega
 have hn0:0<n:=by omega
 obtain ⟨v0,hv0⟩:∃v0,f 0=v0:=⟨_,rfl⟩
 have hvM:v0<4294967296:=by rw [←hv0];exact HF.out 0 (by omega)
 rw [hv0] at c0
 have r0:IntKind.u64.wrap (v0:Int)=(v0:Int):=by rw [IntKind.wrap_u64];omega
 have HV:=qA hvM
 have HV0:=qA hv0
 clear hvM hv0
 have HWd:Hid (Wr w.drew (b+1) b 0 [] 0):=HW.out.below (w':=w.drew) ⟨rfl,rfl,rfl,Nat.le_refl _,fun _ _=>rfl⟩
 go_enter Tryz.func151,Tryz.ntmps151
 go_wp2_with fail
 go_region_held3 (fun w'=>w'.cell? ⟨rb0,ro,none⟩=some (.int .u32 (v0:Int))) (first|exact c0'|exact c0)
  (first|(go_at_call 169;go_must (refine (kA _).mono ?_);rintro _ wy ⟨rfl,rfl⟩)|(go_at_call 44;go_must (refine (qK b 0 (b+1) 32 v0 _ _ HWd.out (by omega) (show b+1≤w.drew.heap.size from hb) (by simp) (by omega) (by have:=HV.out;omega) (by have:=HV.out;omega)).mono ?_);rintro _ w1 ⟨rfl,W1,O1⟩;(have c0':w1.cell? ⟨rb0,ro,none⟩=some (.int .u32 (v0:Int)):=by rw [World.cell?_of_block (O1.block rb0 (Nat.lt_trans hrb hb) (by omega))];exact c0)))
 have HM1:Hid (Wr w1 (b+1) b 0 (bitsOf v0 32) 0∧qJ b 0 123 w w1):=⟨W1,((qJ.refl b 0 123 w).drew).trans O1⟩
 clear W1 O1 c0 HWd
 have HM2:Hid (Wr (w1.alloc (.cells #[.int .u32 (v0:Int),.int .i64 0,.int .i64 0] 217)) (w1.heap.size+1) b 0 (cbn 32 5 f 1) 0∧zC (w1.alloc (.cells #[.int .u32 (v0:Int),.int .i64 0,.int .i64 0] 217)) w1.heap.size (f 0) (win 32 5 f 0).1 (win 32 5 f 0).2∧
   Below b w (w1.alloc (.cells #[.int .u32 (v0:Int),.int .i64 0,.int .i64 0] 217))∧w1.heap.size+1≤(w1.alloc (.cells #[.int .u32 (v0:Int),.int .i64 0,.int .i64 0] 217)).heap.size∧b<w1.heap.size):=by
  have hs:=HM1.out.2.size
  have hN:=heap_alloc_new w1 (.cells #[.int .u32 (v0:Int),.int .i64 0,.int .i64 0] 217)
  refine ⟨?_,⟨?_,?_,?_,fun i=>frozen_of_row _ _ _ _ _ hN⟩,(HM1.out.2.below (Nat.le_refl _) (Nat.le_of_lt hb)).alloc (by omega) _,by simp,by omega⟩
  ·rw [cbn_one,HV0.out]
   exact ((HM1.out.1.below (w':=w1.alloc _) ((Below.refl _ w1).alloc (Nat.le_refl _) _))).rebase32 (by simp)
  ·rw [cell_of_row _ _ _ _ _ _ hN,HV0.out];rfl
  ·rw [cell_of_row _ _ _ _ _ _ hN];rfl
  ·rw [cell_of_row _ _ _ _ _ _ hN];rfl
 by_cases hc1:cap=1
 ·obtain rfl:n=1:=by omega
  subst hc1
  go_wp2_with fail
  generalize w1.alloc (.cells #[.int .u32 (v0:Int),.int .i64 0,.int .i64 0] 217)=w2 at*
  go_loopw [24] (fun t23 wr=>t23= .int .i64 0∧Hid (wr=w2)) (fun _ _=>0)
  case atStart=>exact ⟨rfl,rfl⟩
  case round=>
   obtain ⟨rfl,hI⟩:=hrel
   go_wp2_with fail
   go_end0
   rw [hI.out]
   exact ⟨rfl,w1.heap.size+1,by have:=HM2.out;omega,HM2.out.2.2.2.1,HM2.out.1,HM2.out.2.2.1⟩
 obtain ⟨n1,hn1⟩:∃n1,n-1=n1:=⟨_,rfl⟩
 go_wp2_with fail
 obtain ⟨c,hcw⟩:∃c,w1.heap.size=c:=⟨_,rfl⟩
 rw [hcw] at HM2⊢
 generalize w1.alloc (.cells #[.int .u32 (v0:Int),.int .i64 0,.int .i64 0] 217)=w2 at*
 clear hcw HV HV0
 go_loopw [24] (fun t23 wr=>∃k:Nat,t23= .int .i64 (k:Int)∧Hid (k<n∧Wr wr (c+1) b 0 (cbn 32 5 f (k+1)) 0∧zC wr c (f k) (win 32 5 f k).1 (win 32 5 f k).2∧jA b c w2 wr)) (fun t23 _=>n1-(intOf t23).toNat)
 case atStart=>exact ⟨0,rfl,hn0,HM2.out.1,HM2.out.2.1,jA.ofBelow (Below.refl _ _)⟩
 case round=>
  obtain ⟨k,rfl,hI⟩:=hrel
  by_cases hlt:k<n1
  ·obtain ⟨v,hv⟩:∃v,f (k+1)=v:=⟨_,rfl⟩
   have c1:wr.cell? ⟨rb0,ro+1+k,none⟩=some (.int .u32 (v:Int)):=by
    have e1:=HM2.out.2.2.1.cell (p:=⟨rb0,ro+1+k,none⟩) hrb
    have hs:rb0<w2.heap.size:=by have:=HM2.out;omega
    have e2:=hI.out.2.2.2.block rb0 hs (by omega) (by have:=HM2.out;omega)
    rw [World.cell?_of_block (w:=w2) e2,e1,←hv,show ro+1+k=ro+(k+1) from by omega]
    exact HC.out (k+1) (by omega)
   have HV:=qA hv
   clear hv
   go_wp2_with fail
   refine (qFF b c (c+1) v (f k) (win 32 5 f k).1 (win 32 5 f k).2 wr _ hI.out.2.1 (by have:=HM2.out;omega) (by omega) (by have:=HM2.out;omega) (Nat.le_trans HM2.out.2.2.2.1 hI.out.2.2.2.size) (by have:=cbn_length 32 5 f (by omega) k (fun i hi=>HF.out i (by omega));omega) hI.out.2.2.1
    (win_win 32 5 f (by omega) k (fun j hj=>HF.out j (by omega))) (by rw [←HV.out];exact HF.out _ (by omega)) (HF.out _ (by omega)) ?_ (by omega) (by have:=HM2.out;omega)).mono ?_
   ·exact hI.out.2.2.2.tab (HT.out.below' HM2.out.2.2.1 hTb) (by omega) (by have:=HM2.out;omega)
   rintro e w3 ⟨rfl,W3,C3,T3⟩
   go_wp2_with fail
   go_roundw
   case rel=>
    refine ⟨k+1,by simp,by show k+1<n;omega,?_,?_,hI.out.2.2.2.trans T3⟩
    ·rw [cbn_step];unfold xbf;rw [HV.out];exact W3
    ·simp only [win];rw [HV.out];exact C3
   case measure=>simp [intOf];omega
  ·go_wp2_with fail
   go_end0
   obtain rfl:n=k+1:=by have:=hI.out.1;omega
   exact ⟨rfl,c+1,by have:=HM2.out;omega,Nat.le_trans HM2.out.2.2.2.1 hI.out.2.2.2.size,hI.out.2.1,HM2.out.2.2.1.trans (hI.out.2.2.2.below (Nat.le_refl _) (by have:=HM2.out;omega) (by have:=HM2.out;omega))⟩
end Go.Proofs.YtkpmalfigmimaaaGreatDoor
namespace Go.Proofs.YtkpmalfigmimaaaGreatDoor
open Go.RowKit
open M
def tN (f:Nat→Nat) (n:Nat) (w:World) (e:Ending) (w':World):Prop:=
 ∃(g L:Nat),L=(packed (cbn 32 5 f n)).length∧w.heap.size≤g∧e= .returned (.tuple #[.slice (some ⟨g,0,none⟩) L L,.int .i64 0])∧
  w'.heap[g]?=some (.cells (qM (packed (cbn 32 5 f n))).toArray 5 (0,0))∧Below w.heap.size w w'
theorem qFQ (p:Option Addr) (n cap:Nat) (f:Nat→Nat) (w:World) (h:jC w p n f) (hn:n≤4096) (hcap:n≤cap) (hf:∀i,i<n→f i<4294967296) (hT:qT w):
  Calls Tryz.prog 121 #[.slice p n cap] w (tN f n w):=by
 have H:=qA h
 have HF:=qA hf
 have HTs:2<w.heap.size:=block_lt_of_cell (hT 0 (by omega))
 obtain ⟨g,hg⟩:∃g,g=w.heap.size:=⟨_,rfl⟩
 obtain ⟨W1,hW1⟩:∃W1,W1=w.alloc (.cells zW 98):=⟨_,rfl⟩
 have HM:Hid (Wr W1 (g+1) g 0 [] 0∧g<W1.heap.size∧Below w.heap.size w W1∧qT W1∧jC W1 p n f):=by
  have B1:Below w.heap.size w W1:=by rw [hW1];exact (Below.refl _ w).alloc (Nat.le_refl _) _
  refine ⟨?_,by rw [hW1,hg];simp,B1,hT.below B1,h.below B1⟩
  rw [hg,hW1];exact gO (heap_alloc_new w _)
 have HP:Hid (∀a,p=some a→0<n→a.block<g):=fun a ha h0=>by
  obtain ⟨b,o,hp,hc⟩:=H.out h0
  rw [hp] at ha
  simp only [Option.some.injEq] at ha
  rw [←ha,hg]
  exact block_lt_of_cell (hc 0 h0)
 have HG:=qA hg
 clear h hf hT
 go_enter Tryz.func121,Tryz.ntmps121
 go_upto_region 3 with fail
 refine wp_region_list ?_
 refine wpList_build rfl 98 #[] rfl (by kernel_rfl) ?_
 simp only [Array.map_empty]
 rw [zI]
 refine Go.Great.wpList_boxTo rfl 98 (.tmp 8) rfl (some 9) rfl g hg.symm zW rfl ?_
 rw [←hW1]
 clear hW1 hg
 go_wp2_with fail
 refine (lT g p n cap f W1 HM.out.2.2.2.2 HP.out hn hcap HF.out HM.out.1 HM.out.2.1 HM.out.2.2.2.1 (by rw [HG.out];exact HTs)).mono ?_
 rintro e w2 ⟨rfl,lo,hlo1,hlo2,W2,B2⟩
 have hl:=cbn_length' 32 5 f n (by omega) HF.out
 have HL:=qA hl
 clear hl
 go_wp2_with fail
 refine (qW g 0 lo w2 _ W2 hlo2 (by have:=HL.out;omega) _ rfl).mono ?_
 rintro e w3 ⟨rfl,G3,B3⟩
 go_wp2_with fail
 go_ret2
 have e3:=HM.out.2.2.1
 have e4:=HG.out
 refine ⟨w2.heap.size,((cbn 32 5 f n).length+7)/8,(packed_length _).symm,?_,rfl,G3,?_⟩
 ·have:=B2.size;have:=e3.size;omega
 ·rw [e4] at B2
  exact (e3.trans B2).trans (B3.mono (by have:=B2.size;have:=e3.size;omega))
end Go.Proofs.YtkpmalfigmimaaaGreatDoor
namespace Go.Proofs.YtkpmalfigmimaaaGreatDoor
open Go.RowKit
open M
theorem zK (c:Nat) (h:c≤4096) (w:World):
  (Instr.makeSlice 124 (.int .i64 (c:Int)) (.int .i64 (c:Int))).run Tryz.prog w= .ok (.slice (some ⟨w.heap.size,0,none⟩) c c) (w.alloc (.cells (Array.replicate c (Value.int .u32 0)) 57)):=by
 have hz:(Tryz.prog.info? 57).bind (·.zero)=some (.int .u32 0):=by kernel_rfl
 have hs:(Tryz.prog.info? 57).map (·.size)=some 1:=by kernel_rfl
 have hb:(Tryz.prog.info? 57).map (·.bytes)=some (32/8):=by kernel_rfl
 cases hi:Tryz.prog.info? 57 with
 |none=>simp [hi] at hs
 |some i=>
  simp only [hi,Option.bind_some,Option.map_some,Option.some.injEq] at hz hs hb
  rw [run_make w 124 57 i _ Tryz.underlying124 hi hz .i64 .i64 (c:Int) (c:Int) (by omega) (by omega) (by rw [hb];omega) (by omega)]
  have e:madeCells (Value.int .u32 0).cells ((c:Int).toNat*i.size)=Array.replicate c (Value.int .u32 0):=by
   rw [hs]
   apply Array.ext
   ·simp [madeCells]
   ·intro j h1 h2
    simp [madeCells,Value.cells,Nat.mod_one]
  rw [e];simp
structure vO (w:World) (g n k:Nat) (f:Nat→Nat):Prop where
 cell:∀i,i<n→w.cell? ⟨g,i,none⟩=some (.int .u32 ((if i<k then f i else 0:Nat):Int))
 fz:∀i,w.frozen? ⟨g,i,none⟩=false
 blk:∃cur:Array Value,w.heap[g]?=some (.cells cur 57 (0,0))∧cur.size=n
theorem vO.new (w:World) (n:Nat) (f:Nat→Nat):vO (w.alloc (.cells (Array.replicate n (Value.int .u32 0)) 57)) w.heap.size n 0 f:=by
 have hn:=heap_alloc_new w (.cells (Array.replicate n (Value.int .u32 0)) 57)
 refine ⟨fun i hi=>?_,fun i=>frozen_of_row _ _ _ _ _ hn,_,hn,by simp⟩
 rw [cell_of_row _ _ _ _ _ _ hn]
 simp [hi]
theorem vO.set {w:World} {g n k:Nat} {f:Nat→Nat} (h:vO w g n k f) (hk:k<n) (t:Nat):vO (w.setCell ⟨g,k,none⟩ (.int .u32 (t:Int))) g n (k+1) (fun i=>if i=k then t else f i):=by
 refine ⟨fun i hi=>?_,fun i=>by rw [qE];exact h.fz i,?_⟩
 case refine_2=>
  obtain ⟨cur,h1,h2⟩:=h.blk
  exact ⟨_,heap_setCell_same w g k cur _ _ h1,by simpa using h2⟩
 by_cases e:i=k
 ·subst e
  rw [qF _ _ _ _ _ (h.cell i hi)];simp
 ·rw [qC _ _ _ _ _ e,h.cell i hi]
  by_cases h1:i<k
  ·simp [h1,e,show i<k+1 from by omega]
  ·simp [h1,show ¬i<k+1 from by omega]
theorem vO.ofBlock {w w':World} {g n k:Nat} {f:Nat→Nat} (h:vO w g n k f) (e:w'.heap[g]?=w.heap[g]?):vO w' g n k f:=
 ⟨fun i hi=>by rw [World.cell?_of_block (w:=w) e];exact h.cell i hi,fun i=>by rw [World.frozen?_of_block (w:=w) (w':=w') (a:=⟨g,i,none⟩) e];exact h.fz i,by rw [e];exact h.blk⟩
theorem vO.congr {w:World} {g n k:Nat} {f f':Nat→Nat} (h:vO w g n k f) (e:∀i,i<k→f i=f' i):vO w g n k f':=
 ⟨fun i hi=>by
         rw [h.cell i hi];by_cases h1:i<k
         ·rw [if_pos h1,if_pos h1,e i h1]
         ·rw [if_neg h1,if_neg h1],h.fz,h.blk⟩
theorem jA.setNew {b c:Nat} {u w:World} (h:jA b c u w) (g i:Nat) (hg:u.heap.size≤g) (v:Value):jA b c u (w.setCell ⟨g,i,none⟩ v):=
 ⟨h.os,h.tape,h.output,Nat.le_trans h.size (by simp [World.setCell]),fun k hk h1 h2=>by rw [Below.heap_setCell _ _ _ _ (show k≠g by omega)];exact h.block k hk h1 h2⟩
def yR (R:List Bool) (g:Nat→Nat) (n:Nat):Prop:=(∀i,i<n→g i<4294967296)∧∃r,R=cbn 32 5 g n++r
structure qI6 (w wr:World) (b c:Nat) (s:ByteArray) (g n k a:Nat) (e1:Int) (f:Nat→Nat):Prop where
 row:vO wr g n (k+1) f
 rd:Rd wr b 0 s a e1
 col:zC wr c (f k) (win 32 5 f k).1 (win 32 5 f k).2
 two:jA b c w wr
 size:g<wr.heap.size
 rng:∀i,i<k+1→f i<4294967296
 sound:e1=0→(rb s).take a=cbn 32 5 f (k+1)
 full:∀h,yR (rb s) h n→e1=0∧∀i,i<k+1→f i=h i
theorem qE5 (p x:Nat):(p^^^x)^^^p=x:=by rw [Nat.xor_comm p x,Nat.xor_assoc,Nat.xor_self,Nat.xor_zero]
theorem qI6.next {w wr w2:World} {b c:Nat} {s:ByteArray} {g n k a a':Nat} {e1 e2:Int} {f:Nat→Nat} (hk:k+1<n) (hg:w.heap.size≤g) (hgb:g≠b) (hgc:g≠c) (T:qI6 w wr b c s g n k a e1 f) (x:Nat) (hx:x<4294967296)
  (hR:Rd w2 b 0 s a' e2) (hO:jA b c wr w2) (hC:zC w2 c (f k^^^x) (nxt 32 5 ((win 32 5 f k).1,(win 32 5 f k).2) x).1 (nxt 32 5 ((win 32 5 f k).1,(win 32 5 f k).2) x).2)
  (hs:e2=0→e1=0∧(rb s).take a'=(rb s).take a++xb 32 5 (win 32 5 f k).1 (win 32 5 f k).2 x)
  (hf:e1=0→∀y r,y<4294967296→(rb s).drop a=xb 32 5 (win 32 5 f k).1 (win 32 5 f k).2 y++r→x=y∧e2=0):
  qI6 w (w2.setCell ⟨g,k+1,none⟩ (.int .u32 ((f k^^^x:Nat):Int))) b c s g n (k+1) a' e2 (fun i=>if i=k+1 then f k^^^x else f i):=by
 have hs2:=hO.size
 have hsz:=T.size
 have ht:f k^^^x<4294967296:=xor_lt 32 _ _ (T.rng k (by omega)) hx
 obtain ⟨F,hF⟩:∃F:Nat→Nat,F=fun i=>if i=k+1 then f k^^^x else f i:=⟨_,rfl⟩
 have F1:F (k+1)=f k^^^x:=by rw [hF];simp
 have F2:∀i,i≤k→F i=f i:=fun i hi=>by rw [hF];simp;omega
 have ew:win 32 5 F k=win 32 5 f k:=win_congr _ _ _ _ k (fun j hj=>F2 j hj)
 have exx:F (k+1)^^^F k=x:=by rw [F1,F2 k (Nat.le_refl _)];exact qE5 _ _
 have ez:xbf 32 5 F k=xb 32 5 (win 32 5 f k).1 (win 32 5 f k).2 x:=by unfold xbf;rw [ew,exx]
 have en:win 32 5 F (k+1)=nxt 32 5 ((win 32 5 f k).1,(win 32 5 f k).2) x:=by simp only [win];rw [ew,exx]
 have eb:cbn 32 5 F (k+1)=cbn 32 5 f (k+1):=cbn_congr _ _ _ _ _ fun i hi=>F2 i (by omega)
 have hbk:(w2.setCell ⟨g,k+1,none⟩ (.int .u32 ((f k^^^x:Nat):Int))).heap[c]?=w2.heap[c]?:=Below.heap_setCell _ _ _ _ (fun e=>hgc e.symm)
 rw [←hF]
 refine ⟨?_,hR.setOther' g _ hgb _,?_,(T.two.trans hO).setNew g _ hg _,by simp [World.setCell];omega,fun i hi=>?_,fun he=>?_,?_⟩
 ·rw [hF];exact (T.row.ofBlock (hO.block g T.size hgb hgc)).set hk (f k^^^x)
 ·rw [F1,en]
  exact ⟨by rw [World.cell?_of_block (w:=w2) hbk];exact hC.ahead,by rw [World.cell?_of_block (w:=w2) hbk];exact hC.lead,by rw [World.cell?_of_block (w:=w2) hbk];exact hC.len,fun i=>by rw [qE];exact hC.fz i⟩
 ·by_cases e:i=k+1
  ·subst e;rw [F1];exact ht
  ·rw [F2 i (by omega)];exact T.rng i (by omega)
 ·obtain ⟨h1,h2⟩:=hs he
  rw [h2,T.sound h1,cbn_step,ez,eb]
 ·intro h hB
  obtain ⟨h1,h2⟩:=T.full h hB
  obtain ⟨hr,r,hRR⟩:=hB
  obtain ⟨r1,h3⟩:=cbn_prefix 32 5 h (k+2) n (by omega)
  rw [h3,cbn_step,List.append_assoc,List.append_assoc] at hRR
  have h4:(rb s).take a=cbn 32 5 h (k+1):=by rw [T.sound h1];exact cbn_congr _ _ _ _ _ h2
  have h5:(rb s).drop a=xbf 32 5 h k++(r1++r):=by
   have:=List.take_append_drop a (rb s)
   rw [h4] at this
   rw [hRR] at this⊢
   exact List.append_cancel_left this
  have e5:xbf 32 5 h k=xb 32 5 (win 32 5 f k).1 (win 32 5 f k).2 (h (k+1)^^^h k):=by
   unfold xbf;rw [win_congr 32 5 f h k (fun j hj=>h2 j (by omega))]
  rw [e5] at h5
  obtain ⟨h6,h7⟩:=hf h1 _ _ (xor_lt 32 _ _ (hr _ (by omega)) (hr _ (by omega))) h5
  refine ⟨h7,fun i hi=>?_⟩
  by_cases e:i=k+1
  ·subst e
   rw [F1,h6,h2 k (by omega),Nat.xor_comm (h (k+1)),←Nat.xor_assoc,Nat.xor_self,Nat.zero_xor]
  ·rw [F2 i (by omega)];exact h2 i (by omega)
theorem qI6.none {w wr:World} {b c:Nat} {s:ByteArray} {g n k a:Nat} {e1:Int} {f:Nat→Nat} (hk:k+1<n) (T:qI6 w wr b c s g n k a e1 f)
  (hf:e1=0→∀y r,y<4294967296→(rb s).drop a=xb 32 5 (win 32 5 f k).1 (win 32 5 f k).2 y++r→False):¬∃h,yR (rb s) h n:=by
 rintro ⟨h,hB⟩
 obtain ⟨h1,h2⟩:=T.full h hB
 obtain ⟨hr,r,hRR⟩:=hB
 obtain ⟨r1,h3⟩:=cbn_prefix 32 5 h (k+2) n (by omega)
 rw [h3,cbn_step,List.append_assoc,List.append_assoc] at hRR
 have h4:(rb s).take a=cbn 32 5 h (k+1):=by rw [T.sound h1];exact cbn_congr _ _ _ _ _ h2
 have h5:(rb s).drop a=xbf 32 5 h k++(r1++r):=by
  have:=List.take_append_drop a (rb s)
  rw [h4] at this
  rw [hRR] at this⊢
  exact List.append_cancel_left this
 have e5:xbf 32 5 h k=xb 32 5 (win 32 5 f k).1 (win 32 5 f k).2 (h (k+1)^^^h k):=by
  unfold xbf;rw [win_congr 32 5 f h k (fun j hj=>h2 j (by omega))]
 rw [e5] at h5
 exact hf h1 _ _ (xor_lt 32 _ _ (hr _ (by omega)) (hr _ (by omega))) h5
def tS (w:World) (b:Nat) (s:ByteArray) (n:Nat) (e:Ending) (w':World):Prop:=
 (e= .returned (.tuple #[.slice none 0 0,.bool false])∧Below b w w'∧¬∃h,yR (rb s) h n)∨
  ∃(a:Nat) (e1:Int) (f:Nat→Nat),e= .returned (.tuple #[.slice (some ⟨w.heap.size,0,none⟩) n n,.bool true])∧vO w' w.heap.size n n f∧Rd w' b 0 s a e1∧Below b w w'∧(∀i,i<n→f i<4294967296)∧
   (e1=0→(rb s).take a=cbn 32 5 f n)∧(∀h,yR (rb s) h n→e1=0∧∀i,i<n→f i=h i)
end Go.Proofs.YtkpmalfigmimaaaGreatDoor
namespace Go.Proofs.YtkpmalfigmimaaaGreatDoor
open Go.RowKit
open M
def uB (w:World) (p:Option Addr) (n:Nat) (t:Nat→Int) (v:Nat→Nat):Prop:=
 0<n→∃b o,p=some ⟨b,o,none⟩∧∀i,i<n→w.cell? ⟨b,o+i*2,none⟩=some (.int .i64 (t i))∧w.cell? ⟨b,o+i*2+1,none⟩=some (.int .u64 (v i:Int))
theorem uB.below {w w':World} {p:Option Addr} {n:Nat} {t:Nat→Int} {v:Nat→Nat} (h:uB w p n t v) (hB:Below w.heap.size w w'):uB w' p n t v:=fun h0=>by
 obtain ⟨b,o,hp,hc⟩:=h h0
 exact ⟨b,o,hp,fun i hi=>⟨by rw [hB.cell (p:=⟨b,o+i*2,none⟩) (block_lt_of_cell (hc i hi).1)];exact (hc i hi).1,by rw [hB.cell (p:=⟨b,o+i*2+1,none⟩) (block_lt_of_cell (hc i hi).2)];exact (hc i hi).2⟩⟩
structure MW (ty:TypeId) (z:Value) (w:World) (g n k:Nat) (F:Nat→Value):Prop where
 cell:∀i,i<n→w.cell? ⟨g,i,none⟩=some (if i<k then F i else z)
 fz:∀i,w.frozen? ⟨g,i,none⟩=false
 blk:∃cur:Array Value,w.heap[g]?=some (.cells cur ty (0,0))∧cur.size=n
theorem MW.new (ty:TypeId) (z:Value) (w:World) (n:Nat) (F:Nat→Value):MW ty z (w.alloc (.cells (Array.replicate n z) ty)) w.heap.size n 0 F:=by
 have hn:=heap_alloc_new w (.cells (Array.replicate n z) ty)
 refine ⟨fun i hi=>?_,fun i=>frozen_of_row _ _ _ _ _ hn,_,hn,by simp⟩
 rw [cell_of_row _ _ _ _ _ _ hn]
 simp [hi]
theorem MW.set {ty:TypeId} {z:Value} {w:World} {g n k:Nat} {F:Nat→Value} (h:MW ty z w g n k F) (hk:k<n) (x:Value) (hx:x=F k):MW ty z (w.setCell ⟨g,k,none⟩ x) g n (k+1) F:=by
 subst hx
 refine ⟨fun i hi=>?_,fun i=>by rw [qE];exact h.fz i,?_⟩
 case refine_2=>
  obtain ⟨cur,h1,h2⟩:=h.blk
  exact ⟨_,heap_setCell_same w g k cur _ _ h1,by simpa using h2⟩
 by_cases e:i=k
 ·subst e
  rw [qF _ _ _ _ _ (h.cell i hi)];simp
 ·rw [qC _ _ _ _ _ e,h.cell i hi]
  by_cases h1:i<k
  ·simp [h1,show i<k+1 from by omega]
  ·simp [h1,show ¬i<k+1 from by omega]
theorem MW.ofBlock {ty:TypeId} {z:Value} {w w':World} {g n k:Nat} {F:Nat→Value} (h:MW ty z w g n k F) (e:w'.heap[g]?=w.heap[g]?):MW ty z w' g n k F:=
 ⟨fun i hi=>by rw [World.cell?_of_block (w:=w) e];exact h.cell i hi,fun i=>by rw [World.frozen?_of_block (w:=w) (w':=w') (a:=⟨g,i,none⟩) e];exact h.fz i,by rw [e];exact h.blk⟩
theorem MW.lt {ty:TypeId} {z:Value} {w:World} {g n k:Nat} {F:Nat→Value} (h:MW ty z w g n k F):g<w.heap.size:=by
 obtain ⟨cur,h1,_⟩:=h.blk
 exact qB h1
theorem MW.below {ty:TypeId} {z:Value} {w w':World} {g n k:Nat} {F:Nat→Value} (h:MW ty z w g n k F) (hB:Below w.heap.size w w'):MW ty z w' g n k F:=h.ofBlock (hB.block g h.lt)
theorem MW.trow {z:Value} {w:World} {g n:Nat} {t:Nat→Int} (h:MW 2 z w g n n (fun i=> .int .i64 (t i))):qAI w (some ⟨g,0,none⟩) n t:=fun _=>
 ⟨g,0,rfl,fun i hi=>by rw [Nat.zero_add,h.cell i hi,if_pos hi]⟩
theorem MW.row64 {z:Value} {w:World} {g n:Nat} {f:Nat→Nat} (h:MW 36 z w g n n (fun i=> .int .u64 (f i:Int))):qZ w (some ⟨g,0,none⟩) n f:=fun _=>
 ⟨g,0,rfl,fun i hi=>by rw [Nat.zero_add,h.cell i hi,if_pos hi]⟩
theorem MW.row32 {z:Value} {w:World} {g n:Nat} {f:Nat→Nat} (h:MW 57 z w g n n (fun i=> .int .u32 (f i:Int))):jC w (some ⟨g,0,none⟩) n f:=fun _=>
 ⟨g,0,rfl,fun i hi=>by rw [Nat.zero_add,h.cell i hi,if_pos hi]⟩
theorem qH {B:Nat} {w w':World} (h:Below B w w') (g i:Nat) (v:Value) (hg:B≤g):Below B w (w'.setCell ⟨g,i,none⟩ v):=
 ⟨h.os,h.tape,h.output,Nat.le_trans h.size (by simp [World.setCell]),fun k hk=>by rw [Below.heap_setCell _ _ _ _ (show k≠g by omega)];exact h.block k hk⟩
theorem qE0 (a:Int) (b:Nat) (w:World):Calls Tryz.prog 65 #[.agg #[.int .i64 a,.int .u64 (b:Int)]] w fun e w'=>e= .returned (.int .i64 a)∧Below w.heap.size w w':=by
 have HB:Hid (Below w.heap.size w (w.alloc (.cells #[.int .i64 a,.int .u64 (b:Int)] 47))):=(Below.refl _ _).alloc (Nat.le_refl _) _
 go_enter Tryz.func65,Tryz.ntmps65
 go_wp2_with fail
 go_ret
 exact ⟨rfl,HB.out⟩
theorem qBU (a:Int) (b:Nat) (w:World):Calls Tryz.prog 67 #[.agg #[.int .i64 a,.int .u64 (b:Int)]] w fun e w'=>e= .returned (.int .u64 (b:Int))∧Below w.heap.size w w':=by
 have HB:Hid (Below w.heap.size w (w.alloc (.cells #[.int .i64 a,.int .u64 (b:Int)] 47))):=(Below.refl _ _).alloc (Nat.le_refl _) _
 go_enter Tryz.func67,Tryz.ntmps67
 go_wp2_with fail
 go_ret
 exact ⟨rfl,HB.out⟩
theorem qBC (p:Option Addr) (n cap:Nat) (t:Nat→Int) (v:Nat→Nat) (w:World) (h:uB w p n t v) (hn:n≤4096):
  Calls Tryz.prog 64 #[.slice p n cap,.func (.func 65) #[] #[]] w fun e w'=>∃g,e= .returned (.slice (some ⟨g,0,none⟩) n n)∧w.heap.size≤g∧MW 2 (.int .i64 0) w' g n n (fun i=> .int .i64 (t i))∧Below w.heap.size w w':=by
 have H:=qA h
 have hmk:=dO n hn
 obtain ⟨g,hg⟩:∃g,w.heap.size=g:=⟨_,rfl⟩
 obtain ⟨W0,hW0⟩:∃W0,w.alloc (.cells (Array.replicate n (.int .i64 0)) 2)=W0:=⟨_,rfl⟩
 have HA:Hid (MW 2 (.int .i64 0) W0 g n 0 (fun i=> .int .i64 (t i))∧Below g w W0):=by
  rw [←hW0,←hg];exact ⟨MW.new _ _ w n _,(Below.refl _ _).alloc (Nat.le_refl _) _⟩
 clear h
 go_enter Tryz.func64,Tryz.ntmps64
 go_upto_region 2 with fail
 (try rw [hW0])
 have HG:=qA hg
 (try rw [hg])
 clear hmk hW0 hg
 go_wp2_with fail
 go_loopw [13] (fun t13 wr=>∃k:Nat,t13= .int .i64 (k:Int)∧Hid (k≤n∧MW 2 (.int .i64 0) wr g n k (fun i=> .int .i64 (t i))∧Below g w wr)) (fun t13 _=>n-(intOf t13).toNat)
 case atStart=>exact ⟨0,rfl,Nat.zero_le _,HA.out⟩
 case round=>
  obtain ⟨k,rfl,hI⟩:=hrel
  by_cases hlt:k<n
  ·obtain ⟨b,o,rfl,hc⟩:=H.out (by omega)
   have hbw:b<g:=by rw [←HG.out];exact block_lt_of_cell (hc k hlt).1
   obtain ⟨x,hx⟩:∃x,t k=x:=⟨_,rfl⟩
   obtain ⟨y,hy⟩:∃y,v k=y:=⟨_,rfl⟩
   have c1:wr.cell? ⟨b,o+k*2,none⟩=some (.int .i64 x):=by rw [hI.out.2.2.cell (p:=⟨b,o+k*2,none⟩) hbw,←hx];exact (hc k hlt).1
   have c2:wr.cell? ⟨b,o+k*2+1,none⟩=some (.int .u64 (y:Int)):=by rw [hI.out.2.2.cell (p:=⟨b,o+k*2+1,none⟩) hbw,←hy];exact (hc k hlt).2
   have HX:=qA hx
   have HY:=qA hy
   clear hx hy
   have HW1:Hid (MW 2 (.int .i64 0) (wr.alloc (.cells #[.int .i64 x,.int .u64 (y:Int)] 47)) g n k (fun i=> .int .i64 (t i))∧Below g w (wr.alloc (.cells #[.int .i64 x,.int .u64 (y:Int)] 47))):=⟨hI.out.2.1.below ((Below.refl _ _).alloc (Nat.le_refl _) _),hI.out.2.2.alloc (Nat.le_of_lt hI.out.2.1.lt) _⟩
   clear hc
   go_wp2_with fail
   generalize (wr.alloc (.cells #[.int .i64 x,.int .u64 (y:Int)] 47))=W1 at*
   refine (qE0 x y W1).mono ?_
   rintro e w2 ⟨rfl,B2⟩
   have HW2:Hid (MW 2 (.int .i64 0) w2 g n k (fun i=> .int .i64 (t i))∧Below g w w2):=⟨HW1.out.1.below B2,HW1.out.2.trans (B2.mono (Nat.le_of_lt HW1.out.1.lt))⟩
   have c3:w2.cell? ⟨g,k,none⟩=some (.int .i64 0):=by rw [HW2.out.1.cell k hlt,if_neg (by omega)]
   have c4:=HW2.out.1.fz k
   clear B2 HW1
   go_wp2_with fail
   go_roundw
   case rel=>exact ⟨k+1,by simp,hlt,HW2.out.1.set hlt _ (by show _=Value.int .i64 (t k);rw [HX.out]),qH HW2.out.2 _ _ _ (Nat.le_refl _)⟩
   case measure=>simp [intOf];omega
  ·have hk:k=n:=by have:=hI.out.1;omega
   have hI':Hid (MW 2 (.int .i64 0) wr g n n (fun i=> .int .i64 (t i))∧Below g w wr):=by have:=hI.out.2;rw [hk] at this;exact this
   go_wp2_with fail
   go_ret
   exact ⟨g,rfl,Nat.le_of_eq HG.out,hI'.out.1,by rw [HG.out];exact hI'.out.2⟩
theorem qBD (p:Option Addr) (n cap:Nat) (t:Nat→Int) (v:Nat→Nat) (w:World) (h:uB w p n t v) (hn:n≤4096):
  Calls Tryz.prog 66 #[.slice p n cap,.func (.func 67) #[] #[]] w fun e w'=>∃g,e= .returned (.slice (some ⟨g,0,none⟩) n n)∧w.heap.size≤g∧MW 36 (.int .u64 0) w' g n n (fun i=> .int .u64 (v i:Int))∧Below w.heap.size w w':=by
 have H:=qA h
 have hmk:=jZ n hn
 obtain ⟨g,hg⟩:∃g,w.heap.size=g:=⟨_,rfl⟩
 obtain ⟨W0,hW0⟩:∃W0,w.alloc (.cells (Array.replicate n (.int .u64 0)) 36)=W0:=⟨_,rfl⟩
 have HA:Hid (MW 36 (.int .u64 0) W0 g n 0 (fun i=> .int .u64 (v i:Int))∧Below g w W0):=by
  rw [←hW0,←hg];exact ⟨MW.new _ _ w n _,(Below.refl _ _).alloc (Nat.le_refl _) _⟩
 clear h
 go_enter Tryz.func66,Tryz.ntmps66
 go_upto_region 2 with fail
 (try rw [hW0])
 have HG:=qA hg
 (try rw [hg])
 clear hmk hW0 hg
 go_wp2_with fail
 go_loopw [13] (fun t13 wr=>∃k:Nat,t13= .int .i64 (k:Int)∧Hid (k≤n∧MW 36 (.int .u64 0) wr g n k (fun i=> .int .u64 (v i:Int))∧Below g w wr)) (fun t13 _=>n-(intOf t13).toNat)
 case atStart=>exact ⟨0,rfl,Nat.zero_le _,HA.out⟩
 case round=>
  obtain ⟨k,rfl,hI⟩:=hrel
  by_cases hlt:k<n
  ·obtain ⟨b,o,rfl,hc⟩:=H.out (by omega)
   have hbw:b<g:=by rw [←HG.out];exact block_lt_of_cell (hc k hlt).1
   obtain ⟨x,hx⟩:∃x,t k=x:=⟨_,rfl⟩
   obtain ⟨y,hy⟩:∃y,v k=y:=⟨_,rfl⟩
   have c1:wr.cell? ⟨b,o+k*2,none⟩=some (.int .i64 x):=by rw [hI.out.2.2.cell (p:=⟨b,o+k*2,none⟩) hbw,←hx];exact (hc k hlt).1
   have c2:wr.cell? ⟨b,o+k*2+1,none⟩=some (.int .u64 (y:Int)):=by rw [hI.out.2.2.cell (p:=⟨b,o+k*2+1,none⟩) hbw,←hy];exact (hc k hlt).2
   have HX:=qA hx
   have HY:=qA hy
   clear hx hy
   have HW1:Hid (MW 36 (.int .u64 0) (wr.alloc (.cells #[.int .i64 x,.int .u64 (y:Int)] 47)) g n k (fun i=> .int .u64 (v i:Int))∧Below g w (wr.alloc (.cells #[.int .i64 x,.int .u64 (y:Int)] 47))):=⟨hI.out.2.1.below ((Below.refl _ _).alloc (Nat.le_refl _) _),hI.out.2.2.alloc (Nat.le_of_lt hI.out.2.1.lt) _⟩
   clear hc
   go_wp2_with fail
   generalize (wr.alloc (.cells #[.int .i64 x,.int .u64 (y:Int)] 47))=W1 at*
   refine (qBU x y W1).mono ?_
   rintro e w2 ⟨rfl,B2⟩
   have HW2:Hid (MW 36 (.int .u64 0) w2 g n k (fun i=> .int .u64 (v i:Int))∧Below g w w2):=⟨HW1.out.1.below B2,HW1.out.2.trans (B2.mono (Nat.le_of_lt HW1.out.1.lt))⟩
   have c3:w2.cell? ⟨g,k,none⟩=some (.int .u64 0):=by rw [HW2.out.1.cell k hlt,if_neg (by omega)]
   have c4:=HW2.out.1.fz k
   clear B2 HW1
   go_wp2_with fail
   go_roundw
   case rel=>exact ⟨k+1,by simp,hlt,HW2.out.1.set hlt _ (by show _=Value.int .u64 (v k:Int);rw [HY.out]),qH HW2.out.2 _ _ _ (Nat.le_refl _)⟩
   case measure=>simp [intOf];omega
  ·have hk:k=n:=by have:=hI.out.1;omega
   have hI':Hid (MW 36 (.int .u64 0) wr g n n (fun i=> .int .u64 (v i:Int))∧Below g w wr):=by have:=hI.out.2;rw [hk] at this;exact this
   go_wp2_with fail
   go_ret
   exact ⟨g,rfl,Nat.le_of_eq HG.out,hI'.out.1,by rw [HG.out];exact hI'.out.2⟩
theorem qBB (p:Option Addr) (n cap:Nat) (v:Nat→Nat) (w:World) (h:qZ w p n v) (hn:n≤4096) (hf:∀i,i<n→v i<18446744073709551616):
  Calls Tryz.prog 69 #[.slice p n cap,.func (.func 21) #[] #[]] w fun e w'=>∃g,e= .returned (.slice (some ⟨g,0,none⟩) n n)∧w.heap.size≤g∧MW 57 (.int .u32 0) w' g n n (fun i=> .int .u32 (yI (v i):Nat))∧Below w.heap.size w w':=by
 have H:=qA h
 have hmk:=zK n hn
 obtain ⟨g,hg⟩:∃g,w.heap.size=g:=⟨_,rfl⟩
 obtain ⟨W0,hW0⟩:∃W0,w.alloc (.cells (Array.replicate n (.int .u32 0)) 57)=W0:=⟨_,rfl⟩
 have HA:Hid (MW 57 (.int .u32 0) W0 g n 0 (fun i=> .int .u32 (yI (v i):Nat))∧Below g w W0):=by
  rw [←hW0,←hg];exact ⟨MW.new _ _ w n _,(Below.refl _ _).alloc (Nat.le_refl _) _⟩
 have HF:=qA hf
 clear hf
 clear h
 go_enter Tryz.func69,Tryz.ntmps69
 go_upto_region 2 with fail
 (try rw [hW0])
 have HG:=qA hg
 (try rw [hg])
 clear hmk hW0 hg
 go_wp2_with fail
 go_loopw [13] (fun t13 wr=>∃k:Nat,t13= .int .i64 (k:Int)∧Hid (k≤n∧MW 57 (.int .u32 0) wr g n k (fun i=> .int .u32 (yI (v i):Nat))∧Below g w wr)) (fun t13 _=>n-(intOf t13).toNat)
 case atStart=>exact ⟨0,rfl,Nat.zero_le _,HA.out⟩
 case round=>
  obtain ⟨k,rfl,hI⟩:=hrel
  by_cases hlt:k<n
  ·obtain ⟨b,o,rfl,hc⟩:=H.out (by omega)
   have hbw:b<g:=by rw [←HG.out];exact block_lt_of_cell (hc k hlt)
   obtain ⟨x,hx⟩:∃x,v k=x:=⟨_,rfl⟩
   have c1:wr.cell? ⟨b,o+k,none⟩=some (.int .u64 (x:Int)):=by rw [hI.out.2.2.cell (p:=⟨b,o+k,none⟩) hbw,←hx];exact hc k hlt
   have HXL:Hid (x<18446744073709551616):=by rw [←hx];exact HF.out k hlt
   have HX:=qA hx
   clear hx
   have HW1:Hid (MW 57 (.int .u32 0) wr g n k (fun i=> .int .u32 (yI (v i):Nat))∧Below g w wr):=⟨hI.out.2.1,hI.out.2.2⟩
   clear hc
   go_wp2_with fail
   obtain ⟨W1,hW1⟩:∃W1,W1=wr:=⟨_,rfl⟩
   rw [←hW1] at HW1⊢
   refine (gS x W1 HXL.out).mono ?_
   rintro e w2 ⟨rfl,B2⟩
   have HW2:Hid (MW 57 (.int .u32 0) w2 g n k (fun i=> .int .u32 (yI (v i):Nat))∧Below g w w2):=⟨HW1.out.1.below B2,HW1.out.2.trans (B2.mono (Nat.le_of_lt HW1.out.1.lt))⟩
   have c3:w2.cell? ⟨g,k,none⟩=some (.int .u32 0):=by rw [HW2.out.1.cell k hlt,if_neg (by omega)]
   have c4:=HW2.out.1.fz k
   clear B2 HW1
   go_wp2_with fail
   go_roundw
   case rel=>exact ⟨k+1,by simp,hlt,HW2.out.1.set hlt _ (by show _=Value.int .u32 (yI (v k):Nat);rw [HX.out]),qH HW2.out.2 _ _ _ (Nat.le_refl _)⟩
   case measure=>simp [intOf];omega
  ·have hk:k=n:=by have:=hI.out.1;omega
   have hI':Hid (MW 57 (.int .u32 0) wr g n n (fun i=> .int .u32 (yI (v i):Nat))∧Below g w wr):=by have:=hI.out.2;rw [hk] at this;exact this
   go_wp2_with fail
   go_ret
   exact ⟨g,rfl,Nat.le_of_eq HG.out,hI'.out.1,by rw [HG.out];exact hI'.out.2⟩
theorem qBE (p:Option Addr) (n cap:Nat) (v:Nat→Nat) (w:World) (h:jC w p n v) (hn:n≤4096) (hf:∀i,i<n→v i<4294967296):
  Calls Tryz.prog 83 #[.slice p n cap,.func (.func 20) #[] #[]] w fun e w'=>∃g,e= .returned (.slice (some ⟨g,0,none⟩) n n)∧w.heap.size≤g∧MW 36 (.int .u64 0) w' g n n (fun i=> .int .u64 (wid (v i):Nat))∧Below w.heap.size w w':=by
 have H:=qA h
 have hmk:=jZ n hn
 obtain ⟨g,hg⟩:∃g,w.heap.size=g:=⟨_,rfl⟩
 obtain ⟨W0,hW0⟩:∃W0,w.alloc (.cells (Array.replicate n (.int .u64 0)) 36)=W0:=⟨_,rfl⟩
 have HA:Hid (MW 36 (.int .u64 0) W0 g n 0 (fun i=> .int .u64 (wid (v i):Nat))∧Below g w W0):=by
  rw [←hW0,←hg];exact ⟨MW.new _ _ w n _,(Below.refl _ _).alloc (Nat.le_refl _) _⟩
 have HF:=qA hf
 clear hf
 clear h
 go_enter Tryz.func83,Tryz.ntmps83
 go_upto_region 2 with fail
 (try rw [hW0])
 have HG:=qA hg
 (try rw [hg])
 clear hmk hW0 hg
 go_wp2_with fail
 go_loopw [13] (fun t13 wr=>∃k:Nat,t13= .int .i64 (k:Int)∧Hid (k≤n∧MW 36 (.int .u64 0) wr g n k (fun i=> .int .u64 (wid (v i):Nat))∧Below g w wr)) (fun t13 _=>n-(intOf t13).toNat)
 case atStart=>exact ⟨0,rfl,Nat.zero_le _,HA.out⟩
 case round=>
  obtain ⟨k,rfl,hI⟩:=hrel
  by_cases hlt:k<n
  ·obtain ⟨b,o,rfl,hc⟩:=H.out (by omega)
   have hbw:b<g:=by rw [←HG.out];exact block_lt_of_cell (hc k hlt)
   obtain ⟨x,hx⟩:∃x,v k=x:=⟨_,rfl⟩
   have c1:wr.cell? ⟨b,o+k,none⟩=some (.int .u32 (x:Int)):=by rw [hI.out.2.2.cell (p:=⟨b,o+k,none⟩) hbw,←hx];exact hc k hlt
   have HXL:Hid (x<4294967296):=by rw [←hx];exact HF.out k hlt
   have HX:=qA hx
   clear hx
   have HW1:Hid (MW 36 (.int .u64 0) wr g n k (fun i=> .int .u64 (wid (v i):Nat))∧Below g w wr):=⟨hI.out.2.1,hI.out.2.2⟩
   clear hc
   go_wp2_with fail
   obtain ⟨W1,hW1⟩:∃W1,W1=wr:=⟨_,rfl⟩
   rw [←hW1] at HW1⊢
   refine (nN x W1 HXL.out).mono ?_
   rintro e w2 ⟨rfl,B2⟩
   have HW2:Hid (MW 36 (.int .u64 0) w2 g n k (fun i=> .int .u64 (wid (v i):Nat))∧Below g w w2):=⟨HW1.out.1.below B2,HW1.out.2.trans (B2.mono (Nat.le_of_lt HW1.out.1.lt))⟩
   have c3:w2.cell? ⟨g,k,none⟩=some (.int .u64 0):=by rw [HW2.out.1.cell k hlt,if_neg (by omega)]
   have c4:=HW2.out.1.fz k
   clear B2 HW1
   go_wp2_with fail
   go_roundw
   case rel=>exact ⟨k+1,by simp,hlt,HW2.out.1.set hlt _ (by show _=Value.int .u64 (wid (v k):Nat);rw [HX.out]),qH HW2.out.2 _ _ _ (Nat.le_refl _)⟩
   case measure=>simp [intOf];omega
  ·have hk:k=n:=by have:=hI.out.1;omega
   have hI':Hid (MW 36 (.int .u64 0) wr g n n (fun i=> .int .u64 (wid (v i):Nat))∧Below g w wr):=by have:=hI.out.2;rw [hk] at this;exact this
   go_wp2_with fail
   go_ret
   exact ⟨g,rfl,Nat.le_of_eq HG.out,hI'.out.1,by rw [HG.out];exact hI'.out.2⟩
end Go.Proofs.YtkpmalfigmimaaaGreatDoor
