import Derived.Test.YtkpmalfigmimaaaGreatDoorP1F64
import Derived.Deep.Cut
import Derived.Test.YtkpmalfigmimaaaGreatDoorP1K64
import Derived.Test.YtkpmalfigmimaaaGreatDoorFA
set_option linter.unusedVariables false
set_option linter.unusedSimpArgs false
set_option maxRecDepth 100000
set_option maxHeartbeats 8000000
namespace Go.Proofs.YtkpmalfigmimaaaGreatDoor
open Go.RowKit
open M
def qZ (w:World) (p:Option Addr) (n:Nat) (f:Nat→Nat):Prop:=
 0<n→∃b o,p=some ⟨b,o,none⟩∧∀i,i<n→w.cell? ⟨b,o+i,none⟩=some (.int .u64 (f i:Int))
theorem qZ.below {w w':World} {p:Option Addr} {n:Nat} {f:Nat→Nat} (h:qZ w p n f) (hB:Below w.heap.size w w'):qZ w' p n f:=fun h0=>by
 obtain ⟨b,o,hp,hc⟩:=h h0
 exact ⟨b,o,hp,fun i hi=>by rw [hB.cell (p:=⟨b,o+i,none⟩) (block_lt_of_cell (hc i hi))];exact hc i hi⟩
theorem qZ.nil (w:World) (p:Option Addr) (f:Nat→Nat):qZ w p 0 f:=fun h=>by omega
theorem qZ.congr {w:World} {p:Option Addr} {n:Nat} {f g:Nat→Nat} (h:qZ w p n f) (e:∀i,i<n→f i=g i):qZ w p n g:=fun h0=>by
 obtain ⟨b,o,hp,hc⟩:=h h0
 exact ⟨b,o,hp,fun i hi=>by rw [hc i hi,e i hi]⟩
theorem Wr.rebase64 {w:World} {lo lo' b off:Nat} {l:List Bool} {e:Int} (h:Wr w lo b off l e) (hl:l.length<960):Wr w lo' b off l e:=by
 obtain ⟨p,h1,h2⟩:=h
 have e0:l.length/960=0:=by omega
 refine ⟨p,h1,?_⟩
 rw [e0] at h2⊢
 exact h2
def qGP (b:Nat) (f:Nat→Nat) (n:Nat) (w:World) (e:Ending) (w':World):Prop:=
 e= .returned (.tuple #[])∧∃lo,b<lo∧lo≤w'.heap.size∧Wr w' lo b 0 (cbn 64 6 f n) 0∧Below b w w'
theorem lU (b:Nat) (p:Option Addr) (n cap:Nat) (f:Nat→Nat) (w:World) (h:qZ w p n f) (hpb:∀a,p=some a→0<n→a.block<b) (hn:n≤4096) (hcap:n≤cap) (hf:∀i,i<n→f i<18446744073709551616)
  (hW:Wr w (b+1) b 0 [] 0) (hb:b<w.heap.size) (hT:qT w) (hTb:2<b):
  Calls Tryz.prog 161 #[.pointer (some ⟨b,0,none⟩),.slice p n cap] w (qGP b f n w):=by
 have HW:=qA hW
 have HF:=qA hf
 have HT:=qA hT
 clear hW hf hT
 by_cases h0:n=0
 ·subst h0
  go_enter Tryz.func161,Tryz.ntmps161
  go_wp2_with fail
  refine bodyPost_ret (results_none rfl _ _ _) rfl ?_
  exact ⟨rfl,b+1,by omega,by omega,HW.out,Below.refl _ _⟩
 obtain ⟨rb0,ro,rfl,hc⟩:=h (by omega)
 have hrb:rb0<b:=hpb _ rfl (by omega)
 have c0:w.cell? ⟨rb0,ro,none⟩=some (.int .u64 (f 0:Int)):=hc 0 (by omega)
 have HC:=qA hc
 clear hc h hpb
 have hne:((n:Int)==0)=false:=by rw [beq_eq_false_iff_ne];omega
 have hn0:0<n:=by omega
 obtain ⟨v0,hv0⟩:∃v0,f 0=v0:=⟨_,rfl⟩
 have hvM:v0<18446744073709551616:=by rw [←hv0];exact HF.out 0 (by omega)
 rw [hv0] at c0
 have r0:IntKind.u64.wrap (v0:Int)=(v0:Int):=by rw [IntKind.wrap_u64];omega
 have HV:=qA hvM
 have HV0:=qA hv0
 clear hvM hv0
 have HWd:Hid (Wr w.drew (b+1) b 0 [] 0):=HW.out.below (w':=w.drew) ⟨rfl,rfl,rfl,Nat.le_refl _,fun _ _=>rfl⟩
 go_enter Tryz.func161,Tryz.ntmps161
 go_wp2_with fail
 go_region_held3 (fun w'=>w'.cell? ⟨rb0,ro,none⟩=some (.int .u64 (v0:Int))) (first|exact c0'|exact c0)
  (first|(go_at_call 178;go_must (refine (kB _).mono ?_);rintro _ wy ⟨rfl,rfl⟩)|(go_at_call 44;go_must (refine (qK b 0 (b+1) 64 v0 _ _ HWd.out (by omega) (show b+1≤w.drew.heap.size from hb) (by simp) (by omega) (by have:=HV.out;omega) (by have:=HV.out;omega)).mono ?_);rintro _ w1 ⟨rfl,W1,O1⟩;(have c0':w1.cell? ⟨rb0,ro,none⟩=some (.int .u64 (v0:Int)):=by rw [World.cell?_of_block (O1.block rb0 (Nat.lt_trans hrb hb) (by omega))];exact c0)))
 have HM1:Hid (Wr w1 (b+1) b 0 (bitsOf v0 64) 0∧qJ b 0 123 w w1):=⟨W1,((qJ.refl b 0 123 w).drew).trans O1⟩
 clear W1 O1 c0 HWd
 have HM2:Hid (Wr (w1.alloc (.cells #[.int .u64 (v0:Int),.int .i64 0,.int .i64 0] 226)) (w1.heap.size+1) b 0 (cbn 64 6 f 1) 0∧zD (w1.alloc (.cells #[.int .u64 (v0:Int),.int .i64 0,.int .i64 0] 226)) w1.heap.size (f 0) (win 64 6 f 0).1 (win 64 6 f 0).2∧
   Below b w (w1.alloc (.cells #[.int .u64 (v0:Int),.int .i64 0,.int .i64 0] 226))∧w1.heap.size+1≤(w1.alloc (.cells #[.int .u64 (v0:Int),.int .i64 0,.int .i64 0] 226)).heap.size∧b<w1.heap.size):=by
  have hs:=HM1.out.2.size
  have hN:=heap_alloc_new w1 (.cells #[.int .u64 (v0:Int),.int .i64 0,.int .i64 0] 226)
  refine ⟨?_,⟨?_,?_,?_,fun i=>frozen_of_row _ _ _ _ _ hN⟩,(HM1.out.2.below (Nat.le_refl _) (Nat.le_of_lt hb)).alloc (by omega) _,by simp,by omega⟩
  ·rw [cbn_one,HV0.out]
   exact ((HM1.out.1.below (w':=w1.alloc _) ((Below.refl _ w1).alloc (Nat.le_refl _) _))).rebase64 (by simp)
  ·rw [cell_of_row _ _ _ _ _ _ hN,HV0.out];rfl
  ·rw [cell_of_row _ _ _ _ _ _ hN];rfl
  ·rw [cell_of_row _ _ _ _ _ _ hN];rfl
 by_cases hc1:cap=1
 ·obtain rfl:n=1:=by omega
  subst hc1
  go_wp2_with fail
  generalize w1.alloc (.cells #[.int .u64 (v0:Int),.int .i64 0,.int .i64 0] 226)=w2 at*
  go_loopw [23] (fun t23 wr=>t23= .int .i64 0∧Hid (wr=w2)) (fun _ _=>0)
  case atStart=>exact ⟨rfl,rfl⟩
  case round=>
   obtain ⟨rfl,hI⟩:=hrel
   go_wp2_with fail
   go_end0
   rw [hI.out]
   exact ⟨rfl,w1.heap.size+1,by have:=HM2.out;omega,HM2.out.2.2.2.1,HM2.out.1,HM2.out.2.2.1⟩
 obtain ⟨n1,hn1⟩:∃n1,n-1=n1:=⟨_,rfl⟩
 go_wp2_with fail
 obtain ⟨c,hcw⟩:∃c,w1.heap.size=c:=⟨_,rfl⟩
 rw [hcw] at HM2⊢
 generalize w1.alloc (.cells #[.int .u64 (v0:Int),.int .i64 0,.int .i64 0] 226)=w2 at*
 clear hcw HV HV0
 go_loopw [23] (fun t23 wr=>∃k:Nat,t23= .int .i64 (k:Int)∧Hid (k<n∧Wr wr (c+1) b 0 (cbn 64 6 f (k+1)) 0∧zD wr c (f k) (win 64 6 f k).1 (win 64 6 f k).2∧jB b c w2 wr)) (fun t23 _=>n1-(intOf t23).toNat)
 case atStart=>exact ⟨0,rfl,hn0,HM2.out.1,HM2.out.2.1,jB.ofBelow (Below.refl _ _)⟩
 case round=>
  obtain ⟨k,rfl,hI⟩:=hrel
  by_cases hlt:k<n1
  ·obtain ⟨v,hv⟩:∃v,f (k+1)=v:=⟨_,rfl⟩
   have c1:wr.cell? ⟨rb0,ro+1+k,none⟩=some (.int .u64 (v:Int)):=by
    have e1:=HM2.out.2.2.1.cell (p:=⟨rb0,ro+1+k,none⟩) hrb
    have hs:rb0<w2.heap.size:=by have:=HM2.out;omega
    have e2:=hI.out.2.2.2.block rb0 hs (by omega) (by have:=HM2.out;omega)
    rw [World.cell?_of_block (w:=w2) e2,e1,←hv,show ro+1+k=ro+(k+1) from by omega]
    exact HC.out (k+1) (by omega)
   have HV:=qA hv
   clear hv
   go_wp2_with fail
   refine (qFG b c (c+1) v (f k) (win 64 6 f k).1 (win 64 6 f k).2 wr _ hI.out.2.1 (by have:=HM2.out;omega) (by omega) (by have:=HM2.out;omega) (Nat.le_trans HM2.out.2.2.2.1 hI.out.2.2.2.size) (by have:=cbn_length 64 6 f (by omega) k (fun i hi=>HF.out i (by omega));omega) hI.out.2.2.1
    (win_win 64 6 f (by omega) k (fun j hj=>HF.out j (by omega))) (by rw [←HV.out];exact HF.out _ (by omega)) (HF.out _ (by omega)) ?_ (by omega) (by have:=HM2.out;omega)).mono ?_
   ·exact hI.out.2.2.2.tab (HT.out.below' HM2.out.2.2.1 hTb) (by omega) (by have:=HM2.out;omega)
   rintro e w3 ⟨rfl,W3,C3,T3⟩
   go_wp2_with fail
   go_roundw
   case rel=>
    refine ⟨k+1,by simp,by show k+1<n;omega,?_,?_,hI.out.2.2.2.trans T3⟩
    ·rw [cbn_step];unfold xbf;rw [HV.out];exact W3
    ·simp only [win];rw [HV.out];exact C3
   case measure=>simp [intOf];omega
  ·go_wp2_with fail
   go_end0
   obtain rfl:n=k+1:=by have:=hI.out.1;omega
   exact ⟨rfl,c+1,by have:=HM2.out;omega,Nat.le_trans HM2.out.2.2.2.1 hI.out.2.2.2.size,hI.out.2.1,HM2.out.2.2.1.trans (hI.out.2.2.2.below (Nat.le_refl _) (by have:=HM2.out;omega) (by have:=HM2.out;omega))⟩
end Go.Proofs.YtkpmalfigmimaaaGreatDoor
namespace Go.Proofs.YtkpmalfigmimaaaGreatDoor
open Go.RowKit
open M
def tO (f:Nat→Nat) (n:Nat) (w:World) (e:Ending) (w':World):Prop:=
 ∃(g L:Nat),L=(packed (cbn 64 6 f n)).length∧w.heap.size≤g∧e= .returned (.tuple #[.slice (some ⟨g,0,none⟩) L L,.int .i64 0])∧
  w'.heap[g]?=some (.cells (qM (packed (cbn 64 6 f n))).toArray 5 (0,0))∧Below w.heap.size w w'
theorem qFR (p:Option Addr) (n cap:Nat) (f:Nat→Nat) (w:World) (h:qZ w p n f) (hn:n≤4096) (hcap:n≤cap) (hf:∀i,i<n→f i<18446744073709551616) (hT:qT w):
  Calls Tryz.prog 127 #[.slice p n cap] w (tO f n w):=by
 have H:=qA h
 have HF:=qA hf
 have HTs:2<w.heap.size:=block_lt_of_cell (hT 0 (by omega))
 obtain ⟨g,hg⟩:∃g,g=w.heap.size:=⟨_,rfl⟩
 obtain ⟨W1,hW1⟩:∃W1,W1=w.alloc (.cells zW 98):=⟨_,rfl⟩
 have HM:Hid (Wr W1 (g+1) g 0 [] 0∧g<W1.heap.size∧Below w.heap.size w W1∧qT W1∧qZ W1 p n f):=by
  have B1:Below w.heap.size w W1:=by rw [hW1];exact (Below.refl _ w).alloc (Nat.le_refl _) _
  refine ⟨?_,by rw [hW1,hg];simp,B1,hT.below B1,h.below B1⟩
  rw [hg,hW1];exact gO (heap_alloc_new w _)
 have HP:Hid (∀a,p=some a→0<n→a.block<g):=fun a ha h0=>by
  obtain ⟨b,o,hp,hc⟩:=H.out h0
  rw [hp] at ha
  simp only [Option.some.injEq] at ha
  rw [←ha,hg]
  exact block_lt_of_cell (hc 0 h0)
 have HG:=qA hg
 clear h hf hT
 go_enter Tryz.func127,Tryz.ntmps127
 go_upto_region 3 with fail
 refine wp_region_list ?_
 refine wpList_build rfl 98 #[] rfl (by kernel_rfl) ?_
 simp only [Array.map_empty]
 rw [zI]
 refine Go.Great.wpList_boxTo rfl 98 (.tmp 8) rfl (some 9) rfl g hg.symm zW rfl ?_
 rw [←hW1]
 clear hW1 hg
 go_wp2_with fail
 refine (lU g p n cap f W1 HM.out.2.2.2.2 HP.out hn hcap HF.out HM.out.1 HM.out.2.1 HM.out.2.2.2.1 (by rw [HG.out];exact HTs)).mono ?_
 rintro e w2 ⟨rfl,lo,hlo1,hlo2,W2,B2⟩
 have hl:=cbn_length' 64 6 f n (by omega) HF.out
 have HL:=qA hl
 clear hl
 go_wp2_with fail
 refine (qW g 0 lo w2 _ W2 hlo2 (by have:=HL.out;omega) _ rfl).mono ?_
 rintro e w3 ⟨rfl,G3,B3⟩
 go_wp2_with fail
 go_ret2
 have e3:=HM.out.2.2.1
 have e4:=HG.out
 refine ⟨w2.heap.size,((cbn 64 6 f n).length+7)/8,(packed_length _).symm,?_,rfl,G3,?_⟩
 ·have:=B2.size;have:=e3.size;omega
 ·rw [e4] at B2
  exact (e3.trans B2).trans (B3.mono (by have:=B2.size;have:=e3.size;omega))
end Go.Proofs.YtkpmalfigmimaaaGreatDoor
namespace Go.Proofs.YtkpmalfigmimaaaGreatDoor
open Go.RowKit
open M
theorem jZ (c:Nat) (h:c≤4096) (w:World):
  (Instr.makeSlice 107 (.int .i64 (c:Int)) (.int .i64 (c:Int))).run Tryz.prog w= .ok (.slice (some ⟨w.heap.size,0,none⟩) c c) (w.alloc (.cells (Array.replicate c (Value.int .u64 0)) 36)):=by
 have hz:(Tryz.prog.info? 36).bind (·.zero)=some (.int .u64 0):=by kernel_rfl
 have hs:(Tryz.prog.info? 36).map (·.size)=some 1:=by kernel_rfl
 have hb:(Tryz.prog.info? 36).map (·.bytes)=some (64/8):=by kernel_rfl
 cases hi:Tryz.prog.info? 36 with
 |none=>simp [hi] at hs
 |some i=>
  simp only [hi,Option.bind_some,Option.map_some,Option.some.injEq] at hz hs hb
  rw [run_make w 107 36 i _ Tryz.underlying107 hi hz .i64 .i64 (c:Int) (c:Int) (by omega) (by omega) (by rw [hb];omega) (by omega)]
  have e:madeCells (Value.int .u64 0).cells ((c:Int).toNat*i.size)=Array.replicate c (Value.int .u64 0):=by
   rw [hs]
   apply Array.ext
   ·simp [madeCells]
   ·intro j h1 h2
    simp [madeCells,Value.cells,Nat.mod_one]
  rw [e];simp
structure vP (w:World) (g n k:Nat) (f:Nat→Nat):Prop where
 cell:∀i,i<n→w.cell? ⟨g,i,none⟩=some (.int .u64 ((if i<k then f i else 0:Nat):Int))
 fz:∀i,w.frozen? ⟨g,i,none⟩=false
 blk:∃cur:Array Value,w.heap[g]?=some (.cells cur 36 (0,0))∧cur.size=n
theorem vP.new (w:World) (n:Nat) (f:Nat→Nat):vP (w.alloc (.cells (Array.replicate n (Value.int .u64 0)) 36)) w.heap.size n 0 f:=by
 have hn:=heap_alloc_new w (.cells (Array.replicate n (Value.int .u64 0)) 36)
 refine ⟨fun i hi=>?_,fun i=>frozen_of_row _ _ _ _ _ hn,_,hn,by simp⟩
 rw [cell_of_row _ _ _ _ _ _ hn]
 simp [hi]
theorem vP.set {w:World} {g n k:Nat} {f:Nat→Nat} (h:vP w g n k f) (hk:k<n) (t:Nat):vP (w.setCell ⟨g,k,none⟩ (.int .u64 (t:Int))) g n (k+1) (fun i=>if i=k then t else f i):=by
 refine ⟨fun i hi=>?_,fun i=>by rw [qE];exact h.fz i,?_⟩
 case refine_2=>
  obtain ⟨cur,h1,h2⟩:=h.blk
  exact ⟨_,heap_setCell_same w g k cur _ _ h1,by simpa using h2⟩
 by_cases e:i=k
 ·subst e
  rw [qF _ _ _ _ _ (h.cell i hi)];simp
 ·rw [qC _ _ _ _ _ e,h.cell i hi]
  by_cases h1:i<k
  ·simp [h1,e,show i<k+1 from by omega]
  ·simp [h1,show ¬i<k+1 from by omega]
theorem vP.ofBlock {w w':World} {g n k:Nat} {f:Nat→Nat} (h:vP w g n k f) (e:w'.heap[g]?=w.heap[g]?):vP w' g n k f:=
 ⟨fun i hi=>by rw [World.cell?_of_block (w:=w) e];exact h.cell i hi,fun i=>by rw [World.frozen?_of_block (w:=w) (w':=w') (a:=⟨g,i,none⟩) e];exact h.fz i,by rw [e];exact h.blk⟩
theorem vP.congr {w:World} {g n k:Nat} {f f':Nat→Nat} (h:vP w g n k f) (e:∀i,i<k→f i=f' i):vP w g n k f':=
 ⟨fun i hi=>by
         rw [h.cell i hi];by_cases h1:i<k
         ·rw [if_pos h1,if_pos h1,e i h1]
         ·rw [if_neg h1,if_neg h1],h.fz,h.blk⟩
theorem jB.setNew {b c:Nat} {u w:World} (h:jB b c u w) (g i:Nat) (hg:u.heap.size≤g) (v:Value):jB b c u (w.setCell ⟨g,i,none⟩ v):=
 ⟨h.os,h.tape,h.output,Nat.le_trans h.size (by simp [World.setCell]),fun k hk h1 h2=>by rw [Below.heap_setCell _ _ _ _ (show k≠g by omega)];exact h.block k hk h1 h2⟩
def yS (R:List Bool) (g:Nat→Nat) (n:Nat):Prop:=(∀i,i<n→g i<18446744073709551616)∧∃r,R=cbn 64 6 g n++r
structure qI7 (w wr:World) (b c:Nat) (s:ByteArray) (g n k a:Nat) (e1:Int) (f:Nat→Nat):Prop where
 row:vP wr g n (k+1) f
 rd:Rd wr b 0 s a e1
 col:zD wr c (f k) (win 64 6 f k).1 (win 64 6 f k).2
 two:jB b c w wr
 size:g<wr.heap.size
 rng:∀i,i<k+1→f i<18446744073709551616
 sound:e1=0→(rb s).take a=cbn 64 6 f (k+1)
 full:∀h,yS (rb s) h n→e1=0∧∀i,i<k+1→f i=h i
theorem qE6 (p x:Nat):(p^^^x)^^^p=x:=by rw [Nat.xor_comm p x,Nat.xor_assoc,Nat.xor_self,Nat.xor_zero]
theorem qI7.next {w wr w2:World} {b c:Nat} {s:ByteArray} {g n k a a':Nat} {e1 e2:Int} {f:Nat→Nat} (hk:k+1<n) (hg:w.heap.size≤g) (hgb:g≠b) (hgc:g≠c) (T:qI7 w wr b c s g n k a e1 f) (x:Nat) (hx:x<18446744073709551616)
  (hR:Rd w2 b 0 s a' e2) (hO:jB b c wr w2) (hC:zD w2 c (f k^^^x) (nxt 64 6 ((win 64 6 f k).1,(win 64 6 f k).2) x).1 (nxt 64 6 ((win 64 6 f k).1,(win 64 6 f k).2) x).2)
  (hs:e2=0→e1=0∧(rb s).take a'=(rb s).take a++xb 64 6 (win 64 6 f k).1 (win 64 6 f k).2 x)
  (hf:e1=0→∀y r,y<18446744073709551616→(rb s).drop a=xb 64 6 (win 64 6 f k).1 (win 64 6 f k).2 y++r→x=y∧e2=0):
  qI7 w (w2.setCell ⟨g,k+1,none⟩ (.int .u64 ((f k^^^x:Nat):Int))) b c s g n (k+1) a' e2 (fun i=>if i=k+1 then f k^^^x else f i):=by
 have hs2:=hO.size
 have hsz:=T.size
 have ht:f k^^^x<18446744073709551616:=xor_lt 64 _ _ (T.rng k (by omega)) hx
 obtain ⟨F,hF⟩:∃F:Nat→Nat,F=fun i=>if i=k+1 then f k^^^x else f i:=⟨_,rfl⟩
 have F1:F (k+1)=f k^^^x:=by rw [hF];simp
 have F2:∀i,i≤k→F i=f i:=fun i hi=>by rw [hF];simp;omega
 have ew:win 64 6 F k=win 64 6 f k:=win_congr _ _ _ _ k (fun j hj=>F2 j hj)
 have exx:F (k+1)^^^F k=x:=by rw [F1,F2 k (Nat.le_refl _)];exact qE6 _ _
 have ez:xbf 64 6 F k=xb 64 6 (win 64 6 f k).1 (win 64 6 f k).2 x:=by unfold xbf;rw [ew,exx]
 have en:win 64 6 F (k+1)=nxt 64 6 ((win 64 6 f k).1,(win 64 6 f k).2) x:=by simp only [win];rw [ew,exx]
 have eb:cbn 64 6 F (k+1)=cbn 64 6 f (k+1):=cbn_congr _ _ _ _ _ fun i hi=>F2 i (by omega)
 have hbk:(w2.setCell ⟨g,k+1,none⟩ (.int .u64 ((f k^^^x:Nat):Int))).heap[c]?=w2.heap[c]?:=Below.heap_setCell _ _ _ _ (fun e=>hgc e.symm)
 rw [←hF]
 refine ⟨?_,hR.setOther' g _ hgb _,?_,(T.two.trans hO).setNew g _ hg _,by simp [World.setCell];omega,fun i hi=>?_,fun he=>?_,?_⟩
 ·rw [hF];exact (T.row.ofBlock (hO.block g T.size hgb hgc)).set hk (f k^^^x)
 ·rw [F1,en]
  exact ⟨by rw [World.cell?_of_block (w:=w2) hbk];exact hC.ahead,by rw [World.cell?_of_block (w:=w2) hbk];exact hC.lead,by rw [World.cell?_of_block (w:=w2) hbk];exact hC.len,fun i=>by rw [qE];exact hC.fz i⟩
 ·by_cases e:i=k+1
  ·subst e;rw [F1];exact ht
  ·rw [F2 i (by omega)];exact T.rng i (by omega)
 ·obtain ⟨h1,h2⟩:=hs he
  rw [h2,T.sound h1,cbn_step,ez,eb]
 ·intro h hB
  obtain ⟨h1,h2⟩:=T.full h hB
  obtain ⟨hr,r,hRR⟩:=hB
  obtain ⟨r1,h3⟩:=cbn_prefix 64 6 h (k+2) n (by omega)
  rw [h3,cbn_step,List.append_assoc,List.append_assoc] at hRR
  have h4:(rb s).take a=cbn 64 6 h (k+1):=by rw [T.sound h1];exact cbn_congr _ _ _ _ _ h2
  have h5:(rb s).drop a=xbf 64 6 h k++(r1++r):=by
   have:=List.take_append_drop a (rb s)
   rw [h4] at this
   rw [hRR] at this⊢
   exact List.append_cancel_left this
  have e5:xbf 64 6 h k=xb 64 6 (win 64 6 f k).1 (win 64 6 f k).2 (h (k+1)^^^h k):=by
   unfold xbf;rw [win_congr 64 6 f h k (fun j hj=>h2 j (by omega))]
  rw [e5] at h5
  obtain ⟨h6,h7⟩:=hf h1 _ _ (xor_lt 64 _ _ (hr _ (by omega)) (hr _ (by omega))) h5
  refine ⟨h7,fun i hi=>?_⟩
  by_cases e:i=k+1
  ·subst e
   rw [F1,h6,h2 k (by omega),Nat.xor_comm (h (k+1)),←Nat.xor_assoc,Nat.xor_self,Nat.zero_xor]
  ·rw [F2 i (by omega)];exact h2 i (by omega)
theorem qI7.none {w wr:World} {b c:Nat} {s:ByteArray} {g n k a:Nat} {e1:Int} {f:Nat→Nat} (hk:k+1<n) (T:qI7 w wr b c s g n k a e1 f)
  (hf:e1=0→∀y r,y<18446744073709551616→(rb s).drop a=xb 64 6 (win 64 6 f k).1 (win 64 6 f k).2 y++r→False):¬∃h,yS (rb s) h n:=by
 rintro ⟨h,hB⟩
 obtain ⟨h1,h2⟩:=T.full h hB
 obtain ⟨hr,r,hRR⟩:=hB
 obtain ⟨r1,h3⟩:=cbn_prefix 64 6 h (k+2) n (by omega)
 rw [h3,cbn_step,List.append_assoc,List.append_assoc] at hRR
 have h4:(rb s).take a=cbn 64 6 h (k+1):=by rw [T.sound h1];exact cbn_congr _ _ _ _ _ h2
 have h5:(rb s).drop a=xbf 64 6 h k++(r1++r):=by
  have:=List.take_append_drop a (rb s)
  rw [h4] at this
  rw [hRR] at this⊢
  exact List.append_cancel_left this
 have e5:xbf 64 6 h k=xb 64 6 (win 64 6 f k).1 (win 64 6 f k).2 (h (k+1)^^^h k):=by
  unfold xbf;rw [win_congr 64 6 f h k (fun j hj=>h2 j (by omega))]
 rw [e5] at h5
 exact hf h1 _ _ (xor_lt 64 _ _ (hr _ (by omega)) (hr _ (by omega))) h5
def tT (w:World) (b:Nat) (s:ByteArray) (n:Nat) (e:Ending) (w':World):Prop:=
 (e= .returned (.tuple #[.slice none 0 0,.bool false])∧Below b w w'∧¬∃h,yS (rb s) h n)∨
  ∃(a:Nat) (e1:Int) (f:Nat→Nat),e= .returned (.tuple #[.slice (some ⟨w.heap.size,0,none⟩) n n,.bool true])∧vP w' w.heap.size n n f∧Rd w' b 0 s a e1∧Below b w w'∧(∀i,i<n→f i<18446744073709551616)∧
   (e1=0→(rb s).take a=cbn 64 6 f n)∧(∀h,yS (rb s) h n→e1=0∧∀i,i<n→f i=h i)
end Go.Proofs.YtkpmalfigmimaaaGreatDoor
namespace Go.Proofs.YtkpmalfigmimaaaGreatDoor
open Go.RowKit
open M
def qJ0 (w:World) (b:Nat) (s:ByteArray) (a:Nat) (e0:Int) (e:Ending) (w':World):Prop:=
 ∃(l n N a':Nat) (e1:Int),e= .returned (.agg #[.int .i64 (l:Int),.int .i64 (N:Int)])∧n+1=N∧l<32∧n<32∧Tk w w' b 0 s a e0 a' e1 (bitsOf l 5++bitsOf n 5)
theorem mK (b:Nat) (s:ByteArray) (a:Nat) (e0:Int) (w:World) (h:Rd w b 0 s a e0):
  Calls Tryz.prog 198 #[.pointer (some ⟨b,0,none⟩)] w (qJ0 w b s a e0):=by
 have hbs:b<w.heap.size:=block_lt_of_cell h.text
 have HM:Hid (Rd (w.alloc (.cells #[.int .i64 0,.int .i64 0] 215)) b 0 s a e0∧qJ b 0 3 w (w.alloc (.cells #[.int .i64 0,.int .i64 0] 215))∧
   (w.alloc (.cells #[.int .i64 0,.int .i64 0] 215)).heap[w.heap.size]?=some (.cells #[.int .i64 0,.int .i64 0] 215 (0,0))):=
  ⟨h.below ((Below.refl _ w).alloc (Nat.le_refl _) _) hbs,(qJ.refl b 0 3 w).alloc hbs _,heap_alloc_new w _⟩
 have ha:=qA h.le
 clear h
 go_enter Tryz.func198,Tryz.ntmps198
 go_wp2_with fail
 generalize w.alloc (.cells #[.int .i64 0,.int .i64 0] 215)=w0 at*
 refine (zE _).mono ?_
 rintro e wy ⟨rfl,hwy⟩
 have hwy:=hwy.symm
 subst hwy
 go_wp2_with fail
 refine (kT b 0 s a 5 e0 _ HM.out.1 (by omega)).mono ?_
 rintro e w1 ⟨l,a1,e1,rfl,hl,T1⟩
 have hl':l<32:=hl
 have l1:wrap64 (l:Int)=(l:Int):=by unfold wrap64;omega
 have l2:IntKind.i64.wrap (l:Int)=(l:Int):=by rw [IntKind.wrap_i64];omega
 go_wp2_with fail
 refine (zE _).mono ?_
 rintro e wy ⟨rfl,hwy⟩
 have hwy:=hwy.symm
 subst hwy
 go_wp2_with fail
 refine (kT b 0 s a1 5 e1 _ T1.rd (by omega)).mono ?_
 rintro e w2 ⟨n,a2,e2,rfl,hn,T2⟩
 have hn':n<32:=hn
 obtain ⟨N,hN⟩:∃N,n+1=N:=⟨_,rfl⟩
 have n1:wrap64 (n:Int)=(n:Int):=by unfold wrap64;omega
 have n2:IntKind.i64.wrap (n:Int)=(n:Int):=by rw [IntKind.wrap_i64];omega
 have n3:(n:Int)+1=(N:Int):=by omega
 have n4:wrap64 (N:Int)=(N:Int):=by unfold wrap64;omega
 have O2:qJ b 0 3 w0 w2:=T1.only.trans T2.only
 have hs0:=qB HM.out.2.2
 have hGb:w.heap.size≠b:=by omega
 have g0:w2.cell? ⟨w.heap.size,0,none⟩=some (.int .i64 0):=by rw [World.cell?_of_block (O2.block w.heap.size hs0 hGb),cell_of_row _ _ _ _ _ _ HM.out.2.2];rfl
 have g1:w2.cell? ⟨w.heap.size,1,none⟩=some (.int .i64 0):=by rw [World.cell?_of_block (O2.block w.heap.size hs0 hGb),cell_of_row _ _ _ _ _ _ HM.out.2.2];rfl
 have f0:w2.frozen? ⟨w.heap.size,0,none⟩=false:=by rw [World.frozen?_of_block (w:=w0) (w':=w2) (a:=⟨w.heap.size,0,none⟩) (O2.block w.heap.size hs0 hGb)];exact frozen_of_row _ _ _ _ _ HM.out.2.2
 have f1:w2.frozen? ⟨w.heap.size,1,none⟩=false:=by rw [World.frozen?_of_block (w:=w0) (w':=w2) (a:=⟨w.heap.size,1,none⟩) (O2.block w.heap.size hs0 hGb)];exact frozen_of_row _ _ _ _ _ HM.out.2.2
 have HTT:=qA (T1.trans ha.out T2)
 have HN:=qA (And.intro hN (And.intro hl' hn'))
 clear T1 T2 O2 hl hn hl' hn' hN
 go_wp2_with fail
 obtain ⟨r0,r1⟩:=uR (v:= .int .i64 (l:Int)) (v':= .int .i64 (N:Int)) g0 g1
 refine bodyPost_ret (v:= .agg #[.int .i64 (l:Int),.int .i64 (N:Int)]) (by
  have r2:=qF w2 w.heap.size 0 (.int .i64 (l:Int)) _ g0
  have r3:=qF (w2.setCell ⟨w.heap.size,0,none⟩ (.int .i64 (l:Int))) w.heap.size 1 (.int .i64 (N:Int)) (.int .i64 0) (by rw [qC _ _ _ _ _ (by omega)];exact g1)
  simp [results,Tryz.results198,go_sem,r0,r1,r2,r3]) rfl ?_
 refine ⟨l,n,N,a2,e2,rfl,HN.out.1,HN.out.2.1,HN.out.2.2,(HTT.out.rd.setOther' w.heap.size 0 hGb _).setOther' w.heap.size 1 hGb _,?_,HTT.out.sound,HTT.out.full⟩
 exact ((HM.out.2.1.trans HTT.out.only).setOther' w.heap.size 0 (Nat.le_refl _) hGb _).setOther' w.heap.size 1 (Nat.le_refl _) hGb _
end Go.Proofs.YtkpmalfigmimaaaGreatDoor
namespace Go.Proofs.YtkpmalfigmimaaaGreatDoor
open Go.RowKit
open M
theorem yK {w w':World} {b off:Nat} {s:ByteArray} {a a':Nat} {e1:Int} {laid X r:List Bool} (T:Tk w w' b off s a 0 a' e1 laid) (ha:a≤8*s.size) (h:(rb s).drop a=X++r) (hl:laid.length≤X.length):
  e1=0∧∃r',X++r=laid++r':=by
 have h1:=congrArg List.length h
 rw [List.length_drop,jN,List.length_append] at h1
 have e:e1=0:=by
  by_cases h0:laid.length=0
  ·exact T.full rfl (by rw [jN];omega)
  ·exact T.full rfl (by rw [jN];omega)
 exact ⟨e,_,by rw [←h];exact take_eq_drop' _ _ _ _ (T.sound e).2⟩
theorem rB (W K L N y:Nat) (h0:y≠0):∃t,xb W K L N y=true::(!decide (sut W K L N y))::t:=by
 by_cases h:sut W K L N y
 ·rw [xb_old _ _ _ _ _ h0 h];exact ⟨_,by simp [h];rfl⟩
 ·rw [xb_new _ _ _ _ _ h0 h];exact ⟨_,by simp [h];rfl⟩
theorem qBX {w w':World} {b off:Nat} {s:ByteArray} {a a':Nat} {e1:Int} {L N y:Nat} {r:List Bool} (T:Tk w w' b off s a 0 a' e1 [false]) (ha:a≤8*s.size) (h:(rb s).drop a=xb 32 5 L N y++r):e1=0∧y=0:=by
 by_cases h0:y=0
 ·subst h0
  exact ⟨(yK T ha h (by simp [xb_0])).1,rfl⟩
 ·obtain ⟨t,ht⟩:=rB 32 5 L N y h0
  obtain ⟨h1,r',h2⟩:=yK T ha h (by rw [ht];simp)
  rw [ht] at h2
  simp at h2
theorem xH {w w':World} {b off:Nat} {s:ByteArray} {a a':Nat} {e1:Int} {L N y:Nat} {v:Bool} {r:List Bool} (hr:(rb s).drop a=true::r) (T:Tk w w' b off s a 0 a' e1 [true,v]) (ha:a≤8*s.size) {r2:List Bool} (h:(rb s).drop a=xb 32 5 L N y++r2):
  e1=0∧y≠0∧(v=true↔¬sut 32 5 L N y):=by
 have h0:y≠0:=by
  rintro rfl
  rw [h,xb_0] at hr
  simp at hr
 obtain ⟨t,ht⟩:=rB 32 5 L N y h0
 obtain ⟨h1,r',h2⟩:=yK T ha h (by rw [ht];simp)
 rw [ht] at h2
 simp only [List.cons_append,List.nil_append,List.cons.injEq,true_and] at h2
 refine ⟨h1,h0,?_⟩
 rw [←h2.1]
 by_cases hs:sut 32 5 L N y<;>simp [hs]
theorem qDN {w w':World} {b off:Nat} {s:ByteArray} {a a':Nat} {e1:Int} {L N y v:Nat} {r:List Bool} (T:Tk w w' b off s a 0 a' e1 ([true,false]++bitsOf v N)) (ha:a≤8*s.size) (hy:y<4294967296) (hw:L+N≤32) (hv:v<2^N)
  (h0:y≠0) (hs:sut 32 5 L N y) (h:(rb s).drop a=xb 32 5 L N y++r):e1=0∧v*2^(32-L-N)=y:=by
 have h':=h
 rw [xb_old _ _ _ _ _ h0 hs] at h'
 obtain ⟨h1,r',h2⟩:=yK T ha h' (by simp)
 refine ⟨h1,?_⟩
 simp only [List.cons_append,List.nil_append,List.cons.injEq,true_and] at h2
 have h3:=(pbits_inj _ _ _ _ _ (old_fits 32 5 L N y hy hw hs) hv h2).1
 rw [←h3]
 exact cut_back y _ h0 (lt64 (W:=32) hy (by omega)) hs.2.2.1
theorem dQ {w w':World} {b off:Nat} {s:ByteArray} {a a':Nat} {e1:Int} {L N y l n:Nat} {r:List Bool} (T:Tk w w' b off s a 0 a' e1 ([true,true]++(bitsOf l 5++bitsOf n 5))) (ha:a≤8*s.size) (hy:y<4294967296) (hl:l<32) (hn:n<32)
  (h0:y≠0) (hs:¬sut 32 5 L N y) (h:(rb s).drop a=xb 32 5 L N y++r):e1=0∧l=32-bitLen y∧n+1=wl y:=by
 have h':=h
 rw [xb_new _ _ _ _ _ h0 hs] at h'
 have hy6:=lt64 (W:=32) hy (by omega)
 have q1:=bitLen_le y 32 hy
 have q2:=bitLen_pos y h0
 have q3:=wl_pos y h0 hy6
 have q4:wl y≤32:=by unfold wl;omega
 obtain ⟨h1,r',h2⟩:=yK T ha h' (by simp;omega)
 refine ⟨h1,?_⟩
 simp only [List.cons_append,List.nil_append,List.cons.injEq,true_and,List.append_assoc] at h2
 obtain ⟨h3,h4⟩:=pbits_inj _ _ 5 _ _ (by omega) (by omega) h2
 obtain ⟨h5,h6⟩:=pbits_inj _ _ 5 _ _ (by omega) (by omega) h4
 omega
theorem qDR {w w':World} {b off:Nat} {s:ByteArray} {a a':Nat} {e1:Int} {L N y l n v m:Nat} {r:List Bool} (T:Tk w w' b off s a 0 a' e1 ([true,true]++(bitsOf l 5++bitsOf n 5)++bitsOf v m)) (ha:a≤8*s.size) (hy:y<4294967296) (hv:v<2^m)
  (h0:y≠0) (hs:¬sut 32 5 L N y) (h:(rb s).drop a=xb 32 5 L N y++r) (el:l=32-bitLen y) (en:n+1=wl y) (em:m=n+1):e1=0∧v*2^(32-l-m)=y:=by
 have h':=h
 have hy6:=lt64 (W:=32) hy (by omega)
 have q1:=bitLen_le y 32 hy
 have q2:=tz_lt y h0 hy6
 have q3:wl y=bitLen y-tz y:=rfl
 have em':wl y=m:=by omega
 rw [xb_new _ _ _ _ _ h0 hs,show 32-bitLen y=l from el.symm,show wl y-1=n from by omega,em'] at h'
 obtain ⟨h1,r',h2⟩:=yK T ha h' (by simp)
 refine ⟨h1,?_⟩
 simp only [List.cons_append,List.nil_append,List.cons.injEq,true_and,List.append_assoc,List.append_cancel_left_eq] at h2
 have h3:=(pbits_inj _ _ _ _ _ (by rw [←em'];exact new_fits y h0 hy6) hv h2).1
 rw [←h3,show 32-l-m=tz y from by omega]
 exact cut_back y _ h0 hy6 (Nat.le_refl _)
theorem vC (L N v:Nat) (hw:L+N≤32) (hv:v<2^N):v*2^(32-L-N)<4294967296∧v*2^(32-L-N)/2^(32-L-N)=v:=by
 refine ⟨?_,Nat.mul_div_cancel _ (Nat.two_pow_pos _)⟩
 have h1:v*2^(32-L-N)<2^N*2^(32-L-N):=(Nat.mul_lt_mul_right (Nat.two_pow_pos _)).2 hv
 rw [←Nat.pow_add] at h1
 exact Nat.lt_of_lt_of_le h1 (Nat.le_trans (Nat.pow_le_pow_right (by omega) (show N+(32-L-N)≤32 by omega)) (by decide))
theorem bT {w1 w3:World} {b:Nat} {s:ByteArray} {a1 a2:Nat} {e2:Int} {l:List Bool} {H:Nat} {u u' v v':Value} (T:Tk w1 w3 b 0 s a1 0 a2 e2 l) (hH:w1.heap.size≤H) (hHb:H≠b) (hs:H<w3.heap.size)
  (g0:w3.cell? ⟨H,0,none⟩=some u) (g1:w3.cell? ⟨H,1,none⟩=some u') (hf:∀i,w3.frozen? ⟨H,i,none⟩=false):
  Tk w1 ((w3.setCell ⟨H,0,none⟩ v).setCell ⟨H,1,none⟩ v') b 0 s a1 0 a2 e2 l∧H<((w3.setCell ⟨H,0,none⟩ v).setCell ⟨H,1,none⟩ v').heap.size∧
   ((w3.setCell ⟨H,0,none⟩ v).setCell ⟨H,1,none⟩ v').cell? ⟨H,0,none⟩=some v∧((w3.setCell ⟨H,0,none⟩ v).setCell ⟨H,1,none⟩ v').cell? ⟨H,1,none⟩=some v'∧
   ∀i,((w3.setCell ⟨H,0,none⟩ v).setCell ⟨H,1,none⟩ v').frozen? ⟨H,i,none⟩=false:=by
 obtain ⟨r0,r1⟩:=uR (v:=v) (v':=v') g0 g1
 refine ⟨⟨(T.rd.setOther' H 0 hHb _).setOther' H 1 hHb _,(T.only.setOther' H 0 hH hHb _).setOther' H 1 hH hHb _,T.sound,T.full⟩,by simp [World.setCell];exact hs,r0,r1,fun i=>by rw [qE,qE];exact hf i⟩
theorem jH (w:World) (g i c j:Nat) (v:Value) (h:g≠c):(w.setCell ⟨g,i,none⟩ v).cell? ⟨c,j,none⟩=w.cell? ⟨c,j,none⟩:=
 World.cell?_of_block (Below.heap_setCell _ _ _ _ (fun e=>h e.symm))
theorem Tk.more32 {w w' w2:World} {b off:Nat} {s:ByteArray} {a a':Nat} {e0 e1:Int} {laid:List Bool} (T:Tk w w' b off s a e0 a' e1 laid) (hB:Below w'.heap.size w' w2):Tk w w2 b off s a e0 a' e1 laid:=by
 have hb:b<w'.heap.size:=block_lt_of_cell T.rd.text
 refine ⟨T.rd.below hB hb,T.only.trans ⟨hB.os,hB.tape,hB.output,hB.size,fun k hk _=>hB.block k hk,fun j _=>World.cell?_of_block (hB.block b hb),fun j=>World.frozen?_of_block (w:=w') (w':=w2) (a:=⟨b,j,none⟩) (hB.block b hb)⟩,T.sound,T.full⟩
theorem vJ {x:Nat} (h:x<4294967296):IntKind.u32.wrap (x:Int)=(x:Int):=by rw [IntKind.wrap_u32];omega
theorem dZ {v n:Nat} (h:v<2^n) (hn:n≤32):IntKind.u32.wrap (v:Int)=(v:Int):=vJ (Nat.lt_of_lt_of_le h (Nat.le_trans (Nat.pow_le_pow_right (by omega) hn) (by decide)))
def nH (w:World) (b c:Nat) (s:ByteArray) (a:Nat) (e0:Int) (p L N:Nat) (e:Ending) (w':World):Prop:=
 ∃(ok:Bool) (x a':Nat) (e1:Int),e= .returned (.bool ok)∧Rd w' b 0 s a' e1∧jA b c w w'∧x<4294967296∧
  (ok=true→zC w' c (p^^^x) (nxt 32 5 (L,N) x).1 (nxt 32 5 (L,N) x).2∧(e1=0→e0=0∧(rb s).take a'=(rb s).take a++xb 32 5 L N x))∧
  (e0=0→∀y r,y<4294967296→(rb s).drop a=xb 32 5 L N y++r→ok=true∧x=y∧e1=0)
end Go.Proofs.YtkpmalfigmimaaaGreatDoor
