import Derived.Test.YtkpmalfigmimaaaGreatDoorZ0
import Derived.Test.YtkpmalfigmimaaaGreatDoorD3N
import Derived.Deep.Onto
import Derived.Test.YtkpmalfigmimaaaGreatDoorD1M
import Derived.Test.YtkpmalfigmimaaaGreatDoorD2J
import Derived.Test.YtkpmalfigmimaaaGreatDoorD2L
import Derived.Deep.CutBlock
import Derived.Deep.DeepCutAuto
import Derived.Deep.CutRange
import Derived.BigQuiet
import Derived.Test.YtkpmalfigmimaaaGreatDoorFJ
import Derived.Test.YtkpmalfigmimaaaGreatDoorP1B64
set_option linter.unusedVariables false
set_option linter.unusedSimpArgs false
set_option maxRecDepth 100000
set_option maxHeartbeats 8000000
namespace Go.Proofs.YtkpmalfigmimaaaGreatDoor
open Go.RowKit
open M
structure qKA (kd n:Nat) (t:Nat→Int) (v:Nat→Nat):Prop where
 up:Rises t n
 ti:∀i,i<n→I64 (t i)
 va:∀i,i<n→v i<18446744073709551616
 nar:kd=2→tC v n
def qDL (n k:Nat) (t:Nat→Int) (j:Nat):Int:=if k<j then t (j-1) else if j=n then 0 else t j
def qDM (n k:Nat) (v:Nat→Nat) (j:Nat):Nat:=if k<j then v (j-1) else if j=n then 0 else v j
def inT (a:Nat) (x:Int) (t:Nat→Int) (j:Nat):Int:=if j<a then t j else if j=a then x else t (j-1)
def inV (a:Nat) (y:Nat) (v:Nat→Nat) (j:Nat):Nat:=if j<a then v j else if j=a then y else v (j-1)
theorem qKA.put {kd n:Nat} {t:Nat→Int} {v:Nat→Nat} (h:qKA kd n t v) (a:Nat) (x:Int) (y:Nat) (ha:a≤n) (h1:∀q,a≤q→q<n→x<t q) (h2:0<a→t (a-1)<x) (hx:I64 x) (hy:y<18446744073709551616) (hn:kd=2→wid (yI y)=y):qKA kd (n+1) (inT a x t) (inV a y v):=by
 refine ⟨fun i hi=>?_,fun i hi=>?_,fun i hi=>?_,fun hk i hi=>?_⟩
 ·unfold inT
  by_cases c1:i+1<a
  ·rw [if_pos (by omega),if_pos c1];exact h.up i (by omega)
  ·by_cases c2:i+1=a
   ·rw [if_pos (by omega),if_neg c1,if_pos c2]
    have:=h2 (by omega)
    rwa [show a-1=i by omega] at this
   ·rw [if_neg (by omega),if_neg c1,if_neg c2]
    by_cases c3:i=a
    ·rw [if_pos c3];exact h1 _ (by omega) (by omega)
    ·rw [if_neg c3]
     have:=h.up (i-1) (by omega)
     rwa [show i-1+1=i+1-1 by omega] at this
 ·unfold inT
  by_cases c1:i<a
  ·rw [if_pos c1];exact h.ti i (by omega)
  ·by_cases c2:i=a
   ·rw [if_neg c1,if_pos c2];exact hx
   ·rw [if_neg c1,if_neg c2];exact h.ti _ (by omega)
 ·unfold inV
  by_cases c1:i<a
  ·rw [if_pos c1];exact h.va i (by omega)
  ·by_cases c2:i=a
   ·rw [if_neg c1,if_pos c2];exact hy
   ·rw [if_neg c1,if_neg c2];exact h.va _ (by omega)
 ·unfold inV
  by_cases c1:i<a
  ·rw [if_pos c1];exact h.nar hk i (by omega)
  ·by_cases c2:i=a
   ·rw [if_neg c1,if_pos c2];exact hn hk
   ·rw [if_neg c1,if_neg c2];exact h.nar hk _ (by omega)
theorem OP.other {B n:Nat} {w0 wr:World} {t:Nat→Int} {v:Nat→Nat} {u:Value} (h:OP B w0 n t v u wr) (k i:Nat) (x:Value) (hk:u.ownBlock≠some k) (hB:B≤k):OP B w0 n t v u (wr.setCell ⟨k,i,none⟩ x):=
 ⟨uM h.own fun g hg=>heap_setCell_other _ _ _ _ (fun e=>hk (by rw [hg,e])),qH h.bel _ _ _ hB,h.le⟩
theorem OP.form {B n cap:Nat} {w0 wr:World} {t:Nat→Int} {v:Nat→Nat} {p:Option Addr} (h:OP B w0 n t v (.slice p n cap) wr) (hn:0<n):∃g,p=some ⟨g,0,none⟩:=by
 rcases h.own.2 with ⟨h1,h2⟩|⟨g,cap',cur,h1,_⟩
 ·omega
 ·simp only [Value.slice.injEq] at h1
  exact ⟨g,h1.1⟩
theorem OP.cells {B n cap g:Nat} {w0 wr:World} {t:Nat→Int} {v:Nat→Nat} (h:OP B w0 n t v (.slice (some ⟨g,0,none⟩) n cap) wr) (i:Nat) (hi:i<n):wr.cell? ⟨g,i*2,none⟩=some (.int .i64 (t i))∧wr.cell? ⟨g,i*2+1,none⟩=some (.int .u64 (v i:Int)):=by
 have e:=sM n t v i hi
 exact ⟨by rw [h.own.cellAt (i*2) (by omega),e.1],by rw [h.own.cellAt (i*2+1) (by omega),e.2]⟩
def qIU (kd:Nat) (w:World) (e:Ending) (w':World):Prop:=
 ∃(n:Nat) (t:Nat→Int) (v:Nat→Nat) (u:Value),e= .returned (.tuple #[u,.int .i64 (kd:Int)])∧n≤300∧qKA kd n t v∧OP w.heap.size w n t v u w'
structure qLN (w W:World) (kd i n:Nat) (t:Nat→Int) (v:Nat→Nat) (u:Value) (wr:World):Prop where
 op:OP (w.heap.size+1) W n t v u wr
 le:n≤i
 i3:i≤300
 fine:qKA kd n t v
theorem qH9 (K:Int) (kd:Nat) (p:Option Addr) (N cap:Nat) (t0:Nat→Int) (v0:Nat→Nat) (w:World) (h:uB w p N t0 v0) (hN:N≤9223372036854775807) (ht:∀i,i<N→I64 (t0 i)) (hf:∀i,i<N→v0 i<18446744073709551616) (hk:kd=2∧K.tmod 2=0∨kd=1∧K.tmod 2≠0):
  Calls Tryz.prog 6 #[.agg #[.int .i64 K,.slice p N cap]] w (qIU kd w):=by
 obtain ⟨i5,hi5⟩:=qIF
 have Hi:=qA hi5
 clear hi5
 obtain ⟨g,hg⟩:∃g,w.heap.size=g:=⟨_,rfl⟩
 obtain ⟨W1,hW1⟩:∃W1,w.alloc (.cells #[.int .i64 K,.slice p N cap] 24)=W1:=⟨_,rfl⟩
 have HW1:Hid (W1.heap[g]?=some (.cells #[.int .i64 K,.slice p N cap] 24 (0,0))∧Below w.heap.size w W1∧W1.heap.size=g+1∧uB W1 p N t0 v0):=by
  have hA:Below w.heap.size w W1:=by rw [←hW1];exact (Below.refl _ _).alloc (Nat.le_refl _) _
  exact ⟨by rw [←hW1,←hg];exact heap_alloc_new _ _,hA,by rw [←hW1,←hg];simp,h.below hA⟩
 have HS0:Hid (qLN w W1 kd 0 0 t0 v0 (.slice none 0 0) W1):=by
  refine ⟨?_,Nat.le_refl _,by omega,⟨fun i hi=>by omega,fun i hi=>by omega,fun i hi=>by omega,fun _ i hi=>by omega⟩⟩
  have:=OP.nil W1 t0 v0
  rwa [show W1.heap.size=w.heap.size+1 from by rw [HW1.out.2.2.1,hg]] at this
 have HT:=qA ht
 have HF:=qA hf
 have HG:=qA hg
 clear h ht hf
 have hkk:((K.tmod 2)==0)=decide (kd=2):=by
  rcases hk with ⟨rfl,h⟩|⟨rfl,h⟩
  ·rw [h];rfl
  ·simpa using h
 have a0:W1.cell? ⟨g,0,none⟩=some (.int .i64 K):=by rw [cell_of_row _ _ _ _ _ _ HW1.out.1];rfl
 have HA1:Hid (∀wr:World,Below (g+1) W1 wr→wr.cell? ⟨g,1,none⟩=some (.slice p N cap)):=fun wr hB=>by
  rw [hB.cell (p:=⟨g,1,none⟩) (by show g<g+1;omega),cell_of_row _ _ _ _ _ _ HW1.out.1];rfl
 have HAP:Hid (∀wr:World,Below (g+1) W1 wr→uB wr p N t0 v0):=fun wr hB=>by
  have h1:=HW1.out.2.2.2
  rw [←HW1.out.2.2.1] at hB
  exact h1.below hB
 rcases hk with ⟨rfl,hk⟩|⟨rfl,hk⟩
 all_goals (
  first|rw [show decide ((2:Nat)=2)=true from rfl] at hkk|rw [show decide ((1:Nat)=2)=false from rfl] at hkk
  clear hk
  go_enter Tryz.func6,Tryz.ntmps6
  go_upto_region 2 with fail
  (try rw [hW1])
  (try rw [hg])
  clear hW1 hg
  go_wp2_with (simp only [hkk])
  clear a0 hkk
  go_loopw [5,6] (fun t5 t6 wr=>∃(i n:Nat) (t:Nat→Int) (v:Nat→Nat) (q:Option Addr) (c:Nat),t6= .int .i64 (i:Int)∧t5= .slice q n c∧Hid (qLN w W1 _ i n t v (.slice q n c) wr)) (fun _ t6 _=>300-(intOf t6).toNat)
  case atStart=>exact ⟨0,0,t0,v0,none,0,rfl,rfl,HS0.out⟩
  case round=>
   obtain ⟨i,n,t,v,q,c,rfl,rfl,hI⟩:=hrel
   have a1:wr.cell? ⟨g,1,none⟩=some (.slice p N cap):=HA1.out wr (by rw [←HG.out];exact hI.out.op.bel)
   have hn3:n≤300:=Nat.le_trans hI.out.le hI.out.i3
   have hi3:=hI.out.i3
   by_cases hlt:i<N
   ·by_cases h3:i<300
    ·obtain ⟨b,o,rfl,hc⟩:=(HAP.out wr (by rw [←HG.out];exact hI.out.op.bel)) (by omega)
     obtain ⟨x,hx⟩:∃x,t0 i=x:=⟨_,rfl⟩
     obtain ⟨y,hy⟩:∃y,v0 i=y:=⟨_,rfl⟩
     have c1:=(hc i hlt).1
     have c2:=(hc i hlt).2
     rw [hx] at c1
     rw [hy] at c2
     have HX:Hid (I64 x):=by rw [←hx];exact HT.out i hlt
     have hyl:y<18446744073709551616:=by rw [←hy];exact HF.out i hlt
     have HYL:=qA hyl
     obtain ⟨gx,hgx⟩:∃gx,wr.heap.size=gx:=⟨_,rfl⟩
     obtain ⟨W2,hW2⟩:∃W2,wr.alloc (.cells #[.int .i64 x,.int .u64 (y:Int)] 47)=W2:=⟨_,rfl⟩
     have HW2:Hid (W2.heap[gx]?=some (.cells #[.int .i64 x,.int .u64 (y:Int)] 47 (0,0))∧OP (w.heap.size+1) W1 n t v (.slice q n c) W2):=by
      have hA:Below wr.heap.size wr W2:=by rw [←hW2];exact (Below.refl _ _).alloc (Nat.le_refl _) _
      exact ⟨by rw [←hW2,←hgx];exact heap_alloc_new _ _,hI.out.op.below hA⟩
     have HNB:Hid (∀k,(Value.slice q n c).ownBlock=some k→k<gx):=fun k hk=>by rw [←hgx];exact (hI.out.op.own.lt k hk).2
     have HGX:Hid (g+1≤gx):=by
      show _≤_
      rw [←hgx,←HW1.out.2.2.1]
      have:=hI.out.op.bel.size
      exact this
     have HFN:=qA hI.out.fine
     have HLE:=qA hI.out.le
     clear hx hy hc hyl hI
     have b1:W2.cell? ⟨gx,1,none⟩=some (.int .u64 (y:Int)):=by rw [cell_of_row _ _ _ _ _ _ HW2.out.1];rfl
     have b2:=froz HW2.out.1 1
     have h3i:(i:Int)<300:=by omega
     go_upto_region 9 with fail
     (try rw [hW2])
     (try rw [hgx])
     clear hW2 hgx a1 c1 c2
     go_upto_block 2 with
      (first
       |(go_at_call 21;refine (gS y _ HYL.out).mono ?_;rintro e w3 ⟨rfl,B3⟩;have HW3:Hid (w3.heap[gx]?=some (.cells #[.int .i64 x,.int .u64 (y:Int)] 47 (0,0))∧OP (w.heap.size+1) W1 n t v (.slice q n c) w3):=⟨by rw [B3.block gx (qB HW2.out.1)];exact HW2.out.1,HW2.out.2.below B3⟩;clear B3 HW2 b1 b2)
       |(go_at_call 20;refine (nN (yI y) _ (wD y HYL.out)).mono ?_;rintro e w4 ⟨rfl,B4⟩;have HW4:Hid (w4.heap[gx]?=some (.cells #[.int .i64 x,.int .u64 (y:Int)] 47 (0,0))∧OP (w.heap.size+1) W1 n t v (.slice q n c) w4):=⟨by rw [B4.block gx (qB HW3.out.1)];exact HW3.out.1,HW3.out.2.below B4⟩;clear B4 HW3;have b1:w4.cell? ⟨gx,1,none⟩=some (.int .u64 (y:Int)):=(by rw [cell_of_row _ _ _ _ _ _ HW4.out.1];rfl);have b2:w4.frozen? ⟨gx,1,none⟩=false:=frozen_of_row _ _ _ _ _ HW4.out.1))
     (first
      |(
        generalize hW5:w4.setCell ⟨gx,1,none⟩ (Value.int .u64 ((wid (yI y):Nat):Int))=W5
        have HX5:Hid (W5.heap[gx]?=some (.cells #[.int .i64 x,.int .u64 ((wid (yI y):Nat):Int)] 47 (0,0))∧OP (w.heap.size+1) W1 n t v (.slice q n c) W5):=by
         rw [←hW5]
         exact ⟨heap_setCell_same _ _ _ _ _ _ HW4.out.1,HW4.out.2.other gx 1 _ (fun e=>by have:=HNB.out gx e;omega) (by have:=HGX.out;have:=HG.out;omega)⟩
        have HY:Hid (wid (yI y)<18446744073709551616∧((2:Nat)=2→wid (yI (wid (yI y)))=wid (yI y))):=⟨qKZ _ (wD y HYL.out),fun _=>by rw [qHE y HYL.out]⟩
        clear hW5 HW4 b1 b2
        generalize wid (yI y)=Y at *)
      |(
        obtain ⟨W5,hW5⟩:∃W5,W5=W2:=⟨_,rfl⟩
        obtain ⟨Y,hY⟩:∃Y,Y=y:=⟨_,rfl⟩
        subst hW5 hY
        have HX5:=HW2
        have HY:Hid (Y<18446744073709551616∧((1:Nat)=2→wid (yI Y)=Y)):=⟨HYL.out,fun e=>by cases e⟩
        clear HW2 b1 b2))
     clear HYL
     have HX6:Hid (∀m,(W5.drewN m).heap[gx]?=some (.cells #[.int .i64 x,.int .u64 (Y:Int)] 47 (0,0))∧OP (w.heap.size+1) W1 n t v (.slice q n c) (W5.drewN m)):=fun m=>⟨HX5.out.1,HX5.out.2.below (qN (Below.refl _ _) m)⟩
     clear HX5
     go_cut [8] from 39 to 53 (fun t8 wc=>∃j:Nat,t8= .int .i64 (j:Int)∧Hid (j≤n∧(∀s,j≤s→s<n→x<t s)∧(0<j→t (j-1)≤x)∧∃m,wc=W5.drewN m))
     case first=>
      go_wp2_with fail
      go_loopw [8] (fun t8 wq=>∃j:Nat,t8= .int .i64 (j:Int)∧Hid (j≤n∧(∀s,j≤s→s<n→x<t s)∧∃m,wq=W5.drewN m)) (fun t8 _=>(intOf t8).toNat)
      case atStart=>exact ⟨n,rfl,Nat.le_refl _,fun s h1 h2=>by omega,0,rfl⟩
      case round=>
       obtain ⟨j,rfl,hJ⟩:=hrel
       rcases j with _|j
       ·have HJ:Hid (∀m',(0:Nat)≤n∧(∀s,0≤s→s<n→x<t s)∧(0<(0:Nat)→t (0-1)≤x)∧∃m,wr.drewN m'=W5.drewN m):=fun m'=>⟨hJ.out.1,hJ.out.2.1,fun e=>absurd e (Nat.lt_irrefl _),by obtain ⟨m,hm⟩:=hJ.out.2.2;exact ⟨m+m',by rw [hm];first|rfl|rw [World.drewN_drewN]⟩⟩
        clear hJ
        go_wp2_with fail
        go_quiet (fail)
        go_wp2_with fail
        go_meet
        case rel=>exact ⟨0,rfl,HJ.out _⟩
       ·obtain ⟨m,hm⟩:=hJ.out.2.2
        have HXm:=HX6.out m
        rw [←hm] at HXm
        have HM:=qA hm
        clear hm
        obtain ⟨gq,rfl⟩:=HXm.2.form (by have:=hJ.out.1;omega)
        have hjn:j<n:=hJ.out.1
        obtain ⟨z,hz⟩:∃z,t j=z:=⟨_,rfl⟩
        have c1:=(HXm.2.cells j hjn).1
        rw [hz] at c1
        have c2:wr.cell? ⟨gx,0,none⟩=some (.int .i64 x):=by rw [cell_of_row _ _ _ _ _ _ HXm.1];rfl
        have hjl:(j:Int)<(n:Int):=by omega
        have wj:IntKind.i64.wrap (j:Int)=(j:Int):=by rw [IntKind.wrap_i64];omega
        by_cases hgt:x<z
        ·have HJ:Hid (j≤n∧(∀s,j≤s→s<n→x<t s)):=⟨by omega,fun s h1 h2=>by
          by_cases e:s=j
          ·rw [e,hz];exact hgt
          ·exact hJ.out.2.1 s (by omega) h2⟩
         clear hJ hz
         go_wp2_with fail
         go_quiet (simp only [wj])
         go_wp2_with fail
         go_roundw
         case rel=>exact ⟨j,by simp,HJ.out.1,HJ.out.2,m+nq,by rw [HM.out];first|rfl|rw [World.drewN_drewN]⟩
         case measure=>simp [intOf]
        ·have HJ:Hid (j+1≤n∧(∀s,j+1≤s→s<n→x<t s)∧(0<j+1→t (j+1-1)≤x)):=⟨hJ.out.1,hJ.out.2.1,fun _=>by rw [Nat.add_sub_cancel,hz];omega⟩
         clear hJ hz
         go_wp2_with fail
         go_quiet (simp only [wj])
         go_wp2_with fail
         go_meet
         case rel=>exact ⟨j+1,by simp,HJ.out.1,HJ.out.2.1,HJ.out.2.2,m+nq,by rw [HM.out];first|rfl|rw [World.drewN_drewN]⟩
     case rest=>
      obtain ⟨j,rfl,hJ⟩:=hcut
      obtain ⟨m,hm⟩:=hJ.out.2.2.2
      have HXm:=HX6.out m
      rw [←hm] at HXm
      have HM:=qA hm
      clear hm
      have HJ:Hid (j≤n∧(∀s,j≤s→s<n→x<t s)∧(0<j→t (j-1)≤x)):=⟨hJ.out.1,hJ.out.2.1,hJ.out.2.2.1⟩
      clear hJ
      go_upto_region 14 with fail
      go_cut [66] from 54 to 65 (fun t66 wc=>∃bv:Bool,t66= .bool bv∧Hid ((bv=false→0<j→t (j-1)<x)∧∃m,wc=W5.drewN m))
      case first=>
       rcases j with _|j
       ·(try rw [show ((0:Nat):Int)=0 from rfl])
        (try go_wp2_with fail)
        go_quiet (fail)
        go_wp2_with fail
        go_meet
        case rel=>exact ⟨false,by simp,fun _ e=>absurd e (Nat.lt_irrefl _),m+nq,by rw [HM.out];first|rfl|rw [World.drewN_drewN]⟩
       ·obtain ⟨gq,rfl⟩:=HXm.2.form (by have:=HJ.out.1;omega)
        have hjn:j<n:=HJ.out.1
        obtain ⟨z,hz⟩:∃z,t j=z:=⟨_,rfl⟩
        have c1:=(HXm.2.cells j hjn).1
        rw [hz] at c1
        have c2:wc.cell? ⟨gx,0,none⟩=some (.int .i64 x):=by rw [cell_of_row _ _ _ _ _ _ HXm.1];rfl
        have hjl:(j:Int)<(n:Int):=by omega
        have wj:IntKind.i64.wrap (j:Int)=(j:Int):=by rw [IntKind.wrap_i64];omega
        have HZ:Hid (z≤x∧t j=z):=⟨by have:=HJ.out.2.2 (by omega);rw [Nat.add_sub_cancel,hz] at this;exact this,hz⟩
        clear hz
        go_quiet (simp only [wj])
        go_wp2_with fail
        go_meet
        case rel=>exact ⟨z==x,by simp,fun e _=>by
         rw [Nat.add_sub_cancel,HZ.out.2]
         have:=HZ.out.1
         have h2:z≠x:=by simpa using e
         omega,m+nq,by rw [HM.out];first|rfl|rw [World.drewN_drewN]⟩
      case rest=>
       obtain ⟨bv,rfl,hJ2⟩:=hcut
       obtain ⟨m6,rfl⟩:=hJ2.out.2
       have HJ2:=qA hJ2.out.1
       clear hJ2
       obtain ⟨W6,hW6⟩:∃W6,W5.drewN m6=W6:=⟨_,rfl⟩
       have HX7:=qA (HX6.out m6)
       rw [hW6] at HX7⊢
       clear hW6 HX6
       cases bv with
       |true=>
        go_wp2_with fail
        go_roundw
        case rel=>exact ⟨i+1,n,t,v,q,c,by simp,rfl,HX7.out.2,by have:=HLE.out;omega,h3,HFN.out⟩
        case measure=>simp [intOf];omega
       |false=>
        have HSZ:Hid (g+1≤W6.heap.size∧gx<W6.heap.size):=⟨by have:=HGX.out;have:=qB HX7.out.1;omega,qB HX7.out.1⟩
        go_wp2_with (at_builtin;refine wpList_append_own_at _ rfl _ _ _ rfl (w.heap.size+1) 47 i5 (.agg #[.int .i64 0,.int .u64 0]) 2 16 Tryz.underlying22 Hi.out.1 Hi.out.2.1 Hi.out.2.2.1 Hi.out.2.2.2 rfl (by decide) (.slice q n c) n (mJ n t v) rfl ?f0 ⟨W6.heap.size,0,none⟩ 1 1 [.int .i64 0,.int .u64 0] rfl rfl (World.news_of_block (heap_alloc_new W6 _)) ?f1 ?f4 ?f5 ?f7 ?f6)
        case f0=>exact HX7.out.2.own.alloc _
        case f1=>first|exact ⟨rfl,rfl⟩|(intro u hu;rcases List.mem_cons.1 hu with rfl|hu;rfl;rw [List.mem_singleton.1 hu];rfl)
        case f4=>unfold maxLen;omega
        case f5=>omega
        case f7=>have:=HSZ.out;have:=HG.out;simp;omega
        case f6=>
         intro v7 w7 ho7 hg7 _ hat7
         have HO8:Hid (OP (w.heap.size+1) W1 (n+1) (qDL n n t) (qDM n n v) v7 w7):=by
          have hA:Below W6.heap.size W6 (W6.alloc (.cells #[.int .i64 0,.int .u64 0] 47)):=(Below.refl _ _).alloc (Nat.le_refl _) _
          have h8:=(HX7.out.2.below hA).more (m:=1) (t':=fun _=>0) (v':=fun _=>0) ho7 hg7
          refine h8.congr (fun s hs=>?_) (fun s hs=>?_)
          ·unfold qDL
           by_cases e:s<n
           ·rw [if_pos e,if_neg (by omega),if_neg (by omega)]
           ·rw [if_neg e,if_neg (by omega),if_pos (by omega)]
          ·unfold qDM
           by_cases e:s<n
           ·rw [if_pos e,if_neg (by omega),if_neg (by omega)]
           ·rw [if_neg e,if_neg (by omega),if_pos (by omega)]
         have HR8:Hid (w7.heap[gx]?=some (.cells #[.int .i64 x,.int .u64 (Y:Int)] 47 (0,0))):=by
          show _=_
          rw [hg7.block gx (by simp;have:=HSZ.out.2;omega) (fun e=>by have:=HNB.out gx e.symm;omega),heap_alloc_old _ _ HSZ.out.2]
          exact HX7.out.1
         obtain ⟨p7,c7,rfl⟩:=HO8.out.slice
         obtain ⟨g7,rfl⟩:=HO8.out.form (by omega)
         have HNE:Hid (g7≠gx):=fun e=>by
          rcases hat7 with h|h
          ·have:=HNB.out g7 (by rw [←h];rfl);omega
          ·have h2:g7=W6.heap.size+1:=Option.some.inj h
           have:=HSZ.out.2
           omega
         clear ho7 hg7 hat7 HX7
         have hjn:=HJ.out.1
         go_wp2_with fail
         go_loopw [9] (fun t9 wq=>∃k:Nat,t9= .int .i64 (k:Int)∧Hid (j≤k∧k≤n∧OP (w.heap.size+1) W1 (n+1) (qDL n k t) (qDM n k v) (.slice (some ⟨g7,0,none⟩) (n+1) c7) wq∧wq.heap[gx]?=some (.cells #[.int .i64 x,.int .u64 (Y:Int)] 47 (0,0)))) (fun t9 _=>(intOf t9).toNat)
         case atStart=>exact ⟨n,rfl,hjn,Nat.le_refl _,HO8.out,HR8.out⟩
         case round=>
          obtain ⟨k,rfl,hB⟩:=hrel
          by_cases hjk:j<k
          ·obtain ⟨k,rfl⟩:∃k',k=k'+1:=⟨k-1,by omega⟩
           have hkn:k+1≤n:=hB.out.2.1
           have hgo:(j:Int)<(k:Int)+1:=by omega
           have wk:IntKind.i64.wrap (k:Int)=(k:Int):=by rw [IntKind.wrap_i64];omega
           obtain ⟨z,hz⟩:∃z,t k=z:=⟨_,rfl⟩
           obtain ⟨zv,hzv⟩:∃z,v k=z:=⟨_,rfl⟩
           have d1:=hB.out.2.2.1.cells k (by omega)
           rw [show qDL n (k+1) t k=z by unfold qDL;rw [if_neg (by omega),if_neg (by omega),hz],show qDM n (k+1) v k=zv by unfold qDM;rw [if_neg (by omega),if_neg (by omega),hzv]] at d1
           have e1:=hB.out.2.2.1.cells (k+1) (by omega)
           have c1:=d1.1
           have c2:=d1.2
           have c3:=e1.1
           have c4:=e1.2
           have c5:=hB.out.2.2.1.own.frozenAt ((k+1)*2)
           have c6:=hB.out.2.2.1.own.frozenAt ((k+1)*2+1)
           have HN:Hid (OP (w.heap.size+1) W1 (n+1) (qDL n k t) (qDM n k v) (.slice (some ⟨g7,0,none⟩) (n+1) c7) ((wr.setCell ⟨g7,(k+1)*2,none⟩ (.int .i64 z)).setCell ⟨g7,(k+1)*2+1,none⟩ (.int .u64 (zv:Int)))∧((wr.setCell ⟨g7,(k+1)*2,none⟩ (.int .i64 z)).setCell ⟨g7,(k+1)*2+1,none⟩ (.int .u64 (zv:Int))).heap[gx]?=some (.cells #[.int .i64 x,.int .u64 (Y:Int)] 47 (0,0))):=by
            refine ⟨(hB.out.2.2.1.put (k+1) z zv (by omega)).congr (fun s hs=>?_) (fun s hs=>?_),?_⟩
            ·show (if s=k+1 then z else qDL n (k+1) t s)=qDL n k t s
             unfold qDL
             by_cases e:s=k+1
             ·rw [if_pos e,if_pos (by omega),e,Nat.add_sub_cancel,hz]
             ·rw [if_neg e]
              by_cases e2:k+1<s
              ·rw [if_pos e2,if_pos (by omega)]
              ·rw [if_neg e2,if_neg (show ¬k<s by omega)]
            ·show (if s=k+1 then zv else qDM n (k+1) v s)=qDM n k v s
             unfold qDM
             by_cases e:s=k+1
             ·rw [if_pos e,if_pos (by omega),e,Nat.add_sub_cancel,hzv]
             ·rw [if_neg e]
              by_cases e2:k+1<s
              ·rw [if_pos e2,if_pos (by omega)]
              ·rw [if_neg e2,if_neg (show ¬k<s by omega)]
            ·rw [heap_setCell_other _ _ _ _ (fun e=>HNE.out e.symm),heap_setCell_other _ _ _ _ (fun e=>HNE.out e.symm)];exact hB.out.2.2.2
           have HJK:Hid (j≤k∧k≤n):=⟨by omega,by omega⟩
           generalize qDL n (k+1) t (k+1)=za at c3
           generalize qDM n (k+1) v (k+1)=zb at c4
           clear hB d1 e1 hz hzv
           go_wp2_with (simp only [wk])
           go_roundw
           case rel=>exact ⟨k,rfl,HJK.out.1,HJK.out.2,HN.out⟩
           case measure=>simp [intOf]
          ·obtain rfl:k=j:=by have:=hB.out.1;omega
           have e1:=hB.out.2.2.1.cells k (by omega)
           have c3:=e1.1
           have c4:=e1.2
           have c5:=hB.out.2.2.1.own.frozenAt (k*2)
           have c6:=hB.out.2.2.1.own.frozenAt (k*2+1)
           have x0:wr.cell? ⟨gx,0,none⟩=some (.int .i64 x):=by rw [cell_of_row _ _ _ _ _ _ hB.out.2.2.2];rfl
           have x1:wr.cell? ⟨gx,1,none⟩=some (.int .u64 (Y:Int)):=by rw [cell_of_row _ _ _ _ _ _ hB.out.2.2.2];rfl
           have HN:Hid (OP (w.heap.size+1) W1 (n+1) (inT k x t) (inV k Y v) (.slice (some ⟨g7,0,none⟩) (n+1) c7) ((wr.setCell ⟨g7,k*2,none⟩ (.int .i64 x)).setCell ⟨g7,k*2+1,none⟩ (.int .u64 (Y:Int)))):=by
            refine (hB.out.2.2.1.put k x Y (by omega)).congr (fun s hs=>?_) (fun s hs=>?_)
            ·show (if s=k then x else qDL n k t s)=inT k x t s
             unfold qDL inT
             by_cases e:s=k
             ·rw [if_pos e,if_neg (by omega),if_pos e]
             ·rw [if_neg e]
              by_cases e2:k<s
              ·rw [if_pos e2,if_neg (by omega),if_neg e]
              ·rw [if_neg e2,if_neg (show ¬s=n by omega),if_pos (by omega)]
            ·show (if s=k then Y else qDM n k v s)=inV k Y v s
             unfold qDM inV
             by_cases e:s=k
             ·rw [if_pos e,if_neg (by omega),if_pos e]
             ·rw [if_neg e]
              by_cases e2:k<s
              ·rw [if_pos e2,if_neg (by omega),if_neg e]
              ·rw [if_neg e2,if_neg (show ¬s=n by omega),if_pos (by omega)]
           have HFI:Hid (qKA _ (n+1) (inT k x t) (inV k Y v)):=HFN.out.put k x Y hjn HJ.out.2.1 (HJ2.out trivial) HX.out HY.out.1 (fun e=>HY.out.2 (by first|trivial|exact e))
           generalize qDL n k t k=za at c3
           generalize qDM n k v k=zb at c4
           clear hB e1
           go_wp2_with fail
           go_roundw
           case rel=>exact ⟨i+1,n+1,_,_,_,_,by simp,rfl,HN.out,by have:=HLE.out;omega,h3,HFI.out⟩
           case measure=>simp [intOf];omega
    ·go_wp2_with fail
     go_ret2
     exact ⟨n,t,v,_,rfl,hn3,hI.out.fine,hI.out.op.own.mono (by omega),HW1.out.2.1.trans (hI.out.op.bel.mono (by omega)),Nat.le_refl _⟩
   ·go_wp2_with fail
    go_ret2
    exact ⟨n,t,v,_,rfl,hn3,hI.out.fine,hI.out.op.own.mono (by omega),HW1.out.2.1.trans (hI.out.op.bel.mono (by omega)),Nat.le_refl _⟩)
end Go.Proofs.YtkpmalfigmimaaaGreatDoor
namespace Go.Proofs.YtkpmalfigmimaaaGreatDoor
end Go.Proofs.YtkpmalfigmimaaaGreatDoor
namespace Go.Proofs.YtkpmalfigmimaaaGreatDoor
open Go.RowKit
open M
end Go.Proofs.YtkpmalfigmimaaaGreatDoor
namespace Go.Proofs.YtkpmalfigmimaaaGreatDoor
open Go.RowKit
open M
end Go.Proofs.YtkpmalfigmimaaaGreatDoor
namespace Go.Proofs.YtkpmalfigmimaaaGreatDoor
open Go.RowKit
open M
structure qAE (kd m:Nat) (t:Nat→Int) (v:Nat→Nat) (co:Nat) (vb:List Nat):Prop where
 good:qEE kd (m+1) t v
 ti:∀i,i<m+1→I64 (t i)
 va:∀i,i<m+1→v i<18446744073709551616
 val:yE kd (m+1) v co vb
 by_:∀n∈vb,n<256
theorem qAE.len {kd m:Nat} {t:Nat→Int} {v:Nat→Nat} {co:Nat} {vb:List Nat} (h:qAE kd m t v co vb):(gZ kd (m+1) t v co vb).length=(packed (tbn t (m+1))).length+vb.length+55∧(packed (tbn t (m+1))).length≤100000∧vb.length≤100000:=by
 have hvl:=xS kd (m+1) v co vb h.va h.val
 have htl:=xR t (m+1)
 have hhi:=h.good.hi
 exact ⟨mQ kd m t v co vb,by omega,by omega⟩
end Go.Proofs.YtkpmalfigmimaaaGreatDoor
namespace Go.Proofs.YtkpmalfigmimaaaGreatDoor
open Go.RowKit
open M
theorem qAE.bound {kd m:Nat} {t:Nat→Int} {v:Nat→Nat} {co:Nat} {vb:List Nat} (h:qAE kd m t v co vb):55≤(gZ kd (m+1) t v co vb).length∧(gZ kd (m+1) t v co vb).length≤1000000:=by
 have:=h.len;omega
theorem pT {w:World} {g:Nat} {bs:List Nat} {ty:TypeId} (h:w.heap[g]?=some (.cells (qM bs).toArray ty (0,0))):qS w g 0 bs:=fun i hi=>by
 rw [Nat.zero_add,cell_of_row _ _ _ _ _ _ h];simp [qM,List.getD,hi]
theorem qD8 {kd m:Nat} {t:Nat→Int} {v:Nat→Nat} {co:Nat} {vb:List Nat} (h:qAE kd m t v co vb) (b n cap:Nat) (w:World) (hn:n=(gZ kd (m+1) t v co vb).length) (hc:qS w b 0 (gZ kd (m+1) t v co vb)) (hcap:n≤cap) (hcap2:cap≤9223372036854775807) (hT:qT w) (hC:nG w):
  Calls Tryz.prog 10 #[.slice (some ⟨b,0,none⟩) n cap] w (rD kd (m+1) t v w):=by
 have hb:=h.bound
 obtain ⟨K,rfl⟩:∃K,cap=K+51:=⟨cap-51,by omega⟩
 exact nY kd m t v co vb b 0 n K w hc hn hcap (by omega) h.good h.ti h.va h.val h.by_ hT hC
theorem qER {kd m:Nat} {t:Nat→Int} {v:Nat→Nat} {co:Nat} {vb:List Nat} (h:qAE kd m t v co vb) (b n cap:Nat) (w:World) (hn:(gZ kd (m+1) t v co vb).length≤n) (hc:qS w b 0 (gZ kd (m+1) t v co vb)) (hcap:n≤cap) (hn2:n≤1000000000) (hC:nG w):
  Calls Tryz.prog 12 #[.slice (some ⟨b,0,none⟩) n cap] w (rE kd m t v (gZ kd (m+1) t v co vb).length w):=by
 have hb:=h.bound
 exact lO kd m t v co vb b 0 n cap w hc (by omega) hcap (by omega) h.good h.ti h.va h.val hC
end Go.Proofs.YtkpmalfigmimaaaGreatDoor
namespace Go.Proofs.YtkpmalfigmimaaaGreatDoor
open Go.RowKit
open M
theorem OB.slice {B:Nat} {w0 wr:World} {bs:List Nat} {v:Value} (h:OB B w0 bs v wr) (h0:0<bs.length):∃g cap,v= .slice (some ⟨g,0,none⟩) bs.length cap∧bs.length≤cap∧cap≤9223372036854775807∧B≤g:=by
 rcases h.own.2 with ⟨_,h2⟩|⟨g,cap,cur,h1,hb,hg,hc,hm,hs,ht⟩
 ·omega
 ·exact ⟨g,cap,h1,hc,by unfold maxLen at hm;omega,hb⟩
theorem OB.cellsAt {B g n cap:Nat} {w0 wr:World} {bs:List Nat} (h:OB B w0 bs (.slice (some ⟨g,0,none⟩) n cap) wr) (hn:n=bs.length):qS wr g 0 bs:=fun i hi=>by
 subst hn
 rw [Nat.zero_add,h.own.cellAt i (by omega)]
 simp [qM,List.getD,hi]
end Go.Proofs.YtkpmalfigmimaaaGreatDoor
namespace Go.Proofs.YtkpmalfigmimaaaGreatDoor
open Go.RowKit
open M
end Go.Proofs.YtkpmalfigmimaaaGreatDoor
namespace Go.Proofs.YtkpmalfigmimaaaGreatDoor
open Go.ChangeShapes Go.WideShapes Go.Deep Go.Joins
open Go.RowKit (Below)
open M
set_option maxRecDepth 100000
theorem qKQ {w:World} {base:Nat} {a:Addr} {cs:List Value} (h:w.cells? base a 1=some cs):∃v,cs=[v]∧w.cell? a=some v:=by
 unfold World.cells? at h
 split at h
 ·have e:List.range 1=[0]:=rfl
  rw [e] at h
  simp only [List.mapM_cons,List.mapM_nil,Option.bind_eq_bind,Option.bind_eq_some_iff,Option.pure_def,Option.some.injEq] at h
  obtain ⟨a0,h0,l0,rfl,rfl⟩:=h
  exact ⟨a0,rfl,by simpa [Addr.add] using h0⟩
 ·cases h
section
variable {H : Type} {enc : TypeId × Value → H} {w : World} {base : Nat} {spare : Nat → Bool} {held : Bool}
theorem qHH {m:Nat} {u:Value} {y:DataW H×List MemPlace} (h:DataW.trod enc Tryz.prog w base spare held m 3 [u]=some y):∃z:Int,u= .int .i64 z∧I64 z:=by
 obtain ⟨z,e0,_,w0⟩:=DataW.trod_int Tryz.underlying3 h
 simp only [List.cons.injEq,and_true] at e0
 exact ⟨z,e0,bounds_i64 w0⟩
theorem qC7:Tryz.prog.cellsOf 47=2:=by kernel_rfl
theorem qHL {n:Nat} {cs:List Value} {y:DataW H×List MemPlace} (h:DataW.trod enc Tryz.prog w base spare held n 47 cs=some y):
  ∃(A:Int) (B:Nat),cs=[.int .i64 A,.int .u64 (B:Int)]∧I64 A∧B<18446744073709551616:=by
 obtain ⟨y0,y1,k,hx,hl,h0,h1⟩:=trod_struct2 Tryz.underlying47 h
 have cu:Tryz.prog.cellsOf 36=1:=by kernel_rfl
 have ci:Tryz.prog.cellsOf 2=1:=by kernel_rfl
 rw [qC7] at hl
 obtain ⟨v0,v1,rfl⟩:∃a b,cs=[a,b]:=by
  match cs,hl with
  |[a,b],_=>exact ⟨a,b,rfl⟩
 simp only [cu,ci,List.drop_zero,List.drop_succ_cons,List.take_succ_cons,List.take_zero] at h0 h1
 obtain ⟨d0,e0,_,w0⟩:=DataW.trod_int Tryz.underlying2 h0
 obtain ⟨d1,e1,_,w1⟩:=DataW.trod_int Tryz.underlying36 h1
 have b1:=bounds_u64 w1
 simp only [List.cons.injEq,and_true] at e0 e1
 subst e0 e1
 refine ⟨d0,d1.toNat,?_,bounds_i64 w0,by omega⟩
 rw [Int.toNat_of_nonneg b1.1]
theorem qHI {fuel:Nat} {v:Value} {y:DataW H×List MemPlace} (h:DataW.trod enc Tryz.prog w base spare held fuel 22 [v]=some y):
  ∃a len cap t0 v0,v= .slice a len cap∧len≤9223372036854775807∧uB w a len t0 v0∧(∀i,i<len→I64 (t0 i))∧∀i,i<len→v0 i<18446744073709551616:=by
 rcases open_slice Tryz.underlying22 h with ⟨h0,_⟩|⟨ad,len,cap,mm,n',D,Pl,hcs,_,hlc,hcm,hmm,_,hx⟩
 ·simp only [List.cons.injEq,and_true] at h0
  exact ⟨none,0,0,fun _=>0,fun _=>0,h0,by omega,fun h=>by omega,fun i hi=>by omega,fun i hi=>by omega⟩
 ·simp only [List.cons.injEq,and_true] at hcs
  unfold maxLen at hcm
  by_cases h0:0<len
  ·have hlm:len≤mm:=by rw [hmm];split<;>omega
   have one:∀i,i<len→∃AB:Int×Nat,(w.cell? ((ad.add (i*2)).add 0)=some (.int .i64 AB.1)∧w.cell? ((ad.add (i*2)).add 1)=some (.int .u64 (AB.2:Int)))∧I64 AB.1∧AB.2<18446744073709551616:=by
    intro i hi
    obtain ⟨cs',hc,ht⟩:=hx i (by omega)
    obtain ⟨A,B,rfl,hb⟩:=qHL ht
    rw [qC7] at hc
    refine ⟨(A,B),?_,hb⟩
    unfold World.cells? at hc
    split at hc
    ·rw [show List.range 2=[0,1] from rfl] at hc
     simp only [List.mapM_cons,List.mapM_nil,Option.bind_eq_bind,Option.bind_eq_some_iff,Option.pure_def,Option.some.injEq,List.cons.injEq,exists_eq_left'] at hc
     obtain ⟨a0,h0,l0,⟨a1,h1,l1,hl1,rfl⟩,e0,hr⟩:=hc
     simp only [List.cons.injEq] at hr
     obtain ⟨e1,_⟩:=hr
     subst e0 e1
     exact ⟨h0,h1⟩
    ·cases hc
   obtain ⟨b,off,spot⟩:=ad
   obtain ⟨_,⟨h00,_⟩,_⟩:=one 0 h0
   have hspot:spot=none:=by simpa [Addr.add] using World.cell?_spot h00
   subst hspot
   obtain ⟨f,hf⟩:=choose_lt one
   refine ⟨_,len,cap,fun i=>(f i).1,fun i=>(f i).2,hcs,by omega,fun _=>⟨b,off,rfl,fun j hj=>?_⟩,fun i hi=>(hf i hi).2.1,fun i hi=>(hf i hi).2.2⟩
   obtain ⟨⟨k0,k1⟩,_⟩:=hf j hj
   simp only [Addr.add_mid,Nat.add_zero] at k0 k1
   exact ⟨k0,k1⟩
  ·exact ⟨some ad,len,cap,fun _=>0,fun _=>0,hcs,by omega,fun h=>absurd h h0,fun i hi=>by omega,fun i hi=>by omega⟩
theorem qFP {r:Reach} {b0:Nat} {v:Value} {d:DataW H} {p:List MemPlace} (hv:Value.okWide Tryz.prog w r b0 24 v) (h:DataW.Trod enc Tryz.prog w base spare held 24 v d p):
  ∃K q n cap t0 v0,v= .agg #[.int .i64 K,.slice q n cap]∧n≤9223372036854775807∧uB w q n t0 v0∧(∀i,i<n→I64 (t0 i))∧∀i,i<n→v0 i<18446744073709551616:=by
 obtain ⟨v0,v1,y0,y1,n,rfl,_,_,h0,h1⟩:=open_agg2 Tryz.underlying24 (by kernel_rfl) (by kernel_rfl) hv h
 obtain ⟨K,rfl,_⟩:=qHH h0
 obtain ⟨a,len,cap,t0,v0,rfl,h2,h3,h4,h5⟩:=qHI h1
 exact ⟨K,a,len,cap,t0,v0,rfl,h2,h3,h4,h5⟩
end
end Go.Proofs.YtkpmalfigmimaaaGreatDoor
