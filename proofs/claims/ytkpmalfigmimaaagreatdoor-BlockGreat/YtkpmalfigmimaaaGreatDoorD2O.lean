import Derived.Test.YtkpmalfigmimaaaGreatDoorD2F
import Derived.Test.YtkpmalfigmimaaaGreatDoorD2I
import Derived.Test.YtkpmalfigmimaaaGreatDoorD2K
import Derived.Test.YtkpmalfigmimaaaGreatDoorT1S
import Derived.Deep.AppendLies
import Derived.OwnWalk
import Derived.Laws.AppendOwnNone
import Derived.Test.YtkpmalfigmimaaaGreatDoorFF
set_option linter.unusedVariables false
set_option linter.unusedSimpArgs false
set_option maxRecDepth 100000
set_option maxHeartbeats 8000000
namespace Go.Proofs.YtkpmalfigmimaaaGreatDoor
open Go.RowKit
open M
theorem qCI (x:Int) (h:I64 x):IntKind.i64.wrap (u64 x:Int)=x:=by
 obtain ⟨h1,h2⟩:=h
 rw [IntKind.wrap_i64];unfold u64;omega
theorem qDD (t:Nat→Int) (m:Nat) (h:Rises t (m+1)):if m+1=1 then t m=t 0 else t 0<t m:=by
 have key:∀k,k≤m→(k=0∨t 0<t k):=by
  intro k
  induction k with
  |zero=>intro _;exact .inl rfl
  |succ k ih=>
   intro hk
   have:=h k (by omega)
   rcases ih (by omega) with rfl|h2
   ·exact .inr this
   ·exact .inr (by omega)
 split
 ·rename_i h1
  obtain rfl:m=0:=by omega
  rfl
 ·rcases key m (Nat.le_refl _) with h0|h0
  ·omega
  ·exact h0
theorem mQ (kd m:Nat) (t:Nat→Int) (v:Nat→Nat) (co:Nat) (vb:List Nat):(mK kd (m+1) t v co vb).length=(packed (tbn t (m+1))).length+vb.length+55:=by
 unfold mK qM
 simp only [List.length_append,lE]
 have:∀x,(qA0 x).length=4:=fun x=>rfl
 rw [this,this];omega
theorem cL (kd:Nat) (m:Nat) (t:Nat→Int) (v:Nat→Nat) (co:Nat) (vb:List Nat) (b o n cap:Nat) (w:World) (hc:qU w b o (mK kd (m+1) t v co vb)) (hn:51≤n) (hcap:n≤cap) (hn2:n≤1000000000000) (hG:sJ kd (m+1) t v) (ht:∀i,i<m+1→I64 (t i)) (hf:∀i,i<m+1→v i<18446744073709551616) (hval:xY kd (m+1) v co vb) (hC:nO w):
  Calls Tryz.prog 26 #[.slice (some ⟨b,o,none⟩) n cap] w (qEE (hdA kd (m+1) (vM v (m+1)) (t 0) (t m) (leV v (m+1)) (grV v (m+1)) (((packed (tbn t (m+1))).length:Int)+(vb.length:Int)+55) co (packed (tbn t (m+1))).length vb.length) 0 w):=by
 have hvl:=xL kd (m+1) v co vb hf hval
 have htl:=xP t (m+1)
 have hhi:=hG.hi
 have h1:qU w b o (qM (packed (hdB kd co (m+1) (vM v (m+1)) (u64 (t 0)) (u64 (t m)) (leV v (m+1)) (grV v (m+1)) (packed (tbn t (m+1))).length vb.length))):=by
  have:=qU.left hc
  unfold qCY at this
  rw [Nat.add_sub_cancel] at this
  exact this
 exact qAX kd co (m+1) (vM v (m+1)) (u64 (t 0)) (u64 (t m)) (leV v (m+1)) (grV v (m+1)) (packed (tbn t (m+1))).length vb.length (t 0) (t m) b o n cap w h1 hn hcap hn2
  ⟨by rcases hG.kd with h|h<;>omega,hvl.2.1,hvl.2.2,hG.lo,hG.hi,rG v _,qDD t m hG.up⟩ (u64_lt _) (u64_lt _) (qHU _ _) (qHT _ _ hf) (by omega) (by omega) (qCI _ (ht 0 (by omega))) (qCI _ (ht m (by omega))) hC
def sB (kd m:Nat) (t:Nat→Int) (v:Nat→Nat) (N:Nat) (w:World) (e:Ending) (w':World):Prop:=e= .returned (.tuple #[.agg (bhA kd (m+1) (vM v (m+1)) (t 0) (t m) (leV v (m+1)) (grV v (m+1)) (N:Int)),.int .i64 0])∧Below w.heap.size w w'
theorem fH (kd:Nat) (m:Nat) (t:Nat→Int) (v:Nat→Nat) (co:Nat) (vb:List Nat) (b o n cap:Nat) (w:World) (hc:qU w b o (mK kd (m+1) t v co vb)) (hn:51≤n) (hcap:n≤cap) (hn2:n≤1000000000000) (hG:sJ kd (m+1) t v) (ht:∀i,i<m+1→I64 (t i)) (hf:∀i,i<m+1→v i<18446744073709551616) (hval:xY kd (m+1) v co vb) (hC:nO w):
  Calls Tryz.prog 12 #[.slice (some ⟨b,o,none⟩) n cap] w (sB kd m t v (mK kd (m+1) t v co vb).length w):=by
 have HH:=qA (fun (w1:World) (hB:Below w.heap.size w w1)=>cL kd m t v co vb b o n cap w1 (hc.below hB) hn hcap hn2 hG ht hf hval (hC.below hB))
 have HN:=qA (mQ kd m t v co vb)
 clear hc hn hcap hn2 hG ht hf hval hC
 unfold sB
 rw [HN.out]
 obtain ⟨fi,hfi⟩:∃x,t 0=x:=⟨_,rfl⟩
 obtain ⟨la,hla⟩:∃x,t m=x:=⟨_,rfl⟩
 obtain ⟨na,hna⟩:∃x,vM v (m+1)=x:=⟨_,rfl⟩
 obtain ⟨le,hle⟩:∃x,leV v (m+1)=x:=⟨_,rfl⟩
 obtain ⟨gr,hgr⟩:∃x,grV v (m+1)=x:=⟨_,rfl⟩
 rw [hfi,hla,hna,hle,hgr] at HH⊢
 obtain ⟨T,hT⟩:∃T,(packed (tbn t (m+1))).length=T:=⟨_,rfl⟩
 obtain ⟨V,hV⟩:∃V,vb.length=V:=⟨_,rfl⟩
 rw [hT,hV] at HH⊢
 clear hfi hla hna hle hgr hT hV HN
 unfold hdA at HH
 obtain ⟨g,hg⟩:∃g,w.heap.size=g:=⟨_,rfl⟩
 obtain ⟨W1,hW1⟩:∃W1,w.alloc (.cells #[.int .i64 0,.int .i64 0,.int .i64 0,.int .i64 0,.int .i64 0,.int .u64 0,.int .u64 0,.int .i64 0] 38)=W1:=⟨_,rfl⟩
 have HW1:Hid (W1.heap[g]?=some (.cells #[.int .i64 0,.int .i64 0,.int .i64 0,.int .i64 0,.int .i64 0,.int .u64 0,.int .u64 0,.int .i64 0] 38 (0,0))∧Below w.heap.size w W1):=by rw [←hW1,←hg];exact ⟨heap_alloc_new _ _,(Below.refl _ _).alloc (Nat.le_refl _) _⟩
 have HG:=qA hg
 go_enter Tryz.func12,Tryz.ntmps12
 go_wp2_with fail
 (try rw [hW1])
 (try rw [hg])
 clear hW1 hg
 refine (HH.out W1 HW1.out.2).mono ?_
 rintro e w2 ⟨rfl,B2⟩
 have HW2:Hid (w2.heap[g]?=some (.cells #[.int .i64 0,.int .i64 0,.int .i64 0,.int .i64 0,.int .i64 0,.int .u64 0,.int .u64 0,.int .i64 0] 38 (0,0))∧Below w.heap.size w w2):=⟨by rw [B2.block g (qB HW1.out.1)];exact HW1.out.1,HW1.out.2.trans (B2.mono HW1.out.2.size)⟩
 clear B2 HH HW1
 obtain ⟨r,hr⟩:∃r,w2.heap.size=r:=⟨_,rfl⟩
 obtain ⟨W3,hW3⟩:∃W3,w2.alloc (.cells #[.int .i64 (kd:Int),.int .i64 ((m:Int)+1),.int .i64 (na:Int),.int .i64 fi,.int .i64 la,.int .u64 (le:Int),.int .u64 (gr:Int),.int .i64 ((T:Int)+(V:Int)+55),.int .i64 (co:Int),.int .i64 (T:Int),.int .i64 (V:Int)] 60)=W3:=⟨_,rfl⟩
 have HW3:Hid (W3.heap[r]?=some (.cells #[.int .i64 (kd:Int),.int .i64 ((m:Int)+1),.int .i64 (na:Int),.int .i64 fi,.int .i64 la,.int .u64 (le:Int),.int .u64 (gr:Int),.int .i64 ((T:Int)+(V:Int)+55),.int .i64 (co:Int),.int .i64 (T:Int),.int .i64 (V:Int)] 60 (0,0))∧W3.heap[g]?=some (.cells #[.int .i64 0,.int .i64 0,.int .i64 0,.int .i64 0,.int .i64 0,.int .u64 0,.int .u64 0,.int .i64 0] 38 (0,0))∧Below w.heap.size w W3):=by
  have hA:Below w2.heap.size w2 W3:=by rw [←hW3];exact (Below.refl _ _).alloc (Nat.le_refl _) _
  exact ⟨by rw [←hW3,←hr];exact heap_alloc_new _ _,by rw [hA.block g (qB HW2.out.1)];exact HW2.out.1,HW2.out.2.trans (hA.mono HW2.out.2.size)⟩
 go_upto_region 2 with fail
 (try rw [hW3])
 (try rw [hr])
 clear hW3 hr HW2
 have o0:W3.cell? ⟨r,0,none⟩=some (.int .i64 (kd:Int)):=by rw [cell_of_row _ _ _ _ _ _ HW3.out.1];rfl
 have o1:W3.cell? ⟨r,1,none⟩=some (.int .i64 ((m:Int)+1)):=by rw [cell_of_row _ _ _ _ _ _ HW3.out.1];rfl
 have o2:W3.cell? ⟨r,2,none⟩=some (.int .i64 (na:Int)):=by rw [cell_of_row _ _ _ _ _ _ HW3.out.1];rfl
 have o3:W3.cell? ⟨r,3,none⟩=some (.int .i64 fi):=by rw [cell_of_row _ _ _ _ _ _ HW3.out.1];rfl
 have o4:W3.cell? ⟨r,4,none⟩=some (.int .i64 la):=by rw [cell_of_row _ _ _ _ _ _ HW3.out.1];rfl
 have o5:W3.cell? ⟨r,5,none⟩=some (.int .u64 (le:Int)):=by rw [cell_of_row _ _ _ _ _ _ HW3.out.1];rfl
 have o6:W3.cell? ⟨r,6,none⟩=some (.int .u64 (gr:Int)):=by rw [cell_of_row _ _ _ _ _ _ HW3.out.1];rfl
 have o7:W3.cell? ⟨r,7,none⟩=some (.int .i64 ((T:Int)+(V:Int)+55)):=by rw [cell_of_row _ _ _ _ _ _ HW3.out.1];rfl
 have z0:W3.cell? ⟨g,0,none⟩=some (.int .i64 0):=by rw [cell_of_row _ _ _ _ _ _ HW3.out.2.1];rfl
 have y0:W3.frozen? ⟨g,0,none⟩=false:=frozen_of_row _ _ _ _ _ HW3.out.2.1
 have z1:W3.cell? ⟨g,1,none⟩=some (.int .i64 0):=by rw [cell_of_row _ _ _ _ _ _ HW3.out.2.1];rfl
 have y1:W3.frozen? ⟨g,1,none⟩=false:=frozen_of_row _ _ _ _ _ HW3.out.2.1
 have z2:W3.cell? ⟨g,2,none⟩=some (.int .i64 0):=by rw [cell_of_row _ _ _ _ _ _ HW3.out.2.1];rfl
 have y2:W3.frozen? ⟨g,2,none⟩=false:=frozen_of_row _ _ _ _ _ HW3.out.2.1
 have z3:W3.cell? ⟨g,3,none⟩=some (.int .i64 0):=by rw [cell_of_row _ _ _ _ _ _ HW3.out.2.1];rfl
 have y3:W3.frozen? ⟨g,3,none⟩=false:=frozen_of_row _ _ _ _ _ HW3.out.2.1
 have z4:W3.cell? ⟨g,4,none⟩=some (.int .i64 0):=by rw [cell_of_row _ _ _ _ _ _ HW3.out.2.1];rfl
 have y4:W3.frozen? ⟨g,4,none⟩=false:=frozen_of_row _ _ _ _ _ HW3.out.2.1
 have z5:W3.cell? ⟨g,5,none⟩=some (.int .u64 0):=by rw [cell_of_row _ _ _ _ _ _ HW3.out.2.1];rfl
 have y5:W3.frozen? ⟨g,5,none⟩=false:=frozen_of_row _ _ _ _ _ HW3.out.2.1
 have z6:W3.cell? ⟨g,6,none⟩=some (.int .u64 0):=by rw [cell_of_row _ _ _ _ _ _ HW3.out.2.1];rfl
 have y6:W3.frozen? ⟨g,6,none⟩=false:=frozen_of_row _ _ _ _ _ HW3.out.2.1
 have z7:W3.cell? ⟨g,7,none⟩=some (.int .i64 0):=by rw [cell_of_row _ _ _ _ _ _ HW3.out.2.1];rfl
 have y7:W3.frozen? ⟨g,7,none⟩=false:=frozen_of_row _ _ _ _ _ HW3.out.2.1
 have HFR:Hid (((((((((W3.setCell ⟨g,0,none⟩ (.int .i64 (kd:Int))).setCell ⟨g,1,none⟩ (.int .i64 ((m:Int)+1))).setCell ⟨g,2,none⟩ (.int .i64 (na:Int))).setCell ⟨g,3,none⟩ (.int .i64 fi)).setCell ⟨g,4,none⟩ (.int .i64 la)).setCell ⟨g,5,none⟩ (.int .u64 (le:Int))).setCell ⟨g,6,none⟩ (.int .u64 (gr:Int))).setCell ⟨g,7,none⟩ (.int .i64 ((T:Int)+(V:Int)+55))).heap[g]?=some (.cells #[.int .i64 (kd:Int),.int .i64 ((m:Int)+1),.int .i64 (na:Int),.int .i64 fi,.int .i64 la,.int .u64 (le:Int),.int .u64 (gr:Int),.int .i64 ((T:Int)+(V:Int)+55)] 38 (0,0))∧Below w.heap.size w ((((((((W3.setCell ⟨g,0,none⟩ (.int .i64 (kd:Int))).setCell ⟨g,1,none⟩ (.int .i64 ((m:Int)+1))).setCell ⟨g,2,none⟩ (.int .i64 (na:Int))).setCell ⟨g,3,none⟩ (.int .i64 fi)).setCell ⟨g,4,none⟩ (.int .i64 la)).setCell ⟨g,5,none⟩ (.int .u64 (le:Int))).setCell ⟨g,6,none⟩ (.int .u64 (gr:Int))).setCell ⟨g,7,none⟩ (.int .i64 ((T:Int)+(V:Int)+55)))):=⟨qBY _ _ _ _ _ _ _ _ _ _ _ _ _ _ _ _ _ _ _ HW3.out.2.1,dO HW3.out.2.2 _ _ _ _ _ _ _ _ _ (Nat.le_of_eq HG.out)⟩
 clear HW3
 go_wp2_with fail
 generalize ((((((((W3.setCell ⟨g,0,none⟩ (.int .i64 (kd:Int))).setCell ⟨g,1,none⟩ (.int .i64 ((m:Int)+1))).setCell ⟨g,2,none⟩ (.int .i64 (na:Int))).setCell ⟨g,3,none⟩ (.int .i64 fi)).setCell ⟨g,4,none⟩ (.int .i64 la)).setCell ⟨g,5,none⟩ (.int .u64 (le:Int))).setCell ⟨g,6,none⟩ (.int .u64 (gr:Int))).setCell ⟨g,7,none⟩ (.int .i64 ((T:Int)+(V:Int)+55)))=WF at*
 have u0:WF.cell? ⟨g,0,none⟩=some (.int .i64 (kd:Int)):=by rw [cell_of_row _ _ _ _ _ _ HFR.out.1];rfl
 have u1:WF.cell? ⟨g,1,none⟩=some (.int .i64 ((m:Int)+1)):=by rw [cell_of_row _ _ _ _ _ _ HFR.out.1];rfl
 have u2:WF.cell? ⟨g,2,none⟩=some (.int .i64 (na:Int)):=by rw [cell_of_row _ _ _ _ _ _ HFR.out.1];rfl
 have u3:WF.cell? ⟨g,3,none⟩=some (.int .i64 fi):=by rw [cell_of_row _ _ _ _ _ _ HFR.out.1];rfl
 have u4:WF.cell? ⟨g,4,none⟩=some (.int .i64 la):=by rw [cell_of_row _ _ _ _ _ _ HFR.out.1];rfl
 have u5:WF.cell? ⟨g,5,none⟩=some (.int .u64 (le:Int)):=by rw [cell_of_row _ _ _ _ _ _ HFR.out.1];rfl
 have u6:WF.cell? ⟨g,6,none⟩=some (.int .u64 (gr:Int)):=by rw [cell_of_row _ _ _ _ _ _ HFR.out.1];rfl
 have u7:WF.cell? ⟨g,7,none⟩=some (.int .i64 ((T:Int)+(V:Int)+55)):=by rw [cell_of_row _ _ _ _ _ _ HFR.out.1];rfl
 exact bodyPost_ret (v:= .tuple #[.agg (bhA kd (m+1) na fi la le gr (((T+V+55:Nat)):Int)),.int .i64 0]) (by simp [results,Tryz.results12,go_sem,bhA,u0,u1,u2,u3,u4,u5,u6,u7]) rfl ⟨rfl,HFR.out.2⟩
def rT (kd n:Nat) (t:Nat→Int) (v:Nat→Nat) (w:World) (e:Ending) (w':World):Prop:=∃g,e= .returned (.tuple #[.int .i64 (kd:Int),.slice (some ⟨g,0,none⟩) n n,.int .i64 0])∧yL w' (some ⟨g,0,none⟩) n t v∧Below w.heap.size w w'
theorem nD (kd:Nat) (m:Nat) (t:Nat→Int) (v:Nat→Nat) (co:Nat) (vb:List Nat) (b o n K:Nat) (w:World) (hc:qU w b o (mK kd (m+1) t v co vb)) (hn:n=(mK kd (m+1) t v co vb).length) (hcap:n≤K+51) (hK2:K≤9223372036854775756) (hG:sJ kd (m+1) t v) (ht:∀i,i<m+1→I64 (t i)) (hf:∀i,i<m+1→v i<18446744073709551616) (hval:xY kd (m+1) v co vb) (hvb:∀n∈vb,n<256) (hT:qQ w) (hC:nO w):
  Calls Tryz.prog 10 #[.slice (some ⟨b,o,none⟩) n (K+51)] w (rT kd (m+1) t v w):=by
 have hvl:=xL kd (m+1) v co vb hf hval
 have htl:=xP t (m+1)
 have hhi:=hG.hi
 rw [mQ] at hn
 have HH:=qA (cL kd m t v co vb b o n (K+51) w hc (by omega) hcap (by omega) hG ht hf hval hC)
 have hrest:qU w b (o+51) (qM (packed (tbn t (m+1))++vb)):=by
  have:=qU.right hc
  have e:(qM (qCY kd (m+1) t v co (packed (tbn t (m+1))).length vb.length)).length=51:=by unfold qM;rw [List.length_append,lE];rfl
  rw [e] at this;exact this
 obtain ⟨tb,htb⟩:∃tb,packed (tbn t (m+1))=tb:=⟨_,rfl⟩
 have htb2:∀n∈tb,n<256:=by rw [←htb];exact zV _
 rw [htb] at hrest hn htl
 obtain ⟨fi,hfi⟩:∃x,t 0=x:=⟨_,rfl⟩
 obtain ⟨la,hla⟩:∃x,t m=x:=⟨_,rfl⟩
 obtain ⟨na,hna⟩:∃x,vM v (m+1)=x:=⟨_,rfl⟩
 obtain ⟨le,hle⟩:∃x,leV v (m+1)=x:=⟨_,rfl⟩
 obtain ⟨gr,hgr⟩:∃x,grV v (m+1)=x:=⟨_,rfl⟩
 obtain ⟨T,hTT⟩:∃T,tb.length=T:=⟨_,rfl⟩
 obtain ⟨V,hVV⟩:∃V,vb.length=V:=⟨_,rfl⟩
 rw [htb,hfi,hla,hna,hle,hgr,hTT,hVV] at HH
 rw [hTT,hVV] at hn
 subst hn
 have HA:=qA (fun (w1:World) (hB:Below w.heap.size w w1)=>bX kd co (m+1) na le gr T V fi la b o K tb vb w1 (hrest.below hB) hTT hVV htb2 hvb (by omega) (by omega) (by omega) hK2 (hC.below hB))
 have HP:=qA (fun (w1:World) (hB:Below w.heap.size w w1)=>qAI kd co m na le gr T V K (K-T) (some ⟨b,o+51,none⟩) (some ⟨b,o+51+T,none⟩) fi la t v tb vb w1 hG ht hf hval htb hTT.symm hVV.symm hna.symm hfi.symm hla.symm hle.symm hgr.symm
  (by have:=(qU.left (qU.left (hrest.below hB))).by_ K;rw [hTT] at this;exact this)
  (by have:=(qU.right (qU.left (hrest.below hB))).by_ (K-T);rw [hTT,hVV] at this;exact this) hvb (hT.below hB))
 clear hc hG ht hf hval hvb hT hC hvl htl hrest htb htb2 hfi hla hna hle hgr hTT hVV
 unfold hdA at HH
 unfold ptA at HA
 rw [show (((m+1:Nat)):Int)=(m:Int)+1 from by simp] at HH HA
 go_enter Tryz.func10,Tryz.ntmps10
 go_wp2_with fail
 refine HH.out.mono ?_
 rintro e w2 ⟨rfl,B2⟩
 obtain ⟨r,hr⟩:∃r,w2.heap.size=r:=⟨_,rfl⟩
 obtain ⟨W3,hW3⟩:∃W3,w2.alloc (.cells #[.int .i64 (kd:Int),.int .i64 ((m:Int)+1),.int .i64 (na:Int),.int .i64 fi,.int .i64 la,.int .u64 (le:Int),.int .u64 (gr:Int),.int .i64 ((T:Int)+(V:Int)+55),.int .i64 (co:Int),.int .i64 (T:Int),.int .i64 (V:Int)] 60)=W3:=⟨_,rfl⟩
 have HW3:Hid (W3.heap[r]?=some (.cells #[.int .i64 (kd:Int),.int .i64 ((m:Int)+1),.int .i64 (na:Int),.int .i64 fi,.int .i64 la,.int .u64 (le:Int),.int .u64 (gr:Int),.int .i64 ((T:Int)+(V:Int)+55),.int .i64 (co:Int),.int .i64 (T:Int),.int .i64 (V:Int)] 60 (0,0))∧Below w.heap.size w W3):=by
  have hA:Below w2.heap.size w2 W3:=by rw [←hW3];exact (Below.refl _ _).alloc (Nat.le_refl _) _
  exact ⟨by rw [←hW3,←hr];exact heap_alloc_new _ _,B2.trans (hA.mono B2.size)⟩
 clear B2 HH
 have o0:W3.cell? ⟨r,0,none⟩=some (.int .i64 (kd:Int)):=by rw [cell_of_row _ _ _ _ _ _ HW3.out.1];rfl
 have o1:W3.cell? ⟨r,1,none⟩=some (.int .i64 ((m:Int)+1)):=by rw [cell_of_row _ _ _ _ _ _ HW3.out.1];rfl
 have o2:W3.cell? ⟨r,2,none⟩=some (.int .i64 (na:Int)):=by rw [cell_of_row _ _ _ _ _ _ HW3.out.1];rfl
 have o3:W3.cell? ⟨r,3,none⟩=some (.int .i64 fi):=by rw [cell_of_row _ _ _ _ _ _ HW3.out.1];rfl
 have o4:W3.cell? ⟨r,4,none⟩=some (.int .i64 la):=by rw [cell_of_row _ _ _ _ _ _ HW3.out.1];rfl
 have o5:W3.cell? ⟨r,5,none⟩=some (.int .u64 (le:Int)):=by rw [cell_of_row _ _ _ _ _ _ HW3.out.1];rfl
 have o6:W3.cell? ⟨r,6,none⟩=some (.int .u64 (gr:Int)):=by rw [cell_of_row _ _ _ _ _ _ HW3.out.1];rfl
 have o7:W3.cell? ⟨r,7,none⟩=some (.int .i64 ((T:Int)+(V:Int)+55)):=by rw [cell_of_row _ _ _ _ _ _ HW3.out.1];rfl
 have o8:W3.cell? ⟨r,8,none⟩=some (.int .i64 (co:Int)):=by rw [cell_of_row _ _ _ _ _ _ HW3.out.1];rfl
 have o9:W3.cell? ⟨r,9,none⟩=some (.int .i64 (T:Int)):=by rw [cell_of_row _ _ _ _ _ _ HW3.out.1];rfl
 have o10:W3.cell? ⟨r,10,none⟩=some (.int .i64 (V:Int)):=by rw [cell_of_row _ _ _ _ _ _ HW3.out.1];rfl
 go_wp2_with fail
 (try rw [hW3])
 (try rw [hr])
 clear hW3 hr
 refine (HA.out W3 HW3.out.2).mono ?_
 rintro e w4 ⟨rfl,B4⟩
 have HW4:Hid (w4.heap[r]?=some (.cells #[.int .i64 (kd:Int),.int .i64 ((m:Int)+1),.int .i64 (na:Int),.int .i64 fi,.int .i64 la,.int .u64 (le:Int),.int .u64 (gr:Int),.int .i64 ((T:Int)+(V:Int)+55),.int .i64 (co:Int),.int .i64 (T:Int),.int .i64 (V:Int)] 60 (0,0))∧Below w.heap.size w w4):=⟨by rw [B4.block r (qB HW3.out.1)];exact HW3.out.1,HW3.out.2.trans (B4.mono HW3.out.2.size)⟩
 clear B4 HW3 HA o0 o1 o2 o3 o4 o5 o6 o7 o8 o9 o10
 obtain ⟨q,hq⟩:∃q,w4.heap.size=q:=⟨_,rfl⟩
 obtain ⟨W5,hW5⟩:∃W5,w4.alloc (.cells #[.int .i64 (kd:Int),.int .i64 ((m:Int)+1),.int .i64 (na:Int),.int .i64 fi,.int .i64 la,.int .u64 (le:Int),.int .u64 (gr:Int),.int .i64 ((T:Int)+(V:Int)+55),.int .i64 (co:Int),.int .i64 (T:Int),.int .i64 (V:Int),.slice (some ⟨b,o+51,none⟩) T K,.slice (some ⟨b,o+51+T,none⟩) V (K-T)] 62)=W5:=⟨_,rfl⟩
 have HW5:Hid (W5.heap[q]?=some (.cells #[.int .i64 (kd:Int),.int .i64 ((m:Int)+1),.int .i64 (na:Int),.int .i64 fi,.int .i64 la,.int .u64 (le:Int),.int .u64 (gr:Int),.int .i64 ((T:Int)+(V:Int)+55),.int .i64 (co:Int),.int .i64 (T:Int),.int .i64 (V:Int),.slice (some ⟨b,o+51,none⟩) T K,.slice (some ⟨b,o+51+T,none⟩) V (K-T)] 62 (0,0))∧W5.heap[r]?=some (.cells #[.int .i64 (kd:Int),.int .i64 ((m:Int)+1),.int .i64 (na:Int),.int .i64 fi,.int .i64 la,.int .u64 (le:Int),.int .u64 (gr:Int),.int .i64 ((T:Int)+(V:Int)+55),.int .i64 (co:Int),.int .i64 (T:Int),.int .i64 (V:Int)] 60 (0,0))∧Below w.heap.size w W5):=by
  have hA:Below w4.heap.size w4 W5:=by rw [←hW5];exact (Below.refl _ _).alloc (Nat.le_refl _) _
  exact ⟨by rw [←hW5,←hq];exact heap_alloc_new _ _,by rw [hA.block r (qB HW4.out.1)];exact HW4.out.1,HW4.out.2.trans (hA.mono HW4.out.2.size)⟩
 have o0:W5.cell? ⟨q,0,none⟩=some (.int .i64 (kd:Int)):=by rw [cell_of_row _ _ _ _ _ _ HW5.out.1];rfl
 have o1:W5.cell? ⟨q,1,none⟩=some (.int .i64 ((m:Int)+1)):=by rw [cell_of_row _ _ _ _ _ _ HW5.out.1];rfl
 have o2:W5.cell? ⟨q,2,none⟩=some (.int .i64 (na:Int)):=by rw [cell_of_row _ _ _ _ _ _ HW5.out.1];rfl
 have o3:W5.cell? ⟨q,3,none⟩=some (.int .i64 fi):=by rw [cell_of_row _ _ _ _ _ _ HW5.out.1];rfl
 have o4:W5.cell? ⟨q,4,none⟩=some (.int .i64 la):=by rw [cell_of_row _ _ _ _ _ _ HW5.out.1];rfl
 have o5:W5.cell? ⟨q,5,none⟩=some (.int .u64 (le:Int)):=by rw [cell_of_row _ _ _ _ _ _ HW5.out.1];rfl
 have o6:W5.cell? ⟨q,6,none⟩=some (.int .u64 (gr:Int)):=by rw [cell_of_row _ _ _ _ _ _ HW5.out.1];rfl
 have o7:W5.cell? ⟨q,7,none⟩=some (.int .i64 ((T:Int)+(V:Int)+55)):=by rw [cell_of_row _ _ _ _ _ _ HW5.out.1];rfl
 have o8:W5.cell? ⟨q,8,none⟩=some (.int .i64 (co:Int)):=by rw [cell_of_row _ _ _ _ _ _ HW5.out.1];rfl
 have o9:W5.cell? ⟨q,9,none⟩=some (.int .i64 (T:Int)):=by rw [cell_of_row _ _ _ _ _ _ HW5.out.1];rfl
 have o10:W5.cell? ⟨q,10,none⟩=some (.int .i64 (V:Int)):=by rw [cell_of_row _ _ _ _ _ _ HW5.out.1];rfl
 have o11:W5.cell? ⟨q,11,none⟩=some (.slice (some ⟨b,o+51,none⟩) T K):=by rw [cell_of_row _ _ _ _ _ _ HW5.out.1];rfl
 have o12:W5.cell? ⟨q,12,none⟩=some (.slice (some ⟨b,o+51+T,none⟩) V (K-T)):=by rw [cell_of_row _ _ _ _ _ _ HW5.out.1];rfl
 go_wp2_with fail
 (try rw [hW5])
 (try rw [hq])
 clear hW5 hq
 refine (HP.out W5 HW5.out.2.2).mono ?_
 rintro e w6 ⟨g,rfl,hrow,B6⟩
 have k0:w6.cell? ⟨r,0,none⟩=some (.int .i64 (kd:Int)):=by
  have k5:W5.cell? ⟨r,0,none⟩=some (.int .i64 (kd:Int)):=by rw [cell_of_row _ _ _ _ _ _ HW5.out.2.1];rfl
  rw [B6.cell (p:=⟨r,0,none⟩) (block_lt_of_cell k5)];exact k5
 have HF:Hid (rT kd (m+1) t v w (.returned (.tuple #[.int .i64 (kd:Int),.slice (some ⟨g,0,none⟩) (m+1) (m+1),.int .i64 0])) w6):=⟨g,rfl,hrow,HW5.out.2.2.trans (B6.mono HW5.out.2.2.size)⟩
 clear hrow B6 HW5 HW4 HP o0 o1 o2 o3 o4 o5 o6 o7 o8 o9 o10 o11 o12
 go_wp2_with fail
 go_ret3
 exact HF.out
end Go.Proofs.YtkpmalfigmimaaaGreatDoor
namespace Go.Proofs.YtkpmalfigmimaaaGreatDoor
open Go.RowKit
open M
theorem wJ (n:Int) (w:World):Calls Tryz.prog 13 #[.int .i64 n] w fun e w'=>e= .returned (.int .i64 n)∧w'=w:=by
 go_enter Tryz.func13,Tryz.ntmps13
 go_wp2
 go_ret
 exact ⟨rfl,rfl⟩
theorem wG (p q:Option Addr) (n cap cap':Nat) (t:Nat→Int) (v:Nat→Nat) (w:World) (h:yL w p n t v) (h':yL w q n t v) (hn:n≤1000000):
  Calls Tryz.prog 14 #[.slice p n cap,.slice q n cap'] w fun e w'=>e= .returned (.bool true)∧∃m,w'=w.drewN m:=by
 have H:=qA h
 have H':=qA h'
 clear h h'
 go_enter Tryz.func14,Tryz.ntmps14
 go_wp2_with fail
 go_loopw [5] (fun i wr=>∃k:Nat,i= .int .i64 (k:Int)∧Hid (k≤n)∧Hid (∃m,wr=w.drewN m)) (fun i _=>n-(intOf i).toNat)
 case atStart=>exact ⟨0,rfl,Nat.zero_le _,0,rfl⟩
 case round=>
  obtain ⟨k,rfl,hk,hm⟩:=hrel
  by_cases hlt:k<n
  ·obtain ⟨b,o,rfl,hc⟩:=H.out (by omega)
   obtain ⟨b',o',rfl,hc'⟩:=H'.out (by omega)
   obtain ⟨x,hx⟩:∃x,t k=x:=⟨_,rfl⟩
   obtain ⟨y,hy⟩:∃y,v k=y:=⟨_,rfl⟩
   have c1:wr.cell? ⟨b,o+k*2,none⟩=some (.int .i64 x):=by obtain ⟨m,rfl⟩:=hm.out;rw [←hx];exact (hc k hlt).1
   have c2:wr.cell? ⟨b,o+k*2+1,none⟩=some (.int .u64 (y:Int)):=by obtain ⟨m,rfl⟩:=hm.out;rw [←hy];exact (hc k hlt).2
   have c3:wr.cell? ⟨b',o'+k*2,none⟩=some (.int .i64 x):=by obtain ⟨m,rfl⟩:=hm.out;rw [←hx];exact (hc' k hlt).1
   have c4:wr.cell? ⟨b',o'+k*2+1,none⟩=some (.int .u64 (y:Int)):=by obtain ⟨m,rfl⟩:=hm.out;rw [←hy];exact (hc' k hlt).2
   clear hx hy hc hc'
   go_wp2_with fail
   go_region
   go_wp2_with fail
   go_roundw
   case rel=>exact ⟨k+1,by simp,hlt,by obtain ⟨m,rfl⟩:=hm.out;exact ⟨m+1,rfl⟩⟩
   case measure=>simp [intOf];omega
  ·go_wp2_with fail
   go_ret
   exact ⟨rfl,hm.out⟩
def wkT (i:Nat):Int:=if i=0 then -5 else 9
def wkV (i:Nat):Nat:=if i=0 then 1 else 18442240474082181121
theorem qKP:Rises wkT (1+1):=fun i hi=>by
 obtain rfl:i=0:=by omega
 decide
theorem qBB:sJ ((1:Nat):Int) (1+1) wkT wkV:=⟨.inl rfl,by omega,by omega,qKP,fun h=>by cases h⟩
theorem qKW (i:Nat) (h:i<1+1):I64 (wkT i):=by
 obtain rfl|rfl:i=0∨i=1:=by omega
 ·unfold I64 wkT;decide
 ·unfold I64 wkT;decide
theorem qKH (i:Nat) (h:i<1+1):wkV i<18446744073709551616:=by
 obtain rfl|rfl:i=0∨i=1:=by omega
 ·decide
 ·decide
theorem qEY:vM wkV 2=1∧leV wkV 2=1∧grV wkV 2=1:=by decide +kernel
theorem qDG (w:World) (hT:qQ w) (hC:nO w):Calls Tryz.prog 7 #[] w fun e w'=>e= .returned (.bool true)∧Below w.heap.size w w':=by
 obtain ⟨g,hg⟩:∃g,w.heap.size=g:=⟨_,rfl⟩
 obtain ⟨W1,hW1⟩:∃W1,w.alloc (.cells #[.int .i64 (-5),.int .u64 1,.int .i64 9,.int .u64 18442240474082181121] 47)=W1:=⟨_,rfl⟩
 have HW1:Hid (yL W1 (some ⟨g,0,none⟩) 2 wkT wkV∧Below w.heap.size w W1∧qQ W1∧nO W1):=by
  have hA:Below w.heap.size w W1:=by rw [←hW1];exact (Below.refl _ _).alloc (Nat.le_refl _) _
  have hn:W1.heap[g]?=some (.cells #[.int .i64 (-5),.int .u64 1,.int .i64 9,.int .u64 18442240474082181121] 47 (0,0)):=by rw [←hW1,←hg];exact heap_alloc_new _ _
  refine ⟨fun _=>⟨g,0,rfl,fun i hi=>?_⟩,hA,hT.below hA,hC.below hA⟩
  obtain rfl|rfl:i=0∨i=1:=by omega
  ·exact ⟨by rw [cell_of_row _ _ _ _ _ _ hn];rfl,by rw [cell_of_row _ _ _ _ _ _ hn];rfl⟩
  ·exact ⟨by rw [cell_of_row _ _ _ _ _ _ hn];rfl,by rw [cell_of_row _ _ _ _ _ _ hn];rfl⟩
 have HE:=qA (nP 1 (some ⟨g,0,none⟩) 1 2 wkT wkV W1 HW1.out.1 qBB qKW qKH HW1.out.2.2.1 HW1.out.2.2.2)
 clear hT hC
 go_enter Tryz.func7,Tryz.ntmps7
 go_wp2_with fail
 (try rw [hW1])
 (try rw [hg])
 clear hW1 hg
 refine HE.out.mono ?_
 rintro e w2 ⟨co,vb,gb,rfl,hrow,hval,hvb,B2⟩
 have HB2:Hid (Below w.heap.size w w2):=HW1.out.2.1.trans (B2.mono HW1.out.2.1.size)
 have HP2:=qA (HW1.out.1.below B2)
 have hT2:=HW1.out.2.2.1.below B2
 have hC2:=HW1.out.2.2.2.below B2
 have hvl:=xL 1 2 wkV co vb qKH hval
 have htl:(packed (tbn wkT (1+1))).length≤18:=xP wkT (1+1)
 have hbl:(mK 1 (1+1) wkT wkV co vb).length=(packed (tbn wkT (1+1))).length+vb.length+55:=mQ 1 1 wkT wkV co vb
 obtain ⟨N,hN⟩:∃N,(mK 1 (1+1) wkT wkV co vb).length=N:=⟨_,rfl⟩
 have hNb:55≤N∧N≤1000:=by rw [←hN,hbl];omega
 have hcells:qU w2 gb 0 (mK 1 (1+1) wkT wkV co vb):=fun i hi=>by
  rw [Nat.zero_add,cell_of_row _ _ _ _ _ _ hrow];simp [qS,List.getD,hi]
 have HD:Hid (∀K,N=K+51→Calls Tryz.prog 10 #[.slice (some ⟨gb,0,none⟩) N N] w2 (rT 1 (1+1) wkT wkV w2)):=fun K hK=>by
  have:=nD 1 1 wkT wkV co vb gb 0 N K w2 hcells hN.symm (by omega) (by omega) qBB qKW qKH hval hvb hT2 hC2
  rw [←hK] at this;exact this
 have HH:=qA (fun (w3:World) (hB:Below w2.heap.size w2 w3)=>fH 1 1 wkT wkV co vb gb 0 N N w3 (hcells.below hB) (by omega) (Nat.le_refl _) (by omega) qBB qKW qKH hval (hC2.below hB))
 rw [hN] at HH⊢
 have HNB:=qA hNb
 clear B2 hT2 hC2 hvl htl hbl hN hNb hcells hrow hval hvb HE HW1
 have hN1:55≤N:=HNB.out.1
 have hN2:N≤1000:=HNB.out.2
 go_wp2_with fail
 refine (HD.out (N-51) (by omega)).mono ?_
 rintro e w3 ⟨gp,rfl,hp,B3⟩
 have HB3:Hid (Below w.heap.size w w3):=HB2.out.trans (B3.mono HB2.out.size)
 have HP3:Hid (yL w3 (some ⟨g,0,none⟩) 2 wkT wkV∧yL w3 (some ⟨gp,0,none⟩) 2 wkT wkV):=⟨HP2.out.below B3,hp⟩
 have HH3:=qA (HH.out w3 B3)
 clear hp B3 HD HH HP2
 go_wp2_with fail
 refine HH3.out.mono ?_
 rintro e w4 ⟨rfl,B4⟩
 have HB4:Hid (Below w.heap.size w w4):=HB3.out.trans (B4.mono HB3.out.size)
 have HP4:Hid (yL w4 (some ⟨g,0,none⟩) 2 wkT wkV∧yL w4 (some ⟨gp,0,none⟩) 2 wkT wkV):=⟨HP3.out.1.below B4,HP3.out.2.below B4⟩
 clear B4 HH3 HP3 HB2 HB3
 rw [show vM wkV (1+1)=1 from qEY.1,show leV wkV (1+1)=1 from qEY.2.1,show grV wkV (1+1)=1 from qEY.2.2,show wkT 0= -5 from rfl,show wkT 1=9 from rfl]
 unfold bhA
 obtain ⟨r,hr⟩:∃r,w4.heap.size=r:=⟨_,rfl⟩
 obtain ⟨W5,hW5⟩:∃W5,w4.alloc (.cells #[.int .i64 1,.int .i64 2,.int .i64 1,.int .i64 (-5),.int .i64 9,.int .u64 1,.int .u64 1,.int .i64 (N:Int)] 38)=W5:=⟨_,rfl⟩
 have HW5:Hid (W5.heap[r]?=some (.cells #[.int .i64 1,.int .i64 2,.int .i64 1,.int .i64 (-5),.int .i64 9,.int .u64 1,.int .u64 1,.int .i64 (N:Int)] 38 (0,0))∧Below w.heap.size w W5∧yL W5 (some ⟨g,0,none⟩) 2 wkT wkV∧yL W5 (some ⟨gp,0,none⟩) 2 wkT wkV):=by
  have hA:Below w4.heap.size w4 W5:=by rw [←hW5];exact (Below.refl _ _).alloc (Nat.le_refl _) _
  exact ⟨by rw [←hW5,←hr];exact heap_alloc_new _ _,HB4.out.trans (hA.mono HB4.out.size),HP4.out.1.below hA,HP4.out.2.below hA⟩
 go_upto_region 5 with fail
 (try rw [hW5])
 (try rw [hr])
 clear hW5 hr HP4 HB4
 go_wp2_with fail
 refine (wJ _ _).mono ?_
 rintro e wn ⟨rfl,hwn⟩
 have hwn:=hwn.symm
 subst hwn
 go_wp2_with fail
 refine (wJ _ _).mono ?_
 rintro e wn ⟨rfl,hwn⟩
 have hwn:=hwn.symm
 subst hwn
 go_wp2_with fail
 refine (wJ _ _).mono ?_
 rintro e wn ⟨rfl,hwn⟩
 have hwn:=hwn.symm
 subst hwn
 go_wp2_with fail
 refine (wG _ _ 2 _ _ wkT wkV _ HW5.out.2.2.1 HW5.out.2.2.2 (by omega)).mono ?_
 rintro e w6 ⟨rfl,md,rfl⟩
 have k0:(W5.drewN md).cell? ⟨r,0,none⟩=some (.int .i64 1):=by show W5.cell? ⟨r,0,none⟩=_;rw [cell_of_row _ _ _ _ _ _ HW5.out.1];rfl
 have k1:(W5.drewN md).cell? ⟨r,1,none⟩=some (.int .i64 2):=by show W5.cell? ⟨r,1,none⟩=_;rw [cell_of_row _ _ _ _ _ _ HW5.out.1];rfl
 have k2:(W5.drewN md).cell? ⟨r,2,none⟩=some (.int .i64 1):=by show W5.cell? ⟨r,2,none⟩=_;rw [cell_of_row _ _ _ _ _ _ HW5.out.1];rfl
 have k3:(W5.drewN md).cell? ⟨r,3,none⟩=some (.int .i64 (-5)):=by show W5.cell? ⟨r,3,none⟩=_;rw [cell_of_row _ _ _ _ _ _ HW5.out.1];rfl
 have k4:(W5.drewN md).cell? ⟨r,4,none⟩=some (.int .i64 9):=by show W5.cell? ⟨r,4,none⟩=_;rw [cell_of_row _ _ _ _ _ _ HW5.out.1];rfl
 have k5:(W5.drewN md).cell? ⟨r,5,none⟩=some (.int .u64 1):=by show W5.cell? ⟨r,5,none⟩=_;rw [cell_of_row _ _ _ _ _ _ HW5.out.1];rfl
 have k6:(W5.drewN md).cell? ⟨r,6,none⟩=some (.int .u64 1):=by show W5.cell? ⟨r,6,none⟩=_;rw [cell_of_row _ _ _ _ _ _ HW5.out.1];rfl
 have k7:(W5.drewN md).cell? ⟨r,7,none⟩=some (.int .i64 (N:Int)):=by show W5.cell? ⟨r,7,none⟩=_;rw [cell_of_row _ _ _ _ _ _ HW5.out.1];rfl
 have HF:Hid (Below w.heap.size w (W5.drewN md)):=jB HW5.out.2.1 md
 clear HW5
 go_wp2_with fail
 go_ret
 exact ⟨by simp,HF.out⟩
end Go.Proofs.YtkpmalfigmimaaaGreatDoor
namespace Go.Proofs.YtkpmalfigmimaaaGreatDoor
open Go.RowKit
open M
end Go.Proofs.YtkpmalfigmimaaaGreatDoor
namespace Go.Proofs.YtkpmalfigmimaaaGreatDoor
open Go.RowKit
open M
theorem pP {w w':World} {base:Nat} {t:TypeId} {size:Nat} {v:Value} {n:Nat} {xs:List Value} (h:w.ownsRow base t size v n xs) (hk:∀g,v.ownBlock=some g→w'.heap[g]?=w.heap[g]?):w'.ownsRow base t size v n xs:=by
 obtain ⟨h1,h2⟩:=h
 refine ⟨h1,?_⟩
 rcases h2 with h2|⟨g,cap,cur,rfl,h4,h5,h6⟩
 ·exact .inl h2
 ·exact .inr ⟨g,cap,cur,rfl,h4,(hk g rfl).trans h5,h6⟩
theorem qA6 {w w':World} {row:Option Nat} {B:Nat} (hg:w.grownBy w' row) (hr:∀g,row=some g→B≤g) (hB:B≤w.heap.size):Below B w w':=
 ⟨hg.os,hg.tape,hg.output,hg.size,fun k hk=>hg.block k (by omega) (fun e=>by have:=hr k e.symm;omega)⟩
end Go.Proofs.YtkpmalfigmimaaaGreatDoor
namespace Go.Proofs.YtkpmalfigmimaaaGreatDoor
open Go.RowKit
open M
def qHL (k:Nat):List Nat:=(List.range k).map fun i=>165-i
@[simp] theorem qH8 (k:Nat):(qHL k).length=k:=by simp [qHL]
end Go.Proofs.YtkpmalfigmimaaaGreatDoor
namespace Go.Proofs.YtkpmalfigmimaaaGreatDoor
open Go.RowKit
open M
end Go.Proofs.YtkpmalfigmimaaaGreatDoor
