import Derived.Test.YtkpmalfigmimaaaGreatDoorZ0
import Derived.Test.YtkpmalfigmimaaaGreatDoorD2F
import Derived.Test.YtkpmalfigmimaaaGreatDoorD2K
import Derived.Test.YtkpmalfigmimaaaGreatDoorT1S
import Derived.Deep.AppendLies
import Derived.OwnWalk
import Derived.Laws.AppendOwnNone
import Derived.Test.YtkpmalfigmimaaaGreatDoorFF
import Derived.Test.YtkpmalfigmimaaaGreatDoorT1A
set_option linter.unusedVariables false
set_option linter.unusedSimpArgs false
set_option maxRecDepth 100000
set_option maxHeartbeats 8000000
namespace Go.Proofs.YtkpmalfigmimaaaGreatDoor
open Go.RowKit
open M
theorem nC (x:Int) (h:I64 x):IntKind.i64.wrap (u64 x:Int)=x:=by
 obtain ⟨h1,h2⟩:=h
 rw [IntKind.wrap_i64];unfold u64;omega
theorem rC (t:Nat→Int) (m:Nat) (h:Rises t (m+1)):if m+1=1 then t m=t 0 else t 0<t m:=by
 have key:∀k,k≤m→(k=0∨t 0<t k):=by
  intro k
  induction k with
  |zero=>intro _;exact .inl rfl
  |succ k ih=>
   intro hk
   have:=h k (by omega)
   rcases ih (by omega) with rfl|h2
   ·exact .inr this
   ·exact .inr (by omega)
 split
 ·rename_i h1
  obtain rfl:m=0:=by omega
  rfl
 ·rcases key m (Nat.le_refl _) with h0|h0
  ·omega
  ·exact h0
theorem mW (kd m:Nat) (t:Nat→Int) (v:Nat→Nat) (co:Nat) (vb:List Nat):(wL kd (m+1) t v co vb).length=(packed (tbn t (m+1))).length+vb.length+55:=by
 unfold wL qO
 simp only [List.length_append,uK]
 have:∀x,(qAM x).length=4:=fun x=>rfl
 rw [this,this];omega
theorem dR (kd:Nat) (m:Nat) (t:Nat→Int) (v:Nat→Nat) (co:Nat) (vb:List Nat) (b o n cap:Nat) (w:World) (hc:qM w b o (wL kd (m+1) t v co vb)) (hn:51≤n) (hcap:n≤cap) (hn2:n≤1000000000000) (hG:qDF kd (m+1) t v) (ht:∀i,i<m+1→I64 (t i)) (hf:∀i,i<m+1→v i<18446744073709551616) (hval:xU kd (m+1) v co vb) (hC:pB w):
  Calls Tryz.prog 26 #[.slice (some ⟨b,o,none⟩) n cap] w (uB (hdA kd (m+1) (vW v (m+1)) (t 0) (t m) (leV v (m+1)) (grV v (m+1)) (((packed (tbn t (m+1))).length:Int)+(vb.length:Int)+55) co (packed (tbn t (m+1))).length vb.length) 0 w):=by
 have hvl:=xB kd (m+1) v co vb hf hval
 have htl:=xA t (m+1)
 have hhi:=hG.hi
 have h1:qM w b o (qO (packed (hdB kd co (m+1) (vW v (m+1)) (u64 (t 0)) (u64 (t m)) (leV v (m+1)) (grV v (m+1)) (packed (tbn t (m+1))).length vb.length))):=by
  have:=qM.left hc
  unfold pJ at this
  rw [Nat.add_sub_cancel] at this
  exact this
 exact bE kd co (m+1) (vW v (m+1)) (u64 (t 0)) (u64 (t m)) (leV v (m+1)) (grV v (m+1)) (packed (tbn t (m+1))).length vb.length (t 0) (t m) b o n cap w h1 hn hcap hn2
  ⟨by rcases hG.kd with h|h<;>omega,hvl.2.1,hvl.2.2,hG.lo,hG.hi,bO v _,rC t m hG.up⟩ (u64_lt _) (u64_lt _) (qG3 _ _) (qFT _ _ hf) (by omega) (by omega) (nC _ (ht 0 (by omega))) (nC _ (ht m (by omega))) hC
def qCB (kd m:Nat) (t:Nat→Int) (v:Nat→Nat) (N:Nat) (w:World) (e:Ending) (w':World):Prop:=e= .returned (.tuple #[.agg (bhA kd (m+1) (vW v (m+1)) (t 0) (t m) (leV v (m+1)) (grV v (m+1)) (N:Int)),.int .i64 0])∧Below w.heap.size w w'
theorem qFU (kd:Nat) (m:Nat) (t:Nat→Int) (v:Nat→Nat) (co:Nat) (vb:List Nat) (b o n cap:Nat) (w:World) (hc:qM w b o (wL kd (m+1) t v co vb)) (hn:51≤n) (hcap:n≤cap) (hn2:n≤1000000000000) (hG:qDF kd (m+1) t v) (ht:∀i,i<m+1→I64 (t i)) (hf:∀i,i<m+1→v i<18446744073709551616) (hval:xU kd (m+1) v co vb) (hC:pB w):
  Calls Tryz.prog 12 #[.slice (some ⟨b,o,none⟩) n cap] w (qCB kd m t v (wL kd (m+1) t v co vb).length w):=by
 have HH:=qA (fun (w1:World) (hB:Below w.heap.size w w1)=>dR kd m t v co vb b o n cap w1 (hc.below hB) hn hcap hn2 hG ht hf hval (hC.below hB))
 have HN:=qA (mW kd m t v co vb)
 clear hc hn hcap hn2 hG ht hf hval hC
 unfold qCB
 rw [HN.out]
 obtain ⟨fi,hfi⟩:∃x,t 0=x:=⟨_,rfl⟩
 obtain ⟨la,hla⟩:∃x,t m=x:=⟨_,rfl⟩
 obtain ⟨na,hna⟩:∃x,vW v (m+1)=x:=⟨_,rfl⟩
 obtain ⟨le,hle⟩:∃x,leV v (m+1)=x:=⟨_,rfl⟩
 obtain ⟨gr,hgr⟩:∃x,grV v (m+1)=x:=⟨_,rfl⟩
 rw [hfi,hla,hna,hle,hgr] at HH⊢
 obtain ⟨T,hT⟩:∃T,(packed (tbn t (m+1))).length=T:=⟨_,rfl⟩
 obtain ⟨V,hV⟩:∃V,vb.length=V:=⟨_,rfl⟩
 rw [hT,hV] at HH⊢
 clear hfi hla hna hle hgr hT hV HN
 unfold hdA at HH
 obtain ⟨g,hg⟩:∃g,w.heap.size=g:=⟨_,rfl⟩
 obtain ⟨W1,hW1⟩:∃W1,w.alloc (.cells #[.int .i64 0,.int .i64 0,.int .i64 0,.int .i64 0,.int .i64 0,.int .u64 0,.int .u64 0,.int .i64 0] 38)=W1:=⟨_,rfl⟩
 have HW1:Hid (W1.heap[g]?=some (.cells #[.int .i64 0,.int .i64 0,.int .i64 0,.int .i64 0,.int .i64 0,.int .u64 0,.int .u64 0,.int .i64 0] 38 (0,0))∧Below w.heap.size w W1):=by rw [←hW1,←hg];exact ⟨heap_alloc_new _ _,(Below.refl _ _).alloc (Nat.le_refl _) _⟩
 have HG:=qA hg
 go_enter Tryz.func12,Tryz.ntmps12
 go_wp2_with fail
 (try rw [hW1])
 (try rw [hg])
 clear hW1 hg
 refine (HH.out W1 HW1.out.2).mono ?_
 rintro e w2 ⟨rfl,B2⟩
 have HW2:Hid (w2.heap[g]?=some (.cells #[.int .i64 0,.int .i64 0,.int .i64 0,.int .i64 0,.int .i64 0,.int .u64 0,.int .u64 0,.int .i64 0] 38 (0,0))∧Below w.heap.size w w2):=⟨by rw [B2.block g (qB HW1.out.1)];exact HW1.out.1,HW1.out.2.trans (B2.mono HW1.out.2.size)⟩
 clear B2 HH HW1
 obtain ⟨r,hr⟩:∃r,w2.heap.size=r:=⟨_,rfl⟩
 obtain ⟨W3,hW3⟩:∃W3,w2.alloc (.cells #[.int .i64 (kd:Int),.int .i64 ((m:Int)+1),.int .i64 (na:Int),.int .i64 fi,.int .i64 la,.int .u64 (le:Int),.int .u64 (gr:Int),.int .i64 ((T:Int)+(V:Int)+55),.int .i64 (co:Int),.int .i64 (T:Int),.int .i64 (V:Int)] 60)=W3:=⟨_,rfl⟩
 have HW3:Hid (W3.heap[r]?=some (.cells #[.int .i64 (kd:Int),.int .i64 ((m:Int)+1),.int .i64 (na:Int),.int .i64 fi,.int .i64 la,.int .u64 (le:Int),.int .u64 (gr:Int),.int .i64 ((T:Int)+(V:Int)+55),.int .i64 (co:Int),.int .i64 (T:Int),.int .i64 (V:Int)] 60 (0,0))∧W3.heap[g]?=some (.cells #[.int .i64 0,.int .i64 0,.int .i64 0,.int .i64 0,.int .i64 0,.int .u64 0,.int .u64 0,.int .i64 0] 38 (0,0))∧Below w.heap.size w W3):=by
  have hA:Below w2.heap.size w2 W3:=by rw [←hW3];exact (Below.refl _ _).alloc (Nat.le_refl _) _
  exact ⟨by rw [←hW3,←hr];exact heap_alloc_new _ _,by rw [hA.block g (qB HW2.out.1)];exact HW2.out.1,HW2.out.2.trans (hA.mono HW2.out.2.size)⟩
 go_upto_region 2 with fail
 (try rw [hW3])
 (try rw [hr])
 clear hW3 hr HW2
 obtain ⟨o0,o1,o2,o3,o4,o5,o6,o7,-,-,-⟩:=rowcells11 HW3.out.1
 obtain ⟨z0,z1,z2,z3,z4,z5,z6,z7⟩:=rowcells8 HW3.out.2.1
 have y0:=froz HW3.out.2.1 0
 have y1:=froz HW3.out.2.1 1
 have y2:=froz HW3.out.2.1 2
 have y3:=froz HW3.out.2.1 3
 have y4:=froz HW3.out.2.1 4
 have y5:=froz HW3.out.2.1 5
 have y6:=froz HW3.out.2.1 6
 have y7:=froz HW3.out.2.1 7
 have HFR:Hid (((((((((W3.setCell ⟨g,0,none⟩ (.int .i64 (kd:Int))).setCell ⟨g,1,none⟩ (.int .i64 ((m:Int)+1))).setCell ⟨g,2,none⟩ (.int .i64 (na:Int))).setCell ⟨g,3,none⟩ (.int .i64 fi)).setCell ⟨g,4,none⟩ (.int .i64 la)).setCell ⟨g,5,none⟩ (.int .u64 (le:Int))).setCell ⟨g,6,none⟩ (.int .u64 (gr:Int))).setCell ⟨g,7,none⟩ (.int .i64 ((T:Int)+(V:Int)+55))).heap[g]?=some (.cells #[.int .i64 (kd:Int),.int .i64 ((m:Int)+1),.int .i64 (na:Int),.int .i64 fi,.int .i64 la,.int .u64 (le:Int),.int .u64 (gr:Int),.int .i64 ((T:Int)+(V:Int)+55)] 38 (0,0))∧Below w.heap.size w ((((((((W3.setCell ⟨g,0,none⟩ (.int .i64 (kd:Int))).setCell ⟨g,1,none⟩ (.int .i64 ((m:Int)+1))).setCell ⟨g,2,none⟩ (.int .i64 (na:Int))).setCell ⟨g,3,none⟩ (.int .i64 fi)).setCell ⟨g,4,none⟩ (.int .i64 la)).setCell ⟨g,5,none⟩ (.int .u64 (le:Int))).setCell ⟨g,6,none⟩ (.int .u64 (gr:Int))).setCell ⟨g,7,none⟩ (.int .i64 ((T:Int)+(V:Int)+55)))):=⟨qD1 _ _ _ _ _ _ _ _ _ _ _ _ _ _ _ _ _ _ _ HW3.out.2.1,dK HW3.out.2.2 _ _ _ _ _ _ _ _ _ (Nat.le_of_eq HG.out)⟩
 clear HW3
 go_wp2_with fail
 generalize ((((((((W3.setCell ⟨g,0,none⟩ (.int .i64 (kd:Int))).setCell ⟨g,1,none⟩ (.int .i64 ((m:Int)+1))).setCell ⟨g,2,none⟩ (.int .i64 (na:Int))).setCell ⟨g,3,none⟩ (.int .i64 fi)).setCell ⟨g,4,none⟩ (.int .i64 la)).setCell ⟨g,5,none⟩ (.int .u64 (le:Int))).setCell ⟨g,6,none⟩ (.int .u64 (gr:Int))).setCell ⟨g,7,none⟩ (.int .i64 ((T:Int)+(V:Int)+55)))=WF at*
 obtain ⟨u0,u1,u2,u3,u4,u5,u6,u7⟩:=rowcells8 HFR.out.1
 exact bodyPost_ret (v:= .tuple #[.agg (bhA kd (m+1) na fi la le gr (((T+V+55:Nat)):Int)),.int .i64 0]) (by simp [results,Tryz.results12,go_sem,bhA,u0,u1,u2,u3,u4,u5,u6,u7]) rfl ⟨rfl,HFR.out.2⟩
def qAO (kd n:Nat) (t:Nat→Int) (v:Nat→Nat) (w:World) (e:Ending) (w':World):Prop:=∃g,e= .returned (.tuple #[.int .i64 (kd:Int),.slice (some ⟨g,0,none⟩) n n,.int .i64 0])∧uC w' (some ⟨g,0,none⟩) n t v∧Below w.heap.size w w'
theorem qBC (kd:Nat) (m:Nat) (t:Nat→Int) (v:Nat→Nat) (co:Nat) (vb:List Nat) (b o n K:Nat) (w:World) (hc:qM w b o (wL kd (m+1) t v co vb)) (hn:n=(wL kd (m+1) t v co vb).length) (hcap:n≤K+51) (hK2:K≤9223372036854775756) (hG:qDF kd (m+1) t v) (ht:∀i,i<m+1→I64 (t i)) (hf:∀i,i<m+1→v i<18446744073709551616) (hval:xU kd (m+1) v co vb) (hvb:∀n∈vb,n<256) (hT:qT w) (hC:pB w):
  Calls Tryz.prog 10 #[.slice (some ⟨b,o,none⟩) n (K+51)] w (qAO kd (m+1) t v w):=by
 have hvl:=xB kd (m+1) v co vb hf hval
 have htl:=xA t (m+1)
 have hhi:=hG.hi
 rw [mW] at hn
 have HH:=qA (dR kd m t v co vb b o n (K+51) w hc (by omega) hcap (by omega) hG ht hf hval hC)
 have hrest:qM w b (o+51) (qO (packed (tbn t (m+1))++vb)):=by
  have:=qM.right hc
  have e:(qO (pJ kd (m+1) t v co (packed (tbn t (m+1))).length vb.length)).length=51:=by unfold qO;rw [List.length_append,uK];rfl
  rw [e] at this;exact this
 obtain ⟨tb,htb⟩:∃tb,packed (tbn t (m+1))=tb:=⟨_,rfl⟩
 have htb2:∀n∈tb,n<256:=by rw [←htb];exact jR _
 rw [htb] at hrest hn htl
 obtain ⟨fi,hfi⟩:∃x,t 0=x:=⟨_,rfl⟩
 obtain ⟨la,hla⟩:∃x,t m=x:=⟨_,rfl⟩
 obtain ⟨na,hna⟩:∃x,vW v (m+1)=x:=⟨_,rfl⟩
 obtain ⟨le,hle⟩:∃x,leV v (m+1)=x:=⟨_,rfl⟩
 obtain ⟨gr,hgr⟩:∃x,grV v (m+1)=x:=⟨_,rfl⟩
 obtain ⟨T,hTT⟩:∃T,tb.length=T:=⟨_,rfl⟩
 obtain ⟨V,hVV⟩:∃V,vb.length=V:=⟨_,rfl⟩
 rw [htb,hfi,hla,hna,hle,hgr,hTT,hVV] at HH
 rw [hTT,hVV] at hn
 subst hn
 have HA:=qA (fun (w1:World) (hB:Below w.heap.size w w1)=>cV kd co (m+1) na le gr T V fi la b o K tb vb w1 (hrest.below hB) hTT hVV htb2 hvb (by omega) (by omega) (by omega) hK2 (hC.below hB))
 have HP:=qA (fun (w1:World) (hB:Below w.heap.size w w1)=>qBT kd co m na le gr T V K (K-T) (some ⟨b,o+51,none⟩) (some ⟨b,o+51+T,none⟩) fi la t v tb vb w1 hG ht hf hval htb hTT.symm hVV.symm hna.symm hfi.symm hla.symm hle.symm hgr.symm
  (by have:=(qM.left (qM.left (hrest.below hB))).by_ K;rw [hTT] at this;exact this)
  (by have:=(qM.right (qM.left (hrest.below hB))).by_ (K-T);rw [hTT,hVV] at this;exact this) hvb (hT.below hB))
 clear hc hG ht hf hval hvb hT hC hvl htl hrest htb htb2 hfi hla hna hle hgr hTT hVV
 unfold hdA at HH
 unfold ptA at HA
 rw [show (((m+1:Nat)):Int)=(m:Int)+1 from by simp] at HH HA
 go_enter Tryz.func10,Tryz.ntmps10
 go_wp2_with fail
 refine HH.out.mono ?_
 rintro e w2 ⟨rfl,B2⟩
 obtain ⟨r,hr⟩:∃r,w2.heap.size=r:=⟨_,rfl⟩
 obtain ⟨W3,hW3⟩:∃W3,w2.alloc (.cells #[.int .i64 (kd:Int),.int .i64 ((m:Int)+1),.int .i64 (na:Int),.int .i64 fi,.int .i64 la,.int .u64 (le:Int),.int .u64 (gr:Int),.int .i64 ((T:Int)+(V:Int)+55),.int .i64 (co:Int),.int .i64 (T:Int),.int .i64 (V:Int)] 60)=W3:=⟨_,rfl⟩
 have HW3:Hid (W3.heap[r]?=some (.cells #[.int .i64 (kd:Int),.int .i64 ((m:Int)+1),.int .i64 (na:Int),.int .i64 fi,.int .i64 la,.int .u64 (le:Int),.int .u64 (gr:Int),.int .i64 ((T:Int)+(V:Int)+55),.int .i64 (co:Int),.int .i64 (T:Int),.int .i64 (V:Int)] 60 (0,0))∧Below w.heap.size w W3):=by
  have hA:Below w2.heap.size w2 W3:=by rw [←hW3];exact (Below.refl _ _).alloc (Nat.le_refl _) _
  exact ⟨by rw [←hW3,←hr];exact heap_alloc_new _ _,B2.trans (hA.mono B2.size)⟩
 clear B2 HH
 obtain ⟨o0,o1,o2,o3,o4,o5,o6,o7,o8,o9,o10⟩:=rowcells11 HW3.out.1
 go_wp2_with fail
 (try rw [hW3])
 (try rw [hr])
 clear hW3 hr
 refine (HA.out W3 HW3.out.2).mono ?_
 rintro e w4 ⟨rfl,B4⟩
 have HW4:Hid (w4.heap[r]?=some (.cells #[.int .i64 (kd:Int),.int .i64 ((m:Int)+1),.int .i64 (na:Int),.int .i64 fi,.int .i64 la,.int .u64 (le:Int),.int .u64 (gr:Int),.int .i64 ((T:Int)+(V:Int)+55),.int .i64 (co:Int),.int .i64 (T:Int),.int .i64 (V:Int)] 60 (0,0))∧Below w.heap.size w w4):=⟨by rw [B4.block r (qB HW3.out.1)];exact HW3.out.1,HW3.out.2.trans (B4.mono HW3.out.2.size)⟩
 clear B4 HW3 HA o0 o1 o2 o3 o4 o5 o6 o7 o8 o9 o10
 obtain ⟨q,hq⟩:∃q,w4.heap.size=q:=⟨_,rfl⟩
 obtain ⟨W5,hW5⟩:∃W5,w4.alloc (.cells #[.int .i64 (kd:Int),.int .i64 ((m:Int)+1),.int .i64 (na:Int),.int .i64 fi,.int .i64 la,.int .u64 (le:Int),.int .u64 (gr:Int),.int .i64 ((T:Int)+(V:Int)+55),.int .i64 (co:Int),.int .i64 (T:Int),.int .i64 (V:Int),.slice (some ⟨b,o+51,none⟩) T K,.slice (some ⟨b,o+51+T,none⟩) V (K-T)] 62)=W5:=⟨_,rfl⟩
 have HW5:Hid (W5.heap[q]?=some (.cells #[.int .i64 (kd:Int),.int .i64 ((m:Int)+1),.int .i64 (na:Int),.int .i64 fi,.int .i64 la,.int .u64 (le:Int),.int .u64 (gr:Int),.int .i64 ((T:Int)+(V:Int)+55),.int .i64 (co:Int),.int .i64 (T:Int),.int .i64 (V:Int),.slice (some ⟨b,o+51,none⟩) T K,.slice (some ⟨b,o+51+T,none⟩) V (K-T)] 62 (0,0))∧W5.heap[r]?=some (.cells #[.int .i64 (kd:Int),.int .i64 ((m:Int)+1),.int .i64 (na:Int),.int .i64 fi,.int .i64 la,.int .u64 (le:Int),.int .u64 (gr:Int),.int .i64 ((T:Int)+(V:Int)+55),.int .i64 (co:Int),.int .i64 (T:Int),.int .i64 (V:Int)] 60 (0,0))∧Below w.heap.size w W5):=by
  have hA:Below w4.heap.size w4 W5:=by rw [←hW5];exact (Below.refl _ _).alloc (Nat.le_refl _) _
  exact ⟨by rw [←hW5,←hq];exact heap_alloc_new _ _,by rw [hA.block r (qB HW4.out.1)];exact HW4.out.1,HW4.out.2.trans (hA.mono HW4.out.2.size)⟩
 obtain ⟨o0,o1,o2,o3,o4,o5,o6,o7,o8,o9,o10,o11,o12⟩:=rowcells13 HW5.out.1
 go_wp2_with fail
 (try rw [hW5])
 (try rw [hq])
 clear hW5 hq
 refine (HP.out W5 HW5.out.2.2).mono ?_
 rintro e w6 ⟨g,rfl,hrow,B6⟩
 have k0:w6.cell? ⟨r,0,none⟩=some (.int .i64 (kd:Int)):=by
  have k5:W5.cell? ⟨r,0,none⟩=some (.int .i64 (kd:Int)):=by rw [cell_of_row _ _ _ _ _ _ HW5.out.2.1];rfl
  rw [B6.cell (p:=⟨r,0,none⟩) (block_lt_of_cell k5)];exact k5
 have HF:Hid (qAO kd (m+1) t v w (.returned (.tuple #[.int .i64 (kd:Int),.slice (some ⟨g,0,none⟩) (m+1) (m+1),.int .i64 0])) w6):=⟨g,rfl,hrow,HW5.out.2.2.trans (B6.mono HW5.out.2.2.size)⟩
 clear hrow B6 HW5 HW4 HP o0 o1 o2 o3 o4 o5 o6 o7 o8 o9 o10 o11 o12
 go_wp2_with fail
 go_ret3
 exact HF.out
end Go.Proofs.YtkpmalfigmimaaaGreatDoor
namespace Go.Proofs.YtkpmalfigmimaaaGreatDoor
open Go.RowKit
open M
theorem gB (n:Int) (w:World):Calls Tryz.prog 13 #[.int .i64 n] w fun e w'=>e= .returned (.int .i64 n)∧w'=w:=by
 go_enter Tryz.func13,Tryz.ntmps13
 go_wp2
 go_ret
 exact ⟨rfl,rfl⟩
theorem sH (p q:Option Addr) (n cap cap':Nat) (t:Nat→Int) (v:Nat→Nat) (w:World) (h:uC w p n t v) (h':uC w q n t v) (hn:n≤1000000):
  Calls Tryz.prog 14 #[.slice p n cap,.slice q n cap'] w fun e w'=>e= .returned (.bool true)∧∃m,w'=w.drewN m:=by
 have H:=qA h
 have H':=qA h'
 clear h h'
 go_enter Tryz.func14,Tryz.ntmps14
 go_wp2_with fail
 go_loopw [5] (fun i wr=>∃k:Nat,i= .int .i64 (k:Int)∧Hid (k≤n)∧Hid (∃m,wr=w.drewN m)) (fun i _=>n-(intOf i).toNat)
 case atStart=>exact ⟨0,rfl,Nat.zero_le _,0,rfl⟩
 case round=>
  obtain ⟨k,rfl,hk,hm⟩:=hrel
  by_cases hlt:k<n
  ·obtain ⟨b,o,rfl,hc⟩:=H.out (by omega)
   obtain ⟨b',o',rfl,hc'⟩:=H'.out (by omega)
   obtain ⟨x,hx⟩:∃x,t k=x:=⟨_,rfl⟩
   obtain ⟨y,hy⟩:∃y,v k=y:=⟨_,rfl⟩
   have c1:wr.cell? ⟨b,o+k*2,none⟩=some (.int .i64 x):=by obtain ⟨m,rfl⟩:=hm.out;rw [←hx];exact (hc k hlt).1
   have c2:wr.cell? ⟨b,o+k*2+1,none⟩=some (.int .u64 (y:Int)):=by obtain ⟨m,rfl⟩:=hm.out;rw [←hy];exact (hc k hlt).2
   have c3:wr.cell? ⟨b',o'+k*2,none⟩=some (.int .i64 x):=by obtain ⟨m,rfl⟩:=hm.out;rw [←hx];exact (hc' k hlt).1
   have c4:wr.cell? ⟨b',o'+k*2+1,none⟩=some (.int .u64 (y:Int)):=by obtain ⟨m,rfl⟩:=hm.out;rw [←hy];exact (hc' k hlt).2
   clear hx hy hc hc'
   go_wp2_with fail
   go_region
   go_wp2_with fail
   go_roundw
   case rel=>exact ⟨k+1,by simp,hlt,by obtain ⟨m,rfl⟩:=hm.out;exact ⟨m+1,rfl⟩⟩
   case measure=>simp [intOf];omega
  ·go_wp2_with fail
   go_ret
   exact ⟨rfl,hm.out⟩
def wkT (i:Nat):Int:=if i=0 then -5 else 9
def wkV (i:Nat):Nat:=if i=0 then 1 else 18442240474082181121
theorem qM6:Rises wkT (1+1):=fun i hi=>by
 obtain rfl:i=0:=by omega
 decide
theorem qC7:qDF ((1:Nat):Int) (1+1) wkT wkV:=⟨.inl rfl,by omega,by omega,qM6,fun h=>by cases h⟩
theorem qM5 (i:Nat) (h:i<1+1):I64 (wkT i):=by
 obtain rfl|rfl:i=0∨i=1:=by omega
 ·unfold I64 wkT;decide
 ·unfold I64 wkT;decide
theorem qLX (i:Nat) (h:i<1+1):wkV i<18446744073709551616:=by
 obtain rfl|rfl:i=0∨i=1:=by omega
 ·decide
 ·decide
theorem qH8:vW wkV 2=1∧leV wkV 2=1∧grV wkV 2=1:=by decide +kernel
theorem rI (w:World) (hT:qT w) (hC:pB w):Calls Tryz.prog 7 #[] w fun e w'=>e= .returned (.bool true)∧Below w.heap.size w w':=by
 obtain ⟨g,hg⟩:∃g,w.heap.size=g:=⟨_,rfl⟩
 obtain ⟨W1,hW1⟩:∃W1,w.alloc (.cells #[.int .i64 (-5),.int .u64 1,.int .i64 9,.int .u64 18442240474082181121] 47)=W1:=⟨_,rfl⟩
 have HW1:Hid (uC W1 (some ⟨g,0,none⟩) 2 wkT wkV∧Below w.heap.size w W1∧qT W1∧pB W1):=by
  have hA:Below w.heap.size w W1:=by rw [←hW1];exact (Below.refl _ _).alloc (Nat.le_refl _) _
  have hn:W1.heap[g]?=some (.cells #[.int .i64 (-5),.int .u64 1,.int .i64 9,.int .u64 18442240474082181121] 47 (0,0)):=by rw [←hW1,←hg];exact heap_alloc_new _ _
  refine ⟨fun _=>⟨g,0,rfl,fun i hi=>?_⟩,hA,hT.below hA,hC.below hA⟩
  obtain rfl|rfl:i=0∨i=1:=by omega
  ·exact ⟨by rw [cell_of_row _ _ _ _ _ _ hn];rfl,by rw [cell_of_row _ _ _ _ _ _ hn];rfl⟩
  ·exact ⟨by rw [cell_of_row _ _ _ _ _ _ hn];rfl,by rw [cell_of_row _ _ _ _ _ _ hn];rfl⟩
 have HE:=qA (bB 1 (some ⟨g,0,none⟩) 1 2 wkT wkV W1 HW1.out.1 qC7 qM5 qLX HW1.out.2.2.1 HW1.out.2.2.2)
 clear hT hC
 go_enter Tryz.func7,Tryz.ntmps7
 go_wp2_with fail
 (try rw [hW1])
 (try rw [hg])
 clear hW1 hg
 refine HE.out.mono ?_
 rintro e w2 ⟨co,vb,gb,rfl,hrow,hval,hvb,B2⟩
 have HB2:Hid (Below w.heap.size w w2):=HW1.out.2.1.trans (B2.mono HW1.out.2.1.size)
 have HP2:=qA (HW1.out.1.below B2)
 have hT2:=HW1.out.2.2.1.below B2
 have hC2:=HW1.out.2.2.2.below B2
 have hvl:=xB 1 2 wkV co vb qLX hval
 have htl:(packed (tbn wkT (1+1))).length≤18:=xA wkT (1+1)
 have hbl:(wL 1 (1+1) wkT wkV co vb).length=(packed (tbn wkT (1+1))).length+vb.length+55:=mW 1 1 wkT wkV co vb
 obtain ⟨N,hN⟩:∃N,(wL 1 (1+1) wkT wkV co vb).length=N:=⟨_,rfl⟩
 have hNb:55≤N∧N≤1000:=by rw [←hN,hbl];omega
 have hcells:qM w2 gb 0 (wL 1 (1+1) wkT wkV co vb):=fun i hi=>by
  rw [Nat.zero_add,cell_of_row _ _ _ _ _ _ hrow];simp [qL,List.getD,hi]
 have HD:Hid (∀K,N=K+51→Calls Tryz.prog 10 #[.slice (some ⟨gb,0,none⟩) N N] w2 (qAO 1 (1+1) wkT wkV w2)):=fun K hK=>by
  have:=qBC 1 1 wkT wkV co vb gb 0 N K w2 hcells hN.symm (by omega) (by omega) qC7 qM5 qLX hval hvb hT2 hC2
  rw [←hK] at this;exact this
 have HH:=qA (fun (w3:World) (hB:Below w2.heap.size w2 w3)=>qFU 1 1 wkT wkV co vb gb 0 N N w3 (hcells.below hB) (by omega) (Nat.le_refl _) (by omega) qC7 qM5 qLX hval (hC2.below hB))
 rw [hN] at HH⊢
 have HNB:=qA hNb
 clear B2 hT2 hC2 hvl htl hbl hN hNb hcells hrow hval hvb HE HW1
 have hN1:55≤N:=HNB.out.1
 have hN2:N≤1000:=HNB.out.2
 go_wp2_with fail
 refine (HD.out (N-51) (by omega)).mono ?_
 rintro e w3 ⟨gp,rfl,hp,B3⟩
 have HB3:Hid (Below w.heap.size w w3):=HB2.out.trans (B3.mono HB2.out.size)
 have HP3:Hid (uC w3 (some ⟨g,0,none⟩) 2 wkT wkV∧uC w3 (some ⟨gp,0,none⟩) 2 wkT wkV):=⟨HP2.out.below B3,hp⟩
 have HH3:=qA (HH.out w3 B3)
 clear hp B3 HD HH HP2
 go_wp2_with fail
 refine HH3.out.mono ?_
 rintro e w4 ⟨rfl,B4⟩
 have HB4:Hid (Below w.heap.size w w4):=HB3.out.trans (B4.mono HB3.out.size)
 have HP4:Hid (uC w4 (some ⟨g,0,none⟩) 2 wkT wkV∧uC w4 (some ⟨gp,0,none⟩) 2 wkT wkV):=⟨HP3.out.1.below B4,HP3.out.2.below B4⟩
 clear B4 HH3 HP3 HB2 HB3
 rw [show vW wkV (1+1)=1 from qH8.1,show leV wkV (1+1)=1 from qH8.2.1,show grV wkV (1+1)=1 from qH8.2.2,show wkT 0= -5 from rfl,show wkT 1=9 from rfl]
 unfold bhA
 obtain ⟨r,hr⟩:∃r,w4.heap.size=r:=⟨_,rfl⟩
 obtain ⟨W5,hW5⟩:∃W5,w4.alloc (.cells #[.int .i64 1,.int .i64 2,.int .i64 1,.int .i64 (-5),.int .i64 9,.int .u64 1,.int .u64 1,.int .i64 (N:Int)] 38)=W5:=⟨_,rfl⟩
 have HW5:Hid (W5.heap[r]?=some (.cells #[.int .i64 1,.int .i64 2,.int .i64 1,.int .i64 (-5),.int .i64 9,.int .u64 1,.int .u64 1,.int .i64 (N:Int)] 38 (0,0))∧Below w.heap.size w W5∧uC W5 (some ⟨g,0,none⟩) 2 wkT wkV∧uC W5 (some ⟨gp,0,none⟩) 2 wkT wkV):=by
  have hA:Below w4.heap.size w4 W5:=by rw [←hW5];exact (Below.refl _ _).alloc (Nat.le_refl _) _
  exact ⟨by rw [←hW5,←hr];exact heap_alloc_new _ _,HB4.out.trans (hA.mono HB4.out.size),HP4.out.1.below hA,HP4.out.2.below hA⟩
 go_upto_region 5 with fail
 (try rw [hW5])
 (try rw [hr])
 clear hW5 hr HP4 HB4
 go_wp2_with fail
 refine (gB _ _).mono ?_
 rintro e wn ⟨rfl,hwn⟩
 have hwn:=hwn.symm
 subst hwn
 go_wp2_with fail
 refine (gB _ _).mono ?_
 rintro e wn ⟨rfl,hwn⟩
 have hwn:=hwn.symm
 subst hwn
 go_wp2_with fail
 refine (gB _ _).mono ?_
 rintro e wn ⟨rfl,hwn⟩
 have hwn:=hwn.symm
 subst hwn
 go_wp2_with fail
 refine (sH _ _ 2 _ _ wkT wkV _ HW5.out.2.2.1 HW5.out.2.2.2 (by omega)).mono ?_
 rintro e w6 ⟨rfl,md,rfl⟩
 have k0:(W5.drewN md).cell? ⟨r,0,none⟩=some (.int .i64 1):=by show W5.cell? ⟨r,0,none⟩=_;rw [cell_of_row _ _ _ _ _ _ HW5.out.1];rfl
 have k1:(W5.drewN md).cell? ⟨r,1,none⟩=some (.int .i64 2):=by show W5.cell? ⟨r,1,none⟩=_;rw [cell_of_row _ _ _ _ _ _ HW5.out.1];rfl
 have k2:(W5.drewN md).cell? ⟨r,2,none⟩=some (.int .i64 1):=by show W5.cell? ⟨r,2,none⟩=_;rw [cell_of_row _ _ _ _ _ _ HW5.out.1];rfl
 have k3:(W5.drewN md).cell? ⟨r,3,none⟩=some (.int .i64 (-5)):=by show W5.cell? ⟨r,3,none⟩=_;rw [cell_of_row _ _ _ _ _ _ HW5.out.1];rfl
 have k4:(W5.drewN md).cell? ⟨r,4,none⟩=some (.int .i64 9):=by show W5.cell? ⟨r,4,none⟩=_;rw [cell_of_row _ _ _ _ _ _ HW5.out.1];rfl
 have k5:(W5.drewN md).cell? ⟨r,5,none⟩=some (.int .u64 1):=by show W5.cell? ⟨r,5,none⟩=_;rw [cell_of_row _ _ _ _ _ _ HW5.out.1];rfl
 have k6:(W5.drewN md).cell? ⟨r,6,none⟩=some (.int .u64 1):=by show W5.cell? ⟨r,6,none⟩=_;rw [cell_of_row _ _ _ _ _ _ HW5.out.1];rfl
 have k7:(W5.drewN md).cell? ⟨r,7,none⟩=some (.int .i64 (N:Int)):=by show W5.cell? ⟨r,7,none⟩=_;rw [cell_of_row _ _ _ _ _ _ HW5.out.1];rfl
 have HF:Hid (Below w.heap.size w (W5.drewN md)):=qV HW5.out.2.1 md
 clear HW5
 go_wp2_with fail
 go_ret
 exact ⟨by simp,HF.out⟩
end Go.Proofs.YtkpmalfigmimaaaGreatDoor
namespace Go.Proofs.YtkpmalfigmimaaaGreatDoor
open Go.RowKit
open M
end Go.Proofs.YtkpmalfigmimaaaGreatDoor
namespace Go.Proofs.YtkpmalfigmimaaaGreatDoor
open Go.RowKit
open M
theorem uO {w w':World} {base:Nat} {t:TypeId} {size:Nat} {v:Value} {n:Nat} {xs:List Value} (h:w.ownsRow base t size v n xs) (hk:∀g,v.ownBlock=some g→w'.heap[g]?=w.heap[g]?):w'.ownsRow base t size v n xs:=by
 obtain ⟨h1,h2⟩:=h
 refine ⟨h1,?_⟩
 rcases h2 with h2|⟨g,cap,cur,rfl,h4,h5,h6⟩
 ·exact .inl h2
 ·exact .inr ⟨g,cap,cur,rfl,h4,(hk g rfl).trans h5,h6⟩
theorem yC.news {w:World} {ad:Addr} {n c:Nat} {bs:List Nat} (h:yC w (.slice (some ad) n c) bs):n=bs.length∧∀j u,(qL bs)[j]?=some u→w.cell? (ad.add j)=some u:=by
 rcases h with ⟨h,_⟩|⟨g,o,cap,h,h2⟩
 ·simp at h
 ·simp only [Value.slice.injEq,Option.some.injEq] at h
  obtain ⟨rfl,rfl,rfl⟩:=h
  refine ⟨rfl,fun j u hj=>?_⟩
  have hjl:j<bs.length:=by
   rcases Nat.lt_or_ge j bs.length with h|h
   ·exact h
   ·rw [List.getElem?_eq_none (by simpa [qL] using h)] at hj;simp at hj
  rw [Addr.add_mid,h2 j hjl,←hj]
  simp [qL,hjl]
theorem bD {w w':World} {row:Option Nat} {B:Nat} (hg:w.grownBy w' row) (hr:∀g,row=some g→B≤g) (hB:B≤w.heap.size):Below B w w':=
 ⟨hg.os,hg.tape,hg.output,hg.size,fun k hk=>hg.block k (by omega) (fun e=>by have:=hr k e.symm;omega)⟩
theorem qAW (bs:List Nat):∀u∈qL bs,u.oneCell'=true:=by
 intro u hu
 simp only [qL,List.mem_map] at hu
 obtain ⟨n,_,rfl⟩:=hu
 rfl
end Go.Proofs.YtkpmalfigmimaaaGreatDoor
namespace Go.Proofs.YtkpmalfigmimaaaGreatDoor
open Go.RowKit
open M
def qJ1 (k:Nat):List Nat:=(List.range k).map fun i=>165-i
@[simp] theorem qI0 (k:Nat):(qJ1 k).length=k:=by simp [qJ1]
theorem qLC:∃i5,Tryz.prog.info? 5=some i5∧i5.zero=some (.int .u8 0)∧i5.size=1∧i5.bytes=1:=by
 have hz:(Tryz.prog.info? 5).bind (·.zero)=some (.int .u8 0):=by kernel_rfl
 have hs:(Tryz.prog.info? 5).map (·.size)=some 1:=by kernel_rfl
 have hb:(Tryz.prog.info? 5).map (·.bytes)=some 1:=by kernel_rfl
 cases hi:Tryz.prog.info? 5 with
 |none=>simp [hi] at hs
 |some i5=>
  simp only [hi,Option.bind_some,Option.map_some,Option.some.injEq] at hz hs hb
  exact ⟨i5,rfl,hz,hs,hb⟩
end Go.Proofs.YtkpmalfigmimaaaGreatDoor
namespace Go.Proofs.YtkpmalfigmimaaaGreatDoor
open Go.RowKit
open M
structure OB (B:Nat) (w0:World) (bs:List Nat) (v:Value) (wr:World):Prop where
 own:wr.ownsRow B 5 1 v bs.length (qL bs)
 bel:Below B w0 wr
 le:B≤w0.heap.size
theorem OB.nil (w:World):OB w.heap.size w [] (.slice none 0 0) w:=⟨World.ownsRow_nil _ _ _ _,Below.refl _ _,Nat.le_refl _⟩
theorem OB.below {B:Nat} {w0 wr w2:World} {bs:List Nat} {v:Value} (h:OB B w0 bs v wr) (hB:Below wr.heap.size wr w2):OB B w0 bs v w2:=
 ⟨uO h.own fun g hg=>hB.block g (h.own.lt g hg).2,h.bel.trans (hB.mono (Nat.le_trans h.le h.bel.size)),h.le⟩
theorem qDS (a b:List Nat):qL (a++b)=qL a++qL b:=by simp [qL]
theorem OB.more {B:Nat} {w0 wr w4:World} {bs cs:List Nat} {v v2:Value} (h:OB B w0 bs v wr) (ho:w4.ownsRow B 5 1 v2 (bs.length+cs.length) (qL bs++qL cs)) (hg:wr.grownBy w4 v.ownBlock):OB B w0 (bs++cs) v2 w4:=
 ⟨by rw [List.length_append,qDS];exact ho,h.bel.trans (bD hg (fun g hg=>(h.own.lt g hg).1) (Nat.le_trans h.le h.bel.size)),h.le⟩
theorem qFB {w:World} {v:Value} {bs:List Nat} (h:jQ w v bs):(v= .slice none 0 0∧bs=[])∨∃ad cap,v= .slice (some ad) bs.length cap∧∀j u,(qL bs)[j]?=some u→w.cell? (ad.add j)=some u:=by
 rcases h with h|⟨ad,cap,rfl,rfl⟩
 ·have h':=h
  rcases h with ⟨rfl,rfl⟩|⟨g,o,cap,rfl,hc⟩
  ·exact .inl ⟨rfl,rfl⟩
  ·exact .inr ⟨_,_,rfl,h'.news.2⟩
 ·exact .inr ⟨ad,cap,rfl,fun j u hj=>by simp [qL] at hj⟩
theorem qCM (v:Value) (bs:List Nat) (w:World) (h:jQ w v bs) (hl:bs.length≤1000000000):
  Calls Tryz.prog 11 #[v] w fun e w'=>∃v2,e= .returned v2∧OB w.heap.size w bs v2 w':=by
 obtain ⟨i5,hi5⟩:=qLC
 have Hi:=qA hi5
 clear hi5
 have HO:Hid (OB w.heap.size w [] (.slice none 0 0) w):=OB.nil w
 have HO1:Hid (w.ownsRow w.heap.size 5 1 (.slice none 0 0) 0 []):=World.ownsRow_nil _ _ _ _
 rcases qFB h with ⟨rfl,rfl⟩|⟨ad,cap,rfl,hnews⟩
 ·clear h
  go_enter Tryz.func11,Tryz.ntmps11
  go_wp2_with (at_builtin;refine wpList_append_own_none rfl _ _ _ rfl w.heap.size 5 i5 1 Tryz.underlying28 Hi.out.1 (.slice none 0 0) 0 [] rfl HO1.out rfl ?c6)
  go_ret
  exact ⟨_,rfl,HO.out⟩
 ·have HN:=qA hnews
  clear h hnews
  obtain ⟨n,hn⟩:∃n,bs.length=n:=⟨_,rfl⟩
  rw [hn] at hl⊢
  have Hn:=qA hn
  clear hn
  go_enter Tryz.func11,Tryz.ntmps11
  go_wp2_with (at_builtin;refine wpList_append_own _ rfl _ _ _ rfl w.heap.size 5 i5 (.int .u8 0) 1 1 Tryz.underlying28 Hi.out.1 Hi.out.2.1 Hi.out.2.2.1 Hi.out.2.2.2 rfl (by decide) (.slice none 0 0) 0 [] rfl HO1.out ad n cap (qL bs) rfl ?f2 ?f3 (qAW bs) ?f4 ?f5 ?f7 ?f6)
  case f2=>rw [Nat.mul_one,←Hn.out];simp
  case f3=>exact HN.out
  case f4=>unfold maxLen;omega
  case f5=>omega
  case f7=>omega
  case f6=>
   intro v2 w2 ho2 hg2 _
   have HF:Hid (OB w.heap.size w bs v2 w2):=by
    have h2:=HO.out.more (cs:=bs) (v2:=v2) (w4:=w2) (by simpa [Hn.out,qL] using ho2) hg2
    rw [List.nil_append] at h2
    exact h2
   clear ho2 hg2
   go_wp2_with fail
   go_ret
   exact ⟨_,rfl,HF.out⟩
end Go.Proofs.YtkpmalfigmimaaaGreatDoor
namespace Go.Proofs.YtkpmalfigmimaaaGreatDoor
open Go.RowKit
open M
def cS:Nat→(Nat→Int)→(Nat→Nat)→List Value
 |0,_,_=>[]
 |n+1,t,v=>cS n t v++[.int .i64 (t n),.int .u64 (v n:Int)]
theorem kT (n:Nat) (t:Nat→Int) (v:Nat→Nat):(cS n t v).length=n*2:=by
 induction n with
 |zero=>rfl
 |succ n ih=>simp only [cS,List.length_append,ih,List.length_cons,List.length_nil];omega
theorem qGJ (n:Nat) (t:Nat→Int) (v:Nat→Nat) (i:Nat) (h:i<n):(cS n t v)[i*2]?=some (.int .i64 (t i))∧(cS n t v)[i*2+1]?=some (.int .u64 (v i:Int)):=by
 induction n with
 |zero=>omega
 |succ n ih=>
  simp only [cS]
  by_cases e:i<n
  ·rw [List.getElem?_append_left (by rw [kT];omega),List.getElem?_append_left (by rw [kT];omega)]
   exact ih e
  ·obtain rfl:i=n:=by omega
   rw [List.getElem?_append_right (by rw [kT];omega),List.getElem?_append_right (by rw [kT];omega),kT,Nat.sub_self,show i*2+1-i*2=1 by omega]
   exact ⟨rfl,rfl⟩
theorem pR (n:Nat) {t t':Nat→Int} {v v':Nat→Nat} (ht:∀i,i<n→t i=t' i) (hv:∀i,i<n→v i=v' i):cS n t v=cS n t' v':=by
 induction n with
 |zero=>rfl
 |succ n ih=>simp only [cS];rw [ih (fun i h=>ht i (by omega)) (fun i h=>hv i (by omega)),ht n (by omega),hv n (by omega)]
theorem qIC (n:Nat) (t:Nat→Int) (v:Nat→Nat) (i:Nat) (x:Int) (y:Nat) (h:i<n):((cS n t v).set (i*2) (.int .i64 x)).set (i*2+1) (.int .u64 (y:Int))=cS n (fun j=>if j=i then x else t j) (fun j=>if j=i then y else v j):=by
 induction n with
 |zero=>omega
 |succ n ih=>
  simp only [cS]
  by_cases e:i<n
  ·rw [List.set_append_left _ _ (by rw [kT];omega),List.set_append_left _ _ (by rw [List.length_set,kT];omega),ih e,if_neg (by omega),if_neg (by omega)]
  ·obtain rfl:i=n:=by omega
   rw [List.set_append_right _ _ (by rw [kT];omega),List.set_append_right _ _ (by rw [kT];omega),kT,Nat.sub_self,show i*2+1-i*2=1 by omega,if_pos rfl,if_pos rfl,
    pR i (t':=fun j=>if j=i then x else t j) (v':=fun j=>if j=i then y else v j) (fun j h=>(if_neg (by omega)).symm) (fun j h=>(if_neg (by omega)).symm)]
   rfl
theorem qIB (n m:Nat) (t t':Nat→Int) (v v':Nat→Nat):cS n t v++cS m t' v'=cS (n+m) (fun j=>if j<n then t j else t' (j-n)) (fun j=>if j<n then v j else v' (j-n)):=by
 induction m with
 |zero=>simp only [cS,List.append_nil];exact pR n (fun i h=>(if_pos h).symm) (fun i h=>(if_pos h).symm)
 |succ m ih=>
  rw [←Nat.add_assoc]
  simp only [cS]
  rw [←List.append_assoc,ih,if_neg (show ¬n+m<n by omega),if_neg (show ¬n+m<n by omega),Nat.add_sub_cancel_left]
structure OP (B:Nat) (w0:World) (n:Nat) (t:Nat→Int) (v:Nat→Nat) (u:Value) (wr:World):Prop where
 own:wr.ownsRow B 47 2 u n (cS n t v)
 bel:Below B w0 wr
 le:B≤w0.heap.size
theorem OP.nil (w:World) (t:Nat→Int) (v:Nat→Nat):OP w.heap.size w 0 t v (.slice none 0 0) w:=⟨World.ownsRow_nil _ _ _ _,Below.refl _ _,Nat.le_refl _⟩
theorem OP.below {B n:Nat} {w0 wr w2:World} {t:Nat→Int} {v:Nat→Nat} {u:Value} (h:OP B w0 n t v u wr) (hB:Below wr.heap.size wr w2):OP B w0 n t v u w2:=
 ⟨uO h.own fun g hg=>hB.block g (h.own.lt g hg).2,h.bel.trans (hB.mono (Nat.le_trans h.le h.bel.size)),h.le⟩
theorem OP.congr {B n:Nat} {w0 wr:World} {t t':Nat→Int} {v v':Nat→Nat} {u:Value} (h:OP B w0 n t v u wr) (ht:∀i,i<n→t i=t' i) (hv:∀i,i<n→v i=v' i):OP B w0 n t' v' u wr:=
 ⟨by rw [←pR n ht hv];exact h.own,h.bel,h.le⟩
theorem OP.slice {B n:Nat} {w0 wr:World} {t:Nat→Int} {v:Nat→Nat} {u:Value} (h:OP B w0 n t v u wr):∃p cap,u= .slice p n cap:=by
 rcases h.own.2 with ⟨h1,h2⟩|⟨g,cap,cur,h1,_⟩
 ·subst h2;exact ⟨_,_,h1⟩
 ·exact ⟨_,_,h1⟩
theorem OP.row {B n cap:Nat} {w0 wr:World} {t:Nat→Int} {v:Nat→Nat} {p:Option Addr} (h:OP B w0 n t v (.slice p n cap) wr):uC wr p n t v:=by
 intro h0
 rcases h.own.2 with ⟨h1,h2⟩|⟨g,cap',cur,h1,_⟩
 ·omega
 ·simp only [Value.slice.injEq] at h1
  obtain ⟨rfl,_,rfl⟩:=h1
  refine ⟨g,0,rfl,fun i hi=>?_⟩
  have e:=qGJ n t v i hi
  have o:=h.own
  exact ⟨by rw [Nat.zero_add,o.cellAt (i*2) (by omega),e.1],by rw [Nat.zero_add,o.cellAt (i*2+1) (by omega),e.2]⟩
theorem OP.more {B n m:Nat} {w0 wr w4:World} {t t':Nat→Int} {v v':Nat→Nat} {u u2:Value} (h:OP B w0 n t v u wr) (ho:w4.ownsRow B 47 2 u2 (n+m) (cS n t v++cS m t' v')) (hg:wr.grownBy w4 u.ownBlock):OP B w0 (n+m) (fun j=>if j<n then t j else t' (j-n)) (fun j=>if j<n then v j else v' (j-n)) u2 w4:=
 ⟨by rw [←qIB];exact ho,h.bel.trans (bD hg (fun g hg=>(h.own.lt g hg).1) (Nat.le_trans h.le h.bel.size)),h.le⟩
theorem OP.put {B n g cap:Nat} {w0 wr:World} {t:Nat→Int} {v:Nat→Nat} (h:OP B w0 n t v (.slice (some ⟨g,0,none⟩) n cap) wr) (i:Nat) (x:Int) (y:Nat) (hi:i<n):
  OP B w0 n (fun j=>if j=i then x else t j) (fun j=>if j=i then y else v j) (.slice (some ⟨g,0,none⟩) n cap) ((wr.setCell ⟨g,i*2,none⟩ (.int .i64 x)).setCell ⟨g,i*2+1,none⟩ (.int .u64 (y:Int))):=by
 have h1:=(h.own.stored (i*2) (.int .i64 x)).1
 have h2:=(h1.stored (i*2+1) (.int .u64 (y:Int))).1
 rw [qIC n t v i x y hi] at h2
 have hb:B≤g:=(h.own.lt g rfl).1
 exact ⟨h2,qH (qH h.bel g _ _ hb) g _ _ hb,h.le⟩
theorem qLD:∃i,Tryz.prog.info? 47=some i∧i.zero=some (.agg #[.int .i64 0,.int .u64 0])∧i.size=2∧i.bytes=16:=by
 have hz:(Tryz.prog.info? 47).bind (·.zero)=some (.agg #[.int .i64 0,.int .u64 0]):=by kernel_rfl
 have hs:(Tryz.prog.info? 47).map (·.size)=some 2:=by kernel_rfl
 have hb:(Tryz.prog.info? 47).map (·.bytes)=some 16:=by kernel_rfl
 cases hi:Tryz.prog.info? 47 with
 |none=>simp [hi] at hs
 |some i=>
  simp only [hi,Option.bind_some,Option.map_some,Option.some.injEq] at hz hs hb
  exact ⟨i,rfl,hz,hs,hb⟩
end Go.Proofs.YtkpmalfigmimaaaGreatDoor
namespace Go.Proofs.YtkpmalfigmimaaaGreatDoor
open Go.RowKit
theorem qI4 (y:Nat) (hy:y<18446744073709551616):yH (wid (yH y))=yH y:=by
 have hl:=wH y hy
 by_cases hn:9218868437227405312<y%9223372036854775808
 ·have e:yH y=yN y:=by unfold yH;rw [if_pos hn]
  rw [e] at hl⊢
  have h1:2143289344≤yN y%2147483648:=by unfold yN;omega
  have h2:=(qEO (yN y) hl (by omega)).2
  have e2:wid (yN y)=xR (yN y):=by unfold wid;rw [if_pos (by omega)]
  rw [e2]
  unfold yH
  rw [if_pos h2]
  exact qK8 _ hl h1
 ·have h1:yH y%2147483648≤2139095040:=by
   unfold yH;rw [if_neg hn];unfold kP;omega
  obtain ⟨x,x1,x2,x3,x4,x5,x6,x7⟩:=vB _ hl h1
  rw [qH7 _ x hl h1 x5 x6 x7]
  unfold yH at*
  rw [if_neg (show ¬9218868437227405312<x%9223372036854775808 by omega)]
  exact qI6 _ x hl h1 x5 x6 x7
end Go.Proofs.YtkpmalfigmimaaaGreatDoor
