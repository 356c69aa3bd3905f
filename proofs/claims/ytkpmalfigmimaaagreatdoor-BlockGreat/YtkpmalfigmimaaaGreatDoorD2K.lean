import Derived.Test.YtkpmalfigmimaaaGreatDoorZ0
import Derived.Test.YtkpmalfigmimaaaGreatDoorD2H
import Derived.Test.YtkpmalfigmimaaaGreatDoorD1C
import Derived.Deep.CutBlock
import Derived.Deep.DeepCutAuto
import Derived.Deep.CutRange
set_option linter.unusedVariables false
set_option linter.unusedSimpArgs false
set_option maxRecDepth 100000
set_option maxHeartbeats 8000000
namespace Go.Proofs.YtkpmalfigmimaaaGreatDoor
open Go.RowKit
open M
def qGM (A:Array Value) (c:Int) (w:World) (e:Ending) (w':World):Prop:=e= .returned (.tuple #[.agg A,.int .i64 c])∧Below w.heap.size w w'
theorem cD (kd co ct na le gr ti va:Nat) (fi la:Int) (b o K:Nat) (tb vb:List Nat) (w:World) (hc:qU w b (o+51) (qM (tb++vb))) (htb:tb.length=ti) (hvb:vb.length=va) (ht:∀n∈tb,n<256) (hv:∀n∈vb,n<256) (hK:ti+va+4≤K) (hti:ti≤100000) (hva:va≤100000) (hKm:K≤9223372036854775756) (hT:mZ w):
  Calls Tryz.prog 27 #[.agg #[.int .i64 (kd:Int),.int .i64 (ct:Int),.int .i64 (na:Int),.int .i64 fi,.int .i64 la,.int .u64 (le:Int),.int .u64 (gr:Int),.int .i64 ((ti:Int)+(va:Int)+55),.int .i64 (co:Int),.int .i64 (ti:Int),.int .i64 (va:Int)],.slice (some ⟨b,o,none⟩) (ti+va+55) (K+51)] w (qGM (ptA kd ct na fi la le gr ((ti:Int)+(va:Int)+55) co ti va (.slice (some ⟨b,o+51,none⟩) ti K) (.slice (some ⟨b,o+51+ti,none⟩) va (K-ti))) 0 w):=by
 have HUn:=qA (fun (w1:World) (hB:Below w.heap.size w w1)=>wZ b (o+51) K (tb++vb) w1 (hc.below hB) (fun n hn=>by rcases List.mem_append.1 hn with h|h;exact ht n h;exact hv n h) (by rw [List.length_append];omega) (by rw [List.length_append];omega) (hT.below hB))
 rw [List.length_append,htb,hvb] at HUn
 clear hc htb hvb ht hv hT
 obtain ⟨q,hq⟩:∃q,w.heap.size=q:=⟨_,rfl⟩
 obtain ⟨W1,hW1⟩:∃W1,(w.alloc (.cells #[.int .i64 (kd:Int),.int .i64 (ct:Int),.int .i64 (na:Int),.int .i64 fi,.int .i64 la,.int .u64 (le:Int),.int .u64 (gr:Int),.int .i64 ((ti:Int)+(va:Int)+55),.int .i64 (co:Int),.int .i64 (ti:Int),.int .i64 (va:Int)] 60)).alloc (.cells #[.int .i64 0,.int .i64 0,.int .i64 0,.int .i64 0,.int .i64 0,.int .u64 0,.int .u64 0,.int .i64 0,.int .i64 0,.int .i64 0,.int .i64 0,.slice none 0 0,.slice none 0 0] 62)=W1:=⟨_,rfl⟩
 have HW1:Hid (W1.heap[q]?=some (.cells #[.int .i64 (kd:Int),.int .i64 (ct:Int),.int .i64 (na:Int),.int .i64 fi,.int .i64 la,.int .u64 (le:Int),.int .u64 (gr:Int),.int .i64 ((ti:Int)+(va:Int)+55),.int .i64 (co:Int),.int .i64 (ti:Int),.int .i64 (va:Int)] 60 (0,0))∧W1.heap[q+1]?=some (.cells #[.int .i64 0,.int .i64 0,.int .i64 0,.int .i64 0,.int .i64 0,.int .u64 0,.int .u64 0,.int .i64 0,.int .i64 0,.int .i64 0,.int .i64 0,.slice none 0 0,.slice none 0 0] 62 (0,0))∧Below w.heap.size w W1):=by
  have hA:Below w.heap.size w (w.alloc (.cells #[.int .i64 (kd:Int),.int .i64 (ct:Int),.int .i64 (na:Int),.int .i64 fi,.int .i64 la,.int .u64 (le:Int),.int .u64 (gr:Int),.int .i64 ((ti:Int)+(va:Int)+55),.int .i64 (co:Int),.int .i64 (ti:Int),.int .i64 (va:Int)] 60)):=(Below.refl _ _).alloc (Nat.le_refl _) _
  have hs:(w.alloc (.cells #[.int .i64 (kd:Int),.int .i64 (ct:Int),.int .i64 (na:Int),.int .i64 fi,.int .i64 la,.int .u64 (le:Int),.int .u64 (gr:Int),.int .i64 ((ti:Int)+(va:Int)+55),.int .i64 (co:Int),.int .i64 (ti:Int),.int .i64 (va:Int)] 60)).heap.size=q+1:=by rw [←hq];simp
  have h1:=heap_alloc_new w (.cells #[.int .i64 (kd:Int),.int .i64 (ct:Int),.int .i64 (na:Int),.int .i64 fi,.int .i64 la,.int .u64 (le:Int),.int .u64 (gr:Int),.int .i64 ((ti:Int)+(va:Int)+55),.int .i64 (co:Int),.int .i64 (ti:Int),.int .i64 (va:Int)] 60)
  rw [hq] at h1
  have hB:Below (w.alloc (.cells #[.int .i64 (kd:Int),.int .i64 (ct:Int),.int .i64 (na:Int),.int .i64 fi,.int .i64 la,.int .u64 (le:Int),.int .u64 (gr:Int),.int .i64 ((ti:Int)+(va:Int)+55),.int .i64 (co:Int),.int .i64 (ti:Int),.int .i64 (va:Int)] 60)).heap.size (w.alloc (.cells #[.int .i64 (kd:Int),.int .i64 (ct:Int),.int .i64 (na:Int),.int .i64 fi,.int .i64 la,.int .u64 (le:Int),.int .u64 (gr:Int),.int .i64 ((ti:Int)+(va:Int)+55),.int .i64 (co:Int),.int .i64 (ti:Int),.int .i64 (va:Int)] 60)) W1:=by rw [←hW1];exact (Below.refl _ _).alloc (Nat.le_refl _) _
  refine ⟨?_,?_,hA.trans (hB.mono hA.size)⟩
  ·rw [hB.block q (by omega)];exact h1
  ·rw [←hW1,←hs];exact heap_alloc_new _ _
 have HQ:=qA hq
 obtain ⟨o0,o1,o2,o3,o4,o5,o6,o7,o8,o9,o10⟩:=rowcells11 HW1.out.1
 have n1:(ti:Int)+(va:Int)+55-51=(ti:Int)+(va:Int)+4:=by omega
 go_enter Tryz.func27,Tryz.ntmps27
 go_wp2_with fail
 (try rw [hW1])
 (try rw [hq])
 clear hW1 hq o0 o1 o2 o3 o4 o5 o6 o7 o8 o9 o10
 refine (HUn.out W1 HW1.out.2.2).mono ?_
 rintro e w2 ⟨rfl,md,rfl⟩
 have HW2:Hid ((W1.drewN md).heap[q]?=some (.cells #[.int .i64 (kd:Int),.int .i64 (ct:Int),.int .i64 (na:Int),.int .i64 fi,.int .i64 la,.int .u64 (le:Int),.int .u64 (gr:Int),.int .i64 ((ti:Int)+(va:Int)+55),.int .i64 (co:Int),.int .i64 (ti:Int),.int .i64 (va:Int)] 60 (0,0))∧(W1.drewN md).heap[q+1]?=some (.cells #[.int .i64 0,.int .i64 0,.int .i64 0,.int .i64 0,.int .i64 0,.int .u64 0,.int .u64 0,.int .i64 0,.int .i64 0,.int .i64 0,.int .i64 0,.slice none 0 0,.slice none 0 0] 62 (0,0))∧Below w.heap.size w (W1.drewN md)):=⟨HW1.out.1,HW1.out.2.1,HW1.out.2.2.os,HW1.out.2.2.tape,HW1.out.2.2.output,HW1.out.2.2.size,HW1.out.2.2.block⟩
 clear HUn HW1
 generalize W1.drewN md=W2 at*
 go_upto_region 8 with fail
 obtain ⟨o0,o1,o2,o3,o4,o5,o6,o7,o8,o9,o10⟩:=rowcells11 HW2.out.1
 obtain ⟨z0,z1,z2,z3,z4,z5,z6,z7,z8,z9,z10,z11,z12⟩:=rowcells13 HW2.out.2.1
 have y0:=froz HW2.out.2.1 0
 have y1:=froz HW2.out.2.1 1
 have y2:=froz HW2.out.2.1 2
 have y3:=froz HW2.out.2.1 3
 have y4:=froz HW2.out.2.1 4
 have y5:=froz HW2.out.2.1 5
 have y6:=froz HW2.out.2.1 6
 have y7:=froz HW2.out.2.1 7
 have y8:=froz HW2.out.2.1 8
 have y9:=froz HW2.out.2.1 9
 have y10:=froz HW2.out.2.1 10
 have y11:=froz HW2.out.2.1 11
 have y12:=froz HW2.out.2.1 12
 have k1:¬K=ti:=by omega
 have k2:ti≤ti+va:=by omega
 have k3:(ti:Int)≤(ti:Int)+(va:Int):=by omega
 have k4:ti≤K:=by omega
 have k5:(ti:Int)≤(K:Int):=by omega
 obtain ⟨X,hX⟩:∃X,(((((((((((((W2.setCell ⟨q+1,0,none⟩ (.int .i64 (kd:Int))).setCell ⟨q+1,1,none⟩ (.int .i64 (ct:Int))).setCell ⟨q+1,2,none⟩ (.int .i64 (na:Int))).setCell ⟨q+1,3,none⟩ (.int .i64 fi)).setCell ⟨q+1,4,none⟩ (.int .i64 la)).setCell ⟨q+1,5,none⟩ (.int .u64 (le:Int))).setCell ⟨q+1,6,none⟩ (.int .u64 (gr:Int))).setCell ⟨q+1,7,none⟩ (.int .i64 ((ti:Int)+(va:Int)+55))).setCell ⟨q+1,8,none⟩ (.int .i64 (co:Int))).setCell ⟨q+1,9,none⟩ (.int .i64 (ti:Int))).setCell ⟨q+1,10,none⟩ (.int .i64 (va:Int))).setCell ⟨q+1,11,none⟩ (.slice (some ⟨b,o+51,none⟩) ti K)).setCell ⟨q+1,12,none⟩ (.slice (some ⟨b,o+51+ti,none⟩) va (K-ti)))=X:=⟨_,rfl⟩
 have hx1:X.heap[q+1]?=some (.cells #[.int .i64 (kd:Int),.int .i64 (ct:Int),.int .i64 (na:Int),.int .i64 fi,.int .i64 la,.int .u64 (le:Int),.int .u64 (gr:Int),.int .i64 ((ti:Int)+(va:Int)+55),.int .i64 (co:Int),.int .i64 (ti:Int),.int .i64 (va:Int),.slice (some ⟨b,o+51,none⟩) ti K,.slice (some ⟨b,o+51+ti,none⟩) va (K-ti)] 62 (0,0)):=by rw [←hX];exact bM _ _ _ _ _ _ _ _ _ _ _ _ _ _ _ _ _ _ _ _ _ _ _ _ _ _ _ _ _ HW2.out.2.1
 have hx2:Below w.heap.size w X:=by rw [←hX];exact vO HW2.out.2.2 _ _ _ _ _ _ _ _ _ _ _ _ _ _ (by have:=HQ.out;omega)
 have HFR:Hid (X.drew.heap[q+1]?=some (.cells #[.int .i64 (kd:Int),.int .i64 (ct:Int),.int .i64 (na:Int),.int .i64 fi,.int .i64 la,.int .u64 (le:Int),.int .u64 (gr:Int),.int .i64 ((ti:Int)+(va:Int)+55),.int .i64 (co:Int),.int .i64 (ti:Int),.int .i64 (va:Int),.slice (some ⟨b,o+51,none⟩) ti K,.slice (some ⟨b,o+51+ti,none⟩) va (K-ti)] 62 (0,0))∧Below w.heap.size w X.drew):=⟨hx1,hx2.drew⟩
 clear hx1 hx2
 clear HW2
 go_region
 go_wp2_with fail
 (try rw [hX])
 clear hX
 obtain ⟨WF,hWF⟩:∃WF,X.drew=WF:=⟨_,rfl⟩
 rw [hWF] at HFR⊢
 clear hWF
 obtain ⟨u0,u1,u2,u3,u4,u5,u6,u7,u8,u9,u10,u11,u12⟩:=rowcells13 HFR.out.1
 exact bodyPost_ret (v:= .tuple #[.agg (ptA kd ct na fi la le gr ((ti:Int)+(va:Int)+55) co ti va (.slice (some ⟨b,o+51,none⟩) ti K) (.slice (some ⟨b,o+51+ti,none⟩) va (K-ti))),.int .i64 0]) (by simp [results,Tryz.results27,go_sem,ptA,u0,u1,u2,u3,u4,u5,u6,u7,u8,u9,u10,u11,u12]) rfl ⟨rfl,HFR.out.2⟩
end Go.Proofs.YtkpmalfigmimaaaGreatDoor
namespace Go.Proofs.YtkpmalfigmimaaaGreatDoor
open Go.RowKit
open M
def qIN (n:Nat) (v:Nat→Nat) (w:World) (e:Ending) (w':World):Prop:=∃(p:Option Addr) (c:Nat),e= .returned (.tuple #[.slice p n c,.int .i64 0])∧n≤c∧qX w' p n v∧Below w.heap.size w w'
theorem pI (kd co m na le gr ti va:Nat) (fi la by_:Int) (v:Nat→Nat) (vs:Value) (vb:List Nat) (w:World) (hv:jY w vs vb) (hb:∀n∈vb,n<256) (hl:vb.length≤1000000000000) (hn:m+1≤4096) (hval:xY kd (m+1) v co vb) (hnar:kd=2→qBU v (m+1)) (hf:∀i,i<m+1→v i<18446744073709551616) (hT:qQ w):
  Calls Tryz.prog 50 #[.agg #[.int .i64 (kd:Int),.int .i64 ((m:Int)+1),.int .i64 (na:Int),.int .i64 fi,.int .i64 la,.int .u64 (le:Int),.int .u64 (gr:Int),.int .i64 by_,.int .i64 (co:Int),.int .i64 (ti:Int),.int .i64 (va:Int)],vs] w (qIN (m+1) v w):=by
 obtain ⟨q,hq⟩:∃q,w.heap.size=q:=⟨_,rfl⟩
 obtain ⟨W1,hW1⟩:∃W1,w.alloc (.cells #[.int .i64 (kd:Int),.int .i64 ((m:Int)+1),.int .i64 (na:Int),.int .i64 fi,.int .i64 la,.int .u64 (le:Int),.int .u64 (gr:Int),.int .i64 by_,.int .i64 (co:Int),.int .i64 (ti:Int),.int .i64 (va:Int)] 60)=W1:=⟨_,rfl⟩
 have HW:Hid (W1.heap[q]?=some (.cells #[.int .i64 (kd:Int),.int .i64 ((m:Int)+1),.int .i64 (na:Int),.int .i64 fi,.int .i64 la,.int .u64 (le:Int),.int .u64 (gr:Int),.int .i64 by_,.int .i64 (co:Int),.int .i64 (ti:Int),.int .i64 (va:Int)] 60 (0,0))∧Below w.heap.size w W1):=by rw [←hW1,←hq];exact ⟨heap_alloc_new _ _,(Below.refl _ _).alloc (Nat.le_refl _) _⟩
 have o0:W1.cell? ⟨q,0,none⟩=some (.int .i64 (kd:Int)):=by rw [cell_of_row _ _ _ _ _ _ HW.out.1];rfl
 have o1:W1.cell? ⟨q,1,none⟩=some (.int .i64 ((m:Int)+1)):=by rw [cell_of_row _ _ _ _ _ _ HW.out.1];rfl
 have o8:W1.cell? ⟨q,8,none⟩=some (.int .i64 (co:Int)):=by rw [cell_of_row _ _ _ _ _ _ HW.out.1];rfl
 by_cases hk:kd=2
 ·have hB:sW (m+1) (fun i=>gY (v i)) 6 co vb:=by unfold xY at hval;rw [if_pos (by rw [hk];rfl)] at hval;exact hval
  have HU:=qA (rE co vs vb (m+1) W1 hB.lo hB.hi (qD hv HW.out.2) hb hl hn (hT.below HW.out.2))
  rw [show (((m+1:Nat)):Int)=(m:Int)+1 from by simp] at HU
  have HIS:=qA hB.is
  have HM:=qA (fun (p:Option Addr) (c:Nat) (w1:World) (hR:jA w1 p (m+1) (fun i=>gY (v i)))=>qB9 p (m+1) c (fun i=>gY (v i)) w1 hR hn (fun i hi=>rW _ (hf i hi)))
  have HN:=qA (hnar hk)
  have e2:((kd:Int)==2)=true:=by rw [beq_iff_eq];omega
  clear hk
  clear hv hb hl hval hnar hf hT hB
  go_enter Tryz.func50,Tryz.ntmps50
  go_wp2_with fail
  (try rw [hW1])
  (try rw [hq])
  clear hW1 hq o0 o1 o8
  refine HU.out.mono ?_
  intro e w2 hE
  rcases hE with ⟨rfl,B2,hno⟩|⟨u,f,rfl,hU,hP,hfx⟩
  ·exact absurd HIS.out (hno _)
  obtain ⟨p2,c2,rfl,hc2,R2⟩:=hU.row
  have HR2:=qA (R2.congr (hfx _ HIS.out))
  have HB2:Hid (Below w.heap.size w w2):=HW.out.2.trans (hU.2.1.mono HW.out.2.size)
  clear hU hP hfx R2 HU HW HIS
  go_wp2_with fail
  refine (HM.out p2 c2 w2 HR2.out).mono ?_
  rintro e w3 ⟨g3,rfl,hg3,hM,B3⟩
  have HF:Hid (qIN (m+1) v w (.returned (.tuple #[.slice (some ⟨g3,0,none⟩) (m+1) (m+1),.int .i64 0])) w3):=⟨_,_,rfl,Nat.le_refl _,hM.row64.congr HN.out,HB2.out.trans (B3.mono HB2.out.size)⟩
  clear hg3 hM B3 HM
  go_wp2_with fail
  go_ret2
  exact HF.out
 ·have hB:sX (m+1) v 6 co vb:=by unfold xY at hval;rw [if_neg (by omega)] at hval;exact hval
  have HU:=qA (rF co vs vb (m+1) W1 hB.lo hB.hi (qD hv HW.out.2) hb hl hn (hT.below HW.out.2))
  rw [show (((m+1:Nat)):Int)=(m:Int)+1 from by simp] at HU
  have HIS:=qA hB.is
  have e2:((kd:Int)==2)=false:=by rw [beq_eq_false_iff_ne];omega
  clear hv hb hl hval hnar hf hT hB hk
  go_enter Tryz.func50,Tryz.ntmps50
  go_wp2_with fail
  (try rw [hW1])
  (try rw [hq])
  clear hW1 hq o0 o1 o8
  refine HU.out.mono ?_
  intro e w2 hE
  rcases hE with ⟨rfl,B2,hno⟩|⟨u,f,rfl,hU,hP,hfx⟩
  ·exact absurd HIS.out (hno _)
  obtain ⟨p2,c2,rfl,hc2,R2⟩:=hU.row
  have HF:Hid (qIN (m+1) v w (.returned (.tuple #[.slice p2 (m+1) c2,.int .i64 0])) w2):=⟨_,_,rfl,hc2,R2.congr (hfx _ HIS.out),HW.out.2.trans (hU.2.1.mono HW.out.2.size)⟩
  clear hU hP hfx R2 HU HW HIS
  go_wp2_with fail
  go_ret2
  exact HF.out
end Go.Proofs.YtkpmalfigmimaaaGreatDoor
namespace Go.Proofs.YtkpmalfigmimaaaGreatDoor
open Go.RowKit
open M
def ptN (n:Nat):Array Value:=madeCells (Value.agg #[.int .i64 0,.int .u64 0]).cells (n*2)
theorem qI5 (n i:Nat) (h:i<n):(ptN n)[i*2]?=some (.int .i64 0)∧(ptN n)[i*2+1]?=some (.int .u64 0):=by
 unfold ptN
 have e0:i*2%2=0:=by omega
 have e1:(i*2+1)%2=1:=by omega
 constructor
 ·simp [madeCells,Value.cells,h]
 ·simp [madeCells,Value.cells,e1,show i*2+1<n*2 by omega]
theorem qB3 (c:Nat) (h:c≤4096) (w:World):
  (Instr.makeSlice 22 (.int .i64 (c:Int)) (.int .i64 (c:Int))).run Tryz.prog w= .ok (.slice (some ⟨w.heap.size,0,none⟩) c c) (w.alloc (.cells (ptN c) 47)):=by
 have hz:(Tryz.prog.info? 47).bind (·.zero)=some (.agg #[.int .i64 0,.int .u64 0]):=by kernel_rfl
 have hs:(Tryz.prog.info? 47).map (·.size)=some 2:=by kernel_rfl
 have hb:(Tryz.prog.info? 47).map (·.bytes)=some 16:=by kernel_rfl
 cases hi:Tryz.prog.info? 47 with
 |none=>simp [hi] at hs
 |some i=>
  simp only [hi,Option.bind_some,Option.map_some,Option.some.injEq] at hz hs hb
  rw [run_make w 22 47 i _ Tryz.underlying22 hi hz .i64 .i64 (c:Int) (c:Int) (by omega) (by omega) (by rw [hb];omega) (by omega)]
  rw [hs];simp [ptN]
structure PW (w:World) (g n k:Nat) (t:Nat→Int) (v:Nat→Nat):Prop where
 c1:∀i,i<n→w.cell? ⟨g,i*2,none⟩=some (.int .i64 (if i<k then t i else 0))
 c2:∀i,i<n→w.cell? ⟨g,i*2+1,none⟩=some (.int .u64 ((if i<k then v i else 0:Nat):Int))
 fz:∀j,w.frozen? ⟨g,j,none⟩=false
 blk:∃cur:Array Value,w.heap[g]?=some (.cells cur 47 (0,0))
theorem PW.new (w:World) (n:Nat) (t:Nat→Int) (v:Nat→Nat):PW (w.alloc (.cells (ptN n) 47)) w.heap.size n 0 t v:=by
 have hn:=heap_alloc_new w (.cells (ptN n) 47)
 refine ⟨fun i hi=>?_,fun i hi=>?_,fun i=>frozen_of_row _ _ _ _ _ hn,_,hn⟩
 ·rw [cell_of_row _ _ _ _ _ _ hn,(qI5 n i hi).1];rfl
 ·rw [cell_of_row _ _ _ _ _ _ hn,(qI5 n i hi).2];rfl
theorem PW.set {w:World} {g n k:Nat} {t:Nat→Int} {v:Nat→Nat} (h:PW w g n k t v) (hk:k<n):PW ((w.setCell ⟨g,k*2,none⟩ (.int .i64 (t k))).setCell ⟨g,k*2+1,none⟩ (.int .u64 (v k:Int))) g n (k+1) t v:=by
 refine ⟨fun i hi=>?_,fun i hi=>?_,fun i=>by rw [qE,qE];exact h.fz i,?_⟩
 ·rw [qC _ _ _ _ _ (by omega)]
  by_cases e:i=k
  ·subst e
   rw [qF _ _ _ _ _ (h.c1 i hi)];simp
  ·rw [qC _ _ _ _ _ (by omega),h.c1 i hi]
   by_cases h1:i<k
   ·simp [h1,show i<k+1 from by omega]
   ·simp [h1,show ¬i<k+1 from by omega]
 ·by_cases e:i=k
  ·subst e
   rw [qF _ _ _ _ (.int .u64 ((if i<i then v i else 0:Nat):Int)) (by rw [qC _ _ _ _ _ (by omega)];exact h.c2 i hi)];simp
  ·rw [qC _ _ _ _ _ (by omega),qC _ _ _ _ _ (by omega),h.c2 i hi]
   by_cases h1:i<k
   ·simp [h1,show i<k+1 from by omega]
   ·simp [h1,show ¬i<k+1 from by omega]
 ·obtain ⟨cur,h1⟩:=h.blk
  exact ⟨_,heap_setCell_same _ _ _ _ _ _ (heap_setCell_same _ _ _ _ _ _ h1)⟩
theorem PW.drew {w:World} {g n k:Nat} {t:Nat→Int} {v:Nat→Nat} (h:PW w g n k t v):PW w.drew g n k t v:=⟨h.c1,h.c2,h.fz,h.blk⟩
theorem PW.row {w:World} {g n:Nat} {t:Nat→Int} {v:Nat→Nat} (h:PW w g n n t v):yL w (some ⟨g,0,none⟩) n t v:=fun _=>
 ⟨g,0,rfl,fun i hi=>⟨by rw [Nat.zero_add,h.c1 i hi,if_pos hi],by rw [Nat.zero_add,h.c2 i hi,if_pos hi]⟩⟩
def qHT (n:Nat) (t:Nat→Int) (v:Nat→Nat) (w:World) (e:Ending) (w':World):Prop:=∃g,e= .returned (.tuple #[.slice (some ⟨g,0,none⟩) n n,.int .i64 0])∧yL w' (some ⟨g,0,none⟩) n t v∧Below w.heap.size w w'
theorem qBC (kd co m na le gr ti va ct cv:Nat) (pt pv:Option Addr) (fi la:Int) (t:Nat→Int) (v:Nat→Nat) (tb vb:List Nat) (w:World) (hG:dV kd (m+1) t v) (ht:∀i,i<m+1→I64 (t i)) (hf:∀i,i<m+1→v i<18446744073709551616) (hval:xY kd (m+1) v co vb) (htb:packed (tbn t (m+1))=tb) (hti:ti=tb.length) (hva:va=vb.length)
  (hna:na=vS v (m+1)) (hfi:fi=t 0) (hla:la=t m) (hle:le=leV v (m+1)) (hgr:gr=grV v (m+1)) (hT1:jY w (.slice pt ti ct) tb) (hV1:jY w (.slice pv va cv) vb) (hvb:∀n∈vb,n<256) (hT:qQ w):
  Calls Tryz.prog 28 #[.agg #[.int .i64 (kd:Int),.int .i64 ((m:Int)+1),.int .i64 (na:Int),.int .i64 fi,.int .i64 la,.int .u64 (le:Int),.int .u64 (gr:Int),.int .i64 ((ti:Int)+(va:Int)+55),.int .i64 (co:Int),.int .i64 (ti:Int),.int .i64 (va:Int),.slice pt ti ct,.slice pv va cv]] w (qHT (m+1) t v w):=by
 have hn:m+1≤4096:=hG.hi
 have hvl:=xP kd (m+1) v co vb hf hval
 have htl:=xO t (m+1)
 rw [htb] at htl
 obtain ⟨q,hq⟩:∃q,w.heap.size=q:=⟨_,rfl⟩
 obtain ⟨W1,hW1⟩:∃W1,w.alloc (.cells #[.int .i64 (kd:Int),.int .i64 ((m:Int)+1),.int .i64 (na:Int),.int .i64 fi,.int .i64 la,.int .u64 (le:Int),.int .u64 (gr:Int),.int .i64 ((ti:Int)+(va:Int)+55),.int .i64 (co:Int),.int .i64 (ti:Int),.int .i64 (va:Int),.slice pt ti ct,.slice pv va cv] 62)=W1:=⟨_,rfl⟩
 have HW:Hid (W1.heap[q]?=some (.cells #[.int .i64 (kd:Int),.int .i64 ((m:Int)+1),.int .i64 (na:Int),.int .i64 fi,.int .i64 la,.int .u64 (le:Int),.int .u64 (gr:Int),.int .i64 ((ti:Int)+(va:Int)+55),.int .i64 (co:Int),.int .i64 (ti:Int),.int .i64 (va:Int),.slice pt ti ct,.slice pv va cv] 62 (0,0))∧Below w.heap.size w W1):=by rw [←hW1,←hq];exact ⟨heap_alloc_new _ _,(Below.refl _ _).alloc (Nat.le_refl _) _⟩
 have HUt:=qA (fun (w1:World) (hB:Below w.heap.size w w1)=>qDV (.slice pt ti ct) tb (m+1) w1 (qD hT1 hB) (by rw [←htb];exact zV _) (by omega) hn)
 rw [show (((m+1:Nat)):Int)=(m:Int)+1 from by simp] at HUt
 have HPk:Hid (tH tb t (m+1)):=⟨ht,hG.up,htb⟩
 have HUv:=qA (fun (w1:World) (hB:Below w.heap.size w w1)=>pI kd co m na le gr ti va fi la ((ti:Int)+(va:Int)+55) v (.slice pv va cv) vb w1 (qD hV1 hB) hvb (by omega) hn hval (fun hk=>hG.nar (by rw [hk];rfl)) hf (hT.below hB))
 have HPo:=qA (fun (g:Nat) (w1:World) (hB:Below w.heap.size w w1) (hR:yL w1 (some ⟨g,0,none⟩) (m+1) t v)=>pR kd (some ⟨g,0,none⟩) m (m+1) t v w1 hR hG ht hf (hT.below hB))
 have HEQ:Hid (∀(co' T V gt c:Nat) (p:Option Addr) (vb':List Nat),T=(packed (tbn t (m+1))).length→V=vb'.length→xY kd (m+1) v co' vb'→ptA kd (m+1) (vS v (m+1)) (t 0) (t (m+1-1)) (leV v (m+1)) (grV v (m+1)) ((T:Int)+(V:Int)+55) co' T V (.slice (some ⟨gt,0,none⟩) T T) (.slice p V c)=ptA kd (m+1) na fi la le gr ((ti:Int)+(va:Int)+55) co ti va (.slice (some ⟨gt,0,none⟩) ti ti) (.slice p va c)):=fun co' T V gt c p vb' h1 h2 h3=>by
  obtain ⟨rfl,rfl⟩:=qG9 kd (m+1) v co' co vb' vb h3 hval
  rw [Nat.add_sub_cancel,h1,h2,htb,←hti,←hva,hna,hfi,hla,hle,hgr]
 have hmk:=qB3 (m+1) hn
 rw [show (((m+1:Nat)):Int)=(m:Int)+1 from by simp] at hmk
 clear hG ht hf hval htb hti hva hna hfi hla hle hgr hT1 hV1 hvb hT hvl htl
 obtain ⟨o0,o1,o2,o3,o4,o5,o6,o7,o8,o9,o10,o11,o12⟩:=rowcells13 HW.out.1
 have HQ:=qA hq
 go_enter Tryz.func28,Tryz.ntmps28
 go_wp2_with fail
 (try rw [hW1])
 (try rw [hq])
 clear hW1 hq o0 o1 o2 o3 o4 o5 o6 o7 o8 o9 o10 o11 o12
 refine (HUt.out W1 HW.out.2).mono ?_
 intro e w2 hE
 rcases hE with ⟨rfl,B2,hno⟩|⟨g2,f2,rfl,hg2,hT2,B2,hP2,hf2⟩
 ·exact absurd ⟨t,HPk.out⟩ hno
 have HT2:Hid (qAB w2 (some ⟨g2,0,none⟩) (m+1) t):=fun h0=>by
  obtain ⟨b,o,hp,hc⟩:=hT2 h0
  exact ⟨b,o,hp,fun i hi=>by rw [hc i hi,hf2 t (vZ HPk.out) i hi]⟩
 have HW2:Hid (w2.heap[q]?=some (.cells #[.int .i64 (kd:Int),.int .i64 ((m:Int)+1),.int .i64 (na:Int),.int .i64 fi,.int .i64 la,.int .u64 (le:Int),.int .u64 (gr:Int),.int .i64 ((ti:Int)+(va:Int)+55),.int .i64 (co:Int),.int .i64 (ti:Int),.int .i64 (va:Int),.slice pt ti ct,.slice pv va cv] 62 (0,0))∧Below w.heap.size w w2):=⟨by rw [B2.block q (qB HW.out.1)];exact HW.out.1,HW.out.2.trans (B2.mono HW.out.2.size)⟩
 clear B2 hg2 hT2 hP2 hf2 HW HUt HPk
 obtain ⟨o0,o1,o2,o3,o4,o5,o6,o7,o8,o9,o10,o11,o12⟩:=rowcells13 HW2.out.1
 go_wp2_with fail
 refine (HUv.out w2 HW2.out.2).mono ?_
 rintro e w3 ⟨p3,c3,rfl,hc3,R3,B3⟩
 have HR3:=qA R3
 have HW3:Hid (w3.heap[q]?=some (.cells #[.int .i64 (kd:Int),.int .i64 ((m:Int)+1),.int .i64 (na:Int),.int .i64 fi,.int .i64 la,.int .u64 (le:Int),.int .u64 (gr:Int),.int .i64 ((ti:Int)+(va:Int)+55),.int .i64 (co:Int),.int .i64 (ti:Int),.int .i64 (va:Int),.slice pt ti ct,.slice pv va cv] 62 (0,0))∧Below w.heap.size w w3):=⟨by rw [B3.block q (qB HW2.out.1)];exact HW2.out.1,HW2.out.2.trans (B3.mono HW2.out.2.size)⟩
 have HT3:=qA (HT2.out.below B3)
 clear R3 B3 HUv HW2 HT2 o0 o1 o2 o3 o4 o5 o6 o7 o8 o9 o10 o11 o12
 have o1:w3.cell? ⟨q,1,none⟩=some (.int .i64 ((m:Int)+1)):=by rw [cell_of_row _ _ _ _ _ _ HW3.out.1];rfl
 obtain ⟨g,hg⟩:∃g,w3.heap.size=g:=⟨_,rfl⟩
 obtain ⟨W4,hW4⟩:∃W4,w3.alloc (.cells (ptN (m+1)) 47)=W4:=⟨_,rfl⟩
 have HA:Hid (PW W4 g (m+1) 0 t v∧Below g w3 W4):=by rw [←hW4,←hg];exact ⟨PW.new _ _ _ _,(Below.refl _ _).alloc (Nat.le_refl _) _⟩
 have HGG:=qA hg
 go_upto_region 8 with fail
 (try rw [hW4])
 (try rw [hg])
 clear hW4 hg hmk o1
 go_upto_block 0 with fail
 go_cut [7] from 8 (fun t7 wc=>t7= .slice (some ⟨g,0,none⟩) (m+1) (m+1)∧Hid (PW wc g (m+1) (m+1) t v∧Below g w3 wc))
 case first=>
  as_aux_lemma=>
   go_wp2_with fail
   go_loopw [39] (fun t39 wr=>∃k:Nat,t39= .int .i64 (k:Int)∧Hid (k≤m+1∧PW wr g (m+1) k t v∧Below g w3 wr)) (fun t39 _=>m+1-(intOf t39).toNat)
   case atStart=>exact ⟨0,rfl,Nat.zero_le _,HA.out⟩
   case round=>
    obtain ⟨k,rfl,hI⟩:=hrel
    by_cases hlt:k<m+1
    ·have hli:(k:Int)<(m:Int)+1:=by omega
     obtain ⟨b5,o5,hp5,hc5⟩:=HT3.out (by omega)
     obtain ⟨b6,o6,hp6,hc6⟩:=HR3.out (by omega)
     simp only [Option.some.injEq,Addr.mk.injEq,and_true] at hp5
     obtain ⟨rfl,rfl⟩:=hp5
     have c5:wr.cell? ⟨g2,k,none⟩=some (.int .i64 (t k)):=by
      have:=hc5 k hlt
      rw [Nat.zero_add] at this
      rw [hI.out.2.2.cell (p:=⟨g2,k,none⟩) (by rw [←HGG.out];exact block_lt_of_cell this)];exact this
     have c6:wr.cell? ⟨b6,o6+k,none⟩=some (.int .u64 (v k:Int)):=by
      rw [hI.out.2.2.cell (p:=⟨b6,o6+k,none⟩) (by rw [←HGG.out];exact block_lt_of_cell (hc6 k hlt))];exact hc6 k hlt
     have d1:wr.cell? ⟨g,k*2,none⟩=some (.int .i64 0):=by rw [hI.out.2.1.c1 k hlt,if_neg (by omega)]
     have d2:wr.cell? ⟨g,k*2+1,none⟩=some (.int .u64 0):=by rw [hI.out.2.1.c2 k hlt,if_neg (by omega)];rfl
     have d3:=hI.out.2.1.fz (k*2)
     have d4:=hI.out.2.1.fz (k*2+1)
     obtain ⟨x,hx⟩:∃x,t k=x:=⟨_,rfl⟩
     obtain ⟨y,hy⟩:∃y,v k=y:=⟨_,rfl⟩
     have HN:Hid (PW ((wr.setCell ⟨g,k*2,none⟩ (.int .i64 x)).setCell ⟨g,k*2+1,none⟩ (.int .u64 (y:Int))) g (m+1) (k+1) t v∧Below g w3 ((wr.setCell ⟨g,k*2,none⟩ (.int .i64 x)).setCell ⟨g,k*2+1,none⟩ (.int .u64 (y:Int)))):=by
      rw [←hx,←hy];exact ⟨hI.out.2.1.set hlt,qH (qH hI.out.2.2 _ _ _ (Nat.le_refl _)) _ _ _ (Nat.le_refl _)⟩
     obtain ⟨X,hX⟩:∃X,(wr.setCell ⟨g,k*2,none⟩ (.int .i64 x)).setCell ⟨g,k*2+1,none⟩ (.int .u64 (y:Int))=X:=⟨_,rfl⟩
     rw [hX] at HN
     rw [hx] at c5
     rw [hy] at c6
     have HP6:=qA hp6
     rw [hp6]
     clear hc5 hc6 hx hy hp6
     go_wp2_with fail
     go_region
     (try rw [hX])
     clear hX c5 c6 d1 d2 d3 d4
     go_wp2_with fail
     go_roundw
     case rel=>exact ⟨k+1,by simp,hlt,HN.out.1.drew,HN.out.2.drew⟩
     case measure=>simp [intOf];omega
    ·have hk:k=m+1:=by have:=hI.out.1;omega
     have hI':Hid (PW wr g (m+1) (m+1) t v∧Below g w3 wr):=by have:=hI.out.2;rw [hk] at this;exact this
     have hli:¬(k:Int)<(m:Int)+1:=by omega
     go_wp2_with fail
     go_meet
     case rel=>exact ⟨rfl,hI'.out⟩
 case rest=>
  obtain ⟨rfl,HC⟩:=hcut
  as_aux_lemma=>
   have HB4:Hid (Below w.heap.size w wc):=HW3.out.2.trans (HC.out.2.mono (by rw [←HGG.out];exact HW3.out.2.size))
   have HQ4:Hid (wc.heap[q]?=some (.cells #[.int .i64 (kd:Int),.int .i64 ((m:Int)+1),.int .i64 (na:Int),.int .i64 fi,.int .i64 la,.int .u64 (le:Int),.int .u64 (gr:Int),.int .i64 ((ti:Int)+(va:Int)+55),.int .i64 (co:Int),.int .i64 (ti:Int),.int .i64 (va:Int),.slice pt ti ct,.slice pv va cv] 62 (0,0))):=by show _=_;rw [HC.out.2.block q (by rw [←HGG.out];exact qB HW3.out.1)];exact HW3.out.1
   have o0:wc.cell? ⟨q,0,none⟩=some (.int .i64 (kd:Int)):=by rw [cell_of_row _ _ _ _ _ _ HQ4.out];rfl
   have HPR:=qA HC.out.1.row
   clear HC HW3 HT3 HR3 HA
   go_wp2_with fail
   refine (HPo.out g wc HB4.out HPR.out).mono ?_
   rintro e w5 ⟨co',T',V',gt,cx,px,vb',rfl,hT',-,hV',-,-,hval',B5⟩
   rw [HEQ.out co' T' V' gt cx px vb' hT' hV' hval']
   unfold ptA
   have HQ5:Hid (w5.heap[q]?=some (.cells #[.int .i64 (kd:Int),.int .i64 ((m:Int)+1),.int .i64 (na:Int),.int .i64 fi,.int .i64 la,.int .u64 (le:Int),.int .u64 (gr:Int),.int .i64 ((ti:Int)+(va:Int)+55),.int .i64 (co:Int),.int .i64 (ti:Int),.int .i64 (va:Int),.slice pt ti ct,.slice pv va cv] 62 (0,0))∧Below w.heap.size w w5∧yL w5 (some ⟨g,0,none⟩) (m+1) t v):=⟨by rw [B5.block q (qB HQ4.out)];exact HQ4.out,HB4.out.trans (B5.mono HB4.out.size),HPR.out.below B5⟩
   clear hT' hV' hval' B5 HQ4 HB4 HPR o0 HPo HEQ
   obtain ⟨r,hr⟩:∃r,w5.heap.size=r:=⟨_,rfl⟩
   obtain ⟨W6,hW6⟩:∃W6,w5.alloc (.cells #[.int .i64 (kd:Int),.int .i64 ((m:Int)+1),.int .i64 (na:Int),.int .i64 fi,.int .i64 la,.int .u64 (le:Int),.int .u64 (gr:Int),.int .i64 ((ti:Int)+(va:Int)+55),.int .i64 (co:Int),.int .i64 (ti:Int),.int .i64 (va:Int),.slice (some ⟨gt,0,none⟩) ti ti,.slice px va cx] 62)=W6:=⟨_,rfl⟩
   have HW6:Hid (W6.heap[r]?=some (.cells #[.int .i64 (kd:Int),.int .i64 ((m:Int)+1),.int .i64 (na:Int),.int .i64 fi,.int .i64 la,.int .u64 (le:Int),.int .u64 (gr:Int),.int .i64 ((ti:Int)+(va:Int)+55),.int .i64 (co:Int),.int .i64 (ti:Int),.int .i64 (va:Int),.slice (some ⟨gt,0,none⟩) ti ti,.slice px va cx] 62 (0,0))∧W6.heap[q]?=some (.cells #[.int .i64 (kd:Int),.int .i64 ((m:Int)+1),.int .i64 (na:Int),.int .i64 fi,.int .i64 la,.int .u64 (le:Int),.int .u64 (gr:Int),.int .i64 ((ti:Int)+(va:Int)+55),.int .i64 (co:Int),.int .i64 (ti:Int),.int .i64 (va:Int),.slice pt ti ct,.slice pv va cv] 62 (0,0))∧qHT (m+1) t v w (.returned (.tuple #[.slice (some ⟨g,0,none⟩) (m+1) (m+1),.int .i64 0])) W6):=by
    have hA:Below w5.heap.size w5 W6:=by rw [←hW6];exact (Below.refl _ _).alloc (Nat.le_refl _) _
    refine ⟨by rw [←hW6,←hr];exact heap_alloc_new _ _,by rw [hA.block q (qB HQ5.out.1)];exact HQ5.out.1,g,rfl,HQ5.out.2.2.below hA,HQ5.out.2.1.trans (hA.mono HQ5.out.2.1.size)⟩
   go_upto_region 14 with fail
   (try rw [hW6])
   (try rw [hr])
   clear hW6 hr HQ5
   obtain ⟨a0,a1,a2,a3,a4,a5,a6,a7,a8,a9,a10,-,-⟩:=rowcells13 HW6.out.1
   obtain ⟨o0,o1,o2,o3,o4,o5,o6,o7,o8,o9,o10,-,-⟩:=rowcells13 HW6.out.2.1
   have HFIN:=qA HW6.out.2.2
   clear HW6
   go_wp2_with fail
   go_ret2
   exact HFIN.out
end Go.Proofs.YtkpmalfigmimaaaGreatDoor
