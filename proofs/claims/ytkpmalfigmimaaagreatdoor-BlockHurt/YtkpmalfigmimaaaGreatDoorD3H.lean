import Derived.Test.YtkpmalfigmimaaaGreatDoorZ0
import Derived.Test.YtkpmalfigmimaaaGreatDoorD3A
import Derived.Test.YtkpmalfigmimaaaGreatDoorD3N
import Derived.Test.YtkpmalfigmimaaaGreatDoorD3M
import Derived.Deep.CutBlock
import Derived.Deep.DeepCutAuto
import Derived.Deep.CutRange
import Derived.BigQuiet
set_option linter.unusedVariables false
set_option linter.unusedSimpArgs false
set_option maxRecDepth 100000
set_option maxHeartbeats 8000000
namespace Go.Proofs.YtkpmalfigmimaaaGreatDoor
open Go.RowKit
open M
theorem cE (w:World) (q:Nat) (hq:w.heap.size=q) (a b:Array Value) (s t:TypeId):((w.alloc (.cells a s)).alloc (.cells b t)).heap[q]?=some (.cells a s (0,0))∧((w.alloc (.cells a s)).alloc (.cells b t)).heap[q+1]?=some (.cells b t (0,0))∧Below w.heap.size w ((w.alloc (.cells a s)).alloc (.cells b t)):=by
 have hA:Below w.heap.size w (w.alloc (.cells a s)):=(Below.refl _ _).alloc (Nat.le_refl _) _
 have hs:(w.alloc (.cells a s)).heap.size=q+1:=by rw [←hq];simp
 have h1:=heap_alloc_new w (.cells a s)
 rw [hq] at h1
 have hB:Below (w.alloc (.cells a s)).heap.size (w.alloc (.cells a s)) ((w.alloc (.cells a s)).alloc (.cells b t)):=(Below.refl _ _).alloc (Nat.le_refl _) _
 refine ⟨?_,?_,hA.trans (hB.mono hA.size)⟩
 ·rw [hB.block q (by omega)];exact h1
 ·rw [←hs];exact heap_alloc_new _ _
theorem cD (kd co ct na le gr ti va N:Nat) (fi la:Int) (b o n cap:Nat) (w:World) (h:n<N) (hN:N≤1000000000000):
  Calls Tryz.prog 27 #[.agg #[.int .i64 (kd:Int),.int .i64 (ct:Int),.int .i64 (na:Int),.int .i64 fi,.int .i64 la,.int .u64 (le:Int),.int .u64 (gr:Int),.int .i64 (N:Int),.int .i64 (co:Int),.int .i64 (ti:Int),.int .i64 (va:Int)],.slice (some ⟨b,o,none⟩) n cap] w (wM #[.int .i64 0,.int .i64 0,.int .i64 0,.int .i64 0,.int .i64 0,.int .u64 0,.int .u64 0,.int .i64 0,.int .i64 0,.int .i64 0,.int .i64 0,.slice none 0 0,.slice none 0 0] 94 w):=by
 have hln:(n:Int)<(N:Int):=by omega
 obtain ⟨q,hq⟩:∃q,w.heap.size=q:=⟨_,rfl⟩
 obtain ⟨W1,hW1⟩:∃W1,(w.alloc (.cells #[.int .i64 (kd:Int),.int .i64 (ct:Int),.int .i64 (na:Int),.int .i64 fi,.int .i64 la,.int .u64 (le:Int),.int .u64 (gr:Int),.int .i64 (N:Int),.int .i64 (co:Int),.int .i64 (ti:Int),.int .i64 (va:Int)] 60)).alloc (.cells #[.int .i64 0,.int .i64 0,.int .i64 0,.int .i64 0,.int .i64 0,.int .u64 0,.int .u64 0,.int .i64 0,.int .i64 0,.int .i64 0,.int .i64 0,.slice none 0 0,.slice none 0 0] 62)=W1:=⟨_,rfl⟩
 have HR1:Hid (W1.heap[q]?=some (.cells #[.int .i64 (kd:Int),.int .i64 (ct:Int),.int .i64 (na:Int),.int .i64 fi,.int .i64 la,.int .u64 (le:Int),.int .u64 (gr:Int),.int .i64 (N:Int),.int .i64 (co:Int),.int .i64 (ti:Int),.int .i64 (va:Int)] 60 (0,0))∧W1.heap[q+1]?=some (.cells #[.int .i64 0,.int .i64 0,.int .i64 0,.int .i64 0,.int .i64 0,.int .u64 0,.int .u64 0,.int .i64 0,.int .i64 0,.int .i64 0,.int .i64 0,.slice none 0 0,.slice none 0 0] 62 (0,0))∧Below w.heap.size w W1):=by rw [←hW1];exact cE w q hq _ _ _ _
 have HG:Hid (w.heap.size≤q+1):=by show _≤_;omega
 have o7:W1.cell? ⟨q,7,none⟩=some (.int .i64 (N:Int)):=by rw [cell_of_row _ _ _ _ _ _ HR1.out.1];rfl
 go_enter Tryz.func27,Tryz.ntmps27
 go_upto_region 1 with fail
 (try rw [hW1])
 (try rw [hq])
 clear hW1 hq
 have HW2:=qA HR1.out.2
 clear HR1
 obtain ⟨z0,z1,z2,z3,z4,z5,z6,z7,z8,z9,z10,z11,z12⟩:=rowcells13 HW2.out.1
 have y0:=froz HW2.out.1 0
 have y1:=froz HW2.out.1 1
 have y2:=froz HW2.out.1 2
 have y3:=froz HW2.out.1 3
 have y4:=froz HW2.out.1 4
 have y5:=froz HW2.out.1 5
 have y6:=froz HW2.out.1 6
 have y7:=froz HW2.out.1 7
 have y8:=froz HW2.out.1 8
 have y9:=froz HW2.out.1 9
 have y10:=froz HW2.out.1 10
 have y11:=froz HW2.out.1 11
 have y12:=froz HW2.out.1 12
 have HFR:Hid ((((((((((((((W1.setCell ⟨q+1,0,none⟩ (.int .i64 0)).setCell ⟨q+1,1,none⟩ (.int .i64 0)).setCell ⟨q+1,2,none⟩ (.int .i64 0)).setCell ⟨q+1,3,none⟩ (.int .i64 0)).setCell ⟨q+1,4,none⟩ (.int .i64 0)).setCell ⟨q+1,5,none⟩ (.int .u64 0)).setCell ⟨q+1,6,none⟩ (.int .u64 0)).setCell ⟨q+1,7,none⟩ (.int .i64 0)).setCell ⟨q+1,8,none⟩ (.int .i64 0)).setCell ⟨q+1,9,none⟩ (.int .i64 0)).setCell ⟨q+1,10,none⟩ (.int .i64 0)).setCell ⟨q+1,11,none⟩ (.slice none 0 0)).setCell ⟨q+1,12,none⟩ (.slice none 0 0)).heap[q+1]?=some (.cells #[.int .i64 0,.int .i64 0,.int .i64 0,.int .i64 0,.int .i64 0,.int .u64 0,.int .u64 0,.int .i64 0,.int .i64 0,.int .i64 0,.int .i64 0,.slice none 0 0,.slice none 0 0] 62 (0,0))∧Below w.heap.size w (((((((((((((W1.setCell ⟨q+1,0,none⟩ (.int .i64 0)).setCell ⟨q+1,1,none⟩ (.int .i64 0)).setCell ⟨q+1,2,none⟩ (.int .i64 0)).setCell ⟨q+1,3,none⟩ (.int .i64 0)).setCell ⟨q+1,4,none⟩ (.int .i64 0)).setCell ⟨q+1,5,none⟩ (.int .u64 0)).setCell ⟨q+1,6,none⟩ (.int .u64 0)).setCell ⟨q+1,7,none⟩ (.int .i64 0)).setCell ⟨q+1,8,none⟩ (.int .i64 0)).setCell ⟨q+1,9,none⟩ (.int .i64 0)).setCell ⟨q+1,10,none⟩ (.int .i64 0)).setCell ⟨q+1,11,none⟩ (.slice none 0 0)).setCell ⟨q+1,12,none⟩ (.slice none 0 0))):=⟨yP _ _ _ _ _ _ _ _ _ _ _ _ _ _ _ _ _ _ _ _ _ _ _ _ _ _ _ _ _ HW2.out.1,kM HW2.out.2 _ _ _ _ _ _ _ _ _ _ _ _ _ _ HG.out⟩
 clear HW2
 go_wp2_with fail
 generalize (((((((((((((W1.setCell ⟨q+1,0,none⟩ (.int .i64 0)).setCell ⟨q+1,1,none⟩ (.int .i64 0)).setCell ⟨q+1,2,none⟩ (.int .i64 0)).setCell ⟨q+1,3,none⟩ (.int .i64 0)).setCell ⟨q+1,4,none⟩ (.int .i64 0)).setCell ⟨q+1,5,none⟩ (.int .u64 0)).setCell ⟨q+1,6,none⟩ (.int .u64 0)).setCell ⟨q+1,7,none⟩ (.int .i64 0)).setCell ⟨q+1,8,none⟩ (.int .i64 0)).setCell ⟨q+1,9,none⟩ (.int .i64 0)).setCell ⟨q+1,10,none⟩ (.int .i64 0)).setCell ⟨q+1,11,none⟩ (.slice none 0 0)).setCell ⟨q+1,12,none⟩ (.slice none 0 0))=WF at*
 obtain ⟨u0,u1,u2,u3,u4,u5,u6,u7,u8,u9,u10,u11,u12⟩:=rowcells13 HFR.out.1
 exact bodyPost_ret (v:= .tuple #[.agg #[.int .i64 0,.int .i64 0,.int .i64 0,.int .i64 0,.int .i64 0,.int .u64 0,.int .u64 0,.int .i64 0,.int .i64 0,.int .i64 0,.int .i64 0,.slice none 0 0,.slice none 0 0],.int .i64 94]) (by simp [results,Tryz.results27,go_sem,u0,u1,u2,u3,u4,u5,u6,u7,u8,u9,u10,u11,u12]) rfl ⟨rfl,HFR.out.2⟩
theorem cW (kd co ct na le gr ti va N:Nat) (fi la:Int) (b o n cap:Nat) (w:World) (h:N<n) (hn:n≤1000000000000):
  Calls Tryz.prog 27 #[.agg #[.int .i64 (kd:Int),.int .i64 (ct:Int),.int .i64 (na:Int),.int .i64 fi,.int .i64 la,.int .u64 (le:Int),.int .u64 (gr:Int),.int .i64 (N:Int),.int .i64 (co:Int),.int .i64 (ti:Int),.int .i64 (va:Int)],.slice (some ⟨b,o,none⟩) n cap] w (wM #[.int .i64 0,.int .i64 0,.int .i64 0,.int .i64 0,.int .i64 0,.int .u64 0,.int .u64 0,.int .i64 0,.int .i64 0,.int .i64 0,.int .i64 0,.slice none 0 0,.slice none 0 0] 97 w):=by
 have hln:¬(n:Int)<(N:Int):=by omega
 have hgt:(N:Int)<(n:Int):=by omega
 obtain ⟨q,hq⟩:∃q,w.heap.size=q:=⟨_,rfl⟩
 obtain ⟨W1,hW1⟩:∃W1,(w.alloc (.cells #[.int .i64 (kd:Int),.int .i64 (ct:Int),.int .i64 (na:Int),.int .i64 fi,.int .i64 la,.int .u64 (le:Int),.int .u64 (gr:Int),.int .i64 (N:Int),.int .i64 (co:Int),.int .i64 (ti:Int),.int .i64 (va:Int)] 60)).alloc (.cells #[.int .i64 0,.int .i64 0,.int .i64 0,.int .i64 0,.int .i64 0,.int .u64 0,.int .u64 0,.int .i64 0,.int .i64 0,.int .i64 0,.int .i64 0,.slice none 0 0,.slice none 0 0] 62)=W1:=⟨_,rfl⟩
 have HR1:Hid (W1.heap[q]?=some (.cells #[.int .i64 (kd:Int),.int .i64 (ct:Int),.int .i64 (na:Int),.int .i64 fi,.int .i64 la,.int .u64 (le:Int),.int .u64 (gr:Int),.int .i64 (N:Int),.int .i64 (co:Int),.int .i64 (ti:Int),.int .i64 (va:Int)] 60 (0,0))∧W1.heap[q+1]?=some (.cells #[.int .i64 0,.int .i64 0,.int .i64 0,.int .i64 0,.int .i64 0,.int .u64 0,.int .u64 0,.int .i64 0,.int .i64 0,.int .i64 0,.int .i64 0,.slice none 0 0,.slice none 0 0] 62 (0,0))∧Below w.heap.size w W1):=by rw [←hW1];exact cE w q hq _ _ _ _
 have HG:Hid (w.heap.size≤q+1):=by show _≤_;omega
 have o7:W1.cell? ⟨q,7,none⟩=some (.int .i64 (N:Int)):=by rw [cell_of_row _ _ _ _ _ _ HR1.out.1];rfl
 go_enter Tryz.func27,Tryz.ntmps27
 go_upto_region 1 with fail
 (try rw [hW1])
 (try rw [hq])
 clear hW1 hq
 have HW2:=qA HR1.out.2
 clear HR1
 obtain ⟨z0,z1,z2,z3,z4,z5,z6,z7,z8,z9,z10,z11,z12⟩:=rowcells13 HW2.out.1
 have y0:=froz HW2.out.1 0
 have y1:=froz HW2.out.1 1
 have y2:=froz HW2.out.1 2
 have y3:=froz HW2.out.1 3
 have y4:=froz HW2.out.1 4
 have y5:=froz HW2.out.1 5
 have y6:=froz HW2.out.1 6
 have y7:=froz HW2.out.1 7
 have y8:=froz HW2.out.1 8
 have y9:=froz HW2.out.1 9
 have y10:=froz HW2.out.1 10
 have y11:=froz HW2.out.1 11
 have y12:=froz HW2.out.1 12
 have HFR:Hid ((((((((((((((W1.setCell ⟨q+1,0,none⟩ (.int .i64 0)).setCell ⟨q+1,1,none⟩ (.int .i64 0)).setCell ⟨q+1,2,none⟩ (.int .i64 0)).setCell ⟨q+1,3,none⟩ (.int .i64 0)).setCell ⟨q+1,4,none⟩ (.int .i64 0)).setCell ⟨q+1,5,none⟩ (.int .u64 0)).setCell ⟨q+1,6,none⟩ (.int .u64 0)).setCell ⟨q+1,7,none⟩ (.int .i64 0)).setCell ⟨q+1,8,none⟩ (.int .i64 0)).setCell ⟨q+1,9,none⟩ (.int .i64 0)).setCell ⟨q+1,10,none⟩ (.int .i64 0)).setCell ⟨q+1,11,none⟩ (.slice none 0 0)).setCell ⟨q+1,12,none⟩ (.slice none 0 0)).heap[q+1]?=some (.cells #[.int .i64 0,.int .i64 0,.int .i64 0,.int .i64 0,.int .i64 0,.int .u64 0,.int .u64 0,.int .i64 0,.int .i64 0,.int .i64 0,.int .i64 0,.slice none 0 0,.slice none 0 0] 62 (0,0))∧Below w.heap.size w (((((((((((((W1.setCell ⟨q+1,0,none⟩ (.int .i64 0)).setCell ⟨q+1,1,none⟩ (.int .i64 0)).setCell ⟨q+1,2,none⟩ (.int .i64 0)).setCell ⟨q+1,3,none⟩ (.int .i64 0)).setCell ⟨q+1,4,none⟩ (.int .i64 0)).setCell ⟨q+1,5,none⟩ (.int .u64 0)).setCell ⟨q+1,6,none⟩ (.int .u64 0)).setCell ⟨q+1,7,none⟩ (.int .i64 0)).setCell ⟨q+1,8,none⟩ (.int .i64 0)).setCell ⟨q+1,9,none⟩ (.int .i64 0)).setCell ⟨q+1,10,none⟩ (.int .i64 0)).setCell ⟨q+1,11,none⟩ (.slice none 0 0)).setCell ⟨q+1,12,none⟩ (.slice none 0 0))):=⟨yP _ _ _ _ _ _ _ _ _ _ _ _ _ _ _ _ _ _ _ _ _ _ _ _ _ _ _ _ _ HW2.out.1,kM HW2.out.2 _ _ _ _ _ _ _ _ _ _ _ _ _ _ HG.out⟩
 clear HW2
 go_wp2_with fail
 generalize (((((((((((((W1.setCell ⟨q+1,0,none⟩ (.int .i64 0)).setCell ⟨q+1,1,none⟩ (.int .i64 0)).setCell ⟨q+1,2,none⟩ (.int .i64 0)).setCell ⟨q+1,3,none⟩ (.int .i64 0)).setCell ⟨q+1,4,none⟩ (.int .i64 0)).setCell ⟨q+1,5,none⟩ (.int .u64 0)).setCell ⟨q+1,6,none⟩ (.int .u64 0)).setCell ⟨q+1,7,none⟩ (.int .i64 0)).setCell ⟨q+1,8,none⟩ (.int .i64 0)).setCell ⟨q+1,9,none⟩ (.int .i64 0)).setCell ⟨q+1,10,none⟩ (.int .i64 0)).setCell ⟨q+1,11,none⟩ (.slice none 0 0)).setCell ⟨q+1,12,none⟩ (.slice none 0 0))=WF at*
 obtain ⟨u0,u1,u2,u3,u4,u5,u6,u7,u8,u9,u10,u11,u12⟩:=rowcells13 HFR.out.1
 exact bodyPost_ret (v:= .tuple #[.agg #[.int .i64 0,.int .i64 0,.int .i64 0,.int .i64 0,.int .i64 0,.int .u64 0,.int .u64 0,.int .i64 0,.int .i64 0,.int .i64 0,.int .i64 0,.slice none 0 0,.slice none 0 0],.int .i64 97]) (by simp [results,Tryz.results27,go_sem,u0,u1,u2,u3,u4,u5,u6,u7,u8,u9,u10,u11,u12]) rfl ⟨rfl,HFR.out.2⟩
theorem tD (kd co ct na le gr ti va N:Nat) (fi la:Int) (b o K:Nat) (S:List Nat) (w:World) (hN:N=ti+va+55) (hS:qCH S (ti+va)) (hc:qM w b (o+51) S) (hK:ti+va+4≤K) (hti:ti≤100000) (hva:va≤100000) (hKm:K≤9223372036854775756) (hT:pB w):
  Calls Tryz.prog 27 #[.agg #[.int .i64 (kd:Int),.int .i64 (ct:Int),.int .i64 (na:Int),.int .i64 fi,.int .i64 la,.int .u64 (le:Int),.int .u64 (gr:Int),.int .i64 (N:Int),.int .i64 (co:Int),.int .i64 (ti:Int),.int .i64 (va:Int)],.slice (some ⟨b,o,none⟩) N (K+51)] w (wM #[.int .i64 0,.int .i64 0,.int .i64 0,.int .i64 0,.int .i64 0,.int .u64 0,.int .u64 0,.int .i64 0,.int .i64 0,.int .i64 0,.int .i64 0,.slice none 0 0,.slice none 0 0] 95 w):=by
 obtain ⟨M,hM⟩:∃M,ti+va=M:=⟨_,rfl⟩
 have hNM:N=M+55:=by omega
 rw [hM] at hS hK
 subst hNM
 have HUn:=qA (fun (w1:World) (hB:Below w.heap.size w w1)=>mI b (o+51) K M S w1 hS (hc.below hB) (by omega) hK (hT.below hB))
 have hMl:M≤200000:=by omega
 clear hS hc hT hN hti hva hM
 rw [show ((M+55:Nat):Int)=(M:Int)+55 from by simp]
 obtain ⟨q,hq⟩:∃q,w.heap.size=q:=⟨_,rfl⟩
 obtain ⟨W1,hW1⟩:∃W1,(w.alloc (.cells #[.int .i64 (kd:Int),.int .i64 (ct:Int),.int .i64 (na:Int),.int .i64 fi,.int .i64 la,.int .u64 (le:Int),.int .u64 (gr:Int),.int .i64 ((M:Int)+55),.int .i64 (co:Int),.int .i64 (ti:Int),.int .i64 (va:Int)] 60)).alloc (.cells #[.int .i64 0,.int .i64 0,.int .i64 0,.int .i64 0,.int .i64 0,.int .u64 0,.int .u64 0,.int .i64 0,.int .i64 0,.int .i64 0,.int .i64 0,.slice none 0 0,.slice none 0 0] 62)=W1:=⟨_,rfl⟩
 have HR1:Hid (W1.heap[q]?=some (.cells #[.int .i64 (kd:Int),.int .i64 (ct:Int),.int .i64 (na:Int),.int .i64 fi,.int .i64 la,.int .u64 (le:Int),.int .u64 (gr:Int),.int .i64 ((M:Int)+55),.int .i64 (co:Int),.int .i64 (ti:Int),.int .i64 (va:Int)] 60 (0,0))∧W1.heap[q+1]?=some (.cells #[.int .i64 0,.int .i64 0,.int .i64 0,.int .i64 0,.int .i64 0,.int .u64 0,.int .u64 0,.int .i64 0,.int .i64 0,.int .i64 0,.int .i64 0,.slice none 0 0,.slice none 0 0] 62 (0,0))∧Below w.heap.size w W1):=by rw [←hW1];exact cE w q hq _ _ _ _
 have HG:Hid (w.heap.size≤q+1):=by show _≤_;omega
 have o7:W1.cell? ⟨q,7,none⟩=some (.int .i64 ((M:Int)+55)):=by rw [cell_of_row _ _ _ _ _ _ HR1.out.1];rfl
 have n1:(M:Int)+55-51=(M:Int)+4:=by omega
 go_enter Tryz.func27,Tryz.ntmps27
 go_upto_region 1 with fail
 (try rw [hW1])
 (try rw [hq])
 clear hW1 hq
 go_wp2_with fail
 refine (HUn.out W1 HR1.out.2.2).mono ?_
 rintro e w2 ⟨rfl,md,hw2⟩
 have HW2:Hid (w2.heap[q+1]?=some (.cells #[.int .i64 0,.int .i64 0,.int .i64 0,.int .i64 0,.int .i64 0,.int .u64 0,.int .u64 0,.int .i64 0,.int .i64 0,.int .i64 0,.int .i64 0,.slice none 0 0,.slice none 0 0] 62 (0,0))∧Below w.heap.size w w2):=by rw [hw2];exact ⟨HR1.out.2.1,qV HR1.out.2.2 md⟩
 clear HUn HR1 hw2 o7
 obtain ⟨z0,z1,z2,z3,z4,z5,z6,z7,z8,z9,z10,z11,z12⟩:=rowcells13 HW2.out.1
 have y0:=froz HW2.out.1 0
 have y1:=froz HW2.out.1 1
 have y2:=froz HW2.out.1 2
 have y3:=froz HW2.out.1 3
 have y4:=froz HW2.out.1 4
 have y5:=froz HW2.out.1 5
 have y6:=froz HW2.out.1 6
 have y7:=froz HW2.out.1 7
 have y8:=froz HW2.out.1 8
 have y9:=froz HW2.out.1 9
 have y10:=froz HW2.out.1 10
 have y11:=froz HW2.out.1 11
 have y12:=froz HW2.out.1 12
 have HFR:Hid ((((((((((((((w2.setCell ⟨q+1,0,none⟩ (.int .i64 0)).setCell ⟨q+1,1,none⟩ (.int .i64 0)).setCell ⟨q+1,2,none⟩ (.int .i64 0)).setCell ⟨q+1,3,none⟩ (.int .i64 0)).setCell ⟨q+1,4,none⟩ (.int .i64 0)).setCell ⟨q+1,5,none⟩ (.int .u64 0)).setCell ⟨q+1,6,none⟩ (.int .u64 0)).setCell ⟨q+1,7,none⟩ (.int .i64 0)).setCell ⟨q+1,8,none⟩ (.int .i64 0)).setCell ⟨q+1,9,none⟩ (.int .i64 0)).setCell ⟨q+1,10,none⟩ (.int .i64 0)).setCell ⟨q+1,11,none⟩ (.slice none 0 0)).setCell ⟨q+1,12,none⟩ (.slice none 0 0)).heap[q+1]?=some (.cells #[.int .i64 0,.int .i64 0,.int .i64 0,.int .i64 0,.int .i64 0,.int .u64 0,.int .u64 0,.int .i64 0,.int .i64 0,.int .i64 0,.int .i64 0,.slice none 0 0,.slice none 0 0] 62 (0,0))∧Below w.heap.size w (((((((((((((w2.setCell ⟨q+1,0,none⟩ (.int .i64 0)).setCell ⟨q+1,1,none⟩ (.int .i64 0)).setCell ⟨q+1,2,none⟩ (.int .i64 0)).setCell ⟨q+1,3,none⟩ (.int .i64 0)).setCell ⟨q+1,4,none⟩ (.int .i64 0)).setCell ⟨q+1,5,none⟩ (.int .u64 0)).setCell ⟨q+1,6,none⟩ (.int .u64 0)).setCell ⟨q+1,7,none⟩ (.int .i64 0)).setCell ⟨q+1,8,none⟩ (.int .i64 0)).setCell ⟨q+1,9,none⟩ (.int .i64 0)).setCell ⟨q+1,10,none⟩ (.int .i64 0)).setCell ⟨q+1,11,none⟩ (.slice none 0 0)).setCell ⟨q+1,12,none⟩ (.slice none 0 0))):=⟨yP _ _ _ _ _ _ _ _ _ _ _ _ _ _ _ _ _ _ _ _ _ _ _ _ _ _ _ _ _ HW2.out.1,kM HW2.out.2 _ _ _ _ _ _ _ _ _ _ _ _ _ _ HG.out⟩
 clear HW2
 go_wp2_with fail
 generalize (((((((((((((w2.setCell ⟨q+1,0,none⟩ (.int .i64 0)).setCell ⟨q+1,1,none⟩ (.int .i64 0)).setCell ⟨q+1,2,none⟩ (.int .i64 0)).setCell ⟨q+1,3,none⟩ (.int .i64 0)).setCell ⟨q+1,4,none⟩ (.int .i64 0)).setCell ⟨q+1,5,none⟩ (.int .u64 0)).setCell ⟨q+1,6,none⟩ (.int .u64 0)).setCell ⟨q+1,7,none⟩ (.int .i64 0)).setCell ⟨q+1,8,none⟩ (.int .i64 0)).setCell ⟨q+1,9,none⟩ (.int .i64 0)).setCell ⟨q+1,10,none⟩ (.int .i64 0)).setCell ⟨q+1,11,none⟩ (.slice none 0 0)).setCell ⟨q+1,12,none⟩ (.slice none 0 0))=WF at*
 obtain ⟨u0,u1,u2,u3,u4,u5,u6,u7,u8,u9,u10,u11,u12⟩:=rowcells13 HFR.out.1
 exact bodyPost_ret (v:= .tuple #[.agg #[.int .i64 0,.int .i64 0,.int .i64 0,.int .i64 0,.int .i64 0,.int .u64 0,.int .u64 0,.int .i64 0,.int .i64 0,.int .i64 0,.int .i64 0,.slice none 0 0,.slice none 0 0],.int .i64 95]) (by simp [results,Tryz.results27,go_sem,u0,u1,u2,u3,u4,u5,u6,u7,u8,u9,u10,u11,u12]) rfl ⟨rfl,HFR.out.2⟩
def yI (c:Int) (w:World) (e:Ending) (w':World):Prop:=e= .returned (.tuple #[.int .i64 0,.slice none 0 0,.int .i64 c])∧Below w.heap.size w w'
theorem wF (s:Value) (c:Int) (w:World) (hc:c≠0) (h:Calls Tryz.prog 26 #[s] w (uB #[.int .i64 0,.int .i64 0,.int .i64 0,.int .i64 0,.int .i64 0,.int .u64 0,.int .u64 0,.int .i64 0,.int .i64 0,.int .i64 0,.int .i64 0] c w)):Calls Tryz.prog 10 #[s] w (yI c w):=by
 have hcb:(c !=0)=true:=by rw [bne_iff_ne];exact hc
 have H:=qA h
 clear h
 go_enter Tryz.func10,Tryz.ntmps10
 go_wp2_with fail
 refine H.out.mono ?_
 rintro e w2 ⟨rfl,B2⟩
 have HB:=qA (B2.alloc B2.size (.cells #[.int .i64 0,.int .i64 0,.int .i64 0,.int .i64 0,.int .i64 0,.int .u64 0,.int .u64 0,.int .i64 0,.int .i64 0,.int .i64 0,.int .i64 0] 60))
 clear B2
 go_wp2_with fail
 exact bodyPost_ret (v:= .tuple #[.int .i64 0,.slice none 0 0,.int .i64 c]) (by simp [results,Tryz.results10,go_sem]) rfl ⟨rfl,HB.out⟩
theorem uI (s:Value) (kd ct na le gr N co ti va:Nat) (fi la:Int) (c:Int) (w:World) (hc:c≠0) (h:Calls Tryz.prog 26 #[s] w (uB #[.int .i64 (kd:Int),.int .i64 (ct:Int),.int .i64 (na:Int),.int .i64 fi,.int .i64 la,.int .u64 (le:Int),.int .u64 (gr:Int),.int .i64 (N:Int),.int .i64 (co:Int),.int .i64 (ti:Int),.int .i64 (va:Int)] 0 w))
  (h2:∀w1,Below w.heap.size w w1→Calls Tryz.prog 27 #[.agg #[.int .i64 (kd:Int),.int .i64 (ct:Int),.int .i64 (na:Int),.int .i64 fi,.int .i64 la,.int .u64 (le:Int),.int .u64 (gr:Int),.int .i64 (N:Int),.int .i64 (co:Int),.int .i64 (ti:Int),.int .i64 (va:Int)],s] w1 (wM #[.int .i64 0,.int .i64 0,.int .i64 0,.int .i64 0,.int .i64 0,.int .u64 0,.int .u64 0,.int .i64 0,.int .i64 0,.int .i64 0,.int .i64 0,.slice none 0 0,.slice none 0 0] c w1)):Calls Tryz.prog 10 #[s] w (yI c w):=by
 have hcb:(c !=0)=true:=by rw [bne_iff_ne];exact hc
 have H:=qA h
 have H2:=qA h2
 clear h h2
 go_enter Tryz.func10,Tryz.ntmps10
 go_wp2_with fail
 refine H.out.mono ?_
 rintro e w2 ⟨rfl,B2⟩
 obtain ⟨r,hr⟩:∃r,w2.heap.size=r:=⟨_,rfl⟩
 obtain ⟨W3,hW3⟩:∃W3,w2.alloc (.cells #[.int .i64 (kd:Int),.int .i64 (ct:Int),.int .i64 (na:Int),.int .i64 fi,.int .i64 la,.int .u64 (le:Int),.int .u64 (gr:Int),.int .i64 (N:Int),.int .i64 (co:Int),.int .i64 (ti:Int),.int .i64 (va:Int)] 60)=W3:=⟨_,rfl⟩
 have HW3:Hid (W3.heap[r]?=some (.cells #[.int .i64 (kd:Int),.int .i64 (ct:Int),.int .i64 (na:Int),.int .i64 fi,.int .i64 la,.int .u64 (le:Int),.int .u64 (gr:Int),.int .i64 (N:Int),.int .i64 (co:Int),.int .i64 (ti:Int),.int .i64 (va:Int)] 60 (0,0))∧Below w.heap.size w W3):=by rw [←hW3,←hr];exact ⟨heap_alloc_new _ _,B2.alloc B2.size _⟩
 clear B2 H
 obtain ⟨o0,o1,o2,o3,o4,o5,o6,o7,o8,o9,o10⟩:=rowcells11 HW3.out.1
 go_wp2_with fail
 (try rw [hW3])
 (try rw [hr])
 clear hW3 hr
 refine (H2.out W3 HW3.out.2).mono ?_
 rintro e w4 ⟨rfl,B4⟩
 have HB:=qA ((HW3.out.2.trans (B4.mono HW3.out.2.size)).alloc (HW3.out.2.trans (B4.mono HW3.out.2.size)).size (.cells #[.int .i64 0,.int .i64 0,.int .i64 0,.int .i64 0,.int .i64 0,.int .u64 0,.int .u64 0,.int .i64 0,.int .i64 0,.int .i64 0,.int .i64 0,.slice none 0 0,.slice none 0 0] 62))
 clear B4 HW3 H2 o0 o1 o2 o3 o4 o5 o6 o7 o8 o9 o10
 go_wp2_with fail
 exact bodyPost_ret (v:= .tuple #[.int .i64 0,.slice none 0 0,.int .i64 c]) (by simp [results,Tryz.results10,go_sem]) rfl ⟨rfl,HB.out⟩
theorem uJ (kd:Nat) (m:Nat) (t:Nat→Int) (v:Nat→Nat) (co:Nat) (vb:List Nat) (T:Nat) (b o n cap:Nat) (w:World) (hT:(packed (tbn t (m+1))).length=T) (hc:qM w b o (qO (pJ kd (m+1) t v co T vb.length))) (hn:51≤n) (hcap:n≤cap) (hn2:n≤1000000000000) (hG:qDF kd (m+1) t v) (ht:∀i,i<m+1→I64 (t i)) (hf:∀i,i<m+1→v i<18446744073709551616) (hval:xU kd (m+1) v co vb) (hC:pB w):
  Calls Tryz.prog 26 #[.slice (some ⟨b,o,none⟩) n cap] w (uB (hdA kd (m+1) (vW v (m+1)) (t 0) (t m) (leV v (m+1)) (grV v (m+1)) (((T+vb.length+55:Nat)):Int) co T vb.length) 0 w):=by
 subst hT
 have hvl:=xB kd (m+1) v co vb hf hval
 have htl:=xA t (m+1)
 have hhi:=hG.hi
 unfold pJ at hc
 rw [Nat.add_sub_cancel] at hc
 have e:(((packed (tbn t (m+1))).length+vb.length+55:Nat):Int)=((packed (tbn t (m+1))).length:Int)+(vb.length:Int)+55:=by omega
 rw [e]
 exact bE kd co (m+1) (vW v (m+1)) (u64 (t 0)) (u64 (t m)) (leV v (m+1)) (grV v (m+1)) (packed (tbn t (m+1))).length vb.length (t 0) (t m) b o n cap w hc hn hcap hn2
  ⟨by rcases hG.kd with h|h<;>omega,hvl.2.1,hvl.2.2,hG.lo,hG.hi,bO v _,rC t m hG.up⟩ (u64_lt _) (u64_lt _) (qG3 _ _) (qFT _ _ hf) (by omega) (by omega) (nC _ (ht 0 (by omega))) (nC _ (ht m (by omega))) hC
structure tQ (kd m:Nat) (t:Nat→Int) (v:Nat→Nat) (co:Nat) (vb:List Nat):Prop where
 good:qDF kd (m+1) t v
 ti:∀i,i<m+1→I64 (t i)
 va:∀i,i<m+1→v i<18446744073709551616
 val:xU kd (m+1) v co vb
 by_:∀n∈vb,n<256
theorem tQ.len {kd m:Nat} {t:Nat→Int} {v:Nat→Nat} {co:Nat} {vb:List Nat} (h:tQ kd m t v co vb):(wL kd (m+1) t v co vb).length=(packed (tbn t (m+1))).length+vb.length+55∧(packed (tbn t (m+1))).length≤100000∧vb.length≤100000:=by
 have hvl:=xB kd (m+1) v co vb h.va h.val
 have htl:=xA t (m+1)
 have hhi:=h.good.hi
 exact ⟨mW kd m t v co vb,by omega,by omega⟩
theorem qHR {kd m:Nat} {t:Nat→Int} {v:Nat→Nat} {co:Nat} {vb:List Nat}:(qO (pJ kd (m+1) t v co (packed (tbn t (m+1))).length vb.length)).length=51:=by unfold qO;rw [List.length_append,uK];rfl
theorem qDW {kd m:Nat} {t:Nat→Int} {v:Nat→Nat} {co:Nat} {vb:List Nat} (h:tQ kd m t v co vb) (b o n:Nat) (w:World) (hc:qM w b o (wL kd (m+1) t v co vb)) (hn:n<(wL kd (m+1) t v co vb).length) (hC:pB w):
  Calls Tryz.prog 10 #[.slice (some ⟨b,o,none⟩) n n] w (yI 94 w):=by
 have hl:=h.len
 by_cases h51:n<51
 ·exact wF _ 94 w (by decide) (fA b o n n w h51)
 ·obtain ⟨T,hT⟩:∃T,(packed (tbn t (m+1))).length=T:=⟨_,rfl⟩
  have h1:=qM.left hc
  rw [hT] at h1 hl
  rw [hl.1] at hn
  have e1:=uJ kd m t v co vb T b o n n w hT h1 (by omega) (Nat.le_refl _) (by omega) h.good h.ti h.va h.val hC
  exact uI _ kd (m+1) _ _ _ (T+vb.length+55) co T vb.length _ _ 94 w (by decide) e1 (fun w1 hB=>cD kd co (m+1) _ _ _ T vb.length _ _ _ b o n n w1 hn (by omega))
theorem qBE {kd m:Nat} {t:Nat→Int} {v:Nat→Nat} {co:Nat} {vb:List Nat} (h:tQ kd m t v co vb) (b o n cap:Nat) (w:World) (hc:qM w b o (wL kd (m+1) t v co vb)) (hn:(wL kd (m+1) t v co vb).length<n) (hcap:n≤cap) (hn2:n≤1000000000000) (hC:pB w):
  Calls Tryz.prog 10 #[.slice (some ⟨b,o,none⟩) n cap] w (yI 97 w):=by
 have hl:=h.len
 obtain ⟨T,hT⟩:∃T,(packed (tbn t (m+1))).length=T:=⟨_,rfl⟩
 have h1:=qM.left hc
 rw [hT] at h1 hl
 rw [hl.1] at hn
 have e1:=uJ kd m t v co vb T b o n cap w hT h1 (by omega) hcap hn2 h.good h.ti h.va h.val hC
 exact uI _ kd (m+1) _ _ _ (T+vb.length+55) co T vb.length _ _ 97 w (by decide) e1 (fun w1 hB=>cW kd co (m+1) _ _ _ T vb.length _ _ _ b o n cap w1 hn hn2)
theorem qBD {kd m:Nat} {t:Nat→Int} {v:Nat→Nat} {co:Nat} {vb:List Nat} (h:tQ kd m t v co vb) (b o n cap at_ y:Nat) (w:World) (hc:qM w b o ((wL kd (m+1) t v co vb).set at_ y)) (hn:n=(wL kd (m+1) t v co vb).length) (hcap:n≤cap) (hcap2:cap≤9223372036854775807) (ha:at_<n) (hy:y<256) (hne:y≠(wL kd (m+1) t v co vb).getD at_ 0) (hC:pB w):
  Calls Tryz.prog 10 #[.slice (some ⟨b,o,none⟩) n cap] w fun e w'=>∃c:Int,c≠0∧yI c w e w':=by
 have hl:=h.len
 have hh:=qHR (kd:=kd) (m:=m) (t:=t) (v:=v) (co:=co) (vb:=vb)
 obtain ⟨T,hT⟩:∃T,(packed (tbn t (m+1))).length=T:=⟨_,rfl⟩
 rw [hT] at hl hh
 rw [hl.1] at hn
 unfold wL at hc hne
 rw [hT] at hc hne
 by_cases h51:at_<51
 ·rw [List.set_append_left _ _ (by rw [hh];exact h51)] at hc
  rw [List.getD_eq_getElem?_getD,List.getElem?_append_left (by rw [hh];exact h51),←List.getD_eq_getElem?_getD] at hne
  have hu:=qA2 (pJ kd (m+1) t v co T vb.length) (by unfold pJ;exact jR _) at_ y (by rw [uK];omega) hy hne
  rw [uK] at hu
  have h1:=qM.left hc
  have hx:=h1 0 (by rw [List.length_set,hh];omega)
  rw [Nat.add_zero] at hx
  by_cases hm:((qO (pJ kd (m+1) t v co T vb.length)).set at_ y).getD 0 0=181
  ·rw [hm] at hx
   exact (wF _ 95 w (by decide) (qE0 b o n cap w (by omega) hcap (by omega) hx _ hu h1 hC)).mono fun e w' he=>⟨95,by decide,he⟩
  ·exact (wF _ 96 w (by decide) (qBI b o n cap w (by omega) (by omega) _ hx hm)).mono fun e w' he=>⟨96,by decide,he⟩
 ·rw [List.set_append_right _ _ (by rw [hh];omega),hh] at hc
  rw [List.getD_eq_getElem?_getD,List.getElem?_append_right (by rw [hh];omega),hh,←List.getD_eq_getElem?_getD] at hne
  have h1:=qM.left hc
  have h2:=qM.right hc
  rw [hh] at h2
  have hu:=qA2 (packed (tbn t (m+1))++vb) (fun x hx=>by rcases List.mem_append.1 hx with h'|h';exact jR _ x h';exact h.by_ x h') (at_-51) y (by rw [List.length_append,hT];omega) hy hne
  rw [List.length_append,hT] at hu
  have e1:=uJ kd m t v co vb T b o n cap w hT h1 (by omega) hcap (by omega) h.good h.ti h.va h.val hC
  obtain ⟨K,rfl⟩:∃K,cap=K+51:=⟨cap-51,by omega⟩
  subst hn
  exact (uI _ kd (m+1) _ _ _ (T+vb.length+55) co T vb.length _ _ 95 w (by decide) e1 (fun w1 hB=>tD kd co (m+1) _ _ _ T vb.length _ _ _ b o K _ w1 rfl hu (h2.below hB) (by omega) hl.2.1 hl.2.2 (by omega) (hC.below hB))).mono fun e w' he=>⟨95,by decide,he⟩
end Go.Proofs.YtkpmalfigmimaaaGreatDoor
namespace Go.Proofs.YtkpmalfigmimaaaGreatDoor
open Go.RowKit
open M
theorem tQ.bound {kd m:Nat} {t:Nat→Int} {v:Nat→Nat} {co:Nat} {vb:List Nat} (h:tQ kd m t v co vb):55≤(wL kd (m+1) t v co vb).length∧(wL kd (m+1) t v co vb).length≤1000000:=by
 have:=h.len;omega
theorem lR {w:World} {g:Nat} {bs:List Nat} {ty:TypeId} (h:w.heap[g]?=some (.cells (qL bs).toArray ty (0,0))):qM w g 0 bs:=fun i hi=>by
 rw [Nat.zero_add,cell_of_row _ _ _ _ _ _ h];simp [qL,List.getD,hi]
end Go.Proofs.YtkpmalfigmimaaaGreatDoor
namespace Go.Proofs.YtkpmalfigmimaaaGreatDoor
open Go.RowKit
open M
theorem qDT (bs:List Nat) (j y:Nat):qL (bs.set j y)=(qL bs).set j (.int .u8 (y:Int)):=by simp [qL,List.map_set]
theorem OB.slice {B:Nat} {w0 wr:World} {bs:List Nat} {v:Value} (h:OB B w0 bs v wr) (h0:0<bs.length):∃g cap,v= .slice (some ⟨g,0,none⟩) bs.length cap∧bs.length≤cap∧cap≤9223372036854775807∧B≤g:=by
 rcases h.own.2 with ⟨_,h2⟩|⟨g,cap,cur,h1,hb,hg,hc,hm,hs,ht⟩
 ·omega
 ·exact ⟨g,cap,h1,hc,by unfold maxLen at hm;omega,hb⟩
theorem OB.putB {B g n cap:Nat} {w0 wr:World} {bs:List Nat} (h:OB B w0 bs (.slice (some ⟨g,0,none⟩) n cap) wr) (hn:n=bs.length) (j y:Nat):OB B w0 (bs.set j y) (.slice (some ⟨g,0,none⟩) n cap) (wr.setCell ⟨g,j,none⟩ (.int .u8 (y:Int))):=by
 subst hn
 have h1:=(h.own.stored j (.int .u8 (y:Int))).1
 rw [←qDT] at h1
 exact ⟨by rw [List.length_set];exact h1,qH h.bel g _ _ (h.own.lt g rfl).1,h.le⟩
theorem OB.cellsAt {B g n cap:Nat} {w0 wr:World} {bs:List Nat} (h:OB B w0 bs (.slice (some ⟨g,0,none⟩) n cap) wr) (hn:n=bs.length):qM wr g 0 bs:=fun i hi=>by
 subst hn
 rw [Nat.zero_add,h.own.cellAt i (by omega)]
 simp [qL,List.getD,hi]
theorem OB.frozen {B g n cap:Nat} {w0 wr:World} {bs:List Nat} (h:OB B w0 bs (.slice (some ⟨g,0,none⟩) n cap) wr) (hn:n=bs.length) (j:Nat):wr.frozen? ⟨g,j,none⟩=false:=by
 subst hn;exact h.own.frozenAt j
theorem qHB (a x:Nat) (hx:x≠0):a^^^x≠a:=fun e=>by
 have h:(a^^^x)^^^a=0:=by rw [e,Nat.xor_self]
 rw [Nat.xor_comm,←Nat.xor_assoc,Nat.xor_self,Nat.zero_xor] at h
 exact hx h
theorem qDK (i:Int) (n:Nat) (w:World) (hi:I64 i) (hn:0<n) (hn2:n≤1000000000):Calls Tryz.prog 18 #[.int .i64 i,.int .i64 (n:Int)] w fun e w'=>(∃j:Nat,e= .returned (.int .i64 (j:Int))∧j<n)∧w'=w:=by
 obtain ⟨h1,h2⟩:=hi
 have hnz:¬(n:Int)=0:=by omega
 have hnb:((n:Int)==0)=false:=by rw [beq_eq_false_iff_ne];exact hnz
 obtain ⟨r,hr⟩:∃r,i.tmod (n:Int)=r:=⟨_,rfl⟩
 have r1: -(n:Int)<r:=by
  rw [←hr]
  have:=Int.lt_tmod_of_pos i (show (0:Int)<n by omega)
  omega
 have r2:r<(n:Int):=by rw [←hr];exact Int.tmod_lt_of_pos i (by omega)
 have rw1:IntKind.i64.wrap r=r:=by rw [IntKind.wrap_i64];omega
 have rw2:IntKind.i64.wrap (r+(n:Int))=r+(n:Int):=by rw [IntKind.wrap_i64];omega
 by_cases hneg:r<0
 ·go_enter Tryz.func18,Tryz.ntmps18
  go_wp2_with (simp only [hr,rw1,rw2])
  go_ret
  exact ⟨⟨(r+(n:Int)).toNat,by rw [Int.toNat_of_nonneg (by omega)];rfl,by omega⟩,rfl⟩
 ·go_enter Tryz.func18,Tryz.ntmps18
  go_wp2_with (simp only [hr,rw1,rw2])
  go_ret
  exact ⟨⟨r.toNat,by rw [Int.toNat_of_nonneg (by omega)];rfl,by omega⟩,rfl⟩
end Go.Proofs.YtkpmalfigmimaaaGreatDoor
