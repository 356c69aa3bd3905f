import Derived.Test.YtkpmalfigmimaaaGreatDoorZ0
import Derived.Test.YtkpmalfigmimaaaGreatDoorD3N
import Derived.Test.YtkpmalfigmimaaaGreatDoorD3M
set_option linter.unusedVariables false
set_option linter.unusedSimpArgs false
set_option maxRecDepth 100000
set_option maxHeartbeats 8000000
namespace Go.Proofs.YtkpmalfigmimaaaGreatDoor
open Go.RowKit
open M
def qKU (kind:Int) (n:Nat) (t:Nat→Int) (v:Nat→Nat) (w:World) (e:Ending) (w':World):Prop:=∃c:Int,e= .returned (.tuple #[.agg #[.int .i64 0,.int .i64 0,.int .i64 0,.int .i64 0,.int .i64 0,.int .u64 0,.int .u64 0,.int .i64 0,.int .i64 0,.int .i64 0,.int .i64 0,.slice none 0 0,.slice none 0 0],.int .i64 c])∧qHN kind n t v c∧c≠0∧Below w.heap.size w w'
theorem qKE (kind:Int) (p:Option Addr) (n cap:Nat) (t:Nat→Int) (v:Nat→Nat) (w:World) (h:uC w p n t v) (hn:n≤9223372036854775807) (hf:∀i,i<n→v i<18446744073709551616) (hG:¬qDF kind n t v):
  Calls Tryz.prog 22 #[.int .i64 kind,.slice p n cap] w (qKU kind n t v w):=by
 obtain ⟨g,hg⟩:∃g,w.heap.size=g:=⟨_,rfl⟩
 obtain ⟨W1,hW1⟩:∃W1,w.alloc (.cells #[.int .i64 0,.int .i64 0,.int .i64 0,.int .i64 0,.int .i64 0,.int .u64 0,.int .u64 0,.int .i64 0,.int .i64 0,.int .i64 0,.int .i64 0,.slice none 0 0,.slice none 0 0] 62)=W1:=⟨_,rfl⟩
 have HR1:Hid (W1.heap[g]?=some (.cells #[.int .i64 0,.int .i64 0,.int .i64 0,.int .i64 0,.int .i64 0,.int .u64 0,.int .u64 0,.int .i64 0,.int .i64 0,.int .i64 0,.int .i64 0,.slice none 0 0,.slice none 0 0] 62 (0,0))∧Below w.heap.size w W1):=by rw [←hW1,←hg];exact ⟨heap_alloc_new _ _,(Below.refl _ _).alloc (Nat.le_refl _) _⟩
 have HRef:=qA (fun (w1:World) (hB:Below w.heap.size w w1)=>cA kind p n cap t v w1 (h.below hB) hn hf)
 have HGd:=qA hG
 clear h hf hG
 go_enter Tryz.func22,Tryz.ntmps22
 go_upto_region 1 with fail
 (try rw [hW1])
 (try rw [hg])
 have HG:=qA hg
 clear hW1 hg
 go_wp2_with fail
 refine (HRef.out W1 HR1.out.2).mono ?_
 rintro e w2 ⟨c,rfl,hc,B2⟩
 have hc0:¬c=0:=fun e0=>by
  subst e0
  rcases hc with ⟨e,_⟩|⟨e,_⟩|⟨e,_⟩|⟨e,_⟩|⟨_,hg⟩
  ·cases e
  ·cases e
  ·cases e
  ·cases e
  ·exact HGd.out hg
 have HC:=qA (And.intro hc hc0)
 have HW2:Hid (w2.heap[g]?=some (.cells #[.int .i64 0,.int .i64 0,.int .i64 0,.int .i64 0,.int .i64 0,.int .u64 0,.int .u64 0,.int .i64 0,.int .i64 0,.int .i64 0,.int .i64 0,.slice none 0 0,.slice none 0 0] 62 (0,0))∧Below w.heap.size w w2):=⟨by rw [B2.block g (qB HR1.out.1)];exact HR1.out.1,HR1.out.2.trans (B2.mono HR1.out.2.size)⟩
 clear hc B2 HR1 HRef
 obtain ⟨z0,z1,z2,z3,z4,z5,z6,z7,z8,z9,z10,z11,z12⟩:=rowcells13 HW2.out.1
 have y0:=froz HW2.out.1 0
 have y1:=froz HW2.out.1 1
 have y2:=froz HW2.out.1 2
 have y3:=froz HW2.out.1 3
 have y4:=froz HW2.out.1 4
 have y5:=froz HW2.out.1 5
 have y6:=froz HW2.out.1 6
 have y7:=froz HW2.out.1 7
 have y8:=froz HW2.out.1 8
 have y9:=froz HW2.out.1 9
 have y10:=froz HW2.out.1 10
 have y11:=froz HW2.out.1 11
 have y12:=froz HW2.out.1 12
 have HFR:Hid ((((((((((((((w2.setCell ⟨g,0,none⟩ (.int .i64 0)).setCell ⟨g,1,none⟩ (.int .i64 0)).setCell ⟨g,2,none⟩ (.int .i64 0)).setCell ⟨g,3,none⟩ (.int .i64 0)).setCell ⟨g,4,none⟩ (.int .i64 0)).setCell ⟨g,5,none⟩ (.int .u64 0)).setCell ⟨g,6,none⟩ (.int .u64 0)).setCell ⟨g,7,none⟩ (.int .i64 0)).setCell ⟨g,8,none⟩ (.int .i64 0)).setCell ⟨g,9,none⟩ (.int .i64 0)).setCell ⟨g,10,none⟩ (.int .i64 0)).setCell ⟨g,11,none⟩ (.slice none 0 0)).setCell ⟨g,12,none⟩ (.slice none 0 0)).heap[g]?=some (.cells #[.int .i64 0,.int .i64 0,.int .i64 0,.int .i64 0,.int .i64 0,.int .u64 0,.int .u64 0,.int .i64 0,.int .i64 0,.int .i64 0,.int .i64 0,.slice none 0 0,.slice none 0 0] 62 (0,0))∧Below w.heap.size w (((((((((((((w2.setCell ⟨g,0,none⟩ (.int .i64 0)).setCell ⟨g,1,none⟩ (.int .i64 0)).setCell ⟨g,2,none⟩ (.int .i64 0)).setCell ⟨g,3,none⟩ (.int .i64 0)).setCell ⟨g,4,none⟩ (.int .i64 0)).setCell ⟨g,5,none⟩ (.int .u64 0)).setCell ⟨g,6,none⟩ (.int .u64 0)).setCell ⟨g,7,none⟩ (.int .i64 0)).setCell ⟨g,8,none⟩ (.int .i64 0)).setCell ⟨g,9,none⟩ (.int .i64 0)).setCell ⟨g,10,none⟩ (.int .i64 0)).setCell ⟨g,11,none⟩ (.slice none 0 0)).setCell ⟨g,12,none⟩ (.slice none 0 0))):=⟨yP _ _ _ _ _ _ _ _ _ _ _ _ _ _ _ _ _ _ _ _ _ _ _ _ _ _ _ _ _ HW2.out.1,kM HW2.out.2 _ _ _ _ _ _ _ _ _ _ _ _ _ _ (Nat.le_of_eq HG.out)⟩
 clear HW2
 go_wp2_with fail
 generalize (((((((((((((w2.setCell ⟨g,0,none⟩ (.int .i64 0)).setCell ⟨g,1,none⟩ (.int .i64 0)).setCell ⟨g,2,none⟩ (.int .i64 0)).setCell ⟨g,3,none⟩ (.int .i64 0)).setCell ⟨g,4,none⟩ (.int .i64 0)).setCell ⟨g,5,none⟩ (.int .u64 0)).setCell ⟨g,6,none⟩ (.int .u64 0)).setCell ⟨g,7,none⟩ (.int .i64 0)).setCell ⟨g,8,none⟩ (.int .i64 0)).setCell ⟨g,9,none⟩ (.int .i64 0)).setCell ⟨g,10,none⟩ (.int .i64 0)).setCell ⟨g,11,none⟩ (.slice none 0 0)).setCell ⟨g,12,none⟩ (.slice none 0 0))=WF at*
 obtain ⟨u0,u1,u2,u3,u4,u5,u6,u7,u8,u9,u10,u11,u12⟩:=rowcells13 HFR.out.1
 exact bodyPost_ret (v:= .tuple #[.agg #[.int .i64 0,.int .i64 0,.int .i64 0,.int .i64 0,.int .i64 0,.int .u64 0,.int .u64 0,.int .i64 0,.int .i64 0,.int .i64 0,.int .i64 0,.slice none 0 0,.slice none 0 0],.int .i64 c]) (by simp [results,Tryz.results22,go_sem,u0,u1,u2,u3,u4,u5,u6,u7,u8,u9,u10,u11,u12]) rfl ⟨c,rfl,HC.out.1,HC.out.2,HFR.out.2⟩
theorem fA (b o n cap:Nat) (w:World) (hn:n<51):
  Calls Tryz.prog 26 #[.slice (some ⟨b,o,none⟩) n cap] w (uB #[.int .i64 0,.int .i64 0,.int .i64 0,.int .i64 0,.int .i64 0,.int .u64 0,.int .u64 0,.int .i64 0,.int .i64 0,.int .i64 0,.int .i64 0] 94 w):=by
 obtain ⟨g,hg⟩:∃g,w.heap.size=g:=⟨_,rfl⟩
 obtain ⟨W1,hW1⟩:∃W1,w.alloc (.cells #[.int .i64 0,.int .i64 0,.int .i64 0,.int .i64 0,.int .i64 0,.int .u64 0,.int .u64 0,.int .i64 0,.int .i64 0,.int .i64 0,.int .i64 0] 60)=W1:=⟨_,rfl⟩
 have HR1:Hid (W1.heap[g]?=some (.cells #[.int .i64 0,.int .i64 0,.int .i64 0,.int .i64 0,.int .i64 0,.int .u64 0,.int .u64 0,.int .i64 0,.int .i64 0,.int .i64 0,.int .i64 0] 60 (0,0))∧Below w.heap.size w W1):=by rw [←hW1,←hg];exact ⟨heap_alloc_new _ _,(Below.refl _ _).alloc (Nat.le_refl _) _⟩
 have hln:(n:Int)<51:=by omega
 go_enter Tryz.func26,Tryz.ntmps26
 go_upto_region 1 with fail
 (try rw [hW1])
 (try rw [hg])
 have HG:=qA hg
 clear hW1 hg
 have HW2:=HR1
 clear HR1
 obtain ⟨z0,z1,z2,z3,z4,z5,z6,z7,z8,z9,z10⟩:=rowcells11 HW2.out.1
 have y0:=froz HW2.out.1 0
 have y1:=froz HW2.out.1 1
 have y2:=froz HW2.out.1 2
 have y3:=froz HW2.out.1 3
 have y4:=froz HW2.out.1 4
 have y5:=froz HW2.out.1 5
 have y6:=froz HW2.out.1 6
 have y7:=froz HW2.out.1 7
 have y8:=froz HW2.out.1 8
 have y9:=froz HW2.out.1 9
 have y10:=froz HW2.out.1 10
 have HFR:Hid ((((((((((((W1.setCell ⟨g,0,none⟩ (.int .i64 0)).setCell ⟨g,1,none⟩ (.int .i64 0)).setCell ⟨g,2,none⟩ (.int .i64 0)).setCell ⟨g,3,none⟩ (.int .i64 0)).setCell ⟨g,4,none⟩ (.int .i64 0)).setCell ⟨g,5,none⟩ (.int .u64 0)).setCell ⟨g,6,none⟩ (.int .u64 0)).setCell ⟨g,7,none⟩ (.int .i64 0)).setCell ⟨g,8,none⟩ (.int .i64 0)).setCell ⟨g,9,none⟩ (.int .i64 0)).setCell ⟨g,10,none⟩ (.int .i64 0)).heap[g]?=some (.cells #[.int .i64 0,.int .i64 0,.int .i64 0,.int .i64 0,.int .i64 0,.int .u64 0,.int .u64 0,.int .i64 0,.int .i64 0,.int .i64 0,.int .i64 0] 60 (0,0))∧Below w.heap.size w (((((((((((W1.setCell ⟨g,0,none⟩ (.int .i64 0)).setCell ⟨g,1,none⟩ (.int .i64 0)).setCell ⟨g,2,none⟩ (.int .i64 0)).setCell ⟨g,3,none⟩ (.int .i64 0)).setCell ⟨g,4,none⟩ (.int .i64 0)).setCell ⟨g,5,none⟩ (.int .u64 0)).setCell ⟨g,6,none⟩ (.int .u64 0)).setCell ⟨g,7,none⟩ (.int .i64 0)).setCell ⟨g,8,none⟩ (.int .i64 0)).setCell ⟨g,9,none⟩ (.int .i64 0)).setCell ⟨g,10,none⟩ (.int .i64 0))):=⟨uT _ _ _ _ _ _ _ _ _ _ _ _ _ _ _ _ _ _ _ _ _ _ _ _ _ HW2.out.1,xK HW2.out.2 _ _ _ _ _ _ _ _ _ _ _ _ (Nat.le_of_eq HG.out)⟩
 clear HW2
 go_wp2_with fail
 generalize (((((((((((W1.setCell ⟨g,0,none⟩ (.int .i64 0)).setCell ⟨g,1,none⟩ (.int .i64 0)).setCell ⟨g,2,none⟩ (.int .i64 0)).setCell ⟨g,3,none⟩ (.int .i64 0)).setCell ⟨g,4,none⟩ (.int .i64 0)).setCell ⟨g,5,none⟩ (.int .u64 0)).setCell ⟨g,6,none⟩ (.int .u64 0)).setCell ⟨g,7,none⟩ (.int .i64 0)).setCell ⟨g,8,none⟩ (.int .i64 0)).setCell ⟨g,9,none⟩ (.int .i64 0)).setCell ⟨g,10,none⟩ (.int .i64 0))=WF at*
 obtain ⟨u0,u1,u2,u3,u4,u5,u6,u7,u8,u9,u10⟩:=rowcells11 HFR.out.1
 exact bodyPost_ret (v:= .tuple #[.agg #[.int .i64 0,.int .i64 0,.int .i64 0,.int .i64 0,.int .i64 0,.int .u64 0,.int .u64 0,.int .i64 0,.int .i64 0,.int .i64 0,.int .i64 0],.int .i64 94]) (by simp [results,Tryz.results26,go_sem,u0,u1,u2,u3,u4,u5,u6,u7,u8,u9,u10]) rfl ⟨rfl,HFR.out.2⟩
theorem qBI (b o n cap:Nat) (w:World) (hn:51≤n) (hn2:n≤1000000000000) (x:Nat) (hx:w.cell? ⟨b,o,none⟩=some (.int .u8 (x:Int))) (hx1:x≠181):
  Calls Tryz.prog 26 #[.slice (some ⟨b,o,none⟩) n cap] w (uB #[.int .i64 0,.int .i64 0,.int .i64 0,.int .i64 0,.int .i64 0,.int .u64 0,.int .u64 0,.int .i64 0,.int .i64 0,.int .i64 0,.int .i64 0] 96 w):=by
 obtain ⟨g,hg⟩:∃g,w.heap.size=g:=⟨_,rfl⟩
 obtain ⟨W1,hW1⟩:∃W1,w.alloc (.cells #[.int .i64 0,.int .i64 0,.int .i64 0,.int .i64 0,.int .i64 0,.int .u64 0,.int .u64 0,.int .i64 0,.int .i64 0,.int .i64 0,.int .i64 0] 60)=W1:=⟨_,rfl⟩
 have HR1:Hid (W1.heap[g]?=some (.cells #[.int .i64 0,.int .i64 0,.int .i64 0,.int .i64 0,.int .i64 0,.int .u64 0,.int .u64 0,.int .i64 0,.int .i64 0,.int .i64 0,.int .i64 0] 60 (0,0))∧Below w.heap.size w W1):=by rw [←hW1,←hg];exact ⟨heap_alloc_new _ _,(Below.refl _ _).alloc (Nat.le_refl _) _⟩
 have hln:¬(n:Int)<51:=by omega
 have hxm:((x:Int) !=181)=true:=by rw [bne_iff_ne];omega
 have c0:W1.cell? ⟨b,o,none⟩=some (.int .u8 (x:Int)):=by rw [HR1.out.2.cell (p:=⟨b,o,none⟩) (block_lt_of_cell hx)];exact hx
 clear hx
 go_enter Tryz.func26,Tryz.ntmps26
 go_upto_region 1 with fail
 (try rw [hW1])
 (try rw [hg])
 have HG:=qA hg
 clear hW1 hg
 have HW2:=HR1
 clear HR1
 obtain ⟨z0,z1,z2,z3,z4,z5,z6,z7,z8,z9,z10⟩:=rowcells11 HW2.out.1
 have y0:=froz HW2.out.1 0
 have y1:=froz HW2.out.1 1
 have y2:=froz HW2.out.1 2
 have y3:=froz HW2.out.1 3
 have y4:=froz HW2.out.1 4
 have y5:=froz HW2.out.1 5
 have y6:=froz HW2.out.1 6
 have y7:=froz HW2.out.1 7
 have y8:=froz HW2.out.1 8
 have y9:=froz HW2.out.1 9
 have y10:=froz HW2.out.1 10
 have HFR:Hid ((((((((((((W1.setCell ⟨g,0,none⟩ (.int .i64 0)).setCell ⟨g,1,none⟩ (.int .i64 0)).setCell ⟨g,2,none⟩ (.int .i64 0)).setCell ⟨g,3,none⟩ (.int .i64 0)).setCell ⟨g,4,none⟩ (.int .i64 0)).setCell ⟨g,5,none⟩ (.int .u64 0)).setCell ⟨g,6,none⟩ (.int .u64 0)).setCell ⟨g,7,none⟩ (.int .i64 0)).setCell ⟨g,8,none⟩ (.int .i64 0)).setCell ⟨g,9,none⟩ (.int .i64 0)).setCell ⟨g,10,none⟩ (.int .i64 0)).heap[g]?=some (.cells #[.int .i64 0,.int .i64 0,.int .i64 0,.int .i64 0,.int .i64 0,.int .u64 0,.int .u64 0,.int .i64 0,.int .i64 0,.int .i64 0,.int .i64 0] 60 (0,0))∧Below w.heap.size w (((((((((((W1.setCell ⟨g,0,none⟩ (.int .i64 0)).setCell ⟨g,1,none⟩ (.int .i64 0)).setCell ⟨g,2,none⟩ (.int .i64 0)).setCell ⟨g,3,none⟩ (.int .i64 0)).setCell ⟨g,4,none⟩ (.int .i64 0)).setCell ⟨g,5,none⟩ (.int .u64 0)).setCell ⟨g,6,none⟩ (.int .u64 0)).setCell ⟨g,7,none⟩ (.int .i64 0)).setCell ⟨g,8,none⟩ (.int .i64 0)).setCell ⟨g,9,none⟩ (.int .i64 0)).setCell ⟨g,10,none⟩ (.int .i64 0))):=⟨uT _ _ _ _ _ _ _ _ _ _ _ _ _ _ _ _ _ _ _ _ _ _ _ _ _ HW2.out.1,xK HW2.out.2 _ _ _ _ _ _ _ _ _ _ _ _ (Nat.le_of_eq HG.out)⟩
 clear HW2
 go_wp2_with fail
 generalize (((((((((((W1.setCell ⟨g,0,none⟩ (.int .i64 0)).setCell ⟨g,1,none⟩ (.int .i64 0)).setCell ⟨g,2,none⟩ (.int .i64 0)).setCell ⟨g,3,none⟩ (.int .i64 0)).setCell ⟨g,4,none⟩ (.int .i64 0)).setCell ⟨g,5,none⟩ (.int .u64 0)).setCell ⟨g,6,none⟩ (.int .u64 0)).setCell ⟨g,7,none⟩ (.int .i64 0)).setCell ⟨g,8,none⟩ (.int .i64 0)).setCell ⟨g,9,none⟩ (.int .i64 0)).setCell ⟨g,10,none⟩ (.int .i64 0))=WF at*
 obtain ⟨u0,u1,u2,u3,u4,u5,u6,u7,u8,u9,u10⟩:=rowcells11 HFR.out.1
 exact bodyPost_ret (v:= .tuple #[.agg #[.int .i64 0,.int .i64 0,.int .i64 0,.int .i64 0,.int .i64 0,.int .u64 0,.int .u64 0,.int .i64 0,.int .i64 0,.int .i64 0,.int .i64 0],.int .i64 96]) (by simp [results,Tryz.results26,go_sem,u0,u1,u2,u3,u4,u5,u6,u7,u8,u9,u10]) rfl ⟨rfl,HFR.out.2⟩
theorem qE0 (b o n cap:Nat) (w:World) (hn:51≤n) (hcap:n≤cap) (hn2:n≤1000000000000) (hx:w.cell? ⟨b,o,none⟩=some (.int .u8 181)) (S:List Nat) (hS:qCH S 47) (hc:qM w b o S) (hC:pB w):
  Calls Tryz.prog 26 #[.slice (some ⟨b,o,none⟩) n cap] w (uB #[.int .i64 0,.int .i64 0,.int .i64 0,.int .i64 0,.int .i64 0,.int .u64 0,.int .u64 0,.int .i64 0,.int .i64 0,.int .i64 0,.int .i64 0] 95 w):=by
 obtain ⟨g,hg⟩:∃g,w.heap.size=g:=⟨_,rfl⟩
 obtain ⟨W1,hW1⟩:∃W1,w.alloc (.cells #[.int .i64 0,.int .i64 0,.int .i64 0,.int .i64 0,.int .i64 0,.int .u64 0,.int .u64 0,.int .i64 0,.int .i64 0,.int .i64 0,.int .i64 0] 60)=W1:=⟨_,rfl⟩
 have HR1:Hid (W1.heap[g]?=some (.cells #[.int .i64 0,.int .i64 0,.int .i64 0,.int .i64 0,.int .i64 0,.int .u64 0,.int .u64 0,.int .i64 0,.int .i64 0,.int .i64 0,.int .i64 0] 60 (0,0))∧Below w.heap.size w W1):=by rw [←hW1,←hg];exact ⟨heap_alloc_new _ _,(Below.refl _ _).alloc (Nat.le_refl _) _⟩
 have hln:¬(n:Int)<51:=by omega
 have c0:W1.cell? ⟨b,o,none⟩=some (.int .u8 181):=by rw [HR1.out.2.cell (p:=⟨b,o,none⟩) (block_lt_of_cell hx)];exact hx
 have HUn:=qA (mI b o cap 47 S W1 hS (hc.below HR1.out.2) (by omega) (by omega) (hC.below HR1.out.2))
 clear hx hc hS hC
 go_enter Tryz.func26,Tryz.ntmps26
 go_upto_region 1 with fail
 (try rw [hW1])
 (try rw [hg])
 have HG:=qA hg
 clear hW1 hg
 go_wp2_with fail
 refine HUn.out.mono ?_
 rintro e w2 ⟨rfl,md,hw2⟩
 have HW2:Hid (w2.heap[g]?=some (.cells #[.int .i64 0,.int .i64 0,.int .i64 0,.int .i64 0,.int .i64 0,.int .u64 0,.int .u64 0,.int .i64 0,.int .i64 0,.int .i64 0,.int .i64 0] 60 (0,0))∧Below w.heap.size w w2):=by rw [hw2];exact ⟨HR1.out.1,qV HR1.out.2 md⟩
 clear HUn HR1 hw2 c0
 obtain ⟨z0,z1,z2,z3,z4,z5,z6,z7,z8,z9,z10⟩:=rowcells11 HW2.out.1
 have y0:=froz HW2.out.1 0
 have y1:=froz HW2.out.1 1
 have y2:=froz HW2.out.1 2
 have y3:=froz HW2.out.1 3
 have y4:=froz HW2.out.1 4
 have y5:=froz HW2.out.1 5
 have y6:=froz HW2.out.1 6
 have y7:=froz HW2.out.1 7
 have y8:=froz HW2.out.1 8
 have y9:=froz HW2.out.1 9
 have y10:=froz HW2.out.1 10
 have HFR:Hid ((((((((((((w2.setCell ⟨g,0,none⟩ (.int .i64 0)).setCell ⟨g,1,none⟩ (.int .i64 0)).setCell ⟨g,2,none⟩ (.int .i64 0)).setCell ⟨g,3,none⟩ (.int .i64 0)).setCell ⟨g,4,none⟩ (.int .i64 0)).setCell ⟨g,5,none⟩ (.int .u64 0)).setCell ⟨g,6,none⟩ (.int .u64 0)).setCell ⟨g,7,none⟩ (.int .i64 0)).setCell ⟨g,8,none⟩ (.int .i64 0)).setCell ⟨g,9,none⟩ (.int .i64 0)).setCell ⟨g,10,none⟩ (.int .i64 0)).heap[g]?=some (.cells #[.int .i64 0,.int .i64 0,.int .i64 0,.int .i64 0,.int .i64 0,.int .u64 0,.int .u64 0,.int .i64 0,.int .i64 0,.int .i64 0,.int .i64 0] 60 (0,0))∧Below w.heap.size w (((((((((((w2.setCell ⟨g,0,none⟩ (.int .i64 0)).setCell ⟨g,1,none⟩ (.int .i64 0)).setCell ⟨g,2,none⟩ (.int .i64 0)).setCell ⟨g,3,none⟩ (.int .i64 0)).setCell ⟨g,4,none⟩ (.int .i64 0)).setCell ⟨g,5,none⟩ (.int .u64 0)).setCell ⟨g,6,none⟩ (.int .u64 0)).setCell ⟨g,7,none⟩ (.int .i64 0)).setCell ⟨g,8,none⟩ (.int .i64 0)).setCell ⟨g,9,none⟩ (.int .i64 0)).setCell ⟨g,10,none⟩ (.int .i64 0))):=⟨uT _ _ _ _ _ _ _ _ _ _ _ _ _ _ _ _ _ _ _ _ _ _ _ _ _ HW2.out.1,xK HW2.out.2 _ _ _ _ _ _ _ _ _ _ _ _ (Nat.le_of_eq HG.out)⟩
 clear HW2
 go_wp2_with fail
 generalize (((((((((((w2.setCell ⟨g,0,none⟩ (.int .i64 0)).setCell ⟨g,1,none⟩ (.int .i64 0)).setCell ⟨g,2,none⟩ (.int .i64 0)).setCell ⟨g,3,none⟩ (.int .i64 0)).setCell ⟨g,4,none⟩ (.int .i64 0)).setCell ⟨g,5,none⟩ (.int .u64 0)).setCell ⟨g,6,none⟩ (.int .u64 0)).setCell ⟨g,7,none⟩ (.int .i64 0)).setCell ⟨g,8,none⟩ (.int .i64 0)).setCell ⟨g,9,none⟩ (.int .i64 0)).setCell ⟨g,10,none⟩ (.int .i64 0))=WF at*
 obtain ⟨u0,u1,u2,u3,u4,u5,u6,u7,u8,u9,u10⟩:=rowcells11 HFR.out.1
 exact bodyPost_ret (v:= .tuple #[.agg #[.int .i64 0,.int .i64 0,.int .i64 0,.int .i64 0,.int .i64 0,.int .u64 0,.int .u64 0,.int .i64 0,.int .i64 0,.int .i64 0,.int .i64 0],.int .i64 95]) (by simp [results,Tryz.results26,go_sem,u0,u1,u2,u3,u4,u5,u6,u7,u8,u9,u10]) rfl ⟨rfl,HFR.out.2⟩
end Go.Proofs.YtkpmalfigmimaaaGreatDoor
