import Derived.Test.YtkpmalfigmimaaaGreatDoorC5C
import Derived.Test.YtkpmalfigmimaaaGreatDoorZ0
import Derived.Test.YtkpmalfigmimaaaGreatDoorD1A
import Derived.Test.YtkpmalfigmimaaaGreatDoorT1S
import Derived.Laws.CopyOwn
import Derived.Deep.CutBlock
import Derived.Deep.DeepCutAuto
import Derived.Deep.CutRange
set_option linter.unusedVariables false
set_option linter.unusedSimpArgs false
set_option maxRecDepth 100000
set_option maxHeartbeats 8000000
namespace Go.Proofs.YtkpmalfigmimaaaGreatDoor
open Go.RowKit
open M
theorem cH (k n:Nat) (f:Nat→Nat) (hk1:1≤k) (hk6:k≤6) (hf:∀i,i<n→f i<18446744073709551616) (hu:¬(k=4∧256<(uq f n).length)):∃bs,jL k n f bs:=by
 by_cases h0:n=0
 ·exact ⟨[],hf,fun _=>rfl,fun h=>by omega⟩
 ·have hS:∃l,yG k f n=some l:=by
   obtain rfl|rfl|rfl|rfl|rfl|rfl:k=1∨k=2∨k=3∨k=4∨k=5∨k=6:=by omega
   ·exact ⟨_,rfl⟩
   ·exact ⟨_,rfl⟩
   ·exact ⟨_,rfl⟩
   ·refine ⟨dcB 64 f n,?_⟩
    show dcO 64 f n=_
    rw [dcO,if_pos (by omega)]
   ·exact ⟨_,rfl⟩
   ·exact ⟨_,rfl⟩
  obtain ⟨l,hl⟩:=hS
  exact ⟨packed l,hf,fun h=>absurd h h0,fun _=>⟨l,hl,rfl⟩⟩
theorem cF (n:Nat) (f:Nat→Nat) (bs:List Nat) (h:jL 1 n f bs):bs.length=8*n:=by
 by_cases h0:n=0
 ·rw [h.2.1 h0,h0];rfl
 ·obtain ⟨l,h1,h2⟩:=h.2.2 (by omega)
  have h1:some (plB 64 f n)=some l:=h1
  obtain rfl:=Option.some.inj h1
  rw [←h2,packed_length,xK];omega
theorem fI (k n:Nat) (f:Nat→Nat) (bs bs':List Nat) (h:jL k n f bs) (h':jL k n f bs'):bs=bs':=by
 by_cases h0:n=0
 ·rw [h.2.1 h0,h'.2.1 h0]
 ·obtain ⟨l,h1,h2⟩:=h.2.2 (by omega)
  obtain ⟨l',h1',h2'⟩:=h'.2.2 (by omega)
  rw [h1] at h1'
  obtain rfl:=Option.some.inj h1'
  rw [←h2,←h2']
theorem cG (k n:Nat) (f:Nat→Nat) (hk1:1≤k) (hk6:k≤6) (hf:∀i,i<n→f i<4294967296) (hu:¬(k=4∧256<(uq f n).length)):∃bs,jK k n f bs:=by
 by_cases h0:n=0
 ·exact ⟨[],hf,fun _=>rfl,fun h=>by omega⟩
 ·have hS:∃l,yF k f n=some l:=by
   obtain rfl|rfl|rfl|rfl|rfl|rfl:k=1∨k=2∨k=3∨k=4∨k=5∨k=6:=by omega
   ·exact ⟨_,rfl⟩
   ·exact ⟨_,rfl⟩
   ·exact ⟨_,rfl⟩
   ·refine ⟨dcB 32 f n,?_⟩
    show dcO 32 f n=_
    rw [dcO,if_pos (by omega)]
   ·exact ⟨_,rfl⟩
   ·exact ⟨_,rfl⟩
  obtain ⟨l,hl⟩:=hS
  exact ⟨packed l,hf,fun h=>absurd h h0,fun _=>⟨l,hl,rfl⟩⟩
theorem cE (n:Nat) (f:Nat→Nat) (bs:List Nat) (h:jK 1 n f bs):bs.length=4*n:=by
 by_cases h0:n=0
 ·rw [h.2.1 h0,h0];rfl
 ·obtain ⟨l,h1,h2⟩:=h.2.2 (by omega)
  have h1:some (plB 32 f n)=some l:=h1
  obtain rfl:=Option.some.inj h1
  rw [←h2,packed_length,xK];omega
theorem fH (k n:Nat) (f:Nat→Nat) (bs bs':List Nat) (h:jK k n f bs) (h':jK k n f bs'):bs=bs':=by
 by_cases h0:n=0
 ·rw [h.2.1 h0,h'.2.1 h0]
 ·obtain ⟨l,h1,h2⟩:=h.2.2 (by omega)
  obtain ⟨l',h1',h2'⟩:=h'.2.2 (by omega)
  rw [h1] at h1'
  obtain rfl:=Option.some.inj h1'
  rw [←h2,←h2']
end Go.Proofs.YtkpmalfigmimaaaGreatDoor
namespace Go.Proofs.YtkpmalfigmimaaaGreatDoor
open Go.RowKit
open M
def hdA (kind:Int) (n na:Nat) (fi la:Int) (le gr:Nat) (by_:Int) (co ti va:Nat):Array Value:=#[.int .i64 kind,.int .i64 (n:Int),.int .i64 (na:Int),.int .i64 fi,.int .i64 la,.int .u64 (le:Int),.int .u64 (gr:Int),.int .i64 by_,.int .i64 (co:Int),.int .i64 (ti:Int),.int .i64 (va:Int)]
def ptA (kind:Int) (n na:Nat) (fi la:Int) (le gr:Nat) (by_:Int) (co ti va:Nat) (a b:Value):Array Value:=#[.int .i64 kind,.int .i64 (n:Int),.int .i64 (na:Int),.int .i64 fi,.int .i64 la,.int .u64 (le:Int),.int .u64 (gr:Int),.int .i64 by_,.int .i64 (co:Int),.int .i64 (ti:Int),.int .i64 (va:Int),a,b]
theorem qCK (kind n na fi la by_ co ti va:Int) (le gr:Int) (w:World) (h1:0≤ti) (h2:ti≤4294967296) (h3:0≤va) (h4:va≤4294967296):
  Calls Tryz.prog 42 #[.agg #[.int .i64 kind,.int .i64 n,.int .i64 na,.int .i64 fi,.int .i64 la,.int .u64 le,.int .u64 gr,.int .i64 by_,.int .i64 co,.int .i64 ti,.int .i64 va]] w fun e w'=>e= .returned (.int .i64 (ti+va+55))∧Below w.heap.size w w':=by
 have HB:Hid (Below w.heap.size w (w.alloc (.cells #[.int .i64 kind,.int .i64 n,.int .i64 na,.int .i64 fi,.int .i64 la,.int .u64 le,.int .u64 gr,.int .i64 by_,.int .i64 co,.int .i64 ti,.int .i64 va] 60))):=(Below.refl _ _).alloc (Nat.le_refl _) _
 have e1:wrap64 (51+ti)=51+ti:=by unfold wrap64;omega
 have e2:wrap64 (51+ti+va)=51+ti+va:=by unfold wrap64;omega
 have e3:wrap64 (51+ti+va+4)=ti+va+55:=by unfold wrap64;omega
 have f1:IntKind.i64.wrap (51+ti)=51+ti:=by rw [IntKind.wrap_i64];omega
 have f2:IntKind.i64.wrap (51+ti+va)=51+ti+va:=by rw [IntKind.wrap_i64];omega
 have f3:IntKind.i64.wrap (51+ti+va+4)=ti+va+55:=by rw [IntKind.wrap_i64];omega
 clear h1 h2 h3 h4
 go_enter Tryz.func42,Tryz.ntmps42
 go_wp2_with fail
 go_ret
 exact ⟨by simp [e1,e2,e3,f1,f2,f3],HB.out⟩
theorem fQ (w:World) (g:Nat) (ty:TypeId) (z0 z1 z2 z3 z4 z5 z6 z7 z8 z9 z10 z11 z12 a0 a1 a2 a3 a4 a5 a6 a7 a8 a9 a10 a11 a12:Value) (h:w.heap[g]?=some (.cells #[z0,z1,z2,z3,z4,z5,z6,z7,z8,z9,z10,z11,z12] ty (0,0))):
  (((((((((((((w.setCell ⟨g,0,none⟩ a0).setCell ⟨g,1,none⟩ a1).setCell ⟨g,2,none⟩ a2).setCell ⟨g,3,none⟩ a3).setCell ⟨g,4,none⟩ a4).setCell ⟨g,5,none⟩ a5).setCell ⟨g,6,none⟩ a6).setCell ⟨g,7,none⟩ a7).setCell ⟨g,8,none⟩ a8).setCell ⟨g,9,none⟩ a9).setCell ⟨g,10,none⟩ a10).setCell ⟨g,11,none⟩ a11).setCell ⟨g,12,none⟩ a12).heap[g]?=some (.cells #[a0,a1,a2,a3,a4,a5,a6,a7,a8,a9,a10,a11,a12] ty (0,0)):=by
 rw [heap_setCell_same _ _ _ _ _ _ (heap_setCell_same _ _ _ _ _ _ (heap_setCell_same _ _ _ _ _ _ (heap_setCell_same _ _ _ _ _ _ (heap_setCell_same _ _ _ _ _ _ (heap_setCell_same _ _ _ _ _ _ (heap_setCell_same _ _ _ _ _ _ (heap_setCell_same _ _ _ _ _ _ (heap_setCell_same _ _ _ _ _ _ (heap_setCell_same _ _ _ _ _ _ (heap_setCell_same _ _ _ _ _ _ (heap_setCell_same _ _ _ _ _ _ (heap_setCell_same _ _ _ _ _ _ h))))))))))))];simp
theorem nT {B:Nat} {w0 w:World} (h:Below B w0 w) (g:Nat) (a0 a1 a2 a3 a4 a5 a6 a7 a8 a9 a10 a11 a12:Value) (hg:B≤g):Below B w0 (((((((((((((w.setCell ⟨g,0,none⟩ a0).setCell ⟨g,1,none⟩ a1).setCell ⟨g,2,none⟩ a2).setCell ⟨g,3,none⟩ a3).setCell ⟨g,4,none⟩ a4).setCell ⟨g,5,none⟩ a5).setCell ⟨g,6,none⟩ a6).setCell ⟨g,7,none⟩ a7).setCell ⟨g,8,none⟩ a8).setCell ⟨g,9,none⟩ a9).setCell ⟨g,10,none⟩ a10).setCell ⟨g,11,none⟩ a11).setCell ⟨g,12,none⟩ a12):=
 qH (qH (qH (qH (qH (qH (qH (qH (qH (qH (qH (qH (qH h _ _ _ hg) _ _ _ hg) _ _ _ hg) _ _ _ hg) _ _ _ hg) _ _ _ hg) _ _ _ hg) _ _ _ hg) _ _ _ hg) _ _ _ hg) _ _ _ hg) _ _ _ hg) _ _ _ hg
theorem fP (w:World) (g:Nat) (ty:TypeId) (z0 z1 z2 z3 z4 z5 z6 z7 z8 z9 z10 a0 a1 a2 a3 a4 a5 a6 a7 a8 a9 a10:Value) (h:w.heap[g]?=some (.cells #[z0,z1,z2,z3,z4,z5,z6,z7,z8,z9,z10] ty (0,0))):
  (((((((((((w.setCell ⟨g,0,none⟩ a0).setCell ⟨g,1,none⟩ a1).setCell ⟨g,2,none⟩ a2).setCell ⟨g,3,none⟩ a3).setCell ⟨g,4,none⟩ a4).setCell ⟨g,5,none⟩ a5).setCell ⟨g,6,none⟩ a6).setCell ⟨g,7,none⟩ a7).setCell ⟨g,8,none⟩ a8).setCell ⟨g,9,none⟩ a9).setCell ⟨g,10,none⟩ a10).heap[g]?=some (.cells #[a0,a1,a2,a3,a4,a5,a6,a7,a8,a9,a10] ty (0,0)):=by
 rw [heap_setCell_same _ _ _ _ _ _ (heap_setCell_same _ _ _ _ _ _ (heap_setCell_same _ _ _ _ _ _ (heap_setCell_same _ _ _ _ _ _ (heap_setCell_same _ _ _ _ _ _ (heap_setCell_same _ _ _ _ _ _ (heap_setCell_same _ _ _ _ _ _ (heap_setCell_same _ _ _ _ _ _ (heap_setCell_same _ _ _ _ _ _ (heap_setCell_same _ _ _ _ _ _ (heap_setCell_same _ _ _ _ _ _ h))))))))))];simp
theorem nS {B:Nat} {w0 w:World} (h:Below B w0 w) (g:Nat) (a0 a1 a2 a3 a4 a5 a6 a7 a8 a9 a10:Value) (hg:B≤g):Below B w0 (((((((((((w.setCell ⟨g,0,none⟩ a0).setCell ⟨g,1,none⟩ a1).setCell ⟨g,2,none⟩ a2).setCell ⟨g,3,none⟩ a3).setCell ⟨g,4,none⟩ a4).setCell ⟨g,5,none⟩ a5).setCell ⟨g,6,none⟩ a6).setCell ⟨g,7,none⟩ a7).setCell ⟨g,8,none⟩ a8).setCell ⟨g,9,none⟩ a9).setCell ⟨g,10,none⟩ a10):=
 qH (qH (qH (qH (qH (qH (qH (qH (qH (qH (qH h _ _ _ hg) _ _ _ hg) _ _ _ hg) _ _ _ hg) _ _ _ hg) _ _ _ hg) _ _ _ hg) _ _ _ hg) _ _ _ hg) _ _ _ hg) _ _ _ hg
theorem qDI {w w':World} {v:Value} {bs:List Nat} {g:Nat} {cs:Array Value} {ty:TypeId} (h:jW w v bs) (hg:w.heap[g]?=some (.cells cs ty (0,0))) (hn:∀u∈cs.toList,∀x,u≠ .int .u8 x) (hk:∀k,k≠g→w'.heap[k]?=w.heap[k]?):jW w' v bs:=by
 rcases h with (⟨h1,h2⟩|⟨g1,o,cap,h1,h2⟩)|⟨ad,cap,h1,h2⟩
 ·exact .inl (.inl ⟨h1,h2⟩)
 ·refine .inl (.inr ⟨g1,o,cap,h1,fun i hi=>?_⟩)
  have hc:=h2 i hi
  have hne:g1≠g:=fun e=>by
   subst e
   rw [cell_of_row _ _ _ _ _ _ hg] at hc
   exact hn _ (by simpa using Array.mem_of_getElem? hc) _ rfl
  rw [World.cell?_of_block (w:=w) (hk g1 hne)];exact hc
 ·exact .inr ⟨ad,cap,h1,h2⟩
theorem xS (kind:Int) (n:Nat) (v:Nat→Nat) (k:Nat) (bs:List Nat) (hv:∀i,i<n→v i<18446744073709551616) (h:yE kind n v k bs):bs.length≤8*n∧1≤k∧k≤6:=by
 unfold yE at h
 split at h
 ·obtain ⟨b1,hb1⟩:=cG 1 n (fun i=>yI (v i)) (by omega) (by omega) (fun i hi=>wD _ (hv i hi)) (by omega)
  have:=h.least 1 b1 (by omega) (by omega) hb1
  rw [cE n _ b1 hb1] at this
  exact ⟨by omega,h.lo,h.hi⟩
 ·obtain ⟨b1,hb1⟩:=cH 1 n v (by omega) (by omega) hv (by omega)
  have:=h.least 1 b1 (by omega) (by omega) hb1
  rw [cF n _ b1 hb1] at this
  exact ⟨by omega,h.lo,h.hi⟩
theorem qAA (kind:Int) (n:Nat) (v:Nat→Nat) (k k':Nat) (bs bs':List Nat) (h:yE kind n v k bs) (h':yE kind n v k' bs'):k=k'∧bs=bs':=by
 unfold yE at h h'
 split at h
 ·rename_i hk
  rw [if_pos hk] at h'
  have a:=h.least k' bs' h'.lo h'.hi h'.is
  have b:=h'.least k bs h.lo h.hi h.is
  obtain rfl:k=k':=by omega
  exact ⟨rfl,fH _ _ _ _ _ h.is h'.is⟩
 ·rename_i hk
  rw [if_neg hk] at h'
  have a:=h.least k' bs' h'.lo h'.hi h'.is
  have b:=h'.least k bs h.lo h.hi h.is
  obtain rfl:k=k':=by omega
  exact ⟨rfl,fI _ _ _ _ _ h.is h'.is⟩
theorem xR (t:Nat→Int) (n:Nat):(packed (tbn t n)).length≤9*n:=by
 have:=tbn_length' t n
 rw [packed_length];omega
def qGU (kind:Int) (n:Nat) (t:Nat→Int) (v:Nat→Nat) (w:World) (e:Ending) (w':World):Prop:=
 ∃(co T V gt cv:Nat) (pv:Option Addr) (vb:List Nat),e= .returned (.tuple #[.agg (ptA kind n (kO v n) (t 0) (t (n-1)) (leV v n) (grV v n) ((T:Int)+(V:Int)+55) co T V (.slice (some ⟨gt,0,none⟩) T T) (.slice pv V cv)),.int .i64 0])∧
  T=(packed (tbn t n)).length∧w'.heap[gt]?=some (.cells (qM (packed (tbn t n))).toArray 5 (0,0))∧V=vb.length∧jW w' (.slice pv V cv) vb∧(∀n∈vb,n<256)∧yE kind n v co vb∧Below w.heap.size w w'
theorem pY (kind:Int) (p:Option Addr) (m cap:Nat) (t:Nat→Int) (v:Nat→Nat) (w:World) (h:uB w p (m+1) t v) (hG:qEE kind (m+1) t v) (ht:∀i,i<m+1→I64 (t i)) (hf:∀i,i<m+1→v i<18446744073709551616) (hT:qT w):
  Calls Tryz.prog 22 #[.int .i64 kind,.slice p (m+1) cap] w (qGU kind (m+1) t v w):=by
 have hn:m+1≤4096:=hG.hi
 obtain ⟨g,hg⟩:∃g,w.heap.size=g:=⟨_,rfl⟩
 obtain ⟨W1,hW1⟩:∃W1,w.alloc (.cells #[.int .i64 0,.int .i64 0,.int .i64 0,.int .i64 0,.int .i64 0,.int .u64 0,.int .u64 0,.int .i64 0,.int .i64 0,.int .i64 0,.int .i64 0,.slice none 0 0,.slice none 0 0] 62)=W1:=⟨_,rfl⟩
 have HR1:Hid (W1.heap[g]?=some (.cells #[.int .i64 0,.int .i64 0,.int .i64 0,.int .i64 0,.int .i64 0,.int .u64 0,.int .u64 0,.int .i64 0,.int .i64 0,.int .i64 0,.int .i64 0,.slice none 0 0,.slice none 0 0] 62 (0,0))∧Below g w W1∧g<W1.heap.size):=by rw [←hW1,←hg];exact ⟨heap_alloc_new _ _,(Below.refl _ _).alloc (Nat.le_refl _) _,by simp⟩
 have HRef:=qA (fun (w1:World) (hB:Below w.heap.size w w1)=>qBH kind p (m+1) cap t v w1 (h.below hB) (by omega) hf)
 have HTim:=qA (fun (w1:World) (hB:Below w.heap.size w w1)=>sK p (m+1) cap t v w1 (h.below hB) hn ht hG.up)
 have HVal:=qA (fun (w1:World) (hB:Below w.heap.size w w1)=>cL kind p (m+1) cap t v w1 (h.below hB) hn hf (hT.below hB))
 have HSum:=qA (fun (w1:World) (hB:Below w.heap.size w w1)=>qBP kind p m cap t v w1 (h.below hB) hn hf)
 have HF:=qA hf
 have HGd:=qA hG
 rw [hg] at HRef HTim HVal HSum
 clear h hG ht hf hT
 go_enter Tryz.func22,Tryz.ntmps22
 go_upto_region 1 with fail
 (try rw [hW1])
 have HG:=qA hg
 clear hW1 hg
 go_wp2_with fail
 refine (HRef.out W1 HR1.out.2.1).mono ?_
 rintro e w2 ⟨c,rfl,hc,B2⟩
 obtain rfl:=hc.good HGd.out
 have HB2:Hid (Below g w w2):=HR1.out.2.1.trans (B2.mono (Nat.le_of_lt HR1.out.2.2))
 have HR2:Hid (w2.heap[g]?=some (.cells #[.int .i64 0,.int .i64 0,.int .i64 0,.int .i64 0,.int .i64 0,.int .u64 0,.int .u64 0,.int .i64 0,.int .i64 0,.int .i64 0,.int .i64 0,.slice none 0 0,.slice none 0 0] 62 (0,0))∧g<w2.heap.size):=⟨by rw [B2.block g HR1.out.2.2];exact HR1.out.1,Nat.lt_of_lt_of_le HR1.out.2.2 B2.size⟩
 clear hc B2 HR1 HRef
 go_wp2_with fail
 refine (HTim.out w2 HB2.out).mono ?_
 rintro e w3 ⟨gt,T,hT,hgt,rfl,hTb,B3⟩
 have HB3:Hid (Below g w w3):=HB2.out.trans (B3.mono (Nat.le_of_lt HR2.out.2))
 have HR3:Hid (w3.heap[g]?=some (.cells #[.int .i64 0,.int .i64 0,.int .i64 0,.int .i64 0,.int .i64 0,.int .u64 0,.int .u64 0,.int .i64 0,.int .i64 0,.int .i64 0,.int .i64 0,.slice none 0 0,.slice none 0 0] 62 (0,0))∧g<w3.heap.size):=⟨by rw [B3.block g HR2.out.2];exact HR2.out.1,Nat.lt_of_lt_of_le HR2.out.2 B3.size⟩
 have HTB:=qA hTb
 have HTL:=qA hT
 have hTs:T≤40000:=by have:=xR t (m+1);rw [hT];omega
 have HGT:Hid (g<gt):=Nat.lt_of_lt_of_le HR2.out.2 hgt
 clear hgt hT hTb B3 HB2 HR2 HTim
 go_wp2_with fail
 refine (HVal.out w3 HB3.out).mono ?_
 rintro e w4 ⟨co,pv,cv,vb,rfl,hby,h256,hvi,B4⟩
 have hvl:=xS kind (m+1) v co vb HF.out hvi
 obtain ⟨V,hV⟩:∃V,vb.length=V:=⟨_,rfl⟩
 rw [hV] at hby hvl⊢
 have hVs:V≤40000:=by omega
 have hco:co≤6:=hvl.2.2
 have HB4:Hid (Below g w w4):=HB3.out.trans (B4.mono (Nat.le_of_lt HR3.out.2))
 have HR4:Hid (w4.heap[g]?=some (.cells #[.int .i64 0,.int .i64 0,.int .i64 0,.int .i64 0,.int .i64 0,.int .u64 0,.int .u64 0,.int .i64 0,.int .i64 0,.int .i64 0,.int .i64 0,.slice none 0 0,.slice none 0 0] 62 (0,0))∧g<w4.heap.size):=⟨by rw [B4.block g HR3.out.2];exact HR3.out.1,Nat.lt_of_lt_of_le HR3.out.2 B4.size⟩
 have HTB4:Hid (w4.heap[gt]?=some (.cells (qM (packed (tbn t (m+1)))).toArray 5 (0,0))):=by show _=_;rw [B4.block gt (qB HTB.out)];exact HTB.out
 have HVV:Hid ((∀n∈vb,n<256)∧yE kind (m+1) v co vb∧V=vb.length):=⟨h256,hvi,hV.symm⟩
 have HBY:=qA hby
 clear hby h256 hvi hvl hV B4 HB3 HR3 HTB HVal HF
 go_wp2_with fail
 refine (HSum.out w4 HB4.out).mono ?_
 rintro e w5 ⟨rfl,B5⟩
 have HB5:Hid (Below g w w5):=HB4.out.trans (B5.mono (Nat.le_of_lt HR4.out.2))
 have HR5:Hid (w5.heap[g]?=some (.cells #[.int .i64 0,.int .i64 0,.int .i64 0,.int .i64 0,.int .i64 0,.int .u64 0,.int .u64 0,.int .i64 0,.int .i64 0,.int .i64 0,.int .i64 0,.slice none 0 0,.slice none 0 0] 62 (0,0))∧g<w5.heap.size):=⟨by rw [B5.block g HR4.out.2];exact HR4.out.1,Nat.lt_of_lt_of_le HR4.out.2 B5.size⟩
 have HTB5:Hid (w5.heap[gt]?=some (.cells (qM (packed (tbn t (m+1)))).toArray 5 (0,0))):=by show _=_;rw [B5.block gt (qB HTB4.out)];exact HTB4.out
 have HBY5:=qA (qD HBY.out B5)
 clear B5 HB4 HR4 HTB4 HBY HSum
 obtain ⟨x0,hx0⟩:∃x,t 0=x:=⟨_,rfl⟩
 obtain ⟨xl,hxl⟩:∃x,t m=x:=⟨_,rfl⟩
 obtain ⟨na,hna⟩:∃x,kO v (m+1)=x:=⟨_,rfl⟩
 obtain ⟨lv,hlv⟩:∃x,leV v (m+1)=x:=⟨_,rfl⟩
 obtain ⟨gv,hgv⟩:∃x,grV v (m+1)=x:=⟨_,rfl⟩
 have HLE:=qA (And.intro hx0 (And.intro hxl (And.intro hna (And.intro hlv hgv))))
 rw [hx0,hxl,hna,hlv,hgv]
 clear hx0 hxl hna hlv hgv
 unfold bhA
 obtain ⟨h,hh⟩:∃h,w5.heap.size=h:=⟨_,rfl⟩
 obtain ⟨W6,hW6⟩:∃W6,w5.alloc (.cells #[.int .i64 kind,.int .i64 ((m:Int)+1),.int .i64 (na:Int),.int .i64 x0,.int .i64 xl,.int .u64 (lv:Int),.int .u64 (gv:Int),.int .i64 0,.int .i64 (co:Int),.int .i64 (T:Int),.int .i64 (V:Int)] 60)=W6:=⟨_,rfl⟩
 have HW6:Hid (W6.heap[h]?=some (.cells #[.int .i64 kind,.int .i64 ((m:Int)+1),.int .i64 (na:Int),.int .i64 x0,.int .i64 xl,.int .u64 (lv:Int),.int .u64 (gv:Int),.int .i64 0,.int .i64 (co:Int),.int .i64 (T:Int),.int .i64 (V:Int)] 60 (0,0))∧Below w5.heap.size w5 W6∧h<W6.heap.size):=by rw [←hW6,←hh];exact ⟨heap_alloc_new _ _,(Below.refl _ _).alloc (Nat.le_refl _) _,by simp⟩
 go_upto_region 7 with fail
 (try rw [hW6])
 have HH:=qA hh
 clear hW6 hh
 obtain ⟨o0,o1,o2,o3,o4,o5,o6,o7,o8,o9,o10⟩:=rowcells11 HW6.out.1
 go_wp2_with fail
 refine (qCK kind ((m:Int)+1) (na:Int) x0 xl 0 (co:Int) (T:Int) (V:Int) (lv:Int) (gv:Int) W6 (by omega) (by omega) (by omega) (by omega)).mono ?_
 rintro e w7 ⟨rfl,B7⟩
 have HW7:Hid (w7.heap[h]?=some (.cells #[.int .i64 kind,.int .i64 ((m:Int)+1),.int .i64 (na:Int),.int .i64 x0,.int .i64 xl,.int .u64 (lv:Int),.int .u64 (gv:Int),.int .i64 0,.int .i64 (co:Int),.int .i64 (T:Int),.int .i64 (V:Int)] 60 (0,0))∧Below w5.heap.size w5 w7):=⟨by rw [B7.block h HW6.out.2.2];exact HW6.out.1,HW6.out.2.1.trans (B7.mono HW6.out.2.1.size)⟩
 clear B7 HW6 o0 o1 o2 o3 o4 o5 o6 o7 o8 o9 o10
 have c7:w7.cell? ⟨h,7,none⟩=some (.int .i64 0):=by rw [cell_of_row _ _ _ _ _ _ HW7.out.1];rfl
 have f7:=froz HW7.out.1 7
 obtain ⟨W8,hW8⟩:∃W8,w7.setCell ⟨h,7,none⟩ (.int .i64 ((T:Int)+(V:Int)+55))=W8:=⟨_,rfl⟩
 have HW8:Hid (W8.heap[h]?=some (.cells #[.int .i64 kind,.int .i64 ((m:Int)+1),.int .i64 (na:Int),.int .i64 x0,.int .i64 xl,.int .u64 (lv:Int),.int .u64 (gv:Int),.int .i64 ((T:Int)+(V:Int)+55),.int .i64 (co:Int),.int .i64 (T:Int),.int .i64 (V:Int)] 60 (0,0))∧Below w5.heap.size w5 W8):=by
  rw [←hW8]
  refine ⟨?_,qH HW7.out.2 _ _ _ (Nat.le_of_eq HH.out)⟩
  rw [heap_setCell_same _ _ _ _ _ _ HW7.out.1];simp
 go_upto_region 8 with fail
 (try rw [hW8])
 clear hW8 c7 f7 HW7
 have HRG:Hid (W8.heap[g]?=some (.cells #[.int .i64 0,.int .i64 0,.int .i64 0,.int .i64 0,.int .i64 0,.int .u64 0,.int .u64 0,.int .i64 0,.int .i64 0,.int .i64 0,.int .i64 0,.slice none 0 0,.slice none 0 0] 62 (0,0))∧Below g w W8):=⟨by rw [HW8.out.2.block g HR5.out.2];exact HR5.out.1,HB5.out.trans (HW8.out.2.mono (Nat.le_of_lt HR5.out.2))⟩
 have HTB8:Hid (W8.heap[gt]?=some (.cells (qM (packed (tbn t (m+1)))).toArray 5 (0,0))):=by show _=_;rw [HW8.out.2.block gt (qB HTB5.out)];exact HTB5.out
 have HBY8:=qA (qD HBY5.out HW8.out.2)
 obtain ⟨o0,o1,o2,o3,o4,o5,o6,o7,o8,o9,o10⟩:=rowcells11 HW8.out.1
 obtain ⟨z0,z1,z2,z3,z4,z5,z6,z7,z8,z9,z10,z11,z12⟩:=rowcells13 HRG.out.1
 have y0:=froz HRG.out.1 0
 have y1:=froz HRG.out.1 1
 have y2:=froz HRG.out.1 2
 have y3:=froz HRG.out.1 3
 have y4:=froz HRG.out.1 4
 have y5:=froz HRG.out.1 5
 have y6:=froz HRG.out.1 6
 have y7:=froz HRG.out.1 7
 have y8:=froz HRG.out.1 8
 have y9:=froz HRG.out.1 9
 have y10:=froz HRG.out.1 10
 have y11:=froz HRG.out.1 11
 have y12:=froz HRG.out.1 12
 have HFR:Hid ((((((((((((((W8.setCell ⟨g,0,none⟩ (.int .i64 kind)).setCell ⟨g,1,none⟩ (.int .i64 ((m:Int)+1))).setCell ⟨g,2,none⟩ (.int .i64 (na:Int))).setCell ⟨g,3,none⟩ (.int .i64 x0)).setCell ⟨g,4,none⟩ (.int .i64 xl)).setCell ⟨g,5,none⟩ (.int .u64 (lv:Int))).setCell ⟨g,6,none⟩ (.int .u64 (gv:Int))).setCell ⟨g,7,none⟩ (.int .i64 ((T:Int)+(V:Int)+55))).setCell ⟨g,8,none⟩ (.int .i64 (co:Int))).setCell ⟨g,9,none⟩ (.int .i64 (T:Int))).setCell ⟨g,10,none⟩ (.int .i64 (V:Int))).setCell ⟨g,11,none⟩ (.slice (some ⟨gt,0,none⟩) T T)).setCell ⟨g,12,none⟩ (.slice pv V cv)).heap[g]?=some (.cells #[.int .i64 kind,.int .i64 ((m:Int)+1),.int .i64 (na:Int),.int .i64 x0,.int .i64 xl,.int .u64 (lv:Int),.int .u64 (gv:Int),.int .i64 ((T:Int)+(V:Int)+55),.int .i64 (co:Int),.int .i64 (T:Int),.int .i64 (V:Int),.slice (some ⟨gt,0,none⟩) T T,.slice pv V cv] 62 (0,0))∧Below g w (((((((((((((W8.setCell ⟨g,0,none⟩ (.int .i64 kind)).setCell ⟨g,1,none⟩ (.int .i64 ((m:Int)+1))).setCell ⟨g,2,none⟩ (.int .i64 (na:Int))).setCell ⟨g,3,none⟩ (.int .i64 x0)).setCell ⟨g,4,none⟩ (.int .i64 xl)).setCell ⟨g,5,none⟩ (.int .u64 (lv:Int))).setCell ⟨g,6,none⟩ (.int .u64 (gv:Int))).setCell ⟨g,7,none⟩ (.int .i64 ((T:Int)+(V:Int)+55))).setCell ⟨g,8,none⟩ (.int .i64 (co:Int))).setCell ⟨g,9,none⟩ (.int .i64 (T:Int))).setCell ⟨g,10,none⟩ (.int .i64 (V:Int))).setCell ⟨g,11,none⟩ (.slice (some ⟨gt,0,none⟩) T T)).setCell ⟨g,12,none⟩ (.slice pv V cv))):=⟨fQ _ _ _ _ _ _ _ _ _ _ _ _ _ _ _ _ _ _ _ _ _ _ _ _ _ _ _ _ _ HRG.out.1,nT HRG.out.2 _ _ _ _ _ _ _ _ _ _ _ _ _ _ (Nat.le_refl _)⟩
 have HFB:Hid (∀k,k≠g→(((((((((((((W8.setCell ⟨g,0,none⟩ (.int .i64 kind)).setCell ⟨g,1,none⟩ (.int .i64 ((m:Int)+1))).setCell ⟨g,2,none⟩ (.int .i64 (na:Int))).setCell ⟨g,3,none⟩ (.int .i64 x0)).setCell ⟨g,4,none⟩ (.int .i64 xl)).setCell ⟨g,5,none⟩ (.int .u64 (lv:Int))).setCell ⟨g,6,none⟩ (.int .u64 (gv:Int))).setCell ⟨g,7,none⟩ (.int .i64 ((T:Int)+(V:Int)+55))).setCell ⟨g,8,none⟩ (.int .i64 (co:Int))).setCell ⟨g,9,none⟩ (.int .i64 (T:Int))).setCell ⟨g,10,none⟩ (.int .i64 (V:Int))).setCell ⟨g,11,none⟩ (.slice (some ⟨gt,0,none⟩) T T)).setCell ⟨g,12,none⟩ (.slice pv V cv)).heap[k]?=W8.heap[k]?):=fun k hk=>by
  rw [Below.heap_setCell _ _ _ _ hk,Below.heap_setCell _ _ _ _ hk,Below.heap_setCell _ _ _ _ hk,Below.heap_setCell _ _ _ _ hk,Below.heap_setCell _ _ _ _ hk,Below.heap_setCell _ _ _ _ hk,Below.heap_setCell _ _ _ _ hk,Below.heap_setCell _ _ _ _ hk,Below.heap_setCell _ _ _ _ hk,Below.heap_setCell _ _ _ _ hk,Below.heap_setCell _ _ _ _ hk,Below.heap_setCell _ _ _ _ hk,Below.heap_setCell _ _ _ _ hk]
 clear HW8 HR5 HB5 HTB5 HBY5
 go_wp2_with fail
 generalize (((((((((((((W8.setCell ⟨g,0,none⟩ (.int .i64 kind)).setCell ⟨g,1,none⟩ (.int .i64 ((m:Int)+1))).setCell ⟨g,2,none⟩ (.int .i64 (na:Int))).setCell ⟨g,3,none⟩ (.int .i64 x0)).setCell ⟨g,4,none⟩ (.int .i64 xl)).setCell ⟨g,5,none⟩ (.int .u64 (lv:Int))).setCell ⟨g,6,none⟩ (.int .u64 (gv:Int))).setCell ⟨g,7,none⟩ (.int .i64 ((T:Int)+(V:Int)+55))).setCell ⟨g,8,none⟩ (.int .i64 (co:Int))).setCell ⟨g,9,none⟩ (.int .i64 (T:Int))).setCell ⟨g,10,none⟩ (.int .i64 (V:Int))).setCell ⟨g,11,none⟩ (.slice (some ⟨gt,0,none⟩) T T)).setCell ⟨g,12,none⟩ (.slice pv V cv))=WF at*
 obtain ⟨u0,u1,u2,u3,u4,u5,u6,u7,u8,u9,u10,u11,u12⟩:=rowcells13 HFR.out.1
 exact bodyPost_ret (v:= .tuple #[.agg (ptA kind (m+1) na x0 xl lv gv ((T:Int)+(V:Int)+55) co T V (.slice (some ⟨gt,0,none⟩) T T) (.slice pv V cv)),.int .i64 0]) (by simp [results,Tryz.results22,go_sem,ptA,u0,u1,u2,u3,u4,u5,u6,u7,u8,u9,u10,u11,u12]) rfl
  ⟨co,T,V,gt,cv,pv,vb,by rw [Nat.add_sub_cancel,HLE.out.1,HLE.out.2.1,HLE.out.2.2.1,HLE.out.2.2.2.1,HLE.out.2.2.2.2],HTL.out,by rw [HFB.out gt (by have:=HGT.out;omega)];exact HTB8.out,HVV.out.2.2,qDI HBY8.out HRG.out.1 (by simp) HFB.out,HVV.out.1,HVV.out.2.1,by rw [HG.out];exact HFR.out.2⟩
end Go.Proofs.YtkpmalfigmimaaaGreatDoor
namespace Go.Proofs.YtkpmalfigmimaaaGreatDoor
open Go.RowKit
def xV (q:Nat→List Nat):Nat→List Nat
 |0=>[]
 |k+1=>xV q k++q k
theorem qF5 (q:Nat→List Nat) (k m:Nat) (h:k≤m):(xV q k).length≤(xV q m).length:=by
 induction m with
 |zero=>rw [show k=0 from by omega];exact Nat.le_refl _
 |succ m ih=>
  by_cases e:k=m+1
  ·rw [e];exact Nat.le_refl _
  ·have:=ih (by omega);rw [xV,List.length_append];omega
theorem qDA (a b:List Nat) (N:Nat) (h:a.length+b.length≤N):splice (qM a++List.replicate (N-a.length) (Value.int .u8 0)) a.length (qM b)=qM (a++b)++List.replicate (N-(a++b).length) (Value.int .u8 0):=by
 unfold splice
 rw [List.take_left' (by simp),zP,List.drop_append,List.drop_eq_nil_of_le (by simp),List.nil_append,zP,List.drop_replicate]
 unfold qM
 rw [List.map_append,List.append_assoc,List.length_append]
 congr 3
 omega
theorem bZ (bs:List Nat):∀u∈qM bs,u.oneCell'=true:=by
 intro u hu
 simp only [qM,List.mem_map] at hu
 obtain ⟨n,_,rfl⟩:=hu
 rfl
def qL (w:World) (p:Option Addr) (m:Nat) (q:Nat→List Nat):Prop:=∀i,i<m→∃b o v,p=some ⟨b,o,none⟩∧w.cell? ⟨b,o+i,none⟩=some v∧jW w v (q i)
theorem pD (p:Option Addr) (m cap:Nat) (q:Nat→List Nat) (w:World) (h:qL w p m q) (hm:m≤100) (hl:(xV q m).length≤1000000000):
  Calls Tryz.prog 23 #[.slice p m cap] w fun e w'=>∃g,e= .returned (.slice (some ⟨g,0,none⟩) (xV q m).length (xV q m).length)∧w.heap.size≤g∧w'.heap[g]?=some (.cells (qM (xV q m)).toArray 5 (0,0))∧Below w.heap.size w w':=by
 have H:=qA h
 obtain ⟨N,hN⟩:∃N,(xV q m).length=N:=⟨_,rfl⟩
 have HN:=qA hN
 rw [hN] at hl⊢
 have hsz:(Tryz.prog.info? 5).map (·.size)=some 1:=by kernel_rfl
 have HSZ:=qA hsz
 clear h hN hsz
 go_enter Tryz.func23,Tryz.ntmps23
 go_wp2_with fail
 go_loopw [3,12] (fun t3 t12 wr=>∃k s:Nat,t12= .int .i64 (k:Int)∧t3= .int .i64 (s:Int)∧wr=w∧Hid (k≤m∧s=(xV q k).length)) (fun _ t12 _=>m-(intOf t12).toNat)
 case atStart=>exact ⟨0,0,rfl,rfl,rfl,Nat.zero_le _,rfl⟩
 case round=>
  obtain ⟨k,s,rfl,rfl,rfl,hI⟩:=hrel
  by_cases hlt:k<m
  ·obtain ⟨b,o,v,rfl,c1,hv⟩:=H.out k hlt
   obtain ⟨pv,cv,rfl,_⟩:=rK hv
   have hs1:s+(q k).length≤N:=by
    have:=qF5 q (k+1) m (by omega)
    rw [xV,List.length_append,HN.out,←hI.out.2] at this;exact this
   have HNX:Hid (s+(q k).length=(xV q (k+1)).length):=by rw [xV,List.length_append,hI.out.2];rfl
   obtain ⟨L,hL⟩:∃L,(q k).length=L:=⟨_,rfl⟩
   rw [hL] at c1 hs1 HNX
   clear hL hv hI
   go_wp2_with fail
   go_roundw
   case rel=>exact ⟨k+1,s+L,by simp,by simp,by trivial,hlt,HNX.out⟩
   case measure=>simp [intOf];omega
  ·have hk:k=m:=by have:=hI.out.1;omega
   have hs:s=N:=by rw [hI.out.2,hk,HN.out]
   subst hs
   obtain ⟨w0,hw0⟩:∃w0,w0=wr:=⟨_,rfl⟩
   subst hw0
   have hmk:=dN s (by omega)
   obtain ⟨g,hg⟩:∃g,w0.heap.size=g:=⟨_,rfl⟩
   obtain ⟨W1,hW1⟩:∃W1,W1=w0.alloc (.cells (Array.replicate s (Value.int .u8 0)) 5):=⟨_,rfl⟩
   have HW:Hid (W1.heap[g]?=some (.cells (List.replicate s (Value.int .u8 0)).toArray 5 (0,0))∧Below g w0 W1):=by
    rw [hW1,←hg];exact ⟨(heap_alloc_new w0 _).trans (by simp),(Below.refl _ w0).alloc (Nat.le_refl _) _⟩
   have HGG:=qA hg
   clear hI
   go_upto_region 8 with fail
   (try rw [hg])
   (try rw [←hW1])
   clear hW1 hmk hg
   go_wp2_with fail
   go_loopw [7,25] (fun t7 t25 wq=>∃k a:Nat,t25= .int .i64 (k:Int)∧t7= .int .i64 (a:Int)∧Hid (k≤m∧a=(xV q k).length∧wq.heap[g]?=some (.cells (qM (xV q k)++List.replicate (s-(xV q k).length) (Value.int .u8 0)).toArray 5 (0,0))∧Below g w0 wq)) (fun _ t25 _=>m-(intOf t25).toNat)
   case atStart=>exact ⟨0,0,rfl,rfl,Nat.zero_le _,rfl,by simpa [xV,qM] using HW.out.1,HW.out.2⟩
   case round=>
    obtain ⟨k,a,rfl,rfl,hJ⟩:=hrel
    by_cases hlt2:k<m
    ·obtain ⟨b,o,v,rfl,c1,hv⟩:=H.out k hlt2
     have hbg:b<g:=by rw [←HGG.out];exact block_lt_of_cell c1
     have c2:wr.cell? ⟨b,o+k,none⟩=some v:=by rw [hJ.out.2.2.2.cell (p:=⟨b,o+k,none⟩) hbg];exact c1
     obtain ⟨pv,cv,rfl,hcell⟩:=rK hv
     have hs1:a+(q k).length≤s:=by
      have:=qF5 q (k+1) m (by omega)
      rw [xV,List.length_append,HN.out,←hJ.out.2.1] at this;exact this
     have hrun:∀dp:Option Addr,(0<(q k).length→dp=some ⟨g,a,none⟩)→∃w2,(Builtin.copy_ #[28,28] 3 #[.slice dp (s-a) (s-a),.slice pv (q k).length cv]).run Tryz.prog wr= .ok (.int .i64 ((q k).length:Int)) w2∧Hid (w2.heap[g]?=some (.cells (qM (xV q (k+1))++List.replicate (s-(xV q (k+1)).length) (Value.int .u8 0)).toArray 5 (0,0))∧Below g w0 w2):=fun dp hdp=>by
      by_cases h0:(q k).length=0
      ·have hq0:q k=[]:=List.eq_nil_of_length_eq_zero h0
       have h1:=run_copy_none (P:=Tryz.prog) wr 28 28 3 5 dp pv (s-a) (s-a) (q k).length cv Tryz.underlying28 HSZ.out (by rw [h0];simp)
       refine ⟨wr,by rw [h1,h0];rfl,?_,hJ.out.2.2.2⟩
       rw [xV,hq0,List.append_nil];exact hJ.out.2.2.1
      ·rw [hdp (by omega)]
       obtain ⟨b2,o2,hp2,_⟩:=hcell 0 (by omega)
       subst hp2
       have h1:=run_copy_row (P:=Tryz.prog) wr 28 28 3 5 g a (s-a) (s-a) ⟨b2,o2,none⟩ (q k).length cv (qM (xV q k)++List.replicate (s-(xV q k).length) (Value.int .u8 0)).toArray 5 (qM (q k)) Tryz.underlying28 HSZ.out hJ.out.2.2.1 (show (qM (q k)).length=min (q k).length (s-a) by rw [zP];omega) (fun j u hu=>?_) (by simp;rw [←hJ.out.2.1];omega) (bZ _)
       ·refine ⟨_,by rw [h1,zP];rfl,?_,below_setRow hJ.out.2.2.2 (Nat.le_refl _) _⟩
        have h2:=setRow_heap wr g _ ((qM (xV q k)++List.replicate (s-(xV q k).length) (Value.int .u8 0)).toArray.toList.take a++qM (q k)++(qM (xV q k)++List.replicate (s-(xV q k).length) (Value.int .u8 0)).toArray.toList.drop (a+(qM (q k)).length)).toArray _ _ hJ.out.2.2.1
        rw [zP] at h2
        rw [h2]
        have h3:=qDA (xV q k) (q k) s (by rw [←hJ.out.2.1];exact hs1)
        rw [xV,←h3]
        unfold splice
        rw [←hJ.out.2.1]
        simp
       ·have hj:j<(q k).length:=by
         rcases Nat.lt_or_ge j (q k).length with h|h
         ·exact h
         ·rw [List.getElem?_eq_none (by simpa [qM] using h)] at hu;cases hu
        obtain ⟨b3,o3,hp3,hc3⟩:=hcell j hj
        simp only [Option.some.injEq,Addr.mk.injEq] at hp3
        obtain ⟨rfl,rfl,_⟩:=hp3
        have hb2:b2<g:=by rw [←HGG.out];exact block_lt_of_cell hc3
        rw [Addr.add_mid,hJ.out.2.2.2.cell (p:=⟨b2,o2+j,none⟩) hb2,hc3,←hu]
        simp [qM,hj]
     have HRUN:=qA hrun
     clear hrun
     have HNX:Hid (a+(q k).length=(xV q (k+1)).length):=by rw [xV,List.length_append,hJ.out.2.1];rfl
     obtain ⟨L,hL⟩:∃L,(q k).length=L:=⟨_,rfl⟩
     rw [hL] at c2 hs1 HNX HRUN
     clear hL hcell hv c1
     obtain ⟨dp,hdp⟩:∃dp:Option Addr,(if s=a then some ⟨g,0,none⟩ else some ⟨g,a,none⟩)=dp:=⟨_,rfl⟩
     obtain ⟨w2,hr2,hw2⟩:=HRUN.out dp (fun h0=>by rw [←hdp,if_neg (by omega)])
     have hle:a≤s:=by omega
     by_cases hsa:s=a
     ·rw [if_pos hsa] at hdp
      subst hdp
      subst hsa
      rw [Nat.sub_self] at hr2
      clear hJ HRUN
      go_wp2_with fail
      go_roundw
      case rel=>exact ⟨k+1,s+L,by simp,by simp,hlt2,HNX.out,hw2.out.1,hw2.out.2⟩
      case measure=>simp [intOf];omega
     ·rw [if_neg hsa] at hdp
      subst hdp
      clear hJ HRUN
      go_wp2_with fail
      go_roundw
      case rel=>exact ⟨k+1,a+L,by simp,by simp,hlt2,HNX.out,hw2.out.1,hw2.out.2⟩
      case measure=>simp [intOf];omega
    ·have hk2:k=m:=by have:=hJ.out.1;omega
     have HE:Hid (wr.heap[g]?=some (.cells (qM (xV q m)).toArray 5 (0,0))∧Below g w0 wr):=by
      have h1:=hJ.out.2.2.1
      rw [hk2,HN.out,Nat.sub_self,List.replicate_zero,List.append_nil] at h1
      exact ⟨h1,hJ.out.2.2.2⟩
     clear hJ
     go_wp2_with fail
     go_ret
     exact ⟨g,rfl,Nat.le_of_eq HGG.out,HE.out.1,by rw [HGG.out];exact HE.out.2⟩
end Go.Proofs.YtkpmalfigmimaaaGreatDoor
