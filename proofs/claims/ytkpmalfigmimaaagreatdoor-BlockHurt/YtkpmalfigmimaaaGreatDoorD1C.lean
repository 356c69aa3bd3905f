import Derived.Test.YtkpmalfigmimaaaGreatDoorZ0
import Derived.Test.YtkpmalfigmimaaaGreatDoorD2C
import Derived.Test.YtkpmalfigmimaaaGreatDoorC6D
import Derived.Test.YtkpmalfigmimaaaGreatDoorFF
import Derived.Test.YtkpmalfigmimaaaGreatDoorT1S
import Derived.Laws.CopyOwn
import Derived.Deep.CutBlock
import Derived.Deep.DeepCutAuto
import Derived.Deep.CutRange
set_option linter.unusedVariables false
set_option linter.unusedSimpArgs false
set_option maxRecDepth 100000
set_option maxHeartbeats 8000000
namespace Go.Proofs.YtkpmalfigmimaaaGreatDoor
open Go.RowKit
open M
def hdA (kind:Int) (n na:Nat) (fi la:Int) (le gr:Nat) (by_:Int) (co ti va:Nat):Array Value:=#[.int .i64 kind,.int .i64 (n:Int),.int .i64 (na:Int),.int .i64 fi,.int .i64 la,.int .u64 (le:Int),.int .u64 (gr:Int),.int .i64 by_,.int .i64 (co:Int),.int .i64 (ti:Int),.int .i64 (va:Int)]
def ptA (kind:Int) (n na:Nat) (fi la:Int) (le gr:Nat) (by_:Int) (co ti va:Nat) (a b:Value):Array Value:=#[.int .i64 kind,.int .i64 (n:Int),.int .i64 (na:Int),.int .i64 fi,.int .i64 la,.int .u64 (le:Int),.int .u64 (gr:Int),.int .i64 by_,.int .i64 (co:Int),.int .i64 (ti:Int),.int .i64 (va:Int),a,b]
theorem qD2 (kind n na fi la by_ co ti va:Int) (le gr:Int) (w:World) (h1:0≤ti) (h2:ti≤4294967296) (h3:0≤va) (h4:va≤4294967296):
  Calls Tryz.prog 42 #[.agg #[.int .i64 kind,.int .i64 n,.int .i64 na,.int .i64 fi,.int .i64 la,.int .u64 le,.int .u64 gr,.int .i64 by_,.int .i64 co,.int .i64 ti,.int .i64 va]] w fun e w'=>e= .returned (.int .i64 (ti+va+55))∧Below w.heap.size w w':=by
 have HB:Hid (Below w.heap.size w (w.alloc (.cells #[.int .i64 kind,.int .i64 n,.int .i64 na,.int .i64 fi,.int .i64 la,.int .u64 le,.int .u64 gr,.int .i64 by_,.int .i64 co,.int .i64 ti,.int .i64 va] 60))):=(Below.refl _ _).alloc (Nat.le_refl _) _
 have e1:wrap64 (51+ti)=51+ti:=by unfold wrap64;omega
 have e2:wrap64 (51+ti+va)=51+ti+va:=by unfold wrap64;omega
 have e3:wrap64 (51+ti+va+4)=ti+va+55:=by unfold wrap64;omega
 have f1:IntKind.i64.wrap (51+ti)=51+ti:=by rw [IntKind.wrap_i64];omega
 have f2:IntKind.i64.wrap (51+ti+va)=51+ti+va:=by rw [IntKind.wrap_i64];omega
 have f3:IntKind.i64.wrap (51+ti+va+4)=ti+va+55:=by rw [IntKind.wrap_i64];omega
 clear h1 h2 h3 h4
 go_enter Tryz.func42,Tryz.ntmps42
 go_wp2_with fail
 go_ret
 exact ⟨by simp [e1,e2,e3,f1,f2,f3],HB.out⟩
theorem yP (w:World) (g:Nat) (ty:TypeId) (z0 z1 z2 z3 z4 z5 z6 z7 z8 z9 z10 z11 z12 a0 a1 a2 a3 a4 a5 a6 a7 a8 a9 a10 a11 a12:Value) (h:w.heap[g]?=some (.cells #[z0,z1,z2,z3,z4,z5,z6,z7,z8,z9,z10,z11,z12] ty (0,0))):
  (((((((((((((w.setCell ⟨g,0,none⟩ a0).setCell ⟨g,1,none⟩ a1).setCell ⟨g,2,none⟩ a2).setCell ⟨g,3,none⟩ a3).setCell ⟨g,4,none⟩ a4).setCell ⟨g,5,none⟩ a5).setCell ⟨g,6,none⟩ a6).setCell ⟨g,7,none⟩ a7).setCell ⟨g,8,none⟩ a8).setCell ⟨g,9,none⟩ a9).setCell ⟨g,10,none⟩ a10).setCell ⟨g,11,none⟩ a11).setCell ⟨g,12,none⟩ a12).heap[g]?=some (.cells #[a0,a1,a2,a3,a4,a5,a6,a7,a8,a9,a10,a11,a12] ty (0,0)):=by
 rw [heap_setCell_same _ _ _ _ _ _ (heap_setCell_same _ _ _ _ _ _ (heap_setCell_same _ _ _ _ _ _ (heap_setCell_same _ _ _ _ _ _ (heap_setCell_same _ _ _ _ _ _ (heap_setCell_same _ _ _ _ _ _ (heap_setCell_same _ _ _ _ _ _ (heap_setCell_same _ _ _ _ _ _ (heap_setCell_same _ _ _ _ _ _ (heap_setCell_same _ _ _ _ _ _ (heap_setCell_same _ _ _ _ _ _ (heap_setCell_same _ _ _ _ _ _ (heap_setCell_same _ _ _ _ _ _ h))))))))))))];simp
theorem kM {B:Nat} {w0 w:World} (h:Below B w0 w) (g:Nat) (a0 a1 a2 a3 a4 a5 a6 a7 a8 a9 a10 a11 a12:Value) (hg:B≤g):Below B w0 (((((((((((((w.setCell ⟨g,0,none⟩ a0).setCell ⟨g,1,none⟩ a1).setCell ⟨g,2,none⟩ a2).setCell ⟨g,3,none⟩ a3).setCell ⟨g,4,none⟩ a4).setCell ⟨g,5,none⟩ a5).setCell ⟨g,6,none⟩ a6).setCell ⟨g,7,none⟩ a7).setCell ⟨g,8,none⟩ a8).setCell ⟨g,9,none⟩ a9).setCell ⟨g,10,none⟩ a10).setCell ⟨g,11,none⟩ a11).setCell ⟨g,12,none⟩ a12):=
 qH (qH (qH (qH (qH (qH (qH (qH (qH (qH (qH (qH (qH h _ _ _ hg) _ _ _ hg) _ _ _ hg) _ _ _ hg) _ _ _ hg) _ _ _ hg) _ _ _ hg) _ _ _ hg) _ _ _ hg) _ _ _ hg) _ _ _ hg) _ _ _ hg) _ _ _ hg
theorem uT (w:World) (g:Nat) (ty:TypeId) (z0 z1 z2 z3 z4 z5 z6 z7 z8 z9 z10 a0 a1 a2 a3 a4 a5 a6 a7 a8 a9 a10:Value) (h:w.heap[g]?=some (.cells #[z0,z1,z2,z3,z4,z5,z6,z7,z8,z9,z10] ty (0,0))):
  (((((((((((w.setCell ⟨g,0,none⟩ a0).setCell ⟨g,1,none⟩ a1).setCell ⟨g,2,none⟩ a2).setCell ⟨g,3,none⟩ a3).setCell ⟨g,4,none⟩ a4).setCell ⟨g,5,none⟩ a5).setCell ⟨g,6,none⟩ a6).setCell ⟨g,7,none⟩ a7).setCell ⟨g,8,none⟩ a8).setCell ⟨g,9,none⟩ a9).setCell ⟨g,10,none⟩ a10).heap[g]?=some (.cells #[a0,a1,a2,a3,a4,a5,a6,a7,a8,a9,a10] ty (0,0)):=by
 rw [heap_setCell_same _ _ _ _ _ _ (heap_setCell_same _ _ _ _ _ _ (heap_setCell_same _ _ _ _ _ _ (heap_setCell_same _ _ _ _ _ _ (heap_setCell_same _ _ _ _ _ _ (heap_setCell_same _ _ _ _ _ _ (heap_setCell_same _ _ _ _ _ _ (heap_setCell_same _ _ _ _ _ _ (heap_setCell_same _ _ _ _ _ _ (heap_setCell_same _ _ _ _ _ _ (heap_setCell_same _ _ _ _ _ _ h))))))))))];simp
theorem xK {B:Nat} {w0 w:World} (h:Below B w0 w) (g:Nat) (a0 a1 a2 a3 a4 a5 a6 a7 a8 a9 a10:Value) (hg:B≤g):Below B w0 (((((((((((w.setCell ⟨g,0,none⟩ a0).setCell ⟨g,1,none⟩ a1).setCell ⟨g,2,none⟩ a2).setCell ⟨g,3,none⟩ a3).setCell ⟨g,4,none⟩ a4).setCell ⟨g,5,none⟩ a5).setCell ⟨g,6,none⟩ a6).setCell ⟨g,7,none⟩ a7).setCell ⟨g,8,none⟩ a8).setCell ⟨g,9,none⟩ a9).setCell ⟨g,10,none⟩ a10):=
 qH (qH (qH (qH (qH (qH (qH (qH (qH (qH (qH h _ _ _ hg) _ _ _ hg) _ _ _ hg) _ _ _ hg) _ _ _ hg) _ _ _ hg) _ _ _ hg) _ _ _ hg) _ _ _ hg) _ _ _ hg) _ _ _ hg
theorem qE4 {w w':World} {v:Value} {bs:List Nat} {g:Nat} {cs:Array Value} {ty:TypeId} (h:jQ w v bs) (hg:w.heap[g]?=some (.cells cs ty (0,0))) (hn:∀u∈cs.toList,∀x,u≠ .int .u8 x) (hk:∀k,k≠g→w'.heap[k]?=w.heap[k]?):jQ w' v bs:=by
 rcases h with (⟨h1,h2⟩|⟨g1,o,cap,h1,h2⟩)|⟨ad,cap,h1,h2⟩
 ·exact .inl (.inl ⟨h1,h2⟩)
 ·refine .inl (.inr ⟨g1,o,cap,h1,fun i hi=>?_⟩)
  have hc:=h2 i hi
  have hne:g1≠g:=fun e=>by
   subst e
   rw [cell_of_row _ _ _ _ _ _ hg] at hc
   exact hn _ (by simpa using Array.mem_of_getElem? hc) _ rfl
  rw [World.cell?_of_block (w:=w) (hk g1 hne)];exact hc
 ·exact .inr ⟨ad,cap,h1,h2⟩
theorem xB (kind:Int) (n:Nat) (v:Nat→Nat) (k:Nat) (bs:List Nat) (hv:∀i,i<n→v i<18446744073709551616) (h:xU kind n v k bs):bs.length≤8*n∧1≤k∧k≤6:=by
 unfold xU at h
 split at h
 ·obtain ⟨b1,hb1⟩:=cN 1 n (fun i=>yH (v i)) (by omega) (by omega) (fun i hi=>wH _ (hv i hi)) (by omega)
  have:=h.least 1 b1 (by omega) (by omega) hb1
  rw [cL n _ b1 hb1] at this
  exact ⟨by omega,h.lo,h.hi⟩
 ·obtain ⟨b1,hb1⟩:=cO 1 n v (by omega) (by omega) hv (by omega)
  have:=h.least 1 b1 (by omega) (by omega) hb1
  rw [cM n _ b1 hb1] at this
  exact ⟨by omega,h.lo,h.hi⟩
theorem qH5 (kind:Int) (n:Nat) (v:Nat→Nat) (k k':Nat) (bs bs':List Nat) (h:xU kind n v k bs) (h':xU kind n v k' bs'):k=k'∧bs=bs':=by
 unfold xU at h h'
 split at h
 ·rename_i hk
  rw [if_pos hk] at h'
  have a:=h.least k' bs' h'.lo h'.hi h'.is
  have b:=h'.least k bs h.lo h.hi h.is
  obtain rfl:k=k':=by omega
  exact ⟨rfl,fT _ _ _ _ _ h.is h'.is⟩
 ·rename_i hk
  rw [if_neg hk] at h'
  have a:=h.least k' bs' h'.lo h'.hi h'.is
  have b:=h'.least k bs h.lo h.hi h.is
  obtain rfl:k=k':=by omega
  exact ⟨rfl,fV _ _ _ _ _ h.is h'.is⟩
theorem xA (t:Nat→Int) (n:Nat):(packed (tbn t n)).length≤9*n:=by
 have:=tbn_length' t n
 rw [packed_length];omega
def qHM (kind:Int) (n:Nat) (t:Nat→Int) (v:Nat→Nat) (w:World) (e:Ending) (w':World):Prop:=
 ∃(co T V gt cv:Nat) (pv:Option Addr) (vb:List Nat),e= .returned (.tuple #[.agg (ptA kind n (vW v n) (t 0) (t (n-1)) (leV v n) (grV v n) ((T:Int)+(V:Int)+55) co T V (.slice (some ⟨gt,0,none⟩) T T) (.slice pv V cv)),.int .i64 0])∧
  T=(packed (tbn t n)).length∧w'.heap[gt]?=some (.cells (qL (packed (tbn t n))).toArray 5 (0,0))∧V=vb.length∧jQ w' (.slice pv V cv) vb∧(∀n∈vb,n<256)∧xU kind n v co vb∧Below w.heap.size w w'
theorem mD (kind:Int) (p:Option Addr) (m cap:Nat) (t:Nat→Int) (v:Nat→Nat) (w:World) (h:uC w p (m+1) t v) (hG:qDF kind (m+1) t v) (ht:∀i,i<m+1→I64 (t i)) (hf:∀i,i<m+1→v i<18446744073709551616) (hT:qT w):
  Calls Tryz.prog 22 #[.int .i64 kind,.slice p (m+1) cap] w (qHM kind (m+1) t v w):=by
 have hn:m+1≤4096:=hG.hi
 obtain ⟨g,hg⟩:∃g,w.heap.size=g:=⟨_,rfl⟩
 obtain ⟨W1,hW1⟩:∃W1,w.alloc (.cells #[.int .i64 0,.int .i64 0,.int .i64 0,.int .i64 0,.int .i64 0,.int .u64 0,.int .u64 0,.int .i64 0,.int .i64 0,.int .i64 0,.int .i64 0,.slice none 0 0,.slice none 0 0] 62)=W1:=⟨_,rfl⟩
 have HR1:Hid (W1.heap[g]?=some (.cells #[.int .i64 0,.int .i64 0,.int .i64 0,.int .i64 0,.int .i64 0,.int .u64 0,.int .u64 0,.int .i64 0,.int .i64 0,.int .i64 0,.int .i64 0,.slice none 0 0,.slice none 0 0] 62 (0,0))∧Below g w W1∧g<W1.heap.size):=by rw [←hW1,←hg];exact ⟨heap_alloc_new _ _,(Below.refl _ _).alloc (Nat.le_refl _) _,by simp⟩
 have HRef:=qA (fun (w1:World) (hB:Below w.heap.size w w1)=>cA kind p (m+1) cap t v w1 (h.below hB) (by omega) hf)
 have HTim:=qA (fun (w1:World) (hB:Below w.heap.size w w1)=>sU p (m+1) cap t v w1 (h.below hB) hn ht hG.up)
 have HVal:=qA (fun (w1:World) (hB:Below w.heap.size w w1)=>cR kind p (m+1) cap t v w1 (h.below hB) hn hf (hT.below hB))
 have HSum:=qA (fun (w1:World) (hB:Below w.heap.size w w1)=>qC1 kind p m cap t v w1 (h.below hB) hn hf)
 have HF:=qA hf
 have HGd:=qA hG
 rw [hg] at HRef HTim HVal HSum
 clear h hG ht hf hT
 go_enter Tryz.func22,Tryz.ntmps22
 go_upto_region 1 with fail
 (try rw [hW1])
 have HG:=qA hg
 clear hW1 hg
 go_wp2_with fail
 refine (HRef.out W1 HR1.out.2.1).mono ?_
 rintro e w2 ⟨c,rfl,hc,B2⟩
 obtain rfl:=hc.good HGd.out
 have HB2:Hid (Below g w w2):=HR1.out.2.1.trans (B2.mono (Nat.le_of_lt HR1.out.2.2))
 have HR2:Hid (w2.heap[g]?=some (.cells #[.int .i64 0,.int .i64 0,.int .i64 0,.int .i64 0,.int .i64 0,.int .u64 0,.int .u64 0,.int .i64 0,.int .i64 0,.int .i64 0,.int .i64 0,.slice none 0 0,.slice none 0 0] 62 (0,0))∧g<w2.heap.size):=⟨by rw [B2.block g HR1.out.2.2];exact HR1.out.1,Nat.lt_of_lt_of_le HR1.out.2.2 B2.size⟩
 clear hc B2 HR1 HRef
 go_wp2_with fail
 refine (HTim.out w2 HB2.out).mono ?_
 rintro e w3 ⟨gt,T,hT,hgt,rfl,hTb,B3⟩
 have HB3:Hid (Below g w w3):=HB2.out.trans (B3.mono (Nat.le_of_lt HR2.out.2))
 have HR3:Hid (w3.heap[g]?=some (.cells #[.int .i64 0,.int .i64 0,.int .i64 0,.int .i64 0,.int .i64 0,.int .u64 0,.int .u64 0,.int .i64 0,.int .i64 0,.int .i64 0,.int .i64 0,.slice none 0 0,.slice none 0 0] 62 (0,0))∧g<w3.heap.size):=⟨by rw [B3.block g HR2.out.2];exact HR2.out.1,Nat.lt_of_lt_of_le HR2.out.2 B3.size⟩
 have HTB:=qA hTb
 have HTL:=qA hT
 have hTs:T≤40000:=by have:=xA t (m+1);rw [hT];omega
 have HGT:Hid (g<gt):=Nat.lt_of_lt_of_le HR2.out.2 hgt
 clear hgt hT hTb B3 HB2 HR2 HTim
 go_wp2_with fail
 refine (HVal.out w3 HB3.out).mono ?_
 rintro e w4 ⟨co,pv,cv,vb,rfl,hby,h256,hvi,B4⟩
 have hvl:=xB kind (m+1) v co vb HF.out hvi
 obtain ⟨V,hV⟩:∃V,vb.length=V:=⟨_,rfl⟩
 rw [hV] at hby hvl⊢
 have hVs:V≤40000:=by omega
 have hco:co≤6:=hvl.2.2
 have HB4:Hid (Below g w w4):=HB3.out.trans (B4.mono (Nat.le_of_lt HR3.out.2))
 have HR4:Hid (w4.heap[g]?=some (.cells #[.int .i64 0,.int .i64 0,.int .i64 0,.int .i64 0,.int .i64 0,.int .u64 0,.int .u64 0,.int .i64 0,.int .i64 0,.int .i64 0,.int .i64 0,.slice none 0 0,.slice none 0 0] 62 (0,0))∧g<w4.heap.size):=⟨by rw [B4.block g HR3.out.2];exact HR3.out.1,Nat.lt_of_lt_of_le HR3.out.2 B4.size⟩
 have HTB4:Hid (w4.heap[gt]?=some (.cells (qL (packed (tbn t (m+1)))).toArray 5 (0,0))):=by show _=_;rw [B4.block gt (qB HTB.out)];exact HTB.out
 have HVV:Hid ((∀n∈vb,n<256)∧xU kind (m+1) v co vb∧V=vb.length):=⟨h256,hvi,hV.symm⟩
 have HBY:=qA hby
 clear hby h256 hvi hvl hV B4 HB3 HR3 HTB HVal HF
 go_wp2_with fail
 refine (HSum.out w4 HB4.out).mono ?_
 rintro e w5 ⟨rfl,B5⟩
 have HB5:Hid (Below g w w5):=HB4.out.trans (B5.mono (Nat.le_of_lt HR4.out.2))
 have HR5:Hid (w5.heap[g]?=some (.cells #[.int .i64 0,.int .i64 0,.int .i64 0,.int .i64 0,.int .i64 0,.int .u64 0,.int .u64 0,.int .i64 0,.int .i64 0,.int .i64 0,.int .i64 0,.slice none 0 0,.slice none 0 0] 62 (0,0))∧g<w5.heap.size):=⟨by rw [B5.block g HR4.out.2];exact HR4.out.1,Nat.lt_of_lt_of_le HR4.out.2 B5.size⟩
 have HTB5:Hid (w5.heap[gt]?=some (.cells (qL (packed (tbn t (m+1)))).toArray 5 (0,0))):=by show _=_;rw [B5.block gt (qB HTB4.out)];exact HTB4.out
 have HBY5:=qA (qD HBY.out B5)
 clear B5 HB4 HR4 HTB4 HBY HSum
 obtain ⟨x0,hx0⟩:∃x,t 0=x:=⟨_,rfl⟩
 obtain ⟨xl,hxl⟩:∃x,t m=x:=⟨_,rfl⟩
 obtain ⟨na,hna⟩:∃x,vW v (m+1)=x:=⟨_,rfl⟩
 obtain ⟨lv,hlv⟩:∃x,leV v (m+1)=x:=⟨_,rfl⟩
 obtain ⟨gv,hgv⟩:∃x,grV v (m+1)=x:=⟨_,rfl⟩
 have HLE:=qA (And.intro hx0 (And.intro hxl (And.intro hna (And.intro hlv hgv))))
 rw [hx0,hxl,hna,hlv,hgv]
 clear hx0 hxl hna hlv hgv
 unfold bhA
 obtain ⟨h,hh⟩:∃h,w5.heap.size=h:=⟨_,rfl⟩
 obtain ⟨W6,hW6⟩:∃W6,w5.alloc (.cells #[.int .i64 kind,.int .i64 ((m:Int)+1),.int .i64 (na:Int),.int .i64 x0,.int .i64 xl,.int .u64 (lv:Int),.int .u64 (gv:Int),.int .i64 0,.int .i64 (co:Int),.int .i64 (T:Int),.int .i64 (V:Int)] 60)=W6:=⟨_,rfl⟩
 have HW6:Hid (W6.heap[h]?=some (.cells #[.int .i64 kind,.int .i64 ((m:Int)+1),.int .i64 (na:Int),.int .i64 x0,.int .i64 xl,.int .u64 (lv:Int),.int .u64 (gv:Int),.int .i64 0,.int .i64 (co:Int),.int .i64 (T:Int),.int .i64 (V:Int)] 60 (0,0))∧Below w5.heap.size w5 W6∧h<W6.heap.size):=by rw [←hW6,←hh];exact ⟨heap_alloc_new _ _,(Below.refl _ _).alloc (Nat.le_refl _) _,by simp⟩
 go_upto_region 7 with fail
 (try rw [hW6])
 have HH:=qA hh
 clear hW6 hh
 obtain ⟨o0,o1,o2,o3,o4,o5,o6,o7,o8,o9,o10⟩:=rowcells11 HW6.out.1
 go_wp2_with fail
 refine (qD2 kind ((m:Int)+1) (na:Int) x0 xl 0 (co:Int) (T:Int) (V:Int) (lv:Int) (gv:Int) W6 (by omega) (by omega) (by omega) (by omega)).mono ?_
 rintro e w7 ⟨rfl,B7⟩
 have HW7:Hid (w7.heap[h]?=some (.cells #[.int .i64 kind,.int .i64 ((m:Int)+1),.int .i64 (na:Int),.int .i64 x0,.int .i64 xl,.int .u64 (lv:Int),.int .u64 (gv:Int),.int .i64 0,.int .i64 (co:Int),.int .i64 (T:Int),.int .i64 (V:Int)] 60 (0,0))∧Below w5.heap.size w5 w7):=⟨by rw [B7.block h HW6.out.2.2];exact HW6.out.1,HW6.out.2.1.trans (B7.mono HW6.out.2.1.size)⟩
 clear B7 HW6 o0 o1 o2 o3 o4 o5 o6 o7 o8 o9 o10
 have c7:w7.cell? ⟨h,7,none⟩=some (.int .i64 0):=by rw [cell_of_row _ _ _ _ _ _ HW7.out.1];rfl
 have f7:=froz HW7.out.1 7
 obtain ⟨W8,hW8⟩:∃W8,w7.setCell ⟨h,7,none⟩ (.int .i64 ((T:Int)+(V:Int)+55))=W8:=⟨_,rfl⟩
 have HW8:Hid (W8.heap[h]?=some (.cells #[.int .i64 kind,.int .i64 ((m:Int)+1),.int .i64 (na:Int),.int .i64 x0,.int .i64 xl,.int .u64 (lv:Int),.int .u64 (gv:Int),.int .i64 ((T:Int)+(V:Int)+55),.int .i64 (co:Int),.int .i64 (T:Int),.int .i64 (V:Int)] 60 (0,0))∧Below w5.heap.size w5 W8):=by
  rw [←hW8]
  refine ⟨?_,qH HW7.out.2 _ _ _ (Nat.le_of_eq HH.out)⟩
  rw [heap_setCell_same _ _ _ _ _ _ HW7.out.1];simp
 go_upto_region 8 with fail
 (try rw [hW8])
 clear hW8 c7 f7 HW7
 have HRG:Hid (W8.heap[g]?=some (.cells #[.int .i64 0,.int .i64 0,.int .i64 0,.int .i64 0,.int .i64 0,.int .u64 0,.int .u64 0,.int .i64 0,.int .i64 0,.int .i64 0,.int .i64 0,.slice none 0 0,.slice none 0 0] 62 (0,0))∧Below g w W8):=⟨by rw [HW8.out.2.block g HR5.out.2];exact HR5.out.1,HB5.out.trans (HW8.out.2.mono (Nat.le_of_lt HR5.out.2))⟩
 have HTB8:Hid (W8.heap[gt]?=some (.cells (qL (packed (tbn t (m+1)))).toArray 5 (0,0))):=by show _=_;rw [HW8.out.2.block gt (qB HTB5.out)];exact HTB5.out
 have HBY8:=qA (qD HBY5.out HW8.out.2)
 obtain ⟨o0,o1,o2,o3,o4,o5,o6,o7,o8,o9,o10⟩:=rowcells11 HW8.out.1
 obtain ⟨z0,z1,z2,z3,z4,z5,z6,z7,z8,z9,z10,z11,z12⟩:=rowcells13 HRG.out.1
 have y0:=froz HRG.out.1 0
 have y1:=froz HRG.out.1 1
 have y2:=froz HRG.out.1 2
 have y3:=froz HRG.out.1 3
 have y4:=froz HRG.out.1 4
 have y5:=froz HRG.out.1 5
 have y6:=froz HRG.out.1 6
 have y7:=froz HRG.out.1 7
 have y8:=froz HRG.out.1 8
 have y9:=froz HRG.out.1 9
 have y10:=froz HRG.out.1 10
 have y11:=froz HRG.out.1 11
 have y12:=froz HRG.out.1 12
 have HFR:Hid ((((((((((((((W8.setCell ⟨g,0,none⟩ (.int .i64 kind)).setCell ⟨g,1,none⟩ (.int .i64 ((m:Int)+1))).setCell ⟨g,2,none⟩ (.int .i64 (na:Int))).setCell ⟨g,3,none⟩ (.int .i64 x0)).setCell ⟨g,4,none⟩ (.int .i64 xl)).setCell ⟨g,5,none⟩ (.int .u64 (lv:Int))).setCell ⟨g,6,none⟩ (.int .u64 (gv:Int))).setCell ⟨g,7,none⟩ (.int .i64 ((T:Int)+(V:Int)+55))).setCell ⟨g,8,none⟩ (.int .i64 (co:Int))).setCell ⟨g,9,none⟩ (.int .i64 (T:Int))).setCell ⟨g,10,none⟩ (.int .i64 (V:Int))).setCell ⟨g,11,none⟩ (.slice (some ⟨gt,0,none⟩) T T)).setCell ⟨g,12,none⟩ (.slice pv V cv)).heap[g]?=some (.cells #[.int .i64 kind,.int .i64 ((m:Int)+1),.int .i64 (na:Int),.int .i64 x0,.int .i64 xl,.int .u64 (lv:Int),.int .u64 (gv:Int),.int .i64 ((T:Int)+(V:Int)+55),.int .i64 (co:Int),.int .i64 (T:Int),.int .i64 (V:Int),.slice (some ⟨gt,0,none⟩) T T,.slice pv V cv] 62 (0,0))∧Below g w (((((((((((((W8.setCell ⟨g,0,none⟩ (.int .i64 kind)).setCell ⟨g,1,none⟩ (.int .i64 ((m:Int)+1))).setCell ⟨g,2,none⟩ (.int .i64 (na:Int))).setCell ⟨g,3,none⟩ (.int .i64 x0)).setCell ⟨g,4,none⟩ (.int .i64 xl)).setCell ⟨g,5,none⟩ (.int .u64 (lv:Int))).setCell ⟨g,6,none⟩ (.int .u64 (gv:Int))).setCell ⟨g,7,none⟩ (.int .i64 ((T:Int)+(V:Int)+55))).setCell ⟨g,8,none⟩ (.int .i64 (co:Int))).setCell ⟨g,9,none⟩ (.int .i64 (T:Int))).setCell ⟨g,10,none⟩ (.int .i64 (V:Int))).setCell ⟨g,11,none⟩ (.slice (some ⟨gt,0,none⟩) T T)).setCell ⟨g,12,none⟩ (.slice pv V cv))):=⟨yP _ _ _ _ _ _ _ _ _ _ _ _ _ _ _ _ _ _ _ _ _ _ _ _ _ _ _ _ _ HRG.out.1,kM HRG.out.2 _ _ _ _ _ _ _ _ _ _ _ _ _ _ (Nat.le_refl _)⟩
 have HFB:Hid (∀k,k≠g→(((((((((((((W8.setCell ⟨g,0,none⟩ (.int .i64 kind)).setCell ⟨g,1,none⟩ (.int .i64 ((m:Int)+1))).setCell ⟨g,2,none⟩ (.int .i64 (na:Int))).setCell ⟨g,3,none⟩ (.int .i64 x0)).setCell ⟨g,4,none⟩ (.int .i64 xl)).setCell ⟨g,5,none⟩ (.int .u64 (lv:Int))).setCell ⟨g,6,none⟩ (.int .u64 (gv:Int))).setCell ⟨g,7,none⟩ (.int .i64 ((T:Int)+(V:Int)+55))).setCell ⟨g,8,none⟩ (.int .i64 (co:Int))).setCell ⟨g,9,none⟩ (.int .i64 (T:Int))).setCell ⟨g,10,none⟩ (.int .i64 (V:Int))).setCell ⟨g,11,none⟩ (.slice (some ⟨gt,0,none⟩) T T)).setCell ⟨g,12,none⟩ (.slice pv V cv)).heap[k]?=W8.heap[k]?):=fun k hk=>by
  rw [Below.heap_setCell _ _ _ _ hk,Below.heap_setCell _ _ _ _ hk,Below.heap_setCell _ _ _ _ hk,Below.heap_setCell _ _ _ _ hk,Below.heap_setCell _ _ _ _ hk,Below.heap_setCell _ _ _ _ hk,Below.heap_setCell _ _ _ _ hk,Below.heap_setCell _ _ _ _ hk,Below.heap_setCell _ _ _ _ hk,Below.heap_setCell _ _ _ _ hk,Below.heap_setCell _ _ _ _ hk,Below.heap_setCell _ _ _ _ hk,Below.heap_setCell _ _ _ _ hk]
 clear HW8 HR5 HB5 HTB5 HBY5
 go_wp2_with fail
 generalize (((((((((((((W8.setCell ⟨g,0,none⟩ (.int .i64 kind)).setCell ⟨g,1,none⟩ (.int .i64 ((m:Int)+1))).setCell ⟨g,2,none⟩ (.int .i64 (na:Int))).setCell ⟨g,3,none⟩ (.int .i64 x0)).setCell ⟨g,4,none⟩ (.int .i64 xl)).setCell ⟨g,5,none⟩ (.int .u64 (lv:Int))).setCell ⟨g,6,none⟩ (.int .u64 (gv:Int))).setCell ⟨g,7,none⟩ (.int .i64 ((T:Int)+(V:Int)+55))).setCell ⟨g,8,none⟩ (.int .i64 (co:Int))).setCell ⟨g,9,none⟩ (.int .i64 (T:Int))).setCell ⟨g,10,none⟩ (.int .i64 (V:Int))).setCell ⟨g,11,none⟩ (.slice (some ⟨gt,0,none⟩) T T)).setCell ⟨g,12,none⟩ (.slice pv V cv))=WF at*
 obtain ⟨u0,u1,u2,u3,u4,u5,u6,u7,u8,u9,u10,u11,u12⟩:=rowcells13 HFR.out.1
 exact bodyPost_ret (v:= .tuple #[.agg (ptA kind (m+1) na x0 xl lv gv ((T:Int)+(V:Int)+55) co T V (.slice (some ⟨gt,0,none⟩) T T) (.slice pv V cv)),.int .i64 0]) (by simp [results,Tryz.results22,go_sem,ptA,u0,u1,u2,u3,u4,u5,u6,u7,u8,u9,u10,u11,u12]) rfl
  ⟨co,T,V,gt,cv,pv,vb,by rw [Nat.add_sub_cancel,HLE.out.1,HLE.out.2.1,HLE.out.2.2.1,HLE.out.2.2.2.1,HLE.out.2.2.2.2],HTL.out,by rw [HFB.out gt (by have:=HGT.out;omega)];exact HTB8.out,HVV.out.2.2,qE4 HBY8.out HRG.out.1 (by simp) HFB.out,HVV.out.1,HVV.out.2.1,by rw [HG.out];exact HFR.out.2⟩
end Go.Proofs.YtkpmalfigmimaaaGreatDoor
namespace Go.Proofs.YtkpmalfigmimaaaGreatDoor
open Go.RowKit
def xT (q:Nat→List Nat):Nat→List Nat
 |0=>[]
 |k+1=>xT q k++q k
theorem qFO (q:Nat→List Nat) (k m:Nat) (h:k≤m):(xT q k).length≤(xT q m).length:=by
 induction m with
 |zero=>rw [show k=0 from by omega];exact Nat.le_refl _
 |succ m ih=>
  by_cases e:k=m+1
  ·rw [e];exact Nat.le_refl _
  ·have:=ih (by omega);rw [xT,List.length_append];omega
theorem qDU (a b:List Nat) (N:Nat) (h:a.length+b.length≤N):splice (qL a++List.replicate (N-a.length) (Value.int .u8 0)) a.length (qL b)=qL (a++b)++List.replicate (N-(a++b).length) (Value.int .u8 0):=by
 unfold splice
 rw [List.take_left' (by simp),zQ,List.drop_append,List.drop_eq_nil_of_le (by simp),List.nil_append,zQ,List.drop_replicate]
 unfold qL
 rw [List.map_append,List.append_assoc,List.length_append]
 congr 3
 omega
theorem cI (bs:List Nat):∀u∈qL bs,u.oneCell'=true:=by
 intro u hu
 simp only [qL,List.mem_map] at hu
 obtain ⟨n,_,rfl⟩:=hu
 rfl
def qN (w:World) (p:Option Addr) (m:Nat) (q:Nat→List Nat):Prop:=∀i,i<m→∃b o v,p=some ⟨b,o,none⟩∧w.cell? ⟨b,o+i,none⟩=some v∧jQ w v (q i)
theorem pK (p:Option Addr) (m cap:Nat) (q:Nat→List Nat) (w:World) (h:qN w p m q) (hm:m≤100) (hl:(xT q m).length≤1000000000):
  Calls Tryz.prog 23 #[.slice p m cap] w fun e w'=>∃g,e= .returned (.slice (some ⟨g,0,none⟩) (xT q m).length (xT q m).length)∧w.heap.size≤g∧w'.heap[g]?=some (.cells (qL (xT q m)).toArray 5 (0,0))∧Below w.heap.size w w':=by
 have H:=qA h
 obtain ⟨N,hN⟩:∃N,(xT q m).length=N:=⟨_,rfl⟩
 have HN:=qA hN
 rw [hN] at hl⊢
 have hsz:(Tryz.prog.info? 5).map (·.size)=some 1:=by kernel_rfl
 have HSZ:=qA hsz
 clear h hN hsz
 go_enter Tryz.func23,Tryz.ntmps23
 go_wp2_with fail
 go_loopw [3,12] (fun t3 t12 wr=>∃k s:Nat,t12= .int .i64 (k:Int)∧t3= .int .i64 (s:Int)∧wr=w∧Hid (k≤m∧s=(xT q k).length)) (fun _ t12 _=>m-(intOf t12).toNat)
 case atStart=>exact ⟨0,0,rfl,rfl,rfl,Nat.zero_le _,rfl⟩
 case round=>
  obtain ⟨k,s,rfl,rfl,rfl,hI⟩:=hrel
  by_cases hlt:k<m
  ·obtain ⟨b,o,v,rfl,c1,hv⟩:=H.out k hlt
   obtain ⟨pv,cv,rfl,_⟩:=wQ hv
   have hs1:s+(q k).length≤N:=by
    have:=qFO q (k+1) m (by omega)
    rw [xT,List.length_append,HN.out,←hI.out.2] at this;exact this
   have HNX:Hid (s+(q k).length=(xT q (k+1)).length):=by rw [xT,List.length_append,hI.out.2];rfl
   obtain ⟨L,hL⟩:∃L,(q k).length=L:=⟨_,rfl⟩
   rw [hL] at c1 hs1 HNX
   clear hL hv hI
   go_wp2_with fail
   go_roundw
   case rel=>exact ⟨k+1,s+L,by simp,by simp,by trivial,hlt,HNX.out⟩
   case measure=>simp [intOf];omega
  ·have hk:k=m:=by have:=hI.out.1;omega
   have hs:s=N:=by rw [hI.out.2,hk,HN.out]
   subst hs
   obtain ⟨w0,hw0⟩:∃w0,w0=wr:=⟨_,rfl⟩
   subst hw0
   have hmk:=dW s (by omega)
   obtain ⟨g,hg⟩:∃g,w0.heap.size=g:=⟨_,rfl⟩
   obtain ⟨W1,hW1⟩:∃W1,W1=w0.alloc (.cells (Array.replicate s (Value.int .u8 0)) 5):=⟨_,rfl⟩
   have HW:Hid (W1.heap[g]?=some (.cells (List.replicate s (Value.int .u8 0)).toArray 5 (0,0))∧Below g w0 W1):=by
    rw [hW1,←hg];exact ⟨(heap_alloc_new w0 _).trans (by simp),(Below.refl _ w0).alloc (Nat.le_refl _) _⟩
   have HGG:=qA hg
   clear hI
   go_upto_region 8 with fail
   (try rw [hg])
   (try rw [←hW1])
   clear hW1 hmk hg
   go_wp2_with fail
   go_loopw [7,25] (fun t7 t25 wq=>∃k a:Nat,t25= .int .i64 (k:Int)∧t7= .int .i64 (a:Int)∧Hid (k≤m∧a=(xT q k).length∧wq.heap[g]?=some (.cells (qL (xT q k)++List.replicate (s-(xT q k).length) (Value.int .u8 0)).toArray 5 (0,0))∧Below g w0 wq)) (fun _ t25 _=>m-(intOf t25).toNat)
   case atStart=>exact ⟨0,0,rfl,rfl,Nat.zero_le _,rfl,by simpa [xT,qL] using HW.out.1,HW.out.2⟩
   case round=>
    obtain ⟨k,a,rfl,rfl,hJ⟩:=hrel
    by_cases hlt2:k<m
    ·obtain ⟨b,o,v,rfl,c1,hv⟩:=H.out k hlt2
     have hbg:b<g:=by rw [←HGG.out];exact block_lt_of_cell c1
     have c2:wr.cell? ⟨b,o+k,none⟩=some v:=by rw [hJ.out.2.2.2.cell (p:=⟨b,o+k,none⟩) hbg];exact c1
     obtain ⟨pv,cv,rfl,hcell⟩:=wQ hv
     have hs1:a+(q k).length≤s:=by
      have:=qFO q (k+1) m (by omega)
      rw [xT,List.length_append,HN.out,←hJ.out.2.1] at this;exact this
     have hrun:∀dp:Option Addr,(0<(q k).length→dp=some ⟨g,a,none⟩)→∃w2,(Builtin.copy_ #[28,28] 3 #[.slice dp (s-a) (s-a),.slice pv (q k).length cv]).run Tryz.prog wr= .ok (.int .i64 ((q k).length:Int)) w2∧Hid (w2.heap[g]?=some (.cells (qL (xT q (k+1))++List.replicate (s-(xT q (k+1)).length) (Value.int .u8 0)).toArray 5 (0,0))∧Below g w0 w2):=fun dp hdp=>by
      by_cases h0:(q k).length=0
      ·have hq0:q k=[]:=List.eq_nil_of_length_eq_zero h0
       have h1:=run_copy_none (P:=Tryz.prog) wr 28 28 3 5 dp pv (s-a) (s-a) (q k).length cv Tryz.underlying28 HSZ.out (by rw [h0];simp)
       refine ⟨wr,by rw [h1,h0];rfl,?_,hJ.out.2.2.2⟩
       rw [xT,hq0,List.append_nil];exact hJ.out.2.2.1
      ·rw [hdp (by omega)]
       obtain ⟨b2,o2,hp2,_⟩:=hcell 0 (by omega)
       subst hp2
       have h1:=run_copy_row (P:=Tryz.prog) wr 28 28 3 5 g a (s-a) (s-a) ⟨b2,o2,none⟩ (q k).length cv (qL (xT q k)++List.replicate (s-(xT q k).length) (Value.int .u8 0)).toArray 5 (qL (q k)) Tryz.underlying28 HSZ.out hJ.out.2.2.1 (show (qL (q k)).length=min (q k).length (s-a) by rw [zQ];omega) (fun j u hu=>?_) (by simp;rw [←hJ.out.2.1];omega) (cI _)
       ·refine ⟨_,by rw [h1,zQ];rfl,?_,below_setRow hJ.out.2.2.2 (Nat.le_refl _) _⟩
        have h2:=setRow_heap wr g _ ((qL (xT q k)++List.replicate (s-(xT q k).length) (Value.int .u8 0)).toArray.toList.take a++qL (q k)++(qL (xT q k)++List.replicate (s-(xT q k).length) (Value.int .u8 0)).toArray.toList.drop (a+(qL (q k)).length)).toArray _ _ hJ.out.2.2.1
        rw [zQ] at h2
        rw [h2]
        have h3:=qDU (xT q k) (q k) s (by rw [←hJ.out.2.1];exact hs1)
        rw [xT,←h3]
        unfold splice
        rw [←hJ.out.2.1]
        simp
       ·have hj:j<(q k).length:=by
         rcases Nat.lt_or_ge j (q k).length with h|h
         ·exact h
         ·rw [List.getElem?_eq_none (by simpa [qL] using h)] at hu;cases hu
        obtain ⟨b3,o3,hp3,hc3⟩:=hcell j hj
        simp only [Option.some.injEq,Addr.mk.injEq] at hp3
        obtain ⟨rfl,rfl,_⟩:=hp3
        have hb2:b2<g:=by rw [←HGG.out];exact block_lt_of_cell hc3
        rw [Addr.add_mid,hJ.out.2.2.2.cell (p:=⟨b2,o2+j,none⟩) hb2,hc3,←hu]
        simp [qL,hj]
     have HRUN:=qA hrun
     clear hrun
     have HNX:Hid (a+(q k).length=(xT q (k+1)).length):=by rw [xT,List.length_append,hJ.out.2.1];rfl
     obtain ⟨L,hL⟩:∃L,(q k).length=L:=⟨_,rfl⟩
     rw [hL] at c2 hs1 HNX HRUN
     clear hL hcell hv c1
     obtain ⟨dp,hdp⟩:∃dp:Option Addr,(if s=a then some ⟨g,0,none⟩ else some ⟨g,a,none⟩)=dp:=⟨_,rfl⟩
     obtain ⟨w2,hr2,hw2⟩:=HRUN.out dp (fun h0=>by rw [←hdp,if_neg (by omega)])
     have hle:a≤s:=by omega
     by_cases hsa:s=a
     ·rw [if_pos hsa] at hdp
      subst hdp
      subst hsa
      rw [Nat.sub_self] at hr2
      clear hJ HRUN
      go_wp2_with fail
      go_roundw
      case rel=>exact ⟨k+1,s+L,by simp,by simp,hlt2,HNX.out,hw2.out.1,hw2.out.2⟩
      case measure=>simp [intOf];omega
     ·rw [if_neg hsa] at hdp
      subst hdp
      clear hJ HRUN
      go_wp2_with fail
      go_roundw
      case rel=>exact ⟨k+1,a+L,by simp,by simp,hlt2,HNX.out,hw2.out.1,hw2.out.2⟩
      case measure=>simp [intOf];omega
    ·have hk2:k=m:=by have:=hJ.out.1;omega
     have HE:Hid (wr.heap[g]?=some (.cells (qL (xT q m)).toArray 5 (0,0))∧Below g w0 wr):=by
      have h1:=hJ.out.2.2.1
      rw [hk2,HN.out,Nat.sub_self,List.replicate_zero,List.append_nil] at h1
      exact ⟨h1,hJ.out.2.2.2⟩
     clear hJ
     go_wp2_with fail
     go_ret
     exact ⟨g,rfl,Nat.le_of_eq HGG.out,HE.out.1,by rw [HGG.out];exact HE.out.2⟩
end Go.Proofs.YtkpmalfigmimaaaGreatDoor
namespace Go.Proofs.YtkpmalfigmimaaaGreatDoor
open Go.RowKit
def qAM (x:Nat):List Nat:=[x/16777216%256,x/65536%256,x/256%256,x%256]
theorem qFS (x:Nat):∀n∈qAM x,n<256:=by
 intro n hn
 simp only [qAM,List.mem_cons,List.not_mem_nil,or_false] at hn
 rcases hn with rfl|rfl|rfl|rfl<;>omega
def qO (bs:List Nat):List Nat:=bs++qAM (dN bs)
theorem wR (a b:List Nat):xT (fun i=>if i=0 then a else b) 2=a++b:=by simp [xT]
theorem qBB (bs:List Nat) (hb:∀n∈bs,n<256):dN bs<4294967296:=by unfold dN;omega
theorem qJT (q:Nat→List Nat) (m:Nat) (h:∀i,i<m→∀n∈q i,n<256):∀n∈xT q m,n<256:=by
 induction m with
 |zero=>intro n hn;simp [xT] at hn
 |succ m ih=>
  intro n hn
  rw [xT,List.mem_append] at hn
  rcases hn with hn|hn
  ·exact ih (fun i hi=>h i (by omega)) n hn
  ·exact h m (by omega) n hn
theorem rE (p:Option Addr) (m cap:Nat) (q:Nat→List Nat) (w:World) (h:qN w p m q) (hq:∀i,i<m→∀n∈q i,n<256) (hm:m≤100) (hl:(xT q m).length≤100000000) (hT:pB w):
  Calls Tryz.prog 24 #[.slice p m cap] w fun e w'=>∃g,e= .returned (.slice (some ⟨g,0,none⟩) (qO (xT q m)).length (qO (xT q m)).length)∧w.heap.size≤g∧w'.heap[g]?=some (.cells (qL (qO (xT q m))).toArray 5 (0,0))∧Below w.heap.size w w':=by
 have HJ:=qA (pK p m cap q w h hm (by omega))
 have HBB:Hid (∀n∈xT q m,n<256):=qJT q m hq
 have HT:=qA hT
 obtain ⟨A,hA⟩:∃A,xT q m=A:=⟨_,rfl⟩
 rw [hA] at HJ HBB hl⊢
 clear h hq hT hA
 go_enter Tryz.func24,Tryz.ntmps24
 go_wp2_with fail
 refine HJ.out.mono ?_
 rintro e w1 ⟨g1,rfl,hg1,hr1,B1⟩
 have HI1:Hid (jQ w1 (.slice (some ⟨g1,0,none⟩) A.length A.length) A):= .inl (jC hr1)
 have HB1:Hid (Below w.heap.size w w1):=B1
 have HR1:=qA hr1
 clear hr1 B1 hg1
 go_wp2_with fail
 refine (qCK _ A w1 HI1.out HBB.out (by omega) (HT.out.below HB1.out)).mono ?_
 rintro e w2 ⟨rfl,hw2⟩
 have hw2:=hw2.symm
 subst hw2
 have hx:=qBB A HBB.out
 have HF:Hid (qO A=A++qAM (dN A)):=rfl
 obtain ⟨x,hxx⟩:∃x,dN A=x:=⟨_,rfl⟩
 rw [hxx] at hx HF⊢
 obtain ⟨N,hN⟩:∃N,A.length=N:=⟨_,rfl⟩
 obtain ⟨x3,hx3⟩:∃y,x/16777216%256=y:=⟨_,rfl⟩
 obtain ⟨x2,hx2⟩:∃y,x/65536%256=y:=⟨_,rfl⟩
 obtain ⟨x1,hx1⟩:∃y,x/256%256=y:=⟨_,rfl⟩
 obtain ⟨x0,hx0⟩:∃y,x%256=y:=⟨_,rfl⟩
 have c3:IntKind.u8.wrap ((x:Int)/16777216)=(x3:Int):=by rw [IntKind.wrap_u8];omega
 have c2:IntKind.u8.wrap ((x:Int)/65536)=(x2:Int):=by rw [IntKind.wrap_u8];omega
 have c1:IntKind.u8.wrap ((x:Int)/256)=(x1:Int):=by rw [IntKind.wrap_u8];omega
 have c0:IntKind.u8.wrap (x:Int)=(x0:Int):=by rw [IntKind.wrap_u8];omega
 have h4:qAM x=[x3,x2,x1,x0]:=by unfold qAM;rw [hx3,hx2,hx1,hx0]
 have HL4:=qA (qFS x)
 rw [h4] at HF HL4
 obtain ⟨g2,hg2⟩:∃g2,w1.heap.size=g2:=⟨_,rfl⟩
 have HG2:=qA hg2
 rw [hN]
 have HNN:=qA hN
 clear HJ hxx hx3 hx2 hx1 hx0 h4
 obtain ⟨W4,hW4⟩:∃W4,W4=(w1.alloc (.cells #[.int .u8 (x3:Int),.int .u8 (x2:Int),.int .u8 (x1:Int),.int .u8 (x0:Int)] 5)).alloc (.cells #[.slice (some ⟨g1,0,none⟩) N N,.slice (some ⟨g2,0,none⟩) 4 4] 28):=⟨_,rfl⟩
 have HW4:Hid (Below w1.heap.size w1 W4∧W4.heap[g2]?=some (.cells (qL [x3,x2,x1,x0]).toArray 5 (0,0))∧W4.heap[g2+1]?=some (.cells #[.slice (some ⟨g1,0,none⟩) N N,.slice (some ⟨g2,0,none⟩) 4 4] 28 (0,0))):=by
  have e1:=heap_alloc_new w1 (.cells #[.int .u8 (x3:Int),.int .u8 (x2:Int),.int .u8 (x1:Int),.int .u8 (x0:Int)] 5)
  have e2:=heap_alloc_new (w1.alloc (.cells #[.int .u8 (x3:Int),.int .u8 (x2:Int),.int .u8 (x1:Int),.int .u8 (x0:Int)] 5)) (.cells #[.slice (some ⟨g1,0,none⟩) N N,.slice (some ⟨g2,0,none⟩) 4 4] 28)
  have e3:=xE e1 (.cells #[.slice (some ⟨g1,0,none⟩) N N,.slice (some ⟨g2,0,none⟩) 4 4] 28)
  rw [show (w1.alloc (.cells #[.int .u8 (x3:Int),.int .u8 (x2:Int),.int .u8 (x1:Int),.int .u8 (x0:Int)] 5)).heap.size=w1.heap.size+1 from by simp] at e2
  rw [hg2] at e2 e3
  rw [hW4]
  exact ⟨((Below.refl _ w1).alloc (Nat.le_refl _) _).alloc (by simp) _,e3,e2⟩
 have HP2:Hid (qN W4 (some ⟨g2+1,0,none⟩) 2 (fun i=>if i=0 then A else [x3,x2,x1,x0])):=fun i hi=>by
  have hrow:=HW4.out.2.2
  rcases (show i=0∨i=1 by omega) with rfl|rfl
  ·refine ⟨g2+1,0,_,rfl,cell_of_row _ _ 0 _ _ _ hrow,?_⟩
   have:=qD HI1.out HW4.out.1
   rw [HNN.out] at this
   simpa using this
  ·refine ⟨g2+1,0,_,rfl,cell_of_row _ _ 1 _ _ _ hrow,?_⟩
   have:=jC (cap:=4) HW4.out.2.1
   exact .inl (by simpa using this)
 have HJ2:=qA (pK (some ⟨g2+1,0,none⟩) 2 2 (fun i=>if i=0 then A else [x3,x2,x1,x0]) W4 HP2.out (by omega) (by rw [wR];simp;omega))
 rw [wR,←HF.out] at HJ2
 obtain ⟨SB,hSB⟩:∃SB,qO A=SB:=⟨_,rfl⟩
 rw [hSB] at HJ2
 have HSB:=qA hSB
 obtain ⟨SL,hSL⟩:∃SL,SB.length=SL:=⟨_,rfl⟩
 rw [hSL] at HJ2
 have HSL:=qA hSL
 clear hSB hSL
 go_wp2_with fail
 (try rw [hg2])
 (try rw [←hW4])
 clear hW4 hg2
 refine HJ2.out.mono ?_
 rintro e w5 ⟨g5,rfl,hg5,hr5,B5⟩
 have HFIN:Hid (w.heap.size≤g5∧w5.heap[g5]?=some (.cells (qL SB).toArray 5 (0,0))∧Below w.heap.size w w5):=by
  have b4:=HB1.out.trans (HW4.out.1.mono HB1.out.size)
  exact ⟨Nat.le_trans b4.size hg5,hr5,b4.trans (B5.mono b4.size)⟩
 clear hg5 hr5 B5
 go_wp2_with fail
 go_ret
 rw [HSB.out,HSL.out]
 exact ⟨g5,rfl,HFIN.out.1,HFIN.out.2.1,HFIN.out.2.2⟩
end Go.Proofs.YtkpmalfigmimaaaGreatDoor
