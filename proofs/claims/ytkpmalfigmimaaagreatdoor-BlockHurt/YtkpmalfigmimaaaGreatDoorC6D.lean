import Derived.Test.YtkpmalfigmimaaaGreatDoorZ0
import Derived.Test.YtkpmalfigmimaaaGreatDoorC1A64
import Derived.Test.YtkpmalfigmimaaaGreatDoorFF
import Derived.Test.YtkpmalfigmimaaaGreatDoorPB
import Derived.Test.YtkpmalfigmimaaaGreatDoorD2C
set_option linter.unusedVariables false
set_option linter.unusedSimpArgs false
set_option maxRecDepth 100000
set_option maxHeartbeats 8000000
namespace Go.Proofs.YtkpmalfigmimaaaGreatDoor
open Go.RowKit
open M
def vW (v:Nat→Nat):Nat→Nat
 |0=>0
 |k+1=>if qK7 (v k) then vW v k+1 else vW v k
def leK (v:Nat→Nat):Nat→Nat
 |0=>18446744073709551615
 |k+1=>if qK7 (v k) then leK v k else min (leK v k) (sM (v k))
def grK (v:Nat→Nat):Nat→Nat
 |0=>0
 |k+1=>if qK7 (v k) then grK v k else max (grK v k) (sM (v k))
theorem bO (v:Nat→Nat) (k:Nat):vW v k≤k:=by
 induction k with
 |zero=>exact Nat.le_refl _
 |succ k ih=>rw [vW];split<;>omega
theorem qJ0 (v:Nat→Nat) (k:Nat):leK v k<18446744073709551616:=by
 induction k with
 |zero=>show 18446744073709551615<_;omega
 |succ k ih=>rw [leK];split<;>omega
theorem qIZ (v:Nat→Nat) (k:Nat) (h:∀i,i<k→v i<18446744073709551616):grK v k<18446744073709551616:=by
 induction k with
 |zero=>show 0<_;omega
 |succ k ih=>
  have:=qCQ (v k) (h k (by omega))
  have:=ih fun i hi=>h i (by omega)
  rw [grK];split<;>omega
def leV (v:Nat→Nat) (n:Nat):Nat:=if vW v n=n then 9221120237041090560 else yG (leK v n)
def grV (v:Nat→Nat) (n:Nat):Nat:=if vW v n=n then 9221120237041090560 else yG (grK v n)
def bhA (kind:Int) (n na:Nat) (fi la:Int) (le gr:Nat) (by_:Int):Array Value:=#[.int .i64 kind,.int .i64 (n:Int),.int .i64 (na:Int),.int .i64 fi,.int .i64 la,.int .u64 (le:Int),.int .u64 (gr:Int),.int .i64 by_]
theorem qD1 (w:World) (g:Nat) (ty:TypeId) (z0 z1 z2 z3 z4 z5 z6 z7 a0 a1 a2 a3 a4 a5 a6 a7:Value) (h:w.heap[g]?=some (.cells #[z0,z1,z2,z3,z4,z5,z6,z7] ty (0,0))):
  ((((((((w.setCell ⟨g,0,none⟩ a0).setCell ⟨g,1,none⟩ a1).setCell ⟨g,2,none⟩ a2).setCell ⟨g,3,none⟩ a3).setCell ⟨g,4,none⟩ a4).setCell ⟨g,5,none⟩ a5).setCell ⟨g,6,none⟩ a6).setCell ⟨g,7,none⟩ a7).heap[g]?=some (.cells #[a0,a1,a2,a3,a4,a5,a6,a7] ty (0,0)):=by
 rw [heap_setCell_same _ _ _ _ _ _ (heap_setCell_same _ _ _ _ _ _ (heap_setCell_same _ _ _ _ _ _ (heap_setCell_same _ _ _ _ _ _ (heap_setCell_same _ _ _ _ _ _ (heap_setCell_same _ _ _ _ _ _ (heap_setCell_same _ _ _ _ _ _ (heap_setCell_same _ _ _ _ _ _ h)))))))];simp
theorem dK {B:Nat} {w0 w:World} (h:Below B w0 w) (g:Nat) (a0 a1 a2 a3 a4 a5 a6 a7:Value) (hg:B≤g):Below B w0 ((((((((w.setCell ⟨g,0,none⟩ a0).setCell ⟨g,1,none⟩ a1).setCell ⟨g,2,none⟩ a2).setCell ⟨g,3,none⟩ a3).setCell ⟨g,4,none⟩ a4).setCell ⟨g,5,none⟩ a5).setCell ⟨g,6,none⟩ a6).setCell ⟨g,7,none⟩ a7):=
 qH (qH (qH (qH (qH (qH (qH (qH h _ _ _ hg) _ _ _ hg) _ _ _ hg) _ _ _ hg) _ _ _ hg) _ _ _ hg) _ _ _ hg) _ _ _ hg
structure cH (w wr:World) (g:Nat) (kind:Int) (m na:Nat) (x0 xl:Int):Prop where
 res:wr.heap[g]?=some (.cells #[.int .i64 0,.int .i64 0,.int .i64 0,.int .i64 0,.int .i64 0,.int .u64 0,.int .u64 0,.int .i64 0] 38 (0,0))
 own:wr.heap[g+1]?=some (.cells #[.int .i64 kind,.int .i64 ((m:Int)+1),.int .i64 (na:Int),.int .i64 x0,.int .i64 xl,.int .u64 0,.int .u64 0,.int .i64 0] 38 (0,0))
 bel:Below g w wr
 lt:g+1<wr.heap.size
theorem cH.below {w wr w2:World} {g:Nat} {kind:Int} {m na:Nat} {x0 xl:Int} (h:cH w wr g kind m na x0 xl) (hB:Below wr.heap.size wr w2):cH w w2 g kind m na x0 xl:=
 ⟨by rw [hB.block g (by have:=h.lt;omega)];exact h.res,by rw [hB.block (g+1) h.lt];exact h.own,h.bel.trans (hB.mono (by have:=h.lt;omega)),Nat.lt_of_lt_of_le h.lt hB.size⟩
theorem cH.next {w wr:World} {g:Nat} {kind:Int} {m na:Nat} {x0 xl:Int} (h:cH w wr g kind m na x0 xl):cH w (wr.setCell ⟨g+1,2,none⟩ (.int .i64 ((na:Int)+1))) g kind m (na+1) x0 xl:=by
 refine ⟨?_,?_,qH h.bel _ _ _ (by omega),by simp [World.setCell];exact h.lt⟩
 ·rw [Below.heap_setCell _ _ _ _ (show g≠g+1 by omega)];exact h.res
 ·rw [heap_setCell_same _ _ _ _ _ _ h.own];simp
theorem qC1 (kind:Int) (p:Option Addr) (m cap:Nat) (t:Nat→Int) (v:Nat→Nat) (w:World) (h:uC w p (m+1) t v) (hn:m+1≤4096) (hf:∀i,i<m+1→v i<18446744073709551616):
  Calls Tryz.prog 41 #[.int .i64 kind,.slice p (m+1) cap] w fun e w'=>e= .returned (.agg (bhA kind (m+1) (vW v (m+1)) (t 0) (t m) (leV v (m+1)) (grV v (m+1)) 0))∧Below w.heap.size w w':=by
 have H:=qA h
 have HF:=qA hf
 obtain ⟨b,o,rfl,hc⟩:=h (by omega)
 have HCC:=qA hc
 obtain ⟨x0,hx0⟩:∃x,t 0=x:=⟨_,rfl⟩
 obtain ⟨xl,hxl⟩:∃x,t m=x:=⟨_,rfl⟩
 rw [hx0,hxl]
 obtain ⟨g,hg⟩:∃g,w.heap.size=g:=⟨_,rfl⟩
 have hbw:b<w.heap.size:=block_lt_of_cell (hc 0 (by omega)).1
 obtain ⟨W1,hW1⟩:∃W1,w.alloc (.cells #[.int .i64 0,.int .i64 0,.int .i64 0,.int .i64 0,.int .i64 0,.int .u64 0,.int .u64 0,.int .i64 0] 38)=W1:=⟨_,rfl⟩
 have c0:W1.cell? ⟨b,o,none⟩=some (.int .i64 x0):=by
  rw [←hW1,((Below.refl _ w).alloc (Nat.le_refl _) _).cell (p:=⟨b,o,none⟩) hbw,←hx0];simpa using (hc 0 (by omega)).1
 have cl:W1.cell? ⟨b,o+m*2,none⟩=some (.int .i64 xl):=by
  rw [←hW1,((Below.refl _ w).alloc (Nat.le_refl _) _).cell (p:=⟨b,o+m*2,none⟩) hbw,←hxl];exact (hc m (by omega)).1
 have hb1:b<W1.heap.size:=block_lt_of_cell c0
 have c0':(W1.alloc (.cells #[.int .i64 0,.int .i64 0,.int .i64 0,.int .i64 0,.int .i64 0,.int .u64 0,.int .u64 0,.int .i64 0] 38)).drew.cell? ⟨b,o,none⟩=some (.int .i64 x0):=by
  rw [((Below.refl _ W1).alloc (Nat.le_refl _) _).drew.cell (p:=⟨b,o,none⟩) hb1];exact c0
 have cl':(W1.alloc (.cells #[.int .i64 0,.int .i64 0,.int .i64 0,.int .i64 0,.int .i64 0,.int .u64 0,.int .u64 0,.int .i64 0] 38)).drew.cell? ⟨b,o+m*2,none⟩=some (.int .i64 xl):=by
  rw [((Below.refl _ W1).alloc (Nat.le_refl _) _).drew.cell (p:=⟨b,o+m*2,none⟩) hb1];exact cl
 have hwm:IntKind.i64.wrap (m:Int)=(m:Int):=by rw [IntKind.wrap_i64];omega
 have hs1:W1.heap.size=g+1:=by rw [←hW1,←hg];simp
 have HR1:Hid (W1.heap[g]?=some (.cells #[.int .i64 0,.int .i64 0,.int .i64 0,.int .i64 0,.int .i64 0,.int .u64 0,.int .u64 0,.int .i64 0] 38 (0,0))∧Below g w W1):=by rw [←hW1,←hg];exact ⟨heap_alloc_new _ _,(Below.refl _ _).alloc (Nat.le_refl _) _⟩
 clear h hf hc hx0 hxl
 go_enter Tryz.func41,Tryz.ntmps41
 go_upto_region 1 with fail
 (try rw [hW1])
 clear hW1
 go_region
 obtain ⟨W2,hW2⟩:∃W2,(W1.alloc (.cells #[.int .i64 kind,.int .i64 ((m:Int)+1),.int .i64 0,.int .i64 x0,.int .i64 xl,.int .u64 0,.int .u64 0,.int .i64 0] 38)).drew=W2:=⟨_,rfl⟩
 have HS:Hid (cH w W2 g kind m 0 x0 xl):=by
  have hA:Below W1.heap.size W1 W2:=by rw [←hW2];exact ((Below.refl _ W1).alloc (Nat.le_refl _) _).drew
  refine ⟨by rw [hA.block g (by omega)];exact HR1.out.1,?_,HR1.out.2.trans (hA.mono (by omega)),by rw [←hW2];simp;omega⟩
  rw [←hW2,←hs1];exact heap_alloc_new _ _
 rw [hW2]
 clear hW2 c0 cl c0' cl' hb1 hbw hs1 hwm
 have HG:=qA hg
 clear hg
 go_wp2_with fail
 go_loopw [6,7,28] (fun t6 t7 t28 wr=>∃k le gr na:Nat,t6= .int .u64 (le:Int)∧t7= .int .u64 (gr:Int)∧t28= .int .i64 (k:Int)∧Hid (k≤m+1∧le=leK v k∧gr=grK v k∧na=vW v k∧cH w wr g kind m na x0 xl)) (fun _ _ t28 _=>m+1-(intOf t28).toNat)
 case atStart=>exact ⟨0,18446744073709551615,0,0,rfl,rfl,rfl,Nat.zero_le _,rfl,rfl,rfl,HS.out⟩
 case round=>
  obtain ⟨k,le,gr,na,rfl,rfl,rfl,hI⟩:=hrel
  by_cases hlt:k<m+1
  ·have hbg:b<g:=by rw [←HG.out];exact block_lt_of_cell (HCC.out 0 (by omega)).1
   have hli:(k:Int)<(m:Int)+1:=by omega
   obtain ⟨x,hx⟩:∃x,t k=x:=⟨_,rfl⟩
   obtain ⟨y,hy⟩:∃y,v k=y:=⟨_,rfl⟩
   have c1:wr.cell? ⟨b,o+k*2,none⟩=some (.int .i64 x):=by rw [hI.out.2.2.2.2.bel.cell (p:=⟨b,o+k*2,none⟩) hbg,←hx];exact (HCC.out k hlt).1
   have c2:wr.cell? ⟨b,o+k*2+1,none⟩=some (.int .u64 (y:Int)):=by rw [hI.out.2.2.2.2.bel.cell (p:=⟨b,o+k*2+1,none⟩) hbg,←hy];exact (HCC.out k hlt).2
   have hyl:y<18446744073709551616:=by rw [←hy];exact HF.out k hlt
   have HY:=qA hy
   have HS1:Hid (cH w (wr.alloc (.cells #[.int .i64 x,.int .u64 (y:Int)] 47)) g kind m na x0 xl∧(wr.alloc (.cells #[.int .i64 x,.int .u64 (y:Int)] 47)).heap[wr.heap.size]?=some (.cells #[.int .i64 x,.int .u64 (y:Int)] 47 (0,0))):=⟨hI.out.2.2.2.2.below ((Below.refl _ _).alloc (Nat.le_refl _) _),heap_alloc_new _ _⟩
   have hna:na≤4096:=by have:=bO v k;rw [hI.out.2.2.2.1];omega
   have HNaN:=qA (fun w:World=>qFZ y w hyl)
   have HKey:=qA (fun w:World=>qEY y w hyl)
   have HKL:=qA (qCQ y hyl)
   obtain ⟨q,hq⟩:∃q,wr.heap.size=q:=⟨_,rfl⟩
   clear hx hy hyl
   go_wp2_with fail
   (try rw [hq])
   rw [hq] at HS1
   generalize wr.alloc (.cells #[.int .i64 x,.int .u64 (y:Int)] 47)=W3 at*
   refine (HNaN.out W3).mono ?_
   rintro e w4 ⟨rfl,B4⟩
   have HS4:=qA (HS1.out.1.below B4)
   have k4:w4.cell? ⟨q,1,none⟩=some (.int .u64 (y:Int)):=by
    have k3:W3.cell? ⟨q,1,none⟩=some (.int .u64 (y:Int)):=by rw [cell_of_row _ _ _ _ _ _ HS1.out.2];rfl
    rw [B4.cell (p:=⟨q,1,none⟩) (block_lt_of_cell k3)];exact k3
   clear B4 HS1 HNaN c1 c2 hq
   cases hnp:qK7 y
   ·have HE:Hid (leK v (k+1)=min le (sM y)∧grK v (k+1)=max gr (sM y)∧vW v (k+1)=na):=by
     rw [leK,grK,vW,HY.out,hnp,←hI.out.2.1,←hI.out.2.2.1,←hI.out.2.2.2.1];exact ⟨rfl,rfl,rfl⟩
    clear hnp
    go_wp2_with fail
    refine (HKey.out w4).mono ?_
    rintro e w5 ⟨rfl,B5⟩
    have HS5:=qA (HS4.out.below B5)
    generalize sM y=ky at*
    clear B5 HS4 HKey k4
    go_wp2_with fail
    go_roundw
    case rel=>exact ⟨k+1,min le ky,max gr ky,na,by simp;omega,by simp;omega,by simp,by omega,HE.out.1.symm,HE.out.2.1.symm,HE.out.2.2.symm,HS5.out⟩
    case measure=>simp [intOf];omega
   ·have HE:Hid (leK v (k+1)=le∧grK v (k+1)=gr∧vW v (k+1)=na+1):=by
     rw [leK,grK,vW,HY.out,hnp,←hI.out.2.1,←hI.out.2.2.1,←hI.out.2.2.2.1];exact ⟨rfl,rfl,rfl⟩
    have c2:w4.cell? ⟨g+1,2,none⟩=some (.int .i64 (na:Int)):=by rw [cell_of_row _ _ _ _ _ _ HS4.out.own];rfl
    have f2:=froz HS4.out.own 2
    have HS5:=qA HS4.out.next
    clear hnp HS4 HKey k4
    go_wp2_with fail
    go_roundw
    case rel=>exact ⟨k+1,le,gr,na+1,rfl,rfl,by simp,by omega,HE.out.1.symm,HE.out.2.1.symm,HE.out.2.2.symm,HS5.out⟩
    case measure=>simp [intOf];omega
  ·have hk:k=m+1:=by have:=hI.out.1;omega
   have HS6:Hid (cH w wr g kind m na x0 xl):=hI.out.2.2.2.2
   have HE:Hid (le=leK v (m+1)∧gr=grK v (m+1)∧na=vW v (m+1)):=by rw [←hk];exact ⟨hI.out.2.1,hI.out.2.2.1,hI.out.2.2.2.1⟩
   have HL1:Hid (le<18446744073709551616):=by rw [HE.out.1];exact qJ0 _ _
   have HL2:Hid (gr<18446744073709551616):=by rw [HE.out.2.1];exact qIZ _ _ HF.out
   have hna:na≤m+1:=by rw [HE.out.2.2];exact bO _ _
   have hli:¬(k:Int)<(m:Int)+1:=by omega
   clear hI hk hlt
   go_wp2_with fail
   refine (nL le wr HL1.out).mono ?_
   rintro e w5 ⟨rfl,B5⟩
   have HS7:=qA (HS6.out.below B5)
   clear B5 HS6
   go_wp2_with fail
   refine (nL gr w5 HL2.out).mono ?_
   rintro e w6 ⟨rfl,B6⟩
   have HS8:=qA (HS7.out.below B6)
   clear B6 HS7
   have HV:Hid (leV v (m+1)=(if na=m+1 then 9221120237041090560 else yG le)∧grV v (m+1)=(if na=m+1 then 9221120237041090560 else yG gr)):=by
    unfold leV grV;rw [←HE.out.1,←HE.out.2.1,←HE.out.2.2];exact ⟨rfl,rfl⟩
   generalize yG le=ol at*
   generalize yG gr=og at*
   have hown:=HS8.out.own
   have hres:=HS8.out.res
   have HB8:=qA HS8.out.bel
   clear HS8 HL1 HL2
   have o5:w6.cell? ⟨g+1,5,none⟩=some (.int .u64 0):=by rw [cell_of_row _ _ _ _ _ _ hown];rfl
   have o6:w6.cell? ⟨g+1,6,none⟩=some (.int .u64 0):=by rw [cell_of_row _ _ _ _ _ _ hown];rfl
   have p5:=froz hown 5
   have p6:=froz hown 6
   have HW7:Hid (((w6.setCell ⟨g+1,5,none⟩ (.int .u64 (ol:Int))).setCell ⟨g+1,6,none⟩ (.int .u64 (og:Int))).heap[g+1]?=some (.cells #[.int .i64 kind,.int .i64 ((m:Int)+1),.int .i64 (na:Int),.int .i64 x0,.int .i64 xl,.int .u64 (ol:Int),.int .u64 (og:Int),.int .i64 0] 38 (0,0))∧((w6.setCell ⟨g+1,5,none⟩ (.int .u64 (ol:Int))).setCell ⟨g+1,6,none⟩ (.int .u64 (og:Int))).heap[g]?=some (.cells #[.int .i64 0,.int .i64 0,.int .i64 0,.int .i64 0,.int .i64 0,.int .u64 0,.int .u64 0,.int .i64 0] 38 (0,0))∧Below g w ((w6.setCell ⟨g+1,5,none⟩ (.int .u64 (ol:Int))).setCell ⟨g+1,6,none⟩ (.int .u64 (og:Int)))):=by
    refine ⟨?_,?_,qH (qH HB8.out _ _ _ (by omega)) _ _ _ (by omega)⟩
    ·rw [heap_setCell_same _ _ _ _ _ _ (heap_setCell_same _ _ _ _ _ _ hown)];simp
    ·rw [Below.heap_setCell _ _ _ _ (show g≠g+1 by omega),Below.heap_setCell _ _ _ _ (show g≠g+1 by omega)];exact hres
   clear hown hres HB8
   go_upto_region 12 with fail
   generalize (w6.setCell ⟨g+1,5,none⟩ (.int .u64 (ol:Int))).setCell ⟨g+1,6,none⟩ (.int .u64 (og:Int))=W7 at*
   clear o5 o6 p5 p6
   have q1:W7.cell? ⟨g+1,1,none⟩=some (.int .i64 ((m:Int)+1)):=by rw [cell_of_row _ _ _ _ _ _ HW7.out.1];rfl
   have q2:W7.cell? ⟨g+1,2,none⟩=some (.int .i64 (na:Int)):=by rw [cell_of_row _ _ _ _ _ _ HW7.out.1];rfl
   have q5:W7.cell? ⟨g+1,5,none⟩=some (.int .u64 (ol:Int)):=by rw [cell_of_row _ _ _ _ _ _ HW7.out.1];rfl
   have q6:W7.cell? ⟨g+1,6,none⟩=some (.int .u64 (og:Int)):=by rw [cell_of_row _ _ _ _ _ _ HW7.out.1];rfl
   have r5:=froz HW7.out.1 5
   have r6:=froz HW7.out.1 6
   obtain ⟨lv,hlv⟩:∃x,leV v (m+1)=x:=⟨_,rfl⟩
   obtain ⟨gv,hgv⟩:∃x,grV v (m+1)=x:=⟨_,rfl⟩
   rw [hlv,hgv] at HV
   have HLV:=qA (And.intro hlv hgv)
   clear hlv hgv
   go_upto_if 59 with fail
   go_cut [6] from 49 (fun t6 wc=>Hid (wc.heap[g+1]?=some (.cells #[.int .i64 kind,.int .i64 ((m:Int)+1),.int .i64 (na:Int),.int .i64 x0,.int .i64 xl,.int .u64 (lv:Int),.int .u64 (gv:Int),.int .i64 0] 38 (0,0))∧wc.heap[g]?=some (.cells #[.int .i64 0,.int .i64 0,.int .i64 0,.int .i64 0,.int .i64 0,.int .u64 0,.int .u64 0,.int .i64 0] 38 (0,0))∧Below g w wc))
   case first=>
    by_cases hall:na=m+1
    ·have e1:((na:Int)==(m:Int)+1)=true:=by rw [beq_iff_eq];omega
     have HF7:Hid (((W7.setCell ⟨g+1,5,none⟩ (.int .u64 9221120237041090560)).setCell ⟨g+1,6,none⟩ (.int .u64 9221120237041090560)).heap[g+1]?=some (.cells #[.int .i64 kind,.int .i64 ((m:Int)+1),.int .i64 (na:Int),.int .i64 x0,.int .i64 xl,.int .u64 (lv:Int),.int .u64 (gv:Int),.int .i64 0] 38 (0,0))∧((W7.setCell ⟨g+1,5,none⟩ (.int .u64 9221120237041090560)).setCell ⟨g+1,6,none⟩ (.int .u64 9221120237041090560)).heap[g]?=some (.cells #[.int .i64 0,.int .i64 0,.int .i64 0,.int .i64 0,.int .i64 0,.int .u64 0,.int .u64 0,.int .i64 0] 38 (0,0))∧Below g w ((W7.setCell ⟨g+1,5,none⟩ (.int .u64 9221120237041090560)).setCell ⟨g+1,6,none⟩ (.int .u64 9221120237041090560))):=by
      refine ⟨?_,?_,qH (qH HW7.out.2.2 _ _ _ (by omega)) _ _ _ (by omega)⟩
      ·rw [heap_setCell_same _ _ _ _ _ _ (heap_setCell_same _ _ _ _ _ _ HW7.out.1),HV.out.1,HV.out.2,if_pos hall,if_pos hall];simp
      ·rw [Below.heap_setCell _ _ _ _ (show g≠g+1 by omega),Below.heap_setCell _ _ _ _ (show g≠g+1 by omega)];exact HW7.out.2.1
     clear HW7
     go_wp2_with fail
     go_meet
     case rel=>exact HF7.out
    ·have e1:((na:Int)==(m:Int)+1)=false:=by rw [beq_eq_false_iff_ne];omega
     have HF7:Hid (W7.heap[g+1]?=some (.cells #[.int .i64 kind,.int .i64 ((m:Int)+1),.int .i64 (na:Int),.int .i64 x0,.int .i64 xl,.int .u64 (lv:Int),.int .u64 (gv:Int),.int .i64 0] 38 (0,0))∧W7.heap[g]?=some (.cells #[.int .i64 0,.int .i64 0,.int .i64 0,.int .i64 0,.int .i64 0,.int .u64 0,.int .u64 0,.int .i64 0] 38 (0,0))∧Below g w W7):=by
      refine ⟨?_,HW7.out.2⟩
      rw [HW7.out.1,HV.out.1,HV.out.2,if_neg hall,if_neg hall]
     clear HW7
     go_wp2_with fail
     go_meet
     case rel=>exact HF7.out
   case rest=>
    have HB9:=qA hcut.out.2.2
    have o0:wc.cell? ⟨g+1,0,none⟩=some (.int .i64 kind):=by rw [cell_of_row _ _ _ _ _ _ hcut.out.1];rfl
    have z0:wc.cell? ⟨g,0,none⟩=some (.int .i64 0):=by rw [cell_of_row _ _ _ _ _ _ hcut.out.2.1];rfl
    have y0:=froz hcut.out.2.1 0
    have o1:wc.cell? ⟨g+1,1,none⟩=some (.int .i64 ((m:Int)+1)):=by rw [cell_of_row _ _ _ _ _ _ hcut.out.1];rfl
    have z1:wc.cell? ⟨g,1,none⟩=some (.int .i64 0):=by rw [cell_of_row _ _ _ _ _ _ hcut.out.2.1];rfl
    have y1:=froz hcut.out.2.1 1
    have o2:wc.cell? ⟨g+1,2,none⟩=some (.int .i64 (na:Int)):=by rw [cell_of_row _ _ _ _ _ _ hcut.out.1];rfl
    have z2:wc.cell? ⟨g,2,none⟩=some (.int .i64 0):=by rw [cell_of_row _ _ _ _ _ _ hcut.out.2.1];rfl
    have y2:=froz hcut.out.2.1 2
    have o3:wc.cell? ⟨g+1,3,none⟩=some (.int .i64 x0):=by rw [cell_of_row _ _ _ _ _ _ hcut.out.1];rfl
    have z3:wc.cell? ⟨g,3,none⟩=some (.int .i64 0):=by rw [cell_of_row _ _ _ _ _ _ hcut.out.2.1];rfl
    have y3:=froz hcut.out.2.1 3
    have o4:wc.cell? ⟨g+1,4,none⟩=some (.int .i64 xl):=by rw [cell_of_row _ _ _ _ _ _ hcut.out.1];rfl
    have z4:wc.cell? ⟨g,4,none⟩=some (.int .i64 0):=by rw [cell_of_row _ _ _ _ _ _ hcut.out.2.1];rfl
    have y4:=froz hcut.out.2.1 4
    have o5:wc.cell? ⟨g+1,5,none⟩=some (.int .u64 (lv:Int)):=by rw [cell_of_row _ _ _ _ _ _ hcut.out.1];rfl
    have z5:wc.cell? ⟨g,5,none⟩=some (.int .u64 0):=by rw [cell_of_row _ _ _ _ _ _ hcut.out.2.1];rfl
    have y5:=froz hcut.out.2.1 5
    have o6:wc.cell? ⟨g+1,6,none⟩=some (.int .u64 (gv:Int)):=by rw [cell_of_row _ _ _ _ _ _ hcut.out.1];rfl
    have z6:wc.cell? ⟨g,6,none⟩=some (.int .u64 0):=by rw [cell_of_row _ _ _ _ _ _ hcut.out.2.1];rfl
    have y6:=froz hcut.out.2.1 6
    have o7:wc.cell? ⟨g+1,7,none⟩=some (.int .i64 0):=by rw [cell_of_row _ _ _ _ _ _ hcut.out.1];rfl
    have z7:wc.cell? ⟨g,7,none⟩=some (.int .i64 0):=by rw [cell_of_row _ _ _ _ _ _ hcut.out.2.1];rfl
    have y7:=froz hcut.out.2.1 7
    have HFR:Hid (((((((((wc.setCell ⟨g,0,none⟩ (.int .i64 kind)).setCell ⟨g,1,none⟩ (.int .i64 ((m:Int)+1))).setCell ⟨g,2,none⟩ (.int .i64 (na:Int))).setCell ⟨g,3,none⟩ (.int .i64 x0)).setCell ⟨g,4,none⟩ (.int .i64 xl)).setCell ⟨g,5,none⟩ (.int .u64 (lv:Int))).setCell ⟨g,6,none⟩ (.int .u64 (gv:Int))).setCell ⟨g,7,none⟩ (.int .i64 0)).heap[g]?=some (.cells #[.int .i64 kind,.int .i64 ((m:Int)+1),.int .i64 (na:Int),.int .i64 x0,.int .i64 xl,.int .u64 (lv:Int),.int .u64 (gv:Int),.int .i64 0] 38 (0,0))∧Below g w ((((((((wc.setCell ⟨g,0,none⟩ (.int .i64 kind)).setCell ⟨g,1,none⟩ (.int .i64 ((m:Int)+1))).setCell ⟨g,2,none⟩ (.int .i64 (na:Int))).setCell ⟨g,3,none⟩ (.int .i64 x0)).setCell ⟨g,4,none⟩ (.int .i64 xl)).setCell ⟨g,5,none⟩ (.int .u64 (lv:Int))).setCell ⟨g,6,none⟩ (.int .u64 (gv:Int))).setCell ⟨g,7,none⟩ (.int .i64 0))):=⟨qD1 _ _ _ _ _ _ _ _ _ _ _ _ _ _ _ _ _ _ _ hcut.out.2.1,dK hcut.out.2.2 _ _ _ _ _ _ _ _ _ (Nat.le_refl _)⟩
    clear hcut
    go_wp2_with fail
    generalize ((((((((wc.setCell ⟨g,0,none⟩ (.int .i64 kind)).setCell ⟨g,1,none⟩ (.int .i64 ((m:Int)+1))).setCell ⟨g,2,none⟩ (.int .i64 (na:Int))).setCell ⟨g,3,none⟩ (.int .i64 x0)).setCell ⟨g,4,none⟩ (.int .i64 xl)).setCell ⟨g,5,none⟩ (.int .u64 (lv:Int))).setCell ⟨g,6,none⟩ (.int .u64 (gv:Int))).setCell ⟨g,7,none⟩ (.int .i64 0))=WF at*
    have HFC:Hid (vW v (m+1)=na):=HE.out.2.2.symm
    rw [HFC.out,HLV.out.1,HLV.out.2]
    obtain ⟨u0,u1,u2,u3,u4,u5,u6,u7⟩:=rowcells8 HFR.out.1
    exact bodyPost_ret (v:= .agg (bhA kind (m+1) na x0 xl lv gv 0)) (by simp [results,Tryz.results41,go_sem,bhA,u0,u1,u2,u3,u4,u5,u6,u7]) rfl ⟨rfl,by rw [HG.out];exact HFR.out.2⟩
end Go.Proofs.YtkpmalfigmimaaaGreatDoor
namespace Go.Proofs.YtkpmalfigmimaaaGreatDoor
open Go.RowKit
open M
end Go.Proofs.YtkpmalfigmimaaaGreatDoor
namespace Go.Proofs.YtkpmalfigmimaaaGreatDoor
open Go.RowKit
open M
theorem cO (k n:Nat) (f:Nat→Nat) (hk1:1≤k) (hk6:k≤6) (hf:∀i,i<n→f i<18446744073709551616) (hu:¬(k=4∧256<(uq f n).length)):∃bs,jL k n f bs:=by
 by_cases h0:n=0
 ·exact ⟨[],hf,fun _=>rfl,fun h=>by omega⟩
 ·have hS:∃l,yE k f n=some l:=by
   obtain rfl|rfl|rfl|rfl|rfl|rfl:k=1∨k=2∨k=3∨k=4∨k=5∨k=6:=by omega
   ·exact ⟨_,rfl⟩
   ·exact ⟨_,rfl⟩
   ·exact ⟨_,rfl⟩
   ·refine ⟨dcB 64 f n,?_⟩
    show dcO 64 f n=_
    rw [dcO,if_pos (by omega)]
   ·exact ⟨_,rfl⟩
   ·exact ⟨_,rfl⟩
  obtain ⟨l,hl⟩:=hS
  exact ⟨packed l,hf,fun h=>absurd h h0,fun _=>⟨l,hl,rfl⟩⟩
theorem cM (n:Nat) (f:Nat→Nat) (bs:List Nat) (h:jL 1 n f bs):bs.length=8*n:=by
 by_cases h0:n=0
 ·rw [h.2.1 h0,h0];rfl
 ·obtain ⟨l,h1,h2⟩:=h.2.2 (by omega)
  have h1:some (plB 64 f n)=some l:=h1
  obtain rfl:=Option.some.inj h1
  rw [←h2,packed_length,xI];omega
theorem fV (k n:Nat) (f:Nat→Nat) (bs bs':List Nat) (h:jL k n f bs) (h':jL k n f bs'):bs=bs':=by
 by_cases h0:n=0
 ·rw [h.2.1 h0,h'.2.1 h0]
 ·obtain ⟨l,h1,h2⟩:=h.2.2 (by omega)
  obtain ⟨l',h1',h2'⟩:=h'.2.2 (by omega)
  rw [h1] at h1'
  obtain rfl:=Option.some.inj h1'
  rw [←h2,←h2']
theorem cN (k n:Nat) (f:Nat→Nat) (hk1:1≤k) (hk6:k≤6) (hf:∀i,i<n→f i<4294967296) (hu:¬(k=4∧256<(uq f n).length)):∃bs,jK k n f bs:=by
 by_cases h0:n=0
 ·exact ⟨[],hf,fun _=>rfl,fun h=>by omega⟩
 ·have hS:∃l,yD k f n=some l:=by
   obtain rfl|rfl|rfl|rfl|rfl|rfl:k=1∨k=2∨k=3∨k=4∨k=5∨k=6:=by omega
   ·exact ⟨_,rfl⟩
   ·exact ⟨_,rfl⟩
   ·exact ⟨_,rfl⟩
   ·refine ⟨dcB 32 f n,?_⟩
    show dcO 32 f n=_
    rw [dcO,if_pos (by omega)]
   ·exact ⟨_,rfl⟩
   ·exact ⟨_,rfl⟩
  obtain ⟨l,hl⟩:=hS
  exact ⟨packed l,hf,fun h=>absurd h h0,fun _=>⟨l,hl,rfl⟩⟩
theorem cL (n:Nat) (f:Nat→Nat) (bs:List Nat) (h:jK 1 n f bs):bs.length=4*n:=by
 by_cases h0:n=0
 ·rw [h.2.1 h0,h0];rfl
 ·obtain ⟨l,h1,h2⟩:=h.2.2 (by omega)
  have h1:some (plB 32 f n)=some l:=h1
  obtain rfl:=Option.some.inj h1
  rw [←h2,packed_length,xI];omega
theorem fT (k n:Nat) (f:Nat→Nat) (bs bs':List Nat) (h:jK k n f bs) (h':jK k n f bs'):bs=bs':=by
 by_cases h0:n=0
 ·rw [h.2.1 h0,h'.2.1 h0]
 ·obtain ⟨l,h1,h2⟩:=h.2.2 (by omega)
  obtain ⟨l',h1',h2'⟩:=h'.2.2 (by omega)
  rw [h1] at h1'
  obtain rfl:=Option.some.inj h1'
  rw [←h2,←h2']
end Go.Proofs.YtkpmalfigmimaaaGreatDoor
