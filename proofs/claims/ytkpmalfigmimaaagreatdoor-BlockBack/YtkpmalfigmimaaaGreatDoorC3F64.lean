import Derived.Test.YtkpmalfigmimaaaGreatDoorZ0
import Derived.Test.YtkpmalfigmimaaaGreatDoorC3B64
import Derived.Test.YtkpmalfigmimaaaGreatDoorQG
import Derived.Test.YtkpmalfigmimaaaGreatDoorP1J32
import Derived.Test.YtkpmalfigmimaaaGreatDoorT1S
set_option linter.unusedVariables false
set_option linter.unusedSimpArgs false
set_option maxRecDepth 100000
set_option maxHeartbeats 8000000
namespace Go.Proofs.YtkpmalfigmimaaaGreatDoor
open Go.RowKit
open M
theorem qBM {w:World} {g p:Nat} {x y:Value} (h:w.heap[g]?=some (.cells #[x,y] 194 (0,0))):gQ ((w.setCell ⟨g,0,none⟩ (.int .i64 (p:Int))).setCell ⟨g,1,none⟩ (.int .u64 (F64.pow p:Int))) g p:=by
 have h1:=heap_setCell_same w g 0 _ _ (.int .i64 (p:Int)) h
 have h2:=heap_setCell_same _ g 1 _ _ (.int .u64 (F64.pow p:Int)) h1
 exact ⟨h2⟩
theorem wA {B g:Nat} {w0 w:World} (h:Below B w0 w) (hg:B≤g) (x y:Value):Below B w0 ((w.setCell ⟨g,0,none⟩ x).setCell ⟨g,1,none⟩ y):=
 (h.setCell (p:=⟨g,0,none⟩) hg _).setCell (p:=⟨g,1,none⟩) hg _
theorem nV (q:Option Addr) (n cap:Nat) (f:Nat→Nat) (w:World) (h:qZ w q n f) (hn:n≤4096) (hcap:n≤cap) (hf:∀i,i<n→f i<18446744073709551616):
  Calls Tryz.prog 165 #[.slice q n cap] w fun e w'=>e= .returned (vM (F64.bs f n 22).1)∧Below w.heap.size w w':=by
 have HNO:=qA (fun (p:Nat) (w1:World) (hB:Below w.heap.size w w1)=>vV p q n cap f w1 (h.below hB) hn hcap hf)
 have HSA:=qA (fun (p:Nat) (w:World) (hp:p≤1000)=>wZ p w hp)
 clear h hf
 obtain ⟨g,hg⟩:∃g,w.heap.size=g:=⟨_,rfl⟩
 have HA:Hid (Below g w (w.alloc (.cells #[.int .i64 0,.int .u64 0] 194))∧(w.alloc (.cells #[.int .i64 0,.int .u64 0] 194)).heap[g]?=some (.cells #[.int .i64 0,.int .u64 0] 194 (0,0))):=by
  rw [←hg];exact ⟨(Below.refl _ w).alloc (Nat.le_refl _) _,heap_alloc_new w _⟩
 have HG:=qA hg
 rw [hg] at HNO
 unfold vM at*
 go_enter Tryz.func165,Tryz.ntmps165
 go_upto_region 1 with fail
 (try rw [hg])
 clear hg
 generalize w.alloc (.cells #[.int .i64 0,.int .u64 0] 194)=W1 at*
 go_wp2_with fail
 refine (HSA.out 0 W1 (by omega)).mono ?_
 rintro e w2 ⟨rfl,B2⟩
 obtain ⟨g3,hg3⟩:∃g3,w2.heap.size=g3:=⟨_,rfl⟩
 have hW:g<g3:=by have:=qB HA.out.2;have:=B2.size;omega
 obtain ⟨W3,hW3⟩:∃W3,W3=w2.alloc (.cells #[.int .i64 0,.int .u64 (F64.pow 0:Int)] 194):=⟨_,rfl⟩
 have H3:Hid (gQ W3 g3 0∧Below g w W3∧W3.heap[g]?=some (.cells #[.int .i64 0,.int .u64 0] 194 (0,0))):=by
  have hA:Below g3 w2 W3:=by rw [hW3,←hg3];exact (Below.refl _ w2).alloc (Nat.le_refl _) _
  have hl:=qB HA.out.2
  refine ⟨⟨by rw [hW3,←hg3];exact heap_alloc_new w2 _⟩,(HA.out.1.trans (B2.mono (by omega))).trans (hA.mono (by omega)),?_⟩
  rw [hA.block g hW,B2.block g hl];exact HA.out.2
 clear B2
 go_upto_region 2 with fail
 (try rw [←hW3])
 clear hW3 hg3
 have c0:W3.cell? ⟨g3,0,none⟩=some (.int .i64 0):=H3.out.1.c0
 have c1:=H3.out.1.c1
 go_wp2_with fail
 refine (HNO.out 0 W3 H3.out.2.1).mono ?_
 rintro e w4 ⟨rfl,B4⟩
 have H4:Hid (gQ w4 g3 0∧Below g w w4∧w4.heap[g]?=some (.cells #[.int .i64 0,.int .u64 0] 194 (0,0))):=by
  have h1:=H3.out.1.lt
  exact ⟨H3.out.1.below B4 h1,H3.out.2.1.trans (B4.mono (by omega)),by rw [B4.block g (by omega)];exact H3.out.2.2⟩
 clear B4 c0 c1
 go_wp2_with fail
 go_loopw [4,5] (fun t4 t5 wr=>∃(r d:Nat),t5= .int .i64 ((r:Int)+1)∧t4= .int .i64 (d:Int)∧Hid (r≤22∧d=(F64.bs f n r).2∧gQ wr g3 (F64.bs f n r).1∧Below g w wr∧wr.heap[g]?=some (.cells #[.int .i64 0,.int .u64 0] 194 (0,0)))) (fun _ t5 _=>22+1-(intOf t5).toNat)
 case atStart=>exact ⟨0,_,rfl,rfl,Nat.zero_le _,rfl,H4.out.1,H4.out.2.1,H4.out.2.2⟩
 case round=>
  obtain ⟨r,d,rfl,rfl,hI⟩:=hrel
  by_cases hstop:r=22∨d=0
  ·have HE:Hid (gQ wr g3 (F64.bs f n 22).1):=by
    have h3:=hI.out.2.2.1
    rcases hstop with h|h
    ·rw [h] at h3;exact h3
    ·rw [F64.bs_stop f n r 22 hI.out.1 (by rw [←hI.out.2.1];exact h)];exact h3
   have hb:=hI.out.2.2.2.2
   have c0:=HE.out.c0
   have c1:=HE.out.c1
   have d0:wr.cell? ⟨g,0,none⟩=some (.int .i64 0):=cell_of_row _ _ 0 _ _ _ hb
   have d1:wr.cell? ⟨g,1,none⟩=some (.int .u64 0):=cell_of_row _ _ 1 _ _ _ hb
   have f0:=froz hb 0
   have f1:=froz hb 1
   have HR:Hid (r≤22∧(r=22∨d=0)):=⟨hI.out.1,hstop⟩
   have HB:=qA hI.out.2.2.2
   clear hb hI hstop
   obtain ⟨bp,hbp⟩:∃bp,(F64.bs f n 22).1=bp:=⟨_,rfl⟩
   rw [hbp] at c0 c1 HE
   have HBP:=qA hbp
   clear hbp
   obtain ⟨P,hP⟩:∃P,F64.pow bp=P:=⟨_,rfl⟩
   rw [hP] at c1
   have HP:=qA hP
   clear hP
   obtain ⟨fs,hu⟩:=yM (show Tryz.prog.underlying 194=Tryz.prog.underlying 194 from rfl) (by kernel_rfl)
   have HU:=qA hu
   have HROW:Hid (((wr.setCell ⟨g,0,none⟩ (.int .i64 (bp:Int))).setCell ⟨g,1,none⟩ (.int .u64 (P:Int))).heap[g]?=some (.cells #[.int .i64 (bp:Int),.int .u64 (P:Int)] 194 (0,0))):=by
    have h1:=heap_setCell_same wr g 0 _ _ (.int .i64 (bp:Int)) HB.out.2
    exact heap_setCell_same _ g 1 _ _ (.int .u64 (P:Int)) h1
   clear hu
   by_cases h22:r=22
   ·subst h22
    go_wp2_with fail
    refine (xP _).mono ?_
    rintro e w5 ⟨rfl,h5⟩
    have h5:=h5.symm
    subst h5
    go_wp2_with fail
    refine bodyPost_ret (results_cell_row rfl _ _ g _ _ (0,0) (.struct fs) rfl HROW.out HU.out rfl (by kernel_rfl)) rfl ?_
    refine ⟨by rw [HBP.out,HP.out],?_⟩
    rw [HG.out]
    exact wA HB.out.1 (Nat.le_refl _) _ _
   ·have hr22:r+1≤22:=by have:=HR.out.1;omega
    have hd0:d=0:=by rcases HR.out.2 with h|h;exact absurd h h22;exact h
    subst hd0
    have hle:(r:Int)+1≤22:=by omega
    go_wp2_with fail
    refine (xP _).mono ?_
    rintro e w5 ⟨rfl,h5⟩
    have h5:=h5.symm
    subst h5
    go_wp2_with fail
    refine bodyPost_ret (results_cell_row rfl _ _ g _ _ (0,0) (.struct fs) rfl HROW.out HU.out rfl (by kernel_rfl)) rfl ?_
    refine ⟨by rw [HBP.out,HP.out],?_⟩
    rw [HG.out]
    exact wA HB.out.1 (Nat.le_refl _) _ _
  ·have hr22:r+1≤22:=by have:=hI.out.1;omega
   have hd0:0<d:=by omega
   have hle:(r:Int)+1≤22:=by omega
   have hdp:(d:Int)>0:=by omega
   have HB:=qA hI.out.2.2.2
   have HS:=qA hI.out.2.2.1
   have HD:=qA hI.out.2.1
   have HST:=qA hstop
   clear hI hstop
   have HSC:=qA (HSA.out (r+1) wr (by omega))
   rw [show (((r+1:Nat)):Int)=(r:Int)+1 from by simp] at HSC
   go_wp2_with fail
   refine (xP _).mono ?_
   rintro e w5 ⟨rfl,h5⟩
   have h5:=h5.symm
   subst h5
   go_wp2_with fail
   refine HSC.out.mono ?_
   rintro e w6 ⟨rfl,B6⟩
   obtain ⟨P,hP⟩:∃P,F64.pow (r+1)=P:=⟨_,rfl⟩
   rw [hP]
   have HP:=qA hP
   clear hP
   obtain ⟨g6,hg6⟩:∃g6,w6.heap.size=g6:=⟨_,rfl⟩
   obtain ⟨W7,hW7⟩:∃W7,W7=w6.alloc (.cells #[.int .i64 ((r:Int)+1),.int .u64 (P:Int)] 194):=⟨_,rfl⟩
   have H7:Hid (W7.heap[g6]?=some (.cells #[.int .i64 ((r:Int)+1),.int .u64 (P:Int)] 194 (0,0))∧gQ W7 g3 (F64.bs f n r).1∧Below g w W7∧W7.heap[g]?=some (.cells #[.int .i64 0,.int .u64 0] 194 (0,0))∧g3<g6):=by
    have hA:Below g6 w6 W7:=by rw [hW7,←hg6];exact (Below.refl _ w6).alloc (Nat.le_refl _) _
    have hl:=HS.out.lt
    have hs6:=B6.size
    have hBB:Below wr.heap.size wr W7:=B6.trans (hA.mono (by omega))
    exact ⟨by rw [hW7,←hg6];exact heap_alloc_new w6 _,HS.out.below hBB hl,HB.out.1.trans (hBB.mono (by omega)),by rw [hBB.block g (by omega)];exact HB.out.2,by omega⟩
   clear B6
   go_upto_region 7 with fail
   (try rw [←hW7])
   clear hW7 hg6
   have c0:W7.cell? ⟨g6,0,none⟩=some (.int .i64 ((r:Int)+1)):=cell_of_row _ _ 0 _ _ _ H7.out.1
   have c1:W7.cell? ⟨g6,1,none⟩=some (.int .u64 (P:Int)):=cell_of_row _ _ 1 _ _ _ H7.out.1
   have HN:=qA (HNO.out (r+1) W7 H7.out.2.2.1)
   rw [HP.out,show (((r+1:Nat)):Int)=(r:Int)+1 from by simp] at HN
   go_wp2_with fail
   refine HN.out.mono ?_
   rintro e w8 ⟨rfl,B8⟩
   obtain ⟨c,hc⟩:∃c,F64.cnt (r+1) f 0 n=c:=⟨_,rfl⟩
   rw [hc]
   have H8:Hid (w8.heap[g6]?=some (.cells #[.int .i64 ((r:Int)+1),.int .u64 (P:Int)] 194 (0,0))∧gQ w8 g3 (F64.bs f n r).1∧Below g w w8∧w8.heap[g]?=some (.cells #[.int .i64 0,.int .u64 0] 194 (0,0))):=by
    have h6:=qB H7.out.1
    exact ⟨by rw [B8.block g6 h6];exact H7.out.1,H7.out.2.1.below B8 H7.out.2.1.lt,H7.out.2.2.1.trans (B8.mono (by have:=H7.out.2.1.lt;omega)),by rw [B8.block g (by have:=H7.out.2.1.lt;omega)];exact H7.out.2.2.2.1⟩
   clear B8 c0 c1
   by_cases hcd:c<d
   ·have HE:Hid (F64.bs f n (r+1)=(r+1,c)):=by
     show _=_
     rw [Dm.bs,if_neg (by rw [←HD.out];omega),hc,if_pos (by rw [←HD.out];exact hcd)]
    have e0:w8.cell? ⟨g6,0,none⟩=some (.int .i64 ((r:Int)+1)):=cell_of_row _ _ 0 _ _ _ H8.out.1
    have e1:w8.cell? ⟨g6,1,none⟩=some (.int .u64 (P:Int)):=cell_of_row _ _ 1 _ _ _ H8.out.1
    have c0:=H8.out.2.1.c0
    have c1:=H8.out.2.1.c1
    have f0:=froz H8.out.2.1.row 0
    have f1:=froz H8.out.2.1.row 1
    have HX:Hid (gQ ((w8.setCell ⟨g3,0,none⟩ (.int .i64 ((r:Int)+1))).setCell ⟨g3,1,none⟩ (.int .u64 (P:Int))) g3 (r+1)∧Below g w ((w8.setCell ⟨g3,0,none⟩ (.int .i64 ((r:Int)+1))).setCell ⟨g3,1,none⟩ (.int .u64 (P:Int)))∧((w8.setCell ⟨g3,0,none⟩ (.int .i64 ((r:Int)+1))).setCell ⟨g3,1,none⟩ (.int .u64 (P:Int))).heap[g]?=some (.cells #[.int .i64 0,.int .u64 0] 194 (0,0))):=by
     refine ⟨?_,wA H8.out.2.2.1 (by omega) _ _,?_⟩
     ·have:=qBM (p:=r+1) H8.out.2.1.row
      rw [HP.out] at this
      exact this
     ·rw [Below.heap_setCell _ _ _ _ (show g≠g3 by omega),Below.heap_setCell _ _ _ _ (show g≠g3 by omega)];exact H8.out.2.2.2
    clear hc
    go_wp2_with fail
    go_roundw
    case rel=>exact ⟨r+1,c,by simp,by simp,hr22,by rw [HE.out],by rw [HE.out];exact HX.out.1,HX.out.2.1,HX.out.2.2⟩
    case measure=>simp [intOf];omega
   ·have HE:Hid (F64.bs f n (r+1)=F64.bs f n r):=by
     show _=_
     rw [Dm.bs,if_neg (by rw [←HD.out];omega),hc,if_neg (by rw [←HD.out];exact hcd)]
    clear hc
    go_wp2_with fail
    go_roundw
    case rel=>exact ⟨r+1,d,by simp,by simp,hr22,by rw [HE.out];exact HD.out,by rw [HE.out];exact H8.out.2.1,H8.out.2.2.1,H8.out.2.2.2⟩
    case measure=>simp [intOf];omega
end Go.Proofs.YtkpmalfigmimaaaGreatDoor
namespace Go.Proofs.YtkpmalfigmimaaaGreatDoor
open Go.RowKit
open M
def zX (l:List Bool) (w:World) (e:Ending) (w':World):Prop:=
 ∃(g L:Nat),L=(packed l).length∧w.heap.size≤g∧e= .returned (.tuple #[.slice (some ⟨g,0,none⟩) L L,.int .i64 0])∧
  w'.heap[g]?=some (.cells (qM (packed l)).toArray 5 (0,0))∧Below w.heap.size w w'
theorem bN (p:Option Addr) (n cap:Nat) (f:Nat→Nat) (w:World) (h:qZ w p n f) (hn:n≤4096) (hcap:n≤cap) (hf:∀i,i<n→f i<18446744073709551616):
  Calls Tryz.prog 126 #[.slice p n cap] w (zX (plB 64 f n) w):=by
 have H:=qA h
 have HF:=qA hf
 obtain ⟨g,hg⟩:∃g,g=w.heap.size:=⟨_,rfl⟩
 obtain ⟨W1,hW1⟩:∃W1,W1=w.alloc (.cells zW 98):=⟨_,rfl⟩
 have HM:Hid (Wr W1 (g+1) g 0 [] 0∧g+1≤W1.heap.size∧Below w.heap.size w W1∧qZ W1 p n f):=by
  have B1:Below w.heap.size w W1:=by rw [hW1];exact (Below.refl _ w).alloc (Nat.le_refl _) _
  refine ⟨?_,by rw [hW1,hg];simp,B1,h.below B1⟩
  rw [hg,hW1];exact gO (heap_alloc_new w _)
 have HP:Hid (∀a,p=some a→0<n→a.block<g):=fun a ha h0=>by
  obtain ⟨b,o,hp,hc⟩:=H.out h0
  rw [hp] at ha
  simp only [Option.some.injEq] at ha
  rw [←ha,hg]
  exact block_lt_of_cell (hc 0 h0)
 have HG:=qA hg
 clear h hf
 go_enter Tryz.func126,Tryz.ntmps126
 go_upto_region 1 with fail
 refine wp_region_list ?_
 refine wpList_build rfl 98 #[] rfl (by kernel_rfl) ?_
 simp only [Array.map_empty]
 rw [zI]
 refine Go.Great.wpList_boxTo rfl 98 (.tmp 7) rfl (some 8) rfl g hg.symm zW rfl ?_
 rw [←hW1]
 clear hW1 hg
 go_wp2_with fail
 go_loopw [11] (fun t11 wr=>∃k:Nat,t11= .int .i64 (k:Int)∧Hid (k≤n∧Wr wr (g+1) g 0 (plB 64 f k) 0∧qJ g 0 123 W1 wr)) (fun t11 _=>n-(intOf t11).toNat)
 case atStart=>exact ⟨0,rfl,Nat.zero_le _,HM.out.1,qJ.refl _ _ _ _⟩
 case round=>
  obtain ⟨k,rfl,hI⟩:=hrel
  by_cases hlt:k<n
  ·obtain ⟨rb0,ro,rfl,hc⟩:=HM.out.2.2.2 (by omega)
   have hrb:rb0<g:=HP.out _ rfl (by omega)
   obtain ⟨v,hv⟩:∃v,f k=v:=⟨_,rfl⟩
   have hs1:=HM.out.2.1
   have c1:wr.cell? ⟨rb0,ro+k,none⟩=some (.int .u64 (v:Int)):=by
    rw [World.cell?_of_block (w:=W1) (hI.out.2.2.block rb0 (by omega) (by omega)),←hv]
    exact hc k hlt
   have hvM:v<18446744073709551616:=by rw [←hv];exact HF.out k hlt
   have HV:=qA hv
   clear hv hc hs1
   go_wp2_with fail
   refine (kV g 0 (g+1) v wr _ hI.out.2.1 (by omega) (Nat.le_trans HM.out.2.1 hI.out.2.2.size) (by rw [xK];omega) hvM).mono ?_
   rintro e w3 ⟨rfl,W3,O3⟩
   go_wp2_with fail
   go_roundw
   case rel=>
    refine ⟨k+1,by simp,hlt,?_,hI.out.2.2.trans O3⟩
    rw [plB,HV.out];exact W3
   case measure=>simp [intOf];omega
  ·have hk:k=n:=by have:=hI.out.1;omega
   go_wp2_with fail
   refine (qW g 0 (g+1) wr _ hI.out.2.1 (Nat.le_trans HM.out.2.1 hI.out.2.2.size) (by rw [xK];omega) _ rfl).mono ?_
   rintro e w3 ⟨rfl,G3,B3⟩
   go_wp2_with fail
   go_ret2
   have e3:=HM.out.2.2.1
   have e4:=HG.out
   have e5:=hI.out.2.2.below (B:=w.heap.size) (by omega) (by have:=e3.size;omega)
   refine ⟨wr.heap.size,((plB 64 f n).length+7)/8,(packed_length _).symm,?_,rfl,(by first|exact G3|(rw [hk] at G3;exact G3)),?_⟩
   ·have:=e5.size;have:=e3.size;omega
   ·exact (e3.trans e5).trans (B3.mono (by have:=e5.size;have:=e3.size;omega))
end Go.Proofs.YtkpmalfigmimaaaGreatDoor
namespace Go.Proofs.YtkpmalfigmimaaaGreatDoor
open Go.RowKit
open M
theorem xB {w w':World} {g a b:Nat} (hB:Below w.heap.size w w') (hg:g<w.heap.size):qJ g a b w w':=
 ⟨hB.os,hB.tape,hB.output,hB.size,fun k hk _=>hB.block k hk,fun j _=>hB.cell (p:=⟨g,j,none⟩) hg,fun j=>hB.frozen (p:=⟨g,j,none⟩) hg⟩
theorem pF (p:Nat) (q:Option Addr) (n cap:Nat) (f:Nat→Nat) (lo g:Nat) (L:List Bool) (w:World) (h:qZ w q n f) (HQ:Hid (∀b o,q=some ⟨b,o,none⟩→0<n→b≠g)) (hn:n≤4096) (hcap:n≤cap) (hf:∀i,i<n→f i<18446744073709551616)
  (hW:Wr w lo g 0 L 0) (hg:g<lo) (hlo:lo≤w.heap.size) (hlen:L.length≤100000000):
  Calls Tryz.prog 166 #[.pointer (some ⟨g,0,none⟩),vM p,.slice q n cap] w fun e w'=>e= .returned (.tuple #[])∧Wr w' lo g 0 (L++(varB (F64.cnt p f 0 n)++F64.nt 64 p f 0 n 0)) 0∧qJ g 0 123 w w':=by
 have HNO:=qA (fun (w1:World) (h1:qZ w1 q n f)=>vV p q n cap f w1 h1 hn hcap hf)
 have H:=qA h
 have HF:=qA hf
 have HWO:=qA (fun (v:Nat) (w:World) (hv:v<18446744073709551616)=>yZ p v w hv)
 have HWR:=qA hW
 have HLL:=qA hlen
 obtain ⟨g0,hg0⟩:∃g0,w.heap.size=g0:=⟨_,rfl⟩
 have hgg:g<g0:=by omega
 obtain ⟨W1,hW1⟩:∃W1,W1=w.alloc (.cells #[.int .i64 (p:Int),.int .u64 (F64.pow p:Int)] 194):=⟨_,rfl⟩
 have HW1:Hid (Below g0 w W1∧gQ W1 g0 p∧Wr W1 lo g 0 L 0∧qJ g 0 123 w W1):=by
  have hB:Below w.heap.size w W1:=by rw [hW1];exact (Below.refl _ w).alloc (Nat.le_refl _) _
  refine ⟨by rw [←hg0];exact hB,⟨by rw [hW1,←hg0];exact heap_alloc_new w _⟩,hW.below hB,xB hB (by omega)⟩
 have HG0:=qA hg0
 have HROW:Hid (∀wr,qJ g 0 123 W1 wr→∀k,k<n→∃b o,q=some ⟨b,o,none⟩∧wr.cell? ⟨b,o+k,none⟩=some (.int .u64 (f k:Int))):=fun wr hO k hk=>by
  obtain ⟨b,o,hp,hc⟩:=H.out (by omega)
  have hb:b<g0:=by rw [←hg0];exact block_lt_of_cell (hc k hk)
  have hb2:=HQ.out b o hp (by omega)
  have hs:g0<W1.heap.size:=HW1.out.2.1.lt
  exact ⟨b,o,hp,by rw [World.cell?_of_block (w:=W1) (hO.block b (by omega) hb2),HW1.out.1.cell (p:=⟨b,o+k,none⟩) hb];exact hc k hk⟩
 have HSC:Hid (∀wr,qJ g 0 123 W1 wr→gQ wr g0 p):=fun wr hO=>⟨by rw [hO.block g0 HW1.out.2.1.lt (by omega)];exact HW1.out.2.1.row⟩
 clear h hf hW hlen
 unfold vM at*
 go_enter Tryz.func166,Tryz.ntmps166
 go_upto_region 1 with fail
 (try rw [hg0])
 (try rw [←hW1])
 clear hW1 hg0
 have c0:=HW1.out.2.1.c0
 have c1:=HW1.out.2.1.c1
 have HU:Hid (qZ W1 q n f):=fun h0=>by
  obtain ⟨b,o,hp,hc⟩:=H.out h0
  exact ⟨b,o,hp,fun i hi=>by
   obtain ⟨b',o',hp',hc'⟩:=HROW.out W1 (qJ.refl _ _ _ _) i hi
   rw [hp] at hp'
   simp only [Option.some.injEq,Addr.mk.injEq] at hp'
   obtain ⟨rfl,rfl,_⟩:=hp'
   exact hc'⟩
 obtain ⟨C,hC⟩:∃C,F64.cnt p f 0 n=C:=⟨_,rfl⟩
 have hCn:C≤n:=by rw [←hC];exact F64.cnt_le p f 0 n
 have HN:=qA (HNO.out W1 HU.out)
 rw [hC] at HN
 have HCC:=qA hC
 obtain ⟨P,hP⟩:∃P,F64.pow p=P:=⟨_,rfl⟩
 rw [hP] at c1 HN⊢
 have HP:=qA hP
 clear hP
 have r0:IntKind.u64.wrap (C:Int)=(C:Int):=by rw [IntKind.wrap_u64];omega
 clear hC
 go_wp2_with fail
 refine HN.out.mono ?_
 rintro e w2 ⟨rfl,B2⟩
 have H2:Hid (Wr w2 lo g 0 L 0∧qJ g 0 123 W1 w2):=⟨HW1.out.2.2.1.below B2,xB B2 (by have:=HW1.out.2.1.lt;omega)⟩
 clear B2 c0 c1
 go_wp2_with fail
 refine (uA g 0 lo C w2 L H2.out.1 hg (by have:=H2.out.2.size;have:=HW1.out.2.2.2.size;omega) (by have:=HLL.out;omega) (by omega)).mono ?_
 rintro e w3 ⟨rfl,W3,O3⟩
 have H3:Hid (Wr w3 lo g 0 (L++varB C) 0∧qJ g 0 123 W1 w3):=⟨W3,H2.out.2.trans O3⟩
 clear W3 O3
 go_wp2_with fail
 go_loopw [6,19] (fun t6 t19 wr=>∃(k c:Nat) (l:List Bool),t19= .int .i64 (k:Int)∧t6= .int .u64 (c:Int)∧Hid (k≤n∧c≤k∧l++F64.nt 64 p f k (n-k) c=F64.nt 64 p f 0 n 0∧Wr wr lo g 0 (L++varB C++l) 0∧qJ g 0 123 W1 wr)) (fun _ t19 _=>n-(intOf t19).toNat)
 case atStart=>exact ⟨0,0,[],rfl,rfl,Nat.zero_le _,Nat.le_refl _,by simp,by simpa using H3.out.1,H3.out.2⟩
 case round=>
  obtain ⟨k,c,l,rfl,rfl,hI⟩:=hrel
  by_cases hlt:k<n
  ·obtain ⟨b,o,rfl,c1⟩:=HROW.out wr hI.out.2.2.2.2 k hlt
   obtain ⟨x,hx⟩:∃x,f k=x:=⟨_,rfl⟩
   have hxM:x<18446744073709551616:=by rw [←hx];exact HF.out k hlt
   rw [hx] at c1
   have hS:=HSC.out wr hI.out.2.2.2.2
   have d0:=hS.c0
   have d1:=hS.c1
   have hck:c≤4096:=by have:=hI.out.2.1;omega
   have HWX:=qA (HWO.out x wr hxM)
   have hNT:=hI.out.2.2.1
   rw [show n-k=(n-(k+1))+1 from by omega,Dm.nt,hx] at hNT
   have HNT:=qA hNT
   have HLB:Hid ((L++varB C++l).length≤101000000):=by
    have h1:=congrArg List.length hI.out.2.2.1
    rw [List.length_append] at h1
    have h2:=F64.nt_len 64 p (by omega) f 0 n 0 jV
    have h3:=jV C
    have h4:=HLL.out
    show _≤_
    rw [List.length_append,List.length_append]
    omega
   have HI:=qA (And.intro hI.out.2.2.2.1 hI.out.2.2.2.2)
   have HIC:=qA hI.out.2.1
   have HS2:Hid (lo≤wr.heap.size∧g<wr.heap.size):=by have:=HI.out.2.size;have:=HW1.out.2.2.2.size;exact ⟨by omega,by omega⟩
   rw [HP.out] at d1 HWX
   generalize F64.wh p x=oo at*
   clear hx hS hI hNT
   go_wp2_with fail
   refine HWX.out.mono ?_
   rintro e w4 ⟨rfl,B4⟩
   have H4:Hid (Wr w4 lo g 0 (L++varB C++l) 0∧qJ g 0 123 W1 w4∧lo≤w4.heap.size):=⟨HI.out.1.below B4,HI.out.2.trans (xB B4 HS2.out.2),by have:=B4.size;have:=HS2.out.1;omega⟩
   clear B4
   cases oo with
   |some z=>
    simp only [nwV]
    go_wp2_with fail
    go_roundw
    case rel=>exact ⟨k+1,c+1,l,by simp,by simp,hlt,by have:=HIC.out;omega,HNT.out,H4.out.1,H4.out.2.1⟩
    case measure=>simp [intOf];omega
   |none=>
    simp only [nwV]
    go_wp2_with fail
    refine (uA g 0 lo c w4 _ H4.out.1 hg H4.out.2.2 (by have:=HLB.out;omega) (by omega)).mono ?_
    rintro e w5 ⟨rfl,W5,O5⟩
    have H5:Hid (Wr w5 lo g 0 (L++varB C++l++varB c) 0∧qJ g 0 123 W1 w5∧lo≤w5.heap.size):=⟨W5,H4.out.2.1.trans O5,by have:=O5.size;have:=H4.out.2.2;omega⟩
    clear W5 O5
    go_wp2_with fail
    refine (kV g 0 lo x w5 _ H5.out.1 hg H5.out.2.2 (by have:=HLB.out;have:=jV c;rw [List.length_append];omega) hxM).mono ?_
    rintro e w6 ⟨rfl,W6,O6⟩
    have H6:Hid (Wr w6 lo g 0 (L++varB C++l++varB c++bitsOf x 64) 0∧qJ g 0 123 W1 w6):=⟨W6,H5.out.2.1.trans O6⟩
    clear W6 O6
    go_wp2_with fail
    go_roundw
    case rel=>
     refine ⟨k+1,0,l++varB c++bitsOf x 64,by simp,by simp,hlt,by omega,?_,?_,H6.out.2⟩
     ·rw [←HNT.out];simp
     ·have:=H6.out.1
      simpa only [List.append_assoc] using this
    case measure=>simp [intOf];omega
  ·have hk:k=n:=by have:=hI.out.1;omega
   subst hk
   have hl:l=F64.nt 64 p f 0 k 0:=by have:=hI.out.2.2.1;rw [Nat.sub_self,Dm.nt,List.append_nil] at this;exact this
   have HE:=qA hl
   clear hl
   go_wp2_with fail
   go_end0
   refine ⟨rfl,?_,HW1.out.2.2.2.trans hI.out.2.2.2.2⟩
   have:=hI.out.2.2.2.1
   rw [HE.out] at this
   rw [HCC.out]
   simpa only [List.append_assoc] using this
theorem bH (p:Nat) (q:Option Addr) (n cap:Nat) (f:Nat→Nat) (lo g:Nat) (L:List Bool) (w:World) (h:qZ w q n f) (HQ:Hid (∀b o,q=some ⟨b,o,none⟩→0<n→b≠g)) (hn:n≤4096) (hcap:n≤cap) (hf:∀i,i<n→f i<18446744073709551616)
  (hW:Wr w lo g 0 L 0) (hg:g<lo) (hlo:lo≤w.heap.size) (hlen:L.length≤110000000):
  Calls Tryz.prog 167 #[.pointer (some ⟨g,0,none⟩),vM p,.slice q n cap] w fun e w'=>e= .returned (.tuple #[])∧Wr w' lo g 0 (L++F64.wb p f 0 n 0) 0∧qJ g 0 123 w w':=by
 have H:=qA h
 have HF:=qA hf
 have HWO:=qA (fun (v:Nat) (w:World) (hv:v<18446744073709551616)=>yZ p v w hv)
 have HWR:=qA hW
 have HLL:=qA hlen
 obtain ⟨g0,hg0⟩:∃g0,w.heap.size=g0:=⟨_,rfl⟩
 have hgg:g<g0:=by omega
 obtain ⟨W1,hW1⟩:∃W1,W1=w.alloc (.cells #[.int .i64 (p:Int),.int .u64 (F64.pow p:Int)] 194):=⟨_,rfl⟩
 have HW1:Hid (Below g0 w W1∧gQ W1 g0 p∧Wr W1 lo g 0 L 0∧qJ g 0 123 w W1):=by
  have hB:Below w.heap.size w W1:=by rw [hW1];exact (Below.refl _ w).alloc (Nat.le_refl _) _
  refine ⟨by rw [←hg0];exact hB,⟨by rw [hW1,←hg0];exact heap_alloc_new w _⟩,hW.below hB,xB hB (by omega)⟩
 have HG0:=qA hg0
 have HROW:Hid (∀wr,qJ g 0 123 W1 wr→∀k,k<n→∃b o,q=some ⟨b,o,none⟩∧wr.cell? ⟨b,o+k,none⟩=some (.int .u64 (f k:Int))):=fun wr hO k hk=>by
  obtain ⟨b,o,hp,hc⟩:=H.out (by omega)
  have hb:b<g0:=by rw [←hg0];exact block_lt_of_cell (hc k hk)
  have hb2:=HQ.out b o hp (by omega)
  have hs:g0<W1.heap.size:=HW1.out.2.1.lt
  exact ⟨b,o,hp,by rw [World.cell?_of_block (w:=W1) (hO.block b (by omega) hb2),HW1.out.1.cell (p:=⟨b,o+k,none⟩) hb];exact hc k hk⟩
 have HSC:Hid (∀wr,qJ g 0 123 W1 wr→gQ wr g0 p):=fun wr hO=>⟨by rw [hO.block g0 HW1.out.2.1.lt (by omega)];exact HW1.out.2.1.row⟩
 clear h hf hW hlen
 unfold vM at*
 go_enter Tryz.func167,Tryz.ntmps167
 go_upto_region 1 with fail
 (try rw [hg0])
 (try rw [←hW1])
 clear hW1 hg0
 go_wp2_with fail
 go_loopw [6,13] (fun t6 t13 wr=>∃(k:Nat) (a:Int) (l:List Bool),t13= .int .i64 (k:Int)∧t6= .int .i64 a∧Hid (k≤n∧(-999999999999999≤a∧a≤999999999999999)∧l++F64.wb p f k (n-k) a=F64.wb p f 0 n 0∧Wr wr lo g 0 (L++l) 0∧qJ g 0 123 W1 wr)) (fun _ t13 _=>n-(intOf t13).toNat)
 case atStart=>exact ⟨0,0,[],rfl,rfl,Nat.zero_le _,by omega,by simp,by simpa using HW1.out.2.2.1,qJ.refl _ _ _ _⟩
 case round=>
  obtain ⟨k,a,l,rfl,rfl,hI⟩:=hrel
  by_cases hlt:k<n
  ·obtain ⟨b,o,rfl,c1⟩:=HROW.out wr hI.out.2.2.2.2 k hlt
   obtain ⟨x,hx⟩:∃x,f k=x:=⟨_,rfl⟩
   have hxM:x<18446744073709551616:=by rw [←hx];exact HF.out k hlt
   rw [hx] at c1
   have hS:=HSC.out wr hI.out.2.2.2.2
   have d0:=hS.c0
   have d1:=hS.c1
   have HWX:=qA (HWO.out x wr hxM)
   have hNT:=hI.out.2.2.1
   rw [show n-k=(n-(k+1))+1 from by omega,Dm.wb,hx] at hNT
   have HNT:=qA hNT
   have HLB:Hid ((L++l).length≤111000000):=by
    have h1:=congrArg List.length hI.out.2.2.1
    rw [List.length_append] at h1
    have h2:=F64.wb_len p f 0 n 0 jV
    have h4:=HLL.out
    show _≤_
    rw [List.length_append]
    omega
   have HI:=qA (And.intro hI.out.2.2.2.1 hI.out.2.2.2.2)
   have HIA:=qA hI.out.2.1
   have HS2:Hid (lo≤wr.heap.size∧g<wr.heap.size):=by have:=HI.out.2.size;have:=HW1.out.2.2.2.size;exact ⟨by omega,by omega⟩
   have HKR:Hid (∀z,F64.wh p x=some z→-999999999999999≤z∧z≤999999999999999):=fun z hz=>(F64.wh_val hz).2
   generalize F64.pow p=P at*
   generalize F64.wh p x=oo at*
   clear hx hS hI hNT
   go_wp2_with fail
   refine HWX.out.mono ?_
   rintro e w4 ⟨rfl,B4⟩
   have H4:Hid (Wr w4 lo g 0 (L++l) 0∧qJ g 0 123 W1 w4∧lo≤w4.heap.size):=⟨HI.out.1.below B4,HI.out.2.trans (xB B4 HS2.out.2),by have:=B4.size;have:=HS2.out.1;omega⟩
   clear B4
   cases oo with
   |none=>
    simp only [nwV]
    go_wp2_with fail
    go_roundw
    case rel=>exact ⟨k+1,a,l,by simp,by simp,hlt,HIA.out,HNT.out,H4.out.1,H4.out.2.1⟩
    case measure=>simp [intOf];omega
   |some z=>
    simp only [nwV]
    have hz:=HKR.out z rfl
    have ha:=HIA.out
    have r1:IntKind.i64.wrap (z-a)=z-a:=by rw [IntKind.wrap_i64];omega
    have r2:wrap64 (z-a)=z-a:=by unfold wrap64;omega
    have hza: -9223372036854775808≤z-a∧z-a≤9223372036854775807:=by omega
    have HZ:=qA hz
    have HZA:=qA hza
    clear ha hz hza
    go_wp2_with fail
    refine (mX g 0 lo (z-a) w4 _ H4.out.1 hg H4.out.2.2 (by have:=HLB.out;omega) HZA.out.1 HZA.out.2).mono ?_
    rintro e w5 ⟨rfl,W5,O5⟩
    have H5:Hid (Wr w5 lo g 0 (L++l++varB (zig (z-a))) 0∧qJ g 0 123 W1 w5):=⟨W5,H4.out.2.1.trans O5⟩
    clear W5 O5
    go_wp2_with fail
    go_roundw
    case rel=>
     refine ⟨k+1,z,l++varB (zig (z-a)),by simp,by simp,hlt,HZ.out,?_,?_,H5.out.2⟩
     ·rw [←HNT.out];simp
     ·have:=H5.out.1
      simpa only [List.append_assoc] using this
    case measure=>simp [intOf];omega
  ·have hk:k=n:=by have:=hI.out.1;omega
   subst hk
   have hl:l=F64.wb p f 0 k 0:=by have:=hI.out.2.2.1;rw [Nat.sub_self,Dm.wb,List.append_nil] at this;exact this
   have HE:=qA hl
   clear hl
   go_wp2_with fail
   go_end0
   refine ⟨rfl,?_,HW1.out.2.2.2.trans hI.out.2.2.2.2⟩
   have:=hI.out.2.2.2.1
   rw [HE.out] at this
   exact this
end Go.Proofs.YtkpmalfigmimaaaGreatDoor
namespace Go.Proofs.YtkpmalfigmimaaaGreatDoor
open Go.RowKit
open M
theorem qH2 (f:Nat→Nat) (n:Nat):(F64.dm 64 f n).length≤85+224*n:=by
 unfold Dm.dm
 have h1:=jV (F64.cnt (F64.bs f n F64.mostP).1 f 0 n)
 have h2:=F64.nt_len 64 (F64.bs f n F64.mostP).1 (by omega) f 0 n 0 jV
 have h3:=F64.wb_len (F64.bs f n F64.mostP).1 f 0 n 0 jV
 simp only [List.length_append,bitsOf_length]
 omega
theorem pH (q:Option Addr) (n cap:Nat) (f:Nat→Nat) (w:World) (h:qZ w q n f) (hn:n≤4096) (hcap:n≤cap) (hf:∀i,i<n→f i<18446744073709551616):
  Calls Tryz.prog 131 #[.slice q n cap] w (zX (F64.dm 64 f n) w):=by
 have H:=qA h
 have HF:=qA hf
 have HBS:=qA (nV q n cap f w h hn hcap hf)
 obtain ⟨p,hp⟩:∃p,(F64.bs f n 22).1=p:=⟨_,rfl⟩
 have hp22:p≤22:=by rw [←hp];exact F64.bs_le f n 22
 rw [hp] at HBS
 have HDM:Hid (F64.dm 64 f n=bitsOf p 5++(varB (F64.cnt p f 0 n)++(F64.nt 64 p f 0 n 0++F64.wb p f 0 n 0))):=by
  show _=_
  unfold Dm.dm
  rw [show F64.mostP=22 from rfl,hp]
 have HLN:=qA (fun lo g L w1 h1 h2 h3 h4 h5 h6=>pF p q n cap f lo g L w1 h1 h2 hn hcap hf h3 h4 h5 h6)
 have HLW:=qA (fun lo g L w1 h1 h2 h3 h4 h5 h6=>bH p q n cap f lo g L w1 h1 h2 hn hcap hf h3 h4 h5 h6)
 clear hp h hf
 unfold vM at*
 obtain ⟨P,hP⟩:∃P,F64.pow p=P:=⟨_,rfl⟩
 rw [hP] at HBS HLN HLW
 clear hP
 go_enter Tryz.func131,Tryz.ntmps131
 go_wp2_with fail
 refine HBS.out.mono ?_
 rintro e w1 ⟨rfl,B1⟩
 obtain ⟨g4,hg4⟩:∃g4,w1.heap.size=g4:=⟨_,rfl⟩
 obtain ⟨W2,hW2⟩:∃W2,W2=w1.alloc (.cells #[.int .i64 (p:Int),.int .u64 (P:Int)] 194):=⟨_,rfl⟩
 have H2:Hid (Below w.heap.size w W2∧W2.heap[g4]?=some (.cells #[.int .i64 (p:Int),.int .u64 (P:Int)] 194 (0,0))∧W2.heap.size=g4+1):=by
  have hs:=B1.size
  refine ⟨B1.trans (by rw [hW2];exact (Below.refl _ w1).alloc (by omega) _),by rw [hW2,←hg4];exact heap_alloc_new w1 _,by rw [hW2,←hg4];simp⟩
 have HW4:Hid (w.heap.size≤g4):=by have:=B1.size;show w.heap.size≤g4;omega
 clear B1
 go_upto_region 2 with fail
 (try rw [hg4])
 (try rw [←hW2])
 clear hW2 hg4
 obtain ⟨g,hg⟩:∃g,g=W2.heap.size:=⟨_,rfl⟩
 obtain ⟨W3,hW3⟩:∃W3,W3=W2.alloc (.cells zW 98):=⟨_,rfl⟩
 have H3:Hid (Wr W3 (g+1) g 0 [] 0∧g+1≤W3.heap.size∧Below w.heap.size w W3∧W3.heap[g4]?=some (.cells #[.int .i64 (p:Int),.int .u64 (P:Int)] 194 (0,0))∧g4<g∧w.heap.size≤g):=by
  have B3:Below g W2 W3:=by rw [hW3,hg];exact (Below.refl _ W2).alloc (Nat.le_refl _) _
  have:=H2.out.2.2
  have:=HW4.out
  refine ⟨by rw [hg,hW3];exact gO (heap_alloc_new W2 _),by rw [hW3,hg];simp,H2.out.1.trans (B3.mono (by omega)),by rw [B3.block g4 (by omega)];exact H2.out.2.1,by omega,by omega⟩
 refine wp_region_list ?_
 refine wpList_build rfl 98 #[] rfl (by kernel_rfl) ?_
 simp only [Array.map_empty]
 rw [zI]
 refine Go.Great.wpList_boxTo rfl 98 (.tmp 8) rfl (some 9) rfl g hg.symm zW rfl ?_
 rw [←hW3]
 clear hW3 hg
 have c0:W3.cell? ⟨g4,0,none⟩=some (.int .i64 (p:Int)):=cell_of_row _ _ 0 _ _ _ H3.out.2.2.2.1
 have r0:IntKind.u64.wrap (p:Int)=(p:Int):=by rw [IntKind.wrap_u64];omega
 have HQ:Hid (∀b o,q=some ⟨b,o,none⟩→0<n→b≠g):=fun b o hq h0=>by
  obtain ⟨b',o',hp',hc⟩:=H.out h0
  rw [hq] at hp'
  simp only [Option.some.injEq,Addr.mk.injEq] at hp'
  have h3:b'<w.heap.size:=block_lt_of_cell (hc 0 h0)
  have:=H3.out.2.2.2.2.2
  omega
 have HRW:Hid (∀wr,qJ g 0 123 W3 wr→qZ wr q n f∧wr.heap[g4]?=some (.cells #[.int .i64 (p:Int),.int .u64 (P:Int)] 194 (0,0))∧g+1≤wr.heap.size):=fun wr hO=>by
  have h1:=H3.out
  refine ⟨fun h0=>?_,by rw [hO.block g4 (by omega) (by omega)];exact h1.2.2.2.1,by have:=hO.size;omega⟩
  obtain ⟨b,o,hp',hc⟩:=H.out h0
  have hb:b<w.heap.size:=block_lt_of_cell (hc 0 h0)
  exact ⟨b,o,hp',fun i hi=>by rw [World.cell?_of_block (w:=W3) (hO.block b (by omega) (by omega)),h1.2.2.1.cell (p:=⟨b,o+i,none⟩) hb];exact hc i hi⟩
 go_wp2_with fail
 refine (qK g 0 (g+1) 5 p W3 [] H3.out.1 (by omega) H3.out.2.1 (by simp) (by omega) (by omega) (by omega)).mono ?_
 rintro e w4 ⟨rfl,W4,O4⟩
 have H4:Hid (Wr w4 (g+1) g 0 (bitsOf p 5) 0∧qJ g 0 123 W3 w4):=⟨by simpa using W4,O4⟩
 clear W4 O4
 obtain ⟨h5a,h5b,h5c⟩:=HRW.out w4 H4.out.2
 have c1:w4.cell? ⟨g4,0,none⟩=some (.int .i64 (p:Int)):=cell_of_row _ _ 0 _ _ _ h5b
 have c2:w4.cell? ⟨g4,1,none⟩=some (.int .u64 (P:Int)):=cell_of_row _ _ 1 _ _ _ h5b
 have HN:=qA (HLN.out (g+1) g (bitsOf p 5) w4 h5a HQ H4.out.1 (by omega) h5c (by simp))
 clear h5a h5b h5c c0
 go_wp2_with fail
 refine HN.out.mono ?_
 rintro e w5 ⟨rfl,W5,O5⟩
 have H5:Hid (Wr w5 (g+1) g 0 (bitsOf p 5++(varB (F64.cnt p f 0 n)++F64.nt 64 p f 0 n 0)) 0∧qJ g 0 123 W3 w5):=⟨W5,H4.out.2.trans O5⟩
 clear W5 O5 c1 c2
 obtain ⟨h5a,h5b,h5c⟩:=HRW.out w5 H5.out.2
 have c1:w5.cell? ⟨g4,0,none⟩=some (.int .i64 (p:Int)):=cell_of_row _ _ 0 _ _ _ h5b
 have c2:w5.cell? ⟨g4,1,none⟩=some (.int .u64 (P:Int)):=cell_of_row _ _ 1 _ _ _ h5b
 have HN2:=qA (HLW.out (g+1) g _ w5 h5a HQ H5.out.1 (by omega) h5c (by
  have h1:=jV (F64.cnt p f 0 n)
  have h2:=F64.nt_len 64 p (by omega) f 0 n 0 jV
  simp only [List.length_append,bitsOf_length]
  omega))
 clear h5a h5b h5c
 go_wp2_with fail
 refine HN2.out.mono ?_
 rintro e w6 ⟨rfl,W6,O6⟩
 have H6:Hid (Wr w6 (g+1) g 0 (F64.dm 64 f n) 0∧qJ g 0 123 W3 w6∧g+1≤w6.heap.size):=by
  refine ⟨?_,H5.out.2.trans O6,(HRW.out w6 (H5.out.2.trans O6)).2.2⟩
  rw [HDM.out]
  simpa only [List.append_assoc] using W6
 clear W6 O6 c1 c2
 have HLB:Hid ((F64.dm 64 f n).length<1000000000000):=by have:=qH2 f n;show _<_;omega
 obtain ⟨l,hl⟩:∃l,F64.dm 64 f n=l:=⟨_,rfl⟩
 rw [hl] at H6 HLB
 have HLE:=qA hl
 clear hl
 go_wp2_with fail
 refine (qW g 0 (g+1) w6 _ H6.out.1 H6.out.2.2 HLB.out _ rfl).mono ?_
 rintro e w9 ⟨rfl,G9,B9⟩
 have HG9:=qA G9
 have HB9:=qA B9
 clear G9 B9
 go_wp2_with fail
 go_ret2
 have e3:=H3.out.2.2.1
 have e4:=H3.out.2.2.2.2.2
 have e5:=H6.out.2.1.below (B:=w.heap.size) (by omega) (by have:=e3.size;omega)
 rw [HLE.out]
 refine ⟨w6.heap.size,(l.length+7)/8,(packed_length _).symm,?_,rfl,HG9.out,?_⟩
 ·have:=e5.size;have:=e3.size;omega
 ·exact (e3.trans e5).trans (HB9.out.mono (by have:=e5.size;have:=e3.size;omega))
end Go.Proofs.YtkpmalfigmimaaaGreatDoor
