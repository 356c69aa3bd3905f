import Derived.Test.YtkpmalfigmimaaaGreatDoorZ0
import Derived.Test.YtkpmalfigmimaaaGreatDoorD3H
import Derived.Test.YtkpmalfigmimaaaGreatDoorFF
import Derived.Test.YtkpmalfigmimaaaGreatDoorP1B64
set_option linter.unusedVariables false
set_option linter.unusedSimpArgs false
set_option maxRecDepth 100000
set_option maxHeartbeats 8000000
namespace Go.Proofs.YtkpmalfigmimaaaGreatDoor
open Go.RowKit
open M
theorem qD0 {bs:List Nat} (h:∀x∈bs,x<256):∀x∈qO bs,x<256:=fun x hx=>by
 unfold qO at hx
 rcases List.mem_append.1 hx with h1|h1
 ·exact h x h1
 ·exact qFS _ x h1
theorem qJR (kd n:Nat) (t:Nat→Int) (v:Nat→Nat) (co:Nat) (vb:List Nat) (hv:∀x∈vb,x<256):∀x∈wL kd n t v co vb,x<256:=fun x hx=>by
 unfold wL at hx
 rcases List.mem_append.1 hx with h1|h1
 ·exact qD0 (by unfold pJ;exact jR _) x h1
 ·refine qD0 (fun y hy=>?_) x h1
  rcases List.mem_append.1 hy with h2|h2
  ·exact jR _ y h2
  ·exact hv y h2
theorem qE3 {w:World} {b o n c k:Nat} {bs:List Nat} (h:jQ w (.slice (some ⟨b,o,none⟩) n c) bs) (hn:bs.length=n) (hk:k≤n):jQ w (.slice (some ⟨b,o,none⟩) k c) (bs.take k):=by
 refine .inl (.inr ⟨b,o,c,by rw [List.length_take,hn,Nat.min_eq_left hk],fun i hi=>?_⟩)
 have hik:i<k:=by rw [List.length_take] at hi;omega
 obtain ⟨p,cap,e,hc⟩:=wQ h
 obtain ⟨b',o',e2,h2⟩:=hc i (by omega)
 simp only [Value.slice.injEq] at e
 have e3:=e.1.trans e2
 simp only [Option.some.injEq,Addr.mk.injEq,and_true] at e3
 obtain ⟨rfl,rfl⟩:=e3
 rw [h2]
 simp [List.getD,List.getElem?_take,hik]
theorem qJS {w:World} {p:Option Addr} {n c:Nat} {bs:List Nat} (h:jQ w (.slice p n c) bs) (hn:bs.length=n) (i:Nat) (hi:i<n):∃b o,p=some ⟨b,o,none⟩∧w.cell? ⟨b,o+i,none⟩=some (.int .u8 ((bs.getD i 0:Nat):Int)):=by
 obtain ⟨p',cap,e,hc⟩:=wQ h
 obtain ⟨b',o',e2,h2⟩:=hc i (by omega)
 simp only [Value.slice.injEq] at e
 exact ⟨b',o',e.1.trans e2,h2⟩
theorem rT (K:Int) (p:Option Addr) (N cap:Nat) (t0:Nat→Int) (v0:Nat→Nat) (pa:Option Addr) (na ca:Nat) (a:Nat→Int) (pb:Option Addr) (nb cb:Nat) (bs:List Nat) (w:World)
  (h:uC w p N t0 v0) (hN:N≤9223372036854775807) (ht:∀i,i<N→I64 (t0 i)) (hf:∀i,i<N→v0 i<18446744073709551616)
  (hA:dG w pa na a) (hna:na≤9223372036854775807) (haI:∀i,i<na→I64 (a i)) (hB:jQ w (.slice pb nb cb) bs) (hbl:bs.length=nb) (hb:∀x∈bs,x<256) (hnb:nb≤9223372036854775807) (hcb:nb≤cb) (hT:qT w) (hC:pB w):
  Calls Tryz.prog 4 #[.agg #[.int .i64 K,.slice p N cap,.slice pa na ca,.slice pb nb cb]] w fun e w'=>e= .returned (.bool true)∧Below w.heap.size w w':=by
 obtain ⟨kd,hkd⟩:∃kd,kd=2∧K.tmod 2=0∨kd=1∧K.tmod 2≠0:=by
  by_cases e:K.tmod 2=0
  ·exact ⟨2,.inl ⟨rfl,e⟩⟩
  ·exact ⟨1,.inr ⟨rfl,e⟩⟩
 obtain ⟨g,hg⟩:∃g,w.heap.size=g:=⟨_,rfl⟩
 obtain ⟨W1,hW1⟩:∃W1,w.alloc (.cells #[.int .i64 K,.slice p N cap,.slice pa na ca,.slice pb nb cb] 52)=W1:=⟨_,rfl⟩
 have HW1:Hid (W1.heap[g]?=some (.cells #[.int .i64 K,.slice p N cap,.slice pa na ca,.slice pb nb cb] 52 (0,0))∧Below w.heap.size w W1):=by
  have hA:Below w.heap.size w W1:=by rw [←hW1];exact (Below.refl _ _).alloc (Nat.le_refl _) _
  exact ⟨by rw [←hW1,←hg];exact heap_alloc_new _ _,hA⟩
 have HM:=qA (qHZ K kd p N cap t0 v0 W1 (h.below HW1.out.2) hN ht hf hkd)
 have HKD:Hid (kd=1∨kd=2):=by rcases hkd with h|h;exact .inr h.1;exact .inl h.1
 have HIn:=qA (fun (w1:World) (hB1:Below w.heap.size w w1)=>(And.intro (dG.below hA hB1) (qD hB hB1):dG w1 pa na a∧jQ w1 (.slice pb nb cb) bs))
 have HAI:=qA haI
 have HBB:=qA (And.intro hbl hb)
 have HT:=qA hT
 have HC:=qA hC
 clear h ht hf hA haI hB hbl hb hT hC hkd
 have o0:W1.cell? ⟨g,0,none⟩=some (.int .i64 K):=by rw [cell_of_row _ _ _ _ _ _ HW1.out.1];rfl
 have o1:W1.cell? ⟨g,1,none⟩=some (.slice p N cap):=by rw [cell_of_row _ _ _ _ _ _ HW1.out.1];rfl
 go_enter Tryz.func4,Tryz.ntmps4
 go_wp2_with fail
 (try rw [hW1])
 (try rw [hg])
 clear hW1 hg
 refine HM.out.mono ?_
 rintro e w2 ⟨n,t,v,u,rfl,hn3,hfine,hop⟩
 obtain ⟨q,c,rfl⟩:=hop.slice
 have HB2:Hid (Below w.heap.size w w2):=HW1.out.2.trans (hop.bel.mono HW1.out.2.size)
 have HR2:Hid (w2.heap[g]?=some (.cells #[.int .i64 K,.slice p N cap,.slice pa na ca,.slice pb nb cb] 52 (0,0))):=by
  show _=_
  rw [hop.bel.block g (qB HW1.out.1)];exact HW1.out.1
 have HT2:=qA (And.intro (HT.out.below HB2.out) (HC.out.below HB2.out))
 clear HM HW1 o0 o1
 rcases n with _|m
 ·have HWK:=qA (rI w2 HT2.out.1 HT2.out.2)
  clear hop hfine hn3
  go_wp2_with fail
  refine HWK.out.mono ?_
  rintro e w3 ⟨rfl,B3⟩
  have HF:=qA (HB2.out.trans (B3.mono HB2.out.size))
  clear B3
  go_wp2_with fail
  go_ret
  exact ⟨rfl,HF.out⟩
 ·have hG:qDF (kd:Int) (m+1) t v:=⟨by rcases HKD.out with h|h<;>omega,by omega,by omega,hfine.up,fun e=>hfine.nar (by omega)⟩
  have HE:=qA (bB kd q m c t v w2 hop.row hG hfine.ti hfine.va HT2.out.1 HT2.out.2)
  have HGF:=qA (And.intro hG hfine)
  clear hop hfine hG
  go_wp2_with fail
  refine HE.out.mono ?_
  rintro e w3 ⟨co,vb,gb,rfl,hrow,hval,hvb,B3⟩
  have hok:tQ kd m t v co vb:=⟨HGF.out.1,HGF.out.2.ti,HGF.out.2.va,hval,hvb⟩
  have hbd:=hok.bound
  have HB3:Hid (Below w.heap.size w w3):=HB2.out.trans (B3.mono HB2.out.size)
  have HR3:Hid (w3.heap[g]?=some (.cells #[.int .i64 K,.slice p N cap,.slice pa na ca,.slice pb nb cb] 52 (0,0))):=by
   show _=_
   rw [B3.block g (qB HR2.out)];exact HR2.out
  have h256:∀x∈wL kd (m+1) t v co vb,x<256:=qJR kd (m+1) t v co vb hvb
  have hce:=lR hrow
  have HCut:=qA (fun (j:Nat) (w1:World)=>qDW hok gb 0 j w1)
  have HMore:=qA (fun (g1 n1 c1:Nat) (w1:World)=>qBE hok g1 0 n1 c1 w1)
  have HHurt:=qA (fun (g1 c1 j y:Nat) (w1:World) hc=>qBD hok g1 0 _ c1 j y w1 hc rfl)
  obtain ⟨BK,hBK⟩:∃BK,wL kd (m+1) t v co vb=BK:=⟨_,rfl⟩
  rw [hBK] at HCut HMore HHurt hce h256 hbd⊢
  obtain ⟨L,hL⟩:∃L,BK.length=L:=⟨_,rfl⟩
  rw [hL] at hbd HCut HMore HHurt⊢
  have HBK:=qA (And.intro hL h256)
  have HCE:=qA hce
  have hL1:55≤L:=hbd.1
  have hL2:L≤1000000:=hbd.2
  have HT3:=qA (And.intro (HT2.out.1.below B3) (HT2.out.2.below B3))
  clear hok hrow hval hvb B3 HE hBK hL h256 hce hbd HGF HB2 HR2 HT2
  have hL0:((L:Int)==0)=false:=by rw [beq_eq_false_iff_ne];omega
  go_upto_block 0 with (first|(go_at_call 13;refine (gB _ _).mono ?_;rintro e wn ⟨rfl,hwn⟩;have hwn:=hwn.symm;subst hwn))
  go_cut [7] from 43 (fun t7 wc=>∃i7:Nat,t7= .int .i64 (i7:Int)∧Hid (Below w3.heap.size w3 wc))
  case rest=>
   obtain ⟨i7,rfl,HB4⟩:=hcut
   have HWK:=qA (rI wc (HT3.out.1.below HB4.out) (HT3.out.2.below HB4.out))
   go_wp2_with fail
   refine HWK.out.mono ?_
   rintro e w4 ⟨rfl,B4⟩
   have HF:Hid (Below w.heap.size w w4):=(HB3.out.trans (HB4.out.mono HB3.out.size)).trans (B4.mono (HB3.out.trans (HB4.out.mono HB3.out.size)).size)
   clear B4
   go_wp2_with fail
   go_ret
   exact ⟨rfl,HF.out⟩
  case first=>
   go_wp2_with fail
   go_loopw [7] (fun t7 wr=>∃i:Nat,t7= .int .i64 (i:Int)∧Hid (i≤60∧Below w3.heap.size w3 wr)) (fun t7 _=>60-(intOf t7).toNat)
   case atStart=>exact ⟨0,rfl,Nat.zero_le _,Below.refl _ _⟩
   case round=>
    obtain ⟨i,rfl,hI⟩:=hrel
    have HBr:=qA hI.out.2
    have HBR:Hid (∀w1,Below w3.heap.size w3 w1→w1.cell? ⟨g,2,none⟩=some (.slice pa na ca)∧w1.cell? ⟨g,3,none⟩=some (.slice pb nb cb)):=fun w1 hB1=>by
     have h1:w1.heap[g]?=some (.cells #[.int .i64 K,.slice p N cap,.slice pa na ca,.slice pb nb cb] 52 (0,0)):=by rw [hB1.block g (qB HR3.out)];exact HR3.out
     exact ⟨by rw [cell_of_row _ _ _ _ _ _ h1];rfl,by rw [cell_of_row _ _ _ _ _ _ h1];rfl⟩
    have a2:=(HBR.out wr HBr.out).1
    have a3:=(HBR.out wr HBr.out).2
    by_cases hx1:i<na
    ·by_cases hx2:i<nb
     ·by_cases hx3:i<60
      ·obtain ⟨ba,oa,rfl,hca⟩:=(HIn.out w3 HB3.out).1 (by omega)
       obtain ⟨bb,ob,rfl,hcb5⟩:=qJS (HIn.out w3 HB3.out).2 HBB.out.1 i hx2
       obtain ⟨x,hx⟩:∃x,bs.getD i 0=x:=⟨_,rfl⟩
       obtain ⟨ai,hai⟩:∃z,a i=z:=⟨_,rfl⟩
       have hca2:=hca i hx1
       rw [hai] at hca2
       rw [hx] at hcb5
       have hx256:x<256:=by rw [←hx];exact qBH HBB.out.2 i (by rw [HBB.out.1];exact hx2)
       have HFA:Hid (∀w1,Below w3.heap.size w3 w1→w1.cell? ⟨ba,oa+i,none⟩=some (.int .i64 ai)∧w1.cell? ⟨bb,ob+i,none⟩=some (.int .u8 (x:Int))):=fun w1 hB1=>
        ⟨by rw [hB1.cell (p:=⟨ba,oa+i,none⟩) (block_lt_of_cell hca2)];exact hca2,by rw [hB1.cell (p:=⟨bb,ob+i,none⟩) (block_lt_of_cell hcb5)];exact hcb5⟩
       have HCP:=qA (qCM (.slice (some ⟨gb,0,none⟩) L L) BK wr (by have:=(HCE.out.below HBr.out).by_ L;rw [HBK.out.1] at this;exact this) (by rw [HBK.out.1];omega))
       have HAII:Hid (I64 ai):=by rw [←hai];exact HAI.out i hx1
       clear hI hca hca2 hcb5 hx hai
       go_wp2_with fail
       refine HCP.out.mono ?_
       rintro e w4 ⟨v4,rfl,hO4⟩
       obtain ⟨gc,cc,rfl,hcl,hcm,hgc⟩:=hO4.slice (by rw [HBK.out.1];omega)
       rw [HBK.out.1] at hO4 hcl⊢
       have HO4:=qA hO4
       have HB4:Hid (Below w3.heap.size w3 w4):=HBr.out.trans (hO4.bel.mono HBr.out.size)
       have HGC:=qA hgc
       clear hO4 HCP a2 a3 hgc
       have a2:=(HBR.out w4 HB4.out).1
       have a3:=(HBR.out w4 HB4.out).2
       have b1:=(HFA.out w4 HB4.out).1
       have b2:=(HFA.out w4 HB4.out).2
       go_wp2_with fail
       refine (qDK ai L w4 HAII.out (by omega) (by omega)).mono ?_
       rintro e w5 ⟨⟨j,rfl,hj⟩,hw5⟩
       have hw5:=hw5.symm
       subst hw5
       by_cases hx0:x=0
       ·have hx0b:((x:Int)==0)=true:=by rw [hx0];rfl
        have hx3i:(i:Int)<60:=by omega
        clear HO4
        go_wp2_with fail
        go_roundw
        case rel=>exact ⟨i+1,by simp,by omega,HB4.out⟩
        case measure=>simp [intOf];omega
       ·have hx0b:((x:Int)==0)=false:=by rw [beq_eq_false_iff_ne];omega
        obtain ⟨z,hz⟩:∃z,BK.getD j 0=z:=⟨_,rfl⟩
        have hz256:z<256:=by rw [←hz];exact qBH HBK.out.2 j (by rw [HBK.out.1];exact hj)
        obtain ⟨y,hy⟩:∃y,z^^^x=y:=⟨_,rfl⟩
        have hy256:y<256:=by rw [←hy];exact Nat.xor_lt_two_pow (n:=8) hz256 hx256
        have q1:bits .xor .u8 (z:Int) (x:Int)=(y:Int):=by rw [←hy];exact u8_xor_nat z x hz256 hx256
        have HYZ:Hid (y≠BK.getD j 0∧y<256):=⟨by rw [hz,←hy];exact qHB z x hx0,hy256⟩
        have d1:w4.cell? ⟨gc,j,none⟩=some (.int .u8 (z:Int)):=by
         have:=HO4.out.cellsAt HBK.out.1.symm j (by rw [HBK.out.1];exact hj)
         rw [hz,Nat.zero_add] at this;exact this
        have d2:w4.frozen? ⟨gc,j,none⟩=false:=HO4.out.frozen HBK.out.1.symm j
        obtain ⟨W6,hW6⟩:∃W6,w4.setCell ⟨gc,j,none⟩ (.int .u8 (y:Int))=W6:=⟨_,rfl⟩
        have HO6:Hid (OB wr.heap.size wr (BK.set j y) (.slice (some ⟨gc,0,none⟩) L cc) W6.drew):=by
         have h1:=HO4.out.putB HBK.out.1.symm j y
         rw [hW6] at h1
         exact h1.below (qV (Below.refl _ _) 1)
        clear hz hy hy256 HO4
        go_upto_region 13 with fail
        go_region
        (try rw [hW6])
        have HB6:Hid (Below w3.heap.size w3 W6.drew):=HBr.out.trans (HO6.out.bel.mono HBr.out.size)
        have HD6:=qA (HHurt.out gc cc j y W6.drew (HO6.out.cellsAt (by rw [List.length_set];exact HBK.out.1.symm)) hcl hcm hj HYZ.out.2 HYZ.out.1 (HT3.out.2.below HB6.out))
        clear hW6 d1 d2 q1 HO6 HYZ a2 a3 b1 b2 HB4
        go_upto_region 14 with fail
        generalize W6.drew=w6 at*
        go_wp2_with fail
        refine HD6.out.mono ?_
        rintro e w7 ⟨c7,hc7,rfl,B7⟩
        have HB7:Hid (Below w3.heap.size w3 w7):=HB6.out.trans (B7.mono HB6.out.size)
        have HC7:=qA (HCut.out j w7 (HCE.out.below HB7.out) hj (HT3.out.2.below HB7.out))
        clear B7 HD6 HB6
        have hjL:j≤L:=Nat.le_of_lt hj
        go_wp2_with fail
        refine HC7.out.mono ?_
        rintro e w8 ⟨rfl,B8⟩
        have HB8:Hid (Below w3.heap.size w3 w8):=HB7.out.trans (B8.mono HB7.out.size)
        clear B8 HC7 HB7
        go_upto_region 16 with fail
        have HS8:Hid (∀w1,Below w3.heap.size w3 w1→w1.cell? ⟨g,3,none⟩=some (.slice (some ⟨bb,ob,none⟩) nb cb)):=fun w1 hB1=>(HBR.out w1 hB1).2
        have HB8d:Hid (Below w3.heap.size w3 w8.drew):=HB8.out.drew
        have hic:i+1≤cb:=by omega
        have wi1:IntKind.i64.wrap ((i:Int)+1)=(i:Int)+1:=by rw [IntKind.wrap_i64];omega
        have hi1:(0:Int)≤(i:Int)+1:=by omega
        have hi2:(i:Int)+1≤(cb:Int):=by omega
        have hi3:((i:Int)+1).toNat=i+1:=by omega
        obtain ⟨i5,hi5⟩:=qLC
        have Hi:=qA hi5
        clear hi5
        refine wp_region_held_drew (S:=fun w'=>w'.cell? ⟨g,3,none⟩=some (.slice (some ⟨bb,ob,none⟩) nb cb)) (by kernel_rfl) (HS8.out _ HB8d.out) (fun hHeld=>?_)
        refine wpAnyH_take (i:=0) (v:=?_) rfl (by kernel_rfl) (by kernel_rfl) (by kernel_rfl) (fun _ _ _ h=>h) (Or.inl ⟨by rfl,?_⟩) hHeld ?_
        rotate_left
        ·(intro wq hSw;(try dsimp only at hSw);(go_simp<;>with_reducible rfl))
        try simp only [Act.put,sA,sB,sC,sD,sE,sF]
        refine wpAnyH_take (i:=2) (v:=?_) rfl (by kernel_rfl) (by kernel_rfl) (by kernel_rfl) (fun _ _ _ h=>h) (Or.inl ⟨by rfl,?_⟩) hHeld ?_
        rotate_left
        ·(intro wq hSw;(try dsimp only at hSw);(go_simp<;>with_reducible rfl))
        try simp only [Act.put,sA,sB,sC,sD,sE,sF]
        refine wpAnyH_take (i:=3) (v:=?_) rfl (by kernel_rfl) (by kernel_rfl) (by kernel_rfl) (fun _ _ _ h=>h) (Or.inl ⟨by rfl,?_⟩) hHeld ?_
        rotate_left
        ·(intro wq hSw;(try dsimp only at hSw);(go_simp<;>with_reducible rfl))
        try simp only [Act.put,sA,sB,sC,sD,sE,sF]
        refine wpAnyH_take (i:=4) (v:=?_) rfl (by kernel_rfl) (by kernel_rfl) (by kernel_rfl) (fun _ _ _ h=>h) (Or.inl ⟨by rfl,?_⟩) hHeld ?_
        rotate_left
        ·(intro wq hSw;(try dsimp only at hSw);(go_simp<;>with_reducible rfl))
        try simp only [Act.put,sA,sB,sC,sD,sE,sF]
        refine wpAnyH_take (i:=5) (v:=?_) rfl (by kernel_rfl) (by kernel_rfl) (by kernel_rfl) (fun _ _ _ h=>h) (Or.inl ⟨by rfl,?_⟩) hHeld ?_
        rotate_left
        ·(intro wq hSw;(try dsimp only at hSw);(go_simp<;>with_reducible rfl))
        try simp only [Act.put,sA,sB,sC,sD,sE,sF]
        refine wpAnyH_take (i:=6) (v:=?_) rfl (by kernel_rfl) (by kernel_rfl) (by kernel_rfl) (fun _ _ _ h=>h) (Or.inl ⟨by rfl,?_⟩) hHeld ?_
        rotate_left
        ·(intro wq hSw;(try dsimp only at hSw);(go_simp<;>with_reducible rfl))
        try simp only [Act.put,sA,sB,sC,sD,sE,sF]
        refine wpAnyH_ready (rs:=[1]) (by kernel_rfl) (by simp) ?_
        refine AllReadyH.cons rfl (fun K hK=>?_) AllReadyH.nil
        go_simp
        refine (qCM (.slice (some ⟨gb,0,none⟩) L L) BK w8.drew (by have:=(HCE.out.below HB8d.out).by_ L;rw [HBK.out.1] at this;exact this) (by rw [HBK.out.1];omega)).mono ?_
        rintro _ w9 ⟨v9,rfl,hO9⟩
        obtain ⟨g9,c9,rfl,hcl9,hcm9,hg9⟩:=hO9.slice (by rw [HBK.out.1];omega)
        rw [HBK.out.1] at hO9 hcl9⊢
        have HO9:=qA hO9
        have HB9:Hid (Below w3.heap.size w3 w9):=HB8d.out.trans (hO9.bel.mono HB8d.out.size)
        clear hO9
        refine hK.out _ _ (HS8.out _ HB9.out) (fun hHeld=>?_)
        clear hK K
        try simp only [Act.put,sA,sB,sC,sD,sE,sF]
        have HBY9:Hid (jQ w9 (.slice (some ⟨bb,ob,none⟩) (i+1) cb) (bs.take (i+1))∧(bs.take (i+1)).length=i+1):=⟨qE3 (HIn.out w9 (HB3.out.trans (HB9.out.mono HB3.out.size))).2 HBB.out.1 (by omega),by rw [List.length_take,HBB.out.1];omega⟩
        obtain ⟨ad,hnews⟩:∃ad:Addr,ad=⟨bb,ob,none⟩∧∀j u,(qL (bs.take (i+1)))[j]?=some u→w9.cell? (ad.add j)=some u:=by
         rcases qFB HBY9.out.1 with ⟨hv,_⟩|⟨ad,cp,hv,hn⟩
         ·simp at hv
         ·simp only [Value.slice.injEq,Option.some.injEq] at hv
          exact ⟨ad,hv.1.symm,hn⟩
        obtain ⟨rfl,hnews⟩:=hnews
        obtain ⟨v10,w10,hrun,ho10,hg10,_,_⟩:=Go.run_append_own_at (P:=Tryz.prog) (w:=w9) w8.drew.heap.size 28 28 5 i5 (.int .u8 0) 1 1 Tryz.underlying28 Hi.out.1 Hi.out.2.1 Hi.out.2.2.1 Hi.out.2.2.2 rfl (by decide) (.slice (some ⟨g9,0,none⟩) L c9) L (qL BK) (by have:=HO9.out.own;rw [HBK.out.1] at this;exact this) ⟨bb,ob,none⟩ (i+1) cb (qL (bs.take (i+1))) (by simp only [qL,List.length_map];rw [HBY9.out.2];omega) hnews (fun u hu=>by simp only [qL,List.mem_map] at hu;obtain ⟨_,_,rfl⟩:=hu;rfl) (by unfold maxLen;omega) (by omega) HO9.out.bel.size
        refine wpAnyH_ready (rs:=[7]) (by kernel_rfl) (by simp) ?_
        refine AllReadyH.cons rfl (fun K hK=>?_) AllReadyH.nil
        (try rw [if_pos (by rfl)])
        unfold Oper.wp execOp
        simp only [resolve,invoke,builtin,Sem.run_bind,Sem.run_pure,Result.andThen_ok,List.map_toArray,List.map_cons,List.map_nil,Act.eval,List.getElem_toArray,List.getElem_cons_zero,List.getElem_cons_succ,Array.getD_eq_getD_getElem?,List.getElem?_toArray,List.getElem?_cons_succ,List.getElem?_cons_zero,Option.getD_some,hrun,Result.andThen,Oper.upon_value]
        have HO10:Hid (OB w8.drew.heap.size w8.drew (BK++bs.take (i+1)) v10 w10):=HO9.out.more (by rw [HBY9.out.2,HBK.out.1];exact ho10) hg10
        obtain ⟨g10,c10,rfl,hcl10,hcm10,-⟩:=HO10.out.slice (by rw [List.length_append,HBK.out.1];omega)
        have HL10:Hid ((BK++bs.take (i+1)).length=L+(i+1)):=by show _=_;rw [List.length_append,HBK.out.1,HBY9.out.2]
        rw [HL10.out] at HO10 hcl10⊢
        have HB10:Hid (Below w3.heap.size w3 w10):=HB8d.out.trans (HO10.out.bel.mono HB8d.out.size)
        have HD10:=qA (HMore.out g10 (L+(i+1)) c10 w10 (qM.left (HO10.out.cellsAt HL10.out.symm)) (by omega) hcl10 (by omega) (HT3.out.2.below HB10.out))
        clear ho10 hg10 hrun hnews
        refine hK.out _ _ (HS8.out _ HB10.out) (fun hHeld=>?_)
        clear hK K HO9 HO10
        try simp only [Act.put,sA,sB,sC,sD,sE,sF]
        refine wpAnyH_ready (rs:=[8]) (by kernel_rfl) (by simp) ?_
        refine AllReadyH.cons rfl (fun K hK=>?_) AllReadyH.nil
        go_simp
        refine HD10.out.mono ?_
        rintro _ w11 ⟨rfl,B11⟩
        have HB11:Hid (Below w3.heap.size w3 w11):=HB10.out.trans (B11.mono HB10.out.size)
        clear B11 HD10 HB10 HB9
        refine hK.out _ _ (HS8.out _ HB11.out) (fun hHeld=>?_)
        clear hK K
        try simp only [Act.put,sA,sB,sC,sD,sE,sF]
        refine wpAnyH_take (i:=9) (v:=?_) rfl (by kernel_rfl) (by kernel_rfl) (by kernel_rfl) (fun _ _ _ h=>h) (Or.inl ⟨by rfl,?_⟩) hHeld ?_
        rotate_left
        ·(intro wq hSw;(try dsimp only at hSw);(go_simp<;>with_reducible rfl))
        try simp only [Act.put,sA,sB,sC,sD,sE,sF]
        refine wpAnyH_take (i:=10) (v:=?_) rfl (by kernel_rfl) (by kernel_rfl) (by kernel_rfl) (fun _ _ _ h=>h) (Or.inl ⟨by rfl,?_⟩) hHeld ?_
        rotate_left
        ·(intro wq hSw;(try dsimp only at hSw);(go_simp<;>with_reducible rfl))
        try simp only [Act.put,sA,sB,sC,sD,sE,sF]
        refine wpAnyH_take (i:=11) (v:=?_) rfl (by kernel_rfl) (by kernel_rfl) (by kernel_rfl) (fun _ _ _ h=>h) (Or.inl ⟨by rfl,?_⟩) hHeld ?_
        rotate_left
        ·(intro wq hSw;(try dsimp only at hSw);(go_simp<;>with_reducible rfl))
        try simp only [Act.put,sA,sB,sC,sD,sE,sF]
        refine wpAnyH_take (i:=12) (v:=?_) rfl (by kernel_rfl) (by kernel_rfl) (by kernel_rfl) (fun _ _ _ h=>h) (Or.inl ⟨by rfl,?_⟩) hHeld ?_
        rotate_left
        ·(intro wq hSw;(try dsimp only at hSw);(go_simp<;>with_reducible rfl))
        try simp only [Act.put,sA,sB,sC,sD,sE,sF]
        refine wpAnyH_take (i:=13) (v:=?_) rfl (by kernel_rfl) (by kernel_rfl) (by kernel_rfl) (fun _ _ _ h=>h) (Or.inl ⟨by rfl,?_⟩) hHeld ?_
        rotate_left
        ·(intro wq hSw;(try dsimp only at hSw);(go_simp<;>with_reducible rfl))
        try simp only [Act.put,sA,sB,sC,sD,sE,sF]
        refine wpAnyH_take (i:=14) (v:=?_) rfl (by kernel_rfl) (by kernel_rfl) (by kernel_rfl) (fun _ _ _ h=>h) (Or.inl ⟨by rfl,?_⟩) hHeld ?_
        rotate_left
        ·(intro wq hSw;(try dsimp only at hSw);(go_simp<;>with_reducible rfl))
        try simp only [Act.put,sA,sB,sC,sD,sE,sF]
        refine wpAnyH_take (i:=15) (v:=?_) rfl (by kernel_rfl) (by kernel_rfl) (by kernel_rfl) (fun _ _ _ h=>h) (Or.inl ⟨by rfl,?_⟩) hHeld ?_
        rotate_left
        ·(intro wq hSw;(try dsimp only at hSw);(go_simp<;>with_reducible rfl))
        try simp only [Act.put,sA,sB,sC,sD,sE,sF]
        refine wpAnyH_done (by kernel_rfl) ?_ _
        have hc7b:(c7==0)=false:=by rw [beq_eq_false_iff_ne];exact hc7
        go_wp2_with (first|(go_at_call 13;refine (gB _ _).mono ?_;rintro e wn ⟨rfl,hwn⟩;have hwn:=hwn.symm;subst hwn))
        go_roundw
        case rel=>exact ⟨i+1,by simp,by omega,HB11.out⟩
        case measure=>simp [intOf];omega
      ·go_wp2_with fail
       go_meet
       case rel=>exact ⟨i,rfl,HBr.out⟩
     ·go_wp2_with fail
      go_meet
      case rel=>exact ⟨i,rfl,HBr.out⟩
    ·go_wp2_with fail
     go_meet
     case rel=>exact ⟨i,rfl,HBr.out⟩
end Go.Proofs.YtkpmalfigmimaaaGreatDoor
namespace Go.Proofs.YtkpmalfigmimaaaGreatDoor
open Go.ChangeShapes Go.WideShapes Go.Deep Go.Joins
open Go.RowKit (Below)
open M
set_option maxRecDepth 100000
def IsB (w:World) (v:Value):Prop:=∃p n cap bs,v= .slice p n cap∧(n≤9223372036854775807∧n≤cap)∧jQ w (.slice p n cap) bs∧bs.length=n∧∀x∈bs,x<256
def qL0 (S:World→Value→Prop) (w:World) (a:Option Addr) (n:Nat):Prop:=
 n≤9223372036854775807∧(0<n→∃b o,a=some ⟨b,o,none⟩∧∀i,i<n→∃v,w.cell? ⟨b,o+i,none⟩=some v∧S w v)
theorem qFP {w:World} {base:Nat} {a:Addr} {cs:List Value} (h:w.cells? base a 1=some cs):∃v,cs=[v]∧w.cell? a=some v:=by
 unfold World.cells? at h
 split at h
 ·have e:List.range 1=[0]:=rfl
  rw [e] at h
  simp only [List.mapM_cons,List.mapM_nil,Option.bind_eq_bind,Option.bind_eq_some_iff,Option.pure_def,Option.some.injEq] at h
  obtain ⟨a0,h0,l0,rfl,rfl⟩:=h
  exact ⟨a0,rfl,by simpa [Addr.add] using h0⟩
 ·cases h
section
variable {H : Type} {enc : TypeId × Value → H} {w : World} {base : Nat} {spare : Nat → Bool} {held : Bool}
theorem bQ {S:World→Value→Prop} {ty el:TypeId} (hu:Tryz.prog.underlying ty=some (.slice el)) (h1:Tryz.prog.cellsOf el=1) (hS:∀{m:Nat} {u:Value} {y:DataW H×List MemPlace},DataW.trod enc Tryz.prog w base spare held m el [u]=some y→S w u)
  {fuel:Nat} {v:Value} {y:DataW H×List MemPlace} (h:DataW.trod enc Tryz.prog w base spare held fuel ty [v]=some y):∃a len cap,v= .slice a len cap∧len≤cap∧qL0 S w a len:=by
 rcases open_slice hu h with ⟨h0,_⟩|⟨ad,len,cap,mm,n',D,Pl,hcs,_,hlc,hcm,hmm,_,hx⟩
 ·simp only [List.cons.injEq,and_true] at h0
  exact ⟨none,0,0,h0,Nat.le_refl _,by omega,fun h=>by omega⟩
 ·simp only [List.cons.injEq,and_true] at hcs
  unfold maxLen at hcm
  refine ⟨some ad,len,cap,hcs,hlc,by omega,fun h0=>?_⟩
  have hlm:len≤mm:=by rw [hmm];split<;>omega
  have one:∀i,i<len→∃u,w.cell? (ad.add i)=some u∧S w u:=by
   intro i hi
   obtain ⟨cs',hc,ht⟩:=hx i (by omega)
   rw [h1,Nat.mul_one] at hc
   obtain ⟨u,rfl,hcell⟩:=qFP hc
   exact ⟨u,hcell,hS ht⟩
  obtain ⟨b,off,spot⟩:=ad
  obtain ⟨u0,h00,_⟩:=one 0 h0
  have hspot:spot=none:=by simpa [Addr.add] using World.cell?_spot h00
  subst hspot
  refine ⟨b,off,rfl,fun j hj=>?_⟩
  obtain ⟨u,hu,hr⟩:=one j hj
  rw [Addr.add_mid] at hu
  exact ⟨u,hu,hr⟩
theorem qK9 {m:Nat} {u:Value} {y:DataW H×List MemPlace} (h:DataW.trod enc Tryz.prog w base spare held m 5 [u]=some y):∃q:Nat,u= .int .u8 (q:Int)∧q<256:=by
 obtain ⟨z,e0,_,w0⟩:=DataW.trod_int Tryz.underlying5 h
 simp only [List.cons.injEq,and_true] at e0
 have b:=bounds_u8 w0
 exact ⟨z.toNat,by rw [e0,Int.toNat_of_nonneg b.1],by omega⟩
theorem qLF {m:Nat} {u:Value} {y:DataW H×List MemPlace} (h:DataW.trod enc Tryz.prog w base spare held m 28 [u]=some y):IsB w u:=by
 rcases open_slice Tryz.underlying28 h with ⟨h0,_⟩|_
 ·simp only [List.cons.injEq,and_true] at h0
  exact ⟨none,0,0,[],h0,by omega,.inl (.inl ⟨rfl,rfl⟩),rfl,by simp⟩
 obtain ⟨a,len,cap,rfl,hlc,hl,hr⟩:=bQ (S:=fun w v=>∃q:Nat,v= .int .u8 (q:Int)∧q<256) Tryz.underlying28 (by kernel_rfl) (fun h=>qK9 h) h
 by_cases h0:len=0
 ·subst h0
  refine ⟨a,0,cap,[],rfl,⟨hl,hlc⟩,?_,rfl,by simp⟩
  cases a with
  |none=>
   rcases open_slice Tryz.underlying28 h with ⟨h0,_⟩|⟨ad,len,cap,mm,n',D,Pl,hcs,_⟩
   ·simp only [List.cons.injEq,and_true] at h0
    rw [h0];exact .inl (.inl ⟨rfl,rfl⟩)
   ·simp only [List.cons.injEq,and_true,Value.slice.injEq] at hcs
    cases hcs.1
  |some ad=>exact .inr ⟨ad,cap,rfl,rfl⟩
 obtain ⟨b,o,ha,hc⟩:=hr (by omega)
 have:∀i,i<len→∃q:Nat,w.cell? ⟨b,o+i,none⟩=some (.int .u8 (q:Int))∧q<256:=fun i hi=>by
  obtain ⟨v,h1,q,rfl,h2⟩:=hc i hi
  exact ⟨q,h1,h2⟩
 obtain ⟨f,hf⟩:=choose_lt this
 have hll:((List.range len).map f).length=len:=by simp
 refine ⟨a,len,cap,(List.range len).map f,rfl,⟨hl,hlc⟩,.inl (.inr ⟨b,o,cap,by rw [ha,hll],fun i hi=>?_⟩),hll,fun x hx=>?_⟩
 ·rw [hll] at hi
  rw [(hf i hi).1]
  simp [List.getD,hi]
 ·simp only [List.mem_map,List.mem_range] at hx
  obtain ⟨i,hi,rfl⟩:=hx
  exact (hf i hi).2
theorem qCT {m:Nat} {u:Value} {y:DataW H×List MemPlace} (h:DataW.trod enc Tryz.prog w base spare held m 3 [u]=some y):∃z:Int,u= .int .i64 z∧I64 z:=by
 obtain ⟨z,e0,_,w0⟩:=DataW.trod_int Tryz.underlying3 h
 simp only [List.cons.injEq,and_true] at e0
 exact ⟨z,e0,bounds_i64 w0⟩
theorem qGD {fuel:Nat} {v:Value} {y:DataW H×List MemPlace} (h:DataW.trod enc Tryz.prog w base spare held fuel 50 [v]=some y):∃p n cap f,v= .slice p n cap∧n≤9223372036854775807∧dG w p n f∧∀i,i<n→I64 (f i):=by
 obtain ⟨a,len,cap,rfl,hlc,hl,hr⟩:=bQ (S:=fun w v=>∃z:Int,v= .int .i64 z∧I64 z) Tryz.underlying50 (by kernel_rfl) (fun h=>qCT h) h
 by_cases h0:0<len
 ·obtain ⟨b,o,ha,hc⟩:=hr h0
  have:∀i,i<len→∃z:Int,w.cell? ⟨b,o+i,none⟩=some (.int .i64 z)∧I64 z:=fun i hi=>by
   obtain ⟨v,h1,z,rfl,h2⟩:=hc i hi
   exact ⟨z,h1,h2⟩
  obtain ⟨f,hf⟩:=choose_lt this
  exact ⟨a,len,cap,f,rfl,hl,fun _=>⟨b,o,ha,fun i hi=>(hf i hi).1⟩,fun i hi=>(hf i hi).2⟩
 ·exact ⟨a,len,cap,fun _=>0,rfl,hl,fun h=>absurd h h0,fun i hi=>by omega⟩
theorem qCL:Tryz.prog.cellsOf 47=2:=by kernel_rfl
theorem qIA {n:Nat} {cs:List Value} {y:DataW H×List MemPlace} (h:DataW.trod enc Tryz.prog w base spare held n 47 cs=some y):
  ∃(A:Int) (B:Nat),cs=[.int .i64 A,.int .u64 (B:Int)]∧I64 A∧B<18446744073709551616:=by
 obtain ⟨y0,y1,k,hx,hl,h0,h1⟩:=trod_struct2 Tryz.underlying47 h
 have cu:Tryz.prog.cellsOf 36=1:=by kernel_rfl
 have ci:Tryz.prog.cellsOf 2=1:=by kernel_rfl
 rw [qCL] at hl
 obtain ⟨v0,v1,rfl⟩:∃a b,cs=[a,b]:=by
  match cs,hl with
  |[a,b],_=>exact ⟨a,b,rfl⟩
 simp only [cu,ci,List.drop_zero,List.drop_succ_cons,List.take_succ_cons,List.take_zero] at h0 h1
 obtain ⟨d0,e0,_,w0⟩:=DataW.trod_int Tryz.underlying2 h0
 obtain ⟨d1,e1,_,w1⟩:=DataW.trod_int Tryz.underlying36 h1
 have b1:=bounds_u64 w1
 simp only [List.cons.injEq,and_true] at e0 e1
 subst e0 e1
 refine ⟨d0,d1.toNat,?_,bounds_i64 w0,by omega⟩
 rw [Int.toNat_of_nonneg b1.1]
theorem qI7 {fuel:Nat} {v:Value} {y:DataW H×List MemPlace} (h:DataW.trod enc Tryz.prog w base spare held fuel 22 [v]=some y):
  ∃a len cap t0 v0,v= .slice a len cap∧len≤9223372036854775807∧uC w a len t0 v0∧(∀i,i<len→I64 (t0 i))∧∀i,i<len→v0 i<18446744073709551616:=by
 rcases open_slice Tryz.underlying22 h with ⟨h0,_⟩|⟨ad,len,cap,mm,n',D,Pl,hcs,_,hlc,hcm,hmm,_,hx⟩
 ·simp only [List.cons.injEq,and_true] at h0
  exact ⟨none,0,0,fun _=>0,fun _=>0,h0,by omega,fun h=>by omega,fun i hi=>by omega,fun i hi=>by omega⟩
 ·simp only [List.cons.injEq,and_true] at hcs
  unfold maxLen at hcm
  by_cases h0:0<len
  ·have hlm:len≤mm:=by rw [hmm];split<;>omega
   have one:∀i,i<len→∃AB:Int×Nat,(w.cell? ((ad.add (i*2)).add 0)=some (.int .i64 AB.1)∧w.cell? ((ad.add (i*2)).add 1)=some (.int .u64 (AB.2:Int)))∧I64 AB.1∧AB.2<18446744073709551616:=by
    intro i hi
    obtain ⟨cs',hc,ht⟩:=hx i (by omega)
    obtain ⟨A,B,rfl,hb⟩:=qIA ht
    rw [qCL] at hc
    refine ⟨(A,B),?_,hb⟩
    unfold World.cells? at hc
    split at hc
    ·rw [show List.range 2=[0,1] from rfl] at hc
     simp only [List.mapM_cons,List.mapM_nil,Option.bind_eq_bind,Option.bind_eq_some_iff,Option.pure_def,Option.some.injEq,List.cons.injEq,exists_eq_left'] at hc
     obtain ⟨a0,h0,l0,⟨a1,h1,l1,hl1,rfl⟩,e0,hr⟩:=hc
     simp only [List.cons.injEq] at hr
     obtain ⟨e1,_⟩:=hr
     subst e0 e1
     exact ⟨h0,h1⟩
    ·cases hc
   obtain ⟨b,off,spot⟩:=ad
   obtain ⟨_,⟨h00,_⟩,_⟩:=one 0 h0
   have hspot:spot=none:=by simpa [Addr.add] using World.cell?_spot h00
   subst hspot
   obtain ⟨f,hf⟩:=choose_lt one
   refine ⟨_,len,cap,fun i=>(f i).1,fun i=>(f i).2,hcs,by omega,fun _=>⟨b,off,rfl,fun j hj=>?_⟩,fun i hi=>(hf i hi).2.1,fun i hi=>(hf i hi).2.2⟩
   obtain ⟨⟨k0,k1⟩,_⟩:=hf j hj
   simp only [Addr.add_mid,Nat.add_zero] at k0 k1
   exact ⟨k0,k1⟩
  ·exact ⟨some ad,len,cap,fun _=>0,fun _=>0,hcs,by omega,fun h=>absurd h h0,fun i hi=>by omega,fun i hi=>by omega⟩
theorem qGC {r:Reach} {b0:Nat} {v:Value} {d:DataW H} {p:List MemPlace} (hv:Value.okWide Tryz.prog w r b0 52 v) (h:DataW.Trod enc Tryz.prog w base spare held 52 v d p):
  ∃K q n cap t0 v0 pa na ca a pb nb cb bs,v= .agg #[.int .i64 K,.slice q n cap,.slice pa na ca,.slice pb nb cb]∧(n≤9223372036854775807∧uC w q n t0 v0∧(∀i,i<n→I64 (t0 i))∧∀i,i<n→v0 i<18446744073709551616)∧
   (na≤9223372036854775807∧dG w pa na a∧∀i,i<na→I64 (a i))∧((nb≤9223372036854775807∧nb≤cb)∧jQ w (.slice pb nb cb) bs∧bs.length=nb∧∀x∈bs,x<256):=by
 obtain ⟨cs,rfl,hsz⟩:=okWide_struct Tryz.underlying52 hv
 obtain ⟨c0,c1,c2,c3,rfl⟩:∃c0 c1 c2 c3,cs=#[c0,c1,c2,c3]:=by
  have h4:cs.size=4:=hsz.trans (by kernel_rfl)
  obtain ⟨l⟩:=cs
  match l,h4 with
  |[c0,c1,c2,c3],_=>exact ⟨c0,c1,c2,c3,rfl⟩
 obtain ⟨fuel,hf⟩:=h
 obtain ⟨xs,n,_,hx,hl,hlen,hff⟩:=DataW.trod_struct Tryz.underlying52 hf
 have k0:Tryz.prog.cellsOf 24=2:=by kernel_rfl
 have k1:Tryz.prog.cellsOf 50=1:=by kernel_rfl
 have k2:Tryz.prog.cellsOf 28=1:=by kernel_rfl
 obtain ⟨y0,y1,y2,rfl⟩:∃a b c,xs=[a,b,c]:=by
  match xs,hlen with
  |[a,b,c],_=>exact ⟨a,b,c,rfl⟩
 have g0:DataW.trod enc Tryz.prog w base spare held n 24 [c0,c1]=some y0:=by simpa [Value.cells,k0] using hff 0 _ rfl
 have g1:DataW.trod enc Tryz.prog w base spare held n 50 [c2]=some y1:=by simpa [Value.cells,k1] using hff 1 _ rfl
 have g2:DataW.trod enc Tryz.prog w base spare held n 28 [c3]=some y2:=by simpa [Value.cells,k2] using hff 2 _ rfl
 obtain ⟨z0,z1,k,_,_,f0,f1⟩:=trod_struct2 Tryz.underlying24 g0
 have j0:Tryz.prog.cellsOf 3=1:=by kernel_rfl
 have j1:Tryz.prog.cellsOf 22=1:=by kernel_rfl
 simp only [j0,j1,List.drop_zero,List.drop_succ_cons,List.take_succ_cons,List.take_zero] at f0 f1
 obtain ⟨K,rfl,_⟩:=qCT f0
 obtain ⟨q,len,cap,t0,v0,rfl,h2,h3,h4,h5⟩:=qI7 f1
 obtain ⟨pa,na,ca,a,rfl,a1,a2,a3⟩:=qGD g1
 obtain ⟨pb,nb,cb,bs,rfl,b1,b2,b3,b4⟩:=qLF g2
 exact ⟨K,q,len,cap,t0,v0,pa,na,ca,a,pb,nb,cb,bs,rfl,⟨h2,h3,h4,h5⟩,⟨a1,a2,a3⟩,b1,b2,b3,b4⟩
end
end Go.Proofs.YtkpmalfigmimaaaGreatDoor
