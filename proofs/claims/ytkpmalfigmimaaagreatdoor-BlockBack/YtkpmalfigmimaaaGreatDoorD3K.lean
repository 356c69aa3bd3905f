import Derived.Test.YtkpmalfigmimaaaGreatDoorZ0
import Derived.Test.YtkpmalfigmimaaaGreatDoorD3N
import Derived.Test.YtkpmalfigmimaaaGreatDoorD3O
import Derived.Test.YtkpmalfigmimaaaGreatDoorD3J
set_option linter.unusedVariables false
set_option linter.unusedSimpArgs false
set_option maxRecDepth 100000
set_option maxHeartbeats 8000000
namespace Go.Proofs.YtkpmalfigmimaaaGreatDoor
open Go.RowKit
open M
theorem bX {P:Program} {o:Oper} {a:Act} {w:World} {K:Act→World→Prop} {Q:Exit→Act→World→Prop} (t:TypeId) (parts:Array (Nat×Operand)) (args:List (Nat×Value)) (cells:Array Value) (ho:o.op= .build t parts) (ha:(parts.map fun (i,x)=>(i,a.eval x)).toList=args) (hb:P.built t args=some cells) (h:K (a.put o.dst (.agg cells)) w):o.wp P a w K Q:=by
 refine wp_build t parts ho ?_ ?_
 ·rw [ha,hb];rfl
 ·rw [ha,hb];exact h
theorem dC (kd m NA LE GR L:Nat) (FI LA:Int):Tryz.prog.built 38 [(0,.int .i64 (kd:Int)),(1,.int .i64 ((m:Int)+1)),(2,.int .i64 (NA:Int)),(3,.int .i64 FI),(4,.int .i64 LA),(5,.int .u64 (LE:Int)),(6,.int .u64 (GR:Int)),(7,.int .i64 (L:Int))]=some #[.int .i64 (kd:Int),.int .i64 ((m:Int)+1),.int .i64 (NA:Int),.int .i64 FI,.int .i64 LA,.int .u64 (LE:Int),.int .u64 (GR:Int),.int .i64 (L:Int)]:=by
 kernel_rfl
theorem kX {B:Nat} {w0 w:World} (h:Below B w0 w) (g:Nat) (cs:Array Value) (hg:B≤g):Below B w0 (w.setRow g cs):=
 ⟨h.os,h.tape,h.output,by rw [setRow_size];exact h.size,fun k hk=>by rw [setRow_other _ _ _ _ (by omega)];exact h.block k hk⟩
theorem rJ (K:Int) (p:Option Addr) (N cap:Nat) (t0:Nat→Int) (v0:Nat→Nat) (w:World)
  (h:uB w p N t0 v0) (hN:N≤9223372036854775807) (ht:∀i,i<N→I64 (t0 i)) (hf:∀i,i<N→v0 i<18446744073709551616) (hT:qT w) (hC:nG w):
  Calls Tryz.prog 3 #[.agg #[.int .i64 K,.slice p N cap]] w fun e w'=>e= .returned (.bool true)∧Below w.heap.size w w':=by
 obtain ⟨kd,hkd⟩:∃kd,kd=2∧K.tmod 2=0∨kd=1∧K.tmod 2≠0:=by
  by_cases e:K.tmod 2=0
  ·exact ⟨2,.inl ⟨rfl,e⟩⟩
  ·exact ⟨1,.inr ⟨rfl,e⟩⟩
 obtain ⟨g,hg⟩:∃g,w.heap.size=g:=⟨_,rfl⟩
 obtain ⟨W1,hW1⟩:∃W1,w.alloc (.cells #[.int .i64 K,.slice p N cap] 24)=W1:=⟨_,rfl⟩
 have HW1:Hid (W1.heap[g]?=some (.cells #[.int .i64 K,.slice p N cap] 24 (0,0))∧Below w.heap.size w W1):=by
  have hA:Below w.heap.size w W1:=by rw [←hW1];exact (Below.refl _ _).alloc (Nat.le_refl _) _
  exact ⟨by rw [←hW1,←hg];exact heap_alloc_new _ _,hA⟩
 have HM:=qA (qH9 K kd p N cap t0 v0 W1 (h.below HW1.out.2) hN ht hf hkd)
 have HKD:Hid (kd=1∨kd=2):=by rcases hkd with h|h;exact .inr h.1;exact .inl h.1
 have HT:=qA hT
 have HC:=qA hC
 obtain ⟨i5,hi5⟩:=qKT
 have Hi:=qA hi5
 clear h ht hf hT hC hkd hi5
 have o0:W1.cell? ⟨g,0,none⟩=some (.int .i64 K):=by rw [cell_of_row _ _ _ _ _ _ HW1.out.1];rfl
 have o1:W1.cell? ⟨g,1,none⟩=some (.slice p N cap):=by rw [cell_of_row _ _ _ _ _ _ HW1.out.1];rfl
 go_enter Tryz.func3,Tryz.ntmps3
 go_wp2_with fail
 (try rw [hW1])
 (try rw [hg])
 clear hW1 hg
 refine HM.out.mono ?_
 rintro e w2 ⟨n,t,v,u,rfl,hn3,hfine,hop⟩
 obtain ⟨q,c,rfl⟩:=hop.slice
 have HB2:Hid (Below w.heap.size w w2):=HW1.out.2.trans (hop.bel.mono HW1.out.2.size)
 have HT2:=qA (And.intro (HT.out.below HB2.out) (HC.out.below HB2.out))
 clear HM HW1 o0 o1
 rcases n with _|m
 ·have HWK:=qA (pQ w2 HT2.out.1 HT2.out.2)
  clear hop hfine hn3
  go_wp2_with fail
  refine HWK.out.mono ?_
  rintro e w3 ⟨rfl,B3⟩
  have HF:=qA (HB2.out.trans (B3.mono HB2.out.size))
  clear B3
  go_wp2_with fail
  go_ret
  exact ⟨rfl,HF.out⟩
 ·have hG:qEE (kd:Int) (m+1) t v:=⟨by rcases HKD.out with h|h<;>omega,by omega,by omega,hfine.up,fun e=>hfine.nar (by omega)⟩
  obtain ⟨gq,rfl⟩:=hop.form (by omega)
  have HP2:=qA hop.row
  have HCP:=qA (cA (some ⟨gq,0,none⟩) (m+1) c t v w2 hop.row (by omega) (fun e=>by omega))
  have HGF:=qA (And.intro hG hfine)
  clear hop hfine hG
  go_wp2_with fail
  refine HCP.out.mono ?_
  rintro e w3 ⟨v3,rfl,hO3⟩
  obtain ⟨pm,cm,rfl⟩:=hO3.slice
  have HB3:Hid (Below w2.heap.size w2 w3):=hO3.bel
  have HE:=qA (wB kd pm m cm t v w3 hO3.row HGF.out.1 HGF.out.2.ti HGF.out.2.va (HT2.out.1.below HB3.out) (HT2.out.2.below HB3.out))
  clear hO3 HCP
  go_wp2_with fail
  refine HE.out.mono ?_
  rintro e w4 ⟨co,vb,gb,rfl,hrow,hval,hvb,B4⟩
  have hok:qAE kd m t v co vb:=⟨HGF.out.1,HGF.out.2.ti,HGF.out.2.va,hval,hvb⟩
  have HOK:=qA hok
  have hbd:=hok.bound
  have HB4:Hid (Below w2.heap.size w2 w4):=HB3.out.trans (B4.mono HB3.out.size)
  have hce:=pT hrow
  have HDec:=qA (fun (g1 c1:Nat) (w1:World)=>qD8 hok g1 _ c1 w1 rfl)
  have HHd:=qA (fun (g1 n1 c1:Nat) (w1:World)=>qER hok g1 n1 c1 w1)
  have HEnc:Hid (∀(gp cp:Nat) (w1:World),uB w1 (some ⟨gp,0,none⟩) (m+1) t v→qT w1→nG w1→Calls Tryz.prog 8 #[.int .i64 (kd:Int),.slice (some ⟨gp,0,none⟩) (m+1) cp] w1 fun e w'=>∃g',e= .returned (.tuple #[.slice (some ⟨g',0,none⟩) (gZ kd (m+1) t v co vb).length (gZ kd (m+1) t v co vb).length,.int .i64 0])∧qS w' g' 0 (gZ kd (m+1) t v co vb)∧Below w1.heap.size w1 w'):=fun gp cp w1 hp hT1 hC1=>
   (wB kd (some ⟨gp,0,none⟩) m cp t v w1 hp HGF.out.1 HGF.out.2.ti HGF.out.2.va hT1 hC1).mono fun e w' he=>by
    obtain ⟨co',vb',g',h1,h2,h3,h4,h5⟩:=he
    obtain ⟨rfl,rfl⟩:=qAA kd (m+1) v co' co vb' vb h3 hok.val
    exact ⟨g',h1,pT h2,h5⟩
  obtain ⟨BK,hBK⟩:∃BK,gZ kd (m+1) t v co vb=BK:=⟨_,rfl⟩
  rw [hBK] at hbd hce HDec HHd HEnc⊢
  obtain ⟨L,hL⟩:∃L,BK.length=L:=⟨_,rfl⟩
  rw [hL] at hbd HDec HHd HEnc⊢
  have HL:=qA hL
  have HCE:=qA hce
  have hL1:55≤L:=hbd.1
  have hL2:L≤1000000:=hbd.2
  have HP4:=qA (HP2.out.below HB4.out)
  have HT4:=qA (And.intro (HT2.out.1.below HB4.out) (HT2.out.2.below HB4.out))
  have HV:=qA HGF.out.2.va
  have HB4w:Hid (Below w.heap.size w w4):=HB2.out.trans (HB4.out.mono HB2.out.size)
  clear hok hrow hval hvb B4 HE hBK hL hce hbd HB3 HP2 HT2 HGF HOK HB4 HB2
  have HC5:=qA (fun (w1:World) (hB:Below w4.heap.size w4 w1)=>qGZ (.slice (some ⟨gb,0,none⟩) L L) BK w1 (by have:=(HCE.out.below hB).by_ L;rw [HL.out] at this;exact this) (by rw [HL.out];omega))
  go_wp2_with fail
  refine (HC5.out w4 (Below.refl _ _)).mono ?_
  rintro e w5 ⟨v5,rfl,hO5⟩
  obtain ⟨gc,cc,rfl,hcl,hcm,-⟩:=hO5.slice (by rw [HL.out];omega)
  rw [HL.out] at hO5 hcl⊢
  have HB5:Hid (Below w4.heap.size w4 w5):=hO5.bel
  have HD5:=qA (HDec.out gc cc w5 (hO5.cellsAt HL.out.symm) hcl hcm (HT4.out.1.below HB5.out) (HT4.out.2.below HB5.out))
  clear hO5 HDec
  go_wp2_with fail
  refine HD5.out.mono ?_
  rintro e w6 ⟨gp,rfl,hp6,B6⟩
  have HB6:Hid (Below w4.heap.size w4 w6):=HB5.out.trans (B6.mono HB5.out.size)
  have HP6:=qA hp6
  clear hp6 B6 HB5 HD5
  go_wp2_with fail
  refine (HC5.out w6 HB6.out).mono ?_
  rintro e w7 ⟨v7,rfl,hO7⟩
  obtain ⟨g7,c7,rfl,hcl7,hcm7,-⟩:=hO7.slice (by rw [HL.out];omega)
  rw [HL.out] at hO7 hcl7⊢
  have HO7:=qA hO7
  have HB7:Hid (Below w4.heap.size w4 w7):=HB6.out.trans (hO7.bel.mono HB6.out.size)
  have HP7:=qA (HP6.out.below hO7.bel)
  clear hO7 HC5
  go_wp2_with (first
   |(refine wpList_flatOn 28 5 3 _ rfl (by rfl) .u8 [1,2,3] w7.heap.size rfl Tryz.underlying28 (by kernel_rfl) (by kernel_rfl) rfl (by decide) (by decide) rfl ?_)
   |(at_builtin;refine wpList_append_own_at _ rfl _ _ _ rfl w6.heap.size 5 i5 (.int .u8 0) 1 1 Tryz.underlying28 Hi.out.1 Hi.out.2.1 Hi.out.2.2.1 Hi.out.2.2.2 rfl (by decide) (.slice (some ⟨g7,0,none⟩) L c7) L (qM BK) rfl ?f0 ⟨w7.heap.size,0,none⟩ 3 3 (qM [1,2,3]) rfl rfl (World.news_of_block (heap_alloc_new w7 _)) (nX _) ?f4 ?f5 ?f7 ?f6))
  case f0=>have:=HO7.out.own;rw [HL.out] at this;exact this.alloc _
  case f4=>unfold maxLen;omega
  case f5=>omega
  case f7=>have:=HO7.out.bel.size;simp;omega
  case f6=>
   intro v8 w8 ho8 hg8 _ _
   have HO8:Hid (OB w6.heap.size w6 (BK++[1,2,3]) v8 w8):=by
    have hA:Below w7.heap.size w7 (w7.alloc (.cells #[.int .u8 1,.int .u8 2,.int .u8 3] 5)):=(Below.refl _ _).alloc (Nat.le_refl _) _
    exact (HO7.out.below hA).more (cs:=[1,2,3]) (by rw [HL.out];exact ho8) hg8
   obtain ⟨g8,c8,rfl,hcl8,hcm8,-⟩:=HO8.out.slice (by rw [List.length_append,HL.out];omega)
   have HL8:Hid ((BK++[1,2,3]).length=L+3):=by show _=_;rw [List.length_append,HL.out];rfl
   rw [HL8.out] at HO8 hcl8⊢
   have HB8:Hid (Below w4.heap.size w4 w8):=HB6.out.trans (HO8.out.bel.mono HB6.out.size)
   have HP8:=qA (HP6.out.below HO8.out.bel)
   have HH8:=qA (HHd.out g8 (L+3) c8 w8 (by omega) (qS.left (HO8.out.cellsAt HL8.out.symm)) hcl8 (by omega) (HT4.out.2.below HB8.out))
   clear ho8 hg8 HO7 HO8 HP7 HB7 HP6 HB6 HHd
   go_wp2_with fail
   refine HH8.out.mono ?_
   rintro e w9 ⟨rfl,B9⟩
   have HB9:Hid (Below w4.heap.size w4 w9):=HB8.out.trans (B9.mono HB8.out.size)
   have HP9:=qA (HP8.out.below B9)
   clear B9 HH8 HP8 HB8
   unfold bhA
   obtain ⟨r,hr⟩:∃r,w9.heap.size=r:=⟨_,rfl⟩
   obtain ⟨NA,hNA⟩:∃x,kO v (m+1)=x:=⟨_,rfl⟩
   obtain ⟨LE,hLE⟩:∃x,leV v (m+1)=x:=⟨_,rfl⟩
   obtain ⟨GR,hGR⟩:∃x,grV v (m+1)=x:=⟨_,rfl⟩
   obtain ⟨FI,hFI⟩:∃x,t 0=x:=⟨_,rfl⟩
   obtain ⟨LA,hLA⟩:∃x,t m=x:=⟨_,rfl⟩
   have HSM:Hid ((kO v (m+1)=NA∧leV v (m+1)=LE∧grV v (m+1)=GR)∧t 0=FI∧t m=LA):=⟨⟨hNA,hLE,hGR⟩,hFI,hLA⟩
   rw [hNA,hLE,hGR,hFI,hLA,show ((m+1:Nat):Int)=(m:Int)+1 from by simp]
   clear hNA hLE hGR hFI hLA
   obtain ⟨W10,hW10⟩:∃W10,w9.alloc (.cells #[.int .i64 (kd:Int),.int .i64 ((m:Int)+1),.int .i64 (NA:Int),.int .i64 FI,.int .i64 LA,.int .u64 (LE:Int),.int .u64 (GR:Int),.int .i64 (L:Int)] 38)=W10:=⟨_,rfl⟩
   have HW10:Hid (W10.heap[r]?=some (.cells #[.int .i64 (kd:Int),.int .i64 ((m:Int)+1),.int .i64 (NA:Int),.int .i64 FI,.int .i64 LA,.int .u64 (LE:Int),.int .u64 (GR:Int),.int .i64 (L:Int)] 38 (0,0))∧Below w4.heap.size w4 W10∧uB W10 (some ⟨gp,0,none⟩) (m+1) t v):=by
    have hA:Below w9.heap.size w9 W10:=by rw [←hW10];exact (Below.refl _ _).alloc (Nat.le_refl _) _
    exact ⟨by rw [←hW10,←hr];exact heap_alloc_new _ _,HB9.out.trans (hA.mono HB9.out.size),HP9.out.below hA⟩
   go_upto_region 7 with fail
   (try rw [hW10])
   (try rw [hr])
   clear hW10 hr HB9 HP9
   have hkk:((kd:Int) !=(kd:Int))=false:=by simp
   have HE10:=qA (fun (md:Nat)=>HEnc.out gp (m+1) (W10.drewN md) (HW10.out.2.2.below (qN (Below.refl _ _) md)) ((HT4.out.1.below HW10.out.2.1).below (qN (Below.refl _ _) md)) ((HT4.out.2.below HW10.out.2.1).below (qN (Below.refl _ _) md)))
   go_wp2_with (first
    |(go_at_call 13;refine (wU _ _).mono ?_;rintro e wn ⟨rfl,hwn⟩;have hwn:=hwn.symm;subst hwn)
    |(go_at_call 14;refine (wM _ _ (m+1) _ _ t v _ (HP4.out.below HW10.out.2.1) HW10.out.2.2 (by omega)).mono ?_;rintro e wq ⟨rfl,md,rfl⟩))
   refine (HE10.out md).mono ?_
   rintro e w11 ⟨gE,rfl,hcE,B11⟩
   have HW11:Hid (w11.heap[r]?=some (.cells #[.int .i64 (kd:Int),.int .i64 ((m:Int)+1),.int .i64 (NA:Int),.int .i64 FI,.int .i64 LA,.int .u64 (LE:Int),.int .u64 (GR:Int),.int .i64 (L:Int)] 38 (0,0))∧Below w4.heap.size w4 w11):=by
    have hB:Below w4.heap.size w4 (W10.drewN md):=qN HW10.out.2.1 md
    exact ⟨by rw [B11.block r (qB (w:=W10.drewN md) HW10.out.1)];exact HW10.out.1,hB.trans (B11.mono hB.size)⟩
   have HEQ:=qA (qH3 gb gE L L L BK w11 HL.out hL2 (fun i hi=>by have:=HCE.out.below HW11.out.2 i (by rw [HL.out];exact hi);rwa [Nat.zero_add] at this) (fun i hi=>by have:=hcE i (by rw [HL.out];exact hi);rwa [Nat.zero_add] at this))
   clear hcE B11 HE10 HW10 HEnc
   go_upto_block 0 with (first
    |(go_at_call 13;refine (wU _ _).mono ?_;rintro e wn ⟨rfl,hwn⟩;have hwn:=hwn.symm;subst hwn)
    |(go_at_call 15;refine HEQ.out.mono ?_;rintro e wq ⟨rfl,m2,rfl⟩))
   have HW12:Hid ((w11.drewN m2).heap[r]?=some (.cells #[.int .i64 (kd:Int),.int .i64 ((m:Int)+1),.int .i64 (NA:Int),.int .i64 FI,.int .i64 LA,.int .u64 (LE:Int),.int .u64 (GR:Int),.int .i64 (L:Int)] 38 (0,0))∧Below w4.heap.size w4 (w11.drewN m2)):=⟨HW11.out.1,qN HW11.out.2 m2⟩
   obtain ⟨w12,hw12⟩:∃w12,w11.drewN m2=w12:=⟨_,rfl⟩
   rw [hw12] at HW12⊢
   clear hw12 HW11 HEQ
   go_cut [13,14,15] from 20 (fun t13 t14 t15 wc=>t13= .int .i64 (NA:Int)∧t14= .int .u64 (LE:Int)∧t15= .int .u64 (GR:Int)∧Hid (Below w12.heap.size w12 wc))
   case first=>
    as_aux_lemma=>
     go_wp2_with fail
     go_loopw [13,14,15,16] (fun t13 t14 t15 t16 wr=>∃(i na le gr:Nat),t16= .int .i64 (i:Int)∧t13= .int .i64 (na:Int)∧t14= .int .u64 (le:Int)∧t15= .int .u64 (gr:Int)∧Hid ((i≤m+1∧kO v i=na∧leV v i=le∧grV v i=gr)∧Below w12.heap.size w12 wr)) (fun _ _ _ t16 _=>m+1-(intOf t16).toNat)
     case atStart=>exact ⟨0,0,9221120237041090560,9221120237041090560,rfl,rfl,rfl,rfl,⟨Nat.zero_le _,rfl,rfl,rfl⟩,Below.refl _ _⟩
     case round=>
      obtain ⟨i,na,le,gr,rfl,rfl,rfl,rfl,hI⟩:=hrel
      by_cases hlt:i<m+1
      ·obtain ⟨y,hy⟩:∃y,v i=y:=⟨_,rfl⟩
       have HBr:Hid (Below w12.heap.size w12 wr):=hI.out.2
       have HC1:Hid (∀w1,Below w12.heap.size w12 w1→w1.cell? ⟨gq,i*2+1,none⟩=some (.int .u64 (y:Int))):=fun w1 hB=>by
        obtain ⟨b,o,e1,hc⟩:=HP4.out (by omega)
        simp only [Option.some.injEq,Addr.mk.injEq,and_true] at e1
        obtain ⟨rfl,rfl⟩:=e1
        have h1:=(hc i hlt).2
        rw [hy,Nat.zero_add] at h1
        have hB2:Below w4.heap.size w4 w1:=HW12.out.2.trans (hB.mono HW12.out.2.size)
        rw [hB2.cell (p:=⟨gq,i*2+1,none⟩) (block_lt_of_cell h1)];exact h1
       have hy64:y<18446744073709551616:=by rw [←hy];exact HV.out i hlt
       have hle64:le<18446744073709551616:=by rw [←hI.out.1.2.2.1];exact qJI v i
       have hgr64:gr<18446744073709551616:=by rw [←hI.out.1.2.2.2];exact qJG v i (fun j hj=>HV.out j (by omega))
       have HY64:=qA (And.intro hy64 (And.intro hle64 hgr64))
       have HST:Hid (kO v i=na∧leV v i=le∧grV v i=gr∧v i=y):=⟨hI.out.1.2.1,hI.out.1.2.2.1,hI.out.1.2.2.2,hy⟩
       have HCm:Hid (∃cI:Int,∀w1:World,Calls Tryz.prog 16 #[.int .u64 (y:Int),.int .u64 (y:Int)] w1 fun e w'=>e= .returned (.tuple #[.int .i64 cI,.bool (!dP y)])∧w'=w1):=⟨_,fun w1=>by have:=qE8 y y w1;rw [qDJ] at this;exact this⟩
       obtain ⟨cI,hcI⟩:=HCm.out
       have HCm:=qA hcI
       have c1:=HC1.out wr HBr.out
       have hli:(i:Int)<(m:Int)+1:=by omega
       have hna:na≤300:=by have:=uK v i;rw [hI.out.1.2.1] at this;omega
       clear hI hy hy64 hle64 hgr64 hcI
       by_cases hn:dP y=true
       ·rw [hn] at HCm
        have HS:=qA (qHT v i (by rw [HST.out.2.2.2];exact hn))
        clear hn
        go_upto_region 18 with fail
        go_quiet (first|(go_at_call 16;exact Calls.quiet_of_same (HCm.out _)))
        have HBq:Hid (Below w12.heap.size w12 (wr.drewN nq)):=qN HBr.out nq
        generalize wr.drewN nq=wn at*
        go_wp2_with fail
        go_roundw
        case rel=>exact ⟨i+1,na+1,le,gr,by simp,by simp,rfl,rfl,⟨hlt,by rw [HS.out.1,HST.out.1],by rw [HS.out.2.1,HST.out.2.1],by rw [HS.out.2.2,HST.out.2.2.1]⟩,HBq.out⟩
        case measure=>simp [intOf];omega
       ·have hnf:dP y=false:=by simpa using hn
        rw [hnf] at HCm
        have HS:=qA (qHU v i (by rw [HST.out.2.2.2];exact hnf) (fun j hj=>HV.out j (by omega)))
        rw [HST.out.1,HST.out.2.1,HST.out.2.2.1,HST.out.2.2.2] at HS
        clear hn hnf
        go_upto_region 18 with fail
        go_quiet (first|(go_at_call 16;exact Calls.quiet_of_same (HCm.out _)))
        have HBq:Hid (Below w12.heap.size w12 (wr.drewN nq)):=qN HBr.out nq
        have c2:=HC1.out _ HBq.out
        generalize wr.drewN nq=wn at*
        clear c1
        go_upto_region 21 with fail
        go_cut [127] from 114 to 126 (fun t127 wc=>∃bv:Bool,t127= .bool bv∧Hid ((bv=true↔na=i∨kR y<kR le)∧Below w12.heap.size w12 wc))
        case first=>
         by_cases hd:na=i
         ·have hdb:((na:Int)==(i:Int))=true:=by rw [hd];simp
          go_wp2_with fail
          go_meet
          case rel=>exact ⟨true,rfl,⟨fun _=> .inl hd,fun _=>rfl⟩,HBq.out⟩
         ·have hdb:((na:Int)==(i:Int))=false:=by rw [beq_eq_false_iff_ne];omega
          go_wp2_with fail
          refine (uC y _ HY64.out.1).mono ?_
          rintro e wk ⟨rfl,Bk⟩
          have HBk:Hid (Below w12.heap.size w12 wk):=HBq.out.trans (Bk.mono HBq.out.size)
          clear Bk
          go_wp2_with fail
          refine (uC le _ HY64.out.2.1).mono ?_
          rintro e wl ⟨rfl,Bl⟩
          have HBl:Hid (Below w12.heap.size w12 wl):=HBk.out.trans (Bl.mono HBk.out.size)
          clear Bl
          generalize kR y=ky at*
          generalize kR le=kl at*
          go_wp2_with fail
          go_meet
          case rel=>exact ⟨decide (ky<kl),rfl,by rw [decide_eq_true_iff];exact ⟨.inr,fun h=>h.resolve_left hd⟩,HBl.out⟩
        case rest=>
         obtain ⟨bv,rfl,HBV⟩:=hcut
         go_upto_if 127 with fail
         go_cut [14] from 128 to 132 (fun t14 wc=>t14= .int .u64 (leV v (i+1):Int)∧Hid (Below w12.heap.size w12 wc))
         case first=>
          have c3:=HC1.out _ HBV.out.2
          cases bv with
          |true=>
           have HE:=qA (HS.out.2.1)
           rw [if_pos (HBV.out.1.1 rfl)] at HE
           go_wp2_with fail
           go_meet
           case rel=>exact ⟨by rw [HE.out],HBV.out.2⟩
          |false=>
           have HE:=qA (HS.out.2.1)
           rw [if_neg (fun h=>by have:=HBV.out.1.2 h;cases this)] at HE
           go_wp2_with fail
           go_meet
           case rel=>exact ⟨by rw [HE.out],HBV.out.2⟩
         case rest=>
          obtain ⟨rfl,HB14⟩:=hcut
          have c4:=HC1.out _ HB14.out
          clear HBV
          obtain ⟨le2,hle2'⟩:∃x,leV v (i+1)=x:=⟨_,rfl⟩
          have hle2:=qA hle2'
          rw [hle2']
          clear hle2'
          go_upto_region 23 with fail
          go_cut [146] from 133 to 145 (fun t146 wc=>∃bv:Bool,t146= .bool bv∧Hid ((bv=true↔na=i∨kR gr<kR y)∧Below w12.heap.size w12 wc))
          case first=>
           by_cases hd:na=i
           ·have hdb:((na:Int)==(i:Int))=true:=by rw [hd];simp
            go_wp2_with fail
            go_meet
            case rel=>exact ⟨true,rfl,⟨fun _=> .inl hd,fun _=>rfl⟩,HB14.out⟩
           ·have hdb:((na:Int)==(i:Int))=false:=by rw [beq_eq_false_iff_ne];omega
            go_wp2_with fail
            refine (uC y _ HY64.out.1).mono ?_
            rintro e wk ⟨rfl,Bk⟩
            have HBk:Hid (Below w12.heap.size w12 wk):=HB14.out.trans (Bk.mono HB14.out.size)
            clear Bk
            go_wp2_with fail
            refine (uC gr _ HY64.out.2.2).mono ?_
            rintro e wl ⟨rfl,Bl⟩
            have HBl:Hid (Below w12.heap.size w12 wl):=HBk.out.trans (Bl.mono HBk.out.size)
            clear Bl
            generalize kR y=ky at*
            generalize kR gr=kl at*
            go_wp2_with fail
            go_meet
            case rel=>exact ⟨decide (kl<ky),rfl,by rw [decide_eq_true_iff];exact ⟨.inr,fun h=>h.resolve_left hd⟩,HBl.out⟩
          case rest=>
           obtain ⟨bv,rfl,HBV⟩:=hcut
           go_upto_if 146 with fail
           have c5:=HC1.out _ HBV.out.2
           have HE:=qA (HS.out.2.2)
           cases bv with
           |true=>
            rw [if_pos (HBV.out.1.1 rfl)] at HE
            go_wp2_with fail
            go_roundw
            case rel=>exact ⟨i+1,na,le2,y,by simp,rfl,rfl,rfl,⟨hlt,by rw [HS.out.1],hle2.out,HE.out⟩,HBV.out.2⟩
            case measure=>simp [intOf];omega
           |false=>
            rw [if_neg (fun h=>by have:=HBV.out.1.2 h;cases this)] at HE
            go_wp2_with fail
            go_roundw
            case rel=>exact ⟨i+1,na,le2,gr,by simp,rfl,rfl,rfl,⟨hlt,by rw [HS.out.1],hle2.out,HE.out⟩,HBV.out.2⟩
            case measure=>simp [intOf];omega
      ·obtain rfl:i=m+1:=by have:=hI.out.1.1;omega
       have HF:Hid (na=NA∧le=LE∧gr=GR∧Below w12.heap.size w12 wr):=⟨by rw [←hI.out.1.2.1];exact HSM.out.1.1,by rw [←hI.out.1.2.2.1];exact HSM.out.1.2.1,by rw [←hI.out.1.2.2.2];exact HSM.out.1.2.2,hI.out.2⟩
       obtain ⟨rfl,rfl,rfl,-⟩:=HF.out
       clear hI
       go_wp2_with fail
       go_meet
       case rel=>exact ⟨rfl,rfl,rfl,HF.out.2.2.2⟩
   case rest=>
    obtain ⟨rfl,rfl,rfl,HB13⟩:=hcut
    as_aux_lemma=>
     have hB13:Below w4.heap.size w4 wc:=HW12.out.2.trans (HB13.out.mono HW12.out.2.size)
     obtain ⟨b,o,e1,hc⟩:=HP4.out (by omega)
     simp only [Option.some.injEq,Addr.mk.injEq,and_true] at e1
     obtain ⟨rfl,rfl⟩:=e1
     have c1:wc.cell? ⟨gq,0,none⟩=some (.int .i64 FI):=by
      have:=(hc 0 (by omega)).1
      rw [HSM.out.2.1] at this
      rw [hB13.cell (p:=⟨gq,0,none⟩) (block_lt_of_cell this)];exact this
     have c2:wc.cell? ⟨gq,m*2,none⟩=some (.int .i64 LA):=by
      have:=(hc m (by omega)).1
      rw [HSM.out.2.2,Nat.zero_add] at this
      rw [hB13.cell (p:=⟨gq,m*2,none⟩) (block_lt_of_cell this)];exact this
     have HR13:Hid (wc.heap[r]?=some (.cells #[.int .i64 (kd:Int),.int .i64 ((m:Int)+1),.int .i64 (NA:Int),.int .i64 FI,.int .i64 LA,.int .u64 (LE:Int),.int .u64 (GR:Int),.int .i64 (L:Int)] 38 (0,0))):=by
      show _=_
      rw [HB13.out.block r (qB HW12.out.1)];exact HW12.out.1
     have HB13':=qA hB13
     have wm:IntKind.i64.wrap (m:Int)=(m:Int):=by rw [IntKind.wrap_i64];omega
     have hml:(m:Int)<(m:Int)+1:=by omega
     clear hc hB13
     go_upto_region 25 with fail
     have HS1:Hid (∀w1,Below wc.heap.size wc w1→w1.cell? ⟨gq,0,none⟩=some (.int .i64 FI)∧w1.cell? ⟨gq,m*2,none⟩=some (.int .i64 LA)):=fun w1 hB=>⟨by rw [hB.cell (p:=⟨gq,0,none⟩) (block_lt_of_cell c1)];exact c1,by rw [hB.cell (p:=⟨gq,m*2,none⟩) (block_lt_of_cell c2)];exact c2⟩
     clear c1 c2
     obtain ⟨x,hx⟩:∃x,wc.heap.size=x:=⟨_,rfl⟩
     have HX:=qA hx
     refine wp_region_held_drew (S:=fun w'=>w'.cell? ⟨gq,0,none⟩=some (.int .i64 FI)∧w'.cell? ⟨gq,m*2,none⟩=some (.int .i64 LA)) (by kernel_rfl) (HS1.out _ (qN (Below.refl _ _) 1)) (fun hHeld=>?_)
     refine wpAnyH_take (i:=0) (v:=?_) rfl (by kernel_rfl) (by kernel_rfl) (by kernel_rfl) (fun _ _ _ h=>h) (Or.inl ⟨by rfl,?_⟩) hHeld ?_
     rotate_left
     ·(intro wq hSw;(try dsimp only at hSw);obtain ⟨s1,s2⟩:=hSw;(go_simp<;>with_reducible rfl))
     try simp only [Act.put,sA,sB,sC,sD,sE,sF]
     refine wpAnyH_take (i:=1) (v:=?_) rfl (by kernel_rfl) (by kernel_rfl) (by kernel_rfl) (fun _ _ _ h=>h) (Or.inl ⟨by rfl,?_⟩) hHeld ?_
     rotate_left
     ·(intro wq hSw;(try dsimp only at hSw);obtain ⟨s1,s2⟩:=hSw;(go_simp<;>with_reducible rfl))
     try simp only [Act.put,sA,sB,sC,sD,sE,sF]
     refine wpAnyH_take (i:=2) (v:=?_) rfl (by kernel_rfl) (by kernel_rfl) (by kernel_rfl) (fun _ _ _ h=>h) (Or.inl ⟨by rfl,?_⟩) hHeld ?_
     rotate_left
     ·(intro wq hSw;(try dsimp only at hSw);obtain ⟨s1,s2⟩:=hSw;(go_simp<;>with_reducible rfl))
     try simp only [Act.put,sA,sB,sC,sD,sE,sF]
     refine wpAnyH_take (i:=3) (v:=?_) rfl (by kernel_rfl) (by kernel_rfl) (by kernel_rfl) (fun _ _ _ h=>h) (Or.inl ⟨by rfl,?_⟩) hHeld ?_
     rotate_left
     ·(intro wq hSw;(try dsimp only at hSw);obtain ⟨s1,s2⟩:=hSw;(go_simp<;>with_reducible rfl))
     try simp only [Act.put,sA,sB,sC,sD,sE,sF]
     refine wpAnyH_take (i:=4) (v:=?_) rfl (by kernel_rfl) (by kernel_rfl) (by kernel_rfl) (fun _ _ _ h=>h) (Or.inl ⟨by rfl,?_⟩) hHeld ?_
     rotate_left
     ·(intro wq hSw;(try dsimp only at hSw);obtain ⟨s1,s2⟩:=hSw;(go_simp<;>with_reducible rfl))
     try simp only [Act.put,sA,sB,sC,sD,sE,sF]
     refine wpAnyH_take (i:=5) (v:=?_) rfl (by kernel_rfl) (by kernel_rfl) (by kernel_rfl) (fun _ _ _ h=>h) (Or.inl ⟨by rfl,?_⟩) hHeld ?_
     rotate_left
     ·(intro wq hSw;(try dsimp only at hSw);obtain ⟨s1,s2⟩:=hSw;(go_simp<;>with_reducible rfl))
     try simp only [Act.put,sA,sB,sC,sD,sE,sF]
     refine wpAnyH_take (i:=6) (v:=?_) rfl (by kernel_rfl) (by kernel_rfl) (by kernel_rfl) (fun _ _ _ h=>h) (Or.inl ⟨by rfl,?_⟩) hHeld ?_
     rotate_left
     ·(intro wq hSw;(try dsimp only at hSw);obtain ⟨s1,s2⟩:=hSw;(go_simp<;>with_reducible rfl))
     try simp only [Act.put,sA,sB,sC,sD,sE,sF]
     refine wpAnyH_take (i:=7) (v:=?_) rfl (by kernel_rfl) (by kernel_rfl) (by kernel_rfl) (fun _ _ _ h=>h) (Or.inl ⟨by rfl,?_⟩) hHeld ?_
     rotate_left
     ·(intro wq hSw;(try dsimp only at hSw);obtain ⟨s1,s2⟩:=hSw;(go_simp<;>with_reducible rfl))
     try simp only [Act.put,sA,sB,sC,sD,sE,sF]
     refine wpAnyH_take (i:=8) (v:=?_) rfl (by kernel_rfl) (by kernel_rfl) (by kernel_rfl) (fun _ _ _ h=>h) (Or.inl ⟨by rfl,?_⟩) hHeld ?_
     rotate_left
     ·(intro wq hSw;(try dsimp only at hSw);obtain ⟨s1,s2⟩:=hSw;(go_simp<;>with_reducible rfl))
     try simp only [Act.put,sA,sB,sC,sD,sE,sF]
     refine wpAnyH_take (i:=9) (v:=?_) rfl (by kernel_rfl) (by kernel_rfl) (by kernel_rfl) (fun _ _ _ h=>h) (Or.inl ⟨by rfl,?_⟩) hHeld ?_
     rotate_left
     ·(intro wq hSw;(try dsimp only at hSw);obtain ⟨s1,s2⟩:=hSw;(go_simp<;>with_reducible rfl))
     try simp only [Act.put,sA,sB,sC,sD,sE,sF]
     refine wpAnyH_take (i:=10) (v:=?_) rfl (by kernel_rfl) (by kernel_rfl) (by kernel_rfl) (fun _ _ _ h=>h) (Or.inl ⟨by rfl,?_⟩) hHeld ?_
     rotate_left
     ·(intro wq hSw;(try dsimp only at hSw);obtain ⟨s1,s2⟩:=hSw;(go_simp<;>with_reducible rfl))
     try simp only [Act.put,sA,sB,sC,sD,sE,sF]
     refine wpAnyH_take (i:=11) (v:=?_) rfl (by kernel_rfl) (by kernel_rfl) (by kernel_rfl) (fun _ _ _ h=>h) (Or.inl ⟨by rfl,?_⟩) hHeld ?_
     rotate_left
     ·(intro wq hSw;(try dsimp only at hSw);obtain ⟨s1,s2⟩:=hSw;(go_simp<;>with_reducible rfl))
     try simp only [Act.put,sA,sB,sC,sD,sE,sF]
     refine wpAnyH_take (i:=12) (v:=?_) rfl (by kernel_rfl) (by kernel_rfl) (by kernel_rfl) (fun _ _ _ h=>h) (Or.inl ⟨by rfl,?_⟩) hHeld ?_
     rotate_left
     ·(intro wq hSw;(try dsimp only at hSw);obtain ⟨s1,s2⟩:=hSw;(go_simp<;>with_reducible rfl))
     try simp only [Act.put,sA,sB,sC,sD,sE,sF]
     refine wpAnyH_take (i:=13) (v:=?_) rfl (by kernel_rfl) (by kernel_rfl) (by kernel_rfl) (fun _ _ _ h=>h) (Or.inl ⟨by rfl,?_⟩) hHeld ?_
     rotate_left
     ·(intro wq hSw;(try dsimp only at hSw);obtain ⟨s1,s2⟩:=hSw;(go_simp<;>with_reducible rfl))
     try simp only [Act.put,sA,sB,sC,sD,sE,sF]
     refine wpAnyH_take (i:=14) (v:=?_) rfl (by kernel_rfl) (by kernel_rfl) (by kernel_rfl) (fun _ _ _ h=>h) (Or.inl ⟨by rfl,?_⟩) hHeld ?_
     rotate_left
     ·(intro wq hSw;(try dsimp only at hSw);obtain ⟨s1,s2⟩:=hSw;(go_simp<;>with_reducible rfl))
     try simp only [Act.put,sA,sB,sC,sD,sE,sF]
     refine wpAnyH_take (i:=15) (v:=?_) rfl (by kernel_rfl) (by kernel_rfl) (by kernel_rfl) (fun _ _ _ h=>h) (Or.inl ⟨by rfl,?_⟩) hHeld ?_
     rotate_left
     ·(intro wq hSw;(try dsimp only at hSw);obtain ⟨s1,s2⟩:=hSw;(go_simp<;>with_reducible rfl))
     try simp only [Act.put,sA,sB,sC,sD,sE,sF]
     refine wpAnyH_take (i:=16) (v:=?_) rfl (by kernel_rfl) (by kernel_rfl) (by kernel_rfl) (fun _ _ _ h=>h) (Or.inl ⟨by rfl,?_⟩) hHeld ?_
     rotate_left
     ·(intro wq hSw;(try dsimp only at hSw);obtain ⟨s1,s2⟩:=hSw;(go_simp<;>with_reducible rfl))
     try simp only [Act.put,sA,sB,sC,sD,sE,sF]
     refine wpAnyH_take (i:=17) (v:=?_) rfl (by kernel_rfl) (by kernel_rfl) (by kernel_rfl) (fun _ _ _ h=>h) (Or.inl ⟨by rfl,?_⟩) hHeld ?_
     rotate_left
     ·(intro wq hSw;(try dsimp only at hSw);obtain ⟨s1,s2⟩:=hSw;(go_simp<;>with_reducible rfl))
     try simp only [Act.put,sA,sB,sC,sD,sE,sF]
     refine wpAnyH_take (i:=18) (v:=?_) rfl (by kernel_rfl) (by kernel_rfl) (by kernel_rfl) (fun _ _ _ h=>h) (Or.inl ⟨by rfl,?_⟩) hHeld ?_
     rotate_left
     ·(intro wq hSw;(try dsimp only at hSw);obtain ⟨s1,s2⟩:=hSw;(go_simp<;>with_reducible rfl))
     try simp only [Act.put,sA,sB,sC,sD,sE,sF]
     refine wpAnyH_ready (rs:=[19,20]) (by kernel_rfl) (by simp) ?_
     refine AllReadyH.cons rfl (fun K hK=>?_) (AllReadyH.cons rfl (fun K hK=>?_) AllReadyH.nil)
     ·(try rw [if_pos (by rfl)])
      refine bX 38 #[(0,Operand.tmp 152),(1,Operand.tmp 154),(2,Operand.tmp 155),(3,Operand.tmp 159),(4,Operand.tmp 166),(5,Operand.tmp 167),(6,Operand.tmp 168),(7,Operand.tmp 170)] [(0,.int .i64 (kd:Int)),(1,.int .i64 ((m:Int)+1)),(2,.int .i64 (NA:Int)),(3,.int .i64 FI),(4,.int .i64 LA),(5,.int .u64 (LE:Int)),(6,.int .u64 (GR:Int)),(7,.int .i64 (L:Int))] #[.int .i64 (kd:Int),.int .i64 ((m:Int)+1),.int .i64 (NA:Int),.int .i64 FI,.int .i64 LA,.int .u64 (LE:Int),.int .u64 (GR:Int),.int .i64 (L:Int)] rfl (by kernel_rfl) (dC _ _ _ _ _ _ _ _) ?_
      refine hK.out _ _ (HS1.out _ (qN (Below.refl _ _) 1)) (fun hHeld=>?_)
      clear hK K
      try simp only [Act.put,sA,sB,sC,sD,sE,sF]
      refine wpAnyH_ready (rs:=[20]) (by kernel_rfl) (by simp) ?_
      refine AllReadyH.cons rfl (fun K hK=>?_) AllReadyH.nil
      go_simp
      obtain ⟨W13,hN⟩:∃W13,(wc.alloc (.cells #[.int .i64 0,.int .i64 0,.int .i64 0,.int .i64 0,.int .i64 0,.int .u64 0,.int .u64 0,.int .i64 0] 38)).drew=W13:=⟨_,rfl⟩
      have HN:Hid (W13.heap[x]?=some (.cells #[.int .i64 0,.int .i64 0,.int .i64 0,.int .i64 0,.int .i64 0,.int .u64 0,.int .u64 0,.int .i64 0] 38 (0,0))∧Below wc.heap.size wc W13):=by rw [←hN,←hx];exact ⟨heap_alloc_new _ _,((Below.refl _ _).alloc (Nat.le_refl _) _).drew⟩
      (try rw [hN])
      (try rw [hx])
      clear hN hx
      refine hK.out _ _ (HS1.out _ HN.out.2) (fun hHeld=>?_)
      clear hK K
      try simp only [Act.put,sA,sB,sC,sD,sE,sF]
      refine wpAnyH_ready (rs:=[21]) (by kernel_rfl) (by simp) ?_
      refine AllReadyH.cons rfl (fun K hK=>?_) AllReadyH.nil
      refine wp_store_row 38 (.tmp 19) (.tmp 171) rfl x #[.int .i64 (kd:Int),.int .i64 ((m:Int)+1),.int .i64 (NA:Int),.int .i64 FI,.int .i64 LA,.int .u64 (LE:Int),.int .u64 (GR:Int),.int .i64 (L:Int)] (by kernel_rfl) (by kernel_rfl) 38 #[.int .i64 0,.int .i64 0,.int .i64 0,.int .i64 0,.int .i64 0,.int .u64 0,.int .u64 0,.int .i64 0] HN.out.1 (by kernel_rfl) rfl (by kernel_rfl) ?_
      obtain ⟨WF,hWF⟩:∃WF,W13.setRow x #[.int .i64 (kd:Int),.int .i64 ((m:Int)+1),.int .i64 (NA:Int),.int .i64 FI,.int .i64 LA,.int .u64 (LE:Int),.int .u64 (GR:Int),.int .i64 (L:Int)]=WF:=⟨_,rfl⟩
      have HFR:Hid (WF.heap[x]?=some (.cells #[.int .i64 (kd:Int),.int .i64 ((m:Int)+1),.int .i64 (NA:Int),.int .i64 FI,.int .i64 LA,.int .u64 (LE:Int),.int .u64 (GR:Int),.int .i64 (L:Int)] 38 (0,0))∧Below wc.heap.size wc WF):=by rw [←hWF];exact ⟨setRow_heap _ _ _ _ _ _ HN.out.1,kX HN.out.2 _ _ (Nat.le_of_eq HX.out)⟩
      rw [hWF]
      clear hWF HN
      refine hK.out _ _ (HS1.out _ HFR.out.2) (fun hHeld=>?_)
      clear hK K
      try simp only [Act.put,sA,sB,sC,sD,sE,sF]
      refine wpAnyH_done (by kernel_rfl) ?_ _
      have HRF:Hid (WF.heap[r]?=some (.cells #[.int .i64 (kd:Int),.int .i64 ((m:Int)+1),.int .i64 (NA:Int),.int .i64 FI,.int .i64 LA,.int .u64 (LE:Int),.int .u64 (GR:Int),.int .i64 (L:Int)] 38 (0,0))∧Below w.heap.size w WF):=⟨by rw [HFR.out.2.block r (qB HR13.out)];exact HR13.out,(HB4w.out.trans (HB13'.out.mono HB4w.out.size)).trans (HFR.out.2.mono (HB4w.out.trans (HB13'.out.mono HB4w.out.size)).size)⟩
      obtain ⟨o0,o1,o2,o3,o4,o5,o6,o7⟩:=rowcells8 HRF.out.1
      obtain ⟨u0,u1,u2,u3,u4,u5,u6,u7⟩:=rowcells8 HFR.out.1
      have HWK:=qA (pQ WF (HT.out.below HRF.out.2) (HC.out.below HRF.out.2))
      have HBF:=qA HRF.out.2
      clear HFR HRF HR13 HS1
      go_wp2_with (first|(go_at_call 7;refine HWK.out.mono ?_;rintro e wz ⟨rfl,Bz⟩;have HF:=qA (HBF.out.trans (Bz.mono HBF.out.size));clear Bz))
      go_ret
      exact ⟨by simp,HF.out⟩
     ·go_simp
      obtain ⟨W13,hN⟩:∃W13,(wc.alloc (.cells #[.int .i64 0,.int .i64 0,.int .i64 0,.int .i64 0,.int .i64 0,.int .u64 0,.int .u64 0,.int .i64 0] 38)).drew=W13:=⟨_,rfl⟩
      have HN:Hid (W13.heap[x]?=some (.cells #[.int .i64 0,.int .i64 0,.int .i64 0,.int .i64 0,.int .i64 0,.int .u64 0,.int .u64 0,.int .i64 0] 38 (0,0))∧Below wc.heap.size wc W13):=by rw [←hN,←hx];exact ⟨heap_alloc_new _ _,((Below.refl _ _).alloc (Nat.le_refl _) _).drew⟩
      (try rw [hN])
      (try rw [hx])
      clear hN hx
      refine hK.out _ _ (HS1.out _ HN.out.2) (fun hHeld=>?_)
      clear hK K
      try simp only [Act.put,sA,sB,sC,sD,sE,sF]
      refine wpAnyH_ready (rs:=[19]) (by kernel_rfl) (by simp) ?_
      refine AllReadyH.cons rfl (fun K hK=>?_) AllReadyH.nil
      (try rw [if_pos (by rfl)])
      refine bX 38 #[(0,Operand.tmp 152),(1,Operand.tmp 154),(2,Operand.tmp 155),(3,Operand.tmp 159),(4,Operand.tmp 166),(5,Operand.tmp 167),(6,Operand.tmp 168),(7,Operand.tmp 170)] [(0,.int .i64 (kd:Int)),(1,.int .i64 ((m:Int)+1)),(2,.int .i64 (NA:Int)),(3,.int .i64 FI),(4,.int .i64 LA),(5,.int .u64 (LE:Int)),(6,.int .u64 (GR:Int)),(7,.int .i64 (L:Int))] #[.int .i64 (kd:Int),.int .i64 ((m:Int)+1),.int .i64 (NA:Int),.int .i64 FI,.int .i64 LA,.int .u64 (LE:Int),.int .u64 (GR:Int),.int .i64 (L:Int)] rfl (by kernel_rfl) (dC _ _ _ _ _ _ _ _) ?_
      refine hK.out _ _ (HS1.out _ HN.out.2) (fun hHeld=>?_)
      clear hK K
      try simp only [Act.put,sA,sB,sC,sD,sE,sF]
      refine wpAnyH_ready (rs:=[21]) (by kernel_rfl) (by simp) ?_
      refine AllReadyH.cons rfl (fun K hK=>?_) AllReadyH.nil
      refine wp_store_row 38 (.tmp 19) (.tmp 171) rfl x #[.int .i64 (kd:Int),.int .i64 ((m:Int)+1),.int .i64 (NA:Int),.int .i64 FI,.int .i64 LA,.int .u64 (LE:Int),.int .u64 (GR:Int),.int .i64 (L:Int)] (by kernel_rfl) (by kernel_rfl) 38 #[.int .i64 0,.int .i64 0,.int .i64 0,.int .i64 0,.int .i64 0,.int .u64 0,.int .u64 0,.int .i64 0] HN.out.1 (by kernel_rfl) rfl (by kernel_rfl) ?_
      obtain ⟨WF,hWF⟩:∃WF,W13.setRow x #[.int .i64 (kd:Int),.int .i64 ((m:Int)+1),.int .i64 (NA:Int),.int .i64 FI,.int .i64 LA,.int .u64 (LE:Int),.int .u64 (GR:Int),.int .i64 (L:Int)]=WF:=⟨_,rfl⟩
      have HFR:Hid (WF.heap[x]?=some (.cells #[.int .i64 (kd:Int),.int .i64 ((m:Int)+1),.int .i64 (NA:Int),.int .i64 FI,.int .i64 LA,.int .u64 (LE:Int),.int .u64 (GR:Int),.int .i64 (L:Int)] 38 (0,0))∧Below wc.heap.size wc WF):=by rw [←hWF];exact ⟨setRow_heap _ _ _ _ _ _ HN.out.1,kX HN.out.2 _ _ (Nat.le_of_eq HX.out)⟩
      rw [hWF]
      clear hWF HN
      refine hK.out _ _ (HS1.out _ HFR.out.2) (fun hHeld=>?_)
      clear hK K
      try simp only [Act.put,sA,sB,sC,sD,sE,sF]
      refine wpAnyH_done (by kernel_rfl) ?_ _
      have HRF:Hid (WF.heap[r]?=some (.cells #[.int .i64 (kd:Int),.int .i64 ((m:Int)+1),.int .i64 (NA:Int),.int .i64 FI,.int .i64 LA,.int .u64 (LE:Int),.int .u64 (GR:Int),.int .i64 (L:Int)] 38 (0,0))∧Below w.heap.size w WF):=⟨by rw [HFR.out.2.block r (qB HR13.out)];exact HR13.out,(HB4w.out.trans (HB13'.out.mono HB4w.out.size)).trans (HFR.out.2.mono (HB4w.out.trans (HB13'.out.mono HB4w.out.size)).size)⟩
      obtain ⟨o0,o1,o2,o3,o4,o5,o6,o7⟩:=rowcells8 HRF.out.1
      obtain ⟨u0,u1,u2,u3,u4,u5,u6,u7⟩:=rowcells8 HFR.out.1
      have HWK:=qA (pQ WF (HT.out.below HRF.out.2) (HC.out.below HRF.out.2))
      have HBF:=qA HRF.out.2
      clear HFR HRF HR13 HS1
      go_wp2_with (first|(go_at_call 7;refine HWK.out.mono ?_;rintro e wz ⟨rfl,Bz⟩;have HF:=qA (HBF.out.trans (Bz.mono HBF.out.size));clear Bz))
      go_ret
      exact ⟨by simp,HF.out⟩
end Go.Proofs.YtkpmalfigmimaaaGreatDoor
