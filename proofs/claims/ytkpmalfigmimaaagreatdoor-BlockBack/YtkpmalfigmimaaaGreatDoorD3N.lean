import Derived.Test.YtkpmalfigmimaaaGreatDoorD2L
import Derived.Test.YtkpmalfigmimaaaGreatDoorT1S
import Derived.Deep.AppendLies
import Derived.OwnWalk
import Derived.Laws.AppendOwnNone
import Derived.Test.YtkpmalfigmimaaaGreatDoorD1A
import Derived.Test.YtkpmalfigmimaaaGreatDoorT1B
set_option linter.unusedVariables false
set_option linter.unusedSimpArgs false
set_option maxRecDepth 100000
set_option maxHeartbeats 8000000
namespace Go.Proofs.YtkpmalfigmimaaaGreatDoor
open Go.RowKit
open M
theorem wU (n:Int) (w:World):Calls Tryz.prog 13 #[.int .i64 n] w fun e w'=>e= .returned (.int .i64 n)∧w'=w:=by
 go_enter Tryz.func13,Tryz.ntmps13
 go_wp2
 go_ret
 exact ⟨rfl,rfl⟩
theorem wM (p q:Option Addr) (n cap cap':Nat) (t:Nat→Int) (v:Nat→Nat) (w:World) (h:uB w p n t v) (h':uB w q n t v) (hn:n≤1000000):
  Calls Tryz.prog 14 #[.slice p n cap,.slice q n cap'] w fun e w'=>e= .returned (.bool true)∧∃m,w'=w.drewN m:=by
 have H:=qA h
 have H':=qA h'
 clear h h'
 go_enter Tryz.func14,Tryz.ntmps14
 go_wp2_with fail
 go_loopw [5] (fun i wr=>∃k:Nat,i= .int .i64 (k:Int)∧Hid (k≤n)∧Hid (∃m,wr=w.drewN m)) (fun i _=>n-(intOf i).toNat)
 case atStart=>exact ⟨0,rfl,Nat.zero_le _,0,rfl⟩
 case round=>
  obtain ⟨k,rfl,hk,hm⟩:=hrel
  by_cases hlt:k<n
  ·obtain ⟨b,o,rfl,hc⟩:=H.out (by omega)
   obtain ⟨b',o',rfl,hc'⟩:=H'.out (by omega)
   obtain ⟨x,hx⟩:∃x,t k=x:=⟨_,rfl⟩
   obtain ⟨y,hy⟩:∃y,v k=y:=⟨_,rfl⟩
   have c1:wr.cell? ⟨b,o+k*2,none⟩=some (.int .i64 x):=by obtain ⟨m,rfl⟩:=hm.out;rw [←hx];exact (hc k hlt).1
   have c2:wr.cell? ⟨b,o+k*2+1,none⟩=some (.int .u64 (y:Int)):=by obtain ⟨m,rfl⟩:=hm.out;rw [←hy];exact (hc k hlt).2
   have c3:wr.cell? ⟨b',o'+k*2,none⟩=some (.int .i64 x):=by obtain ⟨m,rfl⟩:=hm.out;rw [←hx];exact (hc' k hlt).1
   have c4:wr.cell? ⟨b',o'+k*2+1,none⟩=some (.int .u64 (y:Int)):=by obtain ⟨m,rfl⟩:=hm.out;rw [←hy];exact (hc' k hlt).2
   clear hx hy hc hc'
   go_wp2_with fail
   go_region
   go_wp2_with fail
   go_roundw
   case rel=>exact ⟨k+1,by simp,hlt,by obtain ⟨m,rfl⟩:=hm.out;exact ⟨m+1,rfl⟩⟩
   case measure=>simp [intOf];omega
  ·go_wp2_with fail
   go_ret
   exact ⟨rfl,hm.out⟩
def wkT (i:Nat):Int:=if i=0 then -5 else 9
def wkV (i:Nat):Nat:=if i=0 then 1 else 18442240474082181121
theorem qLL:Rises wkT (1+1):=fun i hi=>by
 obtain rfl:i=0:=by omega
 decide
theorem qBV:qEE ((1:Nat):Int) (1+1) wkT wkV:=⟨.inl rfl,by omega,by omega,qLL,fun h=>by cases h⟩
theorem qLK (i:Nat) (h:i<1+1):I64 (wkT i):=by
 obtain rfl|rfl:i=0∨i=1:=by omega
 ·unfold I64 wkT;decide
 ·unfold I64 wkT;decide
theorem qLC (i:Nat) (h:i<1+1):wkV i<18446744073709551616:=by
 obtain rfl|rfl:i=0∨i=1:=by omega
 ·decide
 ·decide
theorem qGG:kO wkV 2=1∧leV wkV 2=1∧grV wkV 2=1:=by decide +kernel
theorem pQ (w:World) (hT:qT w) (hC:nG w):Calls Tryz.prog 7 #[] w fun e w'=>e= .returned (.bool true)∧Below w.heap.size w w':=by
 obtain ⟨g,hg⟩:∃g,w.heap.size=g:=⟨_,rfl⟩
 obtain ⟨W1,hW1⟩:∃W1,w.alloc (.cells #[.int .i64 (-5),.int .u64 1,.int .i64 9,.int .u64 18442240474082181121] 47)=W1:=⟨_,rfl⟩
 have HW1:Hid (uB W1 (some ⟨g,0,none⟩) 2 wkT wkV∧Below w.heap.size w W1∧qT W1∧nG W1):=by
  have hA:Below w.heap.size w W1:=by rw [←hW1];exact (Below.refl _ _).alloc (Nat.le_refl _) _
  have hn:W1.heap[g]?=some (.cells #[.int .i64 (-5),.int .u64 1,.int .i64 9,.int .u64 18442240474082181121] 47 (0,0)):=by rw [←hW1,←hg];exact heap_alloc_new _ _
  refine ⟨fun _=>⟨g,0,rfl,fun i hi=>?_⟩,hA,hT.below hA,hC.below hA⟩
  obtain rfl|rfl:i=0∨i=1:=by omega
  ·exact ⟨by rw [cell_of_row _ _ _ _ _ _ hn];rfl,by rw [cell_of_row _ _ _ _ _ _ hn];rfl⟩
  ·exact ⟨by rw [cell_of_row _ _ _ _ _ _ hn];rfl,by rw [cell_of_row _ _ _ _ _ _ hn];rfl⟩
 have HE:=qA (wB 1 (some ⟨g,0,none⟩) 1 2 wkT wkV W1 HW1.out.1 qBV qLK qLC HW1.out.2.2.1 HW1.out.2.2.2)
 clear hT hC
 go_enter Tryz.func7,Tryz.ntmps7
 go_wp2_with fail
 (try rw [hW1])
 (try rw [hg])
 clear hW1 hg
 refine HE.out.mono ?_
 rintro e w2 ⟨co,vb,gb,rfl,hrow,hval,hvb,B2⟩
 have HB2:Hid (Below w.heap.size w w2):=HW1.out.2.1.trans (B2.mono HW1.out.2.1.size)
 have HP2:=qA (HW1.out.1.below B2)
 have hT2:=HW1.out.2.2.1.below B2
 have hC2:=HW1.out.2.2.2.below B2
 have hvl:=xS 1 2 wkV co vb qLC hval
 have htl:(packed (tbn wkT (1+1))).length≤18:=xR wkT (1+1)
 have hbl:(gZ 1 (1+1) wkT wkV co vb).length=(packed (tbn wkT (1+1))).length+vb.length+55:=mQ 1 1 wkT wkV co vb
 obtain ⟨N,hN⟩:∃N,(gZ 1 (1+1) wkT wkV co vb).length=N:=⟨_,rfl⟩
 have hNb:55≤N∧N≤1000:=by rw [←hN,hbl];omega
 have hcells:qS w2 gb 0 (gZ 1 (1+1) wkT wkV co vb):=fun i hi=>by
  rw [Nat.zero_add,cell_of_row _ _ _ _ _ _ hrow];simp [qM,List.getD,hi]
 have HD:Hid (∀K,N=K+51→Calls Tryz.prog 10 #[.slice (some ⟨gb,0,none⟩) N N] w2 (rD 1 (1+1) wkT wkV w2)):=fun K hK=>by
  have:=nY 1 1 wkT wkV co vb gb 0 N K w2 hcells hN.symm (by omega) (by omega) qBV qLK qLC hval hvb hT2 hC2
  rw [←hK] at this;exact this
 have HH:=qA (fun (w3:World) (hB:Below w2.heap.size w2 w3)=>lO 1 1 wkT wkV co vb gb 0 N N w3 (hcells.below hB) (by omega) (Nat.le_refl _) (by omega) qBV qLK qLC hval (hC2.below hB))
 rw [hN] at HH⊢
 have HNB:=qA hNb
 clear B2 hT2 hC2 hvl htl hbl hN hNb hcells hrow hval hvb HE HW1
 have hN1:55≤N:=HNB.out.1
 have hN2:N≤1000:=HNB.out.2
 go_wp2_with fail
 refine (HD.out (N-51) (by omega)).mono ?_
 rintro e w3 ⟨gp,rfl,hp,B3⟩
 have HB3:Hid (Below w.heap.size w w3):=HB2.out.trans (B3.mono HB2.out.size)
 have HP3:Hid (uB w3 (some ⟨g,0,none⟩) 2 wkT wkV∧uB w3 (some ⟨gp,0,none⟩) 2 wkT wkV):=⟨HP2.out.below B3,hp⟩
 have HH3:=qA (HH.out w3 B3)
 clear hp B3 HD HH HP2
 go_wp2_with fail
 refine HH3.out.mono ?_
 rintro e w4 ⟨rfl,B4⟩
 have HB4:Hid (Below w.heap.size w w4):=HB3.out.trans (B4.mono HB3.out.size)
 have HP4:Hid (uB w4 (some ⟨g,0,none⟩) 2 wkT wkV∧uB w4 (some ⟨gp,0,none⟩) 2 wkT wkV):=⟨HP3.out.1.below B4,HP3.out.2.below B4⟩
 clear B4 HH3 HP3 HB2 HB3
 rw [show kO wkV (1+1)=1 from qGG.1,show leV wkV (1+1)=1 from qGG.2.1,show grV wkV (1+1)=1 from qGG.2.2,show wkT 0= -5 from rfl,show wkT 1=9 from rfl]
 unfold bhA
 obtain ⟨r,hr⟩:∃r,w4.heap.size=r:=⟨_,rfl⟩
 obtain ⟨W5,hW5⟩:∃W5,w4.alloc (.cells #[.int .i64 1,.int .i64 2,.int .i64 1,.int .i64 (-5),.int .i64 9,.int .u64 1,.int .u64 1,.int .i64 (N:Int)] 38)=W5:=⟨_,rfl⟩
 have HW5:Hid (W5.heap[r]?=some (.cells #[.int .i64 1,.int .i64 2,.int .i64 1,.int .i64 (-5),.int .i64 9,.int .u64 1,.int .u64 1,.int .i64 (N:Int)] 38 (0,0))∧Below w.heap.size w W5∧uB W5 (some ⟨g,0,none⟩) 2 wkT wkV∧uB W5 (some ⟨gp,0,none⟩) 2 wkT wkV):=by
  have hA:Below w4.heap.size w4 W5:=by rw [←hW5];exact (Below.refl _ _).alloc (Nat.le_refl _) _
  exact ⟨by rw [←hW5,←hr];exact heap_alloc_new _ _,HB4.out.trans (hA.mono HB4.out.size),HP4.out.1.below hA,HP4.out.2.below hA⟩
 go_upto_region 5 with fail
 (try rw [hW5])
 (try rw [hr])
 clear hW5 hr HP4 HB4
 go_wp2_with fail
 refine (wU _ _).mono ?_
 rintro e wn ⟨rfl,hwn⟩
 have hwn:=hwn.symm
 subst hwn
 go_wp2_with fail
 refine (wU _ _).mono ?_
 rintro e wn ⟨rfl,hwn⟩
 have hwn:=hwn.symm
 subst hwn
 go_wp2_with fail
 refine (wU _ _).mono ?_
 rintro e wn ⟨rfl,hwn⟩
 have hwn:=hwn.symm
 subst hwn
 go_wp2_with fail
 refine (wM _ _ 2 _ _ wkT wkV _ HW5.out.2.2.1 HW5.out.2.2.2 (by omega)).mono ?_
 rintro e w6 ⟨rfl,md,rfl⟩
 have k0:(W5.drewN md).cell? ⟨r,0,none⟩=some (.int .i64 1):=by show W5.cell? ⟨r,0,none⟩=_;rw [cell_of_row _ _ _ _ _ _ HW5.out.1];rfl
 have k1:(W5.drewN md).cell? ⟨r,1,none⟩=some (.int .i64 2):=by show W5.cell? ⟨r,1,none⟩=_;rw [cell_of_row _ _ _ _ _ _ HW5.out.1];rfl
 have k2:(W5.drewN md).cell? ⟨r,2,none⟩=some (.int .i64 1):=by show W5.cell? ⟨r,2,none⟩=_;rw [cell_of_row _ _ _ _ _ _ HW5.out.1];rfl
 have k3:(W5.drewN md).cell? ⟨r,3,none⟩=some (.int .i64 (-5)):=by show W5.cell? ⟨r,3,none⟩=_;rw [cell_of_row _ _ _ _ _ _ HW5.out.1];rfl
 have k4:(W5.drewN md).cell? ⟨r,4,none⟩=some (.int .i64 9):=by show W5.cell? ⟨r,4,none⟩=_;rw [cell_of_row _ _ _ _ _ _ HW5.out.1];rfl
 have k5:(W5.drewN md).cell? ⟨r,5,none⟩=some (.int .u64 1):=by show W5.cell? ⟨r,5,none⟩=_;rw [cell_of_row _ _ _ _ _ _ HW5.out.1];rfl
 have k6:(W5.drewN md).cell? ⟨r,6,none⟩=some (.int .u64 1):=by show W5.cell? ⟨r,6,none⟩=_;rw [cell_of_row _ _ _ _ _ _ HW5.out.1];rfl
 have k7:(W5.drewN md).cell? ⟨r,7,none⟩=some (.int .i64 (N:Int)):=by show W5.cell? ⟨r,7,none⟩=_;rw [cell_of_row _ _ _ _ _ _ HW5.out.1];rfl
 have HF:Hid (Below w.heap.size w (W5.drewN md)):=qN HW5.out.2.1 md
 clear HW5
 go_wp2_with fail
 go_ret
 exact ⟨by simp,HF.out⟩
end Go.Proofs.YtkpmalfigmimaaaGreatDoor
namespace Go.Proofs.YtkpmalfigmimaaaGreatDoor
open Go.RowKit
open M
end Go.Proofs.YtkpmalfigmimaaaGreatDoor
namespace Go.Proofs.YtkpmalfigmimaaaGreatDoor
open Go.RowKit
open M
theorem uM {w w':World} {base:Nat} {t:TypeId} {size:Nat} {v:Value} {n:Nat} {xs:List Value} (h:w.ownsRow base t size v n xs) (hk:∀g,v.ownBlock=some g→w'.heap[g]?=w.heap[g]?):w'.ownsRow base t size v n xs:=by
 obtain ⟨h1,h2⟩:=h
 refine ⟨h1,?_⟩
 rcases h2 with h2|⟨g,cap,cur,rfl,h4,h5,h6⟩
 ·exact .inl h2
 ·exact .inr ⟨g,cap,cur,rfl,h4,(hk g rfl).trans h5,h6⟩
theorem yD.news {w:World} {ad:Addr} {n c:Nat} {bs:List Nat} (h:yD w (.slice (some ad) n c) bs):n=bs.length∧∀j u,(qM bs)[j]?=some u→w.cell? (ad.add j)=some u:=by
 rcases h with ⟨h,_⟩|⟨g,o,cap,h,h2⟩
 ·simp at h
 ·simp only [Value.slice.injEq,Option.some.injEq] at h
  obtain ⟨rfl,rfl,rfl⟩:=h
  refine ⟨rfl,fun j u hj=>?_⟩
  have hjl:j<bs.length:=by
   rcases Nat.lt_or_ge j bs.length with h|h
   ·exact h
   ·rw [List.getElem?_eq_none (by simpa [qM] using h)] at hj;simp at hj
  rw [Addr.add_mid,h2 j hjl,←hj]
  simp [qM,hjl]
theorem bA {w w':World} {row:Option Nat} {B:Nat} (hg:w.grownBy w' row) (hr:∀g,row=some g→B≤g) (hB:B≤w.heap.size):Below B w w':=
 ⟨hg.os,hg.tape,hg.output,hg.size,fun k hk=>hg.block k (by omega) (fun e=>by have:=hr k e.symm;omega)⟩
theorem nX (bs:List Nat):∀u∈qM bs,u.oneCell'=true:=by
 intro u hu
 simp only [qM,List.mem_map] at hu
 obtain ⟨n,_,rfl⟩:=hu
 rfl
end Go.Proofs.YtkpmalfigmimaaaGreatDoor
namespace Go.Proofs.YtkpmalfigmimaaaGreatDoor
open Go.RowKit
open M
def qIH (k:Nat):List Nat:=(List.range k).map fun i=>165-i
@[simp] theorem qHA (k:Nat):(qIH k).length=k:=by simp [qIH]
theorem qKT:∃i5,Tryz.prog.info? 5=some i5∧i5.zero=some (.int .u8 0)∧i5.size=1∧i5.bytes=1:=by
 have hz:(Tryz.prog.info? 5).bind (·.zero)=some (.int .u8 0):=by kernel_rfl
 have hs:(Tryz.prog.info? 5).map (·.size)=some 1:=by kernel_rfl
 have hb:(Tryz.prog.info? 5).map (·.bytes)=some 1:=by kernel_rfl
 cases hi:Tryz.prog.info? 5 with
 |none=>simp [hi] at hs
 |some i5=>
  simp only [hi,Option.bind_some,Option.map_some,Option.some.injEq] at hz hs hb
  exact ⟨i5,rfl,hz,hs,hb⟩
end Go.Proofs.YtkpmalfigmimaaaGreatDoor
namespace Go.Proofs.YtkpmalfigmimaaaGreatDoor
open Go.RowKit
open M
structure OB (B:Nat) (w0:World) (bs:List Nat) (v:Value) (wr:World):Prop where
 own:wr.ownsRow B 5 1 v bs.length (qM bs)
 bel:Below B w0 wr
 le:B≤w0.heap.size
theorem OB.nil (w:World):OB w.heap.size w [] (.slice none 0 0) w:=⟨World.ownsRow_nil _ _ _ _,Below.refl _ _,Nat.le_refl _⟩
theorem OB.below {B:Nat} {w0 wr w2:World} {bs:List Nat} {v:Value} (h:OB B w0 bs v wr) (hB:Below wr.heap.size wr w2):OB B w0 bs v w2:=
 ⟨uM h.own fun g hg=>hB.block g (h.own.lt g hg).2,h.bel.trans (hB.mono (Nat.le_trans h.le h.bel.size)),h.le⟩
theorem qD9 (a b:List Nat):qM (a++b)=qM a++qM b:=by simp [qM]
theorem OB.more {B:Nat} {w0 wr w4:World} {bs cs:List Nat} {v v2:Value} (h:OB B w0 bs v wr) (ho:w4.ownsRow B 5 1 v2 (bs.length+cs.length) (qM bs++qM cs)) (hg:wr.grownBy w4 v.ownBlock):OB B w0 (bs++cs) v2 w4:=
 ⟨by rw [List.length_append,qD9];exact ho,h.bel.trans (bA hg (fun g hg=>(h.own.lt g hg).1) (Nat.le_trans h.le h.bel.size)),h.le⟩
theorem qJ7 {w:World} {v:Value} {bs:List Nat} (h:jW w v bs):(v= .slice none 0 0∧bs=[])∨∃ad cap,v= .slice (some ad) bs.length cap∧∀j u,(qM bs)[j]?=some u→w.cell? (ad.add j)=some u:=by
 rcases h with h|⟨ad,cap,rfl,rfl⟩
 ·have h':=h
  rcases h with ⟨rfl,rfl⟩|⟨g,o,cap,rfl,hc⟩
  ·exact .inl ⟨rfl,rfl⟩
  ·exact .inr ⟨_,_,rfl,h'.news.2⟩
 ·exact .inr ⟨ad,cap,rfl,fun j u hj=>by simp [qM] at hj⟩
theorem qGZ (v:Value) (bs:List Nat) (w:World) (h:jW w v bs) (hl:bs.length≤1000000000):
  Calls Tryz.prog 11 #[v] w fun e w'=>∃v2,e= .returned v2∧OB w.heap.size w bs v2 w':=by
 obtain ⟨i5,hi5⟩:=qKT
 have Hi:=qA hi5
 clear hi5
 have HO:Hid (OB w.heap.size w [] (.slice none 0 0) w):=OB.nil w
 have HO1:Hid (w.ownsRow w.heap.size 5 1 (.slice none 0 0) 0 []):=World.ownsRow_nil _ _ _ _
 rcases qJ7 h with ⟨rfl,rfl⟩|⟨ad,cap,rfl,hnews⟩
 ·clear h
  go_enter Tryz.func11,Tryz.ntmps11
  go_wp2_with (at_builtin;refine wpList_append_own_none rfl _ _ _ rfl w.heap.size 5 i5 1 Tryz.underlying28 Hi.out.1 (.slice none 0 0) 0 [] rfl HO1.out rfl ?c6)
  go_ret
  exact ⟨_,rfl,HO.out⟩
 ·have HN:=qA hnews
  clear h hnews
  obtain ⟨n,hn⟩:∃n,bs.length=n:=⟨_,rfl⟩
  rw [hn] at hl⊢
  have Hn:=qA hn
  clear hn
  go_enter Tryz.func11,Tryz.ntmps11
  go_wp2_with (at_builtin;refine wpList_append_own _ rfl _ _ _ rfl w.heap.size 5 i5 (.int .u8 0) 1 1 Tryz.underlying28 Hi.out.1 Hi.out.2.1 Hi.out.2.2.1 Hi.out.2.2.2 rfl (by decide) (.slice none 0 0) 0 [] rfl HO1.out ad n cap (qM bs) rfl ?f2 ?f3 (nX bs) ?f4 ?f5 ?f7 ?f6)
  case f2=>rw [Nat.mul_one,←Hn.out];simp
  case f3=>exact HN.out
  case f4=>unfold maxLen;omega
  case f5=>omega
  case f7=>omega
  case f6=>
   intro v2 w2 ho2 hg2 _
   have HF:Hid (OB w.heap.size w bs v2 w2):=by
    have h2:=HO.out.more (cs:=bs) (v2:=v2) (w4:=w2) (by simpa [Hn.out,qM] using ho2) hg2
    rw [List.nil_append] at h2
    exact h2
   clear ho2 hg2
   go_wp2_with fail
   go_ret
   exact ⟨_,rfl,HF.out⟩
end Go.Proofs.YtkpmalfigmimaaaGreatDoor
namespace Go.Proofs.YtkpmalfigmimaaaGreatDoor
open Go.RowKit
open M
def mJ:Nat→(Nat→Int)→(Nat→Nat)→List Value
 |0,_,_=>[]
 |n+1,t,v=>mJ n t v++[.int .i64 (t n),.int .u64 (v n:Int)]
theorem zY (n:Nat) (t:Nat→Int) (v:Nat→Nat):(mJ n t v).length=n*2:=by
 induction n with
 |zero=>rfl
 |succ n ih=>simp only [mJ,List.length_append,ih,List.length_cons,List.length_nil];omega
theorem sM (n:Nat) (t:Nat→Int) (v:Nat→Nat) (i:Nat) (h:i<n):(mJ n t v)[i*2]?=some (.int .i64 (t i))∧(mJ n t v)[i*2+1]?=some (.int .u64 (v i:Int)):=by
 induction n with
 |zero=>omega
 |succ n ih=>
  simp only [mJ]
  by_cases e:i<n
  ·rw [List.getElem?_append_left (by rw [zY];omega),List.getElem?_append_left (by rw [zY];omega)]
   exact ih e
  ·obtain rfl:i=n:=by omega
   rw [List.getElem?_append_right (by rw [zY];omega),List.getElem?_append_right (by rw [zY];omega),zY,Nat.sub_self,show i*2+1-i*2=1 by omega]
   exact ⟨rfl,rfl⟩
theorem pK (n:Nat) {t t':Nat→Int} {v v':Nat→Nat} (ht:∀i,i<n→t i=t' i) (hv:∀i,i<n→v i=v' i):mJ n t v=mJ n t' v':=by
 induction n with
 |zero=>rfl
 |succ n ih=>simp only [mJ];rw [ih (fun i h=>ht i (by omega)) (fun i h=>hv i (by omega)),ht n (by omega),hv n (by omega)]
theorem qHO (n:Nat) (t:Nat→Int) (v:Nat→Nat) (i:Nat) (x:Int) (y:Nat) (h:i<n):((mJ n t v).set (i*2) (.int .i64 x)).set (i*2+1) (.int .u64 (y:Int))=mJ n (fun j=>if j=i then x else t j) (fun j=>if j=i then y else v j):=by
 induction n with
 |zero=>omega
 |succ n ih=>
  simp only [mJ]
  by_cases e:i<n
  ·rw [List.set_append_left _ _ (by rw [zY];omega),List.set_append_left _ _ (by rw [List.length_set,zY];omega),ih e,if_neg (by omega),if_neg (by omega)]
  ·obtain rfl:i=n:=by omega
   rw [List.set_append_right _ _ (by rw [zY];omega),List.set_append_right _ _ (by rw [zY];omega),zY,Nat.sub_self,show i*2+1-i*2=1 by omega,if_pos rfl,if_pos rfl,
    pK i (t':=fun j=>if j=i then x else t j) (v':=fun j=>if j=i then y else v j) (fun j h=>(if_neg (by omega)).symm) (fun j h=>(if_neg (by omega)).symm)]
   rfl
theorem qHM (n m:Nat) (t t':Nat→Int) (v v':Nat→Nat):mJ n t v++mJ m t' v'=mJ (n+m) (fun j=>if j<n then t j else t' (j-n)) (fun j=>if j<n then v j else v' (j-n)):=by
 induction m with
 |zero=>simp only [mJ,List.append_nil];exact pK n (fun i h=>(if_pos h).symm) (fun i h=>(if_pos h).symm)
 |succ m ih=>
  rw [←Nat.add_assoc]
  simp only [mJ]
  rw [←List.append_assoc,ih,if_neg (show ¬n+m<n by omega),if_neg (show ¬n+m<n by omega),Nat.add_sub_cancel_left]
theorem qHN (n:Nat) (t:Nat→Int) (v:Nat→Nat):∀u∈mJ n t v,u.oneCell'=true:=by
 induction n with
 |zero=>intro u hu;cases hu
 |succ n ih=>
  intro u hu
  simp only [mJ] at hu
  rcases List.mem_append.1 hu with h|h
  ·exact ih u h
  ·simp only [List.mem_cons,List.not_mem_nil,or_false] at h
   rcases h with rfl|rfl<;>rfl
structure OP (B:Nat) (w0:World) (n:Nat) (t:Nat→Int) (v:Nat→Nat) (u:Value) (wr:World):Prop where
 own:wr.ownsRow B 47 2 u n (mJ n t v)
 bel:Below B w0 wr
 le:B≤w0.heap.size
theorem OP.nil (w:World) (t:Nat→Int) (v:Nat→Nat):OP w.heap.size w 0 t v (.slice none 0 0) w:=⟨World.ownsRow_nil _ _ _ _,Below.refl _ _,Nat.le_refl _⟩
theorem OP.below {B n:Nat} {w0 wr w2:World} {t:Nat→Int} {v:Nat→Nat} {u:Value} (h:OP B w0 n t v u wr) (hB:Below wr.heap.size wr w2):OP B w0 n t v u w2:=
 ⟨uM h.own fun g hg=>hB.block g (h.own.lt g hg).2,h.bel.trans (hB.mono (Nat.le_trans h.le h.bel.size)),h.le⟩
theorem OP.congr {B n:Nat} {w0 wr:World} {t t':Nat→Int} {v v':Nat→Nat} {u:Value} (h:OP B w0 n t v u wr) (ht:∀i,i<n→t i=t' i) (hv:∀i,i<n→v i=v' i):OP B w0 n t' v' u wr:=
 ⟨by rw [←pK n ht hv];exact h.own,h.bel,h.le⟩
theorem OP.slice {B n:Nat} {w0 wr:World} {t:Nat→Int} {v:Nat→Nat} {u:Value} (h:OP B w0 n t v u wr):∃p cap,u= .slice p n cap:=by
 rcases h.own.2 with ⟨h1,h2⟩|⟨g,cap,cur,h1,_⟩
 ·subst h2;exact ⟨_,_,h1⟩
 ·exact ⟨_,_,h1⟩
theorem OP.row {B n cap:Nat} {w0 wr:World} {t:Nat→Int} {v:Nat→Nat} {p:Option Addr} (h:OP B w0 n t v (.slice p n cap) wr):uB wr p n t v:=by
 intro h0
 rcases h.own.2 with ⟨h1,h2⟩|⟨g,cap',cur,h1,_⟩
 ·omega
 ·simp only [Value.slice.injEq] at h1
  obtain ⟨rfl,_,rfl⟩:=h1
  refine ⟨g,0,rfl,fun i hi=>?_⟩
  have e:=sM n t v i hi
  have o:=h.own
  exact ⟨by rw [Nat.zero_add,o.cellAt (i*2) (by omega),e.1],by rw [Nat.zero_add,o.cellAt (i*2+1) (by omega),e.2]⟩
theorem OP.more {B n m:Nat} {w0 wr w4:World} {t t':Nat→Int} {v v':Nat→Nat} {u u2:Value} (h:OP B w0 n t v u wr) (ho:w4.ownsRow B 47 2 u2 (n+m) (mJ n t v++mJ m t' v')) (hg:wr.grownBy w4 u.ownBlock):OP B w0 (n+m) (fun j=>if j<n then t j else t' (j-n)) (fun j=>if j<n then v j else v' (j-n)) u2 w4:=
 ⟨by rw [←qHM];exact ho,h.bel.trans (bA hg (fun g hg=>(h.own.lt g hg).1) (Nat.le_trans h.le h.bel.size)),h.le⟩
theorem OP.put {B n g cap:Nat} {w0 wr:World} {t:Nat→Int} {v:Nat→Nat} (h:OP B w0 n t v (.slice (some ⟨g,0,none⟩) n cap) wr) (i:Nat) (x:Int) (y:Nat) (hi:i<n):
  OP B w0 n (fun j=>if j=i then x else t j) (fun j=>if j=i then y else v j) (.slice (some ⟨g,0,none⟩) n cap) ((wr.setCell ⟨g,i*2,none⟩ (.int .i64 x)).setCell ⟨g,i*2+1,none⟩ (.int .u64 (y:Int))):=by
 have h1:=(h.own.stored (i*2) (.int .i64 x)).1
 have h2:=(h1.stored (i*2+1) (.int .u64 (y:Int))).1
 rw [qHO n t v i x y hi] at h2
 have hb:B≤g:=(h.own.lt g rfl).1
 exact ⟨h2,qH (qH h.bel g _ _ hb) g _ _ hb,h.le⟩
theorem qIF:∃i,Tryz.prog.info? 47=some i∧i.zero=some (.agg #[.int .i64 0,.int .u64 0])∧i.size=2∧i.bytes=16:=by
 have hz:(Tryz.prog.info? 47).bind (·.zero)=some (.agg #[.int .i64 0,.int .u64 0]):=by kernel_rfl
 have hs:(Tryz.prog.info? 47).map (·.size)=some 2:=by kernel_rfl
 have hb:(Tryz.prog.info? 47).map (·.bytes)=some 16:=by kernel_rfl
 cases hi:Tryz.prog.info? 47 with
 |none=>simp [hi] at hs
 |some i=>
  simp only [hi,Option.bind_some,Option.map_some,Option.some.injEq] at hz hs hb
  exact ⟨i,rfl,hz,hs,hb⟩
theorem qHP {w:World} {p:Option Addr} {n:Nat} {t:Nat→Int} {v:Nat→Nat} (h:uB w p n t v) (h0:0<n):∃ad:Addr,p=some ad∧∀j u,(mJ n t v)[j]?=some u→w.cell? (ad.add j)=some u:=by
 obtain ⟨b,o,rfl,hc⟩:=h h0
 refine ⟨_,rfl,fun j u hj=>?_⟩
 have hl:j<n*2:=by
  have:=(List.getElem?_eq_some_iff.1 hj).1
  rwa [zY] at this
 have e:j=j/2*2∨j=j/2*2+1:=by omega
 have hq:j/2<n:=by omega
 obtain ⟨q,hqq⟩:∃q,j/2=q:=⟨_,rfl⟩
 rw [hqq] at e hq
 rcases e with rfl|rfl
 ·rw [(sM n t v q hq).1] at hj
  obtain rfl:=Option.some.inj hj
  rw [Addr.add_mid]
  exact (hc q hq).1
 ·rw [(sM n t v q hq).2] at hj
  obtain rfl:=Option.some.inj hj
  rw [Addr.add_mid,←Nat.add_assoc]
  exact (hc q hq).2
theorem cA (p:Option Addr) (n cap:Nat) (t:Nat→Int) (v:Nat→Nat) (w:World) (h:uB w p n t v) (hl:n≤1000000) (hz:n=0→p=none∧cap=0):
  Calls Tryz.prog 9 #[.slice p n cap] w fun e w'=>∃v2,e= .returned v2∧OP w.heap.size w n t v v2 w':=by
 obtain ⟨i5,hi5⟩:=qIF
 have Hi:=qA hi5
 clear hi5
 have HO:Hid (OP w.heap.size w 0 t v (.slice none 0 0) w):=OP.nil w t v
 have HO1:Hid (w.ownsRow w.heap.size 47 2 (.slice none 0 0) 0 []):=World.ownsRow_nil _ _ _ _
 by_cases h0:n=0
 ·subst h0
  obtain ⟨rfl,rfl⟩:=hz rfl
  clear h hz
  go_enter Tryz.func9,Tryz.ntmps9
  go_wp2_with (at_builtin;refine wpList_append_own_none rfl _ _ _ rfl w.heap.size 47 i5 2 Tryz.underlying22 Hi.out.1 (.slice none 0 0) 0 [] rfl HO1.out rfl ?c6)
  go_ret
  exact ⟨_,rfl,HO.out⟩
 ·obtain ⟨ad,rfl,hnews⟩:=qHP h (by omega)
  have HN:=qA hnews
  clear h hnews hz
  go_enter Tryz.func9,Tryz.ntmps9
  go_wp2_with (at_builtin;refine wpList_append_own _ rfl _ _ _ rfl w.heap.size 47 i5 (.agg #[.int .i64 0,.int .u64 0]) 2 16 Tryz.underlying22 Hi.out.1 Hi.out.2.1 Hi.out.2.2.1 Hi.out.2.2.2 rfl (by decide) (.slice none 0 0) 0 [] rfl HO1.out ad n cap (mJ n t v) rfl ?f2 ?f3 (qHN n t v) ?f4 ?f5 ?f7 ?f6)
  case f2=>exact zY n t v
  case f3=>exact HN.out
  case f4=>unfold maxLen;omega
  case f5=>omega
  case f7=>omega
  case f6=>
   intro v2 w2 ho2 hg2 _
   have HF:Hid (OP w.heap.size w n t v v2 w2):=by
    have h2:=HO.out.more (m:=n) (t':=t) (v':=v) (u2:=v2) (w4:=w2) (by rw [Nat.zero_add];exact ho2) hg2
    rw [Nat.zero_add] at h2
    exact h2.congr (fun i _=>by rw [if_neg (Nat.not_lt_zero _),Nat.sub_zero]) (fun i _=>by rw [if_neg (Nat.not_lt_zero _),Nat.sub_zero])
   clear ho2 hg2
   go_wp2_with fail
   go_ret
   exact ⟨_,rfl,HF.out⟩
end Go.Proofs.YtkpmalfigmimaaaGreatDoor
namespace Go.Proofs.YtkpmalfigmimaaaGreatDoor
open Go.RowKit
theorem qHE (y:Nat) (hy:y<18446744073709551616):yI (wid (yI y))=yI y:=by
 have hl:=wD y hy
 by_cases hn:9218868437227405312<y%9223372036854775808
 ·have e:yI y=yN y:=by unfold yI;rw [if_pos hn]
  rw [e] at hl⊢
  have h1:2143289344≤yN y%2147483648:=by unfold yN;omega
  have h2:=(qE3 (yN y) hl (by omega)).2
  have e2:wid (yN y)=xT (yN y):=by unfold wid;rw [if_pos (by omega)]
  rw [e2]
  unfold yI
  rw [if_pos h2]
  exact qJR _ hl h1
 ·have h1:yI y%2147483648≤2139095040:=by
   unfold yI;rw [if_neg hn];unfold kS;omega
  obtain ⟨x,x1,x2,x3,x4,x5,x6,x7⟩:=uY _ hl h1
  rw [qGF _ x hl h1 x5 x6 x7]
  unfold yI at*
  rw [if_neg (show ¬9218868437227405312<x%9223372036854775808 by omega)]
  exact qHG _ x hl h1 x5 x6 x7
end Go.Proofs.YtkpmalfigmimaaaGreatDoor
