import Derived.Test.YtkpmalfigmimaaaGreatDoorC4B32
import Derived.Test.YtkpmalfigmimaaaGreatDoorC3M
import Derived.Test.YtkpmalfigmimaaaGreatDoorC3A32
import Derived.Test.YtkpmalfigmimaaaGreatDoorZ0
import Derived.Test.YtkpmalfigmimaaaGreatDoorFJ
set_option linter.unusedVariables false
set_option linter.unusedSimpArgs false
set_option maxRecDepth 100000
set_option maxHeartbeats 8000000
namespace Go.Proofs.YtkpmalfigmimaaaGreatDoor
open Go.RowKit
open M
structure tF (n:Nat) (f:Nat→Nat) (q k:Nat) (bs:List Nat):Prop where
 lo:1≤k
 hi:k≤q
 is:jK k n f bs
 least:∀k' bs',1≤k'→k'≤q→jK k' n f bs'→bs.length<bs'.length∨(bs.length=bs'.length∧k≤k')
def tD (n:Nat) (f:Nat→Nat) (w:World) (e:Ending) (w':World):Prop:=
 ∃(k:Nat) (p:Option Addr) (c:Nat) (bs:List Nat),e= .returned (.tuple #[.int .i64 (k:Int),.slice p bs.length c,.int .i64 0])∧jW w' (.slice p bs.length c) bs∧(∀n∈bs,n<256)∧tF n f 6 k bs∧Below w.heap.size w w'
theorem qD6 (p:Option Addr) (n cap:Nat) (f:Nat→Nat) (w:World) (h:jC w p n f) (hn:n≤4096) (hcap:n≤cap) (hf:∀i,i<n→f i<4294967296) (hT:qT w):
  Calls Tryz.prog 68 #[.slice p n cap] w (tD n f w):=by
 have HAG:=qA (fun k w1 (hk1:1≤k) (hk6:k≤6) (hB:Below w.heap.size w w1)=>xW k p n cap f w1 hk1 hk6 (h.below hB) hn hcap hf (hT.below hB))
 have HA1:=qA (xW 1 p n cap f w (by omega) (by omega) h hn hcap hf hT)
 have HN1:Hid (∀w' e,cR 1 n f w e w'→∃(pu:Option Addr) (cu:Nat) (bs:List Nat),e= .returned (.tuple #[.slice pu bs.length cu,.int .i64 0])∧jW w' (.slice pu bs.length cu) bs∧(∀n∈bs,n<256)∧Below w.heap.size w w'∧tF n f 1 1 bs):=fun w' e hE=>by
  rcases hE with ⟨pu,cu,bs,h1,h2,h3,h4,h5,h6⟩|⟨_,_,h3⟩
  ·refine ⟨pu,cu,bs,h1,h2,h3,h4,Nat.le_refl _,Nat.le_refl _,h5,fun k' bs' hk1 hk2 hP=>?_⟩
   obtain rfl:k'=1:=by omega
   exact .inr ⟨by rw [h6 bs' hP],Nat.le_refl _⟩
  ·exfalso
   by_cases h0:n=0
   ·exact h3 [] ⟨hf,fun _=>rfl,fun h=>by omega⟩
   ·exact h3 _ ⟨hf,fun h=>absurd h h0,fun _=>⟨_,rfl,rfl⟩⟩
 clear h hf hT
 go_enter Tryz.func68,Tryz.ntmps68
 go_wp2_with fail
 refine HA1.out.mono ?_
 intro e w1 hE
 obtain ⟨pu,cu,bs,rfl,h2,h3,h4,h5⟩:=HN1.out w1 e hE
 have H1:=qA (And.intro h2 (And.intro h3 (And.intro h4 h5)))
 clear hE h2 h3 h4 h5 HN1 HA1
 go_wp2_with fail
 go_loopw [5,6,8] (fun t5 t6 t8 wr=>∃(q k:Nat) (pu:Option Addr) (cu:Nat) (bs:List Nat),t8= .int .i64 ((q:Int)+1)∧t5= .int .i64 (k:Int)∧t6= .slice pu bs.length cu∧Hid (q≤6∧jW wr (.slice pu bs.length cu) bs∧(∀n∈bs,n<256)∧tF n f q k bs∧Below w.heap.size w wr)) (fun _ _ t8 _=>7-(intOf t8).toNat)
 case atStart=>exact ⟨1,1,pu,cu,bs,rfl,rfl,rfl,by omega,H1.out.1,H1.out.2.1,H1.out.2.2.2,H1.out.2.2.1⟩
 case round=>
  obtain ⟨q,k,pu,cu,bs,rfl,rfl,rfl,hI⟩:=hrel
  by_cases hlt:q+1≤6
  ·have hle:(q:Int)+1≤6:=by omega
   have HQ:=qA (HAG.out (q+1) wr (by omega) hlt hI.out.2.2.2.2)
   rw [show (((q+1:Nat)):Int)=(q:Int)+1 from by simp] at HQ
   go_wp2_with fail
   refine HQ.out.mono ?_
   intro e w2 hE
   rcases hE with ⟨pv,cv,bv,rfl,h2,h3,h4,h5,h6⟩|⟨rfl,h2,h3⟩
   ·have HBB:Hid (Below w.heap.size w w2):=hI.out.2.2.2.2.trans (h4.mono hI.out.2.2.2.2.size)
    have HOLD:Hid (jW w2 (.slice pu bs.length cu) bs):=qD hI.out.2.1 h4
    by_cases hl:bv.length<bs.length
    ·have HN:Hid (tF n f (q+1) (q+1) bv):=by
      refine ⟨by omega,Nat.le_refl _,h5,fun k' bs' hk1 hk2 hP=>?_⟩
      by_cases e:k'=q+1
      ·subst e;exact .inr ⟨by rw [h6 bs' hP],Nat.le_refl _⟩
      ·rcases hI.out.2.2.2.1.least k' bs' hk1 (by omega) hP with h|h
       ·exact .inl (by omega)
       ·exact .inl (by omega)
     have HNB:=qA (And.intro h2 h3)
     clear h2 h3 h4 h5 h6
     go_wp2_with fail
     go_roundw
     case rel=>exact ⟨q+1,q+1,pv,cv,bv,by simp,by simp,by simp,hlt,HNB.out.1,HNB.out.2,HN.out,HBB.out⟩
     case measure=>simp [intOf];omega
    ·have HN:Hid (tF n f (q+1) k bs):=by
      have B:=hI.out.2.2.2.1
      refine ⟨B.lo,by have:=B.hi;omega,B.is,fun k' bs' hk1 hk2 hP=>?_⟩
      by_cases e:k'=q+1
      ·subst e
       rw [h6 bs' hP]
       have:=B.hi
       omega
      ·exact B.least k' bs' hk1 (by omega) hP
     have H3:=qA hI.out.2.2.1
     clear h2 h3 h4 h5 h6 hI
     go_wp2_with fail
     go_roundw
     case rel=>exact ⟨q+1,k,pu,cu,bs,by simp,by simp,by simp,hlt,HOLD.out,H3.out,HN.out,HBB.out⟩
     case measure=>simp [intOf];omega
   ·have HBB:Hid (Below w.heap.size w w2):=hI.out.2.2.2.2.trans (h2.mono hI.out.2.2.2.2.size)
    have HOLD:Hid (jW w2 (.slice pu bs.length cu) bs):=qD hI.out.2.1 h2
    have HN:Hid (tF n f (q+1) k bs):=by
     have B:=hI.out.2.2.2.1
     refine ⟨B.lo,by have:=B.hi;omega,B.is,fun k' bs' hk1 hk2 hP=>?_⟩
     by_cases e:k'=q+1
     ·subst e;exact (h3 bs' hP).elim
     ·exact B.least k' bs' hk1 (by omega) hP
    have H3:=qA hI.out.2.2.1
    clear h2 h3 hI
    go_wp2_with fail
    go_roundw
    case rel=>exact ⟨q+1,k,pu,cu,bs,by simp,by simp,by simp,hlt,HOLD.out,H3.out,HN.out,HBB.out⟩
    case measure=>simp [intOf];omega
  ·have hq:q=6:=by have:=hI.out.1;omega
   subst hq
   have HFIN:Hid (tD n f w (.returned (.tuple #[.int .i64 (k:Int),.slice pu bs.length cu,.int .i64 0])) wr):=⟨k,pu,cu,bs,rfl,hI.out.2.1,hI.out.2.2.1,hI.out.2.2.2.1,hI.out.2.2.2.2⟩
   go_wp2_with fail
   go_ret3
   exact HFIN.out
end Go.Proofs.YtkpmalfigmimaaaGreatDoor
namespace Go.Proofs.YtkpmalfigmimaaaGreatDoor
open Go.RowKit
open M
structure qEE (kind:Int) (n:Nat) (t:Nat→Int) (v:Nat→Nat):Prop where
 kd:kind=1∨kind=2
 lo:1≤n
 hi:n≤4096
 up:Rises t n
 nar:kind=2→tC v n
def qIY (kind:Int) (n:Nat) (t:Nat→Int) (v:Nat→Nat) (c:Int):Prop:=
 (c=90∧¬(kind=1∨kind=2))∨(c=91∧(kind=1∨kind=2)∧¬(1≤n∧n≤4096))∨(c=92∧(kind=1∨kind=2)∧(1≤n∧n≤4096)∧¬Rises t n)∨
 (c=93∧kind=2∧(1≤n∧n≤4096)∧Rises t n∧¬tC v n)∨(c=0∧qEE kind n t v)
theorem qIY.good {kind:Int} {n:Nat} {t:Nat→Int} {v:Nat→Nat} {c:Int} (h:qIY kind n t v c) (hg:qEE kind n t v):c=0:=by
 rcases h with ⟨_,h⟩|⟨_,_,h⟩|⟨_,_,_,h⟩|⟨_,h1,_,_,h⟩|⟨h,_⟩
 ·exact absurd hg.kd h
 ·exact absurd ⟨hg.lo,hg.hi⟩ h
 ·exact absurd hg.up h
 ·exact absurd (hg.nar h1) h
 ·exact h
def nF (kind:Int) (n:Nat) (t:Nat→Int) (v:Nat→Nat) (w:World) (e:Ending) (w':World):Prop:=∃c:Int,e= .returned (.int .i64 c)∧qIY kind n t v c∧Below w.heap.size w w'
theorem qBH (kind:Int) (p:Option Addr) (n cap:Nat) (t:Nat→Int) (v:Nat→Nat) (w:World) (h:uB w p n t v) (hn:n≤9223372036854775807) (hf:∀i,i<n→v i<18446744073709551616):
  Calls Tryz.prog 38 #[.int .i64 kind,.slice p n cap] w (nF kind n t v w):=by
 have HK:=qA (fun w:World=>dK kind w)
 have HC:=qA (fun w:World=>bB n w hn)
 have HR:=qA (fun (hn:n≤4096)=>qES p n cap t v w h hn)
 have HA:=qA (fun (hn:n≤4096) (w1:World) (hB:Below w.heap.size w w1)=>rG p n cap t v w1 (h.below hB) hn hf)
 clear h hf hn
 by_cases h1:kind=1∨kind=2
 ·rw [decide_eq_true h1] at HK
  by_cases h2:1≤n∧n≤4096
  ·rw [decide_eq_true h2] at HC
   have hn4:=h2.2
   go_enter Tryz.func38,Tryz.ntmps38
   go_wp2_with fail
   refine (HK.out _).mono ?_
   rintro e w1 ⟨rfl,hw1⟩
   obtain rfl:=hw1
   go_wp2_with fail
   refine (HC.out _).mono ?_
   rintro e w2 ⟨rfl,hw1⟩
   obtain rfl:=hw1
   go_wp2_with fail
   refine (HR.out hn4).mono ?_
   rintro e w3 ⟨bv,rfl,hbv,B3⟩
   have HB3:=qA B3
   clear B3
   cases bv
   ·have HF:Hid (nF kind n t v w2 (.returned (.int .i64 92)) w3):=⟨92,rfl,.inr (.inr (.inl ⟨rfl,h1,h2,fun hr=>by simpa using hbv.2 hr⟩)),HB3.out⟩
    clear hbv h1 h2
    go_wp2_with fail
    go_ret
    exact HF.out
   ·have hr:Rises t n:=hbv.1 rfl
    clear hbv
    by_cases hk2:kind=2
    ·subst hk2
     have HG:=qA (And.intro h2 hr)
     clear h1 h2 hr
     go_wp2_with fail
     refine (HA.out hn4 _ HB3.out).mono ?_
     rintro e w4 ⟨bv,rfl,hbv,B4⟩
     have HB4:Hid (Below w2.heap.size w2 w4):=HB3.out.trans (B4.mono HB3.out.size)
     clear B4
     cases bv
     ·have HF:Hid (nF 2 n t v w2 (.returned (.int .i64 93)) w4):=⟨93,rfl,.inr (.inr (.inr (.inl ⟨rfl,rfl,HG.out.1,HG.out.2,fun ha=>by simpa using hbv.2 ha⟩))),HB4.out⟩
      clear hbv
      go_wp2_with fail
      go_ret
      exact HF.out
     ·have HF:Hid (nF 2 n t v w2 (.returned (.int .i64 0)) w4):=⟨0,rfl,.inr (.inr (.inr (.inr ⟨rfl,.inr rfl,HG.out.1.1,HG.out.1.2,HG.out.2,fun _=>hbv.1 rfl⟩))),HB4.out⟩
      clear hbv
      go_wp2_with fail
      go_ret
      exact HF.out
    ·have e2:(kind==2)=false:=by rw [beq_eq_false_iff_ne];exact hk2
     have HF:Hid (nF kind n t v w2 (.returned (.int .i64 0)) w3):=⟨0,rfl,.inr (.inr (.inr (.inr ⟨rfl,h1,h2.1,h2.2,hr,fun h=>absurd h hk2⟩))),HB3.out⟩
     clear h1 h2 hr hk2
     go_wp2_with fail
     go_ret
     exact HF.out
  ·rw [decide_eq_false h2] at HC
   have HF:Hid (∀w:World,nF kind n t v w (.returned (.int .i64 91)) w):=fun w=>⟨91,rfl,.inr (.inl ⟨rfl,h1,h2⟩),Below.refl _ _⟩
   clear h1 h2
   go_enter Tryz.func38,Tryz.ntmps38
   go_wp2_with fail
   refine (HK.out _).mono ?_
   rintro e w1 ⟨rfl,hw1⟩
   obtain rfl:=hw1
   go_wp2_with fail
   refine (HC.out _).mono ?_
   rintro e w2 ⟨rfl,hw1⟩
   obtain rfl:=hw1
   go_wp2_with fail
   go_ret
   exact HF.out _
 ·rw [decide_eq_false h1] at HK
  have HF:Hid (∀w:World,nF kind n t v w (.returned (.int .i64 90)) w):=fun w=>⟨90,rfl,.inl ⟨rfl,h1⟩,Below.refl _ _⟩
  clear h1
  go_enter Tryz.func38,Tryz.ntmps38
  go_wp2_with fail
  refine (HK.out _).mono ?_
  rintro e w1 ⟨rfl,hw1⟩
  obtain rfl:=hw1
  go_wp2_with fail
  go_ret
  exact HF.out _
theorem sK (p:Option Addr) (n cap:Nat) (t:Nat→Int) (v:Nat→Nat) (w:World) (h:uB w p n t v) (hn:n≤4096) (ht:∀i,i<n→I64 (t i)) (hr:Rises t n):
  Calls Tryz.prog 39 #[.slice p n cap] w fun e w'=>∃(g L:Nat),L=(packed (tbn t n)).length∧w.heap.size≤g∧e= .returned (.slice (some ⟨g,0,none⟩) L L)∧w'.heap[g]?=some (.cells (qM (packed (tbn t n))).toArray 5 (0,0))∧Below w.heap.size w w':=by
 have HM:=qA (qBC p n cap t v w h hn)
 have HP:=qA (fun (g:Nat) (w1:World) (hT:qAI w1 (some ⟨g,0,none⟩) n t)=>qJT (some ⟨g,0,none⟩) n n t w1 hT hn ht hr)
 clear h ht hr
 go_enter Tryz.func39,Tryz.ntmps39
 go_wp2_with fail
 refine HM.out.mono ?_
 rintro e w1 ⟨g,rfl,hg,hM,B1⟩
 have HT:=qA hM.trow
 have HB1:=qA B1
 clear hM B1 HM hg
 go_wp2_with fail
 refine (HP.out g w1 HT.out).mono ?_
 rintro e w2 ⟨g2,L,hL,hg2,rfl,hB2,B2⟩
 have HF:Hid (w.heap.size≤g2∧w2.heap[g2]?=some (.cells (qM (packed (tbn t n))).toArray 5 (0,0))∧Below w.heap.size w w2∧L=(packed (tbn t n)).length):=⟨Nat.le_trans HB1.out.size hg2,hB2,HB1.out.trans (B2.mono HB1.out.size),hL⟩
 clear hL hg2 hB2 B2 HP
 go_wp2_with fail
 go_ret
 exact ⟨g2,L,HF.out.2.2.2,HF.out.1,rfl,HF.out.2.1,HF.out.2.2.1⟩
def yE (kind:Int) (n:Nat) (v:Nat→Nat) (k:Nat) (bs:List Nat):Prop:=if kind=2 then tF n (fun i=>yI (v i)) 6 k bs else tG n v 6 k bs
def qEN (kind:Int) (n:Nat) (v:Nat→Nat) (w:World) (e:Ending) (w':World):Prop:=∃(k:Nat) (p:Option Addr) (c:Nat) (bs:List Nat),e= .returned (.tuple #[.int .i64 (k:Int),.slice p bs.length c])∧jW w' (.slice p bs.length c) bs∧(∀n∈bs,n<256)∧yE kind n v k bs∧Below w.heap.size w w'
theorem cL (kind:Int) (p:Option Addr) (n cap:Nat) (t:Nat→Int) (v:Nat→Nat) (w:World) (h:uB w p n t v) (hn:n≤4096) (hf:∀i,i<n→v i<18446744073709551616) (hT:qT w):
  Calls Tryz.prog 40 #[.int .i64 kind,.slice p n cap] w (qEN kind n v w):=by
 have HM:=qA (qBD p n cap t v w h hn)
 have HN:=qA (fun (g:Nat) (w1:World) (hR:qZ w1 (some ⟨g,0,none⟩) n v)=>qBB (some ⟨g,0,none⟩) n n v w1 hR hn hf)
 have HP64:=qA (fun (g:Nat) (w1:World) (hR:qZ w1 (some ⟨g,0,none⟩) n v) (hB:Below w.heap.size w w1)=>qD7 (some ⟨g,0,none⟩) n n v w1 hR hn (Nat.le_refl _) hf (hT.below hB))
 have HP32:=qA (fun (g:Nat) (w1:World) (hR:jC w1 (some ⟨g,0,none⟩) n (fun i=>yI (v i))) (hB:Below w.heap.size w w1)=>qD6 (some ⟨g,0,none⟩) n n (fun i=>yI (v i)) w1 hR hn (Nat.le_refl _) (fun i hi=>wD _ (hf i hi)) (hT.below hB))
 clear h hf hT
 by_cases hk:kind=2
 ·subst hk
  go_enter Tryz.func40,Tryz.ntmps40
  go_wp2_with fail
  refine HM.out.mono ?_
  rintro e w1 ⟨g,rfl,hg,hM,B1⟩
  have HR:=qA hM.row64
  have HB1:=qA B1
  clear hM B1 HM hg HP64
  go_wp2_with fail
  refine (HN.out g w1 HR.out).mono ?_
  rintro e w2 ⟨g2,rfl,hg2,hM,B2⟩
  have HR2:=qA hM.row32
  have HB2:Hid (Below w.heap.size w w2):=HB1.out.trans (B2.mono HB1.out.size)
  clear hM B2 hg2 HN HR
  go_wp2_with fail
  refine (HP32.out g2 w2 HR2.out HB2.out).mono ?_
  rintro e w3 ⟨k,p3,c3,bs,rfl,hby,h256,hb,B3⟩
  have HF:Hid (qEN 2 n v w (.returned (.tuple #[.int .i64 (k:Int),.slice p3 bs.length c3])) w3):=⟨k,p3,c3,bs,rfl,hby,h256,by unfold yE;rw [if_pos rfl];exact hb,HB2.out.trans (B3.mono HB2.out.size)⟩
  clear hby h256 hb B3 HP32
  go_wp2_with fail
  go_ret2
  exact HF.out
 ·have e2:(kind==2)=false:=by rw [beq_eq_false_iff_ne];exact hk
  have HKK:=qA hk
  clear hk
  go_enter Tryz.func40,Tryz.ntmps40
  go_wp2_with fail
  refine HM.out.mono ?_
  rintro e w1 ⟨g,rfl,hg,hM,B1⟩
  have HR:=qA hM.row64
  have HB1:=qA B1
  clear hM B1 HM hg HP32 HN
  go_wp2_with fail
  refine (HP64.out g w1 HR.out HB1.out).mono ?_
  rintro e w3 ⟨k,p3,c3,bs,rfl,hby,h256,hb,B3⟩
  have HF:Hid (qEN kind n v w (.returned (.tuple #[.int .i64 (k:Int),.slice p3 bs.length c3])) w3):=⟨k,p3,c3,bs,rfl,hby,h256,by unfold yE;rw [if_neg HKK.out];exact hb,HB1.out.trans (B3.mono HB1.out.size)⟩
  clear hby h256 hb B3 HP64
  go_wp2_with fail
  go_ret2
  exact HF.out
end Go.Proofs.YtkpmalfigmimaaaGreatDoor
namespace Go.Proofs.YtkpmalfigmimaaaGreatDoor
open Go.RowKit
open M
def kO (v:Nat→Nat):Nat→Nat
 |0=>0
 |k+1=>if dP (v k) then kO v k+1 else kO v k
def leK (v:Nat→Nat):Nat→Nat
 |0=>18446744073709551615
 |k+1=>if dP (v k) then leK v k else min (leK v k) (kR (v k))
def grK (v:Nat→Nat):Nat→Nat
 |0=>0
 |k+1=>if dP (v k) then grK v k else max (grK v k) (kR (v k))
theorem uK (v:Nat→Nat) (k:Nat):kO v k≤k:=by
 induction k with
 |zero=>exact Nat.le_refl _
 |succ k ih=>rw [kO];split<;>omega
theorem qCA (v:Nat→Nat) (k:Nat):leK v k<18446744073709551616:=by
 induction k with
 |zero=>show 18446744073709551615<_;omega
 |succ k ih=>rw [leK];split<;>omega
theorem qC8 (v:Nat→Nat) (k:Nat) (h:∀i,i<k→v i<18446744073709551616):grK v k<18446744073709551616:=by
 induction k with
 |zero=>show 0<_;omega
 |succ k ih=>
  have:=rW (v k) (h k (by omega))
  have:=ih fun i hi=>h i (by omega)
  rw [grK];split<;>omega
def leV (v:Nat→Nat) (n:Nat):Nat:=if kO v n=n then 9221120237041090560 else kK (leK v n)
def grV (v:Nat→Nat) (n:Nat):Nat:=if kO v n=n then 9221120237041090560 else kK (grK v n)
def bhA (kind:Int) (n na:Nat) (fi la:Int) (le gr:Nat) (by_:Int):Array Value:=#[.int .i64 kind,.int .i64 (n:Int),.int .i64 (na:Int),.int .i64 fi,.int .i64 la,.int .u64 (le:Int),.int .u64 (gr:Int),.int .i64 by_]
theorem qCJ (w:World) (g:Nat) (ty:TypeId) (z0 z1 z2 z3 z4 z5 z6 z7 a0 a1 a2 a3 a4 a5 a6 a7:Value) (h:w.heap[g]?=some (.cells #[z0,z1,z2,z3,z4,z5,z6,z7] ty (0,0))):
  ((((((((w.setCell ⟨g,0,none⟩ a0).setCell ⟨g,1,none⟩ a1).setCell ⟨g,2,none⟩ a2).setCell ⟨g,3,none⟩ a3).setCell ⟨g,4,none⟩ a4).setCell ⟨g,5,none⟩ a5).setCell ⟨g,6,none⟩ a6).setCell ⟨g,7,none⟩ a7).heap[g]?=some (.cells #[a0,a1,a2,a3,a4,a5,a6,a7] ty (0,0)):=by
 rw [heap_setCell_same _ _ _ _ _ _ (heap_setCell_same _ _ _ _ _ _ (heap_setCell_same _ _ _ _ _ _ (heap_setCell_same _ _ _ _ _ _ (heap_setCell_same _ _ _ _ _ _ (heap_setCell_same _ _ _ _ _ _ (heap_setCell_same _ _ _ _ _ _ (heap_setCell_same _ _ _ _ _ _ h)))))))];simp
theorem dB {B:Nat} {w0 w:World} (h:Below B w0 w) (g:Nat) (a0 a1 a2 a3 a4 a5 a6 a7:Value) (hg:B≤g):Below B w0 ((((((((w.setCell ⟨g,0,none⟩ a0).setCell ⟨g,1,none⟩ a1).setCell ⟨g,2,none⟩ a2).setCell ⟨g,3,none⟩ a3).setCell ⟨g,4,none⟩ a4).setCell ⟨g,5,none⟩ a5).setCell ⟨g,6,none⟩ a6).setCell ⟨g,7,none⟩ a7):=
 qH (qH (qH (qH (qH (qH (qH (qH h _ _ _ hg) _ _ _ hg) _ _ _ hg) _ _ _ hg) _ _ _ hg) _ _ _ hg) _ _ _ hg) _ _ _ hg
structure bY (w wr:World) (g:Nat) (kind:Int) (m na:Nat) (x0 xl:Int):Prop where
 res:wr.heap[g]?=some (.cells #[.int .i64 0,.int .i64 0,.int .i64 0,.int .i64 0,.int .i64 0,.int .u64 0,.int .u64 0,.int .i64 0] 38 (0,0))
 own:wr.heap[g+1]?=some (.cells #[.int .i64 kind,.int .i64 ((m:Int)+1),.int .i64 (na:Int),.int .i64 x0,.int .i64 xl,.int .u64 0,.int .u64 0,.int .i64 0] 38 (0,0))
 bel:Below g w wr
 lt:g+1<wr.heap.size
theorem bY.below {w wr w2:World} {g:Nat} {kind:Int} {m na:Nat} {x0 xl:Int} (h:bY w wr g kind m na x0 xl) (hB:Below wr.heap.size wr w2):bY w w2 g kind m na x0 xl:=
 ⟨by rw [hB.block g (by have:=h.lt;omega)];exact h.res,by rw [hB.block (g+1) h.lt];exact h.own,h.bel.trans (hB.mono (by have:=h.lt;omega)),Nat.lt_of_lt_of_le h.lt hB.size⟩
theorem bY.next {w wr:World} {g:Nat} {kind:Int} {m na:Nat} {x0 xl:Int} (h:bY w wr g kind m na x0 xl):bY w (wr.setCell ⟨g+1,2,none⟩ (.int .i64 ((na:Int)+1))) g kind m (na+1) x0 xl:=by
 refine ⟨?_,?_,qH h.bel _ _ _ (by omega),by simp [World.setCell];exact h.lt⟩
 ·rw [Below.heap_setCell _ _ _ _ (show g≠g+1 by omega)];exact h.res
 ·rw [heap_setCell_same _ _ _ _ _ _ h.own];simp
theorem qBP (kind:Int) (p:Option Addr) (m cap:Nat) (t:Nat→Int) (v:Nat→Nat) (w:World) (h:uB w p (m+1) t v) (hn:m+1≤4096) (hf:∀i,i<m+1→v i<18446744073709551616):
  Calls Tryz.prog 41 #[.int .i64 kind,.slice p (m+1) cap] w fun e w'=>e= .returned (.agg (bhA kind (m+1) (kO v (m+1)) (t 0) (t m) (leV v (m+1)) (grV v (m+1)) 0))∧Below w.heap.size w w':=by
 have H:=qA h
 have HF:=qA hf
 obtain ⟨b,o,rfl,hc⟩:=h (by omega)
 have HCC:=qA hc
 obtain ⟨x0,hx0⟩:∃x,t 0=x:=⟨_,rfl⟩
 obtain ⟨xl,hxl⟩:∃x,t m=x:=⟨_,rfl⟩
 rw [hx0,hxl]
 obtain ⟨g,hg⟩:∃g,w.heap.size=g:=⟨_,rfl⟩
 have hbw:b<w.heap.size:=block_lt_of_cell (hc 0 (by omega)).1
 obtain ⟨W1,hW1⟩:∃W1,w.alloc (.cells #[.int .i64 0,.int .i64 0,.int .i64 0,.int .i64 0,.int .i64 0,.int .u64 0,.int .u64 0,.int .i64 0] 38)=W1:=⟨_,rfl⟩
 have c0:W1.cell? ⟨b,o,none⟩=some (.int .i64 x0):=by
  rw [←hW1,((Below.refl _ w).alloc (Nat.le_refl _) _).cell (p:=⟨b,o,none⟩) hbw,←hx0];simpa using (hc 0 (by omega)).1
 have cl:W1.cell? ⟨b,o+m*2,none⟩=some (.int .i64 xl):=by
  rw [←hW1,((Below.refl _ w).alloc (Nat.le_refl _) _).cell (p:=⟨b,o+m*2,none⟩) hbw,←hxl];exact (hc m (by omega)).1
 have hb1:b<W1.heap.size:=block_lt_of_cell c0
 have c0':(W1.alloc (.cells #[.int .i64 0,.int .i64 0,.int .i64 0,.int .i64 0,.int .i64 0,.int .u64 0,.int .u64 0,.int .i64 0] 38)).drew.cell? ⟨b,o,none⟩=some (.int .i64 x0):=by
  rw [((Below.refl _ W1).alloc (Nat.le_refl _) _).drew.cell (p:=⟨b,o,none⟩) hb1];exact c0
 have cl':(W1.alloc (.cells #[.int .i64 0,.int .i64 0,.int .i64 0,.int .i64 0,.int .i64 0,.int .u64 0,.int .u64 0,.int .i64 0] 38)).drew.cell? ⟨b,o+m*2,none⟩=some (.int .i64 xl):=by
  rw [((Below.refl _ W1).alloc (Nat.le_refl _) _).drew.cell (p:=⟨b,o+m*2,none⟩) hb1];exact cl
 have hwm:IntKind.i64.wrap (m:Int)=(m:Int):=by rw [IntKind.wrap_i64];omega
 have hs1:W1.heap.size=g+1:=by rw [←hW1,←hg];simp
 have HR1:Hid (W1.heap[g]?=some (.cells #[.int .i64 0,.int .i64 0,.int .i64 0,.int .i64 0,.int .i64 0,.int .u64 0,.int .u64 0,.int .i64 0] 38 (0,0))∧Below g w W1):=by rw [←hW1,←hg];exact ⟨heap_alloc_new _ _,(Below.refl _ _).alloc (Nat.le_refl _) _⟩
 clear h hf hc hx0 hxl
 go_enter Tryz.func41,Tryz.ntmps41
 go_upto_region 1 with fail
 (try rw [hW1])
 clear hW1
 go_region
 obtain ⟨W2,hW2⟩:∃W2,(W1.alloc (.cells #[.int .i64 kind,.int .i64 ((m:Int)+1),.int .i64 0,.int .i64 x0,.int .i64 xl,.int .u64 0,.int .u64 0,.int .i64 0] 38)).drew=W2:=⟨_,rfl⟩
 have HS:Hid (bY w W2 g kind m 0 x0 xl):=by
  have hA:Below W1.heap.size W1 W2:=by rw [←hW2];exact ((Below.refl _ W1).alloc (Nat.le_refl _) _).drew
  refine ⟨by rw [hA.block g (by omega)];exact HR1.out.1,?_,HR1.out.2.trans (hA.mono (by omega)),by rw [←hW2];simp;omega⟩
  rw [←hW2,←hs1];exact heap_alloc_new _ _
 rw [hW2]
 clear hW2 c0 cl c0' cl' hb1 hbw hs1 hwm
 have HG:=qA hg
 clear hg
 go_wp2_with fail
 go_loopw [6,7,28] (fun t6 t7 t28 wr=>∃k le gr na:Nat,t6= .int .u64 (le:Int)∧t7= .int .u64 (gr:Int)∧t28= .int .i64 (k:Int)∧Hid (k≤m+1∧le=leK v k∧gr=grK v k∧na=kO v k∧bY w wr g kind m na x0 xl)) (fun _ _ t28 _=>m+1-(intOf t28).toNat)
 case atStart=>exact ⟨0,18446744073709551615,0,0,rfl,rfl,rfl,Nat.zero_le _,rfl,rfl,rfl,HS.out⟩
 case round=>
  obtain ⟨k,le,gr,na,rfl,rfl,rfl,hI⟩:=hrel
  by_cases hlt:k<m+1
  ·have hbg:b<g:=by rw [←HG.out];exact block_lt_of_cell (HCC.out 0 (by omega)).1
   have hli:(k:Int)<(m:Int)+1:=by omega
   obtain ⟨x,hx⟩:∃x,t k=x:=⟨_,rfl⟩
   obtain ⟨y,hy⟩:∃y,v k=y:=⟨_,rfl⟩
   have c1:wr.cell? ⟨b,o+k*2,none⟩=some (.int .i64 x):=by rw [hI.out.2.2.2.2.bel.cell (p:=⟨b,o+k*2,none⟩) hbg,←hx];exact (HCC.out k hlt).1
   have c2:wr.cell? ⟨b,o+k*2+1,none⟩=some (.int .u64 (y:Int)):=by rw [hI.out.2.2.2.2.bel.cell (p:=⟨b,o+k*2+1,none⟩) hbg,←hy];exact (HCC.out k hlt).2
   have hyl:y<18446744073709551616:=by rw [←hy];exact HF.out k hlt
   have HY:=qA hy
   have HS1:Hid (bY w (wr.alloc (.cells #[.int .i64 x,.int .u64 (y:Int)] 47)) g kind m na x0 xl∧(wr.alloc (.cells #[.int .i64 x,.int .u64 (y:Int)] 47)).heap[wr.heap.size]?=some (.cells #[.int .i64 x,.int .u64 (y:Int)] 47 (0,0))):=⟨hI.out.2.2.2.2.below ((Below.refl _ _).alloc (Nat.le_refl _) _),heap_alloc_new _ _⟩
   have hna:na≤4096:=by have:=uK v k;rw [hI.out.2.2.2.1];omega
   have HNaN:=qA (fun w:World=>qFD y w hyl)
   have HKey:=qA (fun w:World=>uC y w hyl)
   have HKL:=qA (rW y hyl)
   obtain ⟨q,hq⟩:∃q,wr.heap.size=q:=⟨_,rfl⟩
   clear hx hy hyl
   go_wp2_with fail
   (try rw [hq])
   rw [hq] at HS1
   generalize wr.alloc (.cells #[.int .i64 x,.int .u64 (y:Int)] 47)=W3 at*
   refine (HNaN.out W3).mono ?_
   rintro e w4 ⟨rfl,B4⟩
   have HS4:=qA (HS1.out.1.below B4)
   have k4:w4.cell? ⟨q,1,none⟩=some (.int .u64 (y:Int)):=by
    have k3:W3.cell? ⟨q,1,none⟩=some (.int .u64 (y:Int)):=by rw [cell_of_row _ _ _ _ _ _ HS1.out.2];rfl
    rw [B4.cell (p:=⟨q,1,none⟩) (block_lt_of_cell k3)];exact k3
   clear B4 HS1 HNaN c1 c2 hq
   cases hnp:dP y
   ·have HE:Hid (leK v (k+1)=min le (kR y)∧grK v (k+1)=max gr (kR y)∧kO v (k+1)=na):=by
     rw [leK,grK,kO,HY.out,hnp,←hI.out.2.1,←hI.out.2.2.1,←hI.out.2.2.2.1];exact ⟨rfl,rfl,rfl⟩
    clear hnp
    go_wp2_with fail
    refine (HKey.out w4).mono ?_
    rintro e w5 ⟨rfl,B5⟩
    have HS5:=qA (HS4.out.below B5)
    generalize kR y=ky at*
    clear B5 HS4 HKey k4
    go_wp2_with fail
    go_roundw
    case rel=>exact ⟨k+1,min le ky,max gr ky,na,by simp;omega,by simp;omega,by simp,by omega,HE.out.1.symm,HE.out.2.1.symm,HE.out.2.2.symm,HS5.out⟩
    case measure=>simp [intOf];omega
   ·have HE:Hid (leK v (k+1)=le∧grK v (k+1)=gr∧kO v (k+1)=na+1):=by
     rw [leK,grK,kO,HY.out,hnp,←hI.out.2.1,←hI.out.2.2.1,←hI.out.2.2.2.1];exact ⟨rfl,rfl,rfl⟩
    have c2:w4.cell? ⟨g+1,2,none⟩=some (.int .i64 (na:Int)):=by rw [cell_of_row _ _ _ _ _ _ HS4.out.own];rfl
    have f2:=froz HS4.out.own 2
    have HS5:=qA HS4.out.next
    clear hnp HS4 HKey k4
    go_wp2_with fail
    go_roundw
    case rel=>exact ⟨k+1,le,gr,na+1,rfl,rfl,by simp,by omega,HE.out.1.symm,HE.out.2.1.symm,HE.out.2.2.symm,HS5.out⟩
    case measure=>simp [intOf];omega
  ·have hk:k=m+1:=by have:=hI.out.1;omega
   have HS6:Hid (bY w wr g kind m na x0 xl):=hI.out.2.2.2.2
   have HE:Hid (le=leK v (m+1)∧gr=grK v (m+1)∧na=kO v (m+1)):=by rw [←hk];exact ⟨hI.out.2.1,hI.out.2.2.1,hI.out.2.2.2.1⟩
   have HL1:Hid (le<18446744073709551616):=by rw [HE.out.1];exact qCA _ _
   have HL2:Hid (gr<18446744073709551616):=by rw [HE.out.2.1];exact qC8 _ _ HF.out
   have hna:na≤m+1:=by rw [HE.out.2.2];exact uK _ _
   have hli:¬(k:Int)<(m:Int)+1:=by omega
   clear hI hk hlt
   go_wp2_with fail
   refine (nE le wr HL1.out).mono ?_
   rintro e w5 ⟨rfl,B5⟩
   have HS7:=qA (HS6.out.below B5)
   clear B5 HS6
   go_wp2_with fail
   refine (nE gr w5 HL2.out).mono ?_
   rintro e w6 ⟨rfl,B6⟩
   have HS8:=qA (HS7.out.below B6)
   clear B6 HS7
   have HV:Hid (leV v (m+1)=(if na=m+1 then 9221120237041090560 else kK le)∧grV v (m+1)=(if na=m+1 then 9221120237041090560 else kK gr)):=by
    unfold leV grV;rw [←HE.out.1,←HE.out.2.1,←HE.out.2.2];exact ⟨rfl,rfl⟩
   generalize kK le=ol at*
   generalize kK gr=og at*
   have hown:=HS8.out.own
   have hres:=HS8.out.res
   have HB8:=qA HS8.out.bel
   clear HS8 HL1 HL2
   have o5:w6.cell? ⟨g+1,5,none⟩=some (.int .u64 0):=by rw [cell_of_row _ _ _ _ _ _ hown];rfl
   have o6:w6.cell? ⟨g+1,6,none⟩=some (.int .u64 0):=by rw [cell_of_row _ _ _ _ _ _ hown];rfl
   have p5:=froz hown 5
   have p6:=froz hown 6
   have HW7:Hid (((w6.setCell ⟨g+1,5,none⟩ (.int .u64 (ol:Int))).setCell ⟨g+1,6,none⟩ (.int .u64 (og:Int))).heap[g+1]?=some (.cells #[.int .i64 kind,.int .i64 ((m:Int)+1),.int .i64 (na:Int),.int .i64 x0,.int .i64 xl,.int .u64 (ol:Int),.int .u64 (og:Int),.int .i64 0] 38 (0,0))∧((w6.setCell ⟨g+1,5,none⟩ (.int .u64 (ol:Int))).setCell ⟨g+1,6,none⟩ (.int .u64 (og:Int))).heap[g]?=some (.cells #[.int .i64 0,.int .i64 0,.int .i64 0,.int .i64 0,.int .i64 0,.int .u64 0,.int .u64 0,.int .i64 0] 38 (0,0))∧Below g w ((w6.setCell ⟨g+1,5,none⟩ (.int .u64 (ol:Int))).setCell ⟨g+1,6,none⟩ (.int .u64 (og:Int)))):=by
    refine ⟨?_,?_,qH (qH HB8.out _ _ _ (by omega)) _ _ _ (by omega)⟩
    ·rw [heap_setCell_same _ _ _ _ _ _ (heap_setCell_same _ _ _ _ _ _ hown)];simp
    ·rw [Below.heap_setCell _ _ _ _ (show g≠g+1 by omega),Below.heap_setCell _ _ _ _ (show g≠g+1 by omega)];exact hres
   clear hown hres HB8
   go_upto_region 12 with fail
   generalize (w6.setCell ⟨g+1,5,none⟩ (.int .u64 (ol:Int))).setCell ⟨g+1,6,none⟩ (.int .u64 (og:Int))=W7 at*
   clear o5 o6 p5 p6
   have q1:W7.cell? ⟨g+1,1,none⟩=some (.int .i64 ((m:Int)+1)):=by rw [cell_of_row _ _ _ _ _ _ HW7.out.1];rfl
   have q2:W7.cell? ⟨g+1,2,none⟩=some (.int .i64 (na:Int)):=by rw [cell_of_row _ _ _ _ _ _ HW7.out.1];rfl
   have q5:W7.cell? ⟨g+1,5,none⟩=some (.int .u64 (ol:Int)):=by rw [cell_of_row _ _ _ _ _ _ HW7.out.1];rfl
   have q6:W7.cell? ⟨g+1,6,none⟩=some (.int .u64 (og:Int)):=by rw [cell_of_row _ _ _ _ _ _ HW7.out.1];rfl
   have r5:=froz HW7.out.1 5
   have r6:=froz HW7.out.1 6
   obtain ⟨lv,hlv⟩:∃x,leV v (m+1)=x:=⟨_,rfl⟩
   obtain ⟨gv,hgv⟩:∃x,grV v (m+1)=x:=⟨_,rfl⟩
   rw [hlv,hgv] at HV
   have HLV:=qA (And.intro hlv hgv)
   clear hlv hgv
   go_upto_if 59 with fail
   go_cut [6] from 49 (fun t6 wc=>Hid (wc.heap[g+1]?=some (.cells #[.int .i64 kind,.int .i64 ((m:Int)+1),.int .i64 (na:Int),.int .i64 x0,.int .i64 xl,.int .u64 (lv:Int),.int .u64 (gv:Int),.int .i64 0] 38 (0,0))∧wc.heap[g]?=some (.cells #[.int .i64 0,.int .i64 0,.int .i64 0,.int .i64 0,.int .i64 0,.int .u64 0,.int .u64 0,.int .i64 0] 38 (0,0))∧Below g w wc))
   case first=>
    by_cases hall:na=m+1
    ·have e1:((na:Int)==(m:Int)+1)=true:=by rw [beq_iff_eq];omega
     have HF7:Hid (((W7.setCell ⟨g+1,5,none⟩ (.int .u64 9221120237041090560)).setCell ⟨g+1,6,none⟩ (.int .u64 9221120237041090560)).heap[g+1]?=some (.cells #[.int .i64 kind,.int .i64 ((m:Int)+1),.int .i64 (na:Int),.int .i64 x0,.int .i64 xl,.int .u64 (lv:Int),.int .u64 (gv:Int),.int .i64 0] 38 (0,0))∧((W7.setCell ⟨g+1,5,none⟩ (.int .u64 9221120237041090560)).setCell ⟨g+1,6,none⟩ (.int .u64 9221120237041090560)).heap[g]?=some (.cells #[.int .i64 0,.int .i64 0,.int .i64 0,.int .i64 0,.int .i64 0,.int .u64 0,.int .u64 0,.int .i64 0] 38 (0,0))∧Below g w ((W7.setCell ⟨g+1,5,none⟩ (.int .u64 9221120237041090560)).setCell ⟨g+1,6,none⟩ (.int .u64 9221120237041090560))):=by
      refine ⟨?_,?_,qH (qH HW7.out.2.2 _ _ _ (by omega)) _ _ _ (by omega)⟩
      ·rw [heap_setCell_same _ _ _ _ _ _ (heap_setCell_same _ _ _ _ _ _ HW7.out.1),HV.out.1,HV.out.2,if_pos hall,if_pos hall];simp
      ·rw [Below.heap_setCell _ _ _ _ (show g≠g+1 by omega),Below.heap_setCell _ _ _ _ (show g≠g+1 by omega)];exact HW7.out.2.1
     clear HW7
     go_wp2_with fail
     go_meet
     case rel=>exact HF7.out
    ·have e1:((na:Int)==(m:Int)+1)=false:=by rw [beq_eq_false_iff_ne];omega
     have HF7:Hid (W7.heap[g+1]?=some (.cells #[.int .i64 kind,.int .i64 ((m:Int)+1),.int .i64 (na:Int),.int .i64 x0,.int .i64 xl,.int .u64 (lv:Int),.int .u64 (gv:Int),.int .i64 0] 38 (0,0))∧W7.heap[g]?=some (.cells #[.int .i64 0,.int .i64 0,.int .i64 0,.int .i64 0,.int .i64 0,.int .u64 0,.int .u64 0,.int .i64 0] 38 (0,0))∧Below g w W7):=by
      refine ⟨?_,HW7.out.2⟩
      rw [HW7.out.1,HV.out.1,HV.out.2,if_neg hall,if_neg hall]
     clear HW7
     go_wp2_with fail
     go_meet
     case rel=>exact HF7.out
   case rest=>
    have HB9:=qA hcut.out.2.2
    have o0:wc.cell? ⟨g+1,0,none⟩=some (.int .i64 kind):=by rw [cell_of_row _ _ _ _ _ _ hcut.out.1];rfl
    have z0:wc.cell? ⟨g,0,none⟩=some (.int .i64 0):=by rw [cell_of_row _ _ _ _ _ _ hcut.out.2.1];rfl
    have y0:=froz hcut.out.2.1 0
    have o1:wc.cell? ⟨g+1,1,none⟩=some (.int .i64 ((m:Int)+1)):=by rw [cell_of_row _ _ _ _ _ _ hcut.out.1];rfl
    have z1:wc.cell? ⟨g,1,none⟩=some (.int .i64 0):=by rw [cell_of_row _ _ _ _ _ _ hcut.out.2.1];rfl
    have y1:=froz hcut.out.2.1 1
    have o2:wc.cell? ⟨g+1,2,none⟩=some (.int .i64 (na:Int)):=by rw [cell_of_row _ _ _ _ _ _ hcut.out.1];rfl
    have z2:wc.cell? ⟨g,2,none⟩=some (.int .i64 0):=by rw [cell_of_row _ _ _ _ _ _ hcut.out.2.1];rfl
    have y2:=froz hcut.out.2.1 2
    have o3:wc.cell? ⟨g+1,3,none⟩=some (.int .i64 x0):=by rw [cell_of_row _ _ _ _ _ _ hcut.out.1];rfl
    have z3:wc.cell? ⟨g,3,none⟩=some (.int .i64 0):=by rw [cell_of_row _ _ _ _ _ _ hcut.out.2.1];rfl
    have y3:=froz hcut.out.2.1 3
    have o4:wc.cell? ⟨g+1,4,none⟩=some (.int .i64 xl):=by rw [cell_of_row _ _ _ _ _ _ hcut.out.1];rfl
    have z4:wc.cell? ⟨g,4,none⟩=some (.int .i64 0):=by rw [cell_of_row _ _ _ _ _ _ hcut.out.2.1];rfl
    have y4:=froz hcut.out.2.1 4
    have o5:wc.cell? ⟨g+1,5,none⟩=some (.int .u64 (lv:Int)):=by rw [cell_of_row _ _ _ _ _ _ hcut.out.1];rfl
    have z5:wc.cell? ⟨g,5,none⟩=some (.int .u64 0):=by rw [cell_of_row _ _ _ _ _ _ hcut.out.2.1];rfl
    have y5:=froz hcut.out.2.1 5
    have o6:wc.cell? ⟨g+1,6,none⟩=some (.int .u64 (gv:Int)):=by rw [cell_of_row _ _ _ _ _ _ hcut.out.1];rfl
    have z6:wc.cell? ⟨g,6,none⟩=some (.int .u64 0):=by rw [cell_of_row _ _ _ _ _ _ hcut.out.2.1];rfl
    have y6:=froz hcut.out.2.1 6
    have o7:wc.cell? ⟨g+1,7,none⟩=some (.int .i64 0):=by rw [cell_of_row _ _ _ _ _ _ hcut.out.1];rfl
    have z7:wc.cell? ⟨g,7,none⟩=some (.int .i64 0):=by rw [cell_of_row _ _ _ _ _ _ hcut.out.2.1];rfl
    have y7:=froz hcut.out.2.1 7
    have HFR:Hid (((((((((wc.setCell ⟨g,0,none⟩ (.int .i64 kind)).setCell ⟨g,1,none⟩ (.int .i64 ((m:Int)+1))).setCell ⟨g,2,none⟩ (.int .i64 (na:Int))).setCell ⟨g,3,none⟩ (.int .i64 x0)).setCell ⟨g,4,none⟩ (.int .i64 xl)).setCell ⟨g,5,none⟩ (.int .u64 (lv:Int))).setCell ⟨g,6,none⟩ (.int .u64 (gv:Int))).setCell ⟨g,7,none⟩ (.int .i64 0)).heap[g]?=some (.cells #[.int .i64 kind,.int .i64 ((m:Int)+1),.int .i64 (na:Int),.int .i64 x0,.int .i64 xl,.int .u64 (lv:Int),.int .u64 (gv:Int),.int .i64 0] 38 (0,0))∧Below g w ((((((((wc.setCell ⟨g,0,none⟩ (.int .i64 kind)).setCell ⟨g,1,none⟩ (.int .i64 ((m:Int)+1))).setCell ⟨g,2,none⟩ (.int .i64 (na:Int))).setCell ⟨g,3,none⟩ (.int .i64 x0)).setCell ⟨g,4,none⟩ (.int .i64 xl)).setCell ⟨g,5,none⟩ (.int .u64 (lv:Int))).setCell ⟨g,6,none⟩ (.int .u64 (gv:Int))).setCell ⟨g,7,none⟩ (.int .i64 0))):=⟨qCJ _ _ _ _ _ _ _ _ _ _ _ _ _ _ _ _ _ _ _ hcut.out.2.1,dB hcut.out.2.2 _ _ _ _ _ _ _ _ _ (Nat.le_refl _)⟩
    clear hcut
    go_wp2_with fail
    generalize ((((((((wc.setCell ⟨g,0,none⟩ (.int .i64 kind)).setCell ⟨g,1,none⟩ (.int .i64 ((m:Int)+1))).setCell ⟨g,2,none⟩ (.int .i64 (na:Int))).setCell ⟨g,3,none⟩ (.int .i64 x0)).setCell ⟨g,4,none⟩ (.int .i64 xl)).setCell ⟨g,5,none⟩ (.int .u64 (lv:Int))).setCell ⟨g,6,none⟩ (.int .u64 (gv:Int))).setCell ⟨g,7,none⟩ (.int .i64 0))=WF at*
    have HFC:Hid (kO v (m+1)=na):=HE.out.2.2.symm
    rw [HFC.out,HLV.out.1,HLV.out.2]
    obtain ⟨u0,u1,u2,u3,u4,u5,u6,u7⟩:=rowcells8 HFR.out.1
    exact bodyPost_ret (v:= .agg (bhA kind (m+1) na x0 xl lv gv 0)) (by simp [results,Tryz.results41,go_sem,bhA,u0,u1,u2,u3,u4,u5,u6,u7]) rfl ⟨rfl,by rw [HG.out];exact HFR.out.2⟩
end Go.Proofs.YtkpmalfigmimaaaGreatDoor
namespace Go.Proofs.YtkpmalfigmimaaaGreatDoor
open Go.RowKit
open M
end Go.Proofs.YtkpmalfigmimaaaGreatDoor
