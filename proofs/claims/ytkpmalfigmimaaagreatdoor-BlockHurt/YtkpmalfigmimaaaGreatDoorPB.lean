import Derived.Test.YtkpmalfigmimaaaGreatDoorC4A64
import Derived.Test.YtkpmalfigmimaaaGreatDoorC1A64
import Derived.Test.YtkpmalfigmimaaaGreatDoorP1B32
import Derived.Deep.RegionHeld3
import Derived.Laws.Tables
import Derived.Great.Walk
import Derived.Test.YtkpmalfigmimaaaGreatDoorD2A
import Derived.BigQuiet
import Derived.Test.YtkpmalfigmimaaaGreatDoorQG
import Derived.Test.YtkpmalfigmimaaaGreatDoorRC
set_option linter.unusedVariables false
set_option linter.unusedSimpArgs false
set_option maxRecDepth 100000
set_option maxHeartbeats 8000000
namespace Go.Proofs.YtkpmalfigmimaaaGreatDoor
open Go.RowKit
open M
def dB (k n:Nat) (f:Nat→Nat) (w:World) (e:Ending) (w':World):Prop:=
 (∃(pu:Option Addr) (cu:Nat) (bs:List Nat),e= .returned (.tuple #[.slice pu bs.length cu,.int .i64 0])∧jQ w' (.slice pu bs.length cu) bs∧(∀n∈bs,n<256)∧Below w.heap.size w w'∧jL k n f bs∧∀bs',jL k n f bs'→bs'=bs)∨
 (e= .returned (.tuple #[.slice none 0 0,.int .i64 82])∧Below w.heap.size w w'∧∀bs,jL k n f bs→False)
theorem xW (k:Nat) (p:Option Addr) (n cap:Nat) (f:Nat→Nat) (w:World) (hk1:1≤k) (hk6:k≤6) (h:qY w p n f) (hn:n≤4096) (hcap:n≤cap) (hf:∀i,i<n→f i<18446744073709551616) (hT:qT w):
  Calls Tryz.prog 90 #[.int .i64 k,.slice p n cap] w (dB k n f w):=by
 by_cases h0:n=0
 ·subst h0
  refine (rV k p cap w hk1 hk6).mono ?_
  rintro e w' ⟨rfl,hB⟩
  exact .inl ⟨none,0,[],rfl,.inl (.inl ⟨rfl,rfl⟩),by simp,hB,⟨hf,fun _=>rfl,fun h=>by omega⟩,fun bs' hP=>hP.2.1 rfl⟩
 ·refine (lQ k p n cap f w hk1 hk6 h (by omega) hn hcap hf hT).mono ?_
  intro e w' hE
  cases ho:yE k f n with
  |none=>
   rw [ho] at hE
   obtain ⟨rfl,hB⟩:=hE
   refine .inr ⟨rfl,hB,fun bs hP=>?_⟩
   obtain ⟨l,h1,_⟩:=hP.2.2 (by omega)
   rw [ho] at h1;cases h1
  |some l=>
   rw [ho] at hE
   obtain ⟨g,L,h1,h2,rfl,h4,h5⟩:=hE
   subst h1
   refine .inl ⟨_,_,packed l,rfl,.inl (jC h4),jR l,h5,⟨hf,fun h=>absurd h h0,fun _=>⟨l,ho,rfl⟩⟩,fun bs' hP=>?_⟩
   obtain ⟨l',h1,h2⟩:=hP.2.2 (by omega)
   rw [ho] at h1
   cases h1
   exact h2.symm
theorem qB3 (v:Value) (bs:List Nat) (n:Nat) (w:World) (hv:jQ w v bs) (hb:∀n∈bs,n<256) (hl:bs.length≤1000000000000) (hn:n≤4096) (hT:qT w)
  (hcall:∀w1,Below w.heap.size w w1→Calls Tryz.prog 114 #[v,.int .i64 n] w1 (uE 1 bs n w1)):
  Calls Tryz.prog 84 #[.int .i64 1,v,.int .i64 n] w (qR 1 bs n w):=by
 have hf:Instr.findNow (.int .i64) (.int .i64 1) zN.toList 0=some (some (0,.func (.func 114) #[] #[])):=by kernel_rfl
 have HV:=qA hv
 have HBB:=qA hb
 have HT:=qA hT
 have HC:=qA hcall
 have HAG:=qA (fun p cap f w1 h1 h2 h3 h4=>xW 1 p n cap f w1 (by omega) (by omega) h1 hn h2 h3 h4)
 clear hv hb hT hcall hl
 go_enter Tryz.func84,Tryz.ntmps84
 go_wp2_with fail
 refine (jW w).mono ?_
 rintro e w1 ⟨rfl,b1,B1⟩
 have hlk:=jJ (P:=Tryz.prog) (w:=w1) _ _ _ _ _ _ 1 _ _ Tryz.underlying162 Tryz.underlying3 b1 hf
 have HB1:=qA B1
 clear B1 b1 hf
 go_wp2_with fail
 refine (HC.out w1 HB1.out).mono ?_
 intro e w2 hE
 rcases hE with ⟨c,hc,rfl,B2,hno⟩|⟨u,f,rfl,hU,hr,hfull⟩
 ·have hcn:(c !=0)=true:=by rw [bne_iff_ne];exact hc
  have HFIN:Hid (qR 1 bs n w (.returned (.tuple #[.slice none 0 0,.int .i64 83])) w2):= .inl ⟨rfl,HB1.out.trans (B2.mono HB1.out.size),hno⟩
  clear hc B2 hno
  go_wp2_with fail
  go_ret2
  exact HFIN.out
 ·obtain ⟨p,cap,rfl,hcap,hrow⟩:=hU.row
  have HU:=qA hU
  have HRR:=qA (And.intro hr hfull)
  have hB2:=hU.2.1
  have HB2:Hid (Below w.heap.size w w2):=HB1.out.trans (hB2.mono HB1.out.size)
  have HAGN:=qA (HAG.out p cap f w2 hrow hcap hr (HT.out.below HB2.out))
  clear hU hr hfull hrow hB2
  go_wp2_with fail
  refine HAGN.out.mono ?_
  intro e w3 hE
  rcases hE with ⟨px,cx,bx,rfl,hx,hbx,B3,hP,huq⟩|⟨rfl,B3,hno⟩
  ·have HB3:Hid (Below w.heap.size w w3):=HB2.out.trans (B3.mono HB2.out.size)
   have HEQ:=qA (jP (.slice px bx.length cx) v bx bs w3 hx (qD HV.out HB3.out) hbx HBB.out)
   by_cases e:bx=bs
   ·have HFIN:Hid (qR 1 bs n w (.returned (.tuple #[.slice p n cap,.int .i64 0])) w3):=by
     refine .inr ⟨_,f,rfl,?_,by rw [←e];exact hP,HRR.out.2⟩
     have h1:=HU.out.1
     have h2:=HB1.out.size
     refine ⟨(jE h1 fun g hg1 hg2=>B3.block g hg2).mono h2,HB3.out,Nat.le_refl _⟩
    rw [decide_eq_true e] at HEQ
    clear hx hbx B3 hP huq e
    go_wp2_with fail
    refine HEQ.out.mono ?_
    rintro e w4 ⟨rfl,h4⟩
    have h4:=h4.symm
    subst h4
    go_wp2_with fail
    go_ret2
    exact HFIN.out
   ·have HFIN:Hid (qR 1 bs n w (.returned (.tuple #[.slice none 0 0,.int .i64 83])) w3):=by
     refine .inl ⟨rfl,HB3.out,fun h hPh=>e ?_⟩
     exact (huq bs (hPh.congr fun i hi=>(HRR.out.2 h hPh i hi).symm)).symm
    rw [decide_eq_false e] at HEQ
    clear hx hbx B3 hP huq e
    go_wp2_with fail
    refine HEQ.out.mono ?_
    rintro e w4 ⟨rfl,h4⟩
    have h4:=h4.symm
    subst h4
    go_wp2_with fail
    go_ret2
    exact HFIN.out
  ·have HFIN:Hid (qR 1 bs n w (.returned (.tuple #[.slice none 0 0,.int .i64 83])) w3):=by
    refine .inl ⟨rfl,HB2.out.trans (B3.mono HB2.out.size),fun h hPh=>?_⟩
    exact hno bs (hPh.congr fun i hi=>(HRR.out.2 h hPh i hi).symm)
   clear B3 hno
   go_wp2_with fail
   go_ret2
   exact HFIN.out
theorem qB4 (v:Value) (bs:List Nat) (n:Nat) (w:World) (hv:jQ w v bs) (hb:∀n∈bs,n<256) (hl:bs.length≤1000000000000) (hn:n≤4096) (hT:qT w)
  (hcall:∀w1,Below w.heap.size w w1→Calls Tryz.prog 115 #[v,.int .i64 n] w1 (uE 2 bs n w1)):
  Calls Tryz.prog 84 #[.int .i64 2,v,.int .i64 n] w (qR 2 bs n w):=by
 have hf:Instr.findNow (.int .i64) (.int .i64 2) zN.toList 0=some (some (1,.func (.func 115) #[] #[])):=by kernel_rfl
 have HV:=qA hv
 have HBB:=qA hb
 have HT:=qA hT
 have HC:=qA hcall
 have HAG:=qA (fun p cap f w1 h1 h2 h3 h4=>xW 2 p n cap f w1 (by omega) (by omega) h1 hn h2 h3 h4)
 clear hv hb hT hcall hl
 go_enter Tryz.func84,Tryz.ntmps84
 go_wp2_with fail
 refine (jW w).mono ?_
 rintro e w1 ⟨rfl,b1,B1⟩
 have hlk:=jJ (P:=Tryz.prog) (w:=w1) _ _ _ _ _ _ 2 _ _ Tryz.underlying162 Tryz.underlying3 b1 hf
 have HB1:=qA B1
 clear B1 b1 hf
 go_wp2_with fail
 refine (HC.out w1 HB1.out).mono ?_
 intro e w2 hE
 rcases hE with ⟨c,hc,rfl,B2,hno⟩|⟨u,f,rfl,hU,hr,hfull⟩
 ·have hcn:(c !=0)=true:=by rw [bne_iff_ne];exact hc
  have HFIN:Hid (qR 2 bs n w (.returned (.tuple #[.slice none 0 0,.int .i64 83])) w2):= .inl ⟨rfl,HB1.out.trans (B2.mono HB1.out.size),hno⟩
  clear hc B2 hno
  go_wp2_with fail
  go_ret2
  exact HFIN.out
 ·obtain ⟨p,cap,rfl,hcap,hrow⟩:=hU.row
  have HU:=qA hU
  have HRR:=qA (And.intro hr hfull)
  have hB2:=hU.2.1
  have HB2:Hid (Below w.heap.size w w2):=HB1.out.trans (hB2.mono HB1.out.size)
  have HAGN:=qA (HAG.out p cap f w2 hrow hcap hr (HT.out.below HB2.out))
  clear hU hr hfull hrow hB2
  go_wp2_with fail
  refine HAGN.out.mono ?_
  intro e w3 hE
  rcases hE with ⟨px,cx,bx,rfl,hx,hbx,B3,hP,huq⟩|⟨rfl,B3,hno⟩
  ·have HB3:Hid (Below w.heap.size w w3):=HB2.out.trans (B3.mono HB2.out.size)
   have HEQ:=qA (jP (.slice px bx.length cx) v bx bs w3 hx (qD HV.out HB3.out) hbx HBB.out)
   by_cases e:bx=bs
   ·have HFIN:Hid (qR 2 bs n w (.returned (.tuple #[.slice p n cap,.int .i64 0])) w3):=by
     refine .inr ⟨_,f,rfl,?_,by rw [←e];exact hP,HRR.out.2⟩
     have h1:=HU.out.1
     have h2:=HB1.out.size
     refine ⟨(jE h1 fun g hg1 hg2=>B3.block g hg2).mono h2,HB3.out,Nat.le_refl _⟩
    rw [decide_eq_true e] at HEQ
    clear hx hbx B3 hP huq e
    go_wp2_with fail
    refine HEQ.out.mono ?_
    rintro e w4 ⟨rfl,h4⟩
    have h4:=h4.symm
    subst h4
    go_wp2_with fail
    go_ret2
    exact HFIN.out
   ·have HFIN:Hid (qR 2 bs n w (.returned (.tuple #[.slice none 0 0,.int .i64 83])) w3):=by
     refine .inl ⟨rfl,HB3.out,fun h hPh=>e ?_⟩
     exact (huq bs (hPh.congr fun i hi=>(HRR.out.2 h hPh i hi).symm)).symm
    rw [decide_eq_false e] at HEQ
    clear hx hbx B3 hP huq e
    go_wp2_with fail
    refine HEQ.out.mono ?_
    rintro e w4 ⟨rfl,h4⟩
    have h4:=h4.symm
    subst h4
    go_wp2_with fail
    go_ret2
    exact HFIN.out
  ·have HFIN:Hid (qR 2 bs n w (.returned (.tuple #[.slice none 0 0,.int .i64 83])) w3):=by
    refine .inl ⟨rfl,HB2.out.trans (B3.mono HB2.out.size),fun h hPh=>?_⟩
    exact hno bs (hPh.congr fun i hi=>(HRR.out.2 h hPh i hi).symm)
   clear B3 hno
   go_wp2_with fail
   go_ret2
   exact HFIN.out
theorem qB5 (v:Value) (bs:List Nat) (n:Nat) (w:World) (hv:jQ w v bs) (hb:∀n∈bs,n<256) (hl:bs.length≤1000000000000) (hn:n≤4096) (hT:qT w)
  (hcall:∀w1,Below w.heap.size w w1→Calls Tryz.prog 116 #[v,.int .i64 n] w1 (uE 3 bs n w1)):
  Calls Tryz.prog 84 #[.int .i64 3,v,.int .i64 n] w (qR 3 bs n w):=by
 have hf:Instr.findNow (.int .i64) (.int .i64 3) zN.toList 0=some (some (2,.func (.func 116) #[] #[])):=by kernel_rfl
 have HV:=qA hv
 have HBB:=qA hb
 have HT:=qA hT
 have HC:=qA hcall
 have HAG:=qA (fun p cap f w1 h1 h2 h3 h4=>xW 3 p n cap f w1 (by omega) (by omega) h1 hn h2 h3 h4)
 clear hv hb hT hcall hl
 go_enter Tryz.func84,Tryz.ntmps84
 go_wp2_with fail
 refine (jW w).mono ?_
 rintro e w1 ⟨rfl,b1,B1⟩
 have hlk:=jJ (P:=Tryz.prog) (w:=w1) _ _ _ _ _ _ 3 _ _ Tryz.underlying162 Tryz.underlying3 b1 hf
 have HB1:=qA B1
 clear B1 b1 hf
 go_wp2_with fail
 refine (HC.out w1 HB1.out).mono ?_
 intro e w2 hE
 rcases hE with ⟨c,hc,rfl,B2,hno⟩|⟨u,f,rfl,hU,hr,hfull⟩
 ·have hcn:(c !=0)=true:=by rw [bne_iff_ne];exact hc
  have HFIN:Hid (qR 3 bs n w (.returned (.tuple #[.slice none 0 0,.int .i64 83])) w2):= .inl ⟨rfl,HB1.out.trans (B2.mono HB1.out.size),hno⟩
  clear hc B2 hno
  go_wp2_with fail
  go_ret2
  exact HFIN.out
 ·obtain ⟨p,cap,rfl,hcap,hrow⟩:=hU.row
  have HU:=qA hU
  have HRR:=qA (And.intro hr hfull)
  have hB2:=hU.2.1
  have HB2:Hid (Below w.heap.size w w2):=HB1.out.trans (hB2.mono HB1.out.size)
  have HAGN:=qA (HAG.out p cap f w2 hrow hcap hr (HT.out.below HB2.out))
  clear hU hr hfull hrow hB2
  go_wp2_with fail
  refine HAGN.out.mono ?_
  intro e w3 hE
  rcases hE with ⟨px,cx,bx,rfl,hx,hbx,B3,hP,huq⟩|⟨rfl,B3,hno⟩
  ·have HB3:Hid (Below w.heap.size w w3):=HB2.out.trans (B3.mono HB2.out.size)
   have HEQ:=qA (jP (.slice px bx.length cx) v bx bs w3 hx (qD HV.out HB3.out) hbx HBB.out)
   by_cases e:bx=bs
   ·have HFIN:Hid (qR 3 bs n w (.returned (.tuple #[.slice p n cap,.int .i64 0])) w3):=by
     refine .inr ⟨_,f,rfl,?_,by rw [←e];exact hP,HRR.out.2⟩
     have h1:=HU.out.1
     have h2:=HB1.out.size
     refine ⟨(jE h1 fun g hg1 hg2=>B3.block g hg2).mono h2,HB3.out,Nat.le_refl _⟩
    rw [decide_eq_true e] at HEQ
    clear hx hbx B3 hP huq e
    go_wp2_with fail
    refine HEQ.out.mono ?_
    rintro e w4 ⟨rfl,h4⟩
    have h4:=h4.symm
    subst h4
    go_wp2_with fail
    go_ret2
    exact HFIN.out
   ·have HFIN:Hid (qR 3 bs n w (.returned (.tuple #[.slice none 0 0,.int .i64 83])) w3):=by
     refine .inl ⟨rfl,HB3.out,fun h hPh=>e ?_⟩
     exact (huq bs (hPh.congr fun i hi=>(HRR.out.2 h hPh i hi).symm)).symm
    rw [decide_eq_false e] at HEQ
    clear hx hbx B3 hP huq e
    go_wp2_with fail
    refine HEQ.out.mono ?_
    rintro e w4 ⟨rfl,h4⟩
    have h4:=h4.symm
    subst h4
    go_wp2_with fail
    go_ret2
    exact HFIN.out
  ·have HFIN:Hid (qR 3 bs n w (.returned (.tuple #[.slice none 0 0,.int .i64 83])) w3):=by
    refine .inl ⟨rfl,HB2.out.trans (B3.mono HB2.out.size),fun h hPh=>?_⟩
    exact hno bs (hPh.congr fun i hi=>(HRR.out.2 h hPh i hi).symm)
   clear B3 hno
   go_wp2_with fail
   go_ret2
   exact HFIN.out
theorem qB6 (v:Value) (bs:List Nat) (n:Nat) (w:World) (hv:jQ w v bs) (hb:∀n∈bs,n<256) (hl:bs.length≤1000000000000) (hn:n≤4096) (hT:qT w)
  (hcall:∀w1,Below w.heap.size w w1→Calls Tryz.prog 117 #[v,.int .i64 n] w1 (uE 4 bs n w1)):
  Calls Tryz.prog 84 #[.int .i64 4,v,.int .i64 n] w (qR 4 bs n w):=by
 have hf:Instr.findNow (.int .i64) (.int .i64 4) zN.toList 0=some (some (3,.func (.func 117) #[] #[])):=by kernel_rfl
 have HV:=qA hv
 have HBB:=qA hb
 have HT:=qA hT
 have HC:=qA hcall
 have HAG:=qA (fun p cap f w1 h1 h2 h3 h4=>xW 4 p n cap f w1 (by omega) (by omega) h1 hn h2 h3 h4)
 clear hv hb hT hcall hl
 go_enter Tryz.func84,Tryz.ntmps84
 go_wp2_with fail
 refine (jW w).mono ?_
 rintro e w1 ⟨rfl,b1,B1⟩
 have hlk:=jJ (P:=Tryz.prog) (w:=w1) _ _ _ _ _ _ 4 _ _ Tryz.underlying162 Tryz.underlying3 b1 hf
 have HB1:=qA B1
 clear B1 b1 hf
 go_wp2_with fail
 refine (HC.out w1 HB1.out).mono ?_
 intro e w2 hE
 rcases hE with ⟨c,hc,rfl,B2,hno⟩|⟨u,f,rfl,hU,hr,hfull⟩
 ·have hcn:(c !=0)=true:=by rw [bne_iff_ne];exact hc
  have HFIN:Hid (qR 4 bs n w (.returned (.tuple #[.slice none 0 0,.int .i64 83])) w2):= .inl ⟨rfl,HB1.out.trans (B2.mono HB1.out.size),hno⟩
  clear hc B2 hno
  go_wp2_with fail
  go_ret2
  exact HFIN.out
 ·obtain ⟨p,cap,rfl,hcap,hrow⟩:=hU.row
  have HU:=qA hU
  have HRR:=qA (And.intro hr hfull)
  have hB2:=hU.2.1
  have HB2:Hid (Below w.heap.size w w2):=HB1.out.trans (hB2.mono HB1.out.size)
  have HAGN:=qA (HAG.out p cap f w2 hrow hcap hr (HT.out.below HB2.out))
  clear hU hr hfull hrow hB2
  go_wp2_with fail
  refine HAGN.out.mono ?_
  intro e w3 hE
  rcases hE with ⟨px,cx,bx,rfl,hx,hbx,B3,hP,huq⟩|⟨rfl,B3,hno⟩
  ·have HB3:Hid (Below w.heap.size w w3):=HB2.out.trans (B3.mono HB2.out.size)
   have HEQ:=qA (jP (.slice px bx.length cx) v bx bs w3 hx (qD HV.out HB3.out) hbx HBB.out)
   by_cases e:bx=bs
   ·have HFIN:Hid (qR 4 bs n w (.returned (.tuple #[.slice p n cap,.int .i64 0])) w3):=by
     refine .inr ⟨_,f,rfl,?_,by rw [←e];exact hP,HRR.out.2⟩
     have h1:=HU.out.1
     have h2:=HB1.out.size
     refine ⟨(jE h1 fun g hg1 hg2=>B3.block g hg2).mono h2,HB3.out,Nat.le_refl _⟩
    rw [decide_eq_true e] at HEQ
    clear hx hbx B3 hP huq e
    go_wp2_with fail
    refine HEQ.out.mono ?_
    rintro e w4 ⟨rfl,h4⟩
    have h4:=h4.symm
    subst h4
    go_wp2_with fail
    go_ret2
    exact HFIN.out
   ·have HFIN:Hid (qR 4 bs n w (.returned (.tuple #[.slice none 0 0,.int .i64 83])) w3):=by
     refine .inl ⟨rfl,HB3.out,fun h hPh=>e ?_⟩
     exact (huq bs (hPh.congr fun i hi=>(HRR.out.2 h hPh i hi).symm)).symm
    rw [decide_eq_false e] at HEQ
    clear hx hbx B3 hP huq e
    go_wp2_with fail
    refine HEQ.out.mono ?_
    rintro e w4 ⟨rfl,h4⟩
    have h4:=h4.symm
    subst h4
    go_wp2_with fail
    go_ret2
    exact HFIN.out
  ·have HFIN:Hid (qR 4 bs n w (.returned (.tuple #[.slice none 0 0,.int .i64 83])) w3):=by
    refine .inl ⟨rfl,HB2.out.trans (B3.mono HB2.out.size),fun h hPh=>?_⟩
    exact hno bs (hPh.congr fun i hi=>(HRR.out.2 h hPh i hi).symm)
   clear B3 hno
   go_wp2_with fail
   go_ret2
   exact HFIN.out
theorem qB7 (v:Value) (bs:List Nat) (n:Nat) (w:World) (hv:jQ w v bs) (hb:∀n∈bs,n<256) (hl:bs.length≤1000000000000) (hn:n≤4096) (hT:qT w)
  (hcall:∀w1,Below w.heap.size w w1→Calls Tryz.prog 118 #[v,.int .i64 n] w1 (uE 5 bs n w1)):
  Calls Tryz.prog 84 #[.int .i64 5,v,.int .i64 n] w (qR 5 bs n w):=by
 have hf:Instr.findNow (.int .i64) (.int .i64 5) zN.toList 0=some (some (4,.func (.func 118) #[] #[])):=by kernel_rfl
 have HV:=qA hv
 have HBB:=qA hb
 have HT:=qA hT
 have HC:=qA hcall
 have HAG:=qA (fun p cap f w1 h1 h2 h3 h4=>xW 5 p n cap f w1 (by omega) (by omega) h1 hn h2 h3 h4)
 clear hv hb hT hcall hl
 go_enter Tryz.func84,Tryz.ntmps84
 go_wp2_with fail
 refine (jW w).mono ?_
 rintro e w1 ⟨rfl,b1,B1⟩
 have hlk:=jJ (P:=Tryz.prog) (w:=w1) _ _ _ _ _ _ 5 _ _ Tryz.underlying162 Tryz.underlying3 b1 hf
 have HB1:=qA B1
 clear B1 b1 hf
 go_wp2_with fail
 refine (HC.out w1 HB1.out).mono ?_
 intro e w2 hE
 rcases hE with ⟨c,hc,rfl,B2,hno⟩|⟨u,f,rfl,hU,hr,hfull⟩
 ·have hcn:(c !=0)=true:=by rw [bne_iff_ne];exact hc
  have HFIN:Hid (qR 5 bs n w (.returned (.tuple #[.slice none 0 0,.int .i64 83])) w2):= .inl ⟨rfl,HB1.out.trans (B2.mono HB1.out.size),hno⟩
  clear hc B2 hno
  go_wp2_with fail
  go_ret2
  exact HFIN.out
 ·obtain ⟨p,cap,rfl,hcap,hrow⟩:=hU.row
  have HU:=qA hU
  have HRR:=qA (And.intro hr hfull)
  have hB2:=hU.2.1
  have HB2:Hid (Below w.heap.size w w2):=HB1.out.trans (hB2.mono HB1.out.size)
  have HAGN:=qA (HAG.out p cap f w2 hrow hcap hr (HT.out.below HB2.out))
  clear hU hr hfull hrow hB2
  go_wp2_with fail
  refine HAGN.out.mono ?_
  intro e w3 hE
  rcases hE with ⟨px,cx,bx,rfl,hx,hbx,B3,hP,huq⟩|⟨rfl,B3,hno⟩
  ·have HB3:Hid (Below w.heap.size w w3):=HB2.out.trans (B3.mono HB2.out.size)
   have HEQ:=qA (jP (.slice px bx.length cx) v bx bs w3 hx (qD HV.out HB3.out) hbx HBB.out)
   by_cases e:bx=bs
   ·have HFIN:Hid (qR 5 bs n w (.returned (.tuple #[.slice p n cap,.int .i64 0])) w3):=by
     refine .inr ⟨_,f,rfl,?_,by rw [←e];exact hP,HRR.out.2⟩
     have h1:=HU.out.1
     have h2:=HB1.out.size
     refine ⟨(jE h1 fun g hg1 hg2=>B3.block g hg2).mono h2,HB3.out,Nat.le_refl _⟩
    rw [decide_eq_true e] at HEQ
    clear hx hbx B3 hP huq e
    go_wp2_with fail
    refine HEQ.out.mono ?_
    rintro e w4 ⟨rfl,h4⟩
    have h4:=h4.symm
    subst h4
    go_wp2_with fail
    go_ret2
    exact HFIN.out
   ·have HFIN:Hid (qR 5 bs n w (.returned (.tuple #[.slice none 0 0,.int .i64 83])) w3):=by
     refine .inl ⟨rfl,HB3.out,fun h hPh=>e ?_⟩
     exact (huq bs (hPh.congr fun i hi=>(HRR.out.2 h hPh i hi).symm)).symm
    rw [decide_eq_false e] at HEQ
    clear hx hbx B3 hP huq e
    go_wp2_with fail
    refine HEQ.out.mono ?_
    rintro e w4 ⟨rfl,h4⟩
    have h4:=h4.symm
    subst h4
    go_wp2_with fail
    go_ret2
    exact HFIN.out
  ·have HFIN:Hid (qR 5 bs n w (.returned (.tuple #[.slice none 0 0,.int .i64 83])) w3):=by
    refine .inl ⟨rfl,HB2.out.trans (B3.mono HB2.out.size),fun h hPh=>?_⟩
    exact hno bs (hPh.congr fun i hi=>(HRR.out.2 h hPh i hi).symm)
   clear B3 hno
   go_wp2_with fail
   go_ret2
   exact HFIN.out
theorem qB8 (v:Value) (bs:List Nat) (n:Nat) (w:World) (hv:jQ w v bs) (hb:∀n∈bs,n<256) (hl:bs.length≤1000000000000) (hn:n≤4096) (hT:qT w)
  (hcall:∀w1,Below w.heap.size w w1→Calls Tryz.prog 119 #[v,.int .i64 n] w1 (uE 6 bs n w1)):
  Calls Tryz.prog 84 #[.int .i64 6,v,.int .i64 n] w (qR 6 bs n w):=by
 have hf:Instr.findNow (.int .i64) (.int .i64 6) zN.toList 0=some (some (5,.func (.func 119) #[] #[])):=by kernel_rfl
 have HV:=qA hv
 have HBB:=qA hb
 have HT:=qA hT
 have HC:=qA hcall
 have HAG:=qA (fun p cap f w1 h1 h2 h3 h4=>xW 6 p n cap f w1 (by omega) (by omega) h1 hn h2 h3 h4)
 clear hv hb hT hcall hl
 go_enter Tryz.func84,Tryz.ntmps84
 go_wp2_with fail
 refine (jW w).mono ?_
 rintro e w1 ⟨rfl,b1,B1⟩
 have hlk:=jJ (P:=Tryz.prog) (w:=w1) _ _ _ _ _ _ 6 _ _ Tryz.underlying162 Tryz.underlying3 b1 hf
 have HB1:=qA B1
 clear B1 b1 hf
 go_wp2_with fail
 refine (HC.out w1 HB1.out).mono ?_
 intro e w2 hE
 rcases hE with ⟨c,hc,rfl,B2,hno⟩|⟨u,f,rfl,hU,hr,hfull⟩
 ·have hcn:(c !=0)=true:=by rw [bne_iff_ne];exact hc
  have HFIN:Hid (qR 6 bs n w (.returned (.tuple #[.slice none 0 0,.int .i64 83])) w2):= .inl ⟨rfl,HB1.out.trans (B2.mono HB1.out.size),hno⟩
  clear hc B2 hno
  go_wp2_with fail
  go_ret2
  exact HFIN.out
 ·obtain ⟨p,cap,rfl,hcap,hrow⟩:=hU.row
  have HU:=qA hU
  have HRR:=qA (And.intro hr hfull)
  have hB2:=hU.2.1
  have HB2:Hid (Below w.heap.size w w2):=HB1.out.trans (hB2.mono HB1.out.size)
  have HAGN:=qA (HAG.out p cap f w2 hrow hcap hr (HT.out.below HB2.out))
  clear hU hr hfull hrow hB2
  go_wp2_with fail
  refine HAGN.out.mono ?_
  intro e w3 hE
  rcases hE with ⟨px,cx,bx,rfl,hx,hbx,B3,hP,huq⟩|⟨rfl,B3,hno⟩
  ·have HB3:Hid (Below w.heap.size w w3):=HB2.out.trans (B3.mono HB2.out.size)
   have HEQ:=qA (jP (.slice px bx.length cx) v bx bs w3 hx (qD HV.out HB3.out) hbx HBB.out)
   by_cases e:bx=bs
   ·have HFIN:Hid (qR 6 bs n w (.returned (.tuple #[.slice p n cap,.int .i64 0])) w3):=by
     refine .inr ⟨_,f,rfl,?_,by rw [←e];exact hP,HRR.out.2⟩
     have h1:=HU.out.1
     have h2:=HB1.out.size
     refine ⟨(jE h1 fun g hg1 hg2=>B3.block g hg2).mono h2,HB3.out,Nat.le_refl _⟩
    rw [decide_eq_true e] at HEQ
    clear hx hbx B3 hP huq e
    go_wp2_with fail
    refine HEQ.out.mono ?_
    rintro e w4 ⟨rfl,h4⟩
    have h4:=h4.symm
    subst h4
    go_wp2_with fail
    go_ret2
    exact HFIN.out
   ·have HFIN:Hid (qR 6 bs n w (.returned (.tuple #[.slice none 0 0,.int .i64 83])) w3):=by
     refine .inl ⟨rfl,HB3.out,fun h hPh=>e ?_⟩
     exact (huq bs (hPh.congr fun i hi=>(HRR.out.2 h hPh i hi).symm)).symm
    rw [decide_eq_false e] at HEQ
    clear hx hbx B3 hP huq e
    go_wp2_with fail
    refine HEQ.out.mono ?_
    rintro e w4 ⟨rfl,h4⟩
    have h4:=h4.symm
    subst h4
    go_wp2_with fail
    go_ret2
    exact HFIN.out
  ·have HFIN:Hid (qR 6 bs n w (.returned (.tuple #[.slice none 0 0,.int .i64 83])) w3):=by
    refine .inl ⟨rfl,HB2.out.trans (B3.mono HB2.out.size),fun h hPh=>?_⟩
    exact hno bs (hPh.congr fun i hi=>(HRR.out.2 h hPh i hi).symm)
   clear B3 hno
   go_wp2_with fail
   go_ret2
   exact HFIN.out
theorem rX (k:Nat) (v:Value) (bs:List Nat) (n:Nat) (w:World) (hk1:1≤k) (hk6:k≤6) (hv:jQ w v bs) (hb:∀n∈bs,n<256) (hl:bs.length≤1000000000000) (hn:n≤4096) (hT:qT w):
  Calls Tryz.prog 84 #[.int .i64 k,v,.int .i64 n] w (qR k bs n w):=by
 obtain rfl|rfl|rfl|rfl|rfl|rfl:k=1∨k=2∨k=3∨k=4∨k=5∨k=6:=by omega
 ·exact qB3 v bs n w hv hb hl hn hT fun w1 B1=>(pV v bs n w1 (qD hv B1) hb hl hn).mono fun e w' hE=>yR rfl (uX (fun h=>rfl) hn hE)
 ·exact qB4 v bs n w hv hb hl hn hT fun w1 B1=>(qAI v bs n w1 (qD hv B1) hb hl hn (hT.below B1)).mono fun e w' hE=>qC3 hn hE
 ·exact qB5 v bs n w hv hb hl hn hT fun w1 B1=>(mV v bs n w1 (qD hv B1) hb hl hn).mono fun e w' hE=>yR rfl hE
 ·exact qB6 v bs n w hv hb hl hn hT fun w1 B1=>(mT v bs n w1 (qD hv B1) hb hl hn).mono fun e w' hE=>yR rfl hE
 ·exact qB7 v bs n w hv hb hl hn hT fun w1 B1=>(gO v bs n w1 (qD hv B1) hb hl hn).mono fun e w' hE=>yR rfl (uX (fun h=>rfl) hn hE)
 ·exact qB8 v bs n w hv hb hl hn hT fun w1 B1=>(wK v bs n w1 (qD hv B1) hb hl hn).mono fun e w' hE=>yR rfl hE
end Go.Proofs.YtkpmalfigmimaaaGreatDoor
namespace Go.Proofs.YtkpmalfigmimaaaGreatDoor
open Go.RowKit
open M
structure tS (n:Nat) (f:Nat→Nat) (q k:Nat) (bs:List Nat):Prop where
 lo:1≤k
 hi:k≤q
 is:jL k n f bs
 least:∀k' bs',1≤k'→k'≤q→jL k' n f bs'→bs.length<bs'.length∨(bs.length=bs'.length∧k≤k')
def tP (n:Nat) (f:Nat→Nat) (w:World) (e:Ending) (w':World):Prop:=
 ∃(k:Nat) (p:Option Addr) (c:Nat) (bs:List Nat),e= .returned (.tuple #[.int .i64 (k:Int),.slice p bs.length c,.int .i64 0])∧jQ w' (.slice p bs.length c) bs∧(∀n∈bs,n<256)∧tS n f 6 k bs∧Below w.heap.size w w'
theorem qDR (p:Option Addr) (n cap:Nat) (f:Nat→Nat) (w:World) (h:qY w p n f) (hn:n≤4096) (hcap:n≤cap) (hf:∀i,i<n→f i<18446744073709551616) (hT:qT w):
  Calls Tryz.prog 70 #[.slice p n cap] w (tP n f w):=by
 have HAG:=qA (fun k w1 (hk1:1≤k) (hk6:k≤6) (hB:Below w.heap.size w w1)=>xW k p n cap f w1 hk1 hk6 (h.below hB) hn hcap hf (hT.below hB))
 have HA1:=qA (xW 1 p n cap f w (by omega) (by omega) h hn hcap hf hT)
 have HN1:Hid (∀w' e,dB 1 n f w e w'→∃(pu:Option Addr) (cu:Nat) (bs:List Nat),e= .returned (.tuple #[.slice pu bs.length cu,.int .i64 0])∧jQ w' (.slice pu bs.length cu) bs∧(∀n∈bs,n<256)∧Below w.heap.size w w'∧tS n f 1 1 bs):=fun w' e hE=>by
  rcases hE with ⟨pu,cu,bs,h1,h2,h3,h4,h5,h6⟩|⟨_,_,h3⟩
  ·refine ⟨pu,cu,bs,h1,h2,h3,h4,Nat.le_refl _,Nat.le_refl _,h5,fun k' bs' hk1 hk2 hP=>?_⟩
   obtain rfl:k'=1:=by omega
   exact .inr ⟨by rw [h6 bs' hP],Nat.le_refl _⟩
  ·exfalso
   by_cases h0:n=0
   ·exact h3 [] ⟨hf,fun _=>rfl,fun h=>by omega⟩
   ·exact h3 _ ⟨hf,fun h=>absurd h h0,fun _=>⟨_,rfl,rfl⟩⟩
 clear h hf hT
 go_enter Tryz.func70,Tryz.ntmps70
 go_wp2_with fail
 refine HA1.out.mono ?_
 intro e w1 hE
 obtain ⟨pu,cu,bs,rfl,h2,h3,h4,h5⟩:=HN1.out w1 e hE
 have H1:=qA (And.intro h2 (And.intro h3 (And.intro h4 h5)))
 clear hE h2 h3 h4 h5 HN1 HA1
 go_wp2_with fail
 go_loopw [5,6,8] (fun t5 t6 t8 wr=>∃(q k:Nat) (pu:Option Addr) (cu:Nat) (bs:List Nat),t8= .int .i64 ((q:Int)+1)∧t5= .int .i64 (k:Int)∧t6= .slice pu bs.length cu∧Hid (q≤6∧jQ wr (.slice pu bs.length cu) bs∧(∀n∈bs,n<256)∧tS n f q k bs∧Below w.heap.size w wr)) (fun _ _ t8 _=>7-(intOf t8).toNat)
 case atStart=>exact ⟨1,1,pu,cu,bs,rfl,rfl,rfl,by omega,H1.out.1,H1.out.2.1,H1.out.2.2.2,H1.out.2.2.1⟩
 case round=>
  obtain ⟨q,k,pu,cu,bs,rfl,rfl,rfl,hI⟩:=hrel
  by_cases hlt:q+1≤6
  ·have hle:(q:Int)+1≤6:=by omega
   have HQ:=qA (HAG.out (q+1) wr (by omega) hlt hI.out.2.2.2.2)
   rw [show (((q+1:Nat)):Int)=(q:Int)+1 from by simp] at HQ
   go_wp2_with fail
   refine HQ.out.mono ?_
   intro e w2 hE
   rcases hE with ⟨pv,cv,bv,rfl,h2,h3,h4,h5,h6⟩|⟨rfl,h2,h3⟩
   ·have HBB:Hid (Below w.heap.size w w2):=hI.out.2.2.2.2.trans (h4.mono hI.out.2.2.2.2.size)
    have HOLD:Hid (jQ w2 (.slice pu bs.length cu) bs):=qD hI.out.2.1 h4
    by_cases hl:bv.length<bs.length
    ·have HN:Hid (tS n f (q+1) (q+1) bv):=by
      refine ⟨by omega,Nat.le_refl _,h5,fun k' bs' hk1 hk2 hP=>?_⟩
      by_cases e:k'=q+1
      ·subst e;exact .inr ⟨by rw [h6 bs' hP],Nat.le_refl _⟩
      ·rcases hI.out.2.2.2.1.least k' bs' hk1 (by omega) hP with h|h
       ·exact .inl (by omega)
       ·exact .inl (by omega)
     have HNB:=qA (And.intro h2 h3)
     clear h2 h3 h4 h5 h6
     go_wp2_with fail
     go_roundw
     case rel=>exact ⟨q+1,q+1,pv,cv,bv,by simp,by simp,by simp,hlt,HNB.out.1,HNB.out.2,HN.out,HBB.out⟩
     case measure=>simp [intOf];omega
    ·have HN:Hid (tS n f (q+1) k bs):=by
      have B:=hI.out.2.2.2.1
      refine ⟨B.lo,by have:=B.hi;omega,B.is,fun k' bs' hk1 hk2 hP=>?_⟩
      by_cases e:k'=q+1
      ·subst e
       rw [h6 bs' hP]
       have:=B.hi
       omega
      ·exact B.least k' bs' hk1 (by omega) hP
     have H3:=qA hI.out.2.2.1
     clear h2 h3 h4 h5 h6 hI
     go_wp2_with fail
     go_roundw
     case rel=>exact ⟨q+1,k,pu,cu,bs,by simp,by simp,by simp,hlt,HOLD.out,H3.out,HN.out,HBB.out⟩
     case measure=>simp [intOf];omega
   ·have HBB:Hid (Below w.heap.size w w2):=hI.out.2.2.2.2.trans (h2.mono hI.out.2.2.2.2.size)
    have HOLD:Hid (jQ w2 (.slice pu bs.length cu) bs):=qD hI.out.2.1 h2
    have HN:Hid (tS n f (q+1) k bs):=by
     have B:=hI.out.2.2.2.1
     refine ⟨B.lo,by have:=B.hi;omega,B.is,fun k' bs' hk1 hk2 hP=>?_⟩
     by_cases e:k'=q+1
     ·subst e;exact (h3 bs' hP).elim
     ·exact B.least k' bs' hk1 (by omega) hP
    have H3:=qA hI.out.2.2.1
    clear h2 h3 hI
    go_wp2_with fail
    go_roundw
    case rel=>exact ⟨q+1,k,pu,cu,bs,by simp,by simp,by simp,hlt,HOLD.out,H3.out,HN.out,HBB.out⟩
    case measure=>simp [intOf];omega
  ·have hq:q=6:=by have:=hI.out.1;omega
   subst hq
   have HFIN:Hid (tP n f w (.returned (.tuple #[.int .i64 (k:Int),.slice pu bs.length cu,.int .i64 0])) wr):=⟨k,pu,cu,bs,rfl,hI.out.2.1,hI.out.2.2.1,hI.out.2.2.2.1,hI.out.2.2.2.2⟩
   go_wp2_with fail
   go_ret3
   exact HFIN.out
end Go.Proofs.YtkpmalfigmimaaaGreatDoor
namespace Go.Proofs.YtkpmalfigmimaaaGreatDoor
open Go.RowKit
open M
theorem dL (x:Nat) (w:World) (hx:x<18446744073709551616):Calls Tryz.prog 173 #[.int .u64 x] w fun e w'=>e= .returned (.int .i64 (bitLen x:Nat))∧w'=w:=by
 have HL:=qA (kW x w hx)
 go_enter Tryz.func173,Tryz.ntmps173
 go_wp2_with fail
 refine HL.out.mono ?_
 rintro e w1 ⟨rfl,rfl⟩
 go_wp2_with fail
 go_ret
 exact ⟨rfl,rfl⟩
theorem uG (w:World):Calls Tryz.prog 168 #[] w fun e w'=>e= .returned (.int .i64 32)∧w'=w:=by
 have hx:bits BinOp.xor IntKind.u32 0 4294967295=4294967295:=by decide +kernel
 have HL:=qA (dL 4294967295 w (by omega))
 rw [show bitLen 4294967295=32 from by decide +kernel] at HL
 go_enter Tryz.func168,Tryz.ntmps168
 go_wp2_with fail
 refine HL.out.mono ?_
 rintro e w1 ⟨rfl,rfl⟩
 go_wp2_with fail
 go_ret
 exact ⟨rfl,rfl⟩
theorem kR (b off lo:Nat) (v:Nat) (w:World) (l:List Bool) (hW:Wr w lo b off l 0) (hb:b<lo) (hlo:lo≤w.heap.size) (hlen:l.length+32<1000000000000) (hv:v<4294967296):
  Calls Tryz.prog 150 #[.pointer (some ⟨b,off,none⟩),.int .u32 v] w fun e w'=>e= .returned (.tuple #[])∧Wr w' lo b off (l++bitsOf v 32) 0∧qJ b off (off+123) w w':=by
 have r0:IntKind.u64.wrap (v:Int)=(v:Int):=by rw [IntKind.wrap_u64];omega
 have HW:=qA hW
 clear hW
 go_enter Tryz.func150,Tryz.ntmps150
 go_wp2_with fail
 refine (uG _).mono ?_
 rintro e w1 ⟨rfl,rfl⟩
 go_wp2_with fail
 refine (qK b off lo 32 v _ l HW.out hb hlo hlen (by omega) (by omega) (by omega)).mono ?_
 rintro e w1 ⟨rfl,W1,O1⟩
 go_wp2_with fail
 go_end0
 exact ⟨rfl,W1,O1⟩
def qDI (w:World) (b off:Nat) (s:ByteArray) (a:Nat) (e0:Int) (e:Ending) (w':World):Prop:=
 ∃(x a':Nat) (e1:Int),e= .returned (.int .u32 (x:Int))∧x<4294967296∧Tk w w' b off s a e0 a' e1 (bitsOf x 32)
theorem kK (b off:Nat) (s:ByteArray) (a:Nat) (e0:Int) (w:World) (h:Rd w b off s a e0):
  Calls Tryz.prog 132 #[.pointer (some ⟨b,off,none⟩)] w (qDI w b off s a e0):=by
 have H:=qA h
 clear h
 go_enter Tryz.func132,Tryz.ntmps132
 go_wp2_with fail
 refine (uG _).mono ?_
 rintro e w1 ⟨rfl,rfl⟩
 go_wp2_with fail
 refine (kQ b off s a 32 e0 _ H.out (by omega)).mono ?_
 rintro e w2 ⟨x,a',e1,rfl,hx,T⟩
 have HT:=qA T
 clear T
 have hx':x<4294967296:=by simpa using hx
 have r0:IntKind.u32.wrap (x:Int)=(x:Int):=by rw [IntKind.wrap_u32];omega
 go_wp2_with fail
 go_ret
 exact ⟨x,a',e1,rfl,hx',HT.out⟩
end Go.Proofs.YtkpmalfigmimaaaGreatDoor
namespace Go.Proofs.YtkpmalfigmimaaaGreatDoor
open Go.RowKit
open M
theorem kN (w:World):Calls Tryz.prog 186 #[] w fun e w'=>e= .returned (.bool false)∧w'=w:=by
 go_enter Tryz.func186,Tryz.ntmps186
 go_wp2_with fail
 refine (uG _).mono ?_
 rintro e w1 ⟨rfl,rfl⟩
 go_wp2_with fail
 go_ret
 exact ⟨rfl,rfl⟩
theorem qA4 (x:Nat) (w:World) (hx:x<4294967296):Calls Tryz.prog 156 #[.int .u32 x] w fun e w'=>e= .returned (.int .i64 (sgW 2147483648 4294967296 x))∧w'=w:=by
 have r0:IntKind.i32.wrap (x:Int)=sgW 2147483648 4294967296 x:=by rw [IntKind.wrap_i32];unfold sgW;split<;>omega
 have r1:IntKind.i64.wrap (sgW 2147483648 4294967296 x)=sgW 2147483648 4294967296 x:=by rw [IntKind.wrap_i64];unfold sgW;split<;>omega
 go_enter Tryz.func156,Tryz.ntmps156
 go_wp2_with fail
 refine (kN _).mono ?_
 rintro e w1 ⟨rfl,rfl⟩
 go_wp2_with fail
 go_ret
 exact ⟨rfl,rfl⟩
theorem vU (p:Option Addr) (n cap:Nat) (f:Nat→Nat) (w:World) (h:jB w p n f) (hn:n≤4096) (hcap:n≤cap) (hf:∀i,i<n→f i<4294967296):
  Calls Tryz.prog 137 #[.slice p n cap] w fun e w'=>e= .returned (.int .u32 (exS 4294967296 f n:Nat))∧∃m,w'=w.drewN m:=by
 match n with
 |0=>
  go_enter Tryz.func137,Tryz.ntmps137
  go_wp2_with fail
  go_ret
  exact ⟨rfl,0,rfl⟩
 |1=>
  obtain ⟨b,o,rfl,hc⟩:=h (by omega)
  have c0:w.cell? ⟨b,o,none⟩=some (.int .u32 (f 0:Int)):=hc 0 (by omega)
  have q0:(((1:Nat):Int)==0)=false:=by decide
  have q1:(((1:Nat):Int)==1)=true:=by decide
  go_enter Tryz.func137,Tryz.ntmps137
  go_wp2_with fail
  go_ret
  exact ⟨rfl,0,rfl⟩
 |k+2=>
  obtain ⟨b,o,rfl,hc⟩:=h (by omega)
  obtain ⟨x,hx⟩:∃x,f (k+1)=x:=⟨_,rfl⟩
  obtain ⟨y,hy⟩:∃y,f k=y:=⟨_,rfl⟩
  have c1:w.cell? ⟨b,o+(k+1),none⟩=some (.int .u32 (x:Int)):=by rw [←hx];exact hc (k+1) (by omega)
  have c0:w.cell? ⟨b,o+k,none⟩=some (.int .u32 (y:Int)):=by rw [←hy];exact hc k (by omega)
  have hxM:x<4294967296:=by rw [←hx];exact hf _ (by omega)
  have hyM:y<4294967296:=by rw [←hy];exact hf _ (by omega)
  have e1:exS 4294967296 f (k+2)=(2*x+4294967296-y)%4294967296:=by rw [exS,hx,hy]
  have e2:IntKind.u32.wrap (IntKind.u32.wrap (2*(x:Int))-(y:Int))=(((2*x+4294967296-y)%4294967296:Nat):Int):=by
   rw [IntKind.wrap_u32,IntKind.wrap_u32];omega
  have n0:(((k:Int)+2)==0)=false:=by rw [beq_eq_false_iff_ne];omega
  have n1:(((k:Int)+2)==1)=false:=by rw [beq_eq_false_iff_ne];omega
  rw [e1]
  have HX:=qA (And.intro hx hy)
  clear e1 hx hy hc h hf
  go_enter Tryz.func137,Tryz.ntmps137
  go_wp2_with fail
  go_quiet (fail)
  go_wp2_with fail
  go_ret
  exact ⟨by first|(rw [Int.natCast_emod];rfl)|rfl|(rw [←e2];rfl),_,rfl⟩
end Go.Proofs.YtkpmalfigmimaaaGreatDoor
namespace Go.Proofs.YtkpmalfigmimaaaGreatDoor
namespace Flt
open Ieee
end Flt
end Go.Proofs.YtkpmalfigmimaaaGreatDoor
namespace Go.Proofs.YtkpmalfigmimaaaGreatDoor
namespace Flt
open Ieee
end Flt
end Go.Proofs.YtkpmalfigmimaaaGreatDoor
namespace Go.Proofs.YtkpmalfigmimaaaGreatDoor
namespace Flt
open Ieee
section
variable (f : Format) (he : 1 ≤ f.exponentBits) (a b c : Nat)
include he
theorem mul_nan2 (h:f.infRung<rg f a∨f.infRung<rg f b):f.mul a b=none:=by
 have hi:=infRung_ge f he
 unfold Format.mul
 rcases h with h|h
 ·rw [read_nan f a hi h];rfl
 ·rw [read_nan f b hi h];cases f.read a<;>rfl
omit he in
theorem fin_zero (ha:rg f a<f.infRung):∃m k:Nat,f.read a= .number (sg f a) m (f.leastPlace+k)∧(m=0↔rg f a=0):=by
 obtain ⟨m,k,e1,e2,_⟩:=read_fin f a ha
 refine ⟨m,k,e1,fun h=>?_,fun h=>?_⟩
 ·rw [h,Nat.zero_mul] at e2
  exact V_inj (f:=f) (by rw [←e2,V_zero])
 ·rw [h,V_zero] at e2
  rcases Nat.mul_eq_zero.1 e2 with h|h
  ·exact h
  ·have:=Nat.two_pow_pos k;omega
theorem div_nan2 (h:f.infRung<rg f a∨f.infRung<rg f b):f.div a b=none:=by
 have hi:=infRung_ge f he
 unfold Format.div
 rcases h with h|h
 ·rw [read_nan f a hi h];rfl
 ·rw [read_nan f b hi h];cases f.read a<;>rfl
theorem div_inf_fin (ha:rg f a=f.infRung) (hb:rg f b<f.infRung):f.div a b=some (f.word (sg f a^^sg f b) f.infRung):=by
 have hi:=infRung_ge f he
 obtain ⟨n,l,e3,e4⟩:=fin_zero f b hb
 unfold Format.div
 rw [read_inf f a hi ha,e3];rfl
omit he in
theorem div_fin_zero (ha:rg f a<f.infRung) (hb:rg f b<f.infRung) (hb0:rg f b=0):f.div a b=if rg f a=0 then none else some (f.word (sg f a^^sg f b) f.infRung):=by
 obtain ⟨m,k,e1,e2⟩:=fin_zero f a ha
 obtain ⟨n,l,e3,e4⟩:=fin_zero f b hb
 unfold Format.div
 rw [e1,e3]
 simp only [Datum.quotient,if_pos (e4.2 hb0),e2]
 split<;>rfl
end
end Flt
end Go.Proofs.YtkpmalfigmimaaaGreatDoor
