import Derived.Test.YtkpmalfigmimaaaGreatDoorC4A32
import Derived.Test.YtkpmalfigmimaaaGreatDoorC1A64
import Derived.Test.YtkpmalfigmimaaaGreatDoorPB
set_option linter.unusedVariables false
set_option linter.unusedSimpArgs false
set_option maxRecDepth 100000
set_option maxHeartbeats 8000000
namespace Go.Proofs.YtkpmalfigmimaaaGreatDoor
open Go.RowKit
open M
theorem qAX (v:Value) (bs:List Nat) (n:Nat) (w:World) (hv:jQ w v bs) (hb:∀n∈bs,n<256) (hl:bs.length≤1000000000000) (hn:n≤4096) (hT:qT w)
  (hcall:∀w1,Below w.heap.size w w1→Calls Tryz.prog 108 #[v,.int .i64 n] w1 (uD 1 bs n w1)):
  Calls Tryz.prog 82 #[.int .i64 1,v,.int .i64 n] w (qQ 1 bs n w):=by
 have hf:Instr.findNow (.int .i64) (.int .i64 1) zM.toList 0=some (some (0,.func (.func 108) #[] #[])):=by kernel_rfl
 have HV:=qA hv
 have HBB:=qA hb
 have HT:=qA hT
 have HC:=qA hcall
 have HAG:=qA (fun p cap f w1 h1 h2 h3 h4=>xV 1 p n cap f w1 (by omega) (by omega) h1 hn h2 h3 h4)
 clear hv hb hT hcall hl
 go_enter Tryz.func82,Tryz.ntmps82
 go_wp2_with fail
 refine (jV w).mono ?_
 rintro e w1 ⟨rfl,b1,B1⟩
 have hlk:=jJ (P:=Tryz.prog) (w:=w1) _ _ _ _ _ _ 1 _ _ Tryz.underlying158 Tryz.underlying3 b1 hf
 have HB1:=qA B1
 clear B1 b1 hf
 go_wp2_with fail
 refine (HC.out w1 HB1.out).mono ?_
 intro e w2 hE
 rcases hE with ⟨c,hc,rfl,B2,hno⟩|⟨u,f,rfl,hU,hr,hfull⟩
 ·have hcn:(c !=0)=true:=by rw [bne_iff_ne];exact hc
  have HFIN:Hid (qQ 1 bs n w (.returned (.tuple #[.slice none 0 0,.int .i64 83])) w2):= .inl ⟨rfl,HB1.out.trans (B2.mono HB1.out.size),hno⟩
  clear hc B2 hno
  go_wp2_with fail
  go_ret2
  exact HFIN.out
 ·obtain ⟨p,cap,rfl,hcap,hrow⟩:=hU.row
  have HU:=qA hU
  have HRR:=qA (And.intro hr hfull)
  have hB2:=hU.2.1
  have HB2:Hid (Below w.heap.size w w2):=HB1.out.trans (hB2.mono HB1.out.size)
  have HAGN:=qA (HAG.out p cap f w2 hrow hcap hr (HT.out.below HB2.out))
  clear hU hr hfull hrow hB2
  go_wp2_with fail
  refine HAGN.out.mono ?_
  intro e w3 hE
  rcases hE with ⟨px,cx,bx,rfl,hx,hbx,B3,hP,huq⟩|⟨rfl,B3,hno⟩
  ·have HB3:Hid (Below w.heap.size w w3):=HB2.out.trans (B3.mono HB2.out.size)
   have HEQ:=qA (jO (.slice px bx.length cx) v bx bs w3 hx (qD HV.out HB3.out) hbx HBB.out)
   by_cases e:bx=bs
   ·have HFIN:Hid (qQ 1 bs n w (.returned (.tuple #[.slice p n cap,.int .i64 0])) w3):=by
     refine .inr ⟨_,f,rfl,?_,by rw [←e];exact hP,HRR.out.2⟩
     have h1:=HU.out.1
     have h2:=HB1.out.size
     refine ⟨(jD h1 fun g hg1 hg2=>B3.block g hg2).mono h2,HB3.out,Nat.le_refl _⟩
    rw [decide_eq_true e] at HEQ
    clear hx hbx B3 hP huq e
    go_wp2_with fail
    refine HEQ.out.mono ?_
    rintro e w4 ⟨rfl,h4⟩
    have h4:=h4.symm
    subst h4
    go_wp2_with fail
    go_ret2
    exact HFIN.out
   ·have HFIN:Hid (qQ 1 bs n w (.returned (.tuple #[.slice none 0 0,.int .i64 83])) w3):=by
     refine .inl ⟨rfl,HB3.out,fun h hPh=>e ?_⟩
     exact (huq bs (hPh.congr fun i hi=>(HRR.out.2 h hPh i hi).symm)).symm
    rw [decide_eq_false e] at HEQ
    clear hx hbx B3 hP huq e
    go_wp2_with fail
    refine HEQ.out.mono ?_
    rintro e w4 ⟨rfl,h4⟩
    have h4:=h4.symm
    subst h4
    go_wp2_with fail
    go_ret2
    exact HFIN.out
  ·have HFIN:Hid (qQ 1 bs n w (.returned (.tuple #[.slice none 0 0,.int .i64 83])) w3):=by
    refine .inl ⟨rfl,HB2.out.trans (B3.mono HB2.out.size),fun h hPh=>?_⟩
    exact hno bs (hPh.congr fun i hi=>(HRR.out.2 h hPh i hi).symm)
   clear B3 hno
   go_wp2_with fail
   go_ret2
   exact HFIN.out
theorem qAY (v:Value) (bs:List Nat) (n:Nat) (w:World) (hv:jQ w v bs) (hb:∀n∈bs,n<256) (hl:bs.length≤1000000000000) (hn:n≤4096) (hT:qT w)
  (hcall:∀w1,Below w.heap.size w w1→Calls Tryz.prog 109 #[v,.int .i64 n] w1 (uD 2 bs n w1)):
  Calls Tryz.prog 82 #[.int .i64 2,v,.int .i64 n] w (qQ 2 bs n w):=by
 have hf:Instr.findNow (.int .i64) (.int .i64 2) zM.toList 0=some (some (1,.func (.func 109) #[] #[])):=by kernel_rfl
 have HV:=qA hv
 have HBB:=qA hb
 have HT:=qA hT
 have HC:=qA hcall
 have HAG:=qA (fun p cap f w1 h1 h2 h3 h4=>xV 2 p n cap f w1 (by omega) (by omega) h1 hn h2 h3 h4)
 clear hv hb hT hcall hl
 go_enter Tryz.func82,Tryz.ntmps82
 go_wp2_with fail
 refine (jV w).mono ?_
 rintro e w1 ⟨rfl,b1,B1⟩
 have hlk:=jJ (P:=Tryz.prog) (w:=w1) _ _ _ _ _ _ 2 _ _ Tryz.underlying158 Tryz.underlying3 b1 hf
 have HB1:=qA B1
 clear B1 b1 hf
 go_wp2_with fail
 refine (HC.out w1 HB1.out).mono ?_
 intro e w2 hE
 rcases hE with ⟨c,hc,rfl,B2,hno⟩|⟨u,f,rfl,hU,hr,hfull⟩
 ·have hcn:(c !=0)=true:=by rw [bne_iff_ne];exact hc
  have HFIN:Hid (qQ 2 bs n w (.returned (.tuple #[.slice none 0 0,.int .i64 83])) w2):= .inl ⟨rfl,HB1.out.trans (B2.mono HB1.out.size),hno⟩
  clear hc B2 hno
  go_wp2_with fail
  go_ret2
  exact HFIN.out
 ·obtain ⟨p,cap,rfl,hcap,hrow⟩:=hU.row
  have HU:=qA hU
  have HRR:=qA (And.intro hr hfull)
  have hB2:=hU.2.1
  have HB2:Hid (Below w.heap.size w w2):=HB1.out.trans (hB2.mono HB1.out.size)
  have HAGN:=qA (HAG.out p cap f w2 hrow hcap hr (HT.out.below HB2.out))
  clear hU hr hfull hrow hB2
  go_wp2_with fail
  refine HAGN.out.mono ?_
  intro e w3 hE
  rcases hE with ⟨px,cx,bx,rfl,hx,hbx,B3,hP,huq⟩|⟨rfl,B3,hno⟩
  ·have HB3:Hid (Below w.heap.size w w3):=HB2.out.trans (B3.mono HB2.out.size)
   have HEQ:=qA (jO (.slice px bx.length cx) v bx bs w3 hx (qD HV.out HB3.out) hbx HBB.out)
   by_cases e:bx=bs
   ·have HFIN:Hid (qQ 2 bs n w (.returned (.tuple #[.slice p n cap,.int .i64 0])) w3):=by
     refine .inr ⟨_,f,rfl,?_,by rw [←e];exact hP,HRR.out.2⟩
     have h1:=HU.out.1
     have h2:=HB1.out.size
     refine ⟨(jD h1 fun g hg1 hg2=>B3.block g hg2).mono h2,HB3.out,Nat.le_refl _⟩
    rw [decide_eq_true e] at HEQ
    clear hx hbx B3 hP huq e
    go_wp2_with fail
    refine HEQ.out.mono ?_
    rintro e w4 ⟨rfl,h4⟩
    have h4:=h4.symm
    subst h4
    go_wp2_with fail
    go_ret2
    exact HFIN.out
   ·have HFIN:Hid (qQ 2 bs n w (.returned (.tuple #[.slice none 0 0,.int .i64 83])) w3):=by
     refine .inl ⟨rfl,HB3.out,fun h hPh=>e ?_⟩
     exact (huq bs (hPh.congr fun i hi=>(HRR.out.2 h hPh i hi).symm)).symm
    rw [decide_eq_false e] at HEQ
    clear hx hbx B3 hP huq e
    go_wp2_with fail
    refine HEQ.out.mono ?_
    rintro e w4 ⟨rfl,h4⟩
    have h4:=h4.symm
    subst h4
    go_wp2_with fail
    go_ret2
    exact HFIN.out
  ·have HFIN:Hid (qQ 2 bs n w (.returned (.tuple #[.slice none 0 0,.int .i64 83])) w3):=by
    refine .inl ⟨rfl,HB2.out.trans (B3.mono HB2.out.size),fun h hPh=>?_⟩
    exact hno bs (hPh.congr fun i hi=>(HRR.out.2 h hPh i hi).symm)
   clear B3 hno
   go_wp2_with fail
   go_ret2
   exact HFIN.out
theorem qAZ (v:Value) (bs:List Nat) (n:Nat) (w:World) (hv:jQ w v bs) (hb:∀n∈bs,n<256) (hl:bs.length≤1000000000000) (hn:n≤4096) (hT:qT w)
  (hcall:∀w1,Below w.heap.size w w1→Calls Tryz.prog 110 #[v,.int .i64 n] w1 (uD 3 bs n w1)):
  Calls Tryz.prog 82 #[.int .i64 3,v,.int .i64 n] w (qQ 3 bs n w):=by
 have hf:Instr.findNow (.int .i64) (.int .i64 3) zM.toList 0=some (some (2,.func (.func 110) #[] #[])):=by kernel_rfl
 have HV:=qA hv
 have HBB:=qA hb
 have HT:=qA hT
 have HC:=qA hcall
 have HAG:=qA (fun p cap f w1 h1 h2 h3 h4=>xV 3 p n cap f w1 (by omega) (by omega) h1 hn h2 h3 h4)
 clear hv hb hT hcall hl
 go_enter Tryz.func82,Tryz.ntmps82
 go_wp2_with fail
 refine (jV w).mono ?_
 rintro e w1 ⟨rfl,b1,B1⟩
 have hlk:=jJ (P:=Tryz.prog) (w:=w1) _ _ _ _ _ _ 3 _ _ Tryz.underlying158 Tryz.underlying3 b1 hf
 have HB1:=qA B1
 clear B1 b1 hf
 go_wp2_with fail
 refine (HC.out w1 HB1.out).mono ?_
 intro e w2 hE
 rcases hE with ⟨c,hc,rfl,B2,hno⟩|⟨u,f,rfl,hU,hr,hfull⟩
 ·have hcn:(c !=0)=true:=by rw [bne_iff_ne];exact hc
  have HFIN:Hid (qQ 3 bs n w (.returned (.tuple #[.slice none 0 0,.int .i64 83])) w2):= .inl ⟨rfl,HB1.out.trans (B2.mono HB1.out.size),hno⟩
  clear hc B2 hno
  go_wp2_with fail
  go_ret2
  exact HFIN.out
 ·obtain ⟨p,cap,rfl,hcap,hrow⟩:=hU.row
  have HU:=qA hU
  have HRR:=qA (And.intro hr hfull)
  have hB2:=hU.2.1
  have HB2:Hid (Below w.heap.size w w2):=HB1.out.trans (hB2.mono HB1.out.size)
  have HAGN:=qA (HAG.out p cap f w2 hrow hcap hr (HT.out.below HB2.out))
  clear hU hr hfull hrow hB2
  go_wp2_with fail
  refine HAGN.out.mono ?_
  intro e w3 hE
  rcases hE with ⟨px,cx,bx,rfl,hx,hbx,B3,hP,huq⟩|⟨rfl,B3,hno⟩
  ·have HB3:Hid (Below w.heap.size w w3):=HB2.out.trans (B3.mono HB2.out.size)
   have HEQ:=qA (jO (.slice px bx.length cx) v bx bs w3 hx (qD HV.out HB3.out) hbx HBB.out)
   by_cases e:bx=bs
   ·have HFIN:Hid (qQ 3 bs n w (.returned (.tuple #[.slice p n cap,.int .i64 0])) w3):=by
     refine .inr ⟨_,f,rfl,?_,by rw [←e];exact hP,HRR.out.2⟩
     have h1:=HU.out.1
     have h2:=HB1.out.size
     refine ⟨(jD h1 fun g hg1 hg2=>B3.block g hg2).mono h2,HB3.out,Nat.le_refl _⟩
    rw [decide_eq_true e] at HEQ
    clear hx hbx B3 hP huq e
    go_wp2_with fail
    refine HEQ.out.mono ?_
    rintro e w4 ⟨rfl,h4⟩
    have h4:=h4.symm
    subst h4
    go_wp2_with fail
    go_ret2
    exact HFIN.out
   ·have HFIN:Hid (qQ 3 bs n w (.returned (.tuple #[.slice none 0 0,.int .i64 83])) w3):=by
     refine .inl ⟨rfl,HB3.out,fun h hPh=>e ?_⟩
     exact (huq bs (hPh.congr fun i hi=>(HRR.out.2 h hPh i hi).symm)).symm
    rw [decide_eq_false e] at HEQ
    clear hx hbx B3 hP huq e
    go_wp2_with fail
    refine HEQ.out.mono ?_
    rintro e w4 ⟨rfl,h4⟩
    have h4:=h4.symm
    subst h4
    go_wp2_with fail
    go_ret2
    exact HFIN.out
  ·have HFIN:Hid (qQ 3 bs n w (.returned (.tuple #[.slice none 0 0,.int .i64 83])) w3):=by
    refine .inl ⟨rfl,HB2.out.trans (B3.mono HB2.out.size),fun h hPh=>?_⟩
    exact hno bs (hPh.congr fun i hi=>(HRR.out.2 h hPh i hi).symm)
   clear B3 hno
   go_wp2_with fail
   go_ret2
   exact HFIN.out
theorem qB0 (v:Value) (bs:List Nat) (n:Nat) (w:World) (hv:jQ w v bs) (hb:∀n∈bs,n<256) (hl:bs.length≤1000000000000) (hn:n≤4096) (hT:qT w)
  (hcall:∀w1,Below w.heap.size w w1→Calls Tryz.prog 111 #[v,.int .i64 n] w1 (uD 4 bs n w1)):
  Calls Tryz.prog 82 #[.int .i64 4,v,.int .i64 n] w (qQ 4 bs n w):=by
 have hf:Instr.findNow (.int .i64) (.int .i64 4) zM.toList 0=some (some (3,.func (.func 111) #[] #[])):=by kernel_rfl
 have HV:=qA hv
 have HBB:=qA hb
 have HT:=qA hT
 have HC:=qA hcall
 have HAG:=qA (fun p cap f w1 h1 h2 h3 h4=>xV 4 p n cap f w1 (by omega) (by omega) h1 hn h2 h3 h4)
 clear hv hb hT hcall hl
 go_enter Tryz.func82,Tryz.ntmps82
 go_wp2_with fail
 refine (jV w).mono ?_
 rintro e w1 ⟨rfl,b1,B1⟩
 have hlk:=jJ (P:=Tryz.prog) (w:=w1) _ _ _ _ _ _ 4 _ _ Tryz.underlying158 Tryz.underlying3 b1 hf
 have HB1:=qA B1
 clear B1 b1 hf
 go_wp2_with fail
 refine (HC.out w1 HB1.out).mono ?_
 intro e w2 hE
 rcases hE with ⟨c,hc,rfl,B2,hno⟩|⟨u,f,rfl,hU,hr,hfull⟩
 ·have hcn:(c !=0)=true:=by rw [bne_iff_ne];exact hc
  have HFIN:Hid (qQ 4 bs n w (.returned (.tuple #[.slice none 0 0,.int .i64 83])) w2):= .inl ⟨rfl,HB1.out.trans (B2.mono HB1.out.size),hno⟩
  clear hc B2 hno
  go_wp2_with fail
  go_ret2
  exact HFIN.out
 ·obtain ⟨p,cap,rfl,hcap,hrow⟩:=hU.row
  have HU:=qA hU
  have HRR:=qA (And.intro hr hfull)
  have hB2:=hU.2.1
  have HB2:Hid (Below w.heap.size w w2):=HB1.out.trans (hB2.mono HB1.out.size)
  have HAGN:=qA (HAG.out p cap f w2 hrow hcap hr (HT.out.below HB2.out))
  clear hU hr hfull hrow hB2
  go_wp2_with fail
  refine HAGN.out.mono ?_
  intro e w3 hE
  rcases hE with ⟨px,cx,bx,rfl,hx,hbx,B3,hP,huq⟩|⟨rfl,B3,hno⟩
  ·have HB3:Hid (Below w.heap.size w w3):=HB2.out.trans (B3.mono HB2.out.size)
   have HEQ:=qA (jO (.slice px bx.length cx) v bx bs w3 hx (qD HV.out HB3.out) hbx HBB.out)
   by_cases e:bx=bs
   ·have HFIN:Hid (qQ 4 bs n w (.returned (.tuple #[.slice p n cap,.int .i64 0])) w3):=by
     refine .inr ⟨_,f,rfl,?_,by rw [←e];exact hP,HRR.out.2⟩
     have h1:=HU.out.1
     have h2:=HB1.out.size
     refine ⟨(jD h1 fun g hg1 hg2=>B3.block g hg2).mono h2,HB3.out,Nat.le_refl _⟩
    rw [decide_eq_true e] at HEQ
    clear hx hbx B3 hP huq e
    go_wp2_with fail
    refine HEQ.out.mono ?_
    rintro e w4 ⟨rfl,h4⟩
    have h4:=h4.symm
    subst h4
    go_wp2_with fail
    go_ret2
    exact HFIN.out
   ·have HFIN:Hid (qQ 4 bs n w (.returned (.tuple #[.slice none 0 0,.int .i64 83])) w3):=by
     refine .inl ⟨rfl,HB3.out,fun h hPh=>e ?_⟩
     exact (huq bs (hPh.congr fun i hi=>(HRR.out.2 h hPh i hi).symm)).symm
    rw [decide_eq_false e] at HEQ
    clear hx hbx B3 hP huq e
    go_wp2_with fail
    refine HEQ.out.mono ?_
    rintro e w4 ⟨rfl,h4⟩
    have h4:=h4.symm
    subst h4
    go_wp2_with fail
    go_ret2
    exact HFIN.out
  ·have HFIN:Hid (qQ 4 bs n w (.returned (.tuple #[.slice none 0 0,.int .i64 83])) w3):=by
    refine .inl ⟨rfl,HB2.out.trans (B3.mono HB2.out.size),fun h hPh=>?_⟩
    exact hno bs (hPh.congr fun i hi=>(HRR.out.2 h hPh i hi).symm)
   clear B3 hno
   go_wp2_with fail
   go_ret2
   exact HFIN.out
theorem qB1 (v:Value) (bs:List Nat) (n:Nat) (w:World) (hv:jQ w v bs) (hb:∀n∈bs,n<256) (hl:bs.length≤1000000000000) (hn:n≤4096) (hT:qT w)
  (hcall:∀w1,Below w.heap.size w w1→Calls Tryz.prog 112 #[v,.int .i64 n] w1 (uD 5 bs n w1)):
  Calls Tryz.prog 82 #[.int .i64 5,v,.int .i64 n] w (qQ 5 bs n w):=by
 have hf:Instr.findNow (.int .i64) (.int .i64 5) zM.toList 0=some (some (4,.func (.func 112) #[] #[])):=by kernel_rfl
 have HV:=qA hv
 have HBB:=qA hb
 have HT:=qA hT
 have HC:=qA hcall
 have HAG:=qA (fun p cap f w1 h1 h2 h3 h4=>xV 5 p n cap f w1 (by omega) (by omega) h1 hn h2 h3 h4)
 clear hv hb hT hcall hl
 go_enter Tryz.func82,Tryz.ntmps82
 go_wp2_with fail
 refine (jV w).mono ?_
 rintro e w1 ⟨rfl,b1,B1⟩
 have hlk:=jJ (P:=Tryz.prog) (w:=w1) _ _ _ _ _ _ 5 _ _ Tryz.underlying158 Tryz.underlying3 b1 hf
 have HB1:=qA B1
 clear B1 b1 hf
 go_wp2_with fail
 refine (HC.out w1 HB1.out).mono ?_
 intro e w2 hE
 rcases hE with ⟨c,hc,rfl,B2,hno⟩|⟨u,f,rfl,hU,hr,hfull⟩
 ·have hcn:(c !=0)=true:=by rw [bne_iff_ne];exact hc
  have HFIN:Hid (qQ 5 bs n w (.returned (.tuple #[.slice none 0 0,.int .i64 83])) w2):= .inl ⟨rfl,HB1.out.trans (B2.mono HB1.out.size),hno⟩
  clear hc B2 hno
  go_wp2_with fail
  go_ret2
  exact HFIN.out
 ·obtain ⟨p,cap,rfl,hcap,hrow⟩:=hU.row
  have HU:=qA hU
  have HRR:=qA (And.intro hr hfull)
  have hB2:=hU.2.1
  have HB2:Hid (Below w.heap.size w w2):=HB1.out.trans (hB2.mono HB1.out.size)
  have HAGN:=qA (HAG.out p cap f w2 hrow hcap hr (HT.out.below HB2.out))
  clear hU hr hfull hrow hB2
  go_wp2_with fail
  refine HAGN.out.mono ?_
  intro e w3 hE
  rcases hE with ⟨px,cx,bx,rfl,hx,hbx,B3,hP,huq⟩|⟨rfl,B3,hno⟩
  ·have HB3:Hid (Below w.heap.size w w3):=HB2.out.trans (B3.mono HB2.out.size)
   have HEQ:=qA (jO (.slice px bx.length cx) v bx bs w3 hx (qD HV.out HB3.out) hbx HBB.out)
   by_cases e:bx=bs
   ·have HFIN:Hid (qQ 5 bs n w (.returned (.tuple #[.slice p n cap,.int .i64 0])) w3):=by
     refine .inr ⟨_,f,rfl,?_,by rw [←e];exact hP,HRR.out.2⟩
     have h1:=HU.out.1
     have h2:=HB1.out.size
     refine ⟨(jD h1 fun g hg1 hg2=>B3.block g hg2).mono h2,HB3.out,Nat.le_refl _⟩
    rw [decide_eq_true e] at HEQ
    clear hx hbx B3 hP huq e
    go_wp2_with fail
    refine HEQ.out.mono ?_
    rintro e w4 ⟨rfl,h4⟩
    have h4:=h4.symm
    subst h4
    go_wp2_with fail
    go_ret2
    exact HFIN.out
   ·have HFIN:Hid (qQ 5 bs n w (.returned (.tuple #[.slice none 0 0,.int .i64 83])) w3):=by
     refine .inl ⟨rfl,HB3.out,fun h hPh=>e ?_⟩
     exact (huq bs (hPh.congr fun i hi=>(HRR.out.2 h hPh i hi).symm)).symm
    rw [decide_eq_false e] at HEQ
    clear hx hbx B3 hP huq e
    go_wp2_with fail
    refine HEQ.out.mono ?_
    rintro e w4 ⟨rfl,h4⟩
    have h4:=h4.symm
    subst h4
    go_wp2_with fail
    go_ret2
    exact HFIN.out
  ·have HFIN:Hid (qQ 5 bs n w (.returned (.tuple #[.slice none 0 0,.int .i64 83])) w3):=by
    refine .inl ⟨rfl,HB2.out.trans (B3.mono HB2.out.size),fun h hPh=>?_⟩
    exact hno bs (hPh.congr fun i hi=>(HRR.out.2 h hPh i hi).symm)
   clear B3 hno
   go_wp2_with fail
   go_ret2
   exact HFIN.out
theorem qB2 (v:Value) (bs:List Nat) (n:Nat) (w:World) (hv:jQ w v bs) (hb:∀n∈bs,n<256) (hl:bs.length≤1000000000000) (hn:n≤4096) (hT:qT w)
  (hcall:∀w1,Below w.heap.size w w1→Calls Tryz.prog 113 #[v,.int .i64 n] w1 (uD 6 bs n w1)):
  Calls Tryz.prog 82 #[.int .i64 6,v,.int .i64 n] w (qQ 6 bs n w):=by
 have hf:Instr.findNow (.int .i64) (.int .i64 6) zM.toList 0=some (some (5,.func (.func 113) #[] #[])):=by kernel_rfl
 have HV:=qA hv
 have HBB:=qA hb
 have HT:=qA hT
 have HC:=qA hcall
 have HAG:=qA (fun p cap f w1 h1 h2 h3 h4=>xV 6 p n cap f w1 (by omega) (by omega) h1 hn h2 h3 h4)
 clear hv hb hT hcall hl
 go_enter Tryz.func82,Tryz.ntmps82
 go_wp2_with fail
 refine (jV w).mono ?_
 rintro e w1 ⟨rfl,b1,B1⟩
 have hlk:=jJ (P:=Tryz.prog) (w:=w1) _ _ _ _ _ _ 6 _ _ Tryz.underlying158 Tryz.underlying3 b1 hf
 have HB1:=qA B1
 clear B1 b1 hf
 go_wp2_with fail
 refine (HC.out w1 HB1.out).mono ?_
 intro e w2 hE
 rcases hE with ⟨c,hc,rfl,B2,hno⟩|⟨u,f,rfl,hU,hr,hfull⟩
 ·have hcn:(c !=0)=true:=by rw [bne_iff_ne];exact hc
  have HFIN:Hid (qQ 6 bs n w (.returned (.tuple #[.slice none 0 0,.int .i64 83])) w2):= .inl ⟨rfl,HB1.out.trans (B2.mono HB1.out.size),hno⟩
  clear hc B2 hno
  go_wp2_with fail
  go_ret2
  exact HFIN.out
 ·obtain ⟨p,cap,rfl,hcap,hrow⟩:=hU.row
  have HU:=qA hU
  have HRR:=qA (And.intro hr hfull)
  have hB2:=hU.2.1
  have HB2:Hid (Below w.heap.size w w2):=HB1.out.trans (hB2.mono HB1.out.size)
  have HAGN:=qA (HAG.out p cap f w2 hrow hcap hr (HT.out.below HB2.out))
  clear hU hr hfull hrow hB2
  go_wp2_with fail
  refine HAGN.out.mono ?_
  intro e w3 hE
  rcases hE with ⟨px,cx,bx,rfl,hx,hbx,B3,hP,huq⟩|⟨rfl,B3,hno⟩
  ·have HB3:Hid (Below w.heap.size w w3):=HB2.out.trans (B3.mono HB2.out.size)
   have HEQ:=qA (jO (.slice px bx.length cx) v bx bs w3 hx (qD HV.out HB3.out) hbx HBB.out)
   by_cases e:bx=bs
   ·have HFIN:Hid (qQ 6 bs n w (.returned (.tuple #[.slice p n cap,.int .i64 0])) w3):=by
     refine .inr ⟨_,f,rfl,?_,by rw [←e];exact hP,HRR.out.2⟩
     have h1:=HU.out.1
     have h2:=HB1.out.size
     refine ⟨(jD h1 fun g hg1 hg2=>B3.block g hg2).mono h2,HB3.out,Nat.le_refl _⟩
    rw [decide_eq_true e] at HEQ
    clear hx hbx B3 hP huq e
    go_wp2_with fail
    refine HEQ.out.mono ?_
    rintro e w4 ⟨rfl,h4⟩
    have h4:=h4.symm
    subst h4
    go_wp2_with fail
    go_ret2
    exact HFIN.out
   ·have HFIN:Hid (qQ 6 bs n w (.returned (.tuple #[.slice none 0 0,.int .i64 83])) w3):=by
     refine .inl ⟨rfl,HB3.out,fun h hPh=>e ?_⟩
     exact (huq bs (hPh.congr fun i hi=>(HRR.out.2 h hPh i hi).symm)).symm
    rw [decide_eq_false e] at HEQ
    clear hx hbx B3 hP huq e
    go_wp2_with fail
    refine HEQ.out.mono ?_
    rintro e w4 ⟨rfl,h4⟩
    have h4:=h4.symm
    subst h4
    go_wp2_with fail
    go_ret2
    exact HFIN.out
  ·have HFIN:Hid (qQ 6 bs n w (.returned (.tuple #[.slice none 0 0,.int .i64 83])) w3):=by
    refine .inl ⟨rfl,HB2.out.trans (B3.mono HB2.out.size),fun h hPh=>?_⟩
    exact hno bs (hPh.congr fun i hi=>(HRR.out.2 h hPh i hi).symm)
   clear B3 hno
   go_wp2_with fail
   go_ret2
   exact HFIN.out
theorem rW (k:Nat) (v:Value) (bs:List Nat) (n:Nat) (w:World) (hk1:1≤k) (hk6:k≤6) (hv:jQ w v bs) (hb:∀n∈bs,n<256) (hl:bs.length≤1000000000000) (hn:n≤4096) (hT:qT w):
  Calls Tryz.prog 82 #[.int .i64 k,v,.int .i64 n] w (qQ k bs n w):=by
 obtain rfl|rfl|rfl|rfl|rfl|rfl:k=1∨k=2∨k=3∨k=4∨k=5∨k=6:=by omega
 ·exact qAX v bs n w hv hb hl hn hT fun w1 B1=>(pU v bs n w1 (qD hv B1) hb hl hn).mono fun e w' hE=>yQ rfl (uW (fun h=>rfl) hn hE)
 ·exact qAY v bs n w hv hb hl hn hT fun w1 B1=>(qAH v bs n w1 (qD hv B1) hb hl hn (hT.below B1)).mono fun e w' hE=>qC2 hn hE
 ·exact qAZ v bs n w hv hb hl hn hT fun w1 B1=>(mU v bs n w1 (qD hv B1) hb hl hn).mono fun e w' hE=>yQ rfl hE
 ·exact qB0 v bs n w hv hb hl hn hT fun w1 B1=>(mS v bs n w1 (qD hv B1) hb hl hn).mono fun e w' hE=>yQ rfl hE
 ·exact qB1 v bs n w hv hb hl hn hT fun w1 B1=>(gN v bs n w1 (qD hv B1) hb hl hn).mono fun e w' hE=>yQ rfl (uW (fun h=>rfl) hn hE)
 ·exact qB2 v bs n w hv hb hl hn hT fun w1 B1=>(wJ v bs n w1 (qD hv B1) hb hl hn).mono fun e w' hE=>yQ rfl hE
end Go.Proofs.YtkpmalfigmimaaaGreatDoor
namespace Go.Proofs.YtkpmalfigmimaaaGreatDoor
open Go.RowKit
open M
structure tR (n:Nat) (f:Nat→Nat) (q k:Nat) (bs:List Nat):Prop where
 lo:1≤k
 hi:k≤q
 is:jK k n f bs
 least:∀k' bs',1≤k'→k'≤q→jK k' n f bs'→bs.length<bs'.length∨(bs.length=bs'.length∧k≤k')
def tO (n:Nat) (f:Nat→Nat) (w:World) (e:Ending) (w':World):Prop:=
 ∃(k:Nat) (p:Option Addr) (c:Nat) (bs:List Nat),e= .returned (.tuple #[.int .i64 (k:Int),.slice p bs.length c,.int .i64 0])∧jQ w' (.slice p bs.length c) bs∧(∀n∈bs,n<256)∧tR n f 6 k bs∧Below w.heap.size w w'
theorem qDQ (p:Option Addr) (n cap:Nat) (f:Nat→Nat) (w:World) (h:jB w p n f) (hn:n≤4096) (hcap:n≤cap) (hf:∀i,i<n→f i<4294967296) (hT:qT w):
  Calls Tryz.prog 68 #[.slice p n cap] w (tO n f w):=by
 have HAG:=qA (fun k w1 (hk1:1≤k) (hk6:k≤6) (hB:Below w.heap.size w w1)=>xV k p n cap f w1 hk1 hk6 (h.below hB) hn hcap hf (hT.below hB))
 have HA1:=qA (xV 1 p n cap f w (by omega) (by omega) h hn hcap hf hT)
 have HN1:Hid (∀w' e,dA 1 n f w e w'→∃(pu:Option Addr) (cu:Nat) (bs:List Nat),e= .returned (.tuple #[.slice pu bs.length cu,.int .i64 0])∧jQ w' (.slice pu bs.length cu) bs∧(∀n∈bs,n<256)∧Below w.heap.size w w'∧tR n f 1 1 bs):=fun w' e hE=>by
  rcases hE with ⟨pu,cu,bs,h1,h2,h3,h4,h5,h6⟩|⟨_,_,h3⟩
  ·refine ⟨pu,cu,bs,h1,h2,h3,h4,Nat.le_refl _,Nat.le_refl _,h5,fun k' bs' hk1 hk2 hP=>?_⟩
   obtain rfl:k'=1:=by omega
   exact .inr ⟨by rw [h6 bs' hP],Nat.le_refl _⟩
  ·exfalso
   by_cases h0:n=0
   ·exact h3 [] ⟨hf,fun _=>rfl,fun h=>by omega⟩
   ·exact h3 _ ⟨hf,fun h=>absurd h h0,fun _=>⟨_,rfl,rfl⟩⟩
 clear h hf hT
 go_enter Tryz.func68,Tryz.ntmps68
 go_wp2_with fail
 refine HA1.out.mono ?_
 intro e w1 hE
 obtain ⟨pu,cu,bs,rfl,h2,h3,h4,h5⟩:=HN1.out w1 e hE
 have H1:=qA (And.intro h2 (And.intro h3 (And.intro h4 h5)))
 clear hE h2 h3 h4 h5 HN1 HA1
 go_wp2_with fail
 go_loopw [5,6,8] (fun t5 t6 t8 wr=>∃(q k:Nat) (pu:Option Addr) (cu:Nat) (bs:List Nat),t8= .int .i64 ((q:Int)+1)∧t5= .int .i64 (k:Int)∧t6= .slice pu bs.length cu∧Hid (q≤6∧jQ wr (.slice pu bs.length cu) bs∧(∀n∈bs,n<256)∧tR n f q k bs∧Below w.heap.size w wr)) (fun _ _ t8 _=>7-(intOf t8).toNat)
 case atStart=>exact ⟨1,1,pu,cu,bs,rfl,rfl,rfl,by omega,H1.out.1,H1.out.2.1,H1.out.2.2.2,H1.out.2.2.1⟩
 case round=>
  obtain ⟨q,k,pu,cu,bs,rfl,rfl,rfl,hI⟩:=hrel
  by_cases hlt:q+1≤6
  ·have hle:(q:Int)+1≤6:=by omega
   have HQ:=qA (HAG.out (q+1) wr (by omega) hlt hI.out.2.2.2.2)
   rw [show (((q+1:Nat)):Int)=(q:Int)+1 from by simp] at HQ
   go_wp2_with fail
   refine HQ.out.mono ?_
   intro e w2 hE
   rcases hE with ⟨pv,cv,bv,rfl,h2,h3,h4,h5,h6⟩|⟨rfl,h2,h3⟩
   ·have HBB:Hid (Below w.heap.size w w2):=hI.out.2.2.2.2.trans (h4.mono hI.out.2.2.2.2.size)
    have HOLD:Hid (jQ w2 (.slice pu bs.length cu) bs):=qD hI.out.2.1 h4
    by_cases hl:bv.length<bs.length
    ·have HN:Hid (tR n f (q+1) (q+1) bv):=by
      refine ⟨by omega,Nat.le_refl _,h5,fun k' bs' hk1 hk2 hP=>?_⟩
      by_cases e:k'=q+1
      ·subst e;exact .inr ⟨by rw [h6 bs' hP],Nat.le_refl _⟩
      ·rcases hI.out.2.2.2.1.least k' bs' hk1 (by omega) hP with h|h
       ·exact .inl (by omega)
       ·exact .inl (by omega)
     have HNB:=qA (And.intro h2 h3)
     clear h2 h3 h4 h5 h6
     go_wp2_with fail
     go_roundw
     case rel=>exact ⟨q+1,q+1,pv,cv,bv,by simp,by simp,by simp,hlt,HNB.out.1,HNB.out.2,HN.out,HBB.out⟩
     case measure=>simp [intOf];omega
    ·have HN:Hid (tR n f (q+1) k bs):=by
      have B:=hI.out.2.2.2.1
      refine ⟨B.lo,by have:=B.hi;omega,B.is,fun k' bs' hk1 hk2 hP=>?_⟩
      by_cases e:k'=q+1
      ·subst e
       rw [h6 bs' hP]
       have:=B.hi
       omega
      ·exact B.least k' bs' hk1 (by omega) hP
     have H3:=qA hI.out.2.2.1
     clear h2 h3 h4 h5 h6 hI
     go_wp2_with fail
     go_roundw
     case rel=>exact ⟨q+1,k,pu,cu,bs,by simp,by simp,by simp,hlt,HOLD.out,H3.out,HN.out,HBB.out⟩
     case measure=>simp [intOf];omega
   ·have HBB:Hid (Below w.heap.size w w2):=hI.out.2.2.2.2.trans (h2.mono hI.out.2.2.2.2.size)
    have HOLD:Hid (jQ w2 (.slice pu bs.length cu) bs):=qD hI.out.2.1 h2
    have HN:Hid (tR n f (q+1) k bs):=by
     have B:=hI.out.2.2.2.1
     refine ⟨B.lo,by have:=B.hi;omega,B.is,fun k' bs' hk1 hk2 hP=>?_⟩
     by_cases e:k'=q+1
     ·subst e;exact (h3 bs' hP).elim
     ·exact B.least k' bs' hk1 (by omega) hP
    have H3:=qA hI.out.2.2.1
    clear h2 h3 hI
    go_wp2_with fail
    go_roundw
    case rel=>exact ⟨q+1,k,pu,cu,bs,by simp,by simp,by simp,hlt,HOLD.out,H3.out,HN.out,HBB.out⟩
    case measure=>simp [intOf];omega
  ·have hq:q=6:=by have:=hI.out.1;omega
   subst hq
   have HFIN:Hid (tO n f w (.returned (.tuple #[.int .i64 (k:Int),.slice pu bs.length cu,.int .i64 0])) wr):=⟨k,pu,cu,bs,rfl,hI.out.2.1,hI.out.2.2.1,hI.out.2.2.2.1,hI.out.2.2.2.2⟩
   go_wp2_with fail
   go_ret3
   exact HFIN.out
end Go.Proofs.YtkpmalfigmimaaaGreatDoor
namespace Go.Proofs.YtkpmalfigmimaaaGreatDoor
open Go.RowKit
open M
structure qDF (kind:Int) (n:Nat) (t:Nat→Int) (v:Nat→Nat):Prop where
 kd:kind=1∨kind=2
 lo:1≤n
 hi:n≤4096
 up:Rises t n
 nar:kind=2→tN v n
def qHN (kind:Int) (n:Nat) (t:Nat→Int) (v:Nat→Nat) (c:Int):Prop:=
 (c=90∧¬(kind=1∨kind=2))∨(c=91∧(kind=1∨kind=2)∧¬(1≤n∧n≤4096))∨(c=92∧(kind=1∨kind=2)∧(1≤n∧n≤4096)∧¬Rises t n)∨
 (c=93∧kind=2∧(1≤n∧n≤4096)∧Rises t n∧¬tN v n)∨(c=0∧qDF kind n t v)
theorem qHN.good {kind:Int} {n:Nat} {t:Nat→Int} {v:Nat→Nat} {c:Int} (h:qHN kind n t v c) (hg:qDF kind n t v):c=0:=by
 rcases h with ⟨_,h⟩|⟨_,_,h⟩|⟨_,_,_,h⟩|⟨_,h1,_,_,h⟩|⟨h,_⟩
 ·exact absurd hg.kd h
 ·exact absurd ⟨hg.lo,hg.hi⟩ h
 ·exact absurd hg.up h
 ·exact absurd (hg.nar h1) h
 ·exact h
def nM (kind:Int) (n:Nat) (t:Nat→Int) (v:Nat→Nat) (w:World) (e:Ending) (w':World):Prop:=∃c:Int,e= .returned (.int .i64 c)∧qHN kind n t v c∧Below w.heap.size w w'
theorem cA (kind:Int) (p:Option Addr) (n cap:Nat) (t:Nat→Int) (v:Nat→Nat) (w:World) (h:uC w p n t v) (hn:n≤9223372036854775807) (hf:∀i,i<n→v i<18446744073709551616):
  Calls Tryz.prog 38 #[.int .i64 kind,.slice p n cap] w (nM kind n t v w):=by
 have HK:=qA (fun w:World=>dT kind w)
 have HC:=qA (fun w:World=>bF n w hn)
 have HR:=qA (fun (hn:n≤4096)=>qFA p n cap t v w h hn)
 have HA:=qA (fun (hn:n≤4096) (w1:World) (hB:Below w.heap.size w w1)=>rQ p n cap t v w1 (h.below hB) hn hf)
 clear h hf hn
 by_cases h1:kind=1∨kind=2
 ·rw [decide_eq_true h1] at HK
  by_cases h2:1≤n∧n≤4096
  ·rw [decide_eq_true h2] at HC
   have hn4:=h2.2
   go_enter Tryz.func38,Tryz.ntmps38
   go_wp2_with fail
   refine (HK.out _).mono ?_
   rintro e w1 ⟨rfl,hw1⟩
   obtain rfl:=hw1
   go_wp2_with fail
   refine (HC.out _).mono ?_
   rintro e w2 ⟨rfl,hw1⟩
   obtain rfl:=hw1
   go_wp2_with fail
   refine (HR.out hn4).mono ?_
   rintro e w3 ⟨bv,rfl,hbv,B3⟩
   have HB3:=qA B3
   clear B3
   cases bv
   ·have HF:Hid (nM kind n t v w2 (.returned (.int .i64 92)) w3):=⟨92,rfl,.inr (.inr (.inl ⟨rfl,h1,h2,fun hr=>by simpa using hbv.2 hr⟩)),HB3.out⟩
    clear hbv h1 h2
    go_wp2_with fail
    go_ret
    exact HF.out
   ·have hr:Rises t n:=hbv.1 rfl
    clear hbv
    by_cases hk2:kind=2
    ·subst hk2
     have HG:=qA (And.intro h2 hr)
     clear h1 h2 hr
     go_wp2_with fail
     refine (HA.out hn4 _ HB3.out).mono ?_
     rintro e w4 ⟨bv,rfl,hbv,B4⟩
     have HB4:Hid (Below w2.heap.size w2 w4):=HB3.out.trans (B4.mono HB3.out.size)
     clear B4
     cases bv
     ·have HF:Hid (nM 2 n t v w2 (.returned (.int .i64 93)) w4):=⟨93,rfl,.inr (.inr (.inr (.inl ⟨rfl,rfl,HG.out.1,HG.out.2,fun ha=>by simpa using hbv.2 ha⟩))),HB4.out⟩
      clear hbv
      go_wp2_with fail
      go_ret
      exact HF.out
     ·have HF:Hid (nM 2 n t v w2 (.returned (.int .i64 0)) w4):=⟨0,rfl,.inr (.inr (.inr (.inr ⟨rfl,.inr rfl,HG.out.1.1,HG.out.1.2,HG.out.2,fun _=>hbv.1 rfl⟩))),HB4.out⟩
      clear hbv
      go_wp2_with fail
      go_ret
      exact HF.out
    ·have e2:(kind==2)=false:=by rw [beq_eq_false_iff_ne];exact hk2
     have HF:Hid (nM kind n t v w2 (.returned (.int .i64 0)) w3):=⟨0,rfl,.inr (.inr (.inr (.inr ⟨rfl,h1,h2.1,h2.2,hr,fun h=>absurd h hk2⟩))),HB3.out⟩
     clear h1 h2 hr hk2
     go_wp2_with fail
     go_ret
     exact HF.out
  ·rw [decide_eq_false h2] at HC
   have HF:Hid (∀w:World,nM kind n t v w (.returned (.int .i64 91)) w):=fun w=>⟨91,rfl,.inr (.inl ⟨rfl,h1,h2⟩),Below.refl _ _⟩
   clear h1 h2
   go_enter Tryz.func38,Tryz.ntmps38
   go_wp2_with fail
   refine (HK.out _).mono ?_
   rintro e w1 ⟨rfl,hw1⟩
   obtain rfl:=hw1
   go_wp2_with fail
   refine (HC.out _).mono ?_
   rintro e w2 ⟨rfl,hw1⟩
   obtain rfl:=hw1
   go_wp2_with fail
   go_ret
   exact HF.out _
 ·rw [decide_eq_false h1] at HK
  have HF:Hid (∀w:World,nM kind n t v w (.returned (.int .i64 90)) w):=fun w=>⟨90,rfl,.inl ⟨rfl,h1⟩,Below.refl _ _⟩
  clear h1
  go_enter Tryz.func38,Tryz.ntmps38
  go_wp2_with fail
  refine (HK.out _).mono ?_
  rintro e w1 ⟨rfl,hw1⟩
  obtain rfl:=hw1
  go_wp2_with fail
  go_ret
  exact HF.out _
theorem sU (p:Option Addr) (n cap:Nat) (t:Nat→Int) (v:Nat→Nat) (w:World) (h:uC w p n t v) (hn:n≤4096) (ht:∀i,i<n→I64 (t i)) (hr:Rises t n):
  Calls Tryz.prog 39 #[.slice p n cap] w fun e w'=>∃(g L:Nat),L=(packed (tbn t n)).length∧w.heap.size≤g∧e= .returned (.slice (some ⟨g,0,none⟩) L L)∧w'.heap[g]?=some (.cells (qL (packed (tbn t n))).toArray 5 (0,0))∧Below w.heap.size w w':=by
 have HM:=qA (qBP p n cap t v w h hn)
 have HP:=qA (fun (g:Nat) (w1:World) (hT:dG w1 (some ⟨g,0,none⟩) n t)=>qKB (some ⟨g,0,none⟩) n n t w1 hT hn ht hr)
 clear h ht hr
 go_enter Tryz.func39,Tryz.ntmps39
 go_wp2_with fail
 refine HM.out.mono ?_
 rintro e w1 ⟨g,rfl,hg,hM,B1⟩
 have HT:=qA hM.trow
 have HB1:=qA B1
 clear hM B1 HM hg
 go_wp2_with fail
 refine (HP.out g w1 HT.out).mono ?_
 rintro e w2 ⟨g2,L,hL,hg2,rfl,hB2,B2⟩
 have HF:Hid (w.heap.size≤g2∧w2.heap[g2]?=some (.cells (qL (packed (tbn t n))).toArray 5 (0,0))∧Below w.heap.size w w2∧L=(packed (tbn t n)).length):=⟨Nat.le_trans HB1.out.size hg2,hB2,HB1.out.trans (B2.mono HB1.out.size),hL⟩
 clear hL hg2 hB2 B2 HP
 go_wp2_with fail
 go_ret
 exact ⟨g2,L,HF.out.2.2.2,HF.out.1,rfl,HF.out.2.1,HF.out.2.2.1⟩
def xU (kind:Int) (n:Nat) (v:Nat→Nat) (k:Nat) (bs:List Nat):Prop:=if kind=2 then tR n (fun i=>yH (v i)) 6 k bs else tS n v 6 k bs
def qF6 (kind:Int) (n:Nat) (v:Nat→Nat) (w:World) (e:Ending) (w':World):Prop:=∃(k:Nat) (p:Option Addr) (c:Nat) (bs:List Nat),e= .returned (.tuple #[.int .i64 (k:Int),.slice p bs.length c])∧jQ w' (.slice p bs.length c) bs∧(∀n∈bs,n<256)∧xU kind n v k bs∧Below w.heap.size w w'
theorem cR (kind:Int) (p:Option Addr) (n cap:Nat) (t:Nat→Int) (v:Nat→Nat) (w:World) (h:uC w p n t v) (hn:n≤4096) (hf:∀i,i<n→v i<18446744073709551616) (hT:qT w):
  Calls Tryz.prog 40 #[.int .i64 kind,.slice p n cap] w (qF6 kind n v w):=by
 have HM:=qA (qBQ p n cap t v w h hn)
 have HN:=qA (fun (g:Nat) (w1:World) (hR:qY w1 (some ⟨g,0,none⟩) n v)=>qBO (some ⟨g,0,none⟩) n n v w1 hR hn hf)
 have HP64:=qA (fun (g:Nat) (w1:World) (hR:qY w1 (some ⟨g,0,none⟩) n v) (hB:Below w.heap.size w w1)=>qDR (some ⟨g,0,none⟩) n n v w1 hR hn (Nat.le_refl _) hf (hT.below hB))
 have HP32:=qA (fun (g:Nat) (w1:World) (hR:jB w1 (some ⟨g,0,none⟩) n (fun i=>yH (v i))) (hB:Below w.heap.size w w1)=>qDQ (some ⟨g,0,none⟩) n n (fun i=>yH (v i)) w1 hR hn (Nat.le_refl _) (fun i hi=>wH _ (hf i hi)) (hT.below hB))
 clear h hf hT
 by_cases hk:kind=2
 ·subst hk
  go_enter Tryz.func40,Tryz.ntmps40
  go_wp2_with fail
  refine HM.out.mono ?_
  rintro e w1 ⟨g,rfl,hg,hM,B1⟩
  have HR:=qA hM.row64
  have HB1:=qA B1
  clear hM B1 HM hg HP64
  go_wp2_with fail
  refine (HN.out g w1 HR.out).mono ?_
  rintro e w2 ⟨g2,rfl,hg2,hM,B2⟩
  have HR2:=qA hM.row32
  have HB2:Hid (Below w.heap.size w w2):=HB1.out.trans (B2.mono HB1.out.size)
  clear hM B2 hg2 HN HR
  go_wp2_with fail
  refine (HP32.out g2 w2 HR2.out HB2.out).mono ?_
  rintro e w3 ⟨k,p3,c3,bs,rfl,hby,h256,hb,B3⟩
  have HF:Hid (qF6 2 n v w (.returned (.tuple #[.int .i64 (k:Int),.slice p3 bs.length c3])) w3):=⟨k,p3,c3,bs,rfl,hby,h256,by unfold xU;rw [if_pos rfl];exact hb,HB2.out.trans (B3.mono HB2.out.size)⟩
  clear hby h256 hb B3 HP32
  go_wp2_with fail
  go_ret2
  exact HF.out
 ·have e2:(kind==2)=false:=by rw [beq_eq_false_iff_ne];exact hk
  have HKK:=qA hk
  clear hk
  go_enter Tryz.func40,Tryz.ntmps40
  go_wp2_with fail
  refine HM.out.mono ?_
  rintro e w1 ⟨g,rfl,hg,hM,B1⟩
  have HR:=qA hM.row64
  have HB1:=qA B1
  clear hM B1 HM hg HP32 HN
  go_wp2_with fail
  refine (HP64.out g w1 HR.out HB1.out).mono ?_
  rintro e w3 ⟨k,p3,c3,bs,rfl,hby,h256,hb,B3⟩
  have HF:Hid (qF6 kind n v w (.returned (.tuple #[.int .i64 (k:Int),.slice p3 bs.length c3])) w3):=⟨k,p3,c3,bs,rfl,hby,h256,by unfold xU;rw [if_neg HKK.out];exact hb,HB1.out.trans (B3.mono HB1.out.size)⟩
  clear hby h256 hb B3 HP64
  go_wp2_with fail
  go_ret2
  exact HF.out
end Go.Proofs.YtkpmalfigmimaaaGreatDoor
