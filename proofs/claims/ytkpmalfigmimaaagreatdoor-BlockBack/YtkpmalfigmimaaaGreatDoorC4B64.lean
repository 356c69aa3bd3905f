import Derived.Test.YtkpmalfigmimaaaGreatDoorC3F64
import Derived.Test.YtkpmalfigmimaaaGreatDoorC1P
import Derived.Test.YtkpmalfigmimaaaGreatDoorC2C64
import Derived.Test.YtkpmalfigmimaaaGreatDoorC1V64
import Derived.Lib.Bytes
set_option linter.unusedVariables false
set_option linter.unusedSimpArgs false
set_option maxRecDepth 100000
set_option maxHeartbeats 8000000
namespace Go.Proofs.YtkpmalfigmimaaaGreatDoor
open Go.RowKit
open M
def yG (k:Nat) (f:Nat→Nat) (n:Nat):Option (List Bool):=match k with
 |1=>some (plB 64 f n)
 |2=>some (cbn 64 6 f n)
 |3=>some (rnB 64 f n 0 n)
 |4=>dcO 64 f n
 |5=>some (stB 9223372036854775808 18446744073709551616 f n)
 |6=>some (F64.dm 64 f n)
 |_=>none
def tJ (o:Option (List Bool)) (w:World) (e:Ending) (w':World):Prop:=match o with
 |some l=>zX l w e w'
 |none=>e= .returned (.tuple #[.slice none 0 0,.int .i64 82])∧Below w.heap.size w w'
theorem qGK {f:Nat→Nat} {n:Nat} {w:World} {e:Ending} {w':World} (h:tO f n w e w') (h0:0<n):zX (cbn 64 6 f n) w e w':=h
theorem lE (k:Nat) (p:Option Addr) (n cap:Nat) (f:Nat→Nat) (w:World) (hk1:1≤k) (hk6:k≤6) (h:qZ w p n f) (h0:0<n) (hn:n≤4096) (hcap:n≤cap) (hf:∀i,i<n→f i<18446744073709551616) (hT:qT w):
  Calls Tryz.prog 90 #[.int .i64 k,.slice p n cap] w (tJ (yG k f n) w):=by
 obtain rfl|rfl|rfl|rfl|rfl|rfl:k=1∨k=2∨k=3∨k=4∨k=5∨k=6:=by omega
 ·refine (qEZ p n cap w h0 hn (fun b s w'=>zX (plB 64 f n) w (.returned (.tuple #[b,s])) w') fun w1 B1=>?_).mono ?_
  ·refine (bN p n cap f w1 (h.below B1) hn hcap hf).mono ?_
   rintro e w' ⟨g,L,h1,h2,rfl,h4,h5⟩
   exact ⟨_,_,rfl,g,L,h1,Nat.le_trans B1.size h2,rfl,h4,B1.trans (h5.mono B1.size)⟩
  ·rintro e w' ⟨b,s,rfl,hq⟩
   exact hq
 ·refine (qF0 p n cap w h0 hn (fun b s w'=>zX (cbn 64 6 f n) w (.returned (.tuple #[b,s])) w') fun w1 B1=>?_).mono ?_
  ·refine (qFR p n cap f w1 (h.below B1) hn hcap hf (hT.below B1)).mono ?_
   rintro e w' hE
   obtain ⟨g,L,h1,h2,rfl,h4,h5⟩:=qGK hE h0
   exact ⟨_,_,rfl,g,L,h1,Nat.le_trans B1.size h2,rfl,h4,B1.trans (h5.mono B1.size)⟩
  ·rintro e w' ⟨b,s,rfl,hq⟩
   exact hq
 ·refine (qF1 p n cap w h0 hn (fun b s w'=>zX (rnB 64 f n 0 n) w (.returned (.tuple #[b,s])) w') fun w1 B1=>?_).mono ?_
  ·refine (cK p n cap f w1 (h.below B1) hn hcap hf).mono ?_
   rintro e w' ⟨g,L,h1,h2,rfl,h4,h5⟩
   exact ⟨_,_,rfl,g,L,h1,Nat.le_trans B1.size h2,rfl,h4,B1.trans (h5.mono B1.size)⟩
  ·rintro e w' ⟨b,s,rfl,hq⟩
   exact hq
 ·refine (qF2 p n cap w h0 hn (fun b s w'=>tJ (dcO 64 f n) w (.returned (.tuple #[b,s])) w') fun w1 B1=>?_).mono ?_
  ·refine (cD p n cap f w1 (h.below B1) h0 hn hcap hf).mono ?_
   rintro e w' hE
   rcases hE with ⟨hu,rfl,hB⟩|⟨hu,g,L,h1,h2,rfl,h4,h5⟩
   ·refine ⟨_,_,rfl,?_⟩
    unfold dcO
    rw [if_neg (by omega)]
    exact ⟨rfl,B1.trans (hB.mono B1.size)⟩
   ·refine ⟨_,_,rfl,?_⟩
    unfold dcO
    rw [if_pos hu]
    exact ⟨g,L,h1,Nat.le_trans B1.size h2,rfl,h4,B1.trans (h5.mono B1.size)⟩
  ·rintro e w' ⟨b,s,rfl,hq⟩
   exact hq
 ·refine (qF3 p n cap w h0 hn (fun b s w'=>zX (stB 9223372036854775808 18446744073709551616 f n) w (.returned (.tuple #[b,s])) w') fun w1 B1=>?_).mono ?_
  ·refine (mG p n cap f w1 (h.below B1) hn hcap hf).mono ?_
   rintro e w' ⟨g,L,h1,h2,rfl,h4,h5⟩
   exact ⟨_,_,rfl,g,L,h1,Nat.le_trans B1.size h2,rfl,h4,B1.trans (h5.mono B1.size)⟩
  ·rintro e w' ⟨b,s,rfl,hq⟩
   exact hq
 ·refine (qF4 p n cap w h0 hn (fun b s w'=>zX (F64.dm 64 f n) w (.returned (.tuple #[b,s])) w') fun w1 B1=>?_).mono ?_
  ·refine (pH p n cap f w1 (h.below B1) hn hcap hf).mono ?_
   rintro e w' ⟨g,L,h1,h2,rfl,h4,h5⟩
   exact ⟨_,_,rfl,g,L,h1,Nat.le_trans B1.size h2,rfl,h4,B1.trans (h5.mono B1.size)⟩
  ·rintro e w' ⟨b,s,rfl,hq⟩
   exact hq
theorem qA1 {a b:List Nat} (ha:∀n∈a,n<256) (hb:∀n∈b,n<256) (h:(qG a).toList=(qG b).toList):a=b:=by
 have h1:(qG a).data.toList=(qG b).data.toList:=by
  unfold qG at h⊢
  rw [Lib.strOfNums_toList,Lib.strOfNums_toList] at h
  exact h
 rw [←kY a ha,←kY b hb]
 unfold zS
 rw [h1]
theorem jP (v1 v2:Value) (a b:List Nat) (w:World) (h1:jW w v1 a) (h2:jW w v2 b) (ha:∀n∈a,n<256) (hb:∀n∈b,n<256):
  Calls Tryz.prog 100 #[v1,v2] w fun e w'=>e= .returned (.bool (decide (a=b)))∧w'=w:=by
 have hc1:=yJ w v1 a h1
 have hc2:=yJ w v2 b h2
 by_cases e:a=b
 ·subst e
  rw [decide_eq_true rfl]
  clear h1 h2
  go_enter Tryz.func100,Tryz.ntmps100
  go_wp2_with fail
  go_ret
  exact ⟨by simp,rfl⟩
 ·rw [decide_eq_false e]
  have hne:Hid (((qG a).toList==(qG b).toList)=false):=by show _=_;rw [beq_eq_false_iff_ne];exact fun h=>e (qA1 ha hb h)
  generalize qG a=sa at*
  generalize qG b=sb at*
  clear h1 h2 e
  go_enter Tryz.func100,Tryz.ntmps100
  go_wp2_with fail
  go_ret
  exact ⟨by rw [←hne.out];rfl,rfl⟩
theorem nP (f g:Nat→Nat) (v i k:Nat) (h:∀j,i≤j→j<i+k→f j=g j):qI f v i k=qI g v i k:=by
 induction k generalizing i with
 |zero=>rfl
 |succ k ih=>rw [qI,qI,h i (Nat.le_refl _) (by omega),ih (i+1) fun j h1 h2=>h j (by omega) (by omega)]
theorem qBJ (f g:Nat→Nat) (u i k:Nat) (h:∀j,i≤j→j<i+k→f j=g j):rnB 64 f u i k=rnB 64 g u i k:=by
 induction u generalizing i k with
 |zero=>rfl
 |succ u ih=>
  match k with
  |0=>rfl
  |k+1=>
   have hle:=zG g (g i) i (k+1)
   rw [rnB,rnB,h i (Nat.le_refl _) (by omega),nP f g (g i) i (k+1) h,ih _ _ fun j h1 h2=>h j (by omega) (by omega)]
def jL (k n:Nat) (h:Nat→Nat) (bs:List Nat):Prop:=(∀i,i<n→h i<18446744073709551616)∧(n=0→bs=[])∧(0<n→∃l,yG k h n=some l∧packed l=bs)
theorem jL.lay {k n:Nat} {h:Nat→Nat} {bs:List Nat} (H:jL k n h bs):nB (fun f=>yG k f n) bs n h:=by
 refine ⟨H.1,H.2.1,fun h0=>?_⟩
 obtain ⟨l,h1,h2⟩:=H.2.2 h0
 exact ⟨l,_,h1,by rw [←h2,rbits_packed]⟩
def uE (k:Nat) (bs:List Nat) (n:Nat) (w:World) (e:Ending) (w':World):Prop:=
 (∃c:Int,c≠0∧e= .returned (.tuple #[.slice none 0 0,.int .i64 c])∧Below w.heap.size w w'∧∀h,jL k n h bs→False)∨
 ∃(v:Value) (f:Nat→Nat),e= .returned (.tuple #[v,.int .i64 0])∧qEK w.heap.size w f n v w'∧(∀i,i<n→f i<18446744073709551616)∧∀h,jL k n h bs→∀i,i<n→f i=h i
theorem yQ {k:Nat} {bs:List Nat} {n:Nat} {w:World} {e:Ending} {w':World} {bf:(Nat→Nat)→Option (List Bool)} (hb:(fun f=>yG k f n)=bf) (h:gW bf bs n w e w'):uE k bs n w e w':=by
 subst hb
 rcases h with ⟨c,h1,h2,h3,h4⟩|⟨v,f,h1,h2,h3,h4⟩
 ·exact .inl ⟨c,h1,h2,h3,fun h hP=>h4 h hP.lay⟩
 ·exact .inr ⟨v,f,h1,h2,h3,fun h hP=>h4 h hP.lay⟩
theorem qBR {bs:List Nat} {n:Nat} {w:World} {e:Ending} {w':World} (hn:n≤4096) (h:nK w bs n e w'):uE 2 bs n w e w':=by
 have key:∀h,jL 2 n h bs→gU bs h n:=fun h hP=>by
  refine ⟨hP.1,?_⟩
  by_cases h0:n=0
  ·rw [hP.2.1 h0,h0];exact List.eq_nil_of_length_eq_zero (by rw [packed_length];simp [cbn])
  ·obtain ⟨l,h1,h2⟩:=hP.2.2 (by omega)
   simp only [yG,Option.some.injEq] at h1
   rw [h1];exact h2
 rcases h with ⟨h1,h2,h3⟩|⟨g,f,h1,h2,h3,h4,h5,h6⟩
 ·exact .inl ⟨71,by decide,h1,h2,fun h hP=>h3 ⟨h,key h hP⟩⟩
 ·exact .inr ⟨_,f,h1,⟨h3.owns h2 hn,h4,Nat.le_refl _⟩,h5.1,fun h hP=>h6 h (vY (key h hP))⟩
def qR (k:Nat) (bs:List Nat) (n:Nat) (w:World) (e:Ending) (w':World):Prop:=
 (e= .returned (.tuple #[.slice none 0 0,.int .i64 83])∧Below w.heap.size w w'∧∀h,jL k n h bs→False)∨
 ∃(v:Value) (f:Nat→Nat),e= .returned (.tuple #[v,.int .i64 0])∧qEK w.heap.size w f n v w'∧jL k n f bs∧∀h,jL k n h bs→∀i,i<n→f i=h i
theorem rQ (k:Nat) (f g:Nat→Nat) (n:Nat) (h:∀i,i<n→f i=g i):yG k f n=yG k g n:=by
 unfold yG
 split
 ·rw [fJ 64 f g n h]
 ·rw [cbn_congr 64 6 f g n h]
 ·rw [qBJ f g n 0 n fun j _ hj=>h j (by omega)]
 ·unfold dcO;rw [sX f g n h,lG 64 f g n h]
 ·rw [fV 9223372036854775808 18446744073709551616 f g n h]
 ·rw [F64.dm_congr 64 f g n h]
 ·rfl
theorem jL.congr {k n:Nat} {f g:Nat→Nat} {bs:List Nat} (H:jL k n f bs) (h:∀i,i<n→f i=g i):jL k n g bs:=
 ⟨fun i hi=>by rw [←h i hi];exact H.1 i hi,H.2.1,fun h0=>by
  obtain ⟨l,h1,h2⟩:=H.2.2 h0
  exact ⟨l,by rw [←rQ k f g n h];exact h1,h2⟩⟩
end Go.Proofs.YtkpmalfigmimaaaGreatDoor
namespace Go.Proofs.YtkpmalfigmimaaaGreatDoor
open Go.RowKit
open M
def cS (k n:Nat) (f:Nat→Nat) (w:World) (e:Ending) (w':World):Prop:=
 (∃(pu:Option Addr) (cu:Nat) (bs:List Nat),e= .returned (.tuple #[.slice pu bs.length cu,.int .i64 0])∧jW w' (.slice pu bs.length cu) bs∧(∀n∈bs,n<256)∧Below w.heap.size w w'∧jL k n f bs∧∀bs',jL k n f bs'→bs'=bs)∨
 (e= .returned (.tuple #[.slice none 0 0,.int .i64 82])∧Below w.heap.size w w'∧∀bs,jL k n f bs→False)
theorem xX (k:Nat) (p:Option Addr) (n cap:Nat) (f:Nat→Nat) (w:World) (hk1:1≤k) (hk6:k≤6) (h:qZ w p n f) (hn:n≤4096) (hcap:n≤cap) (hf:∀i,i<n→f i<18446744073709551616) (hT:qT w):
  Calls Tryz.prog 90 #[.int .i64 k,.slice p n cap] w (cS k n f w):=by
 by_cases h0:n=0
 ·subst h0
  refine (rM k p cap w hk1 hk6).mono ?_
  rintro e w' ⟨rfl,hB⟩
  exact .inl ⟨none,0,[],rfl,.inl (.inl ⟨rfl,rfl⟩),by simp,hB,⟨hf,fun _=>rfl,fun h=>by omega⟩,fun bs' hP=>hP.2.1 rfl⟩
 ·refine (lE k p n cap f w hk1 hk6 h (by omega) hn hcap hf hT).mono ?_
  intro e w' hE
  cases ho:yG k f n with
  |none=>
   rw [ho] at hE
   obtain ⟨rfl,hB⟩:=hE
   refine .inr ⟨rfl,hB,fun bs hP=>?_⟩
   obtain ⟨l,h1,_⟩:=hP.2.2 (by omega)
   rw [ho] at h1;cases h1
  |some l=>
   rw [ho] at hE
   obtain ⟨g,L,h1,h2,rfl,h4,h5⟩:=hE
   subst h1
   refine .inl ⟨_,_,packed l,rfl,.inl (jD h4),zU l,h5,⟨hf,fun h=>absurd h h0,fun _=>⟨l,ho,rfl⟩⟩,fun bs' hP=>?_⟩
   obtain ⟨l',h1,h2⟩:=hP.2.2 (by omega)
   rw [ho] at h1
   cases h1
   exact h2.symm
theorem qAU (v:Value) (bs:List Nat) (n:Nat) (w:World) (hv:jW w v bs) (hb:∀n∈bs,n<256) (hl:bs.length≤1000000000000) (hn:n≤4096) (hT:qT w)
  (hcall:∀w1,Below w.heap.size w w1→Calls Tryz.prog 114 #[v,.int .i64 n] w1 (uE 1 bs n w1)):
  Calls Tryz.prog 84 #[.int .i64 1,v,.int .i64 n] w (qR 1 bs n w):=by
 have hf:Instr.findNow (.int .i64) (.int .i64 1) zM.toList 0=some (some (0,.func (.func 114) #[] #[])):=by kernel_rfl
 have HV:=qA hv
 have HBB:=qA hb
 have HT:=qA hT
 have HC:=qA hcall
 have HAG:=qA (fun p cap f w1 h1 h2 h3 h4=>xX 1 p n cap f w1 (by omega) (by omega) h1 hn h2 h3 h4)
 clear hv hb hT hcall hl
 go_enter Tryz.func84,Tryz.ntmps84
 go_wp2_with fail
 refine (jU w).mono ?_
 rintro e w1 ⟨rfl,b1,B1⟩
 have hlk:=jJ (P:=Tryz.prog) (w:=w1) _ _ _ _ _ _ 1 _ _ Tryz.underlying162 Tryz.underlying3 b1 hf
 have HB1:=qA B1
 clear B1 b1 hf
 go_wp2_with fail
 refine (HC.out w1 HB1.out).mono ?_
 intro e w2 hE
 rcases hE with ⟨c,hc,rfl,B2,hno⟩|⟨u,f,rfl,hU,hr,hfull⟩
 ·have hcn:(c !=0)=true:=by rw [bne_iff_ne];exact hc
  have HFIN:Hid (qR 1 bs n w (.returned (.tuple #[.slice none 0 0,.int .i64 83])) w2):= .inl ⟨rfl,HB1.out.trans (B2.mono HB1.out.size),hno⟩
  clear hc B2 hno
  go_wp2_with fail
  go_ret2
  exact HFIN.out
 ·obtain ⟨p,cap,rfl,hcap,hrow⟩:=hU.row
  have HU:=qA hU
  have HRR:=qA (And.intro hr hfull)
  have hB2:=hU.2.1
  have HB2:Hid (Below w.heap.size w w2):=HB1.out.trans (hB2.mono HB1.out.size)
  have HAGN:=qA (HAG.out p cap f w2 hrow hcap hr (HT.out.below HB2.out))
  clear hU hr hfull hrow hB2
  go_wp2_with fail
  refine HAGN.out.mono ?_
  intro e w3 hE
  rcases hE with ⟨px,cx,bx,rfl,hx,hbx,B3,hP,huq⟩|⟨rfl,B3,hno⟩
  ·have HB3:Hid (Below w.heap.size w w3):=HB2.out.trans (B3.mono HB2.out.size)
   have HEQ:=qA (jP (.slice px bx.length cx) v bx bs w3 hx (qD HV.out HB3.out) hbx HBB.out)
   by_cases e:bx=bs
   ·have HFIN:Hid (qR 1 bs n w (.returned (.tuple #[.slice p n cap,.int .i64 0])) w3):=by
     refine .inr ⟨_,f,rfl,?_,by rw [←e];exact hP,HRR.out.2⟩
     have h1:=HU.out.1
     have h2:=HB1.out.size
     refine ⟨(jF h1 fun g hg1 hg2=>B3.block g hg2).mono h2,HB3.out,Nat.le_refl _⟩
    rw [decide_eq_true e] at HEQ
    clear hx hbx B3 hP huq e
    go_wp2_with fail
    refine HEQ.out.mono ?_
    rintro e w4 ⟨rfl,h4⟩
    have h4:=h4.symm
    subst h4
    go_wp2_with fail
    go_ret2
    exact HFIN.out
   ·have HFIN:Hid (qR 1 bs n w (.returned (.tuple #[.slice none 0 0,.int .i64 83])) w3):=by
     refine .inl ⟨rfl,HB3.out,fun h hPh=>e ?_⟩
     exact (huq bs (hPh.congr fun i hi=>(HRR.out.2 h hPh i hi).symm)).symm
    rw [decide_eq_false e] at HEQ
    clear hx hbx B3 hP huq e
    go_wp2_with fail
    refine HEQ.out.mono ?_
    rintro e w4 ⟨rfl,h4⟩
    have h4:=h4.symm
    subst h4
    go_wp2_with fail
    go_ret2
    exact HFIN.out
  ·have HFIN:Hid (qR 1 bs n w (.returned (.tuple #[.slice none 0 0,.int .i64 83])) w3):=by
    refine .inl ⟨rfl,HB2.out.trans (B3.mono HB2.out.size),fun h hPh=>?_⟩
    exact hno bs (hPh.congr fun i hi=>(HRR.out.2 h hPh i hi).symm)
   clear B3 hno
   go_wp2_with fail
   go_ret2
   exact HFIN.out
theorem qAV (v:Value) (bs:List Nat) (n:Nat) (w:World) (hv:jW w v bs) (hb:∀n∈bs,n<256) (hl:bs.length≤1000000000000) (hn:n≤4096) (hT:qT w)
  (hcall:∀w1,Below w.heap.size w w1→Calls Tryz.prog 115 #[v,.int .i64 n] w1 (uE 2 bs n w1)):
  Calls Tryz.prog 84 #[.int .i64 2,v,.int .i64 n] w (qR 2 bs n w):=by
 have hf:Instr.findNow (.int .i64) (.int .i64 2) zM.toList 0=some (some (1,.func (.func 115) #[] #[])):=by kernel_rfl
 have HV:=qA hv
 have HBB:=qA hb
 have HT:=qA hT
 have HC:=qA hcall
 have HAG:=qA (fun p cap f w1 h1 h2 h3 h4=>xX 2 p n cap f w1 (by omega) (by omega) h1 hn h2 h3 h4)
 clear hv hb hT hcall hl
 go_enter Tryz.func84,Tryz.ntmps84
 go_wp2_with fail
 refine (jU w).mono ?_
 rintro e w1 ⟨rfl,b1,B1⟩
 have hlk:=jJ (P:=Tryz.prog) (w:=w1) _ _ _ _ _ _ 2 _ _ Tryz.underlying162 Tryz.underlying3 b1 hf
 have HB1:=qA B1
 clear B1 b1 hf
 go_wp2_with fail
 refine (HC.out w1 HB1.out).mono ?_
 intro e w2 hE
 rcases hE with ⟨c,hc,rfl,B2,hno⟩|⟨u,f,rfl,hU,hr,hfull⟩
 ·have hcn:(c !=0)=true:=by rw [bne_iff_ne];exact hc
  have HFIN:Hid (qR 2 bs n w (.returned (.tuple #[.slice none 0 0,.int .i64 83])) w2):= .inl ⟨rfl,HB1.out.trans (B2.mono HB1.out.size),hno⟩
  clear hc B2 hno
  go_wp2_with fail
  go_ret2
  exact HFIN.out
 ·obtain ⟨p,cap,rfl,hcap,hrow⟩:=hU.row
  have HU:=qA hU
  have HRR:=qA (And.intro hr hfull)
  have hB2:=hU.2.1
  have HB2:Hid (Below w.heap.size w w2):=HB1.out.trans (hB2.mono HB1.out.size)
  have HAGN:=qA (HAG.out p cap f w2 hrow hcap hr (HT.out.below HB2.out))
  clear hU hr hfull hrow hB2
  go_wp2_with fail
  refine HAGN.out.mono ?_
  intro e w3 hE
  rcases hE with ⟨px,cx,bx,rfl,hx,hbx,B3,hP,huq⟩|⟨rfl,B3,hno⟩
  ·have HB3:Hid (Below w.heap.size w w3):=HB2.out.trans (B3.mono HB2.out.size)
   have HEQ:=qA (jP (.slice px bx.length cx) v bx bs w3 hx (qD HV.out HB3.out) hbx HBB.out)
   by_cases e:bx=bs
   ·have HFIN:Hid (qR 2 bs n w (.returned (.tuple #[.slice p n cap,.int .i64 0])) w3):=by
     refine .inr ⟨_,f,rfl,?_,by rw [←e];exact hP,HRR.out.2⟩
     have h1:=HU.out.1
     have h2:=HB1.out.size
     refine ⟨(jF h1 fun g hg1 hg2=>B3.block g hg2).mono h2,HB3.out,Nat.le_refl _⟩
    rw [decide_eq_true e] at HEQ
    clear hx hbx B3 hP huq e
    go_wp2_with fail
    refine HEQ.out.mono ?_
    rintro e w4 ⟨rfl,h4⟩
    have h4:=h4.symm
    subst h4
    go_wp2_with fail
    go_ret2
    exact HFIN.out
   ·have HFIN:Hid (qR 2 bs n w (.returned (.tuple #[.slice none 0 0,.int .i64 83])) w3):=by
     refine .inl ⟨rfl,HB3.out,fun h hPh=>e ?_⟩
     exact (huq bs (hPh.congr fun i hi=>(HRR.out.2 h hPh i hi).symm)).symm
    rw [decide_eq_false e] at HEQ
    clear hx hbx B3 hP huq e
    go_wp2_with fail
    refine HEQ.out.mono ?_
    rintro e w4 ⟨rfl,h4⟩
    have h4:=h4.symm
    subst h4
    go_wp2_with fail
    go_ret2
    exact HFIN.out
  ·have HFIN:Hid (qR 2 bs n w (.returned (.tuple #[.slice none 0 0,.int .i64 83])) w3):=by
    refine .inl ⟨rfl,HB2.out.trans (B3.mono HB2.out.size),fun h hPh=>?_⟩
    exact hno bs (hPh.congr fun i hi=>(HRR.out.2 h hPh i hi).symm)
   clear B3 hno
   go_wp2_with fail
   go_ret2
   exact HFIN.out
theorem qAW (v:Value) (bs:List Nat) (n:Nat) (w:World) (hv:jW w v bs) (hb:∀n∈bs,n<256) (hl:bs.length≤1000000000000) (hn:n≤4096) (hT:qT w)
  (hcall:∀w1,Below w.heap.size w w1→Calls Tryz.prog 116 #[v,.int .i64 n] w1 (uE 3 bs n w1)):
  Calls Tryz.prog 84 #[.int .i64 3,v,.int .i64 n] w (qR 3 bs n w):=by
 have hf:Instr.findNow (.int .i64) (.int .i64 3) zM.toList 0=some (some (2,.func (.func 116) #[] #[])):=by kernel_rfl
 have HV:=qA hv
 have HBB:=qA hb
 have HT:=qA hT
 have HC:=qA hcall
 have HAG:=qA (fun p cap f w1 h1 h2 h3 h4=>xX 3 p n cap f w1 (by omega) (by omega) h1 hn h2 h3 h4)
 clear hv hb hT hcall hl
 go_enter Tryz.func84,Tryz.ntmps84
 go_wp2_with fail
 refine (jU w).mono ?_
 rintro e w1 ⟨rfl,b1,B1⟩
 have hlk:=jJ (P:=Tryz.prog) (w:=w1) _ _ _ _ _ _ 3 _ _ Tryz.underlying162 Tryz.underlying3 b1 hf
 have HB1:=qA B1
 clear B1 b1 hf
 go_wp2_with fail
 refine (HC.out w1 HB1.out).mono ?_
 intro e w2 hE
 rcases hE with ⟨c,hc,rfl,B2,hno⟩|⟨u,f,rfl,hU,hr,hfull⟩
 ·have hcn:(c !=0)=true:=by rw [bne_iff_ne];exact hc
  have HFIN:Hid (qR 3 bs n w (.returned (.tuple #[.slice none 0 0,.int .i64 83])) w2):= .inl ⟨rfl,HB1.out.trans (B2.mono HB1.out.size),hno⟩
  clear hc B2 hno
  go_wp2_with fail
  go_ret2
  exact HFIN.out
 ·obtain ⟨p,cap,rfl,hcap,hrow⟩:=hU.row
  have HU:=qA hU
  have HRR:=qA (And.intro hr hfull)
  have hB2:=hU.2.1
  have HB2:Hid (Below w.heap.size w w2):=HB1.out.trans (hB2.mono HB1.out.size)
  have HAGN:=qA (HAG.out p cap f w2 hrow hcap hr (HT.out.below HB2.out))
  clear hU hr hfull hrow hB2
  go_wp2_with fail
  refine HAGN.out.mono ?_
  intro e w3 hE
  rcases hE with ⟨px,cx,bx,rfl,hx,hbx,B3,hP,huq⟩|⟨rfl,B3,hno⟩
  ·have HB3:Hid (Below w.heap.size w w3):=HB2.out.trans (B3.mono HB2.out.size)
   have HEQ:=qA (jP (.slice px bx.length cx) v bx bs w3 hx (qD HV.out HB3.out) hbx HBB.out)
   by_cases e:bx=bs
   ·have HFIN:Hid (qR 3 bs n w (.returned (.tuple #[.slice p n cap,.int .i64 0])) w3):=by
     refine .inr ⟨_,f,rfl,?_,by rw [←e];exact hP,HRR.out.2⟩
     have h1:=HU.out.1
     have h2:=HB1.out.size
     refine ⟨(jF h1 fun g hg1 hg2=>B3.block g hg2).mono h2,HB3.out,Nat.le_refl _⟩
    rw [decide_eq_true e] at HEQ
    clear hx hbx B3 hP huq e
    go_wp2_with fail
    refine HEQ.out.mono ?_
    rintro e w4 ⟨rfl,h4⟩
    have h4:=h4.symm
    subst h4
    go_wp2_with fail
    go_ret2
    exact HFIN.out
   ·have HFIN:Hid (qR 3 bs n w (.returned (.tuple #[.slice none 0 0,.int .i64 83])) w3):=by
     refine .inl ⟨rfl,HB3.out,fun h hPh=>e ?_⟩
     exact (huq bs (hPh.congr fun i hi=>(HRR.out.2 h hPh i hi).symm)).symm
    rw [decide_eq_false e] at HEQ
    clear hx hbx B3 hP huq e
    go_wp2_with fail
    refine HEQ.out.mono ?_
    rintro e w4 ⟨rfl,h4⟩
    have h4:=h4.symm
    subst h4
    go_wp2_with fail
    go_ret2
    exact HFIN.out
  ·have HFIN:Hid (qR 3 bs n w (.returned (.tuple #[.slice none 0 0,.int .i64 83])) w3):=by
    refine .inl ⟨rfl,HB2.out.trans (B3.mono HB2.out.size),fun h hPh=>?_⟩
    exact hno bs (hPh.congr fun i hi=>(HRR.out.2 h hPh i hi).symm)
   clear B3 hno
   go_wp2_with fail
   go_ret2
   exact HFIN.out
theorem qAX (v:Value) (bs:List Nat) (n:Nat) (w:World) (hv:jW w v bs) (hb:∀n∈bs,n<256) (hl:bs.length≤1000000000000) (hn:n≤4096) (hT:qT w)
  (hcall:∀w1,Below w.heap.size w w1→Calls Tryz.prog 117 #[v,.int .i64 n] w1 (uE 4 bs n w1)):
  Calls Tryz.prog 84 #[.int .i64 4,v,.int .i64 n] w (qR 4 bs n w):=by
 have hf:Instr.findNow (.int .i64) (.int .i64 4) zM.toList 0=some (some (3,.func (.func 117) #[] #[])):=by kernel_rfl
 have HV:=qA hv
 have HBB:=qA hb
 have HT:=qA hT
 have HC:=qA hcall
 have HAG:=qA (fun p cap f w1 h1 h2 h3 h4=>xX 4 p n cap f w1 (by omega) (by omega) h1 hn h2 h3 h4)
 clear hv hb hT hcall hl
 go_enter Tryz.func84,Tryz.ntmps84
 go_wp2_with fail
 refine (jU w).mono ?_
 rintro e w1 ⟨rfl,b1,B1⟩
 have hlk:=jJ (P:=Tryz.prog) (w:=w1) _ _ _ _ _ _ 4 _ _ Tryz.underlying162 Tryz.underlying3 b1 hf
 have HB1:=qA B1
 clear B1 b1 hf
 go_wp2_with fail
 refine (HC.out w1 HB1.out).mono ?_
 intro e w2 hE
 rcases hE with ⟨c,hc,rfl,B2,hno⟩|⟨u,f,rfl,hU,hr,hfull⟩
 ·have hcn:(c !=0)=true:=by rw [bne_iff_ne];exact hc
  have HFIN:Hid (qR 4 bs n w (.returned (.tuple #[.slice none 0 0,.int .i64 83])) w2):= .inl ⟨rfl,HB1.out.trans (B2.mono HB1.out.size),hno⟩
  clear hc B2 hno
  go_wp2_with fail
  go_ret2
  exact HFIN.out
 ·obtain ⟨p,cap,rfl,hcap,hrow⟩:=hU.row
  have HU:=qA hU
  have HRR:=qA (And.intro hr hfull)
  have hB2:=hU.2.1
  have HB2:Hid (Below w.heap.size w w2):=HB1.out.trans (hB2.mono HB1.out.size)
  have HAGN:=qA (HAG.out p cap f w2 hrow hcap hr (HT.out.below HB2.out))
  clear hU hr hfull hrow hB2
  go_wp2_with fail
  refine HAGN.out.mono ?_
  intro e w3 hE
  rcases hE with ⟨px,cx,bx,rfl,hx,hbx,B3,hP,huq⟩|⟨rfl,B3,hno⟩
  ·have HB3:Hid (Below w.heap.size w w3):=HB2.out.trans (B3.mono HB2.out.size)
   have HEQ:=qA (jP (.slice px bx.length cx) v bx bs w3 hx (qD HV.out HB3.out) hbx HBB.out)
   by_cases e:bx=bs
   ·have HFIN:Hid (qR 4 bs n w (.returned (.tuple #[.slice p n cap,.int .i64 0])) w3):=by
     refine .inr ⟨_,f,rfl,?_,by rw [←e];exact hP,HRR.out.2⟩
     have h1:=HU.out.1
     have h2:=HB1.out.size
     refine ⟨(jF h1 fun g hg1 hg2=>B3.block g hg2).mono h2,HB3.out,Nat.le_refl _⟩
    rw [decide_eq_true e] at HEQ
    clear hx hbx B3 hP huq e
    go_wp2_with fail
    refine HEQ.out.mono ?_
    rintro e w4 ⟨rfl,h4⟩
    have h4:=h4.symm
    subst h4
    go_wp2_with fail
    go_ret2
    exact HFIN.out
   ·have HFIN:Hid (qR 4 bs n w (.returned (.tuple #[.slice none 0 0,.int .i64 83])) w3):=by
     refine .inl ⟨rfl,HB3.out,fun h hPh=>e ?_⟩
     exact (huq bs (hPh.congr fun i hi=>(HRR.out.2 h hPh i hi).symm)).symm
    rw [decide_eq_false e] at HEQ
    clear hx hbx B3 hP huq e
    go_wp2_with fail
    refine HEQ.out.mono ?_
    rintro e w4 ⟨rfl,h4⟩
    have h4:=h4.symm
    subst h4
    go_wp2_with fail
    go_ret2
    exact HFIN.out
  ·have HFIN:Hid (qR 4 bs n w (.returned (.tuple #[.slice none 0 0,.int .i64 83])) w3):=by
    refine .inl ⟨rfl,HB2.out.trans (B3.mono HB2.out.size),fun h hPh=>?_⟩
    exact hno bs (hPh.congr fun i hi=>(HRR.out.2 h hPh i hi).symm)
   clear B3 hno
   go_wp2_with fail
   go_ret2
   exact HFIN.out
theorem qAY (v:Value) (bs:List Nat) (n:Nat) (w:World) (hv:jW w v bs) (hb:∀n∈bs,n<256) (hl:bs.length≤1000000000000) (hn:n≤4096) (hT:qT w)
  (hcall:∀w1,Below w.heap.size w w1→Calls Tryz.prog 118 #[v,.int .i64 n] w1 (uE 5 bs n w1)):
  Calls Tryz.prog 84 #[.int .i64 5,v,.int .i64 n] w (qR 5 bs n w):=by
 have hf:Instr.findNow (.int .i64) (.int .i64 5) zM.toList 0=some (some (4,.func (.func 118) #[] #[])):=by kernel_rfl
 have HV:=qA hv
 have HBB:=qA hb
 have HT:=qA hT
 have HC:=qA hcall
 have HAG:=qA (fun p cap f w1 h1 h2 h3 h4=>xX 5 p n cap f w1 (by omega) (by omega) h1 hn h2 h3 h4)
 clear hv hb hT hcall hl
 go_enter Tryz.func84,Tryz.ntmps84
 go_wp2_with fail
 refine (jU w).mono ?_
 rintro e w1 ⟨rfl,b1,B1⟩
 have hlk:=jJ (P:=Tryz.prog) (w:=w1) _ _ _ _ _ _ 5 _ _ Tryz.underlying162 Tryz.underlying3 b1 hf
 have HB1:=qA B1
 clear B1 b1 hf
 go_wp2_with fail
 refine (HC.out w1 HB1.out).mono ?_
 intro e w2 hE
 rcases hE with ⟨c,hc,rfl,B2,hno⟩|⟨u,f,rfl,hU,hr,hfull⟩
 ·have hcn:(c !=0)=true:=by rw [bne_iff_ne];exact hc
  have HFIN:Hid (qR 5 bs n w (.returned (.tuple #[.slice none 0 0,.int .i64 83])) w2):= .inl ⟨rfl,HB1.out.trans (B2.mono HB1.out.size),hno⟩
  clear hc B2 hno
  go_wp2_with fail
  go_ret2
  exact HFIN.out
 ·obtain ⟨p,cap,rfl,hcap,hrow⟩:=hU.row
  have HU:=qA hU
  have HRR:=qA (And.intro hr hfull)
  have hB2:=hU.2.1
  have HB2:Hid (Below w.heap.size w w2):=HB1.out.trans (hB2.mono HB1.out.size)
  have HAGN:=qA (HAG.out p cap f w2 hrow hcap hr (HT.out.below HB2.out))
  clear hU hr hfull hrow hB2
  go_wp2_with fail
  refine HAGN.out.mono ?_
  intro e w3 hE
  rcases hE with ⟨px,cx,bx,rfl,hx,hbx,B3,hP,huq⟩|⟨rfl,B3,hno⟩
  ·have HB3:Hid (Below w.heap.size w w3):=HB2.out.trans (B3.mono HB2.out.size)
   have HEQ:=qA (jP (.slice px bx.length cx) v bx bs w3 hx (qD HV.out HB3.out) hbx HBB.out)
   by_cases e:bx=bs
   ·have HFIN:Hid (qR 5 bs n w (.returned (.tuple #[.slice p n cap,.int .i64 0])) w3):=by
     refine .inr ⟨_,f,rfl,?_,by rw [←e];exact hP,HRR.out.2⟩
     have h1:=HU.out.1
     have h2:=HB1.out.size
     refine ⟨(jF h1 fun g hg1 hg2=>B3.block g hg2).mono h2,HB3.out,Nat.le_refl _⟩
    rw [decide_eq_true e] at HEQ
    clear hx hbx B3 hP huq e
    go_wp2_with fail
    refine HEQ.out.mono ?_
    rintro e w4 ⟨rfl,h4⟩
    have h4:=h4.symm
    subst h4
    go_wp2_with fail
    go_ret2
    exact HFIN.out
   ·have HFIN:Hid (qR 5 bs n w (.returned (.tuple #[.slice none 0 0,.int .i64 83])) w3):=by
     refine .inl ⟨rfl,HB3.out,fun h hPh=>e ?_⟩
     exact (huq bs (hPh.congr fun i hi=>(HRR.out.2 h hPh i hi).symm)).symm
    rw [decide_eq_false e] at HEQ
    clear hx hbx B3 hP huq e
    go_wp2_with fail
    refine HEQ.out.mono ?_
    rintro e w4 ⟨rfl,h4⟩
    have h4:=h4.symm
    subst h4
    go_wp2_with fail
    go_ret2
    exact HFIN.out
  ·have HFIN:Hid (qR 5 bs n w (.returned (.tuple #[.slice none 0 0,.int .i64 83])) w3):=by
    refine .inl ⟨rfl,HB2.out.trans (B3.mono HB2.out.size),fun h hPh=>?_⟩
    exact hno bs (hPh.congr fun i hi=>(HRR.out.2 h hPh i hi).symm)
   clear B3 hno
   go_wp2_with fail
   go_ret2
   exact HFIN.out
theorem qAZ (v:Value) (bs:List Nat) (n:Nat) (w:World) (hv:jW w v bs) (hb:∀n∈bs,n<256) (hl:bs.length≤1000000000000) (hn:n≤4096) (hT:qT w)
  (hcall:∀w1,Below w.heap.size w w1→Calls Tryz.prog 119 #[v,.int .i64 n] w1 (uE 6 bs n w1)):
  Calls Tryz.prog 84 #[.int .i64 6,v,.int .i64 n] w (qR 6 bs n w):=by
 have hf:Instr.findNow (.int .i64) (.int .i64 6) zM.toList 0=some (some (5,.func (.func 119) #[] #[])):=by kernel_rfl
 have HV:=qA hv
 have HBB:=qA hb
 have HT:=qA hT
 have HC:=qA hcall
 have HAG:=qA (fun p cap f w1 h1 h2 h3 h4=>xX 6 p n cap f w1 (by omega) (by omega) h1 hn h2 h3 h4)
 clear hv hb hT hcall hl
 go_enter Tryz.func84,Tryz.ntmps84
 go_wp2_with fail
 refine (jU w).mono ?_
 rintro e w1 ⟨rfl,b1,B1⟩
 have hlk:=jJ (P:=Tryz.prog) (w:=w1) _ _ _ _ _ _ 6 _ _ Tryz.underlying162 Tryz.underlying3 b1 hf
 have HB1:=qA B1
 clear B1 b1 hf
 go_wp2_with fail
 refine (HC.out w1 HB1.out).mono ?_
 intro e w2 hE
 rcases hE with ⟨c,hc,rfl,B2,hno⟩|⟨u,f,rfl,hU,hr,hfull⟩
 ·have hcn:(c !=0)=true:=by rw [bne_iff_ne];exact hc
  have HFIN:Hid (qR 6 bs n w (.returned (.tuple #[.slice none 0 0,.int .i64 83])) w2):= .inl ⟨rfl,HB1.out.trans (B2.mono HB1.out.size),hno⟩
  clear hc B2 hno
  go_wp2_with fail
  go_ret2
  exact HFIN.out
 ·obtain ⟨p,cap,rfl,hcap,hrow⟩:=hU.row
  have HU:=qA hU
  have HRR:=qA (And.intro hr hfull)
  have hB2:=hU.2.1
  have HB2:Hid (Below w.heap.size w w2):=HB1.out.trans (hB2.mono HB1.out.size)
  have HAGN:=qA (HAG.out p cap f w2 hrow hcap hr (HT.out.below HB2.out))
  clear hU hr hfull hrow hB2
  go_wp2_with fail
  refine HAGN.out.mono ?_
  intro e w3 hE
  rcases hE with ⟨px,cx,bx,rfl,hx,hbx,B3,hP,huq⟩|⟨rfl,B3,hno⟩
  ·have HB3:Hid (Below w.heap.size w w3):=HB2.out.trans (B3.mono HB2.out.size)
   have HEQ:=qA (jP (.slice px bx.length cx) v bx bs w3 hx (qD HV.out HB3.out) hbx HBB.out)
   by_cases e:bx=bs
   ·have HFIN:Hid (qR 6 bs n w (.returned (.tuple #[.slice p n cap,.int .i64 0])) w3):=by
     refine .inr ⟨_,f,rfl,?_,by rw [←e];exact hP,HRR.out.2⟩
     have h1:=HU.out.1
     have h2:=HB1.out.size
     refine ⟨(jF h1 fun g hg1 hg2=>B3.block g hg2).mono h2,HB3.out,Nat.le_refl _⟩
    rw [decide_eq_true e] at HEQ
    clear hx hbx B3 hP huq e
    go_wp2_with fail
    refine HEQ.out.mono ?_
    rintro e w4 ⟨rfl,h4⟩
    have h4:=h4.symm
    subst h4
    go_wp2_with fail
    go_ret2
    exact HFIN.out
   ·have HFIN:Hid (qR 6 bs n w (.returned (.tuple #[.slice none 0 0,.int .i64 83])) w3):=by
     refine .inl ⟨rfl,HB3.out,fun h hPh=>e ?_⟩
     exact (huq bs (hPh.congr fun i hi=>(HRR.out.2 h hPh i hi).symm)).symm
    rw [decide_eq_false e] at HEQ
    clear hx hbx B3 hP huq e
    go_wp2_with fail
    refine HEQ.out.mono ?_
    rintro e w4 ⟨rfl,h4⟩
    have h4:=h4.symm
    subst h4
    go_wp2_with fail
    go_ret2
    exact HFIN.out
  ·have HFIN:Hid (qR 6 bs n w (.returned (.tuple #[.slice none 0 0,.int .i64 83])) w3):=by
    refine .inl ⟨rfl,HB2.out.trans (B3.mono HB2.out.size),fun h hPh=>?_⟩
    exact hno bs (hPh.congr fun i hi=>(HRR.out.2 h hPh i hi).symm)
   clear B3 hno
   go_wp2_with fail
   go_ret2
   exact HFIN.out
theorem rO (k:Nat) (v:Value) (bs:List Nat) (n:Nat) (w:World) (hk1:1≤k) (hk6:k≤6) (hv:jW w v bs) (hb:∀n∈bs,n<256) (hl:bs.length≤1000000000000) (hn:n≤4096) (hT:qT w):
  Calls Tryz.prog 84 #[.int .i64 k,v,.int .i64 n] w (qR k bs n w):=by
 obtain rfl|rfl|rfl|rfl|rfl|rfl:k=1∨k=2∨k=3∨k=4∨k=5∨k=6:=by omega
 ·exact qAU v bs n w hv hb hl hn hT fun w1 B1=>(pO v bs n w1 (qD hv B1) hb hl hn).mono fun e w' hE=>yQ rfl (uU (fun h=>rfl) hn hE)
 ·exact qAV v bs n w hv hb hl hn hT fun w1 B1=>(qA7 v bs n w1 (qD hv B1) hb hl hn (hT.below B1)).mono fun e w' hE=>qBR hn hE
 ·exact qAW v bs n w hv hb hl hn hT fun w1 B1=>(mP v bs n w1 (qD hv B1) hb hl hn).mono fun e w' hE=>yQ rfl hE
 ·exact qAX v bs n w hv hb hl hn hT fun w1 B1=>(mN v bs n w1 (qD hv B1) hb hl hn).mono fun e w' hE=>yQ rfl hE
 ·exact qAY v bs n w hv hb hl hn hT fun w1 B1=>(gI v bs n w1 (qD hv B1) hb hl hn).mono fun e w' hE=>yQ rfl (uU (fun h=>rfl) hn hE)
 ·exact qAZ v bs n w hv hb hl hn hT fun w1 B1=>(wG v bs n w1 (qD hv B1) hb hl hn).mono fun e w' hE=>yQ rfl hE
end Go.Proofs.YtkpmalfigmimaaaGreatDoor
