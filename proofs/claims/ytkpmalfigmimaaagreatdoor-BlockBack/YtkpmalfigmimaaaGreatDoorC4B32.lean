import Derived.Test.YtkpmalfigmimaaaGreatDoorC2G32
import Derived.Test.YtkpmalfigmimaaaGreatDoorC4F32
import Derived.Test.YtkpmalfigmimaaaGreatDoorC2G64
import Derived.Test.YtkpmalfigmimaaaGreatDoorC3H32
import Derived.Test.YtkpmalfigmimaaaGreatDoorC2F32
import Derived.Lib.Bytes
set_option linter.unusedVariables false
set_option linter.unusedSimpArgs false
set_option maxRecDepth 100000
set_option maxHeartbeats 8000000
namespace Go.Proofs.YtkpmalfigmimaaaGreatDoor
open Go.RowKit
open M
theorem qGH (m:Nat) (hm:0<m) (y k:Int) (hk:(m:Int)=k):∃Y:Nat,y%k=(Y:Int)∧Y<m:=by
 subst hk
 have h1:=Int.emod_nonneg y (b:=(m:Int)) (by omega)
 have h2:=Int.emod_lt_of_pos y (b:=(m:Int)) (by omega)
 generalize y%(m:Int)=z at*
 exact ⟨z.toNat,(Int.toNat_of_nonneg h1).symm,by omega⟩
theorem qD1 (m E y Y x:Int) (h2:y%m=Y) (h1:(E+Y)%m=x):x=(E+y)%m:=by rw [←h1,←h2,Int.add_emod_emod]
theorem sQ (H M:Nat) (hM:M=2*H) (hH:0<H) (f h:Nat→Nat) (k:Nat) (hf:∀i,i<k→f i=h i) (hr:∀i,i<k→f i<M) (hk:h k<M) (m:Int) (hm:(M:Int)=m):((exS M f k:Int)+sgW H M (rsS M h k))%m=(h k:Int):=by
 subst hm
 have e1:=nZ M f h k hf
 have e2:=qG5 H M (rsS M h k) hM (qCH M h (by omega) k)
 have e3:=qCG M h (by omega) k fun j hj=>by
  by_cases e:j=k
  ·rw [e];exact hk
  ·rw [←hf j (by omega)];exact hr j (by omega)
 rw [←Int.add_emod_emod,e2,e1,←e3]
 simp
theorem qJY (x:Nat) (hx:x<4294967296): -9223372036854775808≤sgW 2147483648 4294967296 x∧sgW 2147483648 4294967296 x≤9223372036854775807:=by
 unfold sgW;split<;>omega
theorem rY:tK (stB 2147483648 4294967296) (fun h k=>varB (zig (sgW 2147483648 4294967296 (rsS 4294967296 h k)))):=⟨fun h=>rfl,fun h k=>rfl⟩
theorem qAG.drewN {bf:(Nat→Nat)→Nat→List Bool} {w wr:World} {b:Nat} {s:ByteArray} {g n k a:Nat} {e1:Int} {f:Nat→Nat} (T:qAG bf w wr b s g n k a e1 f) (hb:b<wr.heap.size) (m:Nat):qAG bf w (wr.drewN m) b s g n k a e1 f:=
 ⟨T.row.ofBlock rfl,T.rd.below (w':=wr.drewN m) ⟨rfl,rfl,rfl,Nat.le_refl _,fun _ _=>rfl⟩ hb,⟨T.only.os,T.only.tape,T.only.output,T.only.size,T.only.block,T.only.cell,T.only.frozen⟩,T.size,T.rng,T.full⟩
theorem gH (v:Value) (bs:List Nat) (n:Nat) (w:World) (h:jW w v bs) (hb:∀n∈bs,n<256) (hl:bs.length≤1000000000000) (hn:n≤4096):
  Calls Tryz.prog 112 #[v,.int .i64 n] w (nL (stB 2147483648 4294967296) bs n w):=by
 have H:=qA h
 have HB:=qA hb
 have HL:=qA hl
 have hmk:=zK n hn
 clear h hb hl
 go_enter Tryz.func112,Tryz.ntmps112
 go_wp2_with fail
 refine (kJ w v bs H.out).mono ?_
 rintro e w1 ⟨rfl,hw1⟩
 have HR:Hid (Rd w1 w.heap.size 0 (qG bs) 0 0∧w1.heap.size=w.heap.size+1∧Below w.heap.size w w1):=by
  rw [hw1];exact ⟨xZ w bs HL.out,by simp,(Below.refl _ _).alloc (Nat.le_refl _) _⟩
 clear hw1
 obtain ⟨b,hbw⟩:∃b,w.heap.size=b:=⟨_,rfl⟩
 have HBW:=qA hbw
 obtain ⟨g,hg⟩:∃g,w1.heap.size=g:=⟨_,rfl⟩
 have HA:Hid (qAG (stB 2147483648 4294967296) w1 (w1.alloc (.cells (Array.replicate n (Value.int .u32 0)) 57)) b (qG bs) g n 0 0 0 (fun _=>0)):=by
  have hA:Below w1.heap.size w1 (w1.alloc (.cells (Array.replicate n (Value.int .u32 0)) 57)):=(Below.refl _ w1).alloc (Nat.le_refl _) _
  have hbs:b<w1.heap.size:=by have:=HR.out.2.1;omega
  refine ⟨by rw [←hg];exact vO.new w1 n _,by rw [←hbw];exact HR.out.1.below hA (by omega),⟨hA.os,hA.tape,hA.output,hA.size,fun k hk _=>hA.block k hk,fun j _=>World.cell?_of_block (hA.block b hbs),fun j=>World.frozen?_of_block (w:=w1) (a:=⟨b,j,none⟩) (hA.block b hbs)⟩,by rw [←hg];simp,fun i hi=>by omega,fun h hB=>⟨rfl,by simp [stB],fun i hi=>by omega⟩⟩
 have hgb:g≠b:=by have:=HR.out.2.1;omega
 have HG:Hid (w1.heap.size≤g):=Nat.le_of_eq hg
 rw [hbw]
 clear hbw
 go_upto_region 3 with fail
 (try rw [hg])
 clear hg hmk
 generalize w1.alloc (.cells (Array.replicate n (Value.int .u32 0)) 57)=W0 at*
 go_wp2_with fail
 go_loopw [15] (fun t15 wr=>∃(k a:Nat) (e1:Int) (f:Nat→Nat),t15= .int .i64 (k:Int)∧Hid (k≤n∧qAG (stB 2147483648 4294967296) w1 wr b (qG bs) g n k a e1 f)) (fun t15 _=>n-(intOf t15).toNat)
 case atStart=>exact ⟨0,0,0,_,rfl,Nat.zero_le _,HA.out⟩
 case round=>
  obtain ⟨k,a,e1,f,rfl,hI⟩:=hrel
  by_cases hlt:k<n
  ·have HROW:Hid (jC wr (some ⟨g,0,none⟩) k f∧∀i,i<k→f i<4294967296):=⟨fun _=>⟨g,0,rfl,fun i hi=>by rw [Nat.zero_add,hI.out.2.row.cell i (by omega),if_pos hi]⟩,hI.out.2.rng⟩
   have HBG:Hid (b<wr.heap.size):=by have:=hI.out.2.size;have:=HR.out.2.1;have:=HG.out;have:=HBW.out;exact (by omega:b<wr.heap.size)
   go_wp2_with fail
   refine (vS (some ⟨g,0,none⟩) k n f wr HROW.out.1 (by omega) (by omega) HROW.out.2).mono ?_
   rintro e wd ⟨rfl,m,hwd⟩
   have HL1:Hid (qAG (stB 2147483648 4294967296) w1 wd b (qG bs) g n k a e1 f):=by rw [hwd];exact hI.out.2.drewN HBG.out m
   have heM:exS 4294967296 f k<4294967296:=lK _ _ (by decide) k HROW.out.2
   obtain ⟨E,hE⟩:∃E,exS 4294967296 f k=E:=⟨_,rfl⟩
   rw [hE] at heM⊢
   have HE:=qA hE
   clear hE hwd
   go_wp2_with fail
   refine (qC9 b 0 (qG bs) a e1 wd HL1.out.rd).mono ?_
   rintro e w2 ⟨y,a',e2,rfl,hy,T⟩
   obtain ⟨Y,hY',_⟩:=qGH 4294967296 (by decide) y 4294967296 rfl
   obtain ⟨x,hX',hx⟩:=qGH 4294967296 (by decide) ((E:Int)+(Y:Int)) 4294967296 rfl
   have hY:IntKind.u32.wrap y=(Y:Int):=by rw [IntKind.wrap_u32];exact hY'
   have hX:IntKind.u32.wrap ((E:Int)+(Y:Int))=(x:Int):=by rw [IntKind.wrap_u32];exact hX'
   have HX:Hid ((x:Int)=((E:Int)+y)%4294967296):=qD1 4294967296 E y Y x hY' hX'
   clear hX' hY'
   have NX:=qAG.next rY hlt HG.out hgb HL1.out x hx T.rd T.only (fun he h r hh hk hr=>by
    have h0:=qJY (rsS 4294967296 h k) (qCH _ _ (by decide) k)
    obtain ⟨h1,h2,h3⟩:=T.hit he _ _ h0 hr
    refine ⟨?_,h2,h3⟩
    have h4:=sQ 2147483648 4294967296 (by decide) (by decide) f h k hh HROW.out.2 hk 4294967296 rfl
    have h5:=HX.out
    rw [h1,←HE.out,h4] at h5
    exact Int.ofNat.inj h5)
   have RW:=HL1.out.row.ofBlock (T.only.block g HL1.out.size hgb)
   have c2:w2.cell? ⟨g,k,none⟩=some (.int .u32 0):=by rw [RW.cell k hlt,if_neg (by omega)];rfl
   have c3:=RW.fz k
   have HNX:=qA NX
   clear NX RW T
   go_wp2_with fail
   go_roundw
   case rel=>exact ⟨k+1,a',e2,_,by simp,hlt,HNX.out⟩
   case measure=>simp [intOf];omega
  ·have hk:k=n:=by have:=hI.out.1;omega
   have hI':Hid (qAG (stB 2147483648 4294967296) w1 wr b (qG bs) g n n a e1 f):=by have:=hI.out.2;rw [hk] at this;exact this
   go_wp2_with fail
   go_ret2
   refine ⟨g,f,?_,rfl,hI'.out.row,hI'.out.rng,?_,fun h hB i hi=>?_⟩
   ·have:=HR.out.2.1;have:=HG.out;omega
   ·have:=hI'.out.only.below (B:=w.heap.size) (by have:=HBW.out;omega) (by have:=HR.out.2.1;omega)
    exact HR.out.2.2.trans this
   ·exact (hI'.out.full h (by rw [qV bs HB.out];exact hB)).2.2 i hi
end Go.Proofs.YtkpmalfigmimaaaGreatDoor
namespace Go.Proofs.YtkpmalfigmimaaaGreatDoor
open Go.RowKit
open M
theorem qA0 {a b:List Nat} (ha:∀n∈a,n<256) (hb:∀n∈b,n<256) (h:(qG a).toList=(qG b).toList):a=b:=by
 have h1:(qG a).data.toList=(qG b).data.toList:=by
  unfold qG at h⊢
  rw [Lib.strOfNums_toList,Lib.strOfNums_toList] at h
  exact h
 rw [←kY a ha,←kY b hb]
 unfold zS
 rw [h1]
theorem jO (v1 v2:Value) (a b:List Nat) (w:World) (h1:jW w v1 a) (h2:jW w v2 b) (ha:∀n∈a,n<256) (hb:∀n∈b,n<256):
  Calls Tryz.prog 100 #[v1,v2] w fun e w'=>e= .returned (.bool (decide (a=b)))∧w'=w:=by
 have hc1:=yJ w v1 a h1
 have hc2:=yJ w v2 b h2
 by_cases e:a=b
 ·subst e
  rw [decide_eq_true rfl]
  clear h1 h2
  go_enter Tryz.func100,Tryz.ntmps100
  go_wp2_with fail
  go_ret
  exact ⟨by simp,rfl⟩
 ·rw [decide_eq_false e]
  have hne:Hid (((qG a).toList==(qG b).toList)=false):=by show _=_;rw [beq_eq_false_iff_ne];exact fun h=>e (qA0 ha hb h)
  generalize qG a=sa at*
  generalize qG b=sb at*
  clear h1 h2 e
  go_enter Tryz.func100,Tryz.ntmps100
  go_wp2_with fail
  go_ret
  exact ⟨by rw [←hne.out];rfl,rfl⟩
theorem nO (f g:Nat→Nat) (v i k:Nat) (h:∀j,i≤j→j<i+k→f j=g j):qI f v i k=qI g v i k:=by
 induction k generalizing i with
 |zero=>rfl
 |succ k ih=>rw [qI,qI,h i (Nat.le_refl _) (by omega),ih (i+1) fun j h1 h2=>h j (by omega) (by omega)]
theorem qBI (f g:Nat→Nat) (u i k:Nat) (h:∀j,i≤j→j<i+k→f j=g j):rnB 32 f u i k=rnB 32 g u i k:=by
 induction u generalizing i k with
 |zero=>rfl
 |succ u ih=>
  match k with
  |0=>rfl
  |k+1=>
   have hle:=zG g (g i) i (k+1)
   rw [rnB,rnB,h i (Nat.le_refl _) (by omega),nO f g (g i) i (k+1) h,ih _ _ fun j h1 h2=>h j (by omega) (by omega)]
theorem jK.lay {k n:Nat} {h:Nat→Nat} {bs:List Nat} (H:jK k n h bs):nA (fun f=>yF k f n) bs n h:=by
 refine ⟨H.1,H.2.1,fun h0=>?_⟩
 obtain ⟨l,h1,h2⟩:=H.2.2 h0
 exact ⟨l,_,h1,by rw [←h2,rbits_packed]⟩
def uD (k:Nat) (bs:List Nat) (n:Nat) (w:World) (e:Ending) (w':World):Prop:=
 (∃c:Int,c≠0∧e= .returned (.tuple #[.slice none 0 0,.int .i64 c])∧Below w.heap.size w w'∧∀h,jK k n h bs→False)∨
 ∃(v:Value) (f:Nat→Nat),e= .returned (.tuple #[v,.int .i64 0])∧qEJ w.heap.size w f n v w'∧(∀i,i<n→f i<4294967296)∧∀h,jK k n h bs→∀i,i<n→f i=h i
theorem yP {k:Nat} {bs:List Nat} {n:Nat} {w:World} {e:Ending} {w':World} {bf:(Nat→Nat)→Option (List Bool)} (hb:(fun f=>yF k f n)=bf) (h:gV bf bs n w e w'):uD k bs n w e w':=by
 subst hb
 rcases h with ⟨c,h1,h2,h3,h4⟩|⟨v,f,h1,h2,h3,h4⟩
 ·exact .inl ⟨c,h1,h2,h3,fun h hP=>h4 h hP.lay⟩
 ·exact .inr ⟨v,f,h1,h2,h3,fun h hP=>h4 h hP.lay⟩
theorem qBQ {bs:List Nat} {n:Nat} {w:World} {e:Ending} {w':World} (hn:n≤4096) (h:nJ w bs n e w'):uD 2 bs n w e w':=by
 have key:∀h,jK 2 n h bs→gT bs h n:=fun h hP=>by
  refine ⟨hP.1,?_⟩
  by_cases h0:n=0
  ·rw [hP.2.1 h0,h0];exact List.eq_nil_of_length_eq_zero (by rw [packed_length];simp [cbn])
  ·obtain ⟨l,h1,h2⟩:=hP.2.2 (by omega)
   simp only [yF,Option.some.injEq] at h1
   rw [h1];exact h2
 rcases h with ⟨h1,h2,h3⟩|⟨g,f,h1,h2,h3,h4,h5,h6⟩
 ·exact .inl ⟨71,by decide,h1,h2,fun h hP=>h3 ⟨h,key h hP⟩⟩
 ·exact .inr ⟨_,f,h1,⟨h3.owns h2 hn,h4,Nat.le_refl _⟩,h5.1,fun h hP=>h6 h (vX (key h hP))⟩
def qQ (k:Nat) (bs:List Nat) (n:Nat) (w:World) (e:Ending) (w':World):Prop:=
 (e= .returned (.tuple #[.slice none 0 0,.int .i64 83])∧Below w.heap.size w w'∧∀h,jK k n h bs→False)∨
 ∃(v:Value) (f:Nat→Nat),e= .returned (.tuple #[v,.int .i64 0])∧qEJ w.heap.size w f n v w'∧jK k n f bs∧∀h,jK k n h bs→∀i,i<n→f i=h i
theorem rP (k:Nat) (f g:Nat→Nat) (n:Nat) (h:∀i,i<n→f i=g i):yF k f n=yF k g n:=by
 unfold yF
 split
 ·rw [fJ 32 f g n h]
 ·rw [cbn_congr 32 5 f g n h]
 ·rw [qBI f g n 0 n fun j _ hj=>h j (by omega)]
 ·unfold dcO;rw [sX f g n h,lG 32 f g n h]
 ·rw [fV 2147483648 4294967296 f g n h]
 ·rw [F32.dm_congr 32 f g n h]
 ·rfl
theorem jK.congr {k n:Nat} {f g:Nat→Nat} {bs:List Nat} (H:jK k n f bs) (h:∀i,i<n→f i=g i):jK k n g bs:=
 ⟨fun i hi=>by rw [←h i hi];exact H.1 i hi,H.2.1,fun h0=>by
  obtain ⟨l,h1,h2⟩:=H.2.2 h0
  exact ⟨l,by rw [←rP k f g n h];exact h1,h2⟩⟩
end Go.Proofs.YtkpmalfigmimaaaGreatDoor
namespace Go.Proofs.YtkpmalfigmimaaaGreatDoor
open Go.RowKit
open M
theorem qAO (v:Value) (bs:List Nat) (n:Nat) (w:World) (hv:jW w v bs) (hb:∀n∈bs,n<256) (hl:bs.length≤1000000000000) (hn:n≤4096) (hT:qT w)
  (hcall:∀w1,Below w.heap.size w w1→Calls Tryz.prog 108 #[v,.int .i64 n] w1 (uD 1 bs n w1)):
  Calls Tryz.prog 82 #[.int .i64 1,v,.int .i64 n] w (qQ 1 bs n w):=by
 have hf:Instr.findNow (.int .i64) (.int .i64 1) zL.toList 0=some (some (0,.func (.func 108) #[] #[])):=by kernel_rfl
 have HV:=qA hv
 have HBB:=qA hb
 have HT:=qA hT
 have HC:=qA hcall
 have HAG:=qA (fun p cap f w1 h1 h2 h3 h4=>xW 1 p n cap f w1 (by omega) (by omega) h1 hn h2 h3 h4)
 clear hv hb hT hcall hl
 go_enter Tryz.func82,Tryz.ntmps82
 go_wp2_with fail
 refine (jT w).mono ?_
 rintro e w1 ⟨rfl,b1,B1⟩
 have hlk:=jJ (P:=Tryz.prog) (w:=w1) _ _ _ _ _ _ 1 _ _ Tryz.underlying158 Tryz.underlying3 b1 hf
 have HB1:=qA B1
 clear B1 b1 hf
 go_wp2_with fail
 refine (HC.out w1 HB1.out).mono ?_
 intro e w2 hE
 rcases hE with ⟨c,hc,rfl,B2,hno⟩|⟨u,f,rfl,hU,hr,hfull⟩
 ·have hcn:(c !=0)=true:=by rw [bne_iff_ne];exact hc
  have HFIN:Hid (qQ 1 bs n w (.returned (.tuple #[.slice none 0 0,.int .i64 83])) w2):= .inl ⟨rfl,HB1.out.trans (B2.mono HB1.out.size),hno⟩
  clear hc B2 hno
  go_wp2_with fail
  go_ret2
  exact HFIN.out
 ·obtain ⟨p,cap,rfl,hcap,hrow⟩:=hU.row
  have HU:=qA hU
  have HRR:=qA (And.intro hr hfull)
  have hB2:=hU.2.1
  have HB2:Hid (Below w.heap.size w w2):=HB1.out.trans (hB2.mono HB1.out.size)
  have HAGN:=qA (HAG.out p cap f w2 hrow hcap hr (HT.out.below HB2.out))
  clear hU hr hfull hrow hB2
  go_wp2_with fail
  refine HAGN.out.mono ?_
  intro e w3 hE
  rcases hE with ⟨px,cx,bx,rfl,hx,hbx,B3,hP,huq⟩|⟨rfl,B3,hno⟩
  ·have HB3:Hid (Below w.heap.size w w3):=HB2.out.trans (B3.mono HB2.out.size)
   have HEQ:=qA (jO (.slice px bx.length cx) v bx bs w3 hx (qD HV.out HB3.out) hbx HBB.out)
   by_cases e:bx=bs
   ·have HFIN:Hid (qQ 1 bs n w (.returned (.tuple #[.slice p n cap,.int .i64 0])) w3):=by
     refine .inr ⟨_,f,rfl,?_,by rw [←e];exact hP,HRR.out.2⟩
     have h1:=HU.out.1
     have h2:=HB1.out.size
     refine ⟨(jE h1 fun g hg1 hg2=>B3.block g hg2).mono h2,HB3.out,Nat.le_refl _⟩
    rw [decide_eq_true e] at HEQ
    clear hx hbx B3 hP huq e
    go_wp2_with fail
    refine HEQ.out.mono ?_
    rintro e w4 ⟨rfl,h4⟩
    have h4:=h4.symm
    subst h4
    go_wp2_with fail
    go_ret2
    exact HFIN.out
   ·have HFIN:Hid (qQ 1 bs n w (.returned (.tuple #[.slice none 0 0,.int .i64 83])) w3):=by
     refine .inl ⟨rfl,HB3.out,fun h hPh=>e ?_⟩
     exact (huq bs (hPh.congr fun i hi=>(HRR.out.2 h hPh i hi).symm)).symm
    rw [decide_eq_false e] at HEQ
    clear hx hbx B3 hP huq e
    go_wp2_with fail
    refine HEQ.out.mono ?_
    rintro e w4 ⟨rfl,h4⟩
    have h4:=h4.symm
    subst h4
    go_wp2_with fail
    go_ret2
    exact HFIN.out
  ·have HFIN:Hid (qQ 1 bs n w (.returned (.tuple #[.slice none 0 0,.int .i64 83])) w3):=by
    refine .inl ⟨rfl,HB2.out.trans (B3.mono HB2.out.size),fun h hPh=>?_⟩
    exact hno bs (hPh.congr fun i hi=>(HRR.out.2 h hPh i hi).symm)
   clear B3 hno
   go_wp2_with fail
   go_ret2
   exact HFIN.out
theorem qAP (v:Value) (bs:List Nat) (n:Nat) (w:World) (hv:jW w v bs) (hb:∀n∈bs,n<256) (hl:bs.length≤1000000000000) (hn:n≤4096) (hT:qT w)
  (hcall:∀w1,Below w.heap.size w w1→Calls Tryz.prog 109 #[v,.int .i64 n] w1 (uD 2 bs n w1)):
  Calls Tryz.prog 82 #[.int .i64 2,v,.int .i64 n] w (qQ 2 bs n w):=by
 have hf:Instr.findNow (.int .i64) (.int .i64 2) zL.toList 0=some (some (1,.func (.func 109) #[] #[])):=by kernel_rfl
 have HV:=qA hv
 have HBB:=qA hb
 have HT:=qA hT
 have HC:=qA hcall
 have HAG:=qA (fun p cap f w1 h1 h2 h3 h4=>xW 2 p n cap f w1 (by omega) (by omega) h1 hn h2 h3 h4)
 clear hv hb hT hcall hl
 go_enter Tryz.func82,Tryz.ntmps82
 go_wp2_with fail
 refine (jT w).mono ?_
 rintro e w1 ⟨rfl,b1,B1⟩
 have hlk:=jJ (P:=Tryz.prog) (w:=w1) _ _ _ _ _ _ 2 _ _ Tryz.underlying158 Tryz.underlying3 b1 hf
 have HB1:=qA B1
 clear B1 b1 hf
 go_wp2_with fail
 refine (HC.out w1 HB1.out).mono ?_
 intro e w2 hE
 rcases hE with ⟨c,hc,rfl,B2,hno⟩|⟨u,f,rfl,hU,hr,hfull⟩
 ·have hcn:(c !=0)=true:=by rw [bne_iff_ne];exact hc
  have HFIN:Hid (qQ 2 bs n w (.returned (.tuple #[.slice none 0 0,.int .i64 83])) w2):= .inl ⟨rfl,HB1.out.trans (B2.mono HB1.out.size),hno⟩
  clear hc B2 hno
  go_wp2_with fail
  go_ret2
  exact HFIN.out
 ·obtain ⟨p,cap,rfl,hcap,hrow⟩:=hU.row
  have HU:=qA hU
  have HRR:=qA (And.intro hr hfull)
  have hB2:=hU.2.1
  have HB2:Hid (Below w.heap.size w w2):=HB1.out.trans (hB2.mono HB1.out.size)
  have HAGN:=qA (HAG.out p cap f w2 hrow hcap hr (HT.out.below HB2.out))
  clear hU hr hfull hrow hB2
  go_wp2_with fail
  refine HAGN.out.mono ?_
  intro e w3 hE
  rcases hE with ⟨px,cx,bx,rfl,hx,hbx,B3,hP,huq⟩|⟨rfl,B3,hno⟩
  ·have HB3:Hid (Below w.heap.size w w3):=HB2.out.trans (B3.mono HB2.out.size)
   have HEQ:=qA (jO (.slice px bx.length cx) v bx bs w3 hx (qD HV.out HB3.out) hbx HBB.out)
   by_cases e:bx=bs
   ·have HFIN:Hid (qQ 2 bs n w (.returned (.tuple #[.slice p n cap,.int .i64 0])) w3):=by
     refine .inr ⟨_,f,rfl,?_,by rw [←e];exact hP,HRR.out.2⟩
     have h1:=HU.out.1
     have h2:=HB1.out.size
     refine ⟨(jE h1 fun g hg1 hg2=>B3.block g hg2).mono h2,HB3.out,Nat.le_refl _⟩
    rw [decide_eq_true e] at HEQ
    clear hx hbx B3 hP huq e
    go_wp2_with fail
    refine HEQ.out.mono ?_
    rintro e w4 ⟨rfl,h4⟩
    have h4:=h4.symm
    subst h4
    go_wp2_with fail
    go_ret2
    exact HFIN.out
   ·have HFIN:Hid (qQ 2 bs n w (.returned (.tuple #[.slice none 0 0,.int .i64 83])) w3):=by
     refine .inl ⟨rfl,HB3.out,fun h hPh=>e ?_⟩
     exact (huq bs (hPh.congr fun i hi=>(HRR.out.2 h hPh i hi).symm)).symm
    rw [decide_eq_false e] at HEQ
    clear hx hbx B3 hP huq e
    go_wp2_with fail
    refine HEQ.out.mono ?_
    rintro e w4 ⟨rfl,h4⟩
    have h4:=h4.symm
    subst h4
    go_wp2_with fail
    go_ret2
    exact HFIN.out
  ·have HFIN:Hid (qQ 2 bs n w (.returned (.tuple #[.slice none 0 0,.int .i64 83])) w3):=by
    refine .inl ⟨rfl,HB2.out.trans (B3.mono HB2.out.size),fun h hPh=>?_⟩
    exact hno bs (hPh.congr fun i hi=>(HRR.out.2 h hPh i hi).symm)
   clear B3 hno
   go_wp2_with fail
   go_ret2
   exact HFIN.out
theorem qAQ (v:Value) (bs:List Nat) (n:Nat) (w:World) (hv:jW w v bs) (hb:∀n∈bs,n<256) (hl:bs.length≤1000000000000) (hn:n≤4096) (hT:qT w)
  (hcall:∀w1,Below w.heap.size w w1→Calls Tryz.prog 110 #[v,.int .i64 n] w1 (uD 3 bs n w1)):
  Calls Tryz.prog 82 #[.int .i64 3,v,.int .i64 n] w (qQ 3 bs n w):=by
 have hf:Instr.findNow (.int .i64) (.int .i64 3) zL.toList 0=some (some (2,.func (.func 110) #[] #[])):=by kernel_rfl
 have HV:=qA hv
 have HBB:=qA hb
 have HT:=qA hT
 have HC:=qA hcall
 have HAG:=qA (fun p cap f w1 h1 h2 h3 h4=>xW 3 p n cap f w1 (by omega) (by omega) h1 hn h2 h3 h4)
 clear hv hb hT hcall hl
 go_enter Tryz.func82,Tryz.ntmps82
 go_wp2_with fail
 refine (jT w).mono ?_
 rintro e w1 ⟨rfl,b1,B1⟩
 have hlk:=jJ (P:=Tryz.prog) (w:=w1) _ _ _ _ _ _ 3 _ _ Tryz.underlying158 Tryz.underlying3 b1 hf
 have HB1:=qA B1
 clear B1 b1 hf
 go_wp2_with fail
 refine (HC.out w1 HB1.out).mono ?_
 intro e w2 hE
 rcases hE with ⟨c,hc,rfl,B2,hno⟩|⟨u,f,rfl,hU,hr,hfull⟩
 ·have hcn:(c !=0)=true:=by rw [bne_iff_ne];exact hc
  have HFIN:Hid (qQ 3 bs n w (.returned (.tuple #[.slice none 0 0,.int .i64 83])) w2):= .inl ⟨rfl,HB1.out.trans (B2.mono HB1.out.size),hno⟩
  clear hc B2 hno
  go_wp2_with fail
  go_ret2
  exact HFIN.out
 ·obtain ⟨p,cap,rfl,hcap,hrow⟩:=hU.row
  have HU:=qA hU
  have HRR:=qA (And.intro hr hfull)
  have hB2:=hU.2.1
  have HB2:Hid (Below w.heap.size w w2):=HB1.out.trans (hB2.mono HB1.out.size)
  have HAGN:=qA (HAG.out p cap f w2 hrow hcap hr (HT.out.below HB2.out))
  clear hU hr hfull hrow hB2
  go_wp2_with fail
  refine HAGN.out.mono ?_
  intro e w3 hE
  rcases hE with ⟨px,cx,bx,rfl,hx,hbx,B3,hP,huq⟩|⟨rfl,B3,hno⟩
  ·have HB3:Hid (Below w.heap.size w w3):=HB2.out.trans (B3.mono HB2.out.size)
   have HEQ:=qA (jO (.slice px bx.length cx) v bx bs w3 hx (qD HV.out HB3.out) hbx HBB.out)
   by_cases e:bx=bs
   ·have HFIN:Hid (qQ 3 bs n w (.returned (.tuple #[.slice p n cap,.int .i64 0])) w3):=by
     refine .inr ⟨_,f,rfl,?_,by rw [←e];exact hP,HRR.out.2⟩
     have h1:=HU.out.1
     have h2:=HB1.out.size
     refine ⟨(jE h1 fun g hg1 hg2=>B3.block g hg2).mono h2,HB3.out,Nat.le_refl _⟩
    rw [decide_eq_true e] at HEQ
    clear hx hbx B3 hP huq e
    go_wp2_with fail
    refine HEQ.out.mono ?_
    rintro e w4 ⟨rfl,h4⟩
    have h4:=h4.symm
    subst h4
    go_wp2_with fail
    go_ret2
    exact HFIN.out
   ·have HFIN:Hid (qQ 3 bs n w (.returned (.tuple #[.slice none 0 0,.int .i64 83])) w3):=by
     refine .inl ⟨rfl,HB3.out,fun h hPh=>e ?_⟩
     exact (huq bs (hPh.congr fun i hi=>(HRR.out.2 h hPh i hi).symm)).symm
    rw [decide_eq_false e] at HEQ
    clear hx hbx B3 hP huq e
    go_wp2_with fail
    refine HEQ.out.mono ?_
    rintro e w4 ⟨rfl,h4⟩
    have h4:=h4.symm
    subst h4
    go_wp2_with fail
    go_ret2
    exact HFIN.out
  ·have HFIN:Hid (qQ 3 bs n w (.returned (.tuple #[.slice none 0 0,.int .i64 83])) w3):=by
    refine .inl ⟨rfl,HB2.out.trans (B3.mono HB2.out.size),fun h hPh=>?_⟩
    exact hno bs (hPh.congr fun i hi=>(HRR.out.2 h hPh i hi).symm)
   clear B3 hno
   go_wp2_with fail
   go_ret2
   exact HFIN.out
theorem qAR (v:Value) (bs:List Nat) (n:Nat) (w:World) (hv:jW w v bs) (hb:∀n∈bs,n<256) (hl:bs.length≤1000000000000) (hn:n≤4096) (hT:qT w)
  (hcall:∀w1,Below w.heap.size w w1→Calls Tryz.prog 111 #[v,.int .i64 n] w1 (uD 4 bs n w1)):
  Calls Tryz.prog 82 #[.int .i64 4,v,.int .i64 n] w (qQ 4 bs n w):=by
 have hf:Instr.findNow (.int .i64) (.int .i64 4) zL.toList 0=some (some (3,.func (.func 111) #[] #[])):=by kernel_rfl
 have HV:=qA hv
 have HBB:=qA hb
 have HT:=qA hT
 have HC:=qA hcall
 have HAG:=qA (fun p cap f w1 h1 h2 h3 h4=>xW 4 p n cap f w1 (by omega) (by omega) h1 hn h2 h3 h4)
 clear hv hb hT hcall hl
 go_enter Tryz.func82,Tryz.ntmps82
 go_wp2_with fail
 refine (jT w).mono ?_
 rintro e w1 ⟨rfl,b1,B1⟩
 have hlk:=jJ (P:=Tryz.prog) (w:=w1) _ _ _ _ _ _ 4 _ _ Tryz.underlying158 Tryz.underlying3 b1 hf
 have HB1:=qA B1
 clear B1 b1 hf
 go_wp2_with fail
 refine (HC.out w1 HB1.out).mono ?_
 intro e w2 hE
 rcases hE with ⟨c,hc,rfl,B2,hno⟩|⟨u,f,rfl,hU,hr,hfull⟩
 ·have hcn:(c !=0)=true:=by rw [bne_iff_ne];exact hc
  have HFIN:Hid (qQ 4 bs n w (.returned (.tuple #[.slice none 0 0,.int .i64 83])) w2):= .inl ⟨rfl,HB1.out.trans (B2.mono HB1.out.size),hno⟩
  clear hc B2 hno
  go_wp2_with fail
  go_ret2
  exact HFIN.out
 ·obtain ⟨p,cap,rfl,hcap,hrow⟩:=hU.row
  have HU:=qA hU
  have HRR:=qA (And.intro hr hfull)
  have hB2:=hU.2.1
  have HB2:Hid (Below w.heap.size w w2):=HB1.out.trans (hB2.mono HB1.out.size)
  have HAGN:=qA (HAG.out p cap f w2 hrow hcap hr (HT.out.below HB2.out))
  clear hU hr hfull hrow hB2
  go_wp2_with fail
  refine HAGN.out.mono ?_
  intro e w3 hE
  rcases hE with ⟨px,cx,bx,rfl,hx,hbx,B3,hP,huq⟩|⟨rfl,B3,hno⟩
  ·have HB3:Hid (Below w.heap.size w w3):=HB2.out.trans (B3.mono HB2.out.size)
   have HEQ:=qA (jO (.slice px bx.length cx) v bx bs w3 hx (qD HV.out HB3.out) hbx HBB.out)
   by_cases e:bx=bs
   ·have HFIN:Hid (qQ 4 bs n w (.returned (.tuple #[.slice p n cap,.int .i64 0])) w3):=by
     refine .inr ⟨_,f,rfl,?_,by rw [←e];exact hP,HRR.out.2⟩
     have h1:=HU.out.1
     have h2:=HB1.out.size
     refine ⟨(jE h1 fun g hg1 hg2=>B3.block g hg2).mono h2,HB3.out,Nat.le_refl _⟩
    rw [decide_eq_true e] at HEQ
    clear hx hbx B3 hP huq e
    go_wp2_with fail
    refine HEQ.out.mono ?_
    rintro e w4 ⟨rfl,h4⟩
    have h4:=h4.symm
    subst h4
    go_wp2_with fail
    go_ret2
    exact HFIN.out
   ·have HFIN:Hid (qQ 4 bs n w (.returned (.tuple #[.slice none 0 0,.int .i64 83])) w3):=by
     refine .inl ⟨rfl,HB3.out,fun h hPh=>e ?_⟩
     exact (huq bs (hPh.congr fun i hi=>(HRR.out.2 h hPh i hi).symm)).symm
    rw [decide_eq_false e] at HEQ
    clear hx hbx B3 hP huq e
    go_wp2_with fail
    refine HEQ.out.mono ?_
    rintro e w4 ⟨rfl,h4⟩
    have h4:=h4.symm
    subst h4
    go_wp2_with fail
    go_ret2
    exact HFIN.out
  ·have HFIN:Hid (qQ 4 bs n w (.returned (.tuple #[.slice none 0 0,.int .i64 83])) w3):=by
    refine .inl ⟨rfl,HB2.out.trans (B3.mono HB2.out.size),fun h hPh=>?_⟩
    exact hno bs (hPh.congr fun i hi=>(HRR.out.2 h hPh i hi).symm)
   clear B3 hno
   go_wp2_with fail
   go_ret2
   exact HFIN.out
theorem qAS (v:Value) (bs:List Nat) (n:Nat) (w:World) (hv:jW w v bs) (hb:∀n∈bs,n<256) (hl:bs.length≤1000000000000) (hn:n≤4096) (hT:qT w)
  (hcall:∀w1,Below w.heap.size w w1→Calls Tryz.prog 112 #[v,.int .i64 n] w1 (uD 5 bs n w1)):
  Calls Tryz.prog 82 #[.int .i64 5,v,.int .i64 n] w (qQ 5 bs n w):=by
 have hf:Instr.findNow (.int .i64) (.int .i64 5) zL.toList 0=some (some (4,.func (.func 112) #[] #[])):=by kernel_rfl
 have HV:=qA hv
 have HBB:=qA hb
 have HT:=qA hT
 have HC:=qA hcall
 have HAG:=qA (fun p cap f w1 h1 h2 h3 h4=>xW 5 p n cap f w1 (by omega) (by omega) h1 hn h2 h3 h4)
 clear hv hb hT hcall hl
 go_enter Tryz.func82,Tryz.ntmps82
 go_wp2_with fail
 refine (jT w).mono ?_
 rintro e w1 ⟨rfl,b1,B1⟩
 have hlk:=jJ (P:=Tryz.prog) (w:=w1) _ _ _ _ _ _ 5 _ _ Tryz.underlying158 Tryz.underlying3 b1 hf
 have HB1:=qA B1
 clear B1 b1 hf
 go_wp2_with fail
 refine (HC.out w1 HB1.out).mono ?_
 intro e w2 hE
 rcases hE with ⟨c,hc,rfl,B2,hno⟩|⟨u,f,rfl,hU,hr,hfull⟩
 ·have hcn:(c !=0)=true:=by rw [bne_iff_ne];exact hc
  have HFIN:Hid (qQ 5 bs n w (.returned (.tuple #[.slice none 0 0,.int .i64 83])) w2):= .inl ⟨rfl,HB1.out.trans (B2.mono HB1.out.size),hno⟩
  clear hc B2 hno
  go_wp2_with fail
  go_ret2
  exact HFIN.out
 ·obtain ⟨p,cap,rfl,hcap,hrow⟩:=hU.row
  have HU:=qA hU
  have HRR:=qA (And.intro hr hfull)
  have hB2:=hU.2.1
  have HB2:Hid (Below w.heap.size w w2):=HB1.out.trans (hB2.mono HB1.out.size)
  have HAGN:=qA (HAG.out p cap f w2 hrow hcap hr (HT.out.below HB2.out))
  clear hU hr hfull hrow hB2
  go_wp2_with fail
  refine HAGN.out.mono ?_
  intro e w3 hE
  rcases hE with ⟨px,cx,bx,rfl,hx,hbx,B3,hP,huq⟩|⟨rfl,B3,hno⟩
  ·have HB3:Hid (Below w.heap.size w w3):=HB2.out.trans (B3.mono HB2.out.size)
   have HEQ:=qA (jO (.slice px bx.length cx) v bx bs w3 hx (qD HV.out HB3.out) hbx HBB.out)
   by_cases e:bx=bs
   ·have HFIN:Hid (qQ 5 bs n w (.returned (.tuple #[.slice p n cap,.int .i64 0])) w3):=by
     refine .inr ⟨_,f,rfl,?_,by rw [←e];exact hP,HRR.out.2⟩
     have h1:=HU.out.1
     have h2:=HB1.out.size
     refine ⟨(jE h1 fun g hg1 hg2=>B3.block g hg2).mono h2,HB3.out,Nat.le_refl _⟩
    rw [decide_eq_true e] at HEQ
    clear hx hbx B3 hP huq e
    go_wp2_with fail
    refine HEQ.out.mono ?_
    rintro e w4 ⟨rfl,h4⟩
    have h4:=h4.symm
    subst h4
    go_wp2_with fail
    go_ret2
    exact HFIN.out
   ·have HFIN:Hid (qQ 5 bs n w (.returned (.tuple #[.slice none 0 0,.int .i64 83])) w3):=by
     refine .inl ⟨rfl,HB3.out,fun h hPh=>e ?_⟩
     exact (huq bs (hPh.congr fun i hi=>(HRR.out.2 h hPh i hi).symm)).symm
    rw [decide_eq_false e] at HEQ
    clear hx hbx B3 hP huq e
    go_wp2_with fail
    refine HEQ.out.mono ?_
    rintro e w4 ⟨rfl,h4⟩
    have h4:=h4.symm
    subst h4
    go_wp2_with fail
    go_ret2
    exact HFIN.out
  ·have HFIN:Hid (qQ 5 bs n w (.returned (.tuple #[.slice none 0 0,.int .i64 83])) w3):=by
    refine .inl ⟨rfl,HB2.out.trans (B3.mono HB2.out.size),fun h hPh=>?_⟩
    exact hno bs (hPh.congr fun i hi=>(HRR.out.2 h hPh i hi).symm)
   clear B3 hno
   go_wp2_with fail
   go_ret2
   exact HFIN.out
theorem qAT (v:Value) (bs:List Nat) (n:Nat) (w:World) (hv:jW w v bs) (hb:∀n∈bs,n<256) (hl:bs.length≤1000000000000) (hn:n≤4096) (hT:qT w)
  (hcall:∀w1,Below w.heap.size w w1→Calls Tryz.prog 113 #[v,.int .i64 n] w1 (uD 6 bs n w1)):
  Calls Tryz.prog 82 #[.int .i64 6,v,.int .i64 n] w (qQ 6 bs n w):=by
 have hf:Instr.findNow (.int .i64) (.int .i64 6) zL.toList 0=some (some (5,.func (.func 113) #[] #[])):=by kernel_rfl
 have HV:=qA hv
 have HBB:=qA hb
 have HT:=qA hT
 have HC:=qA hcall
 have HAG:=qA (fun p cap f w1 h1 h2 h3 h4=>xW 6 p n cap f w1 (by omega) (by omega) h1 hn h2 h3 h4)
 clear hv hb hT hcall hl
 go_enter Tryz.func82,Tryz.ntmps82
 go_wp2_with fail
 refine (jT w).mono ?_
 rintro e w1 ⟨rfl,b1,B1⟩
 have hlk:=jJ (P:=Tryz.prog) (w:=w1) _ _ _ _ _ _ 6 _ _ Tryz.underlying158 Tryz.underlying3 b1 hf
 have HB1:=qA B1
 clear B1 b1 hf
 go_wp2_with fail
 refine (HC.out w1 HB1.out).mono ?_
 intro e w2 hE
 rcases hE with ⟨c,hc,rfl,B2,hno⟩|⟨u,f,rfl,hU,hr,hfull⟩
 ·have hcn:(c !=0)=true:=by rw [bne_iff_ne];exact hc
  have HFIN:Hid (qQ 6 bs n w (.returned (.tuple #[.slice none 0 0,.int .i64 83])) w2):= .inl ⟨rfl,HB1.out.trans (B2.mono HB1.out.size),hno⟩
  clear hc B2 hno
  go_wp2_with fail
  go_ret2
  exact HFIN.out
 ·obtain ⟨p,cap,rfl,hcap,hrow⟩:=hU.row
  have HU:=qA hU
  have HRR:=qA (And.intro hr hfull)
  have hB2:=hU.2.1
  have HB2:Hid (Below w.heap.size w w2):=HB1.out.trans (hB2.mono HB1.out.size)
  have HAGN:=qA (HAG.out p cap f w2 hrow hcap hr (HT.out.below HB2.out))
  clear hU hr hfull hrow hB2
  go_wp2_with fail
  refine HAGN.out.mono ?_
  intro e w3 hE
  rcases hE with ⟨px,cx,bx,rfl,hx,hbx,B3,hP,huq⟩|⟨rfl,B3,hno⟩
  ·have HB3:Hid (Below w.heap.size w w3):=HB2.out.trans (B3.mono HB2.out.size)
   have HEQ:=qA (jO (.slice px bx.length cx) v bx bs w3 hx (qD HV.out HB3.out) hbx HBB.out)
   by_cases e:bx=bs
   ·have HFIN:Hid (qQ 6 bs n w (.returned (.tuple #[.slice p n cap,.int .i64 0])) w3):=by
     refine .inr ⟨_,f,rfl,?_,by rw [←e];exact hP,HRR.out.2⟩
     have h1:=HU.out.1
     have h2:=HB1.out.size
     refine ⟨(jE h1 fun g hg1 hg2=>B3.block g hg2).mono h2,HB3.out,Nat.le_refl _⟩
    rw [decide_eq_true e] at HEQ
    clear hx hbx B3 hP huq e
    go_wp2_with fail
    refine HEQ.out.mono ?_
    rintro e w4 ⟨rfl,h4⟩
    have h4:=h4.symm
    subst h4
    go_wp2_with fail
    go_ret2
    exact HFIN.out
   ·have HFIN:Hid (qQ 6 bs n w (.returned (.tuple #[.slice none 0 0,.int .i64 83])) w3):=by
     refine .inl ⟨rfl,HB3.out,fun h hPh=>e ?_⟩
     exact (huq bs (hPh.congr fun i hi=>(HRR.out.2 h hPh i hi).symm)).symm
    rw [decide_eq_false e] at HEQ
    clear hx hbx B3 hP huq e
    go_wp2_with fail
    refine HEQ.out.mono ?_
    rintro e w4 ⟨rfl,h4⟩
    have h4:=h4.symm
    subst h4
    go_wp2_with fail
    go_ret2
    exact HFIN.out
  ·have HFIN:Hid (qQ 6 bs n w (.returned (.tuple #[.slice none 0 0,.int .i64 83])) w3):=by
    refine .inl ⟨rfl,HB2.out.trans (B3.mono HB2.out.size),fun h hPh=>?_⟩
    exact hno bs (hPh.congr fun i hi=>(HRR.out.2 h hPh i hi).symm)
   clear B3 hno
   go_wp2_with fail
   go_ret2
   exact HFIN.out
theorem rN (k:Nat) (v:Value) (bs:List Nat) (n:Nat) (w:World) (hk1:1≤k) (hk6:k≤6) (hv:jW w v bs) (hb:∀n∈bs,n<256) (hl:bs.length≤1000000000000) (hn:n≤4096) (hT:qT w):
  Calls Tryz.prog 82 #[.int .i64 k,v,.int .i64 n] w (qQ k bs n w):=by
 obtain rfl|rfl|rfl|rfl|rfl|rfl:k=1∨k=2∨k=3∨k=4∨k=5∨k=6:=by omega
 ·exact qAO v bs n w hv hb hl hn hT fun w1 B1=>(pN v bs n w1 (qD hv B1) hb hl hn).mono fun e w' hE=>yP rfl (uT (fun h=>rfl) hn hE)
 ·exact qAP v bs n w hv hb hl hn hT fun w1 B1=>(qA6 v bs n w1 (qD hv B1) hb hl hn (hT.below B1)).mono fun e w' hE=>qBQ hn hE
 ·exact qAQ v bs n w hv hb hl hn hT fun w1 B1=>(mO v bs n w1 (qD hv B1) hb hl hn).mono fun e w' hE=>yP rfl hE
 ·exact qAR v bs n w hv hb hl hn hT fun w1 B1=>(mM v bs n w1 (qD hv B1) hb hl hn).mono fun e w' hE=>yP rfl hE
 ·exact qAS v bs n w hv hb hl hn hT fun w1 B1=>(gH v bs n w1 (qD hv B1) hb hl hn).mono fun e w' hE=>yP rfl (uT (fun h=>rfl) hn hE)
 ·exact qAT v bs n w hv hb hl hn hT fun w1 B1=>(wF v bs n w1 (qD hv B1) hb hl hn).mono fun e w' hE=>yP rfl hE
end Go.Proofs.YtkpmalfigmimaaaGreatDoor
