import Derived.Test.YtkpmalfigmimaaaGreatDoorZ0
import Derived.Test.YtkpmalfigmimaaaGreatDoorD3M
import Derived.Test.YtkpmalfigmimaaaGreatDoorD2C
import Derived.Deep.CutBlock
import Derived.Deep.DeepCutAuto
import Derived.Deep.CutRange
set_option linter.unusedVariables false
set_option linter.unusedSimpArgs false
set_option maxRecDepth 100000
set_option maxHeartbeats 8000000
namespace Go.Proofs.YtkpmalfigmimaaaGreatDoor
open Go.RowKit
open M
def qJV (kind:Int) (n:Nat) (t:Nat→Int) (v:Nat→Nat) (w:World) (e:Ending) (w':World):Prop:=∃c:Int,e= .returned (.tuple #[.agg #[.int .i64 0,.int .i64 0,.int .i64 0,.int .i64 0,.int .i64 0,.int .u64 0,.int .u64 0,.int .i64 0,.int .i64 0,.int .i64 0,.int .i64 0,.slice none 0 0,.slice none 0 0],.int .i64 c])∧qEA kind n t v c∧c≠0∧Below w.heap.size w w'
theorem qBB (kind:Int) (p:Option Addr) (n cap:Nat) (t:Nat→Int) (v:Nat→Nat) (w:World) (h:yL w p n t v) (hn:n≤9223372036854775807) (hf:∀i,i<n→v i<18446744073709551616) (hG:¬dV kind n t v):
  Calls Tryz.prog 22 #[.int .i64 kind,.slice p n cap] w (qJV kind n t v w):=by
 obtain ⟨g,hg⟩:∃g,w.heap.size=g:=⟨_,rfl⟩
 obtain ⟨W1,hW1⟩:∃W1,w.alloc (.cells #[.int .i64 0,.int .i64 0,.int .i64 0,.int .i64 0,.int .i64 0,.int .u64 0,.int .u64 0,.int .i64 0,.int .i64 0,.int .i64 0,.int .i64 0,.slice none 0 0,.slice none 0 0] 62)=W1:=⟨_,rfl⟩
 have HR1:Hid (W1.heap[g]?=some (.cells #[.int .i64 0,.int .i64 0,.int .i64 0,.int .i64 0,.int .i64 0,.int .u64 0,.int .u64 0,.int .i64 0,.int .i64 0,.int .i64 0,.int .i64 0,.slice none 0 0,.slice none 0 0] 62 (0,0))∧Below w.heap.size w W1):=by rw [←hW1,←hg];exact ⟨heap_alloc_new _ _,(Below.refl _ _).alloc (Nat.le_refl _) _⟩
 have HRef:=qA (fun (w1:World) (hB:Below w.heap.size w w1)=>bK kind p n cap t v w1 (h.below hB) hn hf)
 have HGd:=qA hG
 clear h hf hG
 go_enter Tryz.func22,Tryz.ntmps22
 go_upto_region 1 with fail
 (try rw [hW1])
 (try rw [hg])
 have HG:=qA hg
 clear hW1 hg
 go_wp2_with fail
 refine (HRef.out W1 HR1.out.2).mono ?_
 rintro e w2 ⟨c,rfl,hc,B2⟩
 have hc0:¬c=0:=fun e0=>by
  subst e0
  rcases hc with ⟨e,_⟩|⟨e,_⟩|⟨e,_⟩|⟨e,_⟩|⟨_,hg⟩
  ·cases e
  ·cases e
  ·cases e
  ·cases e
  ·exact HGd.out hg
 have HC:=qA (And.intro hc hc0)
 have HW2:Hid (w2.heap[g]?=some (.cells #[.int .i64 0,.int .i64 0,.int .i64 0,.int .i64 0,.int .i64 0,.int .u64 0,.int .u64 0,.int .i64 0,.int .i64 0,.int .i64 0,.int .i64 0,.slice none 0 0,.slice none 0 0] 62 (0,0))∧Below w.heap.size w w2):=⟨by rw [B2.block g (qB HR1.out.1)];exact HR1.out.1,HR1.out.2.trans (B2.mono HR1.out.2.size)⟩
 clear hc B2 HR1 HRef
 obtain ⟨z0,z1,z2,z3,z4,z5,z6,z7,z8,z9,z10,z11,z12⟩:=rowcells13 HW2.out.1
 have y0:=froz HW2.out.1 0
 have y1:=froz HW2.out.1 1
 have y2:=froz HW2.out.1 2
 have y3:=froz HW2.out.1 3
 have y4:=froz HW2.out.1 4
 have y5:=froz HW2.out.1 5
 have y6:=froz HW2.out.1 6
 have y7:=froz HW2.out.1 7
 have y8:=froz HW2.out.1 8
 have y9:=froz HW2.out.1 9
 have y10:=froz HW2.out.1 10
 have y11:=froz HW2.out.1 11
 have y12:=froz HW2.out.1 12
 have HFR:Hid ((((((((((((((w2.setCell ⟨g,0,none⟩ (.int .i64 0)).setCell ⟨g,1,none⟩ (.int .i64 0)).setCell ⟨g,2,none⟩ (.int .i64 0)).setCell ⟨g,3,none⟩ (.int .i64 0)).setCell ⟨g,4,none⟩ (.int .i64 0)).setCell ⟨g,5,none⟩ (.int .u64 0)).setCell ⟨g,6,none⟩ (.int .u64 0)).setCell ⟨g,7,none⟩ (.int .i64 0)).setCell ⟨g,8,none⟩ (.int .i64 0)).setCell ⟨g,9,none⟩ (.int .i64 0)).setCell ⟨g,10,none⟩ (.int .i64 0)).setCell ⟨g,11,none⟩ (.slice none 0 0)).setCell ⟨g,12,none⟩ (.slice none 0 0)).heap[g]?=some (.cells #[.int .i64 0,.int .i64 0,.int .i64 0,.int .i64 0,.int .i64 0,.int .u64 0,.int .u64 0,.int .i64 0,.int .i64 0,.int .i64 0,.int .i64 0,.slice none 0 0,.slice none 0 0] 62 (0,0))∧Below w.heap.size w (((((((((((((w2.setCell ⟨g,0,none⟩ (.int .i64 0)).setCell ⟨g,1,none⟩ (.int .i64 0)).setCell ⟨g,2,none⟩ (.int .i64 0)).setCell ⟨g,3,none⟩ (.int .i64 0)).setCell ⟨g,4,none⟩ (.int .i64 0)).setCell ⟨g,5,none⟩ (.int .u64 0)).setCell ⟨g,6,none⟩ (.int .u64 0)).setCell ⟨g,7,none⟩ (.int .i64 0)).setCell ⟨g,8,none⟩ (.int .i64 0)).setCell ⟨g,9,none⟩ (.int .i64 0)).setCell ⟨g,10,none⟩ (.int .i64 0)).setCell ⟨g,11,none⟩ (.slice none 0 0)).setCell ⟨g,12,none⟩ (.slice none 0 0))):=⟨bM _ _ _ _ _ _ _ _ _ _ _ _ _ _ _ _ _ _ _ _ _ _ _ _ _ _ _ _ _ HW2.out.1,vO HW2.out.2 _ _ _ _ _ _ _ _ _ _ _ _ _ _ (Nat.le_of_eq HG.out)⟩
 clear HW2
 go_wp2_with fail
 generalize (((((((((((((w2.setCell ⟨g,0,none⟩ (.int .i64 0)).setCell ⟨g,1,none⟩ (.int .i64 0)).setCell ⟨g,2,none⟩ (.int .i64 0)).setCell ⟨g,3,none⟩ (.int .i64 0)).setCell ⟨g,4,none⟩ (.int .i64 0)).setCell ⟨g,5,none⟩ (.int .u64 0)).setCell ⟨g,6,none⟩ (.int .u64 0)).setCell ⟨g,7,none⟩ (.int .i64 0)).setCell ⟨g,8,none⟩ (.int .i64 0)).setCell ⟨g,9,none⟩ (.int .i64 0)).setCell ⟨g,10,none⟩ (.int .i64 0)).setCell ⟨g,11,none⟩ (.slice none 0 0)).setCell ⟨g,12,none⟩ (.slice none 0 0))=WF at*
 obtain ⟨u0,u1,u2,u3,u4,u5,u6,u7,u8,u9,u10,u11,u12⟩:=rowcells13 HFR.out.1
 exact bodyPost_ret (v:= .tuple #[.agg #[.int .i64 0,.int .i64 0,.int .i64 0,.int .i64 0,.int .i64 0,.int .u64 0,.int .u64 0,.int .i64 0,.int .i64 0,.int .i64 0,.int .i64 0,.slice none 0 0,.slice none 0 0],.int .i64 c]) (by simp [results,Tryz.results22,go_sem,u0,u1,u2,u3,u4,u5,u6,u7,u8,u9,u10,u11,u12]) rfl ⟨c,rfl,HC.out.1,HC.out.2,HFR.out.2⟩
theorem cW (kind:Int) (p:Option Addr) (n cap:Nat) (t:Nat→Int) (v:Nat→Nat) (w:World) (h:yL w p n t v) (hn:n≤9223372036854775807) (hf:∀i,i<n→v i<18446744073709551616) (hG:¬dV kind n t v):
  Calls Tryz.prog 8 #[.int .i64 kind,.slice p n cap] w fun e w'=>∃c:Int,e= .returned (.tuple #[.slice none 0 0,.int .i64 c])∧qEA kind n t v c∧c≠0∧Below w.heap.size w w':=by
 have HP:=qA (qBB kind p n cap t v w h hn hf hG)
 clear h hf hG
 go_enter Tryz.func8,Tryz.ntmps8
 go_wp2_with fail
 refine HP.out.mono ?_
 rintro e w2 ⟨c,rfl,hc,hc0,B2⟩
 have HC:=qA (And.intro hc hc0)
 have HB:=qA (B2.alloc B2.size (.cells #[.int .i64 0,.int .i64 0,.int .i64 0,.int .i64 0,.int .i64 0,.int .u64 0,.int .u64 0,.int .i64 0,.int .i64 0,.int .i64 0,.int .i64 0,.slice none 0 0,.slice none 0 0] 62))
 clear hc B2
 go_wp2_with fail
 go_ret2
 exact ⟨c,rfl,HC.out.1,HC.out.2,HB.out⟩
end Go.Proofs.YtkpmalfigmimaaaGreatDoor
namespace Go.Proofs.YtkpmalfigmimaaaGreatDoor
open Go.RowKit
open M
structure qA7 (kd m:Nat) (t:Nat→Int) (v:Nat→Nat) (co:Nat) (vb:List Nat):Prop where
 good:dV kd (m+1) t v
 ti:∀i,i<m+1→I64 (t i)
 va:∀i,i<m+1→v i<18446744073709551616
 val:xY kd (m+1) v co vb
 by_:∀n∈vb,n<256
theorem qA7.len {kd m:Nat} {t:Nat→Int} {v:Nat→Nat} {co:Nat} {vb:List Nat} (h:qA7 kd m t v co vb):(mI kd (m+1) t v co vb).length=(packed (tbn t (m+1))).length+vb.length+55∧(packed (tbn t (m+1))).length≤100000∧vb.length≤100000:=by
 have hvl:=xP kd (m+1) v co vb h.va h.val
 have htl:=xO t (m+1)
 have hhi:=h.good.hi
 exact ⟨mJ kd m t v co vb,by omega,by omega⟩
end Go.Proofs.YtkpmalfigmimaaaGreatDoor
namespace Go.Proofs.YtkpmalfigmimaaaGreatDoor
open Go.RowKit
open M
theorem qA7.bound {kd m:Nat} {t:Nat→Int} {v:Nat→Nat} {co:Nat} {vb:List Nat} (h:qA7 kd m t v co vb):55≤(mI kd (m+1) t v co vb).length∧(mI kd (m+1) t v co vb).length≤1000000:=by
 have:=h.len;omega
theorem pL {w:World} {g:Nat} {bs:List Nat} {ty:TypeId} (h:w.heap[g]?=some (.cells (qS bs).toArray ty (0,0))):qU w g 0 bs:=fun i hi=>by
 rw [Nat.zero_add,cell_of_row _ _ _ _ _ _ h];simp [qS,List.getD,hi]
theorem qD6 {kd m:Nat} {t:Nat→Int} {v:Nat→Nat} {co:Nat} {vb:List Nat} (h:qA7 kd m t v co vb) (b n cap:Nat) (w:World) (hn:n=(mI kd (m+1) t v co vb).length) (hc:qU w b 0 (mI kd (m+1) t v co vb)) (hcap:n≤cap) (hcap2:cap≤9223372036854775807) (hT:qQ w) (hC:mZ w):
  Calls Tryz.prog 10 #[.slice (some ⟨b,0,none⟩) n cap] w (dU kd (m+1) t v w):=by
 have hb:=h.bound
 obtain ⟨K,rfl⟩:∃K,cap=K+51:=⟨cap-51,by omega⟩
 exact nO kd m t v co vb b 0 n K w hc hn hcap (by omega) h.good h.ti h.va h.val h.by_ hT hC
theorem qEL {kd m:Nat} {t:Nat→Int} {v:Nat→Nat} {co:Nat} {vb:List Nat} (h:qA7 kd m t v co vb) (b n cap:Nat) (w:World) (hn:(mI kd (m+1) t v co vb).length≤n) (hc:qU w b 0 (mI kd (m+1) t v co vb)) (hcap:n≤cap) (hn2:n≤1000000000) (hC:mZ w):
  Calls Tryz.prog 12 #[.slice (some ⟨b,0,none⟩) n cap] w (dW kd m t v (mI kd (m+1) t v co vb).length w):=by
 have hb:=h.bound
 exact lH kd m t v co vb b 0 n cap w hc (by omega) hcap (by omega) h.good h.ti h.va h.val hC
end Go.Proofs.YtkpmalfigmimaaaGreatDoor
namespace Go.Proofs.YtkpmalfigmimaaaGreatDoor
open Go.RowKit
open M
theorem qDE (k:Int) (T t G:Nat) (hT:T=1074) (ht:t=149) (hG:G=925) (hgg:Flt.gapE=G) (hk:k.natAbs<16777216):floatOfInt .f64 k<18446744073709551616∧wid (gY (floatOfInt .f64 k))=floatOfInt .f64 k:=by
 obtain ⟨R,hR⟩:=Flt.repr Ieee.single k.natAbs t (show k.natAbs<2*Ieee.single.binade from hk)
 have hRi:R<Ieee.single.infRung:=by
  rw [←Flt.V_lt_iff (f:=Ieee.single),hR,Flt.V_inf Ieee.single (by decide)]
  refine Nat.lt_of_lt_of_le (Nat.mul_lt_mul_of_pos_right (show k.natAbs<2^24 from hk) (Nat.two_pow_pos _)) ?_
  rw [←Nat.pow_add]
  exact Nat.pow_le_pow_right (by omega) (by rw [ht];decide)
 have hR2:R<2139095040:=by rw [qB0] at hRi;exact hRi
 obtain ⟨s,hs⟩:∃s,decide (k<0)=s:=⟨_,rfl⟩
 obtain ⟨f,hf⟩:∃f,Ieee.single.word s R=f:=⟨_,rfl⟩
 have hfe:f=s.toNat*2147483648+R:=by rw [←hf];exact qI9 s R (by omega)
 have hst:s.toNat≤1:=by cases s<;>decide
 have hfl:f<4294967296:=by omega
 have hfm:f%2147483648=R:=by omega
 obtain ⟨R',_,_,⟨h1,h2⟩,_⟩:=Flt.widened f (by rw [qJT,hfm];exact hRi)
 rw [qJT,hfm,hR,hgg,Nat.mul_assoc,←Nat.pow_add] at h2
 rw [jM] at h1
 have hx:floatOfInt .f64 k=Ieee.double.word s R':=by
  have hl:Ieee.double.leastPlace= -(T:Int):=by rw [hT];decide
  show Ieee.double.nearest (decide (k<0)) k.natAbs 0=_
  rw [hs]
  refine Flt.nearest_exact _ _ _ _ _ (by rw [jM];omega) ?_
  rw [hl,h2,show (0- -(T:Int)).toNat=T by omega,show (-(T:Int)-0).toNat=0 by omega,Nat.pow_zero,Nat.mul_one,show t+G=T by omega]
 obtain ⟨x1,x2,x3⟩:=qA5 s R' (by omega)
 rw [hx]
 generalize Ieee.double.word s R'=x at*
 have hv:f%2147483648<2139095040→Flt.V Ieee.double (x%9223372036854775808)=Flt.V Ieee.single (f%2147483648)*2^Flt.gapE:=fun _=>by
  rw [x2,hfm,h2,hR,hgg,Nat.mul_assoc,←Nat.pow_add]
 have e1:=qH7 f x hfl (by omega) (by rw [x3];omega) (by omega) hv
 have e2:=qGB f x hfl (by omega) (by rw [x3];omega) (by omega) hv
 refine ⟨x1,?_⟩
 unfold gY
 rw [if_neg (by omega),e1,e2]
def gT (i:Nat):Int:=if i=4095 then 9223372036854775807 else -9223372036854775808+(i:Int)*4503599627370496
def gF (i:Nat):Nat:=floatOfInt .f64 ((i:Int)-5)
def gV (x:Nat) (i:Nat):Nat:=if i=0 then x else gF i
theorem qKB (i:Nat) (h:i<4096):gF i<18446744073709551616∧wid (gY (gF i))=gF i:=
 qDE _ 1074 149 925 rfl rfl rfl rfl (by omega)
theorem qIZ (n:Nat) (h:n≤4096):Rises gT n:=fun i hi=>by
 unfold gT
 rw [if_neg (show ¬i=4095 by omega)]
 split<;>omega
theorem qKC (i:Nat) (h:i<4096):I64 (gT i):=by
 unfold gT I64
 split
 ·decide
 ·omega
theorem qH0 (x i:Nat) (hx:x<18446744073709551616) (h:i<4096):gV x i<18446744073709551616:=by
 unfold gV;split
 ·exact hx
 ·exact (qKB i h).1
theorem qHX:dV ((1:Nat):Int) (4095+1) gT (gV 9218868437227405313):=⟨.inl rfl,by omega,by omega,qIZ _ (by omega),fun h=>by cases h⟩
theorem qC3:dV ((2:Nat):Int) (4095+1) gT (gV 9223372036854775808):=⟨.inr rfl,by omega,by omega,qIZ _ (by omega),fun _ i hi=>by
 unfold gV;split
 ·decide +kernel
 ·exact (qKB i hi).2⟩
theorem qKY:¬dV 2 4096 gT (gV 9218868437227405313):=fun h=>by
 have:=h.nar rfl 0 (by omega)
 have h2:¬wid (gY 9218868437227405313)=9218868437227405313:=by decide +kernel
 exact h2 this
end Go.Proofs.YtkpmalfigmimaaaGreatDoor
namespace Go.Proofs.YtkpmalfigmimaaaGreatDoor
open Go.RowKit
open M
theorem sZ (n:Int) (w:World):Calls Tryz.prog 19 #[.int .i64 n] w fun e w'=>e= .returned (.int .u64 (floatOfInt .f64 n:Nat))∧w'=w:=by
 have hcv:=fun w:World=>run_convert_int_float (P:=Tryz.prog) w 2 72 .i64 .f64 n (by kernel_rfl) (by kernel_rfl)
 generalize floatOfInt .f64 n=x at*
 have ht:=xE x
 go_enter Tryz.func19,Tryz.ntmps19
 go_wp2_with (simp only [hcv,ht])
 go_ret
 exact ⟨rfl,rfl⟩
theorem qCI {l:List Value} {j:Nat} {u:Value} (h:l[j]?=some u):l.set j u=l:=by
 apply List.ext_getElem?
 intro k
 by_cases e:j=k
 ·subst e
  have hl:=(List.getElem?_eq_some_iff.1 h).1
  rw [List.getElem?_set_self hl,h]
 ·rw [List.getElem?_set_ne e]
theorem qFP (n:Nat) (t:Nat→Int) (v:Nat→Nat) (i y:Nat) (h:i<n):(vU n t v).set (i*2+1) (.int .u64 (y:Int))=vU n t (fun j=>if j=i then y else v j):=by
 have h2:=qCA n t v i (t i) y h
 rw [qCI (pD n t v i h).1] at h2
 rw [h2]
 exact yH n (fun j _=>by by_cases e:j=i<;>simp [e]) (fun j _=>rfl)
theorem qFO (n:Nat) (t:Nat→Int) (v:Nat→Nat) (i:Nat) (x:Int) (h:i<n):(vU n t v).set (i*2) (.int .i64 x)=vU n (fun j=>if j=i then x else t j) v:=by
 have h2:=qCA n t v i x (v i) h
 rw [List.set_comm _ _ (by omega),qCI (pD n t v i h).2] at h2
 rw [h2]
 exact yH n (fun j _=>rfl) (fun j _=>by by_cases e:j=i<;>simp [e])
theorem OP.putV {B n g cap:Nat} {w0 wr:World} {t:Nat→Int} {v:Nat→Nat} (h:OP B w0 n t v (.slice (some ⟨g,0,none⟩) n cap) wr) (i y:Nat) (hi:i<n):
  OP B w0 n t (fun j=>if j=i then y else v j) (.slice (some ⟨g,0,none⟩) n cap) (wr.setCell ⟨g,i*2+1,none⟩ (.int .u64 (y:Int))):=by
 have h1:=(h.own.stored (i*2+1) (.int .u64 (y:Int))).1
 rw [qFP n t v i y hi] at h1
 exact ⟨h1,qH h.bel g _ _ (h.own.lt g rfl).1,h.le⟩
theorem OP.putT {B n g cap:Nat} {w0 wr:World} {t:Nat→Int} {v:Nat→Nat} (h:OP B w0 n t v (.slice (some ⟨g,0,none⟩) n cap) wr) (i:Nat) (x:Int) (hi:i<n):
  OP B w0 n (fun j=>if j=i then x else t j) v (.slice (some ⟨g,0,none⟩) n cap) (wr.setCell ⟨g,i*2,none⟩ (.int .i64 x)):=by
 have h1:=(h.own.stored (i*2) (.int .i64 x)).1
 rw [qFO n t v i x hi] at h1
 exact ⟨h1,qH h.bel g _ _ (h.own.lt g rfl).1,h.le⟩
def gT0 (i:Nat):Int:= -9223372036854775808+(i:Int)*4503599627370496
theorem bP (w:World) (hT:qQ w) (hC:mZ w):Calls Tryz.prog 5 #[] w fun e w'=>e= .returned (.bool true)∧Below w.heap.size w w':=by
 obtain ⟨i5,hi5⟩:=qI0
 have Hi:=qA hi5
 have HT:=qA hT
 have HC:=qA hC
 clear hi5 hT hC
 go_enter Tryz.func5,Tryz.ntmps5
 go_upto_block 0 with fail
 go_cut [1] from 17 (fun t1 wc=>∃u:Value,t1=u∧Hid (OP w.heap.size w 4096 gT0 gF u wc))
 case first=>
  as_aux_lemma=>
   go_wp2_with fail
   go_loopw [1,2] (fun t1 t2 wr=>∃(i:Nat) (p:Option Addr) (c:Nat),t2= .int .i64 (i:Int)∧t1= .slice p i c∧Hid (i≤4096∧OP w.heap.size w i gT0 gF (.slice p i c) wr)) (fun _ t2 _=>4096-(intOf t2).toNat)
   case atStart=>exact ⟨0,none,0,rfl,rfl,Nat.zero_le _,OP.nil w _ _⟩
   case round=>
    obtain ⟨i,p,c,rfl,rfl,hI⟩:=hrel
    by_cases hlt:i<4096
    ·have hil:(i:Int)<4096:=by omega
     obtain ⟨X,hX⟩:∃X,IntKind.i64.wrap ((i:Int)*4503599627370496)=X:=⟨_,rfl⟩
     obtain ⟨Z,hZ⟩:∃Z,gT0 i=Z:=⟨_,rfl⟩
     have hXZ:IntKind.i64.wrap (-9223372036854775808+X)=Z:=by
      rw [←hX,←hZ,IntKind.wrap_i64,IntKind.wrap_i64];unfold gT0;omega
     have h5:IntKind.i64.wrap ((i:Int)-5)=(i:Int)-5:=by rw [IntKind.wrap_i64];omega
     have HF:=qA (fun w:World=>sZ ((i:Int)-5) w)
     obtain ⟨Y,hY⟩:∃Y,floatOfInt .f64 ((i:Int)-5)=Y:=⟨_,rfl⟩
     rw [hY] at HF
     have HYZ:Hid (gT0 i=Z∧gF i=Y):=⟨hZ,hY⟩
     clear hZ hY
     go_wp2_with (first
      |(go_at_call 19;refine (HF.out _).mono ?_;rintro e wf ⟨rfl,hwf⟩;have hwf:=hwf.symm;subst hwf)
      |(at_builtin;refine wpList_append_own_at _ rfl _ _ _ rfl w.heap.size 47 i5 (.agg #[.int .i64 0,.int .u64 0]) 2 16 Tryz.underlying22 Hi.out.1 Hi.out.2.1 Hi.out.2.2.1 Hi.out.2.2.2 rfl (by decide) (.slice p i c) i (vU i gT0 gF) rfl ?f0 ⟨wr.heap.size,0,none⟩ 1 1 [.int .i64 Z,.int .u64 (Y:Int)] rfl rfl (World.news_of_block (heap_alloc_new wr _)) ?f1 ?f4 ?f5 ?f7 ?f6)
      |(simp only [hX,hXZ,h5]))
     case f0=>exact hI.out.2.own.alloc _
     case f1=>first|exact ⟨rfl,rfl⟩|(intro u hu;rcases List.mem_cons.1 hu with rfl|hu;rfl;rw [List.mem_singleton.1 hu];rfl)
     case f4=>unfold maxLen;omega
     case f5=>omega
     case f7=>have:=hI.out.2.bel.size;simp;omega
     case f6=>
      intro v7 w7 ho7 hg7 _ hat7
      have HO8:Hid (OP w.heap.size w (i+1) gT0 gF v7 w7):=by
       have hA:Below wr.heap.size wr (wr.alloc (.cells #[.int .i64 Z,.int .u64 (Y:Int)] 47)):=(Below.refl _ _).alloc (Nat.le_refl _) _
       have h8:=(hI.out.2.below hA).more (m:=1) (t':=fun _=>Z) (v':=fun _=>Y) ho7 hg7
       refine h8.congr (fun s hs=>?_) (fun s hs=>?_)
       ·by_cases e:s<i
        ·rw [if_pos e]
        ·rw [if_neg e,show s=i by omega,HYZ.out.1]
       ·by_cases e:s<i
        ·rw [if_pos e]
        ·rw [if_neg e,show s=i by omega,HYZ.out.2]
      obtain ⟨p7,c7,rfl⟩:=HO8.out.slice
      clear ho7 hg7 hat7
      go_wp2_with fail
      go_roundw
      case rel=>exact ⟨i+1,p7,c7,by simp,rfl,hlt,HO8.out⟩
      case measure=>simp [intOf];omega
    ·obtain rfl:i=4096:=by have:=hI.out.1;omega
     have HO:=qA hI.out.2
     clear hI
     go_wp2_with fail
     go_meet
     case rel=>exact ⟨_,rfl,HO.out⟩
 case rest=>
  obtain ⟨u,rfl,HO⟩:=hcut
  as_aux_lemma=>
   obtain ⟨p,c,rfl⟩:=HO.out.slice
   obtain ⟨gl,rfl⟩:=HO.out.form (by omega)
   have a1:wc.cell? ⟨gl,1,none⟩=some (.int .u64 ((gF 0:Nat):Int)):=(HO.out.cells 0 (by omega)).2
   have a2:wc.frozen? ⟨gl,1,none⟩=false:=HO.out.own.frozenAt (0*2+1)
   have a3:wc.cell? ⟨gl,8190,none⟩=some (.int .i64 (gT0 4095)):=(HO.out.cells 4095 (by omega)).1
   have a4:wc.frozen? ⟨gl,8190,none⟩=false:=HO.out.own.frozenAt (4095*2)
   have HO1:=qA (HO.out.putV 0 9218868437227405313 (by omega))
   obtain ⟨W1,hW1⟩:∃W1,(wc.setCell ⟨gl,1,none⟩ (.int .u64 9218868437227405313)).setCell ⟨gl,8190,none⟩ (.int .i64 9223372036854775807)=W1:=⟨_,rfl⟩
   have HO2:Hid (OP w.heap.size w 4096 gT (gV 9218868437227405313) (.slice (some ⟨gl,0,none⟩) 4096 c) W1):=by
    have:=(HO1.out.putT 4095 9223372036854775807 (by omega)).congr (t':=gT) (v':=gV 9218868437227405313) (fun s hs=>by unfold gT gT0;rfl) (fun s hs=>by unfold gV;rfl)
    rw [←hW1];exact this
   generalize gF 0=f0 at a1
   generalize gT0 4095=f1 at a3
   clear HO HO1
   go_upto_block 2 with fail
   (try rw [hW1])
   clear hW1 a1 a2 a3 a4
   have HTC:=qA (And.intro HT.out HC.out)
   go_cut [1] from 18 (fun t1 wc=>t1= .slice (some ⟨gl,0,none⟩) 4096 c∧Hid (OP w.heap.size w 4096 gT (gV 9218868437227405313) (.slice (some ⟨gl,0,none⟩) 4096 c) wc))
   case first=>
    as_aux_lemma=>
     go_wp2_with fail
     go_loopw [3] (fun t3 wr=>∃kd:Nat,t3= .int .i64 (kd:Int)∧Hid (1≤kd∧kd≤3∧OP w.heap.size w 4096 gT (gV 9218868437227405313) (.slice (some ⟨gl,0,none⟩) 4096 c) wr)) (fun t3 _=>3-(intOf t3).toNat)
     case atStart=>exact ⟨1,rfl,by omega,by omega,HO2.out⟩
     case round=>
      obtain ⟨kd,rfl,hI⟩:=hrel
      by_cases h3:kd=3
      ·subst h3
       have HO:=qA hI.out.2.2
       clear hI
       go_wp2_with fail
       go_meet
       case rel=>exact ⟨rfl,HO.out⟩
      ·have HCP:=qA (bR (some ⟨gl,0,none⟩) 4096 c gT (gV 9218868437227405313) wr hI.out.2.2.row (by omega) (fun e=>by cases e))
       have HOL:=qA hI.out.2.2
       have hkd:kd=1∨kd=2:=by have:=hI.out.1;have:=hI.out.2.1;omega
       clear hI
       have HX:Hid (∃X,(kd=1∧X=9218868437227405313∨kd=2∧X=9223372036854775808)∧dV (kd:Int) (4095+1) gT (gV X)∧X<18446744073709551616):=by
        rcases hkd with rfl|rfl
        ·exact ⟨_,.inl ⟨rfl,rfl⟩,qHX,by decide⟩
        ·exact ⟨_,.inr ⟨rfl,rfl⟩,qC3,by decide⟩
       go_upto_if 44 with (refine HCP.out.mono ?_;rintro e w2 ⟨u2',rfl,hO2⟩;obtain ⟨pm,cm,rfl⟩:=hO2.slice;obtain ⟨gm,rfl⟩:=hO2.form (by omega);have HOM:=qA hO2;clear hO2)
       have HOL2:Hid (OP w.heap.size w 4096 gT (gV 9218868437227405313) (.slice (some ⟨gl,0,none⟩) 4096 c) w2):=HOL.out.below HOM.out.bel
       have HNE:Hid ((Value.slice (some ⟨gl,0,none⟩) 4096 c).ownBlock≠some gm∧w.heap.size≤gm):=by
        have h1:=HOL.out.own.lt gl rfl
        have h2:=HOM.out.own.lt gm rfl
        have h3:=HOL.out.bel.size
        exact ⟨fun e=>by
                  have:gl=gm:=Option.some.inj e
                  omega,by omega⟩
       have c1:w2.cell? ⟨gm,1,none⟩=some (.int .u64 ((gV 9218868437227405313 0:Nat):Int)):=(HOM.out.cells 0 (by omega)).2
       have c2:w2.frozen? ⟨gm,1,none⟩=false:=HOM.out.own.frozenAt (0*2+1)
       generalize gV 9218868437227405313 0=f0 at c1
       clear HCP HOL
       go_cut [4] from 45 to 47 (fun t4 wc=>t4= .slice (some ⟨gm,0,none⟩) 4096 cm∧Hid (∃X,(dV (kd:Int) (4095+1) gT (gV X)∧X<18446744073709551616)∧OP wr.heap.size wr 4096 gT (gV X) (.slice (some ⟨gm,0,none⟩) 4096 cm) wc∧OP w.heap.size w 4096 gT (gV 9218868437227405313) (.slice (some ⟨gl,0,none⟩) 4096 c) wc))
       case first=>
        rcases hkd with rfl|rfl
        ·have HF:Hid (∃X,(dV (((1:Nat)):Int) (4095+1) gT (gV X)∧X<18446744073709551616)∧OP wr.heap.size wr 4096 gT (gV X) (.slice (some ⟨gm,0,none⟩) 4096 cm) w2∧OP w.heap.size w 4096 gT (gV 9218868437227405313) (.slice (some ⟨gl,0,none⟩) 4096 c) w2):=⟨_,⟨qHX,by decide⟩,HOM.out,HOL2.out⟩
         clear HOM HOL2 HX c1 c2
         go_wp2_with fail
         go_meet
         case rel=>exact ⟨rfl,HF.out⟩
        ·have HF:Hid (∃X,(dV (((2:Nat)):Int) (4095+1) gT (gV X)∧X<18446744073709551616)∧OP wr.heap.size wr 4096 gT (gV X) (.slice (some ⟨gm,0,none⟩) 4096 cm) (w2.setCell ⟨gm,1,none⟩ (.int .u64 9223372036854775808))∧OP w.heap.size w 4096 gT (gV 9218868437227405313) (.slice (some ⟨gl,0,none⟩) 4096 c) (w2.setCell ⟨gm,1,none⟩ (.int .u64 9223372036854775808))):=
          ⟨9223372036854775808,⟨qC3,by decide⟩,(HOM.out.putV 0 9223372036854775808 (by omega)).congr (fun s _=>rfl) (fun s _=>by by_cases e:s=0<;>simp [gV,e]),HOL2.out.other gm 1 _ HNE.out.1 HNE.out.2⟩
         clear HOM HOL2 HX
         go_wp2_with fail
         go_meet
         case rel=>exact ⟨rfl,HF.out⟩
       case rest=>
        obtain ⟨rfl,HF⟩:=hcut
        clear HOM HOL2 HX c1 c2
        as_aux_lemma=>
         obtain ⟨X,⟨hG,hX⟩,hom,hol⟩:=HF.out
         have hTc:=HT.out.below hol.bel
         have hCc:=HC.out.below hol.bel
         have HE:=qA (nP kd (some ⟨gm,0,none⟩) 4095 cm gT (gV X) wc hom.row hG (fun i hi=>qKC i (by omega)) (fun i hi=>qH0 X i hX (by omega)) hTc hCc)
         have HOL:=qA hol
         have HP1:Hid (yL wc (some ⟨gm,0,none⟩) 4096 gT (gV X)):=hom.row
         have HGX:=qA (And.intro hG hX)
         have HTC2:=qA (And.intro hTc hCc)
         clear hom hol hG hX hTc hCc HF
         go_wp2_with fail
         refine HE.out.mono ?_
         rintro e w3 ⟨co,vb,gb,rfl,hrow,hval,hvb,B3⟩
         have hok:qA7 kd 4095 gT (gV X) co vb:=⟨HGX.out.1,fun i hi=>qKC i (by omega),fun i hi=>qH0 X i HGX.out.2 (by omega),hval,hvb⟩
         have HBK:=qA hok
         have HCE:=qA (pL hrow)
         have hbd:=hok.bound
         obtain ⟨N,hN⟩:∃N,(mI kd (4095+1) gT (gV X) co vb).length=N:=⟨_,rfl⟩
         have HNN:=qA hN
         rw [hN] at hbd⊢
         have HB3:Hid (OP w.heap.size w 4096 gT (gV 9218868437227405313) (.slice (some ⟨gl,0,none⟩) 4096 c) w3∧yL w3 (some ⟨gm,0,none⟩) 4096 gT (gV X)∧qQ w3∧mZ w3):=⟨HOL.out.below B3,HP1.out.below B3,HTC2.out.1.below B3,HTC2.out.2.below B3⟩
         have HD:=qA (qD6 hok gb N N w3 hN.symm (pL hrow) (Nat.le_refl _) (by omega) HB3.out.2.2.1 HB3.out.2.2.2)
         clear hok hrow hval hvb B3 HE hN HOL HP1 HTC2
         have hN1:55≤N:=hbd.1
         have hN2:N≤1000000:=hbd.2
         clear hbd
         go_wp2_with fail
         refine HD.out.mono ?_
         rintro e w4 ⟨gp,rfl,hp,B4⟩
         have HB4:Hid (OP w.heap.size w 4096 gT (gV 9218868437227405313) (.slice (some ⟨gl,0,none⟩) 4096 c) w4∧yL w4 (some ⟨gm,0,none⟩) 4096 gT (gV X)∧yL w4 (some ⟨gp,0,none⟩) 4096 gT (gV X)):=⟨HB3.out.1.below B4,HB3.out.2.1.below B4,hp⟩
         have HH:=qA (qEL HBK.out gb N N w4 (by rw [HNN.out];exact Nat.le_refl _) (HCE.out.below B4) (Nat.le_refl _) (by omega) (HB3.out.2.2.2.below B4))
         rw [HNN.out] at HH
         clear hp B4 HD HB3 HCE HBK HNN HGX
         go_wp2_with fail
         refine HH.out.mono ?_
         rintro e w5 ⟨rfl,B5⟩
         have HB5:Hid (OP w.heap.size w 4096 gT (gV 9218868437227405313) (.slice (some ⟨gl,0,none⟩) 4096 c) w5∧yL w5 (some ⟨gm,0,none⟩) 4096 gT (gV X)∧yL w5 (some ⟨gp,0,none⟩) 4096 gT (gV X)):=⟨HB4.out.1.below B5,HB4.out.2.1.below B5,HB4.out.2.2.below B5⟩
         clear B5 HB4 HH
         unfold bhA
         obtain ⟨na,hna⟩:∃x,vS (gV X) (4095+1)=x:=⟨_,rfl⟩
         obtain ⟨le,hle⟩:∃x,leV (gV X) (4095+1)=x:=⟨_,rfl⟩
         obtain ⟨gr,hgr⟩:∃x,grV (gV X) (4095+1)=x:=⟨_,rfl⟩
         obtain ⟨fi,hfi⟩:∃x,gT 0=x:=⟨_,rfl⟩
         obtain ⟨la,hla⟩:∃x,gT 4095=x:=⟨_,rfl⟩
         rw [hna,hle,hgr,hfi,hla,show ((4095+1:Nat):Int)=4096 from rfl]
         clear hna hle hgr hfi hla
         obtain ⟨r,hr⟩:∃r,w5.heap.size=r:=⟨_,rfl⟩
         obtain ⟨W6,hW6⟩:∃W6,w5.alloc (.cells #[.int .i64 (kd:Int),.int .i64 4096,.int .i64 (na:Int),.int .i64 fi,.int .i64 la,.int .u64 (le:Int),.int .u64 (gr:Int),.int .i64 (N:Int)] 38)=W6:=⟨_,rfl⟩
         have HW6:Hid (W6.heap[r]?=some (.cells #[.int .i64 (kd:Int),.int .i64 4096,.int .i64 (na:Int),.int .i64 fi,.int .i64 la,.int .u64 (le:Int),.int .u64 (gr:Int),.int .i64 (N:Int)] 38 (0,0))∧OP w.heap.size w 4096 gT (gV 9218868437227405313) (.slice (some ⟨gl,0,none⟩) 4096 c) W6∧yL W6 (some ⟨gm,0,none⟩) 4096 gT (gV X)∧yL W6 (some ⟨gp,0,none⟩) 4096 gT (gV X)):=by
          have hA:Below w5.heap.size w5 W6:=by rw [←hW6];exact (Below.refl _ _).alloc (Nat.le_refl _) _
          exact ⟨by rw [←hW6,←hr];exact heap_alloc_new _ _,HB5.out.1.below hA,HB5.out.2.1.below hA,HB5.out.2.2.below hA⟩
         go_upto_region 17 with fail
         (try rw [hW6])
         (try rw [hr])
         clear hW6 hr HB5
         have hkk:((kd:Int) !=(kd:Int))=false:=by simp
         go_wp2_with (first
          |(go_at_call 13;refine (wL _ _).mono ?_;rintro e wn ⟨rfl,hwn⟩;have hwn:=hwn.symm;subst hwn)
          |(go_at_call 14;refine (wC _ _ 4096 _ _ gT (gV X) _ HW6.out.2.2.1 HW6.out.2.2.2 (by omega)).mono ?_;rintro e w7 ⟨rfl,md,rfl⟩;have k1:(W6.drewN md).cell? ⟨r,1,none⟩=some (.int .i64 4096):=(by show W6.cell? ⟨r,1,none⟩=_;rw [cell_of_row _ _ _ _ _ _ HW6.out.1];rfl);have k7:(W6.drewN md).cell? ⟨r,7,none⟩=some (.int .i64 (N:Int)):=(by show W6.cell? ⟨r,7,none⟩=_;rw [cell_of_row _ _ _ _ _ _ HW6.out.1];rfl);have HO7:=qA (HW6.out.2.1.below (jB (Below.refl _ _) md));clear HW6))
         go_roundw
         case rel=>exact ⟨kd+1,by simp,by omega,by omega,HO7.out⟩
         case measure=>simp [intOf];omega
   case rest=>
    obtain ⟨rfl,HO⟩:=hcut
    as_aux_lemma=>
     have HE2:=qA (cW 2 (some ⟨gl,0,none⟩) 4096 c gT (gV 9218868437227405313) wc HO.out.row (by omega) (fun i hi=>qH0 _ i (by decide) hi) qKY)
     clear HO2
     go_wp2_with fail
     refine HE2.out.mono ?_
     rintro e w2 ⟨c2,rfl,hc2,hc0,B2⟩
     have hc93:c2=93:=by
      rcases hc2 with ⟨_,h⟩|⟨_,_,h⟩|⟨_,_,_,h⟩|⟨h,_⟩|⟨h,_⟩
      ·exact absurd (.inr rfl) h
      ·exact absurd ⟨by omega,by omega⟩ h
      ·exact absurd (qIZ _ (by omega)) h
      ·exact h
      ·exact absurd h hc0
     subst hc93
     have HO3:=qA (HO.out.below B2)
     clear hc2 hc0 B2 HE2 HO
     obtain ⟨q,hq⟩:∃q,w2.heap.size=q:=⟨_,rfl⟩
     obtain ⟨W3,hW3⟩:∃W3,w2.alloc (.cells #[.int .i64 (-9223372036854775808),.int .u64 0] 47)=W3:=⟨_,rfl⟩
     have HA:Hid (OP w.heap.size w 4096 gT (gV 9218868437227405313) (.slice (some ⟨gl,0,none⟩) 4096 c) W3∧OP w.heap.size w 1 (fun _=> -9223372036854775808) (fun _=>0) (.slice (some ⟨q,0,none⟩) 1 1) W3∧w.heap.size≤W3.heap.size):=by
      have hA:Below w2.heap.size w2 W3:=by rw [←hW3];exact (Below.refl _ _).alloc (Nat.le_refl _) _
      have h1:=World.ownsRow_lit (base:=w.heap.size) (e:=47) (size:=2) w2 #[.int .i64 (-9223372036854775808),.int .u64 0] 1 HO3.out.bel.size (by unfold maxLen;omega) rfl
      rw [hq,hW3] at h1
      have hB:Below w.heap.size w W3:=HO3.out.bel.trans (hA.mono HO3.out.bel.size)
      exact ⟨HO3.out.below hA,⟨h1,hB,Nat.le_refl _⟩,hB.size⟩
     obtain ⟨ad,had,hnews⟩:=qCB HA.out.1.row (by omega)
     obtain rfl:=(Option.some.inj had).symm
     have HNW:=qA hnews
     clear had hnews HO3
     subst hq hW3
     go_upto_region 20 with fail
     go_wp2_with (first
      |(at_builtin;refine wpList_append_own_at _ rfl _ _ _ rfl w.heap.size 47 i5 (.agg #[.int .i64 0,.int .u64 0]) 2 16 Tryz.underlying22 Hi.out.1 Hi.out.2.1 Hi.out.2.2.1 Hi.out.2.2.2 rfl (by decide) (.slice (some ⟨w2.heap.size,0,none⟩) 1 1) 1 (vU 1 (fun _=> -9223372036854775808) (fun _=>0)) rfl HA.out.2.1.own ⟨gl,0,none⟩ 4096 c (vU 4096 gT (gV 9218868437227405313)) rfl ?f2 HNW.out (qC9 _ _ _) ?f4 ?f5 ?f7 ?f6))
     case f2=>exact zS _ _ _
     case f4=>unfold maxLen;omega
     case f5=>omega
     case f7=>exact HA.out.2.2
     case f6=>
      intro v4 w4 ho4 hg4 _ hat4
      have hO4:=HA.out.2.1.more (m:=4096) (t':=gT) (v':=gV 9218868437227405313) ho4 hg4
      obtain ⟨p4,c4,rfl⟩:=hO4.slice
      have HE4:=qA (cW 1 p4 4097 c4 _ _ w4 hO4.row (by omega) (fun i hi=>by
       split
       ·decide
       ·exact qH0 _ _ (by decide) (by omega)) (fun h=>by have:=h.hi;omega))
      have HB4:=qA hO4.bel
      clear ho4 hg4 hat4 hO4 HA HNW
      go_wp2_with fail
      refine HE4.out.mono ?_
      rintro e w5 ⟨c5,rfl,hc5,hc0,B5⟩
      have hc91:c5=91:=by
       rcases hc5 with ⟨_,h⟩|⟨h,_⟩|⟨_,_,h,_⟩|⟨_,h,_⟩|⟨h,_⟩
       ·exact absurd (.inl rfl) h
       ·exact h
       ·exact absurd h.2 (by omega)
       ·cases h
       ·exact absurd h hc0
      subst hc91
      have HB5:Hid (Below w.heap.size w w5):=HB4.out.trans (B5.mono HB4.out.size)
      clear hc5 hc0 B5 HE4 HB4
      have HWK:=qA (qDX w5 (HT.out.below HB5.out) (HC.out.below HB5.out))
      go_wp2_with (first
       |(go_at_call 13;refine (wL _ _).mono ?_;rintro e wn ⟨rfl,hwn⟩;have hwn:=hwn.symm;subst hwn)
       |(go_at_call 7;refine HWK.out.mono ?_;rintro e w6 ⟨rfl,B6⟩;have HF:=qA (HB5.out.trans (B6.mono HB5.out.size));clear B6))
      go_ret
      exact ⟨rfl,HF.out⟩
end Go.Proofs.YtkpmalfigmimaaaGreatDoor
