import Derived.Test.YtkpmalfigmimaaaGreatDoorB1N
import Derived.WalkMore
import Derived.ScopeJumps
set_option linter.unusedVariables false
set_option linter.unusedSimpArgs false
set_option maxRecDepth 100000
set_option maxHeartbeats 8000000
namespace Go.Proofs.YtkpmalfigmimaaaGreatDoor
open Go.RowKit
open M
theorem qD3 (g:Nat) (h:g<256) (hb:128≤g):bits BinOp.and IntKind.u64 (g:Int) 128=128:=by
 rw [u64_and _ _ (by omega) (by omega) (by omega) (by omega)]
 have:∀n:Fin 256,128≤n.val→n.val&&&128=128:=by decide
 have:=this ⟨g,h⟩ hb
 simpa using congrArg (fun n:Nat=>(n:Int)) this
theorem tY (g:Nat) (hb:g<128):bits BinOp.and IntKind.u64 (g:Int) 128=0:=by
 rw [u64_and _ _ (by omega) (by omega) (by omega) (by omega)]
 have:∀n:Fin 128,n.val&&&128=0:=by decide
 have:=this ⟨g,hb⟩
 simpa using congrArg (fun n:Nat=>(n:Int)) this
theorem qHJ (x g p:Nat) (hx:x<2^p) (hp:p≤63) (hf:g%128*2^p<2^64):
  bits BinOp.or IntKind.u64 (x:Int) (IntKind.u64.wrap ((g:Int)%128*2^p))=((x+g%128*2^p:Nat):Int):=by
 have e:((g:Int)%128*2^p)=((g%128*2^p:Nat):Int):=by simp
 have hm:g%128*2^p%2^p=0:=Nat.mul_mod_left _ _
 rw [e]
 have hle:(2:Nat)^p≤2^63:=Nat.pow_le_pow_right (by omega) hp
 have e2:((2:Int)^p)=((2^p:Nat):Int):=by simp
 generalize g%128*2^p=z at*
 rw [xU z (by omega) (by omega),u64_or _ _ (by omega) (by omega) (by omega) (by omega)]
 simp only [Int.toNat_natCast]
 rw [Nat.or_comm,nat_join p z x hm hx]
 simp;omega
theorem qBW {P:Program} {a:Act} {w:World} {Q:Exit→Act→World→Prop} {c rest:Code} (l:Nat) (J:Act→World→Prop) (μ:Act→World→Nat) (hf:findLabel c l=some (.seq .skip rest))
  (pass:∀a w,J a w→rest.wp P (Exit.jump l (fun a' w'=>J a' w'∧μ a' w'<μ a w) Q) a w)
  (first:(∀a w,J a w→rest.wp P (Exit.jump l J Q) a w)→c.wp P (Exit.jump l J Q) a w):(Code.scope c).wp P Q a w:=
 wp_scope_jumps l J μ hf (first fun a w hJ=>Code.wp_mono (fun e a w hq=>by
  cases e<;>first|exact hq|exact ⟨hq.1,hq.2.1⟩) (pass a w hJ)) (fun a w hJ=>wp_seq (wp_skip (pass a w hJ)))
def GJ (b off:Nat) (s:ByteArray) (a:Nat) (w:World) (a':Act) (w':World):Prop:=
 ∃(k x en p:Nat) (u6 u11 u12 u13 u14 u15 u16 u17 u18 u19 u20 u21 u22 u23 u24 u25 u26 u27 u28 u29 u30 u31 u32 u33 u34 u35 u36 u37 u38 u39 u40 u41 u42 u43 u44 u45:Value),a'=⟨#[.pointer (some ⟨b,off,none⟩),undef,.int .u64 (x:Int),.int .i64 (en:Int),.int .i64 0,.int .i64 (p:Int),u6,.pointer (some ⟨b,off,none⟩),.pointer (some ⟨b,off,none⟩),.pointer (some ⟨b,off+1,none⟩),.int .i64 (a:Int),u11,u12,u13,u14,u15,u16,u17,u18,u19,u20,u21,u22,u23,u24,u25,u26,u27,u28,u29,u30,u31,u32,u33,u34,u35,u36,u37,u38,u39,u40,u41,u42,u43,u44,u45,undef,undef],[]⟩∧
  Hid (k≤9∧en=a+8*k∧p=7*k∧x<2^(7*k)∧en≤8*s.size)∧Hid (readG (10-k) ((rb s).drop en) k x en=readG 10 ((rb s).drop a) 0 0 a)∧Hid (∃m,w'=w.drewN m)
theorem pC (b off:Nat) (s:ByteArray) (a:Nat) (e0:Int) (w:World) (h:Rd w b off s a e0):
  Calls Tryz.prog 171 #[.pointer (some ⟨b,off,none⟩)] w fun e w'=>e= .returned (.tuple #[.int .u64 ((readG 10 ((rb s).drop a) 0 0 a).1:Int),.int .i64 ((readG 10 ((rb s).drop a) 0 0 a).2.1:Int),.int .i64 ((readG 10 ((rb s).drop a) 0 0 a).2.2:Int)])∧∃m,w'=w.drewN m:=by
 have h0:=h.text
 have h1:=h.at_
 have hs:=h.size
 have hle:=h.le
 generalize hres:readG 10 ((rb s).drop a) 0 0 a=res
 have Hres:Hid (readG 10 ((rb s).drop a) 0 0 a=res):=hres
 clear hres
 go_enter Tryz.func171,Tryz.ntmps171
 go_wp2
 refine qBW 0 (GJ b off s a w) (fun a' _=>100-(intOf (a'.tmps.getD 5 undef)).toNat) rfl ?pass ?first
 case first=>
  intro hp
  go_wp2_with fail
  go_step3
  rename_i K1 hK1
  refine hK1 _ _ (hp _ _ ⟨0,0,a,0,_,_,_,_,_,_,_,_,_,_,_,_,_,_,_,_,_,_,_,_,_,_,_,_,_,_,_,_,_,_,_,_,_,_,_,_,rfl,⟨by omega,rfl,rfl,by simp,hle⟩,rfl,⟨0,rfl⟩⟩)
 case pass=>
  rintro a' w' ⟨k,x,en,p,u6,u11,u12,u13,u14,u15,u16,u17,u18,u19,u20,u21,u22,u23,u24,u25,u26,u27,u28,u29,u30,u31,u32,u33,u34,u35,u36,u37,u38,u39,u40,u41,u42,u43,u44,u45,rfl,hk,hE,hm⟩
  have h0':w'.cell? ⟨b,off,none⟩=some (.string s):=by obtain ⟨m,rfl⟩:=hm.out;exact h0
  have hen:en≤8*s.size:=hk.out.2.2.2.2
  have hk9:k≤9:=hk.out.1
  have hp63:p≤63:=by have:=hk.out;omega
  have hl8:((rb s).drop en).length=8*s.size-en:=by simp [rb]
  have Hl8:Hid (((rb s).drop en).length=8*s.size-en):=hl8
  clear hl8
  obtain ⟨f,hf⟩:∃f,10-k=f+1:=⟨9-k,by omega⟩
  have Hf:Hid (10-k=f+1):=hf
  clear hf
  by_cases h8:8*s.size<en+8
  ·have hE2:Hid (res=(0,0,12)):=by
    show _=_
    rw [←Hres.out,←hE.out,Hf.out,readG_short _ _ _ _ _ (by rw [Hl8.out];omega)]
   go_wp2_with fail
   refine (xQ b off s _ h0' hs).mono ?_
   rintro e w1 ⟨rfl,rfl⟩
   go_wp2_with fail
   simp only [Exit.jump]
   go_ret3
   exact ⟨by rw [hE2.out];rfl,hm.out⟩
  ·obtain ⟨g,hg⟩:∃g,g=num (((rbits (zS s)).drop en).take 8):=⟨_,rfl⟩
   have hlk:=fun w (ht:World.cell? w ⟨b,off,none⟩=some (.string s))=>sG b off s en 8 w ht hs (by omega) (by omega)
   simp only [←hg] at hlk
   have HK:Hid (∀w:World,World.cell? w ⟨b,off,none⟩=some (.string s)→Calls Tryz.prog 96 #[.pointer (some ⟨b,off,none⟩),.int .i64 en,.int .i64 ((8:Nat):Int)] w fun e w'=>e= .returned (.int .u64 (g:Int))∧∃m,w'=w.drewN m):=hlk
   have Hg:Hid (g=num (((rb s).drop en).take 8)):=hg
   clear hg hlk
   have hg256:g<256:=by
    rw [Hg.out]
    refine Nat.lt_of_lt_of_le (num_lt _) ?_
    have:(((rb s).drop en).take 8).length≤8:=List.length_take_le _ _
    exact Nat.pow_le_pow_right (n:=2) (by omega) this
   have hlen8:8≤((rb s).drop en).length:=by rw [Hl8.out];omega
   have Hlen8:Hid (8≤((rb s).drop en).length):=hlen8
   clear hlen8
   have ha127:=qIC g (by omega)
   by_cases hbad:(k=9∧1<g)∨(0<k∧g=0)
   ·have hE2:Hid (res=(0,0,13)):=by
     show _=_
     rw [←Hres.out,←hE.out,Hf.out,readG_form _ _ _ _ _ Hlen8.out (by rw [←Hg.out];exact hbad)]
    by_cases hk63:k=9
    ·have b63:((p:Int)==63)=true:=by rw [beq_iff_eq];have:=hk.out;omega
     by_cases hg1:1<g
     ·have bg1:(1:Int)<(g:Int):=by omega
      clear hbad
      go_wp2_with fail
      refine (xQ b off s _ h0' hs).mono ?_
      rintro e w1 ⟨rfl,rfl⟩
      go_wp2_with fail
      refine (HK.out _ h0').mono ?_
      rintro e w2 ⟨rfl,m,rfl⟩
      go_wp2_with fail
      simp only [Exit.jump]
      go_ret3
      obtain ⟨m0,rfl⟩:=hm.out
      exact ⟨by rw [hE2.out];rfl,m0+m,World.drewN_drewN _ _ _⟩
     ·have bg1:¬(1:Int)<(g:Int):=by omega
      have bp:(0:Int)<(p:Int):=by have:=hk.out;omega
      have bg0:((g:Int)==0)=true:=by rw [beq_iff_eq];omega
      clear hbad
      go_wp2_with fail
      refine (xQ b off s _ h0' hs).mono ?_
      rintro e w1 ⟨rfl,rfl⟩
      go_wp2_with fail
      refine (HK.out _ h0').mono ?_
      rintro e w2 ⟨rfl,m,rfl⟩
      go_wp2_with fail
      simp only [Exit.jump]
      go_ret3
      obtain ⟨m0,rfl⟩:=hm.out
      exact ⟨by rw [hE2.out];rfl,m0+m,World.drewN_drewN _ _ _⟩
    ·have b63:((p:Int)==63)=false:=by rw [beq_eq_false_iff_ne];have:=hk.out;omega
     have bp:(0:Int)<(p:Int):=by have:=hk.out;omega
     have bg0:((g:Int)==0)=true:=by rw [beq_iff_eq];omega
     clear hbad
     go_wp2_with fail
     refine (xQ b off s _ h0' hs).mono ?_
     rintro e w1 ⟨rfl,rfl⟩
     go_wp2_with fail
     refine (HK.out _ h0').mono ?_
     rintro e w2 ⟨rfl,m,rfl⟩
     go_wp2_with fail
     simp only [Exit.jump]
     go_ret3
     obtain ⟨m0,rfl⟩:=hm.out
     exact ⟨by rw [hE2.out];rfl,m0+m,World.drewN_drewN _ _ _⟩
   ·have hbadG:¬((k=9∧1<num (((rb s).drop en).take 8))∨(0<k∧num (((rb s).drop en).take 8)=0)):=by rw [←Hg.out];exact hbad
    have HbadG:=hbadG
    clear hbadG
    have hfit:g%128*2^p<2^64:=by
     have hk':=hk.out
     by_cases e9:k=9
     ·have:g%128≤1:=by omega
      have e63:p=63:=by omega
      rw [e63];omega
     ·have h56:(2:Nat)^p≤2^56:=Nat.pow_le_pow_right (by omega) (by omega)
      have:g%128*2^p≤127*2^56:=Nat.mul_le_mul (by omega) h56
      omega
    obtain ⟨x2,hx2⟩:∃x2,x2=x+g%128*2^p:=⟨_,rfl⟩
    have hor:bits BinOp.or IntKind.u64 (x:Int) (IntKind.u64.wrap ((g:Int)%128*2^p))=(x2:Int):=by
     rw [hx2];exact qHJ x g p (by have:=hk.out;rw [this.2.2.1];exact this.2.2.2.1) hp63 hfit
    have Hx2:Hid (x2=x+g%128*2^(7*k)):=by show _=_;rw [hx2,hk.out.2.2.1]
    have Hbad:Hid (¬((k=9∧1<g)∨(0<k∧g=0))):=hbad
    have HbG:Hid (¬((k=9∧1<num (((rb s).drop en).take 8))∨(0<k∧num (((rb s).drop en).take 8)=0))):=HbadG
    clear hx2 hfit hbad HbadG
    have htests:((((p:Int)==63)=true∧¬(1:Int)<(g:Int))∨((p:Int)==63)=false)∧(((0:Int)<(p:Int)∧((g:Int)==0)=false)∨¬(0:Int)<(p:Int)):=by
     have hk':=hk.out
     have hb':=Hbad.out
     refine ⟨?_,?_⟩
     ·by_cases e9:k=9
      ·left;exact ⟨by rw [beq_iff_eq];omega,by omega⟩
      ·right;rw [beq_eq_false_iff_ne];omega
     ·by_cases e0:0<k
      ·left;exact ⟨by omega,by rw [beq_eq_false_iff_ne];omega⟩
      ·right;omega
    obtain ⟨ht1,ht2⟩:=htests
    by_cases hg:g<128
    ·have hb0:=tY g hg
     have hE2:Hid (res=(x2,en+8,0)):=by
      show _=_
      rw [←Hres.out,←hE.out,Hf.out,readG_last _ _ _ _ _ Hlen8.out HbG.out (by rw [←Hg.out];exact hg),←Hg.out,Hx2.out]
     rcases ht1 with ⟨b63,bg1⟩|b63<;>rcases ht2 with ⟨bp,bg0⟩|bp
     all_goals
      go_wp2_with fail
      refine (xQ b off s _ h0' hs).mono ?_
      rintro e w1 ⟨rfl,rfl⟩
      go_wp2_with fail
      refine (HK.out _ h0').mono ?_
      rintro e w2 ⟨rfl,m,rfl⟩
      go_wp2_with fail
      simp only [Exit.jump]
      go_ret3
      obtain ⟨m0,rfl⟩:=hm.out
      exact ⟨by rw [hE2.out];simp,m0+m,World.drewN_drewN _ _ _⟩
    ·have hb0:=qD3 g hg256 (by omega)
     have hE2:Hid (readG (10-(k+1)) ((rb s).drop (en+8)) (k+1) x2 (en+8)=readG 10 ((rb s).drop a) 0 0 a):=by
      show _=_
      rw [←hE.out,Hf.out,readG_more _ _ _ _ _ Hlen8.out HbG.out (by rw [←Hg.out];exact hg),←Hg.out,Hx2.out,List.drop_drop,show 10-(k+1)=f from by have:=Hf.out;omega]
     have hJ:Hid (k+1≤9∧en+8=a+8*(k+1)∧p+7=7*(k+1)∧x2<2^(7*(k+1))∧en+8≤8*s.size):=by
      have hk':=hk.out
      have hb':=Hbad.out
      refine ⟨by omega,by omega,by omega,?_,by omega⟩
      rw [Hx2.out,show 7*(k+1)=7*k+7 from by omega,Nat.pow_add]
      have hx':=hk'.2.2.2.1
      have:g%128*2^(7*k)≤127*2^(7*k):=Nat.mul_le_mul_right _ (by omega)
      omega
     obtain ⟨en2,hen2⟩:∃en2:Nat,(en:Int)+8=(en2:Int):=⟨en+8,by omega⟩
     obtain ⟨p2,hp2⟩:∃p2:Nat,(p:Int)+7=(p2:Int):=⟨p+7,by omega⟩
     have He:Hid (en2=en+8):=by show _=_;omega
     have Hp:Hid (p2=p+7):=by show _=_;omega
     rcases ht1 with ⟨b63,bg1⟩|b63
     ·omega
     rcases ht2 with ⟨bp,bg0⟩|bp
     all_goals
      go_wp2_with fail
      refine (xQ b off s _ h0' hs).mono ?_
      rintro e w1 ⟨rfl,rfl⟩
      go_wp2_with fail
      refine (HK.out _ h0').mono ?_
      rintro e w2 ⟨rfl,m,rfl⟩
      go_wp2_with fail
      go_step3
      have hJ2:=hJ.out
      have hE3:=hE2.out
      rw [←He.out,←Hp.out] at hJ2
      rw [←He.out] at hE3
      obtain ⟨m0,hm0⟩:=hm.out
      change (0:Nat)=0∧GJ b off s a w _ _∧_<_
      refine ⟨rfl,⟨k+1,x2,en2,p2,_,_,_,_,_,_,_,_,_,_,_,_,_,_,_,_,_,_,_,_,_,_,_,_,_,_,_,_,_,_,_,_,_,_,_,_,rfl,hJ2,hE3,⟨m0+m,by rw [hm0,World.drewN_drewN]⟩⟩,?_⟩
      have:=Hp.out
      simp [intOf]
      omega
theorem mU (b off:Nat) (s:ByteArray) (a:Nat) (e0:Int) (w:World) (h:Rd w b off s a e0) (he:(e0==0)=false):
  Calls Tryz.prog 134 #[.pointer (some ⟨b,off,none⟩)] w fun e w'=>e= .returned (.int .u64 0)∧Rd w' b off s a e0∧qJ b off (off+3) w w':=by
 have hne:(e0 !=0)=true:=by simp [bne,he]
 go_enter Tryz.func134,Tryz.ntmps134
 go_wp2_with fail
 refine (pC b off s a e0 _ h).mono ?_
 rintro e w1 ⟨rfl,m,rfl⟩
 have hR:=h.drewN m
 have hE:=hR.err
 have hO:qJ b off (off+3) w (w.drewN m):=(qJ.refl _ _ _ w).drewN _
 generalize w.drewN m=w1 at*
 go_wp2_with fail
 refine (bV b off _ e0 w1 hE he).mono ?_
 rintro e w2 ⟨rfl,rfl⟩
 go_wp2_with fail
 go_ret
 exact ⟨rfl,hR,hO⟩
theorem qG4 (b off:Nat) (s:ByteArray) (a x en:Nat) (w:World) (h:Rd w b off s a 0) (hr:readG 10 ((rb s).drop a) 0 0 a=(x,en,0)) (hen:en≤8*s.size):
  Calls Tryz.prog 134 #[.pointer (some ⟨b,off,none⟩)] w fun e w'=>e= .returned (.int .u64 (x:Int))∧Rd w' b off s en 0∧qJ b off (off+3) w w':=by
 have hg:=pC b off s a 0 w h
 rw [hr] at hg
 have Hg:Hid _:=hg
 clear hg hr
 go_enter Tryz.func134,Tryz.ntmps134
 go_wp2_with fail
 refine Calls.mono Hg.out ?_
 rintro e w1 ⟨rfl,m,rfl⟩
 have hR:=h.drewN m
 have hE:=hR.err
 have hA:=hR.at_
 have hf1:=hR.fz 1 (by omega)
 have hf:=hR.fz 2 (by omega)
 have hO:qJ b off (off+3) w (w.drewN m):=(qJ.refl _ _ _ w).drewN _
 generalize w.drewN m=w1 at*
 go_wp2_with fail
 refine (uQ b off 0 w1 hE hf).mono ?_
 rintro e w2 ⟨rfl,hw2⟩
 have hR2:Rd w2 b off s a 0:=by rw [hw2];exact hR.setErr 0
 have hO2:qJ b off (off+3) w w2:=by rw [hw2];exact hO.setCell _ (by omega) (by omega) _
 have hE2:=hR2.err
 have hA2:=hR2.at_
 have hf2:=hR2.fz 1 (by omega)
 clear hw2
 go_wp2_with fail
 go_ret
 exact ⟨rfl,hR2.setAt en hen,hO2.setCell _ (by omega) (by omega) _⟩
theorem mV (b off:Nat) (s:ByteArray) (a c:Nat) (w:World) (h:Rd w b off s a 0) (hr:readG 10 ((rb s).drop a) 0 0 a=(0,0,c)) (hc:0<c):
  Calls Tryz.prog 134 #[.pointer (some ⟨b,off,none⟩)] w fun e w'=>e= .returned (.int .u64 0)∧Rd w' b off s a (c:Int)∧qJ b off (off+3) w w':=by
 have hne:((c:Int) !=0)=true:=by simp;omega
 have hg:=pC b off s a 0 w h
 rw [hr] at hg
 have Hg:Hid _:=hg
 clear hg hr
 go_enter Tryz.func134,Tryz.ntmps134
 go_wp2_with fail
 refine Calls.mono Hg.out ?_
 rintro e w1 ⟨rfl,m,rfl⟩
 have hR:=h.drewN m
 have hE:=hR.err
 have hf:=hR.fz 2 (by omega)
 have hO:qJ b off (off+3) w (w.drewN m):=(qJ.refl _ _ _ w).drewN _
 generalize w.drewN m=w1 at*
 go_wp2_with fail
 refine (uQ b off c w1 hE hf).mono ?_
 rintro e w2 ⟨rfl,hw2⟩
 have hR2:Rd w2 b off s a c:=by rw [hw2];exact hR.setErr c
 have hO2:qJ b off (off+3) w w2:=by rw [hw2];exact hO.setCell _ (by omega) (by omega) _
 have hE2:=hR2.err
 clear hw2
 go_wp2_with fail
 go_ret
 exact ⟨rfl,hR2,hO2⟩
end Go.Proofs.YtkpmalfigmimaaaGreatDoor
namespace Go.Proofs.YtkpmalfigmimaaaGreatDoor
open Go.RowKit
open M
def zag (x:Nat):Int:=if x%2=1 then -1-((x/2:Nat):Int) else ((x/2:Nat):Int)
theorem qK8 (y:Int):zag (zig y)=y:=by
 unfold zag zig;split<;>split<;>omega
theorem qK9 (x:Nat):zig (zag x)=x:=by
 unfold zag zig;split<;>split<;>omega
theorem lP (a:Nat) (ha:a<9223372036854775808):bits .xor .i64 (a:Int) (-1)= -1-(a:Int):=by
 show IntKind.i64.wrap ((BitVec.ofInt 64 (a:Int)^^^BitVec.ofInt 64 (-1)).toNat:Int)=_
 have h1:BitVec.ofInt 64 (-1)=BitVec.allOnes 64:=by decide
 rw [h1,BitVec.xor_allOnes,BitVec.toNat_not,ofInt_u64 a (by omega)]
 simp [IntKind.wrap,IntKind.bits,IntKind.signed]
 omega
theorem lQ (a:Nat) (ha:a<9223372036854775808):bits .xor .i64 (a:Int) 0=(a:Int):=by
 show IntKind.i64.wrap ((BitVec.ofInt 64 (a:Int)^^^BitVec.ofInt 64 0).toNat:Int)=_
 have h1:BitVec.ofInt 64 0=0#64:=by decide
 rw [h1,BitVec.xor_zero,ofInt_u64 a (by omega)]
 simp [IntKind.wrap,IntKind.bits,IntKind.signed]
 omega
theorem qGL (x:Nat) (hx:x<18446744073709551616):bits BinOp.xor IntKind.i64 ((x:Int)/2) (wrap64 (-wrap64 (bits BinOp.and IntKind.u64 (x:Int) 1)))=zag x:=by
 have h1:=bits_mask .u64 64 (by decide) xU 1 (by omega) (x:Int) (by omega) (by omega)
 have h2:bits BinOp.and IntKind.u64 (x:Int) 1=(x:Int)%2:=by simpa using h1
 have e:(x:Int)/2=((x/2:Nat):Int):=by omega
 rw [h2,e]
 unfold zag
 by_cases ho:x%2=1
 ·have h3:wrap64 (-wrap64 ((x:Int)%2))= -1:=by unfold wrap64;omega
  rw [h3,lP _ (by omega),if_pos ho]
 ·have h3:wrap64 (-wrap64 ((x:Int)%2))=0:=by unfold wrap64;omega
  rw [h3,lQ _ (by omega),if_neg ho]
theorem qBK (b off:Nat) (w:World) (x:Nat) (hx:x<18446744073709551616) (R:World→Prop) (h:Calls Tryz.prog 134 #[.pointer (some ⟨b,off,none⟩)] w fun e w'=>e= .returned (.int .u64 (x:Int))∧R w'):
  Calls Tryz.prog 138 #[.pointer (some ⟨b,off,none⟩)] w fun e w'=>e= .returned (.int .i64 (zag x))∧R w':=by
 have H:Hid (Calls Tryz.prog 134 #[.pointer (some ⟨b,off,none⟩)] w fun e w'=>e= .returned (.int .u64 (x:Int))∧R w'):=h
 clear h
 go_enter Tryz.func138,Tryz.ntmps138
 go_wp2_with fail
 refine Calls.mono H.out ?_
 rintro e w1 ⟨rfl,hr⟩
 go_wp2_with fail
 go_ret
 exact ⟨by rw [←qGL x hx];rfl,hr⟩
end Go.Proofs.YtkpmalfigmimaaaGreatDoor
