import Derived.Test.YtkpmalfigmimaaaGreatDoorT1B
import Derived.Deep.Cut
import Derived.Laws.Tables
import Derived.Great.Walk
set_option linter.unusedVariables false
set_option linter.unusedSimpArgs false
set_option maxRecDepth 100000
set_option maxHeartbeats 8000000
namespace Go.Proofs.YtkpmalfigmimaaaGreatDoor
open Go.RowKit
open M
structure TkT (w w':World) (b off:Nat) (s:ByteArray) (a:Nat) (e0:Int) (a':Nat) (e1:Int) (laid:List Bool):Prop where
 rd:Rd w' b off s a' e1
 only:qJ b off (off+3) w w'
 sound:e1=0→e0=0∧(rb s).take a'=(rb s).take a++laid
 full:e0=0→a+laid.length≤(rb s).length→e1=0
theorem jS (s:ByteArray):(rb s).length=8*s.size:=by simp [rb]
theorem TkT.trans {w w1 w2:World} {b off:Nat} {s:ByteArray} {a a1 a2:Nat} {e0 e1 e2:Int} {l1 l2:List Bool} (ha:a≤8*s.size) (h:TkT w w1 b off s a e0 a1 e1 l1) (k:TkT w1 w2 b off s a1 e1 a2 e2 l2):TkT w w2 b off s a e0 a2 e2 (l1++l2):=by
 refine ⟨k.rd,h.only.trans k.only,fun he=>?_,fun he hl=>?_⟩
 ·obtain ⟨h1,h2⟩:=k.sound he
  obtain ⟨h3,h4⟩:=h.sound h1
  exact ⟨h3,by rw [h2,h4,List.append_assoc]⟩
 ·rw [List.length_append] at hl
  have e1:=h.full he (by omega)
  obtain ⟨_,h4⟩:=h.sound e1
  have:=tkn_len _ _ _ _ h4 (by rw [jS];exact ha) (by rw [jS];exact h.rd.le)
  exact k.full e1 (by omega)
def qGR (w:World) (b off:Nat) (s:ByteArray) (a:Nat) (e0:Int) (n:Nat) (e:Ending) (w':World):Prop:=
 ∃(x a':Nat) (e1:Int),e= .returned (.int .u64 (x:Int))∧x<2^n∧TkT w w' b off s a e0 a' e1 (bitsOf x n)
theorem gD (b off:Nat) (s:ByteArray) (a n:Nat) (e0:Int) (w:World) (h:Rd w b off s a e0) (hn:n≤64):
  Calls Tryz.prog 76 #[.pointer (some ⟨b,off,none⟩),.int .i64 n] w (qGR w b off s a e0 n):=by
 have hpos:0<2^n:=Nat.pos_of_ne_zero (by simp)
 by_cases he:e0=0
 ·subst he
  by_cases hs:a+n≤8*s.size
  ·refine (mS b off s a n w h hn hs).mono fun e w' ⟨h1,h2,h3⟩=>?_
   have hlen:(((rb s).drop a).take n).length=n:=by simp [rb];omega
   have hbits:=bitsOf_num (((rb s).drop a).take n)
   rw [hlen] at hbits
   refine ⟨_,a+n,0,h1,?_,h2,h3,fun _=>⟨rfl,uS _ _ _ _ hbits.symm⟩,fun _ _=>rfl⟩
   have:=num_lt (((rb s).drop a).take n)
   rwa [hlen] at this
  ·refine (yX b off s a n w h hn (by omega)).mono fun e w' ⟨h1,h2,h3⟩=>?_
   exact ⟨0,a,12,h1,hpos,h2,h3,fun h=>by omega,fun _ hl=>by rw [bitsOf_length,jS] at hl;omega⟩
 ·refine (wX b off s a n e0 w h (by rw [beq_eq_false_iff_ne];exact he) (by omega) (by omega)).mono fun e w' ⟨h1,h2,h3⟩=>?_
  exact ⟨0,a,e0,h1,hpos,h2,h3,fun h=>absurd h he,fun h _=>absurd h he⟩
def qIO (w:World) (b off:Nat) (s:ByteArray) (a:Nat) (e0:Int) (e:Ending) (w':World):Prop:=
 ∃(v:Bool) (a':Nat) (e1:Int),e= .returned (.bool v)∧TkT w w' b off s a e0 a' e1 [v]∧(v=true→e1=0)
theorem sW (b off:Nat) (s:ByteArray) (a:Nat) (e0:Int) (w:World) (h:Rd w b off s a e0):
  Calls Tryz.prog 107 #[.pointer (some ⟨b,off,none⟩)] w (qIO w b off s a e0):=by
 by_cases he:e0=0
 ·subst he
  by_cases hs:a+1≤8*s.size
  ·refine (pL b off w _ _ (mS b off s a 1 w h (by omega) hs)).mono fun e w' ⟨h1,h2,h3⟩=>?_
   have hin:a<(rb s).length:=by simp [rb];omega
   refine ⟨_,a+1,0,h1,⟨h2,h3,fun _=>⟨rfl,uS _ _ _ _ ?_⟩,fun _ _=>rfl⟩,fun _=>rfl⟩
   rw [qID _ _ hin,List.drop_eq_getElem_cons hin]
   cases (rb s)[a]<;>rfl
  ·refine (pL b off w 0 _ (yX b off s a 1 w h (by omega) (by omega))).mono fun e w' ⟨h1,h2,h3⟩=>?_
   exact ⟨_,a,12,h1,⟨h2,h3,fun h=>by omega,fun _ hl=>by rw [jS] at hl;simp at hl;omega⟩,fun h=>by simp at h⟩
 ·refine (pL b off w 0 _ (wX b off s a 1 e0 w h (by rw [beq_eq_false_iff_ne];exact he) (by omega) (by omega))).mono fun e w' ⟨h1,h2,h3⟩=>?_
  exact ⟨_,a,e0,h1,⟨h2,h3,fun h=>absurd h he,fun h _=>absurd h he⟩,fun h=>by simp at h⟩
def qLG (w:World) (b off:Nat) (s:ByteArray) (a:Nat) (e0:Int) (e:Ending) (w':World):Prop:=
 ∃(u:Nat) (ok:Bool) (a':Nat) (e1:Int),e= .returned (.tuple #[.int .u64 (u:Int),.bool ok])∧u<18446744073709551616∧Rd w' b off s a' e1∧qJ b off (off+3) w w'∧
  (e1=0→ok=true→e0=0∧(rb s).take a'=(rb s).take a++zb u)∧
  (e0=0→∀v r,v<18446744073709551616→(rb s).drop a=zb v++r→u=v∧ok=true∧e1=0)
theorem qLD {w wk w':World} {b off:Nat} {s:ByteArray} {a ak a':Nat} {e1:Int} {laid:List Bool} (k u:Nat) (hk4:k≤4) (hu:u<18446744073709551616) (hz:List.replicate k true++laid=zb u) (hl:(zb u).length=zlen k)
  (ha:a≤8*s.size) (hak:ak≤8*s.size) (hO:qJ b off (off+3) w wk) (hk:(rb s).take ak=(rb s).take a++List.replicate k true) (T:TkT wk w' b off s ak 0 a' e1 laid) (e0:Int) (he:e0=0):
  qLG w b off s a e0 (.returned (.tuple #[.int .u64 (u:Int),.bool true])) w':=by
 obtain ⟨h1,h2⟩:=zb_done (rb s) a ak a' k laid u hk4 hu hz hl hk (by rw [jS];exact ha) (by rw [jS];exact hak) e1 (fun h=>(T.sound h).2) (fun h=>T.full rfl h)
 refine ⟨u,true,a',e1,rfl,hu,T.rd,hO.trans T.only,fun h _=>⟨he,h1 h⟩,fun _ v r hv hr=>?_⟩
 obtain ⟨h3,h4⟩:=h2 v r hv hr
 exact ⟨h3,rfl,h4⟩
theorem qI5 {w wk w':World} {b off:Nat} {s:ByteArray} {a ak a':Nat} {e1:Int} (u:Nat) (hu:u<18446744073709551616) (hlow:u<1052801)
  (ha:a≤8*s.size) (hak:ak≤8*s.size) (hO:qJ b off (off+3) w wk) (hk:(rb s).take ak=(rb s).take a++List.replicate 4 true) (T:TkT wk w' b off s ak 0 a' e1 (bitsOf u 64)) (e0:Int) (he:e0=0):
  qLG w b off s a e0 (.returned (.tuple #[.int .u64 (u:Int),.bool false])) w':=by
 refine ⟨u,false,a',e1,rfl,hu,T.rd,hO.trans T.only,fun _ h=>absurd h (by simp),fun _ v r hv hr=>?_⟩
 exfalso
 have e1':=take_eq_drop _ _ a ak hk
 have e2:=tkn_len _ _ a ak hk (by rw [jS];exact ha) (by rw [jS];exact hak)
 have e3:=zb_ones v 4 (by omega) r ((rb s).drop ak) (by rw [←hr,e1'])
 have e4:((rb s).drop a).length=(zb v).length+r.length:=by rw [hr];simp
 have hz4:zlen 4=68:=rfl
 rw [hz4] at e3
 rw [List.length_drop] at e4
 simp only [List.length_replicate] at e2
 have he1:e1=0:=T.full rfl (by simp only [bitsOf_length];omega)
 have e5:=take_eq_drop _ _ ak a' (T.sound he1).2
 have hv4:1052801≤v:=by
  rcases Nat.lt_or_ge v 1052801 with h|h
  ·have:(zb v).length≤24:=by
    rw [zb_length];unfold zbl
    repeat' split
    all_goals omega
   omega
  ·exact h
 rw [hr,zb_4 v hv4,e5] at e1'
 simp only [List.replicate,List.cons_append,List.nil_append,List.cons.injEq,true_and] at e1'
 have:=(bits_inj _ _ 64 _ _ hv hu e1').1
 omega
theorem tB (u k:Nat) (h:(k=0∧u=0)∨(k=1∧1≤u∧u≤128)∨(k=2∧129≤u∧u≤4224)∨(k=3∧4225≤u∧u≤1052800)∨(k=4∧1052801≤u)):(zb u).length=zlen k:=by
 rw [zb_length]
 unfold zbl zlen
 rcases h with ⟨rfl,h⟩|⟨rfl,h,h'⟩|⟨rfl,h,h'⟩|⟨rfl,h,h'⟩|⟨rfl,h⟩
 ·simp [h]
 ·rw [if_neg (by omega),if_pos (by omega)];rfl
 ·rw [if_neg (by omega),if_neg (by omega),if_pos (by omega)];rfl
 ·rw [if_neg (by omega),if_neg (by omega),if_neg (by omega),if_pos (by omega)];rfl
 ·rw [if_neg (by omega),if_neg (by omega),if_neg (by omega),if_neg (by omega)];rfl
structure qL5 (w wk:World) (b off:Nat) (s:ByteArray) (a ak k:Nat):Prop where
 rd:Rd wk b off s ak 0
 only:qJ b off (off+3) w wk
 tk:(rb s).take ak=(rb s).take a++List.replicate k true
theorem qL5.next {w wk w':World} {b off:Nat} {s:ByteArray} {a ak a' k:Nat} {e1:Int} (h:qL5 w wk b off s a ak k) (T:TkT wk w' b off s ak 0 a' e1 [true]) (he:e1=0):qL5 w w' b off s a a' (k+1):=by
 subst he
 refine ⟨T.rd,h.only.trans T.only,?_⟩
 rw [(T.sound rfl).2,h.tk,List.append_assoc,List.replicate_succ',]
theorem cO (b off:Nat) (s:ByteArray) (a:Nat) (e0:Int) (w:World) (h:Rd w b off s a e0):
  Calls Tryz.prog 97 #[.pointer (some ⟨b,off,none⟩)] w (qLG w b off s a e0):=by
 have ha:=qA h.le
 go_enter Tryz.func97,Tryz.ntmps97
 go_wp2_with fail
 refine kH 4 ?_
 go_wp2_with fail
 refine (sW b off s a e0 w h).mono ?_
 rintro e w1 ⟨v1,a1,e1,rfl,T1,hv1⟩
 cases v1 with
 |false=>
  go_wp2_with fail
  refine vN ?_
  go_ret2
  refine ⟨0,true,a1,e1,rfl,by omega,T1.rd,T1.only,fun h _=>T1.sound h,fun h0 v r hv hr=>?_⟩
  subst h0
  obtain ⟨h1,h2⟩:=zb_done (rb s) a a a1 0 [false] 0 (by omega) (by omega) rfl rfl (by simp) (by rw [jS];exact ha.out) (by rw [jS];exact ha.out) e1 (fun h=>(T1.sound h).2) (fun h=>T1.full rfl h)
  obtain ⟨h3,h4⟩:=h2 v r hv hr
  exact ⟨h3,rfl,h4⟩
 |true=>
  obtain rfl:e1=0:=hv1 rfl
  obtain rfl:e0=0:=(T1.sound rfl).1
  have O1:qL5 w w1 b off s a a1 1:=⟨T1.rd,T1.only,(T1.sound rfl).2⟩
  clear T1 hv1 h
  go_wp2_with fail
  refine wp_goto ?_
  refine kI 3 rfl ?_
  go_wp2_with fail
  refine (sW b off s a1 0 w1 O1.rd).mono ?_
  rintro e w2 ⟨v2,a2,e2,rfl,T2,hv2⟩
  cases v2 with
  |false=>
   go_wp2_with fail
   refine (gD b off s a2 7 e2 w2 T2.rd (by omega)).mono ?_
   rintro e w3 ⟨x,a3,e3,rfl,hx,T3⟩
   have hx':x<128:=hx
   go_wp2_with fail
   refine vN ?_
   go_ret2
   have ee:(1:Int)+(x:Int)=((1+x:Nat):Int):=by omega
   have TT:=T2.trans O1.rd.le T3
   have hz:List.replicate 1 true++([false]++bitsOf x 7)=zb (1+x):=by rw [zb_1 _ (by omega) (by omega),Nat.add_sub_cancel_left];rfl
   have:=qLD (e0:=0) 1 (1+x) (by omega) (by omega) hz (tB _ _ (by omega)) ha.out O1.rd.le O1.only O1.tk TT rfl
   rw [←ee] at this
   exact this
  |true=>
   obtain rfl:e2=0:=hv2 rfl
   have O2:=O1.next T2 rfl
   clear T2 hv2 O1
   go_wp2_with fail
   refine wp_goto ?_
   refine kI 2 rfl ?_
   go_wp2_with fail
   refine (sW b off s a2 0 w2 O2.rd).mono ?_
   rintro e w3 ⟨v3,a3,e3,rfl,T3,hv3⟩
   cases v3 with
   |false=>
    go_wp2_with fail
    refine (gD b off s a3 12 e3 w3 T3.rd (by omega)).mono ?_
    rintro e w4 ⟨x,a4,e4,rfl,hx,T4⟩
    have hx':x<4096:=hx
    go_wp2_with fail
    refine vN ?_
    go_ret2
    have ee:(129:Int)+(x:Int)=((129+x:Nat):Int):=by omega
    have TT:=T3.trans O2.rd.le T4
    have hz:List.replicate 2 true++([false]++bitsOf x 12)=zb (129+x):=by rw [zb_2 _ (by omega) (by omega),Nat.add_sub_cancel_left];rfl
    have:=qLD (e0:=0) 2 (129+x) (by omega) (by omega) hz (tB _ _ (by omega)) ha.out O2.rd.le O2.only O2.tk TT rfl
    rw [←ee] at this
    exact this
   |true=>
    obtain rfl:e3=0:=hv3 rfl
    have O3:=O2.next T3 rfl
    clear T3 hv3 O2
    go_wp2_with fail
    refine wp_goto ?_
    refine kI 1 rfl ?_
    go_wp2_with fail
    refine (sW b off s a3 0 w3 O3.rd).mono ?_
    rintro e w4 ⟨v4,a4,e4,rfl,T4,hv4⟩
    cases v4 with
    |false=>
     go_wp2_with fail
     refine (gD b off s a4 20 e4 w4 T4.rd (by omega)).mono ?_
     rintro e w5 ⟨x,a5,e5,rfl,hx,T5⟩
     have hx':x<1048576:=hx
     go_wp2_with fail
     refine vN ?_
     go_ret2
     have ee:(4225:Int)+(x:Int)=((4225+x:Nat):Int):=by omega
     have TT:=T4.trans O3.rd.le T5
     have hz:List.replicate 3 true++([false]++bitsOf x 20)=zb (4225+x):=by rw [zb_3 _ (by omega) (by omega),Nat.add_sub_cancel_left];rfl
     have:=qLD (e0:=0) 3 (4225+x) (by omega) (by omega) hz (tB _ _ (by omega)) ha.out O3.rd.le O3.only O3.tk TT rfl
     rw [←ee] at this
     exact this
    |true=>
     obtain rfl:e4=0:=hv4 rfl
     have O4:=O3.next T4 rfl
     clear T4 hv4 O3
     go_wp2_with fail
     refine wp_goto ?_
     refine kI 0 rfl ?_
     go_wp2_with fail
     refine (gD b off s a4 64 0 w4 O4.rd (by omega)).mono ?_
     rintro e w5 ⟨x,a5,e5,rfl,hx,T5⟩
     have HX:Hid (x<18446744073709551616):=hx
     clear hx
     by_cases hlow:x<1052801
     ·have k4:decide ((1052801:Int)≤(x:Int))=false:=by rw [decide_eq_false_iff_not];omega
      have HLOW:=qA hlow
      clear hlow
      go_wp2_with fail
      refine vN ?_
      go_ret2
      exact qI5 x HX.out HLOW.out ha.out O4.rd.le O4.only O4.tk T5 0 rfl
     ·have k4:decide ((1052801:Int)≤(x:Int))=true:=by rw [decide_eq_true_iff];omega
      have HLOW:=qA hlow
      clear hlow
      go_wp2_with fail
      refine vN ?_
      go_ret2
      have hz:List.replicate 4 true++bitsOf x 64=zb x:=by rw [zb_4 _ (by have:=HLOW.out;omega)];rfl
      exact qLD (e0:=0) 4 x (by omega) HX.out hz (tB _ _ (by have:=HLOW.out;omega)) ha.out O4.rd.le O4.only O4.tk T5 rfl
end Go.Proofs.YtkpmalfigmimaaaGreatDoor
namespace Go.Proofs.YtkpmalfigmimaaaGreatDoor
open Go.RowKit
open M
def qAI (w:World) (p:Option Addr) (n:Nat) (f:Nat→Int):Prop:=
 0<n→∃b o,p=some ⟨b,o,none⟩∧∀i,i<n→w.cell? ⟨b,o+i,none⟩=some (.int .i64 (f i))
theorem qAI.below {w w':World} {p:Option Addr} {n:Nat} {f:Nat→Int} (h:qAI w p n f) (hB:Below w.heap.size w w'):qAI w' p n f:=fun h0=>by
 obtain ⟨b,o,hp,hc⟩:=h h0
 exact ⟨b,o,hp,fun i hi=>by rw [hB.cell (p:=⟨b,o+i,none⟩) (block_lt_of_cell (hc i hi))];exact hc i hi⟩
def qLR (P:Prop) (w:World) (e:Ending) (w':World):Prop:=∃v:Bool,e= .returned (.bool v)∧(v=true↔P)∧∃m,w'=w.drewN m
theorem qCF (p:Option Addr) (n cap:Nat) (f:Nat→Int) (w:World) (h:qAI w p n f) (hn:n≤281474976710656):
  Calls Tryz.prog 81 #[.slice p n cap] w (qLR (Rises f n) w):=by
 have H:=qA h
 clear h
 go_enter Tryz.func81,Tryz.ntmps81
 go_wp2_with fail
 go_loopw [3] (fun i wr=>∃k:Nat,Hid (∀j,j<k→f j<f (j+1))∧i= .int .i64 ((k:Int)+1)∧Hid (∃m,wr=w.drewN m)) (fun i _=>n-(intOf i).toNat)
 case atStart=>exact ⟨0,fun j hj=>by omega,rfl,0,rfl⟩
 case round=>
  obtain ⟨k,hr,rfl,hm⟩:=hrel
  by_cases hlt:k+1<n
  ·obtain ⟨b,o,rfl,hc⟩:=H.out (by omega)
   have c1:wr.cell? ⟨b,o+(k+1),none⟩=some (.int .i64 (f (k+1))):=by obtain ⟨m,rfl⟩:=hm.out;exact hc (k+1) hlt
   have c2:wr.cell? ⟨b,o+k,none⟩=some (.int .i64 (f k)):=by obtain ⟨m,rfl⟩:=hm.out;exact hc k (by omega)
   clear hc
   by_cases hle:f (k+1)≤f k
   ·go_wp2_with fail
    go_region
    go_wp2_with fail
    go_ret
    obtain ⟨m,rfl⟩:=hm.out
    exact ⟨false,rfl,⟨fun h=>(by cases h),fun h=>by have:=h k hlt;omega⟩,m+1,rfl⟩
   ·go_wp2_with fail
    go_region
    go_wp2_with fail
    go_roundw
    case rel=>exact ⟨k+1,fun j hj=>by
     by_cases e:j=k
     ·subst e;omega
     ·exact hr.out j (by omega),by simp,by obtain ⟨m,rfl⟩:=hm.out;exact ⟨m+1,rfl⟩⟩
    case measure=>simp [intOf];omega
  ·go_wp2_with fail
   go_ret
   exact ⟨true,rfl,⟨fun _ j hj=>hr.out j (by omega),fun _=>rfl⟩,hm.out⟩
end Go.Proofs.YtkpmalfigmimaaaGreatDoor
namespace Go.Proofs.YtkpmalfigmimaaaGreatDoor
open Go.RowKit
open M
theorem qJH (b lo:Nat) (p:Option Addr) (n cap:Nat) (f:Nat→Int) (w0 w:World) (h:qAI w0 p n f) (hw0:w0.heap.size≤b) (hB:Below w0.heap.size w0 w) (hn:n≤4096) (hf:∀i,i<n→I64 (f i))
  (hW:Wr w lo b 0 [] 0) (hb:b<lo) (hlo:lo≤w.heap.size):
  Calls Tryz.prog 88 #[.pointer (some ⟨b,0,none⟩),.slice p n cap] w fun e w'=>e= .returned (.tuple #[])∧Wr w' lo b 0 (tbn f n) 0∧qJ b 0 123 w w':=by
 have HW:=qA hW
 have HF:=qA hf
 have HB:=qA hB
 have H:=qA h
 clear hW hf hB h
 by_cases h0:n=0
 ·subst h0
  go_enter Tryz.func88,Tryz.ntmps88
  go_wp2_with fail
  refine bodyPost_ret (results_none rfl _ _ _) rfl ?_
  exact ⟨rfl,HW.out,qJ.refl _ _ _ _⟩
 obtain ⟨rb0,ro,rfl,hc⟩:=H.out (by omega)
 have hrb:rb0<w0.heap.size:=block_lt_of_cell (hc 0 (by omega))
 have c0:w.cell? ⟨rb0,ro,none⟩=some (.int .i64 (f 0)):=by rw [HB.out.cell (p:=⟨rb0,ro,none⟩) hrb];exact hc 0 (by omega)
 have HC:=qA hc
 clear hc
 have hne:((n:Int)==0)=false:=by rw [beq_eq_false_iff_ne];omega
 go_enter Tryz.func88,Tryz.ntmps88
 go_wp2_with fail
 have e0:IntKind.u64.wrap (f 0)=((u64 (f 0):Nat):Int):=by
  unfold u64;simp only [IntKind.wrap,IntKind.bits,IntKind.signed];simp;omega
 try rw [e0]
 refine (qK b 0 lo 64 (u64 (f 0)) w [] HW.out hb hlo (by simp) (by omega) (u64_lt _) (u64_lt _)).mono ?_
 rintro e w1 ⟨rfl,W1,O1⟩
 clear c0
 go_wp2_with fail
 go_loopw [4,5] (fun t4 t5 wr=>∃k:Nat,t4= .int .u64 (ahd f k:Int)∧t5= .int .i64 ((k:Int)+1)∧Hid (k<n∧Wr wr lo b 0 (tbn f (k+1)) 0∧qJ b 0 123 w wr)) (fun _ t5 _=>n-(intOf t5).toNat)
 case atStart=>exact ⟨0,rfl,rfl,by omega,W1,O1⟩
 case round=>
  obtain ⟨k,rfl,rfl,hI⟩:=hrel
  by_cases hlt:k+1<n
  ·have hBr:Below w0.heap.size w0 wr:=HB.out.trans (hI.out.2.2.below hw0 (by have:=HB.out.size;omega))
   have c1:wr.cell? ⟨rb0,ro+(k+1),none⟩=some (.int .i64 (f (k+1))):=by rw [hBr.cell (p:=⟨rb0,ro+(k+1),none⟩) hrb];exact HC.out (k+1) hlt
   have c2:wr.cell? ⟨rb0,ro+k,none⟩=some (.int .i64 (f k)):=by rw [hBr.cell (p:=⟨rb0,ro+k,none⟩) hrb];exact HC.out k (by omega)
   clear hBr
   go_wp2_with fail
   go_region
   have ed:IntKind.u64.wrap (IntKind.u64.wrap (f (k+1))-IntKind.u64.wrap (f k))=((dif (f (k+1)) (f k):Nat):Int):=by
    unfold dif;simp only [IntKind.wrap,IntKind.bits,IntKind.signed];simp;omega
   rw [ed]
   clear ed
   obtain ⟨D,hD⟩:∃D,D=dif (f (k+1)) (f k):=⟨_,rfl⟩
   obtain ⟨A,hA⟩:∃A,A=ahd f k:=⟨_,rfl⟩
   have hD2:D<18446744073709551616:=by rw [hD];exact dif_lt _ _
   have hA2:A<18446744073709551616:=by rw [hA];exact ahd_lt _ _
   rw [←hD,←hA]
   obtain ⟨y,hy⟩:∃y:Nat,y=(((D:Int)-(A:Int))%18446744073709551616).toNat:=⟨_,rfl⟩
   have e1:IntKind.u64.wrap ((D:Int)-(A:Int))=(y:Int):=by
    rw [hy];simp only [IntKind.wrap,IntKind.bits,IntKind.signed];simp;omega
   have e2:wrap64 (y:Int)=bend D A:=by rw [hy];unfold wrap64 bend;omega
   have e3:IntKind.i64.wrap (y:Int)=bend D A:=by rw [hy];unfold bend;simp only [IntKind.wrap,IntKind.bits,IntKind.signed];simp;omega
   have HD:=qA hD
   have HA:=qA hA
   have HD2:=qA hD2
   have HA2:=qA hA2
   clear hD hA hD2 hA2 hy
   go_wp2_with fail
   refine (qE7 (bend D A) _ (bend_range _ _)).mono ?_
   rintro e w2 ⟨rfl,rfl⟩
   have Wd:Wr wr.drew lo b 0 (tbn f (k+1)) 0:=hI.out.2.1.below (Below.refl _ _).drew
   have Od:qJ b 0 123 w wr.drew:=hI.out.2.2.drew
   go_wp2_with fail
   refine (rX b 0 lo (zig (bend D A)) _ _ Wd hb (by have:=Od.size;omega) (by have:=tbn_length f k;omega) (zig_lt' _ (bend_range _ _))).mono ?_
   rintro e w3 ⟨rfl,W3,O3⟩
   go_wp2_with fail
   go_roundw
   case rel=>
    refine ⟨k+1,?_,by simp,hlt,?_,Od.trans O3⟩
    ·rw [HD.out];rfl
    ·rw [tbn_step];unfold zg;rw [←HD.out,←HA.out];exact W3
   case measure=>simp [intOf];omega
  ·go_wp2_with fail
   go_end0
   obtain rfl:n=k+1:=by have:=hI.out.1;omega
   exact ⟨rfl,hI.out.2.1,hI.out.2.2⟩
def qIV (f:Nat→Int) (n:Nat) (w:World) (e:Ending) (w':World):Prop:=
 ∃(g L:Nat),L=(packed (tbn f n)).length∧w.heap.size≤g∧e= .returned (.tuple #[.slice (some ⟨g,0,none⟩) L L,.int .i64 0])∧
  w'.heap[g]?=some (.cells (qM (packed (tbn f n))).toArray 5 (0,0))∧Below w.heap.size w w'
theorem uF {B:Nat} {w w':World} (h:Below B w w') (m:Nat):Below B w (w'.drewN m):=⟨h.os,h.tape,h.output,h.size,h.block⟩
theorem qJT (p:Option Addr) (n cap:Nat) (f:Nat→Int) (w:World) (h:qAI w p n f) (hn:n≤4096) (hf:∀i,i<n→I64 (f i)) (hr:Rises f n):
  Calls Tryz.prog 63 #[.slice p n cap] w (qIV f n w):=by
 have H:=qA h
 have HF:=qA hf
 have HR:=qA hr
 clear h hf hr
 go_enter Tryz.func63,Tryz.ntmps63
 go_wp2_with fail
 refine (qCF p n cap f w H.out (by omega)).mono ?_
 rintro e w1 ⟨v,rfl,hv,m,rfl⟩
 obtain rfl:v=true:=hv.2 HR.out
 clear hv
 obtain ⟨wm,hwm⟩:∃wm,wm=w.drewN m:=⟨_,rfl⟩
 have Hwm:Hid (Below w.heap.size w wm∧wm.heap.size=w.heap.size∧qAI wm p n f):=by
  rw [hwm];exact ⟨uF (Below.refl _ _) m,rfl,H.out⟩
 rw [←hwm]
 clear hwm H
 obtain ⟨g,hg⟩:∃g,g=wm.heap.size:=⟨_,rfl⟩
 obtain ⟨W1,hW1⟩:∃W1,W1=wm.alloc (.cells zW 98):=⟨_,rfl⟩
 have HM:Hid (Wr W1 (g+1) g 0 [] 0∧g+1≤W1.heap.size∧Below wm.heap.size wm W1):=by
  have B1:Below wm.heap.size wm W1:=by rw [hW1];exact (Below.refl _ wm).alloc (Nat.le_refl _) _
  refine ⟨?_,by rw [hW1,hg];simp,B1⟩
  rw [hg,hW1];exact gO (heap_alloc_new wm _)
 have HG:=qA hg
 go_upto_region 5 with fail
 refine wp_region_list ?_
 refine wpList_build rfl 98 #[] rfl (by kernel_rfl) ?_
 simp only [Array.map_empty]
 rw [zI]
 refine Go.Great.wpList_boxTo rfl 98 (.tmp 13) rfl (some 14) rfl g hg.symm zW rfl ?_
 rw [←hW1]
 clear hW1 hg
 go_wp2_with fail
 refine (qJH g (g+1) p n cap f wm W1 Hwm.out.2.2 (by rw [HG.out];omega) HM.out.2.2 hn HF.out HM.out.1 (by omega) HM.out.2.1).mono ?_
 rintro e w2 ⟨rfl,W2,O2⟩
 have s2:=HM.out.2.1
 have s3:=O2.size
 have hl:=tbn_length' f n
 have HL:=qA hl
 clear hl
 go_wp2_with fail
 refine (qW g 0 (g+1) w2 _ W2 (by omega) (by have:=HL.out;omega) _ rfl).mono ?_
 rintro e w3 ⟨rfl,G3,B3⟩
 go_wp2_with fail
 go_ret2
 have e1:=Hwm.out.1
 have e2:=Hwm.out.2.1
 have e3:=HM.out.2.2
 have e4:=HG.out
 refine ⟨w2.heap.size,((tbn f n).length+7)/8,(packed_length _).symm,by omega,rfl,G3,?_⟩
 rw [e2] at e3
 exact ((e1.trans e3).trans (O2.below (by omega) (by omega))).trans (B3.mono (by omega))
end Go.Proofs.YtkpmalfigmimaaaGreatDoor
namespace Go.Proofs.YtkpmalfigmimaaaGreatDoor
open Go.RowKit
open M
theorem dO (c:Nat) (h:c≤4096) (w:World):
  (Instr.makeSlice 104 (.int .i64 (c:Int)) (.int .i64 (c:Int))).run Tryz.prog w= .ok (.slice (some ⟨w.heap.size,0,none⟩) c c) (w.alloc (.cells (Array.replicate c (Value.int .i64 0)) 2)):=by
 have hz:(Tryz.prog.info? 2).bind (·.zero)=some (.int .i64 0):=by kernel_rfl
 have hs:(Tryz.prog.info? 2).map (·.size)=some 1:=by kernel_rfl
 have hb:(Tryz.prog.info? 2).map (·.bytes)=some 8:=by kernel_rfl
 cases hi:Tryz.prog.info? 2 with
 |none=>simp [hi] at hs
 |some i=>
  simp only [hi,Option.bind_some,Option.map_some,Option.some.injEq] at hz hs hb
  rw [run_make w 104 2 i _ Tryz.underlying104 hi hz .i64 .i64 (c:Int) (c:Int) (by omega) (by omega) (by rw [hb];omega) (by omega)]
  have e:madeCells (Value.int .i64 0).cells ((c:Int).toNat*i.size)=Array.replicate c (Value.int .i64 0):=by
   rw [hs]
   apply Array.ext
   ·simp [madeCells]
   ·intro j h1 h2
    simp [madeCells,Value.cells,Nat.mod_one]
  rw [e];simp
structure TW (w:World) (g n k:Nat) (f:Nat→Int):Prop where
 cell:∀i,i<n→w.cell? ⟨g,i,none⟩=some (.int .i64 (if i<k then f i else 0))
 fz:∀i,w.frozen? ⟨g,i,none⟩=false
 blk:∃cur:Array Value,w.heap[g]?=some (.cells cur 2 (0,0))∧cur.size=n
theorem TW.new (w:World) (n:Nat) (f:Nat→Int):TW (w.alloc (.cells (Array.replicate n (Value.int .i64 0)) 2)) w.heap.size n 0 f:=by
 have hn:=heap_alloc_new w (.cells (Array.replicate n (Value.int .i64 0)) 2)
 refine ⟨fun i hi=>?_,fun i=>frozen_of_row _ _ _ _ _ hn,_,hn,by simp⟩
 rw [cell_of_row _ _ _ _ _ _ hn]
 simp [hi]
theorem TW.set {w:World} {g n k:Nat} {f:Nat→Int} (h:TW w g n k f) (hk:k<n) (t:Int):TW (w.setCell ⟨g,k,none⟩ (.int .i64 t)) g n (k+1) (fun i=>if i=k then t else f i):=by
 refine ⟨fun i hi=>?_,fun i=>by rw [qE];exact h.fz i,?_⟩
 case refine_2=>
  obtain ⟨cur,h1,h2⟩:=h.blk
  exact ⟨_,heap_setCell_same w g k cur _ _ h1,by simpa using h2⟩
 by_cases e:i=k
 ·subst e
  rw [qF _ _ _ _ _ (h.cell i hi)];simp
 ·rw [qC _ _ _ _ _ e,h.cell i hi]
  by_cases h1:i<k
  ·simp [h1,e,show i<k+1 from by omega]
  ·simp [h1,show ¬i<k+1 from by omega]
theorem TW.only {w w':World} {g n k b lo hi:Nat} {f:Nat→Int} (h:TW w g n k f) (ho:qJ b lo hi w w') (hg:g≠b) (hs:g<w.heap.size):TW w' g n k f:=by
 have e:=ho.block g hs hg
 exact ⟨fun i hi=>by rw [World.cell?_of_block (w:=w) e];exact h.cell i hi,fun i=>by rw [World.frozen?_of_block (w:=w) (w':=w') (a:=⟨g,i,none⟩) e];exact h.fz i,by rw [e];exact h.blk⟩
theorem TW.congr {w:World} {g n k:Nat} {f f':Nat→Int} (h:TW w g n k f) (e:∀i,i<k→f i=f' i):TW w g n k f':=
 ⟨fun i hi=>by
         rw [h.cell i hi];by_cases h1:i<k
         ·rw [if_pos h1,if_pos h1,e i h1]
         ·rw [if_neg h1,if_neg h1],h.fz,h.blk⟩
theorem qJ.setOther {b lo hi:Nat} {u w:World} (h:qJ b lo hi u w) (g i:Nat) (hg:u.heap.size≤g) (hb:g≠b) (v:Value):qJ b lo hi u (w.setCell ⟨g,i,none⟩ v):=by
 have hbk:∀k,k≠g→(w.setCell ⟨g,i,none⟩ v).heap[k]?=w.heap[k]?:=fun k hk=>Below.heap_setCell _ _ _ _ hk
 refine ⟨h.os,h.tape,h.output,Nat.le_trans h.size (by simp [World.setCell]),fun k hk hb=>?_,fun j hj=>?_,fun j=>?_⟩
 ·rw [hbk k (by omega)];exact h.block k hk hb
 ·rw [World.cell?_of_block (w:=w) (hbk b (by omega))];exact h.cell j hj
 ·rw [qE];exact h.frozen j
theorem Rd.setOther {w:World} {b off:Nat} {s:ByteArray} {a:Nat} {e:Int} (h:Rd w b off s a e) (g i:Nat) (hb:g≠b) (v:Value):Rd (w.setCell ⟨g,i,none⟩ v) b off s a e:=by
 have hbk:(w.setCell ⟨g,i,none⟩ v).heap[b]?=w.heap[b]?:=Below.heap_setCell _ _ _ _ (fun e=>hb e.symm)
 have hc:∀j,(w.setCell ⟨g,i,none⟩ v).cell? ⟨b,j,none⟩=w.cell? ⟨b,j,none⟩:=fun j=>World.cell?_of_block (w:=w) hbk
 exact ⟨by rw [hc];exact h.text,by rw [hc];exact h.at_,by rw [hc];exact h.err,fun j hj=>by rw [qE];exact h.fz j hj,h.size,h.le⟩
def mY (R:List Bool) (g:Nat→Int) (n:Nat):Prop:=(∀i,i<n→I64 (g i))∧∃r,R=tbn g n++r
structure Tn (w wr:World) (b:Nat) (s:ByteArray) (g n k a:Nat) (e1:Int) (f:Nat→Int):Prop where
 row:TW wr g n k f
 rd:Rd wr b 0 s a e1
 only:qJ b 0 3 w wr
 size:g<wr.heap.size
 rng:∀i,i<k→I64 (f i)
 sound:e1=0→(rb s).take a=tbn f k
 full:∀h,mY (rb s) h n→e1=0∧∀i,i<k→f i=h i
def qIZ (w:World) (b:Nat) (s:ByteArray) (n:Nat) (e:Ending) (w':World):Prop:=
 (e= .returned (.tuple #[.slice none 0 0,.bool false])∧qJ b 0 3 w w'∧¬∃h,mY (rb s) h n)∨
  ∃(a:Nat) (e1:Int) (f:Nat→Int),e= .returned (.tuple #[.slice (some ⟨w.heap.size,0,none⟩) n n,.bool true])∧Tn w w' b s w.heap.size n n a e1 f
theorem Tn.first {w w1 w2:World} {b:Nat} {s:ByteArray} {g n a x:Nat} {e1:Int} {f:Nat→Int} (hn:0<n) (hg:w.heap.size≤g) (hgb:g≠b) (hgs:g<w1.heap.size) (R:TW w1 g n 0 f) (O:qJ b 0 3 w w1)
  (T:TkT w1 w2 b 0 s 0 0 a e1 (bitsOf x 64)) (hx:x<18446744073709551616):
  Tn w (w2.setCell ⟨g,0,none⟩ (.int .i64 (wrap64 (x:Int)))) b s g n 1 a e1 (fun _=>wrap64 (x:Int)):=by
 have hu:u64 (wrap64 (x:Int))=x:=by unfold u64 wrap64;omega
 have hs2:=T.only.size
 have hS:e1=0→(rb s).take a=tbn (fun _=>wrap64 (x:Int)) 1:=fun h=>by rw [(T.sound h).2,tbn_one,hu];simp
 refine ⟨?_,T.rd.setOther g 0 hgb _,(O.trans T.only).setOther g 0 hg hgb _,by simp [World.setCell];omega,fun i hi=>?_,hS,?_⟩
 ·exact ((R.only T.only hgb hgs).set hn _).congr fun i hi=>by rw [if_pos (by omega)]
 ·unfold I64 wrap64;omega
 ·rintro h ⟨hr,r,hR⟩
  obtain ⟨r1,h1⟩:=tbn_prefix h 1 n hn
  rw [h1,tbn_one,List.append_assoc] at hR
  have he:e1=0:=T.full rfl (by rw [hR];simp)
  refine ⟨he,fun i hi=>?_⟩
  obtain rfl:i=0:=by omega
  have h2:=take_eq_drop _ _ 0 a (by rw [hS he,tbn_one];rfl)
  rw [List.drop_zero,hR] at h2
  have:=(bits_inj _ _ 64 _ _ (u64_lt _) (u64_lt _) h2).1
  exact (u64_inj _ _ (hr 0 hn) (by unfold I64 wrap64;omega) this).symm
theorem Tn.next {w wr w2:World} {b:Nat} {s:ByteArray} {g n k a a':Nat} {e1 e2:Int} {f:Nat→Int} (hk:k+1<n) (hg:w.heap.size≤g) (hgb:g≠b) (T:Tn w wr b s g n (k+1) a e1 f) (u D:Nat) (t:Int) (hu:u<18446744073709551616)
  (hR:Rd w2 b 0 s a' e2) (hO:qJ b 0 3 wr w2) (hs:e2=0→e1=0∧(rb s).take a'=(rb s).take a++zb u)
  (hf:e1=0→∀v r,v<18446744073709551616→(rb s).drop a=zb v++r→u=v∧e2=0)
  (hD:(D:Int)=((ahd f k:Nat)+zag u)%18446744073709551616) (ht:t=(f k+(D:Int)+9223372036854775808)%18446744073709551616-9223372036854775808):
  Tn w (w2.setCell ⟨g,k+1,none⟩ (.int .i64 t)) b s g n (k+2) a' e2 (fun i=>if i=k+1 then t else f i)∧ahd (fun i=>if i=k+1 then t else f i) (k+1)=D:=by
 obtain ⟨t1,t2,t3,t4⟩:=take_next (f k) (ahd f k) u (T.rng k (by omega)) (zag u) (qK9 u) (uV u hu) D hD t ht
 have hs2:=hO.size
 have hsz:=T.size
 obtain ⟨F,hF⟩:∃F:Nat→Int,F=fun i=>if i=k+1 then t else f i:=⟨_,rfl⟩
 have F1:F (k+1)=t:=by rw [hF];simp
 have F2:∀i,i≤k→F i=f i:=fun i hi=>by rw [hF];simp;omega
 have ea:ahd F k=ahd f k:=by
  cases k with
  |zero=>rfl
  |succ k=>simp only [ahd];rw [F2 (k+1) (by omega),F2 k (by omega)]
 have ez:zg F k=u:=by unfold zg;rw [F1,F2 k (by omega),ea];exact t4
 have ed:ahd F (k+1)=D:=by simp only [ahd];rw [F1,F2 k (by omega)];exact t2
 have eb:tbn F (k+1)=tbn f (k+1):=tbn_congr _ _ _ fun i hi=>F2 i (by omega)
 rw [←hF]
 refine ⟨⟨?_,hR.setOther g _ hgb _,(T.only.trans hO).setOther g _ hg hgb _,by simp [World.setCell];omega,fun i hi=>?_,fun he=>?_,?_⟩,ed⟩
 ·rw [hF];exact (T.row.only hO hgb T.size).set hk t
 ·by_cases e:i=k+1
  ·subst e;rw [F1];exact t1
  ·rw [F2 i (by omega)];exact T.rng i (by omega)
 ·obtain ⟨h1,h2⟩:=hs he
  rw [h2,T.sound h1,tbn_step,ez,eb]
 ·intro h hB
  obtain ⟨h1,h2⟩:=T.full h hB
  obtain ⟨hr,r,hRR⟩:=hB
  obtain ⟨r1,h3⟩:=tbn_prefix h (k+2) n (by omega)
  rw [h3,tbn_step,List.append_assoc,List.append_assoc] at hRR
  have h4:(rb s).take a=tbn h (k+1):=by rw [T.sound h1];exact tbn_congr _ _ _ h2
  have h5:(rb s).drop a=zb (zg h k)++(r1++r):=by
   have:=List.take_append_drop a (rb s)
   rw [h4] at this
   rw [hRR] at this⊢
   exact List.append_cancel_left this
  obtain ⟨h6,h7⟩:=hf h1 _ _ (zg_lt h k) h5
  refine ⟨h7,fun i hi=>?_⟩
  by_cases e:i=k+1
  ·subst e
   exact zg_inj F h k (by rw [F1];exact t1) (hr _ (by omega)) (fun j hj=>by rw [F2 j hj];exact h2 j (by omega)) (by rw [ez];exact h6)
  ·rw [F2 i (by omega)];exact h2 i (by omega)
theorem Tn.none {w wr:World} {b:Nat} {s:ByteArray} {g n k a:Nat} {e1:Int} {f:Nat→Int} (hk:k+1<n) (T:Tn w wr b s g n (k+1) a e1 f)
  (hf:e1=0→∀v r,v<18446744073709551616→(rb s).drop a=zb v++r→False):¬∃h,mY (rb s) h n:=by
 rintro ⟨h,hB⟩
 obtain ⟨h1,h2⟩:=T.full h hB
 obtain ⟨hr,r,hRR⟩:=hB
 obtain ⟨r1,h3⟩:=tbn_prefix h (k+2) n (by omega)
 rw [h3,tbn_step,List.append_assoc,List.append_assoc] at hRR
 have h4:(rb s).take a=tbn h (k+1):=by rw [T.sound h1];exact tbn_congr _ _ _ h2
 refine hf h1 (zg h k) (r1++r) (zg_lt h k) ?_
 have:=List.take_append_drop a (rb s)
 rw [h4] at this
 rw [hRR] at this⊢
 exact List.append_cancel_left this
end Go.Proofs.YtkpmalfigmimaaaGreatDoor
