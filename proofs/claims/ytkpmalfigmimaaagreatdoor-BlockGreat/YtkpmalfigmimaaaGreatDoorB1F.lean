import Derived.Test.YtkpmalfigmimaaaGreatDoorB1W
import Derived.Laws.BytesArg
set_option linter.unusedVariables false
set_option linter.unusedSimpArgs false
set_option maxRecDepth 100000
set_option maxHeartbeats 8000000
namespace Go.Proofs.YtkpmalfigmimaaaGreatDoor
open Go.RowKit
open M
def zT (s:ByteArray):List Nat:=s.data.toList.map UInt8.toNat
@[simp] theorem qGU (s:ByteArray):(zT s).length=s.size:=by simp [zT]
structure Rd (w:World) (b off:Nat) (s:ByteArray) (a:Nat) (e:Int):Prop where
 text:w.cell? ⟨b,off,none⟩=some (.string s)
 at_:w.cell? ⟨b,off+1,none⟩=some (.int .i64 a)
 err:w.cell? ⟨b,off+2,none⟩=some (.int .i64 e)
 fz:∀j,j<3→w.frozen? ⟨b,off+j,none⟩=false
 size:s.size≤1000000000000
 le:a≤8*s.size
theorem Rd.drewN {w:World} {b off:Nat} {s:ByteArray} {a:Nat} {e:Int} (h:Rd w b off s a e) (n:Nat):Rd (w.drewN n) b off s a e:=⟨h.text,h.at_,h.err,h.fz,h.size,h.le⟩
theorem xN (b off:Nat) (s:ByteArray) (w:World) (h:w.cell? ⟨b,off,none⟩=some (.string s)) (hs:s.size≤1000000000000):
  Calls Tryz.prog 106 #[.pointer (some ⟨b,off,none⟩)] w fun e w'=>e= .returned (.int .i64 ((8*s.size:Nat):Int))∧w'=w:=by
 go_enter Tryz.func106,Tryz.ntmps106
 go_wp2
 go_ret
 exact ⟨by simp;omega,rfl⟩
theorem kK (b off:Nat) (s:ByteArray) (a:Nat) (e0:Int) (w:World) (h:Rd w b off s a e0):
  Calls Tryz.prog 95 #[.pointer (some ⟨b,off,none⟩)] w fun e w'=>e= .returned (.int .i64 ((8*s.size-a:Nat):Int))∧∃n,w'=w.drewN n:=by
 have h1:=h.text
 have h2:=h.at_
 have h3:=h.size
 have h4:=h.le
 go_enter Tryz.func95,Tryz.ntmps95
 go_wp2_with fail
 go_quiet ((go_at_call 106;exact Calls.quiet_of_same (xN b off s _ h1 h3)))
 go_wp2
 go_ret
 exact ⟨by simp;omega,_,rfl⟩
theorem uH (b off:Nat) (m:Int) (w:World) (hn:w.cell? ⟨b,off+2,none⟩=some (.int .i64 0)) (hf:w.frozen? ⟨b,off+2,none⟩=false):
  Calls Tryz.prog 94 #[.pointer (some ⟨b,off,none⟩),.int .i64 m] w fun e w'=>e= .returned (.tuple #[])∧w'=w.setCell ⟨b,off+2,none⟩ (.int .i64 m):=by
 go_enter Tryz.func94,Tryz.ntmps94
 go_wp2
 go_end0
 exact ⟨rfl,rfl⟩
theorem bL (b off:Nat) (m e0:Int) (w:World) (hn:w.cell? ⟨b,off+2,none⟩=some (.int .i64 e0)) (hf:(e0==0)=false):
  Calls Tryz.prog 94 #[.pointer (some ⟨b,off,none⟩),.int .i64 m] w fun e w'=>e= .returned (.tuple #[])∧w'=w:=by
 go_enter Tryz.func94,Tryz.ntmps94
 go_wp2
 go_end0
 exact ⟨rfl,rfl⟩
end Go.Proofs.YtkpmalfigmimaaaGreatDoor
namespace Go.Proofs.YtkpmalfigmimaaaGreatDoor
open Go.RowKit
open M
def kZ (w:World) (lo:Nat) (l:List Bool):Nat→Option Addr→Prop
 |0,p=>p=none
 |k+1,p=>∃c q,p=some ⟨c,0,none⟩∧lo≤c∧pV w c q (fun j=>byteAt l (120*k+j))∧kZ w lo l k q
def Wr (w:World) (lo b off:Nat) (l:List Bool) (e:Int):Prop:=
 ∃p,Raw w b off p (fun j=>byteAt l (120*(l.length/960)+j)) l.length e∧kZ w lo l (l.length/960) p
theorem pV.congr {w:World} {c:Nat} {q:Option Addr} {f g:Nat→Nat} (h:pV w c q f) (e:∀j,j<120→f j=g j):pV w c q g:=
 ⟨h.1,fun j hj=>by rw [←e j hj];exact h.2 j hj⟩
theorem Raw.congr {w:World} {b off:Nat} {p:Option Addr} {f g:Nat→Nat} {n m:Nat} {e:Int} (h:Raw w b off p f n e) (he:∀j,j<120→f j=g j) (hn:n=m):Raw w b off p g m e:=by
 subst hn
 exact ⟨h.full,fun j hj=>by rw [←he j hj];exact h.last j hj,h.len,h.err,h.fz⟩
theorem pV.lt {w:World} {c:Nat} {q:Option Addr} {f:Nat→Nat} (h:pV w c q f):c<w.heap.size:=block_lt_of_cell h.1
theorem pV.only {w w':World} {c:Nat} {q:Option Addr} {f:Nat→Nat} (h:pV w c q f) {b o1 o2:Nat} (ho:qJ b o1 o2 w w') (hc:c≠b):pV w' c q f:=by
 have e:=ho.block c h.lt hc
 exact ⟨by rw [World.cell?_of_block (w:=w) e];exact h.1,fun j hj=>by rw [World.cell?_of_block (w:=w) e];exact h.2 j hj⟩
theorem kZ.only {w w':World} {lo:Nat} {l:List Bool} {b o1 o2:Nat} (ho:qJ b o1 o2 w w') (hb:b<lo):∀{k:Nat} {p:Option Addr},kZ w lo l k p→kZ w' lo l k p
 |0,_,h=>h
 |_+1,_,⟨c,q,hp,hc,hk,hr⟩=>⟨c,q,hp,hc,hk.only ho (by omega),kZ.only ho hb hr⟩
theorem kZ.append {w:World} {lo:Nat} {l:List Bool} (m:List Bool):∀{k:Nat} {p:Option Addr},960*k≤l.length→kZ w lo l k p→kZ w lo (l++m) k p
 |0,_,_,h=>h
 |k+1,_,hl,⟨c,q,hp,hc,hk,hr⟩=>⟨c,q,hp,hc,hk.congr fun j hj=>(byteAt_full l m _ (by omega)).symm,kZ.append m (by omega) hr⟩
theorem qC8 (x n kk:Nat) (h:kk≤8) (hk:0<kk):bits BinOp.and IntKind.u8 ((x:Int)/2^n%256) (255/2^(8-kk))=((x/2^n%2^kk:Nat):Int):=by
 have e1:((x:Int)/2^n%256)=((x/2^n%256:Nat):Int):=by simp
 generalize hy:x/2^n%256=y at e1
 have hy2:y<256:=by omega
 rw [e1]
 have e2:x/2^n%2^kk=y%2^kk:=by
  rw [←hy,show (256:Nat)=2^kk*2^(8-kk) from by rw [←Nat.pow_add,show kk+(8-kk)=8 from by omega],Nat.mod_mul_right_mod]
 rw [e2]
 have h8:kk=1∨kk=2∨kk=3∨kk=4∨kk=5∨kk=6∨kk=7∨kk=8:=by omega
 have hm:=fun i (hi:i≤8)=>bits_mask .u8 8 (by decide) wraps_u8 i hi (y:Int) (by omega) (by omega)
 rcases h8 with rfl|rfl|rfl|rfl|rfl|rfl|rfl|rfl
 ·simpa using hm 1 (by omega)
 ·simpa using hm 2 (by omega)
 ·simpa using hm 3 (by omega)
 ·simpa using hm 4 (by omega)
 ·simpa using hm 5 (by omega)
 ·simpa using hm 6 (by omega)
 ·simpa using hm 7 (by omega)
 ·simpa using hm 8 (by omega)
theorem qKF (v part room kk:Nat) (hv:v%2^room=0) (hv2:v<256) (hp:part<2^kk) (hk:kk≤room) (hr:room≤8):
  bits BinOp.or IntKind.u8 (v:Int) ((part:Int)*2^(room-kk)%256)=((v+part*2^(room-kk):Nat):Int):=by
 have h1:part*2^(room-kk)<2^room:=by
  calc part*2^(room-kk)<2^kk*2^(room-kk):=Nat.mul_lt_mul_of_pos_right hp (Nat.pos_of_ne_zero (by simp))
   _=2^room:=by rw [←Nat.pow_add,Nat.add_sub_cancel' hk]
 have h2:(2:Nat)^room≤2^8:=Nat.pow_le_pow_right (by omega) hr
 have e1:((part:Int)*2^(room-kk)%256)=((part*2^(room-kk):Nat):Int):=by
  have:((part:Int)*2^(room-kk))=((part*2^(room-kk):Nat):Int):=by simp
  rw [this];omega
 rw [e1]
 generalize part*2^(room-kk)=y at*
 rw [bits_join .u8 8 (by decide) wraps_u8 room (v:Int) (y:Int) (by omega) (by exact_mod_cast hv) (by omega) (by omega) (by exact_mod_cast h1) (by omega)]
 simp
theorem pF {wr:World} {b off:Nat} {p:Option Addr} {L:List Bool} {len q room kk part v:Nat} (hR:Raw wr b off p (fun j=>byteAt L (120*(len/960)+j)) len 0) (hl:L.length=len)
  (hq:(len:Int)%960/8=(q:Int)) (hroom:(8:Int)-(len:Int)%8=(room:Int)) (hk:kk≤room) (m:List Bool) (hm:m.length=kk) (hp:num m=part)
  (hv:byteAt L (120*(len/960)+q)=v) (z:Int) (hz:z=(part:Int)*2^(room-kk)%256) (nq:Nat):
  Raw (((wr.drewN nq).setCell ⟨b,off+1+q,none⟩ (.int .u8 (bits BinOp.or IntKind.u8 (v:Int) z))).setCell ⟨b,off+121,none⟩ (.int .i64 ((len:Int)+kk))) b off p (fun j=>byteAt (L++m) (120*(len/960)+j)) (L++m).length 0∧
   qJ b off (off+123) wr (((wr.drewN nq).setCell ⟨b,off+1+q,none⟩ (.int .u8 (bits BinOp.or IntKind.u8 (v:Int) z))).setCell ⟨b,off+121,none⟩ (.int .i64 ((len:Int)+kk))):=by
 have hq':120*(len/960)+q=len/8:=by omega
 have hqlt:q<120:=by omega
 have hdiv:L.length=8*(len/8)+len%8:=by omega
 have hr':room=8-len%8:=by omega
 have hvm:v%2^room=0:=by rw [←hv,hq',hr'];exact byteAt_mod L _ _ hdiv (by omega)
 have hpl:part<2^kk:=by rw [←hp,←hm];exact num_lt m
 rw [hz,qKF v part room kk hvm (by rw [←hv];exact byteAt_lt _ _) hpl hk (by omega)]
 refine ⟨?_,((((qJ.refl b off (off+123) wr).drewN nq).setCell _ (by omega) (by omega) _).setCell _ (by omega) (by omega) _)⟩
 have h1:=((hR.drewN nq).setLast q (v+part*2^(room-kk)) hqlt).setLen (len+kk)
 rw [show ((len+kk:Nat):Int)=(len:Int)+kk from by omega] at h1
 refine h1.congr (fun j hj=>?_) (by simp;omega)
 by_cases e:j=q
 ·subst e
  simp only [if_true]
  rw [hq',byteAt_here L m _ _ hdiv (by omega) (by omega),←hv,hq',hp,hm,hr']
 ·simp only [if_neg e]
  by_cases h2:j<q
  ·rw [byteAt_full L m _ (by omega)]
  ·rw [byteAt_beyond L _ (by omega),byteAt_beyond (L++m) _ (by simp;omega)]
theorem qL7 {wr w2:World} {lo b off:Nat} {p:Option Addr} {L m:List Bool} (hC:kZ wr lo L (L.length/960) p)
  (hR:Raw w2 b off p (fun j=>byteAt (L++m) (120*(L.length/960)+j)) (L++m).length 0) (hO:qJ b off (off+123) wr w2) (hb:b<lo) (he:(L++m).length/960=L.length/960):Wr w2 lo b off (L++m) 0:=by
 refine ⟨p,?_,?_⟩
 ·rw [he];exact hR
 ·rw [he];exact kZ.append m (by omega) (kZ.only hO hb hC)
theorem qLC {wr w2 w3:World} {lo b off c:Nat} {p:Option Addr} {L m:List Bool} (hC:kZ wr lo L (L.length/960) p) (hO:qJ b off (off+123) wr w2) (hO2:qJ b off (off+123) w2 w3) (hb:b<lo) (hc:lo≤c)
  (hR:Raw w3 b off (some ⟨c,0,none⟩) (fun _=>0) (L++m).length 0) (hK:pV w3 c p (fun j=>byteAt (L++m) (120*(L.length/960)+j)))
  (he:(L++m).length=960*(L.length/960+1)):Wr w3 lo b off (L++m) 0:=by
 have e:(L++m).length/960=L.length/960+1:=by omega
 refine ⟨some ⟨c,0,none⟩,?_,?_⟩
 ·rw [e];exact hR.congr (fun j _=>(byteAt_beyond _ _ (by omega)).symm) rfl
 ·rw [e];exact ⟨c,p,rfl,hc,hK,kZ.append m (by omega) (kZ.only hO2 hb (kZ.only hO hb hC))⟩
theorem qFI (l:List Bool) (x n n' kk:Nat) (hk:n'+kk≤n):l++bitsOf (x/2^(n'+kk)) (n-(n'+kk))++bitsOf (x/2^n') kk=l++bitsOf (x/2^n') (n-n'):=by
 rw [List.append_assoc]
 congr 1
 have:=bitsOf_split (x/2^n') (n-(n'+kk)) kk
 rw [show n-(n'+kk)+kk=n-n' from by omega,Nat.div_div_eq_div_mul,←Nat.pow_add] at this
 exact this.symm
theorem bH (b off lo:Nat) (n x:Nat) (w:World) (l:List Bool) (hW:Wr w lo b off l 0) (hb:b<lo) (hlo:lo≤w.heap.size)
  (hlen:l.length+n<1000000000000) (hn64:n≤64) (hx:x<18446744073709551616)
  :
  Calls Tryz.prog 74 #[.pointer (some ⟨b,off,none⟩),.int .u64 x,.int .i64 n] w fun e w'=>e= .returned (.tuple #[])∧Wr w' lo b off (l++bitsOf x n) 0∧qJ b off (off+123) w w':=by
 have he:w.cell? ⟨b,off+122,none⟩=some (.int .i64 0):=by obtain ⟨p,hr,_⟩:=hW;exact hr.err
 go_enter Tryz.func74,Tryz.ntmps74
 go_wp2
 go_loopw [2] (fun i wr=>∃k:Nat,k≤n∧i= .int .i64 k∧Wr wr lo b off (l++bitsOf (x/2^k) (n-k)) 0∧qJ b off (off+123) w wr) (fun i _=>(intOf i).toNat)
 case atStart=>exact ⟨n,Nat.le_refl _,rfl,by simpa [bitsOf] using hW,qJ.refl _ _ _ _⟩
 case round=>
  obtain ⟨k,hk,rfl,hWr,hO⟩:=hrel
  by_cases hlt:0<k
  ·obtain ⟨p,hR,hC⟩:=hWr
   have hll:(l++bitsOf (x/2^k) (n-k)).length+k<1000000000000:=by simp;omega
   generalize hL:l++bitsOf (x/2^k) (n-k)=L at*
   have HL:Hid (l++bitsOf (x/2^k) (n-k)=L):=hL
   clear hL
   generalize hlenL:L.length=len at*
   have Hlen:Hid (L.length=len):=hlenL
   clear hlenL hW he
   obtain ⟨room,hroom,hr1,hr8⟩:∃room:Nat,(8:Int)-(len:Int)%8=(room:Int)∧1≤room∧room≤8:=⟨8-len%8,by omega,by omega,by omega⟩
   obtain ⟨q,hq,hq120⟩:∃q:Nat,(len:Int)%960/8=(q:Int)∧q<120:=⟨len%960/8,by omega,by omega⟩
   have c1:=hR.len
   have c2:=hR.last q hq120
   have c3:=hR.fz (1+q) (by omega)
   rw [show off+(1+q)=off+1+q from by omega] at c3
   have c4:=hR.fz 121 (by omega)
   generalize hv:byteAt L (120*(len/960)+q)=v at c2
   have Hv:Hid (byteAt L (120*(len/960)+q)=v):=hv
   clear hv
   have hv256:v<256:=by rw [←Hv.out];exact byteAt_lt _ _
   obtain ⟨n',kk,rfl,hk0,hkr,hor⟩:∃n' kk,k=n'+kk∧0<kk∧kk≤room∧((n'=0∧kk<room)∨kk=room):=by
    by_cases h:k<room
    ·exact ⟨0,k,by omega,hlt,by omega,.inl ⟨rfl,h⟩⟩
    ·exact ⟨k-room,room,by omega,by omega,by omega,.inr rfl⟩
   obtain ⟨part,hpart,hp1⟩:∃part:Nat,bits BinOp.and IntKind.u8 ((x:Int)/2^n'%256) (255/2^(8-kk))=(part:Int)∧Hid (part=x/2^n'%2^kk):=⟨_,qC8 x n' kk (by omega) hk0,rfl⟩
   have Hnum:Hid (num (bitsOf (x/2^n') kk)=part):=by show _=_;rw [num_bitsOf];exact hp1.out.symm
   have HN:Hid (L++bitsOf (x/2^n') kk=l++bitsOf (x/2^n') (n-n')):=by show _=_;rw [←HL.out];exact qFI l x n n' kk hk
   have hdl:(L++bitsOf (x/2^n') kk).length=len+kk:=by simp [Hlen.out]
   have Hdl:Hid ((L++bitsOf (x/2^n') kk).length=len+kk):=hdl
   clear hp1 HL hdl
   rcases hor with ⟨rfl,hkl⟩|rfl
   ·have hpart':bits BinOp.and IntKind.u8 ((x:Int)%256) (255/2^(8-kk))=(part:Int):=by simpa using hpart
    have h9:(((len:Int)+kk)%960==0)=false:=by rw [beq_eq_false_iff_ne];omega
    simp only [Nat.zero_add] at hk hlt hll
    rw [Nat.zero_add]
    go_wp2_with fail
    go_quiet ((go_at_call 92;exact Calls.quiet_of_same (xJ kk _ (by omega))))
    go_wp2_with fail
    go_region
    go_wp2_with fail
    obtain ⟨r2,o2⟩:=pF hR Hlen.out hq hroom hkr (bitsOf (x/2^0) kk) (by simp) Hnum.out Hv.out _ rfl (nq+1)
    refine ⟨⟨0,Nat.zero_le _,rfl,?_,hO.trans o2⟩,by simp [intOf];omega⟩
    rw [←HN.out]
    have Hl:=Hlen.out
    subst Hl
    exact qL7 hC r2 o2 hb (by rw [Hdl.out];omega)
   ·by_cases h9:(len+kk)%960=0
    ·have h9':(((len:Int)+kk)%960==0)=true:=by rw [beq_iff_eq];omega
     go_wp2_with fail
     go_quiet ((go_at_call 92;exact Calls.quiet_of_same (xJ kk _ (by omega))))
     go_wp2_with fail
     go_region
     go_wp2_with fail
     obtain ⟨r2,o2⟩:=pF hR Hlen.out hq hroom hkr (bitsOf (x/2^n') kk) (by simp) Hnum.out Hv.out ((part:Int)%256) (by simp) (nq+1)
     refine (lL b off p _ _ 0 _ r2).mono ?_
     rintro e w3 ⟨rfl,hR3,hK3,hO3,hlt3⟩
     go_wp2
     refine ⟨⟨n',by omega,rfl,?_,(hO.trans o2).trans hO3⟩,by simp [intOf];omega⟩
     rw [←HN.out]
     have Hl:=Hlen.out
     subst Hl
     exact qLC hC o2 hO3 hb (by have:=(hO.trans o2).size;omega) hR3 hK3 (by rw [Hdl.out];omega)
    ·have h9':(((len:Int)+kk)%960==0)=false:=by rw [beq_eq_false_iff_ne];omega
     go_wp2_with fail
     go_quiet ((go_at_call 92;exact Calls.quiet_of_same (xJ kk _ (by omega))))
     go_wp2_with fail
     go_region
     go_wp2_with fail
     obtain ⟨r2,o2⟩:=pF hR Hlen.out hq hroom hkr (bitsOf (x/2^n') kk) (by simp) Hnum.out Hv.out ((part:Int)%256) (by simp) (nq+1)
     refine ⟨⟨n',by omega,rfl,?_,hO.trans o2⟩,by simp [intOf];omega⟩
     rw [←HN.out]
     have Hl:=Hlen.out
     subst Hl
     exact qL7 hC r2 o2 hb (by rw [Hdl.out];omega)
  ·have hk0:k=0:=by omega
   subst hk0
   go_wp2
   go_end0
   exact ⟨rfl,by simpa using hWr,hO⟩
end Go.Proofs.YtkpmalfigmimaaaGreatDoor
namespace Go.Proofs.YtkpmalfigmimaaaGreatDoor
open Go.RowKit
open M
theorem xQ (n:Int) (h₀:0≤n) (h₁:n<2^64):IntKind.u64.wrap n=n:=by
 simp only [IntKind.wrap,IntKind.bits,IntKind.signed];simp;omega
theorem qHV (x:Nat) (h:x<18446744073709551616):bits BinOp.and IntKind.u64 (x:Int) 127=((x%128:Nat):Int):=by
 have:=bits_mask .u64 64 (by decide) xQ 7 (by omega) (x:Int) (by omega) (by omega)
 simpa using this
theorem qKZ (y:Nat) (h:y<128):bits BinOp.or IntKind.u64 128 (y:Int)=((128+y:Nat):Int):=by
 have:=bits_join .u64 64 (by decide) xQ 7 128 (y:Int) (by omega) (by omega) (by omega) (by omega) (by omega) (by omega)
 rw [this];simp
theorem qK (b off lo:Nat) (n x:Nat) (w:World) (l:List Bool) (hW:Wr w lo b off l 0) (hb:b<lo) (hlo:lo≤w.heap.size)
  (hlen:l.length+n<1000000000000) (hn64:n≤64) (hx:x<18446744073709551616) (hfit:x<2^n):
  Calls Tryz.prog 44 #[.pointer (some ⟨b,off,none⟩),.int .u64 x,.int .i64 n] w fun e w'=>e= .returned (.tuple #[])∧Wr w' lo b off (l++bitsOf x n) 0∧qJ b off (off+123) w w':=by
 have h0:((x:Int)/2^n !=0)=false:=by
  have:x/2^n=0:=Nat.div_eq_of_lt hfit
  have e:(x:Int)/2^n=((x/2^n:Nat):Int):=by simp
  rw [e,this];rfl
 go_enter Tryz.func44,Tryz.ntmps44
 go_wp2_with (go_at_call 74;refine (bH b off lo n x _ l hW hb hlo hlen hn64 hx).mono ?_;rintro e w' ⟨rfl,h1,h2⟩)
 go_end0
 exact ⟨rfl,h1,h2⟩
theorem yU (b off lo:Nat) (x:Nat) (w:World) (l:List Bool) (hW:Wr w lo b off l 0) (hb:b<lo) (hlo:lo≤w.heap.size)
  (hlen:l.length+80<1000000000000) (hx:x<18446744073709551616):
  Calls Tryz.prog 153 #[.pointer (some ⟨b,off,none⟩),.int .u64 x] w fun e w'=>e= .returned (.tuple #[])∧Wr w' lo b off (l++varB x) 0∧qJ b off (off+123) w w':=by
 go_enter Tryz.func153,Tryz.ntmps153
 go_wp2
 go_loopw [1] (fun i wr=>∃(k y:Nat) (pre:List Bool),k≤9∧pre.length=8*(9-k)∧y<128^(k+1)∧y≤x∧i= .int .u64 y∧Hid (pre++groups k y=varB x)∧Wr wr lo b off (l++pre) 0∧qJ b off (off+123) w wr) (fun i _=>(intOf i).toNat)
 case atStart=>exact ⟨9,x,[],by omega,by simp,by omega,by omega,rfl,rfl,by simpa using hW,qJ.refl _ _ _ _⟩
 case round=>
  obtain ⟨k,y,pre,hk,hpre,hy,hyx,rfl,hE,hWr,hO⟩:=hrel
  have Hpre:Hid (pre.length=8*(9-k)):=hpre
  clear hpre
  by_cases hlt:127<y
  ·obtain ⟨k,rfl⟩:∃k',k=k'+1:=by
    cases k with
    |zero=>simp at hy;omega
    |succ k=>exact ⟨k,rfl⟩
   have ha:=qHV y (by omega)
   have ho:Hid (bits BinOp.or IntKind.u64 128 ((y:Int)%128)=((128+y%128:Nat):Int)):=by have:=qKZ (y%128) (by omega);unfold Hid;simpa using this
   have Hle:(l++pre).length+8<1000000000000:=by simp [Hpre.out];omega
   go_wp2_with fail
   rw [ho.out]
   refine (bH b off lo 8 _ _ (l++pre) hWr hb (Nat.le_trans hlo hO.size) Hle (by omega) (by omega)).mono ?_
   rintro e w1 ⟨rfl,h1,h2⟩
   go_wp2_with fail
   go_roundw
   case rel=>
    refine ⟨k,y/128,pre++bitsOf (128+y%128) 8,by omega,by simp [Hpre.out];omega,?_,by omega,by go_num,?_,by simpa using h1,hO.trans h2⟩
    ·rw [Nat.pow_succ] at hy;omega
    ·show _=_;rw [←hE.out,groups_big k y (by omega)];simp
   case measure=>simp [intOf];omega
  ·go_wp2_with fail
   refine (bH b off lo 8 y _ (l++pre) hWr hb (Nat.le_trans hlo hO.size) (by simp [Hpre.out];omega) (by omega) (by omega)).mono ?_
   rintro e w1 ⟨rfl,h1,h2⟩
   go_wp2
   go_end0
   exact ⟨rfl,by rw [←hE.out,groups_small k y (by omega)];simpa using h1,hO.trans h2⟩
theorem qHN (a:Nat) (h:a<18446744073709551616):a^^^18446744073709551615=18446744073709551615-a:=by
 have h1:(BitVec.ofNat 64 a^^^BitVec.allOnes 64).toNat=(~~~BitVec.ofNat 64 a).toNat:=by rw [BitVec.xor_allOnes]
 rw [BitVec.toNat_xor,BitVec.toNat_not,BitVec.toNat_ofNat,BitVec.toNat_allOnes] at h1
 rw [Nat.mod_eq_of_lt (by omega)] at h1
 simpa using h1
theorem qGJ (x:Int) (h1: -9223372036854775808≤x) (h2:x≤9223372036854775807):
  bits BinOp.xor IntKind.u64 (IntKind.u64.wrap (IntKind.u64.wrap x*2)) (IntKind.u64.wrap (x/9223372036854775808))=(zig x:Int):=by
 have hw:∀n:Int,IntKind.u64.wrap n=n%18446744073709551616:=fun n=>by simp [IntKind.wrap,IntKind.bits,IntKind.signed]
 rw [hw,hw,hw]
 have e1:∀n:Int,0≤n%18446744073709551616∧n%18446744073709551616<18446744073709551616:=fun n=>by omega
 rw [u64_xor _ _ (e1 _).1 (e1 _).2 (e1 _).1 (e1 _).2]
 unfold zig
 by_cases hx:x<0
 ·rw [if_pos hx]
  have e2:(x/9223372036854775808%18446744073709551616).toNat=18446744073709551615:=by omega
  rw [e2,qHN _ (by omega)]
  omega
 ·rw [if_neg hx]
  have e2:(x/9223372036854775808%18446744073709551616).toNat=0:=by omega
  rw [e2,Nat.xor_zero]
  omega
theorem qGI (x:Int) (h1: -9223372036854775808≤x) (h2:x≤9223372036854775807):zig x<18446744073709551616:=by
 unfold zig;split<;>omega
theorem mQ (b off lo:Nat) (x:Int) (w:World) (l:List Bool) (hW:Wr w lo b off l 0) (hb:b<lo) (hlo:lo≤w.heap.size)
  (hlen:l.length+80<1000000000000) (hx1: -9223372036854775808≤x) (hx2:x≤9223372036854775807):
  Calls Tryz.prog 155 #[.pointer (some ⟨b,off,none⟩),.int .i64 x] w fun e w'=>e= .returned (.tuple #[])∧Wr w' lo b off (l++varB (zig x)) 0∧qJ b off (off+123) w w':=by
 go_enter Tryz.func155,Tryz.ntmps155
 go_wp2_with fail
 rw [qGJ x hx1 hx2]
 refine (yU b off lo (zig x) _ l hW hb hlo hlen (qGI x hx1 hx2)).mono ?_
 rintro e w1 ⟨rfl,h1,h2⟩
 go_wp2
 go_end0
 exact ⟨rfl,h1,h2⟩
theorem xX (b off lo:Nat) (v:Bool) (w:World) (l:List Bool) (hW:Wr w lo b off l 0) (hb:b<lo) (hlo:lo≤w.heap.size)
  (hlen:l.length+1<1000000000000):
  Calls Tryz.prog 211 #[.pointer (some ⟨b,off,none⟩),.bool v] w fun e w'=>e= .returned (.tuple #[])∧Wr w' lo b off (l++[v]) 0∧qJ b off (off+123) w w':=by
 cases v with
 |true=>
  go_enter Tryz.func211,Tryz.ntmps211
  go_wp2_with fail
  refine (bH b off lo 1 1 _ l hW hb hlo hlen (by omega) (by omega)).mono ?_
  rintro e w1 ⟨rfl,h1,h2⟩
  go_wp2
  go_end0
  exact ⟨rfl,h1,h2⟩
 |false=>
  go_enter Tryz.func211,Tryz.ntmps211
  go_wp2_with fail
  refine (bH b off lo 1 0 _ l hW hb hlo hlen (by omega) (by omega)).mono ?_
  rintro e w1 ⟨rfl,h1,h2⟩
  go_wp2
  go_end0
  exact ⟨rfl,h1,h2⟩
end Go.Proofs.YtkpmalfigmimaaaGreatDoor
namespace Go.Proofs.YtkpmalfigmimaaaGreatDoor
open Go.RowKit
open M
theorem lS (s:ByteArray) (a d a1 room kk q sh x:Nat) (ha:a1=a+d) (hroom:(8:Int)-(a1:Int)%8=(room:Int)) (hq:(a1:Int)/8=(q:Int)) (hqs:q<s.size) (hk0:0<kk) (hkr:kk≤room) (hsh:sh=room-kk)
  (hd:d+kk≤64) (hle:a1+kk≤8*s.size) (hx:x=num (((rbits (zT s)).drop a).take d)):
  bits BinOp.or IntKind.u64 (IntKind.u64.wrap ((x:Int)*2^kk)) (IntKind.u64.wrap (bits BinOp.and IntKind.u8 ((s[q].toNat:Int)/2^sh) (255/2^(8-kk))))=((num (((rbits (zT s)).drop a).take (d+kk)):Nat):Int):=by
 have hlen:(rbits (zT s)).length=8*s.size:=by simp
 have hv:(zT s).getD q 0=s[q].toNat:=by
  have:q<(zT s).length:=by simpa using hqs
  rw [List.getD_eq_getElem?_getD,List.getElem?_eq_getElem this]
  simp [zT]
  rfl
 have hlt:s[q].toNat<256:=s[q].toNat_lt
 generalize s[q].toNat=v at*
 have e1:((v:Int)/2^sh)=((v:Int)/2^sh%256):=by
  have h1:(v:Int)/2^sh=((v/2^sh:Nat):Int):=by simp
  have h2:v/2^sh≤v:=Nat.div_le_self _ _
  rw [h1]
  generalize v/2^sh=y at*
  omega
 rw [e1,qC8 v sh kk (by omega) hk0]
 have hb:=look_byte (zT s) a1 kk (by simp;omega) (by omega)
 rw [show a1/8=q from by omega,hv,show 8-a1%8-kk=sh from by omega] at hb
 rw [←hb]
 have hsum:=num_take_add ((rbits (zT s)).drop a) d kk (by simp;omega)
 rw [List.drop_drop,show a+d=a1 from ha.symm,←hx] at hsum
 have hxl:x<2^d:=by
  have:=num_lt (((rbits (zT s)).drop a).take d)
  rw [←hx] at this
  refine Nat.lt_of_lt_of_le this (Nat.pow_le_pow_right (by omega) (List.length_take_le _ _))
 have hpl:num (((rbits (zT s)).drop a1).take kk)<2^kk:=by
  refine Nat.lt_of_lt_of_le (num_lt _) (Nat.pow_le_pow_right (by omega) (List.length_take_le _ _))
 generalize num (((rbits (zT s)).drop a1).take kk)=y at*
 have hle64:(2:Nat)^(d+kk)≤2^64:=Nat.pow_le_pow_right (by omega) hd
 have hxk:x*2^kk+2^kk≤2^(d+kk):=by
  rw [Nat.pow_add,←Nat.succ_mul];exact Nat.mul_le_mul_right _ hxl
 have e2:((x:Int)*2^kk)=((x*2^kk:Nat):Int):=by simp
 have hm:x*2^kk%2^kk=0:=Nat.mul_mod_left _ _
 rw [e2,hsum]
 have hkle:(2:Nat)^kk≤2^64:=Nat.pow_le_pow_right (by omega) (by omega)
 generalize x*2^kk=z at*
 generalize hP:(2:Nat)^kk=p at*
 rw [xQ z (by omega) (by omega),xQ y (by omega) (by omega)]
 rw [bits_join .u64 64 (by decide) xQ kk (z:Int) (y:Int) (by omega) (by rw [show ((2:Int)^kk)=((p:Nat):Int) from by rw [←hP];simp];omega) (by omega) (by omega) (by rw [show ((2:Int)^kk)=((p:Nat):Int) from by rw [←hP];simp];omega) (by omega)]
 simp
theorem rR (b off:Nat) (s:ByteArray) (a n:Nat) (w:World) (h1:w.cell? ⟨b,off,none⟩=some (.string s)) (hs:s.size≤1000000000000) (hn:n≤64) (han:a+n≤8*s.size):
  Calls Tryz.prog 96 #[.pointer (some ⟨b,off,none⟩),.int .i64 a,.int .i64 n] w fun e w'=>e= .returned (.int .u64 (num (((rbits (zT s)).drop a).take n):Int))∧∃m,w'=w.drewN m:=by
 go_enter Tryz.func96,Tryz.ntmps96
 go_wp2
 go_loopw [1,2,7] (fun t1 t2 t7 wr=>∃(d a1 n1:Nat) (x:Nat),Hid (a1=a+d∧n=n1+d)∧t1= .int .i64 a1∧t2= .int .i64 n1∧t7= .int .u64 x∧Hid (x=num (((rbits (zT s)).drop a).take d))∧Hid (∃m,wr=w.drewN m)) (fun _ t2 _ _=>(intOf t2).toNat)
 case atStart=>exact ⟨0,a,n,0,⟨rfl,rfl⟩,rfl,rfl,rfl,rfl,⟨0,rfl⟩⟩
 case round=>
  obtain ⟨d,a1,n1,x,hd,rfl,rfl,rfl,hx,hm⟩:=hrel
  have h1r:wr.cell? ⟨b,off,none⟩=some (.string s):=by obtain ⟨m,rfl⟩:=hm.out;exact h1
  have ha1:a1+n1≤8*s.size:=by have:=hd.out;omega
  have hn1:n1≤64:=by have:=hd.out;omega
  by_cases hlt:0<n1
  ·obtain ⟨room,hroom,hr1,hr8⟩:∃room:Nat,(8:Int)-(a1:Int)%8=(room:Int)∧1≤room∧room≤8:=⟨8-a1%8,by omega,by omega,by omega⟩
   obtain ⟨q,hq,hqs⟩:∃q:Nat,(a1:Int)/8=(q:Int)∧q<s.size:=⟨a1/8,by omega,by omega⟩
   have hqi:(q:Int)<(s.size:Int):=by omega
   have hqb:q≤1000000000000:=by omega
   have hwq:IntKind.i64.wrap (q:Int)=(q:Int):=by rw [IntKind.wrap_i64];omega
   obtain ⟨n',kk,rfl,hk0,hkr,hor⟩:∃n' kk,n1=n'+kk∧0<kk∧kk≤room∧((n'=0∧kk<room)∨kk=room):=by
    by_cases h:n1<room
    ·exact ⟨0,n1,by omega,hlt,by omega,.inl ⟨rfl,h⟩⟩
    ·exact ⟨n1-room,room,by omega,by omega,by omega,.inr rfl⟩
   have hk8:kk≤8:=by omega
   rcases hor with ⟨rfl,hkl⟩|rfl
   ·simp only [Nat.zero_add] at*
    obtain ⟨sh,hsh,hsh8⟩:∃sh:Nat,IntKind.i64.wrap ((room:Int)-(kk:Int))=(sh:Int)∧Hid (sh=room-kk):=⟨room-kk,by rw [IntKind.wrap_i64];omega,rfl⟩
    have hsb:sh≤8:=by have:=hsh8.out;omega
    go_wp2_with fail
    go_quiet ((go_at_call 92;go_must (exact Calls.quiet_of_same (xJ kk _ hk8))))
    go_wp2_with fail
    have hst:=lS s a d a1 room kk q sh x hd.out.1 hroom hq hqs hk0 hkr hsh8.out (by have:=hd.out;omega) (by omega) hx.out
    refine ⟨⟨d+kk,a1+kk,0,_,⟨by have:=hd.out;omega,by have:=hd.out;omega⟩,by go_num,rfl,by rw [hst],rfl,?_⟩,by simp [intOf];omega⟩
    obtain ⟨m,rfl⟩:=hm.out
    exact ⟨m+nq,World.drewN_drewN _ _ _⟩
   ·have hw0:IntKind.i64.wrap 0=0:=by rw [IntKind.wrap_i64];rfl
    go_wp2_with fail
    go_quiet ((go_at_call 92;go_must (exact Calls.quiet_of_same (xJ kk _ hk8))))
    go_wp2_with fail
    have hst:=lS s a d a1 kk kk q 0 x hd.out.1 hroom hq hqs hk0 hkr (by omega) (by have:=hd.out;omega) (by omega) hx.out
    rw [Int.pow_zero,Int.ediv_one] at hst
    refine ⟨⟨d+kk,a1+kk,n',_,⟨by have:=hd.out;omega,by have:=hd.out;omega⟩,by go_num,rfl,by rw [hst],rfl,?_⟩,by simp [intOf];omega⟩
    obtain ⟨m,rfl⟩:=hm.out
    exact ⟨m+nq,World.drewN_drewN _ _ _⟩
  ·go_wp2
   go_ret
   refine ⟨?_,hm.out⟩
   have hd':=hd.out
   have e:n=d:=by omega
   show Ending.returned (.int .u64 (x:Int))=_
   rw [hx.out,e]
end Go.Proofs.YtkpmalfigmimaaaGreatDoor
namespace Go.Proofs.YtkpmalfigmimaaaGreatDoor
open Go.RowKit
open M
def yV (w:World) (v:Value) (bs:List Nat):Prop:=
 (v= .slice none 0 0∧bs=[])∨∃g o cap,v= .slice (some ⟨g,o,none⟩) bs.length cap∧∀i,i<bs.length→w.cell? ⟨g,o+i,none⟩=some (.int .u8 (bs.getD i 0:Nat))
def qG (bs:List Nat):ByteArray:=strOfNums (bs.map fun (n:Nat)=>(n:Int))
theorem kT (bs:List Nat) (h:∀n∈bs,n<256):zT (qG bs)=bs:=by
 unfold zT qG
 rw [strOfNums_data,List.map_map,List.map_map]
 conv=>rhs;rw [←List.map_id bs]
 apply List.map_congr_left
 intro n hn
 have:=h n hn
 simp;omega
@[simp] theorem qJU (bs:List Nat):(qG bs).size=bs.length:=by simp [qG,strOfNums_size]
theorem wB (w:World) (v:Value) (bs:List Nat) (h:yV w v bs):(convert 28 9 v).run Tryz.prog w= .ok (.string (qG bs)) w:=by
 rcases h with ⟨rfl,rfl⟩|⟨g,o,cap,rfl,hc⟩
 ·rw [run_convert_bytes_nil w 28 5 Tryz.underlying28 Tryz.underlying5 0 0 9 Tryz.underlying9];rfl
 ·exact run_convert_bytes_arg w 28 5 Tryz.underlying28 Tryz.underlying5 g o bs.length cap (bs.map fun (n:Nat)=>(n:Int)) (by simp) (fun i hi=>by rw [hc i hi];simp [List.getD,hi]) 9 Tryz.underlying9
theorem qGZ (w:World) (v:Value) (bs:List Nat) (h:yV w v bs):
  Calls Tryz.prog 75 #[v] w fun e w'=>e= .returned (.pointer (some ⟨w.heap.size,0,none⟩))∧w'=w.alloc (.cells #[.string (qG bs),.int .i64 0,.int .i64 0] 151):=by
 have hcv:=wB w v bs h
 rcases h with ⟨rfl,rfl⟩|⟨g,o,cap,rfl,hc⟩
 ·go_enter Tryz.func75,Tryz.ntmps75
  go_wp2
  go_ret
  exact ⟨rfl,rfl⟩
 ·go_enter Tryz.func75,Tryz.ntmps75
  go_wp2
  go_ret
  exact ⟨rfl,rfl⟩
theorem xV (w:World) (bs:List Nat) (hb:bs.length≤1000000000000):Rd (w.alloc (.cells #[.string (qG bs),.int .i64 0,.int .i64 0] 151)) w.heap.size 0 (qG bs) 0 0:=by
 have hn:(w.alloc (.cells #[.string (qG bs),.int .i64 0,.int .i64 0] 151)).heap[w.heap.size]?=some (.cells #[.string (qG bs),.int .i64 0,.int .i64 0] 151 (0,0)):=heap_alloc_new _ _
 refine ⟨?_,?_,?_,fun j hj=>?_,by simpa using hb,by omega⟩
 ·rw [cell_of_row _ _ _ _ _ _ hn];rfl
 ·rw [cell_of_row _ _ _ _ _ _ hn];rfl
 ·rw [cell_of_row _ _ _ _ _ _ hn];rfl
 ·exact frozen_of_row _ _ _ _ _ hn
theorem Rd.setAt {w:World} {b off:Nat} {s:ByteArray} {a:Nat} {e:Int} (h:Rd w b off s a e) (a':Nat) (ha:a'≤8*s.size):Rd (w.setCell ⟨b,off+1,none⟩ (.int .i64 a')) b off s a' e:=by
 refine ⟨?_,?_,?_,fun j hj=>?_,h.size,ha⟩
 ·rw [qC _ _ _ _ _ (by omega)];exact h.text
 ·exact qF _ _ _ _ _ h.at_
 ·rw [qC _ _ _ _ _ (by omega)];exact h.err
 ·rw [qE];exact h.fz j hj
theorem Rd.setErr {w:World} {b off:Nat} {s:ByteArray} {a:Nat} {e:Int} (h:Rd w b off s a e) (e':Int):Rd (w.setCell ⟨b,off+2,none⟩ (.int .i64 e')) b off s a e':=by
 refine ⟨?_,?_,?_,fun j hj=>?_,h.size,h.le⟩
 ·rw [qC _ _ _ _ _ (by omega)];exact h.text
 ·rw [qC _ _ _ _ _ (by omega)];exact h.at_
 ·exact qF _ _ _ _ _ h.err
 ·rw [qE];exact h.fz j hj
def rb (s:ByteArray):List Bool:=rbits (zT s)
theorem mL (b off:Nat) (s:ByteArray) (a n:Nat) (w:World) (h:Rd w b off s a 0) (hn:n≤64) (han:a+n≤8*s.size):
  Calls Tryz.prog 76 #[.pointer (some ⟨b,off,none⟩),.int .i64 n] w fun e w'=>e= .returned (.int .u64 (num (((rb s).drop a).take n):Int))∧Rd w' b off s (a+n) 0∧qJ b off (off+3) w w':=by
 have h1:=h.at_
 have h2:=h.err
 have h3:=h.fz 1 (by omega)
 have hs:=h.size
 go_enter Tryz.func76,Tryz.ntmps76
 go_wp2_with fail
 refine (kK b off s a 0 _ h).mono ?_
 rintro e w1 ⟨rfl,m,rfl⟩
 have hnl:¬((8*s.size-a:Nat):Int)<(n:Int):=by omega
 go_wp2_with fail
 refine (rR b off s a n _ (h.drewN m).text hs hn han).mono ?_
 rintro e w1 ⟨rfl,m2,rfl⟩
 go_wp2_with fail
 go_ret
 have hR:Rd (w.drewN (m+m2)) b off s a 0:=h.drewN _
 refine ⟨rfl,?_,?_⟩
 ·have:=hR.setAt (a+n) han
  simpa using this
 ·exact ((qJ.refl _ _ _ w).drewN _).setCell _ (by omega) (by omega) _
theorem yR (b off:Nat) (s:ByteArray) (a n:Nat) (w:World) (h:Rd w b off s a 0) (hn:n≤64) (han:8*s.size<a+n):
  Calls Tryz.prog 76 #[.pointer (some ⟨b,off,none⟩),.int .i64 n] w fun e w'=>e= .returned (.int .u64 0)∧Rd w' b off s a 12∧qJ b off (off+3) w w':=by
 have h1:=h.at_
 have h2:=h.err
 have h3:=h.fz 2 (by omega)
 have hs:=h.size
 have hle:=h.le
 go_enter Tryz.func76,Tryz.ntmps76
 go_wp2_with fail
 refine (kK b off s a 0 _ h).mono ?_
 rintro e w1 ⟨rfl,m,rfl⟩
 have hnl:((8*s.size-a:Nat):Int)<(n:Int):=by omega
 go_wp2_with fail
 refine (uH b off 12 (w.drewN m) h2 h3).mono ?_
 rintro e w1 ⟨rfl,rfl⟩
 have hR:Rd ((w.drewN m).setCell ⟨b,off+2,none⟩ (.int .i64 12)) b off s a 12:=(h.drewN m).setErr 12
 have hE:=hR.err
 have hO:qJ b off (off+3) w ((w.drewN m).setCell ⟨b,off+2,none⟩ (.int .i64 12)):=((qJ.refl _ _ _ w).drewN _).setCell _ (by omega) (by omega) _
 generalize (w.drewN m).setCell ⟨b,off+2,none⟩ (.int .i64 12)=w2 at*
 go_wp2_with fail
 go_ret
 exact ⟨rfl,hR,hO⟩
theorem wO (b off:Nat) (s:ByteArray) (a:Nat) (n e0:Int) (w:World) (h:Rd w b off s a e0) (he:(e0==0)=false) (hn:0≤n) (hn2:n≤64):
  Calls Tryz.prog 76 #[.pointer (some ⟨b,off,none⟩),.int .i64 n] w fun e w'=>e= .returned (.int .u64 0)∧Rd w' b off s a e0∧qJ b off (off+3) w w':=by
 have h1:=h.at_
 have h2:=h.err
 have hs:=h.size
 have hle:=h.le
 have hne:(e0 !=0)=true:=by simp [bne,he]
 by_cases hnl:((8*s.size-a:Nat):Int)<n
 ·go_enter Tryz.func76,Tryz.ntmps76
  go_wp2_with fail
  refine (kK b off s a e0 _ h).mono ?_
  rintro e w1 ⟨rfl,m,rfl⟩
  go_wp2_with fail
  refine (bL b off 12 e0 (w.drewN m) h2 he).mono ?_
  rintro e w1 ⟨rfl,rfl⟩
  go_wp2_with fail
  go_ret
  exact ⟨rfl,h.drewN m,(qJ.refl _ _ _ w).drewN _⟩
 ·go_enter Tryz.func76,Tryz.ntmps76
  go_wp2_with fail
  refine (kK b off s a e0 _ h).mono ?_
  rintro e w1 ⟨rfl,m,rfl⟩
  go_wp2_with fail
  go_ret
  exact ⟨rfl,h.drewN m,(qJ.refl _ _ _ w).drewN _⟩
def pM (s:ByteArray) (a:Nat) (e:Int):Int:=if e=0 then (if 8≤8*s.size-a then 14 else if num ((rb s).drop a)=0 then 0 else 13) else e
theorem qCC {P:Program} {f:Nat} {args:Array Value} {w:World} {x:Nat} {v:Value} (h:Calls P f args (w.drewN x) fun e w'=>e= .returned v∧∃n,w'=(w.drewN x).drewN n):
  Calls P f args (w.drewN x) fun e w'=>e= .returned v∧∃n,w'=w.drewN n:=
 h.mono fun e w' ⟨he,n,hn⟩=>⟨he,x+n,by rw [hn,World.drewN_drewN]⟩
theorem rZ (b off:Nat) (s:ByteArray) (a:Nat) (e0:Int) (w:World) (h:Rd w b off s a e0):
  Calls Tryz.prog 80 #[.pointer (some ⟨b,off,none⟩)] w fun e w'=>e= .returned (.int .i64 (pM s a e0))∧∃m,w'=w.drewN m:=by
 have h0:=h.text
 have h1:=h.at_
 have h2:=h.err
 have hs:=h.size
 have hle:=h.le
 by_cases he:e0=0
 ·subst he
  by_cases h8:8≤8*s.size-a
  ·have hl:(8:Int)≤((8*s.size-a:Nat):Int):=by omega
   have hE:Hid (pM s a 0=14):=by show _=_;simp [pM,h8]
   go_enter Tryz.func80,Tryz.ntmps80
   go_wp2_with fail
   refine (kK b off s a 0 _ h).mono ?_
   rintro e w1 ⟨rfl,m,rfl⟩
   go_wp2_with fail
   go_ret
   exact ⟨by rw [hE.out];rfl,m,rfl⟩
  ·have hl:¬(8:Int)≤((8*s.size-a:Nat):Int):=by omega
   obtain ⟨x,hx⟩:∃x,x=num (((rb s).drop a).take (8*s.size-a)):=⟨_,rfl⟩
   have hlk:=fun w (ht:World.cell? w ⟨b,off,none⟩=some (.string s))=>rR b off s a (8*s.size-a) w ht hs (by omega) (by omega)
   have hfull:((rb s).drop a).take (8*s.size-a)=(rb s).drop a:=List.take_of_length_le (by simp [rb])
   have HF:Hid (x=num ((rb s).drop a)):=by rw [hfull] at hx;exact hx
   have HK:=hlk
   have hx':num (((rbits (zT s)).drop a).take (8*s.size-a))=x:=hx.symm
   simp only [hx'] at HK
   clear hlk hx hfull hx'
   have HK':Hid (∀w:World,World.cell? w ⟨b,off,none⟩=some (.string s)→Calls Tryz.prog 96 #[.pointer (some ⟨b,off,none⟩),.int .i64 a,.int .i64 ((8*s.size-a:Nat):Int)] w fun e w'=>e= .returned (.int .u64 (x:Int))∧∃m,w'=w.drewN m):=HK
   clear HK
   by_cases hz:x=0
   ·subst hz
    have hE:Hid (pM s a 0=0):=by show _=_;simp [pM,h8,←HF.out]
    go_enter Tryz.func80,Tryz.ntmps80
    go_wp2_with fail
    refine (kK b off s a 0 _ h).mono ?_
    rintro e w1 ⟨rfl,m,rfl⟩
    have hR:=h.drewN m
    have h0':=hR.text
    have h1':=hR.at_
    have hm1:Hid (∃m1,w.drewN m=w.drewN m1):=⟨m,rfl⟩
    generalize w.drewN m=w1 at*
    go_wp2_with fail
    go_quiet (first|(go_at_call 95;exact qCC (kK b off s a 0 _ (hR.drewN _)))|(go_at_call 96;exact qCC (HK'.out _ (hR.drewN _).text)))
    go_wp2_with fail
    go_ret
    obtain ⟨m1,rfl⟩:=hm1.out
    exact ⟨by rw [hE.out];rfl,m1+nq,World.drewN_drewN _ _ _⟩
   ·have hE:Hid (pM s a 0=13):=by show _=_;simp [pM,h8,←HF.out,hz]
    have hz':((x:Int) !=0)=true:=by simp [hz]
    go_enter Tryz.func80,Tryz.ntmps80
    go_wp2_with fail
    refine (kK b off s a 0 _ h).mono ?_
    rintro e w1 ⟨rfl,m,rfl⟩
    have hR:=h.drewN m
    have h0':=hR.text
    have h1':=hR.at_
    have hm1:Hid (∃m1,w.drewN m=w.drewN m1):=⟨m,rfl⟩
    generalize w.drewN m=w1 at*
    go_wp2_with fail
    go_quiet (first|(go_at_call 95;exact qCC (kK b off s a 0 _ (hR.drewN _)))|(go_at_call 96;exact qCC (HK'.out _ (hR.drewN _).text)))
    go_wp2_with fail
    go_ret
    obtain ⟨m1,rfl⟩:=hm1.out
    exact ⟨by rw [hE.out];rfl,m1+nq,World.drewN_drewN _ _ _⟩
 ·have hne:(e0 !=0)=true:=by simp [he]
  have hE:Hid (pM s a e0=e0):=by show _=_;simp [pM,he]
  go_enter Tryz.func80,Tryz.ntmps80
  go_wp2_with fail
  go_ret
  exact ⟨by rw [hE.out];rfl,0,rfl⟩
theorem pE (b off:Nat) (w:World) (x:Nat) (R:World→Prop) (h:Calls Tryz.prog 76 #[.pointer (some ⟨b,off,none⟩),.int .i64 1] w fun e w'=>e= .returned (.int .u64 (x:Int))∧R w'):
  Calls Tryz.prog 107 #[.pointer (some ⟨b,off,none⟩)] w fun e w'=>e= .returned (.bool (x==1))∧R w':=by
 have H:Hid (Calls Tryz.prog 76 #[.pointer (some ⟨b,off,none⟩),.int .i64 1] w fun e w'=>e= .returned (.int .u64 (x:Int))∧R w'):=h
 clear h
 go_enter Tryz.func107,Tryz.ntmps107
 go_wp2_with fail
 refine H.out.mono ?_
 rintro e w1 ⟨rfl,hr⟩
 go_wp2_with fail
 go_ret
 refine ⟨?_,hr⟩
 show Ending.returned (.bool ((x:Int)==1))=_
 congr 2
 by_cases hx:x=1
 ·subst hx;rfl
 ·have:¬(x:Int)=1:=by omega
  rw [beq_eq_false_iff_ne.2 hx,beq_eq_false_iff_ne.2 this]
end Go.Proofs.YtkpmalfigmimaaaGreatDoor
