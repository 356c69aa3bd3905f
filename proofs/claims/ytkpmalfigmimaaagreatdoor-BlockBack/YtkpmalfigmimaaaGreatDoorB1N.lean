import Derived.Test.YtkpmalfigmimaaaGreatDoorB1P
import Derived.Laws.BytesArg
import Derived.Test.YtkpmalfigmimaaaGreatDoorD1M
set_option linter.unusedVariables false
set_option linter.unusedSimpArgs false
set_option maxRecDepth 100000
set_option maxHeartbeats 8000000
namespace Go.Proofs.YtkpmalfigmimaaaGreatDoor
open Go.RowKit
open M
theorem xU (n:Int) (h₀:0≤n) (h₁:n<2^64):IntKind.u64.wrap n=n:=by
 simp only [IntKind.wrap,IntKind.bits,IntKind.signed];simp;omega
theorem qIC (x:Nat) (h:x<18446744073709551616):bits BinOp.and IntKind.u64 (x:Int) 127=((x%128:Nat):Int):=by
 have:=bits_mask .u64 64 (by decide) xU 7 (by omega) (x:Int) (by omega) (by omega)
 simpa using this
theorem qLH (y:Nat) (h:y<128):bits BinOp.or IntKind.u64 128 (y:Int)=((128+y:Nat):Int):=by
 have:=bits_join .u64 64 (by decide) xU 7 128 (y:Int) (by omega) (by omega) (by omega) (by omega) (by omega) (by omega)
 rw [this];simp
theorem qK (b off lo:Nat) (n x:Nat) (w:World) (l:List Bool) (hW:Wr w lo b off l 0) (hb:b<lo) (hlo:lo≤w.heap.size)
  (hlen:l.length+n<1000000000000) (hn64:n≤64) (hx:x<18446744073709551616) (hfit:x<2^n):
  Calls Tryz.prog 44 #[.pointer (some ⟨b,off,none⟩),.int .u64 x,.int .i64 n] w fun e w'=>e= .returned (.tuple #[])∧Wr w' lo b off (l++bitsOf x n) 0∧qJ b off (off+123) w w':=by
 have h0:((x:Int)/2^n !=0)=false:=by
  have:x/2^n=0:=Nat.div_eq_of_lt hfit
  have e:(x:Int)/2^n=((x/2^n:Nat):Int):=by simp
  rw [e,this];rfl
 go_enter Tryz.func44,Tryz.ntmps44
 go_wp2_with (go_at_call 74;refine (bS b off lo n x _ l hW hb hlo hlen hn64 hx).mono ?_;rintro e w' ⟨rfl,h1,h2⟩)
 go_end0
 exact ⟨rfl,h1,h2⟩
theorem uA (b off lo:Nat) (x:Nat) (w:World) (l:List Bool) (hW:Wr w lo b off l 0) (hb:b<lo) (hlo:lo≤w.heap.size)
  (hlen:l.length+80<1000000000000) (hx:x<18446744073709551616):
  Calls Tryz.prog 153 #[.pointer (some ⟨b,off,none⟩),.int .u64 x] w fun e w'=>e= .returned (.tuple #[])∧Wr w' lo b off (l++varB x) 0∧qJ b off (off+123) w w':=by
 go_enter Tryz.func153,Tryz.ntmps153
 go_wp2
 go_loopw [1] (fun i wr=>∃(k y:Nat) (pre:List Bool),k≤9∧pre.length=8*(9-k)∧y<128^(k+1)∧y≤x∧i= .int .u64 y∧Hid (pre++groups k y=varB x)∧Wr wr lo b off (l++pre) 0∧qJ b off (off+123) w wr) (fun i _=>(intOf i).toNat)
 case atStart=>exact ⟨9,x,[],by omega,by simp,by omega,by omega,rfl,rfl,by simpa using hW,qJ.refl _ _ _ _⟩
 case round=>
  obtain ⟨k,y,pre,hk,hpre,hy,hyx,rfl,hE,hWr,hO⟩:=hrel
  have Hpre:Hid (pre.length=8*(9-k)):=hpre
  clear hpre
  by_cases hlt:127<y
  ·obtain ⟨k,rfl⟩:∃k',k=k'+1:=by
    cases k with
    |zero=>simp at hy;omega
    |succ k=>exact ⟨k,rfl⟩
   have ha:=qIC y (by omega)
   have ho:Hid (bits BinOp.or IntKind.u64 128 ((y:Int)%128)=((128+y%128:Nat):Int)):=by have:=qLH (y%128) (by omega);unfold Hid;simpa using this
   have Hle:(l++pre).length+8<1000000000000:=by simp [Hpre.out];omega
   go_wp2_with fail
   rw [ho.out]
   refine (bS b off lo 8 _ _ (l++pre) hWr hb (Nat.le_trans hlo hO.size) Hle (by omega) (by omega)).mono ?_
   rintro e w1 ⟨rfl,h1,h2⟩
   go_wp2_with fail
   go_roundw
   case rel=>
    refine ⟨k,y/128,pre++bitsOf (128+y%128) 8,by omega,by simp [Hpre.out];omega,?_,by omega,by go_num,?_,by simpa using h1,hO.trans h2⟩
    ·rw [Nat.pow_succ] at hy;omega
    ·show _=_;rw [←hE.out,groups_big k y (by omega)];simp
   case measure=>simp [intOf];omega
  ·go_wp2_with fail
   refine (bS b off lo 8 y _ (l++pre) hWr hb (Nat.le_trans hlo hO.size) (by simp [Hpre.out];omega) (by omega) (by omega)).mono ?_
   rintro e w1 ⟨rfl,h1,h2⟩
   go_wp2
   go_end0
   exact ⟨rfl,by rw [←hE.out,groups_small k y (by omega)];simpa using h1,hO.trans h2⟩
theorem qI4 (a:Nat) (h:a<18446744073709551616):a^^^18446744073709551615=18446744073709551615-a:=by
 have h1:(BitVec.ofNat 64 a^^^BitVec.allOnes 64).toNat=(~~~BitVec.ofNat 64 a).toNat:=by rw [BitVec.xor_allOnes]
 rw [BitVec.toNat_xor,BitVec.toNat_not,BitVec.toNat_ofNat,BitVec.toNat_allOnes] at h1
 rw [Nat.mod_eq_of_lt (by omega)] at h1
 simpa using h1
theorem qGN (x:Int) (h1: -9223372036854775808≤x) (h2:x≤9223372036854775807):
  bits BinOp.xor IntKind.u64 (IntKind.u64.wrap (IntKind.u64.wrap x*2)) (IntKind.u64.wrap (x/9223372036854775808))=(zig x:Int):=by
 have hw:∀n:Int,IntKind.u64.wrap n=n%18446744073709551616:=fun n=>by simp [IntKind.wrap,IntKind.bits,IntKind.signed]
 rw [hw,hw,hw]
 have e1:∀n:Int,0≤n%18446744073709551616∧n%18446744073709551616<18446744073709551616:=fun n=>by omega
 rw [u64_xor _ _ (e1 _).1 (e1 _).2 (e1 _).1 (e1 _).2]
 unfold zig
 by_cases hx:x<0
 ·rw [if_pos hx]
  have e2:(x/9223372036854775808%18446744073709551616).toNat=18446744073709551615:=by omega
  rw [e2,qI4 _ (by omega)]
  omega
 ·rw [if_neg hx]
  have e2:(x/9223372036854775808%18446744073709551616).toNat=0:=by omega
  rw [e2,Nat.xor_zero]
  omega
theorem qGM (x:Int) (h1: -9223372036854775808≤x) (h2:x≤9223372036854775807):zig x<18446744073709551616:=by
 unfold zig;split<;>omega
theorem mX (b off lo:Nat) (x:Int) (w:World) (l:List Bool) (hW:Wr w lo b off l 0) (hb:b<lo) (hlo:lo≤w.heap.size)
  (hlen:l.length+80<1000000000000) (hx1: -9223372036854775808≤x) (hx2:x≤9223372036854775807):
  Calls Tryz.prog 155 #[.pointer (some ⟨b,off,none⟩),.int .i64 x] w fun e w'=>e= .returned (.tuple #[])∧Wr w' lo b off (l++varB (zig x)) 0∧qJ b off (off+123) w w':=by
 go_enter Tryz.func155,Tryz.ntmps155
 go_wp2_with fail
 rw [qGN x hx1 hx2]
 refine (uA b off lo (zig x) _ l hW hb hlo hlen (qGM x hx1 hx2)).mono ?_
 rintro e w1 ⟨rfl,h1,h2⟩
 go_wp2
 go_end0
 exact ⟨rfl,h1,h2⟩
theorem yC (b off lo:Nat) (v:Bool) (w:World) (l:List Bool) (hW:Wr w lo b off l 0) (hb:b<lo) (hlo:lo≤w.heap.size)
  (hlen:l.length+1<1000000000000):
  Calls Tryz.prog 211 #[.pointer (some ⟨b,off,none⟩),.bool v] w fun e w'=>e= .returned (.tuple #[])∧Wr w' lo b off (l++[v]) 0∧qJ b off (off+123) w w':=by
 cases v with
 |true=>
  go_enter Tryz.func211,Tryz.ntmps211
  go_wp2_with fail
  refine (bS b off lo 1 1 _ l hW hb hlo hlen (by omega) (by omega)).mono ?_
  rintro e w1 ⟨rfl,h1,h2⟩
  go_wp2
  go_end0
  exact ⟨rfl,h1,h2⟩
 |false=>
  go_enter Tryz.func211,Tryz.ntmps211
  go_wp2_with fail
  refine (bS b off lo 1 0 _ l hW hb hlo hlen (by omega) (by omega)).mono ?_
  rintro e w1 ⟨rfl,h1,h2⟩
  go_wp2
  go_end0
  exact ⟨rfl,h1,h2⟩
end Go.Proofs.YtkpmalfigmimaaaGreatDoor
namespace Go.Proofs.YtkpmalfigmimaaaGreatDoor
open Go.RowKit
open M
theorem lZ (s:ByteArray) (a d a1 room kk q sh x:Nat) (ha:a1=a+d) (hroom:(8:Int)-(a1:Int)%8=(room:Int)) (hq:(a1:Int)/8=(q:Int)) (hqs:q<s.size) (hk0:0<kk) (hkr:kk≤room) (hsh:sh=room-kk)
  (hd:d+kk≤64) (hle:a1+kk≤8*s.size) (hx:x=num (((rbits (zS s)).drop a).take d)):
  bits BinOp.or IntKind.u64 (IntKind.u64.wrap ((x:Int)*2^kk)) (IntKind.u64.wrap (bits BinOp.and IntKind.u8 ((s[q].toNat:Int)/2^sh) (255/2^(8-kk))))=((num (((rbits (zS s)).drop a).take (d+kk)):Nat):Int):=by
 have hlen:(rbits (zS s)).length=8*s.size:=by simp
 have hv:(zS s).getD q 0=s[q].toNat:=by
  have:q<(zS s).length:=by simpa using hqs
  rw [List.getD_eq_getElem?_getD,List.getElem?_eq_getElem this]
  simp [zS]
  rfl
 have hlt:s[q].toNat<256:=s[q].toNat_lt
 generalize s[q].toNat=v at*
 have e1:((v:Int)/2^sh)=((v:Int)/2^sh%256):=by
  have h1:(v:Int)/2^sh=((v/2^sh:Nat):Int):=by simp
  have h2:v/2^sh≤v:=Nat.div_le_self _ _
  rw [h1]
  generalize v/2^sh=y at*
  omega
 rw [e1,qCD v sh kk (by omega) hk0]
 have hb:=look_byte (zS s) a1 kk (by simp;omega) (by omega)
 rw [show a1/8=q from by omega,hv,show 8-a1%8-kk=sh from by omega] at hb
 rw [←hb]
 have hsum:=num_take_add ((rbits (zS s)).drop a) d kk (by simp;omega)
 rw [List.drop_drop,show a+d=a1 from ha.symm,←hx] at hsum
 have hxl:x<2^d:=by
  have:=num_lt (((rbits (zS s)).drop a).take d)
  rw [←hx] at this
  refine Nat.lt_of_lt_of_le this (Nat.pow_le_pow_right (by omega) (List.length_take_le _ _))
 have hpl:num (((rbits (zS s)).drop a1).take kk)<2^kk:=by
  refine Nat.lt_of_lt_of_le (num_lt _) (Nat.pow_le_pow_right (by omega) (List.length_take_le _ _))
 generalize num (((rbits (zS s)).drop a1).take kk)=y at*
 have hle64:(2:Nat)^(d+kk)≤2^64:=Nat.pow_le_pow_right (by omega) hd
 have hxk:x*2^kk+2^kk≤2^(d+kk):=by
  rw [Nat.pow_add,←Nat.succ_mul];exact Nat.mul_le_mul_right _ hxl
 have e2:((x:Int)*2^kk)=((x*2^kk:Nat):Int):=by simp
 have hm:x*2^kk%2^kk=0:=Nat.mul_mod_left _ _
 rw [e2,hsum]
 have hkle:(2:Nat)^kk≤2^64:=Nat.pow_le_pow_right (by omega) (by omega)
 generalize x*2^kk=z at*
 generalize hP:(2:Nat)^kk=p at*
 rw [xU z (by omega) (by omega),xU y (by omega) (by omega)]
 rw [bits_join .u64 64 (by decide) xU kk (z:Int) (y:Int) (by omega) (by rw [show ((2:Int)^kk)=((p:Nat):Int) from by rw [←hP];simp];omega) (by omega) (by omega) (by rw [show ((2:Int)^kk)=((p:Nat):Int) from by rw [←hP];simp];omega) (by omega)]
 simp
theorem sG (b off:Nat) (s:ByteArray) (a n:Nat) (w:World) (h1:w.cell? ⟨b,off,none⟩=some (.string s)) (hs:s.size≤1000000000000) (hn:n≤64) (han:a+n≤8*s.size):
  Calls Tryz.prog 96 #[.pointer (some ⟨b,off,none⟩),.int .i64 a,.int .i64 n] w fun e w'=>e= .returned (.int .u64 (num (((rbits (zS s)).drop a).take n):Int))∧∃m,w'=w.drewN m:=by
 go_enter Tryz.func96,Tryz.ntmps96
 go_wp2
 go_loopw [1,2,7] (fun t1 t2 t7 wr=>∃(d a1 n1:Nat) (x:Nat),Hid (a1=a+d∧n=n1+d)∧t1= .int .i64 a1∧t2= .int .i64 n1∧t7= .int .u64 x∧Hid (x=num (((rbits (zS s)).drop a).take d))∧Hid (∃m,wr=w.drewN m)) (fun _ t2 _ _=>(intOf t2).toNat)
 case atStart=>exact ⟨0,a,n,0,⟨rfl,rfl⟩,rfl,rfl,rfl,rfl,⟨0,rfl⟩⟩
 case round=>
  obtain ⟨d,a1,n1,x,hd,rfl,rfl,rfl,hx,hm⟩:=hrel
  have h1r:wr.cell? ⟨b,off,none⟩=some (.string s):=by obtain ⟨m,rfl⟩:=hm.out;exact h1
  have ha1:a1+n1≤8*s.size:=by have:=hd.out;omega
  have hn1:n1≤64:=by have:=hd.out;omega
  by_cases hlt:0<n1
  ·obtain ⟨room,hroom,hr1,hr8⟩:∃room:Nat,(8:Int)-(a1:Int)%8=(room:Int)∧1≤room∧room≤8:=⟨8-a1%8,by omega,by omega,by omega⟩
   obtain ⟨q,hq,hqs⟩:∃q:Nat,(a1:Int)/8=(q:Int)∧q<s.size:=⟨a1/8,by omega,by omega⟩
   have hqi:(q:Int)<(s.size:Int):=by omega
   have hqb:q≤1000000000000:=by omega
   have hwq:IntKind.i64.wrap (q:Int)=(q:Int):=by rw [IntKind.wrap_i64];omega
   obtain ⟨n',kk,rfl,hk0,hkr,hor⟩:∃n' kk,n1=n'+kk∧0<kk∧kk≤room∧((n'=0∧kk<room)∨kk=room):=by
    by_cases h:n1<room
    ·exact ⟨0,n1,by omega,hlt,by omega,.inl ⟨rfl,h⟩⟩
    ·exact ⟨n1-room,room,by omega,by omega,by omega,.inr rfl⟩
   have hk8:kk≤8:=by omega
   rcases hor with ⟨rfl,hkl⟩|rfl
   ·simp only [Nat.zero_add] at*
    obtain ⟨sh,hsh,hsh8⟩:∃sh:Nat,IntKind.i64.wrap ((room:Int)-(kk:Int))=(sh:Int)∧Hid (sh=room-kk):=⟨room-kk,by rw [IntKind.wrap_i64];omega,rfl⟩
    have hsb:sh≤8:=by have:=hsh8.out;omega
    go_wp2_with fail
    go_quiet ((go_at_call 92;go_must (exact Calls.quiet_of_same (xN kk _ hk8))))
    go_wp2_with fail
    have hst:=lZ s a d a1 room kk q sh x hd.out.1 hroom hq hqs hk0 hkr hsh8.out (by have:=hd.out;omega) (by omega) hx.out
    refine ⟨⟨d+kk,a1+kk,0,_,⟨by have:=hd.out;omega,by have:=hd.out;omega⟩,by go_num,rfl,by rw [hst],rfl,?_⟩,by simp [intOf];omega⟩
    obtain ⟨m,rfl⟩:=hm.out
    exact ⟨m+nq,World.drewN_drewN _ _ _⟩
   ·have hw0:IntKind.i64.wrap 0=0:=by rw [IntKind.wrap_i64];rfl
    go_wp2_with fail
    go_quiet ((go_at_call 92;go_must (exact Calls.quiet_of_same (xN kk _ hk8))))
    go_wp2_with fail
    have hst:=lZ s a d a1 kk kk q 0 x hd.out.1 hroom hq hqs hk0 hkr (by omega) (by have:=hd.out;omega) (by omega) hx.out
    rw [Int.pow_zero,Int.ediv_one] at hst
    refine ⟨⟨d+kk,a1+kk,n',_,⟨by have:=hd.out;omega,by have:=hd.out;omega⟩,by go_num,rfl,by rw [hst],rfl,?_⟩,by simp [intOf];omega⟩
    obtain ⟨m,rfl⟩:=hm.out
    exact ⟨m+nq,World.drewN_drewN _ _ _⟩
  ·go_wp2
   go_ret
   refine ⟨?_,hm.out⟩
   have hd':=hd.out
   have e:n=d:=by omega
   show Ending.returned (.int .u64 (x:Int))=_
   rw [hx.out,e]
end Go.Proofs.YtkpmalfigmimaaaGreatDoor
namespace Go.Proofs.YtkpmalfigmimaaaGreatDoor
open Go.RowKit
open M
def yD (w:World) (v:Value) (bs:List Nat):Prop:=
 (v= .slice none 0 0∧bs=[])∨∃g o cap,v= .slice (some ⟨g,o,none⟩) bs.length cap∧∀i,i<bs.length→w.cell? ⟨g,o+i,none⟩=some (.int .u8 (bs.getD i 0:Nat))
def qG (bs:List Nat):ByteArray:=strOfNums (bs.map fun (n:Nat)=>(n:Int))
theorem kY (bs:List Nat) (h:∀n∈bs,n<256):zS (qG bs)=bs:=by
 unfold zS qG
 rw [strOfNums_data,List.map_map,List.map_map]
 conv=>rhs;rw [←List.map_id bs]
 apply List.map_congr_left
 intro n hn
 have:=h n hn
 simp;omega
@[simp] theorem qKB (bs:List Nat):(qG bs).size=bs.length:=by simp [qG,strOfNums_size]
theorem wL (w:World) (v:Value) (bs:List Nat) (h:yD w v bs):(convert 28 9 v).run Tryz.prog w= .ok (.string (qG bs)) w:=by
 rcases h with ⟨rfl,rfl⟩|⟨g,o,cap,rfl,hc⟩
 ·rw [run_convert_bytes_nil w 28 5 Tryz.underlying28 Tryz.underlying5 0 0 9 Tryz.underlying9];rfl
 ·exact run_convert_bytes_arg w 28 5 Tryz.underlying28 Tryz.underlying5 g o bs.length cap (bs.map fun (n:Nat)=>(n:Int)) (by simp) (fun i hi=>by rw [hc i hi];simp [List.getD,hi]) 9 Tryz.underlying9
theorem qH5 (w:World) (v:Value) (bs:List Nat) (h:yD w v bs):
  Calls Tryz.prog 75 #[v] w fun e w'=>e= .returned (.pointer (some ⟨w.heap.size,0,none⟩))∧w'=w.alloc (.cells #[.string (qG bs),.int .i64 0,.int .i64 0] 151):=by
 have hcv:=wL w v bs h
 rcases h with ⟨rfl,rfl⟩|⟨g,o,cap,rfl,hc⟩
 ·go_enter Tryz.func75,Tryz.ntmps75
  go_wp2
  go_ret
  exact ⟨rfl,rfl⟩
 ·go_enter Tryz.func75,Tryz.ntmps75
  go_wp2
  go_ret
  exact ⟨rfl,rfl⟩
theorem xZ (w:World) (bs:List Nat) (hb:bs.length≤1000000000000):Rd (w.alloc (.cells #[.string (qG bs),.int .i64 0,.int .i64 0] 151)) w.heap.size 0 (qG bs) 0 0:=by
 have hn:(w.alloc (.cells #[.string (qG bs),.int .i64 0,.int .i64 0] 151)).heap[w.heap.size]?=some (.cells #[.string (qG bs),.int .i64 0,.int .i64 0] 151 (0,0)):=heap_alloc_new _ _
 refine ⟨?_,?_,?_,fun j hj=>?_,by simpa using hb,by omega⟩
 ·rw [cell_of_row _ _ _ _ _ _ hn];rfl
 ·rw [cell_of_row _ _ _ _ _ _ hn];rfl
 ·rw [cell_of_row _ _ _ _ _ _ hn];rfl
 ·exact frozen_of_row _ _ _ _ _ hn
theorem Rd.setAt {w:World} {b off:Nat} {s:ByteArray} {a:Nat} {e:Int} (h:Rd w b off s a e) (a':Nat) (ha:a'≤8*s.size):Rd (w.setCell ⟨b,off+1,none⟩ (.int .i64 a')) b off s a' e:=by
 refine ⟨?_,?_,?_,fun j hj=>?_,h.size,ha⟩
 ·rw [qC _ _ _ _ _ (by omega)];exact h.text
 ·exact qF _ _ _ _ _ h.at_
 ·rw [qC _ _ _ _ _ (by omega)];exact h.err
 ·rw [qE];exact h.fz j hj
theorem Rd.setErr {w:World} {b off:Nat} {s:ByteArray} {a:Nat} {e:Int} (h:Rd w b off s a e) (e':Int):Rd (w.setCell ⟨b,off+2,none⟩ (.int .i64 e')) b off s a e':=by
 refine ⟨?_,?_,?_,fun j hj=>?_,h.size,h.le⟩
 ·rw [qC _ _ _ _ _ (by omega)];exact h.text
 ·rw [qC _ _ _ _ _ (by omega)];exact h.at_
 ·exact qF _ _ _ _ _ h.err
 ·rw [qE];exact h.fz j hj
def rb (s:ByteArray):List Bool:=rbits (zS s)
theorem mS (b off:Nat) (s:ByteArray) (a n:Nat) (w:World) (h:Rd w b off s a 0) (hn:n≤64) (han:a+n≤8*s.size):
  Calls Tryz.prog 76 #[.pointer (some ⟨b,off,none⟩),.int .i64 n] w fun e w'=>e= .returned (.int .u64 (num (((rb s).drop a).take n):Int))∧Rd w' b off s (a+n) 0∧qJ b off (off+3) w w':=by
 have h1:=h.at_
 have h2:=h.err
 have h3:=h.fz 1 (by omega)
 have hs:=h.size
 go_enter Tryz.func76,Tryz.ntmps76
 go_wp2_with fail
 refine (kL b off s a 0 _ h).mono ?_
 rintro e w1 ⟨rfl,m,rfl⟩
 have hnl:¬((8*s.size-a:Nat):Int)<(n:Int):=by omega
 go_wp2_with fail
 refine (sG b off s a n _ (h.drewN m).text hs hn han).mono ?_
 rintro e w1 ⟨rfl,m2,rfl⟩
 go_wp2_with fail
 go_ret
 have hR:Rd (w.drewN (m+m2)) b off s a 0:=h.drewN _
 refine ⟨rfl,?_,?_⟩
 ·have:=hR.setAt (a+n) han
  simpa using this
 ·exact ((qJ.refl _ _ _ w).drewN _).setCell _ (by omega) (by omega) _
theorem yX (b off:Nat) (s:ByteArray) (a n:Nat) (w:World) (h:Rd w b off s a 0) (hn:n≤64) (han:8*s.size<a+n):
  Calls Tryz.prog 76 #[.pointer (some ⟨b,off,none⟩),.int .i64 n] w fun e w'=>e= .returned (.int .u64 0)∧Rd w' b off s a 12∧qJ b off (off+3) w w':=by
 have h1:=h.at_
 have h2:=h.err
 have h3:=h.fz 2 (by omega)
 have hs:=h.size
 have hle:=h.le
 go_enter Tryz.func76,Tryz.ntmps76
 go_wp2_with fail
 refine (kL b off s a 0 _ h).mono ?_
 rintro e w1 ⟨rfl,m,rfl⟩
 have hnl:((8*s.size-a:Nat):Int)<(n:Int):=by omega
 go_wp2_with fail
 refine (uQ b off 12 (w.drewN m) h2 h3).mono ?_
 rintro e w1 ⟨rfl,rfl⟩
 have hR:Rd ((w.drewN m).setCell ⟨b,off+2,none⟩ (.int .i64 12)) b off s a 12:=(h.drewN m).setErr 12
 have hE:=hR.err
 have hO:qJ b off (off+3) w ((w.drewN m).setCell ⟨b,off+2,none⟩ (.int .i64 12)):=((qJ.refl _ _ _ w).drewN _).setCell _ (by omega) (by omega) _
 generalize (w.drewN m).setCell ⟨b,off+2,none⟩ (.int .i64 12)=w2 at*
 go_wp2_with fail
 go_ret
 exact ⟨rfl,hR,hO⟩
theorem wX (b off:Nat) (s:ByteArray) (a:Nat) (n e0:Int) (w:World) (h:Rd w b off s a e0) (he:(e0==0)=false) (hn:0≤n) (hn2:n≤64):
  Calls Tryz.prog 76 #[.pointer (some ⟨b,off,none⟩),.int .i64 n] w fun e w'=>e= .returned (.int .u64 0)∧Rd w' b off s a e0∧qJ b off (off+3) w w':=by
 have h1:=h.at_
 have h2:=h.err
 have hs:=h.size
 have hle:=h.le
 have hne:(e0 !=0)=true:=by simp [bne,he]
 by_cases hnl:((8*s.size-a:Nat):Int)<n
 ·go_enter Tryz.func76,Tryz.ntmps76
  go_wp2_with fail
  refine (kL b off s a e0 _ h).mono ?_
  rintro e w1 ⟨rfl,m,rfl⟩
  go_wp2_with fail
  refine (bV b off 12 e0 (w.drewN m) h2 he).mono ?_
  rintro e w1 ⟨rfl,rfl⟩
  go_wp2_with fail
  go_ret
  exact ⟨rfl,h.drewN m,(qJ.refl _ _ _ w).drewN _⟩
 ·go_enter Tryz.func76,Tryz.ntmps76
  go_wp2_with fail
  refine (kL b off s a e0 _ h).mono ?_
  rintro e w1 ⟨rfl,m,rfl⟩
  go_wp2_with fail
  go_ret
  exact ⟨rfl,h.drewN m,(qJ.refl _ _ _ w).drewN _⟩
def pU (s:ByteArray) (a:Nat) (e:Int):Int:=if e=0 then (if 8≤8*s.size-a then 14 else if num ((rb s).drop a)=0 then 0 else 13) else e
theorem qCE {P:Program} {f:Nat} {args:Array Value} {w:World} {x:Nat} {v:Value} (h:Calls P f args (w.drewN x) fun e w'=>e= .returned v∧∃n,w'=(w.drewN x).drewN n):
  Calls P f args (w.drewN x) fun e w'=>e= .returned v∧∃n,w'=w.drewN n:=
 h.mono fun e w' ⟨he,n,hn⟩=>⟨he,x+n,by rw [hn,World.drewN_drewN]⟩
theorem sN (b off:Nat) (s:ByteArray) (a:Nat) (e0:Int) (w:World) (h:Rd w b off s a e0):
  Calls Tryz.prog 80 #[.pointer (some ⟨b,off,none⟩)] w fun e w'=>e= .returned (.int .i64 (pU s a e0))∧∃m,w'=w.drewN m:=by
 have h0:=h.text
 have h1:=h.at_
 have h2:=h.err
 have hs:=h.size
 have hle:=h.le
 by_cases he:e0=0
 ·subst he
  by_cases h8:8≤8*s.size-a
  ·have hl:(8:Int)≤((8*s.size-a:Nat):Int):=by omega
   have hE:Hid (pU s a 0=14):=by show _=_;simp [pU,h8]
   go_enter Tryz.func80,Tryz.ntmps80
   go_wp2_with fail
   refine (kL b off s a 0 _ h).mono ?_
   rintro e w1 ⟨rfl,m,rfl⟩
   go_wp2_with fail
   go_ret
   exact ⟨by rw [hE.out];rfl,m,rfl⟩
  ·have hl:¬(8:Int)≤((8*s.size-a:Nat):Int):=by omega
   obtain ⟨x,hx⟩:∃x,x=num (((rb s).drop a).take (8*s.size-a)):=⟨_,rfl⟩
   have hlk:=fun w (ht:World.cell? w ⟨b,off,none⟩=some (.string s))=>sG b off s a (8*s.size-a) w ht hs (by omega) (by omega)
   have hfull:((rb s).drop a).take (8*s.size-a)=(rb s).drop a:=List.take_of_length_le (by simp [rb])
   have HF:Hid (x=num ((rb s).drop a)):=by rw [hfull] at hx;exact hx
   have HK:=hlk
   have hx':num (((rbits (zS s)).drop a).take (8*s.size-a))=x:=hx.symm
   simp only [hx'] at HK
   clear hlk hx hfull hx'
   have HK':Hid (∀w:World,World.cell? w ⟨b,off,none⟩=some (.string s)→Calls Tryz.prog 96 #[.pointer (some ⟨b,off,none⟩),.int .i64 a,.int .i64 ((8*s.size-a:Nat):Int)] w fun e w'=>e= .returned (.int .u64 (x:Int))∧∃m,w'=w.drewN m):=HK
   clear HK
   by_cases hz:x=0
   ·subst hz
    have hE:Hid (pU s a 0=0):=by show _=_;simp [pU,h8,←HF.out]
    go_enter Tryz.func80,Tryz.ntmps80
    go_wp2_with fail
    refine (kL b off s a 0 _ h).mono ?_
    rintro e w1 ⟨rfl,m,rfl⟩
    have hR:=h.drewN m
    have h0':=hR.text
    have h1':=hR.at_
    have hm1:Hid (∃m1,w.drewN m=w.drewN m1):=⟨m,rfl⟩
    generalize w.drewN m=w1 at*
    go_wp2_with fail
    go_quiet (first|(go_at_call 95;exact qCE (kL b off s a 0 _ (hR.drewN _)))|(go_at_call 96;exact qCE (HK'.out _ (hR.drewN _).text)))
    go_wp2_with fail
    go_ret
    obtain ⟨m1,rfl⟩:=hm1.out
    exact ⟨by rw [hE.out];rfl,m1+nq,World.drewN_drewN _ _ _⟩
   ·have hE:Hid (pU s a 0=13):=by show _=_;simp [pU,h8,←HF.out,hz]
    have hz':((x:Int) !=0)=true:=by simp [hz]
    go_enter Tryz.func80,Tryz.ntmps80
    go_wp2_with fail
    refine (kL b off s a 0 _ h).mono ?_
    rintro e w1 ⟨rfl,m,rfl⟩
    have hR:=h.drewN m
    have h0':=hR.text
    have h1':=hR.at_
    have hm1:Hid (∃m1,w.drewN m=w.drewN m1):=⟨m,rfl⟩
    generalize w.drewN m=w1 at*
    go_wp2_with fail
    go_quiet (first|(go_at_call 95;exact qCE (kL b off s a 0 _ (hR.drewN _)))|(go_at_call 96;exact qCE (HK'.out _ (hR.drewN _).text)))
    go_wp2_with fail
    go_ret
    obtain ⟨m1,rfl⟩:=hm1.out
    exact ⟨by rw [hE.out];rfl,m1+nq,World.drewN_drewN _ _ _⟩
 ·have hne:(e0 !=0)=true:=by simp [he]
  have hE:Hid (pU s a e0=e0):=by show _=_;simp [pU,he]
  go_enter Tryz.func80,Tryz.ntmps80
  go_wp2_with fail
  go_ret
  exact ⟨by rw [hE.out];rfl,0,rfl⟩
theorem pL (b off:Nat) (w:World) (x:Nat) (R:World→Prop) (h:Calls Tryz.prog 76 #[.pointer (some ⟨b,off,none⟩),.int .i64 1] w fun e w'=>e= .returned (.int .u64 (x:Int))∧R w'):
  Calls Tryz.prog 107 #[.pointer (some ⟨b,off,none⟩)] w fun e w'=>e= .returned (.bool (x==1))∧R w':=by
 have H:Hid (Calls Tryz.prog 76 #[.pointer (some ⟨b,off,none⟩),.int .i64 1] w fun e w'=>e= .returned (.int .u64 (x:Int))∧R w'):=h
 clear h
 go_enter Tryz.func107,Tryz.ntmps107
 go_wp2_with fail
 refine H.out.mono ?_
 rintro e w1 ⟨rfl,hr⟩
 go_wp2_with fail
 go_ret
 refine ⟨?_,hr⟩
 show Ending.returned (.bool ((x:Int)==1))=_
 congr 2
 by_cases hx:x=1
 ·subst hx;rfl
 ·have:¬(x:Int)=1:=by omega
  rw [beq_eq_false_iff_ne.2 hx,beq_eq_false_iff_ne.2 this]
end Go.Proofs.YtkpmalfigmimaaaGreatDoor
namespace Go.Proofs.YtkpmalfigmimaaaGreatDoor.M
def readG:Nat→List Bool→Nat→Nat→Nat→Nat×Nat×Nat
 |0,_,_,_,_=>(0,0,13)
 |f+1,l,k,x,u=>
  if l.length<8 then (0,0,12)
  else if (k=9∧1<num (l.take 8))∨(0<k∧num (l.take 8)=0) then (0,0,13)
  else if num (l.take 8)<128 then (x+num (l.take 8)%128*2^(7*k),u+8,0)
  else readG f (l.drop 8) (k+1) (x+num (l.take 8)%128*2^(7*k)) (u+8)
theorem readG_short (f:Nat) (l:List Bool) (k x u:Nat) (h:l.length<8):readG (f+1) l k x u=(0,0,12):=by
 rw [readG,if_pos h]
theorem readG_form (f:Nat) (l:List Bool) (k x u:Nat) (h:8≤l.length) (hb:(k=9∧1<num (l.take 8))∨(0<k∧num (l.take 8)=0)):readG (f+1) l k x u=(0,0,13):=by
 rw [readG,if_neg (by omega),if_pos hb]
theorem readG_last (f:Nat) (l:List Bool) (k x u:Nat) (h:8≤l.length) (hb:¬((k=9∧1<num (l.take 8))∨(0<k∧num (l.take 8)=0))) (hg:num (l.take 8)<128):
  readG (f+1) l k x u=(x+num (l.take 8)%128*2^(7*k),u+8,0):=by
 rw [readG,if_neg (by omega),if_neg hb,if_pos hg]
theorem readG_more (f:Nat) (l:List Bool) (k x u:Nat) (h:8≤l.length) (hb:¬((k=9∧1<num (l.take 8))∨(0<k∧num (l.take 8)=0))) (hg:¬num (l.take 8)<128):
  readG (f+1) l k x u=readG f (l.drop 8) (k+1) (x+num (l.take 8)%128*2^(7*k)) (u+8):=by
 rw [readG,if_neg (by omega),if_neg hb,if_neg hg]
theorem readG_groups:∀(f y k x u:Nat) (rest:List Bool),k+f=9→y<2^(7*f+1)→(0<k→0<y)→
  readG (f+1) (groups f y++rest) k x u=(x+y*2^(7*k),u+(groups f y).length,0):=by
 intro f
 induction f with
 |zero=>
  intro y k x u rest hk hy hp
  have hl:(groups 0 y).length=8:=by simp [groups]
  have ht:(groups 0 y++rest).take 8=bitsOf y 8:=by rw [List.take_left' hl];rfl
  have hn:num ((groups 0 y++rest).take 8)=y:=by rw [ht,num_bitsOf];omega
  have h2:y<2:=by simpa using hy
  rw [readG_last _ _ _ _ _ (by simp [hl]) (by rw [hn];omega) (by rw [hn];omega),hn,hl]
  have:y%128=y:=by omega
  rw [this]
 |succ f ih=>
  intro y k x u rest hk hy hp
  by_cases hs:y<128
  ·rw [groups_small _ _ hs]
   have ht:(bitsOf y 8++rest).take 8=bitsOf y 8:=List.take_left' (by simp)
   have hn:num ((bitsOf y 8++rest).take 8)=y:=by rw [ht,num_bitsOf];omega
   rw [readG_last _ _ _ _ _ (by simp) (by rw [hn];omega) (by rw [hn];omega),hn,bitsOf_length]
   have:y%128=y:=by omega
   rw [this]
  ·rw [groups_big _ _ (by omega),List.append_assoc]
   have ht:(bitsOf (128+y%128) 8++(groups f (y/128)++rest)).take 8=bitsOf (128+y%128) 8:=List.take_left' (by simp)
   have hn:num ((bitsOf (128+y%128) 8++(groups f (y/128)++rest)).take 8)=128+y%128:=by rw [ht,num_bitsOf];omega
   have hd:(bitsOf (128+y%128) 8++(groups f (y/128)++rest)).drop 8=groups f (y/128)++rest:=List.drop_left' (by simp)
   have hy':y/128<2^(7*f+1):=by
    rw [show 7*(f+1)+1=(7*f+1)+7 from by omega,Nat.pow_add] at hy;omega
   rw [readG_more _ _ _ _ _ (by simp) (by rw [hn];omega) (by rw [hn];omega),hn,hd,ih (y/128) (k+1) _ _ rest (by omega) hy' (by omega),List.length_append,bitsOf_length]
   have e1:(128+y%128)%128=y%128:=by omega
   have e2:x+y%128*2^(7*k)+y/128*2^(7*(k+1))=x+y*2^(7*k):=by
    rw [show 7*(k+1)=7*k+7 from by omega,Nat.pow_add]
    have:y*2^(7*k)=(y%128+128*(y/128))*2^(7*k):=by rw [Nat.mod_add_div]
    rw [this,Nat.add_mul,Nat.add_assoc]
    congr 2
    rw [Nat.mul_comm 128 (y/128),Nat.mul_assoc,Nat.mul_comm (2^(7*k))]
   rw [e1,e2,Nat.add_assoc]
theorem varB_read (x u:Nat) (rest:List Bool) (h:x<2^64):readG 10 (varB x++rest) 0 0 u=(x,u+(varB x).length,0):=by
 have:=readG_groups 9 x 0 0 u rest rfl (by simpa using h) (by omega)
 simpa [varB] using this
theorem readG_form_of:∀(f:Nat) (l:List Bool) (k x u X E:Nat),k+f=9→readG (f+1) l k x u=(X,E,0)→
  ∃y,X=x+y*2^(7*k)∧y<2^(7*f+1)∧(0<k→0<y)∧E=u+(groups f y).length∧∃rest,l=groups f y++rest:=by
 intro f
 induction f with
 |zero=>
  intro l k x u X E hk h
  by_cases h8:l.length<8
  ·rw [readG_short _ _ _ _ _ h8] at h;simp at h
  by_cases hb:(k=9∧1<num (l.take 8))∨(0<k∧num (l.take 8)=0)
  ·rw [readG_form _ _ _ _ _ (by omega) hb] at h;simp at h
  have hlt:num (l.take 8)<128:=by omega
  rw [readG_last _ _ _ _ _ (by omega) hb hlt] at h
  simp only [Prod.mk.injEq] at h
  have hl:(l.take 8).length=8:=by simp;omega
  have hbits:bitsOf (num (l.take 8)) 8=l.take 8:=by have:=bitsOf_num (l.take 8);rwa [hl] at this
  refine ⟨num (l.take 8),?_,?_,by omega,?_,l.drop 8,?_⟩
  ·rw [←h.1,Nat.mod_eq_of_lt hlt]
  ·simp;omega
  ·simp [groups];omega
  ·show l=bitsOf (num (l.take 8)) 8++l.drop 8
   rw [hbits,List.take_append_drop]
 |succ f ih=>
  intro l k x u X E hk h
  by_cases h8:l.length<8
  ·rw [readG_short _ _ _ _ _ h8] at h;simp at h
  by_cases hb:(k=9∧1<num (l.take 8))∨(0<k∧num (l.take 8)=0)
  ·rw [readG_form _ _ _ _ _ (by omega) hb] at h;simp at h
  have hl:(l.take 8).length=8:=by simp;omega
  have hbits:bitsOf (num (l.take 8)) 8=l.take 8:=by have:=bitsOf_num (l.take 8);rwa [hl] at this
  have h256:num (l.take 8)<256:=by have:=num_lt (l.take 8);rwa [hl] at this
  by_cases hlt:num (l.take 8)<128
  ·rw [readG_last _ _ _ _ _ (by omega) hb hlt] at h
   simp only [Prod.mk.injEq] at h
   refine ⟨num (l.take 8),?_,?_,by omega,?_,l.drop 8,?_⟩
   ·rw [←h.1,Nat.mod_eq_of_lt hlt]
   ·have:(2:Nat)^7≤2^(7*(f+1)+1):=Nat.pow_le_pow_right (by omega) (by omega)
    omega
   ·rw [groups_small _ _ hlt];simp;omega
   ·rw [groups_small _ _ hlt,hbits,List.take_append_drop]
  ·rw [readG_more _ _ _ _ _ (by omega) hb hlt] at h
   obtain ⟨y,hX,hy,hpos,hE,rest,hr⟩:=ih _ _ _ _ _ _ (by omega) h
   generalize hg:num (l.take 8)=g at*
   have hy0:0<y:=hpos (by omega)
   have hbig:128≤y*128+g%128:=by omega
   have hd1:(y*128+g%128)/128=y:=by omega
   have hd2:(y*128+g%128)%128=g%128:=by omega
   refine ⟨y*128+g%128,?_,?_,by omega,?_,rest,?_⟩
   ·rw [hX,show 7*(k+1)=7*k+7 from by omega,Nat.pow_add,Nat.add_mul,Nat.add_assoc,Nat.add_comm (g%128*_)]
    congr 2
    rw [Nat.mul_assoc,Nat.mul_comm (2^(7*k))]
   ·rw [show 7*(f+1)+1=(7*f+1)+7 from by omega,Nat.pow_add];omega
   ·rw [groups_big _ _ hbig,hd1,List.length_append,bitsOf_length];omega
   ·rw [groups_big _ _ hbig,hd1,hd2,List.append_assoc,←hr,show 128+g%128=g from by omega,hbits,List.take_append_drop]
theorem varB_form (l:List Bool) (u X E:Nat) (h:readG 10 l 0 0 u=(X,E,0)):X<2^64∧E=u+(varB X).length∧∃rest,l=varB X++rest:=by
 obtain ⟨y,hX,hy,_,hE,rest,hr⟩:=readG_form_of 9 l 0 0 u X E rfl h
 have:X=y:=by simpa using hX
 subst this
 exact ⟨by simpa using hy,hE,rest,hr⟩
theorem readG_err:∀(f:Nat) (l:List Bool) (k x u:Nat),k+f=9→(readG (f+1) l k x u).2.2=0∨((readG (f+1) l k x u).1=0∧(readG (f+1) l k x u).2.1=0∧((readG (f+1) l k x u).2.2=12∨(readG (f+1) l k x u).2.2=13)):=by
 intro f
 induction f with
 |zero=>
  intro l k x u hk
  by_cases h8:l.length<8
  ·rw [readG_short _ _ _ _ _ h8];simp
  by_cases hb:(k=9∧1<num (l.take 8))∨(0<k∧num (l.take 8)=0)
  ·rw [readG_form _ _ _ _ _ (by omega) hb];simp
  rw [readG_last _ _ _ _ _ (by omega) hb (by omega)];simp
 |succ f ih=>
  intro l k x u hk
  by_cases h8:l.length<8
  ·rw [readG_short _ _ _ _ _ h8];simp
  by_cases hb:(k=9∧1<num (l.take 8))∨(0<k∧num (l.take 8)=0)
  ·rw [readG_form _ _ _ _ _ (by omega) hb];simp
  by_cases hlt:num (l.take 8)<128
  ·rw [readG_last _ _ _ _ _ (by omega) hb hlt];simp
  rw [readG_more _ _ _ _ _ (by omega) hb hlt];exact ih _ _ _ _ (by omega)
end Go.Proofs.YtkpmalfigmimaaaGreatDoor.M
