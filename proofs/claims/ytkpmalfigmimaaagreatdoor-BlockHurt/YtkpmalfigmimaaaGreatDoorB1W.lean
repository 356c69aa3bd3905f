import Derived.Laws.BitsAllLaws
import Derived.Test.YtkpmalfigmimaaaGreatDoorProg
import Derived.WalkKit
import Derived.WalkSpells
import Derived.WalkLawsBesides
import Derived.Deep.QuietTactic
import Derived.BigQuiet
import Derived.BigRegion
import Derived.Deep.MidRow
import Derived.Deep.RegionHeldLaw
set_option linter.unusedVariables false
set_option linter.unusedSimpArgs false
set_option maxRecDepth 100000
set_option maxHeartbeats 8000000
namespace Go.Proofs.YtkpmalfigmimaaaGreatDoor.M
def num:List Bool→Nat
 |[]=>0
 |b::l=>(if b then 1 else 0)*2^l.length+num l
def bitsOf (x:Nat):Nat→List Bool
 |0=>[]
 |n+1=>(x/2^n%2==1)::bitsOf x n
@[simp] theorem num_nil:num []=0:=rfl
theorem num_append (a b:List Bool):num (a++b)=num a*2^b.length+num b:=by
 induction a with
 |nil=>simp
 |cons x a ih=>simp only [List.cons_append,num,List.length_append,ih];rw [Nat.pow_add,Nat.add_mul,Nat.mul_assoc,Nat.add_assoc]
theorem num_lt (l:List Bool):num l<2^l.length:=by
 induction l with
 |nil=>simp
 |cons b l ih=>simp only [num,List.length_cons,Nat.pow_succ];cases b<;>simp<;>omega
@[simp] theorem bitsOf_length (x n:Nat):(bitsOf x n).length=n:=by
 induction n with
 |zero=>rfl
 |succ n ih=>simp [bitsOf,ih]
theorem num_bitsOf (x n:Nat):num (bitsOf x n)=x%2^n:=by
 induction n with
 |zero=>simp [bitsOf,Nat.mod_one]
 |succ n ih=>
  simp only [bitsOf,num,bitsOf_length,ih]
  rw [Nat.pow_succ,Nat.mod_mul]
  have h:x/2^n%2=0∨x/2^n%2=1:=by omega
  rcases h with h|h<;>simp [h]<;>omega
theorem num_inj {a b:List Bool} (hl:a.length=b.length) (hn:num a=num b):a=b:=by
 induction a generalizing b with
 |nil=>cases b with
  |nil=>rfl
  |cons _ _=>simp at hl
 |cons x a ih=>cases b with
  |nil=>simp at hl
  |cons y b=>
   simp only [List.length_cons,Nat.add_right_cancel_iff] at hl
   simp only [num,hl] at hn
   have ha:=num_lt a
   have hb:=num_lt b
   rw [hl] at ha
   cases x<;>cases y<;>simp at hn
   ·rw [ih hl hn]
   ·omega
   ·omega
   ·rw [ih hl hn]
theorem bitsOf_num (l:List Bool):bitsOf (num l) l.length=l:=by
 apply num_inj (by simp)
 rw [num_bitsOf];exact Nat.mod_eq_of_lt (num_lt l)
theorem bitsOf_split (x a b:Nat):bitsOf x (a+b)=bitsOf (x/2^b) a++bitsOf x b:=by
 apply num_inj (by simp)
 rw [num_append,num_bitsOf,num_bitsOf,num_bitsOf,bitsOf_length,Nat.add_comm a b,Nat.pow_add,Nat.mod_mul,Nat.mul_comm,Nat.add_comm]
def byteAt (l:List Bool) (i:Nat):Nat:=num ((l.drop (8*i)).take 8)*2^(8-((l.drop (8*i)).take 8).length)
theorem byteAt_lt (l:List Bool) (i:Nat):byteAt l i<256:=by
 unfold byteAt
 have h:=num_lt ((l.drop (8*i)).take 8)
 have hl:((l.drop (8*i)).take 8).length≤8:=List.length_take_le _ _
 generalize (l.drop (8*i)).take 8=m at*
 calc num m*2^(8-m.length)<2^m.length*2^(8-m.length):=Nat.mul_lt_mul_of_pos_right h (Nat.pos_of_ne_zero (by simp))
  _=256:=by rw [←Nat.pow_add,Nat.add_sub_cancel' hl]
theorem byteAt_beyond (l:List Bool) (i:Nat) (h:l.length≤8*i):byteAt l i=0:=by
 unfold byteAt;rw [List.drop_eq_nil_of_le h];simp
theorem byteAt_full (l m:List Bool) (i:Nat) (h:8*(i+1)≤l.length):byteAt (l++m) i=byteAt l i:=by
 unfold byteAt
 rw [List.drop_append_of_le_length (by omega),List.take_append_of_le_length (by simp;omega)]
theorem byteAt_mod (l:List Bool) (i r:Nat) (h:l.length=8*i+r) (hr:r<8):byteAt l i%2^(8-r)=0:=by
 unfold byteAt
 have:((l.drop (8*i)).take 8).length=r:=by simp;omega
 rw [this];exact Nat.mul_mod_left _ _
theorem byteAt_here (l m:List Bool) (i r:Nat) (h:l.length=8*i+r) (hm:m.length≤8-r) (hr:r<8):
  byteAt (l++m) i=byteAt l i+num m*2^(8-r-m.length):=by
 unfold byteAt
 have hd:(l.drop (8*i)).length=r:=by simp;omega
 rw [List.drop_append_of_le_length (by omega)]
 rw [List.take_of_length_le (l:=l.drop (8*i)++m) (by simp;omega),List.take_of_length_le (l:=l.drop (8*i)) (by omega)]
 generalize l.drop (8*i)=d at*
 rw [num_append,List.length_append,hd,Nat.add_mul,Nat.mul_assoc,←Nat.pow_add]
 have e1:m.length+(8-(r+m.length))=8-r:=by omega
 have e2:8-(r+m.length)=8-r-m.length:=by omega
 rw [e1,e2]
def packed (l:List Bool):List Nat:=(List.range ((l.length+7)/8)).map (byteAt l)
@[simp] theorem packed_length (l:List Bool):(packed l).length=(l.length+7)/8:=by simp [packed]
theorem packed_getD (l:List Bool) (i:Nat) (h:i<(l.length+7)/8):(packed l).getD i 0=byteAt l i:=by
 simp [packed,List.getD,h]
def rbits (bs:List Nat):List Bool:=bs.flatMap fun b=>bitsOf b 8
@[simp] theorem rbits_nil:rbits []=[]:=rfl
@[simp] theorem rbits_cons (b:Nat) (bs:List Nat):rbits (b::bs)=bitsOf b 8++rbits bs:=rfl
@[simp] theorem rbits_length (bs:List Nat):(rbits bs).length=8*bs.length:=by
 induction bs with
 |nil=>rfl
 |cons b bs ih=>simp [ih];omega
theorem rbits_drop (bs:List Nat) (q:Nat):(rbits bs).drop (8*q)=rbits (bs.drop q):=by
 induction q generalizing bs with
 |zero=>simp
 |succ q ih=>cases bs with
  |nil=>simp
  |cons b bs=>
   rw [rbits_cons,List.drop_append,bitsOf_length,List.drop_eq_nil_of_le (by simp;omega)]
   have:8*(q+1)-8=8*q:=by omega
   rw [this,ih];simp
theorem take_bitsOf (x n k:Nat) (h:k≤n):(bitsOf x n).take k=bitsOf (x/2^(n-k)) k:=by
 have:=bitsOf_split x k (n-k)
 rw [show k+(n-k)=n from by omega] at this
 rw [this,List.take_left' (by simp)]
theorem drop_bitsOf (x n k:Nat) (h:k≤n):(bitsOf x n).drop k=bitsOf x (n-k):=by
 have:=bitsOf_split x k (n-k)
 rw [show k+(n-k)=n from by omega] at this
 rw [this,List.drop_left' (by simp)]
theorem look_byte (bs:List Nat) (at_ k:Nat) (hq:at_/8<bs.length) (hk:k≤8-at_%8):
  num (((rbits bs).drop at_).take k)=bs.getD (at_/8) 0/2^(8-at_%8-k)%2^k:=by
 have e:at_=8*(at_/8)+at_%8:=by omega
 generalize hq':at_/8=q at*
 generalize hr:at_%8=r at*
 have hr8:r<8:=by omega
 rw [e,←List.drop_drop,rbits_drop]
 have hb:bs.drop q=bs.getD q 0::bs.drop (q+1):=by
  rw [List.drop_eq_getElem_cons hq];simp [List.getD,hq]
 rw [hb,rbits_cons,List.drop_append_of_le_length (by simp;omega),drop_bitsOf _ _ _ (by omega),List.take_append_of_le_length (by simp;omega),take_bitsOf _ _ _ (by omega),num_bitsOf]
theorem num_take_add (l:List Bool) (a b:Nat) (h:a+b≤l.length):num (l.take (a+b))=num (l.take a)*2^b+num ((l.drop a).take b):=by
 have e:((l.drop a).take b).length=b:=by simp;omega
 rw [List.take_add,num_append,e]
theorem rbits_packed (l:List Bool):rbits (packed l)=l++List.replicate (8*((l.length+7)/8)-l.length) false:=by
 have key:∀n l,l.length≤n→rbits (packed l)=l++List.replicate (8*((l.length+7)/8)-l.length) false:=by
  intro n
  induction n with
  |zero=>intro l h;have:l=[]:=List.length_eq_zero_iff.1 (by omega);subst this;rfl
  |succ n ih=>
   intro l h
   by_cases h0:l.length=0
   ·have:l=[]:=List.length_eq_zero_iff.1 h0;subst this;rfl
   ·have hp:packed l=byteAt l 0::packed (l.drop 8):=by
     unfold packed
     have e:(l.length+7)/8=((l.drop 8).length+7)/8+1:=by simp;omega
     rw [e,List.range_succ_eq_map,List.map_cons,List.map_map]
     congr 1
     apply List.map_congr_left
     intro i _
     simp only [Function.comp,byteAt,List.drop_drop]
     rw [show 8+8*i=8*(i+1) from by omega]
    rw [hp,rbits_cons,ih (l.drop 8) (by simp;omega)]
    have hbyte:bitsOf (byteAt l 0) 8=l.take 8++List.replicate (8-l.length) false:=by
     apply num_inj (by simp;omega)
     rw [num_bitsOf,Nat.mod_eq_of_lt (byteAt_lt _ _),num_append]
     have hz:∀k,num (List.replicate k false)=0:=by
      intro k;induction k with
      |zero=>rfl
      |succ k ih=>simp [List.replicate_succ,num,ih]
     rw [hz]
     unfold byteAt
     simp only [Nat.mul_zero,List.drop_zero,List.length_take,List.length_replicate,Nat.add_zero]
     congr 2;omega
    rw [hbyte]
    by_cases h8:8≤l.length
    ·rw [show 8-l.length=0 from by omega]
     simp only [List.replicate_zero,List.append_nil]
     rw [←List.append_assoc,List.take_append_drop]
     congr 2;simp;omega
    ·rw [List.take_of_length_le (by omega),List.drop_eq_nil_of_le (by omega)]
     have e:(l.length+7)/8=1:=by omega
     simp [e]
 exact key _ l (Nat.le_refl _)
def groups:Nat→Nat→List Bool
 |0,x=>bitsOf x 8
 |k+1,x=>if x<128 then bitsOf x 8 else bitsOf (128+x%128) 8++groups k (x/128)
def varB (x:Nat):List Bool:=groups 9 x
def zig (x:Int):Nat:=if x<0 then (-2*x-1).toNat else (2*x).toNat
theorem groups_small (k x:Nat) (h:x<128):groups k x=bitsOf x 8:=by
 cases k with
 |zero=>rfl
 |succ k=>simp [groups,h]
theorem groups_big (k x:Nat) (h:128≤x):groups (k+1) x=bitsOf (128+x%128) 8++groups k (x/128):=by
 simp [groups,show ¬x<128 from by omega]
end Go.Proofs.YtkpmalfigmimaaaGreatDoor.M
namespace Go.Proofs.YtkpmalfigmimaaaGreatDoor
def st1 (x:Nat):Nat:=if x%2=1 then (x/2)^^^3988292384 else x/2
def stN:Nat→Nat→Nat
 |0,x=>x
 |k+1,x=>stN k (st1 x)
theorem qIO (a b:Nat):(a^^^b)/2=(a/2)^^^(b/2):=by
 have:=@Nat.xor_div_two_pow a b 1
 simpa using this
theorem qKP (a b:Nat):(a^^^b)%2=(a%2)^^^(b%2):=by
 have:=@Nat.xor_mod_two_pow a b 1
 simpa using this
theorem qKK (a b:Nat):st1 (a^^^b)=st1 a^^^st1 b:=by
 unfold st1
 rw [qIO,qKP]
 rcases Nat.mod_two_eq_zero_or_one a with ha|ha<;>rcases Nat.mod_two_eq_zero_or_one b with hb|hb<;>rw [ha,hb]
 ·simp
 ·simp [Nat.xor_assoc]
 ·simp only [show (1:Nat)^^^0=1 from rfl,if_true]
  rw [if_neg (by omega),Nat.xor_assoc,Nat.xor_assoc,Nat.xor_comm (b/2)]
 ·simp only [show (1:Nat)^^^1=0 from rfl,if_true]
  rw [if_neg (by omega)]
  generalize a/2=x
  generalize b/2=y
  rw [Nat.xor_assoc,←Nat.xor_assoc 3988292384,Nat.xor_comm 3988292384 y,Nat.xor_assoc y,Nat.xor_self,Nat.xor_zero]
theorem qGW (k a b:Nat):stN k (a^^^b)=stN k a^^^stN k b:=by
 induction k generalizing a b with
 |zero=>rfl
 |succ k ih=>rw [stN,stN,stN,qKK,ih]
theorem qIE (y:Nat):st1 (2*y)=y:=by
 unfold st1;rw [if_neg (by omega)];omega
theorem qIF (k y:Nat):stN k (2^k*y)=y:=by
 induction k generalizing y with
 |zero=>simp [stN]
 |succ k ih=>rw [stN,show 2^(k+1)*y=2*(2^k*y) from by rw [Nat.pow_succ,Nat.mul_comm (2^k) 2,Nat.mul_assoc],qIE,ih]
theorem qKJ (x:Nat):(16*(x/16))^^^(x%16)=x:=by
 have h:16*(x/16)+x%16=x:=Nat.div_add_mod x 16
 have h2:=Nat.two_pow_add_eq_or_of_lt (i:=4) (b:=x%16) (Nat.mod_lt _ (by omega)) (x/16)
 have h3:(2^4*(x/16))^^^(x%16)=(2^4*(x/16))|||(x%16):=by
  apply Nat.eq_of_testBit_eq
  intro i
  rw [Nat.testBit_xor,Nat.testBit_or]
  by_cases hi:i<4
  ·have hq:(2^4*(x/16)).testBit i=false:=by rw [Nat.testBit_two_pow_mul];simp;omega
   rw [hq];simp
  ·have hq:(x%16).testBit i=false:=Nat.testBit_lt_two_pow (Nat.lt_of_lt_of_le (Nat.mod_lt x (by omega)) (show 16≤2^i from Nat.pow_le_pow_right (n:=2) (by omega) (show 4≤i by omega)))
   rw [hq];simp
 have h4:(2:Nat)^4=16:=rfl
 rw [h4] at h2 h3
 rw [h3,←h2,h]
theorem st4 (x:Nat):stN 4 x=(x/16)^^^stN 4 (x%16):=by
 conv=>lhs;rw [←qKJ x,qGW]
 rw [show (16:Nat)*(x/16)=2^4*(x/16) from rfl,qIF]
theorem qKL (j k x:Nat):stN (j+k) x=stN k (stN j x):=by
 induction j generalizing x with
 |zero=>rw [Nat.zero_add];rfl
 |succ j ih=>rw [Nat.succ_add,stN,stN,ih]
def xX:List Nat:=[0x00000000,0x1db71064,0x3b6e20c8,0x26d930ac,0x76dc4190,0x6b6b51f4,0x4db26158,0x5005713c,0xedb88320,0xf00f9344,0xd6d6a3e8,0xcb61b38c,0x9b64c2b0,0x86d3d2d4,0xa00ae278,0xbdbdf21c]
theorem qJ7 (i:Nat) (h:i<16):stN 4 i=xX.getD i 0:=by
 have:∀j:Fin 16,stN 4 j.val=xX.getD j.val 0:=by decide +kernel
 exact this ⟨i,h⟩
theorem qJ6 (i:Nat) (h:i<16):xX.getD i 0<4294967296:=by
 have:∀j:Fin 16,xX.getD j.val 0<4294967296:=by decide +kernel
 exact this ⟨i,h⟩
def qLV (x c:Nat):Nat:=stN 8 (x^^^c)
theorem qHT (x c y z:Nat) (hy:y=x^^^c) (hz:z=(y/16)^^^xX.getD (y%16) 0):qLV x c=(z/16)^^^xX.getD (z%16) 0:=by
 unfold qLV
 rw [←hy,show (8:Nat)=4+4 from rfl,qKL,st4 y,qJ7 (y%16) (Nat.mod_lt _ (by omega)),←hz,st4 z,qJ7 (z%16) (Nat.mod_lt _ (by omega))]
def tM (bs:List Nat):Nat→Nat
 |0=>4294967295
 |k+1=>qLV (tM bs k) (bs.getD k 0)
theorem qJ5 (x:Nat) (h:x<4294967296):st1 x<4294967296:=by
 unfold st1
 split
 ·exact Nat.xor_lt_two_pow (n:=32) (by show x/2<4294967296;omega) (by decide)
 ·omega
theorem qLI (k x:Nat) (h:x<4294967296):stN k x<4294967296:=by
 induction k generalizing x with
 |zero=>exact h
 |succ k ih=>exact ih _ (qJ5 x h)
theorem wE (bs:List Nat) (hb:∀n∈bs,n<256) (k:Nat):tM bs k<4294967296:=by
 induction k with
 |zero=>show 4294967295<4294967296;omega
 |succ k ih=>
  refine qLI 8 _ (Nat.xor_lt_two_pow (n:=32) ih ?_)
  show bs.getD k 0<4294967296
  by_cases h:k<bs.length
  ·have:=hb (bs.getD k 0) (by rw [List.getD_eq_getElem?_getD,List.getElem?_eq_getElem h];exact List.getElem_mem h)
   omega
  ·rw [List.getD_eq_getElem?_getD,List.getElem?_eq_none (by omega)];decide
def dN (bs:List Nat):Nat:=4294967295-tM bs bs.length
end Go.Proofs.YtkpmalfigmimaaaGreatDoor
namespace Go.Proofs.YtkpmalfigmimaaaGreatDoor
open Go.RowKit
open M
theorem xM (k:Nat) (w:World) (h1:k≤8):
  Calls Tryz.prog 92 #[.int .i64 k] w fun e w'=>e= .returned (.int .u8 (255/2^(8-k)))∧w'=w:=by
 go_enter Tryz.func92,Tryz.ntmps92
 go_wp2
 go_ret
 exact ⟨rfl,rfl⟩
structure Raw (w:World) (b off:Nat) (p:Option Addr) (f:Nat→Nat) (n:Nat) (e:Int):Prop where
 full:w.cell? ⟨b,off,none⟩=some (.pointer p)
 last:∀j,j<120→w.cell? ⟨b,off+1+j,none⟩=some (.int .u8 (f j))
 len:w.cell? ⟨b,off+121,none⟩=some (.int .i64 n)
 err:w.cell? ⟨b,off+122,none⟩=some (.int .i64 e)
 fz:∀j,j<123→w.frozen? ⟨b,off+j,none⟩=false
structure qJ (b lo hi:Nat) (w w':World):Prop where
 os:w'.os=w.os
 tape:w'.tape=w.tape
 output:w'.output=w.output
 size:w.heap.size≤w'.heap.size
 block:∀k,k<w.heap.size→k≠b→w'.heap[k]?=w.heap[k]?
 cell:∀j,(j<lo∨hi≤j)→w'.cell? ⟨b,j,none⟩=w.cell? ⟨b,j,none⟩
 frozen:∀j,w'.frozen? ⟨b,j,none⟩=w.frozen? ⟨b,j,none⟩
theorem qJ.refl (b lo hi:Nat) (w:World):qJ b lo hi w w:=⟨rfl,rfl,rfl,Nat.le_refl _,fun _ _ _=>rfl,fun _ _=>rfl,fun _=>rfl⟩
theorem qJ.trans {b lo hi:Nat} {u v w:World} (h:qJ b lo hi u v) (k:qJ b lo hi v w):qJ b lo hi u w:=
 ⟨k.os.trans h.os,k.tape.trans h.tape,k.output.trans h.output,Nat.le_trans h.size k.size,
  fun i hi hb=>(k.block i (Nat.lt_of_lt_of_le hi h.size) hb).trans (h.block i hi hb),fun j hj=>(k.cell j hj).trans (h.cell j hj),fun j=>(k.frozen j).trans (h.frozen j)⟩
theorem qJ.drew {b lo hi:Nat} {u w:World} (h:qJ b lo hi u w):qJ b lo hi u w.drew:=⟨h.os,h.tape,h.output,h.size,h.block,h.cell,h.frozen⟩
theorem qJ.drewN {b lo hi:Nat} {u w:World} (h:qJ b lo hi u w) (n:Nat):qJ b lo hi u (w.drewN n):=⟨h.os,h.tape,h.output,h.size,h.block,h.cell,h.frozen⟩
theorem qJ.alloc {b lo hi:Nat} {u w:World} (h:qJ b lo hi u w) (hb:b<w.heap.size) (o:Obj):qJ b lo hi u (w.alloc o):=by
 refine h.trans ⟨rfl,rfl,rfl,by simp,fun k hk _=>Below.heap_alloc _ _ _ hk,fun j _=>?_,fun j=>?_⟩
 ·exact World.cell?_of_block (w:=w) (Below.heap_alloc _ _ _ hb)
 ·exact World.frozen?_of_block (w:=w) (Below.heap_alloc _ _ _ hb)
theorem qC (w:World) (b i j:Nat) (v:Value) (h:j≠i):(w.setCell ⟨b,i,none⟩ v).cell? ⟨b,j,none⟩=w.cell? ⟨b,j,none⟩:=by
 simp only [World.cell?,World.setCell,Array.getElem?_modify]
 simp only [if_true]
 cases w.heap[b]? with
 |none=>rfl
 |some o=>
       cases o<;>simp
       rw [Array.getElem?_setIfInBounds_ne (by omega)]
theorem qF (w:World) (b i:Nat) (v u:Value) (h:w.cell? ⟨b,i,none⟩=some u):(w.setCell ⟨b,i,none⟩ v).cell? ⟨b,i,none⟩=some v:=by
 simp only [World.cell?,World.setCell,Array.getElem?_modify] at h⊢
 simp only [if_true]
 cases hb:w.heap[b]? with
 |none=>simp [hb] at h
 |some o=>
       cases o<;>simp [hb] at h⊢
       rename_i c e f
       have hi:i<c.size:=by
        rcases Nat.lt_or_ge i c.size with h1|h1
        ·exact h1
        ·simp [h1] at h
       simp [hi]
theorem qE (w:World) (a:Addr) (v:Value) (p:Addr):(w.setCell a v).frozen? p=w.frozen? p:=by
 simp only [World.frozen?,World.setCell,Array.getElem?_modify]
 by_cases h:a.block=p.block
 ·rw [if_pos h]
  cases w.heap[p.block]? with
  |none=>rfl
  |some o=>cases o<;>simp
 ·rw [if_neg h]
theorem qJ.setCell {b lo hi:Nat} {u w:World} (h:qJ b lo hi u w) (i:Nat) (h1:lo≤i) (h2:i<hi) (v:Value):qJ b lo hi u (w.setCell ⟨b,i,none⟩ v):=by
 refine h.trans ⟨rfl,rfl,rfl,by simp [World.setCell],fun k _ hb=>Below.heap_setCell _ _ _ _ hb,fun j hj=>qC _ _ _ _ _ (by omega),fun j=>qE _ _ _ _⟩
theorem Raw.drewN {w:World} {b off:Nat} {p:Option Addr} {f:Nat→Nat} {n:Nat} {e:Int} (h:Raw w b off p f n e) (m:Nat):Raw (w.drewN m) b off p f n e:=⟨h.full,h.last,h.len,h.err,h.fz⟩
theorem Raw.setLast {w:World} {b off:Nat} {p:Option Addr} {f:Nat→Nat} {n:Nat} {e:Int} (h:Raw w b off p f n e) (q v:Nat) (hq:q<120):
  Raw (w.setCell ⟨b,off+1+q,none⟩ (.int .u8 v)) b off p (fun j=>if j=q then v else f j) n e:=by
 refine ⟨?_,fun j hj=>?_,?_,?_,fun j hj=>?_⟩
 ·rw [qC _ _ _ _ _ (by omega)];exact h.full
 ·by_cases e1:j=q
  ·subst e1;rw [qF _ _ _ _ _ (h.last j hj)];simp
  ·rw [qC _ _ _ _ _ (by omega),h.last j hj];simp [e1]
 ·rw [qC _ _ _ _ _ (by omega)];exact h.len
 ·rw [qC _ _ _ _ _ (by omega)];exact h.err
 ·rw [qE];exact h.fz j hj
theorem Raw.setLen {w:World} {b off:Nat} {p:Option Addr} {f:Nat→Nat} {n:Nat} {e:Int} (h:Raw w b off p f n e) (m:Nat):
  Raw (w.setCell ⟨b,off+121,none⟩ (.int .i64 m)) b off p f m e:=by
 refine ⟨?_,fun j hj=>?_,?_,?_,fun j hj=>?_⟩
 ·rw [qC _ _ _ _ _ (by omega)];exact h.full
 ·rw [qC _ _ _ _ _ (by omega),h.last j hj]
 ·exact qF _ _ _ _ _ h.len
 ·rw [qC _ _ _ _ _ (by omega)];exact h.err
 ·rw [qE];exact h.fz j hj
theorem qJ.setCells {b lo hi:Nat} (vs:List Value):∀{u w:World} (o:Nat),qJ b lo hi u w→lo≤o→o+vs.length≤hi→qJ b lo hi u (w.setCells b o vs):=by
 induction vs with
 |nil=>intro u w o h _ _;exact h
 |cons v vs ih=>
  intro u w o h h1 h2
  simp only [List.length_cons] at h2
  exact ih (o+1) (h.setCell o h1 (by omega) v) (by omega) (by omega)
def mJ (w:World) (c:Nat) (q:Option Addr) (f:Nat→Nat):Prop:=
 w.cell? ⟨c,0,none⟩=some (.pointer q)∧∀j,j<120→w.cell? ⟨c,1+j,none⟩=some (.int .u8 (f j))
theorem qE5 {w:World} {b off:Nat} {p:Option Addr} {f:Nat→Nat} {n:Nat} {e:Int} (h:Raw w b off p f n e) (cs:List Value) (hcs:cs=(List.range 120).map fun j=>Value.int .u8 (f j)) (w':World)
  (hw:w'=(((w.setCell ⟨b,off,none⟩ (.pointer (some ⟨w.heap.size,0,none⟩))).alloc (.cells (.pointer p::cs).toArray 130)).drew).setCells b (off+1) (List.replicate 120 (Value.int .u8 0))):
  Raw w' b off (some ⟨w.heap.size,0,none⟩) (fun _=>0) n e∧mJ w' w.heap.size p f∧qJ b off (off+123) w w'∧w.heap.size<w'.heap.size:=by
 have hbs:b<w.heap.size:=block_lt_of_cell h.full
 generalize hw1:((w.setCell ⟨b,off,none⟩ (.pointer (some ⟨w.heap.size,0,none⟩))).alloc (.cells (.pointer p::cs).toArray 130)).drew=w1 at hw
 have o1:qJ b off (off+123) w w1:=by
  rw [←hw1]
  exact (((qJ.refl b off (off+123) w).setCell off (Nat.le_refl _) (by omega) _).alloc (by simpa [World.setCell] using hbs) _).drew
 have hcell:∀i,i≠off→w1.cell? ⟨b,i,none⟩=w.cell? ⟨b,i,none⟩:=fun i hi=>by
  rw [←hw1,←qC w b off i (.pointer (some ⟨w.heap.size,0,none⟩)) hi]
  exact World.cell?_of_block (w:=w.setCell ⟨b,off,none⟩ _) (Below.heap_alloc _ _ _ (by simpa [World.setCell] using hbs))
 have hoff:w1.cell? ⟨b,off,none⟩=some (.pointer (some ⟨w.heap.size,0,none⟩)):=by
  rw [←hw1,←qF w b off (.pointer (some ⟨w.heap.size,0,none⟩)) _ h.full]
  exact World.cell?_of_block (w:=w.setCell ⟨b,off,none⟩ _) (Below.heap_alloc _ _ _ (by simpa [World.setCell] using hbs))
 have hnew:w1.heap[w.heap.size]?=some (.cells (.pointer p::cs).toArray 130 (0,0)):=by
  rw [←hw1]
  have:=heap_alloc_new (w.setCell ⟨b,off,none⟩ (.pointer (some ⟨w.heap.size,0,none⟩))) (.cells (.pointer p::cs).toArray 130)
  have e:(w.setCell ⟨b,off,none⟩ (.pointer (some ⟨w.heap.size,0,none⟩))).heap.size=w.heap.size:=by simp [World.setCell]
  rw [e] at this
  exact this
 have hs1:w.heap.size<w1.heap.size:=by
  rw [←hw1];simp [World.setCell]
 have o2:qJ b off (off+123) w w':=by rw [hw];exact o1.setCells _ _ (by omega) (by simp)
 have hout:∀x:Addr,(x.block=b→x.spot=none→x.off<off+1∨off+121≤x.off)→w'.cell? x=w1.cell? x:=fun x hx=>by
  rw [hw];exact World.cell?_setCells_out b _ _ _ _ (by simpa using hx)
 refine ⟨⟨?_,fun j hj=>?_,?_,?_,fun j hj=>?_⟩,⟨?_,fun j hj=>?_⟩,o2,?_⟩
 ·rw [hout _ (fun _ _=>by left;simp)];exact hoff
 ·rw [hw,World.cell?_setCells_in b _ _ _ (fun i hi=>by rw [hcell _ (by omega),h.last i (by simpa using hi)];rfl) j (by simpa using hj),List.getElem_replicate];rfl
 ·rw [hout _ (fun _ _=>by right;simp),hcell _ (by omega)];exact h.len
 ·rw [hout _ (fun _ _=>by right;simp),hcell _ (by omega)];exact h.err
 ·rw [o2.frozen];exact h.fz j hj
 ·rw [hout _ (fun hb _=>by simp at hb;omega),cell_of_row _ _ _ _ _ _ hnew];rfl
 ·rw [hout _ (fun hb _=>by simp at hb;omega),cell_of_row _ _ _ _ _ _ hnew,hcs,Nat.add_comm 1 j];simp [hj]
 ·have:=o2.size;have e:w1.heap.size≤w'.heap.size:=by rw [hw];exact ((qJ.refl b (off+1) (off+121) w1).setCells _ _ (Nat.le_refl _) (by simp)).size
  omega
theorem qFR (cs:List Value):∀(k:Nat) (A:Array Value) (o:Nat),o+k+cs.length≤A.size→
  (cs.zipIdx k).foldl (fun a x=>a.setIfInBounds (o+x.2) x.1) A=(A.toList.take (o+k)++cs++A.toList.drop (o+k+cs.length)).toArray:=by
 induction cs with
 |nil=>intro k A o h;simp
 |cons c cs ih=>
  intro k A o h
  simp only [List.length_cons] at h
  rw [List.zipIdx_cons,List.foldl_cons,ih (k+1) _ o (by simp;omega)]
  congr 1
  simp only [Array.toList_setIfInBounds,List.length_cons]
  have e1:(A.toList.set (o+k) c).take (o+(k+1))=A.toList.take (o+k)++[c]:=by
   rw [show o+(k+1)=(o+k)+1 from by omega,List.take_succ_eq_append_getElem (by simp;omega)]
   simp [List.take_set_of_le]
  have e2:(A.toList.set (o+k) c).drop (o+(k+1)+cs.length)=A.toList.drop (o+k+(cs.length+1)):=by
   rw [List.drop_set_of_lt (by omega),show o+(k+1)+cs.length=o+k+(cs.length+1) from by omega]
  rw [e1,e2];simp
theorem bA (q:Option Addr) (cs:List Value) (h:cs.length=120) (w:World):
  (Instr.build 130 #[(0,.pointer q),(1,.agg cs.toArray)]).run Tryz.prog w= .ok (.agg (.pointer q::cs).toArray) w:=by
 have hz:(zeroValue 130).run Tryz.prog w= .ok (.agg (Value.pointer none::List.replicate 120 (Value.int .u8 0)).toArray) w:=by kernel_rfl
 have hs1:(sizeOf 95).run Tryz.prog w= .ok 1 w:=by kernel_rfl
 have hs2:(sizeOf 96).run Tryz.prog w= .ok 120 w:=by kernel_rfl
 have hf:=qFR cs 0 (Value.pointer q::List.replicate 120 (Value.int .u8 0)).toArray 1 (by simp [h])
 unfold Instr.build
 rw [Sem.run_bind,hz]
 simp only [Result.andThen_ok]
 rw [Sem.run_bind,run_underlying Tryz.underlying130 w]
 simp only [Result.andThen_ok]
 simp [hs1,Instr.fill,Value.cells,h]
 refine hf.trans ?_
 rw [h,List.drop_eq_nil_of_le (by simp),List.append_nil]
 rfl
theorem dP (q:Option Addr) (cs:List Value) (h:cs.length=120) {o:Oper} {ρ:Operand→Value} (ho:o.op= .build 130 #[(0,.tmp 6),(1,.tmp 10)]) (h6:ρ (.tmp 6)= .pointer q) (h10:ρ (.tmp 10)= .agg cs.toArray) (w:World):
  (execOp ρ o).run Tryz.prog w= .ok (.value (.agg (.pointer q::cs).toArray)) w:=by
 unfold execOp
 rw [ho]
 simp [h6,h10,bA q cs h]
theorem gH {P:Program} {ops:Array Oper} {op:Oper} {a:Act} {w:World} {K:Act→World→Prop} {Q:Exit→Act→World→Prop} {E:Prop}
  (hg:op.guard=none) (ty:TypeId) (x:Operand) (ho:op.op= .load ty x) (b o:Nat) (hx:a.eval x= .pointer (some ⟨b,o,none⟩)) (cs:List Value) (d:TypeDesc) (hc:w.rangeAt b o cs)
  (hu:P.underlying ty=some d) (hd:d.isRow=true) (hi:(P.info? ty).map (·.size)=some cs.length) (h:K (a.put op.dst (.agg cs.toArray)) w):
  if Region.wanted op (yielded ops a.tmps)=true then Oper.wp P op a w K Q else E:=by
 have hw:Region.wanted op (yielded ops a.tmps)=true:=by simp [Region.wanted,hg]
 rw [if_pos hw]
 exact wp_load_mid ty x ho b o hx cs d hc hu hd hi h
theorem fE (b off:Nat) (p:Option Addr) (f:Nat→Nat) (n:Nat) (e0:Int) (w:World) (h:Raw w b off p f n e0):
  Calls Tryz.prog 93 #[.pointer (some ⟨b,off,none⟩)] w fun e w'=>e= .returned (.tuple #[])∧
   Raw w' b off (some ⟨w.heap.size,0,none⟩) (fun _=>0) n e0∧mJ w' w.heap.size p f∧qJ b off (off+123) w w'∧w.heap.size<w'.heap.size:=by
 have h1:=h.full
 have h2:=h.fz 0 (by omega)
 simp only [Nat.add_zero] at h2
 obtain ⟨cs,hcd,hcs,hr⟩:∃cs:List Value,Hid (cs=(List.range 120).map fun j=>Value.int .u8 (f j))∧cs.length=120∧w.rangeAt b (off+1) cs:=⟨(List.range 120).map fun j=>Value.int .u8 (f j),rfl,by simp,fun j v hj=>by
  rw [List.getElem?_map,Option.map_eq_some_iff] at hj
  obtain ⟨i,hi,rfl⟩:=hj
  rw [List.getElem?_eq_some_iff] at hi
  obtain ⟨hi,rfl⟩:=hi
  simp at hi⊢
  exact h.last j hi⟩
 have hu24:Tryz.prog.underlying 96=some (.array 120 5):=Tryz.underlying96
 have hi24:(Tryz.prog.info? 96).map (·.size)=some cs.length:=by rw [hcs];kernel_rfl
 have hb:=bA p cs hcs
 have hbs:b<w.heap.size:=block_lt_of_cell h1
 go_enter Tryz.func93,Tryz.ntmps93
 go_wp2
 refine Code.wp_mono (Q:=fun e a w'=>e= .normal∧a=⟨#[.pointer (some ⟨b,off,none⟩),undef,.pointer (some ⟨b,off,none⟩),.pointer (some ⟨b,off,none⟩),.pointer (some ⟨b,off,none⟩),.pointer (some ⟨b,off,none⟩),.pointer p,
  .pointer (some ⟨b,off,none⟩),.pointer (some ⟨b,off,none⟩),.pointer (some ⟨b,off+1,none⟩),.agg cs.toArray,.agg (.pointer p::cs).toArray,.pointer (some ⟨w.heap.size,0,none⟩),.pointer (some ⟨b,off,none⟩),.pointer (some ⟨b,off,none⟩),undef,undef,undef,undef],[]⟩∧
  w'=((w.setCell ⟨b,off,none⟩ (.pointer (some ⟨w.heap.size,0,none⟩))).alloc (.cells (.pointer p::cs).toArray 130)).drew) ?_ ?_
 ·rintro e a w' ⟨rfl,rfl,rfl⟩
  have hz24:∀w:World,(Instr.build 96 #[]).run Tryz.prog w= .ok (.agg (List.replicate 120 (Value.int .u8 0)).toArray) w:=fun _=>by kernel_rfl
  have hz25:∀w:World,(zeroValue 96).run Tryz.prog w= .ok (.agg (List.replicate 120 (Value.int .u8 0)).toArray) w:=fun _=>by kernel_rfl
  generalize hW1:((w.setCell ⟨b,off,none⟩ (.pointer (some ⟨w.heap.size,0,none⟩))).alloc (.cells (.pointer p::cs).toArray 130)).drew=W1
  have HW1:Hid (((w.setCell ⟨b,off,none⟩ (.pointer (some ⟨w.heap.size,0,none⟩))).alloc (.cells (.pointer p::cs).toArray 130)).drew=W1):=hW1
  clear hW1
  go_wp2_with (refine wpList_store_mid rfl 96 _ _ rfl b (off+1) (List.replicate 120 (Value.int .u8 0)).toArray rfl rfl ?_ ?_ ?_ ?_)
  ·intro j hj
   simp only [List.size_toArray,List.length_replicate] at hj
   have e1:W1.cell? ⟨b,off+1+j,none⟩=w.cell? ⟨b,off+1+j,none⟩:=by
    rw [←HW1.out,←qC w b off (off+1+j) (.pointer (some ⟨w.heap.size,0,none⟩)) (by omega)]
    exact World.cell?_of_block (w:=w.setCell ⟨b,off,none⟩ _) (Below.heap_alloc _ _ _ (by simpa [World.setCell] using hbs))
   have e2:W1.frozen? ⟨b,off+1+j,none⟩=w.frozen? ⟨b,off+1+j,none⟩:=by
    rw [←HW1.out,←qE w ⟨b,off,none⟩ (.pointer (some ⟨w.heap.size,0,none⟩))]
    exact World.frozen?_of_block (w:=w.setCell ⟨b,off,none⟩ _) (Below.heap_alloc _ _ _ (by simpa [World.setCell] using hbs))
   rw [e1,e2,h.last j hj,show off+1+j=off+(1+j) from by omega,h.fz (1+j) (by omega)]
   exact ⟨rfl,rfl⟩
  ·kernel_rfl
  ·kernel_rfl
  ·go_wp2
   go_end0
   exact ⟨rfl,qE5 h cs hcd.out _ (by rw [←HW1.out];rfl)⟩
 ·rename_i Q1 K1 hc1
  clear hc1 K1 Q1
  refine wp_region_any (by kernel_rfl) ?_
  change wpAny _ _ _ _ _ _ _ (World.drew _)
  refine wpAny_take (i:=0) (v:=?_) rfl (by kernel_rfl) (by kernel_rfl) (by kernel_rfl) (fun _ _ _ h=>absurd h.1 (by simp)) (Or.inl ⟨by rfl,?_⟩) ?_
  rotate_left
  ·intro w;go_simp;with_reducible rfl
  refine wpAny_take (i:=1) (v:=?_) rfl (by kernel_rfl) (by kernel_rfl) (by kernel_rfl) (fun _ _ _ h=>absurd h.1 (by simp)) (Or.inl ⟨by rfl,?_⟩) ?_
  rotate_left
  ·intro w;go_simp;with_reducible rfl
  refine wpAny_take (i:=2) (v:=?_) rfl (by kernel_rfl) (by kernel_rfl) (by kernel_rfl) (fun _ _ _ h=>absurd h.1 (by simp)) (Or.inl ⟨by rfl,?_⟩) ?_
  rotate_left
  ·intro w;go_simp;with_reducible rfl
  refine wpAny_take (i:=3) (v:=?_) rfl (by kernel_rfl) (by kernel_rfl) (by kernel_rfl) (fun _ _ _ h=>absurd h.1 (by simp)) (Or.inl ⟨by rfl,?_⟩) ?_
  rotate_left
  ·intro w;go_simp;with_reducible rfl
  refine wpAny_take (i:=5) (v:=?_) rfl (by kernel_rfl) (by kernel_rfl) (by kernel_rfl) (fun _ _ _ h=>absurd h.1 (by simp)) (Or.inl ⟨by rfl,?_⟩) ?_
  rotate_left
  ·intro w;go_simp;with_reducible rfl
  refine wpAny_take (i:=6) (v:=?_) rfl (by kernel_rfl) (by kernel_rfl) (by kernel_rfl) (fun _ _ _ h=>absurd h.1 (by simp)) (Or.inl ⟨by rfl,?_⟩) ?_
  rotate_left
  ·intro w;go_simp;with_reducible rfl
  refine wpAny_take (i:=7) (v:=?_) rfl (by kernel_rfl) (by kernel_rfl) (by kernel_rfl) (fun _ _ _ h=>absurd h.1 (by simp)) (Or.inl ⟨by rfl,?_⟩) ?_
  rotate_left
  ·intro w;go_simp;with_reducible rfl
  change wpAny _ _ _ _ _ _ ⟨#[.pointer (some ⟨b,off,none⟩),undef,.pointer (some ⟨b,off,none⟩),.pointer (some ⟨b,off,none⟩),.pointer (some ⟨b,off,none⟩),.pointer (some ⟨b,off,none⟩),undef,
   .pointer (some ⟨b,off,none⟩),.pointer (some ⟨b,off,none⟩),.pointer (some ⟨b,off+1,none⟩),undef,undef,undef,undef,undef,undef,undef,undef,undef],[]⟩ _
  refine wpAny_ready (rs:=[4,8]) (by kernel_rfl) (by simp) ?_
  refine AllReady.cons rfl (fun K hK=>?_) (AllReady.cons rfl (fun K hK=>?_) AllReady.nil)
  ·go_simp
   refine hK _ _ ?_
   clear hK K
   refine wpAny_ready (rs:=[8]) (by kernel_rfl) (by simp) ?_
   refine AllReady.cons rfl (fun K hK=>?_) AllReady.nil
   refine gH rfl 96 _ rfl b (off+1) rfl cs _ hr hu24 rfl hi24 ?_
   refine hK _ _ ?_
   clear hK K
   refine wpAny_take (i:=9) (v:= .agg (.pointer p::cs).toArray) rfl (by kernel_rfl) (by kernel_rfl) (by kernel_rfl) (fun _ _ _ h=>absurd h.1 (by simp)) (Or.inl ⟨by rfl,?_⟩) ?_
   ·intro w;exact dP p cs hcs rfl rfl rfl w
   refine wpAny_ready (rs:=[10]) (by kernel_rfl) (by simp) ?_
   refine AllReady.cons rfl (fun K hK=>?_) AllReady.nil
   go_simp
   refine hK _ _ ?_
   clear hK K
   refine wpAny_ready (rs:=[11]) (by kernel_rfl) (by simp) ?_
   refine AllReady.cons rfl (fun K hK=>?_) AllReady.nil
   go_simp
   refine hK _ _ ?_
   clear hK K
   refine wpAny_ready (rs:=[12]) (by kernel_rfl) (by simp) ?_
   refine AllReady.cons rfl (fun K hK=>?_) AllReady.nil
   go_simp
   refine hK _ _ ?_
   clear hK K
   refine wpAny_ready (rs:=[13]) (by kernel_rfl) (by simp) ?_
   refine AllReady.cons rfl (fun K hK=>?_) AllReady.nil
   go_simp
   refine hK _ _ ?_
   clear hK K
   refine wpAny_done (by kernel_rfl) ?_ _
   exact ⟨rfl,rfl,rfl⟩
  ·refine gH rfl 96 _ rfl b (off+1) rfl cs _ hr hu24 rfl hi24 ?_
   refine hK _ _ ?_
   clear hK K
   refine wpAny_ready (rs:=[4]) (by kernel_rfl) (by simp) ?_
   refine AllReady.cons rfl (fun K hK=>?_) AllReady.nil
   go_simp
   refine hK _ _ ?_
   clear hK K
   refine wpAny_take (i:=9) (v:= .agg (.pointer p::cs).toArray) rfl (by kernel_rfl) (by kernel_rfl) (by kernel_rfl) (fun _ _ _ h=>absurd h.1 (by simp)) (Or.inl ⟨by rfl,?_⟩) ?_
   ·intro w;exact dP p cs hcs rfl rfl rfl w
   refine wpAny_ready (rs:=[10]) (by kernel_rfl) (by simp) ?_
   refine AllReady.cons rfl (fun K hK=>?_) AllReady.nil
   go_simp
   refine hK _ _ ?_
   clear hK K
   refine wpAny_ready (rs:=[11]) (by kernel_rfl) (by simp) ?_
   refine AllReady.cons rfl (fun K hK=>?_) AllReady.nil
   go_simp
   refine hK _ _ ?_
   clear hK K
   refine wpAny_ready (rs:=[12]) (by kernel_rfl) (by simp) ?_
   refine AllReady.cons rfl (fun K hK=>?_) AllReady.nil
   go_simp
   refine hK _ _ ?_
   clear hK K
   refine wpAny_ready (rs:=[13]) (by kernel_rfl) (by simp) ?_
   refine AllReady.cons rfl (fun K hK=>?_) AllReady.nil
   go_simp
   refine hK _ _ ?_
   clear hK K
   refine wpAny_done (by kernel_rfl) ?_ _
   exact ⟨rfl,rfl,rfl⟩
end Go.Proofs.YtkpmalfigmimaaaGreatDoor
