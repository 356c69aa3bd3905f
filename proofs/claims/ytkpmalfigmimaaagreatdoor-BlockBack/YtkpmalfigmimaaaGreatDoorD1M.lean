import Derived.Laws.BitsAllLaws
set_option linter.unusedVariables false
set_option linter.unusedSimpArgs false
set_option maxRecDepth 100000
set_option maxHeartbeats 8000000
namespace Go.Proofs.YtkpmalfigmimaaaGreatDoor.M
def num:List Bool→Nat
 |[]=>0
 |b::l=>(if b then 1 else 0)*2^l.length+num l
def bitsOf (x:Nat):Nat→List Bool
 |0=>[]
 |n+1=>(x/2^n%2==1)::bitsOf x n
@[simp] theorem num_nil:num []=0:=rfl
theorem num_append (a b:List Bool):num (a++b)=num a*2^b.length+num b:=by
 induction a with
 |nil=>simp
 |cons x a ih=>simp only [List.cons_append,num,List.length_append,ih];rw [Nat.pow_add,Nat.add_mul,Nat.mul_assoc,Nat.add_assoc]
theorem num_lt (l:List Bool):num l<2^l.length:=by
 induction l with
 |nil=>simp
 |cons b l ih=>simp only [num,List.length_cons,Nat.pow_succ];cases b<;>simp<;>omega
@[simp] theorem bitsOf_length (x n:Nat):(bitsOf x n).length=n:=by
 induction n with
 |zero=>rfl
 |succ n ih=>simp [bitsOf,ih]
theorem num_bitsOf (x n:Nat):num (bitsOf x n)=x%2^n:=by
 induction n with
 |zero=>simp [bitsOf,Nat.mod_one]
 |succ n ih=>
  simp only [bitsOf,num,bitsOf_length,ih]
  rw [Nat.pow_succ,Nat.mod_mul]
  have h:x/2^n%2=0∨x/2^n%2=1:=by omega
  rcases h with h|h<;>simp [h]<;>omega
theorem num_inj {a b:List Bool} (hl:a.length=b.length) (hn:num a=num b):a=b:=by
 induction a generalizing b with
 |nil=>cases b with
  |nil=>rfl
  |cons _ _=>simp at hl
 |cons x a ih=>cases b with
  |nil=>simp at hl
  |cons y b=>
   simp only [List.length_cons,Nat.add_right_cancel_iff] at hl
   simp only [num,hl] at hn
   have ha:=num_lt a
   have hb:=num_lt b
   rw [hl] at ha
   cases x<;>cases y<;>simp at hn
   ·rw [ih hl hn]
   ·omega
   ·omega
   ·rw [ih hl hn]
theorem bitsOf_num (l:List Bool):bitsOf (num l) l.length=l:=by
 apply num_inj (by simp)
 rw [num_bitsOf];exact Nat.mod_eq_of_lt (num_lt l)
theorem bitsOf_split (x a b:Nat):bitsOf x (a+b)=bitsOf (x/2^b) a++bitsOf x b:=by
 apply num_inj (by simp)
 rw [num_append,num_bitsOf,num_bitsOf,num_bitsOf,bitsOf_length,Nat.add_comm a b,Nat.pow_add,Nat.mod_mul,Nat.mul_comm,Nat.add_comm]
def byteAt (l:List Bool) (i:Nat):Nat:=num ((l.drop (8*i)).take 8)*2^(8-((l.drop (8*i)).take 8).length)
theorem byteAt_lt (l:List Bool) (i:Nat):byteAt l i<256:=by
 unfold byteAt
 have h:=num_lt ((l.drop (8*i)).take 8)
 have hl:((l.drop (8*i)).take 8).length≤8:=List.length_take_le _ _
 generalize (l.drop (8*i)).take 8=m at*
 calc num m*2^(8-m.length)<2^m.length*2^(8-m.length):=Nat.mul_lt_mul_of_pos_right h (Nat.pos_of_ne_zero (by simp))
  _=256:=by rw [←Nat.pow_add,Nat.add_sub_cancel' hl]
theorem byteAt_beyond (l:List Bool) (i:Nat) (h:l.length≤8*i):byteAt l i=0:=by
 unfold byteAt;rw [List.drop_eq_nil_of_le h];simp
theorem byteAt_full (l m:List Bool) (i:Nat) (h:8*(i+1)≤l.length):byteAt (l++m) i=byteAt l i:=by
 unfold byteAt
 rw [List.drop_append_of_le_length (by omega),List.take_append_of_le_length (by simp;omega)]
theorem byteAt_mod (l:List Bool) (i r:Nat) (h:l.length=8*i+r) (hr:r<8):byteAt l i%2^(8-r)=0:=by
 unfold byteAt
 have:((l.drop (8*i)).take 8).length=r:=by simp;omega
 rw [this];exact Nat.mul_mod_left _ _
theorem byteAt_here (l m:List Bool) (i r:Nat) (h:l.length=8*i+r) (hm:m.length≤8-r) (hr:r<8):
  byteAt (l++m) i=byteAt l i+num m*2^(8-r-m.length):=by
 unfold byteAt
 have hd:(l.drop (8*i)).length=r:=by simp;omega
 rw [List.drop_append_of_le_length (by omega)]
 rw [List.take_of_length_le (l:=l.drop (8*i)++m) (by simp;omega),List.take_of_length_le (l:=l.drop (8*i)) (by omega)]
 generalize l.drop (8*i)=d at*
 rw [num_append,List.length_append,hd,Nat.add_mul,Nat.mul_assoc,←Nat.pow_add]
 have e1:m.length+(8-(r+m.length))=8-r:=by omega
 have e2:8-(r+m.length)=8-r-m.length:=by omega
 rw [e1,e2]
def packed (l:List Bool):List Nat:=(List.range ((l.length+7)/8)).map (byteAt l)
@[simp] theorem packed_length (l:List Bool):(packed l).length=(l.length+7)/8:=by simp [packed]
theorem packed_getD (l:List Bool) (i:Nat) (h:i<(l.length+7)/8):(packed l).getD i 0=byteAt l i:=by
 simp [packed,List.getD,h]
def rbits (bs:List Nat):List Bool:=bs.flatMap fun b=>bitsOf b 8
@[simp] theorem rbits_nil:rbits []=[]:=rfl
@[simp] theorem rbits_cons (b:Nat) (bs:List Nat):rbits (b::bs)=bitsOf b 8++rbits bs:=rfl
@[simp] theorem rbits_length (bs:List Nat):(rbits bs).length=8*bs.length:=by
 induction bs with
 |nil=>rfl
 |cons b bs ih=>simp [ih];omega
theorem rbits_drop (bs:List Nat) (q:Nat):(rbits bs).drop (8*q)=rbits (bs.drop q):=by
 induction q generalizing bs with
 |zero=>simp
 |succ q ih=>cases bs with
  |nil=>simp
  |cons b bs=>
   rw [rbits_cons,List.drop_append,bitsOf_length,List.drop_eq_nil_of_le (by simp;omega)]
   have:8*(q+1)-8=8*q:=by omega
   rw [this,ih];simp
theorem take_bitsOf (x n k:Nat) (h:k≤n):(bitsOf x n).take k=bitsOf (x/2^(n-k)) k:=by
 have:=bitsOf_split x k (n-k)
 rw [show k+(n-k)=n from by omega] at this
 rw [this,List.take_left' (by simp)]
theorem drop_bitsOf (x n k:Nat) (h:k≤n):(bitsOf x n).drop k=bitsOf x (n-k):=by
 have:=bitsOf_split x k (n-k)
 rw [show k+(n-k)=n from by omega] at this
 rw [this,List.drop_left' (by simp)]
theorem look_byte (bs:List Nat) (at_ k:Nat) (hq:at_/8<bs.length) (hk:k≤8-at_%8):
  num (((rbits bs).drop at_).take k)=bs.getD (at_/8) 0/2^(8-at_%8-k)%2^k:=by
 have e:at_=8*(at_/8)+at_%8:=by omega
 generalize hq':at_/8=q at*
 generalize hr:at_%8=r at*
 have hr8:r<8:=by omega
 rw [e,←List.drop_drop,rbits_drop]
 have hb:bs.drop q=bs.getD q 0::bs.drop (q+1):=by
  rw [List.drop_eq_getElem_cons hq];simp [List.getD,hq]
 rw [hb,rbits_cons,List.drop_append_of_le_length (by simp;omega),drop_bitsOf _ _ _ (by omega),List.take_append_of_le_length (by simp;omega),take_bitsOf _ _ _ (by omega),num_bitsOf]
theorem num_take_add (l:List Bool) (a b:Nat) (h:a+b≤l.length):num (l.take (a+b))=num (l.take a)*2^b+num ((l.drop a).take b):=by
 have e:((l.drop a).take b).length=b:=by simp;omega
 rw [List.take_add,num_append,e]
theorem rbits_packed (l:List Bool):rbits (packed l)=l++List.replicate (8*((l.length+7)/8)-l.length) false:=by
 have key:∀n l,l.length≤n→rbits (packed l)=l++List.replicate (8*((l.length+7)/8)-l.length) false:=by
  intro n
  induction n with
  |zero=>intro l h;have:l=[]:=List.length_eq_zero_iff.1 (by omega);subst this;rfl
  |succ n ih=>
   intro l h
   by_cases h0:l.length=0
   ·have:l=[]:=List.length_eq_zero_iff.1 h0;subst this;rfl
   ·have hp:packed l=byteAt l 0::packed (l.drop 8):=by
     unfold packed
     have e:(l.length+7)/8=((l.drop 8).length+7)/8+1:=by simp;omega
     rw [e,List.range_succ_eq_map,List.map_cons,List.map_map]
     congr 1
     apply List.map_congr_left
     intro i _
     simp only [Function.comp,byteAt,List.drop_drop]
     rw [show 8+8*i=8*(i+1) from by omega]
    rw [hp,rbits_cons,ih (l.drop 8) (by simp;omega)]
    have hbyte:bitsOf (byteAt l 0) 8=l.take 8++List.replicate (8-l.length) false:=by
     apply num_inj (by simp;omega)
     rw [num_bitsOf,Nat.mod_eq_of_lt (byteAt_lt _ _),num_append]
     have hz:∀k,num (List.replicate k false)=0:=by
      intro k;induction k with
      |zero=>rfl
      |succ k ih=>simp [List.replicate_succ,num,ih]
     rw [hz]
     unfold byteAt
     simp only [Nat.mul_zero,List.drop_zero,List.length_take,List.length_replicate,Nat.add_zero]
     congr 2;omega
    rw [hbyte]
    by_cases h8:8≤l.length
    ·rw [show 8-l.length=0 from by omega]
     simp only [List.replicate_zero,List.append_nil]
     rw [←List.append_assoc,List.take_append_drop]
     congr 2;simp;omega
    ·rw [List.take_of_length_le (by omega),List.drop_eq_nil_of_le (by omega)]
     have e:(l.length+7)/8=1:=by omega
     simp [e]
 exact key _ l (Nat.le_refl _)
def groups:Nat→Nat→List Bool
 |0,x=>bitsOf x 8
 |k+1,x=>if x<128 then bitsOf x 8 else bitsOf (128+x%128) 8++groups k (x/128)
def varB (x:Nat):List Bool:=groups 9 x
def zig (x:Int):Nat:=if x<0 then (-2*x-1).toNat else (2*x).toNat
theorem groups_small (k x:Nat) (h:x<128):groups k x=bitsOf x 8:=by
 cases k with
 |zero=>rfl
 |succ k=>simp [groups,h]
theorem groups_big (k x:Nat) (h:128≤x):groups (k+1) x=bitsOf (128+x%128) 8++groups k (x/128):=by
 simp [groups,show ¬x<128 from by omega]
end Go.Proofs.YtkpmalfigmimaaaGreatDoor.M
namespace Go.Proofs.YtkpmalfigmimaaaGreatDoor
def st1 (x:Nat):Nat:=if x%2=1 then (x/2)^^^3988292384 else x/2
def stN:Nat→Nat→Nat
 |0,x=>x
 |k+1,x=>stN k (st1 x)
theorem qI3 (a b:Nat):(a^^^b)/2=(a/2)^^^(b/2):=by
 have:=@Nat.xor_div_two_pow a b 1
 simpa using this
theorem qK7 (a b:Nat):(a^^^b)%2=(a%2)^^^(b%2):=by
 have:=@Nat.xor_mod_two_pow a b 1
 simpa using this
theorem qK1 (a b:Nat):st1 (a^^^b)=st1 a^^^st1 b:=by
 unfold st1
 rw [qI3,qK7]
 rcases Nat.mod_two_eq_zero_or_one a with ha|ha<;>rcases Nat.mod_two_eq_zero_or_one b with hb|hb<;>rw [ha,hb]
 ·simp
 ·simp [Nat.xor_assoc]
 ·simp only [show (1:Nat)^^^0=1 from rfl,if_true]
  rw [if_neg (by omega),Nat.xor_assoc,Nat.xor_assoc,Nat.xor_comm (b/2)]
 ·simp only [show (1:Nat)^^^1=0 from rfl,if_true]
  rw [if_neg (by omega)]
  generalize a/2=x
  generalize b/2=y
  rw [Nat.xor_assoc,←Nat.xor_assoc 3988292384,Nat.xor_comm 3988292384 y,Nat.xor_assoc y,Nat.xor_self,Nat.xor_zero]
theorem qK3 (k a b:Nat):stN k (a^^^b)=stN k a^^^stN k b:=by
 induction k generalizing a b with
 |zero=>rfl
 |succ k ih=>rw [stN,stN,stN,qK1,ih]
theorem qHR (y:Nat):st1 (2*y)=y:=by
 unfold st1;rw [if_neg (by omega)];omega
theorem qHS (k y:Nat):stN k (2^k*y)=y:=by
 induction k generalizing y with
 |zero=>simp [stN]
 |succ k ih=>rw [stN,show 2^(k+1)*y=2*(2^k*y) from by rw [Nat.pow_succ,Nat.mul_comm (2^k) 2,Nat.mul_assoc],qHR,ih]
theorem qK0 (x:Nat):(16*(x/16))^^^(x%16)=x:=by
 have h:16*(x/16)+x%16=x:=Nat.div_add_mod x 16
 have h2:=Nat.two_pow_add_eq_or_of_lt (i:=4) (b:=x%16) (Nat.mod_lt _ (by omega)) (x/16)
 have h3:(2^4*(x/16))^^^(x%16)=(2^4*(x/16))|||(x%16):=by
  apply Nat.eq_of_testBit_eq
  intro i
  rw [Nat.testBit_xor,Nat.testBit_or]
  by_cases hi:i<4
  ·have hq:(2^4*(x/16)).testBit i=false:=by rw [Nat.testBit_two_pow_mul];simp;omega
   rw [hq];simp
  ·have hq:(x%16).testBit i=false:=Nat.testBit_lt_two_pow (Nat.lt_of_lt_of_le (Nat.mod_lt x (by omega)) (show 16≤2^i from Nat.pow_le_pow_right (n:=2) (by omega) (show 4≤i by omega)))
   rw [hq];simp
 have h4:(2:Nat)^4=16:=rfl
 rw [h4] at h2 h3
 rw [h3,←h2,h]
theorem st4 (x:Nat):stN 4 x=(x/16)^^^stN 4 (x%16):=by
 conv=>lhs;rw [←qK0 x,qK3]
 rw [show (16:Nat)*(x/16)=2^4*(x/16) from rfl,qHS]
theorem qK2 (j k x:Nat):stN (j+k) x=stN k (stN j x):=by
 induction j generalizing x with
 |zero=>rw [Nat.zero_add];rfl
 |succ j ih=>rw [Nat.succ_add,stN,stN,ih]
def xY:List Nat:=[0x00000000,0x1db71064,0x3b6e20c8,0x26d930ac,0x76dc4190,0x6b6b51f4,0x4db26158,0x5005713c,0xedb88320,0xf00f9344,0xd6d6a3e8,0xcb61b38c,0x9b64c2b0,0x86d3d2d4,0xa00ae278,0xbdbdf21c]
theorem qIM (i:Nat) (h:i<16):stN 4 i=xY.getD i 0:=by
 have:∀j:Fin 16,stN 4 j.val=xY.getD j.val 0:=by decide +kernel
 exact this ⟨i,h⟩
theorem qIL (i:Nat) (h:i<16):xY.getD i 0<4294967296:=by
 have:∀j:Fin 16,xY.getD j.val 0<4294967296:=by decide +kernel
 exact this ⟨i,h⟩
def qLA (x c:Nat):Nat:=stN 8 (x^^^c)
theorem qH0 (x c y z:Nat) (hy:y=x^^^c) (hz:z=(y/16)^^^xY.getD (y%16) 0):qLA x c=(z/16)^^^xY.getD (z%16) 0:=by
 unfold qLA
 rw [←hy,show (8:Nat)=4+4 from rfl,qK2,st4 y,qIM (y%16) (Nat.mod_lt _ (by omega)),←hz,st4 z,qIM (z%16) (Nat.mod_lt _ (by omega))]
def qJA (bs:List Nat):Nat→Nat
 |0=>4294967295
 |k+1=>qLA (qJA bs k) (bs.getD k 0)
theorem qKW (x:Nat) (h:x<4294967296):st1 x<4294967296:=by
 unfold st1
 split
 ·exact Nat.xor_lt_two_pow (n:=32) (by show x/2<4294967296;omega) (by decide)
 ·omega
theorem qKX (k x:Nat) (h:x<4294967296):stN k x<4294967296:=by
 induction k generalizing x with
 |zero=>exact h
 |succ k ih=>exact ih _ (qKW x h)
theorem qF6 (bs:List Nat) (hb:∀n∈bs,n<256) (k:Nat):qJA bs k<4294967296:=by
 induction k with
 |zero=>show 4294967295<4294967296;omega
 |succ k ih=>
  refine qKX 8 _ (Nat.xor_lt_two_pow (n:=32) ih ?_)
  show bs.getD k 0<4294967296
  by_cases h:k<bs.length
  ·have:=hb (bs.getD k 0) (by rw [List.getD_eq_getElem?_getD,List.getElem?_eq_getElem h];exact List.getElem_mem h)
   omega
  ·rw [List.getD_eq_getElem?_getD,List.getElem?_eq_none (by omega)];decide
def qB2 (bs:List Nat):Nat:=4294967295-qJA bs bs.length
end Go.Proofs.YtkpmalfigmimaaaGreatDoor
