import Derived.Test.YtkpmalfigmimaaaGreatDoorD1M
import Derived.Laws.MathBits
import Derived.Lib.TrailingZeros
import Derived.Test.YtkpmalfigmimaaaGreatDoorT1S
import Derived.Laws.Tables
import Derived.Deep.RegionHeld3
import Derived.Great.Walk
set_option linter.unusedVariables false
set_option linter.unusedSimpArgs false
set_option maxRecDepth 1000000
set_option maxHeartbeats 8000000
namespace Go.Proofs.YtkpmalfigmimaaaGreatDoor.M
def tz (x:Nat):Nat:=Lib.ctz 64 x
def wl (x:Nat):Nat:=bitLen x-tz x
theorem tz_spec (x:Nat) (h0:x≠0) (h:x<2^64):∃m,x=2^tz x*(2*m+1):=by
 obtain ⟨m,hm,_⟩:=Lib.ctzFrom_spec 64 x (by omega) h
 exact ⟨m,by unfold tz Lib.ctz;rw [if_neg h0];exact hm⟩
theorem bitLen_le (x n:Nat) (h:x<2^n):bitLen x≤n:=by
 rcases Nat.lt_or_ge n (bitLen x) with h1|h1
 ·by_cases h0:x=0
  ·subst h0;simp [bitLen]
  ·have:=(bitLen_spec x).2 h0
   have:=Nat.pow_le_pow_right (n:=2) (by omega) (show n≤bitLen x-1 by omega)
   omega
 ·exact h1
theorem bitLen_pos (x:Nat) (h0:x≠0):0<bitLen x:=by unfold bitLen;rw [if_neg h0];omega
theorem tz_lt (x:Nat) (h0:x≠0) (h:x<2^64):tz x<bitLen x:=by
 obtain ⟨m,hm⟩:=tz_spec x h0 h
 have h1:=(bitLen_spec x).1
 rcases Nat.lt_or_ge (tz x) (bitLen x) with h2|h2
 ·exact h2
 ·have h3:=Nat.pow_le_pow_right (n:=2) (by omega) h2
  have h4:2^tz x*1≤2^tz x*(2*m+1):=Nat.mul_le_mul_left _ (by omega)
  omega
theorem wl_pos (x:Nat) (h0:x≠0) (h:x<2^64):0<wl x:=by
 have:=tz_lt x h0 h;unfold wl;omega
theorem cut_back (x s:Nat) (h0:x≠0) (h:x<2^64) (hs:s≤tz x):x/2^s*2^s=x:=by
 obtain ⟨m,hm⟩:=tz_spec x h0 h
 have e:2^tz x=2^(tz x-s)*2^s:=by rw [←Nat.pow_add];congr 1;omega
 have hd:2^s∣x:=by
  refine ⟨2^(tz x-s)*(2*m+1),?_⟩
  rw [←Nat.mul_assoc,Nat.mul_comm (2^s),←e];exact hm
 exact Nat.div_mul_cancel hd
def sut (W K L N x:Nat):Prop:=0<N∧L≤W-bitLen x∧W-L-N≤tz x∧N≤wl x+2*K
instance (W K L N x:Nat):Decidable (sut W K L N x):=by unfold sut;infer_instance
def xb (W K L N x:Nat):List Bool:=
 if x=0 then [false] else if sut W K L N x then [true,false]++bitsOf (x/2^(W-L-N)) N
 else [true,true]++bitsOf (W-bitLen x) K++bitsOf (wl x-1) K++bitsOf (x/2^tz x) (wl x)
def nxt (W K:Nat) (p:Nat×Nat) (x:Nat):Nat×Nat:=if x=0∨sut W K p.1 p.2 x then p else (W-bitLen x,wl x)
theorem xb_0 (W K L N:Nat):xb W K L N 0=[false]:=rfl
theorem xb_old (W K L N x:Nat) (h0:x≠0) (h:sut W K L N x):xb W K L N x=[true,false]++bitsOf (x/2^(W-L-N)) N:=by
 unfold xb;rw [if_neg h0,if_pos h]
theorem xb_new (W K L N x:Nat) (h0:x≠0) (h:¬sut W K L N x):xb W K L N x=[true,true]++bitsOf (W-bitLen x) K++bitsOf (wl x-1) K++bitsOf (x/2^tz x) (wl x):=by
 unfold xb;rw [if_neg h0,if_neg h]
def Win (W:Nat) (p:Nat×Nat):Prop:=p.1+p.2≤W
theorem nxt_win (W K x:Nat) (p:Nat×Nat) (h:Win W p) (hx:x<2^W) (hW:W≤64):Win W (nxt W K p x):=by
 unfold nxt
 split
 ·exact h
 ·have:=bitLen_le x W hx
  unfold Win wl
  simp only
  omega
theorem lt64 {x W:Nat} (hx:x<2^W) (hW:W≤64):x<2^64:=Nat.lt_of_lt_of_le hx (Nat.pow_le_pow_right (by omega) hW)
theorem old_fits (W K L N x:Nat) (hx:x<2^W) (hw:L+N≤W) (h:sut W K L N x):x/2^(W-L-N)<2^N:=by
 obtain ⟨h1,h2,h3,h4⟩:=h
 have h5:=(bitLen_spec x).1
 have h6:=bitLen_le x W hx
 rw [Nat.div_lt_iff_lt_mul (Nat.two_pow_pos _),←Nat.pow_add]
 exact Nat.lt_of_lt_of_le h5 (Nat.pow_le_pow_right (by omega) (by omega))
theorem new_fits (x:Nat) (h0:x≠0) (h:x<2^64):x/2^tz x<2^wl x:=by
 have h5:=(bitLen_spec x).1
 have h6:=tz_lt x h0 h
 rw [Nat.div_lt_iff_lt_mul (Nat.two_pow_pos _),←Nat.pow_add]
 exact Nat.lt_of_lt_of_le h5 (Nat.pow_le_pow_right (by omega) (by unfold wl;omega))
theorem pbits_inj (x y n:Nat) (r r':List Bool) (hx:x<2^n) (hy:y<2^n) (h:bitsOf x n++r=bitsOf y n++r'):x=y∧r=r':=by
 obtain ⟨h1,h2⟩:=List.append_inj h (by simp)
 have:num (bitsOf x n)=num (bitsOf y n):=by rw [h1]
 rw [num_bitsOf,num_bitsOf,Nat.mod_eq_of_lt hx,Nat.mod_eq_of_lt hy] at this
 exact ⟨this,h2⟩
theorem xb_length (W K L N x:Nat) (hW:W≤64) (hx:x<2^W) (hw:L+N≤W):(xb W K L N x).length≤2+2*K+W:=by
 have:=bitLen_le x W hx
 have:wl x≤W:=by unfold wl;omega
 unfold xb
 repeat' split
 ·simp;omega
 ·simp;omega
 ·simp;omega
def win (W K:Nat) (f:Nat→Nat):Nat→Nat×Nat
 |0=>(0,0)
 |i+1=>nxt W K (win W K f i) (f (i+1)^^^f i)
def xbf (W K:Nat) (f:Nat→Nat) (i:Nat):List Bool:=xb W K (win W K f i).1 (win W K f i).2 (f (i+1)^^^f i)
def cbn (W K:Nat) (f:Nat→Nat):Nat→List Bool
 |0=>[]
 |1=>bitsOf (f 0) W
 |n+2=>cbn W K f (n+1)++xbf W K f n
theorem cbn_one (W K:Nat) (f:Nat→Nat):cbn W K f 1=bitsOf (f 0) W:=rfl
theorem cbn_step (W K:Nat) (f:Nat→Nat) (n:Nat):cbn W K f (n+2)=cbn W K f (n+1)++xbf W K f n:=rfl
theorem win_congr (W K:Nat) (f g:Nat→Nat):∀i,(∀j,j≤i→f j=g j)→win W K f i=win W K g i
 |0,_=>rfl
 |i+1,h=>by simp only [win];rw [win_congr W K f g i (fun j hj=>h j (by omega)),h (i+1) (by omega),h i (by omega)]
theorem xbf_congr (W K:Nat) (f g:Nat→Nat) (i:Nat) (h:∀j,j≤i+1→f j=g j):xbf W K f i=xbf W K g i:=by
 unfold xbf;rw [win_congr W K f g i (fun j hj=>h j (by omega)),h (i+1) (by omega),h i (by omega)]
theorem cbn_congr (W K:Nat) (f g:Nat→Nat):∀n,(∀i,i<n→f i=g i)→cbn W K f n=cbn W K g n
 |0,_=>rfl
 |1,h=>by rw [cbn_one,cbn_one,h 0 (by omega)]
 |n+2,h=>by rw [cbn_step,cbn_step,cbn_congr W K f g (n+1) (fun i hi=>h i (by omega)),xbf_congr W K f g n (fun j hj=>h j (by omega))]
theorem cbn_pre (W K:Nat) (f:Nat→Nat) (n:Nat):∃r,cbn W K f (n+1)=cbn W K f n++r:=by
 cases n with
 |zero=>exact ⟨_,rfl⟩
 |succ n=>exact ⟨_,rfl⟩
theorem cbn_prefix (W K:Nat) (f:Nat→Nat) (n m:Nat) (h:n≤m):∃r,cbn W K f m=cbn W K f n++r:=by
 induction m with
 |zero=>
      obtain rfl:n=0:=by omega
      exact ⟨[],rfl⟩
 |succ m ih=>
  by_cases e:n=m+1
  ·subst e;exact ⟨[],by simp⟩
  ·obtain ⟨r,hr⟩:=ih (by omega)
   obtain ⟨r2,hr2⟩:=cbn_pre W K f m
   exact ⟨r++r2,by rw [hr2,hr,List.append_assoc]⟩
theorem xor_lt (W a b:Nat) (ha:a<2^W) (hb:b<2^W):a^^^b<2^W:=Nat.xor_lt_two_pow ha hb
theorem win_win (W K:Nat) (f:Nat→Nat) (hW:W≤64):∀i,(∀j,j≤i→f j<2^W)→Win W (win W K f i)
 |0,_=>by unfold Win win;omega
 |i+1,h=>nxt_win W K _ _ (win_win W K f hW i (fun j hj=>h j (by omega))) (xor_lt W _ _ (h _ (by omega)) (h _ (by omega))) hW
theorem cbn_length (W K:Nat) (f:Nat→Nat) (hW:W≤64):∀n,(∀i,i<n+1→f i<2^W)→(cbn W K f (n+1)).length≤W+(2+2*K+W)*n
 |0,_=>by rw [cbn_one];simp
 |n+1,h=>by
  rw [cbn_step]
  have h1:=cbn_length W K f hW n (fun i hi=>h i (by omega))
  have h2:=xb_length W K _ _ _ hW (xor_lt W _ _ (h (n+1) (by omega)) (h n (by omega))) (win_win W K f hW n (fun j hj=>h j (by omega)))
  rw [List.length_append,Nat.mul_succ]
  unfold xbf
  omega
theorem cbn_length' (W K:Nat) (f:Nat→Nat) (n:Nat) (hW:W≤64) (h:∀i,i<n→f i<2^W):(cbn W K f n).length≤(2+2*K+W)*n:=by
 cases n with
 |zero=>simp [cbn]
 |succ n=>have:=cbn_length W K f hW n h;rw [Nat.mul_succ];omega
theorem take_eq_drop' (R l:List Bool) (a b:Nat) (h:R.take b=R.take a++l):R.drop a=l++R.drop b:=by
 have e1:=List.take_append_drop b R
 rw [h,List.append_assoc] at e1
 have e2:R.take a++(l++R.drop b)=R.take a++R.drop a:=by rw [e1,List.take_append_drop]
 exact (List.append_cancel_left e2).symm
theorem tkn_len' (R l:List Bool) (a b:Nat) (h:R.take b=R.take a++l) (ha:a≤R.length) (hb:b≤R.length):b=a+l.length:=by
 have:=congrArg List.length h
 simp at this;omega
end Go.Proofs.YtkpmalfigmimaaaGreatDoor.M
namespace Go.Proofs.YtkpmalfigmimaaaGreatDoor
open Go.RowKit
open M
theorem uP {k:IntKind} {a b:Int} (h:a=b):Ending.returned (.int k a)= .returned (.int k b):=by rw [h]
theorem qJJ (x:Nat) (w:World) (h:x<256):Calls Tryz.prog 197 #[.int .u64 x] w fun e w'=>e= .returned (.int .i64 (bitLen x:Nat))∧w'=w:=by
 have h0':decide ((4294967296:Int)≤(x:Int))=false:=by simp;omega
 have h1':decide ((65536:Int)≤(x:Int))=false:=by simp;omega
 have h2':¬(256:Int)≤(x:Int):=by omega
 have Hz:=qA (bitLen_le8 x (by omega))
 go_enter Tryz.func197,Tryz.ntmps197
 go_wp2_with fail
 go_ret
 refine ⟨?_,rfl⟩
 apply uP
 rw [len8tab_get]
 have q1:=Hz.out
 simp only [wrap64]
 clear h0' h1' h2' h
 omega
theorem qJK (x:Nat) (w:World) (h:256≤x) (h2:x<65536):Calls Tryz.prog 197 #[.int .u64 x] w fun e w'=>e= .returned (.int .i64 (bitLen x:Nat))∧w'=w:=by
 have h0':decide ((4294967296:Int)≤(x:Int))=false:=by simp;omega
 have h1':decide ((65536:Int)≤(x:Int))=false:=by simp;omega
 have h2':(256:Int)≤(x:Int):=by omega
 obtain ⟨z,hz,hz'⟩:∃z:Nat,z=x/256∧(x:Int)/256=(z:Int):=⟨x/256,rfl,by simp⟩
 have Hy:Hid (bitLen x=8+bitLen z):=by show _=_;rw [hz];exact bitLen_shift x 8 (by omega)
 have hzl:z<256:=by omega
 have Hz:=qA (bitLen_le8 z hzl)
 clear hz h h2
 go_enter Tryz.func197,Tryz.ntmps197
 go_wp2_with fail
 go_ret
 refine ⟨?_,rfl⟩
 apply uP
 rw [len8tab_get]
 have q1:=Hz.out
 have q2:=Hy.out
 simp only [wrap64]
 clear h0' h1' h2' hz'
 omega
theorem qJL (x:Nat) (w:World) (hx:x<4294967296) (h:65536≤x) (h2:x/65536<256):Calls Tryz.prog 197 #[.int .u64 x] w fun e w'=>e= .returned (.int .i64 (bitLen x:Nat))∧w'=w:=by
 have h0':decide ((4294967296:Int)≤(x:Int))=false:=by simp;omega
 have h1':(65536:Int)≤(x:Int):=by omega
 obtain ⟨y,hy,hy'⟩:∃y:Nat,y=x/65536∧(x:Int)/65536=(y:Int):=⟨x/65536,rfl,by simp⟩
 have Hx:Hid (bitLen x=16+bitLen y):=by show _=_;rw [hy];exact bitLen_shift x 16 (by omega)
 have h2':¬(256:Int)≤(y:Int):=by omega
 have hy2:y<256:=by omega
 have Hz:=qA (bitLen_le8 y (by omega))
 clear hy h2 h hx
 go_enter Tryz.func197,Tryz.ntmps197
 go_wp2_with fail
 go_ret
 refine ⟨?_,rfl⟩
 apply uP
 rw [len8tab_get]
 have q1:=Hz.out
 have q2:=Hx.out
 simp only [wrap64]
 clear h0' h1' h2' hy'
 omega
theorem qJM (x:Nat) (w:World) (hx:x<4294967296) (h:65536≤x) (h2:256≤x/65536):Calls Tryz.prog 197 #[.int .u64 x] w fun e w'=>e= .returned (.int .i64 (bitLen x:Nat))∧w'=w:=by
 have h0':decide ((4294967296:Int)≤(x:Int))=false:=by simp;omega
 have h1':(65536:Int)≤(x:Int):=by omega
 obtain ⟨y,hy,hy'⟩:∃y:Nat,y=x/65536∧(x:Int)/65536=(y:Int):=⟨x/65536,rfl,by simp⟩
 have Hx:Hid (bitLen x=16+bitLen y):=by show _=_;rw [hy];exact bitLen_shift x 16 (by omega)
 have h2':(256:Int)≤(y:Int):=by omega
 have hyl:y<65536:=by omega
 clear hy h2 h hx
 obtain ⟨z,hz,hz'⟩:∃z:Nat,z=y/256∧(y:Int)/256=(z:Int):=⟨y/256,rfl,by simp⟩
 have Hy:Hid (bitLen y=8+bitLen z):=by show _=_;rw [hz];exact bitLen_shift y 8 (by omega)
 have hzl:z<256:=by omega
 have Hz:=qA (bitLen_le8 z hzl)
 clear hz hyl
 go_enter Tryz.func197,Tryz.ntmps197
 go_wp2_with fail
 go_ret
 refine ⟨?_,rfl⟩
 apply uP
 rw [len8tab_get]
 have q1:=Hz.out
 have q2:=Hx.out
 have q3:=Hy.out
 simp only [wrap64]
 clear h0' h1' h2' hy' hz'
 omega
theorem qFH (x:Nat) (w:World) (hx:x<4294967296):Calls Tryz.prog 197 #[.int .u64 x] w fun e w'=>e= .returned (.int .i64 (bitLen x:Nat))∧w'=w:=by
 by_cases h:x<256
 ·exact qJJ x w h
 ·by_cases h1:x<65536
  ·exact qJK x w (by omega) h1
  ·by_cases h2:x/65536<256
   ·exact qJL x w hx (by omega) h2
   ·exact qJM x w hx (by omega) (by omega)
theorem qJN (x:Nat) (w:World) (h:4294967296≤x) (hx:x<18446744073709551616) (h1:x/4294967296<256):Calls Tryz.prog 197 #[.int .u64 x] w fun e w'=>e= .returned (.int .i64 (bitLen x:Nat))∧w'=w:=by
 have h0':decide ((4294967296:Int)≤(x:Int))=true:=by simp;omega
 obtain ⟨t,ht,ht'⟩:∃t:Nat,t=x/4294967296∧(x:Int)/4294967296=(t:Int):=⟨x/4294967296,rfl,by simp⟩
 have Ht:Hid (bitLen x=32+bitLen t):=by show _=_;rw [ht];exact bitLen_shift x 32 (by omega)
 have htl:t<256:=by omega
 clear ht h hx h1
 have h1':decide ((65536:Int)≤(t:Int))=false:=by simp;omega
 have h2':¬(256:Int)≤(t:Int):=by omega
 have Hz:=qA (bitLen_le8 t htl)
 go_enter Tryz.func197,Tryz.ntmps197
 go_wp2_with (simp only [ht'])
 go_ret
 refine ⟨?_,rfl⟩
 apply uP
 rw [len8tab_get]
 have q0:=Ht.out
 have q1:=Hz.out
 simp only [wrap64]
 clear h0' h1' h2' ht'
 omega
theorem qJO (x:Nat) (w:World) (h:4294967296≤x) (hx:x<18446744073709551616) (h1:256≤x/4294967296) (h3:x/4294967296<65536):Calls Tryz.prog 197 #[.int .u64 x] w fun e w'=>e= .returned (.int .i64 (bitLen x:Nat))∧w'=w:=by
 have h0':decide ((4294967296:Int)≤(x:Int))=true:=by simp;omega
 obtain ⟨t,ht,ht'⟩:∃t:Nat,t=x/4294967296∧(x:Int)/4294967296=(t:Int):=⟨x/4294967296,rfl,by simp⟩
 have Ht:Hid (bitLen x=32+bitLen t):=by show _=_;rw [ht];exact bitLen_shift x 32 (by omega)
 have htl:256≤t∧t<65536:=by omega
 clear ht h hx h1 h3
 have h1':decide ((65536:Int)≤(t:Int))=false:=by simp;omega
 have h2':(256:Int)≤(t:Int):=by omega
 obtain ⟨z,hz,hz'⟩:∃z:Nat,z=t/256∧(t:Int)/256=(z:Int):=⟨t/256,rfl,by simp⟩
 have Hy:Hid (bitLen t=8+bitLen z):=by show _=_;rw [hz];exact bitLen_shift t 8 (by omega)
 have hzl:z<256:=by omega
 have Hz:=qA (bitLen_le8 z hzl)
 clear hz htl
 go_enter Tryz.func197,Tryz.ntmps197
 go_wp2_with (simp only [ht',hz'])
 go_ret
 refine ⟨?_,rfl⟩
 apply uP
 rw [len8tab_get]
 have q0:=Ht.out
 have q1:=Hz.out
 have q2:=Hy.out
 clear hz'
 simp only [wrap64]
 clear h0' h1' h2' ht'
 omega
theorem qJP (x:Nat) (w:World) (h:4294967296≤x) (hx:x<18446744073709551616) (h1:65536≤x/4294967296) (h3:x/4294967296/65536<256):Calls Tryz.prog 197 #[.int .u64 x] w fun e w'=>e= .returned (.int .i64 (bitLen x:Nat))∧w'=w:=by
 have h0':decide ((4294967296:Int)≤(x:Int))=true:=by simp;omega
 obtain ⟨t,ht,ht'⟩:∃t:Nat,t=x/4294967296∧(x:Int)/4294967296=(t:Int):=⟨x/4294967296,rfl,by simp⟩
 have Ht:Hid (bitLen x=32+bitLen t):=by show _=_;rw [ht];exact bitLen_shift x 32 (by omega)
 have htl:65536≤t∧t/65536<256:=by omega
 clear ht h hx h1 h3
 have h1':decide ((65536:Int)≤(t:Int))=true:=by simp;omega
 obtain ⟨y,hy,hy'⟩:∃y:Nat,y=t/65536∧(t:Int)/65536=(y:Int):=⟨t/65536,rfl,by simp⟩
 have Hy:Hid (bitLen t=16+bitLen y):=by show _=_;rw [hy];exact bitLen_shift t 16 (by omega)
 have h2':¬(256:Int)≤(y:Int):=by omega
 have hyl:y<256:=by omega
 have Hz:=qA (bitLen_le8 y hyl)
 clear hy htl
 go_enter Tryz.func197,Tryz.ntmps197
 go_wp2_with (simp only [ht',hy'])
 go_ret
 refine ⟨?_,rfl⟩
 apply uP
 rw [len8tab_get]
 have q0:=Ht.out
 have q1:=Hz.out
 have q2:=Hy.out
 clear hy'
 simp only [wrap64]
 clear h0' h1' h2' ht'
 omega
theorem qJQ (x:Nat) (w:World) (h:4294967296≤x) (hx:x<18446744073709551616) (h1:65536≤x/4294967296) (h3:256≤x/4294967296/65536):Calls Tryz.prog 197 #[.int .u64 x] w fun e w'=>e= .returned (.int .i64 (bitLen x:Nat))∧w'=w:=by
 have h0':decide ((4294967296:Int)≤(x:Int))=true:=by simp;omega
 obtain ⟨t,ht,ht'⟩:∃t:Nat,t=x/4294967296∧(x:Int)/4294967296=(t:Int):=⟨x/4294967296,rfl,by simp⟩
 have Ht:Hid (bitLen x=32+bitLen t):=by show _=_;rw [ht];exact bitLen_shift x 32 (by omega)
 have htl:65536≤t∧256≤t/65536∧t<4294967296:=by omega
 clear ht h hx h1 h3
 have h1':decide ((65536:Int)≤(t:Int))=true:=by simp;omega
 obtain ⟨y,hy,hy'⟩:∃y:Nat,y=t/65536∧(t:Int)/65536=(y:Int):=⟨t/65536,rfl,by simp⟩
 have Hx:Hid (bitLen t=16+bitLen y):=by show _=_;rw [hy];exact bitLen_shift t 16 (by omega)
 have h2':(256:Int)≤(y:Int):=by omega
 have hyl:y<65536:=by omega
 clear hy htl
 obtain ⟨z,hz,hz'⟩:∃z:Nat,z=y/256∧(y:Int)/256=(z:Int):=⟨y/256,rfl,by simp⟩
 have Hy:Hid (bitLen y=8+bitLen z):=by show _=_;rw [hz];exact bitLen_shift y 8 (by omega)
 have hzl:z<256:=by omega
 have Hz:=qA (bitLen_le8 z hzl)
 clear hz hyl
 go_enter Tryz.func197,Tryz.ntmps197
 go_wp2_with (simp only [ht',hy',hz'])
 go_ret
 refine ⟨?_,rfl⟩
 apply uP
 rw [len8tab_get]
 have q0:=Ht.out
 have q1:=Hz.out
 have q2:=Hy.out
 have q3:=Hx.out
 clear hy' hz'
 simp only [wrap64]
 clear h0' h1' h2' ht'
 omega
theorem kZ (x:Nat) (w:World) (hx:x<18446744073709551616):Calls Tryz.prog 197 #[.int .u64 x] w fun e w'=>e= .returned (.int .i64 (bitLen x:Nat))∧w'=w:=by
 by_cases h0:x<4294967296
 ·exact qFH x w h0
 ·by_cases h:x/4294967296<256
  ·exact qJN x w (by omega) hx h
  ·by_cases h1:x/4294967296<65536
   ·exact qJO x w (by omega) hx (by omega) h1
   ·by_cases h2:x/4294967296/65536<256
    ·exact qJP x w (by omega) hx (by omega) h2
    ·exact qJQ x w (by omega) hx (by omega) (by omega)
def qT (w:World):Prop:=∀j,j<64→w.cell? ⟨2,j,none⟩=some (.int .u8 (Lib.deBruijn64tab.getD j 0:Nat))
theorem qT.below {w w':World} (h:qT w) (hb:Below w.heap.size w w'):qT w':=fun j hj=>by
 rw [hb.cell (p:=⟨2,j,none⟩) (block_lt_of_cell (h j hj))];exact h j hj
theorem qT.below' {B:Nat} {w w':World} (h:qT w) (hb:Below B w w') (hB:2<B):qT w':=fun j hj=>by
 rw [hb.cell (p:=⟨2,j,none⟩) hB];exact h j hj
theorem qHY (x a:Nat) (hx:x<18446744073709551616) (hx0:x≠0) (hlow:x&&&(18446744073709551616-x)=a):
  IntKind.u64.wrap (bits BinOp.and IntKind.u64 (x:Int) (IntKind.u64.wrap (-(x:Int)))*285870213051353865)/288230376151711744=((a*285870213051353865%18446744073709551616/288230376151711744:Nat):Int):=by
 have e1: -(x:Int)%18446744073709551616=((18446744073709551616-x:Nat):Int):=by omega
 rw [IntKind.wrap_u64,IntKind.wrap_u64,e1,u64_and_nat x _ hx (by omega),hlow]
 omega
theorem qGD (x k idx:Nat) (w:World) (hx0:((x:Int)==0)=false)
  (key:IntKind.u64.wrap (bits BinOp.and IntKind.u64 (x:Int) (IntKind.u64.wrap (-(x:Int)))*285870213051353865)/288230376151711744=(idx:Int))
  (hi:idx<64) (hk:k<64) (hcell:w.cell? ⟨2,idx,none⟩=some (.int .u8 k)):
  Calls Tryz.prog 227 #[.int .u64 x] w fun e w'=>e= .returned (.int .i64 k)∧w'=w:=by
 go_enter Tryz.func227,Tryz.ntmps227
 go_wp2_with (simp only [key])
 go_ret
 exact ⟨rfl,rfl⟩
theorem qCN (x:Nat) (w:World) (hx:x<18446744073709551616) (hx0:x≠0) (hT:qT w):
  Calls Tryz.prog 227 #[.int .u64 x] w fun e w'=>e= .returned (.int .i64 (Lib.ctz 64 x:Nat))∧w'=w:=by
 obtain ⟨hlow,hk⟩:=Lib.lowest_bit 64 x hx0 hx
 obtain ⟨hi,htab⟩:=Lib.deBruijn64_at _ hk
 have hcell:=hT _ hi
 rw [htab] at hcell
 exact qGD x _ _ w (by simp;omega) (qHY x _ hx hx0 hlow) hi hk hcell
end Go.Proofs.YtkpmalfigmimaaaGreatDoor
namespace Go.Proofs.YtkpmalfigmimaaaGreatDoor
open Go.RowKit
open M
theorem qN {B:Nat} {w w':World} (h:Below B w w') (m:Nat):Below B w (w'.drewN m):=⟨h.os,h.tape,h.output,h.size,h.block⟩
theorem qX {G:Nat} {w w1 x wz:World} (h:Below G w w1∧G≤w1.heap.size) (hbz:Below x.heap.size x wz) (hx:Below G w1 x):Below G w wz∧G≤wz.heap.size:=
 ⟨(h.1.trans hx).trans (hbz.mono (Nat.le_trans h.2 hx.size)),Nat.le_trans h.2 (Nat.le_trans hx.size hbz.size)⟩
theorem uR {w:World} {g:Nat} {u u' v v':Value} (h0:w.cell? ⟨g,0,none⟩=some u) (h1:w.cell? ⟨g,1,none⟩=some u'):
  ((w.setCell ⟨g,0,none⟩ v).setCell ⟨g,1,none⟩ v').cell? ⟨g,0,none⟩=some v∧((w.setCell ⟨g,0,none⟩ v).setCell ⟨g,1,none⟩ v').cell? ⟨g,1,none⟩=some v':=
 ⟨by rw [qC _ _ _ _ _ (by omega),qF _ _ _ _ _ h0],by rw [qF _ _ _ _ u' (by rw [qC _ _ _ _ _ (by omega)];exact h1)]⟩
structure Tk (w w':World) (b off:Nat) (s:ByteArray) (a:Nat) (e0:Int) (a':Nat) (e1:Int) (laid:List Bool):Prop where
 rd:Rd w' b off s a' e1
 only:qJ b off (off+3) w w'
 sound:e1=0→e0=0∧(rb s).take a'=(rb s).take a++laid
 full:e0=0→a+laid.length≤(rb s).length→e1=0
theorem jN (s:ByteArray):(rb s).length=8*s.size:=by simp [rb]
theorem Tk.trans {w w1 w2:World} {b off:Nat} {s:ByteArray} {a a1 a2:Nat} {e0 e1 e2:Int} {l1 l2:List Bool} (ha:a≤8*s.size) (h:Tk w w1 b off s a e0 a1 e1 l1) (k:Tk w1 w2 b off s a1 e1 a2 e2 l2):Tk w w2 b off s a e0 a2 e2 (l1++l2):=by
 refine ⟨k.rd,h.only.trans k.only,fun he=>?_,fun he hl=>?_⟩
 ·obtain ⟨h1,h2⟩:=k.sound he
  obtain ⟨h3,h4⟩:=h.sound h1
  exact ⟨h3,by rw [h2,h4,List.append_assoc]⟩
 ·rw [List.length_append] at hl
  have e1:=h.full he (by omega)
  obtain ⟨_,h4⟩:=h.sound e1
  have:=tkn_len' _ _ _ _ h4 (by rw [jN];exact ha) (by rw [jN];exact h.rd.le)
  exact k.full e1 (by omega)
def qIP (w:World) (b off:Nat) (s:ByteArray) (a:Nat) (e0:Int) (n:Nat) (e:Ending) (w':World):Prop:=
 ∃(x a':Nat) (e1:Int),e= .returned (.int .u64 (x:Int))∧x<2^n∧Tk w w' b off s a e0 a' e1 (bitsOf x n)
theorem kT (b off:Nat) (s:ByteArray) (a n:Nat) (e0:Int) (w:World) (h:Rd w b off s a e0) (hn:n≤64):
  Calls Tryz.prog 76 #[.pointer (some ⟨b,off,none⟩),.int .i64 n] w (qIP w b off s a e0 n):=by
 have hpos:0<2^n:=Nat.pos_of_ne_zero (by simp)
 by_cases he:e0=0
 ·subst he
  by_cases hs:a+n≤8*s.size
  ·refine (mS b off s a n w h hn hs).mono fun e w' ⟨h1,h2,h3⟩=>?_
   have hlen:(((rb s).drop a).take n).length=n:=by simp [rb];omega
   have hbits:=bitsOf_num (((rb s).drop a).take n)
   rw [hlen] at hbits
   refine ⟨_,a+n,0,h1,?_,h2,h3,fun _=>⟨rfl,uS _ _ _ _ hbits.symm⟩,fun _ _=>rfl⟩
   have:=num_lt (((rb s).drop a).take n)
   rwa [hlen] at this
  ·refine (yX b off s a n w h hn (by omega)).mono fun e w' ⟨h1,h2,h3⟩=>?_
   exact ⟨0,a,12,h1,hpos,h2,h3,fun h=>by omega,fun _ hl=>by rw [bitsOf_length,jN] at hl;omega⟩
 ·refine (wX b off s a n e0 w h (by rw [beq_eq_false_iff_ne];exact he) (by omega) (by omega)).mono fun e w' ⟨h1,h2,h3⟩=>?_
  exact ⟨0,a,e0,h1,hpos,h2,h3,fun h=>absurd h he,fun h _=>absurd h he⟩
def qKE (w:World) (b off:Nat) (s:ByteArray) (a:Nat) (e0:Int) (e:Ending) (w':World):Prop:=
 ∃(v:Bool) (a':Nat) (e1:Int),e= .returned (.bool v)∧Tk w w' b off s a e0 a' e1 [v]∧(v=true→e1=0)
theorem dW (b off:Nat) (s:ByteArray) (a:Nat) (e0:Int) (w:World) (h:Rd w b off s a e0):
  Calls Tryz.prog 107 #[.pointer (some ⟨b,off,none⟩)] w (qKE w b off s a e0):=by
 by_cases he:e0=0
 ·subst he
  by_cases hs:a+1≤8*s.size
  ·refine (pL b off w _ _ (mS b off s a 1 w h (by omega) hs)).mono fun e w' ⟨h1,h2,h3⟩=>?_
   have hin:a<(rb s).length:=by simp [rb];omega
   refine ⟨_,a+1,0,h1,⟨h2,h3,fun _=>⟨rfl,uS _ _ _ _ ?_⟩,fun _ _=>rfl⟩,fun _=>rfl⟩
   rw [qID _ _ hin,List.drop_eq_getElem_cons hin]
   cases (rb s)[a]<;>rfl
  ·refine (pL b off w 0 _ (yX b off s a 1 w h (by omega) (by omega))).mono fun e w' ⟨h1,h2,h3⟩=>?_
   exact ⟨_,a,12,h1,⟨h2,h3,fun h=>by omega,fun _ hl=>by rw [jN] at hl;simp at hl;omega⟩,fun h=>by simp at h⟩
 ·refine (pL b off w 0 _ (wX b off s a 1 e0 w h (by rw [beq_eq_false_iff_ne];exact he) (by omega) (by omega))).mono fun e w' ⟨h1,h2,h3⟩=>?_
  exact ⟨_,a,e0,h1,⟨h2,h3,fun h=>absurd h he,fun h _=>absurd h he⟩,fun h=>by simp at h⟩
theorem qJ.setOther' {b lo hi:Nat} {u w:World} (h:qJ b lo hi u w) (g i:Nat) (hg:u.heap.size≤g) (hb:g≠b) (v:Value):qJ b lo hi u (w.setCell ⟨g,i,none⟩ v):=by
 have hbk:∀k,k≠g→(w.setCell ⟨g,i,none⟩ v).heap[k]?=w.heap[k]?:=fun k hk=>Below.heap_setCell _ _ _ _ hk
 refine ⟨h.os,h.tape,h.output,Nat.le_trans h.size (by simp [World.setCell]),fun k hk hb=>?_,fun j hj=>?_,fun j=>?_⟩
 ·rw [hbk k (by omega)];exact h.block k hk hb
 ·rw [World.cell?_of_block (w:=w) (hbk b (by omega))];exact h.cell j hj
 ·rw [qE];exact h.frozen j
theorem Rd.setOther' {w:World} {b off:Nat} {s:ByteArray} {a:Nat} {e:Int} (h:Rd w b off s a e) (g i:Nat) (hb:g≠b) (v:Value):Rd (w.setCell ⟨g,i,none⟩ v) b off s a e:=by
 have hbk:(w.setCell ⟨g,i,none⟩ v).heap[b]?=w.heap[b]?:=Below.heap_setCell _ _ _ _ (fun e=>hb e.symm)
 have hc:∀j,(w.setCell ⟨g,i,none⟩ v).cell? ⟨b,j,none⟩=w.cell? ⟨b,j,none⟩:=fun j=>World.cell?_of_block (w:=w) hbk
 exact ⟨by rw [hc];exact h.text,by rw [hc];exact h.at_,by rw [hc];exact h.err,fun j hj=>by rw [qE];exact h.fz j hj,h.size,h.le⟩
end Go.Proofs.YtkpmalfigmimaaaGreatDoor
namespace Go.Proofs.YtkpmalfigmimaaaGreatDoor
open Go.RowKit
open M
theorem kA (w:World):Calls Tryz.prog 169 #[] w fun e w'=>e= .returned (.int .i64 32)∧w'=w:=by
 have hx:bits BinOp.xor IntKind.u32 0 4294967295=4294967295:=by decide +kernel
 have HL:=qA (kZ 4294967295 w (by omega))
 rw [show bitLen 4294967295=32 from by decide +kernel] at HL
 go_enter Tryz.func169,Tryz.ntmps169
 go_wp2_with fail
 refine HL.out.mono ?_
 rintro e w1 ⟨rfl,rfl⟩
 go_wp2_with fail
 go_ret
 exact ⟨rfl,rfl⟩
theorem zE (w:World):Calls Tryz.prog 218 #[] w fun e w'=>e= .returned (.int .i64 5)∧w'=w:=by
 have HL:=qA (kZ 31 w (by omega))
 rw [show bitLen 31=5 from by decide +kernel] at HL
 go_enter Tryz.func218,Tryz.ntmps218
 go_wp2_with fail
 refine (kA w).mono ?_
 rintro e w1 ⟨rfl,rfl⟩
 go_wp2_with fail
 refine HL.out.mono ?_
 rintro e w1 ⟨rfl,rfl⟩
 go_wp2_with fail
 go_ret
 exact ⟨rfl,rfl⟩
def dX (L N:Nat):Value:= .agg #[.int .i64 (L:Int),.int .i64 (N:Int)]
theorem qB6 {o p:Option TypeDesc} (e:p=o) (h:(match o with|some (.struct _)=>true|_=>false)=true):∃fs,p=some (.struct fs):=by
 subst e
 cases p with
 |none=>simp at h
 |some d=>cases d<;>first|exact ⟨_,rfl⟩|simp at h
theorem cP (x:Nat) (w:World) (hx:x<4294967296) (h0:x≠0) (hT:qT w):Calls Tryz.prog 219 #[.int .u32 x] w fun e w'=>e= .returned (.agg #[.int .i64 ((32-bitLen x:Nat):Int),.int .i64 (wl x:Int)])∧Below w.heap.size w w':=by
 have hb:=bitLen_le x 32 hx
 have ht:=tz_lt x h0 (by omega)
 obtain ⟨B,hB⟩:∃B,B=bitLen x:=⟨_,rfl⟩
 obtain ⟨Z,hZ⟩:∃Z,Z=tz x:=⟨_,rfl⟩
 obtain ⟨L,hL⟩:∃L,L=32-bitLen x:=⟨_,rfl⟩
 obtain ⟨N,hN⟩:∃N,N=wl x:=⟨_,rfl⟩
 have q1:(32:Int)-(B:Int)=(L:Int):=by omega
 have q2:wl x=bitLen x-tz x:=rfl
 have q3:(32:Int)-(L:Int)=(B:Int):=by omega
 have q4:(B:Int)-(Z:Int)=(N:Int):=by omega
 have HL:Hid (∀w:World,Calls Tryz.prog 197 #[.int .u64 x] w fun e w'=>e= .returned (.int .i64 (B:Int))∧w'=w):=fun w=>by rw [hB];exact kZ x w (by omega)
 have HZ:Hid (∀w:World,qT w→Calls Tryz.prog 227 #[.int .u64 x] w fun e w'=>e= .returned (.int .i64 (Z:Int))∧w'=w):=fun w h=>by rw [hZ];exact qCN x w (by omega) h0 h
 rw [←hL,←hN]
 have r0:IntKind.u64.wrap (x:Int)=(x:Int):=by rw [IntKind.wrap_u64];omega
 have HT:Hid (qT (w.alloc (.cells #[.int .i64 0,.int .i64 0] 215))):=hT.below ((Below.refl _ w).alloc (Nat.le_refl _) _)
 have HX:=qA hx
 clear hB hZ hL hN q2 hT hx hb ht h0
 go_enter Tryz.func219,Tryz.ntmps219
 go_wp2_with fail
 refine (kA _).mono ?_
 rintro e w1 ⟨rfl,rfl⟩
 go_wp2_with fail
 refine (HL.out _).mono ?_
 rintro e w1 ⟨rfl,rfl⟩
 go_wp2_with fail
 refine (HZ.out _ HT.out).mono ?_
 rintro e w1 ⟨rfl,rfl⟩
 go_wp2_with fail
 refine (kA _).mono ?_
 rintro e w1 ⟨rfl,rfl⟩
 go_wp2_with fail
 obtain ⟨fs,hu⟩:=qB6 (show Tryz.prog.underlying 215=Tryz.prog.underlying 215 from rfl) (by kernel_rfl)
 first
  |(
    refine bodyPost_ret (results_cell_row rfl _ _ w.heap.size _ _ (0,0) (.struct fs) rfl (heap_alloc_new w _) hu rfl (by kernel_rfl)) rfl ?_
    exact ⟨rfl,((Below.refl _ w).alloc (Nat.le_refl _) _)⟩)
  |trace_state
theorem jX (L N s:Nat) (w:World) (h:L+N+s=32):Calls Tryz.prog 200 #[dX L N] w fun e w'=>e= .returned (.int .i64 (s:Int))∧Below w.heap.size w w':=by
 have q1:(32:Int)-(L:Int)=((N+s:Nat):Int):=by omega
 have q2:((N+s:Nat):Int)-(N:Int)=(s:Int):=by omega
 generalize N+s=Z at*
 unfold dX
 go_enter Tryz.func200,Tryz.ntmps200
 go_wp2_with fail
 go_quiet ((go_at_call 169;exact Calls.quiet_of_same (kA _)))
 go_wp2_with fail
 go_ret
 exact ⟨rfl,qN ((Below.refl _ w).alloc (Nat.le_refl _) _) _⟩
theorem rH (L N:Nat) (z:Int) (w:World) (hL:L≤64) (hN:N≤64) (h:z=(32:Int)-L-N):Calls Tryz.prog 200 #[dX L N] w fun e w'=>e= .returned (.int .i64 z)∧Below w.heap.size w w':=by
 obtain ⟨y,hy⟩:∃y:Int,y=(32:Int)-L:=⟨_,rfl⟩
 have q1:(32:Int)-(L:Int)=y:=by omega
 have q2:y-(N:Int)=z:=by omega
 have r1:wrap64 y=y:=by unfold wrap64;omega
 have r2:wrap64 z=z:=by unfold wrap64;omega
 have r3:IntKind.i64.wrap y=y:=by rw [IntKind.wrap_i64];omega
 have r4:IntKind.i64.wrap z=z:=by rw [IntKind.wrap_i64];omega
 have HH:=qA h
 have HY:=qA hy
 clear h hy
 unfold dX
 go_enter Tryz.func200,Tryz.ntmps200
 go_wp2_with fail
 go_quiet ((go_at_call 169;exact Calls.quiet_of_same (kA _)))
 go_wp2_with fail
 go_ret
 exact ⟨rfl,qN ((Below.refl _ w).alloc (Nat.le_refl _) _) _⟩
def vQ (L N:Nat):Nat:=32-L-N
theorem zN (L N:Nat) (w:World) (h:L+N≤32):Calls Tryz.prog 200 #[.agg #[.int .i64 (L:Int),.int .i64 (N:Int)]] w fun e w'=>e= .returned (.int .i64 (vQ L N:Int))∧Below w.heap.size w w':=jX L N _ w (by unfold vQ;omega)
theorem kE (L N:Nat) (w:World) (h:L+N≤32):Calls Tryz.prog 199 #[dX L N] w fun e w'=>e= .returned (.bool (decide (0<N)))∧Below w.heap.size w w':=by
 by_cases h0:N=0
 ·subst h0
  unfold dX
  go_enter Tryz.func199,Tryz.ntmps199
  go_wp2_with fail
  go_ret
  exact ⟨rfl,((Below.refl _ w).alloc (Nat.le_refl _) _)⟩
 ·have hp:decide ((0:Int)<(N:Int))=true:=by simp;omega
  rw [show decide (0<N)=true from by simp;omega]
  have HB:Hid (∀w,Calls Tryz.prog 200 #[.agg #[.int .i64 (L:Int),.int .i64 (N:Int)]] w fun e w'=>e= .returned (.int .i64 ((32-L-N:Nat):Int))∧Below w.heap.size w w'):=fun w=>jX L N (32-L-N) w (by omega)
  generalize 32-L-N=s at*
  unfold dX
  go_enter Tryz.func199,Tryz.ntmps199
  go_wp2_with fail
  refine (HB.out _).mono ?_
  rintro e w1 ⟨rfl,hb⟩
  have hb2:Below w.heap.size w w1:=((Below.refl _ w).alloc (Nat.le_refl _) _).trans (hb.mono (by simp))
  clear hb
  go_wp2_with fail
  go_ret
  exact ⟨rfl,hb2⟩
theorem fY (L N:Nat) (w:World) (hL:L≤64) (hN:N≤64) (h:32<L+N) (h0:0<N):Calls Tryz.prog 199 #[dX L N] w fun e w'=>e= .returned (.bool false)∧Below w.heap.size w w':=by
 have hp:decide ((0:Int)<(N:Int))=true:=by simp;omega
 obtain ⟨z,hz⟩:∃z:Int,z=(32:Int)-L-N:=⟨_,rfl⟩
 have hz0:decide ((0:Int)≤z)=false:=by simp;omega
 have HB:Hid (∀w,Calls Tryz.prog 200 #[.agg #[.int .i64 (L:Int),.int .i64 (N:Int)]] w fun e w'=>e= .returned (.int .i64 z)∧Below w.heap.size w w'):=fun w=>rH L N z w hL hN hz
 unfold dX
 have HZ:=qA hz
 have HH:=qA h
 clear hz h
 go_enter Tryz.func199,Tryz.ntmps199
 go_wp2_with fail
 refine (HB.out _).mono ?_
 rintro e w1 ⟨rfl,hb⟩
 have hb2:Below w.heap.size w w1:=((Below.refl _ w).alloc (Nat.le_refl _) _).trans (hb.mono (by simp))
 clear hb
 go_wp2_with fail
 go_ret
 exact ⟨rfl,hb2⟩
end Go.Proofs.YtkpmalfigmimaaaGreatDoor
