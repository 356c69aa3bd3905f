import Derived.Test.YtkpmalfigmimaaaGreatDoorC5C
import Derived.BigQuiet
set_option linter.unusedVariables false
set_option linter.unusedSimpArgs false
set_option maxRecDepth 100000
set_option maxHeartbeats 8000000
namespace Go.Proofs.YtkpmalfigmimaaaGreatDoor
open Go.RowKit
open M
theorem qDJ (b:Nat):(Ieee.double.order b b).isSome=!dP b:=by
 by_cases h:9218868437227405312<b%9223372036854775808
 ·have hn:dP b=true:=by unfold dP;exact decide_eq_true h
  rw [hn,Flt.order_nan Ieee.double (by decide) b b (.inl (by rw [xF,jM];exact h))];rfl
 ·have hn:dP b=false:=by unfold dP;exact decide_eq_false h
  rw [hn,Flt.order_all Ieee.double (by decide) b b (by rw [xF,jM];omega) (by rw [xF,jM];omega)];rfl
theorem qH7 (v:Nat→Nat) (k:Nat) (h:kO v k=k):leK v k=18446744073709551615:=by
 induction k with
 |zero=>rfl
 |succ k ih=>
  have hle:=uK v k
  rw [kO] at h
  by_cases hn:dP (v k)
  ·rw [if_pos hn] at h;rw [leK,if_pos hn];exact ih (by omega)
  ·rw [if_neg hn] at h;omega
theorem qH6 (v:Nat→Nat) (k:Nat) (h:kO v k=k):grK v k=0:=by
 induction k with
 |zero=>rfl
 |succ k ih=>
  have hle:=uK v k
  rw [kO] at h
  by_cases hn:dP (v k)
  ·rw [if_pos hn] at h;rw [grK,if_pos hn];exact ih (by omega)
  ·rw [if_neg hn] at h;omega
theorem qHT (v:Nat→Nat) (k:Nat) (h:dP (v k)=true):kO v (k+1)=kO v k+1∧leV v (k+1)=leV v k∧grV v (k+1)=grV v k:=by
 have e:kO v (k+1)=kO v k+1:=by rw [kO,if_pos h]
 refine ⟨e,?_,?_⟩
 ·unfold leV;rw [e,leK,if_pos h]
  by_cases h2:kO v k=k
  ·rw [if_pos h2,if_pos (by omega)]
  ·rw [if_neg h2,if_neg (by omega)]
 ·unfold grV;rw [e,grK,if_pos h]
  by_cases h2:kO v k=k
  ·rw [if_pos h2,if_pos (by omega)]
  ·rw [if_neg h2,if_neg (by omega)]
theorem qHU (v:Nat→Nat) (k:Nat) (h:dP (v k)=false) (hv:∀i,i<k+1→v i<18446744073709551616):kO v (k+1)=kO v k∧
  leV v (k+1)=(if kO v k=k∨kR (v k)<kR (leV v k) then v k else leV v k)∧grV v (k+1)=(if kO v k=k∨kR (grV v k)<kR (v k) then v k else grV v k):=by
 have hn:¬dP (v k)=true:=by rw [h];exact Bool.false_ne_true
 have e:kO v (k+1)=kO v k:=by rw [kO,if_neg hn]
 have hle:=uK v k
 have hk:=hv k (by omega)
 have hkl:=rW (v k) hk
 refine ⟨e,?_,?_⟩
 ·unfold leV
  rw [e,if_neg (show ¬kO v k=k+1 by omega),leK,if_neg hn]
  by_cases h2:kO v k=k
  ·rw [if_pos h2,if_pos (.inl h2),qH7 v k h2,Nat.min_eq_right (by omega),yW _ hk]
  ·rw [if_neg h2,bE _ (qCA v k)]
   by_cases h3:kR (v k)<leK v k
   ·rw [if_pos (.inr h3),Nat.min_eq_right (by omega),yW _ hk]
   ·rw [if_neg (by rintro (h|h);exact h2 h;exact h3 h),Nat.min_eq_left (by omega)]
 ·unfold grV
  rw [e,if_neg (show ¬kO v k=k+1 by omega),grK,if_neg hn]
  have hgl:=qC8 v k (fun i hi=>hv i (by omega))
  by_cases h2:kO v k=k
  ·rw [if_pos h2,if_pos (.inl h2),qH6 v k h2,Nat.max_eq_right (Nat.zero_le _),yW _ hk]
  ·rw [if_neg h2,bE _ hgl]
   by_cases h3:grK v k<kR (v k)
   ·rw [if_pos (.inr h3),Nat.max_eq_right (by omega),yW _ hk]
   ·rw [if_neg (by rintro (h|h);exact h2 h;exact h3 h),Nat.max_eq_left (by omega)]
theorem qJI (v:Nat→Nat) (n:Nat):leV v n<18446744073709551616:=by
 unfold leV;split
 ·omega
 ·exact vB _ (qCA v n)
theorem qJG (v:Nat→Nat) (n:Nat) (h:∀i,i<n→v i<18446744073709551616):grV v n<18446744073709551616:=by
 unfold grV;split
 ·omega
 ·exact vB _ (qC8 v n h)
theorem qH3 (g g' n cap cap':Nat) (bs:List Nat) (w:World) (hn:bs.length=n) (hl:n≤1000000) (h:∀i,i<n→w.cell? ⟨g,i,none⟩=some (.int .u8 ((bs.getD i 0:Nat):Int))) (h':∀i,i<n→w.cell? ⟨g',i,none⟩=some (.int .u8 ((bs.getD i 0:Nat):Int))):
  Calls Tryz.prog 15 #[.slice (some ⟨g,0,none⟩) n cap,.slice (some ⟨g',0,none⟩) n cap'] w fun e w'=>e= .returned (.bool true)∧∃n,w'=w.drewN n:=by
 have H1:=qA h
 have H2:=qA h'
 clear h h'
 go_enter Tryz.func15,Tryz.ntmps15
 go_wp2_with fail
 go_loopw [5] (fun t5 wr=>∃i:Nat,i≤n∧t5= .int .i64 i∧Hid (∃m,wr=w.drewN m)) (fun t5 _=>n-(intOf t5).toNat)
 case atStart=>exact ⟨0,by omega,rfl,0,rfl⟩
 case round=>
  obtain ⟨i,hi,rfl,HI⟩:=hrel
  by_cases hlt:i<n
  ·have hlt':(i:Int)<(n:Int):=by omega
   have hx:wr.cell? ⟨g,i,none⟩=some (.int .u8 ((bs.getD i 0:Nat):Int)):=by obtain ⟨n,rfl⟩:=HI.out;exact H1.out i hlt
   have hy:wr.cell? ⟨g',i,none⟩=some (.int .u8 ((bs.getD i 0:Nat):Int)):=by obtain ⟨n,rfl⟩:=HI.out;exact H2.out i hlt
   generalize bs.getD i 0=x at*
   go_wp2_with fail
   go_quiet (fail)
   go_wp2_with fail
   refine ⟨⟨i+1,by omega,by go_num,?_⟩,by simp [intOf];omega⟩
   obtain ⟨n,rfl⟩:=HI.out
   exact ⟨n+nq,World.drewN_drewN _ _ _⟩
  ·go_wp2_with fail
   go_ret
   exact ⟨rfl,HI.out⟩
end Go.Proofs.YtkpmalfigmimaaaGreatDoor
