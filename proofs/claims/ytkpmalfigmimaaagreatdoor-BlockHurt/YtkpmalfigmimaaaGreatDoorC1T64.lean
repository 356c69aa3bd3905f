import Derived.Test.YtkpmalfigmimaaaGreatDoorC2D
import Derived.Test.YtkpmalfigmimaaaGreatDoorP1J32
import Derived.Laws.CopyOwn
import Derived.Deep.RegionLaw
import Derived.Test.YtkpmalfigmimaaaGreatDoorC1L64
import Derived.Test.YtkpmalfigmimaaaGreatDoorT1S
import Derived.Test.YtkpmalfigmimaaaGreatDoorC2G64
import Derived.Test.YtkpmalfigmimaaaGreatDoorQG
set_option linter.unusedVariables false
set_option linter.unusedSimpArgs false
set_option maxRecDepth 100000
set_option maxHeartbeats 8000000
namespace Go.Proofs.YtkpmalfigmimaaaGreatDoor
open Go.RowKit
theorem mF (v z:Value) (c m k:Nat) (h:m+k≤c):splice (List.replicate m v++List.replicate (c-m) z) m (List.replicate k v)=List.replicate (m+k) v++List.replicate (c-(m+k)) z:=by
 unfold splice
 rw [List.take_left' (by simp),List.length_replicate,List.drop_append,List.drop_eq_nil_of_le (by simp),List.nil_append,List.length_replicate,List.drop_replicate,←List.append_assoc,List.replicate_append_replicate]
 congr 2;omega
theorem fY (v c b o cp:Nat) (w:World) (hv:w.cell? ⟨b,o,none⟩=some (.int .u64 (v:Int))) (h0:0<c) (hc:c≤4096):
  Calls Tryz.prog 144 #[.slice (some ⟨b,o,none⟩) 1 cp,.int .i64 c] w fun e w'=>e= .returned (.slice (some ⟨w.heap.size,0,none⟩) c c)∧w'.heap[w.heap.size]?=some (.cells (List.replicate c (Value.int .u64 (v:Int))).toArray 36 (0,0))∧Below w.heap.size w w':=by
 have HV:=qA hv
 have hbw:b<w.heap.size:=block_lt_of_cell hv
 have hsz:(Tryz.prog.info? 36).map (·.size)=some 1:=by kernel_rfl
 have hmk:=zA c hc
 have r1:IntKind.u64.wrap (c:Int)=(c:Int):=by rw [IntKind.wrap_u64];omega
 obtain ⟨g,hg⟩:∃g,w.heap.size=g:=⟨_,rfl⟩
 rw [hg] at hbw⊢
 obtain ⟨W1,hW1⟩:∃W1,W1=w.alloc (.cells (Array.replicate c (Value.int .u64 0)) 36):=⟨_,rfl⟩
 have HG:Hid (W1.heap[g]?=some (.cells (List.replicate c (Value.int .u64 0)).toArray 36 (0,0))∧Below g w W1∧W1.cell? ⟨b,o,none⟩=some (.int .u64 (v:Int))):=by
  have hB:Below g w W1:=by rw [hW1,←hg];exact (Below.refl _ w).alloc (Nat.le_refl _) _
  refine ⟨?_,hB,(hB.cell (p:=⟨b,o,none⟩) hbw).trans hv⟩
  have:=heap_alloc_new w (.cells (Array.replicate c (Value.int .u64 0)) 36)
  rw [hW1,←hg,this];simp
 clear hv
 go_enter Tryz.func144,Tryz.ntmps144
 go_wp2_with fail
 refine (bN c (by omega) w).mono ?_
 rintro e w1 ⟨rfl,hw1⟩
 have hw2:=hw1.symm
 subst hw2
 clear hw1
 go_upto_region 7 with fail
 (try rw [hg])
 (try rw [←hW1])
 clear hW1 hmk
 have HC:Hid (∀(j:Nat) (u:Value),[Value.int .u64 (v:Int)][j]?=some u→W1.cell? ((⟨b,o,none⟩:Addr).add j)=some u):=fun j u hu=>by
  match j with
  |0=>simp at hu;subst hu;exact HG.out.2.2
  |j+1=>simp at hu
 have hrun:∃w2,(Builtin.copy_ #[107,107] 3 #[.slice (some ⟨g,0,none⟩) c c,.slice (some ⟨b,o,none⟩) 1 cp]).run Tryz.prog W1= .ok (.int .i64 1) w2∧Hid (w2.heap[g]?=some (.cells (splice (List.replicate c (Value.int .u64 0)) 0 [Value.int .u64 (v:Int)]).toArray 36 (0,0))∧Below g w w2):=by
  have h1:=run_copy_row (P:=Tryz.prog) W1 107 107 3 36 g 0 c c ⟨b,o,none⟩ 1 cp (List.replicate c (Value.int .u64 0)).toArray 36 [Value.int .u64 (v:Int)] Tryz.underlying107 hsz HG.out.1 (show 1=min 1 c by omega) HC.out (by simp;omega) (fun u hu=>by simp at hu;subst hu;rfl)
  exact ⟨_,h1,by simpa [splice] using setRow_heap W1 g _ _ _ _ HG.out.1,below_setRow HG.out.2.1 (Nat.le_refl _) _⟩
 obtain ⟨w2,hrun,hw2⟩:=hrun
 have hg2:Hid (w2.heap[g]?=some (.cells (splice (List.replicate c (Value.int .u64 0)) 0 [Value.int .u64 (v:Int)]).toArray 36 (0,0))):=hw2.out.1
 have hB2:=hw2.out.2
 have HG2:Hid (w2.heap[g]?=some (.cells (List.replicate 1 (Value.int .u64 (v:Int))++List.replicate (c-1) (Value.int .u64 0)).toArray 36 (0,0))):=by
  have:=mF (Value.int .u64 (v:Int)) (Value.int .u64 0) c 0 1 (by omega)
  simp only [List.replicate_zero,List.nil_append,Nat.sub_zero,Nat.zero_add] at this
  rw [←this];exact hg2.out
 have HB2:=qA hB2
 clear hg2 hB2 hw2
 go_wp2_with fail
 go_loopw [8] (fun t8 wr=>∃m:Nat,t8= .int .i64 (m:Int)∧Hid (0<m∧m≤c∧wr.heap[g]?=some (.cells (List.replicate m (Value.int .u64 (v:Int))++List.replicate (c-m) (Value.int .u64 0)).toArray 36 (0,0))∧Below g w wr)) (fun t8 _=>c-(intOf t8).toNat)
 case atStart=>exact ⟨1,rfl,by omega,by omega,HG2.out,HB2.out⟩
 case round=>
  obtain ⟨m,rfl,hI⟩:=hrel
  by_cases hlt:m<c
  ·obtain ⟨k,hk⟩:∃k,k=min m (c-m):=⟨_,rfl⟩
   have h0m:0<m:=hI.out.1
   have hk1:0<k∧m+k≤c:=by omega
   have HS:Hid (∀(wq:World),wq.heap=wr.heap→∀(j:Nat) (u:Value),(List.replicate k (Value.int .u64 (v:Int)))[j]?=some u→wq.cell? ((⟨g,0,none⟩:Addr).add j)=some u):=fun wq hq j u hu=>by
    rw [Addr.add_mid,Nat.zero_add,cell_of_row wq g j _ _ _ (by rw [hq];exact hI.out.2.2.1)]
    rw [List.getElem?_replicate] at hu
    split at hu
    ·rename_i hj
     simp only [List.getElem?_toArray]
     rw [List.getElem?_append_left (by simp;omega),List.getElem?_replicate,if_pos (by omega)];exact hu
    ·cases hu
   have HB3:=qA hI.out.2.2.2
   have n1:¬c=m:=by omega
   have hmc:m≤c:=by omega
   have n2:¬m=0:=by omega
   have n3:wrap64 ((m:Int)+(k:Int))=((m+k:Nat):Int):=by unfold wrap64;omega
   have n4:IntKind.i64.wrap ((m:Int)+(k:Int))=((m+k:Nat):Int):=by rw [IntKind.wrap_i64];omega
   have HK:=qA hk
   clear hk
   go_wp2_with fail
   go_region_law (refine step_copy_splice rfl (.tmp 41) (.tmp 44) 107 107 rfl 36 Tryz.underlying107 hsz (some ⟨g,m,none⟩) (some ⟨g,0,none⟩) (c-m) (c-m) m c (by simp [Act.eval,Act.put]) (by simp [Act.eval,Act.put]) g m (List.replicate m (Value.int .u64 (v:Int))++List.replicate (c-m) (Value.int .u64 0)) 36 hI.out.2.2.1 (List.replicate k (Value.int .u64 (v:Int))) (by rw [List.length_replicate];exact HK.out) (fun _=>⟨rfl,_,rfl,HS.out _ rfl⟩) (by simp;omega) (fun u hu=>by rw [List.eq_of_mem_replicate hu];rfl) g w ⟨HB3.out.os,HB3.out.tape,HB3.out.output,HB3.out.size,HB3.out.block⟩ (Nat.le_refl _) ?_;intro w3 hg3 hB3)
   have HG3:Hid (w3.heap[g]?=some (.cells (List.replicate (m+k) (Value.int .u64 (v:Int))++List.replicate (c-(m+k)) (Value.int .u64 0)).toArray 36 (0,0))):=by
    rw [←mF _ _ c m k hk1.2];exact hg3.out
   have HB4:=qA hB3
   clear hg3 hB3
   simp [Act.put]
   go_roundw
   case rel=>exact ⟨_,_,_,_,_,_,_,_,_,_,_,_,_,_,⟨m+k,by simp,by omega,by omega,HG3.out,HB4.out⟩,rfl⟩
   case measure=>simp [intOf];omega
  ·have hm:m=c:=by have:=hI.out.2.1;omega
   have HE:Hid (wr.heap[g]?=some (.cells (List.replicate c (Value.int .u64 (v:Int))).toArray 36 (0,0))):=by
    have:=hI.out.2.2.1
    rw [hm,Nat.sub_self,List.replicate_zero,List.append_nil] at this
    exact this
   have HB5:=qA hI.out.2.2.2
   go_wp2_with fail
   go_ret
   exact ⟨rfl,HE.out,HB5.out⟩
end Go.Proofs.YtkpmalfigmimaaaGreatDoor
namespace Go.Proofs.YtkpmalfigmimaaaGreatDoor
open Go.RowKit
open M
theorem qCS (v:Nat) (q:Addr) (b o n cap:Nat) (x:Nat) (w:World) (hq:w.cell? q=some (.slice (some ⟨b,o,none⟩) n cap)) (hc:w.cell? ⟨b,o,none⟩=some (.int .u64 (x:Int))) (h0:0<n):
  Calls Tryz.prog 192 #[.int .u64 v,.pointer (some q)] w fun e w'=>e= .returned (.bool (decide (v≠x)))∧w'=w:=by
 have e0:(((v:Int)) !=(x:Int))=decide (v≠x):=by rw [Bool.eq_iff_iff,bne_iff_ne,decide_eq_true_iff];omega
 have e1:=qA e0
 clear e0
 go_enter Tryz.func192,Tryz.ntmps192
 go_wp2_with fail
 go_ret
 exact ⟨by rw [←e1.out];rfl,rfl⟩
theorem nX (f:Nat→Nat) (v i k c:Nat):qI (fun j=>f (c+j)) v i k=qI f v (c+i) k:=by
 induction k generalizing i with
 |zero=>rfl
 |succ k ih=>rw [qI,qI,ih (i+1)];rfl
theorem wX (q:Addr) (b o n cap:Nat) (f:Nat→Nat) (w:World) (hq:w.cell? q=some (.slice (some ⟨b,o,none⟩) n cap)) (hc:∀i,i<n→w.cell? ⟨b,o+i,none⟩=some (.int .u64 (f i:Int))) (h0:0<n) (hn:n≤4096) (hcap:n≤cap):
  Calls Tryz.prog 191 #[.slice (some ⟨b,o,none⟩) n cap,.func (.func 192) #[] #[.pointer (some q)]] w fun e w'=>e= .returned (.int .i64 (if qI f (f 0) 0 n<n then (qI f (f 0) 0 n:Int) else -1))∧w'=w:=by
 have HC:=qA hc
 have HQ:=qA hq
 have HC0:Hid (w.cell? ⟨b,o,none⟩=some (.int .u64 (f 0:Int))):=hc 0 h0
 obtain ⟨res,hres⟩:∃res:Int,(if qI f (f 0) 0 n<n then (qI f (f 0) 0 n:Int) else -1)=res:=⟨_,rfl⟩
 rw [hres]
 have HRES:=qA hres
 clear hc hq hres
 go_enter Tryz.func191,Tryz.ntmps191
 go_wp2_with fail
 go_loopw [8] (fun t8 wr=>∃k:Nat,t8= .int .i64 (k:Int)∧wr=w∧Hid (k≤n∧∀j,j<k→f j=f 0)) (fun t8 _=>n-(intOf t8).toNat)
 case atStart=>exact ⟨0,rfl,rfl,Nat.zero_le _,fun j hj=>by omega⟩
 case round=>
  obtain ⟨k,rfl,rfl,hI⟩:=hrel
  by_cases hlt:k<n
  ·obtain ⟨v,hv⟩:∃v,f k=v:=⟨_,rfl⟩
   have c1:wr.cell? ⟨b,o+k,none⟩=some (.int .u64 (v:Int)):=by rw [←hv];exact HC.out k hlt
   have HV:=qA hv
   clear hv
   by_cases hne:v=f 0
   ·have HN:=qA hne
    clear hne
    go_wp2_with fail
    refine (qCS v q b o n cap (f 0) wr HQ.out HC0.out h0).mono ?_
    rintro e w1 ⟨rfl,rfl⟩
    rw [decide_eq_false (fun h=>h HN.out)]
    go_wp2_with fail
    go_roundw
    case rel=>exact ⟨k+1,by simp,trivial,hlt,fun j hj=>by
     by_cases e:j=k
     ·rw [e,HV.out,HN.out]
     ·exact hI.out.2 j (by omega)⟩
    case measure=>simp [intOf];omega
   ·have ea:qI f (f 0) 0 n=k:=vA f (f 0) 0 n k (by omega) (fun j hj=>by rw [Nat.zero_add];exact hI.out.2 j hj) (fun _=>by rw [Nat.zero_add,HV.out];exact hne)
    have HA:=qA ea
    have HN:=qA hne
    clear ea hne
    go_wp2_with fail
    refine (qCS v q b o n cap (f 0) wr HQ.out HC0.out h0).mono ?_
    rintro e w1 ⟨rfl,rfl⟩
    rw [decide_eq_true HN.out]
    go_wp2_with fail
    go_ret
    exact ⟨by rw [←HRES.out,HA.out,if_pos hlt];rfl,rfl⟩
  ·have hk:k=n:=by have:=hI.out.1;omega
   have ea:qI f (f 0) 0 n=n:=vA f (f 0) 0 n n (by omega) (fun j hj=>by rw [Nat.zero_add];exact hI.out.2 j (by omega)) (fun h=>by omega)
   have HA:=qA ea
   clear ea
   go_wp2_with fail
   go_ret
   exact ⟨by rw [←HRES.out,HA.out,if_neg (by omega)];rfl,rfl⟩
theorem mL (b o n cap:Nat) (f:Nat→Nat) (w:World) (hc:∀i,i<n→w.cell? ⟨b,o+i,none⟩=some (.int .u64 (f i:Int))) (h0:0<n) (hn:n≤4096) (hcap:n≤cap):
  Calls Tryz.prog 162 #[.slice (some ⟨b,o,none⟩) n cap] w fun e w'=>e= .returned (.int .i64 (qI f (f 0) 0 n:Nat))∧Below w.heap.size w w':=by
 have HC:=qA hc
 have hle:=zH f (f 0) 0 n
 obtain ⟨A,hA⟩:∃A,qI f (f 0) 0 n=A:=⟨_,rfl⟩
 have HA:=qA hA
 rw [hA] at hle⊢
 obtain ⟨g,hg⟩:∃g,w.heap.size=g:=⟨_,rfl⟩
 obtain ⟨W1,hW1⟩:∃W1,W1=w.alloc (.cells #[.slice (some ⟨b,o,none⟩) n cap] 107):=⟨_,rfl⟩
 have HB:Hid (Below w.heap.size w W1):=by rw [hW1];exact (Below.refl _ w).alloc (Nat.le_refl _) _
 have HW:Hid (W1.cell? ⟨g,0,none⟩=some (.slice (some ⟨b,o,none⟩) n cap)):=by rw [←hg,hW1];exact cell_of_row _ _ 0 _ _ _ (heap_alloc_new w _)
 have HC1:Hid (∀i,i<n→W1.cell? ⟨b,o+i,none⟩=some (.int .u64 (f i:Int))):=fun i hi=>by
  rw [HB.out.cell (p:=⟨b,o+i,none⟩) (block_lt_of_cell (hc i hi))];exact hc i hi
 clear hc hA
 by_cases hlt:A<n
 ·go_enter Tryz.func162,Tryz.ntmps162
  go_upto_region 1 with fail
  (try rw [hg])
  (try rw [←hW1])
  clear hW1
  have c0:=HW.out
  go_wp2_with fail
  refine (wX ⟨g,0,none⟩ b o n cap f W1 HW.out HC1.out h0 hn hcap).mono ?_
  rintro e w1 ⟨rfl,rfl⟩
  rw [HA.out,if_pos hlt]
  go_wp2_with fail
  go_ret
  exact ⟨rfl,HB.out⟩
 ·have hAn:A=n:=by omega
  go_enter Tryz.func162,Tryz.ntmps162
  go_upto_region 1 with fail
  (try rw [hg])
  (try rw [←hW1])
  clear hW1
  have c0:=HW.out
  go_wp2_with fail
  refine (wX ⟨g,0,none⟩ b o n cap f W1 HW.out HC1.out h0 hn hcap).mono ?_
  rintro e w1 ⟨rfl,rfl⟩
  rw [HA.out,if_neg hlt]
  go_wp2_with fail
  go_ret
  exact ⟨by rw [hAn];rfl,HB.out⟩
theorem qA0 (f:Nat→Nat) (u i k:Nat):(rnB 64 f u i k).length≤144*k:=by
 induction u generalizing i k with
 |zero=>simp [rnB]
 |succ u ih=>
  match k with
  |0=>simp [rnB]
  |k+1=>
   have hp:=zY f i k
   have hl:=zH f (f i) i (k+1)
   rw [rnB,List.length_append,List.length_append,bitsOf_length]
   have h1:=jX (qI f (f i) i (k+1)-1)
   have h2:=ih (i+qI f (f i) i (k+1)) (k+1-qI f (f i) i (k+1))
   omega
def vJ:Value→Nat
 | .slice _ l _=>l
 |_=>0
theorem cQ (p:Option Addr) (n cap:Nat) (f:Nat→Nat) (w:World) (h:qY w p n f) (hn:n≤4096) (hcap:n≤cap) (hf:∀i,i<n→f i<18446744073709551616):
  Calls Tryz.prog 128 #[.slice p n cap] w (zX (rnB 64 f n 0 n) w):=by
 have H:=qA h
 have HF:=qA hf
 obtain ⟨g,hg⟩:∃g,g=w.heap.size:=⟨_,rfl⟩
 obtain ⟨W1,hW1⟩:∃W1,W1=w.alloc (.cells zW 98):=⟨_,rfl⟩
 have HM:Hid (Wr W1 (g+1) g 0 [] 0∧g+1≤W1.heap.size∧Below w.heap.size w W1∧qY W1 p n f):=by
  have B1:Below w.heap.size w W1:=by rw [hW1];exact (Below.refl _ w).alloc (Nat.le_refl _) _
  refine ⟨?_,by rw [hW1,hg];simp,B1,h.below B1⟩
  rw [hg,hW1];exact gU (heap_alloc_new w _)
 have HP:Hid (∀a,p=some a→0<n→a.block<g):=fun a ha h0=>by
  obtain ⟨b,o,hp,hc⟩:=H.out h0
  rw [hp] at ha
  simp only [Option.some.injEq] at ha
  rw [←ha,hg]
  exact block_lt_of_cell (hc 0 h0)
 have HG:=qA hg
 clear h hf
 go_enter Tryz.func128,Tryz.ntmps128
 go_upto_region 1 with fail
 refine wp_region_list ?_
 refine wpList_build rfl 98 #[] rfl (by kernel_rfl) ?_
 simp only [Array.map_empty]
 rw [zJ]
 refine Go.Great.wpList_boxTo rfl 98 (.tmp 6) rfl (some 7) rfl g hg.symm zW rfl ?_
 rw [←hW1]
 clear hW1 hg
 go_wp2_with fail
 go_loopw [0] (fun t0 wr=>∃(i k:Nat) (pi:Option Addr) (ci:Nat),t0= .slice pi k ci∧Hid (i+k=n∧k≤ci∧qY W1 pi k (fun j=>f (i+j))∧(∀a,pi=some a→0<k→a.block<g)∧∃l,Wr wr (g+1) g 0 l 0∧qJ g 0 123 W1 wr∧l++rnB 64 f k i k=rnB 64 f n 0 n)) (fun t0 _=>vJ t0)
 case atStart=>exact ⟨0,n,p,cap,rfl,by omega,by omega,by simpa using HM.out.2.2.2,HP.out,[],HM.out.1,qJ.refl _ _ _ _,by simp⟩
 case round=>
  obtain ⟨i,k,pi,ci,rfl,hI⟩:=hrel
  match k with
  |0=>
   obtain ⟨hik,hci,hrow,hpb,l,hW,hO,hl⟩:=hI.out
   have hl':l=rnB 64 f n 0 n:=by rw [←hl];simp [rnB]
   rw [hl'] at hW
   have HW:=qA hW
   have HO:=qA hO
   clear hik hci hrow hpb hW hO hl hl'
   go_wp2_with fail
   refine (qW g 0 (g+1) wr _ HW.out (Nat.le_trans HM.out.2.1 HO.out.size) (by have:=qA0 f n 0 n;omega) _ rfl).mono ?_
   rintro e w3 ⟨rfl,G3,B3⟩
   go_wp2_with fail
   go_ret2
   have e3:=HM.out.2.2.1
   have e4:=HG.out
   have e5:=HO.out.below (B:=w.heap.size) (by omega) (by have:=e3.size;omega)
   refine ⟨wr.heap.size,((rnB 64 f n 0 n).length+7)/8,(packed_length _).symm,?_,rfl,G3,?_⟩
   ·have:=e5.size;have:=e3.size;omega
   ·exact (e3.trans e5).trans (B3.mono (by have:=e5.size;have:=e3.size;omega))
  |k+1=>
   obtain ⟨hik,hci,hrow,hpb,l,hW,hO,hl⟩:=hI.out
   obtain ⟨b,o,rfl,hc⟩:=hrow (by omega)
   have hbg:b<g:=hpb _ rfl (by omega)
   have hs1:=HM.out.2.1
   have hbw:wr.heap[b]?=W1.heap[b]?:=hO.block b (by omega) (by omega)
   have hcw:∀j,j<k+1→wr.cell? ⟨b,o+j,none⟩=some (.int .u64 (f (i+j):Int)):=fun j hj=>by rw [World.cell?_of_block (w:=W1) hbw];exact hc j hj
   obtain ⟨A,hA⟩:∃A,qI f (f i) i (k+1)=A:=⟨_,rfl⟩
   have hA1:0<A:=by rw [←hA];exact zY f i k
   have hA2:A≤k+1:=by rw [←hA];exact zH _ _ _ _
   have hAs:qI (fun j=>f (i+j)) ((fun j=>f (i+j)) 0) 0 (k+1)=A:=by rw [nX];exact hA
   obtain ⟨v,hv⟩:∃v,f i=v:=⟨_,rfl⟩
   have hvM:v<18446744073709551616:=by rw [←hv];exact HF.out i (by omega)
   have hll:l.length+144<1000000000000:=by
    have h1:=congrArg List.length hl
    rw [List.length_append] at h1
    have:=qA0 f n 0 n
    omega
   have EQ:=mL b o (k+1) ci (fun j=>f (i+j)) wr hcw (by omega) (by omega) hci
   rw [hAs] at EQ
   have c0:wr.cell? ⟨b,o,none⟩=some (.int .u64 (v:Int)):=by rw [←hv];exact hcw 0 (by omega)
   have HEQ:=qA EQ
   have HALL:=qA (And.intro hrow (And.intro hpb (And.intro hW (And.intro hO (And.intro hl (And.intro hA hv))))))
   have HC0:=qA c0
   have HCW:=qA hc
   clear hc EQ hrow hpb hW hO hl hA hv c0 hcw hbw hAs hI hs1
   have r1:IntKind.u64.wrap ((A:Int)-1)=((A-1:Nat):Int):=by rw [IntKind.wrap_u64];omega
   go_wp2_with fail
   refine HEQ.out.mono ?_
   rintro e w2 ⟨rfl,B2⟩
   have c0:w2.cell? ⟨b,o,none⟩=some (.int .u64 (v:Int)):=by rw [B2.cell (p:=⟨b,o,none⟩) (block_lt_of_cell HC0.out)];exact HC0.out
   have HB2:=qA B2
   clear B2
   have HW2:Hid (Wr w2 (g+1) g 0 l 0∧g+1≤w2.heap.size∧qJ g 0 123 W1 w2):=by
    have hO:=HALL.out.2.2.2.1
    have hs:=HB2.out.size
    have hg1:g<wr.heap.size:=by have:=hO.size;have:=HM.out.2.1;omega
    exact ⟨HALL.out.2.2.1.below HB2.out,by have:=hO.size;have:=HM.out.2.1;omega,hO.trans ⟨HB2.out.os,HB2.out.tape,HB2.out.output,hs,fun k hk _=>HB2.out.block k hk,fun j _=>HB2.out.cell (p:=⟨g,j,none⟩) hg1,fun j=>HB2.out.frozen (p:=⟨g,j,none⟩) hg1⟩⟩
   go_wp2_with fail
   refine (kS g 0 (g+1) v w2 _ HW2.out.1 (by omega) HW2.out.2.1 (by omega) hvM).mono ?_
   rintro e w3 ⟨rfl,W3,O3⟩
   have HW3:Hid (Wr w3 (g+1) g 0 (l++bitsOf v 64) 0∧g+1≤w3.heap.size∧qJ g 0 123 W1 w3):=⟨W3,by have:=O3.size;have:=HW2.out.2.1;omega,HW2.out.2.2.trans O3⟩
   clear W3 O3
   go_wp2_with fail
   refine (uA g 0 (g+1) (A-1) w3 _ HW3.out.1 (by omega) HW3.out.2.1 (by rw [List.length_append,bitsOf_length];omega) (by omega)).mono ?_
   rintro e w4 ⟨rfl,W4,O4⟩
   have HW4:Hid (Wr w4 (g+1) g 0 (l++bitsOf v 64++varB (A-1)) 0∧qJ g 0 123 W1 w4):=⟨W4,HW3.out.2.2.trans O4⟩
   clear W4 O4
   go_wp2_with fail
   go_roundw
   case rel=>
    refine ⟨i+A,k+1-A,_,ci-A,rfl,by omega,by omega,?_,?_,_,HW4.out.1,HW4.out.2,?_⟩
    ·intro h0
     exact ⟨b,o+A,by simp;omega,fun j hj=>by rw [show o+A+j=o+(A+j) from by omega,HCW.out (A+j) (by omega),show i+(A+j)=i+A+j from by omega]⟩
    ·intro a ha h0
     have hne:¬ci-A=0:=by omega
     first|(simp only [Option.some.injEq] at ha;rw [←ha];exact hbg)|(simp [hne] at ha;rw [←ha];exact hbg)|(split at ha<;>(simp only [Option.some.injEq] at ha;rw [←ha];exact hbg))|trace_state
    ·rw [←HALL.out.2.2.2.2.1]
     conv=>rhs;rw [rnB]
     rw [HALL.out.2.2.2.2.2.1,HALL.out.2.2.2.2.2.2,vH 64 f k (k+1-A) (i+A) (k+1-A) (by omega) (by omega)]
     simp only [List.append_assoc]
   case measure=>simp [vJ];omega
end Go.Proofs.YtkpmalfigmimaaaGreatDoor
namespace Go.Proofs.YtkpmalfigmimaaaGreatDoor
open Go.RowKit
open M
structure qLS (w wr:World) (b:Nat) (s:ByteArray) (n k a:Nat) (e1:Int) (f:Nat→Nat) (v:Value):Prop where
 own:wr.ownsRow (b+1) 36 1 v k (jT k f)
 rd:Rd wr b 0 s a e1
 bel:Below b w wr
 size:b+1≤wr.heap.size
 rng:∀i,i<k→f i<18446744073709551616
 full:∀h:Nat→Nat,(∀i,i<n→h i<18446744073709551616)→(∃r,rb s=rnB 64 h n 0 n++r)→e1=0∧(∃r,(rb s).drop a=rnB 64 h (n-k) k (n-k)++r)∧∀i,i<k→f i=h i
theorem qGO (h:Nat→Nat) (n k:Nat) (hk:k<n):∃A,0<A∧A≤n-k∧(∀i,i<A→h (k+i)=h k)∧rnB 64 h (n-k) k (n-k)=bitsOf (h k) 64++(varB (A-1)++rnB 64 h (n-(k+A)) (k+A) (n-(k+A))):=by
 obtain ⟨m,hm⟩:∃m,n-k=m+1:=⟨n-k-1,by omega⟩
 rw [hm]
 have h1:=zY h k m
 have h2:=zH h (h k) k (m+1)
 refine ⟨qI h (h k) k (m+1),h1,h2,fun i hi=>dH h (h k) k (m+1) i hi,?_⟩
 conv=>lhs;rw [rnB]
 rw [List.append_assoc,show n-(k+qI h (h k) k (m+1))=m+1-qI h (h k) k (m+1) from by omega,vH 64 h m (m+1-qI h (h k) k (m+1)) _ _ (by omega) (Nat.le_refl _)]
theorem mV (u:Value) (bs:List Nat) (n:Nat) (w:World) (h:jQ w u bs) (hb:∀n∈bs,n<256) (hl:bs.length≤1000000000000) (hn:n≤4096):
  Calls Tryz.prog 116 #[u,.int .i64 n] w (pD (fun f=>some (rnB 64 f n 0 n)) bs n w):=by
 have H:=qA h
 have HB:=qA hb
 have HL:=qA hl
 have hmk:=qBN n hn
 clear h hb hl
 go_enter Tryz.func116,Tryz.ntmps116
 go_wp2_with fail
 refine (kI w u bs H.out).mono ?_
 rintro e w1 ⟨rfl,hw1⟩
 have HR:Hid (Rd w1 w.heap.size 0 (qG bs) 0 0∧w1.heap.size=w.heap.size+1∧Below w.heap.size w w1):=by
  rw [hw1];exact ⟨xY w bs HL.out,by simp,(Below.refl _ _).alloc (Nat.le_refl _) _⟩
 clear hw1
 obtain ⟨b,hbw⟩:∃b,w.heap.size=b:=⟨_,rfl⟩
 have HBW:=qA hbw
 obtain ⟨g,hg⟩:∃g,w1.heap.size=g:=⟨_,rfl⟩
 have HA:Hid (qLS w (w1.alloc (.cells (Array.replicate n (Value.int .u64 0)) 36)) b (qG bs) n 0 0 0 (fun _=>0) (.slice (some ⟨g,0,none⟩) 0 n)):=by
  have hA:Below w1.heap.size w1 (w1.alloc (.cells (Array.replicate n (Value.int .u64 0)) 36)):=(Below.refl _ w1).alloc (Nat.le_refl _) _
  have hs:=HR.out.2.1
  refine ⟨?_,by rw [←hbw];exact HR.out.1.below hA (by omega),(by rw [←hbw];exact HR.out.2.2.trans (hA.mono (by omega))),by simp;omega,fun i hi=>by omega,fun h hr hB=>⟨rfl,by simpa using hB,fun i hi=>by omega⟩⟩
  rw [←hg]
  exact World.ownsRow_made w1 _ n (by omega) (by have:maxLen=9223372036854775807:=rfl;omega) (by simp)
 rw [hbw]
 clear hbw
 go_upto_region 3 with fail
 (try rw [hg])
 clear hg hmk
 generalize w1.alloc (.cells (Array.replicate n (Value.int .u64 0)) 36)=W0 at*
 have HU:Hid ((∀h,nI (fun f=>some (rnB 64 f n 0 n)) bs n h→0<n→(∀i,i<n→h i<18446744073709551616)∧∃r,rb (qG bs)=rnB 64 h n 0 n++r)):=fun h hL h0=>by
  obtain ⟨l,r,q1,q2⟩:=hL.2.2 h0
  simp only [Option.some.injEq] at q1
  exact ⟨hL.1,r,by rw [qU bs HB.out,q1];exact q2⟩
 go_loopw [7] (fun t7 wr=>∃(k a:Nat) (e1:Int) (f:Nat→Nat) (p:Option Addr) (cp:Nat),t7= .slice p k cp∧Hid (k≤n∧qLS w wr b (qG bs) n k a e1 f (.slice p k cp))) (fun t7 _=>n-vJ t7)
 case atStart=>exact ⟨0,0,0,_,_,_,rfl,Nat.zero_le _,HA.out⟩
 case round=>
  obtain ⟨k,a,e1,f,p,cp,rfl,hI⟩:=hrel
  by_cases hlt:k<n
  ·obtain ⟨i5,Hi⟩:=qFY
   have HI5:=qA Hi
   clear Hi
   go_wp2_with fail
   refine (kL b 0 (qG bs) a e1 wr hI.out.2.rd).mono ?_
   rintro e w2 ⟨x,a2,e2,rfl,hx,T⟩
   have HK2:Hid (Hk (fun y=>bitsOf y 64) (fun y=>y<2^64) wr w2 b 0 (qG bs) a e1 x a2 e2):=yW hI.out.2.rd.le hx T
   clear T
   go_wp2_with fail
   refine (dS b 0 (qG bs) a2 e2 w2 HK2.out.rd).mono ?_
   rintro e w3 ⟨y,a3,e3,rfl,hy,T3⟩
   have HK3:=qA T3
   clear T3
   have HO:Hid (qJ b 0 3 wr w3∧w3.ownsRow (b+1) 36 1 (.slice p k cp) k (jT k f)∧Below b w w3∧b+1≤w3.heap.size):=by
    have h1:=HK2.out.only.trans HK3.out.only
    have h2:=hI.out.2
    have h3:=h1.size
    have h4:=h2.size
    exact ⟨h1,jE h2.own (fun g hg1 hg2=>h1.block g hg2 (by omega)),h2.bel.trans (h1.below (Nat.le_refl _) (by omega)),by omega⟩
   have HF:Hid (∀h,nI (fun f=>some (rnB 64 f n 0 n)) bs n h→e3=0∧(∀i,i<k→f i=h i)∧∃A r,0<A∧A≤n-k∧x=h k∧y=A-1∧(∀i,i<A→h (k+i)=h k)∧(rb (qG bs)).drop a3=rnB 64 h (n-(k+A)) (k+A) (n-(k+A))++r):=fun h hL=>by
    obtain ⟨h1,h2⟩:=HU.out h hL (by omega)
    obtain ⟨h3,⟨r,h4⟩,h5⟩:=hI.out.2.full h h1 h2
    obtain ⟨A,hA1,hA2,hA3,hA4⟩:=qGO h n k hlt
    rw [hA4,List.append_assoc,List.append_assoc] at h4
    obtain ⟨q1,q2,q3⟩:=HK2.out.drop h3 (h k) _ (h1 k hlt) h4
    obtain ⟨q4,q5,q6⟩:=HK3.out.drop q2 (A-1) _ (by omega) q3
    exact ⟨q5,h5,A,r,hA1,hA2,q1,q4,hA3,q6⟩
   have HRNG:=qA hI.out.2.rng
   clear hI
   have e1:IntKind.u64.wrap ((n:Int)-(k:Int))=((n-k:Nat):Int):=by rw [IntKind.wrap_u64];omega
   obtain ⟨d,hd⟩:∃d,n-k=d:=⟨_,rfl⟩
   have hnk:n=k+d:=by omega
   by_cases hge:d≤y
   ·have hde:(y:Int)≥(d:Int):=by omega
    have HD:=qA hd
    rw [hd] at e1
    clear hd hnk
    go_wp2_with fail
    go_ret2
    refine .inl ⟨83,by decide,rfl,by rw [HBW.out];exact HO.out.2.2.1,fun h hL=>?_⟩
    obtain ⟨_,_,A,r,q1,q2,q3,q4,_⟩:=HF.out h hL
    have:=HD.out
    omega
   ·have hyd:y+1≤d:=by omega
    have hde:¬((y:Int)≥(d:Int)):=by omega
    have HD:=qA hd
    have HNK:=qA hnk
    rw [hd] at e1
    obtain ⟨c,hc⟩:∃c,y+1=c:=⟨_,rfl⟩
    have r2:IntKind.i64.wrap (y:Int)=(y:Int):=by rw [IntKind.wrap_i64];omega
    have r3:(y:Int)+1=(c:Int):=by omega
    have hd0:d≤4096:=by omega
    have hc0:0<c∧c≤d:=by omega
    have hx0:x<18446744073709551616:=hx
    obtain ⟨g3,hg3⟩:∃g3,w3.heap.size=g3:=⟨_,rfl⟩
    obtain ⟨W4,hW4⟩:∃W4,W4=w3.alloc (.cells #[.int .u64 (x:Int)] 36):=⟨_,rfl⟩
    have HW4:Hid (W4.cell? ⟨g3,0,none⟩=some (.int .u64 (x:Int))∧W4.heap.size=g3+1∧Below g3 w3 W4):=by
     refine ⟨by rw [←hg3,hW4];exact cell_of_row _ _ 0 _ _ _ (heap_alloc_new w3 _),by rw [hW4,←hg3];simp,by rw [hW4,←hg3];exact (Below.refl _ w3).alloc (Nat.le_refl _) _⟩
    have HCC:=qA hc
    clear hd hnk hc hx
    go_wp2_with fail
    (try rw [hg3])
    (try rw [←hW4])
    clear hW4
    refine (fY x c g3 0 1 W4 HW4.out.1 (by omega) (by omega)).mono ?_
    rintro e w5 ⟨rfl,hrow5,hB5⟩
    obtain ⟨g5,hg5⟩:∃g5,W4.heap.size=g5:=⟨_,rfl⟩
    rw [hg5] at hrow5 hB5⊢
    have HR5:Hid (w5.heap[g5]?=some (.cells (List.replicate c (Value.int .u64 (x:Int))).toArray 36 (0,0))∧Below g3 w3 w5∧g3≤w5.heap.size):=by
     have h1:=HW4.out.2.1
     have h2:=hB5.size
     exact ⟨hrow5,HW4.out.2.2.trans (hB5.mono (by omega)),by omega⟩
    have HOWN:Hid (w5.ownsRow (b+1) 36 1 (.slice p k cp) k (jT k f)):=jE HO.out.2.1 (fun g _ hg2=>HR5.out.2.1.block g (by omega))
    have HNEWS:Hid (∀(j:Nat) (u:Value),(List.replicate c (Value.int .u64 (x:Int)))[j]?=some u→w5.cell? ((⟨g5,0,none⟩:Addr).add j)=some u):=fun j u hu=>by
     rw [Addr.add_mid,Nat.zero_add,cell_of_row w5 g5 j _ _ _ HR5.out.1]
     rw [List.getElem?_toArray];exact hu
    have HG3:=qA hg3
    have hs5:b+1≤w5.heap.size:=by have:=HO.out.2.2.2;have:=HR5.out.2.2;omega
    clear hrow5 hB5 hg5 hg3
    go_wp2_with (at_builtin;refine wpList_append_lies _ rfl _ _ _ rfl (b+1) 36 i5 (.int .u64 0) 1 8 Tryz.underlying107 HI5.out.1 HI5.out.2.1 HI5.out.2.2.1 HI5.out.2.2.2 rfl (by decide) (.slice p k cp) k (jT k f) rfl HOWN.out ⟨g5,0,none⟩ c c (List.replicate c (Value.int .u64 (x:Int))) rfl (by simp) HNEWS.out (fun u hu=>by rw [List.eq_of_mem_replicate hu];rfl) (by omega) (by have:maxLen=9223372036854775807:=rfl;omega) (by omega) hs5 _ rfl ?_;intro g6 cap6 w6 hown6 hgrow6 hat6 hlt6)
    have HS6:Hid (qLS w w6 b (qG bs) n (k+c) a3 e3 (fun i=>if i<k then f i else x) (.slice (some ⟨g6,0,none⟩) (k+c) cap6)):=by
     have hB6:Below (b+1) w5 w6:=wV hgrow6 (fun g hg=>(HOWN.out.lt g hg).1) hs5
     have hB3:Below (b+1) w3 w6:=(HR5.out.2.1.mono (by have:=HO.out.2.2.2;have:=HG3.out;omega)).trans hB6
     have:=hB6.size
     refine ⟨by rw [←qC5];exact hown6,HK3.out.rd.below hB3 (by omega),HO.out.2.2.1.trans (hB3.mono (by omega)),by omega,fun i hi=>?_,fun h hr hB=>?_⟩
     ·by_cases h1:i<k
      ·simp only [h1,if_true];exact HRNG.out i h1
      ·simp only [h1,if_false];exact hx0
     ·obtain ⟨q0,q1,A,r,q2,q3,q4,q5,q6,q7⟩:=HF.out h ⟨hr,fun h0=>by omega,fun _=>⟨_,hB.choose,rfl,by rw [←qU bs HB.out];exact hB.choose_spec⟩⟩
      have hAc:A=c:=by have:=HCC.out;omega
      rw [hAc] at q6 q7
      refine ⟨q0,⟨r,q7⟩,fun i hi=>?_⟩
      by_cases h1:i<k
      ·simp only [h1,if_true];exact q1 i h1
      ·simp only [h1,if_false]
       have:=q6 (i-k) (by omega)
       rw [show k+(i-k)=i from by omega] at this
       rw [this,q4]
    clear hown6 hgrow6 hat6 hlt6
    go_wp2_with fail
    go_roundw
    case rel=>exact ⟨k+c,a3,e3,_,_,_,rfl,by have:=HNK.out;omega,HS6.out⟩
    case measure=>simp [vJ];omega
  ·have hk:k=n:=by have:=hI.out.1;omega
   have hI':Hid (qLS w wr b (qG bs) n n a e1 f (.slice p n cp)):=by have:=hI.out.2;rw [hk] at this;exact this
   subst hk
   clear hI
   go_wp2_with fail
   go_ret2
   refine .inr ⟨.slice p k cp,f,rfl,⟨hI'.out.own.mono (by have:=HBW.out;omega),(by rw [HBW.out];exact hI'.out.bel),Nat.le_refl _⟩,hI'.out.rng,fun h hL i hi=>?_⟩
   obtain ⟨h1,h2⟩:=HU.out h hL (by omega)
   exact (hI'.out.full h h1 h2).2.2 i hi
end Go.Proofs.YtkpmalfigmimaaaGreatDoor
namespace Go.Proofs.YtkpmalfigmimaaaGreatDoor
open Go.RowKit
open M
theorem qA8 (H M:Nat) (f:Nat→Nat) (n:Nat):(stB H M f n).length≤80*n:=by
 induction n with
 |zero=>simp [stB]
 |succ n ih=>
  rw [stB,List.length_append]
  have:=(vC 9 (zig (sgW H M (rsS M f n)))).2.2
  have e:(varB (zig (sgW H M (rsS M f n)))).length=(groups 9 (zig (sgW H M (rsS M f n)))).length:=rfl
  omega
theorem mN (p:Option Addr) (n cap:Nat) (f:Nat→Nat) (w:World) (h:qY w p n f) (hn:n≤4096) (hcap:n≤cap) (hf:∀i,i<n→f i<18446744073709551616):
  Calls Tryz.prog 130 #[.slice p n cap] w (zX (stB 9223372036854775808 18446744073709551616 f n) w):=by
 have H:=qA h
 have HF:=qA hf
 obtain ⟨g,hg⟩:∃g,g=w.heap.size:=⟨_,rfl⟩
 obtain ⟨W1,hW1⟩:∃W1,W1=w.alloc (.cells zW 98):=⟨_,rfl⟩
 have HM:Hid (Wr W1 (g+1) g 0 [] 0∧g+1≤W1.heap.size∧Below w.heap.size w W1∧qY W1 p n f):=by
  have B1:Below w.heap.size w W1:=by rw [hW1];exact (Below.refl _ w).alloc (Nat.le_refl _) _
  refine ⟨?_,by rw [hW1,hg];simp,B1,h.below B1⟩
  rw [hg,hW1];exact gU (heap_alloc_new w _)
 have HP:Hid (∀a,p=some a→0<n→a.block<g):=fun a ha h0=>by
  obtain ⟨b,o,hp,hc⟩:=H.out h0
  rw [hp] at ha
  simp only [Option.some.injEq] at ha
  rw [←ha,hg]
  exact block_lt_of_cell (hc 0 h0)
 have HG:=qA hg
 clear h hf
 go_enter Tryz.func130,Tryz.ntmps130
 go_upto_region 1 with fail
 refine wp_region_list ?_
 refine wpList_build rfl 98 #[] rfl (by kernel_rfl) ?_
 simp only [Array.map_empty]
 rw [zJ]
 refine Go.Great.wpList_boxTo rfl 98 (.tmp 7) rfl (some 8) rfl g hg.symm zW rfl ?_
 rw [←hW1]
 clear hW1 hg
 go_wp2_with fail
 go_loopw [11] (fun t11 wr=>∃k:Nat,t11= .int .i64 (k:Int)∧Hid (k≤n∧Wr wr (g+1) g 0 (stB 9223372036854775808 18446744073709551616 f k) 0∧qJ g 0 123 W1 wr)) (fun t11 _=>n-(intOf t11).toNat)
 case atStart=>exact ⟨0,rfl,Nat.zero_le _,HM.out.1,qJ.refl _ _ _ _⟩
 case round=>
  obtain ⟨k,rfl,hI⟩:=hrel
  by_cases hlt:k<n
  ·obtain ⟨rb0,ro,rfl,hc⟩:=HM.out.2.2.2 (by omega)
   have hrb:rb0<g:=HP.out _ rfl (by omega)
   obtain ⟨v,hv⟩:∃v,f k=v:=⟨_,rfl⟩
   have hs1:=HM.out.2.1
   have c1:wr.cell? ⟨rb0,ro+k,none⟩=some (.int .u64 (v:Int)):=by
    rw [World.cell?_of_block (w:=W1) (hI.out.2.2.block rb0 (by omega) (by omega)),←hv]
    exact hc k hlt
   have hvM:v<18446744073709551616:=by rw [←hv];exact HF.out k hlt
   have HV:=qA hv
   clear hv hc hs1
   go_wp2_with fail
   refine (vV (some ⟨rb0,ro,none⟩) k cap f wr (fun _=>⟨rb0,ro,rfl,fun i hi=>?_⟩) (by omega) (by omega) (fun i hi=>HF.out i (by omega))).mono ?_
   ·rw [World.cell?_of_block (w:=W1) (hI.out.2.2.block rb0 (by have:=HM.out.2.1;omega) (by omega))]
    obtain ⟨rb1,ro1,hp1,hc1⟩:=HM.out.2.2.2 (by omega)
    simp only [Option.some.injEq,Addr.mk.injEq] at hp1
    obtain ⟨rfl,rfl,_⟩:=hp1
    exact hc1 i (by omega)
   rintro e wd ⟨rfl,m,hwd⟩
   have heM:exS 18446744073709551616 f k<18446744073709551616:=lX _ _ (by omega) k fun j hj=>HF.out j (by omega)
   obtain ⟨E,hE⟩:∃E,exS 18446744073709551616 f k=E:=⟨_,rfl⟩
   have hr:IntKind.u64.wrap ((v:Int)-(E:Int))=(((v+18446744073709551616-E)%18446744073709551616:Nat):Int):=by rw [IntKind.wrap_u64];omega
   rw [hE] at heM⊢
   obtain ⟨X,hX⟩:∃X,(v+18446744073709551616-E)%18446744073709551616=X:=⟨_,rfl⟩
   have hXM:X<18446744073709551616:=by rw [←hX];exact Nat.mod_lt _ (by omega)
   rw [hX] at hr
   have HE:=qA (And.intro hE hX)
   have HD:Hid (Wr wd (g+1) g 0 (stB 9223372036854775808 18446744073709551616 f k) 0∧qJ g 0 123 W1 wd∧g+1≤wd.heap.size):=by
    rw [hwd]
    exact ⟨hI.out.2.1.below (w':=wr.drewN m) ⟨rfl,rfl,rfl,Nat.le_refl _,fun _ _=>rfl⟩,⟨hI.out.2.2.os,hI.out.2.2.tape,hI.out.2.2.output,hI.out.2.2.size,hI.out.2.2.block,hI.out.2.2.cell,hI.out.2.2.frozen⟩,Nat.le_trans HM.out.2.1 hI.out.2.2.size⟩
   clear hE hX hwd
   go_wp2_with fail
   refine (qA5 X wd hXM).mono ?_
   rintro e ws ⟨rfl,rfl⟩
   have hsr:=qA3 9223372036854775808 18446744073709551616 X (by omega) hXM
   go_wp2_with fail
   refine (nE g 0 (g+1) _ _ _ HD.out.1 (by omega) HD.out.2.2 (by have:=qA8 9223372036854775808 18446744073709551616 f k;omega) (by omega) (by omega)).mono ?_
   rintro e w3 ⟨rfl,W3,O3⟩
   go_wp2_with fail
   go_roundw
   case rel=>
    refine ⟨k+1,by simp,hlt,?_,HD.out.2.1.trans O3⟩
    rw [stB,rsS,HV.out,HE.out.1,HE.out.2];exact W3
   case measure=>simp [intOf];omega
  ·have hk:k=n:=by have:=hI.out.1;omega
   go_wp2_with fail
   refine (qW g 0 (g+1) wr _ hI.out.2.1 (Nat.le_trans HM.out.2.1 hI.out.2.2.size) (by have:=qA8 9223372036854775808 18446744073709551616 f k;omega) _ rfl).mono ?_
   rintro e w3 ⟨rfl,G3,B3⟩
   go_wp2_with fail
   go_ret2
   have e3:=HM.out.2.2.1
   have e4:=HG.out
   have e5:=hI.out.2.2.below (B:=w.heap.size) (by omega) (by have:=e3.size;omega)
   refine ⟨wr.heap.size,((stB 9223372036854775808 18446744073709551616 f n).length+7)/8,(packed_length _).symm,?_,rfl,(by first|exact G3|(rw [hk] at G3;exact G3)),?_⟩
   ·have:=e5.size;have:=e3.size;omega
   ·exact (e3.trans e5).trans (B3.mono (by have:=e5.size;have:=e3.size;omega))
end Go.Proofs.YtkpmalfigmimaaaGreatDoor
