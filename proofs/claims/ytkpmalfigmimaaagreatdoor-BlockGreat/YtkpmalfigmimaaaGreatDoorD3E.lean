import Derived.Test.YtkpmalfigmimaaaGreatDoorD2K
import Derived.Test.YtkpmalfigmimaaaGreatDoorD2O
import Derived.Test.YtkpmalfigmimaaaGreatDoorT1A
import Derived.Deep.Onto
import Derived.Test.YtkpmalfigmimaaaGreatDoorB1R
import Derived.Test.YtkpmalfigmimaaaGreatDoorD2I
import Derived.Test.YtkpmalfigmimaaaGreatDoorD2C
set_option linter.unusedVariables false
set_option linter.unusedSimpArgs false
set_option maxRecDepth 100000
set_option maxHeartbeats 8000000
namespace Go.Proofs.YtkpmalfigmimaaaGreatDoor
open Go.RowKit
open M
def vQ:Nat→(Nat→Int)→(Nat→Nat)→List Value
 |0,_,_=>[]
 |n+1,t,v=>vQ n t v++[.int .i64 (t n),.int .u64 (v n:Int)]
theorem zR (n:Nat) (t:Nat→Int) (v:Nat→Nat):(vQ n t v).length=n*2:=by
 induction n with
 |zero=>rfl
 |succ n ih=>simp only [vQ,List.length_append,ih,List.length_cons,List.length_nil];omega
theorem gU (n:Nat) (t:Nat→Int) (v:Nat→Nat) (i:Nat) (h:i<n):(vQ n t v)[i*2]?=some (.int .i64 (t i))∧(vQ n t v)[i*2+1]?=some (.int .u64 (v i:Int)):=by
 induction n with
 |zero=>omega
 |succ n ih=>
  simp only [vQ]
  by_cases e:i<n
  ·rw [List.getElem?_append_left (by rw [zR];omega),List.getElem?_append_left (by rw [zR];omega)]
   exact ih e
  ·obtain rfl:i=n:=by omega
   rw [List.getElem?_append_right (by rw [zR];omega),List.getElem?_append_right (by rw [zR];omega),zR,Nat.sub_self,show i*2+1-i*2=1 by omega]
   exact ⟨rfl,rfl⟩
theorem yD (n:Nat) {t t':Nat→Int} {v v':Nat→Nat} (ht:∀i,i<n→t i=t' i) (hv:∀i,i<n→v i=v' i):vQ n t v=vQ n t' v':=by
 induction n with
 |zero=>rfl
 |succ n ih=>simp only [vQ];rw [ih (fun i h=>ht i (by omega)) (fun i h=>hv i (by omega)),ht n (by omega),hv n (by omega)]
theorem qBP (n:Nat) (t:Nat→Int) (v:Nat→Nat) (i:Nat) (x:Int) (y:Nat) (h:i<n):((vQ n t v).set (i*2) (.int .i64 x)).set (i*2+1) (.int .u64 (y:Int))=vQ n (fun j=>if j=i then x else t j) (fun j=>if j=i then y else v j):=by
 induction n with
 |zero=>omega
 |succ n ih=>
  simp only [vQ]
  by_cases e:i<n
  ·rw [List.set_append_left _ _ (by rw [zR];omega),List.set_append_left _ _ (by rw [List.length_set,zR];omega),ih e,if_neg (by omega),if_neg (by omega)]
  ·obtain rfl:i=n:=by omega
   rw [List.set_append_right _ _ (by rw [zR];omega),List.set_append_right _ _ (by rw [zR];omega),zR,Nat.sub_self,show i*2+1-i*2=1 by omega,if_pos rfl,if_pos rfl,
    yD i (t':=fun j=>if j=i then x else t j) (v':=fun j=>if j=i then y else v j) (fun j h=>(if_neg (by omega)).symm) (fun j h=>(if_neg (by omega)).symm)]
   rfl
theorem qGW (n m:Nat) (t t':Nat→Int) (v v':Nat→Nat):vQ n t v++vQ m t' v'=vQ (n+m) (fun j=>if j<n then t j else t' (j-n)) (fun j=>if j<n then v j else v' (j-n)):=by
 induction m with
 |zero=>simp only [vQ,List.append_nil];exact yD n (fun i h=>(if_pos h).symm) (fun i h=>(if_pos h).symm)
 |succ m ih=>
  rw [←Nat.add_assoc]
  simp only [vQ]
  rw [←List.append_assoc,ih,if_neg (show ¬n+m<n by omega),if_neg (show ¬n+m<n by omega),Nat.add_sub_cancel_left]
theorem qCC (n:Nat) (t:Nat→Int) (v:Nat→Nat):∀u∈vQ n t v,u.oneCell'=true:=by
 induction n with
 |zero=>intro u hu;cases hu
 |succ n ih=>
  intro u hu
  simp only [vQ] at hu
  rcases List.mem_append.1 hu with h|h
  ·exact ih u h
  ·simp only [List.mem_cons,List.not_mem_nil,or_false] at h
   rcases h with rfl|rfl<;>rfl
structure OP (B:Nat) (w0:World) (n:Nat) (t:Nat→Int) (v:Nat→Nat) (u:Value) (wr:World):Prop where
 own:wr.ownsRow B 47 2 u n (vQ n t v)
 bel:Below B w0 wr
 le:B≤w0.heap.size
theorem OP.nil (w:World) (t:Nat→Int) (v:Nat→Nat):OP w.heap.size w 0 t v (.slice none 0 0) w:=⟨World.ownsRow_nil _ _ _ _,Below.refl _ _,Nat.le_refl _⟩
theorem OP.below {B n:Nat} {w0 wr w2:World} {t:Nat→Int} {v:Nat→Nat} {u:Value} (h:OP B w0 n t v u wr) (hB:Below wr.heap.size wr w2):OP B w0 n t v u w2:=
 ⟨pP h.own fun g hg=>hB.block g (h.own.lt g hg).2,h.bel.trans (hB.mono (Nat.le_trans h.le h.bel.size)),h.le⟩
theorem OP.congr {B n:Nat} {w0 wr:World} {t t':Nat→Int} {v v':Nat→Nat} {u:Value} (h:OP B w0 n t v u wr) (ht:∀i,i<n→t i=t' i) (hv:∀i,i<n→v i=v' i):OP B w0 n t' v' u wr:=
 ⟨by rw [←yD n ht hv];exact h.own,h.bel,h.le⟩
theorem OP.slice {B n:Nat} {w0 wr:World} {t:Nat→Int} {v:Nat→Nat} {u:Value} (h:OP B w0 n t v u wr):∃p cap,u= .slice p n cap:=by
 rcases h.own.2 with ⟨h1,h2⟩|⟨g,cap,cur,h1,_⟩
 ·subst h2;exact ⟨_,_,h1⟩
 ·exact ⟨_,_,h1⟩
theorem OP.row {B n cap:Nat} {w0 wr:World} {t:Nat→Int} {v:Nat→Nat} {p:Option Addr} (h:OP B w0 n t v (.slice p n cap) wr):yL wr p n t v:=by
 intro h0
 rcases h.own.2 with ⟨h1,h2⟩|⟨g,cap',cur,h1,_⟩
 ·omega
 ·simp only [Value.slice.injEq] at h1
  obtain ⟨rfl,_,rfl⟩:=h1
  refine ⟨g,0,rfl,fun i hi=>?_⟩
  have e:=gU n t v i hi
  have o:=h.own
  exact ⟨by rw [Nat.zero_add,o.cellAt (i*2) (by omega),e.1],by rw [Nat.zero_add,o.cellAt (i*2+1) (by omega),e.2]⟩
theorem OP.more {B n m:Nat} {w0 wr w4:World} {t t':Nat→Int} {v v':Nat→Nat} {u u2:Value} (h:OP B w0 n t v u wr) (ho:w4.ownsRow B 47 2 u2 (n+m) (vQ n t v++vQ m t' v')) (hg:wr.grownBy w4 u.ownBlock):OP B w0 (n+m) (fun j=>if j<n then t j else t' (j-n)) (fun j=>if j<n then v j else v' (j-n)) u2 w4:=
 ⟨by rw [←qGW];exact ho,h.bel.trans (qA6 hg (fun g hg=>(h.own.lt g hg).1) (Nat.le_trans h.le h.bel.size)),h.le⟩
theorem qI1:∃i,Tryz.prog.info? 47=some i∧i.zero=some (.agg #[.int .i64 0,.int .u64 0])∧i.size=2∧i.bytes=16:=by
 have hz:(Tryz.prog.info? 47).bind (·.zero)=some (.agg #[.int .i64 0,.int .u64 0]):=by kernel_rfl
 have hs:(Tryz.prog.info? 47).map (·.size)=some 2:=by kernel_rfl
 have hb:(Tryz.prog.info? 47).map (·.bytes)=some 16:=by kernel_rfl
 cases hi:Tryz.prog.info? 47 with
 |none=>simp [hi] at hs
 |some i=>
  simp only [hi,Option.bind_some,Option.map_some,Option.some.injEq] at hz hs hb
  exact ⟨i,rfl,hz,hs,hb⟩
theorem qC8 {w:World} {p:Option Addr} {n:Nat} {t:Nat→Int} {v:Nat→Nat} (h:yL w p n t v) (h0:0<n):∃ad:Addr,p=some ad∧∀j u,(vQ n t v)[j]?=some u→w.cell? (ad.add j)=some u:=by
 obtain ⟨b,o,rfl,hc⟩:=h h0
 refine ⟨_,rfl,fun j u hj=>?_⟩
 have hl:j<n*2:=by
  have:=(List.getElem?_eq_some_iff.1 hj).1
  rwa [zR] at this
 have e:j=j/2*2∨j=j/2*2+1:=by omega
 have hq:j/2<n:=by omega
 obtain ⟨q,hqq⟩:∃q,j/2=q:=⟨_,rfl⟩
 rw [hqq] at e hq
 rcases e with rfl|rfl
 ·rw [(gU n t v q hq).1] at hj
  obtain rfl:=Option.some.inj hj
  rw [Addr.add_mid]
  exact (hc q hq).1
 ·rw [(gU n t v q hq).2] at hj
  obtain rfl:=Option.some.inj hj
  rw [Addr.add_mid,←Nat.add_assoc]
  exact (hc q hq).2
theorem bO (p:Option Addr) (n cap:Nat) (t:Nat→Int) (v:Nat→Nat) (w:World) (h:yL w p n t v) (hl:n≤1000000) (hz:n=0→p=none∧cap=0):
  Calls Tryz.prog 9 #[.slice p n cap] w fun e w'=>∃v2,e= .returned v2∧OP w.heap.size w n t v v2 w':=by
 obtain ⟨i5,hi5⟩:=qI1
 have Hi:=qA hi5
 clear hi5
 have HO:Hid (OP w.heap.size w 0 t v (.slice none 0 0) w):=OP.nil w t v
 have HO1:Hid (w.ownsRow w.heap.size 47 2 (.slice none 0 0) 0 []):=World.ownsRow_nil _ _ _ _
 by_cases h0:n=0
 ·subst h0
  obtain ⟨rfl,rfl⟩:=hz rfl
  clear h hz
  go_enter Tryz.func9,Tryz.ntmps9
  go_wp2_with (at_builtin;refine wpList_append_own_none rfl _ _ _ rfl w.heap.size 47 i5 2 Tryz.underlying22 Hi.out.1 (.slice none 0 0) 0 [] rfl HO1.out rfl ?c6)
  go_ret
  exact ⟨_,rfl,HO.out⟩
 ·obtain ⟨ad,rfl,hnews⟩:=qC8 h (by omega)
  have HN:=qA hnews
  clear h hnews hz
  go_enter Tryz.func9,Tryz.ntmps9
  go_wp2_with (at_builtin;refine wpList_append_own _ rfl _ _ _ rfl w.heap.size 47 i5 (.agg #[.int .i64 0,.int .u64 0]) 2 16 Tryz.underlying22 Hi.out.1 Hi.out.2.1 Hi.out.2.2.1 Hi.out.2.2.2 rfl (by decide) (.slice none 0 0) 0 [] rfl HO1.out ad n cap (vQ n t v) rfl ?f2 ?f3 (qCC n t v) ?f4 ?f5 ?f7 ?f6)
  case f2=>exact zR n t v
  case f3=>exact HN.out
  case f4=>unfold maxLen;omega
  case f5=>omega
  case f7=>omega
  case f6=>
   intro v2 w2 ho2 hg2 _
   have HF:Hid (OP w.heap.size w n t v v2 w2):=by
    have h2:=HO.out.more (m:=n) (t':=t) (v':=v) (u2:=v2) (w4:=w2) (by rw [Nat.zero_add];exact ho2) hg2
    rw [Nat.zero_add] at h2
    exact h2.congr (fun i _=>by rw [if_neg (Nat.not_lt_zero _),Nat.sub_zero]) (fun i _=>by rw [if_neg (Nat.not_lt_zero _),Nat.sub_zero])
   clear ho2 hg2
   go_wp2_with fail
   go_ret
   exact ⟨_,rfl,HF.out⟩
end Go.Proofs.YtkpmalfigmimaaaGreatDoor
namespace Go.Proofs.YtkpmalfigmimaaaGreatDoor
open Go.RowKit
end Go.Proofs.YtkpmalfigmimaaaGreatDoor
namespace Go.Proofs.YtkpmalfigmimaaaGreatDoor
open Go.RowKit
open M
theorem OP.other {B n:Nat} {w0 wr:World} {t:Nat→Int} {v:Nat→Nat} {u:Value} (h:OP B w0 n t v u wr) (k i:Nat) (x:Value) (hk:u.ownBlock≠some k) (hB:B≤k):OP B w0 n t v u (wr.setCell ⟨k,i,none⟩ x):=
 ⟨pP h.own fun g hg=>heap_setCell_other _ _ _ _ (fun e=>hk (by rw [hg,e])),qH h.bel _ _ _ hB,h.le⟩
theorem OP.form {B n cap:Nat} {w0 wr:World} {t:Nat→Int} {v:Nat→Nat} {p:Option Addr} (h:OP B w0 n t v (.slice p n cap) wr) (hn:0<n):∃g,p=some ⟨g,0,none⟩:=by
 rcases h.own.2 with ⟨h1,h2⟩|⟨g,cap',cur,h1,_⟩
 ·omega
 ·simp only [Value.slice.injEq] at h1
  exact ⟨g,h1.1⟩
theorem OP.cells {B n cap g:Nat} {w0 wr:World} {t:Nat→Int} {v:Nat→Nat} (h:OP B w0 n t v (.slice (some ⟨g,0,none⟩) n cap) wr) (i:Nat) (hi:i<n):wr.cell? ⟨g,i*2,none⟩=some (.int .i64 (t i))∧wr.cell? ⟨g,i*2+1,none⟩=some (.int .u64 (v i:Int)):=by
 have e:=gU n t v i hi
 exact ⟨by rw [h.own.cellAt (i*2) (by omega),e.1],by rw [h.own.cellAt (i*2+1) (by omega),e.2]⟩
end Go.Proofs.YtkpmalfigmimaaaGreatDoor
namespace Go.Proofs.YtkpmalfigmimaaaGreatDoor
end Go.Proofs.YtkpmalfigmimaaaGreatDoor
namespace Go.Proofs.YtkpmalfigmimaaaGreatDoor
open Go.RowKit
open M
end Go.Proofs.YtkpmalfigmimaaaGreatDoor
namespace Go.Proofs.YtkpmalfigmimaaaGreatDoor
open Go.RowKit
open M
def qJZ (kind:Int) (n:Nat) (t:Nat→Int) (v:Nat→Nat) (w:World) (e:Ending) (w':World):Prop:=∃c:Int,e= .returned (.tuple #[.agg #[.int .i64 0,.int .i64 0,.int .i64 0,.int .i64 0,.int .i64 0,.int .u64 0,.int .u64 0,.int .i64 0,.int .i64 0,.int .i64 0,.int .i64 0,.slice none 0 0,.slice none 0 0],.int .i64 c])∧qEL kind n t v c∧c≠0∧Below w.heap.size w w'
theorem qBE (kind:Int) (p:Option Addr) (n cap:Nat) (t:Nat→Int) (v:Nat→Nat) (w:World) (h:yL w p n t v) (hn:n≤9223372036854775807) (hf:∀i,i<n→v i<18446744073709551616) (hG:¬sJ kind n t v):
  Calls Tryz.prog 22 #[.int .i64 kind,.slice p n cap] w (qJZ kind n t v w):=by
 obtain ⟨g,hg⟩:∃g,w.heap.size=g:=⟨_,rfl⟩
 obtain ⟨W1,hW1⟩:∃W1,w.alloc (.cells #[.int .i64 0,.int .i64 0,.int .i64 0,.int .i64 0,.int .i64 0,.int .u64 0,.int .u64 0,.int .i64 0,.int .i64 0,.int .i64 0,.int .i64 0,.slice none 0 0,.slice none 0 0] 62)=W1:=⟨_,rfl⟩
 have HR1:Hid (W1.heap[g]?=some (.cells #[.int .i64 0,.int .i64 0,.int .i64 0,.int .i64 0,.int .i64 0,.int .u64 0,.int .u64 0,.int .i64 0,.int .i64 0,.int .i64 0,.int .i64 0,.slice none 0 0,.slice none 0 0] 62 (0,0))∧Below w.heap.size w W1):=by rw [←hW1,←hg];exact ⟨heap_alloc_new _ _,(Below.refl _ _).alloc (Nat.le_refl _) _⟩
 have HRef:=qA (fun (w1:World) (hB:Below w.heap.size w w1)=>nW kind p n cap t v w1 (h.below hB) hn hf)
 have HGd:=qA hG
 clear h hf hG
 go_enter Tryz.func22,Tryz.ntmps22
 go_upto_region 1 with fail
 (try rw [hW1])
 (try rw [hg])
 have HG:=qA hg
 clear hW1 hg
 go_wp2_with fail
 refine (HRef.out W1 HR1.out.2).mono ?_
 rintro e w2 ⟨c,rfl,hc,B2⟩
 have hc0:¬c=0:=fun e0=>by
  subst e0
  rcases hc with ⟨e,_⟩|⟨e,_⟩|⟨e,_⟩|⟨e,_⟩|⟨_,hg⟩
  ·cases e
  ·cases e
  ·cases e
  ·cases e
  ·exact HGd.out hg
 have HC:=qA (And.intro hc hc0)
 have HW2:Hid (w2.heap[g]?=some (.cells #[.int .i64 0,.int .i64 0,.int .i64 0,.int .i64 0,.int .i64 0,.int .u64 0,.int .u64 0,.int .i64 0,.int .i64 0,.int .i64 0,.int .i64 0,.slice none 0 0,.slice none 0 0] 62 (0,0))∧Below w.heap.size w w2):=⟨by rw [B2.block g (qB HR1.out.1)];exact HR1.out.1,HR1.out.2.trans (B2.mono HR1.out.2.size)⟩
 clear hc B2 HR1 HRef
 have z0:w2.cell? ⟨g,0,none⟩=some (.int .i64 0):=by rw [cell_of_row _ _ _ _ _ _ HW2.out.1];rfl
 have y0:w2.frozen? ⟨g,0,none⟩=false:=frozen_of_row _ _ _ _ _ HW2.out.1
 have z1:w2.cell? ⟨g,1,none⟩=some (.int .i64 0):=by rw [cell_of_row _ _ _ _ _ _ HW2.out.1];rfl
 have y1:w2.frozen? ⟨g,1,none⟩=false:=frozen_of_row _ _ _ _ _ HW2.out.1
 have z2:w2.cell? ⟨g,2,none⟩=some (.int .i64 0):=by rw [cell_of_row _ _ _ _ _ _ HW2.out.1];rfl
 have y2:w2.frozen? ⟨g,2,none⟩=false:=frozen_of_row _ _ _ _ _ HW2.out.1
 have z3:w2.cell? ⟨g,3,none⟩=some (.int .i64 0):=by rw [cell_of_row _ _ _ _ _ _ HW2.out.1];rfl
 have y3:w2.frozen? ⟨g,3,none⟩=false:=frozen_of_row _ _ _ _ _ HW2.out.1
 have z4:w2.cell? ⟨g,4,none⟩=some (.int .i64 0):=by rw [cell_of_row _ _ _ _ _ _ HW2.out.1];rfl
 have y4:w2.frozen? ⟨g,4,none⟩=false:=frozen_of_row _ _ _ _ _ HW2.out.1
 have z5:w2.cell? ⟨g,5,none⟩=some (.int .u64 0):=by rw [cell_of_row _ _ _ _ _ _ HW2.out.1];rfl
 have y5:w2.frozen? ⟨g,5,none⟩=false:=frozen_of_row _ _ _ _ _ HW2.out.1
 have z6:w2.cell? ⟨g,6,none⟩=some (.int .u64 0):=by rw [cell_of_row _ _ _ _ _ _ HW2.out.1];rfl
 have y6:w2.frozen? ⟨g,6,none⟩=false:=frozen_of_row _ _ _ _ _ HW2.out.1
 have z7:w2.cell? ⟨g,7,none⟩=some (.int .i64 0):=by rw [cell_of_row _ _ _ _ _ _ HW2.out.1];rfl
 have y7:w2.frozen? ⟨g,7,none⟩=false:=frozen_of_row _ _ _ _ _ HW2.out.1
 have z8:w2.cell? ⟨g,8,none⟩=some (.int .i64 0):=by rw [cell_of_row _ _ _ _ _ _ HW2.out.1];rfl
 have y8:w2.frozen? ⟨g,8,none⟩=false:=frozen_of_row _ _ _ _ _ HW2.out.1
 have z9:w2.cell? ⟨g,9,none⟩=some (.int .i64 0):=by rw [cell_of_row _ _ _ _ _ _ HW2.out.1];rfl
 have y9:w2.frozen? ⟨g,9,none⟩=false:=frozen_of_row _ _ _ _ _ HW2.out.1
 have z10:w2.cell? ⟨g,10,none⟩=some (.int .i64 0):=by rw [cell_of_row _ _ _ _ _ _ HW2.out.1];rfl
 have y10:w2.frozen? ⟨g,10,none⟩=false:=frozen_of_row _ _ _ _ _ HW2.out.1
 have z11:w2.cell? ⟨g,11,none⟩=some (.slice none 0 0):=by rw [cell_of_row _ _ _ _ _ _ HW2.out.1];rfl
 have y11:w2.frozen? ⟨g,11,none⟩=false:=frozen_of_row _ _ _ _ _ HW2.out.1
 have z12:w2.cell? ⟨g,12,none⟩=some (.slice none 0 0):=by rw [cell_of_row _ _ _ _ _ _ HW2.out.1];rfl
 have y12:w2.frozen? ⟨g,12,none⟩=false:=frozen_of_row _ _ _ _ _ HW2.out.1
 have HFR:Hid ((((((((((((((w2.setCell ⟨g,0,none⟩ (.int .i64 0)).setCell ⟨g,1,none⟩ (.int .i64 0)).setCell ⟨g,2,none⟩ (.int .i64 0)).setCell ⟨g,3,none⟩ (.int .i64 0)).setCell ⟨g,4,none⟩ (.int .i64 0)).setCell ⟨g,5,none⟩ (.int .u64 0)).setCell ⟨g,6,none⟩ (.int .u64 0)).setCell ⟨g,7,none⟩ (.int .i64 0)).setCell ⟨g,8,none⟩ (.int .i64 0)).setCell ⟨g,9,none⟩ (.int .i64 0)).setCell ⟨g,10,none⟩ (.int .i64 0)).setCell ⟨g,11,none⟩ (.slice none 0 0)).setCell ⟨g,12,none⟩ (.slice none 0 0)).heap[g]?=some (.cells #[.int .i64 0,.int .i64 0,.int .i64 0,.int .i64 0,.int .i64 0,.int .u64 0,.int .u64 0,.int .i64 0,.int .i64 0,.int .i64 0,.int .i64 0,.slice none 0 0,.slice none 0 0] 62 (0,0))∧Below w.heap.size w (((((((((((((w2.setCell ⟨g,0,none⟩ (.int .i64 0)).setCell ⟨g,1,none⟩ (.int .i64 0)).setCell ⟨g,2,none⟩ (.int .i64 0)).setCell ⟨g,3,none⟩ (.int .i64 0)).setCell ⟨g,4,none⟩ (.int .i64 0)).setCell ⟨g,5,none⟩ (.int .u64 0)).setCell ⟨g,6,none⟩ (.int .u64 0)).setCell ⟨g,7,none⟩ (.int .i64 0)).setCell ⟨g,8,none⟩ (.int .i64 0)).setCell ⟨g,9,none⟩ (.int .i64 0)).setCell ⟨g,10,none⟩ (.int .i64 0)).setCell ⟨g,11,none⟩ (.slice none 0 0)).setCell ⟨g,12,none⟩ (.slice none 0 0))):=⟨nS _ _ _ _ _ _ _ _ _ _ _ _ _ _ _ _ _ _ _ _ _ _ _ _ _ _ _ _ _ HW2.out.1,vN HW2.out.2 _ _ _ _ _ _ _ _ _ _ _ _ _ _ (Nat.le_of_eq HG.out)⟩
 clear HW2
 go_wp2_with fail
 generalize (((((((((((((w2.setCell ⟨g,0,none⟩ (.int .i64 0)).setCell ⟨g,1,none⟩ (.int .i64 0)).setCell ⟨g,2,none⟩ (.int .i64 0)).setCell ⟨g,3,none⟩ (.int .i64 0)).setCell ⟨g,4,none⟩ (.int .i64 0)).setCell ⟨g,5,none⟩ (.int .u64 0)).setCell ⟨g,6,none⟩ (.int .u64 0)).setCell ⟨g,7,none⟩ (.int .i64 0)).setCell ⟨g,8,none⟩ (.int .i64 0)).setCell ⟨g,9,none⟩ (.int .i64 0)).setCell ⟨g,10,none⟩ (.int .i64 0)).setCell ⟨g,11,none⟩ (.slice none 0 0)).setCell ⟨g,12,none⟩ (.slice none 0 0))=WF at*
 have u0:WF.cell? ⟨g,0,none⟩=some (.int .i64 0):=by rw [cell_of_row _ _ _ _ _ _ HFR.out.1];rfl
 have u1:WF.cell? ⟨g,1,none⟩=some (.int .i64 0):=by rw [cell_of_row _ _ _ _ _ _ HFR.out.1];rfl
 have u2:WF.cell? ⟨g,2,none⟩=some (.int .i64 0):=by rw [cell_of_row _ _ _ _ _ _ HFR.out.1];rfl
 have u3:WF.cell? ⟨g,3,none⟩=some (.int .i64 0):=by rw [cell_of_row _ _ _ _ _ _ HFR.out.1];rfl
 have u4:WF.cell? ⟨g,4,none⟩=some (.int .i64 0):=by rw [cell_of_row _ _ _ _ _ _ HFR.out.1];rfl
 have u5:WF.cell? ⟨g,5,none⟩=some (.int .u64 0):=by rw [cell_of_row _ _ _ _ _ _ HFR.out.1];rfl
 have u6:WF.cell? ⟨g,6,none⟩=some (.int .u64 0):=by rw [cell_of_row _ _ _ _ _ _ HFR.out.1];rfl
 have u7:WF.cell? ⟨g,7,none⟩=some (.int .i64 0):=by rw [cell_of_row _ _ _ _ _ _ HFR.out.1];rfl
 have u8:WF.cell? ⟨g,8,none⟩=some (.int .i64 0):=by rw [cell_of_row _ _ _ _ _ _ HFR.out.1];rfl
 have u9:WF.cell? ⟨g,9,none⟩=some (.int .i64 0):=by rw [cell_of_row _ _ _ _ _ _ HFR.out.1];rfl
 have u10:WF.cell? ⟨g,10,none⟩=some (.int .i64 0):=by rw [cell_of_row _ _ _ _ _ _ HFR.out.1];rfl
 have u11:WF.cell? ⟨g,11,none⟩=some (.slice none 0 0):=by rw [cell_of_row _ _ _ _ _ _ HFR.out.1];rfl
 have u12:WF.cell? ⟨g,12,none⟩=some (.slice none 0 0):=by rw [cell_of_row _ _ _ _ _ _ HFR.out.1];rfl
 exact bodyPost_ret (v:= .tuple #[.agg #[.int .i64 0,.int .i64 0,.int .i64 0,.int .i64 0,.int .i64 0,.int .u64 0,.int .u64 0,.int .i64 0,.int .i64 0,.int .i64 0,.int .i64 0,.slice none 0 0,.slice none 0 0],.int .i64 c]) (by simp [results,Tryz.results22,go_sem,u0,u1,u2,u3,u4,u5,u6,u7,u8,u9,u10,u11,u12]) rfl ⟨c,rfl,HC.out.1,HC.out.2,HFR.out.2⟩
theorem dP (kind:Int) (p:Option Addr) (n cap:Nat) (t:Nat→Int) (v:Nat→Nat) (w:World) (h:yL w p n t v) (hn:n≤9223372036854775807) (hf:∀i,i<n→v i<18446744073709551616) (hG:¬sJ kind n t v):
  Calls Tryz.prog 8 #[.int .i64 kind,.slice p n cap] w fun e w'=>∃c:Int,e= .returned (.tuple #[.slice none 0 0,.int .i64 c])∧qEL kind n t v c∧c≠0∧Below w.heap.size w w':=by
 have HP:=qA (qBE kind p n cap t v w h hn hf hG)
 clear h hf hG
 go_enter Tryz.func8,Tryz.ntmps8
 go_wp2_with fail
 refine HP.out.mono ?_
 rintro e w2 ⟨c,rfl,hc,hc0,B2⟩
 have HC:=qA (And.intro hc hc0)
 have HB:=qA (B2.alloc B2.size (.cells #[.int .i64 0,.int .i64 0,.int .i64 0,.int .i64 0,.int .i64 0,.int .u64 0,.int .u64 0,.int .i64 0,.int .i64 0,.int .i64 0,.int .i64 0,.slice none 0 0,.slice none 0 0] 62))
 clear hc B2
 go_wp2_with fail
 go_ret2
 exact ⟨c,rfl,HC.out.1,HC.out.2,HB.out⟩
end Go.Proofs.YtkpmalfigmimaaaGreatDoor
namespace Go.Proofs.YtkpmalfigmimaaaGreatDoor
open Go.RowKit
open M
structure qAG (kd m:Nat) (t:Nat→Int) (v:Nat→Nat) (co:Nat) (vb:List Nat):Prop where
 good:sJ kd (m+1) t v
 ti:∀i,i<m+1→I64 (t i)
 va:∀i,i<m+1→v i<18446744073709551616
 val:xY kd (m+1) v co vb
 by_:∀n∈vb,n<256
theorem qAG.len {kd m:Nat} {t:Nat→Int} {v:Nat→Nat} {co:Nat} {vb:List Nat} (h:qAG kd m t v co vb):(mK kd (m+1) t v co vb).length=(packed (tbn t (m+1))).length+vb.length+55∧(packed (tbn t (m+1))).length≤100000∧vb.length≤100000:=by
 have hvl:=xL kd (m+1) v co vb h.va h.val
 have htl:=xP t (m+1)
 have hhi:=h.good.hi
 exact ⟨mQ kd m t v co vb,by omega,by omega⟩
end Go.Proofs.YtkpmalfigmimaaaGreatDoor
namespace Go.Proofs.YtkpmalfigmimaaaGreatDoor
open Go.RowKit
open M
theorem qAG.bound {kd m:Nat} {t:Nat→Int} {v:Nat→Nat} {co:Nat} {vb:List Nat} (h:qAG kd m t v co vb):55≤(mK kd (m+1) t v co vb).length∧(mK kd (m+1) t v co vb).length≤1000000:=by
 have:=h.len;omega
theorem pQ {w:World} {g:Nat} {bs:List Nat} {ty:TypeId} (h:w.heap[g]?=some (.cells (qS bs).toArray ty (0,0))):qU w g 0 bs:=fun i hi=>by
 rw [Nat.zero_add,cell_of_row _ _ _ _ _ _ h];simp [qS,List.getD,hi]
theorem qDU {kd m:Nat} {t:Nat→Int} {v:Nat→Nat} {co:Nat} {vb:List Nat} (h:qAG kd m t v co vb) (b n cap:Nat) (w:World) (hn:n=(mK kd (m+1) t v co vb).length) (hc:qU w b 0 (mK kd (m+1) t v co vb)) (hcap:n≤cap) (hcap2:cap≤9223372036854775807) (hT:qQ w) (hC:nO w):
  Calls Tryz.prog 10 #[.slice (some ⟨b,0,none⟩) n cap] w (rT kd (m+1) t v w):=by
 have hb:=h.bound
 obtain ⟨K,rfl⟩:∃K,cap=K+51:=⟨cap-51,by omega⟩
 exact nD kd m t v co vb b 0 n K w hc hn hcap (by omega) h.good h.ti h.va h.val h.by_ hT hC
theorem qFP {kd m:Nat} {t:Nat→Int} {v:Nat→Nat} {co:Nat} {vb:List Nat} (h:qAG kd m t v co vb) (b n cap:Nat) (w:World) (hn:(mK kd (m+1) t v co vb).length≤n) (hc:qU w b 0 (mK kd (m+1) t v co vb)) (hcap:n≤cap) (hn2:n≤1000000000) (hC:nO w):
  Calls Tryz.prog 12 #[.slice (some ⟨b,0,none⟩) n cap] w (sB kd m t v (mK kd (m+1) t v co vb).length w):=by
 have hb:=h.bound
 exact fH kd m t v co vb b 0 n cap w hc (by omega) hcap (by omega) h.good h.ti h.va h.val hC
end Go.Proofs.YtkpmalfigmimaaaGreatDoor
namespace Go.Proofs.YtkpmalfigmimaaaGreatDoor
open Go.RowKit
open M
theorem qDA (k:Int) (T t G:Nat) (hT:T=1074) (ht:t=149) (hG:G=925) (hgg:Flt.gapE=G) (hk:k.natAbs<16777216):floatOfInt .f64 k<18446744073709551616∧wid (gR (floatOfInt .f64 k))=floatOfInt .f64 k:=by
 obtain ⟨R,hR⟩:=Flt.repr Ieee.single k.natAbs t (show k.natAbs<2*Ieee.single.binade from hk)
 have hRi:R<Ieee.single.infRung:=by
  rw [←Flt.V_lt_iff (f:=Ieee.single),hR,Flt.V_inf Ieee.single (by decide)]
  refine Nat.lt_of_lt_of_le (Nat.mul_lt_mul_of_pos_right (show k.natAbs<2^24 from hk) (Nat.two_pow_pos _)) ?_
  rw [←Nat.pow_add]
  exact Nat.pow_le_pow_right (by omega) (by rw [ht];decide)
 have hR2:R<2139095040:=by rw [qB7] at hRi;exact hRi
 obtain ⟨s,hs⟩:∃s,decide (k<0)=s:=⟨_,rfl⟩
 obtain ⟨f,hf⟩:∃f,Ieee.single.word s R=f:=⟨_,rfl⟩
 have hfe:f=s.toNat*2147483648+R:=by rw [←hf];exact qHX s R (by omega)
 have hst:s.toNat≤1:=by cases s<;>decide
 have hfl:f<4294967296:=by omega
 have hfm:f%2147483648=R:=by omega
 obtain ⟨R',_,_,⟨h1,h2⟩,_⟩:=Flt.widened f (by rw [qJN,hfm];exact hRi)
 rw [qJN,hfm,hR,hgg,Nat.mul_assoc,←Nat.pow_add] at h2
 rw [jM] at h1
 have hx:floatOfInt .f64 k=Ieee.double.word s R':=by
  have hl:Ieee.double.leastPlace= -(T:Int):=by rw [hT];decide
  show Ieee.double.nearest (decide (k<0)) k.natAbs 0=_
  rw [hs]
  refine Flt.nearest_exact _ _ _ _ _ (by rw [jM];omega) ?_
  rw [hl,h2,show (0- -(T:Int)).toNat=T by omega,show (-(T:Int)-0).toNat=0 by omega,Nat.pow_zero,Nat.mul_one,show t+G=T by omega]
 obtain ⟨x1,x2,x3⟩:=tV s R' (by omega)
 rw [hx]
 generalize Ieee.double.word s R'=x at*
 have hv:f%2147483648<2139095040→Flt.V Ieee.double (x%9223372036854775808)=Flt.V Ieee.single (f%2147483648)*2^Flt.gapE:=fun _=>by
  rw [x2,hfm,h2,hR,hgg,Nat.mul_assoc,←Nat.pow_add]
 have e1:=qH3 f x hfl (by omega) (by rw [x3];omega) (by omega) hv
 have e2:=qFH f x hfl (by omega) (by rw [x3];omega) (by omega) hv
 refine ⟨x1,?_⟩
 unfold gR
 rw [if_neg (by omega),e1,e2]
def gT (i:Nat):Int:=if i=4095 then 9223372036854775807 else -9223372036854775808+(i:Int)*4503599627370496
def gF (i:Nat):Nat:=floatOfInt .f64 ((i:Int)-5)
def gV (x:Nat) (i:Nat):Nat:=if i=0 then x else gF i
theorem qJW (i:Nat) (h:i<4096):gF i<18446744073709551616∧wid (gR (gF i))=gF i:=
 qDA _ 1074 149 925 rfl rfl rfl rfl (by omega)
theorem qJA (n:Nat) (h:n≤4096):Rises gT n:=fun i hi=>by
 unfold gT
 rw [if_neg (show ¬i=4095 by omega)]
 split<;>omega
theorem qJS (i:Nat) (h:i<4096):I64 (gT i):=by
 unfold gT I64
 split
 ·decide
 ·omega
theorem qHE (x i:Nat) (hx:x<18446744073709551616) (h:i<4096):gV x i<18446744073709551616:=by
 unfold gV;split
 ·exact hx
 ·exact (qJW i h).1
theorem qHQ:sJ ((1:Nat):Int) (4095+1) gT (gV 9218868437227405313):=⟨.inl rfl,by omega,by omega,qJA _ (by omega),fun h=>by cases h⟩
theorem qCA:sJ ((2:Nat):Int) (4095+1) gT (gV 9223372036854775808):=⟨.inr rfl,by omega,by omega,qJA _ (by omega),fun _ i hi=>by
 unfold gV;split
 ·decide +kernel
 ·exact (qJW i hi).2⟩
theorem qKV:¬sJ 2 4096 gT (gV 9218868437227405313):=fun h=>by
 have:=h.nar rfl 0 (by omega)
 have h2:¬wid (gR 9218868437227405313)=9218868437227405313:=by decide +kernel
 exact h2 this
end Go.Proofs.YtkpmalfigmimaaaGreatDoor
