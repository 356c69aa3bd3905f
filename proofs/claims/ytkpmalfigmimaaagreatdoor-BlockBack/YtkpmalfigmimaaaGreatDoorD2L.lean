import Derived.Test.YtkpmalfigmimaaaGreatDoorZ0
import Derived.Test.YtkpmalfigmimaaaGreatDoorD2J
import Derived.Deep.CutBlock
import Derived.Deep.DeepCutAuto
import Derived.Deep.CutRange
import Derived.Test.YtkpmalfigmimaaaGreatDoorD2F
set_option linter.unusedVariables false
set_option linter.unusedSimpArgs false
set_option maxRecDepth 100000
set_option maxHeartbeats 8000000
namespace Go.Proofs.YtkpmalfigmimaaaGreatDoor
open Go.RowKit
open M
def ptN (n:Nat):Array Value:=madeCells (Value.agg #[.int .i64 0,.int .u64 0]).cells (n*2)
theorem qIJ (n i:Nat) (h:i<n):(ptN n)[i*2]?=some (.int .i64 0)∧(ptN n)[i*2+1]?=some (.int .u64 0):=by
 unfold ptN
 have e0:i*2%2=0:=by omega
 have e1:(i*2+1)%2=1:=by omega
 constructor
 ·simp [madeCells,Value.cells,h]
 ·simp [madeCells,Value.cells,e1,show i*2+1<n*2 by omega]
theorem qB8 (c:Nat) (h:c≤4096) (w:World):
  (Instr.makeSlice 22 (.int .i64 (c:Int)) (.int .i64 (c:Int))).run Tryz.prog w= .ok (.slice (some ⟨w.heap.size,0,none⟩) c c) (w.alloc (.cells (ptN c) 47)):=by
 have hz:(Tryz.prog.info? 47).bind (·.zero)=some (.agg #[.int .i64 0,.int .u64 0]):=by kernel_rfl
 have hs:(Tryz.prog.info? 47).map (·.size)=some 2:=by kernel_rfl
 have hb:(Tryz.prog.info? 47).map (·.bytes)=some 16:=by kernel_rfl
 cases hi:Tryz.prog.info? 47 with
 |none=>simp [hi] at hs
 |some i=>
  simp only [hi,Option.bind_some,Option.map_some,Option.some.injEq] at hz hs hb
  rw [run_make w 22 47 i _ Tryz.underlying22 hi hz .i64 .i64 (c:Int) (c:Int) (by omega) (by omega) (by rw [hb];omega) (by omega)]
  rw [hs];simp [ptN]
structure PW (w:World) (g n k:Nat) (t:Nat→Int) (v:Nat→Nat):Prop where
 c1:∀i,i<n→w.cell? ⟨g,i*2,none⟩=some (.int .i64 (if i<k then t i else 0))
 c2:∀i,i<n→w.cell? ⟨g,i*2+1,none⟩=some (.int .u64 ((if i<k then v i else 0:Nat):Int))
 fz:∀j,w.frozen? ⟨g,j,none⟩=false
 blk:∃cur:Array Value,w.heap[g]?=some (.cells cur 47 (0,0))
theorem PW.new (w:World) (n:Nat) (t:Nat→Int) (v:Nat→Nat):PW (w.alloc (.cells (ptN n) 47)) w.heap.size n 0 t v:=by
 have hn:=heap_alloc_new w (.cells (ptN n) 47)
 refine ⟨fun i hi=>?_,fun i hi=>?_,fun i=>frozen_of_row _ _ _ _ _ hn,_,hn⟩
 ·rw [cell_of_row _ _ _ _ _ _ hn,(qIJ n i hi).1];rfl
 ·rw [cell_of_row _ _ _ _ _ _ hn,(qIJ n i hi).2];rfl
theorem PW.set {w:World} {g n k:Nat} {t:Nat→Int} {v:Nat→Nat} (h:PW w g n k t v) (hk:k<n):PW ((w.setCell ⟨g,k*2,none⟩ (.int .i64 (t k))).setCell ⟨g,k*2+1,none⟩ (.int .u64 (v k:Int))) g n (k+1) t v:=by
 refine ⟨fun i hi=>?_,fun i hi=>?_,fun i=>by rw [qE,qE];exact h.fz i,?_⟩
 ·rw [qC _ _ _ _ _ (by omega)]
  by_cases e:i=k
  ·subst e
   rw [qF _ _ _ _ _ (h.c1 i hi)];simp
  ·rw [qC _ _ _ _ _ (by omega),h.c1 i hi]
   by_cases h1:i<k
   ·simp [h1,show i<k+1 from by omega]
   ·simp [h1,show ¬i<k+1 from by omega]
 ·by_cases e:i=k
  ·subst e
   rw [qF _ _ _ _ (.int .u64 ((if i<i then v i else 0:Nat):Int)) (by rw [qC _ _ _ _ _ (by omega)];exact h.c2 i hi)];simp
  ·rw [qC _ _ _ _ _ (by omega),qC _ _ _ _ _ (by omega),h.c2 i hi]
   by_cases h1:i<k
   ·simp [h1,show i<k+1 from by omega]
   ·simp [h1,show ¬i<k+1 from by omega]
 ·obtain ⟨cur,h1⟩:=h.blk
  exact ⟨_,heap_setCell_same _ _ _ _ _ _ (heap_setCell_same _ _ _ _ _ _ h1)⟩
theorem PW.drew {w:World} {g n k:Nat} {t:Nat→Int} {v:Nat→Nat} (h:PW w g n k t v):PW w.drew g n k t v:=⟨h.c1,h.c2,h.fz,h.blk⟩
theorem PW.row {w:World} {g n:Nat} {t:Nat→Int} {v:Nat→Nat} (h:PW w g n n t v):uB w (some ⟨g,0,none⟩) n t v:=fun _=>
 ⟨g,0,rfl,fun i hi=>⟨by rw [Nat.zero_add,h.c1 i hi,if_pos hi],by rw [Nat.zero_add,h.c2 i hi,if_pos hi]⟩⟩
def qIA (n:Nat) (t:Nat→Int) (v:Nat→Nat) (w:World) (e:Ending) (w':World):Prop:=∃g,e= .returned (.tuple #[.slice (some ⟨g,0,none⟩) n n,.int .i64 0])∧uB w' (some ⟨g,0,none⟩) n t v∧Below w.heap.size w w'
theorem qBG (kd co m na le gr ti va ct cv:Nat) (pt pv:Option Addr) (fi la:Int) (t:Nat→Int) (v:Nat→Nat) (tb vb:List Nat) (w:World) (hG:qEE kd (m+1) t v) (ht:∀i,i<m+1→I64 (t i)) (hf:∀i,i<m+1→v i<18446744073709551616) (hval:yE kd (m+1) v co vb) (htb:packed (tbn t (m+1))=tb) (hti:ti=tb.length) (hva:va=vb.length)
  (hna:na=kO v (m+1)) (hfi:fi=t 0) (hla:la=t m) (hle:le=leV v (m+1)) (hgr:gr=grV v (m+1)) (hT1:jW w (.slice pt ti ct) tb) (hV1:jW w (.slice pv va cv) vb) (hvb:∀n∈vb,n<256) (hT:qT w):
  Calls Tryz.prog 28 #[.agg #[.int .i64 (kd:Int),.int .i64 ((m:Int)+1),.int .i64 (na:Int),.int .i64 fi,.int .i64 la,.int .u64 (le:Int),.int .u64 (gr:Int),.int .i64 ((ti:Int)+(va:Int)+55),.int .i64 (co:Int),.int .i64 (ti:Int),.int .i64 (va:Int),.slice pt ti ct,.slice pv va cv]] w (qIA (m+1) t v w):=by
 have hn:m+1≤4096:=hG.hi
 have hvl:=xS kd (m+1) v co vb hf hval
 have htl:=xR t (m+1)
 rw [htb] at htl
 obtain ⟨q,hq⟩:∃q,w.heap.size=q:=⟨_,rfl⟩
 obtain ⟨W1,hW1⟩:∃W1,w.alloc (.cells #[.int .i64 (kd:Int),.int .i64 ((m:Int)+1),.int .i64 (na:Int),.int .i64 fi,.int .i64 la,.int .u64 (le:Int),.int .u64 (gr:Int),.int .i64 ((ti:Int)+(va:Int)+55),.int .i64 (co:Int),.int .i64 (ti:Int),.int .i64 (va:Int),.slice pt ti ct,.slice pv va cv] 62)=W1:=⟨_,rfl⟩
 have HW:Hid (W1.heap[q]?=some (.cells #[.int .i64 (kd:Int),.int .i64 ((m:Int)+1),.int .i64 (na:Int),.int .i64 fi,.int .i64 la,.int .u64 (le:Int),.int .u64 (gr:Int),.int .i64 ((ti:Int)+(va:Int)+55),.int .i64 (co:Int),.int .i64 (ti:Int),.int .i64 (va:Int),.slice pt ti ct,.slice pv va cv] 62 (0,0))∧Below w.heap.size w W1):=by rw [←hW1,←hq];exact ⟨heap_alloc_new _ _,(Below.refl _ _).alloc (Nat.le_refl _) _⟩
 have HUt:=qA (fun (w1:World) (hB:Below w.heap.size w w1)=>qE1 (.slice pt ti ct) tb (m+1) w1 (qD hT1 hB) (by rw [←htb];exact zU _) (by omega) hn)
 rw [show (((m+1:Nat)):Int)=(m:Int)+1 from by simp] at HUt
 have HPk:Hid (tP tb t (m+1)):=⟨ht,hG.up,htb⟩
 have HUv:=qA (fun (w1:World) (hB:Below w.heap.size w w1)=>pP kd co m na le gr ti va fi la ((ti:Int)+(va:Int)+55) v (.slice pv va cv) vb w1 (qD hV1 hB) hvb (by omega) hn hval (fun hk=>hG.nar (by rw [hk];rfl)) hf (hT.below hB))
 have HPo:=qA (fun (g:Nat) (w1:World) (hB:Below w.heap.size w w1) (hR:uB w1 (some ⟨g,0,none⟩) (m+1) t v)=>pY kd (some ⟨g,0,none⟩) m (m+1) t v w1 hR hG ht hf (hT.below hB))
 have HEQ:Hid (∀(co' T V gt c:Nat) (p:Option Addr) (vb':List Nat),T=(packed (tbn t (m+1))).length→V=vb'.length→yE kd (m+1) v co' vb'→ptA kd (m+1) (kO v (m+1)) (t 0) (t (m+1-1)) (leV v (m+1)) (grV v (m+1)) ((T:Int)+(V:Int)+55) co' T V (.slice (some ⟨gt,0,none⟩) T T) (.slice p V c)=ptA kd (m+1) na fi la le gr ((ti:Int)+(va:Int)+55) co ti va (.slice (some ⟨gt,0,none⟩) ti ti) (.slice p va c)):=fun co' T V gt c p vb' h1 h2 h3=>by
  obtain ⟨rfl,rfl⟩:=qAA kd (m+1) v co' co vb' vb h3 hval
  rw [Nat.add_sub_cancel,h1,h2,htb,←hti,←hva,hna,hfi,hla,hle,hgr]
 have hmk:=qB8 (m+1) hn
 rw [show (((m+1:Nat)):Int)=(m:Int)+1 from by simp] at hmk
 clear hG ht hf hval htb hti hva hna hfi hla hle hgr hT1 hV1 hvb hT hvl htl
 obtain ⟨o0,o1,o2,o3,o4,o5,o6,o7,o8,o9,o10,o11,o12⟩:=rowcells13 HW.out.1
 have HQ:=qA hq
 go_enter Tryz.func28,Tryz.ntmps28
 go_wp2_with fail
 (try rw [hW1])
 (try rw [hq])
 clear hW1 hq o0 o1 o2 o3 o4 o5 o6 o7 o8 o9 o10 o11 o12
 refine (HUt.out W1 HW.out.2).mono ?_
 intro e w2 hE
 rcases hE with ⟨rfl,B2,hno⟩|⟨g2,f2,rfl,hg2,hT2,B2,hP2,hf2⟩
 ·exact absurd ⟨t,HPk.out⟩ hno
 have HT2:Hid (qAI w2 (some ⟨g2,0,none⟩) (m+1) t):=fun h0=>by
  obtain ⟨b,o,hp,hc⟩:=hT2 h0
  exact ⟨b,o,hp,fun i hi=>by rw [hc i hi,hf2 t (wJ HPk.out) i hi]⟩
 have HW2:Hid (w2.heap[q]?=some (.cells #[.int .i64 (kd:Int),.int .i64 ((m:Int)+1),.int .i64 (na:Int),.int .i64 fi,.int .i64 la,.int .u64 (le:Int),.int .u64 (gr:Int),.int .i64 ((ti:Int)+(va:Int)+55),.int .i64 (co:Int),.int .i64 (ti:Int),.int .i64 (va:Int),.slice pt ti ct,.slice pv va cv] 62 (0,0))∧Below w.heap.size w w2):=⟨by rw [B2.block q (qB HW.out.1)];exact HW.out.1,HW.out.2.trans (B2.mono HW.out.2.size)⟩
 clear B2 hg2 hT2 hP2 hf2 HW HUt HPk
 obtain ⟨o0,o1,o2,o3,o4,o5,o6,o7,o8,o9,o10,o11,o12⟩:=rowcells13 HW2.out.1
 go_wp2_with fail
 refine (HUv.out w2 HW2.out.2).mono ?_
 rintro e w3 ⟨p3,c3,rfl,hc3,R3,B3⟩
 have HR3:=qA R3
 have HW3:Hid (w3.heap[q]?=some (.cells #[.int .i64 (kd:Int),.int .i64 ((m:Int)+1),.int .i64 (na:Int),.int .i64 fi,.int .i64 la,.int .u64 (le:Int),.int .u64 (gr:Int),.int .i64 ((ti:Int)+(va:Int)+55),.int .i64 (co:Int),.int .i64 (ti:Int),.int .i64 (va:Int),.slice pt ti ct,.slice pv va cv] 62 (0,0))∧Below w.heap.size w w3):=⟨by rw [B3.block q (qB HW2.out.1)];exact HW2.out.1,HW2.out.2.trans (B3.mono HW2.out.2.size)⟩
 have HT3:=qA (HT2.out.below B3)
 clear R3 B3 HUv HW2 HT2 o0 o1 o2 o3 o4 o5 o6 o7 o8 o9 o10 o11 o12
 have o1:w3.cell? ⟨q,1,none⟩=some (.int .i64 ((m:Int)+1)):=by rw [cell_of_row _ _ _ _ _ _ HW3.out.1];rfl
 obtain ⟨g,hg⟩:∃g,w3.heap.size=g:=⟨_,rfl⟩
 obtain ⟨W4,hW4⟩:∃W4,w3.alloc (.cells (ptN (m+1)) 47)=W4:=⟨_,rfl⟩
 have HA:Hid (PW W4 g (m+1) 0 t v∧Below g w3 W4):=by rw [←hW4,←hg];exact ⟨PW.new _ _ _ _,(Below.refl _ _).alloc (Nat.le_refl _) _⟩
 have HGG:=qA hg
 go_upto_region 8 with fail
 (try rw [hW4])
 (try rw [hg])
 clear hW4 hg hmk o1
 go_upto_block 0 with fail
 go_cut [7] from 8 (fun t7 wc=>t7= .slice (some ⟨g,0,none⟩) (m+1) (m+1)∧Hid (PW wc g (m+1) (m+1) t v∧Below g w3 wc))
 case first=>
  as_aux_lemma=>
   go_wp2_with fail
   go_loopw [39] (fun t39 wr=>∃k:Nat,t39= .int .i64 (k:Int)∧Hid (k≤m+1∧PW wr g (m+1) k t v∧Below g w3 wr)) (fun t39 _=>m+1-(intOf t39).toNat)
   case atStart=>exact ⟨0,rfl,Nat.zero_le _,HA.out⟩
   case round=>
    obtain ⟨k,rfl,hI⟩:=hrel
    by_cases hlt:k<m+1
    ·have hli:(k:Int)<(m:Int)+1:=by omega
     obtain ⟨b5,o5,hp5,hc5⟩:=HT3.out (by omega)
     obtain ⟨b6,o6,hp6,hc6⟩:=HR3.out (by omega)
     simp only [Option.some.injEq,Addr.mk.injEq,and_true] at hp5
     obtain ⟨rfl,rfl⟩:=hp5
     have c5:wr.cell? ⟨g2,k,none⟩=some (.int .i64 (t k)):=by
      have:=hc5 k hlt
      rw [Nat.zero_add] at this
      rw [hI.out.2.2.cell (p:=⟨g2,k,none⟩) (by rw [←HGG.out];exact block_lt_of_cell this)];exact this
     have c6:wr.cell? ⟨b6,o6+k,none⟩=some (.int .u64 (v k:Int)):=by
      rw [hI.out.2.2.cell (p:=⟨b6,o6+k,none⟩) (by rw [←HGG.out];exact block_lt_of_cell (hc6 k hlt))];exact hc6 k hlt
     have d1:wr.cell? ⟨g,k*2,none⟩=some (.int .i64 0):=by rw [hI.out.2.1.c1 k hlt,if_neg (by omega)]
     have d2:wr.cell? ⟨g,k*2+1,none⟩=some (.int .u64 0):=by rw [hI.out.2.1.c2 k hlt,if_neg (by omega)];rfl
     have d3:=hI.out.2.1.fz (k*2)
     have d4:=hI.out.2.1.fz (k*2+1)
     obtain ⟨x,hx⟩:∃x,t k=x:=⟨_,rfl⟩
     obtain ⟨y,hy⟩:∃y,v k=y:=⟨_,rfl⟩
     have HN:Hid (PW ((wr.setCell ⟨g,k*2,none⟩ (.int .i64 x)).setCell ⟨g,k*2+1,none⟩ (.int .u64 (y:Int))) g (m+1) (k+1) t v∧Below g w3 ((wr.setCell ⟨g,k*2,none⟩ (.int .i64 x)).setCell ⟨g,k*2+1,none⟩ (.int .u64 (y:Int)))):=by
      rw [←hx,←hy];exact ⟨hI.out.2.1.set hlt,qH (qH hI.out.2.2 _ _ _ (Nat.le_refl _)) _ _ _ (Nat.le_refl _)⟩
     obtain ⟨X,hX⟩:∃X,(wr.setCell ⟨g,k*2,none⟩ (.int .i64 x)).setCell ⟨g,k*2+1,none⟩ (.int .u64 (y:Int))=X:=⟨_,rfl⟩
     rw [hX] at HN
     rw [hx] at c5
     rw [hy] at c6
     have HP6:=qA hp6
     rw [hp6]
     clear hc5 hc6 hx hy hp6
     go_wp2_with fail
     go_region
     (try rw [hX])
     clear hX c5 c6 d1 d2 d3 d4
     go_wp2_with fail
     go_roundw
     case rel=>exact ⟨k+1,by simp,hlt,HN.out.1.drew,HN.out.2.drew⟩
     case measure=>simp [intOf];omega
    ·have hk:k=m+1:=by have:=hI.out.1;omega
     have hI':Hid (PW wr g (m+1) (m+1) t v∧Below g w3 wr):=by have:=hI.out.2;rw [hk] at this;exact this
     have hli:¬(k:Int)<(m:Int)+1:=by omega
     go_wp2_with fail
     go_meet
     case rel=>exact ⟨rfl,hI'.out⟩
 case rest=>
  obtain ⟨rfl,HC⟩:=hcut
  as_aux_lemma=>
   have HB4:Hid (Below w.heap.size w wc):=HW3.out.2.trans (HC.out.2.mono (by rw [←HGG.out];exact HW3.out.2.size))
   have HQ4:Hid (wc.heap[q]?=some (.cells #[.int .i64 (kd:Int),.int .i64 ((m:Int)+1),.int .i64 (na:Int),.int .i64 fi,.int .i64 la,.int .u64 (le:Int),.int .u64 (gr:Int),.int .i64 ((ti:Int)+(va:Int)+55),.int .i64 (co:Int),.int .i64 (ti:Int),.int .i64 (va:Int),.slice pt ti ct,.slice pv va cv] 62 (0,0))):=by show _=_;rw [HC.out.2.block q (by rw [←HGG.out];exact qB HW3.out.1)];exact HW3.out.1
   have o0:wc.cell? ⟨q,0,none⟩=some (.int .i64 (kd:Int)):=by rw [cell_of_row _ _ _ _ _ _ HQ4.out];rfl
   have HPR:=qA HC.out.1.row
   clear HC HW3 HT3 HR3 HA
   go_wp2_with fail
   refine (HPo.out g wc HB4.out HPR.out).mono ?_
   rintro e w5 ⟨co',T',V',gt,cx,px,vb',rfl,hT',-,hV',-,-,hval',B5⟩
   rw [HEQ.out co' T' V' gt cx px vb' hT' hV' hval']
   unfold ptA
   have HQ5:Hid (w5.heap[q]?=some (.cells #[.int .i64 (kd:Int),.int .i64 ((m:Int)+1),.int .i64 (na:Int),.int .i64 fi,.int .i64 la,.int .u64 (le:Int),.int .u64 (gr:Int),.int .i64 ((ti:Int)+(va:Int)+55),.int .i64 (co:Int),.int .i64 (ti:Int),.int .i64 (va:Int),.slice pt ti ct,.slice pv va cv] 62 (0,0))∧Below w.heap.size w w5∧uB w5 (some ⟨g,0,none⟩) (m+1) t v):=⟨by rw [B5.block q (qB HQ4.out)];exact HQ4.out,HB4.out.trans (B5.mono HB4.out.size),HPR.out.below B5⟩
   clear hT' hV' hval' B5 HQ4 HB4 HPR o0 HPo HEQ
   obtain ⟨r,hr⟩:∃r,w5.heap.size=r:=⟨_,rfl⟩
   obtain ⟨W6,hW6⟩:∃W6,w5.alloc (.cells #[.int .i64 (kd:Int),.int .i64 ((m:Int)+1),.int .i64 (na:Int),.int .i64 fi,.int .i64 la,.int .u64 (le:Int),.int .u64 (gr:Int),.int .i64 ((ti:Int)+(va:Int)+55),.int .i64 (co:Int),.int .i64 (ti:Int),.int .i64 (va:Int),.slice (some ⟨gt,0,none⟩) ti ti,.slice px va cx] 62)=W6:=⟨_,rfl⟩
   have HW6:Hid (W6.heap[r]?=some (.cells #[.int .i64 (kd:Int),.int .i64 ((m:Int)+1),.int .i64 (na:Int),.int .i64 fi,.int .i64 la,.int .u64 (le:Int),.int .u64 (gr:Int),.int .i64 ((ti:Int)+(va:Int)+55),.int .i64 (co:Int),.int .i64 (ti:Int),.int .i64 (va:Int),.slice (some ⟨gt,0,none⟩) ti ti,.slice px va cx] 62 (0,0))∧W6.heap[q]?=some (.cells #[.int .i64 (kd:Int),.int .i64 ((m:Int)+1),.int .i64 (na:Int),.int .i64 fi,.int .i64 la,.int .u64 (le:Int),.int .u64 (gr:Int),.int .i64 ((ti:Int)+(va:Int)+55),.int .i64 (co:Int),.int .i64 (ti:Int),.int .i64 (va:Int),.slice pt ti ct,.slice pv va cv] 62 (0,0))∧qIA (m+1) t v w (.returned (.tuple #[.slice (some ⟨g,0,none⟩) (m+1) (m+1),.int .i64 0])) W6):=by
    have hA:Below w5.heap.size w5 W6:=by rw [←hW6];exact (Below.refl _ _).alloc (Nat.le_refl _) _
    refine ⟨by rw [←hW6,←hr];exact heap_alloc_new _ _,by rw [hA.block q (qB HQ5.out.1)];exact HQ5.out.1,g,rfl,HQ5.out.2.2.below hA,HQ5.out.2.1.trans (hA.mono HQ5.out.2.1.size)⟩
   go_upto_region 14 with fail
   (try rw [hW6])
   (try rw [hr])
   clear hW6 hr HQ5
   obtain ⟨a0,a1,a2,a3,a4,a5,a6,a7,a8,a9,a10,-,-⟩:=rowcells13 HW6.out.1
   obtain ⟨o0,o1,o2,o3,o4,o5,o6,o7,o8,o9,o10,-,-⟩:=rowcells13 HW6.out.2.1
   have HFIN:=qA HW6.out.2.2
   clear HW6
   go_wp2_with fail
   go_ret2
   exact HFIN.out
end Go.Proofs.YtkpmalfigmimaaaGreatDoor
namespace Go.Proofs.YtkpmalfigmimaaaGreatDoor
open Go.RowKit
open M
theorem qCO (x:Int) (h:I64 x):IntKind.i64.wrap (u64 x:Int)=x:=by
 obtain ⟨h1,h2⟩:=h
 rw [IntKind.wrap_i64];unfold u64;omega
theorem qDV (t:Nat→Int) (m:Nat) (h:Rises t (m+1)):if m+1=1 then t m=t 0 else t 0<t m:=by
 have key:∀k,k≤m→(k=0∨t 0<t k):=by
  intro k
  induction k with
  |zero=>intro _;exact .inl rfl
  |succ k ih=>
   intro hk
   have:=h k (by omega)
   rcases ih (by omega) with rfl|h2
   ·exact .inr this
   ·exact .inr (by omega)
 split
 ·rename_i h1
  obtain rfl:m=0:=by omega
  rfl
 ·rcases key m (Nat.le_refl _) with h0|h0
  ·omega
  ·exact h0
theorem mQ (kd m:Nat) (t:Nat→Int) (v:Nat→Nat) (co:Nat) (vb:List Nat):(gZ kd (m+1) t v co vb).length=(packed (tbn t (m+1))).length+vb.length+55:=by
 unfold gZ qO
 simp only [List.length_append,lN]
 have:∀x,(qAD x).length=4:=fun x=>rfl
 rw [this,this];omega
theorem dI (kd:Nat) (m:Nat) (t:Nat→Int) (v:Nat→Nat) (co:Nat) (vb:List Nat) (b o n cap:Nat) (w:World) (hc:qS w b o (gZ kd (m+1) t v co vb)) (hn:51≤n) (hcap:n≤cap) (hn2:n≤1000000000000) (hG:qEE kd (m+1) t v) (ht:∀i,i<m+1→I64 (t i)) (hf:∀i,i<m+1→v i<18446744073709551616) (hval:yE kd (m+1) v co vb) (hC:nG w):
  Calls Tryz.prog 26 #[.slice (some ⟨b,o,none⟩) n cap] w (qEF (hdA kd (m+1) (kO v (m+1)) (t 0) (t m) (leV v (m+1)) (grV v (m+1)) (((packed (tbn t (m+1))).length:Int)+(vb.length:Int)+55) co (packed (tbn t (m+1))).length vb.length) 0 w):=by
 have hvl:=xS kd (m+1) v co vb hf hval
 have htl:=xR t (m+1)
 have hhi:=hG.hi
 have h1:qS w b o (qO (packed (hdB kd co (m+1) (kO v (m+1)) (u64 (t 0)) (u64 (t m)) (leV v (m+1)) (grV v (m+1)) (packed (tbn t (m+1))).length vb.length))):=by
  have:=qS.left hc
  unfold qDF at this
  rw [Nat.add_sub_cancel] at this
  exact this
 exact qB5 kd co (m+1) (kO v (m+1)) (u64 (t 0)) (u64 (t m)) (leV v (m+1)) (grV v (m+1)) (packed (tbn t (m+1))).length vb.length (t 0) (t m) b o n cap w h1 hn hcap hn2
  ⟨by rcases hG.kd with h|h<;>omega,hvl.2.1,hvl.2.2,hG.lo,hG.hi,uK v _,qDV t m hG.up⟩ (u64_lt _) (u64_lt _) (qIG _ _) (qIE _ _ hf) (by omega) (by omega) (qCO _ (ht 0 (by omega))) (qCO _ (ht m (by omega))) hC
def rE (kd m:Nat) (t:Nat→Int) (v:Nat→Nat) (N:Nat) (w:World) (e:Ending) (w':World):Prop:=e= .returned (.tuple #[.agg (bhA kd (m+1) (kO v (m+1)) (t 0) (t m) (leV v (m+1)) (grV v (m+1)) (N:Int)),.int .i64 0])∧Below w.heap.size w w'
theorem lO (kd:Nat) (m:Nat) (t:Nat→Int) (v:Nat→Nat) (co:Nat) (vb:List Nat) (b o n cap:Nat) (w:World) (hc:qS w b o (gZ kd (m+1) t v co vb)) (hn:51≤n) (hcap:n≤cap) (hn2:n≤1000000000000) (hG:qEE kd (m+1) t v) (ht:∀i,i<m+1→I64 (t i)) (hf:∀i,i<m+1→v i<18446744073709551616) (hval:yE kd (m+1) v co vb) (hC:nG w):
  Calls Tryz.prog 12 #[.slice (some ⟨b,o,none⟩) n cap] w (rE kd m t v (gZ kd (m+1) t v co vb).length w):=by
 have HH:=qA (fun (w1:World) (hB:Below w.heap.size w w1)=>dI kd m t v co vb b o n cap w1 (hc.below hB) hn hcap hn2 hG ht hf hval (hC.below hB))
 have HN:=qA (mQ kd m t v co vb)
 clear hc hn hcap hn2 hG ht hf hval hC
 unfold rE
 rw [HN.out]
 obtain ⟨fi,hfi⟩:∃x,t 0=x:=⟨_,rfl⟩
 obtain ⟨la,hla⟩:∃x,t m=x:=⟨_,rfl⟩
 obtain ⟨na,hna⟩:∃x,kO v (m+1)=x:=⟨_,rfl⟩
 obtain ⟨le,hle⟩:∃x,leV v (m+1)=x:=⟨_,rfl⟩
 obtain ⟨gr,hgr⟩:∃x,grV v (m+1)=x:=⟨_,rfl⟩
 rw [hfi,hla,hna,hle,hgr] at HH⊢
 obtain ⟨T,hT⟩:∃T,(packed (tbn t (m+1))).length=T:=⟨_,rfl⟩
 obtain ⟨V,hV⟩:∃V,vb.length=V:=⟨_,rfl⟩
 rw [hT,hV] at HH⊢
 clear hfi hla hna hle hgr hT hV HN
 unfold hdA at HH
 obtain ⟨g,hg⟩:∃g,w.heap.size=g:=⟨_,rfl⟩
 obtain ⟨W1,hW1⟩:∃W1,w.alloc (.cells #[.int .i64 0,.int .i64 0,.int .i64 0,.int .i64 0,.int .i64 0,.int .u64 0,.int .u64 0,.int .i64 0] 38)=W1:=⟨_,rfl⟩
 have HW1:Hid (W1.heap[g]?=some (.cells #[.int .i64 0,.int .i64 0,.int .i64 0,.int .i64 0,.int .i64 0,.int .u64 0,.int .u64 0,.int .i64 0] 38 (0,0))∧Below w.heap.size w W1):=by rw [←hW1,←hg];exact ⟨heap_alloc_new _ _,(Below.refl _ _).alloc (Nat.le_refl _) _⟩
 have HG:=qA hg
 go_enter Tryz.func12,Tryz.ntmps12
 go_wp2_with fail
 (try rw [hW1])
 (try rw [hg])
 clear hW1 hg
 refine (HH.out W1 HW1.out.2).mono ?_
 rintro e w2 ⟨rfl,B2⟩
 have HW2:Hid (w2.heap[g]?=some (.cells #[.int .i64 0,.int .i64 0,.int .i64 0,.int .i64 0,.int .i64 0,.int .u64 0,.int .u64 0,.int .i64 0] 38 (0,0))∧Below w.heap.size w w2):=⟨by rw [B2.block g (qB HW1.out.1)];exact HW1.out.1,HW1.out.2.trans (B2.mono HW1.out.2.size)⟩
 clear B2 HH HW1
 obtain ⟨r,hr⟩:∃r,w2.heap.size=r:=⟨_,rfl⟩
 obtain ⟨W3,hW3⟩:∃W3,w2.alloc (.cells #[.int .i64 (kd:Int),.int .i64 ((m:Int)+1),.int .i64 (na:Int),.int .i64 fi,.int .i64 la,.int .u64 (le:Int),.int .u64 (gr:Int),.int .i64 ((T:Int)+(V:Int)+55),.int .i64 (co:Int),.int .i64 (T:Int),.int .i64 (V:Int)] 60)=W3:=⟨_,rfl⟩
 have HW3:Hid (W3.heap[r]?=some (.cells #[.int .i64 (kd:Int),.int .i64 ((m:Int)+1),.int .i64 (na:Int),.int .i64 fi,.int .i64 la,.int .u64 (le:Int),.int .u64 (gr:Int),.int .i64 ((T:Int)+(V:Int)+55),.int .i64 (co:Int),.int .i64 (T:Int),.int .i64 (V:Int)] 60 (0,0))∧W3.heap[g]?=some (.cells #[.int .i64 0,.int .i64 0,.int .i64 0,.int .i64 0,.int .i64 0,.int .u64 0,.int .u64 0,.int .i64 0] 38 (0,0))∧Below w.heap.size w W3):=by
  have hA:Below w2.heap.size w2 W3:=by rw [←hW3];exact (Below.refl _ _).alloc (Nat.le_refl _) _
  exact ⟨by rw [←hW3,←hr];exact heap_alloc_new _ _,by rw [hA.block g (qB HW2.out.1)];exact HW2.out.1,HW2.out.2.trans (hA.mono HW2.out.2.size)⟩
 go_upto_region 2 with fail
 (try rw [hW3])
 (try rw [hr])
 clear hW3 hr HW2
 obtain ⟨o0,o1,o2,o3,o4,o5,o6,o7,-,-,-⟩:=rowcells11 HW3.out.1
 obtain ⟨z0,z1,z2,z3,z4,z5,z6,z7⟩:=rowcells8 HW3.out.2.1
 have y0:=froz HW3.out.2.1 0
 have y1:=froz HW3.out.2.1 1
 have y2:=froz HW3.out.2.1 2
 have y3:=froz HW3.out.2.1 3
 have y4:=froz HW3.out.2.1 4
 have y5:=froz HW3.out.2.1 5
 have y6:=froz HW3.out.2.1 6
 have y7:=froz HW3.out.2.1 7
 have HFR:Hid (((((((((W3.setCell ⟨g,0,none⟩ (.int .i64 (kd:Int))).setCell ⟨g,1,none⟩ (.int .i64 ((m:Int)+1))).setCell ⟨g,2,none⟩ (.int .i64 (na:Int))).setCell ⟨g,3,none⟩ (.int .i64 fi)).setCell ⟨g,4,none⟩ (.int .i64 la)).setCell ⟨g,5,none⟩ (.int .u64 (le:Int))).setCell ⟨g,6,none⟩ (.int .u64 (gr:Int))).setCell ⟨g,7,none⟩ (.int .i64 ((T:Int)+(V:Int)+55))).heap[g]?=some (.cells #[.int .i64 (kd:Int),.int .i64 ((m:Int)+1),.int .i64 (na:Int),.int .i64 fi,.int .i64 la,.int .u64 (le:Int),.int .u64 (gr:Int),.int .i64 ((T:Int)+(V:Int)+55)] 38 (0,0))∧Below w.heap.size w ((((((((W3.setCell ⟨g,0,none⟩ (.int .i64 (kd:Int))).setCell ⟨g,1,none⟩ (.int .i64 ((m:Int)+1))).setCell ⟨g,2,none⟩ (.int .i64 (na:Int))).setCell ⟨g,3,none⟩ (.int .i64 fi)).setCell ⟨g,4,none⟩ (.int .i64 la)).setCell ⟨g,5,none⟩ (.int .u64 (le:Int))).setCell ⟨g,6,none⟩ (.int .u64 (gr:Int))).setCell ⟨g,7,none⟩ (.int .i64 ((T:Int)+(V:Int)+55)))):=⟨qCJ _ _ _ _ _ _ _ _ _ _ _ _ _ _ _ _ _ _ _ HW3.out.2.1,dB HW3.out.2.2 _ _ _ _ _ _ _ _ _ (Nat.le_of_eq HG.out)⟩
 clear HW3
 go_wp2_with fail
 generalize ((((((((W3.setCell ⟨g,0,none⟩ (.int .i64 (kd:Int))).setCell ⟨g,1,none⟩ (.int .i64 ((m:Int)+1))).setCell ⟨g,2,none⟩ (.int .i64 (na:Int))).setCell ⟨g,3,none⟩ (.int .i64 fi)).setCell ⟨g,4,none⟩ (.int .i64 la)).setCell ⟨g,5,none⟩ (.int .u64 (le:Int))).setCell ⟨g,6,none⟩ (.int .u64 (gr:Int))).setCell ⟨g,7,none⟩ (.int .i64 ((T:Int)+(V:Int)+55)))=WF at*
 obtain ⟨u0,u1,u2,u3,u4,u5,u6,u7⟩:=rowcells8 HFR.out.1
 exact bodyPost_ret (v:= .tuple #[.agg (bhA kd (m+1) na fi la le gr (((T+V+55:Nat)):Int)),.int .i64 0]) (by simp [results,Tryz.results12,go_sem,bhA,u0,u1,u2,u3,u4,u5,u6,u7]) rfl ⟨rfl,HFR.out.2⟩
def rD (kd n:Nat) (t:Nat→Int) (v:Nat→Nat) (w:World) (e:Ending) (w':World):Prop:=∃g,e= .returned (.tuple #[.int .i64 (kd:Int),.slice (some ⟨g,0,none⟩) n n,.int .i64 0])∧uB w' (some ⟨g,0,none⟩) n t v∧Below w.heap.size w w'
theorem nY (kd:Nat) (m:Nat) (t:Nat→Int) (v:Nat→Nat) (co:Nat) (vb:List Nat) (b o n K:Nat) (w:World) (hc:qS w b o (gZ kd (m+1) t v co vb)) (hn:n=(gZ kd (m+1) t v co vb).length) (hcap:n≤K+51) (hK2:K≤9223372036854775756) (hG:qEE kd (m+1) t v) (ht:∀i,i<m+1→I64 (t i)) (hf:∀i,i<m+1→v i<18446744073709551616) (hval:yE kd (m+1) v co vb) (hvb:∀n∈vb,n<256) (hT:qT w) (hC:nG w):
  Calls Tryz.prog 10 #[.slice (some ⟨b,o,none⟩) n (K+51)] w (rD kd (m+1) t v w):=by
 have hvl:=xS kd (m+1) v co vb hf hval
 have htl:=xR t (m+1)
 have hhi:=hG.hi
 rw [mQ] at hn
 have HH:=qA (dI kd m t v co vb b o n (K+51) w hc (by omega) hcap (by omega) hG ht hf hval hC)
 have hrest:qS w b (o+51) (qO (packed (tbn t (m+1))++vb)):=by
  have:=qS.right hc
  have e:(qO (qDF kd (m+1) t v co (packed (tbn t (m+1))).length vb.length)).length=51:=by unfold qO;rw [List.length_append,lN];rfl
  rw [e] at this;exact this
 obtain ⟨tb,htb⟩:∃tb,packed (tbn t (m+1))=tb:=⟨_,rfl⟩
 have htb2:∀n∈tb,n<256:=by rw [←htb];exact zU _
 rw [htb] at hrest hn htl
 obtain ⟨fi,hfi⟩:∃x,t 0=x:=⟨_,rfl⟩
 obtain ⟨la,hla⟩:∃x,t m=x:=⟨_,rfl⟩
 obtain ⟨na,hna⟩:∃x,kO v (m+1)=x:=⟨_,rfl⟩
 obtain ⟨le,hle⟩:∃x,leV v (m+1)=x:=⟨_,rfl⟩
 obtain ⟨gr,hgr⟩:∃x,grV v (m+1)=x:=⟨_,rfl⟩
 obtain ⟨T,hTT⟩:∃T,tb.length=T:=⟨_,rfl⟩
 obtain ⟨V,hVV⟩:∃V,vb.length=V:=⟨_,rfl⟩
 rw [htb,hfi,hla,hna,hle,hgr,hTT,hVV] at HH
 rw [hTT,hVV] at hn
 subst hn
 have HA:=qA (fun (w1:World) (hB:Below w.heap.size w w1)=>cN kd co (m+1) na le gr T V fi la b o K tb vb w1 (hrest.below hB) hTT hVV htb2 hvb (by omega) (by omega) (by omega) hK2 (hC.below hB))
 have HP:=qA (fun (w1:World) (hB:Below w.heap.size w w1)=>qBG kd co m na le gr T V K (K-T) (some ⟨b,o+51,none⟩) (some ⟨b,o+51+T,none⟩) fi la t v tb vb w1 hG ht hf hval htb hTT.symm hVV.symm hna.symm hfi.symm hla.symm hle.symm hgr.symm
  (by have:=(qS.left (qS.left (hrest.below hB))).by_ K;rw [hTT] at this;exact this)
  (by have:=(qS.right (qS.left (hrest.below hB))).by_ (K-T);rw [hTT,hVV] at this;exact this) hvb (hT.below hB))
 clear hc hG ht hf hval hvb hT hC hvl htl hrest htb htb2 hfi hla hna hle hgr hTT hVV
 unfold hdA at HH
 unfold ptA at HA
 rw [show (((m+1:Nat)):Int)=(m:Int)+1 from by simp] at HH HA
 go_enter Tryz.func10,Tryz.ntmps10
 go_wp2_with fail
 refine HH.out.mono ?_
 rintro e w2 ⟨rfl,B2⟩
 obtain ⟨r,hr⟩:∃r,w2.heap.size=r:=⟨_,rfl⟩
 obtain ⟨W3,hW3⟩:∃W3,w2.alloc (.cells #[.int .i64 (kd:Int),.int .i64 ((m:Int)+1),.int .i64 (na:Int),.int .i64 fi,.int .i64 la,.int .u64 (le:Int),.int .u64 (gr:Int),.int .i64 ((T:Int)+(V:Int)+55),.int .i64 (co:Int),.int .i64 (T:Int),.int .i64 (V:Int)] 60)=W3:=⟨_,rfl⟩
 have HW3:Hid (W3.heap[r]?=some (.cells #[.int .i64 (kd:Int),.int .i64 ((m:Int)+1),.int .i64 (na:Int),.int .i64 fi,.int .i64 la,.int .u64 (le:Int),.int .u64 (gr:Int),.int .i64 ((T:Int)+(V:Int)+55),.int .i64 (co:Int),.int .i64 (T:Int),.int .i64 (V:Int)] 60 (0,0))∧Below w.heap.size w W3):=by
  have hA:Below w2.heap.size w2 W3:=by rw [←hW3];exact (Below.refl _ _).alloc (Nat.le_refl _) _
  exact ⟨by rw [←hW3,←hr];exact heap_alloc_new _ _,B2.trans (hA.mono B2.size)⟩
 clear B2 HH
 obtain ⟨o0,o1,o2,o3,o4,o5,o6,o7,o8,o9,o10⟩:=rowcells11 HW3.out.1
 go_wp2_with fail
 (try rw [hW3])
 (try rw [hr])
 clear hW3 hr
 refine (HA.out W3 HW3.out.2).mono ?_
 rintro e w4 ⟨rfl,B4⟩
 have HW4:Hid (w4.heap[r]?=some (.cells #[.int .i64 (kd:Int),.int .i64 ((m:Int)+1),.int .i64 (na:Int),.int .i64 fi,.int .i64 la,.int .u64 (le:Int),.int .u64 (gr:Int),.int .i64 ((T:Int)+(V:Int)+55),.int .i64 (co:Int),.int .i64 (T:Int),.int .i64 (V:Int)] 60 (0,0))∧Below w.heap.size w w4):=⟨by rw [B4.block r (qB HW3.out.1)];exact HW3.out.1,HW3.out.2.trans (B4.mono HW3.out.2.size)⟩
 clear B4 HW3 HA o0 o1 o2 o3 o4 o5 o6 o7 o8 o9 o10
 obtain ⟨q,hq⟩:∃q,w4.heap.size=q:=⟨_,rfl⟩
 obtain ⟨W5,hW5⟩:∃W5,w4.alloc (.cells #[.int .i64 (kd:Int),.int .i64 ((m:Int)+1),.int .i64 (na:Int),.int .i64 fi,.int .i64 la,.int .u64 (le:Int),.int .u64 (gr:Int),.int .i64 ((T:Int)+(V:Int)+55),.int .i64 (co:Int),.int .i64 (T:Int),.int .i64 (V:Int),.slice (some ⟨b,o+51,none⟩) T K,.slice (some ⟨b,o+51+T,none⟩) V (K-T)] 62)=W5:=⟨_,rfl⟩
 have HW5:Hid (W5.heap[q]?=some (.cells #[.int .i64 (kd:Int),.int .i64 ((m:Int)+1),.int .i64 (na:Int),.int .i64 fi,.int .i64 la,.int .u64 (le:Int),.int .u64 (gr:Int),.int .i64 ((T:Int)+(V:Int)+55),.int .i64 (co:Int),.int .i64 (T:Int),.int .i64 (V:Int),.slice (some ⟨b,o+51,none⟩) T K,.slice (some ⟨b,o+51+T,none⟩) V (K-T)] 62 (0,0))∧W5.heap[r]?=some (.cells #[.int .i64 (kd:Int),.int .i64 ((m:Int)+1),.int .i64 (na:Int),.int .i64 fi,.int .i64 la,.int .u64 (le:Int),.int .u64 (gr:Int),.int .i64 ((T:Int)+(V:Int)+55),.int .i64 (co:Int),.int .i64 (T:Int),.int .i64 (V:Int)] 60 (0,0))∧Below w.heap.size w W5):=by
  have hA:Below w4.heap.size w4 W5:=by rw [←hW5];exact (Below.refl _ _).alloc (Nat.le_refl _) _
  exact ⟨by rw [←hW5,←hq];exact heap_alloc_new _ _,by rw [hA.block r (qB HW4.out.1)];exact HW4.out.1,HW4.out.2.trans (hA.mono HW4.out.2.size)⟩
 obtain ⟨o0,o1,o2,o3,o4,o5,o6,o7,o8,o9,o10,o11,o12⟩:=rowcells13 HW5.out.1
 go_wp2_with fail
 (try rw [hW5])
 (try rw [hq])
 clear hW5 hq
 refine (HP.out W5 HW5.out.2.2).mono ?_
 rintro e w6 ⟨g,rfl,hrow,B6⟩
 have k0:w6.cell? ⟨r,0,none⟩=some (.int .i64 (kd:Int)):=by
  have k5:W5.cell? ⟨r,0,none⟩=some (.int .i64 (kd:Int)):=by rw [cell_of_row _ _ _ _ _ _ HW5.out.2.1];rfl
  rw [B6.cell (p:=⟨r,0,none⟩) (block_lt_of_cell k5)];exact k5
 have HF:Hid (rD kd (m+1) t v w (.returned (.tuple #[.int .i64 (kd:Int),.slice (some ⟨g,0,none⟩) (m+1) (m+1),.int .i64 0])) w6):=⟨g,rfl,hrow,HW5.out.2.2.trans (B6.mono HW5.out.2.2.size)⟩
 clear hrow B6 HW5 HW4 HP o0 o1 o2 o3 o4 o5 o6 o7 o8 o9 o10 o11 o12
 go_wp2_with fail
 go_ret3
 exact HF.out
end Go.Proofs.YtkpmalfigmimaaaGreatDoor
